import Derived.Test.YtcadlhpgapdgdaaGreatDoorJCnM9
import Derived.Deep.DeepCutAuto

/- The book: Take, Owned. -/
namespace Go.Proofs.YtcadlhpgapdgdaaGreatDoor
open Go.RowKit Go.Maps
set_option linter.unusedVariables false
set_option linter.unusedSimpArgs false
set_option maxHeartbeats 1000000 in
theorem marked_any (a : Option Addr) (n cap mk : Nat) (w : World) (hr : Rd w a n (mkn mk n)) (hn : n ≤ 4611686018427387904) (hm : mk ≤ 1000000000000) :
    Calls Tryz.prog 85 #[.slice a n cap, .int .i64 (mk : Int)] w fun e w' => e = .returned (.bool true) ∧ w = w' := by
  have HR := hide hr
  clear hr
  go_enter Tryz.func85, Tryz.ntmps85
  go_wp2
  go_loop [5] (fun i => ∃ k : Nat, k ≤ n ∧ i = .int .i64 k) (fun i => n - (intOf i).toNat)
  case atStart => exact ⟨0, Nat.zero_le _, rfl⟩
  case round =>
    obtain ⟨k, hk, rfl⟩ := hrel
    by_cases hkn : k < n
    · obtain ⟨b, off, rfl, hlt, hc0⟩ := HR.out.2.2 (by omega)
      have hc := hc0 k hkn
      rw [List.getD_eq_getElem?_getD, mkn_at _ _ _ hkn, Option.getD_some] at hc
      have hX : ((mk : Int) + (k : Int) / 251) % 256 = ((mkv mk k : Nat) : Int) := by unfold mkv; omega
      have hx2 := mkv_lt mk k
      generalize mkv mk k = X at *
      clear hc0
      go_wp2
      go_round
      case rel => exact ⟨k + 1, by omega, by go_num⟩
      case measure => simp [intOf]; omega
    · go_wp2
      go_ret
      exact ⟨rfl, rfl⟩
def Bok (w : World) (pb : Nat) (bv : Value) : Prop := w.heap[pb]? = some (.cells #[bv] 89 (0, 0))
set_option maxRecDepth 100000 in
set_option maxHeartbeats 1000000 in
theorem take_way (pb B : Nat) (bv : Value) (R : List Rc) (l : List Nat) (x : Option Addr) (m c : Nat) (w : World) (hbk : Bok w pb bv) (hrow : Wy BK w B bv R) (hpb : B ≤ pb) (hB : B ≤ w.heap.size) (hn : R.length ≤ 1000000000000) :
    Calls Tryz.prog 42 #[.pointer (some ⟨pb, 0, none⟩), .slice x m c] w fun e w' => e = .returned (.tuple #[]) ∧ ∃ bv', Bok w' pb bv' ∧ Wy BK w' B bv' (R ++ [(l, .slice x m c)]) ∧ Below B w w' ∧ (∀ (g : Nat) (cs : Array Value), w.heap[g]? = some (Obj.cells cs 5 (0, 0)) → w'.heap[g]? = w.heap[g]?) := by
  obtain ⟨ba, bc, rfl⟩ := hrow.shape
  have c0 := cellOf hbk 0 (.slice ba R.length bc) rfl
  have hplt : pb < w.heap.size := (Array.getElem?_eq_some_iff.1 hbk).1
  have HBK := hide hbk
  have HR := hide hrow
  have hf0 := frozen_of hbk 0
  have HWA : Hid (Wy BK (w.alloc (.cells #[.slice x m c] 23)) B (.slice ba R.length bc) R) := hrow.at fun k e => Below.heap_alloc _ _ _ (hrow.lt e).2
  clear hbk hrow
  go_enter Tryz.func42, Tryz.ntmps42
  go_wp2_with (at_builtin; go_loud (refine wpList_append_way bkOk _ rfl (.tmp 8) (.tmp 10) rfl B (.slice ba R.length bc) R (l, .slice x m c) rfl HWA.out w.heap.size 1 rfl (heap_new _ _) (by simp; omega) (by show (R.length + 1) * 24 ≤ _; omega) ?_); intro v' w7 hw7 hg7 hs7; obtain ⟨va7, vc7, rfl⟩ := hw7.shape; have hbk7 : Bok w7 pb (.slice ba R.length bc) := (hg7.block pb (by simp; omega) (fun e => by
        obtain ⟨cur, hc⟩ := HWA.out.typ e.symm
        have h2 := heap_past HBK.out (.cells #[.slice x m c] 23)
        rw [h2] at hc
        simp [BK] at hc)).trans (heap_past HBK.out _); have hf7 := frozen_of hbk7 0; have c7 := cellOf hbk7 0 (.slice ba R.length bc) rfl; have HW7 := hide hw7; have HG7 := hide hg7; have HB7 := hide hbk7; clear hw7 hg7 hs7 hbk7)
  go_end0
  have hw7' : Wy BK w7 B (Value.slice va7 (R.length + 1) vc7) (R ++ [(l, .slice x m c)]) := by have := HW7.out; simpa using this
  have hne : ∀ g, (Value.slice va7 (R.length + 1) vc7).ownBlock = some g → pb ≠ g := fun g e e2 => by
    subst e2
    obtain ⟨cur, hc⟩ := hw7'.typ e
    rw [HB7.out] at hc
    simp [BK] at hc
  refine ⟨rfl, Value.slice va7 (R.length + 1) vc7, ?_, hw7'.at fun g e => blk_set_other _ _ _ _ (fun e2 => hne g e e2.symm), ?_, fun g cs hg => ?_⟩
  · show (w7.setCell ⟨pb, 0, none⟩ _).heap[pb]? = _
    rw [blk_set HB7.out]
    rfl
  · refine Below.setCell ?_ hpb _
    exact ((Below.refl B w).alloc hB _).grown HG7.out (by simp; omega) (fun k e => (HWA.out.lt e).1)
  · have hgl := (Array.getElem?_eq_some_iff.1 hg).1
    refine (blk_set_other _ _ _ _ (fun e2 => ?_)).trans ((HG7.out.block g (by simp; omega) (fun e => ?_)).trans (Below.heap_alloc _ _ _ hgl))
    · have e3 : g = pb := e2
      subst e3
      have h9 : w.heap[g]? = some (.cells #[.slice ba R.length bc] 89 (0, 0)) := HBK.out
      rw [h9] at hg
      simp at hg
    · obtain ⟨cur, hc⟩ := HR.out.typ e.symm
      rw [hg] at hc
      simp [BK] at hc
end Go.Proofs.YtcadlhpgapdgdaaGreatDoor


/- The book: Owned. -/
namespace Go.Proofs.YtcadlhpgapdgdaaGreatDoor
open Go.RowKit Go.Maps
set_option linter.unusedVariables false
set_option linter.unusedSimpArgs false
/-- how many lists were kept ahead of the k-th append -/
def cn (k : Nat) : Nat := if k ≤ 3 then k else if k ≤ 8 then 3 else if k ≤ 19 then 4 else 5
theorem cn_yes {q : Nat} (h : q < 3 ∨ q = 8 ∨ q = 19) : cn (q + 1) = cn q + 1 ∧ cn q ≤ 4 := by
  unfold cn
  rcases h with h | rfl | rfl
  · rw [if_pos (by omega), if_pos (by omega)]; omega
  · decide
  · decide
theorem cn_no {q : Nat} (h1 : ¬ q < 3) (h2 : q ≠ 8) (h3 : q ≠ 19) (h4 : q < 20) : cn (q + 1) = cn q := by
  unfold cn
  rw [if_neg (by omega)]
  by_cases h5 : q ≤ 3
  · rw [if_pos h5, if_pos (by omega)]; omega
  · rw [if_neg h5]
    by_cases h6 : q ≤ 8
    · rw [if_pos (by omega), if_pos h6]
    · rw [if_neg (by omega), if_neg h6, if_pos (by omega), if_pos (by omega)]
theorem cn_le {q : Nat} : cn q ≤ 5 := by
  unfold cn
  split
  · omega
  · split
    · omega
    · split <;> omega
def gi (e : En2) : Rc := ([], e.1)
theorem bk_enc1 (l : List Nat) (x : Option Addr) (n c : Nat) : BK.enc (l, .slice x n c) = [.slice x n c] := rfl
theorem kp_u8 {S : Nat → Prop} {w w' : World} {pb : Nat} {bv : Value} (hb : Bok w pb bv) (hS : ∀ k, S k → ∃ cur, w.heap[k]? = some (Obj.cells cur 5 (0, 0))) : ¬ S pb := fun h => by
  obtain ⟨cur, hc⟩ := hS pb h
  have h2 : w.heap[pb]? = some (.cells #[bv] 89 (0, 0)) := hb
  rw [h2] at hc
  simp at hc
/-- what the book's lists are -/
structure BkL (w : World) (pb B : Nat) (bv : Value) (N : Nat) (v : Nat → Value) (m : Nat → Nat) : Prop where
  bok : Bok w pb bv
  row : ∃ ba bc, bv = .slice ba N bc ∧ (0 < N → ∃ g off, ba = some ⟨g, off, none⟩ ∧ g < w.heap.size ∧ ¬ InV N v g ∧ ∀ j, j < N → w.cell? ⟨g, off + j, none⟩ = some (v j))
  npb : ¬ InV N v pb
  dst : Dst N v
  all : ∀ i, i < N → ∃ l : List Nat, l.length = m i ∧ Wy UK w 0 (v i) l
  len : N ≤ 1000000000
  sml : ∀ i, i < N → m i ≤ 1000000000
/-- a row stays while another one, of other elements, grows -/
theorem Wy.otherT {A : Type} {K : WK A} {w w' : World} {B : Nat} {v : Value} {W : List A} {row : Option Nat} {t : TypeId} (h : Wy K w B v W) (hg : w.grownBy w' row) (hr : ∀ k, row = some k → ∃ cur, w.heap[k]? = some (Obj.cells cur t (0, 0))) (hne : K.t ≠ t) : Wy K w' B v W :=
  h.at fun k e => hg.block k (h.lt e).2 fun e2 => by
    obtain ⟨cur, h1⟩ := h.typ e
    obtain ⟨cur2, h2⟩ := hr k e2.symm
    rw [h1] at h2
    simp only [Option.some.injEq, Obj.cells.injEq] at h2
    exact hne h2.2.1
/-- one more mark behind the list that is grown -/
theorem book_more {w w4 w5 : World} {N L b X : Nat} {v : Nat → Value} {m : Nat → Nat} {E : List En2} {lv v5 gv : Value} (hX : mkv b L = X) (hI : BI w.heap.size w4 N v m E lv L b) (hG : Wy BK w4 w.heap.size gv (E.map gi)) (hK : Kp (InV N v) w w4)
    (hw : Wy UK w5 0 v5 (mkn b L ++ [X])) (hg : (w4.alloc (.cells #[.int .u8 (X : Int)] 5)).grownBy w5 lv.ownBlock) (hs : (∃ g off cap, lv = .slice (some ⟨g, off, none⟩) (mkn b L).length cap ∧ v5 = .slice (some ⟨g, off, none⟩) ((mkn b L).length + 1) cap) ∨ ((∀ k, v5.ownBlock = some k → (w4.alloc (.cells #[.int .u8 (X : Int)] 5)).heap.size ≤ k) ∧ (w4.alloc (.cells #[.int .u8 (X : Int)] 5)).grownBy w5 none)) :
    BI w.heap.size w5 N v m E v5 (L + 1) b ∧ Wy BK w5 w.heap.size gv (E.map gi) ∧ Kp (InV N v) w w5 := by
  have hba : Below w4.heap.size w4 (w4.alloc (.cells #[.int .u8 (X : Int)] 5)) := bel1 (Below.refl _ _) (Nat.le_refl _) _
  have hI4 := hI.below hba
  rw [mkn_len] at hs
  rw [← hX, mkn_snoc] at hw
  refine ⟨hI4.step (by have := hK.size; simp; omega) hw hg hs, ?_, ?_⟩
  · refine (hG.at fun k e => hba.block k (hG.lt e).2).otherT hg (t := 5) (fun k e => hI4.l.typ e) (by decide)
  · exact (hK.below hba).grown hg (fun k e => hI4.own k e)
/-- the list is kept -/
theorem book_kept {w w5 w6 : World} {N L b : Nat} {v : Nat → Value} {m : Nat → Nat} {E : List En2} {lv gv gv6 : Value} {o : Obj} (hq : E.length / 5 = b) (hI : BI w.heap.size w5 N v m E lv L b) (hG : Wy BK w5 w.heap.size gv (E.map gi)) (hK : Kp (InV N v) w w5)
    (hw : Wy BK w6 w.heap.size gv6 (E.map gi ++ [gi (lv, L)])) (hg : (w5.alloc o).grownBy w6 gv.ownBlock) :
    BI w.heap.size w6 N v m (E ++ [(lv, L)]) lv L b ∧ Wy BK w6 w.heap.size gv6 ((E ++ [(lv, L)]).map gi) ∧ Kp (InV N v) w w6 := by
  have hba : Below w5.heap.size w5 (w5.alloc o) := bel1 (Below.refl _ _) (Nat.le_refl _) _
  refine ⟨((hI.below hba).keep fun g cs hc => hg.block g (Array.getElem?_eq_some_iff.1 hc).1 (fun e => ?_)).push hq, by simpa using hw, (hK.below hba).grown hg (fun k e => .inr (hG.lt e).1)⟩
  obtain ⟨cur, h1⟩ := hG.typ e.symm
  have h2 := (hba.block g (hG.lt e.symm).2).trans h1
  rw [h2] at hc
  simp [BK] at hc
set_option maxRecDepth 100000 in
set_option maxHeartbeats 8000000 in
theorem owned_way (pb B : Nat) (bv : Value) (N : Nat) (v : Nat → Value) (m : Nat → Nat) (w : World) (h : BkL w pb B bv N v m) :
    Calls Tryz.prog 43 #[.pointer (some ⟨pb, 0, none⟩)] w fun e w' => e = .returned (.bool true) ∧ Kp (InV N v) w w' := by
  obtain ⟨ba, bc, rfl, hrow⟩ := h.row
  have hpl : pb < w.heap.size := (Array.getElem?_eq_some_iff.1 h.bok).1
  have HC : Hid (∀ w', Kp (InV N v) w w' → w'.cell? ⟨pb, 0, none⟩ = some (.slice ba N bc)) := fun w' hk => (hk.cell hpl h.npb).trans (cellOf h.bok 0 _ rfl)
  have HR : Hid (0 < N → ∃ g off, ba = some ⟨g, off, none⟩ ∧ ∀ w', Kp (InV N v) w w' → ∀ j, j < N → w'.cell? ⟨g, off + j, none⟩ = some (v j)) := fun h0 => by
    obtain ⟨g, off, e, h1, h2, h3⟩ := hrow h0
    exact ⟨g, off, e, fun w' hk j hj => (hk.cell h1 h2).trans (h3 j hj)⟩
  have HF0 : Hid (BF w N v m 0 0) := fun j hj => by
    obtain ⟨l, h1, h2⟩ := h.all j hj
    exact ⟨l, h1, h2, fun k hk hor => by omega⟩
  have HH := hide h
  have hNl := h.len
  clear hrow h hpl
  go_enter Tryz.func43, Tryz.ntmps43
  go_wp2
  go_loopw [3] (fun i w1 => ∃ a : Nat, a ≤ N ∧ i = .int .i64 (a : Int) ∧ Hid (BF w1 N v m a 0) ∧ Hid (Kp (InV N v) w w1)) (fun i _ => N - (intOf i).toNat)
  case atStart => exact ⟨0, Nat.zero_le _, rfl, HF0, hide (Kp.refl _ _)⟩
  case round =>
    rename World => w1
    obtain ⟨a, ha, rfl, HF1, HK1⟩ := hrel
    have c0 := HC.out w1 HK1.out
    by_cases haN : a < N
    · obtain ⟨g, off, rfl, hrc⟩ := HR.out (by omega)
      have c1 := hrc w1 HK1.out a haN
      obtain ⟨l, hl1, hl2, _⟩ := HF1.out a haN
      obtain ⟨xa, ca, hva⟩ := hl2.shape
      rw [hl1] at hva
      have hma := HH.out.sml a haN
      obtain ⟨M, hM⟩ : ∃ M, m a = M := ⟨_, rfl⟩
      have HM := hide hM
      have HVA := hide hva
      rw [hva] at c1
      rw [hM] at c1 hma
      have hai : (a : Int) < (N : Int) := by omega
      clear hl1 hl2 hrc hva hM
      go_wp2
      go_loopw [5] (fun k w2 => ∃ q : Nat, q ≤ M ∧ k = .int .i64 (q : Int) ∧ Hid (BF w2 N v m a q) ∧ Hid (Kp (InV N v) w w2)) (fun k _ => M - (intOf k).toNat)
      case atStart => exact ⟨0, Nat.zero_le _, rfl, HF1, HK1⟩
      case round =>
        rename World => w2
        obtain ⟨q, hq, rfl, HF2, HK2⟩ := hrel
        by_cases hqm : q < M
        · have HQ : Hid (q < m a) := by show _ < _; rw [HM.out]; exact hqm
          obtain ⟨g2, off2, c2, x2, e2, hcl, hfz⟩ := HF2.out.cell haN HQ.out
          have e3 := HVA.out.symm.trans e2
          simp only [Value.slice.injEq, true_and] at e3
          obtain ⟨rfl, rfl⟩ := e3
          have hf2 := hfz (off2 + q)
          have hX : ((a : Int) + (q : Int) / 251) % 256 = ((mkv a q : Nat) : Int) := by unfold mkv; omega
          have HSET := hide (HF2.out.set HH.out.dst haN HQ.out e2)
          have HKS : Hid (Kp (InV N v) w (w2.setCell ⟨g2, off2 + q, none⟩ (bV (mkv a q)))) := HK2.out.setCell ⟨a, haN, by rw [e2]; rfl⟩ _
          unfold bV at HSET HKS
          have hqi : (q : Int) < (M : Int) := by omega
          clear e2 hfz
          generalize mkv a q = X at *
          go_wp2
          go_roundw
          case rel => exact ⟨q + 1, by omega, by go_num, HSET, HKS⟩
          case measure => simp [intOf]; omega
        · have HQ : Hid (BF w2 N v m a (m a)) := by
            have := HF2.out
            rwa [show q = m a by rw [HM.out]; omega] at this
          go_wp2
          go_roundw
          case rel => exact ⟨a + 1, by omega, by go_num, hide HQ.out.next, HK2⟩
          case measure => simp [intOf]; omega
    · have hN : N = a := by omega
      subst hN
      have HBT : Hid (BT w1 N v m [] 0) := BT.begin HH.out.dst HF1.out.all
      clear HF1
      go_wp2_with fail
      go_loopw [6, 7] (fun gv i w3 => ∃ b : Nat, ∃ E : List En2, b ≤ N ∧ i = .int .i64 (b : Int) ∧ Hid (E.length = 5 * b ∧ ∀ e ∈ E, e.2 ≤ 2000000000) ∧ Hid (Wy BK w3 w.heap.size gv (E.map gi)) ∧ Hid (BT w3 N v m E b) ∧ Hid (Kp (InV N v) w w3)) (fun _ i _ => N - (intOf i).toNat)
      case atStart => exact ⟨0, [], Nat.zero_le _, rfl, ⟨rfl, by simp⟩, .inl ⟨rfl, rfl⟩, HBT, HK1⟩
      case round =>
        rename World => w3
        obtain ⟨b, E, hb, rfl, HEL, HG3, HT3, HK3⟩ := hrel
        have c3 := HC.out w3 HK3.out
        by_cases hbN : b < N
        · obtain ⟨g, off, rfl, hrc⟩ := HR.out (by omega)
          have c4 := hrc w3 HK3.out b hbN
          have hI := HT3.out.enter (B0 := w.heap.size) HH.out.dst hbN
          obtain ⟨xa, ca, hva⟩ := hI.l.shape
          rw [mkn_len] at hva
          have hma := HH.out.sml b hbN
          obtain ⟨M, hM⟩ : ∃ M, m b = M := ⟨_, rfl⟩
          rw [hva] at c4 hI
          rw [hM] at c4 hma hI
          have HI3 := hide hI
          have hbi : (b : Int) < (N : Int) := by omega
          clear hI hva hM hrc
          go_wp2
          go_loopw [6, 8, 9] (fun gv lv k w4 => ∃ q L : Nat, ∃ E : List En2, q ≤ 20 ∧ k = .int .i64 (q : Int) ∧ Hid (L = M + q) ∧ Hid (E.length = 5 * b + cn q ∧ ∀ e ∈ E, e.2 ≤ 2000000000) ∧ Hid (Wy BK w4 w.heap.size gv (E.map gi)) ∧ Hid (BI w.heap.size w4 N v m E lv L b) ∧ Hid (Kp (InV N v) w w4)) (fun _ _ k _ => 20 - (intOf k).toNat)
          case atStart => exact ⟨0, M, E, Nat.zero_le _, rfl, rfl, HEL, HG3, HI3, HK3⟩
          case round =>
            rename World => w4
            obtain ⟨q, L, E4, hq, rfl, HL, HE4, HG4, HI4, HK4⟩ := hrel
            by_cases hq20 : q < 20
            · obtain ⟨la, lc, hlv⟩ := HI4.out.l.shape
              rw [mkn_len] at hlv
              subst hlv
              obtain ⟨ga, gc, hgv⟩ := HG4.out.shape
              rw [List.length_map] at hgv
              subst hgv
              obtain ⟨X, hX⟩ : ∃ X, mkv b L = X := ⟨_, rfl⟩
              have hXi : ((b : Int) + (L : Int) / 251) % 256 = (X : Int) := by rw [← hX]; unfold mkv; omega
              have HX := hide hX
              have hLb : L ≤ 1000000020 := by have := HL.out; omega
              have hba : Below w4.heap.size w4 (w4.alloc (.cells #[.int .u8 (X : Int)] 5)) := bel1 (Below.refl _ _) (Nat.le_refl _) _
              have HWA := hide (HI4.out.below hba).l
              have hqi : (q : Int) < 20 := by omega
              have HEB : Hid (E4.length ≤ 5000000005) := by show _ ≤ _; have := HE4.out.1; have := @cn_le q; omega
              clear hX hba
              have hcs : (q < 3 ∨ (¬ q < 3 ∧ q = 8) ∨ (¬ q < 3 ∧ q ≠ 8 ∧ q = 19)) ∨ (¬ q < 3 ∧ q ≠ 8 ∧ q ≠ 19) := by omega
              rcases hcs with hcs | hcs
              · have HCN := hide (cn_yes (show q < 3 ∨ q = 8 ∨ q = 19 by omega))
                have hcs : ((q : Int) < 3) ∨ (¬ (q : Int) < 3 ∧ ((q : Int) == 8) = true) ∨ (¬ (q : Int) < 3 ∧ ((q : Int) == 8) = false ∧ ((q : Int) == 19) = true) := by
                  rcases hcs with h | ⟨h, h2⟩ | ⟨h, h2, h3⟩
                  · exact .inl (by omega)
                  · exact .inr (.inl ⟨by omega, by rw [h2]; rfl⟩)
                  · exact .inr (.inr ⟨by omega, beq_eq_false_iff_ne.2 (by omega), by rw [h3]; rfl⟩)
                rcases hcs with d1 | ⟨d1, d2⟩ | ⟨d1, d2, d3⟩
                all_goals
                  go_wp2_with (first | (at_builtin; go_loud (refine wpList_append_way ukOk _ rfl (.tmp 64) (.tmp 71) rfl 0 (.slice la L lc) (mkn b L) X rfl HWA.out w4.heap.size 1 rfl (heap_new _ _) (Nat.zero_le _) (by rw [mkn_len]; show (L + 1) * 1 ≤ _; omega) ?_); intro v5 w5 hw5 hg5 hs5; obtain ⟨hi5, hgr5, hk5⟩ := book_more HX.out HI4.out HG4.out HK4.out hw5 hg5 hs5; obtain ⟨la5, lc5, hv5⟩ := hi5.l.shape; rw [mkn_len] at hv5; subst hv5; have HI5 := hide hi5; have HG5 := hide hgr5; have HK5 := hide hk5; have HWG : Hid (Wy BK (w5.alloc (.cells #[.slice la5 (L + 1) lc5] 23)) w.heap.size (.slice ga E4.length gc) (E4.map gi)) := hgr5.at fun k e => Below.heap_alloc _ _ _ (hgr5.lt e).2; have HZ5 : Hid (w.heap.size ≤ w5.heap.size) := hk5.size; clear hi5 hgr5 hk5 hw5 hg5 hs5) | (at_builtin; go_loud (refine wpList_append_way bkOk _ rfl (.tmp 83) (.tmp 85) rfl w.heap.size (.slice ga E4.length gc) (E4.map gi) (gi (.slice la5 (L + 1) lc5, L + 1)) rfl HWG.out w5.heap.size 1 rfl (heap_new _ _) (by simp; exact Nat.le_trans HZ5.out (Nat.le_succ _)) (by rw [List.length_map]; show (E4.length + 1) * 24 ≤ _; have := HEB.out; omega) ?_); intro gv6 w6 hw6 hg6 hs6; have H6 := hide (book_kept (show E4.length / 5 = b by have := HE4.out.1; have := HCN.out.2; omega) HI5.out HG5.out HK5.out hw6 hg6); clear hw6 hg6 hs6))
                  refine ⟨⟨q + 1, L + 1, (E4 ++ [((Value.slice la5 (L + 1) lc5, L + 1) : En2)] : List En2), by omega, by go_num, by have := HL.out; show _ = _; omega, ⟨by rw [List.length_append, List.length_singleton, HE4.out.1, HCN.out.1]; omega, fun e he => ?_⟩, hide H6.out.2.1, hide H6.out.1, hide H6.out.2.2⟩, by simp [intOf]; omega⟩
                  rcases List.mem_append.1 he with he | he
                  · exact HE4.out.2 e he
                  · rw [List.mem_singleton.1 he]; show L + 1 ≤ _; omega
              · obtain ⟨h1, h2, h3⟩ := hcs
                have d1 : ¬ (q : Int) < 3 := by omega
                have d2 : ((q : Int) == 8) = false := beq_eq_false_iff_ne.2 (by omega)
                have d3 : ((q : Int) == 19) = false := beq_eq_false_iff_ne.2 (by omega)
                have HCN := hide (cn_no h1 h2 h3 hq20)
                clear h1 h2 h3
                go_wp2_with (at_builtin; go_loud (refine wpList_append_way ukOk _ rfl (.tmp 64) (.tmp 71) rfl 0 (.slice la L lc) (mkn b L) X rfl HWA.out w4.heap.size 1 rfl (heap_new _ _) (Nat.zero_le _) (by rw [mkn_len]; show (L + 1) * 1 ≤ _; omega) ?_); intro v5 w5 hw5 hg5 hs5; obtain ⟨hi5, hgr5, hk5⟩ := book_more HX.out HI4.out HG4.out HK4.out hw5 hg5 hs5; obtain ⟨la5, lc5, hv5⟩ := hi5.l.shape; rw [mkn_len] at hv5; subst hv5; have HI5 := hide hi5; have HG5 := hide hgr5; have HK5 := hide hk5; clear hi5 hgr5 hk5 hw5 hg5 hs5)
                exact ⟨⟨q + 1, L + 1, E4, by omega, by go_num, by have := HL.out; show _ = _; omega, ⟨by rw [HE4.out.1, HCN.out], HE4.out.2⟩, HG5, HI5, HK5⟩, by simp [intOf]; omega⟩
            · have hq' : q = 20 := by omega
              subst hq'
              go_wp2
              exact ⟨⟨b + 1, E4, by omega, by go_num, ⟨by rw [HE4.out.1]; show 5 * b + 5 = _; omega, HE4.out.2⟩, HG4, HI4.out.leave, HK4⟩, by simp [intOf]; omega⟩
        · have hbN' : N = b := by omega
          subst hbN'
          have HEL5 : Hid (E.length = 5 * N) := HEL.out.1
          have hel : E.length ≤ 5000000000 := by rw [HEL5.out]; omega
          obtain ⟨ga, gc, hgv⟩ := HG3.out.shape
          rw [List.length_map] at hgv
          subst hgv
          have HGR : Hid (0 < E.length → ∃ g off, ga = some ⟨g, off, none⟩ ∧ ∀ j (hj : j < E.length), w3.cell? ⟨g, off + j, none⟩ = some E[j].1) := fun h0 => by
            obtain ⟨a', c', e', _, hr⟩ := HG3.out.row1 (·.2) (fun o ho => by
              obtain ⟨e, he, rfl⟩ := List.mem_map.1 ho
              obtain ⟨q, hq, rfl⟩ := List.getElem_of_mem he
              obtain ⟨x, c, e2, _⟩ := HT3.out.e q hq
              show [if E[q].1.oneCell' then E[q].1 else _] = [E[q].1]
              rw [e2]
              rfl)
            simp only [Value.slice.injEq, List.length_map, true_and] at e'
            obtain ⟨rfl, rfl⟩ := e'
            obtain ⟨g, off, e3, _, h3⟩ := hr (by rw [List.length_map]; exact h0)
            refine ⟨g, off, e3, fun j hj => ?_⟩
            have := h3 j (by rw [List.length_map]; exact hj)
            rw [List.getElem_map] at this
            exact this
          clear HG3
          go_wp2_with fail
          go_loopw [10] (fun i w5 => (∃ j : Nat, j ≤ N ∧ i = .int .i64 (j : Int)) ∧ w5 = w3) (fun i _ => N - (intOf i).toNat)
          case atStart => exact ⟨⟨0, Nat.zero_le _, rfl⟩, rfl⟩
          case round =>
            obtain ⟨⟨j, hj, rfl⟩, hw5⟩ := hrel
            obtain rfl := hw5.symm
            by_cases hjN : j < N
            · obtain ⟨g, off, rfl, hrc⟩ := HR.out (by omega)
              have c4 := hrc _ HK3.out j hjN
              obtain ⟨xj, cj, hvj, hrd⟩ := (HT3.out.o j hjN).rd
              have HMK := hide (marked_any xj (m j) cj j _ hrd (by have := HH.out.sml j hjN; omega) (by omega))
              rw [hvj] at c4
              generalize m j = M at *
              have hji : (j : Int) < (N : Int) := by omega
              clear hrc hvj hrd
              go_wp2_with (go_at_call 85; refine HMK.out.mono ?_; rintro e w6 ⟨rfl, hw6⟩; obtain rfl := hw6)
              go_roundw
              case rel => exact ⟨⟨j + 1, by omega, by go_num⟩, by first | trivial | rfl⟩
              case measure => simp [intOf]; omega
            · have hjN' : N = j := by omega
              subst hjN'
              go_wp2_with fail
              go_loopw [12] (fun i w7 => (∃ j : Nat, j ≤ E.length ∧ i = .int .i64 (j : Int)) ∧ w7 = w3) (fun i _ => E.length - (intOf i).toNat)
              case atStart => exact ⟨⟨0, Nat.zero_le _, rfl⟩, rfl⟩
              case round =>
                obtain ⟨⟨j, hj, rfl⟩, hw7⟩ := hrel
                obtain rfl := hw7.symm
                by_cases hjE : j < E.length
                · obtain ⟨g, off, rfl, hrc⟩ := HGR.out (by omega)
                  have c4 := hrc j hjE
                  obtain ⟨xj, cj, hvj, hrd⟩ := (HT3.out.e j hjE).rd
                  have hsm := HEL.out.2 E[j] (List.getElem_mem hjE)
                  have HMK := hide (marked_any xj E[j].2 cj (j / 5) _ hrd (by omega) (by omega))
                  rw [hvj] at c4
                  rw [show ((j / 5 : Nat) : Int) = (j : Int) / 5 by omega] at HMK
                  generalize E[j].2 = M at *
                  have hji : (j : Int) < (E.length : Int) := by omega
                  clear hrc hvj hrd hsm
                  go_wp2_with (go_at_call 85; refine HMK.out.mono ?_; rintro e w8 ⟨rfl, hw8⟩; obtain rfl := hw8)
                  go_roundw
                  case rel => exact ⟨⟨j + 1, by omega, by go_num⟩, by first | trivial | rfl⟩
                  case measure => simp [intOf]; omega
                · have hjE' : j = E.length := by omega
                  subst hjE'
                  go_wp2
                  go_ret
                  exact ⟨rfl, HK3.out⟩
end Go.Proofs.YtcadlhpgapdgdaaGreatDoor
