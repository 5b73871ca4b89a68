import Derived.Test.YtcadlhpgapdgdaaGreatDoorJCnM9
import Derived.Deep.DeepCutAuto
import Derived.Test.YtcadlhpgapdgdaaGreatDoorJBoM9

/- Batches of an owner: apart. -/
namespace Go.Proofs.YtcadlhpgapdgdaaGreatDoor
open Go.RowKit Go.Maps
set_option linter.unusedVariables false
set_option linter.unusedSimpArgs false
/-- a record of two bytes is laid -/
theorem wpList_build_two {ops : Array Oper} {rest : List Oper} {o : Oper} {a : Act} {w : World} {Q : Exit → Act → World → Prop} (hg : o.guard = none) (y0 y1 : Operand) (ho : o.op = .buildSlice 23 2 #[(0, y0), (1, y1)]) (x0 x1 : Int) (h0 : a.eval y0 = .int .u8 x0) (h1 : a.eval y1 = .int .u8 x1)
    (h : wpList Tryz.prog ops Q rest (a.put o.dst (.slice (some ⟨w.heap.size, 0, none⟩) 2 2)) (w.alloc (.cells #[.int .u8 x0, .int .u8 x1] 5))) : wpList Tryz.prog ops Q (o :: rest) a w := by
  obtain ⟨i, z, hi, hz, hzs, his, hib⟩ := Tryz.infoU
  refine wpList_plain hg fun _ hC => wp_buildSlice 23 5 2 #[(0, y0), (1, y1)] ho #[.int .u8 x0, .int .u8 x1] i z Tryz.underlying23 hi hz (by rw [his]; decide) (by rw [his]; decide) ?_ (hC _ _ h)
  rw [his]
  simp only [List.map_toArray, List.map_cons, List.map_nil, h0, h1]
  have := Great.fill_whole (s := 1) (by decide) [.int .u8 x0, .int .u8 x1] ((Array.range (2 * 1)).map (z.cells[· % z.cells.size]!)) (fun v hv => by
    simp only [List.mem_cons, List.not_mem_nil, or_false] at hv
    rcases hv with rfl | rfl <;> rfl) (by simp)
  simpa [Value.cells] using this
theorem alloc_set {w : World} {g o : Nat} (h : g < w.heap.size) (x : Obj) (u : Value) : (w.alloc x).setCell ⟨g, o, none⟩ u = (w.setCell ⟨g, o, none⟩ u).alloc x := by
  unfold World.setCell World.alloc
  congr 1
  apply Array.ext_getElem?
  intro k
  simp only [Array.getElem?_modify, Array.getElem?_push, Array.size_modify]
  by_cases hk : k = w.heap.size
  · subst hk
    have : ¬ g = w.heap.size := by omega
    simp [this]
  · simp [hk]
def gq (e : En2) : Bq := ([], e.1)
structure ApL (w : World) (la : Option Addr) (N : Nat) (v : Nat → Value) (m : Nat → Nat) : Prop where
  row : 0 < N → ∃ g off, la = some ⟨g, off, none⟩ ∧ g < w.heap.size ∧ ¬ InV N v g ∧ ∀ j, j < N → w.cell? ⟨g, off + j, none⟩ = some (v j)
  dst : Dst N v
  all : ∀ i, i < N → ∃ U : List Rc, U.length = m i ∧ Wy BK w 0 (v i) U ∧ ∀ r ∈ U, ∃ a n c, r.2 = .slice a n c
  len : N ≤ 1000000000
  sml : ∀ i, i < N → m i ≤ 1000000000
/-- one more record behind the batch that is grown -/
theorem ap_more {w w4 w5 : World} {N L b : Nat} {v : Nat → Value} {m : Nat → Nat} {E : List En2} {lv v5 gv : Value} {U : List Rc} {o2 : Obj} (hU : U.length = L) (h3 : ∀ r ∈ U, Two w4 b r.2) (hI : CI w.heap.size w4 N v m E lv L b) (hG : Wy CK w4 w.heap.size gv (E.map gq)) (hK : Kp (InV N v) w w4)
    (hw : Wy BK w5 0 v5 (U ++ [([], .slice (some ⟨w4.heap.size, 0, none⟩) 2 2)])) (hg : ((w4.alloc (.cells (two b) 5)).alloc o2).grownBy w5 lv.ownBlock) (hs : (∃ g off cap, lv = .slice (some ⟨g, off, none⟩) U.length cap ∧ v5 = .slice (some ⟨g, off, none⟩) (U.length + 1) cap) ∨ ((∀ k, v5.ownBlock = some k → ((w4.alloc (.cells (two b) 5)).alloc o2).heap.size ≤ k) ∧ ((w4.alloc (.cells (two b) 5)).alloc o2).grownBy w5 none)) :
    CI w.heap.size w5 N v m E v5 (L + 1) b ∧ Wy CK w5 w.heap.size gv (E.map gq) ∧ Kp (InV N v) w w5 := by
  obtain ⟨W, hW⟩ : ∃ W, (w4.alloc (.cells (two b) 5)).alloc o2 = W := ⟨_, rfl⟩
  have hba : Below w4.heap.size w4 W := by rw [← hW]; exact bel1 (bel1 (Below.refl _ _) (Nat.le_refl _) _) (by simp) _
  have hx : W.heap[w4.heap.size]? = some (.cells (two b) 5 (0, 0)) := by rw [← hW]; exact heap_past (heap_new _ _) _
  rw [hW] at hg hs
  rw [hU] at hs
  have hI4 := hI.below hba
  have hk8 := u8_kept hg (fun k e => hI4.l.typ e) (by decide)
  have hrow : RowC w5 0 v5 (L + 1) b := ⟨_, by simp [hU], hw, fun r hr => by
    rcases List.mem_append.1 hr with hr | hr
    · exact ((h3 r hr).keep fun g cs hc => hba.block g (Array.getElem?_eq_some_iff.1 hc).1).keep hk8
    · rw [List.mem_singleton.1 hr]
      exact ⟨w4.heap.size, rfl, (hk8 _ _ hx).trans hx⟩⟩
  refine ⟨hI4.step (Nat.le_trans hK.size hba.size) hrow hg hs, ?_, (hK.below hba).grown hg (fun k e => hI4.own k e)⟩
  refine (hG.at fun k e => hba.block k (hG.lt e).2).at fun k e => hg.block k (Nat.lt_of_lt_of_le (hG.lt e).2 hba.size) fun e2 => ?_
  obtain ⟨cur, c1⟩ := hG.typ e
  obtain ⟨cur2, c2⟩ := hI4.l.typ e2.symm
  rw [hba.block k (hG.lt e).2, c1] at c2
  simp [CK] at c2
/-- the batch is kept -/
theorem ap_kept {w w5 w6 : World} {N L b : Nat} {v : Nat → Value} {m : Nat → Nat} {E : List En2} {lv gv gv6 : Value} {o : Obj} (hq : E.length / 5 = b) (hI : CI w.heap.size w5 N v m E lv L b) (hG : Wy CK w5 w.heap.size gv (E.map gq)) (hK : Kp (InV N v) w w5)
    (hw : Wy CK w6 w.heap.size gv6 (E.map gq ++ [gq (lv, L)])) (hg : (w5.alloc o).grownBy w6 gv.ownBlock) :
    CI w.heap.size w6 N v m (E ++ [(lv, L)]) lv L b ∧ Wy CK w6 w.heap.size gv6 ((E ++ [(lv, L)]).map gq) ∧ Kp (InV N v) w w6 := by
  have hba : Below w5.heap.size w5 (w5.alloc o) := bel1 (Below.refl _ _) (Nat.le_refl _) _
  have hty : ∀ k, gv.ownBlock = some k → ∃ cur, (w5.alloc o).heap[k]? = some (Obj.cells cur 29 (0, 0)) := fun k e => by
    obtain ⟨cur, h1⟩ := hG.typ e
    exact ⟨cur, (hba.block k (hG.lt e).2).trans h1⟩
  refine ⟨((hI.below hba).keep (fun g cs hc => hg.block g (Array.getElem?_eq_some_iff.1 hc).1 (fun e => ?_)) (u8_kept hg hty (by decide))).push hq, by simpa using hw, (hK.below hba).grown hg (fun k e => .inr (hG.lt e).1)⟩
  obtain ⟨cur, h1⟩ := hty g e.symm
  rw [hc] at h1
  simp at h1
set_option maxRecDepth 100000 in
set_option maxHeartbeats 8000000 in
theorem apart_any (la : Option Addr) (lc N : Nat) (v : Nat → Value) (m : Nat → Nat) (w : World) (h : ApL w la N v m) :
    Calls Tryz.prog 44 #[.slice la N lc] w fun e w' => e = .returned (.bool true) ∧ Kp (InV N v) w w' := by
  have HR : Hid (0 < N → ∃ g off, la = some ⟨g, off, none⟩ ∧ g < w.heap.size ∧ (¬ InV N v g) ∧ ∀ w', Kp (InV N v) w w' → ∀ j, j < N → w'.cell? ⟨g, off + j, none⟩ = some (v j)) := fun h0 => by
    obtain ⟨g, off, e, h1, h2, h3⟩ := h.row h0
    exact ⟨g, off, e, h1, h2, fun w' hk j hj => (hk.cell h1 h2).trans (h3 j hj)⟩
  have HF0 : Hid (CF w N v m 0 0) := fun j hj => by
    obtain ⟨U, h1, h2, h3⟩ := h.all j hj
    exact ⟨U, h1, h2, h3, fun k hk hor => by omega⟩
  have HH := hide h
  have hNl := h.len
  clear h
  go_enter Tryz.func44, Tryz.ntmps44
  go_wp2
  go_loopw [3] (fun i w1 => ∃ a : Nat, a ≤ N ∧ i = .int .i64 (a : Int) ∧ Hid (CF w1 N v m a 0) ∧ Hid (Kp (InV N v) w w1)) (fun i _ => N - (intOf i).toNat)
  case atStart => exact ⟨0, Nat.zero_le _, rfl, HF0, hide (Kp.refl _ _)⟩
  case round =>
    rename World => w1
    obtain ⟨a, ha, rfl, HF1, HK1⟩ := hrel
    by_cases haN : a < N
    · obtain ⟨g, off, rfl, hgl, hgn, hrc⟩ := HR.out (by omega)
      have HRC := hide hrc
      obtain ⟨U, hl1, hl2, _⟩ := HF1.out a haN
      obtain ⟨xa, ca, hva⟩ := hl2.shape
      rw [hl1] at hva
      have hma := HH.out.sml a haN
      obtain ⟨M, hM⟩ : ∃ M, m a = M := ⟨_, rfl⟩
      have HM := hide hM
      have HVA := hide hva
      have HVB : Hid (v a = .slice xa M ca) := by show _ = _; rw [hva, hM]
      rw [hM] at hma
      have hai : (a : Int) < (N : Int) := by omega
      clear hl1 hl2 hrc hva hM hgn
      go_wp2
      go_loopw [4] (fun k w2 => ∃ q : Nat, q ≤ M ∧ k = .int .i64 (q : Int) ∧ Hid (CF w2 N v m a q) ∧ Hid (Kp (InV N v) w w2)) (fun k _ => M - (intOf k).toNat)
      case atStart => exact ⟨0, Nat.zero_le _, rfl, HF1, HK1⟩
      case round =>
        rename World => w2
        obtain ⟨q, hq, rfl, HF2, HK2⟩ := hrel
        have c1 := HRC.out w2 HK2.out a haN
        rw [HVB.out] at c1
        by_cases hqm : q < M
        · have HQ : Hid (q < m a) := by show _ < _; rw [HM.out]; exact hqm
          obtain ⟨g2, off2, c2, x2, e2, hcl, hfz, hg2⟩ := HF2.out.cell haN HQ.out
          have e3 := HVA.out.symm.trans e2
          simp only [Value.slice.injEq, true_and] at e3
          obtain ⟨rfl, rfl⟩ := e3
          have hf2 := hfz (off2 + q)
          have hX : (a : Int) % 256 = ((a % 256 : Nat) : Int) := by omega
          have hY : (a : Int) / 256 % 256 = ((a / 256 % 256 : Nat) : Int) := by omega
          have hba : Below w2.heap.size w2 (w2.alloc (.cells (two a) 5)) := bel1 (Below.refl _ _) (Nat.le_refl _) _
          have HSET := hide ((HF2.out.keep hba).set HH.out.dst haN HQ.out e2 (heap_new w2 _))
          have HKS : Hid (Kp (InV N v) w ((w2.alloc (.cells (two a) 5)).setCell ⟨g2, off2 + q, none⟩ (.slice (some ⟨w2.heap.size, 0, none⟩) 2 2))) := (HK2.out.below hba).setCell ⟨a, haN, by rw [e2]; rfl⟩ _
          rw [alloc_set hg2] at HSET HKS
          unfold two at HSET HKS
          have hqi : (q : Int) < (M : Int) := by omega
          generalize a % 256 = X at *
          generalize a / 256 % 256 = Y at *
          clear e2 hfz hba
          go_wp2
          go_roundw
          case rel => exact ⟨q + 1, by omega, by go_num, HSET, HKS⟩
          case measure => simp [intOf]; omega
        · have HQ : Hid (CF w2 N v m a (m a)) := by
            have := HF2.out
            rwa [show q = m a by rw [HM.out]; omega] at this
          go_wp2
          go_roundw
          case rel => exact ⟨a + 1, by omega, by go_num, hide HQ.out.next, HK2⟩
          case measure => simp [intOf]; omega
    · have hN : N = a := by omega
      subst hN
      have HCT : Hid (CT w1 N v m [] 0) := CT.begin HH.out.dst HF1.out.all
      clear HF1
      go_wp2_with fail
      go_loopw [5, 6] (fun gv i w3 => ∃ b : Nat, ∃ E : List En2, b ≤ N ∧ i = .int .i64 (b : Int) ∧ Hid (E.length = 5 * b ∧ ∀ e ∈ E, e.2 ≤ 2000000000) ∧ Hid (Wy CK w3 w.heap.size gv (E.map gq)) ∧ Hid (CT w3 N v m E b) ∧ Hid (Kp (InV N v) w w3)) (fun _ i _ => N - (intOf i).toNat)
      case atStart => exact ⟨0, [], Nat.zero_le _, rfl, ⟨rfl, by simp⟩, .inl ⟨rfl, rfl⟩, HCT, HK1⟩
      case round =>
        rename World => w3
        obtain ⟨b, E, hb, rfl, HEL, HG3, HT3, HK3⟩ := hrel
        by_cases hbN : b < N
        · obtain ⟨g, off, rfl, hgl, hgn, hrc⟩ := HR.out (by omega)
          have c4 := hrc w3 HK3.out b hbN
          have hI := HT3.out.enter (B0 := w.heap.size) HH.out.dst hbN
          obtain ⟨xa, xn, ca, hva⟩ : ∃ xa n ca, v b = .slice xa n ca ∧ n = m b := by
            obtain ⟨U, hU, h2, _⟩ := hI.l
            obtain ⟨xa, ca, e⟩ := h2.shape
            exact ⟨xa, _, ca, e, hU⟩
          obtain ⟨hva, rfl⟩ := hva
          have hma := HH.out.sml b hbN
          obtain ⟨M, hM⟩ : ∃ M, m b = M := ⟨_, rfl⟩
          rw [hva] at c4 hI
          rw [hM] at c4 hma hI
          have HI3 := hide hI
          have hbi : (b : Int) < (N : Int) := by omega
          obtain ⟨X, hX⟩ : ∃ X, b % 256 = X := ⟨_, rfl⟩
          obtain ⟨Y, hY⟩ : ∃ Y, b / 256 % 256 = Y := ⟨_, rfl⟩
          have hXi : (b : Int) % 256 = (X : Int) := by omega
          have hYi : (b : Int) / 256 % 256 = (Y : Int) := by omega
          have HTW : Hid (two b = #[.int .u8 (X : Int), .int .u8 (Y : Int)]) := by show _ = _; unfold two; rw [hX, hY]
          clear hI hva hM hrc hX hY hgn
          go_wp2
          go_loopw [5, 7, 8] (fun gv lv k w4 => ∃ q L : Nat, ∃ E : List En2, q ≤ 5 ∧ k = .int .i64 (q : Int) ∧ Hid (L = M + q) ∧ Hid (E.length = 5 * b + q ∧ ∀ e ∈ E, e.2 ≤ 2000000000) ∧ Hid (Wy CK w4 w.heap.size gv (E.map gq)) ∧ Hid (CI w.heap.size w4 N v m E lv L b) ∧ Hid (Kp (InV N v) w w4)) (fun _ _ k _ => 5 - (intOf k).toNat)
          case atStart => exact ⟨0, M, E, Nat.zero_le _, rfl, rfl, HEL, HG3, HI3, HK3⟩
          case round =>
            rename World => w4
            obtain ⟨q, L, E4, hq, rfl, HL, HE4, HG4, HI4, HK4⟩ := hrel
            by_cases hq20 : q < 5
            · obtain ⟨U, hU, hwU, h3U⟩ := HI4.out.l
              obtain ⟨la, lc', hlv⟩ := hwU.shape
              subst hlv
              obtain ⟨ga, gc, hgv⟩ := HG4.out.shape
              rw [List.length_map] at hgv
              subst hgv
              have hLb : L ≤ 1000000005 := by have := HL.out; omega
              have hqi : (q : Int) < 5 := by omega
              have HEB : Hid (E4.length ≤ 5000000005) := by show _ ≤ _; have := HE4.out.1; omega
              have HWA : Hid (Wy BK ((w4.alloc (.cells #[.int .u8 (X : Int), .int .u8 (Y : Int)] 5)).alloc (.cells #[.slice (some ⟨w4.heap.size, 0, none⟩) 2 2] 23)) 0 (.slice la U.length lc') U) := (hwU.at fun k e => Below.heap_alloc _ _ _ (hwU.lt e).2).at fun k e => Below.heap_alloc _ _ _ (by simp; have := (hwU.lt e).2; omega)
              have HB1 : Hid (((w4.alloc (.cells #[.int .u8 (X : Int), .int .u8 (Y : Int)] 5)).alloc (.cells #[.slice (some ⟨w4.heap.size, 0, none⟩) 2 2] 23)).heap[w4.heap.size + 1]? = some (.cells #[.slice (some ⟨w4.heap.size, 0, none⟩) 2 2] 23 (0, 0))) := by
                have := heap_new (w4.alloc (.cells #[.int .u8 (X : Int), .int .u8 (Y : Int)] 5)) (.cells #[.slice (some ⟨w4.heap.size, 0, none⟩) 2 2] 23)
                rw [World.size_alloc] at this
                exact this
              have HU := hide hU
              have H3U := hide h3U
              have HUL : Hid (U.length ≤ 1000000005) := by show _ ≤ _; omega
              clear hwU h3U hU
              go_wp2_with (at_builtin; go_loud (refine wpList_append_way bkOk _ rfl (.tmp 57) (.tmp 64) rfl 0 (.slice la U.length lc') U ([], .slice (some ⟨w4.heap.size, 0, none⟩) 2 2) rfl HWA.out (w4.heap.size + 1) 1 rfl HB1.out (Nat.zero_le _) (by show (U.length + 1) * 24 ≤ _; have := HUL.out; omega) ?_); intro v5 w5 hw5 hg5 hs5; refine Shut.out ?_)
              obtain ⟨hi5, hgr5, hk5⟩ := ap_more (o2 := .cells #[.slice (some ⟨w4.heap.size, 0, none⟩) 2 2] 23) HU.out H3U.out HI4.out HG4.out HK4.out hw5 (by rw [HTW.out]; exact hg5) (by rw [HTW.out]; exact hs5)
              obtain ⟨la5, lc5, hv5⟩ := hi5.l.shape
              subst hv5
              have HI5 := hide hi5
              have HG5 := hide hgr5
              have HK5 := hide hk5
              have HWG : Hid (Wy CK (w5.alloc (.cells #[.slice la5 (L + 1) lc5] 29)) w.heap.size (.slice ga E4.length gc) (E4.map gq)) := hgr5.at fun k e => Below.heap_alloc _ _ _ (hgr5.lt e).2
              have HZ5 : Hid (w.heap.size ≤ w5.heap.size) := hk5.size
              clear hi5 hgr5 hk5 hw5 hg5 hs5
              unfold Shut
              go_wp2_with (at_builtin; go_loud (refine wpList_append_way ckOk _ rfl (.tmp 66) (.tmp 68) rfl w.heap.size (.slice ga E4.length gc) (E4.map gq) (gq (.slice la5 (L + 1) lc5, L + 1)) rfl HWG.out w5.heap.size 1 rfl (heap_new _ _) (by simp; exact Nat.le_trans HZ5.out (Nat.le_succ _)) (by rw [List.length_map]; show (E4.length + 1) * 24 ≤ _; have := HEB.out; omega) ?_); intro gv6 w6 hw6 hg6 hs6; have H6 := hide (ap_kept (show E4.length / 5 = b by have := HE4.out.1; omega) HI5.out HG5.out HK5.out hw6 hg6); clear hw6 hg6 hs6)
              refine ⟨⟨q + 1, L + 1, (E4 ++ [((Value.slice la5 (L + 1) lc5, L + 1) : En2)] : List En2), by omega, by go_num, by have := HL.out; show _ = _; omega, ⟨by rw [List.length_append, List.length_singleton, HE4.out.1]; omega, fun e he => ?_⟩, hide H6.out.2.1, hide H6.out.1, hide H6.out.2.2⟩, by simp [intOf]; omega⟩
              rcases List.mem_append.1 he with he | he
              · exact HE4.out.2 e he
              · rw [List.mem_singleton.1 he]; show L + 1 ≤ _; omega
            · have hq' : q = 5 := by omega
              subst hq'
              go_wp2
              exact ⟨⟨b + 1, E4, by omega, by go_num, ⟨by rw [HE4.out.1]; omega, HE4.out.2⟩, HG4, hide HI4.out.leave, HK4⟩, by simp [intOf]; omega⟩
        · have hbN' : N = b := by omega
          subst hbN'
          have hel : E.length ≤ 5000000000 := by rw [HEL.out.1]; omega
          obtain ⟨ga, gc, hgv⟩ := HG3.out.shape
          rw [List.length_map] at hgv
          subst hgv
          have HGR : Hid (0 < E.length → ∃ g off, ga = some ⟨g, off, none⟩ ∧ ∀ j (hj : j < E.length), w3.cell? ⟨g, off + j, none⟩ = some E[j].1) := fun h0 => by
            obtain ⟨a', c', e', _, hr⟩ := HG3.out.row1 (·.2) (fun o ho => by
              obtain ⟨e, he, rfl⟩ := List.mem_map.1 ho
              obtain ⟨q, hq, rfl⟩ := List.getElem_of_mem he
              obtain ⟨x, c, e2, _⟩ := HT3.out.e q hq
              show [if E[q].1.oneCell' then E[q].1 else _] = [E[q].1]
              rw [e2]
              rfl)
            simp only [Value.slice.injEq, List.length_map, true_and] at e'
            obtain ⟨rfl, rfl⟩ := e'
            obtain ⟨g, off, e3, _, h3⟩ := hr (by rw [List.length_map]; exact h0)
            refine ⟨g, off, e3, fun j hj => ?_⟩
            have := h3 j (by rw [List.length_map]; exact hj)
            rw [List.getElem_map] at this
            exact this
          clear HG3
          go_wp2_with fail
          go_loopw [9] (fun i w5 => (∃ j : Nat, j ≤ E.length ∧ i = .int .i64 (j : Int)) ∧ w5 = w3) (fun i _ => E.length - (intOf i).toNat)
          case atStart => exact ⟨⟨0, Nat.zero_le _, rfl⟩, rfl⟩
          case round =>
            obtain ⟨⟨j, hj, rfl⟩, hw5⟩ := hrel
            obtain rfl := hw5.symm
            by_cases hjE : j < E.length
            · obtain ⟨g, off, rfl, hrc⟩ := HGR.out (by omega)
              have c4 := hrc j hjE
              obtain ⟨xj, cj, hvj, hrd⟩ := HT3.out.e j hjE
              have hsm := HEL.out.2 E[j] (List.getElem_mem hjE)
              rw [hvj] at c4
              obtain ⟨n, hn⟩ : ∃ n, E[j].2 = n := ⟨_, rfl⟩
              rw [hn] at c4 hrd hsm
              obtain ⟨a, hja⟩ : ∃ a, j / 5 = a := ⟨_, rfl⟩
              have hjai : (j : Int) / 5 = (a : Int) := by omega
              rw [hja] at hrd
              have HRD := hide hrd
              have hji : (j : Int) < (E.length : Int) := by omega
              obtain ⟨X, hX⟩ : ∃ X, a % 256 = X := ⟨_, rfl⟩
              obtain ⟨Y, hY⟩ : ∃ Y, a / 256 % 256 = Y := ⟨_, rfl⟩
              have hXi : (a : Int) % 256 = (X : Int) := by omega
              have hYi : (a : Int) / 256 % 256 = (Y : Int) := by omega
              have HTW : Hid (two a = #[.int .u8 (X : Int), .int .u8 (Y : Int)]) := by show _ = _; unfold two; rw [hX, hY]
              clear hrc hvj hn hja hrd hX hY
              go_wp2
              go_loopw [11] (fun k w6 => (∃ q : Nat, q ≤ n ∧ k = .int .i64 (q : Int)) ∧ w6 = w3) (fun k _ => n - (intOf k).toNat)
              case atStart => exact ⟨⟨0, Nat.zero_le _, rfl⟩, rfl⟩
              case round =>
                obtain ⟨⟨q, hq, rfl⟩, hw6⟩ := hrel
                obtain rfl := hw6.symm
                by_cases hqn : q < n
                · obtain ⟨gx, offx, cur, rfl, hcur, hall⟩ := HRD.out (by omega)
                  obtain ⟨u, hu, gu, rfl, hgu⟩ := hall q hqn
                  rw [HTW.out] at hgu
                  have c5 := cellOf hcur (offx + q) _ hu
                  have c6 := cellOf hgu 0 (.int .u8 (X : Int)) rfl
                  have c7 := cellOf hgu 1 (.int .u8 (Y : Int)) rfl
                  have hqi : (q : Int) < (n : Int) := by omega
                  clear hu hgu hall hcur
                  go_wp2
                  go_roundw
                  case rel => exact ⟨⟨q + 1, by omega, by go_num⟩, by first | trivial | rfl⟩
                  case measure => simp [intOf]; omega
                · go_wp2
                  go_roundw
                  case rel => exact ⟨⟨j + 1, by omega, by go_num⟩, by first | trivial | rfl⟩
                  case measure => simp [intOf]; omega
            · have hjE' : j = E.length := by omega
              subst hjE'
              go_wp2_with fail
              go_loopw [13] (fun i w5 => (∃ j : Nat, j ≤ N ∧ i = .int .i64 (j : Int)) ∧ w5 = w3) (fun i _ => N - (intOf i).toNat)
              case atStart => exact ⟨⟨0, Nat.zero_le _, rfl⟩, rfl⟩
              case round =>
                obtain ⟨⟨a, ha, rfl⟩, hw5⟩ := hrel
                obtain rfl := hw5.symm
                by_cases haN2 : a < N
                · obtain ⟨g, off, rfl, _, _, hrc⟩ := HR.out (by omega)
                  have c4 := hrc w3 HK3.out a haN2
                  obtain ⟨xj, cj, hvj, hrd⟩ := HT3.out.o a haN2
                  have hsm := HH.out.sml a haN2
                  rw [hvj] at c4
                  obtain ⟨n, hn⟩ : ∃ n, m a = n := ⟨_, rfl⟩
                  rw [hn] at c4 hrd hsm
                  have HRD := hide hrd
                  have hji : (a : Int) < (N : Int) := by omega
                  obtain ⟨X, hX⟩ : ∃ X, a % 256 = X := ⟨_, rfl⟩
                  obtain ⟨Y, hY⟩ : ∃ Y, a / 256 % 256 = Y := ⟨_, rfl⟩
                  have hXi : (a : Int) % 256 = (X : Int) := by omega
                  have hYi : (a : Int) / 256 % 256 = (Y : Int) := by omega
                  have HTW : Hid (two a = #[.int .u8 (X : Int), .int .u8 (Y : Int)]) := by show _ = _; unfold two; rw [hX, hY]
                  clear hrc hvj hn hrd hX hY
                  go_wp2
                  go_loopw [14] (fun k w6 => (∃ q : Nat, q ≤ n ∧ k = .int .i64 (q : Int)) ∧ w6 = w3) (fun k _ => n - (intOf k).toNat)
                  case atStart => exact ⟨⟨0, Nat.zero_le _, rfl⟩, rfl⟩
                  case round =>
                    obtain ⟨⟨q, hq, rfl⟩, hw6⟩ := hrel
                    obtain rfl := hw6.symm
                    by_cases hqn : q < n
                    · obtain ⟨gx, offx, cur, rfl, hcur, hall⟩ := HRD.out (by omega)
                      obtain ⟨u, hu, gu, rfl, hgu⟩ := hall q hqn
                      rw [HTW.out] at hgu
                      have c5 := cellOf hcur (offx + q) _ hu
                      have c6 := cellOf hgu 0 (.int .u8 (X : Int)) rfl
                      have c7 := cellOf hgu 1 (.int .u8 (Y : Int)) rfl
                      have hqi : (q : Int) < (n : Int) := by omega
                      clear hu hgu hall hcur
                      go_wp2
                      go_roundw
                      case rel => exact ⟨⟨q + 1, by omega, by go_num⟩, by first | trivial | rfl⟩
                      case measure => simp [intOf]; omega
                    · go_wp2
                      go_roundw
                      case rel => exact ⟨⟨a + 1, by omega, by go_num⟩, by first | trivial | rfl⟩
                      case measure => simp [intOf]; omega
                · have haN2' : N = a := by omega
                  subst haN2'
                  go_wp2
                  go_ret
                  exact ⟨rfl, HK3.out⟩
end Go.Proofs.YtcadlhpgapdgdaaGreatDoor


/- The law's owned. -/
namespace Go.Proofs.YtcadlhpgapdgdaaGreatDoor
open Go.RowKit Go.Maps
set_option linter.unusedVariables false
set_option linter.unusedSimpArgs false
theorem ob_wyU {w : World} {B : Nat} {v : Value} {l : List Nat} (h : Ob B w v l) : Wy UK w B v l := by
  rcases h.1.2 with ⟨rfl, h0⟩ | ⟨g, cap, cur, rfl, hb, hg, hnc, hm, hcs, htk⟩
  · exact .inl ⟨rfl, List.length_eq_zero_iff.1 h0⟩
  · refine .inr ⟨g, 0, cap, cur, rfl, hb, hnc, hm, hg, by show 0 + cap * 1 ≤ _; omega, fun j u hu => ?_⟩
    rw [uk_flat] at hu
    have hj := (List.getElem?_eq_some_iff.1 hu).1
    rw [List.length_map] at hj
    refine cellOf hg _ _ ?_
    rw [Nat.zero_add]
    have e : (cur.toList.take (l.length * 1))[j]? = some u := by rw [htk]; exact hu
    rw [List.getElem?_take, if_pos (by omega)] at e
    simpa using e
theorem aptU {R : List Rc} (h : R.Pairwise fun a b => ∀ g, a.2.ownBlock = some g → b.2.ownBlock ≠ some g) {i k : Nat} (hi : i < R.length) (hk : k < R.length) (hne : i ≠ k) : ∀ g, R[i].2.ownBlock = some g → R[k].2.ownBlock ≠ some g := fun g e1 e2 => by
  rcases Nat.lt_or_ge i k with h1 | h1
  · exact List.pairwise_iff_getElem.1 h i k hi hk h1 g e1 e2
  · exact List.pairwise_iff_getElem.1 h k i hk hi (by omega) g e2 e1
theorem aptL {Z : List Bt} (h : Z.Pairwise fun a b => ∀ g, a.2.ownBlock = some g → b.2.ownBlock ≠ some g) {i k : Nat} (hi : i < Z.length) (hk : k < Z.length) (hne : i ≠ k) : ∀ g, Z[i].2.ownBlock = some g → Z[k].2.ownBlock ≠ some g := fun g e1 e2 => by
  rcases Nat.lt_or_ge i k with h1 | h1
  · exact List.pairwise_iff_getElem.1 h i k hi hk h1 g e1 e2
  · exact List.pairwise_iff_getElem.1 h k i hk hi (by omega) g e2 e1
/-- the book has all of them -/
theorem bkl_of {w : World} {base pb B : Nat} {bv : Value} {R : List Rc} (hb : Bok w pb bv) (hrow : Wy BK w B bv R) (ht : ToldR base w R) (hn : R.length ≤ 1000000000) (hs : ∀ r ∈ R, r.1.length ≤ 1000000000) :
    BkL w pb B bv R.length (fun i => (R.getD i ([], .slice none 0 0)).2) (fun i => (R.getD i ([], .slice none 0 0)).1.length) ∧ ∀ k, InV R.length (fun i => (R.getD i ([], .slice none 0 0)).2) k → base ≤ k ∧ ∃ cur, w.heap[k]? = some (Obj.cells cur 5 (0, 0)) := by
  have hg : ∀ i (h : i < R.length), R.getD i ([], .slice none 0 0) = R[i] := fun i h => by rw [List.getD_eq_getElem?_getD, List.getElem?_eq_getElem h]; rfl
  have hin : ∀ k, InV R.length (fun i => (R.getD i ([], .slice none 0 0)).2) k → base ≤ k ∧ ∃ cur, w.heap[k]? = some (Obj.cells cur 5 (0, 0)) := fun k hk => by
    obtain ⟨i, hi, e⟩ := hk
    have e2 : R[i].2.ownBlock = some k := by have := e; simp only [hg i hi] at this; exact this
    have ho := ob_wyU (ht.own R[i] (List.getElem_mem hi))
    exact ⟨(ho.lt e2).1, ho.typ e2⟩
  refine ⟨⟨hb, ?_, fun h => kp_u8 (w' := w) hb (fun k hk => (hin k hk).2) h, fun i k hi hk hne g e1 e2 => ?_, fun i hi => ⟨R[i].1, by simp only [hg i hi], ?_⟩, hn, fun i hi => by simp only [hg i hi]; exact hs _ (List.getElem_mem hi)⟩, hin⟩
  · obtain ⟨a, c, e, hl, hr⟩ := hrow.row1 (·.2) (fun o ho => by
      obtain ⟨x, k, e, _⟩ := (ht.own o ho).slice
      exact bk_one ⟨_, _, _, e⟩)
    refine ⟨a, c, e, fun h0 => ?_⟩
    obtain ⟨g, off, e1, e2, e3⟩ := hr h0
    refine ⟨g, off, e1, e2, fun hi => ?_, fun j hj => by simp only [hg j hj]; exact e3 j hj⟩
    obtain ⟨cur, hc⟩ := (hin g hi).2
    obtain ⟨cur2, hc2⟩ := hrow.typ (k := g) (by rw [e, e1]; rfl)
    rw [hc] at hc2
    simp [BK] at hc2
  · simp only [hg i hi, hg k hk] at e1 e2
    exact aptU ht.apt hi hk hne g e1 e2
  · simp only [hg i hi]
    have := ob_wyU (ht.own R[i] (List.getElem_mem hi))
    exact this.mono (Nat.zero_le _)
/-- the batches themselves -/
theorem apl_of {w : World} {base : Nat} {la : Option Addr} {lc : Nat} {Z : List Bt} (hrow : Wy AK w base (.slice la Z.length lc) Z) (hr : ∀ z ∈ Z, Wy BK w base z.2 z.1) (hsl : ∀ z ∈ Z, ∀ r ∈ z.1, ∃ a n c, r.2 = .slice a n c) (ha : Z.Pairwise fun a b => ∀ g, a.2.ownBlock = some g → b.2.ownBlock ≠ some g) (hn : Z.length ≤ 1000000000) (hs : ∀ z ∈ Z, z.1.length ≤ 1000000000) :
    ApL w la Z.length (fun i => (Z.getD i ([], .slice none 0 0)).2) (fun i => (Z.getD i ([], .slice none 0 0)).1.length) ∧ ∀ k, InV Z.length (fun i => (Z.getD i ([], .slice none 0 0)).2) k → base ≤ k := by
  have hg : ∀ i (h : i < Z.length), Z.getD i ([], .slice none 0 0) = Z[i] := fun i h => by rw [List.getD_eq_getElem?_getD, List.getElem?_eq_getElem h]; rfl
  have hin : ∀ k, InV Z.length (fun i => (Z.getD i ([], .slice none 0 0)).2) k → base ≤ k ∧ ∃ cur, w.heap[k]? = some (Obj.cells cur 23 (0, 0)) := fun k hk => by
    obtain ⟨i, hi, e⟩ := hk
    have e2 : Z[i].2.ownBlock = some k := by have := e; simp only [hg i hi] at this; exact this
    have ho := hr Z[i] (List.getElem_mem hi)
    exact ⟨(ho.lt e2).1, ho.typ e2⟩
  refine ⟨⟨fun h0 => ?_, fun i k hi hk hne g e1 e2 => ?_, fun i hi => ⟨Z[i].1, by simp only [hg i hi], ?_, hsl _ (List.getElem_mem hi)⟩, hn, fun i hi => by simp only [hg i hi]; exact hs _ (List.getElem_mem hi)⟩, fun k hk => (hin k hk).1⟩
  · obtain ⟨a, c, e, hl, hr2⟩ := hrow.row1 (·.2) (fun o ho => by
      obtain ⟨x, k, e⟩ := (hr o ho).shape
      show [if o.2.oneCell' then o.2 else _] = [o.2]
      rw [e]
      rfl)
    simp only [Value.slice.injEq, true_and] at e
    obtain ⟨rfl, rfl⟩ := e
    obtain ⟨g, off, e1, e2, e3⟩ := hr2 h0
    refine ⟨g, off, e1, e2, fun hi => ?_, fun j hj => by simp only [hg j hj]; exact e3 j hj⟩
    obtain ⟨cur, hc⟩ := (hin g hi).2
    obtain ⟨cur2, hc2⟩ := hrow.typ (k := g) (by rw [e1]; rfl)
    rw [hc] at hc2
    simp [AK] at hc2
  · simp only [hg i hi, hg k hk] at e1 e2
    exact aptL ha hi hk hne g e1 e2
  · simp only [hg i hi]
    exact (hr Z[i] (List.getElem_mem hi)).mono (Nat.zero_le _)
set_option maxRecDepth 100000 in
set_option maxHeartbeats 8000000 in
theorem owned_told (base : Nat) (la : Option Addr) (lc : Nat) (Z : List Bt) (w : World) (hrow : Wy AK w base (.slice la Z.length lc) Z) (ht : ToldL base w Z) (hbase : base ≤ w.heap.size) (hn : Z.length ≤ 1000000000) (hs : ∀ z ∈ Z, z.1.length ≤ 1000000000 ∧ ∀ r ∈ z.1, r.1.length ≤ 1000000000) (hall : (Z.flatMap (·.1)).length ≤ 1000000000) :
    Calls Tryz.prog 15 #[.slice la Z.length lc] w fun e w' => e = .returned (.bool true) ∧ Below base w w' := by
  have hsl : ∀ z ∈ Z, ∀ r ∈ z.1, ∃ x c, r.2 = .slice x r.1.length c := fun z hz r hr => by
    obtain ⟨x, c, e, _⟩ := (ht.rcs.own r (List.mem_flatMap.2 ⟨z, hz, hr⟩)).slice
    exact ⟨x, c, e⟩
  have HCL : Hid (0 < Z.length → ∃ g off, la = some ⟨g, off, none⟩ ∧ g < w.heap.size ∧ ∀ j (hj : j < Z.length), w.cell? ⟨g, off + j, none⟩ = some Z[j].2) := fun h0 => by
    obtain ⟨a, c, e, hl, hr2⟩ := hrow.row1 (·.2) (fun o ho => by
      obtain ⟨x, k, e⟩ := (ht.row o ho).shape
      show [if o.2.oneCell' then o.2 else _] = [o.2]
      rw [e]
      rfl)
    simp only [Value.slice.injEq, true_and] at e
    obtain ⟨rfl, rfl⟩ := e
    exact hr2 h0
  have HRC : Hid (∀ z ∈ Z, ∃ a c, z.2 = .slice a z.1.length c ∧ (0 < z.1.length → ∃ g off, a = some ⟨g, off, none⟩ ∧ g < w.heap.size ∧ ∀ j (hj : j < z.1.length), w.cell? ⟨g, off + j, none⟩ = some z.1[j].2)) := fun z hz => by
    obtain ⟨a, c, e, hl, hr2⟩ := (ht.row z hz).row1 (·.2) (fun o ho => by
      obtain ⟨x, c, e⟩ := hsl z hz o ho
      exact bk_one ⟨_, _, _, e⟩)
    exact ⟨a, c, e, hr2⟩
  have HSL := hide hsl
  have HRW := hide hrow
  have HT := hide ht
  have HS := hide hs
  have HAL := hide hall
  obtain ⟨pb, hpb⟩ : ∃ pb, w.heap.size = pb := ⟨_, rfl⟩
  have HPB := hide hpb
  obtain ⟨W0, hW0⟩ : ∃ W0, w.alloc (.cells #[.slice none 0 0] 89) = W0 := ⟨_, rfl⟩
  have hb0 : Below w.heap.size w W0 := by rw [← hW0]; exact bel1 (Below.refl _ _) (Nat.le_refl _) _
  have hk0 : Bok W0 pb (.slice none 0 0) := by
    have := heap_new w (.cells #[.slice none 0 0] 89)
    rw [hW0, hpb] at this
    exact this
  have HK0 := hide hk0
  have HB0 := hide hb0
  have HW0 := hide hW0
  clear hsl hrow ht hs hall hb0 hk0 hW0
  go_enter Tryz.func15, Tryz.ntmps15
  go_wp2
  rw [HW0.out]
  clear hpb
  go_loopw [4] (fun i wr => ∃ a : Nat, a ≤ Z.length ∧ i = .int .i64 (a : Int) ∧ ∃ bv, Hid (Bok wr pb bv ∧ Wy BK wr pb bv ((Z.take a).flatMap (·.1)) ∧ Below w.heap.size w wr ∧ pb < wr.heap.size)) (fun i _ => Z.length - (intOf i).toNat)
  case atStart => exact ⟨0, Nat.zero_le _, rfl, _, HK0.out, .inl ⟨rfl, rfl⟩, HB0.out, (Array.getElem?_eq_some_iff.1 HK0.out).1⟩
  case round =>
    rename World => w1
    obtain ⟨a, ha, rfl, bv, HX⟩ := hrel
    by_cases haN : a < Z.length
    · obtain ⟨g, off, rfl, hgl, hc⟩ := HCL.out (by omega)
      have hca := hc a haN
      have hzm := List.getElem_mem haN
      have HTK : Hid (Z.take (a + 1) = Z.take a ++ [Z[a]]) := List.take_succ_eq_append_getElem haN
      obtain ⟨z, hz⟩ : ∃ z, Z[a] = z := ⟨_, rfl⟩
      rw [hz] at hca hzm HTK
      obtain ⟨xa, ca, hva, hrc⟩ := HRC.out z hzm
      have hzs := (HS.out z hzm).1
      rw [hva] at hca
      have HCA : Hid (∀ wr, Below w.heap.size w wr → wr.cell? ⟨g, off + a, none⟩ = some (.slice xa z.1.length ca)) := fun wr hb => (hb.cell (p := ⟨g, off + a, none⟩) hgl).trans hca
      have HRR := hide hrc
      have HZM := hide hzm
      have hai : (a : Int) < (Z.length : Int) := by omega
      clear hc hca hzm hz hva hrc hgl
      go_wp2
      go_loopw [5] (fun k wr => ∃ q : Nat, q ≤ z.1.length ∧ k = .int .i64 (q : Int) ∧ ∃ bv, Hid (Bok wr pb bv ∧ Wy BK wr pb bv ((Z.take a).flatMap (·.1) ++ z.1.take q) ∧ Below w.heap.size w wr ∧ pb < wr.heap.size)) (fun k _ => z.1.length - (intOf k).toNat)
      case atStart => exact ⟨0, Nat.zero_le _, rfl, bv, by simpa using HX⟩
      case round =>
        rename World => w2
        obtain ⟨q, hq, rfl, bv2, HY⟩ := hrel
        have c1 := HCA.out w2 HY.out.2.2.1
        by_cases hqn : q < z.1.length
        · obtain ⟨gx, ox, rfl, hgx, hcx⟩ := HRR.out (by omega)
          have c2 := (HY.out.2.2.1.cell (p := ⟨gx, ox + q, none⟩) hgx).trans (hcx q hqn)
          obtain ⟨xr, cr, hxr⟩ := HSL.out z HZM.out z.1[q] (List.getElem_mem hqn)
          have HTQ : Hid (z.1.take (q + 1) = z.1.take q ++ [(z.1[q].1, .slice xr z.1[q].1.length cr)]) := by
            show _ = _
            rw [List.take_succ_eq_append_getElem hqn, ← hxr]
          have hlen : ((Z.take a).flatMap (·.1) ++ z.1.take q).length ≤ 1000000000 := by
            have h1 : ((Z.take a).flatMap (·.1) ++ z.1).length ≤ (Z.flatMap (·.1)).length := by
              have e : (Z.take (a + 1)).flatMap (·.1) = (Z.take a).flatMap (·.1) ++ z.1 := by rw [HTK.out]; simp
              have e0 : Z.flatMap (·.1) = (Z.take (a + 1)).flatMap (·.1) ++ (Z.drop (a + 1)).flatMap (·.1) := by rw [← List.flatMap_append, List.take_append_drop]
              rw [← e, e0, List.length_append]
              omega
            have h2 := HAL.out
            rw [List.length_append] at h1 ⊢
            have h3 : (z.1.take q).length ≤ z.1.length := by rw [List.length_take]; omega
            omega
          have HTA := hide (take_way pb pb bv2 _ z.1[q].1 xr z.1[q].1.length cr w2 HY.out.1 HY.out.2.1 (Nat.le_refl _) (Nat.le_of_lt HY.out.2.2.2) (by omega))
          rw [hxr] at c2
          have hqi : (q : Int) < (z.1.length : Int) := by omega
          clear hcx hxr hlen
          generalize z.1[q].1 = rl at *
          go_wp2_with fail
          refine HTA.out.mono ?_
          rintro e w3 ⟨rfl, bv3, hb3, hr3, hbe3, _⟩
          have HN : Hid (Bok w3 pb bv3 ∧ Wy BK w3 pb bv3 ((Z.take a).flatMap (·.1) ++ z.1.take (q + 1)) ∧ Below w.heap.size w w3 ∧ pb < w3.heap.size) := by
            refine ⟨hb3, by rw [HTQ.out, ← List.append_assoc]; exact hr3, ?_, (Array.getElem?_eq_some_iff.1 hb3).1⟩
            have h1 := HY.out.2.2.1
            rw [HPB.out] at h1 ⊢
            exact h1.trans hbe3
          clear hb3 hr3 hbe3
          go_wp2
          exact ⟨⟨q + 1, by omega, by go_num, bv3, HN⟩, by simp [intOf]; omega⟩
        · have hq' : q = z.1.length := by omega
          have HN : Hid (Bok w2 pb bv2 ∧ Wy BK w2 pb bv2 ((Z.take (a + 1)).flatMap (·.1)) ∧ Below w.heap.size w w2 ∧ pb < w2.heap.size) := by
            refine ⟨HY.out.1, ?_, HY.out.2.2⟩
            have := HY.out.2.1
            rw [hq', List.take_length] at this
            rw [HTK.out, List.flatMap_append]
            simpa using this
          go_wp2
          exact ⟨⟨a + 1, by omega, by go_num, bv2, HN⟩, by simp [intOf]; omega⟩
    · have haN' : a = Z.length := by omega
      subst haN'
      obtain ⟨hb1, hr1, hbe1, _⟩ := HX.out
      rw [List.take_length] at hr1
      have hbk := bkl_of hb1 hr1 (HT.out.rcs.below hbe1) HAL.out (fun r hr => by
        obtain ⟨z, hz, h2⟩ := List.mem_flatMap.1 hr
        exact (HS.out z hz).2 r h2)
      have HOW := hide (owned_way pb pb bv _ _ _ w1 hbk.1)
      have HIN := hide hbk.2
      have HBE := hide hbe1
      clear hb1 hr1 hbe1 hbk
      go_wp2_with fail
      refine HOW.out.mono ?_
      rintro e w3 ⟨rfl, hk3⟩
      have hb3 : Below base w w3 := (HBE.out.mono hbase).trans (hk3.toBelow (Nat.le_trans hbase HBE.out.size) (fun k hk hs => by have := (HIN.out k hs).1; omega))
      have hst : ∀ (k : Nat) (cur : Array Value) (t : TypeId), w.heap[k]? = some (Obj.cells cur t (0, 0)) → t ≠ 5 → w3.heap[k]? = w.heap[k]? := fun k cur t hc hne => by
        have hlt := (Array.getElem?_eq_some_iff.1 hc).1
        refine (hk3.block (Nat.lt_of_lt_of_le hlt HBE.out.size) (fun hs => ?_)).trans (HBE.out.block k hlt)
        obtain ⟨cur2, h2⟩ := (HIN.out k hs).2
        rw [HBE.out.block k hlt, hc] at h2
        simp only [Option.some.injEq, Obj.cells.injEq] at h2
        exact hne h2.2.1
      have hap := apl_of (w := w3) (HRW.out.at fun k e => by
          obtain ⟨cur, hc⟩ := HRW.out.typ e
          exact hst k cur _ hc (by decide)) (fun z hz => (HT.out.row z hz).at fun k e => by
          obtain ⟨cur, hc⟩ := (HT.out.row z hz).typ e
          exact hst k cur _ hc (by decide)) (fun z hz r hr => by
          obtain ⟨x, c, e⟩ := HSL.out z hz r hr
          exact ⟨_, _, _, e⟩) HT.out.apt hn (fun z hz => (HS.out z hz).1)
      have HAP := hide (apart_any la lc _ _ _ w3 hap.1)
      have HIA := hide hap.2
      have HB3 := hide hb3
      clear hap hst hb3 hk3
      go_wp2_with fail
      refine HAP.out.mono ?_
      rintro e w4 ⟨rfl, hk4⟩
      have HB4 : Hid (Below base w w4) := HB3.out.trans (hk4.toBelow (Nat.le_trans hbase HB3.out.size) (fun k hk hs => by have := HIA.out k hs; omega))
      clear hk4
      go_wp2
      go_ret
      exact ⟨rfl, HB4.out⟩
end Go.Proofs.YtcadlhpgapdgdaaGreatDoor
