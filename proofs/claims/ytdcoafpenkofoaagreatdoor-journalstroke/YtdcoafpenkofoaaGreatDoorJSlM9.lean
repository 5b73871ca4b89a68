import Derived.Test.YtdcoafpenkofoaaGreatDoorJShM9
import Derived.Test.YtdcoafpenkofoaaGreatDoorJWthM9

/- Stage 20: JournalStroke's rows of operations; without, beyond. -/
namespace Go.Proofs.YtdcoafpenkofoaaGreatDoor
open Go.RowKit Go.Maps Go.MuLone
set_option linter.unusedVariables false
set_option linter.unusedSimpArgs false
set_option maxHeartbeats 2000000 in
theorem without_any (w0 : World) (a : Option Addr) (c : Nat) (M : List (List (List Nat))) (w : World) (hb0 : Below w0.heap.size w0 w) (hR : RdL w0 a M) (hM : M.length ≤ 1000000000000) :
    Calls Tryz.prog 29 #[.slice a M.length c] w fun e w' => ∃ v Z, e = .returned v ∧ Wy CK w' w.heap.size v Z ∧ RdQ w0 Z ∧ Z.map (·.1) = wto M ∧ Below w.heap.size w w' := by
  have HR := hide hR
  have HB0 := hide hb0
  clear hR hb0
  go_enter Tryz.func29, Tryz.ntmps29
  go_wp2
  go_loopw [3, 4] (fun ov i wr => ∃ (k : Nat) (Z : List Bq), k ≤ M.length ∧ i = .int .i64 (k : Int) ∧ Hid (Wy CK wr w.heap.size ov Z ∧ RdQ w0 Z ∧ Z.map (·.1) = wto (M.take k) ∧ Z.length ≤ k) ∧ Hid (Below w.heap.size w wr)) (fun _ i _ => M.length - (intOf i).toNat)
  case atStart => exact ⟨0, [], Nat.zero_le _, rfl, ⟨.inl ⟨rfl, rfl⟩, fun z hz => absurd hz (by simp), rfl, Nat.le_refl _⟩, Below.refl _ _⟩
  case round =>
    rename_i ov i wr
    obtain ⟨k, Z, hk, rfl, HZ, HB⟩ := hrel
    obtain ⟨va, vc, rfl⟩ := HZ.out.1.shape
    by_cases hkn : k < M.length
    · obtain ⟨g, off, rfl, hgl, hc⟩ := HR.out (by omega)
      obtain ⟨y, d, hcw, hrb⟩ := hc k hkn
      have hcell := (HB.out.cell (p := ⟨g, off + k, none⟩) (by have := HB0.out.size; show g < _; omega)).trans ((HB0.out.cell (p := ⟨g, off + k, none⟩) hgl).trans hcw)
      have HT : Hid (wto (M.take (k + 1)) = wto (M.take k) ++ if M[k] = [] then [] else [M[k]]) := by
        show _ = _
        rw [List.take_succ_eq_append_getElem hkn, wto_snoc]
      have HRB := hide hrb
      have hki : (k : Int) < (M.length : Int) := by omega
      have HBA : Hid (w.heap.size ≤ wr.heap.size) := HB.out.size
      generalize M[k] = m at *
      have HZL := hide HZ.out.2.2.2
      clear hc hrb hcw
      by_cases hm : m = []
      · subst hm
        dsimp only [List.length_nil] at hcell
        go_wp2
        refine ⟨⟨k + 1, Z, by omega, by go_num, ⟨HZ.out.1, HZ.out.2.1, ?_, by have := HZL.out; omega⟩, HB⟩, by simp [intOf]; omega⟩
        rw [HT.out, if_pos rfl, List.append_nil]
        exact HZ.out.2.2.1
      · have hml : 0 < (m.length : Int) := by have := List.length_pos_iff.2 hm; omega
        have HCE : Hid (CK.enc (m, .slice y m.length d) = [.slice y m.length d]) := rfl
        have HWA : Hid (Wy CK (wr.alloc (.cells #[.slice y m.length d] 29)) w.heap.size (.slice va Z.length vc) Z) := HZ.out.1.at fun q e => Below.heap_alloc _ _ _ (HZ.out.1.lt e).2
        have HM := hide hm
        have HZB : Hid (Z.length ≤ 1000000000000) := by show _ ≤ _; have := HZL.out; omega
        clear hm
        go_wp2_with (at_builtin; go_loud (refine wpList_append_way ckOk _ rfl (.tmp 17) (.tmp 22) rfl w.heap.size (.slice va Z.length vc) Z (m, .slice y m.length d) rfl HWA.out wr.heap.size 1 rfl (by rw [HCE.out]; exact heap_new _ _) (by simp; exact Nat.le_trans HBA.out (Nat.le_succ _)) (by have := HZB.out; show (Z.length + 1) * 24 ≤ _; omega) ?_); intro v' w7 hw7 hg7 hs7; have HW7 := hide hw7; have HG7 := hide hg7; clear hw7 hg7 hs7)
        refine ⟨⟨k + 1, Z ++ [(m, .slice y m.length d)], by omega, by go_num, ⟨HW7.out, HZ.out.2.1.snoc HRB.out, ?_, by rw [List.length_append, List.length_singleton]; have := HZL.out; omega⟩, ?_⟩, by simp [intOf]; omega⟩
        · rw [HT.out, if_neg HM.out, List.map_append, HZ.out.2.2.1]
          rfl
        · exact (bel1 HB.out HBA.out _).grown HG7.out (Nat.le_trans HBA.out (by simp)) (fun q hq => (HZ.out.1.lt hq).1)
    · have hkn' : k = M.length := by omega
      subst hkn'
      have HZ' := HZ.out
      rw [List.take_length] at HZ'
      have HZZ := hide HZ'
      clear HZ' HZ
      go_wp2
      go_ret
      exact ⟨_, Z, rfl, HZZ.out.1, HZZ.out.2.1, HZZ.out.2.2.1, HB.out⟩
/-- an operation of the script -/
structure Sq where
  k : Int
  a : Int
  b : Int
  la : Option Addr
  L : List (List Nat)
  lc : Nat
  ma : Option Addr
  M : List (List (List Nat))
  mc : Nat
def Sq.cells (o : Sq) : Array Value := #[.int .i64 o.k, .int .i64 o.a, .int .i64 o.b, .slice o.la o.L.length o.lc, .slice o.ma o.M.length o.mc]
/-- a script that is read -/
def RS (w : World) (a : Option Addr) (n : Nat) (fs : Nat → Sq) : Prop := ∀ j, j < n → (∃ b off, a = some ⟨b, off, none⟩ ∧ b < w.heap.size ∧ w.rangeAt b (off + j * 5) (fs j).cells.toList) ∧ RdB w (fs j).la (fs j).L ∧ RdL w (fs j).ma (fs j).M
/-- within what a word counts -/
def Sfit (o : Sq) : Prop := (-9223372036854775808 ≤ o.k ∧ o.k < 9223372036854775808) ∧ (-9223372036854775808 ≤ o.a ∧ o.a < 9223372036854775808) ∧ (-9223372036854775808 ≤ o.b ∧ o.b < 9223372036854775808) ∧ (o.L.length ≤ 140737488355328 ∧ ∀ r ∈ o.L, r.length ≤ 140737488355328) ∧ o.M.length ≤ 140737488355328 ∧ ∀ m ∈ o.M, m.length ≤ 140737488355328 ∧ ∀ r ∈ m, r.length ≤ 140737488355328
theorem RS.cells {w w' : World} {a : Option Addr} {n : Nat} {fs : Nat → Sq} (h : RS w a n fs) (hb : Below w.heap.size w w') {j : Nat} (hj : j < n) : ∃ b off, a = some ⟨b, off, none⟩ ∧ b < w'.heap.size ∧
    w'.cell? ⟨b, off + j * 5, none⟩ = some (.int .i64 (fs j).k) ∧ w'.cell? ⟨b, off + j * 5 + 1, none⟩ = some (.int .i64 (fs j).a) ∧ w'.cell? ⟨b, off + j * 5 + 2, none⟩ = some (.int .i64 (fs j).b) ∧ w'.cell? ⟨b, off + j * 5 + 3, none⟩ = some (.slice (fs j).la (fs j).L.length (fs j).lc) ∧ w'.cell? ⟨b, off + j * 5 + 4, none⟩ = some (.slice (fs j).ma (fs j).M.length (fs j).mc) := by
  obtain ⟨b, off, e, hlt, hr⟩ := (h j hj).1
  have c : ∀ q u, (fs j).cells.toList[q]? = some u → w'.cell? ⟨b, off + j * 5 + q, none⟩ = some u := fun q u hu => (hb.cell (p := ⟨b, off + j * 5 + q, none⟩) hlt).trans (hr q u hu)
  exact ⟨b, off, e, Nat.lt_of_lt_of_le hlt hb.size, c 0 _ rfl, c 1 _ rfl, c 2 _ rfl, c 3 _ rfl, c 4 _ rfl⟩
set_option maxHeartbeats 2000000 in
theorem beyond_any (a : Option Addr) (n cap : Nat) (fs : Nat → Sq) (w : World) (hn : n ≤ 140737488355328) (hR : RS w a n fs) (hf : ∀ j, j < n → Sfit (fs j)) :
    Calls Tryz.prog 16 #[.slice a n cap] w fun e w' => (∃ b : Bool, e = .returned (.bool b) ∧ (b = false → ∀ j, j < n → wgN (fs j).L + wgA (fs j).M ≤ 2147483647)) ∧ w' = w := by
  have HR := hide hR
  have HF := hide hf
  clear hR hf
  go_enter Tryz.func16, Tryz.ntmps16
  go_wp2
  go_loop [3, 4] (fun nv i => ∃ k s : Nat, k ≤ n ∧ i = .int .i64 (k : Int) ∧ nv = .int .i64 (s : Int) ∧ Hid (s ≤ 562949953421312 ∧ (s ≤ 2147483647 → ∀ j, j < k → wgN (fs j).L + wgA (fs j).M ≤ 2147483647))) (fun _ i => n - (intOf i).toNat)
  case atStart => exact ⟨0, 0, Nat.zero_le _, rfl, rfl, by omega, fun _ j hj => by omega⟩
  case round =>
    obtain ⟨k, s, hk, rfl, rfl, HS⟩ := hrel
    by_cases hkn : k < n
    · by_cases hs : s ≤ 2147483647
      · obtain ⟨b, off, rfl, hbl, _, _, _, c3, c4⟩ := HR.out.cells (Below.refl _ _) hkn
        have hr := (HR.out k hkn).2
        have hz := (HF.out k hkn).2.2.2
        have HPR : Hid (∀ j, j < k + 1 → j < k ∨ j = k) := fun j hj => by omega
        have HW1 := hide (weigh_any (s + 13) (fs k).la (fs k).lc (fs k).L w hr.1 (by omega) hz.1.1 hz.1.2)
        rw [show ((s + 13 : Nat) : Int) = (s : Int) + 13 by omega] at HW1
        have HW2 := hide (fun (s1 : Nat) (h : s1 ≤ 562949953421312) => weighAll_any s1 (fs k).ma (fs k).mc (fs k).M w hr.2 h hz.2.1 hz.2.2)
        have HFK : Hid (∀ j, j = k → wgN (fs j).L + wgA (fs j).M = wgN (fs k).L + wgA (fs k).M) := fun j hj => by rw [hj]
        obtain ⟨o, ho⟩ : ∃ o, fs k = o := ⟨_, rfl⟩
        rw [ho] at c3 c4 HW1 HW2 HFK
        obtain ⟨ok, oa, ob, la, L, lc, ma, M, mc⟩ := o
        dsimp only at c3 c4 HW1 HW2 HFK
        have hki : (k : Int) < (n : Int) := by omega
        have hsi : (s : Int) ≤ 2147483647 := by omega
        have hw13 : IntKind.i64.wrap ((s : Int) + 13) = (s : Int) + 13 := by rw [IntKind.wrap_i64]; omega
        clear hr hz ho
        go_wp2_with fail
        refine HW1.out.mono ?_
        rintro e w' ⟨⟨s1, rfl, hs1, hs2⟩, hw'⟩
        obtain rfl := hw'.symm
        have HC := hide (HW2.out s1 hs1)
        have HS1 := hide hs2
        clear hs2 HW1 HW2
        go_wp2_with fail
        refine HC.out.mono ?_
        rintro e w' ⟨⟨s3, rfl, hs3, hs4⟩, hw'⟩
        obtain rfl := hw'.symm
        have HS4 := hide hs4
        clear hs4 HC
        go_wp2
        refine ⟨⟨k + 1, s3, by omega, by go_num, rfl, hs3, fun h j hj => ?_⟩, by simp [intOf]; omega⟩
        have h4 := HS4.out h
        have h2 := HS1.out (by omega)
        rcases HPR.out j hj with h5 | h5
        · exact HS.out.2 hs j h5
        · rw [HFK.out j h5]
          omega
      · have hki : (k : Int) < (n : Int) := by omega
        have hsi : ¬ (s : Int) ≤ 2147483647 := by omega
        have hsg : (s : Int) > 2147483647 := by omega
        go_wp2
        go_ret
        exact ⟨.inr rfl, rfl⟩
    · have hkn' : k = n := by omega
      subst hkn'
      by_cases hs : s ≤ 2147483647
      · have hsi : (s : Int) ≤ 2147483647 := by omega
        have HP := hide (HS.out.2 hs)
        clear HS
        go_wp2
        go_ret
        exact ⟨.inl ⟨by show Ending.returned (Value.bool (decide _)) = _; rw [decide_eq_false (by omega)], HP.out⟩, rfl⟩
      · have hsi : ¬ (s : Int) ≤ 2147483647 := by omega
        go_wp2
        go_ret
        exact ⟨.inr rfl, rfl⟩
end Go.Proofs.YtdcoafpenkofoaaGreatDoor


/- Stage 20: JournalStroke's book: up. -/
namespace Go.Proofs.YtdcoafpenkofoaaGreatDoor
open Go.RowKit Go.Maps Go.MuLone
set_option linter.unusedVariables false
set_option linter.unusedSimpArgs false
/-- the disk and the book, ahead of up -/
structure UB (S : Nat → Prop) (w wi : World) (d b : Nat) (dn lf two : Bool) (Now Then : List (List (List Nat))) (nv tv : Value) (li : Int) : Prop where
  ad : AD S w wi d dn lf Now Then two
  bb : BB wi b nv tv two li
  lo : w.heap.size ≤ b
  nb : ¬ S b
  now : Lr w wi (fun k => S k ∨ k = b) nv Now
  thn : two = true → Lr w wi (fun k => S k ∨ k = b) tv Then
/-- the journal and the book, behind it -/
structure UJ (S : Nat → Prop) (w wi : World) (d b j : Nat) (tl : Bool) (M : List (List (List Nat))) (nv tv : Value) (li : Int) : Prop where
  jl : JL S w wi d j M tl
  bb : BB wi b nv tv false li
  lo : w.heap.size ≤ b
  nb : ¬ (S b ∨ b = j)
  now : Lr w wi (fun k => S k ∨ k = b ∨ k = j) nv M
theorem UB.nd {S : Nat → Prop} {w wi w' : World} {d b : Nat} {dn lf two dn2 lf2 : Bool} {Now Then : List (List (List Nat))} {nv tv : Value} {li : Int} (h : UB S w wi d b dn lf two Now Then nv tv li) (hn : Nd S w wi d dn2 lf2 Now Then two w') : ∃ S', (∀ k, S' k → S k ∨ wi.heap.size ≤ k) ∧ UB S' w w' d b dn2 lf2 two Now Then nv tv li ∧ Kp S wi w' := by
  obtain ⟨S', h1, h2, h3⟩ := hn
  have hb := h.bb.lt
  have hmo : ∀ k, (S' k ∨ k = b) → (S k ∨ k = b) ∨ w'.heap.size ≤ k ∨ wi.heap.size ≤ k := fun k hk => by
    rcases hk with hk | hk
    · rcases h1 k hk with h | h
      · exact .inl (.inl h)
      · exact .inr (.inr h)
    · exact .inl (.inr hk)
  have key : ∀ v M, Lr w wi (fun k => S k ∨ k = b) v M → Lr w w' (fun k => S' k ∨ k = b) v M := fun v M hl => by
    obtain ⟨Z, a1, a2, a3, a4⟩ := hl
    refine ⟨Z, a1.kp h3 (fun g e hs => a4 g e (.inl hs)), a2, a3, fun g e hk => ?_⟩
    have := (a1.lt e).2
    rcases hk with hk | hk
    · rcases h1 g hk with h | h
      · exact a4 g e (.inl h)
      · omega
    · exact a4 g e (.inr hk)
  exact ⟨S', h1, ⟨h2, h.bb.kp h3 h.nb, h.lo, fun hs => (h1 b hs).elim h.nb (fun h => by omega), key _ _ h.now, fun e => key _ _ (h.thn e)⟩, h3⟩
theorem lr_up {S S3 : Nat → Prop} {w w1 w2 : World} {b j : Nat} {v : Value} {M : List (List (List Nat))} (h : Lr w w1 (fun k => S k ∨ k = b) v M) (hS : ∀ q, S3 q → S q ∨ w1.heap.size ≤ q) (hk : Kp S w1 w2) (hj : w1.heap.size ≤ j) : Lr w w2 (fun k => S3 k ∨ k = b ∨ k = j) v M := by
  obtain ⟨Z, a1, a2, a3, a4⟩ := h
  refine ⟨Z, a1.kp hk (fun g e hs => a4 g e (.inl hs)), a2, a3, fun g e hk => ?_⟩
  have := (a1.lt e).2
  rcases hk with hk | hk | hk
  · rcases hS g hk with h | h
    · exact a4 g e (.inl h)
    · omega
  · exact a4 g e (.inr hk)
  · omega
theorem JL.setC {S : Nat → Prop} {w wi : World} {d j b : Nat} {M : List (List (List Nat))} {tl : Bool} (h : JL S w wi d j M tl) (hb : ¬ (S b ∨ b = j)) (lo : w.heap.size ≤ b) (o : Nat) (v : Value) : JL S w (wi.setCell ⟨b, o, none⟩ v) d j M tl := by
  obtain ⟨x, F, l, h1, h2⟩ := h
  exact ⟨x, F, l, ⟨h1.aw.setC (fun hs => hb (.inl hs)) lo v, h1.nj, h1.lo, (blk_set_other _ _ _ _ (fun e => hb (.inr e.symm))).trans h1.blk⟩, h2⟩
theorem Lr.setC {w wr : World} {N : Nat → Prop} {v : Value} {M : List (List (List Nat))} {b : Nat} (h : Lr w wr N v M) (hb : N b) (o : Nat) (u : Value) : Lr w (wr.setCell ⟨b, o, none⟩ u) N v M := by
  obtain ⟨Z, a1, a2, a3, a4⟩ := h
  exact ⟨Z, a1.at (fun k e => blk_set_other _ _ _ _ (fun e2 => a4 k e (by rw [show k = b from e2]; exact hb))), a2, a3, a4⟩
theorem Lr.below {w wr w' : World} {N : Nat → Prop} {v : Value} {M : List (List (List Nat))} (h : Lr w wr N v M) (hb : Below wr.heap.size wr w') : Lr w w' N v M := by
  obtain ⟨Z, a1, a2, a3, a4⟩ := h
  exact ⟨Z, a1.at (fun k e => hb.block k (a1.lt e).2), a2, a3, a4⟩
set_option maxHeartbeats 8000000 in
theorem up_any9 (S : Nat → Prop) (w wi : World) (d b : Nat) (g : Addr) (hE : Eb w g) (hT : Er w) (dn lf two : Bool) (Now Then : List (List (List Nat))) (nv tv : Value) (li : Int) (h : UB S w wi d b dn lf two Now Then nv tv li) :
    Calls Tryz.prog 24 #[.pointer (some ⟨b, 0, none⟩), .pointer (some ⟨d, 0, none⟩)] wi fun e w' => ∃ j M tl nv' tv' li' S', e = .returned (.pointer (some ⟨j, 0, none⟩)) ∧ (∀ k, S' k → S k ∨ wi.heap.size ≤ k) ∧ wi.heap.size ≤ j ∧ UJ S' w w' d b j tl M nv' tv' li' ∧ Kp (fun k => S k ∨ k = b) wi w' := by
  have HU := hide h
  have HE := hide hE
  have HT := hide hT
  clear h hE hT
  go_enter Tryz.func24, Tryz.ntmps24
  go_wp2
  go_loopw [5] (fun iv wr => ∃ k : Nat, k ≤ 3 ∧ iv = .int .i64 (k : Int) ∧ Hid (∃ S1 dn1 lf1, UB S1 w wr d b dn1 lf1 two Now Then nv tv li ∧ (∀ q, S1 q → S q ∨ wi.heap.size ≤ q) ∧ Kp S wi wr)) (fun iv _ => 20 - (intOf iv).toNat)
  case atStart => exact ⟨0, by omega, rfl, S, dn, lf, HU.out, fun q hq => .inl hq, Kp.refl _ _⟩
  case round =>
    rename_i iv wr
    obtain ⟨k, hk, rfl, HI⟩ := hrel
    obtain ⟨S1, dn1, lf1, hU1, hS1, hK1⟩ := HI.out
    have HST := hide (ad_start hU1.ad)
    have HU1 := hide hU1
    have HK1 := hide (And.intro hS1 hK1)
    have hki : (k : Int) < 20 := by omega
    clear hU1 hS1 hK1 HI
    go_wp2_with fail
    refine HST.out.mono ?_
    rintro e w1 ⟨rfl, hn⟩
    obtain ⟨S2, hS2, hU2, hK2⟩ := HU1.out.nd hn
    have HU2 := hide hU2
    have HK2 : Hid ((∀ q, S2 q → S q ∨ wi.heap.size ≤ q) ∧ Kp S wi w1) := ⟨fun q hq => (hS2 q hq).elim (HK1.out.1 q) (fun h => .inr (Nat.le_trans HK1.out.2.size h)), HK1.out.2.transN hK2 (fun q hq => HK1.out.1 q hq)⟩
    clear hn hS2 hU2 hK2 HST HU1 HK1
    by_cases hk2 : k ≤ 2
    · have hk2i : ¬ (k : Int) > 2 := by omega
      have HOP := hide (Open_step S2 w w1 d lf1 g HE.out HT.out Now Then two HU2.out.ad)
      clear hk2
      go_wp2_with fail
      refine HOP.out.mono ?_
      rintro e w2 (⟨j, v, Z, M, tl, rfl, hj, hwy, htl, hbz, hor, S3, hS3, hJ3, hK3⟩ | ⟨rfl, rfl, hn⟩)
      · have HX3 : Hid ((∀ q, S3 q → S q ∨ wi.heap.size ≤ q) ∧ Kp S wi w2 ∧ wi.heap.size ≤ j) := ⟨fun q hq => (hS3 q hq).elim (HK2.out.1 q) (fun h => .inr (Nat.le_trans HK2.out.2.size h)), HK2.out.2.transN hK3 (fun q hq => HK2.out.1 q hq), Nat.le_trans HK2.out.2.size hj⟩
        have HNW := hide (lr_up HU2.out.now hS3 hK3 hj)
        have HTH := hide (fun e => lr_up (HU2.out.thn e) hS3 hK3 hj)
        have HBB := hide (HU2.out.bb.kp hK3 HU2.out.nb)
        have HNB : Hid (¬ (S3 b ∨ b = j)) := fun h => by
          have := HU2.out.bb.lt
          rcases h with h | h
          · exact (hS3 b h).elim HU2.out.nb (fun h => by omega)
          · omega
        have HJ3 := hide hJ3
        obtain ⟨va, vc, rfl, hzl, hrl, hml⟩ := RdL.told hwy htl
        have hz : Z.length = M.length := by
          have := congrArg List.length hbz
          simpa [batches] using this
        rw [hbz] at hrl hml
        rw [hz] at hzl ⊢
        have HRL := hide (And.intro hrl (And.intro hzl hml))
        obtain ⟨na, nc, e1, hnl, hnr⟩ := HNW.out.row hJ3.bel
        subst e1
        obtain ⟨c0, c1, c2, c3, f⟩ := HBB.out.cells
        have HSM := hide (same_any va na vc nc M Now w2 hrl hnr hzl hml)
        have HOR := hide hor
        clear hwy htl hbz hz hrl hzl hml hnl hnr hS3 hJ3 hK3 hj hor c1 c2 c3 f HOP
        by_cases hMN : M = Now
        · rw [decide_eq_true hMN] at HSM
          have HMN := hide hMN
          clear hMN
          cases two
          · go_wp2_with fail
            refine HSM.out.mono ?_
            rintro e w3 ⟨rfl, hb3⟩
            have HBL := hide (HBB.out.below hb3)
            have HJL := hide (HJ3.out.below hb3)
            have HNL : Hid (Lr w w3 (fun k => S3 k ∨ k = b ∨ k = j) (.slice na Now.length nc) M) := by
              have := HNW.out.below hb3
              rwa [← HMN.out] at this ⊢
            have HBE := hide hb3
            clear hb3 c0 HSM
            have HB5 := hide (HBL.out.set2 false)
            have HB6 := hide (HB5.out.set3 (wrap64 (li + 1)))
            obtain ⟨d0, d1, d2, d3, df⟩ := HBL.out.cells
            have df0 := df 0
            have df1 := df 1
            have df2 := df 2
            have e3 := HB5.out.cells.2.2.2.1
            have ef3 := HB5.out.cells.2.2.2.2 3
            clear d3 df
            go_wp2
            go_ret
            exact ⟨j, M, tl, _, _, _, S3, rfl, HX3.out.1, HX3.out.2.2, ⟨((HJL.out.setC HNB.out HU2.out.lo 2 _).setC HNB.out HU2.out.lo 3 _), HB6.out, HU2.out.lo, HNB.out, ((HNL.out.setC (.inr (.inl rfl)) 2 _).setC (.inr (.inl rfl)) 3 _)⟩, (((HX3.out.2.1.mono (fun k h => .inl h)).below HBE.out).setCell (.inr rfl) _).setCell (.inr rfl) _⟩
          · go_wp2_with fail
            refine HSM.out.mono ?_
            rintro e w3 ⟨rfl, hb3⟩
            have HBB3 := hide (HBB.out.below hb3)
            obtain ⟨_, c1, c2, _, _⟩ := HBB3.out.cells
            obtain ⟨ta, tc, e2, htl9, htr⟩ := ((HTH.out (by trivial)).below hb3).row (HJ3.out.bel.trans (hb3.mono HJ3.out.bel.size))
            subst e2
            have HSM2 := hide (same_any va ta vc tc M Then w3 (HRL.out.1.below hb3) htr HRL.out.2.1 HRL.out.2.2)
            have HB3 := hide hb3
            clear hb3 c0 htl9 htr HSM
            go_wp2_with fail
            refine HSM2.out.mono ?_
            rintro e w4 ⟨rfl, hb4⟩
            have hb24 : Below w2.heap.size w2 w4 := belOn HB3.out HB3.out.size hb4
            have HBL := hide (HBB3.out.below hb4)
            have HJL := hide (HJ3.out.below hb24)
            have HNL : Hid (Lr w w4 (fun k => S3 k ∨ k = b ∨ k = j) (.slice na Now.length nc) M) := by
              have := HNW.out.below hb24
              rwa [← HMN.out] at this ⊢
            have HBE := hide hb24
            clear hb4 hb24 c1 c2 HSM2
            have HB5 := hide (HBL.out.set2 false)
            have HB6 := hide (HB5.out.set3 (wrap64 (li + 1)))
            obtain ⟨d0, d1, d2, d3, df⟩ := HBL.out.cells
            have df0 := df 0
            have df1 := df 1
            have df2 := df 2
            have e3 := HB5.out.cells.2.2.2.1
            have ef3 := HB5.out.cells.2.2.2.2 3
            clear d3 df
            go_wp2
            go_ret
            exact ⟨j, M, tl, _, _, _, S3, rfl, HX3.out.1, HX3.out.2.2, ⟨((HJL.out.setC HNB.out HU2.out.lo 2 _).setC HNB.out HU2.out.lo 3 _), HB6.out, HU2.out.lo, HNB.out, ((HNL.out.setC (.inr (.inl rfl)) 2 _).setC (.inr (.inl rfl)) 3 _)⟩, (((HX3.out.2.1.mono (fun k h => .inl h)).below HBE.out).setCell (.inr rfl) _).setCell (.inr rfl) _⟩
        · rw [decide_eq_false hMN] at HSM
          have hor := HOR.out
          obtain ⟨rfl, hMT⟩ : two = true ∧ M = Then := hor.resolve_left hMN
          have HMT := hide hMT
          clear hMN hor hMT HOR
          go_wp2_with fail
          refine HSM.out.mono ?_
          rintro e w3 ⟨rfl, hb3⟩
          have HBB3 := hide (HBB.out.below hb3)
          obtain ⟨_, c1, c2, _, _⟩ := HBB3.out.cells
          obtain ⟨ta, tc, e2, htl9, htr⟩ := ((HTH.out (by trivial)).below hb3).row (HJ3.out.bel.trans (hb3.mono HJ3.out.bel.size))
          subst e2
          have hsm2 := same_any va ta vc tc M Then w3 (HRL.out.1.below hb3) htr HRL.out.2.1 HRL.out.2.2
          rw [decide_eq_true HMT.out] at hsm2
          have HSM2 := hide hsm2
          have HB3 := hide hb3
          clear hb3 c0 htl9 htr HSM hsm2
          go_wp2_with fail
          refine HSM2.out.mono ?_
          rintro e w4 ⟨rfl, hb4⟩
          have hb24 : Below w2.heap.size w2 w4 := belOn HB3.out HB3.out.size hb4
          have HBL := hide (HBB3.out.below hb4)
          have HJL := hide (HJ3.out.below hb24)
          have HNL : Hid (Lr w w4 (fun k => S3 k ∨ k = b ∨ k = j) (.slice ta Then.length tc) M) := by
            have := (HTH.out (by trivial)).below hb24
            rwa [← HMT.out] at this ⊢
          have HBE := hide hb24
          clear hb4 hb24 c1 c2 HSM2
          have HB0 := hide (HBL.out.set0 (.slice ta Then.length tc))
          have HB5 := hide (HB0.out.set2 false)
          have HB6 := hide (HB5.out.set3 (wrap64 (li + 1)))
          obtain ⟨d0, d1, d2, d3, df⟩ := HBL.out.cells
          have df0 := df 0
          have df1 := df 1
          have df2 := df 2
          have g2 := HB0.out.cells.2.2.2.2 2
          have e3 := HB5.out.cells.2.2.2.1
          have ef3 := HB5.out.cells.2.2.2.2 3
          clear d3 df
          go_wp2
          go_ret
          exact ⟨j, M, tl, _, _, _, S3, rfl, HX3.out.1, HX3.out.2.2, ⟨(((HJL.out.setC HNB.out HU2.out.lo 0 _).setC HNB.out HU2.out.lo 2 _).setC HNB.out HU2.out.lo 3 _), HB6.out, HU2.out.lo, HNB.out, (((HNL.out.setC (.inr (.inl rfl)) 0 _).setC (.inr (.inl rfl)) 2 _).setC (.inr (.inl rfl)) 3 _)⟩, ((((HX3.out.2.1.mono (fun k h => .inl h)).below HBE.out).setCell (.inr rfl) _).setCell (.inr rfl) _).setCell (.inr rfl) _⟩
      · obtain ⟨S3, hS3, hU3, hK3⟩ := HU2.out.nd hn
        have HI3 : Hid (∃ S1 dn1 lf1, UB S1 w w2 d b dn1 lf1 two Now Then nv tv li ∧ (∀ q, S1 q → S q ∨ wi.heap.size ≤ q) ∧ Kp S wi w2) := ⟨S3, _, _, hU3, fun q hq => (hS3 q hq).elim (HK2.out.1 q) (fun h => .inr (Nat.le_trans HK2.out.2.size h)), HK2.out.2.transN hK3 (fun q hq => HK2.out.1 q hq)⟩
        clear hn hS3 hU3 hK3 HOP
        go_wp2
        exact ⟨⟨k + 1, by omega, by go_num, HI3⟩, by simp [intOf]; omega⟩
    · have hk3 : k = 3 := by omega
      subst hk3
      have HCM := hide (ad_calm HU2.out.ad)
      go_wp2_with fail
      refine HCM.out.mono ?_
      rintro e w1' ⟨rfl, hn⟩
      obtain ⟨S3, hS3, hU3, hK3⟩ := HU2.out.nd hn
      have HU2' := hide hU3
      have HK2' : Hid ((∀ q, S3 q → S q ∨ wi.heap.size ≤ q) ∧ Kp S wi w1') := ⟨fun q hq => (hS3 q hq).elim (HK2.out.1 q) (fun h => .inr (Nat.le_trans HK2.out.2.size h)), HK2.out.2.transN hK3 (fun q hq => HK2.out.1 q hq)⟩
      clear hn hS3 hU3 hK3 HU2 HK2 HCM
      have HU2 := HU2'
      have HK2 := HK2'
      clear HU2' HK2'
      have HOP := hide (Open_step S3 w w1' d true g HE.out HT.out Now Then two HU2.out.ad)
      obtain ⟨S2, hS22⟩ : ∃ S2, S3 = S2 := ⟨_, rfl⟩
      subst hS22
      go_wp2_with fail
      refine HOP.out.mono ?_
      rintro e w2 (⟨j, v, Z, M, tl, rfl, hj, hwy, htl, hbz, hor, S4, hS4, hJ4, hK4⟩ | ⟨h0, _⟩)
      · have HX3 : Hid ((∀ q, S4 q → S q ∨ wi.heap.size ≤ q) ∧ Kp S wi w2 ∧ wi.heap.size ≤ j) := ⟨fun q hq => (hS4 q hq).elim (HK2.out.1 q) (fun h => .inr (Nat.le_trans HK2.out.2.size h)), HK2.out.2.transN hK4 (fun q hq => HK2.out.1 q hq), Nat.le_trans HK2.out.2.size hj⟩
        have HNW := hide (lr_up HU2.out.now hS4 hK4 hj)
        have HTH := hide (fun e => lr_up (HU2.out.thn e) hS4 hK4 hj)
        have HBB := hide (HU2.out.bb.kp hK4 HU2.out.nb)
        have HNB : Hid (¬ (S4 b ∨ b = j)) := fun h => by
          have := HU2.out.bb.lt
          rcases h with h | h
          · exact (hS4 b h).elim HU2.out.nb (fun h => by omega)
          · omega
        have HJ3 := hide hJ4
        obtain ⟨va, vc, rfl, hzl, hrl, hml⟩ := RdL.told hwy htl
        have hz : Z.length = M.length := by
          have := congrArg List.length hbz
          simpa [batches] using this
        rw [hbz] at hrl hml
        rw [hz] at hzl ⊢
        have HRL := hide (And.intro hrl (And.intro hzl hml))
        obtain ⟨na, nc, e1, hnl, hnr⟩ := HNW.out.row hJ4.bel
        subst e1
        obtain ⟨c0, c1, c2, c3, f⟩ := HBB.out.cells
        have HSM := hide (same_any va na vc nc M Now w2 hrl hnr hzl hml)
        have HOR := hide hor
        clear hwy htl hbz hz hrl hzl hml hnl hnr hS4 hJ4 hK4 hj hor c1 c2 c3 f HOP
        by_cases hMN : M = Now
        · rw [decide_eq_true hMN] at HSM
          have HMN := hide hMN
          clear hMN
          cases two
          · go_wp2_with fail
            refine HSM.out.mono ?_
            rintro e w3 ⟨rfl, hb3⟩
            have HBL := hide (HBB.out.below hb3)
            have HJL := hide (HJ3.out.below hb3)
            have HNL : Hid (Lr w w3 (fun k => S4 k ∨ k = b ∨ k = j) (.slice na Now.length nc) M) := by
              have := HNW.out.below hb3
              rwa [← HMN.out] at this ⊢
            have HBE := hide hb3
            clear hb3 c0 HSM
            have HB5 := hide (HBL.out.set2 false)
            have HB6 := hide (HB5.out.set3 (wrap64 (li + 1)))
            obtain ⟨d0, d1, d2, d3, df⟩ := HBL.out.cells
            have df0 := df 0
            have df1 := df 1
            have df2 := df 2
            have e3 := HB5.out.cells.2.2.2.1
            have ef3 := HB5.out.cells.2.2.2.2 3
            clear d3 df
            go_wp2
            go_ret
            exact ⟨j, M, tl, _, _, _, S4, rfl, HX3.out.1, HX3.out.2.2, ⟨((HJL.out.setC HNB.out HU2.out.lo 2 _).setC HNB.out HU2.out.lo 3 _), HB6.out, HU2.out.lo, HNB.out, ((HNL.out.setC (.inr (.inl rfl)) 2 _).setC (.inr (.inl rfl)) 3 _)⟩, (((HX3.out.2.1.mono (fun k h => .inl h)).below HBE.out).setCell (.inr rfl) _).setCell (.inr rfl) _⟩
          · go_wp2_with fail
            refine HSM.out.mono ?_
            rintro e w3 ⟨rfl, hb3⟩
            have HBB3 := hide (HBB.out.below hb3)
            obtain ⟨_, c1, c2, _, _⟩ := HBB3.out.cells
            obtain ⟨ta, tc, e2, htl9, htr⟩ := ((HTH.out (by trivial)).below hb3).row (HJ3.out.bel.trans (hb3.mono HJ3.out.bel.size))
            subst e2
            have HSM2 := hide (same_any va ta vc tc M Then w3 (HRL.out.1.below hb3) htr HRL.out.2.1 HRL.out.2.2)
            have HB3 := hide hb3
            clear hb3 c0 htl9 htr HSM
            go_wp2_with fail
            refine HSM2.out.mono ?_
            rintro e w4 ⟨rfl, hb4⟩
            have hb24 : Below w2.heap.size w2 w4 := belOn HB3.out HB3.out.size hb4
            have HBL := hide (HBB3.out.below hb4)
            have HJL := hide (HJ3.out.below hb24)
            have HNL : Hid (Lr w w4 (fun k => S4 k ∨ k = b ∨ k = j) (.slice na Now.length nc) M) := by
              have := HNW.out.below hb24
              rwa [← HMN.out] at this ⊢
            have HBE := hide hb24
            clear hb4 hb24 c1 c2 HSM2
            have HB5 := hide (HBL.out.set2 false)
            have HB6 := hide (HB5.out.set3 (wrap64 (li + 1)))
            obtain ⟨d0, d1, d2, d3, df⟩ := HBL.out.cells
            have df0 := df 0
            have df1 := df 1
            have df2 := df 2
            have e3 := HB5.out.cells.2.2.2.1
            have ef3 := HB5.out.cells.2.2.2.2 3
            clear d3 df
            go_wp2
            go_ret
            exact ⟨j, M, tl, _, _, _, S4, rfl, HX3.out.1, HX3.out.2.2, ⟨((HJL.out.setC HNB.out HU2.out.lo 2 _).setC HNB.out HU2.out.lo 3 _), HB6.out, HU2.out.lo, HNB.out, ((HNL.out.setC (.inr (.inl rfl)) 2 _).setC (.inr (.inl rfl)) 3 _)⟩, (((HX3.out.2.1.mono (fun k h => .inl h)).below HBE.out).setCell (.inr rfl) _).setCell (.inr rfl) _⟩
        · rw [decide_eq_false hMN] at HSM
          have hor := HOR.out
          obtain ⟨rfl, hMT⟩ : two = true ∧ M = Then := hor.resolve_left hMN
          have HMT := hide hMT
          clear hMN hor hMT HOR
          go_wp2_with fail
          refine HSM.out.mono ?_
          rintro e w3 ⟨rfl, hb3⟩
          have HBB3 := hide (HBB.out.below hb3)
          obtain ⟨_, c1, c2, _, _⟩ := HBB3.out.cells
          obtain ⟨ta, tc, e2, htl9, htr⟩ := ((HTH.out (by trivial)).below hb3).row (HJ3.out.bel.trans (hb3.mono HJ3.out.bel.size))
          subst e2
          have hsm2 := same_any va ta vc tc M Then w3 (HRL.out.1.below hb3) htr HRL.out.2.1 HRL.out.2.2
          rw [decide_eq_true HMT.out] at hsm2
          have HSM2 := hide hsm2
          have HB3 := hide hb3
          clear hb3 c0 htl9 htr HSM hsm2
          go_wp2_with fail
          refine HSM2.out.mono ?_
          rintro e w4 ⟨rfl, hb4⟩
          have hb24 : Below w2.heap.size w2 w4 := belOn HB3.out HB3.out.size hb4
          have HBL := hide (HBB3.out.below hb4)
          have HJL := hide (HJ3.out.below hb24)
          have HNL : Hid (Lr w w4 (fun k => S4 k ∨ k = b ∨ k = j) (.slice ta Then.length tc) M) := by
            have := (HTH.out (by trivial)).below hb24
            rwa [← HMT.out] at this ⊢
          have HBE := hide hb24
          clear hb4 hb24 c1 c2 HSM2
          have HB0 := hide (HBL.out.set0 (.slice ta Then.length tc))
          have HB5 := hide (HB0.out.set2 false)
          have HB6 := hide (HB5.out.set3 (wrap64 (li + 1)))
          obtain ⟨d0, d1, d2, d3, df⟩ := HBL.out.cells
          have df0 := df 0
          have df1 := df 1
          have df2 := df 2
          have g2 := HB0.out.cells.2.2.2.2 2
          have e3 := HB5.out.cells.2.2.2.1
          have ef3 := HB5.out.cells.2.2.2.2 3
          clear d3 df
          go_wp2
          go_ret
          exact ⟨j, M, tl, _, _, _, S4, rfl, HX3.out.1, HX3.out.2.2, ⟨(((HJL.out.setC HNB.out HU2.out.lo 0 _).setC HNB.out HU2.out.lo 2 _).setC HNB.out HU2.out.lo 3 _), HB6.out, HU2.out.lo, HNB.out, (((HNL.out.setC (.inr (.inl rfl)) 0 _).setC (.inr (.inl rfl)) 2 _).setC (.inr (.inl rfl)) 3 _)⟩, ((((HX3.out.2.1.mono (fun k h => .inl h)).below HBE.out).setCell (.inr rfl) _).setCell (.inr rfl) _).setCell (.inr rfl) _⟩
      · exact absurd h0 (by decide)
end Go.Proofs.YtdcoafpenkofoaaGreatDoor


/- Stage 20: JournalStroke: its state from call to call. -/
namespace Go.Proofs.YtdcoafpenkofoaaGreatDoor
open Go.RowKit Go.Maps Go.MuLone
set_option linter.unusedVariables false
set_option linter.unusedSimpArgs false
section
variable {S S' : Nat → Prop} {w wi wr w2 w3 w' : World} {d b j : Nat} {tl : Bool} {M X : List (List (List Nat))} {nv tv v : Value} {li : Int}
theorem UJ.below (h : UJ S w wi d b j tl M nv tv li) (hb : Below wi.heap.size wi w') : UJ S w w' d b j tl M nv tv li := ⟨h.jl.below hb, h.bb.below hb, h.lo, h.nb, h.now.below hb⟩
theorem UJ.bel (h : UJ S w wi d b j tl M nv tv li) : Below w.heap.size w wi := h.jl.bel
/-- the book behind a call of the journal's -/
theorem UJ.step (h : UJ S w wr d b j tl M nv tv li) (hS : ∀ q, S' q → S q ∨ wr.heap.size ≤ q) (hk : Kp (fun k => S k ∨ k = j) wr w2) : BB w2 b nv tv false li ∧ ¬ (S' b ∨ b = j) ∧ Lr w w2 (fun k => S' k ∨ k = b ∨ k = j) nv M := by
  have hb := h.bb.lt
  refine ⟨h.bb.kp hk h.nb, fun hs => ?_, ?_⟩
  · rcases hs with hs | hs
    · rcases hS b hs with h1 | h1
      · exact h.nb (.inl h1)
      · omega
    · exact h.nb (.inr hs)
  · obtain ⟨Z, a1, a2, a3, a4⟩ := h.now
    refine ⟨Z, a1.kp hk (fun g e hs => a4 g e (hs.imp id .inr)), a2, a3, fun g e hq => ?_⟩
    have := (a1.lt e).2
    rcases hq with hq | hq
    · rcases hS g hq with h1 | h1
      · exact a4 g e (.inl h1)
      · omega
    · exact a4 g e (.inr hq)
theorem Lr.fresh {N : Nat → Prop} {Z : List Bq} (hw : Wy CK w3 w2.heap.size v Z) (hb : Below w.heap.size w w2) (hq : RdQ w Z) (hz : Z.map (·.1) = X) (hN : ∀ k, N k → k < w2.heap.size) : Lr w w3 N v X :=
  ⟨Z, hw.mono hb.size, hq, hz, fun g e hn => by have := (hw.lt e).1; have := hN g hn; omega⟩
/-- behind a call that was answered OK, and its note in the book -/
theorem UJ.ok (h : UJ S w wr d b j tl M nv tv li) (hS : ∀ q, S' q → S q ∨ wr.heap.size ≤ q) (hk : Kp (fun k => S k ∨ k = j) wr w2) {t2 : Bool} (hJ : JL S' w w2 d j X t2) (hb3 : Below w2.heap.size w2 w3) {Z : List Bq} (hw : Wy CK w3 w2.heap.size v Z) (hq : RdQ w Z) (hz : Z.map (·.1) = X) : UJ S' w (w3.setCell ⟨b, 0, none⟩ v) d b j t2 X v tv li := by
  obtain ⟨h1, h2, h3⟩ := h.step hS hk
  have hN : ∀ k, (S' k ∨ k = b ∨ k = j) → k < w2.heap.size := fun k hk' => by
    rcases hk' with hk' | rfl | rfl
    · exact (hJ.at k (.inl hk')).2
    · exact h1.lt
    · exact (hJ.at k (.inr rfl)).2
  have hL : Lr w w3 (fun k => S' k ∨ k = b ∨ k = j) v X := Lr.fresh hw hJ.bel hq hz hN
  exact ⟨(hJ.below hb3).setC h2 h.lo 0 v, (h1.below hb3).set0 v, h.lo, h2, hL.setC (.inr (.inl rfl)) 0 v⟩
/-- behind a call that was refused -/
theorem UJ.refused (h : UJ S w wr d b j tl M nv tv li) (hS : ∀ q, S' q → S q ∨ wr.heap.size ≤ q) (hk : Kp (fun k => S k ∨ k = j) wr w2) {t2 : Bool} (hJ : JL S' w w2 d j M t2) (hb3 : Below w2.heap.size w2 w3) : UJ S' w w3 d b j t2 M nv tv li := by
  obtain ⟨h1, h2, h3⟩ := h.step hS hk
  exact ⟨hJ.below hb3, h1.below hb3, h.lo, h2, h3.below hb3⟩
/-- the disk is down, the journal too -/
def UD (S : Nat → Prop) (w wi : World) (d b j : Nat) : Prop := ∃ two Now Then nv tv li, UB S w wi d b true false two Now Then nv tv li ∧ JN wi j ∧ ¬ (S j ∨ j = b)
theorem AD.setC {dn lf : Bool} {Now Then : List (List (List Nat))} {Two : Bool} (h : AD S w wi d dn lf Now Then Two) (hb : ¬ S b) (lo : w.heap.size ≤ b) (o : Nat) (u : Value) : AD S w (wi.setCell ⟨b, o, none⟩ u) d dn lf Now Then Two := by
  obtain ⟨x, F, h1, h2⟩ := h
  exact ⟨x, F, h1.setC hb lo u, h2⟩
theorem JN.setC (h : JN wi j) (hb : j ≠ b) (o : Nat) (u : Value) : JN (wi.setCell ⟨b, o, none⟩ u) j := by
  obtain ⟨sz, t, h⟩ := h
  exact ⟨sz, t, (blk_set_other _ _ _ _ hb).trans h⟩
theorem UB.below {dn lf two : Bool} {Now Then : List (List (List Nat))} (h : UB S w wi d b dn lf two Now Then nv tv li) (hb : Below wi.heap.size wi w') : UB S w w' d b dn lf two Now Then nv tv li := ⟨h.ad.below hb, h.bb.below hb, h.lo, h.nb, h.now.below hb, fun e => (h.thn e).below hb⟩
theorem UD.below (h : UD S w wi d b j) (hb : Below wi.heap.size wi w') : UD S w w' d b j := by
  obtain ⟨two, Now, Then, nv, tv, li, h1, h2, h3⟩ := h
  exact ⟨two, Now, Then, nv, tv, li, h1.below hb, h2.below hb, h3⟩
/-- behind a call in which the power failed, and its note in the book -/
theorem UJ.fell (h : UJ S w wr d b j tl M nv tv li) (hS : ∀ q, S' q → S q ∨ wr.heap.size ≤ q) (hk : Kp (fun k => S k ∨ k = j) wr w2) (hj : ¬ S' j) (hJ : JD S' w w2 d M X true) (hN : JN w2 j) (hb3 : Below w2.heap.size w2 w3) {Z : List Bq} (hw : Wy CK w3 w2.heap.size v Z) (hq : RdQ w Z) (hz : Z.map (·.1) = X) : UD S' w ((w3.setCell ⟨b, 1, none⟩ v).setCell ⟨b, 2, none⟩ (.bool true)) d b j := by
  obtain ⟨h1, h2, h3⟩ := h.step hS hk
  have hsb : ¬ S' b := fun hs => h2 (.inl hs)
  have hjb : j ≠ b := fun e => h2 (.inr e.symm)
  have hN2 : ∀ k, (S' k ∨ k = b) → k < w2.heap.size := fun k hk' => by
    rcases hk' with hk' | rfl
    · exact (hJ.bel.2 k hk').2
    · exact h1.lt
  have hL : Lr w w3 (fun k => S' k ∨ k = b) v X := Lr.fresh hw hJ.bel.1 hq hz hN2
  have hL2 : Lr w w3 (fun k => S' k ∨ k = b) nv M := (h3.below hb3).mono (fun k hk => .inl (hk.imp id .inl))
  exact ⟨true, M, X, nv, v, li, ⟨((hJ.below hb3).ad.setC hsb h.lo 1 v).setC hsb h.lo 2 _, ((h1.below hb3).set1 v).set2 true, h.lo, hsb, (hL2.setC (.inr rfl) 1 v).setC (.inr rfl) 2 _, fun _ => (hL.setC (.inr rfl) 1 v).setC (.inr rfl) 2 _⟩, ((hN.below hb3).setC hjb 1 v).setC hjb 2 _, fun hs => hs.elim hj hjb⟩
theorem UJ.ub (h : UJ S w wi d b j tl M nv tv li) : UB S w wi d b false false false M [] nv tv li :=
  ⟨h.jl.ad _ _, h.bb, h.lo, fun hs => h.nb (.inl hs), h.now.mono (fun k hk => .inl (hk.imp id .inl)), fun e => absurd e (by decide)⟩
theorem UJ.arm (h : UJ S w wi d b j tl M nv tv li) (a k : Int) (ha : a < 9223372036854775808) (hk : -9223372036854775808 ≤ k ∧ k < 9223372036854775808) : Calls Tryz.prog 30 #[.pointer (some ⟨d, 0, none⟩), .int .i64 a, .int .i64 k] wi fun e w' => e = .returned (.tuple #[]) ∧ ∃ S' tl', UJ S' w w' d b j tl' M nv tv li := by
  obtain ⟨x, F, l, h1, h2, h3⟩ := h.jl
  refine (aw_arm h1.aw a k ha hk).mono ?_
  rintro e w' ⟨rfl, hN⟩
  obtain ⟨S', g1, g2, g3⟩ := h1.nx hN
  have hk3 : Kp (fun k => S k ∨ k = j) wi w' := g3.mono (fun k h => .inl h)
  refine ⟨rfl, S', tl, h.refused g1 hk3 (t2 := tl) ⟨_, F, l, g2, ?_, h3⟩ (Below.refl _ _)⟩
  unfold dArm
  rw [h2]
  rfl
/-- the power fails from without: the journal is not down yet -/
theorem UJ.crash (h : UJ S w wi d b j tl M nv tv li) (k : Int) (hk : -9223372036854775808 ≤ k ∧ k < 9223372036854775808) : Calls Tryz.prog 31 #[.pointer (some ⟨d, 0, none⟩), .int .i64 k] wi fun e w' => e = .returned (.tuple #[]) ∧ ∃ S' x F, JS S' w w' d j x F (logN M : Int) tl ∧ x.down = true ∧ Dn F M [] false ∧ BB w' b nv tv false li ∧ ¬ (S' b ∨ b = j) ∧ Lr w w' (fun k => S' k ∨ k = b ∨ k = j) nv M := by
  obtain ⟨x, F, l, h1, h2, h3, h4, h5, h6⟩ := h.jl
  refine (aw_crash h1.aw k hk).mono ?_
  rintro e w' ⟨rfl, hN⟩
  obtain ⟨S', g1, g2, g3⟩ := h1.nx hN
  have hk3 : Kp (fun k => S k ∨ k = j) wi w' := g3.mono (fun k h => .inl h)
  obtain ⟨s1, s2, s3⟩ := h.step g1 hk3
  have hD : Dn F M [] false := ⟨h3.nmz, h6, by rw [h4]; exact h5.dn _ _⟩
  refine ⟨rfl, S', _, _, g2, ?_, ?_, s1, s2, s3⟩
  · unfold dCr
    rw [h2]
    rfl
  · unfold dCr
    rw [h2]
    exact hD.crash k
/-- Add of a journal whose disk is down -/
theorem dn_add {x : Dx} {F : List Fi} {sz : Int} (hJ : JS S w wi d j x F sz tl) (hd : x.down = true) (hD : Dn F M [] false) (hB : BB wi b nv tv false li) (lo : w.heap.size ≤ b) (hnb : ¬ (S b ∨ b = j)) (hL : Lr w wi (fun k => S k ∨ k = b ∨ k = j) nv M) (a : Option Addr) (n c : Nat) :
    Calls Tryz.prog 25 #[.pointer (some ⟨j, 0, none⟩), .slice a n c] wi fun e w' => e = .returned (.int .i64 3) ∧ ∃ S', UD S' w w' d b j := by
  refine (Add_down hJ hd a n c).mono ?_
  rintro e w' ⟨rfl, S', h1, h2, h3, h4, h5⟩
  have hbl := hB.lt
  have hsb : ¬ S' b := fun hs => (h1 b hs).elim (fun h => hnb (.inl h)) (fun h => by omega)
  refine ⟨rfl, S', false, M, [], nv, tv, li, ⟨⟨_, _, h2, hd, fun h => absurd h (by decide), hD⟩, hB.kp h5 hnb, lo, hsb, ?_, fun e => absurd e (by decide)⟩, h3, fun hs => hs.elim h4 (fun e => hnb (.inr e.symm))⟩
  obtain ⟨Z, a1, a2, a3, a4⟩ := hL
  refine ⟨Z, a1.kp h5 (fun g e hs => a4 g e (hs.imp id .inr)), a2, a3, fun g e hq => ?_⟩
  have := (a1.lt e).2
  rcases hq with hq | hq
  · rcases h1 g hq with h | h
    · exact a4 g e (.inl h)
    · omega
  · exact a4 g e (.inr (.inl hq))
end
end Go.Proofs.YtdcoafpenkofoaaGreatDoor


/- Stage 20: JournalStroke: how many batches. -/
namespace Go.Proofs.YtdcoafpenkofoaaGreatDoor
open Go.RowKit
set_option linter.unusedVariables false
set_option linter.unusedSimpArgs false
theorem logN_ge : ∀ (M : List (List (List Nat))), (∀ m ∈ M, GdB m) → M.length ≤ logN M
  | [], _ => Nat.zero_le _
  | m :: M, h => by
    have h1 := bat17 (h m (by simp))
    have h2 := logN_ge M (fun q hq => h q (by simp [hq]))
    simp only [logN, List.map_cons, List.sum_cons, List.length_cons] at h2 ⊢
    omega
theorem JL.len {S : Nat → Prop} {w wi : World} {d j : Nat} {M : List (List (List Nat))} {tl : Bool} (h : JL S w wi d j M tl) : M.length ≤ 16777216 := by
  obtain ⟨x, F, l, h1, h2, h3, h4, ⟨K, k, h5, h6, h7, h8⟩, h9⟩ := h
  have h10 := (h1.aw.datl kG).1
  rw [h4] at h10
  have h11 : l.length = (logB M ++ (batB K).take k).length := by rw [← h7]
  rw [List.length_append, logB_len] at h11
  have := logN_ge M h9
  dsimp only at h10
  omega
theorem logN_wg : ∀ (M : List (List (List Nat))), logN M ≤ wgA M
  | [] => Nat.le_refl _
  | m :: M => by
    have h1 := batN_wg m
    have h2 := logN_wg M
    simp only [logN, wgA, List.map_cons, List.sum_cons] at h2 ⊢
    omega
section
variable {S S' : Nat → Prop} {w wi wr w2 w3 w' : World} {d b j : Nat} {tl : Bool} {M X : List (List (List Nat))} {nv tv v : Value} {li : Int}
theorem with_lr {N : Nat → Prop} {na : Option Addr} {nc : Nat} (h : Lr w w2 N (.slice na M.length nc) M) (hb : Below w.heap.size w w2) (hM : M.length ≤ 16777216) (la : Option Addr) (lc : Nat) (L : List (List Nat)) (hL : RdB w la L) (V : World) (hV : Below w2.heap.size w2 V) :
    Calls Tryz.prog 26 #[.slice na M.length nc, .slice la L.length lc] V fun e w' => ∃ va vn vc Z, e = .returned (.slice va vn vc) ∧ Wy CK w' V.heap.size (.slice va vn vc) Z ∧ RdQ w Z ∧ Z.map (·.1) = wth M L ∧ Below V.heap.size V w' := by
  obtain ⟨Z, h1, h2, h3, h4⟩ := h
  have hl : M.length = Z.length := by rw [← h3, List.length_map]
  rw [hl] at h1 hM ⊢
  have hbv : Below w.heap.size w V := belOn hb hb.size hV
  refine (with_any w.heap.size na nc Z (L, .slice la L.length lc) la lc rfl V (h1.at (fun k e => hV.block k (h1.lt e).2)) (h2.below hbv) (by omega)).mono ?_
  rintro e w' ⟨v, rfl, hw, hb'⟩
  obtain ⟨va, vc, rfl⟩ := hw.shape
  refine ⟨va, _, vc, _, rfl, hw, ?_, ?_, hb'⟩
  · by_cases h0 : L = []
    · subst h0; rw [if_pos rfl, List.append_nil]; exact h2
    · rw [if_neg h0]; exact h2.snoc hL
  · rw [List.map_append, h3]
    unfold wth
    by_cases h0 : L = []
    · subst h0; rfl
    · dsimp only; rw [if_neg h0, if_neg h0]; rfl
theorem without_lr (hb : Below w.heap.size w w2) (ma : Option Addr) (mc : Nat) (hR : RdL w ma M) (hM : M.length ≤ 1000000000000) :
    Calls Tryz.prog 29 #[.slice ma M.length mc] w2 fun e w' => ∃ va vn vc Z, e = .returned (.slice va vn vc) ∧ Wy CK w' w2.heap.size (.slice va vn vc) Z ∧ RdQ w Z ∧ Z.map (·.1) = wto M ∧ Below w2.heap.size w2 w' := by
  refine (without_any w ma mc M w2 hb hR hM).mono ?_
  rintro e w' ⟨v, Z, rfl, hw, hq, hz, hb'⟩
  obtain ⟨va, vc, rfl⟩ := hw.shape
  exact ⟨va, _, vc, Z, rfl, hw, hq, hz, hb'⟩
theorem UJ.up (h : UJ S w wi d b j tl M nv tv li) : Calls Tryz.prog 32 #[.pointer (some ⟨d, 0, none⟩)] wi fun e w' => e = .returned (.bool true) ∧ ∃ S M tl nv tv li, UJ S w w' d b j tl M nv tv li := by
  obtain ⟨x, F, l, h1, h2, h3⟩ := h.jl
  have hu := aw_up h1.aw
  rw [h2] at hu
  refine hu.mono ?_
  rintro e w' ⟨rfl, hN⟩
  obtain ⟨S', g1, g2, g3⟩ := h1.nx hN
  exact ⟨rfl, S', M, tl, nv, tv, li, h.refused g1 (g3.mono (fun k h => .inl h)) (t2 := tl) ⟨x, F, l, g2, h2, h3⟩ (Below.refl _ _)⟩
theorem UD.bel (h : UD S w wi d b j) : Below w.heap.size w wi := by
  obtain ⟨two, Now, Then, nv, tv, li, h1, h2, h3⟩ := h
  exact h1.ad.bel.1
theorem UD.jn (h : UD S w wi d b j) : JN wi j := by
  obtain ⟨two, Now, Then, nv, tv, li, h1, h2, h3⟩ := h
  exact h2
theorem UD.up (h : UD S w wi d b j) : Calls Tryz.prog 32 #[.pointer (some ⟨d, 0, none⟩)] wi fun e w' => e = .returned (.bool false) ∧ ∃ S', UD S' w w' d b j := by
  obtain ⟨two, Now, Then, nv, tv, li, h1, h2, h3⟩ := h
  refine (ad_up h1.ad).mono ?_
  rintro e w' ⟨rfl, hn⟩
  obtain ⟨S', g1, g2, g3⟩ := h1.nd hn
  exact ⟨rfl, S', two, Now, Then, nv, tv, li, g2, h2.kp g3 (fun hs => h3 (.inl hs)), fun hs => hs.elim (fun hs => (g1 j hs).elim (fun h => h3 (.inl h)) (fun h => by have := h2.lt; omega)) (fun h => h3 (.inr h))⟩
theorem UD.taken (h : UD S w wi d b j) (g : Addr) (hE : Eb w g) (hT : Er w) : Calls Tryz.prog 24 #[.pointer (some ⟨b, 0, none⟩), .pointer (some ⟨d, 0, none⟩)] wi fun e w' => ∃ jn, e = .returned (.pointer (some ⟨jn, 0, none⟩)) ∧ (∃ S M tl nv tv li, UJ S w w' d b jn tl M nv tv li) ∧ JN w' j := by
  obtain ⟨two, Now, Then, nv, tv, li, h1, h2, h3⟩ := h
  refine (up_any9 S w wi d b g hE hT _ _ _ _ _ _ _ _ h1).mono ?_
  rintro e w' ⟨jn, M, tl, nv', tv', li', S', rfl, g1, g2, g3, g4⟩
  exact ⟨jn, rfl, ⟨S', M, tl, nv', tv', li', g3⟩, h2.kp g4 h3⟩
/-- the power has failed from without -/
def UC (S : Nat → Prop) (w wi : World) (d b j : Nat) : Prop := ∃ x F M nv tv li sz tl, JS S w wi d j x F sz tl ∧ x.down = true ∧ Dn F M [] false ∧ BB wi b nv tv false li ∧ w.heap.size ≤ b ∧ ¬ (S b ∨ b = j) ∧ Lr w wi (fun k => S k ∨ k = b ∨ k = j) nv M
theorem UC.below (h : UC S w wi d b j) (hb : Below wi.heap.size wi w') : UC S w w' d b j := by
  obtain ⟨x, F, M, nv, tv, li, sz, tl, h1, h2, h3, h4, h5, h6, h7⟩ := h
  exact ⟨x, F, M, nv, tv, li, sz, tl, h1.below hb, h2, h3, h4.below hb, h5, h6, h7.below hb⟩
theorem UC.up (h : UC S w wi d b j) : Calls Tryz.prog 32 #[.pointer (some ⟨d, 0, none⟩)] wi fun e w' => e = .returned (.bool false) ∧ ∃ S', UC S' w w' d b j := by
  obtain ⟨x, F, M, nv, tv, li, sz, tl, h1, h2, h3, h4, h5, h6, h7⟩ := h
  have hu := aw_up h1.aw
  rw [h2] at hu
  refine hu.mono ?_
  rintro e w' ⟨rfl, hN⟩
  obtain ⟨S', g1, g2, g3⟩ := h1.nx hN
  have hbl := h4.lt
  have hnb : ¬ (S' b ∨ b = j) := fun hs => hs.elim (fun hs => (g1 b hs).elim (fun h => h6 (.inl h)) (fun h => by omega)) (fun h => h6 (.inr h))
  refine ⟨rfl, S', x, F, M, nv, tv, li, sz, tl, g2, h2, h3, h4.kp g3 (fun hs => h6 (.inl hs)), h5, hnb, ?_⟩
  obtain ⟨Z, a1, a2, a3, a4⟩ := h7
  refine ⟨Z, a1.kp g3 (fun g e hs => a4 g e (.inl hs)), a2, a3, fun g e hq => ?_⟩
  have := (a1.lt e).2
  rcases hq with hq | hq
  · rcases g1 g hq with h | h
    · exact a4 g e (.inl h)
    · omega
  · exact a4 g e (.inr hq)
theorem UC.add (h : UC S w wi d b j) (a : Option Addr) (n c : Nat) : Calls Tryz.prog 25 #[.pointer (some ⟨j, 0, none⟩), .slice a n c] wi fun e w' => e = .returned (.int .i64 3) ∧ ∃ S', UD S' w w' d b j := by
  obtain ⟨x, F, M, nv, tv, li, sz, tl, h1, h2, h3, h4, h5, h6, h7⟩ := h
  exact dn_add h1 h2 h3 h4 h5 h6 h7 a n c
theorem UD.add (h : UD S w wi d b j) (a : Option Addr) (n c : Nat) : Calls Tryz.prog 25 #[.pointer (some ⟨j, 0, none⟩), .slice a n c] wi fun e w' => e = .returned (.int .i64 3) ∧ ∃ S', UD S' w w' d b j := by
  refine (Add_nil h.jn a n c).mono ?_
  rintro e w' ⟨rfl, hb⟩
  exact ⟨rfl, S, h.below hb⟩
theorem UJ.fails (h : UJ S w wi d b j tl M nv tv li) (k : Int) (hk : -9223372036854775808 ≤ k ∧ k < 9223372036854775808) : Calls Tryz.prog 31 #[.pointer (some ⟨d, 0, none⟩), .int .i64 k] wi fun e w' => e = .returned (.tuple #[]) ∧ ∃ S', UC S' w w' d b j := by
  have hlo := h.lo
  refine (h.crash k hk).mono ?_
  rintro e w' ⟨rfl, S', x, F, h1, h2, h3, h4, h5, h6⟩
  exact ⟨rfl, S', x, F, M, nv, tv, li, _, tl, h1, h2, h3, h4, hlo, h5, h6⟩
theorem UJ.again (h : UJ S w wi d b j tl M nv tv li) (g : Addr) (hE : Eb w g) (hT : Er w) : Calls Tryz.prog 24 #[.pointer (some ⟨b, 0, none⟩), .pointer (some ⟨d, 0, none⟩)] wi fun e w' => ∃ jn, e = .returned (.pointer (some ⟨jn, 0, none⟩)) ∧ (∃ S M tl nv tv li, UJ S w w' d b jn tl M nv tv li) := by
  refine (up_any9 S w wi d b g hE hT _ _ _ _ _ _ _ _ h.ub).mono ?_
  rintro e w' ⟨jn, M, tl, nv', tv', li', S', rfl, g1, g2, g3, g4⟩
  exact ⟨jn, rfl, S', M, tl, nv', tv', li', g3⟩
/-- the end: the power fails once more, and the log is taken up -/
theorem UJ.falls (h : UJ S w wi d b j tl M nv tv li) (g : Addr) (hE : Eb w g) (hT : Er w) : Calls Tryz.prog 31 #[.pointer (some ⟨d, 0, none⟩), .int .i64 0] wi fun e w' => e = .returned (.tuple #[]) ∧ Calls Tryz.prog 24 #[.pointer (some ⟨b, 0, none⟩), .pointer (some ⟨d, 0, none⟩)] w' fun e w2 => ∃ jn, e = .returned (.pointer (some ⟨jn, 0, none⟩)) ∧ Below w.heap.size w w2 := by
  refine (ad_crash h.ub.ad 0 (by decide)).mono ?_
  rintro e w' ⟨rfl, hn⟩
  obtain ⟨S', g1, g2, g3⟩ := h.ub.nd hn
  refine ⟨rfl, (up_any9 S' w w' d b g hE hT _ _ _ _ _ _ _ _ g2).mono ?_⟩
  rintro e w2 ⟨jn, M, tl, nv', tv', li', S2, rfl, _, _, g3, _⟩
  exact ⟨jn, rfl, g3.bel⟩
end
end Go.Proofs.YtdcoafpenkofoaaGreatDoor
