import Derived.Test.YtknkmamjdmadcaaLGSM9
import Derived.Test.YtknkmamjdmadcaaUVEqM9

/- Stage 14: terms.Same of any states. -/
namespace Go.Proofs.Ytknkmamjdmadcaa
open Go.RowKit Go.Maps
set_option linter.unusedVariables false
set_option linter.unusedSimpArgs false

theorem equalV (x y : U.V) (n₀ : Nat) (w : World) (hn : n₀ ≤ w.heap.size) (hx : U.Lies n₀ w x) (hy : U.Lies n₀ w y) :
    Calls Try.prog 61 #[.agg #[.int .i64 x.k, .int .u64 x.n, .string x.s, .slice x.a x.l.length x.c, .int .i64 x.e], .agg #[.int .i64 y.k, .int .u64 y.n, .string y.s, .slice y.a y.l.length y.c, .int .i64 y.e]] w fun e w' => ∃ q : Bool, e = .returned (.bool q) ∧ Below w.heap.size w w' :=
  (U.equal_any x y n₀ w hn hx hy).mono fun e w' h => ⟨_, h.1, h.2⟩
theorem flt_cells {w : World} {N : Nat} {c t : ByteArray} {x : U.V} {ty : TypeId} (h : w.heap[N]? = some (.cells ⟨fL c t x⟩ ty (0, 0))) : w.cell? ⟨N, 0, none⟩ = some (.string c) ∧ w.cell? ⟨N, 1, none⟩ = some (.string t) ∧ w.cell? ⟨N, 2, none⟩ = some (.int .i64 x.k) ∧ w.cell? ⟨N, 3, none⟩ = some (.int .u64 x.n) ∧ w.cell? ⟨N, 4, none⟩ = some (.string x.s) ∧ w.cell? ⟨N, 5, none⟩ = some (.slice x.a x.l.length x.c) ∧ w.cell? ⟨N, 6, none⟩ = some (.int .i64 x.e) ∧ N < w.heap.size :=
  ⟨cellOf h 0 _ rfl, cellOf h 1 _ rfl, cellOf h 2 _ rfl, cellOf h 3 _ rfl, cellOf h 4 _ rfl, cellOf h 5 _ rfl, cellOf h 6 _ rfl, (Array.getElem?_eq_some_iff.1 h).1⟩
theorem sw_cells {w : World} {N : Nat} {s : Sw} {ty : TypeId} (h : w.heap[N]? = some (.cells s.A ty (0, 0))) : w.cell? ⟨N, 0, none⟩ = some (.int .i64 s.k) ∧ w.cell? ⟨N, 1, none⟩ = some (.int .i64 s.se) ∧ w.cell? ⟨N, 2, none⟩ = some (.int .i64 s.ofs) ∧ w.cell? ⟨N, 3, none⟩ = some (.string s.co) ∧ w.cell? ⟨N, 4, none⟩ = some (.string s.tx) ∧ w.cell? ⟨N, 5, none⟩ = some (.int .i64 s.inf.k) ∧ w.cell? ⟨N, 6, none⟩ = some (.int .u64 s.inf.n) ∧ w.cell? ⟨N, 7, none⟩ = some (.string s.inf.s) ∧ w.cell? ⟨N, 8, none⟩ = some (.slice s.inf.a s.inf.l.length s.inf.c) ∧ w.cell? ⟨N, 9, none⟩ = some (.int .i64 s.inf.e) ∧ w.cell? ⟨N, 10, none⟩ = some (.bool s.fa) ∧ w.cell? ⟨N, 11, none⟩ = some (.bool s.el) ∧ w.cell? ⟨N, 12, none⟩ = some (.int .i64 s.an.k) ∧ w.cell? ⟨N, 13, none⟩ = some (.int .u64 s.an.n) ∧ w.cell? ⟨N, 14, none⟩ = some (.string s.an.s) ∧ w.cell? ⟨N, 15, none⟩ = some (.slice s.an.a s.an.l.length s.an.c) ∧ w.cell? ⟨N, 16, none⟩ = some (.int .i64 s.an.e) ∧ w.cell? ⟨N, 17, none⟩ = some (.string s.tn) ∧ w.cell? ⟨N, 18, none⟩ = some (.slice s.ia s.il s.ic) ∧ N < w.heap.size :=
  ⟨cellOf h 0 _ rfl, cellOf h 1 _ rfl, cellOf h 2 _ rfl, cellOf h 3 _ rfl, cellOf h 4 _ rfl, cellOf h 5 _ rfl, cellOf h 6 _ rfl, cellOf h 7 _ rfl, cellOf h 8 _ rfl, cellOf h 9 _ rfl, cellOf h 10 _ rfl, cellOf h 11 _ rfl, cellOf h 12 _ rfl, cellOf h 13 _ rfl, cellOf h 14 _ rfl, cellOf h 15 _ rfl, cellOf h 16 _ rfl, cellOf h 17 _ rfl, cellOf h 18 _ rfl, (Array.getElem?_eq_some_iff.1 h).1⟩
set_option maxRecDepth 100000 in
set_option maxHeartbeats 1000000 in
theorem sameFault_any (c t : ByteArray) (x : U.V) (c' t' : ByteArray) (y : U.V) (n₀ : Nat) (w : World) (hn : n₀ ≤ w.heap.size) (hx : U.Lies n₀ w x) (hy : U.Lies n₀ w y) :
    Calls Try.prog 60 #[.agg ⟨fL c t x⟩, .agg ⟨fL c' t' y⟩] w fun e w' => ∃ q : Bool, e = .returned (.bool q) ∧ Below w.heap.size w w' := by
  obtain ⟨V, hV⟩ : ∃ V, (w.alloc (.cells ⟨fL c t x⟩ 50)).alloc (.cells ⟨fL c' t' y⟩ 50) = V := ⟨_, rfl⟩
  have a0 : V.heap[w.heap.size]? = some (.cells ⟨fL c t x⟩ 50 (0, 0)) := hV ▸ heap_past (heap_alloc_last w _) _
  have a1 : V.heap[w.heap.size + 1]? = some (.cells ⟨fL c' t' y⟩ 50 (0, 0)) := hV ▸ heap_last1 w _ _
  have hb : Below w.heap.size w V := hV ▸ bel1 (bel1 (Below.refl _ _) (Nat.le_refl _) _) (by simp) _
  obtain ⟨p0, p1, p2, p3, p4, p5, p6, pl⟩ := flt_cells a0
  obtain ⟨q0, q1, q2, q3, q4, q5, q6, ql⟩ := flt_cells a1
  have HE := hide (equalV x y n₀ V (Nat.le_trans hn hb.size) (hx.keep hb hn) (hy.keep hb hn))
  have HV := hide hV
  have HB := hide hb
  clear hV a0 a1 hb hx hy hn
  by_cases e1 : c.toList = c'.toList
  · have f1 : (c.toList == c'.toList) = true := by simpa using e1
    by_cases e2 : t.toList = t'.toList
    · have f2 : (t.toList == t'.toList) = true := by simpa using e2
      clear e1 e2
      go_enter Try.func60, Try.ntmps60
      go_wp2_with (first | rw [HV.out] | (go_at_call 61; refine HE.out.mono ?_; rintro e5 w1 ⟨q, rfl, hb1⟩; refine Shut.out ?_))
      unfold Shut
      go_wp2
      go_ret
      exact ⟨_, rfl, HB.out.trans (hb1.mono HB.out.size)⟩
    · have f2 : (t.toList == t'.toList) = false := by simpa using e2
      clear e1 e2
      go_enter Try.func60, Try.ntmps60
      go_wp2_with (first | rw [HV.out])
      go_ret
      exact ⟨_, rfl, HB.out⟩
  · have f1 : (c.toList == c'.toList) = false := by simpa using e1
    clear e1
    go_enter Try.func60, Try.ntmps60
    go_wp2_with (first | rw [HV.out])
    go_ret
    exact ⟨_, rfl, HB.out⟩
def SmOk (d : Nat) : Prop := ∀ (s t : Sw) (n₀ : Nat) (w : World), n₀ ≤ w.heap.size → StIn (fun b => b < n₀) w d s → StIn (fun b => b < n₀) w d t →
  Calls Try.prog 48 #[.agg s.A, .agg t.A] w fun e w' => ∃ q : Bool, e = .returned (.bool q) ∧ Below w.heap.size w w'
set_option maxRecDepth 100000 in
set_option maxHeartbeats 2000000 in
theorem eqStates (d : Nat) (il : Nat) (ih : 0 < il → SmOk d) (ia : Option Addr) (ic : Nat) (fs : Nat → Sw) (ja : Option Addr) (jl jc : Nat) (gs : Nat → Sw) (n₀ : Nat) (w : World) (hn : n₀ ≤ w.heap.size) (h : Inn (fun b => b < n₀) w d ia il ic fs) (k : Inn (fun b => b < n₀) w d ja jl jc gs) :
    Calls Try.prog 62 #[.slice ia il ic, .slice ja jl jc, .func (.func 48) #[] #[]] w fun e w' => ∃ q : Bool, e = .returned (.bool q) ∧ Below w.heap.size w w' := by
  by_cases hl : il = jl
  · subst hl
    have hsm : (il : Int) ≤ 606627104962 := by have := h.sm; omega
    have HI := hide h
    have HJ := hide k
    have IH := hide ih
    have HN := hide hn
    have hc1 := h.cap
    have hc2 := k.cap
    clear h k ih hn
    go_enter Try.func62, Try.ntmps62
    go_wp2
    go_loopw [17] (fun i wr => ∃ j : Nat, i = .int .i64 (j : Int) ∧ j ≤ il ∧ Hid (Below w.heap.size w wr)) (fun i _ => il - (intOf i).toNat)
    case atStart => exact ⟨0, rfl, Nat.zero_le _, Below.refl _ _⟩
    case round =>
      obtain ⟨j, rfl, hj, HB⟩ := hrel
      by_cases hjn : j < il
      · obtain ⟨b, o, rfl, hb, hr⟩ := HI.out.row (by omega)
        obtain ⟨b', o', rfl, hb', hr'⟩ := HJ.out.row (by omega)
        have hbl : b < w.heap.size := Nat.lt_of_lt_of_le hb HN.out
        have hbl' : b' < w.heap.size := Nat.lt_of_lt_of_le hb' HN.out
        have hsz := HB.out.size
        have hjb : (j : Int) ≤ 606627104962 := by omega
        obtain ⟨V1, hV1⟩ : ∃ V1, wr.alloc (.cells (fs j).A 53) = V1 := ⟨_, rfl⟩
        obtain ⟨V2, hV2⟩ : ∃ V2, V1.alloc (.cells (gs j).A 53) = V2 := ⟨_, rfl⟩
        have hb1 : Below wr.heap.size wr V1 := hV1 ▸ bel1 (Below.refl _ _) (Nat.le_refl _) _
        have hs1 : V1.heap.size = wr.heap.size + 1 := by rw [← hV1]; simp
        have hb2 : Below V1.heap.size V1 V2 := hV2 ▸ bel1 (Below.refl _ _) (Nat.le_refl _) _
        have n1 : V1.heap[wr.heap.size]? = some (.cells (fs j).A 53 (0, 0)) := hV1 ▸ heap_alloc_last wr _
        have n2 : V2.heap[wr.heap.size]? = some (.cells (fs j).A 53 (0, 0)) := (hb2.block _ (by omega)).trans n1
        have n3 : V2.heap[V1.heap.size]? = some (.cells (gs j).A 53 (0, 0)) := hV2 ▸ heap_alloc_last V1 _
        have hbV : Below w.heap.size w V2 := (HB.out.trans (hb1.mono hsz)).trans (hb2.mono (by omega))
        have HR1 : Hid (wr.rangeAt b (o + j * 19) (fs j).L) := range_keep (hr j hjn) (HB.out.block b hbl)
        have HR2 : Hid (V1.rangeAt b' (o' + j * 19) (gs j).L) := range_keep (hr' j hjn) ((hb1.block b' (by omega)).trans (HB.out.block b' hbl'))
        have HC := hide (IH.out (by omega) (fs j) (gs j) n₀ V2 (Nat.le_trans HN.out hbV.size) (StIn.keep (fun q hq => hbV.block q (Nat.lt_of_lt_of_le hq HN.out)) (fun _ h => h) (HI.out.sub j hjn)) (StIn.keep (fun q hq => hbV.block q (Nat.lt_of_lt_of_le hq HN.out)) (fun _ h => h) (HJ.out.sub j hjn)))
        have hA : b < wr.heap.size := by omega
        have hA' : b' < V1.heap.size := by omega
        have HV1 := hide hV1
        have HV2 := hide hV2
        have N2 := hide n2
        have N3 := hide n3
        have HBV := hide hbV
        clear hV1 hV2 hb1 hb2 n1 n2 n3 hbV hr hr' hs1 hb hb' hbl hbl'
        go_wp2_with (first | (refine wpList_load_mid rfl 53 (.tmp 20) rfl b (o + j * 19) rfl (fs j).L _ HR1.out Try.underlying53 rfl Try.infoSt ?_) | (refine wpList_store_row rfl 53 (.tmp 8) (.tmp 21) rfl wr.heap.size (fs j).A rfl rfl 53 _ (heap_alloc_last wr _) Try.infoSt rfl (fs j).one ?_; rw [World.setRow_alloc_new, HV1.out]) | (refine wpList_load_mid rfl 53 (.tmp 24) rfl b' (o' + j * 19) rfl (gs j).L _ HR2.out Try.underlying53 rfl Try.infoSt ?_) | (refine wpList_store_row rfl 53 (.tmp 9) (.tmp 25) rfl V1.heap.size (gs j).A rfl rfl 53 _ (heap_alloc_last V1 _) Try.infoSt rfl (gs j).one ?_; rw [World.setRow_alloc_new, HV2.out]) | (refine wpList_load_row rfl 53 (.tmp 8) rfl wr.heap.size rfl 53 (fs j).A (0, 0) _ N2.out Try.underlying53 rfl Try.infoSt ?_) | (refine wpList_load_row rfl 53 (.tmp 9) rfl V1.heap.size rfl 53 (gs j).A (0, 0) _ N3.out Try.underlying53 rfl Try.infoSt ?_))
        refine HC.out.mono ?_
        rintro e5 w5 ⟨q, rfl, hb5⟩
        have HB5 : Hid (Below w.heap.size w w5) := HBV.out.trans (hb5.mono HBV.out.size)
        clear hb5 HC HV1 HV2 HR1 HR2 N2 N3
        cases q
        · go_wp2
          go_ret
          exact ⟨_, rfl, HB5.out⟩
        · go_wp2
          go_roundw
          case rel => exact ⟨j + 1, by go_num, by omega, HB5.out⟩
          case measure => simp [intOf]; omega
      · obtain rfl : j = il := by omega
        go_wp2
        go_ret
        exact ⟨_, rfl, HB.out⟩
  · have hlb : ((il : Int) == (jl : Int)) = false := by simp; omega
    clear h k ih
    go_enter Try.func62, Try.ntmps62
    go_wp2
    go_ret
    exact ⟨_, rfl, Below.refl _ _⟩
set_option maxRecDepth 100000 in
set_option maxHeartbeats 4000000 in
theorem same_step (s t : Sw) (n₀ : Nat) (w : World) (hn : n₀ ≤ w.heap.size) (h1 : U.LiesIn (fun b => b < n₀) w s.inf) (h2 : U.LiesIn (fun b => b < n₀) w s.an) (h3 : U.LiesIn (fun b => b < n₀) w t.inf) (h4 : U.LiesIn (fun b => b < n₀) w t.an)
    (hE : ∀ w1, Below w.heap.size w w1 → Calls Try.prog 62 #[.slice s.ia s.il s.ic, .slice t.ia t.il t.ic, .func (.func 48) #[] #[]] w1 fun e w' => ∃ q : Bool, e = .returned (.bool q) ∧ Below w1.heap.size w1 w') :
    Calls Try.prog 48 #[.agg s.A, .agg t.A] w fun e w' => ∃ q : Bool, e = .returned (.bool q) ∧ Below w.heap.size w w' := by
  obtain ⟨V, hV⟩ : ∃ V, (w.alloc (.cells s.A 53)).alloc (.cells t.A 53) = V := ⟨_, rfl⟩
  have a0 : V.heap[w.heap.size]? = some (.cells s.A 53 (0, 0)) := hV ▸ heap_past (heap_alloc_last w _) _
  have a1 : V.heap[w.heap.size + 1]? = some (.cells t.A 53 (0, 0)) := hV ▸ heap_last1 w _ _
  have hb : Below w.heap.size w V := hV ▸ bel1 (bel1 (Below.refl _ _) (Nat.le_refl _) _) (by simp) _
  obtain ⟨p0, p1, p2, p3, p4, p5, p6, p7, p8, p9, p10, p11, p12, p13, p14, p15, p16, p17, p18, pl⟩ := sw_cells a0
  obtain ⟨q0, q1, q2, q3, q4, q5, q6, q7, q8, q9, q10, q11, q12, q13, q14, q15, q16, q17, q18, ql⟩ := sw_cells a1
  have hkp : ∀ {x : U.V} {w1 : World}, Below w.heap.size w w1 → U.LiesIn (fun b => b < n₀) w x → U.Lies n₀ w1 x := fun hb1 hx => lies_keep hx (fun b hb => hb1.block b (Nat.lt_of_lt_of_le hb hn)) (fun _ h => h)
  have HF := hide (sameFault_any s.co s.tx s.inf t.co t.tx t.inf n₀ V (Nat.le_trans hn hb.size) (hkp hb h1) (hkp hb h3))
  have HA : Hid (∀ w1, Below w.heap.size w w1 → Calls Try.prog 61 #[.agg #[.int .i64 s.an.k, .int .u64 s.an.n, .string s.an.s, .slice s.an.a s.an.l.length s.an.c, .int .i64 s.an.e], .agg #[.int .i64 t.an.k, .int .u64 t.an.n, .string t.an.s, .slice t.an.a t.an.l.length t.an.c, .int .i64 t.an.e]] w1 fun e w' => ∃ q : Bool, e = .returned (.bool q) ∧ Below w1.heap.size w1 w') := fun w1 hb1 => equalV s.an t.an n₀ w1 (Nat.le_trans hn hb1.size) (hkp hb1 h2) (hkp hb1 h4)
  have HE := hide hE
  have HV := hide hV
  have HB := hide hb
  have A0 := hide a0
  have A1 := hide a1
  unfold fL wL at HF
  clear hV a0 a1 hb h1 h2 h3 h4 hkp hE hn
  obtain ⟨k, se, ofs, co, tx, inf, fa, el, an, tn, ia, il, ic⟩ := s
  obtain ⟨k', se', ofs', co', tx', inf', fa', el', an', tn', ia', il', ic'⟩ := t
  dsimp only at *
  by_cases e1 : k = k'
  · have f1 : ((k : Int) == k') = true := by simpa using e1
    clear e1
    by_cases e2 : se = se'
    · have f2 : ((se : Int) == se') = true := by simpa using e2
      clear e2
      by_cases e3 : ofs = ofs'
      · have f3 : ((ofs : Int) == ofs') = true := by simpa using e3
        clear e3
        go_enter Try.func48, Try.ntmps48
        go_wp2_with (first | rw [HV.out] | (go_at_call 60; refine HF.out.mono ?_; rintro e5 w1 ⟨q, rfl, hb1⟩; refine Shut.out ?_))
        unfold Shut
        have HB1 : Hid (Below w.heap.size w w1) := HB.out.trans (hb1.mono HB.out.size)
        have k0 := (hb1.block _ pl).trans A0.out
        have k1 := (hb1.block _ ql).trans A1.out
        clear p0 p1 p2 p3 p4 p5 p6 p7 p8 p9 p10 p11 p12 p13 p14 p15 p16 p17 p18 pl q0 q1 q2 q3 q4 q5 q6 q7 q8 q9 q10 q11 q12 q13 q14 q15 q16 q17 q18 ql HF hb1 A0 A1 HV HB
        cases q
        · go_wp2
          go_ret
          exact ⟨_, rfl, HB1.out⟩
        obtain ⟨p0, p1, p2, p3, p4, p5, p6, p7, p8, p9, p10, p11, p12, p13, p14, p15, p16, p17, p18, pl⟩ := sw_cells k0
        obtain ⟨q0, q1, q2, q3, q4, q5, q6, q7, q8, q9, q10, q11, q12, q13, q14, q15, q16, q17, q18, ql⟩ := sw_cells k1
        have A0 := hide k0
        have A1 := hide k1
        clear k0 k1
        dsimp only at *
        by_cases e4 : fa = fa'
        rotate_left
        · have f4 : (fa == fa') = false := by simpa using e4
          clear e4
          go_wp2
          go_ret
          exact ⟨_, rfl, HB1.out⟩
        have f4 : (fa == fa') = true := by simpa using e4
        clear e4
        by_cases e5 : el = el'
        rotate_left
        · have f5 : (el == el') = false := by simpa using e5
          clear e5
          go_wp2
          go_ret
          exact ⟨_, rfl, HB1.out⟩
        have f5 : (el == el') = true := by simpa using e5
        clear e5
        go_wp2_with (first | (go_at_call 61; refine (HA.out w1 HB1.out).mono ?_; rintro e5 w2 ⟨q, rfl, hb2⟩; refine Shut.out ?_))
        unfold Shut
        have HB2 : Hid (Below w.heap.size w w2) := HB1.out.trans (hb2.mono HB1.out.size)
        have k0 := (hb2.block _ pl).trans A0.out
        have k1 := (hb2.block _ ql).trans A1.out
        clear p0 p1 p2 p3 p4 p5 p6 p7 p8 p9 p10 p11 p12 p13 p14 p15 p16 p17 p18 pl q0 q1 q2 q3 q4 q5 q6 q7 q8 q9 q10 q11 q12 q13 q14 q15 q16 q17 q18 ql HA hb2 A0 A1 HB1 f4 f5
        cases q
        · go_wp2
          go_ret
          exact ⟨_, rfl, HB2.out⟩
        obtain ⟨p0, p1, p2, p3, p4, p5, p6, p7, p8, p9, p10, p11, p12, p13, p14, p15, p16, p17, p18, pl⟩ := sw_cells k0
        obtain ⟨q0, q1, q2, q3, q4, q5, q6, q7, q8, q9, q10, q11, q12, q13, q14, q15, q16, q17, q18, ql⟩ := sw_cells k1
        clear k0 k1
        dsimp only at *
        by_cases e7 : tn.toList = tn'.toList
        rotate_left
        · have f7 : (tn.toList == tn'.toList) = false := by simpa using e7
          clear e7
          go_wp2
          go_ret
          exact ⟨_, rfl, HB2.out⟩
        have f7 : (tn.toList == tn'.toList) = true := by simpa using e7
        clear e7
        go_wp2_with (first | (go_at_call 62; refine (HE.out w2 HB2.out).mono ?_; rintro e5 w3 ⟨q, rfl, hb3⟩; refine Shut.out ?_))
        unfold Shut
        have HB3 : Hid (Below w.heap.size w w3) := HB2.out.trans (hb3.mono HB2.out.size)
        clear p0 p1 p2 p3 p4 p5 p6 p7 p8 p9 p10 p11 p12 p13 p14 p15 p16 p17 p18 pl q0 q1 q2 q3 q4 q5 q6 q7 q8 q9 q10 q11 q12 q13 q14 q15 q16 q17 q18 ql HE hb3
        go_wp2
        go_ret
        exact ⟨_, rfl, HB3.out⟩
      · have f3 : ((ofs : Int) == ofs') = false := by simpa using e3
        clear e3
        go_enter Try.func48, Try.ntmps48
        go_wp2_with (first | rw [HV.out])
        go_ret
        exact ⟨_, rfl, HB.out⟩
    · have f2 : ((se : Int) == se') = false := by simpa using e2
      clear e2
      go_enter Try.func48, Try.ntmps48
      go_wp2_with (first | rw [HV.out])
      go_ret
      exact ⟨_, rfl, HB.out⟩
  · have f1 : ((k : Int) == k') = false := by simpa using e1
    clear e1
    go_enter Try.func48, Try.ntmps48
    go_wp2_with (first | rw [HV.out])
    go_ret
    exact ⟨_, rfl, HB.out⟩
theorem same_any : ∀ d, SmOk d
  | 0 => fun s t n₀ w hn h k => same_step s t n₀ w hn h.vals.1 h.vals.2 k.vals.1 k.vals.2 fun w1 hb => eqStates 0 s.il (fun h0 => absurd h0 (by have := h.2.2.2; omega)) _ _ (fun _ => s) _ _ _ (fun _ => s) n₀ w1 (Nat.le_trans hn hb.size) ⟨h.2.2.1, by have := h.2.2.2; omega, fun h0 => by have := h.2.2.2; omega, fun i hi => by have := h.2.2.2; omega⟩ ⟨k.2.2.1, by have := k.2.2.2; omega, fun h0 => by have := k.2.2.2; omega, fun i hi => by have := k.2.2.2; omega⟩
  | d + 1 => fun s t n₀ w hn h k => by
    obtain ⟨fs, hi⟩ := inn_of h
    obtain ⟨gs, hj⟩ := inn_of k
    exact same_step s t n₀ w hn h.vals.1 h.vals.2 k.vals.1 k.vals.2 fun w1 hb => eqStates d s.il (fun _ => same_any d) _ _ fs _ _ _ gs n₀ w1 (Nat.le_trans hn hb.size) (hi.keep (fun q hq => hb.block q (Nat.lt_of_lt_of_le hq hn)) (fun _ h => h)) (hj.keep (fun q hq => hb.block q (Nat.lt_of_lt_of_le hq hn)) (fun _ h => h))
end Go.Proofs.Ytknkmamjdmadcaa
