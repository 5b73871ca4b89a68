/- HRCk, HChW -/
import Derived.Test.YtgldcchleoklcaaGreatDoorK48
import Derived.Test.YtgldcchleoklcaaGreatDoorK17
import Derived.Test.YtgldcchleoklcaaGreatDoorK44
import Derived.Test.YtgldcchleoklcaaGreatDoorK32
namespace Go.Proofs.YtgldcchleoklcaaGreatDoor

open Go.RowKit
set_option linter.unusedVariables false
set_option linter.unusedSimpArgs false
theorem ru_all : ∀ n q, rk q < n → UK q ∧ PK q := by
  intro n
  induction n with
  | zero => intro q h; omega
  | succ n ih =>
    intro q h
    have hq : ∀ q', rk q' < rk q → UK q' ∧ PK q' := fun q' h' => ih q' (by omega)
    refine ⟨fun v hv Q w hl hQ => runpack_step v (fun k hk => ?_) Q w hl hQ, rpacked_step q hq⟩
    rw [hv] at hk
    have e := Option.some.inj hk
    subst e
    exact hq
theorem rpacked_any (k : Int) : PK k := (ru_all 4 k (by have := rk_le k; omega)).2
theorem runpack_any (v : V) (Q : Nat → Prop) (w : World) (hv : LiesIn Q w v) (hQ : ∀ b, Q b → b < w.heap.size) : Calls Tryz.prog 27 #[v.val] w (RUR Q (unpR v) w) :=
  runpack_step v (fun k _ q _ => ru_all 4 q (by have := rk_le q; omega)) Q w hv hQ
theorem unpR_err (v : V) (h : chkE v = 0) : (unpR v).2.2 = (rep v.t).2 := by
  have hu : unpR v = unpT rep v.t := by unfold unpR; rw [if_neg (by simp [h])]
  rw [hu, rep_eq]
  by_cases hz : (unpT rep v.t).2.2 ≠ 0
  · rw [if_pos hz]
  · rw [if_neg hz]
    simpa using hz
/-- what suits answers -/
theorem suits_eq (s : FS) (v : V) (hc : chkE v = 0) (hk : v.k ≠ 0) : (chkV rep s v).2 = if fitsT s v.k v.e (kindV v.k v.l) = true then (if s.ty = 102 then (unpR v).2.2 else 0) else 73 := by
  unfold chkV
  rw [if_neg (by simp [hk]), if_neg (by simp [hc])]
  by_cases hsy : s.ty = 101 ∧ v.k = 20
  · have hff : fitsT s v.k v.e (kindV v.k v.l) = false := by
      unfold fitsT
      rw [if_neg (by omega), if_pos hsy.1, hsy.2]
      rfl
    rw [if_pos hsy, hff]
    rfl
  rw [if_neg hsy]
  by_cases h102 : s.ty = 102
  · have hA : fillT rep s v.t = (match kindV v.k v.l with | some k => if s.ks.contains k = true then rep v.t else (nul, 73) | none => (nul, 73)) := by
      unfold fillT
      rw [kindV_t, k_t, if_neg hk, if_neg (by omega), if_neg (by omega), if_pos h102]
      cases kindV v.k v.l <;> rfl
    have hB : fitsT s v.k v.e (kindV v.k v.l) = (match kindV v.k v.l with | some q => s.ks.contains q | none => false) := by
      unfold fitsT
      rw [if_neg (by omega), if_neg (by omega), if_pos h102]
      cases kindV v.k v.l <;> rfl
    rw [hA, hB, if_pos h102, unpR_err v hc]
    cases kindV v.k v.l with
    | none => simp
    | some q =>
      simp only
      split <;> rfl
  · rw [fit_fill hk h102 hsy, if_neg h102]
    split <;> rfl
set_option maxRecDepth 100000 in
set_option maxHeartbeats 8000000 in
theorem suits_any (f : Fd) (s : FS) (v : V) (Q : Nat → Prop) (w : World) (hQ : ∀ b, Q b → b < w.heap.size) (hf : FdIn 0 w f s) (hok : okFS s = true) (hv : LiesIn Q w v) :
    Calls Tryz.prog 36 #[f.val, v.val] w fun e w' => e = .returned (.int .i64 (chkV rep s v).2) ∧ Below w.heap.size w w' := by
  have hks : s.ks.length ≤ 100 := by
    unfold okFS at hok
    simp only [Bool.and_eq_true, decide_eq_true_eq] at hok
    omega
  have hvl := hv.lies hQ
  obtain ⟨q1, q2, q3, q4, q5, q6, q7⟩ := hf
  obtain ⟨W0, hW0⟩ : ∃ W0, (w.alloc (Obj.cells #[.string f.name, .int .i64 s.ty, .slice f.ka s.ks.length s.ks.length, .bool s.must, .int .i64 s.d.k, .int .u64 s.d.n, .string s.d.s, .slice s.d.a s.d.l.length s.d.c, .int .i64 s.d.e] 66)).alloc (Obj.cells #[.int .i64 v.k, .int .u64 v.n, .string v.s, .slice v.a v.l.length v.c, .int .i64 v.e] 42) = W0 := ⟨_, rfl⟩
  have hs0 : W0.heap.size = w.heap.size + 2 := by rw [← hW0]; simp
  have hb0 : Below w.heap.size w W0 := by rw [← hW0]; exact bel2 (Below.refl _ _) (Nat.le_refl _) _ _
  have hx0 : W0.heap[w.heap.size]? = some (.cells #[.string f.name, .int .i64 s.ty, .slice f.ka s.ks.length s.ks.length, .bool s.must, .int .i64 s.d.k, .int .u64 s.d.n, .string s.d.s, .slice s.d.a s.d.l.length s.d.c, .int .i64 s.d.e] 66 (0, 0)) := by rw [← hW0]; exact heap_past (World.alloc_heap_new _ _) _
  have hx1 : W0.heap[w.heap.size + 1]? = some (.cells #[.int .i64 v.k, .int .u64 v.n, .string v.s, .slice v.a v.l.length v.c, .int .i64 v.e] 42 (0, 0)) := by rw [← hW0]; exact heap_at1 _ _ _
  have HC : Hid (∀ w1, Below W0.heap.size W0 w1 → (w1.cell? ⟨w.heap.size, 0, none⟩ = some (.string f.name) ∧ w1.cell? ⟨w.heap.size, 1, none⟩ = some (.int .i64 s.ty) ∧ w1.cell? ⟨w.heap.size, 2, none⟩ = some (.slice f.ka s.ks.length s.ks.length) ∧ w1.cell? ⟨w.heap.size, 3, none⟩ = some (.bool s.must) ∧ w1.cell? ⟨w.heap.size, 4, none⟩ = some (.int .i64 s.d.k) ∧ w1.cell? ⟨w.heap.size, 5, none⟩ = some (.int .u64 s.d.n) ∧ w1.cell? ⟨w.heap.size, 6, none⟩ = some (.string s.d.s) ∧ w1.cell? ⟨w.heap.size, 7, none⟩ = some (.slice s.d.a s.d.l.length s.d.c) ∧ w1.cell? ⟨w.heap.size, 8, none⟩ = some (.int .i64 s.d.e)) ∧ (w1.cell? ⟨w.heap.size + 1, 0, none⟩ = some (.int .i64 v.k) ∧ w1.cell? ⟨w.heap.size + 1, 1, none⟩ = some (.int .u64 v.n) ∧ w1.cell? ⟨w.heap.size + 1, 2, none⟩ = some (.string v.s) ∧ w1.cell? ⟨w.heap.size + 1, 3, none⟩ = some (.slice v.a v.l.length v.c) ∧ w1.cell? ⟨w.heap.size + 1, 4, none⟩ = some (.int .i64 v.e)) ∧ Below w.heap.size w w1 ∧ w.heap.size + 1 < w1.heap.size) := fun w1 h => by
    have e0 := (h.block w.heap.size (by omega)).trans hx0
    have e1 := (h.block (w.heap.size + 1) (by omega)).trans hx1
    refine ⟨⟨?_, ?_, ?_, ?_, ?_, ?_, ?_, ?_, ?_⟩, ⟨?_, ?_, ?_, ?_, ?_⟩, belOn hb0 (by omega) h, by have := h.size; omega⟩ <;> (unfold World.cell?; first | (simp only [e1]; rfl) | (simp only [e0]; rfl))
  have hchk := refcheck_any spelled_any v w.heap.size W0 (by omega) (hvl.keep hb0 (Nat.le_refl _))
  have hE' : firstE checkZ (v.all 1) = chkE v := rfl
  rw [hE', V.val_eq] at hchk
  have HFIT : Hid (∀ w1, Below W0.heap.size W0 w1 → Calls Tryz.prog 101 #[.agg #[.string f.name, .int .i64 s.ty, .slice f.ka s.ks.length s.ks.length, .bool s.must, .int .i64 s.d.k, .int .u64 s.d.n, .string s.d.s, .slice s.d.a s.d.l.length s.d.c, .int .i64 s.d.e], .agg #[.int .i64 v.k, .int .u64 v.n, .string v.s, .slice v.a v.l.length v.c, .int .i64 v.e]] w1 fun e w' => e = .returned (.bool (fitsT s v.k v.e (kindV v.k v.l))) ∧ Below w1.heap.size w1 w') := fun w1 h => by
    have hbw := belOn hb0 (by omega) h
    have hh := fits_any f s v w.heap.size w1 (by have := hbw.size; omega) ⟨q1, q2, q3, q4, q5, q6, fun h0 => by
      obtain ⟨b, e, _, r2, r3⟩ := q7 h0
      exact ⟨b, e, Nat.zero_le _, by have := hbw.size; omega, (hbw.block b r2).trans r3⟩⟩ hks (hvl.keep hbw (Nat.le_refl _))
    rw [Fd.val_eq, V.val_eq, q2, q3, q4, q5, q6] at hh
    exact hh
  have HUN : Hid (∀ w1, Below W0.heap.size W0 w1 → Calls Tryz.prog 27 #[.agg #[.int .i64 v.k, .int .u64 v.n, .string v.s, .slice v.a v.l.length v.c, .int .i64 v.e]] w1 (RUR Q (unpR v) w1)) := fun w1 h => by
    have hbw := belOn hb0 (by omega) h
    have hh := runpack_any v Q w1 (LiesIn.keep hv (fun b' hb' o' => hbw.cell (p := ⟨b', o', none⟩) (hQ b' hb')) (fun _ h => h)) (fun b hb => by have := hQ b hb; have := hbw.size; omega)
    rwa [V.val_eq] at hh
  have HEQ := hide (suits_eq s v)
  have HEQ0 : Hid ((s.must = true → v.k = 0 → (chkV rep s v).2 = 72) ∧ ((s.must = false ∨ v.k ≠ 0) → chkE v ≠ 0 → (chkV rep s v).2 = chkE v) ∧ (s.must = false → v.k = 0 → chkE v = 0 → (chkV rep s v).2 = 0)) := by
    unfold chkV
    refine ⟨fun h1 h2 => by rw [if_pos (by simp [h1, h2])], fun h1 h2 => by rw [if_neg (by rcases h1 with h | h <;> simp [h]), if_pos h2], fun h1 h2 h3 => ?_⟩
    rw [if_neg (by simp [h1]), if_neg (by simp [h3]), if_neg (by omega)]
    unfold fillT
    rw [k_t, if_pos h2, h1, if_neg (by simp)]
  rw [Fd.val_eq, V.val_eq, q2, q3, q4, q5, q6]
  have HB0 := hide hb0
  have HS0 := hide hs0
  generalize (chkV rep s v).2 = ans at HEQ HEQ0 ⊢
  generalize chkE v = E at hchk HEQ HEQ0
  have HW0 := hide hW0
  have HCHK := hide hchk
  generalize fitsT s v.k v.e (kindV v.k v.l) = g at HFIT HEQ
  obtain ⟨⟨f0, f1, f2, f3, f4, f5, f6, f7, f8⟩, ⟨c0, c1, c2, c3, c4⟩, _, hz⟩ := HC.out W0 (Below.refl _ _)
  have hz' : w.heap.size < W0.heap.size := by omega
  clear hx0 hx1 hchk hW0 hv hvl q1 q2 q3 q4 q5 q6 q7 hE' hb0 hs0
  by_cases hk : v.k = 0
  · cases hmu : s.must
    · rw [hmu] at HW0 HC HFIT f3
      have HK := hide hk
      rw [hk] at HW0 HC HCHK c0 ⊢
      clear hk
      go_enter Tryz.func36, Tryz.ntmps36
      go_wp2_with fail
      rw [HW0.out]
      refine HCHK.out.mono ?_
      rintro e1 w1 ⟨rfl, hb1⟩
      obtain ⟨⟨g0, g1, g2, g3, g4, g5, g6, g7, g8⟩, ⟨d0, d1, d2, d3, d4⟩, hbw, hy⟩ := HC.out w1 hb1
      have hy' : w.heap.size < w1.heap.size := by omega
      by_cases hE : E = 0
      · have HA := HEQ0.out.2.2 hmu HK.out hE
        subst hE
        go_wp2
        go_ret
        exact ⟨by rw [HA]; rfl, hbw⟩
      · have HA := HEQ0.out.2.1 (.inl hmu) hE
        have hEb : (E == 0) = false := by simpa using hE
        have hEn : (E != 0) = true := by simpa using hE
        go_wp2
        go_ret
        exact ⟨by rw [HA]; rfl, hbw⟩
    · have HA := HEQ0.out.1 hmu hk
      rw [hmu] at HW0 HC f3
      rw [hk] at HW0 HC c0 ⊢
      go_enter Tryz.func36, Tryz.ntmps36
      go_wp2
      go_ret
      exact ⟨by rw [HA]; rfl, by first | exact HB0.out | (rw [HW0.out]; exact HB0.out)⟩
  · have hkb : (v.k == 0) = false := by simpa using hk
    by_cases hE : E = 0
    rotate_left
    · have HA := HEQ0.out.2.1 (.inr hk) hE
      have hEb : (E == 0) = false := by simpa using hE
      have hEn : (E != 0) = true := by simpa using hE
      go_enter Tryz.func36, Tryz.ntmps36
      go_wp2_with fail
      rw [HW0.out]
      refine HCHK.out.mono ?_
      rintro e1 w1 ⟨rfl, hb1⟩
      obtain ⟨_, _, hbw, hy⟩ := HC.out w1 hb1
      go_wp2
      go_ret
      exact ⟨by rw [HA]; rfl, hbw⟩
    have HA := hide (HEQ.out hE hk)
    subst hE
    clear HEQ HEQ0
    cases g
    · rw [if_neg (by simp)] at HA
      go_enter Tryz.func36, Tryz.ntmps36
      go_wp2_with fail
      rw [HW0.out]
      refine HCHK.out.mono ?_
      rintro e1 w1 ⟨rfl, hb1⟩
      obtain ⟨⟨g0, g1, g2, g3, g4, g5, g6, g7, g8⟩, ⟨d0, d1, d2, d3, d4⟩, hbw, hy⟩ := HC.out w1 hb1
      have hy' : w.heap.size < w1.heap.size := by omega
      go_wp2_with fail
      refine (HFIT.out w1 hb1).mono ?_
      rintro e2 w2 ⟨rfl, hb2⟩
      obtain ⟨_, _, hbw2, _⟩ := HC.out w2 (hb1.trans (hb2.mono hb1.size))
      clear g0 g1 g2 g3 g4 g5 g6 g7 g8 d0 d1 d2 d3 d4
      go_wp2
      go_ret
      exact ⟨by rw [HA.out]; rfl, hbw2⟩
    · rw [if_pos rfl] at HA
      by_cases h102 : s.ty = 102
      · rw [if_pos h102] at HA
        rw [h102] at HW0 HC HFIT f1 ⊢
        go_enter Tryz.func36, Tryz.ntmps36
        go_wp2_with fail
        rw [HW0.out]
        refine HCHK.out.mono ?_
        rintro e1 w1 ⟨rfl, hb1⟩
        obtain ⟨⟨g0, g1, g2, g3, g4, g5, g6, g7, g8⟩, ⟨d0, d1, d2, d3, d4⟩, hbw, hy⟩ := HC.out w1 hb1
        have hy' : w.heap.size < w1.heap.size := by omega
        go_wp2_with fail
        refine (HFIT.out w1 hb1).mono ?_
        rintro e2 w2 ⟨rfl, hb2⟩
        have hb02 := hb1.trans (hb2.mono hb1.size)
        obtain ⟨⟨k0, k1, k2, k3, k4, k5, k6, k7, k8⟩, ⟨m0, m1, m2, m3, m4⟩, hbw2, hy2⟩ := HC.out w2 hb02
        have hy2' : w.heap.size < w2.heap.size := by omega
        clear g0 g1 g2 g3 g4 g5 g6 g7 g8 d0 d1 d2 d3 d4
        go_wp2_with fail
        refine (HUN.out w2 hb02).mono ?_
        rintro e3 w3 ⟨u, rfl, _, hb3⟩
        dsimp only
        have hb23 : Below w.heap.size w w3 := hbw2.trans (hb3.mono hbw2.size)
        clear k0 k1 k2 k3 k4 k5 k6 k7 k8 m0 m1 m2 m3 m4
        go_wp2
        go_ret
        exact ⟨by rw [HA.out]; rfl, bel1 hb23 (by have := hb23.size; omega) _⟩
      · rw [if_neg h102] at HA
        have hb102 : (s.ty == 102) = false := by simpa using h102
        go_enter Tryz.func36, Tryz.ntmps36
        go_wp2_with fail
        rw [HW0.out]
        refine HCHK.out.mono ?_
        rintro e1 w1 ⟨rfl, hb1⟩
        obtain ⟨⟨g0, g1, g2, g3, g4, g5, g6, g7, g8⟩, ⟨d0, d1, d2, d3, d4⟩, hbw, hy⟩ := HC.out w1 hb1
        have hy' : w.heap.size < w1.heap.size := by omega
        go_wp2_with fail
        refine (HFIT.out w1 hb1).mono ?_
        rintro e2 w2 ⟨rfl, hb2⟩
        have hb02 := hb1.trans (hb2.mono hb1.size)
        obtain ⟨⟨k0, k1, k2, k3, k4, k5, k6, k7, k8⟩, ⟨m0, m1, m2, m3, m4⟩, hbw2, hy2⟩ := HC.out w2 hb02
        have hy2' : w.heap.size < w2.heap.size := by omega
        clear g0 g1 g2 g3 g4 g5 g6 g7 g8 d0 d1 d2 d3 d4
        go_wp2
        go_ret
        exact ⟨by rw [HA.out]; rfl, hbw2⟩
theorem rp_dp {k : Int} {fs : List FS} {l : List V} (hf : ftab k = some fs) (hl : l.length = fs.length) (hch : ∀ i (h1 : i < fs.length) (h2 : i < l.length), (chkV rep fs[i] l[i]).2 = 0) : (∀ t ∈ rpT fs l, t.t = t ∧ T.dp t ≤ 32) ∧ T.dp (laidT k (rpT fs l)) ≤ 40 := by
  have hall : ∀ t ∈ rpT fs l, t.t = t ∧ T.dp t ≤ 32 := fun t ht => by
    obtain ⟨i, hi, rfl⟩ := List.mem_iff_getElem.1 ht
    have h1 : i < fs.length := by rw [rpT_len hl] at hi; exact hi
    have h2 : i < l.length := by omega
    rw [rpT_at i hi h1 h2]
    have ho := ftab_r hf _ (List.getElem_mem h1)
    obtain ⟨w1, w2, w3, w4⟩ := chkV_fit ho (hch i h1 h2)
    by_cases hk : l[i].k = 0
    · rw [(w2 hk).2]
      exact ⟨fs_d_t _, by unfold FS.d; rw [dp_leaf]; omega⟩
    · by_cases h102 : fs[i].ty = 102
      · obtain ⟨q, hq, _, hr, he⟩ := w4 hk h102
        have h3 := rk_le q
        have hnd := (chk_iff _).1 w1
        have h4 := rep_re l[i].t q (t_t _) ((nd_t _).2 hnd.1) (by rw [kindV_t]; exact hq) (by omega) _ he
        refine ⟨h4.1, ?_⟩
        have h5 := h4.2.2.2.2.2
        rw [dp_t] at h5
        omega
      · rw [w3 hk h102]
        exact ⟨t_t _, by rw [dp_t]; exact ((chk_iff _).1 w1).2⟩
  refine ⟨hall, laid_dp hf (rpT_len hl) (fun t ht => (hall t ht).1) (by omega) (fun i h1 h2 _ => ?_)⟩
  have := (hall _ (List.getElem_mem h1)).2
  omega
theorem zip_bad {fs : List FS} {l : List V} (hl : l.length = fs.length) {kind : Int} {i : Nat} (h1 : i < fs.length) (h2 : i < l.length) (hz : (chkV rep fs[i] l[i]).2 ≠ 0) (hj : ∀ j (h1 : j < fs.length) (h2 : j < l.length), j < i → (chkV rep fs[j] l[j]).2 = 0) (hf : ftab kind = some fs) : packR kind l = (nul, (chkV rep fs[i] l[i]).2) := by
  unfold packR packT
  rw [hf]
  simp only
  rw [if_neg (by simp [hl])]
  have hzl : (List.zipWith (chkV rep) fs l).length = fs.length := by simp [hl]
  have hi : i < (List.zipWith (chkV rep) fs l).length := by rw [hzl]; exact h1
  have e : (List.zipWith (chkV rep) fs l)[i] = chkV rep fs[i] l[i] := by simp
  rw [rowT_bad hi (by rw [e]; exact hz) (fun j hjl hji => by
    have h3 : j < fs.length := by omega
    have e2 : (List.zipWith (chkV rep) fs l)[j] = chkV rep fs[j] (l[j]'(by omega)) := by simp
    rw [e2]
    exact hj j h3 (by omega) hji), e]
  unfold endT
  rw [if_pos hz]
theorem zip_good {fs : List FS} {l : List V} (hl : l.length = fs.length) {kind : Int} (hj : ∀ j (h1 : j < fs.length) (h2 : j < l.length), (chkV rep fs[j] l[j]).2 = 0) (hf : ftab kind = some fs) : packR kind l = if 32 < T.dp (laidT kind (rpT fs l)) then (nul, 26) else (laidT kind (rpT fs l), 0) := by
  unfold packR packT
  rw [hf]
  simp only
  rw [if_neg (by simp [hl])]
  rw [rowT_good (fun j hjl => by
    have h3 : j < fs.length := by simp [hl] at hjl; exact hjl
    have e2 : (List.zipWith (chkV rep) fs l)[j] = chkV rep fs[j] (l[j]'(by omega)) := by simp
    rw [e2]
    exact hj j h3 (by omega))]
  unfold endT
  rw [if_neg (by simp)]
  rfl
set_option maxRecDepth 100000 in
set_option maxHeartbeats 20000000 in
theorem rcheckR_any (kind : Int) (y : V) (Q : Nat → Prop) (w : World) (hQ : ∀ b, Q b → b < w.heap.size) (hy : LiesIn Q w (V.of 0 0 ⟨#[]⟩ y.a y.c 0 y.l)) :
    Calls Tryz.prog 17 #[.agg #[.int .i64 kind, .slice y.a y.l.length y.c]] w fun e w' => e = .returned (.int .i64 (packR kind y.l).2) ∧ Below w.heap.size w w' := by
  have hml : y.l.length ≤ 2199023255552 := (LiesIn.ok hy).c
  obtain ⟨N, hN⟩ : ∃ N, y.l.length = N := ⟨_, rfl⟩
  obtain ⟨ya, hya⟩ : ∃ ya, y.a = ya := ⟨_, rfl⟩
  obtain ⟨c, hc⟩ : ∃ c, y.c = c := ⟨_, rfl⟩
  rw [hN] at hml
  have HN := hide hN
  have HYA := hide hya
  have HYC := hide hc
  have HY := hide hy
  obtain ⟨R, hR⟩ : ∃ R, (packR kind y.l).2 = R := ⟨_, rfl⟩
  have HR := hide hR
  obtain ⟨W0, hW0⟩ : ∃ W0, w.alloc (Obj.cells #[.int .i64 kind, .slice ya N c] 33) = W0 := ⟨_, rfl⟩
  have hs0 : W0.heap.size = w.heap.size + 1 := by rw [← hW0]; simp
  have hb0 : Below w.heap.size w W0 := by rw [← hW0]; exact bel1 (Below.refl _ _) (Nat.le_refl _) _
  have hx0 : W0.heap[w.heap.size]? = some (.cells #[.int .i64 kind, .slice ya N c] 33 (0, 0)) := by rw [← hW0]; exact World.alloc_heap_new _ _
  have HC : Hid (∀ W', Below W0.heap.size W0 W' → W'.cell? ⟨w.heap.size, 0, none⟩ = some (.int .i64 kind) ∧ W'.cell? ⟨w.heap.size, 1, none⟩ = some (.slice ya N c) ∧ w.heap.size < W'.heap.size ∧ Below w.heap.size w W') := fun W' h => by
    have e0 := (h.block w.heap.size (by omega)).trans hx0
    exact ⟨by unfold World.cell?; simp only [e0]; rfl, by unfold World.cell?; simp only [e0]; rfl, by have := h.size; omega, belOn hb0 (by omega) h⟩
  have HF := hide (rfields_any kind W0)
  have HW0 := hide hW0
  have HS0 := hide hs0
  rw [hR, hN, hya, hc]
  clear hR hN hya hc hy hW0 hs0 hb0 hx0
  cases hft : ftab kind with
  | none =>
    have HRK : Hid (R = 70) := by rw [Hid, ← HR.out]; unfold packR packT; rw [hft]
    rw [hft] at HF
    go_enter Tryz.func17, Tryz.ntmps17
    go_wp2_with fail
    rw [HW0.out]
    refine HF.out.mono ?_
    rintro e1 w1 ⟨rfl, hb1⟩
    have hbw := (HC.out w1 hb1).2.2.2
    go_wp2
    go_ret
    exact ⟨by rw [HRK.out]; rfl, hbw⟩
  | some fs0 =>
    rw [hft] at HF
    obtain ⟨hN20, hfok⟩ := ftab_ok hft
    obtain ⟨M, hM⟩ : ∃ M, fs0.length = M := ⟨_, rfl⟩
    have hM20 : M ≤ 20 := by omega
    by_cases hNM : N = M
    rotate_left
    · have HRK : Hid (R = 71) := by rw [Hid, ← HR.out]; unfold packR packT; rw [hft]; simp only; rw [if_pos (by rw [HN.out, hM]; exact hNM)]
      have hne : ¬ ((N : Int) = (M : Int)) := by omega
      have hneb : ((N : Int) == (M : Int)) = false := by rw [beq_eq_false_iff_ne]; exact hne
      have hnen : ((N : Int) != (M : Int)) = true := by simpa using hne
      have HM := hide hM
      clear hM hNM hft hfok hN20
      go_enter Tryz.func17, Tryz.ntmps17
      go_wp2_with fail
      rw [HW0.out]
      refine HF.out.mono ?_
      rintro e1 w1 ⟨af, cf, fs, rfl, HFI, hlc, hb1⟩
      rw [HM.out]
      obtain ⟨k0, k1, hz, hbw⟩ := HC.out w1 hb1
      go_wp2
      go_ret
      exact ⟨by rw [HRK.out]; rfl, hbw⟩
    subst hNM
    have HM := hide hM
    have HFT := hide hft
    have HFOK := hide hfok
    clear hM hft hfok hN20
    go_enter Tryz.func17, Tryz.ntmps17
    go_wp2_with fail
    rw [HW0.out]
    refine HF.out.mono ?_
    rintro e1 w1 ⟨af, cf, fs, rfl, HFI, hlc, hb1⟩
    rw [HM.out] at hlc ⊢
    have HB1 := hide hb1
    clear hb1
    obtain ⟨k0, k1, hz, _⟩ := HC.out w1 HB1.out
    go_wp2
    clear k0 k1 hz
    go_loopw [5] (fun i wr => ∃ j : Nat, i = .int .i64 j ∧ j ≤ N ∧ Hid (Below w1.heap.size w1 wr) ∧ Hid (∀ i (h1 : i < fs0.length) (h2 : i < y.l.length), i < j → (chkV rep fs0[i] y.l[i]).2 = 0)) (fun i _ => N - (intOf i).toNat)
    case atStart => exact ⟨0, rfl, Nat.zero_le _, Below.refl _ _, fun i _ _ h => absurd h (by omega)⟩
    case round =>
      obtain ⟨j, rfl, hj, HB, HZ⟩ := hrel
      have HB0 : Hid (Below W0.heap.size W0 wr) := HB1.out.trans (HB.out.mono HB1.out.size)
      obtain ⟨k0, k1, hz, hbw⟩ := HC.out wr HB0.out
      have HBW := hide hbw
      clear hbw
      by_cases hjN : j < N
      · have hjl : j < fs0.length := by rw [HM.out]; exact hjN
        have hjy : j < y.l.length := by rw [HN.out]; exact hjN
        have hjf : j < fs.length := by rw [HFI.out.1]; exact hjl
        obtain ⟨bf, rfl, _, hbf, hfr⟩ := HFI.out.2.1 (by omega)
        have hfd := HFI.out.2.2 j hjf hjl
        obtain ⟨f0, f1, f2, f3, f4, f5, f6, f7, f8⟩ := (hfr.below HB.out hbf).cells j hjf
        have hokf := HFOK.out _ (List.getElem_mem hjl)
        obtain ⟨b3, o3, e3, hb3q, hrow3⟩ := LiesIn.row HY.out (by omega)
        rw [HYA.out] at e3
        subst e3
        have hb3 := hQ b3 hb3q
        have hb3r : b3 < wr.heap.size := by have := HBW.out.size; omega
        have hbfr : bf < wr.heap.size := by have := HB.out.size; omega
        have hxl := LiesIn.sub HY.out _ (List.getElem_mem hjy)
        obtain ⟨x0, x1, x2, x3, x4⟩ := hrow3.below HBW.out hb3 j hjy
        obtain ⟨r, hr⟩ : ∃ r, (chkV rep fs0[j] y.l[j]).2 = r := ⟨_, rfl⟩
        have HRJ : Hid (∃ (h1 : j < fs0.length) (h2 : j < y.l.length), (chkV rep fs0[j] y.l[j]).2 = r) := ⟨hjl, hjy, hr⟩
        have hsuit : Calls Tryz.prog 36 #[fs[j].val, y.l[j].val] wr.drew fun e w' => e = .returned (.int .i64 r) ∧ Below wr.heap.size wr.drew w' := by
          rw [← hr]
          have hb3' : Below w1.heap.size w1 wr.drew := HB.out.drew
          have hbwd : Below w.heap.size w wr.drew := HBW.out.drew
          refine suits_any fs[j] fs0[j] y.l[j] Q wr.drew (fun b h => by have := hQ b h; have := hbwd.size; omega) ?_ hokf (LiesIn.keep hxl (fun b' hb' o' => hbwd.cell (p := ⟨b', o', none⟩) (hQ b' hb')) (fun _ h => h))
          obtain ⟨q1, q2, q3, q4, q5, q6, q7⟩ := hfd
          refine ⟨q1, q2, q3, q4, q5, q6, fun h0 => ?_⟩
          obtain ⟨b, e, _, r2, r3⟩ := q7 h0
          exact ⟨b, e, Nat.zero_le _, by have := hb3'.size; omega, (hb3'.block b r2).trans r3⟩
        generalize fs[j] = F at *
        generalize y.l[j] = X at *
        rw [Fd.val_eq, V.val_eq] at hsuit
        have HSU := hide hsuit
        have HS : Hid (∀ W', Below wr.heap.size wr W' → (fun W' => W'.cell? ⟨bf, j * 9, none⟩ = some (.string F.name) ∧ W'.cell? ⟨bf, j * 9 + 1, none⟩ = some (.int .i64 F.ty) ∧ W'.cell? ⟨bf, j * 9 + 2, none⟩ = some (.slice F.ka F.kl F.kc) ∧ W'.cell? ⟨bf, j * 9 + 3, none⟩ = some (.bool F.must) ∧ W'.cell? ⟨bf, j * 9 + 4, none⟩ = some (.int .i64 F.d.k) ∧ W'.cell? ⟨bf, j * 9 + 5, none⟩ = some (.int .u64 F.d.n) ∧ W'.cell? ⟨bf, j * 9 + 6, none⟩ = some (.string F.d.s) ∧ W'.cell? ⟨bf, j * 9 + 7, none⟩ = some (.slice F.d.a F.d.l.length F.d.c) ∧ W'.cell? ⟨bf, j * 9 + 8, none⟩ = some (.int .i64 F.d.e) ∧ W'.cell? ⟨w.heap.size, 1, none⟩ = some (.slice (some ⟨b3, o3, none⟩) N c) ∧ W'.cell? ⟨b3, o3 + j * 5, none⟩ = some (.int .i64 X.k) ∧ W'.cell? ⟨b3, o3 + j * 5 + 1, none⟩ = some (.int .u64 X.n) ∧ W'.cell? ⟨b3, o3 + j * 5 + 2, none⟩ = some (.string X.s) ∧ W'.cell? ⟨b3, o3 + j * 5 + 3, none⟩ = some (.slice X.a X.l.length X.c) ∧ W'.cell? ⟨b3, o3 + j * 5 + 4, none⟩ = some (.int .i64 X.e)) W') := by
          intro W' hW'
          have e : ∀ b o', b < wr.heap.size → W'.cell? ⟨b, o', none⟩ = wr.cell? ⟨b, o', none⟩ := fun b o' hb => hW'.cell (p := ⟨b, o', none⟩) hb
          exact ⟨(e _ _ hbfr).trans f0, (e _ _ hbfr).trans f1, (e _ _ hbfr).trans f2, (e _ _ hbfr).trans f3, (e _ _ hbfr).trans f4, (e _ _ hbfr).trans f5, (e _ _ hbfr).trans f6, (e _ _ hbfr).trans f7, (e _ _ hbfr).trans f8, (e _ _ hz).trans k1, (e _ _ hb3r).trans x0, (e _ _ hb3r).trans x1, (e _ _ hb3r).trans x2, (e _ _ hb3r).trans x3, (e _ _ hb3r).trans x4⟩
        have HBR : Hid (Below wr.heap.size wr wr.drew) := (Below.refl _ _).drew
        clear hsuit hfd hokf hxl hrow3 hr hfr
        go_wp2_with fail
        refine wp_region_held_drew (S := (fun W' => W'.cell? ⟨bf, j * 9, none⟩ = some (.string F.name) ∧ W'.cell? ⟨bf, j * 9 + 1, none⟩ = some (.int .i64 F.ty) ∧ W'.cell? ⟨bf, j * 9 + 2, none⟩ = some (.slice F.ka F.kl F.kc) ∧ W'.cell? ⟨bf, j * 9 + 3, none⟩ = some (.bool F.must) ∧ W'.cell? ⟨bf, j * 9 + 4, none⟩ = some (.int .i64 F.d.k) ∧ W'.cell? ⟨bf, j * 9 + 5, none⟩ = some (.int .u64 F.d.n) ∧ W'.cell? ⟨bf, j * 9 + 6, none⟩ = some (.string F.d.s) ∧ W'.cell? ⟨bf, j * 9 + 7, none⟩ = some (.slice F.d.a F.d.l.length F.d.c) ∧ W'.cell? ⟨bf, j * 9 + 8, none⟩ = some (.int .i64 F.d.e) ∧ W'.cell? ⟨w.heap.size, 1, none⟩ = some (.slice (some ⟨b3, o3, none⟩) N c) ∧ W'.cell? ⟨b3, o3 + j * 5, none⟩ = some (.int .i64 X.k) ∧ W'.cell? ⟨b3, o3 + j * 5 + 1, none⟩ = some (.int .u64 X.n) ∧ W'.cell? ⟨b3, o3 + j * 5 + 2, none⟩ = some (.string X.s) ∧ W'.cell? ⟨b3, o3 + j * 5 + 3, none⟩ = some (.slice X.a X.l.length X.c) ∧ W'.cell? ⟨b3, o3 + j * 5 + 4, none⟩ = some (.int .i64 X.e))) (by kernel_rfl) (HS.out _ HBR.out) (fun hHeld => ?_)
        refine take_do (i := 0) (d := 29) (v := ?_) rfl rfl (by kernel_rfl) (by kernel_rfl) (by kernel_rfl) (fun _ _ _ h => h) rfl ?_ (by assumption) ?_
        rotate_left
        · intro w hSw
          try dsimp only at hSw
          go_simp
          try with_reducible rfl
        try simp only [List.setIfInBounds_toArray, List.set_cons_zero, List.set_cons_succ]
        refine take_do (i := 1) (d := 30) (v := ?_) rfl rfl (by kernel_rfl) (by kernel_rfl) (by kernel_rfl) (fun _ _ _ h => h) rfl ?_ (by assumption) ?_
        rotate_left
        · intro w hSw
          try dsimp only at hSw
          go_simp
          try with_reducible rfl
        try simp only [List.setIfInBounds_toArray, List.set_cons_zero, List.set_cons_succ]
        refine take_do (i := 2) (d := 31) (v := ?_) rfl rfl (by kernel_rfl) (by kernel_rfl) (by kernel_rfl) (fun _ _ _ h => h) rfl ?_ (by assumption) ?_
        rotate_left
        · intro w hSw
          try dsimp only at hSw
          go_simp
          try with_reducible rfl
        try simp only [List.setIfInBounds_toArray, List.set_cons_zero, List.set_cons_succ]
        refine take_do (i := 3) (d := 32) (v := ?_) rfl rfl (by kernel_rfl) (by kernel_rfl) (by kernel_rfl) (fun _ _ _ h => h) rfl ?_ (by assumption) ?_
        rotate_left
        · intro w hSw
          try dsimp only at hSw
          go_simp
          try with_reducible rfl
        try simp only [List.setIfInBounds_toArray, List.set_cons_zero, List.set_cons_succ]
        refine take_do (i := 4) (d := 33) (v := ?_) rfl rfl (by kernel_rfl) (by kernel_rfl) (by kernel_rfl) (fun _ _ _ h => h) rfl ?_ (by assumption) ?_
        rotate_left
        · intro w hSw
          try dsimp only at hSw
          go_simp
          try with_reducible rfl
        try simp only [List.setIfInBounds_toArray, List.set_cons_zero, List.set_cons_succ]
        refine take_do (i := 5) (d := 34) (v := ?_) rfl rfl (by kernel_rfl) (by kernel_rfl) (by kernel_rfl) (fun _ _ _ h => h) rfl ?_ (by assumption) ?_
        rotate_left
        · intro w hSw
          try dsimp only at hSw
          go_simp
          try with_reducible rfl
        try simp only [List.setIfInBounds_toArray, List.set_cons_zero, List.set_cons_succ]
        refine take_do (i := 6) (d := 35) (v := ?_) rfl rfl (by kernel_rfl) (by kernel_rfl) (by kernel_rfl) (fun _ _ _ h => h) rfl ?_ (by assumption) ?_
        rotate_left
        · intro w hSw
          try dsimp only at hSw
          go_simp
          try with_reducible rfl
        try simp only [List.setIfInBounds_toArray, List.set_cons_zero, List.set_cons_succ]
        refine take_do (i := 7) (d := 36) (v := ?_) rfl rfl (by kernel_rfl) (by kernel_rfl) (by kernel_rfl) (fun _ _ _ h => h) rfl ?_ (by assumption) ?_
        rotate_left
        · intro w hSw
          try dsimp only at hSw
          go_simp
          try with_reducible rfl
        try simp only [List.setIfInBounds_toArray, List.set_cons_zero, List.set_cons_succ]
        refine take_do (i := 8) (d := 37) (v := ?_) rfl rfl (by kernel_rfl) (by kernel_rfl) (by kernel_rfl) (fun _ _ _ h => h) rfl ?_ (by assumption) ?_
        rotate_left
        · intro w hSw
          try dsimp only at hSw
          go_simp
          try with_reducible rfl
        try simp only [List.setIfInBounds_toArray, List.set_cons_zero, List.set_cons_succ]
        refine wpAnyH_ready (rs := [9]) (by kernel_rfl) (by simp) ?_
        refine AllReadyH.cons rfl (fun K hK => ?_) AllReadyH.nil
        go_simp
        go_wp2_with (go_at_call 36; refine Calls.mono HSU.out ?_; rintro e6 w6 ⟨rfl, hb6⟩; have HB6 : Hid (Below wr.heap.size wr w6) := HBR.out.trans hb6; clear hb6)
        refine hK.out _ _ (HS.out _ HB6.out) (fun hHeld => ?_)
        clear hK K
        refine take_do (i := 10) (d := 6) (v := ?_) rfl rfl (by kernel_rfl) (by kernel_rfl) (by kernel_rfl) (fun _ _ _ h => h) rfl ?_ (by assumption) ?_
        rotate_left
        · intro w hSw
          try dsimp only at hSw
          go_simp
          try with_reducible rfl
        try simp only [List.setIfInBounds_toArray, List.set_cons_zero, List.set_cons_succ]
        refine wpAnyH_done (by kernel_rfl) ?_ _
        have HBW6 : Hid (Below w1.heap.size w1 w6) := HB.out.trans (HB6.out.mono HB.out.size)
        clear HS HSU HBR f0 f1 f2 f3 f4 f5 f6 f7 f8 x0 x1 x2 x3 x4
        by_cases hr0 : r = 0
        · have HZ' : Hid (∀ i (h1 : i < fs0.length) (h2 : i < y.l.length), i < j + 1 → (chkV rep fs0[i] y.l[i]).2 = 0) := fun i h1 h2 hi => by
            by_cases e : i = j
            · subst e
              obtain ⟨_, _, e⟩ := HRJ.out
              rw [e]
              exact hr0
            · exact HZ.out i h1 h2 (by omega)
          subst hr0
          go_wp2
          go_roundw
          case rel => exact ⟨j + 1, by go_num, by omega, HBW6, HZ'⟩
          case measure => simp [intOf]; omega
        · have hrb : (r == 0) = false := by simpa using hr0
          have hrn : (r != 0) = true := by simpa using hr0
          have HRK : Hid (R = r) := by
            obtain ⟨h1, h2, e⟩ := HRJ.out
            rw [Hid, ← HR.out, zip_bad (by rw [HN.out, HM.out]) h1 h2 (by rw [e]; exact hr0) (fun i h1 h2 hi => HZ.out i h1 h2 hi) HFT.out]
            exact e
          have hbw6 := (HC.out w6 (HB1.out.trans (HBW6.out.mono HB1.out.size))).2.2.2
          go_wp2
          go_ret
          exact ⟨by rw [HRK.out]; rfl, hbw6⟩
      · obtain rfl : j = N := by omega
        have hlen : y.l.length = fs0.length := by rw [HN.out, HM.out]
        have hall : ∀ i (h1 : i < fs0.length) (h2 : i < y.l.length), (chkV rep fs0[i] y.l[i]).2 = 0 := fun i h1 h2 => HZ.out i h1 h2 (by have := HM.out; omega)
        obtain ⟨hrp1, hrp2⟩ := rp_dp HFT.out hlen hall
        have hpk := rpacked_any kind fs0 Q wr y af cf fs HFT.out (LiesIn.keep HY.out (fun b' hb' o' => HBW.out.cell (p := ⟨b', o', none⟩) (hQ b' hb')) (fun _ h => h)) (fun b h => by have := hQ b h; have := HBW.out.size; omega) hlen hall ((HFI.out.flds (Below.refl _ _)).below HB.out) (by rw [HM.out]; exact hlc)
        rw [HYA.out, HYC.out, HN.out, HM.out] at hpk
        have HPK := hide hpk
        have HRK : Hid (R = if 32 < T.dp (laidT kind (rpT fs0 y.l)) then 26 else 0) := by
          rw [Hid, ← HR.out, zip_good hlen hall HFT.out]
          split <;> rfl
        have HDP := hide hrp2
        clear hpk hrp1 hrp2 hall hlen
        go_wp2_with fail
        refine HPK.out.mono ?_
        rintro e4 w4 ⟨z, rfl, HZ4, hb4⟩
        have hs4 := hb4.size
        have hdz : T.dp z = T.dp (laidT kind (rpT fs0 y.l)) := by rw [← dp_t z, HZ4.out.1]
        have hzl : Lies w4.heap.size w4 z := LiesIn.keep HZ4.out.2 (fun _ _ _ => rfl) (fun b hq => hq.elim (fun h => by have := hQ b h; have := HBW.out.size; omega) (fun h => h.2))
        obtain ⟨W5, hW5⟩ : ∃ W5, w4.alloc (Obj.cells #[.int .i64 z.k, .int .u64 z.n, .string z.s, .slice z.a z.l.length z.c, .int .i64 z.e] 42) = W5 := ⟨_, rfl⟩
        have hb5 : Below w4.heap.size w4 W5 := by rw [← hW5]; exact bel1 (Below.refl _ _) (Nat.le_refl _) _
        have hdep := rdp_any z (by rw [hdz]; have := HDP.out; omega) w4.heap.size W5 hb5.size (hzl.keep hb5 (Nat.le_refl _))
        rw [hdz, V.val_eq] at hdep
        have HD := HDP.out
        generalize T.dp (laidT kind (rpT fs0 y.l)) = D at hdep HRK HD hdz
        have HDE := hide hdep
        have HW5 := hide hW5
        have hbw4 : Below w.heap.size w w4 := HBW.out.trans (hb4.mono HBW.out.size)
        have hbw5 : Below w.heap.size w W5 := hbw4.trans (hb5.mono hbw4.size)
        clear hdep hW5 hdz hzl k0 k1
        go_wp2_with fail
        rw [HW5.out]
        refine HDE.out.mono ?_
        rintro e6 w6 ⟨rfl, hb6⟩
        have hbw6 : Below w.heap.size w w6 := hbw5.trans (hb6.mono hbw5.size)
        by_cases hD32 : 32 < D
        · rw [if_pos hD32] at HRK
          go_wp2
          go_ret
          exact ⟨by rw [HRK.out]; rfl, hbw6⟩
        · rw [if_neg hD32] at HRK
          go_wp2
          go_ret
          exact ⟨by rw [HRK.out]; rfl, hbw6⟩
end Go.Proofs.YtgldcchleoklcaaGreatDoor
namespace Go.Proofs.YtgldcchleoklcaaGreatDoor

open Go.RowKit
set_option linter.unusedVariables false
set_option linter.unusedSimpArgs false
theorem chkV_same {s : FS} {x y : V} (h : x.t = y.t) : chkV rep s x = chkV rep s y := by
  have hk : x.k = y.k := by rw [← k_t x, h, k_t]
  have hc : chkE x = chkE y := check_same h 1
  unfold chkV
  rw [hk, hc, h]
theorem zip_ts {fs : List FS} {l m : List V} (h : V.ts l = V.ts m) : List.zipWith (chkV rep) fs l = List.zipWith (chkV rep) fs m := by
  have hlen : l.length = m.length := by have := congrArg List.length h; rwa [V.ts_length, V.ts_length] at this
  apply List.ext_getElem
  · simp [hlen]
  · intro i h1 h2
    have h3 : i < l.length := by simp at h1; omega
    have h4 : i < m.length := by omega
    rw [List.getElem_zipWith, List.getElem_zipWith]
    refine chkV_same ?_
    have e : (V.ts l)[i]? = (V.ts m)[i]? := by rw [h]
    rw [V.ts_map, V.ts_map, List.getElem?_map, List.getElem?_map, List.getElem?_eq_getElem h3, List.getElem?_eq_getElem h4] at e
    exact Option.some.inj e
theorem packR_ts {k : Int} {l m : List V} (h : V.ts l = V.ts m) : packR k l = packR k m := by
  have hlen : l.length = m.length := by have := congrArg List.length h; rwa [V.ts_length, V.ts_length] at this
  unfold packR packT
  cases ftab k with
  | none => rfl
  | some fs => simp only [hlen, zip_ts h]
/-- a list of values as it was lent -/
def LentL (l : List V) (lo hi : Nat) (w : World) : Prop := ∃ l' : List V, V.ts l' = V.ts l ∧ l'.length = l.length ∧ Lent w (.of 0 0 ⟨#[]⟩ (some ⟨lo, 0, none⟩) (l.length + 3) 0 l') lo hi
theorem LentRow.lent {l : List V} {N : Nat} {w' : World} (h : LentRow l N w') (hl : l.length ≤ 2199023255552) : LentL l N w'.heap.size w' := by
  obtain ⟨l', hts, hxb, hxr, g, hg0, hg1, hgl⟩ := h
  have hlen : l'.length = l.length := by simpa [V.ts_length] using congrArg List.length hts
  exact ⟨l', hts, hlen, (Lent.iff _ _ _ _ _ _ _ _ _ _).2 ⟨N, Nat.le_refl _, rfl, by rw [hlen], ⟨by decide, by decide, by decide, by decide, by omega, by omega⟩, by rw [hlen]; exact hxb, by rw [hlen]; exact hxr, g, hg0, by rw [hlen]; exact hg1, fun i h => hgl i h⟩⟩
theorem LentL.keep {l : List V} {lo hi : Nat} {w w' : World} (h : LentL l lo hi w) (hb : ∀ b, lo ≤ b → b < hi → w'.heap[b]? = w.heap[b]?) : LentL l lo hi w' := by
  obtain ⟨l', h1, h2, h3⟩ := h
  exact ⟨l', h1, h2, h3.keep (fun b o q1 q2 q3 => (hb b q1 q2).trans q3)⟩
/-- it is as it was lent -/
theorem LentL.as {l : List V} {lo hi : Nat} {w : World} {a : Option Addr} {c n₀ : Nat} (h : LentL l lo hi w) (hhi : hi ≤ w.heap.size) (hv : Lies n₀ w (V.of 0 0 ⟨#[]⟩ a c 0 l)) (hn : n₀ ≤ lo) :
    Calls Tryz.prog 18 #[.slice (some ⟨lo, 0, none⟩) l.length (l.length + 3), .slice a l.length c] w fun e w' => e = .returned (.bool true) ∧ Turns lo hi w w' := by
  obtain ⟨l', hts, hlen, hx⟩ := h
  have hr := hx.rise
  obtain ⟨b7, k1, k2, k3, k4, k5, k6, g7, k7, k8, k9⟩ := (Lent.iff _ _ _ _ _ _ _ _ _ _).1 hx
  have q := asLentAll_any l' l (fun x _ => asLent_any x) b7 g7 a c lo hi (fun b => b < n₀) w k1 k5 k6 k7 k8 k9 hhi hts (by rw [hlen]; exact hv.ok.c) hv.row hv.sub (fun b hb => ⟨by omega, by omega⟩)
  cases k2
  rw [hlen] at q
  exact q
/-- behind the lending -/
def LentP (kk : Int) (l : List V) (n : Nat) (w2 : World) (bx lo hi : Nat) (wx : World) : Prop := wx.heap[bx]? = some (.cells #[.int .i64 kk, .slice (some ⟨lo, 0, none⟩) n (n + 3)] 33 (0, 0)) ∧ LentL l lo hi wx ∧ hi ≤ wx.heap.size ∧ w2.heap.size ≤ lo ∧ (bx < lo ∨ hi ≤ bx) ∧ w2.heap.size ≤ bx ∧ bx < wx.heap.size ∧ Below w2.heap.size w2 wx
theorem lentp_fin {kk : Int} {l : List V} {n : Nat} {w2 W : World} {bx lo hi : Nat} {a b : Value} (hx : W.heap[bx]? = some (.cells #[a, b] 33 (0, 0))) (hl : LentL l lo hi W) (hhi : hi ≤ W.heap.size) (hlo : w2.heap.size ≤ lo) (hb : bx < lo ∨ hi ≤ bx) (h1 : w2.heap.size ≤ bx) (h2 : bx < W.heap.size) (hw : Below w2.heap.size w2 W) :
    LentP kk l n w2 bx lo hi ((W.setCell ⟨bx, 0, none⟩ (.int .i64 kk)).setCell ⟨bx, 1, none⟩ (.slice (some ⟨lo, 0, none⟩) n (n + 3))) := by
  refine ⟨by simp [World.setCell, Array.getElem?_modify, hx], hl.keep (fun c q1 q2 => (setC_ne _ (by omega) _).trans (setC_ne _ (by omega) _)), by simp [World.setCell]; exact hhi, hlo, hb, h1, by simp [World.setCell]; exact h2, (hw.setCell (p := ⟨bx, 0, none⟩) h1 _).setCell (p := ⟨bx, 1, none⟩) h1 _⟩
set_option maxRecDepth 100000 in
set_option maxHeartbeats 8000000 in
theorem checks_walk (kk : Int) (x : V) (w : World) (wk : -9223372036854775808 ≤ kk ∧ kk ≤ 9223372036854775807) (hx : Lies w.heap.size w x) (hT : Lib.Utf8Tabs 0 1 w) :
    Calls Tryz.prog 4 #[.agg #[.int .i64 kk, .slice x.a x.l.length x.c]] w fun e w' => e = .returned (.bool true) ∧ Below w.heap.size w w' := by
  have hxb := lies_bare hx
  obtain ⟨n, hn⟩ : ∃ n, x.l.length = n := ⟨_, rfl⟩
  obtain ⟨W0, hW0⟩ : ∃ W0, w.alloc (Obj.cells #[.int .i64 kk, .slice x.a n x.c] 33) = W0 := ⟨_, rfl⟩
  have hs0 : W0.heap.size = w.heap.size + 1 := by rw [← hW0]; simp
  have hb0 : Below w.heap.size w W0 := by rw [← hW0]; exact bel1 (Below.refl _ _) (Nat.le_refl _) _
  have xr : BoxR W0 w.heap.size kk x.a n x.c := by rw [← hW0]; exact World.alloc_heap_new _ _
  have HTB : Hid (∀ W', Below w.heap.size w W' → Lib.Utf8Tabs 0 1 W') := fun W' h => tabs_below hT h
  have HXK : Hid (∀ W', Below w.heap.size w W' → Lies w.heap.size W' (V.of 0 0 ⟨#[]⟩ x.a x.c 0 x.l)) := fun W' h => hxb.keep h (Nat.le_refl _)
  have HGR : Hid (∀ W', Below w.heap.size w W' → Calls Tryz.prog 14 #[.slice x.a n x.c] W' fun e w' => (e = .returned (.bool true) ∧ Below W'.heap.size W' w') ∨ (e = .returned (.bool false) ∧ T.wts (V.ts x.l) ≤ 100000 ∧ Below W'.heap.size W' w')) := fun W' h => by
    have hk := hxb.keep h (Nat.le_refl _)
    rw [← hn]
    exact greatallA_any x.a x.c w.heap.size x.l W' h.size hk.row hk.sub hk.ok.l hk.ok.c
  have HLE : Hid (T.wts (V.ts x.l) ≤ 100000 → ∀ W', Below w.heap.size w W' → Calls Tryz.prog 15 #[.slice x.a n x.c] W' fun e w' => e = .returned (.slice (some ⟨W'.heap.size, 0, none⟩) n (n + 3)) ∧ Hid (LentL x.l W'.heap.size w'.heap.size w') ∧ Below W'.heap.size W' w') := fun hw W' h => by
    have hk := hxb.keep h (Nat.le_refl _)
    have q := lentAll_any x.l (fun y _ => lent_any y) hw x.a x.c w.heap.size W' h.size hk.ok.l hk.ok.c hk.row hk.sub
    rw [hn] at q
    exact q.mono (fun e w' ⟨h1, h2, h3⟩ => ⟨h1, h2.out.lent hk.ok.c, h3⟩)
  have HN := hide hn
  obtain ⟨r0, r1⟩ := xr.cells
  have hw00 : w.heap.size < W0.heap.size := by omega
  have HW0 := hide hW0
  have HXR := hide xr
  have HB0 := hide hb0
  have HS0 := hide hs0
  rw [hn]
  clear hW0 hx hT hn xr hb0
  go_enter Tryz.func4, Tryz.ntmps4
  go_wp2_with fail
  rw [HW0.out]
  refine (HGR.out W0 HB0.out).mono ?_
  rintro e1 w1 (⟨rfl, hb1⟩ | ⟨rfl, hwt, hb1⟩)
  · have hbw := belOn HB0.out HB0.out.size hb1
    go_wp2
    go_ret
    exact ⟨rfl, hbw⟩
  have hbw1 := belOn HB0.out HB0.out.size hb1
  have HLI := hide (live_any w1 (HTB.out w1 hbw1))
  have HWT := hide hwt
  clear hwt
  go_wp2_with fail
  refine HLI.out.mono ?_
  rintro e2 w2 ⟨rfl, hb2⟩
  have hb02 : Below W0.heap.size W0 w2 := belOn hb1 hb1.size hb2
  have HBW2 : Hid (Below w.heap.size w w2) := belOn HB0.out HB0.out.size hb02
  have hs2 := hb02.size
  have xr2 := HXR.out.below hb02 (by omega)
  have hw02 : w.heap.size < w2.heap.size := by omega
  have HXR2 := hide xr2
  clear r0 r1 hb1 hb2 hb02 hbw1 hw00 HLI
  go_wp2_with fail
  have HS : Hid (∀ W', Below w2.heap.size w2 W' → (fun W' => W'.cell? ⟨w.heap.size, 0, none⟩ = some (.int .i64 kk) ∧ W'.cell? ⟨w.heap.size, 1, none⟩ = some (.slice x.a n x.c)) W') := by
    intro W' hW'
    have h := xr2.below hW' (by omega)
    exact h.cells
  clear xr2
  go_cut [5] (fun v wx => ∃ bx lo hi : Nat, v = .pointer (some ⟨bx, 0, none⟩) ∧ Hid (LentP kk x.l n w2 bx lo hi wx))
  case first =>
    have HBR1 : Hid (Below w2.heap.size w2 w2.drew) := (Below.refl _ _).drew
    have HBWD : Hid (Below w.heap.size w w2.drew) := HBW2.out.drew
    refine wp_region_held_drew (S := (fun W' => W'.cell? ⟨w.heap.size, 0, none⟩ = some (.int .i64 kk) ∧ W'.cell? ⟨w.heap.size, 1, none⟩ = some (.slice x.a n x.c))) (by kernel_rfl) (HS.out _ HBR1.out) (fun hHeld => ?_)
    refine take_do (i := 0) (d := 14) (v := ?_) rfl rfl (by kernel_rfl) (by kernel_rfl) (by kernel_rfl) (fun _ _ _ h => h) rfl ?_ (by assumption) ?_
    rotate_left
    · intro w hSw
      try dsimp only at hSw
      go_simp
      try with_reducible rfl
    try simp only [List.setIfInBounds_toArray, List.set_cons_zero, List.set_cons_succ]
    refine take_do (i := 1) (d := 15) (v := ?_) rfl rfl (by kernel_rfl) (by kernel_rfl) (by kernel_rfl) (fun _ _ _ h => h) rfl ?_ (by assumption) ?_
    rotate_left
    · intro w hSw
      try dsimp only at hSw
      go_simp
      try with_reducible rfl
    try simp only [List.setIfInBounds_toArray, List.set_cons_zero, List.set_cons_succ]
    refine take_do (i := 2) (d := 16) (v := ?_) rfl rfl (by kernel_rfl) (by kernel_rfl) (by kernel_rfl) (fun _ _ _ h => h) rfl ?_ (by assumption) ?_
    rotate_left
    · intro w hSw
      try dsimp only at hSw
      go_simp
      try with_reducible rfl
    try simp only [List.setIfInBounds_toArray, List.set_cons_zero, List.set_cons_succ]
    refine take_do (i := 3) (d := 17) (v := ?_) rfl rfl (by kernel_rfl) (by kernel_rfl) (by kernel_rfl) (fun _ _ _ h => h) rfl ?_ (by assumption) ?_
    rotate_left
    · intro w hSw
      try dsimp only at hSw
      go_simp
      try with_reducible rfl
    try simp only [List.setIfInBounds_toArray, List.set_cons_zero, List.set_cons_succ]
    refine wpAnyH_ready (rs := [4, 6]) (by kernel_rfl) (by simp) ?_
    refine AllReadyH.cons rfl (fun K hK => ?_) (AllReadyH.cons rfl (fun K hK => ?_) AllReadyH.nil)
    · go_simp
      go_wp2_with (go_at_call 15; refine Calls.mono (HLE.out HWT.out _ HBWD.out) ?_; rintro e6 w6 ⟨rfl, HLL, hb6⟩; have HB6 : Hid (Below w2.heap.size w2 w6) := HBR1.out.trans (hb6.mono (Nat.le_refl _)); clear hb6)
      refine hK.out _ _ (HS.out _ HB6.out) (fun hHeld => ?_)
      clear hK K
      refine take_do (i := 5) (d := 19) (v := ?_) rfl rfl (by kernel_rfl) (by kernel_rfl) (by kernel_rfl) (fun _ _ _ h => h) rfl ?_ (by assumption) ?_
      rotate_left
      · intro w hSw
        try dsimp only at hSw
        go_simp
        try with_reducible rfl
      try simp only [List.setIfInBounds_toArray, List.set_cons_zero, List.set_cons_succ]
      refine wpAnyH_ready (rs := [6]) (by kernel_rfl) (by simp) ?_
      refine AllReadyH.cons rfl (fun K hK => ?_) AllReadyH.nil
      go_simp
      have hs6 := HB6.out.size
      obtain ⟨WA, hWA⟩ : ∃ WA, w6.alloc (Obj.cells #[.int .i64 0, .slice none 0 0] 33) = WA := ⟨_, rfl⟩
      have hxA : WA.heap[w6.heap.size]? = some (.cells #[.int .i64 0, .slice none 0 0] 33 (0, 0)) := by rw [← hWA]; exact World.alloc_heap_new _ _
      have hsA : WA.heap.size = w6.heap.size + 1 := by rw [← hWA]; simp
      have hbA : Below w6.heap.size w6 WA := by rw [← hWA]; exact bel1 (Below.refl _ _) (Nat.le_refl _) _
      have HBA : Hid (Below w2.heap.size w2 WA) := HB6.out.trans (hbA.mono hs6)
      rw [hWA]
      refine hK.out _ _ (HS.out _ HBA.out) (fun hHeld => ?_)
      clear hK K
      have y0 : WA.cell? ⟨w6.heap.size, 0, none⟩ = some (.int .i64 0) := by unfold World.cell?; simp only [hxA]; rfl
      have y1 : WA.cell? ⟨w6.heap.size, 1, none⟩ = some (.slice none 0 0) := by unfold World.cell?; simp only [hxA]; rfl
      have fz : ∀ i, WA.frozen? ⟨w6.heap.size, i, none⟩ = false := fun i => by simp [World.frozen?, hxA]
      have hlt : w6.heap.size < WA.heap.size := by omega
      have HFIN : Hid (LentP kk x.l n w2 w6.heap.size w2.heap.size w6.heap.size ((WA.setCell ⟨w6.heap.size, 0, none⟩ (.int .i64 kk)).setCell ⟨w6.heap.size, 1, none⟩ (.slice (some ⟨w2.heap.size, 0, none⟩) n (n + 3)))) := lentp_fin hxA (HLL.out.keep (fun b _ h => hbA.block b h)) (by omega) (Nat.le_refl _) (.inr (Nat.le_refl _)) hs6 hlt HBA.out
      have HSA : Hid ((fun W' => W'.cell? ⟨w.heap.size, 0, none⟩ = some (.int .i64 kk) ∧ W'.cell? ⟨w.heap.size, 1, none⟩ = some (.slice x.a n x.c)) ((WA.setCell ⟨w6.heap.size, 0, none⟩ (.int .i64 kk)).setCell ⟨w6.heap.size, 1, none⟩ (.slice (some ⟨w2.heap.size, 0, none⟩) n (n + 3)))) := HS.out _ ((HBA.out.setCell (p := ⟨w6.heap.size, 0, none⟩) hs6 _).setCell (p := ⟨w6.heap.size, 1, none⟩) hs6 _)
      clear hWA hsA hxA
      refine wpAnyH_ready (rs := [7]) (by kernel_rfl) (by simp) ?_
      refine AllReadyH.cons rfl (fun K hK => ?_) AllReadyH.nil
      go_simp
      refine hK.out _ _ HSA.out (fun hHeld => ?_)
      clear hK K
      refine wpAnyH_done (by kernel_rfl) ?_ _
      (try go_wp2_with fail)
      go_meet
      exact ⟨_, _, _, rfl, HFIN⟩
    · go_simp
      obtain ⟨WA, hWA⟩ : ∃ WA, (w2.alloc (Obj.cells #[.int .i64 0, .slice none 0 0] 33)).drew = WA := ⟨_, rfl⟩
      have hxA : WA.heap[w2.heap.size]? = some (.cells #[.int .i64 0, .slice none 0 0] 33 (0, 0)) := by rw [← hWA]; exact World.alloc_heap_new w2 _
      have hsA : WA.heap.size = w2.heap.size + 1 := by rw [← hWA]; show (w2.alloc _).heap.size = _; simp
      have HBA : Hid (Below w2.heap.size w2 WA) := by rw [← hWA]; exact (bel1 (Below.refl _ _) (Nat.le_refl _) _).drew
      rw [hWA]
      refine hK.out _ _ (HS.out _ HBA.out) (fun hHeld => ?_)
      clear hK K
      have HLA := hide (HLE.out HWT.out WA (HBW2.out.trans (HBA.out.mono HBW2.out.size)))
      have HXA := hide hxA
      have HSZ := hide hsA
      clear hWA hsA hxA
      refine wpAnyH_ready (rs := [4]) (by kernel_rfl) (by simp) ?_
      refine AllReadyH.cons rfl (fun K hK => ?_) AllReadyH.nil
      go_simp
      go_wp2_with (go_at_call 15; refine Calls.mono HLA.out ?_; rintro e6 w6 ⟨rfl, HLL, hb6⟩; have HB6A : Hid (Below WA.heap.size WA w6) := hb6; clear hb6)
      have HB6 : Hid (Below w2.heap.size w2 w6) := HBA.out.trans (HB6A.out.mono HBA.out.size)
      refine hK.out _ _ (HS.out _ HB6.out) (fun hHeld => ?_)
      clear hK K
      refine take_do (i := 5) (d := 19) (v := ?_) rfl rfl (by kernel_rfl) (by kernel_rfl) (by kernel_rfl) (fun _ _ _ h => h) rfl ?_ (by assumption) ?_
      rotate_left
      · intro w hSw
        try dsimp only at hSw
        go_simp
        try with_reducible rfl
      try simp only [List.setIfInBounds_toArray, List.set_cons_zero, List.set_cons_succ]
      have hs6 := HB6A.out.size
      have hsa := HSZ.out
      have hx6 := (HB6A.out.block w2.heap.size (by omega)).trans HXA.out
      have y0 : w6.cell? ⟨w2.heap.size, 0, none⟩ = some (.int .i64 0) := by unfold World.cell?; simp only [hx6]; rfl
      have y1 : w6.cell? ⟨w2.heap.size, 1, none⟩ = some (.slice none 0 0) := by unfold World.cell?; simp only [hx6]; rfl
      have fz : ∀ i, w6.frozen? ⟨w2.heap.size, i, none⟩ = false := fun i => by simp [World.frozen?, hx6]
      have hlt : w2.heap.size < w6.heap.size := by omega
      have HFIN : Hid (LentP kk x.l n w2 w2.heap.size WA.heap.size w6.heap.size ((w6.setCell ⟨w2.heap.size, 0, none⟩ (.int .i64 kk)).setCell ⟨w2.heap.size, 1, none⟩ (.slice (some ⟨WA.heap.size, 0, none⟩) n (n + 3)))) := lentp_fin hx6 HLL.out (Nat.le_refl _) (by omega) (.inl (by omega)) (Nat.le_refl _) hlt HB6.out
      have HSA : Hid ((fun W' => W'.cell? ⟨w.heap.size, 0, none⟩ = some (.int .i64 kk) ∧ W'.cell? ⟨w.heap.size, 1, none⟩ = some (.slice x.a n x.c)) ((w6.setCell ⟨w2.heap.size, 0, none⟩ (.int .i64 kk)).setCell ⟨w2.heap.size, 1, none⟩ (.slice (some ⟨WA.heap.size, 0, none⟩) n (n + 3)))) := HS.out _ ((HB6.out.setCell (p := ⟨w2.heap.size, 0, none⟩) (Nat.le_refl _) _).setCell (p := ⟨w2.heap.size, 1, none⟩) (Nat.le_refl _) _)
      clear hs6 hsa hx6
      refine wpAnyH_ready (rs := [7]) (by kernel_rfl) (by simp) ?_
      refine AllReadyH.cons rfl (fun K hK => ?_) AllReadyH.nil
      go_simp
      refine hK.out _ _ HSA.out (fun hHeld => ?_)
      clear hK K
      refine wpAnyH_done (by kernel_rfl) ?_ _
      (try go_wp2_with fail)
      go_meet
      exact ⟨_, _, _, rfl, HFIN⟩
  case rest =>
    obtain ⟨bx, lo, hi, rfl, HLP⟩ := hcut
    rename World => w3
    clear HS
    obtain ⟨hbox, hll, hhi, hlo, hbl, hb1, hb2, hb3⟩ := HLP.out
    have c0 : w3.cell? ⟨bx, 0, none⟩ = some (.int .i64 kk) := by unfold World.cell?; simp only [hbox]; rfl
    have c1 : w3.cell? ⟨bx, 1, none⟩ = some (.slice (some ⟨lo, 0, none⟩) n (n + 3)) := by unfold World.cell?; simp only [hbox]; rfl
    have HBOX := hide hbox
    have HLL := hide hll
    have HB3 := hide hb3
    have HBW3 : Hid (Below w.heap.size w w3) := HBW2.out.trans (hb3.mono HBW2.out.size)
    obtain ⟨P, hP⟩ : ∃ P, (packR kk x.l).2 = P := ⟨_, rfl⟩
    have hck : Calls Tryz.prog 16 #[.agg #[.int .i64 kk, .slice (some ⟨lo, 0, none⟩) n (n + 3)]] w3 fun e w' => e = .returned (.int .i64 P) ∧ Below w3.heap.size w3 w' := by
      obtain ⟨l', hts, hlen, hx⟩ := hll
      have hx2 : Lies hi w3 (V.of 0 0 ⟨#[]⟩ (some ⟨lo, 0, none⟩) (n + 3) 0 l') := by
        have h := hx.lies
        rw [HN.out] at h
        exact LiesIn.keep h (fun _ _ _ => rfl) (fun b hb => hb.2)
      have h := scheck_any kk (some ⟨lo, 0, none⟩) l' (n + 3) hi w3 hhi hx2 (HTB.out w3 HBW3.out)
      rw [packR_ts hts, hP, hlen, HN.out] at h
      exact h
    have HCK := hide hck
    have HRC : Hid (∀ W', Below w.heap.size w W' → Calls Tryz.prog 17 #[.agg #[.int .i64 kk, .slice x.a n x.c]] W' fun e w' => e = .returned (.int .i64 P) ∧ Below W'.heap.size W' w') := fun W' h => by
      have q := rcheckR_any kk x (fun b => b < w.heap.size) W' (fun b hb => by have := h.size; omega) (HXK.out W' h)
      rw [hP, HN.out] at q
      exact q
    clear hbox hll hb3 hck hP
    go_wp2_with fail
    refine HCK.out.mono ?_
    rintro e4 w4 ⟨rfl, hb4⟩
    have hb24 : Below w2.heap.size w2 w4 := HB3.out.trans (hb4.mono HB3.out.size)
    have HBW4 : Hid (Below w.heap.size w w4) := HBW2.out.trans (hb24.mono HBW2.out.size)
    obtain ⟨r0, r1⟩ := (HXR2.out.below hb24 (by omega)).cells
    have hw04 : w.heap.size < w4.heap.size := by have := hb24.size; omega
    clear c0 c1
    go_wp2_with fail
    refine (HRC.out w4 HBW4.out).mono ?_
    rintro e5 w5 ⟨rfl, hb5⟩
    have hb35 : Below w3.heap.size w3 w5 := hb4.trans (hb5.mono hb4.size)
    have hb25 : Below w2.heap.size w2 w5 := HB3.out.trans (hb35.mono HB3.out.size)
    have HBW5 : Hid (Below w.heap.size w w5) := HBW2.out.trans (hb25.mono HBW2.out.size)
    obtain ⟨p0, p1⟩ := (HXR2.out.below hb25 (by omega)).cells
    have hbx5 := (hb35.block bx hb2).trans HBOX.out
    have c0 : w5.cell? ⟨bx, 0, none⟩ = some (.int .i64 kk) := by unfold World.cell?; simp only [hbx5]; rfl
    have c1 : w5.cell? ⟨bx, 1, none⟩ = some (.slice (some ⟨lo, 0, none⟩) n (n + 3)) := by unfold World.cell?; simp only [hbx5]; rfl
    have hw05 : w.heap.size < w5.heap.size := by have := hb25.size; omega
    have hbx5' : bx < w5.heap.size := by have := hb35.size; omega
    have hs5 := hb35.size
    have has := (HLL.out.keep (fun b _ h => hb35.block b (by omega))).as (by omega) (HXK.out w5 HBW5.out) (by omega)
    rw [HN.out] at has
    have HAS := hide has
    clear has hbx5 r0 r1
    go_wp2_with fail
    refine HAS.out.mono ?_
    rintro e6 w6 ⟨rfl, ht6⟩
    have HBW6 : Hid (Below w.heap.size w w6) := HBW5.out.trans (ht6.below (by omega) (by omega))
    clear p0 p1 c0 c1
    go_wp2
    go_ret
    exact ⟨rfl, HBW6.out⟩
end Go.Proofs.YtgldcchleoklcaaGreatDoor
