/- HRCk -/
import Derived.Test.YtgldcchleoklcaaGreatDoorP46
import Derived.Test.YtgldcchleoklcaaGreatDoorP20
namespace Go.Proofs.YtgldcchleoklcaaGreatDoor
open Go.RowKit
set_option linter.unusedVariables false
set_option linter.unusedSimpArgs false
theorem ru_all : ∀ n q, rk q < n → UK q ∧ PK q := by
  intro n
  induction n with
  | zero => intro q h; omega
  | succ n ih =>
    intro q h
    have hq : ∀ q', rk q' < rk q → UK q' ∧ PK q' := fun q' h' => ih q' (by omega)
    refine ⟨fun v hv Q w hl hQ => runpack_step v (fun k hk => ?_) Q w hl hQ, rpacked_step q hq⟩
    rw [hv] at hk
    have e := Option.some.inj hk
    subst e
    exact hq
theorem rpacked_any (k : Int) : PK k := (ru_all 4 k (by have := rk_le k; omega)).2
theorem runpack_any (v : V) (Q : Nat → Prop) (w : World) (hv : LiesIn Q w v) (hQ : ∀ b, Q b → b < w.heap.size) : Calls Tryz.prog 27 #[v.val] w (RUR Q (unpR v) w) :=
  runpack_step v (fun k _ q _ => ru_all 4 q (by have := rk_le q; omega)) Q w hv hQ
theorem unpR_err (v : V) (h : chkE v = 0) : (unpR v).2.2 = (rep v.t).2 := by
  have hu : unpR v = unpT rep v.t := by unfold unpR; rw [if_neg (by simp [h])]
  rw [hu, rep_eq]
  by_cases hz : (unpT rep v.t).2.2 ≠ 0
  · rw [if_pos hz]
  · rw [if_neg hz]
    simpa using hz
theorem suits_eq (s : FS) (v : V) (hc : chkE v = 0) (hk : v.k ≠ 0) : (chkV rep s v).2 = if fitsT s v.k v.e (kindV v.k v.l) = true then (if s.ty = 102 then (unpR v).2.2 else 0) else 73 := by
  unfold chkV
  rw [if_neg (by simp [hk]), if_neg (by simp [hc])]
  by_cases hsy : s.ty = 101 ∧ v.k = 20
  · have hff : fitsT s v.k v.e (kindV v.k v.l) = false := by
      unfold fitsT
      rw [if_neg (by omega), if_pos hsy.1, hsy.2]
      rfl
    rw [if_pos hsy, hff]
    rfl
  rw [if_neg hsy]
  by_cases h102 : s.ty = 102
  · have hA : fillT rep s v.t = (match kindV v.k v.l with | some k => if s.ks.contains k = true then rep v.t else (nul, 73) | none => (nul, 73)) := by
      unfold fillT
      rw [kindV_t, k_t, if_neg hk, if_neg (by omega), if_neg (by omega), if_pos h102]
      cases kindV v.k v.l <;> rfl
    have hB : fitsT s v.k v.e (kindV v.k v.l) = (match kindV v.k v.l with | some q => s.ks.contains q | none => false) := by
      unfold fitsT
      rw [if_neg (by omega), if_neg (by omega), if_pos h102]
      cases kindV v.k v.l <;> rfl
    rw [hA, hB, if_pos h102, unpR_err v hc]
    cases kindV v.k v.l with
    | none => simp
    | some q =>
      simp only
      split <;> rfl
  · rw [fit_fill hk h102 hsy, if_neg h102]
    split <;> rfl
set_option maxRecDepth 100000 in
set_option maxHeartbeats 8000000 in
theorem suits_any (f : Fd) (s : FS) (v : V) (Q : Nat → Prop) (w : World) (hQ : ∀ b, Q b → b < w.heap.size) (hf : FdIn 0 w f s) (hok : okFS s = true) (hv : LiesIn Q w v) :
    Calls Tryz.prog 36 #[f.val, v.val] w fun e w' => e = .returned (.int .i64 (chkV rep s v).2) ∧ Below w.heap.size w w' := by
  have hks : s.ks.length ≤ 100 := by
    unfold okFS at hok
    simp only [Bool.and_eq_true, decide_eq_true_eq] at hok
    omega
  have hvl := hv.lies hQ
  obtain ⟨q1, q2, q3, q4, q5, q6, q7⟩ := hf
  obtain ⟨W0, hW0⟩ : ∃ W0, (w.alloc (Obj.cells #[.string f.name, .int .i64 s.ty, .slice f.ka s.ks.length s.ks.length, .bool s.must, .int .i64 s.d.k, .int .u64 s.d.n, .string s.d.s, .slice s.d.a s.d.l.length s.d.c, .int .i64 s.d.e] 66)).alloc (Obj.cells #[.int .i64 v.k, .int .u64 v.n, .string v.s, .slice v.a v.l.length v.c, .int .i64 v.e] 42) = W0 := ⟨_, rfl⟩
  have hs0 : W0.heap.size = w.heap.size + 2 := by rw [← hW0]; simp
  have hb0 : Below w.heap.size w W0 := by rw [← hW0]; exact bel2 (Below.refl _ _) (Nat.le_refl _) _ _
  have hx0 : W0.heap[w.heap.size]? = some (.cells #[.string f.name, .int .i64 s.ty, .slice f.ka s.ks.length s.ks.length, .bool s.must, .int .i64 s.d.k, .int .u64 s.d.n, .string s.d.s, .slice s.d.a s.d.l.length s.d.c, .int .i64 s.d.e] 66 (0, 0)) := by rw [← hW0]; exact heap_past (World.alloc_heap_new _ _) _
  have hx1 : W0.heap[w.heap.size + 1]? = some (.cells #[.int .i64 v.k, .int .u64 v.n, .string v.s, .slice v.a v.l.length v.c, .int .i64 v.e] 42 (0, 0)) := by rw [← hW0]; exact heap_at1 _ _ _
  have HC : Hid (∀ w1, Below W0.heap.size W0 w1 → (w1.cell? ⟨w.heap.size, 0, none⟩ = some (.string f.name) ∧ w1.cell? ⟨w.heap.size, 1, none⟩ = some (.int .i64 s.ty) ∧ w1.cell? ⟨w.heap.size, 2, none⟩ = some (.slice f.ka s.ks.length s.ks.length) ∧ w1.cell? ⟨w.heap.size, 3, none⟩ = some (.bool s.must) ∧ w1.cell? ⟨w.heap.size, 4, none⟩ = some (.int .i64 s.d.k) ∧ w1.cell? ⟨w.heap.size, 5, none⟩ = some (.int .u64 s.d.n) ∧ w1.cell? ⟨w.heap.size, 6, none⟩ = some (.string s.d.s) ∧ w1.cell? ⟨w.heap.size, 7, none⟩ = some (.slice s.d.a s.d.l.length s.d.c) ∧ w1.cell? ⟨w.heap.size, 8, none⟩ = some (.int .i64 s.d.e)) ∧ (w1.cell? ⟨w.heap.size + 1, 0, none⟩ = some (.int .i64 v.k) ∧ w1.cell? ⟨w.heap.size + 1, 1, none⟩ = some (.int .u64 v.n) ∧ w1.cell? ⟨w.heap.size + 1, 2, none⟩ = some (.string v.s) ∧ w1.cell? ⟨w.heap.size + 1, 3, none⟩ = some (.slice v.a v.l.length v.c) ∧ w1.cell? ⟨w.heap.size + 1, 4, none⟩ = some (.int .i64 v.e)) ∧ Below w.heap.size w w1 ∧ w.heap.size + 1 < w1.heap.size) := fun w1 h => by
    have e0 := (h.block w.heap.size (by omega)).trans hx0
    have e1 := (h.block (w.heap.size + 1) (by omega)).trans hx1
    refine ⟨⟨?_, ?_, ?_, ?_, ?_, ?_, ?_, ?_, ?_⟩, ⟨?_, ?_, ?_, ?_, ?_⟩, belOn hb0 (by omega) h, by have := h.size; omega⟩ <;> (unfold World.cell?; first | (simp only [e1]; rfl) | (simp only [e0]; rfl))
  have hchk := refcheck_any spelled_any v w.heap.size W0 (by omega) (hvl.keep hb0 (Nat.le_refl _))
  have hE' : firstE checkZ (v.all 1) = chkE v := rfl
  rw [hE', V.val_eq] at hchk
  have HFIT : Hid (∀ w1, Below W0.heap.size W0 w1 → Calls Tryz.prog 101 #[.agg #[.string f.name, .int .i64 s.ty, .slice f.ka s.ks.length s.ks.length, .bool s.must, .int .i64 s.d.k, .int .u64 s.d.n, .string s.d.s, .slice s.d.a s.d.l.length s.d.c, .int .i64 s.d.e], .agg #[.int .i64 v.k, .int .u64 v.n, .string v.s, .slice v.a v.l.length v.c, .int .i64 v.e]] w1 fun e w' => e = .returned (.bool (fitsT s v.k v.e (kindV v.k v.l))) ∧ Below w1.heap.size w1 w') := fun w1 h => by
    have hbw := belOn hb0 (by omega) h
    have hh := fits_any f s v w.heap.size w1 (by have := hbw.size; omega) ⟨q1, q2, q3, q4, q5, q6, fun h0 => by
      obtain ⟨b, e, _, r2, r3⟩ := q7 h0
      exact ⟨b, e, Nat.zero_le _, by have := hbw.size; omega, (hbw.block b r2).trans r3⟩⟩ hks (hvl.keep hbw (Nat.le_refl _))
    rw [Fd.val_eq, V.val_eq, q2, q3, q4, q5, q6] at hh
    exact hh
  have HUN : Hid (∀ w1, Below W0.heap.size W0 w1 → Calls Tryz.prog 27 #[.agg #[.int .i64 v.k, .int .u64 v.n, .string v.s, .slice v.a v.l.length v.c, .int .i64 v.e]] w1 (RUR Q (unpR v) w1)) := fun w1 h => by
    have hbw := belOn hb0 (by omega) h
    have hh := runpack_any v Q w1 (LiesIn.keep hv (fun b' hb' o' => hbw.cell (p := ⟨b', o', none⟩) (hQ b' hb')) (fun _ h => h)) (fun b hb => by have := hQ b hb; have := hbw.size; omega)
    rwa [V.val_eq] at hh
  have HEQ := hide (suits_eq s v)
  have HEQ0 : Hid ((s.must = true → v.k = 0 → (chkV rep s v).2 = 72) ∧ ((s.must = false ∨ v.k ≠ 0) → chkE v ≠ 0 → (chkV rep s v).2 = chkE v) ∧ (s.must = false → v.k = 0 → chkE v = 0 → (chkV rep s v).2 = 0)) := by
    unfold chkV
    refine ⟨fun h1 h2 => by rw [if_pos (by simp [h1, h2])], fun h1 h2 => by rw [if_neg (by rcases h1 with h | h <;> simp [h]), if_pos h2], fun h1 h2 h3 => ?_⟩
    rw [if_neg (by simp [h1]), if_neg (by simp [h3]), if_neg (by omega)]
    unfold fillT
    rw [k_t, if_pos h2, h1, if_neg (by simp)]
  rw [Fd.val_eq, V.val_eq, q2, q3, q4, q5, q6]
  have HB0 := hide hb0
  have HS0 := hide hs0
  generalize (chkV rep s v).2 = ans at HEQ HEQ0 ⊢
  generalize chkE v = E at hchk HEQ HEQ0
  have HW0 := hide hW0
  have HCHK := hide hchk
  generalize fitsT s v.k v.e (kindV v.k v.l) = g at HFIT HEQ
  obtain ⟨⟨f0, f1, f2, f3, f4, f5, f6, f7, f8⟩, ⟨c0, c1, c2, c3, c4⟩, _, hz⟩ := HC.out W0 (Below.refl _ _)
  have hz' : w.heap.size < W0.heap.size := by omega
  clear hx0 hx1 hchk hW0 hv hvl q1 q2 q3 q4 q5 q6 q7 hE' hb0 hs0
  by_cases hk : v.k = 0
  · cases hmu : s.must
    · rw [hmu] at HW0 HC HFIT f3
      have HK := hide hk
      rw [hk] at HW0 HC HCHK c0 ⊢
      clear hk
      go_enter Tryz.func36, Tryz.ntmps36
      go_wp2_with fail
      rw [HW0.out]
      refine HCHK.out.mono ?_
      rintro e1 w1 ⟨rfl, hb1⟩
      obtain ⟨⟨g0, g1, g2, g3, g4, g5, g6, g7, g8⟩, ⟨d0, d1, d2, d3, d4⟩, hbw, hy⟩ := HC.out w1 hb1
      have hy' : w.heap.size < w1.heap.size := by omega
      by_cases hE : E = 0
      · have HA := HEQ0.out.2.2 hmu HK.out hE
        subst hE
        go_wp2
        go_ret
        exact ⟨by rw [HA]; rfl, hbw⟩
      · have HA := HEQ0.out.2.1 (.inl hmu) hE
        have hEb : (E == 0) = false := by simpa using hE
        have hEn : (E != 0) = true := by simpa using hE
        go_wp2
        go_ret
        exact ⟨by rw [HA]; rfl, hbw⟩
    · have HA := HEQ0.out.1 hmu hk
      rw [hmu] at HW0 HC f3
      rw [hk] at HW0 HC c0 ⊢
      go_enter Tryz.func36, Tryz.ntmps36
      go_wp2
      go_ret
      exact ⟨by rw [HA]; rfl, by first | exact HB0.out | (rw [HW0.out]; exact HB0.out)⟩
  · have hkb : (v.k == 0) = false := by simpa using hk
    by_cases hE : E = 0
    rotate_left
    · have HA := HEQ0.out.2.1 (.inr hk) hE
      have hEb : (E == 0) = false := by simpa using hE
      have hEn : (E != 0) = true := by simpa using hE
      go_enter Tryz.func36, Tryz.ntmps36
      go_wp2_with fail
      rw [HW0.out]
      refine HCHK.out.mono ?_
      rintro e1 w1 ⟨rfl, hb1⟩
      obtain ⟨_, _, hbw, hy⟩ := HC.out w1 hb1
      go_wp2
      go_ret
      exact ⟨by rw [HA]; rfl, hbw⟩
    have HA := hide (HEQ.out hE hk)
    subst hE
    clear HEQ HEQ0
    cases g
    · rw [if_neg (by simp)] at HA
      go_enter Tryz.func36, Tryz.ntmps36
      go_wp2_with fail
      rw [HW0.out]
      refine HCHK.out.mono ?_
      rintro e1 w1 ⟨rfl, hb1⟩
      obtain ⟨⟨g0, g1, g2, g3, g4, g5, g6, g7, g8⟩, ⟨d0, d1, d2, d3, d4⟩, hbw, hy⟩ := HC.out w1 hb1
      have hy' : w.heap.size < w1.heap.size := by omega
      go_wp2_with fail
      refine (HFIT.out w1 hb1).mono ?_
      rintro e2 w2 ⟨rfl, hb2⟩
      obtain ⟨_, _, hbw2, _⟩ := HC.out w2 (hb1.trans (hb2.mono hb1.size))
      clear g0 g1 g2 g3 g4 g5 g6 g7 g8 d0 d1 d2 d3 d4
      go_wp2
      go_ret
      exact ⟨by rw [HA.out]; rfl, hbw2⟩
    · rw [if_pos rfl] at HA
      by_cases h102 : s.ty = 102
      · rw [if_pos h102] at HA
        rw [h102] at HW0 HC HFIT f1 ⊢
        go_enter Tryz.func36, Tryz.ntmps36
        go_wp2_with fail
        rw [HW0.out]
        refine HCHK.out.mono ?_
        rintro e1 w1 ⟨rfl, hb1⟩
        obtain ⟨⟨g0, g1, g2, g3, g4, g5, g6, g7, g8⟩, ⟨d0, d1, d2, d3, d4⟩, hbw, hy⟩ := HC.out w1 hb1
        have hy' : w.heap.size < w1.heap.size := by omega
        go_wp2_with fail
        refine (HFIT.out w1 hb1).mono ?_
        rintro e2 w2 ⟨rfl, hb2⟩
        have hb02 := hb1.trans (hb2.mono hb1.size)
        obtain ⟨⟨k0, k1, k2, k3, k4, k5, k6, k7, k8⟩, ⟨m0, m1, m2, m3, m4⟩, hbw2, hy2⟩ := HC.out w2 hb02
        have hy2' : w.heap.size < w2.heap.size := by omega
        clear g0 g1 g2 g3 g4 g5 g6 g7 g8 d0 d1 d2 d3 d4
        go_wp2_with fail
        refine (HUN.out w2 hb02).mono ?_
        rintro e3 w3 ⟨u, rfl, _, hb3⟩
        dsimp only
        have hb23 : Below w.heap.size w w3 := hbw2.trans (hb3.mono hbw2.size)
        clear k0 k1 k2 k3 k4 k5 k6 k7 k8 m0 m1 m2 m3 m4
        go_wp2
        go_ret
        exact ⟨by rw [HA.out]; rfl, bel1 hb23 (by have := hb23.size; omega) _⟩
      · rw [if_neg h102] at HA
        have hb102 : (s.ty == 102) = false := by simpa using h102
        go_enter Tryz.func36, Tryz.ntmps36
        go_wp2_with fail
        rw [HW0.out]
        refine HCHK.out.mono ?_
        rintro e1 w1 ⟨rfl, hb1⟩
        obtain ⟨⟨g0, g1, g2, g3, g4, g5, g6, g7, g8⟩, ⟨d0, d1, d2, d3, d4⟩, hbw, hy⟩ := HC.out w1 hb1
        have hy' : w.heap.size < w1.heap.size := by omega
        go_wp2_with fail
        refine (HFIT.out w1 hb1).mono ?_
        rintro e2 w2 ⟨rfl, hb2⟩
        have hb02 := hb1.trans (hb2.mono hb1.size)
        obtain ⟨⟨k0, k1, k2, k3, k4, k5, k6, k7, k8⟩, ⟨m0, m1, m2, m3, m4⟩, hbw2, hy2⟩ := HC.out w2 hb02
        have hy2' : w.heap.size < w2.heap.size := by omega
        clear g0 g1 g2 g3 g4 g5 g6 g7 g8 d0 d1 d2 d3 d4
        go_wp2
        go_ret
        exact ⟨by rw [HA.out]; rfl, hbw2⟩
theorem rp_dp {k : Int} {fs : List FS} {l : List V} (hf : ftab k = some fs) (hl : l.length = fs.length) (hch : ∀ i (h1 : i < fs.length) (h2 : i < l.length), (chkV rep fs[i] l[i]).2 = 0) : (∀ t ∈ rpT fs l, t.t = t ∧ T.dp t ≤ 32) ∧ T.dp (laidT k (rpT fs l)) ≤ 40 := by
  have hall : ∀ t ∈ rpT fs l, t.t = t ∧ T.dp t ≤ 32 := fun t ht => by
    obtain ⟨i, hi, rfl⟩ := List.mem_iff_getElem.1 ht
    have h1 : i < fs.length := by rw [rpT_len hl] at hi; exact hi
    have h2 : i < l.length := by omega
    rw [rpT_at i hi h1 h2]
    have ho := ftab_r hf _ (List.getElem_mem h1)
    obtain ⟨w1, w2, w3, w4⟩ := chkV_fit ho (hch i h1 h2)
    by_cases hk : l[i].k = 0
    · rw [(w2 hk).2]
      exact ⟨fs_d_t _, by unfold FS.d; rw [dp_leaf]; omega⟩
    · by_cases h102 : fs[i].ty = 102
      · obtain ⟨q, hq, _, hr, he⟩ := w4 hk h102
        have h3 := rk_le q
        have hnd := (chk_iff _).1 w1
        have h4 := rep_re l[i].t q (t_t _) ((nd_t _).2 hnd.1) (by rw [kindV_t]; exact hq) (by omega) _ he
        refine ⟨h4.1, ?_⟩
        have h5 := h4.2.2.2.2.2
        rw [dp_t] at h5
        omega
      · rw [w3 hk h102]
        exact ⟨t_t _, by rw [dp_t]; exact ((chk_iff _).1 w1).2⟩
  refine ⟨hall, laid_dp hf (rpT_len hl) (fun t ht => (hall t ht).1) (by omega) (fun i h1 h2 _ => ?_)⟩
  have := (hall _ (List.getElem_mem h1)).2
  omega
theorem zip_bad {fs : List FS} {l : List V} (hl : l.length = fs.length) {kind : Int} {i : Nat} (h1 : i < fs.length) (h2 : i < l.length) (hz : (chkV rep fs[i] l[i]).2 ≠ 0) (hj : ∀ j (h1 : j < fs.length) (h2 : j < l.length), j < i → (chkV rep fs[j] l[j]).2 = 0) (hf : ftab kind = some fs) : packR kind l = (nul, (chkV rep fs[i] l[i]).2) := by
  unfold packR packT
  rw [hf]
  simp only
  rw [if_neg (by simp [hl])]
  have hzl : (List.zipWith (chkV rep) fs l).length = fs.length := by simp [hl]
  have hi : i < (List.zipWith (chkV rep) fs l).length := by rw [hzl]; exact h1
  have e : (List.zipWith (chkV rep) fs l)[i] = chkV rep fs[i] l[i] := by simp
  rw [rowT_bad hi (by rw [e]; exact hz) (fun j hjl hji => by
    have h3 : j < fs.length := by omega
    have e2 : (List.zipWith (chkV rep) fs l)[j] = chkV rep fs[j] (l[j]'(by omega)) := by simp
    rw [e2]
    exact hj j h3 (by omega) hji), e]
  unfold endT
  rw [if_pos hz]
theorem zip_good {fs : List FS} {l : List V} (hl : l.length = fs.length) {kind : Int} (hj : ∀ j (h1 : j < fs.length) (h2 : j < l.length), (chkV rep fs[j] l[j]).2 = 0) (hf : ftab kind = some fs) : packR kind l = if 32 < T.dp (laidT kind (rpT fs l)) then (nul, 26) else (laidT kind (rpT fs l), 0) := by
  unfold packR packT
  rw [hf]
  simp only
  rw [if_neg (by simp [hl])]
  rw [rowT_good (fun j hjl => by
    have h3 : j < fs.length := by simp [hl] at hjl; exact hjl
    have e2 : (List.zipWith (chkV rep) fs l)[j] = chkV rep fs[j] (l[j]'(by omega)) := by simp
    rw [e2]
    exact hj j h3 (by omega))]
  unfold endT
  rw [if_neg (by simp)]
  rfl
set_option maxRecDepth 100000 in
set_option maxHeartbeats 20000000 in
theorem rcheckR_any (kind : Int) (y : V) (Q : Nat → Prop) (w : World) (hQ : ∀ b, Q b → b < w.heap.size) (hy : LiesIn Q w (V.of 0 0 ⟨#[]⟩ y.a y.c 0 y.l)) :
    Calls Tryz.prog 17 #[.agg #[.int .i64 kind, .slice y.a y.l.length y.c]] w fun e w' => e = .returned (.int .i64 (packR kind y.l).2) ∧ Below w.heap.size w w' := by
  have hml : y.l.length ≤ 2199023255552 := (LiesIn.ok hy).c
  obtain ⟨N, hN⟩ : ∃ N, y.l.length = N := ⟨_, rfl⟩
  obtain ⟨ya, hya⟩ : ∃ ya, y.a = ya := ⟨_, rfl⟩
  obtain ⟨c, hc⟩ : ∃ c, y.c = c := ⟨_, rfl⟩
  rw [hN] at hml
  have HN := hide hN
  have HYA := hide hya
  have HYC := hide hc
  have HY := hide hy
  obtain ⟨R, hR⟩ : ∃ R, (packR kind y.l).2 = R := ⟨_, rfl⟩
  have HR := hide hR
  obtain ⟨W0, hW0⟩ : ∃ W0, w.alloc (Obj.cells #[.int .i64 kind, .slice ya N c] 33) = W0 := ⟨_, rfl⟩
  have hs0 : W0.heap.size = w.heap.size + 1 := by rw [← hW0]; simp
  have hb0 : Below w.heap.size w W0 := by rw [← hW0]; exact bel1 (Below.refl _ _) (Nat.le_refl _) _
  have hx0 : W0.heap[w.heap.size]? = some (.cells #[.int .i64 kind, .slice ya N c] 33 (0, 0)) := by rw [← hW0]; exact World.alloc_heap_new _ _
  have HC : Hid (∀ W', Below W0.heap.size W0 W' → W'.cell? ⟨w.heap.size, 0, none⟩ = some (.int .i64 kind) ∧ W'.cell? ⟨w.heap.size, 1, none⟩ = some (.slice ya N c) ∧ w.heap.size < W'.heap.size ∧ Below w.heap.size w W') := fun W' h => by
    have e0 := (h.block w.heap.size (by omega)).trans hx0
    exact ⟨by unfold World.cell?; simp only [e0]; rfl, by unfold World.cell?; simp only [e0]; rfl, by have := h.size; omega, belOn hb0 (by omega) h⟩
  have HF := hide (rfields_any kind W0)
  have HW0 := hide hW0
  have HS0 := hide hs0
  rw [hR, hN, hya, hc]
  clear hR hN hya hc hy hW0 hs0 hb0 hx0
  cases hft : ftab kind with
  | none =>
    have HRK : Hid (R = 70) := by rw [Hid, ← HR.out]; unfold packR packT; rw [hft]
    rw [hft] at HF
    go_enter Tryz.func17, Tryz.ntmps17
    go_wp2_with fail
    rw [HW0.out]
    refine HF.out.mono ?_
    rintro e1 w1 ⟨rfl, hb1⟩
    have hbw := (HC.out w1 hb1).2.2.2
    go_wp2
    go_ret
    exact ⟨by rw [HRK.out]; rfl, hbw⟩
  | some fs0 =>
    rw [hft] at HF
    obtain ⟨hN20, hfok⟩ := ftab_ok hft
    obtain ⟨M, hM⟩ : ∃ M, fs0.length = M := ⟨_, rfl⟩
    have hM20 : M ≤ 20 := by omega
    by_cases hNM : N = M
    rotate_left
    · have HRK : Hid (R = 71) := by rw [Hid, ← HR.out]; unfold packR packT; rw [hft]; simp only; rw [if_pos (by rw [HN.out, hM]; exact hNM)]
      have hne : ¬ ((N : Int) = (M : Int)) := by omega
      have hneb : ((N : Int) == (M : Int)) = false := by rw [beq_eq_false_iff_ne]; exact hne
      have hnen : ((N : Int) != (M : Int)) = true := by simpa using hne
      have HM := hide hM
      clear hM hNM hft hfok hN20
      go_enter Tryz.func17, Tryz.ntmps17
      go_wp2_with fail
      rw [HW0.out]
      refine HF.out.mono ?_
      rintro e1 w1 ⟨af, cf, fs, rfl, HFI, hlc, hb1⟩
      rw [HM.out]
      obtain ⟨k0, k1, hz, hbw⟩ := HC.out w1 hb1
      go_wp2
      go_ret
      exact ⟨by rw [HRK.out]; rfl, hbw⟩
    subst hNM
    have HM := hide hM
    have HFT := hide hft
    have HFOK := hide hfok
    clear hM hft hfok hN20
    go_enter Tryz.func17, Tryz.ntmps17
    go_wp2_with fail
    rw [HW0.out]
    refine HF.out.mono ?_
    rintro e1 w1 ⟨af, cf, fs, rfl, HFI, hlc, hb1⟩
    rw [HM.out] at hlc ⊢
    have HB1 := hide hb1
    clear hb1
    obtain ⟨k0, k1, hz, _⟩ := HC.out w1 HB1.out
    go_wp2
    clear k0 k1 hz
    go_loopw [5] (fun i wr => ∃ j : Nat, i = .int .i64 j ∧ j ≤ N ∧ Hid (Below w1.heap.size w1 wr) ∧ Hid (∀ i (h1 : i < fs0.length) (h2 : i < y.l.length), i < j → (chkV rep fs0[i] y.l[i]).2 = 0)) (fun i _ => N - (intOf i).toNat)
    case atStart => exact ⟨0, rfl, Nat.zero_le _, Below.refl _ _, fun i _ _ h => absurd h (by omega)⟩
    case round =>
      obtain ⟨j, rfl, hj, HB, HZ⟩ := hrel
      have HB0 : Hid (Below W0.heap.size W0 wr) := HB1.out.trans (HB.out.mono HB1.out.size)
      obtain ⟨k0, k1, hz, hbw⟩ := HC.out wr HB0.out
      have HBW := hide hbw
      clear hbw
      by_cases hjN : j < N
      · have hjl : j < fs0.length := by rw [HM.out]; exact hjN
        have hjy : j < y.l.length := by rw [HN.out]; exact hjN
        have hjf : j < fs.length := by rw [HFI.out.1]; exact hjl
        obtain ⟨bf, rfl, _, hbf, hfr⟩ := HFI.out.2.1 (by omega)
        have hfd := HFI.out.2.2 j hjf hjl
        obtain ⟨f0, f1, f2, f3, f4, f5, f6, f7, f8⟩ := (hfr.below HB.out hbf).cells j hjf
        have hokf := HFOK.out _ (List.getElem_mem hjl)
        obtain ⟨b3, o3, e3, hb3q, hrow3⟩ := LiesIn.row HY.out (by omega)
        rw [HYA.out] at e3
        subst e3
        have hb3 := hQ b3 hb3q
        have hb3r : b3 < wr.heap.size := by have := HBW.out.size; omega
        have hbfr : bf < wr.heap.size := by have := HB.out.size; omega
        have hxl := LiesIn.sub HY.out _ (List.getElem_mem hjy)
        obtain ⟨x0, x1, x2, x3, x4⟩ := hrow3.below HBW.out hb3 j hjy
        obtain ⟨r, hr⟩ : ∃ r, (chkV rep fs0[j] y.l[j]).2 = r := ⟨_, rfl⟩
        have HRJ : Hid (∃ (h1 : j < fs0.length) (h2 : j < y.l.length), (chkV rep fs0[j] y.l[j]).2 = r) := ⟨hjl, hjy, hr⟩
        have hsuit : Calls Tryz.prog 36 #[fs[j].val, y.l[j].val] wr.drew fun e w' => e = .returned (.int .i64 r) ∧ Below wr.heap.size wr.drew w' := by
          rw [← hr]
          have hb3' : Below w1.heap.size w1 wr.drew := HB.out.drew
          have hbwd : Below w.heap.size w wr.drew := HBW.out.drew
          refine suits_any fs[j] fs0[j] y.l[j] Q wr.drew (fun b h => by have := hQ b h; have := hbwd.size; omega) ?_ hokf (LiesIn.keep hxl (fun b' hb' o' => hbwd.cell (p := ⟨b', o', none⟩) (hQ b' hb')) (fun _ h => h))
          obtain ⟨q1, q2, q3, q4, q5, q6, q7⟩ := hfd
          refine ⟨q1, q2, q3, q4, q5, q6, fun h0 => ?_⟩
          obtain ⟨b, e, _, r2, r3⟩ := q7 h0
          exact ⟨b, e, Nat.zero_le _, by have := hb3'.size; omega, (hb3'.block b r2).trans r3⟩
        generalize fs[j] = F at *
        generalize y.l[j] = X at *
        rw [Fd.val_eq, V.val_eq] at hsuit
        have HSU := hide hsuit
        have HS : Hid (∀ W', Below wr.heap.size wr W' → (fun W' => W'.cell? ⟨bf, j * 9, none⟩ = some (.string F.name) ∧ W'.cell? ⟨bf, j * 9 + 1, none⟩ = some (.int .i64 F.ty) ∧ W'.cell? ⟨bf, j * 9 + 2, none⟩ = some (.slice F.ka F.kl F.kc) ∧ W'.cell? ⟨bf, j * 9 + 3, none⟩ = some (.bool F.must) ∧ W'.cell? ⟨bf, j * 9 + 4, none⟩ = some (.int .i64 F.d.k) ∧ W'.cell? ⟨bf, j * 9 + 5, none⟩ = some (.int .u64 F.d.n) ∧ W'.cell? ⟨bf, j * 9 + 6, none⟩ = some (.string F.d.s) ∧ W'.cell? ⟨bf, j * 9 + 7, none⟩ = some (.slice F.d.a F.d.l.length F.d.c) ∧ W'.cell? ⟨bf, j * 9 + 8, none⟩ = some (.int .i64 F.d.e) ∧ W'.cell? ⟨w.heap.size, 1, none⟩ = some (.slice (some ⟨b3, o3, none⟩) N c) ∧ W'.cell? ⟨b3, o3 + j * 5, none⟩ = some (.int .i64 X.k) ∧ W'.cell? ⟨b3, o3 + j * 5 + 1, none⟩ = some (.int .u64 X.n) ∧ W'.cell? ⟨b3, o3 + j * 5 + 2, none⟩ = some (.string X.s) ∧ W'.cell? ⟨b3, o3 + j * 5 + 3, none⟩ = some (.slice X.a X.l.length X.c) ∧ W'.cell? ⟨b3, o3 + j * 5 + 4, none⟩ = some (.int .i64 X.e)) W') := by
          intro W' hW'
          have e : ∀ b o', b < wr.heap.size → W'.cell? ⟨b, o', none⟩ = wr.cell? ⟨b, o', none⟩ := fun b o' hb => hW'.cell (p := ⟨b, o', none⟩) hb
          exact ⟨(e _ _ hbfr).trans f0, (e _ _ hbfr).trans f1, (e _ _ hbfr).trans f2, (e _ _ hbfr).trans f3, (e _ _ hbfr).trans f4, (e _ _ hbfr).trans f5, (e _ _ hbfr).trans f6, (e _ _ hbfr).trans f7, (e _ _ hbfr).trans f8, (e _ _ hz).trans k1, (e _ _ hb3r).trans x0, (e _ _ hb3r).trans x1, (e _ _ hb3r).trans x2, (e _ _ hb3r).trans x3, (e _ _ hb3r).trans x4⟩
        have HBR : Hid (Below wr.heap.size wr wr.drew) := (Below.refl _ _).drew
        clear hsuit hfd hokf hxl hrow3 hr hfr
        go_wp2_with fail
        refine wp_region_held_drew (S := (fun W' => W'.cell? ⟨bf, j * 9, none⟩ = some (.string F.name) ∧ W'.cell? ⟨bf, j * 9 + 1, none⟩ = some (.int .i64 F.ty) ∧ W'.cell? ⟨bf, j * 9 + 2, none⟩ = some (.slice F.ka F.kl F.kc) ∧ W'.cell? ⟨bf, j * 9 + 3, none⟩ = some (.bool F.must) ∧ W'.cell? ⟨bf, j * 9 + 4, none⟩ = some (.int .i64 F.d.k) ∧ W'.cell? ⟨bf, j * 9 + 5, none⟩ = some (.int .u64 F.d.n) ∧ W'.cell? ⟨bf, j * 9 + 6, none⟩ = some (.string F.d.s) ∧ W'.cell? ⟨bf, j * 9 + 7, none⟩ = some (.slice F.d.a F.d.l.length F.d.c) ∧ W'.cell? ⟨bf, j * 9 + 8, none⟩ = some (.int .i64 F.d.e) ∧ W'.cell? ⟨w.heap.size, 1, none⟩ = some (.slice (some ⟨b3, o3, none⟩) N c) ∧ W'.cell? ⟨b3, o3 + j * 5, none⟩ = some (.int .i64 X.k) ∧ W'.cell? ⟨b3, o3 + j * 5 + 1, none⟩ = some (.int .u64 X.n) ∧ W'.cell? ⟨b3, o3 + j * 5 + 2, none⟩ = some (.string X.s) ∧ W'.cell? ⟨b3, o3 + j * 5 + 3, none⟩ = some (.slice X.a X.l.length X.c) ∧ W'.cell? ⟨b3, o3 + j * 5 + 4, none⟩ = some (.int .i64 X.e))) (by kernel_rfl) (HS.out _ HBR.out) (fun hHeld => ?_)
        refine take_do (i := 0) (d := 29) (v := ?_) rfl rfl (by kernel_rfl) (by kernel_rfl) (by kernel_rfl) (fun _ _ _ h => h) rfl ?_ (by assumption) ?_
        rotate_left
        · intro w hSw
          try dsimp only at hSw
          go_simp
          try with_reducible rfl
        try simp only [List.setIfInBounds_toArray, List.set_cons_zero, List.set_cons_succ]
        refine take_do (i := 1) (d := 30) (v := ?_) rfl rfl (by kernel_rfl) (by kernel_rfl) (by kernel_rfl) (fun _ _ _ h => h) rfl ?_ (by assumption) ?_
        rotate_left
        · intro w hSw
          try dsimp only at hSw
          go_simp
          try with_reducible rfl
        try simp only [List.setIfInBounds_toArray, List.set_cons_zero, List.set_cons_succ]
        refine take_do (i := 2) (d := 31) (v := ?_) rfl rfl (by kernel_rfl) (by kernel_rfl) (by kernel_rfl) (fun _ _ _ h => h) rfl ?_ (by assumption) ?_
        rotate_left
        · intro w hSw
          try dsimp only at hSw
          go_simp
          try with_reducible rfl
        try simp only [List.setIfInBounds_toArray, List.set_cons_zero, List.set_cons_succ]
        refine take_do (i := 3) (d := 32) (v := ?_) rfl rfl (by kernel_rfl) (by kernel_rfl) (by kernel_rfl) (fun _ _ _ h => h) rfl ?_ (by assumption) ?_
        rotate_left
        · intro w hSw
          try dsimp only at hSw
          go_simp
          try with_reducible rfl
        try simp only [List.setIfInBounds_toArray, List.set_cons_zero, List.set_cons_succ]
        refine take_do (i := 4) (d := 33) (v := ?_) rfl rfl (by kernel_rfl) (by kernel_rfl) (by kernel_rfl) (fun _ _ _ h => h) rfl ?_ (by assumption) ?_
        rotate_left
        · intro w hSw
          try dsimp only at hSw
          go_simp
          try with_reducible rfl
        try simp only [List.setIfInBounds_toArray, List.set_cons_zero, List.set_cons_succ]
        refine take_do (i := 5) (d := 34) (v := ?_) rfl rfl (by kernel_rfl) (by kernel_rfl) (by kernel_rfl) (fun _ _ _ h => h) rfl ?_ (by assumption) ?_
        rotate_left
        · intro w hSw
          try dsimp only at hSw
          go_simp
          try with_reducible rfl
        try simp only [List.setIfInBounds_toArray, List.set_cons_zero, List.set_cons_succ]
        refine take_do (i := 6) (d := 35) (v := ?_) rfl rfl (by kernel_rfl) (by kernel_rfl) (by kernel_rfl) (fun _ _ _ h => h) rfl ?_ (by assumption) ?_
        rotate_left
        · intro w hSw
          try dsimp only at hSw
          go_simp
          try with_reducible rfl
        try simp only [List.setIfInBounds_toArray, List.set_cons_zero, List.set_cons_succ]
        refine take_do (i := 7) (d := 36) (v := ?_) rfl rfl (by kernel_rfl) (by kernel_rfl) (by kernel_rfl) (fun _ _ _ h => h) rfl ?_ (by assumption) ?_
        rotate_left
        · intro w hSw
          try dsimp only at hSw
          go_simp
          try with_reducible rfl
        try simp only [List.setIfInBounds_toArray, List.set_cons_zero, List.set_cons_succ]
        refine take_do (i := 8) (d := 37) (v := ?_) rfl rfl (by kernel_rfl) (by kernel_rfl) (by kernel_rfl) (fun _ _ _ h => h) rfl ?_ (by assumption) ?_
        rotate_left
        · intro w hSw
          try dsimp only at hSw
          go_simp
          try with_reducible rfl
        try simp only [List.setIfInBounds_toArray, List.set_cons_zero, List.set_cons_succ]
        refine wpAnyH_ready (rs := [9]) (by kernel_rfl) (by simp) ?_
        refine AllReadyH.cons rfl (fun K hK => ?_) AllReadyH.nil
        go_simp
        go_wp2_with (go_at_call 36; refine Calls.mono HSU.out ?_; rintro e6 w6 ⟨rfl, hb6⟩; have HB6 : Hid (Below wr.heap.size wr w6) := HBR.out.trans hb6; clear hb6)
        refine hK.out _ _ (HS.out _ HB6.out) (fun hHeld => ?_)
        clear hK K
        refine take_do (i := 10) (d := 6) (v := ?_) rfl rfl (by kernel_rfl) (by kernel_rfl) (by kernel_rfl) (fun _ _ _ h => h) rfl ?_ (by assumption) ?_
        rotate_left
        · intro w hSw
          try dsimp only at hSw
          go_simp
          try with_reducible rfl
        try simp only [List.setIfInBounds_toArray, List.set_cons_zero, List.set_cons_succ]
        refine wpAnyH_done (by kernel_rfl) ?_ _
        have HBW6 : Hid (Below w1.heap.size w1 w6) := HB.out.trans (HB6.out.mono HB.out.size)
        clear HS HSU HBR f0 f1 f2 f3 f4 f5 f6 f7 f8 x0 x1 x2 x3 x4
        by_cases hr0 : r = 0
        · have HZ' : Hid (∀ i (h1 : i < fs0.length) (h2 : i < y.l.length), i < j + 1 → (chkV rep fs0[i] y.l[i]).2 = 0) := fun i h1 h2 hi => by
            by_cases e : i = j
            · subst e
              obtain ⟨_, _, e⟩ := HRJ.out
              rw [e]
              exact hr0
            · exact HZ.out i h1 h2 (by omega)
          subst hr0
          go_wp2
          go_roundw
          case rel => exact ⟨j + 1, by go_num, by omega, HBW6, HZ'⟩
          case measure => simp [intOf]; omega
        · have hrb : (r == 0) = false := by simpa using hr0
          have hrn : (r != 0) = true := by simpa using hr0
          have HRK : Hid (R = r) := by
            obtain ⟨h1, h2, e⟩ := HRJ.out
            rw [Hid, ← HR.out, zip_bad (by rw [HN.out, HM.out]) h1 h2 (by rw [e]; exact hr0) (fun i h1 h2 hi => HZ.out i h1 h2 hi) HFT.out]
            exact e
          have hbw6 := (HC.out w6 (HB1.out.trans (HBW6.out.mono HB1.out.size))).2.2.2
          go_wp2
          go_ret
          exact ⟨by rw [HRK.out]; rfl, hbw6⟩
      · obtain rfl : j = N := by omega
        have hlen : y.l.length = fs0.length := by rw [HN.out, HM.out]
        have hall : ∀ i (h1 : i < fs0.length) (h2 : i < y.l.length), (chkV rep fs0[i] y.l[i]).2 = 0 := fun i h1 h2 => HZ.out i h1 h2 (by have := HM.out; omega)
        obtain ⟨hrp1, hrp2⟩ := rp_dp HFT.out hlen hall
        have hpk := rpacked_any kind fs0 Q wr y af cf fs HFT.out (LiesIn.keep HY.out (fun b' hb' o' => HBW.out.cell (p := ⟨b', o', none⟩) (hQ b' hb')) (fun _ h => h)) (fun b h => by have := hQ b h; have := HBW.out.size; omega) hlen hall ((HFI.out.flds (Below.refl _ _)).below HB.out) (by rw [HM.out]; exact hlc)
        rw [HYA.out, HYC.out, HN.out, HM.out] at hpk
        have HPK := hide hpk
        have HRK : Hid (R = if 32 < T.dp (laidT kind (rpT fs0 y.l)) then 26 else 0) := by
          rw [Hid, ← HR.out, zip_good hlen hall HFT.out]
          split <;> rfl
        have HDP := hide hrp2
        clear hpk hrp1 hrp2 hall hlen
        go_wp2_with fail
        refine HPK.out.mono ?_
        rintro e4 w4 ⟨z, rfl, HZ4, hb4⟩
        have hs4 := hb4.size
        have hdz : T.dp z = T.dp (laidT kind (rpT fs0 y.l)) := by rw [← dp_t z, HZ4.out.1]
        have hzl : Lies w4.heap.size w4 z := LiesIn.keep HZ4.out.2 (fun _ _ _ => rfl) (fun b hq => hq.elim (fun h => by have := hQ b h; have := HBW.out.size; omega) (fun h => h.2))
        obtain ⟨W5, hW5⟩ : ∃ W5, w4.alloc (Obj.cells #[.int .i64 z.k, .int .u64 z.n, .string z.s, .slice z.a z.l.length z.c, .int .i64 z.e] 42) = W5 := ⟨_, rfl⟩
        have hb5 : Below w4.heap.size w4 W5 := by rw [← hW5]; exact bel1 (Below.refl _ _) (Nat.le_refl _) _
        have hdep := rdp_any z (by rw [hdz]; have := HDP.out; omega) w4.heap.size W5 hb5.size (hzl.keep hb5 (Nat.le_refl _))
        rw [hdz, V.val_eq] at hdep
        have HD := HDP.out
        generalize T.dp (laidT kind (rpT fs0 y.l)) = D at hdep HRK HD hdz
        have HDE := hide hdep
        have HW5 := hide hW5
        have hbw4 : Below w.heap.size w w4 := HBW.out.trans (hb4.mono HBW.out.size)
        have hbw5 : Below w.heap.size w W5 := hbw4.trans (hb5.mono hbw4.size)
        clear hdep hW5 hdz hzl k0 k1
        go_wp2_with fail
        rw [HW5.out]
        refine HDE.out.mono ?_
        rintro e6 w6 ⟨rfl, hb6⟩
        have hbw6 : Below w.heap.size w w6 := hbw5.trans (hb6.mono hbw5.size)
        by_cases hD32 : 32 < D
        · rw [if_pos hD32] at HRK
          go_wp2
          go_ret
          exact ⟨by rw [HRK.out]; rfl, hbw6⟩
        · rw [if_neg hD32] at HRK
          go_wp2
          go_ret
          exact ⟨by rw [HRK.out]; rfl, hbw6⟩
set_option maxRecDepth 100000 in
set_option maxHeartbeats 8000000 in
theorem rpackR_any (kind : Int) (y : V) (Q : Nat → Prop) (w : World) (hQ : ∀ b, Q b → b < w.heap.size) (hy : LiesIn Q w (V.of 0 0 ⟨#[]⟩ y.a y.c 0 y.l)) :
    Calls Tryz.prog 20 #[.agg #[.int .i64 kind, .slice y.a y.l.length y.c]] w fun e w' => ∃ z : V, e = VN z (packR kind y.l).2 ∧ Hid (z.t = (packR kind y.l).1 ∧ LiesIn (fun q => Q q ∨ (w.heap.size ≤ q ∧ q < w'.heap.size)) w' z) ∧ Below w.heap.size w w' := by
  obtain ⟨W0, hW0⟩ : ∃ W0, (w.alloc (Obj.cells #[.int .i64 kind, .slice y.a y.l.length y.c] 33)).alloc (Obj.cells #[.int .i64 0, .int .u64 0, .string ⟨#[]⟩, .slice none 0 0, .int .i64 0] 42) = W0 := ⟨_, rfl⟩
  have hs0 : W0.heap.size = w.heap.size + 2 := by rw [← hW0]; simp
  have hb0 : Below w.heap.size w W0 := by rw [← hW0]; exact bel2 (Below.refl _ _) (Nat.le_refl _) _ _
  have hx0 : W0.heap[w.heap.size]? = some (.cells #[.int .i64 kind, .slice y.a y.l.length y.c] 33 (0, 0)) := by rw [← hW0]; exact heap_past (World.alloc_heap_new _ _) _
  have hx1 : W0.heap[w.heap.size + 1]? = some (.cells #[.int .i64 0, .int .u64 0, .string ⟨#[]⟩, .slice none 0 0, .int .i64 0] 42 (0, 0)) := by rw [← hW0]; exact heap_at1 _ _ _
  have HC : Hid (∀ W', Below W0.heap.size W0 W' → W'.cell? ⟨w.heap.size, 0, none⟩ = some (.int .i64 kind) ∧ W'.cell? ⟨w.heap.size, 1, none⟩ = some (.slice y.a y.l.length y.c) ∧ w.heap.size + 1 < W'.heap.size ∧ W'.heap[w.heap.size + 1]? = some (.cells #[.int .i64 0, .int .u64 0, .string ⟨#[]⟩, .slice none 0 0, .int .i64 0] 42 (0, 0)) ∧ Below w.heap.size w W') := fun W' h => by
    have e0 := (h.block w.heap.size (by omega)).trans hx0
    exact ⟨by unfold World.cell?; simp only [e0]; rfl, by unfold World.cell?; simp only [e0]; rfl, by have := h.size; omega, (h.block _ (by omega)).trans hx1, belOn hb0 (by omega) h⟩
  have hck := rcheckR_any kind y Q W0 (fun b h => by have := hQ b h; omega) (LiesIn.keep hy (fun b' hb' o' => hb0.cell (p := ⟨b', o', none⟩) (hQ b' hb')) (fun _ h => h))
  have HCK := hide hck
  have HW0 := hide hW0
  have HY := hide hy
  have HGOOD : Hid ((packR kind y.l).2 = 0 → ∃ fs0, ftab kind = some fs0 ∧ y.l.length = fs0.length ∧ (∀ i (h1 : i < fs0.length) (h2 : i < y.l.length), (chkV rep fs0[i] y.l[i]).2 = 0) ∧ packR kind y.l = (laidT kind (rpT fs0 y.l), 0)) := fun h0 => by
    cases hft : ftab kind with
    | none =>
      unfold packR packT at h0
      rw [hft] at h0
      exact absurd h0 (by show ¬ ((70 : Int) = 0); decide)
    | some fs0 =>
      have hlen : y.l.length = fs0.length := by
        by_cases h : y.l.length = fs0.length
        · exact h
        · unfold packR packT at h0
          rw [hft] at h0
          simp only at h0
          rw [if_pos h] at h0
          exact absurd h0 (by decide)
      have hall : ∀ n, n ≤ fs0.length → ∀ i (h1 : i < fs0.length) (h2 : i < y.l.length), i < n → (chkV rep fs0[i] y.l[i]).2 = 0 := by
        intro n
        induction n with
        | zero => intro _ i _ _ h; omega
        | succ n ih =>
          intro hn i h1 h2 hi
          by_cases e : i = n
          · subst e
            by_cases hz : (chkV rep fs0[i] y.l[i]).2 = 0
            · exact hz
            · have := zip_bad hlen h1 h2 hz (fun j h1 h2 hj => ih (by omega) j h1 h2 hj) hft
              rw [this] at h0
              exact absurd h0 hz
          · exact ih (by omega) i h1 h2 (by omega)
      have hall' := fun i h1 h2 => hall fs0.length (Nat.le_refl _) i h1 h2 h1
      have hg := zip_good hlen hall' hft
      refine ⟨fs0, rfl, hlen, hall', ?_⟩
      by_cases hd : 32 < T.dp (laidT kind (rpT fs0 y.l))
      · rw [hg, if_pos hd] at h0
        exact absurd h0 (by decide)
      · rw [hg, if_neg hd]
  have HBADE : Hid ((packR kind y.l).2 ≠ 0 → (packR kind y.l).1 = nul) := fun h => by
    revert h
    unfold packR packT
    cases ftab kind with
    | none => intro _; rfl
    | some fs0 =>
      simp only
      split
      · intro _; rfl
      · unfold endT
        split
        · intro _; rfl
        · split
          · intro _; rfl
          · intro h; exact absurd rfl h
  obtain ⟨k0, k1, hz, _, _⟩ := HC.out W0 (Below.refl _ _)
  have hz' : w.heap.size < W0.heap.size := by omega
  have HS0 := hide hs0
  clear hck hW0 hx0 hx1 hs0 hb0 hy
  obtain ⟨PR, hPR⟩ : ∃ PR, packR kind y.l = PR := ⟨_, rfl⟩
  rw [hPR] at HCK HGOOD HBADE ⊢
  obtain ⟨PT, E⟩ := PR
  dsimp only at HCK HGOOD HBADE ⊢
  clear hPR
  by_cases hE : E = 0
  rotate_left
  · have hEb : (E == 0) = false := by simpa using hE
    have hEn : (E != 0) = true := by simpa using hE
    have hPT := HBADE.out hE
    subst hPT
    go_enter Tryz.func20, Tryz.ntmps20
    go_wp2_with fail
    rw [HW0.out]
    refine HCK.out.mono ?_
    rintro e1 w1 ⟨rfl, hb1⟩
    obtain ⟨_, _, hlt, hx1, hbw⟩ := HC.out w1 hb1
    have HX1 := hide hx1
    have HZR : Hid ((w1.setRow (w.heap.size + 1) #[.int .i64 0, .int .u64 0, .string ⟨#[]⟩, .slice none 0 0, .int .i64 0]).heap[w.heap.size + 1]? = some (.cells #[.int .i64 0, .int .u64 0, .string ⟨#[]⟩, .slice none 0 0, .int .i64 0] 42 (0, 0))) := setR_at hx1 _
    have HBE : Hid (Below w.heap.size w (w1.setRow (w.heap.size + 1) #[.int .i64 0, .int .u64 0, .string ⟨#[]⟩, .slice none 0 0, .int .i64 0])) := setR_below hbw (by omega) _
    clear hx1 k0 k1
    go_wp2_with (refine wpList_store_row rfl 42 (.tmp 2) (.tmp 11) rfl (w.heap.size + 1) #[.int .i64 0, .int .u64 0, .string ⟨#[]⟩, .slice none 0 0, .int .i64 0] rfl rfl 42 _ HX1.out Tryz.sizeV rfl (by kernel_rfl) ?_)
    have hzz := HZR.out
    have z0 : (w1.setRow (w.heap.size + 1) #[.int .i64 0, .int .u64 0, .string ⟨#[]⟩, .slice none 0 0, .int .i64 0]).cell? ⟨w.heap.size + 1, 0, none⟩ = some (.int .i64 0) := by unfold World.cell?; simp only [hzz]; rfl
    have z1 : (w1.setRow (w.heap.size + 1) #[.int .i64 0, .int .u64 0, .string ⟨#[]⟩, .slice none 0 0, .int .i64 0]).cell? ⟨w.heap.size + 1, 1, none⟩ = some (.int .u64 0) := by unfold World.cell?; simp only [hzz]; rfl
    have z2 : (w1.setRow (w.heap.size + 1) #[.int .i64 0, .int .u64 0, .string ⟨#[]⟩, .slice none 0 0, .int .i64 0]).cell? ⟨w.heap.size + 1, 2, none⟩ = some (.string ⟨#[]⟩) := by unfold World.cell?; simp only [hzz]; rfl
    have z3 : (w1.setRow (w.heap.size + 1) #[.int .i64 0, .int .u64 0, .string ⟨#[]⟩, .slice none 0 0, .int .i64 0]).cell? ⟨w.heap.size + 1, 3, none⟩ = some (.slice none 0 0) := by unfold World.cell?; simp only [hzz]; rfl
    have z4 : (w1.setRow (w.heap.size + 1) #[.int .i64 0, .int .u64 0, .string ⟨#[]⟩, .slice none 0 0, .int .i64 0]).cell? ⟨w.heap.size + 1, 4, none⟩ = some (.int .i64 0) := by unfold World.cell?; simp only [hzz]; rfl
    exact bodyPost_ret (v := .tuple #[.agg #[.int .i64 0, .int .u64 0, .string ⟨#[]⟩, .slice none 0 0, .int .i64 0], .int .i64 E]) (by simp [results, Tryz.results20, go_sem, z0, z1, z2, z3, z4]) rfl ⟨nul, (VN_nul E).symm, ⟨nul_t, LiesIn.keep (nul_lies' 0 _) (fun _ _ _ => rfl) (fun b h => absurd h (Nat.not_lt_zero _))⟩, HBE.out⟩
  · subst hE
    obtain ⟨fs0, hft, hlen, hall, hpt⟩ := HGOOD.out rfl
    have hPT : PT = laidT kind (rpT fs0 y.l) := congrArg Prod.fst hpt
    have HF := hide (fun W => rfields_any kind W)
    rw [hft] at HF
    have HPK : Hid (∀ W' a c fs, Below W0.heap.size W0 W' → Flds fs0 W' a fs → fs0.length ≤ c → Calls Tryz.prog 37 #[.agg #[.int .i64 kind, .slice y.a y.l.length y.c], .slice a fs0.length c] W' fun e w' => ∃ z : V, e = .returned (.agg #[.int .i64 z.k, .int .u64 z.n, .string z.s, .slice z.a z.l.length z.c, .int .i64 z.e]) ∧ Hid (z.t = PT ∧ LiesIn (fun q => Q q ∨ (W'.heap.size ≤ q ∧ q < w'.heap.size)) w' z) ∧ Below W'.heap.size W' w') := fun W' a c fs hb hF hc => by
      have hbw := (HC.out W' hb).2.2.2.2
      have h := rpacked_any kind fs0 Q W' y a c fs hft (LiesIn.keep HY.out (fun b' hb' o' => hbw.cell (p := ⟨b', o', none⟩) (hQ b' hb')) (fun _ h => h)) (fun b h => by have := hQ b h; have := hbw.size; omega) hlen hall hF hc
      rw [← hPT] at h
      exact h
    clear hft hlen hall hpt hPT HGOOD HBADE
    go_enter Tryz.func20, Tryz.ntmps20
    go_wp2_with fail
    rw [HW0.out]
    refine HCK.out.mono ?_
    rintro e1 w1 ⟨rfl, hb1⟩
    obtain ⟨g0, g1, hlt, _, _⟩ := HC.out w1 hb1
    have hlt' : w.heap.size < w1.heap.size := by omega
    clear k0 k1
    go_wp2_with fail
    refine (HF.out w1).mono ?_
    rintro e2 w2 ⟨a, c, fs, rfl, HFI, hlc, hb2⟩
    have hb02 : Below W0.heap.size W0 w2 := hb1.trans (hb2.mono hb1.size)
    obtain ⟨m0, m1, hlt2, _, _⟩ := HC.out w2 hb02
    have hlt2' : w.heap.size < w2.heap.size := by omega
    have HP := hide (HPK.out w2 a c fs hb02 (HFI.out.flds (Below.refl _ _)) hlc)
    clear g0 g1
    go_wp2_with fail
    refine HP.out.mono ?_
    rintro e3 w3 ⟨z, rfl, HZ3, hb3⟩
    have hb03 : Below W0.heap.size W0 w3 := hb02.trans (hb3.mono hb02.size)
    obtain ⟨_, _, hlt3, hx1, hbw⟩ := HC.out w3 hb03
    have HX1 := hide hx1
    have HZR : Hid ((w3.setRow (w.heap.size + 1) #[.int .i64 z.k, .int .u64 z.n, .string z.s, .slice z.a z.l.length z.c, .int .i64 z.e]).heap[w.heap.size + 1]? = some (.cells #[.int .i64 z.k, .int .u64 z.n, .string z.s, .slice z.a z.l.length z.c, .int .i64 z.e] 42 (0, 0))) := setR_at hx1 _
    have HBE : Hid (Below w.heap.size w (w3.setRow (w.heap.size + 1) #[.int .i64 z.k, .int .u64 z.n, .string z.s, .slice z.a z.l.length z.c, .int .i64 z.e])) := setR_below hbw (by omega) _
    have HLZ : Hid (LiesIn (fun q => Q q ∨ (w.heap.size ≤ q ∧ q < (w3.setRow (w.heap.size + 1) #[.int .i64 z.k, .int .u64 z.n, .string z.s, .slice z.a z.l.length z.c, .int .i64 z.e]).heap.size)) (w3.setRow (w.heap.size + 1) #[.int .i64 z.k, .int .u64 z.n, .string z.s, .slice z.a z.l.length z.c, .int .i64 z.e]) z) := by
      have h2 := hb02.size
      have h0 := HS0.out
      refine LiesIn.keep HZ3.out.2 (fun b hq o => World.cell?_of_block (setR_ne (b := b) w3 (hq.elim (fun h => by have := hQ b h; omega) (fun h => by omega)) _)) (fun b hq => ?_)
      rw [setR_size]
      exact hq.elim .inl (fun h => .inr ⟨by omega, h.2⟩)
    clear hx1 m0 m1
    go_wp2_with (refine wpList_store_row rfl 42 (.tmp 2) (.tmp 21) rfl (w.heap.size + 1) #[.int .i64 z.k, .int .u64 z.n, .string z.s, .slice z.a z.l.length z.c, .int .i64 z.e] rfl rfl 42 _ HX1.out Tryz.sizeV rfl (by kernel_rfl) ?_)
    have hzz := HZR.out
    have z0 : (w3.setRow (w.heap.size + 1) #[.int .i64 z.k, .int .u64 z.n, .string z.s, .slice z.a z.l.length z.c, .int .i64 z.e]).cell? ⟨w.heap.size + 1, 0, none⟩ = some (.int .i64 z.k) := by unfold World.cell?; simp only [hzz]; rfl
    have z1 : (w3.setRow (w.heap.size + 1) #[.int .i64 z.k, .int .u64 z.n, .string z.s, .slice z.a z.l.length z.c, .int .i64 z.e]).cell? ⟨w.heap.size + 1, 1, none⟩ = some (.int .u64 z.n) := by unfold World.cell?; simp only [hzz]; rfl
    have z2 : (w3.setRow (w.heap.size + 1) #[.int .i64 z.k, .int .u64 z.n, .string z.s, .slice z.a z.l.length z.c, .int .i64 z.e]).cell? ⟨w.heap.size + 1, 2, none⟩ = some (.string z.s) := by unfold World.cell?; simp only [hzz]; rfl
    have z3 : (w3.setRow (w.heap.size + 1) #[.int .i64 z.k, .int .u64 z.n, .string z.s, .slice z.a z.l.length z.c, .int .i64 z.e]).cell? ⟨w.heap.size + 1, 3, none⟩ = some (.slice z.a z.l.length z.c) := by unfold World.cell?; simp only [hzz]; rfl
    have z4 : (w3.setRow (w.heap.size + 1) #[.int .i64 z.k, .int .u64 z.n, .string z.s, .slice z.a z.l.length z.c, .int .i64 z.e]).cell? ⟨w.heap.size + 1, 4, none⟩ = some (.int .i64 z.e) := by unfold World.cell?; simp only [hzz]; rfl
    exact bodyPost_ret (v := .tuple #[.agg #[.int .i64 z.k, .int .u64 z.n, .string z.s, .slice z.a z.l.length z.c, .int .i64 z.e], .int .i64 0]) (by simp [results, Tryz.results20, go_sem, z0, z1, z2, z3, z4]) rfl ⟨z, rfl, ⟨HZ3.out.1, HLZ.out⟩, HBE.out⟩
end Go.Proofs.YtgldcchleoklcaaGreatDoor
