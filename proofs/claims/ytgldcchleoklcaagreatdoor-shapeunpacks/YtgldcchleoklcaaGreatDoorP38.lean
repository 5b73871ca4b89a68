/- HGChk, HGDeep, HChk -/
import Derived.Test.YtgldcchleoklcaaGreatDoorP21
import Derived.Test.YtgldcchleoklcaaGreatDoorP35
import Derived.Test.YtgldcchleoklcaaGreatDoorP13
import Derived.Test.YtgldcchleoklcaaGreatDoorP18
namespace Go.Proofs.YtgldcchleoklcaaGreatDoor
open Go.RowKit
set_option linter.unusedVariables false
set_option linter.unusedSimpArgs false
def chkE (v : V) : Int := firstE checkZ (v.all 1)
def chkV (re : T → T × Int) (s : FS) (v : V) : T × Int :=
  if (s.must && decide (v.k = 0)) = true then (nul, 72)
  else if chkE v ≠ 0 then (nul, chkE v)
  else if s.ty = 101 ∧ v.k = 20 then (nul, 73)
  else fillT re s v.t
set_option maxRecDepth 100000 in
set_option maxHeartbeats 4000000 in
theorem checked_all (re : T → T × Int) (f : Fd) (s : FS) (v : V) (n₀ : Nat) (w : World) (hn : n₀ ≤ w.heap.size) (hl : Lies n₀ w v) (hf : FdIn 0 w f s) (hok : okFS s = true) (hre : s.ty = 102 → v.k ≠ 0 → chkE v = 0 → RepOk re v) (hT : ∀ W, Below w.heap.size w W → Lib.Utf8Tabs 0 1 W) :
    Calls Tryz.prog 98 #[f.val, v.val] w (ValPost n₀ (chkV re s v) w) := by
  generalize hR : chkV re s v = R
  unfold chkV at hR
  rw [← hf.2.2.1, ← hf.2.1] at hR
  obtain ⟨W0, hW0⟩ : ∃ W0, ((w.alloc (Obj.cells f.cs 66)).alloc (Obj.cells #[.int .i64 v.k, .int .u64 v.n, .string v.s, .slice v.a v.l.length v.c, .int .i64 v.e] 42)).alloc (Obj.cells #[.int .i64 0, .int .u64 0, .string ⟨#[]⟩, .slice none 0 0, .int .i64 0] 42) = W0 := ⟨_, rfl⟩
  have hs0 : W0.heap.size = w.heap.size + 3 := by rw [← hW0]; simp
  have hb0 : Below w.heap.size w W0 := by rw [← hW0]; exact bel1 (bel2 (Below.refl _ _) (Nat.le_refl _) _ _) (by simp; omega) _
  have xf : BoxF W0 w.heap.size f := by rw [← hW0]; exact heap_past (heap_past (World.alloc_heap_new _ _) _) _
  have xv : BoxV W0 (w.heap.size + 1) v := by rw [← hW0]; exact heap_past (heap_at1 _ _ _) _
  have xz : BoxV W0 (w.heap.size + 1 + 1) nul := by rw [← hW0]; exact heap_at2 _ _ _ _
  have HL := hide (fun W => lacks_any f v W)
  have HC : Hid (∀ W, Below w.heap.size w W → Calls Tryz.prog 42 #[v.val] W fun e w' => e = .returned (.int .i64 (chkE v)) ∧ Below W.heap.size W w') := fun W hW => check_any v n₀ W (by have := hW.size; omega) (hl.keep hW hn) (hT W hW)
  have HF : Hid (∀ W, Below w.heap.size w W → chkE v = 0 → Calls Tryz.prog 106 #[f.val, v.val] W (ValPost n₀ (fillT re s v.t) W)) := fun W hW h0 => by
    refine filled_all re f s v n₀ W (by have := hW.size; omega) (hl.keep hW hn) ?_ hok (fun h1 h2 => hre h1 h2 h0)
    obtain ⟨e1, e2, e3, e4, e5, e6, e7⟩ := hf
    refine ⟨e1, e2, e3, e4, e5, e6, fun h0 => ?_⟩
    obtain ⟨b', ee, _, h2, h3⟩ := e7 h0
    exact ⟨b', ee, Nat.zero_le _, by have := hW.size; omega, (hW.block b' h2).trans h3⟩
  generalize chkE v = ce at hR HC HF
  generalize fillT re s v.t = fr at hR HF
  have HRR := hide hR
  generalize hlk : (f.must && decide (v.k = 0)) = lk at HL
  have HLK := hide hlk
  rw [Fd.val_eq, V.val_eq] at HL HF ⊢
  rw [V.val_eq] at HC
  have HW0 := hide hW0
  unfold Fd.cs at HW0
  have HBAD : Hid (∀ (wz : World) (n : Int), Below W0.heap.size W0 wz → R = (nul, n) → ValPost n₀ R w (.returned (.tuple #[.agg #[.int .i64 0, .int .u64 0, .string ⟨#[]⟩, .slice none 0 0, .int .i64 0], .int .i64 n])) (((((wz.setCell ⟨w.heap.size + 1 + 1, 0, none⟩ (.int .i64 0)).setCell ⟨w.heap.size + 1 + 1, 1, none⟩ (.int .u64 0)).setCell ⟨w.heap.size + 1 + 1, 2, none⟩ (.string ⟨#[]⟩)).setCell ⟨w.heap.size + 1 + 1, 3, none⟩ (.slice none 0 0)).setCell ⟨w.heap.size + 1 + 1, 4, none⟩ (.int .i64 0))) := by
    intro wz n hz e
    have h := valpost_nul (n₀ := n₀) (n := n) (put5_below (y := nul) (o := 0) (b := w.heap.size + 1 + 1) (belOn hb0 (by omega) hz) (by omega))
    rw [VN_nul, ← put5_eq] at h
    rw [e]
    exact h
  have HZ : Hid (∀ wz, Below W0.heap.size W0 wz → BoxV wz (w.heap.size + 1 + 1) nul ∧ w.heap.size + 1 + 1 < wz.heap.size) := fun wz hz => ⟨xz.below hz (by omega), by have := hz.size; omega⟩
  clear hW0 hlk hR hl hf hok hre hT
  go_enter Tryz.func98, Tryz.ntmps98
  go_wp2_with fail
  rw [HW0.out]
  clear HW0
  refine (HL.out _).mono ?_
  rintro e1 w1 ⟨rfl, hb1⟩
  have hs1 := hb1.size
  have hbw : Below w.heap.size w w1 := belOn hb0 (by omega) hb1
  cases lk
  rotate_left
  · have HRK : Hid (R = (nul, 72)) := by rw [Hid, ← HRR.out, HLK.out, if_pos rfl]
    obtain ⟨xz1, hzl⟩ := HZ.out _ hb1
    obtain ⟨z0, z1, z2, z3, z4⟩ := xz1.cells
    have fz := (show Blk w1 (w.heap.size + 1 + 1) 42 5 from ⟨_, xz1, rfl⟩).free
    clear xz1 HRR
    go_wp2
    exact bodyPost_ret (v := .tuple #[.agg #[.int .i64 0, .int .u64 0, .string ⟨#[]⟩, .slice none 0 0, .int .i64 0], .int .i64 72]) (by simp [results, Tryz.results98, go_sem, z0, z1, z2, z3, z4]) rfl (HBAD.out _ _ hb1 HRK.out)
  obtain ⟨v0, v1, v2, v3, v4⟩ := (xv.below hb1 (by omega)).cells
  have hz3 : w.heap.size + 1 < w1.heap.size := by omega
  go_wp2_with fail
  refine (HC.out _ hbw).mono ?_
  rintro e2 w2 ⟨rfl, hb2⟩
  have hb3 : Below W0.heap.size W0 w2 := belOn hb1 hs1 hb2
  have hs2 := hb3.size
  have hbw2 : Below w.heap.size w w2 := belOn hb0 (by omega) hb3
  clear v0 v1 v2 v3 v4
  by_cases hce : ce = 0
  rotate_left
  · have HRK : Hid (R = (nul, ce)) := by rw [Hid, ← HRR.out, HLK.out, if_neg (by simp), if_pos hce]
    have hrb : (ce == 0) = false := by simpa using hce
    have hrn : (ce != 0) = true := by simpa using hce
    obtain ⟨xz1, hzl⟩ := HZ.out _ hb3
    obtain ⟨z0, z1, z2, z3, z4⟩ := xz1.cells
    have fz := (show Blk w2 (w.heap.size + 1 + 1) 42 5 from ⟨_, xz1, rfl⟩).free
    clear xz1 HRR
    go_wp2
    exact bodyPost_ret (v := .tuple #[.agg #[.int .i64 0, .int .u64 0, .string ⟨#[]⟩, .slice none 0 0, .int .i64 0], .int .i64 ce]) (by simp [results, Tryz.results98, go_sem, z0, z1, z2, z3, z4]) rfl (HBAD.out _ _ hb3 HRK.out)
  subst hce
  obtain ⟨f0, f1, f2, f3, f4, f5, f6, f7, f8⟩ := (xf.below hb3 (by omega)).cells
  obtain ⟨u0, u1, u2, u3, u4⟩ := (xv.below hb3 (by omega)).cells
  have hz4 : w.heap.size + 1 < w2.heap.size := by omega
  have hz5 : w.heap.size < w2.heap.size := by omega
  have HB3 := hide hb3
  clear hb1 hb2 hb3
  by_cases hsy : f.ty = 101 ∧ v.k = 20
  · have HRK : Hid (R = (nul, 73)) := by rw [Hid, ← HRR.out, HLK.out, if_neg (by simp), if_neg (by simp), if_pos hsy]
    obtain ⟨xz1, hzl⟩ := HZ.out _ HB3.out
    obtain ⟨z0, z1, z2, z3, z4⟩ := xz1.cells
    have fz := (show Blk w2 (w.heap.size + 1 + 1) 42 5 from ⟨_, xz1, rfl⟩).free
    rw [hsy.1] at f1
    rw [hsy.2] at u0
    clear xz1 HRR hsy
    go_wp2
    exact bodyPost_ret (v := .tuple #[.agg #[.int .i64 0, .int .u64 0, .string ⟨#[]⟩, .slice none 0 0, .int .i64 0], .int .i64 73]) (by simp [results, Tryz.results98, go_sem, z0, z1, z2, z3, z4]) rfl (HBAD.out _ _ HB3.out HRK.out)
  have HRK : Hid (fr = R) := by rw [Hid, ← HRR.out, HLK.out, if_neg (by simp), if_neg (by simp), if_neg hsy]
  have hcase : (f.ty == 101) = false ∨ ((f.ty == 101) = true ∧ (v.k == 20) = false) := by
    by_cases h1 : f.ty = 101
    · exact .inr ⟨by simpa using h1, by simpa using fun h2 => hsy ⟨h1, h2⟩⟩
    · exact .inl (by simpa using h1)
  have HF2 := hide (HF.out _ hbw2 rfl)
  rw [HRK.out] at HF2
  clear HRR HF hsy HRK
  rcases hcase with q1 | ⟨q1, q2⟩
  all_goals
    go_wp2_with fail
    refine HF2.out.mono ?_
    rintro e3 w3 ⟨y, rfl, HY, hb4⟩
    have hs4 := hb4.size
    have hb5 : Below W0.heap.size W0 w3 := belOn HB3.out hs2 hb4
    have hs3 := hb5.size
    obtain ⟨xz1, hzl⟩ := HZ.out _ hb5
    obtain ⟨z0, z1, z2, z3, z4⟩ := xz1.cells
    have fz := (show Blk w3 (w.heap.size + 1 + 1) 42 5 from ⟨_, xz1, rfl⟩).free
    have hend : ValPost n₀ R w (VN y R.2) (put5 w3 (w.heap.size + 1 + 1) 0 y) := ⟨y, rfl, ⟨HY.out.1, HY.out.2.wider (fun b hb => put5_same _ _ _ _ _ (by omega)) (by omega) (by rw [put5_size]; exact Nat.le_refl _)⟩, put5_below (belOn hb0 (by omega) hb5) (by omega)⟩
    rw [← put5_eq] at hend
    have HEND := hide hend
    unfold VN at HEND ⊢
    clear xz1 hend
    go_wp2
    exact bodyPost_ret (v := .tuple #[.agg #[.int .i64 y.k, .int .u64 y.n, .string y.s, .slice y.a y.l.length y.c, .int .i64 y.e], .int .i64 R.2]) (by simp [results, Tryz.results98, go_sem, z0, z1, z2, z3, z4]) rfl HEND.out
theorem alls_mem {d : Int} {l : List V} {p : Int × V} : p ∈ V.alls d l ↔ ∃ x ∈ l, p ∈ x.all d := by
  induction l with
  | nil => simp [V.alls]
  | cons x l ih =>
    rw [V.alls, List.mem_append, ih]
    constructor
    · rintro (h | ⟨y, hy, h⟩)
      · exact ⟨x, by simp, h⟩
      · exact ⟨y, by simp [hy], h⟩
    · rintro ⟨y, hy, h⟩
      rcases List.mem_cons.1 hy with rfl | hy
      · exact .inl h
      · exact .inr ⟨y, hy, h⟩
theorem wrap_low {d : Int} (h0 : 0 ≤ d) (h : d ≤ 100) : wrap64 d = d := by
  unfold wrap64; omega
theorem mxn_ex {l : List Nat} (h : 0 < mxn l) : mxn l ∈ l := by
  induction l with
  | nil => exact absurd h (by simp [mxn])
  | cons x l ih =>
    rw [mxn] at h ⊢
    by_cases hx : mxn l ≤ x
    · rw [Nat.max_eq_left hx]; simp
    · rw [Nat.max_eq_right (by omega)]
      exact List.mem_cons_of_mem _ (ih (by omega))
theorem deep_told (v : V) : ∀ d : Int, 1 ≤ d → d ≤ 33 → ((∃ p ∈ v.all d, 32 < p.1) ↔ 33 ≤ d + T.dp v - 1) := by
  refine V.ind (Q := fun v => ∀ d : Int, 1 ≤ d → d ≤ 33 → ((∃ p ∈ v.all d, 32 < p.1) ↔ 33 ≤ d + T.dp v - 1)) ?_ v
  intro k n s a c e l ih d h1 h2
  rw [V.all_of, dp_of, wrap_low (by omega) (by omega)]
  constructor
  · rintro ⟨p, hp, hlt⟩
    rcases List.mem_cons.1 hp with rfl | hp
    · have : (32 : Int) < d := hlt
      omega
    · obtain ⟨x, hx, hpx⟩ := alls_mem.1 hp
      by_cases h33 : d = 33
      · omega
      · have h3 := (ih x hx (d + 1) (by omega) (by omega)).1 ⟨p, hpx, hlt⟩
        have h4 := mxn_mem (List.mem_map.2 ⟨x, hx, rfl⟩ : T.dp x ∈ l.map T.dp)
        omega
  · intro h
    by_cases h33 : d = 33
    · exact ⟨(d, V.of k n s a c e l), by simp, by show (32 : Int) < d; omega⟩
    · have hpos : 0 < mxn (l.map T.dp) := by omega
      obtain ⟨x, hx, hxe⟩ := List.mem_map.1 (mxn_ex hpos)
      obtain ⟨p, hp, hlt⟩ := (ih x hx (d + 1) (by omega) (by omega)).2 (by omega)
      exact ⟨p, List.mem_cons_of_mem _ (alls_mem.2 ⟨x, hx, hp⟩), hlt⟩
theorem mx_gt (l : List (Int × V)) : ∀ a : Int, (32 < List.foldl (fun m x => max m x.1) a l ↔ 32 < a ∨ ∃ p ∈ l, 32 < p.1) := by
  induction l with
  | nil => intro a; simp
  | cons x l ih =>
    intro a
    rw [List.foldl_cons, ih]
    constructor
    · rintro (h | ⟨p, hp, h⟩)
      · by_cases hx : 32 < x.1
        · exact .inr ⟨x, by simp, hx⟩
        · exact .inl (by omega)
      · exact .inr ⟨p, by simp [hp], h⟩
    · rintro (h | ⟨p, hp, h⟩)
      · exact .inl (by omega)
      · rcases List.mem_cons.1 hp with rfl | hp
        · exact .inl (by omega)
        · exact .inr ⟨p, hp, h⟩
theorem mx_deep (v : V) : 32 < mx (v.all 1) ↔ 32 < T.dp v := by
  unfold mx
  rw [mx_gt, or_iff_right (by omega), deep_told v 1 (by omega) (by omega)]
  omega
theorem firstE_zero {z : Int × V → Int} {l : List (Int × V)} (h : firstE z l = 0) : ∀ p ∈ l, z p = 0 := by
  induction l with
  | nil => intro p hp; cases hp
  | cons x l ih =>
    rw [firstE] at h
    split at h
    · contradiction
    · rename_i hx
      intro p hp
      rcases List.mem_cons.1 hp with rfl | hp
      · exact Decidable.byContradiction hx
      · exact ih h p hp
theorem chk_deep {v : V} (h : chkE v = 0) : T.dp v ≤ 32 := by
  refine Decidable.byContradiction fun hd => ?_
  obtain ⟨p, hp, hlt⟩ := (deep_told v 1 (by omega) (by omega)).2 (by omega)
  have h1 := firstE_zero h p hp
  unfold checkZ faultT faultB at h1
  by_cases hk : p.2.t.k < 0 ∨ 24 < p.2.t.k
  · rw [if_pos hk] at h1
    exact absurd h1 (by decide)
  · rw [if_neg hk, if_pos hlt] at h1
    exact absurd h1 (by decide)
set_option maxRecDepth 100000 in
set_option maxHeartbeats 2000000 in
theorem checked_gen (f : Fd) (v y : V) (w : World) (hl : (f.must && decide (v.k = 0)) = false) (hs : (f.ty == 101 && v.k == 20) = false)
    (hc : ∀ W, Below w.heap.size w W → Calls Tryz.prog 42 #[v.val] W fun e w' => e = .returned (.int .i64 0) ∧ Below W.heap.size W w')
    (hf : ∀ W, Below w.heap.size w W → Calls Tryz.prog 106 #[f.val, v.val] W fun e w' => e = VN y 0 ∧ Below W.heap.size W w') :
    Calls Tryz.prog 98 #[f.val, v.val] w fun e w' => e = VN y 0 ∧ Below w.heap.size w w' := by
  obtain ⟨W0, hW0⟩ : ∃ W0, ((w.alloc (Obj.cells f.cs 66)).alloc (Obj.cells #[.int .i64 v.k, .int .u64 v.n, .string v.s, .slice v.a v.l.length v.c, .int .i64 v.e] 42)).alloc (Obj.cells #[.int .i64 0, .int .u64 0, .string ⟨#[]⟩, .slice none 0 0, .int .i64 0] 42) = W0 := ⟨_, rfl⟩
  have hs0 : W0.heap.size = w.heap.size + 3 := by rw [← hW0]; simp
  have hb0 : Below w.heap.size w W0 := by rw [← hW0]; exact bel1 (bel2 (Below.refl _ _) (Nat.le_refl _) _ _) (by simp; omega) _
  have xf : BoxF W0 w.heap.size f := by rw [← hW0]; exact heap_past (heap_past (World.alloc_heap_new _ _) _) _
  have xv : BoxV W0 (w.heap.size + 1) v := by rw [← hW0]; exact heap_past (heap_at1 _ _ _) _
  have xz : BoxV W0 (w.heap.size + 1 + 1) (.of 0 0 ⟨#[]⟩ none 0 0 []) := by
    rw [← hW0]
    unfold BoxV
    rw [V.k_of, V.n_of, V.s_of, V.a_of, V.l_of, V.c_of, V.e_of]
    exact heap_at2 _ _ _ _
  have HL := hide (fun W => lacks_any f v W)
  have HC := hide hc
  have HF := hide hf
  rw [hl] at HL
  rw [Fd.val_eq, V.val_eq] at HL HF ⊢
  rw [V.val_eq] at HC
  unfold VN at HF
  have HS := hide hs
  have HW0 := hide hW0
  unfold Fd.cs at HW0
  clear hW0 hl hs hc hf
  go_enter Tryz.func98, Tryz.ntmps98
  go_wp2_with fail
  rw [HW0.out]
  refine (HL.out _).mono ?_
  rintro e1 w1 ⟨rfl, hb1⟩
  have hs1 := hb1.size
  have hbw : Below w.heap.size w w1 := belOn hb0 (by omega) hb1
  obtain ⟨v0, v1, v2, v3, v4⟩ := (xv.below hb1 (by omega)).cells
  have hz3 : w.heap.size + 1 < w1.heap.size := by omega
  go_wp2_with fail
  refine (HC.out _ hbw).mono ?_
  rintro e2 w2 ⟨rfl, hb2⟩
  have hb3 : Below W0.heap.size W0 w2 := belOn hb1 hs1 hb2
  have hs2 := hb3.size
  have hbw2 : Below w.heap.size w w2 := belOn hb0 (by omega) hb3
  obtain ⟨f0, f1, f2, f3, f4, f5, f6, f7, f8⟩ := (xf.below hb3 (by omega)).cells
  obtain ⟨u0, u1, u2, u3, u4⟩ := (xv.below hb3 (by omega)).cells
  have hz4 : w.heap.size + 1 < w2.heap.size := by omega
  have hz5 : w.heap.size < w2.heap.size := by omega
  have HB1 := hide hb1
  have HB2 := hide hb2
  clear v0 v1 v2 v3 v4 hb1 hb2
  have hcase : (f.ty == 101) = false ∨ ((f.ty == 101) = true ∧ (v.k == 20) = false) := by
    have := HS.out
    cases h1 : (f.ty == 101)
    · exact .inl rfl
    · rw [h1, Bool.true_and] at this; exact .inr ⟨rfl, this⟩
  have hfin : ∀ w3, Below w2.heap.size w2 w3 → True := fun _ _ => trivial
  rcases hcase with q1 | ⟨q1, q2⟩
  all_goals
    go_wp2_with fail
    refine (HF.out _ hbw2).mono ?_
    rintro e3 w3 ⟨rfl, hb4⟩
    have hb5 : Below W0.heap.size W0 w3 := belOn hb3 hs2 hb4
    have hs3 := hb5.size
    have xz1 := xz.below hb5 (by omega)
    obtain ⟨z0, z1, z2, z3, z4⟩ := xz1.cells
    have fz := (show Blk w3 (w.heap.size + 1 + 1) 42 5 from ⟨_, xz1, rfl⟩).free
    have hz6 : w.heap.size + 1 + 1 < w3.heap.size := by omega
    have hbw3 : Below w.heap.size w w3 := belOn hb0 (by omega) hb5
    clear xz1
    go_wp2
    have hbz : Below w.heap.size w _ := put5_below (y := y) (o := 0) (b := w.heap.size + 1 + 1) hbw3 (by omega)
    rw [← put5_eq] at hbz
    refine bodyPost_ret (v := .tuple #[.agg #[.int .i64 y.k, .int .u64 y.n, .string y.s, .slice y.a y.l.length y.c, .int .i64 y.e], .int .i64 0]) (by simp [results, Tryz.results98, go_sem, z0, z1, z2, z3, z4]) rfl ⟨rfl, hbz⟩
end Go.Proofs.YtgldcchleoklcaaGreatDoor
