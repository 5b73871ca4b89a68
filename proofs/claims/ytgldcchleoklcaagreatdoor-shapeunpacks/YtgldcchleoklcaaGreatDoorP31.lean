/- HGUnp -/
import Derived.Test.YtgldcchleoklcaaGreatDoorP21
import Derived.Test.YtgldcchleoklcaaGreatDoorP26
namespace Go.Proofs.YtgldcchleoklcaaGreatDoor
open Go.RowKit
set_option linter.unusedVariables false
set_option linter.unusedSimpArgs false
def UnpPost (n₀ : Nat) (r : (Int × List T) × Int × Int) (w : World) (e : Ending) (w' : World) : Prop := ∃ (a : Option Addr) (ys : List V) (c : Nat), e = .returned (.tuple #[.agg #[.int .i64 r.1.1, .slice a ys.length c], .int .i64 r.2.1, .int .i64 r.2.2]) ∧
  Hid (V.ts ys = r.1.2 ∧ LiesIn (fun q => q < n₀ ∨ (w.heap.size ≤ q ∧ q < w'.heap.size)) w' (V.of 0 0 ⟨#[]⟩ a c 0 ys) ∧ (r.2.2 = 0 → ∃ L, a = some ⟨L, 0, none⟩ ∧ w.heap.size ≤ L ∧ L < w'.heap.size ∧ Row w' L 0 ys ∧ ys.length ≤ c)) ∧ Below w.heap.size w w'
theorem none_lies (Q : Nat → Prop) (w : World) : LiesIn Q w (V.of 0 0 ⟨#[]⟩ none 0 0 []) := .mk ⟨by decide, by decide, by decide, by decide, by simp, by simp⟩ (by simp) (by simp)
theorem unppost_bad {n₀ : Nat} {w w' : World} {at' n : Int} (hn : n ≠ 0) (hb : Below w.heap.size w w') : UnpPost n₀ ((0, []), at', n) w (.returned (.tuple #[.agg #[.int .i64 0, .slice none 0 0], .int .i64 at', .int .i64 n])) w' := ⟨none, [], 0, rfl, ⟨rfl, none_lies _ _, fun h => absurd h hn⟩, hb⟩
theorem badAt_some {rs : List (T × Int)} {i : Nat} (h : i < rs.length) (hi : rs[i].2 ≠ 0) (hj : ∀ j (h : j < rs.length), j < i → rs[j].2 = 0) : badAt rs = some i := by
  unfold badAt
  rw [List.findIdx?_eq_some_iff_getElem]
  exact ⟨h, by simpa using hi, fun j hji => by simpa using hj j (by omega) hji⟩
theorem badAt_none {rs : List (T × Int)} (hj : ∀ j (h : j < rs.length), rs[j].2 = 0) : badAt rs = none := by
  unfold badAt
  rw [List.findIdx?_eq_none_iff]
  intro r hr
  obtain ⟨j, hjl, rfl⟩ := List.mem_iff_getElem.1 hr
  simpa using hj j hjl
theorem rowT_bad {k : Int} {rs : List (T × Int)} {i : Nat} (h : i < rs.length) (hi : rs[i].2 ≠ 0) (hj : ∀ j (h : j < rs.length), j < i → rs[j].2 = 0) : rowT k rs = ((0, []), (i : Int), rs[i].2) := by
  unfold rowT
  rw [badAt_some h hi hj]
  simp [List.getElem?_eq_getElem h]
theorem rowT_good {k : Int} {rs : List (T × Int)} (hj : ∀ j (h : j < rs.length), rs[j].2 = 0) : rowT k rs = ((k, rs.map Prod.fst), 0, 0) := by
  unfold rowT
  rw [badAt_none hj]
def Made (n₀ lo L : Nat) (rs : List (T × Int)) (i : Nat) (ys : List V) (w : World) : Prop := ys.length = i ∧ (∀ j (h : j < ys.length) (h' : j < rs.length), ys[j].t = rs[j].1) ∧ (∀ j (h : j < rs.length), j < i → rs[j].2 = 0) ∧ ∀ x ∈ ys, LiesIn (fun q => q < n₀ ∨ (lo ≤ q ∧ q < w.heap.size ∧ q ≠ L)) w x
theorem Made.push {n₀ lo L : Nat} {rs : List (T × Int)} {i : Nat} {ys : List V} {w w' : World} {y : V} (h : Made n₀ lo L rs i ys w) (hb : ∀ b, (b < n₀ ∨ (lo ≤ b ∧ b < w.heap.size ∧ b ≠ L)) → Same w w' b) (hs : w.heap.size ≤ w'.heap.size) (hi : i < rs.length) (hy : y.t = rs[i].1) (h0 : rs[i].2 = 0)
    (hl : LiesIn (fun q => q < n₀ ∨ (lo ≤ q ∧ q < w'.heap.size ∧ q ≠ L)) w' y) : Made n₀ lo L rs (i + 1) (ys ++ [y]) w' := by
  obtain ⟨h1, h2, h3, h4⟩ := h
  refine ⟨by simp [h1], fun j hj hj' => ?_, fun j hj hlt => ?_, fun x hx => ?_⟩
  · by_cases e : j < ys.length
    · rw [List.getElem_append_left e]
      exact h2 j e hj'
    · have : j = i := by simp at hj; omega
      subst this
      rw [List.getElem_append_right (by omega)]
      simpa using hy
  · by_cases e : j = i
    · subst e; exact h0
    · exact h3 j hj (by omega)
  · rcases List.mem_append.1 hx with hx | hx
    · exact LiesIn.keep (h4 x hx) hb (fun b hb => by
        rcases hb with hb | hb
        · exact .inl hb
        · exact .inr ⟨by omega, by omega, by omega⟩)
    · rw [List.mem_singleton] at hx
      subst hx
      exact hl
theorem unpT_no (re : T → T × Int) (v : V) (h : ftab ((kindV v.k v.l).getD 0) = none) : unpT re v.t = ((0, []), 0, 70) := by
  unfold unpT
  rw [kindV_t]
  cases hk : kindV v.k v.l with
  | none => rfl
  | some k =>
    rw [hk] at h
    simp only [Option.getD_some] at h
    simp only [h]
set_option maxRecDepth 100000 in
set_option maxHeartbeats 4000000 in
theorem unpacked_no (n₀ : Nat) (re : T → T × Int) (v : V) (w : World) (hn : n₀ ≤ w.heap.size) (hl : Lies n₀ w v) (hft : ftab ((kindV v.k v.l).getD 0) = none) :
    Calls Tryz.prog 43 #[v.val] w (UnpPost n₀ (unpT re v.t) w) := by
  rw [unpT_no re v hft]
  obtain ⟨W0, hW0⟩ : ∃ W0, (w.alloc (Obj.cells #[.int .i64 v.k, .int .u64 v.n, .string v.s, .slice v.a v.l.length v.c, .int .i64 v.e] 42)).alloc (Obj.cells #[.int .i64 0, .slice none 0 0] 33) = W0 := ⟨_, rfl⟩
  have hs0 : W0.heap.size = w.heap.size + 2 := by rw [← hW0]; simp
  have hb0 : Below w.heap.size w W0 := by rw [← hW0]; exact bel2 (Below.refl _ _) (Nat.le_refl _) _ _
  have xz : BoxR W0 (w.heap.size + 1) 0 none 0 0 := by rw [← hW0]; exact heap_at1 _ _ _
  have HK := hide (kind_any v n₀ W0 (by omega) (hl.keep hb0 hn))
  unfold KindPost at HK
  have HF := hide (fun W => fields_none hft W)
  generalize (kindV v.k v.l).getD 0 = kk at HK HF
  generalize (kindV v.k v.l).isSome = bb at HK
  have HW0 := hide hW0
  clear hW0 hl hft
  rw [V.val_eq] at HK ⊢
  go_enter Tryz.func43, Tryz.ntmps43
  go_wp2_with fail
  rw [HW0.out]
  clear HW0
  refine HK.out.mono ?_
  rintro e1 w1 ⟨rfl, hb1⟩
  have hs1 := hb1.size
  go_wp2_with fail
  refine (HF.out _).mono ?_
  rintro e2 w2 ⟨rfl, hb2⟩
  have hb02 : Below W0.heap.size W0 w2 := belOn hb1 hs1 hb2
  have hs2 := hb02.size
  have xz1 := xz.below hb02 (by omega)
  obtain ⟨z0, z1⟩ := xz1.cells
  have fz : ∀ j, w2.frozen? ⟨w.heap.size + 1, j, none⟩ = false := fun j => by
    unfold BoxR at xz1
    simp [World.frozen?, xz1]
  have hzw : w.heap.size + 1 < w2.heap.size := by omega
  have hbw2 : Below w.heap.size w w2 := belOn hb0 (by omega) hb02
  clear xz1
  go_wp2
  exact bodyPost_ret (v := .tuple #[.agg #[.int .i64 0, .slice none 0 0], .int .i64 0, .int .i64 70]) (by simp [results, Tryz.results43, go_sem, z0, z1]) rfl (unppost_bad (by decide) ((hbw2.setCell (p := ⟨w.heap.size + 1, 0, none⟩) (Nat.le_succ _) _).setCell (p := ⟨w.heap.size + 1, 1, none⟩) (Nat.le_succ _) _))
theorem unpT_some (re : T → T × Int) (n : Int) (s : ByteArray) (a : Option Addr) (c : Nat) (e : Int) (d0 x1 : V) {k : Int} {fs : List FS} (hk : kindL d0.t krows = some k) (hf : ftab k = some fs) :
    unpT re (V.of 24 n s a c e [d0, x1]).t = if x1.k ≠ 21 then ((0, []), 0, 70) else if fs.length < x1.l.length then ((0, []), (fs.length : Int), 71) else rowT k (fillsT re fs (V.ts x1.l)) := by
  unfold unpT
  have hkk := kindV_t (V.of 24 n s a c e [d0, x1])
  rw [V.k_of, V.l_of, kindV_two, hk] at hkk
  rw [hkk]
  simp only [hf]
  have h1 : (((V.of 24 n s a c e [d0, x1]).t.l)[1]?).getD nul = x1.t := by
    rw [l_t, V.l_of]
    rfl
  rw [h1, k_t, l_t, V.ts_length]
set_option maxRecDepth 100000 in
set_option maxHeartbeats 20000000 in
theorem unpacked_yes (n₀ : Nat) (re : T → T × Int) (kind : Int) (fs0 : List FS) (vn : Int) (vs : ByteArray) (va : Option Addr) (vc : Nat) (ve : Int) (d0 x1 : V) (w : World) (hn : n₀ ≤ w.heap.size)
    (hl : Lies n₀ w (.of 24 vn vs va vc ve [d0, x1])) (hkd : kindL d0.t krows = some kind) (hft : ftab kind = some fs0) (hre : ∀ x ∈ x1.l, RepOk re x) :
    Calls Tryz.prog 43 #[(V.of 24 vn vs va vc ve [d0, x1]).val] w (UnpPost n₀ (unpT re (V.of 24 vn vs va vc ve [d0, x1]).t) w) := by
  generalize hR : unpT re (V.of 24 vn vs va vc ve [d0, x1]).t = R
  rw [unpT_some re vn vs va vc ve d0 x1 hkd hft] at hR
  have HRR := hide hR
  clear hR
  obtain ⟨hfl20, hfok⟩ := ftab_ok hft
  obtain ⟨vb, vo, hva, hvlt, hvr⟩ := hl.row (by simp)
  subst hva
  rw [V.val_of]
  obtain ⟨W0, hW0⟩ : ∃ W0, (w.alloc (Obj.cells #[.int .i64 24, .int .u64 vn, .string vs, .slice (some ⟨vb, vo, none⟩) 2 vc, .int .i64 ve] 42)).alloc (Obj.cells #[.int .i64 0, .slice none 0 0] 33) = W0 := ⟨_, rfl⟩
  have hs0 : W0.heap.size = w.heap.size + 2 := by rw [← hW0]; simp
  have hb0 : Below w.heap.size w W0 := by rw [← hW0]; exact bel2 (Below.refl _ _) (Nat.le_refl _) _ _
  have xv : W0.heap[w.heap.size]? = some (.cells #[.int .i64 24, .int .u64 vn, .string vs, .slice (some ⟨vb, vo, none⟩) 2 vc, .int .i64 ve] 42 (0, 0)) := by rw [← hW0]; exact heap_past (World.alloc_heap_new _ _) _
  have xz : BoxR W0 (w.heap.size + 1) 0 none 0 0 := by rw [← hW0]; exact heap_at1 _ _ _
  have hkk := kind_any (.of 24 vn vs (some ⟨vb, vo, none⟩) vc ve [d0, x1]) n₀ W0 (by omega) (hl.keep hb0 hn)
  rw [V.val_of, V.k_of, V.l_of, kindV_two, hkd] at hkk
  unfold KindPost at hkk
  have hv1 := hvr 1 (by simp)
  obtain ⟨q0, _, _, q3, _⟩ := hv1
  have q0' : w.cell? ⟨vb, vo + 5, none⟩ = some (.int .i64 x1.k) := q0
  have q3' : w.cell? ⟨vb, vo + 5 + 3, none⟩ = some (.slice x1.a x1.l.length x1.c) := q3
  have hx1 : Lies n₀ w x1 := hl.sub x1 (by simp)
  obtain ⟨x1k, x1n, x1s, la, lc, x1e, th, rfl⟩ := V.ex x1
  rw [V.k_of] at q0' HRR
  rw [V.l_of] at q3' HRR hre
  rw [V.a_of, V.c_of] at q3'
  have HTH := hide (fun x hx => hx1.sub x hx)
  have HTR : Hid (0 < th.length → ∃ b o, la = some ⟨b, o, none⟩ ∧ b < n₀ ∧ Row w b o th) := fun h0 => hx1.row h0
  have HQ := hide (show w.cell? ⟨vb, vo + 5, none⟩ = some (.int .i64 x1k) ∧ w.cell? ⟨vb, vo + 5 + 3, none⟩ = some (.slice la th.length lc) from ⟨q0', q3'⟩)
  have HKK : Hid (Calls Tryz.prog 105 #[.agg #[.int .i64 24, .int .u64 vn, .string vs, .slice (some ⟨vb, vo, none⟩) 2 vc, .int .i64 ve]] W0 fun e w' => e = .returned (.tuple #[.int .i64 kind, .bool true]) ∧ Below W0.heap.size W0 w') := hkk
  obtain ⟨N, hN⟩ : ∃ N, fs0.length = N := ⟨_, rfl⟩
  have HF := hide (fun W => fields_some hft hN W)
  have HN := hide hN
  have HRE := hide hre
  have HFOK := hide hfok
  have hcc : N ≤ 20 := by rw [← hN]; exact hfl20
  have HW0 := hide hW0
  show Calls Tryz.prog 43 #[.agg #[.int .i64 24, .int .u64 vn, .string vs, .slice (some ⟨vb, vo, none⟩) 2 vc, .int .i64 ve]] w _
  clear hW0 hkk hvr q0 q3 q0' q3' hl hkd hx1 hft hN hre hfok hfl20
  go_enter Tryz.func43, Tryz.ntmps43
  go_wp2_with fail
  rw [HW0.out]
  clear HW0
  refine HKK.out.mono ?_
  rintro e1 w1 ⟨rfl, hb1⟩
  have hs1 := hb1.size
  have hbw1 : Below w.heap.size w w1 := belOn hb0 (by omega) hb1
  have HB1 := hide hb1
  go_wp2_with fail
  refine (HF.out _).mono ?_
  rintro e2 w2 ⟨af, fs, rfl, HFS, hb2⟩
  have hs2 := hb2.size
  have hb02 : Below W0.heap.size W0 w2 := belOn hb1 hs1 hb2
  have hbw2 : Below w.heap.size w w2 := belOn hb0 (by omega) hb02
  have hxv := (hb02.block w.heap.size (by omega)).trans xv
  have p3 : w2.cell? ⟨w.heap.size, 3, none⟩ = some (.slice (some ⟨vb, vo, none⟩) 2 vc) := by unfold World.cell?; simp only [hxv]; rfl
  have u0 : w2.cell? ⟨vb, vo + 5, none⟩ = some (.int .i64 x1k) := (hbw2.cell (p := ⟨vb, vo + 5, none⟩) (by show vb < _; omega)).trans HQ.out.1
  have u3 : w2.cell? ⟨vb, vo + 5 + 3, none⟩ = some (.slice la th.length lc) := (hbw2.cell (p := ⟨vb, vo + 5 + 3, none⟩) (by show vb < _; omega)).trans HQ.out.2
  have hw2 : w.heap.size < w2.heap.size := by omega
  have hvb2 : vb < w2.heap.size := by omega
  have HBAD : Hid (∀ (wz : World) (at' n : Int), Below W0.heap.size W0 wz → n ≠ 0 → R = ((0, []), at', n) → UnpPost n₀ R w (.returned (.tuple #[.agg #[.int .i64 0, .slice none 0 0], .int .i64 at', .int .i64 n])) ((wz.setCell ⟨w.heap.size + 1, 0, none⟩ (.int .i64 0)).setCell ⟨w.heap.size + 1, 1, none⟩ (.slice none 0 0))) := by
    intro wz at' n hz hn0 e
    rw [e]
    exact unppost_bad hn0 (((belOn hb0 (by omega) hz).setCell (p := ⟨w.heap.size + 1, 0, none⟩) (Nat.le_succ _) _).setCell (p := ⟨w.heap.size + 1, 1, none⟩) (Nat.le_succ _) _)
  have HZ2 : Hid (∀ wz, Below W0.heap.size W0 wz → wz.cell? ⟨w.heap.size + 1, 0, none⟩ = some (.int .i64 0) ∧ wz.cell? ⟨w.heap.size + 1, 1, none⟩ = some (.slice none 0 0) ∧ (∀ j, wz.frozen? ⟨w.heap.size + 1, j, none⟩ = false) ∧ w.heap.size + 1 < wz.heap.size) := by
    intro wz hz
    have xz1 := xz.below hz (by omega)
    refine ⟨xz1.cells.1, xz1.cells.2, fun j => ?_, by have := hz.size; omega⟩
    unfold BoxR at xz1
    simp [World.frozen?, xz1]
  clear hxv
  by_cases hx21 : x1k = 21
  rotate_left
  · have hx21b : (x1k == 21) = false := by simpa using hx21
    have hx21n : (x1k != 21) = true := by simpa using hx21
    have HRE1 : Hid (R = ((0, []), 0, 70)) := by
      rw [Hid, ← HRR.out, if_pos hx21]
    obtain ⟨z0, z1, fz, hzw⟩ := HZ2.out _ hb02
    clear HRR
    go_wp2
    exact bodyPost_ret (v := .tuple #[.agg #[.int .i64 0, .slice none 0 0], .int .i64 0, .int .i64 70]) (by simp [results, Tryz.results43, go_sem, z0, z1]) rfl (HBAD.out _ _ _ hb02 (by decide) HRE1.out)
  subst hx21
  by_cases hle : N < th.length
  · have HRE1 : Hid (R = ((0, []), (N : Int), 71)) := by
      rw [Hid, ← HRR.out, if_neg (by simp), HN.out, if_pos hle]
    have hle' : (N : Int) < (th.length : Int) := by omega
    obtain ⟨z0, z1, fz, hzw⟩ := HZ2.out _ hb02
    clear HRR
    go_wp2
    exact bodyPost_ret (v := .tuple #[.agg #[.int .i64 0, .slice none 0 0], .int .i64 N, .int .i64 71]) (by simp [results, Tryz.results43, go_sem, z0, z1]) rfl (HBAD.out _ _ _ hb02 (by decide) HRE1.out)
  have hth : th.length ≤ N := by omega
  have hle' : ¬ ((N : Int) < (th.length : Int)) := by omega
  obtain ⟨rs, hrs⟩ : ∃ rs, fillsT re fs0 (V.ts th) = rs := ⟨_, rfl⟩
  have HRW : Hid (rowT kind rs = R) := by
    rw [Hid, ← HRR.out, if_neg (by simp), HN.out, if_neg hle, hrs]
  have hrl : rs.length = N := by rw [← hrs]; unfold fillsT; rw [List.length_mapIdx]; exact HN.out
  have HRI : Hid (∀ i (h : i < rs.length) (h' : i < fs0.length), rs[i] = fillT re fs0[i] ((th[i]?).getD nul).t) := by
    intro i h h'
    have h1 : rs[i]? = (fillsT re fs0 (V.ts th))[i]? := by rw [hrs]
    unfold fillsT at h1
    rw [List.getElem?_mapIdx, List.getElem?_eq_getElem h, List.getElem?_eq_getElem h', Option.map_some, V.ts_map, List.getElem?_map] at h1
    rw [Option.some.inj h1]
    cases th[i]? with
    | none => simp only [Option.map_none, Option.getD_none, nul_t]
    | some x => rfl
  have HRL := hide hrl
  clear hrs HRR hrl
  have hmk := run_makeV N N (Nat.le_refl _) (by omega)
  go_wp2
  obtain ⟨WA, hWA⟩ : ∃ WA, (w2.alloc (Obj.cells (madeCells zeroV (N * 5)) 42)).alloc (Obj.cells #[.int .i64 kind, .slice (some ⟨w2.heap.size, 0, none⟩) N N] 33) = WA := ⟨_, rfl⟩
  have hsA : WA.heap.size = w2.heap.size + 2 := by rw [← hWA]; simp
  have hb2A : Below w2.heap.size w2 WA := by rw [← hWA]; exact bel2 (Below.refl _ _) (Nat.le_refl _) _ _
  have hkA : Blk WA w2.heap.size 42 (N * 5) := by
    have : Blk (w2.alloc (Obj.cells (madeCells zeroV (N * 5)) 42)) w2.heap.size 42 (N * 5) := Blk.made _ _ _ _
    rw [← hWA]
    exact this.below (bel1 (Below.refl _ _) (Nat.le_refl _) _) (by simp)
  have hzA : RowF WA w2.heap.size N (fun _ => leaf 0 0 ⟨#[]⟩) := by
    rw [← hWA]
    exact (RowF.made w2 N).below (bel1 (Below.refl _ _) (Nat.le_refl _) _) (by simp)
  have hxA : BoxR WA (w2.heap.size + 1) kind (some ⟨w2.heap.size, 0, none⟩) N N := by rw [← hWA]; exact heap_at1 _ _ _
  obtain ⟨W1, hcp, hk1', hrf1, hsz1, hot1, hbl1⟩ := copy_any WA 3 w2.heap.size N lc la th hth hkA (fun h0 => by
    obtain ⟨b', o', e', hb', hr'⟩ := HTR.out h0
    exact ⟨b', o', e', (hr'.below hbw2 (by omega)).below hb2A (by omega)⟩) hzA
  have hb21 : Below w2.heap.size w2 W1 := hbl1 _ _ hb2A (Nat.le_refl _)
  have hx1 : BoxR W1 (w2.heap.size + 1) kind (some ⟨w2.heap.size, 0, none⟩) N N := (hot1 _ (by omega)).trans hxA
  have hsW1 : W1.heap.size = w2.heap.size + 2 := by omega
  rw [hWA, hcp]
  have HK1 := hide hk1'
  have HX1 := hide hx1
  have HRF1 := hide hrf1
  clear hWA hcp hmk hk1' hx1 hrf1 hkA hzA hxA hot1 hbl1 p3 u0 u3 hle hle'
  go_wp2
  go_loopw [59] (fun u wr => ∃ (i : Nat), u = .int .i64 i ∧ i ≤ N ∧ Below w2.heap.size w2 wr ∧ W1.heap.size ≤ wr.heap.size ∧ Hid (BoxR wr (w2.heap.size + 1) kind (some ⟨w2.heap.size, 0, none⟩) N N) ∧ Hid (Blk wr w2.heap.size 42 (N * 5)) ∧ Hid (∃ ys, Made n₀ W0.heap.size w2.heap.size rs i ys wr ∧ RowF wr w2.heap.size N (fun j => if j < i then (ys[j]?).getD nul else (th[j]?).getD nul))) (fun u _ => N + 1 - (intOf u).toNat)
  case atStart => exact ⟨0, rfl, Nat.zero_le _, hb21, Nat.le_refl _, HX1, HK1, ⟨[], ⟨rfl, fun j h => absurd h (by simp), fun j _ h => absurd h (by omega), fun x hx => by cases hx⟩, HRF1.out.eq (fun j _ => by simp [nul])⟩⟩
  case round =>
    obtain ⟨i, rfl, hi, hb, hsz, HXFr, HKr, HYS⟩ := hrel
    have hsb := hb.size
    have hb0r : Below W0.heap.size W0 wr := belOn hb02 (by omega) hb
    have hbw : Below w.heap.size w wr := belOn hb0 (by omega) hb0r
    obtain ⟨ys, hmade, hrowf⟩ := HYS.out
    have HMADE := hide hmade
    have HRFr := hide hrowf
    clear hmade hrowf HYS
    by_cases hil : i < N
    · have hfl : fs.length = N := HFS.out.1.trans HN.out
      have hfi : i < fs.length := by rw [hfl]; exact hil
      have hdi : i < fs0.length := by rw [HN.out]; exact hil
      have hri : i < rs.length := by rw [HRL.out]; exact hil
      have hfdin : FdIn 0 wr fs[i] fs0[i] := by
        obtain ⟨e1, e2, e3, e4, e5, e6, e7⟩ := HFS.out.2.2 i hfi hdi
        refine ⟨e1, e2, e3, e4, e5, e6, fun h0 => ?_⟩
        obtain ⟨b', ee, _, h2, h3⟩ := e7 h0
        exact ⟨b', ee, Nat.zero_le _, by omega, (hb.block b' h2).trans h3⟩
      have hokf := HFOK.out fs0[i] (List.getElem_mem hdi)
      obtain ⟨bf, rfl, _, hbf2, hfrr⟩ := HFS.out.2.1 (by omega)
      obtain ⟨c0, c1, c2, c3, c4, c5, c6, c7, c8⟩ := (hfrr.below hb hbf2).cells i hfi
      clear hfrr hfl
      have hval := HRI.out i hri hdi
      have hcase : ∀ W', Below wr.heap.size wr W' → Calls Tryz.prog 106 #[fs[i].val, ((th[i]?).getD nul).val] W' (ValPost n₀ rs[i] W') := fun W' hW' => by
        rw [hval]
        have hbW := belOn hbw (by omega) hW'
        refine filled_all re fs[i] fs0[i] ((th[i]?).getD nul) n₀ W' (by have := hbW.size; omega) ?_ ?_ hokf ?_
        · cases hx : th[i]? with
          | none => exact nul_lies _ _
          | some x => exact (HTH.out x (List.mem_of_getElem? hx)).keep hbW hn
        · obtain ⟨e1, e2, e3, e4, e5, e6, e7⟩ := hfdin
          refine ⟨e1, e2, e3, e4, e5, e6, fun h0 => ?_⟩
          obtain ⟨b', ee, _, h2, h3⟩ := e7 h0
          exact ⟨b', ee, Nat.zero_le _, by have := hW'.size; omega, (hW'.block b' h2).trans h3⟩
        · intro _
          cases hx : th[i]? with
          | none => exact fun hk0 => absurd rfl hk0
          | some x => exact fun _ => HRE.out x (List.mem_of_getElem? hx)
      clear hfdin hval hokf
      generalize (fs[i]'hfi) = F at c0 c1 c2 c3 c4 c5 c6 c7 c8 hcase
      have hxi : ∀ q, q < 5 → wr.cell? ⟨w2.heap.size, i * 5 + q, none⟩ = (words ((th[i]?).getD nul))[q]? := fun q hq => by
        have h := HRFr.out i hil q hq
        simp only [Nat.lt_irrefl, if_false] at h
        exact h
      generalize (th[i]?).getD nul = X at hcase hxi
      obtain ⟨WR, hWR⟩ : ∃ WR, wr.alloc (.cells F.cs 66) = WR := ⟨_, rfl⟩
      have hsR : WR.heap.size = wr.heap.size + 1 := by rw [← hWR]; simp
      have hbR : Below w.heap.size w WR := by rw [← hWR]; exact bel1 hbw (by omega) _
      have hbR0 : Below W0.heap.size W0 WR := by rw [← hWR]; exact bel1 hb0r (by omega) _
      have hbR2 : Below w2.heap.size w2 WR := by rw [← hWR]; exact bel1 hb (by omega) _
      have hbRr : Below wr.heap.size wr WR := by rw [← hWR]; exact bel1 (Below.refl _ _) (Nat.le_refl _) _
      have xF : BoxF WR wr.heap.size F := by rw [← hWR]; exact World.alloc_heap_new _ _
      have hxr : ∀ q, WR.cell? ⟨w2.heap.size, i * 5 + q, none⟩ = wr.cell? ⟨w2.heap.size, i * 5 + q, none⟩ := fun q => hbRr.cell (p := ⟨w2.heap.size, i * 5 + q, none⟩) (by show w2.heap.size < _; omega)
      have x0 : WR.cell? ⟨w2.heap.size, i * 5, none⟩ = some (.int .i64 X.k) := (hxr 0).trans (hxi 0 (by omega))
      have x1 : WR.cell? ⟨w2.heap.size, i * 5 + 1, none⟩ = some (.int .u64 X.n) := (hxr 1).trans (hxi 1 (by omega))
      have x2 : WR.cell? ⟨w2.heap.size, i * 5 + 2, none⟩ = some (.string X.s) := (hxr 2).trans (hxi 2 (by omega))
      have x3 : WR.cell? ⟨w2.heap.size, i * 5 + 3, none⟩ = some (.slice X.a X.l.length X.c) := (hxr 3).trans (hxi 3 (by omega))
      have x4 : WR.cell? ⟨w2.heap.size, i * 5 + 4, none⟩ = some (.int .i64 X.e) := (hxr 4).trans (hxi 4 (by omega))
      have hLR : w2.heap.size < WR.heap.size := by omega
      have HS : Hid (∀ W', Below WR.heap.size WR W' → (fun W' => W'.cell? ⟨(w2.heap.size + 1), 1, none⟩ = some (.slice (some ⟨w2.heap.size, 0, none⟩) N N) ∧ W'.cell? ⟨wr.heap.size, 0, none⟩ = some (.string F.name) ∧ W'.cell? ⟨wr.heap.size, 1, none⟩ = some (.int .i64 F.ty) ∧ W'.cell? ⟨wr.heap.size, 2, none⟩ = some (.slice F.ka F.kl F.kc) ∧ W'.cell? ⟨wr.heap.size, 3, none⟩ = some (.bool F.must) ∧ W'.cell? ⟨wr.heap.size, 4, none⟩ = some (.int .i64 F.d.k) ∧ W'.cell? ⟨wr.heap.size, 5, none⟩ = some (.int .u64 F.d.n) ∧ W'.cell? ⟨wr.heap.size, 6, none⟩ = some (.string F.d.s) ∧ W'.cell? ⟨wr.heap.size, 7, none⟩ = some (.slice F.d.a F.d.l.length F.d.c) ∧ W'.cell? ⟨wr.heap.size, 8, none⟩ = some (.int .i64 F.d.e)) W') := by
        intro W' hb'
        have hbWr := belOn hbRr (by omega) hb'
        obtain ⟨g0, g1, g2, g3, g4, g5, g6, g7, g8⟩ := (xF.below hb' (by omega)).cells
        exact ⟨(HXFr.out.below hbWr (by omega)).cells.2, g0, g1, g2, g3, g4, g5, g6, g7, g8⟩
      have HSP : Hid (∀ W', Below WR.heap.size WR W' → ∀ y, (fun W' => W'.cell? ⟨(w2.heap.size + 1), 1, none⟩ = some (.slice (some ⟨w2.heap.size, 0, none⟩) N N) ∧ W'.cell? ⟨wr.heap.size, 0, none⟩ = some (.string F.name) ∧ W'.cell? ⟨wr.heap.size, 1, none⟩ = some (.int .i64 F.ty) ∧ W'.cell? ⟨wr.heap.size, 2, none⟩ = some (.slice F.ka F.kl F.kc) ∧ W'.cell? ⟨wr.heap.size, 3, none⟩ = some (.bool F.must) ∧ W'.cell? ⟨wr.heap.size, 4, none⟩ = some (.int .i64 F.d.k) ∧ W'.cell? ⟨wr.heap.size, 5, none⟩ = some (.int .u64 F.d.n) ∧ W'.cell? ⟨wr.heap.size, 6, none⟩ = some (.string F.d.s) ∧ W'.cell? ⟨wr.heap.size, 7, none⟩ = some (.slice F.d.a F.d.l.length F.d.c) ∧ W'.cell? ⟨wr.heap.size, 8, none⟩ = some (.int .i64 F.d.e)) (put5 W' w2.heap.size (i * 5) y)) := by
        intro W' hb' y
        have h := HS.out W' hb'
        have e : ∀ b' o', b' ≠ w2.heap.size → (put5 W' w2.heap.size (i * 5) y).cell? ⟨b', o', none⟩ = W'.cell? ⟨b', o', none⟩ := fun b' o' hne => put5_same _ _ _ _ _ hne o'
        simp only [e (w2.heap.size + 1) _ (by omega), e wr.heap.size _ (by omega)]
        exact h
      simp only [← put5_eq] at HSP
      have HB0 : Hid (Below WR.heap.size WR WR.drew) := (Below.refl _ _).drew
      have he := hcase WR.drew (hbRr.drew)
      rw [Fd.val_eq, V.val_eq] at he
      generalize hrr : rs[i] = r at he
      have HRRI := hide hrr
      have HE := hide he
      have HWR := hide hWR
      unfold Fd.cs at HWR
      have hbfr : bf < wr.heap.size := by omega
      have HZ : Hid (∀ W', Below WR.heap.size WR W' → Blk W' w2.heap.size 42 (N * 5)) := fun W' hb' => (HKr.out.below hbRr (by omega)).below hb' (by omega)
      have hmx : Tryz.prog.follows .mixedOrders = true := by kernel_rfl
      clear he hWR hxi hxr hcase hrr
      go_wp2_with fail
      rw [HWR.out]
      refine wp_region_held_drew (S := (fun W' => W'.cell? ⟨(w2.heap.size + 1), 1, none⟩ = some (.slice (some ⟨w2.heap.size, 0, none⟩) N N) ∧ W'.cell? ⟨wr.heap.size, 0, none⟩ = some (.string F.name) ∧ W'.cell? ⟨wr.heap.size, 1, none⟩ = some (.int .i64 F.ty) ∧ W'.cell? ⟨wr.heap.size, 2, none⟩ = some (.slice F.ka F.kl F.kc) ∧ W'.cell? ⟨wr.heap.size, 3, none⟩ = some (.bool F.must) ∧ W'.cell? ⟨wr.heap.size, 4, none⟩ = some (.int .i64 F.d.k) ∧ W'.cell? ⟨wr.heap.size, 5, none⟩ = some (.int .u64 F.d.n) ∧ W'.cell? ⟨wr.heap.size, 6, none⟩ = some (.string F.d.s) ∧ W'.cell? ⟨wr.heap.size, 7, none⟩ = some (.slice F.d.a F.d.l.length F.d.c) ∧ W'.cell? ⟨wr.heap.size, 8, none⟩ = some (.int .i64 F.d.e))) (by kernel_rfl) (HS.out _ HB0.out) (fun hHeld => ?_)
      refine take_do (i := 0) (d := 65) (v := ?_) rfl rfl (by kernel_rfl) (by kernel_rfl) (by kernel_rfl) (fun _ _ _ h => h) rfl ?_ (by assumption) ?_
      rotate_left
      · intro w hSw
        try dsimp only at hSw
        go_simp
        try with_reducible rfl
      try simp only [List.setIfInBounds_toArray, List.set_cons_zero, List.set_cons_succ]
      refine take_do (i := 1) (d := 66) (v := ?_) rfl rfl (by kernel_rfl) (by kernel_rfl) (by kernel_rfl) (fun _ _ _ h => h) rfl ?_ (by assumption) ?_
      rotate_left
      · intro w hSw
        try dsimp only at hSw
        go_simp
        try with_reducible rfl
      try simp only [List.setIfInBounds_toArray, List.set_cons_zero, List.set_cons_succ]
      refine take_do (i := 2) (d := 67) (v := ?_) rfl rfl (by kernel_rfl) (by kernel_rfl) (by kernel_rfl) (fun _ _ _ h => h) rfl ?_ (by assumption) ?_
      rotate_left
      · intro w hSw
        try dsimp only at hSw
        go_simp
        try with_reducible rfl
      try simp only [List.setIfInBounds_toArray, List.set_cons_zero, List.set_cons_succ]
      refine take_do (i := 3) (d := 68) (v := ?_) rfl rfl (by kernel_rfl) (by kernel_rfl) (by kernel_rfl) (fun _ _ _ h => h) rfl ?_ (by assumption) ?_
      rotate_left
      · intro w hSw
        try dsimp only at hSw
        go_simp
        try with_reducible rfl
      try simp only [List.setIfInBounds_toArray, List.set_cons_zero, List.set_cons_succ]
      refine take_do (i := 4) (d := 69) (v := ?_) rfl rfl (by kernel_rfl) (by kernel_rfl) (by kernel_rfl) (fun _ _ _ h => h) rfl ?_ (by assumption) ?_
      rotate_left
      · intro w hSw
        try dsimp only at hSw
        go_simp
        try with_reducible rfl
      try simp only [List.setIfInBounds_toArray, List.set_cons_zero, List.set_cons_succ]
      refine take_do (i := 5) (d := 70) (v := ?_) rfl rfl (by kernel_rfl) (by kernel_rfl) (by kernel_rfl) (fun _ _ _ h => h) rfl ?_ (by assumption) ?_
      rotate_left
      · intro w hSw
        try dsimp only at hSw
        go_simp
        try with_reducible rfl
      try simp only [List.setIfInBounds_toArray, List.set_cons_zero, List.set_cons_succ]
      refine take_do (i := 6) (d := 71) (v := ?_) rfl rfl (by kernel_rfl) (by kernel_rfl) (by kernel_rfl) (fun _ _ _ h => h) rfl ?_ (by assumption) ?_
      rotate_left
      · intro w hSw
        try dsimp only at hSw
        go_simp
        try with_reducible rfl
      try simp only [List.setIfInBounds_toArray, List.set_cons_zero, List.set_cons_succ]
      refine take_do (i := 7) (d := 72) (v := ?_) rfl rfl (by kernel_rfl) (by kernel_rfl) (by kernel_rfl) (fun _ _ _ h => h) rfl ?_ (by assumption) ?_
      rotate_left
      · intro w hSw
        try dsimp only at hSw
        go_simp
        try with_reducible rfl
      try simp only [List.setIfInBounds_toArray, List.set_cons_zero, List.set_cons_succ]
      refine wpAnyH_ready (rs := [8]) (by kernel_rfl) (by simp) ?_
      refine AllReadyH.cons rfl (fun K hK => ?_) AllReadyH.nil
      go_simp
      refine hK.out _ _ (HS.out _ HB0.out) (fun hHeld => ?_)
      clear hK K
      refine wpAnyH_ready (rs := [9]) (by kernel_rfl) (by simp) ?_
      refine AllReadyH.cons rfl (fun K hK => ?_) AllReadyH.nil
      go_simp
      go_wp2_with (go_at_call 106; refine Calls.mono HE.out ?_; rintro e3 w3 ⟨yy, rfl, HY, hb3⟩; have HS3 := hide hb3.size; unfold VN; have HB2 : Hid (Below WR.heap.size WR w3) := belOn HB0.out HB0.out.size hb3; clear hb3; have hs3 := HB2.out.size; have hk2 := HZ.out _ HB2.out; obtain ⟨z0, y0⟩ := hk2.some (i * 5) (by omega); obtain ⟨z1, y1⟩ := hk2.some (i * 5 + 1) (by omega); obtain ⟨z2, y2⟩ := hk2.some (i * 5 + 2) (by omega); obtain ⟨z3, y3⟩ := hk2.some (i * 5 + 3) (by omega); obtain ⟨z4, y4⟩ := hk2.some (i * 5 + 4) (by omega); have fz := hk2.free; have hlw : w2.heap.size < w3.heap.size := (by omega); have HK2 := hide hk2; clear hk2)
      refine hK.out _ _ (HS.out _ HB2.out) (fun hHeld => ?_)
      clear hK K
      refine take_do (i := 10) (d := 64) (v := ?_) rfl rfl (by kernel_rfl) (by kernel_rfl) (by kernel_rfl) (fun _ _ _ h => h) rfl ?_ (by assumption) ?_
      rotate_left
      · intro w hSw
        try dsimp only at hSw
        go_simp
        try with_reducible rfl
      try simp only [List.setIfInBounds_toArray, List.set_cons_zero, List.set_cons_succ]
      refine take_do (i := 11) (d := 75) (v := ?_) rfl rfl (by kernel_rfl) (by kernel_rfl) (by kernel_rfl) (fun _ _ _ h => h) rfl ?_ (by assumption) ?_
      rotate_left
      · intro w hSw
        try dsimp only at hSw
        go_simp
        try with_reducible rfl
      try simp only [List.setIfInBounds_toArray, List.set_cons_zero, List.set_cons_succ]
      refine take_do (i := 12) (d := 76) (v := ?_) rfl rfl (by kernel_rfl) (by kernel_rfl) (by kernel_rfl) (fun _ _ _ h => h) rfl ?_ (by assumption) ?_
      rotate_left
      · intro w hSw
        try dsimp only at hSw
        go_simp
        try with_reducible rfl
      try simp only [List.setIfInBounds_toArray, List.set_cons_zero, List.set_cons_succ]
      refine take_do (i := 13) (d := 77) (v := ?_) rfl rfl (by kernel_rfl) (by kernel_rfl) (by kernel_rfl) (fun _ _ _ h => h) rfl ?_ (by assumption) ?_
      rotate_left
      · intro w hSw
        try dsimp only at hSw
        go_simp
        try with_reducible rfl
      try simp only [List.setIfInBounds_toArray, List.set_cons_zero, List.set_cons_succ]
      refine wpAnyH_ready (rs := [14]) (by kernel_rfl) (by simp) ?_
      refine AllReadyH.cons rfl (fun K hK => ?_) AllReadyH.nil
      go_simp
      refine hK.out _ _ (HSP.out _ HB2.out _) (fun hHeld => ?_)
      clear hK K
      refine take_do (i := 15) (d := 13) (v := ?_) rfl rfl (by kernel_rfl) (by kernel_rfl) (by kernel_rfl) (fun _ _ _ h => h) rfl ?_ (by assumption) ?_
      rotate_left
      · intro w hSw
        try dsimp only at hSw
        go_simp
        try with_reducible rfl
      try simp only [List.setIfInBounds_toArray, List.set_cons_zero, List.set_cons_succ]
      refine wpAnyH_done (by kernel_rfl) ?_ _
      all_goals
        have hbr2 : Below wr.heap.size wr w3 := belOn hbRr (by omega) HB2.out
        have hb23 : Below w2.heap.size w2 w3 := belOn hbR2 (by omega) HB2.out
        have hpb := put5_below (y := yy) (o := i * 5) (b := w2.heap.size) hb23 (Nat.le_refl _)
        have hpk := put5_blk HK2.out (i * 5) yy
        have hpx : BoxR (put5 w3 w2.heap.size (i * 5) yy) (w2.heap.size + 1) kind (some ⟨w2.heap.size, 0, none⟩) N N := (put5_hp _ _ _ _ _ (by omega)).trans (HXFr.out.below hbr2 (by omega))
        have hps := put5_size w3 w2.heap.size (i * 5) yy
        have hpm : r.2 = 0 → ∃ ys, Made n₀ W0.heap.size w2.heap.size rs (i + 1) ys (put5 w3 w2.heap.size (i * 5) yy) ∧ RowF (put5 w3 w2.heap.size (i * 5) yy) w2.heap.size N (fun j => if j < i + 1 then (ys[j]?).getD nul else (th[j]?).getD nul) := fun h0 => by
          have hyl : ys.length = i := HMADE.out.1
          refine ⟨ys ++ [yy], HMADE.out.push (fun b hb' => ?_) (by rw [hps]; omega) hri (by rw [HRRI.out]; exact HY.out.1) (by rw [HRRI.out]; exact h0) ?_, ?_⟩
          · intro o'
            have hbb : b < wr.heap.size ∧ b ≠ w2.heap.size := by omega
            exact (put5_same _ _ _ _ _ hbb.2 o').trans (hbr2.cell (p := ⟨b, o', none⟩) hbb.1)
          · refine LiesIn.keep HY.out.2 (fun b hb' => put5_same _ _ _ _ _ ?_) (fun b hb' => ?_)
            · have : WR.heap.size ≤ WR.drew.heap.size := Nat.le_refl _
              rcases hb' with h | h
              · omega
              · have : WR.drew.heap.size ≤ b := h.1; have : WR.drew.heap.size = WR.heap.size := rfl; omega
            · rw [hps]
              rcases hb' with h | h
              · exact .inl h
              · have : WR.drew.heap.size ≤ b := h.1; have : WR.drew.heap.size = WR.heap.size := rfl; exact .inr ⟨by omega, h.2, by omega⟩
          · refine (RowF.put yy HK2.out (HRFr.out.below hbr2 (by omega)) hil (Nat.le_refl _)).eq (fun j _ => ?_)
            by_cases e1 : j = i
            · subst e1
              rw [if_pos rfl, if_pos (by omega), List.getElem?_append_right (by omega), hyl]
              simp
            · by_cases e2 : j < i
              · rw [if_neg e1, if_pos e2, if_pos (by omega), List.getElem?_append_left (by omega)]
              · rw [if_neg e1, if_neg e2, if_neg (by omega)]
        have HBADI : Hid (r.2 ≠ 0 → R = ((0, []), (i : Int), r.2)) := fun hne => by
          rw [← HRW.out, rowT_bad hri (by rw [HRRI.out]; exact hne) HMADE.out.2.2.1, HRRI.out]
        have hb0p := put5_below (y := yy) (o := i * 5) (b := w2.heap.size) (belOn hb02 (by omega) hb23) (by omega)
        have hZP := HZ2.out _ hb0p
        have HBADP := hide (fun at' n hn0 e => HBAD.out (put5 w3 w2.heap.size (i * 5) yy) at' n hb0p hn0 e)
        rw [← put5_eq] at hpb hpk hpx hps hpm hZP HBADP
        have HPB := hide hpb
        have HPK := hide hpk
        have HPX := hide hpx
        have HPM := hide hpm
        obtain ⟨z0', z1', fz', hzw'⟩ := hZP
        clear hpb hpk hpx hpm hb0p
        generalize r.2 = rn at HBADI HPM
        by_cases hrn : rn = 0
        · subst hrn
          have HPM0 := hide (HPM.out rfl)
          clear HPM HBADI
          go_wp2
          go_roundw
          case rel => exact ⟨i + 1, by go_num, by omega, HPB.out, by omega, HPX.out, HPK.out, HPM0.out⟩
          case measure => simp [intOf]; omega
        · have hrb : (rn == 0) = false := by simpa using hrn
          have hrnn : (rn != 0) = true := by simpa using hrn
          have HBD := hide (HBADP.out _ _ hrn (HBADI.out hrn))
          clear HPM HBADI HBADP
          go_wp2
          exact bodyPost_ret (v := .tuple #[.agg #[.int .i64 0, .slice none 0 0], .int .i64 i, .int .i64 rn]) (by simp [results, Tryz.results43, go_sem, z0', z1']) rfl HBD.out
    · have hie : i = N := by omega
      subst hie
      have hyl : ys.length = i := HMADE.out.1
      have hrow : Row wr w2.heap.size 0 ys := HRFr.out.row ys (by omega) (fun j hj => by
        have hj' : j < i := by omega
        simp [hj, hj'])
      have HRFIN : Hid (R = ((kind, V.ts ys), 0, 0)) := by
        rw [Hid, ← HRW.out, rowT_good (fun j hj => HMADE.out.2.2.1 j hj (by rw [HRL.out] at hj; exact hj))]
        have hmap : rs.map Prod.fst = V.ts ys := by
          refine List.ext_getElem? fun j => ?_
          rw [List.getElem?_map, V.ts_map, List.getElem?_map]
          by_cases hj : j < i
          · have h1 : j < rs.length := by rw [HRL.out]; exact hj
            have h2 : j < ys.length := by omega
            rw [List.getElem?_eq_getElem h1, List.getElem?_eq_getElem h2, Option.map_some, Option.map_some, HMADE.out.2.1 j h2 h1]
          · rw [List.getElem?_eq_none (by rw [HRL.out]; omega), List.getElem?_eq_none (by omega)]
            rfl
        rw [hmap]
      obtain ⟨x0, x1⟩ := HXFr.out.cells
      obtain ⟨z0, z1, fz, hzw⟩ := HZ2.out _ hb0r
      have hfw : (w2.heap.size + 1) < wr.heap.size := by omega
      have HRW2 := hide hrow
      have hend : ∀ wz, (∀ b, b ≠ w.heap.size + 1 → Same wr wz b) → wz.heap.size = wr.heap.size → Below w.heap.size w wz → UnpPost n₀ R w (.returned (.tuple #[.agg #[.int .i64 kind, .slice (some ⟨w2.heap.size, 0, none⟩) i i], .int .i64 0, .int .i64 0])) wz := by
        intro wz hsm hsz' hbz
        rw [HRFIN.out]
        refine ⟨some ⟨w2.heap.size, 0, none⟩, ys, i, by rw [hyl], ⟨rfl, ?_, fun _ => ⟨_, rfl, by omega, by omega, HRW2.out.same (hsm _ (by omega)), by omega⟩⟩, hbz⟩
        refine .mk ⟨by decide, by decide, by decide, by decide, by omega, by omega⟩ (fun _ => ⟨_, _, rfl, .inr ⟨by omega, by omega⟩, ?_⟩) (fun x hx => ?_)
        · exact HRW2.out.same (hsm _ (by omega))
        · refine LiesIn.keep (HMADE.out.2.2.2 x hx) (fun b hb' => hsm b (by omega)) (fun b hb' => ?_)
          rcases hb' with h | h
          · exact .inl h
          · exact .inr ⟨by omega, by omega⟩
      have HEND := hide hend
      clear hrow hend HRFIN
      go_wp2
      refine bodyPost_ret (v := .tuple #[.agg #[.int .i64 kind, .slice (some ⟨w2.heap.size, 0, none⟩) i i], .int .i64 0, .int .i64 0]) (by simp [results, Tryz.results43, go_sem, z0, z1]) rfl (HEND.out _ (fun b hb' o' => ?_) (by simp [World.setCell]) ?_)
      · exact (World.cell?_setCell_other _ _ _ _ (fun e => by have := congrArg Addr.block e; simp at this; omega)).trans (World.cell?_setCell_other _ _ _ _ (fun e => by have := congrArg Addr.block e; simp at this; omega))
      · exact (hbw.setCell (p := ⟨w.heap.size + 1, 0, none⟩) (Nat.le_succ _) _).setCell (p := ⟨w.heap.size + 1, 1, none⟩) (Nat.le_succ _) _
end Go.Proofs.YtgldcchleoklcaaGreatDoor
