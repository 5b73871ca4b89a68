/- HPkO -/
import Derived.Test.YtgldcchleoklcaaGreatDoorP40
import Derived.Test.YtgldcchleoklcaaGreatDoorP11
import Derived.Test.YtgldcchleoklcaaGreatDoorP12
namespace Go.Proofs.YtgldcchleoklcaaGreatDoor
open Go.RowKit
set_option linter.unusedVariables false
set_option linter.unusedSimpArgs false
theorem Owns.left {w : World} {lo hi : Nat} {S S' : List Value} (h : Owns w lo hi (S ++ S')) : Owns w lo hi S :=
  ⟨fun s hs => h.1 s (List.mem_append_left _ hs), by
    have h2 := h.2
    rw [List.filterMap_append, List.nodup_append] at h2
    exact h2.1⟩
theorem owns_none (w : World) (lo hi : Nat) : Owns w lo hi (V.of 0 0 ⟨#[]⟩ none 0 0 []).slots := by
  rw [V.slots_of]
  exact Owns.nought _ _ _
theorem setC_neO (w : World) {g b o : Nat} (h : b ≠ g) (c : Value) : (w.setCell ⟨g, o, none⟩ c).heap[b]? = w.heap[b]? := by
  simp only [World.setCell]
  rw [Array.getElem?_modify, if_neg (Ne.symm h)]
set_option maxRecDepth 100000 in
set_option maxHeartbeats 2000000 in
theorem owned_listO (l : List V) (a : Option Addr) (c n₀ : Nat) (w : World) (hn : n₀ ≤ w.heap.size) (hc : l.length ≤ c) (hcc : l.length ≤ 2199023255552) (hr : 0 < l.length → ∃ b o, a = some ⟨b, o, none⟩ ∧ b < n₀ ∧ Row w b o l) (ls : ∀ x ∈ l, Lies n₀ w x) :
    Calls Tryz.prog 39 #[.slice a l.length c] w fun e w' => ∃ y : V, e = .returned (.slice y.a y.l.length y.c) ∧
      Hid (V.ts y.l = V.ts l ∧ LiesIn (fun b => w.heap.size ≤ b ∧ b < w'.heap.size) w' y ∧ Owns w' w.heap.size w'.heap.size y.slots) ∧ Below w.heap.size w w' := by
  have HL := hide (listedO_any l a c n₀ w hn hc hcc hr ls)
  clear hr ls
  go_enter Tryz.func39, Tryz.ntmps39
  go_wp2_with fail
  refine HL.out.mono ?_
  rintro e w1 ⟨y, rfl, HY, hb⟩
  go_wp2
  rw [run_field3]
  go_wp2
  refine bodyPost_ret (v := .slice y.a y.l.length y.c) (by simp [results, Tryz.results39, go_sem]) rfl ⟨y, rfl, ⟨?_, HY.out.2⟩, hb⟩
  have h := HY.out.1
  obtain ⟨k', n', s', a', c', e', l', rfl⟩ := V.ex y
  rw [V.t_of] at h
  rw [V.l_of]
  have := congrArg V.l h
  have e1 : V.l (T.of k' n' s' e' (V.ts l')) = V.ts l' := V.l_of _ _ _ _ _ _ _
  have e2 : V.l (T.of 21 0 ⟨#[]⟩ 0 (V.ts l)) = V.ts l := V.l_of _ _ _ _ _ _ _
  rw [e1, e2] at this
  exact this
set_option maxRecDepth 100000 in
set_option maxHeartbeats 4000000 in
theorem pack_faceO (kind : Int) (a : Option Addr) (n c n₀ : Nat) (r : T × Int) (w : World) (hn : n₀ ≤ w.heap.size)
    (hp : ∀ W, Below w.heap.size w W → Calls Tryz.prog 35 #[.agg #[.int .i64 kind, .slice a n c]] W (ValPost n₀ r W)) :
    Calls Tryz.prog 19 #[.agg #[.int .i64 kind, .slice a n c]] w (fun e w' => ∃ y : V, e = VN y r.2 ∧ Hid (y.t = r.1 ∧ LiesIn (fun b => w.heap.size + 2 ≤ b ∧ b < w'.heap.size) w' y ∧ Owns w' (w.heap.size + 2) w'.heap.size y.slots) ∧ Below w.heap.size w w') := by
  obtain ⟨W0, hW0⟩ : ∃ W0, (w.alloc (Obj.cells #[.int .i64 kind, .slice a n c] 33)).alloc (Obj.cells #[.int .i64 0, .int .u64 0, .string ⟨#[]⟩, .slice none 0 0, .int .i64 0] 42) = W0 := ⟨_, rfl⟩
  have hs0 : W0.heap.size = w.heap.size + 2 := by rw [← hW0]; simp
  have hb0 : Below w.heap.size w W0 := by rw [← hW0]; exact bel2 (Below.refl _ _) (Nat.le_refl _) _ _
  have xz : BoxV W0 (w.heap.size + 1) (.of 0 0 ⟨#[]⟩ none 0 0 []) := by
    rw [← hW0]
    unfold BoxV
    rw [V.k_of, V.n_of, V.s_of, V.a_of, V.l_of, V.c_of, V.e_of]
    exact heap_at1 _ _ _
  have HP := hide (hp W0 hb0)
  have HW0 := hide hW0
  clear hW0 hp
  go_enter Tryz.func19, Tryz.ntmps19
  go_wp2_with fail
  rw [HW0.out]
  refine HP.out.mono ?_
  rintro e1 w1 ⟨v, rfl, HV0, hb1⟩
  have HV : Hid (v.t = r.1 ∧ Lies w1.heap.size w1 v) := ⟨HV0.out.1, LiesIn.keep HV0.out.2 (fun _ _ _ => rfl) (fun b' hq => by have := hb0.size; have := hb1.size; omega)⟩
  unfold VN
  have hs1 := hb1.size
  obtain ⟨W1, hW1⟩ : ∃ W1, (w1.alloc (Obj.cells #[.int .i64 v.k, .int .u64 v.n, .string v.s, .slice v.a v.l.length v.c, .int .i64 v.e] 42)).alloc (Obj.cells #[.int .i64 v.k, .int .u64 v.n, .string v.s, .slice v.a v.l.length v.c, .int .i64 v.e] 42) = W1 := ⟨_, rfl⟩
  have hsW1 : W1.heap.size = w1.heap.size + 2 := by rw [← hW1]; simp
  have hb11 : Below w1.heap.size w1 W1 := by rw [← hW1]; exact bel2 (Below.refl _ _) (Nat.le_refl _) _ _
  have hx1 : BoxV W1 (w1.heap.size + 1) v := by rw [← hW1]; exact heap_at1 _ _ _
  have ho := owned_listO [v] (some ⟨w1.heap.size + 1, 0, none⟩) 1 W1.heap.size W1 (Nat.le_refl _) (by simp) (by simp) (fun _ => ⟨w1.heap.size + 1, 0, rfl, by omega, fun i hi => by
    obtain rfl : i = 0 := by simpa using hi
    obtain ⟨q0, q1, q2, q3, q4⟩ := hx1.cells
    exact ⟨q0, q1, q2, q3, q4⟩⟩) (fun x hx => by
    obtain rfl : x = v := by simpa using hx
    exact (HV.out.2.keep hb11 (Nat.le_refl _)).mono (by omega))
  have HO := hide ho
  have HW1 := hide hW1
  clear ho hW1 hx1
  go_wp2_with fail
  rw [HW1.out]
  refine Calls.mono HO.out ?_
  rintro e2 w2 ⟨y, rfl, HY, hb2⟩
  have hs2 := hb2.size
  have hb12 : Below w1.heap.size w1 w2 := hb11.trans (hb2.mono (by omega))
  have hb02 : Below W0.heap.size W0 w2 := belOn hb1 hs1 hb12
  have hbw2 : Below w.heap.size w w2 := belOn hb0 (by omega) hb02
  obtain ⟨k', n', s', a', c', e', l', rfl⟩ := V.ex y
  have hyt := HY.out.1
  rw [V.l_of] at hyt
  have hlen : l'.length = 1 := by have := congrArg List.length hyt; rwa [V.ts_length, V.ts_length] at this
  obtain ⟨x, rfl⟩ : ∃ x, l' = [x] := by
    match l', hlen with
    | [x], _ => exact ⟨x, rfl⟩
  have hxt : x.t = v.t := by
    have h := hyt
    simp only [V.ts] at h
    exact (List.cons.inj h).1
  obtain ⟨b, o, ha, hbq, hrow⟩ := HY.out.2.1.row (by simp)
  have hxl := HY.out.2.1.sub x (by simp)
  have hxo : Owns w2 W1.heap.size w2.heap.size x.slots := by
    have h := HY.out.2.2
    rw [V.slots_of] at h
    have h2 := h.left
    rwa [V.slotss_one] at h2
  have HXO := hide hxo
  clear hxo
  rw [V.a_of, V.l_of, V.c_of, ha]
  obtain ⟨q0, q1, q2, q3, q4⟩ := hrow 0 (by simp)
  have q0' : w2.cell? ⟨b, o, none⟩ = some (.int .i64 x.k) := q0
  have q1' : w2.cell? ⟨b, o + 1, none⟩ = some (.int .u64 x.n) := q1
  have q2' : w2.cell? ⟨b, o + 2, none⟩ = some (.string x.s) := q2
  have q3' : w2.cell? ⟨b, o + 3, none⟩ = some (.slice x.a x.l.length x.c) := q3
  have q4' : w2.cell? ⟨b, o + 4, none⟩ = some (.int .i64 x.e) := q4
  have xz1 := xz.below hb02 (by omega)
  obtain ⟨z0, z1, z2, z3, z4⟩ := xz1.cells
  have fz := (show Blk w2 (w.heap.size + 1) 42 5 from ⟨_, xz1, rfl⟩).free
  have hz5 : w.heap.size + 1 < w2.heap.size := by omega
  have hbl : b < w2.heap.size := by omega
  have HXL := hide hxl
  clear q0 q1 q2 q3 q4 xz1 hxl hrow hyt
  go_wp2
  have hbz : Below w.heap.size w _ := put5_below (y := x) (o := 0) (b := w.heap.size + 1) hbw2 (by omega)
  have hsm : ∀ b', b' ≠ w.heap.size + 1 → Same w2 (put5 w2 (w.heap.size + 1) 0 x) b' := fun b' hb' => put5_same _ _ _ _ _ hb'
  have hsz := put5_size w2 (w.heap.size + 1) 0 x
  have hhp : ∀ b', b' ≠ w.heap.size + 1 → (put5 w2 (w.heap.size + 1) 0 x).heap[b']? = w2.heap[b']? := fun b' hb' => put5_heap _ _ _ _ _ hb'
  rw [← put5_eq] at hbz hsm hsz hhp
  refine bodyPost_ret (v := .tuple #[.agg #[.int .i64 x.k, .int .u64 x.n, .string x.s, .slice x.a x.l.length x.c, .int .i64 x.e], .int .i64 r.2]) (by simp [results, Tryz.results19, go_sem, z0, z1, z2, z3, z4]) rfl ⟨x, rfl, ⟨hxt.trans HV.out.1, ?_, ?_⟩, hbz⟩
  · exact LiesIn.keep HXL.out (fun b' hq => hsm b' (by have h1 : W1.heap.size ≤ b' := hq.1; omega)) (fun b' hq => by
      have h1 : W1.heap.size ≤ b' := hq.1
      have h2 : b' < w2.heap.size := hq.2
      rw [← hsz] at h2
      exact ⟨by omega, h2⟩)
  · exact HXO.out.keep (fun b' q1 q2 => hhp b' (by have h1 : W1.heap.size ≤ b' := q1; omega)) (by omega) (by rw [hsz]; exact Nat.le_refl _)
set_option maxRecDepth 100000 in
set_option maxHeartbeats 4000000 in
theorem unpack_faceO (v : V) (n₀ : Nat) (ce : Int) (R0 R : (Int × List T) × Int × Int) (w : World) (hn : n₀ ≤ w.heap.size) (hR1 : ce ≠ 0 → R = ((0, []), 0, ce)) (hR2 : ce = 0 → R0 = R)
    (hc : ∀ W, Below w.heap.size w W → Calls Tryz.prog 42 #[v.val] W fun e w' => e = .returned (.int .i64 ce) ∧ Below W.heap.size W w')
    (hu : ∀ W, Below w.heap.size w W → ce = 0 → Calls Tryz.prog 43 #[v.val] W (UnpPost n₀ R0 W)) :
    Calls Tryz.prog 26 #[v.val] w (fun e w' => ∃ y : V, e = .returned (.tuple #[.agg #[.int .i64 R.1.1, .slice y.a y.l.length y.c], .int .i64 R.2.1, .int .i64 R.2.2]) ∧ Hid (V.ts y.l = R.1.2 ∧ LiesIn (fun b => w.heap.size + 2 ≤ b ∧ b < w'.heap.size) w' y ∧ Owns w' (w.heap.size + 2) w'.heap.size y.slots) ∧ Below w.heap.size w w') := by
  have HR1 := hide hR1
  have HR2 := hide hR2
  clear hR1 hR2
  obtain ⟨W0, hW0⟩ : ∃ W0, (w.alloc (Obj.cells #[.int .i64 v.k, .int .u64 v.n, .string v.s, .slice v.a v.l.length v.c, .int .i64 v.e] 42)).alloc (Obj.cells #[.int .i64 0, .slice none 0 0] 33) = W0 := ⟨_, rfl⟩
  have hs0 : W0.heap.size = w.heap.size + 2 := by rw [← hW0]; simp
  have hb0 : Below w.heap.size w W0 := by rw [← hW0]; exact bel2 (Below.refl _ _) (Nat.le_refl _) _ _
  have xv : BoxV W0 w.heap.size v := by rw [← hW0]; exact heap_past (World.alloc_heap_new _ _) _
  have xz : BoxR W0 (w.heap.size + 1) 0 none 0 0 := by rw [← hW0]; exact heap_at1 _ _ _
  have HC := hide hc
  have HU := hide hu
  rw [V.val_eq] at HC HU ⊢
  have HW0 := hide hW0
  clear hW0 hc hu
  go_enter Tryz.func26, Tryz.ntmps26
  go_wp2_with fail
  rw [HW0.out]
  clear HW0
  refine (HC.out _ hb0).mono ?_
  rintro e1 w1 ⟨rfl, hb1⟩
  have hs1 := hb1.size
  have hbw1 : Below w.heap.size w w1 := belOn hb0 (by omega) hb1
  obtain ⟨v0, v1, v2, v3, v4⟩ := (xv.below hb1 (by omega)).cells
  have hz1 : w.heap.size < w1.heap.size := by omega
  by_cases hce : ce = 0
  rotate_left
  · have hcb : (ce == 0) = false := by simpa using hce
    have hcn : (ce != 0) = true := by simpa using hce
    have HRK := hide (HR1.out hce)
    have xz1 := xz.below hb1 (by omega)
    obtain ⟨z0, z1⟩ := xz1.cells
    have fz : ∀ j, w1.frozen? ⟨w.heap.size + 1, j, none⟩ = false := fun j => by
      unfold BoxR at xz1
      simp [World.frozen?, xz1]
    have hz3 : w.heap.size + 1 < w1.heap.size := by omega
    clear HR1 HR2 xz1
    go_wp2
    exact bodyPost_ret (v := .tuple #[.agg #[.int .i64 0, .slice none 0 0], .int .i64 0, .int .i64 ce]) (by simp [results, Tryz.results26, go_sem, z0, z1]) rfl ⟨V.of 0 0 ⟨#[]⟩ none 0 0 [], by rw [HRK.out]; rfl, ⟨by rw [HRK.out]; rfl, none_lies _ _, owns_none _ _ _⟩, (hbw1.setCell (p := ⟨w.heap.size + 1, 0, none⟩) (Nat.le_succ _) _).setCell (p := ⟨w.heap.size + 1, 1, none⟩) (Nat.le_succ _) _⟩
  subst hce
  have HRK := hide (HR2.out rfl)
  clear HR1 HR2
  rw [HRK.out] at HU
  clear HRK
  go_wp2_with fail
  refine (HU.out _ hbw1 (by first | rfl | trivial)).mono ?_
  rintro e2 w2 ⟨ya, ys, yc, rfl, HL, hb2⟩
  obtain ⟨⟨kind, yt⟩, at', er⟩ := R
  dsimp only at HL ⊢
  have hs2 := hb2.size
  have hb02 : Below W0.heap.size W0 w2 := belOn hb1 hs1 hb2
  have hbw2 : Below w.heap.size w w2 := belOn hb0 (by omega) hb02
  obtain ⟨W2, hW2⟩ : ∃ W2, w2.alloc (Obj.cells #[.int .i64 kind, .slice ya ys.length yc] 33) = W2 := ⟨_, rfl⟩
  have hsW2 : W2.heap.size = w2.heap.size + 1 := by rw [← hW2]; simp
  have hb22 : Below w2.heap.size w2 W2 := by rw [← hW2]; exact bel1 (Below.refl _ _) (Nat.le_refl _) _
  have hx2 : BoxR W2 w2.heap.size kind ya ys.length yc := by rw [← hW2]; exact World.alloc_heap_new _ _
  have hbwW : Below w.heap.size w W2 := belOn hbw2 hbw2.size hb22
  have hyl : Lies w2.heap.size w2 (V.of 0 0 ⟨#[]⟩ ya yc 0 ys) := LiesIn.keep HL.out.2.1 (fun _ _ _ => rfl) (fun b' hq => by show b' < w2.heap.size; have := hbw1.size; omega)
  have hyo := hyl.ok
  have ho := owned_listO ys ya yc W2.heap.size W2 (Nat.le_refl _) hyo.l hyo.c (fun h0 => by
    obtain ⟨b', o', e', h1, h2⟩ := hyl.row h0
    exact ⟨b', o', e', by omega, h2.below hb22 h1⟩) (fun x hx => ((hyl.sub x hx).keep hb22 (Nat.le_refl _)).mono (by omega))
  have HO := hide ho
  have HW2 := hide hW2
  clear ho hW2
  go_wp2_with fail
  rw [HW2.out]
  refine Calls.mono HO.out ?_
  rintro e3 w3 ⟨y, rfl, HYY, hb3⟩
  have hs3 := hb3.size
  have hx3 := hx2.below hb3 (by omega)
  obtain ⟨r0, r1⟩ := hx3.cells
  have fr : ∀ j, w3.frozen? ⟨w2.heap.size, j, none⟩ = false := fun j => by
    unfold BoxR at hx3
    simp [World.frozen?, hx3]
  have hb23 : Below w2.heap.size w2 w3 := hb22.trans (hb3.mono (by omega))
  have hb03 : Below W0.heap.size W0 w3 := belOn hb02 (by omega) hb23
  have hbw3 : Below w.heap.size w w3 := belOn hb0 (by omega) hb03
  have xz1 := xz.below hb03 (by omega)
  obtain ⟨z0, z1⟩ := xz1.cells
  have fz : ∀ j, w3.frozen? ⟨w.heap.size + 1, j, none⟩ = false := fun j => by
    unfold BoxR at xz1
    simp [World.frozen?, xz1]
  have hz3 : w.heap.size + 1 < w3.heap.size := by omega
  have hz4 : w2.heap.size < w3.heap.size := by omega
  have hne : w2.heap.size ≠ w.heap.size + 1 := by omega
  have hne' : w.heap.size + 1 ≠ w2.heap.size := by omega
  clear hx3 xz1
  go_wp2
  have hsm : ∀ b', b' ≠ w2.heap.size → b' ≠ w.heap.size + 1 → Same w3 (((w3.setCell ⟨w2.heap.size, 1, none⟩ (.slice y.a y.l.length y.c)).setCell ⟨w.heap.size + 1, 0, none⟩ (.int .i64 kind)).setCell ⟨w.heap.size + 1, 1, none⟩ (.slice y.a y.l.length y.c)) b' := fun b' n1 n2 o' =>
    ((World.cell?_setCell_other _ _ _ _ (fun e => n2 (congrArg Addr.block e).symm)).trans (World.cell?_setCell_other _ _ _ _ (fun e => n2 (congrArg Addr.block e).symm))).trans (World.cell?_setCell_other _ _ _ _ (fun e => n1 (congrArg Addr.block e).symm))
  have hsz : (((w3.setCell ⟨w2.heap.size, 1, none⟩ (.slice y.a y.l.length y.c)).setCell ⟨w.heap.size + 1, 0, none⟩ (.int .i64 kind)).setCell ⟨w.heap.size + 1, 1, none⟩ (.slice y.a y.l.length y.c)).heap.size = w3.heap.size := by simp [World.setCell]
  have hbz := ((hbw3.setCell (p := ⟨w2.heap.size, 1, none⟩) (by show w.heap.size ≤ w2.heap.size; omega) (.slice y.a y.l.length y.c)).setCell (p := ⟨w.heap.size + 1, 0, none⟩) (Nat.le_succ _) (.int .i64 kind)).setCell (p := ⟨w.heap.size + 1, 1, none⟩) (Nat.le_succ _) (.slice y.a y.l.length y.c)
  refine bodyPost_ret (v := .tuple #[.agg #[.int .i64 kind, .slice y.a y.l.length y.c], .int .i64 at', .int .i64 er]) (by simp [results, Tryz.results26, go_sem, z0, z1, hne, hne']) rfl ⟨y, rfl, ⟨HYY.out.1.trans HL.out.1, LiesIn.keep HYY.out.2.1 (fun b' hq => ?_) (fun b' hq => ?_), HYY.out.2.2.keep (fun b' q1 q2 => ?_) (by omega) (by rw [hsz]; exact Nat.le_refl _)⟩, hbz⟩
  · have h1 : W2.heap.size ≤ b' := hq.1
    exact hsm b' (by omega) (by omega)
  · have h1 : W2.heap.size ≤ b' := hq.1
    have h2 : b' < w3.heap.size := hq.2
    exact ⟨by omega, by rw [hsz]; exact h2⟩
  · have h1 : W2.heap.size ≤ b' := q1
    exact (setC_neO _ (by omega) _).trans ((setC_neO _ (by omega) _).trans (setC_neO _ (by omega) _))
theorem pack_anyO (kind : Int) (a : Option Addr) (l : List V) (c n₀ : Nat) (w : World) (hn : n₀ ≤ w.heap.size) (hl : Lies n₀ w (V.of 0 0 ⟨#[]⟩ a c 0 l)) (hT : Lib.Utf8Tabs 0 1 w) :
    Calls Tryz.prog 19 #[.agg #[.int .i64 kind, .slice a l.length c]] w (fun e w' => ∃ y : V, e = VN y (packR kind l).2 ∧ Hid (y.t = (packR kind l).1 ∧ LiesIn (fun b => w.heap.size + 2 ≤ b ∧ b < w'.heap.size) w' y ∧ Owns w' (w.heap.size + 2) w'.heap.size y.slots) ∧ Below w.heap.size w w') :=
  pack_faceO kind a l.length c n₀ (packR kind l) w hn (fun W hW => packed_any kind a l c n₀ W (by have := hW.size; omega) (hl.keep hW hn) (tabs_below hT hW))
theorem unpack_anyO (v : V) (n₀ : Nat) (w : World) (hn : n₀ ≤ w.heap.size) (hl : Lies n₀ w v) (hT : Lib.Utf8Tabs 0 1 w) :
    Calls Tryz.prog 26 #[v.val] w (fun e w' => ∃ y : V, e = .returned (.tuple #[.agg #[.int .i64 (unpR v).1.1, .slice y.a y.l.length y.c], .int .i64 (unpR v).2.1, .int .i64 (unpR v).2.2]) ∧ Hid (V.ts y.l = (unpR v).1.2 ∧ LiesIn (fun b => w.heap.size + 2 ≤ b ∧ b < w'.heap.size) w' y ∧ Owns w' (w.heap.size + 2) w'.heap.size y.slots) ∧ Below w.heap.size w w') := by
  refine unpack_faceO v n₀ (chkE v) (unpT rep v.t) (unpR v) w hn (fun h => by unfold unpR; rw [if_pos h]) (fun h => by unfold unpR; rw [if_neg (by simpa using h)]) (fun W hW => check_any v n₀ W (by have := hW.size; omega) (hl.keep hW hn) (tabs_below hT hW)) (fun W hW h => ?_)
  refine unpacked_all n₀ rep v W (by have := hW.size; omega) (hl.keep hW hn) (fun y hy x hx => rep_ok ?_)
  have h1 := chk_deep h
  obtain ⟨k, n, s, a, c, e, l, rfl⟩ := V.ex v
  rw [V.l_of] at hy
  have h2 := dp_sub (k := k) (n := n) (s := s) (a := a) (c := c) (e := e) hy
  obtain ⟨k', n', s', a', c', e', l', rfl⟩ := V.ex y
  rw [V.l_of] at hx
  have h3 := dp_sub (k := k') (n := n') (s := s') (a := a') (c := c') (e := e') hx
  omega
end Go.Proofs.YtgldcchleoklcaaGreatDoor
