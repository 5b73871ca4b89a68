import Derived.Test.YtgpimajdcfoigabDoorD38

/- codec's reader: data of described values. -/
namespace Go.Proofs.YtgpimajdcfoigabDoor
open Go.RowKit
set_option linter.unusedVariables false
set_option linter.unusedSimpArgs false
theorem zero_box {w : World} : (w.alloc (.cells #[.int .i64 0, .int .u64 0, .string ⟨#[]⟩, .slice none 0 0, .int .i64 0] 25)).heap.size = w.heap.size + 1 := by simp
theorem row_two {W : World} {g : Nat} {y1 y2 : V} (h : W.heap[g]? = some (.cells #[.int .i64 y1.k, .int .u64 y1.n, .string y1.s, .slice y1.a y1.l.length y1.c, .int .i64 y1.e, .int .i64 y2.k, .int .u64 y2.n, .string y2.s, .slice y2.a y2.l.length y2.c, .int .i64 y2.e] 25)) : Row W g 0 [y1, y2] := by
  intro i hi
  have hi2 : i < 2 := hi
  match i, hi2 with
  | 0, _ => refine ⟨?_, ?_, ?_, ?_, ?_⟩ <;> simp [World.cell?, h]
  | 1, _ => refine ⟨?_, ?_, ?_, ?_, ?_⟩ <;> simp [World.cell?, h]
set_option maxRecDepth 100000 in
set_option maxHeartbeats 4000000 in
theorem dat_desc (f k c : Nat) (hc : c < 256) (hk : k ≤ 24) (hlay : c / 16 = 0)
    (HV : ∀ (d R : Nat) (a : Option Addr) (n cap : Nat) (l : List Nat), d + (f + 1) = 33 → ValAt f d R a n cap l) : DatC (f + 1) k c := by
  intro d R a n cap place p fin sz l w hd hs hr hp hfin hpl
  have hrd : rdat badB twiceW l (f + 1) k c place p fin sz = bindR (rval badB twiceW l f p fin sz) fun dq => bindR (rval badB twiceW l f dq.2 fin sz) fun vq => .ok (T.of k 0 e0 0 [dq.1, vq.1], vq.2) := by
    rw [rdat_b, if_pos hlay]; rfl
  rw [hrd]
  clear hrd
  have HLAY : Hid (∀ W1, Calls Tryd.prog 33 #[.int .u8 (c : Int)] W1 fun e w' => e = .returned (.int .u8 0) ∧ W1 = w') := fun W1 => by
    have := layout_any c hc W1
    rw [hlay] at this
    exact this
  have HVV := hide (HV d R a n cap l hd)
  have hlt := hr.cells.2.2.2.2.2.2.2
  have hdw : IntKind.i64.wrap ((d : Int) + 1) = (d : Int) + 1 := by rw [IntKind.wrap_i64]; omega
  have HR := hide hr
  have HS := hide hs
  clear hr hs HV hlay
  have HG0 : Hid (∀ A B, Gro R w ((w.alloc A).alloc B)) := fun A B => ((Gro.refl R w).alloc A).alloc B
  cases hrv : rval badB twiceW l f p fin sz with
  | error x =>
    have HVE : Hid (∀ W', Gro R w W' → RB W' R a n cap p fin sz → Calls Tryd.prog 17 #[.pointer (some ⟨R, 0, none⟩), .int .i64 ((d : Int) + 1)] W' (fun e w' => e = Flt x ∧ Gro R W' w')) := fun W' h1 h2 => by
      have := HVV.out p fin sz W' (HS.out.gro h1) h2 hp hfin
      rw [hrv] at this
      exact this
    clear hrv HVV
    go_enter Tryd.func26, Tryd.ntmps26
    go_wp2_with fail
    refine Calls.mono (HLAY.out _) ?_
    rintro e1 w1 ⟨rfl, rfl⟩
    go_wp2_with fail
    refine Calls.mono (HVE.out _ (HG0.out _ _) ((HR.out.alloc _).alloc _)) ?_
    rintro e1 w1 ⟨rfl, hg⟩
    exact ⟨rfl, rfl, (HG0.out _ _).trans hg⟩
  | ok dq =>
    obtain ⟨t1, q1⟩ := dq
    have HVO : Hid (∀ W', Gro R w W' → RB W' R a n cap p fin sz → Calls Tryd.prog 17 #[.pointer (some ⟨R, 0, none⟩), .int .i64 ((d : Int) + 1)] W' (fun e w' => GotV R a n cap p fin sz W' (t1, q1) e w' ∧ Gro R W' w')) := fun W' h1 h2 => by
      have := HVV.out p fin sz W' (HS.out.gro h1) h2 hp hfin
      rw [hrv] at this
      exact this
    have hq1 := rval_far badB twiceW l hrv
    have hbd : ∀ r, bindR (.ok (t1, q1)) (fun dq => bindR (rval badB twiceW l f dq.2 fin sz) fun vq => .ok (T.of k 0 e0 0 [dq.1, vq.1], vq.2)) = r → bindR (rval badB twiceW l f q1 fin sz) (fun vq => .ok (T.of k 0 e0 0 [t1, vq.1], vq.2)) = r := fun r h => h
    show Calls _ _ _ _ (Outc (bindR (rval badB twiceW l f q1 fin sz) (fun vq => .ok (T.of k 0 e0 0 [t1, vq.1], vq.2))) R w (GotV R a n cap p fin sz w))
    clear hbd hrv
    have HV2 : Hid (∀ W', Gro R w W' → RB W' R a n cap q1 fin sz → Calls Tryd.prog 17 #[.pointer (some ⟨R, 0, none⟩), .int .i64 ((d : Int) + 1)] W' (Outc (rval badB twiceW l f q1 fin sz) R W' (GotV R a n cap q1 fin sz W'))) := fun W' h1 h2 => HVV.out q1 fin sz W' (HS.out.gro h1) h2 hq1.2 hfin
    have HQ2 : Hid (∀ tq, rval badB twiceW l f q1 fin sz = .ok tq → q1 < tq.2 ∧ tq.2 ≤ fin) := fun tq h => rval_far badB twiceW l (t := tq.1) (q := tq.2) h
    clear HVV
    cases hrv2 : rval badB twiceW l f q1 fin sz with
    | error x =>
      have HVE : Hid (∀ W', Gro R w W' → RB W' R a n cap q1 fin sz → Calls Tryd.prog 17 #[.pointer (some ⟨R, 0, none⟩), .int .i64 ((d : Int) + 1)] W' (fun e w' => e = Flt x ∧ Gro R W' w')) := fun W' h1 h2 => by
        have := HV2.out W' h1 h2
        rw [hrv2] at this
        exact this
      clear HV2 HQ2 hrv2
      go_enter Tryd.func26, Tryd.ntmps26
      go_wp2_with fail
      refine Calls.mono (HLAY.out _) ?_
      rintro e1 w1 ⟨rfl, rfl⟩
      go_wp2_with fail
      refine Calls.mono (HVO.out _ (HG0.out _ _) ((HR.out.alloc _).alloc _)) ?_
      rintro e2 w2 ⟨⟨y1, rfl, HY1⟩, hg2⟩
      obtain ⟨g1, g2, g3, g4, hz⟩ := two_boxes hlt hg2
      have HGA : Hid (Gro R w w2) := (HG0.out _ _).trans hg2
      have k0 := g1 0
      have k1 := g1 1
      have k2 := g1 2
      have k3 := g1 3
      have k4 := g1 4
      have j0 := g2 0
      have j1 := g2 1
      have j2 := g2 2
      have j3 := g2 3
      have j4 := g2 4
      simp only [List.getElem?_toArray, List.getElem?_cons_zero, List.getElem?_cons_succ] at k0 k1 k2 k3 k4 j0 j1 j2 j3 j4
      have HG2 := hide hg2
      clear hg2 g1 g2
      go_wp2_with fail
      obtain ⟨W3, hW3⟩ : ∃ W3, w2.alloc (Obj.cells #[.int .i64 y1.k, .int .u64 y1.n, .string y1.s, .slice y1.a y1.l.length y1.c, .int .i64 y1.e] 25) = W3 := ⟨_, rfl⟩
      have hD3 : W3.heap[w2.heap.size]? = some (.cells #[.int .i64 y1.k, .int .u64 y1.n, .string y1.s, .slice y1.a y1.l.length y1.c, .int .i64 y1.e] 25) := by rw [← hW3]; exact World.alloc_heap_new _ _
      have hs3 : W3.heap.size = w2.heap.size + 1 := by rw [← hW3]; simp
      have HG3 : Hid (Gro R w2 W3) := by show Gro R w2 W3; rw [← hW3]; exact (Gro.refl R w2).alloc _
      have HRB3 : Hid (RB W3.drew R a n cap q1 fin sz) := by show RB W3.drew R a n cap q1 fin sz; rw [← hW3]; exact (HY1.out.2.2.1.alloc _).drew
      rw [hW3]
      clear hW3 k0 k1 k2 k3 k4 j0 j1 j2 j3 j4 g3 g4
      obtain ⟨D, hDe⟩ : ∃ D, w2.heap.size = D := ⟨_, rfl⟩
      rw [hDe] at hD3 hs3 ⊢
      have HDE := hide hDe
      clear hDe
      have HD3 := hide hD3
      clear hD3
      have HX0 : Hid (W3.drew.heap[D]? = W3.heap[D]?) := rfl
      have HKP : Hid (∀ L W', W'.heap[D]? = W3.heap[D]? → Kept (fun W' => W'.cell? ⟨D, 0, none⟩ = some (.int .i64 y1.k) ∧ W'.cell? ⟨D, 1, none⟩ = some (.int .u64 y1.n) ∧ W'.cell? ⟨D, 2, none⟩ = some (.string y1.s) ∧ W'.cell? ⟨D, 3, none⟩ = some (.slice y1.a y1.l.length y1.c) ∧ W'.cell? ⟨D, 4, none⟩ = some (.int .i64 y1.e)) (fun _ _ => True) L W') := fun L W' h => by
        have e := h.trans HD3.out
        refine ⟨⟨?_, ?_, ?_, ?_, ?_⟩, fun _ _ => trivial⟩ <;> simp [World.cell?, e]
      have HGW : Hid (∀ W', Gro R W3 W' → Gro R w W') := fun W' h => (HGA.out.trans HG3.out).trans h
      have HRD : Hid (R ≠ D) := by have := HDE.out; show R ≠ D; omega
      refine wp_region_Z (S := (fun W' => W'.cell? ⟨D, 0, none⟩ = some (.int .i64 y1.k) ∧ W'.cell? ⟨D, 1, none⟩ = some (.int .u64 y1.n) ∧ W'.cell? ⟨D, 2, none⟩ = some (.string y1.s) ∧ W'.cell? ⟨D, 3, none⟩ = some (.slice y1.a y1.l.length y1.c) ∧ W'.cell? ⟨D, 4, none⟩ = some (.int .i64 y1.e))) (C := fun _ _ => True) (by kernel_rfl) (HKP.out _ _ HX0.out) (fun hHeld => ?_)
      clear hHeld
      refine Z_take (i := 0) (d := 40) (v := ?_) (Zs := []) rfl rfl (by kernel_rfl) (by kernel_rfl) (by kernel_rfl) (fun _ _ _ h => h) (fun _ => trivial) (by kernel_rfl) rfl ?_ (HKP.out _ _ HX0.out) ?_
      rotate_left
      · intro w hSw hC
        try dsimp only at hSw
        go_simp
        try with_reducible rfl
      try simp only [List.setIfInBounds_toArray, List.set_cons_zero, List.set_cons_succ]
      refine Z_take (i := 1) (d := 41) (v := ?_) (Zs := []) rfl rfl (by kernel_rfl) (by kernel_rfl) (by kernel_rfl) (fun _ _ _ h => h) (fun _ => trivial) (by kernel_rfl) rfl ?_ (HKP.out _ _ HX0.out) ?_
      rotate_left
      · intro w hSw hC
        try dsimp only at hSw
        go_simp
        try with_reducible rfl
      try simp only [List.setIfInBounds_toArray, List.set_cons_zero, List.set_cons_succ]
      refine Z_take (i := 2) (d := 42) (v := ?_) (Zs := []) rfl rfl (by kernel_rfl) (by kernel_rfl) (by kernel_rfl) (fun _ _ _ h => h) (fun _ => trivial) (by kernel_rfl) rfl ?_ (HKP.out _ _ HX0.out) ?_
      rotate_left
      · intro w hSw hC
        try dsimp only at hSw
        go_simp
        try with_reducible rfl
      try simp only [List.setIfInBounds_toArray, List.set_cons_zero, List.set_cons_succ]
      refine Z_take (i := 3) (d := 43) (v := ?_) (Zs := []) rfl rfl (by kernel_rfl) (by kernel_rfl) (by kernel_rfl) (fun _ _ _ h => h) (fun _ => trivial) (by kernel_rfl) rfl ?_ (HKP.out _ _ HX0.out) ?_
      rotate_left
      · intro w hSw hC
        try dsimp only at hSw
        go_simp
        try with_reducible rfl
      try simp only [List.setIfInBounds_toArray, List.set_cons_zero, List.set_cons_succ]
      refine wpAnyZ_ready (rs := [4]) (by kernel_rfl) (by simp) ?_
      refine AllReadyZ.cons rfl (fun K hK => ?_) AllReadyZ.nil
      go_simp
      try rw [hdw]
      refine Calls.mono (HVE.out _ (HGW.out _ (Gro.refl R W3).drew) HRB3.out) ?_
      rintro e4 w4 ⟨rfl, hg4⟩
      exact ⟨rfl, rfl, HGW.out _ ((Gro.refl R W3).drew.trans hg4)⟩
    | ok tq2 =>
      have HVO2 : Hid (∀ W', Gro R w W' → RB W' R a n cap q1 fin sz → Calls Tryd.prog 17 #[.pointer (some ⟨R, 0, none⟩), .int .i64 ((d : Int) + 1)] W' (fun e w' => GotV R a n cap q1 fin sz W' tq2 e w' ∧ Gro R W' w')) := fun W' h1 h2 => by
        have := HV2.out W' h1 h2
        rw [hrv2] at this
        exact this
      have hq2 := HQ2.out tq2 hrv2
      obtain ⟨t2, q2⟩ := tq2
      clear HV2 HQ2 hrv2
      go_enter Tryd.func26, Tryd.ntmps26
      go_wp2_with fail
      refine Calls.mono (HLAY.out _) ?_
      rintro e1 w1 ⟨rfl, rfl⟩
      go_wp2_with fail
      refine Calls.mono (HVO.out _ (HG0.out _ _) ((HR.out.alloc _).alloc _)) ?_
      rintro e2 w2 ⟨⟨y1, rfl, HY1⟩, hg2⟩
      obtain ⟨g1, g2, g3, g4, hz⟩ := two_boxes hlt hg2
      have HGA : Hid (Gro R w w2) := (HG0.out _ _).trans hg2
      have k0 := g1 0
      have k1 := g1 1
      have k2 := g1 2
      have k3 := g1 3
      have k4 := g1 4
      have j0 := g2 0
      have j1 := g2 1
      have j2 := g2 2
      have j3 := g2 3
      have j4 := g2 4
      simp only [List.getElem?_toArray, List.getElem?_cons_zero, List.getElem?_cons_succ] at k0 k1 k2 k3 k4 j0 j1 j2 j3 j4
      have HG2 := hide hg2
      clear hg2 g1 g2
      go_wp2_with fail
      obtain ⟨W3, hW3⟩ : ∃ W3, w2.alloc (Obj.cells #[.int .i64 y1.k, .int .u64 y1.n, .string y1.s, .slice y1.a y1.l.length y1.c, .int .i64 y1.e] 25) = W3 := ⟨_, rfl⟩
      have hD3 : W3.heap[w2.heap.size]? = some (.cells #[.int .i64 y1.k, .int .u64 y1.n, .string y1.s, .slice y1.a y1.l.length y1.c, .int .i64 y1.e] 25) := by rw [← hW3]; exact World.alloc_heap_new _ _
      have hs3 : W3.heap.size = w2.heap.size + 1 := by rw [← hW3]; simp
      have HG3 : Hid (Gro R w2 W3) := by show Gro R w2 W3; rw [← hW3]; exact (Gro.refl R w2).alloc _
      have HRB3 : Hid (RB W3.drew R a n cap q1 fin sz) := by show RB W3.drew R a n cap q1 fin sz; rw [← hW3]; exact (HY1.out.2.2.1.alloc _).drew
      rw [hW3]
      clear hW3 k0 k1 k2 k3 k4 j0 j1 j2 j3 j4 g3 g4
      obtain ⟨D, hDe⟩ : ∃ D, w2.heap.size = D := ⟨_, rfl⟩
      rw [hDe] at hD3 hs3 ⊢
      have HDE := hide hDe
      clear hDe
      have HD3 := hide hD3
      clear hD3
      have HX0 : Hid (W3.drew.heap[D]? = W3.heap[D]?) := rfl
      have HKP : Hid (∀ L W', W'.heap[D]? = W3.heap[D]? → Kept (fun W' => W'.cell? ⟨D, 0, none⟩ = some (.int .i64 y1.k) ∧ W'.cell? ⟨D, 1, none⟩ = some (.int .u64 y1.n) ∧ W'.cell? ⟨D, 2, none⟩ = some (.string y1.s) ∧ W'.cell? ⟨D, 3, none⟩ = some (.slice y1.a y1.l.length y1.c) ∧ W'.cell? ⟨D, 4, none⟩ = some (.int .i64 y1.e)) (fun _ _ => True) L W') := fun L W' h => by
        have e := h.trans HD3.out
        refine ⟨⟨?_, ?_, ?_, ?_, ?_⟩, fun _ _ => trivial⟩ <;> simp [World.cell?, e]
      have HGW : Hid (∀ W', Gro R W3 W' → Gro R w W') := fun W' h => (HGA.out.trans HG3.out).trans h
      have HRD : Hid (R ≠ D) := by have := HDE.out; show R ≠ D; omega
      refine wp_region_Z (S := (fun W' => W'.cell? ⟨D, 0, none⟩ = some (.int .i64 y1.k) ∧ W'.cell? ⟨D, 1, none⟩ = some (.int .u64 y1.n) ∧ W'.cell? ⟨D, 2, none⟩ = some (.string y1.s) ∧ W'.cell? ⟨D, 3, none⟩ = some (.slice y1.a y1.l.length y1.c) ∧ W'.cell? ⟨D, 4, none⟩ = some (.int .i64 y1.e))) (C := fun _ _ => True) (by kernel_rfl) (HKP.out _ _ HX0.out) (fun hHeld => ?_)
      clear hHeld
      refine Z_take (i := 0) (d := 40) (v := ?_) (Zs := []) rfl rfl (by kernel_rfl) (by kernel_rfl) (by kernel_rfl) (fun _ _ _ h => h) (fun _ => trivial) (by kernel_rfl) rfl ?_ (HKP.out _ _ HX0.out) ?_
      rotate_left
      · intro w hSw hC
        try dsimp only at hSw
        go_simp
        try with_reducible rfl
      try simp only [List.setIfInBounds_toArray, List.set_cons_zero, List.set_cons_succ]
      refine Z_take (i := 1) (d := 41) (v := ?_) (Zs := []) rfl rfl (by kernel_rfl) (by kernel_rfl) (by kernel_rfl) (fun _ _ _ h => h) (fun _ => trivial) (by kernel_rfl) rfl ?_ (HKP.out _ _ HX0.out) ?_
      rotate_left
      · intro w hSw hC
        try dsimp only at hSw
        go_simp
        try with_reducible rfl
      try simp only [List.setIfInBounds_toArray, List.set_cons_zero, List.set_cons_succ]
      refine Z_take (i := 2) (d := 42) (v := ?_) (Zs := []) rfl rfl (by kernel_rfl) (by kernel_rfl) (by kernel_rfl) (fun _ _ _ h => h) (fun _ => trivial) (by kernel_rfl) rfl ?_ (HKP.out _ _ HX0.out) ?_
      rotate_left
      · intro w hSw hC
        try dsimp only at hSw
        go_simp
        try with_reducible rfl
      try simp only [List.setIfInBounds_toArray, List.set_cons_zero, List.set_cons_succ]
      refine Z_take (i := 3) (d := 43) (v := ?_) (Zs := []) rfl rfl (by kernel_rfl) (by kernel_rfl) (by kernel_rfl) (fun _ _ _ h => h) (fun _ => trivial) (by kernel_rfl) rfl ?_ (HKP.out _ _ HX0.out) ?_
      rotate_left
      · intro w hSw hC
        try dsimp only at hSw
        go_simp
        try with_reducible rfl
      try simp only [List.setIfInBounds_toArray, List.set_cons_zero, List.set_cons_succ]
      refine wpAnyZ_ready (rs := [4]) (by kernel_rfl) (by simp) ?_
      refine AllReadyZ.cons rfl (fun K hK => ?_) AllReadyZ.nil
      go_simp
      try rw [hdw]
      refine Calls.mono (HVO2.out _ (HGW.out _ (Gro.refl R W3).drew) HRB3.out) ?_
      rintro e4 w4 ⟨⟨y2, rfl, HY2⟩, hg4⟩
      have HG4 : Hid (Gro R W3 w4) := (Gro.refl R W3).drew.trans hg4
      clear hg4
      have HX4 : Hid (w4.heap[D]? = W3.heap[D]?) := HG4.out.block D (by omega) (by have := HRD.out; simp; omega)
      refine hK.out _ _ (HKP.out _ _ HX4.out) (fun _ => ?_)
      clear hK K
      refine wpAnyZ_ready (rs := [5]) (by kernel_rfl) (by simp) ?_
      refine AllReadyZ.cons rfl (fun K hK => ?_) AllReadyZ.nil
      go_simp
      obtain ⟨W5, hW5⟩ : ∃ W5, w4.alloc (Obj.cells #[.int .i64 y1.k, .int .u64 y1.n, .string y1.s, .slice y1.a y1.l.length y1.c, .int .i64 y1.e, .int .i64 y2.k, .int .u64 y2.n, .string y2.s, .slice y2.a y2.l.length y2.c, .int .i64 y2.e] 25) = W5 := ⟨_, rfl⟩
      have hD5 : W5.heap[w4.heap.size]? = some (.cells #[.int .i64 y1.k, .int .u64 y1.n, .string y1.s, .slice y1.a y1.l.length y1.c, .int .i64 y1.e, .int .i64 y2.k, .int .u64 y2.n, .string y2.s, .slice y2.a y2.l.length y2.c, .int .i64 y2.e] 25) := by rw [← hW5]; exact World.alloc_heap_new _ _
      have hs5 : W5.heap.size = w4.heap.size + 1 := by rw [← hW5]; simp
      have HG5 : Hid (Gro R W3 W5) := by show Gro R W3 W5; rw [← hW5]; exact HG4.out.alloc _
      have HB5 : Hid (Below w4.heap.size w4 W5) := by show Below w4.heap.size w4 W5; rw [← hW5]; exact bel1 (Below.refl _ _) (Nat.le_refl _) _
      rw [hW5]
      clear hW5
      have HX5 : Hid (W5.heap[D]? = W3.heap[D]?) := HG5.out.block D (by omega) (by have := HRD.out; simp; omega)
      refine hK.out _ _ (HKP.out _ _ HX5.out) (fun _ => ?_)
      clear hK K
      have hs4 := HG4.out.size
      have HGT : Hid (Gro R ((w.alloc (.cells #[.int .i64 0, .int .u64 0, .string ⟨#[]⟩, .slice none 0 0, .int .i64 0] 25)).alloc (.cells #[.int .i64 (k : Int), .int .u64 0, .string ⟨#[]⟩, .slice none 0 0, .int .i64 0] 25)) W5) := (HG2.out.trans HG3.out).trans HG5.out
      obtain ⟨g1, g2, g3, g4, hz5⟩ := two_boxes hlt HGT.out
      have k0 := g1 0
      have k1 := g1 1
      have k2 := g1 2
      have k3 := g1 3
      have k4 := g1 4
      have j0 := g2 0
      have j1 := g2 1
      have j2 := g2 2
      have j3 := g2 3
      have j4 := g2 4
      simp only [List.getElem?_toArray, List.getElem?_cons_zero, List.getElem?_cons_succ] at k0 k1 k2 k3 k4 j0 j1 j2 j3 j4
      have hwn : w.heap.size ≠ w.heap.size + 1 := by omega
      clear g1 g2
      refine Z_take (i := 6) (d := 46) (v := ?_) (Zs := []) rfl rfl (by kernel_rfl) (by kernel_rfl) (by kernel_rfl) (fun _ _ _ h => h) (fun _ => trivial) (by kernel_rfl) rfl ?_ (HKP.out _ _ HX5.out) ?_
      rotate_left
      · intro w hSw hC
        try dsimp only at hSw
        go_simp
        try with_reducible rfl
      try simp only [List.setIfInBounds_toArray, List.set_cons_zero, List.set_cons_succ]
      refine wpAnyZ_ready (rs := [7]) (by kernel_rfl) (by simp) ?_
      refine AllReadyZ.cons rfl (fun K hK => ?_) AllReadyZ.nil
      go_simp
      refine hK.out _ _ (HKP.out _ _ ((heap_far0 (by have := HDE.out; omega)).trans HX5.out)) (fun _ => ?_)
      clear hK K
      refine wpAnyZ_done (by kernel_rfl) ?_ _
      have HFIN : Hid (w2.heap.size = D ∧ D < w4.heap.size) := ⟨HDE.out, by omega⟩
      have HRW : Hid (Row W5 w4.heap.size 0 [y1, y2]) := row_two hD5
      clear hD5 HKP HX0 HX4 HX5 HRD HDE HGT
      go_wp2
      obtain ⟨a1, a2, a3, a4, a5⟩ := HY1.out
      obtain ⟨b1, b2, b3, b4, b5⟩ := HY2.out
      have hg45 := HB5.out.size
      refine bodyPost_ret (v := .agg #[.int .i64 (k : Int), .int .u64 0, .string ⟨#[]⟩, .slice (some ⟨w4.heap.size, 0, none⟩) 2 2, .int .i64 0]) (by simp [results, Tryd.results26, go_sem, k0, k1, k2, k3, k4]) rfl ⟨⟨.of (k : Int) 0 e0 (some ⟨w4.heap.size, 0, none⟩) 2 0 [y1, y2], by rw [V.l_of]; rfl, ?_⟩, ?_⟩
      · have hsa : ((w.alloc (.cells #[.int .i64 0, .int .u64 0, .string ⟨#[]⟩, .slice none 0 0, .int .i64 0] 25)).alloc (.cells #[.int .i64 (k : Int), .int .u64 0, .string ⟨#[]⟩, .slice none 0 0, .int .i64 0] 25)).heap.size = w.heap.size + 2 := by simp
        rw [hsa] at a2
        have hd3 : W3.drew.heap.size = W3.heap.size := rfl
        rw [hd3] at b2
        have hfin2 := HFIN.out
        have hg25 := HG3.out.trans HG5.out
        have ov : ∀ {b : Nat}, w.heap.size + 2 ≤ b → b ≠ w.heap.size ∧ b ≠ w.heap.size + 1 := fun {b} h => by omega
        refine ⟨by rw [V.t_of]; (try simp only at a1 b1); rw [← a1, ← b1]; rfl, LiesIn.mk ⟨by omega, by omega, by decide, by omega, by simp, by simp⟩ (fun _ => ⟨w4.heap.size, 0, rfl, ⟨by omega, by simp; omega⟩, fun i hi => ?_⟩) (fun x hx => ?_), ?_, by (try simp only at *); omega, by (try simp only at *); omega⟩
        · obtain ⟨r0, r1, r2, r3, r4⟩ := HRW.out i hi
          have o1 := (ov (b := w4.heap.size) (by omega)).1
          have o2 := (ov (b := w4.heap.size) (by omega)).2
          exact ⟨((cell_over _ o1).trans ((cell_over _ o1).trans ((cell_over _ o1).trans ((cell_over _ o1).trans ((cell_over _ o1).trans (cell_over _ o2)))))).trans r0, ((cell_over _ o1).trans ((cell_over _ o1).trans ((cell_over _ o1).trans ((cell_over _ o1).trans ((cell_over _ o1).trans (cell_over _ o2)))))).trans r1, ((cell_over _ o1).trans ((cell_over _ o1).trans ((cell_over _ o1).trans ((cell_over _ o1).trans ((cell_over _ o1).trans (cell_over _ o2)))))).trans r2, ((cell_over _ o1).trans ((cell_over _ o1).trans ((cell_over _ o1).trans ((cell_over _ o1).trans ((cell_over _ o1).trans (cell_over _ o2)))))).trans r3, ((cell_over _ o1).trans ((cell_over _ o1).trans ((cell_over _ o1).trans ((cell_over _ o1).trans ((cell_over _ o1).trans (cell_over _ o2)))))).trans r4⟩
        · rcases List.mem_cons.1 hx with rfl | hx
          · exact a2.keep (fun b hb o => ((cell_over _ (ov (b := b) (by omega)).1).trans ((cell_over _ (ov (b := b) (by omega)).1).trans ((cell_over _ (ov (b := b) (by omega)).1).trans ((cell_over _ (ov (b := b) (by omega)).1).trans ((cell_over _ (ov (b := b) (by omega)).1).trans (cell_over _ (ov (b := b) (by omega)).2)))))).trans (World.cell?_of_block (hg25.block b hb.2 (by simp; omega)))) (fun b hb => ⟨by omega, by simp; omega⟩)
          · obtain rfl : x = y2 := by simpa using hx
            exact b2.keep (fun b hb o => ((cell_over _ (ov (b := b) (by omega)).1).trans ((cell_over _ (ov (b := b) (by omega)).1).trans ((cell_over _ (ov (b := b) (by omega)).1).trans ((cell_over _ (ov (b := b) (by omega)).1).trans ((cell_over _ (ov (b := b) (by omega)).1).trans (cell_over _ (ov (b := b) (by omega)).2)))))).trans (World.cell?_of_block (HB5.out.block b hb.2))) (fun b hb => ⟨by omega, by simp; omega⟩)
        · exact RB.over (RB.over (RB.over (RB.over (RB.over (RB.over (b3.keep HB5.out) (by omega) _ _) (by omega) _ _) (by omega) _ _) (by omega) _ _) (by omega) _ _) (by omega) _ _
      · exact Gro.over (Gro.over (Gro.over (Gro.over (Gro.over (Gro.over (HGW.out _ HG5.out) (by omega) _ _) (by omega) _ _) (by omega) _ _) (by omega) _ _) (by omega) _ _) (by omega) _ _

end Go.Proofs.YtgpimajdcfoigabDoor
