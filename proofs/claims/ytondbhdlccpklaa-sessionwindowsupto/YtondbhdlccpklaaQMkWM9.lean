import Derived.Test.YtondbhdlccpklaaQRefFM9
import Derived.Test.YtondbhdlccpklaaQSstM9
import Derived.Test.YtondbhdlccpklaaQSflM9

/- SessionMakes: the walk. -/
namespace Go.Proofs.Ytondbhdlccpklaa
open Go.RowKit Go.Maps
set_option linter.unusedVariables false
set_option linter.unusedSimpArgs false

theorem begin_pf (o : Opd) : PfB o.begin o.bk 0 o.b o.a o.c o.d := pfA_pf ..
theorem begin_size (o : Opd) : (Try.prog.info? 39).map (·.size) = some o.begin.size := pfI ..
theorem begin_one (o : Opd) : o.begin.all (·.oneCell') = true := pfA_one ..
theorem begin_zero (o : Opd) : Try.zeroCells39.size = o.begin.size := pfZ ..
def fl0 (iw no ow : Int) : Array Value := pfA 19 0 (-1) iw no ow 0 (-1) (-1) (-1) (-1) false
theorem fl0_size (iw no ow : Int) : (Try.prog.info? 39).map (·.size) = some (fl0 iw no ow).size := pfI ..
theorem fl0_one (iw no ow : Int) : (fl0 iw no ow).all (·.oneCell') = true := pfA_one ..
theorem fl0_zero (iw no ow : Int) : Try.zeroCells39.size = (fl0 iw no ow).size := pfZ ..
theorem new_flow (iw no ow hm : Int) (n : Nat) : (newSn iw no ow hm n).flow = fl0 iw no ow := rfl
theorem RB.any {w : World} {g : Nat} {iw no ow hm : Int} {n m : Nat} {vh vr vs va : Value} (h : RB w g (newSn iw no ow hm n) vh vr vs va) : RB w g (newSn iw no ow hm m) vh vr vs va := h
set_option maxRecDepth 100000 in
set_option maxHeartbeats 8000000 in
theorem makes_walk (o : Opd) (w : World) : Calls Try.prog 4 #[.agg o.cells] w fun e w' => e = .returned (.bool true) ∧ Below w.heap.size w w' := by
  obtain ⟨V0, hV0⟩ : ∃ V0, w.alloc (.cells o.cells 24) = V0 := ⟨_, rfl⟩
  have HV0 := hide hV0
  have HN0 : Hid (V0.heap[w.heap.size]? = some (.cells o.cells 24 (0, 0))) := hV0 ▸ heap_alloc_last w _
  have HB0 : Hid (Below w.heap.size w V0) := hV0 ▸ bel1 (Below.refl _ _) (Nat.le_refl _) _
  have hop : Hid ((Try.prog.info? 24).map (·.size) = some o.cells.size) := by show _ = _; kernel_rfl
  clear hV0
  go_enter Try.func4, Try.ntmps4
  go_wp2_with fail
  rw [HV0.out]
  refine (live_any V0).mono ?_
  rintro e1 w1 ⟨rfl, b1⟩
  have HN1 : Hid (w1.heap[w.heap.size]? = some (.cells o.cells 24 (0, 0))) := (b1.block _ (Array.getElem?_eq_some_iff.1 HN0.out).1).trans HN0.out
  have HB1 : Hid (Below w.heap.size w w1) := belOn HB0.out HB0.out.size b1
  clear b1
  go_wp2_with (refine wpList_load_row rfl 24 (.tmp 1) rfl w.heap.size rfl 24 o.cells (0, 0) _ HN1.out Try.underlying24 rfl hop.out ?_)
  refine (begin_any o w1).mono ?_
  rintro e2 w2 ⟨rfl, b2⟩
  obtain ⟨V2, hV2⟩ : ∃ V2, w2.alloc (.cells o.begin 39) = V2 := ⟨_, rfl⟩
  have HV2 := hide hV2
  have HN2 : Hid (V2.heap[w2.heap.size]? = some (.cells o.begin 39 (0, 0))) := hV2 ▸ heap_alloc_last w2 _
  have HB2 : Hid (Below w.heap.size w V2) := hV2 ▸ bel1 (belOn HB1.out HB1.out.size b2) (by have := HB1.out.size; have := b2.size; omega) _
  clear hV2 b2
  go_wp2_with (first | (refine wpList_store_row rfl 39 (.tmp 4) (.tmp 13) rfl w2.heap.size o.begin rfl rfl 39 _ (heap_alloc_last w2 _) (begin_size o) (begin_zero o) (begin_one o) ?_; rw [World.setRow_alloc_new, HV2.out]) | (refine wpList_load_row rfl 39 (.tmp 4) rfl w2.heap.size rfl 39 o.begin (0, 0) _ HN2.out Try.underlying39 rfl (begin_size o) ?_))
  cases hf : four o.bk o.b o.a o.c o.d
  · refine (new_no o.begin o.bk 0 o.b o.a o.c o.d (begin_pf o) hf V2).mono ?_
    rintro e3 w3 ⟨rfl, b3⟩
    have HN3 : Hid (w3.heap[w2.heap.size]? = some (.cells o.begin 39 (0, 0))) := (b3.block _ (Array.getElem?_eq_some_iff.1 HN2.out).1).trans HN2.out
    have HB3 : Hid (Below w.heap.size w w3) := belOn HB2.out HB2.out.size b3
    have HR := hide (rnew_no o.begin o.bk 0 o.b o.a o.c o.d (begin_pf o) hf w3)
    clear b3 hf
    go_wp2_with (first | (refine wpList_load_row rfl 39 (.tmp 4) rfl w2.heap.size rfl 39 o.begin (0, 0) _ HN3.out Try.underlying39 rfl (begin_size o) ?_) | (go_at_call 12; refine HR.out.mono ?_; rintro e4 w4 ⟨rfl, b4⟩))
    go_ret
    exact ⟨rfl, belOn HB3.out HB3.out.size b4⟩
  · refine (new_yes o.begin o.bk 0 o.b o.a o.c o.d (begin_pf o) hf V2).mono ?_
    rintro e3 w3 ⟨n, rfl, hn, hses, b3⟩
    have HN3 : Hid (w3.heap[w2.heap.size]? = some (.cells o.begin 39 (0, 0))) := (b3.block _ (Array.getElem?_eq_some_iff.1 HN2.out).1).trans HN2.out
    have HB3 : Hid (Below w.heap.size w w3) := belOn HB2.out HB2.out.size b3
    have HS3 := hide hses
    have HR := hide (rnew_yes o.begin o.bk 0 o.b o.a o.c o.d (begin_pf o) hf w3)
    clear b3 hf hses hn
    go_wp2_with (refine wpList_load_row rfl 39 (.tmp 4) rfl w2.heap.size rfl 39 o.begin (0, 0) _ HN3.out Try.underlying39 rfl (begin_size o) ?_)
    refine HR.out.mono ?_
    rintro e4 w4 ⟨g', rfl, hg', hrb, b4⟩
    have HS4 := hide (HS3.out.below b4)
    have HB4 : Hid (Below w.heap.size w w4) := belOn HB3.out HB3.out.size b4
    have HR4 : Hid (RB w4 g' (newSn o.b o.a o.c o.d n) nilS nilS nilS nilS) := hrb.any
    have HSt := hide (sameState_any (n + 4) g' (newSn o.b o.a o.c o.d n) [] [] nilS nilS none none 0 0 w4 HS4.out.sb HS4.out.ts HS4.out.tc HR4.out)
    clear b4 hrb hg' HR HN3 HS3 HB3 HN2 HB2
    go_wp2_with fail
    refine HSt.out.mono ?_
    rintro e5 w5 ⟨rfl, b5⟩
    have HS5 := hide (HS4.out.below b5)
    have HR5 := hide (HR4.out.at (b5.block _ HR4.out.lt))
    have HB5 : Hid (Below w.heap.size w w5) := belOn HB4.out HB4.out.size b5
    have HF5 := hide (fields_any (n + 4) (newSn o.b o.a o.c o.d n) w5 HS5.out.sb)
    rw [new_flow] at HF5
    clear b5 HSt HS4 HR4 HB4
    go_wp2_with fail
    refine HF5.out.mono ?_
    rintro e6 w6 ⟨rfl, b6⟩
    obtain ⟨V6, hV6⟩ : ∃ V6, w6.alloc (.cells (fl0 o.b o.a o.c) 39) = V6 := ⟨_, rfl⟩
    have HV6 := hide hV6
    have hb6 : Below w5.heap.size w5 V6 := hV6 ▸ bel1 b6 b6.size _
    have HN6 : Hid (V6.heap[w6.heap.size]? = some (.cells (fl0 o.b o.a o.c) 39 (0, 0))) := hV6 ▸ heap_alloc_last w6 _
    have HS6 := hide (HS5.out.below hb6)
    have HR6 := hide (HR5.out.at (hb6.block _ HR5.out.lt))
    have HB6 : Hid (Below w.heap.size w V6) := belOn HB5.out HB5.out.size hb6
    have HG6 := hide (rfields_any g' (newSn o.b o.a o.c o.d n) nilS nilS nilS nilS V6 HR6.out)
    rw [new_flow] at HG6
    clear b6 hb6 hV6 HF5 HS5 HR5 HB5
    go_wp2_with (refine wpList_store_row rfl 39 (.tmp 8) (.tmp 36) rfl w6.heap.size (fl0 o.b o.a o.c) rfl rfl 39 _ (heap_alloc_last w6 _) (fl0_size ..) (fl0_zero ..) (fl0_one ..) ?_; rw [World.setRow_alloc_new, HV6.out])
    refine HG6.out.mono ?_
    rintro e7 w7 ⟨rfl, b7⟩
    obtain ⟨V7, hV7⟩ : ∃ V7, w7.alloc (.cells (fl0 o.b o.a o.c) 39) = V7 := ⟨_, rfl⟩
    have HV7 := hide hV7
    have hb7 : Below V6.heap.size V6 V7 := hV7 ▸ bel1 b7 b7.size _
    have HN7 : Hid (V7.heap[w7.heap.size]? = some (.cells (fl0 o.b o.a o.c) 39 (0, 0))) := hV7 ▸ heap_alloc_last w7 _
    have HM7 : Hid (V7.heap[w6.heap.size]? = some (.cells (fl0 o.b o.a o.c) 39 (0, 0))) := (hb7.block _ (Array.getElem?_eq_some_iff.1 HN6.out).1).trans HN6.out
    have HS7 := hide (HS6.out.below hb7)
    have HB7 : Hid (Below w.heap.size w V7) := belOn HB6.out HB6.out.size hb7
    have HSf : Hid (Calls Try.prog 16 #[.agg (fl0 o.b o.a o.c), .agg (fl0 o.b o.a o.c)] V7 fun e w' => e = .returned (.bool true) ∧ Below V7.heap.size V7 w') := sameFlow_any (-1) o.b o.a o.c V7
    clear b7 hb7 hV7 HG6 HS6 HR6 HB6 HN6
    go_wp2_with (first | (refine wpList_store_row rfl 39 (.tmp 9) (.tmp 38) rfl w7.heap.size (fl0 o.b o.a o.c) rfl rfl 39 _ (heap_alloc_last w7 _) (fl0_size ..) (fl0_zero ..) (fl0_one ..) ?_; rw [World.setRow_alloc_new, HV7.out]) | (refine wpList_load_row rfl 39 (.tmp 8) rfl w6.heap.size rfl 39 (fl0 o.b o.a o.c) (0, 0) _ HM7.out Try.underlying39 rfl (fl0_size ..) ?_) | (refine wpList_load_row rfl 39 (.tmp 9) rfl w7.heap.size rfl 39 (fl0 o.b o.a o.c) (0, 0) _ HN7.out Try.underlying39 rfl (fl0_size ..) ?_))
    refine HSf.out.mono ?_
    rintro e8 w8 ⟨rfl, b8⟩
    have HS8 := hide (HS7.out.below b8)
    have HB8 : Hid (Below w.heap.size w w8) := belOn HB7.out HB7.out.size b8
    have HRm : Hid (Calls Try.prog 17 #[.pointer (some ⟨n + 4, 0, none⟩)] w8 fun e w' => e = .returned (.int .i64 0) ∧ Below w8.heap.size w8 w') := room_any (n + 4) (newSn o.b o.a o.c o.d n) w8 HS8.out.sb
    clear b8 HSf HS7 HB7 HN7 HM7
    go_wp2_with (go_at_call 17; refine HRm.out.mono ?_; rintro e9 w9 ⟨rfl, b9⟩)
    go_ret
    exact ⟨rfl, belOn HB8.out HB8.out.size b9⟩
end Go.Proofs.Ytondbhdlccpklaa
