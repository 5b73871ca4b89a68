
/- Stage 13: what came in: a step. -/
import Derived.Test.YtondbhdlccpklaaQOpen
import Derived.Test.YtondbhdlccpklaaQBgn
namespace Go.Proofs.Ytondbhdlccpklaa
open Go.RowKit Go.ChangeShapes Go.WideShapes Go.ChangeAt
set_option linter.unusedVariables false
theorem Try.cellsO : Try.prog.cellsOf 24 = 8 := by kernel_rfl
theorem Try.cellsS : Try.prog.cellsOf 9 = 1 := by kernel_rfl
theorem Try.cellsBo : Try.prog.cellsOf 4 = 1 := by kernel_rfl
theorem eight {α : Type} (l : List α) (h : l.length = 8) : ∃ a b c d e f g i, l = [a, b, c, d, e, f, g, i] := by
  match l, h with
  | [a, b, c, d, e, f, g, i], _ => exact ⟨a, b, c, d, e, f, g, i, rfl⟩
structure Opd.wf (o : Opd) : Prop where
  k : wf64 o.k
  a : wf64 o.a
  b : wf64 o.b
  c : wf64 o.c
  d : wf64 o.d
  e : wf64 o.e
set_option maxRecDepth 100000 in
theorem op_cells {H : Type} {enc : TypeId × Value → H} {W : World} {fuel : Nat} {cs : List Value} {x : DataW H × List MemPlace}
    (hf : DataW.trod enc Try.prog W 0 (fun _ => true) true fuel 24 cs = some x) : ∃ o : Opd, cs = o.cells.toList ∧ o.wf := by
  obtain ⟨xs, n, hfu, hx, hlen, hxl, hff⟩ := DataW.trod_struct Try.underlying24 hf
  rw [Try.cellsO] at hlen
  obtain ⟨c0, c1, c2, c3, c4, c5, c6, c7, rfl⟩ := eight _ hlen
  obtain ⟨x0, x1, x2, x3, x4, x5, x6, x7, rfl⟩ := eight xs hxl
  have f0 : DataW.trod enc Try.prog W 0 (fun _ => true) true n 3 ([c0, c1, c2, c3, c4, c5, c6, c7].take (Try.prog.cellsOf 3)) = some x0 := hff 0 _ rfl
  have f1 : DataW.trod enc Try.prog W 0 (fun _ => true) true n 3 ([c1, c2, c3, c4, c5, c6, c7].take (Try.prog.cellsOf 3)) = some x1 := hff 1 _ rfl
  have f2 : DataW.trod enc Try.prog W 0 (fun _ => true) true n 3 ([c2, c3, c4, c5, c6, c7].take (Try.prog.cellsOf 3)) = some x2 := hff 2 _ rfl
  have f3 : DataW.trod enc Try.prog W 0 (fun _ => true) true n 3 ([c3, c4, c5, c6, c7].take (Try.prog.cellsOf 3)) = some x3 := hff 3 _ rfl
  have f4 : DataW.trod enc Try.prog W 0 (fun _ => true) true n 3 ([c4, c5, c6, c7].take (Try.prog.cellsOf 3)) = some x4 := hff 4 _ rfl
  have f5 : DataW.trod enc Try.prog W 0 (fun _ => true) true n 3 ([c5, c6, c7].take (Try.prog.cellsOf 3)) = some x5 := hff 5 _ rfl
  have f6 : DataW.trod enc Try.prog W 0 (fun _ => true) true n 9 ([c6, c7].take (Try.prog.cellsOf 9)) = some x6 := hff 6 _ rfl
  have f7 : DataW.trod enc Try.prog W 0 (fun _ => true) true n 4 ([c7].take (Try.prog.cellsOf 4)) = some x7 := hff 7 _ rfl
  rw [Try.cellsI] at f0 f1 f2 f3 f4 f5
  rw [Try.cellsS] at f6
  rw [Try.cellsBo] at f7
  simp only [List.take_succ_cons, List.take_zero] at f0 f1 f2 f3 f4 f5 f6 f7
  obtain ⟨k, e0, _, w0⟩ := DataW.trod_int Try.underlying3 f0
  obtain ⟨a, e1, _, w1⟩ := DataW.trod_int Try.underlying3 f1
  obtain ⟨b, e2, _, w2⟩ := DataW.trod_int Try.underlying3 f2
  obtain ⟨c, e3, _, w3⟩ := DataW.trod_int Try.underlying3 f3
  obtain ⟨d, e4, _, w4⟩ := DataW.trod_int Try.underlying3 f4
  obtain ⟨e, e5, _, w5⟩ := DataW.trod_int Try.underlying3 f5
  obtain ⟨t, e6, _⟩ := DataW.trod_string Try.underlying9 f6
  obtain ⟨f, e7, _⟩ := DataW.trod_bool Try.underlying4 f7
  obtain rfl : c0 = .int .i64 k := by simpa using e0
  obtain rfl : c1 = .int .i64 a := by simpa using e1
  obtain rfl : c2 = .int .i64 b := by simpa using e2
  obtain rfl : c3 = .int .i64 c := by simpa using e3
  obtain rfl : c4 = .int .i64 d := by simpa using e4
  obtain rfl : c5 = .int .i64 e := by simpa using e5
  obtain rfl : c6 = .string t := by simpa using e6
  obtain rfl : c7 = .bool f := by simpa using e7
  exact ⟨⟨k, a, b, c, d, e, t, f⟩, rfl, ⟨w0, w1, w2, w3, w4, w5⟩⟩
set_option maxRecDepth 100000 in
theorem op_open {H : Type} {enc : TypeId × Value → H} {W : World} {base fuel : Nat} {v : Value} {x : DataW H × List MemPlace} (hval : Value.okWide Try.prog W .any base 24 v)
    (hf : DataW.trod enc Try.prog W 0 (fun _ => true) true fuel 24 v.cells.toList = some x) : ∃ o : Opd, v = .agg o.cells ∧ o.wf := by
  obtain ⟨cs, rfl, hcs⟩ := okWide_struct Try.underlying24 hval
  obtain ⟨o, h1, h2⟩ := op_cells hf
  refine ⟨o, ?_, h2⟩
  simp only [Value.cells] at h1
  congr 1
  cases cs
  simpa using congrArg List.toArray h1
end Go.Proofs.Ytondbhdlccpklaa
