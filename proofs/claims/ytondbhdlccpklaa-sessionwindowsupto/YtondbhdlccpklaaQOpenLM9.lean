import Derived.Test.YtondbhdlccpklaaQRgWM9
import Derived.Test.YtondbhdlccpklaaRows
import Derived.SizedLaws
import Derived.JoinedOf
import Derived.Test.YtondbhdlccpklaaQBgnM9
import Derived.Deep.MidRow

/- Stage 13: what came in: numbers. -/
namespace Go.Proofs.Ytondbhdlccpklaa
open Go.RowKit Go.ChangeShapes Go.WideShapes Go.ChangeAt
set_option linter.unusedVariables false
theorem own : ownKnob Try.prog.godebug = none := by kernel_rfl
theorem laidOut : laidOutB Try.prog = true := by kernel_rfl
theorem addr_add (b off j : Nat) : (⟨b, off, none⟩ : Addr).add j = ⟨b, off + j, none⟩ := by
  by_cases h : j = 0 <;> simp [Addr.add, h]
theorem Try.cellsI : Try.prog.cellsOf 3 = 1 := by kernel_rfl
theorem Try.bytesI : Try.prog.bytesOf 3 = 8 := by kernel_rfl
theorem weights_each {H : Type} {P : Program} {ts : List TypeId} {ds : List (DataW H)} (h : (DataW.weightsEach P ts ds).all (· ≤ reachBytes) = true) {j : Nat} {t : TypeId} {d : DataW H} (ht : ts[j]? = some t) (hd : ds[j]? = some d) :
    ∀ n ∈ d.weights P t, n ≤ reachBytes := fun n hn => by
  have := List.all_eq_true.1 h n (DataW.weights_mem_each ht hd n hn)
  simpa using this
theorem ints_fit {H : Type} {enc : TypeId × Value → H} {W : World} {a : Option Addr} {len cap fuel : Nat} {x : DataW H × List MemPlace}
    (hf : DataW.trod enc Try.prog W 0 (fun _ => true) true fuel 68 [.slice a len cap] = some x) (hw : ∀ n ∈ x.1.weights Try.prog 68, n ≤ reachBytes) : len ≤ 281474976710656 ∧ ∃ zs : List Int, Ri W a len zs ∧ ∀ j, j < len → wf64 (zs.getD j 0) := by
  rcases open_ints Try.underlying68 Try.underlying3 Try.cellsI hf with ⟨hcs, hx⟩ | ⟨y, l, c, zs, hcs, _, hl, hm, hz, hx, hcell, hwz⟩
  · simp at hcs
    obtain ⟨rfl, rfl, rfl⟩ := hcs
    exact ⟨by omega, [], fun h => by omega, fun j h => by omega⟩
  · simp at hcs
    obtain ⟨rfl, rfl, rfl⟩ := hcs
    simp only [if_true] at hz
    subst hx
    have h4 : (lits (H := H) .i64 (zs.take len)).length = len := by simp [lits]; omega
    have hwl : len ≤ 281474976710656 := by
      have := hw (((lits (H := H) .i64 (zs.take len)).length + _) * Try.prog.bytesOf 3) (by
        simp only [DataW.weights, Try.underlying68, List.mem_cons]
        exact .inl rfl)
      rw [Try.bytesI, h4] at this
      simp only [reachBytes] at this
      omega
    refine ⟨hwl, zs, fun hn => ?_, fun j hj => ?_⟩
    · obtain ⟨b, off, spot⟩ := y
      have hc := hcell 0 (by omega)
      have hspot : spot = none := by simpa [Addr.add] using World.cell?_spot hc
      subst hspot
      refine ⟨b, off, rfl, block_lt_of_cell hc, fun j hj => ?_⟩
      rw [← addr_add]
      exact hcell j (by omega)
    · have hjz : j < zs.length := by omega
      exact hwz (zs.getD j 0) (by rw [List.getD_eq_getElem?_getD, List.getElem?_eq_getElem hjz]; exact List.getElem_mem hjz)
end Go.Proofs.Ytondbhdlccpklaa


/- Stage 13: what came in: a step. -/
namespace Go.Proofs.Ytondbhdlccpklaa
open Go.RowKit Go.ChangeShapes Go.WideShapes Go.ChangeAt
set_option linter.unusedVariables false
theorem Try.cellsO : Try.prog.cellsOf 24 = 8 := by kernel_rfl
theorem Try.cellsS : Try.prog.cellsOf 9 = 1 := by kernel_rfl
theorem Try.cellsBo : Try.prog.cellsOf 4 = 1 := by kernel_rfl
theorem eight {α : Type} (l : List α) (h : l.length = 8) : ∃ a b c d e f g i, l = [a, b, c, d, e, f, g, i] := by
  match l, h with
  | [a, b, c, d, e, f, g, i], _ => exact ⟨a, b, c, d, e, f, g, i, rfl⟩
structure Opd.wf (o : Opd) : Prop where
  k : wf64 o.k
  a : wf64 o.a
  b : wf64 o.b
  c : wf64 o.c
  d : wf64 o.d
  e : wf64 o.e
set_option maxRecDepth 100000 in
theorem op_cells {H : Type} {enc : TypeId × Value → H} {W : World} {fuel : Nat} {cs : List Value} {x : DataW H × List MemPlace}
    (hf : DataW.trod enc Try.prog W 0 (fun _ => true) true fuel 24 cs = some x) : ∃ o : Opd, cs = o.cells.toList ∧ o.wf := by
  obtain ⟨xs, n, hfu, hx, hlen, hxl, hff⟩ := DataW.trod_struct Try.underlying24 hf
  rw [Try.cellsO] at hlen
  obtain ⟨c0, c1, c2, c3, c4, c5, c6, c7, rfl⟩ := eight _ hlen
  obtain ⟨x0, x1, x2, x3, x4, x5, x6, x7, rfl⟩ := eight xs hxl
  have f0 : DataW.trod enc Try.prog W 0 (fun _ => true) true n 3 ([c0, c1, c2, c3, c4, c5, c6, c7].take (Try.prog.cellsOf 3)) = some x0 := hff 0 _ rfl
  have f1 : DataW.trod enc Try.prog W 0 (fun _ => true) true n 3 ([c1, c2, c3, c4, c5, c6, c7].take (Try.prog.cellsOf 3)) = some x1 := hff 1 _ rfl
  have f2 : DataW.trod enc Try.prog W 0 (fun _ => true) true n 3 ([c2, c3, c4, c5, c6, c7].take (Try.prog.cellsOf 3)) = some x2 := hff 2 _ rfl
  have f3 : DataW.trod enc Try.prog W 0 (fun _ => true) true n 3 ([c3, c4, c5, c6, c7].take (Try.prog.cellsOf 3)) = some x3 := hff 3 _ rfl
  have f4 : DataW.trod enc Try.prog W 0 (fun _ => true) true n 3 ([c4, c5, c6, c7].take (Try.prog.cellsOf 3)) = some x4 := hff 4 _ rfl
  have f5 : DataW.trod enc Try.prog W 0 (fun _ => true) true n 3 ([c5, c6, c7].take (Try.prog.cellsOf 3)) = some x5 := hff 5 _ rfl
  have f6 : DataW.trod enc Try.prog W 0 (fun _ => true) true n 9 ([c6, c7].take (Try.prog.cellsOf 9)) = some x6 := hff 6 _ rfl
  have f7 : DataW.trod enc Try.prog W 0 (fun _ => true) true n 4 ([c7].take (Try.prog.cellsOf 4)) = some x7 := hff 7 _ rfl
  rw [Try.cellsI] at f0 f1 f2 f3 f4 f5
  rw [Try.cellsS] at f6
  rw [Try.cellsBo] at f7
  simp only [List.take_succ_cons, List.take_zero] at f0 f1 f2 f3 f4 f5 f6 f7
  obtain ⟨k, e0, _, w0⟩ := DataW.trod_int Try.underlying3 f0
  obtain ⟨a, e1, _, w1⟩ := DataW.trod_int Try.underlying3 f1
  obtain ⟨b, e2, _, w2⟩ := DataW.trod_int Try.underlying3 f2
  obtain ⟨c, e3, _, w3⟩ := DataW.trod_int Try.underlying3 f3
  obtain ⟨d, e4, _, w4⟩ := DataW.trod_int Try.underlying3 f4
  obtain ⟨e, e5, _, w5⟩ := DataW.trod_int Try.underlying3 f5
  obtain ⟨t, e6, _⟩ := DataW.trod_string Try.underlying9 f6
  obtain ⟨f, e7, _⟩ := DataW.trod_bool Try.underlying4 f7
  obtain rfl : c0 = .int .i64 k := by simpa using e0
  obtain rfl : c1 = .int .i64 a := by simpa using e1
  obtain rfl : c2 = .int .i64 b := by simpa using e2
  obtain rfl : c3 = .int .i64 c := by simpa using e3
  obtain rfl : c4 = .int .i64 d := by simpa using e4
  obtain rfl : c5 = .int .i64 e := by simpa using e5
  obtain rfl : c6 = .string t := by simpa using e6
  obtain rfl : c7 = .bool f := by simpa using e7
  exact ⟨⟨k, a, b, c, d, e, t, f⟩, rfl, ⟨w0, w1, w2, w3, w4, w5⟩⟩
set_option maxRecDepth 100000 in
theorem op_open {H : Type} {enc : TypeId × Value → H} {W : World} {base fuel : Nat} {v : Value} {x : DataW H × List MemPlace} (hval : Value.okWide Try.prog W .any base 24 v)
    (hf : DataW.trod enc Try.prog W 0 (fun _ => true) true fuel 24 v.cells.toList = some x) : ∃ o : Opd, v = .agg o.cells ∧ o.wf := by
  obtain ⟨cs, rfl, hcs⟩ := okWide_struct Try.underlying24 hval
  obtain ⟨o, h1, h2⟩ := op_cells hf
  refine ⟨o, ?_, h2⟩
  simp only [Value.cells] at h1
  congr 1
  cases cs
  simpa using congrArg List.toArray h1
end Go.Proofs.Ytondbhdlccpklaa


/- Stage 13: what came in: a list of steps. -/
namespace Go.Proofs.Ytondbhdlccpklaa
open Go.RowKit Go.ChangeShapes Go.WideShapes Go.ChangeAt
set_option linter.unusedVariables false
theorem Try.bytesO : Try.prog.bytesOf 24 = 72 := by kernel_rfl
/-- a list of steps that is read -/
def RO (w : World) (a : Option Addr) (n : Nat) (fs : Nat → Opd) : Prop := ∀ j, j < n → (∃ b off, a = some ⟨b, off, none⟩ ∧ b < w.heap.size ∧ w.rangeAt b (off + j * 8) (fs j).cells.toList) ∧ (fs j).wf
theorem ops_fit {H : Type} {enc : TypeId × Value → H} {W : World} {a : Option Addr} {len cap fuel : Nat} {x : DataW H × List MemPlace}
    (hf : DataW.trod enc Try.prog W 0 (fun _ => true) true fuel 50 [.slice a len cap] = some x) (hw : ∀ n ∈ x.1.weights Try.prog 50, n ≤ reachBytes) : len ≤ 1954687338211 ∧ ∃ fs : Nat → Opd, RO W a len fs := by
  have o0 : Opd := ⟨0, 0, 0, 0, 0, 0, ByteArray.empty, false⟩
  rcases DataW.trod_slice Try.underlying50 hf with ⟨e3, rfl⟩ | ⟨y, l, c, elems, rest, n', hn', e3, rfl, _, hlc, hcm, hel, hE, hR, _⟩
  · simp at e3
    obtain ⟨rfl, rfl, rfl⟩ := e3
    exact ⟨by omega, fun _ => o0, fun j hj => by omega⟩
  · simp at e3
    obtain ⟨rfl, rfl, rfl⟩ := e3
    have hwl : len ≤ 1954687338211 := by
      have := hw (((elems.map (·.1)).length + _) * Try.prog.bytesOf 24) (by
        simp only [DataW.weights, Try.underlying50, List.mem_cons]
        exact .inl rfl)
      rw [Try.bytesO, List.length_map, hel] at this
      simp only [reachBytes] at this
      omega
    rw [Try.cellsO] at hE
    have hpick : ∀ i, ∃ f : Opd, i < len → W.cells? 0 (y.add (i * 8)) 8 = some f.cells.toList ∧ f.wf := by
      intro i
      by_cases hi : i < len
      · have h1 := hE i hi
        rw [List.getElem?_eq_getElem (by omega)] at h1
        obtain ⟨ci, hci, hti⟩ := Option.bind_eq_some_iff.1 h1
        obtain ⟨f, rfl, q1⟩ := op_cells hti
        exact ⟨f, fun _ => ⟨hci, q1⟩⟩
      · exact ⟨o0, fun h => absurd h hi⟩
    obtain ⟨fs, hfv⟩ := Classical.axiomOfChoice hpick
    refine ⟨hwl, fs, fun j hj => ⟨?_, (hfv j hj).2⟩⟩
    obtain ⟨pb, po, spot⟩ := y
    have hc0 : W.cell? (((⟨pb, po, spot⟩ : Addr).add (0 * 8)).add 0) = some (.int .i64 (fs 0).k) := (World.cells?_some (hfv 0 (by omega)).1).2.2 0 (by omega)
    have hspot : spot = none := by simpa [Addr.add] using World.cell?_spot hc0
    subst hspot
    refine ⟨pb, po, rfl, by have := World.cells?_block (hfv j hj).1 (by omega); rwa [addr_add] at this, fun q v hv => ?_⟩
    have hc := (World.cells?_some (hfv j hj).1).2.2
    have hq : q < 8 := (List.getElem?_eq_some_iff.1 hv).1
    have := hc q hq
    rw [addr_add, addr_add] at this
    rw [this]
    exact hv
end Go.Proofs.Ytondbhdlccpklaa
