
/- Stage 19: what came in: operations; when the power fails. -/
import Derived.Test.YtgkpjgahdphaoaaDLast
import Derived.Test.YtgkpjgahdphaoaaRows
import Derived.SizedLaws
import Derived.JoinedOf
import Derived.WalkKit
import Derived.ProofKit
import Derived.OpenShut
namespace Go.Proofs.Ytgkpjgahdphaoaa
open Go.RowKit Go.ChangeShapes Go.WideShapes Go.ChangeAt
set_option linter.unusedVariables false
theorem own : ownKnob Try.prog.godebug = none := by kernel_rfl
theorem laidOut : laidOutB Try.prog = true := by kernel_rfl
theorem Try.cellsI : Try.prog.cellsOf 3 = 1 := by kernel_rfl
theorem Try.cellsS : Try.prog.cellsOf 9 = 1 := by kernel_rfl
theorem Try.cells5 : Try.prog.cellsOf 5 = 1 := by kernel_rfl
theorem Try.cellsB : Try.prog.cellsOf 34 = 1 := by kernel_rfl
theorem Try.cellsFa : Try.prog.cellsOf 53 = 2 := by kernel_rfl
theorem Try.cellsOp : Try.prog.cellsOf 36 = 7 := by kernel_rfl
theorem Try.bytesOp : Try.prog.bytesOf 36 = 88 := by kernel_rfl
theorem weights_each {H : Type} {P : Program} {ts : List TypeId} {ds : List (DataW H)} (h : (DataW.weightsEach P ts ds).all (· ≤ reachBytes) = true) {j : Nat} {t : TypeId} {d : DataW H} (ht : ts[j]? = some t) (hd : ds[j]? = some d) :
    ∀ n ∈ d.weights P t, n ≤ reachBytes := fun n hn => by
  have := List.all_eq_true.1 h n (DataW.weights_mem_each ht hd n hn)
  simpa using this
theorem wf_u8 {n : Int} (h : (Lit.int .u8 n).wf = true) : 0 ≤ n ∧ n ≤ 255 := by
  simpa [Lit.wf, IntKind.min, IntKind.max, IntKind.signed, IntKind.bits] using h
theorem wf_i64 {n : Int} (h : (Lit.int .i64 n).wf = true) : -9223372036854775808 ≤ n ∧ n ≤ 9223372036854775807 := by
  simpa [Lit.wf, IntKind.min, IntKind.max, IntKind.signed, IntKind.bits] using h
theorem add_none (b off j : Nat) : (⟨b, off, none⟩ : Addr).add j = ⟨b, off + j, none⟩ := by
  by_cases h : j = 0 <;> simp [Addr.add, h]
theorem Rd.of_cells {W : World} {x : Addr} {len cap : Nat} {zs : List Int} (hl : len ≤ cap) (hz : zs.length = cap)
    (hcell : ∀ i, i < zs.length → W.cell? (x.add i) = some (.int .u8 (zs.getD i 0))) (hwz : ∀ n ∈ zs, (Lit.int .u8 n).wf = true) :
    Rd W (some x) len ((zs.take len).map Int.toNat) := by
  have hb : ∀ n ∈ zs, 0 ≤ n ∧ n ≤ 255 := fun n hn => wf_u8 (hwz n hn)
  refine ⟨by simp; omega, ?_, fun hn => ?_⟩
  · intro c hc
    obtain ⟨n, hn, rfl⟩ := List.mem_map.1 hc
    have := hb n (List.mem_of_mem_take hn)
    omega
  · obtain ⟨b, off, spot⟩ := x
    have hc := hcell 0 (by omega)
    have hspot : spot = none := by simpa [Addr.add] using World.cell?_spot hc
    subst hspot
    refine ⟨b, off, rfl, block_lt_of_cell hc, fun j hj => ?_⟩
    have hcj := hcell j (by omega)
    have hcj' : W.cell? ⟨b, off + j, none⟩ = some (.int .u8 (zs.getD j 0)) := by rw [← add_none]; exact hcj
    rw [hcj']
    have hjz : j < zs.length := by omega
    have h0 := hb zs[j] (List.getElem_mem _)
    have e1 : zs.getD j 0 = zs[j] := by rw [List.getD_eq_getElem?_getD, List.getElem?_eq_getElem hjz]; rfl
    have e2 : ((zs.take len).map Int.toNat).getD j 0 = zs[j].toNat := by
      simp [List.getD_eq_getElem?_getD, hj, List.getElem?_eq_getElem hjz]
    rw [e1, e2]
    congr 2
    omega
/-- a list of bytes that came in -/
theorem bytes_row {H : Type} {enc : TypeId × Value → H} {W : World} {fuel : Nat} {c : Value} {x : DataW H × List MemPlace}
    (hf : DataW.trod enc Try.prog W 0 (fun _ => true) true fuel 34 [c] = some x) :
    ∃ a len cap, c = .slice a len cap ∧ ∃ l : List Nat, Rd W a len l ∧ len ≤ cap ∧ (a = none → cap = 0) := by
  rcases open_ints Try.underlying34 Try.underlying5 Try.cells5 hf with ⟨hcs, hx⟩ | ⟨y, l, c', zs, hcs, _, hl, hm, hz, hx, hcell, hwz⟩
  · obtain rfl : c = .slice none 0 0 := by simpa using hcs
    exact ⟨none, 0, 0, rfl, [], ⟨rfl, by simp, by omega⟩, Nat.le_refl _, fun _ => rfl⟩
  · obtain rfl : c = .slice (some y) l c' := by simpa using hcs
    simp only [if_true] at hz
    exact ⟨_, _, _, rfl, _, Rd.of_cells hl hz hcell hwz, hl, fun h => by cases h⟩
theorem seven {α : Type} (l : List α) (h : l.length = 7) : ∃ a b c d e f g, l = [a, b, c, d, e, f, g] := by
  match l, h with
  | [a, b, c, d, e, f, g], _ => exact ⟨a, b, c, d, e, f, g, rfl⟩
theorem two {α : Type} (l : List α) (h : l.length = 2) : ∃ a b, l = [a, b] := by
  match l, h with
  | [a, b], _ => exact ⟨a, b, rfl⟩
def OqOk (W : World) (o : Oq) : Prop := Rb W (.slice o.a o.l.length o.c) o.l
set_option maxRecDepth 100000 in
theorem op_fit {H : Type} {enc : TypeId × Value → H} {W : World} {fuel : Nat} {cs : List Value} {x : DataW H × List MemPlace}
    (hf : DataW.trod enc Try.prog W 0 (fun _ => true) true fuel 36 cs = some x) : ∃ o : Oq, cs = o.cells.toList ∧ OqOk W o := by
  obtain ⟨xs, n, hfu, hx, hlen, hxl, hff⟩ := DataW.trod_struct Try.underlying36 hf
  rw [Try.cellsOp] at hlen
  obtain ⟨c0, c1, c2, c3, c4, c5, c6, rfl⟩ := seven _ hlen
  obtain ⟨x0, x1, x2, x3, x4, x5, x6, rfl⟩ := seven xs hxl
  have f0 : DataW.trod enc Try.prog W 0 (fun _ => true) true n 3 ([c0, c1, c2, c3, c4, c5, c6].take (Try.prog.cellsOf 3)) = some x0 := hff 0 _ rfl
  have f1 : DataW.trod enc Try.prog W 0 (fun _ => true) true n 3 ([c1, c2, c3, c4, c5, c6].take (Try.prog.cellsOf 3)) = some x1 := hff 1 _ rfl
  have f2 : DataW.trod enc Try.prog W 0 (fun _ => true) true n 3 ([c2, c3, c4, c5, c6].take (Try.prog.cellsOf 3)) = some x2 := hff 2 _ rfl
  have f3 : DataW.trod enc Try.prog W 0 (fun _ => true) true n 3 ([c3, c4, c5, c6].take (Try.prog.cellsOf 3)) = some x3 := hff 3 _ rfl
  have f4 : DataW.trod enc Try.prog W 0 (fun _ => true) true n 9 ([c4, c5, c6].take (Try.prog.cellsOf 9)) = some x4 := hff 4 _ rfl
  have f5 : DataW.trod enc Try.prog W 0 (fun _ => true) true n 9 ([c5, c6].take (Try.prog.cellsOf 9)) = some x5 := hff 5 _ rfl
  have f6 : DataW.trod enc Try.prog W 0 (fun _ => true) true n 34 ([c6].take (Try.prog.cellsOf 34)) = some x6 := hff 6 _ rfl
  rw [Try.cellsI] at f0 f1 f2 f3
  rw [Try.cellsS] at f4 f5
  rw [Try.cellsB] at f6
  simp only [List.take_succ_cons, List.take_zero] at f0 f1 f2 f3 f4 f5 f6
  obtain ⟨v0, e0, _, _⟩ := DataW.trod_int Try.underlying3 f0
  obtain ⟨v1, e1, _, _⟩ := DataW.trod_int Try.underlying3 f1
  obtain ⟨v2, e2, _, _⟩ := DataW.trod_int Try.underlying3 f2
  obtain ⟨v3, e3, _, _⟩ := DataW.trod_int Try.underlying3 f3
  obtain ⟨s4, e4, _, _⟩ := DataW.trod_string Try.underlying9 f4
  obtain ⟨s5, e5, _, _⟩ := DataW.trod_string Try.underlying9 f5
  obtain ⟨a, na, ca, e6, l, r1, r2, r3⟩ := bytes_row f6
  obtain rfl : c0 = .int .i64 v0 := by simpa using e0
  obtain rfl : c1 = .int .i64 v1 := by simpa using e1
  obtain rfl : c2 = .int .i64 v2 := by simpa using e2
  obtain rfl : c3 = .int .i64 v3 := by simpa using e3
  obtain rfl : c4 = .string s4 := by simpa using e4
  obtain rfl : c5 = .string s5 := by simpa using e5
  subst e6
  obtain rfl : l.length = na := r1.1
  exact ⟨⟨v0, v1, v2, v3, s4, s5, a, l, ca⟩, rfl, a, ca, rfl, r3, r2, r1⟩
theorem ops_fit {H : Type} {enc : TypeId × Value → H} {W : World} {a : Option Addr} {len cap fuel : Nat} {x : DataW H × List MemPlace}
    (hf : DataW.trod enc Try.prog W 0 (fun _ => true) true fuel 22 [.slice a len cap] = some x) (hw : ∀ n ∈ x.1.weights Try.prog 22, n ≤ reachBytes) : len ≤ 1700000000000 ∧ len ≤ cap ∧ ∃ g : Nat → Oq, RO W a len g := by
  have o0 : Oq := ⟨0, 0, 0, 0, ⟨#[]⟩, ⟨#[]⟩, none, [], 0⟩
  rcases DataW.trod_slice Try.underlying22 hf with ⟨e3, rfl⟩ | ⟨y, l, c, elems, rest, n', hn', e3, rfl, _, hlc, hcm, hel, hE, hR, _⟩
  · simp at e3
    obtain ⟨rfl, rfl, rfl⟩ := e3
    exact ⟨by omega, Nat.le_refl _, fun _ => o0, fun j hj => by omega⟩
  · simp at e3
    obtain ⟨rfl, rfl, rfl⟩ := e3
    have hwl : len ≤ 1700000000000 := by
      have := hw (((elems.map (·.1)).length + _) * Try.prog.bytesOf 36) (by
        simp only [DataW.weights, Try.underlying22, List.mem_cons]
        exact .inl rfl)
      rw [Try.bytesOp, List.length_map, hel] at this
      simp only [reachBytes] at this
      omega
    rw [Try.cellsOp] at hE
    have hpick : ∀ i, ∃ g : Oq, i < len → W.cells? 0 (y.add (i * 7)) 7 = some g.cells.toList ∧ OqOk W g := by
      intro i
      by_cases hi : i < len
      · have h1 := hE i hi
        rw [List.getElem?_eq_getElem (by omega)] at h1
        obtain ⟨ci, hci, hti⟩ := Option.bind_eq_some_iff.1 h1
        obtain ⟨g, rfl, hg⟩ := op_fit hti
        exact ⟨g, fun _ => ⟨hci, hg⟩⟩
      · exact ⟨o0, fun h => absurd h hi⟩
    obtain ⟨fs, hfv⟩ := Classical.axiomOfChoice hpick
    refine ⟨hwl, hlc, fs, fun j hj => ⟨?_, (hfv j hj).2⟩⟩
    obtain ⟨pb, po, spot⟩ := y
    have hc0 : W.cell? (((⟨pb, po, spot⟩ : Addr).add (0 * 7)).add 0) = some (.int .i64 (fs 0).k) := (World.cells?_some (hfv 0 (by omega)).1).2.2 0 (by omega)
    have hspot : spot = none := by simpa [Addr.add] using World.cell?_spot hc0
    subst hspot
    refine ⟨pb, po, rfl, by have := World.cells?_block (hfv j hj).1 (by omega); rwa [add_none] at this, fun q v hv => ?_⟩
    have hc := (World.cells?_some (hfv j hj).1).2.2
    have hq : q < 7 := (List.getElem?_eq_some_iff.1 hv).1
    have := hc q hq
    rw [add_none, add_none] at this
    rw [this]
    exact hv
set_option maxRecDepth 100000 in
theorem fails_open {H : Type} {enc : TypeId × Value → H} {W : World} {base fuel : Nat} {v : Value} {x : DataW H × List MemPlace} (hval : Value.okWide Try.prog W .any base 53 v)
    (hf : DataW.trod enc Try.prog W 0 (fun _ => true) true fuel 53 v.cells.toList = some x) : ∃ p q : Int, v = .agg #[.int .i64 p, .int .i64 q] ∧ (-9223372036854775808 ≤ p ∧ p < 9223372036854775808) ∧ (-9223372036854775808 ≤ q ∧ q < 9223372036854775808) := by
  obtain ⟨cs, rfl, hcs⟩ := okWide_struct Try.underlying53 hval
  obtain ⟨xs, n, hfu, hx, hlen, hxl, hff⟩ := DataW.trod_struct Try.underlying53 hf
  rw [Try.cellsFa] at hlen
  obtain ⟨c0, c1, hcl⟩ := two _ hlen
  rw [hcl] at hff
  obtain ⟨x0, x1, rfl⟩ := two xs hxl
  have f0 : DataW.trod enc Try.prog W 0 (fun _ => true) true n 3 ([c0, c1].take (Try.prog.cellsOf 3)) = some x0 := hff 0 _ rfl
  have f1 : DataW.trod enc Try.prog W 0 (fun _ => true) true n 3 ([c1].take (Try.prog.cellsOf 3)) = some x1 := hff 1 _ rfl
  rw [Try.cellsI] at f0 f1
  simp only [List.take_succ_cons, List.take_zero] at f0 f1
  obtain ⟨p, e0, _, w0⟩ := DataW.trod_int Try.underlying3 f0
  obtain ⟨q, e1, _, w1⟩ := DataW.trod_int Try.underlying3 f1
  obtain rfl : c0 = .int .i64 p := by simpa using e0
  obtain rfl : c1 = .int .i64 q := by simpa using e1
  have h0 := wf_i64 w0
  have h1 := wf_i64 w1
  refine ⟨p, q, ?_, by omega, by omega⟩
  have : cs = #[.int .i64 p, .int .i64 q] := by
    apply Array.toList_inj.1
    simpa [Value.cells] using hcl
  rw [this]
end Go.Proofs.Ytgkpjgahdphaoaa
