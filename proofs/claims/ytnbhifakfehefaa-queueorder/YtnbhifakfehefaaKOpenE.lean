
/- Stage 17: what came in: entries, numbers. -/
import Derived.Test.YtnbhifakfehefaaKOrdC
import Derived.Test.YtnbhifakfehefaaKOpen
import Derived.WalkKit
import Derived.ProofKit
import Derived.OpenShut
namespace Go.Proofs.Ytnbhifakfehefaa
open Go.RowKit Go.ChangeShapes Go.WideShapes Go.ChangeAt
set_option linter.unusedVariables false
theorem Try.cells5 : Try.prog.cellsOf 5 = 1 := by kernel_rfl
theorem Try.cellsB : Try.prog.cellsOf 35 = 1 := by kernel_rfl
theorem Try.cellsEn : Try.prog.cellsOf 37 = 7 := by kernel_rfl
theorem Try.bytesEn : Try.prog.bytesOf 37 = 72 := by kernel_rfl
theorem Try.bytesIn : Try.prog.bytesOf 3 = 8 := by kernel_rfl
theorem wf_u8 {n : Int} (h : (Lit.int .u8 n).wf = true) : 0 ≤ n ∧ n ≤ 255 := by
  simpa [Lit.wf, IntKind.min, IntKind.max, IntKind.signed, IntKind.bits] using h
theorem wf_i64 {n : Int} (h : (Lit.int .i64 n).wf = true) : -9223372036854775808 ≤ n ∧ n ≤ 9223372036854775807 := by
  simpa [Lit.wf, IntKind.min, IntKind.max, IntKind.signed, IntKind.bits] using h
theorem add_none (b off j : Nat) : (⟨b, off, none⟩ : Addr).add j = ⟨b, off + j, none⟩ := by
  by_cases h : j = 0 <;> simp [Addr.add, h]
theorem Rd.of_cells {W : World} {x : Addr} {len cap : Nat} {zs : List Int} (hl : len ≤ cap) (hz : zs.length = cap)
    (hcell : ∀ i, i < zs.length → W.cell? (x.add i) = some (.int .u8 (zs.getD i 0))) (hwz : ∀ n ∈ zs, (Lit.int .u8 n).wf = true) :
    Rd W (some x) len ((zs.take len).map Int.toNat) := by
  have hb : ∀ n ∈ zs, 0 ≤ n ∧ n ≤ 255 := fun n hn => wf_u8 (hwz n hn)
  refine ⟨by simp; omega, ?_, fun hn => ?_⟩
  · intro c hc
    obtain ⟨n, hn, rfl⟩ := List.mem_map.1 hc
    have := hb n (List.mem_of_mem_take hn)
    omega
  · obtain ⟨b, off, spot⟩ := x
    have hc := hcell 0 (by omega)
    have hspot : spot = none := by simpa [Addr.add] using World.cell?_spot hc
    subst hspot
    refine ⟨b, off, rfl, block_lt_of_cell hc, fun j hj => ?_⟩
    have hcj := hcell j (by omega)
    have hcj' : W.cell? ⟨b, off + j, none⟩ = some (.int .u8 (zs.getD j 0)) := by rw [← add_none]; exact hcj
    rw [hcj']
    have hjz : j < zs.length := by omega
    have h0 := hb zs[j] (List.getElem_mem _)
    have e1 : zs.getD j 0 = zs[j] := by rw [List.getD_eq_getElem?_getD, List.getElem?_eq_getElem hjz]; rfl
    have e2 : ((zs.take len).map Int.toNat).getD j 0 = zs[j].toNat := by
      simp [List.getD_eq_getElem?_getD, hj, List.getElem?_eq_getElem hjz]
    rw [e1, e2]
    congr 2
    omega
/-- a list of bytes that came in -/
theorem bytes_row {H : Type} {enc : TypeId × Value → H} {W : World} {fuel : Nat} {c : Value} {x : DataW H × List MemPlace}
    (hf : DataW.trod enc Try.prog W 0 (fun _ => true) true fuel 35 [c] = some x) :
    ∃ a len cap, c = .slice a len cap ∧ ∃ l : List Nat, Rd W a len l ∧ len ≤ cap ∧ (a = none → cap = 0) := by
  rcases open_ints Try.underlying35 Try.underlying5 Try.cells5 hf with ⟨hcs, hx⟩ | ⟨y, l, c', zs, hcs, _, hl, hm, hz, hx, hcell, hwz⟩
  · obtain rfl : c = .slice none 0 0 := by simpa using hcs
    exact ⟨none, 0, 0, rfl, [], ⟨rfl, by simp, by omega⟩, Nat.le_refl _, fun _ => rfl⟩
  · obtain rfl : c = .slice (some y) l c' := by simpa using hcs
    simp only [if_true] at hz
    exact ⟨_, _, _, rfl, _, Rd.of_cells hl hz hcell hwz, hl, fun h => by cases h⟩
theorem weights_all {H : Type} {P : Program} {t : TypeId} : ∀ {ds : List (DataW H)} {d : DataW H}, d ∈ ds → ∀ n ∈ d.weights P t, n ∈ DataW.weightsAll P t ds
  | d0 :: ds, d, hd, n, hn => by
    simp only [DataW.weightsAll, List.mem_append]
    rcases List.mem_cons.1 hd with rfl | h
    · exact .inl hn
    · exact .inr (weights_all h n hn)
theorem seven {α : Type} (l : List α) (h : l.length = 7) : ∃ a b c d e f g, l = [a, b, c, d, e, f, g] := by
  match l, h with
  | [a, b, c, d, e, f, g], _ => exact ⟨a, b, c, d, e, f, g, rfl⟩
def EvOk (W : World) (e : Ev) : Prop := ∃ l : List Nat, e.n = l.length ∧ Rd W e.a e.n l ∧ (e.a = none → e.c = 0) ∧ e.n ≤ e.c
set_option maxRecDepth 100000 in
theorem entry_fit {H : Type} {enc : TypeId × Value → H} {W : World} {fuel : Nat} {cs : List Value} {x : DataW H × List MemPlace}
    (hf : DataW.trod enc Try.prog W 0 (fun _ => true) true fuel 37 cs = some x) : ∃ e : Ev, cs = e.enc ∧ EvOk W e := by
  obtain ⟨xs, n, hfu, hx, hlen, hxl, hff⟩ := DataW.trod_struct Try.underlying37 hf
  rw [Try.cellsEn] at hlen
  obtain ⟨c0, c1, c2, c3, c4, c5, c6, rfl⟩ := seven _ hlen
  obtain ⟨x0, x1, x2, x3, x4, x5, x6, rfl⟩ := seven xs hxl
  have f0 : DataW.trod enc Try.prog W 0 (fun _ => true) true n 3 ([c0, c1, c2, c3, c4, c5, c6].take (Try.prog.cellsOf 3)) = some x0 := hff 0 _ rfl
  have f1 : DataW.trod enc Try.prog W 0 (fun _ => true) true n 3 ([c1, c2, c3, c4, c5, c6].take (Try.prog.cellsOf 3)) = some x1 := hff 1 _ rfl
  have f2 : DataW.trod enc Try.prog W 0 (fun _ => true) true n 3 ([c2, c3, c4, c5, c6].take (Try.prog.cellsOf 3)) = some x2 := hff 2 _ rfl
  have f3 : DataW.trod enc Try.prog W 0 (fun _ => true) true n 4 ([c3, c4, c5, c6].take (Try.prog.cellsOf 4)) = some x3 := hff 3 _ rfl
  have f4 : DataW.trod enc Try.prog W 0 (fun _ => true) true n 3 ([c4, c5, c6].take (Try.prog.cellsOf 3)) = some x4 := hff 4 _ rfl
  have f5 : DataW.trod enc Try.prog W 0 (fun _ => true) true n 3 ([c5, c6].take (Try.prog.cellsOf 3)) = some x5 := hff 5 _ rfl
  have f6 : DataW.trod enc Try.prog W 0 (fun _ => true) true n 35 ([c6].take (Try.prog.cellsOf 35)) = some x6 := hff 6 _ rfl
  rw [Try.cellsI] at f0 f1 f2 f4 f5
  rw [Try.cellsBo] at f3
  rw [Try.cellsB] at f6
  simp only [List.take_succ_cons, List.take_zero] at f0 f1 f2 f3 f4 f5 f6
  obtain ⟨v0, e0, _, _⟩ := DataW.trod_int Try.underlying3 f0
  obtain ⟨v1, e1, _, _⟩ := DataW.trod_int Try.underlying3 f1
  obtain ⟨v2, e2, _, _⟩ := DataW.trod_int Try.underlying3 f2
  obtain ⟨v3, e3, _⟩ := DataW.trod_bool Try.underlying4 f3
  obtain ⟨v4, e4, _, _⟩ := DataW.trod_int Try.underlying3 f4
  obtain ⟨v5, e5, _, _⟩ := DataW.trod_int Try.underlying3 f5
  obtain ⟨a, na, ca, e6, l, r1, r2, r3⟩ := bytes_row f6
  obtain rfl : c0 = .int .i64 v0 := by simpa using e0
  obtain rfl : c1 = .int .i64 v1 := by simpa using e1
  obtain rfl : c2 = .int .i64 v2 := by simpa using e2
  obtain rfl : c3 = .bool v3 := by simpa using e3
  obtain rfl : c4 = .int .i64 v4 := by simpa using e4
  obtain rfl : c5 = .int .i64 v5 := by simpa using e5
  subst e6
  exact ⟨⟨v0, v1, v2, v3, v4, v5, a, na, ca⟩, rfl, l, r1.1.symm, r1, r3, r2⟩
theorem entries_fit {H : Type} {enc : TypeId × Value → H} {W : World} {a : Option Addr} {len cap fuel : Nat} {x : DataW H × List MemPlace}
    (hf : DataW.trod enc Try.prog W 0 (fun _ => true) true fuel 33 [.slice a len cap] = some x) (hw : ∀ n ∈ x.1.weights Try.prog 33, n ≤ reachBytes) : len ≤ 140737488351232 ∧ ∃ f : Nat → Ev, InE W a len f := by
  rcases DataW.trod_slice Try.underlying33 hf with ⟨e3, rfl⟩ | ⟨y, l, c, elems, rest, n', hn', e3, rfl, _, hlc, hcm, hel, hE, hR, _⟩
  · simp at e3
    obtain ⟨rfl, rfl, rfl⟩ := e3
    exact ⟨by omega, fun _ => ⟨0, 0, 0, false, 0, 0, none, 0, 0⟩, fun h => by omega, fun j hj => by omega⟩
  · simp at e3
    obtain ⟨rfl, rfl, rfl⟩ := e3
    have hwl : len ≤ 140737488351232 := by
      have := hw (((elems.map (·.1)).length + _) * Try.prog.bytesOf 37) (by
        simp only [DataW.weights, Try.underlying33, List.mem_cons]
        exact .inl rfl)
      rw [Try.bytesEn, List.length_map, hel] at this
      simp only [reachBytes] at this
      omega
    rw [Try.cellsEn] at hE
    have hpick : ∀ i, ∃ f : Ev, i < len → W.cells? 0 (y.add (i * 7)) 7 = some f.enc ∧ EvOk W f := by
      intro i
      by_cases hi : i < len
      · have h1 := hE i hi
        rw [List.getElem?_eq_getElem (by omega)] at h1
        obtain ⟨ci, hci, hti⟩ := Option.bind_eq_some_iff.1 h1
        obtain ⟨f, rfl, q1⟩ := entry_fit hti
        exact ⟨f, fun _ => ⟨hci, q1⟩⟩
      · exact ⟨⟨0, 0, 0, false, 0, 0, none, 0, 0⟩, fun h => absurd h hi⟩
    obtain ⟨fs, hfv⟩ := Classical.axiomOfChoice hpick
    refine ⟨hwl, fs, fun h0 => ?_, fun j hj => (hfv j hj).2⟩
    obtain ⟨pb, po, spot⟩ := y
    have hc0 := (World.cells?_some (hfv 0 h0).1).2.2 0 (by omega)
    have hspot : spot = none := by
      simp only [Ev.enc, List.getElem?_cons_zero] at hc0
      simpa [Addr.add] using World.cell?_spot hc0
    subst hspot
    refine ⟨pb, po, rfl, World.cells?_block (hfv 0 h0).1 (by omega), fun i hi j u hu => ?_⟩
    have hc := (World.cells?_some (hfv i hi).1).2.2
    have hj : j < 7 := (List.getElem?_eq_some_iff.1 hu).1
    have := hc j hj
    rw [add_none, add_none] at this
    exact this.trans hu
theorem ints_fit {H : Type} {enc : TypeId × Value → H} {W : World} {a : Option Addr} {len cap fuel : Nat} {x : DataW H × List MemPlace}
    (hf : DataW.trod enc Try.prog W 0 (fun _ => true) true fuel 34 [.slice a len cap] = some x) (hw : ∀ n ∈ x.1.weights Try.prog 34, n ≤ reachBytes) : len ≤ 140737488351232 ∧ ∃ zs : List Int, Ri W a len zs ∧ ∀ j, j < len → -9223372036854775808 ≤ zs.getD j 0 ∧ zs.getD j 0 < 9223372036854775808 := by
  rcases open_ints Try.underlying34 Try.underlying3 Try.cellsI hf with ⟨hcs, hx⟩ | ⟨y, l, c, zs, hcs, _, hl, hm, hz, hx, hcell, hwz⟩
  · simp at hcs
    obtain ⟨rfl, rfl, rfl⟩ := hcs
    exact ⟨by omega, [], fun h => by omega, fun j h => by omega⟩
  · simp at hcs
    obtain ⟨rfl, rfl, rfl⟩ := hcs
    simp only [if_true] at hz
    subst hx
    have h4 : (lits (H := H) .i64 (zs.take len)).length = len := by simp [lits]; omega
    have hwl : len ≤ 140737488351232 := by
      have := hw (((lits (H := H) .i64 (zs.take len)).length + _) * Try.prog.bytesOf 3) (by
        simp only [DataW.weights, Try.underlying34, List.mem_cons]
        exact .inl rfl)
      rw [Try.bytesIn, h4] at this
      simp only [reachBytes] at this
      omega
    refine ⟨hwl, zs, fun hn => ?_, fun j hj => ?_⟩
    · obtain ⟨b, off, spot⟩ := y
      have hc := hcell 0 (by omega)
      have hspot : spot = none := by simpa [Addr.add] using World.cell?_spot hc
      subst hspot
      refine ⟨b, off, rfl, block_lt_of_cell hc, fun j hj => ?_⟩
      rw [← add_none]
      exact hcell j (by omega)
    · have hjz : j < zs.length := by omega
      have := wf_i64 (hwz (zs.getD j 0) (by rw [List.getD_eq_getElem?_getD, List.getElem?_eq_getElem hjz]; exact List.getElem_mem hjz))
      omega
end Go.Proofs.Ytnbhifakfehefaa
