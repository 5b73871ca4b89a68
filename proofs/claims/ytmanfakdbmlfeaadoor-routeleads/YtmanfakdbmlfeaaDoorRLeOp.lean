
/- Stage 18: what came in: a list of bindings. -/
import Derived.Test.YtmanfakdbmlfeaaDoorRLeads
import Derived.Test.YtmanfakdbmlfeaaDoorRows
import Derived.SizedLaws
import Derived.OpenShut
import Derived.ChangeMaps5
namespace Go.Proofs.YtmanfakdbmlfeaaDoor
open Go.RowKit Go.ChangeShapes Go.WideShapes Go.ChangeAt
set_option linter.unusedVariables false
theorem Tryd.cellsSt1 : Tryd.prog.cellsOf 9 = 1 := by kernel_rfl
theorem Tryd.cellsBi2 : Tryd.prog.cellsOf 36 = 2 := by kernel_rfl
theorem Tryd.bytesBi2 : Tryd.prog.bytesOf 36 = 32 := by kernel_rfl
theorem addr_addB (b off j : Nat) : (⟨b, off, none⟩ : Addr).add j = ⟨b, off + j, none⟩ := by
  by_cases h : j = 0 <;> simp [Addr.add, h]
theorem weightsAll_memB {H : Type} {P : Program} {e : TypeId} {d : DataW H} {n : Nat} (l : List (DataW H)) (hd : d ∈ l) (hn : n ∈ d.weights P e) : n ∈ DataW.weightsAll P e l := by
  induction l with
  | nil => simp at hd
  | cons x l ih =>
    simp only [DataW.weightsAll, List.mem_append]
    rcases List.mem_cons.1 hd with rfl | h
    · exact .inl hn
    · exact .inr (ih h)
theorem weights_eachB {H : Type} {P : Program} {ts : List TypeId} {ds : List (DataW H)} (h : (DataW.weightsEach P ts ds).all (· ≤ reachBytes) = true) {j : Nat} {t : TypeId} {d : DataW H} (ht : ts[j]? = some t) (hd : ds[j]? = some d) :
    ∀ n ∈ d.weights P t, n ≤ reachBytes := fun n hn => by
  have := List.all_eq_true.1 h n (DataW.weights_mem_each ht hd n hn)
  simpa using this
theorem twoB {α : Type} (l : List α) (h : l.length = 2) : ∃ a b, l = [a, b] := by
  match l, h with
  | [a, b], _ => exact ⟨a, b, rfl⟩
set_option maxRecDepth 100000 in
/-- a binding that came in -/
theorem bd_cells {H : Type} {enc : TypeId × Value → H} {W : World} {fuel : Nat} {cs : List Value} {x : DataW H × List MemPlace}
    (hx : DataW.trod enc Tryd.prog W 0 (fun _ => true) true fuel 36 cs = some x) (hw : ∀ n ∈ x.1.weights Tryd.prog 36, n ≤ reachBytes) :
    ∃ u : Bd, cs = [.string u.1, .string u.2] ∧ u.1.size ≤ 281474976710656 ∧ u.2.size ≤ 281474976710656 := by
  obtain ⟨xs, n, hfu, rfl, hlen, hxl, hf⟩ := DataW.trod_struct Tryd.underlying36 hx
  rw [Tryd.cellsBi2] at hlen
  obtain ⟨c0, c1, rfl⟩ := twoB _ hlen
  obtain ⟨x0, x1, rfl⟩ := twoB xs hxl
  have f0 : DataW.trod enc Tryd.prog W 0 (fun _ => true) true n 9 ([c0, c1].take (Tryd.prog.cellsOf 9)) = some x0 := hf 0 _ rfl
  have f1 : DataW.trod enc Tryd.prog W 0 (fun _ => true) true n 9 ([c1].take (Tryd.prog.cellsOf 9)) = some x1 := hf 1 _ rfl
  rw [Tryd.cellsSt1] at f0 f1
  simp only [List.take_succ_cons, List.take_zero] at f0 f1
  have hwj : ∀ q, (q ∈ x0.1.weights Tryd.prog 9 ∨ q ∈ x1.1.weights Tryd.prog 9) → q ≤ reachBytes := fun q hq => hw q (by
    simp only [DataW.weights, Tryd.underlying36, List.map_cons, List.map_nil, DataW.weightsEach, List.mem_append]
    rcases hq with h | h <;> simp [h])
  obtain ⟨t, e0, hx0, _⟩ := DataW.trod_string Tryd.underlying9 f0
  obtain ⟨s, e1, hx1, _⟩ := DataW.trod_string Tryd.underlying9 f1
  have hs0 : t.size ≤ 281474976710656 := by
    have := hwj t.data.toList.length (.inl (by rw [hx0]; simp [DataW.weights]))
    simp only [reachBytes, Array.length_toList] at this
    have e : t.size = t.data.size := rfl
    omega
  have hs1 : s.size ≤ 281474976710656 := by
    have := hwj s.data.toList.length (.inr (by rw [hx1]; simp [DataW.weights]))
    simp only [reachBytes, Array.length_toList] at this
    have e : s.size = s.data.size := rfl
    omega
  simp only [List.cons.injEq, and_true] at e0 e1
  exact ⟨(t, s), by rw [e0, e1], hs0, hs1⟩
theorem binds_fit {H : Type} {enc : TypeId × Value → H} {W : World} {a : Option Addr} {len cap fuel : Nat} {x : DataW H × List MemPlace}
    (hf : DataW.trod enc Tryd.prog W 0 (fun _ => true) true fuel 31 [.slice a len cap] = some x) (hw : ∀ n ∈ x.1.weights Tryd.prog 31, n ≤ reachBytes) :
    ∃ B : List Bd, len = B.length ∧ B.length ≤ 4611686018427387904 ∧
      ∀ (i : Nat) (x : Bd), B[i]? = some x → x.1.size ≤ 281474976710656 ∧ x.2.size ≤ 281474976710656 ∧ ∃ g o, a = some ⟨g, o, none⟩ ∧ B.length ≤ cap ∧ ∀ W', Below W.heap.size W W' → W'.cell? ⟨g, o + i * 2, none⟩ = some (.string x.1) ∧ W'.cell? ⟨g, o + i * 2 + 1, none⟩ = some (.string x.2) := by
  rcases DataW.trod_slice Tryd.underlying31 hf with ⟨e3, rfl⟩ | ⟨y, l, c, elems, rest, n', hn', e3, rfl, _, hlc, hcm, hel, hE, hR, _⟩
  · simp at e3
    obtain ⟨rfl, rfl, rfl⟩ := e3
    exact ⟨[], rfl, by simp, fun i x hx => by simp at hx⟩
  · simp at e3
    obtain ⟨rfl, rfl, rfl⟩ := e3
    have hwl : len ≤ 140737488355328 := by
      have := hw ((elems.length + rest.length) * 32) (by simp [DataW.weights, Tryd.underlying31, Tryd.bytesBi2])
      simp only [reachBytes] at this
      omega
    rw [Tryd.cellsBi2] at hE
    have hpick : ∀ i, ∃ f : Bd, i < len → W.cells? 0 (y.add (i * 2)) 2 = some [.string f.1, .string f.2] ∧ f.1.size ≤ 281474976710656 ∧ f.2.size ≤ 281474976710656 := by
      intro i
      by_cases hi : i < len
      · have h1 := hE i hi
        rw [List.getElem?_eq_getElem (by omega)] at h1
        obtain ⟨ci, hci, hti⟩ := Option.bind_eq_some_iff.1 h1
        obtain ⟨f, rfl, q1⟩ := bd_cells hti (fun q hq => hw q (by
          simp only [DataW.weights, Tryd.underlying31, List.mem_cons, List.mem_append]
          exact .inr (.inl (weightsAll_memB _ (List.mem_map_of_mem (List.getElem_mem _)) hq))))
        exact ⟨f, fun _ => ⟨hci, q1⟩⟩
      · exact ⟨(⟨#[]⟩, ⟨#[]⟩), fun h => absurd h hi⟩
    obtain ⟨fs, hfv⟩ := Classical.axiomOfChoice hpick
    have hll : ((List.range len).map fs).length = len := by simp
    refine ⟨(List.range len).map fs, hll.symm, by rw [hll]; omega, fun i x hx => ?_⟩
    have hi : i < len := by have := (List.getElem?_eq_some_iff.1 hx).1; rwa [hll] at this
    obtain rfl : fs i = x := by simpa [hi] using hx
    obtain ⟨pb, po, spot⟩ := y
    have hc0 : W.cell? (((⟨pb, po, spot⟩ : Addr).add (0 * 2)).add 0) = some (.string (fs 0).1) := (World.cells?_some (hfv 0 (by omega)).1).2.2 0 (by omega)
    have hspot : spot = none := by simpa [Addr.add] using World.cell?_spot hc0
    subst hspot
    have hc := (World.cells?_some (hfv i hi).1).2.2
    have hbk : pb < W.heap.size := by have := World.cells?_block (hfv i hi).1 (by omega); rwa [addr_addB] at this
    refine ⟨(hfv i hi).2.1, (hfv i hi).2.2, pb, po, rfl, by rw [hll]; exact hlc, fun W' hb => ?_⟩
    have q0 := hc 0 (by omega)
    have q1 := hc 1 (by omega)
    rw [addr_addB, addr_addB] at q0 q1
    exact ⟨(World.cell?_of_block (a := ⟨pb, po + i * 2, none⟩) (hb.block pb hbk)).trans q0, (World.cell?_of_block (a := ⟨pb, po + i * 2 + 1, none⟩) (hb.block pb hbk)).trans q1⟩
end Go.Proofs.YtmanfakdbmlfeaaDoor
