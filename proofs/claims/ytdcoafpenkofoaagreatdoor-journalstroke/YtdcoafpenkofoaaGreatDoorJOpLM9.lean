import Derived.Test.YtdcoafpenkofoaaGreatDoorJLogM9
import Derived.Test.YtdcoafpenkofoaaGreatDoorRows
import Derived.SizedLaws
import Derived.JoinedOf
import Derived.WalkKit
import Derived.ProofKit
import Derived.OpenShut
import Derived.ChangeMaps5

/- Stage 20: what came in: bytes, records, batches. -/
namespace Go.Proofs.YtdcoafpenkofoaaGreatDoor
open Go.RowKit Go.ChangeShapes Go.WideShapes Go.ChangeAt
set_option linter.unusedVariables false
theorem Tryz.cells5 : Tryz.prog.cellsOf 5 = 1 := by kernel_rfl
theorem Tryz.cellsB : Tryz.prog.cellsOf 23 = 1 := by kernel_rfl
theorem Tryz.cellsBs : Tryz.prog.cellsOf 29 = 1 := by kernel_rfl
theorem Tryz.bytes5 : Tryz.prog.bytesOf 5 = 1 := by kernel_rfl
theorem Tryz.bytesB : Tryz.prog.bytesOf 23 = 24 := by kernel_rfl
theorem Tryz.bytesBs : Tryz.prog.bytesOf 29 = 24 := by kernel_rfl
theorem weights_eachJ {H : Type} {P : Program} {ts : List TypeId} {ds : List (DataW H)} (h : (DataW.weightsEach P ts ds).all (· ≤ reachBytes) = true) {j : Nat} {t : TypeId} {d : DataW H} (ht : ts[j]? = some t) (hd : ds[j]? = some d) :
    ∀ n ∈ d.weights P t, n ≤ reachBytes := fun n hn => by
  have := List.all_eq_true.1 h n (DataW.weights_mem_each ht hd n hn)
  simpa using this
theorem weights_allJ {H : Type} {P : Program} {t : TypeId} : ∀ {ds : List (DataW H)} {d : DataW H}, d ∈ ds → ∀ n ∈ d.weights P t, n ∈ DataW.weightsAll P t ds
  | d0 :: ds, d, hd, n, hn => by
    simp only [DataW.weightsAll, List.mem_append]
    rcases List.mem_cons.1 hd with rfl | h
    · exact .inl hn
    · exact .inr (weights_allJ h n hn)
theorem wf_u8J {n : Int} (h : (Lit.int .u8 n).wf = true) : 0 ≤ n ∧ n ≤ 255 := by
  simpa [Lit.wf, IntKind.min, IntKind.max, IntKind.signed, IntKind.bits] using h
theorem wf_i64J {n : Int} (h : (Lit.int .i64 n).wf = true) : -9223372036854775808 ≤ n ∧ n ≤ 9223372036854775807 := by
  simpa [Lit.wf, IntKind.min, IntKind.max, IntKind.signed, IntKind.bits] using h
theorem add_noneJ (b off j : Nat) : (⟨b, off, none⟩ : Addr).add j = ⟨b, off + j, none⟩ := by
  by_cases h : j = 0 <;> simp [Addr.add, h]
theorem Rd.of_cellsJ {W : World} {x : Addr} {len cap : Nat} {zs : List Int} (hl : len ≤ cap) (hz : zs.length = cap)
    (hcell : ∀ i, i < zs.length → W.cell? (x.add i) = some (.int .u8 (zs.getD i 0))) (hwz : ∀ n ∈ zs, (Lit.int .u8 n).wf = true) :
    Rd W (some x) len ((zs.take len).map Int.toNat) := by
  have hb : ∀ n ∈ zs, 0 ≤ n ∧ n ≤ 255 := fun n hn => wf_u8J (hwz n hn)
  refine ⟨by simp; omega, ?_, fun hn => ?_⟩
  · intro c hc
    obtain ⟨n, hn, rfl⟩ := List.mem_map.1 hc
    have := hb n (List.mem_of_mem_take hn)
    omega
  · obtain ⟨b, off, spot⟩ := x
    have hc := hcell 0 (by omega)
    have hspot : spot = none := by simpa [Addr.add] using World.cell?_spot hc
    subst hspot
    refine ⟨b, off, rfl, block_lt_of_cell hc, fun j hj => ?_⟩
    have hcj := hcell j (by omega)
    have hcj' : W.cell? ⟨b, off + j, none⟩ = some (.int .u8 (zs.getD j 0)) := by rw [← add_noneJ]; exact hcj
    rw [hcj']
    have hjz : j < zs.length := by omega
    have h0 := hb zs[j] (List.getElem_mem _)
    have e1 : zs.getD j 0 = zs[j] := by rw [List.getD_eq_getElem?_getD, List.getElem?_eq_getElem hjz]; rfl
    have e2 : ((zs.take len).map Int.toNat).getD j 0 = zs[j].toNat := by
      simp [List.getD_eq_getElem?_getD, hj, List.getElem?_eq_getElem hjz]
    rw [e1, e2]
    congr 2
    omega
/-- a list of bytes that came in -/
theorem bytes_fitJ {H : Type} {enc : TypeId × Value → H} {W : World} {fuel : Nat} {c : Value} {x : DataW H × List MemPlace}
    (hf : DataW.trod enc Tryz.prog W 0 (fun _ => true) true fuel 23 [c] = some x) (hw : ∀ n ∈ x.1.weights Tryz.prog 23, n ≤ reachBytes) :
    ∃ a cap, ∃ l : List Nat, c = .slice a l.length cap ∧ Rb W (.slice a l.length cap) l ∧ cap ≤ 140737488351232 := by
  rcases open_ints Tryz.underlying23 Tryz.underlying5 Tryz.cells5 hf with ⟨hcs, hx⟩ | ⟨y, l, c', zs, hcs, _, hl, hm, hz, hx, hcell, hwz⟩
  · obtain rfl : c = .slice none 0 0 := by simpa using hcs
    exact ⟨none, 0, [], rfl, Rb.nil W, by omega⟩
  · obtain rfl : c = .slice (some y) l c' := by simpa using hcs
    simp only [if_true] at hz
    subst hx
    have hcap : c' ≤ 140737488351232 := by
      have := hw (((lits (H := H) .u8 (zs.take l)).length + (lits (H := H) .u8 (zs.drop l)).length) * Tryz.prog.bytesOf 5) (by
        simp [DataW.weights, Tryz.underlying23])
      rw [Tryz.bytes5] at this
      simp only [reachBytes, lits, List.length_map, List.length_take, List.length_drop] at this
      omega
    have hr := Rd.of_cellsJ hl hz hcell hwz
    have hlen : ((zs.take l).map Int.toNat).length = l := hr.1
    refine ⟨some y, c', (zs.take l).map Int.toNat, by rw [hlen], ⟨some y, c', rfl, fun h => (by cases h), by rw [hlen]; exact hl, by rw [hlen]; exact hr⟩, hcap⟩
set_option maxRecDepth 100000 in
/-- a list of records that came in -/
theorem recs_fit {H : Type} {enc : TypeId × Value → H} {W : World} {fuel : Nat} {c : Value} {x : DataW H × List MemPlace}
    (hf : DataW.trod enc Tryz.prog W 0 (fun _ => true) true fuel 29 [c] = some x) (hw : ∀ n ∈ x.1.weights Tryz.prog 29, n ≤ reachBytes) :
    ∃ a cap, ∃ L : List (List Nat), c = .slice a L.length cap ∧ RdB W a L ∧ L.length ≤ 5864062014634 ∧ ∀ r ∈ L, r.length ≤ 140737488351232 := by
  rcases DataW.trod_slice Tryz.underlying29 hf with ⟨e3, rfl⟩ | ⟨y, l, c', elems, rest, n', hn', e3, rfl, _, hlc, hcm, hel, hE, hR, _⟩
  · obtain rfl : c = .slice none 0 0 := by simpa using e3
    exact ⟨none, 0, [], rfl, fun h => absurd h (by simp), by simp, by simp⟩
  · obtain rfl : c = .slice (some y) l c' := by simpa using e3
    have hwE : ∀ d ∈ elems.map (·.1), ∀ n ∈ d.weights Tryz.prog 23, n ≤ reachBytes := fun d hd n hn => hw n (by
      simp only [DataW.weights, Tryz.underlying29, List.mem_cons, List.mem_append]
      exact .inr (.inl (weights_allJ hd n hn)))
    have hwl : l ≤ 5864062014634 := by
      have := hw (((elems.map (·.1)).length + _) * Tryz.prog.bytesOf 23) (by
        simp only [DataW.weights, Tryz.underlying29, List.mem_cons]
        exact .inl rfl)
      rw [Tryz.bytesB, List.length_map, hel] at this
      simp only [reachBytes] at this
      omega
    rw [Tryz.cellsB] at hE
    have hpick : ∀ i, ∃ f : Option Addr × Nat × List Nat, i < l → W.cells? 0 (y.add (i * 1)) 1 = some [.slice f.1 f.2.2.length f.2.1] ∧ Rb W (.slice f.1 f.2.2.length f.2.1) f.2.2 ∧ f.2.1 ≤ 140737488351232 := by
      intro i
      by_cases hi : i < l
      · have h1 := hE i hi
        rw [List.getElem?_eq_getElem (by omega)] at h1
        obtain ⟨ci, hci, hti⟩ := Option.bind_eq_some_iff.1 h1
        have h2 := (World.cells?_some hci).2.1
        obtain ⟨c0, rfl⟩ : ∃ c0, ci = [c0] := List.length_eq_one_iff.1 h2
        obtain ⟨a, cap, r, rfl, q1, q2⟩ := bytes_fitJ hti (hwE _ (List.mem_map_of_mem (List.getElem_mem _)))
        exact ⟨(a, cap, r), fun _ => ⟨hci, q1, q2⟩⟩
      · exact ⟨(none, 0, []), fun h => absurd h hi⟩
    obtain ⟨fs, hfv⟩ := Classical.axiomOfChoice hpick
    have hll : ((List.range l).map fun i => (fs i).2.2).length = l := by simp
    refine ⟨some y, c', (List.range l).map fun i => (fs i).2.2, by rw [hll], fun h0 => ?_, by rw [hll]; exact hwl, fun r hr => ?_⟩
    · rw [hll] at h0
      obtain ⟨pb, po, spot⟩ := y
      have hc0 := (World.cells?_some (hfv 0 h0).1).2.2 0 (by omega)
      have hspot : spot = none := by
        simp only [List.getElem?_cons_zero] at hc0
        simpa [Addr.add] using World.cell?_spot hc0
      subst hspot
      refine ⟨pb, po, rfl, World.cells?_block (hfv 0 h0).1 (by omega), fun j hj => ?_⟩
      rw [hll] at hj
      have hc := (World.cells?_some (hfv j hj).1).2.2 0 (by omega)
      rw [add_noneJ, add_noneJ] at hc
      simp only [List.getElem_map, List.getElem_range]
      refine ⟨(fs j).1, (fs j).2.1, ?_, (hfv j hj).2.1⟩
      rw [show po + j = po + j * 1 + 0 by omega]
      exact hc
    · obtain ⟨i, hi, rfl⟩ := List.mem_map.1 hr
      obtain ⟨_, _, e, _, q, _⟩ := (hfv i (List.mem_range.1 hi)).2.1
      simp only [Value.slice.injEq] at e
      have := (hfv i (List.mem_range.1 hi)).2.2
      omega
set_option maxRecDepth 100000 in
/-- a list of batches that came in -/
theorem lists_fit {H : Type} {enc : TypeId × Value → H} {W : World} {fuel : Nat} {c : Value} {x : DataW H × List MemPlace}
    (hf : DataW.trod enc Tryz.prog W 0 (fun _ => true) true fuel 24 [c] = some x) (hw : ∀ n ∈ x.1.weights Tryz.prog 24, n ≤ reachBytes) :
    ∃ a cap, ∃ L : List (List (List Nat)), c = .slice a L.length cap ∧ RdL W a L ∧ L.length ≤ 5864062014634 ∧ ∀ m ∈ L, m.length ≤ 5864062014634 ∧ ∀ r ∈ m, r.length ≤ 140737488351232 := by
  rcases DataW.trod_slice Tryz.underlying24 hf with ⟨e3, rfl⟩ | ⟨y, l, c', elems, rest, n', hn', e3, rfl, _, hlc, hcm, hel, hE, hR, _⟩
  · obtain rfl : c = .slice none 0 0 := by simpa using e3
    exact ⟨none, 0, [], rfl, fun h => absurd h (by simp), by simp, by simp⟩
  · obtain rfl : c = .slice (some y) l c' := by simpa using e3
    have hwE : ∀ d ∈ elems.map (·.1), ∀ n ∈ d.weights Tryz.prog 29, n ≤ reachBytes := fun d hd n hn => hw n (by
      simp only [DataW.weights, Tryz.underlying24, List.mem_cons, List.mem_append]
      exact .inr (.inl (weights_allJ hd n hn)))
    have hwl : l ≤ 5864062014634 := by
      have := hw (((elems.map (·.1)).length + _) * Tryz.prog.bytesOf 29) (by
        simp only [DataW.weights, Tryz.underlying24, List.mem_cons]
        exact .inl rfl)
      rw [Tryz.bytesBs, List.length_map, hel] at this
      simp only [reachBytes] at this
      omega
    rw [Tryz.cellsBs] at hE
    have hpick : ∀ i, ∃ f : Option Addr × Nat × List (List Nat), i < l → W.cells? 0 (y.add (i * 1)) 1 = some [.slice f.1 f.2.2.length f.2.1] ∧ RdB W f.1 f.2.2 ∧ f.2.2.length ≤ 5864062014634 ∧ ∀ r ∈ f.2.2, r.length ≤ 140737488351232 := by
      intro i
      by_cases hi : i < l
      · have h1 := hE i hi
        rw [List.getElem?_eq_getElem (by omega)] at h1
        obtain ⟨ci, hci, hti⟩ := Option.bind_eq_some_iff.1 h1
        have h2 := (World.cells?_some hci).2.1
        obtain ⟨c0, rfl⟩ : ∃ c0, ci = [c0] := List.length_eq_one_iff.1 h2
        obtain ⟨a, cap, r, rfl, q1, q2⟩ := recs_fit hti (hwE _ (List.mem_map_of_mem (List.getElem_mem _)))
        exact ⟨(a, cap, r), fun _ => ⟨hci, q1, q2⟩⟩
      · exact ⟨(none, 0, []), fun h => absurd h hi⟩
    obtain ⟨fs, hfv⟩ := Classical.axiomOfChoice hpick
    have hll : ((List.range l).map fun i => (fs i).2.2).length = l := by simp
    refine ⟨some y, c', (List.range l).map fun i => (fs i).2.2, by rw [hll], fun h0 => ?_, by rw [hll]; exact hwl, fun m hm => ?_⟩
    · rw [hll] at h0
      obtain ⟨pb, po, spot⟩ := y
      have hc0 := (World.cells?_some (hfv 0 h0).1).2.2 0 (by omega)
      have hspot : spot = none := by
        simp only [List.getElem?_cons_zero] at hc0
        simpa [Addr.add] using World.cell?_spot hc0
      subst hspot
      refine ⟨pb, po, rfl, World.cells?_block (hfv 0 h0).1 (by omega), fun j hj => ?_⟩
      rw [hll] at hj
      have hc := (World.cells?_some (hfv j hj).1).2.2 0 (by omega)
      rw [add_noneJ, add_noneJ] at hc
      simp only [List.getElem_map, List.getElem_range]
      refine ⟨(fs j).1, (fs j).2.1, ?_, (hfv j hj).2.1⟩
      rw [show po + j = po + j * 1 + 0 by omega]
      exact hc
    · obtain ⟨i, hi, rfl⟩ := List.mem_map.1 hm
      exact ((hfv i (List.mem_range.1 hi)).2).2
end Go.Proofs.YtdcoafpenkofoaaGreatDoor
