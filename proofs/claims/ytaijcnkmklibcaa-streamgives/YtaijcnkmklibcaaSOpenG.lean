
/- Stage 6: frames and ints that came in, by what can reach. -/
import Derived.Test.YtaijcnkmklibcaaSOpenF
import Derived.SizedLaws
namespace Go.Proofs.Ytaijcnkmklibcaa
open Go.RowKit Go.ChangeShapes Go.WideShapes Go.ChangeAt
set_option linter.unusedVariables false
theorem Try.bytesI : Try.prog.bytesOf 3 = 8 := by kernel_rfl
theorem Try.bytesF : Try.prog.bytesOf 49 = 64 := by kernel_rfl
theorem Try.bytesU : Try.prog.bytesOf 5 = 1 := by kernel_rfl
theorem weights_each {H : Type} {P : Program} {ts : List TypeId} {ds : List (DataW H)} (h : (DataW.weightsEach P ts ds).all (· ≤ reachBytes) = true) {j : Nat} {t : TypeId} {d : DataW H} (ht : ts[j]? = some t) (hd : ds[j]? = some d) :
    ∀ n ∈ d.weights P t, n ≤ reachBytes := fun n hn => by
  have := List.all_eq_true.1 h n (DataW.weights_mem_each ht hd n hn)
  simpa using this
theorem weights_all {H : Type} {P : Program} {t : TypeId} : ∀ {ds : List (DataW H)} {d : DataW H}, d ∈ ds → ∀ n ∈ d.weights P t, n ∈ DataW.weightsAll P t ds
  | d0 :: ds, d, hd, n, hn => by
    simp only [DataW.weightsAll, List.mem_append]
    rcases List.mem_cons.1 hd with rfl | h
    · exact .inl hn
    · exact .inr (weights_all h n hn)
set_option maxRecDepth 100000 in
theorem frame_fit {H : Type} {enc : TypeId × Value → H} {W : World} {fuel : Nat} {cs : List Value} {x : DataW H × List MemPlace}
    (hf : DataW.trod enc Try.prog W 0 (fun _ => true) true fuel 49 cs = some x) (hw : ∀ n ∈ x.1.weights Try.prog 49, n ≤ reachBytes) :
    ∃ f : Fr, cs = fcells f ∧ FOk W f := by
  obtain ⟨xs, n, hfu, hx, hlen, hxl, hff⟩ := DataW.trod_struct Try.underlying49 hf
  rw [Try.cellsF] at hlen
  obtain ⟨c0, c1, c2, c3, rfl⟩ := four _ hlen
  obtain ⟨x0, x1, x2, x3, rfl⟩ := four xs hxl
  have f0 : DataW.trod enc Try.prog W 0 (fun _ => true) true n 3 ([c0, c1, c2, c3].take (Try.prog.cellsOf 3)) = some x0 := hff 0 _ rfl
  have f1 : DataW.trod enc Try.prog W 0 (fun _ => true) true n 3 ([c1, c2, c3].take (Try.prog.cellsOf 3)) = some x1 := hff 1 _ rfl
  have f2 : DataW.trod enc Try.prog W 0 (fun _ => true) true n 33 ([c2, c3].take (Try.prog.cellsOf 33)) = some x2 := hff 2 _ rfl
  have f3 : DataW.trod enc Try.prog W 0 (fun _ => true) true n 33 ([c3].take (Try.prog.cellsOf 33)) = some x3 := hff 3 _ rfl
  rw [Try.cellsI] at f0 f1
  rw [Try.cellsB] at f2 f3
  simp only [List.take_succ_cons, List.take_zero] at f0 f1 f2 f3
  obtain ⟨ty, e0, rfl, wt⟩ := DataW.trod_int Try.underlying3 f0
  obtain ⟨ch, e1, rfl, wc⟩ := DataW.trod_int Try.underlying3 f1
  obtain rfl : c0 = .int .i64 ty := by simpa using e0
  obtain rfl : c1 = .int .i64 ch := by simpa using e1
  obtain ⟨a, na, ca, rfl⟩ := slice_of f2
  obtain ⟨b, nb, cb, rfl⟩ := slice_of f3
  obtain ⟨ext, r2, l2, s2⟩ := bytes_open f2
  obtain ⟨body, r3, l3, s3⟩ := bytes_open f3
  have hd : x.1 = .agg ([(DataW.lit (.int .i64 ty), ([] : List MemPlace)), (DataW.lit (.int .i64 ch), []), x2, x3].map (·.1)) := by
    have := congrArg Prod.fst hx
    simpa using this
  have hwt : ∀ (xx : DataW H × List MemPlace) (cap : Nat), xx = x2 ∨ xx = x3 → ((xx.1 = .nil ∧ cap = 0) ∨ ∃ e s, xx.1 = .slice e s ∧ e.length + s.length = cap) → cap ≤ 140737488351232 := fun xx cap hor hs => by
    rcases hs with ⟨_, rfl⟩ | ⟨e, s, he', hc⟩
    · omega
    · have hq : ∀ q ∈ xx.1.weights Try.prog 33, q ≤ reachBytes := fun q hq => hw q (by
        rw [hd]
        simp only [DataW.weights, Try.underlying49, List.map_cons, List.map_nil, DataW.weightsEach, List.mem_append]
        rcases hor with rfl | rfl <;> simp [hq])
      have := hq ((e.length + s.length) * 1) (by rw [he']; simp [DataW.weights, Try.underlying33, Try.bytesU])
      simp only [reachBytes] at this
      omega
  have za := hwt x2 ca (.inl rfl) s2
  have zb := hwt x3 cb (.inr rfl) s3
  exact ⟨((ty, ch), (a, na, ca, ext), (b, nb, cb, body)), rfl, r2, r3, by show na ≤ _; omega, by show nb ≤ _; omega⟩
theorem frames_fit {H : Type} {enc : TypeId × Value → H} {W : World} {a : Option Addr} {len cap fuel : Nat} {x : DataW H × List MemPlace}
    (hf : DataW.trod enc Try.prog W 0 (fun _ => true) true fuel 45 [.slice a len cap] = some x) (hw : ∀ n ∈ x.1.weights Try.prog 45, n ≤ reachBytes) : len ≤ 140737488351232 ∧ ∃ fs : Nat → Fr, RF W a len fs := by
  rcases DataW.trod_slice Try.underlying45 hf with ⟨e3, rfl⟩ | ⟨y, l, c, elems, rest, n', hn', e3, rfl, _, hlc, hcm, hel, hE, hR, _⟩
  · simp at e3
    obtain ⟨rfl, rfl, rfl⟩ := e3
    exact ⟨by omega, fun _ => ((0, 0), (none, 0, 0, []), (none, 0, 0, [])), fun h => by omega, fun j hj => by omega⟩
  · simp at e3
    obtain ⟨rfl, rfl, rfl⟩ := e3
    have hwE : ∀ d ∈ elems.map (·.1), ∀ n ∈ d.weights Try.prog 49, n ≤ reachBytes := fun d hd n hn => hw n (by
      simp only [DataW.weights, Try.underlying45, List.mem_cons, List.mem_append]
      exact .inr (.inl (weights_all hd n hn)))
    have hwl : len ≤ 140737488351232 := by
      have := hw (((elems.map (·.1)).length + _) * Try.prog.bytesOf 49) (by
        simp only [DataW.weights, Try.underlying45, List.mem_cons]
        exact .inl rfl)
      rw [Try.bytesF, List.length_map, hel] at this
      simp only [reachBytes] at this
      omega
    rw [Try.cellsF] at hE
    have hpick : ∀ i, ∃ f : Fr, i < len → W.cells? 0 (y.add (i * 4)) 4 = some (fcells f) ∧ FOk W f := by
      intro i
      by_cases hi : i < len
      · have h1 := hE i hi
        rw [List.getElem?_eq_getElem (by omega)] at h1
        obtain ⟨ci, hci, hti⟩ := Option.bind_eq_some_iff.1 h1
        obtain ⟨f, rfl, q1⟩ := frame_fit hti (hwE _ (List.mem_map_of_mem (List.getElem_mem _)))
        exact ⟨f, fun _ => ⟨hci, q1⟩⟩
      · exact ⟨((0, 0), (none, 0, 0, []), (none, 0, 0, [])), fun h => absurd h hi⟩
    obtain ⟨fs, hfv⟩ := Classical.axiomOfChoice hpick
    refine ⟨hwl, fs, fun h0 => ?_, fun j hj => (hfv j hj).2⟩
    obtain ⟨pb, po, spot⟩ := y
    have hc0 := (World.cells?_some (hfv 0 h0).1).2.2 0 (by omega)
    have hspot : spot = none := by
      simp only [fcells, List.getElem?_cons_zero] at hc0
      simpa [Addr.add] using World.cell?_spot hc0
    subst hspot
    refine ⟨pb, po, rfl, World.cells?_block (hfv 0 h0).1 (by omega), fun i hi => ?_⟩
    have hc := (World.cells?_some (hfv i hi).1).2.2
    have q : ∀ j, j < 4 → W.cell? ⟨pb, po + i * 4 + j, none⟩ = (fcells (fs i))[j]? := fun j hj => by
      have := hc j hj
      rwa [add_none, add_none] at this
    exact ⟨q 0 (by omega), q 1 (by omega), q 2 (by omega), q 3 (by omega)⟩
theorem ints_fit {H : Type} {enc : TypeId × Value → H} {W : World} {a : Option Addr} {len cap fuel : Nat} {x : DataW H × List MemPlace}
    (hf : DataW.trod enc Try.prog W 0 (fun _ => true) true fuel 37 [.slice a len cap] = some x) (hw : ∀ n ∈ x.1.weights Try.prog 37, n ≤ reachBytes) : len ≤ 140737488351232 ∧ ∃ zs : List Int, Ri W a len zs ∧ ∀ j, j < len → -9223372036854775808 ≤ zs.getD j 0 ∧ zs.getD j 0 < 9223372036854775808 := by
  rcases open_ints Try.underlying37 Try.underlying3 Try.cellsI hf with ⟨hcs, hx⟩ | ⟨y, l, c, zs, hcs, _, hl, hm, hz, hx, hcell, hwz⟩
  · simp at hcs
    obtain ⟨rfl, rfl, rfl⟩ := hcs
    exact ⟨by omega, [], fun h => by omega, fun j h => by omega⟩
  · simp at hcs
    obtain ⟨rfl, rfl, rfl⟩ := hcs
    simp only [if_true] at hz
    subst hx
    have h4 : (lits (H := H) .i64 (zs.take len)).length = len := by simp [lits]; omega
    have hwl : len ≤ 140737488351232 := by
      have := hw (((lits (H := H) .i64 (zs.take len)).length + _) * Try.prog.bytesOf 3) (by
        simp only [DataW.weights, Try.underlying37, List.mem_cons]
        exact .inl rfl)
      rw [Try.bytesI, h4] at this
      simp only [reachBytes] at this
      omega
    refine ⟨hwl, zs, fun hn => ?_, fun j hj => ?_⟩
    · obtain ⟨b, off, spot⟩ := y
      have hc := hcell 0 (by omega)
      have hspot : spot = none := by simpa [Addr.add] using World.cell?_spot hc
      subst hspot
      refine ⟨b, off, rfl, block_lt_of_cell hc, fun j hj => ?_⟩
      rw [← add_none]
      exact hcell j (by omega)
    · have hjz : j < zs.length := by omega
      have := wf_i64 (hwz (zs.getD j 0) (by rw [List.getD_eq_getElem?_getD, List.getElem?_eq_getElem hjz]; exact List.getElem_mem hjz))
      omega
end Go.Proofs.Ytaijcnkmklibcaa
