/- What came in, opened: a list of values. -/
import Derived.Test.YtaedlnliglmomaaDoorVOpen
namespace Go.Proofs.YtaedlnliglmomaaDoor
open Go.RowKit Go.ChangeShapes Go.WideShapes Go.ChangeAt
set_option linter.unusedVariables false

set_option maxRecDepth 100000 in
/-- a list that came in -/
theorem l_open {H : Type} {enc : TypeId × Value → H} {W : World} (fuel : Nat) (c3 : Value) (x : DataW H × List MemPlace)
    (hx : DataW.trod enc Tryd.prog W 0 (fun _ => true) true fuel 23 [c3] = some x) (hw3 : ∀ n ∈ x.1.weights Tryd.prog 23, n ≤ reachBytes) :
    ∃ v : V, c3 = .slice v.a v.l.length v.c ∧ Lies W.heap.size W v := by
  rcases DataW.trod_slice Tryd.underlying23 hx with ⟨e3, rfl⟩ | ⟨a, len, cap, elems, rest, n', hn', e3, rfl, _, hlc, hcm, hel, hE, hR, _⟩
  · obtain rfl : c3 = .slice none 0 0 := by simpa using e3
    exact ⟨.of 0 0 ⟨#[]⟩ none 0 0 [], by rw [V.l_of]; rfl, .mk ⟨by decide, by decide, by decide, by decide, by simp, by simp⟩ (by simp) (by simp)⟩
  · obtain rfl : c3 = .slice (some a) len cap := by simpa using e3
    obtain ⟨hrl, _⟩ := hR rfl
    have hcap : cap ≤ 2199023255552 := by
      have := hw3 ((elems.length + rest.length) * 64) (by
        simp [DataW.weights, Tryd.underlying23, Tryd.bytesV])
      simp only [reachBytes] at this
      omega
    rw [Tryd.cellsV] at hE
    have hpick : ∀ i, ∃ v : V, i < len → W.cells? 0 (a.add (i * 5)) 5 = some [.int .i64 v.k, .int .u64 v.n, .string v.s, .slice v.a v.l.length v.c, .int .i64 v.e] ∧ Lies W.heap.size W v := by
      intro i
      by_cases hi : i < len
      · have h1 := hE i hi
        rw [List.getElem?_eq_getElem (by omega)] at h1
        obtain ⟨ci, hci, hti⟩ := Option.bind_eq_some_iff.1 h1
        obtain ⟨v, rfl, hv⟩ := v_open n' ci _ hti (fun q hq => hw3 q (by
          simp only [DataW.weights, Tryd.underlying23, List.mem_cons, List.mem_append]
          exact .inr (.inl (weightsAll_mem _ (List.mem_map_of_mem (List.getElem_mem _)) hq))))
        exact ⟨v, fun _ => ⟨hci, hv⟩⟩
      · exact ⟨.of 0 0 ⟨#[]⟩ none 0 0 [], fun h => absurd h hi⟩
    obtain ⟨f, hfv⟩ := Classical.axiomOfChoice hpick
    have hll : ((List.range len).map f).length = len := by simp
    refine ⟨.of 0 0 ⟨#[]⟩ (some a) cap 0 ((List.range len).map f), by rw [V.l_of, hll]; rfl, .mk ⟨by decide, by decide, by decide, by decide, by rw [hll]; exact hlc, by rw [hll]; omega⟩ (fun h0 => ?_) (fun x hx => ?_)⟩
    · rw [hll] at h0
      obtain ⟨pb, po, spot⟩ := a
      have hc0 := (World.cells?_some (hfv 0 h0).1).2.2 0 (by omega)
      have hspot : spot = none := by
        simp only [List.getElem?_cons_zero] at hc0
        simpa [Addr.add] using World.cell?_spot hc0
      subst hspot
      refine ⟨pb, po, rfl, World.cells?_block (hfv 0 h0).1 (by omega), fun i hi => ?_⟩
      have hil : i < len := by simpa using hi
      have hc := (World.cells?_some (hfv i hil).1).2.2
      have hg : ((List.range len).map f)[i] = f i := by simp
      rw [hg]
      have q : ∀ j, j < 5 → W.cell? ⟨pb, po + i * 5 + j, none⟩ = ([.int .i64 (f i).k, .int .u64 (f i).n, .string (f i).s, .slice (f i).a (f i).l.length (f i).c, .int .i64 (f i).e] : List Value)[j]? := fun j hj => by
        have := hc j hj
        rwa [add_none, add_none] at this
      exact ⟨q 0 (by omega), q 1 (by omega), q 2 (by omega), q 3 (by omega), q 4 (by omega)⟩
    · obtain ⟨i, hi, rfl⟩ := List.mem_map.1 hx
      exact (hfv i (List.mem_range.1 hi)).2

set_option maxRecDepth 100000 in
/-- an argument -/
theorem args_open {H : Type} {enc : TypeId × Value → H} {W : World} {base fuel : Nat} {v : Value} {d : DataW H} {p : List MemPlace} (hval : Value.okWide Tryd.prog W .any base 23 v)
    (hf : DataW.trod enc Tryd.prog W 0 (fun _ => true) true fuel 23 v.cells.toList = some (d, p)) (hw : ∀ n ∈ d.weights Tryd.prog 23, n ≤ reachBytes) : ∃ x : V, v = .slice x.a x.l.length x.c ∧ Lies W.heap.size W x := by
  obtain ⟨a, n, c, rfl⟩ := okWide_slice Tryd.underlying23 hval
  exact l_open fuel _ _ hf hw
end Go.Proofs.YtaedlnliglmomaaDoor
