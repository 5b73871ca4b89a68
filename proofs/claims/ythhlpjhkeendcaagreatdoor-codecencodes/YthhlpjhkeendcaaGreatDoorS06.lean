/- VOpen -/
import Derived.Test.YthhlpjhkeendcaaGreatDoorS01
import Derived.Test.YthhlpjhkeendcaaGreatDoorRows
import Derived.WalkKit
import Derived.ProofKit
import Derived.OpenShut
import Derived.SizedLaws
namespace Go.Proofs.YthhlpjhkeendcaaGreatDoor
open Go.RowKit Go.ChangeShapes Go.WideShapes Go.ChangeAt
set_option linter.unusedVariables false
theorem Tryz.cellsI : Tryz.prog.cellsOf 3 = 1 := by kernel_rfl
theorem Tryz.cellsU : Tryz.prog.cellsOf 22 = 1 := by kernel_rfl
theorem Tryz.cellsS : Tryz.prog.cellsOf 9 = 1 := by kernel_rfl
theorem Tryz.cellsL : Tryz.prog.cellsOf 23 = 1 := by kernel_rfl
theorem Tryz.cellsV : Tryz.prog.cellsOf 25 = 5 := by kernel_rfl
theorem Tryz.bytesV : Tryz.prog.bytesOf 25 = 64 := by kernel_rfl
theorem wf_i64 {n : Int} (h : (Lit.int .i64 n).wf = true) : -9223372036854775808 ≤ n ∧ n ≤ 9223372036854775807 := by
  simpa [Lit.wf, IntKind.min, IntKind.max, IntKind.signed, IntKind.bits] using h
theorem wf_u64 {n : Int} (h : (Lit.int .u64 n).wf = true) : 0 ≤ n ∧ n ≤ 18446744073709551615 := by
  simpa [Lit.wf, IntKind.min, IntKind.max, IntKind.signed, IntKind.bits] using h
theorem add_none (b off j : Nat) : (⟨b, off, none⟩ : Addr).add j = ⟨b, off + j, none⟩ := by
  by_cases h : j = 0 <;> simp [Addr.add, h]
theorem weightsAll_mem {H : Type} {P : Program} {e : TypeId} {d : DataW H} {n : Nat} (l : List (DataW H)) (hd : d ∈ l) (hn : n ∈ d.weights P e) : n ∈ DataW.weightsAll P e l := by
  induction l with
  | nil => cases hd
  | cons x l ih =>
    simp only [DataW.weightsAll, List.mem_append]
    rcases List.mem_cons.1 hd with rfl | h
    · exact .inl hn
    · exact .inr (ih h)
theorem five {α : Type} (l : List α) (h : l.length = 5) : ∃ a b c d e, l = [a, b, c, d, e] := by
  match l, h with
  | [a, b, c, d, e], _ => exact ⟨a, b, c, d, e, rfl⟩
theorem v_open {H : Type} {enc : TypeId × Value → H} {W : World} : ∀ (fuel : Nat) (cs : List Value) (x : DataW H × List MemPlace),
    DataW.trod enc Tryz.prog W 0 (fun _ => true) true fuel 25 cs = some x → (∀ n ∈ x.1.weights Tryz.prog 25, n ≤ reachBytes) →
    ∃ v : V, cs = [.int .i64 v.k, .int .u64 v.n, .string v.s, .slice v.a v.l.length v.c, .int .i64 v.e] ∧ Lies W.heap.size W v := by
  intro fuel
  induction fuel using Nat.strongRecOn with
  | _ fuel ih =>
    intro cs x hx hw
    obtain ⟨xs, n, hfu, rfl, hlen, hxl, hf⟩ := DataW.trod_struct Tryz.underlying25 hx
    rw [Tryz.cellsV] at hlen
    obtain ⟨c0, c1, c2, c3, c4, rfl⟩ := five cs hlen
    obtain ⟨x0, x1, x2, x3, x4, rfl⟩ := five xs hxl
    have f0 : DataW.trod enc Tryz.prog W 0 (fun _ => true) true n 3 ([c0, c1, c2, c3, c4].take (Tryz.prog.cellsOf 3)) = some x0 := hf 0 _ rfl
    have f1 : DataW.trod enc Tryz.prog W 0 (fun _ => true) true n 22 ([c1, c2, c3, c4].take (Tryz.prog.cellsOf 22)) = some x1 := hf 1 _ rfl
    have f2 : DataW.trod enc Tryz.prog W 0 (fun _ => true) true n 9 ([c2, c3, c4].take (Tryz.prog.cellsOf 9)) = some x2 := hf 2 _ rfl
    have f3 : DataW.trod enc Tryz.prog W 0 (fun _ => true) true n 23 ([c3, c4].take (Tryz.prog.cellsOf 23)) = some x3 := hf 3 _ rfl
    have f4 : DataW.trod enc Tryz.prog W 0 (fun _ => true) true n 3 ([c4].take (Tryz.prog.cellsOf 3)) = some x4 := hf 4 _ rfl
    rw [Tryz.cellsI] at f0 f4
    rw [Tryz.cellsU] at f1
    rw [Tryz.cellsS] at f2
    rw [Tryz.cellsL] at f3
    simp only [List.take_succ_cons, List.take_zero] at f0 f1 f2 f3 f4
    obtain ⟨k, e0, rfl, wk⟩ := DataW.trod_int Tryz.underlying3 f0
    obtain ⟨m, e1, rfl, wm⟩ := DataW.trod_int Tryz.underlying22 f1
    obtain ⟨s, e2, rfl, ws⟩ := DataW.trod_string Tryz.underlying9 f2
    obtain ⟨e, e4, rfl, we⟩ := DataW.trod_int Tryz.underlying3 f4
    obtain rfl : c0 = .int .i64 k := by simpa using e0
    obtain rfl : c1 = .int .u64 m := by simpa using e1
    obtain rfl : c2 = .string s := by simpa using e2
    obtain rfl : c4 = .int .i64 e := by simpa using e4
    have hsz : s.size ≤ 281474976710656 := by
      have := hw s.data.toList.length (by
        simp only [DataW.weights, Tryz.underlying25, List.map_cons, List.map_nil, DataW.weightsEach, List.mem_append]
        simp)
      simp only [reachBytes, Array.length_toList] at this
      have e : s.size = s.data.size := rfl
      omega
    have hw3 : ∀ q ∈ x3.1.weights Tryz.prog 23, q ≤ reachBytes := fun q hq => hw q (by
      simp only [DataW.weights, Tryz.underlying25, List.map_cons, List.map_nil, DataW.weightsEach, List.mem_append]
      simp [hq])
    rcases DataW.trod_slice Tryz.underlying23 f3 with ⟨e3, rfl⟩ | ⟨a, len, cap, elems, rest, n', hn', e3, rfl, _, hlc, hcm, hel, hE, hR, _⟩
    · obtain rfl : c3 = .slice none 0 0 := by simpa using e3
      exact ⟨.of k m s none 0 e [], by rw [V.l_of]; rfl, .mk ⟨wf_i64 wk, wf_u64 wm, hsz, wf_i64 we, by simp, by simp⟩ (by simp) (by simp)⟩
    · obtain rfl : c3 = .slice (some a) len cap := by simpa using e3
      obtain ⟨hrl, _⟩ := hR rfl
      have hcap : cap ≤ 2199023255552 := by
        have := hw3 ((elems.length + rest.length) * 64) (by
          simp [DataW.weights, Tryz.underlying23, Tryz.bytesV])
        simp only [reachBytes] at this
        omega
      rw [Tryz.cellsV] at hE
      have hpick : ∀ i, ∃ v : V, i < len → W.cells? 0 (a.add (i * 5)) 5 = some [.int .i64 v.k, .int .u64 v.n, .string v.s, .slice v.a v.l.length v.c, .int .i64 v.e] ∧ Lies W.heap.size W v := by
        intro i
        by_cases hi : i < len
        · have h1 := hE i hi
          rw [List.getElem?_eq_getElem (by omega)] at h1
          obtain ⟨ci, hci, hti⟩ := Option.bind_eq_some_iff.1 h1
          obtain ⟨v, rfl, hv⟩ := ih n' (by omega) ci _ hti (fun q hq => hw3 q (by
            simp only [DataW.weights, Tryz.underlying23, List.mem_cons, List.mem_append]
            exact .inr (.inl (weightsAll_mem _ (List.mem_map_of_mem (List.getElem_mem _)) hq))))
          exact ⟨v, fun _ => ⟨hci, hv⟩⟩
        · exact ⟨.of 0 0 ⟨#[]⟩ none 0 0 [], fun h => absurd h hi⟩
      obtain ⟨f, hfv⟩ := Classical.axiomOfChoice hpick
      have hll : ((List.range len).map f).length = len := by simp
      refine ⟨.of k m s (some a) cap e ((List.range len).map f), by rw [V.l_of, hll]; rfl, .mk ⟨wf_i64 wk, wf_u64 wm, hsz, wf_i64 we, by rw [hll]; exact hlc, by rw [hll]; omega⟩ (fun h0 => ?_) (fun x hx => ?_)⟩
      · rw [hll] at h0
        obtain ⟨pb, po, spot⟩ := a
        have hc0 := (World.cells?_some (hfv 0 h0).1).2.2 0 (by omega)
        have hspot : spot = none := by
          simp only [List.getElem?_cons_zero] at hc0
          simpa [Addr.add] using World.cell?_spot hc0
        subst hspot
        refine ⟨pb, po, rfl, World.cells?_block (hfv 0 h0).1 (by omega), fun i hi => ?_⟩
        have hil : i < len := by simpa using hi
        have hc := (World.cells?_some (hfv i hil).1).2.2
        have hg : ((List.range len).map f)[i] = f i := by simp
        rw [hg]
        have q : ∀ j, j < 5 → W.cell? ⟨pb, po + i * 5 + j, none⟩ = ([.int .i64 (f i).k, .int .u64 (f i).n, .string (f i).s, .slice (f i).a (f i).l.length (f i).c, .int .i64 (f i).e] : List Value)[j]? := fun j hj => by
          have := hc j hj
          rwa [add_none, add_none] at this
        exact ⟨q 0 (by omega), q 1 (by omega), q 2 (by omega), q 3 (by omega), q 4 (by omega)⟩
      · obtain ⟨i, hi, rfl⟩ := List.mem_map.1 hx
        exact (hfv i (List.mem_range.1 hi)).2
theorem weights_each {H : Type} {P : Program} {ts : List TypeId} {ds : List (DataW H)} (h : (DataW.weightsEach P ts ds).all (· ≤ reachBytes) = true) {j : Nat} {t : TypeId} {d : DataW H} (ht : ts[j]? = some t) (hd : ds[j]? = some d) :
    ∀ n ∈ d.weights P t, n ≤ reachBytes := fun n hn => by
  have := List.all_eq_true.1 h n (DataW.weights_mem_each ht hd n hn)
  simpa using this
set_option maxRecDepth 100000 in
theorem arg_open {H : Type} {enc : TypeId × Value → H} {W : World} {base fuel : Nat} {v : Value} {d : DataW H} {p : List MemPlace} (hval : Value.okWide Tryz.prog W .any base 25 v)
    (hf : DataW.trod enc Tryz.prog W 0 (fun _ => true) true fuel 25 v.cells.toList = some (d, p)) (hw : ∀ n ∈ d.weights Tryz.prog 25, n ≤ reachBytes) : ∃ x : V, v = x.val ∧ Lies W.heap.size W x := by
  obtain ⟨cs, rfl, _⟩ := okWide_struct Tryz.underlying25 hval
  obtain ⟨x, h1, h2⟩ := v_open fuel _ _ hf hw
  refine ⟨x, ?_, h2⟩
  rw [V.val_eq]
  simp only [Value.cells] at h1
  congr 1
  cases cs
  simpa using h1
end Go.Proofs.YthhlpjhkeendcaaGreatDoor
