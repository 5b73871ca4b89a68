/- A frame that came in. -/
import Derived.Test.YtboacpneoblklaaFSpec
import Derived.Test.YtboacpneoblklaaOpen
namespace Go.Proofs.Ytboacpneoblklaa
open Go.RowKit Go.ChangeShapes Go.WideShapes
set_option linter.unusedVariables false
set_option linter.unusedSimpArgs false

theorem Try.cellsI : Try.prog.cellsOf 3 = 1 := by kernel_rfl
theorem Try.cellsB : Try.prog.cellsOf 22 = 1 := by kernel_rfl
theorem Try.cellsF : Try.prog.cellsOf 24 = 4 := by kernel_rfl
theorem four {α : Type} (l : List α) (h : l.length = 4) : ∃ a b c d, l = [a, b, c, d] := by
  match l, h with
  | [a, b, c, d], _ => exact ⟨a, b, c, d, rfl⟩
theorem slice_of {H : Type} {enc : TypeId × Value → H} {W : World} {fuel : Nat} {c : Value} {x : DataW H × List MemPlace} (hf : DataW.trod enc Try.prog W 0 (fun _ => true) true fuel 22 [c] = some x) : ∃ a n cap, c = .slice a n cap := by
  rcases open_ints Try.underlying22 Try.underlying5 Try.cells5 hf with ⟨hcs, _⟩ | ⟨y, l, c', zs, hcs, _⟩
  · exact ⟨none, 0, 0, by simpa using hcs⟩
  · exact ⟨some y, l, c', by simpa using hcs⟩
theorem nil_cap {H : Type} {enc : TypeId × Value → H} {W : World} {fuel n cap : Nat} {a : Option Addr} {x : DataW H × List MemPlace} (hf : DataW.trod enc Try.prog W 0 (fun _ => true) true fuel 22 [.slice a n cap] = some x) : a = none → cap = 0 := fun h => by
  subst h
  rcases open_ints Try.underlying22 Try.underlying5 Try.cells5 hf with ⟨hcs, _⟩ | ⟨y, l, c', zs, hcs, _⟩
  · simp at hcs; exact hcs.2
  · simp at hcs
theorem weights_each {H : Type} {P : Program} {ts : List TypeId} {ds : List (DataW H)} (h : (DataW.weightsEach P ts ds).all (· ≤ reachBytes) = true) {j : Nat} {t : TypeId} {d : DataW H} (ht : ts[j]? = some t) (hd : ds[j]? = some d) :
    ∀ n ∈ d.weights P t, n ≤ reachBytes := fun n hn => by
  have := List.all_eq_true.1 h n (DataW.weights_mem_each ht hd n hn)
  simpa using this
set_option maxRecDepth 100000 in
/-- an argument -/
theorem frame_open {H : Type} {enc : TypeId × Value → H} {W : World} {base fuel : Nat} {v : Value} {d : DataW H} {p : List MemPlace} (hval : Value.okWide Try.prog W .any base 24 v)
    (hf : DataW.trod enc Try.prog W 0 (fun _ => true) true fuel 24 v.cells.toList = some (d, p)) (hw : ∀ n ∈ d.weights Try.prog 24, n ≤ reachBytes) :
    ∃ ty ch a n c b m e ext body, v = frV ty ch a n c b m e ∧ (Lit.int .i64 ty).wf = true ∧ (Lit.int .i64 ch).wf = true ∧ Rd W a n ext ∧ Rd W b m body ∧ n ≤ c ∧ m ≤ e ∧ c ≤ 140737488351232 ∧ e ≤ 140737488351232 ∧ (a = none → c = 0) ∧ (b = none → e = 0) := by
  obtain ⟨cs, rfl, hcs⟩ := okWide_struct Try.underlying24 hval
  obtain ⟨xs, n, hfu, hx, hlen, hxl, hff⟩ := DataW.trod_struct Try.underlying24 hf
  rw [Try.cellsF] at hlen
  obtain ⟨c0, c1, c2, c3, he⟩ := four _ hlen
  obtain ⟨x0, x1, x2, x3, rfl⟩ := four xs hxl
  rw [he] at hff
  have f0 : DataW.trod enc Try.prog W 0 (fun _ => true) true n 3 ([c0, c1, c2, c3].take (Try.prog.cellsOf 3)) = some x0 := hff 0 _ rfl
  have f1 : DataW.trod enc Try.prog W 0 (fun _ => true) true n 3 ([c1, c2, c3].take (Try.prog.cellsOf 3)) = some x1 := hff 1 _ rfl
  have f2 : DataW.trod enc Try.prog W 0 (fun _ => true) true n 22 ([c2, c3].take (Try.prog.cellsOf 22)) = some x2 := hff 2 _ rfl
  have f3 : DataW.trod enc Try.prog W 0 (fun _ => true) true n 22 ([c3].take (Try.prog.cellsOf 22)) = some x3 := hff 3 _ rfl
  rw [Try.cellsI] at f0 f1
  rw [Try.cellsB] at f2 f3
  simp only [List.take_succ_cons, List.take_zero] at f0 f1 f2 f3
  obtain ⟨ty, e0, rfl, wt⟩ := DataW.trod_int Try.underlying3 f0
  obtain ⟨ch, e1, rfl, wc⟩ := DataW.trod_int Try.underlying3 f1
  obtain rfl : c0 = .int .i64 ty := by simpa using e0
  obtain rfl : c1 = .int .i64 ch := by simpa using e1
  obtain ⟨a, na, ca, rfl⟩ := slice_of f2
  obtain ⟨b, nb, cb, rfl⟩ := slice_of f3
  obtain ⟨ext, r2, l2, s2⟩ := bytes_open f2
  obtain ⟨body, r3, l3, s3⟩ := bytes_open f3
  have hd : d = .agg ([(DataW.lit (.int .i64 ty), ([] : List MemPlace)), (DataW.lit (.int .i64 ch), []), x2, x3].map (·.1)) := by
    have := congrArg Prod.fst hx
    simpa using this
  have hwt : ∀ (xx : DataW H × List MemPlace) (cap : Nat), xx = x2 ∨ xx = x3 → ((xx.1 = .nil ∧ cap = 0) ∨ ∃ e s, xx.1 = .slice e s ∧ e.length + s.length = cap) → cap ≤ 140737488351232 := fun xx cap hor hs => by
    rcases hs with ⟨_, rfl⟩ | ⟨e, s, he', hc⟩
    · omega
    · have hq : ∀ q ∈ xx.1.weights Try.prog 22, q ≤ reachBytes := fun q hq => hw q (by
        rw [hd]
        simp only [DataW.weights, Try.underlying24, List.map_cons, List.map_nil, DataW.weightsEach, List.mem_append]
        rcases hor with rfl | rfl <;> simp [hq])
      have := hq ((e.length + s.length) * 1) (by rw [he']; simp [DataW.weights, Try.underlying22, Try.bytes5])
      simp only [reachBytes] at this
      omega
  refine ⟨ty, ch, a, na, ca, b, nb, cb, ext, body, ?_, wt, wc, r2, r3, l2, l3, hwt x2 ca (.inl rfl) s2, hwt x3 cb (.inr rfl) s3, nil_cap f2, nil_cap f3⟩
  unfold frV
  simp only [Value.cells] at he
  congr 1
  cases cs
  simpa using he
end Go.Proofs.Ytboacpneoblklaa
