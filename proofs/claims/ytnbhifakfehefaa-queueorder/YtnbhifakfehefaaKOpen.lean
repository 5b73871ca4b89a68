
/- Stage 17: what came in: a configuration. -/
import Derived.Test.YtnbhifakfehefaaKLive
import Derived.Test.YtnbhifakfehefaaRows
import Derived.SizedLaws
import Derived.JoinedOf
namespace Go.Proofs.Ytnbhifakfehefaa
open Go.RowKit Go.ChangeShapes Go.WideShapes Go.ChangeAt
set_option linter.unusedVariables false
theorem own : ownKnob Try.prog.godebug = none := by kernel_rfl
theorem laidOut : laidOutB Try.prog = true := by kernel_rfl
theorem Try.cellsI : Try.prog.cellsOf 3 = 1 := by kernel_rfl
theorem Try.cellsS : Try.prog.cellsOf 9 = 1 := by kernel_rfl
theorem Try.cellsBo : Try.prog.cellsOf 4 = 1 := by kernel_rfl
theorem Try.cellsQc : Try.prog.cellsOf 24 = 5 := by kernel_rfl
theorem five {α : Type} (l : List α) (h : l.length = 5) : ∃ a b c d e, l = [a, b, c, d, e] := by
  match l, h with
  | [a, b, c, d, e], _ => exact ⟨a, b, c, d, e, rfl⟩
theorem weights_each {H : Type} {P : Program} {ts : List TypeId} {ds : List (DataW H)} (h : (DataW.weightsEach P ts ds).all (· ≤ reachBytes) = true) {j : Nat} {t : TypeId} {d : DataW H} (ht : ts[j]? = some t) (hd : ds[j]? = some d) :
    ∀ n ∈ d.weights P t, n ≤ reachBytes := fun n hn => by
  have := List.all_eq_true.1 h n (DataW.weights_mem_each ht hd n hn)
  simpa using this
set_option maxRecDepth 100000 in
theorem cfg_open {H : Type} {enc : TypeId × Value → H} {W : World} {base fuel : Nat} {v : Value} {x : DataW H × List MemPlace} (hval : Value.okWide Try.prog W .any base 24 v)
    (hf : DataW.trod enc Try.prog W 0 (fun _ => true) true fuel 24 v.cells.toList = some x) (hw : ∀ n ∈ x.1.weights Try.prog 24, n ≤ reachBytes) : ∃ c : Cf, v = c.val ∧ c.s.size ≤ 281474976710656 ∧ c.d.size ≤ 281474976710656 := by
  obtain ⟨cs, rfl, hcs⟩ := okWide_struct Try.underlying24 hval
  obtain ⟨xs, n, hfu, hx, hlen, hxl, hff⟩ := DataW.trod_struct Try.underlying24 hf
  rw [Try.cellsQc] at hlen
  obtain ⟨c0, c1, c2, c3, c4, hcl⟩ := five _ hlen
  rw [hcl] at hff
  obtain ⟨x0, x1, x2, x3, x4, rfl⟩ := five xs hxl
  have f0 : DataW.trod enc Try.prog W 0 (fun _ => true) true n 9 ([c0, c1, c2, c3, c4].take (Try.prog.cellsOf 9)) = some x0 := hff 0 _ rfl
  have f1 : DataW.trod enc Try.prog W 0 (fun _ => true) true n 3 ([c1, c2, c3, c4].take (Try.prog.cellsOf 3)) = some x1 := hff 1 _ rfl
  have f2 : DataW.trod enc Try.prog W 0 (fun _ => true) true n 9 ([c2, c3, c4].take (Try.prog.cellsOf 9)) = some x2 := hff 2 _ rfl
  have f3 : DataW.trod enc Try.prog W 0 (fun _ => true) true n 3 ([c3, c4].take (Try.prog.cellsOf 3)) = some x3 := hff 3 _ rfl
  have f4 : DataW.trod enc Try.prog W 0 (fun _ => true) true n 4 ([c4].take (Try.prog.cellsOf 4)) = some x4 := hff 4 _ rfl
  rw [Try.cellsI] at f1 f3
  rw [Try.cellsS] at f0 f2
  rw [Try.cellsBo] at f4
  simp only [List.take_succ_cons, List.take_zero] at f0 f1 f2 f3 f4
  obtain ⟨s, e0, rfl, _⟩ := DataW.trod_string Try.underlying9 f0
  obtain ⟨m, e1, _, w1⟩ := DataW.trod_int Try.underlying3 f1
  obtain ⟨d, e2, rfl, _⟩ := DataW.trod_string Try.underlying9 f2
  obtain ⟨t, e3, _, w3⟩ := DataW.trod_int Try.underlying3 f3
  obtain ⟨b, e4, _⟩ := DataW.trod_bool Try.underlying4 f4
  obtain rfl : c0 = .string s := by simpa using e0
  obtain rfl : c1 = .int .i64 m := by simpa using e1
  obtain rfl : c2 = .string d := by simpa using e2
  obtain rfl : c3 = .int .i64 t := by simpa using e3
  obtain rfl : c4 = .bool b := by simpa using e4
  have hs : s.data.toList.length ≤ reachBytes := hw _ (by
    rw [hx]
    simp only [DataW.weights, Try.underlying24]
    exact DataW.weights_mem_each (j := 0) rfl rfl _ (by simp [DataW.weights]))
  have hd : d.data.toList.length ≤ reachBytes := hw _ (by
    rw [hx]
    simp only [DataW.weights, Try.underlying24]
    exact DataW.weights_mem_each (j := 2) rfl rfl _ (by simp [DataW.weights]))
  have hz : ∀ u : ByteArray, u.data.toList.length ≤ reachBytes → u.size ≤ 281474976710656 := fun u hu => by
    have : u.size = u.data.toList.length := (Array.length_toList (xs := u.data)).symm
    rw [this]
    simp only [reachBytes] at hu
    omega
  refine ⟨⟨s, m, d, t, b⟩, ?_, hz s hs, hz d hd⟩
  simp only [Value.cells] at hcl
  unfold Cf.val
  congr 1
  cases cs
  simpa using congrArg List.toArray hcl
end Go.Proofs.Ytnbhifakfehefaa
