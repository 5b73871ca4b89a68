/- HCopy, HGCopy -/
import Derived.Test.YtgldcchleoklcaaGreatDoorK15
import Derived.Test.YtgldcchleoklcaaGreatDoorK18
import Derived.Laws.CopyRow
import Derived.Laws.CopyOwn
import Derived.Laws.Tables
namespace Go.Proofs.YtgldcchleoklcaaGreatDoor

open Go.RowKit
set_option linter.unusedVariables false
set_option linter.unusedSimpArgs false
theorem run_copy5 (w : World) (ty : TypeId) (g dLen dCap : Nat) (a : Addr) (sLen sCap : Nat) (cur : Array Value) (t : TypeId) (cs : List Value)
    (hg : w.heap[g]? = some (.cells cur t (0, 0))) (hn : cs.length = Nat.min sLen dLen * 5)
    (hsrc : ∀ j v, cs[j]? = some v → w.cell? (a.add j) = some v) (hfit : cs.length ≤ cur.size) (h1 : ∀ v ∈ cs, v.oneCell' = true) :
    (Builtin.copy_ #[31, 31] ty #[.slice (some ⟨g, 0, none⟩) dLen dCap, .slice (some a) sLen sCap]).run Tryz.prog w =
      .ok (goInt (Nat.min sLen dLen)) (w.setRow g (cs ++ cur.toList.drop cs.length).toArray) := by
  have hl := run_loadCells_list (P := Tryz.prog) w a cs hsrc
  have hst := run_storeCells_at Tryz.prog g 0 t cs 0 cur w hg (by simpa using hfit) h1
  have hs : (Tryz.prog.info? 42).map (·.size) = some 5 := by kernel_rfl
  cases hq : Tryz.prog.info? 42 with
  | none => rw [hq] at hs; cases hs
  | some i =>
    have hi : i.size = 5 := by rw [hq] at hs; exact Option.some.inj hs
    rw [hn] at hl
    simp [Builtin.copy_, run_underlying Tryz.underlying31, Builtin.lenOf, Builtin.firstCells, sizeOf, typeInfo, hq, hi, hl, hst]
theorem flat_one (l : List V) : ∀ u ∈ flat l, u.oneCell' = true := by
  intro u hu
  obtain ⟨j, hj⟩ := List.mem_iff_getElem?.1 hu
  have hl : j < (flat l).length := (List.getElem?_eq_some_iff.1 hj).1
  rw [flat_length] at hl
  have hg := flat_get l (j / 5) (j % 5) (by omega) (by omega)
  rw [show j / 5 * 5 + j % 5 = j by omega, hj] at hg
  exact V.words_one _ u (List.mem_of_getElem? hg.symm)
theorem copy_vals (w : World) (ty : TypeId) (g n b o sc : Nat) (th : List V) (hn : th.length ≤ n) (hk : Blk w g 42 (n * 5)) (hrow : Row w b o th) (hz : RowF w g n (fun _ => leaf 0 0 ⟨#[]⟩)) :
    ∃ w', (Builtin.copy_ #[31, 31] ty #[.slice (some ⟨g, 0, none⟩) n n, .slice (some ⟨b, o, none⟩) th.length sc]).run Tryz.prog w = .ok (goInt th.length) w' ∧
      Blk w' g 42 (n * 5) ∧ RowF w' g n (fun j => (th[j]?).getD (leaf 0 0 ⟨#[]⟩)) ∧ w'.heap.size = w.heap.size ∧ (∀ k, k ≠ g → w'.heap[k]? = w.heap[k]?) ∧ ∀ B w0, Below B w0 w → B ≤ g → Below B w0 w' := by
  obtain ⟨cur, hc, hs⟩ := hk
  have hmin : Nat.min th.length n = th.length := Nat.min_eq_left hn
  have hcl : (flat th).length = th.length * 5 := flat_length th
  have hrun := run_copy5 w ty g n n ⟨b, o, none⟩ th.length sc cur 42 (flat th) hc (by rw [hmin, hcl]) (fun j v hj => by
    have hl : j < (flat th).length := (List.getElem?_eq_some_iff.1 hj).1
    rw [hcl] at hl
    have hg := flat_get th (j / 5) (j % 5) (by omega) (by omega)
    rw [show j / 5 * 5 + j % 5 = j by omega, hj] at hg
    have hr := hrow (j / 5) (by omega)
    have ha : (⟨b, o, none⟩ : Addr).add j = ⟨b, o + j, none⟩ := by simp [Addr.add]
    rw [ha, hg]
    obtain ⟨h0, h1, h2, h3, h4⟩ := hr
    have hq : j % 5 = 0 ∨ j % 5 = 1 ∨ j % 5 = 2 ∨ j % 5 = 3 ∨ j % 5 = 4 := by omega
    rcases hq with h | h | h | h | h <;> rw [h]
    · rw [show o + j = o + j / 5 * 5 by omega]; exact h0
    · rw [show o + j = o + j / 5 * 5 + 1 by omega]; exact h1
    · rw [show o + j = o + j / 5 * 5 + 2 by omega]; exact h2
    · rw [show o + j = o + j / 5 * 5 + 3 by omega]; exact h3
    · rw [show o + j = o + j / 5 * 5 + 4 by omega]; exact h4) (by rw [hcl, hs]; exact Nat.mul_le_mul_right 5 hn) (flat_one th)
  rw [hmin] at hrun
  refine ⟨_, hrun, ?_, ?_, by simp, fun k hk => setRow_other _ _ _ _ hk, fun B w0 h1 h2 => below_setRow h1 h2 _⟩
  · refine ⟨_, setRow_heap _ _ _ _ _ _ hc, ?_⟩
    simp only [List.size_toArray, List.length_append, List.length_drop, Array.length_toList]
    rw [hcl, hs]
    have := Nat.mul_le_mul_right 5 hn
    omega
  · intro j hj q hq
    show _ = (words ((th[j]?).getD (leaf 0 0 ⟨#[]⟩)))[q]?
    rw [cell_setRow_same _ _ _ _ _ _ _ hc, List.getElem?_toArray]
    by_cases h : j < th.length
    · rw [List.getElem?_append_left (by rw [hcl]; omega), flat_get th j q h hq, List.getElem?_eq_getElem h]
      rfl
    · have hth : th[j]? = none := List.getElem?_eq_none (by omega)
      rw [hth, List.getElem?_append_right (by rw [hcl]; omega), List.getElem?_drop, hcl]
      have h5 : w.cell? ⟨g, j * 5 + q, none⟩ = (words (leaf 0 0 ⟨#[]⟩))[q]? := hz j hj q hq
      rw [show th.length * 5 + (j * 5 + q - th.length * 5) = j * 5 + q by omega]
      show _ = (words (leaf 0 0 ⟨#[]⟩))[q]?
      rw [← h5]
      unfold World.cell?
      simp only [hc]
      simp
end Go.Proofs.YtgldcchleoklcaaGreatDoor
namespace Go.Proofs.YtgldcchleoklcaaGreatDoor

open Go.RowKit
set_option linter.unusedVariables false
set_option linter.unusedSimpArgs false
theorem copy_empty (w : World) (ty : TypeId) (g n sc : Nat) (a : Option Addr) :
    (Builtin.copy_ #[31, 31] ty #[.slice (some ⟨g, 0, none⟩) n n, .slice a 0 sc]).run Tryz.prog w = .ok (goInt 0) w := by
  have hs : (Tryz.prog.info? 42).map (·.size) = some 5 := by kernel_rfl
  cases hq : Tryz.prog.info? 42 with
  | none => rw [hq] at hs; cases hs
  | some i =>
    have hi : i.size = 5 := by rw [hq] at hs; exact Option.some.inj hs
    cases a <;> simp [Builtin.copy_, run_underlying Tryz.underlying31, Builtin.lenOf, Builtin.firstCells, sizeOf, typeInfo, hq, hi, loadCells, loadCellsFrom, storeCells]
theorem copy_any (w : World) (ty : TypeId) (g n sc : Nat) (a : Option Addr) (th : List V) (hn : th.length ≤ n) (hk : Blk w g 42 (n * 5)) (hrow : 0 < th.length → ∃ b o, a = some ⟨b, o, none⟩ ∧ Row w b o th) (hz : RowF w g n (fun _ => leaf 0 0 ⟨#[]⟩)) :
    ∃ w', (Builtin.copy_ #[31, 31] ty #[.slice (some ⟨g, 0, none⟩) n n, .slice a th.length sc]).run Tryz.prog w = .ok (goInt th.length) w' ∧
      Blk w' g 42 (n * 5) ∧ RowF w' g n (fun j => (th[j]?).getD (leaf 0 0 ⟨#[]⟩)) ∧ w'.heap.size = w.heap.size ∧ (∀ k, k ≠ g → w'.heap[k]? = w.heap[k]?) ∧ ∀ B w0, Below B w0 w → B ≤ g → Below B w0 w' := by
  cases th with
  | nil => exact ⟨w, copy_empty w ty g n sc a, hk, hz, rfl, fun _ _ => rfl, fun _ _ h _ => h⟩
  | cons x th =>
    obtain ⟨b, o, rfl, hr⟩ := hrow (by simp)
    exact copy_vals w ty g n b o sc (x :: th) hn hk hr hz
end Go.Proofs.YtgldcchleoklcaaGreatDoor
