
/- What live reckons. -/
import Derived.Test.YtjclfacegbhmkaaGreatDoorHUnpack
import Derived.Test.YtjclfacegbhmkaaGreatDoorVCheckA
import Derived.Test.YtjclfacegbhmkaaGreatDoorVREq
namespace Go.Proofs.YtjclfacegbhmkaaGreatDoor
open Go.RowKit
set_option linter.unusedVariables false
set_option linter.unusedSimpArgs false
theorem eqT_leaf (k n : Int) (s : ByteArray) (k' n' : Int) (s' : ByteArray) : eqT (leaf k n s).t (leaf k' n' s').t = (decide (k = k') && decide (n = n') && decide (s.toList = s'.toList)) := by
  unfold leaf
  rw [eqT_of]
  have h : eqsT (V.ts []) (V.ts []) = true := rfl
  rw [h]
  simp
set_option maxRecDepth 100000 in
theorem kind22 : kindL (leaf 5 22 ⟨#[]⟩).t krows = some 22 := by
  simp only [krows, kindL, eqT_leaf]
  rfl
theorem live_outs : outs [leaf 4 7 ⟨#[]⟩, leaf 1 0 ⟨#[]⟩, leaf 0 0 ⟨#[]⟩] [leaf 0 0 ⟨#[]⟩, leaf 1 0 ⟨#[]⟩, leaf 0 0 ⟨#[]⟩] = [leaf 4 7 ⟨#[]⟩, leaf 0 0 ⟨#[]⟩, leaf 0 0 ⟨#[]⟩] := by
  simp only [outs, List.zipWith, eqT_leaf]
  rfl
theorem live_said : saidN [leaf 4 7 ⟨#[]⟩, leaf 1 0 ⟨#[]⟩, leaf 0 0 ⟨#[]⟩] [leaf 0 0 ⟨#[]⟩, leaf 1 0 ⟨#[]⟩, leaf 0 0 ⟨#[]⟩] 3 = 1 := by
  rw [saidN_step _ _ 2 (by simp) (by simp), saidN_step _ _ 1 (by simp) (by simp), saidN_step _ _ 0 (by simp) (by simp)]
  simp [eqT_leaf]
theorem live_check (k n : Int) (h : faultT 1 (leaf k n ⟨#[]⟩).t = 0) : firstE checkZ ((leaf k n ⟨#[]⟩).all 1) = 0 := by
  refine firstE_none _ _ (fun x hx => ?_)
  unfold leaf at hx h
  rw [V.all_of] at hx
  have hx' : x = (1, V.of k n ⟨#[]⟩ none 0 0 []) := by simpa [V.alls] using hx
  rw [hx']
  exact h
theorem live_f4 : faultT 1 (leaf 4 7 ⟨#[]⟩).t = 0 := by
  unfold leaf
  rw [faultT_of]
  first
  | rfl
  | decide
  | decide +kernel
theorem live_f1 : faultT 1 (leaf 1 0 ⟨#[]⟩).t = 0 := by
  unfold leaf
  rw [faultT_of]
  first
  | rfl
  | decide
  | decide +kernel
theorem live_f0 : faultT 1 (leaf 0 0 ⟨#[]⟩).t = 0 := by
  unfold leaf
  rw [faultT_of]
  first
  | rfl
  | decide
  | decide +kernel
set_option maxRecDepth 100000 in
set_option maxHeartbeats 2000000 in
theorem equalAll_any (l m : List V) (a a' : Option Addr) (c c' n₀ : Nat) (w : World) (hn : n₀ ≤ w.heap.size) (hx : Lies n₀ w (.of 0 0 ⟨#[]⟩ a c 0 l)) (hy : Lies n₀ w (.of 0 0 ⟨#[]⟩ a' c' 0 m)) :
    Calls Tryz.prog 53 #[.slice a l.length c, .slice a' m.length c'] w fun e w' => e = .returned (.bool (eqsT (V.ts l) (V.ts m))) ∧ Below w.heap.size w w' := by
  have h := requal_any _ (.of 0 0 ⟨#[]⟩ a' c' 0 m) n₀ w hn hx hy
  rw [V.val_of, V.val_of, eqT_of] at h
  have HH := hide h
  clear h hx hy
  go_enter Tryz.func53, Tryz.ntmps53
  go_wp2_with fail
  refine HH.out.mono ?_
  rintro e w1 ⟨rfl, hb⟩
  go_wp2
  go_ret
  refine ⟨?_, hb⟩
  simp
end Go.Proofs.YtjclfacegbhmkaaGreatDoor
