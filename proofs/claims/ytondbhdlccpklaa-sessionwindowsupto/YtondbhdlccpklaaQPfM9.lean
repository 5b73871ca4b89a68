import Derived.Test.YtondbhdlccpklaaQAllM9
import Derived.Great.BuildSlice

/- Stage 13: a performative's cells; first. -/
namespace Go.Proofs.Ytondbhdlccpklaa
open Go.RowKit Go.Maps
set_option linter.unusedVariables false
set_option linter.unusedSimpArgs false

def pfA (ki re ni iw no ow hm hd co cr av : Int) (dr : Bool) : Array Value := #[.int .i64 ki, .string ⟨#[]⟩, .string ⟨#[]⟩, .int .i64 0, .int .i64 0, .int .i64 0, .int .i64 0, .int .u64 0, .string ⟨#[]⟩, .slice none 0 0, .int .i64 0, .int .i64 re, .int .i64 ni, .int .i64 iw, .int .i64 no, .int .i64 ow, .int .i64 hm, .string ⟨#[]⟩, .int .i64 hd, .bool false, .int .i64 0, .int .i64 0, .int .i64 0, .string ⟨#[]⟩, .int .i64 0, .int .i64 0, .int .i64 0, .bool false, .int .i64 0, .string ⟨#[]⟩, .int .i64 0, .int .i64 0, .int .i64 0, .string ⟨#[]⟩, .string ⟨#[]⟩, .int .i64 0, .int .u64 0, .string ⟨#[]⟩, .slice none 0 0, .int .i64 0, .bool false, .bool false, .int .i64 0, .int .u64 0, .string ⟨#[]⟩, .slice none 0 0, .int .i64 0, .string ⟨#[]⟩, .slice none 0 0, .slice none 0 0, .slice none 0 0, .int .i64 0, .string ⟨#[]⟩, .int .i64 0, .int .i64 0, .int .i64 0, .bool false, .int .i64 0, .string ⟨#[]⟩, .int .i64 0, .int .i64 0, .int .i64 0, .string ⟨#[]⟩, .string ⟨#[]⟩, .int .i64 0, .int .u64 0, .string ⟨#[]⟩, .slice none 0 0, .int .i64 0, .bool false, .bool false, .int .i64 0, .int .u64 0, .string ⟨#[]⟩, .slice none 0 0, .int .i64 0, .string ⟨#[]⟩, .slice none 0 0, .slice none 0 0, .slice none 0 0, .slice none 0 0, .bool false, .int .i64 0, .int .i64 0, .int .i64 co, .int .i64 cr, .int .i64 av, .bool dr, .bool false, .int .i64 0, .bool false, .string ⟨#[]⟩, .int .i64 0, .bool false, .bool false, .bool false, .bool false, .bool false, .bool false, .int .i64 0, .int .i64 0, .int .i64 0, .string ⟨#[]⟩, .string ⟨#[]⟩, .int .i64 0, .int .u64 0, .string ⟨#[]⟩, .slice none 0 0, .int .i64 0, .bool false, .bool false, .int .i64 0, .int .u64 0, .string ⟨#[]⟩, .slice none 0 0, .int .i64 0, .string ⟨#[]⟩, .slice none 0 0, .int .i64 0, .int .i64 0, .bool false, .string ⟨#[]⟩, .string ⟨#[]⟩, .int .i64 0, .int .u64 0, .string ⟨#[]⟩, .slice none 0 0, .int .i64 0]
theorem pfA_size (ki re ni iw no ow hm hd co cr av : Int) (dr : Bool) : (pfA ki re ni iw no ow hm hd co cr av dr).size = 128 := by kernel_rfl
theorem pfA_one (ki re ni iw no ow hm hd co cr av : Int) (dr : Bool) : (pfA ki re ni iw no ow hm hd co cr av dr).all (·.oneCell') = true := by kernel_rfl
theorem pfA_pf (ki re ni iw no ow hm hd co cr av : Int) (dr : Bool) : PfB (pfA ki re ni iw no ow hm hd co cr av dr) ki ni iw no ow hm := ⟨by kernel_rfl, by kernel_rfl, by kernel_rfl, by kernel_rfl, by kernel_rfl, by kernel_rfl, by kernel_rfl⟩
theorem Try.infoPf : (Try.prog.info? 39).map (·.size) = some 128 := by kernel_rfl
def pf0 : Array Value := pfA 17 0 0 2 5 10 1 0 0 0 0 false
set_option maxRecDepth 100000 in
set_option maxHeartbeats 4000000 in
theorem first_any (w : World) : Calls Try.prog 26 #[] w fun e w' => e = .returned (.agg pf0) ∧ Below w.heap.size w w' := by
  go_enter Try.func26, Try.ntmps26
  go_wp2_with (first | (refine wpList_buildTo rfl 39 _ rfl (some 1) rfl pf0 (by kernel_rfl) ?_) | (refine wpList_store_row rfl 39 (.tmp 0) (.tmp 1) rfl w.heap.size pf0 rfl rfl 39 _ (heap_alloc_last w _) Try.infoPf rfl (by kernel_rfl) ?_; rw [World.setRow_alloc_new]))
  exact bodyPost_ret (v := .agg pf0) (results_cell_row Try.results26 _ _ w.heap.size 39 pf0 (0, 0) _ rfl (heap_alloc_last w _) Try.underlying39 rfl Try.infoPf) rfl ⟨rfl, bel1 (Below.refl _ _) (Nat.le_refl _) _⟩
end Go.Proofs.Ytondbhdlccpklaa
