
/- Stage 14: See. -/
import Derived.Test.YtjipcdknkghoaaaLNew
namespace Go.Proofs.Ytjipcdknkghoaaa
open Go.RowKit Go.Maps
set_option linter.unusedVariables false
set_option linter.unusedSimpArgs false

set_option maxRecDepth 100000 in
set_option maxHeartbeats 1000000 in
theorem see_any (g : Nat) (l : Lk) (T : List (ByteArray × Dv)) (w : World) (h : Lnk w g l T) :
    Calls Try.prog 9 #[.pointer (some ⟨g, 0, none⟩)] w fun e w' => e = .returned (.agg (l.see T.length)) ∧ Below w.heap.size w w' := by
  obtain ⟨s0, s1, s2, s3, s4, s5, s6, s7, s8, s9, s10, s11⟩ := h.lb.facts
  have hl := h.lb.lt
  have HT := hide (fun (o p : Obj) => ((h.tb.at (Below.heap_alloc w o _ h.tb.lt)).at (Below.heap_alloc (w.alloc o) p _ (Nat.lt_of_lt_of_le h.tb.lt (by simp))) : TbD ((w.alloc o).alloc p) l.dm T))
  clear h
  unfold Lk.see
  go_enter Try.func9, Try.ntmps9
  go_wp2_with (refine len_D rfl _ rfl l.dm rfl T (HT.out _ _) ?_)
  exact bodyPost_ret (v := .agg (l.see T.length)) (results_cell_row Try.results9 _ _ w.heap.size 38 (l.see T.length) (0, 0) _ rfl (heap_past (heap_alloc_last w _) _) Try.underlying38 rfl (by kernel_rfl)) rfl ⟨rfl, bel1 (bel1 (Below.refl _ _) (Nat.le_refl _) _) (by simp) _⟩
end Go.Proofs.Ytjipcdknkghoaaa
