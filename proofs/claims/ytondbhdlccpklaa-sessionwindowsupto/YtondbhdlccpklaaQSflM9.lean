import Derived.Test.YtondbhdlccpklaaQFldM9

/- Stage 13: sameFlow at one Flow. -/
namespace Go.Proofs.Ytondbhdlccpklaa
open Go.RowKit Go.Maps
set_option linter.unusedVariables false
set_option linter.unusedSimpArgs false

set_option maxRecDepth 100000 in
set_option maxHeartbeats 8000000 in
theorem sameFlow_any (ni iw no ow : Int) (w : World) :
    Calls Try.prog 16 #[.agg (pfA 19 0 ni iw no ow 0 (-1) (-1) (-1) (-1) false), .agg (pfA 19 0 ni iw no ow 0 (-1) (-1) (-1) (-1) false)] w fun e w' => e = .returned (.bool true) ∧ Below w.heap.size w w' := by
  obtain ⟨A, hA⟩ : ∃ A, A = pfA 19 0 ni iw no ow 0 (-1) (-1) (-1) (-1) false := ⟨_, rfl⟩
  rw [← hA]
  have p0 : A[0]? = some (.int .i64 19) := by rw [hA]; kernel_rfl
  have p12 : A[12]? = some (.int .i64 ni) := by rw [hA]; kernel_rfl
  have p13 : A[13]? = some (.int .i64 iw) := by rw [hA]; kernel_rfl
  have p14 : A[14]? = some (.int .i64 no) := by rw [hA]; kernel_rfl
  have p15 : A[15]? = some (.int .i64 ow) := by rw [hA]; kernel_rfl
  have p18 : A[18]? = some (.int .i64 (-1)) := by rw [hA]; kernel_rfl
  have p84 : A[84]? = some (.int .i64 (-1)) := by rw [hA]; kernel_rfl
  have p85 : A[85]? = some (.int .i64 (-1)) := by rw [hA]; kernel_rfl
  have p86 : A[86]? = some (.int .i64 (-1)) := by rw [hA]; kernel_rfl
  have p87 : A[87]? = some (.bool false) := by rw [hA]; kernel_rfl
  have p88 : A[88]? = some (.bool false) := by rw [hA]; kernel_rfl
  have p1 : A[1]? = some (.string ⟨#[]⟩) := by rw [hA]; kernel_rfl
  have p2 : A[2]? = some (.string ⟨#[]⟩) := by rw [hA]; kernel_rfl
  have p3 : A[3]? = some (.int .i64 0) := by rw [hA]; kernel_rfl
  have p4 : A[4]? = some (.int .i64 0) := by rw [hA]; kernel_rfl
  have p5 : A[5]? = some (.int .i64 0) := by rw [hA]; kernel_rfl
  have p11 : A[11]? = some (.int .i64 0) := by rw [hA]; kernel_rfl
  have p16 : A[16]? = some (.int .i64 0) := by rw [hA]; kernel_rfl
  have p17 : A[17]? = some (.string ⟨#[]⟩) := by rw [hA]; kernel_rfl
  have p19 : A[19]? = some (.bool false) := by rw [hA]; kernel_rfl
  have p20 : A[20]? = some (.int .i64 0) := by rw [hA]; kernel_rfl
  have p21 : A[21]? = some (.int .i64 0) := by rw [hA]; kernel_rfl
  have p22 : A[22]? = some (.int .i64 0) := by rw [hA]; kernel_rfl
  have p51 : A[51]? = some (.int .i64 0) := by rw [hA]; kernel_rfl
  have p80 : A[80]? = some (.slice none 0 0) := by rw [hA]; kernel_rfl
  have p81 : A[81]? = some (.bool false) := by rw [hA]; kernel_rfl
  have p82 : A[82]? = some (.int .i64 0) := by rw [hA]; kernel_rfl
  have p83 : A[83]? = some (.int .i64 0) := by rw [hA]; kernel_rfl
  have p89 : A[89]? = some (.int .i64 0) := by rw [hA]; kernel_rfl
  have p90 : A[90]? = some (.bool false) := by rw [hA]; kernel_rfl
  have p91 : A[91]? = some (.string ⟨#[]⟩) := by rw [hA]; kernel_rfl
  have p92 : A[92]? = some (.int .i64 0) := by rw [hA]; kernel_rfl
  have p93 : A[93]? = some (.bool false) := by rw [hA]; kernel_rfl
  have p94 : A[94]? = some (.bool false) := by rw [hA]; kernel_rfl
  have p95 : A[95]? = some (.bool false) := by rw [hA]; kernel_rfl
  have p96 : A[96]? = some (.bool false) := by rw [hA]; kernel_rfl
  have p97 : A[97]? = some (.bool false) := by rw [hA]; kernel_rfl
  have p98 : A[98]? = some (.bool false) := by rw [hA]; kernel_rfl
  have p99 : A[99]? = some (.int .i64 0) := by rw [hA]; kernel_rfl
  have p118 : A[118]? = some (.int .i64 0) := by rw [hA]; kernel_rfl
  have p119 : A[119]? = some (.int .i64 0) := by rw [hA]; kernel_rfl
  have p120 : A[120]? = some (.bool false) := by rw [hA]; kernel_rfl
  have p121 : A[121]? = some (.string ⟨#[]⟩) := by rw [hA]; kernel_rfl
  have p6 : A[6]? = some (.int .i64 0) := by rw [hA]; kernel_rfl
  have p9 : A[9]? = some (.slice none 0 0) := by rw [hA]; kernel_rfl
  clear hA
  go_enter Try.func16, Try.ntmps16
  go_wp2
  go_ret
  exact ⟨rfl, bel1 (bel1 (Below.refl _ _) (Nat.le_refl _) _) (by simp) _⟩
end Go.Proofs.Ytondbhdlccpklaa
