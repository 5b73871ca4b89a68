/- VMade -/
import Derived.Test.YthhlpjhkeendcaaGreatDoorS01
import Derived.Test.YthhlpjhkeendcaaGreatDoorProg
import Derived.WalkLawsBesides
import Derived.Handy
import Derived.Outline
import Derived.Laws.MakeOwn
import Derived.RangeFuncRecord
namespace Go.Proofs.YthhlpjhkeendcaaGreatDoor
open Go.RowKit
set_option linter.unusedVariables false
theorem Tryz.infoV : (Tryz.prog.info? 25).map (fun i => (i.zero, i.size, i.bytes)) = some (some (.agg #[.int .i64 0, .int .u64 0, .string ⟨#[]⟩, .slice none 0 0, .int .i64 0]), 5, 64) := by kernel_rfl
def zeroV : Array Value := #[.int .i64 0, .int .u64 0, .string ⟨#[]⟩, .slice none 0 0, .int .i64 0]
theorem run_makeV (l c : Nat) (hl : l ≤ c) (hc : c ≤ 4398046511104) (w : World) :
    (Instr.makeSlice 23 (.int .i64 (l : Int)) (.int .i64 (c : Int))).run Tryz.prog w = .ok (.slice (some ⟨w.heap.size, 0, none⟩) l c) (w.alloc (.cells (madeCells zeroV (c * 5)) 25)) := by
  obtain ⟨i, hi, hzz⟩ := Option.map_eq_some_iff.1 Tryz.infoV
  simp only [Prod.mk.injEq] at hzz
  obtain ⟨hz, hs, hb⟩ := hzz
  have hr := run_make (P := Tryz.prog) w 23 25 i _ Tryz.underlying23 hi hz .i64 .i64 l c (by omega) (by omega) (by rw [hb]; omega) (by omega)
  simp only [Int.toNat_natCast, hs] at hr
  exact hr
theorem Blk.made (w : World) (zs : Array Value) (m : Nat) (t : TypeId) : Blk (w.alloc (.cells (madeCells zs m) t)) w.heap.size t m :=
  ⟨_, World.alloc_heap_new w _, size_madeCells _ _⟩
end Go.Proofs.YthhlpjhkeendcaaGreatDoor
