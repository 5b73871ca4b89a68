
/- The numbers under which this program holds sync.Mutex, and that it holds it. -/
import Derived.Test.YtgkdecjlanbmhaaProg
import Derived.Conc.MuLib
import Derived.Conc.MuData
import Derived.KernelRfl
namespace Go.Proofs
abbrev Try.muLink : Go.Conc.Locks.MuLink := { lock := 41, unlock := 42, ilock := 68, iunlock := 69, lockSlow := 81, unlockSlow := 84, disable := 77, enable := 79, acquire := 80, relMerge := 82, cas32 := 78, add32 := 83, tMutex := 75, tIMutex := 73, tPMutex := 103, tPIMutex := 110, tPI32 := 112, tUP := 114, tNoCopy := 70, tU32 := 71 }
theorem Try.muLib : Go.Conc.Locks.MuLib Try.prog Try.muLink :=
  ⟨Try.func41, Try.func42, Try.func68, Try.func69, Try.func77, Try.func79, Try.func80, Try.func82, Try.func78, Try.func83, Try.underlying73, Try.runUnderlying73, Try.sizeOf73, Try.isAgg73, Try.zeroValue73, Try.underlying75, Try.runUnderlying75, Try.sizeOf75, Try.isAgg75, Try.zeroValue75, Try.underlying103, Try.runUnderlying103, Try.sizeOf103, Try.isAgg103, Try.zeroValue103, Try.underlying110, Try.runUnderlying110, Try.sizeOf110, Try.isAgg110, Try.zeroValue110, Try.underlying112, Try.runUnderlying112, Try.sizeOf112, Try.isAgg112, Try.zeroValue112, Try.underlying114, Try.runUnderlying114, Try.sizeOf114, Try.isAgg114, Try.zeroValue114, Try.underlying70, Try.runUnderlying70, Try.sizeOf70, Try.isAgg70, Try.zeroValue70, Try.underlying21, Try.runUnderlying21, Try.sizeOf21, Try.isAgg21, Try.zeroValue21, (by kernel_rfl)⟩
end Go.Proofs
