
/- The numbers under which this program holds sync.Mutex, and that it holds it. -/
import Derived.Test.YtdcoafpenkofoaaGreatDoorProg
import Derived.Conc.MuLib
import Derived.Conc.MuData
import Derived.KernelRfl
namespace Go.Proofs
abbrev Tryz.muLink : Go.Conc.Locks.MuLink := { lock := 72, unlock := 73, ilock := 111, iunlock := 112, lockSlow := 149, unlockSlow := 152, disable := 145, enable := 147, acquire := 148, relMerge := 150, cas32 := 146, add32 := 151, tMutex := 99, tIMutex := 97, tPMutex := 169, tPIMutex := 211, tPI32 := 213, tUP := 176, tNoCopy := 94, tU32 := 95 }
theorem Tryz.muLib : Go.Conc.Locks.MuLib Tryz.prog Tryz.muLink :=
  ⟨Tryz.func72, Tryz.func73, Tryz.func111, Tryz.func112, Tryz.func145, Tryz.func147, Tryz.func148, Tryz.func150, Tryz.func146, Tryz.func151, Tryz.underlying97, Tryz.runUnderlying97, Tryz.sizeOf97, Tryz.isAgg97, Tryz.zeroValue97, Tryz.underlying99, Tryz.runUnderlying99, Tryz.sizeOf99, Tryz.isAgg99, Tryz.zeroValue99, Tryz.underlying169, Tryz.runUnderlying169, Tryz.sizeOf169, Tryz.isAgg169, Tryz.zeroValue169, Tryz.underlying211, Tryz.runUnderlying211, Tryz.sizeOf211, Tryz.isAgg211, Tryz.zeroValue211, Tryz.underlying213, Tryz.runUnderlying213, Tryz.sizeOf213, Tryz.isAgg213, Tryz.zeroValue213, Tryz.underlying176, Tryz.runUnderlying176, Tryz.sizeOf176, Tryz.isAgg176, Tryz.zeroValue176, Tryz.underlying94, Tryz.runUnderlying94, Tryz.sizeOf94, Tryz.isAgg94, Tryz.zeroValue94, Tryz.underlying21, Tryz.runUnderlying21, Tryz.sizeOf21, Tryz.isAgg21, Tryz.zeroValue21, (by kernel_rfl)⟩
end Go.Proofs
