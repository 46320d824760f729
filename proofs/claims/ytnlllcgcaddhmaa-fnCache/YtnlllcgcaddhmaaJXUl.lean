/- The numbers under which this program holds the library's mutex, and that it holds it; no condition. -/
import Derived.Test.YtnlllcgcaddhmaaProg
import Derived.Conc.RwLib
import Derived.Conc.MuData
import Derived.KernelRfl
namespace Go.Proofs
abbrev Try.muLink : Go.Conc.Locks.MuLink := { lock := 34, unlock := 35, ilock := 43, iunlock := 44, lockSlow := 58, unlockSlow := 61, disable := 54, enable := 56, acquire := 57, relMerge := 59, cas32 := 55, add32 := 60, tMutex := 74, tIMutex := 72, tPMutex := 85, tPIMutex := 97, tPI32 := 99, tUP := 101, tNoCopy := 69, tU32 := 70 }
theorem Try.muLib : Go.Conc.Locks.MuLib Try.prog Try.muLink :=
 ⟨Try.func34, Try.func35, Try.func43, Try.func44, Try.func54, Try.func56, Try.func57, Try.func59, Try.func55, Try.func60, Try.underlying72, Try.runUnderlying72, Try.sizeOf72, Try.isAgg72, Try.zeroValue72, Try.underlying74, Try.runUnderlying74, Try.sizeOf74, Try.isAgg74, Try.zeroValue74, Try.underlying85, Try.runUnderlying85, Try.sizeOf85, Try.isAgg85, Try.zeroValue85, Try.underlying97, Try.runUnderlying97, Try.sizeOf97, Try.isAgg97, Try.zeroValue97, Try.underlying99, Try.runUnderlying99, Try.sizeOf99, Try.isAgg99, Try.zeroValue99, Try.underlying101, Try.runUnderlying101, Try.sizeOf101, Try.isAgg101, Try.zeroValue101, Try.underlying69, Try.runUnderlying69, Try.sizeOf69, Try.isAgg69, Try.zeroValue69, Try.underlying21, Try.runUnderlying21, Try.sizeOf21, Try.isAgg21, Try.zeroValue21, (by kernel_rfl)⟩
end Go.Proofs
