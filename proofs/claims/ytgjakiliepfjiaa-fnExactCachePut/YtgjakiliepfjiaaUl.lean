/- The numbers under which this program holds the library's mutex, and that it holds it; no condition. -/
import Derived.Test.YtgjakiliepfjiaaProg
import Derived.Conc.RwLib
import Derived.Conc.MuData
import Derived.KernelRfl
namespace Go.Proofs
abbrev Try.muLink : Go.Conc.Locks.MuLink := { lock := 57, unlock := 58, ilock := 67, iunlock := 68, lockSlow := 82, unlockSlow := 85, disable := 78, enable := 80, acquire := 81, relMerge := 83, cas32 := 79, add32 := 84, tMutex := 95, tIMutex := 93, tPMutex := 107, tPIMutex := 118, tPI32 := 120, tUP := 122, tNoCopy := 90, tU32 := 91 }
theorem Try.muLib : Go.Conc.Locks.MuLib Try.prog Try.muLink :=
  ⟨Try.func57, Try.func58, Try.func67, Try.func68, Try.func78, Try.func80, Try.func81, Try.func83, Try.func79, Try.func84, Try.underlying93, Try.runUnderlying93, Try.sizeOf93, Try.isAgg93, Try.zeroValue93, Try.underlying95, Try.runUnderlying95, Try.sizeOf95, Try.isAgg95, Try.zeroValue95, Try.underlying107, Try.runUnderlying107, Try.sizeOf107, Try.isAgg107, Try.zeroValue107, Try.underlying118, Try.runUnderlying118, Try.sizeOf118, Try.isAgg118, Try.zeroValue118, Try.underlying120, Try.runUnderlying120, Try.sizeOf120, Try.isAgg120, Try.zeroValue120, Try.underlying122, Try.runUnderlying122, Try.sizeOf122, Try.isAgg122, Try.zeroValue122, Try.underlying90, Try.runUnderlying90, Try.sizeOf90, Try.isAgg90, Try.zeroValue90, Try.underlying21, Try.runUnderlying21, Try.sizeOf21, Try.isAgg21, Try.zeroValue21, (by kernel_rfl)⟩
end Go.Proofs
