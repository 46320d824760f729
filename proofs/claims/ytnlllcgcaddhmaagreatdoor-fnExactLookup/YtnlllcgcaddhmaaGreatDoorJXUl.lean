/- The numbers under which this program holds the library's mutex, and that it holds it; no condition. -/
import Derived.Test.YtnlllcgcaddhmaaGreatDoorProg
import Derived.Conc.RwLib
import Derived.Conc.MuData
import Derived.KernelRfl
namespace Go.Proofs
abbrev Tryz.muLink : Go.Conc.Locks.MuLink := { lock := 99, unlock := 100, ilock := 142, iunlock := 143, lockSlow := 182, unlockSlow := 185, disable := 178, enable := 180, acquire := 181, relMerge := 183, cas32 := 179, add32 := 184, tMutex := 124, tIMutex := 122, tPMutex := 179, tPIMutex := 204, tPI32 := 206, tUP := 208, tNoCopy := 119, tU32 := 120 }
theorem Tryz.muLib : Go.Conc.Locks.MuLib Tryz.prog Tryz.muLink :=
 ⟨Tryz.func99, Tryz.func100, Tryz.func142, Tryz.func143, Tryz.func178, Tryz.func180, Tryz.func181, Tryz.func183, Tryz.func179, Tryz.func184, Tryz.underlying122, Tryz.runUnderlying122, Tryz.sizeOf122, Tryz.isAgg122, Tryz.zeroValue122, Tryz.underlying124, Tryz.runUnderlying124, Tryz.sizeOf124, Tryz.isAgg124, Tryz.zeroValue124, Tryz.underlying179, Tryz.runUnderlying179, Tryz.sizeOf179, Tryz.isAgg179, Tryz.zeroValue179, Tryz.underlying204, Tryz.runUnderlying204, Tryz.sizeOf204, Tryz.isAgg204, Tryz.zeroValue204, Tryz.underlying206, Tryz.runUnderlying206, Tryz.sizeOf206, Tryz.isAgg206, Tryz.zeroValue206, Tryz.underlying208, Tryz.runUnderlying208, Tryz.sizeOf208, Tryz.isAgg208, Tryz.zeroValue208, Tryz.underlying119, Tryz.runUnderlying119, Tryz.sizeOf119, Tryz.isAgg119, Tryz.zeroValue119, Tryz.underlying21, Tryz.runUnderlying21, Tryz.sizeOf21, Tryz.isAgg21, Tryz.zeroValue21, (by kernel_rfl)⟩
end Go.Proofs
