/-
  The numbers under which this seat's dump holds sync.Mutex's functions and types, and that it holds them.
-/
import Derived.Test.YtabfamhaihnccaaGreatProg
import Derived.Conc.RwLib
import Derived.KernelRfl
namespace Go.Proofs.YtabfamhaihnccaaGreat
abbrev muLink : Go.Conc.Locks.MuLink := { lock := 99, unlock := 100, ilock := 145, iunlock := 146, lockSlow := 180, unlockSlow := 183, disable := 176, enable := 178, acquire := 179, relMerge := 181, cas32 := 177, add32 := 182, tMutex := 155, tIMutex := 153, tPMutex := 199, tPIMutex := 217, tPI32 := 219, tUP := 221, tNoCopy := 150, tU32 := 151 }
theorem muLib : Go.Conc.Locks.MuLib Tryz.prog muLink :=
  ⟨Tryz.func99, Tryz.func100, Tryz.func145, Tryz.func146, Tryz.func176, Tryz.func178, Tryz.func179, Tryz.func181, Tryz.func177, Tryz.func182, Tryz.underlying153, Tryz.runUnderlying153, Tryz.sizeOf153, Tryz.isAgg153, Tryz.zeroValue153, Tryz.underlying155, Tryz.runUnderlying155, Tryz.sizeOf155, Tryz.isAgg155, Tryz.zeroValue155, Tryz.underlying199, Tryz.runUnderlying199, Tryz.sizeOf199, Tryz.isAgg199, Tryz.zeroValue199, Tryz.underlying217, Tryz.runUnderlying217, Tryz.sizeOf217, Tryz.isAgg217, Tryz.zeroValue217, Tryz.underlying219, Tryz.runUnderlying219, Tryz.sizeOf219, Tryz.isAgg219, Tryz.zeroValue219, Tryz.underlying221, Tryz.runUnderlying221, Tryz.sizeOf221, Tryz.isAgg221, Tryz.zeroValue221, Tryz.underlying150, Tryz.runUnderlying150, Tryz.sizeOf150, Tryz.isAgg150, Tryz.zeroValue150, Tryz.underlying21, Tryz.runUnderlying21, Tryz.sizeOf21, Tryz.isAgg21, Tryz.zeroValue21, (by kernel_rfl)⟩
end Go.Proofs.YtabfamhaihnccaaGreat
