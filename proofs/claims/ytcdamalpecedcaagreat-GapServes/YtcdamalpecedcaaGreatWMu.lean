/- The numbers of the locks' functions and types in this program. -/
import Derived.Test.YtcdamalpecedcaaGreatProg
import Derived.Conc.MuLone
import Derived.Conc.MuLib
import Derived.KernelRfl
namespace Go.Proofs.YtcdamalpecedcaaGreat
abbrev muLink : Go.Conc.Locks.MuLink := { lock := 78, unlock := 79, ilock := 86, iunlock := 87, lockSlow := 104, unlockSlow := 107, disable := 100, enable := 102, acquire := 103, relMerge := 105, cas32 := 101, add32 := 106, tMutex := 93, tIMutex := 91, tPMutex := 150, tPIMutex := 162, tPI32 := 164, tUP := 60, tNoCopy := 86, tU32 := 87 }
theorem muLib : Go.Conc.Locks.MuLib Tryz.prog muLink :=
  ⟨Tryz.func78, Tryz.func79, Tryz.func86, Tryz.func87, Tryz.func100, Tryz.func102, Tryz.func103, Tryz.func105, Tryz.func101, Tryz.func106, Tryz.underlying91, Tryz.runUnderlying91, Tryz.sizeOf91, Tryz.isAgg91, Tryz.zeroValue91, Tryz.underlying93, Tryz.runUnderlying93, Tryz.sizeOf93, Tryz.isAgg93, Tryz.zeroValue93, Tryz.underlying150, Tryz.runUnderlying150, Tryz.sizeOf150, Tryz.isAgg150, Tryz.zeroValue150, Tryz.underlying162, Tryz.runUnderlying162, Tryz.sizeOf162, Tryz.isAgg162, Tryz.zeroValue162, Tryz.underlying164, Tryz.runUnderlying164, Tryz.sizeOf164, Tryz.isAgg164, Tryz.zeroValue164, Tryz.underlying60, Tryz.runUnderlying60, Tryz.sizeOf60, Tryz.isAgg60, Tryz.zeroValue60, Tryz.underlying86, Tryz.runUnderlying86, Tryz.sizeOf86, Tryz.isAgg86, Tryz.zeroValue86, Tryz.underlying21, Tryz.runUnderlying21, Tryz.sizeOf21, Tryz.isAgg21, Tryz.zeroValue21, (by kernel_rfl)⟩
end Go.Proofs.YtcdamalpecedcaaGreat
