/- The numbers of the locks' functions and types in this program. -/
import Derived.Test.YtcibcfghkidncaaGreatDoorProg
import Derived.Conc.MuLone
import Derived.Conc.MuLib
import Derived.KernelRfl
namespace Go.Proofs.YtcibcfghkidncaaGreatDoor
abbrev muLink:Go.Conc.Locks.MuLink := { lock := 47,unlock := 48,ilock := 85,iunlock := 86,lockSlow := 116,unlockSlow := 119,disable := 112,enable := 114,acquire := 115,relMerge := 117,cas32 := 113,add32 := 118,tMutex := 95,tIMutex := 93,tPMutex := 170,tPIMutex := 198,tPI32 := 200,tUP := 87,tNoCopy := 90,tU32 := 91 }
theorem muLib:Go.Conc.Locks.MuLib Tryz.prog muLink :=
 ⟨Tryz.func47,Tryz.func48,Tryz.func85,Tryz.func86,Tryz.func112,Tryz.func114,Tryz.func115,Tryz.func117,Tryz.func113,Tryz.func118,Tryz.underlying93,Tryz.runUnderlying93,Tryz.sizeOf93,Tryz.isAgg93,Tryz.zeroValue93,Tryz.underlying95,Tryz.runUnderlying95,Tryz.sizeOf95,Tryz.isAgg95,Tryz.zeroValue95,Tryz.underlying170,Tryz.runUnderlying170,Tryz.sizeOf170,Tryz.isAgg170,Tryz.zeroValue170,Tryz.underlying198,Tryz.runUnderlying198,Tryz.sizeOf198,Tryz.isAgg198,Tryz.zeroValue198,Tryz.underlying200,Tryz.runUnderlying200,Tryz.sizeOf200,Tryz.isAgg200,Tryz.zeroValue200,Tryz.underlying87,Tryz.runUnderlying87,Tryz.sizeOf87,Tryz.isAgg87,Tryz.zeroValue87,Tryz.underlying90,Tryz.runUnderlying90,Tryz.sizeOf90,Tryz.isAgg90,Tryz.zeroValue90,Tryz.underlying21,Tryz.runUnderlying21,Tryz.sizeOf21,Tryz.isAgg21,Tryz.zeroValue21,(by kernel_rfl)⟩

end Go.Proofs.YtcibcfghkidncaaGreatDoor
