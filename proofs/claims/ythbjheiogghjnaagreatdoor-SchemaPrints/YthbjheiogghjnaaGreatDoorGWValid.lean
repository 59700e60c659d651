/- The library's check of UTF-8, by its contract, laid at this program. -/
import Derived.Shelf.Unicode.ValidAny
import Derived.Lib.LaidU8T
import Derived.PinnedBridge
import Derived.WalkKit
import Derived.Test.YthbjheiogghjnaaGreatDoorGWChkR
namespace Go.Proofs.YthbjheiogghjnaaGreatDoor
open Go.RowKit Go.Shelf Go.Lib
set_option maxRecDepth 100000

def laysV_ren : Go.Shelf.Ren := ⟨fun | 196 => 52 | 259 => 73 | n => n, fun | 9 => 9 | 4 => 4 | 3 => 3 | 5 => 5 | 12 => 12 | 119 => 101 | 0 => 0 | 46 => 105 | 139 => 104 | 138 => 103 | 53 => 83 | n => n, fun | 3 => 2 | 4 => 3 | n => n⟩
theorem laysV : Lays.n196 Tryz.prog laysV_ren :=
  { mixed := by kernel_rfl,
    f196 := Tryz.func52.trans (congrArg some (by kernel_rfl)),
    f259 := Tryz.func73.trans (congrArg some (by kernel_rfl)),
    t0 := Tryz.underlying0,
    a0 := Tryz.isAgg0,
    z0 := Tryz.sizeOf0,
    v0 := Tryz.zeroValue0,
    t3 := Tryz.underlying3,
    a3 := Tryz.isAgg3,
    z3 := Tryz.sizeOf3,
    v3 := Tryz.zeroValue3,
    t4 := Tryz.underlying4,
    a4 := Tryz.isAgg4,
    z4 := Tryz.sizeOf4,
    v4 := Tryz.zeroValue4,
    t5 := Tryz.underlying5,
    a5 := Tryz.isAgg5,
    z5 := Tryz.sizeOf5,
    v5 := Tryz.zeroValue5,
    t9 := Tryz.underlying9,
    a9 := Tryz.isAgg9,
    z9 := Tryz.sizeOf9,
    v9 := Tryz.zeroValue9,
    t12 := Tryz.underlying12,
    a12 := Tryz.isAgg12,
    z12 := Tryz.sizeOf12,
    v12 := Tryz.zeroValue12,
    t46 := Tryz.underlying105,
    a46 := Tryz.isAgg105,
    z46 := Tryz.sizeOf105,
    v46 := Tryz.zeroValue105,
    t53 := Tryz.underlying83,
    a53 := Tryz.isAgg83,
    z53 := Tryz.sizeOf83,
    v53 := Tryz.zeroValue83,
    t119 := Tryz.underlying101,
    a119 := Tryz.isAgg101,
    z119 := Tryz.sizeOf101,
    t138 := Tryz.underlying103,
    a138 := Tryz.isAgg103,
    z138 := Tryz.sizeOf103,
    v138 := Tryz.zeroValue103,
    t139 := Tryz.underlying104,
    a139 := Tryz.isAgg104,
    z139 := Tryz.sizeOf104,
    v139 := Tryz.zeroValue104,
    g3 := by kernel_rfl,
    g4 := by kernel_rfl }

theorem valid_any (s : ByteArray) (w : World) (hs : s.size ≤ 9223372036854775807) (hT : Lib.Utf8Tabs 2 3 w) :
    Calls Tryz.prog 52 #[.string s] w fun e w' => e = .returned (.bool (Lib.validD s.data.toList)) ∧ Below w.heap.size w w' :=
  Any.utf8_ValidString laysV s w hs hT
theorem tabs_keep {w w' : World} (hb : Below w.heap.size w w') (hg : 3 < w.heap.size) (h : Lib.Utf8Tabs 2 3 w) : Lib.Utf8Tabs 2 3 w' :=
  ⟨fun c hc => old_cell hb (by omega) (h.1 c hc), fun i hi => ⟨old_cell hb (by omega) (h.2 i hi).1, old_cell hb (by omega) (h.2 i hi).2⟩⟩

end Go.Proofs.YthbjheiogghjnaaGreatDoor
