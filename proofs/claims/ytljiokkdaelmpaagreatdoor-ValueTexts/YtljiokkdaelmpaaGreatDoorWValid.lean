/- The library's check of UTF-8, by its contract, laid at this program. -/
import Derived.Test.YtljiokkdaelmpaaGreatDoorWChkR
import Derived.Shelf.Unicode.ValidAny
import Derived.Lib.LaidU8T
import Derived.PinnedBridge
import Derived.WalkKit
namespace Go.Proofs.YtljiokkdaelmpaaGreatDoor
open Go.RowKit Go.Shelf Go.Lib
set_option maxRecDepth 100000

def laysV_ren : Go.Shelf.Ren := ⟨fun | 196 => 41 | 259 => 59 | n => n, fun | 9 => 9 | 4 => 4 | 3 => 3 | 5 => 5 | 12 => 12 | 119 => 69 | 0 => 0 | 46 => 67 | 139 => 72 | 138 => 71 | 53 => 57 | n => n, fun | 3 => 1 | 4 => 2 | n => n⟩
theorem laysV : Lays.n196 Tryz.prog laysV_ren :=
  { mixed := by kernel_rfl,
    f196 := Tryz.func41.trans (congrArg some (by kernel_rfl)),
    f259 := Tryz.func59.trans (congrArg some (by kernel_rfl)),
    t0 := Tryz.underlying0,
    a0 := Tryz.isAgg0,
    z0 := Tryz.sizeOf0,
    v0 := Tryz.zeroValue0,
    t3 := Tryz.underlying3,
    a3 := Tryz.isAgg3,
    z3 := Tryz.sizeOf3,
    v3 := Tryz.zeroValue3,
    t4 := Tryz.underlying4,
    a4 := Tryz.isAgg4,
    z4 := Tryz.sizeOf4,
    v4 := Tryz.zeroValue4,
    t5 := Tryz.underlying5,
    a5 := Tryz.isAgg5,
    z5 := Tryz.sizeOf5,
    v5 := Tryz.zeroValue5,
    t9 := Tryz.underlying9,
    a9 := Tryz.isAgg9,
    z9 := Tryz.sizeOf9,
    v9 := Tryz.zeroValue9,
    t12 := Tryz.underlying12,
    a12 := Tryz.isAgg12,
    z12 := Tryz.sizeOf12,
    v12 := Tryz.zeroValue12,
    t46 := Tryz.underlying67,
    a46 := Tryz.isAgg67,
    z46 := Tryz.sizeOf67,
    v46 := Tryz.zeroValue67,
    t53 := Tryz.underlying57,
    a53 := Tryz.isAgg57,
    z53 := Tryz.sizeOf57,
    v53 := Tryz.zeroValue57,
    t119 := Tryz.underlying69,
    a119 := Tryz.isAgg69,
    z119 := Tryz.sizeOf69,
    t138 := Tryz.underlying71,
    a138 := Tryz.isAgg71,
    z138 := Tryz.sizeOf71,
    v138 := Tryz.zeroValue71,
    t139 := Tryz.underlying72,
    a139 := Tryz.isAgg72,
    z139 := Tryz.sizeOf72,
    v139 := Tryz.zeroValue72,
    g3 := by kernel_rfl,
    g4 := by kernel_rfl }

theorem valid_any (s : ByteArray) (w : World) (hs : s.size ≤ 9223372036854775807) (hT : Lib.Utf8Tabs 1 2 w) :
    Calls Tryz.prog 41 #[.string s] w fun e w' => e = .returned (.bool (Lib.validD s.data.toList)) ∧ Below w.heap.size w w' :=
  Any.utf8_ValidString laysV s w hs hT
theorem tabs_keep {w w' : World} (hb : Below w.heap.size w w') (hg : 2 < w.heap.size) (h : Lib.Utf8Tabs 1 2 w) : Lib.Utf8Tabs 1 2 w' :=
  ⟨fun c hc => old_cell hb (by omega) (h.1 c hc), fun i hi => ⟨old_cell hb (by omega) (h.2 i hi).1, old_cell hb (by omega) (h.2 i hi).2⟩⟩

end Go.Proofs.YtljiokkdaelmpaaGreatDoor
