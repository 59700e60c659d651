/- The library's check of UTF-8, by its contract, laid at this program. -/
import Derived.Shelf.Unicode.ValidAny
import Derived.Lib.LaidU8T
import Derived.PinnedBridge
import Derived.WalkKit
import Derived.Test.YtfknmblobcjapaaDoorGWChkR
namespace Go.Proofs.YtfknmblobcjapaaDoor
open Go.RowKit Go.Shelf Go.Lib
set_option maxRecDepth 100000

def laysV_ren : Go.Shelf.Ren := ⟨fun | 196 => 76 | 259 => 86 | n => n, fun | 9 => 9 | 4 => 4 | 3 => 3 | 5 => 5 | 12 => 12 | 119 => 129 | 0 => 0 | 46 => 56 | 139 => 132 | 138 => 131 | 53 => 46 | n => n, fun | 3 => 2 | 4 => 3 | n => n⟩
theorem laysV : Lays.n196 Tryd.prog laysV_ren :=
  { mixed := by kernel_rfl,
    f196 := Tryd.func76.trans (congrArg some (by kernel_rfl)),
    f259 := Tryd.func86.trans (congrArg some (by kernel_rfl)),
    t0 := Tryd.underlying0,
    a0 := Tryd.isAgg0,
    z0 := Tryd.sizeOf0,
    v0 := Tryd.zeroValue0,
    t3 := Tryd.underlying3,
    a3 := Tryd.isAgg3,
    z3 := Tryd.sizeOf3,
    v3 := Tryd.zeroValue3,
    t4 := Tryd.underlying4,
    a4 := Tryd.isAgg4,
    z4 := Tryd.sizeOf4,
    v4 := Tryd.zeroValue4,
    t5 := Tryd.underlying5,
    a5 := Tryd.isAgg5,
    z5 := Tryd.sizeOf5,
    v5 := Tryd.zeroValue5,
    t9 := Tryd.underlying9,
    a9 := Tryd.isAgg9,
    z9 := Tryd.sizeOf9,
    v9 := Tryd.zeroValue9,
    t12 := Tryd.underlying12,
    a12 := Tryd.isAgg12,
    z12 := Tryd.sizeOf12,
    v12 := Tryd.zeroValue12,
    t46 := Tryd.underlying56,
    a46 := Tryd.isAgg56,
    z46 := Tryd.sizeOf56,
    v46 := Tryd.zeroValue56,
    t53 := Tryd.underlying46,
    a53 := Tryd.isAgg46,
    z53 := Tryd.sizeOf46,
    v53 := Tryd.zeroValue46,
    t119 := Tryd.underlying129,
    a119 := Tryd.isAgg129,
    z119 := Tryd.sizeOf129,
    t138 := Tryd.underlying131,
    a138 := Tryd.isAgg131,
    z138 := Tryd.sizeOf131,
    v138 := Tryd.zeroValue131,
    t139 := Tryd.underlying132,
    a139 := Tryd.isAgg132,
    z139 := Tryd.sizeOf132,
    v139 := Tryd.zeroValue132,
    g3 := by kernel_rfl,
    g4 := by kernel_rfl }

theorem valid_any (s : ByteArray) (w : World) (hs : s.size ≤ 9223372036854775807) (hT : Lib.Utf8Tabs 2 3 w) :
    Calls Tryd.prog 76 #[.string s] w fun e w' => e = .returned (.bool (Lib.validD s.data.toList)) ∧ Below w.heap.size w w' :=
  Any.utf8_ValidString laysV s w hs hT
theorem tabs_keep {w w' : World} (hb : Below w.heap.size w w') (hg : 3 < w.heap.size) (h : Lib.Utf8Tabs 2 3 w) : Lib.Utf8Tabs 2 3 w' :=
  ⟨fun c hc => old_cell hb (by omega) (h.1 c hc), fun i hi => ⟨old_cell hb (by omega) (h.2 i hi).1, old_cell hb (by omega) (h.2 i hi).2⟩⟩

end Go.Proofs.YtfknmblobcjapaaDoor
