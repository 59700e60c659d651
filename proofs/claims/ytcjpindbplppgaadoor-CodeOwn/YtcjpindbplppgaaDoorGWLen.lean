/- The library's count of bits, by its contract, laid at this program. -/
import Derived.Test.YtcjpindbplppgaaDoorProg
import Derived.Shelf.Strconv.Itoa0
import Derived.WalkKit
namespace Go.Proofs.YtcjpindbplppgaaDoor
open Go.RowKit Go.Shelf Go.Lib
set_option maxRecDepth 100000

def laysL_ren : Go.Shelf.Ren := ⟨fun | 129 => 57 | n => n, fun | 3 => 3 | 4 => 4 | 5 => 5 | 9 => 9 | 46 => 78 | 53 => 61 | n => n, fun n => n⟩
theorem laysL : Lays.n129 Tryd.prog laysL_ren :=
  { mixed := by kernel_rfl,
    f129 := Tryd.func57.trans (congrArg some (by kernel_rfl)),
    t3 := Tryd.underlying3,
    a3 := Tryd.isAgg3,
    z3 := Tryd.sizeOf3,
    v3 := Tryd.zeroValue3,
    t4 := Tryd.underlying4,
    a4 := Tryd.isAgg4,
    z4 := Tryd.sizeOf4,
    v4 := Tryd.zeroValue4,
    t5 := Tryd.underlying5,
    a5 := Tryd.isAgg5,
    z5 := Tryd.sizeOf5,
    v5 := Tryd.zeroValue5,
    t9 := Tryd.underlying9,
    a9 := Tryd.isAgg9,
    z9 := Tryd.sizeOf9,
    v9 := Tryd.zeroValue9,
    t46 := Tryd.underlying78,
    a46 := Tryd.isAgg78,
    z46 := Tryd.sizeOf78,
    v46 := Tryd.zeroValue78,
    t53 := Tryd.underlying61,
    a53 := Tryd.isAgg61,
    z53 := Tryd.sizeOf61,
    v53 := Tryd.zeroValue61 }

theorem len64_any (n : Nat) (w : World) (hn : n < 18446744073709551616) :
    Calls Tryd.prog 57 #[.int .u64 (n : Int)] w fun e w' => e = .returned (.int .i64 (Lib.bitLen n : Nat)) ∧ w' = w := by
  have h := Any.bits_Len64 laysL (n : Int) w (by omega) (by omega)
  rw [Int.toNat_natCast] at h
  exact h

end Go.Proofs.YtcjpindbplppgaaDoor
