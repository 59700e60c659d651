/- The library's count of bits, by its contract, laid at this program. -/
import Derived.Test.YteadniomgbhecaaGreatDoorProg
import Derived.Shelf.Strconv.Itoa0
import Derived.WalkKit
namespace Go.Proofs.YteadniomgbhecaaGreatDoor
open Go.RowKit Go.Shelf Go.Lib
set_option maxRecDepth 100000

def laysL_ren : Go.Shelf.Ren := ⟨fun | 129 => 83 | n => n, fun | 3 => 3 | 4 => 4 | 5 => 5 | 9 => 9 | 46 => 92 | 53 => 70 | n => n, fun n => n⟩
theorem laysL : Lays.n129 Tryz.prog laysL_ren :=
  { mixed := by kernel_rfl,
    f129 := Tryz.func83.trans (congrArg some (by kernel_rfl)),
    t3 := Tryz.underlying3,
    a3 := Tryz.isAgg3,
    z3 := Tryz.sizeOf3,
    v3 := Tryz.zeroValue3,
    t4 := Tryz.underlying4,
    a4 := Tryz.isAgg4,
    z4 := Tryz.sizeOf4,
    v4 := Tryz.zeroValue4,
    t5 := Tryz.underlying5,
    a5 := Tryz.isAgg5,
    z5 := Tryz.sizeOf5,
    v5 := Tryz.zeroValue5,
    t9 := Tryz.underlying9,
    a9 := Tryz.isAgg9,
    z9 := Tryz.sizeOf9,
    v9 := Tryz.zeroValue9,
    t46 := Tryz.underlying92,
    a46 := Tryz.isAgg92,
    z46 := Tryz.sizeOf92,
    v46 := Tryz.zeroValue92,
    t53 := Tryz.underlying70,
    a53 := Tryz.isAgg70,
    z53 := Tryz.sizeOf70,
    v53 := Tryz.zeroValue70 }

theorem len64_any (n : Nat) (w : World) (hn : n < 18446744073709551616) :
    Calls Tryz.prog 83 #[.int .u64 (n : Int)] w fun e w' => e = .returned (.int .i64 (Lib.bitLen n : Nat)) ∧ w' = w := by
  have h := Any.bits_Len64 laysL (n : Int) w (by omega) (by omega)
  rw [Int.toNat_natCast] at h
  exact h

end Go.Proofs.YteadniomgbhecaaGreatDoor
