/- A contract of the library, laid at this program. -/
import Derived.Shelf.Spec.TrailingZeros
import Derived.Test.YthpkppfnfbkjoaaDoorProg
namespace Go.Proofs
open Go.Shelf
def Tryd.lays729_ren : Go.Shelf.Ren := ⟨fun | 29 => 7 | n => n, fun | 22 => 25 | 3 => 3 | 4 => 4 | 25 => 27 | 54 => 38 | 0 => 0 | 5 => 5 | n => n, fun | 1 => 0 | n => n⟩
theorem Tryd.lays729 : Go.Proofs.Lays7.n29 Tryd.prog Tryd.lays729_ren := {
  mixed := by kernel_rfl
  f29 := Tryd.func7.trans (congrArg some (by kernel_rfl))
  t0 := Tryd.underlying0
  a0 := Tryd.isAgg0
  z0 := Tryd.sizeOf0
  v0 := Tryd.zeroValue0
  i0 := by kernel_rfl
  t3 := Tryd.underlying3
  a3 := Tryd.isAgg3
  z3 := Tryd.sizeOf3
  v3 := Tryd.zeroValue3
  i3 := by kernel_rfl
  t4 := Tryd.underlying4
  a4 := Tryd.isAgg4
  z4 := Tryd.sizeOf4
  v4 := Tryd.zeroValue4
  i4 := by kernel_rfl
  t5 := Tryd.underlying5
  a5 := Tryd.isAgg5
  z5 := Tryd.sizeOf5
  v5 := Tryd.zeroValue5
  i5 := by kernel_rfl
  t22 := Tryd.underlying25
  a22 := Tryd.isAgg25
  z22 := Tryd.sizeOf25
  v22 := Tryd.zeroValue25
  i22 := by kernel_rfl
  t25 := Tryd.underlying27
  a25 := Tryd.isAgg27
  z25 := Tryd.sizeOf27
  v25 := Tryd.zeroValue27
  i25 := by kernel_rfl
  t54 := Tryd.underlying38
  a54 := Tryd.isAgg38
  z54 := Tryd.sizeOf38
  g1 := by kernel_rfl }

end Go.Proofs
