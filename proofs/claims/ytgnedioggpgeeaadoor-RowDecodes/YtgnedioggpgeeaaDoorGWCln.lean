/- A contract of the library, laid at this program: a text copied. -/
import Derived.Shelf.Pu.Clone
import Derived.Test.YtgnedioggpgeeaaDoorProg
import Derived.WalkKit
namespace Go.Proofs
open Go.Shelf Go.RowKit

def Tryd.cln_ren : Go.Shelf.Ren := ⟨fun | 25 => 105 | _ => 0, fun | 0 => 0 | 3 => 3 | 4 => 4 | 5 => 5 | 9 => 9 | 37 => 43 | 47 => 130 | _ => 0, fun _ => 0⟩
theorem Tryd.cln : LaysPu.n25 Tryd.prog Tryd.cln_ren := {
  mixed := by kernel_rfl
  f25 := Tryd.func105.trans (congrArg some (by kernel_rfl))
  t0 := Tryd.underlying0
  a0 := Tryd.isAgg0
  z0 := Tryd.sizeOf0
  v0 := Tryd.zeroValue0
  i0 := by kernel_rfl
  t3 := Tryd.underlying3
  a3 := Tryd.isAgg3
  z3 := Tryd.sizeOf3
  v3 := Tryd.zeroValue3
  i3 := by kernel_rfl
  t4 := Tryd.underlying4
  a4 := Tryd.isAgg4
  z4 := Tryd.sizeOf4
  v4 := Tryd.zeroValue4
  i4 := by kernel_rfl
  t5 := Tryd.underlying5
  a5 := Tryd.isAgg5
  z5 := Tryd.sizeOf5
  v5 := Tryd.zeroValue5
  i5 := by kernel_rfl
  t9 := Tryd.underlying9
  a9 := Tryd.isAgg9
  z9 := Tryd.sizeOf9
  v9 := Tryd.zeroValue9
  i9 := by kernel_rfl
  t37 := Tryd.underlying43
  a37 := Tryd.isAgg43
  z37 := Tryd.sizeOf43
  v37 := Tryd.zeroValue43
  i37 := by kernel_rfl
  t47 := Tryd.underlying130
  a47 := Tryd.isAgg130
  z47 := Tryd.sizeOf130
  v47 := Tryd.zeroValue130
  i47 := by kernel_rfl }

namespace YtgnedioggpgeeaaDoor
set_option maxRecDepth 100000
theorem clone_any (s : ByteArray) (w : World) (hs : s.size ≤ 281474976710656) : Calls Tryd.prog 90 #[.string s] w fun e w' => e = .returned (.string s) ∧ Below w.heap.size w w' := by
  have C1 : Hid (Calls Tryd.prog 105 #[.string s] w fun e w' => e = .returned (.string s) ∧ Below w.heap.size w w') := AnyPu.stringslite_Clone Tryd.cln s w hs
  go_enter Tryd.func90, Tryd.ntmps90
  go_wp2_with fail
  refine C1.out.mono ?_
  rintro e w1 ⟨rfl, hb⟩
  go_wp2_with fail
  go_ret
  exact ⟨rfl, hb⟩
end YtgnedioggpgeeaaDoor
end Go.Proofs
