/- Rows of values that are copied, and rows of values held against each other. The walks of Column, on both sides. -/
import Derived.Test.YthbjheiogghjnaaGreatDoorGWOwnV
namespace Go.Proofs.YthbjheiogghjnaaGreatDoor
open Go.RowKit
set_option maxRecDepth 100000





end Go.Proofs.YthbjheiogghjnaaGreatDoor

namespace Go.Proofs.YthbjheiogghjnaaGreatDoor
open Go.RowKit
set_option maxRecDepth 100000

/-- a column's number, by its name -/
def colF (nm : ByteArray) : List Cl → Nat → Int × Int
  | [], _ => (0, 5)
  | c :: cs, k => if (c.nm.toList == nm.toList) = true then ((k : Int), 0) else colF nm cs (k + 1)
theorem colF_hit {nm : ByteArray} {cs : List Cl} {j : Nat} (hj : j < cs.length) (h : (cs[j].nm.toList == nm.toList) = true) : colF nm (cs.drop j) j = ((j : Int), 0) := by
  rw [List.drop_eq_getElem_cons hj, colF, if_pos h]
theorem colF_step {nm : ByteArray} {cs : List Cl} {j : Nat} (hj : j < cs.length) (h : (cs[j].nm.toList == nm.toList) = false) : colF nm (cs.drop j) j = colF nm (cs.drop (j + 1)) (j + 1) := by
  rw [List.drop_eq_getElem_cons hj, colF, if_neg (by rw [h]; simp)]
theorem colF_end {nm : ByteArray} {cs : List Cl} : colF nm (cs.drop cs.length) cs.length = (0, 5) := by
  rw [List.drop_length, colF]
theorem tupV {a b c d : Int} (h : (a, b) = (c, d)) : Ending.returned (.tuple #[.int .i64 a, .int .i64 b]) = Ending.returned (.tuple #[.int .i64 c, .int .i64 d]) := by
  injection h with h1 h2
  rw [h1, h2]





end Go.Proofs.YthbjheiogghjnaaGreatDoor
