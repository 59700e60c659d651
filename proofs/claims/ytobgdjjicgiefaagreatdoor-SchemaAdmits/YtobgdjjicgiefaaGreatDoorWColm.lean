/- The walks of Column, on both sides. -/
import Derived.Test.YtobgdjjicgiefaaGreatDoorWRow
namespace Go.Proofs.YtobgdjjicgiefaaGreatDoor
open Go.RowKit
set_option maxRecDepth 100000

/-- a column's number, by its name -/
def colF (nm : ByteArray) : List Cl → Nat → Int × Int
  | [], _ => (0, 5)
  | c :: cs, k => if (c.nm.toList == nm.toList) = true then ((k : Int), 0) else colF nm cs (k + 1)
theorem colF_hit {nm : ByteArray} {cs : List Cl} {j : Nat} (hj : j < cs.length) (h : (cs[j].nm.toList == nm.toList) = true) : colF nm (cs.drop j) j = ((j : Int), 0) := by
  rw [List.drop_eq_getElem_cons hj, colF, if_pos h]
theorem colF_step {nm : ByteArray} {cs : List Cl} {j : Nat} (hj : j < cs.length) (h : (cs[j].nm.toList == nm.toList) = false) : colF nm (cs.drop j) j = colF nm (cs.drop (j + 1)) (j + 1) := by
  rw [List.drop_eq_getElem_cons hj, colF, if_neg (by rw [h]; simp)]
theorem colF_end {nm : ByteArray} {cs : List Cl} : colF nm (cs.drop cs.length) cs.length = (0, 5) := by
  rw [List.drop_length, colF]
theorem tupV {a b c d : Int} (h : (a, b) = (c, d)) : Ending.returned (.tuple #[.int .i64 a, .int .i64 b]) = Ending.returned (.tuple #[.int .i64 c, .int .i64 d]) := by
  injection h with h1 h2
  rw [h1, h2]

set_option maxHeartbeats 2000000 in
theorem rcolumn_any (t : Tb) (a : TabP) (nm : ByteArray) (w : World) (hV : TabV w w.heap.size t a) (hlen : t.cs.length ≤ 17592186043904) :
    Calls Tryz.prog 16 #[a.val t, .string nm] w fun e w' => e = .returned (.tuple #[.int .i64 (colF nm t.cs 0).1, .int .i64 (colF nm t.cs 0).2]) ∧ Below w.heap.size w w' := by
  obtain ⟨pc, cc, pk, ck, px, cx, pr, cr⟩ := a
  have HV : Hid (RowC w w.heap.size pc t.cs) := hV.cs
  have HB : Hid (BoxT _ _ _ _) := BoxT.new w t ⟨pc, cc, pk, ck, px, cx, pr, cr⟩
  have hb0 : Below w.heap.size w (w.alloc (.cells #[.string t.nm, .slice pc t.cs.length cc, .slice pk t.key.length ck, .slice px t.ix.length cx, .slice pr t.rf.length cr] 29)) := by go_grown
  obtain ⟨hz0, e0, e1, e2, e3, e4⟩ := HB.out
  dsimp only at e0 e1 e2 e3 e4
  clear hV HB
  obtain ⟨ra, rb, hr⟩ : ∃ x y, colF nm t.cs 0 = (x, y) := ⟨_, _, rfl⟩
  have HR : Hid (colF nm t.cs 0 = (ra, rb)) := hr
  rw [hr]
  clear hr
  unfold TabP.val
  go_enter Tryz.func16, Tryz.ntmps16
  go_wp2_with fail
  generalize hw1 : w.alloc (.cells #[.string t.nm, .slice pc t.cs.length cc, .slice pk t.key.length ck, .slice px t.ix.length cx, .slice pr t.rf.length cr] 29) = w1 at *
  clear hw1
  go_loopw [6] (fun k wr => wr = w1 ∧ ∃ j : Nat, j ≤ t.cs.length ∧ k = .int .i64 (j : Int) ∧ Hid (colF nm (t.cs.drop j) j = (ra, rb))) (fun k _ => t.cs.length - (intOf k).toNat)
  case atStart => exact ⟨rfl, 0, Nat.zero_le _, by go_num, HR⟩
  case round =>
    obtain ⟨hw, j, hj, rfl, hF⟩ := hrel
    subst hw
    by_cases hj0 : j = t.cs.length
    · subst hj0
      rw [colF_end] at hF
      go_wp2
      go_ret2
      exact ⟨tupV hF.out, hb0⟩
    · have hj1 : j < t.cs.length := by omega
      obtain ⟨b, o, rfl, hbB, a0, -⟩ := HV.out j hj1
      have y0 := (hb0.cell (p := ⟨b, _, none⟩) hbB).trans a0
      cases hsame : (t.cs[j].nm.toList == nm.toList)
      · rw [colF_step hj1 hsame] at hF
        clear a0
        generalize t.cs[j] = c at *
        go_wp2_with fail
        go_roundw
        case rel => exact ⟨trivial, j + 1, hj1, by go_num, hF⟩
        case measure => simp [intOf]; omega
      · rw [colF_hit hj1 hsame] at hF
        clear a0
        generalize t.cs[j] = c at *
        go_wp2
        go_ret2
        exact ⟨tupV hF.out, hb0⟩

set_option maxHeartbeats 2000000 in
theorem column_any (t : Tb) (a : TabP) (nm : ByteArray) (w : World) (hV : TabV w w.heap.size t a) (hlen : t.cs.length ≤ 17592186043904) :
    Calls Tryz.prog 15 #[a.val t, .string nm] w fun e w' => e = .returned (.tuple #[.int .i64 (colF nm t.cs 0).1, .int .i64 (colF nm t.cs 0).2]) ∧ Below w.heap.size w w' := by
  obtain ⟨pc, cc, pk, ck, px, cx, pr, cr⟩ := a
  have HV : Hid (RowC w w.heap.size pc t.cs) := hV.cs
  have hb0 : Below w.heap.size w (w.alloc (.cells #[.string t.nm, .slice pc t.cs.length cc, .slice pk t.key.length ck, .slice px t.ix.length cx, .slice pr t.rf.length cr] 29)) := by go_grown
  have hsf := run_store_float
  clear hV
  obtain ⟨ra, rb, hr⟩ : ∃ x y, colF nm t.cs 0 = (x, y) := ⟨_, _, rfl⟩
  have HR : Hid (colF nm t.cs 0 = (ra, rb)) := hr
  rw [hr]
  clear hr
  unfold TabP.val
  go_enter Tryz.func15, Tryz.ntmps15
  go_wp2_with fail
  generalize hw1 : w.alloc (.cells #[.string t.nm, .slice pc t.cs.length cc, .slice pk t.key.length ck, .slice px t.ix.length cx, .slice pr t.rf.length cr] 29) = w1 at *
  clear hw1
  go_loopw [11] (fun k wr => ∃ j : Nat, j ≤ t.cs.length ∧ k = .int .i64 (j : Int) ∧ Hid (colF nm (t.cs.drop j) j = (ra, rb)) ∧ Hid (Below w.heap.size w wr)) (fun k _ => t.cs.length - (intOf k).toNat)
  case atStart => exact ⟨0, Nat.zero_le _, by go_num, HR, hb0⟩
  case round =>
    obtain ⟨j, hj, rfl, hF, hbw⟩ := hrel
    by_cases hj0 : j = t.cs.length
    · subst hj0
      rw [colF_end] at hF
      go_wp2
      go_ret2
      exact ⟨tupV hF.out, hbw.out⟩
    · have hj1 : j < t.cs.length := by omega
      obtain ⟨b, o, rfl, hbB, a0, a1, a2, a3, a4, a5, a6⟩ := HV.out j hj1
      have k : ∀ {o : Nat} {v : Option Value}, w.cell? ⟨b, o, none⟩ = v → wr.cell? ⟨b, o, none⟩ = v := fun {o v} hc => (hbw.out.cell (p := ⟨b, o, none⟩) hbB).trans hc
      have y0 := k a0
      have y1 := k a1
      have y2 := k a2
      have y3 := k a3
      have y4 := k a4
      have y5 := k a5
      have y6 := k a6
      cases hsame : (t.cs[j].nm.toList == nm.toList)
      · rw [colF_step hj1 hsame] at hF
        clear a0 a1 a2 a3 a4 a5 a6 k
        generalize t.cs[j] = c at *
        obtain ⟨cnm, kd, nl, ⟨dk, dn, df, ds⟩⟩ := c
        dsimp only at y0 y1 y2 y3 y4 y5 y6 hsame
        go_wp2_with fail
        go_roundw
        case rel => exact ⟨j + 1, hj1, by go_num, hF, hbw.out.alloc hbw.out.size _⟩
        case measure => simp [intOf]; omega
      · rw [colF_hit hj1 hsame] at hF
        clear a0 a1 a2 a3 a4 a5 a6 k
        generalize t.cs[j] = c at *
        obtain ⟨cnm, kd, nl, ⟨dk, dn, df, ds⟩⟩ := c
        dsimp only at y0 y1 y2 y3 y4 y5 y6 hsame
        go_wp2
        go_ret2
        exact ⟨tupV hF.out, hbw.out.alloc hbw.out.size _⟩
end Go.Proofs.YtobgdjjicgiefaaGreatDoor
