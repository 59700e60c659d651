/- The walk of the document's answer for Meet. -/
import Derived.Test.YtcjpindbplppgaaDoorGWClone
namespace Go.Proofs.YtcjpindbplppgaaDoor
open Go.RowKit
set_option maxRecDepth 100000

theorem neq_zero (lo hi : ByteArray) (op : Bool) (lo' hi' : ByteArray) (op' : Bool) : (!eqR (bothR lo hi op lo' hi' op').1 (bothR lo hi op lo' hi' op').2.1 ⟨#[]⟩ ⟨#[]⟩ (bothR lo hi op lo' hi' op').2.2 false) = !emptyB (bothR lo hi op lo' hi' op').1 (bothR lo hi op lo' hi' op').2.1 (bothR lo hi op lo' hi' op').2.2 := by
  have e0 : emptyB ⟨#[]⟩ ⟨#[]⟩ false = true := by unfold emptyB; rw [ltB_irrefl]; rfl
  unfold bothR
  split
  · have : emptyB (mxB lo lo') ⟨#[]⟩ true = false := rfl
    rw [this]; simp [eqR]
  · split
    · rw [e0]; rw [eqR_self]
    · rename_i h
      have h' : emptyB (mxB lo lo') (bothH hi op hi' op') false = false := by simpa using h
      rw [h']
      congr 1
      cases hq : eqR (mxB lo lo') (bothH hi op hi' op') ⟨#[]⟩ ⟨#[]⟩ false false
      · rfl
      · exfalso
        unfold eqR at hq
        simp only [Bool.and_eq_true, beq_iff_eq] at hq
        have e1 : mxB lo lo' = ⟨#[]⟩ := bytes_eq (by rw [← ByteArray.toList_eq, ← ByteArray.toList_eq]; exact hq.1)
        have e2 : bothH hi op hi' op' = ⟨#[]⟩ := bytes_eq (by rw [← ByteArray.toList_eq, ← ByteArray.toList_eq]; exact hq.2.1)
        rw [e1, e2, e0] at h'
        exact absurd h' (by decide)

set_option maxHeartbeats 1000000 in
theorem run_neR (a b a' b' : ByteArray) (c c' : Bool) (w : World) : (binOp .neq 35 (rngV a b c) (rngV a' b' c')).run Tryd.prog w = .ok (.bool (!eqR a b a' b' c c')) w := by
  have h := run_eqR a b a' b' c c' w
  rw [run_eql_struct] at h
  rw [run_neq_struct]
  generalize (Op.equalIn 10000 35 (rngV a b c) (rngV a' b' c')).run Tryd.prog w = r at *
  cases r with
  | ok x w1 => simp [Result.andThen] at h ⊢; exact ⟨by rw [h.1], h.2⟩
  | _ => simp [Result.andThen] at h



end Go.Proofs.YtcjpindbplppgaaDoor
