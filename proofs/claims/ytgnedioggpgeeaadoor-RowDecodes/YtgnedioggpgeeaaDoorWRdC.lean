/- The walk of readValue. -/
import Derived.Test.YtgnedioggpgeeaaDoorWRdS
namespace Go.Proofs.YtgnedioggpgeeaaDoor
open Go.RowKit
set_option maxRecDepth 100000

theorem chk_null : vNull.chk = 0 := by decide +kernel
theorem chk_int (n : Int) : (vInt n).chk = 0 := by
  have e : ByteArray.toList ⟨#[]⟩ = [] := by decide +kernel
  have e2 : ByteArray.size ⟨#[]⟩ = 0 := rfl
  simp [vInt, Vl.chk, chkV, kindB, numB, floB, strB, e, e2]
theorem chk_flo (f : Nat) : (vFlo f).chk = 0 := by
  have e : ByteArray.toList ⟨#[]⟩ = [] := by decide +kernel
  have e2 : ByteArray.size ⟨#[]⟩ = 0 := rfl
  simp [vFlo, Vl.chk, chkV, kindB, numB, floB, strB, e, e2]
theorem chk_bool (b : Bool) : (vBool b).chk = 0 := by cases b <;> decide +kernel

theorem decA_null (c : Cl) (s : ByteArray) : decA c 0 s = if c.nl then some (vNull, 0) else none := by
  unfold decA decV
  rw [if_pos rfl]
  dsimp only
  unfold admE
  rw [if_pos chk_null, if_pos (show vNull.k = 0 from rfl)]
  cases c.nl <;> simp
theorem decA_bool {c : Cl} {bt : Nat} {s : ByteArray} (h : c.kd = 1) (h0 : bt = 1 ∨ bt = 2) : decA c bt s = some (vBool (decide (bt = 2)), 0) := by
  unfold decA decV
  rw [if_neg (by omega), if_pos ⟨h, by omega⟩]
  have e : (⟨1, (bt : Int) - 1, 0, ⟨#[]⟩⟩ : Vl) = vBool (decide (bt = 2)) := by
    rcases h0 with rfl | rfl <;> rfl
  dsimp only
  rw [e]
  have ha : admE c (vBool (decide (bt = 2))) = 0 := by
    unfold admE
    rw [if_pos (chk_bool _), if_neg (show ¬ (vBool (decide (bt = 2))).k = 0 from (show ¬ (1 : Int) = 0 by decide)), if_pos (by rw [h]; rfl)]
  rw [if_pos ha]
theorem decA_bad {c : Cl} {bt : Nat} {s : ByteArray} (h0 : bt ≠ 0) (h : c.kd = 1 ∧ 3 ≤ bt ∨ c.kd ≠ 1 ∧ 1 < bt) : decA c bt s = none := by
  unfold decA decV
  rw [if_neg h0, if_neg (by omega), if_pos (by omega)]
theorem decA_int {c : Cl} {s : ByteArray} (h : c.kd = 2) : decA c 1 s = if (rdV s).2 = 0 then none else some (vInt (unz (rdV s).1), (rdV s).2) := by
  unfold decA decV
  rw [if_neg (by decide), if_neg (by omega), if_neg (by decide), if_neg (by omega)]
  by_cases h0 : (rdV s).2 = 0
  · rw [if_pos h0, if_pos h0]
  · rw [if_neg h0, if_neg h0, if_pos h]
    have ha : admE c (vInt (unz (rdV s).1)) = 0 := by
      unfold admE
      rw [if_pos (chk_int _), if_neg (by unfold vInt; dsimp only; decide), if_pos (by rw [h]; rfl)]
    dsimp only
    rw [if_pos ha]
theorem decA_flo {c : Cl} {s : ByteArray} (h : c.kd = 3) : decA c 1 s = if s.size < 8 then none else some (vFlo (leN s 8), 8) := by
  unfold decA decV
  rw [if_neg (by decide), if_neg (by omega), if_neg (by decide), if_pos h]
  by_cases h0 : s.size < 8
  · rw [if_pos h0]
  · rw [if_neg h0]
    have ha : admE c (vFlo (leN s 8)) = 0 := by
      unfold admE
      rw [if_pos (chk_flo _), if_neg (by unfold vFlo; dsimp only; decide), if_pos (by rw [h]; rfl)]
    dsimp only
    rw [if_pos ha]
theorem decA_str {c : Cl} {s : ByteArray} (h : c.kd = 4 ∨ c.kd = 5) : decA c 1 s = strD c.kd s := by
  unfold decA decV strD
  rw [if_neg (by decide), if_neg (by omega), if_neg (by decide), if_neg (by omega)]
  by_cases h0 : (rdV s).2 = 0
  · rw [if_pos h0, if_pos h0]
  · rw [if_neg h0, if_neg h0, if_neg (by omega)]
    by_cases h1 : s.size - (rdV s).2 < (rdV s).1
    · rw [if_pos h1, if_pos h1]
    · rw [if_neg h1, if_neg h1]
      have ha : ∀ v : Vl, v.k = c.kd → admE c v = v.chk := by
        intro v hv
        unfold admE
        by_cases h2 : v.chk = 0
        · rw [if_pos h2, if_neg (by omega), if_pos hv, h2]
        · rw [if_neg h2]
      dsimp only
      rw [ha _ rfl]
end Go.Proofs.YtgnedioggpgeeaaDoor
