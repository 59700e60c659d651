/- The walk of awake: the key of the int 1 is as it must be. -/
import Derived.Test.YtjigmijennbolaaDoorWEncE
namespace Go.Proofs.YtjigmijennbolaaDoor
open Go.RowKit Ieee
set_option maxRecDepth 100000

def vOne : Vl := ⟨2, 1, 0, ⟨#[]⟩⟩
theorem vOne_ok : vOne.ok := ⟨by decide, by decide, by decide, by decide⟩
theorem encS_one : encS [vOne] = ([3, 129, 1], 0) := by decide +kernel

set_option maxHeartbeats 1000000 in
theorem awake_any (w : World) (hg : 2 < w.heap.size) (hT : Lib.Utf8Tabs 1 2 w) :
    Calls Tryd.prog 9 #[] w fun e w' => e = .returned (.bool true) ∧ Below w.heap.size w w' := by
  have h1 : Hid (∀ w1, w1 = w.alloc (.cells #[.int .i64 2, .int .i64 1, .float .f64 0, .string ⟨#[]⟩] 43) → Calls Tryd.prog 15 #[.slice (some ⟨w.heap.size, 0, none⟩) 1 1] w1 fun e w' => e = .returned (.tuple #[.string ⟨#[3, 129, 1]⟩, .int .i64 0]) ∧ Below w1.heap.size w1 w') := by
    rintro w1 rfl
    have h := encode_any [vOne] (some ⟨w.heap.size, 0, none⟩) 1 (w.alloc (.cells #[.int .i64 2, .int .i64 1, .float .f64 0, .string ⟨#[]⟩] 43)) ?_ ?_ (by simp) (by simp; omega) (tabs_keep ((Below.refl _ _).alloc (Nat.le_refl _) _) hg hT)
    · rw [encS_one] at h; exact h
    · intro i hi
      have e : i = 0 := by simp at hi; exact hi
      subst e
      refine ⟨w.heap.size, 0, rfl, by simp, ?_, ?_, ?_, ?_⟩ <;> simp [vOne]
    · intro v hv
      simp at hv
      subst hv
      exact vOne_ok
  clear hT
  go_enter Tryd.func9, Tryd.ntmps9
  go_wp2_with (first | (go_at_call 15; refine (h1.out _ rfl).mono ?_; rintro e w1 ⟨rfl, hb⟩))
  go_ret
  exact ⟨rfl, ((Below.refl _ _).alloc (Nat.le_refl _) _).trans (hb.mono (by simp))⟩
end Go.Proofs.YtjigmijennbolaaDoor
