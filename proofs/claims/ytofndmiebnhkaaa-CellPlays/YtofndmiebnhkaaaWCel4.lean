/- The walk of Keep. -/
import Derived.Test.YtofndmiebnhkaaaWCel3
namespace Go.Proofs.Ytofndmiebnhkaaa
open Go.RowKit
set_option maxRecDepth 100000

set_option maxHeartbeats 1000000 in
theorem keep_miss (b lo : Nat) (p : Option Addr) (L : List (Int × Nat)) (n : Nat) (m : Int) (w : World) (h : Cel w b lo p L) (hn : n ≠ numL L) :
    Calls Try.prog 23 #[.pointer (some ⟨b, 0, none⟩), .int .u64 (n : Nat), .int .i64 m] w fun e w' => e = .returned (.bool false) ∧ w' = w := by
  have C1 : Hid (Calls _ _ _ _ _) := pload_any b lo p L w h
  have C2 : Hid (Calls _ _ _ _ _) := place_any lo p L w h.chn
  clear h
  have hn' : ¬ ((numL L : Nat) : Int) = (n : Int) := by omega
  clear hn
  generalize numL L = k at *
  rcases Int.lt_or_le m 1 with hm | hm
  all_goals
   go_enter Try.func23, Try.ntmps23
   go_wp2_with fail
   go_loopw [] (fun wr => wr = w) (fun _ => 0)
   case atStart => rfl
   case round =>
     rw [hrel]
     clear hrel
     go_wp2_with fail
     refine C1.out.mono ?_
     rintro e w2 ⟨rfl, hw⟩
     rw [hw]
     clear hw
     go_wp2_with fail
     refine C2.out.mono ?_
     rintro e w2 ⟨rfl, hw⟩
     rw [hw]
     clear hw
     go_wp2_with fail
     go_ret
     exact ⟨rfl, rfl⟩

set_option maxHeartbeats 1000000 in
theorem keep_all (b lo : Nat) (p : Option Addr) (L : List (Int × Nat)) (n : Nat) (m k : Int) (w : World) (h : Cel w b lo p L) (hn : n = numL L) (hk : max m 1 = k) (hl : (L.length : Int) ≤ k) :
    Calls Try.prog 23 #[.pointer (some ⟨b, 0, none⟩), .int .u64 (n : Nat), .int .i64 m] w fun e w' => e = .returned (.bool true) ∧ Below w.heap.size w w' := by
  have C1 : Hid (Calls _ _ _ _ _) := pload_any b lo p L w h
  have C2 : Hid (Calls _ _ _ _ _) := place_any lo p L w h.chn
  have C3 : Hid (∀ n, Calls Try.prog 27 #[.pointer p] (w.drewN n) fun e w' => e = .returned (.int .i64 (L.length : Nat)) ∧ w' = w.drewN n) := fun n => kept_any lo p L _ (h.chn.keep (B := w.heap.size) (below_drewN (Below.refl _ _) n) (Nat.le_refl _))
  clear h
  subst hn
  generalize numL L = n at *
  generalize L.length = len at *
  rcases Int.lt_or_le m 1 with hm | hm
  all_goals
    first | (rw [Int.max_eq_right (show m ≤ 1 by omega)] at hk) | (rw [Int.max_eq_left hm] at hk)
    subst hk
    go_enter Try.func23, Try.ntmps23
    go_wp2_with fail
    go_loopw [] (fun wr => wr = w) (fun _ => 0)
    case atStart => rfl
    case round =>
      rw [hrel]
      clear hrel
      go_wp2_with fail
      refine C1.out.mono ?_
      rintro e w2 ⟨rfl, hw⟩
      rw [hw]
      clear hw
      go_wp2_with fail
      refine C2.out.mono ?_
      rintro e w2 ⟨rfl, hw⟩
      rw [hw]
      clear hw
      go_wp2_with fail
      go_quiet (first | (go_at_call 27; exact Calls.quiet_of_same (C3.out _)))
      go_wp2_with fail
      go_ret
      exact ⟨rfl, below_drewN (Below.refl _ _) _⟩

end Go.Proofs.Ytofndmiebnhkaaa
