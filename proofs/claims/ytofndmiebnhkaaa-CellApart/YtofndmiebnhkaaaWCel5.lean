/- The walk of Keep where values go. -/
import Derived.Test.YtofndmiebnhkaaaWCel3
import Derived.Test.YtofndmiebnhkaaaMAny
namespace Go.Proofs.Ytofndmiebnhkaaa
open Go.RowKit
set_option maxRecDepth 100000

set_option maxHeartbeats 4000000 in
theorem keep_cut (b lo : Nat) (p : Option Addr) (L : List (Int × Nat)) (n : Nat) (m : Int) (k : Nat) (w : World) (h : Cel w b lo p L) (hn : n = numL L) (hlo : lo ≤ w.heap.size) (hk : max m 1 = (k : Int)) (hl : k < L.length) (hlen : L.length ≤ 17592186044416) :
    Calls Try.prog 23 #[.pointer (some ⟨b, 0, none⟩), .int .u64 (n : Nat), .int .i64 m] w fun e w' => e = .returned (.bool true) ∧ (∃ q, Cel w' b lo q (L.take k)) ∧ w.grownBy w' (some b) := by
  have C1 : Hid (Calls _ _ _ _ _) := pload_any b lo p L w h
  have C2 : Hid (Calls _ _ _ _ _) := place_any lo p L w h.chn
  have hk1 : 1 ≤ k := by omega
  have HDr : Hid (Cel w.drew b lo p L) := h.keep (B := w.heap.size) (by go_grown) (Nat.le_refl _)
  have C3 : Hid (Calls _ _ _ _ _) := kept_any lo p L _ HDr.out.chn
  have C4 : Hid (Calls _ _ _ _ _) := cut_any lo p L k _ HDr.out.chn hk1 hl hlen
  have C5 : Hid (∀ w1 q M, Cel w1 b lo p L → Chn w1 lo q M → Calls Try.prog 44 #[.pointer (some ⟨b, 0, none⟩), .pointer p, .pointer q] w1 fun e w' => e = .returned (.bool true) ∧ w' = w1.setCell ⟨b, 0, none⟩ (.pointer q)) := fun w1 q M h1 h2 => pcas_any b lo p q L M w1 h1 h2
  clear h
  subst hn
  have hl' : decide ((L.length : Int) ≤ (k : Int)) = false := decide_eq_false (by omega)
  generalize numL L = n at *
  clear hk1 hl hlen
  rcases Int.lt_or_le m 1 with hm | hm
  all_goals
    first | (rw [Int.max_eq_right (show m ≤ 1 by omega)] at hk) | (rw [Int.max_eq_left hm] at hk)
    rw [← hk] at C4 hl'
    clear hk
    go_enter Try.func23, Try.ntmps23
    go_wp2_with fail
    go_loopw [] (fun wr => wr = w) (fun _ => 0)
    case atStart => rfl
    case round =>
      rw [hrel]
      clear hrel
      go_wp2_with fail
      refine C1.out.mono ?_
      rintro e w2 ⟨rfl, hw⟩
      rw [hw]
      clear hw
      go_wp2_with fail
      refine C2.out.mono ?_
      rintro e w2 ⟨rfl, hw⟩
      rw [hw]
      clear hw
      go_wp2_with fail
      refine wp_region_any (by kernel_rfl) ?_
      change wpAny _ _ _ _ _ _ _ (World.drew _)
      refine anyN_take (v := ?_) 0 rfl (by kernel_rfl) (by kernel_rfl) (by kernel_rfl) (fun _ _ _ h => h) (Or.inl ⟨by rfl, ?_⟩) ?_
      rotate_left
      focus
        intro w9
        go_simp
        try with_reducible rfl
      try simp only [Act.put, List.setIfInBounds_toArray, List.set_cons_zero, List.set_cons_succ]
      refine anyN_take (v := ?_) 2 rfl (by kernel_rfl) (by kernel_rfl) (by kernel_rfl) (fun _ _ _ h => h) (Or.inl ⟨by rfl, ?_⟩) ?_
      rotate_left
      focus
        intro w9
        go_simp
        try with_reducible rfl
      try simp only [Act.put, List.setIfInBounds_toArray, List.set_cons_zero, List.set_cons_succ]
      refine wpAny_ready (rs := [1]) (by kernel_rfl) (by simp) ?_
      refine anyN_cons 1 rfl (by rfl) (fun K hK => ?_) AllReady.nil
      go_simp
      refine C3.out.mono ?_
      rintro e w3 ⟨rfl, hw⟩
      rw [hw]
      clear hw
      dsimp only
      refine hK.out _ _ ?_
      clear hK K
      try simp only [Act.put, List.setIfInBounds_toArray, List.set_cons_zero, List.set_cons_succ]
      refine anyN_take (v := ?_) 3 rfl (by kernel_rfl) (by kernel_rfl) (by kernel_rfl) (fun _ _ _ h => h) (Or.inl ⟨by rfl, ?_⟩) ?_
      rotate_left
      focus
        intro w9
        go_simp
        try with_reducible rfl
      try simp only [Act.put, List.setIfInBounds_toArray, List.set_cons_zero, List.set_cons_succ]
      refine anyN_take (v := ?_) 4 rfl (by kernel_rfl) (by kernel_rfl) (by kernel_rfl) (fun _ _ _ h => h) (Or.inl ⟨by rfl, ?_⟩) ?_
      rotate_left
      focus
        intro w9
        go_simp
        try with_reducible rfl
      try simp only [Act.put, List.setIfInBounds_toArray, List.set_cons_zero, List.set_cons_succ]
      refine anyN_take (v := ?_) 5 rfl (by kernel_rfl) (by kernel_rfl) (by kernel_rfl) (fun _ _ _ h => h) (Or.inl ⟨by rfl, ?_⟩) ?_
      rotate_left
      focus
        intro w9
        go_simp
        try with_reducible rfl
      try simp only [Act.put, List.setIfInBounds_toArray, List.set_cons_zero, List.set_cons_succ]
      refine anyN_take (v := ?_) 6 rfl (by kernel_rfl) (by kernel_rfl) (by kernel_rfl) (fun _ _ _ h => h) (Or.inl ⟨by rfl, ?_⟩) ?_
      rotate_left
      focus
        intro w9
        go_simp
        try with_reducible rfl
      try simp only [Act.put, List.setIfInBounds_toArray, List.set_cons_zero, List.set_cons_succ]
      refine anyN_take (v := ?_) 7 rfl (by kernel_rfl) (by kernel_rfl) (by kernel_rfl) (fun _ _ _ h => h) (Or.inl ⟨by rfl, ?_⟩) ?_
      rotate_left
      focus
        intro w9
        go_simp
        try with_reducible rfl
      try simp only [Act.put, List.setIfInBounds_toArray, List.set_cons_zero, List.set_cons_succ]
      refine anyN_take (v := ?_) 8 rfl (by kernel_rfl) (by kernel_rfl) (by kernel_rfl) (fun _ _ _ h => h) (Or.inl ⟨by rfl, ?_⟩) ?_
      rotate_left
      focus
        intro w9
        go_simp
        try with_reducible rfl
      try simp only [Act.put, List.setIfInBounds_toArray, List.set_cons_zero, List.set_cons_succ]
      refine anyN_take (v := ?_) 9 rfl (by kernel_rfl) (by kernel_rfl) (by kernel_rfl) (fun _ _ _ h => h) (Or.inl ⟨by rfl, ?_⟩) ?_
      rotate_left
      focus
        intro w9
        go_simp
        try with_reducible rfl
      try simp only [Act.put, List.setIfInBounds_toArray, List.set_cons_zero, List.set_cons_succ]
      refine anyN_take (v := ?_) 10 rfl (by kernel_rfl) (by kernel_rfl) (by kernel_rfl) (fun _ _ _ h => h) (Or.inl ⟨by rfl, ?_⟩) ?_
      rotate_left
      focus
        intro w9
        go_simp
        try with_reducible rfl
      try simp only [Act.put, List.setIfInBounds_toArray, List.set_cons_zero, List.set_cons_succ]
      refine wpAny_ready (rs := [11]) (by kernel_rfl) (by simp) ?_
      refine anyN_cons 11 rfl (by rfl) (fun K hK => ?_) AllReady.nil
      go_simp
      refine C4.out.mono ?_
      rintro e w4 ⟨rfl, hch0, hb4⟩
      dsimp only
      have hch := hch0.weaken hlo
      have hcl := HDr.out.keep hb4 (Nat.le_refl _)
      refine hK.out _ _ ?_
      clear hK K
      try simp only [Act.put, List.setIfInBounds_toArray, List.set_cons_zero, List.set_cons_succ]
      refine wpAny_ready (rs := [12]) (by kernel_rfl) (by simp) ?_
      refine anyN_cons 12 rfl (by rfl) (fun K hK => ?_) AllReady.nil
      go_simp
      refine (C5.out _ _ _ hcl hch).mono ?_
      rintro e w5 ⟨rfl, hw⟩
      rw [hw]
      clear hw
      dsimp only
      refine hK.out _ _ ?_
      clear hK K
      try simp only [Act.put, List.setIfInBounds_toArray, List.set_cons_zero, List.set_cons_succ]
      refine wpAny_ready (rs := [13]) (by kernel_rfl) (by simp) ?_
      refine anyN_cons 13 rfl (by rfl) (fun K hK => ?_) AllReady.nil
      go_simp
      refine hK.out _ _ ?_
      clear hK K
      try simp only [Act.put, List.setIfInBounds_toArray, List.set_cons_zero, List.set_cons_succ]
      refine wpAny_done (by kernel_rfl) ?_ _
      go_wp2_with fail
      go_ret
      refine ⟨rfl, ⟨_, hcl.set hch⟩, ?_⟩
      exact grown_trans (grown_below (w := w) (B := w.heap.size) ⟨hb4.os, hb4.tape, hb4.output, hb4.size, hb4.block⟩ (Nat.le_refl _)) (grownBy_set _ b 0 _)
end Go.Proofs.Ytofndmiebnhkaaa
