/- The clock's calls, whatever frontier is held; awake. -/
import Derived.Test.YtckjgnjakkeodaaWClkI
namespace Go.Proofs.Ytckjgnjakkeodaa
open Go.RowKit
set_option maxRecDepth 100000

theorem newE (n : Nat) (w : World) (h1 : n ≤ 4611686018427387904) :
    Calls Try.prog 8 #[.int .u64 (n : Int)] w fun e w' => ∃ b, e = .returned (.tuple #[.pointer (some ⟨b, 0, none⟩), .int .i64 0]) ∧ ClkE w' b n [] ∧ w.heap.size ≤ b ∧ Below w.heap.size w w' := by
  refine (new_any n w h1).mono ?_
  rintro e w' ⟨b, rfl, h2, h3, h4⟩
  exact ⟨b, rfl, ⟨_, _, h2, ClkO.new n h1⟩, h3, h4⟩
theorem takeE_end (b la : Nat) (O : List Nat) (w : World) (h : ClkE w b la O) (hla : la = 4611686018427387904) :
    Calls Try.prog 13 #[.pointer (some ⟨b, 0, none⟩)] w fun e w' => e = .returned (.tuple #[.int .u64 0, .int .i64 4]) ∧ ClkE w' b la O ∧ w.grownBy w' (some b) := by
  obtain ⟨fr, D, h1, h2⟩ := h
  refine (take_end b la fr D w h1 hla).mono ?_
  rintro e w' ⟨rfl, rfl⟩
  exact ⟨rfl, ⟨fr, D, h1, h2⟩, grown_refl _ _⟩
theorem takeE_full (b la : Nat) (O : List Nat) (w : World) (h : ClkE w b la O) (hla : la < 4611686018427387904) (hF : frO la O + 4096 = la) :
    Calls Try.prog 13 #[.pointer (some ⟨b, 0, none⟩)] w fun e w' => e = .returned (.tuple #[.int .u64 0, .int .i64 2]) ∧ ClkE w' b la O ∧ w.grownBy w' (some b) := by
  obtain ⟨fr, D, h1, h2⟩ := h
  refine (take_full b la fr D O w h1 h2 hla hF).mono ?_
  rintro e w' ⟨rfl, h3, h4⟩
  exact ⟨rfl, ⟨_, D, h3, h2.move _ h2.lag (Nat.le_refl _)⟩, h4⟩
theorem takeE_ok (b la : Nat) (O : List Nat) (w : World) (h : ClkE w b la O) (hla : la < 4611686018427387904) (hF : la < frO la O + 4096) :
    Calls Try.prog 13 #[.pointer (some ⟨b, 0, none⟩)] w fun e w' => e = .returned (.tuple #[.int .u64 ((la + 1 : Nat) : Int), .int .i64 0]) ∧ ClkE w' b (la + 1) (O ++ [la + 1]) ∧ w.grownBy w' (some b) := by
  obtain ⟨fr, D, h1, h2⟩ := h
  refine (take_ok b la fr D O w h1 h2 hla hF).mono ?_
  rintro e w' ⟨rfl, h3, h4⟩
  exact ⟨rfl, ⟨_, D, h3, (h2.move _ h2.lag (Nat.le_refl _)).take hla hF⟩, h4⟩
theorem doneE_ok (b la : Nat) (O : List Nat) (s : Nat) (w : World) (h : ClkE w b la O) (hs : s ∈ O) :
    Calls Try.prog 14 #[.pointer (some ⟨b, 0, none⟩), .int .u64 s] w fun e w' => e = .returned (.int .i64 0) ∧ ClkE w' b la (left O s) ∧ w.grownBy w' (some b) := by
  obtain ⟨fr, D, h1, h2⟩ := h
  refine (done_ok b la fr D O s w h1 h2 hs).mono ?_
  rintro e w' ⟨rfl, h3, h4⟩
  exact ⟨rfl, ⟨_, _, h3, h2.done s hs⟩, h4⟩
theorem doneE_bad (b la : Nat) (O : List Nat) (s : Nat) (w : World) (h : ClkE w b la O) (hs : ¬ s ∈ O) :
    Calls Try.prog 14 #[.pointer (some ⟨b, 0, none⟩), .int .u64 s] w fun e w' => e = .returned (.int .i64 60) ∧ ClkE w' b la O ∧ w.grownBy w' (some b) := by
  obtain ⟨fr, D, h1, h2⟩ := h
  refine (done_bad b la fr D O s w h1 h2 hs).mono ?_
  rintro e w' ⟨rfl, rfl⟩
  exact ⟨rfl, ⟨fr, D, h1, h2⟩, grown_refl _ _⟩
theorem frontE (b la : Nat) (O : List Nat) (w : World) (h : ClkE w b la O) :
    Calls Try.prog 15 #[.pointer (some ⟨b, 0, none⟩)] w fun e w' => e = .returned (.int .u64 (frO la O)) ∧ ClkE w' b la O ∧ w.grownBy w' (some b) := by
  obtain ⟨fr, D, h1, h2⟩ := h
  refine (front_any b la fr D O w h1 h2).mono ?_
  rintro e w' ⟨rfl, h3, h4⟩
  exact ⟨rfl, ⟨_, D, h3, h2.move _ h2.lag (Nat.le_refl _)⟩, h4⟩
theorem openE (b la : Nat) (O : List Nat) (w : World) (h : ClkE w b la O) :
    Calls Try.prog 16 #[.pointer (some ⟨b, 0, none⟩)] w fun e w' => ∃ p c, e = .returned (.slice p O.length c) ∧ RdU w' w.heap.size p O ∧ ClkE w' b la O ∧ w.grownBy w' (some b) := by
  obtain ⟨fr, D, h1, h2⟩ := h
  refine (open_any b la fr D O w h1 h2).mono ?_
  rintro e w' ⟨p, c, rfl, h3, h4, h5⟩
  exact ⟨p, c, rfl, h3, ⟨_, D, h4, h2.move _ h2.lag (Nat.le_refl _)⟩, h5⟩
theorem below_own {w0 w w' : World} {b : Nat} (h : Below w0.heap.size w0 w) (hg : w.grownBy w' (some b)) (hb : w0.heap.size ≤ b) : Below w0.heap.size w0 w' := h.grown hg h.size (fun k hk => by cases hk; exact hb)

set_option maxHeartbeats 2000000 in
theorem awake_any (w : World) : Calls Try.prog 11 #[] w fun e w' => e = .returned (.bool true) ∧ Below w.heap.size w w' := by
  have C1 : Hid (Calls _ _ _ _ _) := newE 7 w (by decide)
  go_enter Try.func11, Try.ntmps11
  go_wp2_with fail
  refine C1.out.mono ?_
  rintro e w1 ⟨b, rfl, hC, hb, hB⟩
  have HB : Hid (Below _ _ _) := hB
  have C2 : Hid (True → Calls _ _ _ _ _) := fun _ => takeE_ok b 7 [] w1 hC (by decide) (by decide)
  clear C1 hC hB
  go_wp2_with fail
  refine (C2.out trivial).mono ?_
  rintro e w2 ⟨rfl, hC2, hG2⟩
  have HG2 : Hid (World.grownBy _ _ _) := hG2
  have C3 : Hid (Calls Try.prog 15 #[.pointer (some ⟨b, 0, none⟩)] w2 fun e w' => e = .returned (.int .u64 7) ∧ ClkE w' b (7 + 1) ([] ++ [7 + 1]) ∧ w2.grownBy w' (some b)) := frontE b (7 + 1) ([] ++ [7 + 1]) w2 hC2
  clear C2 hC2 hG2
  go_wp2_with fail
  refine C3.out.mono ?_
  rintro e w3 ⟨rfl, _, hG3⟩
  go_wp2_with fail
  go_ret
  exact ⟨rfl, below_own (below_own HB.out HG2.out hb) hG3 hb⟩
end Go.Proofs.Ytckjgnjakkeodaa
