/- The walks of Frontier, Take, Done. -/
import Derived.Test.YtckjgnjakkeodaaWClk
namespace Go.Proofs.Ytckjgnjakkeodaa
open Go.RowKit
set_option maxRecDepth 100000

/-- the frontier that is held -/
def frC (w : World) (b : Nat) : Nat := match w.cell? ⟨b, 2, none⟩ with
  | some (.int _ x) => x.toNat
  | _ => 0
theorem Clk.frC {w : World} {b la fr : Nat} {D : Nat → Nat} (h : Clk w b la fr D) : frC w b = fr := by
  unfold Proofs.Ytckjgnjakkeodaa.frC
  rw [h.front.1]
  simp

theorem grown_trans {w w1 w2 : World} {r : Option Nat} (h1 : w.grownBy w1 r) (h2 : w1.grownBy w2 r) : w.grownBy w2 r :=
  ⟨h2.os.trans h1.os, h2.tape.trans h1.tape, h2.output.trans h1.output, Nat.le_trans h1.size h2.size, fun k hk hn => (h2.block k (Nat.lt_of_lt_of_le hk h1.size) hn).trans (h1.block k hk hn)⟩
theorem grown_refl (w : World) (r : Option Nat) : w.grownBy w r := ⟨rfl, rfl, rfl, Nat.le_refl _, fun _ _ _ => rfl⟩

set_option maxHeartbeats 2000000 in
theorem front_any (b la fr : Nat) (D : Nat → Nat) (O : List Nat) (w : World) (h : Clk w b la fr D) (hO : ClkO la fr D O) :
    Calls Try.prog 15 #[.pointer (some ⟨b, 0, none⟩)] w fun e w' => e = .returned (.int .u64 (frO la O)) ∧ Clk w' b la (frO la O) D ∧ w.grownBy w' (some b) := by
  have C1 : Hid (Calls _ _ _ _ _) := given_any b la fr D w h
  have HO : Hid (ClkO _ _ _ _) := hO
  have HC : Hid (Clk _ _ _ _ _) := h
  have htop := hO.top
  have hle := hO.le
  have hlag := hO.lag
  have HA : Hid _ := hO.at
  have HU : Hid (∀ f, fr ≤ f → f < frO la O → f < D ((f + 1) % 4096)) := hO.under
  clear h hO HO
  generalize frO la O = F at *
  go_enter Try.func15, Try.ntmps15
  go_wp2_with fail
  refine C1.out.mono ?_
  rintro e w2 ⟨rfl, hw⟩
  rw [hw]
  clear hw
  go_wp2_with fail
  go_loopw [] (fun wr => ∃ f : Nat, fr ≤ f ∧ f ≤ F ∧ Hid (Clk wr b la f D) ∧ Hid (w.grownBy wr (some b))) (fun wr => F - frC wr b)
  case atStart => exact ⟨fr, Nat.le_refl _, hlag, HC, grown_refl _ _⟩
  case round =>
    obtain ⟨f, h1, h2, hC, hG⟩ := hrel
    have hm : (f + 1) % 4096 < 4096 := Nat.mod_lt _ (by decide)
    have C2 : Hid (Calls _ _ _ _ _) := load_any b 2 f wr hC.out.front.1
    have C3 : Hid (Calls _ _ _ _ _) := place_any b (f + 1) wr
    have C4 : Hid (Calls _ _ _ _ _) := load_any b (3 + (f + 1) % 4096) (D ((f + 1) % 4096) : Nat) wr (hC.out.ring _ hm).1
    have C5 : Hid (Calls _ _ _ _ _) := cas_any b 2 f ((f + 1 : Nat) : Int) wr hC.out.front.1 hC.out.front.2
    have HM : Hid (frC wr b = f) := hC.out.frC
    have e1 : ((f + 1 : Nat) : Int) = (f : Int) + 1 := by omega
    rw [e1] at C3 C5
    clear e1
    by_cases hf0 : f = F
    · have hf : Hid (f = F) := hf0
      have hd : D ((f + 1) % 4096) ≤ f := by rw [hf0]; exact HA.out
      clear hf0
      have hd' : ((D ((f + 1) % 4096) : Nat) : Int) ≤ (f : Int) := by omega
      clear hd
      generalize D ((f + 1) % 4096) = d at *
      go_wp2_with fail
      refine C2.out.mono ?_
      rintro e w2 ⟨rfl, hw⟩
      rw [hw]
      clear hw
      go_wp2_with fail
      refine C3.out.mono ?_
      rintro e w2 ⟨rfl, hw⟩
      rw [hw]
      clear hw
      go_wp2_with fail
      refine C4.out.mono ?_
      rintro e w2 ⟨rfl, hw⟩
      rw [hw]
      clear hw
      go_wp2_with fail
      go_ret
      rw [← hf.out]
      exact ⟨rfl, hC.out, hG.out⟩
    · have hd : f < D ((f + 1) % 4096) := HU.out f h1 (by omega)
      have hd' : ¬ (((D ((f + 1) % 4096) : Nat) : Int) ≤ (f : Int)) := by omega
      have hlt : f + 1 ≤ F := by omega
      clear hd hf0
      generalize D ((f + 1) % 4096) = d at *
      go_wp2_with fail
      refine C2.out.mono ?_
      rintro e w2 ⟨rfl, hw⟩
      rw [hw]
      clear hw
      go_wp2_with fail
      refine C3.out.mono ?_
      rintro e w2 ⟨rfl, hw⟩
      rw [hw]
      clear hw
      go_wp2_with fail
      refine C4.out.mono ?_
      rintro e w2 ⟨rfl, hw⟩
      rw [hw]
      clear hw
      go_wp2_with fail
      refine C5.out.mono ?_
      rintro e w2 ⟨rfl, hw⟩
      rw [hw]
      clear hw
      have HC' : Hid (Clk _ _ _ _ _) := hC.out.setFront (f + 1)
      rw [show ((f + 1 : Nat) : Int) = (f : Int) + 1 by omega] at HC'
      have HG' : Hid (World.grownBy _ _ _) := grown_trans hG.out (grownBy_set wr b 2 (.int .u64 ((f : Int) + 1)))
      go_wp2_with fail
      go_roundw
      case rel => exact ⟨f + 1, by omega, hlt, HC', HG'⟩
      case measure => rw [HM.out, HC'.out.frC]; omega

set_option maxHeartbeats 2000000 in
theorem take_end (b la fr : Nat) (D : Nat → Nat) (w : World) (h : Clk w b la fr D) (hla : la = 4611686018427387904) :
    Calls Try.prog 13 #[.pointer (some ⟨b, 0, none⟩)] w fun e w' => e = .returned (.tuple #[.int .u64 0, .int .i64 4]) ∧ w' = w := by
  have C1 : Hid (Calls _ _ _ _ _) := given_any b la fr D w h
  have C2 : Hid (Calls _ _ _ _ _) := load_any b 1 la w h.last.1
  clear h
  have a1 : ((la : Nat) : Int) = 4611686018427387904 := by omega
  clear hla
  go_enter Try.func13, Try.ntmps13
  go_wp2_with fail
  refine C1.out.mono ?_
  rintro e w2 ⟨rfl, hw⟩
  rw [hw]
  clear hw
  go_wp2_with fail
  go_loopw [] (fun wr => wr = w) (fun _ => 0)
  case atStart => rfl
  case round =>
    rw [hrel]
    clear hrel
    rw [a1] at C2
    go_wp2_with fail
    refine C2.out.mono ?_
    rintro e w2 ⟨rfl, hw⟩
    rw [hw]
    clear hw
    go_wp2_with fail
    go_ret2
    exact ⟨rfl, rfl⟩

set_option maxHeartbeats 2000000 in
theorem take_full (b la fr : Nat) (D : Nat → Nat) (O : List Nat) (w : World) (h : Clk w b la fr D) (hO : ClkO la fr D O) (hla : la < 4611686018427387904) (hF : frO la O + 4096 = la) :
    Calls Try.prog 13 #[.pointer (some ⟨b, 0, none⟩)] w fun e w' => e = .returned (.tuple #[.int .u64 0, .int .i64 2]) ∧ Clk w' b la (frO la O) D ∧ w.grownBy w' (some b) := by
  have C1 : Hid (Calls _ _ _ _ _) := given_any b la fr D w h
  have C2 : Hid (Calls _ _ _ _ _) := load_any b 1 la w h.last.1
  have C3 : Hid (True → Calls _ _ _ _ _) := fun _ => front_any b la fr D O w h hO
  clear h hO
  have a1 : ¬ (((la : Nat) : Int) = 4611686018427387904) := by omega
  generalize frO la O = F at *
  have a2 : ((la : Nat) : Int) = (F : Int) + 4096 := by omega
  have a3 : F ≤ 4611686018427387904 := by omega
  clear hla hF
  generalize hL : (la : Int) = L at C2 a1 a2
  clear hL
  go_enter Try.func13, Try.ntmps13
  go_wp2_with fail
  refine C1.out.mono ?_
  rintro e w2 ⟨rfl, hw⟩
  rw [hw]
  clear hw
  go_wp2_with fail
  go_loopw [] (fun wr => wr = w) (fun _ => 0)
  case atStart => rfl
  case round =>
    rw [hrel]
    clear hrel
    go_wp2_with fail
    refine C2.out.mono ?_
    rintro e w2 ⟨rfl, hw⟩
    rw [hw]
    clear hw
    go_wp2_with fail
    refine (C3.out trivial).mono ?_
    rintro e w2 ⟨rfl, hC, hG⟩
    have HC : Hid _ := hC
    have HG : Hid _ := hG
    clear hC hG
    go_wp2_with fail
    go_ret2
    exact ⟨rfl, HC.out, HG.out⟩

set_option maxHeartbeats 2000000 in
theorem take_ok (b la fr : Nat) (D : Nat → Nat) (O : List Nat) (w : World) (h : Clk w b la fr D) (hO : ClkO la fr D O) (hla : la < 4611686018427387904) (hF : la < frO la O + 4096) :
    Calls Try.prog 13 #[.pointer (some ⟨b, 0, none⟩)] w fun e w' => e = .returned (.tuple #[.int .u64 ((la + 1 : Nat) : Int), .int .i64 0]) ∧ Clk w' b (la + 1) (frO la O) D ∧ w.grownBy w' (some b) := by
  have C1 : Hid (Calls _ _ _ _ _) := given_any b la fr D w h
  have C2 : Hid (Calls _ _ _ _ _) := load_any b 1 la w h.last.1
  have C3 : Hid (True → Calls _ _ _ _ _) := fun _ => front_any b la fr D O w h hO
  have hle := hO.le
  clear h hO
  have a1 : ¬ (((la : Nat) : Int) = 4611686018427387904) := by omega
  generalize frO la O = F at *
  have a2 : ¬ (((la : Nat) : Int) = (F : Int) + 4096) := by omega
  have a3 : F ≤ 4611686018427387904 := by omega
  go_enter Try.func13, Try.ntmps13
  go_wp2_with fail
  refine C1.out.mono ?_
  rintro e w2 ⟨rfl, hw⟩
  rw [hw]
  clear hw
  go_wp2_with fail
  go_loopw [] (fun wr => wr = w) (fun _ => 0)
  case atStart => rfl
  case round =>
    rw [hrel]
    clear hrel
    go_wp2_with fail
    refine C2.out.mono ?_
    rintro e w2 ⟨rfl, hw⟩
    rw [hw]
    clear hw
    go_wp2_with fail
    refine (C3.out trivial).mono ?_
    rintro e w2 ⟨rfl, hC, hG⟩
    have C4 : Hid (Calls _ _ _ _ _) := cas_any b 1 la ((la : Int) + 1) w2 hC.last.1 hC.last.2
    have HC : Hid (Clk _ _ _ _ _) := hC.setLast (la + 1)
    have HG : Hid (World.grownBy _ _ _) := grown_trans hG (grownBy_set w2 b 1 (.int .u64 ((la + 1 : Nat) : Int)))
    rw [show ((la + 1 : Nat) : Int) = (la : Int) + 1 by omega] at HC HG
    clear hC hG
    go_wp2_with fail
    refine C4.out.mono ?_
    rintro e w3 ⟨rfl, hw⟩
    rw [hw]
    clear hw
    go_wp2_with fail
    go_ret2
    exact ⟨by simp, HC.out, HG.out⟩

set_option maxHeartbeats 2000000 in
theorem done_bad (b la fr : Nat) (D : Nat → Nat) (O : List Nat) (s : Nat) (w : World) (h : Clk w b la fr D) (hO : ClkO la fr D O) (hs : ¬ s ∈ O) :
    Calls Try.prog 14 #[.pointer (some ⟨b, 0, none⟩), .int .u64 s] w fun e w' => e = .returned (.int .i64 60) ∧ w' = w := by
  have hm : s % 4096 < 4096 := Nat.mod_lt _ (by decide)
  have C1 : Hid (Calls _ _ _ _ _) := given_any b la fr D w h
  have C2 : Hid (Calls _ _ _ _ _) := load_any b 1 la w h.last.1
  have C3 : Hid (Calls _ _ _ _ _) := load_any b 2 fr w h.front.1
  have C4 : Hid (Calls _ _ _ _ _) := place_any b s w
  have C5 : Hid (Calls _ _ _ _ _) := load_any b (3 + s % 4096) (D (s % 4096) : Nat) w (h.ring _ hm).1
  have HN : Hid (s ≤ la → fr < s → s ≤ D (s % 4096)) := fun h1 h2 => hO.not_open s hs h1 h2
  clear h hO hs
  generalize D (s % 4096) = d at *
  by_cases h1 : (la : Int) < (s : Int)
  · clear HN
    go_enter Try.func14, Try.ntmps14
    go_wp2_with fail
    refine C1.out.mono ?_
    rintro e w2 ⟨rfl, hw⟩
    rw [hw]
    clear hw
    go_wp2_with fail
    refine C2.out.mono ?_
    rintro e w2 ⟨rfl, hw⟩
    rw [hw]
    clear hw
    go_wp2_with fail
    go_ret
    exact ⟨rfl, rfl⟩
  · by_cases h2 : (s : Int) ≤ (fr : Int)
    · clear HN
      go_enter Try.func14, Try.ntmps14
      go_wp2_with fail
      refine C1.out.mono ?_
      rintro e w2 ⟨rfl, hw⟩
      rw [hw]
      clear hw
      go_wp2_with fail
      refine C2.out.mono ?_
      rintro e w2 ⟨rfl, hw⟩
      rw [hw]
      clear hw
      go_wp2_with fail
      refine C3.out.mono ?_
      rintro e w2 ⟨rfl, hw⟩
      rw [hw]
      clear hw
      go_wp2_with fail
      go_ret
      exact ⟨rfl, rfl⟩
    · have h3 : (s : Int) ≤ (d : Int) := by have := HN.out (by omega) (by omega); omega
      clear HN
      go_enter Try.func14, Try.ntmps14
      go_wp2_with fail
      refine C1.out.mono ?_
      rintro e w2 ⟨rfl, hw⟩
      rw [hw]
      clear hw
      go_wp2_with fail
      refine C2.out.mono ?_
      rintro e w2 ⟨rfl, hw⟩
      rw [hw]
      clear hw
      go_wp2_with fail
      refine C3.out.mono ?_
      rintro e w2 ⟨rfl, hw⟩
      rw [hw]
      clear hw
      go_wp2_with fail
      refine C4.out.mono ?_
      rintro e w2 ⟨rfl, hw⟩
      rw [hw]
      clear hw
      go_wp2_with fail
      refine C5.out.mono ?_
      rintro e w2 ⟨rfl, hw⟩
      rw [hw]
      clear hw
      go_wp2_with fail
      go_ret
      exact ⟨rfl, rfl⟩

set_option maxHeartbeats 2000000 in
theorem done_ok (b la fr : Nat) (D : Nat → Nat) (O : List Nat) (s : Nat) (w : World) (h : Clk w b la fr D) (hO : ClkO la fr D O) (hs : s ∈ O) :
    Calls Try.prog 14 #[.pointer (some ⟨b, 0, none⟩), .int .u64 s] w fun e w' => e = .returned (.int .i64 0) ∧ Clk w' b la fr (upd D (s % 4096) s) ∧ w.grownBy w' (some b) := by
  have hm : s % 4096 < 4096 := Nat.mod_lt _ (by decide)
  obtain ⟨g1, g2, g3⟩ := hO.is_open s hs
  have C1 : Hid (Calls _ _ _ _ _) := given_any b la fr D w h
  have C2 : Hid (Calls _ _ _ _ _) := load_any b 1 la w h.last.1
  have C3 : Hid (Calls _ _ _ _ _) := load_any b 2 fr w h.front.1
  have C4 : Hid (Calls _ _ _ _ _) := place_any b s w
  have C5 : Hid (Calls _ _ _ _ _) := load_any b (3 + s % 4096) (D (s % 4096) : Nat) w (h.ring _ hm).1
  have C6 : Hid (Calls _ _ _ _ _) := cas_any b (3 + s % 4096) (D (s % 4096) : Nat) s w (h.ring _ hm).1 (h.ring _ hm).2
  have HC : Hid (Clk _ _ _ _ _ ∧ _) := ⟨h.setRing _ hm s, grownBy_set w b (3 + s % 4096) (.int .u64 s)⟩
  clear h hO hs
  generalize upd D (s % 4096) s = D' at *
  generalize D (s % 4096) = d at *
  have h1 : ¬ ((la : Int) < (s : Int)) := by omega
  have h2 : ¬ ((s : Int) ≤ (fr : Int)) := by omega
  have h3 : ¬ ((s : Int) ≤ (d : Int)) := by omega
  clear g1 g2 g3
  go_enter Try.func14, Try.ntmps14
  go_wp2_with fail
  refine C1.out.mono ?_
  rintro e w2 ⟨rfl, hw⟩
  rw [hw]
  clear hw
  go_wp2_with fail
  refine C2.out.mono ?_
  rintro e w2 ⟨rfl, hw⟩
  rw [hw]
  clear hw
  go_wp2_with fail
  refine C3.out.mono ?_
  rintro e w2 ⟨rfl, hw⟩
  rw [hw]
  clear hw
  go_wp2_with fail
  refine C4.out.mono ?_
  rintro e w2 ⟨rfl, hw⟩
  rw [hw]
  clear hw
  go_wp2_with fail
  refine C5.out.mono ?_
  rintro e w2 ⟨rfl, hw⟩
  rw [hw]
  clear hw
  go_wp2_with fail
  refine C6.out.mono ?_
  rintro e w2 ⟨rfl, hw⟩
  rw [hw]
  clear hw
  go_wp2_with fail
  go_ret
  exact ⟨rfl, HC.out⟩
end Go.Proofs.Ytckjgnjakkeodaa
