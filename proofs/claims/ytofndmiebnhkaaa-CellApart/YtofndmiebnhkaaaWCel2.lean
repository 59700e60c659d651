/- The walks of Push and All (of int64). -/
import Derived.Test.YtofndmiebnhkaaaWCel
import Derived.Deep.RegionWith
namespace Go.Proofs.Ytofndmiebnhkaaa
open Go.RowKit
set_option maxRecDepth 100000

set_option maxHeartbeats 1000000 in
theorem push_miss (b lo : Nat) (p : Option Addr) (L : List (Int × Nat)) (n : Nat) (x : Int) (w : World) (h : Cel w b lo p L) (hn : n ≠ numL L) :
    Calls Try.prog 25 #[.pointer (some ⟨b, 0, none⟩), .int .u64 (n : Nat), (.int .i64 x)] w fun e w' => e = .returned (.bool false) ∧ w' = w := by
  have C1 : Hid (Calls _ _ _ _ _) := pload_any b lo p L w h
  have C2 : Hid (Calls _ _ _ _ _) := place_any lo p L w h.chn
  clear h
  have hn' : ¬ ((numL L : Nat) : Int) = (n : Int) := by omega
  clear hn
  generalize numL L = m at *
  go_enter Try.func25, Try.ntmps25
  go_wp2_with fail
  go_loopw [] (fun wr => wr = w) (fun _ => 0)
  case atStart => rfl
  case round =>
    rw [hrel]
    clear hrel
    go_wp2_with fail
    refine C1.out.mono ?_
    rintro e w2 ⟨rfl, hw⟩
    rw [hw]
    clear hw
    go_wp2_with fail
    refine C2.out.mono ?_
    rintro e w2 ⟨rfl, hw⟩
    rw [hw]
    clear hw
    go_wp2_with fail
    go_ret
    exact ⟨rfl, rfl⟩

set_option maxHeartbeats 4000000 in
theorem push_hit (b lo : Nat) (p : Option Addr) (L : List (Int × Nat)) (n : Nat) (x : Int) (w : World) (h : Cel w b lo p L) (hn : n = numL L) (hlo : lo ≤ w.heap.size) (hm : numL L + 1 < 18446744073709551616) (hl : L.length + 1 < 9223372036854775808) :
    Calls Try.prog 25 #[.pointer (some ⟨b, 0, none⟩), .int .u64 (n : Nat), (.int .i64 x)] w fun e w' => e = .returned (.bool true) ∧ (∃ q, Cel w' b lo q ((x, n + 1) :: L)) ∧ w.grownBy w' (some b) := by
  have HC : Hid (Cel _ _ _ _ _) := h
  have C1 : Hid (Calls _ _ _ _ _) := pload_any b lo p L w h
  have C2 : Hid (Calls _ _ _ _ _) := place_any lo p L w h.chn
  subst hn
  have C3 : Hid (∀ w1, Cel w1 b lo p L → Calls Try.prog 46 #[.pointer p, (.int .i64 x)] w1 fun e w' => e = .returned (.pointer (some ⟨w1.heap.size, 0, none⟩)) ∧ w' = w1.alloc (itm p x (numL L + 1) (L.length + 1))) := fun w1 h1 => with_any lo p L x w1 h1.chn hm hl
  have C4 : Hid (∀ w1 q M, Cel w1 b lo p L → Chn w1 lo q M → Calls Try.prog 44 #[.pointer (some ⟨b, 0, none⟩), .pointer p, .pointer q] w1 fun e w' => e = .returned (.bool true) ∧ w' = w1.setCell ⟨b, 0, none⟩ (.pointer q)) := fun w1 q M h1 h2 => pcas_any b lo p q L M w1 h1 h2
  have HDr : Hid (Cel w.drew b lo p L) := h.keep (B := w.heap.size) (by go_grown) (Nat.le_refl _)
  clear h
  go_enter Try.func25, Try.ntmps25
  go_wp2_with fail
  go_loopw [] (fun wr => wr = w) (fun _ => 0)
  case atStart => rfl
  case round =>
    rw [hrel]
    clear hrel
    go_wp2_with fail
    refine C1.out.mono ?_
    rintro e w2 ⟨rfl, hw⟩
    rw [hw]
    clear hw
    go_wp2_with fail
    refine C2.out.mono ?_
    rintro e w2 ⟨rfl, hw⟩
    rw [hw]
    clear hw
    go_wp2_with fail
    have HD0 := HDr.out
    go_region_with (first | (go_at_call 46; refine (C3.out _ HD0).mono ?_; rintro e w1 ⟨rfl, hw⟩; rw [hw]; clear hw; have hcl := HDr.out.keep (B := w.heap.size) (w' := w.drew.alloc (itm p x (numL L + 1) (L.length + 1))) (by go_grown) (Nat.le_refl _); have hch := HDr.out.chn.on x (numL L + 1) hlo) | (go_at_call 44; refine (C4.out _ _ _ hcl hch).mono ?_; rintro e w1 ⟨rfl, hw⟩; rw [hw]; clear hw))
    all_goals
      go_wp2_with fail
      go_ret
      refine ⟨rfl, ⟨_, hcl.set hch⟩, ?_⟩
      exact grown_drew (grown_trans (grown_below (B := w.heap.size) (w' := w.alloc (itm p x (numL L + 1) (L.length + 1))) (by go_grown) (Nat.le_refl _)) (grownBy_set _ b 0 _))
theorem info_int64 : (Try.prog.info? 2).map (fun i => (i.zero, i.size, i.bytes)) = some (some (.int .i64 0), 1, 8) := by kernel_rfl
/-- the cells of values -/
def cellsX (O : List Int) : List Value := O.map (fun x => (.int .i64 x))

set_option maxHeartbeats 4000000 in
theorem all_any (b lo : Nat) (p : Option Addr) (L : List (Int × Nat)) (w : World) (h : Cel w b lo p L) (hl : L.length ≤ 17592186044416) :
    Calls Try.prog 11 #[.pointer (some ⟨b, 0, none⟩)] w fun e w' => (∃ v, e = .returned v ∧ w'.ownsRow w.heap.size 2 1 v L.length (cellsX (L.map Prod.fst))) ∧ Below w.heap.size w w' := by
  have C1 : Hid (Calls _ _ _ _ _) := pload_any b lo p L w h
  have C2 : Hid (Calls _ _ _ _ _) := kept_any lo p L w h.chn
  have HC : Hid (Chn _ _ _ _) := h.chn
  clear h
  go_enter Try.func11, Try.ntmps11
  go_wp2_with fail
  refine C1.out.mono ?_
  rintro e w2 ⟨rfl, hw⟩
  rw [hw]
  clear hw
  go_wp2_with fail
  refine C2.out.mono ?_
  rintro e w2 ⟨rfl, hw⟩
  rw [hw]
  clear hw
  obtain ⟨i, hi, hz0, hz1, hz2⟩ := info_parts info_int64
  go_wp2_with (refine wpList_make_own _ rfl _ _ _ rfl w.heap.size 2 i _ 1 Try.underlying25 hi hz0 hz1 .i64 .i64 _ L.length rfl rfl rfl (by rw [hz2]; omega) (by unfold maxLen; omega) (Nat.le_refl _) ?_; intro w3 hown3 hgr3)
  clear hi hz0 hz1 hz2
  have HO : Hid (World.ownsRow _ _ _ _ _ _ _) := hown3
  have HB : Hid (Below w.heap.size w w3) := (Below.refl _ _).grown hgr3 (Nat.le_refl _) (fun k hk => by cases hk)
  clear hown3 hgr3
  go_loopw [4, 5] (fun u i wr => ∃ A M pk, L = A ++ M ∧ i = .pointer pk ∧ Hid (Chn w lo pk M) ∧ Hid (wr.ownsRow w.heap.size 2 1 u A.length (cellsX (A.map Prod.fst))) ∧ Hid (Below w.heap.size w wr)) (fun u _ _ => L.length - slen u)
  case atStart => exact ⟨[], L, p, rfl, rfl, HC, HO, HB⟩
  case round =>
    obtain ⟨A, M, pk, hL, rfl, hch, hO, hB⟩ := hrel
    have hll : L.length = A.length + M.length := by rw [hL, List.length_append]
    cases M with
    | nil =>
      have hpk : pk = none := hch.out
      subst hpk
      rw [List.append_nil] at hL
      have HL : Hid (L = A) := hL
      clear hL hll hch
      go_wp2
      go_ret
      rw [HL.out]
      exact ⟨⟨_, rfl, hO.out⟩, hB.out⟩
    | cons y M =>
      obtain ⟨y, n⟩ := y
      obtain ⟨g, q, rfl, _, h3, h4⟩ := hch.out
      have hlt := (Array.getElem?_eq_some_iff.1 h3).1
      have k0 : wr.cell? ⟨g, 0, none⟩ = some (.int .i64 y) := by rw [hB.out.cell (p := ⟨g, 0, none⟩) hlt]; simp [World.cell?, h3]
      have k3 : w.cell? ⟨g, 3, none⟩ = some (.pointer q) := by simp [World.cell?, h3]
      have K3 : Hid _ := k3
      have HM : Hid (Chn _ _ _ _) := h4
      have HL : Hid _ := hL
      have HS : Hid _ := slen_own hO.out
      have hwb := hB.out.size
      have hll2 : A.length + 1 ≤ L.length := by simp at hll; omega
      clear h3 h4 hch hL hll k3
      go_wp2_with (first | (at_builtin; go_loud (refine wpList_app1 _ rfl (.tmp 20) _ 2 25 _ 1 8 rfl Try.underlying25 info_int64 rfl (by decide) w.heap.size u4 _ _ (by rfl) hO.out [(.int .i64 y)] rfl (by intro u hu; have e : u = (.int .i64 y) := (by simpa using hu); subst e; rfl) _ rfl (by simp) (by omega) (by omega) hwb ?_); intro v6 w6 h6 h7 h8; have k6 := (h7.cell (p := ⟨g, 3, none⟩) hlt).trans ((hB.out.cell (p := ⟨g, 3, none⟩) hlt).trans K3.out)))
      have H6 : Hid _ := h6
      have HS6 : Hid _ := slen_own h6
      go_roundw
      case rel => exact ⟨A ++ [(y, n)], M, q, by rw [HL.out]; simp, rfl, HM, (show World.ownsRow _ _ _ _ _ _ _ by unfold cellsX; rw [List.length_append, List.map_append, List.map_append]; exact H6.out), hB.out.trans h7⟩
      case measure => rw [HS.out, HS6.out]; omega

end Go.Proofs.Ytofndmiebnhkaaa
