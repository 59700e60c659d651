/- The walk of the statement on additions: it answers true. -/
import Derived.Test.YtammkfilihlmhaaWTalR
import Derived.Deep.RegionWith
namespace Go.Proofs.Ytammkfilihlmhaa
open Go.RowKit
set_option maxRecDepth 100000

/-- an addition: to which shard, how much -/
structure Ad where
  s : Int
  n : Int
/-- additions that are read -/
def RdA (w : World) (B : Nat) (p : Option Addr) (L : List Ad) : Prop := ∀ i (hi : i < L.length), ∃ b o, p = some ⟨b, o, none⟩ ∧ b < B ∧ w.cell? ⟨b, o + i * 2, none⟩ = some (.int .i64 L[i].s) ∧ w.cell? ⟨b, o + i * 2 + 1, none⟩ = some (.int .i64 L[i].n)
theorem RdA.keep {w w' : World} {B C : Nat} {p : Option Addr} {L : List Ad} (h : RdA w B p L) (hb : Below B w w') (hC : B ≤ C) : RdA w' C p L := by
  intro i hi
  obtain ⟨b, o, e, hB, h0, h1⟩ := h i hi
  exact ⟨b, o, e, Nat.lt_of_lt_of_le hB hC, (hb.cell (p := ⟨b, o + i * 2, none⟩) hB).trans h0, (hb.cell (p := ⟨b, o + i * 2 + 1, none⟩) hB).trans h1⟩
theorem below_cnt {w w' : World} {b g : Nat} {L : List Int} (h : Cnt w b g L) (hb : Below w.heap.size w w') : Cnt w' b g L := h.keep hb h.row.1 h.lt
theorem grown_of_below {w w' : World} (h : Below w.heap.size w w') (r : Option Nat) : w.grownBy w' r := ⟨h.os, h.tape, h.output, h.size, fun k hk _ => h.block k hk⟩

set_option maxHeartbeats 4000000 in
theorem lawAdds_bad (n : Int) (L : List Ad) (p : Option Addr) (c : Nat) (w : World) (h : n < 1 ∨ 64 < n) :
    Calls Try.prog 3 #[.int .i64 n, .slice p L.length c] w fun e w' => e = .returned (.bool true) ∧ Below w.heap.size w w' := by
  have C1 : Hid (Calls _ _ _ _ _) := new_bad n w h
  have C2 := rnew_any n w
  rw [if_pos h] at C2
  have C2' : Hid (Calls _ _ _ _ _) := C2
  have C3 : Hid (Calls _ _ _ _ _) := awake_any w
  clear C2
  go_enter Try.func3, Try.ntmps3
  go_wp2_with fail
  refine C1.out.mono ?_
  rintro e w1 ⟨rfl, hw⟩
  rw [hw]
  clear hw
  go_wp2_with fail
  refine C2'.out.mono ?_
  rintro e w1 ⟨rfl, hw⟩
  rw [hw]
  clear hw
  go_wp2_with fail
  refine C3.out.mono ?_
  rintro e w1 ⟨rfl, hb⟩
  go_wp2_with fail
  go_ret
  exact ⟨rfl, hb⟩

set_option maxHeartbeats 4000000 in
theorem lawAdds_good (n : Nat) (L : List Ad) (p : Option Addr) (c : Nat) (w : World) (h1 : 1 ≤ n) (h2 : n ≤ 64) (hR : RdA w w.heap.size p L) (hlen : L.length ≤ 140737488355328) :
    Calls Try.prog 3 #[.int .i64 (n : Int), .slice p L.length c] w fun e w' => e = .returned (.bool true) ∧ Below w.heap.size w w' := by
  obtain ⟨i, hi, hz0, hz1, hz2⟩ := info_parts info_i64
  have HI : Hid _ := hi
  have HZ : Hid (i.zero = _ ∧ i.size = _ ∧ i.bytes = _) := ⟨hz0, hz1, hz2⟩
  have HA : Hid (RdA _ _ _ _) := hR
  have C1 : Hid (Calls _ _ _ _ _) := new_any n w h1 h2
  have C2 : Hid (∀ w1, Calls _ _ _ _ _) := fun w1 => by
    have := rnew_any n w1
    rw [if_neg (by omega)] at this
    exact this
  clear hi hz0 hz1 hz2 hR
  go_enter Try.func3, Try.ntmps3
  go_wp2_with fail
  refine C1.out.mono ?_
  rintro e w1 ⟨b, g, rfl, hC, hg, hb, hbz, hB⟩
  have HC : Hid (Cnt _ _ _ _) := hC
  have HB : Hid (Below _ _ _) := hB
  clear hC hB C1
  go_wp2_with fail
  refine (C2.out w1).mono ?_
  rintro e w2 ⟨rfl, hw⟩
  rw [hw]
  clear hw C2
  go_wp2_with (at_make; refine wpList_make_full _ rfl _ _ 29 rfl w1.heap.size 2 i _ 1 Try.underlying29 HI.out HZ.out.1 HZ.out.2.1 .i64 .i64 (n : Int) (n : Int) n rfl rfl rfl rfl (by rw [HZ.out.2.2]; omega) (by unfold maxLen; omega) (Nat.le_refl _) ?_)
  intro w3 hown hgrow
  have hN : RowN w3 w1.heap.size .i64 (List.replicate n 0) := by
    have e : (madeCells #[Value.int .i64 0] n).toList = (List.replicate n (0 : Int)).map (.int .i64) := by
      rw [toList_madeCells_one]
      simp
    rw [e] at hown
    exact RowN.of_owns hown
  have HN : Hid (RowN _ _ _ _) := hN
  have HC3 : Hid (Cnt _ _ _ _) := HC.out.grown hgrow (by simp) (by simp)
  have HB3 : Hid (Below _ _ _) := HB.out.grown hgrow HB.out.size (by simp)
  have hsz := HB.out.size
  have hgz := HC.out.row.1
  clear hown hgrow hN HC HB
  go_wp2_with fail
  go_loopw [7, 8] (fun u i wr => ∃ j : Nat, j ≤ L.length ∧ i = .int .i64 (j : Int) ∧ (∃ gw cap S, u = .slice (some ⟨gw, 0, none⟩) n cap ∧ Hid (RowN wr gw .i64 S ∧ Cnt wr b g S ∧ S.length = n ∧ gw ≠ g ∧ gw ≠ b) ∧ w.heap.size ≤ gw) ∧ Hid (Below w.heap.size w wr)) (fun _ i _ => L.length - (intOf i).toNat)
  case atStart => exact ⟨0, Nat.zero_le _, by go_num, ⟨w1.heap.size, n, List.replicate n 0, rfl, ⟨HN.out, HC3.out, by simp, by omega, by omega⟩, hsz⟩, HB3⟩
  case round =>
    obtain ⟨j, hj, rfl, ⟨gw, cap, S, rfl, hS, hgw⟩, hn⟩ := hrel
    by_cases hj0 : j = L.length
    · subst hj0
      have C5 : Hid (Calls _ _ _ _ _) := shards_any b g S wr hS.out.2.1
      have C7 : Hid (∀ w1, Calls _ _ _ _ _) := awake_any
      have hl := hS.out.2.2.1
      go_wp2_with fail
      refine C5.out.mono ?_
      rintro e w5 ⟨h, rfl, hh, hhz, hb5⟩
      have C6 : Hid (Calls _ _ _ _ _) := same_any S (some ⟨h, 0, none⟩) (some ⟨gw, 0, none⟩) S.length cap w5 hh.rd (hS.out.1.keep hb5 hS.out.1.1).rd (by omega)
      clear C5 hh
      rw [hl] at C6
      rw [hl]
      go_wp2_with fail
      refine C6.out.mono ?_
      rintro e w6 ⟨rfl, hb6⟩
      go_wp2_with fail
      refine (C7.out w6).mono ?_
      rintro e w7 ⟨rfl, hb7⟩
      go_wp2_with fail
      go_ret
      have z1 := hn.out.size
      have z2 := hb5.size
      have z3 := hb6.size
      exact ⟨rfl, ((hn.out.trans (hb5.mono z1)).trans (hb6.mono (by omega))).trans (hb7.mono (by omega))⟩
    · have hj1 : j < L.length := by omega
      obtain ⟨ba, oa, rfl, hbB, d0, d1⟩ := HA.out j hj1
      have a0 := (hn.out.cell (p := ⟨ba, oa + j * 2, none⟩) hbB).trans d0
      have a1 := (hn.out.cell (p := ⟨ba, oa + j * 2 + 1, none⟩) hbB).trans d1
      clear d0 d1
      generalize (L[j]).s = s at *
      generalize (L[j]).n = x at *
      have C4 : Hid (Calls _ _ _ _ _) := add_any b g S s x wr.drew (below_cnt hS.out.2.1 (Below.refl _ _).drew)
      have hba : ba ≠ g := by omega
      go_wp2_with fail
      go_region_with (first | (go_at_call 10; refine C4.out.mono ?_; rintro e w4 ⟨rfl, hC4, hG4⟩))
      all_goals (
        have hG4' : wr.grownBy w4 (some g) := ⟨hG4.os, hG4.tape, hG4.output, hG4.size, hG4.block⟩
        have HC4 : Hid (Cnt _ _ _ _) := hC4
        have HG4 : Hid (World.grownBy _ _ _) := hG4'
        have a0' := hG4'.cell a0 (by simpa using hba)
        have a1' := hG4'.cell a1 (by simpa using hba)
        have hl := hS.out.2.2.1
        have hN4 := hS.out.1.grown hG4' (by simpa using hS.out.2.2.2.1)
        have C5 : Hid (Calls _ _ _ _ _) := radd_any S s x (some ⟨gw, 0, none⟩) cap w4.drew (hN4.rd.keep (Below.refl _ _).drew (Nat.le_refl _)) (by omega) (by omega)
        rw [hl] at C5
        clear hG4 hC4 C4 a0 a1 hG4' hN4
        go_wp2_with fail
        go_region_with (first | (go_at_call 11; refine C5.out.mono ?_; rintro e w5 ⟨g5, cap5, rfl, hN5, hg5, hb5⟩))
        all_goals (
          have hb5' : Below w4.heap.size w4 w5 := ⟨hb5.os, hb5.tape, hb5.output, hb5.size, hb5.block⟩
          have HC5 : Hid (Cnt _ _ _ _) := below_cnt HC4.out hb5'
          have HN5 : Hid (RowN _ _ _ _) := hN5
          have hl5 : (addS S s x).length = n := by rw [addS_len]; exact hl
          have C6 : Hid (Calls _ _ _ _ _) := sum_any b g _ w5 HC5.out
          have C7 : Hid (Calls _ _ _ _ _) := rsum_any (addS S s x) (some ⟨g5, 0, none⟩) cap5 w5 hN5.rd (by omega)
          rw [hl5] at C7
          have HB5 : Hid (Below _ _ _) := (hn.out.grown HG4.out hn.out.size (fun k hk => by cases hk; exact hg)).trans (hb5'.mono (Nat.le_trans hn.out.size HG4.out.size))
          have hsz4 := Nat.le_trans hn.out.size HG4.out.size
          have hg4 := HC4.out.row.1
          have hb4 := HC4.out.lt
          have hg5' : w4.heap.size ≤ g5 := hg5
          clear C5 hb5 hN5 hb5' hg5
          generalize addS S s x = S' at *
          go_wp2_with fail
          refine C6.out.mono ?_
          rintro e w6 ⟨rfl, hw⟩
          rw [hw]
          clear hw
          go_wp2_with fail
          refine C7.out.mono ?_
          rintro e w7 ⟨rfl, hw⟩
          rw [hw]
          clear hw
          go_wp2_with fail
          go_roundw
          case rel => exact ⟨j + 1, hj1, by go_num, ⟨g5, cap5, S', rfl, ⟨HN5.out, HC5.out, hl5, by omega, by omega⟩, by omega⟩, HB5⟩
          case measure => simp [intOf]; omega))

theorem lawAdds (n : Int) (L : List Ad) (p : Option Addr) (c : Nat) (w : World) (hR : RdA w w.heap.size p L) (hlen : L.length ≤ 140737488355328) :
    Calls Try.prog 3 #[.int .i64 n, .slice p L.length c] w fun e w' => e = .returned (.bool true) ∧ Below w.heap.size w w' := by
  by_cases h : n < 1 ∨ 64 < n
  · exact lawAdds_bad n L p c w h
  · obtain ⟨m, rfl⟩ : ∃ m : Nat, n = m := ⟨n.toNat, by omega⟩
    exact lawAdds_good m L p c w (by omega) (by omega) hR hlen
end Go.Proofs.Ytammkfilihlmhaa
