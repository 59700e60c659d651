/- Layer 13: from, find, left, newTaker. -/
import Derived.Test.YtcdamalpecedcaaGreatWGp4
import Derived.Test.YtcdamalpecedcaaGreatWGp7
import Derived.Test.YtcdamalpecedcaaGreatWGp8
import Derived.Conc.SmallLaws
namespace Go.Proofs.YtcdamalpecedcaaGreat
open Go.RowKit
set_option maxRecDepth 100000

theorem hasT_plc {Z : List (Nat × Nat)} (hr : RisZ Z) {n : Nat} (h : hasT Z n = true) : ∃ hi : plc Z n < Z.length, Z[plc Z n].2 = n := by
  obtain ⟨z, hz, he⟩ := List.any_eq_true.1 h
  rw [beq_iff_eq] at he
  obtain ⟨i, hi, rfl⟩ := List.getElem_of_mem hz
  have e : plc Z n = i := plc_is (Nat.le_of_lt hi) (fun k hk hki => by have := hr.lt hki hi; omega) (fun k hk hik => by
    rcases Nat.lt_or_eq_of_le hik with h1 | h1
    · have := hr.lt h1 hk; omega
    · subst h1; omega)
  rw [e]
  exact ⟨hi, he⟩
theorem RdZ.drop {w : World} {g o : Nat} {Z : List (Nat × Nat)} (h : RdZ w (some ⟨g, o, none⟩) Z) (m : Nat) : RdZ w (some ⟨g, o + m, none⟩) (Z.drop m) := by
  intro i hi
  rw [List.length_drop] at hi
  obtain ⟨g', o', e, hg, c0, h1, c1⟩ := h (m + i) (by omega)
  injection e with e
  injection e with e1 e2
  subst e1 e2
  rw [List.getElem_drop]
  exact ⟨g, o + m, rfl, hg, by rw [show o + m + i = o + (m + i) by omega]; exact c0, h1, c1⟩

set_option maxHeartbeats 4000000 in
theorem find_some (xb nx c n : Nat) (p : Option Addr) (Z : List (Nat × Nat)) (w : World) (h : LnZ w xb nx p c Z) (hh : hasT Z n = true) (hi : plc Z n < Z.length) :
    Calls Tryz.prog 25 #[ptr1 xb, .int .u64 (n : Nat)] w fun e w' => e = .returned (.tuple #[ptr1 Z[plc Z n].1, .bool true]) ∧ w' = w := by
  have C1 : Hid (Calls _ _ _ _ _) := place_any xb nx c n p Z w h
  obtain ⟨g, o, rfl, hg, c0, -, -⟩ := h.r _ hi
  have y1 := Blk.cell (i := 1) h.b rfl
  have hl := h.l
  rw [hh] at C1
  clear h hh
  obtain ⟨tb, htb⟩ : ∃ tb, Z[plc Z n].1 = tb := ⟨_, rfl⟩
  rw [htb] at c0 ⊢
  clear htb
  obtain ⟨m, hm⟩ : ∃ m, plc Z n = m := ⟨_, rfl⟩
  rw [hm] at C1 c0 hi
  clear hm
  go_enter Tryz.func25, Tryz.ntmps25
  go_wp2_with fail
  refine C1.out.mono ?_
  rintro e w2 ⟨rfl, rfl⟩
  go_wp2_with fail
  go_ret2
  exact ⟨rfl, rfl⟩

set_option maxHeartbeats 4000000 in
theorem find_none (xb nx c n : Nat) (p : Option Addr) (Z : List (Nat × Nat)) (w : World) (h : LnZ w xb nx p c Z) (hh : hasT Z n = false) :
    Calls Tryz.prog 25 #[ptr1 xb, .int .u64 (n : Nat)] w fun e w' => e = .returned (.tuple #[.pointer none, .bool false]) ∧ w' = w := by
  have C1 : Hid (Calls _ _ _ _ _) := place_any xb nx c n p Z w h
  rw [hh] at C1
  clear h hh
  go_enter Tryz.func25, Tryz.ntmps25
  go_wp2_with fail
  refine C1.out.mono ?_
  rintro e w2 ⟨rfl, rfl⟩
  go_wp2_with fail
  go_ret2
  exact ⟨rfl, rfl⟩

set_option maxHeartbeats 4000000 in
theorem from_any (xb nx c n : Nat) (p : Option Addr) (Z : List (Nat × Nat)) (w : World) (h : LnZ w xb nx p c Z) (hc : Z.length ≤ c) (hn : p = none → c = 0) (hp : ∀ a, p = some a → ∃ g, a = ⟨g, 0, none⟩) :
    Calls Tryz.prog 45 #[ptr1 xb, .int .u64 (n : Nat)] w fun e w' => (∃ p' c', e = .returned (.slice p' (Z.drop (plc Z n)).length c') ∧ ∀ wz, RdZ wz p Z → RdZ wz p' (Z.drop (plc Z n))) ∧ w' = w := by
  have C1 : Hid (Calls _ _ _ _ _) := place_any xb nx c n p Z w h
  have y1 := Blk.cell (i := 1) h.b rfl
  have hl := h.l
  have hle := plc_le Z n
  clear h
  rw [List.length_drop]
  obtain ⟨m, hm⟩ : ∃ m, plc Z n = m := ⟨_, rfl⟩
  rw [hm] at C1 hle ⊢
  clear hm
  cases p with
  | none =>
    have e0 : c = 0 := hn rfl
    subst e0
    have hz : Z = [] := List.eq_nil_of_length_eq_zero (by omega)
    subst hz
    have hm0 : m = 0 := by simpa using hle
    subst hm0
    clear hn hp hc hle hl
    go_enter Tryz.func45, Tryz.ntmps45
    go_wp2_with fail
    refine C1.out.mono ?_
    rintro e w2 ⟨rfl, rfl⟩
    go_wp2_with fail
    go_ret
    exact ⟨⟨_, _, rfl, fun wz _ i hi => absurd hi (by simp)⟩, rfl⟩
  | some a =>
    obtain ⟨g, rfl⟩ := hp a rfl
    clear hp hn
    by_cases hcm : c = m
    · have hz : Z.drop m = [] := List.drop_eq_nil_of_le (by omega)
      have hn0 : Z.length - m = 0 := by omega
      rw [hn0]
      have HZ : Hid (Z.drop m = []) := hz
      obtain ⟨n0, hn⟩ : ∃ n0, Z.length = n0 := ⟨_, rfl⟩
      rw [hn] at y1 hc hle hl hn0
      have hnm : m = n0 := by omega
      have hcm2 := hcm.symm
      clear hz hn hcm hn0
      subst hcm2
      subst hnm
      go_enter Tryz.func45, Tryz.ntmps45
      go_wp2_with fail
      refine C1.out.mono ?_
      rintro e w2 ⟨rfl, rfl⟩
      go_wp2_with fail
      go_ret
      exact ⟨⟨_, _, by first | rfl | simp, by rw [HZ.out]; exact fun wz _ i hi => absurd hi (by simp)⟩, rfl⟩
    · have HRd : Hid (∀ wz, RdZ wz (some ⟨g, 0, none⟩) Z → RdZ wz (some ⟨g, m, none⟩) (Z.drop m)) := by
        intro wz hz
        have h9 := hz.drop m
        rw [Nat.zero_add] at h9
        exact h9
      generalize Z.length = n0 at *
      go_enter Tryz.func45, Tryz.ntmps45
      go_wp2_with fail
      refine C1.out.mono ?_
      rintro e w2 ⟨rfl, rfl⟩
      go_wp2_with fail
      go_ret
      exact ⟨⟨some ⟨g, m, none⟩, _, by first | rfl | simp, HRd.out⟩, rfl⟩

set_option maxHeartbeats 4000000 in
theorem left_any (xb nx c : Nat) (p : Option Addr) (Z : List (Nat × Nat)) (va : Value) (A : List Nat) (w : World) (h : LnZ w xb nx p c Z) (hA : RwU w.heap.size w va A) (hl : A.length ≤ 256) :
    Calls Tryz.prog 37 #[ptr1 xb, va] w fun e w' => ∃ v, e = .returned v ∧ OwnU w' w.heap.size v (A.filter (hasT Z)) ∧ Below w.heap.size w w' := by
  obtain ⟨pa, ca, rfl, hRA⟩ : ∃ pa ca, va = .slice pa A.length ca ∧ ∀ i (hi : i < A.length), ∃ b, pa = some ⟨b, 0, none⟩ ∧ b < w.heap.size ∧ w.cell? ⟨b, i, none⟩ = some (.int .u64 (A[i] : Nat)) := by
    rcases hA with ⟨rfl, rfl⟩ | ⟨b, cap, rfl, hb, hc⟩
    · exact ⟨none, 0, rfl, fun i hi => absurd hi (by simp)⟩
    · refine ⟨_, cap, rfl, fun i hi => ⟨b, rfl, hb, ?_⟩⟩
      have h1 := hc i hi
      rwa [List.getD_eq_getElem?_getD, List.getElem?_eq_getElem hi] at h1
  have HA : Hid (∀ i (hi : i < A.length), ∃ b, pa = some ⟨b, 0, none⟩ ∧ b < w.heap.size ∧ w.cell? ⟨b, i, none⟩ = some (.int .u64 (A[i] : Nat))) := hRA
  have HZ : Hid (LnZ w xb nx p c Z) := h
  clear hRA h hA
  obtain ⟨n, hn⟩ : ∃ n, A.length = n := ⟨_, rfl⟩
  have HN : Hid (A.length = n) := hn
  rw [hn] at hl ⊢
  clear hn
  go_enter Tryz.func37, Tryz.ntmps37
  go_wp2_with fail
  go_loopw [5, 12] (fun sv si wq => ∃ i : Nat, i ≤ n ∧ si = .int .i64 (i : Int) ∧ Hid (OwnU wq w.heap.size sv ((A.take i).filter (hasT Z)) ∧ Below w.heap.size w wq)) (fun _ si _ => ((n : Int) - intOf si).toNat)
  case atStart => exact ⟨0, by omega, rfl, World.ownsRow_nil _ _ _ _, Below.refl _ _⟩
  case round =>
    obtain ⟨i, hi, rfl, HI⟩ := hrel
    have HL : Hid (((A.take i).filter (hasT Z)).length ≤ 256) := Nat.le_trans (List.length_filter_le _ _) (Nat.le_trans (List.length_take_le _ _) (by omega))
    rcases Nat.lt_or_eq_of_le hi with hlt | heq
    · have g1 : decide ((i : Int) < (n : Int)) = true := by simp; omega
      have hltA : i < A.length := by rw [HN.out]; exact hlt
      obtain ⟨b, rfl, hb, c0⟩ := HA.out i hltA
      have c1 := (HI.out.2.cell (p := ⟨b, i, none⟩) hb).trans c0
      have C1 : Hid (Calls _ _ _ _ _) := place_any xb nx c A[i] p Z wr (HZ.out.on HI.out.2)
      have HT : Hid ((A.take (i + 1)).filter (hasT Z) = (A.take i).filter (hasT Z) ++ (if hasT Z A[i] = true then [A[i]] else [])) := by
        show _ = _
        rw [List.take_succ_eq_append_getElem hltA, List.filter_append]
        simp [List.filter_cons]
      generalize A[i] = t at *
      clear c0 hb
      cases hh : hasT Z t with
      | true =>
        rw [hh, if_pos rfl] at HT
        rw [hh] at C1
        go_wp2_with fail
        refine C1.out.mono ?_
        rintro e w2 ⟨rfl, hw2⟩
        rw [hw2]
        clear hw2 C1
        go_wp2_with (first | (at_builtin; go_loud (refine wpList_app1 wr rfl (.tmp 23) (.tmp 25) 26 37 _ 1 8 rfl Tryz.underlying37 info_u64 rfl (by decide) w.heap.size _ _ _ (by rfl) HI.out.1 [.int .u64 (t : Nat)] rfl (by intro u hu; simp only [List.mem_cons, List.not_mem_nil, or_false] at hu; rcases hu with rfl; rfl) _ rfl (by simp) (by have := HL.out; omega) (by have := HL.out; omega) HI.out.2.size ?_); intro v3 w3 h3 h4 h5; refine Hid.out ?_))
        have HI3 : Hid (OwnU w3 w.heap.size v3 ((A.take (i + 1)).filter (hasT Z)) ∧ Below w.heap.size w w3) := by
          refine ⟨?_, HI.out.2.trans h4⟩
          show World.ownsRow _ _ _ _ _ _ _
          rw [HT.out, List.length_append, List.map_append]
          exact h3
        clear h3 h4 h5
        unfold Hid
        go_wp2_with fail
        go_roundw
        case rel => exact ⟨i + 1, by omega, by go_num, HI3⟩
        case measure => simp [intOf]; omega
      | false =>
        rw [hh, if_neg (by decide), List.append_nil] at HT
        rw [hh] at C1
        have HI3 : Hid (OwnU wr w.heap.size u5 ((A.take (i + 1)).filter (hasT Z)) ∧ Below w.heap.size w wr) := by
          rw [HT.out]
          exact HI.out
        go_wp2_with fail
        refine C1.out.mono ?_
        rintro e w2 ⟨rfl, hw2⟩
        rw [hw2]
        clear hw2 C1
        go_wp2_with fail
        go_roundw
        case rel => exact ⟨i + 1, by omega, by go_num, HI3⟩
        case measure => simp [intOf]; omega
    · have g1 : decide ((i : Int) < (n : Int)) = false := by simp; omega
      have HI3 : Hid (OwnU wr w.heap.size u5 (A.filter (hasT Z)) ∧ Below w.heap.size w wr) := by
        have h9 := HI.out
        rw [heq, ← HN.out, List.take_length] at h9
        exact h9
      go_wp2_with fail
      go_ret
      exact ⟨_, rfl, HI3.out⟩
theorem info_tk : (Tryz.prog.info? 97).map (fun i => (i.zero, i.size)) = some (some (.agg #[.int .u64 0, .slice none 0 0, .slice none 0 0, .slice none 0 0, .chan none, .int .i64 0, .int .u32 0, .int .i32 0, .int .u32 0]), 9) := by kernel_rfl
end Go.Proofs.YtcdamalpecedcaaGreat
