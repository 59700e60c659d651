/- The walk of the document's value of a row. -/
import Derived.Test.YtgnedioggpgeeaaDoorMRowA
namespace Go.Proofs.YtgnedioggpgeeaaDoor
open Go.RowKit
set_option maxRecDepth 100000

/-- what the document's reader tells -/
def RvP (r : Option (Vl × Nat)) (w : World) (e : Ending) (w' : World) : Prop := ∃ (v : Vl) (n : Int), e = .returned (.tuple #[v.val, .int .i64 n]) ∧ ((∃ k : Nat, r = some (v, k) ∧ n = (k : Int)) ∨ (r = none ∧ n = -1)) ∧ Below w.heap.size w w'
theorem RvP.yes {r : Option (Vl × Nat)} {w w' : World} {e : Ending} (v : Vl) (k : Nat) (he : e = .returned (.tuple #[v.val, .int .i64 (k : Int)])) (h : r = some (v, k)) (hw : Below w.heap.size w w') : RvP r w e w' := ⟨v, k, he, .inl ⟨k, h, rfl⟩, hw⟩
theorem RvP.no {r : Option (Vl × Nat)} {w w' : World} {e : Ending} (v : Vl) (he : e = .returned (.tuple #[v.val, .int .i64 (-1)])) (h : r = none) (hw : Below w.heap.size w w') : RvP r w e w' := ⟨v, -1, he, .inr ⟨h, rfl⟩, hw⟩

set_option maxHeartbeats 4000000 in
theorem rvalue_any (kd : Int) (bt : Nat) (s : ByteArray) (w : World) (hs : s.size ≤ 65536) (hbt : bt ≤ 3) (hk1 : 1 ≤ kd) (hk5 : kd ≤ 5) :
    Calls Tryd.prog 52 #[.int .i64 kd, .int .u8 (bt : Int), .string s] w (RvP (decV kd bt s) w) := by
  have hsf := run_store_float
  by_cases h0 : bt = 0
  · subst h0
    have hd : decV kd 0 s = some (vNull, 0) := by unfold decV; rw [if_pos rfl]
    rw [hd]
    go_enter Tryd.func52, Tryd.ntmps52
    go_wp2_with fail
    refine bodyPost_ret (v := .tuple #[vNull.val, .int .i64 ((0 : Nat) : Int)]) (by simp [results, Tryd.results52, go_sem, vNull]) rfl ?_
    exact RvP.yes vNull 0 rfl rfl (by go_grown)
  by_cases h1 : kd = 1 ∧ bt < 3
  · have hd : decV kd bt s = some (⟨1, (bt : Int) - 1, 0, ⟨#[]⟩⟩, 0) := by unfold decV; rw [if_neg h0, if_pos h1]
    rw [hd]
    obtain ⟨rfl, h3⟩ := h1
    have h12 : bt = 1 ∨ bt = 2 := by omega
    rcases h12 with rfl | rfl
    · go_enter Tryd.func52, Tryd.ntmps52
      go_wp2_with fail
      refine bodyPost_ret (v := .tuple #[(⟨1, 0, 0, ⟨#[]⟩⟩ : Vl).val, .int .i64 ((0 : Nat) : Int)]) (by simp [results, Tryd.results52, go_sem]) rfl ?_
      exact RvP.yes _ 0 rfl rfl (by go_grown)
    · go_enter Tryd.func52, Tryd.ntmps52
      go_wp2_with fail
      refine bodyPost_ret (v := .tuple #[(⟨1, 1, 0, ⟨#[]⟩⟩ : Vl).val, .int .i64 ((0 : Nat) : Int)]) (by simp [results, Tryd.results52, go_sem]) rfl ?_
      exact RvP.yes _ 0 rfl rfl (by go_grown)
  by_cases h2 : 1 < bt
  · have hd : decV kd bt s = none := by unfold decV; rw [if_neg h0, if_neg h1, if_pos h2]
    rw [hd]
    have e1 : ((bt : Int) == 0) = false := by simp; omega
    have e2 : (1 : Int) < (bt : Int) := by omega
    by_cases hk : kd = 1
    · subst hk
      have e3 : ¬ ((bt : Int) < 3) := by omega
      go_enter Tryd.func52, Tryd.ntmps52
      go_wp2_with fail
      refine bodyPost_ret (v := .tuple #[(⟨1, 0, 0, ⟨#[]⟩⟩ : Vl).val, .int .i64 (-1)]) (by simp [results, Tryd.results52, go_sem]) rfl ?_
      exact RvP.no _ rfl rfl (by go_grown)
    · go_enter Tryd.func52, Tryd.ntmps52
      go_wp2_with fail
      refine bodyPost_ret (v := .tuple #[(⟨kd, 0, 0, ⟨#[]⟩⟩ : Vl).val, .int .i64 (-1)]) (by simp [results, Tryd.results52, go_sem]) rfl ?_
      exact RvP.no _ rfl rfl (by go_grown)
  have h3 : bt = 1 := by omega
  subst h3
  have hk1' : ¬ kd = 1 := fun h => h1 ⟨h, by decide⟩
  have hd : decV kd 1 s = if kd = 3 then (if s.size < 8 then none else some (vFlo (leN s 8), 8)) else if (rdV s).2 = 0 then none else if kd = 2 then some (vInt (unz (rdV s).1), (rdV s).2) else if s.size - (rdV s).2 < (rdV s).1 then none else some (⟨kd, 0, 0, s.extract (rdV s).2 ((rdV s).2 + (rdV s).1)⟩, (rdV s).2 + (rdV s).1) := by
    unfold decV
    rw [if_neg h0, if_neg h1, if_neg h2]
  rw [hd]
  clear hd h1 h0 h2
  by_cases hk3 : kd = 3
  · subst hk3
    rw [if_pos rfl]
    by_cases h8 : s.size < 8
    · rw [if_pos h8]
      have h8' : (s.size : Int) < 8 := by omega
      go_enter Tryd.func52, Tryd.ntmps52
      go_wp2_with fail
      refine bodyPost_ret (v := .tuple #[(⟨3, 0, 0, ⟨#[]⟩⟩ : Vl).val, .int .i64 (-1)]) (by simp [results, Tryd.results52, go_sem]) rfl ?_
      exact RvP.no _ rfl rfl (by go_grown)
    · rw [if_neg h8]
      have h8' : ¬ (s.size : Int) < 8 := by omega
      have hfb := run_frombits
      go_enter Tryd.func52, Tryd.ntmps52
      go_wp2_with fail
      go_loopw [9, 10] (fun x k wr => ∃ j : Nat, j ≤ 8 ∧ k = .int .i64 (j : Int) ∧ x = .int .u64 ((leN s j : Nat) : Int) ∧ wr = (w.alloc (.cells #[.int .i64 0, .int .i64 0, .float .f64 0, .string ⟨#[]⟩] 49)).alloc (.cells #[.int .i64 3, .int .i64 0, .float .f64 0, .string ⟨#[]⟩] 49)) (fun _ k _ => 8 - (intOf k).toNat)
      case atStart => exact ⟨0, Nat.zero_le _, by go_num, by go_num, rfl⟩
      case round =>
        obtain ⟨j, hj, rfl, rfl, rfl⟩ := hrel
        by_cases hj0 : j = 8
        · subst hj0
          generalize leN s 8 = n at *
          go_wp2_with fail
          refine bodyPost_ret (v := .tuple #[(vFlo n).val, .int .i64 ((8 : Nat) : Int)]) (by simp [results, Tryd.results52, go_sem, vFlo]) rfl ?_
          exact RvP.yes (vFlo n) 8 rfl rfl (by go_grown)
        · have hj1 : j < s.size := by omega
          have hix : ∀ w1 : World, (Instr.index 9 (.string s) (.int .i64 (j : Int))).run Tryd.prog w1 = .ok (.int .u8 (s[j].toNat : Int)) w1 := fun w1 => idx_at s j hj1 w1
          have HN : Hid (leN s (j + 1) = _) := leN_at s j hj1
          have hn := leN_lt s j
          have hc : s[j].toNat < 256 := s[j].toNat_lt
          generalize s[j].toNat = c at *
          obtain ⟨hsh, ho, hcl, hnl⟩ := le8 hn hc (by omega)
          have hor := bits_or64 (leN s j) (c * 256 ^ j) hnl hcl
          rw [ho] at hor
          generalize c * 256 ^ j = H at *
          generalize leN s j = n at *
          have hcw : IntKind.u64.wrap (c : Int) = (c : Int) := by rw [IntKind.wrap_u64]; omega
          clear ho hn
          go_wp2_with fail
          go_roundw
          case rel => exact ⟨j + 1, by omega, by go_num, by rw [HN.out]; norm_cast, trivial⟩
          case measure => simp [intOf]; omega
  rw [if_neg hk3]
  have C1 : Hid (∀ w1, Calls _ _ _ _ _) := fun w1 => rnumber_any s w1 (by omega)
  have hle := rdV_le s
  have hlt := rdV_lt s
  obtain ⟨n, k, hnk⟩ : ∃ n k, rdV s = (n, k) := ⟨_, _, rfl⟩
  rw [hnk] at C1 hle hlt ⊢
  dsimp only at C1 hle hlt ⊢
  clear hnk
  by_cases hz : k = 0
  · rw [if_pos hz]
    subst hz
    go_enter Tryd.func52, Tryd.ntmps52
    go_wp2_with fail
    refine (C1.out _).mono ?_
    rintro e w1 ⟨rfl, hw⟩
    rw [hw]
    clear hw
    go_wp2_with fail
    refine bodyPost_ret (v := .tuple #[(⟨kd, 0, 0, ⟨#[]⟩⟩ : Vl).val, .int .i64 (-1)]) (by simp [results, Tryd.results52, go_sem]) rfl ?_
    exact RvP.no _ rfl rfl (by go_grown)
  rw [if_neg hz]
  have hz' : ((k : Int) == 0) = false := by simp; omega
  by_cases hk2 : kd = 2
  · rw [if_pos hk2]
    subst hk2
    have HU : Hid (unz n = if n % 2 = 0 then ((n / 2 : Nat) : Int) else -((n / 2 : Nat) : Int) - 1) := rfl
    by_cases hev : n % 2 = 0
    · rw [if_pos hev] at HU
      rw [HU.out]
      have e1 : (((n : Int) % 2) == 1) = false := by simp; omega
      go_enter Tryd.func52, Tryd.ntmps52
      go_wp2_with fail
      refine (C1.out _).mono ?_
      rintro e w1 ⟨rfl, hw⟩
      rw [hw]
      clear hw
      go_wp2_with fail
      refine bodyPost_ret (v := .tuple #[(vInt ((n / 2 : Nat) : Int)).val, .int .i64 (k : Int)]) (by simp [results, Tryd.results52, go_sem, vInt]) rfl ?_
      exact RvP.yes _ k rfl rfl (by go_grown)
    · rw [if_neg hev] at HU
      rw [HU.out]
      have e1 : (((n : Int) % 2) == 1) = true := by simp; omega
      go_enter Tryd.func52, Tryd.ntmps52
      go_wp2_with fail
      refine (C1.out _).mono ?_
      rintro e w1 ⟨rfl, hw⟩
      rw [hw]
      clear hw
      go_wp2_with fail
      refine bodyPost_ret (v := .tuple #[(vInt (-((n / 2 : Nat) : Int) - 1)).val, .int .i64 (k : Int)]) (by simp [results, Tryd.results52, go_sem, vInt]) rfl ?_
      exact RvP.yes _ k rfl rfl (by go_grown)
  rw [if_neg hk2]
  by_cases hl : s.size - k < n
  · rw [if_pos hl]
    have hl' : (s.size : Int) - (k : Int) < (n : Int) := by omega
    go_enter Tryd.func52, Tryd.ntmps52
    go_wp2_with fail
    refine (C1.out _).mono ?_
    rintro e w1 ⟨rfl, hw⟩
    rw [hw]
    clear hw
    go_wp2_with fail
    refine bodyPost_ret (v := .tuple #[(⟨kd, 0, 0, ⟨#[]⟩⟩ : Vl).val, .int .i64 (-1)]) (by simp [results, Tryd.results52, go_sem]) rfl ?_
    exact RvP.no _ rfl rfl (by go_grown)
  · rw [if_neg hl]
    have hl' : ¬ (s.size : Int) - (k : Int) < (n : Int) := by omega
    have hsl : ∀ w1 : World, (Instr.slice 9 (.string s) (some (.int .i64 (k : Int))) (some (.int .i64 ((k : Int) + (n : Int)))) none).run Tryd.prog w1 = .ok (.string (s.extract k (k + n))) w1 := fun w1 => by
      have := slice_mid s k (k + n) (by omega) (by omega) w1
      push_cast at this
      exact this
    generalize s.extract k (k + n) = x at *
    go_enter Tryd.func52, Tryd.ntmps52
    go_wp2_with fail
    refine (C1.out _).mono ?_
    rintro e w1 ⟨rfl, hw⟩
    rw [hw]
    clear hw
    go_wp2_with fail
    refine bodyPost_ret (v := .tuple #[(⟨kd, 0, 0, x⟩ : Vl).val, .int .i64 ((k + n : Nat) : Int)]) (by simp [results, Tryd.results52, go_sem]) rfl ?_
    exact RvP.yes _ (k + n) rfl rfl (by go_grown)
end Go.Proofs.YtgnedioggpgeeaaDoor
