/- What the document's reading of a value tells of any key. -/
import Derived.Test.YteffaldahccgiaaDoorWBk2
import Derived.Test.YteffaldahccgiaaDoorWBk3
import Derived.Test.YteffaldahccgiaaDoorWBk4
namespace Go.Proofs.YteffaldahccgiaaDoor
open Go.RowKit
set_option maxRecDepth 100000

def BkIs (s : ByteArray) (h0 : 0 < s.size) (v : Vl) (n : Nat) : Prop := (∀ w : World, Calls Tryd.prog 41 #[.string s] w fun e w' => e = .returned (.tuple #[v.val, .int .i64 (n : Int)]) ∧ Below w.heap.size w w') ∧ v.ok ∧ n ≤ s.size ∧ ∀ u m, rdV s[0] (s.data.toList.drop 1) = some (u, m) → v = u ∧ n = 1 + m

theorem ok_k {k : Int} (h1 : -1 ≤ k) (h2 : k ≤ 255) : (⟨k, 0, 0, ⟨#[]⟩⟩ : Vl).ok := by
  refine ⟨⟨?_, ?_⟩, ⟨by show (-9223372036854775808 : Int) ≤ 0; decide, by show (0 : Int) ≤ 9223372036854775807; decide⟩, by show (0 : Nat) < _; decide, by show (0 : Nat) ≤ _; decide⟩
  · show -9223372036854775808 ≤ k
    omega
  · show k ≤ 9223372036854775807
    omega
theorem ext_take (s : ByteArray) (a k : Nat) : (s.extract a (a + k)).data.toList = (s.data.toList.drop a).take k := by
  rw [ByteArray.data_extract, Array.toList_extract, List.extract_eq_take_drop, Nat.add_sub_cancel_left]
theorem ext_sz (s : ByteArray) (a k : Nat) : (s.extract a (a + k)).size ≤ k := by simp; omega
theorem number_at (s : ByteArray) (a k : Nat) (hk : k ≤ 8) (w : World) : Calls Tryd.prog 66 #[.string (s.extract a (a + k))] w fun e w' => e = .returned (.int .u64 ((num ((s.data.toList.drop a).take k) : Nat) : Int)) ∧ w' = w := by
  have h := number_any (s.extract a (a + k)) w (by have := ext_sz s a k; omega)
  rw [ext_take] at h
  exact h
theorem num_at_lt (l : List UInt8) (k : Nat) : num (l.take k) < 256 ^ k := by
  have h := num_lt (l.take k)
  exact Nat.lt_of_lt_of_le h (Nat.pow_le_pow_right (by decide) (by rw [List.length_take]; omega))
theorem pow_le8 {k : Nat} (hk : k ≤ 8) : 256 ^ k ≤ 18446744073709551616 := by
  have : (256 : Nat) ^ k ≤ 256 ^ 8 := Nat.pow_le_pow_right (by decide) hk
  rw [pow256_8] at this
  exact this
theorem and_low {t k : Nat} (hk : k ≤ 8) (ht : t < 256 ^ k) : bits .and .u64 (bits .xor .u64 (if IntKind.u64.signed = true then -1 else IntKind.u64.max) (t : Int)) (IntKind.u64.wrap (IntKind.u64.wrap (2 ^ (8 * k)) - 1)) = ((256 ^ k - 1 - t : Nat) : Int) := by
  have h8 := pow_le8 hk
  have hif : (if IntKind.u64.signed = true then (-1 : Int) else IntKind.u64.max) = IntKind.u64.max := by decide
  have hp : 0 < 256 ^ k := Nat.pow_pos (by decide)
  rw [hif, not_u64 t (by omega) _ (by decide), low_val k hk, u64_and_nat _ _ (by omega) (by omega)]
  have e : (256 : Nat) ^ k = 2 ^ (8 * k) := by rw [Nat.pow_mul]
  have e2 : (18446744073709551615 - t) &&& (256 ^ k - 1) = (18446744073709551615 - t) % 256 ^ k := by rw [e, Nat.and_two_pow_sub_one_eq_mod]
  rw [e2, low_turned hk ht]

theorem bkis_bool (s : ByteArray) (h0 : 0 < s.size) (ht : s[0] = 2) : ∃ v n, BkIs s h0 v n := by
  by_cases h1 : 1 < s.size
  · have hd : s.data.toList.drop 1 = s[1] :: s.data.toList.drop 2 := drop_cons h1
    by_cases hb : s[1].toNat < 2
    · refine ⟨⟨1, s[1].toNat, 0, ⟨#[]⟩⟩, 2, fun w => bk_bool s w h0 ht h1 (by omega), ⟨⟨by show (-9223372036854775808 : Int) ≤ 1; decide, by show (1 : Int) ≤ 9223372036854775807; decide⟩, ⟨?_, ?_⟩, by show (0 : Nat) < _; decide, by show (0 : Nat) ≤ _; decide⟩, by omega, ?_⟩
      · show (-9223372036854775808 : Int) ≤ (s[1].toNat : Int)
        omega
      · show (s[1].toNat : Int) ≤ 9223372036854775807
        omega
      · intro u m h
        rw [ht, hd] at h
        have e : rdV 2 (s[1] :: s.data.toList.drop 2) = rdBool (s[1] :: s.data.toList.drop 2) := rfl
        rw [e, rdBool, if_neg (by omega)] at h
        simp only [Option.some.injEq, Prod.mk.injEq] at h
        obtain ⟨rfl, rfl⟩ := h
        refine ⟨?_, rfl⟩
        have h2 : s[1].toNat = 0 ∨ s[1].toNat = 1 := by omega
        rcases h2 with h2 | h2
        · have h3 : s[1] = 0 := UInt8.toNat_inj.1 (h2.trans rfl)
          rw [h3]; rfl
        · have h3 : s[1] = 1 := UInt8.toNat_inj.1 (h2.trans rfl)
          rw [h3]; rfl
    · refine ⟨⟨1, 0, 0, ⟨#[]⟩⟩, 0, fun w => bk_bool_no s w h0 ht h1 (by omega), ok_k (by decide) (by decide), by omega, ?_⟩
      intro u m h
      rw [ht, hd] at h
      have e : rdV 2 (s[1] :: s.data.toList.drop 2) = rdBool (s[1] :: s.data.toList.drop 2) := rfl
      rw [e, rdBool, if_pos (by omega)] at h
      simp at h
  · have h1 : s.size = 1 := by omega
    refine ⟨⟨1, 0, 0, ⟨#[]⟩⟩, 0, fun w => bk_bool_short s w h1 ht, ok_k (by decide) (by decide), by omega, ?_⟩
    intro u m h
    rw [ht, List.drop_of_length_le (by simp; omega)] at h
    have e : rdV 2 [] = none := rfl
    rw [e] at h
    simp at h

theorem bkis_int (s : ByteArray) (h0 : 0 < s.size) (hs : s.size ≤ 1024) (ht : s[0] = 3) : ∃ v n, BkIs s h0 v n := by
  by_cases h1 : 1 < s.size
  · have hd : s.data.toList.drop 1 = s[1] :: s.data.toList.drop 2 := drop_cons h1
    have e : rdV 3 (s[1] :: s.data.toList.drop 2) = rdInt (s[1] :: s.data.toList.drop 2) := rfl
    have hrl : (s.data.toList.drop 2).length = s.size - 2 := by simp
    have hlt := s[1].toNat_lt
    unfold BkIs
    rw [ht, hd, e, rdInt, hrl]
    clear hd e
    by_cases hp : 128 ≤ s[1].toNat
    · rw [if_pos hp]
      obtain ⟨k, hk⟩ : ∃ k, k = s[1].toNat - 128 := ⟨_, rfl⟩
      rw [← hk]
      have hk' : (s[1].toNat : Int) - 128 = (k : Int) := by omega
      by_cases h8 : 8 < k
      · rw [if_pos (.inl h8)]
        exact ⟨⟨2, 0, 0, ⟨#[]⟩⟩, 0, fun w => bk_int_p8 s k w h0 ht h1 hs hk' (by omega), ok_k (by decide) (by decide), by omega, fun u m h => by simp at h⟩
      · by_cases hl : s.size < 2 + k
        · rw [if_pos (.inr (by omega))]
          exact ⟨⟨2, 0, 0, ⟨#[]⟩⟩, 0, fun w => bk_int_pl s k w h0 ht h1 hs hk' (by omega) (by omega), ok_k (by decide) (by decide), by omega, fun u m h => by simp at h⟩
        · rw [if_neg (by omega)]
          have hm := num_at_lt (s.data.toList.drop 2) k
          have h88 := pow_le8 (k := k) (by omega)
          have hC := fun w => number_at s 2 k (by omega) w
          generalize num ((s.data.toList.drop 2).take k) = q at *
          by_cases hb : 9223372036854775807 < q
          · rw [if_pos (.inl hb)]
            exact ⟨⟨2, 0, 0, ⟨#[]⟩⟩, 0, fun w => bk_int_pbig s k q w h0 ht h1 hs hk' (by omega) (by omega) hC (by omega), ok_k (by decide) (by decide), by omega, fun u m h => by simp at h⟩
          · refine ⟨vInt q, 2 + k, fun w => ?_, ok_int (by omega) (by omega), by omega, ?_⟩
            · have h := bk_int_pok s k q w h0 ht h1 hs hk' (by omega) (by omega) hC (by omega)
              have e2 : ((2 + k : Nat) : Int) = 2 + (k : Int) := by omega
              rw [e2]
              exact h
            · intro u m h
              by_cases hz : sz q ≠ k
              · rw [if_pos (.inr hz)] at h; simp at h
              · rw [if_neg (by omega)] at h
                simp only [Option.some.injEq, Prod.mk.injEq] at h
                obtain ⟨rfl, rfl⟩ := h
                exact ⟨rfl, by omega⟩
    · rw [if_neg hp]
      obtain ⟨k, hk⟩ : ∃ k, k = 128 - s[1].toNat := ⟨_, rfl⟩
      rw [← hk]
      have hk' : (s[1].toNat : Int) - 128 = -(k : Int) := by omega
      have hk0 : 0 < k := by omega
      by_cases h8 : 8 < k
      · rw [if_pos (.inl h8)]
        exact ⟨⟨2, 0, 0, ⟨#[]⟩⟩, 0, fun w => bk_int_n8 s k w h0 ht h1 hs hk' hk0 (by omega), ok_k (by decide) (by decide), by omega, fun u m h => by simp at h⟩
      · by_cases hl : s.size < 2 + k
        · rw [if_pos (.inr (by omega))]
          exact ⟨⟨2, 0, 0, ⟨#[]⟩⟩, 0, fun w => bk_int_nl s k w h0 ht h1 hs hk' hk0 (by omega) (by omega), ok_k (by decide) (by decide), by omega, fun u m h => by simp at h⟩
        · rw [if_neg (by omega)]
          have hm := num_at_lt (s.data.toList.drop 2) k
          have h88 := pow_le8 (k := k) (by omega)
          have hx := and_low (k := k) (by omega) hm
          have hC := fun w => number_at s 2 k (by omega) w
          generalize num ((s.data.toList.drop 2).take k) = t at *
          obtain ⟨q, hq⟩ : ∃ q, q = 256 ^ k - 1 - t := ⟨_, rfl⟩
          have hql : q < 18446744073709551616 := by omega
          rw [← hq] at hx ⊢
          clear hq
          by_cases hb : 9223372036854775807 < q
          · rw [if_pos (.inl hb)]
            exact ⟨⟨2, 0, 0, ⟨#[]⟩⟩, 0, fun w => bk_int_nbig s k q w h0 ht h1 hs hk' hk0 (by omega) (by omega) t hx hC (by omega), ok_k (by decide) (by decide), by omega, fun u m h => by simp at h⟩
          · refine ⟨vInt (-(q : Int) - 1), 2 + k, fun w => ?_, ok_int (by omega) (by omega), by omega, ?_⟩
            · have h := bk_int_nok s k q w h0 ht h1 hs hk' hk0 (by omega) (by omega) t hx hC (by omega)
              have e2 : ((2 + k : Nat) : Int) = 2 + (k : Int) := by omega
              rw [e2]
              exact h
            · intro u m h
              by_cases hz : max (sz q) 1 ≠ k
              · rw [if_pos (.inr hz)] at h; simp at h
              · rw [if_neg (by omega)] at h
                simp only [Option.some.injEq, Prod.mk.injEq] at h
                obtain ⟨rfl, rfl⟩ := h
                exact ⟨rfl, by omega⟩
  · have h1 : s.size = 1 := by omega
    refine ⟨⟨2, 0, 0, ⟨#[]⟩⟩, 0, fun w => bk_int_short s w h1 ht, ok_k (by decide) (by decide), by omega, ?_⟩
    intro u m h
    rw [ht, List.drop_of_length_le (by simp; omega)] at h
    have e : rdV 3 [] = none := rfl
    rw [e] at h
    simp at h

theorem ok_flo {f : Nat} (h : f < 18446744073709551616) : (vFlo f).ok := ⟨⟨by show (-9223372036854775808 : Int) ≤ 3; decide, by show (3 : Int) ≤ 9223372036854775807; decide⟩, ⟨by show (-9223372036854775808 : Int) ≤ 0; decide, by show (0 : Int) ≤ 9223372036854775807; decide⟩, h, by show (0 : Nat) ≤ _; decide⟩

theorem bkis_flo (s : ByteArray) (h0 : 0 < s.size) (ht : s[0] = 4) : ∃ v n, BkIs s h0 v n := by
  unfold BkIs
  have e : rdV 4 (s.data.toList.drop 1) = rdFlo (s.data.toList.drop 1) := rfl
  have hrl : (s.data.toList.drop 1).length = s.size - 1 := by simp
  rw [ht, e]
  unfold rdFlo
  rw [hrl]
  by_cases h8 : 8 < s.size
  · rw [if_neg (by omega)]
    have hm := num_at_lt (s.data.toList.drop 1) 8
    rw [pow256_8] at hm
    have hC := fun w => number_at s 1 8 (by decide) w
    generalize num ((s.data.toList.drop 1).take 8) = b at *
    have hf := unG_lt b hm
    refine ⟨vFlo (unG b), 9, ?_, ok_flo hf, by omega, ?_⟩
    · rcases Nat.lt_or_ge b 9223372036854775808 with hc | hc
      · intro w
        refine bk_flo_a s b (unG b) w h0 ht (by omega) ?_ (by omega) hC
        have hif : (if IntKind.u64.signed = true then (-1 : Int) else IntKind.u64.max) = IntKind.u64.max := by decide
        rw [hif, not_u64 b hm _ (by decide)]
        unfold unG; rw [if_pos hc]
      · intro w
        refine bk_flo_b s b (unG b) w h0 ht (by omega) ?_ (by omega) hC
        have h := u64_xor_nat b 9223372036854775808 hm (by decide)
        rw [show ((9223372036854775808 : Nat) : Int) = 9223372036854775808 from rfl] at h
        have e1 : unG b + 2 ^ 63 = b := by unfold unG; rw [if_neg (by omega)]; omega
        have e2 : unG b < 2 ^ 63 := by omega
        rw [h]
        congr 1
        conv => lhs; lhs; rw [← e1]
        rw [show (9223372036854775808 : Nat) = 2 ^ 63 from rfl, ← xor_top e2, Nat.xor_assoc, Nat.xor_self, Nat.xor_zero]
    · intro u m h
      split at h
      · simp only [Option.some.injEq, Prod.mk.injEq] at h
        obtain ⟨rfl, rfl⟩ := h
        exact ⟨rfl, rfl⟩
      · simp at h
  · rw [if_pos (by omega)]
    exact ⟨⟨3, 0, 0, ⟨#[]⟩⟩, 0, fun w => bk_flo_short s w h0 ht (by omega), ok_k (by decide) (by decide), by omega, fun u m h => by simp at h⟩

theorem esc_ge (l : List UInt8) : l.length ≤ (esc l).length := by
  induction l with
  | nil => simp [esc]
  | cons c l ih =>
    simp only [esc]
    split
    · simp only [List.length_cons]; omega
    · simp only [List.length_cons]; omega

theorem bkis_str (s : ByteArray) (h0 : 0 < s.size) (hs : s.size ≤ 1024) (k : Int) (hk : k = 4 ∨ k = 5) (hv : rdV s[0] (s.data.toList.drop 1) = rdTxt k (s.data.toList.drop 1))
    (hC : ∀ w : World, Calls Tryd.prog 41 #[.string s] w fun e w' => e = .returned (resB k (rd1 s.data.toList)) ∧ Below w.heap.size w w') : ∃ v n, BkIs s h0 v n := by
  unfold BkIs
  rw [hv]
  have hrl : (s.data.toList.drop 1).length = s.size - 1 := by simp
  unfold rd1 at hC
  unfold rdTxt
  cases hr : rdStr (s.data.toList.drop 1) with
  | none =>
    rw [hr] at hC
    exact ⟨⟨k, 0, 0, ⟨#[]⟩⟩, 0, hC, ok_k (by omega) (by omega), by omega, fun u m h => by simp at h⟩
  | some y =>
    obtain ⟨t, n⟩ := y
    rw [hr] at hC
    obtain ⟨b1, b2, b3⟩ := rdStr_back _ _ _ _ (Nat.le_refl _) hr
    have hl : t.length ≤ 1024 := by
      have h1 := esc_ge t
      have h2 := congrArg List.length b2
      unfold ended at h2
      rw [List.length_append, List.length_take] at h2
      omega
    refine ⟨vStr k t, n + 1, hC, ok_str hk hl, by omega, ?_⟩
    intro u m h
    dsimp only at h
    split at h
    · simp only [Option.some.injEq, Prod.mk.injEq] at h
      obtain ⟨rfl, rfl⟩ := h
      exact ⟨rfl, by omega⟩
    · simp at h

theorem back_any (s : ByteArray) (h0 : 0 < s.size) (hs : s.size ≤ 1024) : ∃ v n, BkIs s h0 v n := by
  by_cases h1 : s[0] = 1
  · refine ⟨vNull, 1, fun w => bk_null s w h0 h1, ok_k (by decide) (by decide), by omega, ?_⟩
    intro u m h
    rw [h1] at h
    have e : rdV 1 (s.data.toList.drop 1) = some (vNull, 0) := rfl
    rw [e] at h
    simp only [Option.some.injEq, Prod.mk.injEq] at h
    obtain ⟨rfl, rfl⟩ := h
    exact ⟨rfl, rfl⟩
  by_cases h2 : s[0] = 2
  · exact bkis_bool s h0 h2
  by_cases h3 : s[0] = 3
  · exact bkis_int s h0 hs h3
  by_cases h4 : s[0] = 4
  · exact bkis_flo s h0 h4
  by_cases h5 : s[0] = 5
  · exact bkis_str s h0 hs 4 (.inl rfl) (by rw [h5]; rfl) fun w => bk_str_4 s w hs h0 h5
  by_cases h6 : s[0] = 6
  · exact bkis_str s h0 hs 5 (.inr rfl) (by rw [h6]; rfl) fun w => bk_str_5 s w hs h0 h6
  have hlt := s[0].toNat_lt
  have ne : ∀ (k : UInt8) (z : Int), (k.toNat : Int) = z + 1 → ¬ s[0] = k → (((s[0].toNat : Int) - 1) == z) = false := by
    intro k z hz h
    have : ¬ s[0].toNat = k.toNat := fun e => h (UInt8.toNat_inj.1 e)
    simp; omega
  refine ⟨⟨(s[0].toNat : Int) - 1, 0, 0, ⟨#[]⟩⟩, 0, fun w => bk_x s ((s[0].toNat : Int) - 1) w h0 rfl (by omega) (by omega) (ne 1 0 rfl h1) (ne 2 1 rfl h2) (ne 3 2 rfl h3) (ne 4 3 rfl h4) (ne 5 4 rfl h5) (ne 6 5 rfl h6), ok_k (by omega) (by omega), by omega, ?_⟩
  intro u m h
  unfold rdV at h
  rw [if_neg h1, if_neg h2, if_neg h3, if_neg h4, if_neg h5, if_neg h6] at h
  simp at h
end Go.Proofs.YteffaldahccgiaaDoor
