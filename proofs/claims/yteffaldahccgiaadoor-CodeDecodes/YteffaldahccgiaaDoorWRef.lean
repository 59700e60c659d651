/- The walks of the document's answer for codes of values. -/
import Derived.Test.YteffaldahccgiaaDoorWEncV
namespace Go.Proofs.YteffaldahccgiaaDoor
open Go.RowKit Ieee
set_option maxRecDepth 100000

/-- 'append(key, src...)', src owned too -/
theorem wpList_appO {ops : Array Oper} {rest : List Oper} {o : Oper} {a : Act} {Q : Exit → Act → World → Prop} (w : World) (hgd : o.guard = none) (s x : Operand)
    (ho : o.op = .call { callee := .builtin .append, args := #[s, x], argTypes := #[54, 54] })
    (B : Nat) (v : Value) (bs : List UInt8) (hs : a.eval s = v) (hown : OwnB w B v bs) (C : Nat) (v2 : Value) (news : List UInt8) (hx : a.eval x = v2) (hsrc : OwnB w C v2 news)
    (hlen : bs.length + news.length ≤ 140737488355328) (hbase : B ≤ w.heap.size)
    (h : ∀ v' w', OwnB w' B v' (bs ++ news) → Keep5 B w w' → wpList Tryd.prog ops Q rest (a.put o.dst v') w') : wpList Tryd.prog ops Q (o :: rest) a w := by
  rcases hsrc.shape with ⟨rfl, rfl⟩ | ⟨g, cap, rfl, _, _, hc⟩
  · obtain ⟨i, hi, hz0, hz1, hz2⟩ := info_parts info_u8
    refine wpList_append_own_none hgd s x 54 ho B 5 i 1 Tryd.underlying54 hi v bs.length (bcells bs) hs hown hx (h v w ?_ (Keep5.refl _ _))
    simpa using hown
  · refine wpList_app w hgd s x ho B v bs hs hown ⟨g, 0, none⟩ news.length cap news hx rfl ?_ hlen hbase h
    intro j hj
    have e : (⟨g, 0, none⟩ : Addr).add j = ⟨g, j, none⟩ := by unfold Addr.add; split <;> simp_all
    rw [e]; exact hc j hj

theorem own_lit1 (w : World) (B : Nat) (b : UInt8) (hB : B ≤ w.heap.size) : OwnB (w.alloc (.cells #[.int .u8 (b.toNat : Int)] 5)) B (.slice (some ⟨w.heap.size, 0, none⟩) 1 1) [b] := by
  have := World.ownsRow_lit (base := B) (e := 5) (size := 1) w #[.int .u8 (b.toNat : Int)] 1 hB (by unfold maxLen; omega) rfl
  exact this

set_option maxHeartbeats 1000000 in
theorem big_any (n k : Nat) (w : World) (hk : k ≤ 8) (_hn : n < 18446744073709551616) :
    Calls Tryd.prog 83 #[.int .u64 (n : Int), .int .i64 (k : Int)] w fun e w' => ∃ v', e = .returned v' ∧ OwnB w' w.heap.size v' (hiB n k) ∧ Below w.heap.size w w' := by
  go_enter Tryd.func83, Tryd.ntmps83
  go_wp2_with fail
  go_loopw [5, 6] (fun v' i wr => ∃ j : Nat, j ≤ k ∧ i = .int .i64 ((j : Int) - 1) ∧ OwnB wr w.heap.size v' ((hiB n k).take (k - j)) ∧ Keep5 w.heap.size w wr) (fun _ i _ => (intOf i + 1).toNat)
  case atStart => exact ⟨k, Nat.le_refl _, by go_num, by simpa using OwnB.nil _ _, Keep5.refl _ _⟩
  case round =>
    obtain ⟨j, hj, rfl, hown, hkp⟩ := hrel
    have hz := hkp.below.size
    have HO : Hid (OwnB _ w.heap.size _ _ ∧ Keep5 w.heap.size w _) := ⟨hown, hkp⟩
    clear hown hkp
    by_cases hj0 : j = 0
    · subst hj0
      go_wp2
      go_ret
      have h1 := HO.out.1
      rw [hiB_take_all] at h1
      exact ⟨_, rfl, h1, HO.out.2.below⟩
    · obtain ⟨i, rfl⟩ : ∃ i, j = i + 1 := ⟨j - 1, by omega⟩
      go_wp2_with (at_builtin; refine wpList_app1 _ rfl _ _ rfl w.heap.size _ _ rfl HO.out.1 (UInt8.ofNat (n / 256 ^ i)) _ ?zz rfl ?ll ?bb ?_)
      case zz => exact byte_shr n i
      case ll => have := take_len n k (k - (i + 1)) hk; omega
      case bb => omega
      intro v' w1 h1 h2
      have R : Hid (OwnB w1 w.heap.size v' ((hiB n k).take (k - i)) ∧ Keep5 w.heap.size w w1) := ⟨by rw [hiB_take n k i (by omega)]; exact h1, HO.out.2.trans h2⟩
      clear h1 h2
      go_wp2
      go_roundw
      case rel => exact ⟨i, by omega, by go_num, R.out.1, R.out.2⟩
      case measure => simp [intOf]

theorem sz_step {n : Nat} (h0 : n ≠ 0) (hn : n < 18446744073709551616) : sz n = 1 + sz (n / 256) := by
  have h1 : 1 ≤ sz n := by
    rcases Nat.eq_zero_or_pos (sz n) with h | h
    · have := sz_lt hn
      rw [h] at this
      simp at this
      exact absurd this h0
    · exact h
  apply Nat.le_antisymm
  · apply sz_least
    have h2 := sz_lt (m := n / 256) (by omega)
    rw [Nat.add_comm, Nat.pow_succ]
    generalize 256 ^ sz (n / 256) = q at *
    omega
  · have h2 : sz (n / 256) ≤ sz n - 1 := by
      apply sz_least
      have h3 := sz_lt hn
      have e : sz n = (sz n - 1) + 1 := by omega
      rw [e, Nat.pow_succ] at h3
      generalize 256 ^ (sz n - 1) = q at *
      omega
    omega

set_option maxHeartbeats 1000000 in
theorem size_any (n : Nat) (w : World) (hn : n < 18446744073709551616) :
    Calls Tryd.prog 82 #[.int .u64 (n : Int)] w fun e w' => e = .returned (.int .i64 (sz n : Nat)) ∧ w' = w := by
  go_enter Tryd.func82, Tryd.ntmps82
  go_wp2_with fail
  go_loopw [0, 3] (fun x i wr => ∃ m j : Nat, m < 18446744073709551616 ∧ x = .int .u64 (m : Int) ∧ i = .int .i64 (j : Int) ∧ sz n = j + sz m ∧ wr = w) (fun x _ _ => (intOf x).toNat)
  case atStart => exact ⟨n, 0, hn, by go_num, by go_num, by omega, rfl⟩
  case round =>
    obtain ⟨m, j, hm, rfl, rfl, hsz, rfl⟩ := hrel
    have h8 := sz_le n
    have HS : Hid (sz n = j + sz m) := hsz
    have hj8 : j ≤ 8 := by omega
    clear hsz h8
    by_cases hm0 : m = 0
    · subst hm0
      go_wp2
      go_ret
      have := HS.out
      have e0 : sz 0 = 0 := by decide
      exact ⟨ret_i64 (by omega), rfl⟩
    · have hpos : 0 < m := by omega
      have HS2 := sz_step hm0 hm
      have HS3 : Hid (sz n = (j + 1) + sz (m / 256)) := by have := HS.out; show _ = _; omega
      clear hm0 HS2
      go_wp2
      go_roundw
      case rel => exact ⟨m / 256, j + 1, by omega, by go_num, by go_num, HS3.out, by first | rfl | trivial⟩
      case measure => simp [intOf]; omega

theorem neg_i64 (m : Nat) (hm : m < 9223372036854775808) : IntKind.i64.wrap (-(IntKind.i64.wrap (-(m : Int) - 1 + 1))) = (m : Int) := by
  rw [IntKind.wrap_i64, IntKind.wrap_i64]
  omega

set_option maxHeartbeats 1000000 in
theorem whole_pos (m : Nat) (w : World) (hm : m < 9223372036854775808) :
    Calls Tryd.prog 58 #[.int .i64 (m : Int)] w fun e w' => ∃ v', e = .returned v' ∧ OwnB w' w.heap.size v' (wholeC (m : Int)) ∧ Below w.heap.size w w' := by
  have h8 := sz_le m
  obtain ⟨b, hb⟩ : ∃ b, b = UInt8.ofNat (128 + sz m) := ⟨_, rfl⟩
  have HB : Hid (b = _) := hb
  clear hb
  go_enter Tryd.func58, Tryd.ntmps58
  go_wp2_with (first | (go_at_call 82; refine (size_any _ _ (by omega)).mono ?_; rintro e w' ⟨rfl, hww⟩; obtain rfl := hww.symm) | (at_builtin; refine wpList_app1 _ rfl (.tmp 12) _ rfl w.heap.size _ _ rfl (OwnB.nil _ _) b _ ?zz rfl ?ll ?bb ?_))
  case zz => rw [HB.out, ofNat_toNat8]; omega
  case ll => simp
  case bb => exact Nat.le_refl _
  intro v1 w1 h1 h2
  have hz := h2.below.size
  have HO1 : Hid (OwnB w1 _ v1 ([] ++ [b]) ∧ Keep5 _ _ w1) := ⟨h1, h2⟩
  clear h1 h2
  go_wp2_with (first | (go_at_call 83; refine (big_any m (sz m) w1 h8 (by omega)).mono ?_; rintro e w2 ⟨v2, rfl, h3, h4⟩) | (at_builtin; refine wpList_appO _ rfl (.tmp 18) _ rfl _ _ _ rfl (HO1.out.1.kept h4) _ _ _ rfl h3 ?ll2 ?bb2 ?_))
  case ll2 => simp [hiB_len]; omega
  case bb2 => have := h4.size; omega
  intro v3 w3 h5 h6
  go_wp2
  go_ret
  refine ⟨_, rfl, ?_, HO1.out.2.below.trans ((h4.mono hz).trans h6.below)⟩
  rw [wholeC_pos, ← HB.out]
  simpa using h5

set_option maxHeartbeats 2000000 in
theorem whole_neg (m : Nat) (w : World) (hm : m < 9223372036854775808) :
    Calls Tryd.prog 58 #[.int .i64 (-(m : Int) - 1)] w fun e w' => ∃ v', e = .returned v' ∧ OwnB w' w.heap.size v' (wholeC (-(m : Int) - 1)) ∧ Below w.heap.size w w' := by
  have h8 := sz_le m
  obtain ⟨b, hb⟩ : ∃ b, b = UInt8.ofNat (128 - max (sz m) 1) := ⟨_, rfl⟩
  have HB : Hid (b = _) := hb
  have HN : Hid (_ = _) := not_u64 m (by omega) IntKind.u64.max (by decide)
  have hneg : -(m : Int) - 1 < 0 := by omega
  clear hb
  by_cases hs0 : sz m = 0
  · have HS : Hid (sz m = 0) := hs0
    go_enter Tryd.func58, Tryd.ntmps58
    go_wp2_with (first | (go_at_call 82; refine (size_any m _ (by omega)).mono ?_; rintro e w' ⟨rfl, hww⟩; obtain rfl := hww.symm) | (at_builtin; refine wpList_app1 _ rfl (.tmp 32) _ rfl w.heap.size _ _ rfl (OwnB.nil _ _) b _ ?zz rfl ?ll ?bb ?_))
    case zz => rw [HB.out, ofNat_toNat8, HS.out]; rfl
    case ll => simp
    case bb => exact Nat.le_refl _
    intro v1 w1 h1 h2
    have hz := h2.below.size
    have HO1 : Hid (OwnB w1 _ v1 ([] ++ [b]) ∧ Keep5 _ _ w1) := ⟨h1, h2⟩
    clear h1 h2
    go_wp2_with fail
    rw [HN.out]
    refine (big_any (18446744073709551615 - m) 1 w1 (by decide) (by omega)).mono ?_
    rintro e w2 ⟨v2, rfl, h3, h4⟩
    go_wp2_with (first | (at_builtin; refine wpList_appO _ rfl (.tmp 38) _ rfl w.heap.size _ _ rfl (HO1.out.1.kept h4) _ _ _ rfl h3 ?ll2 ?bb2 ?_))
    case ll2 => simp [hiB_len]
    case bb2 => have := h4.size; omega
    intro v3 w3 h5 h6
    go_wp2
    go_ret
    refine ⟨_, rfl, ?_, HO1.out.2.below.trans ((h4.mono hz).trans h6.below)⟩
    rw [wholeC_neg, ← HB.out, HS.out]
    simpa using h5
  · have hs1 : max (sz m) 1 = sz m := by omega
    rw [hs1] at HB
    have HS : Hid (max (sz m) 1 = sz m) := hs1
    have hs2 : 0 < sz m := by omega
    clear hs1 hs0
    go_enter Tryd.func58, Tryd.ntmps58
    go_wp2_with (first | (go_at_call 82; refine (size_any m _ (by omega)).mono ?_; rintro e w' ⟨rfl, hww⟩; obtain rfl := hww.symm) | (at_builtin; refine wpList_app1 _ rfl (.tmp 32) _ rfl w.heap.size _ _ rfl (OwnB.nil _ _) b _ ?zz rfl ?ll ?bb ?_))
    case zz => rw [HB.out, ofNat_toNat8]; omega
    case ll => simp
    case bb => exact Nat.le_refl _
    intro v1 w1 h1 h2
    have hz := h2.below.size
    have HO1 : Hid (OwnB w1 _ v1 ([] ++ [b]) ∧ Keep5 _ _ w1) := ⟨h1, h2⟩
    clear h1 h2
    go_wp2_with fail
    rw [HN.out]
    refine (big_any (18446744073709551615 - m) (sz m) w1 h8 (by omega)).mono ?_
    rintro e w2 ⟨v2, rfl, h3, h4⟩
    go_wp2_with (first | (at_builtin; refine wpList_appO _ rfl (.tmp 38) _ rfl w.heap.size _ _ rfl (HO1.out.1.kept h4) _ _ _ rfl h3 ?ll2 ?bb2 ?_))
    case ll2 => simp [hiB_len]; omega
    case bb2 => have := h4.size; omega
    intro v3 w3 h5 h6
    go_wp2
    go_ret
    refine ⟨_, rfl, ?_, HO1.out.2.below.trans ((h4.mono hz).trans h6.below)⟩
    rw [wholeC_neg, HS.out, ← HB.out]
    simpa using h5
end Go.Proofs.YteffaldahccgiaaDoor
