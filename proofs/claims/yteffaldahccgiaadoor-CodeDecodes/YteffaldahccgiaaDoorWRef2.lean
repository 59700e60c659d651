/- The walks of the document's answer for codes of floats and texts. -/
import Derived.Test.YteffaldahccgiaaDoorWRef
namespace Go.Proofs.YteffaldahccgiaaDoor
open Go.RowKit Ieee
set_option maxRecDepth 100000

theorem whole_any (n : Int) (w : World) (h1 : -9223372036854775808 ≤ n) (h2 : n ≤ 9223372036854775807) :
    Calls Tryd.prog 58 #[.int .i64 n] w fun e w' => ∃ v', e = .returned v' ∧ OwnB w' w.heap.size v' (wholeC n) ∧ Below w.heap.size w w' := by
  by_cases h : 0 ≤ n
  · obtain ⟨m, rfl⟩ : ∃ m : Nat, n = (m : Int) := ⟨n.toNat, by omega⟩
    exact whole_pos m w (by omega)
  · obtain ⟨m, rfl⟩ : ∃ m : Nat, n = -(m : Int) - 1 := ⟨(-n - 1).toNat, by omega⟩
    exact whole_neg m w (by omega)

set_option maxHeartbeats 1000000 in
theorem real_nan (f : Nat) (w : World) (hf : f < 18446744073709551616) (hn : isN f = true) :
    Calls Tryd.prog 59 #[.float .f64 f] w fun e w' => ∃ v', e = .returned v' ∧ OwnB w' w.heap.size v' (realC f) ∧ Below w.heap.size w w' := by
  have hb := run_fbits
  have h1 : FloatKind.f64.format.order f 0 = none := order_nan (.inl hn)
  have h2 : FloatKind.f64.format.order f f = none := order_nan (.inl hn)
  have HR : Hid (realC f = hiB 18444492273895866368 8) := by
    have e : plainF f = 9221120237041090560 := by unfold plainF; rw [nanB_eq hf, hn]; rfl
    show _ = _
    unfold realC; rw [e]; rfl
  have HX : Hid (bits .xor .u64 9221120237041090560 9223372036854775808 = ((18444492273895866368 : Nat) : Int)) := by show _ = _; decide +kernel
  go_enter Tryd.func59, Tryd.ntmps59
  go_wp2_with fail
  rw [HX.out]
  refine (big_any 18444492273895866368 8 w (by decide) (by decide)).mono ?_
  rintro e w2 ⟨v2, rfl, h3, h4⟩
  go_wp2
  go_ret
  exact ⟨v2, rfl, by rw [HR.out]; exact h3, h4⟩

theorem order_self {f : Nat} (hn : isN f = false) : FloatKind.f64.format.order f f = some .eq := by
  rw [order_fK hn hn]; simp [compare, compareOfLessAndEq]

set_option maxHeartbeats 1000000 in
theorem real_zero (f : Nat) (w : World) (hf : f < 18446744073709551616) (hn : isN f = false) (hz : zeroB f = true) :
    Calls Tryd.prog 59 #[.float .f64 f] w fun e w' => ∃ v', e = .returned v' ∧ OwnB w' w.heap.size v' (realC f) ∧ Below w.heap.size w w' := by
  have hb := run_fbits
  have h1 : (FloatKind.f64.format.order f 0 == some .eq) = true := by rw [order_zero hn hf, hz]
  have h2 := order_self hn
  have HR : Hid (realC f = hiB 9223372036854775808 8) := by
    have e : plainF f = 0 := by unfold plainF; rw [nanB_eq hf, hn, hz]; rfl
    show _ = _
    unfold realC; rw [e]; rfl
  have HX : Hid (bits .xor .u64 0 9223372036854775808 = ((9223372036854775808 : Nat) : Int)) := by show _ = _; decide +kernel
  clear hz hn
  go_enter Tryd.func59, Tryd.ntmps59
  go_wp2_with fail
  rw [HX.out]
  refine (big_any 9223372036854775808 8 w (by decide) (by decide)).mono ?_
  rintro e w2 ⟨v2, rfl, h3, h4⟩
  go_wp2
  go_ret
  exact ⟨v2, rfl, by rw [HR.out]; exact h3, h4⟩

set_option maxHeartbeats 1000000 in
theorem real_num (f : Nat) (w : World) (hf : f < 18446744073709551616) (hn : isN f = false) (hz : zeroB f = false) :
    Calls Tryd.prog 59 #[.float .f64 f] w fun e w' => ∃ v', e = .returned v' ∧ OwnB w' w.heap.size v' (realC f) ∧ Below w.heap.size w w' := by
  have hb := run_fbits
  have h1 : (FloatKind.f64.format.order f 0 == some .eq) = false := by rw [order_zero hn hf, hz]
  have h2 := order_self hn
  obtain ⟨g, hg⟩ : ∃ g, g = gK f := ⟨_, rfl⟩
  have hg2 : g < 18446744073709551616 := by rw [hg]; exact gK_lt _
  have HR : Hid (realC f = hiB g 8) := by
    have e : plainF f = f := by unfold plainF; rw [nanB_eq hf, hn, hz]; rfl
    show _ = _
    unfold realC; rw [e, hg]
  clear hz hn
  rcases Nat.lt_or_ge f 9223372036854775808 with hc | hc
  · have HX : Hid (bits .xor .u64 (f : Int) 9223372036854775808 = (g : Int)) := by
      show _ = _
      rw [(top_off hc).2, hg]; unfold gK; rw [if_pos hc]
    have hsh : (f : Int) / 9223372036854775808 = 0 := by omega
    clear hg
    go_enter Tryd.func59, Tryd.ntmps59
    go_wp2_with fail
    rw [HX.out]
    refine (big_any g 8 w (by decide) hg2).mono ?_
    rintro e w2 ⟨v2, rfl, h3, h4⟩
    go_wp2
    go_ret
    exact ⟨v2, rfl, by rw [HR.out]; exact h3, h4⟩
  · have HX : Hid (bits .xor .u64 IntKind.u64.max (f : Int) = (g : Int)) := by
      show _ = _
      rw [not_u64 f hf _ (by decide), hg]; unfold gK; rw [if_neg (by omega)]
    have hsh : (f : Int) / 9223372036854775808 = 1 := by omega
    clear hg
    go_enter Tryd.func59, Tryd.ntmps59
    go_wp2_with fail
    rw [HX.out]
    refine (big_any g 8 w (by decide) hg2).mono ?_
    rintro e w2 ⟨v2, rfl, h3, h4⟩
    go_wp2
    go_ret
    exact ⟨v2, rfl, by rw [HR.out]; exact h3, h4⟩

theorem real_any (f : Nat) (w : World) (hf : f < 18446744073709551616) :
    Calls Tryd.prog 59 #[.float .f64 f] w fun e w' => ∃ v', e = .returned v' ∧ OwnB w' w.heap.size v' (realC f) ∧ Below w.heap.size w w' := by
  cases hn : isN f
  · cases hz : zeroB f
    · exact real_num f w hf hn hz
    · exact real_zero f w hf hn hz
  · exact real_nan f w hf hn

set_option maxHeartbeats 1000000 in
theorem ended_any (s : ByteArray) (w : World) (hs : s.size ≤ 65536) :
    Calls Tryd.prog 60 #[.string s] w fun e w' => ∃ v', e = .returned v' ∧ OwnB w' w.heap.size v' (ended s.data.toList) ∧ Below w.heap.size w w' := by
  go_enter Tryd.func60, Tryd.ntmps60
  go_wp2_with fail
  go_loopw [3, 4] (fun v' i wr => ∃ j : Nat, j ≤ s.size ∧ i = .int .i64 (j : Int) ∧ OwnB wr w.heap.size v' (esc (s.data.toList.take j)) ∧ Keep5 w.heap.size w wr) (fun _ i _ => s.size - (intOf i).toNat)
  case atStart => exact ⟨0, Nat.zero_le _, by go_num, by simpa [esc] using OwnB.nil _ _, Keep5.refl _ _⟩
  case round =>
    obtain ⟨j, hj, rfl, hown, hkp⟩ := hrel
    have hz := hkp.below.size
    have hlen : (esc (s.data.toList.take j)).length ≤ 131072 := by
      have h1 := esc_len (s.data.toList.take j)
      simp only [List.length_take] at h1 ⊢
      omega
    have HO : Hid (OwnB _ w.heap.size _ (esc (s.data.toList.take j)) ∧ Keep5 w.heap.size w _ ∧ (esc (s.data.toList.take j)).length ≤ 131072) := ⟨hown, hkp, hlen⟩
    clear hown hkp hlen
    by_cases hj0 : j = s.size
    · subst hj0
      go_wp2_with (at_builtin; refine wpList_app1 _ rfl _ _ rfl w.heap.size _ _ rfl HO.out.1 0 _ ?zz rfl ?ll ?bb ?_)
      case zz => rfl
      case ll => have := HO.out.2.2; omega
      case bb => omega
      intro v' w1 h1 h2
      have R : Hid (OwnB w1 w.heap.size v' (ended s.data.toList) ∧ Keep5 w.heap.size w w1) := ⟨by
        have e : s.data.toList.take s.size = s.data.toList := List.take_of_length_le (by simp)
        rw [e] at h1
        simpa [ended] using h1, HO.out.2.1.trans h2⟩
      clear h1 h2
      go_wp2
      go_ret
      exact ⟨_, rfl, R.out.1, R.out.2.below⟩
    · have hj1 : j < s.size := by omega
      obtain ⟨c, hc⟩ : ∃ c, c = s[j] := ⟨_, rfl⟩
      have HC : Hid (c = s[j]) := hc
      have hch : s[j] = c := hc.symm
      clear hc
      by_cases hc : c = 0
      · subst hc
        have hc0 : (s[j].toNat : Int) = 0 := by rw [hch]; rfl
        go_wp2_with (first | (at_builtin; refine wpList_app1 _ rfl (.tmp 11) _ rfl w.heap.size _ _ rfl HO.out.1 0 _ ?zz1 rfl ?ll1 ?bb1 ?_))
        case zz1 => rfl
        case ll1 => have := HO.out.2.2; omega
        case bb1 => omega
        intro v1 w1 h1 h2
        have hz1 := h2.below.size
        have R1 : Hid (OwnB w1 w.heap.size v1 (esc (s.data.toList.take j) ++ [0]) ∧ Keep5 w.heap.size w w1) := ⟨h1, HO.out.2.1.trans h2⟩
        clear h1 h2
        go_wp2_with (first | (at_builtin; refine wpList_app1 _ rfl (.tmp 21) _ rfl w.heap.size _ _ rfl R1.out.1 255 _ ?zz2 rfl ?ll2 ?bb2 ?_))
        case zz2 => rfl
        case ll2 => have := HO.out.2.2; simp only [List.length_append, List.length_cons, List.length_nil] at this ⊢; omega
        case bb2 => omega
        intro v2 w2 h1 h2
        have R2 : Hid (OwnB w2 w.heap.size v2 (esc (s.data.toList.take (j + 1))) ∧ Keep5 w.heap.size w w2) := ⟨by
          rw [esc_take s j hj1, ← HC.out, if_pos rfl]
          simpa using h1, R1.out.2.trans h2⟩
        clear h1 h2
        go_wp2
        go_roundw
        case rel => exact ⟨j + 1, by omega, by go_num, R2.out.1, R2.out.2⟩
        case measure => simp [intOf]; omega
      · have hc0 : 0 < (c.toNat : Int) := by
          rcases Nat.eq_zero_or_pos c.toNat with h | h
          · exact absurd (UInt8.toNat_inj.1 (h.trans rfl)) hc
          · omega
        have HC0 : Hid (¬ c = 0) := hc
        clear hc
        go_wp2_with (first | (at_builtin; refine wpList_app1 _ rfl (.tmp 11) _ rfl w.heap.size _ _ rfl HO.out.1 c _ ?zz1 rfl ?ll1 ?bb1 ?_))
        case zz1 => first | rfl | rw [HC.out]
        case ll1 => have := HO.out.2.2; omega
        case bb1 => omega
        intro v1 w1 h1 h2
        have hz1 := h2.below.size
        have R2 : Hid (OwnB w1 w.heap.size v1 (esc (s.data.toList.take (j + 1))) ∧ Keep5 w.heap.size w w1) := ⟨by
          rw [esc_take s j hj1, ← HC.out, if_neg HC0.out]
          simpa using h1, HO.out.2.1.trans h2⟩
        clear h1 h2
        go_wp2
        go_roundw
        case rel => exact ⟨j + 1, by omega, by go_num, R2.out.1, R2.out.2⟩
        case measure => simp [intOf]; omega
end Go.Proofs.YteffaldahccgiaaDoor
