/- The walks of the document's answer for codes of floats and texts. The walk of code.Encode. -/
import Derived.Lib.BufferRead
import Derived.Test.YteadniomgbhecaaGreatDoorGKEncV
import Derived.Test.YteadniomgbhecaaGreatDoorGWValid
namespace Go.Proofs.YteadniomgbhecaaGreatDoor
open Go.RowKit Ieee
set_option maxRecDepth 100000

theorem whole_any (n : Int) (w : World) (h1 : -9223372036854775808 ≤ n) (h2 : n ≤ 9223372036854775807) :
    Calls Tryz.prog 48 #[.int .i64 n] w fun e w' => ∃ v', e = .returned v' ∧ OwnB w' w.heap.size v' (wholeC n) ∧ Below w.heap.size w w' := by
  by_cases h : 0 ≤ n
  · obtain ⟨m, rfl⟩ : ∃ m : Nat, n = (m : Int) := ⟨n.toNat, by omega⟩
    exact whole_pos m w (by omega)
  · obtain ⟨m, rfl⟩ : ∃ m : Nat, n = -(m : Int) - 1 := ⟨(-n - 1).toNat, by omega⟩
    exact whole_neg m w (by omega)

set_option maxHeartbeats 1000000 in
theorem real_nan (f : Nat) (w : World) (hf : f < 18446744073709551616) (hn : isN f = true) :
    Calls Tryz.prog 49 #[.float .f64 f] w fun e w' => ∃ v', e = .returned v' ∧ OwnB w' w.heap.size v' (realC f) ∧ Below w.heap.size w w' := by
  have hb := run_fbits
  have h1 : FloatKind.f64.format.order f 0 = none := order_nan (.inl hn)
  have h2 : FloatKind.f64.format.order f f = none := order_nan (.inl hn)
  have HR : Hid (realC f = hiB 18444492273895866368 8) := by
    have e : plainF f = 9221120237041090560 := by unfold plainF; rw [nanB_eq hf, hn]; rfl
    show _ = _
    unfold realC; rw [e]; rfl
  have HX : Hid (bits .xor .u64 9221120237041090560 9223372036854775808 = ((18444492273895866368 : Nat) : Int)) := by show _ = _; decide +kernel
  go_enter Tryz.func49, Tryz.ntmps49
  go_wp2_with fail
  rw [HX.out]
  refine (big_any 18444492273895866368 8 w (by decide) (by decide)).mono ?_
  rintro e w2 ⟨v2, rfl, h3, h4⟩
  go_wp2
  go_ret
  exact ⟨v2, rfl, by rw [HR.out]; exact h3, h4⟩

theorem order_self {f : Nat} (hn : isN f = false) : FloatKind.f64.format.order f f = some .eq := by
  rw [order_fK hn hn]; simp [compare, compareOfLessAndEq]

set_option maxHeartbeats 1000000 in
theorem real_zero (f : Nat) (w : World) (hf : f < 18446744073709551616) (hn : isN f = false) (hz : zeroB f = true) :
    Calls Tryz.prog 49 #[.float .f64 f] w fun e w' => ∃ v', e = .returned v' ∧ OwnB w' w.heap.size v' (realC f) ∧ Below w.heap.size w w' := by
  have hb := run_fbits
  have h1 : (FloatKind.f64.format.order f 0 == some .eq) = true := by rw [order_zero hn hf, hz]
  have h2 := order_self hn
  have HR : Hid (realC f = hiB 9223372036854775808 8) := by
    have e : plainF f = 0 := by unfold plainF; rw [nanB_eq hf, hn, hz]; rfl
    show _ = _
    unfold realC; rw [e]; rfl
  have HX : Hid (bits .xor .u64 0 9223372036854775808 = ((9223372036854775808 : Nat) : Int)) := by show _ = _; decide +kernel
  clear hz hn
  go_enter Tryz.func49, Tryz.ntmps49
  go_wp2_with fail
  rw [HX.out]
  refine (big_any 9223372036854775808 8 w (by decide) (by decide)).mono ?_
  rintro e w2 ⟨v2, rfl, h3, h4⟩
  go_wp2
  go_ret
  exact ⟨v2, rfl, by rw [HR.out]; exact h3, h4⟩

set_option maxHeartbeats 1000000 in
theorem real_num (f : Nat) (w : World) (hf : f < 18446744073709551616) (hn : isN f = false) (hz : zeroB f = false) :
    Calls Tryz.prog 49 #[.float .f64 f] w fun e w' => ∃ v', e = .returned v' ∧ OwnB w' w.heap.size v' (realC f) ∧ Below w.heap.size w w' := by
  have hb := run_fbits
  have h1 : (FloatKind.f64.format.order f 0 == some .eq) = false := by rw [order_zero hn hf, hz]
  have h2 := order_self hn
  obtain ⟨g, hg⟩ : ∃ g, g = gK f := ⟨_, rfl⟩
  have hg2 : g < 18446744073709551616 := by rw [hg]; exact gK_lt _
  have HR : Hid (realC f = hiB g 8) := by
    have e : plainF f = f := by unfold plainF; rw [nanB_eq hf, hn, hz]; rfl
    show _ = _
    unfold realC; rw [e, hg]
  clear hz hn
  rcases Nat.lt_or_ge f 9223372036854775808 with hc | hc
  · have HX : Hid (bits .xor .u64 (f : Int) 9223372036854775808 = (g : Int)) := by
      show _ = _
      rw [(top_off hc).2, hg]; unfold gK; rw [if_pos hc]
    have hsh : (f : Int) / 9223372036854775808 = 0 := by omega
    clear hg
    go_enter Tryz.func49, Tryz.ntmps49
    go_wp2_with fail
    rw [HX.out]
    refine (big_any g 8 w (by decide) hg2).mono ?_
    rintro e w2 ⟨v2, rfl, h3, h4⟩
    go_wp2
    go_ret
    exact ⟨v2, rfl, by rw [HR.out]; exact h3, h4⟩
  · have HX : Hid (bits .xor .u64 IntKind.u64.max (f : Int) = (g : Int)) := by
      show _ = _
      rw [not_u64 f hf _ (by decide), hg]; unfold gK; rw [if_neg (by omega)]
    have hsh : (f : Int) / 9223372036854775808 = 1 := by omega
    clear hg
    go_enter Tryz.func49, Tryz.ntmps49
    go_wp2_with fail
    rw [HX.out]
    refine (big_any g 8 w (by decide) hg2).mono ?_
    rintro e w2 ⟨v2, rfl, h3, h4⟩
    go_wp2
    go_ret
    exact ⟨v2, rfl, by rw [HR.out]; exact h3, h4⟩

theorem real_any (f : Nat) (w : World) (hf : f < 18446744073709551616) :
    Calls Tryz.prog 49 #[.float .f64 f] w fun e w' => ∃ v', e = .returned v' ∧ OwnB w' w.heap.size v' (realC f) ∧ Below w.heap.size w w' := by
  cases hn : isN f
  · cases hz : zeroB f
    · exact real_num f w hf hn hz
    · exact real_zero f w hf hn hz
  · exact real_nan f w hf hn

set_option maxHeartbeats 1000000 in
theorem ended_any (s : ByteArray) (w : World) (hs : s.size ≤ 65536) :
    Calls Tryz.prog 50 #[.string s] w fun e w' => ∃ v', e = .returned v' ∧ OwnB w' w.heap.size v' (ended s.data.toList) ∧ Below w.heap.size w w' := by
  go_enter Tryz.func50, Tryz.ntmps50
  go_wp2_with fail
  go_loopw [3, 4] (fun v' i wr => ∃ j : Nat, j ≤ s.size ∧ i = .int .i64 (j : Int) ∧ OwnB wr w.heap.size v' (esc (s.data.toList.take j)) ∧ Keep5 w.heap.size w wr) (fun _ i _ => s.size - (intOf i).toNat)
  case atStart => exact ⟨0, Nat.zero_le _, by go_num, by simpa [esc] using OwnB.nil _ _, Keep5.refl _ _⟩
  case round =>
    obtain ⟨j, hj, rfl, hown, hkp⟩ := hrel
    have hz := hkp.below.size
    have hlen : (esc (s.data.toList.take j)).length ≤ 131072 := by
      have h1 := esc_len (s.data.toList.take j)
      simp only [List.length_take] at h1 ⊢
      omega
    have HO : Hid (OwnB _ w.heap.size _ (esc (s.data.toList.take j)) ∧ Keep5 w.heap.size w _ ∧ (esc (s.data.toList.take j)).length ≤ 131072) := ⟨hown, hkp, hlen⟩
    clear hown hkp hlen
    by_cases hj0 : j = s.size
    · subst hj0
      go_wp2_with (at_builtin; refine wpList_app1 _ rfl _ _ rfl w.heap.size _ _ rfl HO.out.1 0 _ ?zz rfl ?ll ?bb ?_)
      case zz => rfl
      case ll => have := HO.out.2.2; omega
      case bb => omega
      intro v' w1 h1 h2
      have R : Hid (OwnB w1 w.heap.size v' (ended s.data.toList) ∧ Keep5 w.heap.size w w1) := ⟨by
        have e : s.data.toList.take s.size = s.data.toList := List.take_of_length_le (by simp)
        rw [e] at h1
        simpa [ended] using h1, HO.out.2.1.trans h2⟩
      clear h1 h2
      go_wp2
      go_ret
      exact ⟨_, rfl, R.out.1, R.out.2.below⟩
    · have hj1 : j < s.size := by omega
      obtain ⟨c, hc⟩ : ∃ c, c = s[j] := ⟨_, rfl⟩
      have HC : Hid (c = s[j]) := hc
      have hch : s[j] = c := hc.symm
      clear hc
      by_cases hc : c = 0
      · subst hc
        have hc0 : (s[j].toNat : Int) = 0 := by rw [hch]; rfl
        go_wp2_with (first | (at_builtin; refine wpList_app1 _ rfl (.tmp 11) _ rfl w.heap.size _ _ rfl HO.out.1 0 _ ?zz1 rfl ?ll1 ?bb1 ?_))
        case zz1 => rfl
        case ll1 => have := HO.out.2.2; omega
        case bb1 => omega
        intro v1 w1 h1 h2
        have hz1 := h2.below.size
        have R1 : Hid (OwnB w1 w.heap.size v1 (esc (s.data.toList.take j) ++ [0]) ∧ Keep5 w.heap.size w w1) := ⟨h1, HO.out.2.1.trans h2⟩
        clear h1 h2
        go_wp2_with (first | (at_builtin; refine wpList_app1 _ rfl (.tmp 21) _ rfl w.heap.size _ _ rfl R1.out.1 255 _ ?zz2 rfl ?ll2 ?bb2 ?_))
        case zz2 => rfl
        case ll2 => have := HO.out.2.2; simp only [List.length_append, List.length_cons, List.length_nil] at this ⊢; omega
        case bb2 => omega
        intro v2 w2 h1 h2
        have R2 : Hid (OwnB w2 w.heap.size v2 (esc (s.data.toList.take (j + 1))) ∧ Keep5 w.heap.size w w2) := ⟨by
          rw [esc_take s j hj1, ← HC.out, if_pos rfl]
          simpa using h1, R1.out.2.trans h2⟩
        clear h1 h2
        go_wp2
        go_roundw
        case rel => exact ⟨j + 1, by omega, by go_num, R2.out.1, R2.out.2⟩
        case measure => simp [intOf]; omega
      · have hc0 : 0 < (c.toNat : Int) := by
          rcases Nat.eq_zero_or_pos c.toNat with h | h
          · exact absurd (UInt8.toNat_inj.1 (h.trans rfl)) hc
          · omega
        have HC0 : Hid (¬ c = 0) := hc
        clear hc
        go_wp2_with (first | (at_builtin; refine wpList_app1 _ rfl (.tmp 11) _ rfl w.heap.size _ _ rfl HO.out.1 c _ ?zz1 rfl ?ll1 ?bb1 ?_))
        case zz1 => first | rfl | rw [HC.out]
        case ll1 => have := HO.out.2.2; omega
        case bb1 => omega
        intro v1 w1 h1 h2
        have hz1 := h2.below.size
        have R2 : Hid (OwnB w1 w.heap.size v1 (esc (s.data.toList.take (j + 1))) ∧ Keep5 w.heap.size w w1) := ⟨by
          rw [esc_take s j hj1, ← HC.out, if_neg HC0.out]
          simpa using h1, HO.out.2.1.trans h2⟩
        clear h1 h2
        go_wp2
        go_roundw
        case rel => exact ⟨j + 1, by omega, by go_num, R2.out.1, R2.out.2⟩
        case measure => simp [intOf]; omega

end Go.Proofs.YteadniomgbhecaaGreatDoor

namespace Go.Proofs.YteadniomgbhecaaGreatDoor
open Go.RowKit
set_option maxRecDepth 100000

/-- what Encode answers -/
def encS (L : List Vl) : List UInt8 × Int := if L.all (fun v => v.chk == 0) then (if (encL L).length ≤ 1024 then (encL L, 0) else ([], 3)) else ([], 10)

theorem encS_bad {L : List Vl} {j : Nat} (hj : j < L.length) (h : L[j].chk ≠ 0) : encS L = ([], 10) := by
  unfold encS
  rw [if_neg]
  intro hall
  rw [List.all_eq_true] at hall
  have := hall _ (List.getElem_mem hj)
  simp at this
  exact h this
theorem all_ok {L : List Vl} (h : ∀ t (ht : t < L.length), L[t].chk = 0) : L.all (fun v => v.chk == 0) = true := by
  rw [List.all_eq_true]
  intro v hv
  obtain ⟨t, ht, rfl⟩ := List.getElem_of_mem hv
  simp [h t ht]
theorem encL_append (a b : List Vl) : encL (a ++ b) = encL a ++ encL b := by
  induction a with
  | nil => rfl
  | cons v a ih => simp [encL, ih]
theorem encL_take (L : List Vl) (j : Nat) (hj : j < L.length) : encL (L.take (j + 1)) = encL (L.take j) ++ L[j].code := by
  rw [← List.take_append_getElem hj, encL_append]
  simp [encL]
theorem encL_take_le (L : List Vl) (j : Nat) : (encL (L.take j)).length ≤ (encL L).length := by
  conv => rhs; rw [← List.take_append_drop j L, encL_append]
  simp
theorem encS_long {L : List Vl} (h : ∀ t (ht : t < L.length), L[t].chk = 0) {j : Nat} (hl : 1024 < (encL (L.take j)).length) : encS L = ([], 3) := by
  unfold encS
  rw [if_pos (all_ok h), if_neg]
  have := encL_take_le L j
  omega
theorem encS_fine {L : List Vl} (h : ∀ t (ht : t < L.length), L[t].chk = 0) (hl : (encL L).length ≤ 1024) : encS L = (encL L, 0) := by
  unfold encS
  rw [if_pos (all_ok h), if_pos hl]
theorem code_len {v : Vl} (h : v.chk = 0) : v.code.length ≤ 131074 := by
  have h1 := chk_size h
  have h2 : (esc v.s.data.toList).length ≤ 131072 := by have := esc_len v.s.data.toList; simp at this; omega
  unfold Vl.code Vl.body
  rw [List.length_cons]
  split
  · simp
  · split
    · unfold wholeC
      split
      · rw [List.length_cons, hiB_len]; have := sz_le v.n.toNat; omega
      · rw [List.length_cons, hiB_len]; have := sz_le (-(v.n + 1)).toNat; omega
    · split
      · unfold realC; rw [hiB_len]; omega
      · split
        · unfold ended; rw [List.length_append]; simp; omega
        · simp

set_option maxHeartbeats 4000000 in
theorem encode_any (L : List Vl) (p : Option Addr) (c : Nat) (w : World) (hR : RowV w w.heap.size p L) (hok : ∀ v ∈ L, v.ok) (hlen : L.length ≤ 3518437208784) (hg : 2 < w.heap.size) (hT : Lib.Utf8Tabs 1 2 w) :
    Calls Tryz.prog 10 #[.slice p L.length c] w fun e w' => e = .returned (.tuple #[.string ⟨(encS L).1.toArray⟩, .int .i64 (encS L).2]) ∧ Below w.heap.size w w' := by
  have HH : Hid (RowV w w.heap.size p L ∧ (∀ v ∈ L, v.ok) ∧ Lib.Utf8Tabs 1 2 w) := ⟨hR, hok, hT⟩
  clear hR hok hT
  obtain ⟨r1, hr1⟩ : ∃ r, r = (encS L).1.toArray := ⟨_, rfl⟩
  obtain ⟨r2, hr2⟩ : ∃ r, r = (encS L).2 := ⟨_, rfl⟩
  rw [← hr1, ← hr2]
  have HRS : Hid (r1 = (encS L).1.toArray ∧ r2 = (encS L).2) := ⟨hr1, hr2⟩
  clear hr1 hr2
  go_enter Tryz.func10, Tryz.ntmps10
  go_wp2_with fail
  go_loopw [11] (fun i wr => ∃ j : Nat, j ≤ L.length ∧ i = .int .i64 (j : Int) ∧ (∀ t (ht : t < L.length), t < j → L[t].chk = 0) ∧ Below w.heap.size w wr) (fun i _ => L.length - (intOf i).toNat)
  case atStart => exact ⟨0, Nat.zero_le _, by go_num, fun t _ h => absurd h (by omega), Below.refl _ _⟩
  case round =>
    obtain ⟨j, hj, rfl, hall, hbl⟩ := hrel
    have hz := hbl.size
    by_cases hj0 : j = L.length
    · subst hj0
      have HH2 : Hid ((∀ t (ht : t < L.length), L[t].chk = 0) ∧ Below w.heap.size w wr) := ⟨fun t ht => hall t ht ht, hbl⟩
      clear hall hbl
      go_wp2_with fail
      go_loopw [6, 21] (fun key i ws => ∃ j : Nat, j ≤ L.length ∧ i = .int .i64 (j : Int) ∧ OwnB ws w.heap.size key (encL (L.take j)) ∧ (encL (L.take j)).length ≤ 1024 ∧ Below w.heap.size w ws) (fun _ i _ => L.length - (intOf i).toNat)
      case atStart => exact ⟨0, Nat.zero_le _, by go_num, OwnB.nil _ _, by simp [encL], HH2.out.2⟩
      case round =>
        obtain ⟨j, hj, rfl, hown, hle, hbl⟩ := hrel
        have hz2 := hbl.size
        by_cases hj0 : j = L.length
        · subst hj0
          rw [List.take_length] at hown hle
          have hcv := hown.conv
          have HE : Hid (encS L = (encL L, 0) ∧ Below w.heap.size w _) := ⟨encS_fine HH2.out.1 hle, hbl⟩
          clear hown hle hbl
          obtain ⟨r, hr⟩ : ∃ r, r = (encL L).toArray := ⟨_, rfl⟩
          rw [← hr] at hcv
          have HR2 : Hid (r = (encL L).toArray) := hr
          clear hr
          go_wp2
          go_ret2
          exact ⟨by rw [HRS.out.1, HRS.out.2, HE.out.1, HR2.out]; rfl, HE.out.2⟩
        · have hj1 : j < L.length := by omega
          obtain ⟨b, o, rfl, hbB, c0, c1, c2, c3⟩ := (HH.out.1.keep hbl) j hj1
          have hoj := HH.out.2.1 _ (List.getElem_mem hj1)
          have hcj := HH2.out.1 j hj1
          have het := encL_take L j hj1
          have HE : Hid (_ ∧ _ ∧ _ ∧ _ ∧ _ ∧ _) := ⟨hown, hle, hbl, hoj, hcj, het⟩
          clear hown hle hbl hoj hcj het
          generalize L[j] = v at *
          have hsf := run_store_float
          go_wp2_with (first | (go_at_call 21; refine (cappendValue_any w.heap.size _ _ v _ (by simp; omega) (HE.out.1.kept ((Below.refl _ _).alloc (Nat.le_refl _) _)) (by have := HE.out.2.1; omega) HE.out.2.2.2.1 HE.out.2.2.2.2.1).mono ?_; rintro e w1 ⟨v1, rfl, h3, h4⟩; obtain ⟨p1, cap1, rfl⟩ := h3.len; rw [← HE.out.2.2.2.2.2] at h3; have hl3 : (encL (List.take j L) ++ v.code).length = (encL (L.take (j + 1))).length := by rw [HE.out.2.2.2.2.2]))
          · have hgt : (1024 : Int) < ((encL (L.take (j + 1))).length : Int) := by assumption
            go_ret2
            refine ⟨?_, HE.out.2.2.1.trans (((Below.refl _ _).alloc hz2 _).trans h4.below)⟩
            rw [HRS.out.1, HRS.out.2, encS_long HH2.out.1 (j := j + 1) (by omega)]
            rfl
          · have hgt : ¬ (1024 : Int) < ((encL (L.take (j + 1))).length : Int) := by first | assumption | (have h9 : ((encL (L.take (j + 1))).length : Int) ≤ 1024 := (by assumption); omega)
            go_roundw
            case rel => exact ⟨j + 1, by omega, by go_num, h3, by omega, HE.out.2.2.1.trans (((Below.refl _ _).alloc hz2 _).trans h4.below)⟩
            case measure => simp [intOf]; omega
    · have hj1 : j < L.length := by omega
      obtain ⟨b, o, rfl, hbB, c0, c1, c2, c3⟩ := (HH.out.1.keep hbl) j hj1
      have HH2 : Hid ((∀ t (ht : t < L.length), t < j → L[t].chk = 0) ∧ Below w.heap.size w wr ∧ L[j].ok) := ⟨hall, hbl, HH.out.2.1 _ (List.getElem_mem hj1)⟩
      clear hall hbl
      obtain ⟨v, hv⟩ : ∃ v, v = L[j] := ⟨_, rfl⟩
      rw [← hv] at c0 c1 c2 c3 HH2
      have HV : Hid (v = L[j]) := hv
      clear hv
      have C9 : Hid (∀ w1 : World, Below w.heap.size w w1 → _) := fun w1 hb => check_ok v w1 HH2.out.2.2 (by have := hb.size; omega) (tabs_keep hb hg HH.out.2.2)
      have hsf := run_store_float
      obtain ⟨ck, hck⟩ : ∃ ck, ck = v.chk := ⟨_, rfl⟩
      rw [← hck] at C9
      have HCK : Hid (ck = v.chk) := hck
      clear hck
      by_cases hck : ck = 0
      · subst hck
        go_wp2_with (first | (go_at_call 20; refine (C9.out _ (HH2.out.2.1.trans ((Below.refl _ _).alloc hz _))).mono ?_; rintro e w1 ⟨rfl, hb9⟩))
        have hb10 := HH2.out.2.1.trans (((Below.refl _ wr).alloc hz _).trans (hb9.mono (by simp; omega)))
        clear hb9
        go_roundw
        case rel =>
          refine ⟨j + 1, by omega, by go_num, fun t ht h => ?_, hb10⟩
          by_cases e : t = j
          · subst e; rw [← HV.out]; exact HCK.out.symm
          · exact HH2.out.1 t ht (by omega)
        case measure => simp [intOf]; omega
      · have hne : (ck != 0) = true := bneT hck
        have HNE : Hid (¬ ck = 0) := hck
        clear hck
        go_wp2_with (first | (go_at_call 20; refine (C9.out _ (HH2.out.2.1.trans ((Below.refl _ _).alloc hz _))).mono ?_; rintro e w1 ⟨rfl, hb9⟩))
        go_ret2
        have hb10 := HH2.out.2.1.trans (((Below.refl _ wr).alloc hz _).trans (hb9.mono (by simp; omega)))
        refine ⟨?_, hb10⟩
        rw [HRS.out.1, HRS.out.2, encS_bad hj1 (by rw [← HV.out, ← HCK.out]; exact HNE.out)]
        rfl

end Go.Proofs.YteadniomgbhecaaGreatDoor
