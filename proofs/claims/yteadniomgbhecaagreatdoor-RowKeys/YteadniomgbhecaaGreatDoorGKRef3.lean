/- The walks of the document's answer: a value's code, a list's key. The walk of the document's answer for Encode. -/
import Derived.Test.YteadniomgbhecaaGreatDoorGKRef2
namespace Go.Proofs.YteadniomgbhecaaGreatDoor
open Go.RowKit Ieee
set_option maxRecDepth 100000

theorem own_lit2 (w : World) (bx : Array Value) (b : UInt8) (z : Int) (hz : z = (b.toNat : Int)) : OwnB ((w.alloc (.cells bx 45)).alloc (.cells #[.int .u8 z] 5)) w.heap.size (.slice (some ⟨w.heap.size + 1, 0, none⟩) 1 1) [b] := by
  subst hz
  have h := own_lit1 (w.alloc (.cells bx 45)) w.heap.size b (by simp)
  simpa using h
theorem below2 (w : World) (o p : Obj) : Below w.heap.size w ((w.alloc o).alloc p) := ((Below.refl _ _).alloc (Nat.le_refl _) _).alloc (by simp) _

theorem wholeC_len (n : Int) : (wholeC n).length ≤ 9 := by
  unfold wholeC
  split
  · rw [List.length_cons, hiB_len]; have := sz_le n.toNat; omega
  · rw [List.length_cons, hiB_len]; have := sz_le (-(n + 1)).toNat; omega
theorem ended_len {s : ByteArray} (hs : s.size ≤ 65536) : (ended s.data.toList).length ≤ 131073 := by
  have h := esc_len s.data.toList
  unfold ended
  rw [List.length_append]
  simp at h ⊢
  omega

set_option maxHeartbeats 1000000 in
theorem code_0 (n : Int) (f : Nat) (s : ByteArray) (w : World) :
    Calls Tryz.prog 24 #[.agg #[.int .i64 0, .int .i64 n, .float .f64 f, .string s]] w fun e w' => ∃ v', e = .returned v' ∧ OwnB w' w.heap.size v' ([1]) ∧ Below w.heap.size w w' := by
  have A1 : Hid (OwnB _ w.heap.size _ _) := own_lit2 w #[.int .i64 0, .int .i64 n, .float .f64 f, .string s] 1 1 rfl
  have B1 : Hid (Below _ _ _) := below2 w (.cells #[.int .i64 0, .int .i64 n, .float .f64 f, .string s] 45) (.cells #[.int .u8 1] 5)
  go_enter Tryz.func24, Tryz.ntmps24
  go_wp2
  go_ret
  exact ⟨_, rfl, A1.out, B1.out⟩

set_option maxHeartbeats 1000000 in
theorem code_1 (n : Nat) (f : Nat) (s : ByteArray) (w : World) (hn : n < 2) :
    Calls Tryz.prog 24 #[.agg #[.int .i64 1, .int .i64 n, .float .f64 f, .string s]] w fun e w' => ∃ v', e = .returned v' ∧ OwnB w' w.heap.size v' ([2, UInt8.ofNat n]) ∧ Below w.heap.size w w' := by
  have A1 : Hid (OwnB _ w.heap.size _ _) := own_lit2 w #[.int .i64 1, .int .i64 n, .float .f64 f, .string s] 2 2 rfl
  have B1 : Hid (Below _ _ _) := below2 w (.cells #[.int .i64 1, .int .i64 n, .float .f64 f, .string s] 45) (.cells #[.int .u8 2] 5)
  obtain ⟨b, hb⟩ : ∃ b, b = UInt8.ofNat n := ⟨_, rfl⟩
  have HB : Hid (b = _) := hb
  rw [← hb]
  clear hb
  go_enter Tryz.func24, Tryz.ntmps24
  go_wp2_with (first | (at_builtin; refine wpList_app1g _ rfl (.tmp 13) _ rfl w.heap.size _ _ rfl A1.out b _ ?zz1 _ rfl ?gg1 ?ll1 ?bb1 ?_))
  case zz1 => rw [HB.out, ofNat_toNat8]; omega
  case gg1 => simp
  case ll1 => simp
  case bb1 => simp; omega
  intro v1 w1 h1 h2
  go_wp2
  go_ret
  exact ⟨_, rfl, h1, B1.out.trans h2.below⟩

set_option maxHeartbeats 1000000 in
theorem code_2 (n : Int) (f : Nat) (s : ByteArray) (w : World) (n1 : -9223372036854775808 ≤ n) (n2 : n ≤ 9223372036854775807) :
    Calls Tryz.prog 24 #[.agg #[.int .i64 2, .int .i64 n, .float .f64 f, .string s]] w fun e w' => ∃ v', e = .returned v' ∧ OwnB w' w.heap.size v' (3 :: wholeC n) ∧ Below w.heap.size w w' := by
  have A1 : Hid (OwnB _ w.heap.size _ _) := own_lit2 w #[.int .i64 2, .int .i64 n, .float .f64 f, .string s] 3 3 rfl
  have B1 : Hid (Below _ _ _) := below2 w (.cells #[.int .i64 2, .int .i64 n, .float .f64 f, .string s] 45) (.cells #[.int .u8 3] 5)
  go_enter Tryz.func24, Tryz.ntmps24
  go_wp2_with (first | (go_at_call 48; refine (whole_any n _ n1 n2).mono ?_; rintro e w1 ⟨v1, rfl, h3, h4⟩) | (at_builtin; refine wpList_appO _ rfl (.tmp 21) _ rfl w.heap.size _ _ rfl (A1.out.kept h4) _ _ _ rfl h3 ?ll1 ?bb1 ?_))
  case ll1 => have := wholeC_len n; simp; omega
  case bb1 => have := h4.size; simp at this; omega
  intro v2 w2 h5 h6
  go_wp2
  go_ret
  exact ⟨v2, rfl, by simpa using h5, B1.out.trans ((h4.mono (by simp; omega)).trans h6.below)⟩

set_option maxHeartbeats 1000000 in
theorem code_3 (n : Int) (f : Nat) (s : ByteArray) (w : World) (hf : f < 18446744073709551616) :
    Calls Tryz.prog 24 #[.agg #[.int .i64 3, .int .i64 n, .float .f64 f, .string s]] w fun e w' => ∃ v', e = .returned v' ∧ OwnB w' w.heap.size v' (4 :: realC f) ∧ Below w.heap.size w w' := by
  have A1 : Hid (OwnB _ w.heap.size _ _) := own_lit2 w #[.int .i64 3, .int .i64 n, .float .f64 f, .string s] 4 4 rfl
  have B1 : Hid (Below _ _ _) := below2 w (.cells #[.int .i64 3, .int .i64 n, .float .f64 f, .string s] 45) (.cells #[.int .u8 4] 5)
  go_enter Tryz.func24, Tryz.ntmps24
  go_wp2_with (first | (go_at_call 49; refine (real_any f _ hf).mono ?_; rintro e w1 ⟨v1, rfl, h3, h4⟩) | (at_builtin; refine wpList_appO _ rfl (.tmp 28) _ rfl w.heap.size _ _ rfl (A1.out.kept h4) _ _ _ rfl h3 ?ll1 ?bb1 ?_))
  case ll1 => unfold realC; simp [hiB_len]
  case bb1 => have := h4.size; simp at this; omega
  intro v2 w2 h5 h6
  go_wp2
  go_ret
  exact ⟨v2, rfl, by simpa using h5, B1.out.trans ((h4.mono (by simp; omega)).trans h6.below)⟩

set_option maxHeartbeats 1000000 in
theorem code_4 (n : Int) (f : Nat) (s : ByteArray) (w : World) (hs : s.size ≤ 65536) :
    Calls Tryz.prog 24 #[.agg #[.int .i64 4, .int .i64 n, .float .f64 f, .string s]] w fun e w' => ∃ v', e = .returned v' ∧ OwnB w' w.heap.size v' (5 :: ended s.data.toList) ∧ Below w.heap.size w w' := by
  have A1 : Hid (OwnB _ w.heap.size _ _) := own_lit2 w #[.int .i64 4, .int .i64 n, .float .f64 f, .string s] 5 5 rfl
  have B1 : Hid (Below _ _ _) := below2 w (.cells #[.int .i64 4, .int .i64 n, .float .f64 f, .string s] 45) (.cells #[.int .u8 5] 5)
  go_enter Tryz.func24, Tryz.ntmps24
  go_wp2_with (first | (go_at_call 50; refine (ended_any s _ hs).mono ?_; rintro e w1 ⟨v1, rfl, h3, h4⟩) | (at_builtin; refine wpList_appO _ rfl (.tmp 36) _ rfl w.heap.size _ _ rfl (A1.out.kept h4) _ _ _ rfl h3 ?ll1 ?bb1 ?_))
  case ll1 => have := ended_len hs; simp; omega
  case bb1 => have := h4.size; simp at this; omega
  intro v2 w2 h5 h6
  go_wp2
  go_ret
  exact ⟨v2, rfl, by simpa using h5, B1.out.trans ((h4.mono (by simp; omega)).trans h6.below)⟩

set_option maxHeartbeats 1000000 in
theorem code_5 (n : Int) (f : Nat) (s : ByteArray) (w : World) (hs : s.size ≤ 65536) :
    Calls Tryz.prog 24 #[.agg #[.int .i64 5, .int .i64 n, .float .f64 f, .string s]] w fun e w' => ∃ v', e = .returned v' ∧ OwnB w' w.heap.size v' (6 :: ended s.data.toList) ∧ Below w.heap.size w w' := by
  have A1 : Hid (OwnB _ w.heap.size _ _) := own_lit2 w #[.int .i64 5, .int .i64 n, .float .f64 f, .string s] 6 6 rfl
  have B1 : Hid (Below _ _ _) := below2 w (.cells #[.int .i64 5, .int .i64 n, .float .f64 f, .string s] 45) (.cells #[.int .u8 6] 5)
  go_enter Tryz.func24, Tryz.ntmps24
  go_wp2_with (first | (go_at_call 50; refine (ended_any s _ hs).mono ?_; rintro e w1 ⟨v1, rfl, h3, h4⟩) | (at_builtin; refine wpList_appO _ rfl (.tmp 36) _ rfl w.heap.size _ _ rfl (A1.out.kept h4) _ _ _ rfl h3 ?ll1 ?bb1 ?_))
  case ll1 => have := ended_len hs; simp; omega
  case bb1 => have := h4.size; simp at this; omega
  intro v2 w2 h5 h6
  go_wp2
  go_ret
  exact ⟨v2, rfl, by simpa using h5, B1.out.trans ((h4.mono (by simp; omega)).trans h6.below)⟩

theorem code_any (v : Vl) (w : World) (hv : v.ok) (hc : v.chk = 0) :
    Calls Tryz.prog 24 #[v.val] w fun e w' => ∃ v', e = .returned v' ∧ OwnB w' w.heap.size v' v.code ∧ Below w.heap.size w w' := by
  obtain ⟨h0, h5, h1⟩ := chk_kind hc
  have hs := chk_size hc
  obtain ⟨k, n, f, s⟩ := v
  obtain ⟨_, ⟨n1, n2⟩, hf, _⟩ := hv
  dsimp only at *
  have h6 : k = 0 ∨ k = 1 ∨ k = 2 ∨ k = 3 ∨ k = 4 ∨ k = 5 := by omega
  rcases h6 with rfl | rfl | rfl | rfl | rfl | rfl
  · exact code_0 n f s w
  · obtain ⟨m, rfl⟩ : ∃ m : Nat, n = (m : Int) := ⟨n.toNat, by have := h1 rfl; omega⟩
    exact code_1 m f s w (by have := h1 rfl; omega)
  · exact code_2 n f s w n1 n2
  · exact code_3 n f s w hf
  · exact code_4 n f s w hs
  · exact code_5 n f s w hs

end Go.Proofs.YteadniomgbhecaaGreatDoor

namespace Go.Proofs.YteadniomgbhecaaGreatDoor
open Go.RowKit Ieee
set_option maxRecDepth 100000

set_option maxHeartbeats 4000000 in
theorem rencode_any (L : List Vl) (p : Option Addr) (c : Nat) (w : World) (hR : RowV w w.heap.size p L) (hok : ∀ v ∈ L, v.ok) (hlen : L.length ≤ 3518437208784) (hg : 2 < w.heap.size) (hT : Lib.Utf8Tabs 1 2 w) :
    Calls Tryz.prog 13 #[.slice p L.length c] w fun e w' => e = .returned (.tuple #[.string ⟨(encS L).1.toArray⟩, .int .i64 (encS L).2]) ∧ Below w.heap.size w w' := by
  have HH : Hid (RowV w w.heap.size p L ∧ (∀ v ∈ L, v.ok) ∧ Lib.Utf8Tabs 1 2 w) := ⟨hR, hok, hT⟩
  clear hR hok hT
  obtain ⟨r1, hr1⟩ : ∃ r, r = (encS L).1.toArray := ⟨_, rfl⟩
  obtain ⟨r2, hr2⟩ : ∃ r, r = (encS L).2 := ⟨_, rfl⟩
  rw [← hr1, ← hr2]
  have HRS : Hid (r1 = (encS L).1.toArray ∧ r2 = (encS L).2) := ⟨hr1, hr2⟩
  clear hr1 hr2
  go_enter Tryz.func13, Tryz.ntmps13
  go_wp2_with fail
  go_loopw [4] (fun i wr => ∃ j : Nat, j ≤ L.length ∧ i = .int .i64 (j : Int) ∧ (∀ t (ht : t < L.length), t < j → L[t].chk = 0) ∧ Below w.heap.size w wr) (fun i _ => L.length - (intOf i).toNat)
  case atStart => exact ⟨0, Nat.zero_le _, by go_num, fun t _ h => absurd h (by omega), Below.refl _ _⟩
  case round =>
    obtain ⟨j, hj, rfl, hall, hbl⟩ := hrel
    have hz := hbl.size
    by_cases hj0 : j = L.length
    · subst hj0
      have HH2 : Hid ((∀ t (ht : t < L.length), L[t].chk = 0) ∧ Below w.heap.size w wr) := ⟨fun t ht => hall t ht ht, hbl⟩
      clear hall hbl
      go_wp2_with fail
      go_loopw [5, 6] (fun key i ws => ∃ j : Nat, j ≤ L.length ∧ i = .int .i64 (j : Int) ∧ OwnB ws w.heap.size key (encL (L.take j)) ∧ (encL (L.take j)).length ≤ 1024 ∧ Below w.heap.size w ws) (fun _ i _ => L.length - (intOf i).toNat)
      case atStart => exact ⟨0, Nat.zero_le _, by go_num, OwnB.nil _ _, by simp [encL], HH2.out.2⟩
      case round =>
        obtain ⟨j, hj, rfl, hown, hle, hbl⟩ := hrel
        have hz2 := hbl.size
        by_cases hj0 : j = L.length
        · subst hj0
          rw [List.take_length] at hown hle
          have hcv := hown.conv
          have HE : Hid (encS L = (encL L, 0) ∧ Below w.heap.size w _) := ⟨encS_fine HH2.out.1 hle, hbl⟩
          clear hown hle hbl
          obtain ⟨r, hr⟩ : ∃ r, r = (encL L).toArray := ⟨_, rfl⟩
          rw [← hr] at hcv
          have HR2 : Hid (r = (encL L).toArray) := hr
          clear hr
          go_wp2
          go_ret2
          exact ⟨by rw [HRS.out.1, HRS.out.2, HE.out.1, HR2.out]; rfl, HE.out.2⟩
        · have hj1 : j < L.length := by omega
          obtain ⟨b, o, rfl, hbB, c0, c1, c2, c3⟩ := (HH.out.1.keep hbl) j hj1
          have hoj := HH.out.2.1 _ (List.getElem_mem hj1)
          have hcj := HH2.out.1 j hj1
          have het := encL_take L j hj1
          have HE : Hid (OwnB _ _ _ _ ∧ _ ∧ Below _ _ _ ∧ _ ∧ _ ∧ _) := ⟨hown, hle, hbl, hoj, hcj, het⟩
          clear hown hle hbl hoj hcj het
          generalize L[j] = v at *
          go_wp2_with (first | (go_at_call 24; refine (code_any v _ HE.out.2.2.2.1 HE.out.2.2.2.2.1).mono ?_; rintro e w1 ⟨v1, rfl, h3, h4⟩) | (at_builtin; refine wpList_appO _ rfl (.tmp 25) _ rfl w.heap.size _ _ rfl (HE.out.1.kept h4) _ _ _ rfl h3 (by have := HE.out.2.1; have := code_len HE.out.2.2.2.2.1; omega) (by have := h4.size; omega) ?_; intro v2 w2 h5 h6; obtain ⟨p1, cap1, rfl⟩ := h5.len; rw [← HE.out.2.2.2.2.2] at h5; have hl3 : (encL (List.take j L) ++ v.code).length = (encL (L.take (j + 1))).length := by rw [HE.out.2.2.2.2.2]))
          · have hgt : (1024 : Int) < ((encL (L.take (j + 1))).length : Int) := by assumption
            go_ret2
            refine ⟨?_, HE.out.2.2.1.trans ((h4.mono hz2).trans h6.below)⟩
            rw [HRS.out.1, HRS.out.2, encS_long HH2.out.1 (j := j + 1) (by omega)]
            rfl
          · have hgt : ¬ (1024 : Int) < ((encL (L.take (j + 1))).length : Int) := by first | assumption | (have h9 : ((encL (L.take (j + 1))).length : Int) ≤ 1024 := (by assumption); omega)
            go_roundw
            case rel => exact ⟨j + 1, by omega, by go_num, h5, by omega, HE.out.2.2.1.trans ((h4.mono hz2).trans h6.below)⟩
            case measure => simp [intOf]; omega
    · have hj1 : j < L.length := by omega
      obtain ⟨b, o, rfl, hbB, c0, c1, c2, c3⟩ := (HH.out.1.keep hbl) j hj1
      have HH2 : Hid ((∀ t (ht : t < L.length), t < j → L[t].chk = 0) ∧ Below w.heap.size w wr ∧ L[j].ok) := ⟨hall, hbl, HH.out.2.1 _ (List.getElem_mem hj1)⟩
      clear hall hbl
      obtain ⟨v, hv⟩ : ∃ v, v = L[j] := ⟨_, rfl⟩
      rw [← hv] at c0 c1 c2 c3 HH2
      have HV : Hid (v = L[j]) := hv
      clear hv
      have C9 : Hid (∀ w1 : World, Below w.heap.size w w1 → _) := fun w1 hb => rcheck_ok v w1 HH2.out.2.2 (by have := hb.size; omega) (tabs_keep hb hg HH.out.2.2)
      obtain ⟨ck, hck⟩ : ∃ ck, ck = v.chk := ⟨_, rfl⟩
      rw [← hck] at C9
      have HCK : Hid (ck = v.chk) := hck
      clear hck
      by_cases hck : ck = 0
      · subst hck
        go_wp2_with (first | (go_at_call 23; refine (C9.out _ HH2.out.2.1).mono ?_; rintro e w1 ⟨rfl, hb9⟩))
        have hb10 := HH2.out.2.1.trans (hb9.mono hz)
        clear hb9
        go_roundw
        case rel =>
          refine ⟨j + 1, by omega, by go_num, fun t ht h => ?_, hb10⟩
          by_cases e : t = j
          · subst e; rw [← HV.out]; exact HCK.out.symm
          · exact HH2.out.1 t ht (by omega)
        case measure => simp [intOf]; omega
      · have hne : (ck != 0) = true := bneT hck
        have HNE : Hid (¬ ck = 0) := hck
        clear hck
        go_wp2_with (first | (go_at_call 23; refine (C9.out _ HH2.out.2.1).mono ?_; rintro e w1 ⟨rfl, hb9⟩))
        go_ret2
        have hb10 := HH2.out.2.1.trans (hb9.mono hz)
        refine ⟨?_, hb10⟩
        rw [HRS.out.1, HRS.out.2, encS_bad hj1 (by rw [← HV.out, ← HCK.out]; exact HNE.out)]
        rfl

end Go.Proofs.YteadniomgbhecaaGreatDoor
