/- The walks of the document's answer: a value's code, a list's key. -/
import Derived.Test.YteffaldahccgiaaDoorWRef2
import Derived.Test.YteffaldahccgiaaDoorWEncE
namespace Go.Proofs.YteffaldahccgiaaDoor
open Go.RowKit Ieee
set_option maxRecDepth 100000

theorem own_lit2 (w : World) (bx : Array Value) (b : UInt8) (z : Int) (hz : z = (b.toNat : Int)) : OwnB ((w.alloc (.cells bx 52)).alloc (.cells #[.int .u8 z] 5)) w.heap.size (.slice (some ⟨w.heap.size + 1, 0, none⟩) 1 1) [b] := by
  subst hz
  have h := own_lit1 (w.alloc (.cells bx 52)) w.heap.size b (by simp)
  simpa using h
theorem below2 (w : World) (o p : Obj) : Below w.heap.size w ((w.alloc o).alloc p) := ((Below.refl _ _).alloc (Nat.le_refl _) _).alloc (by simp) _

theorem wholeC_len (n : Int) : (wholeC n).length ≤ 9 := by
  unfold wholeC
  split
  · rw [List.length_cons, hiB_len]; have := sz_le n.toNat; omega
  · rw [List.length_cons, hiB_len]; have := sz_le (-(n + 1)).toNat; omega
theorem ended_len {s : ByteArray} (hs : s.size ≤ 65536) : (ended s.data.toList).length ≤ 131073 := by
  have h := esc_len s.data.toList
  unfold ended
  rw [List.length_append]
  simp at h ⊢
  omega

set_option maxHeartbeats 1000000 in
theorem code_0 (n : Int) (f : Nat) (s : ByteArray) (w : World) :
    Calls Tryd.prog 39 #[.agg #[.int .i64 0, .int .i64 n, .float .f64 f, .string s]] w fun e w' => ∃ v', e = .returned v' ∧ OwnB w' w.heap.size v' ([1]) ∧ Below w.heap.size w w' := by
  have A1 : Hid (OwnB _ w.heap.size _ _) := own_lit2 w #[.int .i64 0, .int .i64 n, .float .f64 f, .string s] 1 1 rfl
  have B1 : Hid (Below _ _ _) := below2 w (.cells #[.int .i64 0, .int .i64 n, .float .f64 f, .string s] 52) (.cells #[.int .u8 1] 5)
  go_enter Tryd.func39, Tryd.ntmps39
  go_wp2
  go_ret
  exact ⟨_, rfl, A1.out, B1.out⟩

set_option maxHeartbeats 1000000 in
theorem code_1 (n : Nat) (f : Nat) (s : ByteArray) (w : World) (hn : n < 2) :
    Calls Tryd.prog 39 #[.agg #[.int .i64 1, .int .i64 n, .float .f64 f, .string s]] w fun e w' => ∃ v', e = .returned v' ∧ OwnB w' w.heap.size v' ([2, UInt8.ofNat n]) ∧ Below w.heap.size w w' := by
  have A1 : Hid (OwnB _ w.heap.size _ _) := own_lit2 w #[.int .i64 1, .int .i64 n, .float .f64 f, .string s] 2 2 rfl
  have B1 : Hid (Below _ _ _) := below2 w (.cells #[.int .i64 1, .int .i64 n, .float .f64 f, .string s] 52) (.cells #[.int .u8 2] 5)
  obtain ⟨b, hb⟩ : ∃ b, b = UInt8.ofNat n := ⟨_, rfl⟩
  have HB : Hid (b = _) := hb
  rw [← hb]
  clear hb
  go_enter Tryd.func39, Tryd.ntmps39
  go_wp2_with (first | (at_builtin; refine wpList_app1g _ rfl (.tmp 13) _ rfl w.heap.size _ _ rfl A1.out b _ ?zz1 _ rfl ?gg1 ?ll1 ?bb1 ?_))
  case zz1 => rw [HB.out, ofNat_toNat8]; omega
  case gg1 => simp
  case ll1 => simp
  case bb1 => simp; omega
  intro v1 w1 h1 h2
  go_wp2
  go_ret
  exact ⟨_, rfl, h1, B1.out.trans h2.below⟩

set_option maxHeartbeats 1000000 in
theorem code_2 (n : Int) (f : Nat) (s : ByteArray) (w : World) (n1 : -9223372036854775808 ≤ n) (n2 : n ≤ 9223372036854775807) :
    Calls Tryd.prog 39 #[.agg #[.int .i64 2, .int .i64 n, .float .f64 f, .string s]] w fun e w' => ∃ v', e = .returned v' ∧ OwnB w' w.heap.size v' (3 :: wholeC n) ∧ Below w.heap.size w w' := by
  have A1 : Hid (OwnB _ w.heap.size _ _) := own_lit2 w #[.int .i64 2, .int .i64 n, .float .f64 f, .string s] 3 3 rfl
  have B1 : Hid (Below _ _ _) := below2 w (.cells #[.int .i64 2, .int .i64 n, .float .f64 f, .string s] 52) (.cells #[.int .u8 3] 5)
  go_enter Tryd.func39, Tryd.ntmps39
  go_wp2_with (first | (go_at_call 58; refine (whole_any n _ n1 n2).mono ?_; rintro e w1 ⟨v1, rfl, h3, h4⟩) | (at_builtin; refine wpList_appO _ rfl (.tmp 21) _ rfl w.heap.size _ _ rfl (A1.out.kept h4) _ _ _ rfl h3 ?ll1 ?bb1 ?_))
  case ll1 => have := wholeC_len n; simp; omega
  case bb1 => have := h4.size; simp at this; omega
  intro v2 w2 h5 h6
  go_wp2
  go_ret
  exact ⟨v2, rfl, by simpa using h5, B1.out.trans ((h4.mono (by simp; omega)).trans h6.below)⟩

set_option maxHeartbeats 1000000 in
theorem code_3 (n : Int) (f : Nat) (s : ByteArray) (w : World) (hf : f < 18446744073709551616) :
    Calls Tryd.prog 39 #[.agg #[.int .i64 3, .int .i64 n, .float .f64 f, .string s]] w fun e w' => ∃ v', e = .returned v' ∧ OwnB w' w.heap.size v' (4 :: realC f) ∧ Below w.heap.size w w' := by
  have A1 : Hid (OwnB _ w.heap.size _ _) := own_lit2 w #[.int .i64 3, .int .i64 n, .float .f64 f, .string s] 4 4 rfl
  have B1 : Hid (Below _ _ _) := below2 w (.cells #[.int .i64 3, .int .i64 n, .float .f64 f, .string s] 52) (.cells #[.int .u8 4] 5)
  go_enter Tryd.func39, Tryd.ntmps39
  go_wp2_with (first | (go_at_call 59; refine (real_any f _ hf).mono ?_; rintro e w1 ⟨v1, rfl, h3, h4⟩) | (at_builtin; refine wpList_appO _ rfl (.tmp 28) _ rfl w.heap.size _ _ rfl (A1.out.kept h4) _ _ _ rfl h3 ?ll1 ?bb1 ?_))
  case ll1 => unfold realC; simp [hiB_len]
  case bb1 => have := h4.size; simp at this; omega
  intro v2 w2 h5 h6
  go_wp2
  go_ret
  exact ⟨v2, rfl, by simpa using h5, B1.out.trans ((h4.mono (by simp; omega)).trans h6.below)⟩

set_option maxHeartbeats 1000000 in
theorem code_4 (n : Int) (f : Nat) (s : ByteArray) (w : World) (hs : s.size ≤ 65536) :
    Calls Tryd.prog 39 #[.agg #[.int .i64 4, .int .i64 n, .float .f64 f, .string s]] w fun e w' => ∃ v', e = .returned v' ∧ OwnB w' w.heap.size v' (5 :: ended s.data.toList) ∧ Below w.heap.size w w' := by
  have A1 : Hid (OwnB _ w.heap.size _ _) := own_lit2 w #[.int .i64 4, .int .i64 n, .float .f64 f, .string s] 5 5 rfl
  have B1 : Hid (Below _ _ _) := below2 w (.cells #[.int .i64 4, .int .i64 n, .float .f64 f, .string s] 52) (.cells #[.int .u8 5] 5)
  go_enter Tryd.func39, Tryd.ntmps39
  go_wp2_with (first | (go_at_call 60; refine (ended_any s _ hs).mono ?_; rintro e w1 ⟨v1, rfl, h3, h4⟩) | (at_builtin; refine wpList_appO _ rfl (.tmp 36) _ rfl w.heap.size _ _ rfl (A1.out.kept h4) _ _ _ rfl h3 ?ll1 ?bb1 ?_))
  case ll1 => have := ended_len hs; simp; omega
  case bb1 => have := h4.size; simp at this; omega
  intro v2 w2 h5 h6
  go_wp2
  go_ret
  exact ⟨v2, rfl, by simpa using h5, B1.out.trans ((h4.mono (by simp; omega)).trans h6.below)⟩

set_option maxHeartbeats 1000000 in
theorem code_5 (n : Int) (f : Nat) (s : ByteArray) (w : World) (hs : s.size ≤ 65536) :
    Calls Tryd.prog 39 #[.agg #[.int .i64 5, .int .i64 n, .float .f64 f, .string s]] w fun e w' => ∃ v', e = .returned v' ∧ OwnB w' w.heap.size v' (6 :: ended s.data.toList) ∧ Below w.heap.size w w' := by
  have A1 : Hid (OwnB _ w.heap.size _ _) := own_lit2 w #[.int .i64 5, .int .i64 n, .float .f64 f, .string s] 6 6 rfl
  have B1 : Hid (Below _ _ _) := below2 w (.cells #[.int .i64 5, .int .i64 n, .float .f64 f, .string s] 52) (.cells #[.int .u8 6] 5)
  go_enter Tryd.func39, Tryd.ntmps39
  go_wp2_with (first | (go_at_call 60; refine (ended_any s _ hs).mono ?_; rintro e w1 ⟨v1, rfl, h3, h4⟩) | (at_builtin; refine wpList_appO _ rfl (.tmp 36) _ rfl w.heap.size _ _ rfl (A1.out.kept h4) _ _ _ rfl h3 ?ll1 ?bb1 ?_))
  case ll1 => have := ended_len hs; simp; omega
  case bb1 => have := h4.size; simp at this; omega
  intro v2 w2 h5 h6
  go_wp2
  go_ret
  exact ⟨v2, rfl, by simpa using h5, B1.out.trans ((h4.mono (by simp; omega)).trans h6.below)⟩

theorem code_any (v : Vl) (w : World) (hv : v.ok) (hc : v.chk = 0) :
    Calls Tryd.prog 39 #[v.val] w fun e w' => ∃ v', e = .returned v' ∧ OwnB w' w.heap.size v' v.code ∧ Below w.heap.size w w' := by
  obtain ⟨h0, h5, h1⟩ := chk_kind hc
  have hs := chk_size hc
  obtain ⟨k, n, f, s⟩ := v
  obtain ⟨_, ⟨n1, n2⟩, hf, _⟩ := hv
  dsimp only at *
  have h6 : k = 0 ∨ k = 1 ∨ k = 2 ∨ k = 3 ∨ k = 4 ∨ k = 5 := by omega
  rcases h6 with rfl | rfl | rfl | rfl | rfl | rfl
  · exact code_0 n f s w
  · obtain ⟨m, rfl⟩ : ∃ m : Nat, n = (m : Int) := ⟨n.toNat, by have := h1 rfl; omega⟩
    exact code_1 m f s w (by have := h1 rfl; omega)
  · exact code_2 n f s w n1 n2
  · exact code_3 n f s w hf
  · exact code_4 n f s w hs
  · exact code_5 n f s w hs
end Go.Proofs.YteffaldahccgiaaDoor
