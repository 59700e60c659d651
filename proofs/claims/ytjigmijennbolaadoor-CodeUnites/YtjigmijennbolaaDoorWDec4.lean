/- The walks of the functions that read bools and floats, and of the check behind a text. -/
import Derived.Test.YtjigmijennbolaaDoorWDec3
import Derived.Deep.RegionWith
namespace Go.Proofs.YtjigmijennbolaaDoor
open Go.RowKit
set_option maxRecDepth 100000

set_option maxHeartbeats 1000000 in
theorem readBool_nil (w : World) :
    Calls Tryd.prog 41 #[.string ⟨#[]⟩] w fun e w' => e = .returned (res3 none) ∧ Below w.heap.size w w' := by
  have hsf := run_store_float
  go_enter Tryd.func41, Tryd.ntmps41
  go_wp2
  go_returns
  exact ⟨rfl, by go_grown⟩

set_option maxHeartbeats 1000000 in
theorem readBool_big (s : ByteArray) (w : World) (_hs : s.size ≤ 1024) (h0 : 0 < s.size) (h1 : (1 : Int) < s[0].toNat) :
    Calls Tryd.prog 41 #[.string s] w fun e w' => e = .returned (res3 none) ∧ Below w.heap.size w w' := by
  have hne := not_nil h0
  have hsf := run_store_float
  go_enter Tryd.func41, Tryd.ntmps41
  go_wp2
  go_returns
  exact ⟨rfl, by go_grown⟩

set_option maxHeartbeats 1000000 in
theorem readBool_good (s : ByteArray) (b : Bool) (w : World) (_hs : s.size ≤ 1024) (h0 : 0 < s.size) (h1 : (s[0].toNat : Int) ≤ 1) (hb : ((s[0].toNat : Int) == 1) = b) :
    Calls Tryd.prog 41 #[.string s] w fun e w' => e = .returned (.tuple #[(vBool b).val, .int .i64 1, .bool true]) ∧ Below w.heap.size w w' := by
  have hne := not_nil h0
  have hsf := run_store_float
  go_enter Tryd.func41, Tryd.ntmps41
  go_wp2_with (first | (go_at_call 56; refine (litBool_any _ _).mono ?_; rintro e w1 ⟨rfl, hb1⟩; obtain ⟨⟨z0, z1, z2, z3⟩, y0, y1, y2, y3⟩ := vz w w1 _ rfl hb1))
  refine bodyPost_ret (v := .tuple #[(vBool b).val, .int .i64 1, .bool true]) (by simp [results, Tryd.results41, go_sem, z0, z1, z2, z3]) rfl ⟨rfl, ((((((Below.refl _ _).alloc (Nat.le_refl _) _).trans (hb1.mono (by simp))).setCell (by simp) _).setCell (by simp) _).setCell (by simp) _).setCell (by simp) _⟩

theorem readBool_any (s : ByteArray) (w : World) (hs : s.size ≤ 1024) :
    Calls Tryd.prog 41 #[.string s] w fun e w' => e = .returned (res3 (rdBool s.data.toList)) ∧ Below w.heap.size w w' := by
  rcases Nat.eq_zero_or_pos s.size with h0 | h0
  · rw [is_nil h0]; exact readBool_nil w
  · rw [toList_cons h0]
    simp only [rdBool]
    by_cases h1 : 1 < s[0].toNat
    · rw [if_pos h1]; exact readBool_big s w hs h0 (by omega)
    · rw [if_neg h1]
      refine readBool_good s _ w hs h0 (by omega) ?_
      rw [Bool.eq_iff_iff]
      simp only [beq_iff_eq]
      constructor
      · intro h; exact UInt8.toNat_inj.1 (show s[0].toNat = (1 : UInt8).toNat by have : (1 : UInt8).toNat = 1 := rfl; omega)
      · intro h; rw [h]; rfl

set_option maxHeartbeats 1000000 in
theorem readFloat_no (s : ByteArray) (w : World) (hC : ∀ w1, Calls Tryd.prog 58 #[.string s, .int .i64 8] w1 fun e w' => e = .returned (.tuple #[.int .u64 0, .bool false]) ∧ w' = w1) :
    Calls Tryd.prog 43 #[.string s] w fun e w' => e = .returned (res3 none) ∧ Below w.heap.size w w' := by
  have C1 : Hid (∀ w1 : World, Calls _ _ _ _ _) := hC
  have hsf := run_store_float
  clear hC
  go_enter Tryd.func43, Tryd.ntmps43
  go_wp2_with fail
  refine (C1.out _).mono ?_
  rintro e w1 ⟨rfl, hww⟩
  obtain rfl := hww.symm
  go_wp2
  go_returns
  exact ⟨rfl, by go_grown⟩

/-- the world behind two blocks and a call keeps both -/
theorem vz2 (w w1 : World) (f : Nat) (hb : Below ((w.alloc (.cells #[.int .i64 0, .int .i64 0, .float .f64 0, .string ⟨#[]⟩] 43))).heap.size (w.alloc (.cells #[.int .i64 0, .int .i64 0, .float .f64 0, .string ⟨#[]⟩] 43)) w1) :
    Below w.heap.size w (w1.alloc (.cells #[.int .i64 3, .int .i64 0, .float .f64 f, .string ⟨#[]⟩] 43)) :=
  (((Below.refl _ _).alloc (Nat.le_refl _) _).trans (hb.mono (by simp))).alloc (by have := hb.size; simp at this; omega) _

set_option maxHeartbeats 2000000 in
theorem readFloat_ok (s : ByteArray) (b f : Nat) (w : World) (hb : b < 18446744073709551616) (hf : f = unG b) (ok : Bool) (hok : ok = decide (plainF f = f)) (hC : ∀ w1, Calls Tryd.prog 58 #[.string s, .int .i64 8] w1 fun e w' => e = .returned (.tuple #[.int .u64 (b : Int), .bool true]) ∧ w' = w1) :
    Calls Tryd.prog 43 #[.string s] w fun e w' => e = .returned (if ok then .tuple #[(vFlo f).val, .int .i64 8, .bool true] else res3 none) ∧ Below w.heap.size w w' := by
  have C1 : Hid (∀ w1 : World, Calls _ _ _ _ _) := hC
  have hsf := run_store_float
  have C2 : Hid (∀ w1 : World, Calls Tryd.prog 55 #[.agg #[.int .i64 3, .int .i64 0, .float .f64 f, .string ⟨#[]⟩]] w1 fun e w' => e = .returned (.agg #[.int .i64 3, .int .i64 0, .float .f64 (plainF f), .string ⟨#[]⟩]) ∧ Below w1.heap.size w1 w') := fun w1 => plain_any 3 0 f ⟨#[]⟩ w1
  have C3 : Hid (∀ w1 : World, Calls Tryd.prog 61 #[.agg #[.int .i64 3, .int .i64 0, .float .f64 f, .string ⟨#[]⟩], .agg #[.int .i64 3, .int .i64 0, .float .f64 (plainF f), .string ⟨#[]⟩]] w1 fun e w' => e = .returned (.bool ok) ∧ Below w1.heap.size w1 w') := fun w1 => by
    have h := same_any 3 0 3 0 f (plainF f) ⟨#[]⟩ ⟨#[]⟩ w1
    have e : sameB 3 0 3 0 f (plainF f) ⟨#[]⟩ ⟨#[]⟩ = ok := by
      rw [hok, Bool.eq_iff_iff]
      simp only [sameB, beq_self_eq_true, Bool.true_and, Bool.and_true, beq_iff_eq, decide_eq_true_eq]
      omega
    rw [e] at h
    exact h
  have hlf : (vFlo f).val = .agg #[.int .i64 3, .int .i64 0, .float .f64 f, .string ⟨#[]⟩] := rfl
  have C4 : Hid (∀ w1 : World, Calls _ _ _ _ _) := fun w1 => litBits_any f w1
  rw [hlf] at C4 ⊢
  clear hok hC hlf
  generalize plainF f = pf' at *
  have fin : Hid (∀ w1 w2 : World, Below ((w.alloc (.cells #[.int .i64 0, .int .i64 0, .float .f64 0, .string ⟨#[]⟩] 43))).heap.size (w.alloc (.cells #[.int .i64 0, .int .i64 0, .float .f64 0, .string ⟨#[]⟩] 43)) w1 → Below (w1.alloc (.cells #[.int .i64 3, .int .i64 0, .float .f64 f, .string ⟨#[]⟩] 43)).heap.size (w1.alloc (.cells #[.int .i64 3, .int .i64 0, .float .f64 f, .string ⟨#[]⟩] 43)).drew w2 → Below ((w.alloc (.cells #[.int .i64 0, .int .i64 0, .float .f64 0, .string ⟨#[]⟩] 43))).heap.size (w.alloc (.cells #[.int .i64 0, .int .i64 0, .float .f64 0, .string ⟨#[]⟩] 43)) w2) := fun w1 w2 h1 h2 => by
    have := h1.size
    exact (h1.alloc this _).drew.trans (h2.mono (by simp; simp at this; omega))
  rcases Nat.lt_or_ge b 9223372036854775808 with hc | hc
  · have hb1 := (top_off hc).1
    have hx := not_u64 b hb IntKind.u64.max (by decide)
    have e : 18446744073709551615 - b = f := by rw [hf]; unfold unG; rw [if_pos hc]
    rw [e] at hx
    have HX : Hid (_ = _) := hx
    clear e hx hf
    go_enter Tryd.func43, Tryd.ntmps43
    go_wp2_with fail
    refine (C1.out _).mono ?_
    rintro e w1 ⟨rfl, hww⟩
    obtain rfl := hww.symm
    go_wp2_with fail
    rw [HX.out]
    refine (C4.out _).mono ?_
    rintro e w1 ⟨rfl, hbA⟩
    have hz := hbA.size
    simp at hz
    obtain ⟨⟨z0, z1, z2, z3⟩, y0, y1, y2, y3⟩ := vz w w1 _ rfl hbA
    go_wp2_with fail
    go_region_with (first | (go_at_call 55; refine (C2.out _).mono ?_; rintro e w2 ⟨rfl, hbB⟩; obtain ⟨u1, u2, u3, u4⟩ := c1_keep (wp := (w1.alloc (.cells #[.int .i64 3, .int .i64 0, .float .f64 f, .string ⟨#[]⟩] 43)).drew) hbB (by simp) (c1_new w1 3 0 f ⟨#[]⟩)) | (go_at_call 61; refine (C3.out _).mono ?_; rintro e w3 ⟨rfl, hbC⟩))
    all_goals
      have hD := fin.out w1 w3 hbA (hbB.trans (hbC.mono hbB.size))
      obtain ⟨⟨q0, q1, q2, q3⟩, r0, r1, r2, r3⟩ := vz w w3 _ rfl hD
      obtain ⟨v1, v2, v3, v4⟩ := c1_keep hbC (by have := hbB.size; simp at this; omega) ⟨u1, u2, u3, u4⟩
      have hE : Below w.heap.size w w3 := ((Below.refl _ _).alloc (Nat.le_refl _) _).trans (hD.mono (by simp))
      clear hbA hbB hbC hD z0 z1 z2 z3 y0 y1 y2 y3 u1 u2 u3 u4
      cases ok
      · go_wp2
        refine bodyPost_ret (v := res3 none) (by simp [results, Tryd.results43, go_sem, q0, q1, q2, q3, res3, vNull]) rfl ⟨rfl, (((hE.setCell (by simp) _).setCell (by simp) _).setCell (by simp) _).setCell (by simp) _⟩
      · go_wp2
        refine bodyPost_ret (v := .tuple #[.agg #[.int .i64 3, .int .i64 0, .float .f64 f, .string ⟨#[]⟩], .int .i64 8, .bool true]) (by simp [results, Tryd.results43, go_sem, q0, q1, q2, q3]) rfl ⟨rfl, (((hE.setCell (by simp) _).setCell (by simp) _).setCell (by simp) _).setCell (by simp) _⟩
  · have hb1 := top_on hc hb
    have hx : bits .xor .u64 (b : Int) 9223372036854775808 = (f : Int) := by
      have h := u64_xor_nat b 9223372036854775808 hb (by decide)
      rw [show ((9223372036854775808 : Nat) : Int) = 9223372036854775808 from rfl] at h
      have e : f + 2 ^ 63 = b := by rw [hf]; unfold unG; rw [if_neg (by omega)]; omega
      have e2 : f < 2 ^ 63 := by omega
      rw [h, ← e, show (9223372036854775808 : Nat) = 2 ^ 63 from rfl, ← xor_top e2, Nat.xor_assoc, Nat.xor_self, Nat.xor_zero]
    have HX : Hid (_ = _) := hx
    clear hx hf
    go_enter Tryd.func43, Tryd.ntmps43
    go_wp2_with fail
    refine (C1.out _).mono ?_
    rintro e w1 ⟨rfl, hww⟩
    obtain rfl := hww.symm
    go_wp2_with fail
    rw [HX.out]
    refine (C4.out _).mono ?_
    rintro e w1 ⟨rfl, hbA⟩
    have hz := hbA.size
    simp at hz
    obtain ⟨⟨z0, z1, z2, z3⟩, y0, y1, y2, y3⟩ := vz w w1 _ rfl hbA
    go_wp2_with fail
    go_region_with (first | (go_at_call 55; refine (C2.out _).mono ?_; rintro e w2 ⟨rfl, hbB⟩; obtain ⟨u1, u2, u3, u4⟩ := c1_keep (wp := (w1.alloc (.cells #[.int .i64 3, .int .i64 0, .float .f64 f, .string ⟨#[]⟩] 43)).drew) hbB (by simp) (c1_new w1 3 0 f ⟨#[]⟩)) | (go_at_call 61; refine (C3.out _).mono ?_; rintro e w3 ⟨rfl, hbC⟩))
    all_goals
      have hD := fin.out w1 w3 hbA (hbB.trans (hbC.mono hbB.size))
      obtain ⟨⟨q0, q1, q2, q3⟩, r0, r1, r2, r3⟩ := vz w w3 _ rfl hD
      obtain ⟨v1, v2, v3, v4⟩ := c1_keep hbC (by have := hbB.size; simp at this; omega) ⟨u1, u2, u3, u4⟩
      have hE : Below w.heap.size w w3 := ((Below.refl _ _).alloc (Nat.le_refl _) _).trans (hD.mono (by simp))
      clear hbA hbB hbC hD z0 z1 z2 z3 y0 y1 y2 y3 u1 u2 u3 u4
      cases ok
      · go_wp2
        refine bodyPost_ret (v := res3 none) (by simp [results, Tryd.results43, go_sem, q0, q1, q2, q3, res3, vNull]) rfl ⟨rfl, (((hE.setCell (by simp) _).setCell (by simp) _).setCell (by simp) _).setCell (by simp) _⟩
      · go_wp2
        refine bodyPost_ret (v := .tuple #[.agg #[.int .i64 3, .int .i64 0, .float .f64 f, .string ⟨#[]⟩], .int .i64 8, .bool true]) (by simp [results, Tryd.results43, go_sem, q0, q1, q2, q3]) rfl ⟨rfl, (((hE.setCell (by simp) _).setCell (by simp) _).setCell (by simp) _).setCell (by simp) _⟩

theorem readFloat_any (s : ByteArray) (w : World) (hs : s.size ≤ 1024) :
    Calls Tryd.prog 43 #[.string s] w fun e w' => e = .returned (res3 (rdFlo s.data.toList)) ∧ Below w.heap.size w w' := by
  unfold rdFlo
  have hsz : s.data.toList.length = s.size := by simp
  rw [hsz]
  by_cases h : s.size < 8
  · rw [if_pos h]; exact readFloat_no s w fun w1 => readHigh_no s 8 w1 hs (by decide) (.inr h)
  · rw [if_neg h]
    have hl : (s.data.toList.take 8).length = 8 := by rw [List.length_take, hsz]; omega
    have ht := num_lt (s.data.toList.take 8)
    rw [hl, pow256_8] at ht
    have h1 := readFloat_ok s (num (s.data.toList.take 8)) _ w ht rfl _ rfl fun w1 => readHigh_ok s 8 w1 hs (by decide) (by omega)
    by_cases h2 : plainF (unG (num (s.data.toList.take 8))) = unG (num (s.data.toList.take 8))
    · rw [if_pos h2]
      simp only [h2, decide_true, if_true] at h1
      exact h1
    · rw [if_neg h2]
      simp only [h2, decide_false, Bool.false_eq_true, if_false] at h1
      exact h1

set_option maxHeartbeats 1000000 in
theorem checked_any (v : Vl) (n : Nat) (w : World) (hv : v.ok) (hg : 2 < w.heap.size) (hT : Lib.Utf8Tabs 1 2 w) :
    Calls Tryd.prog 62 #[v.val, .int .i64 (n : Int)] w fun e w' => e = .returned (if v.chk = 0 then res3 (some (v, n)) else res3 none) ∧ Below w.heap.size w w' := by
  have hbx : Below w.heap.size w ((w.alloc (.cells #[.int .i64 v.k, .int .i64 v.n, .float .f64 v.f, .string v.s] 43)).alloc (.cells #[.int .i64 0, .int .i64 0, .float .f64 0, .string ⟨#[]⟩] 43)) := ((Below.refl _ _).alloc (Nat.le_refl _) _).alloc (by simp) _
  have C1 : Hid (∀ w1 : World, Below w.heap.size w w1 → Calls _ _ _ _ _) := fun w1 hb => check_ok v w1 hv (by have := hb.size; omega) (tabs_keep hb hg hT)
  have HB : Hid (Below _ _ _) := hbx
  have hsf := run_store_float
  clear hbx hT
  by_cases hc : v.chk = 0
  · rw [if_pos hc]
    rw [hc] at C1
    have hr : res3 (some (v, n)) = .tuple #[v.val, .int .i64 (n : Int), .bool true] := rfl
    rw [hr]
    clear hr hc
    go_enter Tryd.func62, Tryd.ntmps62
    go_wp2_with fail
    refine (C1.out _ HB.out).mono ?_
    rintro e w1 ⟨rfl, hb1⟩
    obtain ⟨⟨z0, z1, z2, z3⟩, y0, y1, y2, y3⟩ := vz (w.alloc (.cells #[.int .i64 v.k, .int .i64 v.n, .float .f64 v.f, .string v.s] 43)) w1 _ rfl hb1
    obtain ⟨u1, u2, u3, u4⟩ := c1_keep hb1 (by simp; omega) (c1_keep ((Below.refl _ _).alloc (Nat.le_refl _) _) (by simp) (c1_new w v.k v.n v.f v.s))
    simp at z0 z1 z2 z3 y0 y1 y2 y3
    have hE : Below w.heap.size w w1 := HB.out.trans (hb1.mono (by simp; omega))
    clear hb1
    go_wp2
    refine bodyPost_ret (v := .tuple #[v.val, .int .i64 (n : Int), .bool true]) (by simp [results, Tryd.results62, go_sem, z0, z1, z2, z3]) rfl ⟨rfl, (((hE.setCell (by simp) _).setCell (by simp) _).setCell (by simp) _).setCell (by simp) _⟩
  · rw [if_neg hc]
    obtain ⟨ck, hck⟩ : ∃ ck, ck = v.chk := ⟨_, rfl⟩
    rw [← hck] at C1 hc
    have hne := bneT hc
    clear hc hck
    go_enter Tryd.func62, Tryd.ntmps62
    go_wp2_with fail
    refine (C1.out _ HB.out).mono ?_
    rintro e w1 ⟨rfl, hb1⟩
    obtain ⟨⟨z0, z1, z2, z3⟩, y0, y1, y2, y3⟩ := vz (w.alloc (.cells #[.int .i64 v.k, .int .i64 v.n, .float .f64 v.f, .string v.s] 43)) w1 _ rfl hb1
    simp at z0 z1 z2 z3 y0 y1 y2 y3
    have hE : Below w.heap.size w w1 := HB.out.trans (hb1.mono (by simp; omega))
    clear hb1
    go_wp2
    refine bodyPost_ret (v := res3 none) (by simp [results, Tryd.results62, go_sem, z0, z1, z2, z3, res3, vNull]) rfl ⟨rfl, (((hE.setCell (by simp) _).setCell (by simp) _).setCell (by simp) _).setCell (by simp) _⟩
end Go.Proofs.YtjigmijennbolaaDoor
