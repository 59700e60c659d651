/- Bytes as a text: value.bytesText. The document's Text of texts and of bytes. -/
import Derived.Test.YthbjheiogghjnaaGreatDoorGWFl14
import Derived.Test.YthbjheiogghjnaaGreatDoorGMTxt
import Derived.Test.YthbjheiogghjnaaGreatDoorGWTold
import Derived.Test.YthbjheiogghjnaaGreatDoorGWFl7
import Derived.Test.YthbjheiogghjnaaGreatDoorGWValid
namespace Go.Proofs.YthbjheiogghjnaaGreatDoor
open Go.RowKit
set_option maxRecDepth 100000

theorem hex_idx (n : Nat) (h : n < 16) (w : World) (m : Int) (hm : m = (n : Int)) : (Instr.index 9 (.string ⟨#[48, 49, 50, 51, 52, 53, 54, 55, 56, 57, 97, 98, 99, 100, 101, 102]⟩) (.int .u8 m)).run Tryz.prog w = .ok (.int .u8 ((hexD n).toNat : Int)) w := by
  subst hm
  have h9 : n = 0 ∨ n = 1 ∨ n = 2 ∨ n = 3 ∨ n = 4 ∨ n = 5 ∨ n = 6 ∨ n = 7 ∨ n = 8 ∨ n = 9 ∨ n = 10 ∨ n = 11 ∨ n = 12 ∨ n = 13 ∨ n = 14 ∨ n = 15 := by omega
  rcases h9 with rfl | rfl | rfl | rfl | rfl | rfl | rfl | rfl | rfl | rfl | rfl | rfl | rfl | rfl | rfl | rfl <;> (go_simp; rfl)
theorem and15 (n : Nat) (h : n < 256) : bits .and .u8 (n : Int) 15 = (n : Int) % 16 := by
  unfold bits
  show IntKind.u8.wrap ((BitVec.ofInt 8 (n : Int) &&& BitVec.ofInt 8 15).toNat : Int) = _
  have h1 : (BitVec.ofInt 8 (n : Int)).toNat = n := by
    rw [BitVec.toNat_ofInt]
    omega
  have h2 : (BitVec.ofInt 8 15).toNat = 2 ^ 4 - 1 := by decide
  rw [BitVec.toNat_and, h1, h2, Nat.and_two_pow_sub_one_eq_mod, IntKind.wrap_u8]
  omega
theorem mk_bytes (k : Nat) (hk : k ≤ 140737488355328) (w3 : World) : (Instr.makeSlice 52 (.int .i64 0) (.int .i64 (k : Int))).run Tryz.prog w3 = .ok (.slice (some ⟨w3.heap.size, 0, none⟩) 0 k) (w3.alloc (.cells (madeCells #[.int .u8 0] k) 5)) := by
  obtain ⟨i, hi, q0, q1, q2⟩ := info_parts info_u8
  have := run_make (P := Tryz.prog) w3 52 5 i _ Tryz.underlying52 hi q0 .i64 .i64 0 (k : Int) (by omega) (by omega) (by rw [q2]; omega) (by omega)
  rw [this, q1]
  simp [Value.cells]
theorem wpList_appStr {ops : Array Oper} {rest : List Oper} {o : Oper} {a : Act} {Q : Exit → Act → World → Prop} (w : World) (hgd : o.guard = none) (sl x : Operand)
    (ho : o.op = .call { callee := .builtin .append, args := #[sl, x], argTypes := #[52, 9] })
    (B : Nat) (v : Value) (bs : List UInt8) (hs : a.eval sl = v) (hown : OwnB w B v bs) (s : ByteArray) (hx : a.eval x = .string s) (hlen : bs.length + s.size ≤ 140737488355328) (hbase : B ≤ w.heap.size)
    (h : ∀ v' w', OwnB w' B v' (bs ++ s.data.toList) → Keep5 B w w' → wpList Tryz.prog ops Q rest (a.put o.dst v') w') : wpList Tryz.prog ops Q (o :: rest) a w :=
  wpList_plain hgd fun _ hK => wp_appStr w sl x ho B v bs hs hown s hx hlen hbase fun v' w' h2 h3 => hK _ _ (h v' w' h2 h3)
/-- 'append(b, x, y)' -/
theorem wp_app2 {o : Oper} {a : Act} {K : Act → World → Prop} {Q : Exit → Act → World → Prop} (w : World) (s x : Operand)
    (ho : o.op = .call { callee := .builtin .append, args := #[s, x], argTypes := #[52, 52] })
    (B : Nat) (v : Value) (bs : List UInt8) (hs : a.eval s = v) (hown : OwnB w B v bs)
    (b1 b2 : UInt8) (g : Nat) (hx : a.eval x = .slice (some ⟨g, 0, none⟩) 2 2) (hgz : g = w.heap.size)
    (hlen : bs.length + 2 ≤ 140737488355328) (hbase : B ≤ w.heap.size)
    (h : ∀ v' w', OwnB w' B v' (bs ++ [b1, b2]) → Keep5 B w w' → K (a.put o.dst v') w') : Oper.wp Tryz.prog o a (w.alloc (.cells #[.int .u8 (b1.toNat : Int), .int .u8 (b2.toNat : Int)] 5)) K Q := by
  subst hgz
  obtain ⟨i, hi, hz0, hz1, hz2⟩ := info_parts info_u8
  have hown' : OwnB (w.alloc (.cells #[.int .u8 (b1.toNat : Int), .int .u8 (b2.toNat : Int)] 5)) B v bs := hown.kept ((Below.refl _ _).alloc (Nat.le_refl _) _)
  refine wp_append_own _ s x 52 ho B 5 i (.int .u8 0) 1 1 Tryz.underlying52 hi hz0 hz1 hz2 rfl (by decide) v bs.length (bcells bs) hs hown' ⟨w.heap.size, 0, none⟩ 2 2 (bcells [b1, b2]) hx rfl ?_ ?_ (by unfold maxLen; omega) (by omega) (by simp; omega) ?_
  · intro j u hj
    have hj' : j < 2 := by
      have := (List.getElem?_eq_some_iff.1 hj).1
      simpa [bcells] using this
    have e : (⟨w.heap.size, 0, none⟩ : Addr).add j = ⟨w.heap.size, j, none⟩ := by unfold Addr.add; split <;> simp_all
    rw [e]
    have h4 : j = 0 ∨ j = 1 := by omega
    rcases h4 with rfl | rfl <;> (simp [bcells] at hj; subst hj; simp [go_sem])
  · intro u hu
    simp [bcells] at hu
    rcases hu with rfl | rfl <;> rfl
  · intro v' w' h1 h2 _
    refine h v' w' ?_ ((Keep5.alloc w _ hbase).trans (keep_grown hown' (by simp; omega) h2))
    unfold OwnB
    rw [bcells_append, List.length_append]
    exact h1

set_option maxHeartbeats 4000000 in
theorem bytesText_any (s : ByteArray) (w : World) (hs : s.size ≤ 65536) :
    Calls Tryz.prog 70 #[.string s] w fun e w' => e = .returned (.string ⟨([120, 39] ++ hexL s.data.toList ++ [39]).toArray⟩) ∧ Below w.heap.size w w' := by
  have hmk : ∀ w3 : World, (Instr.makeSlice 52 (.int .i64 0) (.int .i64 (2 + 2 * (s.size : Int) + 1))).run Tryz.prog w3 = .ok (.slice (some ⟨w3.heap.size, 0, none⟩) 0 (2 + 2 * s.size + 1)) (w3.alloc (.cells (madeCells #[.int .u8 0] (2 + 2 * s.size + 1)) 5)) := fun w3 => by
    have h := mk_bytes (2 + 2 * s.size + 1) (by omega) w3
    rw [show ((2 + 2 * s.size + 1 : Nat) : Int) = 2 + 2 * (s.size : Int) + 1 by omega] at h
    exact h
  have hO : OwnB (w.alloc (.cells (madeCells #[.int .u8 0] (2 + 2 * s.size + 1)) 5)) w.heap.size (.slice (some ⟨w.heap.size, 0, none⟩) 0 (2 + 2 * s.size + 1)) [] :=
    ⟨rfl, .inr ⟨w.heap.size, 2 + 2 * s.size + 1, _, rfl, Nat.le_refl _, heap_alloc_new w _, Nat.zero_le _, by unfold maxLen; omega, by rw [size_madeCells]; simp, rfl⟩⟩
  have HA : Hid (Keep5 w.heap.size w (w.alloc (.cells (madeCells #[.int .u8 0] (2 + 2 * s.size + 1)) 5)) ∧ w.heap.size ≤ (w.alloc (.cells (madeCells #[.int .u8 0] (2 + 2 * s.size + 1)) 5)).heap.size) := ⟨Keep5.alloc w _ (Nat.le_refl _), by simp⟩
  have HO : Hid (OwnB _ _ _ _) := hO
  clear hO
  generalize 2 + 2 * s.size + 1 = N at *
  go_enter Tryz.func70, Tryz.ntmps70
  go_wp2_with (at_builtin; refine wpList_appStr _ rfl _ _ rfl w.heap.size _ _ rfl HO.out ⟨#[120, 39]⟩ rfl ?ll ?bb ?_)
  case ll => decide
  case bb => exact HA.out.2
  intro v1 w1 h1 h2
  have hz1 := h2.below.size
  have R1 : Hid (OwnB w1 w.heap.size v1 ([120, 39] ++ hexL (s.data.toList.take 0)) ∧ Keep5 w.heap.size w w1) := ⟨h1, HA.out.1.trans h2⟩
  clear h1 h2 HO HA hmk hz1
  go_wp2_with fail
  go_loopw [3, 15] (fun v' i wr => ∃ j : Nat, j ≤ s.size ∧ i = .int .i64 (j : Int) ∧ OwnB wr w.heap.size v' ([120, 39] ++ hexL (s.data.toList.take j)) ∧ Keep5 w.heap.size w wr) (fun _ i _ => s.size - (intOf i).toNat)
  case atStart => exact ⟨0, Nat.zero_le _, by go_num, R1.out.1, R1.out.2⟩
  case round =>
    obtain ⟨j, hj, rfl, hown, hkp⟩ := hrel
    have hz := hkp.below.size
    have hlen : ([120, 39] ++ hexL (s.data.toList.take j)).length ≤ 131074 := by
      have h1 := hexL_len (s.data.toList.take j)
      simp only [List.length_take, List.length_append, List.length_cons, List.length_nil] at h1 ⊢
      omega
    have HO : Hid (OwnB wr w.heap.size _ ([120, 39] ++ hexL (s.data.toList.take j)) ∧ Keep5 w.heap.size w wr ∧ ([120, 39] ++ hexL (s.data.toList.take j)).length ≤ 131074 ∧ w.heap.size ≤ wr.heap.size) := ⟨hown, hkp, hlen, hz⟩
    clear hown hkp hlen R1 hz
    by_cases hj0 : j = s.size
    · subst hj0
      go_wp2_with (at_builtin; refine wpList_appStr _ rfl _ _ rfl w.heap.size _ _ rfl HO.out.1 ⟨#[39]⟩ rfl ?ll ?bb ?_)
      case ll => have := HO.out.2.2.1; exact Nat.le_trans (Nat.add_le_add_right this _) (by decide)
      case bb => exact HO.out.2.2.2
      intro v2 w2 h1 h2
      have e : s.data.toList.take s.size = s.data.toList := List.take_of_length_le (by simp)
      rw [e] at h1
      have hcv := conv_own h1
      have HB : Hid (Below w.heap.size w w2) := (HO.out.2.1.trans h2).below
      clear h1 h2
      go_wp2_with fail
      go_ret
      exact ⟨rfl, HB.out⟩
    · have hj1 : j < s.size := by omega
      obtain ⟨c, hc⟩ : ∃ c, c = s[j] := ⟨_, rfl⟩
      have hlt : c.toNat < 256 := c.toNat_lt
      have hch : s[j] = c := hc.symm
      have HT : Hid (hexL (s.data.toList.take (j + 1)) = hexL (s.data.toList.take j) ++ [hexD (c.toNat / 16), hexD (c.toNat % 16)]) := by
        rw [hc]; exact hexL_take s j hj1
      clear hc
      have hi1 := fun w9 m hm => hex_idx (c.toNat / 16) (by omega) w9 m hm
      have hi2 := fun w9 m hm => hex_idx (c.toNat % 16) (by omega) w9 m hm
      have hix : ∀ w9 : World, (Instr.index 9 (.string s) (.int .i64 (j : Int))).run Tryz.prog w9 = .ok (.int .u8 (c.toNat : Int)) w9 := by
        intro w9
        go_simp
      go_wp2_with fail
      refine wp_region_L (fun _ => True) 13 (by kernel_rfl) ?_
      have HS0 : Hid True := trivial
      have hdr : Below wr.heap.size wr wr.drew := (Below.refl _ _).drew
      have HOd : Hid (OwnB wr.drew w.heap.size _ ([120, 39] ++ hexL (s.data.toList.take j)) ∧ Keep5 w.heap.size w wr.drew ∧ ([120, 39] ++ hexL (s.data.toList.take j)).length ≤ 131074 ∧ w.heap.size ≤ wr.drew.heap.size) := ⟨HO.out.1.kept hdr, HO.out.2.1.drew, HO.out.2.2.1, HO.out.2.2.2⟩
      clear HO hdr
      generalize wr.drew = wd at *
      refine wpL_take (v := ?_) 0 rfl (by kernel_rfl) (fun _ _ _ h => h) (by rfl) ?_ HS0.out ?_
      rotate_left
      focus
        intro w9 hw9
        clear hw9
        go_simp
        try with_reducible rfl
      try simp only [Act.put, List.setIfInBounds_toArray, List.set_cons_zero, List.set_cons_succ]
      refine wpL_take (v := ?_) 1 rfl (by kernel_rfl) (fun _ _ _ h => h) (by rfl) ?_ HS0.out ?_
      rotate_left
      focus
        intro w9 hw9
        clear hw9
        go_simp
        try with_reducible rfl
      try simp only [Act.put, List.setIfInBounds_toArray, List.set_cons_zero, List.set_cons_succ]
      refine wpL_take (v := ?_) 2 rfl (by kernel_rfl) (fun _ _ _ h => h) (by rfl) ?_ HS0.out ?_
      rotate_left
      focus
        intro w9 hw9
        clear hw9
        go_simp
        try with_reducible rfl
      try simp only [Act.put, List.setIfInBounds_toArray, List.set_cons_zero, List.set_cons_succ]
      refine wpL_take (v := ?_) 3 rfl (by kernel_rfl) (fun _ _ _ h => h) (by rfl) ?_ HS0.out ?_
      rotate_left
      focus
        intro w9 hw9
        clear hw9
        go_simp
        try with_reducible rfl
      try simp only [Act.put, List.setIfInBounds_toArray, List.set_cons_zero, List.set_cons_succ]
      refine wpL_take (v := .int .u8 ((c.toNat / 16 : Nat) : Int)) 4 rfl (by kernel_rfl) (fun _ _ _ h => h) (by rfl) ?_ HS0.out ?_
      focus
        intro w9 hw9
        clear hw9
        go_simp
      try simp only [Act.put, List.setIfInBounds_toArray, List.set_cons_zero, List.set_cons_succ]
      refine wpL_take (v := .int .u8 ((hexD (c.toNat / 16)).toNat : Int)) 5 rfl (by kernel_rfl) (fun _ _ _ h => h) (by rfl) ?_ HS0.out ?_
      focus
        intro w9 hw9
        clear hw9
        go_simp
      try simp only [Act.put, List.setIfInBounds_toArray, List.set_cons_zero, List.set_cons_succ]
      refine wpL_take (v := ?_) 6 rfl (by kernel_rfl) (fun _ _ _ h => h) (by rfl) ?_ HS0.out ?_
      rotate_left
      focus
        intro w9 hw9
        clear hw9
        go_simp
        try with_reducible rfl
      try simp only [Act.put, List.setIfInBounds_toArray, List.set_cons_zero, List.set_cons_succ]
      refine wpL_take (v := ?_) 7 rfl (by kernel_rfl) (fun _ _ _ h => h) (by rfl) ?_ HS0.out ?_
      rotate_left
      focus
        intro w9 hw9
        clear hw9
        go_simp
        try with_reducible rfl
      try simp only [Act.put, List.setIfInBounds_toArray, List.set_cons_zero, List.set_cons_succ]
      refine wpL_take (v := ?_) 8 rfl (by kernel_rfl) (fun _ _ _ h => h) (by rfl) ?_ HS0.out ?_
      rotate_left
      focus
        intro w9 hw9
        clear hw9
        go_simp
        try with_reducible rfl
      try simp only [Act.put, List.setIfInBounds_toArray, List.set_cons_zero, List.set_cons_succ]
      refine wpL_take (v := .int .u8 ((c.toNat % 16 : Nat) : Int)) 9 rfl (by kernel_rfl) (fun _ _ _ h => h) (by rfl) ?_ HS0.out ?_
      focus
        intro w9 hw9
        clear hw9
        go_simp
        exact and15 c.toNat hlt
      try simp only [Act.put, List.setIfInBounds_toArray, List.set_cons_zero, List.set_cons_succ]
      refine wpL_take (v := .int .u8 ((hexD (c.toNat % 16)).toNat : Int)) 10 rfl (by kernel_rfl) (fun _ _ _ h => h) (by rfl) ?_ HS0.out ?_
      focus
        intro w9 hw9
        clear hw9
        go_simp
      try simp only [Act.put, List.setIfInBounds_toArray, List.set_cons_zero, List.set_cons_succ]
      refine wpL_one 11 rfl (by kernel_rfl) (by rfl) ?_
      intro K hK
      go_simp
      refine hK.out _ _ (fun _ => trivial) ?_
      clear hK K
      try simp only [Act.put, List.setIfInBounds_toArray, List.set_cons_zero, List.set_cons_succ]
      refine wpL_one 12 rfl (by kernel_rfl) (by rfl) ?_
      intro K hK
      refine wp_app2 wd (.tmp 18) (.tmp 29) rfl w.heap.size u3 _ (by rfl) HOd.out.1 (hexD (c.toNat / 16)) (hexD (c.toNat % 16)) wd.heap.size (by rfl) rfl (Nat.le_trans (Nat.add_le_add_right HOd.out.2.2.1 _) (by decide)) HOd.out.2.2.2 ?_
      intro v2 w2 h1 h2
      refine hK.out _ _ (fun _ => trivial) ?_
      clear hK K
      try simp only [Act.put, List.setIfInBounds_toArray, List.set_cons_zero, List.set_cons_succ]
      refine wpL_one 13 rfl (by kernel_rfl) (by rfl) ?_
      intro K hK
      go_simp
      refine hK.out _ _ (fun _ => trivial) ?_
      clear hK K
      try simp only [Act.put, List.setIfInBounds_toArray, List.set_cons_zero, List.set_cons_succ]
      refine wpL_done (by kernel_rfl) ?_ _
      try simp only [NoPanic]
      have R2 : Hid (OwnB w2 w.heap.size v2 ([120, 39] ++ hexL (s.data.toList.take (j + 1))) ∧ Keep5 w.heap.size w w2) := ⟨by
        rw [HT.out, ← List.append_assoc]
        exact h1, HOd.out.2.1.trans h2⟩
      clear h1 h2 HOd
      go_wp2_with fail
      go_roundw
      case rel => exact ⟨j + 1, by omega, by go_num, R2.out.1, R2.out.2⟩
      case measure => simp [intOf]; omega

end Go.Proofs.YthbjheiogghjnaaGreatDoor

namespace Go.Proofs.YthbjheiogghjnaaGreatDoor
open Go.RowKit
set_option maxRecDepth 100000

theorem own_lit (w : World) (bs : List UInt8) (n : Nat) (h : bs.length = n) (hn : n ≤ 1000) : OwnB (w.alloc (.cells (bcells bs).toArray 5)) w.heap.size (.slice (some ⟨w.heap.size, 0, none⟩) n n) bs := by
  subst h
  have h9 := World.ownsRow_lit (e := 5) (size := 1) w (bcells bs).toArray bs.length (Nat.le_refl _) (by unfold maxLen; omega) (by simp [bcells])
  unfold OwnB
  simpa using h9

set_option maxHeartbeats 4000000 in
theorem rtext4_any (n : Int) (f : Nat) (s : ByteArray) (w : World) (hs : s.size ≤ 65536)
    (hck : ∀ w1 : World, Below w.heap.size w w1 → Calls Tryz.prog 35 #[.agg #[.int .i64 4, .int .i64 n, .float .f64 f, .string s]] w1 fun e w' => e = .returned (.int .i64 0) ∧ Below w1.heap.size w1 w') :
    Calls Tryz.prog 16 #[.agg #[.int .i64 4, .int .i64 n, .float .f64 f, .string s]] w fun e w' => e = .returned (.tuple #[.string ⟨([39] ++ qesc s.data.toList ++ [39]).toArray⟩, .int .i64 0]) ∧ Below w.heap.size w w' := by
  have HC : Hid (∀ w1 : World, Below w.heap.size w w1 → Calls Tryz.prog 35 #[.agg #[.int .i64 4, .int .i64 n, .float .f64 f, .string s]] w1 fun e w' => e = .returned (.int .i64 0) ∧ Below w1.heap.size w1 w') := hck
  have HX : Hid (C1 w.heap.size 4 n f s (w.alloc (.cells #[.int .i64 4, .int .i64 n, .float .f64 f, .string s] 38))) := c1_new w 4 n f s
  have HA : Hid (Below w.heap.size w (w.alloc (.cells #[.int .i64 4, .int .i64 n, .float .f64 f, .string s] 38))) := (Below.refl _ _).alloc (Nat.le_refl _) _
  have hz0 : (w.alloc (.cells #[.int .i64 4, .int .i64 n, .float .f64 f, .string s] 38)).heap.size = w.heap.size + 1 := by simp
  have HZ : Hid ((w.alloc (.cells #[.int .i64 4, .int .i64 n, .float .f64 f, .string s] 38)).heap.size = w.heap.size + 1) := hz0
  clear hz0
  clear hck
  go_enter Tryz.func16, Tryz.ntmps16
  go_wp2_with fail
  generalize w.alloc (.cells #[.int .i64 4, .int .i64 n, .float .f64 f, .string s] 38) = w1 at *
  refine (HC.out _ HA.out).mono ?_
  rintro e w2 ⟨rfl, hb2⟩
  have h9 := hb2.size
  have HX2 : Hid (C1 w.heap.size 4 n f s w2 ∧ Below w.heap.size w w2 ∧ w.heap.size + 1 ≤ w2.heap.size) := ⟨c1_keep hb2 (by rw [HZ.out]; omega) HX.out, HA.out.trans (hb2.mono HA.out.size), by rw [← HZ.out]; exact h9⟩
  obtain ⟨x0, x1, x2, x3⟩ := HX2.out.1
  clear hb2 h9 HC HX HA HZ
  have HL : Hid (OwnB (w2.alloc (.cells #[.int .u8 39] 5)) w2.heap.size (.slice (some ⟨w2.heap.size, 0, none⟩) 1 1) [39]) := own_lit w2 [39] 1 rfl (by decide)
  go_wp2_with fail
  go_loopw [5, 6] (fun v' i wr => ∃ j : Nat, j ≤ s.size ∧ i = .int .i64 (j : Int) ∧ OwnB wr w2.heap.size v' ([39] ++ qesc (s.data.toList.take j)) ∧ Keep5 w2.heap.size w2 wr) (fun _ i _ => s.size - (intOf i).toNat)
  case atStart => exact ⟨0, Nat.zero_le _, by go_num, HL.out, Keep5.alloc w2 _ (Nat.le_refl _)⟩
  case round =>
    clear HL
    obtain ⟨j, hj, rfl, hown, hkp⟩ := hrel
    have hz := hkp.below.size
    have hlen : ([39] ++ qesc (s.data.toList.take j)).length ≤ 131074 := by
      have h1 := qesc_len (s.data.toList.take j)
      simp only [List.length_take, List.length_append, List.length_cons, List.length_nil] at h1 ⊢
      omega
    have HO : Hid (OwnB wr w2.heap.size _ ([39] ++ qesc (s.data.toList.take j)) ∧ Keep5 w2.heap.size w2 wr ∧ ([39] ++ qesc (s.data.toList.take j)).length ≤ 131074 ∧ w2.heap.size ≤ wr.heap.size) := ⟨hown, hkp, hlen, hz⟩
    have y3 := (hkp.below.cell (p := ⟨w.heap.size, 3, none⟩) (show w.heap.size < w2.heap.size by have := HX2.out.2.2; omega)).trans x3
    clear hown hkp hlen hz x0 x1 x2 x3
    by_cases hj0 : j = s.size
    · subst hj0
      go_wp2_with (at_builtin; refine wpList_app1 _ rfl _ _ rfl w2.heap.size _ _ rfl HO.out.1 39 _ ?zz rfl ?ll ?bb ?_)
      case zz => rfl
      case ll => have := HO.out.2.2.1; exact Nat.le_trans (Nat.add_le_add_right this _) (by decide)
      case bb => exact HO.out.2.2.2
      intro v2 w3 h1 h2
      have e : s.data.toList.take s.size = s.data.toList := List.take_of_length_le (by simp)
      rw [e] at h1
      have hcv := conv_own h1
      have HB : Hid (Below w.heap.size w w3) := HX2.out.2.1.trans ((HO.out.2.1.trans h2).below.mono (by have := HX2.out.2.2; omega))
      clear h1 h2
      go_wp2_with fail
      go_ret2
      exact ⟨rfl, HB.out⟩
    · have hj1 : j < s.size := by omega
      obtain ⟨c, hc⟩ : ∃ c, c = s[j] := ⟨_, rfl⟩
      have hch : s[j] = c := hc.symm
      have ht : qesc (s.data.toList.take (j + 1)) = qesc (s.data.toList.take j) ++ (if c = 39 then [39, 39] else [c]) := by
        rw [hc]; exact qesc_take s j hj1
      have HT : Hid (qesc (s.data.toList.take (j + 1)) = qesc (s.data.toList.take j) ++ (if c = 39 then [39, 39] else [c])) := ht
      clear ht
      clear hc
      by_cases hc : c = 39
      · have hc0 : (c.toNat : Int) = 39 := by rw [hc]; rfl
        have ht2 : qesc (s.data.toList.take (j + 1)) = qesc (s.data.toList.take j) ++ [39, 39] := by rw [HT.out, if_pos hc]
        have HT2 : Hid (qesc (s.data.toList.take (j + 1)) = qesc (s.data.toList.take j) ++ [39, 39]) := ht2
        clear ht2
        have hch2 : s[j] = 39 := by rw [hch, hc]
        clear HT hc hch
        go_wp2_with (first | (at_builtin; refine wpList_app1 _ rfl (.tmp 47) _ rfl w2.heap.size _ _ rfl HO.out.1 39 _ ?zz1 rfl ?ll1 ?bb1 ?_))
        case zz1 => rfl
        case ll1 => have := HO.out.2.2.1; exact Nat.le_trans (Nat.add_le_add_right this _) (by decide)
        case bb1 => exact HO.out.2.2.2
        intro v1 w3 h1 h2
        have hz1 := h2.below.size
        have R1 : Hid (OwnB w3 w2.heap.size v1 ([39] ++ qesc (s.data.toList.take j) ++ [39]) ∧ Keep5 w2.heap.size w2 w3 ∧ w2.heap.size ≤ w3.heap.size) := ⟨h1, HO.out.2.1.trans h2, (HO.out.2.1.trans h2).below.size⟩
        have y3' := (R1.out.2.1.below.cell (p := ⟨w.heap.size, 3, none⟩) (show w.heap.size < w2.heap.size by have := HX2.out.2.2; omega)).trans (HX2.out.1).2.2.2
        clear h1 h2 y3 hz1
        go_wp2_with (first | (at_builtin; refine wpList_app1 _ rfl (.tmp 50) _ rfl w2.heap.size _ _ rfl R1.out.1 39 _ ?zz2 rfl ?ll2 ?bb2 ?_))
        case zz2 => first | rfl | (rw [hch2]; rfl)
        case ll2 => have := HO.out.2.2.1; simp only [List.length_append, List.length_cons, List.length_nil] at this ⊢; omega
        case bb2 => exact R1.out.2.2
        intro v2 w4 h1 h2
        have R2 : Hid (OwnB w4 w2.heap.size v2 ([39] ++ qesc (s.data.toList.take (j + 1))) ∧ Keep5 w2.heap.size w2 w4) := ⟨by
          rw [HT2.out]
          simpa using h1, R1.out.2.1.trans h2⟩
        clear h1 h2
        go_wp2_with fail
        go_roundw
        case rel => exact ⟨j + 1, by omega, by go_num, R2.out.1, R2.out.2⟩
        case measure => simp [intOf]; omega
      · have hc0 : ((c.toNat : Int) == 39) = false := by
          rw [beq_eq_false_iff_ne]
          intro h
          have h3 : c.toNat = (39 : UInt8).toNat := Int.ofNat_inj.1 h
          exact hc (UInt8.toNat_inj.1 h3)
        have ht2 : qesc (s.data.toList.take (j + 1)) = qesc (s.data.toList.take j) ++ [c] := by rw [HT.out, if_neg hc]
        have HT2 : Hid (qesc (s.data.toList.take (j + 1)) = qesc (s.data.toList.take j) ++ [c]) := ht2
        clear ht2
        clear HT hc
        go_wp2_with (first | (at_builtin; refine wpList_app1 _ rfl (.tmp 50) _ rfl w2.heap.size _ _ rfl HO.out.1 c _ ?zz1 rfl ?ll1 ?bb1 ?_))
        case zz1 => first | rfl | rw [hch]
        case ll1 => have := HO.out.2.2.1; exact Nat.le_trans (Nat.add_le_add_right this _) (by decide)
        case bb1 => exact HO.out.2.2.2
        intro v1 w3 h1 h2
        have R2 : Hid (OwnB w3 w2.heap.size v1 ([39] ++ qesc (s.data.toList.take (j + 1))) ∧ Keep5 w2.heap.size w2 w3) := ⟨by
          rw [HT2.out]
          simpa using h1, HO.out.2.1.trans h2⟩
        clear h1 h2
        go_wp2_with fail
        go_roundw
        case rel => exact ⟨j + 1, by omega, by go_num, R2.out.1, R2.out.2⟩
        case measure => simp [intOf]; omega

set_option maxHeartbeats 4000000 in
theorem rtext5_any (n : Int) (f : Nat) (s : ByteArray) (w : World) (hs : s.size ≤ 65536)
    (hck : ∀ w1 : World, Below w.heap.size w w1 → Calls Tryz.prog 35 #[.agg #[.int .i64 5, .int .i64 n, .float .f64 f, .string s]] w1 fun e w' => e = .returned (.int .i64 0) ∧ Below w1.heap.size w1 w') :
    Calls Tryz.prog 16 #[.agg #[.int .i64 5, .int .i64 n, .float .f64 f, .string s]] w fun e w' => e = .returned (.tuple #[.string ⟨([120, 39] ++ hexL s.data.toList ++ [39]).toArray⟩, .int .i64 0]) ∧ Below w.heap.size w w' := by
  have HC : Hid (∀ w1 : World, Below w.heap.size w w1 → Calls Tryz.prog 35 #[.agg #[.int .i64 5, .int .i64 n, .float .f64 f, .string s]] w1 fun e w' => e = .returned (.int .i64 0) ∧ Below w1.heap.size w1 w') := hck
  have HX : Hid (C1 w.heap.size 5 n f s (w.alloc (.cells #[.int .i64 5, .int .i64 n, .float .f64 f, .string s] 38))) := c1_new w 5 n f s
  have HA : Hid (Below w.heap.size w (w.alloc (.cells #[.int .i64 5, .int .i64 n, .float .f64 f, .string s] 38))) := (Below.refl _ _).alloc (Nat.le_refl _) _
  have hz0 : (w.alloc (.cells #[.int .i64 5, .int .i64 n, .float .f64 f, .string s] 38)).heap.size = w.heap.size + 1 := by simp
  have HZ : Hid ((w.alloc (.cells #[.int .i64 5, .int .i64 n, .float .f64 f, .string s] 38)).heap.size = w.heap.size + 1) := hz0
  clear hz0 hck
  go_enter Tryz.func16, Tryz.ntmps16
  go_wp2_with fail
  generalize w.alloc (.cells #[.int .i64 5, .int .i64 n, .float .f64 f, .string s] 38) = w1 at *
  refine (HC.out _ HA.out).mono ?_
  rintro e w2 ⟨rfl, hb2⟩
  have h9 := hb2.size
  have HX2 : Hid (C1 w.heap.size 5 n f s w2 ∧ Below w.heap.size w w2 ∧ w.heap.size + 1 ≤ w2.heap.size) := ⟨c1_keep hb2 (by rw [HZ.out]; omega) HX.out, HA.out.trans (hb2.mono HA.out.size), by rw [← HZ.out]; exact h9⟩
  obtain ⟨x0, x1, x2, x3⟩ := HX2.out.1
  clear hb2 h9 HC HX HA HZ
  have HL : Hid (OwnB (w2.alloc (.cells #[.int .u8 120, .int .u8 39] 5)) w2.heap.size (.slice (some ⟨w2.heap.size, 0, none⟩) 2 2) [120, 39]) := own_lit w2 [120, 39] 2 rfl (by decide)
  go_wp2_with fail
  go_loopw [8, 9] (fun v' i wr => ∃ j : Nat, j ≤ s.size ∧ i = .int .i64 (j : Int) ∧ OwnB wr w2.heap.size v' ([120, 39] ++ hexL (s.data.toList.take j)) ∧ Keep5 w2.heap.size w2 wr) (fun _ i _ => s.size - (intOf i).toNat)
  case atStart => exact ⟨0, Nat.zero_le _, by go_num, HL.out, Keep5.alloc w2 _ (Nat.le_refl _)⟩
  case round =>
    clear HL
    obtain ⟨j, hj, rfl, hown, hkp⟩ := hrel
    have hz := hkp.below.size
    have hlen : ([120, 39] ++ hexL (s.data.toList.take j)).length ≤ 131074 := by
      have h1 := hexL_len (s.data.toList.take j)
      simp only [List.length_take, List.length_append, List.length_cons, List.length_nil] at h1 ⊢
      omega
    have HO : Hid (OwnB wr w2.heap.size _ ([120, 39] ++ hexL (s.data.toList.take j)) ∧ Keep5 w2.heap.size w2 wr ∧ ([120, 39] ++ hexL (s.data.toList.take j)).length ≤ 131074 ∧ w2.heap.size ≤ wr.heap.size) := ⟨hown, hkp, hlen, hz⟩
    have y3 := (hkp.below.cell (p := ⟨w.heap.size, 3, none⟩) (show w.heap.size < w2.heap.size by have := HX2.out.2.2; omega)).trans x3
    clear hown hkp hlen hz x0 x1 x2 x3
    by_cases hj0 : j = s.size
    · subst hj0
      go_wp2_with (at_builtin; refine wpList_app1 _ rfl _ _ rfl w2.heap.size _ _ rfl HO.out.1 39 _ ?zz rfl ?ll ?bb ?_)
      case zz => rfl
      case ll => have := HO.out.2.2.1; exact Nat.le_trans (Nat.add_le_add_right this _) (by decide)
      case bb => exact HO.out.2.2.2
      intro v2 w3 h1 h2
      have e : s.data.toList.take s.size = s.data.toList := List.take_of_length_le (by simp)
      rw [e] at h1
      have hcv := conv_own h1
      have HB : Hid (Below w.heap.size w w3) := HX2.out.2.1.trans ((HO.out.2.1.trans h2).below.mono (by have := HX2.out.2.2; omega))
      clear h1 h2
      go_wp2_with fail
      go_ret2
      exact ⟨rfl, HB.out⟩
    · have hj1 : j < s.size := by omega
      obtain ⟨c, hc⟩ : ∃ c, c = s[j] := ⟨_, rfl⟩
      have hlt : c.toNat < 256 := c.toNat_lt
      have hch : s[j] = c := hc.symm
      have ht : hexL (s.data.toList.take (j + 1)) = hexL (s.data.toList.take j) ++ [hexD (c.toNat / 16), hexD (c.toNat % 16)] := by
        rw [hc]; exact hexL_take s j hj1
      have HT : Hid (hexL (s.data.toList.take (j + 1)) = hexL (s.data.toList.take j) ++ [hexD (c.toNat / 16), hexD (c.toNat % 16)]) := ht
      clear hc ht
      have hi1 := fun w9 m hm => hex_idx (c.toNat / 16) (by omega) w9 m hm
      have hi2 := fun w9 m hm => hex_idx (c.toNat % 16) (by omega) w9 m hm
      have hix : ∀ w9 : World, (Instr.index 9 (.string s) (.int .i64 (j : Int))).run Tryz.prog w9 = .ok (.int .u8 (c.toNat : Int)) w9 := by
        intro w9
        go_simp
      go_wp2_with fail
      refine wp_region_L (fun w' => w'.cell? ⟨w.heap.size, 3, none⟩ = some (.string s)) 17 (by kernel_rfl) ?_
      have hdr : Below wr.heap.size wr wr.drew := (Below.refl _ _).drew
      have HS0 : Hid (wr.drew.cell? ⟨w.heap.size, 3, none⟩ = some (.string s)) := y3
      have HOd : Hid (OwnB wr.drew w2.heap.size _ ([120, 39] ++ hexL (s.data.toList.take j)) ∧ Keep5 w2.heap.size w2 wr.drew ∧ ([120, 39] ++ hexL (s.data.toList.take j)).length ≤ 131074 ∧ w2.heap.size ≤ wr.drew.heap.size) := ⟨HO.out.1.kept hdr, HO.out.2.1.drew, HO.out.2.2.1, HO.out.2.2.2⟩
      clear HO hdr y3
      generalize wr.drew = wd at *
      refine wpL_take (v := ?_) 0 rfl (by kernel_rfl) (fun _ _ _ h => h) (by rfl) ?_ HS0.out ?_
      rotate_left
      focus
        intro w9 hw9
        have k0 := hw9
        go_simp
        try with_reducible rfl
      try simp only [Act.put, List.setIfInBounds_toArray, List.set_cons_zero, List.set_cons_succ]
      refine wpL_take (v := ?_) 1 rfl (by kernel_rfl) (fun _ _ _ h => h) (by rfl) ?_ HS0.out ?_
      rotate_left
      focus
        intro w9 hw9
        have k0 := hw9
        go_simp
        try with_reducible rfl
      try simp only [Act.put, List.setIfInBounds_toArray, List.set_cons_zero, List.set_cons_succ]
      refine wpL_take (v := ?_) 2 rfl (by kernel_rfl) (fun _ _ _ h => h) (by rfl) ?_ HS0.out ?_
      rotate_left
      focus
        intro w9 hw9
        have k0 := hw9
        go_simp
        try with_reducible rfl
      try simp only [Act.put, List.setIfInBounds_toArray, List.set_cons_zero, List.set_cons_succ]
      refine wpL_take (v := ?_) 3 rfl (by kernel_rfl) (fun _ _ _ h => h) (by rfl) ?_ HS0.out ?_
      rotate_left
      focus
        intro w9 hw9
        have k0 := hw9
        go_simp
        try with_reducible rfl
      try simp only [Act.put, List.setIfInBounds_toArray, List.set_cons_zero, List.set_cons_succ]
      refine wpL_take (v := ?_) 4 rfl (by kernel_rfl) (fun _ _ _ h => h) (by rfl) ?_ HS0.out ?_
      rotate_left
      focus
        intro w9 hw9
        have k0 := hw9
        go_simp
        try with_reducible rfl
      try simp only [Act.put, List.setIfInBounds_toArray, List.set_cons_zero, List.set_cons_succ]
      refine wpL_take (v := ?_) 5 rfl (by kernel_rfl) (fun _ _ _ h => h) (by rfl) ?_ HS0.out ?_
      rotate_left
      focus
        intro w9 hw9
        have k0 := hw9
        go_simp
        try with_reducible rfl
      try simp only [Act.put, List.setIfInBounds_toArray, List.set_cons_zero, List.set_cons_succ]
      refine wpL_take (v := .int .u8 ((c.toNat / 16 : Nat) : Int)) 6 rfl (by kernel_rfl) (fun _ _ _ h => h) (by rfl) ?_ HS0.out ?_
      focus
        intro w9 hw9
        have k0 := hw9
        go_simp
        rw [IntKind.wrap_u8]
        omega
      try simp only [Act.put, List.setIfInBounds_toArray, List.set_cons_zero, List.set_cons_succ]
      refine wpL_take (v := .int .u8 ((hexD (c.toNat / 16)).toNat : Int)) 7 rfl (by kernel_rfl) (fun _ _ _ h => h) (by rfl) ?_ HS0.out ?_
      focus
        intro w9 hw9
        have k0 := hw9
        go_simp
      try simp only [Act.put, List.setIfInBounds_toArray, List.set_cons_zero, List.set_cons_succ]
      refine wpL_take (v := ?_) 8 rfl (by kernel_rfl) (fun _ _ _ h => h) (by rfl) ?_ HS0.out ?_
      rotate_left
      focus
        intro w9 hw9
        have k0 := hw9
        go_simp
        try with_reducible rfl
      try simp only [Act.put, List.setIfInBounds_toArray, List.set_cons_zero, List.set_cons_succ]
      refine wpL_take (v := ?_) 9 rfl (by kernel_rfl) (fun _ _ _ h => h) (by rfl) ?_ HS0.out ?_
      rotate_left
      focus
        intro w9 hw9
        have k0 := hw9
        go_simp
        try with_reducible rfl
      try simp only [Act.put, List.setIfInBounds_toArray, List.set_cons_zero, List.set_cons_succ]
      refine wpL_take (v := ?_) 10 rfl (by kernel_rfl) (fun _ _ _ h => h) (by rfl) ?_ HS0.out ?_
      rotate_left
      focus
        intro w9 hw9
        have k0 := hw9
        go_simp
        try with_reducible rfl
      try simp only [Act.put, List.setIfInBounds_toArray, List.set_cons_zero, List.set_cons_succ]
      refine wpL_take (v := ?_) 11 rfl (by kernel_rfl) (fun _ _ _ h => h) (by rfl) ?_ HS0.out ?_
      rotate_left
      focus
        intro w9 hw9
        have k0 := hw9
        go_simp
        try with_reducible rfl
      try simp only [Act.put, List.setIfInBounds_toArray, List.set_cons_zero, List.set_cons_succ]
      refine wpL_take (v := ?_) 12 rfl (by kernel_rfl) (fun _ _ _ h => h) (by rfl) ?_ HS0.out ?_
      rotate_left
      focus
        intro w9 hw9
        have k0 := hw9
        go_simp
        try with_reducible rfl
      try simp only [Act.put, List.setIfInBounds_toArray, List.set_cons_zero, List.set_cons_succ]
      refine wpL_take (v := .int .u8 ((c.toNat % 16 : Nat) : Int)) 13 rfl (by kernel_rfl) (fun _ _ _ h => h) (by rfl) ?_ HS0.out ?_
      focus
        intro w9 hw9
        have k0 := hw9
        go_simp
        exact Int.tmod_eq_emod_of_nonneg (by omega)
      try simp only [Act.put, List.setIfInBounds_toArray, List.set_cons_zero, List.set_cons_succ]
      refine wpL_take (v := .int .u8 ((hexD (c.toNat % 16)).toNat : Int)) 14 rfl (by kernel_rfl) (fun _ _ _ h => h) (by rfl) ?_ HS0.out ?_
      focus
        intro w9 hw9
        have k0 := hw9
        go_simp
      try simp only [Act.put, List.setIfInBounds_toArray, List.set_cons_zero, List.set_cons_succ]
      have HS1 : Hid ((wd.alloc (.cells #[.int .u8 ((hexD (c.toNat / 16)).toNat : Int), .int .u8 ((hexD (c.toNat % 16)).toNat : Int)] 5)).cell? ⟨w.heap.size, 3, none⟩ = some (.string s)) := (((Below.refl wd.heap.size wd).alloc (Nat.le_refl _) _).cell (p := ⟨w.heap.size, 3, none⟩) (show w.heap.size < wd.heap.size by have := HX2.out.2.2; have := HOd.out.2.2.2; omega)).trans HS0.out
      refine wpL_one 15 rfl (by kernel_rfl) (by rfl) ?_
      intro K hK
      go_simp
      refine hK.out _ _ (fun _ => HS1.out) ?_
      clear hK K
      try simp only [Act.put, List.setIfInBounds_toArray, List.set_cons_zero, List.set_cons_succ]
      refine wpL_one 16 rfl (by kernel_rfl) (by rfl) ?_
      intro K hK
      refine wp_app2 wd (.tmp 71) (.tmp 86) rfl w2.heap.size u8 _ (by rfl) HOd.out.1 (hexD (c.toNat / 16)) (hexD (c.toNat % 16)) wd.heap.size (by rfl) rfl (Nat.le_trans (Nat.add_le_add_right HOd.out.2.2.1 _) (by decide)) HOd.out.2.2.2 ?_
      intro v2 w3 h1 h2
      have hK3 : Keep5 w2.heap.size w2 w3 := HOd.out.2.1.trans h2
      have y4 : w3.cell? ⟨w.heap.size, 3, none⟩ = some (.string s) := (hK3.below.cell (p := ⟨w.heap.size, 3, none⟩) (show w.heap.size < w2.heap.size by have := HX2.out.2.2; omega)).trans (HX2.out.1).2.2.2
      refine hK.out _ _ (fun _ => y4) ?_
      clear hK K
      try simp only [Act.put, List.setIfInBounds_toArray, List.set_cons_zero, List.set_cons_succ]
      refine wpL_one 17 rfl (by kernel_rfl) (by rfl) ?_
      intro K hK
      go_simp
      refine hK.out _ _ (fun _ => y4) ?_
      clear hK K
      try simp only [Act.put, List.setIfInBounds_toArray, List.set_cons_zero, List.set_cons_succ]
      refine wpL_done (by kernel_rfl) ?_ _
      try simp only [NoPanic]
      have R2 : Hid (OwnB w3 w2.heap.size v2 ([120, 39] ++ hexL (s.data.toList.take (j + 1))) ∧ Keep5 w2.heap.size w2 w3) := ⟨by
        rw [HT.out, ← List.append_assoc]
        exact h1, hK3⟩
      clear h1 h2 hK3 HOd HS0 HS1
      go_wp2_with fail
      go_roundw
      case rel => exact ⟨j + 1, by omega, by go_num, R2.out.1, R2.out.2⟩
      case measure => simp [intOf]; omega

end Go.Proofs.YthbjheiogghjnaaGreatDoor
