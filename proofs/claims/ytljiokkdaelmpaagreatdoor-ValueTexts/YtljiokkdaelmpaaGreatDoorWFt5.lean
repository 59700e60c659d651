/- Text of any value, on both sides: what may not be is refused. -/
import Derived.Test.YtljiokkdaelmpaaGreatDoorWFt4
namespace Go.Proofs.YtljiokkdaelmpaaGreatDoor
open Go.RowKit
set_option maxRecDepth 100000

theorem chkV_ok {k n : Int} {f : Nat} {s : ByteArray} (h : chkV k n f s = 0) : 0 ≤ k ∧ k ≤ 5 ∧ s.size ≤ 65536 := by
  unfold chkV at h
  split at h
  · rename_i h1
    simp only [Bool.and_eq_true, kindB, decide_eq_true_eq] at h1
    split at h
    · omega
    · rename_i h2
      exact ⟨h1.1.1.1.1, h1.1.1.1.2, by omega⟩
  · omega
theorem checkE {T : Nat → Int × Int} {w : World} (hE : TxE T w) (k n : Int) (f : Nat) (s : ByteArray) (hs : s.size ≤ maxLen) :
    Calls Tryz.prog 12 #[.agg #[.int .i64 k, .int .i64 n, .float .f64 f, .string s]] w fun e w' => e = .returned (.int .i64 (chkV k n f s)) ∧ Below w.heap.size w w' :=
  check_any k n f s w hs (fun w1 h1 => str_any k n f s w1 (fun w2 h2 => valid_any s w2 (by unfold maxLen at hs; omega) ((hE.on h1).on h2).ut))
theorem rcheckE {T : Nat → Int × Int} {w : World} (hE : TxE T w) (k n : Int) (f : Nat) (s : ByteArray) (hs : s.size ≤ maxLen) :
    Calls Tryz.prog 19 #[.agg #[.int .i64 k, .int .i64 n, .float .f64 f, .string s]] w fun e w' => e = .returned (.int .i64 (chkV k n f s)) ∧ Below w.heap.size w w' :=
  rcheck_any k n f s w hs (fun w2 h2 => valid_any s w2 (by unfold maxLen at hs; omega) (hE.on h2).ut)
/-- the text that is told -/
def txtO (F : List UInt8) (k n : Int) (f : Nat) (s : ByteArray) : ByteArray := if chkV k n f s = 0 then ⟨(txtV F k n s).toArray⟩ else ⟨#[]⟩

set_option maxHeartbeats 4000000 in
theorem text_any (T : Nat → Int × Int) (F : List UInt8) (k n : Int) (f : Nat) (s : ByteArray) (w : World) (hn0 : -9223372036854775808 ≤ n) (hn1 : n ≤ 9223372036854775807) (hs : s.size ≤ maxLen) (hE : TxE T w) (hF : ∀ w, FlE T w → FlB f F w) :
    Calls Tryz.prog 9 #[.agg #[.int .i64 k, .int .i64 n, .float .f64 f, .string s]] w fun e w' => e = .returned (.tuple #[.string (txtO F k n f s), .int .i64 (chkV k n f s)]) ∧ Below w.heap.size w w' := by
  have hal : Below w.heap.size w (w.alloc (.cells #[.int .i64 k, .int .i64 n, .float .f64 f, .string s] 24)) := (Below.refl _ _).alloc (Nat.le_refl _) _
  have hz : (w.alloc (.cells #[.int .i64 k, .int .i64 n, .float .f64 f, .string s] 24)).heap.size = w.heap.size + 1 := by simp
  have CK : Hid (Calls Tryz.prog 12 #[.agg #[.int .i64 k, .int .i64 n, .float .f64 f, .string s]] (w.alloc (.cells #[.int .i64 k, .int .i64 n, .float .f64 f, .string s] 24)) fun e w' => e = .returned (.int .i64 (chkV k n f s)) ∧ Below (w.alloc (.cells #[.int .i64 k, .int .i64 n, .float .f64 f, .string s] 24)).heap.size (w.alloc (.cells #[.int .i64 k, .int .i64 n, .float .f64 f, .string s] 24)) w') := checkE (hE.on hal) k n f s hs
  have HX : Hid (C1 w.heap.size k n f s (w.alloc (.cells #[.int .i64 k, .int .i64 n, .float .f64 f, .string s] 24)) ∧ Below w.heap.size w (w.alloc (.cells #[.int .i64 k, .int .i64 n, .float .f64 f, .string s] 24)) ∧ (w.alloc (.cells #[.int .i64 k, .int .i64 n, .float .f64 f, .string s] 24)).heap.size = w.heap.size + 1 ∧ TxE T (w.alloc (.cells #[.int .i64 k, .int .i64 n, .float .f64 f, .string s] 24))) := ⟨c1_new w k n f s, hal, hz, hE.on hal⟩
  have C2 : Hid (∀ w1, TxE T w1 → chkV k n f s = 0 → Calls Tryz.prog 18 #[.agg #[.int .i64 k, .int .i64 n, .float .f64 f, .string s]] w1 fun e w' => e = .returned (.string ⟨(txtV F k n s).toArray⟩) ∧ Below w1.heap.size w1 w') := fun w1 h1 h0 => textFrom_any T F k n f s w1 (chkV_ok h0).1 (chkV_ok h0).2.1 hn0 hn1 (chkV_ok h0).2.2 h1 hF
  clear hF hE hal hz hn0 hn1 hs
  unfold txtO
  generalize (⟨(txtV F k n s).toArray⟩ : ByteArray) = r at *
  generalize chkV k n f s = e0 at *
  by_cases h0 : e0 = 0
  · subst h0
    rw [if_pos rfl]
    go_enter Tryz.func9, Tryz.ntmps9
    go_wp2_with fail
    generalize w.alloc (.cells #[.int .i64 k, .int .i64 n, .float .f64 f, .string s] 24) = w1 at *
    refine CK.out.mono ?_
    rintro e w2 ⟨rfl, hb2⟩
    have HX2 : Hid (C1 w.heap.size k n f s w2 ∧ Below w.heap.size w w2 ∧ w.heap.size + 1 ≤ w2.heap.size ∧ TxE T w2) := ⟨c1_keep hb2 (by have := HX.out.2.2.1; omega) HX.out.1, HX.out.2.1.trans (hb2.mono HX.out.2.1.size), by have := HX.out.2.2.1; have := hb2.size; omega, HX.out.2.2.2.on hb2⟩
    obtain ⟨x0, x1, x2, x3⟩ := HX2.out.1
    clear hb2 CK HX
    go_wp2_with fail
    refine (C2.out _ HX2.out.2.2.2 (by first | rfl | trivial)).mono ?_
    rintro e w3 ⟨rfl, hb3⟩
    have HB : Hid (Below w.heap.size w w3) := HX2.out.2.1.trans (hb3.mono HX2.out.2.1.size)
    clear hb3 x0 x1 x2 x3
    go_wp2_with fail
    go_ret2
    exact ⟨rfl, HB.out⟩
  · rw [if_neg h0]
    have h1 : (e0 != 0) = true := by simp [h0]
    clear C2 h0
    go_enter Tryz.func9, Tryz.ntmps9
    go_wp2_with fail
    generalize w.alloc (.cells #[.int .i64 k, .int .i64 n, .float .f64 f, .string s] 24) = w1 at *
    refine CK.out.mono ?_
    rintro e w2 ⟨rfl, hb2⟩
    have HB : Hid (Below w.heap.size w w2) := HX.out.2.1.trans (hb2.mono HX.out.2.1.size)
    clear hb2 CK HX
    go_wp2_with fail
    go_ret2
    exact ⟨rfl, HB.out⟩

set_option maxHeartbeats 4000000 in
theorem rtext0_any (T : Nat → Int × Int) (F : List UInt8) (n : Int) (f : Nat) (s : ByteArray) (w : World) (_hn0 : -9223372036854775808 ≤ n) (_hn1 : n ≤ 9223372036854775807) (hE : TxE T w) (_hF : ∀ w, FlE T w → FlB f F w)
    (hck : ∀ w1 : World, Below w.heap.size w w1 → Calls Tryz.prog 19 #[.agg #[.int .i64 0, .int .i64 n, .float .f64 f, .string s]] w1 fun e w' => e = .returned (.int .i64 0) ∧ Below w1.heap.size w1 w') :
    Calls Tryz.prog 10 #[.agg #[.int .i64 0, .int .i64 n, .float .f64 f, .string s]] w fun e w' => e = .returned (.tuple #[.string ⟨([110, 117, 108, 108] : List UInt8).toArray⟩, .int .i64 0]) ∧ Below w.heap.size w w' := by
  have hal : Below w.heap.size w (w.alloc (.cells #[.int .i64 0, .int .i64 n, .float .f64 f, .string s] 24)) := (Below.refl _ _).alloc (Nat.le_refl _) _
  have hz : (w.alloc (.cells #[.int .i64 0, .int .i64 n, .float .f64 f, .string s] 24)).heap.size = w.heap.size + 1 := by simp
  have CK : Hid (Calls Tryz.prog 19 #[.agg #[.int .i64 0, .int .i64 n, .float .f64 f, .string s]] (w.alloc (.cells #[.int .i64 0, .int .i64 n, .float .f64 f, .string s] 24)) fun e w' => e = .returned (.int .i64 0) ∧ Below (w.alloc (.cells #[.int .i64 0, .int .i64 n, .float .f64 f, .string s] 24)).heap.size (w.alloc (.cells #[.int .i64 0, .int .i64 n, .float .f64 f, .string s] 24)) w') := hck _ hal
  have HX : Hid (C1 w.heap.size 0 n f s (w.alloc (.cells #[.int .i64 0, .int .i64 n, .float .f64 f, .string s] 24)) ∧ Below w.heap.size w (w.alloc (.cells #[.int .i64 0, .int .i64 n, .float .f64 f, .string s] 24)) ∧ (w.alloc (.cells #[.int .i64 0, .int .i64 n, .float .f64 f, .string s] 24)).heap.size = w.heap.size + 1 ∧ TxE T (w.alloc (.cells #[.int .i64 0, .int .i64 n, .float .f64 f, .string s] 24))) := ⟨c1_new w 0 n f s, hal, hz, hE.on hal⟩
  clear hE hal hz hck
  go_enter Tryz.func10, Tryz.ntmps10
  go_wp2_with fail
  generalize w.alloc (.cells #[.int .i64 0, .int .i64 n, .float .f64 f, .string s] 24) = w1 at *
  refine CK.out.mono ?_
  rintro e w2 ⟨rfl, hb2⟩
  have HX2 : Hid (C1 w.heap.size 0 n f s w2 ∧ Below w.heap.size w w2 ∧ w.heap.size + 1 ≤ w2.heap.size ∧ TxE T w2) := ⟨c1_keep hb2 (by have := HX.out.2.2.1; omega) HX.out.1, HX.out.2.1.trans (hb2.mono HX.out.2.1.size), by have := HX.out.2.2.1; have := hb2.size; omega, HX.out.2.2.2.on hb2⟩
  obtain ⟨x0, x1, x2, x3⟩ := HX2.out.1
  clear hb2 CK HX
  go_wp2_with fail
  go_ret2
  exact ⟨rfl, HX2.out.2.1⟩

set_option maxHeartbeats 4000000 in
theorem rtext2_any (T : Nat → Int × Int) (F : List UInt8) (n : Int) (f : Nat) (s : ByteArray) (w : World) (_hn0 : -9223372036854775808 ≤ n) (_hn1 : n ≤ 9223372036854775807) (hE : TxE T w) (_hF : ∀ w, FlE T w → FlB f F w)
    (hck : ∀ w1 : World, Below w.heap.size w w1 → Calls Tryz.prog 19 #[.agg #[.int .i64 2, .int .i64 n, .float .f64 f, .string s]] w1 fun e w' => e = .returned (.int .i64 0) ∧ Below w1.heap.size w1 w') :
    Calls Tryz.prog 10 #[.agg #[.int .i64 2, .int .i64 n, .float .f64 f, .string s]] w fun e w' => e = .returned (.tuple #[.string ⟨(Lib.itoa n : List UInt8).toArray⟩, .int .i64 0]) ∧ Below w.heap.size w w' := by
  have hal : Below w.heap.size w (w.alloc (.cells #[.int .i64 2, .int .i64 n, .float .f64 f, .string s] 24)) := (Below.refl _ _).alloc (Nat.le_refl _) _
  have hz : (w.alloc (.cells #[.int .i64 2, .int .i64 n, .float .f64 f, .string s] 24)).heap.size = w.heap.size + 1 := by simp
  have CK : Hid (Calls Tryz.prog 19 #[.agg #[.int .i64 2, .int .i64 n, .float .f64 f, .string s]] (w.alloc (.cells #[.int .i64 2, .int .i64 n, .float .f64 f, .string s] 24)) fun e w' => e = .returned (.int .i64 0) ∧ Below (w.alloc (.cells #[.int .i64 2, .int .i64 n, .float .f64 f, .string s] 24)).heap.size (w.alloc (.cells #[.int .i64 2, .int .i64 n, .float .f64 f, .string s] 24)) w') := hck _ hal
  have HX : Hid (C1 w.heap.size 2 n f s (w.alloc (.cells #[.int .i64 2, .int .i64 n, .float .f64 f, .string s] 24)) ∧ Below w.heap.size w (w.alloc (.cells #[.int .i64 2, .int .i64 n, .float .f64 f, .string s] 24)) ∧ (w.alloc (.cells #[.int .i64 2, .int .i64 n, .float .f64 f, .string s] 24)).heap.size = w.heap.size + 1 ∧ TxE T (w.alloc (.cells #[.int .i64 2, .int .i64 n, .float .f64 f, .string s] 24))) := ⟨c1_new w 2 n f s, hal, hz, hE.on hal⟩
  have C2 : Hid (∀ w1, TxE T w1 → Calls Tryz.prog 20 #[.int .i64 n, .int .i64 10] w1 fun e w' => e = .returned (.string ⟨(Lib.itoa n).toArray⟩) ∧ Below w1.heap.size w1 w') := fun w1 h1 => fmtInt_any n _hn0 _hn1 w1 h1.fl.tab
  generalize Lib.itoa n = r at *
  clear _hn0 _hn1 _hF
  clear hE hal hz hck
  go_enter Tryz.func10, Tryz.ntmps10
  go_wp2_with fail
  generalize w.alloc (.cells #[.int .i64 2, .int .i64 n, .float .f64 f, .string s] 24) = w1 at *
  refine CK.out.mono ?_
  rintro e w2 ⟨rfl, hb2⟩
  have HX2 : Hid (C1 w.heap.size 2 n f s w2 ∧ Below w.heap.size w w2 ∧ w.heap.size + 1 ≤ w2.heap.size ∧ TxE T w2) := ⟨c1_keep hb2 (by have := HX.out.2.2.1; omega) HX.out.1, HX.out.2.1.trans (hb2.mono HX.out.2.1.size), by have := HX.out.2.2.1; have := hb2.size; omega, HX.out.2.2.2.on hb2⟩
  obtain ⟨x0, x1, x2, x3⟩ := HX2.out.1
  clear hb2 CK HX
  go_wp2_with fail
  refine (C2.out _ HX2.out.2.2.2).mono ?_
  rintro e w3 ⟨rfl, hb3⟩
  have HB : Hid (Below w.heap.size w w3) := HX2.out.2.1.trans (hb3.mono HX2.out.2.1.size)
  clear hb3 x0 x1 x2 x3
  go_wp2_with fail
  go_ret2
  exact ⟨rfl, HB.out⟩

set_option maxHeartbeats 4000000 in
theorem rtext3_any (T : Nat → Int × Int) (F : List UInt8) (n : Int) (f : Nat) (s : ByteArray) (w : World) (_hn0 : -9223372036854775808 ≤ n) (_hn1 : n ≤ 9223372036854775807) (hE : TxE T w) (_hF : ∀ w, FlE T w → FlB f F w)
    (hck : ∀ w1 : World, Below w.heap.size w w1 → Calls Tryz.prog 19 #[.agg #[.int .i64 3, .int .i64 n, .float .f64 f, .string s]] w1 fun e w' => e = .returned (.int .i64 0) ∧ Below w1.heap.size w1 w') :
    Calls Tryz.prog 10 #[.agg #[.int .i64 3, .int .i64 n, .float .f64 f, .string s]] w fun e w' => e = .returned (.tuple #[.string ⟨(F : List UInt8).toArray⟩, .int .i64 0]) ∧ Below w.heap.size w w' := by
  have hal : Below w.heap.size w (w.alloc (.cells #[.int .i64 3, .int .i64 n, .float .f64 f, .string s] 24)) := (Below.refl _ _).alloc (Nat.le_refl _) _
  have hz : (w.alloc (.cells #[.int .i64 3, .int .i64 n, .float .f64 f, .string s] 24)).heap.size = w.heap.size + 1 := by simp
  have CK : Hid (Calls Tryz.prog 19 #[.agg #[.int .i64 3, .int .i64 n, .float .f64 f, .string s]] (w.alloc (.cells #[.int .i64 3, .int .i64 n, .float .f64 f, .string s] 24)) fun e w' => e = .returned (.int .i64 0) ∧ Below (w.alloc (.cells #[.int .i64 3, .int .i64 n, .float .f64 f, .string s] 24)).heap.size (w.alloc (.cells #[.int .i64 3, .int .i64 n, .float .f64 f, .string s] 24)) w') := hck _ hal
  have HX : Hid (C1 w.heap.size 3 n f s (w.alloc (.cells #[.int .i64 3, .int .i64 n, .float .f64 f, .string s] 24)) ∧ Below w.heap.size w (w.alloc (.cells #[.int .i64 3, .int .i64 n, .float .f64 f, .string s] 24)) ∧ (w.alloc (.cells #[.int .i64 3, .int .i64 n, .float .f64 f, .string s] 24)).heap.size = w.heap.size + 1 ∧ TxE T (w.alloc (.cells #[.int .i64 3, .int .i64 n, .float .f64 f, .string s] 24))) := ⟨c1_new w 3 n f s, hal, hz, hE.on hal⟩
  have C2 : Hid (∀ w1, TxE T w1 → Calls Tryz.prog 21 #[.float .f64 f] w1 fun e w' => e = .returned (.string ⟨F.toArray⟩) ∧ Below w1.heap.size w1 w') := fun w1 h1 => (_hF w1 h1.fl).2
  clear _hn0 _hn1 _hF
  clear hE hal hz hck
  go_enter Tryz.func10, Tryz.ntmps10
  go_wp2_with fail
  generalize w.alloc (.cells #[.int .i64 3, .int .i64 n, .float .f64 f, .string s] 24) = w1 at *
  refine CK.out.mono ?_
  rintro e w2 ⟨rfl, hb2⟩
  have HX2 : Hid (C1 w.heap.size 3 n f s w2 ∧ Below w.heap.size w w2 ∧ w.heap.size + 1 ≤ w2.heap.size ∧ TxE T w2) := ⟨c1_keep hb2 (by have := HX.out.2.2.1; omega) HX.out.1, HX.out.2.1.trans (hb2.mono HX.out.2.1.size), by have := HX.out.2.2.1; have := hb2.size; omega, HX.out.2.2.2.on hb2⟩
  obtain ⟨x0, x1, x2, x3⟩ := HX2.out.1
  clear hb2 CK HX
  go_wp2_with fail
  refine (C2.out _ HX2.out.2.2.2).mono ?_
  rintro e w3 ⟨rfl, hb3⟩
  have HB : Hid (Below w.heap.size w w3) := HX2.out.2.1.trans (hb3.mono HX2.out.2.1.size)
  clear hb3 x0 x1 x2 x3
  go_wp2_with fail
  go_ret2
  exact ⟨rfl, HB.out⟩

set_option maxHeartbeats 4000000 in
theorem rtext1_any (T : Nat → Int × Int) (F : List UInt8) (n : Int) (f : Nat) (s : ByteArray) (w : World) (_hn0 : -9223372036854775808 ≤ n) (_hn1 : n ≤ 9223372036854775807) (hE : TxE T w) (_hF : ∀ w, FlE T w → FlB f F w)
    (hck : ∀ w1 : World, Below w.heap.size w w1 → Calls Tryz.prog 19 #[.agg #[.int .i64 1, .int .i64 n, .float .f64 f, .string s]] w1 fun e w' => e = .returned (.int .i64 0) ∧ Below w1.heap.size w1 w') :
    Calls Tryz.prog 10 #[.agg #[.int .i64 1, .int .i64 n, .float .f64 f, .string s]] w fun e w' => e = .returned (.tuple #[.string ⟨(if n = 1 then [116, 114, 117, 101] else [102, 97, 108, 115, 101] : List UInt8).toArray⟩, .int .i64 0]) ∧ Below w.heap.size w w' := by
  have hal : Below w.heap.size w (w.alloc (.cells #[.int .i64 1, .int .i64 n, .float .f64 f, .string s] 24)) := (Below.refl _ _).alloc (Nat.le_refl _) _
  have hz : (w.alloc (.cells #[.int .i64 1, .int .i64 n, .float .f64 f, .string s] 24)).heap.size = w.heap.size + 1 := by simp
  have CK : Hid (Calls Tryz.prog 19 #[.agg #[.int .i64 1, .int .i64 n, .float .f64 f, .string s]] (w.alloc (.cells #[.int .i64 1, .int .i64 n, .float .f64 f, .string s] 24)) fun e w' => e = .returned (.int .i64 0) ∧ Below (w.alloc (.cells #[.int .i64 1, .int .i64 n, .float .f64 f, .string s] 24)).heap.size (w.alloc (.cells #[.int .i64 1, .int .i64 n, .float .f64 f, .string s] 24)) w') := hck _ hal
  have HX : Hid (C1 w.heap.size 1 n f s (w.alloc (.cells #[.int .i64 1, .int .i64 n, .float .f64 f, .string s] 24)) ∧ Below w.heap.size w (w.alloc (.cells #[.int .i64 1, .int .i64 n, .float .f64 f, .string s] 24)) ∧ (w.alloc (.cells #[.int .i64 1, .int .i64 n, .float .f64 f, .string s] 24)).heap.size = w.heap.size + 1 ∧ TxE T (w.alloc (.cells #[.int .i64 1, .int .i64 n, .float .f64 f, .string s] 24))) := ⟨c1_new w 1 n f s, hal, hz, hE.on hal⟩
  by_cases hn : n = 1
  · subst hn
    rw [if_pos rfl]
    clear hE hal hz hck
    go_enter Tryz.func10, Tryz.ntmps10
    go_wp2_with fail
    generalize w.alloc (.cells #[.int .i64 1, .int .i64 1, .float .f64 f, .string s] 24) = w1 at *
    refine CK.out.mono ?_
    rintro e w2 ⟨rfl, hb2⟩
    have HX2 : Hid (C1 w.heap.size 1 1 f s w2 ∧ Below w.heap.size w w2 ∧ w.heap.size + 1 ≤ w2.heap.size ∧ TxE T w2) := ⟨c1_keep hb2 (by have := HX.out.2.2.1; omega) HX.out.1, HX.out.2.1.trans (hb2.mono HX.out.2.1.size), by have := HX.out.2.2.1; have := hb2.size; omega, HX.out.2.2.2.on hb2⟩
    obtain ⟨x0, x1, x2, x3⟩ := HX2.out.1
    clear hb2 CK HX
    go_wp2_with fail
    go_ret2
    exact ⟨rfl, HX2.out.2.1⟩
  · rw [if_neg hn]
    have hn1 : (n == 1) = false := by simp [hn]
    clear hn
    clear hE hal hz hck
    go_enter Tryz.func10, Tryz.ntmps10
    go_wp2_with fail
    generalize w.alloc (.cells #[.int .i64 1, .int .i64 n, .float .f64 f, .string s] 24) = w1 at *
    refine CK.out.mono ?_
    rintro e w2 ⟨rfl, hb2⟩
    have HX2 : Hid (C1 w.heap.size 1 n f s w2 ∧ Below w.heap.size w w2 ∧ w.heap.size + 1 ≤ w2.heap.size ∧ TxE T w2) := ⟨c1_keep hb2 (by have := HX.out.2.2.1; omega) HX.out.1, HX.out.2.1.trans (hb2.mono HX.out.2.1.size), by have := HX.out.2.2.1; have := hb2.size; omega, HX.out.2.2.2.on hb2⟩
    obtain ⟨x0, x1, x2, x3⟩ := HX2.out.1
    clear hb2 CK HX
    go_wp2_with fail
    go_ret2
    exact ⟨rfl, HX2.out.2.1⟩

set_option maxHeartbeats 4000000 in
theorem rtextNo_any (k n : Int) (f : Nat) (s : ByteArray) (w : World) (e0 : Int) (h0 : ¬ e0 = 0)
    (hck : ∀ w1 : World, Below w.heap.size w w1 → Calls Tryz.prog 19 #[.agg #[.int .i64 k, .int .i64 n, .float .f64 f, .string s]] w1 fun e w' => e = .returned (.int .i64 e0) ∧ Below w1.heap.size w1 w') :
    Calls Tryz.prog 10 #[.agg #[.int .i64 k, .int .i64 n, .float .f64 f, .string s]] w fun e w' => e = .returned (.tuple #[.string ⟨#[]⟩, .int .i64 e0]) ∧ Below w.heap.size w w' := by
  have hal : Below w.heap.size w (w.alloc (.cells #[.int .i64 k, .int .i64 n, .float .f64 f, .string s] 24)) := (Below.refl _ _).alloc (Nat.le_refl _) _
  have CK : Hid (Calls Tryz.prog 19 #[.agg #[.int .i64 k, .int .i64 n, .float .f64 f, .string s]] (w.alloc (.cells #[.int .i64 k, .int .i64 n, .float .f64 f, .string s] 24)) fun e w' => e = .returned (.int .i64 e0) ∧ Below (w.alloc (.cells #[.int .i64 k, .int .i64 n, .float .f64 f, .string s] 24)).heap.size (w.alloc (.cells #[.int .i64 k, .int .i64 n, .float .f64 f, .string s] 24)) w') := hck _ hal
  have HX : Hid (Below w.heap.size w (w.alloc (.cells #[.int .i64 k, .int .i64 n, .float .f64 f, .string s] 24))) := hal
  have h1 : (e0 != 0) = true := by simp [h0]
  clear hal hck h0
  go_enter Tryz.func10, Tryz.ntmps10
  go_wp2_with fail
  generalize w.alloc (.cells #[.int .i64 k, .int .i64 n, .float .f64 f, .string s] 24) = w1 at *
  refine CK.out.mono ?_
  rintro e w2 ⟨rfl, hb2⟩
  have HB : Hid (Below w.heap.size w w2) := HX.out.trans (hb2.mono HX.out.size)
  clear hb2 CK HX
  go_wp2_with fail
  go_ret2
  exact ⟨rfl, HB.out⟩

theorem rtext_any (T : Nat → Int × Int) (F : List UInt8) (k n : Int) (f : Nat) (s : ByteArray) (w : World) (hn0 : -9223372036854775808 ≤ n) (hn1 : n ≤ 9223372036854775807) (hs : s.size ≤ maxLen) (hE : TxE T w) (hF : ∀ w, FlE T w → FlB f F w) :
    Calls Tryz.prog 10 #[.agg #[.int .i64 k, .int .i64 n, .float .f64 f, .string s]] w fun e w' => e = .returned (.tuple #[.string (txtO F k n f s), .int .i64 (chkV k n f s)]) ∧ Below w.heap.size w w' := by
  have hck := fun (w1 : World) (h1 : Below w.heap.size w w1) => rcheckE (hE.on h1) k n f s hs
  by_cases h0 : chkV k n f s = 0
  · obtain ⟨h1, h2, h3⟩ := chkV_ok h0
    unfold txtO
    rw [if_pos h0]
    rw [h0] at hck ⊢
    have h6 : k = 0 ∨ k = 1 ∨ k = 2 ∨ k = 3 ∨ k = 4 ∨ k = 5 := by omega
    rcases h6 with rfl | rfl | rfl | rfl | rfl | rfl
    · exact rtext0_any T F n f s w hn0 hn1 hE hF hck
    · exact rtext1_any T F n f s w hn0 hn1 hE hF hck
    · exact rtext2_any T F n f s w hn0 hn1 hE hF hck
    · exact rtext3_any T F n f s w hn0 hn1 hE hF hck
    · exact rtext4_any n f s w h3 hck
    · exact rtext5_any n f s w h3 hck
  · unfold txtO
    rw [if_neg h0]
    exact rtextNo_any k n f s w _ h0 hck
end Go.Proofs.YtljiokkdaelmpaaGreatDoor
