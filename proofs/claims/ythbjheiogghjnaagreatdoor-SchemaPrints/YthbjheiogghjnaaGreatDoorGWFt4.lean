/- Text of any value, on both sides. Text of any value, on both sides: what may not be is refused. -/
import Derived.Test.YthbjheiogghjnaaGreatDoorGWFt2
namespace Go.Proofs.YthbjheiogghjnaaGreatDoor
open Go.RowKit
set_option maxRecDepth 100000

/-- what Text tells of a value that may be; F: the text of its float -/
def txtV (F : List UInt8) (k n : Int) (s : ByteArray) : List UInt8 :=
  if k = 1 then (if n = 1 then [116, 114, 117, 101] else [102, 97, 108, 115, 101]) else if k = 2 then Lib.itoa n else if k = 3 then F else if k = 4 then [39] ++ qesc s.data.toList ++ [39] else if k = 5 then [120, 39] ++ hexL s.data.toList ++ [39] else [110, 117, 108, 108]
/-- what the texts of values read -/
structure TxE (T : Nat → Int × Int) (w : World) : Prop where
  fl : FlE T w
  ml : 4 < w.heap.size ∧ ∃ m : Int, w.cell? ⟨4, 0, none⟩ = some (.int .i64 m)
  ug : 3 < w.heap.size
  ut : Lib.Utf8Tabs 2 3 w
theorem TxE.on {T : Nat → Int × Int} {w w' : World} (h : TxE T w) (hb : Below w.heap.size w w') : TxE T w' := by
  obtain ⟨h1, m, h2⟩ := h.ml
  exact ⟨h.fl.on hb, ⟨Nat.lt_of_lt_of_le h1 hb.size, m, old_cell hb h1 h2⟩, Nat.lt_of_lt_of_le h.ug hb.size, tabs_keep hb h.ug h.ut⟩

theorem boolText_any (n : Int) (w : World) :
    Calls Tryz.prog 67 #[.int .i64 n] w fun e w' => e = .returned (.string ⟨(if n = 1 then [116, 114, 117, 101] else [102, 97, 108, 115, 101] : List UInt8).toArray⟩) ∧ w' = w := by
  by_cases h : n = 1
  · subst h
    go_enter Tryz.func67, Tryz.ntmps67
    go_wp2
    go_ret
    exact ⟨rfl, rfl⟩
  · have h1 : (n == 1) = false := by simp [h]
    rw [if_neg h]
    clear h
    go_enter Tryz.func67, Tryz.ntmps67
    go_wp2
    go_ret
    exact ⟨rfl, rfl⟩

theorem fmtInt_any (n : Int) (h0 : -9223372036854775808 ≤ n) (h1 : n ≤ 9223372036854775807) (w : World) (htab : Lib.TabIs Tryz.prog w "internal/strconv.uint64pow10" .u64 Lib.pow10Tab) :
    Calls Tryz.prog 36 #[.int .i64 n, .int .i64 10] w fun e w' => e = .returned (.string ⟨(Lib.itoa n).toArray⟩) ∧ Below w.heap.size w w' := by
  refine (Tryz.strconv_FormatInt_10 n h0 h1 w htab).mono ?_
  rintro e w1 ⟨rfl, q, os, rfl⟩
  refine ⟨rfl, ⟨rfl, rfl, rfl, ?_, fun k hk => ?_⟩⟩
  · simp [Go.Sort.grow, World.drewN]
  · simp only [Go.Sort.grow]
    have hk2 : k < (w.drewN q).heap.size := hk
    rw [Array.getElem?_append_left hk2]
    rfl

theorem repl_any (s : ByteArray) (hs : s.size ≤ 65536) (T : Nat → Int × Int) (w : World) (hE : TxE T w) :
    Calls Tryz.prog 69 #[.string s, .string ⟨#[39]⟩, .string ⟨#[39, 39]⟩] w fun e w' => e = .returned (.string ⟨(qesc s.data.toList).toArray⟩) ∧ Below w.heap.size w w' := by
  obtain ⟨_, m, hm⟩ := hE.ml
  have hl := Lib.count_le s.data.toList [39]
  have hl2 : Lib.countB s ⟨#[39]⟩ ≤ s.size + 1 := by
    have e : s.data.toList.length = s.size := by simp
    rw [e] at hl
    exact hl
  have h := Tryz.strings_ReplaceAll s ⟨#[39]⟩ ⟨#[39, 39]⟩ m w (by omega) hm (by decide) (by
    have e : (⟨#[39, 39]⟩ : ByteArray).size = 2 := rfl
    rw [e]
    omega)
  have e : Lib.replaceAll s.data.toList (⟨#[39]⟩ : ByteArray).data.toList (⟨#[39, 39]⟩ : ByteArray).data.toList = qesc s.data.toList := repl_q s.data.toList
  rw [e] at h
  exact h

theorem cat_q (l : List UInt8) : (⟨#[39]⟩ : ByteArray) ++ ⟨l.toArray⟩ ++ ⟨#[39]⟩ = ⟨([39] ++ l ++ [39]).toArray⟩ := by
  apply ByteArray.ext
  simp

set_option maxHeartbeats 4000000 in
theorem textFrom_any (T : Nat → Int × Int) (F : List UInt8) (k n : Int) (f : Nat) (s : ByteArray) (w : World) (hk0 : 0 ≤ k) (hk5 : k ≤ 5) (hn0 : -9223372036854775808 ≤ n) (hn1 : n ≤ 9223372036854775807) (hs : s.size ≤ 65536) (hE : TxE T w) (hF : ∀ w, FlE T w → FlB f F w) :
    Calls Tryz.prog 44 #[.agg #[.int .i64 k, .int .i64 n, .float .f64 f, .string s]] w fun e w' => e = .returned (.string ⟨(txtV F k n s).toArray⟩) ∧ Below w.heap.size w w' := by
  have h6 : k = 0 ∨ k = 1 ∨ k = 2 ∨ k = 3 ∨ k = 4 ∨ k = 5 := by omega
  have HW : Hid (∀ c : Array Value, Below w.heap.size w (w.alloc (.cells c 38)) ∧ TxE T (w.alloc (.cells c 38)) ∧ w.heap.size ≤ (w.alloc (.cells c 38)).heap.size) := fun c => ⟨(Below.refl _ _).alloc (Nat.le_refl _) _, hE.on ((Below.refl _ _).alloc (Nat.le_refl _) _), by simp⟩
  clear hE hk0 hk5
  rcases h6 with rfl | rfl | rfl | rfl | rfl | rfl
  · clear hF
    go_enter Tryz.func44, Tryz.ntmps44
    go_wp2
    go_ret
    exact ⟨rfl, (HW.out _).1⟩
  · clear hF
    have C1 : Hid (∀ w1 : World, Calls _ _ _ _ _) := fun w1 => boolText_any n w1
    show Calls _ _ _ _ (fun e w' => e = .returned (.string ⟨(if n = 1 then [116, 114, 117, 101] else [102, 97, 108, 115, 101] : List UInt8).toArray⟩) ∧ Below w.heap.size w w')
    generalize (if n = 1 then [116, 114, 117, 101] else [102, 97, 108, 115, 101] : List UInt8) = r at *
    go_enter Tryz.func44, Tryz.ntmps44
    go_wp2_with fail
    refine (C1.out _).mono ?_
    rintro e w1 ⟨rfl, hw1⟩
    rw [hw1]
    clear hw1
    go_wp2_with fail
    go_ret
    exact ⟨rfl, (HW.out _).1⟩
  · clear hF
    have C1 : Hid (∀ c : Array Value, Calls Tryz.prog 36 #[.int .i64 n, .int .i64 10] (w.alloc (.cells c 38)) fun e w' => e = .returned (.string ⟨(Lib.itoa n).toArray⟩) ∧ Below (w.alloc (.cells c 38)).heap.size (w.alloc (.cells c 38)) w') := fun c => fmtInt_any n hn0 hn1 _ (HW.out c).2.1.fl.tab
    show Calls _ _ _ _ (fun e w' => e = .returned (.string ⟨(Lib.itoa n).toArray⟩) ∧ Below w.heap.size w w')
    generalize Lib.itoa n = r at *
    clear hn0 hn1
    go_enter Tryz.func44, Tryz.ntmps44
    go_wp2_with fail
    refine (C1.out _).mono ?_
    rintro e w1 ⟨rfl, hb1⟩
    have HB : Hid (Below w.heap.size w w1) := (HW.out _).1.trans (hb1.mono (HW.out _).2.2)
    clear hb1
    go_wp2_with fail
    go_ret
    exact ⟨rfl, HB.out⟩
  · have C1 : Hid (∀ c : Array Value, Calls Tryz.prog 68 #[.float .f64 f] (w.alloc (.cells c 38)) fun e w' => e = .returned (.string ⟨F.toArray⟩) ∧ Below (w.alloc (.cells c 38)).heap.size (w.alloc (.cells c 38)) w') := fun c => (hF _ (HW.out c).2.1.fl).1
    clear hF hn0 hn1
    show Calls _ _ _ _ (fun e w' => e = .returned (.string ⟨F.toArray⟩) ∧ Below w.heap.size w w')
    go_enter Tryz.func44, Tryz.ntmps44
    go_wp2_with fail
    refine (C1.out _).mono ?_
    rintro e w1 ⟨rfl, hb1⟩
    have HB : Hid (Below w.heap.size w w1) := (HW.out _).1.trans (hb1.mono (HW.out _).2.2)
    clear hb1
    go_wp2_with fail
    go_ret
    exact ⟨rfl, HB.out⟩
  · have C1 : Hid (∀ c : Array Value, Calls Tryz.prog 69 #[.string s, .string ⟨#[39]⟩, .string ⟨#[39, 39]⟩] (w.alloc (.cells c 38)) fun e w' => e = .returned (.string ⟨(qesc s.data.toList).toArray⟩) ∧ Below (w.alloc (.cells c 38)).heap.size (w.alloc (.cells c 38)) w') := fun c => repl_any s hs T _ (HW.out c).2.1
    clear hF hn0 hn1
    have hq := cat_q (qesc s.data.toList)
    show Calls _ _ _ _ (fun e w' => e = .returned (.string ⟨([39] ++ qesc s.data.toList ++ [39]).toArray⟩) ∧ Below w.heap.size w w')
    rw [← hq]
    clear hq
    have hr : (⟨(qesc s.data.toList).toArray⟩ : ByteArray).size ≤ 131072 := by
      have h1 := qesc_len s.data.toList
      have e : s.data.toList.length = s.size := by simp
      rw [e] at h1
      have e2 : (⟨(qesc s.data.toList).toArray⟩ : ByteArray).size = (qesc s.data.toList).length := rfl
      omega
    clear hs
    generalize (⟨(qesc s.data.toList).toArray⟩ : ByteArray) = r at *
    have hr1 : ¬ 9223372036854775807 < 1 + r.size := by omega
    have hr2 : ¬ 9223372036854775807 < 1 + r.size + 1 := by omega
    clear hr
    go_enter Tryz.func44, Tryz.ntmps44
    go_wp2_with fail
    refine (C1.out _).mono ?_
    rintro e w1 ⟨rfl, hb1⟩
    have HB : Hid (Below w.heap.size w w1) := (HW.out _).1.trans (hb1.mono (HW.out _).2.2)
    clear hb1
    go_wp2_with fail
    go_ret
    exact ⟨rfl, HB.out⟩
  · have C1 : Hid (∀ w1 : World, Calls Tryz.prog 70 #[.string s] w1 fun e w' => e = .returned (.string ⟨([120, 39] ++ hexL s.data.toList ++ [39]).toArray⟩) ∧ Below w1.heap.size w1 w') := fun w1 => bytesText_any s w1 hs
    clear hF hn0 hn1 hs
    show Calls _ _ _ _ (fun e w' => e = .returned (.string ⟨([120, 39] ++ hexL s.data.toList ++ [39]).toArray⟩) ∧ Below w.heap.size w w')
    generalize [120, 39] ++ hexL s.data.toList ++ [39] = r at *
    go_enter Tryz.func44, Tryz.ntmps44
    go_wp2_with fail
    refine (C1.out _).mono ?_
    rintro e w1 ⟨rfl, hb1⟩
    have HB : Hid (Below w.heap.size w w1) := (HW.out _).1.trans (hb1.mono (HW.out _).2.2)
    clear hb1
    go_wp2_with fail
    go_ret
    exact ⟨rfl, HB.out⟩

end Go.Proofs.YthbjheiogghjnaaGreatDoor

namespace Go.Proofs.YthbjheiogghjnaaGreatDoor
open Go.RowKit
set_option maxRecDepth 100000

theorem chkV_ok {k n : Int} {f : Nat} {s : ByteArray} (h : chkV k n f s = 0) : 0 ≤ k ∧ k ≤ 5 ∧ s.size ≤ 65536 := by
  unfold chkV at h
  split at h
  · rename_i h1
    simp only [Bool.and_eq_true, kindB, decide_eq_true_eq] at h1
    split at h
    · omega
    · rename_i h2
      exact ⟨h1.1.1.1.1, h1.1.1.1.2, by omega⟩
  · omega
theorem checkE {T : Nat → Int × Int} {w : World} (hE : TxE T w) (k n : Int) (f : Nat) (s : ByteArray) (hs : s.size ≤ maxLen) :
    Calls Tryz.prog 43 #[.agg #[.int .i64 k, .int .i64 n, .float .f64 f, .string s]] w fun e w' => e = .returned (.int .i64 (chkV k n f s)) ∧ Below w.heap.size w w' :=
  check_any k n f s w hs (fun w1 h1 => str_any k n f s w1 (fun w2 h2 => valid_any s w2 (by unfold maxLen at hs; omega) ((hE.on h1).on h2).ut))
theorem rcheckE {T : Nat → Int × Int} {w : World} (hE : TxE T w) (k n : Int) (f : Nat) (s : ByteArray) (hs : s.size ≤ maxLen) :
    Calls Tryz.prog 35 #[.agg #[.int .i64 k, .int .i64 n, .float .f64 f, .string s]] w fun e w' => e = .returned (.int .i64 (chkV k n f s)) ∧ Below w.heap.size w w' :=
  rcheck_any k n f s w hs (fun w2 h2 => valid_any s w2 (by unfold maxLen at hs; omega) (hE.on h2).ut)
/-- the text that is told -/
def txtO (F : List UInt8) (k n : Int) (f : Nat) (s : ByteArray) : ByteArray := if chkV k n f s = 0 then ⟨(txtV F k n s).toArray⟩ else ⟨#[]⟩

set_option maxHeartbeats 4000000 in
theorem text_any (T : Nat → Int × Int) (F : List UInt8) (k n : Int) (f : Nat) (s : ByteArray) (w : World) (hn0 : -9223372036854775808 ≤ n) (hn1 : n ≤ 9223372036854775807) (hs : s.size ≤ maxLen) (hE : TxE T w) (hF : ∀ w, FlE T w → FlB f F w) :
    Calls Tryz.prog 27 #[.agg #[.int .i64 k, .int .i64 n, .float .f64 f, .string s]] w fun e w' => e = .returned (.tuple #[.string (txtO F k n f s), .int .i64 (chkV k n f s)]) ∧ Below w.heap.size w w' := by
  have hal : Below w.heap.size w (w.alloc (.cells #[.int .i64 k, .int .i64 n, .float .f64 f, .string s] 38)) := (Below.refl _ _).alloc (Nat.le_refl _) _
  have hz : (w.alloc (.cells #[.int .i64 k, .int .i64 n, .float .f64 f, .string s] 38)).heap.size = w.heap.size + 1 := by simp
  have CK : Hid (Calls Tryz.prog 43 #[.agg #[.int .i64 k, .int .i64 n, .float .f64 f, .string s]] (w.alloc (.cells #[.int .i64 k, .int .i64 n, .float .f64 f, .string s] 38)) fun e w' => e = .returned (.int .i64 (chkV k n f s)) ∧ Below (w.alloc (.cells #[.int .i64 k, .int .i64 n, .float .f64 f, .string s] 38)).heap.size (w.alloc (.cells #[.int .i64 k, .int .i64 n, .float .f64 f, .string s] 38)) w') := checkE (hE.on hal) k n f s hs
  have HX : Hid (C1 w.heap.size k n f s (w.alloc (.cells #[.int .i64 k, .int .i64 n, .float .f64 f, .string s] 38)) ∧ Below w.heap.size w (w.alloc (.cells #[.int .i64 k, .int .i64 n, .float .f64 f, .string s] 38)) ∧ (w.alloc (.cells #[.int .i64 k, .int .i64 n, .float .f64 f, .string s] 38)).heap.size = w.heap.size + 1 ∧ TxE T (w.alloc (.cells #[.int .i64 k, .int .i64 n, .float .f64 f, .string s] 38))) := ⟨c1_new w k n f s, hal, hz, hE.on hal⟩
  have C2 : Hid (∀ w1, TxE T w1 → chkV k n f s = 0 → Calls Tryz.prog 44 #[.agg #[.int .i64 k, .int .i64 n, .float .f64 f, .string s]] w1 fun e w' => e = .returned (.string ⟨(txtV F k n s).toArray⟩) ∧ Below w1.heap.size w1 w') := fun w1 h1 h0 => textFrom_any T F k n f s w1 (chkV_ok h0).1 (chkV_ok h0).2.1 hn0 hn1 (chkV_ok h0).2.2 h1 hF
  clear hF hE hal hz hn0 hn1 hs
  unfold txtO
  generalize (⟨(txtV F k n s).toArray⟩ : ByteArray) = r at *
  generalize chkV k n f s = e0 at *
  by_cases h0 : e0 = 0
  · subst h0
    rw [if_pos rfl]
    go_enter Tryz.func27, Tryz.ntmps27
    go_wp2_with fail
    generalize w.alloc (.cells #[.int .i64 k, .int .i64 n, .float .f64 f, .string s] 38) = w1 at *
    refine CK.out.mono ?_
    rintro e w2 ⟨rfl, hb2⟩
    have HX2 : Hid (C1 w.heap.size k n f s w2 ∧ Below w.heap.size w w2 ∧ w.heap.size + 1 ≤ w2.heap.size ∧ TxE T w2) := ⟨c1_keep hb2 (by have := HX.out.2.2.1; omega) HX.out.1, HX.out.2.1.trans (hb2.mono HX.out.2.1.size), by have := HX.out.2.2.1; have := hb2.size; omega, HX.out.2.2.2.on hb2⟩
    obtain ⟨x0, x1, x2, x3⟩ := HX2.out.1
    clear hb2 CK HX
    go_wp2_with fail
    refine (C2.out _ HX2.out.2.2.2 (by first | rfl | trivial)).mono ?_
    rintro e w3 ⟨rfl, hb3⟩
    have HB : Hid (Below w.heap.size w w3) := HX2.out.2.1.trans (hb3.mono HX2.out.2.1.size)
    clear hb3 x0 x1 x2 x3
    go_wp2_with fail
    go_ret2
    exact ⟨rfl, HB.out⟩
  · rw [if_neg h0]
    have h1 : (e0 != 0) = true := by simp [h0]
    clear C2 h0
    go_enter Tryz.func27, Tryz.ntmps27
    go_wp2_with fail
    generalize w.alloc (.cells #[.int .i64 k, .int .i64 n, .float .f64 f, .string s] 38) = w1 at *
    refine CK.out.mono ?_
    rintro e w2 ⟨rfl, hb2⟩
    have HB : Hid (Below w.heap.size w w2) := HX.out.2.1.trans (hb2.mono HX.out.2.1.size)
    clear hb2 CK HX
    go_wp2_with fail
    go_ret2
    exact ⟨rfl, HB.out⟩

set_option maxHeartbeats 4000000 in
theorem rtext0_any (T : Nat → Int × Int) (F : List UInt8) (n : Int) (f : Nat) (s : ByteArray) (w : World) (_hn0 : -9223372036854775808 ≤ n) (_hn1 : n ≤ 9223372036854775807) (hE : TxE T w) (_hF : ∀ w, FlE T w → FlB f F w)
    (hck : ∀ w1 : World, Below w.heap.size w w1 → Calls Tryz.prog 35 #[.agg #[.int .i64 0, .int .i64 n, .float .f64 f, .string s]] w1 fun e w' => e = .returned (.int .i64 0) ∧ Below w1.heap.size w1 w') :
    Calls Tryz.prog 16 #[.agg #[.int .i64 0, .int .i64 n, .float .f64 f, .string s]] w fun e w' => e = .returned (.tuple #[.string ⟨([110, 117, 108, 108] : List UInt8).toArray⟩, .int .i64 0]) ∧ Below w.heap.size w w' := by
  have hal : Below w.heap.size w (w.alloc (.cells #[.int .i64 0, .int .i64 n, .float .f64 f, .string s] 38)) := (Below.refl _ _).alloc (Nat.le_refl _) _
  have hz : (w.alloc (.cells #[.int .i64 0, .int .i64 n, .float .f64 f, .string s] 38)).heap.size = w.heap.size + 1 := by simp
  have CK : Hid (Calls Tryz.prog 35 #[.agg #[.int .i64 0, .int .i64 n, .float .f64 f, .string s]] (w.alloc (.cells #[.int .i64 0, .int .i64 n, .float .f64 f, .string s] 38)) fun e w' => e = .returned (.int .i64 0) ∧ Below (w.alloc (.cells #[.int .i64 0, .int .i64 n, .float .f64 f, .string s] 38)).heap.size (w.alloc (.cells #[.int .i64 0, .int .i64 n, .float .f64 f, .string s] 38)) w') := hck _ hal
  have HX : Hid (C1 w.heap.size 0 n f s (w.alloc (.cells #[.int .i64 0, .int .i64 n, .float .f64 f, .string s] 38)) ∧ Below w.heap.size w (w.alloc (.cells #[.int .i64 0, .int .i64 n, .float .f64 f, .string s] 38)) ∧ (w.alloc (.cells #[.int .i64 0, .int .i64 n, .float .f64 f, .string s] 38)).heap.size = w.heap.size + 1 ∧ TxE T (w.alloc (.cells #[.int .i64 0, .int .i64 n, .float .f64 f, .string s] 38))) := ⟨c1_new w 0 n f s, hal, hz, hE.on hal⟩
  clear hE hal hz hck
  go_enter Tryz.func16, Tryz.ntmps16
  go_wp2_with fail
  generalize w.alloc (.cells #[.int .i64 0, .int .i64 n, .float .f64 f, .string s] 38) = w1 at *
  refine CK.out.mono ?_
  rintro e w2 ⟨rfl, hb2⟩
  have HX2 : Hid (C1 w.heap.size 0 n f s w2 ∧ Below w.heap.size w w2 ∧ w.heap.size + 1 ≤ w2.heap.size ∧ TxE T w2) := ⟨c1_keep hb2 (by have := HX.out.2.2.1; omega) HX.out.1, HX.out.2.1.trans (hb2.mono HX.out.2.1.size), by have := HX.out.2.2.1; have := hb2.size; omega, HX.out.2.2.2.on hb2⟩
  obtain ⟨x0, x1, x2, x3⟩ := HX2.out.1
  clear hb2 CK HX
  go_wp2_with fail
  go_ret2
  exact ⟨rfl, HX2.out.2.1⟩

set_option maxHeartbeats 4000000 in
theorem rtext2_any (T : Nat → Int × Int) (F : List UInt8) (n : Int) (f : Nat) (s : ByteArray) (w : World) (_hn0 : -9223372036854775808 ≤ n) (_hn1 : n ≤ 9223372036854775807) (hE : TxE T w) (_hF : ∀ w, FlE T w → FlB f F w)
    (hck : ∀ w1 : World, Below w.heap.size w w1 → Calls Tryz.prog 35 #[.agg #[.int .i64 2, .int .i64 n, .float .f64 f, .string s]] w1 fun e w' => e = .returned (.int .i64 0) ∧ Below w1.heap.size w1 w') :
    Calls Tryz.prog 16 #[.agg #[.int .i64 2, .int .i64 n, .float .f64 f, .string s]] w fun e w' => e = .returned (.tuple #[.string ⟨(Lib.itoa n : List UInt8).toArray⟩, .int .i64 0]) ∧ Below w.heap.size w w' := by
  have hal : Below w.heap.size w (w.alloc (.cells #[.int .i64 2, .int .i64 n, .float .f64 f, .string s] 38)) := (Below.refl _ _).alloc (Nat.le_refl _) _
  have hz : (w.alloc (.cells #[.int .i64 2, .int .i64 n, .float .f64 f, .string s] 38)).heap.size = w.heap.size + 1 := by simp
  have CK : Hid (Calls Tryz.prog 35 #[.agg #[.int .i64 2, .int .i64 n, .float .f64 f, .string s]] (w.alloc (.cells #[.int .i64 2, .int .i64 n, .float .f64 f, .string s] 38)) fun e w' => e = .returned (.int .i64 0) ∧ Below (w.alloc (.cells #[.int .i64 2, .int .i64 n, .float .f64 f, .string s] 38)).heap.size (w.alloc (.cells #[.int .i64 2, .int .i64 n, .float .f64 f, .string s] 38)) w') := hck _ hal
  have HX : Hid (C1 w.heap.size 2 n f s (w.alloc (.cells #[.int .i64 2, .int .i64 n, .float .f64 f, .string s] 38)) ∧ Below w.heap.size w (w.alloc (.cells #[.int .i64 2, .int .i64 n, .float .f64 f, .string s] 38)) ∧ (w.alloc (.cells #[.int .i64 2, .int .i64 n, .float .f64 f, .string s] 38)).heap.size = w.heap.size + 1 ∧ TxE T (w.alloc (.cells #[.int .i64 2, .int .i64 n, .float .f64 f, .string s] 38))) := ⟨c1_new w 2 n f s, hal, hz, hE.on hal⟩
  have C2 : Hid (∀ w1, TxE T w1 → Calls Tryz.prog 36 #[.int .i64 n, .int .i64 10] w1 fun e w' => e = .returned (.string ⟨(Lib.itoa n).toArray⟩) ∧ Below w1.heap.size w1 w') := fun w1 h1 => fmtInt_any n _hn0 _hn1 w1 h1.fl.tab
  generalize Lib.itoa n = r at *
  clear _hn0 _hn1 _hF
  clear hE hal hz hck
  go_enter Tryz.func16, Tryz.ntmps16
  go_wp2_with fail
  generalize w.alloc (.cells #[.int .i64 2, .int .i64 n, .float .f64 f, .string s] 38) = w1 at *
  refine CK.out.mono ?_
  rintro e w2 ⟨rfl, hb2⟩
  have HX2 : Hid (C1 w.heap.size 2 n f s w2 ∧ Below w.heap.size w w2 ∧ w.heap.size + 1 ≤ w2.heap.size ∧ TxE T w2) := ⟨c1_keep hb2 (by have := HX.out.2.2.1; omega) HX.out.1, HX.out.2.1.trans (hb2.mono HX.out.2.1.size), by have := HX.out.2.2.1; have := hb2.size; omega, HX.out.2.2.2.on hb2⟩
  obtain ⟨x0, x1, x2, x3⟩ := HX2.out.1
  clear hb2 CK HX
  go_wp2_with fail
  refine (C2.out _ HX2.out.2.2.2).mono ?_
  rintro e w3 ⟨rfl, hb3⟩
  have HB : Hid (Below w.heap.size w w3) := HX2.out.2.1.trans (hb3.mono HX2.out.2.1.size)
  clear hb3 x0 x1 x2 x3
  go_wp2_with fail
  go_ret2
  exact ⟨rfl, HB.out⟩

set_option maxHeartbeats 4000000 in
theorem rtext3_any (T : Nat → Int × Int) (F : List UInt8) (n : Int) (f : Nat) (s : ByteArray) (w : World) (_hn0 : -9223372036854775808 ≤ n) (_hn1 : n ≤ 9223372036854775807) (hE : TxE T w) (_hF : ∀ w, FlE T w → FlB f F w)
    (hck : ∀ w1 : World, Below w.heap.size w w1 → Calls Tryz.prog 35 #[.agg #[.int .i64 3, .int .i64 n, .float .f64 f, .string s]] w1 fun e w' => e = .returned (.int .i64 0) ∧ Below w1.heap.size w1 w') :
    Calls Tryz.prog 16 #[.agg #[.int .i64 3, .int .i64 n, .float .f64 f, .string s]] w fun e w' => e = .returned (.tuple #[.string ⟨(F : List UInt8).toArray⟩, .int .i64 0]) ∧ Below w.heap.size w w' := by
  have hal : Below w.heap.size w (w.alloc (.cells #[.int .i64 3, .int .i64 n, .float .f64 f, .string s] 38)) := (Below.refl _ _).alloc (Nat.le_refl _) _
  have hz : (w.alloc (.cells #[.int .i64 3, .int .i64 n, .float .f64 f, .string s] 38)).heap.size = w.heap.size + 1 := by simp
  have CK : Hid (Calls Tryz.prog 35 #[.agg #[.int .i64 3, .int .i64 n, .float .f64 f, .string s]] (w.alloc (.cells #[.int .i64 3, .int .i64 n, .float .f64 f, .string s] 38)) fun e w' => e = .returned (.int .i64 0) ∧ Below (w.alloc (.cells #[.int .i64 3, .int .i64 n, .float .f64 f, .string s] 38)).heap.size (w.alloc (.cells #[.int .i64 3, .int .i64 n, .float .f64 f, .string s] 38)) w') := hck _ hal
  have HX : Hid (C1 w.heap.size 3 n f s (w.alloc (.cells #[.int .i64 3, .int .i64 n, .float .f64 f, .string s] 38)) ∧ Below w.heap.size w (w.alloc (.cells #[.int .i64 3, .int .i64 n, .float .f64 f, .string s] 38)) ∧ (w.alloc (.cells #[.int .i64 3, .int .i64 n, .float .f64 f, .string s] 38)).heap.size = w.heap.size + 1 ∧ TxE T (w.alloc (.cells #[.int .i64 3, .int .i64 n, .float .f64 f, .string s] 38))) := ⟨c1_new w 3 n f s, hal, hz, hE.on hal⟩
  have C2 : Hid (∀ w1, TxE T w1 → Calls Tryz.prog 37 #[.float .f64 f] w1 fun e w' => e = .returned (.string ⟨F.toArray⟩) ∧ Below w1.heap.size w1 w') := fun w1 h1 => (_hF w1 h1.fl).2
  clear _hn0 _hn1 _hF
  clear hE hal hz hck
  go_enter Tryz.func16, Tryz.ntmps16
  go_wp2_with fail
  generalize w.alloc (.cells #[.int .i64 3, .int .i64 n, .float .f64 f, .string s] 38) = w1 at *
  refine CK.out.mono ?_
  rintro e w2 ⟨rfl, hb2⟩
  have HX2 : Hid (C1 w.heap.size 3 n f s w2 ∧ Below w.heap.size w w2 ∧ w.heap.size + 1 ≤ w2.heap.size ∧ TxE T w2) := ⟨c1_keep hb2 (by have := HX.out.2.2.1; omega) HX.out.1, HX.out.2.1.trans (hb2.mono HX.out.2.1.size), by have := HX.out.2.2.1; have := hb2.size; omega, HX.out.2.2.2.on hb2⟩
  obtain ⟨x0, x1, x2, x3⟩ := HX2.out.1
  clear hb2 CK HX
  go_wp2_with fail
  refine (C2.out _ HX2.out.2.2.2).mono ?_
  rintro e w3 ⟨rfl, hb3⟩
  have HB : Hid (Below w.heap.size w w3) := HX2.out.2.1.trans (hb3.mono HX2.out.2.1.size)
  clear hb3 x0 x1 x2 x3
  go_wp2_with fail
  go_ret2
  exact ⟨rfl, HB.out⟩

set_option maxHeartbeats 4000000 in
theorem rtext1_any (T : Nat → Int × Int) (F : List UInt8) (n : Int) (f : Nat) (s : ByteArray) (w : World) (_hn0 : -9223372036854775808 ≤ n) (_hn1 : n ≤ 9223372036854775807) (hE : TxE T w) (_hF : ∀ w, FlE T w → FlB f F w)
    (hck : ∀ w1 : World, Below w.heap.size w w1 → Calls Tryz.prog 35 #[.agg #[.int .i64 1, .int .i64 n, .float .f64 f, .string s]] w1 fun e w' => e = .returned (.int .i64 0) ∧ Below w1.heap.size w1 w') :
    Calls Tryz.prog 16 #[.agg #[.int .i64 1, .int .i64 n, .float .f64 f, .string s]] w fun e w' => e = .returned (.tuple #[.string ⟨(if n = 1 then [116, 114, 117, 101] else [102, 97, 108, 115, 101] : List UInt8).toArray⟩, .int .i64 0]) ∧ Below w.heap.size w w' := by
  have hal : Below w.heap.size w (w.alloc (.cells #[.int .i64 1, .int .i64 n, .float .f64 f, .string s] 38)) := (Below.refl _ _).alloc (Nat.le_refl _) _
  have hz : (w.alloc (.cells #[.int .i64 1, .int .i64 n, .float .f64 f, .string s] 38)).heap.size = w.heap.size + 1 := by simp
  have CK : Hid (Calls Tryz.prog 35 #[.agg #[.int .i64 1, .int .i64 n, .float .f64 f, .string s]] (w.alloc (.cells #[.int .i64 1, .int .i64 n, .float .f64 f, .string s] 38)) fun e w' => e = .returned (.int .i64 0) ∧ Below (w.alloc (.cells #[.int .i64 1, .int .i64 n, .float .f64 f, .string s] 38)).heap.size (w.alloc (.cells #[.int .i64 1, .int .i64 n, .float .f64 f, .string s] 38)) w') := hck _ hal
  have HX : Hid (C1 w.heap.size 1 n f s (w.alloc (.cells #[.int .i64 1, .int .i64 n, .float .f64 f, .string s] 38)) ∧ Below w.heap.size w (w.alloc (.cells #[.int .i64 1, .int .i64 n, .float .f64 f, .string s] 38)) ∧ (w.alloc (.cells #[.int .i64 1, .int .i64 n, .float .f64 f, .string s] 38)).heap.size = w.heap.size + 1 ∧ TxE T (w.alloc (.cells #[.int .i64 1, .int .i64 n, .float .f64 f, .string s] 38))) := ⟨c1_new w 1 n f s, hal, hz, hE.on hal⟩
  by_cases hn : n = 1
  · subst hn
    rw [if_pos rfl]
    clear hE hal hz hck
    go_enter Tryz.func16, Tryz.ntmps16
    go_wp2_with fail
    generalize w.alloc (.cells #[.int .i64 1, .int .i64 1, .float .f64 f, .string s] 38) = w1 at *
    refine CK.out.mono ?_
    rintro e w2 ⟨rfl, hb2⟩
    have HX2 : Hid (C1 w.heap.size 1 1 f s w2 ∧ Below w.heap.size w w2 ∧ w.heap.size + 1 ≤ w2.heap.size ∧ TxE T w2) := ⟨c1_keep hb2 (by have := HX.out.2.2.1; omega) HX.out.1, HX.out.2.1.trans (hb2.mono HX.out.2.1.size), by have := HX.out.2.2.1; have := hb2.size; omega, HX.out.2.2.2.on hb2⟩
    obtain ⟨x0, x1, x2, x3⟩ := HX2.out.1
    clear hb2 CK HX
    go_wp2_with fail
    go_ret2
    exact ⟨rfl, HX2.out.2.1⟩
  · rw [if_neg hn]
    have hn1 : (n == 1) = false := by simp [hn]
    clear hn
    clear hE hal hz hck
    go_enter Tryz.func16, Tryz.ntmps16
    go_wp2_with fail
    generalize w.alloc (.cells #[.int .i64 1, .int .i64 n, .float .f64 f, .string s] 38) = w1 at *
    refine CK.out.mono ?_
    rintro e w2 ⟨rfl, hb2⟩
    have HX2 : Hid (C1 w.heap.size 1 n f s w2 ∧ Below w.heap.size w w2 ∧ w.heap.size + 1 ≤ w2.heap.size ∧ TxE T w2) := ⟨c1_keep hb2 (by have := HX.out.2.2.1; omega) HX.out.1, HX.out.2.1.trans (hb2.mono HX.out.2.1.size), by have := HX.out.2.2.1; have := hb2.size; omega, HX.out.2.2.2.on hb2⟩
    obtain ⟨x0, x1, x2, x3⟩ := HX2.out.1
    clear hb2 CK HX
    go_wp2_with fail
    go_ret2
    exact ⟨rfl, HX2.out.2.1⟩

set_option maxHeartbeats 4000000 in
theorem rtextNo_any (k n : Int) (f : Nat) (s : ByteArray) (w : World) (e0 : Int) (h0 : ¬ e0 = 0)
    (hck : ∀ w1 : World, Below w.heap.size w w1 → Calls Tryz.prog 35 #[.agg #[.int .i64 k, .int .i64 n, .float .f64 f, .string s]] w1 fun e w' => e = .returned (.int .i64 e0) ∧ Below w1.heap.size w1 w') :
    Calls Tryz.prog 16 #[.agg #[.int .i64 k, .int .i64 n, .float .f64 f, .string s]] w fun e w' => e = .returned (.tuple #[.string ⟨#[]⟩, .int .i64 e0]) ∧ Below w.heap.size w w' := by
  have hal : Below w.heap.size w (w.alloc (.cells #[.int .i64 k, .int .i64 n, .float .f64 f, .string s] 38)) := (Below.refl _ _).alloc (Nat.le_refl _) _
  have CK : Hid (Calls Tryz.prog 35 #[.agg #[.int .i64 k, .int .i64 n, .float .f64 f, .string s]] (w.alloc (.cells #[.int .i64 k, .int .i64 n, .float .f64 f, .string s] 38)) fun e w' => e = .returned (.int .i64 e0) ∧ Below (w.alloc (.cells #[.int .i64 k, .int .i64 n, .float .f64 f, .string s] 38)).heap.size (w.alloc (.cells #[.int .i64 k, .int .i64 n, .float .f64 f, .string s] 38)) w') := hck _ hal
  have HX : Hid (Below w.heap.size w (w.alloc (.cells #[.int .i64 k, .int .i64 n, .float .f64 f, .string s] 38))) := hal
  have h1 : (e0 != 0) = true := by simp [h0]
  clear hal hck h0
  go_enter Tryz.func16, Tryz.ntmps16
  go_wp2_with fail
  generalize w.alloc (.cells #[.int .i64 k, .int .i64 n, .float .f64 f, .string s] 38) = w1 at *
  refine CK.out.mono ?_
  rintro e w2 ⟨rfl, hb2⟩
  have HB : Hid (Below w.heap.size w w2) := HX.out.trans (hb2.mono HX.out.size)
  clear hb2 CK HX
  go_wp2_with fail
  go_ret2
  exact ⟨rfl, HB.out⟩

theorem rtext_any (T : Nat → Int × Int) (F : List UInt8) (k n : Int) (f : Nat) (s : ByteArray) (w : World) (hn0 : -9223372036854775808 ≤ n) (hn1 : n ≤ 9223372036854775807) (hs : s.size ≤ maxLen) (hE : TxE T w) (hF : ∀ w, FlE T w → FlB f F w) :
    Calls Tryz.prog 16 #[.agg #[.int .i64 k, .int .i64 n, .float .f64 f, .string s]] w fun e w' => e = .returned (.tuple #[.string (txtO F k n f s), .int .i64 (chkV k n f s)]) ∧ Below w.heap.size w w' := by
  have hck := fun (w1 : World) (h1 : Below w.heap.size w w1) => rcheckE (hE.on h1) k n f s hs
  by_cases h0 : chkV k n f s = 0
  · obtain ⟨h1, h2, h3⟩ := chkV_ok h0
    unfold txtO
    rw [if_pos h0]
    rw [h0] at hck ⊢
    have h6 : k = 0 ∨ k = 1 ∨ k = 2 ∨ k = 3 ∨ k = 4 ∨ k = 5 := by omega
    rcases h6 with rfl | rfl | rfl | rfl | rfl | rfl
    · exact rtext0_any T F n f s w hn0 hn1 hE hF hck
    · exact rtext1_any T F n f s w hn0 hn1 hE hF hck
    · exact rtext2_any T F n f s w hn0 hn1 hE hF hck
    · exact rtext3_any T F n f s w hn0 hn1 hE hF hck
    · exact rtext4_any n f s w h3 hck
    · exact rtext5_any n f s w h3 hck
  · unfold txtO
    rw [if_neg h0]
    exact rtextNo_any k n f s w _ h0 hck

end Go.Proofs.YthbjheiogghjnaaGreatDoor
