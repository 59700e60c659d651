/- Text of any value, on both sides. -/
import Derived.Test.YtljiokkdaelmpaaGreatDoorWFt3
namespace Go.Proofs.YtljiokkdaelmpaaGreatDoor
open Go.RowKit
set_option maxRecDepth 100000

/-- what Text tells of a value that may be; F: the text of its float -/
def txtV (F : List UInt8) (k n : Int) (s : ByteArray) : List UInt8 :=
  if k = 1 then (if n = 1 then [116, 114, 117, 101] else [102, 97, 108, 115, 101]) else if k = 2 then Lib.itoa n else if k = 3 then F else if k = 4 then [39] ++ qesc s.data.toList ++ [39] else if k = 5 then [120, 39] ++ hexL s.data.toList ++ [39] else [110, 117, 108, 108]
/-- what the texts of values read -/
structure TxE (T : Nat → Int × Int) (w : World) : Prop where
  fl : FlE T w
  ml : 3 < w.heap.size ∧ ∃ m : Int, w.cell? ⟨3, 0, none⟩ = some (.int .i64 m)
  ug : 2 < w.heap.size
  ut : Lib.Utf8Tabs 1 2 w
theorem TxE.on {T : Nat → Int × Int} {w w' : World} (h : TxE T w) (hb : Below w.heap.size w w') : TxE T w' := by
  obtain ⟨h1, m, h2⟩ := h.ml
  exact ⟨h.fl.on hb, ⟨Nat.lt_of_lt_of_le h1 hb.size, m, old_cell hb h1 h2⟩, Nat.lt_of_lt_of_le h.ug hb.size, tabs_keep hb h.ug h.ut⟩

theorem boolText_any (n : Int) (w : World) :
    Calls Tryz.prog 36 #[.int .i64 n] w fun e w' => e = .returned (.string ⟨(if n = 1 then [116, 114, 117, 101] else [102, 97, 108, 115, 101] : List UInt8).toArray⟩) ∧ w' = w := by
  by_cases h : n = 1
  · subst h
    go_enter Tryz.func36, Tryz.ntmps36
    go_wp2
    go_ret
    exact ⟨rfl, rfl⟩
  · have h1 : (n == 1) = false := by simp [h]
    rw [if_neg h]
    clear h
    go_enter Tryz.func36, Tryz.ntmps36
    go_wp2
    go_ret
    exact ⟨rfl, rfl⟩

theorem fmtInt_any (n : Int) (h0 : -9223372036854775808 ≤ n) (h1 : n ≤ 9223372036854775807) (w : World) (htab : Lib.TabIs Tryz.prog w "internal/strconv.uint64pow10" .u64 Lib.pow10Tab) :
    Calls Tryz.prog 20 #[.int .i64 n, .int .i64 10] w fun e w' => e = .returned (.string ⟨(Lib.itoa n).toArray⟩) ∧ Below w.heap.size w w' := by
  refine (Tryz.strconv_FormatInt_10 n h0 h1 w htab).mono ?_
  rintro e w1 ⟨rfl, q, os, rfl⟩
  refine ⟨rfl, ⟨rfl, rfl, rfl, ?_, fun k hk => ?_⟩⟩
  · simp [Go.Sort.grow, World.drewN]
  · simp only [Go.Sort.grow]
    have hk2 : k < (w.drewN q).heap.size := hk
    rw [Array.getElem?_append_left hk2]
    rfl

theorem repl_any (s : ByteArray) (hs : s.size ≤ 65536) (T : Nat → Int × Int) (w : World) (hE : TxE T w) :
    Calls Tryz.prog 38 #[.string s, .string ⟨#[39]⟩, .string ⟨#[39, 39]⟩] w fun e w' => e = .returned (.string ⟨(qesc s.data.toList).toArray⟩) ∧ Below w.heap.size w w' := by
  obtain ⟨_, m, hm⟩ := hE.ml
  have hl := Lib.count_le s.data.toList [39]
  have hl2 : Lib.countB s ⟨#[39]⟩ ≤ s.size + 1 := by
    have e : s.data.toList.length = s.size := by simp
    rw [e] at hl
    exact hl
  have h := Tryz.strings_ReplaceAll s ⟨#[39]⟩ ⟨#[39, 39]⟩ m w (by omega) hm (by decide) (by
    have e : (⟨#[39, 39]⟩ : ByteArray).size = 2 := rfl
    rw [e]
    omega)
  have e : Lib.replaceAll s.data.toList (⟨#[39]⟩ : ByteArray).data.toList (⟨#[39, 39]⟩ : ByteArray).data.toList = qesc s.data.toList := repl_q s.data.toList
  rw [e] at h
  exact h

theorem cat_q (l : List UInt8) : (⟨#[39]⟩ : ByteArray) ++ ⟨l.toArray⟩ ++ ⟨#[39]⟩ = ⟨([39] ++ l ++ [39]).toArray⟩ := by
  apply ByteArray.ext
  simp

set_option maxHeartbeats 4000000 in
theorem textFrom_any (T : Nat → Int × Int) (F : List UInt8) (k n : Int) (f : Nat) (s : ByteArray) (w : World) (hk0 : 0 ≤ k) (hk5 : k ≤ 5) (hn0 : -9223372036854775808 ≤ n) (hn1 : n ≤ 9223372036854775807) (hs : s.size ≤ 65536) (hE : TxE T w) (hF : ∀ w, FlE T w → FlB f F w) :
    Calls Tryz.prog 18 #[.agg #[.int .i64 k, .int .i64 n, .float .f64 f, .string s]] w fun e w' => e = .returned (.string ⟨(txtV F k n s).toArray⟩) ∧ Below w.heap.size w w' := by
  have h6 : k = 0 ∨ k = 1 ∨ k = 2 ∨ k = 3 ∨ k = 4 ∨ k = 5 := by omega
  have HW : Hid (∀ c : Array Value, Below w.heap.size w (w.alloc (.cells c 24)) ∧ TxE T (w.alloc (.cells c 24)) ∧ w.heap.size ≤ (w.alloc (.cells c 24)).heap.size) := fun c => ⟨(Below.refl _ _).alloc (Nat.le_refl _) _, hE.on ((Below.refl _ _).alloc (Nat.le_refl _) _), by simp⟩
  clear hE hk0 hk5
  rcases h6 with rfl | rfl | rfl | rfl | rfl | rfl
  · clear hF
    go_enter Tryz.func18, Tryz.ntmps18
    go_wp2
    go_ret
    exact ⟨rfl, (HW.out _).1⟩
  · clear hF
    have C1 : Hid (∀ w1 : World, Calls _ _ _ _ _) := fun w1 => boolText_any n w1
    show Calls _ _ _ _ (fun e w' => e = .returned (.string ⟨(if n = 1 then [116, 114, 117, 101] else [102, 97, 108, 115, 101] : List UInt8).toArray⟩) ∧ Below w.heap.size w w')
    generalize (if n = 1 then [116, 114, 117, 101] else [102, 97, 108, 115, 101] : List UInt8) = r at *
    go_enter Tryz.func18, Tryz.ntmps18
    go_wp2_with fail
    refine (C1.out _).mono ?_
    rintro e w1 ⟨rfl, hw1⟩
    rw [hw1]
    clear hw1
    go_wp2_with fail
    go_ret
    exact ⟨rfl, (HW.out _).1⟩
  · clear hF
    have C1 : Hid (∀ c : Array Value, Calls Tryz.prog 20 #[.int .i64 n, .int .i64 10] (w.alloc (.cells c 24)) fun e w' => e = .returned (.string ⟨(Lib.itoa n).toArray⟩) ∧ Below (w.alloc (.cells c 24)).heap.size (w.alloc (.cells c 24)) w') := fun c => fmtInt_any n hn0 hn1 _ (HW.out c).2.1.fl.tab
    show Calls _ _ _ _ (fun e w' => e = .returned (.string ⟨(Lib.itoa n).toArray⟩) ∧ Below w.heap.size w w')
    generalize Lib.itoa n = r at *
    clear hn0 hn1
    go_enter Tryz.func18, Tryz.ntmps18
    go_wp2_with fail
    refine (C1.out _).mono ?_
    rintro e w1 ⟨rfl, hb1⟩
    have HB : Hid (Below w.heap.size w w1) := (HW.out _).1.trans (hb1.mono (HW.out _).2.2)
    clear hb1
    go_wp2_with fail
    go_ret
    exact ⟨rfl, HB.out⟩
  · have C1 : Hid (∀ c : Array Value, Calls Tryz.prog 37 #[.float .f64 f] (w.alloc (.cells c 24)) fun e w' => e = .returned (.string ⟨F.toArray⟩) ∧ Below (w.alloc (.cells c 24)).heap.size (w.alloc (.cells c 24)) w') := fun c => (hF _ (HW.out c).2.1.fl).1
    clear hF hn0 hn1
    show Calls _ _ _ _ (fun e w' => e = .returned (.string ⟨F.toArray⟩) ∧ Below w.heap.size w w')
    go_enter Tryz.func18, Tryz.ntmps18
    go_wp2_with fail
    refine (C1.out _).mono ?_
    rintro e w1 ⟨rfl, hb1⟩
    have HB : Hid (Below w.heap.size w w1) := (HW.out _).1.trans (hb1.mono (HW.out _).2.2)
    clear hb1
    go_wp2_with fail
    go_ret
    exact ⟨rfl, HB.out⟩
  · have C1 : Hid (∀ c : Array Value, Calls Tryz.prog 38 #[.string s, .string ⟨#[39]⟩, .string ⟨#[39, 39]⟩] (w.alloc (.cells c 24)) fun e w' => e = .returned (.string ⟨(qesc s.data.toList).toArray⟩) ∧ Below (w.alloc (.cells c 24)).heap.size (w.alloc (.cells c 24)) w') := fun c => repl_any s hs T _ (HW.out c).2.1
    clear hF hn0 hn1
    have hq := cat_q (qesc s.data.toList)
    show Calls _ _ _ _ (fun e w' => e = .returned (.string ⟨([39] ++ qesc s.data.toList ++ [39]).toArray⟩) ∧ Below w.heap.size w w')
    rw [← hq]
    clear hq
    have hr : (⟨(qesc s.data.toList).toArray⟩ : ByteArray).size ≤ 131072 := by
      have h1 := qesc_len s.data.toList
      have e : s.data.toList.length = s.size := by simp
      rw [e] at h1
      have e2 : (⟨(qesc s.data.toList).toArray⟩ : ByteArray).size = (qesc s.data.toList).length := rfl
      omega
    clear hs
    generalize (⟨(qesc s.data.toList).toArray⟩ : ByteArray) = r at *
    have hr1 : ¬ 9223372036854775807 < 1 + r.size := by omega
    have hr2 : ¬ 9223372036854775807 < 1 + r.size + 1 := by omega
    clear hr
    go_enter Tryz.func18, Tryz.ntmps18
    go_wp2_with fail
    refine (C1.out _).mono ?_
    rintro e w1 ⟨rfl, hb1⟩
    have HB : Hid (Below w.heap.size w w1) := (HW.out _).1.trans (hb1.mono (HW.out _).2.2)
    clear hb1
    go_wp2_with fail
    go_ret
    exact ⟨rfl, HB.out⟩
  · have C1 : Hid (∀ w1 : World, Calls Tryz.prog 39 #[.string s] w1 fun e w' => e = .returned (.string ⟨([120, 39] ++ hexL s.data.toList ++ [39]).toArray⟩) ∧ Below w1.heap.size w1 w') := fun w1 => bytesText_any s w1 hs
    clear hF hn0 hn1 hs
    show Calls _ _ _ _ (fun e w' => e = .returned (.string ⟨([120, 39] ++ hexL s.data.toList ++ [39]).toArray⟩) ∧ Below w.heap.size w w')
    generalize [120, 39] ++ hexL s.data.toList ++ [39] = r at *
    go_enter Tryz.func18, Tryz.ntmps18
    go_wp2_with fail
    refine (C1.out _).mono ?_
    rintro e w1 ⟨rfl, hb1⟩
    have HB : Hid (Below w.heap.size w w1) := (HW.out _).1.trans (hb1.mono (HW.out _).2.2)
    clear hb1
    go_wp2_with fail
    go_ret
    exact ⟨rfl, HB.out⟩
end Go.Proofs.YtljiokkdaelmpaaGreatDoor
