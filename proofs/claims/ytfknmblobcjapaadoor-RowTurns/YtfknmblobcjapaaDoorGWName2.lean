/- The walks of Run, Fits, Name; of the document's words, in, Name. The walk of the document's Name. The walks of value.Check and of what it calls. -/
import Derived.Test.YtfknmblobcjapaaDoorGWName
import Derived.Test.YtfknmblobcjapaaDoorGWQuiet
import Derived.Test.YtfknmblobcjapaaDoorGWVal
namespace Go.Proofs.YtfknmblobcjapaaDoor
open Go.RowKit
set_option maxRecDepth 100000

theorem at_list {s : ByteArray} {j : Nat} (hj : j < s.size) : s[j] = s.data.toList[j]'(by simpa using hj) := by
  rw [Array.getElem_toList]; rfl

set_option maxHeartbeats 2000000 in
theorem run_any (s : ByteArray) (w : World) (hs : s.size ≤ 140737488351232) : Calls Tryd.prog 51 #[.string s, .string ⟨#[95]⟩] w fun e w' => e = .returned (.int .i64 (runN s.data.toList : Nat)) ∧ w' = w := by
  have hl : s.data.toList.length = s.size := by simp
  have HST : Hid (∀ (j : Nat) (hj : j < s.data.toList.length), j ≤ runN s.data.toList → (clsC s.data.toList[j] = true → j + 1 ≤ runN s.data.toList) ∧ (clsC s.data.toList[j] = false → runN s.data.toList = j)) := runN_step _
  have hle := runN_le s.data.toList
  rw [hl] at hle
  obtain ⟨r, hr⟩ : ∃ r, runN s.data.toList = r := ⟨_, rfl⟩
  rw [hr] at HST hle ⊢
  clear hr
  go_enter Tryd.func51, Tryd.ntmps51
  go_wp2_with fail
  go_loopw [5] (fun i wr => ∃ j : Nat, j ≤ r ∧ i = .int .i64 (j : Int) ∧ wr = w) (fun i _ => s.size - (intOf i).toNat)
  case atStart => exact ⟨0, Nat.zero_le _, by go_num, rfl⟩
  case round =>
    obtain ⟨j, hj, rfl, rfl⟩ := hrel
    by_cases hj0 : j = s.size
    · have : j = r := by omega
      subst this
      subst hj0
      go_wp2
      go_ret
      exact ⟨rfl, rfl⟩
    · have hj1 : j < s.size := by omega
      have hst := HST.out j (by omega) hj
      rw [← at_list hj1, cls_let] at hst
      have C1 : Hid (∀ w1, Calls _ _ _ _ _) := fun w1 => isLetter_any s[j] w1
      have C2 : Hid (∀ w1, Calls _ _ _ _ _) := fun w1 => isDigit_any s[j] w1
      have C3 : Hid (∀ w1, Calls Tryd.prog 68 #[.string ⟨#[95]⟩, .int .u8 (s[j].toNat : Int)] w1 fun e w' => e = .returned (.int .i64 (if s[j].toNat = 95 then 0 else -1)) ∧ w' = w1) := fun w1 => by
        have h := Tryd.strings_IndexByte ⟨#[95]⟩ (s[j].toNat : Int) w1
        have e : (s[j].toNat : Int).toNat.toUInt8 = s[j] := by simp
        rw [e] at h
        have e2 : (⟨#[95]⟩ : ByteArray).data.toList = [95] := rfl
        rw [e2, idx_us] at h
        exact h
      cases h1 : letC s[j]
      · rw [h1] at C1 hst
        cases h2 : digC s[j]
        · rw [h2] at C2 hst
          by_cases h3 : s[j].toNat = 95
          · rw [if_pos h3] at C3
            have hgo : j + 1 ≤ r := hst.1 (by simp [h3])
            clear hst HST h1 h2 h3
            go_wp2_with (first | (go_at_call 67; refine (C1.out _).mono ?_; rintro e w' ⟨rfl, hww⟩; obtain rfl := hww.symm) | (go_at_call 50; refine (C2.out _).mono ?_; rintro e w' ⟨rfl, hww⟩; obtain rfl := hww.symm) | (go_at_call 68; refine (C3.out _).mono ?_; rintro e w' ⟨rfl, hww⟩; obtain rfl := hww.symm))
            go_roundw
            case rel => exact ⟨j + 1, hgo, by go_num, by first | rfl | trivial⟩
            case measure => simp [intOf]; omega
          · rw [if_neg h3] at C3
            have hgo : r = j := hst.2 (by simp [h3])
            clear hst HST h1 h2 h3
            go_wp2_with (first | (go_at_call 67; refine (C1.out _).mono ?_; rintro e w' ⟨rfl, hww⟩; obtain rfl := hww.symm) | (go_at_call 50; refine (C2.out _).mono ?_; rintro e w' ⟨rfl, hww⟩; obtain rfl := hww.symm) | (go_at_call 68; refine (C3.out _).mono ?_; rintro e w' ⟨rfl, hww⟩; obtain rfl := hww.symm))
            go_ret
            exact ⟨by rw [hgo]; rfl, rfl⟩
        · rw [h2] at C2 hst
          have hgo : j + 1 ≤ r := hst.1 (by simp)
          clear hst HST h1 h2
          go_wp2_with (first | (go_at_call 67; refine (C1.out _).mono ?_; rintro e w' ⟨rfl, hww⟩; obtain rfl := hww.symm) | (go_at_call 50; refine (C2.out _).mono ?_; rintro e w' ⟨rfl, hww⟩; obtain rfl := hww.symm))
          go_roundw
          case rel => exact ⟨j + 1, hgo, by go_num, by first | rfl | trivial⟩
          case measure => simp [intOf]; omega
      · rw [h1] at C1 hst
        have hgo : j + 1 ≤ r := hst.1 (by simp)
        clear hst HST h1
        go_wp2_with (first | (go_at_call 67; refine (C1.out _).mono ?_; rintro e w' ⟨rfl, hww⟩; obtain rfl := hww.symm))
        go_roundw
        case rel => exact ⟨j + 1, hgo, by go_num, by first | rfl | trivial⟩
        case measure => simp [intOf]; omega

set_option maxHeartbeats 2000000 in
theorem fits_any (s : ByteArray) (w : World) (hs : s.size ≤ 140737488351232) : Calls Tryd.prog 40 #[.string s] w fun e w' => e = .returned (.bool (fitsB s.data.toList)) ∧ w' = w := by
  have C2 : Hid (∀ w1, Calls _ _ _ _ _) := fun w1 => run_any s w1 hs
  have C3 : Hid (∀ w1, Calls _ _ _ _ _) := fun w1 => kept_any s w1
  have hl : s.data.toList.length = s.size := by simp
  by_cases h0 : s.size = 0
  · have he : s = ⟨#[]⟩ := by
      have : s.data.size = 0 := h0
      obtain ⟨d⟩ := s
      have : d = #[] := Array.eq_empty_of_size_eq_zero this
      rw [this]
    subst he
    clear C2 C3
    go_enter Tryd.func40, Tryd.ntmps40
    go_wp2
    go_ret
    exact ⟨rfl, rfl⟩
  · have hp : 0 < s.size := by omega
    have hne : (s.toList == ([] : List UInt8)) = false := by
      rw [beq_eq_false_iff_ne, ByteArray.toList_eq]
      intro e
      rw [e] at hl
      simp at hl
      omega
    have C1 : Hid (∀ w1, Calls _ _ _ _ _) := fun w1 => isDigit_any s[0] w1
    have HF : Hid (fitsB s.data.toList = (!digC s[0] && decide (runN s.data.toList = s.size) && !keptB s.data.toList)) := by
      have key : ∀ (l : List UInt8) (h : 0 < l.length), fitsB l = (!digC l[0] && decide (runN l = l.length) && !keptB l) := by
        intro l h
        rw [runN_all]
        cases l with
        | nil => simp at h
        | cons c l => rfl
      rw [at_list hp]
      have := key s.data.toList (by omega)
      simp only [hl] at this
      exact this
    have hle := runN_le s.data.toList
    rw [hl] at hle
    generalize fitsB s.data.toList = d at *
    generalize keptB s.data.toList = kk at *
    generalize runN s.data.toList = r at *
    cases h1 : digC s[0]
    · rw [h1] at C1 HF
      clear h1
      by_cases h2 : r = s.size
      · subst h2
        cases kk
        all_goals
          go_enter Tryd.func40, Tryd.ntmps40
          go_wp2_with (first | (go_at_call 50; refine (C1.out _).mono ?_; rintro e w' ⟨rfl, hww⟩; obtain rfl := hww.symm) | (go_at_call 51; refine (C2.out _).mono ?_; rintro e w' ⟨rfl, hww⟩; obtain rfl := hww.symm) | (go_at_call 52; refine (C3.out _).mono ?_; rintro e w' ⟨rfl, hww⟩; obtain rfl := hww.symm))
          go_ret
          exact ⟨boolV (by rw [HF.out]; simp), rfl⟩
      · have h2' : ¬ (r : Int) = (s.size : Int) := by omega
        go_enter Tryd.func40, Tryd.ntmps40
        go_wp2_with (first | (go_at_call 50; refine (C1.out _).mono ?_; rintro e w' ⟨rfl, hww⟩; obtain rfl := hww.symm) | (go_at_call 51; refine (C2.out _).mono ?_; rintro e w' ⟨rfl, hww⟩; obtain rfl := hww.symm) | (go_at_call 52; refine (C3.out _).mono ?_; rintro e w' ⟨rfl, hww⟩; obtain rfl := hww.symm))
        go_ret
        exact ⟨boolV (by rw [HF.out]; simp [h2]), rfl⟩
    · rw [h1] at C1 HF
      clear h1
      go_enter Tryd.func40, Tryd.ntmps40
      go_wp2_with (first | (go_at_call 50; refine (C1.out _).mono ?_; rintro e w' ⟨rfl, hww⟩; obtain rfl := hww.symm))
      go_ret
      exact ⟨boolV (by rw [HF.out]; simp), rfl⟩

theorem lower_same (l : List UInt8) (h : l.all clsC = true) : (l == Lib.toLowerA l) = l.all (fun c => !upC c) := by
  rw [Bool.eq_iff_iff, beq_iff_eq]
  unfold Lib.toLowerA
  induction l with
  | nil => simp
  | cons c l ih =>
    simp only [List.all_cons, Bool.and_eq_true] at h
    have ih := ih h.2
    simp only [List.map_cons, List.cons.injEq, List.all_cons, Bool.and_eq_true]
    rw [← ih]
    have hc : c = Lib.lowerB c ↔ (!upC c) = true := by
      have e : Lib.isUpperB c = upC c := by
        unfold Lib.isUpperB upC
        rw [Bool.eq_iff_iff]
        simp [UInt8.le_iff_toNat_le]
      unfold Lib.lowerB
      rw [e]
      cases upC c with
      | false => simp
      | true =>
        simp only [if_true, Bool.not_true, Bool.false_eq_true, iff_false]
        intro h
        have h2 := congrArg UInt8.toNat h
        rw [UInt8.toNat_add] at h2
        have h3 : c.toNat < 256 := UInt8.toNat_lt c
        have h4 : (32 : UInt8).toNat = 32 := rfl
        omega
    rw [hc]

set_option maxHeartbeats 2000000 in
theorem name_any (s : ByteArray) (w : World) (hs : s.size ≤ 140737488351232) : Calls Tryd.prog 28 #[.string s] w fun e w' => e = .returned (.bool (nameB s.data.toList)) ∧ Below w.heap.size w w' := by
  have C1 : Hid (∀ w1, Calls _ _ _ _ _) := fun w1 => fits_any s w1 hs
  have hl : s.data.toList.length = s.size := by simp
  have HN : Hid (nameB s.data.toList = (decide (s.size ≤ 63) && fitsB s.data.toList && s.data.toList.all (fun c => !upC c))) := by
    have h := name_fits s.data.toList
    rw [hl] at h
    exact h
  by_cases h63 : s.size ≤ 63
  · cases hf : fitsB s.data.toList
    · rw [hf] at C1 HN
      generalize nameB s.data.toList = d at *
      go_enter Tryd.func28, Tryd.ntmps28
      go_wp2_with (first | (go_at_call 40; refine (C1.out _).mono ?_; rintro e w' ⟨rfl, hww⟩; obtain rfl := hww.symm))
      go_ret
      exact ⟨boolV (by rw [HN.out]; simp), by go_grown⟩
    · have hall : s.data.toList.all clsC = true := by
        revert hf
        generalize s.data.toList = l
        intro hf
        cases l with
        | nil => rfl
        | cons c l => unfold fitsB at hf; simp only [Bool.and_eq_true] at hf; exact hf.1.2
      have C2 : Hid (∀ w1, Calls _ _ _ _ _) := fun w1 => Tryd.strings_ToLower_ascii s w1 (by omega) (fun j b hj => cls_ascii (List.all_eq_true.1 hall b (List.mem_of_getElem? hj)))
      have hlow := lower_same s.data.toList hall
      have hc : (s.toList == (⟨(Lib.toLowerA s.data.toList).toArray⟩ : ByteArray).toList) = s.data.toList.all (fun c => !upC c) := by
        rw [← hlow, ByteArray.toList_eq, ByteArray.toList_eq]
      rw [hf] at C1 HN
      generalize nameB s.data.toList = d at *
      generalize s.data.toList.all (fun c => !upC c) = u at *
      generalize (⟨(Lib.toLowerA s.data.toList).toArray⟩ : ByteArray) = t at *
      clear hf hall hlow
      go_enter Tryd.func28, Tryd.ntmps28
      go_wp2_with (first | (go_at_call 40; refine (C1.out _).mono ?_; rintro e w' ⟨rfl, hww⟩; obtain rfl := hww.symm) | (go_at_call 41; refine (C2.out _).mono ?_; rintro e w2 ⟨rfl, hb2⟩))
      go_ret
      exact ⟨boolV (by rw [HN.out]; simp [h63]), hb2⟩
  · generalize nameB s.data.toList = d at *
    go_enter Tryd.func28, Tryd.ntmps28
    go_wp2
    go_ret
    exact ⟨boolV (by rw [HN.out]; simp [h63]), by go_grown⟩

/-- the slice at p holds these texts, in a block below B -/
def RowS (w : World) (B : Nat) (p : Option Addr) (L : List ByteArray) : Prop := ∀ i (hi : i < L.length), ∃ b o, p = some ⟨b, o, none⟩ ∧ b < B ∧ w.cell? ⟨b, o + i, none⟩ = some (.string L[i])



def wordsB : List ByteArray := wordsL.map fun l => ⟨l.toArray⟩
theorem wordsB_any (s : ByteArray) : (wordsB.any fun x => x.toList == s.toList) = keptB s.data.toList := by
  unfold keptB wordsB
  rw [List.any_map, List.contains_eq_any_beq, ByteArray.toList_eq]
  congr 1
  funext x
  simp only [Function.comp, ByteArray.toList_eq]
  rw [Bool.eq_iff_iff]
  simp only [beq_iff_eq]
  exact ⟨fun h => h.symm, fun h => h.symm⟩



end Go.Proofs.YtfknmblobcjapaaDoor

namespace Go.Proofs.YtfknmblobcjapaaDoor
open Go.RowKit
set_option maxRecDepth 100000

theorem wordsB_len : wordsB.length = 55 := by kernel_rfl
theorem all_take {p : UInt8 → Bool} {l : List UInt8} {j : Nat} (hj : j < l.length) (h : (l.take j).all p = true) : (l.take (j + 1)).all p = p l[j] := by
  rw [← List.take_append_getElem hj, List.all_append, h]
  simp



end Go.Proofs.YtfknmblobcjapaaDoor

namespace Go.Proofs.YtfknmblobcjapaaDoor
open Go.RowKit Ieee
set_option maxRecDepth 100000

set_option maxHeartbeats 400000 in
theorem kind_any (k : Int) (w : World) :
    Calls Tryd.prog 59 #[.int .i64 k] w fun e w' => e = .returned (.bool (kindB k)) ∧ w' = w := by
  go_enter Tryd.func59, Tryd.ntmps59
  go_wp2
  all_goals go_ret
  all_goals (refine ⟨?_, rfl⟩)
  all_goals (first | (simp [kindB, *]; done) | (simp [kindB]; omega))

set_option maxHeartbeats 400000 in
theorem num_any (k n : Int) (f : Nat) (s : ByteArray) (w : World) :
    Calls Tryd.prog 60 #[.agg #[.int .i64 k, .int .i64 n, .float .f64 f, .string s]] w fun e w' => e = .returned (.bool (numB k n)) ∧ Below w.heap.size w w' := by
  go_enter Tryd.func60, Tryd.ntmps60
  go_wp2
  all_goals go_ret
  all_goals (refine ⟨?_, by go_grown⟩)
  all_goals (simp [numB, *])

set_option maxHeartbeats 400000 in
theorem flo_any (k n : Int) (f : Nat) (s : ByteArray) (w : World) :
    Calls Tryd.prog 61 #[.agg #[.int .i64 k, .int .i64 n, .float .f64 f, .string s]] w fun e w' => e = .returned (.bool (floB k f)) ∧ Below w.heap.size w w' := by
  go_enter Tryd.func61, Tryd.ntmps61
  go_wp2_with (first | (go_at_call 20; refine (sameBits_any _ _ _).mono ?_; rintro e w' ⟨rfl, rfl⟩))
  all_goals go_ret
  all_goals (refine ⟨?_, by go_grown⟩)
  all_goals (simp [floB, *])

/-- one value's box -/
abbrev C1 (b : Nat) (k n : Int) (f : Nat) (s : ByteArray) (w' : World) : Prop :=
  w'.cell? ⟨b, 0, none⟩ = some (.int .i64 k) ∧ w'.cell? ⟨b, 1, none⟩ = some (.int .i64 n) ∧ w'.cell? ⟨b, 2, none⟩ = some (.float .f64 f) ∧ w'.cell? ⟨b, 3, none⟩ = some (.string s)
theorem c1_keep {b : Nat} {k n : Int} {f : Nat} {s : ByteArray} {B : Nat} {wp w' : World} (hb : Below B wp w') (hB : b < B) (h : C1 b k n f s wp) : C1 b k n f s w' := by
  obtain ⟨h1, h2, h3, h4⟩ := h
  have o : ∀ {o : Nat} {v : Option Value}, wp.cell? ⟨b, o, none⟩ = v → w'.cell? ⟨b, o, none⟩ = v := fun {o v} hc => (hb.cell (p := ⟨b, o, none⟩) hB).trans hc
  exact ⟨o h1, o h2, o h3, o h4⟩
theorem c1_new (w : World) (k n : Int) (f : Nat) (s : ByteArray) : C1 w.heap.size k n f s (w.alloc (.cells #[.int .i64 k, .int .i64 n, .float .f64 f, .string s] 44)) := by
  refine ⟨?_, ?_, ?_, ?_⟩ <;> simp [go_sem]

set_option maxHeartbeats 1000000 in
theorem check_any (k n : Int) (f : Nat) (s : ByteArray) (w : World) (hs : s.size ≤ maxLen)
    (hv : ∀ w1 : World, Below w.heap.size w w1 → Calls Tryd.prog 62 #[.agg #[.int .i64 k, .int .i64 n, .float .f64 f, .string s]] w1 fun e w' => e = .returned (.bool (strB k s)) ∧ Below w1.heap.size w1 w') :
    Calls Tryd.prog 44 #[.agg #[.int .i64 k, .int .i64 n, .float .f64 f, .string s]] w fun e w' => e = .returned (.int .i64 (chkV k n f s)) ∧ Below w.heap.size w w' := by
  unfold maxLen at hs
  have HV : Hid (∀ w1 : World, Below w.heap.size w w1 → _) := hv
  clear hv
  cases h1 : kindB k
  · go_enter Tryd.func44, Tryd.ntmps44
    go_wp2_with (first | (go_at_call 59; refine (kind_any _ _).mono ?_; rintro e w' ⟨rfl, rfl⟩))
    go_ret
    exact ⟨by simp [chkV, h1], by go_grown⟩
  cases h2 : numB k n
  · go_enter Tryd.func44, Tryd.ntmps44
    go_wp2_with (first | (go_at_call 59; refine (kind_any _ _).mono ?_; rintro e w' ⟨rfl, rfl⟩))
    refine (num_any _ _ _ _ _).mono ?_
    rintro e w1 ⟨rfl, hb1⟩
    have hz1 := hb1.size
    simp at hz1
    go_wp2
    go_ret
    exact ⟨by simp [chkV, h2], Below.trans (by go_grown) (hb1.mono (by simp))⟩
  cases h3 : floB k f
  · go_enter Tryd.func44, Tryd.ntmps44
    go_wp2_with (first | (go_at_call 59; refine (kind_any _ _).mono ?_; rintro e w' ⟨rfl, rfl⟩))
    refine (num_any _ _ _ _ _).mono ?_
    rintro e w1 ⟨rfl, hb1⟩
    have hz1 := hb1.size
    simp at hz1
    have C := c1_keep hb1 (by simp) (c1_new w k n f s)
    obtain ⟨x1, x2, x3, x4⟩ := C
    go_wp2_with fail
    refine (flo_any _ _ _ _ _).mono ?_
    rintro e w2 ⟨rfl, hb2⟩
    have hz2 := hb2.size
    have B2 : Hid (Below w.heap.size w w2) := Below.trans (Below.trans (by go_grown) (hb1.mono (by simp))) (hb2.mono (by omega))
    go_wp2
    go_ret
    exact ⟨by simp [chkV, h3], B2.out⟩
  cases h4 : strB k s
  · go_enter Tryd.func44, Tryd.ntmps44
    go_wp2_with (first | (go_at_call 59; refine (kind_any _ _).mono ?_; rintro e w' ⟨rfl, rfl⟩))
    refine (num_any _ _ _ _ _).mono ?_
    rintro e w1 ⟨rfl, hb1⟩
    have hz1 := hb1.size
    simp at hz1
    have C := c1_keep hb1 (by simp) (c1_new w k n f s)
    obtain ⟨x1, x2, x3, x4⟩ := C
    go_wp2_with fail
    refine (flo_any _ _ _ _ _).mono ?_
    rintro e w2 ⟨rfl, hb2⟩
    have hz2 := hb2.size
    have B2 : Hid (Below w.heap.size w w2) := Below.trans (Below.trans (by go_grown) (hb1.mono (by simp))) (hb2.mono (by omega))
    obtain ⟨x1, x2, x3, x4⟩ := c1_keep hb2 (by omega) ⟨x1, x2, x3, x4⟩
    go_wp2_with fail
    refine (HV.out _ B2.out).mono ?_
    rintro e w3 ⟨rfl, hb3⟩
    have hz3 := hb3.size
    obtain ⟨x1, x2, x3, x4⟩ := c1_keep hb3 (by omega) ⟨x1, x2, x3, x4⟩
    have B3 : Hid (Below w.heap.size w w3) := B2.out.trans (hb3.mono (by omega))
    go_wp2
    go_ret
    exact ⟨by simp [chkV, h4], B3.out⟩
  by_cases h5 : (65536 : Int) < (s.size : Int)
  · go_enter Tryd.func44, Tryd.ntmps44
    go_wp2_with (first | (go_at_call 59; refine (kind_any _ _).mono ?_; rintro e w' ⟨rfl, rfl⟩))
    refine (num_any _ _ _ _ _).mono ?_
    rintro e w1 ⟨rfl, hb1⟩
    have hz1 := hb1.size
    simp at hz1
    have C := c1_keep hb1 (by simp) (c1_new w k n f s)
    obtain ⟨x1, x2, x3, x4⟩ := C
    go_wp2_with fail
    refine (flo_any _ _ _ _ _).mono ?_
    rintro e w2 ⟨rfl, hb2⟩
    have hz2 := hb2.size
    have B2 : Hid (Below w.heap.size w w2) := Below.trans (Below.trans (by go_grown) (hb1.mono (by simp))) (hb2.mono (by omega))
    obtain ⟨x1, x2, x3, x4⟩ := c1_keep hb2 (by omega) ⟨x1, x2, x3, x4⟩
    go_wp2_with fail
    refine (HV.out _ B2.out).mono ?_
    rintro e w3 ⟨rfl, hb3⟩
    have hz3 := hb3.size
    obtain ⟨x1, x2, x3, x4⟩ := c1_keep hb3 (by omega) ⟨x1, x2, x3, x4⟩
    have B3 : Hid (Below w.heap.size w w3) := B2.out.trans (hb3.mono (by omega))
    go_wp2
    go_ret
    exact ⟨by simp [chkV, h1, h2, h3, h4, h5], B3.out⟩
  · go_enter Tryd.func44, Tryd.ntmps44
    go_wp2_with (first | (go_at_call 59; refine (kind_any _ _).mono ?_; rintro e w' ⟨rfl, rfl⟩))
    refine (num_any _ _ _ _ _).mono ?_
    rintro e w1 ⟨rfl, hb1⟩
    have hz1 := hb1.size
    simp at hz1
    have C := c1_keep hb1 (by simp) (c1_new w k n f s)
    obtain ⟨x1, x2, x3, x4⟩ := C
    go_wp2_with fail
    refine (flo_any _ _ _ _ _).mono ?_
    rintro e w2 ⟨rfl, hb2⟩
    have hz2 := hb2.size
    have B2 : Hid (Below w.heap.size w w2) := Below.trans (Below.trans (by go_grown) (hb1.mono (by simp))) (hb2.mono (by omega))
    obtain ⟨x1, x2, x3, x4⟩ := c1_keep hb2 (by omega) ⟨x1, x2, x3, x4⟩
    go_wp2_with fail
    refine (HV.out _ B2.out).mono ?_
    rintro e w3 ⟨rfl, hb3⟩
    have hz3 := hb3.size
    obtain ⟨x1, x2, x3, x4⟩ := c1_keep hb3 (by omega) ⟨x1, x2, x3, x4⟩
    have B3 : Hid (Below w.heap.size w w3) := B2.out.trans (hb3.mono (by omega))
    go_wp2
    go_ret
    exact ⟨by simp [chkV, h1, h2, h3, h4, h5], B3.out⟩

end Go.Proofs.YtfknmblobcjapaaDoor
