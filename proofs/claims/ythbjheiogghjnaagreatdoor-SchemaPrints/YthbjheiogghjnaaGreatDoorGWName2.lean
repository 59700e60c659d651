/- The walks of Run, Fits, Name; of the document's words, in, Name. The walk of the document's Name. -/
import Derived.Test.YthbjheiogghjnaaGreatDoorGWName
import Derived.Test.YthbjheiogghjnaaGreatDoorGWQuiet
namespace Go.Proofs.YthbjheiogghjnaaGreatDoor
open Go.RowKit
set_option maxRecDepth 100000

theorem at_list {s : ByteArray} {j : Nat} (hj : j < s.size) : s[j] = s.data.toList[j]'(by simpa using hj) := by
  rw [Array.getElem_toList]; rfl

set_option maxHeartbeats 2000000 in
theorem run_any (s : ByteArray) (w : World) (hs : s.size ≤ 140737488351232) : Calls Tryz.prog 58 #[.string s, .string ⟨#[95]⟩] w fun e w' => e = .returned (.int .i64 (runN s.data.toList : Nat)) ∧ w' = w := by
  have hl : s.data.toList.length = s.size := by simp
  have HST : Hid (∀ (j : Nat) (hj : j < s.data.toList.length), j ≤ runN s.data.toList → (clsC s.data.toList[j] = true → j + 1 ≤ runN s.data.toList) ∧ (clsC s.data.toList[j] = false → runN s.data.toList = j)) := runN_step _
  have hle := runN_le s.data.toList
  rw [hl] at hle
  obtain ⟨r, hr⟩ : ∃ r, runN s.data.toList = r := ⟨_, rfl⟩
  rw [hr] at HST hle ⊢
  clear hr
  go_enter Tryz.func58, Tryz.ntmps58
  go_wp2_with fail
  go_loopw [5] (fun i wr => ∃ j : Nat, j ≤ r ∧ i = .int .i64 (j : Int) ∧ wr = w) (fun i _ => s.size - (intOf i).toNat)
  case atStart => exact ⟨0, Nat.zero_le _, by go_num, rfl⟩
  case round =>
    obtain ⟨j, hj, rfl, rfl⟩ := hrel
    by_cases hj0 : j = s.size
    · have : j = r := by omega
      subst this
      subst hj0
      go_wp2
      go_ret
      exact ⟨rfl, rfl⟩
    · have hj1 : j < s.size := by omega
      have hst := HST.out j (by omega) hj
      rw [← at_list hj1, cls_let] at hst
      have C1 : Hid (∀ w1, Calls _ _ _ _ _) := fun w1 => isLetter_any s[j] w1
      have C2 : Hid (∀ w1, Calls _ _ _ _ _) := fun w1 => isDigit_any s[j] w1
      have C3 : Hid (∀ w1, Calls Tryz.prog 80 #[.string ⟨#[95]⟩, .int .u8 (s[j].toNat : Int)] w1 fun e w' => e = .returned (.int .i64 (if s[j].toNat = 95 then 0 else -1)) ∧ w' = w1) := fun w1 => by
        have h := Tryz.strings_IndexByte ⟨#[95]⟩ (s[j].toNat : Int) w1
        have e : (s[j].toNat : Int).toNat.toUInt8 = s[j] := by simp
        rw [e] at h
        have e2 : (⟨#[95]⟩ : ByteArray).data.toList = [95] := rfl
        rw [e2, idx_us] at h
        exact h
      cases h1 : letC s[j]
      · rw [h1] at C1 hst
        cases h2 : digC s[j]
        · rw [h2] at C2 hst
          by_cases h3 : s[j].toNat = 95
          · rw [if_pos h3] at C3
            have hgo : j + 1 ≤ r := hst.1 (by simp [h3])
            clear hst HST h1 h2 h3
            go_wp2_with (first | (go_at_call 79; refine (C1.out _).mono ?_; rintro e w' ⟨rfl, hww⟩; obtain rfl := hww.symm) | (go_at_call 57; refine (C2.out _).mono ?_; rintro e w' ⟨rfl, hww⟩; obtain rfl := hww.symm) | (go_at_call 80; refine (C3.out _).mono ?_; rintro e w' ⟨rfl, hww⟩; obtain rfl := hww.symm))
            go_roundw
            case rel => exact ⟨j + 1, hgo, by go_num, by first | rfl | trivial⟩
            case measure => simp [intOf]; omega
          · rw [if_neg h3] at C3
            have hgo : r = j := hst.2 (by simp [h3])
            clear hst HST h1 h2 h3
            go_wp2_with (first | (go_at_call 79; refine (C1.out _).mono ?_; rintro e w' ⟨rfl, hww⟩; obtain rfl := hww.symm) | (go_at_call 57; refine (C2.out _).mono ?_; rintro e w' ⟨rfl, hww⟩; obtain rfl := hww.symm) | (go_at_call 80; refine (C3.out _).mono ?_; rintro e w' ⟨rfl, hww⟩; obtain rfl := hww.symm))
            go_ret
            exact ⟨by rw [hgo]; rfl, rfl⟩
        · rw [h2] at C2 hst
          have hgo : j + 1 ≤ r := hst.1 (by simp)
          clear hst HST h1 h2
          go_wp2_with (first | (go_at_call 79; refine (C1.out _).mono ?_; rintro e w' ⟨rfl, hww⟩; obtain rfl := hww.symm) | (go_at_call 57; refine (C2.out _).mono ?_; rintro e w' ⟨rfl, hww⟩; obtain rfl := hww.symm))
          go_roundw
          case rel => exact ⟨j + 1, hgo, by go_num, by first | rfl | trivial⟩
          case measure => simp [intOf]; omega
      · rw [h1] at C1 hst
        have hgo : j + 1 ≤ r := hst.1 (by simp)
        clear hst HST h1
        go_wp2_with (first | (go_at_call 79; refine (C1.out _).mono ?_; rintro e w' ⟨rfl, hww⟩; obtain rfl := hww.symm))
        go_roundw
        case rel => exact ⟨j + 1, hgo, by go_num, by first | rfl | trivial⟩
        case measure => simp [intOf]; omega

set_option maxHeartbeats 2000000 in
theorem fits_any (s : ByteArray) (w : World) (hs : s.size ≤ 140737488351232) : Calls Tryz.prog 40 #[.string s] w fun e w' => e = .returned (.bool (fitsB s.data.toList)) ∧ w' = w := by
  have C2 : Hid (∀ w1, Calls _ _ _ _ _) := fun w1 => run_any s w1 hs
  have C3 : Hid (∀ w1, Calls _ _ _ _ _) := fun w1 => kept_any s w1
  have hl : s.data.toList.length = s.size := by simp
  by_cases h0 : s.size = 0
  · have he : s = ⟨#[]⟩ := by
      have : s.data.size = 0 := h0
      obtain ⟨d⟩ := s
      have : d = #[] := Array.eq_empty_of_size_eq_zero this
      rw [this]
    subst he
    clear C2 C3
    go_enter Tryz.func40, Tryz.ntmps40
    go_wp2
    go_ret
    exact ⟨rfl, rfl⟩
  · have hp : 0 < s.size := by omega
    have hne : (s.toList == ([] : List UInt8)) = false := by
      rw [beq_eq_false_iff_ne, ByteArray.toList_eq]
      intro e
      rw [e] at hl
      simp at hl
      omega
    have C1 : Hid (∀ w1, Calls _ _ _ _ _) := fun w1 => isDigit_any s[0] w1
    have HF : Hid (fitsB s.data.toList = (!digC s[0] && decide (runN s.data.toList = s.size) && !keptB s.data.toList)) := by
      have key : ∀ (l : List UInt8) (h : 0 < l.length), fitsB l = (!digC l[0] && decide (runN l = l.length) && !keptB l) := by
        intro l h
        rw [runN_all]
        cases l with
        | nil => simp at h
        | cons c l => rfl
      rw [at_list hp]
      have := key s.data.toList (by omega)
      simp only [hl] at this
      exact this
    have hle := runN_le s.data.toList
    rw [hl] at hle
    generalize fitsB s.data.toList = d at *
    generalize keptB s.data.toList = kk at *
    generalize runN s.data.toList = r at *
    cases h1 : digC s[0]
    · rw [h1] at C1 HF
      clear h1
      by_cases h2 : r = s.size
      · subst h2
        cases kk
        all_goals
          go_enter Tryz.func40, Tryz.ntmps40
          go_wp2_with (first | (go_at_call 57; refine (C1.out _).mono ?_; rintro e w' ⟨rfl, hww⟩; obtain rfl := hww.symm) | (go_at_call 58; refine (C2.out _).mono ?_; rintro e w' ⟨rfl, hww⟩; obtain rfl := hww.symm) | (go_at_call 59; refine (C3.out _).mono ?_; rintro e w' ⟨rfl, hww⟩; obtain rfl := hww.symm))
          go_ret
          exact ⟨boolV (by rw [HF.out]; simp), rfl⟩
      · have h2' : ¬ (r : Int) = (s.size : Int) := by omega
        go_enter Tryz.func40, Tryz.ntmps40
        go_wp2_with (first | (go_at_call 57; refine (C1.out _).mono ?_; rintro e w' ⟨rfl, hww⟩; obtain rfl := hww.symm) | (go_at_call 58; refine (C2.out _).mono ?_; rintro e w' ⟨rfl, hww⟩; obtain rfl := hww.symm) | (go_at_call 59; refine (C3.out _).mono ?_; rintro e w' ⟨rfl, hww⟩; obtain rfl := hww.symm))
        go_ret
        exact ⟨boolV (by rw [HF.out]; simp [h2]), rfl⟩
    · rw [h1] at C1 HF
      clear h1
      go_enter Tryz.func40, Tryz.ntmps40
      go_wp2_with (first | (go_at_call 57; refine (C1.out _).mono ?_; rintro e w' ⟨rfl, hww⟩; obtain rfl := hww.symm))
      go_ret
      exact ⟨boolV (by rw [HF.out]; simp), rfl⟩

theorem lower_same (l : List UInt8) (h : l.all clsC = true) : (l == Lib.toLowerA l) = l.all (fun c => !upC c) := by
  rw [Bool.eq_iff_iff, beq_iff_eq]
  unfold Lib.toLowerA
  induction l with
  | nil => simp
  | cons c l ih =>
    simp only [List.all_cons, Bool.and_eq_true] at h
    have ih := ih h.2
    simp only [List.map_cons, List.cons.injEq, List.all_cons, Bool.and_eq_true]
    rw [← ih]
    have hc : c = Lib.lowerB c ↔ (!upC c) = true := by
      have e : Lib.isUpperB c = upC c := by
        unfold Lib.isUpperB upC
        rw [Bool.eq_iff_iff]
        simp [UInt8.le_iff_toNat_le]
      unfold Lib.lowerB
      rw [e]
      cases upC c with
      | false => simp
      | true =>
        simp only [if_true, Bool.not_true, Bool.false_eq_true, iff_false]
        intro h
        have h2 := congrArg UInt8.toNat h
        rw [UInt8.toNat_add] at h2
        have h3 : c.toNat < 256 := UInt8.toNat_lt c
        have h4 : (32 : UInt8).toNat = 32 := rfl
        omega
    rw [hc]

set_option maxHeartbeats 2000000 in
theorem name_any (s : ByteArray) (w : World) (hs : s.size ≤ 140737488351232) : Calls Tryz.prog 21 #[.string s] w fun e w' => e = .returned (.bool (nameB s.data.toList)) ∧ Below w.heap.size w w' := by
  have C1 : Hid (∀ w1, Calls _ _ _ _ _) := fun w1 => fits_any s w1 hs
  have hl : s.data.toList.length = s.size := by simp
  have HN : Hid (nameB s.data.toList = (decide (s.size ≤ 63) && fitsB s.data.toList && s.data.toList.all (fun c => !upC c))) := by
    have h := name_fits s.data.toList
    rw [hl] at h
    exact h
  by_cases h63 : s.size ≤ 63
  · cases hf : fitsB s.data.toList
    · rw [hf] at C1 HN
      generalize nameB s.data.toList = d at *
      go_enter Tryz.func21, Tryz.ntmps21
      go_wp2_with (first | (go_at_call 40; refine (C1.out _).mono ?_; rintro e w' ⟨rfl, hww⟩; obtain rfl := hww.symm))
      go_ret
      exact ⟨boolV (by rw [HN.out]; simp), by go_grown⟩
    · have hall : s.data.toList.all clsC = true := by
        revert hf
        generalize s.data.toList = l
        intro hf
        cases l with
        | nil => rfl
        | cons c l => unfold fitsB at hf; simp only [Bool.and_eq_true] at hf; exact hf.1.2
      have C2 : Hid (∀ w1, Calls _ _ _ _ _) := fun w1 => Tryz.strings_ToLower_ascii s w1 (by omega) (fun j b hj => cls_ascii (List.all_eq_true.1 hall b (List.mem_of_getElem? hj)))
      have hlow := lower_same s.data.toList hall
      have hc : (s.toList == (⟨(Lib.toLowerA s.data.toList).toArray⟩ : ByteArray).toList) = s.data.toList.all (fun c => !upC c) := by
        rw [← hlow, ByteArray.toList_eq, ByteArray.toList_eq]
      rw [hf] at C1 HN
      generalize nameB s.data.toList = d at *
      generalize s.data.toList.all (fun c => !upC c) = u at *
      generalize (⟨(Lib.toLowerA s.data.toList).toArray⟩ : ByteArray) = t at *
      clear hf hall hlow
      go_enter Tryz.func21, Tryz.ntmps21
      go_wp2_with (first | (go_at_call 40; refine (C1.out _).mono ?_; rintro e w' ⟨rfl, hww⟩; obtain rfl := hww.symm) | (go_at_call 41; refine (C2.out _).mono ?_; rintro e w2 ⟨rfl, hb2⟩))
      go_ret
      exact ⟨boolV (by rw [HN.out]; simp [h63]), hb2⟩
  · generalize nameB s.data.toList = d at *
    go_enter Tryz.func21, Tryz.ntmps21
    go_wp2
    go_ret
    exact ⟨boolV (by rw [HN.out]; simp [h63]), by go_grown⟩

/-- the slice at p holds these texts, in a block below B -/
def RowS (w : World) (B : Nat) (p : Option Addr) (L : List ByteArray) : Prop := ∀ i (hi : i < L.length), ∃ b o, p = some ⟨b, o, none⟩ ∧ b < B ∧ w.cell? ⟨b, o + i, none⟩ = some (.string L[i])

set_option maxHeartbeats 2000000 in
theorem rin_any (L : List ByteArray) (s : ByteArray) (p : Option Addr) (c : Nat) (w : World) (hR : RowS w w.heap.size p L) (hlen : L.length ≤ 3518437208784) :
    Calls Tryz.prog 48 #[.slice p L.length c, .string s] w fun e w' => e = .returned (.bool (L.any fun x => x.toList == s.toList)) ∧ w' = w := by
  have HA : Hid (RowS _ _ _ _) := hR
  clear hR
  have HT : Hid (∀ j, j < L.length → (L.take (j + 1)).any (fun x => x.toList == s.toList) = ((L.take j).any (fun x => x.toList == s.toList) || (L[j]!.toList == s.toList))) := by
    intro j hj
    rw [← List.take_append_getElem hj, List.any_append]
    simp [getElem!_pos, hj]
  have HE : Hid ((L.take L.length).any (fun x => x.toList == s.toList) = L.any fun x => x.toList == s.toList) := (show _ = _ by rw [List.take_length])
  have HM : Hid (∀ j, j < L.length → (L[j]!.toList == s.toList) = true → (L.any fun x => x.toList == s.toList) = true) := by
    intro j hj h
    rw [List.any_eq_true]
    refine ⟨L[j], List.getElem_mem hj, ?_⟩
    simpa [getElem!_pos, hj] using h
  generalize (L.any fun x => x.toList == s.toList) = d at *
  go_enter Tryz.func48, Tryz.ntmps48
  go_wp2_with fail
  go_loopw [5] (fun i wr => ∃ j : Nat, j ≤ L.length ∧ i = .int .i64 (j : Int) ∧ Hid ((L.take j).any (fun x => x.toList == s.toList) = false) ∧ wr = w) (fun i _ => L.length - (intOf i).toNat)
  case atStart => exact ⟨0, Nat.zero_le _, by go_num, (show _ = _ by simp), rfl⟩
  case round =>
    obtain ⟨j, hj, rfl, hf, rfl⟩ := hrel
    by_cases hj0 : j = L.length
    · subst hj0
      go_wp2
      go_ret
      exact ⟨boolV (by rw [← HE.out, hf.out]), rfl⟩
    · have hj1 : j < L.length := by omega
      obtain ⟨b, o, rfl, hbB, a0⟩ := HA.out j hj1
      have hst := HT.out j hj1
      have hmm := HM.out j hj1
      have e : L[j]! = L[j] := by simp [getElem!_pos, hj1]
      rw [e] at hst hmm
      clear e HT HM
      generalize L[j] = x at *
      cases hx : (x.toList == s.toList)
      · rw [hx, hf.out] at hst
        have HX : Hid (_ = _) := hst
        clear hst hmm
        go_wp2_with fail
        go_roundw
        case rel => exact ⟨j + 1, hj1, by go_num, (show _ = _ by rw [HX.out]; rfl), by first | rfl | trivial⟩
        case measure => simp [intOf]; omega
      · have hd := hmm hx
        have HX : Hid (_ = _) := hd
        clear hst hmm hd
        go_wp2
        go_ret
        exact ⟨boolV HX.out.symm, rfl⟩

def wordsB : List ByteArray := wordsL.map fun l => ⟨l.toArray⟩
theorem wordsB_any (s : ByteArray) : (wordsB.any fun x => x.toList == s.toList) = keptB s.data.toList := by
  unfold keptB wordsB
  rw [List.any_map, List.contains_eq_any_beq, ByteArray.toList_eq]
  congr 1
  funext x
  simp only [Function.comp, ByteArray.toList_eq]
  rw [Bool.eq_iff_iff]
  simp only [beq_iff_eq]
  exact ⟨fun h => h.symm, fun h => h.symm⟩

set_option maxHeartbeats 2000000 in
theorem rwords_any (w : World) : Calls Tryz.prog 49 #[] w fun e w' => ∃ p c, e = .returned (.slice p wordsB.length c) ∧ RowS w' w'.heap.size p wordsB ∧ Below w.heap.size w w' := by
  go_enter Tryz.func49, Tryz.ntmps49
  go_wp2
  go_ret
  refine ⟨some ⟨w.heap.size, 0, none⟩, 55, rfl, ?_, by go_grown⟩
  change RowS (w.alloc (.cells (wordsB.map Value.string).toArray _)) _ _ _
  intro i hi
  refine ⟨w.heap.size, 0, rfl, by simp, ?_⟩
  rw [Nat.zero_add]
  refine (World.cell?_alloc_new w _ _ i).trans ?_
  simp [hi]

end Go.Proofs.YthbjheiogghjnaaGreatDoor

namespace Go.Proofs.YthbjheiogghjnaaGreatDoor
open Go.RowKit
set_option maxRecDepth 100000

theorem wordsB_len : wordsB.length = 55 := by kernel_rfl
theorem all_take {p : UInt8 → Bool} {l : List UInt8} {j : Nat} (hj : j < l.length) (h : (l.take j).all p = true) : (l.take (j + 1)).all p = p l[j] := by
  rw [← List.take_append_getElem hj, List.all_append, h]
  simp

set_option maxHeartbeats 2000000 in
theorem rname_any (s : ByteArray) (w : World) (hs : s.size ≤ 140737488351232) : Calls Tryz.prog 31 #[.string s] w fun e w' => e = .returned (.bool (nameB s.data.toList)) ∧ Below w.heap.size w w' := by
  have hl : s.data.toList.length = s.size := by simp
  by_cases h0 : s.size = 0
  · have he : s = ⟨#[]⟩ := by
      have : s.data.size = 0 := h0
      obtain ⟨d⟩ := s
      have : d = #[] := Array.eq_empty_of_size_eq_zero this
      rw [this]
    subst he
    go_enter Tryz.func31, Tryz.ntmps31
    go_wp2
    go_ret
    exact ⟨rfl, by go_grown⟩
  · have hp : 0 < s.size := by omega
    have HN : Hid (nameB s.data.toList = (decide (s.size ≤ 63) && lowC s[0] && !keptB s.data.toList && s.data.toList.all (fun x => lowC x || digC x))) := by
      have key : ∀ (l : List UInt8) (h : 0 < l.length), nameB l = (decide (l.length ≤ 63) && lowC l[0] && !keptB l && l.all (fun x => lowC x || digC x)) := by
        intro l h
        cases l with
        | nil => simp at h
        | cons c l => rfl
      rw [at_list hp]
      have := key s.data.toList (by omega)
      simp only [hl] at this
      exact this
    have C1 : Hid (∀ w1, Calls _ _ _ _ _) := fun w1 => rsmall_any s[0] w1
    have C2 : Hid (∀ w1, Calls _ _ _ _ _) := fun w1 => rwords_any w1
    have C3 : Hid (∀ (w1 : World) (p : Option Addr) (c : Nat), RowS w1 w1.heap.size p wordsB → Calls Tryz.prog 48 #[.slice p wordsB.length c, .string s] w1 fun e w' => e = .returned (.bool (keptB s.data.toList)) ∧ w' = w1) := fun w1 p c h => by
      have := rin_any wordsB s p c w1 h (by rw [wordsB_len]; omega)
      rw [wordsB_any] at this
      exact this
    have HAL : Hid (∀ j (hj : j < s.data.toList.length), (s.data.toList.take j).all (fun x => lowC x || digC x) = true → (s.data.toList.take (j + 1)).all (fun x => lowC x || digC x) = (lowC s.data.toList[j] || digC s.data.toList[j])) := fun j hj h => all_take hj h
    have HAN : Hid (∀ j (hj : j < s.data.toList.length), (lowC s.data.toList[j] || digC s.data.toList[j]) = false → s.data.toList.all (fun x => lowC x || digC x) = false) := fun j hj h => by
      cases he : s.data.toList.all (fun x => lowC x || digC x) with
      | false => rfl
      | true => rw [List.all_eq_true.1 he _ (List.getElem_mem hj)] at h; cases h
    have HAE : Hid ((s.data.toList.take s.size).all (fun x => lowC x || digC x) = s.data.toList.all (fun x => lowC x || digC x)) := (show _ = _ by rw [← hl, List.take_length])
    generalize nameB s.data.toList = d at *
    generalize keptB s.data.toList = kk at *
    generalize s.data.toList.all (fun x => lowC x || digC x) = al at *
    by_cases h63 : s.size ≤ 63
    · cases h1 : lowC s[0]
      · rw [h1] at C1 HN
        clear h1
        go_enter Tryz.func31, Tryz.ntmps31
        go_wp2_with (first | (go_at_call 47; refine (C1.out _).mono ?_; rintro e w' ⟨rfl, hww⟩; obtain rfl := hww.symm))
        go_ret
        exact ⟨boolV (by rw [HN.out]; simp), by go_grown⟩
      · rw [h1] at C1 HN
        clear h1
        cases kk
        · go_enter Tryz.func31, Tryz.ntmps31
          go_wp2_with (first | (go_at_call 47; refine (C1.out _).mono ?_; rintro e w' ⟨rfl, hww⟩; obtain rfl := hww.symm) | (go_at_call 49; refine (C2.out _).mono ?_; rintro e w2 ⟨p, c, rfl, hr2, hb2⟩; have HR2 : Hid (RowS _ _ _ _) := hr2; clear hr2) | (go_at_call 48; refine (C3.out _ _ _ HR2.out).mono ?_; rintro e w' ⟨rfl, hww⟩; obtain rfl := hww.symm))
          go_loopw [3] (fun i wr => ∃ j : Nat, j ≤ s.size ∧ i = .int .i64 (j : Int) ∧ Hid ((s.data.toList.take j).all (fun x => lowC x || digC x) = true) ∧ wr = w2) (fun i _ => s.size - (intOf i).toNat)
          case atStart => exact ⟨0, Nat.zero_le _, by go_num, (show _ = _ by simp), rfl⟩
          case round =>
            obtain ⟨j, hj, rfl, hf, rfl⟩ := hrel
            by_cases hj0 : j = s.size
            · subst hj0
              go_wp2
              go_ret
              exact ⟨boolV (by rw [HN.out, ← HAE.out, hf.out]; simp [h63]), hb2⟩
            · have hj1 : j < s.size := by omega
              have h1 := HAL.out j (by omega) hf.out
              have h2 := HAN.out j (by omega)
              rw [← at_list hj1] at h1 h2
              have D1 : Hid (∀ w1, Calls _ _ _ _ _) := fun w1 => rsmall_any s[j] w1
              have D2 : Hid (∀ w1, Calls _ _ _ _ _) := fun w1 => rdigit_any s[j] w1
              cases h3 : lowC s[j]
              · cases h4 : digC s[j]
                · rw [h3] at D1
                  rw [h4] at D2
                  have h5 : Hid (al = false) := h2 (by rw [h3, h4]; rfl)
                  clear h1 h2 h3 h4
                  go_wp2_with (first | (go_at_call 47; refine (D1.out _).mono ?_; rintro e w' ⟨rfl, hww⟩; obtain rfl := hww.symm) | (go_at_call 50; refine (D2.out _).mono ?_; rintro e w' ⟨rfl, hww⟩; obtain rfl := hww.symm))
                  go_ret
                  exact ⟨boolV (by rw [HN.out, h5.out]; simp), hb2⟩
                · rw [h3] at D1
                  rw [h4] at D2
                  rw [h3, h4] at h1
                  have h5 : Hid (_ = _) := h1
                  clear h1 h2 h3 h4
                  go_wp2_with (first | (go_at_call 47; refine (D1.out _).mono ?_; rintro e w' ⟨rfl, hww⟩; obtain rfl := hww.symm) | (go_at_call 50; refine (D2.out _).mono ?_; rintro e w' ⟨rfl, hww⟩; obtain rfl := hww.symm))
                  go_roundw
                  case rel => exact ⟨j + 1, hj1, by go_num, (show _ = _ by rw [h5.out]; rfl), by first | rfl | trivial⟩
                  case measure => simp [intOf]; omega
              · rw [h3] at D1
                rw [h3] at h1
                have h5 : Hid (_ = _) := h1
                clear h1 h2 h3
                go_wp2_with (first | (go_at_call 47; refine (D1.out _).mono ?_; rintro e w' ⟨rfl, hww⟩; obtain rfl := hww.symm))
                go_roundw
                case rel => exact ⟨j + 1, hj1, by go_num, (show _ = _ by rw [h5.out]; rfl), by first | rfl | trivial⟩
                case measure => simp [intOf]; omega
        · go_enter Tryz.func31, Tryz.ntmps31
          go_wp2_with (first | (go_at_call 47; refine (C1.out _).mono ?_; rintro e w' ⟨rfl, hww⟩; obtain rfl := hww.symm) | (go_at_call 49; refine (C2.out _).mono ?_; rintro e w2 ⟨p, c, rfl, hr2, hb2⟩; have HR2 : Hid (RowS _ _ _ _) := hr2; clear hr2) | (go_at_call 48; refine (C3.out _ _ _ HR2.out).mono ?_; rintro e w' ⟨rfl, hww⟩; obtain rfl := hww.symm))
          go_ret
          exact ⟨boolV (by rw [HN.out]; simp), hb2⟩
    · have h63' : 63 < (s.size : Int) := by omega
      go_enter Tryz.func31, Tryz.ntmps31
      go_wp2
      go_ret
      exact ⟨boolV (by rw [HN.out]; simp [h63]), by go_grown⟩

end Go.Proofs.YthbjheiogghjnaaGreatDoor
