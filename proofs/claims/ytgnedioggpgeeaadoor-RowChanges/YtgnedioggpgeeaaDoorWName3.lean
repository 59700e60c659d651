/- The walk of the document's Name. -/
import Derived.Test.YtgnedioggpgeeaaDoorWName2
namespace Go.Proofs.YtgnedioggpgeeaaDoor
open Go.RowKit
set_option maxRecDepth 100000

theorem wordsB_len : wordsB.length = 55 := by kernel_rfl
theorem all_take {p : UInt8 → Bool} {l : List UInt8} {j : Nat} (hj : j < l.length) (h : (l.take j).all p = true) : (l.take (j + 1)).all p = p l[j] := by
  rw [← List.take_append_getElem hj, List.all_append, h]
  simp

set_option maxHeartbeats 2000000 in
theorem rname_any (s : ByteArray) (w : World) (hs : s.size ≤ 140737488351232) : Calls Tryd.prog 48 #[.string s] w fun e w' => e = .returned (.bool (nameB s.data.toList)) ∧ Below w.heap.size w w' := by
  have hl : s.data.toList.length = s.size := by simp
  by_cases h0 : s.size = 0
  · have he : s = ⟨#[]⟩ := by
      have : s.data.size = 0 := h0
      obtain ⟨d⟩ := s
      have : d = #[] := Array.eq_empty_of_size_eq_zero this
      rw [this]
    subst he
    go_enter Tryd.func48, Tryd.ntmps48
    go_wp2
    go_ret
    exact ⟨rfl, by go_grown⟩
  · have hp : 0 < s.size := by omega
    have HN : Hid (nameB s.data.toList = (decide (s.size ≤ 63) && lowC s[0] && !keptB s.data.toList && s.data.toList.all (fun x => lowC x || digC x))) := by
      have key : ∀ (l : List UInt8) (h : 0 < l.length), nameB l = (decide (l.length ≤ 63) && lowC l[0] && !keptB l && l.all (fun x => lowC x || digC x)) := by
        intro l h
        cases l with
        | nil => simp at h
        | cons c l => rfl
      rw [at_list hp]
      have := key s.data.toList (by omega)
      simp only [hl] at this
      exact this
    have C1 : Hid (∀ w1, Calls _ _ _ _ _) := fun w1 => rsmall_any s[0] w1
    have C2 : Hid (∀ w1, Calls _ _ _ _ _) := fun w1 => rwords_any w1
    have C3 : Hid (∀ (w1 : World) (p : Option Addr) (c : Nat), RowS w1 w1.heap.size p wordsB → Calls Tryd.prog 70 #[.slice p wordsB.length c, .string s] w1 fun e w' => e = .returned (.bool (keptB s.data.toList)) ∧ w' = w1) := fun w1 p c h => by
      have := rin_any wordsB s p c w1 h (by rw [wordsB_len]; omega)
      rw [wordsB_any] at this
      exact this
    have HAL : Hid (∀ j (hj : j < s.data.toList.length), (s.data.toList.take j).all (fun x => lowC x || digC x) = true → (s.data.toList.take (j + 1)).all (fun x => lowC x || digC x) = (lowC s.data.toList[j] || digC s.data.toList[j])) := fun j hj h => all_take hj h
    have HAN : Hid (∀ j (hj : j < s.data.toList.length), (lowC s.data.toList[j] || digC s.data.toList[j]) = false → s.data.toList.all (fun x => lowC x || digC x) = false) := fun j hj h => by
      cases he : s.data.toList.all (fun x => lowC x || digC x) with
      | false => rfl
      | true => rw [List.all_eq_true.1 he _ (List.getElem_mem hj)] at h; cases h
    have HAE : Hid ((s.data.toList.take s.size).all (fun x => lowC x || digC x) = s.data.toList.all (fun x => lowC x || digC x)) := (show _ = _ by rw [← hl, List.take_length])
    generalize nameB s.data.toList = d at *
    generalize keptB s.data.toList = kk at *
    generalize s.data.toList.all (fun x => lowC x || digC x) = al at *
    by_cases h63 : s.size ≤ 63
    · cases h1 : lowC s[0]
      · rw [h1] at C1 HN
        clear h1
        go_enter Tryd.func48, Tryd.ntmps48
        go_wp2_with (first | (go_at_call 69; refine (C1.out _).mono ?_; rintro e w' ⟨rfl, hww⟩; obtain rfl := hww.symm))
        go_ret
        exact ⟨boolV (by rw [HN.out]; simp), by go_grown⟩
      · rw [h1] at C1 HN
        clear h1
        cases kk
        · go_enter Tryd.func48, Tryd.ntmps48
          go_wp2_with (first | (go_at_call 69; refine (C1.out _).mono ?_; rintro e w' ⟨rfl, hww⟩; obtain rfl := hww.symm) | (go_at_call 71; refine (C2.out _).mono ?_; rintro e w2 ⟨p, c, rfl, hr2, hb2⟩; have HR2 : Hid (RowS _ _ _ _) := hr2; clear hr2) | (go_at_call 70; refine (C3.out _ _ _ HR2.out).mono ?_; rintro e w' ⟨rfl, hww⟩; obtain rfl := hww.symm))
          go_loopw [3] (fun i wr => ∃ j : Nat, j ≤ s.size ∧ i = .int .i64 (j : Int) ∧ Hid ((s.data.toList.take j).all (fun x => lowC x || digC x) = true) ∧ wr = w2) (fun i _ => s.size - (intOf i).toNat)
          case atStart => exact ⟨0, Nat.zero_le _, by go_num, (show _ = _ by simp), rfl⟩
          case round =>
            obtain ⟨j, hj, rfl, hf, rfl⟩ := hrel
            by_cases hj0 : j = s.size
            · subst hj0
              go_wp2
              go_ret
              exact ⟨boolV (by rw [HN.out, ← HAE.out, hf.out]; simp [h63]), hb2⟩
            · have hj1 : j < s.size := by omega
              have h1 := HAL.out j (by omega) hf.out
              have h2 := HAN.out j (by omega)
              rw [← at_list hj1] at h1 h2
              have D1 : Hid (∀ w1, Calls _ _ _ _ _) := fun w1 => rsmall_any s[j] w1
              have D2 : Hid (∀ w1, Calls _ _ _ _ _) := fun w1 => rdigit_any s[j] w1
              cases h3 : lowC s[j]
              · cases h4 : digC s[j]
                · rw [h3] at D1
                  rw [h4] at D2
                  have h5 : Hid (al = false) := h2 (by rw [h3, h4]; rfl)
                  clear h1 h2 h3 h4
                  go_wp2_with (first | (go_at_call 69; refine (D1.out _).mono ?_; rintro e w' ⟨rfl, hww⟩; obtain rfl := hww.symm) | (go_at_call 72; refine (D2.out _).mono ?_; rintro e w' ⟨rfl, hww⟩; obtain rfl := hww.symm))
                  go_ret
                  exact ⟨boolV (by rw [HN.out, h5.out]; simp), hb2⟩
                · rw [h3] at D1
                  rw [h4] at D2
                  rw [h3, h4] at h1
                  have h5 : Hid (_ = _) := h1
                  clear h1 h2 h3 h4
                  go_wp2_with (first | (go_at_call 69; refine (D1.out _).mono ?_; rintro e w' ⟨rfl, hww⟩; obtain rfl := hww.symm) | (go_at_call 72; refine (D2.out _).mono ?_; rintro e w' ⟨rfl, hww⟩; obtain rfl := hww.symm))
                  go_roundw
                  case rel => exact ⟨j + 1, hj1, by go_num, (show _ = _ by rw [h5.out]; rfl), by first | rfl | trivial⟩
                  case measure => simp [intOf]; omega
              · rw [h3] at D1
                rw [h3] at h1
                have h5 : Hid (_ = _) := h1
                clear h1 h2 h3
                go_wp2_with (first | (go_at_call 69; refine (D1.out _).mono ?_; rintro e w' ⟨rfl, hww⟩; obtain rfl := hww.symm))
                go_roundw
                case rel => exact ⟨j + 1, hj1, by go_num, (show _ = _ by rw [h5.out]; rfl), by first | rfl | trivial⟩
                case measure => simp [intOf]; omega
        · go_enter Tryd.func48, Tryd.ntmps48
          go_wp2_with (first | (go_at_call 69; refine (C1.out _).mono ?_; rintro e w' ⟨rfl, hww⟩; obtain rfl := hww.symm) | (go_at_call 71; refine (C2.out _).mono ?_; rintro e w2 ⟨p, c, rfl, hr2, hb2⟩; have HR2 : Hid (RowS _ _ _ _) := hr2; clear hr2) | (go_at_call 70; refine (C3.out _ _ _ HR2.out).mono ?_; rintro e w' ⟨rfl, hww⟩; obtain rfl := hww.symm))
          go_ret
          exact ⟨boolV (by rw [HN.out]; simp), hb2⟩
    · have h63' : 63 < (s.size : Int) := by omega
      go_enter Tryd.func48, Tryd.ntmps48
      go_wp2
      go_ret
      exact ⟨boolV (by rw [HN.out]; simp [h63]), by go_grown⟩
end Go.Proofs.YtgnedioggpgeeaaDoor
