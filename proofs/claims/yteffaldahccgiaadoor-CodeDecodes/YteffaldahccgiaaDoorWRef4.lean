/- The walk of the document's answer for Encode. -/
import Derived.Test.YteffaldahccgiaaDoorWRef3
namespace Go.Proofs.YteffaldahccgiaaDoor
open Go.RowKit Ieee
set_option maxRecDepth 100000

set_option maxHeartbeats 4000000 in
theorem rencode_any (L : List Vl) (p : Option Addr) (c : Nat) (w : World) (hR : RowV w w.heap.size p L) (hok : ∀ v ∈ L, v.ok) (hlen : L.length ≤ 3518437208784) (hg : 2 < w.heap.size) (hT : Lib.Utf8Tabs 1 2 w) :
    Calls Tryd.prog 10 #[.slice p L.length c] w fun e w' => e = .returned (.tuple #[.string ⟨(encS L).1.toArray⟩, .int .i64 (encS L).2]) ∧ Below w.heap.size w w' := by
  have HH : Hid (RowV w w.heap.size p L ∧ (∀ v ∈ L, v.ok) ∧ Lib.Utf8Tabs 1 2 w) := ⟨hR, hok, hT⟩
  clear hR hok hT
  obtain ⟨r1, hr1⟩ : ∃ r, r = (encS L).1.toArray := ⟨_, rfl⟩
  obtain ⟨r2, hr2⟩ : ∃ r, r = (encS L).2 := ⟨_, rfl⟩
  rw [← hr1, ← hr2]
  have HRS : Hid (r1 = (encS L).1.toArray ∧ r2 = (encS L).2) := ⟨hr1, hr2⟩
  clear hr1 hr2
  go_enter Tryd.func10, Tryd.ntmps10
  go_wp2_with fail
  go_loopw [4] (fun i wr => ∃ j : Nat, j ≤ L.length ∧ i = .int .i64 (j : Int) ∧ (∀ t (ht : t < L.length), t < j → L[t].chk = 0) ∧ Below w.heap.size w wr) (fun i _ => L.length - (intOf i).toNat)
  case atStart => exact ⟨0, Nat.zero_le _, by go_num, fun t _ h => absurd h (by omega), Below.refl _ _⟩
  case round =>
    obtain ⟨j, hj, rfl, hall, hbl⟩ := hrel
    have hz := hbl.size
    by_cases hj0 : j = L.length
    · subst hj0
      have HH2 : Hid ((∀ t (ht : t < L.length), L[t].chk = 0) ∧ Below w.heap.size w wr) := ⟨fun t ht => hall t ht ht, hbl⟩
      clear hall hbl
      go_wp2_with fail
      go_loopw [5, 6] (fun key i ws => ∃ j : Nat, j ≤ L.length ∧ i = .int .i64 (j : Int) ∧ OwnB ws w.heap.size key (encL (L.take j)) ∧ (encL (L.take j)).length ≤ 1024 ∧ Below w.heap.size w ws) (fun _ i _ => L.length - (intOf i).toNat)
      case atStart => exact ⟨0, Nat.zero_le _, by go_num, OwnB.nil _ _, by simp [encL], HH2.out.2⟩
      case round =>
        obtain ⟨j, hj, rfl, hown, hle, hbl⟩ := hrel
        have hz2 := hbl.size
        by_cases hj0 : j = L.length
        · subst hj0
          rw [List.take_length] at hown hle
          have hcv := hown.conv
          have HE : Hid (encS L = (encL L, 0) ∧ Below w.heap.size w _) := ⟨encS_fine HH2.out.1 hle, hbl⟩
          clear hown hle hbl
          obtain ⟨r, hr⟩ : ∃ r, r = (encL L).toArray := ⟨_, rfl⟩
          rw [← hr] at hcv
          have HR2 : Hid (r = (encL L).toArray) := hr
          clear hr
          go_wp2
          go_ret2
          exact ⟨by rw [HRS.out.1, HRS.out.2, HE.out.1, HR2.out]; rfl, HE.out.2⟩
        · have hj1 : j < L.length := by omega
          obtain ⟨b, o, rfl, hbB, c0, c1, c2, c3⟩ := (HH.out.1.keep hbl) j hj1
          have hoj := HH.out.2.1 _ (List.getElem_mem hj1)
          have hcj := HH2.out.1 j hj1
          have het := encL_take L j hj1
          have HE : Hid (OwnB _ _ _ _ ∧ _ ∧ Below _ _ _ ∧ _ ∧ _ ∧ _) := ⟨hown, hle, hbl, hoj, hcj, het⟩
          clear hown hle hbl hoj hcj het
          generalize L[j] = v at *
          go_wp2_with (first | (go_at_call 39; refine (code_any v _ HE.out.2.2.2.1 HE.out.2.2.2.2.1).mono ?_; rintro e w1 ⟨v1, rfl, h3, h4⟩) | (at_builtin; refine wpList_appO _ rfl (.tmp 25) _ rfl w.heap.size _ _ rfl (HE.out.1.kept h4) _ _ _ rfl h3 (by have := HE.out.2.1; have := code_len HE.out.2.2.2.2.1; omega) (by have := h4.size; omega) ?_; intro v2 w2 h5 h6; obtain ⟨p1, cap1, rfl⟩ := h5.len; rw [← HE.out.2.2.2.2.2] at h5; have hl3 : (encL (List.take j L) ++ v.code).length = (encL (L.take (j + 1))).length := by rw [HE.out.2.2.2.2.2]))
          · have hgt : (1024 : Int) < ((encL (L.take (j + 1))).length : Int) := by assumption
            go_ret2
            refine ⟨?_, HE.out.2.2.1.trans ((h4.mono hz2).trans h6.below)⟩
            rw [HRS.out.1, HRS.out.2, encS_long HH2.out.1 (j := j + 1) (by omega)]
            rfl
          · have hgt : ¬ (1024 : Int) < ((encL (L.take (j + 1))).length : Int) := by first | assumption | (have h9 : ((encL (L.take (j + 1))).length : Int) ≤ 1024 := (by assumption); omega)
            go_roundw
            case rel => exact ⟨j + 1, by omega, by go_num, h5, by omega, HE.out.2.2.1.trans ((h4.mono hz2).trans h6.below)⟩
            case measure => simp [intOf]; omega
    · have hj1 : j < L.length := by omega
      obtain ⟨b, o, rfl, hbB, c0, c1, c2, c3⟩ := (HH.out.1.keep hbl) j hj1
      have HH2 : Hid ((∀ t (ht : t < L.length), t < j → L[t].chk = 0) ∧ Below w.heap.size w wr ∧ L[j].ok) := ⟨hall, hbl, HH.out.2.1 _ (List.getElem_mem hj1)⟩
      clear hall hbl
      obtain ⟨v, hv⟩ : ∃ v, v = L[j] := ⟨_, rfl⟩
      rw [← hv] at c0 c1 c2 c3 HH2
      have HV : Hid (v = L[j]) := hv
      clear hv
      have C9 : Hid (∀ w1 : World, Below w.heap.size w w1 → _) := fun w1 hb => rcheck_ok v w1 HH2.out.2.2 (by have := hb.size; omega) (tabs_keep hb hg HH.out.2.2)
      obtain ⟨ck, hck⟩ : ∃ ck, ck = v.chk := ⟨_, rfl⟩
      rw [← hck] at C9
      have HCK : Hid (ck = v.chk) := hck
      clear hck
      by_cases hck : ck = 0
      · subst hck
        go_wp2_with (first | (go_at_call 38; refine (C9.out _ HH2.out.2.1).mono ?_; rintro e w1 ⟨rfl, hb9⟩))
        have hb10 := HH2.out.2.1.trans (hb9.mono hz)
        clear hb9
        go_roundw
        case rel =>
          refine ⟨j + 1, by omega, by go_num, fun t ht h => ?_, hb10⟩
          by_cases e : t = j
          · subst e; rw [← HV.out]; exact HCK.out.symm
          · exact HH2.out.1 t ht (by omega)
        case measure => simp [intOf]; omega
      · have hne : (ck != 0) = true := bneT hck
        have HNE : Hid (¬ ck = 0) := hck
        clear hck
        go_wp2_with (first | (go_at_call 38; refine (C9.out _ HH2.out.2.1).mono ?_; rintro e w1 ⟨rfl, hb9⟩))
        go_ret2
        have hb10 := HH2.out.2.1.trans (hb9.mono hz)
        refine ⟨?_, hb10⟩
        rw [HRS.out.1, HRS.out.2, encS_bad hj1 (by rw [← HV.out, ← HCK.out]; exact HNE.out)]
        rfl
end Go.Proofs.YteffaldahccgiaaDoor
