/- Plain mathematics: keys of lists, read and written, lead back to one another. -/
import Derived.Test.YtcjpindbplppgaaDoorGWSort
namespace Go.Proofs.YtcjpindbplppgaaDoor
open Ieee
set_option maxRecDepth 100000

def Back (tag : UInt8) (s : List UInt8) (v : Vl) (n : Nat) : Prop := n ≤ s.length ∧ v.ok ∧ v.chk = 0 ∧ v.plain = v ∧ v.code = tag :: s.take n

theorem ok_int {n : Int} (h1 : -9223372036854775808 ≤ n) (h2 : n ≤ 9223372036854775807) : (vInt n).ok := ⟨⟨by show (-9223372036854775808 : Int) ≤ 2; decide, by show (2 : Int) ≤ 9223372036854775807; decide⟩, ⟨h1, h2⟩, by show (0 : Nat) < _; decide, by show (0 : Nat) ≤ _; decide⟩
theorem chk_int (n : Int) : (vInt n).chk = 0 := by
  unfold Vl.chk chkV vInt
  have : (⟨#[]⟩ : ByteArray).toList.isEmpty = true := by rw [ByteArray.toList_eq]; rfl
  simp [kindB, numB, floB, strB]
  decide
theorem back_bool {s : List UInt8} {v : Vl} {n : Nat} (h : rdBool s = some (v, n)) : Back 2 s v n := by
  cases s with
  | nil => simp [rdBool] at h
  | cons c r =>
    simp only [rdBool] at h
    split at h
    · cases h
    · rename_i hc
      simp only [Option.some.injEq, Prod.mk.injEq] at h
      obtain ⟨rfl, rfl⟩ := h
      have he : (⟨#[]⟩ : ByteArray).toList.isEmpty = true := by rw [ByteArray.toList_eq]; rfl
      have h01 : c = 0 ∨ c = 1 := by
        rcases (show c.toNat = 0 ∨ c.toNat = 1 by omega) with h | h
        · exact .inl (UInt8.toNat_inj.1 (h.trans rfl))
        · exact .inr (UInt8.toNat_inj.1 (h.trans rfl))
      have hk : ∀ b, (vBool b).ok ∧ (vBool b).chk = 0 ∧ (vBool b).plain = vBool b := by
        intro b
        refine ⟨⟨⟨by show (-9223372036854775808 : Int) ≤ 1; decide, by show (1 : Int) ≤ 9223372036854775807; decide⟩, ?_, by show (0 : Nat) < _; decide, by show (0 : Nat) ≤ _; decide⟩, ?_, rfl⟩
        · unfold vBool; cases b <;> decide
        · unfold Vl.chk chkV vBool; cases b <;> simp [kindB, numB, floB, strB] <;> decide
      rcases h01 with rfl | rfl
      · exact ⟨by simp, (hk _).1, (hk _).2.1, (hk _).2.2, rfl⟩
      · exact ⟨by simp, (hk _).1, (hk _).2.1, (hk _).2.2, rfl⟩
theorem back_int {s : List UInt8} {v : Vl} {n : Nat} (h : rdInt s = some (v, n)) : Back 3 s v n := by
  cases s with
  | nil => simp [rdInt] at h
  | cons c r =>
    simp only [rdInt] at h
    have hc := c.toNat_lt
    split at h
    · rename_i h128
      split at h
      · cases h
      · rename_i g1
        split at h
        · cases h
        · rename_i g2
          simp only [Option.some.injEq, Prod.mk.injEq] at h
          obtain ⟨rfl, rfl⟩ := h
          generalize hk : c.toNat - 128 = k at g1 g2 ⊢
          have hl : (r.take k).length = k := by rw [List.length_take]; omega
          generalize hm : num (r.take k) = m at g2 ⊢
          have hs : sz m = k := by omega
          refine ⟨by simp; omega, ok_int (by omega) (by omega), chk_int _, rfl, ?_⟩
          show 3 :: wholeC (m : Int) = _
          have ew : wholeC (m : Int) = UInt8.ofNat (128 + sz m) :: hiB m (sz m) := by unfold wholeC; rw [if_pos (by omega)]; simp
          have eh : UInt8.ofNat (128 + sz m) = c := by apply UInt8.toNat_inj.1; rw [ofNat_toNat8]; omega
          have eb : hiB m (sz m) = r.take k := by
            have := hiB_num (r.take k)
            rw [hl, hm] at this
            rw [hs]; exact this
          rw [ew, eh, eb, Nat.add_comm, List.take_succ_cons]
    · rename_i h128
      split at h
      · cases h
      · rename_i g1
        split at h
        · cases h
        · rename_i g2
          simp only [Option.some.injEq, Prod.mk.injEq] at h
          obtain ⟨rfl, rfl⟩ := h
          generalize hk : 128 - c.toNat = k at g1 g2 ⊢
          have hl : (r.take k).length = k := by rw [List.length_take]; omega
          have htl := num_lt (r.take k)
          rw [hl] at htl
          generalize ht : num (r.take k) = t at g2 htl ⊢
          generalize hm : 256 ^ k - 1 - t = m at g2 ⊢
          have hmk : m < 256 ^ k := by omega
          have hs : max (sz m) 1 = k := by omega
          refine ⟨by simp; omega, ok_int (by omega) (by omega), chk_int _, rfl, ?_⟩
          show 3 :: wholeC (-(m : Int) - 1) = _
          have ew : wholeC (-(m : Int) - 1) = UInt8.ofNat (128 - k) :: hiB (18446744073709551615 - m) k := by
            unfold wholeC
            rw [if_neg (by omega)]
            have e : (-(-(m : Int) - 1 + 1)).toNat = m := by omega
            rw [e, hs]
          have eh : UInt8.ofNat (128 - k) = c := by apply UInt8.toNat_inj.1; rw [ofNat_toNat8]; omega
          have eb : hiB (18446744073709551615 - m) k = r.take k := by
            have h1 := hiB_num (r.take k)
            rw [hl, ht] at h1
            rw [← h1]
            apply hiB_mod
            rw [low_turned (by omega) hmk, Nat.mod_eq_of_lt htl]
            omega
          rw [ew, eh, eb, Nat.add_comm, List.take_succ_cons]
theorem back_flo {s : List UInt8} {v : Vl} {n : Nat} (h : rdFlo s = some (v, n)) : Back 4 s v n := by
  unfold rdFlo at h
  split at h
  · cases h
  · rename_i g1
    split at h
    · rename_i g2
      simp only [Option.some.injEq, Prod.mk.injEq] at h
      obtain ⟨rfl, rfl⟩ := h
      have hl : (s.take 8).length = 8 := by rw [List.length_take]; omega
      have hb := num_lt (s.take 8)
      rw [hl, pow256_8] at hb
      generalize hbb : num (s.take 8) = b at g2 hb ⊢
      have hu := unG_lt b hb
      have he : (⟨#[]⟩ : ByteArray).toList.isEmpty = true := by rw [ByteArray.toList_eq]; rfl
      refine ⟨by omega, ⟨⟨by show (-9223372036854775808 : Int) ≤ 3; decide, by show (3 : Int) ≤ 9223372036854775807; decide⟩, ⟨by show (-9223372036854775808 : Int) ≤ 0; decide, by show (0 : Int) ≤ 9223372036854775807; decide⟩, hu, by show (0 : Nat) ≤ _; decide⟩, ?_, ?_, ?_⟩
      · unfold Vl.chk chkV vFlo
        simp [kindB, numB, floB, strB]
        decide
      · unfold Vl.plain vFlo
        simp [pf, g2]
      · show 4 :: realC (unG b) = _
        unfold realC
        rw [g2, gK_unG hb]
        have := hiB_num (s.take 8)
        rw [hl, hbb] at this
        rw [this]
    · cases h
theorem back_txt {k : Int} (hk : k = 4 ∨ k = 5) {s : List UInt8} {v : Vl} {n : Nat} (h : rdTxt k s = some (v, n)) : Back (UInt8.ofNat (k + 1).toNat) s v n := by
  unfold rdTxt at h
  split at h
  · cases h
  · rename_i x hx
    obtain ⟨t, m⟩ := x
    split at h
    · rename_i hc
      simp only [Option.some.injEq, Prod.mk.injEq] at h
      obtain ⟨rfl, rfl⟩ := h
      obtain ⟨i1, i2, _⟩ := rdStr_back s.length s t m (Nat.le_refl _) hx
      have hs := (chk_parts hc).2.2.2.2
      refine ⟨i1, ⟨?_, ⟨by show (-9223372036854775808 : Int) ≤ 0; decide, by show (0 : Int) ≤ 9223372036854775807; decide⟩, by show (0 : Nat) < _; decide, Nat.le_trans hs (by decide)⟩, hc, ?_, ?_⟩
      · rcases hk with rfl | rfl
        · exact ⟨by show (-9223372036854775808 : Int) ≤ 4; decide, by show (4 : Int) ≤ 9223372036854775807; decide⟩
        · exact ⟨by show (-9223372036854775808 : Int) ≤ 5; decide, by show (5 : Int) ≤ 9223372036854775807; decide⟩
      · unfold Vl.plain vStr
        rcases hk with rfl | rfl <;> simp [pf]
      · have hbody : (vStr k t).body = ended t := by
          unfold Vl.body vStr
          rcases hk with rfl | rfl <;> simp
        unfold Vl.code
        rw [hbody, i2]
        rfl
    · cases h
/-- D2: what is read is written as it was -/
theorem rd_back {tag : UInt8} {s : List UInt8} {v : Vl} {n : Nat} (h : rdV tag s = some (v, n)) : Back tag s v n := by
  unfold rdV at h
  split at h
  · rename_i e
    subst e
    simp only [Option.some.injEq, Prod.mk.injEq] at h
    obtain ⟨rfl, rfl⟩ := h
    have he : (⟨#[]⟩ : ByteArray).toList.isEmpty = true := by rw [ByteArray.toList_eq]; rfl
    refine ⟨Nat.zero_le _, ⟨by show _ ∧ _; decide, by show _ ∧ _; decide, by show (0 : Nat) < _; decide, by show (0 : Nat) ≤ _; decide⟩, ?_, rfl, rfl⟩
    unfold Vl.chk chkV vNull
    simp [kindB, numB, floB, strB]
    decide
  · split at h
    · rename_i e; subst e; exact back_bool h
    · split at h
      · rename_i e; subst e; exact back_int h
      · split at h
        · rename_i e; subst e; exact back_flo h
        · split at h
          · rename_i e; subst e; exact back_txt (.inl rfl) h
          · split at h
            · rename_i e; subst e; exact back_txt (.inr rfl) h
            · cases h

/-- a key, read -/
def decF : Nat → List UInt8 → Option (List Vl)
  | _, [] => some []
  | 0, _ :: _ => none
  | k + 1, t :: s => match rdV t s with
    | none => none
    | some x => (decF k (s.drop x.2)).map (fun l => x.1 :: l)
theorem decF_enc : ∀ (L : List Vl) (k : Nat), Fine L → (encL L).length ≤ k → decF k (encL L) = some (L.map Vl.plain)
  | [], k, _, _ => by cases k <;> rfl
  | v :: L, 0, h, hk => by simp [encL, Vl.code] at hk
  | v :: L, k + 1, h, hk => by
    obtain ⟨ov, cv⟩ := h.head
    have h1 := rd_code ov cv (okT_enc h.tail)
    simp only [encL, Vl.code, List.cons_append, List.length_cons, List.length_append] at hk ⊢
    simp only [decF, h1]
    have e : (v.body ++ encL L).drop v.body.length = encL L := List.drop_left
    rw [e, decF_enc L k h.tail (by omega)]
    rfl
theorem decF_back : ∀ (k : Nat) (l : List UInt8) (M : List Vl), decF k l = some M → Fine M ∧ encL M = l ∧ M.map Vl.plain = M
  | k, [], M, h => by
    have : M = [] := by cases k <;> simp [decF] at h <;> exact h
    subst this
    exact ⟨fun v hv => (by cases hv), rfl, rfl⟩
  | 0, _ :: _, M, h => by simp [decF] at h
  | k + 1, t :: s, M, h => by
    simp only [decF] at h
    split at h
    · cases h
    · rename_i x hx
      obtain ⟨v, n⟩ := x
      simp only [Option.map_eq_some_iff] at h
      obtain ⟨M', h1, rfl⟩ := h
      obtain ⟨f1, f2, f3⟩ := decF_back k _ M' h1
      obtain ⟨b1, b2, b3, b4, b5⟩ := rd_back hx
      refine ⟨?_, ?_, ?_⟩
      · intro u hu
        rcases List.mem_cons.1 hu with rfl | hu
        · exact ⟨b2, b3⟩
        · exact f1 u hu
      · simp only [encL, b5, f2, List.cons_append]
        rw [List.take_append_drop]
      · simp only [List.map_cons, b4, f3]
/-- what Decode answers -/
def decS (l : List UInt8) : List Vl × Int := if 1024 < l.length then ([], 3) else match decF l.length l with
  | none => ([], 20)
  | some M => (M, 0)

end Go.Proofs.YtcjpindbplppgaaDoor
