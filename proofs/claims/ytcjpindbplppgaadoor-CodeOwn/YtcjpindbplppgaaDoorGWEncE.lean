/- The walk of code.Encode. -/
import Derived.Lib.BufferRead
import Derived.Test.YtcjpindbplppgaaDoorGWEncV
import Derived.Test.YtcjpindbplppgaaDoorGWValid
namespace Go.Proofs.YtcjpindbplppgaaDoor
open Go.RowKit
set_option maxRecDepth 100000

/-- the slice at p holds the values L, in a block below B -/
def RowV (w : World) (B : Nat) (p : Option Addr) (L : List Vl) : Prop := ∀ i (hi : i < L.length), ∃ b o, p = some ⟨b, o, none⟩ ∧ b < B ∧
  w.cell? ⟨b, o + i * 4, none⟩ = some (.int .i64 L[i].k) ∧ w.cell? ⟨b, o + i * 4 + 1, none⟩ = some (.int .i64 L[i].n) ∧ w.cell? ⟨b, o + i * 4 + 2, none⟩ = some (.float .f64 L[i].f) ∧ w.cell? ⟨b, o + i * 4 + 3, none⟩ = some (.string L[i].s)
theorem RowV.keep {w w' : World} {B : Nat} {p : Option Addr} {L : List Vl} (h : RowV w B p L) (hb : Below B w w') : RowV w' B p L := by
  intro i hi
  obtain ⟨b, o, e, hbB, c0, c1, c2, c3⟩ := h i hi
  have k : ∀ {o : Nat} {v : Option Value}, w.cell? ⟨b, o, none⟩ = v → w'.cell? ⟨b, o, none⟩ = v := fun {o v} hc => (hb.cell (p := ⟨b, o, none⟩) hbB).trans hc
  exact ⟨b, o, e, hbB, k c0, k c1, k c2, k c3⟩

theorem RowV.mono {w : World} {B C : Nat} {p : Option Addr} {L : List Vl} (h : RowV w B p L) (hb : B ≤ C) : RowV w C p L := by
  intro i hi
  obtain ⟨b, o, e, hbB, r⟩ := h i hi
  exact ⟨b, o, e, Nat.lt_of_lt_of_le hbB hb, r⟩

theorem OwnB.conv {w : World} {B : Nat} {v : Value} {bs : List UInt8} (h : OwnB w B v bs) : (convert 41 9 v).run Tryd.prog w = .ok (.string ⟨bs.toArray⟩) w := by
  rcases h.shape with ⟨rfl, rfl⟩ | ⟨g, cap, rfl, _, _, hc⟩
  · rw [Lib.run_convert_nil_bytes w 41 9 5 0 Tryd.underlying41 Tryd.underlying5 Tryd.underlying9]
  · refine run_convert_bytes_back w 41 9 5 ⟨g, 0, none⟩ cap bs Tryd.underlying41 Tryd.underlying5 Tryd.underlying9 ?_
    intro j hj
    have e : (⟨g, 0, none⟩ : Addr).add j = ⟨g, j, none⟩ := by unfold Addr.add; split <;> simp_all
    rw [e]; exact hc j hj

theorem check_ok (v : Vl) (w : World) (hv : v.ok) (hg : 2 < w.heap.size) (hT : Lib.Utf8Tabs 1 2 w) :
    Calls Tryd.prog 11 #[v.val] w fun e w' => e = .returned (.int .i64 v.chk) ∧ Below w.heap.size w w' := by
  obtain ⟨k, n, f, s⟩ := v
  obtain ⟨_, _, _, hs⟩ := hv
  dsimp only at *
  have hv : ∀ w1 : World, Below w.heap.size w w1 → Calls Tryd.prog 39 #[.string s] w1 fun e w' => e = .returned (.bool (Lib.validD s.data.toList)) ∧ Below w1.heap.size w1 w' :=
    fun w1 hb => valid_any s w1 (by omega) (tabs_keep hb hg hT)
  exact check_any k n f s w (by unfold maxLen; omega) fun w2 h2 => str_any k n f s w2 fun w3 h3 => hv w3 (h2.trans (h3.mono h2.size))



/-- what Encode answers -/
def encS (L : List Vl) : List UInt8 × Int := if L.all (fun v => v.chk == 0) then (if (encL L).length ≤ 1024 then (encL L, 0) else ([], 3)) else ([], 10)

theorem encS_bad {L : List Vl} {j : Nat} (hj : j < L.length) (h : L[j].chk ≠ 0) : encS L = ([], 10) := by
  unfold encS
  rw [if_neg]
  intro hall
  rw [List.all_eq_true] at hall
  have := hall _ (List.getElem_mem hj)
  simp at this
  exact h this
theorem all_ok {L : List Vl} (h : ∀ t (ht : t < L.length), L[t].chk = 0) : L.all (fun v => v.chk == 0) = true := by
  rw [List.all_eq_true]
  intro v hv
  obtain ⟨t, ht, rfl⟩ := List.getElem_of_mem hv
  simp [h t ht]
theorem encL_append (a b : List Vl) : encL (a ++ b) = encL a ++ encL b := by
  induction a with
  | nil => rfl
  | cons v a ih => simp [encL, ih]
theorem encL_take (L : List Vl) (j : Nat) (hj : j < L.length) : encL (L.take (j + 1)) = encL (L.take j) ++ L[j].code := by
  rw [← List.take_append_getElem hj, encL_append]
  simp [encL]
theorem encL_take_le (L : List Vl) (j : Nat) : (encL (L.take j)).length ≤ (encL L).length := by
  conv => rhs; rw [← List.take_append_drop j L, encL_append]
  simp
theorem encS_long {L : List Vl} (h : ∀ t (ht : t < L.length), L[t].chk = 0) {j : Nat} (hl : 1024 < (encL (L.take j)).length) : encS L = ([], 3) := by
  unfold encS
  rw [if_pos (all_ok h), if_neg]
  have := encL_take_le L j
  omega
theorem encS_fine {L : List Vl} (h : ∀ t (ht : t < L.length), L[t].chk = 0) (hl : (encL L).length ≤ 1024) : encS L = (encL L, 0) := by
  unfold encS
  rw [if_pos (all_ok h), if_pos hl]
theorem code_len {v : Vl} (h : v.chk = 0) : v.code.length ≤ 131074 := by
  have h1 := chk_size h
  have h2 : (esc v.s.data.toList).length ≤ 131072 := by have := esc_len v.s.data.toList; simp at this; omega
  unfold Vl.code Vl.body
  rw [List.length_cons]
  split
  · simp
  · split
    · unfold wholeC
      split
      · rw [List.length_cons, hiB_len]; have := sz_le v.n.toNat; omega
      · rw [List.length_cons, hiB_len]; have := sz_le (-(v.n + 1)).toNat; omega
    · split
      · unfold realC; rw [hiB_len]; omega
      · split
        · unfold ended; rw [List.length_append]; simp; omega
        · simp

set_option maxHeartbeats 4000000 in
theorem encode_any (L : List Vl) (p : Option Addr) (c : Nat) (w : World) (hR : RowV w w.heap.size p L) (hok : ∀ v ∈ L, v.ok) (hlen : L.length ≤ 3518437208784) (hg : 2 < w.heap.size) (hT : Lib.Utf8Tabs 1 2 w) :
    Calls Tryd.prog 5 #[.slice p L.length c] w fun e w' => e = .returned (.tuple #[.string ⟨(encS L).1.toArray⟩, .int .i64 (encS L).2]) ∧ Below w.heap.size w w' := by
  have HH : Hid (RowV w w.heap.size p L ∧ (∀ v ∈ L, v.ok) ∧ Lib.Utf8Tabs 1 2 w) := ⟨hR, hok, hT⟩
  clear hR hok hT
  obtain ⟨r1, hr1⟩ : ∃ r, r = (encS L).1.toArray := ⟨_, rfl⟩
  obtain ⟨r2, hr2⟩ : ∃ r, r = (encS L).2 := ⟨_, rfl⟩
  rw [← hr1, ← hr2]
  have HRS : Hid (r1 = (encS L).1.toArray ∧ r2 = (encS L).2) := ⟨hr1, hr2⟩
  clear hr1 hr2
  go_enter Tryd.func5, Tryd.ntmps5
  go_wp2_with fail
  go_loopw [11] (fun i wr => ∃ j : Nat, j ≤ L.length ∧ i = .int .i64 (j : Int) ∧ (∀ t (ht : t < L.length), t < j → L[t].chk = 0) ∧ Below w.heap.size w wr) (fun i _ => L.length - (intOf i).toNat)
  case atStart => exact ⟨0, Nat.zero_le _, by go_num, fun t _ h => absurd h (by omega), Below.refl _ _⟩
  case round =>
    obtain ⟨j, hj, rfl, hall, hbl⟩ := hrel
    have hz := hbl.size
    by_cases hj0 : j = L.length
    · subst hj0
      have HH2 : Hid ((∀ t (ht : t < L.length), L[t].chk = 0) ∧ Below w.heap.size w wr) := ⟨fun t ht => hall t ht ht, hbl⟩
      clear hall hbl
      go_wp2_with fail
      go_loopw [6, 21] (fun key i ws => ∃ j : Nat, j ≤ L.length ∧ i = .int .i64 (j : Int) ∧ OwnB ws w.heap.size key (encL (L.take j)) ∧ (encL (L.take j)).length ≤ 1024 ∧ Below w.heap.size w ws) (fun _ i _ => L.length - (intOf i).toNat)
      case atStart => exact ⟨0, Nat.zero_le _, by go_num, OwnB.nil _ _, by simp [encL], HH2.out.2⟩
      case round =>
        obtain ⟨j, hj, rfl, hown, hle, hbl⟩ := hrel
        have hz2 := hbl.size
        by_cases hj0 : j = L.length
        · subst hj0
          rw [List.take_length] at hown hle
          have hcv := hown.conv
          have HE : Hid (encS L = (encL L, 0) ∧ Below w.heap.size w _) := ⟨encS_fine HH2.out.1 hle, hbl⟩
          clear hown hle hbl
          obtain ⟨r, hr⟩ : ∃ r, r = (encL L).toArray := ⟨_, rfl⟩
          rw [← hr] at hcv
          have HR2 : Hid (r = (encL L).toArray) := hr
          clear hr
          go_wp2
          go_ret2
          exact ⟨by rw [HRS.out.1, HRS.out.2, HE.out.1, HR2.out]; rfl, HE.out.2⟩
        · have hj1 : j < L.length := by omega
          obtain ⟨b, o, rfl, hbB, c0, c1, c2, c3⟩ := (HH.out.1.keep hbl) j hj1
          have hoj := HH.out.2.1 _ (List.getElem_mem hj1)
          have hcj := HH2.out.1 j hj1
          have het := encL_take L j hj1
          have HE : Hid (_ ∧ _ ∧ _ ∧ _ ∧ _ ∧ _) := ⟨hown, hle, hbl, hoj, hcj, het⟩
          clear hown hle hbl hoj hcj het
          generalize L[j] = v at *
          have hsf := run_store_float
          go_wp2_with (first | (go_at_call 12; refine (appendValue_any w.heap.size _ _ v _ (by simp; omega) (HE.out.1.kept ((Below.refl _ _).alloc (Nat.le_refl _) _)) (by have := HE.out.2.1; omega) HE.out.2.2.2.1 HE.out.2.2.2.2.1).mono ?_; rintro e w1 ⟨v1, rfl, h3, h4⟩; obtain ⟨p1, cap1, rfl⟩ := h3.len; rw [← HE.out.2.2.2.2.2] at h3; have hl3 : (encL (List.take j L) ++ v.code).length = (encL (L.take (j + 1))).length := by rw [HE.out.2.2.2.2.2]))
          · have hgt : (1024 : Int) < ((encL (L.take (j + 1))).length : Int) := by assumption
            go_ret2
            refine ⟨?_, HE.out.2.2.1.trans (((Below.refl _ _).alloc hz2 _).trans h4.below)⟩
            rw [HRS.out.1, HRS.out.2, encS_long HH2.out.1 (j := j + 1) (by omega)]
            rfl
          · have hgt : ¬ (1024 : Int) < ((encL (L.take (j + 1))).length : Int) := by first | assumption | (have h9 : ((encL (L.take (j + 1))).length : Int) ≤ 1024 := (by assumption); omega)
            go_roundw
            case rel => exact ⟨j + 1, by omega, by go_num, h3, by omega, HE.out.2.2.1.trans (((Below.refl _ _).alloc hz2 _).trans h4.below)⟩
            case measure => simp [intOf]; omega
    · have hj1 : j < L.length := by omega
      obtain ⟨b, o, rfl, hbB, c0, c1, c2, c3⟩ := (HH.out.1.keep hbl) j hj1
      have HH2 : Hid ((∀ t (ht : t < L.length), t < j → L[t].chk = 0) ∧ Below w.heap.size w wr ∧ L[j].ok) := ⟨hall, hbl, HH.out.2.1 _ (List.getElem_mem hj1)⟩
      clear hall hbl
      obtain ⟨v, hv⟩ : ∃ v, v = L[j] := ⟨_, rfl⟩
      rw [← hv] at c0 c1 c2 c3 HH2
      have HV : Hid (v = L[j]) := hv
      clear hv
      have C9 : Hid (∀ w1 : World, Below w.heap.size w w1 → _) := fun w1 hb => check_ok v w1 HH2.out.2.2 (by have := hb.size; omega) (tabs_keep hb hg HH.out.2.2)
      have hsf := run_store_float
      obtain ⟨ck, hck⟩ : ∃ ck, ck = v.chk := ⟨_, rfl⟩
      rw [← hck] at C9
      have HCK : Hid (ck = v.chk) := hck
      clear hck
      by_cases hck : ck = 0
      · subst hck
        go_wp2_with (first | (go_at_call 11; refine (C9.out _ (HH2.out.2.1.trans ((Below.refl _ _).alloc hz _))).mono ?_; rintro e w1 ⟨rfl, hb9⟩))
        have hb10 := HH2.out.2.1.trans (((Below.refl _ wr).alloc hz _).trans (hb9.mono (by simp; omega)))
        clear hb9
        go_roundw
        case rel =>
          refine ⟨j + 1, by omega, by go_num, fun t ht h => ?_, hb10⟩
          by_cases e : t = j
          · subst e; rw [← HV.out]; exact HCK.out.symm
          · exact HH2.out.1 t ht (by omega)
        case measure => simp [intOf]; omega
      · have hne : (ck != 0) = true := bneT hck
        have HNE : Hid (¬ ck = 0) := hck
        clear hck
        go_wp2_with (first | (go_at_call 11; refine (C9.out _ (HH2.out.2.1.trans ((Below.refl _ _).alloc hz _))).mono ?_; rintro e w1 ⟨rfl, hb9⟩))
        go_ret2
        have hb10 := HH2.out.2.1.trans (((Below.refl _ wr).alloc hz _).trans (hb9.mono (by simp; omega)))
        refine ⟨?_, hb10⟩
        rw [HRS.out.1, HRS.out.2, encS_bad hj1 (by rw [← HV.out, ← HCK.out]; exact HNE.out)]
        rfl

end Go.Proofs.YtcjpindbplppgaaDoor
