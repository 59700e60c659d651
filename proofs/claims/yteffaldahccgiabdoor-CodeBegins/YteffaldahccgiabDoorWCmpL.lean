/- The walk of the order of lists of values. -/
import Derived.Test.YteffaldahccgiabDoorWAwake
import Derived.Deep.RegionWith
namespace Go.Proofs.YteffaldahccgiabDoor
open Go.RowKit Ieee
set_option maxRecDepth 100000

theorem cmp_ok (u v : Vl) (w : World) (hu : u.ok) (hv : v.ok) :
    Calls Tryd.prog 31 #[u.val, v.val] w fun e w' => e = .returned (.int .i64 (u.cmp v)) ∧ Below w.heap.size w w' :=
  cmpW_any u.k u.n v.k v.n u.f v.f u.s v.s w hu.1.1 hu.1.2 hv.1.1 hv.1.2

theorem cmpL_step {A C : List Vl} {j : Nat} (h1 : j < A.length) (h2 : j < C.length) : cmpL (A.drop j) (C.drop j) = if (A[j].cmp C[j]) == 0 then cmpL (A.drop (j + 1)) (C.drop (j + 1)) else A[j].cmp C[j] := by
  rw [List.drop_eq_getElem_cons h1, List.drop_eq_getElem_cons h2]
  rfl
theorem cmpL_end {A C : List Vl} {j : Nat} (h1 : j ≤ A.length) (h2 : j ≤ C.length) (h : j = A.length ∨ j = C.length) : cmpL (A.drop j) (C.drop j) = cmpI (A.length : Int) (C.length : Int) := by
  unfold cmpI
  rcases h with rfl | rfl
  · rw [List.drop_length]
    by_cases e : A.length = C.length
    · rw [e, List.drop_length]; simp [cmpL]
    · rw [List.drop_eq_getElem_cons (by omega), if_pos (by omega)]; rfl
  · rw [List.drop_length (l := C)]
    by_cases e : A.length = C.length
    · rw [← e, List.drop_length]; simp [cmpL]
    · rw [List.drop_eq_getElem_cons (l := A) (by omega), if_neg (by omega), if_pos (by omega)]; rfl

set_option maxHeartbeats 4000000 in
theorem rcmp_any (A C : List Vl) (p q : Option Addr) (c d : Nat) (w : World) (hA : RowV w w.heap.size p A) (hC : RowV w w.heap.size q C) (oA : ∀ v ∈ A, v.ok) (oC : ∀ v ∈ C, v.ok) (lA : A.length ≤ 3518437208784) (_lC : C.length ≤ 3518437208784) :
    Calls Tryd.prog 17 #[.slice p A.length c, .slice q C.length d] w fun e w' => e = .returned (.int .i64 (cmpL A C)) ∧ Below w.heap.size w w' := by
  have HH : Hid (RowV w w.heap.size p A ∧ RowV w w.heap.size q C ∧ (∀ v ∈ A, v.ok) ∧ (∀ v ∈ C, v.ok)) := ⟨hA, hC, oA, oC⟩
  clear hA hC oA oC
  obtain ⟨r, hr⟩ : ∃ r, r = cmpL A C := ⟨_, rfl⟩
  rw [← hr]
  have HRS : Hid (r = cmpL A C) := hr
  clear hr
  go_enter Tryd.func17, Tryd.ntmps17
  go_wp2_with fail
  go_loopw [5] (fun i wr => ∃ j : Nat, j ≤ A.length ∧ j ≤ C.length ∧ i = .int .i64 (j : Int) ∧ cmpL (A.drop j) (C.drop j) = cmpL A C ∧ Below w.heap.size w wr) (fun i _ => A.length - (intOf i).toNat)
  case atStart => exact ⟨0, Nat.zero_le _, Nat.zero_le _, by go_num, rfl, Below.refl _ _⟩
  case round =>
    obtain ⟨j, hjA, hjC, rfl, heq, hbl⟩ := hrel
    have hz := hbl.size
    by_cases hj : j < A.length ∧ j < C.length
    · obtain ⟨hj1, hj2⟩ := hj
      obtain ⟨b, o, rfl, hbB, c0, c1, c2, c3⟩ := (HH.out.1.keep hbl) j hj1
      obtain ⟨b', o', rfl, hbB', c0', c1', c2', c3'⟩ := (HH.out.2.1.keep hbl) j hj2
      have hst := cmpL_step hj1 hj2
      have o1 := HH.out.2.2.1 _ (List.getElem_mem hj1)
      have o2 := HH.out.2.2.2 _ (List.getElem_mem hj2)
      have HE : Hid (_ = _ ∧ Below _ _ _ ∧ _ = _ ∧ Vl.ok _ ∧ Vl.ok _) := ⟨heq, hbl, hst, o1, o2⟩
      clear heq hbl hst o1 o2
      generalize A[j] = u at *
      generalize C[j] = v at *
      obtain ⟨t, ht⟩ : ∃ t, t = u.cmp v := ⟨_, rfl⟩
      have HT : Hid (t = u.cmp v) := ht
      have CM : Hid (∀ w1 : World, Calls Tryd.prog 31 #[u.val, v.val] w1 fun e w' => e = .returned (.int .i64 t) ∧ Below w1.heap.size w1 w') := fun w1 => by rw [ht]; exact cmp_ok u v w1 HE.out.2.2.2.1 HE.out.2.2.2.2
      clear ht
      by_cases ht : t = 0
      · subst ht
        go_wp2_with fail
        go_region_with (first | (go_at_call 31; refine (CM.out _).mono ?_; rintro e w1 ⟨rfl, hb⟩))
        all_goals (try go_wp2)
        all_goals go_roundw
        all_goals first
          | (refine ⟨j + 1, by omega, by omega, by go_num, ?_, HE.out.2.1.drew.trans (hb.mono hz)⟩
             have h9 := HE.out.2.2.1
             rw [← HT.out] at h9
             rw [← HE.out.1, h9]
             rfl)
          | (simp [intOf]; omega)
      · have hne : (t != 0) = true := bneT ht
        have HNE : Hid (¬ t = 0) := ht
        clear ht
        go_wp2_with fail
        go_region_with (first | (go_at_call 31; refine (CM.out _).mono ?_; rintro e w1 ⟨rfl, hb⟩))
        all_goals (try go_wp2)
        all_goals go_ret
        all_goals
          refine ⟨ret_i64 ?_, HE.out.2.1.drew.trans (hb.mono hz)⟩
          have h9 := HE.out.2.2.1
          rw [← HT.out] at h9
          rw [HRS.out, ← HE.out.1, h9]
          simp [HNE.out]
    · have hend : j = A.length ∨ j = C.length := by omega
      have he := cmpL_end hjA hjC hend
      have HE : Hid (_ = _ ∧ Below _ _ _ ∧ _ = _) := ⟨heq, hbl, he⟩
      clear heq hbl he hj
      have fin : Hid (r = cmpI (A.length : Int) (C.length : Int)) := by rw [HRS.out, ← HE.out.1, HE.out.2.2]; exact rfl
      clear HRS
      unfold cmpI at fin
      rcases Nat.lt_trichotomy A.length C.length with h | h | h
      · have h1 : (A.length : Int) < C.length := by omega
        have hjj : j = A.length := by omega
        have FIN : Hid (r = -1) := by rw [fin.out, if_pos h1]; exact rfl
        clear fin hend
        subst hjj
        go_wp2
        go_ret
        exact ⟨ret_i64 FIN.out.symm, HE.out.2.1⟩
      · have hjj : j = A.length := by omega
        have FIN : Hid (r = 0) := by rw [fin.out, if_neg (by omega), if_neg (by omega)]; exact rfl
        clear fin hend
        subst hjj
        have HH3 : Hid (A.length = C.length) := h
        have h1 : (A.length : Int) ≤ C.length := by omega
        have h2 : (C.length : Int) ≤ A.length := by omega
        clear h
        go_wp2
        all_goals (try (exfalso; omega))
        all_goals go_ret
        all_goals exact ⟨ret_i64 FIN.out.symm, HE.out.2.1⟩
      · have h1 : (C.length : Int) < A.length := by omega
        have hjj : j = C.length := by omega
        have FIN : Hid (r = 1) := by rw [fin.out, if_neg (by omega), if_pos h1]; exact rfl
        clear fin hend
        subst hjj
        go_wp2
        go_ret
        exact ⟨ret_i64 FIN.out.symm, HE.out.2.1⟩

theorem encS_ok {L : List Vl} (h : (encS L).2 = 0) (hok : ∀ v ∈ L, v.ok) : (encS L).1 = encL L ∧ Fine L := by
  unfold encS at *
  split at h
  · rename_i ha
    split at h
    · rename_i hb
      rw [if_pos ha, if_pos hb]
      refine ⟨rfl, fun v hv => ⟨hok v hv, ?_⟩⟩
      have := List.all_eq_true.1 ha v hv
      simpa using this
    · simp at h
  · simp at h
end Go.Proofs.YteffaldahccgiabDoor
