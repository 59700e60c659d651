/- Of the document: the places of spans. -/
import Derived.Test.YtiiladcihheogaaGreatWNc
import Derived.Test.YtiiladcihheogaaGreatWRU
namespace Go.Proofs.YtiiladcihheogaaGreat
open Go.RowKit
set_option maxRecDepth 100000

set_option maxHeartbeats 8000000 in
theorem places_any (L : List Sp) (v : Value) (w : World) (h : SlS w v L) (hlen : L.length ≤ 65536) :
    Calls Tryz.prog 43 #[v] w fun e w' => ∃ (v' : Value) (R : List Pt), e = .returned v' ∧ SlP w' v' R ∧ RisP R ∧ (∀ x, x ∈ R ↔ x ∈ L.map plcS) ∧ R.length ≤ L.length ∧ Below w.heap.size w w' := by
  obtain ⟨p, c, rfl, hc1, hc2, hR⟩ := h.f
  have HR : Hid (RowS w w.heap.size p L) := hR
  clear hR h
  have HO0 : Hid (OwnP (w.alloc (.cells #[] 38)) w.heap.size (.slice (some ⟨w.heap.size, 0, none⟩) 0 0) []) := World.ownsRow_lit w #[] 0 (Nat.le_refl _) (Nat.zero_le _) rfl
  have HB0 : Hid (Below w.heap.size w (w.alloc (.cells #[] 38))) := (Below.refl _ _).alloc (Nat.le_refl _) _
  go_enter Tryz.func43, Tryz.ntmps43
  go_wp2_with fail
  generalize (w.alloc (.cells #[] 38)) = w0 at *
  go_loopw [3, 4] (fun u i wr => ∃ (j : Nat) (q : Option Addr) (l d : Nat), j ≤ L.length ∧ i = .int .i64 (j : Int) ∧ u = .slice q l d ∧ Hid (OwnP wr w.heap.size (.slice q l d) ((L.take j).map plcS)) ∧ Hid (Below w.heap.size w wr)) (fun _ i _ => L.length - (intOf i).toNat)
  case atStart => exact ⟨0, _, _, _, Nat.zero_le _, by go_num, rfl, HO0.out, HB0.out⟩
  case round =>
    obtain ⟨j, q, l, d, hj, rfl, rfl, HOw, HBl⟩ := hrel
    clear HO0 HB0
    by_cases hj0 : j = L.length
    · subst hj0
      have HOx : Hid (OwnP wr w.heap.size (.slice q l d) (L.map plcS)) := by have h := HOw.out; rw [List.take_of_length_le (Nat.le_refl _)] at h; exact h
      clear HOw
      generalize wr = w1 at *
      have HS : Hid (Calls _ _ _ _ _) := rsorted_any (L.map plcS) (.slice q l d) w1 HOx.out.sl (by rw [List.length_map]; omega)
      go_wp2_with fail
      refine HS.out.mono ?_
      rintro e w2 ⟨v', R, rfl, h1, h2, h3, h4, h5⟩
      go_wp2_with fail
      go_ret
      exact ⟨_, R, rfl, h1, h2, h3, by rw [List.length_map] at h4; exact h4, HBl.out.trans (h5.mono HBl.out.size)⟩
    · have hj1 : j < L.length := by omega
      obtain ⟨bk, o, hp, hbB, c0, c1, _⟩ := (HR.out.keep HBl.out) j hj1
      subst hp
      have HTk : Hid ((L.take (j + 1)).map plcS = (L.take j).map plcS ++ [⟨L[j].t, L[j].i, ⟨#[]⟩⟩]) := by rw [take_snoc L j hj1, List.map_append]; rfl
      generalize L[j].t = st at *
      generalize L[j].i = si at *
      go_wp2_with fail
      refine wp_region_L (fun w' => w'.cell? ⟨bk, o + j * 5, none⟩ = some (.int .i64 st) ∧ w'.cell? ⟨bk, o + j * 5 + 1, none⟩ = some (.int .i64 si)) 14 (by kernel_rfl) ?_
      have hdr : Below wr.heap.size wr wr.drew := (Below.refl _ _).drew
      have HS0 : Hid (wr.drew.cell? ⟨bk, o + j * 5, none⟩ = some (.int .i64 st) ∧ wr.drew.cell? ⟨bk, o + j * 5 + 1, none⟩ = some (.int .i64 si)) := ⟨c0, c1⟩
      have HBd : Hid (OwnP wr.drew w.heap.size (.slice q l d) ((L.take j).map plcS) ∧ Below w.heap.size w wr.drew) := ⟨HOw.out.kept hdr, HBl.out.trans (hdr.mono HBl.out.size)⟩
      have HZ : Hid (bk < w.heap.size ∧ w.heap.size ≤ wr.drew.heap.size) := ⟨hbB, HBd.out.2.size⟩
      clear hdr c0 c1 HOw HBl hbB
      generalize wr.drew = wd at *
      refine wpL_take (v := ?_) 0 rfl (by kernel_rfl) (fun _ _ _ h => h) (by rfl) ?_ HS0.out ?_
      rotate_left
      focus
        intro w9 hw9
        obtain ⟨k0, k1⟩ := hw9
        go_simp
        try with_reducible rfl
      try simp only [Act.put, List.setIfInBounds_toArray, List.set_cons_zero, List.set_cons_succ]
      refine wpL_take (v := ?_) 1 rfl (by kernel_rfl) (fun _ _ _ h => h) (by rfl) ?_ HS0.out ?_
      rotate_left
      focus
        intro w9 hw9
        obtain ⟨k0, k1⟩ := hw9
        go_simp
        try with_reducible rfl
      try simp only [Act.put, List.setIfInBounds_toArray, List.set_cons_zero, List.set_cons_succ]
      refine wpL_take (v := ?_) 2 rfl (by kernel_rfl) (fun _ _ _ h => h) (by rfl) ?_ HS0.out ?_
      rotate_left
      focus
        intro w9 hw9
        obtain ⟨k0, k1⟩ := hw9
        go_simp
        try with_reducible rfl
      try simp only [Act.put, List.setIfInBounds_toArray, List.set_cons_zero, List.set_cons_succ]
      refine wpL_take (v := ?_) 3 rfl (by kernel_rfl) (fun _ _ _ h => h) (by rfl) ?_ HS0.out ?_
      rotate_left
      focus
        intro w9 hw9
        obtain ⟨k0, k1⟩ := hw9
        go_simp
        try with_reducible rfl
      try simp only [Act.put, List.setIfInBounds_toArray, List.set_cons_zero, List.set_cons_succ]
      refine wpL_take (v := ?_) 4 rfl (by kernel_rfl) (fun _ _ _ h => h) (by rfl) ?_ HS0.out ?_
      rotate_left
      focus
        intro w9 hw9
        obtain ⟨k0, k1⟩ := hw9
        go_simp
        try with_reducible rfl
      try simp only [Act.put, List.setIfInBounds_toArray, List.set_cons_zero, List.set_cons_succ]
      refine wpL_take (v := ?_) 5 rfl (by kernel_rfl) (fun _ _ _ h => h) (by rfl) ?_ HS0.out ?_
      rotate_left
      focus
        intro w9 hw9
        obtain ⟨k0, k1⟩ := hw9
        go_simp
        try with_reducible rfl
      try simp only [Act.put, List.setIfInBounds_toArray, List.set_cons_zero, List.set_cons_succ]
      refine wpL_take (v := ?_) 6 rfl (by kernel_rfl) (fun _ _ _ h => h) (by rfl) ?_ HS0.out ?_
      rotate_left
      focus
        intro w9 hw9
        obtain ⟨k0, k1⟩ := hw9
        go_simp
        try with_reducible rfl
      try simp only [Act.put, List.setIfInBounds_toArray, List.set_cons_zero, List.set_cons_succ]
      refine wpL_take (v := ?_) 7 rfl (by kernel_rfl) (fun _ _ _ h => h) (by rfl) ?_ HS0.out ?_
      rotate_left
      focus
        intro w9 hw9
        obtain ⟨k0, k1⟩ := hw9
        go_simp
        try with_reducible rfl
      try simp only [Act.put, List.setIfInBounds_toArray, List.set_cons_zero, List.set_cons_succ]
      refine wpL_take (v := ?_) 8 rfl (by kernel_rfl) (fun _ _ _ h => h) (by rfl) ?_ HS0.out ?_
      rotate_left
      focus
        intro w9 hw9
        obtain ⟨k0, k1⟩ := hw9
        go_simp
        try with_reducible rfl
      try simp only [Act.put, List.setIfInBounds_toArray, List.set_cons_zero, List.set_cons_succ]
      refine wpL_take (v := ?_) 9 rfl (by kernel_rfl) (fun _ _ _ h => h) (by rfl) ?_ HS0.out ?_
      rotate_left
      focus
        intro w9 hw9
        obtain ⟨k0, k1⟩ := hw9
        go_simp
        try with_reducible rfl
      try simp only [Act.put, List.setIfInBounds_toArray, List.set_cons_zero, List.set_cons_succ]
      refine wpL_take (v := ?_) 10 rfl (by kernel_rfl) (fun _ _ _ h => h) (by rfl) ?_ HS0.out ?_
      rotate_left
      focus
        intro w9 hw9
        obtain ⟨k0, k1⟩ := hw9
        go_simp
        try with_reducible rfl
      try simp only [Act.put, List.setIfInBounds_toArray, List.set_cons_zero, List.set_cons_succ]
      refine wpL_take (v := ?_) 11 rfl (by kernel_rfl) (fun _ _ _ h => h) (by rfl) ?_ HS0.out ?_
      rotate_left
      focus
        intro w9 hw9
        obtain ⟨k0, k1⟩ := hw9
        go_simp
        try with_reducible rfl
      try simp only [Act.put, List.setIfInBounds_toArray, List.set_cons_zero, List.set_cons_succ]
      have HAL : Hid (Below wd.heap.size wd (wd.alloc (.cells #[.int .i64 st, .int .i64 si, .string ⟨#[]⟩] 38))) := (Below.refl _ _).alloc (Nat.le_refl _) _
      have HS1 : Hid ((wd.alloc (.cells #[.int .i64 st, .int .i64 si, .string ⟨#[]⟩] 38)).cell? ⟨bk, o + j * 5, none⟩ = some (.int .i64 st) ∧ (wd.alloc (.cells #[.int .i64 st, .int .i64 si, .string ⟨#[]⟩] 38)).cell? ⟨bk, o + j * 5 + 1, none⟩ = some (.int .i64 si)) := by
        obtain ⟨k0, k1⟩ := HS0.out
        obtain ⟨z1, z2⟩ := HZ.out
        exact ⟨((HAL.out).cell (p := ⟨bk, o + j * 5, none⟩) (show bk < _ by omega)).trans k0, ((HAL.out).cell (p := ⟨bk, o + j * 5 + 1, none⟩) (show bk < _ by omega)).trans k1⟩
      refine wpL_one 12 rfl (by kernel_rfl) (by rfl) ?_
      intro K hK
      go_simp
      refine hK.out _ _ (fun _ => HS1.out) ?_
      clear hK K
      try simp only [Act.put, List.setIfInBounds_toArray, List.set_cons_zero, List.set_cons_succ]
      refine wpL_one 13 rfl (by kernel_rfl) (by rfl) ?_
      intro K hK
      refine wp_appP wd (.tmp 12) (.tmp 24) rfl w.heap.size (.slice q l d) ((L.take j).map plcS) (by rfl) HBd.out.1 ⟨st, si, ⟨#[]⟩⟩ wd.heap.size (by rfl) rfl (by rw [List.length_map, List.length_take]; omega) HZ.out.2 ?_
      intro v3 we h3 h5
      have HO3 : Hid (OwnP we w.heap.size v3 ((L.take j).map plcS ++ [⟨st, si, ⟨#[]⟩⟩]) ∧ Below w.heap.size wd we) := ⟨h3, h5⟩
      clear h3 h5
      have HS2 : Hid (we.cell? ⟨bk, o + j * 5, none⟩ = some (.int .i64 st) ∧ we.cell? ⟨bk, o + j * 5 + 1, none⟩ = some (.int .i64 si)) := by
        obtain ⟨k0, k1⟩ := HS0.out
        obtain ⟨z1, z2⟩ := HZ.out
        exact ⟨((HO3.out.2).cell (p := ⟨bk, o + j * 5, none⟩) (show bk < _ by omega)).trans k0, ((HO3.out.2).cell (p := ⟨bk, o + j * 5 + 1, none⟩) (show bk < _ by omega)).trans k1⟩
      refine hK.out _ _ (fun _ => HS2.out) ?_
      clear hK K
      try simp only [Act.put, List.setIfInBounds_toArray, List.set_cons_zero, List.set_cons_succ]
      obtain ⟨q3, l3, d3, hv3⟩ : ∃ q3 l3 d3, v3 = .slice q3 l3 d3 := by
        obtain ⟨p9, c9, e9, _⟩ := HO3.out.1.row
        exact ⟨_, _, _, e9⟩
      subst hv3
      refine wpL_one 14 rfl (by kernel_rfl) (by rfl) ?_
      intro K hK
      go_simp
      refine hK.out _ _ (fun h => absurd rfl h) ?_
      clear hK K
      refine wpL_done (by kernel_rfl) ?_ _
      try simp only [NoPanic]
      try simp only [Act.put, List.setIfInBounds_toArray, List.set_cons_zero, List.set_cons_succ]
      go_wp2_with fail
      go_roundw
      case rel => exact ⟨j + 1, q3, l3, d3, hj1, by go_num, rfl, (show OwnP _ _ _ _ by rw [HTk.out]; exact HO3.out.1), HBd.out.2.trans HO3.out.2⟩
      case measure => simp [intOf]; omega
end Go.Proofs.YtiiladcihheogaaGreat
