/- The first row that two wrote: Both. What a foot reads. -/
import Derived.Test.YtcknhjabdjbjiabGreatGWCl6
namespace Go.Proofs.YtcknhjabdjbjiabGreat
open Go.RowKit
set_option maxRecDepth 100000

theorem OwnP.ne {w : World} {B lb : Nat} {p : Option Addr} {n c : Nat} {L : List Pt} (h : OwnP w B (.slice p n c) L) (hl : lb < B) : ∀ b o, p = some ⟨b, o, none⟩ → L ≠ [] → ¬ b = lb := by
  intro b o e _
  rcases h.form with ⟨h9, _⟩ | ⟨g, cap, h9, hg, _⟩
  · obtain ⟨h9, -, -⟩ := Value.slice.inj h9
    rw [h9] at e
    cases e
  · obtain ⟨h9, -, -⟩ := Value.slice.inj h9
    rw [h9] at e
    cases e
    omega

set_option maxHeartbeats 8000000 in
theorem both_any (a b : Ft) (va0 va1 va2 vb0 vb1 vb2 : Value) (w : World) (ha : RdF w va0 va1 va2 a) (hb : RdF w vb0 vb1 vb2 b) :
    Calls Tryz.prog 26 #[.agg #[va0, va1, va2], .agg #[vb0, vb1, vb2]] w fun e w' => ∃ o, IsMin (fun x => x ∈ rowsL a.W ∧ x ∈ rowsL b.W) o ∧ e = .returned (.tuple #[PV (lP o), .bool o.isSome]) ∧ Below w.heap.size w w' := by
  have hal : Below w.heap.size w ((((w.alloc (.cells #[va0, va1, va2] 27)).alloc (.cells #[vb0, vb1, vb2] 27)).alloc (.cells #[.int .i64 0, .int .i64 0, .string ⟨#[]⟩] 36)).alloc (.cells #[.int .i64 0, .int .i64 0, .string ⟨#[]⟩, .bool false] 94)) := ((((Below.refl _ _).alloc (Nat.le_refl _) _).alloc (by simp) _).alloc (by simp <;> omega) _).alloc (by simp <;> omega) _
  have hz : ((((w.alloc (.cells #[va0, va1, va2] 27)).alloc (.cells #[vb0, vb1, vb2] 27)).alloc (.cells #[.int .i64 0, .int .i64 0, .string ⟨#[]⟩] 36)).alloc (.cells #[.int .i64 0, .int .i64 0, .string ⟨#[]⟩, .bool false] 94)).heap.size = w.heap.size + 1 + 1 + 1 + 1 := by simp
  have hB : Blk ((((w.alloc (.cells #[va0, va1, va2] 27)).alloc (.cells #[vb0, vb1, vb2] 27)).alloc (.cells #[.int .i64 0, .int .i64 0, .string ⟨#[]⟩] 36)).alloc (.cells #[.int .i64 0, .int .i64 0, .string ⟨#[]⟩, .bool false] 94)) (w.heap.size + 1 + 1 + 1) (lC none) 94 := by
    have h := Blk.new (((w.alloc (.cells #[va0, va1, va2] 27)).alloc (.cells #[vb0, vb1, vb2] 27)).alloc (.cells #[.int .i64 0, .int .i64 0, .string ⟨#[]⟩] 36)) #[.int .i64 0, .int .i64 0, .string ⟨#[]⟩, .bool false] 94
    have e : (((w.alloc (.cells #[va0, va1, va2] 27)).alloc (.cells #[vb0, vb1, vb2] 27)).alloc (.cells #[.int .i64 0, .int .i64 0, .string ⟨#[]⟩] 36)).heap.size = w.heap.size + 1 + 1 + 1 := by simp
    rw [e] at h
    exact h
  have hA0 : Blk ((((w.alloc (.cells #[va0, va1, va2] 27)).alloc (.cells #[vb0, vb1, vb2] 27)).alloc (.cells #[.int .i64 0, .int .i64 0, .string ⟨#[]⟩] 36)).alloc (.cells #[.int .i64 0, .int .i64 0, .string ⟨#[]⟩, .bool false] 94)) w.heap.size #[va0, va1, va2] 27 := (Blk.new w #[va0, va1, va2] 27).keep (B := w.heap.size + 1) ((((Below.refl _ _).alloc (by simp) _).alloc (by simp) _).alloc (by simp <;> omega) _) (by omega)
  have hB0 : Blk ((((w.alloc (.cells #[va0, va1, va2] 27)).alloc (.cells #[vb0, vb1, vb2] 27)).alloc (.cells #[.int .i64 0, .int .i64 0, .string ⟨#[]⟩] 36)).alloc (.cells #[.int .i64 0, .int .i64 0, .string ⟨#[]⟩, .bool false] 94)) (w.heap.size + 1) #[vb0, vb1, vb2] 27 := by
    have h := Blk.new (w.alloc (.cells #[va0, va1, va2] 27)) #[vb0, vb1, vb2] 27
    have e : (w.alloc (.cells #[va0, va1, va2] 27)).heap.size = w.heap.size + 1 := by simp
    rw [e] at h
    exact h.keep (B := w.heap.size + 1 + 1) (((Below.refl _ _).alloc (by simp) _).alloc (by simp) _) (by omega)
  have hC0 : Blk ((((w.alloc (.cells #[va0, va1, va2] 27)).alloc (.cells #[vb0, vb1, vb2] 27)).alloc (.cells #[.int .i64 0, .int .i64 0, .string ⟨#[]⟩] 36)).alloc (.cells #[.int .i64 0, .int .i64 0, .string ⟨#[]⟩, .bool false] 94)) (w.heap.size + 1 + 1) #[.int .i64 0, .int .i64 0, .string ⟨#[]⟩] 36 := by
    have h := Blk.new ((w.alloc (.cells #[va0, va1, va2] 27)).alloc (.cells #[vb0, vb1, vb2] 27)) #[.int .i64 0, .int .i64 0, .string ⟨#[]⟩] 36
    have e : ((w.alloc (.cells #[va0, va1, va2] 27)).alloc (.cells #[vb0, vb1, vb2] 27)).heap.size = w.heap.size + 1 + 1 := by simp
    rw [e] at h
    exact h.keep (B := w.heap.size + 1 + 1 + 1) ((Below.refl _ _).alloc (by simp) _) (by omega)
  have HW : Hid (Below w.heap.size w ((((w.alloc (.cells #[va0, va1, va2] 27)).alloc (.cells #[vb0, vb1, vb2] 27)).alloc (.cells #[.int .i64 0, .int .i64 0, .string ⟨#[]⟩] 36)).alloc (.cells #[.int .i64 0, .int .i64 0, .string ⟨#[]⟩, .bool false] 94)) ∧ ((((w.alloc (.cells #[va0, va1, va2] 27)).alloc (.cells #[vb0, vb1, vb2] 27)).alloc (.cells #[.int .i64 0, .int .i64 0, .string ⟨#[]⟩] 36)).alloc (.cells #[.int .i64 0, .int .i64 0, .string ⟨#[]⟩, .bool false] 94)).heap.size = w.heap.size + 1 + 1 + 1 + 1 ∧ Blk ((((w.alloc (.cells #[va0, va1, va2] 27)).alloc (.cells #[vb0, vb1, vb2] 27)).alloc (.cells #[.int .i64 0, .int .i64 0, .string ⟨#[]⟩] 36)).alloc (.cells #[.int .i64 0, .int .i64 0, .string ⟨#[]⟩, .bool false] 94)) w.heap.size #[va0, va1, va2] 27 ∧ Blk ((((w.alloc (.cells #[va0, va1, va2] 27)).alloc (.cells #[vb0, vb1, vb2] 27)).alloc (.cells #[.int .i64 0, .int .i64 0, .string ⟨#[]⟩] 36)).alloc (.cells #[.int .i64 0, .int .i64 0, .string ⟨#[]⟩, .bool false] 94)) (w.heap.size + 1) #[vb0, vb1, vb2] 27 ∧ Blk ((((w.alloc (.cells #[va0, va1, va2] 27)).alloc (.cells #[vb0, vb1, vb2] 27)).alloc (.cells #[.int .i64 0, .int .i64 0, .string ⟨#[]⟩] 36)).alloc (.cells #[.int .i64 0, .int .i64 0, .string ⟨#[]⟩, .bool false] 94)) (w.heap.size + 1 + 1) #[.int .i64 0, .int .i64 0, .string ⟨#[]⟩] 36 ∧ Blk ((((w.alloc (.cells #[va0, va1, va2] 27)).alloc (.cells #[vb0, vb1, vb2] 27)).alloc (.cells #[.int .i64 0, .int .i64 0, .string ⟨#[]⟩] 36)).alloc (.cells #[.int .i64 0, .int .i64 0, .string ⟨#[]⟩, .bool false] 94)) (w.heap.size + 1 + 1 + 1) (lC none) 94) := ⟨hal, hz, hA0, hB0, hC0, hB⟩
  have HS : Hid (SlP w va2 a.W ∧ SlP w vb2 b.W ∧ a.W.length ≤ 4398046511104 ∧ b.W.length ≤ 4398046511104) := ⟨ha.w, hb.w, ha.lw, hb.lw⟩
  clear ha hb hal hz hB hA0 hB0 hC0
  go_enter Tryz.func26, Tryz.ntmps26
  go_wp2_with fail
  generalize ((((w.alloc (.cells #[va0, va1, va2] 27)).alloc (.cells #[vb0, vb1, vb2] 27)).alloc (.cells #[.int .i64 0, .int .i64 0, .string ⟨#[]⟩] 36)).alloc (.cells #[.int .i64 0, .int .i64 0, .string ⟨#[]⟩, .bool false] 94)) = w4 at *
  refine wp_region_L (fun w' => Blk w' w.heap.size #[va0, va1, va2] 27 ∧ Blk w' (w.heap.size + 1) #[vb0, vb1, vb2] 27) 7 (by kernel_rfl) ?_
  have HD : Hid (Below w4.heap.size w4 w4.drew) := (Below.refl _ _).drew
  have HS0 : Hid (Blk w4.drew w.heap.size #[va0, va1, va2] 27 ∧ Blk w4.drew (w.heap.size + 1) #[vb0, vb1, vb2] 27) := ⟨HW.out.2.2.1.on HD.out, HW.out.2.2.2.1.on HD.out⟩
  generalize w4.drew = wd at *
  refine wpL_take (v := ?_) 0 rfl (by kernel_rfl) (fun _ _ _ h => h) (by rfl) ?_ HS0.out ?_
  rotate_left
  focus
    intro w9 hw9
    have k2 := Blk.cell hw9.1 (i := 2) rfl
    have k5 := Blk.cell hw9.2 (i := 2) rfl
    go_simp
    try with_reducible rfl
  try simp only [Act.put, List.setIfInBounds_toArray, List.set_cons_zero, List.set_cons_succ]
  refine wpL_take (v := ?_) 1 rfl (by kernel_rfl) (fun _ _ _ h => h) (by rfl) ?_ HS0.out ?_
  rotate_left
  focus
    intro w9 hw9
    have k2 := Blk.cell hw9.1 (i := 2) rfl
    have k5 := Blk.cell hw9.2 (i := 2) rfl
    go_simp
    try with_reducible rfl
  try simp only [Act.put, List.setIfInBounds_toArray, List.set_cons_zero, List.set_cons_succ]
  refine wpL_take (v := ?_) 3 rfl (by kernel_rfl) (fun _ _ _ h => h) (by rfl) ?_ HS0.out ?_
  rotate_left
  focus
    intro w9 hw9
    have k2 := Blk.cell hw9.1 (i := 2) rfl
    have k5 := Blk.cell hw9.2 (i := 2) rfl
    go_simp
    try with_reducible rfl
  try simp only [Act.put, List.setIfInBounds_toArray, List.set_cons_zero, List.set_cons_succ]
  refine wpL_take (v := ?_) 4 rfl (by kernel_rfl) (fun _ _ _ h => h) (by rfl) ?_ HS0.out ?_
  rotate_left
  focus
    intro w9 hw9
    have k2 := Blk.cell hw9.1 (i := 2) rfl
    have k5 := Blk.cell hw9.2 (i := 2) rfl
    go_simp
    try with_reducible rfl
  try simp only [Act.put, List.setIfInBounds_toArray, List.set_cons_zero, List.set_cons_succ]
  refine wpL_one 2 rfl (by kernel_rfl) (by rfl) ?_
  intro K hK
  go_simp
  have CR : Hid (Calls Tryz.prog 48 #[va2] wd fun e w' => ∃ v', e = .returned v' ∧ OwnP w' wd.heap.size v' (rowsL a.W) ∧ Below wd.heap.size wd w') := rows_any a.W va2 wd (HS.out.1.on (HW.out.1.trans (HD.out.mono HW.out.1.size))) HS.out.2.2.1
  refine CR.out.mono ?_
  rintro e w5 ⟨v5, rfl, hO5, hb5⟩
  dsimp only
  have HS1 : Hid (Blk w5 w.heap.size #[va0, va1, va2] 27 ∧ Blk w5 (w.heap.size + 1) #[vb0, vb1, vb2] 27) := ⟨HS0.out.1.on hb5, HS0.out.2.on hb5⟩
  refine hK.out _ _ (fun _ => HS1.out) ?_
  clear hK K CR
  try simp only [Act.put, List.setIfInBounds_toArray, List.set_cons_zero, List.set_cons_succ]
  refine wpL_one 5 rfl (by kernel_rfl) (by rfl) ?_
  intro K hK
  go_simp
  have HB5 : Hid (OwnP w5 wd.heap.size v5 (rowsL a.W) ∧ Below w4.heap.size w4 w5 ∧ w4.heap.size ≤ wd.heap.size) := ⟨hO5, HD.out.trans (hb5.mono HD.out.size), HD.out.size⟩
  have CR : Hid (Calls Tryz.prog 48 #[vb2] w5 fun e w' => ∃ v', e = .returned v' ∧ OwnP w' w5.heap.size v' (rowsL b.W) ∧ Below w5.heap.size w5 w') := rows_any b.W vb2 w5 (HS.out.2.1.on (HW.out.1.trans (HB5.out.2.1.mono HW.out.1.size))) HS.out.2.2.2
  refine CR.out.mono ?_
  rintro e w6 ⟨v6, rfl, hO6, hb6⟩
  dsimp only
  have HS2 : Hid (Blk w6 w.heap.size #[va0, va1, va2] 27 ∧ Blk w6 (w.heap.size + 1) #[vb0, vb1, vb2] 27) := ⟨HS1.out.1.on hb6, HS1.out.2.on hb6⟩
  refine hK.out _ _ (fun _ => HS2.out) ?_
  clear hK K CR
  try simp only [Act.put, List.setIfInBounds_toArray, List.set_cons_zero, List.set_cons_succ]
  have HB6 : Hid (OwnP w6 wd.heap.size v5 (rowsL a.W) ∧ OwnP w6 w5.heap.size v6 (rowsL b.W) ∧ Below w4.heap.size w4 w6 ∧ w4.heap.size ≤ wd.heap.size ∧ w4.heap.size ≤ w5.heap.size) := ⟨HB5.out.1.kept hb6, hO6, HB5.out.2.1.trans (hb6.mono HB5.out.2.1.size), HB5.out.2.2, HB5.out.2.1.size⟩
  clear hO5 hb5 hO6 hb6 HB5 HS0 HS1 HD
  obtain ⟨p5, c5, e5, l5, l5', h5⟩ := HB6.out.1.sl.f
  obtain ⟨p6, c6, e6, l6, l6', h6⟩ := HB6.out.2.1.sl.f
  have hla : (rowsL a.W).length ≤ a.W.length := List.length_filter_le _ _
  have hlb : (rowsL b.W).length ≤ b.W.length := List.length_filter_le _ _
  have C1 : Hid (Calls Tryz.prog 43 #[ptr1 (w.heap.size + 1 + 1 + 1), v5, v6] w6 fun e w' => e = .returned (.tuple #[]) ∧ ∃ o', IsMin (fun x => False ∨ (x ∈ rowsL a.W ∧ x ∈ rowsL b.W)) o' ∧ Blk w' (w.heap.size + 1 + 1 + 1) (lC o') 94 ∧ Frm w6 w' (fun k => k = w.heap.size + 1 + 1 + 1)) := by
    have h9 := HB6.out
    rw [e5, e6] at h9 ⊢
    exact seeShared_any (fun _ => False) none (rowsL a.W) (rowsL b.W) p5 p6 c5 c6 (w.heap.size + 1 + 1 + 1) w6 (fun x hx => hx) (HW.out.2.2.2.2.2.on HB6.out.2.2.1) h5 h6 (Nat.le_trans hla HS.out.2.2.1) (Nat.le_trans hlb HS.out.2.2.2) (h9.1.ne (by have := HW.out.2.1; have := h9.2.2.2.1; omega)) (h9.2.1.ne (by have := HW.out.2.1; have := h9.2.2.2.2; omega))
  clear e5 e6 l5 l5' l6 l6' h5 h6 hla hlb
  refine wpL_one 6 rfl (by kernel_rfl) (by rfl) ?_
  intro K hK
  go_simp
  refine C1.out.mono ?_
  rintro e w7 ⟨rfl, o2, hm2, hb6, hf6⟩
  dsimp only
  refine hK.out _ _ (fun _ => ⟨HS2.out.1.frm hf6 (by omega), HS2.out.2.frm hf6 (by omega)⟩) ?_
  clear hK K C1
  try simp only [Act.put, List.setIfInBounds_toArray, List.set_cons_zero, List.set_cons_succ]
  refine wpL_done (by kernel_rfl) ?_ _
  try simp only [NoPanic]
  have HM : Hid (IsMin (fun x => x ∈ rowsL a.W ∧ x ∈ rowsL b.W) o2) := hm2.ext (fun x => ⟨fun h => h.elim False.elim id, .inr⟩)
  rw [lC_eq] at hb6
  have HB7 : Hid (Blk w7 (w.heap.size + 1 + 1 + 1) #[.int .i64 (lP o2).t, .int .i64 (lP o2).i, .string (lP o2).k, .bool o2.isSome] 94 ∧ Blk w7 (w.heap.size + 1 + 1) #[.int .i64 0, .int .i64 0, .string ⟨#[]⟩] 36 ∧ Below w.heap.size w w7) := ⟨hb6, (HW.out.2.2.2.2.1.on HB6.out.2.2.1).frm hf6 (by omega), (HW.out.1.trans (HB6.out.2.2.1.mono HW.out.1.size)).trans (hf6.below (by have := HB6.out.2.2.1.size; have := HW.out.2.1; omega) (fun k hk => by omega))⟩
  clear hm2 hb6 hf6 HW HB6 HS HS2
  rename World => w8
  have HB6 : Hid (Blk w8 (w.heap.size + 1 + 1 + 1) #[.int .i64 (lP o2).t, .int .i64 (lP o2).i, .string (lP o2).k, .bool o2.isSome] 94 ∧ Blk w8 (w.heap.size + 1 + 1) #[.int .i64 0, .int .i64 0, .string ⟨#[]⟩] 36 ∧ Below w.heap.size w w8) := HB7.out
  clear HB7
  obtain ⟨x, hx⟩ : ∃ x, x = lP o2 := ⟨_, rfl⟩
  obtain ⟨so, hso⟩ : ∃ so, so = o2.isSome := ⟨_, rfl⟩
  rw [← hx, ← hso] at HB6
  have HX : Hid (x = lP o2 ∧ so = o2.isSome) := ⟨hx, hso⟩
  clear hx hso
  go_wp2_with fail
  refine wp_region_L (fun w' => Blk w' (w.heap.size + 1 + 1 + 1) #[.int .i64 x.t, .int .i64 x.i, .string x.k, .bool so] 94) 5 (by kernel_rfl) ?_
  have hdr : Below w8.heap.size w8 w8.drew := (Below.refl _ _).drew
  have HD : Hid (Blk w8.drew (w.heap.size + 1 + 1 + 1) #[.int .i64 x.t, .int .i64 x.i, .string x.k, .bool so] 94 ∧ Blk w8.drew (w.heap.size + 1 + 1) #[.int .i64 0, .int .i64 0, .string ⟨#[]⟩] 36 ∧ Below w.heap.size w w8.drew) := ⟨HB6.out.1.on hdr, HB6.out.2.1.on hdr, HB6.out.2.2.drew⟩
  have HS0 : Hid (Blk w8.drew (w.heap.size + 1 + 1 + 1) #[.int .i64 x.t, .int .i64 x.i, .string x.k, .bool so] 94) := HD.out.1
  clear hdr HB6
  generalize w8.drew = wd at *
  refine wpL_take (v := ?_) 0 rfl (by kernel_rfl) (fun _ _ _ h => h) (by rfl) ?_ HS0.out ?_
  rotate_left
  focus
    intro w9 hw9
    have k0 := Blk.cell hw9 (i := 0) rfl
    have k1 := Blk.cell hw9 (i := 1) rfl
    have k2 := Blk.cell hw9 (i := 2) rfl
    have k3 := Blk.cell hw9 (i := 3) rfl
    go_simp
    try with_reducible rfl
  try simp only [Act.put, List.setIfInBounds_toArray, List.set_cons_zero, List.set_cons_succ]
  refine wpL_take (v := ?_) 1 rfl (by kernel_rfl) (fun _ _ _ h => h) (by rfl) ?_ HS0.out ?_
  rotate_left
  focus
    intro w9 hw9
    have k0 := Blk.cell hw9 (i := 0) rfl
    have k1 := Blk.cell hw9 (i := 1) rfl
    have k2 := Blk.cell hw9 (i := 2) rfl
    have k3 := Blk.cell hw9 (i := 3) rfl
    go_simp
    try with_reducible rfl
  try simp only [Act.put, List.setIfInBounds_toArray, List.set_cons_zero, List.set_cons_succ]
  refine wpL_take (v := ?_) 2 rfl (by kernel_rfl) (fun _ _ _ h => h) (by rfl) ?_ HS0.out ?_
  rotate_left
  focus
    intro w9 hw9
    have k0 := Blk.cell hw9 (i := 0) rfl
    have k1 := Blk.cell hw9 (i := 1) rfl
    have k2 := Blk.cell hw9 (i := 2) rfl
    have k3 := Blk.cell hw9 (i := 3) rfl
    go_simp
    try with_reducible rfl
  try simp only [Act.put, List.setIfInBounds_toArray, List.set_cons_zero, List.set_cons_succ]
  refine wpL_take (v := ?_) 3 rfl (by kernel_rfl) (fun _ _ _ h => h) (by rfl) ?_ HS0.out ?_
  rotate_left
  focus
    intro w9 hw9
    have k0 := Blk.cell hw9 (i := 0) rfl
    have k1 := Blk.cell hw9 (i := 1) rfl
    have k2 := Blk.cell hw9 (i := 2) rfl
    have k3 := Blk.cell hw9 (i := 3) rfl
    go_simp
    try with_reducible rfl
  try simp only [Act.put, List.setIfInBounds_toArray, List.set_cons_zero, List.set_cons_succ]
  have c0 := HD.out.2.1.cell (i := 0) rfl
  have c1 := HD.out.2.1.cell (i := 1) rfl
  have c2 := HD.out.2.1.cell (i := 2) rfl
  have f0 := HD.out.2.1.frozen 0
  have f1 := HD.out.2.1.frozen 1
  have f2 := HD.out.2.1.frozen 2
  refine wpL_one 4 rfl (by kernel_rfl) (by rfl) ?_
  intro K hK
  go_simp
  refine hK.out _ _ (fun _ => ((HD.out.1.other (by omega) 0 _).other (by omega) 1 _).other (by omega) 2 _) ?_
  clear hK K
  try simp only [Act.put, List.setIfInBounds_toArray, List.set_cons_zero, List.set_cons_succ]
  have HR : Hid (Blk (((wd.setCell ⟨w.heap.size + 1 + 1, 0, none⟩ (.int .i64 x.t)).setCell ⟨w.heap.size + 1 + 1, 1, none⟩ (.int .i64 x.i)).setCell ⟨w.heap.size + 1 + 1, 2, none⟩ (.string x.k)) (w.heap.size + 1 + 1) #[.int .i64 x.t, .int .i64 x.i, .string x.k] 36 ∧ Below w.heap.size w (((wd.setCell ⟨w.heap.size + 1 + 1, 0, none⟩ (.int .i64 x.t)).setCell ⟨w.heap.size + 1 + 1, 1, none⟩ (.int .i64 x.i)).setCell ⟨w.heap.size + 1 + 1, 2, none⟩ (.string x.k))) := ⟨((HD.out.2.1.set 0 _).set 1 _).set 2 _, ((HD.out.2.2.setCell (show w.heap.size ≤ w.heap.size + 1 + 1 by omega) _).setCell (show w.heap.size ≤ w.heap.size + 1 + 1 by omega) _).setCell (show w.heap.size ≤ w.heap.size + 1 + 1 by omega) _⟩
  have HS1 : Hid (Blk (((wd.setCell ⟨w.heap.size + 1 + 1, 0, none⟩ (.int .i64 x.t)).setCell ⟨w.heap.size + 1 + 1, 1, none⟩ (.int .i64 x.i)).setCell ⟨w.heap.size + 1 + 1, 2, none⟩ (.string x.k)) (w.heap.size + 1 + 1 + 1) #[.int .i64 x.t, .int .i64 x.i, .string x.k, .bool so] 94) := ((HD.out.1.other (by omega) 0 _).other (by omega) 1 _).other (by omega) 2 _
  clear c0 c1 c2 f0 f1 f2
  generalize ((wd.setCell ⟨w.heap.size + 1 + 1, 0, none⟩ (.int .i64 x.t)).setCell ⟨w.heap.size + 1 + 1, 1, none⟩ (.int .i64 x.i)).setCell ⟨w.heap.size + 1 + 1, 2, none⟩ (.string x.k) = we at *
  refine wpL_one 5 rfl (by kernel_rfl) (by rfl) ?_
  intro K hK
  go_simp
  refine hK.out _ _ (fun _ => HS1.out) ?_
  clear hK K
  try simp only [Act.put, List.setIfInBounds_toArray, List.set_cons_zero, List.set_cons_succ]
  refine wpL_done (by kernel_rfl) ?_ _
  try simp only [NoPanic]
  have r0 := HR.out.1.cell (i := 0) rfl
  have r1 := HR.out.1.cell (i := 1) rfl
  have r2 := HR.out.1.cell (i := 2) rfl
  go_wp2_with fail
  refine bodyPost_ret (v := .tuple #[PV x, .bool so]) (by simp [results, Tryz.results26, go_sem, r0, r1, r2]) rfl ?_
  refine ⟨o2, HM.out, ?_, HR.out.2⟩
  rw [HX.out.1, HX.out.2]

end Go.Proofs.YtcknhjabdjbjiabGreat

namespace Go.Proofs.YtcknhjabdjbjiabGreat
open Go.RowKit
set_option maxRecDepth 100000

set_option maxHeartbeats 4000000 in
theorem indexP_any (x : Pt) (L : List Pt) (p : Option Addr) (c : Nat) (w : World) (hR : RowP w w.heap.size p L) (hlen : L.length ≤ 4398046511104) :
    Calls Tryz.prog 89 #[.slice p L.length c, PV x] w fun e w' => e = .returned (.int .i64 (if firstG (fun y => decide (x = y)) L = L.length then -1 else (firstG (fun y => decide (x = y)) L : Int))) ∧ Below w.heap.size w w' := by
  have heq := run_eqInP
  have hgd := run_eqGP
  have hal : Below w.heap.size w (w.alloc (.cells #[.int .i64 x.t, .int .i64 x.i, .string x.k] 36)) := (Below.refl _ _).alloc (Nat.le_refl _) _
  have hz : (w.alloc (.cells #[.int .i64 x.t, .int .i64 x.i, .string x.k] 36)).heap.size = w.heap.size + 1 := by simp
  have HW : Hid (Blk (w.alloc (.cells #[.int .i64 x.t, .int .i64 x.i, .string x.k] 36)) w.heap.size #[.int .i64 x.t, .int .i64 x.i, .string x.k] 36 ∧ RowP (w.alloc (.cells #[.int .i64 x.t, .int .i64 x.i, .string x.k] 36)) (w.alloc (.cells #[.int .i64 x.t, .int .i64 x.i, .string x.k] 36)).heap.size p L ∧ Below w.heap.size w (w.alloc (.cells #[.int .i64 x.t, .int .i64 x.i, .string x.k] 36))) := ⟨Blk.new w _ _, hR.on hal, hal⟩
  have HF := firstG_le (fun y => decide (x = y)) L
  have HS : Hid (∀ (j : Nat) (hj : j < L.length), j ≤ firstG (fun y => decide (x = y)) L → (decide (x = L[j]) = true → firstG (fun y => decide (x = y)) L = j) ∧ (decide (x = L[j]) = false → j + 1 ≤ firstG (fun y => decide (x = y)) L)) := firstG_step (fun y => decide (x = y)) L
  clear hR hal hz
  generalize firstG (fun y => decide (x = y)) L = f at *
  go_enter Tryz.func89, Tryz.ntmps89
  go_wp2_with fail
  generalize (w.alloc (.cells #[.int .i64 x.t, .int .i64 x.i, .string x.k] 36)) = wA at *
  go_loopw [8] (fun i wr => ∃ j : Nat, j ≤ f ∧ i = .int .i64 (j : Int) ∧ Hid (Below wA.heap.size wA wr)) (fun i _ => L.length - (intOf i).toNat)
  case atStart => exact ⟨0, Nat.zero_le _, by go_num, Below.refl _ _⟩
  case round =>
    obtain ⟨j, hj, rfl, HN⟩ := hrel
    have HE : Hid (Below w.heap.size w wr) := HW.out.2.2.trans (HN.out.mono HW.out.2.2.size)
    by_cases hj0 : j = L.length
    · have hf : f = L.length := by omega
      subst hj0
      go_wp2_with fail
      go_ret
      exact ⟨by first | rfl | (rw [if_pos hf]; rfl), HE.out⟩
    · have hj1 : j < L.length := by omega
      obtain ⟨b, o, hp, hbB, c0, c1, c2⟩ := (HW.out.2.1.on HN.out) j hj1
      have a0 := (HW.out.1.on HN.out).cell (i := 0) rfl
      have a1 := (HW.out.1.on HN.out).cell (i := 1) rfl
      have a2 := (HW.out.1.on HN.out).cell (i := 2) rfl
      have hst := HS.out j hj1 hj
      subst hp
      clear hj0
      generalize L[j] = y at *
      cases hxy : decide (x = y)
      · have hlt := hst.2 hxy
        clear hst
        go_wp2_with fail
        go_quiet (fail)
        go_wp2_with fail
        go_roundw
        case rel => exact ⟨j + 1, hlt, by go_num, ⟨HN.out.os, HN.out.tape, HN.out.output, HN.out.size, HN.out.block⟩⟩
        case measure => simp [intOf]; omega
      · have hf := hst.1 hxy
        clear hst
        go_wp2_with fail
        go_quiet (fail)
        go_wp2_with fail
        go_ret
        exact ⟨by first | rfl | (rw [if_neg (by omega), hf]; rfl), ⟨HE.out.os, HE.out.tape, HE.out.output, HE.out.size, HE.out.block⟩⟩

theorem containsP_any (x : Pt) (L : List Pt) (p : Option Addr) (c : Nat) (w : World) (hR : RowP w w.heap.size p L) (hlen : L.length ≤ 4398046511104) :
    Calls Tryz.prog 74 #[.slice p L.length c, PV x] w fun e w' => e = .returned (.bool (L.any (fun y => decide (x = y)))) ∧ Below w.heap.size w w' := by
  have hal : Below w.heap.size w (w.alloc (.cells #[.int .i64 x.t, .int .i64 x.i, .string x.k] 36)) := (Below.refl _ _).alloc (Nat.le_refl _) _
  have C1 : Hid (Calls _ _ _ _ _) := indexP_any x L p c (w.alloc (.cells #[.int .i64 x.t, .int .i64 x.i, .string x.k] 36)) (hR.on hal) hlen
  have hr := firstG_any (fun y => decide (x = y)) L
  have HR : Hid (decide (0 ≤ (if firstG (fun y => decide (x = y)) L = L.length then (-1 : Int) else (firstG (fun y => decide (x = y)) L : Int))) = L.any (fun y => decide (x = y))) := hr
  have HA : Hid (Below w.heap.size w (w.alloc (.cells #[.int .i64 x.t, .int .i64 x.i, .string x.k] 36))) := hal
  have hP := Blk.new w #[.int .i64 x.t, .int .i64 x.i, .string x.k] 36
  have a0 := hP.cell (i := 0) rfl
  have a1 := hP.cell (i := 1) rfl
  have a2 := hP.cell (i := 2) rfl
  clear hR hr hal hP
  generalize (if firstG (fun y => decide (x = y)) L = L.length then (-1 : Int) else (firstG (fun y => decide (x = y)) L : Int)) = f at *
  go_enter Tryz.func74, Tryz.ntmps74
  go_wp2_with fail
  refine C1.out.mono ?_
  rintro e w1 ⟨rfl, hb1⟩
  have HB : Hid (Below w.heap.size w w1) := HA.out.trans (hb1.mono HA.out.size)
  clear hb1 C1
  go_wp2_with fail
  go_ret
  exact ⟨by rw [← HR.out]; rfl, HB.out⟩

theorem reads1_any (x : Pt) (s : Sp) (pb : Nat) (w : World) (h : Blk w pb #[.int .i64 x.t, .int .i64 x.i, .string x.k] 36) : Calls Tryz.prog 76 #[.agg #[.int .i64 s.t, .int .i64 s.i, .string s.lo, .string s.hi, .bool s.op], ptr1 pb] w fun e w' => e = .returned (.bool (inS x s)) ∧ Below w.heap.size w w' := by
  have hal : Below w.heap.size w (w.alloc (.cells #[.int .i64 s.t, .int .i64 s.i, .string s.lo, .string s.hi, .bool s.op] 86)) := (Below.refl _ _).alloc (Nat.le_refl _) _
  have hP := Blk.new w #[.int .i64 s.t, .int .i64 s.i, .string s.lo, .string s.hi, .bool s.op] 86
  have C1 : Hid (∀ w1, Calls Tryz.prog 63 #[PV x, .agg #[.int .i64 s.t, .int .i64 s.i, .string s.lo, .string s.hi, .bool s.op]] w1 fun e w' => e = .returned (.bool (inS x s)) ∧ Below w1.heap.size w1 w') := fun w1 => isIn_any x s w1
  have HA : Hid (Below w.heap.size w (w.alloc (.cells #[.int .i64 s.t, .int .i64 s.i, .string s.lo, .string s.hi, .bool s.op] 86))) := hal
  have hx := h.on hal
  have a0 := hx.cell (i := 0) rfl
  have a1 := hx.cell (i := 1) rfl
  have a2 := hx.cell (i := 2) rfl
  have b0 := hP.cell (i := 0) rfl
  have b1 := hP.cell (i := 1) rfl
  have b2 := hP.cell (i := 2) rfl
  have b3 := hP.cell (i := 3) rfl
  have b4 := hP.cell (i := 4) rfl
  have hlt := h.lt
  have hne : ¬ pb = w.heap.size := by omega
  clear hal hP hx h
  generalize inS x s = r at *
  go_enter Tryz.func76, Tryz.ntmps76
  go_wp2_with fail
  refine (C1.out _).mono ?_
  rintro e w1 ⟨rfl, hb1⟩
  have HB : Hid (Below w.heap.size w w1) := HA.out.trans (hb1.mono HA.out.size)
  clear hb1 C1
  go_wp2_with fail
  go_ret
  exact ⟨rfl, HB.out⟩
/-- does a foot read a point? -/
def rdsB (f : Ft) (x : Pt) : Bool := f.P.any (fun y => decide (x = y)) || f.S.any (fun s => inS x s)
theorem rdsB_iff (f : Ft) (x : Pt) : rdsB f x = true ↔ f.rds x := by
  unfold rdsB Ft.rds
  rw [Bool.or_eq_true, List.any_eq_true, List.any_eq_true]
  constructor
  · rintro (⟨y, h, e⟩ | h)
    · have e' : x = y := by simpa using e
      rw [e']
      exact .inl h
    · exact .inr h
  · rintro (h | h)
    · exact .inl ⟨x, h, by simp⟩
    · exact .inr h

set_option maxHeartbeats 4000000 in
theorem reads_any (a : Ft) (x : Pt) (va0 va1 va2 : Value) (w : World) (ha : RdF w va0 va1 va2 a) :
    Calls Tryz.prog 58 #[.agg #[va0, va1, va2], PV x] w fun e w' => e = .returned (.bool (rdsB a x)) ∧ Below w.heap.size w w' := by
  obtain ⟨pa, ca, ea0, la1, la2, hpa⟩ := ha.p.f
  obtain ⟨ps, cs, ea1, ls1, ls2, hps⟩ := ha.s.f
  have hal : Below w.heap.size w ((w.alloc (.cells #[va0, va1, va2] 27)).alloc (.cells #[.int .i64 x.t, .int .i64 x.i, .string x.k] 36)) := ((Below.refl _ _).alloc (Nat.le_refl _) _).alloc (by simp) _
  have hz : ((w.alloc (.cells #[va0, va1, va2] 27)).alloc (.cells #[.int .i64 x.t, .int .i64 x.i, .string x.k] 36)).heap.size = w.heap.size + 1 + 1 := by simp
  have hA0 : Blk ((w.alloc (.cells #[va0, va1, va2] 27)).alloc (.cells #[.int .i64 x.t, .int .i64 x.i, .string x.k] 36)) w.heap.size #[va0, va1, va2] 27 := (Blk.new w #[va0, va1, va2] 27).keep (B := w.heap.size + 1) ((Below.refl _ _).alloc (by simp) _) (by omega)
  have hB0 : Blk ((w.alloc (.cells #[va0, va1, va2] 27)).alloc (.cells #[.int .i64 x.t, .int .i64 x.i, .string x.k] 36)) (w.heap.size + 1) #[.int .i64 x.t, .int .i64 x.i, .string x.k] 36 := by
    have h := Blk.new (w.alloc (.cells #[va0, va1, va2] 27)) #[.int .i64 x.t, .int .i64 x.i, .string x.k] 36
    have e : (w.alloc (.cells #[va0, va1, va2] 27)).heap.size = w.heap.size + 1 := by simp
    rw [e] at h
    exact h
  have C1 : Hid (Calls Tryz.prog 74 #[va0, PV x] ((w.alloc (.cells #[va0, va1, va2] 27)).alloc (.cells #[.int .i64 x.t, .int .i64 x.i, .string x.k] 36)) fun e w' => e = .returned (.bool (a.P.any (fun y => decide (x = y)))) ∧ Below ((w.alloc (.cells #[va0, va1, va2] 27)).alloc (.cells #[.int .i64 x.t, .int .i64 x.i, .string x.k] 36)).heap.size ((w.alloc (.cells #[va0, va1, va2] 27)).alloc (.cells #[.int .i64 x.t, .int .i64 x.i, .string x.k] 36)) w') := by
    subst ea0
    exact containsP_any x a.P pa ca _ (hpa.on hal) ha.lp
  have C2 : Hid (∀ w1, Below ((w.alloc (.cells #[va0, va1, va2] 27)).alloc (.cells #[.int .i64 x.t, .int .i64 x.i, .string x.k] 36)).heap.size ((w.alloc (.cells #[va0, va1, va2] 27)).alloc (.cells #[.int .i64 x.t, .int .i64 x.i, .string x.k] 36)) w1 → Calls Tryz.prog 75 #[va1, .func (.func 76) #[] #[ptr1 (w.heap.size + 1)]] w1 fun e w' => e = .returned (.bool (a.S.any (fun s => inS x s))) ∧ Below w1.heap.size w1 w') := fun w1 h1 => by
    subst ea1
    exact containsFS1_any 76 (ptr1 (w.heap.size + 1)) (fun s => inS x s) a.S ps cs w1 (enters_of Tryz.func76 (by kernel_rfl) rfl) ((hps.on hal).on h1) ha.ls (fun s w2 h2 => reads1_any x s (w.heap.size + 1) w2 ((hB0.on h1).on h2))
  have HW : Hid (Below w.heap.size w ((w.alloc (.cells #[va0, va1, va2] 27)).alloc (.cells #[.int .i64 x.t, .int .i64 x.i, .string x.k] 36)) ∧ ((w.alloc (.cells #[va0, va1, va2] 27)).alloc (.cells #[.int .i64 x.t, .int .i64 x.i, .string x.k] 36)).heap.size = w.heap.size + 1 + 1 ∧ Blk ((w.alloc (.cells #[va0, va1, va2] 27)).alloc (.cells #[.int .i64 x.t, .int .i64 x.i, .string x.k] 36)) w.heap.size #[va0, va1, va2] 27) := ⟨hal, hz, hA0⟩
  have a0 := hA0.cell (i := 0) rfl
  have a1 := hA0.cell (i := 1) rfl
  have b0 := hB0.cell (i := 0) rfl
  have b1 := hB0.cell (i := 1) rfl
  have b2 := hB0.cell (i := 2) rfl
  unfold rdsB
  clear ha la1 la2 ls1 ls2 hpa hps hal hz hA0 hB0 ea0 ea1
  cases hc : a.P.any (fun y => decide (x = y))
  · rw [hc] at C1
    generalize a.S.any (fun s => inS x s) = r at *
    rw [Bool.false_or]
    go_enter Tryz.func58, Tryz.ntmps58
    go_wp2_with fail
    generalize ((w.alloc (.cells #[va0, va1, va2] 27)).alloc (.cells #[.int .i64 x.t, .int .i64 x.i, .string x.k] 36)) = w2 at *
    refine C1.out.mono ?_
    rintro e w3 ⟨rfl, hb3⟩
    have a1' := (HW.out.2.2.on hb3).cell (i := 1) rfl
    have HB3 : Hid (Below w2.heap.size w2 w3 ∧ Below w.heap.size w w3) := ⟨hb3, HW.out.1.trans (hb3.mono HW.out.1.size)⟩
    clear a0 a1 b0 b1 b2 hb3 C1
    go_wp2_with fail
    refine (C2.out _ HB3.out.1).mono ?_
    rintro e w4 ⟨rfl, hb4⟩
    have HB4 : Hid (Below w.heap.size w w4) := HB3.out.2.trans (hb4.mono HB3.out.2.size)
    clear a1' hb4 C2
    go_wp2_with fail
    go_ret
    exact ⟨rfl, HB4.out⟩
  · rw [hc] at C1
    rw [Bool.true_or]
    clear C2
    go_enter Tryz.func58, Tryz.ntmps58
    go_wp2_with fail
    generalize ((w.alloc (.cells #[va0, va1, va2] 27)).alloc (.cells #[.int .i64 x.t, .int .i64 x.i, .string x.k] 36)) = w2 at *
    refine C1.out.mono ?_
    rintro e w3 ⟨rfl, hb3⟩
    have HB3 : Hid (Below w.heap.size w w3) := HW.out.1.trans (hb3.mono HW.out.1.size)
    clear a0 a1 b0 b1 b2 hb3 C1
    go_wp2_with fail
    go_ret
    exact ⟨rfl, HB3.out⟩

end Go.Proofs.YtcknhjabdjbjiabGreat
