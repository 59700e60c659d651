/- The first row that two wrote: Both. -/
import Derived.Test.YtjeidpgkgjljcaaWCl7
namespace Go.Proofs.Ytjeidpgkgjljcaa
open Go.RowKit
set_option maxRecDepth 100000

theorem OwnP.ne {w : World} {B lb : Nat} {p : Option Addr} {n c : Nat} {L : List Pt} (h : OwnP w B (.slice p n c) L) (hl : lb < B) : ∀ b o, p = some ⟨b, o, none⟩ → L ≠ [] → ¬ b = lb := by
  intro b o e _
  rcases h.form with ⟨h9, _⟩ | ⟨g, cap, h9, hg, _⟩
  · obtain ⟨h9, -, -⟩ := Value.slice.inj h9
    rw [h9] at e
    cases e
  · obtain ⟨h9, -, -⟩ := Value.slice.inj h9
    rw [h9] at e
    cases e
    omega

set_option maxHeartbeats 8000000 in
theorem both_any (a b : Ft) (va0 va1 va2 vb0 vb1 vb2 : Value) (w : World) (ha : RdF w va0 va1 va2 a) (hb : RdF w vb0 vb1 vb2 b) :
    Calls Try.prog 8 #[.agg #[va0, va1, va2], .agg #[vb0, vb1, vb2]] w fun e w' => ∃ o, IsMin (fun x => x ∈ rowsL a.W ∧ x ∈ rowsL b.W) o ∧ e = .returned (.tuple #[PV (lP o), .bool o.isSome]) ∧ Below w.heap.size w w' := by
  have hal : Below w.heap.size w ((((w.alloc (.cells #[va0, va1, va2] 25)).alloc (.cells #[vb0, vb1, vb2] 25)).alloc (.cells #[.int .i64 0, .int .i64 0, .string ⟨#[]⟩] 27)).alloc (.cells #[.int .i64 0, .int .i64 0, .string ⟨#[]⟩, .bool false] 43)) := ((((Below.refl _ _).alloc (Nat.le_refl _) _).alloc (by simp) _).alloc (by simp <;> omega) _).alloc (by simp <;> omega) _
  have hz : ((((w.alloc (.cells #[va0, va1, va2] 25)).alloc (.cells #[vb0, vb1, vb2] 25)).alloc (.cells #[.int .i64 0, .int .i64 0, .string ⟨#[]⟩] 27)).alloc (.cells #[.int .i64 0, .int .i64 0, .string ⟨#[]⟩, .bool false] 43)).heap.size = w.heap.size + 1 + 1 + 1 + 1 := by simp
  have hB : Blk ((((w.alloc (.cells #[va0, va1, va2] 25)).alloc (.cells #[vb0, vb1, vb2] 25)).alloc (.cells #[.int .i64 0, .int .i64 0, .string ⟨#[]⟩] 27)).alloc (.cells #[.int .i64 0, .int .i64 0, .string ⟨#[]⟩, .bool false] 43)) (w.heap.size + 1 + 1 + 1) (lC none) 43 := by
    have h := Blk.new (((w.alloc (.cells #[va0, va1, va2] 25)).alloc (.cells #[vb0, vb1, vb2] 25)).alloc (.cells #[.int .i64 0, .int .i64 0, .string ⟨#[]⟩] 27)) #[.int .i64 0, .int .i64 0, .string ⟨#[]⟩, .bool false] 43
    have e : (((w.alloc (.cells #[va0, va1, va2] 25)).alloc (.cells #[vb0, vb1, vb2] 25)).alloc (.cells #[.int .i64 0, .int .i64 0, .string ⟨#[]⟩] 27)).heap.size = w.heap.size + 1 + 1 + 1 := by simp
    rw [e] at h
    exact h
  have hA0 : Blk ((((w.alloc (.cells #[va0, va1, va2] 25)).alloc (.cells #[vb0, vb1, vb2] 25)).alloc (.cells #[.int .i64 0, .int .i64 0, .string ⟨#[]⟩] 27)).alloc (.cells #[.int .i64 0, .int .i64 0, .string ⟨#[]⟩, .bool false] 43)) w.heap.size #[va0, va1, va2] 25 := (Blk.new w #[va0, va1, va2] 25).keep (B := w.heap.size + 1) ((((Below.refl _ _).alloc (by simp) _).alloc (by simp) _).alloc (by simp <;> omega) _) (by omega)
  have hB0 : Blk ((((w.alloc (.cells #[va0, va1, va2] 25)).alloc (.cells #[vb0, vb1, vb2] 25)).alloc (.cells #[.int .i64 0, .int .i64 0, .string ⟨#[]⟩] 27)).alloc (.cells #[.int .i64 0, .int .i64 0, .string ⟨#[]⟩, .bool false] 43)) (w.heap.size + 1) #[vb0, vb1, vb2] 25 := by
    have h := Blk.new (w.alloc (.cells #[va0, va1, va2] 25)) #[vb0, vb1, vb2] 25
    have e : (w.alloc (.cells #[va0, va1, va2] 25)).heap.size = w.heap.size + 1 := by simp
    rw [e] at h
    exact h.keep (B := w.heap.size + 1 + 1) (((Below.refl _ _).alloc (by simp) _).alloc (by simp) _) (by omega)
  have hC0 : Blk ((((w.alloc (.cells #[va0, va1, va2] 25)).alloc (.cells #[vb0, vb1, vb2] 25)).alloc (.cells #[.int .i64 0, .int .i64 0, .string ⟨#[]⟩] 27)).alloc (.cells #[.int .i64 0, .int .i64 0, .string ⟨#[]⟩, .bool false] 43)) (w.heap.size + 1 + 1) #[.int .i64 0, .int .i64 0, .string ⟨#[]⟩] 27 := by
    have h := Blk.new ((w.alloc (.cells #[va0, va1, va2] 25)).alloc (.cells #[vb0, vb1, vb2] 25)) #[.int .i64 0, .int .i64 0, .string ⟨#[]⟩] 27
    have e : ((w.alloc (.cells #[va0, va1, va2] 25)).alloc (.cells #[vb0, vb1, vb2] 25)).heap.size = w.heap.size + 1 + 1 := by simp
    rw [e] at h
    exact h.keep (B := w.heap.size + 1 + 1 + 1) ((Below.refl _ _).alloc (by simp) _) (by omega)
  have HW : Hid (Below w.heap.size w ((((w.alloc (.cells #[va0, va1, va2] 25)).alloc (.cells #[vb0, vb1, vb2] 25)).alloc (.cells #[.int .i64 0, .int .i64 0, .string ⟨#[]⟩] 27)).alloc (.cells #[.int .i64 0, .int .i64 0, .string ⟨#[]⟩, .bool false] 43)) ∧ ((((w.alloc (.cells #[va0, va1, va2] 25)).alloc (.cells #[vb0, vb1, vb2] 25)).alloc (.cells #[.int .i64 0, .int .i64 0, .string ⟨#[]⟩] 27)).alloc (.cells #[.int .i64 0, .int .i64 0, .string ⟨#[]⟩, .bool false] 43)).heap.size = w.heap.size + 1 + 1 + 1 + 1 ∧ Blk ((((w.alloc (.cells #[va0, va1, va2] 25)).alloc (.cells #[vb0, vb1, vb2] 25)).alloc (.cells #[.int .i64 0, .int .i64 0, .string ⟨#[]⟩] 27)).alloc (.cells #[.int .i64 0, .int .i64 0, .string ⟨#[]⟩, .bool false] 43)) w.heap.size #[va0, va1, va2] 25 ∧ Blk ((((w.alloc (.cells #[va0, va1, va2] 25)).alloc (.cells #[vb0, vb1, vb2] 25)).alloc (.cells #[.int .i64 0, .int .i64 0, .string ⟨#[]⟩] 27)).alloc (.cells #[.int .i64 0, .int .i64 0, .string ⟨#[]⟩, .bool false] 43)) (w.heap.size + 1) #[vb0, vb1, vb2] 25 ∧ Blk ((((w.alloc (.cells #[va0, va1, va2] 25)).alloc (.cells #[vb0, vb1, vb2] 25)).alloc (.cells #[.int .i64 0, .int .i64 0, .string ⟨#[]⟩] 27)).alloc (.cells #[.int .i64 0, .int .i64 0, .string ⟨#[]⟩, .bool false] 43)) (w.heap.size + 1 + 1) #[.int .i64 0, .int .i64 0, .string ⟨#[]⟩] 27 ∧ Blk ((((w.alloc (.cells #[va0, va1, va2] 25)).alloc (.cells #[vb0, vb1, vb2] 25)).alloc (.cells #[.int .i64 0, .int .i64 0, .string ⟨#[]⟩] 27)).alloc (.cells #[.int .i64 0, .int .i64 0, .string ⟨#[]⟩, .bool false] 43)) (w.heap.size + 1 + 1 + 1) (lC none) 43) := ⟨hal, hz, hA0, hB0, hC0, hB⟩
  have HS : Hid (SlP w va2 a.W ∧ SlP w vb2 b.W ∧ a.W.length ≤ 4398046511104 ∧ b.W.length ≤ 4398046511104) := ⟨ha.w, hb.w, ha.lw, hb.lw⟩
  clear ha hb hal hz hB hA0 hB0 hC0
  go_enter Try.func8, Try.ntmps8
  go_wp2_with fail
  generalize ((((w.alloc (.cells #[va0, va1, va2] 25)).alloc (.cells #[vb0, vb1, vb2] 25)).alloc (.cells #[.int .i64 0, .int .i64 0, .string ⟨#[]⟩] 27)).alloc (.cells #[.int .i64 0, .int .i64 0, .string ⟨#[]⟩, .bool false] 43)) = w4 at *
  refine wp_region_L (fun w' => Blk w' w.heap.size #[va0, va1, va2] 25 ∧ Blk w' (w.heap.size + 1) #[vb0, vb1, vb2] 25) 7 (by kernel_rfl) ?_
  have HD : Hid (Below w4.heap.size w4 w4.drew) := (Below.refl _ _).drew
  have HS0 : Hid (Blk w4.drew w.heap.size #[va0, va1, va2] 25 ∧ Blk w4.drew (w.heap.size + 1) #[vb0, vb1, vb2] 25) := ⟨HW.out.2.2.1.on HD.out, HW.out.2.2.2.1.on HD.out⟩
  generalize w4.drew = wd at *
  refine wpL_take (v := ?_) 0 rfl (by kernel_rfl) (fun _ _ _ h => h) (by rfl) ?_ HS0.out ?_
  rotate_left
  focus
    intro w9 hw9
    have k2 := Blk.cell hw9.1 (i := 2) rfl
    have k5 := Blk.cell hw9.2 (i := 2) rfl
    go_simp
    try with_reducible rfl
  try simp only [Act.put, List.setIfInBounds_toArray, List.set_cons_zero, List.set_cons_succ]
  refine wpL_take (v := ?_) 1 rfl (by kernel_rfl) (fun _ _ _ h => h) (by rfl) ?_ HS0.out ?_
  rotate_left
  focus
    intro w9 hw9
    have k2 := Blk.cell hw9.1 (i := 2) rfl
    have k5 := Blk.cell hw9.2 (i := 2) rfl
    go_simp
    try with_reducible rfl
  try simp only [Act.put, List.setIfInBounds_toArray, List.set_cons_zero, List.set_cons_succ]
  refine wpL_take (v := ?_) 3 rfl (by kernel_rfl) (fun _ _ _ h => h) (by rfl) ?_ HS0.out ?_
  rotate_left
  focus
    intro w9 hw9
    have k2 := Blk.cell hw9.1 (i := 2) rfl
    have k5 := Blk.cell hw9.2 (i := 2) rfl
    go_simp
    try with_reducible rfl
  try simp only [Act.put, List.setIfInBounds_toArray, List.set_cons_zero, List.set_cons_succ]
  refine wpL_take (v := ?_) 4 rfl (by kernel_rfl) (fun _ _ _ h => h) (by rfl) ?_ HS0.out ?_
  rotate_left
  focus
    intro w9 hw9
    have k2 := Blk.cell hw9.1 (i := 2) rfl
    have k5 := Blk.cell hw9.2 (i := 2) rfl
    go_simp
    try with_reducible rfl
  try simp only [Act.put, List.setIfInBounds_toArray, List.set_cons_zero, List.set_cons_succ]
  refine wpL_one 2 rfl (by kernel_rfl) (by rfl) ?_
  intro K hK
  go_simp
  have CR : Hid (Calls Try.prog 23 #[va2] wd fun e w' => ∃ v', e = .returned v' ∧ OwnP w' wd.heap.size v' (rowsL a.W) ∧ Below wd.heap.size wd w') := rows_any a.W va2 wd (HS.out.1.on (HW.out.1.trans (HD.out.mono HW.out.1.size))) HS.out.2.2.1
  refine CR.out.mono ?_
  rintro e w5 ⟨v5, rfl, hO5, hb5⟩
  dsimp only
  have HS1 : Hid (Blk w5 w.heap.size #[va0, va1, va2] 25 ∧ Blk w5 (w.heap.size + 1) #[vb0, vb1, vb2] 25) := ⟨HS0.out.1.on hb5, HS0.out.2.on hb5⟩
  refine hK.out _ _ (fun _ => HS1.out) ?_
  clear hK K CR
  try simp only [Act.put, List.setIfInBounds_toArray, List.set_cons_zero, List.set_cons_succ]
  refine wpL_one 5 rfl (by kernel_rfl) (by rfl) ?_
  intro K hK
  go_simp
  have HB5 : Hid (OwnP w5 wd.heap.size v5 (rowsL a.W) ∧ Below w4.heap.size w4 w5 ∧ w4.heap.size ≤ wd.heap.size) := ⟨hO5, HD.out.trans (hb5.mono HD.out.size), HD.out.size⟩
  have CR : Hid (Calls Try.prog 23 #[vb2] w5 fun e w' => ∃ v', e = .returned v' ∧ OwnP w' w5.heap.size v' (rowsL b.W) ∧ Below w5.heap.size w5 w') := rows_any b.W vb2 w5 (HS.out.2.1.on (HW.out.1.trans (HB5.out.2.1.mono HW.out.1.size))) HS.out.2.2.2
  refine CR.out.mono ?_
  rintro e w6 ⟨v6, rfl, hO6, hb6⟩
  dsimp only
  have HS2 : Hid (Blk w6 w.heap.size #[va0, va1, va2] 25 ∧ Blk w6 (w.heap.size + 1) #[vb0, vb1, vb2] 25) := ⟨HS1.out.1.on hb6, HS1.out.2.on hb6⟩
  refine hK.out _ _ (fun _ => HS2.out) ?_
  clear hK K CR
  try simp only [Act.put, List.setIfInBounds_toArray, List.set_cons_zero, List.set_cons_succ]
  have HB6 : Hid (OwnP w6 wd.heap.size v5 (rowsL a.W) ∧ OwnP w6 w5.heap.size v6 (rowsL b.W) ∧ Below w4.heap.size w4 w6 ∧ w4.heap.size ≤ wd.heap.size ∧ w4.heap.size ≤ w5.heap.size) := ⟨HB5.out.1.kept hb6, hO6, HB5.out.2.1.trans (hb6.mono HB5.out.2.1.size), HB5.out.2.2, HB5.out.2.1.size⟩
  clear hO5 hb5 hO6 hb6 HB5 HS0 HS1 HD
  obtain ⟨p5, c5, e5, l5, l5', h5⟩ := HB6.out.1.sl.f
  obtain ⟨p6, c6, e6, l6, l6', h6⟩ := HB6.out.2.1.sl.f
  have hla : (rowsL a.W).length ≤ a.W.length := List.length_filter_le _ _
  have hlb : (rowsL b.W).length ≤ b.W.length := List.length_filter_le _ _
  have C1 : Hid (Calls Try.prog 19 #[ptr1 (w.heap.size + 1 + 1 + 1), v5, v6] w6 fun e w' => e = .returned (.tuple #[]) ∧ ∃ o', IsMin (fun x => False ∨ (x ∈ rowsL a.W ∧ x ∈ rowsL b.W)) o' ∧ Blk w' (w.heap.size + 1 + 1 + 1) (lC o') 43 ∧ Frm w6 w' (fun k => k = w.heap.size + 1 + 1 + 1)) := by
    have h9 := HB6.out
    rw [e5, e6] at h9 ⊢
    exact seeShared_any (fun _ => False) none (rowsL a.W) (rowsL b.W) p5 p6 c5 c6 (w.heap.size + 1 + 1 + 1) w6 (fun x hx => hx) (HW.out.2.2.2.2.2.on HB6.out.2.2.1) h5 h6 (Nat.le_trans hla HS.out.2.2.1) (Nat.le_trans hlb HS.out.2.2.2) (h9.1.ne (by have := HW.out.2.1; have := h9.2.2.2.1; omega)) (h9.2.1.ne (by have := HW.out.2.1; have := h9.2.2.2.2; omega))
  clear e5 e6 l5 l5' l6 l6' h5 h6 hla hlb
  refine wpL_one 6 rfl (by kernel_rfl) (by rfl) ?_
  intro K hK
  go_simp
  refine C1.out.mono ?_
  rintro e w7 ⟨rfl, o2, hm2, hb6, hf6⟩
  dsimp only
  refine hK.out _ _ (fun _ => ⟨HS2.out.1.frm hf6 (by omega), HS2.out.2.frm hf6 (by omega)⟩) ?_
  clear hK K C1
  try simp only [Act.put, List.setIfInBounds_toArray, List.set_cons_zero, List.set_cons_succ]
  refine wpL_done (by kernel_rfl) ?_ _
  try simp only [NoPanic]
  have HM : Hid (IsMin (fun x => x ∈ rowsL a.W ∧ x ∈ rowsL b.W) o2) := hm2.ext (fun x => ⟨fun h => h.elim False.elim id, .inr⟩)
  rw [lC_eq] at hb6
  have HB7 : Hid (Blk w7 (w.heap.size + 1 + 1 + 1) #[.int .i64 (lP o2).t, .int .i64 (lP o2).i, .string (lP o2).k, .bool o2.isSome] 43 ∧ Blk w7 (w.heap.size + 1 + 1) #[.int .i64 0, .int .i64 0, .string ⟨#[]⟩] 27 ∧ Below w.heap.size w w7) := ⟨hb6, (HW.out.2.2.2.2.1.on HB6.out.2.2.1).frm hf6 (by omega), (HW.out.1.trans (HB6.out.2.2.1.mono HW.out.1.size)).trans (hf6.below (by have := HB6.out.2.2.1.size; have := HW.out.2.1; omega) (fun k hk => by omega))⟩
  clear hm2 hb6 hf6 HW HB6 HS HS2
  rename World => w8
  have HB6 : Hid (Blk w8 (w.heap.size + 1 + 1 + 1) #[.int .i64 (lP o2).t, .int .i64 (lP o2).i, .string (lP o2).k, .bool o2.isSome] 43 ∧ Blk w8 (w.heap.size + 1 + 1) #[.int .i64 0, .int .i64 0, .string ⟨#[]⟩] 27 ∧ Below w.heap.size w w8) := HB7.out
  clear HB7
  obtain ⟨x, hx⟩ : ∃ x, x = lP o2 := ⟨_, rfl⟩
  obtain ⟨so, hso⟩ : ∃ so, so = o2.isSome := ⟨_, rfl⟩
  rw [← hx, ← hso] at HB6
  have HX : Hid (x = lP o2 ∧ so = o2.isSome) := ⟨hx, hso⟩
  clear hx hso
  go_wp2_with fail
  refine wp_region_L (fun w' => Blk w' (w.heap.size + 1 + 1 + 1) #[.int .i64 x.t, .int .i64 x.i, .string x.k, .bool so] 43) 5 (by kernel_rfl) ?_
  have hdr : Below w8.heap.size w8 w8.drew := (Below.refl _ _).drew
  have HD : Hid (Blk w8.drew (w.heap.size + 1 + 1 + 1) #[.int .i64 x.t, .int .i64 x.i, .string x.k, .bool so] 43 ∧ Blk w8.drew (w.heap.size + 1 + 1) #[.int .i64 0, .int .i64 0, .string ⟨#[]⟩] 27 ∧ Below w.heap.size w w8.drew) := ⟨HB6.out.1.on hdr, HB6.out.2.1.on hdr, HB6.out.2.2.drew⟩
  have HS0 : Hid (Blk w8.drew (w.heap.size + 1 + 1 + 1) #[.int .i64 x.t, .int .i64 x.i, .string x.k, .bool so] 43) := HD.out.1
  clear hdr HB6
  generalize w8.drew = wd at *
  refine wpL_take (v := ?_) 0 rfl (by kernel_rfl) (fun _ _ _ h => h) (by rfl) ?_ HS0.out ?_
  rotate_left
  focus
    intro w9 hw9
    have k0 := Blk.cell hw9 (i := 0) rfl
    have k1 := Blk.cell hw9 (i := 1) rfl
    have k2 := Blk.cell hw9 (i := 2) rfl
    have k3 := Blk.cell hw9 (i := 3) rfl
    go_simp
    try with_reducible rfl
  try simp only [Act.put, List.setIfInBounds_toArray, List.set_cons_zero, List.set_cons_succ]
  refine wpL_take (v := ?_) 1 rfl (by kernel_rfl) (fun _ _ _ h => h) (by rfl) ?_ HS0.out ?_
  rotate_left
  focus
    intro w9 hw9
    have k0 := Blk.cell hw9 (i := 0) rfl
    have k1 := Blk.cell hw9 (i := 1) rfl
    have k2 := Blk.cell hw9 (i := 2) rfl
    have k3 := Blk.cell hw9 (i := 3) rfl
    go_simp
    try with_reducible rfl
  try simp only [Act.put, List.setIfInBounds_toArray, List.set_cons_zero, List.set_cons_succ]
  refine wpL_take (v := ?_) 2 rfl (by kernel_rfl) (fun _ _ _ h => h) (by rfl) ?_ HS0.out ?_
  rotate_left
  focus
    intro w9 hw9
    have k0 := Blk.cell hw9 (i := 0) rfl
    have k1 := Blk.cell hw9 (i := 1) rfl
    have k2 := Blk.cell hw9 (i := 2) rfl
    have k3 := Blk.cell hw9 (i := 3) rfl
    go_simp
    try with_reducible rfl
  try simp only [Act.put, List.setIfInBounds_toArray, List.set_cons_zero, List.set_cons_succ]
  refine wpL_take (v := ?_) 3 rfl (by kernel_rfl) (fun _ _ _ h => h) (by rfl) ?_ HS0.out ?_
  rotate_left
  focus
    intro w9 hw9
    have k0 := Blk.cell hw9 (i := 0) rfl
    have k1 := Blk.cell hw9 (i := 1) rfl
    have k2 := Blk.cell hw9 (i := 2) rfl
    have k3 := Blk.cell hw9 (i := 3) rfl
    go_simp
    try with_reducible rfl
  try simp only [Act.put, List.setIfInBounds_toArray, List.set_cons_zero, List.set_cons_succ]
  have c0 := HD.out.2.1.cell (i := 0) rfl
  have c1 := HD.out.2.1.cell (i := 1) rfl
  have c2 := HD.out.2.1.cell (i := 2) rfl
  have f0 := HD.out.2.1.frozen 0
  have f1 := HD.out.2.1.frozen 1
  have f2 := HD.out.2.1.frozen 2
  refine wpL_one 4 rfl (by kernel_rfl) (by rfl) ?_
  intro K hK
  go_simp
  refine hK.out _ _ (fun _ => ((HD.out.1.other (by omega) 0 _).other (by omega) 1 _).other (by omega) 2 _) ?_
  clear hK K
  try simp only [Act.put, List.setIfInBounds_toArray, List.set_cons_zero, List.set_cons_succ]
  have HR : Hid (Blk (((wd.setCell ⟨w.heap.size + 1 + 1, 0, none⟩ (.int .i64 x.t)).setCell ⟨w.heap.size + 1 + 1, 1, none⟩ (.int .i64 x.i)).setCell ⟨w.heap.size + 1 + 1, 2, none⟩ (.string x.k)) (w.heap.size + 1 + 1) #[.int .i64 x.t, .int .i64 x.i, .string x.k] 27 ∧ Below w.heap.size w (((wd.setCell ⟨w.heap.size + 1 + 1, 0, none⟩ (.int .i64 x.t)).setCell ⟨w.heap.size + 1 + 1, 1, none⟩ (.int .i64 x.i)).setCell ⟨w.heap.size + 1 + 1, 2, none⟩ (.string x.k))) := ⟨((HD.out.2.1.set 0 _).set 1 _).set 2 _, ((HD.out.2.2.setCell (show w.heap.size ≤ w.heap.size + 1 + 1 by omega) _).setCell (show w.heap.size ≤ w.heap.size + 1 + 1 by omega) _).setCell (show w.heap.size ≤ w.heap.size + 1 + 1 by omega) _⟩
  have HS1 : Hid (Blk (((wd.setCell ⟨w.heap.size + 1 + 1, 0, none⟩ (.int .i64 x.t)).setCell ⟨w.heap.size + 1 + 1, 1, none⟩ (.int .i64 x.i)).setCell ⟨w.heap.size + 1 + 1, 2, none⟩ (.string x.k)) (w.heap.size + 1 + 1 + 1) #[.int .i64 x.t, .int .i64 x.i, .string x.k, .bool so] 43) := ((HD.out.1.other (by omega) 0 _).other (by omega) 1 _).other (by omega) 2 _
  clear c0 c1 c2 f0 f1 f2
  generalize ((wd.setCell ⟨w.heap.size + 1 + 1, 0, none⟩ (.int .i64 x.t)).setCell ⟨w.heap.size + 1 + 1, 1, none⟩ (.int .i64 x.i)).setCell ⟨w.heap.size + 1 + 1, 2, none⟩ (.string x.k) = we at *
  refine wpL_one 5 rfl (by kernel_rfl) (by rfl) ?_
  intro K hK
  go_simp
  refine hK.out _ _ (fun _ => HS1.out) ?_
  clear hK K
  try simp only [Act.put, List.setIfInBounds_toArray, List.set_cons_zero, List.set_cons_succ]
  refine wpL_done (by kernel_rfl) ?_ _
  try simp only [NoPanic]
  have r0 := HR.out.1.cell (i := 0) rfl
  have r1 := HR.out.1.cell (i := 1) rfl
  have r2 := HR.out.1.cell (i := 2) rfl
  go_wp2_with fail
  refine bodyPost_ret (v := .tuple #[PV x, .bool so]) (by simp [results, Try.results8, go_sem, r0, r1, r2]) rfl ?_
  refine ⟨o2, HM.out, ?_, HR.out.2⟩
  rw [HX.out.1, HX.out.2]
end Go.Proofs.Ytjeidpgkgjljcaa
