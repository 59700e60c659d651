/- Where what one wrote was read by another one: Clash. Lists without some. -/
import Derived.Test.YtcknhjabdjbjiabGreatGWCl4
import Derived.Test.YtcknhjabdjbjiabGreatGWPtF
namespace Go.Proofs.YtcknhjabdjbjiabGreat
open Go.RowKit
set_option maxRecDepth 100000

/-- a foot -/
structure Ft where
  P : List Pt
  S : List Sp
  W : List Pt
/-- a foot that is read -/
structure RdF (w : World) (v0 v1 v2 : Value) (f : Ft) : Prop where
  p : SlP w v0 f.P
  s : SlS w v1 f.S
  w : SlP w v2 f.W
  lp : f.P.length ≤ 4398046511104
  ls : f.S.length ≤ 2513169434916
  lw : f.W.length ≤ 4398046511104
theorem RdF.on {w w' : World} {v0 v1 v2 : Value} {f : Ft} (h : RdF w v0 v1 v2 f) (hb : Below w.heap.size w w') : RdF w' v0 v1 v2 f := ⟨h.p.on hb, h.s.on hb, h.w.on hb, h.lp, h.ls, h.lw⟩
/-- does a foot read a point? -/
def Ft.rds (f : Ft) (x : Pt) : Prop := x ∈ f.P ∨ ∃ s ∈ f.S, inS x s = true
theorem SlP.ne {w : World} {p : Option Addr} {L : List Pt} {lb : Nat} (h : RowP w w.heap.size p L) (hl : w.heap.size ≤ lb) : ∀ b o, p = some ⟨b, o, none⟩ → L ≠ [] → ¬ b = lb := by
  intro b o e hne
  obtain ⟨b', o', e', hb, _⟩ := h 0 (List.length_pos_iff.2 hne)
  rw [e] at e'
  cases e'
  omega
theorem SlS.ne {w : World} {p : Option Addr} {L : List Sp} {lb : Nat} (h : RowS w w.heap.size p L) (hl : w.heap.size ≤ lb) : ∀ b o, p = some ⟨b, o, none⟩ → L ≠ [] → ¬ b = lb := by
  intro b o e hne
  obtain ⟨b', o', e', hb, _⟩ := h 0 (List.length_pos_iff.2 hne)
  rw [e] at e'
  cases e'
  omega
theorem SlP.frm {w w' : World} {F : Nat → Prop} {v : Value} {L : List Pt} (h : SlP w v L) (hf : Frm w w' F) (hn : ∀ b, b < w.heap.size → ¬ F b) : SlP w' v L := by
  obtain ⟨p, c, e, h1, h2, h3⟩ := h.f
  exact ⟨p, c, e, h1, h2, h3.frm hf (fun b o _ hb _ => hn b hb)⟩
/-- the end of Clash and of Both: a least is told -/
theorem lC_eq (o : Option Pt) : lC o = #[.int .i64 (lP o).t, .int .i64 (lP o).i, .string (lP o).k, .bool o.isSome] := by
  cases o <;> rfl

set_option maxHeartbeats 8000000 in
theorem clash_any (a b : Ft) (va0 va1 va2 vb0 vb1 vb2 : Value) (w : World) (ha : RdF w va0 va1 va2 a) (hb : RdF w vb0 vb1 vb2 b) :
    Calls Tryz.prog 23 #[.agg #[va0, va1, va2], .agg #[vb0, vb1, vb2]] w fun e w' => ∃ o, IsMin (fun x => x ∈ b.W ∧ a.rds x) o ∧ e = .returned (.tuple #[PV (lP o), .bool o.isSome]) ∧ Below w.heap.size w w' := by
  obtain ⟨pa, ca, ea0, la1, la2, hpa⟩ := ha.p.f
  obtain ⟨ps, cs, ea1, ls1, ls2, hps⟩ := ha.s.f
  obtain ⟨pw, cw, eb2, lw1, lw2, hpw⟩ := hb.w.f
  have hal : Below w.heap.size w ((((w.alloc (.cells #[va0, va1, va2] 27)).alloc (.cells #[vb0, vb1, vb2] 27)).alloc (.cells #[.int .i64 0, .int .i64 0, .string ⟨#[]⟩] 36)).alloc (.cells #[.int .i64 0, .int .i64 0, .string ⟨#[]⟩, .bool false] 94)) := ((((Below.refl _ _).alloc (Nat.le_refl _) _).alloc (by simp) _).alloc (by simp <;> omega) _).alloc (by simp <;> omega) _
  have hz : ((((w.alloc (.cells #[va0, va1, va2] 27)).alloc (.cells #[vb0, vb1, vb2] 27)).alloc (.cells #[.int .i64 0, .int .i64 0, .string ⟨#[]⟩] 36)).alloc (.cells #[.int .i64 0, .int .i64 0, .string ⟨#[]⟩, .bool false] 94)).heap.size = w.heap.size + 1 + 1 + 1 + 1 := by simp
  have hB : Blk ((((w.alloc (.cells #[va0, va1, va2] 27)).alloc (.cells #[vb0, vb1, vb2] 27)).alloc (.cells #[.int .i64 0, .int .i64 0, .string ⟨#[]⟩] 36)).alloc (.cells #[.int .i64 0, .int .i64 0, .string ⟨#[]⟩, .bool false] 94)) (w.heap.size + 1 + 1 + 1) (lC none) 94 := by
    have h := Blk.new (((w.alloc (.cells #[va0, va1, va2] 27)).alloc (.cells #[vb0, vb1, vb2] 27)).alloc (.cells #[.int .i64 0, .int .i64 0, .string ⟨#[]⟩] 36)) #[.int .i64 0, .int .i64 0, .string ⟨#[]⟩, .bool false] 94
    have e : (((w.alloc (.cells #[va0, va1, va2] 27)).alloc (.cells #[vb0, vb1, vb2] 27)).alloc (.cells #[.int .i64 0, .int .i64 0, .string ⟨#[]⟩] 36)).heap.size = w.heap.size + 1 + 1 + 1 := by simp
    rw [e] at h
    exact h
  have hA0 : Blk ((((w.alloc (.cells #[va0, va1, va2] 27)).alloc (.cells #[vb0, vb1, vb2] 27)).alloc (.cells #[.int .i64 0, .int .i64 0, .string ⟨#[]⟩] 36)).alloc (.cells #[.int .i64 0, .int .i64 0, .string ⟨#[]⟩, .bool false] 94)) w.heap.size #[va0, va1, va2] 27 := (Blk.new w #[va0, va1, va2] 27).keep (B := w.heap.size + 1) ((((Below.refl _ _).alloc (by simp) _).alloc (by simp <;> omega) _).alloc (by simp <;> omega) _) (by omega)
  have hB0 : Blk ((((w.alloc (.cells #[va0, va1, va2] 27)).alloc (.cells #[vb0, vb1, vb2] 27)).alloc (.cells #[.int .i64 0, .int .i64 0, .string ⟨#[]⟩] 36)).alloc (.cells #[.int .i64 0, .int .i64 0, .string ⟨#[]⟩, .bool false] 94)) (w.heap.size + 1) #[vb0, vb1, vb2] 27 := by
    have h := Blk.new (w.alloc (.cells #[va0, va1, va2] 27)) #[vb0, vb1, vb2] 27
    have e : (w.alloc (.cells #[va0, va1, va2] 27)).heap.size = w.heap.size + 1 := by simp
    rw [e] at h
    exact h.keep (B := w.heap.size + 1 + 1) (((Below.refl _ _).alloc (by simp) _).alloc (by simp <;> omega) _) (by omega)
  have hC0 : Blk ((((w.alloc (.cells #[va0, va1, va2] 27)).alloc (.cells #[vb0, vb1, vb2] 27)).alloc (.cells #[.int .i64 0, .int .i64 0, .string ⟨#[]⟩] 36)).alloc (.cells #[.int .i64 0, .int .i64 0, .string ⟨#[]⟩, .bool false] 94)) (w.heap.size + 1 + 1) #[.int .i64 0, .int .i64 0, .string ⟨#[]⟩] 36 := by
    have h := Blk.new ((w.alloc (.cells #[va0, va1, va2] 27)).alloc (.cells #[vb0, vb1, vb2] 27)) #[.int .i64 0, .int .i64 0, .string ⟨#[]⟩] 36
    have e : ((w.alloc (.cells #[va0, va1, va2] 27)).alloc (.cells #[vb0, vb1, vb2] 27)).heap.size = w.heap.size + 1 + 1 := by simp
    rw [e] at h
    exact h.keep (B := w.heap.size + 1 + 1 + 1) ((Below.refl _ _).alloc (by simp) _) (by omega)
  have HW : Hid (Below w.heap.size w ((((w.alloc (.cells #[va0, va1, va2] 27)).alloc (.cells #[vb0, vb1, vb2] 27)).alloc (.cells #[.int .i64 0, .int .i64 0, .string ⟨#[]⟩] 36)).alloc (.cells #[.int .i64 0, .int .i64 0, .string ⟨#[]⟩, .bool false] 94)) ∧ ((((w.alloc (.cells #[va0, va1, va2] 27)).alloc (.cells #[vb0, vb1, vb2] 27)).alloc (.cells #[.int .i64 0, .int .i64 0, .string ⟨#[]⟩] 36)).alloc (.cells #[.int .i64 0, .int .i64 0, .string ⟨#[]⟩, .bool false] 94)).heap.size = w.heap.size + 1 + 1 + 1 + 1 ∧ Blk ((((w.alloc (.cells #[va0, va1, va2] 27)).alloc (.cells #[vb0, vb1, vb2] 27)).alloc (.cells #[.int .i64 0, .int .i64 0, .string ⟨#[]⟩] 36)).alloc (.cells #[.int .i64 0, .int .i64 0, .string ⟨#[]⟩, .bool false] 94)) w.heap.size #[va0, va1, va2] 27 ∧ Blk ((((w.alloc (.cells #[va0, va1, va2] 27)).alloc (.cells #[vb0, vb1, vb2] 27)).alloc (.cells #[.int .i64 0, .int .i64 0, .string ⟨#[]⟩] 36)).alloc (.cells #[.int .i64 0, .int .i64 0, .string ⟨#[]⟩, .bool false] 94)) (w.heap.size + 1) #[vb0, vb1, vb2] 27 ∧ Blk ((((w.alloc (.cells #[va0, va1, va2] 27)).alloc (.cells #[vb0, vb1, vb2] 27)).alloc (.cells #[.int .i64 0, .int .i64 0, .string ⟨#[]⟩] 36)).alloc (.cells #[.int .i64 0, .int .i64 0, .string ⟨#[]⟩, .bool false] 94)) (w.heap.size + 1 + 1) #[.int .i64 0, .int .i64 0, .string ⟨#[]⟩] 36) := ⟨hal, hz, hA0, hB0, hC0⟩
  have C1 : Hid (Calls Tryz.prog 43 #[ptr1 (w.heap.size + 1 + 1 + 1), va0, vb2] ((((w.alloc (.cells #[va0, va1, va2] 27)).alloc (.cells #[vb0, vb1, vb2] 27)).alloc (.cells #[.int .i64 0, .int .i64 0, .string ⟨#[]⟩] 36)).alloc (.cells #[.int .i64 0, .int .i64 0, .string ⟨#[]⟩, .bool false] 94)) fun e w' => e = .returned (.tuple #[]) ∧ ∃ o', IsMin (fun x => False ∨ (x ∈ a.P ∧ x ∈ b.W)) o' ∧ Blk w' (w.heap.size + 1 + 1 + 1) (lC o') 94 ∧ Frm ((((w.alloc (.cells #[va0, va1, va2] 27)).alloc (.cells #[vb0, vb1, vb2] 27)).alloc (.cells #[.int .i64 0, .int .i64 0, .string ⟨#[]⟩] 36)).alloc (.cells #[.int .i64 0, .int .i64 0, .string ⟨#[]⟩, .bool false] 94)) w' (fun k => k = w.heap.size + 1 + 1 + 1)) := by
    subst ea0 eb2
    exact seeShared_any (fun _ => False) none a.P b.W pa pw ca cw (w.heap.size + 1 + 1 + 1) _ (fun x hx => hx) hB (hpa.on hal) (hpw.on hal) ha.lp hb.lw (SlP.ne hpa (by omega)) (SlP.ne hpw (by omega))
  have HS : Hid (va1 = .slice ps a.S.length cs ∧ RowS w w.heap.size ps a.S ∧ SlP w vb2 b.W ∧ a.S.length ≤ 2513169434916 ∧ b.W.length ≤ 4398046511104) := ⟨ea1, hps, hb.w, ha.ls, hb.lw⟩
  have a0 := hA0.cell (i := 0) rfl
  have a1 := hA0.cell (i := 1) rfl
  have a2 := hA0.cell (i := 2) rfl
  have b0 := hB0.cell (i := 0) rfl
  have b1 := hB0.cell (i := 1) rfl
  have b2 := hB0.cell (i := 2) rfl
  clear ha hb la1 la2 ls1 ls2 lw1 lw2 hpa hps hpw hal hz hB hA0 hB0 hC0 ea0 ea1 eb2
  go_enter Tryz.func23, Tryz.ntmps23
  go_wp2_with fail
  generalize ((((w.alloc (.cells #[va0, va1, va2] 27)).alloc (.cells #[vb0, vb1, vb2] 27)).alloc (.cells #[.int .i64 0, .int .i64 0, .string ⟨#[]⟩] 36)).alloc (.cells #[.int .i64 0, .int .i64 0, .string ⟨#[]⟩, .bool false] 94)) = w4 at *
  refine C1.out.mono ?_
  rintro e w5 ⟨rfl, o1, hm1, hb5, hf5⟩
  have HW5 : Hid (Blk w5 w.heap.size #[va0, va1, va2] 27 ∧ Blk w5 (w.heap.size + 1) #[vb0, vb1, vb2] 27 ∧ Blk w5 (w.heap.size + 1 + 1) #[.int .i64 0, .int .i64 0, .string ⟨#[]⟩] 36 ∧ Below w.heap.size w w5 ∧ w.heap.size + 1 + 1 + 1 < w5.heap.size) := ⟨HW.out.2.2.1.frm hf5 (by omega), HW.out.2.2.2.1.frm hf5 (by omega), HW.out.2.2.2.2.frm hf5 (by omega), HW.out.1.trans (hf5.below (by have := HW.out.2.1; omega) (fun k hk => by omega)), by have := HW.out.2.1; have := hf5.size; omega⟩
  have HB5 : Hid (Blk w5 (w.heap.size + 1 + 1 + 1) (lC o1) 94 ∧ IsMin (fun x => False ∨ (x ∈ a.P ∧ x ∈ b.W)) o1) := ⟨hb5, hm1⟩
  have C2 : Hid (Calls Tryz.prog 44 #[ptr1 (w.heap.size + 1 + 1 + 1), va1, vb2] w5 fun e w' => e = .returned (.tuple #[]) ∧ ∃ o', IsMin (fun x => (False ∨ (x ∈ a.P ∧ x ∈ b.W)) ∨ (x ∈ b.W ∧ ∃ s ∈ a.S, inS x s = true)) o' ∧ Blk w' (w.heap.size + 1 + 1 + 1) (lC o') 94 ∧ Frm w5 w' (fun k => k = w.heap.size + 1 + 1 + 1)) := by
    have hs := HS.out
    rw [hs.1]
    exact seeSpanned_any _ o1 a.S b.W ps cs (w.heap.size + 1 + 1 + 1) vb2 w5 hm1 hb5 (hs.2.1.on HW5.out.2.2.2.1) (hs.2.2.1.on HW5.out.2.2.2.1) hs.2.2.2.1 hs.2.2.2.2 (SlS.ne hs.2.1 (by omega))
  clear hm1 hb5 hf5 C1 HW a0 a1 a2 b0 b1 b2
  have a0 := HW5.out.1.cell (i := 0) rfl
  have a1 := HW5.out.1.cell (i := 1) rfl
  have a2 := HW5.out.1.cell (i := 2) rfl
  have b0 := HW5.out.2.1.cell (i := 0) rfl
  have b1 := HW5.out.2.1.cell (i := 1) rfl
  have b2 := HW5.out.2.1.cell (i := 2) rfl
  go_wp2_with fail
  refine C2.out.mono ?_
  rintro e w6 ⟨rfl, o2, hm2, hb6, hf6⟩
  have HM : Hid (IsMin (fun x => x ∈ b.W ∧ a.rds x) o2) := hm2.ext (fun x => by
    unfold Ft.rds
    constructor
    · rintro ((h | ⟨h, h'⟩) | ⟨h, h'⟩)
      · exact h.elim
      · exact ⟨h', .inl h⟩
      · exact ⟨h, .inr h'⟩
    · rintro ⟨h, h' | h'⟩
      · exact .inl (.inr ⟨h', h⟩)
      · exact .inr ⟨h, h'⟩)
  rw [lC_eq] at hb6
  have HB6 : Hid (Blk w6 (w.heap.size + 1 + 1 + 1) #[.int .i64 (lP o2).t, .int .i64 (lP o2).i, .string (lP o2).k, .bool o2.isSome] 94 ∧ Blk w6 (w.heap.size + 1 + 1) #[.int .i64 0, .int .i64 0, .string ⟨#[]⟩] 36 ∧ Below w.heap.size w w6) := ⟨hb6, HW5.out.2.2.1.frm hf6 (by omega), HW5.out.2.2.2.1.trans (hf6.below (by have := HW5.out.2.2.2.2; omega) (fun k hk => by omega))⟩
  clear hm2 hb6 hf6 C2 HW5 HB5 HS a0 a1 a2 b0 b1 b2
  obtain ⟨x, hx⟩ : ∃ x, x = lP o2 := ⟨_, rfl⟩
  obtain ⟨so, hso⟩ : ∃ so, so = o2.isSome := ⟨_, rfl⟩
  rw [← hx, ← hso] at HB6
  have HX : Hid (x = lP o2 ∧ so = o2.isSome) := ⟨hx, hso⟩
  clear hx hso
  go_wp2_with fail
  refine wp_region_L (fun w' => Blk w' (w.heap.size + 1 + 1 + 1) #[.int .i64 x.t, .int .i64 x.i, .string x.k, .bool so] 94) 5 (by kernel_rfl) ?_
  have hdr : Below w6.heap.size w6 w6.drew := (Below.refl _ _).drew
  have HD : Hid (Blk w6.drew (w.heap.size + 1 + 1 + 1) #[.int .i64 x.t, .int .i64 x.i, .string x.k, .bool so] 94 ∧ Blk w6.drew (w.heap.size + 1 + 1) #[.int .i64 0, .int .i64 0, .string ⟨#[]⟩] 36 ∧ Below w.heap.size w w6.drew) := ⟨HB6.out.1.on hdr, HB6.out.2.1.on hdr, HB6.out.2.2.drew⟩
  have HS0 : Hid (Blk w6.drew (w.heap.size + 1 + 1 + 1) #[.int .i64 x.t, .int .i64 x.i, .string x.k, .bool so] 94) := HD.out.1
  clear hdr HB6
  generalize w6.drew = wd at *
  refine wpL_take (v := ?_) 0 rfl (by kernel_rfl) (fun _ _ _ h => h) (by rfl) ?_ HS0.out ?_
  rotate_left
  focus
    intro w9 hw9
    have k0 := Blk.cell hw9 (i := 0) rfl
    have k1 := Blk.cell hw9 (i := 1) rfl
    have k2 := Blk.cell hw9 (i := 2) rfl
    have k3 := Blk.cell hw9 (i := 3) rfl
    go_simp
    try with_reducible rfl
  try simp only [Act.put, List.setIfInBounds_toArray, List.set_cons_zero, List.set_cons_succ]
  refine wpL_take (v := ?_) 1 rfl (by kernel_rfl) (fun _ _ _ h => h) (by rfl) ?_ HS0.out ?_
  rotate_left
  focus
    intro w9 hw9
    have k0 := Blk.cell hw9 (i := 0) rfl
    have k1 := Blk.cell hw9 (i := 1) rfl
    have k2 := Blk.cell hw9 (i := 2) rfl
    have k3 := Blk.cell hw9 (i := 3) rfl
    go_simp
    try with_reducible rfl
  try simp only [Act.put, List.setIfInBounds_toArray, List.set_cons_zero, List.set_cons_succ]
  refine wpL_take (v := ?_) 2 rfl (by kernel_rfl) (fun _ _ _ h => h) (by rfl) ?_ HS0.out ?_
  rotate_left
  focus
    intro w9 hw9
    have k0 := Blk.cell hw9 (i := 0) rfl
    have k1 := Blk.cell hw9 (i := 1) rfl
    have k2 := Blk.cell hw9 (i := 2) rfl
    have k3 := Blk.cell hw9 (i := 3) rfl
    go_simp
    try with_reducible rfl
  try simp only [Act.put, List.setIfInBounds_toArray, List.set_cons_zero, List.set_cons_succ]
  refine wpL_take (v := ?_) 3 rfl (by kernel_rfl) (fun _ _ _ h => h) (by rfl) ?_ HS0.out ?_
  rotate_left
  focus
    intro w9 hw9
    have k0 := Blk.cell hw9 (i := 0) rfl
    have k1 := Blk.cell hw9 (i := 1) rfl
    have k2 := Blk.cell hw9 (i := 2) rfl
    have k3 := Blk.cell hw9 (i := 3) rfl
    go_simp
    try with_reducible rfl
  try simp only [Act.put, List.setIfInBounds_toArray, List.set_cons_zero, List.set_cons_succ]
  have c0 := HD.out.2.1.cell (i := 0) rfl
  have c1 := HD.out.2.1.cell (i := 1) rfl
  have c2 := HD.out.2.1.cell (i := 2) rfl
  have f0 := HD.out.2.1.frozen 0
  have f1 := HD.out.2.1.frozen 1
  have f2 := HD.out.2.1.frozen 2
  refine wpL_one 4 rfl (by kernel_rfl) (by rfl) ?_
  intro K hK
  go_simp
  refine hK.out _ _ (fun _ => ((HD.out.1.other (by omega) 0 _).other (by omega) 1 _).other (by omega) 2 _) ?_
  clear hK K
  try simp only [Act.put, List.setIfInBounds_toArray, List.set_cons_zero, List.set_cons_succ]
  have HR : Hid (Blk (((wd.setCell ⟨w.heap.size + 1 + 1, 0, none⟩ (.int .i64 x.t)).setCell ⟨w.heap.size + 1 + 1, 1, none⟩ (.int .i64 x.i)).setCell ⟨w.heap.size + 1 + 1, 2, none⟩ (.string x.k)) (w.heap.size + 1 + 1) #[.int .i64 x.t, .int .i64 x.i, .string x.k] 36 ∧ Below w.heap.size w (((wd.setCell ⟨w.heap.size + 1 + 1, 0, none⟩ (.int .i64 x.t)).setCell ⟨w.heap.size + 1 + 1, 1, none⟩ (.int .i64 x.i)).setCell ⟨w.heap.size + 1 + 1, 2, none⟩ (.string x.k))) := ⟨((HD.out.2.1.set 0 _).set 1 _).set 2 _, ((HD.out.2.2.setCell (show w.heap.size ≤ w.heap.size + 1 + 1 by omega) _).setCell (show w.heap.size ≤ w.heap.size + 1 + 1 by omega) _).setCell (show w.heap.size ≤ w.heap.size + 1 + 1 by omega) _⟩
  have HS1 : Hid (Blk (((wd.setCell ⟨w.heap.size + 1 + 1, 0, none⟩ (.int .i64 x.t)).setCell ⟨w.heap.size + 1 + 1, 1, none⟩ (.int .i64 x.i)).setCell ⟨w.heap.size + 1 + 1, 2, none⟩ (.string x.k)) (w.heap.size + 1 + 1 + 1) #[.int .i64 x.t, .int .i64 x.i, .string x.k, .bool so] 94) := ((HD.out.1.other (by omega) 0 _).other (by omega) 1 _).other (by omega) 2 _
  clear c0 c1 c2 f0 f1 f2
  generalize ((wd.setCell ⟨w.heap.size + 1 + 1, 0, none⟩ (.int .i64 x.t)).setCell ⟨w.heap.size + 1 + 1, 1, none⟩ (.int .i64 x.i)).setCell ⟨w.heap.size + 1 + 1, 2, none⟩ (.string x.k) = we at *
  refine wpL_one 5 rfl (by kernel_rfl) (by rfl) ?_
  intro K hK
  go_simp
  refine hK.out _ _ (fun _ => HS1.out) ?_
  clear hK K
  try simp only [Act.put, List.setIfInBounds_toArray, List.set_cons_zero, List.set_cons_succ]
  refine wpL_done (by kernel_rfl) ?_ _
  try simp only [NoPanic]
  have r0 := HR.out.1.cell (i := 0) rfl
  have r1 := HR.out.1.cell (i := 1) rfl
  have r2 := HR.out.1.cell (i := 2) rfl
  go_wp2_with fail
  refine bodyPost_ret (v := .tuple #[PV x, .bool so]) (by simp [results, Tryz.results23, go_sem, r0, r1, r2]) rfl ?_
  refine ⟨o2, HM.out, ?_, HR.out.2⟩
  rw [HX.out.1, HX.out.2]

end Go.Proofs.YtcknhjabdjbjiabGreat

namespace Go.Proofs.YtcknhjabdjbjiabGreat
open Go.RowKit
set_option maxRecDepth 100000

theorem rowS_len {w : World} {p : Option Addr} {L : List Sp} (h : RowS w w.heap.size p L) (hp : p = none) : L = [] := by
  match L, h with
  | [], _ => rfl
  | x :: L, h =>
    obtain ⟨b, o, e, _⟩ := h 0 (by simp)
    rw [hp] at e
    cases e

set_option maxHeartbeats 4000000 in
theorem withoutP0_any (fid : FuncId) (t : Pt → Bool) (L : List Pt) (v : Value) (w : World) (hin : ∀ args w, (callFunc fid args).run Tryz.prog w = .ok (.enter fid args) w) (h : SlP w v L) (hlen : L.length ≤ 4398046511104)
    (HC : ∀ (x : Pt) (w1 : World), Below w.heap.size w w1 → Calls Tryz.prog fid #[.agg #[.int .i64 x.t, .int .i64 x.i, .string x.k]] w1 fun e w' => e = .returned (.bool (t x)) ∧ Below w1.heap.size w1 w') :
    Calls Tryz.prog 64 #[v, .func (.func fid) #[] #[]] w fun e w' => ∃ v', e = .returned v' ∧ OwnP w' w.heap.size v' (dropG t L) ∧ Below w.heap.size w w' := by
  obtain ⟨p, c, rfl, h1, h2, h3⟩ := h.f
  cases p with
  | none =>
    have e : L = [] := rowP_len h3 rfl
    subst e
    rw [h2 rfl]
    have C1 : Hid (Calls _ _ _ _ _) := clonePN_any w
    have C2 : Hid (∀ w1, Below w.heap.size w w1 → Calls Tryz.prog 54 #[.slice none 0 0, .func (.func fid) #[] #[]] w1 fun e w' => e = .returned (.int .i64 (-1)) ∧ Below w1.heap.size w1 w') := fun w1 hb => indexFP0_any fid t [] none 0 w1 hin (fun i hi => absurd hi (by simp)) (by simp) (fun x w2 h2 => HC x w2 (hb.trans (h2.mono hb.size)))
    have C3 : Hid (∀ w1, Below w.heap.size w w1 → Calls Tryz.prog 45 #[.slice none 0 0, .func (.func fid) #[] #[]] w1 fun e w' => e = .returned (.slice none 0 0) ∧ Below w1.heap.size w1 w') := fun w1 hb => by
      have C4 : Hid (Calls _ _ _ _ _) := C2.out w1 hb
      clear C1 C2 HC
      go_enter Tryz.func45, Tryz.ntmps45
      go_wp2_with fail
      refine C4.out.mono ?_
      rintro e w2 ⟨rfl, hb2⟩
      go_wp2_with fail
      go_ret
      exact ⟨rfl, hb2⟩
    clear HC C2 h h3
    go_enter Tryz.func64, Tryz.ntmps64
    go_wp2_with fail
    refine C1.out.mono ?_
    rintro e w1 ⟨rfl, hb1⟩
    go_wp2_with fail
    refine (C3.out w1 hb1).mono ?_
    rintro e w2 ⟨rfl, hb2⟩
    go_wp2_with fail
    go_ret
    exact ⟨_, rfl, OwnP.nil _ _, hb1.trans (hb2.mono hb1.size)⟩
  | some a =>
    have C1 : Hid (Calls _ _ _ _ _) := cloneP_any L a c w h3 hlen h1
    have HHC : Hid (∀ (x : Pt) (w1 : World), Below w.heap.size w w1 → Calls Tryz.prog fid #[.agg #[.int .i64 x.t, .int .i64 x.i, .string x.k]] w1 fun e w' => e = .returned (.bool (t x)) ∧ Below w1.heap.size w1 w') := HC
    have HIN : Hid (∀ args w, (callFunc fid args).run Tryz.prog w = .ok (.enter fid args) w) := hin
    clear HC h h3 hin
    go_enter Tryz.func64, Tryz.ntmps64
    go_wp2_with fail
    refine C1.out.mono ?_
    rintro e w1 ⟨v, rfl, hO, hnn, hb1⟩
    rcases hO.form with ⟨rfl, rfl⟩ | ⟨g, cap, rfl, hg1, hg2⟩
    · exact absurd rfl hnn
    · have C2 : Hid (Calls _ _ _ _ _) := deleteFP0_any fid t L g cap w.heap.size w1 HIN.out hO hlen (fun x w2 h2 => HHC.out x w2 (hb1.trans h2))
      have HB1 : Hid (Below w.heap.size w w1) := hb1
      clear hO hnn hb1 C1 HHC
      go_wp2_with fail
      refine C2.out.mono ?_
      rintro e w2 ⟨rfl, hO2, hb2⟩
      have HO2 : Hid (OwnP _ _ _ _ ∧ Below w.heap.size w w2) := ⟨hO2, HB1.out.trans hb2⟩
      clear hO2 hb2
      go_wp2_with fail
      go_ret
      exact ⟨_, rfl, HO2.out.1, HO2.out.2⟩

set_option maxHeartbeats 4000000 in
theorem withoutP1_any (fid : FuncId) (k1 : Value) (t : Pt → Bool) (L : List Pt) (v : Value) (w : World) (hin : ∀ args w, (callFunc fid args).run Tryz.prog w = .ok (.enter fid args) w) (h : SlP w v L) (hlen : L.length ≤ 4398046511104)
    (HC : ∀ (x : Pt) (w1 : World), Below w.heap.size w w1 → Calls Tryz.prog fid #[.agg #[.int .i64 x.t, .int .i64 x.i, .string x.k], k1] w1 fun e w' => e = .returned (.bool (t x)) ∧ Below w1.heap.size w1 w') :
    Calls Tryz.prog 64 #[v, .func (.func fid) #[] #[k1]] w fun e w' => ∃ v', e = .returned v' ∧ OwnP w' w.heap.size v' (dropG t L) ∧ Below w.heap.size w w' := by
  obtain ⟨p, c, rfl, h1, h2, h3⟩ := h.f
  cases p with
  | none =>
    have e : L = [] := rowP_len h3 rfl
    subst e
    rw [h2 rfl]
    have C1 : Hid (Calls _ _ _ _ _) := clonePN_any w
    have C2 : Hid (∀ w1, Below w.heap.size w w1 → Calls Tryz.prog 54 #[.slice none 0 0, .func (.func fid) #[] #[k1]] w1 fun e w' => e = .returned (.int .i64 (-1)) ∧ Below w1.heap.size w1 w') := fun w1 hb => indexFP1_any fid k1 t [] none 0 w1 hin (fun i hi => absurd hi (by simp)) (by simp) (fun x w2 h2 => HC x w2 (hb.trans (h2.mono hb.size)))
    have C3 : Hid (∀ w1, Below w.heap.size w w1 → Calls Tryz.prog 45 #[.slice none 0 0, .func (.func fid) #[] #[k1]] w1 fun e w' => e = .returned (.slice none 0 0) ∧ Below w1.heap.size w1 w') := fun w1 hb => by
      have C4 : Hid (Calls _ _ _ _ _) := C2.out w1 hb
      clear C1 C2 HC
      go_enter Tryz.func45, Tryz.ntmps45
      go_wp2_with fail
      refine C4.out.mono ?_
      rintro e w2 ⟨rfl, hb2⟩
      go_wp2_with fail
      go_ret
      exact ⟨rfl, hb2⟩
    clear HC C2 h h3
    go_enter Tryz.func64, Tryz.ntmps64
    go_wp2_with fail
    refine C1.out.mono ?_
    rintro e w1 ⟨rfl, hb1⟩
    go_wp2_with fail
    refine (C3.out w1 hb1).mono ?_
    rintro e w2 ⟨rfl, hb2⟩
    go_wp2_with fail
    go_ret
    exact ⟨_, rfl, OwnP.nil _ _, hb1.trans (hb2.mono hb1.size)⟩
  | some a =>
    have C1 : Hid (Calls _ _ _ _ _) := cloneP_any L a c w h3 hlen h1
    have HHC : Hid (∀ (x : Pt) (w1 : World), Below w.heap.size w w1 → Calls Tryz.prog fid #[.agg #[.int .i64 x.t, .int .i64 x.i, .string x.k], k1] w1 fun e w' => e = .returned (.bool (t x)) ∧ Below w1.heap.size w1 w') := HC
    have HIN : Hid (∀ args w, (callFunc fid args).run Tryz.prog w = .ok (.enter fid args) w) := hin
    clear HC h h3 hin
    go_enter Tryz.func64, Tryz.ntmps64
    go_wp2_with fail
    refine C1.out.mono ?_
    rintro e w1 ⟨v, rfl, hO, hnn, hb1⟩
    rcases hO.form with ⟨rfl, rfl⟩ | ⟨g, cap, rfl, hg1, hg2⟩
    · exact absurd rfl hnn
    · have C2 : Hid (Calls _ _ _ _ _) := deleteFP1_any fid k1 t L g cap w.heap.size w1 HIN.out hO hlen (fun x w2 h2 => HHC.out x w2 (hb1.trans h2))
      have HB1 : Hid (Below w.heap.size w w1) := hb1
      clear hO hnn hb1 C1 HHC
      go_wp2_with fail
      refine C2.out.mono ?_
      rintro e w2 ⟨rfl, hO2, hb2⟩
      have HO2 : Hid (OwnP _ _ _ _ ∧ Below w.heap.size w w2) := ⟨hO2, HB1.out.trans hb2⟩
      clear hO2 hb2
      go_wp2_with fail
      go_ret
      exact ⟨_, rfl, HO2.out.1, HO2.out.2⟩



theorem rows1_any (x : Pt) (w : World) : Calls Tryz.prog 65 #[PV x] w fun e w' => e = .returned (.bool (x.i != -1)) ∧ Below w.heap.size w w' := by
  go_enter Tryz.func65, Tryz.ntmps65
  go_wp2
  go_ret
  exact ⟨rfl, by go_grown⟩
/-- the rows among points -/
def rowsL (L : List Pt) : List Pt := dropG (fun x => x.i != -1) L
theorem rows_any (L : List Pt) (v : Value) (w : World) (h : SlP w v L) (hlen : L.length ≤ 4398046511104) :
    Calls Tryz.prog 48 #[v] w fun e w' => ∃ v', e = .returned v' ∧ OwnP w' w.heap.size v' (rowsL L) ∧ Below w.heap.size w w' := by
  have C1 : Hid (Calls Tryz.prog 64 #[v, .func (.func 65) #[] #[]] w fun e w' => ∃ v', e = .returned v' ∧ OwnP w' w.heap.size v' (dropG (fun x => x.i != -1) L) ∧ Below w.heap.size w w') := withoutP0_any 65 (fun x => x.i != -1) L v w (enters_of Tryz.func65 (by kernel_rfl) rfl) h hlen (fun x w1 _ => rows1_any x w1)
  clear h
  go_enter Tryz.func48, Tryz.ntmps48
  go_wp2_with fail
  refine C1.out.mono ?_
  rintro e w1 ⟨v', rfl, hO, hb⟩
  have HO : Hid (OwnP w1 w.heap.size v' (dropG (fun x => x.i != -1) L) ∧ Below w.heap.size w w1) := ⟨hO, hb⟩
  clear hO hb C1
  go_wp2_with fail
  go_ret
  exact ⟨_, rfl, HO.out.1, HO.out.2⟩

end Go.Proofs.YtcknhjabdjbjiabGreat
