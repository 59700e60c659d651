/- Where what one wrote was read by another one: Clash. -/
import Derived.Test.YtjeidpgkgjljcaaWCl5
import Derived.Test.YtjeidpgkgjljcaaWHeld
namespace Go.Proofs.Ytjeidpgkgjljcaa
open Go.RowKit
set_option maxRecDepth 100000

/-- a foot -/
structure Ft where
  P : List Pt
  S : List Sp
  W : List Pt
/-- a foot that is read -/
structure RdF (w : World) (v0 v1 v2 : Value) (f : Ft) : Prop where
  p : SlP w v0 f.P
  s : SlS w v1 f.S
  w : SlP w v2 f.W
  lp : f.P.length ≤ 4398046511104
  ls : f.S.length ≤ 2513169434916
  lw : f.W.length ≤ 4398046511104
theorem RdF.on {w w' : World} {v0 v1 v2 : Value} {f : Ft} (h : RdF w v0 v1 v2 f) (hb : Below w.heap.size w w') : RdF w' v0 v1 v2 f := ⟨h.p.on hb, h.s.on hb, h.w.on hb, h.lp, h.ls, h.lw⟩
/-- does a foot read a point? -/
def Ft.rds (f : Ft) (x : Pt) : Prop := x ∈ f.P ∨ ∃ s ∈ f.S, inS x s = true
theorem SlP.ne {w : World} {p : Option Addr} {L : List Pt} {lb : Nat} (h : RowP w w.heap.size p L) (hl : w.heap.size ≤ lb) : ∀ b o, p = some ⟨b, o, none⟩ → L ≠ [] → ¬ b = lb := by
  intro b o e hne
  obtain ⟨b', o', e', hb, _⟩ := h 0 (List.length_pos_iff.2 hne)
  rw [e] at e'
  cases e'
  omega
theorem SlS.ne {w : World} {p : Option Addr} {L : List Sp} {lb : Nat} (h : RowS w w.heap.size p L) (hl : w.heap.size ≤ lb) : ∀ b o, p = some ⟨b, o, none⟩ → L ≠ [] → ¬ b = lb := by
  intro b o e hne
  obtain ⟨b', o', e', hb, _⟩ := h 0 (List.length_pos_iff.2 hne)
  rw [e] at e'
  cases e'
  omega
theorem SlP.frm {w w' : World} {F : Nat → Prop} {v : Value} {L : List Pt} (h : SlP w v L) (hf : Frm w w' F) (hn : ∀ b, b < w.heap.size → ¬ F b) : SlP w' v L := by
  obtain ⟨p, c, e, h1, h2, h3⟩ := h.f
  exact ⟨p, c, e, h1, h2, h3.frm hf (fun b o _ hb _ => hn b hb)⟩
/-- the end of Clash and of Both: a least is told -/
theorem lC_eq (o : Option Pt) : lC o = #[.int .i64 (lP o).t, .int .i64 (lP o).i, .string (lP o).k, .bool o.isSome] := by
  cases o <;> rfl

set_option maxHeartbeats 8000000 in
theorem clash_any (a b : Ft) (va0 va1 va2 vb0 vb1 vb2 : Value) (w : World) (ha : RdF w va0 va1 va2 a) (hb : RdF w vb0 vb1 vb2 b) :
    Calls Try.prog 5 #[.agg #[va0, va1, va2], .agg #[vb0, vb1, vb2]] w fun e w' => ∃ o, IsMin (fun x => x ∈ b.W ∧ a.rds x) o ∧ e = .returned (.tuple #[PV (lP o), .bool o.isSome]) ∧ Below w.heap.size w w' := by
  obtain ⟨pa, ca, ea0, la1, la2, hpa⟩ := ha.p.f
  obtain ⟨ps, cs, ea1, ls1, ls2, hps⟩ := ha.s.f
  obtain ⟨pw, cw, eb2, lw1, lw2, hpw⟩ := hb.w.f
  have hal : Below w.heap.size w ((((w.alloc (.cells #[va0, va1, va2] 25)).alloc (.cells #[vb0, vb1, vb2] 25)).alloc (.cells #[.int .i64 0, .int .i64 0, .string ⟨#[]⟩] 27)).alloc (.cells #[.int .i64 0, .int .i64 0, .string ⟨#[]⟩, .bool false] 43)) := ((((Below.refl _ _).alloc (Nat.le_refl _) _).alloc (by simp) _).alloc (by simp <;> omega) _).alloc (by simp <;> omega) _
  have hz : ((((w.alloc (.cells #[va0, va1, va2] 25)).alloc (.cells #[vb0, vb1, vb2] 25)).alloc (.cells #[.int .i64 0, .int .i64 0, .string ⟨#[]⟩] 27)).alloc (.cells #[.int .i64 0, .int .i64 0, .string ⟨#[]⟩, .bool false] 43)).heap.size = w.heap.size + 1 + 1 + 1 + 1 := by simp
  have hB : Blk ((((w.alloc (.cells #[va0, va1, va2] 25)).alloc (.cells #[vb0, vb1, vb2] 25)).alloc (.cells #[.int .i64 0, .int .i64 0, .string ⟨#[]⟩] 27)).alloc (.cells #[.int .i64 0, .int .i64 0, .string ⟨#[]⟩, .bool false] 43)) (w.heap.size + 1 + 1 + 1) (lC none) 43 := by
    have h := Blk.new (((w.alloc (.cells #[va0, va1, va2] 25)).alloc (.cells #[vb0, vb1, vb2] 25)).alloc (.cells #[.int .i64 0, .int .i64 0, .string ⟨#[]⟩] 27)) #[.int .i64 0, .int .i64 0, .string ⟨#[]⟩, .bool false] 43
    have e : (((w.alloc (.cells #[va0, va1, va2] 25)).alloc (.cells #[vb0, vb1, vb2] 25)).alloc (.cells #[.int .i64 0, .int .i64 0, .string ⟨#[]⟩] 27)).heap.size = w.heap.size + 1 + 1 + 1 := by simp
    rw [e] at h
    exact h
  have hA0 : Blk ((((w.alloc (.cells #[va0, va1, va2] 25)).alloc (.cells #[vb0, vb1, vb2] 25)).alloc (.cells #[.int .i64 0, .int .i64 0, .string ⟨#[]⟩] 27)).alloc (.cells #[.int .i64 0, .int .i64 0, .string ⟨#[]⟩, .bool false] 43)) w.heap.size #[va0, va1, va2] 25 := (Blk.new w #[va0, va1, va2] 25).keep (B := w.heap.size + 1) ((((Below.refl _ _).alloc (by simp) _).alloc (by simp <;> omega) _).alloc (by simp <;> omega) _) (by omega)
  have hB0 : Blk ((((w.alloc (.cells #[va0, va1, va2] 25)).alloc (.cells #[vb0, vb1, vb2] 25)).alloc (.cells #[.int .i64 0, .int .i64 0, .string ⟨#[]⟩] 27)).alloc (.cells #[.int .i64 0, .int .i64 0, .string ⟨#[]⟩, .bool false] 43)) (w.heap.size + 1) #[vb0, vb1, vb2] 25 := by
    have h := Blk.new (w.alloc (.cells #[va0, va1, va2] 25)) #[vb0, vb1, vb2] 25
    have e : (w.alloc (.cells #[va0, va1, va2] 25)).heap.size = w.heap.size + 1 := by simp
    rw [e] at h
    exact h.keep (B := w.heap.size + 1 + 1) (((Below.refl _ _).alloc (by simp) _).alloc (by simp <;> omega) _) (by omega)
  have hC0 : Blk ((((w.alloc (.cells #[va0, va1, va2] 25)).alloc (.cells #[vb0, vb1, vb2] 25)).alloc (.cells #[.int .i64 0, .int .i64 0, .string ⟨#[]⟩] 27)).alloc (.cells #[.int .i64 0, .int .i64 0, .string ⟨#[]⟩, .bool false] 43)) (w.heap.size + 1 + 1) #[.int .i64 0, .int .i64 0, .string ⟨#[]⟩] 27 := by
    have h := Blk.new ((w.alloc (.cells #[va0, va1, va2] 25)).alloc (.cells #[vb0, vb1, vb2] 25)) #[.int .i64 0, .int .i64 0, .string ⟨#[]⟩] 27
    have e : ((w.alloc (.cells #[va0, va1, va2] 25)).alloc (.cells #[vb0, vb1, vb2] 25)).heap.size = w.heap.size + 1 + 1 := by simp
    rw [e] at h
    exact h.keep (B := w.heap.size + 1 + 1 + 1) ((Below.refl _ _).alloc (by simp) _) (by omega)
  have HW : Hid (Below w.heap.size w ((((w.alloc (.cells #[va0, va1, va2] 25)).alloc (.cells #[vb0, vb1, vb2] 25)).alloc (.cells #[.int .i64 0, .int .i64 0, .string ⟨#[]⟩] 27)).alloc (.cells #[.int .i64 0, .int .i64 0, .string ⟨#[]⟩, .bool false] 43)) ∧ ((((w.alloc (.cells #[va0, va1, va2] 25)).alloc (.cells #[vb0, vb1, vb2] 25)).alloc (.cells #[.int .i64 0, .int .i64 0, .string ⟨#[]⟩] 27)).alloc (.cells #[.int .i64 0, .int .i64 0, .string ⟨#[]⟩, .bool false] 43)).heap.size = w.heap.size + 1 + 1 + 1 + 1 ∧ Blk ((((w.alloc (.cells #[va0, va1, va2] 25)).alloc (.cells #[vb0, vb1, vb2] 25)).alloc (.cells #[.int .i64 0, .int .i64 0, .string ⟨#[]⟩] 27)).alloc (.cells #[.int .i64 0, .int .i64 0, .string ⟨#[]⟩, .bool false] 43)) w.heap.size #[va0, va1, va2] 25 ∧ Blk ((((w.alloc (.cells #[va0, va1, va2] 25)).alloc (.cells #[vb0, vb1, vb2] 25)).alloc (.cells #[.int .i64 0, .int .i64 0, .string ⟨#[]⟩] 27)).alloc (.cells #[.int .i64 0, .int .i64 0, .string ⟨#[]⟩, .bool false] 43)) (w.heap.size + 1) #[vb0, vb1, vb2] 25 ∧ Blk ((((w.alloc (.cells #[va0, va1, va2] 25)).alloc (.cells #[vb0, vb1, vb2] 25)).alloc (.cells #[.int .i64 0, .int .i64 0, .string ⟨#[]⟩] 27)).alloc (.cells #[.int .i64 0, .int .i64 0, .string ⟨#[]⟩, .bool false] 43)) (w.heap.size + 1 + 1) #[.int .i64 0, .int .i64 0, .string ⟨#[]⟩] 27) := ⟨hal, hz, hA0, hB0, hC0⟩
  have C1 : Hid (Calls Try.prog 19 #[ptr1 (w.heap.size + 1 + 1 + 1), va0, vb2] ((((w.alloc (.cells #[va0, va1, va2] 25)).alloc (.cells #[vb0, vb1, vb2] 25)).alloc (.cells #[.int .i64 0, .int .i64 0, .string ⟨#[]⟩] 27)).alloc (.cells #[.int .i64 0, .int .i64 0, .string ⟨#[]⟩, .bool false] 43)) fun e w' => e = .returned (.tuple #[]) ∧ ∃ o', IsMin (fun x => False ∨ (x ∈ a.P ∧ x ∈ b.W)) o' ∧ Blk w' (w.heap.size + 1 + 1 + 1) (lC o') 43 ∧ Frm ((((w.alloc (.cells #[va0, va1, va2] 25)).alloc (.cells #[vb0, vb1, vb2] 25)).alloc (.cells #[.int .i64 0, .int .i64 0, .string ⟨#[]⟩] 27)).alloc (.cells #[.int .i64 0, .int .i64 0, .string ⟨#[]⟩, .bool false] 43)) w' (fun k => k = w.heap.size + 1 + 1 + 1)) := by
    subst ea0 eb2
    exact seeShared_any (fun _ => False) none a.P b.W pa pw ca cw (w.heap.size + 1 + 1 + 1) _ (fun x hx => hx) hB (hpa.on hal) (hpw.on hal) ha.lp hb.lw (SlP.ne hpa (by omega)) (SlP.ne hpw (by omega))
  have HS : Hid (va1 = .slice ps a.S.length cs ∧ RowS w w.heap.size ps a.S ∧ SlP w vb2 b.W ∧ a.S.length ≤ 2513169434916 ∧ b.W.length ≤ 4398046511104) := ⟨ea1, hps, hb.w, ha.ls, hb.lw⟩
  have a0 := hA0.cell (i := 0) rfl
  have a1 := hA0.cell (i := 1) rfl
  have a2 := hA0.cell (i := 2) rfl
  have b0 := hB0.cell (i := 0) rfl
  have b1 := hB0.cell (i := 1) rfl
  have b2 := hB0.cell (i := 2) rfl
  clear ha hb la1 la2 ls1 ls2 lw1 lw2 hpa hps hpw hal hz hB hA0 hB0 hC0 ea0 ea1 eb2
  go_enter Try.func5, Try.ntmps5
  go_wp2_with fail
  generalize ((((w.alloc (.cells #[va0, va1, va2] 25)).alloc (.cells #[vb0, vb1, vb2] 25)).alloc (.cells #[.int .i64 0, .int .i64 0, .string ⟨#[]⟩] 27)).alloc (.cells #[.int .i64 0, .int .i64 0, .string ⟨#[]⟩, .bool false] 43)) = w4 at *
  refine C1.out.mono ?_
  rintro e w5 ⟨rfl, o1, hm1, hb5, hf5⟩
  have HW5 : Hid (Blk w5 w.heap.size #[va0, va1, va2] 25 ∧ Blk w5 (w.heap.size + 1) #[vb0, vb1, vb2] 25 ∧ Blk w5 (w.heap.size + 1 + 1) #[.int .i64 0, .int .i64 0, .string ⟨#[]⟩] 27 ∧ Below w.heap.size w w5 ∧ w.heap.size + 1 + 1 + 1 < w5.heap.size) := ⟨HW.out.2.2.1.frm hf5 (by omega), HW.out.2.2.2.1.frm hf5 (by omega), HW.out.2.2.2.2.frm hf5 (by omega), HW.out.1.trans (hf5.below (by have := HW.out.2.1; omega) (fun k hk => by omega)), by have := HW.out.2.1; have := hf5.size; omega⟩
  have HB5 : Hid (Blk w5 (w.heap.size + 1 + 1 + 1) (lC o1) 43 ∧ IsMin (fun x => False ∨ (x ∈ a.P ∧ x ∈ b.W)) o1) := ⟨hb5, hm1⟩
  have C2 : Hid (Calls Try.prog 20 #[ptr1 (w.heap.size + 1 + 1 + 1), va1, vb2] w5 fun e w' => e = .returned (.tuple #[]) ∧ ∃ o', IsMin (fun x => (False ∨ (x ∈ a.P ∧ x ∈ b.W)) ∨ (x ∈ b.W ∧ ∃ s ∈ a.S, inS x s = true)) o' ∧ Blk w' (w.heap.size + 1 + 1 + 1) (lC o') 43 ∧ Frm w5 w' (fun k => k = w.heap.size + 1 + 1 + 1)) := by
    have hs := HS.out
    rw [hs.1]
    exact seeSpanned_any _ o1 a.S b.W ps cs (w.heap.size + 1 + 1 + 1) vb2 w5 hm1 hb5 (hs.2.1.on HW5.out.2.2.2.1) (hs.2.2.1.on HW5.out.2.2.2.1) hs.2.2.2.1 hs.2.2.2.2 (SlS.ne hs.2.1 (by omega))
  clear hm1 hb5 hf5 C1 HW a0 a1 a2 b0 b1 b2
  have a0 := HW5.out.1.cell (i := 0) rfl
  have a1 := HW5.out.1.cell (i := 1) rfl
  have a2 := HW5.out.1.cell (i := 2) rfl
  have b0 := HW5.out.2.1.cell (i := 0) rfl
  have b1 := HW5.out.2.1.cell (i := 1) rfl
  have b2 := HW5.out.2.1.cell (i := 2) rfl
  go_wp2_with fail
  refine C2.out.mono ?_
  rintro e w6 ⟨rfl, o2, hm2, hb6, hf6⟩
  have HM : Hid (IsMin (fun x => x ∈ b.W ∧ a.rds x) o2) := hm2.ext (fun x => by
    unfold Ft.rds
    constructor
    · rintro ((h | ⟨h, h'⟩) | ⟨h, h'⟩)
      · exact h.elim
      · exact ⟨h', .inl h⟩
      · exact ⟨h, .inr h'⟩
    · rintro ⟨h, h' | h'⟩
      · exact .inl (.inr ⟨h', h⟩)
      · exact .inr ⟨h, h'⟩)
  rw [lC_eq] at hb6
  have HB6 : Hid (Blk w6 (w.heap.size + 1 + 1 + 1) #[.int .i64 (lP o2).t, .int .i64 (lP o2).i, .string (lP o2).k, .bool o2.isSome] 43 ∧ Blk w6 (w.heap.size + 1 + 1) #[.int .i64 0, .int .i64 0, .string ⟨#[]⟩] 27 ∧ Below w.heap.size w w6) := ⟨hb6, HW5.out.2.2.1.frm hf6 (by omega), HW5.out.2.2.2.1.trans (hf6.below (by have := HW5.out.2.2.2.2; omega) (fun k hk => by omega))⟩
  clear hm2 hb6 hf6 C2 HW5 HB5 HS a0 a1 a2 b0 b1 b2
  obtain ⟨x, hx⟩ : ∃ x, x = lP o2 := ⟨_, rfl⟩
  obtain ⟨so, hso⟩ : ∃ so, so = o2.isSome := ⟨_, rfl⟩
  rw [← hx, ← hso] at HB6
  have HX : Hid (x = lP o2 ∧ so = o2.isSome) := ⟨hx, hso⟩
  clear hx hso
  go_wp2_with fail
  refine wp_region_L (fun w' => Blk w' (w.heap.size + 1 + 1 + 1) #[.int .i64 x.t, .int .i64 x.i, .string x.k, .bool so] 43) 5 (by kernel_rfl) ?_
  have hdr : Below w6.heap.size w6 w6.drew := (Below.refl _ _).drew
  have HD : Hid (Blk w6.drew (w.heap.size + 1 + 1 + 1) #[.int .i64 x.t, .int .i64 x.i, .string x.k, .bool so] 43 ∧ Blk w6.drew (w.heap.size + 1 + 1) #[.int .i64 0, .int .i64 0, .string ⟨#[]⟩] 27 ∧ Below w.heap.size w w6.drew) := ⟨HB6.out.1.on hdr, HB6.out.2.1.on hdr, HB6.out.2.2.drew⟩
  have HS0 : Hid (Blk w6.drew (w.heap.size + 1 + 1 + 1) #[.int .i64 x.t, .int .i64 x.i, .string x.k, .bool so] 43) := HD.out.1
  clear hdr HB6
  generalize w6.drew = wd at *
  refine wpL_take (v := ?_) 0 rfl (by kernel_rfl) (fun _ _ _ h => h) (by rfl) ?_ HS0.out ?_
  rotate_left
  focus
    intro w9 hw9
    have k0 := Blk.cell hw9 (i := 0) rfl
    have k1 := Blk.cell hw9 (i := 1) rfl
    have k2 := Blk.cell hw9 (i := 2) rfl
    have k3 := Blk.cell hw9 (i := 3) rfl
    go_simp
    try with_reducible rfl
  try simp only [Act.put, List.setIfInBounds_toArray, List.set_cons_zero, List.set_cons_succ]
  refine wpL_take (v := ?_) 1 rfl (by kernel_rfl) (fun _ _ _ h => h) (by rfl) ?_ HS0.out ?_
  rotate_left
  focus
    intro w9 hw9
    have k0 := Blk.cell hw9 (i := 0) rfl
    have k1 := Blk.cell hw9 (i := 1) rfl
    have k2 := Blk.cell hw9 (i := 2) rfl
    have k3 := Blk.cell hw9 (i := 3) rfl
    go_simp
    try with_reducible rfl
  try simp only [Act.put, List.setIfInBounds_toArray, List.set_cons_zero, List.set_cons_succ]
  refine wpL_take (v := ?_) 2 rfl (by kernel_rfl) (fun _ _ _ h => h) (by rfl) ?_ HS0.out ?_
  rotate_left
  focus
    intro w9 hw9
    have k0 := Blk.cell hw9 (i := 0) rfl
    have k1 := Blk.cell hw9 (i := 1) rfl
    have k2 := Blk.cell hw9 (i := 2) rfl
    have k3 := Blk.cell hw9 (i := 3) rfl
    go_simp
    try with_reducible rfl
  try simp only [Act.put, List.setIfInBounds_toArray, List.set_cons_zero, List.set_cons_succ]
  refine wpL_take (v := ?_) 3 rfl (by kernel_rfl) (fun _ _ _ h => h) (by rfl) ?_ HS0.out ?_
  rotate_left
  focus
    intro w9 hw9
    have k0 := Blk.cell hw9 (i := 0) rfl
    have k1 := Blk.cell hw9 (i := 1) rfl
    have k2 := Blk.cell hw9 (i := 2) rfl
    have k3 := Blk.cell hw9 (i := 3) rfl
    go_simp
    try with_reducible rfl
  try simp only [Act.put, List.setIfInBounds_toArray, List.set_cons_zero, List.set_cons_succ]
  have c0 := HD.out.2.1.cell (i := 0) rfl
  have c1 := HD.out.2.1.cell (i := 1) rfl
  have c2 := HD.out.2.1.cell (i := 2) rfl
  have f0 := HD.out.2.1.frozen 0
  have f1 := HD.out.2.1.frozen 1
  have f2 := HD.out.2.1.frozen 2
  refine wpL_one 4 rfl (by kernel_rfl) (by rfl) ?_
  intro K hK
  go_simp
  refine hK.out _ _ (fun _ => ((HD.out.1.other (by omega) 0 _).other (by omega) 1 _).other (by omega) 2 _) ?_
  clear hK K
  try simp only [Act.put, List.setIfInBounds_toArray, List.set_cons_zero, List.set_cons_succ]
  have HR : Hid (Blk (((wd.setCell ⟨w.heap.size + 1 + 1, 0, none⟩ (.int .i64 x.t)).setCell ⟨w.heap.size + 1 + 1, 1, none⟩ (.int .i64 x.i)).setCell ⟨w.heap.size + 1 + 1, 2, none⟩ (.string x.k)) (w.heap.size + 1 + 1) #[.int .i64 x.t, .int .i64 x.i, .string x.k] 27 ∧ Below w.heap.size w (((wd.setCell ⟨w.heap.size + 1 + 1, 0, none⟩ (.int .i64 x.t)).setCell ⟨w.heap.size + 1 + 1, 1, none⟩ (.int .i64 x.i)).setCell ⟨w.heap.size + 1 + 1, 2, none⟩ (.string x.k))) := ⟨((HD.out.2.1.set 0 _).set 1 _).set 2 _, ((HD.out.2.2.setCell (show w.heap.size ≤ w.heap.size + 1 + 1 by omega) _).setCell (show w.heap.size ≤ w.heap.size + 1 + 1 by omega) _).setCell (show w.heap.size ≤ w.heap.size + 1 + 1 by omega) _⟩
  have HS1 : Hid (Blk (((wd.setCell ⟨w.heap.size + 1 + 1, 0, none⟩ (.int .i64 x.t)).setCell ⟨w.heap.size + 1 + 1, 1, none⟩ (.int .i64 x.i)).setCell ⟨w.heap.size + 1 + 1, 2, none⟩ (.string x.k)) (w.heap.size + 1 + 1 + 1) #[.int .i64 x.t, .int .i64 x.i, .string x.k, .bool so] 43) := ((HD.out.1.other (by omega) 0 _).other (by omega) 1 _).other (by omega) 2 _
  clear c0 c1 c2 f0 f1 f2
  generalize ((wd.setCell ⟨w.heap.size + 1 + 1, 0, none⟩ (.int .i64 x.t)).setCell ⟨w.heap.size + 1 + 1, 1, none⟩ (.int .i64 x.i)).setCell ⟨w.heap.size + 1 + 1, 2, none⟩ (.string x.k) = we at *
  refine wpL_one 5 rfl (by kernel_rfl) (by rfl) ?_
  intro K hK
  go_simp
  refine hK.out _ _ (fun _ => HS1.out) ?_
  clear hK K
  try simp only [Act.put, List.setIfInBounds_toArray, List.set_cons_zero, List.set_cons_succ]
  refine wpL_done (by kernel_rfl) ?_ _
  try simp only [NoPanic]
  have r0 := HR.out.1.cell (i := 0) rfl
  have r1 := HR.out.1.cell (i := 1) rfl
  have r2 := HR.out.1.cell (i := 2) rfl
  go_wp2_with fail
  refine bodyPost_ret (v := .tuple #[PV x, .bool so]) (by simp [results, Try.results5, go_sem, r0, r1, r2]) rfl ?_
  refine ⟨o2, HM.out, ?_, HR.out.2⟩
  rw [HX.out.1, HX.out.2]
end Go.Proofs.Ytjeidpgkgjljcaa
