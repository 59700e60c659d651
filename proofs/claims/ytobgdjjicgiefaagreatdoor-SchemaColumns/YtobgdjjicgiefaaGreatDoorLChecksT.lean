/- The walks of the statements on Check, Column and Admits: they answer true. -/
import Derived.Test.YtobgdjjicgiefaaGreatDoorWCopy2
import Derived.Test.YtobgdjjicgiefaaGreatDoorWAwake3
namespace Go.Proofs.YtobgdjjicgiefaaGreatDoor
open Go.RowKit
set_option maxRecDepth 100000

/-- the box of a table, in a later world -/
abbrev SBx (w0 : World) (g : Nat) (x0 x1 x2 x3 x4 : Value) (w' : World) : Prop := Below w0.heap.size w0 w' ∧ w'.cell? ⟨g, 0, none⟩ = some x0 ∧ w'.cell? ⟨g, 1, none⟩ = some x1 ∧ w'.cell? ⟨g, 2, none⟩ = some x2 ∧ w'.cell? ⟨g, 3, none⟩ = some x3 ∧ w'.cell? ⟨g, 4, none⟩ = some x4
theorem SBx.on {w0 : World} {g : Nat} {x0 x1 x2 x3 x4 : Value} {w1 w2 : World} (hb : Below w1.heap.size w1 w2) (h : SBx w0 g x0 x1 x2 x3 x4 w1) : SBx w0 g x0 x1 x2 x3 x4 w2 := by
  obtain ⟨h0, c0, c1, c2, c3, c4⟩ := h
  have k : ∀ {o : Nat} {v : Value}, w1.cell? ⟨g, o, none⟩ = some v → w2.cell? ⟨g, o, none⟩ = some v := fun {o v} hc => (hb.cell (p := ⟨g, o, none⟩) (World.block_lt_of_cell? w1 _ hc)).trans hc
  exact ⟨h0.trans (hb.mono h0.size), k c0, k c1, k c2, k c3, k c4⟩
theorem SBx.bl {w0 : World} {g : Nat} {x0 x1 x2 x3 x4 : Value} {w1 : World} (h : SBx w0 g x0 x1 x2 x3 x4 w1) : Below w0.heap.size w0 w1 := h.1

set_option maxHeartbeats 4000000 in
theorem lawChecks (t : Tb) (a : TabP) (w : World) (hV : TabV w w.heap.size t a) (hok : t.ok) (hcl : t.cs.length ≤ 1954687338211) (hcl2 : t.ix.length ≤ 2932031007317) (hE : Env w) (hK : KW w) :
    Calls Tryz.prog 4 #[a.val t] w fun e w' => e = .returned (.bool true) ∧ Below w.heap.size w w' := by
  obtain ⟨pc, cc, pk, ck, px, cx, pr, cr⟩ := a
  have hb0 : Below w.heap.size w (w.alloc (.cells #[.string t.nm, .slice pc t.cs.length cc, .slice pk t.key.length ck, .slice px t.ix.length cx, .slice pr t.rf.length cr] 29)) := by go_grown
  have HB : Hid (BoxT _ _ _ _) := BoxT.new w t ⟨pc, cc, pk, ck, px, cx, pr, cr⟩
  unfold TabP.val
  go_enter Tryz.func4, Tryz.ntmps4
  go_wp2_with fail
  generalize w.alloc (.cells #[.string t.nm, .slice pc t.cs.length cc, .slice pk t.key.length ck, .slice px t.ix.length cx, .slice pr t.rf.length cr] 29) = w1 at *
  have C1 : Hid (∀ w2 : World, Below w1.heap.size w1 w2 → Calls Tryz.prog 13 #[.agg #[.string t.nm, .slice pc t.cs.length cc, .slice pk t.key.length ck, .slice px t.ix.length cx, .slice pr t.rf.length cr]] w2 fun e w' => ∃ a' : TabP, e = .returned (a'.val t) ∧ TabV w' w'.heap.size t a' ∧ Below w2.heap.size w2 w') := fun w2 hb => copy_any t ⟨pc, cc, pk, ck, px, cx, pr, cr⟩ w2 (hV.on (hb0.trans (hb.mono hb0.size))) hok hcl hcl2
  have C2 : Hid (∀ (a' : TabP) (w2 : World), Below w1.heap.size w1 w2 → TabV w2 w2.heap.size t a' → Calls Tryz.prog 12 #[a'.val t] w2 fun e w' => e = .returned (.int .i64 (checkS t)) ∧ Below w2.heap.size w2 w') := fun a' w2 hb h => check_anyT t a' w2 h hok (hE.on (hb0.trans (hb.mono hb0.size)))
  have C3 : Hid (∀ w2 : World, Below w1.heap.size w1 w2 → Calls Tryz.prog 14 #[.agg #[.string t.nm, .slice pc t.cs.length cc, .slice pk t.key.length ck, .slice px t.ix.length cx, .slice pr t.rf.length cr]] w2 fun e w' => e = .returned (.int .i64 (checkS t)) ∧ Below w2.heap.size w2 w') := fun w2 hb => rcheck_anyT t ⟨pc, cc, pk, ck, px, cx, pr, cr⟩ w2 (hV.on (hb0.trans (hb.mono hb0.size))) hok (hE.on (hb0.trans (hb.mono hb0.size)))
  have CW : Hid (∀ w2 : World, Below w1.heap.size w1 w2 → Calls Tryz.prog 11 #[] w2 fun e w' => e = .returned (.bool true) ∧ Below w2.heap.size w2 w') := fun w2 hb => awake3 w2 (hE.on (hb0.trans (hb.mono hb0.size))) (hK.on (hb0.trans (hb.mono hb0.size)))
  have HS : Hid (SBx w1 w.heap.size (.string t.nm) (.slice pc t.cs.length cc) (.slice pk t.key.length ck) (.slice px t.ix.length cx) (.slice pr t.rf.length cr) w1.drew) := ⟨(Below.refl _ _).drew, HB.out.c0, HB.out.c1, HB.out.c2, HB.out.c3, HB.out.c4⟩
  clear hV hok hE hK HB hcl hcl2
  generalize checkS t = d at *
  go_region_held3 (fun w' => SBx w1 w.heap.size (.string t.nm) (.slice pc t.cs.length cc) (.slice pk t.key.length ck) (.slice px t.ix.length cx) (.slice pr t.rf.length cr) w') (first | exact HS.out | exact SBx.on (by assumption) (by assumption)) (first | (go_at_call 13; refine (C1.out _ (SBx.bl (by assumption))).mono ?_; rintro e w5 ⟨a5, rfl, hV5, hb5⟩) | (go_at_call 12; refine (C2.out _ _ (SBx.bl (by assumption)) hV5).mono ?_; rintro e w6 ⟨rfl, hb6⟩) | (go_at_call 14; refine (C3.out _ (SBx.bl (by assumption))).mono ?_; rintro e w7 ⟨rfl, hb7⟩) | (go_at_call 11; refine (CW.out _ (SBx.bl (by assumption))).mono ?_; rintro e w8 ⟨rfl, hb8⟩))
  have hS : SBx w1 w.heap.size (.string t.nm) (.slice pc t.cs.length cc) (.slice pk t.key.length ck) (.slice px t.ix.length cx) (.slice pr t.rf.length cr) w8 := by assumption
  go_wp2
  go_ret
  exact ⟨rfl, hb0.trans (hS.1.mono hb0.size)⟩

set_option maxHeartbeats 4000000 in
theorem lawColumns (t : Tb) (a : TabP) (nm : ByteArray) (w : World) (hV : TabV w w.heap.size t a) (hok : t.ok) (hcl : t.cs.length ≤ 1954687338211) (hcl2 : t.ix.length ≤ 2932031007317) (hE : Env w) (hK : KW w) :
    Calls Tryz.prog 5 #[a.val t, .string nm] w fun e w' => e = .returned (.bool true) ∧ Below w.heap.size w w' := by
  obtain ⟨pc, cc, pk, ck, px, cx, pr, cr⟩ := a
  have hb0 : Below w.heap.size w (w.alloc (.cells #[.string t.nm, .slice pc t.cs.length cc, .slice pk t.key.length ck, .slice px t.ix.length cx, .slice pr t.rf.length cr] 29)) := by go_grown
  have HB : Hid (BoxT _ _ _ _) := BoxT.new w t ⟨pc, cc, pk, ck, px, cx, pr, cr⟩
  have hl1 : t.cs.length ≤ 17592186043904 := by omega
  have C1 : Hid (∀ w2 : World, Below w.heap.size w w2 → Calls Tryz.prog 13 #[.agg #[.string t.nm, .slice pc t.cs.length cc, .slice pk t.key.length ck, .slice px t.ix.length cx, .slice pr t.rf.length cr]] w2 fun e w' => ∃ a' : TabP, e = .returned (a'.val t) ∧ TabV w' w'.heap.size t a' ∧ Below w2.heap.size w2 w') := fun w2 hb => copy_any t ⟨pc, cc, pk, ck, px, cx, pr, cr⟩ w2 (hV.on hb) hok hcl hcl2
  have C2 : Hid (∀ (a' : TabP) (w2 : World), TabV w2 w2.heap.size t a' → Calls Tryz.prog 15 #[a'.val t, .string nm] w2 fun e w' => e = .returned (.tuple #[.int .i64 (colF nm t.cs 0).1, .int .i64 (colF nm t.cs 0).2]) ∧ Below w2.heap.size w2 w') := fun a' w2 h => column_any t a' nm w2 h hl1
  have C3 : Hid (∀ w2 : World, Below w.heap.size w w2 → Calls Tryz.prog 16 #[.agg #[.string t.nm, .slice pc t.cs.length cc, .slice pk t.key.length ck, .slice px t.ix.length cx, .slice pr t.rf.length cr], .string nm] w2 fun e w' => e = .returned (.tuple #[.int .i64 (colF nm t.cs 0).1, .int .i64 (colF nm t.cs 0).2]) ∧ Below w2.heap.size w2 w') := fun w2 hb => rcolumn_any t ⟨pc, cc, pk, ck, px, cx, pr, cr⟩ nm w2 (hV.on hb) hl1
  have CW : Hid (∀ w2 : World, Below w.heap.size w w2 → Calls Tryz.prog 11 #[] w2 fun e w' => e = .returned (.bool true) ∧ Below w2.heap.size w2 w') := fun w2 hb => awake3 w2 (hE.on hb) (hK.on hb)
  clear hV hok hE hK hcl hcl2 hl1
  generalize colF nm t.cs 0 = d at *
  obtain ⟨d1, d2⟩ := d
  dsimp only at C2 C3
  unfold TabP.val
  go_enter Tryz.func5, Tryz.ntmps5
  go_wp2_with fail
  refine (C1.out _ hb0).mono ?_
  rintro e w1 ⟨a1, rfl, hV1, hb1⟩
  have h01 : Below w.heap.size w w1 := hb0.trans (hb1.mono hb0.size)
  have HB1 : Hid (BoxT w1 w.heap.size t ⟨pc, cc, pk, ck, px, cx, pr, cr⟩) := HB.out.on hb1 (by simp)
  clear hb0 HB hb1
  go_wp2_with fail
  refine (C2.out a1 _ hV1).mono ?_
  rintro e w2 ⟨rfl, hb2⟩
  have h02 : Below w.heap.size w w2 := h01.trans (hb2.mono h01.size)
  have HB2 : Hid (BoxT w2 w.heap.size t ⟨pc, cc, pk, ck, px, cx, pr, cr⟩) := HB1.out.on hb2 HB1.out.hg
  obtain ⟨hz2, e0, e1, e2, e3, e4⟩ := HB2.out
  dsimp only at e0 e1 e2 e3 e4
  clear hV1 hb2 HB1 h01
  go_wp2_with fail
  refine (C3.out _ h02).mono ?_
  rintro e w3 ⟨rfl, hb3⟩
  have h03 : Below w.heap.size w w3 := h02.trans (hb3.mono h02.size)
  go_wp2_with fail
  refine (CW.out _ h03).mono ?_
  rintro e w4 ⟨rfl, hb4⟩
  go_wp2
  go_ret
  exact ⟨rfl, h03.trans (hb4.mono h03.size)⟩

set_option maxHeartbeats 4000000 in
theorem lawAdmits (t : Tb) (a : TabP) (l : List Vl) (p : Option Addr) (cl : Nat) (w : World) (hV : TabV w w.heap.size t a) (hok : t.ok) (hcl : t.cs.length ≤ 1954687338211) (hcl2 : t.ix.length ≤ 2932031007317) (hR : RowV w w.heap.size p l) (hvo : ∀ v ∈ l, v.ok) (hll : l.length ≤ 3518437208784) (hE : Env w) (hK : KW w) :
    Calls Tryz.prog 6 #[a.val t, .slice p l.length cl] w fun e w' => e = .returned (.bool true) ∧ Below w.heap.size w w' := by
  obtain ⟨pc, cc, pk, ck, px, cx, pr, cr⟩ := a
  have hb0 : Below w.heap.size w (w.alloc (.cells #[.string t.nm, .slice pc t.cs.length cc, .slice pk t.key.length ck, .slice px t.ix.length cx, .slice pr t.rf.length cr] 29)) := by go_grown
  have HB : Hid (BoxT _ _ _ _) := BoxT.new w t ⟨pc, cc, pk, ck, px, cx, pr, cr⟩
  unfold TabP.val
  go_enter Tryz.func6, Tryz.ntmps6
  go_wp2_with fail
  generalize w.alloc (.cells #[.string t.nm, .slice pc t.cs.length cc, .slice pk t.key.length ck, .slice px t.ix.length cx, .slice pr t.rf.length cr] 29) = w1 at *
  have hl2 : l.length ≤ 17592186043904 := by omega
  have C1 : Hid (∀ w2 : World, Below w1.heap.size w1 w2 → Calls Tryz.prog 13 #[.agg #[.string t.nm, .slice pc t.cs.length cc, .slice pk t.key.length ck, .slice px t.ix.length cx, .slice pr t.rf.length cr]] w2 fun e w' => ∃ a' : TabP, e = .returned (a'.val t) ∧ TabV w' w'.heap.size t a' ∧ Below w2.heap.size w2 w') := fun w2 hb => copy_any t ⟨pc, cc, pk, ck, px, cx, pr, cr⟩ w2 (hV.on (hb0.trans (hb.mono hb0.size))) hok hcl hcl2
  have CR : Hid (∀ w2 : World, Below w1.heap.size w1 w2 → Calls Tryz.prog 18 #[.slice p l.length cl] w2 fun e w' => ∃ v, e = .returned v ∧ OwnV w' w2.heap.size v l ∧ Below w2.heap.size w2 w') := fun w2 hb => row_any l p cl w2 ((hR.keep (hb0.trans (hb.mono hb0.size))).mono (hb0.trans (hb.mono hb0.size)).size) hll
  have C2 : Hid (∀ (a' : TabP) (q : Option Addr) (c : Nat) (w2 : World), Below w1.heap.size w1 w2 → TabV w2 w2.heap.size t a' → RowV w2 w2.heap.size q l → Calls Tryz.prog 17 #[a'.val t, .slice q l.length c] w2 fun e w' => e = .returned (.int .i64 (admS t l)) ∧ Below w2.heap.size w2 w') := fun a' q c w2 hb h h2 => admits_any t a' l q c w2 h hok h2 hvo hl2 (hE.on (hb0.trans (hb.mono hb0.size)))
  have C3 : Hid (∀ w2 : World, Below w1.heap.size w1 w2 → Calls Tryz.prog 19 #[.agg #[.string t.nm, .slice pc t.cs.length cc, .slice pk t.key.length ck, .slice px t.ix.length cx, .slice pr t.rf.length cr], .slice p l.length cl] w2 fun e w' => e = .returned (.int .i64 (admS t l)) ∧ Below w2.heap.size w2 w') := fun w2 hb => radmits_any t ⟨pc, cc, pk, ck, px, cx, pr, cr⟩ l p cl w2 (hV.on (hb0.trans (hb.mono hb0.size))) hok ((hR.keep (hb0.trans (hb.mono hb0.size))).mono (hb0.trans (hb.mono hb0.size)).size) hvo hl2 (hE.on (hb0.trans (hb.mono hb0.size)))
  have CW : Hid (∀ w2 : World, Below w1.heap.size w1 w2 → Calls Tryz.prog 11 #[] w2 fun e w' => e = .returned (.bool true) ∧ Below w2.heap.size w2 w') := fun w2 hb => awake3 w2 (hE.on (hb0.trans (hb.mono hb0.size))) (hK.on (hb0.trans (hb.mono hb0.size)))
  have HS : Hid (SBx w1 w.heap.size (.string t.nm) (.slice pc t.cs.length cc) (.slice pk t.key.length ck) (.slice px t.ix.length cx) (.slice pr t.rf.length cr) w1.drew) := ⟨(Below.refl _ _).drew, HB.out.c0, HB.out.c1, HB.out.c2, HB.out.c3, HB.out.c4⟩
  clear hV hok hE hK HB hcl hcl2 hR hvo hll hl2
  generalize admS t l = d at *
  go_region_held3 (fun w' => SBx w1 w.heap.size (.string t.nm) (.slice pc t.cs.length cc) (.slice pk t.key.length ck) (.slice px t.ix.length cx) (.slice pr t.rf.length cr) w') (first | exact HS.out | exact SBx.on (by assumption) (by assumption)) (first | (go_at_call 13; refine (C1.out _ (SBx.bl (by assumption))).mono ?_; rintro e w5 ⟨a5, rfl, hV5, hb5⟩) | (go_at_call 18; refine (CR.out _ (SBx.bl (by assumption))).mono ?_; rintro e w4 ⟨v4, rfl, hO4, hb4⟩; obtain ⟨q4, d4, rfl, hR4⟩ := hO4.row; have hV4 := hV5.on hb4) | (go_at_call 17; refine (C2.out _ _ _ _ (SBx.bl (by assumption)) hV4 hR4).mono ?_; rintro e w6 ⟨rfl, hb6⟩) | (go_at_call 19; refine (C3.out _ (SBx.bl (by assumption))).mono ?_; rintro e w7 ⟨rfl, hb7⟩) | (go_at_call 11; refine (CW.out _ (SBx.bl (by assumption))).mono ?_; rintro e w8 ⟨rfl, hb8⟩))
  have hS : SBx w1 w.heap.size (.string t.nm) (.slice pc t.cs.length cc) (.slice pk t.key.length ck) (.slice px t.ix.length cx) (.slice pr t.rf.length cr) w8 := by assumption
  go_wp2
  go_ret
  exact ⟨rfl, hb0.trans (hS.1.mono hb0.size)⟩
end Go.Proofs.YtobgdjjicgiefaaGreatDoor
