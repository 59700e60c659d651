/- The walk of the statement on Change: it answers true. -/
import Derived.Test.YtgnedioggpgeeaaDoorGMChg
import Derived.Test.YtgnedioggpgeeaaDoorGWREnc
namespace Go.Proofs.YtgnedioggpgeeaaDoor
open Go.RowKit
set_option maxRecDepth 100000

set_option maxHeartbeats 4000000 in
theorem lawRChg (t : Tb) (a : TabP) (L M : List Vl) (p q : Option Addr) (cl cm : Nat) (w : World) (hV : TabV w w.heap.size t a) (hok : t.ok) (hL : RowV w w.heap.size p L) (hM : RowV w w.heap.size q M) (hvl : ∀ v ∈ L, v.ok) (hvm : ∀ v ∈ M, v.ok) (hll : L.length ≤ 3518437208784) (hlm : M.length ≤ 3518437208784) (hcm : M.length ≤ cm) (hE : Env w) :
    Calls Tryd.prog 5 #[a.val t, .slice p L.length cl, .slice q M.length cm] w fun e w' => e = .returned (.bool true) ∧ Below w.heap.size w w' := by
  obtain ⟨pc, cc, pk, ck, px, cx, pr, cr⟩ := a
  have hl2 : L.length ≤ 17592186043904 := by omega
  have hm2 : M.length ≤ 17592186043904 := by omega
  have hb0 : Below w.heap.size w (w.alloc (.cells #[.string t.nm, .slice pc t.cs.length cc, .slice pk t.key.length ck, .slice px t.ix.length cx, .slice pr t.rf.length cr] 27)) := by go_grown
  have HB : Hid (BoxT _ _ _ _) := BoxT.new w t ⟨pc, cc, pk, ck, px, cx, pr, cr⟩
  have C1 : Hid (∀ w2 : World, Below w.heap.size w w2 → Calls Tryd.prog 13 #[.agg #[.string t.nm, .slice pc t.cs.length cc, .slice pk t.key.length ck, .slice px t.ix.length cx, .slice pr t.rf.length cr], .slice p L.length cl, .slice q M.length cm] w2 fun e w' => e = .returned (.tuple #[.string ⟨(chgR t L M).1.toArray⟩, .int .i64 (chgR t L M).2]) ∧ Below w2.heap.size w2 w') := fun w2 hb => change_any t ⟨pc, cc, pk, ck, px, cx, pr, cr⟩ L M p q cl cm w2 (hV.on hb) hok ((hL.keep hb).mono hb.size) ((hM.keep hb).mono hb.size) hvl hvm hl2 hm2 hcm (hE.on hb)
  have C2 : Hid (∀ w2 : World, Below w.heap.size w w2 → Calls Tryd.prog 14 #[.agg #[.string t.nm, .slice pc t.cs.length cc, .slice pk t.key.length ck, .slice px t.ix.length cx, .slice pr t.rf.length cr], .slice p L.length cl, .slice q M.length cm] w2 fun e w' => e = .returned (.tuple #[.string ⟨(chgR t L M).1.toArray⟩, .int .i64 (chgR t L M).2]) ∧ Below w2.heap.size w2 w') := fun w2 hb => rchange_any t ⟨pc, cc, pk, ck, px, cx, pr, cr⟩ L M p q cl cm w2 (hV.on hb) hok ((hL.keep hb).mono hb.size) ((hM.keep hb).mono hb.size) hvl hvm hl2 hm2 hcm (hE.on hb)
  have C3 : Hid (∀ w2 : World, Below w.heap.size w w2 → Calls Tryd.prog 15 #[.slice p L.length cl, .slice q M.length cm] w2 fun e w' => e = .returned (.bool (sameL L M)) ∧ Below w2.heap.size w2 w') := fun w2 hb => sameRow_any L M p q cl cm w2 ((hL.keep hb).mono hb.size) ((hM.keep hb).mono hb.size) hl2 hm2
  have C4 : Hid (∀ w2 : World, Below w.heap.size w w2 → Calls Tryd.prog 12 #[.slice p L.length cl, .slice q M.length cm] w2 fun e w' => e = .returned (.bool (sameL L M)) ∧ Below w2.heap.size w2 w') := fun w2 hb => rsameRow_any L M p q cl cm w2 ((hL.keep hb).mono hb.size) ((hM.keep hb).mono hb.size) hl2 hm2
  have CW : Hid (∀ w2 : World, Below w.heap.size w w2 → Calls Tryd.prog 9 #[] w2 fun e w' => e = .returned (.bool true) ∧ Below w2.heap.size w2 w') := fun w2 hb => awake4 w2 (hE.on hb)
  clear hV hok hL hM hvl hvm hll hlm hE hl2 hm2
  obtain ⟨d1, d2, hd⟩ : ∃ x y, (⟨(chgR t L M).1.toArray⟩ : ByteArray) = x ∧ (chgR t L M).2 = y := ⟨_, _, rfl, rfl⟩
  rw [hd.1, hd.2] at C1 C2
  clear hd
  generalize sameL L M = sl at *
  unfold TabP.val
  go_enter Tryd.func5, Tryd.ntmps5
  go_wp2_with fail
  refine (C1.out _ hb0).mono ?_
  rintro e w1 ⟨rfl, hb1⟩
  have h01 : Below w.heap.size w w1 := hb0.trans (hb1.mono hb0.size)
  have HB1 : Hid (BoxT w1 w.heap.size t ⟨pc, cc, pk, ck, px, cx, pr, cr⟩) := HB.out.on hb1 (by simp)
  obtain ⟨hz1, e0, e1, e2, e3, e4⟩ := HB1.out
  dsimp only at e0 e1 e2 e3 e4
  clear hb0 HB hb1
  go_wp2_with fail
  refine (C2.out _ h01).mono ?_
  rintro e w2 ⟨rfl, hb2⟩
  have h02 : Below w.heap.size w w2 := h01.trans (hb2.mono h01.size)
  go_wp2_with fail
  refine (C3.out _ h02).mono ?_
  rintro e w3 ⟨rfl, hb3⟩
  have h03 : Below w.heap.size w w3 := h02.trans (hb3.mono h02.size)
  go_wp2_with fail
  refine (C4.out _ h03).mono ?_
  rintro e w4 ⟨rfl, hb4⟩
  have h04 : Below w.heap.size w w4 := h03.trans (hb4.mono h03.size)
  go_wp2_with fail
  refine (CW.out _ h04).mono ?_
  rintro e w5 ⟨rfl, hb5⟩
  go_wp2
  go_ret
  exact ⟨rfl, h04.trans (hb5.mono h04.size)⟩
end Go.Proofs.YtgnedioggpgeeaaDoor
