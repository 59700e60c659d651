/- The law of a row's keys. -/
import Derived.Test.YteadniomgbhecaaGreatDoorGWEntR
import Derived.Test.YteadniomgbhecaaGreatDoorGWKeyR
namespace Go.Proofs.YteadniomgbhecaaGreatDoor
open Go.RowKit
set_option maxRecDepth 100000

set_option maxHeartbeats 8000000 in
theorem lawRKeys (t : Tb) (a : TabP) (l : List Vl) (p : Option Addr) (cl : Nat) (i : Int) (w : World) (hV : TabV w w.heap.size t a) (hok : t.ok) (hR : RowV w w.heap.size p l) (hvo : ∀ v ∈ l, v.ok) (hll : l.length ≤ 17592186043904) (hE : Env w) :
    Calls Tryz.prog 3 #[a.val t, .slice p l.length cl, .int .i64 i] w fun e w' => e = .returned (.bool true) ∧ Below w.heap.size w w' := by
  obtain ⟨pc, cc, pk, ck, px, cx, pr, cr⟩ := a
  have C1 : Hid (∀ w1, Below w.heap.size w w1 → Calls Tryz.prog 4 #[.agg #[.string t.nm, .slice pc t.cs.length cc, .slice pk t.key.length ck, .slice px t.ix.length cx, .slice pr t.rf.length cr], .slice p l.length cl] w1 fun e w' => e = .returned (.tuple #[.string ⟨(keyS t l).1.toArray⟩, .int .i64 (keyS t l).2]) ∧ Below w1.heap.size w1 w') := fun w1 hb => rowKey_any t ⟨pc, cc, pk, ck, px, cx, pr, cr⟩ l p cl w1 (hV.on hb) hok ((hR.keep hb).mono hb.size) hvo hll (hE.on hb)
  have C2 : Hid (∀ w1, Below w.heap.size w w1 → Calls Tryz.prog 5 #[.agg #[.string t.nm, .slice pc t.cs.length cc, .slice pk t.key.length ck, .slice px t.ix.length cx, .slice pr t.rf.length cr], .slice p l.length cl] w1 fun e w' => e = .returned (.tuple #[.string ⟨(keyS t l).1.toArray⟩, .int .i64 (keyS t l).2]) ∧ Below w1.heap.size w1 w') := fun w1 hb => refKey_any t ⟨pc, cc, pk, ck, px, cx, pr, cr⟩ l p cl w1 (hV.on hb) hok ((hR.keep hb).mono hb.size) hvo hll (hE.on hb)
  have C3 : Hid (∀ w1, Below w.heap.size w w1 → Calls Tryz.prog 6 #[.agg #[.string t.nm, .slice pc t.cs.length cc, .slice pk t.key.length ck, .slice px t.ix.length cx, .slice pr t.rf.length cr], .int .i64 i, .slice p l.length cl] w1 fun e w' => e = .returned (.tuple #[.string ⟨(entS t i l).1.toArray⟩, .int .i64 (entS t i l).2]) ∧ Below w1.heap.size w1 w') := fun w1 hb => rowEntry_any t ⟨pc, cc, pk, ck, px, cx, pr, cr⟩ i l p cl w1 (hV.on hb) hok ((hR.keep hb).mono hb.size) hvo hll (hE.on hb)
  have C4 : Hid (∀ w1, Below w.heap.size w w1 → Calls Tryz.prog 7 #[.agg #[.string t.nm, .slice pc t.cs.length cc, .slice pk t.key.length ck, .slice px t.ix.length cx, .slice pr t.rf.length cr], .int .i64 i, .slice p l.length cl] w1 fun e w' => e = .returned (.tuple #[.string ⟨(entS t i l).1.toArray⟩, .int .i64 (entS t i l).2]) ∧ Below w1.heap.size w1 w') := fun w1 hb => refEntry_any t ⟨pc, cc, pk, ck, px, cx, pr, cr⟩ i l p cl w1 (hV.on hb) hok ((hR.keep hb).mono hb.size) hvo hll (hE.on hb)
  have C5 : Hid (∀ w1, Below w.heap.size w w1 → Calls Tryz.prog 8 #[] w1 fun e w' => e = .returned (.bool true) ∧ Below w1.heap.size w1 w') := fun w1 hb => awake4 w1 (hE.on hb)
  have HB : Hid (BoxT _ _ _ _) := BoxT.new w t ⟨pc, cc, pk, ck, px, cx, pr, cr⟩
  have hb0 : Below w.heap.size w (w.alloc (.cells #[.string t.nm, .slice pc t.cs.length cc, .slice pk t.key.length ck, .slice px t.ix.length cx, .slice pr t.rf.length cr] 27)) := by go_grown
  clear hV hok hR hvo hll hE
  generalize keyS t l = kr at *
  generalize entS t i l = er at *
  obtain ⟨kb, ke⟩ := kr
  obtain ⟨eb, ee⟩ := er
  dsimp only at C1 C2 C3 C4
  generalize (⟨kb.toArray⟩ : ByteArray) = ks at *
  generalize (⟨eb.toArray⟩ : ByteArray) = es at *
  unfold TabP.val
  dsimp only
  go_enter Tryz.func3, Tryz.ntmps3
  go_wp2_with fail
  refine (C1.out _ hb0).mono ?_
  rintro e w1 ⟨rfl, hb1⟩
  dsimp only
  have H01 : Hid (Below w.heap.size w w1) := hb0.trans (hb1.mono hb0.size)
  have HB1 : Hid (BoxT w1 w.heap.size t ⟨pc, cc, pk, ck, px, cx, pr, cr⟩) := HB.out.on hb1 (by simp)
  have HZ1 : Hid (w.heap.size < w1.heap.size) := HB1.out.hg
  obtain ⟨-, e0, e1, e2, e3, e4⟩ := HB1.out
  dsimp only at e0 e1 e2 e3 e4
  clear hb1 hb0 HB C1
  go_wp2_with fail
  refine (C2.out _ H01.out).mono ?_
  rintro e w2 ⟨rfl, hb2⟩
  dsimp only
  have H02 : Hid (Below w.heap.size w w2) := H01.out.trans (hb2.mono H01.out.size)
  have HB2 : Hid (BoxT w2 w.heap.size t ⟨pc, cc, pk, ck, px, cx, pr, cr⟩) := HB1.out.on hb2 HZ1.out
  clear e0 e1 e2 e3 e4 hb2 HB1 HZ1 C2 H01
  have HZ2 : Hid (w.heap.size < w2.heap.size) := HB2.out.hg
  obtain ⟨-, e0, e1, e2, e3, e4⟩ := HB2.out
  dsimp only at e0 e1 e2 e3 e4
  go_wp2_with fail
  refine (C3.out _ H02.out).mono ?_
  rintro e w3 ⟨rfl, hb3⟩
  dsimp only
  have H03 : Hid (Below w.heap.size w w3) := H02.out.trans (hb3.mono H02.out.size)
  have HB3 : Hid (BoxT w3 w.heap.size t ⟨pc, cc, pk, ck, px, cx, pr, cr⟩) := HB2.out.on hb3 HZ2.out
  clear e0 e1 e2 e3 e4 hb3 HB2 HZ2 C3 H02
  obtain ⟨-, e0, e1, e2, e3, e4⟩ := HB3.out
  dsimp only at e0 e1 e2 e3 e4
  go_wp2_with fail
  refine (C4.out _ H03.out).mono ?_
  rintro e w4 ⟨rfl, hb4⟩
  dsimp only
  have H04 : Hid (Below w.heap.size w w4) := H03.out.trans (hb4.mono H03.out.size)
  clear e0 e1 e2 e3 e4 hb4 HB3 C4 H03
  go_wp2_with fail
  refine (C5.out _ H04.out).mono ?_
  rintro e w5 ⟨rfl, hb5⟩
  dsimp only
  have H05 : Hid (Below w.heap.size w w5) := H04.out.trans (hb5.mono H04.out.size)
  clear hb5 C5 H04
  go_wp2_with fail
  go_ret
  exact ⟨rfl, H05.out⟩

end Go.Proofs.YteadniomgbhecaaGreatDoor
