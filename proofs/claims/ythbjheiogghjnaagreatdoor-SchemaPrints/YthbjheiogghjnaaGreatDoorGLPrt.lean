/- The law of SchemaPrints. -/
import Derived.Lib.ItoaLen
import Derived.Test.YthbjheiogghjnaaGreatDoorGWPrt4
import Derived.Test.YthbjheiogghjnaaGreatDoorGWFt4
import Derived.Test.YthbjheiogghjnaaGreatDoorGWCopy
import Derived.Test.YthbjheiogghjnaaGreatDoorGWFill
namespace Go.Proofs.YthbjheiogghjnaaGreatDoor
open Go.RowKit
set_option maxRecDepth 100000

/-- the text of a float, as the library's table has it -/
noncomputable def flT (T : Nat → Int × Int) (f : Nat) : List UInt8 := if h : f < 18446744073709551616 then Classical.choose (floatText_any T f h) else []
theorem flT_ok (T : Nat → Int × Int) (f : Nat) (h : f < 18446744073709551616) : (flT T f).length ≤ 40 ∧ ∀ w, FlE T w → FlB f (flT T f) w := by
  unfold flT
  rw [dif_pos h]
  exact Classical.choose_spec (floatText_any T f h)
/-- the texts of values -/
noncomputable def dfT (T : Nat → Int × Int) (v : Vl) : ByteArray := txtO (flT T v.f) v.k v.n v.f v.s
theorem dfT_size (T : Nat → Int × Int) (v : Vl) (h : v.ok) : (dfT T v).size ≤ 200000 := by
  unfold dfT txtO
  split
  · rename_i hc
    obtain ⟨_, _, hs⟩ := chkV_ok hc
    have h1 := (flT_ok T v.f h.2.2.1).1
    have h2 := qesc_len v.s.data.toList
    have h3 := hexL_len v.s.data.toList
    have h4 := Lib.itoa_length_le v.n h.2.1.1 h.2.1.2
    have h5 : v.s.data.toList.length = v.s.size := size_toList v.s
    show (txtV (flT T v.f) v.k v.n v.s).length ≤ 200000
    unfold txtV
    repeat' split
    all_goals try simp only [List.length_append, List.length_cons, List.length_nil]
    all_goals omega
  · exact Nat.zero_le _

set_option maxHeartbeats 8000000 in
theorem lawPrints (T : Nat → Int × Int) (t : Tb) (a : TabP) (w : World) (hV : TabV w w.heap.size t a) (hok : t.ok) (hcl : t.cs.length ≤ 1954687338211) (hcl2 : t.ix.length ≤ 2932031007317) (hE : TxE T w) (hK : KWa w) :
    Calls Tryz.prog 3 #[a.val t] w fun e w' => e = .returned (.bool true) ∧ Below w.heap.size w w' := by
  obtain ⟨pc, cc, pk, ck, px, cx, pr, cr⟩ := a
  have hb0 : Below w.heap.size w (w.alloc (.cells #[.string t.nm, .slice pc t.cs.length cc, .slice pk t.key.length ck, .slice px t.ix.length cx, .slice pr t.rf.length cr] 27)) := by go_grown
  have HB : Hid (BoxT _ _ _ _) := BoxT.new w t ⟨pc, cc, pk, ck, px, cx, pr, cr⟩
  have HEn : Hid (∀ w2, Below w.heap.size w w2 → Env w2) := fun w2 hb => ⟨(hE.on hb).ug, (hE.on hb).ut⟩
  have C1 : Hid (∀ w2 : World, Below w.heap.size w w2 → Calls Tryz.prog 5 #[.agg #[.string t.nm, .slice pc t.cs.length cc, .slice pk t.key.length ck, .slice px t.ix.length cx, .slice pr t.rf.length cr]] w2 fun e w' => ∃ a' : TabP, e = .returned (a'.val t) ∧ TabV w' w'.heap.size t a' ∧ Below w2.heap.size w2 w') := fun w2 hb => copy_any t ⟨pc, cc, pk, ck, px, cx, pr, cr⟩ w2 (hV.on hb) hok hcl hcl2
  have C2 : Hid (∀ (a' : TabP) (w2 : World), Below w.heap.size w w2 → TabV w2 w2.heap.size t a' → Calls Tryz.prog 4 #[a'.val t] w2 fun e w' => e = .returned (.tuple #[.string (prtO (dfT T) t), .int .i64 (prtE (dfT T) t)]) ∧ Below w2.heap.size w2 w') := fun a' w2 hb h =>
    print_any (dfT T) t a' w2 h hok (HEn.out w2 hb) (hK.on hb) (fun c hc => dfT_size T c.df (hok.cn c hc).2) (fun c hc w3 hb3 => (text_any T (flT T c.df.f) c.df.k c.df.n c.df.f c.df.s w3 (hok.cn c hc).2.2.1.1 (hok.cn c hc).2.2.1.2 (by have := (hok.cn c hc).2.2.2.2; unfold maxLen; omega) ((hE.on hb).on hb3) (flT_ok T c.df.f (hok.cn c hc).2.2.2.1).2).mono fun e w' h => ⟨_, h.1, h.2⟩)
  have C3 : Hid (∀ w2 : World, Below w.heap.size w w2 → Calls Tryz.prog 6 #[.agg #[.string t.nm, .slice pc t.cs.length cc, .slice pk t.key.length ck, .slice px t.ix.length cx, .slice pr t.rf.length cr]] w2 fun e w' => e = .returned (.tuple #[.string (prtO (dfT T) t), .int .i64 (prtE (dfT T) t)]) ∧ Below w2.heap.size w2 w') := fun w2 hb =>
    rprint_any (dfT T) t ⟨pc, cc, pk, ck, px, cx, pr, cr⟩ w2 (hV.on hb) hok (HEn.out w2 hb) (fun c hc => dfT_size T c.df (hok.cn c hc).2) (fun c hc w3 hb3 => (rtext_any T (flT T c.df.f) c.df.k c.df.n c.df.f c.df.s w3 (hok.cn c hc).2.2.1.1 (hok.cn c hc).2.2.1.2 (by have := (hok.cn c hc).2.2.2.2; unfold maxLen; omega) ((hE.on hb).on hb3) (flT_ok T c.df.f (hok.cn c hc).2.2.2.1).2).mono fun e w' h => ⟨_, h.1, h.2⟩)
  have CW : Hid (∀ w2 : World, Below w.heap.size w w2 → Calls Tryz.prog 7 #[] w2 fun e w' => e = .returned (.bool true) ∧ Below w2.heap.size w2 w') := fun w2 hb => awake3 w2 (HEn.out w2 hb) (hK.kw.on hb)
  clear hV hok hE hK hcl hcl2 HEn
  generalize prtO (dfT T) t = r at *
  generalize prtE (dfT T) t = er at *
  have hr : (r.toList == r.toList) = true := by simp
  unfold TabP.val
  dsimp only
  go_enter Tryz.func3, Tryz.ntmps3
  go_wp2_with fail
  generalize w.alloc (.cells #[.string t.nm, .slice pc t.cs.length cc, .slice pk t.key.length ck, .slice px t.ix.length cx, .slice pr t.rf.length cr] 27) = w1 at *
  refine (C1.out _ hb0).mono ?_
  rintro e w2 ⟨a2, rfl, hV2, hb2⟩
  have HB2 : Hid (BoxT w2 w.heap.size t ⟨pc, cc, pk, ck, px, cx, pr, cr⟩) := HB.out.on hb2 HB.out.hg
  have HBw2 : Hid (Below w.heap.size w w2) := hb0.trans (hb2.mono hb0.size)
  clear hb0 hb2 HB C1
  go_wp2_with fail
  refine (C2.out a2 w2 HBw2.out hV2).mono ?_
  rintro e w3 ⟨rfl, hb3⟩
  have HB3 : Hid (BoxT w3 w.heap.size t ⟨pc, cc, pk, ck, px, cx, pr, cr⟩) := HB2.out.on hb3 HB2.out.hg
  have HBw3 : Hid (Below w.heap.size w w3) := HBw2.out.trans (hb3.mono HBw2.out.size)
  clear hb3 HB2 HBw2 hV2 C2
  have e0 := HB3.out.c0
  have e1 := HB3.out.c1
  have e2 := HB3.out.c2
  have e3 := HB3.out.c3
  have e4 := HB3.out.c4
  dsimp only at e1 e2 e3 e4
  go_wp2_with fail
  refine (C3.out w3 HBw3.out).mono ?_
  rintro e w4 ⟨rfl, hb4⟩
  have HBw4 : Hid (Below w.heap.size w w4) := HBw3.out.trans (hb4.mono HBw3.out.size)
  clear hb4 HB3 HBw3 C3 e0 e1 e2 e3 e4
  go_wp2_with fail
  refine (CW.out w4 HBw4.out).mono ?_
  rintro e w5 ⟨rfl, hb5⟩
  have HE : Hid (Below w.heap.size w w5) := HBw4.out.trans (hb5.mono HBw4.out.size)
  clear hb5 CW
  go_wp2_with fail
  go_ret
  exact ⟨rfl, HE.out⟩

end Go.Proofs.YthbjheiogghjnaaGreatDoor
