/- The walk of the statement on ranges of keys: it answers true. -/
import Derived.Test.YteffaldahccgiaaDoorWRan2
import Derived.Test.YteffaldahccgiaaDoorWRef4
import Derived.Test.YteffaldahccgiaaDoorWEqR
namespace Go.Proofs.YteffaldahccgiaaDoor
open Go.RowKit Ieee
set_option maxRecDepth 100000

theorem encS_size (L : List Vl) : (encS L).1.length ≤ 1024 := by
  unfold encS
  split
  · split
    · rename_i h; exact h
    · simp
  · simp

set_option maxHeartbeats 4000000 in
theorem lawRanges (L : List Vl) (p : Option Addr) (c : Nat) (x : Bool) (w : World) (hR : RowV w w.heap.size p L) (hok : ∀ v ∈ L, v.ok) (hlen : L.length ≤ 3518437208784) (hg : 2 < w.heap.size) (hT : Lib.Utf8Tabs 1 2 w) :
    Calls Tryd.prog 5 #[.slice p L.length c, .bool x] w fun e w' => e = .returned (.bool true) ∧ Below w.heap.size w w' := by
  have E1 : EncC 9 w (.slice p L.length c) ⟨(encS L).1.toArray⟩ (encS L).2 := fun w1 hb => encode_any L p c w1 ((hR.keep hb).mono hb.size) hok hlen (by have := hb.size; omega) (tabs_keep hb hg hT)
  have E2 : EncC 10 w (.slice p L.length c) ⟨(encS L).1.toArray⟩ (encS L).2 := fun w1 hb => rencode_any L p c w1 ((hR.keep hb).mono hb.size) hok hlen (by have := hb.size; omega) (tabs_keep hb hg hT)
  have hk : (ByteArray.mk (encS L).1.toArray).size ≤ 1024 := encS_size L
  have C1 : Hid (∀ w1 : World, Below w.heap.size w w1 → Calls _ _ _ _ _) := fun w1 hb => begins_any _ _ hk _ w1 (encC_keep E1 hb)
  have C2 : Hid (∀ w1 : World, Below w.heap.size w w1 → Calls _ _ _ _ _) := fun w1 hb => rbegins_any _ _ hk _ w1 (encC_keep E2 hb)
  have C3 : Hid (∀ w1 : World, Below w.heap.size w w1 → Calls _ _ _ _ _) := fun w1 hb => from_any _ _ hk _ x w1 (encC_keep E1 hb)
  have C4 : Hid (∀ w1 : World, Below w.heap.size w w1 → Calls _ _ _ _ _) := fun w1 hb => rfrom_any _ _ hk _ x w1 (encC_keep E2 hb)
  have C5 : Hid (∀ w1 : World, Below w.heap.size w w1 → Calls _ _ _ _ _) := fun w1 hb => to_any _ _ hk _ x w1 (encC_keep E1 hb)
  have C6 : Hid (∀ w1 : World, Below w.heap.size w w1 → Calls _ _ _ _ _) := fun w1 hb => rto_any _ _ hk _ x w1 (encC_keep E2 hb)
  have C7 : Hid (∀ w1 : World, Below w.heap.size w w1 → Calls _ _ _ _ _) := fun w1 hb => awake_any w1 (by have := hb.size; omega) (tabs_keep hb hg hT)
  generalize ByteArray.mk (encS L).1.toArray = k at *
  generalize (encS L).2 = er at *
  obtain ⟨b1, b2, b3, hb0⟩ : ∃ l h o, begV k er = rngV l h o := by unfold begV; split <;> exact ⟨_, _, _, rfl⟩
  obtain ⟨f1, f2, f3, hf0⟩ : ∃ l h o, fromV k er x = rngV l h o := by unfold fromV; split <;> exact ⟨_, _, _, rfl⟩
  obtain ⟨t1, t2, t3, ht0⟩ : ∃ l h o, toV k er x = rngV l h o := by unfold toV; split <;> exact ⟨_, _, _, rfl⟩
  rw [hb0] at C1 C2
  rw [hf0] at C3 C4
  rw [ht0] at C5 C6
  generalize L.length = n at *
  clear hR hok hT E1 E2 hb0 hf0 ht0 hk
  go_enter Tryd.func5, Tryd.ntmps5
  have hq := run_eqR
  have hqg := run_eqG
  have hqs := eqR_self
  go_wp2_with fail
  refine (C1.out _ (Below.refl _ _)).mono ?_
  rintro e w1 ⟨rfl, hb1⟩
  have B1 : Hid (Below w.heap.size w _) := hb1.alloc hb1.size (.cells #[.string b1, .string b2, .bool b3] 33)
  have G1 : Hid (BoxR _ w1.heap.size b1 b2 b3) := BoxR.new w1 b1 b2 b3
  clear hb1
  go_wp2_with fail
  refine (C2.out _ B1.out).mono ?_
  rintro e w2 ⟨rfl, hb2⟩
  have hc2 : Below w.heap.size w w2 := B1.out.trans (hb2.mono B1.out.size)
  have B2 : Hid (Below w.heap.size w _) := hc2.alloc hc2.size (.cells #[.string b1, .string b2, .bool b3] 33)
  have K1 : Hid (BoxR w2 w1.heap.size b1 b2 b3) := G1.out.keep hb2
  have G1 : Hid (BoxR _ w1.heap.size b1 b2 b3) := K1.out.alloc (.cells #[.string b1, .string b2, .bool b3] 33)
  have G2 : Hid (BoxR _ w2.heap.size b1 b2 b3) := BoxR.new w2 b1 b2 b3
  clear hb2 hc2
  go_wp2_with fail
  refine (C3.out _ B2.out).mono ?_
  rintro e w3 ⟨rfl, hb3⟩
  have hc3 : Below w.heap.size w w3 := B2.out.trans (hb3.mono B2.out.size)
  have B3 : Hid (Below w.heap.size w _) := hc3.alloc hc3.size (.cells #[.string f1, .string f2, .bool f3] 33)
  have K1 : Hid (BoxR w3 w1.heap.size b1 b2 b3) := G1.out.keep hb3
  have G1 : Hid (BoxR _ w1.heap.size b1 b2 b3) := K1.out.alloc (.cells #[.string f1, .string f2, .bool f3] 33)
  have K2 : Hid (BoxR w3 w2.heap.size b1 b2 b3) := G2.out.keep hb3
  have G2 : Hid (BoxR _ w2.heap.size b1 b2 b3) := K2.out.alloc (.cells #[.string f1, .string f2, .bool f3] 33)
  have G3 : Hid (BoxR _ w3.heap.size f1 f2 f3) := BoxR.new w3 f1 f2 f3
  clear hb3 hc3
  go_wp2_with fail
  refine (C4.out _ B3.out).mono ?_
  rintro e w4 ⟨rfl, hb4⟩
  have hc4 : Below w.heap.size w w4 := B3.out.trans (hb4.mono B3.out.size)
  have B4 : Hid (Below w.heap.size w _) := hc4.alloc hc4.size (.cells #[.string f1, .string f2, .bool f3] 33)
  have K1 : Hid (BoxR w4 w1.heap.size b1 b2 b3) := G1.out.keep hb4
  have G1 : Hid (BoxR _ w1.heap.size b1 b2 b3) := K1.out.alloc (.cells #[.string f1, .string f2, .bool f3] 33)
  have K2 : Hid (BoxR w4 w2.heap.size b1 b2 b3) := G2.out.keep hb4
  have G2 : Hid (BoxR _ w2.heap.size b1 b2 b3) := K2.out.alloc (.cells #[.string f1, .string f2, .bool f3] 33)
  have K3 : Hid (BoxR w4 w3.heap.size f1 f2 f3) := G3.out.keep hb4
  have G3 : Hid (BoxR _ w3.heap.size f1 f2 f3) := K3.out.alloc (.cells #[.string f1, .string f2, .bool f3] 33)
  have G4 : Hid (BoxR _ w4.heap.size f1 f2 f3) := BoxR.new w4 f1 f2 f3
  clear hb4 hc4
  go_wp2_with fail
  refine (C5.out _ B4.out).mono ?_
  rintro e w5 ⟨rfl, hb5⟩
  have hc5 : Below w.heap.size w w5 := B4.out.trans (hb5.mono B4.out.size)
  have B5 : Hid (Below w.heap.size w _) := hc5.alloc hc5.size (.cells #[.string t1, .string t2, .bool t3] 33)
  have K1 : Hid (BoxR w5 w1.heap.size b1 b2 b3) := G1.out.keep hb5
  have G1 : Hid (BoxR _ w1.heap.size b1 b2 b3) := K1.out.alloc (.cells #[.string t1, .string t2, .bool t3] 33)
  have K2 : Hid (BoxR w5 w2.heap.size b1 b2 b3) := G2.out.keep hb5
  have G2 : Hid (BoxR _ w2.heap.size b1 b2 b3) := K2.out.alloc (.cells #[.string t1, .string t2, .bool t3] 33)
  have K3 : Hid (BoxR w5 w3.heap.size f1 f2 f3) := G3.out.keep hb5
  have G3 : Hid (BoxR _ w3.heap.size f1 f2 f3) := K3.out.alloc (.cells #[.string t1, .string t2, .bool t3] 33)
  have K4 : Hid (BoxR w5 w4.heap.size f1 f2 f3) := G4.out.keep hb5
  have G4 : Hid (BoxR _ w4.heap.size f1 f2 f3) := K4.out.alloc (.cells #[.string t1, .string t2, .bool t3] 33)
  have G5 : Hid (BoxR _ w5.heap.size t1 t2 t3) := BoxR.new w5 t1 t2 t3
  clear hb5 hc5
  go_wp2_with fail
  refine (C6.out _ B5.out).mono ?_
  rintro e w6 ⟨rfl, hb6⟩
  have hc6 : Below w.heap.size w w6 := B5.out.trans (hb6.mono B5.out.size)
  have B6 : Hid (Below w.heap.size w _) := hc6.alloc hc6.size (.cells #[.string t1, .string t2, .bool t3] 33)
  have K1 : Hid (BoxR w6 w1.heap.size b1 b2 b3) := G1.out.keep hb6
  have G1 : Hid (BoxR _ w1.heap.size b1 b2 b3) := K1.out.alloc (.cells #[.string t1, .string t2, .bool t3] 33)
  have K2 : Hid (BoxR w6 w2.heap.size b1 b2 b3) := G2.out.keep hb6
  have G2 : Hid (BoxR _ w2.heap.size b1 b2 b3) := K2.out.alloc (.cells #[.string t1, .string t2, .bool t3] 33)
  have K3 : Hid (BoxR w6 w3.heap.size f1 f2 f3) := G3.out.keep hb6
  have G3 : Hid (BoxR _ w3.heap.size f1 f2 f3) := K3.out.alloc (.cells #[.string t1, .string t2, .bool t3] 33)
  have K4 : Hid (BoxR w6 w4.heap.size f1 f2 f3) := G4.out.keep hb6
  have G4 : Hid (BoxR _ w4.heap.size f1 f2 f3) := K4.out.alloc (.cells #[.string t1, .string t2, .bool t3] 33)
  have K5 : Hid (BoxR w6 w5.heap.size t1 t2 t3) := G5.out.keep hb6
  have G5 : Hid (BoxR _ w5.heap.size t1 t2 t3) := K5.out.alloc (.cells #[.string t1, .string t2, .bool t3] 33)
  have G6 : Hid (BoxR _ w6.heap.size t1 t2 t3) := BoxR.new w6 t1 t2 t3
  clear hb6 hc6
  obtain ⟨s1, x10, x11, x12⟩ := K1.out
  obtain ⟨-, y10, y11, y12⟩ := G1.out
  obtain ⟨s2, x20, x21, x22⟩ := K2.out
  obtain ⟨-, y20, y21, y22⟩ := G2.out
  obtain ⟨s3, x30, x31, x32⟩ := K3.out
  obtain ⟨-, y30, y31, y32⟩ := G3.out
  obtain ⟨s4, x40, x41, x42⟩ := K4.out
  obtain ⟨-, y40, y41, y42⟩ := G4.out
  obtain ⟨s5, x50, x51, x52⟩ := K5.out
  obtain ⟨-, y50, y51, y52⟩ := G5.out
  go_wp2_with (first | (go_at_call 11; refine (C7.out _ B6.out).mono ?_; rintro e w7 ⟨rfl, hb7⟩))
  go_ret
  exact ⟨rfl, B6.out.trans (hb7.mono B6.out.size)⟩
end Go.Proofs.YteffaldahccgiaaDoor
