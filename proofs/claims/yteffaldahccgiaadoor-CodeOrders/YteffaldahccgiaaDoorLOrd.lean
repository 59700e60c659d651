/- The walk of the statement on the order of keys: it answers true. -/
import Derived.Test.YteffaldahccgiaaDoorWCmpL
namespace Go.Proofs.YteffaldahccgiaaDoor
open Go.RowKit Ieee
set_option maxRecDepth 100000

set_option maxHeartbeats 400000 in
theorem sign_any (a b : ByteArray) (w : World) :
    Calls Tryd.prog 34 #[.string a, .string b] w fun e w' => e = .returned (.int .i64 (Lib.compareBytes a.data.toList b.data.toList)) ∧ w' = w := by
  rw [← cmpS_eq]
  unfold cmpS
  cases h1 : Op.bytesLess a.toList b.toList <;> cases h2 : (a.toList == b.toList)
  all_goals
    go_enter Tryd.func34, Tryd.ntmps34
    go_wp2
  all_goals go_ret
  all_goals simp

set_option maxHeartbeats 2000000 in
theorem lawOrders (A C : List Vl) (p q : Option Addr) (c d : Nat) (w : World) (hA : RowV w w.heap.size p A) (hC : RowV w w.heap.size q C) (oA : ∀ v ∈ A, v.ok) (oC : ∀ v ∈ C, v.ok) (lA : A.length ≤ 3518437208784) (lC : C.length ≤ 3518437208784) (hg : 2 < w.heap.size) (hT : Lib.Utf8Tabs 1 2 w) :
    Calls Tryd.prog 8 #[.slice p A.length c, .slice q C.length d] w fun e w' => e = .returned (.bool true) ∧ Below w.heap.size w w' := by
  have C1 : Hid (∀ w1 : World, Below w.heap.size w w1 → Calls _ _ _ _ _) := fun w1 hb => encode_any A p c w1 ((hA.keep hb).mono hb.size) oA lA (by have := hb.size; omega) (tabs_keep hb hg hT)
  have C2 : Hid (∀ w1 : World, Below w.heap.size w w1 → Calls _ _ _ _ _) := fun w1 hb => encode_any C q d w1 ((hC.keep hb).mono hb.size) oC lC (by have := hb.size; omega) (tabs_keep hb hg hT)
  have C3 : Hid (∀ w1 : World, Below w.heap.size w w1 → Calls _ _ _ _ _) := fun w1 hb => awake_any w1 (by have := hb.size; omega) (tabs_keep hb hg hT)
  have C4 : Hid (∀ w1 : World, Below w.heap.size w w1 → Calls _ _ _ _ _) := fun w1 hb => rcmp_any A C p q c d w1 ((hA.keep hb).mono hb.size) ((hC.keep hb).mono hb.size) oA oC lA lC
  have HO : Hid ((encS A).2 = 0 → (encS C).2 = 0 → Lib.compareBytes (encS A).1 (encS C).1 = cmpL A C) := fun h1 h2 => by
    obtain ⟨e1, f1⟩ := encS_ok h1 oA
    obtain ⟨e2, f2⟩ := encS_ok h2 oC
    rw [e1, e2]
    exact enc_order A C f1 f2
  generalize (encS A).1 = r1 at *
  generalize (encS A).2 = r2 at *
  generalize (encS C).1 = s1 at *
  generalize (encS C).2 = s2 at *
  generalize cmpL A C = cm at *
  generalize A.length = n at *
  generalize C.length = m at *
  clear hA hC oA oC hT
  by_cases h1 : r2 = 0
  · subst h1
    by_cases h2 : s2 = 0
    · subst h2
      have HO2 : Hid (Lib.compareBytes r1 s1 = cm) := HO.out rfl rfl
      clear HO
      go_enter Tryd.func8, Tryd.ntmps8
      go_wp2_with (first | (go_at_call_of 9 p; refine (C1.out _ (Below.refl _ _)).mono ?_; rintro e w1 ⟨rfl, hb1⟩) | (go_at_call_of 9 q; refine (C2.out _ hb1).mono ?_; rintro e w2 ⟨rfl, hb2⟩; have hb12 := hb1.trans (hb2.mono hb1.size)) | (go_at_call 34; refine (sign_any _ _ _).mono ?_; rintro e w' ⟨rfl, hww⟩; obtain rfl := hww.symm) | (go_at_call 35; refine (C4.out _ hb12).mono ?_; rintro e w3 ⟨rfl, hb3⟩; have hb13 := hb12.trans (hb3.mono hb12.size)) | (go_at_call 11; refine (C3.out _ hb13).mono ?_; rintro e w4 ⟨rfl, hb4⟩; have hb14 := hb13.trans (hb4.mono hb13.size)))
      go_ret
      exact ⟨rfl, hb14⟩
    · have hne : (s2 != 0) = true := bneT h2
      clear HO h2
      go_enter Tryd.func8, Tryd.ntmps8
      go_wp2_with (first | (go_at_call_of 9 p; refine (C1.out _ (Below.refl _ _)).mono ?_; rintro e w1 ⟨rfl, hb1⟩) | (go_at_call_of 9 q; refine (C2.out _ hb1).mono ?_; rintro e w2 ⟨rfl, hb2⟩; have hb12 := hb1.trans (hb2.mono hb1.size)) | (go_at_call 11; refine (C3.out _ hb12).mono ?_; rintro e w4 ⟨rfl, hb4⟩; have hb14 := hb12.trans (hb4.mono hb12.size)))
      go_ret
      exact ⟨rfl, hb14⟩
  · have hne : (r2 != 0) = true := bneT h1
    clear HO h1
    go_enter Tryd.func8, Tryd.ntmps8
    go_wp2_with (first | (go_at_call_of 9 p; refine (C1.out _ (Below.refl _ _)).mono ?_; rintro e w1 ⟨rfl, hb1⟩) | (go_at_call_of 9 q; refine (C2.out _ hb1).mono ?_; rintro e w2 ⟨rfl, hb2⟩; have hb12 := hb1.trans (hb2.mono hb1.size)) | (go_at_call 11; refine (C3.out _ hb12).mono ?_; rintro e w4 ⟨rfl, hb4⟩; have hb14 := hb12.trans (hb4.mono hb12.size)))
    go_ret
    exact ⟨rfl, hb14⟩
end Go.Proofs.YteffaldahccgiaaDoor
