/- RowApplies: the law's walk. -/
import Derived.Test.YtinlgaefgedmcaaGreatDoorGMApl2
import Derived.Test.YtinlgaefgedmcaaGreatDoorGMApl3
import Derived.Test.YtinlgaefgedmcaaGreatDoorGWSameR
namespace Go.Proofs.YtinlgaefgedmcaaGreatDoor
open Go.RowKit
set_option maxRecDepth 100000

theorem sameL_own : ∀ L : List Vl, sameL L L = true
  | [] => rfl
  | a :: x => by
    show (sameV a a && sameL x x) = true
    rw [sameL_own x]
    simp [sameV, sameB]
theorem applyA_len2 (cs : List Cl) (l : List Vl) : ∀ (f : Nat) (acc : List Vl) (next : Nat) (s : ByteArray) (M : List Vl), applyA cs l f acc next s = some M → M.length = acc.length
  | 0, acc, next, s, M, h => by
    unfold applyA at h
    split at h
    · injection h with h; rw [h]
    · cases h
  | f + 1, acc, next, s, M, h => by
    unfold applyA at h
    split at h
    · injection h with h; rw [h]
    · split at h
      · cases h
      · split at h
        · cases h
        · have := applyA_len2 cs l f _ _ _ M h
          rw [this, List.length_set]
theorem appR_len2 {t : Tb} {l M : List Vl} {s : ByteArray} (h : (appR t l s).1 = some M) : M.length ≤ 64 := by
  unfold appR at h
  split at h
  · rename_i ha
    split at h
    · split at h
      · cases h
      · rename_i m hm
        injection h with h
        subst h
        rw [applyA_len2 _ _ _ _ _ _ _ hm]
        have := admS_cols ha
        omega
    · cases h
  · cases h
/-- what Apply ended with, as a row that is read -/
theorem AppP.row {r : Option (List Vl) × Int} {w w' : World} {e : Ending} (h : AppP r w e w') (hl : ∀ L, r.1 = some L → L.length ≤ 64) : ∃ (L : List Vl) (p : Option Addr) (c : Nat), e = .returned (.tuple #[.slice p L.length c, .int .i64 r.2]) ∧ RowV w' w'.heap.size p L ∧ L.length ≤ 64 ∧ L = r.1.getD [] ∧ Below w.heap.size w w' := by
  obtain ⟨⟨v, he, hv⟩, hb⟩ := h
  rcases hv with ⟨L, h1, h2⟩ | ⟨h1, rfl⟩
  · obtain ⟨p, c, rfl, hr⟩ := h2.row
    exact ⟨L, p, c, he, hr, hl L h1, by rw [h1]; rfl, hb⟩
  · exact ⟨[], none, 0, he, fun i hi => absurd hi (Nat.not_lt_zero _), Nat.zero_le _, by rw [h1]; rfl, hb⟩

set_option maxHeartbeats 4000000 in
theorem lawRApp (t : Tb) (a : TabP) (l : List Vl) (p : Option Addr) (cl : Nat) (s : ByteArray) (w : World) (hV : TabV w w.heap.size t a) (hok : t.ok) (hR : RowV w w.heap.size p l) (hvo : ∀ v ∈ l, v.ok) (hll : l.length ≤ 3518437208784) (hs : s.size ≤ 140737488351232) (hE : Env w) :
    Calls Tryz.prog 3 #[a.val t, .slice p l.length cl, .string s] w fun e w' => e = .returned (.bool true) ∧ Below w.heap.size w w' := by
  obtain ⟨pc, cc, pk, ck, px, cx, pr, cr⟩ := a
  have hb0 : Below w.heap.size w (w.alloc (.cells #[.string t.nm, .slice pc t.cs.length cc, .slice pk t.key.length ck, .slice px t.ix.length cx, .slice pr t.rf.length cr] 27)) := by go_grown
  have HB : Hid (BoxT _ _ _ _) := BoxT.new w t ⟨pc, cc, pk, ck, px, cx, pr, cr⟩
  have CA : Hid (∀ (w2 : World), Below w.heap.size w w2 → Calls Tryz.prog 4 #[.agg #[.string t.nm, .slice pc t.cs.length cc, .slice pk t.key.length ck, .slice px t.ix.length cx, .slice pr t.rf.length cr], .slice p l.length cl, .string s] w2 (AppP (appR t l s) w2)) := fun w2 hb => apply_any t ⟨pc, cc, pk, ck, px, cx, pr, cr⟩ l p cl s w2 (hV.on hb) hok ((hR.keep hb).mono hb.size) hvo (by omega) hs (hE.on hb)
  have CB : Hid (∀ (w2 : World), Below w.heap.size w w2 → Calls Tryz.prog 5 #[.agg #[.string t.nm, .slice pc t.cs.length cc, .slice pk t.key.length ck, .slice px t.ix.length cx, .slice pr t.rf.length cr], .slice p l.length cl, .string s] w2 (AppP (appR t l s) w2)) := fun w2 hb => by
    rw [app_eq]
    exact rapply_any t ⟨pc, cc, pk, ck, px, cx, pr, cr⟩ l p cl s w2 (hV.on hb) hok ((hR.keep hb).mono hb.size) hvo hll hs (hE.on hb)
  have CK : Hid (∀ w2 : World, Below w.heap.size w w2 → Calls Tryz.prog 7 #[] w2 fun e w' => e = .returned (.bool true) ∧ Below w2.heap.size w2 w') := fun w2 hb => awake4 w2 (hE.on hb)
  have HLn : Hid (∀ L, (appR t l s).1 = some L → L.length ≤ 64) := fun L h => appR_len2 h
  clear hV hok hE hR hvo
  generalize appR t l s = r at *
  unfold TabP.val
  dsimp only
  go_enter Tryz.func3, Tryz.ntmps3
  go_wp2_with fail
  refine (CA.out _ hb0).mono ?_
  rintro e w1 h1
  obtain ⟨A, pa, ca, rfl, hra, hla, hAr, hb1⟩ := h1.row HLn.out
  have HB1 : Hid (Below w.heap.size w w1) := hb0.trans (hb1.mono (by simp))
  have HX1 := HB.out.on hb1 HB.out.hg
  obtain ⟨_, e0, e1, e2, e3, e4⟩ := HX1
  dsimp only at e0 e1 e2 e3 e4
  have HAr : Hid (A = r.1.getD []) := hAr
  clear h1 hb1 HB hb0 hAr
  go_wp2_with fail
  refine (CB.out _ HB1.out).mono ?_
  rintro e w2 h2
  obtain ⟨C, pb, cb, rfl, hrb, hlb, hCr, hb2⟩ := h2.row HLn.out
  have HB2 : Hid (Below w.heap.size w w2) := HB1.out.trans (hb2.mono HB1.out.size)
  have hAC : C = A := hCr.trans HAr.out.symm
  have CQ : Hid (Calls Tryz.prog 6 #[.slice pa A.length ca, .slice pb C.length cb] w2 fun e w' => e = .returned (.bool true) ∧ Below w2.heap.size w2 w') := by
    have := rsameRow_any A C pa pb ca cb w2 ((hra.keep hb2).mono hb2.size) hrb (by omega) (by omega)
    rw [hAC, sameL_own] at this
    rw [hAC]
    exact this
  clear h2 hb2 e0 e1 e2 e3 e4 HAr hCr hAC hra hrb CA CB HLn hla hlb
  generalize A.length = la at *
  generalize C.length = lc at *
  go_wp2_with fail
  refine CQ.out.mono ?_
  rintro e w3 ⟨rfl, hb3⟩
  have HB3 : Hid (Below w.heap.size w w3) := HB2.out.trans (hb3.mono HB2.out.size)
  clear hb3 CQ
  go_wp2_with fail
  refine (CK.out _ HB3.out).mono ?_
  rintro e w4 ⟨rfl, hb4⟩
  have HB4 : Hid (Below w.heap.size w w4) := HB3.out.trans (hb4.mono HB3.out.size)
  clear hb4
  go_wp2_with fail
  go_ret
  exact ⟨rfl, HB4.out⟩

end Go.Proofs.YtinlgaefgedmcaaGreatDoor
