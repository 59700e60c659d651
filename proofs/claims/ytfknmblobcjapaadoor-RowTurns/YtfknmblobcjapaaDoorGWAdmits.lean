/- The walks of Admits, on both sides. -/
import Derived.Test.YtfknmblobcjapaaDoorGWOwnV
namespace Go.Proofs.YtfknmblobcjapaaDoor
open Go.RowKit
set_option maxRecDepth 100000

/-- why a row may not be one of a table -/
def admS (t : Tb) (l : List Vl) : Int := if checkS t = 0 then (if l.length = t.cs.length then firstE (admsE t.cs l) t.cs.length else 1) else checkS t
theorem checkS_counts (t : Tb) (h : checkS t = 0) : 1 ≤ t.cs.length ∧ t.cs.length ≤ 64 := by
  by_cases h1 : nameB t.nm.data.toList = true
  · by_cases h2 : countsB t = true
    · unfold countsB at h2
      simp only [Bool.and_eq_true, decide_eq_true_eq] at h2
      omega
    · unfold checkS at h
      rw [if_pos h1, if_neg h2] at h
      omega
  · unfold checkS at h
    rw [if_neg h1] at h
    omega

set_option maxHeartbeats 4000000 in
theorem admits_any (t : Tb) (a : TabP) (l : List Vl) (p : Option Addr) (cl : Nat) (w : World) (hV : TabV w w.heap.size t a) (hok : t.ok) (hR : RowV w w.heap.size p l) (hvo : ∀ v ∈ l, v.ok) (_hll : l.length ≤ 17592186043904) (hE : Env w) :
    Calls Tryd.prog 8 #[a.val t, .slice p l.length cl] w fun e w' => e = .returned (.int .i64 (admS t l)) ∧ Below w.heap.size w w' := by
  obtain ⟨pc, cc, pk, ck, px, cx, pr, cr⟩ := a
  have CC : Hid (∀ w1, Below w.heap.size w w1 → Calls Tryd.prog 18 #[.agg #[.string t.nm, .slice pc t.cs.length cc, .slice pk t.key.length ck, .slice px t.ix.length cx, .slice pr t.rf.length cr]] w1 fun e w' => e = .returned (.int .i64 (checkS t)) ∧ Below w1.heap.size w1 w') := fun w1 hb => check_anyT t ⟨pc, cc, pk, ck, px, cx, pr, cr⟩ w1 (hV.on hb) hok (hE.on hb)
  have CA : Hid (l.length = t.cs.length → t.cs.length ≤ 64 → ∀ w1, Below w.heap.size w w1 → Calls Tryd.prog 19 #[.agg #[.string t.nm, .slice pc t.cs.length cc, .slice pk t.key.length ck, .slice px t.ix.length cx, .slice pr t.rf.length cr], .slice p l.length cl] w1 fun e w' => e = .returned (.int .i64 (firstE (admsE t.cs l) t.cs.length)) ∧ Below w1.heap.size w1 w') := fun h1 h2 w1 hb => admVs_any t ⟨pc, cc, pk, ck, px, cx, pr, cr⟩ l p cl w1 (hV.on hb) ((hR.keep hb).mono hb.size) h1 h2 hvo (hE.on hb)
  have HB : Hid (BoxT _ _ _ _) := BoxT.new w t ⟨pc, cc, pk, ck, px, cx, pr, cr⟩
  have hb0 : Below w.heap.size w (w.alloc (.cells #[.string t.nm, .slice pc t.cs.length cc, .slice pk t.key.length ck, .slice px t.ix.length cx, .slice pr t.rf.length cr] 27)) := by go_grown
  have HF : Hid (admS t l = if checkS t = 0 then (if l.length = t.cs.length then firstE (admsE t.cs l) t.cs.length else 1) else checkS t) := rfl
  have HCN : Hid (checkS t = 0 → 1 ≤ t.cs.length ∧ t.cs.length ≤ 64) := checkS_counts t
  have hcl := hok.cs
  clear hV hok hR hvo hE
  generalize admS t l = d at *
  unfold TabP.val
  dsimp only
  by_cases hch : checkS t = 0
  · have hcn := HCN.out hch
    rw [hch] at CC HF
    rw [if_pos rfl] at HF
    clear hch HCN
    go_enter Tryd.func8, Tryd.ntmps8
    go_wp2_with fail
    refine (CC.out _ hb0).mono ?_
    rintro e w1 ⟨rfl, hb1⟩
    have h01 : Below w.heap.size w w1 := hb0.trans (hb1.mono hb0.size)
    have HB1 : Hid (BoxT w1 w.heap.size t ⟨pc, cc, pk, ck, px, cx, pr, cr⟩) := HB.out.on hb1 (by simp)
    obtain ⟨hz1, e0, e1, e2, e3, e4⟩ := HB1.out
    dsimp only at e0 e1 e2 e3 e4
    clear CC hb1 hb0 HB
    by_cases hl : l.length = t.cs.length
    · rw [if_pos hl] at HF
      have hl' : ((l.length : Int) != (t.cs.length : Int)) = false := by rw [hl]; simp
      have CA2 : Hid (∀ w1, Below w.heap.size w w1 → Calls Tryd.prog 19 #[.agg #[.string t.nm, .slice pc t.cs.length cc, .slice pk t.key.length ck, .slice px t.ix.length cx, .slice pr t.rf.length cr], .slice p l.length cl] w1 fun e w' => e = .returned (.int .i64 (firstE (admsE t.cs l) t.cs.length)) ∧ Below w1.heap.size w1 w') := CA.out hl hcn.2
      clear hl CA
      go_wp2_with fail
      refine (CA2.out _ h01).mono ?_
      rintro e w2 ⟨rfl, hb2⟩
      go_wp2
      go_ret
      exact ⟨errV HF.out.symm, h01.trans (hb2.mono h01.size)⟩
    · rw [if_neg hl] at HF
      have hl' : ((l.length : Int) != (t.cs.length : Int)) = true := by simp; omega
      clear hl CA
      go_wp2
      go_ret
      exact ⟨errV HF.out.symm, h01⟩
  · rw [if_neg hch] at HF
    generalize checkS t = ch at *
    go_enter Tryd.func8, Tryd.ntmps8
    go_wp2_with fail
    refine (CC.out _ hb0).mono ?_
    rintro e w1 ⟨rfl, hb1⟩
    go_wp2
    go_ret
    exact ⟨errV HF.out.symm, hb0.trans (hb1.mono hb0.size)⟩



end Go.Proofs.YtfknmblobcjapaaDoor
