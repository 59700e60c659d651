/- The walk of the statement on rows there and back: it answers true. -/
import Derived.Test.YtgnedioggpgeeaaDoorGMInv4
import Derived.Test.YtgnedioggpgeeaaDoorGLRDec
namespace Go.Proofs.YtgnedioggpgeeaaDoor
open Go.RowKit
set_option maxRecDepth 100000

set_option maxHeartbeats 4000000 in
theorem lawRBack (t : Tb) (a : TabP) (l : List Vl) (p : Option Addr) (cl : Nat) (s : ByteArray) (w : World) (hV : TabV w w.heap.size t a) (hok : t.ok) (hR : RowV w w.heap.size p l) (hvo : ∀ v ∈ l, v.ok) (hll : l.length ≤ 3518437208784) (hs : s.size ≤ 140737488351232) (hE : Env w) :
    Calls Tryd.prog 6 #[a.val t, .slice p l.length cl, .string s] w fun e w' => e = .returned (.bool true) ∧ Below w.heap.size w w' := by
  obtain ⟨pc, cc, pk, ck, px, cx, pr, cr⟩ := a
  have hb0 : Below w.heap.size w (w.alloc (.cells #[.string t.nm, .slice pc t.cs.length cc, .slice pk t.key.length ck, .slice px t.ix.length cx, .slice pr t.rf.length cr] 27)) := by go_grown
  have HB : Hid (BoxT _ _ _ _) := BoxT.new w t ⟨pc, cc, pk, ck, px, cx, pr, cr⟩
  have CE : Hid (∀ (l : List Vl) (p : Option Addr) (cl : Nat) (w2 : World), Below w.heap.size w w2 → RowV w2 w2.heap.size p l → (∀ v ∈ l, v.ok) → l.length ≤ 17592186043904 → Calls Tryd.prog 7 #[.agg #[.string t.nm, .slice pc t.cs.length cc, .slice pk t.key.length ck, .slice px t.ix.length cx, .slice pr t.rf.length cr], .slice p l.length cl] w2 fun e w' => e = .returned (.tuple #[.string ⟨(encR t l).1.toArray⟩, .int .i64 (encR t l).2]) ∧ Below w2.heap.size w2 w') := fun l p cl w2 hb h1 h2 h3 => rowEncode_any t ⟨pc, cc, pk, ck, px, cx, pr, cr⟩ l p cl w2 (hV.on hb) hok h1 h2 h3 (hE.on hb)
  have CD : Hid (∀ (x : ByteArray) (w2 : World), Below w.heap.size w w2 → x.size ≤ 140737488351232 → Calls Tryd.prog 10 #[.agg #[.string t.nm, .slice pc t.cs.length cc, .slice pk t.key.length ck, .slice px t.ix.length cx, .slice pr t.rf.length cr], .string x] w2 (DcP (decR t x) w2)) := fun x w2 hb hx => decode_any t ⟨pc, cc, pk, ck, px, cx, pr, cr⟩ x w2 (hV.on hb) hok hx (hE.on hb)
  have CW : Hid (∀ w2 : World, Below w.heap.size w w2 → Calls Tryd.prog 9 #[] w2 fun e w' => e = .returned (.bool true) ∧ Below w2.heap.size w2 w') := fun w2 hb => awake4 w2 (hE.on hb)
  have HDE : Hid (∀ bs, encR t l = (bs, 0) → decR t ⟨bs.toArray⟩ = (l, 0)) := fun bs h => dec_enc hvo h
  have HED : Hid (∀ L, decR t s = (L, 0) → encR t L = (s.data.toList, 0)) := fun L h => enc_dec h
  have HN : Hid (∀ L e, decR t s = (L, e) → e ≠ 0 → L = []) := fun L e h => decR_none h
  have HL : Hid ((decR t s).1.length ≤ 64 ∧ ∀ v ∈ (decR t s).1, v.ok) := ⟨decR_len t s, decR_ok⟩
  have HSz : Hid (∀ bs, encR t l = (bs, 0) → bs.length ≤ 65536) := fun bs h => by
    unfold encR at h
    by_cases ha : admS t l = 0
    · rw [if_pos ha] at h
      by_cases hz : (rowB l).length ≤ 65536
      · rw [if_pos hz] at h
        injection h with h _
        rw [← h]
        exact hz
      · rw [if_neg hz] at h
        injection h with _ h
        omega
    · rw [if_neg ha] at h
      injection h with _ h
      exact absurd h ha
  have HR : Hid (RowV w w.heap.size p l ∧ ∀ v ∈ l, v.ok) := ⟨hR, hvo⟩
  have hl2 : l.length ≤ 17592186043904 := by omega
  have C1 : Hid (∀ w2 : World, Below w.heap.size w w2 → Calls _ _ _ _ _) := fun w2 hb => CE.out l p cl w2 hb ((HR.out.1.keep hb).mono hb.size) HR.out.2 hl2
  clear hV hok hE hR hvo
  -- the second half: what stands behind the first test
  unfold TabP.val
  dsimp only
  obtain ⟨bs, er, hen⟩ : ∃ bs er, encR t l = (bs, er) := ⟨_, _, rfl⟩
  rw [hen] at C1 HDE HSz
  dsimp only at C1
  obtain ⟨L, ed, hde⟩ : ∃ L ed, decR t s = (L, ed) := ⟨_, _, rfl⟩
  rw [hde] at HED HN HL
  have CD2 : Hid (∀ w2 : World, Below w.heap.size w w2 → Calls _ _ _ _ _) := fun w2 hb => CD.out s w2 hb hs
  rw [hde] at CD2
  dsimp only at HL
  clear hen hde
  by_cases hee : er = 0
  · subst hee
    have hdd := HDE.out bs rfl
    have hsz := HSz.out bs rfl
    have hsb : ByteArray.size ⟨bs.toArray⟩ = bs.length := by
      show bs.toArray.size = _
      simp
    have CD1 : Hid (∀ w2 : World, Below w.heap.size w w2 → Calls _ _ _ _ _) := fun w2 hb => CD.out ⟨bs.toArray⟩ w2 hb (by rw [hsb]; omega)
    rw [hdd] at CD1
    generalize (⟨bs.toArray⟩ : ByteArray) = bb at *
    clear hdd hsz hsb HDE HSz
    go_enter Tryd.func6, Tryd.ntmps6
    go_wp2_with fail
    refine (C1.out _ hb0).mono ?_
    rintro e w1 ⟨rfl, hb1⟩
    have h01 : Below w.heap.size w w1 := hb0.trans (hb1.mono hb0.size)
    have HB1 : Hid (BoxT w1 w.heap.size t ⟨pc, cc, pk, ck, px, cx, pr, cr⟩) := HB.out.on hb1 (by simp)
    obtain ⟨hz1, e0, e1, e2, e3, e4⟩ := HB1.out
    dsimp only at e0 e1 e2 e3 e4
    clear hb0 HB hb1 C1
    go_wp2_with fail
    refine (CD1.out _ h01).mono ?_
    rintro e w2 ⟨v2, rfl, hO2, hb2⟩
    have h02 : Below w.heap.size w w2 := h01.trans (hb2.mono h01.size)
    have HB2 : Hid (BoxT w2 w.heap.size t ⟨pc, cc, pk, ck, px, cx, pr, cr⟩) := HB1.out.on hb2 hz1
    obtain ⟨p2, c2, rfl, hR2⟩ := hO2.row
    have C4 : Hid (Calls _ _ _ _ _) := rsameRow_any l l p p2 cl c2 w2 ((HR.out.1.keep h02).mono h02.size) hR2 hl2 hl2
    rw [sameL_self] at C4
    clear e0 e1 e2 e3 e4
    obtain ⟨hz2, e0, e1, e2, e3, e4⟩ := HB2.out
    dsimp only at e0 e1 e2 e3 e4
    clear hR2 hO2 hb2 CD1 HB1
    go_wp2_with fail
    refine C4.out.mono ?_
    rintro e w3 ⟨rfl, hb3⟩
    have h03 : Below w.heap.size w w3 := h02.trans (hb3.mono h02.size)
    have HB3 : Hid (BoxT w3 w.heap.size t ⟨pc, cc, pk, ck, px, cx, pr, cr⟩) := HB2.out.on hb3 hz2
    clear e0 e1 e2 e3 e4
    obtain ⟨hz3, e0, e1, e2, e3, e4⟩ := HB3.out
    dsimp only at e0 e1 e2 e3 e4
    clear hb3 C4 HB2
    go_wp2_with fail
    refine (CD2.out _ h03).mono ?_
    rintro e wA ⟨vA, rfl, hOA, hbA⟩
    have h0A : Below w.heap.size w wA := h03.trans (hbA.mono h03.size)
    have HBA : Hid (BoxT wA w.heap.size t ⟨pc, cc, pk, ck, px, cx, pr, cr⟩) := HB3.out.on hbA hz3
    clear e0 e1 e2 e3 e4
    obtain ⟨hzA, e0, e1, e2, e3, e4⟩ := HBA.out
    dsimp only at e0 e1 e2 e3 e4
    by_cases hed : ed = 0
    · subst hed
      have henc := HED.out L rfl
      obtain ⟨pA, cA, rfl, hRA⟩ := hOA.row
      have hL64 := HL.out.1
      have C9 : Hid (Calls _ _ _ _ _) := CE.out L pA cA wA h0A hRA HL.out.2 (by omega)
      rw [henc] at C9
      have hsb : (⟨s.data.toList.toArray⟩ : ByteArray) = s := rfl
      dsimp only at C9
      rw [hsb] at C9
      clear hRA hOA henc CE CD CD2 HED HN HL hbA
      generalize L.length = nL at *
      go_wp2_with fail
      refine C9.out.mono ?_
      rintro e wB ⟨rfl, hbB⟩
      have h0B : Below w.heap.size w wB := h0A.trans (hbB.mono h0A.size)
      go_wp2_with fail
      refine (CW.out _ h0B).mono ?_
      rintro e wC ⟨rfl, hbC⟩
      go_wp2
      go_ret
      exact ⟨rfl, h0B.trans (hbC.mono h0B.size)⟩
    · have hLn := HN.out L ed rfl hed
      subst hLn
      obtain ⟨pA, cA, rfl, _⟩ := hOA.row
      have hed' : (ed != 0) = true := by simp [hed]
      clear hOA CE CD CD2 HED HN HL hbA
      go_wp2_with fail
      refine (CW.out _ h0A).mono ?_
      rintro e wC ⟨rfl, hbC⟩
      go_wp2
      go_ret
      exact ⟨rfl, h0A.trans (hbC.mono h0A.size)⟩
  · have hee' : (er == 0) = false := by simp [hee]
    generalize (⟨bs.toArray⟩ : ByteArray) = bb at *
    clear HDE HSz
    go_enter Tryd.func6, Tryd.ntmps6
    go_wp2_with fail
    refine (C1.out _ hb0).mono ?_
    rintro e w1 ⟨rfl, hb1⟩
    have h01 : Below w.heap.size w w1 := hb0.trans (hb1.mono hb0.size)
    have HB1 : Hid (BoxT w1 w.heap.size t ⟨pc, cc, pk, ck, px, cx, pr, cr⟩) := HB.out.on hb1 (by simp)
    obtain ⟨hz1, e0, e1, e2, e3, e4⟩ := HB1.out
    dsimp only at e0 e1 e2 e3 e4
    clear hb0 HB hb1 C1
    go_wp2_with fail
    refine (CD2.out _ h01).mono ?_
    rintro e wA ⟨vA, rfl, hOA, hbA⟩
    have h0A : Below w.heap.size w wA := h01.trans (hbA.mono h01.size)
    have HBA : Hid (BoxT wA w.heap.size t ⟨pc, cc, pk, ck, px, cx, pr, cr⟩) := HB1.out.on hbA hz1
    clear e0 e1 e2 e3 e4
    obtain ⟨hzA, e0, e1, e2, e3, e4⟩ := HBA.out
    dsimp only at e0 e1 e2 e3 e4
    by_cases hed : ed = 0
    · subst hed
      have henc := HED.out L rfl
      obtain ⟨pA, cA, rfl, hRA⟩ := hOA.row
      have hL64 := HL.out.1
      have C9 : Hid (Calls _ _ _ _ _) := CE.out L pA cA wA h0A hRA HL.out.2 (by omega)
      rw [henc] at C9
      have hsb : (⟨s.data.toList.toArray⟩ : ByteArray) = s := rfl
      dsimp only at C9
      rw [hsb] at C9
      clear hRA hOA henc CE CD CD2 HED HN HL hbA
      generalize L.length = nL at *
      go_wp2_with fail
      refine C9.out.mono ?_
      rintro e wB ⟨rfl, hbB⟩
      have h0B : Below w.heap.size w wB := h0A.trans (hbB.mono h0A.size)
      go_wp2_with fail
      refine (CW.out _ h0B).mono ?_
      rintro e wC ⟨rfl, hbC⟩
      go_wp2
      go_ret
      exact ⟨rfl, h0B.trans (hbC.mono h0B.size)⟩
    · have hLn := HN.out L ed rfl hed
      subst hLn
      obtain ⟨pA, cA, rfl, _⟩ := hOA.row
      have hed' : (ed != 0) = true := by simp [hed]
      clear hOA CE CD CD2 HED HN HL hbA
      go_wp2_with fail
      refine (CW.out _ h0A).mono ?_
      rintro e wC ⟨rfl, hbC⟩
      go_wp2
      go_ret
      exact ⟨rfl, h0A.trans (hbC.mono h0A.size)⟩
end Go.Proofs.YtgnedioggpgeeaaDoor
