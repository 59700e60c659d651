/- The walk of the statement on Decode: it answers true. RowOwn: the law's walk. -/
import Derived.Test.YtdogiidgajebiabDoorGWDcd
import Derived.Test.YtdogiidgajebiabDoorGWSameR
import Derived.Test.YtdogiidgajebiabDoorGWAwake4
import Derived.Test.YtdogiidgajebiabDoorGMApl2
import Derived.Test.YtdogiidgajebiabDoorGWOwnV
namespace Go.Proofs.YtdogiidgajebiabDoor
open Go.RowKit
set_option maxRecDepth 100000

theorem decR_len (t : Tb) (s : ByteArray) : (decR t s).1.length ≤ 64 := by
  unfold decR
  by_cases hc : checkS t = 0
  · rw [if_pos hc]
    by_cases hz : s.size ≤ 65536
    · rw [if_pos hz, decO_K hc hz]
      have h64 := (checkS_counts t hc).2
      unfold rowKR
      rw [List.length_map]
      by_cases h1 : s.size < (t.cs.length + 3) / 4
      · rw [if_pos h1]; simp
      rw [if_neg h1]
      cases h2 : spB s t.cs.length (4 * ((t.cs.length + 3) / 4)) with
      | false => simp
      | true =>
        rw [if_pos rfl]
        cases h3 : rowK s (t.cs.map Cl.kd) 0 ((t.cs.length + 3) / 4) with
        | none => simp
        | some q =>
          have hk := rowK_ok s hz _ _ _ q (fun c hcm => by obtain ⟨c', hc', rfl⟩ := List.mem_map.1 hcm; exact checkS_kd hc c' hc') (by omega) h3
          have hl := hk.2.2
          rw [List.length_map] at hl
          dsimp only
          by_cases h5 : q.2 = s.size ∧ admS t q.1 = 0
          · rw [if_pos h5]
            dsimp only
            omega
          · rw [if_neg h5]
            simp
    · rw [if_neg hz]; simp
  · rw [if_neg hc]; simp
theorem sameL_self : ∀ L : List Vl, sameL L L = true
  | [] => rfl
  | a :: L => by
    unfold sameL
    rw [sameL_self L]
    simp [sameV, sameB]



end Go.Proofs.YtdogiidgajebiabDoor

namespace Go.Proofs.YtdogiidgajebiabDoor
open Go.RowKit
set_option maxRecDepth 100000

theorem applyA_len (cs : List Cl) (l : List Vl) : ∀ (f : Nat) (acc : List Vl) (next : Nat) (s : ByteArray) (M : List Vl), applyA cs l f acc next s = some M → M.length = acc.length
  | 0, acc, next, s, M, h => by
    unfold applyA at h
    split at h
    · injection h with h; rw [h]
    · cases h
  | f + 1, acc, next, s, M, h => by
    unfold applyA at h
    split at h
    · injection h with h; rw [h]
    · split at h
      · cases h
      · split at h
        · cases h
        · have := applyA_len cs l f _ _ _ M h
          rw [this, List.length_set]
theorem appR_len {t : Tb} {l M : List Vl} {s : ByteArray} (h : (appR t l s).1 = some M) : M.length ≤ 64 := by
  unfold appR at h
  split at h
  · rename_i ha
    split at h
    · split at h
      · cases h
      · rename_i m hm
        injection h with h
        subst h
        rw [applyA_len _ _ _ _ _ _ _ hm]
        have := admS_cols ha
        omega
    · cases h
  · cases h
/-- what is known behind Row: the box, and that nothing below has changed -/
structure Sd (w w1 : World) (t : Tb) (a : TabP) (X : World) : Prop where
  box : BoxT X w.heap.size t a
  bw : Below w.heap.size w X
  b1 : Below w1.heap.size w1 X
  hz : w.heap.size < w1.heap.size
theorem Sd.start {w w1 w2 : World} {t : Tb} {a : TabP} (hx : BoxT w1 w.heap.size t a) (hb : Below w.heap.size w w1) (h2 : Below w1.heap.size w1 w2) : Sd w w1 t a w2 := ⟨hx.on h2 hx.hg, hb.trans (h2.mono hb.size), h2, hx.hg⟩
theorem Sd.on {w w1 X Y : World} {t : Tb} {a : TabP} (h : Sd w w1 t a X) (hb : Below X.heap.size X Y) : Sd w w1 t a Y := ⟨h.box.on hb h.box.hg, h.bw.trans (hb.mono h.bw.size), h.b1.trans (hb.mono h.b1.size), h.hz⟩
theorem Sd.gr {w w1 X Y : World} {t : Tb} {a : TabP} {r : Option Nat} (h : Sd w w1 t a X) (hg : X.grownBy Y r) (hr : ∀ k, r = some k → w1.heap.size ≤ k) : Sd w w1 t a Y := by
  have hb : Below w1.heap.size X Y := (Below.refl _ _).grown hg (by have := h.b1.size; omega) hr
  have hz := h.hz
  exact ⟨h.box.on hb h.hz, h.bw.trans (hb.mono (by omega)), h.b1.trans hb, h.hz⟩
theorem Sd.row {w w1 X : World} {t : Tb} {a : TabP} {p : Option Addr} {l : List Vl} (h : Sd w w1 t a X) (hr : RowV w1 w1.heap.size p l) : RowV X X.heap.size p l := (hr.keep h.b1).mono h.b1.size

set_option maxHeartbeats 8000000 in
theorem lawROwn (t : Tb) (a : TabP) (l : List Vl) (p : Option Addr) (cl : Nat) (s : ByteArray) (w : World) (hV : TabV w w.heap.size t a) (hok : t.ok) (hR : RowV w w.heap.size p l) (hvo : ∀ v ∈ l, v.ok) (hll : l.length ≤ 3518437208784) (hs : s.size ≤ 140737488351232) (hE : Env w) :
    Calls Tryd.prog 4 #[a.val t, .slice p l.length cl, .string s] w fun e w' => e = .returned (.bool true) ∧ Below w.heap.size w w' := by
  obtain ⟨pc, cc, pk, ck, px, cx, pr, cr⟩ := a
  have hb0 : Below w.heap.size w (w.alloc (.cells #[.string t.nm, .slice pc t.cs.length cc, .slice pk t.key.length ck, .slice px t.ix.length cx, .slice pr t.rf.length cr] 27)) := by go_grown
  have HB : Hid (BoxT _ _ _ _) := BoxT.new w t ⟨pc, cc, pk, ck, px, cx, pr, cr⟩
  have hl2 : l.length ≤ 17592186043904 := by omega
  have CR : Hid (∀ w2 : World, Below w.heap.size w w2 → Calls Tryd.prog 9 #[.slice p l.length cl] w2 fun e w' => ∃ v, e = .returned v ∧ OwnV w' w2.heap.size v l ∧ Below w2.heap.size w2 w') := fun w2 hb => row_any l p cl w2 ((hR.keep hb).mono hb.size) hll
  have CE : Hid (∀ (po : Option Addr) (co : Nat) (w2 : World), Below w.heap.size w w2 → RowV w2 w2.heap.size po l → Calls Tryd.prog 10 #[.agg #[.string t.nm, .slice pc t.cs.length cc, .slice pk t.key.length ck, .slice px t.ix.length cx, .slice pr t.rf.length cr], .slice po l.length co] w2 fun e w' => e = .returned (.tuple #[.string ⟨(encR t l).1.toArray⟩, .int .i64 (encR t l).2]) ∧ Below w2.heap.size w2 w') := fun po co w2 hb hr => rowEncode_any t ⟨pc, cc, pk, ck, px, cx, pr, cr⟩ l po co w2 (hV.on hb) hok hr hvo hl2 (hE.on hb)
  have hsz : ByteArray.size ⟨(encR t l).1.toArray⟩ ≤ 140737488351232 := by
    show (encR t l).1.toArray.size ≤ _
    unfold encR
    split
    · split
      · rename_i h; simp; omega
      · simp
    · simp
  have CD : Hid (∀ (w2 : World), Below w.heap.size w w2 → Calls Tryd.prog 11 #[.agg #[.string t.nm, .slice pc t.cs.length cc, .slice pk t.key.length ck, .slice px t.ix.length cx, .slice pr t.rf.length cr], .string ⟨(encR t l).1.toArray⟩] w2 (DcP (decR t ⟨(encR t l).1.toArray⟩) w2)) := fun w2 hb => decode_any t ⟨pc, cc, pk, ck, px, cx, pr, cr⟩ _ w2 (hV.on hb) hok hsz (hE.on hb)
  have CA : Hid (∀ (po : Option Addr) (co : Nat) (w2 : World), Below w.heap.size w w2 → RowV w2 w2.heap.size po l → Calls Tryd.prog 6 #[.agg #[.string t.nm, .slice pc t.cs.length cc, .slice pk t.key.length ck, .slice px t.ix.length cx, .slice pr t.rf.length cr], .slice po l.length co, .string s] w2 (AppP (appR t l s) w2)) := fun po co w2 hb hr => apply_any t ⟨pc, cc, pk, ck, px, cx, pr, cr⟩ l po co s w2 (hV.on hb) hok hr hvo hl2 hs (hE.on hb)
  have CQ : Hid (∀ (po : Option Addr) (co : Nat) (w2 : World), Below w.heap.size w w2 → RowV w2 w2.heap.size po l → Calls Tryd.prog 7 #[.slice po l.length co, .slice p l.length cl] w2 fun e w' => e = .returned (.bool true) ∧ Below w2.heap.size w2 w') := fun po co w2 hb hr => by
    have := rsameRow_any l l po p co cl w2 hr ((hR.keep hb).mono hb.size) (by omega) (by omega)
    rw [sameL_self] at this
    exact this
  have CK : Hid (∀ w2 : World, Below w.heap.size w w2 → Calls Tryd.prog 8 #[] w2 fun e w' => e = .returned (.bool true) ∧ Below w2.heap.size w2 w') := fun w2 hb => awake4 w2 (hE.on hb)
  have HLn : Hid (∀ L, (appR t l s).1 = some L → L.length ≤ 64) := fun L h => appR_len h
  have HLd : Hid ((decR t ⟨(encR t l).1.toArray⟩).1.length ≤ 64) := decR_len t _
  clear hV hok hE hR hvo hsz
  generalize decR t ⟨(encR t l).1.toArray⟩ = dd at *
  generalize appR t l s = aa at *
  obtain ⟨bs, er, hen⟩ : ∃ bs er, encR t l = (bs, er) := ⟨_, _, rfl⟩
  rw [hen] at CE CD
  clear hen
  unfold TabP.val
  dsimp only at *
  go_enter Tryd.func4, Tryd.ntmps4
  go_wp2_with fail
  refine (CR.out _ hb0).mono ?_
  rintro e w1 ⟨v1, rfl, ho1, hb1⟩
  have hB1 : Below w.heap.size w w1 := hb0.trans (hb1.mono (by simp))
  obtain ⟨po, co, rfl, hro⟩ := ho1.row
  have HX1 : Hid (BoxT w1 w.heap.size t ⟨pc, cc, pk, ck, px, cx, pr, cr⟩) := HB.out.on hb1 HB.out.hg
  have HRo : Hid (RowV w1 w1.heap.size po l) := hro
  have HB1 : Hid (Below w.heap.size w w1) := hB1
  obtain ⟨_, e0, e1, e2, e3, e4⟩ := HX1.out
  dsimp only at e0 e1 e2 e3 e4
  clear hb1 hB1 ho1 hro HB CR hb0
  go_wp2_with fail
  refine (CE.out _ _ _ HB1.out HRo.out).mono ?_
  rintro e w2 ⟨rfl, hb2⟩
  have HS2 : Hid (Sd w w1 t ⟨pc, cc, pk, ck, px, cx, pr, cr⟩ w2) := Sd.start HX1.out HB1.out hb2
  clear hb2 e0 e1 e2 e3 e4
  obtain ⟨_, e0, e1, e2, e3, e4⟩ := HS2.out.box
  dsimp only at e0 e1 e2 e3 e4
  go_wp2_with fail
  refine (CD.out _ HS2.out.bw).mono ?_
  rintro e w3 ⟨va, rfl, hoa, hb3⟩
  have HS3 : Hid (Sd w w1 t ⟨pc, cc, pk, ck, px, cx, pr, cr⟩ w3) := HS2.out.on hb3
  have hz3 := HS2.out.b1.size
  clear e0 e1 e2 e3 e4
  obtain ⟨_, e0, e1, e2, e3, e4⟩ := HS3.out.box
  dsimp only at e0 e1 e2 e3 e4
  go_wp2_with fail
  refine (CA.out _ _ _ HS3.out.bw (HS3.out.row HRo.out)).mono ?_
  rintro e w4 ⟨⟨vb, rfl, hvb⟩, hb4⟩
  have HS4 : Hid (Sd w w1 t ⟨pc, cc, pk, ck, px, cx, pr, cr⟩ w4) := HS3.out.on hb4
  have hz4 := HS3.out.b1.size
  have hoa4 := hoa.kept hb4
  obtain ⟨M, hoM, hlM⟩ : ∃ M, OwnV w4 w3.heap.size vb M ∧ M.length ≤ 64 := by
    rcases hvb with ⟨L, h1, h2⟩ | ⟨_, rfl⟩
    · exact ⟨L, h2, HLn.out L h1⟩
    · exact ⟨[], OwnV.nil _ _, Nat.zero_le _⟩
  have CW1 : Hid (Calls _ _ _ _ _) := wipe_any _ va w4 _ hoa4 HLd.out
  have HOa : Hid (∀ k, va.ownBlock = some k → w2.heap.size ≤ k ∧ k < w3.heap.size) := fun k hk => World.ownsRow.lt hoa k hk
  have HOM : Hid (OwnV w4 w3.heap.size vb M) := hoM
  clear hb3 hb4 hoa hoa4 hvb hoM e0 e1 e2 e3 e4
  go_wp2_with fail
  refine CW1.out.mono ?_
  rintro e w5 ⟨rfl, hg5⟩
  have HS5 : Hid (Sd w w1 t ⟨pc, cc, pk, ck, px, cx, pr, cr⟩ w5) := HS4.out.gr hg5 (fun k hk => by have := (HOa.out k hk).1; omega)
  have hoM5 : OwnV w5 w3.heap.size vb M := World.ownsRow.kept HOM.out hg5 (by
    by_cases h : vb.ownBlock = none
    · exact .inl h
    · refine .inr (fun e => ?_)
      cases hx : va.ownBlock with
      | none => rw [hx] at e; exact h e
      | some k =>
        rw [hx] at e
        have h1 := (HOa.out k hx).2
        have h2 := (World.ownsRow.lt HOM.out k e).1
        omega)
  have CW2 : Hid (Calls _ _ _ _ _) := wipe_any _ vb w5 _ hoM5 hlM
  have HOb : Hid (∀ k, vb.ownBlock = some k → w3.heap.size ≤ k) := fun k hk => (World.ownsRow.lt hoM5 k hk).1
  clear hg5 hoM5 CW1 HOM
  go_wp2_with fail
  refine CW2.out.mono ?_
  rintro e w6 ⟨rfl, hg6⟩
  have HS6 : Hid (Sd w w1 t ⟨pc, cc, pk, ck, px, cx, pr, cr⟩ w6) := HS5.out.gr hg6 (fun k hk => by have := HOb.out k hk; omega)
  clear hg6 CW2
  obtain ⟨_, e0, e1, e2, e3, e4⟩ := HS6.out.box
  dsimp only at e0 e1 e2 e3 e4
  go_wp2_with fail
  refine (CE.out _ _ _ HS6.out.bw (HS6.out.row HRo.out)).mono ?_
  rintro e w7 ⟨rfl, hb7⟩
  have HS7 : Hid (Sd w w1 t ⟨pc, cc, pk, ck, px, cx, pr, cr⟩ w7) := HS6.out.on hb7
  clear hb7 e0 e1 e2 e3 e4
  go_wp2_with fail
  refine (CQ.out _ _ _ HS7.out.bw (HS7.out.row HRo.out)).mono ?_
  rintro e w8 ⟨rfl, hb8⟩
  have HS8 : Hid (Sd w w1 t ⟨pc, cc, pk, ck, px, cx, pr, cr⟩ w8) := HS7.out.on hb8
  clear hb8
  go_wp2_with fail
  refine (CK.out _ HS8.out.bw).mono ?_
  rintro e w9 ⟨rfl, hb9⟩
  have HB9 : Hid (Below w.heap.size w w9) := HS8.out.bw.trans (hb9.mono HS8.out.bw.size)
  clear hb9
  go_wp2_with fail
  go_ret
  exact ⟨rfl, HB9.out⟩

end Go.Proofs.YtdogiidgajebiabDoor
