/- Apply as the document tells it: the columns are asked at the end. The walk of the document's Apply. -/
import Derived.Test.YtinlgaefgedmcaaGreatDoorGMApl2
import Derived.Test.YtinlgaefgedmcaaGreatDoorGWRvs
import Derived.Test.YtinlgaefgedmcaaGreatDoorGWOwnV
namespace Go.Proofs.YtinlgaefgedmcaaGreatDoor
open Go.RowKit
set_option maxRecDepth 100000

theorem rowK_one (s : ByteArray) (kd : Int) : rowK s [kd] 0 1 = match decV kd (pairB s 0) (s.extract 1 s.size) with
    | none => none
    | some p => some ([p.1], 1 + p.2) := by
  unfold rowK
  cases decV kd (pairB s 0) (s.extract 1 s.size) with
  | none => rfl
  | some p => rfl
theorem rowA_one (s : ByteArray) (c : Cl) : rowA s [c] 0 1 = match decA c (pairB s 0) (s.extract 1 s.size) with
    | none => none
    | some p => some ([p.1], 1 + p.2) := by
  unfold rowA
  cases decA c (pairB s 0) (s.extract 1 s.size) with
  | none => rfl
  | some p => rfl
/-- what a change tells next, whatever the column admits -/
def stepK (cs : List Cl) (next : Nat) (s : ByteArray) : Option (Nat × Vl × Nat) :=
  if (rdV s).2 = 0 ∨ cs.length - next ≤ (rdV s).1 then none else
  match rowKR [(cs.getD (next + (rdV s).1) zC).kd] (s.extract (rdV s).2 s.size) with
  | none => none
  | some p => some (next + (rdV s).1, p.1.headD zV, (rdV s).2 + p.2)
theorem rowR_K (c : Cl) (s : ByteArray) : rowR [c] s = match rowKR [c.kd] s with
    | none => none
    | some p => if admE c (p.1.headD zV) = 0 then some p else none := by
  unfold rowR rowKR
  have e1 : ([c].length + 3) / 4 = 1 := by simp
  have e2 : ([c.kd].length + 3) / 4 = 1 := by simp
  have e3 : [c].length = 1 := rfl
  have e4 : [c.kd].length = 1 := rfl
  rw [e1, e2, e3, e4, rowA_one, rowK_one]
  by_cases h1 : s.size < 1
  · rw [if_pos h1, if_pos h1]
  · rw [if_neg h1, if_neg h1]
    cases spB s 1 (4 * 1) with
    | false => rfl
    | true =>
      simp only [if_true]
      unfold decA
      cases decV c.kd (pairB s 0) (s.extract 1 s.size) with
      | none => rfl
      | some p =>
        by_cases ha : admE c p.1 = 0
        · simp [ha]
        · simp [ha]
theorem step_rel (cs : List Cl) (next : Nat) (s : ByteArray) : stepA cs next s = match stepK cs next s with
    | none => none
    | some p => if admE (cs.getD p.1 zC) p.2.1 = 0 then some p else none := by
  unfold stepA stepK
  split
  · rfl
  · rw [rowR_K]
    cases rowKR [(cs.getD (next + (rdV s).1) zC).kd] (s.extract (rdV s).2 s.size) with
    | none => rfl
    | some p =>
      dsimp only
      by_cases ha : admE (cs.getD (next + (rdV s).1) zC) (p.1.headD zV) = 0
      · rw [if_pos ha, if_pos ha]
      · rw [if_neg ha, if_neg ha]
/-- a row turned by a change, whatever the columns admit -/
def applyK (cs : List Cl) (l : List Vl) : Nat → List Vl → Nat → ByteArray → Option (List Vl)
  | 0, acc, _, s => if s.size = 0 then some acc else none
  | f + 1, acc, next, s => if s.size = 0 then some acc else match stepK cs next s with
    | none => none
    | some p => if sameV (l.getD p.1 zV) p.2.1 then none else applyK cs l f (acc.set p.1 p.2.1) (p.1 + 1) (s.extract p.2.2 s.size)
/-- the document's Apply -/
def rappR (t : Tb) (l : List Vl) (s : ByteArray) : Option (List Vl) × Int := if admS t l = 0 then (if s.size ≤ 65536 then (match applyK t.cs l s.size l 0 s with
    | none => (none, 41)
    | some m => if admS t m = 0 then (some m, 0) else (none, 41)) else (none, 3)) else (none, admS t l)
theorem stepK_bounds {cs : List Cl} {next : Nat} {s : ByteArray} {i : Nat} {v : Vl} {k : Nat} (h : stepK cs next s = some (i, v, k)) : next ≤ i ∧ i < cs.length := by
  unfold stepK at h
  split at h
  · cases h
  · rename_i h1
    split at h
    · cases h
    · injection h with h
      injection h with e1 h
      omega
theorem applyK_low (cs : List Cl) (l : List Vl) : ∀ (f : Nat) (acc : List Vl) (next : Nat) (s : ByteArray) (M : List Vl), applyK cs l f acc next s = some M → M.length = acc.length ∧ ∀ j, j < next → M[j]? = acc[j]?
  | 0, acc, next, s, M, h => by
    unfold applyK at h
    split at h
    · injection h with h; subst h; exact ⟨rfl, fun _ _ => rfl⟩
    · cases h
  | f + 1, acc, next, s, M, h => by
    unfold applyK at h
    split at h
    · injection h with h; subst h; exact ⟨rfl, fun _ _ => rfl⟩
    · split at h
      · cases h
      · rename_i p hp
        split at h
        · cases h
        · obtain ⟨h1, h2⟩ := applyK_low cs l f _ _ _ M h
          have hb := stepK_bounds (i := p.1) (v := p.2.1) (k := p.2.2) hp
          refine ⟨by rw [h1, List.length_set], fun j hj => ?_⟩
          rw [h2 j (by omega), List.getElem?_set_ne (by omega)]
/-- columns from one on admit what a row has there -/
def adFrom (cs : List Cl) (M : List Vl) (next : Nat) : Prop := ∀ j, next ≤ j → j < cs.length → admsE cs M j = 0
theorem admsE_eq {cs : List Cl} {M N : List Vl} {j : Nat} (h : M[j]? = N[j]?) : admsE cs M j = admsE cs N j := by
  unfold admsE
  rw [h]
open Classical in
theorem apply_rel (cs : List Cl) (l : List Vl) : ∀ (f : Nat) (acc : List Vl) (next : Nat) (s : ByteArray), acc.length = cs.length → adFrom cs acc next → applyA cs l f acc next s = match applyK cs l f acc next s with
    | none => none
    | some M => if adFrom cs M next then some M else none
  | 0, acc, next, s, _, ha => by
    unfold applyA applyK
    split
    · simp [ha]
    · rfl
  | f + 1, acc, next, s, hl, ha => by
    unfold applyA applyK
    split
    · simp [ha]
    · rw [step_rel]
      cases hK : stepK cs next s with
      | none => rfl
      | some p =>
        obtain ⟨i, v, k⟩ := p
        have hb := stepK_bounds hK
        have hil : i < acc.length := by omega
        have hci : cs.getD i zC = cs[i] := by rw [List.getD_eq_getElem?_getD, List.getElem?_eq_getElem hb.2]; rfl
        have hset : admsE cs (acc.set i v) i = admE cs[i] v := by
          unfold admsE
          rw [List.getElem?_eq_getElem hb.2, List.getElem?_set_self hil]
        dsimp only
        rw [hci]
        by_cases hsv : sameV (l.getD i zV) v = true
        · rw [if_pos hsv]
          by_cases had : admE cs[i] v = 0
          · rw [if_pos had]
            dsimp only
            rw [if_pos hsv]
          · rw [if_neg had]
        · rw [if_neg hsv]
          by_cases had : admE cs[i] v = 0
          · rw [if_pos had]
            dsimp only
            rw [if_neg hsv]
            have ha2 : adFrom cs (acc.set i v) (i + 1) := fun j h1 h2 => by rw [admsE_eq (N := acc) (List.getElem?_set_ne (by omega))]; exact ha j (by omega) h2
            rw [apply_rel cs l f (acc.set i v) (i + 1) (s.extract k s.size) (by rw [List.length_set]; exact hl) ha2]
            cases hM : applyK cs l f (acc.set i v) (i + 1) (s.extract k s.size) with
            | none => rfl
            | some M =>
              have hlow := (applyK_low cs l f _ _ _ M hM).2
              have hiff : adFrom cs M (i + 1) ↔ adFrom cs M next := by
                constructor
                · intro h j h1 h2
                  by_cases hj : i + 1 ≤ j
                  · exact h j hj h2
                  · rw [admsE_eq (hlow j (by omega))]
                    by_cases hji : j = i
                    · subst hji; rw [hset]; exact had
                    · rw [admsE_eq (N := acc) (List.getElem?_set_ne (by omega))]; exact ha j h1 h2
                · intro h j h1 h2
                  exact h j (by omega) h2
              dsimp only
              by_cases h3 : adFrom cs M next
              · rw [if_pos h3, if_pos (hiff.2 h3)]
              · rw [if_neg h3, if_neg (fun h => h3 (hiff.1 h))]
          · rw [if_neg had]
            dsimp only
            cases hM : applyK cs l f (acc.set i v) (i + 1) (s.extract k s.size) with
            | none => rfl
            | some M =>
              have hlow := (applyK_low cs l f _ _ _ M hM).2
              have hno : ¬ adFrom cs M next := fun h => had (by
                have := h i hb.1 hb.2
                rw [admsE_eq (hlow i (by omega)), hset] at this
                exact this)
              dsimp only
              rw [if_neg hno]
theorem app_eq (t : Tb) (l : List Vl) (s : ByteArray) : appR t l s = rappR t l s := by
  unfold appR rappR
  by_cases h1 : admS t l = 0
  · rw [if_pos h1, if_pos h1]
    by_cases h2 : s.size ≤ 65536
    · rw [if_pos h2, if_pos h2]
      have hc : checkS t = 0 := by
        unfold admS at h1
        split at h1
        · assumption
        · exact h1
      obtain ⟨hl, _⟩ := admS_cols h1
      have hA : adFrom t.cs l 0 := fun j _ hj => (adAll_iff t.cs l hl).1 ((adm_iff hc hl).1 h1) j hj
      rw [apply_rel t.cs l s.size l 0 s hl hA]
      cases hM : applyK t.cs l s.size l 0 s with
      | none => rfl
      | some M =>
        have hml : M.length = t.cs.length := ((applyK_low t.cs l _ _ _ _ M hM).1).trans hl
        have hiff : adFrom t.cs M 0 ↔ admS t M = 0 := by
          rw [adm_iff hc hml, adAll_iff t.cs M hml]
          exact ⟨fun h i hi => h i (Nat.zero_le _) hi, fun h i _ hi => h i hi⟩
        dsimp only
        by_cases h3 : admS t M = 0
        · rw [if_pos (hiff.2 h3), if_pos h3]
        · rw [if_neg (fun h => h3 (hiff.1 h)), if_neg h3]
    · rw [if_neg h2, if_neg h2]
  · rw [if_neg h1, if_neg h1]

end Go.Proofs.YtinlgaefgedmcaaGreatDoor

namespace Go.Proofs.YtinlgaefgedmcaaGreatDoor
open Go.RowKit
set_option maxRecDepth 100000

theorem sameB_comm (k n k' n' : Int) (f f' : Nat) (s s' : ByteArray) : sameB k n k' n' f f' s s' = sameB k' n' k n f' f s' s := by
  unfold sameB
  rw [BEq.comm (a := k), BEq.comm (a := n), BEq.comm (a := (f : Int)), BEq.comm (a := s.toList)]
theorem ext2 (s : ByteArray) (a k : Nat) : (s.extract a s.size).extract k (s.extract a s.size).size = s.extract (a + k) s.size := by
  have h1 := Lib.extract_to_end (s.extract a s.size) k
  rw [Lib.extract_to_end s a, List.drop_drop] at h1
  have h2 := Lib.extract_to_end s (a + k)
  have h3 : ((s.extract a s.size).extract k (s.extract a s.size).size).data.toList = (s.extract (a + k) s.size).data.toList := by rw [h1, h2]
  exact ByteArray.ext (Array.ext' h3)
theorem rowKR_one {kd : Int} {s : ByteArray} {L : List Vl} {k : Nat} (hk : 1 ≤ kd ∧ kd ≤ 5) (hs : s.size ≤ 65536) (h : rowKR [kd] s = some (L, k)) : ∃ v, L = [v] ∧ v.ok ∧ k ≤ s.size := by
  unfold rowKR at h
  have e1 : ([kd].length + 3) / 4 = 1 := by simp
  rw [e1, rowK_one] at h
  split at h
  · cases h
  · rename_i h1
    split at h
    · cases hd : decV kd (pairB s 0) (s.extract 1 s.size) with
      | none => rw [hd] at h; cases h
      | some p =>
        rw [hd] at h
        injection h with h
        injection h with h2 h3
        have hz : (s.extract 1 s.size).size = s.size - 1 := by rw [ByteArray.size_extract]; omega
        have := decV_ok (v := p.1) (k := p.2) hd hk.1 hk.2 (by omega) (pairB_le s 0)
        exact ⟨p.1, h2.symm, this.1, by omega⟩
    · cases h

set_option maxHeartbeats 8000000 in
theorem rapply_any (t : Tb) (a : TabP) (l : List Vl) (p : Option Addr) (cl : Nat) (s : ByteArray) (w : World) (hV : TabV w w.heap.size t a) (hok : t.ok) (hL : RowV w w.heap.size p l) (hvl : ∀ v ∈ l, v.ok) (hll : l.length ≤ 3518437208784) (hs : s.size ≤ 140737488351232) (hE : Env w) :
    Calls Tryz.prog 5 #[a.val t, .slice p l.length cl, .string s] w (AppP (rappR t l s) w) := by
  have hsf := run_store_float
  have HVw : Hid (TabV w w.heap.size t a ∧ Env w ∧ RowV w w.heap.size p l) := ⟨hV, hE, hL⟩
  obtain ⟨pc, cc, pk, ck, px, cx, pr, cr⟩ := a
  have CL : Hid (∀ (M : List Vl) (pm : Option Addr) (cm : Nat) (w1 : World), M.length = l.length → Below w.heap.size w w1 → RowV w1 w1.heap.size pm M → (∀ v ∈ M, v.ok) → Calls Tryz.prog 12 #[.agg #[.string t.nm, .slice pc t.cs.length cc, .slice pk t.key.length ck, .slice px t.ix.length cx, .slice pr t.rf.length cr], .slice pm l.length cm] w1 fun e w' => e = .returned (.int .i64 (admS t M)) ∧ Below w1.heap.size w1 w') := fun M pm cm w1 hm hb hr hv => by
    have := radmits_any t ⟨pc, cc, pk, ck, px, cx, pr, cr⟩ M pm cm w1 (hV.on hb) hok hr hv (by omega) (hE.on hb)
    rw [hm] at this
    exact this
  have HB : Hid (BoxT _ _ _ _) := BoxT.new w t ⟨pc, cc, pk, ck, px, cx, pr, cr⟩
  have hb0 : Below w.heap.size w (w.alloc (.cells #[.string t.nm, .slice pc t.cs.length cc, .slice pk t.key.length ck, .slice px t.ix.length cx, .slice pr t.rf.length cr] 27)) := by go_grown
  have HF : Hid (rappR t l s = if admS t l = 0 then (if s.size ≤ 65536 then (match applyK t.cs l s.size l 0 s with
    | none => (none, 41)
    | some m => if admS t m = 0 then (some m, 0) else (none, 41)) else (none, 3)) else (none, admS t l)) := rfl
  have HOK : Hid (admS t l = 0 → l.length = t.cs.length ∧ 1 ≤ t.cs.length ∧ t.cs.length ≤ 64 ∧ ∀ c ∈ t.cs, 1 ≤ c.kd ∧ c.kd ≤ 5) := fun h => admS_cols h
  have C0 : Hid (Calls _ _ _ _ _) := CL.out l p cl (w.alloc (.cells #[.string t.nm, .slice pc t.cs.length cc, .slice pk t.key.length ck, .slice px t.ix.length cx, .slice pr t.rf.length cr] 27)) rfl hb0 ((hL.keep hb0).mono hb0.size) hvl
  generalize rappR t l s = d at *
  generalize admS t l = el at *
  have hcc := hV.hc
  have HOl : Hid (∀ v ∈ l, v.ok) := hvl
  clear hV hok hL hvl hE
  unfold TabP.val
  dsimp only at hcc ⊢
  go_enter Tryz.func5, Tryz.ntmps5
  go_wp2_with fail
  refine C0.out.mono ?_
  rintro e w2 ⟨rfl, hb2⟩
  have HBw2 : Hid (Below w.heap.size w w2) := hb0.trans (hb2.mono (by simp))
  by_cases hel : el = 0
  · subst hel
    obtain ⟨hl1, hl2, hl3, hkd⟩ := HOK.out rfl
    have hla := Nat.le_of_eq hl1
    have hlb := Nat.le_of_eq hl1.symm
    clear hl1
    rw [if_pos rfl] at HF
    by_cases hsz : s.size ≤ 65536
    · rw [if_pos hsz] at HF
      have a1 : ¬ (65536 : Int) < (s.size : Int) := by omega
      obtain ⟨b, o, rfl, hbb, _⟩ := HVw.out.2.2 0 (by omega)
      have HBx : Hid (BoxT w2 _ _ _) := HB.out.on hb2 HB.out.hg
      have C3 : Hid (Calls _ _ _ _ _) := row_any l (some ⟨b, o, none⟩) cl w2 ((HVw.out.2.2.keep HBw2.out).mono HBw2.out.size) (by omega)
      have hz2 : w.heap.size + 1 ≤ w2.heap.size := by have := hb2.size; simp at this; omega
      clear hb2 HB HOK C0
      go_wp2_with fail
      refine C3.out.mono ?_
      rintro e w3 ⟨v3, rfl, hown, hb3⟩
      rcases hown.form with ⟨_, h⟩ | ⟨g, cap, rfl, _, _⟩
      · have h0 : l.length = 0 := (by rw [h]; rfl); omega
      have HA : Hid (Ap w t ⟨pc, cc, pk, ck, px, cx, pr, cr⟩ g l.length cap l w3) := ⟨HBw2.out.trans (hb3.mono HBw2.out.size), HBx.out.on hb3 HBx.out.hg, own4_base hown hz2⟩
      have HKD : Hid (∀ c ∈ t.cs, 1 ≤ c.kd ∧ c.kd ≤ 5) := hkd
      clear C3 hown hb3 HBx HBw2 hkd hb0
      have HX : Hid (s.extract 0 s.size = s) := by show _ = _; exact ByteArray.ext (Array.ext' (by rw [Lib.extract_to_end]; rfl))
      go_wp2_with fail
      go_loopw [10, 11] (fun x y wr => ∃ (next at1 : Nat) (f : Nat) (acc : List Vl), next ≤ t.cs.length ∧ x = .int .i64 ((next : Int) - 1) ∧ y = .int .i64 (at1 : Int) ∧ at1 ≤ s.size ∧ s.size ≤ at1 + f ∧ Hid (acc.length = l.length) ∧ Hid (applyK t.cs l s.size l 0 s = applyK t.cs l f acc next (s.extract at1 s.size)) ∧ Hid (Ap w t ⟨pc, cc, pk, ck, px, cx, pr, cr⟩ g l.length cap acc wr) ∧ Hid (∀ v ∈ acc, v.ok)) (fun _ y _ => s.size - (intOf y).toNat)
      case atStart => exact ⟨0, 0, s.size, l, Nat.zero_le _, rfl, by go_num, Nat.zero_le _, by omega, rfl, (show _ = _ by rw [HX.out]), HA, HOl⟩
      case round =>
        obtain ⟨next, at1, f, acc, hnx, rfl, rfl, hat, hf, hacc, hAp, hA, hOk⟩ := hrel
        clear HA HX HOl
        obtain ⟨hz1, e0, e1, e2, e3, e4⟩ := hA.out.box
        dsimp only at e0 e1 e2 e3 e4
        have hez : Hid ((s.extract at1 s.size).size = s.size - at1) := by show _ = _; rw [ByteArray.size_extract]; omega
        by_cases hr0 : at1 = s.size
        · have HY : Hid (d = if admS t acc = 0 then (some acc, 0) else (none, 41)) := by
            have h1 := HF.out
            have h0 : (s.extract at1 s.size).size = 0 := by rw [hez.out]; omega
            have h2 : applyK t.cs l f acc next (s.extract at1 s.size) = some acc := by cases f <;> simp [applyK, h0]
            rw [hAp.out, h2] at h1
            exact h1
          have a2 : ¬ (at1 : Int) < (s.size : Int) := by omega
          have CA : Hid (Calls _ _ _ _ _) := CL.out acc (some ⟨g, 0, none⟩) cap wr hacc.out hA.out.bl (by
            obtain ⟨pp, c9, e9, hr9⟩ := hA.out.own.row
            injection e9 with e91 _ _
            rw [e91]
            exact hr9) hOk.out
          generalize admS t acc = ea at *
          clear hAp HF CL hez
          go_wp2_with fail
          refine CA.out.mono ?_
          rintro e w4 ⟨rfl, hb4⟩
          have HA4 := hA.out.on hb4
          by_cases hea : ea = 0
          · subst hea
            rw [if_pos rfl] at HY
            go_wp2_with fail
            go_ret2
            exact AppP.yes HY.out rfl (own4_base HA4.own (by omega)) HA4.bl
          · rw [if_neg hea] at HY
            have hea' : (ea != 0) = true := by simpa using hea
            go_wp2_with fail
            go_ret2
            exact AppP.no HY.out rfl HA4.bl
        · obtain ⟨f, rfl⟩ : ∃ f', f = f' + 1 := ⟨f - 1, by omega⟩
          have a2 : (at1 : Int) < (s.size : Int) := by omega
          have HS : Hid (applyK t.cs l s.size l 0 s = match stepK t.cs next (s.extract at1 s.size) with
            | none => none
            | some p => if sameV (l.getD p.1 zV) p.2.1 then none else applyK t.cs l f (acc.set p.1 p.2.1) (p.1 + 1) ((s.extract at1 s.size).extract p.2.2 (s.extract at1 s.size).size)) := by
            show _ = _
            rw [hAp.out, applyK, if_neg (by rw [hez.out]; omega)]
          have C4 : Hid (Calls _ _ _ _ _) := rnumber_any (s.extract at1 s.size) wr (by rw [hez.out]; omega)
          have hkle : (rdV (s.extract at1 s.size)).2 ≤ s.size - at1 := by rw [← hez.out]; exact rdV_le _
          have hnlt := rdV_lt (s.extract at1 s.size)
          unfold stepK at HS
          clear hAp CL
          obtain ⟨n, hn⟩ : ∃ n, (rdV (s.extract at1 s.size)).1 = n := ⟨_, rfl⟩
          obtain ⟨k, hk⟩ : ∃ k, (rdV (s.extract at1 s.size)).2 = k := ⟨_, rfl⟩
          rw [hn] at HS C4 hnlt
          rw [hk] at HS C4 hkle
          clear hn hk
          have hwl : IntKind.u64.wrap ((l.length : Int) - ((next : Int) - 1) - 1) = (l.length : Int) - (next : Int) := by rw [show ∀ z : Int, IntKind.u64.wrap z = z % 18446744073709551616 from fun z => by simp [IntKind.wrap, IntKind.bits, IntKind.signed]]; omega
          by_cases hk0 : k = 0
          · have HN : Hid (d = (none, 41)) := by
              have h1 := HF.out
              rw [HS.out, if_pos (.inl hk0)] at h1
              exact h1
            subst hk0
            clear HS HF
            go_wp2_with fail
            refine C4.out.mono ?_
            rintro e w4 ⟨rfl, hw4⟩
            rw [hw4]
            clear hw4 C4
            go_wp2_with fail
            go_ret2
            exact AppP.no HN.out rfl hA.out.bl
          have hki : ¬ ((k : Int) = 0) := by omega
          have hki2 : ((k : Int) == 0) = false := by simpa using hki
          by_cases hge : l.length - next ≤ n
          · have HN : Hid (d = (none, 41)) := by
              have h1 := HF.out
              rw [HS.out, if_pos (.inr (by omega))] at h1
              exact h1
            have a3 : (l.length : Int) - (next : Int) ≤ (n : Int) := by omega
            clear HS HF
            go_wp2_with fail
            refine C4.out.mono ?_
            rintro e w4 ⟨rfl, hw4⟩
            rw [hw4]
            clear hw4 C4
            go_wp2_with fail
            go_ret2
            exact AppP.no HN.out rfl hA.out.bl
          have a3 : ¬ ((l.length : Int) - (next : Int) ≤ (n : Int)) := by omega
          obtain ⟨col, hcol⟩ : ∃ col : Nat, next + n = col := ⟨_, rfl⟩
          obtain ⟨at3, hat3⟩ : ∃ at3 : Nat, at1 + k = at3 := ⟨_, rfl⟩
          have hcl : col < t.cs.length := by omega
          have hil : col < l.length := by omega
          rw [if_neg (by omega), hcol, ext2, hat3, List.getD_eq_getElem?_getD, List.getElem?_eq_getElem hcl, Option.getD_some] at HS
          have hci : (next : Int) + (n : Int) = (col : Int) := by omega
          have hai : (at1 : Int) + (k : Int) = (at3 : Int) := by omega
          have hal : at3 ≤ s.size := by omega
          have hal2 : (at3 : Int) ≤ (s.size : Int) := by omega
          have hal3 : at1 < at3 := by omega
          have hwn : IntKind.i64.wrap (n : Int) = (n : Int) := by rw [IntKind.wrap_i64]; (try unfold wrap64); omega
          have hkd := HKD.out _ (List.getElem_mem hcl)
          obtain ⟨bc, oc, epc, hbc, _, d1, _⟩ := HVw.out.1.cs col hcl
          dsimp only at epc
          subst epc
          have q1 := (hA.out.bl.cell (p := ⟨bc, oc + col * 7 + 1, none⟩) hbc).trans d1
          have hrz : (s.extract at3 s.size).size ≤ 65536 := by rw [ByteArray.size_extract]; omega
          have hRI : RowI (wr.alloc (.cells #[.int .i64 t.cs[col].kd] 3)).drew (wr.alloc (.cells #[.int .i64 t.cs[col].kd] 3)).drew.heap.size (some ⟨wr.heap.size, 0, none⟩) [t.cs[col].kd] := by
            intro i hi
            obtain rfl : i = 0 := by simp at hi; exact hi
            exact ⟨wr.heap.size, 0, rfl, by simp, by simp [go_sem]⟩
          have CV : Hid (∀ w1, RowI w1 w1.heap.size (some ⟨wr.heap.size, 0, none⟩) [t.cs[col].kd] → Calls Tryz.prog 15 #[.slice (some ⟨wr.heap.size, 0, none⟩) 1 1, .string (s.extract at3 s.size)] w1 (RvsP (rowKR [t.cs[col].kd] (s.extract at3 s.size)) w1)) := fun w1 h1 => rvalues_any [t.cs[col].kd] (some ⟨wr.heap.size, 0, none⟩) 1 (s.extract at3 s.size) w1 h1 (by simp) (fun c hc => by simp at hc; subst hc; exact hkd) hrz
          have HR1 : Hid (∀ L m, rowKR [t.cs[col].kd] (s.extract at3 s.size) = some (L, m) → ∃ v, L = [v] ∧ v.ok ∧ m ≤ s.size - at3) := fun L m h => by
            obtain ⟨v, h1, h2, h3⟩ := rowKR_one hkd hrz h
            rw [ByteArray.size_extract] at h3
            exact ⟨v, h1, h2, by omega⟩
          have hbK : Below wr.heap.size wr (wr.alloc (.cells #[.int .i64 t.cs[col].kd] 3)).drew := by go_grown
          generalize rowKR [t.cs[col].kd] (s.extract at3 s.size) = rr at *
          generalize t.cs[col].kd = kd at *
          clear hkd d1 hrz hez hcol
          obtain ⟨b', o', eb, hbb', l0, l1, l2, l3⟩ := HVw.out.2.2 col hil
          cases eb
          go_wp2_with fail
          refine C4.out.mono ?_
          rintro e w4 ⟨rfl, hw4⟩
          rw [hw4]
          clear hw4 C4
          go_wp2_with fail
          refine wp_region_any (by kernel_rfl) ?_
          change wpAny _ _ _ _ _ _ _ (World.drew _)
          refine anyN_take (v := ?_) 0 rfl (by kernel_rfl) (by kernel_rfl) (by kernel_rfl) (fun _ _ _ h => h) (Or.inl ⟨by rfl, ?_⟩) ?_
          rotate_left
          focus
            intro w9
            go_simp
            try with_reducible rfl
          try simp only [Act.put, List.setIfInBounds_toArray, List.set_cons_zero, List.set_cons_succ]
          refine anyN_take (v := ?_) 2 rfl (by kernel_rfl) (by kernel_rfl) (by kernel_rfl) (fun _ _ _ h => h) (Or.inl ⟨by rfl, ?_⟩) ?_
          rotate_left
          focus
            intro w9
            go_simp
            try with_reducible rfl
          try simp only [Act.put, List.setIfInBounds_toArray, List.set_cons_zero, List.set_cons_succ]
          refine anyN_take (v := ?_) 7 rfl (by kernel_rfl) (by kernel_rfl) (by kernel_rfl) (fun _ _ _ h => h) (Or.inl ⟨by rfl, ?_⟩) ?_
          rotate_left
          focus
            intro w9
            go_simp
            try with_reducible rfl
          try simp only [Act.put, List.setIfInBounds_toArray, List.set_cons_zero, List.set_cons_succ]
          refine anyN_take (v := ?_) 8 rfl (by kernel_rfl) (by kernel_rfl) (by kernel_rfl) (fun _ _ _ h => h) (Or.inl ⟨by rfl, ?_⟩) ?_
          rotate_left
          focus
            intro w9
            go_simp
            try with_reducible rfl
          try simp only [Act.put, List.setIfInBounds_toArray, List.set_cons_zero, List.set_cons_succ]
          refine anyN_take (v := ?_) 9 rfl (by kernel_rfl) (by kernel_rfl) (by kernel_rfl) (fun _ _ _ h => h) (Or.inl ⟨by rfl, ?_⟩) ?_
          rotate_left
          focus
            intro w9
            go_simp
            try with_reducible rfl
          try simp only [Act.put, List.setIfInBounds_toArray, List.set_cons_zero, List.set_cons_succ]
          refine wpAny_ready (rs := [1]) (by kernel_rfl) (by simp) ?_
          refine anyN_cons 1 rfl (by rfl) (fun K hK => ?_) AllReady.nil
          go_simp
          refine hK.out _ _ ?_
          clear hK K
          try simp only [Act.put, List.setIfInBounds_toArray, List.set_cons_zero, List.set_cons_succ]
          refine anyN_take (v := ?_) 3 rfl (by kernel_rfl) (by kernel_rfl) (by kernel_rfl) (fun _ _ _ h => h) (Or.inl ⟨by rfl, ?_⟩) ?_
          rotate_left
          focus
            intro w9
            go_simp
            try with_reducible rfl
          try simp only [Act.put, List.setIfInBounds_toArray, List.set_cons_zero, List.set_cons_succ]
          refine anyN_take (v := ?_) 4 rfl (by kernel_rfl) (by kernel_rfl) (by kernel_rfl) (fun _ _ _ h => h) (Or.inl ⟨by rfl, ?_⟩) ?_
          rotate_left
          focus
            intro w9
            go_simp
            try with_reducible rfl
          try simp only [Act.put, List.setIfInBounds_toArray, List.set_cons_zero, List.set_cons_succ]
          refine wpAny_ready (rs := [5]) (by kernel_rfl) (by simp) ?_
          refine anyN_cons 5 rfl (by rfl) (fun K hK => ?_) AllReady.nil
          go_simp
          refine hK.out _ _ ?_
          clear hK K
          try simp only [Act.put, List.setIfInBounds_toArray, List.set_cons_zero, List.set_cons_succ]
          refine wpAny_ready (rs := [6]) (by kernel_rfl) (by simp) ?_
          refine anyN_cons 6 rfl (by rfl) (fun K hK => ?_) AllReady.nil
          go_simp
          refine hK.out _ _ ?_
          clear hK K
          try simp only [Act.put, List.setIfInBounds_toArray, List.set_cons_zero, List.set_cons_succ]
          refine wpAny_ready (rs := [10]) (by kernel_rfl) (by simp) ?_
          refine anyN_cons 10 rfl (by rfl) (fun K hK => ?_) AllReady.nil
          go_simp
          refine (CV.out _ hRI).mono ?_
          rintro e w5 ⟨v5, n5, rfl, hr5, hb5⟩
          dsimp only
          refine hK.out _ _ ?_
          clear hK K
          try simp only [Act.put, List.setIfInBounds_toArray, List.set_cons_zero, List.set_cons_succ]
          refine anyN_take (v := ?_) 11 rfl (by kernel_rfl) (by kernel_rfl) (by kernel_rfl) (fun _ _ _ h => h) (Or.inl ⟨by rfl, ?_⟩) ?_
          rotate_left
          focus
            intro w9
            go_simp
            try with_reducible rfl
          try simp only [Act.put, List.setIfInBounds_toArray, List.set_cons_zero, List.set_cons_succ]
          refine anyN_take (v := ?_) 12 rfl (by kernel_rfl) (by kernel_rfl) (by kernel_rfl) (fun _ _ _ h => h) (Or.inl ⟨by rfl, ?_⟩) ?_
          rotate_left
          focus
            intro w9
            go_simp
            try with_reducible rfl
          try simp only [Act.put, List.setIfInBounds_toArray, List.set_cons_zero, List.set_cons_succ]
          refine anyN_take (v := ?_) 13 rfl (by kernel_rfl) (by kernel_rfl) (by kernel_rfl) (fun _ _ _ h => h) (Or.inl ⟨by rfl, ?_⟩) ?_
          rotate_left
          focus
            intro w9
            go_simp
            try with_reducible rfl
          try simp only [Act.put, List.setIfInBounds_toArray, List.set_cons_zero, List.set_cons_succ]
          refine wpAny_ready (rs := [14]) (by kernel_rfl) (by simp) ?_
          refine anyN_cons 14 rfl (by rfl) (fun K hK => ?_) AllReady.nil
          go_simp
          refine hK.out _ _ ?_
          clear hK K
          try simp only [Act.put, List.setIfInBounds_toArray, List.set_cons_zero, List.set_cons_succ]
          refine wpAny_ready (rs := [15]) (by kernel_rfl) (by simp) ?_
          refine anyN_cons 15 rfl (by rfl) (fun K hK => ?_) AllReady.nil
          go_simp
          refine hK.out _ _ ?_
          clear hK K
          try simp only [Act.put, List.setIfInBounds_toArray, List.set_cons_zero, List.set_cons_succ]
          refine wpAny_done (by kernel_rfl) ?_ _
          have HA5 : Hid (Ap _ _ _ _ _ _ _ _) := (hA.out.on hbK).on hb5
          rcases hr5 with ⟨L, m, hrr, rfl, hown5⟩ | ⟨hrr, rfl, rfl⟩
          · obtain ⟨y, rfl, hyo, hm⟩ := HR1.out L m hrr
            rw [hrr] at HS
            dsimp only at HS
            rcases hown5.form with ⟨_, h⟩ | ⟨g5, cap5, rfl, hg5, hg5'⟩
            · cases h
            obtain ⟨⟨x0, x1, x2, x3⟩, _⟩ := hown5.at rfl 0 (by simp)
            simp only [List.getElem_cons_zero, Nat.zero_mul, Nat.zero_add] at x0 x1 x2 x3
            simp only [List.headD_cons] at HS
            obtain ⟨at2, hat2⟩ : ∃ at2 : Nat, at3 + m = at2 := ⟨_, rfl⟩
            rw [ext2, show at1 + (k + m) = at2 by omega, List.getD_eq_getElem?_getD, List.getElem?_eq_getElem hil, Option.getD_some] at HS
            have ham : (at3 : Int) + (m : Int) = (at2 : Int) := by omega
            have hm0 : ¬ ((m : Int) < 0) := by omega
            obtain ⟨vk, vn, vf, vs⟩ := y
            dsimp only at x0 x1 x2 x3
            have HOk : Hid (∀ v ∈ acc.set col ⟨vk, vn, vf, vs⟩, v.ok) := fun v hv => by
              rcases List.mem_or_eq_of_mem_set hv with h | h
              · exact hOk.out v h
              · rw [h]; exact hyo
            have HAq : Hid (Ap _ _ _ _ _ _ _ _) := HA5.out.on (show Below w5.heap.size w5 w5.drew by go_grown)
            have HY5 : Hid (∀ w6, Below w5.drew.heap.size w5.drew w6 → w6.cell? ⟨g5, 0, none⟩ = some (.int .i64 vk) ∧ w6.cell? ⟨g5, 1, none⟩ = some (.int .i64 vn) ∧ w6.cell? ⟨g5, 2, none⟩ = some (.float .f64 vf) ∧ w6.cell? ⟨g5, 3, none⟩ = some (.string vs)) := fun w6 hb => ⟨(hb.cell (p := ⟨g5, 0, none⟩) hg5').trans x0, (hb.cell (p := ⟨g5, 1, none⟩) hg5').trans x1, (hb.cell (p := ⟨g5, 2, none⟩) hg5').trans x2, (hb.cell (p := ⟨g5, 3, none⟩) hg5').trans x3⟩
            have q2 := (HA5.out.bl.cell (p := ⟨b, o + col * 4, none⟩) hbb).trans l0
            have q3 := (HA5.out.bl.cell (p := ⟨b, o + col * 4 + 1, none⟩) hbb).trans l1
            have q4 := (HA5.out.bl.cell (p := ⟨b, o + col * 4 + 2, none⟩) hbb).trans l2
            have q5 := (HA5.out.bl.cell (p := ⟨b, o + col * 4 + 3, none⟩) hbb).trans l3
            obtain ⟨sv, hsv⟩ : ∃ sv, sameV l[col] ⟨vk, vn, vf, vs⟩ = sv := ⟨_, rfl⟩
            have CS : Hid (∀ w9, Calls Tryz.prog 16 #[.agg #[.int .i64 vk, .int .i64 vn, .float .f64 vf, .string vs], .agg #[.int .i64 l[col].k, .int .i64 l[col].n, .float .f64 l[col].f, .string l[col].s]] w9 fun e w' => e = .returned (.bool sv) ∧ Below w9.heap.size w9 w') := fun w9 => by
              have := rsame_any vk vn l[col].k l[col].n vf l[col].f vs l[col].s w9
              rw [sameB_comm] at this
              rw [← hsv]
              exact this
            have HS2 : Hid (applyK t.cs l s.size l 0 s = if sv = true then none else applyK t.cs l f (acc.set col ⟨vk, vn, vf, vs⟩) (col + 1) (s.extract at2 s.size)) := by rw [← hsv]; exact HS
            clear HS
            have HS := HS2
            clear HS2
            generalize l[col].k = lk at *
            generalize l[col].n = ln at *
            generalize l[col].f = lf at *
            generalize l[col].s = ls at *
            simp only [List.length_cons, List.length_nil] at *
            clear l0 l1 l2 l3 hsv hown5 hrr hyo HR1 CV hRI hb5 hbK HA5 q1 hA e0 e1 e2 e3 e4
            cases sv with
            | true =>
              have HN : Hid (d = (none, 41)) := by
                have h1 := HF.out
                rw [HS.out] at h1
                exact h1
              clear HS HF
              go_wp2_with fail
              refine wp_region_any (by kernel_rfl) ?_
              change wpAny _ _ _ _ _ _ _ (World.drew _)
              refine anyN_take (v := ?_) 0 rfl (by kernel_rfl) (by kernel_rfl) (by kernel_rfl) (fun _ _ _ h => h) (Or.inl ⟨by rfl, ?_⟩) ?_
              rotate_left
              focus
                intro w9
                go_simp
                try with_reducible rfl
              try simp only [Act.put, List.setIfInBounds_toArray, List.set_cons_zero, List.set_cons_succ]
              refine anyN_take (v := ?_) 1 rfl (by kernel_rfl) (by kernel_rfl) (by kernel_rfl) (fun _ _ _ h => h) (Or.inl ⟨by rfl, ?_⟩) ?_
              rotate_left
              focus
                intro w9
                go_simp
                try with_reducible rfl
              try simp only [Act.put, List.setIfInBounds_toArray, List.set_cons_zero, List.set_cons_succ]
              refine anyN_take (v := ?_) 2 rfl (by kernel_rfl) (by kernel_rfl) (by kernel_rfl) (fun _ _ _ h => h) (Or.inl ⟨by rfl, ?_⟩) ?_
              rotate_left
              focus
                intro w9
                go_simp
                try with_reducible rfl
              try simp only [Act.put, List.setIfInBounds_toArray, List.set_cons_zero, List.set_cons_succ]
              refine anyN_take (v := ?_) 3 rfl (by kernel_rfl) (by kernel_rfl) (by kernel_rfl) (fun _ _ _ h => h) (Or.inl ⟨by rfl, ?_⟩) ?_
              rotate_left
              focus
                intro w9
                go_simp
                try with_reducible rfl
              try simp only [Act.put, List.setIfInBounds_toArray, List.set_cons_zero, List.set_cons_succ]
              refine anyN_take (v := ?_) 4 rfl (by kernel_rfl) (by kernel_rfl) (by kernel_rfl) (fun _ _ _ h => h) (Or.inl ⟨by rfl, ?_⟩) ?_
              rotate_left
              focus
                intro w9
                go_simp
                try with_reducible rfl
              try simp only [Act.put, List.setIfInBounds_toArray, List.set_cons_zero, List.set_cons_succ]
              refine anyN_take (v := ?_) 6 rfl (by kernel_rfl) (by kernel_rfl) (by kernel_rfl) (fun _ _ _ h => h) (Or.inl ⟨by rfl, ?_⟩) ?_
              rotate_left
              focus
                intro w9
                go_simp
                try with_reducible rfl
              try simp only [Act.put, List.setIfInBounds_toArray, List.set_cons_zero, List.set_cons_succ]
              refine anyN_take (v := ?_) 7 rfl (by kernel_rfl) (by kernel_rfl) (by kernel_rfl) (fun _ _ _ h => h) (Or.inl ⟨by rfl, ?_⟩) ?_
              rotate_left
              focus
                intro w9
                go_simp
                try with_reducible rfl
              try simp only [Act.put, List.setIfInBounds_toArray, List.set_cons_zero, List.set_cons_succ]
              refine anyN_take (v := ?_) 8 rfl (by kernel_rfl) (by kernel_rfl) (by kernel_rfl) (fun _ _ _ h => h) (Or.inl ⟨by rfl, ?_⟩) ?_
              rotate_left
              focus
                intro w9
                go_simp
                try with_reducible rfl
              try simp only [Act.put, List.setIfInBounds_toArray, List.set_cons_zero, List.set_cons_succ]
              refine wpAny_ready (rs := [5, 9]) (by kernel_rfl) (by simp) ?_
              refine anyN_cons 5 rfl (by rfl) (fun K hK => ?_) (anyN_cons 9 rfl (by rfl) (fun K hK => ?_) AllReady.nil)
              · go_simp
                refine hK.out _ _ ?_
                clear hK K
                try simp only [Act.put, List.setIfInBounds_toArray, List.set_cons_zero, List.set_cons_succ]
                refine wpAny_ready (rs := [9]) (by kernel_rfl) (by simp) ?_
                refine anyN_cons 9 rfl (by rfl) (fun K hK => ?_) AllReady.nil
                go_simp
                refine hK.out _ _ ?_
                clear hK K
                try simp only [Act.put, List.setIfInBounds_toArray, List.set_cons_zero, List.set_cons_succ]
                refine wpAny_ready (rs := [10]) (by kernel_rfl) (by simp) ?_
                refine anyN_cons 10 rfl (by rfl) (fun K hK => ?_) AllReady.nil
                go_simp
                refine (CS.out _).mono ?_
                rintro e w6 ⟨rfl, hb6⟩
                dsimp only
                have HA6 : Hid (Ap _ _ _ _ _ _ _ _) := HAq.out.on hb6
                refine hK.out _ _ ?_
                clear hK K
                try simp only [Act.put, List.setIfInBounds_toArray, List.set_cons_zero, List.set_cons_succ]
                refine anyN_take (v := ?_) 11 rfl (by kernel_rfl) (by kernel_rfl) (by kernel_rfl) (fun _ _ _ h => h) (Or.inl ⟨by rfl, ?_⟩) ?_
                rotate_left
                focus
                  intro w9
                  go_simp
                  try with_reducible rfl
                try simp only [Act.put, List.setIfInBounds_toArray, List.set_cons_zero, List.set_cons_succ]
                refine wpAny_done (by kernel_rfl) ?_ _
                go_wp2_with fail
                go_ret2
                exact AppP.no HN.out rfl HA6.out.bl
              · go_simp
                refine hK.out _ _ ?_
                clear hK K
                try simp only [Act.put, List.setIfInBounds_toArray, List.set_cons_zero, List.set_cons_succ]
                refine wpAny_ready (rs := [5]) (by kernel_rfl) (by simp) ?_
                refine anyN_cons 5 rfl (by rfl) (fun K hK => ?_) AllReady.nil
                go_simp
                refine hK.out _ _ ?_
                clear hK K
                try simp only [Act.put, List.setIfInBounds_toArray, List.set_cons_zero, List.set_cons_succ]
                refine wpAny_ready (rs := [10]) (by kernel_rfl) (by simp) ?_
                refine anyN_cons 10 rfl (by rfl) (fun K hK => ?_) AllReady.nil
                go_simp
                refine (CS.out _).mono ?_
                rintro e w6 ⟨rfl, hb6⟩
                dsimp only
                have HA6 : Hid (Ap _ _ _ _ _ _ _ _) := HAq.out.on hb6
                refine hK.out _ _ ?_
                clear hK K
                try simp only [Act.put, List.setIfInBounds_toArray, List.set_cons_zero, List.set_cons_succ]
                refine anyN_take (v := ?_) 11 rfl (by kernel_rfl) (by kernel_rfl) (by kernel_rfl) (fun _ _ _ h => h) (Or.inl ⟨by rfl, ?_⟩) ?_
                rotate_left
                focus
                  intro w9
                  go_simp
                  try with_reducible rfl
                try simp only [Act.put, List.setIfInBounds_toArray, List.set_cons_zero, List.set_cons_succ]
                refine wpAny_done (by kernel_rfl) ?_ _
                go_wp2_with fail
                go_ret2
                exact AppP.no HN.out rfl HA6.out.bl
            | false =>
              rw [if_neg (by decide)] at HS
              go_wp2_with fail
              refine wp_region_any (by kernel_rfl) ?_
              change wpAny _ _ _ _ _ _ _ (World.drew _)
              refine anyN_take (v := ?_) 0 rfl (by kernel_rfl) (by kernel_rfl) (by kernel_rfl) (fun _ _ _ h => h) (Or.inl ⟨by rfl, ?_⟩) ?_
              rotate_left
              focus
                intro w9
                go_simp
                try with_reducible rfl
              try simp only [Act.put, List.setIfInBounds_toArray, List.set_cons_zero, List.set_cons_succ]
              refine anyN_take (v := ?_) 1 rfl (by kernel_rfl) (by kernel_rfl) (by kernel_rfl) (fun _ _ _ h => h) (Or.inl ⟨by rfl, ?_⟩) ?_
              rotate_left
              focus
                intro w9
                go_simp
                try with_reducible rfl
              try simp only [Act.put, List.setIfInBounds_toArray, List.set_cons_zero, List.set_cons_succ]
              refine anyN_take (v := ?_) 2 rfl (by kernel_rfl) (by kernel_rfl) (by kernel_rfl) (fun _ _ _ h => h) (Or.inl ⟨by rfl, ?_⟩) ?_
              rotate_left
              focus
                intro w9
                go_simp
                try with_reducible rfl
              try simp only [Act.put, List.setIfInBounds_toArray, List.set_cons_zero, List.set_cons_succ]
              refine anyN_take (v := ?_) 3 rfl (by kernel_rfl) (by kernel_rfl) (by kernel_rfl) (fun _ _ _ h => h) (Or.inl ⟨by rfl, ?_⟩) ?_
              rotate_left
              focus
                intro w9
                go_simp
                try with_reducible rfl
              try simp only [Act.put, List.setIfInBounds_toArray, List.set_cons_zero, List.set_cons_succ]
              refine anyN_take (v := ?_) 4 rfl (by kernel_rfl) (by kernel_rfl) (by kernel_rfl) (fun _ _ _ h => h) (Or.inl ⟨by rfl, ?_⟩) ?_
              rotate_left
              focus
                intro w9
                go_simp
                try with_reducible rfl
              try simp only [Act.put, List.setIfInBounds_toArray, List.set_cons_zero, List.set_cons_succ]
              refine anyN_take (v := ?_) 6 rfl (by kernel_rfl) (by kernel_rfl) (by kernel_rfl) (fun _ _ _ h => h) (Or.inl ⟨by rfl, ?_⟩) ?_
              rotate_left
              focus
                intro w9
                go_simp
                try with_reducible rfl
              try simp only [Act.put, List.setIfInBounds_toArray, List.set_cons_zero, List.set_cons_succ]
              refine anyN_take (v := ?_) 7 rfl (by kernel_rfl) (by kernel_rfl) (by kernel_rfl) (fun _ _ _ h => h) (Or.inl ⟨by rfl, ?_⟩) ?_
              rotate_left
              focus
                intro w9
                go_simp
                try with_reducible rfl
              try simp only [Act.put, List.setIfInBounds_toArray, List.set_cons_zero, List.set_cons_succ]
              refine anyN_take (v := ?_) 8 rfl (by kernel_rfl) (by kernel_rfl) (by kernel_rfl) (fun _ _ _ h => h) (Or.inl ⟨by rfl, ?_⟩) ?_
              rotate_left
              focus
                intro w9
                go_simp
                try with_reducible rfl
              try simp only [Act.put, List.setIfInBounds_toArray, List.set_cons_zero, List.set_cons_succ]
              refine wpAny_ready (rs := [5, 9]) (by kernel_rfl) (by simp) ?_
              refine anyN_cons 5 rfl (by rfl) (fun K hK => ?_) (anyN_cons 9 rfl (by rfl) (fun K hK => ?_) AllReady.nil)
              · go_simp
                refine hK.out _ _ ?_
                clear hK K
                try simp only [Act.put, List.setIfInBounds_toArray, List.set_cons_zero, List.set_cons_succ]
                refine wpAny_ready (rs := [9]) (by kernel_rfl) (by simp) ?_
                refine anyN_cons 9 rfl (by rfl) (fun K hK => ?_) AllReady.nil
                go_simp
                refine hK.out _ _ ?_
                clear hK K
                try simp only [Act.put, List.setIfInBounds_toArray, List.set_cons_zero, List.set_cons_succ]
                refine wpAny_ready (rs := [10]) (by kernel_rfl) (by simp) ?_
                refine anyN_cons 10 rfl (by rfl) (fun K hK => ?_) AllReady.nil
                go_simp
                refine (CS.out _).mono ?_
                rintro e w6 ⟨rfl, hb6⟩
                dsimp only
                have HA6 : Hid (Ap _ _ _ _ _ _ _ _) := HAq.out.on hb6
                refine hK.out _ _ ?_
                clear hK K
                try simp only [Act.put, List.setIfInBounds_toArray, List.set_cons_zero, List.set_cons_succ]
                refine anyN_take (v := ?_) 11 rfl (by kernel_rfl) (by kernel_rfl) (by kernel_rfl) (fun _ _ _ h => h) (Or.inl ⟨by rfl, ?_⟩) ?_
                rotate_left
                focus
                  intro w9
                  go_simp
                  try with_reducible rfl
                try simp only [Act.put, List.setIfInBounds_toArray, List.set_cons_zero, List.set_cons_succ]
                refine wpAny_done (by kernel_rfl) ?_ _
                obtain ⟨⟨x0, x1, x2, x3⟩, f0, f1, f2, f3⟩ := HA6.out.own.at hacc.out col (by rw [hacc.out]; exact hil)
                obtain ⟨z0, z1, z2, z3⟩ := HY5.out _ hb6
                have HA7 : Hid (Ap _ _ _ _ _ _ _ _) := HA6.out.put hacc.out col (by rw [hacc.out]; exact hil) ⟨vk, vn, vf, vs⟩
                go_wp2_with fail
                go_roundw
                case rel => exact ⟨col + 1, at2, f, _, by omega, (by rw [show ((col + 1 : Nat) : Int) - 1 = (col : Int) by omega]), rfl, by omega, by omega, (show _ = _ by rw [List.length_set]; exact hacc.out), HS, HA7, HOk.out⟩
                case measure => simp [intOf]; omega
              · go_simp
                refine hK.out _ _ ?_
                clear hK K
                try simp only [Act.put, List.setIfInBounds_toArray, List.set_cons_zero, List.set_cons_succ]
                refine wpAny_ready (rs := [5]) (by kernel_rfl) (by simp) ?_
                refine anyN_cons 5 rfl (by rfl) (fun K hK => ?_) AllReady.nil
                go_simp
                refine hK.out _ _ ?_
                clear hK K
                try simp only [Act.put, List.setIfInBounds_toArray, List.set_cons_zero, List.set_cons_succ]
                refine wpAny_ready (rs := [10]) (by kernel_rfl) (by simp) ?_
                refine anyN_cons 10 rfl (by rfl) (fun K hK => ?_) AllReady.nil
                go_simp
                refine (CS.out _).mono ?_
                rintro e w6 ⟨rfl, hb6⟩
                dsimp only
                have HA6 : Hid (Ap _ _ _ _ _ _ _ _) := HAq.out.on hb6
                refine hK.out _ _ ?_
                clear hK K
                try simp only [Act.put, List.setIfInBounds_toArray, List.set_cons_zero, List.set_cons_succ]
                refine anyN_take (v := ?_) 11 rfl (by kernel_rfl) (by kernel_rfl) (by kernel_rfl) (fun _ _ _ h => h) (Or.inl ⟨by rfl, ?_⟩) ?_
                rotate_left
                focus
                  intro w9
                  go_simp
                  try with_reducible rfl
                try simp only [Act.put, List.setIfInBounds_toArray, List.set_cons_zero, List.set_cons_succ]
                refine wpAny_done (by kernel_rfl) ?_ _
                obtain ⟨⟨x0, x1, x2, x3⟩, f0, f1, f2, f3⟩ := HA6.out.own.at hacc.out col (by rw [hacc.out]; exact hil)
                obtain ⟨z0, z1, z2, z3⟩ := HY5.out _ hb6
                have HA7 : Hid (Ap _ _ _ _ _ _ _ _) := HA6.out.put hacc.out col (by rw [hacc.out]; exact hil) ⟨vk, vn, vf, vs⟩
                go_wp2_with fail
                go_roundw
                case rel => exact ⟨col + 1, at2, f, _, by omega, (by rw [show ((col + 1 : Nat) : Int) - 1 = (col : Int) by omega]), rfl, by omega, by omega, (show _ = _ by rw [List.length_set]; exact hacc.out), HS, HA7, HOk.out⟩
                case measure => simp [intOf]; omega
          · have HN : Hid (d = (none, 41)) := by
              have h1 := HF.out
              rw [HS.out, hrr] at h1
              exact h1
            clear HS HF HR1 CV hRI hb5 hbK hrr
            go_wp2_with fail
            go_quiet (fail)
            go_wp2_with fail
            go_ret2
            exact AppP.no HN.out rfl (bl_drewN HA5.out.bl _)
    · rw [if_neg hsz] at HF
      have a1 : (65536 : Int) < (s.size : Int) := by omega
      go_wp2_with fail
      go_ret2
      exact AppP.no HF.out rfl HBw2.out
  · rw [if_neg hel] at HF
    have hel' : (el != 0) = true := by simpa using hel
    go_wp2_with fail
    go_ret2
    exact AppP.no HF.out rfl HBw2.out

end Go.Proofs.YtinlgaefgedmcaaGreatDoor
