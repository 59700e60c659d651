/- The walk of Decode of rows. The walk of the document's Decode of rows. -/
import Derived.Test.YtgnedioggpgeeaaDoorGWRvs
namespace Go.Proofs.YtgnedioggpgeeaaDoor
open Go.RowKit
set_option maxRecDepth 100000

/-- a row and an error are told -/
def DcP (d : List Vl × Int) (w : World) (e : Ending) (w' : World) : Prop := ∃ v, e = .returned (.tuple #[v, .int .i64 d.2]) ∧ OwnV w' w.heap.size v d.1 ∧ Below w.heap.size w w'
theorem DcP.no {d : List Vl × Int} {w w' : World} {e : Ending} (n : Int) (he : e = .returned (.tuple #[.slice none 0 0, .int .i64 n])) (h : d = ([], n)) (hw : Below w.heap.size w w') : DcP d w e w' := by
  subst h
  exact ⟨_, he, OwnV.nil _ _, hw⟩
theorem DcP.yes {d : List Vl × Int} {w w' : World} {e : Ending} (v : Value) (L : List Vl) (he : e = .returned (.tuple #[v, .int .i64 0])) (h : d = (L, 0)) (ho : OwnV w' w.heap.size v L) (hw : Below w.heap.size w w') : DcP d w e w' := by
  subst h
  exact ⟨_, he, ho, hw⟩
theorem OwnV.base {w : World} {B C : Nat} {v : Value} {L : List Vl} (h : OwnV w B v L) (hc : C ≤ B) : OwnV w C v L := by
  refine ⟨h.1, ?_⟩
  rcases h.2 with h1 | ⟨g, cap, cur, e, hb', r⟩
  · exact .inl h1
  · exact .inr ⟨g, cap, cur, e, Nat.le_trans hc hb', r⟩

theorem rowR_le {t : Tb} {s : ByteArray} (hc : checkS t = 0) (hs : s.size ≤ 65536) {L : List Vl} {k : Nat} (h : rowR t.cs s = some (L, k)) : k ≤ s.size := by
  unfold rowR at h
  by_cases h1 : s.size < (t.cs.length + 3) / 4
  · rw [if_pos h1] at h
    cases h
  rw [if_neg h1] at h
  cases h2 : spB s t.cs.length (4 * ((t.cs.length + 3) / 4)) with
  | false => rw [h2] at h; cases h
  | true =>
    rw [h2, if_pos rfl, rowA_K] at h
    cases h3 : rowK s (t.cs.map Cl.kd) 0 ((t.cs.length + 3) / 4) with
    | none => rw [h3] at h; cases h
    | some q =>
      rw [h3] at h
      dsimp only at h
      have hk := rowK_ok s hs _ _ _ q (fun c hcm => by obtain ⟨c', hc', rfl⟩ := List.mem_map.1 hcm; exact checkS_kd hc c' hc') (by omega) h3
      cases h4 : adAll t.cs q.1 with
      | false => rw [h4] at h; cases h
      | true =>
        rw [h4, if_pos rfl] at h
        injection h with h
        subst h
        exact hk.2.1

set_option maxHeartbeats 4000000 in
theorem decode_any (t : Tb) (a : TabP) (s : ByteArray) (w : World) (hV : TabV w w.heap.size t a) (hok : t.ok) (hs : s.size ≤ 140737488351232) (hE : Env w) :
    Calls Tryd.prog 10 #[a.val t, .string s] w (DcP (decR t s) w) := by
  obtain ⟨pc, cc, pk, ck, px, cx, pr, cr⟩ := a
  have CC : Hid (∀ w1, Below w.heap.size w w1 → Calls Tryd.prog 22 #[.agg #[.string t.nm, .slice pc t.cs.length cc, .slice pk t.key.length ck, .slice px t.ix.length cx, .slice pr t.rf.length cr]] w1 fun e w' => e = .returned (.int .i64 (checkS t)) ∧ Below w1.heap.size w1 w') := fun w1 hb => check_anyT t ⟨pc, cc, pk, ck, px, cx, pr, cr⟩ w1 (hV.on hb) hok (hE.on hb)
  have CR : Hid (checkS t = 0 → s.size ≤ 65536 → ∀ w1, Below w.heap.size w w1 → Calls Tryd.prog 23 #[.slice pc t.cs.length cc, .string s] w1 (RowP (rowR t.cs s) w1)) := fun hc hz w1 hb => readRow_any t.cs pc cc s w1 (hV.on hb).cs (checkS_counts t hc).1 (checkS_counts t hc).2 (checkS_kd hc) hz (hE.on hb)
  have HB : Hid (BoxT _ _ _ _) := BoxT.new w t ⟨pc, cc, pk, ck, px, cx, pr, cr⟩
  have hb0 : Below w.heap.size w (w.alloc (.cells #[.string t.nm, .slice pc t.cs.length cc, .slice pk t.key.length ck, .slice px t.ix.length cx, .slice pr t.rf.length cr] 27)) := by go_grown
  have HF : Hid (decR t s = if checkS t = 0 then (if s.size ≤ 65536 then (match decO t s with | none => ([], 41) | some l => (l, 0)) else ([], 3)) else ([], checkS t)) := rfl
  have HLe : Hid (checkS t = 0 → s.size ≤ 65536 → ∀ L k, rowR t.cs s = some (L, k) → k ≤ s.size) := fun hc hz L k h => rowR_le hc hz h
  have HO : Hid (decO t s = match rowR t.cs s with | none => none | some q => if q.2 = s.size then some q.1 else none) := rfl
  clear hV hok hE
  generalize decR t s = d at *
  generalize decO t s = oo at *
  generalize rowR t.cs s = rr at *
  unfold TabP.val
  dsimp only
  by_cases hch : checkS t = 0
  · have CR1 : Hid _ := CR.out hch
    have HLe1 : Hid _ := HLe.out hch
    clear HLe
    rw [hch] at CC
    rw [if_pos hch] at HF
    clear CR hch
    by_cases hz : s.size ≤ 65536
    · have CR2 : Hid _ := CR1.out hz
      have HLe2 : Hid _ := HLe1.out hz
      clear HLe1
      rw [if_pos hz] at HF
      have hz' : ¬ (65536 : Int) < (s.size : Int) := by omega
      clear CR1
      go_enter Tryd.func10, Tryd.ntmps10
      go_wp2_with fail
      refine (CC.out _ hb0).mono ?_
      rintro e w1 ⟨rfl, hb1⟩
      have h01 : Below w.heap.size w w1 := hb0.trans (hb1.mono hb0.size)
      have HB1 : Hid (BoxT w1 w.heap.size t ⟨pc, cc, pk, ck, px, cx, pr, cr⟩) := HB.out.on hb1 (by simp)
      obtain ⟨hz1, e0, e1, e2, e3, e4⟩ := HB1.out
      dsimp only at e0 e1 e2 e3 e4
      clear CC hb1 hb0 HB
      go_wp2_with fail
      refine (CR2.out _ h01).mono ?_
      rintro e w2 ⟨v, k, b, rfl, hr, hb2⟩
      have h02 : Below w.heap.size w w2 := h01.trans (hb2.mono h01.size)
      rcases hr with ⟨rfl, L, hrr, hO2⟩ | ⟨rfl, hrr⟩
      · have hHO := HO.out
        rw [hrr] at hHO
        dsimp only at hHO
        have HOw : Hid (OwnV w2 w.heap.size v L) := hO2.base h01.size
        by_cases hk : k = s.size
        · rw [if_pos hk] at hHO
          have hd : Hid (d = (L, 0)) := by have := HF.out; rw [hHO] at this; exact this
          have hk' : ¬ ((k : Int) < (s.size : Int)) := by omega
          clear HF HO hHO hrr hO2 hk
          go_wp2_with fail
          go_ret2
          exact DcP.yes _ L rfl hd.out HOw.out h02
        · rw [if_neg hk] at hHO
          have hd : Hid (d = ([], 41)) := by have := HF.out; rw [hHO] at this; exact this
          by_cases hk2 : k < s.size
          · have hk' : ((k : Int) < (s.size : Int)) := by omega
            clear HF HO hHO hrr hO2 hk
            go_wp2_with fail
            go_ret2
            exact DcP.no 41 rfl hd.out h02
          · have := HLe2.out L k hrr
            omega
      · have hHO := HO.out
        rw [hrr] at hHO
        dsimp only at hHO
        have hd : Hid (d = ([], 41)) := by have := HF.out; rw [hHO] at this; exact this
        clear HF HO hHO hrr
        go_wp2_with fail
        go_ret2
        exact DcP.no 41 rfl hd.out h02
    · rw [if_neg hz] at HF
      have hz' : (65536 : Int) < (s.size : Int) := by omega
      clear CR1
      go_enter Tryd.func10, Tryd.ntmps10
      go_wp2_with fail
      refine (CC.out _ hb0).mono ?_
      rintro e w1 ⟨rfl, hb1⟩
      have h01 : Below w.heap.size w w1 := hb0.trans (hb1.mono hb0.size)
      go_wp2_with fail
      go_ret2
      exact DcP.no 3 rfl HF.out h01
  · rw [if_neg hch] at HF
    have hch' : (checkS t != 0) = true := by simp [hch]
    generalize checkS t = ch at *
    clear CR
    go_enter Tryd.func10, Tryd.ntmps10
    go_wp2_with fail
    refine (CC.out _ hb0).mono ?_
    rintro e w1 ⟨rfl, hb1⟩
    have h01 : Below w.heap.size w w1 := hb0.trans (hb1.mono hb0.size)
    go_wp2_with fail
    go_ret2
    exact DcP.no ch rfl HF.out h01
end Go.Proofs.YtgnedioggpgeeaaDoor

namespace Go.Proofs.YtgnedioggpgeeaaDoor
open Go.RowKit
set_option maxRecDepth 100000

theorem info_intD : (Tryd.prog.info? 3).map (fun i => (i.zero, i.size, i.bytes)) = some (some (.int .i64 0), 1, 8) := by kernel_rfl
/-- 'append(l, x)' -/
theorem wpList_apE {ops : Array Oper} {rest : List Oper} {o : Oper} {a : Act} {Q : Exit → Act → World → Prop} (w : World) (hgd : o.guard = none) (s x : Operand) (T S : TypeId) (z : Value) (size bytes : Nat)
    (ho : o.op = .call { callee := .builtin .append, args := #[s, x], argTypes := #[S, S] }) (hu : Tryd.prog.underlying S = some (.slice T))
    (hinfo : (Tryd.prog.info? T).map (fun i => (i.zero, i.size, i.bytes)) = some (some z, size, bytes)) (hzs : z.cells.size = size) (hsz : 0 < size)
    (B : Nat) (v : Value) (n : Nat) (xs : List Value) (hs : a.eval s = v) (hown : w.ownsRow B T size v n xs)
    (us : List Value) (hus : us.length = size) (hone : ∀ u ∈ us, u.oneCell' = true) (g : Nat) (hx : a.eval x = .slice (some ⟨g, 0, none⟩) 1 1) (hgz : g = w.heap.size)
    (hlen : (n + 1) * bytes ≤ 140737488355328) (hlen2 : n + 1 ≤ 140737488355328) (hbase : B ≤ w.heap.size)
    (h : ∀ v' w', w'.ownsRow B T size v' (n + 1) (xs ++ us) → Below B w w' → (w.alloc (.cells us.toArray T)).grownBy w' v.ownBlock → wpList Tryd.prog ops Q rest (a.put o.dst v') w') : wpList Tryd.prog ops Q (o :: rest) a (w.alloc (.cells us.toArray T)) := by
  obtain ⟨i, hi, hz0, hz1, hz2⟩ := info_parts hinfo
  subst hgz
  have hown' := hown.alloc (.cells us.toArray T)
  refine wpList_append_own _ hgd s x S ho B T i z size bytes hu hi hz0 hz1 hz2 hzs hsz v n xs hs hown' ⟨w.heap.size, 0, none⟩ 1 1 us hx (by omega) ?_ hone (by unfold maxLen; omega) hlen (by simp; omega) ?_
  · intro j y hj
    have e : (⟨w.heap.size, 0, none⟩ : Addr).add j = ⟨w.heap.size, j, none⟩ := by unfold Addr.add; split <;> simp_all
    rw [e, World.cell?_alloc_new]
    simpa using hj
  · intro v' w' h1 h2 _
    exact h v' w' h1 (((Below.refl _ _).alloc hbase _).grown h2 (by simp; omega) (fun k hk => (hown'.lt k hk).1)) h2

/-- a slice of numbers that the call owns -/
def OwnI (w : World) (B : Nat) (v : Value) (L : List Int) : Prop := w.ownsRow B 3 1 v L.length (L.map (.int .i64))
theorem OwnI.row {w : World} {B : Nat} {v : Value} {L : List Int} (h : OwnI w B v L) : ∃ (p : Option Addr) (c : Nat), v = .slice p L.length c ∧ L.length ≤ c ∧ RowI w w.heap.size p L := by
  have h0 := h
  rcases h.2 with ⟨h1, h2⟩ | ⟨g, cap, cur, e, hb, hg, hc, _⟩
  · have : L = [] := List.eq_nil_of_length_eq_zero h2
    subst this
    exact ⟨none, 0, h1, Nat.le_refl _, fun i hi => absurd hi (by simp)⟩
  · subst e
    refine ⟨_, cap, rfl, hc, fun i hi => ⟨g, 0, rfl, (Array.getElem?_eq_some_iff.1 hg).1, ?_⟩⟩
    have h1 := World.ownsRow.cellAt h0 i (by omega)
    rw [Nat.zero_add, h1, List.getElem?_map, List.getElem?_eq_getElem hi]
    rfl

theorem mapK_take (cs : List Cl) (j : Nat) (hj : j < cs.length) : (cs.take (j + 1)).map Cl.kd = (cs.take j).map Cl.kd ++ [cs[j].kd] := by
  rw [← List.take_append_getElem hj, List.map_append]
  rfl

set_option maxHeartbeats 8000000 in
theorem rdecode_any (t : Tb) (a : TabP) (s : ByteArray) (w : World) (hV : TabV w w.heap.size t a) (hok : t.ok) (hs : s.size ≤ 140737488351232) (hE : Env w) :
    Calls Tryd.prog 11 #[a.val t, .string s] w (DcP (decR t s) w) := by
  obtain ⟨pc, cc, pk, ck, px, cx, pr, cr⟩ := a
  have CC : Hid (∀ w1, Below w.heap.size w w1 → Calls Tryd.prog 24 #[.agg #[.string t.nm, .slice pc t.cs.length cc, .slice pk t.key.length ck, .slice px t.ix.length cx, .slice pr t.rf.length cr]] w1 fun e w' => e = .returned (.int .i64 (checkS t)) ∧ Below w1.heap.size w1 w') := fun w1 hb => rcheck_anyT t ⟨pc, cc, pk, ck, px, cx, pr, cr⟩ w1 (hV.on hb) hok (hE.on hb)
  have CV : Hid (checkS t = 0 → s.size ≤ 65536 → ∀ w1 (p : Option Addr) (c : Nat), RowI w1 w1.heap.size p (t.cs.map Cl.kd) → Calls Tryd.prog 25 #[.slice p (t.cs.map Cl.kd).length c, .string s] w1 (RvsP (rowKR (t.cs.map Cl.kd) s) w1)) := fun hc hz w1 p c h => rvalues_any (t.cs.map Cl.kd) p c s w1 h (by rw [List.length_map]; exact (checkS_counts t hc).2) (fun c hcm => by obtain ⟨c', hc', rfl⟩ := List.mem_map.1 hcm; exact checkS_kd hc c' hc') hz
  have CA : Hid (∀ w1 (l : List Vl) (p : Option Addr) (c : Nat), Below w.heap.size w w1 → RowV w1 w1.heap.size p l → (∀ v ∈ l, v.ok) → l.length ≤ 64 → Calls Tryd.prog 19 #[.agg #[.string t.nm, .slice pc t.cs.length cc, .slice pk t.key.length ck, .slice px t.ix.length cx, .slice pr t.rf.length cr], .slice p l.length c] w1 fun e w' => e = .returned (.int .i64 (admS t l)) ∧ Below w1.heap.size w1 w') := fun w1 l p c hb h1 h2 h3 => radmits_any t ⟨pc, cc, pk, ck, px, cx, pr, cr⟩ l p c w1 (hV.on hb) hok h1 h2 (by omega) (hE.on hb)
  have HB : Hid (BoxT _ _ _ _) := BoxT.new w t ⟨pc, cc, pk, ck, px, cx, pr, cr⟩
  have hb0 : Below w.heap.size w (w.alloc (.cells #[.string t.nm, .slice pc t.cs.length cc, .slice pk t.key.length ck, .slice px t.ix.length cx, .slice pr t.rf.length cr] 27)) := by go_grown
  have HF : Hid (decR t s = if checkS t = 0 then (if s.size ≤ 65536 then (match decO t s with | none => ([], 41) | some l => (l, 0)) else ([], 3)) else ([], checkS t)) := rfl
  have HO : Hid (checkS t = 0 → s.size ≤ 65536 → decO t s = match rowKR (t.cs.map Cl.kd) s with | none => none | some q => if q.2 = s.size ∧ admS t q.1 = 0 then some q.1 else none) := fun hc hz => decO_K hc hz
  have HOk : Hid (checkS t = 0 → s.size ≤ 65536 → ∀ L k, rowKR (t.cs.map Cl.kd) s = some (L, k) → (∀ v ∈ L, v.ok) ∧ L.length ≤ 64) := fun hc hz L k h => by
    have h64 := (checkS_counts t hc).2
    unfold rowKR at h
    rw [List.length_map] at h
    by_cases h1 : s.size < (t.cs.length + 3) / 4
    · rw [if_pos h1] at h
      cases h
    rw [if_neg h1] at h
    cases h2 : spB s t.cs.length (4 * ((t.cs.length + 3) / 4)) with
    | false => rw [h2] at h; cases h
    | true =>
      rw [h2, if_pos rfl] at h
      have hk := rowK_ok s hz _ _ _ (L, k) (fun c hcm => by obtain ⟨c', hc', rfl⟩ := List.mem_map.1 hcm; exact checkS_kd hc c' hc') (by omega) h
      exact ⟨hk.1, by have := hk.2.2; rw [List.length_map] at this; dsimp only at this; omega⟩
  have HCs : Hid (RowC w w.heap.size pc t.cs ∧ t.cs.length ≤ 17592186043904) := ⟨hV.cs, by have := hok.cs; omega⟩
  clear hV hok hE
  generalize decR t s = d at *
  generalize decO t s = oo at *
  generalize rowKR (t.cs.map Cl.kd) s = rr at *
  unfold TabP.val
  dsimp only
  by_cases hch : checkS t = 0
  · have CV1 : Hid _ := CV.out hch
    have HO1 : Hid _ := HO.out hch
    have HOk1 : Hid _ := HOk.out hch
    rw [hch] at CC
    rw [if_pos hch] at HF
    clear CV hch HO HOk
    by_cases hz : s.size ≤ 65536
    · have CV2 : Hid _ := CV1.out hz
      have HO2 : Hid _ := HO1.out hz
      have HOk2 : Hid _ := HOk1.out hz
      rw [if_pos hz] at HF
      have hz' : ¬ (65536 : Int) < (s.size : Int) := by omega
      clear CV1 HO1 HOk1
      go_enter Tryd.func11, Tryd.ntmps11
      go_wp2_with fail
      refine (CC.out _ hb0).mono ?_
      rintro e w1 ⟨rfl, hb1⟩
      have H01 : Hid (Below w.heap.size w w1) := hb0.trans (hb1.mono hb0.size)
      have HB1 : Hid (BoxT w1 w.heap.size t ⟨pc, cc, pk, ck, px, cx, pr, cr⟩) := HB.out.on hb1 (by simp)
      clear CC hb1 hb0 HB
      have hlen := HCs.out.2
      have hbz := HB1.out.hg
      go_wp2_with fail
      go_loopw [7, 8] (fun u i wr => ∃ j : Nat, j ≤ t.cs.length ∧ i = .int .i64 (j : Int) ∧ Hid (OwnI wr w1.heap.size u ((t.cs.take j).map Cl.kd)) ∧ Hid (Below w1.heap.size w1 wr)) (fun _ i _ => t.cs.length - (intOf i).toNat)
      case atStart => exact ⟨0, Nat.zero_le _, by go_num, World.ownsRow_nil _ _ _ _, Below.refl _ _⟩
      case round =>
        obtain ⟨j, hj, rfl, hO, hB⟩ := hrel
        have HBr : Hid (BoxT wr w.heap.size t ⟨pc, cc, pk, ck, px, cx, pr, cr⟩) := HB1.out.on hB.out hbz
        obtain ⟨hz1, e0, e1, e2, e3, e4⟩ := HBr.out
        dsimp only at e0 e1 e2 e3 e4
        have H0r : Hid (Below w.heap.size w wr) := H01.out.trans (hB.out.mono H01.out.size)
        by_cases hj0 : j = t.cs.length
        · subst hj0
          rw [List.take_length] at hO
          obtain ⟨p7, c7, rfl, _, hR7⟩ := hO.out.row
          have C7 : Hid (Calls _ _ _ _ _) := CV2.out wr p7 c7 hR7
          clear CV2 hR7 hO
          generalize (t.cs.map Cl.kd).length = nk at *
          go_wp2_with fail
          refine C7.out.mono ?_
          rintro e w2 ⟨v, n, rfl, hr, hb2⟩
          have H02 : Hid (Below w.heap.size w w2) := H0r.out.trans (hb2.mono H0r.out.size)
          have HB2 : Hid (BoxT w2 w.heap.size t ⟨pc, cc, pk, ck, px, cx, pr, cr⟩) := HBr.out.on hb2 hz1
          clear e0 e1 e2 e3 e4
          obtain ⟨hz2, e0, e1, e2, e3, e4⟩ := HB2.out
          dsimp only at e0 e1 e2 e3 e4
          rcases hr with ⟨L, k, hrr, rfl, hO2⟩ | ⟨hrr, rfl, rfl⟩
          · have hHO := HO2.out
            have hok2 := HOk2.out L k hrr
            rw [hrr] at hHO
            dsimp only at hHO
            have HOw : Hid (OwnV w2 w.heap.size v L) := hO2.base H0r.out.size
            obtain ⟨pv, cv, rfl, hRv⟩ := hO2.row
            have C8 : Hid (Calls _ _ _ _ _) := CA.out w2 L pv cv H02.out hRv hok2.1 hok2.2
            clear hO2 hRv hok2 CA HOk2 HO2 hrr hb2
            by_cases hk : k = s.size
            · subst hk
              generalize admS t L = am at *
              by_cases ham : am = 0
              · subst ham
                have hd : Hid (d = (L, 0)) := by
                  rw [if_pos ⟨rfl, rfl⟩] at hHO
                  have := HF.out
                  rw [hHO] at this
                  exact this
                clear hHO HF
                go_wp2_with fail
                refine C8.out.mono ?_
                rintro e w3 ⟨rfl, hb3⟩
                have H03 : Hid (Below w.heap.size w w3) := H02.out.trans (hb3.mono H02.out.size)
                have HO3 : Hid (OwnV w3 w.heap.size _ L) := HOw.out.kept hb3
                go_wp2_with fail
                go_ret2
                exact DcP.yes _ L rfl hd.out HO3.out H03.out
              · have hd : Hid (d = ([], 41)) := by
                  rw [if_neg (fun h => ham h.2)] at hHO
                  have := HF.out
                  rw [hHO] at this
                  exact this
                have ham' : (am != 0) = true := by simp [ham]
                clear hHO HF
                go_wp2_with fail
                refine C8.out.mono ?_
                rintro e w3 ⟨rfl, hb3⟩
                have H03 : Hid (Below w.heap.size w w3) := H02.out.trans (hb3.mono H02.out.size)
                go_wp2_with fail
                go_ret2
                exact DcP.no 41 rfl hd.out H03.out
            · have hd : Hid (d = ([], 41)) := by
                rw [if_neg (fun h => hk h.1)] at hHO
                have := HF.out
                rw [hHO] at this
                exact this
              have hk' : ((k : Int) != (s.size : Int)) = true := by simp; omega
              clear hHO HF
              go_wp2_with fail
              go_ret2
              exact DcP.no 41 rfl hd.out H02.out
          · have hHO := HO2.out
            rw [hrr] at hHO
            dsimp only at hHO
            have hd : Hid (d = ([], 41)) := by
              have := HF.out
              rw [hHO] at this
              exact this
            have hk' : ((-1 : Int) != (s.size : Int)) = true := by simp
            clear hHO HF hrr
            go_wp2_with fail
            go_ret2
            exact DcP.no 41 rfl hd.out H02.out
        · have hj1 : j < t.cs.length := by omega
          obtain ⟨b, o, rfl, hbB, _, d1, _⟩ := HCs.out.1 j hj1
          have a1 := (H0r.out.cell (p := ⟨b, o + j * 7 + 1, none⟩) hbB).trans d1
          have HS : Hid ((t.cs.take (j + 1)).map Cl.kd = _) := mapK_take t.cs j hj1
          have hul : ((t.cs.take j).map Cl.kd).length ≤ j := by simp; omega
          have hO' : Hid (wr.ownsRow w1.heap.size 3 1 u7 ((t.cs.take j).map Cl.kd).length (((t.cs.take j).map Cl.kd).map (.int .i64))) := hO.out
          clear d1 hO
          generalize (t.cs.take j).map Cl.kd = U at *
          generalize t.cs[j].kd = kd at *
          go_wp2_with (first | (at_builtin; go_loud (refine wpList_apE _ rfl (.tmp 26) _ 3 23 _ 1 8 rfl Tryd.underlying23 info_intD rfl (by decide) w1.heap.size u7 _ _ (by rfl) hO'.out [.int .i64 kd] rfl (by intro u hu; have e : u = .int .i64 kd := (by simpa using hu); subst e; rfl) _ rfl (by simp) (by omega) (by omega) hB.out.size ?_); intro v6 w6 h6 h7 h8))
          go_roundw
          case rel => exact ⟨j + 1, hj1, by go_num, (show OwnI _ _ _ _ by rw [HS.out]; unfold OwnI; rw [List.length_append, List.map_append]; exact h6), hB.out.trans h7⟩
          case measure => simp [intOf]; omega
    · rw [if_neg hz] at HF
      have hz' : (65536 : Int) < (s.size : Int) := by omega
      clear CV1 HO1 HOk1
      go_enter Tryd.func11, Tryd.ntmps11
      go_wp2_with fail
      refine (CC.out _ hb0).mono ?_
      rintro e w1 ⟨rfl, hb1⟩
      have h01 : Below w.heap.size w w1 := hb0.trans (hb1.mono hb0.size)
      go_wp2_with fail
      go_ret2
      exact DcP.no 3 rfl HF.out h01
  · rw [if_neg hch] at HF
    have hch' : (checkS t != 0) = true := by simp [hch]
    generalize checkS t = ch at *
    clear CV HO HOk
    go_enter Tryd.func11, Tryd.ntmps11
    go_wp2_with fail
    refine (CC.out _ hb0).mono ?_
    rintro e w1 ⟨rfl, hb1⟩
    have h01 : Below w.heap.size w w1 := hb0.trans (hb1.mono hb0.size)
    go_wp2_with fail
    go_ret2
    exact DcP.no ch rfl HF.out h01
end Go.Proofs.YtgnedioggpgeeaaDoor
