/- The walk of Decode of rows. The walk of the document's Decode of rows. -/
import Derived.Test.YtdogiidgajebiabDoorGWRvs
namespace Go.Proofs.YtdogiidgajebiabDoor
open Go.RowKit
set_option maxRecDepth 100000

/-- a row and an error are told -/
def DcP (d : List Vl × Int) (w : World) (e : Ending) (w' : World) : Prop := ∃ v, e = .returned (.tuple #[v, .int .i64 d.2]) ∧ OwnV w' w.heap.size v d.1 ∧ Below w.heap.size w w'
theorem DcP.no {d : List Vl × Int} {w w' : World} {e : Ending} (n : Int) (he : e = .returned (.tuple #[.slice none 0 0, .int .i64 n])) (h : d = ([], n)) (hw : Below w.heap.size w w') : DcP d w e w' := by
  subst h
  exact ⟨_, he, OwnV.nil _ _, hw⟩
theorem DcP.yes {d : List Vl × Int} {w w' : World} {e : Ending} (v : Value) (L : List Vl) (he : e = .returned (.tuple #[v, .int .i64 0])) (h : d = (L, 0)) (ho : OwnV w' w.heap.size v L) (hw : Below w.heap.size w w') : DcP d w e w' := by
  subst h
  exact ⟨_, he, ho, hw⟩
theorem OwnV.base {w : World} {B C : Nat} {v : Value} {L : List Vl} (h : OwnV w B v L) (hc : C ≤ B) : OwnV w C v L := by
  refine ⟨h.1, ?_⟩
  rcases h.2 with h1 | ⟨g, cap, cur, e, hb', r⟩
  · exact .inl h1
  · exact .inr ⟨g, cap, cur, e, Nat.le_trans hc hb', r⟩

theorem rowR_le {t : Tb} {s : ByteArray} (hc : checkS t = 0) (hs : s.size ≤ 65536) {L : List Vl} {k : Nat} (h : rowR t.cs s = some (L, k)) : k ≤ s.size := by
  unfold rowR at h
  by_cases h1 : s.size < (t.cs.length + 3) / 4
  · rw [if_pos h1] at h
    cases h
  rw [if_neg h1] at h
  cases h2 : spB s t.cs.length (4 * ((t.cs.length + 3) / 4)) with
  | false => rw [h2] at h; cases h
  | true =>
    rw [h2, if_pos rfl, rowA_K] at h
    cases h3 : rowK s (t.cs.map Cl.kd) 0 ((t.cs.length + 3) / 4) with
    | none => rw [h3] at h; cases h
    | some q =>
      rw [h3] at h
      dsimp only at h
      have hk := rowK_ok s hs _ _ _ q (fun c hcm => by obtain ⟨c', hc', rfl⟩ := List.mem_map.1 hcm; exact checkS_kd hc c' hc') (by omega) h3
      cases h4 : adAll t.cs q.1 with
      | false => rw [h4] at h; cases h
      | true =>
        rw [h4, if_pos rfl] at h
        injection h with h
        subst h
        exact hk.2.1

set_option maxHeartbeats 4000000 in
theorem decode_any (t : Tb) (a : TabP) (s : ByteArray) (w : World) (hV : TabV w w.heap.size t a) (hok : t.ok) (hs : s.size ≤ 140737488351232) (hE : Env w) :
    Calls Tryd.prog 11 #[a.val t, .string s] w (DcP (decR t s) w) := by
  obtain ⟨pc, cc, pk, ck, px, cx, pr, cr⟩ := a
  have CC : Hid (∀ w1, Below w.heap.size w w1 → Calls Tryd.prog 22 #[.agg #[.string t.nm, .slice pc t.cs.length cc, .slice pk t.key.length ck, .slice px t.ix.length cx, .slice pr t.rf.length cr]] w1 fun e w' => e = .returned (.int .i64 (checkS t)) ∧ Below w1.heap.size w1 w') := fun w1 hb => check_anyT t ⟨pc, cc, pk, ck, px, cx, pr, cr⟩ w1 (hV.on hb) hok (hE.on hb)
  have CR : Hid (checkS t = 0 → s.size ≤ 65536 → ∀ w1, Below w.heap.size w w1 → Calls Tryd.prog 23 #[.slice pc t.cs.length cc, .string s] w1 (RowP (rowR t.cs s) w1)) := fun hc hz w1 hb => readRow_any t.cs pc cc s w1 (hV.on hb).cs (checkS_counts t hc).1 (checkS_counts t hc).2 (checkS_kd hc) hz (hE.on hb)
  have HB : Hid (BoxT _ _ _ _) := BoxT.new w t ⟨pc, cc, pk, ck, px, cx, pr, cr⟩
  have hb0 : Below w.heap.size w (w.alloc (.cells #[.string t.nm, .slice pc t.cs.length cc, .slice pk t.key.length ck, .slice px t.ix.length cx, .slice pr t.rf.length cr] 27)) := by go_grown
  have HF : Hid (decR t s = if checkS t = 0 then (if s.size ≤ 65536 then (match decO t s with | none => ([], 41) | some l => (l, 0)) else ([], 3)) else ([], checkS t)) := rfl
  have HLe : Hid (checkS t = 0 → s.size ≤ 65536 → ∀ L k, rowR t.cs s = some (L, k) → k ≤ s.size) := fun hc hz L k h => rowR_le hc hz h
  have HO : Hid (decO t s = match rowR t.cs s with | none => none | some q => if q.2 = s.size then some q.1 else none) := rfl
  clear hV hok hE
  generalize decR t s = d at *
  generalize decO t s = oo at *
  generalize rowR t.cs s = rr at *
  unfold TabP.val
  dsimp only
  by_cases hch : checkS t = 0
  · have CR1 : Hid _ := CR.out hch
    have HLe1 : Hid _ := HLe.out hch
    clear HLe
    rw [hch] at CC
    rw [if_pos hch] at HF
    clear CR hch
    by_cases hz : s.size ≤ 65536
    · have CR2 : Hid _ := CR1.out hz
      have HLe2 : Hid _ := HLe1.out hz
      clear HLe1
      rw [if_pos hz] at HF
      have hz' : ¬ (65536 : Int) < (s.size : Int) := by omega
      clear CR1
      go_enter Tryd.func11, Tryd.ntmps11
      go_wp2_with fail
      refine (CC.out _ hb0).mono ?_
      rintro e w1 ⟨rfl, hb1⟩
      have h01 : Below w.heap.size w w1 := hb0.trans (hb1.mono hb0.size)
      have HB1 : Hid (BoxT w1 w.heap.size t ⟨pc, cc, pk, ck, px, cx, pr, cr⟩) := HB.out.on hb1 (by simp)
      obtain ⟨hz1, e0, e1, e2, e3, e4⟩ := HB1.out
      dsimp only at e0 e1 e2 e3 e4
      clear CC hb1 hb0 HB
      go_wp2_with fail
      refine (CR2.out _ h01).mono ?_
      rintro e w2 ⟨v, k, b, rfl, hr, hb2⟩
      have h02 : Below w.heap.size w w2 := h01.trans (hb2.mono h01.size)
      rcases hr with ⟨rfl, L, hrr, hO2⟩ | ⟨rfl, hrr⟩
      · have hHO := HO.out
        rw [hrr] at hHO
        dsimp only at hHO
        have HOw : Hid (OwnV w2 w.heap.size v L) := hO2.base h01.size
        by_cases hk : k = s.size
        · rw [if_pos hk] at hHO
          have hd : Hid (d = (L, 0)) := by have := HF.out; rw [hHO] at this; exact this
          have hk' : ¬ ((k : Int) < (s.size : Int)) := by omega
          clear HF HO hHO hrr hO2 hk
          go_wp2_with fail
          go_ret2
          exact DcP.yes _ L rfl hd.out HOw.out h02
        · rw [if_neg hk] at hHO
          have hd : Hid (d = ([], 41)) := by have := HF.out; rw [hHO] at this; exact this
          by_cases hk2 : k < s.size
          · have hk' : ((k : Int) < (s.size : Int)) := by omega
            clear HF HO hHO hrr hO2 hk
            go_wp2_with fail
            go_ret2
            exact DcP.no 41 rfl hd.out h02
          · have := HLe2.out L k hrr
            omega
      · have hHO := HO.out
        rw [hrr] at hHO
        dsimp only at hHO
        have hd : Hid (d = ([], 41)) := by have := HF.out; rw [hHO] at this; exact this
        clear HF HO hHO hrr
        go_wp2_with fail
        go_ret2
        exact DcP.no 41 rfl hd.out h02
    · rw [if_neg hz] at HF
      have hz' : (65536 : Int) < (s.size : Int) := by omega
      clear CR1
      go_enter Tryd.func11, Tryd.ntmps11
      go_wp2_with fail
      refine (CC.out _ hb0).mono ?_
      rintro e w1 ⟨rfl, hb1⟩
      have h01 : Below w.heap.size w w1 := hb0.trans (hb1.mono hb0.size)
      go_wp2_with fail
      go_ret2
      exact DcP.no 3 rfl HF.out h01
  · rw [if_neg hch] at HF
    have hch' : (checkS t != 0) = true := by simp [hch]
    generalize checkS t = ch at *
    clear CR
    go_enter Tryd.func11, Tryd.ntmps11
    go_wp2_with fail
    refine (CC.out _ hb0).mono ?_
    rintro e w1 ⟨rfl, hb1⟩
    have h01 : Below w.heap.size w w1 := hb0.trans (hb1.mono hb0.size)
    go_wp2_with fail
    go_ret2
    exact DcP.no ch rfl HF.out h01

end Go.Proofs.YtdogiidgajebiabDoor

namespace Go.Proofs.YtdogiidgajebiabDoor
open Go.RowKit
set_option maxRecDepth 100000

theorem info_intD : (Tryd.prog.info? 3).map (fun i => (i.zero, i.size, i.bytes)) = some (some (.int .i64 0), 1, 8) := by kernel_rfl
/-- 'append(l, x)' -/
theorem wpList_apE {ops : Array Oper} {rest : List Oper} {o : Oper} {a : Act} {Q : Exit → Act → World → Prop} (w : World) (hgd : o.guard = none) (s x : Operand) (T S : TypeId) (z : Value) (size bytes : Nat)
    (ho : o.op = .call { callee := .builtin .append, args := #[s, x], argTypes := #[S, S] }) (hu : Tryd.prog.underlying S = some (.slice T))
    (hinfo : (Tryd.prog.info? T).map (fun i => (i.zero, i.size, i.bytes)) = some (some z, size, bytes)) (hzs : z.cells.size = size) (hsz : 0 < size)
    (B : Nat) (v : Value) (n : Nat) (xs : List Value) (hs : a.eval s = v) (hown : w.ownsRow B T size v n xs)
    (us : List Value) (hus : us.length = size) (hone : ∀ u ∈ us, u.oneCell' = true) (g : Nat) (hx : a.eval x = .slice (some ⟨g, 0, none⟩) 1 1) (hgz : g = w.heap.size)
    (hlen : (n + 1) * bytes ≤ 140737488355328) (hlen2 : n + 1 ≤ 140737488355328) (hbase : B ≤ w.heap.size)
    (h : ∀ v' w', w'.ownsRow B T size v' (n + 1) (xs ++ us) → Below B w w' → (w.alloc (.cells us.toArray T)).grownBy w' v.ownBlock → wpList Tryd.prog ops Q rest (a.put o.dst v') w') : wpList Tryd.prog ops Q (o :: rest) a (w.alloc (.cells us.toArray T)) := by
  obtain ⟨i, hi, hz0, hz1, hz2⟩ := info_parts hinfo
  subst hgz
  have hown' := hown.alloc (.cells us.toArray T)
  refine wpList_append_own _ hgd s x S ho B T i z size bytes hu hi hz0 hz1 hz2 hzs hsz v n xs hs hown' ⟨w.heap.size, 0, none⟩ 1 1 us hx (by omega) ?_ hone (by unfold maxLen; omega) hlen (by simp; omega) ?_
  · intro j y hj
    have e : (⟨w.heap.size, 0, none⟩ : Addr).add j = ⟨w.heap.size, j, none⟩ := by unfold Addr.add; split <;> simp_all
    rw [e, World.cell?_alloc_new]
    simpa using hj
  · intro v' w' h1 h2 _
    exact h v' w' h1 (((Below.refl _ _).alloc hbase _).grown h2 (by simp; omega) (fun k hk => (hown'.lt k hk).1)) h2

/-- a slice of numbers that the call owns -/
def OwnI (w : World) (B : Nat) (v : Value) (L : List Int) : Prop := w.ownsRow B 3 1 v L.length (L.map (.int .i64))
theorem OwnI.row {w : World} {B : Nat} {v : Value} {L : List Int} (h : OwnI w B v L) : ∃ (p : Option Addr) (c : Nat), v = .slice p L.length c ∧ L.length ≤ c ∧ RowI w w.heap.size p L := by
  have h0 := h
  rcases h.2 with ⟨h1, h2⟩ | ⟨g, cap, cur, e, hb, hg, hc, _⟩
  · have : L = [] := List.eq_nil_of_length_eq_zero h2
    subst this
    exact ⟨none, 0, h1, Nat.le_refl _, fun i hi => absurd hi (by simp)⟩
  · subst e
    refine ⟨_, cap, rfl, hc, fun i hi => ⟨g, 0, rfl, (Array.getElem?_eq_some_iff.1 hg).1, ?_⟩⟩
    have h1 := World.ownsRow.cellAt h0 i (by omega)
    rw [Nat.zero_add, h1, List.getElem?_map, List.getElem?_eq_getElem hi]
    rfl

theorem mapK_take (cs : List Cl) (j : Nat) (hj : j < cs.length) : (cs.take (j + 1)).map Cl.kd = (cs.take j).map Cl.kd ++ [cs[j].kd] := by
  rw [← List.take_append_getElem hj, List.map_append]
  rfl



end Go.Proofs.YtdogiidgajebiabDoor
