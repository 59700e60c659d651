/- Changes there and back. The walk of Decode of rows. The walk of the document's Decode of rows. -/
import Derived.Test.YtfknmblobcjapaaDoorGMInv4
import Derived.Test.YtfknmblobcjapaaDoorGMApl2
import Derived.Test.YtfknmblobcjapaaDoorGWRvs
namespace Go.Proofs.YtfknmblobcjapaaDoor
open Go.RowKit
set_option maxRecDepth 100000

theorem adm_parts {c : Cl} {v : Vl} (h3 : admE c v = 0) : v.chk = 0 ∧ (v.k = 0 ∨ v.k = c.kd) := by
  unfold admE at h3
  by_cases h4 : v.chk = 0
  · refine ⟨h4, ?_⟩
    rw [if_pos h4] at h3
    by_cases h5 : v.k = 0
    · exact .inl h5
    · rw [if_neg h5] at h3
      by_cases h6 : v.k = c.kd
      · exact .inr h6
      · rw [if_neg h6] at h3
        omega
  · rw [if_neg h4] at h3
    exact absurd h3 h4
/-- the bytes of one value: its pair's byte, what it tells -/
theorem row1_parts (v : Vl) : ∃ b : UInt8, rowB [v] = b :: toldB v ∧ pr b 0 = pairN v ∧ pr b 1 = 0 ∧ pr b 2 = 0 ∧ pr b 3 = 0 := by
  have hl : (packK 1 [v] 1).length = 1 := packK_len _ _ _
  obtain ⟨b, hb⟩ := List.length_eq_one_iff.1 hl
  have p : ∀ i (hi : i / 4 < 1), pr ((packK 1 [v] 1)[i / 4]'(by rw [hl]; exact hi)) (i % 4) = if h : i < 1 then pairN ([v][i]'(by simpa using h)) else 0 := fun i hi => pack_pair 1 [v] (by simp) 1 (by simp) i hi
  refine ⟨b, ?_, ?_, ?_, ?_, ?_⟩
  · unfold rowB
    have e1 : ([v].length + 3) / 4 = 1 := by simp
    have e2 : [v].length = 1 := rfl
    rw [e1, e2, hb]
    simp
  · have := p 0 (by decide)
    simpa [hb] using this
  · have := p 1 (by decide)
    simpa [hb] using this
  · have := p 2 (by decide)
    simpa [hb] using this
  · have := p 3 (by decide)
    simpa [hb] using this
theorem pairB_head (b : UInt8) (rest : List UInt8) (i : Nat) (hi : i < 4) : pairB ⟨(b :: rest).toArray⟩ i = pr b i := by
  have h0 : i / 4 = 0 := by omega
  have h1 : i % 4 = i := by omega
  rw [pairB_pr _ i (by rw [h0]; show 0 < (b :: rest).toArray.size; simp)]
  simp only [h0, h1]
  rfl
theorem row1_of {c : Cl} {v : Vl} (rest : List UInt8) (hc : 1 ≤ c.kd ∧ c.kd ≤ 5) (ho : v.ok) (ha : admE c v = 0) : rowR [c] ⟨(rowB [v] ++ rest).toArray⟩ = some ([v], (rowB [v]).length) := by
  obtain ⟨b, e, p0, p1, p2, p3⟩ := row1_parts v
  rw [e, List.cons_append]
  unfold rowR
  have e1 : ([c].length + 3) / 4 = 1 := by simp
  have e3 : [c].length = 1 := rfl
  have hs : (⟨(b :: (toldB v ++ rest)).toArray⟩ : ByteArray).size = (toldB v ++ rest).length + 1 := by
    show (b :: (toldB v ++ rest)).toArray.size = _
    simp
  rw [e1, e3, if_neg (by rw [hs]; omega), rowA_one, pairB_head b _ 0 (by decide), p0]
  have hsp : spB ⟨(b :: (toldB v ++ rest)).toArray⟩ 1 (4 * 1) = true := spB_yes fun i h1 h4 => by
    rw [pairB_head b _ i (by omega)]
    have h5 : i = 1 ∨ i = 2 ∨ i = 3 := by omega
    rcases h5 with rfl | rfl | rfl
    · exact p1
    · exact p2
    · exact p3
  rw [hsp, if_pos rfl]
  have hx : (⟨(b :: (toldB v ++ rest)).toArray⟩ : ByteArray).extract 1 (⟨(b :: (toldB v ++ rest)).toArray⟩ : ByteArray).size = ⟨(toldB v ++ rest).toArray⟩ := by
    apply bytes_eqI
    rw [hs, show (toldB v ++ rest).length + 1 = 1 + (toldB v ++ rest).length by omega, ext_takeI]
    show (toldB v ++ rest).take (toldB v ++ rest).length = (toldB v ++ rest)
    rw [List.take_of_length_le (Nat.le_refl _)]
  rw [hx]
  unfold decA
  obtain ⟨q1, q2⟩ := adm_parts ha
  rw [decV_told v c.kd rest q1 ho q2 hc.1 hc.2]
  dsimp only
  rw [if_pos ha]
  dsimp only
  rw [List.length_cons, Nat.add_comm]
theorem of_row1 {c : Cl} {s : ByteArray} {L : List Vl} {k : Nat} (hc : 1 ≤ c.kd ∧ c.kd ≤ 5) (hs : s.size ≤ 65536) (h : rowR [c] s = some (L, k)) : ∃ v, L = [v] ∧ s.data.toList.take k = rowB [v] ∧ k ≤ s.size ∧ admE c v = 0 ∧ v.ok := by
  unfold rowR at h
  have e1 : ([c].length + 3) / 4 = 1 := by simp
  have e3 : [c].length = 1 := rfl
  rw [e1, e3] at h
  by_cases h1 : s.size < 1
  · rw [if_pos h1] at h
    cases h
  rw [if_neg h1] at h
  cases h2 : spB s 1 (4 * 1) with
  | false => rw [h2] at h; cases h
  | true =>
    rw [h2, if_pos rfl, rowA_one] at h
    cases hd : decA c (pairB s 0) (s.extract 1 s.size) with
    | none => rw [hd] at h; cases h
    | some p =>
      rw [hd] at h
      injection h with h
      injection h with hL hk
      obtain ⟨hv, ha⟩ := decA_some hd
      obtain ⟨t1, t2⟩ := told_decV (v := p.1) (k := p.2) hv hc.1 hc.2 (pairB_le _ _)
      obtain ⟨o1, o2⟩ := decV_ok (v := p.1) (k := p.2) hv hc.1 hc.2 (by rw [ByteArray.size_extract]; omega) (pairB_le _ _)
      rw [ByteArray.size_extract] at o2
      refine ⟨p.1, hL.symm, ?_, by omega, ha, o1⟩
      obtain ⟨b, e, p0, p1, p2, p3⟩ := row1_parts p.1
      have hdl : s.data.toList.length = s.size := by simp
      obtain ⟨b', rest, hbr⟩ : ∃ b' rest, s.data.toList = b' :: rest := by
        cases hz : s.data.toList with
        | nil => rw [hz] at hdl; simp at hdl; omega
        | cons x y => exact ⟨x, y, rfl⟩
      have hss : s = ⟨(b' :: rest).toArray⟩ := bytes_eqI (by rw [hbr])
      have hbb : b = b' := by
        apply UInt8.toNat_inj.1
        have hb := byte_pairs ⟨b.toNat, UInt8.toNat_lt _⟩ ⟨b'.toNat, UInt8.toNat_lt _⟩ (fun r => by
          have hq : ∀ i, i < 4 → pr b i = pr b' i := fun i hi => by
            have h5 : i = 0 ∨ i = 1 ∨ i = 2 ∨ i = 3 := by omega
            have h6 : pairB s i = pr b' i := by rw [hss]; exact pairB_head b' rest i hi
            rcases h5 with rfl | rfl | rfl | rfl
            · rw [p0, t1]; exact h6
            · rw [p1, ← h6]; exact ((spB_iff _ _ _).1 h2 1 (by omega) (by omega)).symm
            · rw [p2, ← h6]; exact ((spB_iff _ _ _).1 h2 2 (by omega) (by omega)).symm
            · rw [p3, ← h6]; exact ((spB_iff _ _ _).1 h2 3 (by omega) (by omega)).symm
          exact hq r.val r.isLt)
        exact congrArg Fin.val hb
      rw [← hk, hbr, e, hbb, Nat.add_comm 1 p.2, List.take_succ_cons, t2]
      congr 1
      have hx : (s.extract 1 s.size).data.toList = rest := by
        rw [show s.size = 1 + (s.size - 1) by omega, ext_takeI, hbr]
        show rest.take _ = rest
        rw [List.take_of_length_le (by rw [hbr] at hdl; simp at hdl; omega)]
      rw [hx]

/-- the bytes of a change, from a column on -/
def chgT (L M : List Vl) : Nat → Nat → Nat → List UInt8
  | 0, _, _ => []
  | cnt + 1, j, nx => if sameV (L.getD j zV) (M.getD j zV) then chgT L M cnt (j + 1) nx else varB (j - nx) ++ rowB [M.getD j zV] ++ chgT L M cnt (j + 1) (j + 1)
theorem getD_at {L : List Vl} {j : Nat} (h : j < L.length) : L.getD j zV = L[j] := by rw [List.getD_eq_getElem?_getD, List.getElem?_eq_getElem h]; rfl
theorem chgS_T (L M : List Vl) : ∀ (cnt j : Nat), j + cnt ≤ L.length → j + cnt ≤ M.length → (chgS L M (j + cnt)).1 = (chgS L M j).1 ++ chgT L M cnt j (chgS L M j).2
  | 0, j, _, _ => by simp [chgT]
  | cnt + 1, j, h1, h2 => by
    have ih := chgS_T L M cnt (j + 1) (by omega) (by omega)
    rw [show j + (cnt + 1) = j + 1 + cnt by omega, ih, chgT]
    have a1 : j < L.length := by omega
    have a2 : j < M.length := by omega
    rw [getD_at a1, getD_at a2]
    cases hs : sameV L[j] M[j] with
    | true =>
      rw [chgS_same a1 a2 hs]
      simp
    | false =>
      rw [chgS_else a1 a2 hs]
      simp
theorem chgT_all (L M : List Vl) (h : L.length = M.length) : (chgS L M M.length).1 = chgT L M M.length 0 0 := by
  have := chgS_T L M M.length 0 (by omega) (by omega)
  rw [Nat.zero_add] at this
  rw [this]
  rfl

end Go.Proofs.YtfknmblobcjapaaDoor

namespace Go.Proofs.YtfknmblobcjapaaDoor
open Go.RowKit
set_option maxRecDepth 100000

/-- a row and an error are told -/
def DcP (d : List Vl × Int) (w : World) (e : Ending) (w' : World) : Prop := ∃ v, e = .returned (.tuple #[v, .int .i64 d.2]) ∧ OwnV w' w.heap.size v d.1 ∧ Below w.heap.size w w'
theorem DcP.no {d : List Vl × Int} {w w' : World} {e : Ending} (n : Int) (he : e = .returned (.tuple #[.slice none 0 0, .int .i64 n])) (h : d = ([], n)) (hw : Below w.heap.size w w') : DcP d w e w' := by
  subst h
  exact ⟨_, he, OwnV.nil _ _, hw⟩
theorem DcP.yes {d : List Vl × Int} {w w' : World} {e : Ending} (v : Value) (L : List Vl) (he : e = .returned (.tuple #[v, .int .i64 0])) (h : d = (L, 0)) (ho : OwnV w' w.heap.size v L) (hw : Below w.heap.size w w') : DcP d w e w' := by
  subst h
  exact ⟨_, he, ho, hw⟩
theorem OwnV.base {w : World} {B C : Nat} {v : Value} {L : List Vl} (h : OwnV w B v L) (hc : C ≤ B) : OwnV w C v L := by
  refine ⟨h.1, ?_⟩
  rcases h.2 with h1 | ⟨g, cap, cur, e, hb', r⟩
  · exact .inl h1
  · exact .inr ⟨g, cap, cur, e, Nat.le_trans hc hb', r⟩

theorem rowR_le {t : Tb} {s : ByteArray} (hc : checkS t = 0) (hs : s.size ≤ 65536) {L : List Vl} {k : Nat} (h : rowR t.cs s = some (L, k)) : k ≤ s.size := by
  unfold rowR at h
  by_cases h1 : s.size < (t.cs.length + 3) / 4
  · rw [if_pos h1] at h
    cases h
  rw [if_neg h1] at h
  cases h2 : spB s t.cs.length (4 * ((t.cs.length + 3) / 4)) with
  | false => rw [h2] at h; cases h
  | true =>
    rw [h2, if_pos rfl, rowA_K] at h
    cases h3 : rowK s (t.cs.map Cl.kd) 0 ((t.cs.length + 3) / 4) with
    | none => rw [h3] at h; cases h
    | some q =>
      rw [h3] at h
      dsimp only at h
      have hk := rowK_ok s hs _ _ _ q (fun c hcm => by obtain ⟨c', hc', rfl⟩ := List.mem_map.1 hcm; exact checkS_kd hc c' hc') (by omega) h3
      cases h4 : adAll t.cs q.1 with
      | false => rw [h4] at h; cases h
      | true =>
        rw [h4, if_pos rfl] at h
        injection h with h
        subst h
        exact hk.2.1



end Go.Proofs.YtfknmblobcjapaaDoor

namespace Go.Proofs.YtfknmblobcjapaaDoor
open Go.RowKit
set_option maxRecDepth 100000

theorem info_intD : (Tryd.prog.info? 3).map (fun i => (i.zero, i.size, i.bytes)) = some (some (.int .i64 0), 1, 8) := by kernel_rfl
/-- 'append(l, x)' -/
theorem wpList_apE {ops : Array Oper} {rest : List Oper} {o : Oper} {a : Act} {Q : Exit → Act → World → Prop} (w : World) (hgd : o.guard = none) (s x : Operand) (T S : TypeId) (z : Value) (size bytes : Nat)
    (ho : o.op = .call { callee := .builtin .append, args := #[s, x], argTypes := #[S, S] }) (hu : Tryd.prog.underlying S = some (.slice T))
    (hinfo : (Tryd.prog.info? T).map (fun i => (i.zero, i.size, i.bytes)) = some (some z, size, bytes)) (hzs : z.cells.size = size) (hsz : 0 < size)
    (B : Nat) (v : Value) (n : Nat) (xs : List Value) (hs : a.eval s = v) (hown : w.ownsRow B T size v n xs)
    (us : List Value) (hus : us.length = size) (hone : ∀ u ∈ us, u.oneCell' = true) (g : Nat) (hx : a.eval x = .slice (some ⟨g, 0, none⟩) 1 1) (hgz : g = w.heap.size)
    (hlen : (n + 1) * bytes ≤ 140737488355328) (hlen2 : n + 1 ≤ 140737488355328) (hbase : B ≤ w.heap.size)
    (h : ∀ v' w', w'.ownsRow B T size v' (n + 1) (xs ++ us) → Below B w w' → (w.alloc (.cells us.toArray T)).grownBy w' v.ownBlock → wpList Tryd.prog ops Q rest (a.put o.dst v') w') : wpList Tryd.prog ops Q (o :: rest) a (w.alloc (.cells us.toArray T)) := by
  obtain ⟨i, hi, hz0, hz1, hz2⟩ := info_parts hinfo
  subst hgz
  have hown' := hown.alloc (.cells us.toArray T)
  refine wpList_append_own _ hgd s x S ho B T i z size bytes hu hi hz0 hz1 hz2 hzs hsz v n xs hs hown' ⟨w.heap.size, 0, none⟩ 1 1 us hx (by omega) ?_ hone (by unfold maxLen; omega) hlen (by simp; omega) ?_
  · intro j y hj
    have e : (⟨w.heap.size, 0, none⟩ : Addr).add j = ⟨w.heap.size, j, none⟩ := by unfold Addr.add; split <;> simp_all
    rw [e, World.cell?_alloc_new]
    simpa using hj
  · intro v' w' h1 h2 _
    exact h v' w' h1 (((Below.refl _ _).alloc hbase _).grown h2 (by simp; omega) (fun k hk => (hown'.lt k hk).1)) h2

/-- a slice of numbers that the call owns -/
def OwnI (w : World) (B : Nat) (v : Value) (L : List Int) : Prop := w.ownsRow B 3 1 v L.length (L.map (.int .i64))
theorem OwnI.row {w : World} {B : Nat} {v : Value} {L : List Int} (h : OwnI w B v L) : ∃ (p : Option Addr) (c : Nat), v = .slice p L.length c ∧ L.length ≤ c ∧ RowI w w.heap.size p L := by
  have h0 := h
  rcases h.2 with ⟨h1, h2⟩ | ⟨g, cap, cur, e, hb, hg, hc, _⟩
  · have : L = [] := List.eq_nil_of_length_eq_zero h2
    subst this
    exact ⟨none, 0, h1, Nat.le_refl _, fun i hi => absurd hi (by simp)⟩
  · subst e
    refine ⟨_, cap, rfl, hc, fun i hi => ⟨g, 0, rfl, (Array.getElem?_eq_some_iff.1 hg).1, ?_⟩⟩
    have h1 := World.ownsRow.cellAt h0 i (by omega)
    rw [Nat.zero_add, h1, List.getElem?_map, List.getElem?_eq_getElem hi]
    rfl

theorem mapK_take (cs : List Cl) (j : Nat) (hj : j < cs.length) : (cs.take (j + 1)).map Cl.kd = (cs.take j).map Cl.kd ++ [cs[j].kd] := by
  rw [← List.take_append_getElem hj, List.map_append]
  rfl



end Go.Proofs.YtfknmblobcjapaaDoor
