/- What a change of a row is, as bytes. The walk of Change of rows. The walk of the document's Change of rows. -/
import Derived.Test.YtgnedioggpgeeaaDoorGWAppZ
namespace Go.Proofs.YtgnedioggpgeeaaDoor
open Go.RowKit
set_option maxRecDepth 100000

/-- one column of a change -/
def stepC (L M : List Vl) (j : Nat) (s : List UInt8 × Nat) : List UInt8 × Nat :=
  match L[j]?, M[j]? with
  | some a, some b => if sameV a b then s else (s.1 ++ varB (j - s.2) ++ rowB [b], j + 1)
  | _, _ => s
/-- the first columns of a change: its bytes, and the column behind the last one that it tells -/
def chgS (L M : List Vl) : Nat → List UInt8 × Nat
  | 0 => ([], 0)
  | j + 1 => stepC L M j (chgS L M j)
theorem chgS_same {L M : List Vl} {j : Nat} (h1 : j < L.length) (h2 : j < M.length) (h : sameV L[j] M[j] = true) : chgS L M (j + 1) = chgS L M j := by
  show stepC L M j (chgS L M j) = _
  unfold stepC
  rw [List.getElem?_eq_getElem h1, List.getElem?_eq_getElem h2]
  simp [h]
theorem chgS_else {L M : List Vl} {j : Nat} (h1 : j < L.length) (h2 : j < M.length) (h : sameV L[j] M[j] = false) : chgS L M (j + 1) = ((chgS L M j).1 ++ varB (j - (chgS L M j).2) ++ rowB [M[j]], j + 1) := by
  show stepC L M j (chgS L M j) = _
  unfold stepC
  rw [List.getElem?_eq_getElem h1, List.getElem?_eq_getElem h2]
  simp [h]
theorem chgS_le (L M : List Vl) : ∀ j, (chgS L M j).2 ≤ j
  | 0 => Nat.le_refl _
  | j + 1 => by
    have ih := chgS_le L M j
    show (stepC L M j (chgS L M j)).2 ≤ _
    unfold stepC
    split
    · split
      · omega
      · exact Nat.le_refl _
    · omega
theorem row1_len {b : Vl} (h : b.s.size ≤ 65536) : (rowB [b]).length ≤ 65547 := by
  have := flat_len [b] (fun v hv => by rw [List.mem_singleton.1 hv]; exact h)
  unfold rowB
  rw [List.length_append, packK_len]
  simp only [List.length_singleton] at this ⊢
  omega
theorem chgS_len {L M : List Vl} (h : ∀ v ∈ M, v.s.size ≤ 65536) : ∀ j, (chgS L M j).1.length ≤ j * 65557
  | 0 => Nat.zero_le _
  | j + 1 => by
    have ih := chgS_len (L := L) h j
    show (stepC L M j (chgS L M j)).1.length ≤ (j + 1) * 65557
    rw [Nat.succ_mul j 65557]
    generalize j * 65557 = q at ih ⊢
    unfold stepC
    split
    · rename_i a b _ hb
      split
      · omega
      · have h1 := varB_len (j - (chgS L M j).2)
        have h2 := row1_len (h b (List.mem_of_getElem? hb))
        simp only [List.length_append]
        omega
    · omega
theorem chgS_up (L M : List Vl) (j : Nat) : (chgS L M j).1.length ≤ (chgS L M (j + 1)).1.length := by
  show _ ≤ (stepC L M j (chgS L M j)).1.length
  unfold stepC
  split
  · split
    · omega
    · simp only [List.length_append]
      omega
  · omega
theorem chgS_mono (L M : List Vl) (j : Nat) : ∀ d, (chgS L M j).1.length ≤ (chgS L M (j + d)).1.length
  | 0 => Nat.le_refl _
  | d + 1 => Nat.le_trans (chgS_mono L M j d) (chgS_up L M (j + d))
/-- what Change answers -/
def chgR (t : Tb) (L M : List Vl) : List UInt8 × Int :=
  if admS t L = 0 then (if admS t M = 0 then (if (chgS L M M.length).1.length ≤ 65536 then ((chgS L M M.length).1, 0) else ([], 3)) else ([], admS t M)) else ([], admS t L)
theorem admS_len {t : Tb} {l : List Vl} (h : admS t l = 0) : l.length = t.cs.length := by
  unfold admS at h
  by_cases hc : checkS t = 0
  · rw [if_pos hc] at h
    by_cases hl : l.length = t.cs.length
    · exact hl
    · rw [if_neg hl] at h
      omega
  · rw [if_neg hc] at h
    exact absurd h hc
/-- the part of a row that one column is -/
theorem slice_one (b o n c j : Nat) (w : World) (h1 : j < n) (h2 : n ≤ c) :
    (Instr.slice 28 (.slice (some ⟨b, o, none⟩) n c) (some (.int .i64 (j : Int))) (some (.int .i64 ((j : Int) + 1))) none).run Tryd.prog w = .ok (.slice (some ⟨b, o + j * 4, none⟩) 1 (c - j)) w := by
  have e1 : ((j : Int) + 1).toNat = j + 1 := by omega
  have e2 : j + 1 - j = 1 := by omega
  have e3 : ¬ c = j := by omega
  have e4 : (j : Int).toNat = j := by omega
  rw [run_slice_lh w 28 (some ⟨b, o, none⟩) n c Tryd.underlying28 .i64 .i64 (j : Int) ((j : Int) + 1) (by omega) (by omega) (by omega)]
  simp [go_sem, sliced, e1, e2, e3, e4, Addr.add]
theorem RowV.one {w : World} {B b o : Nat} {L : List Vl} (h : RowV w B (some ⟨b, o, none⟩) L) (j : Nat) (hj : j < L.length) : RowV w B (some ⟨b, o + j * 4, none⟩) [L[j]] := by
  intro i hi
  have e : i = 0 := by simp at hi; omega
  subst e
  obtain ⟨b', o', e1, hb, c0, c1, c2, c3⟩ := h j hj
  injection e1 with e2
  injection e2 with e3 e4 _
  subst e3 e4
  exact ⟨b, o + j * 4, rfl, hb, by simpa using c0, by simpa using c1, by simpa using c2, by simpa using c3⟩
end Go.Proofs.YtgnedioggpgeeaaDoor

namespace Go.Proofs.YtgnedioggpgeeaaDoor
open Go.RowKit
set_option maxRecDepth 100000

set_option maxHeartbeats 4000000 in
theorem change_any (t : Tb) (a : TabP) (L M : List Vl) (p q : Option Addr) (cl cm : Nat) (w : World) (hV : TabV w w.heap.size t a) (hok : t.ok) (hL : RowV w w.heap.size p L) (hM : RowV w w.heap.size q M) (hvl : ∀ v ∈ L, v.ok) (hvm : ∀ v ∈ M, v.ok) (hll : L.length ≤ 17592186043904) (hlm : M.length ≤ 17592186043904) (hcm : M.length ≤ cm) (hE : Env w) :
    Calls Tryd.prog 13 #[a.val t, .slice p L.length cl, .slice q M.length cm] w fun e w' => e = .returned (.tuple #[.string ⟨(chgR t L M).1.toArray⟩, .int .i64 (chgR t L M).2]) ∧ Below w.heap.size w w' := by
  obtain ⟨pc, cc, pk, ck, px, cx, pr, cr⟩ := a
  have CL : Hid (∀ w1, Below w.heap.size w w1 → Calls Tryd.prog 16 #[.agg #[.string t.nm, .slice pc t.cs.length cc, .slice pk t.key.length ck, .slice px t.ix.length cx, .slice pr t.rf.length cr], .slice p L.length cl] w1 fun e w' => e = .returned (.int .i64 (admS t L)) ∧ Below w1.heap.size w1 w') := fun w1 hb => admits_any t ⟨pc, cc, pk, ck, px, cx, pr, cr⟩ L p cl w1 (hV.on hb) hok ((hL.keep hb).mono hb.size) hvl hll (hE.on hb)
  have CM : Hid (∀ w1, Below w.heap.size w w1 → Calls Tryd.prog 16 #[.agg #[.string t.nm, .slice pc t.cs.length cc, .slice pk t.key.length ck, .slice px t.ix.length cx, .slice pr t.rf.length cr], .slice q M.length cm] w1 fun e w' => e = .returned (.int .i64 (admS t M)) ∧ Below w1.heap.size w1 w') := fun w1 hb => admits_any t ⟨pc, cc, pk, ck, px, cx, pr, cr⟩ M q cm w1 (hV.on hb) hok ((hM.keep hb).mono hb.size) hvm hlm (hE.on hb)
  have HB : Hid (BoxT _ _ _ _) := BoxT.new w t ⟨pc, cc, pk, ck, px, cx, pr, cr⟩
  have hb0 : Below w.heap.size w (w.alloc (.cells #[.string t.nm, .slice pc t.cs.length cc, .slice pk t.key.length ck, .slice px t.ix.length cx, .slice pr t.rf.length cr] 27)) := by go_grown
  have HF : Hid (chgR t L M = if admS t L = 0 then (if admS t M = 0 then (if (chgS L M M.length).1.length ≤ 65536 then ((chgS L M M.length).1, 0) else ([], 3)) else ([], admS t M)) else ([], admS t L)) := rfl
  have HOK : Hid (admS t L = 0 → admS t M = 0 → L.length = M.length ∧ M.length ≤ 64 ∧ ∀ v ∈ M, v.s.size ≤ 65536) := fun h1 h2 => ⟨(admS_len h1).trans (admS_len h2).symm, (admS_ok h2).2.1, (admS_ok h2).2.2⟩
  have HA : Hid (RowV w w.heap.size p L ∧ RowV w w.heap.size q M ∧ ∀ v ∈ M, v.ok) := ⟨hL, hM, hvm⟩
  clear hV hok hL hM hvl hvm hE
  generalize chgR t L M = d at *
  generalize admS t L = el at *
  generalize admS t M = em at *
  unfold TabP.val
  dsimp only
  go_enter Tryd.func13, Tryd.ntmps13
  go_wp2_with fail
  have b1 : Below w.heap.size w ((w.alloc (.cells #[.string t.nm, .slice pc t.cs.length cc, .slice pk t.key.length ck, .slice px t.ix.length cx, .slice pr t.rf.length cr] 27)).alloc (.cells #[.slice p L.length cl, .slice q M.length cm] 28)) := by go_grown
  have b2 : Below (w.alloc (.cells #[.string t.nm, .slice pc t.cs.length cc, .slice pk t.key.length ck, .slice px t.ix.length cx, .slice pr t.rf.length cr] 27)).heap.size (w.alloc (.cells #[.string t.nm, .slice pc t.cs.length cc, .slice pk t.key.length ck, .slice px t.ix.length cx, .slice pr t.rf.length cr] 27)) ((w.alloc (.cells #[.string t.nm, .slice pc t.cs.length cc, .slice pk t.key.length ck, .slice px t.ix.length cx, .slice pr t.rf.length cr] 27)).alloc (.cells #[.slice p L.length cl, .slice q M.length cm] 28)) := by go_grown
  have HB0 : Hid (BoxT ((w.alloc (.cells #[.string t.nm, .slice pc t.cs.length cc, .slice pk t.key.length ck, .slice px t.ix.length cx, .slice pr t.rf.length cr] 27)).alloc (.cells #[.slice p L.length cl, .slice q M.length cm] 28)) w.heap.size t ⟨pc, cc, pk, ck, px, cx, pr, cr⟩) := HB.out.on b2 (by simp)
  have g0 : ((w.alloc (.cells #[.string t.nm, .slice pc t.cs.length cc, .slice pk t.key.length ck, .slice px t.ix.length cx, .slice pr t.rf.length cr] 27)).alloc (.cells #[.slice p L.length cl, .slice q M.length cm] 28)).cell? ⟨w.heap.size + 1, 0, none⟩ = some (.slice p L.length cl) := by simp [go_sem]
  have g1 : ((w.alloc (.cells #[.string t.nm, .slice pc t.cs.length cc, .slice pk t.key.length ck, .slice px t.ix.length cx, .slice pr t.rf.length cr] 27)).alloc (.cells #[.slice p L.length cl, .slice q M.length cm] 28)).cell? ⟨w.heap.size + 1, 1, none⟩ = some (.slice q M.length cm) := by simp [go_sem]
  have hg : w.heap.size + 1 < ((w.alloc (.cells #[.string t.nm, .slice pc t.cs.length cc, .slice pk t.key.length ck, .slice px t.ix.length cx, .slice pr t.rf.length cr] 27)).alloc (.cells #[.slice p L.length cl, .slice q M.length cm] 28)).heap.size := by simp
  clear HB hb0 b2
  generalize (w.alloc (.cells #[.string t.nm, .slice pc t.cs.length cc, .slice pk t.key.length ck, .slice px t.ix.length cx, .slice pr t.rf.length cr] 27)).alloc (.cells #[.slice p L.length cl, .slice q M.length cm] 28) = w0 at *
  have HG : Hid (w0.cell? ⟨w.heap.size + 1, 0, none⟩ = some (.slice p L.length cl) ∧ w0.cell? ⟨w.heap.size + 1, 1, none⟩ = some (.slice q M.length cm) ∧ w.heap.size + 1 < w0.heap.size) := ⟨g0, g1, hg⟩
  clear g0 g1 hg
  go_loopw [18] (fun k wr => ∃ j : Nat, j ≤ 2 ∧ k = .int .i64 (j : Int) ∧ Hid ((1 ≤ j → el = 0) ∧ (2 ≤ j → em = 0)) ∧ Hid (Below w0.heap.size w0 wr)) (fun k _ => 2 - (intOf k).toNat)
  case atStart => exact ⟨0, Nat.zero_le _, by go_num, ⟨fun h => by omega, fun h => by omega⟩, Below.refl _ _⟩
  case round =>
    obtain ⟨j, hj, rfl, hz, hn⟩ := hrel
    have hbw : Below w.heap.size w wr := b1.trans (hn.out.mono b1.size)
    have HBr : Hid (BoxT wr w.heap.size t ⟨pc, cc, pk, ck, px, cx, pr, cr⟩) := HB0.out.on hn.out HB0.out.hg
    obtain ⟨hz1, e0, e1, e2, e3, e4⟩ := HBr.out
    dsimp only at e0 e1 e2 e3 e4
    have k0 := (hn.out.cell (p := ⟨w.heap.size + 1, 0, none⟩) HG.out.2.2).trans HG.out.1
    have k1 := (hn.out.cell (p := ⟨w.heap.size + 1, 1, none⟩) HG.out.2.2).trans HG.out.2.1
    obtain h | h | h : j = 0 ∨ j = 1 ∨ j = 2 := by omega
    · subst h
      clear k1 hz HBr
      by_cases hel : el = 0
      · subst hel
        go_wp2_with fail
        refine (CL.out _ hbw).mono ?_
        rintro e w2 ⟨rfl, hb2⟩
        go_wp2_with fail
        go_roundw
        case rel => exact ⟨1, by omega, by go_num, ⟨by simp, fun h => by omega⟩, hn.out.trans (hb2.mono hn.out.size)⟩
        case measure => simp [intOf]
      · have hel' : (el != 0) = true := by simpa using hel
        have H12 : Hid (d.1 = [] ∧ d.2 = el) := by
          have := HF.out
          rw [if_neg hel] at this
          exact ⟨congrArg Prod.fst this, congrArg Prod.snd this⟩
        go_wp2_with fail
        refine (CL.out _ hbw).mono ?_
        rintro e w2 ⟨rfl, hb2⟩
        go_wp2
        go_ret2
        exact ⟨strE H12.out.1.symm H12.out.2.symm, hbw.trans (hb2.mono hbw.size)⟩
    · subst h
      have hel : el = 0 := hz.out.1 (by omega)
      subst hel
      clear k0 hz HBr
      rw [if_pos rfl] at HF
      by_cases hem : em = 0
      · subst hem
        go_wp2_with fail
        refine (CM.out _ hbw).mono ?_
        rintro e w2 ⟨rfl, hb2⟩
        go_wp2_with fail
        go_roundw
        case rel => exact ⟨2, by omega, by go_num, ⟨by simp, by simp⟩, hn.out.trans (hb2.mono hn.out.size)⟩
        case measure => simp [intOf]
      · have hem' : (em != 0) = true := by simpa using hem
        have H12 : Hid (d.1 = [] ∧ d.2 = em) := by
          have := HF.out
          rw [if_neg hem] at this
          exact ⟨congrArg Prod.fst this, congrArg Prod.snd this⟩
        go_wp2_with fail
        refine (CM.out _ hbw).mono ?_
        rintro e w2 ⟨rfl, hb2⟩
        go_wp2
        go_ret2
        exact ⟨strE H12.out.1.symm H12.out.2.symm, hbw.trans (hb2.mono hbw.size)⟩
    · subst h
      have hel : el = 0 := hz.out.1 (by omega)
      have hem : em = 0 := hz.out.2 (by omega)
      subst hel hem
      obtain ⟨hlen, h64, hsz⟩ := HOK.out rfl rfl
      rw [if_pos rfl, if_pos rfl] at HF
      have HZ : Hid (∀ v ∈ M, v.s.size ≤ 65536) := hsz
      have HLN : Hid (L.length = M.length) := hlen
      clear k0 k1 e0 e1 e2 e3 e4 hz1 hz HBr CL CM HOK HG HB0 b1 hsz hlen
      rw [show ((2 : Nat) : Int) = 2 from rfl]
      go_wp2_with fail
      generalize wr = w3 at *
      go_loopw [11, 12, 31] (fun u x k wr => ∃ j : Nat, j ≤ M.length ∧ k = .int .i64 (j : Int) ∧ x = .int .i64 ((chgS L M j).2 : Int) ∧ Hid (OwnB wr w.heap.size u (chgS L M j).1 ∧ Keep5 w.heap.size w wr)) (fun _ _ k _ => M.length - (intOf k).toNat)
      case atStart => exact ⟨0, Nat.zero_le _, by go_num, by go_num, ⟨OwnB.nil _ _, Keep5.of_below hbw (Nat.le_refl _)⟩⟩
      case round =>
        clear hn hbw
        obtain ⟨j, hj, rfl, rfl, hO⟩ := hrel
        by_cases hj0 : j = M.length
        · subst hj0
          have hbl : (chgS L M M.length).1.length ≤ 1099511627776 := by
            have := chgS_len (L := L) HZ.out M.length
            omega
          have CLm : Hid (∀ w1 : World, OwnB w1 w.heap.size u11 (chgS L M M.length).1 → Calls Tryd.prog 17 #[u11] w1 fun e w' => e = .returned (.tuple #[.string ⟨d.1.toArray⟩, .int .i64 d.2]) ∧ Below w1.heap.size w1 w') := fun w1 h => by
            have h2 := limited_any w.heap.size u11 (chgS L M M.length).1 w1 h hbl
            have e1 : d.1 = if (chgS L M M.length).1.length ≤ 65536 then (chgS L M M.length).1 else [] := by rw [HF.out]; split <;> rfl
            have e2 : d.2 = if (chgS L M M.length).1.length ≤ 65536 then 0 else 3 := by rw [HF.out]; split <;> rfl
            rw [e1, e2]
            exact h2
          clear hbl HF
          obtain ⟨d1, d2⟩ := d
          dsimp only at CLm ⊢
          generalize chgS L M M.length = C at *
          go_wp2_with fail
          refine (CLm.out _ hO.out.1).mono ?_
          rintro e w4 ⟨rfl, hb4⟩
          have h4 := hO.out.2.below
          go_wp2
          go_ret2
          exact ⟨rfl, h4.trans (hb4.mono h4.size)⟩
        · have hj2 : j < M.length := by omega
          have hj1 : j < L.length := by have := HLN.out; omega
          obtain ⟨b, o, rfl, hbB, c0, c1, c2, c3⟩ := HA.out.1 j hj1
          obtain ⟨bm, om, rfl, hbm, d0, d1, d2, d3⟩ := HA.out.2.1 j hj2
          have hkb := hO.out.2.below
          have a0 := (hkb.cell (p := ⟨b, o + j * 4, none⟩) hbB).trans c0
          have a1 := (hkb.cell (p := ⟨b, o + j * 4 + 1, none⟩) hbB).trans c1
          have a2 := (hkb.cell (p := ⟨b, o + j * 4 + 2, none⟩) hbB).trans c2
          have a3 := (hkb.cell (p := ⟨b, o + j * 4 + 3, none⟩) hbB).trans c3
          have q0 := (hkb.cell (p := ⟨bm, om + j * 4, none⟩) hbm).trans d0
          have q1 := (hkb.cell (p := ⟨bm, om + j * 4 + 1, none⟩) hbm).trans d1
          have q2 := (hkb.cell (p := ⟨bm, om + j * 4 + 2, none⟩) hbm).trans d2
          have q3 := (hkb.cell (p := ⟨bm, om + j * 4 + 3, none⟩) hbm).trans d3
          have HS : Hid ((sameV L[j] M[j] = true → chgS L M (j + 1) = chgS L M j) ∧ (sameV L[j] M[j] = false → chgS L M (j + 1) = ((chgS L M j).1 ++ varB (j - (chgS L M j).2) ++ rowB [M[j]], j + 1))) := ⟨chgS_same hj1 hj2, chgS_else hj1 hj2⟩
          have CS : Hid (∀ w1 : World, Calls Tryd.prog 27 #[.agg #[.int .i64 (L[j]).k, .int .i64 (L[j]).n, .float .f64 (L[j]).f, .string (L[j]).s], .agg #[.int .i64 (M[j]).k, .int .i64 (M[j]).n, .float .f64 (M[j]).f, .string (M[j]).s]] w1 fun e w' => e = .returned (.bool (sameV L[j] M[j])) ∧ Below w1.heap.size w1 w') := fun w1 => same_any (L[j]).k (L[j]).n (M[j]).k (M[j]).n (L[j]).f (M[j]).f (L[j]).s (M[j]).s w1
          have HR1 : Hid (∀ w1 : World, Below w.heap.size w w1 → RowV w1 w.heap.size (some ⟨bm, om + j * 4, none⟩) [M[j]]) := fun w1 hb => (HA.out.2.1.keep hb).one j hj2
          have HR2 : Hid (M[j].ok ∧ M[j].s.size ≤ 65536) := ⟨HA.out.2.2 _ (List.getElem_mem hj2), HZ.out _ (List.getElem_mem hj2)⟩
          have hcl := chgS_len (L := L) HZ.out j
          have hcl2 : (chgS L M j).1.length ≤ 5000000 := by omega
          have hcle := chgS_le L M j
          clear c0 c1 c2 c3 d0 d1 d2 d3 hj0 hcl
          generalize sameV L[j] M[j] = sv at *
          generalize hCn : chgS L M (j + 1) = Cn at *
          obtain ⟨C, nx, hCj⟩ : ∃ C nx, chgS L M j = (C, nx) := ⟨_, _, rfl⟩
          rw [hCj] at HS hO hcl2 hcle
          simp only [hCj]
          dsimp only at HS hO hcl2 hcle ⊢
          generalize L[j] = x at *
          generalize M[j] = y at *
          obtain ⟨xk, xn, xf, xs⟩ := x
          have HY : Hid (∃ z : Vl, z = y) := ⟨y, rfl⟩
          generalize hyk : y.k = yk at *
          generalize hyn : y.n = yn at *
          generalize hyf : y.f = yf at *
          generalize hys : y.s = ys at *
          clear hyk hyn hyf
          dsimp only at a0 a1 a2 a3 q0 q1 q2 q3 CS
          cases sv
          · have HE : Hid (Cn = (C ++ varB (j - nx) ++ rowB [y], j + 1)) := HS.out.2 rfl
            clear HS
            have hsl : ∀ w1 : World, (Instr.slice 28 (.slice (some ⟨bm, om, none⟩) M.length cm) (some (.int .i64 (j : Int))) (some (.int .i64 ((j : Int) + 1))) none).run Tryd.prog w1 = .ok (.slice (some ⟨bm, om + j * 4, none⟩) 1 (cm - j)) w1 := fun w1 => slice_one bm om M.length cm j w1 hj2 hcm
            have hvl : (varB (j - nx)).length ≤ 10 := varB_len _
            have CV : Hid (∀ (v : Value) (w1 : World), w.heap.size ≤ w1.heap.size → OwnB w1 w.heap.size v C → Calls Tryd.prog 28 #[v, .int .u64 ((j : Int) - (nx : Int))] w1 fun e w' => ∃ v', e = .returned v' ∧ OwnB w' w.heap.size v' (C ++ varB (j - nx)) ∧ Keep5 w.heap.size w1 w') := fun v w1 h1 h2 => by
              have h3 := appendVarint_any w.heap.size v C (j - nx) w1 h1 h2 (by omega) (by omega)
              rw [show ((j - nx : Nat) : Int) = (j : Int) - (nx : Int) by omega] at h3
              exact h3
            have CRw : Hid (∀ (v : Value) (w1 : World), w.heap.size ≤ w1.heap.size → OwnB w1 w.heap.size v (C ++ varB (j - nx)) → Below w.heap.size w w1 → Calls Tryd.prog 18 #[v, .slice (some ⟨bm, om + j * 4, none⟩) 1 (cm - j)] w1 fun e w' => ∃ v', e = .returned v' ∧ OwnB w' w.heap.size v' (C ++ varB (j - nx) ++ rowB [y]) ∧ Keep5 w.heap.size w1 w') := fun v w1 h1 h2 h3 =>
              appendRow_any w.heap.size v (C ++ varB (j - nx)) [y] _ _ w1 h1 h2 (by rw [List.length_append]; omega) (HR1.out w1 h3) (fun u hu => by rw [List.mem_singleton.1 hu, hys]; exact HR2.out) (by simp) (by simp)
            clear hvl
            go_wp2_with fail
            go_region_with (first | (go_at_call 27; refine (CS.out _).mono ?_; rintro e w5 ⟨rfl, hb5⟩))
            all_goals
              have hk5 : Keep5 w.heap.size w w5 := hO.out.2.drew.trans (Keep5.of_below hb5 (by simpa using hkb.size))
              have HO5 : Hid (OwnB w5 w.heap.size u11 C) := hO.out.1.kept ((Below.refl wr.heap.size wr).drew.trans hb5)
              clear hO hkb hb5 CS
              go_wp2_with fail
              refine (CV.out _ _ (by have := hk5.below.size; omega) HO5.out).mono ?_
              rintro e w6 ⟨v6, rfl, hO6, hk6⟩
              have hk06 := hk5.trans hk6
              go_wp2_with fail
              refine (CRw.out _ _ (by have := hk06.below.size; omega) hO6 hk06.below).mono ?_
              rintro e w7 ⟨v7, rfl, hO7, hk7⟩
              have hk07 := hk06.trans hk7
              have R : Hid (OwnB w7 w.heap.size v7 Cn.1 ∧ Keep5 w.heap.size w w7) := ⟨by rw [HE.out]; exact hO7, hk07⟩
              have HC2 : Cn.2 = j + 1 := by rw [HE.out]
              clear hO6 hk6 hO7 hk7 hk07 hk06 hk5 HO5
              go_wp2_with fail
              go_roundw
              case rel => exact ⟨j + 1, hj2, by go_num, by rw [hCn, HC2]; go_num, by rw [hCn]; exact R⟩
              case measure => simp [intOf]; omega
          · have HE : Hid (Cn = (C, nx)) := HS.out.1 rfl
            clear HS
            go_wp2_with fail
            go_region_with (first | (go_at_call 27; refine (CS.out _).mono ?_; rintro e w5 ⟨rfl, hb5⟩))
            all_goals
              have hk5 : Keep5 w.heap.size w w5 := hO.out.2.drew.trans (Keep5.of_below hb5 (by simpa using hkb.size))
              have HO5 : OwnB w5 w.heap.size u11 C := hO.out.1.kept ((Below.refl wr.heap.size wr).drew.trans hb5)
              have R : Hid (OwnB w5 w.heap.size u11 Cn.1 ∧ Keep5 w.heap.size w w5) := ⟨by rw [HE.out]; exact HO5, hk5⟩
              have HC2 : Cn.2 = nx := by rw [HE.out]
              clear hk5 HO5 hO hkb hb5 CS
              go_wp2_with fail
              go_roundw
              case rel => exact ⟨j + 1, hj2, by go_num, by rw [hCn, HC2], by rw [hCn]; exact R⟩
              case measure => simp [intOf]; omega
end Go.Proofs.YtgnedioggpgeeaaDoor

namespace Go.Proofs.YtgnedioggpgeeaaDoor
open Go.RowKit
set_option maxRecDepth 100000

theorem varB_ne (n : Nat) : varB n ≠ [] := by
  unfold varB
  rw [varK]
  split <;> simp
theorem row1_ne (b : Vl) : rowB [b] ≠ [] := by
  intro h
  have h1 := congrArg List.length h
  unfold rowB at h1
  rw [List.length_append, packK_len] at h1
  simp at h1
theorem OwnB.lenN {w : World} {B N : Nat} {v : Value} {bs : List UInt8} (h : OwnB w B v bs) (hn : bs.length = N) : ∃ p cap, v = .slice p N cap := by
  subst hn
  exact h.len
theorem OwnB.some {w : World} {B : Nat} {v : Value} {bs : List UInt8} (h : OwnB w B v bs) (hne : bs ≠ []) : ∃ g cap, v = .slice (some ⟨g, 0, none⟩) bs.length cap ∧ ∀ j (hj : j < bs.length), w.cell? ((⟨g, 0, none⟩ : Addr).add j) = Option.some (.int .u8 (bs[j].toNat : Int)) := by
  rcases h.shape with ⟨_, h00⟩ | ⟨g, cap, rfl, _, _, hc⟩
  · exact absurd h00 hne
  · refine ⟨g, cap, rfl, fun j hj => ?_⟩
    rw [show (⟨g, 0, none⟩ : Addr).add j = ⟨g, j, none⟩ by unfold Addr.add; split <;> simp_all]
    exact hc j hj

set_option maxHeartbeats 4000000 in
theorem rchange_any (t : Tb) (a : TabP) (L M : List Vl) (p q : Option Addr) (cl cm : Nat) (w : World) (hV : TabV w w.heap.size t a) (hok : t.ok) (hL : RowV w w.heap.size p L) (hM : RowV w w.heap.size q M) (hvl : ∀ v ∈ L, v.ok) (hvm : ∀ v ∈ M, v.ok) (hll : L.length ≤ 17592186043904) (hlm : M.length ≤ 17592186043904) (hcm : M.length ≤ cm) (hE : Env w) :
    Calls Tryd.prog 14 #[a.val t, .slice p L.length cl, .slice q M.length cm] w fun e w' => e = .returned (.tuple #[.string ⟨(chgR t L M).1.toArray⟩, .int .i64 (chgR t L M).2]) ∧ Below w.heap.size w w' := by
  obtain ⟨pc, cc, pk, ck, px, cx, pr, cr⟩ := a
  have CL : Hid (∀ w1, Below w.heap.size w w1 → Calls Tryd.prog 19 #[.agg #[.string t.nm, .slice pc t.cs.length cc, .slice pk t.key.length ck, .slice px t.ix.length cx, .slice pr t.rf.length cr], .slice p L.length cl] w1 fun e w' => e = .returned (.int .i64 (admS t L)) ∧ Below w1.heap.size w1 w') := fun w1 hb => radmits_any t ⟨pc, cc, pk, ck, px, cx, pr, cr⟩ L p cl w1 (hV.on hb) hok ((hL.keep hb).mono hb.size) hvl hll (hE.on hb)
  have CM : Hid (∀ w1, Below w.heap.size w w1 → Calls Tryd.prog 19 #[.agg #[.string t.nm, .slice pc t.cs.length cc, .slice pk t.key.length ck, .slice px t.ix.length cx, .slice pr t.rf.length cr], .slice q M.length cm] w1 fun e w' => e = .returned (.int .i64 (admS t M)) ∧ Below w1.heap.size w1 w') := fun w1 hb => radmits_any t ⟨pc, cc, pk, ck, px, cx, pr, cr⟩ M q cm w1 (hV.on hb) hok ((hM.keep hb).mono hb.size) hvm hlm (hE.on hb)
  have HB : Hid (BoxT _ _ _ _) := BoxT.new w t ⟨pc, cc, pk, ck, px, cx, pr, cr⟩
  have hb0 : Below w.heap.size w (w.alloc (.cells #[.string t.nm, .slice pc t.cs.length cc, .slice pk t.key.length ck, .slice px t.ix.length cx, .slice pr t.rf.length cr] 27)) := by go_grown
  have HF : Hid (chgR t L M = if admS t L = 0 then (if admS t M = 0 then (if (chgS L M M.length).1.length ≤ 65536 then ((chgS L M M.length).1, 0) else ([], 3)) else ([], admS t M)) else ([], admS t L)) := rfl
  have HOK : Hid (admS t L = 0 → admS t M = 0 → L.length = M.length ∧ M.length ≤ 64 ∧ ∀ v ∈ M, v.s.size ≤ 65536) := fun h1 h2 => ⟨(admS_len h1).trans (admS_len h2).symm, (admS_ok h2).2.1, (admS_ok h2).2.2⟩
  have HA : Hid (RowV w w.heap.size p L ∧ RowV w w.heap.size q M ∧ ∀ v ∈ M, v.ok) := ⟨hL, hM, hvm⟩
  clear hV hok hL hM hvl hvm hE
  generalize chgR t L M = d at *
  generalize admS t L = el at *
  generalize admS t M = em at *
  unfold TabP.val
  dsimp only
  go_enter Tryd.func14, Tryd.ntmps14
  go_wp2_with fail
  refine (CL.out _ hb0).mono ?_
  rintro e w1 ⟨rfl, hb1⟩
  have h01 : Below w.heap.size w w1 := hb0.trans (hb1.mono hb0.size)
  have HB1 : Hid (BoxT w1 w.heap.size t ⟨pc, cc, pk, ck, px, cx, pr, cr⟩) := HB.out.on hb1 (by simp)
  obtain ⟨hz1, e0, e1, e2, e3, e4⟩ := HB1.out
  dsimp only at e0 e1 e2 e3 e4
  clear CL hb1 hb0 HB
  go_wp2_with fail
  refine (CM.out _ h01).mono ?_
  rintro e w2 ⟨rfl, hb2⟩
  have hbw : Below w.heap.size w w2 := h01.trans (hb2.mono h01.size)
  clear CM hb2 h01 HB1 hz1 e0 e1 e2 e3 e4
  by_cases hel : el = 0
  · subst hel
    rw [if_pos rfl] at HF
    by_cases hem : em = 0
    · subst hem
      rw [if_pos rfl] at HF
      obtain ⟨hlen, h64, hsz⟩ := HOK.out rfl rfl
      have HZ : Hid (∀ v ∈ M, v.s.size ≤ 65536) := hsz
      have HLN : Hid (L.length = M.length ∧ True) := ⟨hlen, trivial⟩
      clear HOK hsz
      go_wp2_with fail
      go_loopw [10, 11, 12] (fun u x k wr => ∃ j : Nat, j ≤ M.length ∧ k = .int .i64 (j : Int) ∧ x = .int .i64 (((chgS L M j).2 : Int) - 1) ∧ Hid (OwnB wr w.heap.size u (chgS L M j).1 ∧ Keep5 w.heap.size w wr ∧ (chgS L M j).1.length ≤ 65536)) (fun _ _ k _ => M.length - (intOf k).toNat)
      case atStart => exact ⟨0, Nat.zero_le _, by go_num, by go_num, ⟨OwnB.nil _ _, Keep5.of_below hbw (Nat.le_refl _), Nat.zero_le _⟩⟩
      case round =>
        clear hbw
        obtain ⟨j, hj, rfl, rfl, hO⟩ := hrel
        by_cases hj0 : j = M.length
        · have hjL : (j : Int) = (L.length : Int) := by omega
          have H12 : Hid (d.1 = (chgS L M j).1 ∧ d.2 = 0) := by
            have := HF.out
            rw [← hj0, if_pos hO.out.2.2] at this
            exact ⟨congrArg Prod.fst this, congrArg Prod.snd this⟩
          have hconv := hO.out.1.conv
          clear HF hj0
          generalize chgS L M j = C at *
          obtain ⟨C, nx⟩ := C
          dsimp only at hO H12 hconv ⊢
          obtain ⟨q2, c2, rfl⟩ := hO.out.1.len
          rw [hjL]
          go_wp2
          go_ret2
          exact ⟨strE H12.out.1.symm H12.out.2.symm, hO.out.2.1.below⟩
        · have hj2 : j < M.length := by omega
          have hj1 : j < L.length := by omega
          obtain ⟨b, o, rfl, hbB, c0, c1, c2, c3⟩ := HA.out.1 j hj1
          obtain ⟨bm, om, rfl, hbm, d0, d1, d2, d3⟩ := HA.out.2.1 j hj2
          have hkb := hO.out.2.1.below
          have a0 := (hkb.cell (p := ⟨b, o + j * 4, none⟩) hbB).trans c0
          have a1 := (hkb.cell (p := ⟨b, o + j * 4 + 1, none⟩) hbB).trans c1
          have a2 := (hkb.cell (p := ⟨b, o + j * 4 + 2, none⟩) hbB).trans c2
          have a3 := (hkb.cell (p := ⟨b, o + j * 4 + 3, none⟩) hbB).trans c3
          have q0 := (hkb.cell (p := ⟨bm, om + j * 4, none⟩) hbm).trans d0
          have q1 := (hkb.cell (p := ⟨bm, om + j * 4 + 1, none⟩) hbm).trans d1
          have q2 := (hkb.cell (p := ⟨bm, om + j * 4 + 2, none⟩) hbm).trans d2
          have q3 := (hkb.cell (p := ⟨bm, om + j * 4 + 3, none⟩) hbm).trans d3
          have HS : Hid ((sameV L[j] M[j] = true → chgS L M (j + 1) = chgS L M j) ∧ (sameV L[j] M[j] = false → chgS L M (j + 1) = ((chgS L M j).1 ++ varB (j - (chgS L M j).2) ++ rowB [M[j]], j + 1))) := ⟨chgS_same hj1 hj2, chgS_else hj1 hj2⟩
          have CS : Hid (∀ w1 : World, Calls Tryd.prog 26 #[.agg #[.int .i64 (L[j]).k, .int .i64 (L[j]).n, .float .f64 (L[j]).f, .string (L[j]).s], .agg #[.int .i64 (M[j]).k, .int .i64 (M[j]).n, .float .f64 (M[j]).f, .string (M[j]).s]] w1 fun e w' => e = .returned (.bool (sameV L[j] M[j])) ∧ Below w1.heap.size w1 w') := fun w1 => rsame_any (L[j]).k (L[j]).n (M[j]).k (M[j]).n (L[j]).f (M[j]).f (L[j]).s (M[j]).s w1
          have HR1 : Hid (∀ w1 : World, Below w.heap.size w w1 → RowV w1 w.heap.size (some ⟨bm, om + j * 4, none⟩) [M[j]]) := fun w1 hb => (HA.out.2.1.keep hb).one j hj2
          have HR2 : Hid (M[j].ok ∧ M[j].s.size ≤ 65536) := ⟨HA.out.2.2 _ (List.getElem_mem hj2), HZ.out _ (List.getElem_mem hj2)⟩
          have HRL : (rowB [M[j]]).length ≤ 65547 := row1_len HR2.out.2
          have HNE := row1_ne M[j]
          have HUP : Hid (65536 < (chgS L M (j + 1)).1.length → d.1 = [] ∧ d.2 = 3) := fun h => by
            have h1 := chgS_mono L M (j + 1) (M.length - (j + 1))
            rw [show j + 1 + (M.length - (j + 1)) = M.length by omega] at h1
            have := HF.out
            rw [if_neg (by omega)] at this
            exact ⟨congrArg Prod.fst this, congrArg Prod.snd this⟩
          have hcle := chgS_le L M j
          clear c0 c1 c2 c3 d0 d1 d2 d3 hj0 HF
          generalize sameV L[j] M[j] = sv at *
          generalize hCn : chgS L M (j + 1) = Cn at *
          obtain ⟨C, nx, hCj⟩ : ∃ C nx, chgS L M j = (C, nx) := ⟨_, _, rfl⟩
          rw [hCj] at HS hO hcle
          simp only [hCj]
          dsimp only at HS hO hcle ⊢
          have hcl2 := hO.out.2.2
          generalize L[j] = x at *
          generalize M[j] = y at *
          obtain ⟨xk, xn, xf, xs⟩ := x
          generalize hyk : y.k = yk at *
          generalize hyn : y.n = yn at *
          generalize hyf : y.f = yf at *
          generalize hys : y.s = ys at *
          clear hyk hyn hyf
          dsimp only at a0 a1 a2 a3 q0 q1 q2 q3 CS
          cases sv
          · have HE : Hid (Cn = (C ++ varB (j - nx) ++ rowB [y], j + 1)) := HS.out.2 rfl
            clear HS
            have hsl : ∀ w1 : World, (Instr.slice 28 (.slice (some ⟨bm, om, none⟩) M.length cm) (some (.int .i64 (j : Int))) (some (.int .i64 ((j : Int) + 1))) none).run Tryd.prog w1 = .ok (.slice (some ⟨bm, om + j * 4, none⟩) 1 (cm - j)) w1 := fun w1 => slice_one bm om M.length cm j w1 hj2 hcm
            have hvl : (varB (j - nx)).length ≤ 10 := varB_len _
            have CV : Hid (∀ (w1 : World) (z : Int), z = (j : Int) - (nx : Int) → Calls Tryd.prog 29 #[.int .u64 z] w1 fun e w' => ∃ v', e = .returned v' ∧ OwnB w' w1.heap.size v' (varB (j - nx)) ∧ Below w1.heap.size w1 w') := fun w1 z hz => by
              have h3 := rvarint_any (j - nx) w1 (by omega)
              rw [show ((j - nx : Nat) : Int) = z by omega] at h3
              exact h3
            have CRw : Hid (∀ (w1 : World), Below w.heap.size w w1 → Calls Tryd.prog 20 #[.slice (some ⟨bm, om + j * 4, none⟩) 1 (cm - j)] w1 fun e w' => ∃ v', e = .returned v' ∧ OwnB w' w1.heap.size v' (rowB [y]) ∧ Below w1.heap.size w1 w') := fun w1 h3 =>
              bytesOf_any [y] _ _ w1 ((HR1.out w1 h3).mono h3.size) (fun u hu => by rw [List.mem_singleton.1 hu, hys]; exact HR2.out) (by simp) (by simp)
            have HVN := varB_ne (j - nx)
            have hCL : Hid (Cn.1.length = C.length + (varB (j - nx)).length + (rowB [y]).length ∧ Cn.2 = j + 1) := ⟨by rw [HE.out]; simp only [List.length_append], by rw [HE.out]⟩
            generalize varB (j - nx) = V at *
            generalize rowB [y] = Y at *
            go_wp2_with fail
            go_region_with (first | (go_at_call 26; refine (CS.out _).mono ?_; rintro e w5 ⟨rfl, hb5⟩))
            all_goals
              have hk5 : Keep5 w.heap.size w w5 := hO.out.2.1.drew.trans (Keep5.of_below hb5 (by simpa using hkb.size))
              have HO5 : Hid (OwnB w5 w.heap.size u10 C) := hO.out.1.kept ((Below.refl wr.heap.size wr).drew.trans hb5)
              have hz5 := hk5.below.size
              clear hO hkb hb5 CS
              go_wp2_with fail
              refine (CV.out _ _ (by omega)).mono ?_
              rintro e w6 ⟨v6, rfl, hO6, hb6⟩
              obtain ⟨g6, cap6, rfl, hc6⟩ := hO6.some HVN
              have hz6 := hb6.size
              have hk6 : Keep5 w.heap.size w w6 := hk5.trans (Keep5.of_below hb6 hz5)
              go_wp2_with (first | (at_builtin; refine wpList_app _ rfl (.tmp 40) (.tmp 46) rfl w.heap.size u10 C (by rfl) (HO5.out.kept hb6) ⟨g6, 0, none⟩ V.length cap6 V (by rfl) rfl hc6 (by omega) (by omega) ?_; intro v7 w7 h7 h7k))
              have hk7 : Keep5 w.heap.size w w7 := hk6.trans h7k
              have hz7 := hk7.below.size
              refine (CRw.out _ hk7.below).mono ?_
              rintro e w8 ⟨v8, rfl, hO8, hb8⟩
              obtain ⟨g8, cap8, rfl, hc8⟩ := hO8.some HNE
              have hz8 := hb8.size
              have hk8 : Keep5 w.heap.size w w8 := hk7.trans (Keep5.of_below hb8 hz7)
              have HO8 : Hid (OwnB w8 w.heap.size v7 (C ++ V)) := h7.kept hb8
              have hCV : (C ++ V).length ≤ 65546 := by rw [List.length_append]; omega
              clear hO6 hO8 hc6 h7 h7k hk6 hk5 HO5 hb6 hb8 hk7
              obtain ⟨N, hN⟩ : ∃ N, Cn.1.length = N := ⟨_, rfl⟩
              have HN : Hid ((C ++ V ++ Y).length = N) := by
                show _ = _
                rw [← hN, HE.out]
              have hNb : N ≤ 140000 := by rw [← HN.out, List.length_append]; omega
              rcases Nat.lt_or_ge 65536 N with hbig | hsm
              · have H12 : Hid (d.1 = [] ∧ d.2 = 3) := HUP.out (by omega)
                clear hN
                go_wp2_with (first | (at_builtin; refine wpList_app _ rfl (.tmp 48) (.tmp 54) rfl w.heap.size v7 (C ++ V) (by rfl) HO8.out ⟨g8, 0, none⟩ Y.length cap8 Y (by rfl) rfl hc8 (by omega) (by omega) ?_; intro v9 w9 h9 h9k; obtain ⟨p9, c9, rfl⟩ := h9.lenN HN.out))
                have hk9 := (hk8.trans h9k).below
                go_ret2
                exact ⟨strE H12.out.1.symm H12.out.2.symm, hk9⟩
              · go_wp2_with (first | (at_builtin; refine wpList_app _ rfl (.tmp 48) (.tmp 54) rfl w.heap.size v7 (C ++ V) (by rfl) HO8.out ⟨g8, 0, none⟩ Y.length cap8 Y (by rfl) rfl hc8 (by omega) (by omega) ?_; intro v9 w9 h9 h9k; obtain ⟨p9, c9, rfl⟩ := h9.lenN HN.out))
                have R : Hid (OwnB w9 w.heap.size (.slice p9 N c9) Cn.1 ∧ Keep5 w.heap.size w w9 ∧ Cn.1.length ≤ 65536) := ⟨by rw [HE.out]; exact h9, hk8.trans h9k, by omega⟩
                have HC2 := hCL.out.2
                clear h9 h9k hk8 HO8 hc8
                go_roundw
                case rel => exact ⟨j + 1, hj2, by go_num, by rw [hCn, HC2]; go_num, by rw [hCn]; exact R⟩
                case measure => simp [intOf]; omega
          · have HE : Hid (Cn = (C, nx)) := HS.out.1 rfl
            clear HS
            go_wp2_with fail
            go_region_with (first | (go_at_call 26; refine (CS.out _).mono ?_; rintro e w5 ⟨rfl, hb5⟩))
            all_goals
              have hk5 : Keep5 w.heap.size w w5 := hO.out.2.1.drew.trans (Keep5.of_below hb5 (by simpa using hkb.size))
              have HO5 : OwnB w5 w.heap.size u10 C := hO.out.1.kept ((Below.refl wr.heap.size wr).drew.trans hb5)
              have R : Hid (OwnB w5 w.heap.size u10 Cn.1 ∧ Keep5 w.heap.size w w5 ∧ Cn.1.length ≤ 65536) := ⟨by rw [HE.out]; exact HO5, hk5, by rw [HE.out]; exact hcl2⟩
              have HC2 : Cn.2 = nx := by rw [HE.out]
              clear hk5 HO5 hO hkb hb5 CS
              go_wp2_with fail
              go_roundw
              case rel => exact ⟨j + 1, hj2, by go_num, by rw [hCn, HC2], by rw [hCn]; exact R⟩
              case measure => simp [intOf]; omega
    · rw [if_neg hem] at HF
      have hem' : (em != 0) = true := by simpa using hem
      have H12 : Hid (d.1 = [] ∧ d.2 = em) := ⟨congrArg Prod.fst HF.out, congrArg Prod.snd HF.out⟩
      clear HF HOK
      go_wp2
      go_ret2
      exact ⟨strE H12.out.1.symm H12.out.2.symm, hbw⟩
  · rw [if_neg hel] at HF
    have hel' : (el != 0) = true := by simpa using hel
    have H12 : Hid (d.1 = [] ∧ d.2 = el) := ⟨congrArg Prod.fst HF.out, congrArg Prod.snd HF.out⟩
    clear HF HOK
    go_wp2
    go_ret2
    exact ⟨strE H12.out.1.symm H12.out.2.symm, hbw⟩
end Go.Proofs.YtgnedioggpgeeaaDoor
