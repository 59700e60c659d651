/- Layer 19: a parting in memory; shut. Layer 19: shut. -/
import Derived.Test.YtncfejndmlcidaaGreatGWTg3
namespace Go.Proofs.YtncfejndmlcidaaGreat
open Go.RowKit
set_option maxRecDepth 100000

def nats (L : List Nat) : Array Value := (L.map natV).toArray
def ints9 (L : List Int) : Array Value := (L.map (Value.int .i64)).toArray
theorem nats_get (L : List Nat) (i : Nat) (hi : i < L.length) : (nats L)[i]? = some (.int .i64 (L.getD i 0 : Nat)) := by
  simp [nats, hi]
theorem ints9_get (L : List Int) (i : Nat) (hi : i < L.length) : (ints9 L)[i]? = some (.int .i64 (L.getD i 0)) := by
  simp [ints9, hi]
theorem nats_set (L : List Nat) (i : Nat) (x : Nat) : (nats L).setIfInBounds i (.int .i64 (x : Nat)) = nats (L.set i x) := by
  simp [nats]
theorem ints9_set (L : List Int) (i : Nat) (x : Int) : (ints9 L).setIfInBounds i (.int .i64 x) = ints9 (L.set i x) := by
  simp [ints9]
/-- where a parting lies -/
structure Pv where
  pb : Nat
  mb : Nat
  lb : Nat
  qb : Nat
  nv : Value
  n : Nat
/-- A PARTING IN MEMORY -/
structure PtI (w : World) (C : Nat) (v : Pv) (vO : Value) (s : Pst) : Prop where
  blk : Blk w v.pb #[v.nv, .int .i64 (s.cnt : Nat), .slice (some ⟨v.mb, 0, none⟩) v.n v.n, .slice (some ⟨v.lb, 0, none⟩) v.n v.n, vO, .slice (some ⟨v.qb, 0, none⟩) v.n v.n] 124
  met : Blk w v.mb (nats s.met) 3
  low : Blk w v.lb (nats s.low) 3
  prt : Blk w v.qb (ints9 s.prt) 3
  opn : OwnG encN 1 3 w C vO s.opn
  ml : v.mb ≠ v.lb
  mq : v.mb ≠ v.qb
  lq : v.lb ≠ v.qb
  om : vO.ownBlock ≠ some v.mb
  ol : vO.ownBlock ≠ some v.lb
  oq : vO.ownBlock ≠ some v.qb
  pC : C ≤ v.pb
  mC : C ≤ v.mb
  lC : C ≤ v.lb
  qC : C ≤ v.qb
section
variable {w w' : World} {C : Nat} {v : Pv} {vO : Value} {s : Pst}
theorem PtI.on (h : PtI w C v vO s) (hb : Below w.heap.size w w') : PtI w' C v vO s := { h with blk := h.blk.on hb, met := h.met.on hb, low := h.low.on hb, prt := h.prt.on hb, opn := h.opn.on hb }
theorem PtI.opp (h : PtI w C v vO s) : vO.ownBlock ≠ some v.pb := fun e => own_ne_blk h.opn h.blk (by decide) e.symm
theorem PtI.pne (h : PtI w C v vO s) {g : Nat} {cs : Array Value} (hg : Blk w g cs 3) : v.pb ≠ g := fun e => by
  have h1 : w.heap[v.pb]? = _ := h.blk
  have h2 : w.heap[g]? = _ := hg
  rw [e, h2] at h1
  injection h1 with h1
  injection h1 with h3 h4
  exact absurd h4 (by decide)
/-- a count -/
theorem PtI.cnt (h : PtI w C v vO s) (x : Nat) : PtI (w.setCell ⟨v.pb, 1, none⟩ (.int .i64 (x : Nat))) C v vO { s with cnt := x } :=
  { h with blk := h.blk.set 1 _, met := h.met.other (Ne.symm (h.pne h.met)) 1 _, low := h.low.other (Ne.symm (h.pne h.low)) 1 _, prt := h.prt.other (Ne.symm (h.pne h.prt)) 1 _, opn := h.opn.byG (fun g hg => heap_set_other w v.pb 1 g _ (fun e => h.opp (by rw [hg, e]))) }
theorem PtI.setM (h : PtI w C v vO s) (i x : Nat) : PtI (w.setCell ⟨v.mb, i, none⟩ (.int .i64 (x : Nat))) C v vO { s with met := s.met.set i x } :=
  { h with blk := h.blk.other (h.pne h.met) i _, met := by rw [← nats_set]; exact h.met.set i _, low := h.low.other (Ne.symm h.ml) i _, prt := h.prt.other (Ne.symm h.mq) i _, opn := h.opn.byG (fun g hg => heap_set_other w v.mb i g _ (fun e => h.om (by rw [hg, e]))) }
theorem PtI.setL (h : PtI w C v vO s) (i x : Nat) : PtI (w.setCell ⟨v.lb, i, none⟩ (.int .i64 (x : Nat))) C v vO { s with low := s.low.set i x } :=
  { h with blk := h.blk.other (h.pne h.low) i _, met := h.met.other h.ml i _, low := by rw [← nats_set]; exact h.low.set i _, prt := h.prt.other (Ne.symm h.lq) i _, opn := h.opn.byG (fun g hg => heap_set_other w v.lb i g _ (fun e => h.ol (by rw [hg, e]))) }
theorem PtI.setP (h : PtI w C v vO s) (i : Nat) (x : Int) : PtI (w.setCell ⟨v.qb, i, none⟩ (.int .i64 x)) C v vO { s with prt := s.prt.set i x } :=
  { h with blk := h.blk.other (h.pne h.prt) i _, met := h.met.other h.mq i _, low := h.low.other h.lq i _, prt := by rw [← ints9_set]; exact h.prt.set i _, opn := h.opn.byG (fun g hg => heap_set_other w v.qb i g _ (fun e => h.oq (by rw [hg, e]))) }
/-- the open ones are others -/
theorem PtI.setO (h : PtI w C v vO s) {v4 : Value} {O' : List Nat} (ho : OwnG encN 1 3 w' C v4 O') (hf : Frm w w' (fun k => vO.ownBlock = some k)) (hat : v4.ownBlock = vO.ownBlock ∨ v4.ownBlock = some w.heap.size ∨ v4.ownBlock = none) : PtI (w'.setCell ⟨v.pb, 4, none⟩ v4) C v v4 { s with opn := O' } := by
  have g : ∀ {g : Nat} {cs : Array Value} {T : TypeId}, Blk w g cs T → vO.ownBlock ≠ some g → Blk w' g cs T := fun hb hne => hb.frm hf hne
  have hb := g h.blk h.opp
  have hm := g h.met h.om
  have hl := g h.low h.ol
  have hq := g h.prt h.oq
  have hn : ∀ {k : Nat} {cs : Array Value}, Blk w k cs 3 → vO.ownBlock ≠ some k → v4.ownBlock ≠ some k := fun hk hne e => by
    rcases hat with h1 | h1 | h1
    · rw [h1] at e; exact hne e
    · rw [h1] at e
      cases e
      exact absurd hk.lt (by omega)
    · rw [h1] at e; cases e
  have hp : v4.ownBlock ≠ some v.pb := fun e => own_ne_blk ho hb (by decide) e.symm
  exact { h with blk := hb.set 4 _, met := hm.other (Ne.symm (h.pne h.met)) 4 _, low := hl.other (Ne.symm (h.pne h.low)) 4 _, prt := hq.other (Ne.symm (h.pne h.prt)) 4 _, opn := ho.byG (fun k hk => heap_set_other w' v.pb 4 k _ (fun e => hp (by rw [hk, e]))), om := hn h.met h.om, ol := hn h.low h.ol, oq := hn h.prt h.oq }
end
theorem idx_not {x : Nat} : ∀ (L : List Nat) (j : Nat) (h : j < L.length), j < L.idxOf x → L[j] ≠ x
  | [], j, h, _ => absurd h (by simp)
  | a :: L, 0, _, h1 => fun e => by
    have e1 : a = x := e
    rw [List.idxOf_cons, e1, beq_self_eq_true] at h1
    simp at h1
  | a :: L, j + 1, h, h1 => fun e => by
    rw [List.idxOf_cons] at h1
    cases ha : (a == x)
    · rw [ha] at h1
      exact idx_not L j (by simpa using h) (by simpa using h1) e
    · rw [ha] at h1
      simp at h1
set_option maxHeartbeats 4000000 in
theorem indexN_any (v : Value) (L : List Nat) (x : Nat) (w : World) (hL : SlG encN 1 w.heap.size w v L) (hl : L.length ≤ 4398046511104) (hx : x ∈ L) :
    Calls Tryz.prog 115 #[v, .int .i64 (x : Int)] w fun e w' => e = .returned (.int .i64 (L.idxOf x : Nat)) ∧ w' = w := by
  obtain ⟨p, c, rfl, hpc, hp0, hrow⟩ := hL.f
  have HRow : Hid (∀ i (hi : i < L.length), ∃ b o, p = some ⟨b, o, none⟩ ∧ w.cell? ⟨b, o + i, none⟩ = some (.int .i64 (L[i] : Nat))) := fun i hi => by
    obtain ⟨b, o, e, hb, hc⟩ := hrow i hi
    have hd := hc 0 _ rfl
    rw [Nat.mul_one, Nat.add_zero] at hd
    exact ⟨b, o, e, hd⟩
  obtain ⟨r, hr⟩ : ∃ r, L.idxOf x = r := ⟨_, rfl⟩
  have hrl : r < L.length := by rw [← hr]; exact List.idxOf_lt_length_of_mem hx
  have HI : Hid ((∀ h : r < L.length, L[r] = x) ∧ ∀ j (h : j < L.length), j < r → L[j] ≠ x) := by
    refine ⟨fun _ => by simp only [← hr]; exact List.getElem_idxOf _, fun j hj hjr => ?_⟩
    rw [← hr] at hjr
    exact idx_not L j hj hjr
  obtain ⟨l, hll⟩ : ∃ l, L.length = l := ⟨_, rfl⟩
  have HLL : Hid (L.length = l ∧ r < l) := ⟨hll, by rw [← hll]; exact hrl⟩
  have hrl2 : r < l := HLL.out.2
  rw [hll] at hpc hl ⊢
  rw [hr]
  clear hL hrow hll hr hrl hx
  go_enter Tryz.func115, Tryz.ntmps115
  go_wp2_with fail
  go_loopw [8] (fun ix wr => ∃ k : Nat, ix = .int .i64 (k : Int) ∧ k ≤ r ∧ wr = w) (fun ix _ => l - (intOf ix).toNat)
  case atStart => exact ⟨0, by go_num, Nat.zero_le _, rfl⟩
  case round =>
    obtain ⟨k, rfl, hk, rfl⟩ := hrel
    have hk1 : k < l := by omega
    have hki : k < L.length := by rw [HLL.out.1]; exact hk1
    obtain ⟨b, o, rfl, c0⟩ := HRow.out k hki
    by_cases hkr : k = r
    · subst hkr
      have hq : ((x : Int) == ((L[k] : Nat) : Int)) = true := by rw [beq_iff_eq, HI.out.1 hki]
      generalize L[k] = y at *
      go_wp2_with fail
      go_ret
      exact ⟨rfl, rfl⟩
    · have hk2 : k < r := by omega
      have hq : ((x : Int) == ((L[k] : Nat) : Int)) = false := by
        have h9 := HI.out.2 k hki hk2
        rw [beq_eq_false_iff_ne]
        omega
      clear hkr
      generalize L[k] = y at *
      go_wp2_with fail
      go_roundw
      case rel => exact ⟨k + 1, by go_num, hk2, by trivial⟩
      case measure => simp [intOf]; omega
/-- a row cut to its first ones -/
theorem OwnG.cut1 {w : World} {C g l cap k : Nat} {O : List Nat} (h : OwnG encN 1 3 w C (.slice (some ⟨g, 0, none⟩) l cap) O) (hk : k ≤ O.length) : OwnG encN 1 3 w C (.slice (some ⟨g, 0, none⟩) k cap) (O.take k) := by
  rcases h.form with ⟨e, _⟩ | ⟨g', cap', cur, e, hB, hg, h1, h2, h3, h4⟩
  · cases e
  · obtain ⟨e1, e2, rfl⟩ := Value.slice.inj e
    cases e1
    have hl : (O.take k).length = k := by rw [List.length_take]; omega
    have h5 := own1_of (f := natV) (L := O.take k) (T := 3) (cur := cur) (cap := cap) hg hB (by omega) h2 (by omega) (fun j hj => by
      have hjk : j < k := by omega
      have h6 := congrArg (fun l => l[j]?) h4
      simp only [List.getElem?_take, Nat.mul_one] at h6
      rw [if_pos (by omega)] at h6
      rw [← Array.getElem?_toList, h6, List.getElem_take]
      have h7 := flat_at (enc := encN) (size := 1) (fun _ => rfl) O j (by omega) 0 (by omega)
      rw [Nat.mul_one, Nat.add_zero] at h7
      rw [h7]
      rfl)
    rw [hl] at h5
    exact h5

end Go.Proofs.YtncfejndmlcidaaGreat

namespace Go.Proofs.YtncfejndmlcidaaGreat
open Go.RowKit
set_option maxRecDepth 100000

theorem OwnG.slN {w : World} {C : Nat} {v : Value} {O : List Nat} (h : OwnG encN 1 3 w C v O) : SlG encN 1 w.heap.size w v O := OwnG.sl (T := 3) (B := C) (fun _ => rfl) h
theorem SlG.cellN {B : Nat} {w : World} {p : Option Addr} {l c : Nat} {L : List Nat} (h : SlG encN 1 B w (.slice p l c) L) (i : Nat) (hi : i < L.length) : ∃ b o, p = some ⟨b, o, none⟩ ∧ b < B ∧ w.cell? ⟨b, o + i, none⟩ = some (.int .i64 (L[i] : Nat)) := by
  obtain ⟨p', c', e, _, _, h3⟩ := h.f
  cases e
  obtain ⟨b, o, e, hb, hc⟩ := h3 i hi
  have hd := hc 0 _ rfl
  rw [Nat.mul_one, Nat.add_zero] at hd
  exact ⟨b, o, e, hb, hd⟩
set_option maxHeartbeats 4000000 in
theorem shut_any (C : Nat) (v : Pv) (vO : Value) (s : Pst) (p : Nat) (w : World) (hP : PtI w C v vO s) (hC : C ≤ w.heap.size) (hI : PInv v.n s) (hn : v.n ≤ 4096) (hp : p ∈ s.opn) :
    Calls Tryz.prog 114 #[.pointer (some ⟨v.pb, 0, none⟩), .int .i64 (p : Int)] w fun e w' => e = .returned (.tuple #[]) ∧ Below C w w' ∧ ∃ vO', PtI w' C v vO' (s.shut p) := by
  obtain ⟨g, l, cap, ev, hl, hlc, hcm⟩ : ∃ g l cap, vO = .slice (some ⟨g, 0, none⟩) l cap ∧ s.opn.length = l ∧ l ≤ cap ∧ cap ≤ maxLen := by
    rcases hP.opn.form with ⟨_, e⟩ | ⟨g, cap, cur, e, hB, hg, h1, h2, h3, h4⟩
    · rw [e] at hp; simp at hp
    · exact ⟨g, _, cap, e, rfl, h1, h2⟩
  subst ev
  have hol : s.opn.length ≤ 4096 := by have := hI.ol; have := hI.cu; omega
  have HP : Hid (PtI w C v (.slice (some ⟨g, 0, none⟩) l cap) s) := hP
  have HI : Hid (PInv v.n s ∧ v.n ≤ 4096 ∧ p ∈ s.opn ∧ C ≤ w.heap.size ∧ s.opn.length = l) := ⟨hI, hn, hp, hC, hl⟩
  have CI : Hid (Calls Tryz.prog 115 #[.slice (some ⟨g, 0, none⟩) l cap, .int .i64 (p : Int)] w fun e w' => e = .returned (.int .i64 (s.opn.idxOf p : Nat)) ∧ w' = w) := indexN_any _ s.opn p w hP.opn.slN (by omega) hp
  obtain ⟨i, hi⟩ : ∃ i, s.opn.idxOf p = i := ⟨_, rfl⟩
  have hil : i < l := by rw [← hi, ← hl]; exact List.idxOf_lt_length_of_mem hp
  have HIX : Hid (s.opn.idxOf p = i ∧ i < l ∧ l ≤ 4096) := ⟨hi, hil, by rw [← hl]; exact hol⟩
  have hl4 : l ≤ 4096 := HIX.out.2.2
  have hcm2 : cap ≤ 9223372036854775807 := by unfold maxLen at hcm; omega
  have c4 : w.cell? ⟨v.pb, 4, none⟩ = some (.slice (some ⟨g, 0, none⟩) l cap) := hP.blk.cell rfl
  have f4 := hP.blk.frozen 4
  rw [hi] at CI
  obtain ⟨m, rfl⟩ : ∃ m, l = i + m := ⟨l - i, by omega⟩
  have hm1 : 1 ≤ m := by omega
  have hci : ¬ cap = i := by omega
  clear hP hI hn hp hC hl hi hol hcm
  go_enter Tryz.func114, Tryz.ntmps114
  go_wp2_with (first | (go_at_call 115; refine CI.out.mono ?_; rintro e w1 ⟨rfl, hw1⟩; obtain rfl := hw1.symm))
  clear CI c4 f4
  go_loopw [20] (fun ix wr => ∃ j : Nat, ix = .int .i64 (j : Int) ∧ j ≤ m ∧ Hid (Below C w wr ∧ PtI wr C v (.slice (some ⟨g, 0, none⟩) (i + m) cap) { s with prt := ((s.opn.drop i).take j).foldl (fun l q => l.set q (p : Int)) s.prt })) (fun ix _ => m - (intOf ix).toNat)
  case atStart => exact ⟨0, by go_num, Nat.zero_le _, Below.refl _ _, HP.out⟩
  case round =>
    obtain ⟨j, rfl, hj, HJ⟩ := hrel
    have hdl : (s.opn.drop i).length = m := by rw [List.length_drop, HI.out.2.2.2.2]; omega
    by_cases hj0 : j = m
    · subst hj0
      have HE : Hid ({ s with prt := ((s.opn.drop i).take j).foldl (fun l q => l.set q (p : Int)) s.prt, opn := s.opn.take i } = s.shut p) := by
        show _ = _
        unfold Pst.shut
        rw [HIX.out.1, show ((s.opn.drop i).take j) = s.opn.drop i from List.take_of_length_le (by omega)]
      have c4 : wr.cell? ⟨v.pb, 4, none⟩ = some (.slice (some ⟨g, 0, none⟩) (i + j) cap) := HJ.out.2.blk.cell rfl
      have f4 := HJ.out.2.blk.frozen 4
      clear hdl
      go_wp2_with fail
      go_end0
      have h1 := HJ.out.2.setO (w' := wr) (v4 := .slice (some ⟨g, 0, none⟩) i cap) (O' := s.opn.take i) (HJ.out.2.opn.cut1 (by rw [HI.out.2.2.2.2]; omega)) (Frm.refl _ _) (.inl rfl)
      have h2 : Below C w (wr.setCell ⟨v.pb, 4, none⟩ (.slice (some ⟨g, 0, none⟩) i cap)) := HJ.out.1.trans ((frm_set wr v.pb 4 _ (F := one1 v.pb) (.inl rfl)).below (Nat.le_trans HI.out.2.2.2.1 HJ.out.1.size) (fun k hk => by rw [show k = v.pb from hk]; exact HJ.out.2.pC))
      exact ⟨rfl, h2, _, by rw [← HE.out]; exact h1⟩
    · have hj1 : j < m := by omega
      clear hj0
      have HJ1 : Hid (j < m) := hj1
      have hji : i + j < s.opn.length := by rw [HI.out.2.2.2.2]; omega
      obtain ⟨b, o, e, hb, x0⟩ := HJ.out.2.opn.slN.cellN (i + j) hji
      cases e
      have hq := HI.out.1.op _ (List.getElem_mem hji)
      have HT : Hid (((s.opn.drop i).take (j + 1)).foldl (fun l q => l.set q (p : Int)) s.prt = (((s.opn.drop i).take j).foldl (fun l q => l.set q (p : Int)) s.prt).set s.opn[i + j] (p : Int)) := by
        have h1 := foldl_take (fun (l : List Int) (q : Nat) => l.set q (p : Int)) s.prt (s.opn.drop i) j (by omega)
        show _ = _
        rw [h1, List.getElem_drop]
      have c5 : wr.cell? ⟨v.pb, 5, none⟩ = some (.slice (some ⟨v.qb, 0, none⟩) v.n v.n) := HJ.out.2.blk.cell rfl
      have hql : (((s.opn.drop i).take j).foldl (fun l q => l.set q (p : Int)) s.prt).length = v.n := (foldl_set_len (fun q : Nat => q) (p : Int) _ _).trans HI.out.1.lp
      change wr.cell? ⟨g, 0 + (i + j), none⟩ = some (.int .i64 (s.opn[i + j] : Nat)) at x0
      rw [Nat.zero_add] at x0
      generalize s.opn[i + j] = q at *
      have z0 := HJ.out.2.prt.cell (ints9_get _ q (by rw [hql]; exact hq.1))
      have f0 := HJ.out.2.prt.frozen q
      have hqn : q < v.n := hq.1
      generalize (((s.opn.drop i).take j).foldl (fun l q => l.set q (p : Int)) s.prt) = PP at *
      dsimp only at z0
      generalize PP.getD q 0 = old at *
      clear hq hji hdl hql hb
      generalize hvn : v.n = n at *
      have HVN : Hid (v.n = n) := hvn
      clear hvn
      have hnn : n ≤ 4096 := HI.out.2.1
      go_wp2_with fail
      go_roundw
      case rel =>
        have h1 := HJ.out.2.setP q (p : Int)
        have h2 : Below C w (wr.setCell ⟨v.qb, q, none⟩ (.int .i64 (p : Int))) := HJ.out.1.trans ((frm_set wr v.qb q _ (F := one1 v.qb) (.inl rfl)).below (Nat.le_trans HI.out.2.2.2.1 HJ.out.1.size) (fun k hk => by rw [show k = v.qb from hk]; exact HJ.out.2.qC))
        exact ⟨j + 1, by go_num, HJ1.out, h2, by rw [HT.out]; exact h1⟩
      case measure => have h9 := HJ1.out; simp [intOf]; omega

end Go.Proofs.YtncfejndmlcidaaGreat
