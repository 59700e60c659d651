/- A point looked for in a list in order. Lists of spans. -/
import Derived.Test.YtcknhjabdjbjiabGreatGWCp
import Derived.Test.YtcknhjabdjbjiabGreatGWV13
namespace Go.Proofs.YtcknhjabdjbjiabGreat
open Go.RowKit
set_option maxRecDepth 100000

theorem RisP.lt {L : List Pt} (h : RisP L) {i j : Nat} (hij : i < j) (hj : j < L.length) : ltP (L[i]'(by omega)) L[j] = true := List.pairwise_iff_getElem.1 h i j (by omega) hj hij

set_option maxHeartbeats 8000000 in
theorem bsP_any (L : List Pt) (p : Option Addr) (c : Nat) (t : Pt) (w : World) (hR0 : RowP w w.heap.size p L) (hI0 : RisP L) (hlen : L.length ≤ 4398046511104) :
    Calls Tryz.prog 61 #[.slice p L.length c, PV t, .func (.func 62) #[] #[]] w fun e w' => ∃ (i : Nat) (b : Bool), e = .returned (.tuple #[.int .i64 (i : Nat), .bool b]) ∧ i ≤ L.length ∧ (∀ k (hk : k < L.length), k < i → ltP L[k] t = true) ∧ (∀ k (hk : k < L.length), i ≤ k → ltP L[k] t = false) ∧ Below w.heap.size w w' := by
  have hal : Below w.heap.size w (w.alloc (.cells #[.int .i64 t.t, .int .i64 t.i, .string t.k] 36)) := (Below.refl _ _).alloc (Nat.le_refl _) _
  have hz : (w.alloc (.cells #[.int .i64 t.t, .int .i64 t.i, .string t.k] 36)).heap.size = w.heap.size + 1 := by simp
  have HT : Hid (Blk (w.alloc (.cells #[.int .i64 t.t, .int .i64 t.i, .string t.k] 36)) w.heap.size #[.int .i64 t.t, .int .i64 t.i, .string t.k] 36 ∧ (w.alloc (.cells #[.int .i64 t.t, .int .i64 t.i, .string t.k] 36)).heap.size = w.heap.size + 1) := ⟨Blk.new w _ _, hz⟩
  have HR : Hid (RowP (w.alloc (.cells #[.int .i64 t.t, .int .i64 t.i, .string t.k] 36)) (w.alloc (.cells #[.int .i64 t.t, .int .i64 t.i, .string t.k] 36)).heap.size p L) := hR0.on hal
  have HI : Hid (RisP L) := hI0
  have HW : Hid (Below w.heap.size w (w.alloc (.cells #[.int .i64 t.t, .int .i64 t.i, .string t.k] 36))) := hal
  have HCM : Hid (∀ (x : Pt) (w1 : World), Calls Tryz.prog 62 #[PV x, PV t] w1 fun e w' => e = .returned (.int .i64 (cmpP x t)) ∧ Below w1.heap.size w1 w') := fun x w1 => compareB_any x t w1
  clear hR0 hI0 hal hz
  go_enter Tryz.func61, Tryz.ntmps61
  go_wp2_with fail
  generalize (w.alloc (.cells #[.int .i64 t.t, .int .i64 t.i, .string t.k] 36)) = wA at *
  go_loopw [9, 10] (fun a b wr => ∃ i j : Nat, a = .int .i64 (i : Int) ∧ b = .int .i64 (j : Int) ∧ i ≤ j ∧ j ≤ L.length ∧ Hid (∀ k (hk : k < L.length), k < i → ltP L[k] t = true) ∧ Hid (∀ k (hk : k < L.length), j ≤ k → ltP L[k] t = false) ∧ Hid (Below wA.heap.size wA wr)) (fun a b _ => (intOf b).toNat - (intOf a).toNat)
  case atStart => exact ⟨0, L.length, by go_num, rfl, Nat.zero_le _, Nat.le_refl _, fun k _ h => absurd h (by omega), fun k hk h => absurd h (by omega), Below.refl _ _⟩
  case round =>
    obtain ⟨i, j, rfl, rfl, hij, hj, hA, hB, HBl⟩ := hrel
    by_cases h0 : i = j
    · subst h0
      clear hij
      by_cases hm1 : i < L.length
      · obtain ⟨b, o, hp, hb, d0, d1, d2⟩ := (HR.out.on HBl.out) i hm1
        subst hp
        have b0 := InB.cell (w := wr) d0 hb
        have b1 := InB.cell (w := wr) d1 hb
        have b2 := InB.cell (w := wr) d2 hb
        have t0 := InB.cell (w := wr) ((HBl.out.cell (p := ⟨w.heap.size, 0, none⟩) (by have := HT.out.2; show w.heap.size < _; omega)).trans (HT.out.1.cell (i := 0) rfl)) (by have := HT.out.2; have := HBl.out.size; omega)
        have t1 := InB.cell (w := wr) ((HBl.out.cell (p := ⟨w.heap.size, 1, none⟩) (by have := HT.out.2; show w.heap.size < _; omega)).trans (HT.out.1.cell (i := 1) rfl)) (by have := HT.out.2; have := HBl.out.size; omega)
        have t2 := InB.cell (w := wr) ((HBl.out.cell (p := ⟨w.heap.size, 2, none⟩) (by have := HT.out.2; show w.heap.size < _; omega)).trans (HT.out.1.cell (i := 2) rfl)) (by have := HT.out.2; have := HBl.out.size; omega)
        have ne1 := inB_ne wr
        have CC : Hid (∀ w1 : World, Calls Tryz.prog 62 #[PV L[i], PV t] w1 fun e w' => e = .returned (.int .i64 (cmpP L[i] t)) ∧ Below w1.heap.size w1 w') := fun w1 => HCM.out L[i] w1
        clear d0 d1 d2 hb
        generalize cmpP L[i] t = cm at *
        generalize L[i] = x at b0 b1 b2 CC
        have gl : decide ((i : Int) < (L.length : Int)) = true := by simp; omega
        go_wp2_with fail
        refine wp_region_inB (by kernel_rfl) (by kernel_rfl) ?_
        repeat (go_big_quiet_step (first
          | (go_at_call 62; exact Calls.inB (CC.out _))))
        refine wpQuiet_nil ?_
        rintro w2 ⟨⟨w3, hb2⟩, h9⟩
        obtain rfl : w2 = w3 := h9
        clear b0 b1 b2 t0 t1 t2 ne1 CC
        go_wp2_with fail
        refine bodyPost_ret (results_tmp2 rfl _ _ _) rfl ?_
        exact ⟨i, _, rfl, hj, hA.out, hB.out, HW.out.trans ((HBl.out.trans (hb2.mono HBl.out.size)).mono HW.out.size)⟩
      · have hi2 : i = L.length := by omega
        have gl : decide ((i : Int) < (L.length : Int)) = false := by simp; omega
        have ne1 := inB_ne wr
        go_wp2_with fail
        refine wp_region_inB (by kernel_rfl) (by kernel_rfl) ?_
        repeat (go_big_quiet_step (first
          | (go_at_call 62; fail)))
        refine wpQuiet_nil ?_
        rintro w2 ⟨⟨w3, hb2⟩, h9⟩
        obtain rfl : w2 = w3 := h9
        clear ne1
        go_wp2_with fail
        refine bodyPost_ret (results_tmp2 rfl _ _ _) rfl ?_
        exact ⟨i, _, rfl, hj, hA.out, hB.out, HW.out.trans ((HBl.out.trans (hb2.mono HBl.out.size)).mono HW.out.size)⟩
    · have hl : i < j := by omega
      obtain ⟨m, hm⟩ : ∃ m : Nat, m = (i + j) / 2 := ⟨_, rfl⟩
      have hmi : ((i : Int) + (j : Int)) / 2 = ((m : Nat) : Int) := by omega
      have hm1 : m < L.length := by omega
      have HM : Hid (i ≤ m ∧ m < j) := ⟨by omega, by omega⟩
      clear hm
      obtain ⟨b, o, hp, hb, d0, d1, d2⟩ := (HR.out.on HBl.out) m hm1
      subst hp
      have b0 := InB.cell (w := wr) d0 hb
      have b1 := InB.cell (w := wr) d1 hb
      have b2 := InB.cell (w := wr) d2 hb
      have t0 := InB.cell (w := wr) ((HBl.out.cell (p := ⟨w.heap.size, 0, none⟩) (by have := HT.out.2; show w.heap.size < _; omega)).trans (HT.out.1.cell (i := 0) rfl)) (by have := HT.out.2; have := HBl.out.size; omega)
      have t1 := InB.cell (w := wr) ((HBl.out.cell (p := ⟨w.heap.size, 1, none⟩) (by have := HT.out.2; show w.heap.size < _; omega)).trans (HT.out.1.cell (i := 1) rfl)) (by have := HT.out.2; have := HBl.out.size; omega)
      have t2 := InB.cell (w := wr) ((HBl.out.cell (p := ⟨w.heap.size, 2, none⟩) (by have := HT.out.2; show w.heap.size < _; omega)).trans (HT.out.1.cell (i := 2) rfl)) (by have := HT.out.2; have := HBl.out.size; omega)
      have ne1 := inB_ne wr
      have CC : Hid (∀ w1 : World, Calls Tryz.prog 62 #[PV L[m], PV t] w1 fun e w' => e = .returned (.int .i64 (cmpP L[m] t)) ∧ Below w1.heap.size w1 w') := fun w1 => HCM.out L[m] w1
      clear d0 d1 d2 hb
      by_cases hx : ltP L[m] t = true
      · have HA2 : Hid (∀ k (hk : k < L.length), k < m + 1 → ltP L[k] t = true) := fun k hk hkm => by
          rcases Nat.lt_or_eq_of_le (Nat.lt_succ_iff.1 hkm) with h | h
          · exact ltP_trans (HI.out.lt h hm1) hx
          · subst h; exact hx
        have hc : decide (cmpP L[m] t < 0) = true := hx
        clear hx hA
        generalize cmpP L[m] t = cm at *
        generalize L[m] = x at b0 b1 b2 CC
        go_wp2_with fail
        refine wp_region_inB (by kernel_rfl) (by kernel_rfl) ?_
        repeat (go_big_quiet_step (first
          | (go_at_call 62; exact Calls.inB (CC.out _))))
        refine wpQuiet_nil ?_
        rintro w2 ⟨⟨w3, hb2⟩, h9⟩
        obtain rfl : w2 = w3 := h9
        clear b0 b1 b2 t0 t1 t2 ne1 CC hmi
        go_wp2_with fail
        go_roundw
        case rel => exact ⟨m + 1, j, by go_num, rfl, by have := HM.out; omega, hj, HA2, hB, HBl.out.trans (hb2.mono HBl.out.size)⟩
        case measure => simp [intOf]; have := HM.out; omega
      · have hx' : ltP L[m] t = false := by cases h : ltP L[m] t; rfl; exact absurd h hx
        have HB3 : Hid (∀ k (hk : k < L.length), m ≤ k → ltP L[k] t = false) := fun k hk hkm => by
          rcases Nat.lt_or_eq_of_le hkm with h | h
          · exact leP_trans hx' (ltP_asymm (HI.out.lt h hk))
          · subst h; exact hx'
        have hc : decide (cmpP L[m] t < 0) = false := hx'
        clear hx hx' hB
        generalize cmpP L[m] t = cm at *
        generalize L[m] = x at b0 b1 b2 CC
        go_wp2_with fail
        refine wp_region_inB (by kernel_rfl) (by kernel_rfl) ?_
        repeat (go_big_quiet_step (first
          | (go_at_call 62; exact Calls.inB (CC.out _))))
        refine wpQuiet_nil ?_
        rintro w2 ⟨⟨w3, hb2⟩, h9⟩
        obtain rfl : w2 = w3 := h9
        clear b0 b1 b2 t0 t1 t2 ne1 CC hmi
        go_wp2_with fail
        go_roundw
        case rel => exact ⟨i, m, rfl, rfl, HM.out.1, by have := HM.out; omega, hA, HB3, HBl.out.trans (hb2.mono HBl.out.size)⟩
        case measure => simp [intOf]; have := HM.out; omega

end Go.Proofs.YtcknhjabdjbjiabGreat

namespace Go.Proofs.YtcknhjabdjbjiabGreat
open Go.Shelf Go.RowKit Go.Lib Go.Sort
set_option maxRecDepth 100000

structure Sp where
  t : Int
  i : Int
  lo : ByteArray
  hi : ByteArray
  op : Bool
  deriving DecidableEq


def encS (r : Sp) : List Value := [.int .i64 r.t, .int .i64 r.i, .string r.lo, .string r.hi, .bool r.op]

theorem info_S : (Tryz.prog.info? 86).map (fun i => (i.zero, i.size, i.bytes)) = some (some (.agg #[.int .i64 0, .int .i64 0, .string ⟨#[]⟩, .string ⟨#[]⟩, .bool false]), 5, 56) := by kernel_rfl

def scells (L : List Sp) : List Value := L.flatMap encS

theorem scells_cons (r : Sp) (L : List Sp) : scells (r :: L) = .int .i64 r.t :: .int .i64 r.i :: .string r.lo :: .string r.hi :: .bool r.op :: scells L := rfl

theorem scells_len (L : List Sp) : (scells L).length = L.length * 5 := by
  induction L with
  | nil => rfl
  | cons v L ih => rw [scells_cons]; simp only [List.length_cons]; rw [ih]; omega

theorem scells_append (a b : List Sp) : scells (a ++ b) = scells a ++ scells b := by simp [scells]

theorem scells_at : ∀ (L : List Sp) (i : Nat) (hi : i < L.length), (scells L)[i * 5]? = some (.int .i64 L[i].t) ∧ (scells L)[i * 5 + 1]? = some (.int .i64 L[i].i) ∧ (scells L)[i * 5 + 2]? = some (.string L[i].lo) ∧ (scells L)[i * 5 + 3]? = some (.string L[i].hi) ∧ (scells L)[i * 5 + 4]? = some (.bool L[i].op)
  | [], i, hi => by simp at hi
  | r :: L, 0, _ => ⟨rfl, rfl, rfl, rfl, rfl⟩
  | r :: L, i + 1, hi => by
    have h := scells_at L i (by simpa using hi)
    have e : (i + 1) * 5 = i * 5 + 5 := by omega
    rw [scells_cons, e]
    exact h

theorem scells_set : ∀ (L : List Sp) (i : Nat) (r : Sp), i < L.length → scells (L.set i r) = (((((scells L).set (i * 5) (.int .i64 r.t)).set (i * 5 + 1) (.int .i64 r.i)).set (i * 5 + 2) (.string r.lo)).set (i * 5 + 3) (.string r.hi)).set (i * 5 + 4) (.bool r.op)
  | [], i, r, hi => by simp at hi
  | v :: L, 0, r, _ => rfl
  | v :: L, i + 1, r, hi => by
    have h := scells_set L i r (by simpa using hi)
    have e : (i + 1) * 5 = i * 5 + 5 := by omega
    rw [List.set_cons_succ, scells_cons, scells_cons, e, h]
    rfl

/-- the slice v owns these, in a block of number B or more -/
def OwnS (w : World) (B : Nat) (v : Value) (L : List Sp) : Prop := w.ownsRow B 86 5 v L.length (scells L)

theorem OwnS.nil (w : World) (B : Nat) : OwnS w B (.slice none 0 0) [] := World.ownsRow_nil w B _ _

theorem OwnS.mono {w : World} {B C : Nat} {v : Value} {L : List Sp} (h : OwnS w B v L) (hb : C ≤ B) : OwnS w C v L := by
  refine ⟨h.1, ?_⟩
  rcases h.2 with h1 | ⟨g, cap, cur, e, hb', r⟩
  · exact .inl h1
  · exact .inr ⟨g, cap, cur, e, Nat.le_trans hb hb', r⟩

theorem OwnS.kept {w w' : World} {B : Nat} {v : Value} {L : List Sp} (h : OwnS w B v L) (hb : Below w.heap.size w w') : OwnS w' B v L := by
  refine ⟨h.1, ?_⟩
  rcases h.2 with h1 | ⟨g, cap, cur, e, hb', hg, r⟩
  · exact .inl h1
  · exact .inr ⟨g, cap, cur, e, hb', (hb.block g (Array.getElem?_eq_some_iff.1 hg).1).trans hg, r⟩

theorem OwnS.form {w : World} {B : Nat} {v : Value} {L : List Sp} (h : OwnS w B v L) : (v = .slice none 0 0 ∧ L = []) ∨ ∃ g cap, v = .slice (some ⟨g, 0, none⟩) L.length cap ∧ B ≤ g ∧ g < w.heap.size := by
  rcases h.2 with ⟨h1, h2⟩ | ⟨g, cap, cur, e, hb, hg, _⟩
  · exact .inl ⟨h1, List.eq_nil_of_length_eq_zero h2⟩
  · exact .inr ⟨g, cap, e, hb, (Array.getElem?_eq_some_iff.1 hg).1⟩

theorem OwnS.at {w : World} {B g cap : Nat} {L : List Sp} (h : OwnS w B (.slice (some ⟨g, 0, none⟩) L.length cap) L) (i : Nat) (hi : i < L.length) :
    (w.cell? ⟨g, i * 5, none⟩ = some (.int .i64 L[i].t) ∧ w.cell? ⟨g, i * 5 + 1, none⟩ = some (.int .i64 L[i].i) ∧ w.cell? ⟨g, i * 5 + 2, none⟩ = some (.string L[i].lo) ∧ w.cell? ⟨g, i * 5 + 3, none⟩ = some (.string L[i].hi) ∧ w.cell? ⟨g, i * 5 + 4, none⟩ = some (.bool L[i].op)) ∧
    (w.frozen? ⟨g, i * 5, none⟩ = false ∧ w.frozen? ⟨g, i * 5 + 1, none⟩ = false ∧ w.frozen? ⟨g, i * 5 + 2, none⟩ = false ∧ w.frozen? ⟨g, i * 5 + 3, none⟩ = false ∧ w.frozen? ⟨g, i * 5 + 4, none⟩ = false) := by
  obtain ⟨a0, a1, a2, a3, a4⟩ := scells_at L i hi
  have h' : w.ownsRow B 86 5 (.slice (some ⟨g, 0, none⟩) L.length cap) L.length (scells L) := h
  exact ⟨⟨(h'.cellAt (i * 5) (by omega)).trans a0, (h'.cellAt (i * 5 + 1) (by omega)).trans a1, (h'.cellAt (i * 5 + 2) (by omega)).trans a2, (h'.cellAt (i * 5 + 3) (by omega)).trans a3, (h'.cellAt (i * 5 + 4) (by omega)).trans a4⟩, h'.frozenAt _, h'.frozenAt _, h'.frozenAt _, h'.frozenAt _, h'.frozenAt _⟩

/-- 's[i] = r' -/
theorem OwnS.set {w : World} {B g cap : Nat} {L : List Sp} (h : OwnS w B (.slice (some ⟨g, 0, none⟩) L.length cap) L) (i : Nat) (hi : i < L.length) (r : Sp) :
    OwnS ((((((w).setCell ⟨g, i * 5, none⟩ (.int .i64 r.t)).setCell ⟨g, i * 5 + 1, none⟩ (.int .i64 r.i)).setCell ⟨g, i * 5 + 2, none⟩ (.string r.lo)).setCell ⟨g, i * 5 + 3, none⟩ (.string r.hi)).setCell ⟨g, i * 5 + 4, none⟩ (.bool r.op)) B (.slice (some ⟨g, 0, none⟩) L.length cap) (L.set i r) := by
  have h' : w.ownsRow B 86 5 (.slice (some ⟨g, 0, none⟩) L.length cap) L.length (scells L) := h
  have h3 := (((((h'.stored (i * 5) (.int .i64 r.t)).1.stored (i * 5 + 1) (.int .i64 r.i)).1.stored (i * 5 + 2) (.string r.lo)).1.stored (i * 5 + 3) (.string r.hi)).1.stored (i * 5 + 4) (.bool r.op)).1
  unfold OwnS
  rw [List.length_set, scells_set L i r hi]
  exact h3

/-- 'append(l, r)' -/
theorem wpList_appS {ops : Array Oper} {rest : List Oper} {o : Oper} {a : Act} {Q : Exit → Act → World → Prop} (w : World) (hgd : o.guard = none) (s x : Operand)
    (ho : o.op = .call { callee := .builtin .append, args := #[s, x], argTypes := #[25, 25] })
    (B : Nat) (v : Value) (L : List Sp) (hs : a.eval s = v) (hown : OwnS w B v L)
    (u : Sp) (g : Nat) (hx : a.eval x = .slice (some ⟨g, 0, none⟩) 1 1) (hgz : g = w.heap.size)
    (hlen : L.length + 1 ≤ 2513169434916) (hbase : B ≤ w.heap.size)
    (h : ∀ v' w', OwnS w' B v' (L ++ [u]) → Below B w w' → wpList Tryz.prog ops Q rest (a.put o.dst v') w') : wpList Tryz.prog ops Q (o :: rest) a (w.alloc (.cells #[.int .i64 u.t, .int .i64 u.i, .string u.lo, .string u.hi, .bool u.op] 86)) := by
  obtain ⟨i, hi, hz0, hz1, hz2⟩ := info_parts info_S
  subst hgz
  have hown' : OwnS (w.alloc (.cells #[.int .i64 u.t, .int .i64 u.i, .string u.lo, .string u.hi, .bool u.op] 86)) B v L := hown.kept ((Below.refl _ _).alloc (Nat.le_refl _) _)
  refine wpList_append_own _ hgd s x 25 ho B 86 i (.agg #[.int .i64 0, .int .i64 0, .string ⟨#[]⟩, .string ⟨#[]⟩, .bool false]) 5 56 Tryz.underlying25 hi hz0 hz1 hz2 rfl (by decide) v L.length (scells L) hs hown' ⟨w.heap.size, 0, none⟩ 1 1 (scells [u]) hx rfl ?_ ?_ (by unfold maxLen; omega) (by omega) (by simp; omega) ?_
  · intro j y hj
    have hj' : j < 5 := by
      have := (List.getElem?_eq_some_iff.1 hj).1
      simpa [scells, encS] using this
    have e : (⟨w.heap.size, 0, none⟩ : Addr).add j = ⟨w.heap.size, j, none⟩ := by unfold Addr.add; split <;> simp_all
    rw [e]
    have h4 : j = 0 ∨ j = 1 ∨ j = 2 ∨ j = 3 ∨ j = 4 := by omega
    rcases h4 with rfl | rfl | rfl | rfl | rfl <;> (simp [scells, encS] at hj; subst hj; simp [go_sem])
  · intro y hy
    simp [scells, encS] at hy
    rcases hy with rfl | rfl | rfl | rfl | rfl <;> rfl
  · intro v' w' h1 h2 _
    refine h v' w' ?_ ?_
    · unfold OwnS
      rw [scells_append, List.length_append]
      exact h1
    · exact ((Below.refl _ _).alloc hbase _).grown h2 (by simp; omega) (fun k hk => (hown'.lt k hk).1)

/-- what is owned, in the sort's words -/
theorem OwnS.holds [Inhabited Sp] {w : World} {B g cap : Nat} {L : List Sp} (h : OwnS w B (.slice (some ⟨g, 0, none⟩) L.length cap) L) : HoldsK encS 5 w g 0 L.toArray := by
  intro j hj
  rw [size_flatK] at hj
  have hj' : j < L.length * 5 := by simpa using hj
  rw [get_flatK encS 5 L.toArray j hj, Nat.zero_add]
  have hi : j / 5 < L.length := by omega
  obtain ⟨⟨c0, c1, c2, c3, c4⟩, f0, f1, f2, f3, f4⟩ := h.at (j / 5) hi
  have eL : L.toArray[j / 5]! = L[j / 5] := by simp [getElem!_pos, hi]
  rw [eL]
  have h3 : j % 5 = 0 ∨ j % 5 = 1 ∨ j % 5 = 2 ∨ j % 5 = 3 ∨ j % 5 = 4 := by omega
  rcases h3 with e | e | e | e | e
  · have ej : j = j / 5 * 5 := by omega
    rw [e]
    rw [← ej] at c0 f0
    exact ⟨c0, f0⟩
  · have ej : j = j / 5 * 5 + 1 := by omega
    rw [e]
    rw [← ej] at c1 f1
    exact ⟨c1, f1⟩
  · have ej : j = j / 5 * 5 + 2 := by omega
    rw [e]
    rw [← ej] at c2 f2
    exact ⟨c2, f2⟩
  · have ej : j = j / 5 * 5 + 3 := by omega
    rw [e]
    rw [← ej] at c3 f3
    exact ⟨c3, f3⟩
  · have ej : j = j / 5 * 5 + 4 := by omega
    rw [e]
    rw [← ej] at c4 f4
    exact ⟨c4, f4⟩

/-- the slice at p holds these, in a block below B -/
def RowS (w : World) (B : Nat) (p : Option Addr) (L : List Sp) : Prop := ∀ i (hi : i < L.length), ∃ b o, p = some ⟨b, o, none⟩ ∧ b < B ∧
  w.cell? ⟨b, o + i * 5, none⟩ = some (.int .i64 L[i].t) ∧ w.cell? ⟨b, o + i * 5 + 1, none⟩ = some (.int .i64 L[i].i) ∧ w.cell? ⟨b, o + i * 5 + 2, none⟩ = some (.string L[i].lo) ∧ w.cell? ⟨b, o + i * 5 + 3, none⟩ = some (.string L[i].hi) ∧ w.cell? ⟨b, o + i * 5 + 4, none⟩ = some (.bool L[i].op)

theorem RowS.keep {w w' : World} {B : Nat} {p : Option Addr} {L : List Sp} (h : RowS w B p L) (hb : Below B w w') : RowS w' B p L := by
  intro i hi
  obtain ⟨b, o, e, hbB, c0, c1, c2, c3, c4⟩ := h i hi
  have k : ∀ {o : Nat} {v : Option Value}, w.cell? ⟨b, o, none⟩ = v → w'.cell? ⟨b, o, none⟩ = v := fun {o v} hc => (hb.cell (p := ⟨b, o, none⟩) hbB).trans hc
  exact ⟨b, o, e, hbB, k c0, k c1, k c2, k c3, k c4⟩

theorem RowS.mono {w : World} {B C : Nat} {p : Option Addr} {L : List Sp} (h : RowS w B p L) (hb : B ≤ C) : RowS w C p L := by
  intro i hi
  obtain ⟨b, o, e, hbB, r⟩ := h i hi
  exact ⟨b, o, e, Nat.lt_of_lt_of_le hbB hb, r⟩

theorem RowS.on {w w' : World} {p : Option Addr} {L : List Sp} (h : RowS w w.heap.size p L) (hb : Below w.heap.size w w') : RowS w' w'.heap.size p L := (h.keep hb).mono hb.size

theorem OwnS.row {w : World} {B : Nat} {v : Value} {L : List Sp} (h : OwnS w B v L) : ∃ (p : Option Addr) (c : Nat), v = .slice p L.length c ∧ RowS w w.heap.size p L := by
  rcases h.form with ⟨rfl, rfl⟩ | ⟨g, cap, rfl, _, hg⟩
  · exact ⟨none, 0, rfl, fun i hi => absurd hi (by simp)⟩
  · refine ⟨_, cap, rfl, fun i hi => ?_⟩
    obtain ⟨⟨c0, c1, c2, c3, c4⟩, _⟩ := h.at i hi
    exact ⟨g, 0, rfl, hg, by rw [Nat.zero_add]; exact c0, by rw [Nat.zero_add]; exact c1, by rw [Nat.zero_add]; exact c2, by rw [Nat.zero_add]; exact c3, by rw [Nat.zero_add]; exact c4⟩

theorem scells_get (L : List Sp) (j : Nat) (hj : j < L.length * 5) : (scells L)[j]? = (encS (L[j / 5]'(by omega)))[j % 5]? := by
  have hi : j / 5 < L.length := by omega
  obtain ⟨a0, a1, a2, a3, a4⟩ := scells_at L (j / 5) hi
  have h3 : j % 5 = 0 ∨ j % 5 = 1 ∨ j % 5 = 2 ∨ j % 5 = 3 ∨ j % 5 = 4 := by omega
  rcases h3 with e | e | e | e | e
  · have ej : j / 5 * 5 = j := by omega
    rw [e]; rw [ej] at a0; exact a0
  · have ej : j / 5 * 5 + 1 = j := by omega
    rw [e]; rw [ej] at a1; exact a1
  · have ej : j / 5 * 5 + 2 = j := by omega
    rw [e]; rw [ej] at a2; exact a2
  · have ej : j / 5 * 5 + 3 = j := by omega
    rw [e]; rw [ej] at a3; exact a3
  · have ej : j / 5 * 5 + 4 = j := by omega
    rw [e]; rw [ej] at a4; exact a4

theorem RowS.cells {w : World} {B b o : Nat} {L : List Sp} (h : RowS w B (some ⟨b, o, none⟩) L) : ∀ j y, (scells L)[j]? = some y → w.cell? ((⟨b, o, none⟩ : Addr).add j) = some y := by
  intro j y hj
  have hl : j < L.length * 5 := by have := (List.getElem?_eq_some_iff.1 hj).1; rw [scells_len] at this; exact this
  have e : (⟨b, o, none⟩ : Addr).add j = ⟨b, o + j, none⟩ := by unfold Addr.add; split <;> simp_all
  rw [e]
  obtain ⟨b', o', e', _, c0, c1, c2, c3, c4⟩ := h (j / 5) (by omega)
  injection e' with e'
  injection e' with e1 e2
  subst e1 e2
  rw [scells_get L j hl] at hj
  have h3 : j % 5 = 0 ∨ j % 5 = 1 ∨ j % 5 = 2 ∨ j % 5 = 3 ∨ j % 5 = 4 := by omega
  rcases h3 with e | e | e | e | e
  · have ej : o + j = o + j / 5 * 5 := by omega
    rw [e] at hj; rw [ej, c0]; exact hj
  · have ej : o + j = o + j / 5 * 5 + 1 := by omega
    rw [e] at hj; rw [ej, c1]; exact hj
  · have ej : o + j = o + j / 5 * 5 + 2 := by omega
    rw [e] at hj; rw [ej, c2]; exact hj
  · have ej : o + j = o + j / 5 * 5 + 3 := by omega
    rw [e] at hj; rw [ej, c3]; exact hj
  · have ej : o + j = o + j / 5 * 5 + 4 := by omega
    rw [e] at hj; rw [ej, c4]; exact hj

theorem scells_one (L : List Sp) : ∀ y ∈ scells L, y.oneCell' = true := by
  intro y hy
  simp only [scells, List.mem_flatMap, encS] at hy
  obtain ⟨r, _, h⟩ := hy
  simp at h
  rcases h with rfl | rfl | rfl | rfl | rfl <;> rfl

theorem RowS.cellsA {w : World} {B : Nat} {a : Addr} {L : List Sp} (h : RowS w B (some a) L) : ∀ j y, (scells L)[j]? = some y → w.cell? (a.add j) = some y := by
  match L, h with
  | [], _ => intro j y hj; simp [scells] at hj
  | r :: L, h =>
    obtain ⟨b, o, e, _⟩ := h 0 (by simp)
    injection e with e
    subst e
    exact h.cells





theorem scells_take (L : List Sp) (k : Nat) : scells (L.take k) = (scells L).take (k * 5) := by
  induction L generalizing k with
  | nil => simp [scells]
  | cons r L ih =>
    cases k with
    | zero => simp [scells]
    | succ k =>
      have e : (k + 1) * 5 = k * 5 + 1 + 1 + 1 + 1 + 1 := by omega
      rw [List.take_succ_cons, scells_cons, scells_cons, e, List.take_succ_cons, List.take_succ_cons, List.take_succ_cons, List.take_succ_cons, List.take_succ_cons, ih]

/-- the row cut to its first ones, whatever is laid behind them -/
theorem OwnS.cut {w : World} {B g cap n : Nat} {M : List Sp} (h : OwnS w B (.slice (some ⟨g, 0, none⟩) n cap) M) (hn : n = M.length) (k : Nat) (hk : k ≤ n) (vs : List Value) :
    OwnS (w.setCells g (k * 5) vs) B (.slice (some ⟨g, 0, none⟩) k cap) (M.take k) := by
  have hl : (M.take k).length = k := by rw [List.length_take]; omega
  rcases h.2 with ⟨h1, _⟩ | ⟨g', cap', cur, e, hb, hg, hn1, hm, hs, ht⟩
  · cases h1
  · injection e with e1 e2 e3
    injection e1 with e1
    injection e1 with e1
    subst e1 e3
    obtain ⟨cur', c1, c2, c3⟩ := setCells_row g 86 vs (k * 5) w cur hg
    refine ⟨by rw [scells_len], .inr ⟨g, cap, cur', by rw [hl], hb, c1, by omega, hm, by rw [c2]; exact hs, ?_⟩⟩
    rw [hl, scells_take, ← ht, List.take_take]
    have hmin : min (k * 5) (M.length * 5) = k * 5 := by omega
    rw [hmin]
    apply List.ext_getElem?
    intro j
    rw [List.getElem?_take, List.getElem?_take]
    split
    · rename_i hj
      rw [Array.getElem?_toList, Array.getElem?_toList, c3 j hj]
    · rfl

def zeroS (n : Nat) : List Value := (Builtin.zeroCells #[.int .i64 0, .int .i64 0, .string ⟨#[]⟩, .string ⟨#[]⟩, .bool false] n).toList

theorem zeroS_len (n : Nat) : (zeroS n).length = n * 5 := by simp [zeroS, Builtin.zeroCells]

theorem zeroS_one (n : Nat) : ∀ v ∈ zeroS n, v.oneCell' = true := by
  intro v hv
  simp [zeroS, Builtin.zeroCells] at hv
  obtain ⟨j, _, rfl⟩ := hv
  have h3 : j % 5 = 0 ∨ j % 5 = 1 ∨ j % 5 = 2 ∨ j % 5 = 3 ∨ j % 5 = 4 := by omega
  rcases h3 with e | e | e | e | e <;> simp [e] <;> rfl

theorem run_clearS (w : World) (ty : TypeId) (b o n c : Nat) (hn : 0 < n) (hc : ∀ j, j < n * 5 → (w.cell? ⟨b, o + j, none⟩).isSome = true) (hf : ∀ j, j < n * 5 → w.frozen? ⟨b, o + j, none⟩ = false) :
    (Builtin.clear_ #[25] ty #[.slice (some ⟨b, o, none⟩) n c]).run Tryz.prog w = .ok (.tuple #[]) (w.setCells b o (zeroS n)) := by
  have hst := run_storeCells_cells (P := Tryz.prog) b o (zeroS n) 0 w (by rw [zeroS_len]; simpa using hc) (by rw [zeroS_len]; simpa using hf) (zeroS_one n)
  simp only [Nat.add_zero] at hst
  obtain ⟨m, rfl⟩ : ∃ m, n = m + 1 := ⟨n - 1, by omega⟩
  have hz : (Value.agg #[.int .i64 0, .int .i64 0, .string ⟨#[]⟩, .string ⟨#[]⟩, .bool false]).cells = #[.int .i64 0, .int .i64 0, .string ⟨#[]⟩, .string ⟨#[]⟩, .bool false] := by first | rfl | kernel_rfl | simp [Value.cells]
  unfold zeroS at hst ⊢
  simp [Builtin.clear_, run_underlying Tryz.underlying25, hz, hst]

theorem OwnS.cap {w : World} {B g cap n : Nat} {L : List Sp} (h : OwnS w B (.slice (some ⟨g, 0, none⟩) n cap) L) : L.length ≤ cap ∧ cap ≤ maxLen ∧ B ≤ g ∧ g < w.heap.size := by
  rcases h.2 with ⟨h1, _⟩ | ⟨g', cap', cur, e, hb, hg, hn1, hm, hs, ht⟩
  · cases h1
  · injection e with e1 e2 e3
    injection e1 with e1
    injection e1 with e1
    subst e1 e3
    exact ⟨hn1, hm, hb, (Array.getElem?_eq_some_iff.1 hg).1⟩

end Go.Proofs.YtcknhjabdjbjiabGreat
