/- Layer 12: calls and looks, as they are read. Plain mathematics: what a scan tells, in one word. -/
import Derived.Test.YtojfohpnfciajaaGWSkp36
namespace Go.Proofs.Ytojfohpnfciajaa
open Go.RowKit
set_option maxRecDepth 100000

/-- a call -/
structure OpR where
  kd : Int
  k : ByteArray
  v : Int
  h : Int
/-- a look -/
structure LkR where
  k : ByteArray
  lo : ByteArray
  hi : ByteArray
  op : Bool
  back : Bool
  most : Int
abbrev opC (a : OpR) : Array Value := #[.int .i64 a.kd, .string a.k, .int .i64 a.v, .int .i64 a.h]
abbrev lkC (a : LkR) : Array Value := #[.string a.k, .string a.lo, .string a.hi, .bool a.op, .bool a.back, .int .i64 a.most]
/-- calls in memory -/
def RdO (w : World) (B : Nat) (q : Option Addr) (L : List OpR) : Prop := ∀ i (hi : i < L.length), ∃ b o, q = some ⟨b, o, none⟩ ∧ b < B ∧ w.cell? ⟨b, o + i * 4 + 0, none⟩ = some (.int .i64 L[i].kd) ∧ w.cell? ⟨b, o + i * 4 + 1, none⟩ = some (.string L[i].k) ∧ w.cell? ⟨b, o + i * 4 + 2, none⟩ = some (.int .i64 L[i].v) ∧ w.cell? ⟨b, o + i * 4 + 3, none⟩ = some (.int .i64 L[i].h)
theorem RdO.keep {w w' : World} {B : Nat} {q : Option Addr} {L : List OpR} (h : RdO w B q L) (hb : Below B w w') : RdO w' B q L := by
  intro i hi
  obtain ⟨b, o, e, hlt, c0, c1, c2, c3⟩ := h i hi
  have k : ∀ n v, w.cell? ⟨b, n, none⟩ = some v → w'.cell? ⟨b, n, none⟩ = some v := fun n v hc => (hb.cell (p := ⟨b, n, none⟩) hlt).trans hc
  exact ⟨b, o, e, hlt, k _ _ c0, k _ _ c1, k _ _ c2, k _ _ c3⟩
/-- looks in memory -/
def RdK (w : World) (B : Nat) (q : Option Addr) (L : List LkR) : Prop := ∀ i (hi : i < L.length), ∃ b o, q = some ⟨b, o, none⟩ ∧ b < B ∧ w.cell? ⟨b, o + i * 6 + 0, none⟩ = some (.string L[i].k) ∧ w.cell? ⟨b, o + i * 6 + 1, none⟩ = some (.string L[i].lo) ∧ w.cell? ⟨b, o + i * 6 + 2, none⟩ = some (.string L[i].hi) ∧ w.cell? ⟨b, o + i * 6 + 3, none⟩ = some (.bool L[i].op) ∧ w.cell? ⟨b, o + i * 6 + 4, none⟩ = some (.bool L[i].back) ∧ w.cell? ⟨b, o + i * 6 + 5, none⟩ = some (.int .i64 L[i].most)
theorem RdK.keep {w w' : World} {B : Nat} {q : Option Addr} {L : List LkR} (h : RdK w B q L) (hb : Below B w w') : RdK w' B q L := by
  intro i hi
  obtain ⟨b, o, e, hlt, c0, c1, c2, c3, c4, c5⟩ := h i hi
  have k : ∀ n v, w.cell? ⟨b, n, none⟩ = some v → w'.cell? ⟨b, n, none⟩ = some v := fun n v hc => (hb.cell (p := ⟨b, n, none⟩) hlt).trans hc
  exact ⟨b, o, e, hlt, k _ _ c0, k _ _ c1, k _ _ c2, k _ _ c3, k _ _ c4, k _ _ c5⟩

end Go.Proofs.Ytojfohpnfciajaa

namespace Go.Proofs.Ytojfohpnfciajaa
set_option maxRecDepth 100000

/-- the entries of a range -/
def selE (E : List En) (lo hi : ByteArray) (op : Bool) : List En := E.filter (fun e => !ltB e.k lo && !endB hi op e.k)
theorem riseF_eq (hi : ByteArray) (op : Bool) (most : Nat) : ∀ (l T : List En), T.length < most → riseF hi op (most : Int) l T = T ++ (l.takeWhile (fun e => !endB hi op e.k)).take (most - T.length)
  | [], T, _ => by simp [riseF]
  | e :: l, T, h => by
    unfold riseF
    cases he : endB hi op e.k with
    | true => simp [he]
    | false =>
      rw [if_neg (by decide), List.takeWhile_cons_of_pos (by simp [he])]
      by_cases h2 : ((T.length + 1 : Nat) : Int) < (most : Int)
      · rw [if_pos h2, riseF_eq hi op most l (T ++ [e]) (by rw [List.length_append, List.length_singleton]; omega), List.length_append, List.length_singleton]
        obtain ⟨d, hd⟩ : ∃ d, most - T.length = d + 1 := ⟨most - T.length - 1, by omega⟩
        rw [hd, List.take_succ_cons, show most - (T.length + 1) = d by omega, List.append_assoc]
        rfl
      · rw [if_neg h2, show most - T.length = 1 by omega]
        simp
theorem takeW_filter {E : List En} (hr : RiseE E) {p : En → Bool} (hp : ∀ a b : En, ltB a.k b.k = true → p b = true → p a = true) : E.takeWhile p = E.filter p := by
  induction E with
  | nil => rfl
  | cons e l ih =>
    obtain ⟨h1, h2⟩ := List.pairwise_cons.1 hr
    cases he : p e with
    | true => rw [List.takeWhile_cons_of_pos he, List.filter_cons_of_pos he, ih h2]
    | false =>
      rw [List.takeWhile_cons_of_neg (by simp [he]), List.filter_cons_of_neg (by simp [he])]
      symm
      rw [List.filter_eq_nil_iff]
      intro b hb hpb
      have := hp e b (h1 b hb) hpb
      rw [he] at this
      cases this
theorem takeW_rev {E : List En} (hr : RiseE E) {p : En → Bool} (hp : ∀ a b : En, ltB a.k b.k = true → p a = true → p b = true) : E.reverse.takeWhile p = E.reverse.filter p := by
  have key : ∀ l : List En, l.Pairwise (fun a b => ltB b.k a.k = true) → l.takeWhile p = l.filter p := by
    intro l
    induction l with
    | nil => exact fun _ => rfl
    | cons e l ih =>
      intro h
      obtain ⟨h1, h2⟩ := List.pairwise_cons.1 h
      cases he : p e with
      | true => rw [List.takeWhile_cons_of_pos he, List.filter_cons_of_pos he, ih h2]
      | false =>
        rw [List.takeWhile_cons_of_neg (by simp [he]), List.filter_cons_of_neg (by simp [he])]
        symm
        rw [List.filter_eq_nil_iff]
        intro b hb hpb
        have := hp b e (h1 b hb) hpb
        rw [he] at this
        cases this
  exact key _ (List.pairwise_reverse.2 hr)
theorem end_mono {hi : ByteArray} {op : Bool} (a b : En) (h : ltB a.k b.k = true) (hb : (!endB hi op b.k) = true) : (!endB hi op a.k) = true := by
  unfold endB at hb ⊢
  cases op with
  | true => rfl
  | false =>
    simp only [Bool.not_false, Bool.true_and, Bool.not_not] at hb ⊢
    exact ltB_trans h hb
theorem lo_mono {lo : ByteArray} (a b : En) (h : ltB a.k b.k = true) (ha : (!ltB a.k lo) = true) : (!ltB b.k lo) = true := by
  simp only [Bool.not_eq_true'] at ha ⊢
  cases hc : ltB b.k lo with
  | false => rfl
  | true =>
    have := ltB_trans h hc
    rw [ha] at this
    cases this
/-- the keys that are not less than one are the last ones -/
theorem drop_filter {E : List En} (hr : RiseE E) (lo : ByteArray) : E.drop (fnd E lo) = E.filter (fun e => !ltB e.k lo) := by
  conv => rhs; rw [← List.take_append_drop (fnd E lo) E]
  rw [List.filter_append]
  have h1 : (E.take (fnd E lo)).filter (fun e => !ltB e.k lo) = [] := by
    rw [List.filter_eq_nil_iff]
    intro a ha
    obtain ⟨i, hi, rfl⟩ := List.getElem_of_mem ha
    rw [List.length_take] at hi
    rw [List.getElem_take, fnd_lt (by omega) (by omega)]
    decide
  have h2 : (E.drop (fnd E lo)).filter (fun e => !ltB e.k lo) = E.drop (fnd E lo) := by
    rw [List.filter_eq_self]
    intro a ha
    obtain ⟨i, hi, rfl⟩ := List.getElem_of_mem ha
    rw [List.length_drop] at hi
    rw [List.getElem_drop, fnd_ge hr (by omega) (by omega)]
    rfl
  rw [h1, h2, List.nil_append]
theorem scan_fwd {E : List En} (hr : RiseE E) (lo hi : ByteArray) (op : Bool) (most : Nat) (hm : 1 ≤ most) : scanE E lo hi op false (most : Int) = (selE E lo hi op).take most := by
  show riseF hi op (most : Int) (E.drop (fnd E lo)) [] = _
  rw [riseF_eq hi op most _ [] (Nat.lt_of_lt_of_le Nat.zero_lt_one hm), List.nil_append, takeW_filter (hr.sublist (List.drop_sublist _ _)) end_mono, drop_filter hr, List.filter_filter]
  rw [List.length_nil, Nat.sub_zero]
  unfold selE
  congr 2
  funext e
  exact Bool.and_comm _ _
/-- the entries of places -/
def entP (E : List En) (ps : List Nat) : List En := ps.filterMap (fun x => E[x - 1]?)
theorem runP_eq (lo : ByteArray) (most : Nat) (E : List En) : ∀ (ps : List Nat) (T : List En), T.length < most → (∀ x ∈ ps, 1 ≤ x ∧ x ≤ E.length) → (runP lo (most : Int) E (ps ++ [0]) T).1 = T ++ ((entP E ps).takeWhile (fun e => !ltB e.k lo)).take (most - T.length)
  | [], T, _, _ => by simp [runP, entP]
  | x :: ps, T, h, hx => by
    obtain ⟨h1, h2⟩ := hx x List.mem_cons_self
    obtain ⟨i, rfl⟩ : ∃ i, x = i + 1 := ⟨x - 1, by omega⟩
    have hi : i < E.length := by omega
    have he : entP E ((i + 1) :: ps) = E[i] :: entP E ps := by
      unfold entP
      rw [List.filterMap_cons, show i + 1 - 1 = i from rfl, List.getElem?_eq_getElem hi]
    rw [List.cons_append, runP_cons, List.getElem?_eq_getElem hi, he]
    dsimp only
    cases hl : ltB E[i].k lo with
    | true => rw [if_pos rfl, List.takeWhile_cons_of_neg (by simp [hl])]; simp
    | false =>
      rw [if_neg (by decide), List.takeWhile_cons_of_pos (by simp [hl])]
      by_cases h3 : ((T.length + 1 : Nat) : Int) < (most : Int)
      · rw [if_pos h3, runP_eq lo most E ps (T ++ [E[i]]) (by rw [List.length_append, List.length_singleton]; omega) (fun y hy => hx y (List.mem_cons_of_mem _ hy)), List.length_append, List.length_singleton]
        obtain ⟨d, hd⟩ : ∃ d, most - T.length = d + 1 := ⟨most - T.length - 1, by omega⟩
        rw [hd, List.take_succ_cons, show most - (T.length + 1) = d by omega, List.append_assoc]
        rfl
      · rw [if_neg h3, show most - T.length = 1 by omega]
        simp
/-- the good places' entries -/
theorem ent_good (hi : ByteArray) (op : Bool) (E : List En) : ∀ (n : Nat), n ≤ E.length → entP E ((List.range' 1 n).filter (goodP hi op E)) = (E.take n).filter (fun e => !endB hi op e.k)
  | 0, _ => rfl
  | n + 1, h => by
    have ih := ent_good hi op E n (by omega)
    rw [List.range'_1_concat, List.filter_append]
    unfold entP at ih ⊢
    rw [List.filterMap_append, ih, List.take_succ_eq_append_getElem (by omega), List.filter_append]
    congr 1
    have hg : goodP hi op E (1 + n) = !endB hi op E[n].k := by
      rw [Nat.add_comm]
      unfold goodP
      dsimp only
      rw [List.getElem?_eq_getElem (by omega)]
    cases hb : endB hi op E[n].k with
    | true =>
      rw [hb] at hg
      simp [hg, hb]
    | false =>
      rw [hb] at hg
      rw [List.filter_cons_of_pos (by simpa using hg), List.filter_cons_of_pos (by simp [hb])]
      have hn : n < E.length := by omega
      simp [hn]
theorem scan_back {E : List En} (hr : RiseE E) (lo hi : ByteArray) (op : Bool) (most : Nat) (hm : 1 ≤ most) : scanE E lo hi op true (most : Int) = (selE E lo hi op).reverse.take most := by
  show (runP lo (most : Int) E (PL hi op E 0 (E.length + 1)) []).1 = _
  have hpl : PL hi op E 0 (E.length + 1) = ((List.range' 1 E.length).filter (goodP hi op E)).reverse ++ [0] := by
    unfold PL
    rw [Nat.sub_zero, List.range'_succ, List.filter_cons_of_pos (by rfl), List.reverse_cons]
  rw [hpl, runP_eq lo most E _ [] (Nat.lt_of_lt_of_le Nat.zero_lt_one hm) (fun x hx => ?_), List.nil_append, List.length_nil, Nat.sub_zero]
  · have he : entP E ((List.range' 1 E.length).filter (goodP hi op E)).reverse = (E.filter (fun e => !endB hi op e.k)).reverse := by
      have h1 := ent_good hi op E E.length (Nat.le_refl _)
      rw [List.take_length] at h1
      unfold entP at h1 ⊢
      rw [List.filterMap_reverse, h1]
    rw [he, takeW_rev (hr.sublist List.filter_sublist) lo_mono, ← List.filter_reverse, List.filter_filter]
    rw [List.filter_reverse]
    rfl
  · rw [List.mem_reverse, List.mem_filter, List.mem_range'_1] at hx
    omega
/-- WHAT A SCAN TELLS. -/
theorem scan_spec {E : List En} (hr : RiseE E) (lo hi : ByteArray) (op back : Bool) (most : Int) : scanM E lo hi op back most = (if back then (selE E lo hi op).reverse else selE E lo hi op).take most.toNat := by
  unfold scanM
  by_cases h : most < 1
  · rw [if_pos h, show most.toNat = 0 by omega, List.take_zero]
  · rw [if_neg h]
    obtain ⟨n, hn⟩ : ∃ n : Nat, most = (n : Int) := ⟨most.toNat, by omega⟩
    subst hn
    rw [Int.toNat_natCast]
    cases back with
    | true => exact scan_back hr lo hi op n (by omega)
    | false => exact scan_fwd hr lo hi op n (by omega)
theorem sel_len (E : List En) (lo hi : ByteArray) (op : Bool) : (selE E lo hi op).length ≤ E.length := List.length_filter_le _ _
theorem sel_rise {E : List En} (hr : RiseE E) (lo hi : ByteArray) (op : Bool) : RiseE (selE E lo hi op) := hr.sublist List.filter_sublist

end Go.Proofs.Ytojfohpnfciajaa
