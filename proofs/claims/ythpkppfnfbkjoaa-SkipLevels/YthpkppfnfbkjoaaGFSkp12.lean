/- What the proofs of this seat share: calls and looks, opened. Plain mathematics: what a scan tells, in one word. -/
import Derived.WalkLawsBesides
import Derived.JoinedOf
import Derived.Handed
import Derived.Test.YthpkppfnfbkjoaaGFOpen
import Derived.Test.YthpkppfnfbkjoaaGWSkp37
namespace Go.Proofs.Ythpkppfnfbkjoaa
open Go.ChangeShapes Go.WideShapes Go.ChangeAt Go.RowKit Go.Joins Go.Deep
set_option maxRecDepth 100000

theorem own : ownKnob Try.prog.godebug = none := by kernel_rfl
theorem laidOut : laidOutB Try.prog = true := by kernel_rfl
theorem cellsOp : Try.prog.cellsOf 32 = 4 := by kernel_rfl
theorem bytesOp : Try.prog.bytesOf 32 = 40 := by kernel_rfl
theorem cellsSO : Try.prog.cellsOf 30 = 3 := by kernel_rfl
theorem cellsLk : Try.prog.cellsOf 38 = 6 := by kernel_rfl
theorem bytesLk : Try.prog.bytesOf 38 = 72 := by kernel_rfl
theorem cellsRg : Try.prog.cellsOf 36 = 3 := by kernel_rfl
theorem cellsI : Try.prog.cellsOf 3 = 1 := by kernel_rfl
theorem cellsN : Try.prog.cellsOf 2 = 1 := by kernel_rfl
theorem cellsS : Try.prog.cellsOf 9 = 1 := by kernel_rfl
theorem cellsB : Try.prog.cellsOf 4 = 1 := by kernel_rfl

section
variable {H : Type} {P : Program} {enc : TypeId × Value → H}
theorem trod_struct4' {w : World} {base : Nat} {spare : Nat → Bool} {held : Bool} {t : TypeId} {f0 f1 f2 f3 : Field} {fuel : Nat} {cs : List Value} {x : DataW H × List MemPlace} (ht : P.underlying t = some (.struct #[f0, f1, f2, f3])) (h : DataW.trod enc P w base spare held fuel t cs = some x) :
    ∃ y0 y1 y2 y3 n, x.1 = .agg [y0.1, y1.1, y2.1, y3.1] ∧ cs.length = P.cellsOf t ∧ DataW.trod enc P w base spare held n f0.type ((cs.drop f0.offset).take (P.cellsOf f0.type)) = some y0 ∧
      DataW.trod enc P w base spare held n f1.type ((cs.drop f1.offset).take (P.cellsOf f1.type)) = some y1 ∧ DataW.trod enc P w base spare held n f2.type ((cs.drop f2.offset).take (P.cellsOf f2.type)) = some y2 ∧
      DataW.trod enc P w base spare held n f3.type ((cs.drop f3.offset).take (P.cellsOf f3.type)) = some y3 := by
  obtain ⟨xs, n, _, rfl, hl, hlen, hf⟩ := DataW.trod_struct ht h
  match xs, hlen with
  | [y0, y1, y2, y3], _ => exact ⟨y0, y1, y2, y3, n, by simp, hl, by simpa using hf 0 f0 rfl, by simpa using hf 1 f1 rfl, by simpa using hf 2 f2 rfl, by simpa using hf 3 f3 rfl⟩
end

theorem openOpT {H : Type} {enc : TypeId × Value → H} {W : World} {fuel : Nat} {cs : List Value} {x : DataW H × List MemPlace} (h : DataW.trod enc Try.prog W 0 (fun _ => true) true fuel 32 cs = some x) :
    ∃ a : OpR, cs = [.int .i64 a.kd, .string a.k, .int .i64 a.v, .int .i64 a.h] := by
  obtain ⟨y0, y1, n, hx, hl, h0, h1⟩ := trod_struct2 Try.underlying32 h
  rw [cellsOp] at hl
  match cs, hl with
  | [c0, c1, c2, c3], _ =>
    obtain ⟨z0, z1, z2, n', _, _, g0, g1, g2⟩ := trod_struct3 Try.underlying30 h0
    obtain ⟨k3, e3, _⟩ := DataW.trod_int Try.underlying3 h1
    obtain ⟨k0, e0, _⟩ := DataW.trod_int Try.underlying3 g0
    obtain ⟨s1, e1, _⟩ := DataW.trod_string Try.underlying9 g1
    obtain ⟨k2, e2, _⟩ := DataW.trod_int Try.underlying2 g2
    simp [cellsI, cellsN, cellsS, cellsSO] at e0 e1 e2 e3
    subst e0 e1 e2 e3
    exact ⟨⟨k0, s1, k2, k3⟩, rfl⟩
theorem openLkT {H : Type} {enc : TypeId × Value → H} {W : World} {fuel : Nat} {cs : List Value} {x : DataW H × List MemPlace} (h : DataW.trod enc Try.prog W 0 (fun _ => true) true fuel 38 cs = some x) (hr : Reach Try.prog 38 x.1) :
    ∃ a : LkR, cs = [.string a.k, .string a.lo, .string a.hi, .bool a.op, .bool a.back, .int .i64 a.most] ∧ a.k.size ≤ 140737488351232 := by
  obtain ⟨y0, y1, y2, y3, n, hx, hl, h0, h1, h2, h3⟩ := trod_struct4' Try.underlying38 h
  rw [cellsLk] at hl
  match cs, hl with
  | [c0, c1, c2, c3, c4, c5], _ =>
    obtain ⟨z0, z1, z2, n', _, _, g0, g1, g2⟩ := trod_struct3 Try.underlying36 h1
    obtain ⟨s0, e0, f0, _⟩ := DataW.trod_string Try.underlying9 h0
    obtain ⟨s1, e1, _⟩ := DataW.trod_string Try.underlying9 g0
    obtain ⟨s2, e2, _⟩ := DataW.trod_string Try.underlying9 g1
    obtain ⟨b3, e3, _⟩ := DataW.trod_bool Try.underlying4 g2
    obtain ⟨b4, e4, _⟩ := DataW.trod_bool Try.underlying4 h2
    obtain ⟨k5, e5, _⟩ := DataW.trod_int Try.underlying3 h3
    rw [hx] at hr
    have hs := hr.part Try.underlying38 (j := 0) (u := 9) (d := y0.1) rfl rfl
    rw [f0] at hs
    have hs' := hs.str
    simp [cellsI, cellsS, cellsB, cellsRg] at e0 e1 e2 e3 e4 e5
    subst e0 e1 e2 e3 e4 e5
    exact ⟨⟨s0, s1, s2, b3, b4, k5⟩, rfl, by simpa [reachBytes] using hs'⟩

theorem openOp {H : Type} {enc : TypeId × Value → H} {W : World} {b0 : Nat} {v : Value} {d : DataW H} {p : List MemPlace}
    (hv : Value.okWide Try.prog W .any b0 32 v) (h : DataW.Trod enc Try.prog W 0 (fun _ => true) true 32 v d p) : ∃ a : OpR, v = .agg (opC a) := by
  obtain ⟨cs, rfl, hsz⟩ := okWide_struct Try.underlying32 hv
  obtain ⟨fuel, hf⟩ := h
  obtain ⟨cs⟩ := cs
  obtain ⟨a, e⟩ := openOpT hf
  simp only [Value.cells] at e
  subst e
  exact ⟨a, rfl⟩
theorem openLk {H : Type} {enc : TypeId × Value → H} {W : World} {b0 : Nat} {v : Value} {d : DataW H} {p : List MemPlace}
    (hv : Value.okWide Try.prog W .any b0 38 v) (h : DataW.Trod enc Try.prog W 0 (fun _ => true) true 38 v d p) (hr : Reach Try.prog 38 d) : ∃ a : LkR, v = .agg (lkC a) ∧ a.k.size ≤ 140737488351232 := by
  obtain ⟨cs, rfl, hsz⟩ := okWide_struct Try.underlying38 hv
  obtain ⟨fuel, hf⟩ := h
  obtain ⟨cs⟩ := cs
  obtain ⟨a, e, h9⟩ := openLkT hf hr
  simp only [Value.cells] at e
  subst e
  exact ⟨a, rfl, h9⟩
theorem openOps {H : Type} {enc : TypeId × Value → H} {W : World} {b0 : Nat} {v : Value} {d : DataW H} {p : List MemPlace}
    (hv : Value.okWide Try.prog W .any b0 22 v) (h : DataW.Trod enc Try.prog W 0 (fun _ => true) true 22 v d p) (hr : Reach Try.prog 22 d) :
    ∃ (L : List OpR) (q : Option Addr) (c : Nat), v = .slice q L.length c ∧ RdO W W.heap.size q L ∧ L.length ≤ 3518437208883 := by
  obtain ⟨a0, len, cap, rfl⟩ := okWide_slice Try.underlying22 hv
  obtain ⟨fuel, hf⟩ := h
  obtain ⟨L, q, c, e, hl, hb, _, he⟩ := openList (⟨0, ⟨#[]⟩, 0, 0⟩ : OpR) (fun cs a => cs = [.int .i64 a.kd, .string a.k, .int .i64 a.v, .int .i64 a.h]) Try.underlying22 cellsOp (by decide)
    (fun n cs' y hy _ => openOpT hy) hf hr
  simp [Value.cells] at e
  obtain ⟨rfl, rfl, rfl⟩ := e
  rw [bytesOp] at hb
  simp only [reachBytes] at hb
  refine ⟨L, a0, cap, rfl, fun i hi => ?_, by omega⟩
  obtain ⟨b, o, e, hlt, cs', rfl, _, hc⟩ := he i hi
  exact ⟨b, o, e, hlt, hc 0 (by decide), hc 1 (by decide), hc 2 (by decide), hc 3 (by decide)⟩
theorem openLks {H : Type} {enc : TypeId × Value → H} {W : World} {b0 : Nat} {v : Value} {d : DataW H} {p : List MemPlace}
    (hv : Value.okWide Try.prog W .any b0 23 v) (h : DataW.Trod enc Try.prog W 0 (fun _ => true) true 23 v d p) (hr : Reach Try.prog 23 d) :
    ∃ (L : List LkR) (q : Option Addr) (c : Nat), v = .slice q L.length c ∧ RdK W W.heap.size q L ∧ L.length ≤ 1954687338269 := by
  obtain ⟨a0, len, cap, rfl⟩ := okWide_slice Try.underlying23 hv
  obtain ⟨fuel, hf⟩ := h
  obtain ⟨L, q, c, e, hl, hb, _, he⟩ := openList (⟨⟨#[]⟩, ⟨#[]⟩, ⟨#[]⟩, false, false, 0⟩ : LkR) (fun cs a => cs = [.string a.k, .string a.lo, .string a.hi, .bool a.op, .bool a.back, .int .i64 a.most]) Try.underlying23 cellsLk (by decide)
    (fun n cs' y hy hry => by obtain ⟨a, e, _⟩ := openLkT hy hry; exact ⟨a, e⟩) hf hr
  simp [Value.cells] at e
  obtain ⟨rfl, rfl, rfl⟩ := e
  rw [bytesLk] at hb
  simp only [reachBytes] at hb
  refine ⟨L, a0, cap, rfl, fun i hi => ?_, by omega⟩
  obtain ⟨b, o, e, hlt, cs', rfl, _, hc⟩ := he i hi
  exact ⟨b, o, e, hlt, hc 0 (by decide), hc 1 (by decide), hc 2 (by decide), hc 3 (by decide), hc 4 (by decide), hc 5 (by decide)⟩

end Go.Proofs.Ythpkppfnfbkjoaa

namespace Go.Proofs.Ythpkppfnfbkjoaa
set_option maxRecDepth 100000

/-- the entries of a range -/
def selE (E : List En) (lo hi : ByteArray) (op : Bool) : List En := E.filter (fun e => !ltB e.k lo && !endB hi op e.k)
theorem riseF_eq (hi : ByteArray) (op : Bool) (most : Nat) : ∀ (l T : List En), T.length < most → riseF hi op (most : Int) l T = T ++ (l.takeWhile (fun e => !endB hi op e.k)).take (most - T.length)
  | [], T, _ => by simp [riseF]
  | e :: l, T, h => by
    unfold riseF
    cases he : endB hi op e.k with
    | true => simp [he]
    | false =>
      rw [if_neg (by decide), List.takeWhile_cons_of_pos (by simp [he])]
      by_cases h2 : ((T.length + 1 : Nat) : Int) < (most : Int)
      · rw [if_pos h2, riseF_eq hi op most l (T ++ [e]) (by rw [List.length_append, List.length_singleton]; omega), List.length_append, List.length_singleton]
        obtain ⟨d, hd⟩ : ∃ d, most - T.length = d + 1 := ⟨most - T.length - 1, by omega⟩
        rw [hd, List.take_succ_cons, show most - (T.length + 1) = d by omega, List.append_assoc]
        rfl
      · rw [if_neg h2, show most - T.length = 1 by omega]
        simp
theorem takeW_filter {E : List En} (hr : RiseE E) {p : En → Bool} (hp : ∀ a b : En, ltB a.k b.k = true → p b = true → p a = true) : E.takeWhile p = E.filter p := by
  induction E with
  | nil => rfl
  | cons e l ih =>
    obtain ⟨h1, h2⟩ := List.pairwise_cons.1 hr
    cases he : p e with
    | true => rw [List.takeWhile_cons_of_pos he, List.filter_cons_of_pos he, ih h2]
    | false =>
      rw [List.takeWhile_cons_of_neg (by simp [he]), List.filter_cons_of_neg (by simp [he])]
      symm
      rw [List.filter_eq_nil_iff]
      intro b hb hpb
      have := hp e b (h1 b hb) hpb
      rw [he] at this
      cases this
theorem takeW_rev {E : List En} (hr : RiseE E) {p : En → Bool} (hp : ∀ a b : En, ltB a.k b.k = true → p a = true → p b = true) : E.reverse.takeWhile p = E.reverse.filter p := by
  have key : ∀ l : List En, l.Pairwise (fun a b => ltB b.k a.k = true) → l.takeWhile p = l.filter p := by
    intro l
    induction l with
    | nil => exact fun _ => rfl
    | cons e l ih =>
      intro h
      obtain ⟨h1, h2⟩ := List.pairwise_cons.1 h
      cases he : p e with
      | true => rw [List.takeWhile_cons_of_pos he, List.filter_cons_of_pos he, ih h2]
      | false =>
        rw [List.takeWhile_cons_of_neg (by simp [he]), List.filter_cons_of_neg (by simp [he])]
        symm
        rw [List.filter_eq_nil_iff]
        intro b hb hpb
        have := hp b e (h1 b hb) hpb
        rw [he] at this
        cases this
  exact key _ (List.pairwise_reverse.2 hr)
theorem end_mono {hi : ByteArray} {op : Bool} (a b : En) (h : ltB a.k b.k = true) (hb : (!endB hi op b.k) = true) : (!endB hi op a.k) = true := by
  unfold endB at hb ⊢
  cases op with
  | true => rfl
  | false =>
    simp only [Bool.not_false, Bool.true_and, Bool.not_not] at hb ⊢
    exact ltB_trans h hb
theorem lo_mono {lo : ByteArray} (a b : En) (h : ltB a.k b.k = true) (ha : (!ltB a.k lo) = true) : (!ltB b.k lo) = true := by
  simp only [Bool.not_eq_true'] at ha ⊢
  cases hc : ltB b.k lo with
  | false => rfl
  | true =>
    have := ltB_trans h hc
    rw [ha] at this
    cases this
/-- the keys that are not less than one are the last ones -/
theorem drop_filter {E : List En} (hr : RiseE E) (lo : ByteArray) : E.drop (fnd E lo) = E.filter (fun e => !ltB e.k lo) := by
  conv => rhs; rw [← List.take_append_drop (fnd E lo) E]
  rw [List.filter_append]
  have h1 : (E.take (fnd E lo)).filter (fun e => !ltB e.k lo) = [] := by
    rw [List.filter_eq_nil_iff]
    intro a ha
    obtain ⟨i, hi, rfl⟩ := List.getElem_of_mem ha
    rw [List.length_take] at hi
    rw [List.getElem_take, fnd_lt (by omega) (by omega)]
    decide
  have h2 : (E.drop (fnd E lo)).filter (fun e => !ltB e.k lo) = E.drop (fnd E lo) := by
    rw [List.filter_eq_self]
    intro a ha
    obtain ⟨i, hi, rfl⟩ := List.getElem_of_mem ha
    rw [List.length_drop] at hi
    rw [List.getElem_drop, fnd_ge hr (by omega) (by omega)]
    rfl
  rw [h1, h2, List.nil_append]
theorem scan_fwd {E : List En} (hr : RiseE E) (lo hi : ByteArray) (op : Bool) (most : Nat) (hm : 1 ≤ most) : scanE E lo hi op false (most : Int) = (selE E lo hi op).take most := by
  show riseF hi op (most : Int) (E.drop (fnd E lo)) [] = _
  rw [riseF_eq hi op most _ [] (Nat.lt_of_lt_of_le Nat.zero_lt_one hm), List.nil_append, takeW_filter (hr.sublist (List.drop_sublist _ _)) end_mono, drop_filter hr, List.filter_filter]
  rw [List.length_nil, Nat.sub_zero]
  unfold selE
  congr 2
  funext e
  exact Bool.and_comm _ _
/-- the entries of places -/
def entP (E : List En) (ps : List Nat) : List En := ps.filterMap (fun x => E[x - 1]?)
theorem runP_eq (lo : ByteArray) (most : Nat) (E : List En) : ∀ (ps : List Nat) (T : List En), T.length < most → (∀ x ∈ ps, 1 ≤ x ∧ x ≤ E.length) → (runP lo (most : Int) E (ps ++ [0]) T).1 = T ++ ((entP E ps).takeWhile (fun e => !ltB e.k lo)).take (most - T.length)
  | [], T, _, _ => by simp [runP, entP]
  | x :: ps, T, h, hx => by
    obtain ⟨h1, h2⟩ := hx x List.mem_cons_self
    obtain ⟨i, rfl⟩ : ∃ i, x = i + 1 := ⟨x - 1, by omega⟩
    have hi : i < E.length := by omega
    have he : entP E ((i + 1) :: ps) = E[i] :: entP E ps := by
      unfold entP
      rw [List.filterMap_cons, show i + 1 - 1 = i from rfl, List.getElem?_eq_getElem hi]
    rw [List.cons_append, runP_cons, List.getElem?_eq_getElem hi, he]
    dsimp only
    cases hl : ltB E[i].k lo with
    | true => rw [if_pos rfl, List.takeWhile_cons_of_neg (by simp [hl])]; simp
    | false =>
      rw [if_neg (by decide), List.takeWhile_cons_of_pos (by simp [hl])]
      by_cases h3 : ((T.length + 1 : Nat) : Int) < (most : Int)
      · rw [if_pos h3, runP_eq lo most E ps (T ++ [E[i]]) (by rw [List.length_append, List.length_singleton]; omega) (fun y hy => hx y (List.mem_cons_of_mem _ hy)), List.length_append, List.length_singleton]
        obtain ⟨d, hd⟩ : ∃ d, most - T.length = d + 1 := ⟨most - T.length - 1, by omega⟩
        rw [hd, List.take_succ_cons, show most - (T.length + 1) = d by omega, List.append_assoc]
        rfl
      · rw [if_neg h3, show most - T.length = 1 by omega]
        simp
/-- the good places' entries -/
theorem ent_good (hi : ByteArray) (op : Bool) (E : List En) : ∀ (n : Nat), n ≤ E.length → entP E ((List.range' 1 n).filter (goodP hi op E)) = (E.take n).filter (fun e => !endB hi op e.k)
  | 0, _ => rfl
  | n + 1, h => by
    have ih := ent_good hi op E n (by omega)
    rw [List.range'_1_concat, List.filter_append]
    unfold entP at ih ⊢
    rw [List.filterMap_append, ih, List.take_succ_eq_append_getElem (by omega), List.filter_append]
    congr 1
    have hg : goodP hi op E (1 + n) = !endB hi op E[n].k := by
      rw [Nat.add_comm]
      unfold goodP
      dsimp only
      rw [List.getElem?_eq_getElem (by omega)]
    cases hb : endB hi op E[n].k with
    | true =>
      rw [hb] at hg
      simp [hg, hb]
    | false =>
      rw [hb] at hg
      rw [List.filter_cons_of_pos (by simpa using hg), List.filter_cons_of_pos (by simp [hb])]
      have hn : n < E.length := by omega
      simp [hn]
theorem scan_back {E : List En} (hr : RiseE E) (lo hi : ByteArray) (op : Bool) (most : Nat) (hm : 1 ≤ most) : scanE E lo hi op true (most : Int) = (selE E lo hi op).reverse.take most := by
  show (runP lo (most : Int) E (PL hi op E 0 (E.length + 1)) []).1 = _
  have hpl : PL hi op E 0 (E.length + 1) = ((List.range' 1 E.length).filter (goodP hi op E)).reverse ++ [0] := by
    unfold PL
    rw [Nat.sub_zero, List.range'_succ, List.filter_cons_of_pos (by rfl), List.reverse_cons]
  rw [hpl, runP_eq lo most E _ [] (Nat.lt_of_lt_of_le Nat.zero_lt_one hm) (fun x hx => ?_), List.nil_append, List.length_nil, Nat.sub_zero]
  · have he : entP E ((List.range' 1 E.length).filter (goodP hi op E)).reverse = (E.filter (fun e => !endB hi op e.k)).reverse := by
      have h1 := ent_good hi op E E.length (Nat.le_refl _)
      rw [List.take_length] at h1
      unfold entP at h1 ⊢
      rw [List.filterMap_reverse, h1]
    rw [he, takeW_rev (hr.sublist List.filter_sublist) lo_mono, ← List.filter_reverse, List.filter_filter]
    rw [List.filter_reverse]
    rfl
  · rw [List.mem_reverse, List.mem_filter, List.mem_range'_1] at hx
    omega
/-- WHAT A SCAN TELLS. -/
theorem scan_spec {E : List En} (hr : RiseE E) (lo hi : ByteArray) (op back : Bool) (most : Int) : scanM E lo hi op back most = (if back then (selE E lo hi op).reverse else selE E lo hi op).take most.toNat := by
  unfold scanM
  by_cases h : most < 1
  · rw [if_pos h, show most.toNat = 0 by omega, List.take_zero]
  · rw [if_neg h]
    obtain ⟨n, hn⟩ : ∃ n : Nat, most = (n : Int) := ⟨most.toNat, by omega⟩
    subst hn
    rw [Int.toNat_natCast]
    cases back with
    | true => exact scan_back hr lo hi op n (by omega)
    | false => exact scan_fwd hr lo hi op n (by omega)
theorem sel_len (E : List En) (lo hi : ByteArray) (op : Bool) : (selE E lo hi op).length ≤ E.length := List.length_filter_le _ _
theorem sel_rise {E : List En} (hr : RiseE E) (lo hi : ByteArray) (op : Bool) : RiseE (selE E lo hi op) := hr.sublist List.filter_sublist

end Go.Proofs.Ythpkppfnfbkjoaa
