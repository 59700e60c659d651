/- Plain mathematics: places that a scan goes back over. Layer 12: a scan that falls. -/
import Derived.Test.YtojfohpnfciajaaGWSkp29
namespace Go.Proofs.Ytojfohpnfciajaa
set_option maxRecDepth 100000

/-- a place that is none, or whose key is in the range's reach -/
def goodP (hi : ByteArray) (op : Bool) (E : List En) (x : Nat) : Bool := match x with
  | 0 => true
  | i + 1 => match E[i]? with
    | some e => !endB hi op e.k
    | none => false
/-- places from p on ahead of q, falling -/
def PL (hi : ByteArray) (op : Bool) (E : List En) (p q : Nat) : List Nat := ((List.range' p (q - p)).filter (goodP hi op E)).reverse
/-- their entries are told, till one is below the range, or there are enough -/
def runP (lo : ByteArray) (most : Int) (E : List En) : List Nat → List En → List En × Bool
  | [], T => (T, true)
  | 0 :: _, T => (T, false)
  | (i + 1) :: l, T => match E[i]? with
    | none => (T, false)
    | some e => if ltB e.k lo then (T, false) else if ((T.length + 1 : Nat) : Int) < most then runP lo most E l (T ++ [e]) else (T ++ [e], false)
theorem runP_cons (lo : ByteArray) (most : Int) (E : List En) (i : Nat) (l : List Nat) (T : List En) : runP lo most E ((i + 1) :: l) T = match E[i]? with
    | none => (T, false)
    | some e => if ltB e.k lo then (T, false) else if ((T.length + 1 : Nat) : Int) < most then runP lo most E l (T ++ [e]) else (T ++ [e], false) := rfl
theorem runP_app (lo : ByteArray) (most : Int) (E : List En) : ∀ (a b : List Nat) (T : List En), runP lo most E (a ++ b) T = if (runP lo most E a T).2 then runP lo most E b (runP lo most E a T).1 else ((runP lo most E a T).1, false)
  | [], b, T => by simp [runP]
  | 0 :: a, b, T => by simp [runP]
  | (i + 1) :: a, b, T => by
    rw [List.cons_append, runP_cons, runP_cons]
    cases E[i]? with
    | none => simp
    | some e =>
      dsimp only
      split
      · simp
      · split
        · exact runP_app lo most E a b (T ++ [e])
        · simp
theorem runP_len (lo : ByteArray) (most : Int) (E : List En) : ∀ (a : List Nat) (T : List En), (runP lo most E a T).1.length ≤ T.length + a.length
  | [], T => by simp [runP]
  | 0 :: a, T => by simp [runP]
  | (i + 1) :: a, T => by
    unfold runP
    cases E[i]? with
    | none => simp
    | some e =>
      dsimp only
      split
      · simp
      · split
        · have := runP_len lo most E a (T ++ [e])
          rw [List.length_append] at this
          simp at this ⊢
          omega
        · simp
theorem PL_len (hi : ByteArray) (op : Bool) (E : List En) (p q : Nat) : (PL hi op E p q).length ≤ q - p := by
  unfold PL
  rw [List.length_reverse]
  refine Nat.le_trans (List.length_filter_le _ _) ?_
  simp
theorem PL_split (hi : ByteArray) (op : Bool) (E : List En) {p s q : Nat} (h1 : p ≤ s) (h2 : s ≤ q) : PL hi op E p q = PL hi op E s q ++ PL hi op E p s := by
  unfold PL
  rw [← List.reverse_append, ← List.filter_append]
  congr 2
  have e : q - p = (s - p) + (q - s) := by omega
  rw [e, ← List.range'_append_1]
  congr 2
  omega
theorem PL_nil (hi : ByteArray) (op : Bool) (E : List En) (p : Nat) : PL hi op E p p = [] := by
  unfold PL
  rw [Nat.sub_self]
  rfl
theorem PL_one {hi : ByteArray} {op : Bool} {E : List En} {s q : Nat} (hs : s < q) (hg : goodP hi op E s = true) (hno : ∀ x, s < x → x < q → goodP hi op E x = false) : PL hi op E s q = [s] := by
  unfold PL
  have e : q - s = 1 + (q - s - 1) := by omega
  rw [e, ← List.range'_append_1, List.filter_append]
  have h1 : (List.range' s 1).filter (goodP hi op E) = [s] := by simp [hg]
  have h2 : (List.range' (s + 1) (q - s - 1)).filter (goodP hi op E) = [] := by
    rw [List.filter_eq_nil_iff]
    intro x hx
    rw [List.mem_range'_1] at hx
    rw [hno x (by omega) (by omega)]
    decide
  rw [h1, h2]
  rfl
/-- behind a key that has ended all have -/
theorem good_end {hi : ByteArray} {op : Bool} {E : List En} (hr : RiseE E) {c x : Nat} (hc : 0 < c) (hx : c ≤ x) (h : goodP hi op E c = false) : goodP hi op E x = false := by
  obtain ⟨i, rfl⟩ : ∃ i, c = i + 1 := ⟨c - 1, by omega⟩
  obtain ⟨j, rfl⟩ : ∃ j, x = j + 1 := ⟨x - 1, by omega⟩
  unfold goodP at h ⊢
  dsimp only at h ⊢
  rcases Nat.lt_or_ge j E.length with hj | hj
  · rw [List.getElem?_eq_getElem hj]
    rw [List.getElem?_eq_getElem (by omega)] at h
    dsimp only at h ⊢
    rcases Nat.lt_or_ge i j with h1 | h1
    · have h2 := hr.at h1 hj
      unfold endB at h ⊢
      simp only [Bool.not_eq_false', Bool.and_eq_true, Bool.not_eq_true'] at h ⊢
      refine ⟨h.1, ?_⟩
      cases h3 : ltB E[j].k hi with
      | false => rfl
      | true =>
        have := ltB_trans h2 h3
        rw [h.2] at this
        cases this
    · have e : i = j := by omega
      subst e
      exact h
  · rw [List.getElem?_eq_none hj]

end Go.Proofs.Ytojfohpnfciajaa

namespace Go.Proofs.Ytojfohpnfciajaa
open Go.RowKit
set_option maxRecDepth 100000

/-- a place's pointer; behind all: nil -/
def tov (hb : Nat) (N : List Nd) (q : Nat) : Value := ptrO (if q = N.length + 1 then none else some (posB hb N q))
theorem tov_nil (hb : Nat) (N : List Nd) : tov hb N (N.length + 1) = .pointer none := by
  unfold tov
  rw [if_pos rfl]
  rfl
theorem tov_at (hb : Nat) {N : List Nd} {q : Nat} (h : q ≤ N.length) : tov hb N q = ptr1 (posB hb N q) := by
  unfold tov
  rw [if_neg (by omega)]
  rfl
theorem info_np : (Try.prog.info? 53).map (fun i => (i.zero, i.size, i.bytes)) = some (some (.pointer none), 1, 8) := by kernel_rfl
theorem SkF.posblk {w : World} {hb hl : Nat} {N : List Nd} {f : Nat → Nat → Option Nat} (h : SkF w hb hl N f) {p : Nat} (hp : p ≤ N.length) : ∃ cs, Blk w (posB hb N p) cs 125 := by
  cases p with
  | zero =>
    obtain ⟨hv, hd⟩ := h.hd
    exact ⟨_, hd⟩
  | succ i =>
    rw [posB_at hb hp]
    exact ⟨_, h.nd _ (List.getElem_mem hp)⟩
theorem SkF.pos_one {w : World} {hb hl : Nat} {N : List Nd} {f : Nat → Nat → Option Nat} (h : SkF w hb hl N f) {p q : Nat} (hp : p ≤ N.length) (hq : q ≤ N.length) (e : posB hb N p = posB hb N q) : p = q := by
  have key : ∀ (p : Nat) (hp : p ≤ N.length), posB hb N p = (hb :: N.map Nd.nb)[p]'(by simp; omega) := by
    intro p hp
    cases p with
    | zero => rfl
    | succ i => rw [posB_at hb hp]; simp
  rw [key p hp, key q hq] at e
  exact nodup_at h.one (by simp; omega) (by simp; omega) e
theorem nd_eql {w : World} {hb hl : Nat} {N : List Nd} {f : Nat → Nat → Option Nat} (h : SkF w hb hl N f) {p q : Nat} (hp : p ≤ N.length) (hq : q ≤ N.length) (hne : p ≠ q) : (binOp .eql 53 (ptr1 (posB hb N p)) (ptr1 (posB hb N q))).run Try.prog w = .ok (.bool false) w := by
  obtain ⟨cs, h1⟩ := h.posblk hp
  obtain ⟨ds, h2⟩ := h.posblk hq
  exact nd_ne h1 h2 (fun e => hne (h.pos_one hp hq e))
theorem neq_of {w : World} {a b : Option Addr} {x : Bool} (h : (binOp .eql 53 (.pointer a) (.pointer b)).run Try.prog w = .ok (.bool x) w) : (binOp .neq 53 (.pointer a) (.pointer b)).run Try.prog w = .ok (.bool !x) w := by
  have h1 : (Op.equal 53 (.pointer a) (.pointer b)).run Try.prog w = .ok x w := by
    change (Sem.run Try.prog (do pure (Value.bool (← Op.equal 53 (.pointer a) (.pointer b)))) w) = _ at h
    rw [Sem.run_bind] at h
    cases e : (Op.equal 53 (.pointer a) (.pointer b)).run Try.prog w with
    | ok y w' =>
      rw [e] at h
      simp [Result.andThen] at h
      rw [h.1, h.2]
    | _ => rw [e] at h; simp [Result.andThen] at h
  change (Sem.run Try.prog (do pure (Value.bool (!(← Op.equal 53 (.pointer a) (.pointer b))))) w) = _
  rw [Sem.run_bind, h1]
  simp [Result.andThen]
theorem nd_neq_same (w : World) (a : Nat) : (binOp .neq 53 (ptr1 a) (ptr1 a)).run Try.prog w = .ok (.bool false) w := neq_of (nd_eq w a)
theorem nd_neq {w : World} {hb hl : Nat} {N : List Nd} {f : Nat → Nat → Option Nat} (h : SkF w hb hl N f) {p q : Nat} (hp : p ≤ N.length) (hq : q ≤ N.length) (hne : p ≠ q) : (binOp .neq 53 (ptr1 (posB hb N p)) (ptr1 (posB hb N q))).run Try.prog w = .ok (.bool true) w := neq_of (nd_eql h hp hq hne)
theorem nd_neq_nil (w : World) (a : Nat) : (binOp .neq 53 (ptr1 a) (.pointer none)).run Try.prog w = .ok (.bool true) w := by
  obtain ⟨jn, hjn, -⟩ := infoNd
  have h : ∀ d : Nat, (Op.equalIn (d + 1) 53 (ptr1 a) (.pointer none)).run Try.prog w = .ok false w := fun d => by
    simp [Op.equalIn, run_underlying Try.underlying53, sizeOf, typeInfo]
  refine neq_of (x := false) ?_
  simp only [binOp]
  simp [Op.equal, Op.maxDepth, h 9999]
/-- nodes that are noted on a level -/
structure Fl1a (w wq : World) (hb : Nat) (N : List Nd) (hi : ByteArray) (op : Bool) (l p q : Nat) (v : Value) (st : List Nat) (c : Nat) : Prop where
  bel : Below w.heap.size w wq
  own : wq.ownsRow w.heap.size 53 1 v st.length (st.map (fun x => ptr1 (posB hb N x)))
  inc : st.Pairwise (· < ·)
  mem : ∀ x ∈ st, p ≤ x ∧ x < q ∧ x ≤ c ∧ OnL l N x ∧ goodP hi op (ensN N) x = true
  fst : ∃ t, st = p :: t
  zer : l = 0 → st = List.range' p st.length ∧ c + 1 = p + st.length
/-- .. up to a place that is next -/
structure Fl1 (w wq : World) (hb : Nat) (N : List Nd) (hi : ByteArray) (op : Bool) (l p q : Nat) (v : Value) (st : List Nat) (c : Nat) : Prop where
  bel : Below w.heap.size w wq
  own : wq.ownsRow w.heap.size 53 1 v st.length (st.map (fun x => ptr1 (posB hb N x)))
  inc : st.Pairwise (· < ·)
  mem : ∀ x ∈ st, p ≤ x ∧ x < q ∧ x < c ∧ OnL l N x ∧ goodP hi op (ensN N) x = true
  fst : st = [] ∧ c = p ∨ ∃ t, st = p :: t
  zer : l = 0 → st = List.range' p st.length ∧ c = p + st.length
  cq : c ≤ q
  pc : p ≤ c
  onc : c = N.length + 1 ∨ OnL l N c
theorem Fl1.start (w : World) (hb : Nat) (N : List Nd) (hi : ByteArray) (op : Bool) {l p q : Nat} (ho : OnL l N p) (hpq : p < q) : Fl1 w w hb N hi op l p q (.slice none 0 0) [] p :=
  ⟨Below.refl _ _, World.ownsRow_nil _ _ _ _, List.Pairwise.nil, fun x hx => absurd hx (by simp), .inl ⟨rfl, rfl⟩, fun _ => ⟨rfl, rfl⟩, Nat.le_of_lt hpq, Nat.le_refl _, .inr ho⟩
section
variable {w wq : World} {hb : Nat} {N : List Nd} {hi : ByteArray} {op : Bool} {l p q : Nat} {v : Value} {st : List Nat} {c : Nat}
theorem Fl1.keep {w' : World} (h : Fl1 w wq hb N hi op l p q v st c) (hB : Below wq.heap.size wq w') : Fl1 w w' hb N hi op l p q v st c :=
  ⟨h.bel.trans (hB.mono h.bel.size), owns_kept h.own hB, h.inc, h.mem, h.fst, h.zer, h.cq, h.pc, h.onc⟩
theorem Fl1.p0 (h : Fl1 w wq hb N hi op l p q v st c) (e : st = []) : c = p := by
  rcases h.fst with ⟨_, h1⟩ | ⟨t, h1⟩
  · exact h1
  · rw [e] at h1; cases h1
theorem Fl1.ps (h : Fl1 w wq hb N hi op l p q v st c) (e : st ≠ []) : p < c := by
  rcases h.fst with ⟨h1, _⟩ | ⟨t, h1⟩
  · exact absurd h1 e
  · exact (h.mem p (by rw [h1]; exact List.mem_cons_self)).2.2.1
theorem Fl1.onl (h : Fl1 w wq hb N hi op l p q v st c) (hc : c < N.length + 1) : OnL l N c := by
  rcases h.onc with h1 | h1
  · omega
  · exact h1
theorem inc_len {a b : Nat} : ∀ {s : List Nat}, s.Pairwise (· < ·) → (∀ x ∈ s, a ≤ x ∧ x < b) → s.length + a ≤ b ∨ s = []
  | [], _, _ => .inr rfl
  | x :: s, h, hm => by
    left
    obtain ⟨h1, h2⟩ := List.pairwise_cons.1 h
    have h3 := hm x List.mem_cons_self
    rcases inc_len (a := x + 1) (b := b) h2 (fun y hy => ⟨h1 y hy, (hm y (List.mem_cons_of_mem _ hy)).2⟩) with h4 | h4
    · simp only [List.length_cons]
      omega
    · subst h4
      simp
      omega
theorem Fl1.lenB (h : Fl1 w wq hb N hi op l p q v st c) : st.length ≤ c := by
  rcases inc_len (a := 0) (b := c) h.inc (fun x hx => ⟨Nat.zero_le _, (h.mem x hx).2.2.1⟩) with h1 | h1
  · omega
  · rw [h1]; simp
theorem Fl1.push {w6 : World} {v6 : Value} {pc : Nat} (h : Fl1 w wq hb N hi op l p q v st c) (hg : goodP hi op (ensN N) c = true) (hc : c < q ∧ c ≤ N.length) (h6 : w6.ownsRow w.heap.size 53 1 v6 (st.length + 1) (st.map (fun x => ptr1 (posB hb N x)) ++ [ptr1 pc])) (h7 : Below w.heap.size wq w6) (hpc : posB hb N c = pc) : Fl1a w w6 hb N hi op l p q v6 (st ++ [c]) c := by
  refine ⟨h.bel.trans h7, ?_, ?_, fun x hx => ?_, ?_, fun e => ?_⟩
  · rw [List.length_append, List.map_append, List.map_cons, hpc]
    exact h6
  · refine List.pairwise_append.2 ⟨h.inc, List.pairwise_singleton _ _, fun a ha b hb' => ?_⟩
    rw [List.mem_singleton.1 hb']
    exact (h.mem a ha).2.2.1
  · rcases List.mem_append.1 hx with hx | hx
    · obtain ⟨a1, a2, a3, a4, a5⟩ := h.mem x hx
      exact ⟨a1, a2, Nat.le_of_lt a3, a4, a5⟩
    · rw [List.mem_singleton.1 hx]
      exact ⟨h.pc, hc.1, Nat.le_refl _, h.onl (by omega), hg⟩
  · rcases h.fst with ⟨h1, h2⟩ | ⟨t, h1⟩
    · exact ⟨[], by rw [h1, h2]; rfl⟩
    · exact ⟨t ++ [c], by rw [h1]; rfl⟩
  · obtain ⟨z1, z2⟩ := h.zer e
    rw [List.length_append, List.length_singleton]
    refine ⟨?_, by omega⟩
    rw [← List.range'_append_1, ← z1, z2]
    rfl
theorem Fl1a.next {w7 : World} (h : Fl1a w wq hb N hi op l p q v st c) (hB : Below wq.heap.size wq w7) (hc : c < q ∧ c ≤ N.length) (_hq : q ≤ N.length + 1) (hoq : q = N.length + 1 ∨ OnL l N q) {w9 : World} {hl : Nat} (hsk : SkN w9 hb hl N) : ∃ c', ptrO (tgt l (N.drop c)) = tov hb N c' ∧ c < c' ∧ Fl1 w w7 hb N hi op l p q v st c' := by
  have hpc : p ≤ c := by
    obtain ⟨t, ht⟩ := h.fst
    exact (h.mem p (by rw [ht]; exact List.mem_cons_self)).2.2.1
  have mk : ∀ c', c < c' → c' ≤ q → (c' = N.length + 1 ∨ OnL l N c') → (l = 0 → c' = c + 1) → Fl1 w w7 hb N hi op l p q v st c' := fun c' h1 h2 h3 h4 =>
    ⟨h.bel.trans (hB.mono h.bel.size), owns_kept h.own hB, h.inc, fun x hx => by
      obtain ⟨a1, a2, a3, a4, a5⟩ := h.mem x hx
      exact ⟨a1, a2, by omega, a4, a5⟩, .inr h.fst, fun e => by
      obtain ⟨z1, z2⟩ := h.zer e
      exact ⟨z1, by have := h4 e; omega⟩, h2, by omega, h3⟩
  rcases tgt_cases l N c with ⟨e, hno⟩ | ⟨r, hr, hcr, hlr, hno, e⟩
  · refine ⟨N.length + 1, by rw [e, tov_nil]; rfl, by omega, mk _ (by omega) ?_ (.inl rfl) (fun e0 => ?_)⟩
    · rcases hoq with h1 | h1
      · omega
      · exfalso
        rcases h1 with h1 | ⟨h1, h2⟩
        · omega
        · exact hno (q - 1) h1 (by omega) h2
    · subst e0
      rcases Nat.lt_or_ge c N.length with h9 | h9
      · exact absurd (show 0 < N[c].e.h from (hsk.ht c h9).1) (hno c h9 (Nat.le_refl _))
      · omega
  · refine ⟨r + 1, by rw [e, tov_at hb hr, posB_at hb hr]; rfl, by omega, mk _ (by omega) ?_ (.inr (.inr ⟨hr, hlr⟩)) (fun e0 => ?_)⟩
    · rcases Nat.lt_or_ge r q with h9 | h9
      · omega
      · exfalso
        rcases hoq with h1 | h1
        · omega
        · rcases h1 with h1 | ⟨h1, h2⟩
          · omega
          · exact hno (q - 1) h1 (by omega) (by omega) h2
    · subst e0
      rcases Nat.lt_or_ge c r with h9 | h9
      · exact absurd (show 0 < N[c].e.h from (hsk.ht c (by omega)).1) (hno c (by omega) (Nat.le_refl _) h9)
      · omega
end
theorem ms_pos {w : World} {hb hl : Nat} {N : List Nd} (h : SkN w hb hl N) {c : Nat} (hc : c ≤ N.length) : msO hb N (ptr1 (posB hb N c)) = N.length + 2 - c := by
  show N.length + 2 - posOf hb N (ptr1 (posB hb N c)) = _
  rw [posOf_at h hc]
theorem ms_tov {w : World} {hb hl : Nat} {N : List Nd} (h : SkF w hb hl N (ldF N)) {c c' : Nat} (h1 : c < c') (h2 : c' ≤ N.length + 1) : msO hb N (tov hb N c') < msO hb N (ptr1 (posB hb N c)) := by
  rw [ms_pos h.n (by omega)]
  rcases Nat.lt_or_ge N.length c' with h3 | h3
  · rw [show c' = N.length + 1 by omega, tov_nil]
    show 0 < _
    omega
  · rw [tov_at hb h3, ms_pos h.n h3]
    omega
theorem getD_at {s : List Nat} {j : Nat} (q : Nat) (h : j < s.length) : s.getD j q = s[j] := by
  rw [List.getD_eq_getElem?_getD, List.getElem?_eq_getElem h]
  rfl
theorem getD_no {s : List Nat} {j : Nat} (q : Nat) (h : s.length ≤ j) : s.getD j q = q := by
  rw [List.getD_eq_getElem?_getD, List.getElem?_eq_none h]
  rfl
/-- the nodes that are noted -/
structure StP (hi : ByteArray) (op : Bool) (N : List Nd) (l p q : Nat) (st : List Nat) : Prop where
  ne : 0 < st.length
  len : st.length ≤ N.length + 1
  fst : st[0]? = some p
  ath : ∀ {j : Nat} (hj : j < st.length), p ≤ st[j] ∧ st[j] < st.getD (j + 1) q ∧ OnL l N st[j] ∧ goodP hi op (ensN N) st[j] = true ∧ st[j] ≤ N.length ∧ (st.getD (j + 1) q = N.length + 1 ∨ OnL l N (st.getD (j + 1) q)) ∧ st.getD (j + 1) q ≤ N.length + 1 ∧ st.getD j q = st[j]
  one : l = 0 → ∀ {j : Nat} (hj : j < st.length), PL hi op (ensN N) st[j] (st.getD (j + 1) q) = [st[j]]
theorem Fl1.stp {w wq : World} {hb : Nat} {N : List Nd} {hi : ByteArray} {op : Bool} {l p q : Nat} {v : Value} {st : List Nat} {c : Nat} (h : Fl1 w wq hb N hi op l p q v st c) (hr : RiseE (ensN N)) (he : st ≠ [] ∧ (c = N.length + 1 ∨ c = q ∨ goodP hi op (ensN N) c = false)) (_hpq : p < q) (hqN : q ≤ N.length + 1) (hoq : q = N.length + 1 ∨ OnL l N q) : StP hi op N l p q st := by
  have hmem : ∀ {j : Nat} (hj : j < st.length), p ≤ st[j] ∧ st[j] < q ∧ st[j] < c ∧ OnL l N st[j] ∧ goodP hi op (ensN N) st[j] = true := fun hj => h.mem _ (List.getElem_mem hj)
  have hlt : ∀ {j : Nat} (hj : j < st.length), st[j] < st.getD (j + 1) q := by
    intro j hj
    rcases Nat.lt_or_ge (j + 1) st.length with h1 | h1
    · rw [getD_at q h1]
      exact List.pairwise_iff_getElem.1 h.inc j (j + 1) hj h1 (by omega)
    · rw [getD_no q h1]
      exact (hmem hj).2.1
  refine ⟨List.length_pos_iff.2 he.1, ?_, ?_, fun {j} hj => ⟨(hmem hj).1, hlt hj, (hmem hj).2.2.2.1, (hmem hj).2.2.2.2, by have := (hmem hj).2.1; omega, ?_, ?_, by rw [getD_at q hj]⟩, fun e {j} hj => ?_⟩
  · have := h.lenB
    have := h.cq
    omega
  · rcases h.fst with ⟨h1, _⟩ | ⟨t, h1⟩
    · exact absurd h1 he.1
    · rw [h1]; rfl
  · rcases Nat.lt_or_ge (j + 1) st.length with h1 | h1
    · rw [getD_at q h1]
      exact .inr (hmem h1).2.2.2.1
    · rw [getD_no q h1]
      exact hoq
  · rcases Nat.lt_or_ge (j + 1) st.length with h1 | h1
    · rw [getD_at q h1]
      have := (hmem h1).2.1
      omega
    · rw [getD_no q h1]
      exact hqN
  · obtain ⟨z1, z2⟩ := h.zer e
    have hat : ∀ {j : Nat} (hj : j < st.length), st[j] = p + j := by
      intro j hj
      have h9 : st[j]? = (List.range' p st.length)[j]? := by rw [← z1]
      rw [List.getElem?_eq_getElem hj, List.getElem?_range' hj] at h9
      injection h9 with h9
      omega
    refine PL_one (hlt hj) (hmem hj).2.2.2.2 (fun x h1 h2 => ?_)
    rcases Nat.lt_or_ge (j + 1) st.length with h3 | h3
    · rw [getD_at q h3, hat h3] at h2
      rw [hat hj] at h1
      omega
    · rw [getD_no q h3] at h2
      rw [hat hj] at h1
      have hx : c ≤ x := by omega
      rcases he.2 with h4 | h4 | h4
      · omega
      · omega
      · exact good_end hr (by omega) hx h4
/-- SOME NODES ARE GONE BACK OVER. -/
structure Fl2 (w0 w wq : World) (b lb sb : Nat) (lo hi : ByteArray) (op : Bool) (most : Int) (N : List Nd) (hb p q gg cap : Nat) (st : List Nat) (T : List En) (j : Nat) (u : Value) (T1 : List En) : Prop where
  kt : KeepT w wq
  own : wq.ownsRow w.heap.size 53 1 (.slice (some ⟨gg, 0, none⟩) st.length cap) st.length (st.map (fun x => ptr1 (posB hb N x)))
  sc : ScS w0 wq b lb sb lo hi op most u T1
  run : runP lo most (ensN N) (PL hi op (ensN N) p (st.getD j q)) T1 = runP lo most (ensN N) (PL hi op (ensN N) p q) T
  len : T1.length + st.getD j q ≤ N.length + 2
/-- WHAT IS TOLD BEHIND IT. -/
def FlR (w0 w w' : World) (b lb sb : Nat) (lo hi : ByteArray) (op : Bool) (most : Int) (N : List Nd) (p q : Nat) (T : List En) (e : Ending) : Prop :=
  e = .returned (.bool (runP lo most (ensN N) (PL hi op (ensN N) p q) T).2) ∧ KeepT w w' ∧ ∃ v', ScS w0 w' b lb sb lo hi op most v' (runP lo most (ensN N) (PL hi op (ensN N) p q) T).1
theorem OnL.down {N : List Nd} {l l' p : Nat} (h : OnL l N p) (hl : l' ≤ l) : OnL l' N p := by
  rcases h with h | ⟨hi, h⟩
  · exact .inl h
  · exact .inr ⟨hi, by omega⟩
theorem own_keepT {w w' : World} {B : Nat} {v : Value} {n : Nat} {xs : List Value} (h : w.ownsRow B 53 1 v n xs) (hk : KeepT w w') : w'.ownsRow B 53 1 v n xs := by
  refine ⟨h.1, ?_⟩
  rcases h.2 with h1 | ⟨g, cap, cur, e, hb', hg, r⟩
  · exact .inl h1
  · exact .inr ⟨g, cap, cur, e, hb', hk g cur 53 (by decide) (by decide) hg, r⟩
section
variable {w0 w wq : World} {b lb sb : Nat} {lo hi : ByteArray} {op : Bool} {most : Int} {N : List Nd} {hb p q gg cap l : Nat} {st : List Nat} {T : List En} {j : Nat} {u : Value} {T1 : List En}
theorem Fl2.cell (h : Fl2 w0 w wq b lb sb lo hi op most N hb p q gg cap st T j u T1) {i : Nat} (hi' : i < st.length) : wq.cell? ⟨gg, i, none⟩ = some (ptr1 (posB hb N st[i])) := by
  have h1 := World.ownsRow.cellAt h.own i (by omega)
  rw [h1, List.getElem?_map, List.getElem?_eq_getElem hi']
  rfl
theorem Fl2.fin (h : Fl2 w0 w wq b lb sb lo hi op most N hb p q gg cap st T 0 u T1) (hs : StP hi op N l p q st) : FlR w0 w wq b lb sb lo hi op most N p q T (.returned (.bool true)) := by
  have h1 := h.run
  have h2 : st.getD 0 q = p := by
    rw [List.getD_eq_getElem?_getD, hs.fst]
    rfl
  rw [h2, PL_nil] at h1
  unfold FlR
  rw [← h1]
  exact ⟨rfl, h.kt, u, h.sc⟩
theorem Fl2.run1 (h : Fl2 w0 w wq b lb sb lo hi op most N hb p q gg cap st T (j + 1) u T1) (hs : StP hi op N l p q st) (hj : j < st.length) :
    ((runP lo most (ensN N) (PL hi op (ensN N) st[j] (st.getD (j + 1) q)) T1).2 = false → ∀ w' u', KeepT wq w' → ScS w0 w' b lb sb lo hi op most u' (runP lo most (ensN N) (PL hi op (ensN N) st[j] (st.getD (j + 1) q)) T1).1 → FlR w0 w w' b lb sb lo hi op most N p q T (.returned (.bool false))) ∧
    ((runP lo most (ensN N) (PL hi op (ensN N) st[j] (st.getD (j + 1) q)) T1).2 = true → ∀ w' u', KeepT wq w' → ScS w0 w' b lb sb lo hi op most u' (runP lo most (ensN N) (PL hi op (ensN N) st[j] (st.getD (j + 1) q)) T1).1 → Fl2 w0 w w' b lb sb lo hi op most N hb p q gg cap st T j u' (runP lo most (ensN N) (PL hi op (ensN N) st[j] (st.getD (j + 1) q)) T1).1) := by
  obtain ⟨a1, a2, a3, a4, a5, a6, a7, a8⟩ := hs.ath hj
  have h1 := h.run
  rw [PL_split hi op (ensN N) a1 (Nat.le_of_lt a2), runP_app] at h1
  constructor
  · intro h2 w' u' h3 h4
    rw [h2, if_neg (by decide)] at h1
    unfold FlR
    rw [← h1]
    exact ⟨rfl, h.kt.trans h3, u', h4⟩
  · intro h2 w' u' h3 h4
    rw [h2, if_pos rfl] at h1
    refine ⟨h.kt.trans h3, own_keepT h.own h3, h4, by rw [a8]; exact h1, ?_⟩
    have h5 := runP_len lo most (ensN N) (PL hi op (ensN N) st[j] (st.getD (j + 1) q)) T1
    have h6 := PL_len hi op (ensN N) st[j] (st.getD (j + 1) q)
    have h7 := h.len
    rw [a8]
    omega
end

end Go.Proofs.Ytojfohpnfciajaa
