/- Layer 19: may an action be, as the document says it; that it is the same. Layer 19: what the program makes of edges: targets, parts, ways, orders; plain. -/
import Derived.Test.YtncfejndmlcidaaGreatGWGd194
import Derived.Test.YtncfejndmlcidaaGreatGMGr4
import Derived.Test.YtncfejndmlcidaaGreatGMStr
namespace Go.Proofs.YtncfejndmlcidaaGreat
set_option maxRecDepth 100000

/-- do the first k versions that a scan saw rise, in its range, and may they be read? -/
def scD1 (H : List Ac) (a : Ac) (k : Nat) : Bool := (List.range k).all (fun i => inR a (a.sn.getD i ⟨⟨#[]⟩, 0, 0⟩).it && (i == 0 || ltB (a.sn.getD (i - 1) ⟨⟨#[]⟩, 0, 0⟩).it (a.sn.getD i ⟨⟨#[]⟩, 0, 0⟩).it) && thD H a.tx (a.sn.getD i ⟨⟨#[]⟩, 0, 0⟩).fr (a.sn.getD i ⟨⟨#[]⟩, 0, 0⟩).nt (a.sn.getD i ⟨⟨#[]⟩, 0, 0⟩).it)
/-- did it see all that it wrote? -/
def scD2 (H : List Ac) (a : Ac) : Bool := H.all (fun b => !(b.kd == 4 && b.tx == a.tx && inR a b.it) || a.sn.any (fun s => decide (s.it = b.it)))
def scD (H : List Ac) (a : Ac) : Bool := scD1 H a a.sn.length && scD2 H a
/-- nothing ahead of it is against it -/
def ahD (H : List Ac) (a : Ac) : Bool := H.all (fun b => !(b.tx == a.tx && (b.kd == 5 || b.kd == 6 || a.kd == 1)) && !(a.kd == 5 && b.kd == 5 && decide (a.st ≤ b.st)))
def fineD (H : List Ac) (a : Ac) : Bool := fmB a && ahD H a && (if a.kd = 2 then thD H a.tx a.fr a.nt a.it else if a.kd = 3 then scD H a else if a.kd = 5 then decide (1 ≤ a.st) else true)

theorem okA_tx {H : List Ac} {a : Ac} (h : okA H a = true) : 1 ≤ a.tx := by
  unfold okA at h
  simp only [Bool.and_eq_true] at h
  have h1 := h.1.1.1.1.1
  unfold fmB at h1
  simp only [Bool.and_eq_true, decide_eq_true_eq] at h1
  exact h1.1.1.1.1.2
theorem okH_tx {L : List Ac} {k : Nat} (h : okH L k) : ∀ b ∈ L.take k, 1 ≤ b.tx := fun b hb => by
  obtain ⟨i, hi, e⟩ := List.getElem_of_mem hb
  rw [List.length_take] at hi
  rw [List.getElem_take] at e
  rw [← e]
  exact okA_tx (h i (by omega) (by omega))
/-- commits' stamps rise -/
theorem okH_st (L : List Ac) : ∀ k, k ≤ L.length → okH L k → ∀ b ∈ L.take k, b.kd = 5 → b.st ≤ lst (L.take k)
  | 0, _, _, b, hb, _ => by simp at hb
  | k + 1, hk, h, b, hb, hkd => by
    have ih := okH_st L k (by omega) (fun i hi => h i (by omega))
    have h1 := h k (by omega) (by omega)
    rw [List.take_succ_eq_append_getElem (by omega)] at hb ⊢
    rw [lst_snoc]
    by_cases hx : (L[k]'(by omega)).kd = 5
    · rw [if_pos hx]
      have h2 : lst (L.take k) < (L[k]'(by omega)).st := by
        unfold okA at h1
        simp only [Bool.and_eq_true] at h1
        have h3 := h1.2
        rw [hx] at h3
        simpa using h3
      rcases List.mem_append.1 hb with hb | hb
      · have := ih b hb hkd
        omega
      · rw [List.mem_singleton.1 hb]
        exact Nat.le_refl _
    · rw [if_neg hx]
      rcases List.mem_append.1 hb with hb | hb
      · exact ih b hb hkd
      · rw [List.mem_singleton.1 hb] at hkd
        exact absurd hkd hx
theorem lst_at (H : List Ac) : lst H = 0 ∨ ∃ b ∈ H, b.kd = 5 ∧ b.st = lst H := by
  unfold lst
  cases h : (H.filter (fun a => a.kd == 5)).getLast? with
  | none => exact .inl rfl
  | some b =>
    have h1 := List.mem_filter.1 (List.mem_of_getLast? h)
    exact .inr ⟨b, h1.1, by simpa using h1.2, rfl⟩
theorem all_ends (H : List Ac) (t : Int) (c : Bool) : H.all (fun b => !(b.tx == t && (b.kd == 5 || b.kd == 6 || c))) = (!(en H t) && (!c || !(kn H t))) := by
  unfold en kn
  induction H with
  | nil => cases c <;> rfl
  | cons b H ih =>
    rw [List.all_cons, ih, List.any_cons, List.any_cons]
    cases h1 : (b.tx == t) <;> cases h2 : (b.kd == 5) <;> cases h3 : (b.kd == 6) <;> cases c <;> simp
theorem all_and {α : Type} (p q : α → Bool) (H : List α) : H.all (fun b => p b && q b) = (H.all p && H.all q) := by
  induction H with
  | nil => rfl
  | cons b H ih =>
    rw [List.all_cons, ih, List.all_cons, List.all_cons]
    cases p b <;> cases q b <;> simp
theorem all_stamps {L : List Ac} {k : Nat} (hk : k ≤ L.length) (h : okH L k) (st : Nat) : ((L.take k).all (fun b => !(b.kd == 5 && decide (st ≤ b.st))) && decide (1 ≤ st)) = decide (lst (L.take k) < st) := by
  have h1 := okH_st L k hk h
  rw [Bool.eq_iff_iff]
  simp only [Bool.and_eq_true, List.all_eq_true, decide_eq_true_eq, Bool.not_eq_true', Bool.and_eq_false_iff, beq_eq_false_iff_ne, decide_eq_false_iff_not]
  constructor
  · rintro ⟨h2, h3⟩
    rcases lst_at (L.take k) with e | ⟨b, hb, hkd, e⟩
    · omega
    · rcases h2 b hb with h4 | h4
      · exact absurd hkd h4
      · omega
  · intro h2
    refine ⟨fun b hb => ?_, by omega⟩
    by_cases hkd : b.kd = 5
    · have := h1 b hb hkd
      exact .inr (by omega)
    · exact .inl hkd

end Go.Proofs.YtncfejndmlcidaaGreat

namespace Go.Proofs.YtncfejndmlcidaaGreat
set_option maxRecDepth 100000

/-- an edge to a place, for the item at a place -/
structure Ed where
  «to» : Nat
  kd : Nat
  im : Nat
  deriving DecidableEq

/-- those to which edges of some kinds lead, each once -/
def tgF (ks : List Nat) (s : Int × List Nat) (e : Ed) : Int × List Nat := if (e.to : Int) ≠ s.1 ∧ e.kd ∈ ks then ((e.to : Int), s.2 ++ [e.to]) else s
def tgL (ks : List Nat) (l : List Ed) : List Nat := (l.foldl (tgF ks) (-1, [])).2
def tgs (ks : List Nat) (LL : List (List Ed)) : List (List Nat) := LL.map (tgL ks)

/-- a parting under way -/
structure Pst where
  cnt : Nat
  met : List Nat
  low : List Nat
  opn : List Nat
  prt : List Int
/-- a part is shut -/
def Pst.shut (p : Nat) (s : Pst) : Pst := { s with prt := (s.opn.drop (s.opn.idxOf p)).foldl (fun l q => l.set q (p : Int)) s.prt, opn := s.opn.take (s.opn.idxOf p) }
/-- a place is met -/
def Pst.meet (p : Nat) (s : Pst) : Pst := { s with cnt := s.cnt + 1, met := s.met.set p (s.cnt + 1), low := s.low.set p (s.cnt + 1), opn := s.opn ++ [p] }
/-- one step of a visit: to a place that is next -/
def Pst.step (go : Nat → Pst → Pst) (p : Nat) (s : Pst) (q : Nat) : Pst :=
  if s.met.getD q 0 = 0 then { go q s with low := (go q s).low.set p (min ((go q s).low.getD p 0) ((go q s).low.getD q 0)) }
  else if s.prt.getD q 0 < 0 then { s with low := s.low.set p (min (s.low.getD p 0) (s.met.getD q 0)) } else s
def Pst.fin (p : Nat) (s : Pst) : Pst := if s.low.getD p 0 = s.met.getD p 0 then s.shut p else s
def visitM (next : List (List Nat)) : Nat → Nat → Pst → Pst
  | 0, _, s => s
  | f + 1, p, s => (((next.getD p []).foldl (Pst.step (visitM next f) p) (s.meet p))).fin p
def partsS (next : List (List Nat)) (k : Nat) : Pst := (List.range k).foldl (fun s p => if s.met.getD p 0 = 0 then visitM next next.length p s else s) ⟨0, List.replicate next.length 0, List.replicate next.length 0, [], List.replicate next.length (-1)⟩
def partsM (next : List (List Nat)) : List Int := (partsS next next.length).prt
/-- does some edge stay in a part? -/
def turnsM (LL : List (List Ed)) (part : List Int) (ks : List Nat) : Bool := (List.range LL.length).any (fun i => (tgL ks (LL.getD i [])).any (fun q => part.getD q 0 == part.getD i 0))

/-- a way under way: of each place the one ahead of it (-2: not met, -1: a start), and the line -/
def wayF (x : Nat) (s : List Int × List Nat) (q : Nat) : List Int × List Nat := if s.1.getD q 0 = -2 then (s.1.set q (x : Int), s.2 ++ [q]) else s
def wayB (next : List (List Nat)) (tz : Nat) : Nat → List Int → List Nat → List Int
  | 0, A, _ => A
  | _ + 1, A, [] => A
  | f + 1, A, x :: Q => if A.getD tz 0 = -2 then wayB next tz f ((next.getD x []).foldl (wayF x) (A, Q)).1 ((next.getD x []).foldl (wayF x) (A, Q)).2 else A
/-- back from a place to a start -/
def wayT (A : List Int) : Nat → Int → List Nat
  | 0, _ => []
  | f + 1, p => if p = -1 then [] else p.toNat :: wayT A f (A.getD p.toNat 0)
def wayM (next : List (List Nat)) (fr : List Nat) (tz : Nat) : List Nat :=
  if fr.length = 0 then [] else
  let A := wayB next tz (next.length + fr.length + 1) (fr.foldl (fun l q => l.set q (-1)) (List.replicate next.length (-2))) fr
  if A.getD tz 0 = -2 then [] else (wayT A (next.length + 1) (tz : Int)).reverse

/-- how many wait for each -/
def waitsM (next : List (List Nat)) : List Int := next.foldl (fun s l => l.foldl (fun s q => s.set q (s.getD q 0 + 1)) s) (List.replicate next.length 0)
/-- a number is put where it belongs -/
def insN (x : Nat) : List Nat → List Nat
  | [] => [x]
  | y :: L => if y < x then y :: insN x L else x :: y :: L
def ordF (s : List Int × List Nat) (q : Nat) : List Int × List Nat := if s.1.getD q 0 - 1 = 0 then (s.1.set q 0, insN q s.2) else (s.1.set q (s.1.getD q 0 - 1), s.2)
def ordM (next : List (List Nat)) : Nat → List Int → List Nat → List Nat
  | 0, _, _ => []
  | _ + 1, _, [] => []
  | f + 1, W, x :: R => x :: ordM next f ((next.getD x []).foldl ordF (W, R)).1 ((next.getD x []).foldl ordF (W, R)).2
def orderM (next : List (List Nat)) : List Nat := ordM next next.length (waitsM next) ((List.range next.length).filter (fun p => (waitsM next).getD p 0 = 0))

end Go.Proofs.YtncfejndmlcidaaGreat
