/- Plain mathematics: the order of strings by their bytes. Layer 19: histories, what transactions of them wrote and read; plain mathematics. -/
import Derived.Lib.Bytealg
import Derived.Laws.BitsAllLaws
namespace Go.Proofs.YtncfejndmlcidaaGreat
set_option maxRecDepth 100000

theorem cb_range : ∀ (a b : List UInt8), Lib.compareBytes a b = -1 ∨ Lib.compareBytes a b = 0 ∨ Lib.compareBytes a b = 1
  | [], [] => by simp [Lib.compareBytes]
  | [], _ :: _ => by simp [Lib.compareBytes]
  | _ :: _, [] => by simp [Lib.compareBytes]
  | a :: x, b :: y => by
    unfold Lib.compareBytes
    split
    · simp
    · split
      · simp
      · exact cb_range x y

theorem cb_swap : ∀ (a b : List UInt8), Lib.compareBytes b a = 0 - Lib.compareBytes a b
  | [], [] => by simp [Lib.compareBytes]
  | [], _ :: _ => by simp [Lib.compareBytes]
  | _ :: _, [] => by simp [Lib.compareBytes]
  | a :: x, b :: y => by
    have ih := cb_swap x y
    simp only [Lib.compareBytes, UInt8.lt_iff_toNat_lt]
    by_cases h1 : a.toNat < b.toNat
    · have h2 : ¬ b.toNat < a.toNat := by omega
      simp [h1, h2]
    · by_cases h2 : b.toNat < a.toNat
      · simp [h1, h2]
      · simp [h1, h2, ih]

theorem cb_self (a : List UInt8) : Lib.compareBytes a a = 0 := by have := cb_swap a a; omega

theorem cb_trans : ∀ (a b c : List UInt8), Lib.compareBytes a b ≤ 0 → Lib.compareBytes b c ≤ 0 → Lib.compareBytes a c ≤ 0
  | [], _, [] => by simp [Lib.compareBytes]
  | [], _, _ :: _ => by simp [Lib.compareBytes]
  | _ :: _, [], _ => by simp [Lib.compareBytes]
  | _ :: _, _ :: _, [] => by simp [Lib.compareBytes]
  | a :: x, b :: y, c :: z => by
    have ih := cb_trans x y z
    simp only [Lib.compareBytes, UInt8.lt_iff_toNat_lt]
    intro h1 h2
    by_cases e1 : a.toNat < b.toNat
    · by_cases e2 : b.toNat < c.toNat
      · rw [if_pos (by omega)]; omega
      · by_cases e3 : c.toNat < b.toNat
        · rw [if_neg e2, if_pos e3] at h2; omega
        · rw [if_pos (by omega)]; omega
    · by_cases e1' : b.toNat < a.toNat
      · rw [if_neg e1, if_pos e1'] at h1; omega
      · rw [if_neg e1, if_neg e1'] at h1
        by_cases e2 : b.toNat < c.toNat
        · rw [if_pos (by omega)]; omega
        · by_cases e3 : c.toNat < b.toNat
          · rw [if_neg e2, if_pos e3] at h2; omega
          · rw [if_neg e2, if_neg e3] at h2
            rw [if_neg (by omega), if_neg (by omega)]
            exact ih h1 h2

theorem less_cb : ∀ (a b : List UInt8), Op.bytesLess a b = decide (Lib.compareBytes a b = -1)
  | [], [] => by simp [Op.bytesLess, Lib.compareBytes]
  | [], _ :: _ => by simp [Op.bytesLess, Lib.compareBytes]
  | _ :: _, [] => by simp [Op.bytesLess, Lib.compareBytes]
  | a :: x, b :: y => by
    have ih := less_cb x y
    simp only [Op.bytesLess, Lib.compareBytes, ih]
    by_cases h1 : a < b
    · simp [h1]
    · by_cases h2 : b < a
      · have h3 : ¬ a = b := fun e => by subst e; exact h1 h2
        simp [h1, h2, h3]
      · have h3 : a = b := by
          rw [UInt8.lt_iff_toNat_lt] at h1 h2
          exact UInt8.toNat_inj.1 (by omega)
        simp [h3]

theorem eq_cb : ∀ (a b : List UInt8), (a == b) = decide (Lib.compareBytes a b = 0)
  | [], [] => by simp [Lib.compareBytes]
  | [], _ :: _ => by simp [Lib.compareBytes]
  | _ :: _, [] => by simp [Lib.compareBytes]
  | a :: x, b :: y => by
    have ih := eq_cb x y
    simp only [Lib.compareBytes, List.cons_beq_cons, ih]
    by_cases h1 : a < b
    · have h3 : ¬ a = b := fun e => by subst e; exact absurd h1 (by simp)
      simp [h1, h3]
    · by_cases h2 : b < a
      · have h3 : ¬ a = b := fun e => by subst e; exact h1 h2
        simp [h1, h2, h3]
      · have h3 : a = b := by
          rw [UInt8.lt_iff_toNat_lt] at h1 h2
          exact UInt8.toNat_inj.1 (by omega)
        simp [h3]
def ltB (a b : ByteArray) : Bool := Op.bytesLess a.toList b.toList
theorem ltB_cb (a b : ByteArray) : ltB a b = decide (Lib.compareBytes a.data.toList b.data.toList = -1) := by
  unfold ltB; rw [ByteArray.toList_eq, ByteArray.toList_eq, less_cb]
theorem ltB_irrefl (a : ByteArray) : ltB a a = false := by rw [ltB_cb, cb_self]; rfl
theorem ltB_tri (a b : ByteArray) : ltB a b = true ∨ a = b ∨ ltB b a = true := by
  rw [ltB_cb, ltB_cb, cb_swap a.data.toList b.data.toList]
  rcases cb_range a.data.toList b.data.toList with h | h | h
  · left; simp [h]
  · right; left
    have := eq_cb a.data.toList b.data.toList
    rw [h] at this
    have h2 : a.data.toList = b.data.toList := by simpa using this
    cases a; cases b; simp at h2; rw [h2]
  · right; right; simp [h]
theorem ltB_asymm {a b : ByteArray} (h : ltB a b = true) : ltB b a = false := by
  rw [ltB_cb] at h ⊢
  rw [cb_swap a.data.toList b.data.toList]
  simp at h
  rw [h]
  rfl
theorem le_trans' {a b c : ByteArray} (h1 : ltB b a = false) (h2 : ltB c b = false) : ltB c a = false := by
  rw [ltB_cb] at h1 h2 ⊢
  have s1 := cb_swap a.data.toList b.data.toList
  have s2 := cb_swap b.data.toList c.data.toList
  have s3 := cb_swap a.data.toList c.data.toList
  have r1 := cb_range a.data.toList b.data.toList
  have r2 := cb_range b.data.toList c.data.toList
  have t := cb_trans a.data.toList b.data.toList c.data.toList
  simp at h1 h2 ⊢
  omega
theorem le_of_lt {a b : ByteArray} (h : ltB a b = true) : ltB b a = false := ltB_asymm h
theorem lt_of_le_ne {a b : ByteArray} (h : ltB b a = false) (hn : ¬ a = b) : ltB a b = true := by
  rcases ltB_tri a b with h1 | h1 | h1
  · exact h1
  · exact absurd h1 hn
  · rw [h] at h1; cases h1
theorem le_antisymm' {a b : ByteArray} (h1 : ltB b a = false) (h2 : ltB a b = false) : a = b := by
  rcases ltB_tri a b with h | h | h
  · rw [h2] at h; cases h
  · exact h
  · rw [h1] at h; cases h
theorem lt_of_lt_of_le' {a b c : ByteArray} (h1 : ltB a b = true) (h2 : ltB c b = false) : ltB a c = true := by
  cases h : ltB a c with
  | true => rfl
  | false =>
    have := le_trans' h2 h
    rw [this] at h1; cases h1
theorem ltB_trans {a b c : ByteArray} (h1 : ltB a b = true) (h2 : ltB b c = true) : ltB a c = true := lt_of_lt_of_le' h1 (le_of_lt h2)

end Go.Proofs.YtncfejndmlcidaaGreat

namespace Go.Proofs.YtncfejndmlcidaaGreat
set_option maxRecDepth 100000

def hasB (lo hi : ByteArray) (op : Bool) (k : ByteArray) : Bool := (!ltB k lo) && (op || ltB k hi)
/-- a version that was seen -/
structure Sw where
  it : ByteArray
  fr : Int
  nt : Int
  deriving DecidableEq
/-- an action -/
structure Ac where
  tx : Int
  kd : Int
  it : ByteArray
  fr : Int
  nt : Int
  lo : ByteArray
  hi : ByteArray
  op : Bool
  sn : List Sw
  st : Nat
  deriving DecidableEq

section
variable {α : Type}
theorem countP_snoc (p : α → Bool) (L : List α) (a : α) : (L ++ [a]).countP p = L.countP p + (if p a then 1 else 0) := by
  rw [List.countP_append]
  cases h : p a <;> simp [h]
theorem any_snoc (p : α → Bool) (L : List α) (a : α) : (L ++ [a]).any p = (L.any p || p a) := by simp
theorem filter_snoc (p : α → Bool) (L : List α) (a : α) : (L ++ [a]).filter p = L.filter p ++ (if p a then [a] else []) := by
  rw [List.filter_append]
  cases h : p a <;> simp [h]
end

def isW (t : Int) (x : ByteArray) (a : Ac) : Bool := a.kd == 4 && a.tx == t && decide (a.it = x)
/-- how often a transaction wrote an item -/
def wr (H : List Ac) (t : Int) (x : ByteArray) : Nat := H.countP (isW t x)
theorem wr_snoc (H : List Ac) (a : Ac) (t : Int) (x : ByteArray) : wr (H ++ [a]) t x = wr H t x + (if isW t x a then 1 else 0) := countP_snoc _ _ _
theorem wr_le (H : List Ac) (t : Int) (x : ByteArray) : wr H t x ≤ H.length := List.countP_le_length
/-- is a transaction there? -/
def kn (H : List Ac) (t : Int) : Bool := H.any (fun a => a.tx == t)
/-- has it ended? -/
def en (H : List Ac) (t : Int) : Bool := H.any (fun a => a.tx == t && (a.kd == 5 || a.kd == 6))
/-- has it begun? -/
def bg (H : List Ac) (t : Int) : Bool := H.any (fun a => a.tx == t && a.kd == 1)
/-- the stamp of the last action of a kind of a transaction; 0: there is none -/
def stOf (k : Int) (H : List Ac) (t : Int) : Nat := ((H.filter (fun a => a.tx == t && a.kd == k)).getLast?.map (·.st)).getD 0
theorem stOf_snoc (k : Int) (H : List Ac) (a : Ac) (t : Int) : stOf k (H ++ [a]) t = if a.tx = t ∧ a.kd = k then a.st else stOf k H t := by
  unfold stOf
  rw [filter_snoc]
  by_cases h : a.tx = t ∧ a.kd = k
  · rw [if_pos h]
    simp [h.1, h.2]
  · rw [if_neg h]
    have : ¬ (a.tx == t && a.kd == k) = true := by simpa using h
    simp [this]
/-- its snapshot -/
abbrev snp (H : List Ac) (t : Int) : Nat := stOf 1 H t
/-- its commit's stamp -/
abbrev cm (H : List Ac) (t : Int) : Nat := stOf 5 H t
/-- what it read -/
def rds (H : List Ac) (t : Int) : List Sw := (H.filter (fun a => a.tx == t && a.kd == 2)).map (fun a => ⟨a.it, a.fr, a.nt⟩)
/-- its scans -/
def scs (H : List Ac) (t : Int) : List Ac := H.filter (fun a => a.tx == t && a.kd == 3)
/-- who committed, one behind the other -/
def cms (H : List Ac) : List Int := (H.filter (fun a => a.kd == 5)).map (·.tx)
/-- the last commit's stamp -/
def lst (H : List Ac) : Nat := ((H.filter (fun a => a.kd == 5)).getLast?.map (·.st)).getD 0
theorem rds_snoc (H : List Ac) (a : Ac) (t : Int) : rds (H ++ [a]) t = rds H t ++ (if a.tx = t ∧ a.kd = 2 then [⟨a.it, a.fr, a.nt⟩] else []) := by
  unfold rds
  rw [filter_snoc, List.map_append]
  by_cases h : a.tx = t ∧ a.kd = 2
  · rw [if_pos h, if_pos (by simp [h.1, h.2])]; rfl
  · rw [if_neg h, if_neg (by simpa using h)]; rfl
theorem scs_snoc (H : List Ac) (a : Ac) (t : Int) : scs (H ++ [a]) t = scs H t ++ (if a.tx = t ∧ a.kd = 3 then [a] else []) := by
  unfold scs
  rw [filter_snoc]
  by_cases h : a.tx = t ∧ a.kd = 3
  · rw [if_pos h, if_pos (by simp [h.1, h.2])]
  · rw [if_neg h, if_neg (by simpa using h)]
theorem cms_snoc (H : List Ac) (a : Ac) : cms (H ++ [a]) = cms H ++ (if a.kd = 5 then [a.tx] else []) := by
  unfold cms
  rw [filter_snoc, List.map_append]
  by_cases h : a.kd = 5
  · rw [if_pos h, if_pos (by simp [h])]; rfl
  · rw [if_neg h, if_neg (by simpa using h)]; rfl
theorem lst_snoc (H : List Ac) (a : Ac) : lst (H ++ [a]) = if a.kd = 5 then a.st else lst H := by
  unfold lst
  rw [filter_snoc]
  by_cases h : a.kd = 5
  · rw [if_pos h]; simp [h]
  · rw [if_neg h]
    have : ¬ (a.kd == 5) = true := by simpa using h
    simp [this]
theorem kn_snoc (H : List Ac) (a : Ac) (t : Int) : kn (H ++ [a]) t = (kn H t || a.tx == t) := any_snoc _ _ _
theorem en_snoc (H : List Ac) (a : Ac) (t : Int) : en (H ++ [a]) t = (en H t || (a.tx == t && (a.kd == 5 || a.kd == 6))) := any_snoc _ _ _
theorem bg_snoc (H : List Ac) (a : Ac) (t : Int) : bg (H ++ [a]) t = (bg H t || (a.tx == t && a.kd == 1)) := any_snoc _ _ _

/-- a text is put where it belongs, once -/
def insS (x : ByteArray) : List ByteArray → List ByteArray
  | [] => [x]
  | y :: L => if ltB x y then x :: y :: L else if ltB y x then y :: insS x L else y :: L
/-- what a transaction wrote, rising -/
def itsF (t : Int) (L : List ByteArray) (a : Ac) : List ByteArray := if a.tx = t ∧ a.kd = 4 then insS a.it L else L
def its (H : List Ac) (t : Int) : List ByteArray := H.foldl (itsF t) []
theorem its_snoc (H : List Ac) (a : Ac) (t : Int) : its (H ++ [a]) t = if a.tx = t ∧ a.kd = 4 then insS a.it (its H t) else its H t := by
  unfold its
  rw [List.foldl_append]
  rfl
def RisS (L : List ByteArray) : Prop := L.Pairwise (fun a b => ltB a b = true)
theorem insS_mem (x : ByteArray) : ∀ (L : List ByteArray) (y : ByteArray), y ∈ insS x L ↔ y = x ∨ y ∈ L
  | [], y => by simp [insS]
  | z :: L, y => by
    unfold insS
    by_cases h1 : ltB x z = true
    · rw [if_pos h1]; simp
    · rw [if_neg h1]
      by_cases h2 : ltB z x = true
      · rw [if_pos h2]
        simp only [List.mem_cons, insS_mem x L y]
        constructor
        · rintro (h | h | h) <;> simp [h]
        · rintro (h | h | h) <;> simp [h]
      · rw [if_neg h2]
        have e : x = z := by
          rcases ltB_tri x z with h | h | h
          · exact absurd h h1
          · exact h
          · exact absurd h h2
        subst e
        simp
theorem insS_ris (x : ByteArray) : ∀ (L : List ByteArray), RisS L → RisS (insS x L)
  | [], _ => List.pairwise_singleton _ _
  | z :: L, h => by
    obtain ⟨h3, h4⟩ := List.pairwise_cons.1 h
    unfold insS
    by_cases h1 : ltB x z = true
    · rw [if_pos h1]
      refine List.pairwise_cons.2 ⟨fun y hy => ?_, h⟩
      rcases List.mem_cons.1 hy with rfl | hy
      · exact h1
      · exact ltB_trans h1 (h3 y hy)
    · rw [if_neg h1]
      by_cases h2 : ltB z x = true
      · rw [if_pos h2]
        refine List.pairwise_cons.2 ⟨fun y hy => ?_, insS_ris x L h4⟩
        rcases (insS_mem x L y).1 hy with rfl | hy
        · exact h2
        · exact h3 y hy
      · rw [if_neg h2]
        exact h
theorem insS_len (x : ByteArray) : ∀ (L : List ByteArray), (insS x L).length ≤ L.length + 1
  | [] => Nat.le_refl _
  | z :: L => by
    have := insS_len x L
    unfold insS
    by_cases h1 : ltB x z = true
    · rw [if_pos h1]; simp
    · rw [if_neg h1]
      by_cases h2 : ltB z x = true
      · rw [if_pos h2]; simp only [List.length_cons]; omega
      · rw [if_neg h2]; simp
/-- one that is there already -/
theorem insS_old (x : ByteArray) : ∀ (L : List ByteArray), RisS L → x ∈ L → insS x L = L
  | [], _, h => by simp at h
  | z :: L, hr, h => by
    obtain ⟨h3, h4⟩ := List.pairwise_cons.1 hr
    unfold insS
    rcases List.mem_cons.1 h with rfl | h
    · rw [ltB_irrefl]; rfl
    · have h5 := h3 x h
      rw [if_neg (by rw [ltB_asymm h5]; simp), if_pos h5, insS_old x L h4 h]
/-- a new one goes behind all that are below it -/
theorem insS_new (x : ByteArray) : ∀ (L : List ByteArray) (i : Nat), RisS L → i ≤ L.length → (∀ j (hj : j < L.length), j < i → ltB L[j] x = true) → (∀ j (hj : j < L.length), i ≤ j → ltB x L[j] = true) → insS x L = L.take i ++ x :: L.drop i
  | [], i, _, hi, _, _ => by
    have : i = 0 := by simpa using hi
    subst this
    rfl
  | z :: L, 0, _, _, _, h2 => by
    have h3 : ltB x z = true := h2 0 (by simp) (Nat.le_refl _)
    unfold insS
    rw [if_pos h3]
    rfl
  | z :: L, i + 1, hr, hi, h1, h2 => by
    have h3 : ltB z x = true := h1 0 (by simp) (by omega)
    unfold insS
    rw [if_neg (by rw [ltB_asymm h3]; simp), if_pos h3, insS_new x L i (List.pairwise_cons.1 hr).2 (by simpa using hi) (fun j hj hji => h1 (j + 1) (by simpa using hj) (by omega)) (fun j hj hji => h2 (j + 1) (by simpa using hj) (by omega))]
    rfl
theorem itsF_ris (t : Int) : ∀ (H : List Ac) (L : List ByteArray), RisS L → RisS (H.foldl (itsF t) L)
  | [], L, h => h
  | a :: H, L, h => by
    rw [List.foldl_cons]
    refine itsF_ris t H _ ?_
    unfold itsF
    by_cases h1 : a.tx = t ∧ a.kd = 4
    · rw [if_pos h1]; exact insS_ris _ _ h
    · rw [if_neg h1]; exact h
theorem its_ris (t : Int) (H : List Ac) : RisS (its H t) := itsF_ris t H [] List.Pairwise.nil
theorem itsF_len (t : Int) : ∀ (H : List Ac) (L : List ByteArray), (H.foldl (itsF t) L).length ≤ L.length + H.length
  | [], L => Nat.le_refl _
  | a :: H, L => by
    rw [List.foldl_cons]
    refine Nat.le_trans (itsF_len t H _) ?_
    unfold itsF
    by_cases h1 : a.tx = t ∧ a.kd = 4
    · rw [if_pos h1]
      have := insS_len a.it L
      simp only [List.length_cons]; omega
    · rw [if_neg h1]
      simp only [List.length_cons]; omega
theorem its_len (t : Int) (H : List Ac) : (its H t).length ≤ H.length := by
  have := itsF_len t H []
  simpa [its] using this
theorem itsF_mem (t : Int) (x : ByteArray) : ∀ (H : List Ac) (L : List ByteArray), (x ∈ H.foldl (itsF t) L) ↔ x ∈ L ∨ 0 < wr H t x
  | [], L => by simp [wr]
  | a :: H, L => by
    rw [List.foldl_cons, itsF_mem t x H _]
    have e : wr (a :: H) t x = wr H t x + (if isW t x a then 1 else 0) := List.countP_cons
    rw [e]
    unfold itsF
    by_cases h1 : a.tx = t ∧ a.kd = 4
    · rw [if_pos h1, insS_mem]
      by_cases h2 : x = a.it
      · have : isW t x a = true := by simp [isW, h1.1, h1.2, h2]
        rw [this]
        simp [h2]
      · have : isW t x a = false := by simp [isW, h1.1, h1.2, Ne.symm h2]
        rw [this]
        simp [h2]
    · rw [if_neg h1]
      have : isW t x a = false := by
        cases hw : isW t x a
        · rfl
        · exfalso
          apply h1
          simp [isW] at hw
          exact ⟨hw.1.2, hw.1.1⟩
      rw [this]
      simp
/-- who wrote an item has it among his -/
theorem its_mem (t : Int) (x : ByteArray) (H : List Ac) : x ∈ its H t ↔ 0 < wr H t x := by
  have := itsF_mem t x H []
  simpa [its] using this

/-- the committed ones that wrote an item, one behind the other -/
def vrs (H : List Ac) (x : ByteArray) : List Int := (cms H).filter (fun t => decide (0 < wr H t x))
/-- has an action a kind, a transaction, and no part that its kind has not? -/
def fmB (a : Ac) : Bool :=
  decide (1 ≤ a.kd) && decide (a.kd ≤ 6) && decide (1 ≤ a.tx) && (a.kd == 2 || a.kd == 4 || decide (a.it = ⟨#[]⟩)) && (a.kd == 2 || (a.fr == 0 && a.nt == 0)) && (a.kd == 3 || (decide (a.lo = ⟨#[]⟩) && decide (a.hi = ⟨#[]⟩) && !a.op && decide (a.sn.length = 0))) && (a.kd == 1 || a.kd == 5 || a.st == 0)
/-- may a version be read? -/
def thB (H : List Ac) (t : Int) (s : Sw) : Bool :=
  if 0 < wr H t s.it then s.fr == t && s.nt == (wr H t s.it : Int)
  else if s.fr = 0 then s.nt == 0 else decide (1 ≤ s.nt) && decide (s.nt ≤ (wr H s.fr s.it : Int))
/-- from where up to where rising items are in a range -/
def inR (a : Ac) (x : ByteArray) : Bool := hasB a.lo a.hi a.op x
/-- do a scan's first versions rise, in its range, and may they be? -/
def scB (H : List Ac) (a : Ac) (k : Nat) : Bool := (List.range k).all (fun i => (i == 0 || ltB (a.sn.getD (i - 1) ⟨⟨#[]⟩, 0, 0⟩).it (a.sn.getD i ⟨⟨#[]⟩, 0, 0⟩).it) && inR a (a.sn.getD i ⟨⟨#[]⟩, 0, 0⟩).it && thB H a.tx (a.sn.getD i ⟨⟨#[]⟩, 0, 0⟩))
/-- may an action stand behind others? -/
def okA (H : List Ac) (a : Ac) : Bool :=
  fmB a && !(en H a.tx) && (!(a.kd == 1) || !(kn H a.tx)) && (!(a.kd == 2) || thB H a.tx ⟨a.it, a.fr, a.nt⟩)
    && (!(a.kd == 3) || (scB H a a.sn.length && decide (((its H a.tx).filter (inR a)).length ≤ a.sn.countP (fun s => s.fr == a.tx))))
    && (!(a.kd == 5) || decide (lst H < a.st))
/-- may the first k actions be? -/
def okH (L : List Ac) (k : Nat) : Prop := ∀ i, i < k → ∀ h : i < L.length, okA (L.take i) L[i] = true

end Go.Proofs.YtncfejndmlcidaaGreat
