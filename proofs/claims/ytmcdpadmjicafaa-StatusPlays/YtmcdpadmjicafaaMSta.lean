/- Transactions: all that were begun, as words; those that are there, as the document has them. -/
import Derived.Test.YtmcdpadmjicafaaProg
namespace Go.Proofs.Ytmcdpadmjicafaa
set_option maxRecDepth 100000

/-- a transaction: its word, and whether it was forgotten -/
structure Tx where
  wd : Nat
  gone : Bool
/-- a transaction that is there -/
structure Dx where
  num : Int
  st : Int
  sp : Nat
def decd (x : Nat) : Bool := !(x == 0) && !(x == 4611686018427387905)
def stO (x : Nat) : Int := if x = 0 then 1 else if x = 4611686018427387905 then 2 else if x = 4611686018427387906 then 4 else 3
def spO (x : Nat) : Nat := if x = 0 ∨ x = 4611686018427387905 ∨ x = 4611686018427387906 then 0 else x
def decS (s : Int) : Bool := (s == 3) || (s == 4)
theorem decS_stO (x : Nat) : decS (stO x) = decd x := by
  unfold stO decd decS
  by_cases h0 : x = 0
  · subst h0; rfl
  · rw [if_neg h0]
    by_cases h1 : x = 4611686018427387905
    · subst h1; rfl
    · rw [if_neg h1]
      have e0 : (x == 0) = false := by simpa using h0
      have e1 : (x == 4611686018427387905) = false := by simpa using h1
      rw [e0, e1]
      split <;> rfl
theorem stO_one (x : Nat) : stO x = 1 ↔ x = 0 := by
  unfold stO
  constructor
  · intro h
    by_cases h0 : x = 0
    · exact h0
    · rw [if_neg h0] at h
      split at h
      · omega
      · split at h <;> omega
  · intro h; rw [if_pos h]
theorem stO_pos (x : Nat) : 1 ≤ stO x := by
  unfold stO
  split
  · omega
  · split
    · omega
    · split <;> omega
theorem stO_le (x : Nat) : stO x ≤ 4 := by
  unfold stO
  split
  · omega
  · split
    · omega
    · split <;> omega
theorem stO_stamp (x : Nat) (h : 0 < x) (h1 : x ≤ 4611686018427387904) : stO x = 3 ∧ spO x = x := by
  unfold stO spO
  rw [if_neg (by omega), if_neg (by omega), if_neg (by omega), if_neg (by omega)]
  exact ⟨rfl, rfl⟩

/-- the place of one that is there -/
def lookT (T : List Tx) (n : Int) : Option Nat := if 0 < n then (match T[(n - 1).toNat]? with
  | some x => if x.gone then none else some (n - 1).toNat
  | none => none) else none
theorem lookT_some {T : List Tx} {n : Int} {i : Nat} (h : lookT T n = some i) : ∃ x, T[i]? = some x ∧ x.gone = false ∧ n = (i : Int) + 1 := by
  unfold lookT at h
  split at h
  · rename_i hn
    split at h
    · rename_i x hx
      split at h
      · cases h
      · rename_i hg
        injection h with h
        subst h
        exact ⟨x, hx, by simpa using hg, by omega⟩
    · cases h
  · cases h
theorem lookT_of {T : List Tx} {i : Nat} {x : Tx} (h : T[i]? = some x) (hg : x.gone = false) : lookT T ((i : Int) + 1) = some i := by
  unfold lookT
  have e : ((i : Int) + 1 - 1).toNat = i := by omega
  rw [if_pos (by omega), e, h]
  simp [hg]
theorem lookT_none {T : List Tx} {n : Int} (h : lookT T n = none) {i : Nat} {x : Tx} (hx : T[i]? = some x) (hg : x.gone = false) : n ≠ (i : Int) + 1 := by
  intro e
  subst e
  rw [lookT_of hx hg] at h
  cases h

/-- those that are there -/
def docA (k : Nat) : List Tx → List Dx
  | [] => []
  | x :: t => if x.gone then docA (k + 1) t else ⟨(k : Int) + 1, stO x.wd, spO x.wd⟩ :: docA (k + 1) t
def findD : List Dx → Int → Option Nat
  | [], _ => none
  | d :: t, n => if d.num = n then some 0 else (findD t n).map (· + 1)
theorem findD_some : ∀ {D : List Dx} {n : Int} {j : Nat}, findD D n = some j → (∃ d, D[j]? = some d ∧ d.num = n) ∧ ∀ i, i < j → ∀ d, D[i]? = some d → d.num ≠ n
  | [], _, _, h => by cases h
  | d :: t, n, j, h => by
    unfold findD at h
    split at h
    · rename_i hd
      cases h
      exact ⟨⟨d, rfl, hd⟩, fun i hi => absurd hi (by omega)⟩
    · rename_i hd
      cases hf : findD t n with
      | none => rw [hf] at h; cases h
      | some j' =>
        rw [hf] at h
        cases h
        obtain ⟨h1, h2⟩ := findD_some hf
        refine ⟨h1, fun i hi d' hd' => ?_⟩
        cases i with
        | zero => cases hd'; exact hd
        | succ i => exact h2 i (Nat.lt_of_succ_lt_succ hi) d' hd'
theorem findD_none : ∀ {D : List Dx} {n : Int}, findD D n = none → ∀ (i : Nat) (d : Dx), D[i]? = some d → d.num ≠ n
  | [], _, _, i, d, hd => by cases hd
  | d :: t, n, h, i, d', hd' => by
    unfold findD at h
    split at h
    · cases h
    · rename_i hd
      cases hf : findD t n with
      | some j' => rw [hf] at h; cases h
      | none =>
        cases i with
        | zero => cases hd'; exact hd
        | succ i => exact findD_none hf i d' hd'
theorem findD_is : ∀ {D : List Dx} {n : Int} {j : Nat} {d : Dx}, D[j]? = some d → d.num = n → (∀ i, i < j → ∀ d, D[i]? = some d → d.num ≠ n) → findD D n = some j := by
  intro D n j d h1 h2 h3
  cases hf : findD D n with
  | none => exact absurd h2 (findD_none hf j d h1)
  | some i =>
    obtain ⟨⟨d', g1, g2⟩, g3⟩ := findD_some hf
    by_cases e : i = j
    · rw [e]
    · rcases Nat.lt_or_gt_of_ne e with hl | hl
      · exact absurd g2 (h3 i hl d' g1)
      · exact absurd h2 (g3 j hl d h1)
theorem findD_no : ∀ {D : List Dx} {n : Int}, (∀ (i : Nat) d, D[i]? = some d → d.num ≠ n) → findD D n = none := by
  intro D n h
  cases hf : findD D n with
  | none => rfl
  | some i =>
    obtain ⟨⟨d', g1, g2⟩, _⟩ := findD_some hf
    exact absurd g2 (h i d' g1)

theorem doc_find : ∀ (T : List Tx) (k i : Nat) (x : Tx), T[i]? = some x → x.gone = false → ∃ j, findD (docA k T) ((k : Int) + i + 1) = some j ∧ (docA k T)[j]? = some ⟨(k : Int) + i + 1, stO x.wd, spO x.wd⟩ ∧
    (∀ y, docA k (T.set i ⟨y, false⟩) = (docA k T).set j ⟨(k : Int) + i + 1, stO y, spO y⟩) ∧ docA k (T.set i ⟨x.wd, true⟩) = (docA k T).eraseIdx j
  | [], _, _, _, h, _ => by cases h
  | t :: T, k, 0, x, h, hg => by
    cases h
    refine ⟨0, ?_, ?_, ?_, ?_⟩
    · simp [docA, hg, findD]
    · simp [docA, hg]
    · intro y; simp [docA, hg]
    · simp [docA, hg]
  | t :: T, k, i + 1, x, h, hg => by
    have h' : T[i]? = some x := h
    obtain ⟨j, h1, h2, h3, h4⟩ := doc_find T (k + 1) i x h' hg
    have e : ((k + 1 : Nat) : Int) + i + 1 = (k : Int) + (i + 1 : Nat) + 1 := by omega
    rw [e] at h1 h2
    simp only [e] at h3
    cases htg : t.gone with
    | true =>
      refine ⟨j, ?_, ?_, ?_, ?_⟩
      · simp only [docA, htg, if_true]; exact h1
      · simp only [docA, htg, if_true]; exact h2
      · intro y; simp only [docA, htg, if_true, List.set_cons_succ]; exact h3 y
      · simp only [docA, htg, if_true, List.set_cons_succ]; exact h4
    | false =>
      refine ⟨j + 1, ?_, ?_, ?_, ?_⟩
      · simp only [docA, htg]
        rw [if_neg (by simp), findD, if_neg (by simp; omega), h1]
        rfl
      · simp only [docA, htg]
        exact h2
      · intro y
        simp only [docA, htg, List.set_cons_succ]
        rw [if_neg (by simp), if_neg (by simp), h3 y]
        rfl
      · simp only [docA, htg, List.set_cons_succ]
        rw [if_neg (by simp), if_neg (by simp), h4]
        rfl
theorem doc_num : ∀ (T : List Tx) (k : Nat) (i : Nat) (d : Dx), (docA k T)[i]? = some d → ∃ (j : Nat) (x : Tx), T[j]? = some x ∧ x.gone = false ∧ d.num = (k : Int) + j + 1
  | [], _, _, _, h => by cases h
  | t :: T, k, i, d, h => by
    unfold docA at h
    split at h
    · obtain ⟨j, x, h1, h2, h3⟩ := doc_num T (k + 1) i d h
      exact ⟨j + 1, x, h1, h2, by omega⟩
    · rename_i hg
      cases i with
      | zero => cases h; exact ⟨0, t, rfl, by simpa using hg, by simp⟩
      | succ i =>
        obtain ⟨j, x, h1, h2, h3⟩ := doc_num T (k + 1) i d h
        exact ⟨j + 1, x, h1, h2, by omega⟩
theorem doc_none {T : List Tx} {n : Int} (h : lookT T n = none) : findD (docA 0 T) n = none := by
  refine findD_no fun i d hd => ?_
  obtain ⟨j, x, h1, h2, h3⟩ := doc_num T 0 i d hd
  rw [h3]
  have := lookT_none h h1 h2
  omega
theorem doc_some {T : List Tx} {n : Int} {i : Nat} (h : lookT T n = some i) : ∃ (x : Tx) (j : Nat), T[i]? = some x ∧ x.gone = false ∧ n = (i : Int) + 1 ∧ findD (docA 0 T) n = some j ∧ (docA 0 T)[j]? = some ⟨n, stO x.wd, spO x.wd⟩ ∧
    (∀ y, docA 0 (T.set i ⟨y, false⟩) = (docA 0 T).set j ⟨n, stO y, spO y⟩) ∧ docA 0 (T.set i ⟨x.wd, true⟩) = (docA 0 T).eraseIdx j := by
  obtain ⟨x, h1, h2, h3⟩ := lookT_some h
  obtain ⟨j, g1, g2, g3, g4⟩ := doc_find T 0 i x h1 h2
  have e : ((0 : Nat) : Int) + i + 1 = n := by omega
  rw [e] at g1 g2
  simp only [e] at g3
  exact ⟨x, j, h1, h2, h3, g1, g2, g3, g4⟩

/-- those that are not decided -/
def openA (k : Nat) : List Tx → List Int
  | [] => []
  | x :: t => if decd x.wd then openA (k + 1) t else ((k : Int) + 1) :: openA (k + 1) t
def openD : List Dx → List Int
  | [] => []
  | d :: t => if decS d.st then openD t else d.num :: openD t
theorem open_doc : ∀ (T : List Tx) (k : Nat), (∀ x ∈ T, x.gone = true → decd x.wd = true) → openD (docA k T) = openA k T
  | [], _, _ => rfl
  | t :: T, k, h => by
    have ih := open_doc T (k + 1) (fun x hx => h x (List.mem_cons_of_mem _ hx))
    have ht := h t List.mem_cons_self
    unfold docA openA
    cases hg : t.gone with
    | true =>
      rw [ht hg]
      exact ih
    | false =>
      rw [if_neg (by simp)]
      unfold openD
      rw [decS_stO, ih]
theorem docA_app : ∀ (T : List Tx) (k : Nat) (x : Tx), x.gone = false → docA k (T ++ [x]) = docA k T ++ [⟨((k + T.length : Nat) : Int) + 1, stO x.wd, spO x.wd⟩]
  | [], k, x, h => by simp [docA, h]
  | t :: T, k, x, h => by
    have ih := docA_app T (k + 1) x h
    have e : k + 1 + T.length = k + (t :: T).length := by simp; omega
    rw [e] at ih
    rw [List.cons_append]
    unfold docA
    rw [ih]
    split
    · rfl
    · rfl

/-- what one may turn into -/
def mayU (x : Nat) : Int := if decd x then 91 else 0
def mayC (s x : Nat) : Int := if decd x then 91 else if x = 0 then 92 else if s = 0 ∨ 4611686018427387904 < s then 1 else 0
def turnT (T : List Tx) (n : Int) (may : Nat → Int) (to : Nat) : List Tx × Int := match lookT T n with
  | none => (T, 90)
  | some i => match T[i]? with
    | none => (T, 90)
    | some x => if may x.wd = 0 then (T.set i ⟨to, false⟩, 0) else (T, may x.wd)
def forgT (T : List Tx) (n : Int) : List Tx × Int := match lookT T n with
  | none => (T, 90)
  | some i => match T[i]? with
    | none => (T, 90)
    | some x => if decd x.wd then (T.set i ⟨x.wd, true⟩, 0) else (T, 92)
def begT (T : List Tx) : List Tx × Int × Int := if 256 ≤ (openA 0 T).length then (T, 0, 2) else (T ++ [⟨0, false⟩], (T.length : Int) + 1, 0)
/-- the same, as the document has it -/
def mayUD (s : Int) : Int := if decS s then 91 else 0
def mayCD (t : Nat) (s : Int) : Int := if decS s then 91 else if s = 1 then 92 else if t = 0 ∨ 4611686018427387904 < t then 1 else 0
def turnD (D : List Dx) (n : Int) (may : Int → Int) (st : Int) (sp : Nat) : List Dx × Int := match findD D n with
  | none => (D, 90)
  | some j => match D[j]? with
    | none => (D, 90)
    | some d => if may d.st = 0 then (D.set j ⟨n, st, sp⟩, 0) else (D, may d.st)
def forgD (D : List Dx) (n : Int) : List Dx × Int := match findD D n with
  | none => (D, 90)
  | some j => match D[j]? with
    | none => (D, 90)
    | some d => if decS d.st then (D.eraseIdx j, 0) else (D, 92)
theorem mayU_doc (x : Nat) : mayUD (stO x) = mayU x := by unfold mayUD mayU; rw [decS_stO]
theorem mayC_doc (s x : Nat) : mayCD s (stO x) = mayC s x := by
  unfold mayCD mayC
  rw [decS_stO]
  have := stO_one x
  simp only [this]
theorem turn_doc (T : List Tx) (n : Int) (may : Nat → Int) (mayD : Int → Int) (to : Nat) (st : Int) (sp : Nat) (hm : ∀ x, mayD (stO x) = may x) (hto : ∀ x, may x = 0 → stO to = st ∧ spO to = sp) :
    turnD (docA 0 T) n mayD st sp = (docA 0 (turnT T n may to).1, (turnT T n may to).2) := by
  unfold turnD turnT
  cases h : lookT T n with
  | none => rw [doc_none h]
  | some i =>
    obtain ⟨x, j, h1, h2, h3, h4, h5, h6, h7⟩ := doc_some h
    rw [h4]
    simp only [h1, h5, hm]
    split
    · rename_i h0
      obtain ⟨rfl, rfl⟩ := hto _ h0
      rw [h6]
    · rfl
theorem forg_doc (T : List Tx) (n : Int) : forgD (docA 0 T) n = (docA 0 (forgT T n).1, (forgT T n).2) := by
  unfold forgD forgT
  cases h : lookT T n with
  | none => rw [doc_none h]
  | some i =>
    obtain ⟨x, j, h1, h2, h3, h4, h5, h6, h7⟩ := doc_some h
    rw [h4]
    simp only [h1, h5, decS_stO]
    split
    · rw [h7]
    · rfl

/-- what one is told of a number -/
def tellT (T : List Tx) (n : Int) : Int × Nat × Int := match lookT T n with
  | none => (0, 0, 90)
  | some i => match T[i]? with
    | none => (0, 0, 90)
    | some x => (stO x.wd, spO x.wd, 0)
def tellD (D : List Dx) (n : Int) : Int × Nat × Int := match findD D n with
  | none => (0, 0, 90)
  | some j => match D[j]? with
    | none => (0, 0, 90)
    | some d => (d.st, d.sp, 0)
theorem tell_doc (T : List Tx) (n : Int) : tellD (docA 0 T) n = tellT T n := by
  unfold tellD tellT
  cases h : lookT T n with
  | none => rw [doc_none h]
  | some i =>
    obtain ⟨x, j, h1, h2, h3, h4, h5, h6, h7⟩ := doc_some h
    rw [h4]
    simp only [h1, h5]
end Go.Proofs.Ytmcdpadmjicafaa
