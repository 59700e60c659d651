/- Layer 19: edges, as the program makes them; plain. -/
import Derived.Test.YtncfejndmlcidaaGreatGMGr5
namespace Go.Proofs.YtncfejndmlcidaaGreat
set_option maxRecDepth 100000

/-- an edge more, if it leads elsewhere -/
def leadM (LL : List (List Ed)) (i j kd im : Nat) : List (List Ed) := if i = j then LL else LL.set i (LL.getD i [] ++ [⟨j, kd, im⟩])
theorem leadM_len (LL : List (List Ed)) (i j kd im : Nat) : (leadM LL i j kd im).length = LL.length := by
  unfold leadM
  split <;> simp
/-- no row is longer -/
def RowsLe (LL : List (List Ed)) (N : Nat) : Prop := ∀ i, (LL.getD i []).length ≤ N
theorem RowsLe.mono {LL : List (List Ed)} {N M : Nat} (h : RowsLe LL N) (hm : N ≤ M) : RowsLe LL M := fun i => Nat.le_trans (h i) hm
theorem leadM_le {LL : List (List Ed)} {N : Nat} (h : RowsLe LL N) (i j kd im : Nat) : RowsLe (leadM LL i j kd im) (N + 1) := fun k => by
  have h1 := h k
  have h2 := h i
  unfold leadM
  split
  · omega
  · simp only [List.getD_eq_getElem?_getD, List.getElem?_set] at h1 h2 ⊢
    split
    · split
      · simp only [Option.getD_some, List.length_append, List.length_cons, List.length_nil]; omega
      · simp
    · omega
theorem RowsLe.rep (n N : Nat) : RowsLe (List.replicate n []) N := fun i => by
  simp only [List.getD_eq_getElem?_getD, List.getElem?_replicate]
  split <;> simp
/-- the edges of one item's versions, each to the next one, the first k -/
def ovI (pl : Int → Nat) (l : List Int) (im : Nat) (LL : List (List Ed)) : Nat → List (List Ed)
  | 0 => LL
  | k + 1 => leadM (ovI pl l im LL k) (pl (l.getD k 0)) (pl (l.getD (k + 1) 0)) 1 im
/-- of the first k items -/
def ovM (pl : Int → Nat) (H : List Ac) (I : List ByteArray) (LL : List (List Ed)) : Nat → List (List Ed)
  | 0 => LL
  | k + 1 => ovI pl (vrs H (I.getD k ⟨#[]⟩)) k (ovM pl H I LL k) ((vrs H (I.getD k ⟨#[]⟩)).length - 1)
theorem ovI_len (pl : Int → Nat) (l : List Int) (im : Nat) (LL : List (List Ed)) : ∀ k, (ovI pl l im LL k).length = LL.length
  | 0 => rfl
  | k + 1 => by unfold ovI; rw [leadM_len, ovI_len]
theorem ovM_len (pl : Int → Nat) (H : List Ac) (I : List ByteArray) (LL : List (List Ed)) : ∀ k, (ovM pl H I LL k).length = LL.length
  | 0 => rfl
  | k + 1 => by unfold ovM; rw [ovI_len, ovM_len]
theorem ovI_le (pl : Int → Nat) (l : List Int) (im : Nat) {LL : List (List Ed)} {N : Nat} (h : RowsLe LL N) : ∀ k, RowsLe (ovI pl l im LL k) (N + k)
  | 0 => h
  | k + 1 => by unfold ovI; exact leadM_le (ovI_le pl l im h k) _ _ _ _
theorem vrs_len (H : List Ac) (x : ByteArray) : (vrs H x).length ≤ H.length := by
  unfold vrs
  refine Nat.le_trans (List.length_filter_le _ _) ?_
  unfold cms
  rw [List.length_map]
  exact List.length_filter_le _ _
theorem ovM_le (pl : Int → Nat) (H : List Ac) (I : List ByteArray) {LL : List (List Ed)} {N : Nat} (h : RowsLe LL N) (hl : H.length ≤ 4096) : ∀ k, RowsLe (ovM pl H I LL k) (N + k * 4096)
  | 0 => by rw [Nat.zero_mul, Nat.add_zero]; exact h
  | k + 1 => by
    unfold ovM
    refine (ovI_le pl _ k (ovM_le pl H I h hl k) _).mono ?_
    have := vrs_len H (I.getD k ⟨#[]⟩)
    omega
/-- the stamp of who wrote a version; 0: nobody -/
def cm0 (H : List Ac) (fr : Int) : Nat := if fr = 0 then 0 else cm H fr
/-- where an item stands -/
def plI (I : List ByteArray) (x : ByteArray) : Nat := I.countP (fun y => ltB y x)
/-- how many versions of an item are not behind one -/
def vrN (H : List Ac) (s : Sw) : Nat := (vrs H s.it).countP (fun u => decide (cm H u ≤ cm0 H s.fr))
def vrM1 (pl : Int → Nat) (I : List ByteArray) (t : Int) (LL : List (List Ed)) (s : Sw) : List (List Ed) := if s.fr = 0 then LL else leadM LL (pl s.fr) (pl t) 2 (plI I s.it)
/-- the edges of a version that was read -/
def vrM (pl : Int → Nat) (H : List Ac) (I : List ByteArray) (t : Int) (kd : Nat) (LL : List (List Ed)) (s : Sw) : List (List Ed) :=
  if s.fr ≠ 0 ∧ cm H s.fr = 0 then LL else
  if vrN H s < (vrs H s.it).length then leadM (vrM1 pl I t LL s) (pl t) (pl ((vrs H s.it).getD (vrN H s) 0)) kd (plI I s.it) else vrM1 pl I t LL s
theorem vrM1_len (pl : Int → Nat) (I : List ByteArray) (t : Int) (LL : List (List Ed)) (s : Sw) : (vrM1 pl I t LL s).length = LL.length := by
  unfold vrM1
  split
  · rfl
  · exact leadM_len _ _ _ _ _
theorem vrM1_le (pl : Int → Nat) (I : List ByteArray) (t : Int) {LL : List (List Ed)} {N : Nat} (h : RowsLe LL N) (s : Sw) : RowsLe (vrM1 pl I t LL s) (N + 1) := by
  unfold vrM1
  split
  · exact h.mono (by omega)
  · exact leadM_le h _ _ _ _
theorem vrM_len (pl : Int → Nat) (H : List Ac) (I : List ByteArray) (t : Int) (kd : Nat) (LL : List (List Ed)) (s : Sw) : (vrM pl H I t kd LL s).length = LL.length := by
  unfold vrM
  split
  · rfl
  · split
    · rw [leadM_len, vrM1_len]
    · exact vrM1_len _ _ _ _ _
theorem vrM_le (pl : Int → Nat) (H : List Ac) (I : List ByteArray) (t : Int) (kd : Nat) {LL : List (List Ed)} {N : Nat} (h : RowsLe LL N) (s : Sw) : RowsLe (vrM pl H I t kd LL s) (N + 2) := by
  unfold vrM
  split
  · exact h.mono (by omega)
  · split
    · exact leadM_le (vrM1_le pl I t h s) _ _ _ _
    · exact (vrM1_le pl I t h s).mono (by omega)
theorem vrMs_len (pl : Int → Nat) (H : List Ac) (I : List ByteArray) (t : Int) (kd : Nat) : ∀ (L : List Sw) (LL : List (List Ed)), (L.foldl (vrM pl H I t kd) LL).length = LL.length
  | [], LL => rfl
  | s :: L, LL => by rw [List.foldl_cons, vrMs_len pl H I t kd L, vrM_len]
theorem vrMs_le (pl : Int → Nat) (H : List Ac) (I : List ByteArray) (t : Int) (kd : Nat) : ∀ (L : List Sw) (LL : List (List Ed)) (N : Nat), RowsLe LL N → RowsLe (L.foldl (vrM pl H I t kd) LL) (N + 2 * L.length)
  | [], LL, N, h => by simpa using h
  | s :: L, LL, N, h => by
    rw [List.foldl_cons]
    refine (vrMs_le pl H I t kd L _ _ (vrM_le pl H I t kd h s)).mono ?_
    rw [List.length_cons]
    omega
/-- the edges of all that a transaction's scans saw -/
def scM (pl : Int → Nat) (H : List Ac) (I : List ByteArray) (t : Int) (LL : List (List Ed)) (L : List Ac) : List (List Ed) := L.foldl (fun LL a => a.sn.foldl (vrM pl H I t 4) LL) LL
theorem scM_len (pl : Int → Nat) (H : List Ac) (I : List ByteArray) (t : Int) : ∀ (L : List Ac) (LL : List (List Ed)), (scM pl H I t LL L).length = LL.length
  | [], LL => rfl
  | a :: L, LL => by
    have h := scM_len pl H I t L (a.sn.foldl (vrM pl H I t 4) LL)
    unfold scM at h ⊢
    rw [List.foldl_cons, h, vrMs_len]
/-- the edges of all that a transaction read -/
def rdM (pl : Int → Nat) (H : List Ac) (I : List ByteArray) (t : Int) (LL : List (List Ed)) : List (List Ed) := scM pl H I t ((rds H t).foldl (vrM pl H I t 3) LL) (scs H t)

end Go.Proofs.YtncfejndmlcidaaGreat
