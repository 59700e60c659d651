/- What Print tells of a table that may be: its parts, and how long they are. -/
import Derived.Lib.Join
import Derived.Test.YthbjheiogghjnaaGreatDoorGWRowV
namespace Go.Proofs.YthbjheiogghjnaaGreatDoor
set_option maxRecDepth 100000

theorem name_len63 {l : List UInt8} (h : nameB l = true) : l.length ≤ 63 := by
  unfold nameB at h
  split at h
  · cases h
  · simp only [Bool.and_eq_true, decide_eq_true_eq] at h
    exact h.1.1.1
theorem size_toList (s : ByteArray) : s.data.toList.length = s.size := Array.length_toList
theorem firstE_none {f : Nat → Int} : ∀ {n : Nat}, firstE f n = 0 → ∀ i, i < n → f i = 0
  | 0, _, i, hi => by omega
  | n + 1, h, i, hi => by
    unfold firstE at h
    by_cases h0 : firstE f n = 0
    · rw [if_pos h0] at h
      rcases Nat.lt_or_ge i n with h1 | h1
      · exact firstE_none h0 i h1
      · have e : i = n := by omega
        rw [e]
        exact h
    · rw [if_neg h0] at h
      exact absurd h h0
theorem apart_inP {n : Nat} {l : List Int} (h : apartB n l = true) : (∀ x ∈ l, 0 ≤ x ∧ x < n) ∧ l.length ≤ n := by
  unfold apartB at h
  simp only [Bool.and_eq_true, decide_eq_true_eq, List.all_eq_true] at h
  exact ⟨h.1, nodup_len n l h.1 h.2⟩
/-- what a table that may be keeps -/
structure TOk (t : Tb) : Prop where
  nm : t.nm.size ≤ 63
  c1 : 1 ≤ t.cs.length
  c2 : t.cs.length ≤ 64
  x2 : t.ix.length ≤ 16
  r2 : t.rf.length ≤ 16
  cn : ∀ c ∈ t.cs, c.nm.size ≤ 63 ∧ (1 ≤ c.kd ∧ c.kd ≤ 5) ∧ c.df.chk = 0
  key : (∀ x ∈ t.key, 0 ≤ x ∧ x < t.cs.length) ∧ t.key.length ≤ 64
  xs : ∀ x ∈ t.ix, x.nm.size ≤ 63 ∧ (∀ y ∈ x.cs, 0 ≤ y ∧ y < t.cs.length) ∧ x.cs.length ≤ 64
  rs : ∀ r ∈ t.rf, r.tb.size ≤ 63 ∧ (∀ y ∈ r.cs, 0 ≤ y ∧ y < t.cs.length) ∧ r.cs.length ≤ 64
theorem TOk.of {t : Tb} (h : checkS t = 0) : TOk t := by
  unfold checkS at h
  split at h
  next h1 =>
    split at h
    next h2 =>
      split at h
      next h3 =>
        split at h
        next h4 =>
          split at h
          next h5 =>
            unfold countsB at h2
            simp only [Bool.and_eq_true, decide_eq_true_eq] at h2
            obtain ⟨⟨⟨c1, c2⟩, x2⟩, r2⟩ := h2
            refine ⟨by rw [← size_toList]; exact name_len63 h1, c1, c2, x2, r2, fun c hc => ?_, ?_, fun x hx => ?_, fun r hr => ?_⟩
            · obtain ⟨i, hi, rfl⟩ := List.getElem_of_mem hc
              have e := firstE_none h3 i hi
              rw [colE_at hi] at e
              unfold colE1 at e
              split at e
              next e1 =>
                split at e
                next => cases e
                next =>
                  split at e
                  next e2 =>
                    unfold defB at e2
                    simp only [Bool.and_eq_true, decide_eq_true_eq] at e2
                    exact ⟨by rw [← size_toList]; exact name_len63 e1, e2.1, e2.2.1⟩
                  next => cases e
              next => cases e
            · unfold keyB at h4
              simp only [Bool.and_eq_true, decide_eq_true_eq] at h4
              have := apart_inP h4.1.2
              exact ⟨this.1, by omega⟩
            · obtain ⟨i, hi, rfl⟩ := List.getElem_of_mem hx
              have e := firstE_none h5 i hi
              rw [ixE_at hi] at e
              unfold ixE1 at e
              split at e
              next e1 =>
                split at e
                next => cases e
                next =>
                  split at e
                  next e2 =>
                    unfold listB at e2
                    simp only [Bool.and_eq_true, decide_eq_true_eq] at e2
                    have := apart_inP e2.2
                    exact ⟨by rw [← size_toList]; exact name_len63 e1, this.1, by omega⟩
                  next => cases e
              next => cases e
            · obtain ⟨i, hi, rfl⟩ := List.getElem_of_mem hr
              have e := firstE_none h i hi
              rw [rfE_at hi] at e
              unfold rfE1 at e
              split at e
              next e1 =>
                split at e
                next e2 =>
                  unfold listB at e2
                  simp only [Bool.and_eq_true, decide_eq_true_eq] at e2
                  have := apart_inP e2.2
                  exact ⟨by rw [← size_toList]; exact name_len63 e1, this.1, by omega⟩
                next => cases e
              next => cases e
          next h5 => exact absurd h h5
        next => cases h
      next h3 => exact absurd h h3
    next => cases h
  next => cases h

/-- texts with something between them -/
def jn (sep : ByteArray) (L : List ByteArray) : ByteArray := ⟨(Lib.join (L.map (·.data.toList)) sep.data.toList).toArray⟩
theorem ba_ext {a b : ByteArray} (h : a.data.toList = b.data.toList) : a = b := by
  obtain ⟨⟨a⟩⟩ := a
  obtain ⟨⟨b⟩⟩ := b
  simp only at h
  rw [h]
theorem ba_app (a b : ByteArray) : (a ++ b).data.toList = a.data.toList ++ b.data.toList := by
  rw [ByteArray.data_append, Array.toList_append]
theorem jn_nil (sep : ByteArray) : jn sep [] = ⟨#[]⟩ := rfl
theorem join_snoc (x sep : List UInt8) : ∀ (l : List (List UInt8)), l ≠ [] → Lib.join (l ++ [x]) sep = Lib.join l sep ++ sep ++ x
  | [], h => absurd rfl h
  | y :: l, _ => by
    rw [List.cons_append, Lib.join_cons, Lib.join_cons]
    unfold Lib.joinTail
    rw [List.map_append, List.flatten_append]
    simp
theorem jn_one (sep x : ByteArray) : jn sep [x] = x := by
  apply ba_ext
  unfold jn
  rw [List.map_singleton, Lib.join_one]
theorem jn_snoc (sep x : ByteArray) (L : List ByteArray) (h : L ≠ []) : jn sep (L ++ [x]) = jn sep L ++ sep ++ x := by
  apply ba_ext
  rw [ba_app, ba_app]
  unfold jn
  rw [List.map_append, List.map_singleton, join_snoc _ _ _ (by simpa using h)]
theorem snoc_indP {α : Type} {P : List α → Prop} (h0 : P []) (h1 : ∀ l x, P l → P (l ++ [x])) (l : List α) : P l := by
  have h : ∀ l : List α, P l.reverse := by
    intro l
    induction l with
    | nil => exact h0
    | cons x l ih => rw [List.reverse_cons]; exact h1 _ _ ih
  rw [← List.reverse_reverse l]
  exact h _
theorem jn_size (sep : ByteArray) (m : Nat) (L : List ByteArray) : (∀ x ∈ L, x.size ≤ m) → (jn sep L).size ≤ L.length * (m + sep.size) := by
  refine snoc_indP (P := fun L => (∀ x ∈ L, x.size ≤ m) → (jn sep L).size ≤ L.length * (m + sep.size)) ?_ ?_ L
  · intro _
    exact Nat.zero_le _
  · intro L x ih h
    have h1 := ih (fun y hy => h y (List.mem_append_left _ hy))
    have h2 := h x (by simp)
    by_cases h0 : L = []
    · subst h0
      rw [List.nil_append, jn_one]
      simp
      omega
    · rw [jn_snoc _ _ _ h0, ByteArray.size_append, ByteArray.size_append, List.length_append, List.length_singleton, Nat.add_mul]
      omega

/-- a column's name -/
def nmAt (t : Tb) (x : Int) : ByteArray := match t.cs[x.toNat]? with
  | some c => c.nm
  | none => ⟨#[]⟩
theorem nmAt_in {t : Tb} {x : Int} (h : x.toNat < t.cs.length) : nmAt t x = t.cs[x.toNat].nm := by
  unfold nmAt
  rw [List.getElem?_eq_getElem h]
theorem nmAt_size {t : Tb} (h : TOk t) (x : Int) : (nmAt t x).size ≤ 63 := by
  unfold nmAt
  split
  next c hc => exact (h.cn c (List.mem_of_getElem? hc)).1
  next => exact Nat.zero_le _
/-- columns in brackets -/
def lstS (t : Tb) (l : List Int) : ByteArray := (⟨#[40]⟩ : ByteArray) ++ jn ⟨#[44, 32]⟩ (l.map (nmAt t)) ++ ⟨#[41]⟩
theorem lstS_size {t : Tb} (h : TOk t) {l : List Int} (hl : l.length ≤ 64) : (lstS t l).size ≤ 4200 := by
  unfold lstS
  rw [ByteArray.size_append, ByteArray.size_append]
  have h1 := jn_size ⟨#[44, 32]⟩ 63 (l.map (nmAt t)) (fun x hx => by
    obtain ⟨y, _, rfl⟩ := List.mem_map.1 hx
    exact nmAt_size h y)
  rw [List.length_map] at h1
  have h2 : (⟨#[40]⟩ : ByteArray).size = 1 := rfl
  have h3 : (⟨#[41]⟩ : ByteArray).size = 1 := rfl
  have h4 : (⟨#[44, 32]⟩ : ByteArray).size = 2 := rfl
  rw [h4] at h1
  rw [h2, h3]
  omega
/-- the kinds' words -/
def kwB (k : Int) : ByteArray := if k = 1 then ⟨#[98, 111, 111, 108]⟩ else if k = 2 then ⟨#[105, 110, 116]⟩ else if k = 3 then ⟨#[102, 108, 111, 97, 116]⟩ else if k = 4 then ⟨#[116, 101, 120, 116]⟩ else ⟨#[98, 121, 116, 101, 115]⟩
theorem kwB_size (k : Int) : (kwB k).size ≤ 5 := by
  unfold kwB
  split
  · decide
  · split
    · decide
    · split
      · decide
      · split <;> decide
def colS0 (c : Cl) : ByteArray := if c.nl then c.nm ++ ⟨#[32]⟩ ++ kwB c.kd else c.nm ++ ⟨#[32]⟩ ++ kwB c.kd ++ ⟨#[32, 110, 111, 116, 32, 110, 117, 108, 108]⟩
/-- a column's text; D: the texts of values -/
def colS (D : Vl → ByteArray) (c : Cl) : ByteArray := if c.df.k = 0 then colS0 c else colS0 c ++ ⟨#[32, 100, 101, 102, 97, 117, 108, 116, 32]⟩ ++ D c.df
theorem colS0_size {c : Cl} (h : c.nm.size ≤ 63) : (colS0 c).size ≤ 80 := by
  have := kwB_size c.kd
  have h2 : (⟨#[32]⟩ : ByteArray).size = 1 := rfl
  have h3 : (⟨#[32, 110, 111, 116, 32, 110, 117, 108, 108]⟩ : ByteArray).size = 9 := rfl
  unfold colS0
  split
  · rw [ByteArray.size_append, ByteArray.size_append, h2]
    omega
  · rw [ByteArray.size_append, ByteArray.size_append, ByteArray.size_append, h2, h3]
    omega
theorem colS_size {D : Vl → ByteArray} {c : Cl} (h : c.nm.size ≤ 63) (hD : (D c.df).size ≤ 200000) : (colS D c).size ≤ 200200 := by
  have h1 := colS0_size h
  have h2 : (⟨#[32, 100, 101, 102, 97, 117, 108, 116, 32]⟩ : ByteArray).size = 9 := rfl
  unfold colS
  split
  · omega
  · rw [ByteArray.size_append, ByteArray.size_append, h2]
    omega
def pkS (t : Tb) : ByteArray := (⟨#[112, 114, 105, 109, 97, 114, 121, 32, 107, 101, 121, 32]⟩ : ByteArray) ++ lstS t t.key
def ixS0 (t : Tb) (x : Ix) : ByteArray := (⟨#[105, 110, 100, 101, 120, 32]⟩ : ByteArray) ++ x.nm ++ ⟨#[32]⟩ ++ lstS t x.cs
def ixS (t : Tb) (x : Ix) : ByteArray := if x.un then (⟨#[117, 110, 105, 113, 117, 101, 32]⟩ : ByteArray) ++ ixS0 t x else ixS0 t x
def rfS (t : Tb) (r : Rf) : ByteArray := (⟨#[102, 111, 114, 101, 105, 103, 110, 32, 107, 101, 121, 32]⟩ : ByteArray) ++ lstS t r.cs ++ ⟨#[32, 114, 101, 102, 101, 114, 101, 110, 99, 101, 115, 32]⟩ ++ r.tb
/-- the parts of a table's text -/
def prtL (D : Vl → ByteArray) (t : Tb) : List ByteArray := t.cs.map (colS D) ++ [pkS t] ++ t.ix.map (ixS t) ++ t.rf.map (rfS t)
theorem pkS_size {t : Tb} (h : TOk t) : (pkS t).size ≤ 4300 := by
  have h1 := lstS_size h h.key.2
  have h2 : (⟨#[112, 114, 105, 109, 97, 114, 121, 32, 107, 101, 121, 32]⟩ : ByteArray).size = 12 := rfl
  unfold pkS
  rw [ByteArray.size_append, h2]
  omega
theorem ixS0_size {t : Tb} (h : TOk t) {x : Ix} (hx : x ∈ t.ix) : (ixS0 t x).size ≤ 4300 := by
  obtain ⟨a, _, b⟩ := h.xs x hx
  have h1 := lstS_size h b
  have h2 : (⟨#[105, 110, 100, 101, 120, 32]⟩ : ByteArray).size = 6 := rfl
  have h3 : (⟨#[32]⟩ : ByteArray).size = 1 := rfl
  unfold ixS0
  rw [ByteArray.size_append, ByteArray.size_append, ByteArray.size_append, h2, h3]
  omega
theorem ixS_size {t : Tb} (h : TOk t) {x : Ix} (hx : x ∈ t.ix) : (ixS t x).size ≤ 4400 := by
  have h1 := ixS0_size h hx
  have h2 : (⟨#[117, 110, 105, 113, 117, 101, 32]⟩ : ByteArray).size = 7 := rfl
  unfold ixS
  split
  · rw [ByteArray.size_append, h2]
    omega
  · omega
theorem rfS_size {t : Tb} (h : TOk t) {r : Rf} (hr : r ∈ t.rf) : (rfS t r).size ≤ 4400 := by
  obtain ⟨a, _, b⟩ := h.rs r hr
  have h1 := lstS_size h b
  have h2 : (⟨#[102, 111, 114, 101, 105, 103, 110, 32, 107, 101, 121, 32]⟩ : ByteArray).size = 12 := rfl
  have h3 : (⟨#[32, 114, 101, 102, 101, 114, 101, 110, 99, 101, 115, 32]⟩ : ByteArray).size = 12 := rfl
  unfold rfS
  rw [ByteArray.size_append, ByteArray.size_append, ByteArray.size_append, h2, h3]
  omega
theorem prtL_size {D : Vl → ByteArray} {t : Tb} (h : TOk t) (hD : ∀ c ∈ t.cs, (D c.df).size ≤ 200000) : ∀ x ∈ prtL D t, x.size ≤ 200200 := by
  intro x hx
  unfold prtL at hx
  rcases List.mem_append.1 hx with hx | hx
  · rcases List.mem_append.1 hx with hx | hx
    · rcases List.mem_append.1 hx with hx | hx
      · obtain ⟨c, hc, rfl⟩ := List.mem_map.1 hx
        exact colS_size (h.cn c hc).1 (hD c hc)
      · rw [List.mem_singleton] at hx
        subst hx
        have := pkS_size h
        omega
    · obtain ⟨c, hc, rfl⟩ := List.mem_map.1 hx
      have := ixS_size h hc
      omega
  · obtain ⟨c, hc, rfl⟩ := List.mem_map.1 hx
    have := rfS_size h hc
    omega
theorem prtL_len {D : Vl → ByteArray} {t : Tb} : (prtL D t).length = t.cs.length + 1 + t.ix.length + t.rf.length := by
  unfold prtL
  simp only [List.length_append, List.length_map, List.length_singleton]
/-- a table's text -/
def prtS (D : Vl → ByteArray) (t : Tb) : ByteArray := (⟨#[99, 114, 101, 97, 116, 101, 32, 116, 97, 98, 108, 101, 32]⟩ : ByteArray) ++ t.nm ++ ⟨#[32, 40, 10, 32, 32]⟩ ++ jn ⟨#[44, 10, 32, 32]⟩ (prtL D t) ++ ⟨#[10, 41, 10]⟩
/-- a part, as the document lays it where another one follows -/
def pcB (x : ByteArray) : List UInt8 := [32, 32] ++ x.data.toList ++ [44, 10]
theorem pieces (L : List ByteArray) : ∀ x : ByteArray, [32, 32] ++ (jn ⟨#[44, 10, 32, 32]⟩ (L ++ [x])).data.toList = L.flatMap pcB ++ [32, 32] ++ x.data.toList := by
  refine snoc_indP (P := fun L => ∀ x : ByteArray, [32, 32] ++ (jn ⟨#[44, 10, 32, 32]⟩ (L ++ [x])).data.toList = L.flatMap pcB ++ [32, 32] ++ x.data.toList) ?_ ?_ L
  · intro x
    rw [List.nil_append, jn_one]
    rfl
  · intro L y ih x
    rw [jn_snoc _ _ _ (by simp), ba_app, ba_app, List.flatMap_append]
    have h := ih y
    have e : (⟨#[44, 10, 32, 32]⟩ : ByteArray).data.toList = [44, 10] ++ [32, 32] := rfl
    rw [e, ← List.append_assoc, ← List.append_assoc, h]
    simp [pcB]

end Go.Proofs.YthbjheiogghjnaaGreatDoor
