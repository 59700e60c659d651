/- What Apply answers. Apply as the document tells it: the columns are asked at the end. What a change of a row is, as bytes. -/
import Derived.Test.YtfknmblobcjapaaDoorGWStp
import Derived.Test.YtfknmblobcjapaaDoorGWAppZ
import Derived.Test.YtfknmblobcjapaaDoorGWRvs
namespace Go.Proofs.YtfknmblobcjapaaDoor
open Go.RowKit
set_option maxRecDepth 100000

/-- A ROW TURNED BY A CHANGE, one column behind the other. -/
def applyA (cs : List Cl) (l : List Vl) : Nat → List Vl → Nat → ByteArray → Option (List Vl)
  | 0, acc, _, s => if s.size = 0 then some acc else none
  | f + 1, acc, next, s => if s.size = 0 then some acc else match stepA cs next s with
    | none => none
    | some p => if sameV (l.getD p.1 zV) p.2.1 then none else applyA cs l f (acc.set p.1 p.2.1) (p.1 + 1) (s.extract p.2.2 s.size)
/-- what Apply tells: a row, and why not -/
def appR (t : Tb) (l : List Vl) (s : ByteArray) : Option (List Vl) × Int := if admS t l = 0 then (if s.size ≤ 65536 then (match applyA t.cs l s.size l 0 s with
    | none => (none, 41)
    | some m => (some m, 0)) else (none, 3)) else (none, admS t l)
theorem stepA_some {cs : List Cl} {next : Nat} {s : ByteArray} {i : Nat} {v : Vl} {k : Nat} (hkd : ∀ c ∈ cs, 1 ≤ c.kd ∧ c.kd ≤ 5) (hs : s.size ≤ 65536) (h : stepA cs next s = some (i, v, k)) : next ≤ i ∧ i < cs.length ∧ 1 ≤ k ∧ k ≤ s.size := by
  unfold stepA at h
  have hle := rdV_le s
  split at h
  · cases h
  · rename_i h1
    have h1' : ¬ (rdV s).2 = 0 ∧ ¬ cs.length - next ≤ (rdV s).1 := by omega
    split at h
    · cases h
    · rename_i p hp
      injection h with h
      injection h with e1 h
      injection h with e2 e3
      have hc : next + (rdV s).1 < cs.length := by omega
      obtain ⟨_, _, h3⟩ := rowR_one (L := p.1) (k := p.2) (by rw [List.getD_eq_getElem?_getD, List.getElem?_eq_getElem hc]; exact hkd _ (List.getElem_mem _)) (by rw [ByteArray.size_extract]; omega) hp
      rw [ByteArray.size_extract] at h3
      omega
theorem admS_cols {t : Tb} {l : List Vl} (h : admS t l = 0) : l.length = t.cs.length ∧ 1 ≤ t.cs.length ∧ t.cs.length ≤ 64 ∧ ∀ c ∈ t.cs, 1 ≤ c.kd ∧ c.kd ≤ 5 := by
  unfold admS at h
  split at h
  · rename_i hc
    split at h
    · rename_i hl
      exact ⟨hl, (checkS_counts t hc).1, (checkS_counts t hc).2, checkS_kd hc⟩
    · cases h
  · rename_i hc
    exact absurd h hc
theorem own4_base {w : World} {B B' : Nat} {v : Value} {L : List Vl} (h : OwnV w B v L) (hB : B' ≤ B) : OwnV w B' v L := by
  have h' : w.ownsRow B 44 4 v L.length (vcells L) := h
  refine (show w.ownsRow B' 44 4 v L.length (vcells L) from ⟨h'.1, ?_⟩)
  rcases h'.2 with h | ⟨g, cap, cur, h1, h2, h3⟩
  · exact .inl h
  · exact .inr ⟨g, cap, cur, h1, Nat.le_trans hB h2, h3⟩
/-- a text's length -/
def strN : Value → Nat
  | .string s => s.size
  | _ => 0
/-- how Apply ends -/
def AppP (r : Option (List Vl) × Int) (w : World) (e : Ending) (w' : World) : Prop := (∃ (v : Value), e = .returned (.tuple #[v, .int .i64 r.2]) ∧ ((∃ L, r.1 = some L ∧ OwnV w' w.heap.size v L) ∨ (r.1 = none ∧ v = .slice none 0 0))) ∧ Below w.heap.size w w'
theorem AppP.no {r : Option (List Vl) × Int} {w w' : World} {e : Ending} {x : Int} (h : r = (none, x)) (he : e = .returned (.tuple #[.slice none 0 0, .int .i64 x])) (hw : Below w.heap.size w w') : AppP r w e w' := by
  subst h
  exact ⟨⟨_, he, .inr ⟨rfl, rfl⟩⟩, hw⟩
theorem AppP.yes {r : Option (List Vl) × Int} {w w' : World} {e : Ending} {L : List Vl} {v : Value} (h : r = (some L, 0)) (he : e = .returned (.tuple #[v, .int .i64 0])) (ho : OwnV w' w.heap.size v L) (hw : Below w.heap.size w w') : AppP r w e w' := by
  subst h
  exact ⟨⟨_, he, .inl ⟨L, rfl, ho⟩⟩, hw⟩
theorem bl_drewN {B : Nat} {w X : World} (h : Below B w X) (n : Nat) : Below B w (X.drewN n) := ⟨h.os, h.tape, h.output, h.size, h.block⟩
theorem vbox_cells {X : World} {g : Nat} {v0 v1 v2 v3 : Value} {T : TypeId} (h : X.heap[g]? = some (.cells #[v0, v1, v2, v3] T)) : X.cell? ⟨g, 0, none⟩ = some v0 ∧ X.cell? ⟨g, 1, none⟩ = some v1 ∧ X.cell? ⟨g, 2, none⟩ = some v2 ∧ X.cell? ⟨g, 3, none⟩ = some v3 := by
  refine ⟨?_, ?_, ?_, ?_⟩ <;> simp [World.cell?, h]
theorem BoxT.put {w : World} {b g o : Nat} {t : Tb} {a : TabP} {v : Value} (h : BoxT w b t a) (hne : b ≠ g) : BoxT (w.setCell ⟨g, o, none⟩ v) b t a := by
  have k : ∀ {j : Nat} {u : Option Value}, w.cell? ⟨b, j, none⟩ = u → (w.setCell ⟨g, o, none⟩ v).cell? ⟨b, j, none⟩ = u := fun {j u} hc => (World.cell?_setCell_other _ _ _ _ (by intro h; injection h with h _; exact hne h.symm)).trans hc
  exact ⟨by simpa using h.hg, k h.c0, k h.c1, k h.c2, k h.c3, k h.c4⟩
/-- what is known while Apply runs -/
structure Ap (w : World) (t : Tb) (a : TabP) (g n cap : Nat) (acc : List Vl) (X : World) : Prop where
  bl : Below w.heap.size w X
  box : BoxT X w.heap.size t a
  own : OwnV X (w.heap.size + 1) (.slice (some ⟨g, 0, none⟩) n cap) acc
theorem Ap.on {w X Y : World} {t : Tb} {a : TabP} {g n cap : Nat} {acc : List Vl} (h : Ap w t a g n cap acc X) (hb : Below X.heap.size X Y) : Ap w t a g n cap acc Y := ⟨h.bl.trans (hb.mono h.bl.size), h.box.on hb h.box.hg, h.own.kept hb⟩
theorem Ap.put {w X : World} {t : Tb} {a : TabP} {g n cap : Nat} {acc : List Vl} (h : Ap w t a g n cap acc X) (hn : acc.length = n) (i : Nat) (hi : i < acc.length) (r : Vl) :
    Ap w t a g n cap (acc.set i r) ((((X.setCell ⟨g, i * 4, none⟩ (.int .i64 r.k)).setCell ⟨g, i * 4 + 1, none⟩ (.int .i64 r.n)).setCell ⟨g, i * 4 + 2, none⟩ (.float .f64 r.f)).setCell ⟨g, i * 4 + 3, none⟩ (.string r.s)) := by
  have hg : w.heap.size + 1 ≤ g := by
    have := World.ownsRow.lt h.own g rfl
    exact this.1
  have hB : w.heap.size ≤ g := by omega
  refine ⟨(((h.bl.setCell hB _).setCell hB _).setCell hB _).setCell hB _, ?_, h.own.set hn i hi r⟩
  exact (((h.box.put (by omega)).put (by omega)).put (by omega)).put (by omega)

end Go.Proofs.YtfknmblobcjapaaDoor

namespace Go.Proofs.YtfknmblobcjapaaDoor
open Go.RowKit
set_option maxRecDepth 100000

theorem rowK_one (s : ByteArray) (kd : Int) : rowK s [kd] 0 1 = match decV kd (pairB s 0) (s.extract 1 s.size) with
    | none => none
    | some p => some ([p.1], 1 + p.2) := by
  unfold rowK
  cases decV kd (pairB s 0) (s.extract 1 s.size) with
  | none => rfl
  | some p => rfl
theorem rowA_one (s : ByteArray) (c : Cl) : rowA s [c] 0 1 = match decA c (pairB s 0) (s.extract 1 s.size) with
    | none => none
    | some p => some ([p.1], 1 + p.2) := by
  unfold rowA
  cases decA c (pairB s 0) (s.extract 1 s.size) with
  | none => rfl
  | some p => rfl
/-- what a change tells next, whatever the column admits -/
def stepK (cs : List Cl) (next : Nat) (s : ByteArray) : Option (Nat × Vl × Nat) :=
  if (rdV s).2 = 0 ∨ cs.length - next ≤ (rdV s).1 then none else
  match rowKR [(cs.getD (next + (rdV s).1) zC).kd] (s.extract (rdV s).2 s.size) with
  | none => none
  | some p => some (next + (rdV s).1, p.1.headD zV, (rdV s).2 + p.2)
theorem rowR_K (c : Cl) (s : ByteArray) : rowR [c] s = match rowKR [c.kd] s with
    | none => none
    | some p => if admE c (p.1.headD zV) = 0 then some p else none := by
  unfold rowR rowKR
  have e1 : ([c].length + 3) / 4 = 1 := by simp
  have e2 : ([c.kd].length + 3) / 4 = 1 := by simp
  have e3 : [c].length = 1 := rfl
  have e4 : [c.kd].length = 1 := rfl
  rw [e1, e2, e3, e4, rowA_one, rowK_one]
  by_cases h1 : s.size < 1
  · rw [if_pos h1, if_pos h1]
  · rw [if_neg h1, if_neg h1]
    cases spB s 1 (4 * 1) with
    | false => rfl
    | true =>
      simp only [if_true]
      unfold decA
      cases decV c.kd (pairB s 0) (s.extract 1 s.size) with
      | none => rfl
      | some p =>
        by_cases ha : admE c p.1 = 0
        · simp [ha]
        · simp [ha]
theorem step_rel (cs : List Cl) (next : Nat) (s : ByteArray) : stepA cs next s = match stepK cs next s with
    | none => none
    | some p => if admE (cs.getD p.1 zC) p.2.1 = 0 then some p else none := by
  unfold stepA stepK
  split
  · rfl
  · rw [rowR_K]
    cases rowKR [(cs.getD (next + (rdV s).1) zC).kd] (s.extract (rdV s).2 s.size) with
    | none => rfl
    | some p =>
      dsimp only
      by_cases ha : admE (cs.getD (next + (rdV s).1) zC) (p.1.headD zV) = 0
      · rw [if_pos ha, if_pos ha]
      · rw [if_neg ha, if_neg ha]
/-- a row turned by a change, whatever the columns admit -/
def applyK (cs : List Cl) (l : List Vl) : Nat → List Vl → Nat → ByteArray → Option (List Vl)
  | 0, acc, _, s => if s.size = 0 then some acc else none
  | f + 1, acc, next, s => if s.size = 0 then some acc else match stepK cs next s with
    | none => none
    | some p => if sameV (l.getD p.1 zV) p.2.1 then none else applyK cs l f (acc.set p.1 p.2.1) (p.1 + 1) (s.extract p.2.2 s.size)
/-- the document's Apply -/
def rappR (t : Tb) (l : List Vl) (s : ByteArray) : Option (List Vl) × Int := if admS t l = 0 then (if s.size ≤ 65536 then (match applyK t.cs l s.size l 0 s with
    | none => (none, 41)
    | some m => if admS t m = 0 then (some m, 0) else (none, 41)) else (none, 3)) else (none, admS t l)
theorem stepK_bounds {cs : List Cl} {next : Nat} {s : ByteArray} {i : Nat} {v : Vl} {k : Nat} (h : stepK cs next s = some (i, v, k)) : next ≤ i ∧ i < cs.length := by
  unfold stepK at h
  split at h
  · cases h
  · rename_i h1
    split at h
    · cases h
    · injection h with h
      injection h with e1 h
      omega
theorem applyK_low (cs : List Cl) (l : List Vl) : ∀ (f : Nat) (acc : List Vl) (next : Nat) (s : ByteArray) (M : List Vl), applyK cs l f acc next s = some M → M.length = acc.length ∧ ∀ j, j < next → M[j]? = acc[j]?
  | 0, acc, next, s, M, h => by
    unfold applyK at h
    split at h
    · injection h with h; subst h; exact ⟨rfl, fun _ _ => rfl⟩
    · cases h
  | f + 1, acc, next, s, M, h => by
    unfold applyK at h
    split at h
    · injection h with h; subst h; exact ⟨rfl, fun _ _ => rfl⟩
    · split at h
      · cases h
      · rename_i p hp
        split at h
        · cases h
        · obtain ⟨h1, h2⟩ := applyK_low cs l f _ _ _ M h
          have hb := stepK_bounds (i := p.1) (v := p.2.1) (k := p.2.2) hp
          refine ⟨by rw [h1, List.length_set], fun j hj => ?_⟩
          rw [h2 j (by omega), List.getElem?_set_ne (by omega)]
/-- columns from one on admit what a row has there -/
def adFrom (cs : List Cl) (M : List Vl) (next : Nat) : Prop := ∀ j, next ≤ j → j < cs.length → admsE cs M j = 0
theorem admsE_eq {cs : List Cl} {M N : List Vl} {j : Nat} (h : M[j]? = N[j]?) : admsE cs M j = admsE cs N j := by
  unfold admsE
  rw [h]
open Classical in
theorem apply_rel (cs : List Cl) (l : List Vl) : ∀ (f : Nat) (acc : List Vl) (next : Nat) (s : ByteArray), acc.length = cs.length → adFrom cs acc next → applyA cs l f acc next s = match applyK cs l f acc next s with
    | none => none
    | some M => if adFrom cs M next then some M else none
  | 0, acc, next, s, _, ha => by
    unfold applyA applyK
    split
    · simp [ha]
    · rfl
  | f + 1, acc, next, s, hl, ha => by
    unfold applyA applyK
    split
    · simp [ha]
    · rw [step_rel]
      cases hK : stepK cs next s with
      | none => rfl
      | some p =>
        obtain ⟨i, v, k⟩ := p
        have hb := stepK_bounds hK
        have hil : i < acc.length := by omega
        have hci : cs.getD i zC = cs[i] := by rw [List.getD_eq_getElem?_getD, List.getElem?_eq_getElem hb.2]; rfl
        have hset : admsE cs (acc.set i v) i = admE cs[i] v := by
          unfold admsE
          rw [List.getElem?_eq_getElem hb.2, List.getElem?_set_self hil]
        dsimp only
        rw [hci]
        by_cases hsv : sameV (l.getD i zV) v = true
        · rw [if_pos hsv]
          by_cases had : admE cs[i] v = 0
          · rw [if_pos had]
            dsimp only
            rw [if_pos hsv]
          · rw [if_neg had]
        · rw [if_neg hsv]
          by_cases had : admE cs[i] v = 0
          · rw [if_pos had]
            dsimp only
            rw [if_neg hsv]
            have ha2 : adFrom cs (acc.set i v) (i + 1) := fun j h1 h2 => by rw [admsE_eq (N := acc) (List.getElem?_set_ne (by omega))]; exact ha j (by omega) h2
            rw [apply_rel cs l f (acc.set i v) (i + 1) (s.extract k s.size) (by rw [List.length_set]; exact hl) ha2]
            cases hM : applyK cs l f (acc.set i v) (i + 1) (s.extract k s.size) with
            | none => rfl
            | some M =>
              have hlow := (applyK_low cs l f _ _ _ M hM).2
              have hiff : adFrom cs M (i + 1) ↔ adFrom cs M next := by
                constructor
                · intro h j h1 h2
                  by_cases hj : i + 1 ≤ j
                  · exact h j hj h2
                  · rw [admsE_eq (hlow j (by omega))]
                    by_cases hji : j = i
                    · subst hji; rw [hset]; exact had
                    · rw [admsE_eq (N := acc) (List.getElem?_set_ne (by omega))]; exact ha j h1 h2
                · intro h j h1 h2
                  exact h j (by omega) h2
              dsimp only
              by_cases h3 : adFrom cs M next
              · rw [if_pos h3, if_pos (hiff.2 h3)]
              · rw [if_neg h3, if_neg (fun h => h3 (hiff.1 h))]
          · rw [if_neg had]
            dsimp only
            cases hM : applyK cs l f (acc.set i v) (i + 1) (s.extract k s.size) with
            | none => rfl
            | some M =>
              have hlow := (applyK_low cs l f _ _ _ M hM).2
              have hno : ¬ adFrom cs M next := fun h => had (by
                have := h i hb.1 hb.2
                rw [admsE_eq (hlow i (by omega)), hset] at this
                exact this)
              dsimp only
              rw [if_neg hno]
theorem app_eq (t : Tb) (l : List Vl) (s : ByteArray) : appR t l s = rappR t l s := by
  unfold appR rappR
  by_cases h1 : admS t l = 0
  · rw [if_pos h1, if_pos h1]
    by_cases h2 : s.size ≤ 65536
    · rw [if_pos h2, if_pos h2]
      have hc : checkS t = 0 := by
        unfold admS at h1
        split at h1
        · assumption
        · exact h1
      obtain ⟨hl, _⟩ := admS_cols h1
      have hA : adFrom t.cs l 0 := fun j _ hj => (adAll_iff t.cs l hl).1 ((adm_iff hc hl).1 h1) j hj
      rw [apply_rel t.cs l s.size l 0 s hl hA]
      cases hM : applyK t.cs l s.size l 0 s with
      | none => rfl
      | some M =>
        have hml : M.length = t.cs.length := ((applyK_low t.cs l _ _ _ _ M hM).1).trans hl
        have hiff : adFrom t.cs M 0 ↔ admS t M = 0 := by
          rw [adm_iff hc hml, adAll_iff t.cs M hml]
          exact ⟨fun h i hi => h i (Nat.zero_le _) hi, fun h i _ hi => h i hi⟩
        dsimp only
        by_cases h3 : admS t M = 0
        · rw [if_pos (hiff.2 h3), if_pos h3]
        · rw [if_neg (fun h => h3 (hiff.1 h)), if_neg h3]
    · rw [if_neg h2, if_neg h2]
  · rw [if_neg h1, if_neg h1]

end Go.Proofs.YtfknmblobcjapaaDoor

namespace Go.Proofs.YtfknmblobcjapaaDoor
open Go.RowKit
set_option maxRecDepth 100000

/-- one column of a change -/
def stepC (L M : List Vl) (j : Nat) (s : List UInt8 × Nat) : List UInt8 × Nat :=
  match L[j]?, M[j]? with
  | some a, some b => if sameV a b then s else (s.1 ++ varB (j - s.2) ++ rowB [b], j + 1)
  | _, _ => s
/-- the first columns of a change: its bytes, and the column behind the last one that it tells -/
def chgS (L M : List Vl) : Nat → List UInt8 × Nat
  | 0 => ([], 0)
  | j + 1 => stepC L M j (chgS L M j)
theorem chgS_same {L M : List Vl} {j : Nat} (h1 : j < L.length) (h2 : j < M.length) (h : sameV L[j] M[j] = true) : chgS L M (j + 1) = chgS L M j := by
  show stepC L M j (chgS L M j) = _
  unfold stepC
  rw [List.getElem?_eq_getElem h1, List.getElem?_eq_getElem h2]
  simp [h]
theorem chgS_else {L M : List Vl} {j : Nat} (h1 : j < L.length) (h2 : j < M.length) (h : sameV L[j] M[j] = false) : chgS L M (j + 1) = ((chgS L M j).1 ++ varB (j - (chgS L M j).2) ++ rowB [M[j]], j + 1) := by
  show stepC L M j (chgS L M j) = _
  unfold stepC
  rw [List.getElem?_eq_getElem h1, List.getElem?_eq_getElem h2]
  simp [h]
theorem chgS_le (L M : List Vl) : ∀ j, (chgS L M j).2 ≤ j
  | 0 => Nat.le_refl _
  | j + 1 => by
    have ih := chgS_le L M j
    show (stepC L M j (chgS L M j)).2 ≤ _
    unfold stepC
    split
    · split
      · omega
      · exact Nat.le_refl _
    · omega
theorem row1_len {b : Vl} (h : b.s.size ≤ 65536) : (rowB [b]).length ≤ 65547 := by
  have := flat_len [b] (fun v hv => by rw [List.mem_singleton.1 hv]; exact h)
  unfold rowB
  rw [List.length_append, packK_len]
  simp only [List.length_singleton] at this ⊢
  omega
theorem chgS_len {L M : List Vl} (h : ∀ v ∈ M, v.s.size ≤ 65536) : ∀ j, (chgS L M j).1.length ≤ j * 65557
  | 0 => Nat.zero_le _
  | j + 1 => by
    have ih := chgS_len (L := L) h j
    show (stepC L M j (chgS L M j)).1.length ≤ (j + 1) * 65557
    rw [Nat.succ_mul j 65557]
    generalize j * 65557 = q at ih ⊢
    unfold stepC
    split
    · rename_i a b _ hb
      split
      · omega
      · have h1 := varB_len (j - (chgS L M j).2)
        have h2 := row1_len (h b (List.mem_of_getElem? hb))
        simp only [List.length_append]
        omega
    · omega
theorem chgS_up (L M : List Vl) (j : Nat) : (chgS L M j).1.length ≤ (chgS L M (j + 1)).1.length := by
  show _ ≤ (stepC L M j (chgS L M j)).1.length
  unfold stepC
  split
  · split
    · omega
    · simp only [List.length_append]
      omega
  · omega
theorem chgS_mono (L M : List Vl) (j : Nat) : ∀ d, (chgS L M j).1.length ≤ (chgS L M (j + d)).1.length
  | 0 => Nat.le_refl _
  | d + 1 => Nat.le_trans (chgS_mono L M j d) (chgS_up L M (j + d))
/-- what Change answers -/
def chgR (t : Tb) (L M : List Vl) : List UInt8 × Int :=
  if admS t L = 0 then (if admS t M = 0 then (if (chgS L M M.length).1.length ≤ 65536 then ((chgS L M M.length).1, 0) else ([], 3)) else ([], admS t M)) else ([], admS t L)
theorem admS_len {t : Tb} {l : List Vl} (h : admS t l = 0) : l.length = t.cs.length := by
  unfold admS at h
  by_cases hc : checkS t = 0
  · rw [if_pos hc] at h
    by_cases hl : l.length = t.cs.length
    · exact hl
    · rw [if_neg hl] at h
      omega
  · rw [if_neg hc] at h
    exact absurd h hc
/-- the part of a row that one column is -/
theorem slice_one (b o n c j : Nat) (w : World) (h1 : j < n) (h2 : n ≤ c) :
    (Instr.slice 28 (.slice (some ⟨b, o, none⟩) n c) (some (.int .i64 (j : Int))) (some (.int .i64 ((j : Int) + 1))) none).run Tryd.prog w = .ok (.slice (some ⟨b, o + j * 4, none⟩) 1 (c - j)) w := by
  have e1 : ((j : Int) + 1).toNat = j + 1 := by omega
  have e2 : j + 1 - j = 1 := by omega
  have e3 : ¬ c = j := by omega
  have e4 : (j : Int).toNat = j := by omega
  rw [run_slice_lh w 28 (some ⟨b, o, none⟩) n c Tryd.underlying28 .i64 .i64 (j : Int) ((j : Int) + 1) (by omega) (by omega) (by omega)]
  simp [go_sem, sliced, e1, e2, e3, e4, Addr.add]
theorem RowV.one {w : World} {B b o : Nat} {L : List Vl} (h : RowV w B (some ⟨b, o, none⟩) L) (j : Nat) (hj : j < L.length) : RowV w B (some ⟨b, o + j * 4, none⟩) [L[j]] := by
  intro i hi
  have e : i = 0 := by simp at hi; omega
  subst e
  obtain ⟨b', o', e1, hb, c0, c1, c2, c3⟩ := h j hj
  injection e1 with e2
  injection e2 with e3 e4 _
  subst e3 e4
  exact ⟨b, o + j * 4, rfl, hb, by simpa using c0, by simpa using c1, by simpa using c2, by simpa using c3⟩

end Go.Proofs.YtfknmblobcjapaaDoor
