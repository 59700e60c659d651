/- Rows of ranges that are read; slices.Clone and slices.IndexFunc at them. The walks of the document's answers for Both and Meet, and of Meet. The walk of Meet. -/
import Derived.Lib.SliceRun
import Derived.Test.YtcjpindbplppgaaDoorGWOwnR
import Derived.Test.YtcjpindbplppgaaDoorGWBoth
namespace Go.Proofs.YtcjpindbplppgaaDoor
open Go.RowKit
set_option maxRecDepth 100000

/-- the slice at p holds the ranges L, in a block below B -/
def RowR (w : World) (B : Nat) (p : Option Addr) (L : List Rg) : Prop := ∀ i (hi : i < L.length), ∃ b o, p = some ⟨b, o, none⟩ ∧ b < B ∧
  w.cell? ⟨b, o + i * 3, none⟩ = some (.string L[i].lo) ∧ w.cell? ⟨b, o + i * 3 + 1, none⟩ = some (.string L[i].hi) ∧ w.cell? ⟨b, o + i * 3 + 2, none⟩ = some (.bool L[i].op)
theorem RowR.keep {w w' : World} {B : Nat} {p : Option Addr} {L : List Rg} (h : RowR w B p L) (hb : Below B w w') : RowR w' B p L := by
  intro i hi
  obtain ⟨b, o, e, hbB, c0, c1, c2⟩ := h i hi
  have k : ∀ {o : Nat} {v : Option Value}, w.cell? ⟨b, o, none⟩ = v → w'.cell? ⟨b, o, none⟩ = v := fun {o v} hc => (hb.cell (p := ⟨b, o, none⟩) hbB).trans hc
  exact ⟨b, o, e, hbB, k c0, k c1, k c2⟩
theorem RowR.mono {w : World} {B C : Nat} {p : Option Addr} {L : List Rg} (h : RowR w B p L) (hb : B ≤ C) : RowR w C p L := by
  intro i hi
  obtain ⟨b, o, e, hbB, r⟩ := h i hi
  exact ⟨b, o, e, Nat.lt_of_lt_of_le hbB hb, r⟩
theorem OwnR.row {w : World} {B : Nat} {v : Value} {L : List Rg} (h : OwnR w B v L) : ∃ (p : Option Addr) (c : Nat), v = .slice p L.length c ∧ RowR w w.heap.size p L := by
  rcases h.form with ⟨rfl, rfl⟩ | ⟨g, cap, rfl, _, hg⟩
  · exact ⟨none, 0, rfl, fun i hi => absurd hi (by simp)⟩
  · refine ⟨_, cap, rfl, fun i hi => ?_⟩
    obtain ⟨⟨c0, c1, c2⟩, _⟩ := h.at i hi
    exact ⟨g, 0, rfl, hg, by rw [Nat.zero_add]; exact c0, by rw [Nat.zero_add]; exact c1, by rw [Nat.zero_add]; exact c2⟩

/-- where the first that meets a test stands -/
def firstI (t : Rg → Bool) : List Rg → Nat
  | [] => 0
  | r :: L => if t r then 0 else firstI t L + 1
theorem firstI_le (t : Rg → Bool) : ∀ L, firstI t L ≤ L.length
  | [] => Nat.le_refl _
  | r :: L => by
    have := firstI_le t L
    unfold firstI
    split
    · omega
    · simp only [List.length_cons]; omega
def Rg.emp (r : Rg) : Bool := emptyB r.lo r.hi r.op
theorem firstI_step (t : Rg → Bool) : ∀ (L : List Rg) (j : Nat) (hj : j < L.length), j ≤ firstI t L → (t L[j] = true → firstI t L = j) ∧ (t L[j] = false → j + 1 ≤ firstI t L)
  | [], j, hj, _ => by simp at hj
  | r :: L, 0, _, _ => by
    refine ⟨fun h => ?_, fun h => ?_⟩
    · have h' : t r = true := h
      unfold firstI; rw [if_pos h']
    · have h' : t r = false := h
      unfold firstI; rw [if_neg (by simp [h'])]; omega
  | r :: L, j + 1, hj, hle => by
    unfold firstI at hle ⊢
    split at hle
    · omega
    · rename_i hn
      rw [if_neg hn]
      obtain ⟨h1, h2⟩ := firstI_step t L j (by simpa using hj) (by omega)
      exact ⟨fun h => by rw [h1 h], fun h => by have := h2 h; omega⟩

set_option maxHeartbeats 2000000 in
theorem indexF_any (L : List Rg) (p : Option Addr) (c : Nat) (w : World) (hR : RowR w w.heap.size p L) (hlen : L.length ≤ 3518437208784) :
    Calls Tryd.prog 51 #[.slice p L.length c, .func (.func 33) #[] #[]] w fun e w' => e = .returned (.int .i64 (if firstI Rg.emp L = L.length then -1 else (firstI Rg.emp L : Int))) ∧ Below w.heap.size w w' := by
  have HA : Hid (RowR _ _ _ _) := hR
  have HF := firstI_le Rg.emp L
  have HS : Hid (∀ (j : Nat) (hj : j < L.length), j ≤ firstI Rg.emp L → (Rg.emp L[j] = true → firstI Rg.emp L = j) ∧ (Rg.emp L[j] = false → j + 1 ≤ firstI Rg.emp L)) := firstI_step Rg.emp L
  clear hR
  generalize firstI Rg.emp L = f at *
  go_enter Tryd.func51, Tryd.ntmps51
  go_wp2_with fail
  go_loopw [8] (fun i wr => ∃ j : Nat, j ≤ f ∧ i = .int .i64 (j : Int) ∧ Below w.heap.size w wr) (fun i _ => L.length - (intOf i).toNat)
  case atStart => exact ⟨0, Nat.zero_le _, by go_num, Below.refl _ _⟩
  case round =>
    obtain ⟨j, hj, rfl, hn⟩ := hrel
    by_cases hj0 : j = L.length
    · have hf : f = L.length := by omega
      subst hj0
      go_wp2
      go_ret
      exact ⟨rfl, hn⟩
    · have hj1 : j < L.length := by omega
      obtain ⟨b, o, rfl, hbB, c0, c1, c2⟩ := HA.out j hj1
      have a0 := (hn.cell (p := ⟨b, o + j * 3, none⟩) hbB).trans c0
      have a1 := (hn.cell (p := ⟨b, o + j * 3 + 1, none⟩) hbB).trans c1
      have a2 := (hn.cell (p := ⟨b, o + j * 3 + 2, none⟩) hbB).trans c2
      have hst := HS.out j hj1 hj
      have CE : Hid (∀ w1 : World, Calls Tryd.prog 33 #[.agg #[.string (L[j]).lo, .string (L[j]).hi, .bool (L[j]).op]] w1 fun e w' => e = .returned (.bool (Rg.emp L[j])) ∧ Below w1.heap.size w1 w') := fun w1 => empty_any (L[j]).lo (L[j]).hi (L[j]).op w1
      clear c0 c1 c2 hj0
      generalize Rg.emp L[j] = em at *
      generalize (L[j]).lo = lo at *
      generalize (L[j]).hi = hi at *
      generalize (L[j]).op = op at *
      cases em
      · have hlt := hst.2 rfl
        clear hst
        go_wp2_with (first | (go_at_call 33; refine (CE.out _).mono ?_; rintro e w5 ⟨rfl, hb5⟩))
        go_roundw
        case rel => exact ⟨j + 1, hlt, by go_num, hn.trans (hb5.mono hn.size)⟩
        case measure => simp [intOf]; omega
      · have hf := hst.1 rfl
        clear hst
        go_wp2_with (first | (go_at_call 33; refine (CE.out _).mono ?_; rintro e w5 ⟨rfl, hb5⟩))
        go_ret
        exact ⟨rfl, hn.trans (hb5.mono hn.size)⟩

theorem rcells_at (L : List Rg) (j : Nat) (hj : j < L.length * 3) : (rcells L)[j]? = (encR (L[j / 3]'(by omega)))[j % 3]? := by
  have hi : j / 3 < L.length := by omega
  obtain ⟨a0, a1, a2⟩ := rcell_at L (j / 3) hi
  have h3 : j % 3 = 0 ∨ j % 3 = 1 ∨ j % 3 = 2 := by omega
  rcases h3 with e | e | e
  · have ej : j / 3 * 3 = j := by omega
    rw [e]; rw [ej] at a0; exact a0
  · have ej : j / 3 * 3 + 1 = j := by omega
    rw [e]; rw [ej] at a1; exact a1
  · have ej : j / 3 * 3 + 2 = j := by omega
    rw [e]; rw [ej] at a2; exact a2
theorem RowR.cells {w : World} {B b o : Nat} {L : List Rg} (h : RowR w B (some ⟨b, o, none⟩) L) : ∀ j y, (rcells L)[j]? = some y → w.cell? ((⟨b, o, none⟩ : Addr).add j) = some y := by
  intro j y hj
  have hl : j < L.length * 3 := by have := (List.getElem?_eq_some_iff.1 hj).1; rw [rcells_len] at this; exact this
  have e : (⟨b, o, none⟩ : Addr).add j = ⟨b, o + j, none⟩ := by unfold Addr.add; split <;> simp_all
  rw [e]
  obtain ⟨b', o', e', _, c0, c1, c2⟩ := h (j / 3) (by omega)
  injection e' with e'
  injection e' with e1 e2
  subst e1 e2
  rw [rcells_at L j hl] at hj
  have h3 : j % 3 = 0 ∨ j % 3 = 1 ∨ j % 3 = 2 := by omega
  rcases h3 with e | e | e
  · have ej : o + j = o + j / 3 * 3 := by omega
    rw [e] at hj; rw [ej, c0]; exact hj
  · have ej : o + j = o + j / 3 * 3 + 1 := by omega
    rw [e] at hj; rw [ej, c1]; exact hj
  · have ej : o + j = o + j / 3 * 3 + 2 := by omega
    rw [e] at hj; rw [ej, c2]; exact hj
theorem rcells_one (L : List Rg) : ∀ y ∈ rcells L, y.oneCell' = true := by
  intro y hy
  simp only [rcells, List.mem_flatMap, encR] at hy
  obtain ⟨r, _, h⟩ := hy
  simp at h
  rcases h with rfl | rfl | rfl <;> rfl

theorem RowR.cellsA {w : World} {B : Nat} {a : Addr} {L : List Rg} (h : RowR w B (some a) L) : ∀ j y, (rcells L)[j]? = some y → w.cell? (a.add j) = some y := by
  match L, h with
  | [], _ => intro j y hj; simp [rcells] at hj
  | r :: L, h =>
    obtain ⟨b, o, e, _⟩ := h 0 (by simp)
    injection e with e
    subst e
    exact h.cells

set_option maxHeartbeats 2000000 in
theorem clone_any (L : List Rg) (a : Addr) (c : Nat) (w : World) (hR : RowR w w.heap.size (some a) L) (hlen : L.length ≤ 3518437208784) (_hc : L.length ≤ c) :
    Calls Tryd.prog 32 #[.slice (some a) L.length c] w fun e w' => ∃ v, e = .returned v ∧ OwnR w' w.heap.size v L ∧ (¬ v = .slice none 0 0) ∧ Below w.heap.size w w' := by
  have HR : Hid (RowR _ _ _ _) := hR
  clear hR
  go_enter Tryd.func32, Tryd.ntmps32
  have hnil := fun w1 : World => Lib.run_eql_slice_nil (P := Tryd.prog) w1 23 35 (some a) L.length c 0 0 Tryd.underlying23
  simp only [Option.isNone_some] at hnil
  obtain ⟨i, hi, hz0, hz1, hz2⟩ := info_parts info_rng
  go_wp2_with (first | (at_builtin; refine wpList_append_own _ rfl (.tmp 5) (.tmp 6) 23 rfl w.heap.size 35 i (.agg #[.string ⟨#[]⟩, .string ⟨#[]⟩, .bool false]) 3 40 Tryd.underlying23 hi hz0 hz1 hz2 rfl (by decide) _ 0 [] rfl ?own a L.length c (rcells L) rfl (rcells_len L) ?cells (rcells_one L) ?mx ?byt ?base ?_))
  case own => exact World.ownsRow_lit w #[] 0 (Nat.le_refl _) (Nat.zero_le _) rfl
  case cells => exact (HR.out.keep ((Below.refl _ _).alloc (Nat.le_refl _) _)).cellsA
  case mx => unfold maxLen; omega
  case byt => omega
  case base => simp
  intro v1 w1 h1 h2 h9
  have hnn : ¬ v1 = .slice none 0 0 := h9
  have hown : OwnR w1 w.heap.size v1 L := by
    unfold OwnR
    simpa using h1
  have hb : Below w.heap.size w w1 := ((Below.refl _ _).alloc (Nat.le_refl _) _).grown h2 (by simp) (fun k hk => by simp [Value.ownBlock] at hk; omega)
  clear h1 h2 h9
  have HN : Hid (¬ v1 = .slice none 0 0) := hnn
  clear hnn
  go_wp2
  go_ret
  exact ⟨_, rfl, hown, HN.out, hb⟩

end Go.Proofs.YtcjpindbplppgaaDoor

namespace Go.Proofs.YtcjpindbplppgaaDoor
open Go.RowKit
set_option maxRecDepth 100000

theorem gtB (a b : ByteArray) : ltB a b = (!Op.bytesLess b.toList a.toList && !(b.toList == a.toList)) := by
  rw [ltB_cb, ByteArray.toList_eq, ByteArray.toList_eq, less_cb, eq_cb, cb_swap a.data.toList b.data.toList]
  rcases cb_range a.data.toList b.data.toList with h | h | h <;> simp [h]

























































end Go.Proofs.YtcjpindbplppgaaDoor

namespace Go.Proofs.YtcjpindbplppgaaDoor
open Go.RowKit
set_option maxRecDepth 100000



end Go.Proofs.YtcjpindbplppgaaDoor
