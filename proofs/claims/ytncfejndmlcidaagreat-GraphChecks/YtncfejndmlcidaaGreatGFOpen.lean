/- Lists of data opened, whatever their elements are. -/
import Derived.Test.YtncfejndmlcidaaGreatRows
import Derived.WalkKit
import Derived.ProofKit
import Derived.OpenShut
import Derived.Lib.SmallJoins
import Derived.Deep.Slices
import Derived.SizedLaws
import Derived.Carry
namespace Go.Proofs.YtncfejndmlcidaaGreat
open Go.ChangeShapes Go.WideShapes Go.ChangeAt Go.RowKit Go.Joins Go.Deep
set_option maxRecDepth 100000

section
variable {H : Type} {enc : TypeId × Value → H} {P : Program} {W : World}
/-- no text and no list of the datum is longer than what fits into memory -/
def Reach (P : Program) (t : TypeId) (d : DataW H) : Prop := ∀ n ∈ DataW.weights P t d, n ≤ reachBytes
theorem Reach.of_each {ts : List TypeId} {ds : List (DataW H)} {j : Nat} {t : TypeId} {d : DataW H} (h : (DataW.weightsEach P ts ds).all (· ≤ reachBytes) = true) (ht : ts[j]? = some t) (hd : ds[j]? = some d) : Reach P t d :=
  fun n hn => by simpa using List.all_eq_true.1 h _ (DataW.weights_mem_each ht hd n hn)
theorem Reach.part {t : TypeId} {fs : Array Field} {parts : List (DataW H)} (hu : P.underlying t = some (.struct fs)) (h : Reach P t (.agg parts)) {j : Nat} {u : TypeId} {d : DataW H} (ht : (fs.toList.map (·.type))[j]? = some u) (hd : parts[j]? = some d) : Reach P u d :=
  fun n hn => h n (by unfold DataW.weights; rw [hu]; exact DataW.weights_mem_each ht hd n hn)
theorem weightsAll_mem {e : TypeId} : ∀ {ds : List (DataW H)} {d : DataW H}, d ∈ ds → ∀ n ∈ DataW.weights P e d, n ∈ DataW.weightsAll P e ds
  | [], _, hd, _, _ => by cases hd
  | d0 :: ds, d, hd, n, hn => by
    simp only [DataW.weightsAll, List.mem_append]
    rcases List.mem_cons.1 hd with rfl | hd
    · exact .inl hn
    · exact .inr (weightsAll_mem hd n hn)
theorem Reach.elem {t e : TypeId} {elems spare : List (DataW H)} (hu : P.underlying t = some (.slice e)) (h : Reach P t (.slice elems spare)) {d : DataW H} (hd : d ∈ elems) : Reach P e d :=
  fun n hn => h n (by unfold DataW.weights; rw [hu]; exact List.mem_cons_of_mem _ (List.mem_append_left _ (weightsAll_mem hd n hn)))
theorem Reach.size {t e : TypeId} {elems spare : List (DataW H)} (hu : P.underlying t = some (.slice e)) (h : Reach P t (.slice elems spare)) : (elems.length + spare.length) * P.bytesOf e ≤ reachBytes :=
  h _ (by unfold DataW.weights; rw [hu]; exact List.mem_cons_self)
theorem Reach.str {t : TypeId} {s : List UInt8} (h : Reach P t (.lit (.string s) : DataW H)) : s.length ≤ reachBytes := h _ (by simp [DataW.weights])

theorem add_at (b o n : Nat) : (⟨b, o, none⟩ : Addr).add n = ⟨b, o + n, none⟩ := by
  unfold Addr.add; split <;> simp_all

/-- A LIST OPENED: each element's cells, as Q tells them. -/
theorem openList {A : Type} (z : A) {t e : TypeId} {K fuel : Nat} {cs : List Value} {x : DataW H × List MemPlace} (Q : List Value → A → Prop)
    (ht : P.underlying t = some (.slice e)) (hK : P.cellsOf e = K) (hK0 : 0 < K)
    (each : ∀ n cs' y, DataW.trod enc P W 0 (fun _ => true) true n e cs' = some y → Reach P e y.1 → ∃ a, Q cs' a)
    (h : DataW.trod enc P W 0 (fun _ => true) true fuel t cs = some x) (hr : Reach P t x.1) :
    ∃ (L : List A) (q : Option Addr) (c : Nat), cs = [.slice q L.length c] ∧ L.length ≤ c ∧ c * P.bytesOf e ≤ reachBytes ∧ (q = none → c = 0) ∧
      ∀ i (hi : i < L.length), ∃ b o, q = some ⟨b, o, none⟩ ∧ b < W.heap.size ∧ ∃ cs', Q cs' L[i] ∧ cs'.length = K ∧ ∀ j, j < K → W.cell? ⟨b, o + i * K + j, none⟩ = cs'[j]? := by
  rcases open_slice ht h with ⟨hcs, hx⟩ | ⟨a, len, cap, m, n, D, Pl, hcs, _, hl, hm, hmm, hx, hel⟩
  · exact ⟨[], none, 0, hcs, Nat.le_refl _, by simp, fun _ => rfl, fun i hi => absurd hi (by simp)⟩
  · simp only [if_true] at hmm
    subst hmm
    subst hx
    have hs := hr.size ht
    simp only [List.length_map, List.length_range] at hs
    have hsz : m * P.bytesOf e ≤ reachBytes := by
      have e1 : len + (m - len) = m := by omega
      rwa [e1] at hs
    have one : ∀ i, i < len → ∃ (u : A) (cs' : List Value), Q cs' u ∧ W.cells? 0 (a.add (i * K)) K = some cs' := by
      intro i hi
      obtain ⟨cs', h1, h2⟩ := hel i (by omega)
      rw [hK] at h1
      obtain ⟨u, hu⟩ := each n cs' _ h2 (hr.elem ht (List.mem_map.2 ⟨i, by simpa using hi, rfl⟩))
      exact ⟨u, cs', hu, h1⟩
    obtain ⟨U, hU⟩ : ∃ U : Nat → A, ∀ i, i < len → ∃ cs' : List Value, Q cs' (U i) ∧ W.cells? 0 (a.add (i * K)) K = some cs' := by
      refine ⟨fun i => if hi : i < len then (one i hi).choose else z, fun i hi => ?_⟩
      simp only [hi, dif_pos]
      exact (one i hi).choose_spec
    refine ⟨(List.range len).map U, some a, m, by simp [hcs], by simpa using hl, hsz, (fun h => by cases h), ?_⟩
    intro i hi
    have hi' : i < len := by simpa using hi
    obtain ⟨cs', hQ, hc⟩ := hU i hi'
    obtain ⟨_, hlen, hcell⟩ := World.cells?_some hc
    obtain ⟨cs0, _, hc0⟩ := hU 0 (by omega)
    obtain ⟨_, hl0, hcell0⟩ := World.cells?_some hc0
    have h00 := hcell0 0 hK0
    have e0 : (a.add (0 * K)).add 0 = a := by simp [Addr.add]
    rw [e0, List.getElem?_eq_getElem (by omega)] at h00
    have hsp : a.spot = none := World.cell?_spot h00
    have hbl : a.block < W.heap.size := World.block_lt_of_cell? W _ h00
    obtain ⟨b, o, sp⟩ := a
    dsimp only at hsp hbl
    subst hsp
    have e1 : ((List.range len).map U)[i] = U i := by simp
    rw [e1]
    refine ⟨b, o, rfl, hbl, cs', hQ, hlen, fun j hj => ?_⟩
    have := hcell j hj
    rw [add_at, add_at] at this
    exact this
theorem trod_struct5 {w : World} {base : Nat} {spare : Nat → Bool} {held : Bool} {t : TypeId} {f0 f1 f2 f3 f4 : Field} {fuel : Nat} {cs : List Value} {x : DataW H × List MemPlace} (ht : P.underlying t = some (.struct #[f0, f1, f2, f3, f4])) (h : DataW.trod enc P w base spare held fuel t cs = some x) :
    ∃ y0 y1 y2 y3 y4 n, x.1 = .agg [y0.1, y1.1, y2.1, y3.1, y4.1] ∧ cs.length = P.cellsOf t ∧ DataW.trod enc P w base spare held n f0.type ((cs.drop f0.offset).take (P.cellsOf f0.type)) = some y0 ∧
      DataW.trod enc P w base spare held n f1.type ((cs.drop f1.offset).take (P.cellsOf f1.type)) = some y1 ∧ DataW.trod enc P w base spare held n f2.type ((cs.drop f2.offset).take (P.cellsOf f2.type)) = some y2 ∧
      DataW.trod enc P w base spare held n f3.type ((cs.drop f3.offset).take (P.cellsOf f3.type)) = some y3 ∧ DataW.trod enc P w base spare held n f4.type ((cs.drop f4.offset).take (P.cellsOf f4.type)) = some y4 := by
  obtain ⟨xs, n, _, rfl, hl, hlen, hf⟩ := DataW.trod_struct ht h
  match xs, hlen with
  | [y0, y1, y2, y3, y4], _ => exact ⟨y0, y1, y2, y3, y4, n, by simp, hl, by simpa using hf 0 f0 rfl, by simpa using hf 1 f1 rfl, by simpa using hf 2 f2 rfl, by simpa using hf 3 f3 rfl, by simpa using hf 4 f4 rfl⟩
theorem trod_float {w : World} {base : Nat} {spare : Nat → Bool} {held : Bool} {fuel : Nat} {t : TypeId} {cs : List Value} {x : DataW H × List MemPlace} {k : FloatKind} (ht : P.underlying t = some (.float k)) (h : DataW.trod enc P w base spare held fuel t cs = some x) : ∃ b, cs = [.float k b] ∧ x = (.lit (.float k b), []) ∧ (Lit.float k b).wf = true := by
  cases fuel with
  | zero => simp [DataW.trod] at h
  | succ n =>
    unfold DataW.trod at h
    rw [ht] at h
    split at h <;> simp_all
end
theorem wf_i64 {k : Int} (h : (Lit.int .i64 k).wf = true) : -9223372036854775808 ≤ k ∧ k ≤ 9223372036854775807 := by
  simp only [Lit.wf, Bool.and_eq_true, decide_eq_true_eq] at h
  exact h
theorem wf_f64 {f : Nat} (h : (Lit.float .f64 f).wf = true) : f < 18446744073709551616 := by
  simp only [Lit.wf, decide_eq_true_eq] at h
  exact h

end Go.Proofs.YtncfejndmlcidaaGreat
