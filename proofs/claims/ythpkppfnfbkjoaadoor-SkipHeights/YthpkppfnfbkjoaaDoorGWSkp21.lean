/- Layer 12: a Delete is done. Layer 12: what a Put and a Delete make of a list. -/
import Derived.Test.YthpkppfnfbkjoaaDoorGWSkp19
namespace Go.Proofs.YthpkppfnfbkjoaaDoor
open Go.RowKit
set_option maxRecDepth 100000

/-- A DELETE IS DONE. -/
def DelF (w w' : World) (hb sb hl m a : Nat) (wk : Value) (N : List Nd) (k : ByteArray) (c : Int) (g : Nat) : Prop :=
  ∃ N' was there n ls vs, Blk w' g (chC was there n ls vs) 78 ∧ Blk w' sb #[.int .u64 (a : Nat), .int .i64 c, wk, ptr1 g, .int .u32 1] 61 ∧ SkF w' hb hl N' (ldF N') ∧ Frm w w' (finF sb hl N) ∧
    ((getN N m k = none ∧ was = 0 ∧ there = false ∧ n = c ∧ N' = N) ∨
     (∃ hm : m < N.length, N[m].e.k = k ∧ was = N[m].e.v ∧ there = true ∧ n = c - 1 ∧ N' = N.eraseIdx m))



end Go.Proofs.YthpkppfnfbkjoaaDoor

namespace Go.Proofs.YthpkppfnfbkjoaaDoor
open Go.RowKit
set_option maxRecDepth 100000

theorem ens_ins (N : List Nd) (m : Nat) (X : Nd) : ensN (insN N m X) = insE (ensN N) m X.e := by
  unfold ensN insN insE
  rw [List.map_append, List.map_cons, List.map_take, List.map_drop]
theorem ens_set (N : List Nd) (m : Nat) (X : Nd) : ensN (N.set m X) = (ensN N).set m X.e := by
  unfold ensN
  rw [List.map_set]
theorem ens_erase (N : List Nd) (m : Nat) : ensN (N.eraseIdx m) = (ensN N).eraseIdx m := by
  unfold ensN
  rw [List.eraseIdx_eq_take_drop_succ, List.eraseIdx_eq_take_drop_succ, List.map_append, List.map_take, List.map_drop]
theorem ens_len (N : List Nd) : (ensN N).length = N.length := by simp [ensN]
theorem get_none {N : List Nd} {k : ByteArray} (h : getN N (fnd (ensN N) k) k = none) : getE (ensN N) k = none := by
  unfold getE
  unfold getN at h
  cases e : (ensN N)[fnd (ensN N) k]? with
  | none => rfl
  | some x =>
    rw [ensN, List.getElem?_map] at e
    obtain ⟨y, hy, rfl⟩ := Option.map_eq_some_iff.1 e
    rw [hy] at h
    dsimp only at h ⊢
    by_cases hk : y.e.k = k
    · rw [if_pos hk] at h
      cases h
    · rw [if_neg hk]
theorem get_some {N : List Nd} {k : ByteArray} (hm : fnd (ensN N) k < N.length) (h : N[fnd (ensN N) k].e.k = k) : getE (ensN N) k = some N[fnd (ensN N) k].e := by
  unfold getE
  rw [ens_at hm]
  dsimp only
  rw [if_pos h]
theorem get_at {N : List Nd} {k : ByteArray} {e : En} (h : getE (ensN N) k = some e) : ∃ hm : fnd (ensN N) k < N.length, N[fnd (ensN N) k].e = e ∧ e.k = k := by
  obtain ⟨h1, h2⟩ := getE_some h
  rw [ensN, List.getElem?_map] at h1
  obtain ⟨y, hy, rfl⟩ := Option.map_eq_some_iff.1 h1
  obtain ⟨hm, e9⟩ := List.getElem?_eq_some_iff.1 hy
  have h3 : N[fnd (ensN N) k].e = y.e := by
    have : N[fnd (List.map Nd.e N) k] = y := e9
    exact congrArg Nd.e this
  exact ⟨hm, h3, h2⟩
theorem rise_lt {N : List Nd} (k : ByteArray) : ∀ i (hi : i < N.length), i < fnd (ensN N) k → ltB N[i].e.k k = true := by
  intro i hi h
  have := fnd_lt h (by rw [ens_len]; exact hi)
  simpa [ensN] using this
theorem rise_ge {N : List Nd} (hr : RiseE (ensN N)) (k : ByteArray) : ∀ i (hi : i < N.length), fnd (ensN N) k ≤ i → ltB N[i].e.k k = false := by
  intro i hi h
  have := fnd_ge hr h (by rw [ens_len]; exact hi)
  simpa [ensN] using this
theorem fnd_leN (N : List Nd) (k : ByteArray) : fnd (ensN N) k ≤ N.length := by
  have := fnd_le (ensN N) k
  rw [ens_len] at this
  exact this
/-- the blocks that a list writes -/
def ownL (lb sb hl : Nat) (N : List Nd) : Nat → Prop := fun k => k = lb ∨ k = sb ∨ k ∈ hl :: N.map Nd.lb ∨ k ∈ N.map Nd.nb
/-- each node is an earlier one, or new -/
def Grw (B : Nat) (N N' : List Nd) : Prop := ∀ x ∈ N', (∃ y ∈ N, x.nb = y.nb ∧ x.lb = y.lb) ∨ (B ≤ x.nb ∧ B ≤ x.lb)
/-- what a key had -/
def wasV (E : List En) (k : ByteArray) : Int := match getE E k with
  | some e => e.v
  | none => 0
/-- A PUT, all in all. -/
theorem PutF.upd {w w' : World} {hb sb hl h a : Nat} {wk : Value} {N : List Nd} {k : ByteArray} {c v : Int} {g : Nat} (r : PutF w w' hb sb hl (fnd (ensN N) k) h a wk N k c v g) (hr : RiseE (ensN N)) (hc : c = (N.length : Nat)) :
    ∃ N' ls vs, Blk w' g (chC (wasV (ensN N) k) (getE (ensN N) k).isSome (N'.length : Nat) ls vs) 78 ∧ Blk w' sb #[.int .u64 (a : Nat), .int .i64 c, wk, ptr1 g, .int .u32 1] 61 ∧ SkF w' hb hl N' (ldF N') ∧ Frm w w' (finF sb hl N) ∧ ensN N' = putE (ensN N) k v h ∧ RiseE (ensN N') ∧ Grw w.heap.size N N' := by
  obtain ⟨N', was, there, n, ls, vs, h1, h2, h3, h4, ⟨h5, rfl, rfl, rfl, xn, xv, xl, rfl, h6, h7⟩ | ⟨hm, h5, rfl, rfl, rfl, vb', rfl⟩⟩ := r
  · have hg := get_none h5
    have he : ensN (insN N (fnd (ensN N) k) ⟨⟨k, v, h⟩, xn, xv, xl⟩) = putE (ensN N) k v h := by
      rw [ens_ins, putE, hg]
    refine ⟨_, ls, vs, ?_, h2, h3, h4, he, by rw [he]; exact rise_put hr k v h, fun x hx => ?_⟩
    · have e1 : wasV (ensN N) k = 0 := by unfold wasV; rw [hg]
      have e2 : (((insN N (fnd (ensN N) k) ⟨⟨k, v, h⟩, xn, xv, xl⟩).length : Nat) : Int) = c + 1 := by rw [insN_len (fnd_leN N k), hc]; omega
      rw [e1, hg, e2]
      exact h1
    · rcases mem_ins hx with rfl | hx
      · exact .inr ⟨h6, h7⟩
      · exact .inl ⟨x, hx, rfl, rfl⟩
  · have hg := get_some hm h5
    have he : ensN (N.set (fnd (ensN N) k) (valN N[fnd (ensN N) k] v vb')) = putE (ensN N) k v h := by
      rw [ens_set, putE, hg]
      dsimp only
      rw [h5]
    refine ⟨_, ls, vs, ?_, h2, h3, h4, he, by rw [he]; exact rise_put hr k v h, fun x hx => ?_⟩
    · have e1 : wasV (ensN N) k = N[fnd (ensN N) k].e.v := by unfold wasV; rw [hg]
      rw [e1, hg, List.length_set, ← hc]
      exact h1
    · rcases List.mem_or_eq_of_mem_set hx with hx | rfl
      · exact .inl ⟨x, hx, rfl, rfl⟩
      · exact .inl ⟨N[fnd (ensN N) k], List.getElem_mem hm, rfl, rfl⟩
/-- A DELETE, all in all. -/
theorem DelF.upd {w w' : World} {hb sb hl a : Nat} {wk : Value} {N : List Nd} {k : ByteArray} {c : Int} {g : Nat} (r : DelF w w' hb sb hl (fnd (ensN N) k) a wk N k c g) (hr : RiseE (ensN N)) (hc : c = (N.length : Nat)) :
    ∃ N' ls vs, Blk w' g (chC (wasV (ensN N) k) (getE (ensN N) k).isSome (N'.length : Nat) ls vs) 78 ∧ Blk w' sb #[.int .u64 (a : Nat), .int .i64 c, wk, ptr1 g, .int .u32 1] 61 ∧ SkF w' hb hl N' (ldF N') ∧ Frm w w' (finF sb hl N) ∧ ensN N' = delE (ensN N) k ∧ RiseE (ensN N') ∧ Grw w.heap.size N N' := by
  obtain ⟨N', was, there, n, ls, vs, h1, h2, h3, h4, ⟨h5, rfl, rfl, rfl, rfl⟩ | ⟨hm, h5, rfl, rfl, rfl, rfl⟩⟩ := r
  · have hg := get_none h5
    refine ⟨_, ls, vs, ?_, h2, h3, h4, by rw [delE, hg], hr, fun x hx => .inl ⟨x, hx, rfl, rfl⟩⟩
    have e1 : wasV (ensN N') k = 0 := by unfold wasV; rw [hg]
    rw [e1, hg, ← hc]
    exact h1
  · have hg := get_some hm h5
    have he : ensN (N.eraseIdx (fnd (ensN N) k)) = delE (ensN N) k := by rw [ens_erase, delE, hg]
    refine ⟨_, ls, vs, ?_, h2, h3, h4, he, by rw [he]; exact rise_del hr k, fun x hx => .inl ⟨x, (List.eraseIdx_sublist _ _).subset hx, rfl, rfl⟩⟩
    have e1 : wasV (ensN N) k = N[fnd (ensN N) k].e.v := by unfold wasV; rw [hg]
    have e2 : (((N.eraseIdx (fnd (ensN N) k)).length : Nat) : Int) = c - 1 := by rw [List.length_eraseIdx_of_lt hm, hc]; omega
    rw [e1, hg, e2]
    exact h1

end Go.Proofs.YthpkppfnfbkjoaaDoor
