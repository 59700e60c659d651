/- Layer 13: a Gaps and the document's beside it. -/
import Derived.Test.YtcdamalpecedcaaGreatWGd7
import Derived.BigQuiet
namespace Go.Proofs.YtcdamalpecedcaaGreat
open Go.RowKit
set_option maxRecDepth 100000

theorem Gp.inv {w : World} {gb nx : Nat} {Y : List Tkr} (h : Gp w gb nx Y) : InvG (Y.map Tkr.x) nx ∧ Y.length ≤ 256 := by
  obtain ⟨xb, p, c, _, h2⟩ := h
  exact ⟨h2.i, h2.l⟩
/-- a Gaps, and the document's -/
structure PG (w : World) (gb ls : Nat) (v : Value) (Y : List Tkr) (D : List Dk) : Prop where
  g : Gp w gb (ls + 1) Y
  d : DkL w 0 v D
  e : D.map (fun d => (d.t, d.H)) = Y.map (fun y => (y.x.t, y.x.H))
theorem PG.on {w w' : World} {gb ls : Nat} {v : Value} {Y : List Tkr} {D : List Dk} (h : PG w gb ls v Y D) (hb : Below w.heap.size w w') : PG w' gb ls v Y D := ⟨h.g.on hb, h.d.on hb, h.e⟩
theorem same_len {Y : List Tkr} {D : List Dk} (e : D.map (fun d => (d.t, d.H)) = Y.map (fun y => (y.x.t, y.x.H))) : D.length = Y.length := by
  have := congrArg List.length e
  simpa using this
theorem same_at {Y : List Tkr} {D : List Dk} (e : D.map (fun d => (d.t, d.H)) = Y.map (fun y => (y.x.t, y.x.H))) (i : Nat) (hi : i < D.length) (hi' : i < Y.length) : D[i].t = Y[i].x.t ∧ D[i].H = Y[i].x.H := by
  have h : (D.map (fun d => (d.t, d.H)))[i]? = (Y.map (fun y => (y.x.t, y.x.H)))[i]? := by rw [e]
  rw [List.getElem?_map, List.getElem?_map, List.getElem?_eq_getElem hi, List.getElem?_eq_getElem hi'] at h
  simp only [Option.map_some, Option.some.injEq, Prod.mk.injEq] at h
  exact h
theorem same_tks {Y : List Tkr} {D : List Dk} (e : D.map (fun d => (d.t, d.H)) = Y.map (fun y => (y.x.t, y.x.H))) : Y.map (fun y => y.x.t) = D.map Dk.t := by
  have h := congrArg (List.map Prod.fst) e
  rw [List.map_map, List.map_map] at h
  exact h.symm
theorem PG.rise {w : World} {gb ls : Nat} {v : Value} {Y : List Tkr} {D : List Dk} (h : PG w gb ls v Y D) : D.Pairwise (fun a b => a.t < b.t) := by
  have h1 := rise_map h.g.inv.1.rise
  rw [List.map_map] at h1
  have e : Y.map (Tk.t ∘ Tkr.x) = D.map Dk.t := same_tks h.e
  rw [e, List.pairwise_map] at h1
  exact h1
theorem same_ahT {Y : List Tkr} {D : List Dk} (e : D.map (fun d => (d.t, d.H)) = Y.map (fun y => (y.x.t, y.x.H))) (H : List Hd) (i : Nat) : ((Y.take i).filter (fun y => wayB y.x.H H)).map (fun y => y.x.t) = ahD D H i := by
  have h : ∀ (A : List Dk) (B : List Tkr), A.map (fun d => (d.t, d.H)) = B.map (fun y => (y.x.t, y.x.H)) → (B.filter (fun y => wayB y.x.H H)).map (fun y => y.x.t) = (A.filter (fun d => wayB d.H H)).map Dk.t := by
    intro A
    induction A with
    | nil =>
      intro B hB
      cases B with
      | nil => rfl
      | cons b B => cases hB
    | cons a A ih =>
      intro B hB
      cases B with
      | nil => cases hB
      | cons b B =>
        simp only [List.map_cons, List.cons.injEq, Prod.mk.injEq] at hB
        obtain ⟨⟨h1, h2⟩, h3⟩ := hB
        rw [List.filter_cons, List.filter_cons, h2]
        cases wayB b.x.H H
        · exact ih B h3
        · simp only [if_true, List.map_cons, h1]
          rw [ih B h3]
  unfold ahD
  refine h _ _ ?_
  rw [List.map_take, List.map_take, e]
theorem hasT_tks (Y : List Tkr) (a : Nat) : hasT (zs Y) a = decide (a ∈ tks (Y.map Tkr.x)) := by
  rw [Bool.eq_iff_iff, hasT_iff, decide_eq_true_eq]
  unfold tks zs
  rw [List.map_map, List.map_map]
  rfl
/-- what stands ahead, told by both -/
theorem PG.ah {w : World} {gb ls : Nat} {v : Value} {Y : List Tkr} {D : List Dk} (h : PG w gb ls v Y D) (i : Nat) (hi : i < D.length) (hi' : i < Y.length) : Y[i].x.A.filter (hasT (zs Y)) = ahD D D[i].H i := by
  have h1 := h.g.inv.1.way i (by rw [List.length_map]; exact hi')
  rw [List.getElem_map] at h1
  have e1 : Y[i].x.A.filter (hasT (zs Y)) = Y[i].x.A.filter (fun a => decide (a ∈ tks (Y.map Tkr.x))) := List.filter_congr (fun a _ => hasT_tks Y a)
  rw [e1, h1, (same_at h.e i hi hi').2, ← same_ahT h.e, ← List.map_take, List.filter_map, List.map_map]
  rfl
theorem grT_ah {Y : List Tkr} {x : Tk} : grT Y x = decide ((x.A.filter (hasT (zs Y))).length = 0) := by
  unfold grT
  rw [Bool.eq_iff_iff, decide_eq_true_eq]
  rw [List.length_eq_zero_iff, List.filter_eq_nil_iff]
  simp
theorem PG.no {w : World} {gb ls : Nat} {v : Value} {Y : List Tkr} {D : List Dk} (h : PG w gb ls v Y D) {n : Nat} (hn : n = 0 ∨ ls < n) : hasT (zs Y) n = false := by
  rw [hasT_tks]
  simp only [decide_eq_false_iff_not]
  intro h9
  obtain ⟨x, hx, rfl⟩ := List.mem_map.1 h9
  have := h.g.inv.1.lt x hx
  omega

set_option maxHeartbeats 4000000 in
theorem same_any (A : List Nat) (va vb : Value) (w : World) (hA : OwnU w 0 va A) (hB : OwnU w 0 vb A) (hl : A.length ≤ 256) :
    Calls Tryz.prog 20 #[va, vb] w fun e w' => e = .returned (.bool true) ∧ Below w.heap.size w w' := by
  obtain ⟨p, c, rfl, -⟩ := owns_len hA
  obtain ⟨q, d, rfl, -⟩ := owns_len hB
  have HA : Hid (OwnU w 0 (.slice p A.length c) A) := hA
  have HB : Hid (OwnU w 0 (.slice q A.length d) A) := hB
  obtain ⟨n, hn⟩ : ∃ n, A.length = n := ⟨_, rfl⟩
  have HN : Hid (A.length = n) := hn
  rw [hn] at hl ⊢
  clear hA hB hn
  go_enter Tryz.func20, Tryz.ntmps20
  go_wp2_with fail
  go_loopw [5] (fun si wq => ∃ i : Nat, i ≤ n ∧ si = .int .i64 (i : Int) ∧ Hid (Below w.heap.size w wq)) (fun si _ => ((n : Int) - intOf si).toNat)
  case atStart => exact ⟨0, by omega, rfl, Below.refl _ _⟩
  case round =>
    obtain ⟨i, hi, rfl, HI⟩ := hrel
    rcases Nat.lt_or_eq_of_le hi with hlt | heq
    · have g1 : decide ((i : Int) < (n : Int)) = true := by simp; omega
      have hiA : i < A.length := by rw [HN.out]; exact hlt
      have HBd : Hid (∀ n, Below w.heap.size w (wr.drewN n)) := fun n => HI.out.trans ((below_drewN (Below.refl _ _) n).mono HI.out.size)
      obtain ⟨ga, ca, ea, -, hga⟩ := owns_form HA.out (by omega)
      obtain ⟨gb, cb, eb, -, hgb⟩ := owns_form HB.out (by omega)
      injection ea with ea1 ea2 ea3
      injection eb with eb1 eb2 eb3
      subst ea1 eb1
      have x1 := World.ownsRow.cellAt HA.out i (by omega)
      have x2 := World.ownsRow.cellAt HB.out i (by omega)
      rw [List.getElem?_map, List.getElem?_eq_getElem hiA] at x1 x2
      have y1 : wr.cell? ⟨ga, i, none⟩ = some (.int .u64 (A[i] : Nat)) := (HI.out.cell (p := ⟨ga, i, none⟩) hga).trans x1
      have y2 : wr.cell? ⟨gb, i, none⟩ = some (.int .u64 (A[i] : Nat)) := (HI.out.cell (p := ⟨gb, i, none⟩) hgb).trans x2
      generalize A[i] = z at *
      clear x1 x2 hiA ea2 ea3 eb2 eb3 hga hgb HI
      have gi : (i : Int) < (n : Int) := by omega
      go_wp2_with fail
      go_quiet (fail)
      go_wp2_with fail
      go_roundw
      case rel => exact ⟨i + 1, by omega, by go_num, HBd.out _⟩
      case measure => simp [intOf]; omega
    · have g1 : decide ((i : Int) < (n : Int)) = false := by simp; omega
      go_wp2_with fail
      go_ret
      exact ⟨rfl, HI.out⟩
end Go.Proofs.YtcdamalpecedcaaGreat
