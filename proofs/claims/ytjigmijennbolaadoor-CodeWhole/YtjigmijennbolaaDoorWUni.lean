/- The walks of the small functions of Union, and of the document's. -/
import Derived.Test.YtjigmijennbolaaDoorMUni
namespace Go.Proofs.YtjigmijennbolaaDoor
open Go.RowKit
set_option maxRecDepth 100000

/-- a range as a value -/
def Rg.val (r : Rg) : Value := rngV r.lo r.hi r.op

set_option maxHeartbeats 1000000 in
theorem touches_any (a b : Rg) (w : World) : Calls Tryd.prog 19 #[a.val, b.val] w fun e w' => e = .returned (.bool (touchB a b)) ∧ Below w.heap.size w w' := by
  obtain ⟨al, ah, ao⟩ := a
  obtain ⟨bl, bh, bo⟩ := b
  unfold touchB Rg.val
  dsimp only
  rw [← leq_not]
  cases ao <;> cases h1 : Op.bytesLess bl.toList ah.toList <;> cases h2 : (bl.toList == ah.toList)
  all_goals
    go_enter Tryd.func19, Tryd.ntmps19
    go_wp2
    go_ret
    exact ⟨rfl, by go_grown⟩

set_option maxHeartbeats 1000000 in
theorem joins_any (a b : Rg) (w : World) : Calls Tryd.prog 23 #[a.val, b.val] w fun e w' => e = .returned (.bool (touchB a b)) ∧ Below w.heap.size w w' := by
  obtain ⟨al, ah, ao⟩ := a
  obtain ⟨bl, bh, bo⟩ := b
  unfold touchB Rg.val
  dsimp only
  rw [← leq_not]
  cases ao <;> cases h1 : Op.bytesLess bl.toList ah.toList <;> cases h2 : (bl.toList == ah.toList)
  all_goals
    go_enter Tryd.func23, Tryd.ntmps23
    go_wp2
    go_ret
    exact ⟨rfl, by go_grown⟩

set_option maxHeartbeats 1000000 in
theorem plainR_any (r : Rg) (w : World) : Calls Tryd.prog 21 #[r.val] w fun e w' => e = .returned r.pl.val ∧ Below w.heap.size w w' := by
  obtain ⟨l, h, o⟩ := r
  unfold Rg.pl Rg.val
  cases o
  all_goals
    go_enter Tryd.func21, Tryd.ntmps21
    go_wp2
    go_returns
    exact ⟨rfl, by go_grown⟩

set_option maxHeartbeats 1000000 in
theorem joined_any (a b : Rg) (w : World) : Calls Tryd.prog 20 #[a.val, b.val] w fun e w' => e = .returned (joinR a b).val ∧ Below w.heap.size w w' := by
  have hmx := run_mx
  obtain ⟨al, ah, ao⟩ := a
  obtain ⟨bl, bh, bo⟩ := b
  unfold joinR
  dsimp only
  have C1 : Hid (∀ w1 : World, Calls _ _ _ _ _) := fun w1 => plainR_any ⟨al, mxB ah bh, ao || bo⟩ w1
  obtain ⟨r, hr⟩ : ∃ r : Rg, r = Rg.pl ⟨al, mxB ah bh, ao || bo⟩ := ⟨_, rfl⟩
  rw [← hr] at C1 ⊢
  clear hr
  obtain ⟨rl, rh, ro⟩ := r
  unfold Rg.val at C1 ⊢
  cases ao <;> cases bo
  all_goals
    go_enter Tryd.func20, Tryd.ntmps20
    go_wp2_with (first | (go_at_call 21; refine (C1.out _).mono ?_; rintro e w1 ⟨rfl, hb1⟩; obtain ⟨hx1, hx2⟩ := bcell hb1))
    have hA : Below w.heap.size w w1 := by
      refine Below.trans ?_ (hb1.mono (by simp; omega))
      go_grown
    refine bodyPost_ret (v := rngV rl rh ro) (by simp [results, Tryd.results20, go_sem, hx1]) rfl ⟨rfl, ((hA.setCell (by simp; omega) _).setCell (by simp; omega) _).setCell (by simp; omega) _⟩
end Go.Proofs.YtjigmijennbolaaDoor
