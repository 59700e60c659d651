/- The walks of Both and Meet, and of the document's answers for them. -/
import Derived.Test.YtjigmijennbolaaDoorWHas
import Derived.Lib.MinMaxS
namespace Go.Proofs.YtjigmijennbolaaDoor
open Go.RowKit
set_option maxRecDepth 100000

def mxB (a b : ByteArray) : ByteArray := if ltB a b then b else a
def mnB (a b : ByteArray) : ByteArray := if ltB b a then b else a
theorem mxB_eq (a b : ByteArray) : Lib.maxS a b = mxB a b := by
  unfold Lib.maxS mxB ltB
  rw [Proofs.bytesLess_eq, Lib.toList_data, Lib.toList_data]
  simp
theorem bytes_eq {a b : ByteArray} (h : a.data.toList = b.data.toList) : a = b := by
  cases a; cases b; simp at h; rw [h]
theorem mnB_eq (a b : ByteArray) : Lib.minS a b = mnB a b := by
  unfold Lib.minS mnB
  have h1 : (a.data.toList < b.data.toList) ↔ ltB a b = true := by
    unfold ltB; rw [Proofs.bytesLess_eq, Lib.toList_data, Lib.toList_data]; simp
  rw [ltB_cb] at h1
  have h2 : (a.data.toList = b.data.toList) ↔ Lib.compareBytes a.data.toList b.data.toList = 0 := by
    have := eq_cb a.data.toList b.data.toList
    constructor
    · intro h; rw [h]; exact cb_self _
    · intro h; rw [h] at this; simpa using this
  rw [ltB_cb, cb_swap a.data.toList b.data.toList]
  simp only [h1, h2]
  rcases cb_range a.data.toList b.data.toList with h | h | h <;> simp [h]
def bothH (hi : ByteArray) (op : Bool) (hi' : ByteArray) (op' : Bool) : ByteArray := if op then hi' else if op' then hi else mnB hi hi'
/-- what Both tells -/
def bothR (lo hi : ByteArray) (op : Bool) (lo' hi' : ByteArray) (op' : Bool) : ByteArray × ByteArray × Bool :=
  if op && op' then (mxB lo lo', ⟨#[]⟩, true) else if emptyB (mxB lo lo') (bothH hi op hi' op') false then (⟨#[]⟩, ⟨#[]⟩, false) else (mxB lo lo', bothH hi op hi' op', false)

theorem run_mx (a b : ByteArray) (w : World) : (Builtin.max_ #[9, 9] 9 #[.string a, .string b]).run Tryd.prog w = .ok (.string (mxB a b)) w := by rw [Lib.run_max_strs, mxB_eq]
theorem run_mn (a b : ByteArray) (w : World) : (Builtin.min_ #[9, 9] 9 #[.string a, .string b]).run Tryd.prog w = .ok (.string (mnB a b)) w := by rw [Lib.run_min_strs, mnB_eq]

set_option maxHeartbeats 2000000 in
theorem both_any (lo hi : ByteArray) (op : Bool) (lo' hi' : ByteArray) (op' : Bool) (w : World) :
    Calls Tryd.prog 11 #[rngV lo hi op, rngV lo' hi' op'] w fun e w' => e = .returned (rngV (bothR lo hi op lo' hi' op').1 (bothR lo hi op lo' hi' op').2.1 (bothR lo hi op lo' hi' op').2.2) ∧ Below w.heap.size w w' := by
  have hmx := run_mx
  have hmn := run_mn
  have h0 : emptyB (mxB lo lo') ⟨#[]⟩ true = false := rfl
  unfold bothR
  cases op <;> cases op'
  case true.true =>
    go_enter Tryd.func11, Tryd.ntmps11
    go_wp2_with (first | (go_at_call 13; refine (empty_any _ _ _ _).mono ?_; rintro e w1 ⟨rfl, hb1⟩; obtain ⟨hx1, hx2⟩ := bcell hb1))
    have hA : Below w.heap.size w w1 := by
      refine Below.trans ?_ (hb1.mono (by simp; omega))
      go_grown
    refine bodyPost_ret (v := rngV (mxB lo lo') ⟨#[]⟩ true) (by simp [results, Tryd.results11, go_sem, hx1]) rfl ⟨rfl, ((hA.setCell (by simp; omega) _).setCell (by simp; omega) _).setCell (by simp; omega) _⟩
  case true.false =>
    clear h0
    have e0 : bothH hi true hi' false = hi' := rfl
    rw [e0]
    simp only [Bool.and_false, Bool.false_eq_true, if_false]
    clear e0
    cases h1 : emptyB (mxB lo lo') hi' false
    · go_enter Tryd.func11, Tryd.ntmps11
      go_wp2_with (first | (go_at_call 13; refine (empty_any _ _ _ _).mono ?_; rintro e w1 ⟨rfl, hb1⟩; obtain ⟨hx1, hx2⟩ := bcell hb1))
      have hA : Below w.heap.size w w1 := by
        refine Below.trans ?_ (hb1.mono (by simp; omega))
        go_grown
      refine bodyPost_ret (v := rngV (mxB lo lo') hi' false) (by simp [results, Tryd.results11, go_sem, hx1]) rfl ⟨rfl, ((hA.setCell (by simp; omega) _).setCell (by simp; omega) _).setCell (by simp; omega) _⟩
    · go_enter Tryd.func11, Tryd.ntmps11
      go_wp2_with (first | (go_at_call 13; refine (empty_any _ _ _ _).mono ?_; rintro e w1 ⟨rfl, hb1⟩; obtain ⟨hx1, hx2⟩ := bcell hb1))
      have hA : Below w.heap.size w w1 := by
        refine Below.trans ?_ (hb1.mono (by simp; omega))
        go_grown
      refine bodyPost_ret (v := noRng) (by simp [results, Tryd.results11, go_sem, hx1]) rfl ⟨rfl, ((hA.setCell (by simp; omega) _).setCell (by simp; omega) _).setCell (by simp; omega) _⟩
  case false.true =>
    clear h0
    have e0 : bothH hi false hi' true = hi := rfl
    rw [e0]
    simp only [Bool.false_and, Bool.false_eq_true, if_false]
    clear e0
    cases h1 : emptyB (mxB lo lo') hi false
    · go_enter Tryd.func11, Tryd.ntmps11
      go_wp2_with (first | (go_at_call 13; refine (empty_any _ _ _ _).mono ?_; rintro e w1 ⟨rfl, hb1⟩; obtain ⟨hx1, hx2⟩ := bcell hb1))
      have hA : Below w.heap.size w w1 := by
        refine Below.trans ?_ (hb1.mono (by simp; omega))
        go_grown
      refine bodyPost_ret (v := rngV (mxB lo lo') hi false) (by simp [results, Tryd.results11, go_sem, hx1]) rfl ⟨rfl, ((hA.setCell (by simp; omega) _).setCell (by simp; omega) _).setCell (by simp; omega) _⟩
    · go_enter Tryd.func11, Tryd.ntmps11
      go_wp2_with (first | (go_at_call 13; refine (empty_any _ _ _ _).mono ?_; rintro e w1 ⟨rfl, hb1⟩; obtain ⟨hx1, hx2⟩ := bcell hb1))
      have hA : Below w.heap.size w w1 := by
        refine Below.trans ?_ (hb1.mono (by simp; omega))
        go_grown
      refine bodyPost_ret (v := noRng) (by simp [results, Tryd.results11, go_sem, hx1]) rfl ⟨rfl, ((hA.setCell (by simp; omega) _).setCell (by simp; omega) _).setCell (by simp; omega) _⟩
  case false.false =>
    clear h0
    have e0 : bothH hi false hi' false = (mnB hi hi') := rfl
    rw [e0]
    simp only [Bool.and_self, Bool.false_eq_true, if_false]
    clear e0
    cases h1 : emptyB (mxB lo lo') (mnB hi hi') false
    · go_enter Tryd.func11, Tryd.ntmps11
      go_wp2_with (first | (go_at_call 13; refine (empty_any _ _ _ _).mono ?_; rintro e w1 ⟨rfl, hb1⟩; obtain ⟨hx1, hx2⟩ := bcell hb1))
      have hA : Below w.heap.size w w1 := by
        refine Below.trans ?_ (hb1.mono (by simp; omega))
        go_grown
      refine bodyPost_ret (v := rngV (mxB lo lo') (mnB hi hi') false) (by simp [results, Tryd.results11, go_sem, hx1]) rfl ⟨rfl, ((hA.setCell (by simp; omega) _).setCell (by simp; omega) _).setCell (by simp; omega) _⟩
    · go_enter Tryd.func11, Tryd.ntmps11
      go_wp2_with (first | (go_at_call 13; refine (empty_any _ _ _ _).mono ?_; rintro e w1 ⟨rfl, hb1⟩; obtain ⟨hx1, hx2⟩ := bcell hb1))
      have hA : Below w.heap.size w w1 := by
        refine Below.trans ?_ (hb1.mono (by simp; omega))
        go_grown
      refine bodyPost_ret (v := noRng) (by simp [results, Tryd.results11, go_sem, hx1]) rfl ⟨rfl, ((hA.setCell (by simp; omega) _).setCell (by simp; omega) _).setCell (by simp; omega) _⟩
end Go.Proofs.YtjigmijennbolaaDoor
