/- The walks of the document's answers for Both and Meet, and of Meet. -/
import Derived.Test.YteffaldahccgiaaDoorWBoth
namespace Go.Proofs.YteffaldahccgiaaDoor
open Go.RowKit
set_option maxRecDepth 100000

theorem gtB (a b : ByteArray) : ltB a b = (!Op.bytesLess b.toList a.toList && !(b.toList == a.toList)) := by
  rw [ltB_cb, ByteArray.toList_eq, ByteArray.toList_eq, less_cb, eq_cb, cb_swap a.data.toList b.data.toList]
  rcases cb_range a.data.toList b.data.toList with h | h | h <;> simp [h]

set_option maxHeartbeats 1000000 in
theorem rb_tt_000 (lo hi lo' hi' : ByteArray) (h1 : Op.bytesLess lo'.toList lo.toList = true)   (w : World) :
    Calls Tryd.prog 28 #[rngV lo hi true, rngV lo' hi' true] w fun e w' => e = .returned (rngV lo ⟨#[]⟩ true) ∧ Below w.heap.size w w' := by
  have hE : emptyB lo ⟨#[]⟩ true = false := rfl
  go_enter Tryd.func28, Tryd.ntmps28
  go_wp2_with (first | (go_at_call 26; refine (rempty_any _ _ _ _).mono ?_; rintro e w1 ⟨rfl, hb1⟩; obtain ⟨hx1, hx2⟩ := bcell hb1))
  have hA : Below w.heap.size w w1 := by
    refine Below.trans ?_ (hb1.mono (by simp; omega))
    go_grown
  refine bodyPost_ret (v := rngV lo ⟨#[]⟩ true) (by simp [results, Tryd.results28, go_sem, hx1]) rfl ⟨rfl, ((hA.setCell (by simp; omega) _).setCell (by simp; omega) _).setCell (by simp; omega) _⟩

set_option maxHeartbeats 1000000 in
theorem rb_tt_100 (lo hi lo' hi' : ByteArray) (h1 : Op.bytesLess lo'.toList lo.toList = false) (h2 : (lo'.toList == lo.toList) = true)   (w : World) :
    Calls Tryd.prog 28 #[rngV lo hi true, rngV lo' hi' true] w fun e w' => e = .returned (rngV lo ⟨#[]⟩ true) ∧ Below w.heap.size w w' := by
  have hE : emptyB lo ⟨#[]⟩ true = false := rfl
  go_enter Tryd.func28, Tryd.ntmps28
  go_wp2_with (first | (go_at_call 26; refine (rempty_any _ _ _ _).mono ?_; rintro e w1 ⟨rfl, hb1⟩; obtain ⟨hx1, hx2⟩ := bcell hb1))
  have hA : Below w.heap.size w w1 := by
    refine Below.trans ?_ (hb1.mono (by simp; omega))
    go_grown
  refine bodyPost_ret (v := rngV lo ⟨#[]⟩ true) (by simp [results, Tryd.results28, go_sem, hx1]) rfl ⟨rfl, ((hA.setCell (by simp; omega) _).setCell (by simp; omega) _).setCell (by simp; omega) _⟩

set_option maxHeartbeats 1000000 in
theorem rb_tt_200 (lo hi lo' hi' : ByteArray) (h1 : Op.bytesLess lo'.toList lo.toList = false) (h2 : (lo'.toList == lo.toList) = false)   (w : World) :
    Calls Tryd.prog 28 #[rngV lo hi true, rngV lo' hi' true] w fun e w' => e = .returned (rngV lo' ⟨#[]⟩ true) ∧ Below w.heap.size w w' := by
  have hE : emptyB lo' ⟨#[]⟩ true = false := rfl
  go_enter Tryd.func28, Tryd.ntmps28
  go_wp2_with (first | (go_at_call 26; refine (rempty_any _ _ _ _).mono ?_; rintro e w1 ⟨rfl, hb1⟩; obtain ⟨hx1, hx2⟩ := bcell hb1))
  have hA : Below w.heap.size w w1 := by
    refine Below.trans ?_ (hb1.mono (by simp; omega))
    go_grown
  refine bodyPost_ret (v := rngV lo' ⟨#[]⟩ true) (by simp [results, Tryd.results28, go_sem, hx1]) rfl ⟨rfl, ((hA.setCell (by simp; omega) _).setCell (by simp; omega) _).setCell (by simp; omega) _⟩

set_option maxHeartbeats 1000000 in
theorem rb_tf_000 (lo hi lo' hi' : ByteArray) (h1 : Op.bytesLess lo'.toList lo.toList = true)  (hE : emptyB lo hi' false = false) (w : World) :
    Calls Tryd.prog 28 #[rngV lo hi true, rngV lo' hi' false] w fun e w' => e = .returned (rngV lo hi' false) ∧ Below w.heap.size w w' := by
  go_enter Tryd.func28, Tryd.ntmps28
  go_wp2_with (first | (go_at_call 26; refine (rempty_any _ _ _ _).mono ?_; rintro e w1 ⟨rfl, hb1⟩; obtain ⟨hx1, hx2⟩ := bcell hb1))
  have hA : Below w.heap.size w w1 := by
    refine Below.trans ?_ (hb1.mono (by simp; omega))
    go_grown
  refine bodyPost_ret (v := rngV lo hi' false) (by simp [results, Tryd.results28, go_sem, hx1]) rfl ⟨rfl, ((hA.setCell (by simp; omega) _).setCell (by simp; omega) _).setCell (by simp; omega) _⟩

set_option maxHeartbeats 1000000 in
theorem rb_tf_001 (lo hi lo' hi' : ByteArray) (h1 : Op.bytesLess lo'.toList lo.toList = true)  (hE : emptyB lo hi' false = true) (w : World) :
    Calls Tryd.prog 28 #[rngV lo hi true, rngV lo' hi' false] w fun e w' => e = .returned (noRng) ∧ Below w.heap.size w w' := by
  go_enter Tryd.func28, Tryd.ntmps28
  go_wp2_with (first | (go_at_call 26; refine (rempty_any _ _ _ _).mono ?_; rintro e w1 ⟨rfl, hb1⟩; obtain ⟨hx1, hx2⟩ := bcell hb1))
  have hA : Below w.heap.size w w1 := by
    refine Below.trans ?_ (hb1.mono (by simp; omega))
    go_grown
  refine bodyPost_ret (v := noRng) (by simp [results, Tryd.results28, go_sem, hx1]) rfl ⟨rfl, ((hA.setCell (by simp; omega) _).setCell (by simp; omega) _).setCell (by simp; omega) _⟩

set_option maxHeartbeats 1000000 in
theorem rb_tf_100 (lo hi lo' hi' : ByteArray) (h1 : Op.bytesLess lo'.toList lo.toList = false) (h2 : (lo'.toList == lo.toList) = true)  (hE : emptyB lo hi' false = false) (w : World) :
    Calls Tryd.prog 28 #[rngV lo hi true, rngV lo' hi' false] w fun e w' => e = .returned (rngV lo hi' false) ∧ Below w.heap.size w w' := by
  go_enter Tryd.func28, Tryd.ntmps28
  go_wp2_with (first | (go_at_call 26; refine (rempty_any _ _ _ _).mono ?_; rintro e w1 ⟨rfl, hb1⟩; obtain ⟨hx1, hx2⟩ := bcell hb1))
  have hA : Below w.heap.size w w1 := by
    refine Below.trans ?_ (hb1.mono (by simp; omega))
    go_grown
  refine bodyPost_ret (v := rngV lo hi' false) (by simp [results, Tryd.results28, go_sem, hx1]) rfl ⟨rfl, ((hA.setCell (by simp; omega) _).setCell (by simp; omega) _).setCell (by simp; omega) _⟩

set_option maxHeartbeats 1000000 in
theorem rb_tf_101 (lo hi lo' hi' : ByteArray) (h1 : Op.bytesLess lo'.toList lo.toList = false) (h2 : (lo'.toList == lo.toList) = true)  (hE : emptyB lo hi' false = true) (w : World) :
    Calls Tryd.prog 28 #[rngV lo hi true, rngV lo' hi' false] w fun e w' => e = .returned (noRng) ∧ Below w.heap.size w w' := by
  go_enter Tryd.func28, Tryd.ntmps28
  go_wp2_with (first | (go_at_call 26; refine (rempty_any _ _ _ _).mono ?_; rintro e w1 ⟨rfl, hb1⟩; obtain ⟨hx1, hx2⟩ := bcell hb1))
  have hA : Below w.heap.size w w1 := by
    refine Below.trans ?_ (hb1.mono (by simp; omega))
    go_grown
  refine bodyPost_ret (v := noRng) (by simp [results, Tryd.results28, go_sem, hx1]) rfl ⟨rfl, ((hA.setCell (by simp; omega) _).setCell (by simp; omega) _).setCell (by simp; omega) _⟩

set_option maxHeartbeats 1000000 in
theorem rb_tf_200 (lo hi lo' hi' : ByteArray) (h1 : Op.bytesLess lo'.toList lo.toList = false) (h2 : (lo'.toList == lo.toList) = false)  (hE : emptyB lo' hi' false = false) (w : World) :
    Calls Tryd.prog 28 #[rngV lo hi true, rngV lo' hi' false] w fun e w' => e = .returned (rngV lo' hi' false) ∧ Below w.heap.size w w' := by
  go_enter Tryd.func28, Tryd.ntmps28
  go_wp2_with (first | (go_at_call 26; refine (rempty_any _ _ _ _).mono ?_; rintro e w1 ⟨rfl, hb1⟩; obtain ⟨hx1, hx2⟩ := bcell hb1))
  have hA : Below w.heap.size w w1 := by
    refine Below.trans ?_ (hb1.mono (by simp; omega))
    go_grown
  refine bodyPost_ret (v := rngV lo' hi' false) (by simp [results, Tryd.results28, go_sem, hx1]) rfl ⟨rfl, ((hA.setCell (by simp; omega) _).setCell (by simp; omega) _).setCell (by simp; omega) _⟩

set_option maxHeartbeats 1000000 in
theorem rb_tf_201 (lo hi lo' hi' : ByteArray) (h1 : Op.bytesLess lo'.toList lo.toList = false) (h2 : (lo'.toList == lo.toList) = false)  (hE : emptyB lo' hi' false = true) (w : World) :
    Calls Tryd.prog 28 #[rngV lo hi true, rngV lo' hi' false] w fun e w' => e = .returned (noRng) ∧ Below w.heap.size w w' := by
  go_enter Tryd.func28, Tryd.ntmps28
  go_wp2_with (first | (go_at_call 26; refine (rempty_any _ _ _ _).mono ?_; rintro e w1 ⟨rfl, hb1⟩; obtain ⟨hx1, hx2⟩ := bcell hb1))
  have hA : Below w.heap.size w w1 := by
    refine Below.trans ?_ (hb1.mono (by simp; omega))
    go_grown
  refine bodyPost_ret (v := noRng) (by simp [results, Tryd.results28, go_sem, hx1]) rfl ⟨rfl, ((hA.setCell (by simp; omega) _).setCell (by simp; omega) _).setCell (by simp; omega) _⟩

set_option maxHeartbeats 1000000 in
theorem rb_ft_000 (lo hi lo' hi' : ByteArray) (h1 : Op.bytesLess lo'.toList lo.toList = true)  (hE : emptyB lo hi false = false) (w : World) :
    Calls Tryd.prog 28 #[rngV lo hi false, rngV lo' hi' true] w fun e w' => e = .returned (rngV lo hi false) ∧ Below w.heap.size w w' := by
  go_enter Tryd.func28, Tryd.ntmps28
  go_wp2_with (first | (go_at_call 26; refine (rempty_any _ _ _ _).mono ?_; rintro e w1 ⟨rfl, hb1⟩; obtain ⟨hx1, hx2⟩ := bcell hb1))
  have hA : Below w.heap.size w w1 := by
    refine Below.trans ?_ (hb1.mono (by simp; omega))
    go_grown
  refine bodyPost_ret (v := rngV lo hi false) (by simp [results, Tryd.results28, go_sem, hx1]) rfl ⟨rfl, ((hA.setCell (by simp; omega) _).setCell (by simp; omega) _).setCell (by simp; omega) _⟩

set_option maxHeartbeats 1000000 in
theorem rb_ft_001 (lo hi lo' hi' : ByteArray) (h1 : Op.bytesLess lo'.toList lo.toList = true)  (hE : emptyB lo hi false = true) (w : World) :
    Calls Tryd.prog 28 #[rngV lo hi false, rngV lo' hi' true] w fun e w' => e = .returned (noRng) ∧ Below w.heap.size w w' := by
  go_enter Tryd.func28, Tryd.ntmps28
  go_wp2_with (first | (go_at_call 26; refine (rempty_any _ _ _ _).mono ?_; rintro e w1 ⟨rfl, hb1⟩; obtain ⟨hx1, hx2⟩ := bcell hb1))
  have hA : Below w.heap.size w w1 := by
    refine Below.trans ?_ (hb1.mono (by simp; omega))
    go_grown
  refine bodyPost_ret (v := noRng) (by simp [results, Tryd.results28, go_sem, hx1]) rfl ⟨rfl, ((hA.setCell (by simp; omega) _).setCell (by simp; omega) _).setCell (by simp; omega) _⟩

set_option maxHeartbeats 1000000 in
theorem rb_ft_100 (lo hi lo' hi' : ByteArray) (h1 : Op.bytesLess lo'.toList lo.toList = false) (h2 : (lo'.toList == lo.toList) = true)  (hE : emptyB lo hi false = false) (w : World) :
    Calls Tryd.prog 28 #[rngV lo hi false, rngV lo' hi' true] w fun e w' => e = .returned (rngV lo hi false) ∧ Below w.heap.size w w' := by
  go_enter Tryd.func28, Tryd.ntmps28
  go_wp2_with (first | (go_at_call 26; refine (rempty_any _ _ _ _).mono ?_; rintro e w1 ⟨rfl, hb1⟩; obtain ⟨hx1, hx2⟩ := bcell hb1))
  have hA : Below w.heap.size w w1 := by
    refine Below.trans ?_ (hb1.mono (by simp; omega))
    go_grown
  refine bodyPost_ret (v := rngV lo hi false) (by simp [results, Tryd.results28, go_sem, hx1]) rfl ⟨rfl, ((hA.setCell (by simp; omega) _).setCell (by simp; omega) _).setCell (by simp; omega) _⟩

set_option maxHeartbeats 1000000 in
theorem rb_ft_101 (lo hi lo' hi' : ByteArray) (h1 : Op.bytesLess lo'.toList lo.toList = false) (h2 : (lo'.toList == lo.toList) = true)  (hE : emptyB lo hi false = true) (w : World) :
    Calls Tryd.prog 28 #[rngV lo hi false, rngV lo' hi' true] w fun e w' => e = .returned (noRng) ∧ Below w.heap.size w w' := by
  go_enter Tryd.func28, Tryd.ntmps28
  go_wp2_with (first | (go_at_call 26; refine (rempty_any _ _ _ _).mono ?_; rintro e w1 ⟨rfl, hb1⟩; obtain ⟨hx1, hx2⟩ := bcell hb1))
  have hA : Below w.heap.size w w1 := by
    refine Below.trans ?_ (hb1.mono (by simp; omega))
    go_grown
  refine bodyPost_ret (v := noRng) (by simp [results, Tryd.results28, go_sem, hx1]) rfl ⟨rfl, ((hA.setCell (by simp; omega) _).setCell (by simp; omega) _).setCell (by simp; omega) _⟩

set_option maxHeartbeats 1000000 in
theorem rb_ft_200 (lo hi lo' hi' : ByteArray) (h1 : Op.bytesLess lo'.toList lo.toList = false) (h2 : (lo'.toList == lo.toList) = false)  (hE : emptyB lo' hi false = false) (w : World) :
    Calls Tryd.prog 28 #[rngV lo hi false, rngV lo' hi' true] w fun e w' => e = .returned (rngV lo' hi false) ∧ Below w.heap.size w w' := by
  go_enter Tryd.func28, Tryd.ntmps28
  go_wp2_with (first | (go_at_call 26; refine (rempty_any _ _ _ _).mono ?_; rintro e w1 ⟨rfl, hb1⟩; obtain ⟨hx1, hx2⟩ := bcell hb1))
  have hA : Below w.heap.size w w1 := by
    refine Below.trans ?_ (hb1.mono (by simp; omega))
    go_grown
  refine bodyPost_ret (v := rngV lo' hi false) (by simp [results, Tryd.results28, go_sem, hx1]) rfl ⟨rfl, ((hA.setCell (by simp; omega) _).setCell (by simp; omega) _).setCell (by simp; omega) _⟩

set_option maxHeartbeats 1000000 in
theorem rb_ft_201 (lo hi lo' hi' : ByteArray) (h1 : Op.bytesLess lo'.toList lo.toList = false) (h2 : (lo'.toList == lo.toList) = false)  (hE : emptyB lo' hi false = true) (w : World) :
    Calls Tryd.prog 28 #[rngV lo hi false, rngV lo' hi' true] w fun e w' => e = .returned (noRng) ∧ Below w.heap.size w w' := by
  go_enter Tryd.func28, Tryd.ntmps28
  go_wp2_with (first | (go_at_call 26; refine (rempty_any _ _ _ _).mono ?_; rintro e w1 ⟨rfl, hb1⟩; obtain ⟨hx1, hx2⟩ := bcell hb1))
  have hA : Below w.heap.size w w1 := by
    refine Below.trans ?_ (hb1.mono (by simp; omega))
    go_grown
  refine bodyPost_ret (v := noRng) (by simp [results, Tryd.results28, go_sem, hx1]) rfl ⟨rfl, ((hA.setCell (by simp; omega) _).setCell (by simp; omega) _).setCell (by simp; omega) _⟩

set_option maxHeartbeats 1000000 in
theorem rb_ff_000 (lo hi lo' hi' : ByteArray) (h1 : Op.bytesLess lo'.toList lo.toList = true) (h3 : Op.bytesLess hi'.toList hi.toList = true) (hE : emptyB lo hi' false = false) (w : World) :
    Calls Tryd.prog 28 #[rngV lo hi false, rngV lo' hi' false] w fun e w' => e = .returned (rngV lo hi' false) ∧ Below w.heap.size w w' := by
  go_enter Tryd.func28, Tryd.ntmps28
  go_wp2_with (first | (go_at_call 26; refine (rempty_any _ _ _ _).mono ?_; rintro e w1 ⟨rfl, hb1⟩; obtain ⟨hx1, hx2⟩ := bcell hb1))
  have hA : Below w.heap.size w w1 := by
    refine Below.trans ?_ (hb1.mono (by simp; omega))
    go_grown
  refine bodyPost_ret (v := rngV lo hi' false) (by simp [results, Tryd.results28, go_sem, hx1]) rfl ⟨rfl, ((hA.setCell (by simp; omega) _).setCell (by simp; omega) _).setCell (by simp; omega) _⟩

set_option maxHeartbeats 1000000 in
theorem rb_ff_001 (lo hi lo' hi' : ByteArray) (h1 : Op.bytesLess lo'.toList lo.toList = true) (h3 : Op.bytesLess hi'.toList hi.toList = true) (hE : emptyB lo hi' false = true) (w : World) :
    Calls Tryd.prog 28 #[rngV lo hi false, rngV lo' hi' false] w fun e w' => e = .returned (noRng) ∧ Below w.heap.size w w' := by
  go_enter Tryd.func28, Tryd.ntmps28
  go_wp2_with (first | (go_at_call 26; refine (rempty_any _ _ _ _).mono ?_; rintro e w1 ⟨rfl, hb1⟩; obtain ⟨hx1, hx2⟩ := bcell hb1))
  have hA : Below w.heap.size w w1 := by
    refine Below.trans ?_ (hb1.mono (by simp; omega))
    go_grown
  refine bodyPost_ret (v := noRng) (by simp [results, Tryd.results28, go_sem, hx1]) rfl ⟨rfl, ((hA.setCell (by simp; omega) _).setCell (by simp; omega) _).setCell (by simp; omega) _⟩

set_option maxHeartbeats 1000000 in
theorem rb_ff_010 (lo hi lo' hi' : ByteArray) (h1 : Op.bytesLess lo'.toList lo.toList = true) (h3 : Op.bytesLess hi'.toList hi.toList = false) (hE : emptyB lo hi false = false) (w : World) :
    Calls Tryd.prog 28 #[rngV lo hi false, rngV lo' hi' false] w fun e w' => e = .returned (rngV lo hi false) ∧ Below w.heap.size w w' := by
  go_enter Tryd.func28, Tryd.ntmps28
  go_wp2_with (first | (go_at_call 26; refine (rempty_any _ _ _ _).mono ?_; rintro e w1 ⟨rfl, hb1⟩; obtain ⟨hx1, hx2⟩ := bcell hb1))
  have hA : Below w.heap.size w w1 := by
    refine Below.trans ?_ (hb1.mono (by simp; omega))
    go_grown
  refine bodyPost_ret (v := rngV lo hi false) (by simp [results, Tryd.results28, go_sem, hx1]) rfl ⟨rfl, ((hA.setCell (by simp; omega) _).setCell (by simp; omega) _).setCell (by simp; omega) _⟩

set_option maxHeartbeats 1000000 in
theorem rb_ff_011 (lo hi lo' hi' : ByteArray) (h1 : Op.bytesLess lo'.toList lo.toList = true) (h3 : Op.bytesLess hi'.toList hi.toList = false) (hE : emptyB lo hi false = true) (w : World) :
    Calls Tryd.prog 28 #[rngV lo hi false, rngV lo' hi' false] w fun e w' => e = .returned (noRng) ∧ Below w.heap.size w w' := by
  go_enter Tryd.func28, Tryd.ntmps28
  go_wp2_with (first | (go_at_call 26; refine (rempty_any _ _ _ _).mono ?_; rintro e w1 ⟨rfl, hb1⟩; obtain ⟨hx1, hx2⟩ := bcell hb1))
  have hA : Below w.heap.size w w1 := by
    refine Below.trans ?_ (hb1.mono (by simp; omega))
    go_grown
  refine bodyPost_ret (v := noRng) (by simp [results, Tryd.results28, go_sem, hx1]) rfl ⟨rfl, ((hA.setCell (by simp; omega) _).setCell (by simp; omega) _).setCell (by simp; omega) _⟩

set_option maxHeartbeats 1000000 in
theorem rb_ff_100 (lo hi lo' hi' : ByteArray) (h1 : Op.bytesLess lo'.toList lo.toList = false) (h2 : (lo'.toList == lo.toList) = true) (h3 : Op.bytesLess hi'.toList hi.toList = true) (hE : emptyB lo hi' false = false) (w : World) :
    Calls Tryd.prog 28 #[rngV lo hi false, rngV lo' hi' false] w fun e w' => e = .returned (rngV lo hi' false) ∧ Below w.heap.size w w' := by
  go_enter Tryd.func28, Tryd.ntmps28
  go_wp2_with (first | (go_at_call 26; refine (rempty_any _ _ _ _).mono ?_; rintro e w1 ⟨rfl, hb1⟩; obtain ⟨hx1, hx2⟩ := bcell hb1))
  have hA : Below w.heap.size w w1 := by
    refine Below.trans ?_ (hb1.mono (by simp; omega))
    go_grown
  refine bodyPost_ret (v := rngV lo hi' false) (by simp [results, Tryd.results28, go_sem, hx1]) rfl ⟨rfl, ((hA.setCell (by simp; omega) _).setCell (by simp; omega) _).setCell (by simp; omega) _⟩

set_option maxHeartbeats 1000000 in
theorem rb_ff_101 (lo hi lo' hi' : ByteArray) (h1 : Op.bytesLess lo'.toList lo.toList = false) (h2 : (lo'.toList == lo.toList) = true) (h3 : Op.bytesLess hi'.toList hi.toList = true) (hE : emptyB lo hi' false = true) (w : World) :
    Calls Tryd.prog 28 #[rngV lo hi false, rngV lo' hi' false] w fun e w' => e = .returned (noRng) ∧ Below w.heap.size w w' := by
  go_enter Tryd.func28, Tryd.ntmps28
  go_wp2_with (first | (go_at_call 26; refine (rempty_any _ _ _ _).mono ?_; rintro e w1 ⟨rfl, hb1⟩; obtain ⟨hx1, hx2⟩ := bcell hb1))
  have hA : Below w.heap.size w w1 := by
    refine Below.trans ?_ (hb1.mono (by simp; omega))
    go_grown
  refine bodyPost_ret (v := noRng) (by simp [results, Tryd.results28, go_sem, hx1]) rfl ⟨rfl, ((hA.setCell (by simp; omega) _).setCell (by simp; omega) _).setCell (by simp; omega) _⟩

set_option maxHeartbeats 1000000 in
theorem rb_ff_110 (lo hi lo' hi' : ByteArray) (h1 : Op.bytesLess lo'.toList lo.toList = false) (h2 : (lo'.toList == lo.toList) = true) (h3 : Op.bytesLess hi'.toList hi.toList = false) (hE : emptyB lo hi false = false) (w : World) :
    Calls Tryd.prog 28 #[rngV lo hi false, rngV lo' hi' false] w fun e w' => e = .returned (rngV lo hi false) ∧ Below w.heap.size w w' := by
  go_enter Tryd.func28, Tryd.ntmps28
  go_wp2_with (first | (go_at_call 26; refine (rempty_any _ _ _ _).mono ?_; rintro e w1 ⟨rfl, hb1⟩; obtain ⟨hx1, hx2⟩ := bcell hb1))
  have hA : Below w.heap.size w w1 := by
    refine Below.trans ?_ (hb1.mono (by simp; omega))
    go_grown
  refine bodyPost_ret (v := rngV lo hi false) (by simp [results, Tryd.results28, go_sem, hx1]) rfl ⟨rfl, ((hA.setCell (by simp; omega) _).setCell (by simp; omega) _).setCell (by simp; omega) _⟩

set_option maxHeartbeats 1000000 in
theorem rb_ff_111 (lo hi lo' hi' : ByteArray) (h1 : Op.bytesLess lo'.toList lo.toList = false) (h2 : (lo'.toList == lo.toList) = true) (h3 : Op.bytesLess hi'.toList hi.toList = false) (hE : emptyB lo hi false = true) (w : World) :
    Calls Tryd.prog 28 #[rngV lo hi false, rngV lo' hi' false] w fun e w' => e = .returned (noRng) ∧ Below w.heap.size w w' := by
  go_enter Tryd.func28, Tryd.ntmps28
  go_wp2_with (first | (go_at_call 26; refine (rempty_any _ _ _ _).mono ?_; rintro e w1 ⟨rfl, hb1⟩; obtain ⟨hx1, hx2⟩ := bcell hb1))
  have hA : Below w.heap.size w w1 := by
    refine Below.trans ?_ (hb1.mono (by simp; omega))
    go_grown
  refine bodyPost_ret (v := noRng) (by simp [results, Tryd.results28, go_sem, hx1]) rfl ⟨rfl, ((hA.setCell (by simp; omega) _).setCell (by simp; omega) _).setCell (by simp; omega) _⟩

set_option maxHeartbeats 1000000 in
theorem rb_ff_200 (lo hi lo' hi' : ByteArray) (h1 : Op.bytesLess lo'.toList lo.toList = false) (h2 : (lo'.toList == lo.toList) = false) (h3 : Op.bytesLess hi'.toList hi.toList = true) (hE : emptyB lo' hi' false = false) (w : World) :
    Calls Tryd.prog 28 #[rngV lo hi false, rngV lo' hi' false] w fun e w' => e = .returned (rngV lo' hi' false) ∧ Below w.heap.size w w' := by
  go_enter Tryd.func28, Tryd.ntmps28
  go_wp2_with (first | (go_at_call 26; refine (rempty_any _ _ _ _).mono ?_; rintro e w1 ⟨rfl, hb1⟩; obtain ⟨hx1, hx2⟩ := bcell hb1))
  have hA : Below w.heap.size w w1 := by
    refine Below.trans ?_ (hb1.mono (by simp; omega))
    go_grown
  refine bodyPost_ret (v := rngV lo' hi' false) (by simp [results, Tryd.results28, go_sem, hx1]) rfl ⟨rfl, ((hA.setCell (by simp; omega) _).setCell (by simp; omega) _).setCell (by simp; omega) _⟩

set_option maxHeartbeats 1000000 in
theorem rb_ff_201 (lo hi lo' hi' : ByteArray) (h1 : Op.bytesLess lo'.toList lo.toList = false) (h2 : (lo'.toList == lo.toList) = false) (h3 : Op.bytesLess hi'.toList hi.toList = true) (hE : emptyB lo' hi' false = true) (w : World) :
    Calls Tryd.prog 28 #[rngV lo hi false, rngV lo' hi' false] w fun e w' => e = .returned (noRng) ∧ Below w.heap.size w w' := by
  go_enter Tryd.func28, Tryd.ntmps28
  go_wp2_with (first | (go_at_call 26; refine (rempty_any _ _ _ _).mono ?_; rintro e w1 ⟨rfl, hb1⟩; obtain ⟨hx1, hx2⟩ := bcell hb1))
  have hA : Below w.heap.size w w1 := by
    refine Below.trans ?_ (hb1.mono (by simp; omega))
    go_grown
  refine bodyPost_ret (v := noRng) (by simp [results, Tryd.results28, go_sem, hx1]) rfl ⟨rfl, ((hA.setCell (by simp; omega) _).setCell (by simp; omega) _).setCell (by simp; omega) _⟩

set_option maxHeartbeats 1000000 in
theorem rb_ff_210 (lo hi lo' hi' : ByteArray) (h1 : Op.bytesLess lo'.toList lo.toList = false) (h2 : (lo'.toList == lo.toList) = false) (h3 : Op.bytesLess hi'.toList hi.toList = false) (hE : emptyB lo' hi false = false) (w : World) :
    Calls Tryd.prog 28 #[rngV lo hi false, rngV lo' hi' false] w fun e w' => e = .returned (rngV lo' hi false) ∧ Below w.heap.size w w' := by
  go_enter Tryd.func28, Tryd.ntmps28
  go_wp2_with (first | (go_at_call 26; refine (rempty_any _ _ _ _).mono ?_; rintro e w1 ⟨rfl, hb1⟩; obtain ⟨hx1, hx2⟩ := bcell hb1))
  have hA : Below w.heap.size w w1 := by
    refine Below.trans ?_ (hb1.mono (by simp; omega))
    go_grown
  refine bodyPost_ret (v := rngV lo' hi false) (by simp [results, Tryd.results28, go_sem, hx1]) rfl ⟨rfl, ((hA.setCell (by simp; omega) _).setCell (by simp; omega) _).setCell (by simp; omega) _⟩

set_option maxHeartbeats 1000000 in
theorem rb_ff_211 (lo hi lo' hi' : ByteArray) (h1 : Op.bytesLess lo'.toList lo.toList = false) (h2 : (lo'.toList == lo.toList) = false) (h3 : Op.bytesLess hi'.toList hi.toList = false) (hE : emptyB lo' hi false = true) (w : World) :
    Calls Tryd.prog 28 #[rngV lo hi false, rngV lo' hi' false] w fun e w' => e = .returned (noRng) ∧ Below w.heap.size w w' := by
  go_enter Tryd.func28, Tryd.ntmps28
  go_wp2_with (first | (go_at_call 26; refine (rempty_any _ _ _ _).mono ?_; rintro e w1 ⟨rfl, hb1⟩; obtain ⟨hx1, hx2⟩ := bcell hb1))
  have hA : Below w.heap.size w w1 := by
    refine Below.trans ?_ (hb1.mono (by simp; omega))
    go_grown
  refine bodyPost_ret (v := noRng) (by simp [results, Tryd.results28, go_sem, hx1]) rfl ⟨rfl, ((hA.setCell (by simp; omega) _).setCell (by simp; omega) _).setCell (by simp; omega) _⟩

theorem rboth_any (lo hi : ByteArray) (op : Bool) (lo' hi' : ByteArray) (op' : Bool) (w : World) :
    Calls Tryd.prog 28 #[rngV lo hi op, rngV lo' hi' op'] w fun e w' => e = .returned (rngV (bothR lo hi op lo' hi' op').1 (bothR lo hi op lo' hi' op').2.1 (bothR lo hi op lo' hi' op').2.2) ∧ Below w.heap.size w w' := by
  have hm : mxB lo lo' = if (!Op.bytesLess lo'.toList lo.toList && !(lo'.toList == lo.toList)) then lo' else lo := by unfold mxB; rw [gtB]
  have hn : mnB hi hi' = if Op.bytesLess hi'.toList hi.toList then hi' else hi := rfl
  unfold bothR bothH
  rw [hm, hn]
  cases h1 : Op.bytesLess lo'.toList lo.toList
  · cases h2 : (lo'.toList == lo.toList)
    · simp only [Bool.not_false, Bool.and_self, if_true]
      cases op
      · cases op'
        · cases h3 : Op.bytesLess hi'.toList hi.toList
          · simp only [Bool.and_self, Bool.false_eq_true, if_false]
            cases hE : emptyB lo' hi false
            · exact rb_ff_210 lo hi lo' hi' h1 h2 h3 hE w
            · exact rb_ff_211 lo hi lo' hi' h1 h2 h3 hE w
          · simp only [Bool.and_self, Bool.false_eq_true, if_false, if_true]
            cases hE : emptyB lo' hi' false
            · exact rb_ff_200 lo hi lo' hi' h1 h2 h3 hE w
            · exact rb_ff_201 lo hi lo' hi' h1 h2 h3 hE w
        · simp only [Bool.false_and, Bool.false_eq_true, if_false, if_true]
          cases hE : emptyB lo' hi false
          · exact rb_ft_200 lo hi lo' hi' h1 h2 hE w
          · exact rb_ft_201 lo hi lo' hi' h1 h2 hE w
      · cases op'
        · simp only [Bool.and_false, Bool.false_eq_true, if_false, if_true]
          cases hE : emptyB lo' hi' false
          · exact rb_tf_200 lo hi lo' hi' h1 h2 hE w
          · exact rb_tf_201 lo hi lo' hi' h1 h2 hE w
        · exact rb_tt_200 lo hi lo' hi' h1 h2 w
    · simp only [Bool.not_false, Bool.not_true, Bool.and_false, Bool.false_eq_true, if_false]
      cases op
      · cases op'
        · cases h3 : Op.bytesLess hi'.toList hi.toList
          · simp only [Bool.and_self, Bool.false_eq_true, if_false]
            cases hE : emptyB lo hi false
            · exact rb_ff_110 lo hi lo' hi' h1 h2 h3 hE w
            · exact rb_ff_111 lo hi lo' hi' h1 h2 h3 hE w
          · simp only [Bool.and_self, Bool.false_eq_true, if_false, if_true]
            cases hE : emptyB lo hi' false
            · exact rb_ff_100 lo hi lo' hi' h1 h2 h3 hE w
            · exact rb_ff_101 lo hi lo' hi' h1 h2 h3 hE w
        · simp only [Bool.false_and, Bool.false_eq_true, if_false, if_true]
          cases hE : emptyB lo hi false
          · exact rb_ft_100 lo hi lo' hi' h1 h2 hE w
          · exact rb_ft_101 lo hi lo' hi' h1 h2 hE w
      · cases op'
        · simp only [Bool.and_false, Bool.false_eq_true, if_false, if_true]
          cases hE : emptyB lo hi' false
          · exact rb_tf_100 lo hi lo' hi' h1 h2 hE w
          · exact rb_tf_101 lo hi lo' hi' h1 h2 hE w
        · exact rb_tt_100 lo hi lo' hi' h1 h2 w
  · simp only [Bool.not_true, Bool.false_and, Bool.false_eq_true, if_false]
    cases op
    · cases op'
      · cases h3 : Op.bytesLess hi'.toList hi.toList
        · simp only [Bool.and_self, Bool.false_eq_true, if_false]
          cases hE : emptyB lo hi false
          · exact rb_ff_010 lo hi lo' hi' h1 h3 hE w
          · exact rb_ff_011 lo hi lo' hi' h1 h3 hE w
        · simp only [Bool.and_self, Bool.false_eq_true, if_false, if_true]
          cases hE : emptyB lo hi' false
          · exact rb_ff_000 lo hi lo' hi' h1 h3 hE w
          · exact rb_ff_001 lo hi lo' hi' h1 h3 hE w
      · simp only [Bool.false_and, Bool.false_eq_true, if_false, if_true]
        cases hE : emptyB lo hi false
        · exact rb_ft_000 lo hi lo' hi' h1 hE w
        · exact rb_ft_001 lo hi lo' hi' h1 hE w
    · cases op'
      · simp only [Bool.and_false, Bool.false_eq_true, if_false, if_true]
        cases hE : emptyB lo hi' false
        · exact rb_tf_000 lo hi lo' hi' h1 hE w
        · exact rb_tf_001 lo hi lo' hi' h1 hE w
      · exact rb_tt_000 lo hi lo' hi' h1 w
end Go.Proofs.YteffaldahccgiaaDoor
