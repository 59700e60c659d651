/- The document's side: how points stand, what a foot reads. -/
import Derived.Test.YtjeidpgkgjljcaaWCl10
namespace Go.Proofs.Ytjeidpgkgjljcaa
open Go.RowKit
set_option maxRecDepth 100000

theorem cmpS_cb (a b : ByteArray) : cmpS a b = Lib.compareBytes a.data.toList b.data.toList := by
  unfold cmpS
  rw [ByteArray.toList_eq, ByteArray.toList_eq, less_cb, eq_cb]
  rcases cb_range a.data.toList b.data.toList with h | h | h <;> simp [h]

set_option maxHeartbeats 1000000 in
theorem rstr_any (a b : ByteArray) (w : World) : Calls Try.prog 48 #[.string a, .string b] w fun e w' => e = .returned (.int .i64 (Lib.compareBytes a.data.toList b.data.toList)) ∧ w' = w := by
  rw [← cmpS_cb]
  unfold cmpS
  cases h1 : Op.bytesLess a.toList b.toList <;> cases h2 : (a.toList == b.toList)
  all_goals
    go_enter Try.func48, Try.ntmps48
    go_wp2
    go_ret
    exact ⟨rfl, rfl⟩

set_option maxHeartbeats 1000000 in
theorem rhas_any (lo hi : ByteArray) (op : Bool) (k : ByteArray) (w : World) :
    Calls Try.prog 52 #[rngV lo hi op, .string k] w fun e w' => e = .returned (.bool (hasB lo hi op k)) ∧ Below w.heap.size w w' := by
  unfold hasB ltB
  cases h1 : Op.bytesLess k.toList lo.toList <;> cases op <;> cases h2 : Op.bytesLess k.toList hi.toList
  all_goals
    go_enter Try.func52, Try.ntmps52
    go_wp2
    go_ret
    exact ⟨rfl, by go_grown⟩

set_option maxHeartbeats 2000000 in
theorem rcmp_any (x y : Pt) (w : World) : Calls Try.prog 25 #[PV x, PV y] w fun e w' => e = .returned (.int .i64 (cmpP x y)) ∧ Below w.heap.size w w' := by
  have C3 : Hid (∀ w1 : World, Calls _ _ _ _ _) := fun w1 => rstr_any x.k y.k w1
  unfold cmpP
  generalize Lib.compareBytes x.k.data.toList y.k.data.toList = r3 at *
  rcases cmpI_cases x.t y.t with ⟨h, e⟩ | ⟨h, e⟩ | ⟨h, e⟩
  · have h1 : (x.t != y.t) = true := by simp; omega
    rw [e]
    go_enter Try.func25, Try.ntmps25
    go_wp2_with fail
    go_ret
    exact ⟨rfl, by go_grown⟩
  · have h1 : (x.t != y.t) = false := by simp [h]
    rw [e]
    rcases cmpI_cases x.i y.i with ⟨h2, e2⟩ | ⟨h2, e2⟩ | ⟨h2, e2⟩
    · have h3 : (x.i != y.i) = true := by simp; omega
      rw [e2]
      clear h
      go_enter Try.func25, Try.ntmps25
      go_wp2_with fail
      go_ret
      exact ⟨rfl, by go_grown⟩
    · have h3 : (x.i != y.i) = false := by simp [h2]
      rw [e2]
      clear h h2
      go_enter Try.func25, Try.ntmps25
      go_wp2_with fail
      refine (C3.out _).mono ?_
      rintro e w1 ⟨rfl, hw1⟩
      rw [hw1]
      clear hw1
      go_wp2_with fail
      go_ret
      exact ⟨rfl, by go_grown⟩
    · have h3 : (x.i != y.i) = true := by simp; omega
      have h4 : decide (x.i < y.i) = false := by simp; omega
      rw [e2]
      clear h h2
      go_enter Try.func25, Try.ntmps25
      go_wp2_with fail
      go_ret
      exact ⟨rfl, by go_grown⟩
  · have h1 : (x.t != y.t) = true := by simp; omega
    have h4 : decide (x.t < y.t) = false := by simp; omega
    rw [e]
    clear h
    go_enter Try.func25, Try.ntmps25
    go_wp2_with fail
    go_ret
    exact ⟨rfl, by go_grown⟩

set_option maxHeartbeats 4000000 in
theorem rspanned_any (x : Pt) (L : List Sp) (p : Option Addr) (c : Nat) (w : World) (hR : RowS w w.heap.size p L) (hlen : L.length ≤ 2513169434916) :
    Calls Try.prog 30 #[.slice p L.length c, PV x] w fun e w' => e = .returned (.bool (L.any (fun s => inS x s))) ∧ Below w.heap.size w w' := by
  have hal : Below w.heap.size w (w.alloc (.cells #[.int .i64 x.t, .int .i64 x.i, .string x.k] 27)) := (Below.refl _ _).alloc (Nat.le_refl _) _
  have HW : Hid (Blk (w.alloc (.cells #[.int .i64 x.t, .int .i64 x.i, .string x.k] 27)) w.heap.size #[.int .i64 x.t, .int .i64 x.i, .string x.k] 27 ∧ RowS (w.alloc (.cells #[.int .i64 x.t, .int .i64 x.i, .string x.k] 27)) (w.alloc (.cells #[.int .i64 x.t, .int .i64 x.i, .string x.k] 27)).heap.size p L ∧ Below w.heap.size w (w.alloc (.cells #[.int .i64 x.t, .int .i64 x.i, .string x.k] 27))) := ⟨Blk.new w _ _, hR.on hal, hal⟩
  have HST : Hid (∀ (j : Nat) (hj : j < L.length), j ≤ firstG (fun s => inS x s) L → (inS x L[j] = true → firstG (fun s => inS x s) L = j) ∧ (inS x L[j] = false → j + 1 ≤ firstG (fun s => inS x s) L)) := firstG_step (fun s => inS x s) L
  have HIF : Hid (firstG (fun s => inS x s) L = L.length ↔ L.any (fun s => inS x s) = false) := firstG_iff (fun s => inS x s) L
  have HFL := firstG_le (fun s => inS x s) L
  clear hR hal
  generalize firstG (fun s => inS x s) L = f at *
  generalize L.any (fun s => inS x s) = an at *
  go_enter Try.func30, Try.ntmps30
  go_wp2_with fail
  generalize (w.alloc (.cells #[.int .i64 x.t, .int .i64 x.i, .string x.k] 27)) = wA at *
  go_loopw [5] (fun i wr => ∃ j : Nat, j ≤ f ∧ i = .int .i64 (j : Int) ∧ Hid (Below wA.heap.size wA wr)) (fun i _ => L.length - (intOf i).toNat)
  case atStart => exact ⟨0, Nat.zero_le _, by go_num, Below.refl _ _⟩
  case round =>
    obtain ⟨j, hj, rfl, HN⟩ := hrel
    have HE : Hid (Below w.heap.size w wr) := HW.out.2.2.trans (HN.out.mono HW.out.2.2.size)
    by_cases hj0 : j = L.length
    · have han : an = false := HIF.out.1 (by omega)
      subst hj0 han
      go_wp2_with fail
      go_ret
      exact ⟨rfl, HE.out⟩
    · have hj1 : j < L.length := by omega
      obtain ⟨b, o, hp, hbB, c0, c1, c2, c3, c4⟩ := (HW.out.2.1.on HN.out) j hj1
      have s0 := InB.cell (w := wr) c0 hbB
      have s1 := InB.cell (w := wr) c1 hbB
      have s2 := InB.cell (w := wr) c2 hbB
      have s3 := InB.cell (w := wr) c3 hbB
      have s4 := InB.cell (w := wr) c4 hbB
      have hX := HW.out.1.on HN.out
      have a0 := InB.cell (w := wr) (hX.cell (i := 0) rfl) hX.lt
      have a1 := InB.cell (w := wr) (hX.cell (i := 1) rfl) hX.lt
      have a2 := InB.cell (w := wr) (hX.cell (i := 2) rfl) hX.lt
      have ne1 := inB_ne wr
      have hst := HST.out j hj1 hj
      subst hp
      clear hj0 c0 c1 c2 c3 c4 hX hbB
      generalize L[j] = s at *
      have CH : Hid (∀ w1 : World, Calls Try.prog 52 #[rngV s.lo s.hi s.op, .string x.k] w1 fun e w' => e = .returned (.bool (hasB s.lo s.hi s.op x.k)) ∧ Below w1.heap.size w1 w') := fun w1 => rhas_any s.lo s.hi s.op x.k w1
      have hin : inS x s = ((s.t == x.t) && ((s.i == x.i) && hasB s.lo s.hi s.op x.k)) := by
        unfold inS
        rw [show (x.t == s.t) = (s.t == x.t) from by rw [Bool.eq_iff_iff, beq_iff_eq, beq_iff_eq]; exact ⟨Eq.symm, Eq.symm⟩, show (x.i == s.i) = (s.i == x.i) from by rw [Bool.eq_iff_iff, beq_iff_eq, beq_iff_eq]; exact ⟨Eq.symm, Eq.symm⟩]
      rw [hin] at hst
      clear hin
      generalize hasB s.lo s.hi s.op x.k = hb at *
      cases h1 : (s.t == x.t) <;> cases h2 : (s.i == x.i) <;> cases hb
      all_goals
        rw [h1, h2] at hst
        simp only [Bool.and_true, Bool.and_false, Bool.and_self, Bool.false_eq_true, false_implies, true_and, forall_const] at hst
        go_wp2_with fail
        refine wp_region_inB (by kernel_rfl) (by kernel_rfl) ?_
        repeat (go_big_quiet_step (first
          | (go_at_call 52; exact Calls.inB (CH.out _))))
        refine wpQuiet_nil ?_
        rintro w7 ⟨⟨w8, hb7⟩, h9⟩
        obtain rfl : w7 = w8 := h9
        clear s0 s1 s2 s3 s4 a0 a1 a2 ne1 CH
        go_wp2_with fail
      all_goals first
        | (go_roundw
           case rel => exact ⟨j + 1, by omega, by go_num, HN.out.trans (hb7.mono HN.out.size)⟩
           case measure => simp [intOf]; omega)
        | (go_ret
           have han : an = true := by
             cases h : an
             · have := HIF.out.2 h; omega
             · rfl
           exact ⟨by rw [han]; rfl, HE.out.trans (hb7.mono HE.out.size)⟩)
end Go.Proofs.Ytjeidpgkgjljcaa
