/- Intents held against their like. -/
import Derived.Test.YteddpogjpohacabWOwV8
import Derived.Test.YteddpogjpohacabWSam8
namespace Go.Proofs.Yteddpogjpohacab
open Go.RowKit
set_option maxRecDepth 100000

set_option maxHeartbeats 4000000 in
theorem sameIntent_eq (L : List Rw) (p q : Option Addr) (c d : Nat) (tx : Int) (w : World) (hA : RdR .i64 w w.heap.size p L) (hB : RdR .i64 w w.heap.size q L) (hlen : L.length ≤ 17592186043904) (hsh : shortR L) :
    Calls Try.prog 16 #[.agg #[.int .i64 tx, .slice p L.length c], .agg #[.int .i64 tx, .slice q L.length d]] w fun e w' => e = .returned (.bool true) ∧ Below w.heap.size w w' := by
  have HA : Hid (∀ w1, Below w.heap.size w w1 → RdR .i64 w1 w1.heap.size p L) := fun w1 h => hA.on h
  have HB : Hid (∀ w1, Below w.heap.size w w1 → RdR .i64 w1 w1.heap.size q L) := fun w1 h => hB.on h
  have HS : Hid (shortR L) := hsh
  clear hA hB hsh
  have hx1 := (Box.new w #[.int .i64 tx, .slice p L.length c] 36).on ((Below.refl _ _).alloc (Nat.le_refl _) (.cells #[.int .i64 tx, .slice q L.length d] 36))
  have hx2 := Box.new (w.alloc (.cells #[.int .i64 tx, .slice p L.length c] 36)) #[.int .i64 tx, .slice q L.length d] 36
  have hs1 : (w.alloc (.cells #[.int .i64 tx, .slice p L.length c] 36)).heap.size = w.heap.size + 1 := by simp [go_sem]
  rw [hs1] at hx2
  have HB0 : Hid (Below w.heap.size w ((w.alloc (.cells #[.int .i64 tx, .slice p L.length c] 36)).alloc (.cells #[.int .i64 tx, .slice q L.length d] 36))) := by
    show Below _ _ _
    go_grown
  have HX : Hid (Box _ w.heap.size _ _ ∧ Box _ (w.heap.size + 1) _ _) := ⟨hx1, hx2⟩
  clear hs1 hx1 hx2
  go_enter Try.func16, Try.ntmps16
  go_wp2_with fail
  generalize (w.alloc (.cells #[.int .i64 tx, .slice p L.length c] 36)).alloc (.cells #[.int .i64 tx, .slice q L.length d] 36) = w0 at *
  go_loopw [5] (fun i wr => ∃ j : Nat, j ≤ L.length ∧ i = .int .i64 (j : Int) ∧ Below w0.heap.size w0 wr) (fun i _ => L.length - (intOf i).toNat)
  case atStart => exact ⟨0, Nat.zero_le _, by go_num, Below.refl _ _⟩
  case round =>
    obtain ⟨j, hj, rfl, hn⟩ := hrel
    obtain ⟨x0, x1, _, _⟩ := box2 (HX.out.1.on hn)
    obtain ⟨y0, y1, _, _⟩ := box2 (HX.out.2.on hn)
    have hxl := (HX.out.1.on hn).lt
    have hyl := (HX.out.2.on hn).lt
    have hB : Below w.heap.size w wr := HB0.out.trans (hn.mono HB0.out.size)
    by_cases hj0 : j = L.length
    · subst hj0
      have HBr : Hid (Below w.heap.size w wr) := hB
      clear hB
      go_wp2
      go_ret
      exact ⟨rfl, HBr.out⟩
    · have hj1 : j < L.length := by omega
      obtain ⟨b, o, q1, d1, rfl, hbB, c0, c1, c2, hr1, _⟩ := HA.out wr hB j hj1
      obtain ⟨b2, o2, q2, d2, rfl, hbB2, e0, e1, e2, hr2, _⟩ := HB.out wr hB j hj1
      have CS : Hid (∀ w1 : World, Below wr.heap.size wr w1 → Calls Try.prog 15 #[.slice q1 L[j].row.length d1, .slice q2 L[j].row.length d2] w1 fun e w' => e = .returned (.bool true) ∧ Below w1.heap.size w1 w') := fun w1 h =>
        sameRow_eq L[j].row q1 q2 d1 d2 w1 (hr1.on h) (hr2.on h) (by have := HS.out j hj1; omega)
      clear hj0 hr1 hr2 hB
      generalize L[j].n = xn at *
      generalize L[j].gn = xg at *
      generalize L[j].row.length = xl at *
      go_wp2_with fail
      have hbx : Below wr.heap.size wr ((wr.alloc (.cells #[.int .i64 xn, .bool xg, .slice q1 xl d1] 40)).alloc (.cells #[.int .i64 xn, .bool xg, .slice q2 xl d2] 40)) := by go_grown
      refine (CS.out _ hbx).mono ?_
      rintro e w6 ⟨rfl, hb6⟩
      have HB6 : Hid (Below w0.heap.size w0 w6) := hn.trans ((hbx.trans (hb6.mono hbx.size)).mono hn.size)
      clear hbx hb6
      go_wp2_with fail
      go_roundw
      case rel => exact ⟨j + 1, by omega, by go_num, HB6.out⟩
      case measure => simp [intOf]; omega
end Go.Proofs.Yteddpogjpohacab
