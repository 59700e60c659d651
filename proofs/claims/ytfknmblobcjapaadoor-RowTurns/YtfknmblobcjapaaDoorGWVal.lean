/- The walks of values: same, compared, plain. -/
import Derived.Test.YtfknmblobcjapaaDoorProg
import Derived.WalkKit
import Derived.WalkLawsBesides
import Derived.Deep.QuietTactic
import Derived.BigQuiet
import Derived.Deep.RegionHeld3
import Derived.Handy
import Derived.Deep.Light
import Derived.Test.YtfknmblobcjapaaDoorGMPlain
namespace Go.Proofs.YtfknmblobcjapaaDoor
open Go.RowKit Ieee
set_option maxRecDepth 100000

/-- two values, bit by bit -/
def sameB (k n k' n' : Int) (f f' : Nat) (s s' : ByteArray) : Bool := (k == k') && ((n == n') && ((((f : Int)) == (f' : Int)) && (s.toList == s'.toList)))

theorem run_fbits (f : Nat) (w : World) : (callFunc 27 #[.float .f64 f]).run Tryd.prog w = .ok (.value (.int .u64 f)) w := by
  rw [run_callFunc_extern (fn := Tryd.f27) (e := Extern.MathFloatBits.float64bits) Tryd.func27 (by kernel_rfl) (by kernel_rfl) (by kernel_rfl) (by kernel_rfl)]
  rfl

set_option maxHeartbeats 400000 in
theorem sameBits_any (f f' : Nat) (w : World) :
    Calls Tryd.prog 20 #[.float .f64 f, .float .f64 f'] w fun e w' => e = .returned (.bool ((f : Int) == (f' : Int))) ∧ w' = w := by
  have hb := run_fbits
  go_enter Tryd.func20, Tryd.ntmps20
  go_wp2
  go_ret
  exact ⟨rfl, rfl⟩

theorem bcell {W w1 : World} (hb : Below W.heap.size W w1) : (∀ b o, b < W.heap.size → w1.cell? ⟨b, o, none⟩ = W.cell? ⟨b, o, none⟩) ∧ (∀ b o, b < W.heap.size → w1.frozen? ⟨b, o, none⟩ = W.frozen? ⟨b, o, none⟩) :=
  ⟨fun b o h => hb.cell (p := ⟨b, o, none⟩) h, fun b o h => hb.frozen (p := ⟨b, o, none⟩) h⟩

set_option maxHeartbeats 400000 in
theorem same_any (k n k' n' : Int) (f f' : Nat) (s s' : ByteArray) (w : World) :
    Calls Tryd.prog 9 #[.agg #[.int .i64 k, .int .i64 n, .float .f64 f, .string s], .agg #[.int .i64 k', .int .i64 n', .float .f64 f', .string s']] w fun e w' => e = .returned (.bool (sameB k n k' n' f f' s s')) ∧ Below w.heap.size w w' := by
  go_enter Tryd.func9, Tryd.ntmps9
  go_wp2_with (first | (go_at_call 20; refine (sameBits_any _ _ _).mono ?_; rintro e w' ⟨rfl, rfl⟩))
  all_goals go_ret
  all_goals (refine ⟨?_, by go_grown⟩)
  all_goals (simp [sameB, *])

theorem rsame_any (k n k' n' : Int) (f f' : Nat) (s s' : ByteArray) (w : World) :
    Calls Tryd.prog 15 #[.agg #[.int .i64 k, .int .i64 n, .float .f64 f, .string s], .agg #[.int .i64 k', .int .i64 n', .float .f64 f', .string s']] w fun e w' => e = .returned (.bool (sameB k n k' n' f f' s s')) ∧ Below w.heap.size w w' := by
  have hb := run_fbits
  unfold sameB
  cases hk : (k == k')
  · go_enter Tryd.func15, Tryd.ntmps15
    go_wp2
    go_quiet (fail)
    go_wp2
    go_ret
    exact ⟨by simp, below_drewN (by go_grown) _⟩
  cases hn : (n == n')
  · go_enter Tryd.func15, Tryd.ntmps15
    go_wp2
    go_quiet (fail)
    go_wp2
    go_ret
    exact ⟨by simp, below_drewN (by go_grown) _⟩
  cases hf : ((f : Int) == (f' : Int))
  · go_enter Tryd.func15, Tryd.ntmps15
    go_wp2
    go_quiet (fail)
    go_wp2
    go_ret
    exact ⟨by simp, below_drewN (by go_grown) _⟩
  · go_enter Tryd.func15, Tryd.ntmps15
    go_wp2
    go_quiet (fail)
    go_wp2
    go_ret
    exact ⟨by simp, below_drewN (by go_grown) _⟩













theorem run_store_float (w : World) (a : Addr) (k : FloatKind) (b : Nat) (m : Mode) : (store a (.float k b) m).run Tryd.prog w = stored Tryd.prog w a (.float k b) m := run_store Tryd.prog w a _ m rfl

theorem old_cell {w w1 : World} {b o : Nat} {v : Option Value} (hb : Below w.heap.size w w1) (hg : b < w.heap.size) (hc : w.cell? ⟨b, o, none⟩ = v) : w1.cell? ⟨b, o, none⟩ = v :=
  (hb.cell (p := ⟨b, o, none⟩) hg).trans hc

theorem run_frombits (n : Nat) (w : World) : (callFunc 78 #[.int .u64 (n : Int)]).run Tryd.prog w = .ok (.value (.float .f64 n)) w := by
  rw [run_callFunc_extern (fn := Tryd.f78) (e := Extern.MathFloatBits.float64frombits) Tryd.func78 (by kernel_rfl) (by kernel_rfl) (by kernel_rfl) (by kernel_rfl)]
  rfl
theorem run_nanbits (w : World) : (callFunc 78 #[.int .u64 9221120237041090560]).run Tryd.prog w = .ok (.value (.float .f64 9221120237041090560)) w := run_frombits 9221120237041090560 w









end Go.Proofs.YtfknmblobcjapaaDoor
