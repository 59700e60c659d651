/- The walks of values: same, compared, plain. -/
import Derived.Test.YtobgdjjicgiefaaGreatDoorProg
import Derived.Test.YtobgdjjicgiefaaGreatDoorMPlain
import Derived.WalkKit
import Derived.WalkLawsBesides
import Derived.Deep.QuietTactic
import Derived.BigQuiet
import Derived.Deep.RegionHeld3
import Derived.Handy
import Derived.Deep.Light
namespace Go.Proofs.YtobgdjjicgiefaaGreatDoor
open Go.RowKit Ieee
set_option maxRecDepth 100000

/-- two values, bit by bit -/
def sameB (k n k' n' : Int) (f f' : Nat) (s s' : ByteArray) : Bool := (k == k') && ((n == n') && ((((f : Int)) == (f' : Int)) && (s.toList == s'.toList)))

theorem run_fbits (f : Nat) (w : World) : (callFunc 64 #[.float .f64 f]).run Tryz.prog w = .ok (.value (.int .u64 f)) w := by
  rw [run_callFunc_extern (fn := Tryz.f64) (e := Extern.MathFloatBits.float64bits) Tryz.func64 (by kernel_rfl) (by kernel_rfl) (by kernel_rfl) (by kernel_rfl)]
  rfl

set_option maxHeartbeats 400000 in
theorem sameBits_any (f f' : Nat) (w : World) :
    Calls Tryz.prog 107 #[.float .f64 f, .float .f64 f'] w fun e w' => e = .returned (.bool ((f : Int) == (f' : Int))) ∧ w' = w := by
  have hb := run_fbits
  go_enter Tryz.func107, Tryz.ntmps107
  go_wp2
  go_ret
  exact ⟨rfl, rfl⟩

theorem bcell {W w1 : World} (hb : Below W.heap.size W w1) : (∀ b o, b < W.heap.size → w1.cell? ⟨b, o, none⟩ = W.cell? ⟨b, o, none⟩) ∧ (∀ b o, b < W.heap.size → w1.frozen? ⟨b, o, none⟩ = W.frozen? ⟨b, o, none⟩) :=
  ⟨fun b o h => hb.cell (p := ⟨b, o, none⟩) h, fun b o h => hb.frozen (p := ⟨b, o, none⟩) h⟩



theorem rsame_any (k n k' n' : Int) (f f' : Nat) (s s' : ByteArray) (w : World) :
    Calls Tryz.prog 45 #[.agg #[.int .i64 k, .int .i64 n, .float .f64 f, .string s], .agg #[.int .i64 k', .int .i64 n', .float .f64 f', .string s']] w fun e w' => e = .returned (.bool (sameB k n k' n' f f' s s')) ∧ Below w.heap.size w w' := by
  have hb := run_fbits
  unfold sameB
  cases hk : (k == k')
  · go_enter Tryz.func45, Tryz.ntmps45
    go_wp2
    go_quiet (fail)
    go_wp2
    go_ret
    exact ⟨by simp, below_drewN (by go_grown) _⟩
  cases hn : (n == n')
  · go_enter Tryz.func45, Tryz.ntmps45
    go_wp2
    go_quiet (fail)
    go_wp2
    go_ret
    exact ⟨by simp, below_drewN (by go_grown) _⟩
  cases hf : ((f : Int) == (f' : Int))
  · go_enter Tryz.func45, Tryz.ntmps45
    go_wp2
    go_quiet (fail)
    go_wp2
    go_ret
    exact ⟨by simp, below_drewN (by go_grown) _⟩
  · go_enter Tryz.func45, Tryz.ntmps45
    go_wp2
    go_quiet (fail)
    go_wp2
    go_ret
    exact ⟨by simp, below_drewN (by go_grown) _⟩



set_option maxHeartbeats 400000 in
theorem risNaN_any (f : Nat) (w : World) :
    Calls Tryz.prog 82 #[.float .f64 f] w fun e w' => e = .returned (.bool (nanO f)) ∧ w' = w := by
  go_enter Tryz.func82, Tryz.ntmps82
  go_wp2
  go_ret
  exact ⟨rfl, rfl⟩

set_option maxHeartbeats 400000 in
theorem isNaN_any (f : Nat) (w : World) :
    Calls Tryz.prog 108 #[.float .f64 f] w fun e w' => e = .returned (.bool (nanB f)) ∧ w' = w := by
  have hb := run_fbits
  go_enter Tryz.func108, Tryz.ntmps108
  go_wp2
  go_ret
  exact ⟨rfl, rfl⟩







theorem run_store_float (w : World) (a : Addr) (k : FloatKind) (b : Nat) (m : Mode) : (store a (.float k b) m).run Tryz.prog w = stored Tryz.prog w a (.float k b) m := run_store Tryz.prog w a _ m rfl

theorem old_cell {w w1 : World} {b o : Nat} {v : Option Value} (hb : Below w.heap.size w w1) (hg : b < w.heap.size) (hc : w.cell? ⟨b, o, none⟩ = v) : w1.cell? ⟨b, o, none⟩ = v :=
  (hb.cell (p := ⟨b, o, none⟩) hg).trans hc











end Go.Proofs.YtobgdjjicgiefaaGreatDoor
