/- The walks of values: same, compared, plain. -/
import Derived.Test.YtljiokkdaelmpaaGreatDoorProg
import Derived.Test.YtljiokkdaelmpaaGreatDoorMPlain
import Derived.WalkKit
import Derived.WalkLawsBesides
import Derived.Deep.QuietTactic
import Derived.BigQuiet
import Derived.Deep.RegionHeld3
import Derived.Handy
import Derived.Deep.Light
namespace Go.Proofs.YtljiokkdaelmpaaGreatDoor
open Go.RowKit Ieee
set_option maxRecDepth 100000

/-- two values, bit by bit -/
def sameB (k n k' n' : Int) (f f' : Nat) (s s' : ByteArray) : Bool := (k == k') && ((n == n') && ((((f : Int)) == (f' : Int)) && (s.toList == s'.toList)))

theorem run_fbits (f : Nat) (w : World) : (callFunc 40 #[.float .f64 f]).run Tryz.prog w = .ok (.value (.int .u64 f)) w := by
  rw [run_callFunc_extern (fn := Tryz.f40) (e := Extern.MathFloatBits.float64bits) Tryz.func40 (by kernel_rfl) (by kernel_rfl) (by kernel_rfl) (by kernel_rfl)]
  rfl

set_option maxHeartbeats 400000 in
theorem sameBits_any (f f' : Nat) (w : World) :
    Calls Tryz.prog 45 #[.float .f64 f, .float .f64 f'] w fun e w' => e = .returned (.bool ((f : Int) == (f' : Int))) ∧ w' = w := by
  have hb := run_fbits
  go_enter Tryz.func45, Tryz.ntmps45
  go_wp2
  go_ret
  exact ⟨rfl, rfl⟩

theorem bcell {W w1 : World} (hb : Below W.heap.size W w1) : (∀ b o, b < W.heap.size → w1.cell? ⟨b, o, none⟩ = W.cell? ⟨b, o, none⟩) ∧ (∀ b o, b < W.heap.size → w1.frozen? ⟨b, o, none⟩ = W.frozen? ⟨b, o, none⟩) :=
  ⟨fun b o h => hb.cell (p := ⟨b, o, none⟩) h, fun b o h => hb.frozen (p := ⟨b, o, none⟩) h⟩







set_option maxHeartbeats 400000 in
theorem risNaN_any (f : Nat) (w : World) :
    Calls Tryz.prog 43 #[.float .f64 f] w fun e w' => e = .returned (.bool (nanO f)) ∧ w' = w := by
  go_enter Tryz.func43, Tryz.ntmps43
  go_wp2
  go_ret
  exact ⟨rfl, rfl⟩

set_option maxHeartbeats 400000 in
theorem isNaN_any (f : Nat) (w : World) :
    Calls Tryz.prog 34 #[.float .f64 f] w fun e w' => e = .returned (.bool (nanB f)) ∧ w' = w := by
  have hb := run_fbits
  go_enter Tryz.func34, Tryz.ntmps34
  go_wp2
  go_ret
  exact ⟨rfl, rfl⟩







theorem run_store_float (w : World) (a : Addr) (k : FloatKind) (b : Nat) (m : Mode) : (store a (.float k b) m).run Tryz.prog w = stored Tryz.prog w a (.float k b) m := run_store Tryz.prog w a _ m rfl

theorem old_cell {w w1 : World} {b o : Nat} {v : Option Value} (hb : Below w.heap.size w w1) (hg : b < w.heap.size) (hc : w.cell? ⟨b, o, none⟩ = v) : w1.cell? ⟨b, o, none⟩ = v :=
  (hb.cell (p := ⟨b, o, none⟩) hg).trans hc

theorem run_frombits (n : Nat) (w : World) : (callFunc 133 #[.int .u64 (n : Int)]).run Tryz.prog w = .ok (.value (.float .f64 n)) w := by
  rw [run_callFunc_extern (fn := Tryz.f133) (e := Extern.MathFloatBits.float64frombits) Tryz.func133 (by kernel_rfl) (by kernel_rfl) (by kernel_rfl) (by kernel_rfl)]
  rfl
theorem run_nanbits (w : World) : (callFunc 133 #[.int .u64 9221120237041090560]).run Tryz.prog w = .ok (.value (.float .f64 9221120237041090560)) w := run_frombits 9221120237041090560 w









end Go.Proofs.YtljiokkdaelmpaaGreatDoor
