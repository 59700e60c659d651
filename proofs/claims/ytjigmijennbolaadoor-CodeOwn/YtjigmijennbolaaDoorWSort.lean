/- Ranges sorted by their beginnings: slices.SortFunc with the program's function. -/
import Derived.Test.YtjigmijennbolaaDoorWUni
import Derived.Test.YtjigmijennbolaaDoorWShS
namespace Go.Proofs
open Go.Shelf Go.RowKit Go.Lib Go.Sort
namespace YtjigmijennbolaaDoor
set_option maxRecDepth 100000

set_option maxHeartbeats 1000000 in
theorem isNaNs_any (x : ByteArray) (w : World) : Calls Tryd.prog 49 #[.string x] w fun e w' => e = .returned (.bool false) ∧ w' = w := by
  have h : (x.toList != x.toList) = false := by simp [bne]
  go_enter Tryd.func49, Tryd.ntmps49
  go_wp2
  go_ret
  exact ⟨rfl, rfl⟩

set_option maxHeartbeats 1000000 in
theorem compareS_any (x y : ByteArray) (w : World) : Calls Tryd.prog 32 #[.string x, .string y] w fun e w' => e = .returned (.int .i64 (cmpS x y)) ∧ w' = w := by
  unfold cmpS
  cases h1 : Op.bytesLess x.toList y.toList <;> cases h2 : (x.toList == y.toList)
  all_goals
    go_enter Tryd.func32, Tryd.ntmps32
    go_wp2_with (first | (go_at_call 49; refine (isNaNs_any _ _).mono ?_; rintro e w1 ⟨rfl, hww⟩; obtain rfl := hww.symm))
    go_ret
    exact ⟨rfl, rfl⟩

def encR (r : Rg) : List Value := [.string r.lo, .string r.hi, .bool r.op]
def cfR (x y : Rg) : Int := cmpS x.lo y.lo

set_option maxHeartbeats 1000000 in
theorem closureR (x y : Rg) (W : World) : Calls Tryd.prog 31 #[.agg #[.string x.lo, .string x.hi, .bool x.op], .agg #[.string y.lo, .string y.hi, .bool y.op]] W fun e w' => e = .returned (.int .i64 (cfR x y)) ∧ ∃ q os', w' = grow (W.drewN q) os' := by
  have C1 : Hid (∀ w1 : World, Calls _ _ _ _ _) := fun w1 => compareS_any x.lo y.lo w1
  unfold cfR
  generalize cmpS x.lo y.lo = r at *
  go_enter Tryd.func31, Tryd.ntmps31
  go_wp2_with (go_at_call 32; refine (C1.out _).mono ?_; rintro e w' ⟨rfl, rfl⟩)
  go_ret
  exact ⟨rfl, 0, _, by rw [alloc_eq_grow, alloc_eq_grow, grow_grow]; rfl⟩

theorem cmpLaysR [Inhabited Rg] (blk off size : Nat) (w : World) : CmpLays Tryd.prog 31 #[] encR 3 cfR blk off size w := fun _ _ _ _ x y => closureR x y _

theorem ltOf_cf (x y : Rg) : ltOf cfR x y = ltB x.lo y.lo := by
  unfold ltOf cfR cmpS ltB
  cases h1 : Op.bytesLess x.lo.toList y.lo.toList <;> cases h2 : (x.lo.toList == y.lo.toList) <;> rfl
theorem swoR : SWO (ltOf cfR) where
  irrefl x := by rw [ltOf_cf]; exact ltB_irrefl _
  trans x y z h1 h2 := by rw [ltOf_cf] at *; exact lt_trans' h1 h2
  ntrans x y z h1 h2 := by rw [ltOf_cf] at *; exact le_trans' h2 h1

set_option maxHeartbeats 1000000 in
/-- slices.SortFunc, as Union calls it -/
theorem sortR_any [Inhabited Rg] (blk off cap : Nat) (d : Array Rg) (w : World) (hH : HoldsK encR 3 w blk off d) (hblk : blk < w.heap.size) (hsz : d.size < 4611686018427387904) :
    Calls Tryd.prog 30 #[.slice (some ⟨blk, off, none⟩) d.size cap, .func (.func 31) #[] #[]] w fun e w' => e = .returned (.tuple #[]) ∧ ∃ d' n os, PermIn 0 d.size d d' ∧ SortedIn (ltOf cfR) 0 d.size d' ∧ w' = sortWorldK encR 3 w blk off n d' os := by
  have eg : ∀ args w, (callFunc 31 args).run Tryd.prog w = .ok (.enter 31 args) w := enters_of Tryd.func31 (by kernel_rfl) rfl
  have hcon := AnyQ.slices_SortFunc Tryd.sortRg 3 Tryd.isAgg29 Tryd.sizeOf29 encR (fun _ => rfl) (fun x v hv => by simp [encR] at hv; rcases hv with rfl | rfl | rfl <;> rfl) cfR swoR 31 #[] blk off cap d w eg (cmpLaysR blk off d.size w) hH hblk hsz
  change Calls Tryd.prog 30 _ _ _ at hcon
  exact hcon
end YtjigmijennbolaaDoor
end Go.Proofs
