/- The walks of the functions that make values. -/
import Derived.Test.YtgnedioggpgeeaaDoorGWNum
import Derived.Test.YtgnedioggpgeeaaDoorGWRowV
namespace Go.Proofs.YtgnedioggpgeeaaDoor
open Go.RowKit
set_option maxRecDepth 100000

def vNull : Vl := ⟨0, 0, 0, ⟨#[]⟩⟩
def vBool (b : Bool) : Vl := ⟨1, if b then 1 else 0, 0, ⟨#[]⟩⟩
def vInt (n : Int) : Vl := ⟨2, n, 0, ⟨#[]⟩⟩
def vFlo (f : Nat) : Vl := ⟨3, 0, f, ⟨#[]⟩⟩

set_option maxHeartbeats 400000 in
theorem litInt_any (n : Int) (w : World) :
    Calls Tryd.prog 87 #[.int .i64 n] w fun e w' => e = .returned (vInt n).val ∧ Below w.heap.size w w' := by
  have hsf := run_store_float
  go_enter Tryd.func87, Tryd.ntmps87
  go_wp2
  go_returns
  exact ⟨rfl, by go_grown⟩

set_option maxHeartbeats 400000 in
theorem litNull_any (w : World) :
    Calls Tryd.prog 64 #[] w fun e w' => e = .returned vNull.val ∧ Below w.heap.size w w' := by
  have hsf := run_store_float
  go_enter Tryd.func64, Tryd.ntmps64
  go_wp2
  go_returns
  exact ⟨rfl, by go_grown⟩

set_option maxHeartbeats 400000 in
theorem litBool_any (b : Bool) (w : World) :
    Calls Tryd.prog 65 #[.bool b] w fun e w' => e = .returned (vBool b).val ∧ Below w.heap.size w w' := by
  have hsf := run_store_float
  cases b
  all_goals
    go_enter Tryd.func65, Tryd.ntmps65
    go_wp2
    go_returns
    exact ⟨rfl, by go_grown⟩

set_option maxHeartbeats 400000 in
theorem litFloat_any (f : Nat) (w : World) :
    Calls Tryd.prog 104 #[.float .f64 f] w fun e w' => e = .returned (vFlo f).val ∧ Below w.heap.size w w' := by
  have hsf := run_store_float
  go_enter Tryd.func104, Tryd.ntmps104
  go_wp2
  go_returns
  exact ⟨rfl, by go_grown⟩

theorem vz (w w1 : World) (o : Obj) (ho : o = .cells #[.int .i64 0, .int .i64 0, .float .f64 0, .string ⟨#[]⟩] 49) (hb : Below (w.alloc o).heap.size (w.alloc o) w1) :
    (w1.cell? ⟨w.heap.size, 0, none⟩ = some (.int .i64 0) ∧ w1.cell? ⟨w.heap.size, 1, none⟩ = some (.int .i64 0) ∧ w1.cell? ⟨w.heap.size, 2, none⟩ = some (.float .f64 0) ∧ w1.cell? ⟨w.heap.size, 3, none⟩ = some (.string ⟨#[]⟩)) ∧
    (w1.frozen? ⟨w.heap.size, 0, none⟩ = false ∧ w1.frozen? ⟨w.heap.size, 1, none⟩ = false ∧ w1.frozen? ⟨w.heap.size, 2, none⟩ = false ∧ w1.frozen? ⟨w.heap.size, 3, none⟩ = false) := by
  subst ho
  obtain ⟨h1, h2⟩ := bcell hb
  refine ⟨⟨?_, ?_, ?_, ?_⟩, ?_, ?_, ?_, ?_⟩
  · rw [h1 _ _ (by simp)]; simp [go_sem]
  · rw [h1 _ _ (by simp)]; simp [go_sem]
  · rw [h1 _ _ (by simp)]; simp [go_sem]
  · rw [h1 _ _ (by simp)]; simp [go_sem]
  · rw [h2 _ _ (by simp)]; simp [go_sem]
  · rw [h2 _ _ (by simp)]; simp [go_sem]
  · rw [h2 _ _ (by simp)]; simp [go_sem]
  · rw [h2 _ _ (by simp)]; simp [go_sem]

set_option maxHeartbeats 400000 in
theorem litBits_any (n : Nat) (w : World) :
    Calls Tryd.prog 89 #[.int .u64 (n : Int)] w fun e w' => e = .returned (vFlo n).val ∧ Below w.heap.size w w' := by
  have hfb := run_frombits
  have hsf := run_store_float
  go_enter Tryd.func89, Tryd.ntmps89
  go_wp2_with (first | (go_at_call 104; refine (litFloat_any _ _).mono ?_; rintro e w1 ⟨rfl, hb1⟩; obtain ⟨⟨z0, z1, z2, z3⟩, y0, y1, y2, y3⟩ := vz w w1 _ rfl hb1))
  refine bodyPost_ret (v := (vFlo n).val) (by simp [results, Tryd.results89, go_sem, z0, z1, z2, z3, vFlo]) rfl ⟨rfl, ((((((Below.refl _ _).alloc (Nat.le_refl _) _).trans (hb1.mono (by simp))).setCell (by simp) _).setCell (by simp) _).setCell (by simp) _).setCell (by simp) _⟩

end Go.Proofs.YtgnedioggpgeeaaDoor
