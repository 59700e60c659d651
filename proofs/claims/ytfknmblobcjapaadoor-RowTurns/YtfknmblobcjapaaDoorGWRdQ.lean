/- Small laws for the walks of rows that are read. -/
import Derived.Test.YtfknmblobcjapaaDoorGWPair
namespace Go.Proofs.YtfknmblobcjapaaDoor
open Go.RowKit
set_option maxRecDepth 100000

theorem slice_from (s : ByteArray) (k : Nat) (h : k ≤ s.size) (w : World) : (Instr.slice 9 (.string s) (some (.int .i64 (k : Int))) none none).run Tryd.prog w = .ok (.string (s.extract k s.size)) w := by
  rw [run_slice_string_from_if w 9 s .i64 (k : Int) Tryd.underlying9, if_pos ⟨by omega, by omega⟩]
  rfl
theorem slice_to (s : ByteArray) (k : Nat) (h : k ≤ s.size) (w : World) : (Instr.slice 9 (.string s) none (some (.int .i64 (k : Int))) none).run Tryd.prog w = .ok (.string (s.extract 0 k)) w := by
  rw [run_slice_string_to_if w 9 s .i64 (k : Int) Tryd.underlying9, if_pos ⟨by omega, by omega⟩]
  rfl
theorem vzD (w w1 : World) (o : Obj) (ho : o = .cells #[.int .i64 0, .int .i64 0, .float .f64 0, .string ⟨#[]⟩] 44) (hb : Below (w.drew.alloc o).heap.size (w.drew.alloc o) w1) :
    (w1.cell? ⟨w.heap.size, 0, none⟩ = some (.int .i64 0) ∧ w1.cell? ⟨w.heap.size, 1, none⟩ = some (.int .i64 0) ∧ w1.cell? ⟨w.heap.size, 2, none⟩ = some (.float .f64 0) ∧ w1.cell? ⟨w.heap.size, 3, none⟩ = some (.string ⟨#[]⟩)) ∧
    (w1.frozen? ⟨w.heap.size, 0, none⟩ = false ∧ w1.frozen? ⟨w.heap.size, 1, none⟩ = false ∧ w1.frozen? ⟨w.heap.size, 2, none⟩ = false ∧ w1.frozen? ⟨w.heap.size, 3, none⟩ = false) ∧ w.heap.size < w1.heap.size := by
  have h := vz w.drew w1 o ho hb
  have h2 := hb.size
  simp at h2
  exact ⟨h.1, h.2, by omega⟩
theorem use {p G : Prop} (h : p) (k : p → G) : G := k h

end Go.Proofs.YtfknmblobcjapaaDoor
