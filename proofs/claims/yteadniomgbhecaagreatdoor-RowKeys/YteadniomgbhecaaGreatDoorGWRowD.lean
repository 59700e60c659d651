/- The walk of the document's bytesOf. -/
import Derived.Laws.MakeOwn
import Derived.Test.YteadniomgbhecaaGreatDoorGWRowA
namespace Go.Proofs.YteadniomgbhecaaGreatDoor
open Go.RowKit
set_option maxRecDepth 100000

/-- what a round that sets a pair reads -/
abbrev SQ (g q h o : Nat) (b : Int) (vk vn : Int) (vf : Nat) (vs : ByteArray) (w' : World) : Prop := w'.cell? ⟨g, q, none⟩ = some (.int .u8 b) ∧ w'.cell? ⟨h, o, none⟩ = some (.int .i64 vk) ∧ w'.cell? ⟨h, o + 1, none⟩ = some (.int .i64 vn) ∧ w'.cell? ⟨h, o + 2, none⟩ = some (.float .f64 vf) ∧ w'.cell? ⟨h, o + 3, none⟩ = some (.string vs)
theorem SQ.on {g q h o : Nat} {b vk vn : Int} {vf : Nat} {vs : ByteArray} {w1 w2 : World} (hs : SQ g q h o b vk vn vf vs w1) (hb : Below w1.heap.size w1 w2) : SQ g q h o b vk vn vf vs w2 := by
  obtain ⟨c0, c1, c2, c3, c4⟩ := hs
  have k : ∀ {b o : Nat} {v : Value}, w1.cell? ⟨b, o, none⟩ = some v → w2.cell? ⟨b, o, none⟩ = some v := fun {b o v} hc => (hb.cell (p := ⟨b, o, none⟩) (World.block_lt_of_cell? w1 _ hc)).trans hc
  exact ⟨k c0, k c1, k c2, k c3, k c4⟩
theorem own_made (w : World) (B n : Nat) (hB : B ≤ w.heap.size) (hn : n ≤ 3518437208784) : OwnB (w.alloc (.cells (madeCells #[.int .u8 0] n) 5)) B (.slice (some ⟨w.heap.size, 0, none⟩) n n) (List.replicate n 0) := by
  have h := World.ownsRow_lit (base := B) (e := 5) (size := 1) w (madeCells #[.int .u8 0] n) n hB (by unfold maxLen; omega) (by rw [size_madeCells]; omega)
  rw [toList_madeCells_one] at h
  unfold OwnB
  have e : bcells (List.replicate n 0) = List.replicate n (.int .u8 0) := by simp [bcells]
  rw [e, List.length_replicate]
  exact h



end Go.Proofs.YteadniomgbhecaaGreatDoor
