/- The walks of Begins, From and To, and of the document's answers for them. -/
import Derived.Test.YtjigmijennbolaaDoorWAwake
namespace Go.Proofs.YtjigmijennbolaaDoor
open Go.RowKit Ieee
set_option maxRecDepth 100000

/-- a range, as the program holds it -/
abbrev rngV (lo hi : ByteArray) (op : Bool) : Value := .agg #[.string lo, .string hi, .bool op]
abbrev noRng : Value := .agg #[.string ⟨#[]⟩, .string ⟨#[]⟩, .bool false]
/-- an answer in whatever world that keeps what was -/
abbrev EncC (f : FuncId) (w : World) (sl : Value) (k : ByteArray) (er : Int) : Prop := ∀ w1 : World, Below w.heap.size w w1 → Calls Tryd.prog f #[sl] w1 fun e w' => e = .returned (.tuple #[.string k, .int .i64 er]) ∧ Below w1.heap.size w1 w'
def begV (k : ByteArray) (er : Int) : Value := if er = 0 then rngV k (k ++ ⟨#[255]⟩) false else noRng
def fromV (k : ByteArray) (er : Int) (inn : Bool) : Value := if er = 0 then rngV (if inn then k else k ++ ⟨#[255]⟩) ⟨#[]⟩ true else noRng
def toV (k : ByteArray) (er : Int) (inn : Bool) : Value := if er = 0 then rngV ⟨#[]⟩ (if inn then k ++ ⟨#[255]⟩ else k) false else noRng

theorem rz (w w1 : World) (o : Obj) (ho : o = .cells #[.string ⟨#[]⟩, .string ⟨#[]⟩, .bool false] 29) (hb : Below (w.alloc o).heap.size (w.alloc o) w1) :
    (w1.cell? ⟨w.heap.size, 0, none⟩ = some (.string ⟨#[]⟩) ∧ w1.cell? ⟨w.heap.size, 1, none⟩ = some (.string ⟨#[]⟩) ∧ w1.cell? ⟨w.heap.size, 2, none⟩ = some (.bool false)) ∧
    (w1.frozen? ⟨w.heap.size, 0, none⟩ = false ∧ w1.frozen? ⟨w.heap.size, 1, none⟩ = false ∧ w1.frozen? ⟨w.heap.size, 2, none⟩ = false) := by
  subst ho
  obtain ⟨h1, h2⟩ := bcell hb
  refine ⟨⟨?_, ?_, ?_⟩, ?_, ?_, ?_⟩
  · rw [h1 _ _ (by simp)]; simp [go_sem]
  · rw [h1 _ _ (by simp)]; simp [go_sem]
  · rw [h1 _ _ (by simp)]; simp [go_sem]
  · rw [h2 _ _ (by simp)]; simp [go_sem]
  · rw [h2 _ _ (by simp)]; simp [go_sem]
  · rw [h2 _ _ (by simp)]; simp [go_sem]





















