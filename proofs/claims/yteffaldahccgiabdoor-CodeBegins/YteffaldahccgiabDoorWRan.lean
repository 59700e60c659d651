/- The walks of Begins, From and To, and of the document's answers for them. -/
import Derived.Test.YteffaldahccgiabDoorWAwake
namespace Go.Proofs.YteffaldahccgiabDoor
open Go.RowKit Ieee
set_option maxRecDepth 100000

/-- a range, as the program holds it -/
abbrev rngV (lo hi : ByteArray) (op : Bool) : Value := .agg #[.string lo, .string hi, .bool op]
abbrev noRng : Value := .agg #[.string ⟨#[]⟩, .string ⟨#[]⟩, .bool false]
/-- an answer in whatever world that keeps what was -/
abbrev EncC (f : FuncId) (w : World) (sl : Value) (k : ByteArray) (er : Int) : Prop := ∀ w1 : World, Below w.heap.size w w1 → Calls Tryd.prog f #[sl] w1 fun e w' => e = .returned (.tuple #[.string k, .int .i64 er]) ∧ Below w1.heap.size w1 w'
def begV (k : ByteArray) (er : Int) : Value := if er = 0 then rngV k (k ++ ⟨#[255]⟩) false else noRng
def fromV (k : ByteArray) (er : Int) (inn : Bool) : Value := if er = 0 then rngV (if inn then k else k ++ ⟨#[255]⟩) ⟨#[]⟩ true else noRng
def toV (k : ByteArray) (er : Int) (inn : Bool) : Value := if er = 0 then rngV ⟨#[]⟩ (if inn then k ++ ⟨#[255]⟩ else k) false else noRng

theorem rz (w w1 : World) (o : Obj) (ho : o = .cells #[.string ⟨#[]⟩, .string ⟨#[]⟩, .bool false] 36) (hb : Below (w.alloc o).heap.size (w.alloc o) w1) :
    (w1.cell? ⟨w.heap.size, 0, none⟩ = some (.string ⟨#[]⟩) ∧ w1.cell? ⟨w.heap.size, 1, none⟩ = some (.string ⟨#[]⟩) ∧ w1.cell? ⟨w.heap.size, 2, none⟩ = some (.bool false)) ∧
    (w1.frozen? ⟨w.heap.size, 0, none⟩ = false ∧ w1.frozen? ⟨w.heap.size, 1, none⟩ = false ∧ w1.frozen? ⟨w.heap.size, 2, none⟩ = false) := by
  subst ho
  obtain ⟨h1, h2⟩ := bcell hb
  refine ⟨⟨?_, ?_, ?_⟩, ?_, ?_, ?_⟩
  · rw [h1 _ _ (by simp)]; simp [go_sem]
  · rw [h1 _ _ (by simp)]; simp [go_sem]
  · rw [h1 _ _ (by simp)]; simp [go_sem]
  · rw [h2 _ _ (by simp)]; simp [go_sem]
  · rw [h2 _ _ (by simp)]; simp [go_sem]
  · rw [h2 _ _ (by simp)]; simp [go_sem]

set_option maxHeartbeats 1000000 in
theorem begins_0 (sl : Value) (k : ByteArray) (hk : k.size ≤ 1024) (w : World) (hE : EncC 7 w sl k 0) :
    Calls Tryd.prog 12 #[sl] w fun e w' => e = .returned (.tuple #[rngV k (k ++ ⟨#[255]⟩) false, .int .i64 0]) ∧ Below w.heap.size w w' := by
  have HE : Hid (EncC 7 w sl k 0) := hE
  clear hE
  go_enter Tryd.func12, Tryd.ntmps12
  go_wp2_with (first | (go_at_call 7; refine (HE.out _ (by go_grown)).mono ?_; rintro e w1 ⟨rfl, hb1⟩; have hz1 := hb1.size; simp at hz1; obtain ⟨⟨z0, z1, z2⟩, y0, y1, y2⟩ := rz w w1 _ rfl hb1))
  refine bodyPost_ret (v := .tuple #[rngV k (k ++ ⟨#[255]⟩) false, .int .i64 0]) (by simp [results, Tryd.results12, go_sem, z0, z1, z2]) rfl ⟨rfl, ?_⟩
  exact ((((Below.refl _ _).alloc (Nat.le_refl _) _).trans (hb1.mono (by simp))).setCell (by simp) _).setCell (by simp) _ |>.setCell (by simp) _

set_option maxHeartbeats 1000000 in
theorem begins_e (sl : Value) (k : ByteArray) (_hk : k.size ≤ 1024) (w : World) (er : Int) (hne : (er != 0) = true) (hE : EncC 7 w sl k er) :
    Calls Tryd.prog 12 #[sl] w fun e w' => e = .returned (.tuple #[noRng, .int .i64 er]) ∧ Below w.heap.size w w' := by
  have HE : Hid (EncC 7 w sl k er) := hE
  clear hE
  go_enter Tryd.func12, Tryd.ntmps12
  go_wp2_with (first | (go_at_call 7; refine (HE.out _ (by go_grown)).mono ?_; rintro e w1 ⟨rfl, hb1⟩; have hz1 := hb1.size; simp at hz1; obtain ⟨⟨z0, z1, z2⟩, y0, y1, y2⟩ := rz w w1 _ rfl hb1))
  refine bodyPost_ret (v := .tuple #[noRng, .int .i64 er]) (by simp [results, Tryd.results12, go_sem, z0, z1, z2]) rfl ⟨rfl, ?_⟩
  exact ((((Below.refl _ _).alloc (Nat.le_refl _) _).trans (hb1.mono (by simp))).setCell (by simp) _).setCell (by simp) _ |>.setCell (by simp) _

set_option maxHeartbeats 1000000 in
theorem from_t (sl : Value) (k : ByteArray) (_hk : k.size ≤ 1024) (w : World) (hE : EncC 7 w sl k 0) :
    Calls Tryd.prog 13 #[sl, .bool true] w fun e w' => e = .returned (.tuple #[rngV k ⟨#[]⟩ true, .int .i64 0]) ∧ Below w.heap.size w w' := by
  have HE : Hid (EncC 7 w sl k 0) := hE
  clear hE
  go_enter Tryd.func13, Tryd.ntmps13
  go_wp2_with (first | (go_at_call 7; refine (HE.out _ (by go_grown)).mono ?_; rintro e w1 ⟨rfl, hb1⟩; have hz1 := hb1.size; simp at hz1; obtain ⟨⟨z0, z1, z2⟩, y0, y1, y2⟩ := rz w w1 _ rfl hb1))
  refine bodyPost_ret (v := .tuple #[rngV k ⟨#[]⟩ true, .int .i64 0]) (by simp [results, Tryd.results13, go_sem, z0, z1, z2]) rfl ⟨rfl, ?_⟩
  exact ((((Below.refl _ _).alloc (Nat.le_refl _) _).trans (hb1.mono (by simp))).setCell (by simp) _).setCell (by simp) _ |>.setCell (by simp) _

set_option maxHeartbeats 1000000 in
theorem from_f (sl : Value) (k : ByteArray) (hk : k.size ≤ 1024) (w : World) (hE : EncC 7 w sl k 0) :
    Calls Tryd.prog 13 #[sl, .bool false] w fun e w' => e = .returned (.tuple #[rngV (k ++ ⟨#[255]⟩) ⟨#[]⟩ true, .int .i64 0]) ∧ Below w.heap.size w w' := by
  have HE : Hid (EncC 7 w sl k 0) := hE
  clear hE
  go_enter Tryd.func13, Tryd.ntmps13
  go_wp2_with (first | (go_at_call 7; refine (HE.out _ (by go_grown)).mono ?_; rintro e w1 ⟨rfl, hb1⟩; have hz1 := hb1.size; simp at hz1; obtain ⟨⟨z0, z1, z2⟩, y0, y1, y2⟩ := rz w w1 _ rfl hb1))
  refine bodyPost_ret (v := .tuple #[rngV (k ++ ⟨#[255]⟩) ⟨#[]⟩ true, .int .i64 0]) (by simp [results, Tryd.results13, go_sem, z0, z1, z2]) rfl ⟨rfl, ?_⟩
  exact ((((Below.refl _ _).alloc (Nat.le_refl _) _).trans (hb1.mono (by simp))).setCell (by simp) _).setCell (by simp) _ |>.setCell (by simp) _

set_option maxHeartbeats 1000000 in
theorem from_e (sl : Value) (k : ByteArray) (x : Bool) (_hk : k.size ≤ 1024) (w : World) (er : Int) (hne : (er != 0) = true) (hE : EncC 7 w sl k er) :
    Calls Tryd.prog 13 #[sl, .bool x] w fun e w' => e = .returned (.tuple #[noRng, .int .i64 er]) ∧ Below w.heap.size w w' := by
  have HE : Hid (EncC 7 w sl k er) := hE
  clear hE
  go_enter Tryd.func13, Tryd.ntmps13
  go_wp2_with (first | (go_at_call 7; refine (HE.out _ (by go_grown)).mono ?_; rintro e w1 ⟨rfl, hb1⟩; have hz1 := hb1.size; simp at hz1; obtain ⟨⟨z0, z1, z2⟩, y0, y1, y2⟩ := rz w w1 _ rfl hb1))
  refine bodyPost_ret (v := .tuple #[noRng, .int .i64 er]) (by simp [results, Tryd.results13, go_sem, z0, z1, z2]) rfl ⟨rfl, ?_⟩
  exact ((((Below.refl _ _).alloc (Nat.le_refl _) _).trans (hb1.mono (by simp))).setCell (by simp) _).setCell (by simp) _ |>.setCell (by simp) _

set_option maxHeartbeats 1000000 in
theorem to_t (sl : Value) (k : ByteArray) (hk : k.size ≤ 1024) (w : World) (hE : EncC 7 w sl k 0) :
    Calls Tryd.prog 14 #[sl, .bool true] w fun e w' => e = .returned (.tuple #[rngV ⟨#[]⟩ (k ++ ⟨#[255]⟩) false, .int .i64 0]) ∧ Below w.heap.size w w' := by
  have HE : Hid (EncC 7 w sl k 0) := hE
  clear hE
  go_enter Tryd.func14, Tryd.ntmps14
  go_wp2_with (first | (go_at_call 7; refine (HE.out _ (by go_grown)).mono ?_; rintro e w1 ⟨rfl, hb1⟩; have hz1 := hb1.size; simp at hz1; obtain ⟨⟨z0, z1, z2⟩, y0, y1, y2⟩ := rz w w1 _ rfl hb1))
  refine bodyPost_ret (v := .tuple #[rngV ⟨#[]⟩ (k ++ ⟨#[255]⟩) false, .int .i64 0]) (by simp [results, Tryd.results14, go_sem, z0, z1, z2]) rfl ⟨rfl, ?_⟩
  exact ((((Below.refl _ _).alloc (Nat.le_refl _) _).trans (hb1.mono (by simp))).setCell (by simp) _).setCell (by simp) _ |>.setCell (by simp) _

set_option maxHeartbeats 1000000 in
theorem to_f (sl : Value) (k : ByteArray) (_hk : k.size ≤ 1024) (w : World) (hE : EncC 7 w sl k 0) :
    Calls Tryd.prog 14 #[sl, .bool false] w fun e w' => e = .returned (.tuple #[rngV ⟨#[]⟩ k false, .int .i64 0]) ∧ Below w.heap.size w w' := by
  have HE : Hid (EncC 7 w sl k 0) := hE
  clear hE
  go_enter Tryd.func14, Tryd.ntmps14
  go_wp2_with (first | (go_at_call 7; refine (HE.out _ (by go_grown)).mono ?_; rintro e w1 ⟨rfl, hb1⟩; have hz1 := hb1.size; simp at hz1; obtain ⟨⟨z0, z1, z2⟩, y0, y1, y2⟩ := rz w w1 _ rfl hb1))
  refine bodyPost_ret (v := .tuple #[rngV ⟨#[]⟩ k false, .int .i64 0]) (by simp [results, Tryd.results14, go_sem, z0, z1, z2]) rfl ⟨rfl, ?_⟩
  exact ((((Below.refl _ _).alloc (Nat.le_refl _) _).trans (hb1.mono (by simp))).setCell (by simp) _).setCell (by simp) _ |>.setCell (by simp) _

set_option maxHeartbeats 1000000 in
theorem to_e (sl : Value) (k : ByteArray) (x : Bool) (_hk : k.size ≤ 1024) (w : World) (er : Int) (hne : (er != 0) = true) (hE : EncC 7 w sl k er) :
    Calls Tryd.prog 14 #[sl, .bool x] w fun e w' => e = .returned (.tuple #[noRng, .int .i64 er]) ∧ Below w.heap.size w w' := by
  have HE : Hid (EncC 7 w sl k er) := hE
  clear hE
  go_enter Tryd.func14, Tryd.ntmps14
  go_wp2_with (first | (go_at_call 7; refine (HE.out _ (by go_grown)).mono ?_; rintro e w1 ⟨rfl, hb1⟩; have hz1 := hb1.size; simp at hz1; obtain ⟨⟨z0, z1, z2⟩, y0, y1, y2⟩ := rz w w1 _ rfl hb1))
  refine bodyPost_ret (v := .tuple #[noRng, .int .i64 er]) (by simp [results, Tryd.results14, go_sem, z0, z1, z2]) rfl ⟨rfl, ?_⟩
  exact ((((Below.refl _ _).alloc (Nat.le_refl _) _).trans (hb1.mono (by simp))).setCell (by simp) _).setCell (by simp) _ |>.setCell (by simp) _





theorem encC_keep {f : FuncId} {w w1 : World} {sl : Value} {k : ByteArray} {er : Int} (h : EncC f w sl k er) (hb : Below w.heap.size w w1) : EncC f w1 sl k er := fun w2 h2 => h w2 (hb.trans (h2.mono hb.size))
theorem ne_of {er : Int} (h : ¬ er = 0) : (er != 0) = true := bneT h
theorem begins_any (sl : Value) (k : ByteArray) (hk : k.size ≤ 1024) (er : Int) (w : World) (hE : EncC 7 w sl k er) :
    Calls Tryd.prog 12 #[sl] w fun e w' => e = .returned (.tuple #[begV k er, .int .i64 er]) ∧ Below w.heap.size w w' := by
  unfold begV
  by_cases h : er = 0
  · subst h; simp only [if_true]; exact begins_0 sl k hk w hE
  · simp only [h, if_false]; exact begins_e sl k hk w er (ne_of h) hE
theorem from_any (sl : Value) (k : ByteArray) (hk : k.size ≤ 1024) (er : Int) (x : Bool) (w : World) (hE : EncC 7 w sl k er) :
    Calls Tryd.prog 13 #[sl, .bool x] w fun e w' => e = .returned (.tuple #[fromV k er x, .int .i64 er]) ∧ Below w.heap.size w w' := by
  unfold fromV
  by_cases h : er = 0
  · subst h
    cases x
    · exact from_f sl k hk w hE
    · exact from_t sl k hk w hE
  · simp only [h, if_false]; exact from_e sl k x hk w er (ne_of h) hE
theorem to_any (sl : Value) (k : ByteArray) (hk : k.size ≤ 1024) (er : Int) (x : Bool) (w : World) (hE : EncC 7 w sl k er) :
    Calls Tryd.prog 14 #[sl, .bool x] w fun e w' => e = .returned (.tuple #[toV k er x, .int .i64 er]) ∧ Below w.heap.size w w' := by
  unfold toV
  by_cases h : er = 0
  · subst h
    cases x
    · exact to_f sl k hk w hE
    · exact to_t sl k hk w hE
  · simp only [h, if_false]; exact to_e sl k x hk w er (ne_of h) hE
end Go.Proofs.YteffaldahccgiabDoor
