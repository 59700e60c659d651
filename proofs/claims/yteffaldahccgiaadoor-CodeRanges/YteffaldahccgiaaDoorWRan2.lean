/- The walks of the document's answers for From and To, and of the statement on ranges: it answers true. -/
import Derived.Test.YteffaldahccgiaaDoorWRan
namespace Go.Proofs.YteffaldahccgiaaDoor
open Go.RowKit Ieee
set_option maxRecDepth 100000

theorem rzA (w w1 : World) (o : Obj) (ho : o = .cells #[.string ⟨#[]⟩, .string ⟨#[]⟩, .bool false] 33) (hb : Below (w.alloc o).heap.size (w.alloc o) w1) :
    (∀ x, (w1.alloc x).cell? ⟨w.heap.size, 0, none⟩ = some (.string ⟨#[]⟩)) ∧ (∀ x, (w1.alloc x).cell? ⟨w.heap.size, 1, none⟩ = some (.string ⟨#[]⟩)) ∧ (∀ x, (w1.alloc x).cell? ⟨w.heap.size, 2, none⟩ = some (.bool false)) ∧
    (∀ x, (w1.alloc x).frozen? ⟨w.heap.size, 0, none⟩ = false) ∧ (∀ x, (w1.alloc x).frozen? ⟨w.heap.size, 1, none⟩ = false) ∧ (∀ x, (w1.alloc x).frozen? ⟨w.heap.size, 2, none⟩ = false) := by
  have h : ∀ x, Below (w.alloc o).heap.size (w.alloc o) (w1.alloc x) := fun x => hb.alloc hb.size x
  exact ⟨fun x => (rz w _ o ho (h x)).1.1, fun x => (rz w _ o ho (h x)).1.2.1, fun x => (rz w _ o ho (h x)).1.2.2, fun x => (rz w _ o ho (h x)).2.1, fun x => (rz w _ o ho (h x)).2.2.1, fun x => (rz w _ o ho (h x)).2.2.2⟩

abbrev BegC (w : World) (sl : Value) (r : Value) (er : Int) : Prop := ∀ w1 : World, Below w.heap.size w w1 → Calls Tryd.prog 16 #[sl] w1 fun e w' => e = .returned (.tuple #[r, .int .i64 er]) ∧ Below w1.heap.size w1 w'

set_option maxHeartbeats 1000000 in
theorem rfrom_t (sl : Value) (k : ByteArray) (_hk : k.size ≤ 1024) (w : World) (hE : BegC w sl (rngV k (k ++ ⟨#[255]⟩) false) 0) :
    Calls Tryd.prog 18 #[sl, .bool true] w fun e w' => e = .returned (.tuple #[rngV k ⟨#[]⟩ true, .int .i64 0]) ∧ Below w.heap.size w w' := by
  have HE : Hid (BegC w sl (rngV k (k ++ ⟨#[255]⟩) false) 0) := hE
  clear hE
  go_enter Tryd.func18, Tryd.ntmps18
  go_wp2_with (first | (go_at_call 16; refine (HE.out _ (by go_grown)).mono ?_; rintro e w1 ⟨rfl, hb1⟩; have hz1 := hb1.size; simp at hz1; have hsz : w.heap.size < w1.heap.size := (by omega); have hne2 : ¬ w1.heap.size = w.heap.size := (by omega); obtain ⟨⟨z0, z1, z2⟩, y0, y1, y2⟩ := rz w w1 _ rfl hb1; obtain ⟨x0, x1, x2, t0, t1, t2⟩ := rzA w w1 _ rfl hb1))
  refine bodyPost_ret (v := .tuple #[rngV k ⟨#[]⟩ true, .int .i64 0]) (by simp [results, Tryd.results18, go_sem, World.cell?_alloc_lt, hsz, z0, z1, z2]) rfl ⟨rfl, ?_⟩
  exact ((((Below.refl _ _).alloc (Nat.le_refl _) _).trans (hb1.mono (by simp))).setCell (by simp) _).setCell (by simp) _ |>.setCell (by simp) _ |>.alloc (by simp; omega) _

set_option maxHeartbeats 1000000 in
theorem rfrom_f (sl : Value) (k : ByteArray) (_hk : k.size ≤ 1024) (w : World) (hE : BegC w sl (rngV k (k ++ ⟨#[255]⟩) false) 0) :
    Calls Tryd.prog 18 #[sl, .bool false] w fun e w' => e = .returned (.tuple #[rngV (k ++ ⟨#[255]⟩) ⟨#[]⟩ true, .int .i64 0]) ∧ Below w.heap.size w w' := by
  have HE : Hid (BegC w sl (rngV k (k ++ ⟨#[255]⟩) false) 0) := hE
  clear hE
  go_enter Tryd.func18, Tryd.ntmps18
  go_wp2_with (first | (go_at_call 16; refine (HE.out _ (by go_grown)).mono ?_; rintro e w1 ⟨rfl, hb1⟩; have hz1 := hb1.size; simp at hz1; have hsz : w.heap.size < w1.heap.size := (by omega); have hne2 : ¬ w1.heap.size = w.heap.size := (by omega); obtain ⟨⟨z0, z1, z2⟩, y0, y1, y2⟩ := rz w w1 _ rfl hb1; obtain ⟨x0, x1, x2, t0, t1, t2⟩ := rzA w w1 _ rfl hb1))
  refine bodyPost_ret (v := .tuple #[rngV (k ++ ⟨#[255]⟩) ⟨#[]⟩ true, .int .i64 0]) (by simp [results, Tryd.results18, go_sem, World.cell?_alloc_lt, hsz, z0, z1, z2]) rfl ⟨rfl, ?_⟩
  exact ((((Below.refl _ _).alloc (Nat.le_refl _) _).trans (hb1.mono (by simp))).setCell (by simp) _).setCell (by simp) _ |>.setCell (by simp) _ |>.alloc (by simp; omega) _

set_option maxHeartbeats 1000000 in
theorem rfrom_e (sl : Value) (k : ByteArray) (x : Bool) (_hk : k.size ≤ 1024) (w : World) (er : Int) (hne : (er != 0) = true) (hE : BegC w sl noRng er) :
    Calls Tryd.prog 18 #[sl, .bool x] w fun e w' => e = .returned (.tuple #[noRng, .int .i64 er]) ∧ Below w.heap.size w w' := by
  have HE : Hid (BegC w sl noRng er) := hE
  clear hE
  go_enter Tryd.func18, Tryd.ntmps18
  go_wp2_with (first | (go_at_call 16; refine (HE.out _ (by go_grown)).mono ?_; rintro e w1 ⟨rfl, hb1⟩; have hz1 := hb1.size; simp at hz1; have hsz : w.heap.size < w1.heap.size := (by omega); have hne2 : ¬ w1.heap.size = w.heap.size := (by omega); obtain ⟨⟨z0, z1, z2⟩, y0, y1, y2⟩ := rz w w1 _ rfl hb1; obtain ⟨x0, x1, x2, t0, t1, t2⟩ := rzA w w1 _ rfl hb1))
  refine bodyPost_ret (v := .tuple #[noRng, .int .i64 er]) (by simp [results, Tryd.results18, go_sem, World.cell?_alloc_lt, hsz, z0, z1, z2]) rfl ⟨rfl, ?_⟩
  exact ((((Below.refl _ _).alloc (Nat.le_refl _) _).trans (hb1.mono (by simp))).setCell (by simp) _).setCell (by simp) _ |>.setCell (by simp) _ |>.alloc (by simp; omega) _

set_option maxHeartbeats 1000000 in
theorem rto_t (sl : Value) (k : ByteArray) (_hk : k.size ≤ 1024) (w : World) (hE : BegC w sl (rngV k (k ++ ⟨#[255]⟩) false) 0) :
    Calls Tryd.prog 20 #[sl, .bool true] w fun e w' => e = .returned (.tuple #[rngV ⟨#[]⟩ (k ++ ⟨#[255]⟩) false, .int .i64 0]) ∧ Below w.heap.size w w' := by
  have HE : Hid (BegC w sl (rngV k (k ++ ⟨#[255]⟩) false) 0) := hE
  clear hE
  go_enter Tryd.func20, Tryd.ntmps20
  go_wp2_with (first | (go_at_call 16; refine (HE.out _ (by go_grown)).mono ?_; rintro e w1 ⟨rfl, hb1⟩; have hz1 := hb1.size; simp at hz1; have hsz : w.heap.size < w1.heap.size := (by omega); have hne2 : ¬ w1.heap.size = w.heap.size := (by omega); obtain ⟨⟨z0, z1, z2⟩, y0, y1, y2⟩ := rz w w1 _ rfl hb1; obtain ⟨x0, x1, x2, t0, t1, t2⟩ := rzA w w1 _ rfl hb1))
  refine bodyPost_ret (v := .tuple #[rngV ⟨#[]⟩ (k ++ ⟨#[255]⟩) false, .int .i64 0]) (by simp [results, Tryd.results20, go_sem, World.cell?_alloc_lt, hsz, z0, z1, z2]) rfl ⟨rfl, ?_⟩
  exact ((((Below.refl _ _).alloc (Nat.le_refl _) _).trans (hb1.mono (by simp))).setCell (by simp) _).setCell (by simp) _ |>.setCell (by simp) _ |>.alloc (by simp; omega) _

set_option maxHeartbeats 1000000 in
theorem rto_f (sl : Value) (k : ByteArray) (_hk : k.size ≤ 1024) (w : World) (hE : BegC w sl (rngV k (k ++ ⟨#[255]⟩) false) 0) :
    Calls Tryd.prog 20 #[sl, .bool false] w fun e w' => e = .returned (.tuple #[rngV ⟨#[]⟩ k false, .int .i64 0]) ∧ Below w.heap.size w w' := by
  have HE : Hid (BegC w sl (rngV k (k ++ ⟨#[255]⟩) false) 0) := hE
  clear hE
  go_enter Tryd.func20, Tryd.ntmps20
  go_wp2_with (first | (go_at_call 16; refine (HE.out _ (by go_grown)).mono ?_; rintro e w1 ⟨rfl, hb1⟩; have hz1 := hb1.size; simp at hz1; have hsz : w.heap.size < w1.heap.size := (by omega); have hne2 : ¬ w1.heap.size = w.heap.size := (by omega); obtain ⟨⟨z0, z1, z2⟩, y0, y1, y2⟩ := rz w w1 _ rfl hb1; obtain ⟨x0, x1, x2, t0, t1, t2⟩ := rzA w w1 _ rfl hb1))
  refine bodyPost_ret (v := .tuple #[rngV ⟨#[]⟩ k false, .int .i64 0]) (by simp [results, Tryd.results20, go_sem, World.cell?_alloc_lt, hsz, z0, z1, z2]) rfl ⟨rfl, ?_⟩
  exact ((((Below.refl _ _).alloc (Nat.le_refl _) _).trans (hb1.mono (by simp))).setCell (by simp) _).setCell (by simp) _ |>.setCell (by simp) _ |>.alloc (by simp; omega) _

set_option maxHeartbeats 1000000 in
theorem rto_e (sl : Value) (k : ByteArray) (x : Bool) (_hk : k.size ≤ 1024) (w : World) (er : Int) (hne : (er != 0) = true) (hE : BegC w sl noRng er) :
    Calls Tryd.prog 20 #[sl, .bool x] w fun e w' => e = .returned (.tuple #[noRng, .int .i64 er]) ∧ Below w.heap.size w w' := by
  have HE : Hid (BegC w sl noRng er) := hE
  clear hE
  go_enter Tryd.func20, Tryd.ntmps20
  go_wp2_with (first | (go_at_call 16; refine (HE.out _ (by go_grown)).mono ?_; rintro e w1 ⟨rfl, hb1⟩; have hz1 := hb1.size; simp at hz1; have hsz : w.heap.size < w1.heap.size := (by omega); have hne2 : ¬ w1.heap.size = w.heap.size := (by omega); obtain ⟨⟨z0, z1, z2⟩, y0, y1, y2⟩ := rz w w1 _ rfl hb1; obtain ⟨x0, x1, x2, t0, t1, t2⟩ := rzA w w1 _ rfl hb1))
  refine bodyPost_ret (v := .tuple #[noRng, .int .i64 er]) (by simp [results, Tryd.results20, go_sem, World.cell?_alloc_lt, hsz, z0, z1, z2]) rfl ⟨rfl, ?_⟩
  exact ((((Below.refl _ _).alloc (Nat.le_refl _) _).trans (hb1.mono (by simp))).setCell (by simp) _).setCell (by simp) _ |>.setCell (by simp) _ |>.alloc (by simp; omega) _

theorem rbegins_any (sl : Value) (k : ByteArray) (hk : k.size ≤ 1024) (er : Int) (w : World) (hE : EncC 10 w sl k er) :
    Calls Tryd.prog 16 #[sl] w fun e w' => e = .returned (.tuple #[begV k er, .int .i64 er]) ∧ Below w.heap.size w w' := by
  unfold begV
  by_cases h : er = 0
  · subst h; simp only [if_true]; exact rbegins_0 sl k hk w hE
  · simp only [h, if_false]; exact rbegins_e sl k hk w er (ne_of h) hE
theorem rfrom_any (sl : Value) (k : ByteArray) (hk : k.size ≤ 1024) (er : Int) (x : Bool) (w : World) (hE : EncC 10 w sl k er) :
    Calls Tryd.prog 18 #[sl, .bool x] w fun e w' => e = .returned (.tuple #[fromV k er x, .int .i64 er]) ∧ Below w.heap.size w w' := by
  have hB : BegC w sl (begV k er) er := fun w1 hb => rbegins_any sl k hk er w1 (encC_keep hE hb)
  unfold begV at hB
  unfold fromV
  by_cases h : er = 0
  · subst h
    cases x
    · exact rfrom_f sl k hk w hB
    · exact rfrom_t sl k hk w hB
  · simp only [h, if_false] at hB ⊢; exact rfrom_e sl k x hk w er (ne_of h) hB
theorem rto_any (sl : Value) (k : ByteArray) (hk : k.size ≤ 1024) (er : Int) (x : Bool) (w : World) (hE : EncC 10 w sl k er) :
    Calls Tryd.prog 20 #[sl, .bool x] w fun e w' => e = .returned (.tuple #[toV k er x, .int .i64 er]) ∧ Below w.heap.size w w' := by
  have hB : BegC w sl (begV k er) er := fun w1 hb => rbegins_any sl k hk er w1 (encC_keep hE hb)
  unfold begV at hB
  unfold toV
  by_cases h : er = 0
  · subst h
    cases x
    · exact rto_f sl k hk w hB
    · exact rto_t sl k hk w hB
  · simp only [h, if_false] at hB ⊢; exact rto_e sl k x hk w er (ne_of h) hB
end Go.Proofs.YteffaldahccgiaaDoor
