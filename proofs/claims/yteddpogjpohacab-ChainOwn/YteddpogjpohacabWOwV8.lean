/- The walks of ownVersion and ownWrite; boxes. -/
import Derived.Test.YteddpogjpohacabWOwn8
namespace Go.Proofs.Yteddpogjpohacab
open Go.RowKit
set_option maxRecDepth 100000

/-- a box: a block of so many cells -/
def Box (w : World) (g : Nat) (vs : Array Value) (T : TypeId) : Prop := w.heap[g]? = some (.cells vs T (0, 0))
theorem Box.new (w : World) (vs : Array Value) (T : TypeId) : Box (w.alloc (.cells vs T)) w.heap.size vs T := by
  unfold Box World.alloc
  exact Array.getElem?_push_size
theorem Box.lt {w : World} {g : Nat} {vs : Array Value} {T : TypeId} (h : Box w g vs T) : g < w.heap.size := (Array.getElem?_eq_some_iff.1 h).1
theorem Box.keep {w w' : World} {B g : Nat} {vs : Array Value} {T : TypeId} (h : Box w g vs T) (hb : Below B w w') (hg : g < B) : Box w' g vs T := (hb.block g hg).trans h
theorem Box.on {w w' : World} {g : Nat} {vs : Array Value} {T : TypeId} (h : Box w g vs T) (hb : Below w.heap.size w w') : Box w' g vs T := h.keep hb h.lt
theorem Box.set {w : World} {g i : Nat} {vs : Array Value} {T : TypeId} (h : Box w g vs T) (x : Value) : Box (w.setCell ⟨g, i, none⟩ x) g (vs.setIfInBounds i x) T := heap_setCell_same w g i vs T x h
theorem Box.off {w : World} {g j i : Nat} {vs : Array Value} {T : TypeId} (h : Box w g vs T) (x : Value) (hj : g ≠ j) : Box (w.setCell ⟨j, i, none⟩ x) g vs T := (heap_setCell_other w _ g x hj).trans h
theorem OwnV.off {w : World} {B j i : Nat} {v : Value} {L : List Vl} (h : OwnV w B v L) (x : Value) (hj : j < B) : OwnV (w.setCell ⟨j, i, none⟩ x) B v L := by
  refine ⟨h.1, ?_⟩
  rcases h.2 with h1 | ⟨g, cap, cur, e, hb', hg, r⟩
  · exact .inl h1
  · exact .inr ⟨g, cap, cur, e, hb', (heap_setCell_other w _ g x (by show g ≠ j; omega)).trans hg, r⟩
theorem box2 {w : World} {g : Nat} {a b : Value} {T : TypeId} (h : Box w g #[a, b] T) : w.cell? ⟨g, 0, none⟩ = some a ∧ w.cell? ⟨g, 1, none⟩ = some b ∧ w.frozen? ⟨g, 0, none⟩ = false ∧ w.frozen? ⟨g, 1, none⟩ = false := by
  unfold Box at h
  refine ⟨?_, ?_, ?_, ?_⟩ <;> simp [World.cell?, World.frozen?, h]
theorem box3 {w : World} {g : Nat} {a b c : Value} {T : TypeId} (h : Box w g #[a, b, c] T) : (w.cell? ⟨g, 0, none⟩ = some a ∧ w.cell? ⟨g, 1, none⟩ = some b ∧ w.cell? ⟨g, 2, none⟩ = some c) ∧ w.frozen? ⟨g, 0, none⟩ = false ∧ w.frozen? ⟨g, 1, none⟩ = false ∧ w.frozen? ⟨g, 2, none⟩ = false := by
  unfold Box at h
  refine ⟨⟨?_, ?_, ?_⟩, ?_, ?_, ?_⟩ <;> simp [World.cell?, World.frozen?, h]

set_option maxHeartbeats 2000000 in
theorem ownVersion_any (n : Int) (g : Bool) (L : List Vl) (v : Value) (w : World) (hR : SlV w w.heap.size v L) (hlen : L.length ≤ 3518437208780) :
    Calls Try.prog 30 #[.agg #[.int .u64 n, .bool g, v]] w fun e w' => (∃ v', e = .returned (.agg #[.int .u64 n, .bool g, v']) ∧ OwnV w' w.heap.size v' L) ∧ Below w.heap.size w w' := by
  obtain ⟨q, c, rfl, hr, hq⟩ := hR
  have HR : Hid (∀ w1, Below w.heap.size w w1 → SlV w1 w1.heap.size (.slice q L.length c) L) := fun w1 h => ⟨q, c, rfl, hr.on h, hq⟩
  have C1 : Hid (∀ w1, Below w.heap.size w w1 → Calls Try.prog 32 #[.slice q L.length c] w1 fun e w' => (∃ v', e = .returned v' ∧ OwnV w' w1.heap.size v' L) ∧ Below w1.heap.size w1 w') := fun w1 h => ownRow_any L _ w1 (HR.out w1 h) hlen
  clear hr hq HR
  go_enter Try.func30, Try.ntmps30
  go_wp2_with fail
  have hx1 := Box.new w #[.int .u64 n, .bool g, .slice q L.length c] 31
  have hx2 := Box.new (w.alloc (.cells #[.int .u64 n, .bool g, .slice q L.length c] 31)) #[.int .u64 0, .bool false, .slice none 0 0] 31
  have hx1' := hx1.on ((Below.refl _ _).alloc (Nat.le_refl _) (.cells #[.int .u64 0, .bool false, .slice none 0 0] 31))
  have hb2 : Below w.heap.size w ((w.alloc (.cells #[.int .u64 n, .bool g, .slice q L.length c] 31)).alloc (.cells #[.int .u64 0, .bool false, .slice none 0 0] 31)) := by go_grown
  have hs1 : (w.alloc (.cells #[.int .u64 n, .bool g, .slice q L.length c] 31)).heap.size = w.heap.size + 1 := by simp [go_sem]
  rw [hs1] at hx2
  have H12 : Hid (Box _ w.heap.size _ _ ∧ Box _ (w.heap.size + 1) _ _ ∧ Below w.heap.size w _) := ⟨hx1', hx2, hb2⟩
  clear hx1 hx2 hx1' hb2 hs1
  generalize (w.alloc (.cells #[.int .u64 n, .bool g, .slice q L.length c] 31)).alloc (.cells #[.int .u64 0, .bool false, .slice none 0 0] 31) = w2 at *
  refine (C1.out _ H12.out.2.2).mono ?_
  rintro e w3 ⟨⟨v', rfl, ho⟩, hb3⟩
  obtain ⟨⟨x0, x1, x2⟩, x3, x4, x5⟩ := box3 (H12.out.1.on hb3)
  obtain ⟨⟨y0, y1, y2⟩, y3, y4, y5⟩ := box3 (H12.out.2.1.on hb3)
  have HB3 : Hid (Below w.heap.size w w3 ∧ w3.heap.size ≥ w.heap.size + 2) := ⟨H12.out.2.2.trans (hb3.mono H12.out.2.2.size), by have := (H12.out.2.1.on hb3).lt; omega⟩
  have hN : Hid (OwnV w3 (w.heap.size + 2) v' L) := ho.base (by have := H12.out.2.1.lt; omega)
  have hX := H12.out.2.1.on hb3
  clear ho hb3 H12
  obtain ⟨q', c', rfl, _⟩ := hN.out.row
  have hx3 : Hid (Box w3 (w.heap.size + 1) #[.int .u64 0, .bool false, .slice none 0 0] 31) := hX
  clear hX
  go_wp2_with fail
  have hZ := (((hx3.out.off (i := 2) (.slice q' L.length c') (show w.heap.size + 1 ≠ w.heap.size by omega)).set (i := 0) (.int .u64 n)).set (i := 1) (.bool g)).set (i := 2) (.slice q' L.length c')
  have hN4 := (((hN.out.off (i := 2) (.slice q' L.length c') (show w.heap.size < w.heap.size + 2 by omega)).off (i := 0) (.int .u64 n) (show w.heap.size + 1 < w.heap.size + 2 by omega)).off (i := 1) (.bool g) (show w.heap.size + 1 < w.heap.size + 2 by omega)).off (i := 2) (.slice q' L.length c') (show w.heap.size + 1 < w.heap.size + 2 by omega)
  have hB4 := (((HB3.out.1.setCell (p := ⟨w.heap.size, 2, none⟩) (Nat.le_refl _) (.slice q' L.length c')).setCell (p := ⟨w.heap.size + 1, 0, none⟩) (Nat.le_succ _) (.int .u64 n)).setCell (p := ⟨w.heap.size + 1, 1, none⟩) (Nat.le_succ _) (.bool g)).setCell (p := ⟨w.heap.size + 1, 2, none⟩) (Nat.le_succ _) (.slice q' L.length c')
  generalize (((w3.setCell ⟨w.heap.size, 2, none⟩ (.slice q' L.length c')).setCell ⟨w.heap.size + 1, 0, none⟩ (.int .u64 n)).setCell ⟨w.heap.size + 1, 1, none⟩ (.bool g)).setCell ⟨w.heap.size + 1, 2, none⟩ (.slice q' L.length c') = w4 at *
  obtain ⟨⟨z0, z1, z2⟩, _⟩ := box3 hZ
  (try simp only [Exit.inBlock, Exit.then])
  refine bodyPost_ret (v := .agg #[.int .u64 n, .bool g, .slice q' L.length c']) (by simp [results, Try.results30, go_sem, z0, z1, z2]) rfl ?_
  exact ⟨⟨_, rfl, hN4.base (by omega)⟩, hB4⟩

set_option maxHeartbeats 2000000 in
theorem ownWrite_any (n : Int) (g : Bool) (L : List Vl) (v : Value) (w : World) (hR : SlV w w.heap.size v L) (hlen : L.length ≤ 3518437208780) :
    Calls Try.prog 31 #[.agg #[.int .i64 n, .bool g, v]] w fun e w' => (∃ v', e = .returned (.agg #[.int .i64 n, .bool g, v']) ∧ OwnV w' w.heap.size v' L) ∧ Below w.heap.size w w' := by
  obtain ⟨q, c, rfl, hr, hq⟩ := hR
  have HR : Hid (∀ w1, Below w.heap.size w w1 → SlV w1 w1.heap.size (.slice q L.length c) L) := fun w1 h => ⟨q, c, rfl, hr.on h, hq⟩
  have C1 : Hid (∀ w1, Below w.heap.size w w1 → Calls Try.prog 32 #[.slice q L.length c] w1 fun e w' => (∃ v', e = .returned v' ∧ OwnV w' w1.heap.size v' L) ∧ Below w1.heap.size w1 w') := fun w1 h => ownRow_any L _ w1 (HR.out w1 h) hlen
  clear hr hq HR
  go_enter Try.func31, Try.ntmps31
  go_wp2_with fail
  have hx1 := Box.new w #[.int .i64 n, .bool g, .slice q L.length c] 40
  have hx2 := Box.new (w.alloc (.cells #[.int .i64 n, .bool g, .slice q L.length c] 40)) #[.int .i64 0, .bool false, .slice none 0 0] 40
  have hx1' := hx1.on ((Below.refl _ _).alloc (Nat.le_refl _) (.cells #[.int .i64 0, .bool false, .slice none 0 0] 40))
  have hb2 : Below w.heap.size w ((w.alloc (.cells #[.int .i64 n, .bool g, .slice q L.length c] 40)).alloc (.cells #[.int .i64 0, .bool false, .slice none 0 0] 40)) := by go_grown
  have hs1 : (w.alloc (.cells #[.int .i64 n, .bool g, .slice q L.length c] 40)).heap.size = w.heap.size + 1 := by simp [go_sem]
  rw [hs1] at hx2
  have H12 : Hid (Box _ w.heap.size _ _ ∧ Box _ (w.heap.size + 1) _ _ ∧ Below w.heap.size w _) := ⟨hx1', hx2, hb2⟩
  clear hx1 hx2 hx1' hb2 hs1
  generalize (w.alloc (.cells #[.int .i64 n, .bool g, .slice q L.length c] 40)).alloc (.cells #[.int .i64 0, .bool false, .slice none 0 0] 40) = w2 at *
  refine (C1.out _ H12.out.2.2).mono ?_
  rintro e w3 ⟨⟨v', rfl, ho⟩, hb3⟩
  obtain ⟨⟨x0, x1, x2⟩, x3, x4, x5⟩ := box3 (H12.out.1.on hb3)
  obtain ⟨⟨y0, y1, y2⟩, y3, y4, y5⟩ := box3 (H12.out.2.1.on hb3)
  have HB3 : Hid (Below w.heap.size w w3 ∧ w3.heap.size ≥ w.heap.size + 2) := ⟨H12.out.2.2.trans (hb3.mono H12.out.2.2.size), by have := (H12.out.2.1.on hb3).lt; omega⟩
  have hN : Hid (OwnV w3 (w.heap.size + 2) v' L) := ho.base (by have := H12.out.2.1.lt; omega)
  have hX := H12.out.2.1.on hb3
  clear ho hb3 H12
  obtain ⟨q', c', rfl, _⟩ := hN.out.row
  have hx3 : Hid (Box w3 (w.heap.size + 1) #[.int .i64 0, .bool false, .slice none 0 0] 40) := hX
  clear hX
  go_wp2_with fail
  have hZ := (((hx3.out.off (i := 2) (.slice q' L.length c') (show w.heap.size + 1 ≠ w.heap.size by omega)).set (i := 0) (.int .i64 n)).set (i := 1) (.bool g)).set (i := 2) (.slice q' L.length c')
  have hN4 := (((hN.out.off (i := 2) (.slice q' L.length c') (show w.heap.size < w.heap.size + 2 by omega)).off (i := 0) (.int .i64 n) (show w.heap.size + 1 < w.heap.size + 2 by omega)).off (i := 1) (.bool g) (show w.heap.size + 1 < w.heap.size + 2 by omega)).off (i := 2) (.slice q' L.length c') (show w.heap.size + 1 < w.heap.size + 2 by omega)
  have hB4 := (((HB3.out.1.setCell (p := ⟨w.heap.size, 2, none⟩) (Nat.le_refl _) (.slice q' L.length c')).setCell (p := ⟨w.heap.size + 1, 0, none⟩) (Nat.le_succ _) (.int .i64 n)).setCell (p := ⟨w.heap.size + 1, 1, none⟩) (Nat.le_succ _) (.bool g)).setCell (p := ⟨w.heap.size + 1, 2, none⟩) (Nat.le_succ _) (.slice q' L.length c')
  generalize (((w3.setCell ⟨w.heap.size, 2, none⟩ (.slice q' L.length c')).setCell ⟨w.heap.size + 1, 0, none⟩ (.int .i64 n)).setCell ⟨w.heap.size + 1, 1, none⟩ (.bool g)).setCell ⟨w.heap.size + 1, 2, none⟩ (.slice q' L.length c') = w4 at *
  obtain ⟨⟨z0, z1, z2⟩, _⟩ := box3 hZ
  (try simp only [Exit.inBlock, Exit.then])
  refine bodyPost_ret (v := .agg #[.int .i64 n, .bool g, .slice q' L.length c']) (by simp [results, Try.results31, go_sem, z0, z1, z2]) rfl ?_
  exact ⟨⟨_, rfl, hN4.base (by omega)⟩, hB4⟩

end Go.Proofs.Yteddpogjpohacab
