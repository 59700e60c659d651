/- Acts, as they are read; what the laws know of a place and of the document's. -/
import Derived.Test.YtofndmiebnhkaaaWCelD
namespace Go.Proofs.Ytofndmiebnhkaaa
open Go.RowKit
set_option maxRecDepth 100000

/-- an act -/
structure ActC where
  k : Int
  off : Int
  x : Int
/-- acts that are read -/
def RdA (w : World) (B : Nat) (q : Option Addr) (L : List ActC) : Prop := ∀ i (hi : i < L.length), ∃ g o, q = some ⟨g, o, none⟩ ∧ g < B ∧ w.cell? ⟨g, o + i * 3, none⟩ = some (.int .i64 L[i].k) ∧ w.cell? ⟨g, o + i * 3 + 1, none⟩ = some (.int .i64 L[i].off) ∧ w.cell? ⟨g, o + i * 3 + 2, none⟩ = some (.int .i64 L[i].x)
theorem doO_len (k off x : Int) (O : List Int) (n : Nat) : (doO k off x O n).length ≤ O.length + 1 := by
  unfold doO keepO pushO
  split
  · split
    · simp; omega
    · omega
  · split
    · simp
    · omega
theorem doN_le (k off : Int) (n : Nat) : doN k off n ≤ n + 1 := by
  unfold doN pushN
  split
  · omega
  · split <;> omega
theorem CelE.lift {w : World} {b lo lo' : Nat} (h : CelE w b lo [] 0) (hb : b < lo') : CelE w b lo' [] 0 := by
  obtain ⟨p, L, h1, h2, h3⟩ := h
  rw [List.map_eq_nil_iff] at h2
  subst h2
  exact ⟨p, [], ⟨h1.blk, hb, h1.chn⟩, rfl, rfl⟩
theorem box_facts {w : World} {g : Nat} {v : Value} {n : Nat} (h : w.heap[g]? = some (.cells #[v, .int .u64 (n : Nat)] 28 (0, 0))) :
    w.cell? ⟨g, 0, none⟩ = some v ∧ w.cell? ⟨g, 1, none⟩ = some (.int .u64 (n : Nat)) ∧ w.frozen? ⟨g, 0, none⟩ = false ∧ w.frozen? ⟨g, 1, none⟩ = false := by
  refine ⟨?_, ?_, ?_, ?_⟩ <;> simp [World.cell?, World.frozen?, h]
/-- A PLACE (block b) AND THE DOCUMENT's (in the box bx): both keep O, the newest one's number is n. -/
structure PL (w : World) (b bx lo : Nat) (O : List Int) (n : Nat) (v : Value) (wr : World) : Prop where
  cel : CelE wr b lo O n
  sl : SlI wr lo v O
  box : wr.heap[bx]? = some (.cells #[v, .int .u64 (n : Nat)] 28 (0, 0))
  bl : Below w.heap.size w wr
  sz : lo ≤ wr.heap.size
  hb : w.heap.size ≤ b
  hx : w.heap.size ≤ bx
  ne : b ≠ bx
  xlo : bx < lo
theorem PL.on {w w1 w2 : World} {b bx lo : Nat} {O : List Int} {n : Nat} {v : Value} (h : PL w b bx lo O n v w1) (hb : Below w1.heap.size w1 w2) : PL w b bx lo O n v w2 :=
  ⟨h.cel.keep hb (Nat.le_refl _), h.sl.keep hb (Nat.le_refl _), (hb.block _ (Array.getElem?_eq_some_iff.1 h.box).1).trans h.box, h.bl.trans (hb.mono h.bl.size), Nat.le_trans h.sz hb.size, h.hb, h.hx, h.ne, h.xlo⟩
theorem PL.drew {w w1 : World} {b bx lo : Nat} {O : List Int} {n : Nat} {v : Value} (h : PL w b bx lo O n v w1) : PL w b bx lo O n v w1.drew := h.on (by go_grown)
theorem PL.boxOn {w w1 w2 : World} {b bx lo : Nat} {O : List Int} {n : Nat} {v : Value} (h : PL w b bx lo O n v w1) (hg : w1.grownBy w2 (some b)) : w2.heap[bx]? = some (.cells #[v, .int .u64 (n : Nat)] 28 (0, 0)) :=
  (hg.block _ (Array.getElem?_eq_some_iff.1 h.box).1 (by have := h.ne; simp; omega)).trans h.box
theorem PL.other {w w1 w2 : World} {b bx lo b' : Nat} {O : List Int} {n : Nat} {v : Value} (h : PL w b bx lo O n v w1) (hg : w1.grownBy w2 (some b')) (h1 : b ≠ b') (h2 : bx ≠ b') (h3 : b' < lo) (h4 : w.heap.size ≤ b') : PL w b bx lo O n v w2 :=
  ⟨h.cel.other hg h1 h3, h.sl.grown hg h3, (hg.block _ (Array.getElem?_eq_some_iff.1 h.box).1 (by simp; omega)).trans h.box, below_own h.bl hg h4, Nat.le_trans h.sz hg.size, h.hb, h.hx, h.ne, h.xlo⟩
theorem Chn.grown_off {w w' : World} {lo g0 : Nat} {cs : Array Value} {T : TypeId} {z : Nat × Nat} (hg : w.heap[g0]? = some (.cells cs T z)) (hT : T ≠ 71) (hw : w.grownBy w' (some g0)) : ∀ {L : List (Int × Nat)} {p : Option Addr}, Chn w lo p L → Chn w' lo p L
  | [], _, h => h
  | _ :: _, _, ⟨g, q, h1, h2, h3, h4⟩ => ⟨g, q, h1, h2, by
      have hne : g ≠ g0 := fun e => by rw [e, hg] at h3; cases h3; exact hT rfl
      rw [hw.block g (Array.getElem?_eq_some_iff.1 h3).1 (by simpa using hne)]; exact h3, h4.grown_off hg hT hw⟩
theorem PL.off {w w1 w2 : World} {b bx lo g : Nat} {O : List Int} {n : Nat} {v : Value} {cs : Array Value} {z : Nat × Nat} (h : PL w b bx lo O n v w1) (hw : w1.grownBy w2 (some g)) (hg : w1.heap[g]? = some (.cells cs 2 z)) (hv : offB g v) (hl : lo ≤ g) : PL w b bx lo O n v w2 := by
  obtain ⟨p, L, c1, c2, c3⟩ := h.cel
  have hbl := c1.lt
  have hxl := h.xlo
  have h0 := h.hb
  refine ⟨⟨p, L, ⟨(hw.block b c1.size (by simp; omega)).trans c1.blk, c1.lt, c1.chn.grown_off hg (by decide) hw⟩, c2, c3⟩, ?_, (hw.block _ (Array.getElem?_eq_some_iff.1 h.box).1 (by simp; omega)).trans h.box, below_own h.bl hw (by omega), Nat.le_trans h.sz hw.size, h.hb, h.hx, h.ne, h.xlo⟩
  rcases h.sl with hh | ⟨g', c, rfl, h1, h2, h3⟩
  · exact .inl hh
  · have hne := hv _ _ _ rfl
    exact .inr ⟨g', c, rfl, h1, Nat.lt_of_lt_of_le h2 hw.size, fun i hi => (World.cell?_of_block (a := ⟨g', i, none⟩) (hw.block g' h2 (by simpa using hne))).trans (h3 i hi)⟩
theorem PL.set {w w1 w2 : World} {b bx lo : Nat} {O O2 : List Int} {n n2 : Nat} {v v2 : Value} (h : PL w b bx lo O n v w1) (hg : w1.grownBy w2 (some b)) (hs : SlI w2 lo v2 O2) (hc : CelE w2 b lo O2 n2) :
    PL w b bx lo O2 n2 v2 ((w2.setCell ⟨bx, 0, none⟩ v2).setCell ⟨bx, 1, none⟩ (.int .u64 (n2 : Nat))) := by
  have e0 := h.boxOn hg
  have g1 := grownBy_set w2 bx 0 v2
  have g2 := grownBy_set (w2.setCell ⟨bx, 0, none⟩ v2) bx 1 (.int .u64 (n2 : Nat))
  have hl := hg.size
  have hsz := h.sz
  refine ⟨(hc.other g1 h.ne h.xlo).other g2 h.ne h.xlo, (hs.grown g1 h.xlo).grown g2 h.xlo, ?_, ?_, ?_, h.hb, h.hx, h.ne, h.xlo⟩
  · rw [heap_set_same _ _ 1 _ _ _ _ (heap_set_same _ _ 0 _ _ _ _ e0)]
    rfl
  · exact below_own (b := bx) (below_own (b := bx) (below_own h.bl hg h.hb) g1 h.hx) g2 h.hx
  · simp
    omega
theorem PL.start {w w1 : World} {b lo : Nat} (hc : CelE w1 b lo [] 0) (hz : b < w1.heap.size) (hb : Below w.heap.size w w1) (hwb : w.heap.size ≤ b) :
    PL w b w1.heap.size (w1.heap.size + 1) [] 0 (.slice none 0 0) (w1.alloc (.cells #[.slice none 0 0, .int .u64 0] 28)) := by
  have h0 : Below w1.heap.size w1 (w1.alloc (.cells #[.slice none 0 0, .int .u64 0] 28)) := by go_grown
  exact ⟨(hc.lift (by omega)).keep h0 (Nat.le_refl _), .inl ⟨rfl, rfl⟩, by rw [heap_alloc_new]; rfl, hb.trans (h0.mono hb.size), by simp, hwb, hb.size, by omega, by omega⟩
end Go.Proofs.Ytofndmiebnhkaaa
