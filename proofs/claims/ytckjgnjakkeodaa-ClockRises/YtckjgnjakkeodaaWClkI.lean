/- Both sides held against each other: is; awake. -/
import Derived.Test.YtckjgnjakkeodaaWClkR3
import Derived.Deep.RegionWith
namespace Go.Proofs.Ytckjgnjakkeodaa
open Go.RowKit
set_option maxRecDepth 100000

/-- a clock with those that are open, whatever frontier it holds -/
def ClkE (w : World) (b la : Nat) (O : List Nat) : Prop := ∃ fr D, Clk w b la fr D ∧ ClkO la fr D O
theorem ClkE.keep {w w' : World} {b B la : Nat} {O : List Nat} (h : ClkE w b la O) (hb : Below B w w') (hB : b < B) : ClkE w' b la O := by
  obtain ⟨fr, D, h1, h2⟩ := h
  exact ⟨fr, D, h1.keep hb hB, h2⟩
theorem ClkE.lt {w : World} {b la : Nat} {O : List Nat} (h : ClkE w b la O) : b < w.heap.size := by
  obtain ⟨fr, D, h1, h2⟩ := h
  exact h1.lt

/-- what is known while both are asked: the box of the document's clock at w's end -/
structure SI (w : World) (b la : Nat) (O : List Nat) (be : Nat) (v : Value) (w' : World) : Prop where
  c0 : w'.cell? ⟨w.heap.size, 0, none⟩ = some (.int .u64 be)
  c1 : w'.cell? ⟨w.heap.size, 1, none⟩ = some (.int .u64 la)
  c2 : w'.cell? ⟨w.heap.size, 2, none⟩ = some v
  clk : ClkE w' b la O
  gr : w.grownBy w' (some b)
  sz : w.heap.size < w'.heap.size
  blt : b < w.heap.size
  sl : SlU w (b + 1) v O
theorem SI.keep {w wp w' : World} {b la be : Nat} {O : List Nat} {v : Value} (h : SI w b la O be v wp) (hb : Below wp.heap.size wp w') : SI w b la O be v w' :=
  ⟨(hb.cell (p := ⟨w.heap.size, 0, none⟩) h.sz).trans h.c0, (hb.cell (p := ⟨w.heap.size, 1, none⟩) h.sz).trans h.c1, (hb.cell (p := ⟨w.heap.size, 2, none⟩) h.sz).trans h.c2, h.clk.keep hb h.clk.lt,
    ⟨hb.os.trans h.gr.os, hb.tape.trans h.gr.tape, hb.output.trans h.gr.output, Nat.le_trans h.gr.size hb.size, fun k hk hn => (hb.block k (Nat.lt_of_lt_of_le hk h.gr.size)).trans (h.gr.block k hk hn)⟩, Nat.lt_of_lt_of_le h.sz hb.size, h.blt, h.sl⟩
theorem SI.move {w wp w' : World} {b la be : Nat} {O : List Nat} {v : Value} (h : SI w b la O be v wp) (hg : wp.grownBy w' (some b)) (hc : ClkE w' b la O) : SI w b la O be v w' := by
  have hb := h.blt
  exact ⟨hg.cell h.c0 (by simp; omega), hg.cell h.c1 (by simp; omega), hg.cell h.c2 (by simp; omega), hc, grown_trans h.gr hg, Nat.lt_of_lt_of_le h.sz hg.size, h.blt, h.sl⟩
theorem is_front {w wp : World} {b la be : Nat} {O : List Nat} {v : Value} (h : SI w b la O be v wp) :
    Calls Try.prog 15 #[.pointer (some ⟨b, 0, none⟩)] wp fun e w' => e = .returned (.int .u64 (frO la O)) ∧ SI w b la O be v w' := by
  obtain ⟨fr, D, h1, h2⟩ := h.clk
  refine (front_any b la fr D O wp h1 h2).mono ?_
  rintro e w' ⟨rfl, h3, h4⟩
  exact ⟨rfl, h.move h4 ⟨_, D, h3, h2.move _ h2.lag (Nat.le_refl _)⟩⟩
theorem is_rfront {w wp : World} {b la be : Nat} {O : List Nat} {v : Value} (h : SI w b la O be v wp) :
    Calls Try.prog 21 #[.agg #[.int .u64 be, .int .u64 la, v]] wp fun e w' => e = .returned (.int .u64 (frO la O)) ∧ SI w b la O be v w' := by
  obtain ⟨fr, D, h1, h2⟩ := h.clk
  have hs := (h.sl.grown h.gr (Nat.lt_succ_self b)).weaken (Nat.zero_le _)
  refine (rfront_any be la O v wp hs h2.pos h2.below h2.top h2.len).mono ?_
  rintro e w' ⟨rfl, h3⟩
  exact ⟨rfl, h.keep h3⟩
theorem is_last {w wp : World} {b la be : Nat} {O : List Nat} {v : Value} (h : SI w b la O be v wp) :
    Calls Try.prog 22 #[.pointer (some ⟨b, 0, none⟩)] wp fun e w' => e = .returned (.int .u64 la) ∧ SI w b la O be v w' := by
  obtain ⟨fr, D, h1, h2⟩ := h.clk
  refine (last_any b la fr D wp h1).mono ?_
  rintro e w' ⟨rfl, rfl⟩
  exact ⟨rfl, h⟩
theorem is_open {w wp : World} {b la be : Nat} {O : List Nat} {v : Value} (h : SI w b la O be v wp) :
    Calls Try.prog 16 #[.pointer (some ⟨b, 0, none⟩)] wp fun e w' => ∃ p c, e = .returned (.slice p O.length c) ∧ RdU w' 0 p O ∧ SI w b la O be v w' := by
  obtain ⟨fr, D, h1, h2⟩ := h.clk
  refine (open_any b la fr D O wp h1 h2).mono ?_
  rintro e w' ⟨p, c, rfl, h3, h4, h5⟩
  exact ⟨p, c, rfl, h3.weaken (Nat.zero_le _), h.move h5 ⟨_, D, h4, h2.move _ h2.lag (Nat.le_refl _)⟩⟩
theorem is_same {w wp : World} {b la be : Nat} {O : List Nat} {p q : Option Addr} {c d : Nat} (h : SI w b la O be (.slice q O.length d) wp) (hR : RdU wp 0 p O) :
    Calls Try.prog 23 #[.slice p O.length c, .slice q O.length d] wp fun e w' => e = .returned (.bool true) ∧ SI w b la O be (.slice q O.length d) w' := by
  obtain ⟨fr, D, h1, h2⟩ := h.clk
  obtain ⟨p', c', e', hQ⟩ := ((h.sl.grown h.gr (Nat.lt_succ_self b)).weaken (Nat.zero_le _)).rd
  cases e'
  refine (rsame_any O p q c d wp hR hQ h2.len).mono ?_
  rintro e w' ⟨rfl, h3⟩
  exact ⟨rfl, h.keep h3⟩
theorem SI.start {w : World} {b la be : Nat} {O : List Nat} {v : Value} (h : ClkE w b la O) (hs : SlU w (b + 1) v O) : SI w b la O be v (w.alloc (.cells #[.int .u64 be, .int .u64 la, v] 29)).drew := by
  have hb := new_block w (.cells #[.int .u64 be, .int .u64 la, v] 29)
  have hB : Below w.heap.size w (w.alloc (.cells #[.int .u64 be, .int .u64 la, v] 29)).drew := ((Below.refl _ _).alloc (Nat.le_refl _) _).drew
  have c : ∀ o, (w.alloc (.cells #[.int .u64 be, .int .u64 la, v] 29)).drew.cell? ⟨w.heap.size, o, none⟩ = #[Value.int .u64 be, .int .u64 la, v][o]? := fun o => cell_of_block hb o
  exact ⟨c 0, c 1, c 2, h.keep hB h.lt, ⟨hB.os, hB.tape, hB.output, hB.size, fun k hk _ => hB.block k hk⟩, by have := size_new w (.cells #[.int .u64 be, .int .u64 la, v] 29); show w.heap.size < (w.alloc _).heap.size; omega, h.lt, hs⟩

set_option maxHeartbeats 8000000 in
theorem is_any (b la be : Nat) (O : List Nat) (v : Value) (w : World) (h : ClkE w b la O) (hs : SlU w (b + 1) v O) :
    Calls Try.prog 10 #[.pointer (some ⟨b, 0, none⟩), clkV be la v] w fun e w' => e = .returned (.bool true) ∧ ClkE w' b la O ∧ w.grownBy w' (some b) := by
  have ST := SI.start (be := be) h hs
  obtain ⟨q, d, rfl, _⟩ := hs.rd
  clear h hs
  unfold clkV
  have c0 := ST.c0
  have c1 := ST.c1
  have c2 := ST.c2
  go_enter Try.func10, Try.ntmps10
  go_wp2_with fail
  go_region_with (first | (go_at_call 15; refine (is_front (by assumption)).mono ?_; rintro e w1 ⟨rfl, h1⟩; have c10 := h1.c0; have c11 := h1.c1; have c12 := h1.c2) | (go_at_call 21; refine (is_rfront (by assumption)).mono ?_; rintro e w2 ⟨rfl, h2⟩; have c20 := h2.c0; have c21 := h2.c1; have c22 := h2.c2) | (go_at_call 22; refine (is_last (by assumption)).mono ?_; rintro e w3 ⟨rfl, h3⟩; have c30 := h3.c0; have c31 := h3.c1; have c32 := h3.c2) | (go_at_call 16; refine (is_open (by assumption)).mono ?_; rintro e w4 ⟨p4, d4, rfl, hR4, h4⟩; have c40 := h4.c0; have c41 := h4.c1; have c42 := h4.c2) | (go_at_call 23; refine (is_same (by assumption) (by assumption)).mono ?_; rintro e w5 ⟨rfl, h5⟩; have c50 := h5.c0; have c51 := h5.c1; have c52 := h5.c2))
  all_goals
    go_wp2_with fail
    go_ret
    exact ⟨rfl, h5.clk, h5.gr⟩
end Go.Proofs.Ytckjgnjakkeodaa
