/- The walk of play. -/
import Derived.Test.YtckjgnjakkeodaaMOps
namespace Go.Proofs.Ytckjgnjakkeodaa
open Go.RowKit
set_option maxRecDepth 100000

/-- the boxes of play: the document's clock, the call, the result -/
structure Thr (w : World) (g : Nat) (be la : Int) (v : Value) (tk : Bool) (pk st : Int) : Prop where
  sz : g + 2 < w.heap.size
  q0 : w.cell? ⟨g, 0, none⟩ = some (.int .u64 be)
  q1 : w.cell? ⟨g, 1, none⟩ = some (.int .u64 la)
  q2 : w.cell? ⟨g, 2, none⟩ = some v
  o0 : w.cell? ⟨g + 1, 0, none⟩ = some (.bool tk)
  o1 : w.cell? ⟨g + 1, 1, none⟩ = some (.int .i64 pk)
  o2 : w.cell? ⟨g + 1, 2, none⟩ = some (.int .u64 st)
  r0 : w.cell? ⟨g + 1 + 1, 0, none⟩ = some (.int .u64 0)
  r1 : w.cell? ⟨g + 1 + 1, 1, none⟩ = some (.int .u64 0)
  r2 : w.cell? ⟨g + 1 + 1, 2, none⟩ = some (.slice none 0 0)
  k0 : w.frozen? ⟨g + 1 + 1, 0, none⟩ = false
  k1 : w.frozen? ⟨g + 1 + 1, 1, none⟩ = false
  k2 : w.frozen? ⟨g + 1 + 1, 2, none⟩ = false
theorem Thr.blocks {w w' : World} {g : Nat} {be la : Int} {v : Value} {tk : Bool} {pk st : Int} (h : Thr w g be la v tk pk st) (hs : w.heap.size ≤ w'.heap.size) (hb : ∀ k, g ≤ k → k < w.heap.size → w'.heap[k]? = w.heap[k]?) : Thr w' g be la v tk pk st := by
  have hz := h.sz
  have c : ∀ d o, d < 3 → w'.cell? ⟨g + d, o, none⟩ = w.cell? ⟨g + d, o, none⟩ := fun d o hd => World.cell?_of_block (a := ⟨g + d, o, none⟩) (hb (g + d) (by omega) (by omega))
  have f : ∀ d o, d < 3 → w'.frozen? ⟨g + d, o, none⟩ = w.frozen? ⟨g + d, o, none⟩ := fun d o hd => World.frozen?_of_block (a := ⟨g + d, o, none⟩) (hb (g + d) (by omega) (by omega))
  exact ⟨Nat.lt_of_lt_of_le h.sz hs, (c 0 _ (by decide)).trans h.q0, (c 0 _ (by decide)).trans h.q1, (c 0 _ (by decide)).trans h.q2, (c 1 _ (by decide)).trans h.o0, (c 1 _ (by decide)).trans h.o1, (c 1 _ (by decide)).trans h.o2, (c 2 _ (by decide)).trans h.r0, (c 2 _ (by decide)).trans h.r1, (c 2 _ (by decide)).trans h.r2, (f 2 _ (by decide)).trans h.k0, (f 2 _ (by decide)).trans h.k1, (f 2 _ (by decide)).trans h.k2⟩
theorem Thr.below {w w' : World} {g : Nat} {be la : Int} {v : Value} {tk : Bool} {pk st : Int} (h : Thr w g be la v tk pk st) (hb : Below w.heap.size w w') : Thr w' g be la v tk pk st := h.blocks hb.size (fun k _ hk => hb.block k hk)
theorem Thr.grown {w w' : World} {g b : Nat} {be la : Int} {v : Value} {tk : Bool} {pk st : Int} (h : Thr w g be la v tk pk st) (hg : w.grownBy w' (some b)) (hb : b < g) : Thr w' g be la v tk pk st := h.blocks hg.size (fun k hk hk2 => hg.block k hk2 (by simp; omega))
theorem gr_below {w w1 w2 : World} {b : Nat} (h : w.grownBy w1 (some b)) (hb : Below w1.heap.size w1 w2) : w.grownBy w2 (some b) :=
  ⟨hb.os.trans h.os, hb.tape.trans h.tape, hb.output.trans h.output, Nat.le_trans h.size hb.size, fun k hk hn => (hb.block k (Nat.lt_of_lt_of_le hk h.size)).trans (h.block k hk hn)⟩
theorem gr_set {w w1 : World} {b g o : Nat} (h : w.grownBy w1 (some b)) (hg : w.heap.size ≤ g) (u : Value) : w.grownBy (w1.setCell ⟨g, o, none⟩ u) (some b) :=
  ⟨h.os, h.tape, h.output, by rw [set_size]; exact h.size, fun k hk hn => (Below.heap_setCell _ _ _ _ (by simp; omega)).trans (h.block k hk hn)⟩
theorem gr_alloc {w w1 : World} {b : Nat} (h : w.grownBy w1 (some b)) (o : Obj) : w.grownBy (w1.alloc o) (some b) := gr_below h ((Below.refl _ _).alloc (Nat.le_refl _) _)
theorem Thr.start (w : World) (be la : Int) (v : Value) (tk : Bool) (pk st : Int) : Thr (((w.alloc (.cells #[.int .u64 be, .int .u64 la, v] 29)).alloc (.cells #[.bool tk, .int .i64 pk, .int .u64 st] 39)).alloc (.cells #[.int .u64 0, .int .u64 0, .slice none 0 0] 29)) w.heap.size be la v tk pk st := by
  have n1 := new_block w (.cells #[.int .u64 be, .int .u64 la, v] 29)
  have s1 := size_new w (.cells #[.int .u64 be, .int .u64 la, v] 29)
  generalize w.alloc (.cells #[.int .u64 be, .int .u64 la, v] 29) = w1 at *
  have n2 := new_block w1 (.cells #[.bool tk, .int .i64 pk, .int .u64 st] 39)
  have s2 := size_new w1 (.cells #[.bool tk, .int .i64 pk, .int .u64 st] 39)
  have b2 := Below.heap_alloc w1 (.cells #[.bool tk, .int .i64 pk, .int .u64 st] 39) w.heap.size (by omega)
  generalize w1.alloc (.cells #[.bool tk, .int .i64 pk, .int .u64 st] 39) = w2 at *
  have n3 := new_block w2 (.cells #[.int .u64 0, .int .u64 0, .slice none 0 0] 29)
  have s3 := size_new w2 (.cells #[.int .u64 0, .int .u64 0, .slice none 0 0] 29)
  have b3 := Below.heap_alloc w2 (.cells #[.int .u64 0, .int .u64 0, .slice none 0 0] 29) w.heap.size (by omega)
  have b4 := Below.heap_alloc w2 (.cells #[.int .u64 0, .int .u64 0, .slice none 0 0] 29) w1.heap.size (by omega)
  generalize w2.alloc (.cells #[.int .u64 0, .int .u64 0, .slice none 0 0] 29) = w3 at *
  have e1 := b3.trans (b2.trans n1)
  have e2 := b4.trans n2
  rw [s1] at e2 s2
  rw [s2] at n3 s3
  have c1 : ∀ o, w3.cell? ⟨w.heap.size, o, none⟩ = #[Value.int .u64 be, .int .u64 la, v][o]? := fun o => cell_of_block e1 o
  have c2 : ∀ o, w3.cell? ⟨w.heap.size + 1, o, none⟩ = #[Value.bool tk, .int .i64 pk, .int .u64 st][o]? := fun o => cell_of_block e2 o
  have c3 : ∀ o, w3.cell? ⟨w.heap.size + 1 + 1, o, none⟩ = #[Value.int .u64 0, .int .u64 0, .slice none 0 0][o]? := fun o => cell_of_block n3 o
  have f3 : ∀ o, w3.frozen? ⟨w.heap.size + 1 + 1, o, none⟩ = false := fun o => frozen_of_block n3 o
  exact ⟨by omega, c1 0, c1 1, c1 2, c2 0, c2 1, c2 2, c3 0, c3 1, c3 2, f3 0, f3 1, f3 2⟩

theorem alloc_old (w : World) (o : Obj) (g i : Nat) (h : g < w.heap.size) : (w.alloc o).cell? ⟨g, i, none⟩ = w.cell? ⟨g, i, none⟩ := World.cell?_of_block (Below.heap_alloc w o g h)
/-- what play leaves -/
def PlP (w : World) (b be lo : Nat) (e : Ending) (w' : World) : Prop := ∃ (la : Nat) (O : List Nat) (v : Value), e = .returned (.tuple #[clkV be la v, .bool true]) ∧ ClkE w' b la O ∧ SlU w' lo v O ∧ w.grownBy w' (some b)

set_option maxHeartbeats 16000000 in
theorem play_any (b la be lo : Nat) (O : List Nat) (v : Value) (o : OpC) (w : World) (h : ClkE w b la O) (hlo1 : b < lo) (hlo2 : lo ≤ w.heap.size) (hs : SlU w lo v O) (hst : o.st < 18446744073709551616) :
    Calls Try.prog 12 #[.pointer (some ⟨b, 0, none⟩), clkV be la v, .agg #[.bool o.tk, .int .i64 o.pk, .int .u64 (o.st : Nat)]] w (PlP w b be lo) := by
  obtain ⟨tk, pk, st⟩ := o
  dsimp only at *
  have HS : Hid (SlU _ _ _ _) := hs
  obtain ⟨q, c, rfl, hRd⟩ := hs.rd
  have HRd : Hid (RdU _ _ _ _) := hRd
  have hbl := h.lt
  have htop : la ≤ 4611686018427387904 := by obtain ⟨_, _, _, h2⟩ := h; exact h2.top
  have HRG : Hid (la ≤ frO la O + 4096) := by obtain ⟨_, _, _, h2⟩ := h; exact h2.ring
  have HPO : Hid ((∀ s ∈ O, 0 < s) ∧ (∀ s ∈ O, s ≤ la) ∧ O.length ≤ 4096) := by obtain ⟨_, _, _, h2⟩ := h; exact ⟨h2.pos, h2.below, h2.len⟩
  have hlen : O.length ≤ 4096 := HPO.out.2.2
  have HT : Hid (Thr _ _ _ _ _ _ _ _) := Thr.start w (be : Int) (la : Int) (.slice q O.length c) tk pk ((st : Nat) : Int)
  have hB3 : Below w.heap.size w (((w.alloc (.cells #[.int .u64 (be : Int), .int .u64 (la : Int), .slice q O.length c] 29)).alloc (.cells #[.bool tk, .int .i64 pk, .int .u64 ((st : Nat) : Int)] 39)).alloc (.cells #[.int .u64 0, .int .u64 0, .slice none 0 0] 29)) := by go_grown
  have HG3 : Hid (w.grownBy _ (some b)) := ⟨hB3.os, hB3.tape, hB3.output, hB3.size, fun k hk _ => hB3.block k hk⟩
  have HC3 : Hid (ClkE _ b la O) := h.keep hB3 hbl
  clear h hs hRd hB3
  unfold clkV at *
  cases tk with
  | true =>
    by_cases hE : la = 4611686018427387904
    · have C3 : Hid (∀ w3, ClkE w3 b la O → Calls _ _ _ _ _) := fun w3 h3 => takeE_end b la O w3 h3 hE
      have C4 : Hid (∀ w4, SlU w4 0 (.slice q O.length c) O → Calls _ _ _ _ _) := fun w4 h4 => rtake_end be la O _ w4 h4 hE
      unfold clkV at C4
      clear hE HRG HPO
      go_enter Try.func12, Try.ntmps12
      go_wp2_with fail
      generalize ((w.alloc (.cells #[.int .u64 (be : Int), .int .u64 (la : Int), .slice q O.length c] 29)).alloc (.cells #[.bool true, .int .i64 pk, .int .u64 ((st : Nat) : Int)] 39)).alloc (.cells #[.int .u64 0, .int .u64 0, .slice none 0 0] 29) = w3 at *
      refine (C3.out w3 HC3.out).mono ?_
      rintro e w4 ⟨rfl, hC4, hG4⟩
      have HC4 : Hid (ClkE _ _ _ _) := hC4
      have HG4 : Hid (w.grownBy w4 (some b)) := grown_trans HG3.out hG4
      have HT4 : Hid (Thr w4 _ _ _ _ _ _ _) := HT.out.grown hG4 hbl
      clear hC4 hG4 HC3 HG3 HT C3
      have hsz4 := HT4.out.sz
      obtain ⟨hz, q0, q1, q2, o0, o1, o2, r0, r1, r2, k0, k1, k2⟩ := HT4.out
      have HS4 : Hid (SlU w4 0 _ O) := (HS.out.grown HG4.out hlo1).weaken (Nat.zero_le _)
      go_wp2_with fail
      refine (C4.out w4 HS4.out).mono ?_
      rintro e w5 ⟨rfl, hB5⟩
      have HC5 : Hid (ClkE w5 _ _ _) := HC4.out.keep hB5 HC4.out.lt
      have HG5 : Hid (w.grownBy w5 (some b)) := gr_below HG4.out hB5
      have HT5 : Hid (Thr w5 _ _ _ _ _ _ _) := HT4.out.below hB5
      have hz45 : w4.heap.size ≤ w5.heap.size := hB5.size
      clear q0 q1 q2 o0 o1 o2 r0 r1 r2 k0 k1 k2 hB5 HC4 HG4 HT4 C4
      obtain ⟨hz5, q0, q1, q2, o0, o1, o2, r0, r1, r2, k0, k1, k2⟩ := HT5.out
      have hdst : Hid (∀ w6, w5.heap.size ≤ w6.heap.size → (∀ k, k < w5.heap.size → k ≠ w.heap.size + 1 + 1 → w6.heap[k]? = w5.heap[k]?) → w6.os = w5.os ∧ w6.tape = w5.tape ∧ w6.output = w5.output → PlP w b be lo (.returned (.tuple #[clkV be la (.slice q O.length c), .bool true])) w6) := by
        intro w6 hs6 hk6 ho6
        have hG6 : w.grownBy w6 (some b) := ⟨ho6.1.trans HG5.out.os, ho6.2.1.trans HG5.out.tape, ho6.2.2.trans HG5.out.output, Nat.le_trans HG5.out.size hs6, fun k hk hn => (hk6 k (Nat.lt_of_lt_of_le hk HG5.out.size) (by omega)).trans (HG5.out.block k hk hn)⟩
        refine ⟨la, O, (.slice q O.length c), rfl, ?_, ?_, hG6⟩
        · obtain ⟨fr, D, h1, h2⟩ := HC5.out
          exact ⟨fr, D, h1.of_block (hk6 b h1.lt (by omega)), h2⟩
        · exact HS.out.grown hG6 hlo1
      clear HC5 HG5 HT5
      have hzz : w.heap.size + 1 + 1 < w5.heap.size := hz5
      go_wp2_with fail
      refine bodyPost_ret (v := .tuple #[clkV be la (.slice q O.length c), .bool true]) (by simp [results, Try.results12, go_sem, clkV, alloc_old, hz5, r0, r1, r2]) rfl ?_
      refine hdst.out _ (by simp) ?_ ⟨rfl, rfl, rfl⟩
      intro k hk hn
      exact (Below.heap_alloc _ _ _ (by rw [set_size, set_size, set_size]; exact hk)).trans ((Below.heap_setCell _ _ _ _ hn).trans ((Below.heap_setCell _ _ _ _ hn).trans (Below.heap_setCell _ _ _ _ hn)))
    · by_cases hF : frO la O + 4096 = la
      · have C3 : Hid (∀ w3, ClkE w3 b la O → Calls _ _ _ _ _) := fun w3 h3 => takeE_full b la O w3 h3 (by omega) hF
        have C4 : Hid (∀ w4, SlU w4 0 (.slice q O.length c) O → Calls _ _ _ _ _) := fun w4 h4 => rtake_full be la O _ w4 h4 HPO.out.1 HPO.out.2.1 HPO.out.2.2 (by omega) (Nat.le_of_eq hF)
        unfold clkV at C4
        clear hE HRG HPO hF
        go_enter Try.func12, Try.ntmps12
        go_wp2_with fail
        generalize ((w.alloc (.cells #[.int .u64 (be : Int), .int .u64 (la : Int), .slice q O.length c] 29)).alloc (.cells #[.bool true, .int .i64 pk, .int .u64 ((st : Nat) : Int)] 39)).alloc (.cells #[.int .u64 0, .int .u64 0, .slice none 0 0] 29) = w3 at *
        refine (C3.out w3 HC3.out).mono ?_
        rintro e w4 ⟨rfl, hC4, hG4⟩
        have HC4 : Hid (ClkE _ _ _ _) := hC4
        have HG4 : Hid (w.grownBy w4 (some b)) := grown_trans HG3.out hG4
        have HT4 : Hid (Thr w4 _ _ _ _ _ _ _) := HT.out.grown hG4 hbl
        clear hC4 hG4 HC3 HG3 HT C3
        have hsz4 := HT4.out.sz
        obtain ⟨hz, q0, q1, q2, o0, o1, o2, r0, r1, r2, k0, k1, k2⟩ := HT4.out
        have HS4 : Hid (SlU w4 0 _ O) := (HS.out.grown HG4.out hlo1).weaken (Nat.zero_le _)
        go_wp2_with fail
        refine (C4.out w4 HS4.out).mono ?_
        rintro e w5 ⟨rfl, hB5⟩
        have HC5 : Hid (ClkE w5 _ _ _) := HC4.out.keep hB5 HC4.out.lt
        have HG5 : Hid (w.grownBy w5 (some b)) := gr_below HG4.out hB5
        have HT5 : Hid (Thr w5 _ _ _ _ _ _ _) := HT4.out.below hB5
        have hz45 : w4.heap.size ≤ w5.heap.size := hB5.size
        clear q0 q1 q2 o0 o1 o2 r0 r1 r2 k0 k1 k2 hB5 HC4 HG4 HT4 C4
        obtain ⟨hz5, q0, q1, q2, o0, o1, o2, r0, r1, r2, k0, k1, k2⟩ := HT5.out
        have hdst : Hid (∀ w6, w5.heap.size ≤ w6.heap.size → (∀ k, k < w5.heap.size → k ≠ w.heap.size + 1 + 1 → w6.heap[k]? = w5.heap[k]?) → w6.os = w5.os ∧ w6.tape = w5.tape ∧ w6.output = w5.output → PlP w b be lo (.returned (.tuple #[clkV be la (.slice q O.length c), .bool true])) w6) := by
          intro w6 hs6 hk6 ho6
          have hG6 : w.grownBy w6 (some b) := ⟨ho6.1.trans HG5.out.os, ho6.2.1.trans HG5.out.tape, ho6.2.2.trans HG5.out.output, Nat.le_trans HG5.out.size hs6, fun k hk hn => (hk6 k (Nat.lt_of_lt_of_le hk HG5.out.size) (by omega)).trans (HG5.out.block k hk hn)⟩
          refine ⟨la, O, (.slice q O.length c), rfl, ?_, ?_, hG6⟩
          · obtain ⟨fr, D, h1, h2⟩ := HC5.out
            exact ⟨fr, D, h1.of_block (hk6 b h1.lt (by omega)), h2⟩
          · exact HS.out.grown hG6 hlo1
        clear HC5 HG5 HT5
        have hzz : w.heap.size + 1 + 1 < w5.heap.size := hz5
        go_wp2_with fail
        refine bodyPost_ret (v := .tuple #[clkV be la (.slice q O.length c), .bool true]) (by simp [results, Try.results12, go_sem, clkV, alloc_old, hz5, r0, r1, r2]) rfl ?_
        refine hdst.out _ (by simp) ?_ ⟨rfl, rfl, rfl⟩
        intro k hk hn
        exact (Below.heap_alloc _ _ _ (by rw [set_size, set_size, set_size]; exact hk)).trans ((Below.heap_setCell _ _ _ _ hn).trans ((Below.heap_setCell _ _ _ _ hn).trans (Below.heap_setCell _ _ _ _ hn)))
      · have C3 : Hid (∀ w3, ClkE w3 b la O → Calls _ _ _ _ _) := fun w3 h3 => takeE_ok b la O w3 h3 (by omega) (by have := HRG.out; omega)
        have C4 : Hid (∀ w4, SlU w4 0 (.slice q O.length c) O → Calls _ _ _ _ _) := fun w4 h4 => rtake_ok be la O _ w4 h4 HPO.out.1 HPO.out.2.1 HPO.out.2.2 (by omega) (by have := HRG.out; omega)
        unfold clkV at C4
        clear hE HRG HPO hF
        go_enter Try.func12, Try.ntmps12
        go_wp2_with fail
        generalize ((w.alloc (.cells #[.int .u64 (be : Int), .int .u64 (la : Int), .slice q O.length c] 29)).alloc (.cells #[.bool true, .int .i64 pk, .int .u64 ((st : Nat) : Int)] 39)).alloc (.cells #[.int .u64 0, .int .u64 0, .slice none 0 0] 29) = w3 at *
        refine (C3.out w3 HC3.out).mono ?_
        rintro e w4 ⟨rfl, hC4, hG4⟩
        have HC4 : Hid (ClkE _ _ _ _) := hC4
        have HG4 : Hid (w.grownBy w4 (some b)) := grown_trans HG3.out hG4
        have HT4 : Hid (Thr w4 _ _ _ _ _ _ _) := HT.out.grown hG4 hbl
        clear hC4 hG4 HC3 HG3 HT C3
        have hsz4 := HT4.out.sz
        obtain ⟨hz, q0, q1, q2, o0, o1, o2, r0, r1, r2, k0, k1, k2⟩ := HT4.out
        have HS4 : Hid (SlU w4 0 _ O) := (HS.out.grown HG4.out hlo1).weaken (Nat.zero_le _)
        go_wp2_with fail
        refine (C4.out w4 HS4.out).mono ?_
        rintro e w5 ⟨v5, rfl, hS5, hB5⟩
        obtain ⟨p5, c5, rfl, _⟩ := hS5.rd
        have HS5 : Hid (SlU _ _ _ _) := hS5
        clear hS5
        have HC5 : Hid (ClkE w5 _ _ _) := HC4.out.keep hB5 HC4.out.lt
        have HG5 : Hid (w.grownBy w5 (some b)) := gr_below HG4.out hB5
        have HT5 : Hid (Thr w5 _ _ _ _ _ _ _) := HT4.out.below hB5
        have hz45 : w4.heap.size ≤ w5.heap.size := hB5.size
        clear q0 q1 q2 o0 o1 o2 r0 r1 r2 k0 k1 k2 hB5 HC4 HG4 HT4 C4
        obtain ⟨hz5, q0, q1, q2, o0, o1, o2, r0, r1, r2, k0, k1, k2⟩ := HT5.out
        have hdst : Hid (∀ w6, w5.heap.size ≤ w6.heap.size → (∀ k, k < w5.heap.size → k ≠ w.heap.size + 1 + 1 → w6.heap[k]? = w5.heap[k]?) → w6.os = w5.os ∧ w6.tape = w5.tape ∧ w6.output = w5.output → PlP w b be lo (.returned (.tuple #[clkV be (la + 1) (.slice p5 (O ++ [la + 1]).length c5), .bool true])) w6) := by
          intro w6 hs6 hk6 ho6
          have hG6 : w.grownBy w6 (some b) := ⟨ho6.1.trans HG5.out.os, ho6.2.1.trans HG5.out.tape, ho6.2.2.trans HG5.out.output, Nat.le_trans HG5.out.size hs6, fun k hk hn => (hk6 k (Nat.lt_of_lt_of_le hk HG5.out.size) (by omega)).trans (HG5.out.block k hk hn)⟩
          refine ⟨(la + 1), (O ++ [la + 1]), (.slice p5 (O ++ [la + 1]).length c5), rfl, ?_, ?_, hG6⟩
          · obtain ⟨fr, D, h1, h2⟩ := HC5.out
            exact ⟨fr, D, h1.of_block (hk6 b h1.lt (by omega)), h2⟩
          · refine SlU.weaken (lo := w4.heap.size) (SlU.far (w := w5) HS5.out hs6 (fun g h1 h2 => hk6 g h2 (by omega))) (by omega)
        clear HC5 HG5 HT5
        have hzz : w.heap.size + 1 + 1 < w5.heap.size := hz5
        go_wp2_with fail
        refine bodyPost_ret (v := .tuple #[clkV be (la + 1) (.slice p5 (O ++ [la + 1]).length c5), .bool true]) (by simp [results, Try.results12, go_sem, clkV, alloc_old, hz5, r0, r1, r2]) rfl ?_
        refine hdst.out _ (by simp) ?_ ⟨rfl, rfl, rfl⟩
        intro k hk hn
        exact (Below.heap_alloc _ _ _ (by rw [set_size, set_size, set_size]; exact hk)).trans ((Below.heap_setCell _ _ _ _ hn).trans ((Below.heap_setCell _ _ _ _ hn).trans (Below.heap_setCell _ _ _ _ hn)))
  | false =>
    by_cases hp : 0 ≤ pk ∧ pk < (O.length : Int)
    · obtain ⟨hp1, hp2⟩ := hp
      obtain ⟨i, rfl⟩ : ∃ i : Nat, pk = (i : Int) := ⟨pk.toNat, by omega⟩
      have hi : i < O.length := by omega
      obtain ⟨g7, o7, rfl, hg7b, hg7, x7⟩ := HRd.out i hi
      have x8 := HG3.out.cell x7 (by simp; omega)
      have hin : O[i] ∈ O := List.getElem_mem hi
      clear x7
      generalize O[i] = sx at *
      have C3 : Hid (∀ w3, ClkE w3 b la O → Calls _ _ _ _ _) := fun w3 h3 => doneE_ok b la O sx w3 h3 hin
      have C4 : Hid (∀ w4, SlU w4 0 (.slice (some ⟨g7, o7, none⟩) O.length c) O → Calls _ _ _ _ _) := fun w4 h4 => rdone_any be la O sx _ w4 h4 HPO.out.2.2
      unfold clkV at C4
      have HIN : Hid _ := hin
      clear HRG hin
      go_enter Try.func12, Try.ntmps12
      go_wp2_with fail
      generalize ((w.alloc (.cells #[.int .u64 (be : Int), .int .u64 (la : Int), .slice (some ⟨g7, o7, none⟩) O.length c] 29)).alloc (.cells #[.bool false, .int .i64 ((i : Nat) : Int), .int .u64 ((st : Nat) : Int)] 39)).alloc (.cells #[.int .u64 0, .int .u64 0, .slice none 0 0] 29) = w3 at *
      refine (C3.out w3 HC3.out).mono ?_
      rintro e w4 ⟨rfl, hC4, hG4⟩
      have HC4 : Hid (ClkE _ _ _ _) := hC4
      have HG4 : Hid (w.grownBy w4 (some b)) := grown_trans HG3.out hG4
      have HT4 : Hid (Thr w4 _ _ _ _ _ _ _) := HT.out.grown hG4 hbl
      clear hC4 hG4 HC3 HG3 HT C3
      have hsz4 := HT4.out.sz
      obtain ⟨hz, q0, q1, q2, o0, o1, o2, r0, r1, r2, k0, k1, k2⟩ := HT4.out
      have HS4 : Hid (SlU w4 0 _ O) := (HS.out.grown HG4.out hlo1).weaken (Nat.zero_le _)
      go_wp2_with fail
      refine (C4.out w4 HS4.out).mono ?_
      rintro e w5 ⟨hor, hB5⟩
      obtain ⟨_, v5, rfl, hS5⟩ := hor.resolve_left (fun hh => hh.1 HIN.out)
      obtain ⟨p5, c5, rfl, _⟩ := hS5.rd
      have HS5 : Hid (SlU _ _ _ _) := hS5
      clear hS5
      have HC5 : Hid (ClkE w5 _ _ _) := HC4.out.keep hB5 HC4.out.lt
      have HG5 : Hid (w.grownBy w5 (some b)) := gr_below HG4.out hB5
      have HT5 : Hid (Thr w5 _ _ _ _ _ _ _) := HT4.out.below hB5
      have hz45 : w4.heap.size ≤ w5.heap.size := hB5.size
      clear q0 q1 q2 o0 o1 o2 r0 r1 r2 k0 k1 k2 hB5 HC4 HG4 HT4 C4
      obtain ⟨hz5, q0, q1, q2, o0, o1, o2, r0, r1, r2, k0, k1, k2⟩ := HT5.out
      have hdst : Hid (∀ w6, w5.heap.size ≤ w6.heap.size → (∀ k, k < w5.heap.size → k ≠ w.heap.size + 1 + 1 → w6.heap[k]? = w5.heap[k]?) → w6.os = w5.os ∧ w6.tape = w5.tape ∧ w6.output = w5.output → PlP w b be lo (.returned (.tuple #[clkV be la (.slice p5 (left O sx).length c5), .bool true])) w6) := by
        intro w6 hs6 hk6 ho6
        have hG6 : w.grownBy w6 (some b) := ⟨ho6.1.trans HG5.out.os, ho6.2.1.trans HG5.out.tape, ho6.2.2.trans HG5.out.output, Nat.le_trans HG5.out.size hs6, fun k hk hn => (hk6 k (Nat.lt_of_lt_of_le hk HG5.out.size) (by omega)).trans (HG5.out.block k hk hn)⟩
        refine ⟨la, (left O sx), (.slice p5 (left O sx).length c5), rfl, ?_, ?_, hG6⟩
        · obtain ⟨fr, D, h1, h2⟩ := HC5.out
          exact ⟨fr, D, h1.of_block (hk6 b h1.lt (by omega)), h2⟩
        · refine SlU.weaken (lo := w4.heap.size) (SlU.far (w := w5) HS5.out hs6 (fun g h1 h2 => hk6 g h2 (by omega))) (by omega)
      clear HC5 HG5 HT5
      have hzz : w.heap.size + 1 + 1 < w5.heap.size := hz5
      go_wp2_with fail
      refine bodyPost_ret (v := .tuple #[clkV be la (.slice p5 (left O sx).length c5), .bool true]) (by simp [results, Try.results12, go_sem, clkV, alloc_old, hz5, r0, r1, r2]) rfl ?_
      refine hdst.out _ (by simp) ?_ ⟨rfl, rfl, rfl⟩
      intro k hk hn
      exact (Below.heap_alloc _ _ _ (by rw [set_size, set_size, set_size]; exact hk)).trans ((Below.heap_setCell _ _ _ _ hn).trans ((Below.heap_setCell _ _ _ _ hn).trans (Below.heap_setCell _ _ _ _ hn)))
    · have hp3 : pk < 0 ∨ (0 ≤ pk ∧ ¬ (pk < (O.length : Int))) := by omega
      clear hp
      rcases hp3 with hp3 | ⟨hp3, hp4⟩
      · have hp5 : ¬ (0 ≤ pk) := by omega
        by_cases hin : st ∈ O
        · have C3 : Hid (∀ w3, ClkE w3 b la O → Calls _ _ _ _ _) := fun w3 h3 => doneE_ok b la O st w3 h3 hin
          have C4 : Hid (∀ w4, SlU w4 0 (.slice q O.length c) O → Calls _ _ _ _ _) := fun w4 h4 => rdone_any be la O st _ w4 h4 HPO.out.2.2
          unfold clkV at C4
          have HIN : Hid _ := hin
          clear HRG hin
          go_enter Try.func12, Try.ntmps12
          go_wp2_with fail
          generalize ((w.alloc (.cells #[.int .u64 (be : Int), .int .u64 (la : Int), .slice q O.length c] 29)).alloc (.cells #[.bool false, .int .i64 pk, .int .u64 ((st : Nat) : Int)] 39)).alloc (.cells #[.int .u64 0, .int .u64 0, .slice none 0 0] 29) = w3 at *
          refine (C3.out w3 HC3.out).mono ?_
          rintro e w4 ⟨rfl, hC4, hG4⟩
          have HC4 : Hid (ClkE _ _ _ _) := hC4
          have HG4 : Hid (w.grownBy w4 (some b)) := grown_trans HG3.out hG4
          have HT4 : Hid (Thr w4 _ _ _ _ _ _ _) := HT.out.grown hG4 hbl
          clear hC4 hG4 HC3 HG3 HT C3
          have hsz4 := HT4.out.sz
          obtain ⟨hz, q0, q1, q2, o0, o1, o2, r0, r1, r2, k0, k1, k2⟩ := HT4.out
          have HS4 : Hid (SlU w4 0 _ O) := (HS.out.grown HG4.out hlo1).weaken (Nat.zero_le _)
          go_wp2_with fail
          refine (C4.out w4 HS4.out).mono ?_
          rintro e w5 ⟨hor, hB5⟩
          obtain ⟨_, v5, rfl, hS5⟩ := hor.resolve_left (fun hh => hh.1 HIN.out)
          obtain ⟨p5, c5, rfl, _⟩ := hS5.rd
          have HS5 : Hid (SlU _ _ _ _) := hS5
          clear hS5
          have HC5 : Hid (ClkE w5 _ _ _) := HC4.out.keep hB5 HC4.out.lt
          have HG5 : Hid (w.grownBy w5 (some b)) := gr_below HG4.out hB5
          have HT5 : Hid (Thr w5 _ _ _ _ _ _ _) := HT4.out.below hB5
          have hz45 : w4.heap.size ≤ w5.heap.size := hB5.size
          clear q0 q1 q2 o0 o1 o2 r0 r1 r2 k0 k1 k2 hB5 HC4 HG4 HT4 C4
          obtain ⟨hz5, q0, q1, q2, o0, o1, o2, r0, r1, r2, k0, k1, k2⟩ := HT5.out
          have hdst : Hid (∀ w6, w5.heap.size ≤ w6.heap.size → (∀ k, k < w5.heap.size → k ≠ w.heap.size + 1 + 1 → w6.heap[k]? = w5.heap[k]?) → w6.os = w5.os ∧ w6.tape = w5.tape ∧ w6.output = w5.output → PlP w b be lo (.returned (.tuple #[clkV be la (.slice p5 (left O st).length c5), .bool true])) w6) := by
            intro w6 hs6 hk6 ho6
            have hG6 : w.grownBy w6 (some b) := ⟨ho6.1.trans HG5.out.os, ho6.2.1.trans HG5.out.tape, ho6.2.2.trans HG5.out.output, Nat.le_trans HG5.out.size hs6, fun k hk hn => (hk6 k (Nat.lt_of_lt_of_le hk HG5.out.size) (by omega)).trans (HG5.out.block k hk hn)⟩
            refine ⟨la, (left O st), (.slice p5 (left O st).length c5), rfl, ?_, ?_, hG6⟩
            · obtain ⟨fr, D, h1, h2⟩ := HC5.out
              exact ⟨fr, D, h1.of_block (hk6 b h1.lt (by omega)), h2⟩
            · refine SlU.weaken (lo := w4.heap.size) (SlU.far (w := w5) HS5.out hs6 (fun g h1 h2 => hk6 g h2 (by omega))) (by omega)
          clear HC5 HG5 HT5
          have hzz : w.heap.size + 1 + 1 < w5.heap.size := hz5
          go_wp2_with fail
          refine bodyPost_ret (v := .tuple #[clkV be la (.slice p5 (left O st).length c5), .bool true]) (by simp [results, Try.results12, go_sem, clkV, alloc_old, hz5, r0, r1, r2]) rfl ?_
          refine hdst.out _ (by simp) ?_ ⟨rfl, rfl, rfl⟩
          intro k hk hn
          exact (Below.heap_alloc _ _ _ (by rw [set_size, set_size, set_size]; exact hk)).trans ((Below.heap_setCell _ _ _ _ hn).trans ((Below.heap_setCell _ _ _ _ hn).trans (Below.heap_setCell _ _ _ _ hn)))
        · have C3 : Hid (∀ w3, ClkE w3 b la O → Calls _ _ _ _ _) := fun w3 h3 => doneE_bad b la O st w3 h3 hin
          have C4 : Hid (∀ w4, SlU w4 0 (.slice q O.length c) O → Calls _ _ _ _ _) := fun w4 h4 => rdone_any be la O st _ w4 h4 HPO.out.2.2
          unfold clkV at C4
          have HIN : Hid _ := hin
          clear HRG hin
          go_enter Try.func12, Try.ntmps12
          go_wp2_with fail
          generalize ((w.alloc (.cells #[.int .u64 (be : Int), .int .u64 (la : Int), .slice q O.length c] 29)).alloc (.cells #[.bool false, .int .i64 pk, .int .u64 ((st : Nat) : Int)] 39)).alloc (.cells #[.int .u64 0, .int .u64 0, .slice none 0 0] 29) = w3 at *
          refine (C3.out w3 HC3.out).mono ?_
          rintro e w4 ⟨rfl, hC4, hG4⟩
          have HC4 : Hid (ClkE _ _ _ _) := hC4
          have HG4 : Hid (w.grownBy w4 (some b)) := grown_trans HG3.out hG4
          have HT4 : Hid (Thr w4 _ _ _ _ _ _ _) := HT.out.grown hG4 hbl
          clear hC4 hG4 HC3 HG3 HT C3
          have hsz4 := HT4.out.sz
          obtain ⟨hz, q0, q1, q2, o0, o1, o2, r0, r1, r2, k0, k1, k2⟩ := HT4.out
          have HS4 : Hid (SlU w4 0 _ O) := (HS.out.grown HG4.out hlo1).weaken (Nat.zero_le _)
          go_wp2_with fail
          refine (C4.out w4 HS4.out).mono ?_
          rintro e w5 ⟨hor, hB5⟩
          obtain ⟨_, rfl⟩ := hor.resolve_right (fun hh => HIN.out hh.1)
          have HC5 : Hid (ClkE w5 _ _ _) := HC4.out.keep hB5 HC4.out.lt
          have HG5 : Hid (w.grownBy w5 (some b)) := gr_below HG4.out hB5
          have HT5 : Hid (Thr w5 _ _ _ _ _ _ _) := HT4.out.below hB5
          have hz45 : w4.heap.size ≤ w5.heap.size := hB5.size
          clear q0 q1 q2 o0 o1 o2 r0 r1 r2 k0 k1 k2 hB5 HC4 HG4 HT4 C4
          obtain ⟨hz5, q0, q1, q2, o0, o1, o2, r0, r1, r2, k0, k1, k2⟩ := HT5.out
          have hdst : Hid (∀ w6, w5.heap.size ≤ w6.heap.size → (∀ k, k < w5.heap.size → k ≠ w.heap.size + 1 + 1 → w6.heap[k]? = w5.heap[k]?) → w6.os = w5.os ∧ w6.tape = w5.tape ∧ w6.output = w5.output → PlP w b be lo (.returned (.tuple #[clkV be la (.slice q O.length c), .bool true])) w6) := by
            intro w6 hs6 hk6 ho6
            have hG6 : w.grownBy w6 (some b) := ⟨ho6.1.trans HG5.out.os, ho6.2.1.trans HG5.out.tape, ho6.2.2.trans HG5.out.output, Nat.le_trans HG5.out.size hs6, fun k hk hn => (hk6 k (Nat.lt_of_lt_of_le hk HG5.out.size) (by omega)).trans (HG5.out.block k hk hn)⟩
            refine ⟨la, O, (.slice q O.length c), rfl, ?_, ?_, hG6⟩
            · obtain ⟨fr, D, h1, h2⟩ := HC5.out
              exact ⟨fr, D, h1.of_block (hk6 b h1.lt (by omega)), h2⟩
            · exact HS.out.grown hG6 hlo1
          clear HC5 HG5 HT5
          have hzz : w.heap.size + 1 + 1 < w5.heap.size := hz5
          go_wp2_with fail
          refine bodyPost_ret (v := .tuple #[clkV be la (.slice q O.length c), .bool true]) (by simp [results, Try.results12, go_sem, clkV, alloc_old, hz5, r0, r1, r2]) rfl ?_
          refine hdst.out _ (by simp) ?_ ⟨rfl, rfl, rfl⟩
          intro k hk hn
          exact (Below.heap_alloc _ _ _ (by rw [set_size, set_size, set_size]; exact hk)).trans ((Below.heap_setCell _ _ _ _ hn).trans ((Below.heap_setCell _ _ _ _ hn).trans (Below.heap_setCell _ _ _ _ hn)))
      · by_cases hin : st ∈ O
        · have C3 : Hid (∀ w3, ClkE w3 b la O → Calls _ _ _ _ _) := fun w3 h3 => doneE_ok b la O st w3 h3 hin
          have C4 : Hid (∀ w4, SlU w4 0 (.slice q O.length c) O → Calls _ _ _ _ _) := fun w4 h4 => rdone_any be la O st _ w4 h4 HPO.out.2.2
          unfold clkV at C4
          have HIN : Hid _ := hin
          clear HRG hin
          go_enter Try.func12, Try.ntmps12
          go_wp2_with fail
          generalize ((w.alloc (.cells #[.int .u64 (be : Int), .int .u64 (la : Int), .slice q O.length c] 29)).alloc (.cells #[.bool false, .int .i64 pk, .int .u64 ((st : Nat) : Int)] 39)).alloc (.cells #[.int .u64 0, .int .u64 0, .slice none 0 0] 29) = w3 at *
          refine (C3.out w3 HC3.out).mono ?_
          rintro e w4 ⟨rfl, hC4, hG4⟩
          have HC4 : Hid (ClkE _ _ _ _) := hC4
          have HG4 : Hid (w.grownBy w4 (some b)) := grown_trans HG3.out hG4
          have HT4 : Hid (Thr w4 _ _ _ _ _ _ _) := HT.out.grown hG4 hbl
          clear hC4 hG4 HC3 HG3 HT C3
          have hsz4 := HT4.out.sz
          obtain ⟨hz, q0, q1, q2, o0, o1, o2, r0, r1, r2, k0, k1, k2⟩ := HT4.out
          have HS4 : Hid (SlU w4 0 _ O) := (HS.out.grown HG4.out hlo1).weaken (Nat.zero_le _)
          go_wp2_with fail
          refine (C4.out w4 HS4.out).mono ?_
          rintro e w5 ⟨hor, hB5⟩
          obtain ⟨_, v5, rfl, hS5⟩ := hor.resolve_left (fun hh => hh.1 HIN.out)
          obtain ⟨p5, c5, rfl, _⟩ := hS5.rd
          have HS5 : Hid (SlU _ _ _ _) := hS5
          clear hS5
          have HC5 : Hid (ClkE w5 _ _ _) := HC4.out.keep hB5 HC4.out.lt
          have HG5 : Hid (w.grownBy w5 (some b)) := gr_below HG4.out hB5
          have HT5 : Hid (Thr w5 _ _ _ _ _ _ _) := HT4.out.below hB5
          have hz45 : w4.heap.size ≤ w5.heap.size := hB5.size
          clear q0 q1 q2 o0 o1 o2 r0 r1 r2 k0 k1 k2 hB5 HC4 HG4 HT4 C4
          obtain ⟨hz5, q0, q1, q2, o0, o1, o2, r0, r1, r2, k0, k1, k2⟩ := HT5.out
          have hdst : Hid (∀ w6, w5.heap.size ≤ w6.heap.size → (∀ k, k < w5.heap.size → k ≠ w.heap.size + 1 + 1 → w6.heap[k]? = w5.heap[k]?) → w6.os = w5.os ∧ w6.tape = w5.tape ∧ w6.output = w5.output → PlP w b be lo (.returned (.tuple #[clkV be la (.slice p5 (left O st).length c5), .bool true])) w6) := by
            intro w6 hs6 hk6 ho6
            have hG6 : w.grownBy w6 (some b) := ⟨ho6.1.trans HG5.out.os, ho6.2.1.trans HG5.out.tape, ho6.2.2.trans HG5.out.output, Nat.le_trans HG5.out.size hs6, fun k hk hn => (hk6 k (Nat.lt_of_lt_of_le hk HG5.out.size) (by omega)).trans (HG5.out.block k hk hn)⟩
            refine ⟨la, (left O st), (.slice p5 (left O st).length c5), rfl, ?_, ?_, hG6⟩
            · obtain ⟨fr, D, h1, h2⟩ := HC5.out
              exact ⟨fr, D, h1.of_block (hk6 b h1.lt (by omega)), h2⟩
            · refine SlU.weaken (lo := w4.heap.size) (SlU.far (w := w5) HS5.out hs6 (fun g h1 h2 => hk6 g h2 (by omega))) (by omega)
          clear HC5 HG5 HT5
          have hzz : w.heap.size + 1 + 1 < w5.heap.size := hz5
          go_wp2_with fail
          refine bodyPost_ret (v := .tuple #[clkV be la (.slice p5 (left O st).length c5), .bool true]) (by simp [results, Try.results12, go_sem, clkV, alloc_old, hz5, r0, r1, r2]) rfl ?_
          refine hdst.out _ (by simp) ?_ ⟨rfl, rfl, rfl⟩
          intro k hk hn
          exact (Below.heap_alloc _ _ _ (by rw [set_size, set_size, set_size]; exact hk)).trans ((Below.heap_setCell _ _ _ _ hn).trans ((Below.heap_setCell _ _ _ _ hn).trans (Below.heap_setCell _ _ _ _ hn)))
        · have C3 : Hid (∀ w3, ClkE w3 b la O → Calls _ _ _ _ _) := fun w3 h3 => doneE_bad b la O st w3 h3 hin
          have C4 : Hid (∀ w4, SlU w4 0 (.slice q O.length c) O → Calls _ _ _ _ _) := fun w4 h4 => rdone_any be la O st _ w4 h4 HPO.out.2.2
          unfold clkV at C4
          have HIN : Hid _ := hin
          clear HRG hin
          go_enter Try.func12, Try.ntmps12
          go_wp2_with fail
          generalize ((w.alloc (.cells #[.int .u64 (be : Int), .int .u64 (la : Int), .slice q O.length c] 29)).alloc (.cells #[.bool false, .int .i64 pk, .int .u64 ((st : Nat) : Int)] 39)).alloc (.cells #[.int .u64 0, .int .u64 0, .slice none 0 0] 29) = w3 at *
          refine (C3.out w3 HC3.out).mono ?_
          rintro e w4 ⟨rfl, hC4, hG4⟩
          have HC4 : Hid (ClkE _ _ _ _) := hC4
          have HG4 : Hid (w.grownBy w4 (some b)) := grown_trans HG3.out hG4
          have HT4 : Hid (Thr w4 _ _ _ _ _ _ _) := HT.out.grown hG4 hbl
          clear hC4 hG4 HC3 HG3 HT C3
          have hsz4 := HT4.out.sz
          obtain ⟨hz, q0, q1, q2, o0, o1, o2, r0, r1, r2, k0, k1, k2⟩ := HT4.out
          have HS4 : Hid (SlU w4 0 _ O) := (HS.out.grown HG4.out hlo1).weaken (Nat.zero_le _)
          go_wp2_with fail
          refine (C4.out w4 HS4.out).mono ?_
          rintro e w5 ⟨hor, hB5⟩
          obtain ⟨_, rfl⟩ := hor.resolve_right (fun hh => HIN.out hh.1)
          have HC5 : Hid (ClkE w5 _ _ _) := HC4.out.keep hB5 HC4.out.lt
          have HG5 : Hid (w.grownBy w5 (some b)) := gr_below HG4.out hB5
          have HT5 : Hid (Thr w5 _ _ _ _ _ _ _) := HT4.out.below hB5
          have hz45 : w4.heap.size ≤ w5.heap.size := hB5.size
          clear q0 q1 q2 o0 o1 o2 r0 r1 r2 k0 k1 k2 hB5 HC4 HG4 HT4 C4
          obtain ⟨hz5, q0, q1, q2, o0, o1, o2, r0, r1, r2, k0, k1, k2⟩ := HT5.out
          have hdst : Hid (∀ w6, w5.heap.size ≤ w6.heap.size → (∀ k, k < w5.heap.size → k ≠ w.heap.size + 1 + 1 → w6.heap[k]? = w5.heap[k]?) → w6.os = w5.os ∧ w6.tape = w5.tape ∧ w6.output = w5.output → PlP w b be lo (.returned (.tuple #[clkV be la (.slice q O.length c), .bool true])) w6) := by
            intro w6 hs6 hk6 ho6
            have hG6 : w.grownBy w6 (some b) := ⟨ho6.1.trans HG5.out.os, ho6.2.1.trans HG5.out.tape, ho6.2.2.trans HG5.out.output, Nat.le_trans HG5.out.size hs6, fun k hk hn => (hk6 k (Nat.lt_of_lt_of_le hk HG5.out.size) (by omega)).trans (HG5.out.block k hk hn)⟩
            refine ⟨la, O, (.slice q O.length c), rfl, ?_, ?_, hG6⟩
            · obtain ⟨fr, D, h1, h2⟩ := HC5.out
              exact ⟨fr, D, h1.of_block (hk6 b h1.lt (by omega)), h2⟩
            · exact HS.out.grown hG6 hlo1
          clear HC5 HG5 HT5
          have hzz : w.heap.size + 1 + 1 < w5.heap.size := hz5
          go_wp2_with fail
          refine bodyPost_ret (v := .tuple #[clkV be la (.slice q O.length c), .bool true]) (by simp [results, Try.results12, go_sem, clkV, alloc_old, hz5, r0, r1, r2]) rfl ?_
          refine hdst.out _ (by simp) ?_ ⟨rfl, rfl, rfl⟩
          intro k hk hn
          exact (Below.heap_alloc _ _ _ (by rw [set_size, set_size, set_size]; exact hk)).trans ((Below.heap_setCell _ _ _ _ hn).trans ((Below.heap_setCell _ _ _ _ hn).trans (Below.heap_setCell _ _ _ _ hn)))
end Go.Proofs.Ytckjgnjakkeodaa
