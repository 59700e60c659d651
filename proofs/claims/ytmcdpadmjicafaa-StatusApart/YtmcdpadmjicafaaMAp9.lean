/- StatusApart: the law's walk. -/
import Derived.Test.YtmcdpadmjicafaaWDoeA9
namespace Go.Proofs.Ytmcdpadmjicafaa
open Go.RowKit Go.Maps
set_option maxRecDepth 100000

/-- two tables, each with the document's, that have no block in common -/
structure P2 (w : World) (ta xa tb xb : Nat) (A B : List Tx) (wr : World) : Prop where
  ex : ∃ F v G u, PT w.heap.size F ta xa A v wr ∧ PT w.heap.size G tb xb B u wr ∧ ∀ k, ownP F xa v k → ¬ ownP G xb u k
  bl : Below w.heap.size w wr
theorem P2.swap {w wr : World} {ta xa tb xb : Nat} {A B : List Tx} (h : P2 w ta xa tb xb A B wr) : P2 w tb xb ta xa B A wr := by
  obtain ⟨⟨F, v, G, u, h1, h2, h3⟩, h4⟩ := h
  exact ⟨⟨G, u, F, v, h2, h1, fun k hk hn => h3 k hn hk⟩, h4⟩
theorem P2.drew {w wr : World} {ta xa tb xb : Nat} {A B : List Tx} (h : P2 w ta xa tb xb A B wr) : P2 w ta xa tb xb A B wr.drew := by
  obtain ⟨⟨F, v, G, u, h1, h2, h3⟩, h4⟩ := h
  exact ⟨⟨F, v, G, u, h1.drew, h2.drew, h3⟩, ⟨h4.os, h4.tape, h4.output, h4.size, h4.block⟩⟩
theorem P2.on {w wr wr' : World} {ta xa tb xb : Nat} {A B : List Tx} (h : P2 w ta xa tb xb A B wr) (hb : Below wr.heap.size wr wr') : P2 w ta xa tb xb A B wr' := by
  obtain ⟨⟨F, v, G, u, h1, h2, h3⟩, h4⟩ := h
  exact ⟨⟨F, v, G, u, h1.on hb, h2.on hb, h3⟩, h4.trans (hb.mono h4.size)⟩
/-- an act of the first -/
theorem P2.act {w wr : World} {ta xa tb xb : Nat} {A B : List Tx} (h : P2 w ta xa tb xb A B wr) (hlen : A.length < 4000000000000) (k n : Int) (s : Nat) (hn1 : -9223372036854775808 ≤ n) (hn2 : n < 9223372036854775808) :
    ∃ p l c, BoxT wr xa #[.slice p l c, .int .i64 (A.length : Nat)] 27 ∧ Calls Try.prog 9 #[ptr1 ta, .agg #[.slice p l c, .int .i64 (A.length : Nat)], .agg #[.int .i64 k, .int .i64 n, .int .u64 (s : Nat)]] wr fun e w' => ∃ q m d, e = .returned (.tuple #[.agg #[.slice q m d, .int .i64 ((stepT k n s A).length : Nat)], .bool true]) ∧
      BoxT w' xa #[.slice p l c, .int .i64 (A.length : Nat)] 27 ∧ P2 w ta xa tb xb (stepT k n s A) B ((w'.setCell ⟨xa, 0, none⟩ (.slice q m d)).setCell ⟨xa, 1, none⟩ (.int .i64 ((stepT k n s A).length : Nat))) := by
  obtain ⟨⟨F, v, G, u, h1, h2, h3⟩, h4⟩ := h
  obtain ⟨p, l, c, rfl⟩ : ∃ q l c, v = .slice q l c := by
    obtain ⟨q, cq, eu, _⟩ := h1.doc.rd
    exact ⟨_, _, _, eu⟩
  refine ⟨p, l, c, h1.box, (does_any k F ta A _ n s wr h1.sta h1.doc h1.off hlen hn1 hn2).mono ?_⟩
  rintro e w2 ⟨⟨u2, F2, rfl, s1, s2, s3, s4, s5⟩, s6⟩
  obtain ⟨q, m, d, rfl⟩ : ∃ q l c, u2 = .slice q l c := by
    obtain ⟨q, cq, eu, _⟩ := s2.rd
    exact ⟨_, _, _, eu⟩
  obtain ⟨g1, g2, g3⟩ := h1.set s1 s2 s3 s4 s5 s6
  refine ⟨q, m, d, rfl, h1.boxOn s6, ⟨F2, _, G, u, g1, h2.keep g3 (fun k hk hn => h3 k hn hk), fun k hk hn => ?_⟩, h4.trans (g3.below h4.size (fun k hk => h1.low k hk))⟩
  rcases g2 k hk with h | h
  · exact h3 k h hn
  · have := h2.lt k hn
    omega
/-- the first is asked -/
theorem P2.ask {w wr : World} {ta xa tb xb : Nat} {A B : List Tx} (h : P2 w ta xa tb xb A B wr) (hlen : A.length < 4000000000000) :
    ∃ p l c, BoxT wr xa #[.slice p l c, .int .i64 (A.length : Nat)] 27 ∧ Calls Try.prog 8 #[ptr1 ta, .agg #[.slice p l c, .int .i64 (A.length : Nat)]] wr fun e w' => e = .returned (.bool true) ∧ P2 w ta xa tb xb A B w' := by
  obtain ⟨⟨F, v, G, u, h1, h2, h3⟩, h4⟩ := h
  obtain ⟨p, l, c, rfl⟩ : ∃ q l c, v = .slice q l c := by
    obtain ⟨q, cq, eu, _⟩ := h1.doc.rd
    exact ⟨_, _, _, eu⟩
  refine ⟨p, l, c, h1.box, (is_any F ta A _ wr h1.sta h1.doc h1.off hlen).mono ?_⟩
  rintro e w2 ⟨rfl, s1, s2⟩
  exact ⟨rfl, ⟨F, _, G, u, h1.asked s1 s2, h2.keep s2 (fun k hk hn => h3 k (.inl hn) hk), h3⟩, h4.trans (s2.below h4.size (fun k hk => h1.lof k hk))⟩
/-- what the first tells is spoilt -/
structure Told (w : World) (ta xa tb xb : Nat) (A B : List Tx) (g n : Nat) (wr : World) : Prop where
  ex : ∃ F v G u, PT w.heap.size F ta xa A v wr ∧ PT w.heap.size G tb xb B u wr ∧ (∀ k, ownP F xa v k → ¬ ownP G xb u k) ∧ ¬ ownP F xa v g ∧ ¬ ownP G xb u g
  bl : Below w.heap.size w wr
  row : ∃ M : List Int, M.length = n ∧ RowI wr g M
  low : w.heap.size ≤ g
theorem P2.told {w wr : World} {ta xa tb xb : Nat} {A B : List Tx} (h : P2 w ta xa tb xb A B wr) :
    Calls Try.prog 19 #[ptr1 ta] wr fun e w' => ∃ g, e = .returned (.slice (some ⟨g, 0, none⟩) (openA 0 A).length (openA 0 A).length) ∧ Told w ta xa tb xb A B g (openA 0 A).length w' := by
  obtain ⟨⟨F, v, G, u, h1, h2, h3⟩, h4⟩ := h
  refine (open_any F ta A wr h1.sta).mono ?_
  rintro e w2 ⟨g, rfl, r1, r2, r3, r4⟩
  refine ⟨g, rfl, ⟨F, v, G, u, h1.asked r3 r4, h2.keep r4 (fun k hk hn => h3 k (.inl hn) hk), h3, fun hk => ?_, fun hk => ?_⟩, h4.trans (r4.below h4.size (fun k hk => h1.lof k hk)), ⟨_, rfl, r1⟩, Nat.le_trans h4.size r2⟩
  · have := h1.lt g hk
    omega
  · have := h2.lt g hk
    omega
theorem Told.over {w wr : World} {ta xa tb xb g n : Nat} {A B : List Tx} (h : Told w ta xa tb xb A B g n wr) : P2 w ta xa tb xb A B wr := by
  obtain ⟨⟨F, v, G, u, h1, h2, h3, _, _⟩, h4, _, _⟩ := h
  exact ⟨⟨F, v, G, u, h1, h2, h3⟩, h4⟩
theorem Told.set {w wr : World} {ta xa tb xb g n : Nat} {A B : List Tx} (h : Told w ta xa tb xb A B g n wr) (i : Nat) (x : Int) : Told w ta xa tb xb A B g n (wr.setCell ⟨g, i, none⟩ (.int .i64 x)) := by
  obtain ⟨⟨F, v, G, u, h1, h2, h3, h5, h6⟩, h4, ⟨M, h7, h8⟩, h9⟩ := h
  have hf : Frm wr (wr.setCell ⟨g, i, none⟩ (.int .i64 x)) (fun k => k = g) := frm_set wr g i _ rfl
  exact ⟨⟨F, v, G, u, h1.keep hf (fun k hk e => h5 (by rw [← e]; exact hk)), h2.keep hf (fun k hk e => h6 (by rw [← e]; exact hk)), h3, h5, h6⟩, h4.trans (hf.below h4.size (fun k hk => by rw [hk]; exact h9)), ⟨_, by rw [List.length_set]; exact h7, h8.set i x⟩, h9⟩
theorem Told.cell {w wr : World} {ta xa tb xb g n : Nat} {A B : List Tx} (h : Told w ta xa tb xb A B g n wr) {i : Nat} (hi : i < n) : (∃ y, wr.cell? ⟨g, i, none⟩ = some (.int .i64 y)) ∧ wr.frozen? ⟨g, i, none⟩ = false := by
  obtain ⟨_, _, ⟨M, h7, h8⟩, _⟩ := h
  exact ⟨⟨_, h8.cell i (by omega)⟩, h8.frozen i⟩
end Go.Proofs.Ytmcdpadmjicafaa
