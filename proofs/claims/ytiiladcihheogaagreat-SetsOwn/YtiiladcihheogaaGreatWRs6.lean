/- The document's Without. -/
import Derived.Test.YtiiladcihheogaaGreatWRs4
namespace Go.Proofs.YtiiladcihheogaaGreat
open Go.RowKit
set_option maxRecDepth 100000

/-- what is there while a foot is made of one -/
structure BW (w wr : World) (va0 va1 va2 : Value) : Prop where
  lw : Below w.heap.size w wr
  ba : Blk wr w.heap.size #[va0, va1, va2] 25
  br : Blk wr (w.heap.size + 1) #[.slice none 0 0, .slice none 0 0, .slice none 0 0] 25
  sz : w.heap.size + 1 < wr.heap.size
theorem BW.frm {w wr w' : World} {va0 va1 va2 : Value} (h : BW w wr va0 va1 va2) (hf : Frm wr w' (fun k => k = w.heap.size + 1 + 1)) : BW w w' va0 va1 va2 :=
  ⟨h.lw.trans (hf.below h.lw.size (fun k hk => by omega)), h.ba.frm hf (by omega), h.br.frm hf (by omega), Nat.lt_of_lt_of_le h.sz hf.size⟩

