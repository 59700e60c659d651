/- The document's Without. The document's Copy; feet that are the same. -/
import Derived.Test.YtcknhjabdjbjiabGreatGWRs4
namespace Go.Proofs.YtcknhjabdjbjiabGreat
open Go.RowKit
set_option maxRecDepth 100000

/-- what is there while a foot is made of one -/
structure BW (w wr : World) (va0 va1 va2 : Value) : Prop where
  lw : Below w.heap.size w wr
  ba : Blk wr w.heap.size #[va0, va1, va2] 27
  br : Blk wr (w.heap.size + 1) #[.slice none 0 0, .slice none 0 0, .slice none 0 0] 27
  sz : w.heap.size + 1 < wr.heap.size
theorem BW.frm {w wr w' : World} {va0 va1 va2 : Value} (h : BW w wr va0 va1 va2) (hf : Frm wr w' (fun k => k = w.heap.size + 1 + 1)) : BW w w' va0 va1 va2 :=
  ⟨h.lw.trans (hf.below h.lw.size (fun k hk => by omega)), h.ba.frm hf (by omega), h.br.frm hf (by omega), Nat.lt_of_lt_of_le h.sz hf.size⟩



end Go.Proofs.YtcknhjabdjbjiabGreat

namespace Go.Proofs.YtcknhjabdjbjiabGreat
open Go.RowKit
set_option maxRecDepth 100000





set_option maxHeartbeats 2000000 in
theorem run_eqInR (n : Nat) (lo hi : ByteArray) (op : Bool) (w : World) : (Op.equalIn (n + 1 + 1) 84 (.agg #[.string lo, .string hi, .bool op]) (.agg #[.string lo, .string hi, .bool op])).run Tryz.prog w = .ok true w := by
  have u9 := Tryz.underlying9
  have a9 := Tryz.isAgg9
  have z9 := Tryz.sizeOf9
  have u5 := Tryz.underlying4
  have a5 := Tryz.isAgg4
  have z5 := Tryz.sizeOf4
  have hS2 : Tryz.prog.underlying 84 = some (.struct (Tryz.prog.fieldsOf 84)) := by kernel_rfl
  have hp2 : Tryz.prog.stoodInHeld 84 = false := by kernel_rfl
  rw [run_equalIn_agg w (n + 1) 84 _ _ hS2 hp2]
  simp only [Program.fieldsOf, Tryz.underlying84]
  go_simp
set_option maxHeartbeats 2000000 in
theorem run_eqInS' (n : Nat) (x : Sp) (w : World) : (Op.equalIn (n + 1 + 1 + 1) 86 (.agg #[.int .i64 x.t, .int .i64 x.i, .string x.lo, .string x.hi, .bool x.op]) (.agg #[.int .i64 x.t, .int .i64 x.i, .string x.lo, .string x.hi, .bool x.op])).run Tryz.prog w = .ok true w := by
  have u4 := Tryz.underlying3
  have a4 := Tryz.isAgg3
  have z4 := Tryz.sizeOf3
  have u9 := Tryz.underlying9
  have a9 := Tryz.isAgg9
  have z9 := Tryz.sizeOf9
  have u5 := Tryz.underlying4
  have a5 := Tryz.isAgg4
  have z5 := Tryz.sizeOf4
  have u6 := Tryz.underlying84
  have a6 := Tryz.isAgg84
  have z6 := Tryz.sizeOf84
  have hS : Tryz.prog.underlying 86 = some (.struct (Tryz.prog.fieldsOf 86)) := by kernel_rfl
  have hp : Tryz.prog.stoodInHeld 86 = false := by kernel_rfl
  have hi := run_eqInR n x.lo x.hi x.op w
  rw [run_equalIn_agg w (n + 1 + 1) 86 _ _ hS hp]
  simp only [Program.fieldsOf, Tryz.underlying86]
  go_simp
theorem run_eqInS (x : Sp) (w : World) : (Op.equalIn 10000 86 (.agg #[.int .i64 x.t, .int .i64 x.i, .string x.lo, .string x.hi, .bool x.op]) (.agg #[.int .i64 x.t, .int .i64 x.i, .string x.lo, .string x.hi, .bool x.op])).run Tryz.prog w = .ok true w := run_eqInS' 9997 x w
theorem run_eqGS (op : BinOp) (a b : Operand) (x y : Sp) (w : World) : (eqGuard op 86 a b (.agg #[.int .i64 x.t, .int .i64 x.i, .string x.lo, .string x.hi, .bool x.op]) (.agg #[.int .i64 y.t, .int .i64 y.i, .string y.lo, .string y.hi, .bool y.op])).run Tryz.prog w = .ok () w :=
  run_eqGuard_agg w op 86 a b _ _ (by kernel_rfl)

end Go.Proofs.YtcknhjabdjbjiabGreat
