/- The walks of pairs of bits, and of what stands behind them. -/
import Derived.Lib.AppendStr
import Derived.Test.YthbjheiogghjnaaGreatDoorGWVarint
import Derived.Test.YthbjheiogghjnaaGreatDoorGWRowV
import Derived.Test.YthbjheiogghjnaaGreatDoorGWQuiet
import Derived.Test.YthbjheiogghjnaaGreatDoorGWFl7
namespace Go.Proofs.YthbjheiogghjnaaGreatDoor
open Go.RowKit
set_option maxRecDepth 100000

theorem u8V {a b : Int} (h : a = b) : Ending.returned (.int .u8 a) = Ending.returned (.int .u8 b) := by rw [h]





/-- 'append(b, s...)', s a text -/
theorem wp_appStr {o : Oper} {a : Act} {K : Act → World → Prop} {Q : Exit → Act → World → Prop} (w : World) (sl x : Operand)
    (ho : o.op = .call { callee := .builtin .append, args := #[sl, x], argTypes := #[52, 9] })
    (B : Nat) (v : Value) (bs : List UInt8) (hs : a.eval sl = v) (hown : OwnB w B v bs) (s : ByteArray) (hx : a.eval x = .string s) (hlen : bs.length + s.size ≤ 140737488355328) (hbase : B ≤ w.heap.size)
    (h : ∀ v' w', OwnB w' B v' (bs ++ s.data.toList) → Keep5 B w w' → K (a.put o.dst v') w') : Oper.wp Tryz.prog o a w K Q := by
  obtain ⟨i, hi, hz0, hz1, hz2⟩ := info_parts info_u8
  obtain ⟨v', w', hr, h2, h3, _⟩ := Lib.run_append_own_string (P := Tryz.prog) w B 52 9 o.type 5 i Tryz.underlying52 Tryz.underlying9 hi hz0 hz1 hz2 v bs.length (bcells bs) hown s (by unfold maxLen; omega) hlen hbase
  unfold Oper.wp execOp
  simp only [ho, resolve, invoke, builtin, Sem.run_bind, Sem.run_pure, Result.andThen_ok, List.map_toArray, List.map_cons, List.map_nil, hs, hx, hr]
  refine h v' w' ?_ (keep_grown hown hbase h3)
  have e : Lib.strCells s = bcells s.data.toList := by
    apply List.ext_getElem?
    intro j
    simp [Lib.strCells, bcells]
  rw [e] at h2
  unfold OwnB
  rw [bcells_append, List.length_append]
  have e2 : s.data.toList.length = s.size := by simp
  rw [e2]
  exact h2

end Go.Proofs.YthbjheiogghjnaaGreatDoor
