/- The walks of pairs of bits, and of what stands behind them. The walks of what stands behind the bits, on both sides. -/
import Derived.Lib.AppendStr
import Derived.Test.YteadniomgbhecaaGreatDoorGWVarint
import Derived.Test.YteadniomgbhecaaGreatDoorGWRowV
import Derived.Test.YteadniomgbhecaaGreatDoorGWQuiet
namespace Go.Proofs.YteadniomgbhecaaGreatDoor
open Go.RowKit
set_option maxRecDepth 100000

theorem u8V {a b : Int} (h : a = b) : Ending.returned (.int .u8 a) = Ending.returned (.int .u8 b) := by rw [h]

set_option maxHeartbeats 2000000 in
theorem pairOf_any (v : Vl) (w : World) : Calls Tryz.prog 52 #[.agg #[.int .i64 v.k, .int .i64 v.n, .float .f64 v.f, .string v.s]] w fun e w' => e = .returned (.int .u8 (pairN v : Int)) ∧ Below w.heap.size w w' := by
  have HP : Hid (pairN v = if v.k = 0 then 0 else if v.k = 1 ∧ v.n = 1 then 2 else 1) := rfl
  generalize pairN v = d at *
  obtain ⟨k, n, f, s⟩ := v
  dsimp only at HP ⊢
  by_cases h0 : k = 0
  · subst h0
    rw [if_pos rfl] at HP
    go_enter Tryz.func52, Tryz.ntmps52
    go_wp2
    go_ret
    exact ⟨u8V (by rw [HP.out]; rfl), by go_grown⟩
  · rw [if_neg h0] at HP
    have h0' : (k == 0) = false := by simpa using h0
    by_cases h1 : k = 1
    · subst h1
      by_cases h2 : n = 1
      · subst h2
        rw [if_pos ⟨rfl, rfl⟩] at HP
        clear h0
        go_enter Tryz.func52, Tryz.ntmps52
        go_wp2
        go_ret
        exact ⟨u8V (by rw [HP.out]; rfl), by go_grown⟩
      · rw [if_neg (fun h => h2 h.2)] at HP
        have h2' : (n == 1) = false := by simpa using h2
        clear h0 h2
        go_enter Tryz.func52, Tryz.ntmps52
        go_wp2
        go_ret
        exact ⟨u8V (by rw [HP.out]; rfl), by go_grown⟩
    · rw [if_neg (fun h => h1 h.1)] at HP
      have h1' : (k == 1) = false := by simpa using h1
      clear h0 h1
      go_enter Tryz.func52, Tryz.ntmps52
      go_wp2
      go_ret
      exact ⟨u8V (by rw [HP.out]; rfl), by go_grown⟩



/-- 'append(b, s...)', s a text -/
theorem wp_appStr {o : Oper} {a : Act} {K : Act → World → Prop} {Q : Exit → Act → World → Prop} (w : World) (sl x : Operand)
    (ho : o.op = .call { callee := .builtin .append, args := #[sl, x], argTypes := #[48, 9] })
    (B : Nat) (v : Value) (bs : List UInt8) (hs : a.eval sl = v) (hown : OwnB w B v bs) (s : ByteArray) (hx : a.eval x = .string s) (hlen : bs.length + s.size ≤ 140737488355328) (hbase : B ≤ w.heap.size)
    (h : ∀ v' w', OwnB w' B v' (bs ++ s.data.toList) → Keep5 B w w' → K (a.put o.dst v') w') : Oper.wp Tryz.prog o a w K Q := by
  obtain ⟨i, hi, hz0, hz1, hz2⟩ := info_parts info_u8
  obtain ⟨v', w', hr, h2, h3, _⟩ := Lib.run_append_own_string (P := Tryz.prog) w B 48 9 o.type 5 i Tryz.underlying48 Tryz.underlying9 hi hz0 hz1 hz2 v bs.length (bcells bs) hown s (by unfold maxLen; omega) hlen hbase
  unfold Oper.wp execOp
  simp only [ho, resolve, invoke, builtin, Sem.run_bind, Sem.run_pure, Result.andThen_ok, List.map_toArray, List.map_cons, List.map_nil, hs, hx, hr]
  refine h v' w' ?_ (keep_grown hown hbase h3)
  have e : Lib.strCells s = bcells s.data.toList := by
    apply List.ext_getElem?
    intro j
    simp [Lib.strCells, bcells]
  rw [e] at h2
  unfold OwnB
  rw [bcells_append, List.length_append]
  have e2 : s.data.toList.length = s.size := by simp
  rw [e2]
  exact h2

end Go.Proofs.YteadniomgbhecaaGreatDoor

namespace Go.Proofs.YteadniomgbhecaaGreatDoor
open Go.RowKit
set_option maxRecDepth 100000

/-- the text of a value in its box -/
abbrev SBt (w0 : World) (g : Nat) (s : ByteArray) (w' : World) : Prop := Below w0.heap.size w0 w' ∧ w'.cell? ⟨g, 3, none⟩ = some (.string s)
theorem SBt.on {w0 : World} {g : Nat} {s : ByteArray} {w1 w2 : World} (hb : Below w1.heap.size w1 w2) (h : SBt w0 g s w1) : SBt w0 g s w2 :=
  ⟨h.1.trans (hb.mono h.1.size), (hb.cell (p := ⟨g, 3, none⟩) (World.block_lt_of_cell? w1 _ h.2)).trans h.2⟩

theorem wrapU (n : Nat) (h : n < 18446744073709551616) : IntKind.u64.wrap (n : Int) = (n : Int) := by
  simp [IntKind.wrap, IntKind.bits, IntKind.signed]
  omega
theorem SBt.on2 {w0 : World} {g B : Nat} {s : ByteArray} {w1 w2 : World} (hb : Below B w1 w2) (hB : B = w0.heap.size) (hg : g < w0.heap.size) (h : SBt w0 g s w1) : SBt w0 g s w2 := by
  subst hB
  exact ⟨h.1.trans hb, (hb.cell (p := ⟨g, 3, none⟩) hg).trans h.2⟩



end Go.Proofs.YteadniomgbhecaaGreatDoor
