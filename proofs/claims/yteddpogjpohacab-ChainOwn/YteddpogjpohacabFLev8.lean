/- An intent, a level and a write, opened. -/
import Derived.Test.YteddpogjpohacabFChn8
namespace Go.Proofs.Yteddpogjpohacab
open Go.ChangeShapes Go.WideShapes Go.ChangeAt Go.RowKit Go.Joins Go.Deep
set_option maxRecDepth 100000

theorem cellsLev : Try.prog.cellsOf 50 = 6 := by kernel_rfl
theorem openLevels {H : Type} {enc : TypeId × Value → H} {W : World} {b0 : Nat} {v : Value} {d : DataW H} {p : List MemPlace}
    (hv : Value.okWide Try.prog W .any b0 50 v) (h : DataW.Trod enc Try.prog W 0 (fun _ => true) true 50 v d p) (hr : Reach Try.prog 50 d) :
    ∃ (tx : Int) (L : List Rw) (q : Option Addr) (c : Nat) (lv n : Int) (g : Bool) (row : List Vl) (qr : Option Addr) (cr : Nat), v = .agg #[.int .i64 tx, .slice q L.length c, .int .i64 lv, .int .i64 n, .bool g, .slice qr row.length cr] ∧
      RdR .i64 W W.heap.size q L ∧ shortR L ∧ L.length ≤ 3518437208780 ∧ (q = none → c = 0) ∧ lvR L ∧ (-9223372036854775808 ≤ tx ∧ tx ≤ 9223372036854775807) ∧ (-9223372036854775808 ≤ lv ∧ lv ≤ 9223372036854775807) ∧ SlV W W.heap.size (.slice qr row.length cr) row ∧ row.length ≤ 3518437208780 ∧ (-9223372036854775808 ≤ n ∧ n ≤ 9223372036854775807) := by
  obtain ⟨cs, rfl, hsz⟩ := okWide_struct Try.underlying50 hv
  obtain ⟨fuel, hf⟩ := h
  obtain ⟨y0, y1, y2, n, hx, hl, h0, h1, h2⟩ := trod_struct3 Try.underlying50 hf
  simp only [Prod.mk.injEq] at hx
  obtain ⟨rfl, _⟩ := hx
  rw [cellsLev] at hsz
  obtain ⟨cs⟩ := cs
  match cs, hsz with
  | [c0, c1, c2, c3, c4, c5], _ =>
    obtain ⟨tx, L, q, c, e0, hR, hs, hlen, hq, hlv, htx⟩ := openInT h0 (hr.part Try.underlying50 (j := 0) (u := 36) (d := y0.1) rfl rfl)
    obtain ⟨k, e1, _, w1⟩ := DataW.trod_int Try.underlying3 h1
    obtain ⟨r, ⟨qr, cr, e2, hRr, hlr, hqr⟩, hn⟩ := openWri h2 (hr.part Try.underlying50 (j := 2) (u := 40) (d := y2.1) rfl rfl)
    simp [Value.cells, cellsI, cellsIn, cellsWri] at e0 e1 e2
    obtain ⟨rfl, rfl⟩ := e0
    obtain ⟨rfl, rfl, rfl⟩ := e2
    subst e1
    exact ⟨tx, L, q, c, k, r.n, r.gn, r.row, qr, cr, rfl, hR, hs, hlen, hq, hlv, htx, wf_i64 w1, ⟨qr, cr, rfl, hRr, hqr⟩, hlr, hn⟩
end Go.Proofs.Yteddpogjpohacab
