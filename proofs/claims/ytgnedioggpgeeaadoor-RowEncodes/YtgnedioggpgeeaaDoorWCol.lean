/- The walks of what a column, an index, a reference may be. -/
import Derived.Test.YtgnedioggpgeeaaDoorWTab
namespace Go.Proofs.YtgnedioggpgeeaaDoor
open Go.RowKit
set_option maxRecDepth 100000

/-- the library's tables stand -/
structure Env (w : World) : Prop where
  hg : 2 < w.heap.size
  hT : Lib.Utf8Tabs 1 2 w
theorem Env.on {w w' : World} (h : Env w) (hb : Below w.heap.size w w') : Env w' := ⟨Nat.lt_of_lt_of_le h.hg hb.size, tabs_keep hb h.hg h.hT⟩
abbrev Cl.val (c : Cl) : Value := .agg #[.string c.nm, .int .i64 c.kd, .bool c.nl, .int .i64 c.df.k, .int .i64 c.df.n, .float .f64 c.df.f, .string c.df.s]
theorem errV {a b : Int} (h : a = b) : Ending.returned (.int .i64 a) = Ending.returned (.int .i64 b) := by rw [h]

set_option maxHeartbeats 2000000 in
theorem counts_any (t : Tb) (a : TabP) (w : World) (h1 : t.cs.length ≤ 17592186043904) (h2 : t.ix.length ≤ 17592186043904) (h3 : t.rf.length ≤ 17592186043904) :
    Calls Tryd.prog 40 #[a.val t] w fun e w' => e = .returned (.bool (countsB t)) ∧ Below w.heap.size w w' := by
  have HC : Hid (countsB t = (decide (1 ≤ t.cs.length) && decide (t.cs.length ≤ 64) && decide (t.ix.length ≤ 16) && decide (t.rf.length ≤ 16))) := rfl
  unfold TabP.val
  generalize countsB t = d at *
  generalize t.cs.length = n1 at *
  generalize t.ix.length = n2 at *
  generalize t.rf.length = n3 at *
  generalize t.key.length = n4 at *
  rcases Nat.lt_or_ge n1 1 with c1 | c1
  · go_enter Tryd.func40, Tryd.ntmps40
    go_wp2
    go_ret
    exact ⟨boolV (by rw [HC.out, Bool.eq_iff_iff]; simp <;> omega), by go_grown⟩
  · rcases Nat.lt_or_ge 64 n1 with c2 | c2
    · go_enter Tryd.func40, Tryd.ntmps40
      go_wp2
      go_ret
      exact ⟨boolV (by rw [HC.out, Bool.eq_iff_iff]; simp <;> omega), by go_grown⟩
    · rcases Nat.lt_or_ge 16 n2 with c3 | c3
      all_goals
        go_enter Tryd.func40, Tryd.ntmps40
        go_wp2
        go_ret
        exact ⟨boolV (by rw [HC.out, Bool.eq_iff_iff]; simp <;> omega), by go_grown⟩

set_option maxHeartbeats 2000000 in
theorem default_any (c : Cl) (w : World) (hc : c.df.ok) (hE : Env w) :
    Calls Tryd.prog 62 #[c.val] w fun e w' => e = .returned (.bool (defB c)) ∧ Below w.heap.size w w' := by
  have HC : Hid (defB c = (decide (c.df.chk = 0) && (decide (c.df.k = 0) || decide (c.df.k = c.kd)))) := rfl
  have C1 : Hid (∀ w1, Below w.heap.size w w1 → Calls Tryd.prog 75 #[.agg #[.int .i64 c.df.k, .int .i64 c.df.n, .float .f64 c.df.f, .string c.df.s]] w1 fun e w' => e = .returned (.int .i64 c.df.chk) ∧ Below w1.heap.size w1 w') := fun w1 hb => check_ok c.df w1 hc (hE.on hb).hg (hE.on hb).hT
  generalize defB c = d at *
  generalize c.df.chk = ch at *
  unfold Cl.val
  generalize c.df.k = k at *
  generalize c.df.n = n at *
  generalize c.df.f = f at *
  generalize c.df.s = s at *
  generalize c.kd = kd at *
  generalize c.nm = nm at *
  generalize c.nl = nl at *
  clear hc hE
  have hb0 : Below w.heap.size w (w.alloc (Obj.cells #[Value.string nm, Value.int IntKind.i64 kd, Value.bool nl, Value.int IntKind.i64 k, Value.int IntKind.i64 n, Value.float FloatKind.f64 f, Value.string s] 54)) := by go_grown
  by_cases c1 : ch = 0
  · subst c1
    by_cases c2 : k = 0
    · subst c2
      go_enter Tryd.func62, Tryd.ntmps62
      go_wp2_with fail
      refine (C1.out _ hb0).mono ?_
      rintro e w5 ⟨rfl, hb5⟩
      have x0 : w5.cell? ⟨w.heap.size, 1, none⟩ = some (.int .i64 kd) := (hb5.cell (p := ⟨w.heap.size, 1, none⟩) (by simp)).trans (by simp [go_sem])
      have x1 : w5.cell? ⟨w.heap.size, 3, none⟩ = some (.int .i64 0) := (hb5.cell (p := ⟨w.heap.size, 3, none⟩) (by simp)).trans (by simp [go_sem])
      go_wp2
      go_ret
      exact ⟨boolV (by rw [HC.out, Bool.eq_iff_iff]; simp), hb0.trans (hb5.mono hb0.size)⟩
    · skip
      go_enter Tryd.func62, Tryd.ntmps62
      go_wp2_with fail
      refine (C1.out _ hb0).mono ?_
      rintro e w5 ⟨rfl, hb5⟩
      have x0 : w5.cell? ⟨w.heap.size, 1, none⟩ = some (.int .i64 kd) := (hb5.cell (p := ⟨w.heap.size, 1, none⟩) (by simp)).trans (by simp [go_sem])
      have x1 : w5.cell? ⟨w.heap.size, 3, none⟩ = some (.int .i64 k) := (hb5.cell (p := ⟨w.heap.size, 3, none⟩) (by simp)).trans (by simp [go_sem])
      go_wp2
      go_ret
      exact ⟨boolV (by rw [HC.out, Bool.eq_iff_iff]; simp [c2]), hb0.trans (hb5.mono hb0.size)⟩
  · go_enter Tryd.func62, Tryd.ntmps62
    go_wp2_with fail
    refine (C1.out _ hb0).mono ?_
    rintro e w5 ⟨rfl, hb5⟩
    go_wp2
    go_ret
    exact ⟨boolV (by rw [HC.out, Bool.eq_iff_iff]; simp [c1]), hb0.trans (hb5.mono hb0.size)⟩
end Go.Proofs.YtgnedioggpgeeaaDoor
