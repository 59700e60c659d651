/- The variables that the row of Prints lists, the witness's world. -/
import Derived.Test.YthbjheiogghjnaaGreatDoorRows
import Derived.WalkKit
import Derived.ProofKit
import Derived.OpenShut
import Derived.Lib.SmallJoins
import Derived.Lib.LaidTab
import Derived.Stop.LaidErr
import Derived.WalkLawsBesides
import Derived.Lay
import Derived.SevenTiedAt
import Derived.Shelf.Vars
import Derived.HandedShaped
import Derived.ChangeMaps5
import Derived.Test.YthbjheiogghjnaaGreatDoorGFTab
import Derived.Test.YthbjheiogghjnaaGreatDoorGWFt4
import Derived.Test.YthbjheiogghjnaaGreatDoorGWPrt1
namespace Go.Proofs.YthbjheiogghjnaaGreatDoor
open Go.ChangeShapes Go.WideShapes Go.ChangeAt Go.RowKit Go.Joins Go.Shelf Go.Lib Go.Deep
set_option maxRecDepth 100000

theorem own : ownKnob Tryz.prog.godebug = none := by kernel_rfl
theorem laidOut : laidOutB Tryz.prog = true := by kernel_rfl
/-- What the row lists. -/
abbrev laidT : List (String × DataW Unit) := Rows.schemaPrintsRow.laid
theorem u8x : U8Extra Tryz.prog laysV_ren := ⟨by kernel_rfl, by kernel_rfl, by kernel_rfl, by kernel_rfl, by kernel_rfl, by kernel_rfl, by kernel_rfl⟩
theorem accept_eq : (Rows.laid_unicode_utf8_acceptRanges : DataW Unit) = acceptData := by kernel_rfl
theorem utf8_tabs {W : World} (h : laidMetH Tryz.prog laidT W) : Lib.Utf8Tabs 2 3 W := by
  rw [MakeChecks.laidMetH_plain _ _ _ (by kernel_rfl)] at h
  exact utf8Tabs_of_readsT (U8Types.of196 laysV) u8x
    (Pinned.utf8First_eq ▸ Lib.laidMet.reads h (.tail _ (.tail _ (.tail _ (.tail _ (.tail _ (.tail _ (.tail _ (.tail _ (.tail _ (.head _)))))))))))
    (accept_eq ▸ Lib.laidMet.reads h (.tail _ (.tail _ (.tail _ (.tail _ (.head _))))))
theorem pow10_tab {W : World} (h : laidMetH Tryz.prog laidT W) : Lib.TabIs Tryz.prog W "internal/strconv.uint64pow10" .u64 Lib.pow10Tab := by
  rw [MakeChecks.laidMetH_plain _ _ _ (by kernel_rfl)] at h
  have h1 := laidMet.tail (laidMet.tail (laidMet.tail h))
  have hT := Lib.tabIs_of_head (zs := [1, 10, 100, 1000, 10000, 100000, 1000000, 10000000, 100000000, 1000000000, 10000000000, 100000000000, 1000000000000, 10000000000000, 100000000000000, 1000000000000000, 10000000000000000, 100000000000000000, 1000000000000000000, 10000000000000000000])
    (g := 5) (t := 123) (e := 83) (n := 20) (by kernel_rfl) (by kernel_rfl) Tryz.underlying123 Tryz.underlying83 (by kernel_rfl) (by kernel_rfl) h1
  have e : Lib.pow10Tab = [1, 10, 100, 1000, 10000, 100000, 1000000, 10000000, 100000000, 1000000000, 10000000000, 100000000000, 1000000000000, 10000000000000, 100000000000000, 1000000000000000, 10000000000000000, 100000000000000000, 1000000000000000000, 10000000000000000000] := by kernel_rfl
  rw [e]
  exact hT
theorem pmT_cells : Tryz.prog.cellsOf 175 = 2 := by kernel_rfl
theorem u64_cells : Tryz.prog.cellsOf 83 = 1 := by kernel_rfl
/-- the powers of ten, as the library's table has them -/
def tenT (i : Nat) : Int × Int := (((Pinned.pow10Rows[i]?.getD (0, 0)).1 : Int), ((Pinned.pow10Rows[i]?.getD (0, 0)).2 : Int))
theorem pow10_pt {W : World} (h : laidMetH Tryz.prog laidT W) : PT tenT W := by
  rw [MakeChecks.laidMetH_plain _ _ _ (by kernel_rfl)] at h
  obtain ⟨g, t, cs, fuel, p, hg, hty, hvar, hd⟩ := Lib.laidMet.reads h (n := "internal/strconv.pow10Tab") (d := Rows.laid_internal_strconv_pow10Tab) (.tail _ (.tail _ (.tail _ (.tail _ (.tail _ (.tail _ (.tail _ (.head _))))))))
  obtain rfl : 10 = g := Option.some.inj ((show Tryz.prog.globalNamed "internal/strconv.pow10Tab" = some 10 by kernel_rfl).symm.trans hg)
  obtain rfl : 176 = t := Option.some.inj ((show (Tryz.prog.globals[10]?).map (·.type) = some 176 by kernel_rfl).symm.trans hty)
  intro i hi
  have hd' : DataW.trod _ Tryz.prog W _ _ _ fuel 176 cs.toList = some (.agg (Pinned.pow10Rows.map fun x => .agg [.lit (.int .u64 x.1), .lit (.int .u64 x.2)]), p) := hd
  obtain ⟨fuel', d, q, hdi, he⟩ := array_elem Tryz.underlying176 hd' i hi
  rw [List.getElem?_map] at hdi
  obtain ⟨x, hx, rfl⟩ := Option.map_eq_some_iff.1 hdi
  rw [pmT_cells] at he
  have hcs := ints_of_struct (zs := [(x.1 : Int), (x.2 : Int)]) Tryz.underlying175 (fun j f hj => by
    match j, hj with
    | 0, hj => simp at hj; subst hj; exact ⟨Tryz.underlying83, rfl, u64_cells⟩
    | 1, hj => simp at hj; subst hj; exact ⟨Tryz.underlying83, rfl, u64_cells⟩
    | j + 2, hj => simp at hj) (by rw [pmT_cells]; rfl) he
  have e0 := congrArg (·[0]?) hcs
  have e1 := congrArg (·[1]?) hcs
  simp only [List.getElem?_take, List.getElem?_drop] at e0 e1
  have hT : Pinned.pow10Rows[i]?.getD (0, 0) = x := by rw [hx]; rfl
  constructor
  · rw [World.var?_cell hg hvar (i * 2), ← Array.getElem?_toList]
    show _ = some (Value.int .u64 ((Pinned.pow10Rows[i]?.getD (0, 0)).1 : Int))
    rw [hT]
    simpa using e0
  · rw [World.var?_cell hg hvar (i * 2 + 1), ← Array.getElem?_toList]
    show _ = some (Value.int .u64 ((Pinned.pow10Rows[i]?.getD (0, 0)).2 : Int))
    rw [hT]
    simpa using e1
theorem maxLen_cell {W : World} (h : W.ShapedOpen Tryz.prog) : ∃ m, W.cell? ⟨4, 0, none⟩ = some (.int .i64 m) :=
  cell_of_shapedOpen_int (zero := #[.int .i64 0]) (t := 3) (k := .i64) h (of_decide_eq_true (by kernel_rfl)) (by kernel_rfl) rfl (by kernel_rfl) (by kernel_rfl) Tryz.underlying3
theorem env_of {W : World} (h : laidMetH Tryz.prog laidT W) (hs : W.ShapedOpen Tryz.prog) : TxE tenT W := by
  obtain ⟨m, hm⟩ := maxLen_cell hs
  have hp := pow10_pt h
  have hu := pow10_tab h
  refine ⟨⟨World.block_lt_of_cell? W _ (hp 0 (by decide)).1, hp, World.block_lt_of_cell? W _ (hu.cell (g := 5) (by kernel_rfl) 0 (by rw [Lib.pow10Tab_length]; decide)), hu⟩, ⟨World.block_lt_of_cell? W _ hm, m, hm⟩, World.block_lt_of_cell? W _ ((utf8_tabs h).2 0 (by decide)).1, utf8_tabs h⟩
theorem shapedT (os : Os) (args : Array Value) : ((World.laidAll Tryz.prog os laidT).forCall (fun _ _ => 0) ⟨#[], args, []⟩).Shaped Tryz.prog :=
  World.shaped_of_ZipB (by kernel_rfl) (by kernel_rfl)
theorem metT (os : Os) (args : Array Value) : laidMetH Tryz.prog laidT ((World.laidAll Tryz.prog os laidT).forCall (fun _ _ => 0) ⟨#[], args, []⟩).memory := by
  rw [MakeChecks.laidMetH_plain _ _ _ (by kernel_rfl)]
  exact laidMet_laidAll _ (by kernel_rfl) (by kernel_rfl)
theorem kwa_of {W : World} (h : laidMetH Tryz.prog laidT W) : KWa W := by
  rw [MakeChecks.laidMetH_plain _ _ _ (by kernel_rfl)] at h
  obtain ⟨g, t, cs, fuel, p, hg, hty, hvar, hd⟩ := Lib.laidMet.reads h (n := "vellum/schema.kindWords") (d := Rows.laid_vellum_schema_kindWords) (.tail _ (.tail _ (.tail _ (.tail _ (.tail _ (.head _))))))
  obtain rfl : 0 = g := Option.some.inj ((show Tryz.prog.globalNamed "vellum/schema.kindWords" = some 0 by kernel_rfl).symm.trans hg)
  obtain rfl : 62 = t := Option.some.inj ((show (Tryz.prog.globals[0]?).map (·.type) = some 62 by kernel_rfl).symm.trans hty)
  have w1 : W.cell? ⟨0, 1, none⟩ = some (.string ⟨#[98, 111, 111, 108]⟩) := by
    obtain ⟨fuel', d, q, hdi, he⟩ := array_elem Tryz.underlying62 hd 1 (by decide)
    simp only [List.getElem?_cons_succ, List.getElem?_cons_zero, Option.some.injEq] at hdi
    subst hdi
    obtain ⟨s, e, ex, _⟩ := DataW.trod_string Tryz.underlying9 he
    simp only [Prod.mk.injEq, DataW.lit.injEq, Lit.string.injEq] at ex
    have es : s = ⟨#[98, 111, 111, 108]⟩ := by
      obtain ⟨⟨l⟩⟩ := s
      have := ex.1
      simp only at this
      subst this
      rfl
    subst es
    rw [cellsS] at e
    have e0 := congrArg (·[0]?) e
    simp only [List.getElem?_take, List.getElem?_drop] at e0
    rw [World.var?_cell hg hvar 1, ← Array.getElem?_toList]
    simpa using e0
  have w2 : W.cell? ⟨0, 2, none⟩ = some (.string ⟨#[105, 110, 116]⟩) := by
    obtain ⟨fuel', d, q, hdi, he⟩ := array_elem Tryz.underlying62 hd 2 (by decide)
    simp only [List.getElem?_cons_succ, List.getElem?_cons_zero, Option.some.injEq] at hdi
    subst hdi
    obtain ⟨s, e, ex, _⟩ := DataW.trod_string Tryz.underlying9 he
    simp only [Prod.mk.injEq, DataW.lit.injEq, Lit.string.injEq] at ex
    have es : s = ⟨#[105, 110, 116]⟩ := by
      obtain ⟨⟨l⟩⟩ := s
      have := ex.1
      simp only at this
      subst this
      rfl
    subst es
    rw [cellsS] at e
    have e0 := congrArg (·[0]?) e
    simp only [List.getElem?_take, List.getElem?_drop] at e0
    rw [World.var?_cell hg hvar 2, ← Array.getElem?_toList]
    simpa using e0
  have w3 : W.cell? ⟨0, 3, none⟩ = some (.string ⟨#[102, 108, 111, 97, 116]⟩) := by
    obtain ⟨fuel', d, q, hdi, he⟩ := array_elem Tryz.underlying62 hd 3 (by decide)
    simp only [List.getElem?_cons_succ, List.getElem?_cons_zero, Option.some.injEq] at hdi
    subst hdi
    obtain ⟨s, e, ex, _⟩ := DataW.trod_string Tryz.underlying9 he
    simp only [Prod.mk.injEq, DataW.lit.injEq, Lit.string.injEq] at ex
    have es : s = ⟨#[102, 108, 111, 97, 116]⟩ := by
      obtain ⟨⟨l⟩⟩ := s
      have := ex.1
      simp only at this
      subst this
      rfl
    subst es
    rw [cellsS] at e
    have e0 := congrArg (·[0]?) e
    simp only [List.getElem?_take, List.getElem?_drop] at e0
    rw [World.var?_cell hg hvar 3, ← Array.getElem?_toList]
    simpa using e0
  have w4 : W.cell? ⟨0, 4, none⟩ = some (.string ⟨#[116, 101, 120, 116]⟩) := by
    obtain ⟨fuel', d, q, hdi, he⟩ := array_elem Tryz.underlying62 hd 4 (by decide)
    simp only [List.getElem?_cons_succ, List.getElem?_cons_zero, Option.some.injEq] at hdi
    subst hdi
    obtain ⟨s, e, ex, _⟩ := DataW.trod_string Tryz.underlying9 he
    simp only [Prod.mk.injEq, DataW.lit.injEq, Lit.string.injEq] at ex
    have es : s = ⟨#[116, 101, 120, 116]⟩ := by
      obtain ⟨⟨l⟩⟩ := s
      have := ex.1
      simp only at this
      subst this
      rfl
    subst es
    rw [cellsS] at e
    have e0 := congrArg (·[0]?) e
    simp only [List.getElem?_take, List.getElem?_drop] at e0
    rw [World.var?_cell hg hvar 4, ← Array.getElem?_toList]
    simpa using e0
  have w5 : W.cell? ⟨0, 5, none⟩ = some (.string ⟨#[98, 121, 116, 101, 115]⟩) := by
    obtain ⟨fuel', d, q, hdi, he⟩ := array_elem Tryz.underlying62 hd 5 (by decide)
    simp only [List.getElem?_cons_succ, List.getElem?_cons_zero, Option.some.injEq] at hdi
    subst hdi
    obtain ⟨s, e, ex, _⟩ := DataW.trod_string Tryz.underlying9 he
    simp only [Prod.mk.injEq, DataW.lit.injEq, Lit.string.injEq] at ex
    have es : s = ⟨#[98, 121, 116, 101, 115]⟩ := by
      obtain ⟨⟨l⟩⟩ := s
      have := ex.1
      simp only at this
      subst this
      rfl
    subst es
    rw [cellsS] at e
    have e0 := congrArg (·[0]?) e
    simp only [List.getElem?_take, List.getElem?_drop] at e0
    rw [World.var?_cell hg hvar 5, ← Array.getElem?_toList]
    simpa using e0
  refine ⟨fun k h1 h5 => ?_, World.block_lt_of_cell? W _ w1⟩
  have hk : k = 1 ∨ k = 2 ∨ k = 3 ∨ k = 4 ∨ k = 5 := by omega
  rcases hk with rfl | rfl | rfl | rfl | rfl
  · exact w1
  · exact w2
  · exact w3
  · exact w4
  · exact w5
/-- a row with listed variables, the world's shape and the arguments' sizes kept -/
theorem handed_shaped_sized {H : Type} {enc : TypeId × Value → H} {a : Assume} {C : Checked} {os : Os} {f : FuncId} {fn : Func} {s : ChangeSpec} {conds : List PathCond} {apart fresh handsOn again : Bool} {X : World → Array Value → Prop}
    (hX : ∀ (w w' : World) (args : Array Value), w.heap = w'.heap → X w args → X w' args)
    (own : ownKnob C.prog.godebug = none) (started : os.Started) (noInit : C.prog.inits.idxOf? f = none) (hfn : C.prog.funcs[f]? = some fn)
    (witness : ∃ (w : World) (tape : Tape) (i : Input), w.os = os ∧ (w.forCall tape i).Shaped C.prog ∧ i.vars = [] ∧ Input.okWide C.prog (w.forCall tape i) .any w.heap.size f i ∧
      ((s.pre enc C.prog fn conds apart (w.forCall tape i).memory i.args ∧ X (w.forCall tape i).memory i.args) ∧ sizedMet enc C.prog fn (OpenSpec.ofChange s) apart (w.forCall tape i).memory i.args) ∧ a.holds C.prog (lone (Frame.enter C.prog f i.args .normal) [] (w.forCall tape i)))
    (contract : ∀ (W : World) (base : Nat) (args : Array Value) (ds gs : List (DataW H)) (before : List MemPlace),
      (∀ (j : Nat) t v, fn.params[j]? = some t → args[j]? = some v → Value.okWide C.prog W .any base t v) →
      DataW.Whole enc C.prog fn.params.toList s.vars apart W args.toList ds gs before →
      (DataW.weightsEach C.prog (fn.params.toList ++ s.plain.varTypes C.prog) (ds ++ gs)).all (· ≤ reachBytes) = true →
      X W args → W.ShapedOpen C.prog →
      Calls C.prog f args W fun e W' => ∃ v, e = .returned v ∧ s.post enc C.prog fn apart fresh handsOn again W args v W') :
    ReturnsInHanded a C os f .any (fun w args => (s.pre enc C.prog fn conds apart w args ∧ X w args) ∧ sizedMet enc C.prog fn (OpenSpec.ofChange s) apart w args) (s.post enc C.prog fn apart fresh handsOn again) := by
  refine returnsInHanded_of_calls own started noInit witness ?_
  intro w tape i _ hsh _ hok hpre _
  obtain ⟨_, _, _, fn', hfn', _, _, _, _, hval⟩ := hok
  have e : fn' = fn := Option.some.inj (hfn'.symm.trans hfn)
  subst e
  obtain ⟨⟨⟨ds, gs, before, hw, _⟩, hx⟩, hz⟩ := hpre
  have hw' := DataW.Whole.of_heap (w' := w.forCall tape i) (by rfl) hw
  refine (contract (w.forCall tape i) w.heap.size i.args ds gs before hval hw' (hz.weights hw) (hX _ _ _ (by rfl) hx) hsh).mono fun e W' ⟨v, he, hp⟩ => ?_
  subst he
  exact ChangeSpec.post_blind hp

end Go.Proofs.YthbjheiogghjnaaGreatDoor
