/- The variables that the rows of this seat list, the witness's world. -/
import Derived.Test.YtobgdjjicgiefaaGreatDoorFTab
import Derived.Test.YtobgdjjicgiefaaGreatDoorWPrint
import Derived.Lib.LaidTab
import Derived.Stop.LaidErr
import Derived.WalkLawsBesides
import Derived.Lay
import Derived.SevenTiedAt
import Derived.ChangeMaps5
namespace Go.Proofs.YtobgdjjicgiefaaGreatDoor
open Go.ChangeShapes Go.WideShapes Go.ChangeAt Go.RowKit Go.Joins Go.Shelf Go.Lib Go.Deep
set_option maxRecDepth 100000

theorem own : ownKnob Tryz.prog.godebug = none := by kernel_rfl
theorem laidOut : laidOutB Tryz.prog = true := by kernel_rfl
/-- What the rows list. -/
abbrev laidS : List (String × DataW Unit) := Rows.schemaNamesRow.laid
theorem u8x : U8Extra Tryz.prog laysV_ren := ⟨by kernel_rfl, by kernel_rfl, by kernel_rfl, by kernel_rfl, by kernel_rfl, by kernel_rfl, by kernel_rfl⟩
theorem accept_eq : (Rows.laid_unicode_utf8_acceptRanges : DataW Unit) = acceptData := by kernel_rfl
theorem utf8_tabs {W : World} (h : laidMetH Tryz.prog laidS W) : Lib.Utf8Tabs 2 3 W := by
  rw [MakeChecks.laidMetH_plain _ _ _ (by kernel_rfl)] at h
  exact utf8Tabs_of_readsT (U8Types.of196 laysV) u8x
    (Pinned.utf8First_eq ▸ Lib.laidMet.reads h (.tail _ (.tail _ (.tail _ (.tail _ (.tail _ (.tail _ (.tail _ (.tail _ (.tail _ (.head _)))))))))))
    (accept_eq ▸ Lib.laidMet.reads h (.tail _ (.tail _ (.tail _ (.tail _ (.head _))))))
theorem env_of {W : World} (h : laidMetH Tryz.prog laidS W) : Env W := ⟨World.block_lt_of_cell? W _ ((utf8_tabs h).2 0 (by decide)).1, utf8_tabs h⟩
theorem kw_of {W : World} (h : laidMetH Tryz.prog laidS W) : KW W := by
  rw [MakeChecks.laidMetH_plain _ _ _ (by kernel_rfl)] at h
  obtain ⟨g, t, cs, fuel, p, hg, hty, hvar, hd⟩ := Lib.laidMet.reads h (n := "vellum/schema.kindWords") (d := Rows.laid_vellum_schema_kindWords) (.tail _ (.tail _ (.tail _ (.tail _ (.tail _ (.head _))))))
  obtain rfl : 0 = g := Option.some.inj ((show Tryz.prog.globalNamed "vellum/schema.kindWords" = some 0 by kernel_rfl).symm.trans hg)
  obtain rfl : 94 = t := Option.some.inj ((show (Tryz.prog.globals[0]?).map (·.type) = some 94 by kernel_rfl).symm.trans hty)
  obtain ⟨fuel', d, q, hdi, he⟩ := array_elem Tryz.underlying94 hd 2 (by decide)
  simp only [List.getElem?_cons_succ, List.getElem?_cons_zero, Option.some.injEq] at hdi
  subst hdi
  obtain ⟨s, e, ex, _⟩ := DataW.trod_string Tryz.underlying9 he
  simp only [Prod.mk.injEq, DataW.lit.injEq, Lit.string.injEq] at ex
  have es : s = ⟨#[105, 110, 116]⟩ := by
    obtain ⟨⟨l⟩⟩ := s
    have := ex.1
    simp only at this
    subst this
    rfl
  subst es
  rw [cellsS] at e
  have e0 := congrArg (·[0]?) e
  simp only [List.getElem?_take, List.getElem?_drop] at e0
  have hc : W.cell? ⟨0, 2, none⟩ = some (.string ⟨#[105, 110, 116]⟩) := by
    rw [World.var?_cell hg hvar 2, ← Array.getElem?_toList]
    simpa using e0
  exact ⟨hc, World.block_lt_of_cell? W _ hc⟩
theorem shapedS (os : Os) (args : Array Value) : ((World.laidAll Tryz.prog os laidS).forCall (fun _ _ => 0) ⟨#[], args, []⟩).Shaped Tryz.prog :=
  World.shaped_of_ZipB (by kernel_rfl) (by kernel_rfl)
theorem metS (os : Os) (args : Array Value) : laidMetH Tryz.prog laidS ((World.laidAll Tryz.prog os laidS).forCall (fun _ _ => 0) ⟨#[], args, []⟩).memory := by
  rw [MakeChecks.laidMetH_plain _ _ _ (by kernel_rfl)]
  exact laidMet_laidAll _ (by kernel_rfl) (by kernel_rfl)
end Go.Proofs.YtobgdjjicgiefaaGreatDoor
