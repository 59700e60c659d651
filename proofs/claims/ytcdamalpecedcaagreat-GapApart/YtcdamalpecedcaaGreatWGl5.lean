/- Layer 13: awake. -/
import Derived.Test.YtcdamalpecedcaaGreatWGl4
namespace Go.Proofs.YtcdamalpecedcaaGreat
open Go.RowKit
set_option maxRecDepth 100000

def hdA : Hd := ⟨⟨⟨#[]⟩, ⟨#[]⟩, true⟩, true⟩
theorem rd_one (w : World) : RdH (w.alloc (.cells #[.string ⟨#[]⟩, .string ⟨#[]⟩, .bool true, .bool true] 52)) (w.alloc (.cells #[.string ⟨#[]⟩, .string ⟨#[]⟩, .bool true, .bool true] 52)).heap.size (some ⟨w.heap.size, 0, none⟩) [hdA] := by
  obtain ⟨aX, -, aS⟩ := blk_new w #[.string ⟨#[]⟩, .string ⟨#[]⟩, .bool true, .bool true] 52
  intro i hi
  have e : i = 0 := by simp at hi; omega
  subst e
  exact ⟨_, 0, rfl, aX.lt, aX.cell (i := 0) rfl, aX.cell (i := 1) rfl, aX.cell (i := 2) rfl, aX.cell (i := 3) rfl⟩

set_option maxHeartbeats 4000000 in
theorem awake_any (w : World) : Calls Tryz.prog 9 #[] w fun e w' => e = .returned (.bool true) ∧ Below w.heap.size w w' := by
  go_enter Tryz.func9, Tryz.ntmps9
  go_wp2_with fail
  refine (gnew_any w).mono ?_
  rintro e w1 ⟨gb, rfl, hg, hgb, hb1⟩
  dsimp only
  have hal := (blk_new w1 #[.string ⟨#[]⟩, .string ⟨#[]⟩, .bool true, .bool true] 52).2.1
  have CT : Hid (Calls _ _ _ _ _) := Take_ok gb 1 1 (some ⟨w1.heap.size, 0, none⟩) [hdA] [] _ (hg.on hal) (rd_one w1) (by decide) (by decide) (by decide)
  have HGb : Hid (w.heap.size ≤ gb) := hgb
  have HB2 : Hid (Below w.heap.size w (w1.alloc (.cells #[.string ⟨#[]⟩, .string ⟨#[]⟩, .bool true, .bool true] 52))) := hb1.trans (hal.mono hb1.size)
  clear hg hgb hb1 hal
  go_wp2_with fail
  generalize w1.alloc (.cells #[.string ⟨#[]⟩, .string ⟨#[]⟩, .bool true, .bool true] 52) = w2 at *
  refine CT.out.mono ?_
  rintro e w3 ⟨tb, ch, rfl, hg3, hf3, -, -⟩
  dsimp only
  have HB3 : Hid (Below w.heap.size w w3) := HB2.out.trans (hf3.below HB2.out.size (fun k hk => by rw [hk]; exact HGb.out))
  have CH : Hid (Calls _ _ _ _ _) := has_yes gb 2 0 _ w3 hg3 (by simp)
  clear hg3 hf3 CT HB2
  go_wp2_with fail
  refine CH.out.mono ?_
  rintro e w4 ⟨rfl, hb4⟩
  dsimp only
  have HB4 : Hid (Below w.heap.size w w4) := HB3.out.trans (hb4.mono HB3.out.size)
  have hgr : grT ([] ++ [⟨tb, ch, newT [hdA] 1 (([] : List Tkr).map Tkr.x)⟩]) (([] ++ [⟨tb, ch, newT [hdA] 1 (([] : List Tkr).map Tkr.x)⟩] : List Tkr)[0]).x = true := rfl
  rw [hgr]
  clear hb4 CH HB3 hgr
  go_wp2_with fail
  go_ret
  exact ⟨rfl, HB4.out⟩
end Go.Proofs.YtcdamalpecedcaaGreat
