/- Layer 13: Has, Ahead, Wait. -/
import Derived.Test.YtcdamalpecedcaaGreatWGp15
namespace Go.Proofs.YtcdamalpecedcaaGreat
open Go.RowKit
set_option maxRecDepth 100000

theorem plc_at {Z : List (Nat × Nat)} (hr : RisZ Z) {i : Nat} (hi : i < Z.length) : plc Z Z[i].2 = i := plc_is (Nat.le_of_lt hi) (fun k _ hki => hr.lt hki hi) (fun k hk hik => by
  rcases Nat.lt_or_eq_of_le hik with h1 | h1
  · exact Nat.le_of_lt (hr.lt h1 hk)
  · subst h1
    exact Nat.le_refl _)
/-- is a taker granted? -/
def grT (Y : List Tkr) (x : Tk) : Bool := !x.A.any (hasT (zs Y))

set_option maxHeartbeats 4000000 in
theorem has_no (gb nx n : Nat) (Y : List Tkr) (w : World) (hG : Gp w gb nx Y) (hn : hasT (zs Y) n = false) :
    Calls Tryz.prog 10 #[ptr1 gb, .int .u64 (n : Nat)] w fun e w' => e = .returned (.tuple #[.bool false, .int .i64 130]) ∧ w' = w := by
  obtain ⟨xb, p, c, hg, hL⟩ := hG
  obtain ⟨hz, -, -, -⟩ := hL.z
  have C1 : Hid (Calls _ _ _ _ _) := loadLn gb 0 (some ⟨xb, 0, none⟩) w (Blk.cell (i := 0) hg rfl) (PtT.blk hL.b rfl)
  have C2 : Hid (Calls _ _ _ _ _) := find_none xb nx c n p (zs Y) w hz hn
  clear hg hL hz hn
  go_enter Tryz.func10, Tryz.ntmps10
  go_wp2_with fail
  refine C1.out.mono ?_
  rintro e w2 ⟨rfl, hw2⟩
  rw [hw2]
  clear hw2 C1
  go_wp2_with fail
  refine C2.out.mono ?_
  rintro e w2 ⟨rfl, hw2⟩
  rw [hw2]
  clear hw2 C2
  go_wp2_with fail
  go_ret2
  exact ⟨rfl, rfl⟩

set_option maxHeartbeats 4000000 in
theorem has_yes (gb nx i : Nat) (Y : List Tkr) (w : World) (hG : Gp w gb nx Y) (hi : i < Y.length) :
    Calls Tryz.prog 10 #[ptr1 gb, .int .u64 (Y[i].x.t : Nat)] w fun e w' => e = .returned (.tuple #[.bool (grT Y Y[i].x), .int .i64 0]) ∧ Below w.heap.size w w' := by
  obtain ⟨xb, p, c, hg, hL⟩ := hG
  obtain ⟨hz, -, -, -⟩ := hL.z
  have C1 : Hid (Calls _ _ _ _ _) := loadLn gb 0 (some ⟨xb, 0, none⟩) w (Blk.cell (i := 0) hg rfl) (PtT.blk hL.b rfl)
  have hiz : i < (zs Y).length := by rw [List.length_map]; exact hi
  have hzi : (zs Y)[i] = (Y[i].b, Y[i].x.t) := List.getElem_map _
  have hpl : plc (zs Y) Y[i].x.t = i := by
    have h9 := plc_at hz.i hiz
    rw [hzi] at h9
    exact h9
  have hha : hasT (zs Y) Y[i].x.t = true := by
    have h9 := hasT_at hiz
    rw [hzi] at h9
    exact h9
  have C2 : Hid (Calls _ _ _ _ _) := find_some xb nx c Y[i].x.t p (zs Y) w hz hha (by rw [hpl]; exact hiz)
  rw [show (zs Y)[plc (zs Y) Y[i].x.t]'(by rw [hpl]; exact hiz) = (Y[i].b, Y[i].x.t) by simp only [hpl]; exact hzi] at C2
  have hT := hL.t Y[i] (List.getElem_mem hi)
  obtain ⟨va, vo, vh, told, d, sm, cl, k1, -, -, -, k5, -, -⟩ := hT
  have C3 : Hid (Calls _ _ _ _ _) := grants_any xb nx c Y[i].b p (zs Y) Y[i].x.A vh w hz (Blk.cell (i := 3) k1 rfl) (ownU_rw k5) (hL.a _ (List.getElem_mem hi))
  have y3 := Blk.cell (i := 3) k1 rfl
  clear hg hL hz hiz hzi hpl hha k1 k5
  generalize Y[i].b = ob at *
  generalize Y[i].x.t = tq at *
  go_enter Tryz.func10, Tryz.ntmps10
  go_wp2_with fail
  refine C1.out.mono ?_
  rintro e w2 ⟨rfl, hw2⟩
  rw [hw2]
  clear hw2 C1
  go_wp2_with fail
  refine C2.out.mono ?_
  rintro e w2 ⟨rfl, hw2⟩
  rw [hw2]
  clear hw2 C2
  go_wp2_with fail
  refine C3.out.mono ?_
  rintro e w3 ⟨rfl, hb3⟩
  have HB : Hid (Below w.heap.size w w3) := hb3
  have HGr : Hid (grT Y Y[i].x = !Y[i].x.A.any (hasT (zs Y))) := by show grT Y Y[i].x = _; rfl
  clear hb3 C3
  go_wp2_with fail
  go_ret2
  exact ⟨by rw [HGr.out]; rfl, HB.out⟩

set_option maxHeartbeats 4000000 in
theorem ahead_no (gb nx n : Nat) (Y : List Tkr) (w : World) (hG : Gp w gb nx Y) (hn : hasT (zs Y) n = false) :
    Calls Tryz.prog 22 #[ptr1 gb, .int .u64 (n : Nat)] w fun e w' => e = .returned (.tuple #[.slice none 0 0, .int .i64 130]) ∧ w' = w := by
  obtain ⟨xb, p, c, hg, hL⟩ := hG
  obtain ⟨hz, -, -, -⟩ := hL.z
  have C1 : Hid (Calls _ _ _ _ _) := loadLn gb 0 (some ⟨xb, 0, none⟩) w (Blk.cell (i := 0) hg rfl) (PtT.blk hL.b rfl)
  have C2 : Hid (Calls _ _ _ _ _) := find_none xb nx c n p (zs Y) w hz hn
  clear hg hL hz hn
  go_enter Tryz.func22, Tryz.ntmps22
  go_wp2_with fail
  refine C1.out.mono ?_
  rintro e w2 ⟨rfl, hw2⟩
  rw [hw2]
  clear hw2 C1
  go_wp2_with fail
  refine C2.out.mono ?_
  rintro e w2 ⟨rfl, hw2⟩
  rw [hw2]
  clear hw2 C2
  go_wp2_with fail
  go_ret2
  exact ⟨rfl, rfl⟩

set_option maxHeartbeats 4000000 in
theorem ahead_yes (gb nx i : Nat) (Y : List Tkr) (w : World) (hG : Gp w gb nx Y) (hi : i < Y.length) :
    Calls Tryz.prog 22 #[ptr1 gb, .int .u64 (Y[i].x.t : Nat)] w fun e w' => ∃ v, e = .returned (.tuple #[v, .int .i64 0]) ∧ OwnU w' w.heap.size v (Y[i].x.A.filter (hasT (zs Y))) ∧ Below w.heap.size w w' := by
  obtain ⟨xb, p, c, hg, hL⟩ := hG
  obtain ⟨hz, -, -, -⟩ := hL.z
  have C1 : Hid (Calls _ _ _ _ _) := loadLn gb 0 (some ⟨xb, 0, none⟩) w (Blk.cell (i := 0) hg rfl) (PtT.blk hL.b rfl)
  have hiz : i < (zs Y).length := by rw [List.length_map]; exact hi
  have hzi : (zs Y)[i] = (Y[i].b, Y[i].x.t) := List.getElem_map _
  have hpl : plc (zs Y) Y[i].x.t = i := by
    have h9 := plc_at hz.i hiz
    rw [hzi] at h9
    exact h9
  have hha : hasT (zs Y) Y[i].x.t = true := by
    have h9 := hasT_at hiz
    rw [hzi] at h9
    exact h9
  have C2 : Hid (Calls _ _ _ _ _) := find_some xb nx c Y[i].x.t p (zs Y) w hz hha (by rw [hpl]; exact hiz)
  rw [show (zs Y)[plc (zs Y) Y[i].x.t]'(by rw [hpl]; exact hiz) = (Y[i].b, Y[i].x.t) by simp only [hpl]; exact hzi] at C2
  have hT := hL.t Y[i] (List.getElem_mem hi)
  obtain ⟨va, vo, vh, told, d, sm, cl, k1, -, -, -, k5, -, -⟩ := hT
  have C3 : Hid (Calls _ _ _ _ _) := left_any xb nx c p (zs Y) vh Y[i].x.A w hz (ownU_rw k5) (hL.a _ (List.getElem_mem hi))
  have y3 := Blk.cell (i := 3) k1 rfl
  clear hg hL hz hiz hzi hpl hha k1 k5
  generalize Y[i].b = ob at *
  generalize Y[i].x.t = tq at *
  go_enter Tryz.func22, Tryz.ntmps22
  go_wp2_with fail
  refine C1.out.mono ?_
  rintro e w2 ⟨rfl, hw2⟩
  rw [hw2]
  clear hw2 C1
  go_wp2_with fail
  refine C2.out.mono ?_
  rintro e w2 ⟨rfl, hw2⟩
  rw [hw2]
  clear hw2 C2
  go_wp2_with fail
  refine C3.out.mono ?_
  rintro e w3 ⟨v3, rfl, ho3, hb3⟩
  have HB : Hid (OwnU w3 w.heap.size v3 (Y[i].x.A.filter (hasT (zs Y))) ∧ Below w.heap.size w w3) := ⟨ho3, hb3⟩
  clear hb3 C3 ho3
  go_wp2_with fail
  go_ret2
  exact ⟨_, rfl, HB.out⟩

set_option maxHeartbeats 4000000 in
theorem wait_no (gb nx n : Nat) (Y : List Tkr) (w : World) (hG : Gp w gb nx Y) (hn : hasT (zs Y) n = false) :
    Calls Tryz.prog 13 #[ptr1 gb, .int .u64 (n : Nat)] w fun e w' => e = .returned (.int .i64 130) ∧ w' = w := by
  obtain ⟨xb, p, c, hg, hL⟩ := hG
  obtain ⟨hz, -, -, -⟩ := hL.z
  have C1 : Hid (Calls _ _ _ _ _) := loadLn gb 0 (some ⟨xb, 0, none⟩) w (Blk.cell (i := 0) hg rfl) (PtT.blk hL.b rfl)
  have C2 : Hid (Calls _ _ _ _ _) := find_none xb nx c n p (zs Y) w hz hn
  clear hg hL hz hn
  go_enter Tryz.func13, Tryz.ntmps13
  go_wp2_with fail
  refine C1.out.mono ?_
  rintro e w2 ⟨rfl, hw2⟩
  rw [hw2]
  clear hw2 C1
  go_wp2_with fail
  refine C2.out.mono ?_
  rintro e w2 ⟨rfl, hw2⟩
  rw [hw2]
  clear hw2 C2
  go_wp2_with fail
  go_ret
  exact ⟨rfl, rfl⟩

set_option maxHeartbeats 4000000 in
theorem wait_yes (gb nx i : Nat) (Y : List Tkr) (w : World) (hG : Gp w gb nx Y) (hi : i < Y.length) (hgr : grT Y Y[i].x = true) :
    Calls Tryz.prog 13 #[ptr1 gb, .int .u64 (Y[i].x.t : Nat)] w fun e w' => e = .returned (.int .i64 0) ∧ Below w.heap.size w w' := by
  obtain ⟨xb, p, c, hg, hL⟩ := hG
  obtain ⟨hz, -, -, -⟩ := hL.z
  have C1 : Hid (Calls _ _ _ _ _) := loadLn gb 0 (some ⟨xb, 0, none⟩) w (Blk.cell (i := 0) hg rfl) (PtT.blk hL.b rfl)
  have hiz : i < (zs Y).length := by rw [List.length_map]; exact hi
  have hzi : (zs Y)[i] = (Y[i].b, Y[i].x.t) := List.getElem_map _
  have hpl : plc (zs Y) Y[i].x.t = i := by
    have h9 := plc_at hz.i hiz
    rw [hzi] at h9
    exact h9
  have hha : hasT (zs Y) Y[i].x.t = true := by
    have h9 := hasT_at hiz
    rw [hzi] at h9
    exact h9
  have C2 : Hid (Calls _ _ _ _ _) := find_some xb nx c Y[i].x.t p (zs Y) w hz hha (by rw [hpl]; exact hiz)
  rw [show (zs Y)[plc (zs Y) Y[i].x.t]'(by rw [hpl]; exact hiz) = (Y[i].b, Y[i].x.t) by simp only [hpl]; exact hzi] at C2
  have hT := hL.t Y[i] (List.getElem_mem hi)
  obtain ⟨va, vo, vh, told, d, sm, cl, k1, -, -, -, k5, -, -⟩ := hT
  have C3 : Hid (Calls _ _ _ _ _) := grants_any xb nx c Y[i].b p (zs Y) Y[i].x.A vh w hz (Blk.cell (i := 3) k1 rfl) (ownU_rw k5) (hL.a _ (List.getElem_mem hi))
  have y3 := Blk.cell (i := 3) k1 rfl
  have hgr2 : (!Y[i].x.A.any (hasT (zs Y))) = true := hgr
  rw [hgr2] at C3
  clear hgr hgr2
  clear hg hL hz hiz hzi hpl hha k1 k5
  generalize Y[i].b = ob at *
  generalize Y[i].x.t = tq at *
  go_enter Tryz.func13, Tryz.ntmps13
  go_wp2_with fail
  refine C1.out.mono ?_
  rintro e w2 ⟨rfl, hw2⟩
  rw [hw2]
  clear hw2 C1
  go_wp2_with fail
  refine C2.out.mono ?_
  rintro e w2 ⟨rfl, hw2⟩
  rw [hw2]
  clear hw2 C2
  go_wp2_with fail
  refine C3.out.mono ?_
  rintro e w3 ⟨rfl, hb3⟩
  have HB : Hid (Below w.heap.size w w3) := hb3
  clear hb3 C3
  go_wp2_with fail
  go_ret
  exact ⟨rfl, HB.out⟩

set_option maxHeartbeats 4000000 in
theorem gnew_any (w : World) : Calls Tryz.prog 6 #[] w fun e w' => ∃ gb, e = .returned (ptr1 gb) ∧ Gp w' gb 1 [] ∧ w.heap.size ≤ gb ∧ Below w.heap.size w w' := by
  obtain ⟨aX, aB, aS⟩ := blk_new w #[.pointer none] 64
  obtain ⟨bX, bB, bS⟩ := blk_new (w.alloc (.cells #[.pointer none] 64)) #[.int .u64 1, .slice none 0 0] 68
  rw [aS] at bX
  have aX2 := aX.on bB
  have C1 : Hid (Calls _ _ _ _ _) := storeLn w.heap.size 0 none (some ⟨w.heap.size + 1, 0, none⟩) _ (Blk.cell (i := 0) aX2 rfl) (aX2.frozen 0) (PtT.blk bX rfl)
  have HZ : Hid (Gp (((w.alloc (.cells #[.pointer none] 64)).alloc (.cells #[.int .u64 1, .slice none 0 0] 68)).setCell ⟨w.heap.size, 0, none⟩ (ptr1 (w.heap.size + 1))) w.heap.size 1 [] ∧ Below w.heap.size w (((w.alloc (.cells #[.pointer none] 64)).alloc (.cells #[.int .u64 1, .slice none 0 0] 68)).setCell ⟨w.heap.size, 0, none⟩ (ptr1 (w.heap.size + 1)))) := by
    have hF : Frm _ (((w.alloc (.cells #[.pointer none] 64)).alloc (.cells #[.int .u64 1, .slice none 0 0] 68)).setCell ⟨w.heap.size, 0, none⟩ (ptr1 (w.heap.size + 1))) (fun k => k = w.heap.size) := frm_set _ w.heap.size 0 _ (.inl rfl)
    refine ⟨⟨w.heap.size + 1, none, 0, aX2.set 0 _, ⟨blk_frm bX hF (only_gb aX2) (by decide) (by decide), World.ownsRow_nil _ _ _ _, fun y hy => absurd hy (by simp), List.nodup_nil, List.nodup_nil, InvG.nil (by decide), by simp, fun y hy => absurd hy (by simp)⟩⟩, ?_⟩
    have hb := aB.trans (bB.mono aB.size)
    exact hb.trans (hF.below hb.size (fun k hk => Nat.le_of_eq hk.symm))
  clear aX aB aS bX bB bS aX2
  go_enter Tryz.func6, Tryz.ntmps6
  go_wp2_with fail
  refine C1.out.mono ?_
  rintro e w3 ⟨rfl, hw3⟩
  have HZ3 : Hid (Gp w3 w.heap.size 1 [] ∧ Below w.heap.size w w3) := by
    rw [hw3]
    exact HZ.out
  clear hw3 C1 HZ
  go_wp2_with fail
  go_ret
  exact ⟨_, rfl, HZ3.out.1, Nat.le_refl _, HZ3.out.2⟩
end Go.Proofs.YtcdamalpecedcaaGreat
