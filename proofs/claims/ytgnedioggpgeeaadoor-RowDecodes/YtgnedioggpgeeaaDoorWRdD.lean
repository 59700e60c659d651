/- The walk of readValue. -/
import Derived.Test.YtgnedioggpgeeaaDoorWRdC
namespace Go.Proofs.YtgnedioggpgeeaaDoor
open Go.RowKit
set_option maxRecDepth 100000

/-- the blocks that readValue lays at first: the column, the value that it tells -/
theorem box2 (w w1 : World) (o z : Obj) (hz : z = .cells #[.int .i64 0, .int .i64 0, .float .f64 0, .string ⟨#[]⟩] 49) (hb : Below ((w.alloc o).alloc z).heap.size ((w.alloc o).alloc z) w1) :
    (w1.cell? ⟨w.heap.size + 1, 0, none⟩ = some (.int .i64 0) ∧ w1.cell? ⟨w.heap.size + 1, 1, none⟩ = some (.int .i64 0) ∧ w1.cell? ⟨w.heap.size + 1, 2, none⟩ = some (.float .f64 0) ∧ w1.cell? ⟨w.heap.size + 1, 3, none⟩ = some (.string ⟨#[]⟩)) ∧
    (w1.frozen? ⟨w.heap.size + 1, 0, none⟩ = false ∧ w1.frozen? ⟨w.heap.size + 1, 1, none⟩ = false ∧ w1.frozen? ⟨w.heap.size + 1, 2, none⟩ = false ∧ w1.frozen? ⟨w.heap.size + 1, 3, none⟩ = false) ∧ Below w.heap.size w w1 := by
  have h := vz (w.alloc o) w1 z hz hb
  have e : (w.alloc o).heap.size = w.heap.size + 1 := by simp
  rw [e] at h
  exact ⟨h.1, h.2, (((Below.refl _ _).alloc (Nat.le_refl _) _).alloc (by simp) _).trans (hb.mono (by simp; omega))⟩

set_option maxHeartbeats 4000000 in
theorem readValue_any (c : Cl) (bt : Nat) (s : ByteArray) (w : World) (hs : s.size ≤ 65536) (hbt : bt ≤ 3) (hk1 : 1 ≤ c.kd) (hk5 : c.kd ≤ 5) (hE : Env w) :
    Calls Tryd.prog 46 #[c.val, .int .u8 (bt : Int), .string s] w (RdP (decA c bt s) w) := by
  have hsf := run_store_float
  have HEn : Hid (Env w) := hE
  have CN : Hid (∀ w1, Calls _ _ _ _ _) := litNull_any
  have CB : Hid (∀ b w1, Calls _ _ _ _ _) := litBool_any
  clear hE
  by_cases h0 : bt = 0
  · subst h0
    rw [decA_null]
    obtain ⟨nm, kd, nl, ⟨dk, dn, df, ds⟩⟩ := c
    dsimp only at *
    unfold Cl.val
    dsimp only
    have HF : Hid ((nl = true ∧ (if nl = true then some (vNull, 0) else none) = some (vNull, 0)) ∨ (nl = false ∧ (if nl = true then some (vNull, 0) else none) = (none : Option (Vl × Nat)))) := by cases nl <;> simp [Hid]
    generalize (if nl = true then some (vNull, 0) else none) = r at *
    have hbx := fun (w1 : World) (o : Obj) => box2 w w1 o _ rfl
    go_enter Tryd.func46, Tryd.ntmps46
    go_wp2_with fail
    obtain ⟨o, ho⟩ : ∃ o, o = Obj.cells #[Value.string nm, Value.int IntKind.i64 kd, Value.bool nl, Value.int IntKind.i64 dk, Value.int IntKind.i64 dn, Value.float FloatKind.f64 df, Value.string ds] 54 := ⟨_, rfl⟩
    obtain ⟨W, hW⟩ : ∃ W, W = (w.alloc o).alloc (.cells #[.int .i64 0, .int .i64 0, .float .f64 0, .string ⟨#[]⟩] 49) := ⟨_, rfl⟩
    have HX : Hid (∀ w1, Below W.heap.size W w1 → _) := fun w1 hb => hbx w1 o (by rw [← hW]; exact hb)
    have n0 : W.cell? ⟨w.heap.size, 2, none⟩ = some (.bool nl) := by rw [hW, World.cell?_of_block (w := w.alloc o) (Below.heap_alloc _ _ _ (by simp)), ho, World.cell?_alloc_new]; rfl
    have hWz : w.heap.size < W.heap.size := by rw [hW]; simp; omega
    rw [← ho, ← hW]
    clear hbx ho hW
    go_region_with (first | (go_at_call 64; refine (CN.out _).mono ?_; rintro e w1 ⟨rfl, hb1⟩; have hb1' : Below W.heap.size W w1 := ⟨hb1.os, hb1.tape, hb1.output, hb1.size, hb1.block⟩; obtain ⟨⟨z0, z1, z2, z3⟩, ⟨y0, y1, y2, y3⟩, hB⟩ := HX.out w1 hb1'; have n1 := (hb1'.cell (p := ⟨w.heap.size, 2, none⟩) hWz).trans n0; have HB : Hid (Below _ _ _) := hB; clear hb1 hb1' hB))
    all_goals go_wp2_with fail
    all_goals refine bodyPost_ret (v := .tuple #[vNull.val, .int .i64 ((0 : Nat) : Int), .bool nl]) (by simp [results, Tryd.results46, go_sem, z0, z1, z2, z3, Act.put]) rfl ?_
    all_goals exact RdP.mk vNull 0 nl rfl HF.out (set4 HB.out _ (by omega) _ _ _ _)
  by_cases h1 : c.kd = 1
  · by_cases h2 : bt = 1 ∨ bt = 2
    · rw [decA_bool h1 h2]
      obtain ⟨nm, kd, nl, ⟨dk, dn, df, ds⟩⟩ := c
      dsimp only at *
      unfold Cl.val
      dsimp only
      rcases h2 with rfl | rfl
      · go_enter Tryd.func46, Tryd.ntmps46
        go_wp2_with fail
        refine (CB.out _ _).mono ?_
        rintro e w1 ⟨rfl, hb1⟩
        obtain ⟨⟨z0, z1, z2, z3⟩, ⟨y0, y1, y2, y3⟩, hB⟩ := box2 w w1 _ _ rfl hb1
        go_wp2_with fail
        refine bodyPost_ret (v := .tuple #[(vBool false).val, .int .i64 ((0 : Nat) : Int), .bool true]) (by simp [results, Tryd.results46, go_sem, z0, z1, z2, z3]) rfl ?_
        exact RdP.yes (vBool false) 0 rfl (by simp) (set4 hB _ (by omega) _ _ _ _)
      · go_enter Tryd.func46, Tryd.ntmps46
        go_wp2_with fail
        refine (CB.out _ _).mono ?_
        rintro e w1 ⟨rfl, hb1⟩
        obtain ⟨⟨z0, z1, z2, z3⟩, ⟨y0, y1, y2, y3⟩, hB⟩ := box2 w w1 _ _ rfl hb1
        go_wp2_with fail
        refine bodyPost_ret (v := .tuple #[(vBool true).val, .int .i64 ((0 : Nat) : Int), .bool true]) (by simp [results, Tryd.results46, go_sem, z0, z1, z2, z3]) rfl ?_
        exact RdP.yes (vBool true) 0 rfl (by simp) (set4 hB _ (by omega) _ _ _ _)
    · rw [decA_bad h0 (.inl ⟨h1, by omega⟩)]
      have h3 : bt = 3 := by omega
      subst h3
      obtain ⟨nm, kd, nl, ⟨dk, dn, df, ds⟩⟩ := c
      dsimp only at *
      unfold Cl.val
      dsimp only
      go_enter Tryd.func46, Tryd.ntmps46
      go_wp2_with fail
      refine (CB.out _ _).mono ?_
      rintro e w1 ⟨rfl, hb1⟩
      obtain ⟨⟨z0, z1, z2, z3⟩, ⟨y0, y1, y2, y3⟩, hB⟩ := box2 w w1 _ _ rfl hb1
      go_wp2_with fail
      refine bodyPost_ret (v := .tuple #[(vBool false).val, .int .i64 ((0 : Nat) : Int), .bool false]) (by simp [results, Tryd.results46, go_sem, z0, z1, z2, z3]) rfl ?_
      exact RdP.no _ 0 rfl rfl (set4 hB _ (by omega) _ _ _ _)
  have hk1' : ¬ c.kd = 1 := h1
  by_cases h2 : 1 < bt
  · rw [decA_bad h0 (.inr ⟨h1, h2⟩)]
    obtain ⟨nm, kd, nl, ⟨dk, dn, df, ds⟩⟩ := c
    dsimp only at *
    unfold Cl.val
    dsimp only
    have e1 : ((bt : Int) == 0) = false := by simp; omega
    have e2 : ((bt : Int) != 1) = true := by simp; omega
    go_enter Tryd.func46, Tryd.ntmps46
    go_wp2_with fail
    refine bodyPost_ret (v := .tuple #[vNull.val, .int .i64 ((0 : Nat) : Int), .bool false]) (by simp [results, Tryd.results46, go_sem, vNull]) rfl ?_
    exact RdP.no vNull 0 rfl rfl (by go_grown)
  have h3 : bt = 1 := by omega
  subst h3
  by_cases hk2 : c.kd = 2
  · have C1 : Hid (∀ w1, Calls _ _ _ _ _) := fun w1 => readInt_any s w1 (by omega)
    rw [← decA_int (c := c) hk2] at C1
    generalize decA c 1 s = r at *
    obtain ⟨nm, kd, nl, ⟨dk, dn, df, ds⟩⟩ := c
    dsimp only at *
    unfold Cl.val
    dsimp only
    subst hk2
    go_enter Tryd.func46, Tryd.ntmps46
    go_wp2_with fail
    refine (C1.out _).mono ?_
    rintro e w1 ⟨⟨vk, vn, vf, vs⟩, k, b, rfl, hr, hb1⟩
    obtain ⟨⟨z0, z1, z2, z3⟩, ⟨y0, y1, y2, y3⟩, hB⟩ := box2 w w1 _ _ rfl hb1
    have HR : Hid _ := hr
    clear hr
    go_wp2_with fail
    refine bodyPost_ret (v := .tuple #[(⟨vk, vn, vf, vs⟩ : Vl).val, .int .i64 (k : Int), .bool b]) (by simp [results, Tryd.results46, go_sem, z0, z1, z2, z3]) rfl ?_
    exact RdP.mk _ k b rfl HR.out (set4 hB _ (by omega) _ _ _ _)
  by_cases hk3 : c.kd = 3
  · have C1 : Hid (∀ w1, Calls _ _ _ _ _) := fun w1 => readFloat_any s w1 (by omega)
    rw [← decA_flo (c := c) hk3] at C1
    generalize decA c 1 s = r at *
    obtain ⟨nm, kd, nl, ⟨dk, dn, df, ds⟩⟩ := c
    dsimp only at *
    unfold Cl.val
    dsimp only
    subst hk3
    go_enter Tryd.func46, Tryd.ntmps46
    go_wp2_with fail
    refine (C1.out _).mono ?_
    rintro e w1 ⟨⟨vk, vn, vf, vs⟩, k, b, rfl, hr, hb1⟩
    obtain ⟨⟨z0, z1, z2, z3⟩, ⟨y0, y1, y2, y3⟩, hB⟩ := box2 w w1 _ _ rfl hb1
    have HR : Hid _ := hr
    clear hr
    go_wp2_with fail
    refine bodyPost_ret (v := .tuple #[(⟨vk, vn, vf, vs⟩ : Vl).val, .int .i64 (k : Int), .bool b]) (by simp [results, Tryd.results46, go_sem, z0, z1, z2, z3]) rfl ?_
    exact RdP.mk _ k b rfl HR.out (set4 hB _ (by omega) _ _ _ _)
  have C1 : Hid (∀ w1, Below w.heap.size w w1 → Calls _ _ _ _ _) := fun w1 hb => readString_any c.kd s w1 hs (by omega) (HEn.out.on hb)
  rw [← decA_str (c := c) (by omega)] at C1
  generalize decA c 1 s = r at *
  obtain ⟨nm, kd, nl, ⟨dk, dn, df, ds⟩⟩ := c
  dsimp only at *
  unfold Cl.val
  dsimp only
  go_enter Tryd.func46, Tryd.ntmps46
  go_wp2_with fail
  refine (C1.out _ (by go_grown)).mono ?_
  rintro e w1 ⟨⟨vk, vn, vf, vs⟩, k, b, rfl, hr, hb1⟩
  obtain ⟨⟨z0, z1, z2, z3⟩, ⟨y0, y1, y2, y3⟩, hB⟩ := box2 w w1 _ _ rfl hb1
  have HR : Hid _ := hr
  clear hr
  go_wp2_with fail
  refine bodyPost_ret (v := .tuple #[(⟨vk, vn, vf, vs⟩ : Vl).val, .int .i64 (k : Int), .bool b]) (by simp [results, Tryd.results46, go_sem, z0, z1, z2, z3]) rfl ?_
  exact RdP.mk _ k b rfl HR.out (set4 hB _ (by omega) _ _ _ _)
end Go.Proofs.YtgnedioggpgeeaaDoor
