/- The walk of readValue. The walks of pairAt and sparePairsEmpty. -/
import Derived.Test.YtinlgaefgedmcaaGreatDoorGWRdS
import Derived.Test.YtinlgaefgedmcaaGreatDoorGWRowA
namespace Go.Proofs.YtinlgaefgedmcaaGreatDoor
open Go.RowKit
set_option maxRecDepth 100000

/-- the blocks that readValue lays at first: the column, the value that it tells -/
theorem box2 (w w1 : World) (o z : Obj) (hz : z = .cells #[.int .i64 0, .int .i64 0, .float .f64 0, .string ⟨#[]⟩] 39) (hb : Below ((w.alloc o).alloc z).heap.size ((w.alloc o).alloc z) w1) :
    (w1.cell? ⟨w.heap.size + 1, 0, none⟩ = some (.int .i64 0) ∧ w1.cell? ⟨w.heap.size + 1, 1, none⟩ = some (.int .i64 0) ∧ w1.cell? ⟨w.heap.size + 1, 2, none⟩ = some (.float .f64 0) ∧ w1.cell? ⟨w.heap.size + 1, 3, none⟩ = some (.string ⟨#[]⟩)) ∧
    (w1.frozen? ⟨w.heap.size + 1, 0, none⟩ = false ∧ w1.frozen? ⟨w.heap.size + 1, 1, none⟩ = false ∧ w1.frozen? ⟨w.heap.size + 1, 2, none⟩ = false ∧ w1.frozen? ⟨w.heap.size + 1, 3, none⟩ = false) ∧ Below w.heap.size w w1 := by
  have h := vz (w.alloc o) w1 z hz hb
  have e : (w.alloc o).heap.size = w.heap.size + 1 := by simp
  rw [e] at h
  exact ⟨h.1, h.2, (((Below.refl _ _).alloc (Nat.le_refl _) _).alloc (by simp) _).trans (hb.mono (by simp; omega))⟩

set_option maxHeartbeats 4000000 in
theorem readValue_any (c : Cl) (bt : Nat) (s : ByteArray) (w : World) (hs : s.size ≤ 65536) (hbt : bt ≤ 3) (hk1 : 1 ≤ c.kd) (hk5 : c.kd ≤ 5) (hE : Env w) :
    Calls Tryz.prog 39 #[c.val, .int .u8 (bt : Int), .string s] w (RdP (decA c bt s) w) := by
  have hsf := run_store_float
  have HEn : Hid (Env w) := hE
  have CN : Hid (∀ w1, Calls _ _ _ _ _) := litNull_any
  have CB : Hid (∀ b w1, Calls _ _ _ _ _) := litBool_any
  clear hE
  by_cases h0 : bt = 0
  · subst h0
    rw [decA_null]
    obtain ⟨nm, kd, nl, ⟨dk, dn, df, ds⟩⟩ := c
    dsimp only at *
    unfold Cl.val
    dsimp only
    have HF : Hid ((nl = true ∧ (if nl = true then some (vNull, 0) else none) = some (vNull, 0)) ∨ (nl = false ∧ (if nl = true then some (vNull, 0) else none) = (none : Option (Vl × Nat)))) := by cases nl <;> simp [Hid]
    generalize (if nl = true then some (vNull, 0) else none) = r at *
    have hbx := fun (w1 : World) (o : Obj) => box2 w w1 o _ rfl
    go_enter Tryz.func39, Tryz.ntmps39
    go_wp2_with fail
    obtain ⟨o, ho⟩ : ∃ o, o = Obj.cells #[Value.string nm, Value.int IntKind.i64 kd, Value.bool nl, Value.int IntKind.i64 dk, Value.int IntKind.i64 dn, Value.float FloatKind.f64 df, Value.string ds] 49 := ⟨_, rfl⟩
    obtain ⟨W, hW⟩ : ∃ W, W = (w.alloc o).alloc (.cells #[.int .i64 0, .int .i64 0, .float .f64 0, .string ⟨#[]⟩] 39) := ⟨_, rfl⟩
    have HX : Hid (∀ w1, Below W.heap.size W w1 → _) := fun w1 hb => hbx w1 o (by rw [← hW]; exact hb)
    have n0 : W.cell? ⟨w.heap.size, 2, none⟩ = some (.bool nl) := by rw [hW, World.cell?_of_block (w := w.alloc o) (Below.heap_alloc _ _ _ (by simp)), ho, World.cell?_alloc_new]; rfl
    have hWz : w.heap.size < W.heap.size := by rw [hW]; simp; omega
    rw [← ho, ← hW]
    clear hbx ho hW
    go_region_with (first | (go_at_call 55; refine (CN.out _).mono ?_; rintro e w1 ⟨rfl, hb1⟩; have hb1' : Below W.heap.size W w1 := ⟨hb1.os, hb1.tape, hb1.output, hb1.size, hb1.block⟩; obtain ⟨⟨z0, z1, z2, z3⟩, ⟨y0, y1, y2, y3⟩, hB⟩ := HX.out w1 hb1'; have n1 := (hb1'.cell (p := ⟨w.heap.size, 2, none⟩) hWz).trans n0; have HB : Hid (Below _ _ _) := hB; clear hb1 hb1' hB))
    all_goals go_wp2_with fail
    all_goals refine bodyPost_ret (v := .tuple #[vNull.val, .int .i64 ((0 : Nat) : Int), .bool nl]) (by simp [results, Tryz.results39, go_sem, z0, z1, z2, z3, Act.put]) rfl ?_
    all_goals exact RdP.mk vNull 0 nl rfl HF.out (set4 HB.out _ (by omega) _ _ _ _)
  by_cases h1 : c.kd = 1
  · by_cases h2 : bt = 1 ∨ bt = 2
    · rw [decA_bool h1 h2]
      obtain ⟨nm, kd, nl, ⟨dk, dn, df, ds⟩⟩ := c
      dsimp only at *
      unfold Cl.val
      dsimp only
      rcases h2 with rfl | rfl
      · go_enter Tryz.func39, Tryz.ntmps39
        go_wp2_with fail
        refine (CB.out _ _).mono ?_
        rintro e w1 ⟨rfl, hb1⟩
        obtain ⟨⟨z0, z1, z2, z3⟩, ⟨y0, y1, y2, y3⟩, hB⟩ := box2 w w1 _ _ rfl hb1
        go_wp2_with fail
        refine bodyPost_ret (v := .tuple #[(vBool false).val, .int .i64 ((0 : Nat) : Int), .bool true]) (by simp [results, Tryz.results39, go_sem, z0, z1, z2, z3]) rfl ?_
        exact RdP.yes (vBool false) 0 rfl (by simp) (set4 hB _ (by omega) _ _ _ _)
      · go_enter Tryz.func39, Tryz.ntmps39
        go_wp2_with fail
        refine (CB.out _ _).mono ?_
        rintro e w1 ⟨rfl, hb1⟩
        obtain ⟨⟨z0, z1, z2, z3⟩, ⟨y0, y1, y2, y3⟩, hB⟩ := box2 w w1 _ _ rfl hb1
        go_wp2_with fail
        refine bodyPost_ret (v := .tuple #[(vBool true).val, .int .i64 ((0 : Nat) : Int), .bool true]) (by simp [results, Tryz.results39, go_sem, z0, z1, z2, z3]) rfl ?_
        exact RdP.yes (vBool true) 0 rfl (by simp) (set4 hB _ (by omega) _ _ _ _)
    · rw [decA_bad h0 (.inl ⟨h1, by omega⟩)]
      have h3 : bt = 3 := by omega
      subst h3
      obtain ⟨nm, kd, nl, ⟨dk, dn, df, ds⟩⟩ := c
      dsimp only at *
      unfold Cl.val
      dsimp only
      go_enter Tryz.func39, Tryz.ntmps39
      go_wp2_with fail
      refine (CB.out _ _).mono ?_
      rintro e w1 ⟨rfl, hb1⟩
      obtain ⟨⟨z0, z1, z2, z3⟩, ⟨y0, y1, y2, y3⟩, hB⟩ := box2 w w1 _ _ rfl hb1
      go_wp2_with fail
      refine bodyPost_ret (v := .tuple #[(vBool false).val, .int .i64 ((0 : Nat) : Int), .bool false]) (by simp [results, Tryz.results39, go_sem, z0, z1, z2, z3]) rfl ?_
      exact RdP.no _ 0 rfl rfl (set4 hB _ (by omega) _ _ _ _)
  have hk1' : ¬ c.kd = 1 := h1
  by_cases h2 : 1 < bt
  · rw [decA_bad h0 (.inr ⟨h1, h2⟩)]
    obtain ⟨nm, kd, nl, ⟨dk, dn, df, ds⟩⟩ := c
    dsimp only at *
    unfold Cl.val
    dsimp only
    have e1 : ((bt : Int) == 0) = false := by simp; omega
    have e2 : ((bt : Int) != 1) = true := by simp; omega
    go_enter Tryz.func39, Tryz.ntmps39
    go_wp2_with fail
    refine bodyPost_ret (v := .tuple #[vNull.val, .int .i64 ((0 : Nat) : Int), .bool false]) (by simp [results, Tryz.results39, go_sem, vNull]) rfl ?_
    exact RdP.no vNull 0 rfl rfl (by go_grown)
  have h3 : bt = 1 := by omega
  subst h3
  by_cases hk2 : c.kd = 2
  · have C1 : Hid (∀ w1, Calls _ _ _ _ _) := fun w1 => readInt_any s w1 (by omega)
    rw [← decA_int (c := c) hk2] at C1
    generalize decA c 1 s = r at *
    obtain ⟨nm, kd, nl, ⟨dk, dn, df, ds⟩⟩ := c
    dsimp only at *
    unfold Cl.val
    dsimp only
    subst hk2
    go_enter Tryz.func39, Tryz.ntmps39
    go_wp2_with fail
    refine (C1.out _).mono ?_
    rintro e w1 ⟨⟨vk, vn, vf, vs⟩, k, b, rfl, hr, hb1⟩
    obtain ⟨⟨z0, z1, z2, z3⟩, ⟨y0, y1, y2, y3⟩, hB⟩ := box2 w w1 _ _ rfl hb1
    have HR : Hid _ := hr
    clear hr
    go_wp2_with fail
    refine bodyPost_ret (v := .tuple #[(⟨vk, vn, vf, vs⟩ : Vl).val, .int .i64 (k : Int), .bool b]) (by simp [results, Tryz.results39, go_sem, z0, z1, z2, z3]) rfl ?_
    exact RdP.mk _ k b rfl HR.out (set4 hB _ (by omega) _ _ _ _)
  by_cases hk3 : c.kd = 3
  · have C1 : Hid (∀ w1, Calls _ _ _ _ _) := fun w1 => readFloat_any s w1 (by omega)
    rw [← decA_flo (c := c) hk3] at C1
    generalize decA c 1 s = r at *
    obtain ⟨nm, kd, nl, ⟨dk, dn, df, ds⟩⟩ := c
    dsimp only at *
    unfold Cl.val
    dsimp only
    subst hk3
    go_enter Tryz.func39, Tryz.ntmps39
    go_wp2_with fail
    refine (C1.out _).mono ?_
    rintro e w1 ⟨⟨vk, vn, vf, vs⟩, k, b, rfl, hr, hb1⟩
    obtain ⟨⟨z0, z1, z2, z3⟩, ⟨y0, y1, y2, y3⟩, hB⟩ := box2 w w1 _ _ rfl hb1
    have HR : Hid _ := hr
    clear hr
    go_wp2_with fail
    refine bodyPost_ret (v := .tuple #[(⟨vk, vn, vf, vs⟩ : Vl).val, .int .i64 (k : Int), .bool b]) (by simp [results, Tryz.results39, go_sem, z0, z1, z2, z3]) rfl ?_
    exact RdP.mk _ k b rfl HR.out (set4 hB _ (by omega) _ _ _ _)
  have C1 : Hid (∀ w1, Below w.heap.size w w1 → Calls _ _ _ _ _) := fun w1 hb => readString_any c.kd s w1 hs (by omega) (HEn.out.on hb)
  rw [← decA_str (c := c) (by omega)] at C1
  generalize decA c 1 s = r at *
  obtain ⟨nm, kd, nl, ⟨dk, dn, df, ds⟩⟩ := c
  dsimp only at *
  unfold Cl.val
  dsimp only
  go_enter Tryz.func39, Tryz.ntmps39
  go_wp2_with fail
  refine (C1.out _ (by go_grown)).mono ?_
  rintro e w1 ⟨⟨vk, vn, vf, vs⟩, k, b, rfl, hr, hb1⟩
  obtain ⟨⟨z0, z1, z2, z3⟩, ⟨y0, y1, y2, y3⟩, hB⟩ := box2 w w1 _ _ rfl hb1
  have HR : Hid _ := hr
  clear hr
  go_wp2_with fail
  refine bodyPost_ret (v := .tuple #[(⟨vk, vn, vf, vs⟩ : Vl).val, .int .i64 (k : Int), .bool b]) (by simp [results, Tryz.results39, go_sem, z0, z1, z2, z3]) rfl ?_
  exact RdP.mk _ k b rfl HR.out (set4 hB _ (by omega) _ _ _ _)

end Go.Proofs.YtinlgaefgedmcaaGreatDoor

namespace Go.Proofs.YtinlgaefgedmcaaGreatDoor
open Go.RowKit
set_option maxRecDepth 100000

/-- a column's pair of bits -/
def pairB (s : ByteArray) (i : Nat) : Nat := (s.data.toList.getD (i / 4) 0).toNat / 2 ^ (2 * (i % 4)) % 4
theorem pairB_le (s : ByteArray) (i : Nat) : pairB s i ≤ 3 := by unfold pairB; omega
theorem pairB_at (s : ByteArray) (i : Nat) (h : i / 4 < s.size) : pairB s i = s[i / 4].toNat / 2 ^ (2 * (i % 4)) % 4 := by
  unfold pairB
  have e : s.data.toList.getD (i / 4) 0 = s[i / 4] := by
    have hj' : i / 4 < s.data.toList.length := by simpa using h
    rw [List.getD_eq_getElem?_getD, List.getElem?_eq_getElem hj']
    rfl
  rw [e]

set_option maxHeartbeats 4000000 in
theorem pairAt_any (s : ByteArray) (i : Nat) (w : World) (h : i / 4 < s.size) (hi : i ≤ 1024) :
    Calls Tryz.prog 40 #[.string s, .int .i64 (i : Int)] w fun e w' => e = .returned (.int .u8 ((pairB s i : Nat) : Int)) ∧ Below w.heap.size w w' := by
  have C1 : Hid (∀ w1, Calls _ _ _ _ _) := fun w1 => shift_any i w1 (by omega)
  rw [pairB_at s i h]
  have hix : ∀ w1 : World, (Instr.index 9 (.string s) (.int .i64 ((i / 4 : Nat) : Int))).run Tryz.prog w1 = .ok (.int .u8 (s[i / 4].toNat : Int)) w1 := fun w1 => idx_at s (i / 4) h w1
  have htd : (i : Int) / 4 = ((i / 4 : Nat) : Int) := rfl
  generalize hq : i / 4 = q at *
  have hwq : IntKind.i64.wrap (q : Int) = (q : Int) := by rw [IntKind.wrap_i64]; (try unfold wrap64); omega
  have hcl : s[q].toNat < 256 := s[q].toNat_lt
  generalize hc : s[q].toNat = c at *
  have hsh : 2 * (i % 4) ≤ 6 := by omega
  generalize 2 * (i % 4) = sh at *
  go_enter Tryz.func40, Tryz.ntmps40
  go_wp2_with fail
  go_quiet (first | (go_at_call 48; exact Calls.quiet_of_same (C1.out _)))
  go_wp2_with fail
  go_ret
  refine ⟨congrArg Ending.returned (congrArg (Value.int IntKind.u8) ?_), below_drewN _ _⟩
  have e : (c : Int) / 2 ^ sh = ((c / 2 ^ sh : Nat) : Int) := by norm_cast
  have hlt : c / 2 ^ sh < 256 := Nat.lt_of_le_of_lt (Nat.div_le_self _ _) hcl
  have h1 := u8_and_nat (c / 2 ^ sh) 3 hlt (by decide)
  rw [show ((3 : Nat) : Int) = 3 from rfl] at h1
  rw [e, h1]
  congr 1
  exact Nat.and_two_pow_sub_one_eq_mod (c / 2 ^ sh) 2

/-- no pair but those of the columns has a bit -/
def spB (s : ByteArray) (n m : Nat) : Bool := (List.range m).all fun i => decide (i < n) || decide (pairB s i = 0)
theorem spB_yes {s : ByteArray} {n m : Nat} (h : ∀ i, n ≤ i → i < m → pairB s i = 0) : spB s n m = true := by
  unfold spB
  rw [List.all_eq_true]
  intro i hi
  have hi' := List.mem_range.1 hi
  simp only [Bool.or_eq_true, decide_eq_true_eq]
  rcases Nat.lt_or_ge i n with h1 | h1
  · exact .inl h1
  · exact .inr (h i h1 hi')
theorem spB_no {s : ByteArray} {n m i : Nat} (h1 : n ≤ i) (h2 : i < m) (h : pairB s i ≠ 0) : spB s n m = false := by
  rw [← Bool.not_eq_true]
  intro ht
  unfold spB at ht
  rw [List.all_eq_true] at ht
  have := ht i (List.mem_range.2 h2)
  simp only [Bool.or_eq_true, decide_eq_true_eq] at this
  omega
theorem pairB_ext (s : ByteArray) (i m : Nat) (h : i / 4 < m) (hm : m ≤ s.size) : pairB (s.extract 0 m) i = pairB s i := by
  rw [pairB_at _ _ (by rw [ByteArray.size_extract]; omega), pairB_at _ _ (by omega)]
  congr 2
  rw [ByteArray.getElem_extract]
  simp

set_option maxHeartbeats 4000000 in
theorem spare_any (s : ByteArray) (n : Nat) (w : World) (hs : s.size ≤ 64) (hn : n ≤ 4 * s.size) :
    Calls Tryz.prog 38 #[.string s, .int .i64 (n : Int)] w fun e w' => e = .returned (.bool (spB s n (4 * s.size))) ∧ Below w.heap.size w w' := by
  have C1 : Hid (∀ (j : Nat) w1, j < 4 * s.size → Calls _ _ _ _ _) := fun j w1 h => pairAt_any s j w1 (by omega) (by omega)
  have HY : Hid ((∀ i, n ≤ i → i < 4 * s.size → pairB s i = 0) → spB s n (4 * s.size) = true) := spB_yes
  have HN : Hid (∀ i, n ≤ i → i < 4 * s.size → pairB s i ≠ 0 → spB s n (4 * s.size) = false) := fun i h1 h2 h3 => spB_no h1 h2 h3
  generalize spB s n (4 * s.size) = d at *
  go_enter Tryz.func38, Tryz.ntmps38
  go_wp2_with fail
  go_loopw [5] (fun i wr => ∃ j : Nat, n ≤ j ∧ j ≤ 4 * s.size ∧ i = .int .i64 (j : Int) ∧ Hid (∀ i, n ≤ i → i < j → pairB s i = 0) ∧ Hid (Below w.heap.size w wr)) (fun i _ => 4 * s.size - (intOf i).toNat)
  case atStart => exact ⟨n, Nat.le_refl _, hn, rfl, (fun i h1 h2 => by omega), Below.refl _ _⟩
  case round =>
    obtain ⟨j, hj1, hj2, rfl, hI, hB⟩ := hrel
    by_cases hj0 : j = 4 * s.size
    · have hd := HY.out (fun i h1 h2 => hI.out i h1 (by omega))
      subst hd
      have hlt : ¬ ((j : Int) < 4 * (s.size : Int)) := by omega
      go_wp2_with fail
      go_ret
      exact ⟨rfl, hB.out⟩
    · have hlt : ((j : Int) < 4 * (s.size : Int)) := by omega
      have C2 : Hid (Calls _ _ _ _ _) := C1.out j wr (by omega)
      by_cases hp : pairB s j = 0
      · rw [hp] at C2
        have hI2 : Hid (∀ i, n ≤ i → i < j + 1 → pairB s i = 0) := fun i h1 h2 => by
          rcases Nat.lt_or_ge i j with h3 | h3
          · exact hI.out i h1 h3
          · have : i = j := by omega
            rw [this]
            exact hp
        go_wp2_with fail
        refine C2.out.mono ?_
        rintro e w2 ⟨rfl, hb2⟩
        have HB2 : Hid (Below _ _ _) := hB.out.trans (hb2.mono hB.out.size)
        go_wp2_with fail
        go_roundw
        case rel => exact ⟨j + 1, by omega, by omega, by go_num, hI2, HB2⟩
        case measure => simp [intOf]; omega
      · have hd := HN.out j hj1 (by omega) hp
        subst hd
        have hpb : ((pairB s j : Int) != 0) = true := by simp; omega
        generalize pairB s j = pb at *
        go_wp2_with fail
        refine C2.out.mono ?_
        rintro e w2 ⟨rfl, hb2⟩
        have HB2 : Hid (Below _ _ _) := hB.out.trans (hb2.mono hB.out.size)
        go_wp2_with fail
        go_ret
        exact ⟨rfl, HB2.out⟩

end Go.Proofs.YtinlgaefgedmcaaGreatDoor
