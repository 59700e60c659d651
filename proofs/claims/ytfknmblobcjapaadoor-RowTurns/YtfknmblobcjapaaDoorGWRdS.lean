/- The walk of readString. The walk of readValue. The walk of readValue. -/
import Derived.Deep.RegionWith
import Derived.Test.YtfknmblobcjapaaDoorGMDecV
namespace Go.Proofs.YtfknmblobcjapaaDoor
open Go.RowKit
set_option maxRecDepth 100000

/-- a text or bytes of a row -/
def strD (kd : Int) (s : ByteArray) : Option (Vl × Nat) :=
  if (rdV s).2 = 0 then none
  else if s.size - (rdV s).2 < (rdV s).1 then none
  else if (⟨kd, 0, 0, s.extract (rdV s).2 ((rdV s).2 + (rdV s).1)⟩ : Vl).chk = 0 then some (⟨kd, 0, 0, s.extract (rdV s).2 ((rdV s).2 + (rdV s).1)⟩, (rdV s).2 + (rdV s).1) else none
theorem strD_no {kd : Int} {s : ByteArray} (h : (rdV s).2 = 0) : strD kd s = none := by unfold strD; rw [if_pos h]
theorem strD_long {kd : Int} {s : ByteArray} {n k : Nat} (h : rdV s = (n, k)) (hk : 0 < k) (hl : s.size - k < n) : strD kd s = none := by unfold strD; rw [h]; dsimp only; rw [if_neg (by omega), if_pos hl]
theorem strD_yes {kd : Int} {s : ByteArray} {n k : Nat} (h : rdV s = (n, k)) (hk : 0 < k) (hl : ¬ s.size - k < n) : strD kd s = if (⟨kd, 0, 0, s.extract k (k + n)⟩ : Vl).chk = 0 then some (⟨kd, 0, 0, s.extract k (k + n)⟩, k + n) else none := by unfold strD; rw [h]; dsimp only; rw [if_neg (by omega), if_neg hl]
theorem slice_mid (s : ByteArray) (a b : Nat) (hab : a ≤ b) (hb : b ≤ s.size) (w : World) : (Instr.slice 9 (.string s) (some (.int .i64 (a : Int))) (some (.int .i64 (b : Int))) none).run Tryd.prog w = .ok (.string (s.extract a b)) w := by
  rw [run_slice_string w 9 s .i64 .i64 (a : Int) (b : Int) Tryd.underlying9 (by omega) (by omega) (by omega)]
  rfl

set_option maxHeartbeats 4000000 in
theorem readString_any (kd : Int) (s : ByteArray) (w : World) (hs : s.size ≤ 65536) (hkd : -9223372036854775808 ≤ kd ∧ kd ≤ 9223372036854775807) (hE : Env w) :
    Calls Tryd.prog 49 #[.int .i64 kd, .string s] w (RdP (strD kd s) w) := by
  have hsf := run_store_float
  have HQ1 : Hid ((rdV s).2 = 0 → strD kd s = none) := strD_no
  have HQ2 : Hid (∀ n k, rdV s = (n, k) → 0 < k → s.size - k < n → strD kd s = none) := fun n k => strD_long
  have HQ3 : Hid (∀ n k, rdV s = (n, k) → 0 < k → ¬ s.size - k < n → strD kd s = if (⟨kd, 0, 0, s.extract k (k + n)⟩ : Vl).chk = 0 then some (⟨kd, 0, 0, s.extract k (k + n)⟩, k + n) else none) := fun n k => strD_yes
  have HL : Hid ((rdV s).2 ≤ s.size) := rdV_le s
  generalize strD kd s = r at *
  have C1 : Hid (∀ w1, Calls _ _ _ _ _) := fun w1 => readVarint_any s w1 (by omega)
  have HEn : Hid (Env w) := hE
  clear hE
  go_enter Tryd.func49, Tryd.ntmps49
  go_wp2_with fail
  refine (C1.out _).mono ?_
  rintro e w1 ⟨n, k, b, rfl, hn, hr, hw⟩
  rw [hw]
  clear hw w1
  rcases hr with ⟨rfl, h1, h2⟩ | ⟨rfl, h1⟩
  · have hk : k ≤ s.size := by have := HL.out; rw [h1] at this; exact this
    by_cases hlt : s.size - k < n
    · have HR := HQ2.out n k h1 h2 hlt
      have hlt' : (s.size : Int) - (k : Int) < (n : Int) := by omega
      go_wp2_with fail
      refine bodyPost_ret (v := .tuple #[vNull.val, .int .i64 ((0 : Nat) : Int), .bool false]) (by simp [results, Tryd.results49, go_sem, vNull]) rfl ?_
      exact RdP.no vNull 0 rfl HR (by go_grown)
    · have HR : Hid _ := HQ3.out n k h1 h2 hlt
      have hlt' : ¬ (s.size : Int) - (k : Int) < (n : Int) := by omega
      have hsl : ∀ w1 : World, (Instr.slice 9 (.string s) (some (.int .i64 (k : Int))) (some (.int .i64 ((k : Int) + (n : Int)))) none).run Tryd.prog w1 = .ok (.string (s.extract k (k + n))) w1 := fun w1 => by
        have := slice_mid s k (k + n) (by omega) (by omega) w1
        push_cast at this
        exact this
      have hxs : (s.extract k (k + n)).size ≤ 65536 := by rw [ByteArray.size_extract]; omega
      generalize s.extract k (k + n) = x at *
      have C2 : Hid (∀ w1, Calls _ _ _ _ _) := fun w1 => clone_any x w1 (by omega)
      clear HQ1 HQ2 HQ3 HL C1
      go_wp2_with fail
      refine (C2.out _).mono ?_
      rintro e w2 ⟨rfl, hb2⟩
      have hz2 : w.heap.size < w2.heap.size := by have := hb2.size; simp at this; omega
      have HB2 : Hid (Below w.heap.size w w2) := newV w w2 _ hb2
      obtain ⟨⟨z0, z1, z2, z3⟩, y0, y1, y2, y3⟩ := vz w w2 _ rfl hb2
      clear hb2
      go_wp2_with fail
      obtain ⟨h, hh⟩ : ∃ h, h = w2.heap.size := ⟨_, rfl⟩
      have C3 : Hid (∀ w1 : World, Below w.heap.size w w1 → Calls Tryd.prog 44 #[.agg #[.int .i64 kd, .int .i64 0, .float .f64 0, .string x]] w1 fun e w' => e = .returned (.int .i64 (⟨kd, 0, 0, x⟩ : Vl).chk) ∧ Below w1.heap.size w1 w') := fun w1 hb => check_ok ⟨kd, 0, 0, x⟩ w1 ⟨hkd, ⟨by dsimp only; omega, by dsimp only; omega⟩, by dsimp only; omega, by dsimp only; omega⟩ (HEn.out.on hb).hg (HEn.out.on hb).hT
      obtain ⟨w3, hw3⟩ : ∃ w3, w3 = w2.alloc (Obj.cells #[Value.int IntKind.i64 kd, Value.int IntKind.i64 0, Value.float FloatKind.f64 0, Value.string x] 44) := ⟨_, rfl⟩
      have HB3 : Hid (Below w.heap.size w w3) := by rw [hw3]; exact HB2.out.alloc (by omega) _
      have hz3 : h < w3.heap.size := by rw [hw3, hh]; simp
      have hg3 : w.heap.size < w3.heap.size := by rw [hw3]; simp; omega
      have q0 : w3.cell? ⟨h, 0, none⟩ = some (.int .i64 kd) := by rw [hw3, hh, World.cell?_alloc_new]; rfl
      have q1 : w3.cell? ⟨h, 1, none⟩ = some (.int .i64 0) := by rw [hw3, hh, World.cell?_alloc_new]; rfl
      have q2 : w3.cell? ⟨h, 2, none⟩ = some (.float .f64 0) := by rw [hw3, hh, World.cell?_alloc_new]; rfl
      have q3 : w3.cell? ⟨h, 3, none⟩ = some (.string x) := by rw [hw3, hh, World.cell?_alloc_new]; rfl
      have ac : ∀ i, w3.cell? ⟨w.heap.size, i, none⟩ = w2.cell? ⟨w.heap.size, i, none⟩ := fun i => by rw [hw3]; exact World.cell?_of_block (Below.heap_alloc _ _ _ hz2)
      have af : ∀ i, w3.frozen? ⟨w.heap.size, i, none⟩ = w2.frozen? ⟨w.heap.size, i, none⟩ := fun i => by rw [hw3]; exact World.frozen?_of_block (Below.heap_alloc _ _ _ hz2)
      have x0 := (ac 0).trans z0
      have x1 := (ac 1).trans z1
      have x2 := (ac 2).trans z2
      have x3 := (ac 3).trans z3
      have u0 := (af 0).trans y0
      have u1 := (af 1).trans y1
      have u2 := (af 2).trans y2
      have u3 := (af 3).trans y3
      have hne : h ≠ w.heap.size := by omega
      rw [← hh, ← hw3]
      have HX : Hid ((⟨kd, 0, 0, x⟩ : Vl).chk = (⟨kd, 0, 0, x⟩ : Vl).chk) := rfl
      generalize (⟨kd, 0, 0, x⟩ : Vl).chk = ch at *
      clear hw3 ac af z0 z1 z2 z3 y0 y1 y2 y3 HB2 hz2 hh C2 HX hsl
      generalize hgz : w.heap.size = g at *
      have HSz : Hid (g = w.heap.size) := hgz.symm
      clear hgz
      go_region_with (first | (go_at_call 44; refine (C3.out _ ?_).mono ?_; (first | exact HB3.out.drew | exact set4 HB3.out.drew _ (Nat.le_refl _) _ _ _ _); rintro e w5 ⟨rfl, hb5⟩; obtain ⟨f1, f2⟩ := bcell hb5; have a0 := (f1 g 0 hg3).trans x0; have a1 := (f1 g 1 hg3).trans x1; have a2 := (f1 g 2 hg3).trans x2; have a3 := (f1 g 3 hg3).trans x3; have b0 := (f2 g 0 hg3).trans u0; have b1 := (f2 g 1 hg3).trans u1; have b2 := (f2 g 2 hg3).trans u2; have b3 := (f2 g 3 hg3).trans u3; have l0 := (f1 h 0 hz3).trans q0; have l1 := (f1 h 1 hz3).trans q1; have l2 := (f1 h 2 hz3).trans q2; have l3 := (f1 h 3 hz3).trans q3; have HB5 : Hid (Below g w w5) := HB3.out.drew.trans (hb5.mono (by have := hg3; simp; omega)); clear f1 f2 hb5))
      all_goals go_wp2_with fail
      all_goals refine bodyPost_ret (v := .tuple #[(⟨kd, 0, 0, x⟩ : Vl).val, .int .i64 ((k : Int) + (n : Int)), .bool (ch == 0)]) (by simp [results, Tryd.results49, go_sem, a0, a1, a2, a3, Act.put]) rfl ?_
      all_goals refine RdP.mk ⟨kd, 0, 0, x⟩ (k + n) (ch == 0) (by push_cast; rfl) ?_ (by have hS := HSz.out; rw [hS] at HB5 ⊢; first | exact set4 HB5.out _ (Nat.le_refl _) _ _ _ _ | exact (set4 HB5.out _ (Nat.le_refl _) _ _ _ _).drew)
      all_goals (
        have hr := HR.out
        by_cases hc : ch = 0
        · rw [if_pos hc] at hr
          exact .inl ⟨by simp [hc], hr⟩
        · rw [if_neg hc] at hr
          exact .inr ⟨by simp [hc], hr⟩)
  · have HR := HQ1.out h1
    go_wp2_with fail
    refine bodyPost_ret (v := .tuple #[vNull.val, .int .i64 ((0 : Nat) : Int), .bool false]) (by simp [results, Tryd.results49, go_sem, vNull]) rfl ?_
    exact RdP.no vNull 0 rfl HR (by go_grown)

end Go.Proofs.YtfknmblobcjapaaDoor

namespace Go.Proofs.YtfknmblobcjapaaDoor
open Go.RowKit
set_option maxRecDepth 100000

theorem chk_null : vNull.chk = 0 := by decide +kernel
theorem chk_int (n : Int) : (vInt n).chk = 0 := by
  have e : ByteArray.toList ⟨#[]⟩ = [] := by decide +kernel
  have e2 : ByteArray.size ⟨#[]⟩ = 0 := rfl
  simp [vInt, Vl.chk, chkV, kindB, numB, floB, strB, e, e2]
theorem chk_flo (f : Nat) : (vFlo f).chk = 0 := by
  have e : ByteArray.toList ⟨#[]⟩ = [] := by decide +kernel
  have e2 : ByteArray.size ⟨#[]⟩ = 0 := rfl
  simp [vFlo, Vl.chk, chkV, kindB, numB, floB, strB, e, e2]
theorem chk_bool (b : Bool) : (vBool b).chk = 0 := by cases b <;> decide +kernel

theorem decA_null (c : Cl) (s : ByteArray) : decA c 0 s = if c.nl then some (vNull, 0) else none := by
  unfold decA decV
  rw [if_pos rfl]
  dsimp only
  unfold admE
  rw [if_pos chk_null, if_pos (show vNull.k = 0 from rfl)]
  cases c.nl <;> simp
theorem decA_bool {c : Cl} {bt : Nat} {s : ByteArray} (h : c.kd = 1) (h0 : bt = 1 ∨ bt = 2) : decA c bt s = some (vBool (decide (bt = 2)), 0) := by
  unfold decA decV
  rw [if_neg (by omega), if_pos ⟨h, by omega⟩]
  have e : (⟨1, (bt : Int) - 1, 0, ⟨#[]⟩⟩ : Vl) = vBool (decide (bt = 2)) := by
    rcases h0 with rfl | rfl <;> rfl
  dsimp only
  rw [e]
  have ha : admE c (vBool (decide (bt = 2))) = 0 := by
    unfold admE
    rw [if_pos (chk_bool _), if_neg (show ¬ (vBool (decide (bt = 2))).k = 0 from (show ¬ (1 : Int) = 0 by decide)), if_pos (by rw [h]; rfl)]
  rw [if_pos ha]
theorem decA_bad {c : Cl} {bt : Nat} {s : ByteArray} (h0 : bt ≠ 0) (h : c.kd = 1 ∧ 3 ≤ bt ∨ c.kd ≠ 1 ∧ 1 < bt) : decA c bt s = none := by
  unfold decA decV
  rw [if_neg h0, if_neg (by omega), if_pos (by omega)]
theorem decA_int {c : Cl} {s : ByteArray} (h : c.kd = 2) : decA c 1 s = if (rdV s).2 = 0 then none else some (vInt (unz (rdV s).1), (rdV s).2) := by
  unfold decA decV
  rw [if_neg (by decide), if_neg (by omega), if_neg (by decide), if_neg (by omega)]
  by_cases h0 : (rdV s).2 = 0
  · rw [if_pos h0, if_pos h0]
  · rw [if_neg h0, if_neg h0, if_pos h]
    have ha : admE c (vInt (unz (rdV s).1)) = 0 := by
      unfold admE
      rw [if_pos (chk_int _), if_neg (by unfold vInt; dsimp only; decide), if_pos (by rw [h]; rfl)]
    dsimp only
    rw [if_pos ha]
theorem decA_flo {c : Cl} {s : ByteArray} (h : c.kd = 3) : decA c 1 s = if s.size < 8 then none else some (vFlo (leN s 8), 8) := by
  unfold decA decV
  rw [if_neg (by decide), if_neg (by omega), if_neg (by decide), if_pos h]
  by_cases h0 : s.size < 8
  · rw [if_pos h0]
  · rw [if_neg h0]
    have ha : admE c (vFlo (leN s 8)) = 0 := by
      unfold admE
      rw [if_pos (chk_flo _), if_neg (by unfold vFlo; dsimp only; decide), if_pos (by rw [h]; rfl)]
    dsimp only
    rw [if_pos ha]
theorem decA_str {c : Cl} {s : ByteArray} (h : c.kd = 4 ∨ c.kd = 5) : decA c 1 s = strD c.kd s := by
  unfold decA decV strD
  rw [if_neg (by decide), if_neg (by omega), if_neg (by decide), if_neg (by omega)]
  by_cases h0 : (rdV s).2 = 0
  · rw [if_pos h0, if_pos h0]
  · rw [if_neg h0, if_neg h0, if_neg (by omega)]
    by_cases h1 : s.size - (rdV s).2 < (rdV s).1
    · rw [if_pos h1, if_pos h1]
    · rw [if_neg h1, if_neg h1]
      have ha : ∀ v : Vl, v.k = c.kd → admE c v = v.chk := by
        intro v hv
        unfold admE
        by_cases h2 : v.chk = 0
        · rw [if_pos h2, if_neg (by omega), if_pos hv, h2]
        · rw [if_neg h2]
      dsimp only
      rw [ha _ rfl]

end Go.Proofs.YtfknmblobcjapaaDoor

namespace Go.Proofs.YtfknmblobcjapaaDoor
open Go.RowKit
set_option maxRecDepth 100000

/-- the blocks that readValue lays at first: the column, the value that it tells -/
theorem box2 (w w1 : World) (o z : Obj) (hz : z = .cells #[.int .i64 0, .int .i64 0, .float .f64 0, .string ⟨#[]⟩] 44) (hb : Below ((w.alloc o).alloc z).heap.size ((w.alloc o).alloc z) w1) :
    (w1.cell? ⟨w.heap.size + 1, 0, none⟩ = some (.int .i64 0) ∧ w1.cell? ⟨w.heap.size + 1, 1, none⟩ = some (.int .i64 0) ∧ w1.cell? ⟨w.heap.size + 1, 2, none⟩ = some (.float .f64 0) ∧ w1.cell? ⟨w.heap.size + 1, 3, none⟩ = some (.string ⟨#[]⟩)) ∧
    (w1.frozen? ⟨w.heap.size + 1, 0, none⟩ = false ∧ w1.frozen? ⟨w.heap.size + 1, 1, none⟩ = false ∧ w1.frozen? ⟨w.heap.size + 1, 2, none⟩ = false ∧ w1.frozen? ⟨w.heap.size + 1, 3, none⟩ = false) ∧ Below w.heap.size w w1 := by
  have h := vz (w.alloc o) w1 z hz hb
  have e : (w.alloc o).heap.size = w.heap.size + 1 := by simp
  rw [e] at h
  exact ⟨h.1, h.2, (((Below.refl _ _).alloc (Nat.le_refl _) _).alloc (by simp) _).trans (hb.mono (by simp; omega))⟩

set_option maxHeartbeats 4000000 in
theorem readValue_any (c : Cl) (bt : Nat) (s : ByteArray) (w : World) (hs : s.size ≤ 65536) (hbt : bt ≤ 3) (hk1 : 1 ≤ c.kd) (hk5 : c.kd ≤ 5) (hE : Env w) :
    Calls Tryd.prog 38 #[c.val, .int .u8 (bt : Int), .string s] w (RdP (decA c bt s) w) := by
  have hsf := run_store_float
  have HEn : Hid (Env w) := hE
  have CN : Hid (∀ w1, Calls _ _ _ _ _) := litNull_any
  have CB : Hid (∀ b w1, Calls _ _ _ _ _) := litBool_any
  clear hE
  by_cases h0 : bt = 0
  · subst h0
    rw [decA_null]
    obtain ⟨nm, kd, nl, ⟨dk, dn, df, ds⟩⟩ := c
    dsimp only at *
    unfold Cl.val
    dsimp only
    have HF : Hid ((nl = true ∧ (if nl = true then some (vNull, 0) else none) = some (vNull, 0)) ∨ (nl = false ∧ (if nl = true then some (vNull, 0) else none) = (none : Option (Vl × Nat)))) := by cases nl <;> simp [Hid]
    generalize (if nl = true then some (vNull, 0) else none) = r at *
    have hbx := fun (w1 : World) (o : Obj) => box2 w w1 o _ rfl
    go_enter Tryd.func38, Tryd.ntmps38
    go_wp2_with fail
    obtain ⟨o, ho⟩ : ∃ o, o = Obj.cells #[Value.string nm, Value.int IntKind.i64 kd, Value.bool nl, Value.int IntKind.i64 dk, Value.int IntKind.i64 dn, Value.float FloatKind.f64 df, Value.string ds] 66 := ⟨_, rfl⟩
    obtain ⟨W, hW⟩ : ∃ W, W = (w.alloc o).alloc (.cells #[.int .i64 0, .int .i64 0, .float .f64 0, .string ⟨#[]⟩] 44) := ⟨_, rfl⟩
    have HX : Hid (∀ w1, Below W.heap.size W w1 → _) := fun w1 hb => hbx w1 o (by rw [← hW]; exact hb)
    have n0 : W.cell? ⟨w.heap.size, 2, none⟩ = some (.bool nl) := by rw [hW, World.cell?_of_block (w := w.alloc o) (Below.heap_alloc _ _ _ (by simp)), ho, World.cell?_alloc_new]; rfl
    have hWz : w.heap.size < W.heap.size := by rw [hW]; simp; omega
    rw [← ho, ← hW]
    clear hbx ho hW
    go_region_with (first | (go_at_call 45; refine (CN.out _).mono ?_; rintro e w1 ⟨rfl, hb1⟩; have hb1' : Below W.heap.size W w1 := ⟨hb1.os, hb1.tape, hb1.output, hb1.size, hb1.block⟩; obtain ⟨⟨z0, z1, z2, z3⟩, ⟨y0, y1, y2, y3⟩, hB⟩ := HX.out w1 hb1'; have n1 := (hb1'.cell (p := ⟨w.heap.size, 2, none⟩) hWz).trans n0; have HB : Hid (Below _ _ _) := hB; clear hb1 hb1' hB))
    all_goals go_wp2_with fail
    all_goals refine bodyPost_ret (v := .tuple #[vNull.val, .int .i64 ((0 : Nat) : Int), .bool nl]) (by simp [results, Tryd.results38, go_sem, z0, z1, z2, z3, Act.put]) rfl ?_
    all_goals exact RdP.mk vNull 0 nl rfl HF.out (set4 HB.out _ (by omega) _ _ _ _)
  by_cases h1 : c.kd = 1
  · by_cases h2 : bt = 1 ∨ bt = 2
    · rw [decA_bool h1 h2]
      obtain ⟨nm, kd, nl, ⟨dk, dn, df, ds⟩⟩ := c
      dsimp only at *
      unfold Cl.val
      dsimp only
      rcases h2 with rfl | rfl
      · go_enter Tryd.func38, Tryd.ntmps38
        go_wp2_with fail
        refine (CB.out _ _).mono ?_
        rintro e w1 ⟨rfl, hb1⟩
        obtain ⟨⟨z0, z1, z2, z3⟩, ⟨y0, y1, y2, y3⟩, hB⟩ := box2 w w1 _ _ rfl hb1
        go_wp2_with fail
        refine bodyPost_ret (v := .tuple #[(vBool false).val, .int .i64 ((0 : Nat) : Int), .bool true]) (by simp [results, Tryd.results38, go_sem, z0, z1, z2, z3]) rfl ?_
        exact RdP.yes (vBool false) 0 rfl (by simp) (set4 hB _ (by omega) _ _ _ _)
      · go_enter Tryd.func38, Tryd.ntmps38
        go_wp2_with fail
        refine (CB.out _ _).mono ?_
        rintro e w1 ⟨rfl, hb1⟩
        obtain ⟨⟨z0, z1, z2, z3⟩, ⟨y0, y1, y2, y3⟩, hB⟩ := box2 w w1 _ _ rfl hb1
        go_wp2_with fail
        refine bodyPost_ret (v := .tuple #[(vBool true).val, .int .i64 ((0 : Nat) : Int), .bool true]) (by simp [results, Tryd.results38, go_sem, z0, z1, z2, z3]) rfl ?_
        exact RdP.yes (vBool true) 0 rfl (by simp) (set4 hB _ (by omega) _ _ _ _)
    · rw [decA_bad h0 (.inl ⟨h1, by omega⟩)]
      have h3 : bt = 3 := by omega
      subst h3
      obtain ⟨nm, kd, nl, ⟨dk, dn, df, ds⟩⟩ := c
      dsimp only at *
      unfold Cl.val
      dsimp only
      go_enter Tryd.func38, Tryd.ntmps38
      go_wp2_with fail
      refine (CB.out _ _).mono ?_
      rintro e w1 ⟨rfl, hb1⟩
      obtain ⟨⟨z0, z1, z2, z3⟩, ⟨y0, y1, y2, y3⟩, hB⟩ := box2 w w1 _ _ rfl hb1
      go_wp2_with fail
      refine bodyPost_ret (v := .tuple #[(vBool false).val, .int .i64 ((0 : Nat) : Int), .bool false]) (by simp [results, Tryd.results38, go_sem, z0, z1, z2, z3]) rfl ?_
      exact RdP.no _ 0 rfl rfl (set4 hB _ (by omega) _ _ _ _)
  have hk1' : ¬ c.kd = 1 := h1
  by_cases h2 : 1 < bt
  · rw [decA_bad h0 (.inr ⟨h1, h2⟩)]
    obtain ⟨nm, kd, nl, ⟨dk, dn, df, ds⟩⟩ := c
    dsimp only at *
    unfold Cl.val
    dsimp only
    have e1 : ((bt : Int) == 0) = false := by simp; omega
    have e2 : ((bt : Int) != 1) = true := by simp; omega
    go_enter Tryd.func38, Tryd.ntmps38
    go_wp2_with fail
    refine bodyPost_ret (v := .tuple #[vNull.val, .int .i64 ((0 : Nat) : Int), .bool false]) (by simp [results, Tryd.results38, go_sem, vNull]) rfl ?_
    exact RdP.no vNull 0 rfl rfl (by go_grown)
  have h3 : bt = 1 := by omega
  subst h3
  by_cases hk2 : c.kd = 2
  · have C1 : Hid (∀ w1, Calls _ _ _ _ _) := fun w1 => readInt_any s w1 (by omega)
    rw [← decA_int (c := c) hk2] at C1
    generalize decA c 1 s = r at *
    obtain ⟨nm, kd, nl, ⟨dk, dn, df, ds⟩⟩ := c
    dsimp only at *
    unfold Cl.val
    dsimp only
    subst hk2
    go_enter Tryd.func38, Tryd.ntmps38
    go_wp2_with fail
    refine (C1.out _).mono ?_
    rintro e w1 ⟨⟨vk, vn, vf, vs⟩, k, b, rfl, hr, hb1⟩
    obtain ⟨⟨z0, z1, z2, z3⟩, ⟨y0, y1, y2, y3⟩, hB⟩ := box2 w w1 _ _ rfl hb1
    have HR : Hid _ := hr
    clear hr
    go_wp2_with fail
    refine bodyPost_ret (v := .tuple #[(⟨vk, vn, vf, vs⟩ : Vl).val, .int .i64 (k : Int), .bool b]) (by simp [results, Tryd.results38, go_sem, z0, z1, z2, z3]) rfl ?_
    exact RdP.mk _ k b rfl HR.out (set4 hB _ (by omega) _ _ _ _)
  by_cases hk3 : c.kd = 3
  · have C1 : Hid (∀ w1, Calls _ _ _ _ _) := fun w1 => readFloat_any s w1 (by omega)
    rw [← decA_flo (c := c) hk3] at C1
    generalize decA c 1 s = r at *
    obtain ⟨nm, kd, nl, ⟨dk, dn, df, ds⟩⟩ := c
    dsimp only at *
    unfold Cl.val
    dsimp only
    subst hk3
    go_enter Tryd.func38, Tryd.ntmps38
    go_wp2_with fail
    refine (C1.out _).mono ?_
    rintro e w1 ⟨⟨vk, vn, vf, vs⟩, k, b, rfl, hr, hb1⟩
    obtain ⟨⟨z0, z1, z2, z3⟩, ⟨y0, y1, y2, y3⟩, hB⟩ := box2 w w1 _ _ rfl hb1
    have HR : Hid _ := hr
    clear hr
    go_wp2_with fail
    refine bodyPost_ret (v := .tuple #[(⟨vk, vn, vf, vs⟩ : Vl).val, .int .i64 (k : Int), .bool b]) (by simp [results, Tryd.results38, go_sem, z0, z1, z2, z3]) rfl ?_
    exact RdP.mk _ k b rfl HR.out (set4 hB _ (by omega) _ _ _ _)
  have C1 : Hid (∀ w1, Below w.heap.size w w1 → Calls _ _ _ _ _) := fun w1 hb => readString_any c.kd s w1 hs (by omega) (HEn.out.on hb)
  rw [← decA_str (c := c) (by omega)] at C1
  generalize decA c 1 s = r at *
  obtain ⟨nm, kd, nl, ⟨dk, dn, df, ds⟩⟩ := c
  dsimp only at *
  unfold Cl.val
  dsimp only
  go_enter Tryd.func38, Tryd.ntmps38
  go_wp2_with fail
  refine (C1.out _ (by go_grown)).mono ?_
  rintro e w1 ⟨⟨vk, vn, vf, vs⟩, k, b, rfl, hr, hb1⟩
  obtain ⟨⟨z0, z1, z2, z3⟩, ⟨y0, y1, y2, y3⟩, hB⟩ := box2 w w1 _ _ rfl hb1
  have HR : Hid _ := hr
  clear hr
  go_wp2_with fail
  refine bodyPost_ret (v := .tuple #[(⟨vk, vn, vf, vs⟩ : Vl).val, .int .i64 (k : Int), .bool b]) (by simp [results, Tryd.results38, go_sem, z0, z1, z2, z3]) rfl ?_
  exact RdP.mk _ k b rfl HR.out (set4 hB _ (by omega) _ _ _ _)

end Go.Proofs.YtfknmblobcjapaaDoor
