/- The walks of Admits, on both sides. The walk of Print at the small table. -/
import Derived.Test.YthbjheiogghjnaaGreatDoorGWRow
import Derived.Test.YthbjheiogghjnaaGreatDoorGWPrint
namespace Go.Proofs.YthbjheiogghjnaaGreatDoor
open Go.RowKit
set_option maxRecDepth 100000

/-- why a row may not be one of a table -/
def admS (t : Tb) (l : List Vl) : Int := if checkS t = 0 then (if l.length = t.cs.length then firstE (admsE t.cs l) t.cs.length else 1) else checkS t
theorem checkS_counts (t : Tb) (h : checkS t = 0) : 1 ≤ t.cs.length ∧ t.cs.length ≤ 64 := by
  by_cases h1 : nameB t.nm.data.toList = true
  · by_cases h2 : countsB t = true
    · unfold countsB at h2
      simp only [Bool.and_eq_true, decide_eq_true_eq] at h2
      omega
    · unfold checkS at h
      rw [if_pos h1, if_neg h2] at h
      omega
  · unfold checkS at h
    rw [if_neg h1] at h
    omega





end Go.Proofs.YthbjheiogghjnaaGreatDoor

namespace Go.Proofs.YthbjheiogghjnaaGreatDoor
open Go.RowKit Go.Shelf Go.Lib
set_option maxRecDepth 100000

/-- the small table's text -/
def smallS : ByteArray := ⟨#[99, 114, 101, 97, 116, 101, 32, 116, 97, 98, 108, 101, 32, 116, 32, 40, 10, 32, 32, 97, 32, 105, 110, 116, 32, 110, 111, 116, 32, 110, 117, 108, 108, 44, 10, 32, 32, 112, 114, 105, 109, 97, 114, 121, 32, 107, 101, 121, 32, 40, 97, 41, 10, 41, 10]⟩
def part1 : ByteArray := ⟨#[97, 32, 105, 110, 116, 32, 110, 111, 116, 32, 110, 117, 108, 108]⟩
def part2 : ByteArray := ⟨#[112, 114, 105, 109, 97, 114, 121, 32, 107, 101, 121, 32, 40, 97, 41]⟩

set_option maxHeartbeats 8000000 in
theorem print_small (a : TabP) (w : World) (hV : TabV w w.heap.size smallT a) (hE : Env w) (hK : KW w) : Calls Tryz.prog 4 #[a.val smallT] w fun e w' => e = .returned (.tuple #[.string smallS, .int .i64 0]) ∧ Below w.heap.size w w' := by
  have CC : Hid (∀ w1, Below w.heap.size w w1 → Calls Tryz.prog 8 #[a.val smallT] w1 fun e w' => e = .returned (.int .i64 0) ∧ Below w1.heap.size w1 w') := fun w1 hb => by
    have h := check_anyT smallT a w1 (hV.on hb) smallT_ok (hE.on hb)
    rw [smallT_check] at h
    exact h
  have CT : Hid (∀ w1, Below w.heap.size w w1 → Calls Tryz.prog 9 #[.agg #[.string ⟨#[97]⟩, .int .i64 2, .bool false, .int .i64 0, .int .i64 0, .float .f64 0, .string ⟨#[]⟩]] w1 fun e w' => e = .returned (.string part1) ∧ Below w1.heap.size w1 w') := fun w1 hb => colText_small w1 (hK.on hb)
  have CL : Hid (∀ w1, Below w.heap.size w w1 → Calls Tryz.prog 10 #[a.val smallT, .slice a.pk 1 a.ck] w1 fun e w' => e = .returned (.string ⟨#[40, 97, 41]⟩) ∧ Below w1.heap.size w1 w') := fun w1 hb => listText_small a w1 (hV.on hb)
  have CJ : Hid (∀ (w1 : World) (B : Nat) (v : Value), OwnS w1 B v [part1, part2] → Calls Tryz.prog 12 #[v, .string ⟨#[44, 10, 32, 32]⟩] w1 fun e w' => e = .returned (.string ⟨(Lib.join ([part1, part2].map (·.data.toList)) [44, 10, 32, 32]).toArray⟩) ∧ Below w1.heap.size w1 w') := fun w1 B v h => join_any w1 B v [part1, part2] ⟨#[44, 10, 32, 32]⟩ h (by decide) (by decide) (by decide +kernel)
  have HEQ : Hid ((⟨#[99, 114, 101, 97, 116, 101, 32, 116, 97, 98, 108, 101, 32]⟩ : ByteArray) ++ ⟨#[116]⟩ ++ ⟨#[32, 40, 10, 32, 32]⟩ ++ ⟨(Lib.join ([part1, part2].map (·.data.toList)) [44, 10, 32, 32]).toArray⟩ ++ ⟨#[10, 41, 10]⟩ = smallS) := by show _ = _; decide +kernel
  have HP2 : Hid ((⟨#[112, 114, 105, 109, 97, 114, 121, 32, 107, 101, 121, 32]⟩ : ByteArray) ++ ⟨#[40, 97, 41]⟩ = part2) := by show _ = _; decide +kernel
  have hjs : (⟨(Lib.join ([part1, part2].map (·.data.toList)) [44, 10, 32, 32]).toArray⟩ : ByteArray).size = 33 := by decide +kernel
  have HSZ : Hid (smallS.size = 55) := by show _ = _; decide +kernel
  generalize (⟨(Lib.join ([part1, part2].map (·.data.toList)) [44, 10, 32, 32]).toArray⟩ : ByteArray) = jn at *
  generalize smallS = sS at *
  generalize part1 = p1 at *
  generalize part2 = p2 at *
  obtain ⟨b', o', epc, hbB', z0, z1, z2, z3, z4, z5, z6⟩ := hV.cs 0 (by decide)
  have EPC : Hid (a.pc = some ⟨b', o', none⟩ ∧ True) := ⟨epc, trivial⟩
  clear epc
  have HB : Hid (BoxT _ _ _ _) := BoxT.new w smallT a
  have hb0 : Below w.heap.size w (w.alloc (.cells #[.string smallT.nm, .slice a.pc smallT.cs.length a.cc, .slice a.pk smallT.key.length a.ck, .slice a.px smallT.ix.length a.cx, .slice a.pr smallT.rf.length a.cr] 27)) := by go_grown
  have q1 : smallT.nm = ⟨#[116]⟩ := rfl
  have q2 : smallT.cs.length = 1 := rfl
  have q3 : smallT.key.length = 1 := rfl
  have q4 : smallT.ix.length = 0 := rfl
  have q5 : smallT.rf.length = 0 := rfl
  have HZ : Hid (w.cell? ⟨b', o', none⟩ = some (.string ⟨#[97]⟩) ∧ w.cell? ⟨b', o' + 1, none⟩ = some (.int .i64 2) ∧ w.cell? ⟨b', o' + 2, none⟩ = some (.bool false) ∧ w.cell? ⟨b', o' + 3, none⟩ = some (.int .i64 0) ∧ w.cell? ⟨b', o' + 4, none⟩ = some (.int .i64 0) ∧ w.cell? ⟨b', o' + 5, none⟩ = some (.float .f64 0) ∧ w.cell? ⟨b', o' + 6, none⟩ = some (.string ⟨#[]⟩)) := ⟨z0, z1, z2, z3, z4, z5, z6⟩
  clear z0 z1 z2 z3 z4 z5 z6 hV hE hK
  unfold TabP.val at *
  simp only [q1, q2, q3, q4, q5] at hb0 CC CL ⊢
  have hsf := run_store_float
  go_enter Tryz.func4, Tryz.ntmps4
  go_wp2_with fail
  refine (CC.out _ hb0).mono ?_
  rintro e w1 ⟨rfl, hb1⟩
  have hB1 : BoxT w1 w.heap.size smallT a := HB.out.on hb1 (by simp)
  have h01 : Below w.heap.size w w1 := hb0.trans (hb1.mono hb0.size)
  have H1 : Hid (BoxT w1 w.heap.size smallT a ∧ Below w.heap.size w w1) := ⟨hB1, h01⟩
  obtain ⟨hz1, e0, e1, e2, e3, e4⟩ := hB1
  simp only [q1, q2, q3, q4, q5] at e0 e1 e2 e3 e4
  rw [EPC.out.1] at e1
  clear hb1 hb0 CC HB
  obtain ⟨z0, z1, z2, z3, z4, z5, z6⟩ := HZ.out
  have k : ∀ {o : Nat} {v : Option Value}, w.cell? ⟨b', o, none⟩ = v → w1.cell? ⟨b', o, none⟩ = v := fun {o v} hc => (h01.cell (p := ⟨b', o, none⟩) hbB').trans hc
  have y0 := k z0
  have y1 := k z1
  have y2 := k z2
  have y3 := k z3
  have y4 := k z4
  have y5 := k z5
  have y6 := k z6
  clear k z0 z1 z2 z3 z4 z5 z6
  have hbx : Below w.heap.size w (w1.alloc (.cells #[.string ⟨#[97]⟩, .int .i64 2, .bool false, .int .i64 0, .int .i64 0, .float .f64 0, .string ⟨#[]⟩] 40)) := h01.alloc h01.size _
  have HBX : Hid (BoxT (w1.alloc (.cells #[.string ⟨#[97]⟩, .int .i64 2, .bool false, .int .i64 0, .int .i64 0, .float .f64 0, .string ⟨#[]⟩] 40)) w.heap.size smallT a) := H1.out.1.on ((Below.refl _ _).alloc (Nat.le_refl _) _) hz1
  go_wp2_with fail
  refine wp_loop_rounds 2 ?_
  rw [rounds_succ]
  go_wp2_with fail
  refine (CT.out _ hbx).mono ?_
  rintro e w2 ⟨rfl, hb2⟩
  have h02 : Below w.heap.size w w2 := hbx.trans (hb2.mono hbx.size)
  have hB2 : BoxT w2 w.heap.size smallT a := HBX.out.on hb2 (by simp; omega)
  have hz2 := hB2.hg
  have HB2 : Hid (BoxT w2 w.heap.size smallT a) := hB2
  clear hB2 HBX hb2 hbx CT y0 y1 y2 y3 y4 y5 y6 e0 e1 e2 e3 e4
  go_wp2_with (first | (at_builtin; refine wpList_appS _ rfl (.tmp 25) _ rfl (w.heap.size + 1) _ _ rfl (OwnS.nil _ _) p1 _ rfl (by first | rfl | simp) (by decide) hz2 ?_; intro v6 w6 h6 h7))
  have HO6 : Hid (OwnS w6 (w.heap.size + 1) v6 [p1]) := h6
  have h06 : Below w.heap.size w w6 := h02.trans (h7.mono (by omega))
  have hB6 : BoxT w6 w.heap.size smallT a := HB2.out.on h7 (by omega)
  have HB6 : Hid (BoxT w6 w.heap.size smallT a) := hB6
  obtain ⟨hz6, e0, e1, e2, e3, e4⟩ := hB6
  simp only [q1, q2, q3, q4, q5] at e0 e1 e2 e3 e4
  clear h6 h7 HB2 h02
  go_wp2_with fail
  rw [rounds_succ]
  go_wp2_with fail
  refine (CL.out _ h06).mono ?_
  rintro e w7 ⟨rfl, hb7⟩
  have h07 : Below w.heap.size w w7 := h06.trans (hb7.mono h06.size)
  have HB7 : Hid (BoxT w7 w.heap.size smallT a) := HB6.out.on hb7 hz6
  have HO7 : Hid (OwnS w7 (w.heap.size + 1) v6 [p1]) := HO6.out.kept hb7
  have hz7 := HB7.out.hg
  clear HB6 HO6 hb7 h06 CL e0 e1 e2 e3 e4
  go_wp2_with (first | (at_builtin; refine wpList_appS _ rfl (.tmp 31) _ rfl (w.heap.size + 1) _ _ rfl HO7.out _ _ rfl (by first | rfl | simp) (by simp) hz7 ?_; intro v8 w8 h8 h9; obtain ⟨hz8, e0, e1, e2, e3, e4⟩ := HB7.out.on h9 (Nat.lt_succ_self _); simp only [q1, q2, q3, q4, q5] at e0 e1 e2 e3 e4))
  have HO8 : Hid (OwnS w8 (w.heap.size + 1) v8 [p1, p2]) := by rw [HP2.out] at h8; exact h8
  have h08 : Below w.heap.size w w8 := h07.trans (h9.mono (by omega))
  have hB8 : BoxT w8 w.heap.size smallT a := HB7.out.on h9 (by omega)
  have HB8 : Hid (BoxT w8 w.heap.size smallT a) := hB8
  clear h8 h9 HB7 HO7 h07 HP2
  go_wp2_with fail
  refine wp_loop_rounds 1 ?_
  rw [rounds_succ]
  go_wp2_with fail
  refine wp_loop_rounds 1 ?_
  rw [rounds_succ]
  go_wp2_with fail
  have g0 : ∀ p : InB w8, p.w'.cell? ⟨w.heap.size, 0, none⟩ = some (.string ⟨#[116]⟩) := InB.cell e0 hz8
  have ne8 := inB_ne w8
  have HJ : Hid (∀ p : InB w8, Calls Tryz.prog 12 #[v8, .string ⟨#[44, 10, 32, 32]⟩] p.w' fun e w' => e = .returned (.string jn) ∧ Below p.w'.heap.size p.w' w') := fun p => CJ.out _ _ _ (HO8.out.kept p.h)
  clear e0 e1 e2 e3 e4 CJ
  refine wp_region_inB (by kernel_rfl) (by kernel_rfl) ?_
  repeat (go_big_quiet_step ((go_at_call 12; exact Calls.inB (HJ.out _))))
  refine wpQuiet_nil ?_
  rintro _ ⟨⟨w9, hb9⟩, rfl⟩
  have heq := HEQ.out
  have hsz := HSZ.out
  simp only [heq]
  go_wp2
  go_ret2
  exact ⟨rfl, h08.trans (hb9.mono h08.size)⟩

end Go.Proofs.YthbjheiogghjnaaGreatDoor
