/- Layer 19: the law is awake. Layer 19: GraphChecks. -/
import Derived.Test.YtncfejndmlcidaaGreatGWTg14
import Derived.Test.YtncfejndmlcidaaGreatGWGd197
namespace Go.Proofs.YtncfejndmlcidaaGreat
open Go.RowKit
set_option maxRecDepth 100000

set_option maxHeartbeats 4000000 in
theorem skew_any (w : World) : Calls Tryz.prog 26 #[] w fun e w' => e = .returned (.slice (some ⟨w.heap.size, 0, none⟩) 6 6) ∧ Blk w' w.heap.size skC 51 ∧ Below w.heap.size w w' := by
  obtain ⟨w1, hw1⟩ : ∃ w1, w.alloc (.cells skC 51) = w1 := ⟨_, rfl⟩
  have HW1 : Hid (Blk w1 w.heap.size skC 51 ∧ Below w.heap.size w w1) := by rw [← hw1]; exact ⟨Blk.new w _ _, (Below.refl _ _).alloc (Nat.le_refl _) _⟩
  go_enter Tryz.func26, Tryz.ntmps26
  go_wp2_with fail
  go_ret
  exact ⟨rfl, by first | exact hw1 ▸ HW1.out.1 | exact HW1.out.1, by first | exact hw1 ▸ HW1.out.2 | exact HW1.out.2⟩
theorem run_eqInPh (w : World) : (Op.equalIn 10000 34 (phV false false false false false true true) (phV false false false false false true true)).run Tryz.prog w = .ok true w := by
  have u4 := Tryz.underlying4
  have a4 := Tryz.isAgg4
  have z4 := Tryz.sizeOf4
  have hS : Tryz.prog.underlying 34 = some (.struct (Tryz.prog.fieldsOf 34)) := by kernel_rfl
  have hp : Tryz.prog.stoodInHeld 34 = false := by kernel_rfl
  rw [show (10000 : Nat) = 9999 + 1 from rfl, run_equalIn_agg w 9999 34 _ _ hS hp]
  simp only [Program.fieldsOf, Tryz.underlying34]
  go_simp
theorem run_eqPh (w : World) : (binOp .eql 34 (phV false false false false false true true) (phV false false false false false true true)).run Tryz.prog w = .ok (.bool true) w := by
  rw [run_eql_struct, run_eqInPh]
  rfl
theorem run_eqGPh (op : BinOp) (a b : Operand) (x y : Array Value) (w : World) : (eqGuard op 34 a b (.agg x) (.agg y)).run Tryz.prog w = .ok () w :=
  run_eqGuard_agg w op 34 a b _ _ (by kernel_rfl)
set_option maxHeartbeats 8000000 in
theorem awake_any (w : World) : Calls Tryz.prog 12 #[] w fun e w' => e = .returned (.bool true) ∧ Below w.heap.size w w' := by
  have hgd := run_eqGPh
  have heq := run_eqPh
  have CS : Hid (∀ W : World, Calls Tryz.prog 26 #[] W fun e w' => e = .returned (.slice (some ⟨W.heap.size, 0, none⟩) 6 6) ∧ Blk w' W.heap.size skC 51 ∧ Below W.heap.size W w') := skew_any
  have CP : Hid (∀ (W : World) (g : Nat), Blk W g skC 51 → Calls Tryz.prog 16 #[.slice (some ⟨g, 0, none⟩) 6 6] W fun e w' => e = .returned (.tuple #[phV false false false false false true true, .int .i64 0]) ∧ Below W.heap.size W w') := sk_Phen
  have CR : Hid (∀ (W : World) (g : Nat), Blk W g skC 51 → Calls Tryz.prog 20 #[.slice (some ⟨g, 0, none⟩) 4 6] W fun e w' => e = .returned (.tuple #[.slice none 0 0, .int .i64 0]) ∧ Below W.heap.size W w') := sk_Ser
  go_enter Tryz.func12, Tryz.ntmps12
  have C1 := CS.out w
  go_wp2_with fail
  refine C1.mono ?_
  rintro e w1 ⟨rfl, hk1, hb1⟩
  have HB1 : Hid (Below w.heap.size w w1) := hb1
  have HK1 : Hid (Blk w1 w.heap.size skC 51) := hk1
  clear hk1 hb1 C1
  have C2 := CP.out w1 w.heap.size HK1.out
  go_wp2_with fail
  refine C2.mono ?_
  rintro e w2 ⟨rfl, hb2⟩
  have HB2 : Hid (Below w.heap.size w w2) := HB1.out.trans (hb2.mono HB1.out.size)
  clear hb2 C2 HB1 HK1
  obtain ⟨w3, hw3⟩ : ∃ w3, w2.alloc (.cells #[.bool false, .bool false, .bool false, .bool false, .bool false, .bool true, .bool true] 34) = w3 := ⟨_, rfl⟩
  have HB3 : Hid (Below w2.heap.size w2 w3) := by rw [← hw3]; exact (Below.refl _ _).alloc (Nat.le_refl _) _
  have HK3 : Hid (Blk w3 w2.heap.size #[.bool false, .bool false, .bool false, .bool false, .bool false, .bool true, .bool true] 34) := by rw [← hw3]; exact Blk.new w2 _ _
  have C3 := CS.out w3
  go_wp2_with fail
  clear hw3
  refine C3.mono ?_
  rintro e w4 ⟨rfl, hk4, hb4⟩
  have HB4 : Hid (Below w3.heap.size w3 w4) := hb4
  have HK4 : Hid (Blk w4 w3.heap.size skC 51) := hk4
  clear hk4 hb4 C3
  have C4 := CR.out w4 w3.heap.size HK4.out
  go_wp2_with fail
  refine C4.mono ?_
  rintro e w5 ⟨rfl, hb5⟩
  have HB5 : Hid (Below w3.heap.size w3 w5) := HB4.out.trans (hb5.mono HB4.out.size)
  clear hb5 C4 HB4 HK4
  have HK5 : Hid (Blk w5 w2.heap.size #[.bool false, .bool false, .bool false, .bool false, .bool false, .bool true, .bool true] 34) := HK3.out.on HB5.out
  have z0 := HK5.out.cell (i := 0) rfl
  have z1 := HK5.out.cell (i := 1) rfl
  have z2 := HK5.out.cell (i := 2) rfl
  have z3 := HK5.out.cell (i := 3) rfl
  have z4 := HK5.out.cell (i := 4) rfl
  have z5 := HK5.out.cell (i := 5) rfl
  have z6 := HK5.out.cell (i := 6) rfl
  go_wp2_with fail
  go_ret
  exact ⟨rfl, HB2.out.trans ((HB3.out.trans (HB5.out.mono HB3.out.size)).mono HB2.out.size)⟩

end Go.Proofs.YtncfejndmlcidaaGreat

namespace Go.Proofs.YtncfejndmlcidaaGreat
open Go.RowKit
set_option maxRecDepth 100000

theorem RdH.mono {B C : Nat} {w : World} {v : Value} {Z : List (Ac × Value)} (h : RdH B w v Z) (hb : B ≤ C) : RdH C w v Z := ⟨h.sl.mono hb, fun z hz => (h.sn z hz).mono hb, h.ll, h.lsn⟩
theorem ChkE.shape {L : List Ac} {e : Ending} (h : ChkE L e) : ∃ x y : Int, e = .returned (.tuple #[.int .i64 x, .int .i64 y]) := by
  rcases h with ⟨_, rfl⟩ | ⟨_, k, _, _, _, rfl⟩ | ⟨_, _, rfl⟩
  · exact ⟨0, 2, rfl⟩
  · exact ⟨k, 190, rfl⟩
  · exact ⟨0, 0, rfl⟩
set_option maxHeartbeats 4000000 in
theorem lawGChecks (v : Value) (Z : List (Ac × Value)) (w : World) (h : RdH w.heap.size w v Z) (hsz : ∀ z ∈ Z, z.1.it.size ≤ maxLen) :
    Calls Tryz.prog 3 #[v] w fun e w' => e = .returned (.bool true) ∧ Below w.heap.size w w' := by
  have HR : Hid (RdH w.heap.size w v Z ∧ ∀ z ∈ Z, z.1.it.size ≤ maxLen) := ⟨h, hsz⟩
  have CC : Hid (Calls Tryz.prog 10 #[v] w fun e w' => ∃ v' Z', e = .returned v' ∧ RdH w'.heap.size w' v' Z' ∧ Z'.map (·.1) = Z.map (·.1) ∧ Below w.heap.size w w') := copy_any v Z w h
  clear h hsz
  go_enter Tryz.func3, Tryz.ntmps3
  go_wp2_with fail
  refine CC.out.mono ?_
  rintro e w1 ⟨v', Z', rfl, hR1, hz1, hb1⟩
  have HB1 : Hid (Below w.heap.size w w1) := hb1
  have CK : Hid (Calls Tryz.prog 9 #[v'] w1 fun e w' => Below w1.heap.size w1 w' ∧ ChkE (Z.map (·.1)) e) := by
    rw [← hz1]
    refine check_any v' Z' w1 hR1 (fun z hz => ?_)
    have h4 : z.1 ∈ Z.map (·.1) := by rw [← hz1]; exact List.mem_map_of_mem hz
    obtain ⟨y, hy, e⟩ := List.mem_map.1 h4
    rw [← e]
    exact HR.out.2 y hy
  clear hR1 hz1 hb1 CC
  go_wp2_with fail
  refine CK.out.mono ?_
  rintro e w2 ⟨hb2, hc2⟩
  obtain ⟨x, y, rfl⟩ := hc2.shape
  have HB2 : Hid (Below w.heap.size w w2) := HB1.out.trans (hb2.mono HB1.out.size)
  have CD : Hid (Calls Tryz.prog 11 #[v] w2 fun e w' => e = .returned (.tuple #[.int .i64 x, .int .i64 y]) ∧ Below w2.heap.size w2 w') := by
    refine (checkD_any v Z w2 ((HR.out.1.on HB2.out).mono HB2.out.size)).mono ?_
    rintro e w' ⟨h1, h2⟩
    exact ⟨chk_uniq h1 hc2, h2⟩
  clear hb2 hc2 CK HB1
  go_wp2_with fail
  refine CD.out.mono ?_
  rintro e w3 ⟨rfl, hb3⟩
  have HB3 : Hid (Below w.heap.size w w3) := HB2.out.trans (hb3.mono HB2.out.size)
  clear hb3 CD HB2
  have CA := awake_any w3
  go_wp2_with fail
  refine CA.mono ?_
  rintro e w4 ⟨rfl, hb4⟩
  have HB4 : Hid (Below w.heap.size w w4) := HB3.out.trans (hb4.mono HB3.out.size)
  clear hb4 CA HB3
  go_wp2_with fail
  go_ret
  exact ⟨rfl, HB4.out⟩

end Go.Proofs.YtncfejndmlcidaaGreat
