/- The document's Copy; feet that are the same. -/
import Derived.Test.YtjeidpgkgjljcaaWRs5
import Derived.Test.YtjeidpgkgjljcaaWRs6
namespace Go.Proofs.Ytjeidpgkgjljcaa
open Go.RowKit
set_option maxRecDepth 100000

theorem rwithout_any (a : Ft) (tb : Int) (va0 va1 va2 : Value) (w : World) (ha : RdF w va0 va1 va2 a) :
    Calls Try.prog 14 #[.agg #[va0, va1, va2], .int .i64 tb] w fun e w' => ∃ v0 v1 v2, e = .returned (.agg #[v0, v1, v2]) ∧ OwnP w' w.heap.size v0 (dropG (fun x => x.t == tb) a.P) ∧ OwnS w' w.heap.size v1 (dropG (fun x => x.t == tb) a.S) ∧ OwnP w' w.heap.size v2 (dropG (fun x => x.t == tb) a.W) ∧ Below w.heap.size w w' := by
  obtain ⟨p0, c0, rfl, _, _, h0⟩ := ha.p.f
  obtain ⟨p1, c1, rfl, _, _, h1⟩ := ha.s.f
  obtain ⟨p2, c2, rfl, _, _, h2⟩ := ha.w.f
  exact rwithout_core a tb p0 p1 p2 c0 c1 c2 w h0 h1 h2 ha.lp ha.ls ha.lw

set_option maxHeartbeats 4000000 in
theorem rcopy_any (a : Ft) (va0 va1 va2 : Value) (w : World) (ha : RdF w va0 va1 va2 a) :
    Calls Try.prog 6 #[.agg #[va0, va1, va2]] w fun e w' => ∃ v0 v1 v2, e = .returned (.agg #[v0, v1, v2]) ∧ OwnP w' w.heap.size v0 a.P ∧ OwnS w' w.heap.size v1 a.S ∧ OwnP w' w.heap.size v2 a.W ∧ Below w.heap.size w w' := by
  have hal : Below w.heap.size w ((w.alloc (.cells #[va0, va1, va2] 25)).alloc (.cells #[.slice none 0 0, .slice none 0 0, .slice none 0 0] 25)) := ((Below.refl _ _).alloc (Nat.le_refl _) _).alloc (by simp) _
  have hz : ((w.alloc (.cells #[va0, va1, va2] 25)).alloc (.cells #[.slice none 0 0, .slice none 0 0, .slice none 0 0] 25)).heap.size = w.heap.size + 1 + 1 := by simp
  have hA0 : Blk ((w.alloc (.cells #[va0, va1, va2] 25)).alloc (.cells #[.slice none 0 0, .slice none 0 0, .slice none 0 0] 25)) w.heap.size #[va0, va1, va2] 25 := (Blk.new w #[va0, va1, va2] 25).keep (B := w.heap.size + 1) ((Below.refl _ _).alloc (by simp) _) (by omega)
  have hB0 : Blk ((w.alloc (.cells #[va0, va1, va2] 25)).alloc (.cells #[.slice none 0 0, .slice none 0 0, .slice none 0 0] 25)) (w.heap.size + 1) #[.slice none 0 0, .slice none 0 0, .slice none 0 0] 25 := by
    have h := Blk.new (w.alloc (.cells #[va0, va1, va2] 25)) #[.slice none 0 0, .slice none 0 0, .slice none 0 0] 25
    have e : (w.alloc (.cells #[va0, va1, va2] 25)).heap.size = w.heap.size + 1 := by simp
    rw [e] at h
    exact h
  have CC : Hid (Calls Try.prog 21 #[.agg #[va0, va1, va2], .agg #[.slice none 0 0, .slice none 0 0, .slice none 0 0]] ((w.alloc (.cells #[va0, va1, va2] 25)).alloc (.cells #[.slice none 0 0, .slice none 0 0, .slice none 0 0] 25)) fun e w' => ∃ v0 v1 v2, e = .returned (.agg #[v0, v1, v2]) ∧ OwnP w' ((w.alloc (.cells #[va0, va1, va2] 25)).alloc (.cells #[.slice none 0 0, .slice none 0 0, .slice none 0 0] 25)).heap.size v0 (a.P ++ []) ∧ OwnS w' ((w.alloc (.cells #[va0, va1, va2] 25)).alloc (.cells #[.slice none 0 0, .slice none 0 0, .slice none 0 0] 25)).heap.size v1 (a.S ++ []) ∧ OwnP w' ((w.alloc (.cells #[va0, va1, va2] 25)).alloc (.cells #[.slice none 0 0, .slice none 0 0, .slice none 0 0] 25)).heap.size v2 (a.W ++ []) ∧ Below ((w.alloc (.cells #[va0, va1, va2] 25)).alloc (.cells #[.slice none 0 0, .slice none 0 0, .slice none 0 0] 25)).heap.size ((w.alloc (.cells #[va0, va1, va2] 25)).alloc (.cells #[.slice none 0 0, .slice none 0 0, .slice none 0 0] 25)) w') := by
    have hr := ha.on hal
    obtain ⟨p0, c0, e0, _, _, h0⟩ := hr.p.f
    obtain ⟨p1, c1, e1, _, _, h1⟩ := hr.s.f
    obtain ⟨p2, c2, e2, _, _, h2⟩ := hr.w.f
    subst e0 e1 e2
    exact rboth_core a ⟨[], [], []⟩ p0 p1 p2 none none none c0 c1 c2 0 0 0 _ h0 h1 h2 (fun i hi => absurd hi (by simp)) (fun i hi => absurd hi (by simp)) (fun i hi => absurd hi (by simp)) ha.lp ha.ls ha.lw
  rw [List.append_nil, List.append_nil, List.append_nil] at CC
  have HW : Hid (Below w.heap.size w ((w.alloc (.cells #[va0, va1, va2] 25)).alloc (.cells #[.slice none 0 0, .slice none 0 0, .slice none 0 0] 25)) ∧ ((w.alloc (.cells #[va0, va1, va2] 25)).alloc (.cells #[.slice none 0 0, .slice none 0 0, .slice none 0 0] 25)).heap.size = w.heap.size + 1 + 1 ∧ Blk ((w.alloc (.cells #[va0, va1, va2] 25)).alloc (.cells #[.slice none 0 0, .slice none 0 0, .slice none 0 0] 25)) (w.heap.size + 1) #[.slice none 0 0, .slice none 0 0, .slice none 0 0] 25) := ⟨hal, hz, hB0⟩
  have a0 := hA0.cell (i := 0) rfl
  have a1 := hA0.cell (i := 1) rfl
  have a2 := hA0.cell (i := 2) rfl
  clear ha hal hz hA0 hB0
  go_enter Try.func6, Try.ntmps6
  go_wp2_with fail
  generalize ((w.alloc (.cells #[va0, va1, va2] 25)).alloc (.cells #[.slice none 0 0, .slice none 0 0, .slice none 0 0] 25)) = w2 at *
  refine CC.out.mono ?_
  rintro e w5 ⟨v0, v1, v2, rfl, h0, h1, h2, hb⟩
  have HO : Hid (OwnP w5 w2.heap.size v0 a.P ∧ OwnS w5 w2.heap.size v1 a.S ∧ OwnP w5 w2.heap.size v2 a.W ∧ Below w2.heap.size w2 w5) := ⟨h0, h1, h2, hb⟩
  have HB5 : Hid (Blk w5 (w.heap.size + 1) #[.slice none 0 0, .slice none 0 0, .slice none 0 0] 25) := HW.out.2.2.on hb
  obtain ⟨q0, l0, d0, e0⟩ : ∃ p n c, v0 = .slice p n c := by
    obtain ⟨p, c, e, _⟩ := h0.row
    exact ⟨_, _, _, e⟩
  obtain ⟨q1, l1, d1, e1⟩ : ∃ p n c, v1 = .slice p n c := by
    obtain ⟨p, c, e, _⟩ := h1.row
    exact ⟨_, _, _, e⟩
  obtain ⟨q2, l2, d2, e2⟩ : ∃ p n c, v2 = .slice p n c := by
    obtain ⟨p, c, e, _⟩ := h2.row
    exact ⟨_, _, _, e⟩
  subst e0 e1 e2
  clear h0 h1 h2 hb CC a0 a1 a2
  have z0 := HB5.out.cell (i := 0) rfl
  have z1 := HB5.out.cell (i := 1) rfl
  have z2 := HB5.out.cell (i := 2) rfl
  have f0 := HB5.out.frozen 0
  have f1 := HB5.out.frozen 1
  have f2 := HB5.out.frozen 2
  have HF : Hid (Frm w5 (((w5.setCell ⟨w.heap.size + 1, 0, none⟩ (.slice q0 l0 d0)).setCell ⟨w.heap.size + 1, 1, none⟩ (.slice q1 l1 d1)).setCell ⟨w.heap.size + 1, 2, none⟩ (.slice q2 l2 d2)) (fun k => k = w.heap.size + 1)) := ((frm_set _ _ _ _ (F := fun k => k = w.heap.size + 1) (.inl rfl)).trans (frm_set _ _ _ _ (F := fun k => k = w.heap.size + 1) (.inl rfl)) (fun k hk => .inl hk)).trans (frm_set _ _ _ _ (F := fun k => k = w.heap.size + 1) (.inl rfl)) (fun k hk => .inl hk)
  have HR : Hid (Blk (((w5.setCell ⟨w.heap.size + 1, 0, none⟩ (.slice q0 l0 d0)).setCell ⟨w.heap.size + 1, 1, none⟩ (.slice q1 l1 d1)).setCell ⟨w.heap.size + 1, 2, none⟩ (.slice q2 l2 d2)) (w.heap.size + 1) #[.slice q0 l0 d0, .slice q1 l1 d1, .slice q2 l2 d2] 25) := ((HB5.out.set 0 _).set 1 _).set 2 _
  go_wp2_with fail
  generalize (((w5.setCell ⟨w.heap.size + 1, 0, none⟩ (.slice q0 l0 d0)).setCell ⟨w.heap.size + 1, 1, none⟩ (.slice q1 l1 d1)).setCell ⟨w.heap.size + 1, 2, none⟩ (.slice q2 l2 d2)) = we at *
  have r0 := HR.out.cell (i := 0) rfl
  have r1 := HR.out.cell (i := 1) rfl
  have r2 := HR.out.cell (i := 2) rfl
  refine bodyPost_ret (v := .agg #[.slice q0 l0 d0, .slice q1 l1 d1, .slice q2 l2 d2]) (by simp [results, Try.results6, go_sem, r0, r1, r2]) rfl ?_
  have hz := HW.out.2.1
  exact ⟨_, _, _, rfl, (HO.out.1.frm HF.out (fun b9 hb9 hk => by omega)).mono (by omega), (HO.out.2.1.frm HF.out (fun b9 hb9 hk => by omega)).mono (by omega), (HO.out.2.2.1.frm HF.out (fun b9 hb9 hk => by omega)).mono (by omega), (HW.out.1.trans (HO.out.2.2.2.mono HW.out.1.size)).trans (HF.out.below (by have := HO.out.2.2.2.size; omega) (fun k hk => by omega))⟩

set_option maxHeartbeats 2000000 in
theorem run_eqInR (n : Nat) (lo hi : ByteArray) (op : Bool) (w : World) : (Op.equalIn (n + 1 + 1) 53 (.agg #[.string lo, .string hi, .bool op]) (.agg #[.string lo, .string hi, .bool op])).run Try.prog w = .ok true w := by
  have u9 := Try.underlying9
  have a9 := Try.isAgg9
  have z9 := Try.sizeOf9
  have u5 := Try.underlying4
  have a5 := Try.isAgg4
  have z5 := Try.sizeOf4
  have hS2 : Try.prog.underlying 53 = some (.struct (Try.prog.fieldsOf 53)) := by kernel_rfl
  have hp2 : Try.prog.stoodInHeld 53 = false := by kernel_rfl
  rw [run_equalIn_agg w (n + 1) 53 _ _ hS2 hp2]
  simp only [Program.fieldsOf, Try.underlying53]
  go_simp
set_option maxHeartbeats 2000000 in
theorem run_eqInS' (n : Nat) (x : Sp) (w : World) : (Op.equalIn (n + 1 + 1 + 1) 55 (.agg #[.int .i64 x.t, .int .i64 x.i, .string x.lo, .string x.hi, .bool x.op]) (.agg #[.int .i64 x.t, .int .i64 x.i, .string x.lo, .string x.hi, .bool x.op])).run Try.prog w = .ok true w := by
  have u4 := Try.underlying3
  have a4 := Try.isAgg3
  have z4 := Try.sizeOf3
  have u9 := Try.underlying9
  have a9 := Try.isAgg9
  have z9 := Try.sizeOf9
  have u5 := Try.underlying4
  have a5 := Try.isAgg4
  have z5 := Try.sizeOf4
  have u6 := Try.underlying53
  have a6 := Try.isAgg53
  have z6 := Try.sizeOf53
  have hS : Try.prog.underlying 55 = some (.struct (Try.prog.fieldsOf 55)) := by kernel_rfl
  have hp : Try.prog.stoodInHeld 55 = false := by kernel_rfl
  have hi := run_eqInR n x.lo x.hi x.op w
  rw [run_equalIn_agg w (n + 1 + 1) 55 _ _ hS hp]
  simp only [Program.fieldsOf, Try.underlying55]
  go_simp
theorem run_eqInS (x : Sp) (w : World) : (Op.equalIn 10000 55 (.agg #[.int .i64 x.t, .int .i64 x.i, .string x.lo, .string x.hi, .bool x.op]) (.agg #[.int .i64 x.t, .int .i64 x.i, .string x.lo, .string x.hi, .bool x.op])).run Try.prog w = .ok true w := run_eqInS' 9997 x w
theorem run_eqGS (op : BinOp) (a b : Operand) (x y : Sp) (w : World) : (eqGuard op 55 a b (.agg #[.int .i64 x.t, .int .i64 x.i, .string x.lo, .string x.hi, .bool x.op]) (.agg #[.int .i64 y.t, .int .i64 y.i, .string y.lo, .string y.hi, .bool y.op])).run Try.prog w = .ok () w :=
  run_eqGuard_agg w op 55 a b _ _ (by kernel_rfl)
end Go.Proofs.Ytjeidpgkgjljcaa
