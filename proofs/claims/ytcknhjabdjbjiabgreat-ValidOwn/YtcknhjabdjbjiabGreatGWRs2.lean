/- The document's Reads, least, Clash. The document's Clash. -/
import Derived.Test.YtcknhjabdjbjiabGreatGWNm8
namespace Go.Proofs.YtcknhjabdjbjiabGreat
open Go.RowKit
set_option maxRecDepth 100000

set_option maxHeartbeats 4000000 in
theorem rreads_any (a : Ft) (x : Pt) (va0 va1 va2 : Value) (w : World) (ha : RdF w va0 va1 va2 a) :
    Calls Tryz.prog 52 #[.agg #[va0, va1, va2], PV x] w fun e w' => e = .returned (.bool (rdsB a x)) ∧ Below w.heap.size w w' := by
  have heq := run_eqInP
  have hgd := run_eqGP
  obtain ⟨pa, ca, ea0, la1, la2, hpa⟩ := ha.p.f
  obtain ⟨ps, cs, ea1, ls1, ls2, hps⟩ := ha.s.f
  have hal : Below w.heap.size w ((w.alloc (.cells #[va0, va1, va2] 27)).alloc (.cells #[.int .i64 x.t, .int .i64 x.i, .string x.k] 36)) := ((Below.refl _ _).alloc (Nat.le_refl _) _).alloc (by simp) _
  have hA0 : Blk ((w.alloc (.cells #[va0, va1, va2] 27)).alloc (.cells #[.int .i64 x.t, .int .i64 x.i, .string x.k] 36)) w.heap.size #[va0, va1, va2] 27 := (Blk.new w #[va0, va1, va2] 27).keep (B := w.heap.size + 1) ((Below.refl _ _).alloc (by simp) _) (by omega)
  have hB0 : Blk ((w.alloc (.cells #[va0, va1, va2] 27)).alloc (.cells #[.int .i64 x.t, .int .i64 x.i, .string x.k] 36)) (w.heap.size + 1) #[.int .i64 x.t, .int .i64 x.i, .string x.k] 36 := by
    have h := Blk.new (w.alloc (.cells #[va0, va1, va2] 27)) #[.int .i64 x.t, .int .i64 x.i, .string x.k] 36
    have e : (w.alloc (.cells #[va0, va1, va2] 27)).heap.size = w.heap.size + 1 := by simp
    rw [e] at h
    exact h
  have HW : Hid (Blk ((w.alloc (.cells #[va0, va1, va2] 27)).alloc (.cells #[.int .i64 x.t, .int .i64 x.i, .string x.k] 36)) w.heap.size #[va0, va1, va2] 27 ∧ Blk ((w.alloc (.cells #[va0, va1, va2] 27)).alloc (.cells #[.int .i64 x.t, .int .i64 x.i, .string x.k] 36)) (w.heap.size + 1) #[.int .i64 x.t, .int .i64 x.i, .string x.k] 36 ∧ RowP ((w.alloc (.cells #[va0, va1, va2] 27)).alloc (.cells #[.int .i64 x.t, .int .i64 x.i, .string x.k] 36)) ((w.alloc (.cells #[va0, va1, va2] 27)).alloc (.cells #[.int .i64 x.t, .int .i64 x.i, .string x.k] 36)).heap.size pa a.P ∧ Below w.heap.size w ((w.alloc (.cells #[va0, va1, va2] 27)).alloc (.cells #[.int .i64 x.t, .int .i64 x.i, .string x.k] 36))) := ⟨hA0, hB0, hpa.on hal, hal⟩
  have C2 : Hid (∀ w1, Below ((w.alloc (.cells #[va0, va1, va2] 27)).alloc (.cells #[.int .i64 x.t, .int .i64 x.i, .string x.k] 36)).heap.size ((w.alloc (.cells #[va0, va1, va2] 27)).alloc (.cells #[.int .i64 x.t, .int .i64 x.i, .string x.k] 36)) w1 → Calls Tryz.prog 66 #[va1, PV x] w1 fun e w' => e = .returned (.bool (a.S.any (fun s => inS x s))) ∧ Below w1.heap.size w1 w') := fun w1 h1 => by
    subst ea1
    exact rspanned_any x a.S ps cs w1 ((hps.on hal).on h1) ha.ls
  have HST : Hid (∀ (j : Nat) (hj : j < a.P.length), j ≤ firstG (fun y => decide (x = y)) a.P → (decide (x = a.P[j]) = true → firstG (fun y => decide (x = y)) a.P = j) ∧ (decide (x = a.P[j]) = false → j + 1 ≤ firstG (fun y => decide (x = y)) a.P)) := firstG_step (fun y => decide (x = y)) a.P
  have HIF : Hid (firstG (fun y => decide (x = y)) a.P = a.P.length ↔ a.P.any (fun y => decide (x = y)) = false) := firstG_iff (fun y => decide (x = y)) a.P
  have HFL := firstG_le (fun y => decide (x = y)) a.P
  have hlen := ha.lp
  unfold rdsB
  obtain ⟨L, hLL⟩ : ∃ L, L = a.P := ⟨_, rfl⟩
  subst ea0
  rw [← hLL] at HW HST HIF HFL hlen C2 ⊢
  clear ha la1 la2 ls1 ls2 hpa hps hal hA0 hB0 ea1 hLL
  generalize firstG (fun y => decide (x = y)) L = f at *
  generalize L.any (fun y => decide (x = y)) = an at *
  generalize a.S.any (fun s => inS x s) = sn at *
  go_enter Tryz.func52, Tryz.ntmps52
  go_wp2_with fail
  generalize ((w.alloc (.cells #[(.slice pa L.length ca), va1, va2] 27)).alloc (.cells #[.int .i64 x.t, .int .i64 x.i, .string x.k] 36)) = wA at *
  go_loopw [5] (fun i wr => ∃ j : Nat, j ≤ f ∧ i = .int .i64 (j : Int) ∧ Hid (Below wA.heap.size wA wr)) (fun i _ => L.length - (intOf i).toNat)
  case atStart => exact ⟨0, Nat.zero_le _, by go_num, Below.refl _ _⟩
  case round =>
    obtain ⟨j, hj, rfl, HN⟩ := hrel
    have HE : Hid (Below w.heap.size w wr) := HW.out.2.2.2.trans (HN.out.mono HW.out.2.2.2.size)
    have hX := HW.out.2.1.on HN.out
    have hF := HW.out.1.on HN.out
    have a0 := hX.cell (i := 0) rfl
    have a1 := hX.cell (i := 1) rfl
    have a2 := hX.cell (i := 2) rfl
    have g0 := hF.cell (i := 0) rfl
    have g1 := hF.cell (i := 1) rfl
    clear hX hF
    by_cases hj0 : j = L.length
    · have han : an = false := HIF.out.1 (by omega)
      subst hj0 han
      go_wp2_with fail
      refine (C2.out _ HN.out).mono ?_
      rintro e w4 ⟨rfl, hb4⟩
      have HB4 : Hid (Below w.heap.size w w4) := HE.out.trans (hb4.mono HE.out.size)
      clear hb4 a0 a1 a2 g0 g1
      go_wp2_with fail
      go_ret
      exact ⟨by first | rfl | simp, HB4.out⟩
    · have hj1 : j < L.length := by omega
      obtain ⟨b, o, hp, hbB, c0, c1, c2⟩ := (HW.out.2.2.1.on HN.out) j hj1
      have hst := HST.out j hj1 hj
      subst hp
      clear hj0
      generalize L[j] = y at *
      have hsw : decide (y = x) = decide (x = y) := by
        rw [Bool.eq_iff_iff, decide_eq_true_eq, decide_eq_true_eq]
        exact ⟨Eq.symm, Eq.symm⟩
      cases hxy : decide (x = y)
      · have hlt := hst.2 hxy
        rw [hxy] at hsw
        clear hst hxy
        go_wp2_with fail
        go_quiet (fail)
        go_wp2_with fail
        go_roundw
        case rel => exact ⟨j + 1, hlt, by go_num, ⟨HN.out.os, HN.out.tape, HN.out.output, HN.out.size, HN.out.block⟩⟩
        case measure => simp [intOf]; omega
      · have hf := hst.1 hxy
        rw [hxy] at hsw
        have han : an = true := by
          cases h : an
          · have := HIF.out.2 h; omega
          · rfl
        clear hst hxy
        go_wp2_with fail
        go_quiet (fail)
        go_wp2_with fail
        go_ret
        exact ⟨by first | rfl | (rw [han]; rfl), ⟨HE.out.os, HE.out.tape, HE.out.output, HE.out.size, HE.out.block⟩⟩

set_option maxHeartbeats 8000000 in
theorem rleast_any (L : List Pt) (p : Option Addr) (c : Nat) (w : World) (hR : RowP w w.heap.size p L) (hlen : L.length ≤ 4398046511104) :
    Calls Tryz.prog 53 #[.slice p L.length c] w fun e w' => ∃ o, IsMin (fun x => x ∈ L) o ∧ e = .returned (.tuple #[PV (lP o), .bool o.isSome]) ∧ Below w.heap.size w w' := by
  have hal : Below w.heap.size w (w.alloc (.cells #[.int .i64 0, .int .i64 0, .string ⟨#[]⟩] 36)) := (Below.refl _ _).alloc (Nat.le_refl _) _
  have hR1 := hR.on hal
  have hZ := Blk.new w #[.int .i64 0, .int .i64 0, .string ⟨#[]⟩] 36
  have hz1 : (w.alloc (.cells #[.int .i64 0, .int .i64 0, .string ⟨#[]⟩] 36)).heap.size = w.heap.size + 1 := by simp
  match L, hR1, hlen with
  | [], _, _ =>
    have z0 := hZ.cell (i := 0) rfl
    have z1 := hZ.cell (i := 1) rfl
    have z2 := hZ.cell (i := 2) rfl
    have f0 := hZ.frozen 0
    have f1 := hZ.frozen 1
    have f2 := hZ.frozen 2
    have HZ : Hid (Blk (w.alloc (.cells #[.int .i64 0, .int .i64 0, .string ⟨#[]⟩] 36)) w.heap.size #[.int .i64 0, .int .i64 0, .string ⟨#[]⟩] 36 ∧ Below w.heap.size w (w.alloc (.cells #[.int .i64 0, .int .i64 0, .string ⟨#[]⟩] 36))) := ⟨hZ, hal⟩
    clear hZ hal hR hz1
    go_enter Tryz.func53, Tryz.ntmps53
    go_wp2_with fail
    go_returns
    exact ⟨none, fun x hx => by simp at hx, rfl, by go_grown⟩
  | x0 :: L, hR1, hlen =>
    have hR0 := hR1 0 (by simp)
    obtain ⟨b0, o0, hp0, hb0, d0, d1, d2⟩ := hR0
    have hal2 : Below (w.alloc (.cells #[.int .i64 0, .int .i64 0, .string ⟨#[]⟩] 36)).heap.size (w.alloc (.cells #[.int .i64 0, .int .i64 0, .string ⟨#[]⟩] 36)) ((w.alloc (.cells #[.int .i64 0, .int .i64 0, .string ⟨#[]⟩] 36)).alloc (.cells #[.int .i64 x0.t, .int .i64 x0.i, .string x0.k] 36)) := (Below.refl _ _).alloc (Nat.le_refl _) _
    have hX0 : Blk ((w.alloc (.cells #[.int .i64 0, .int .i64 0, .string ⟨#[]⟩] 36)).alloc (.cells #[.int .i64 x0.t, .int .i64 x0.i, .string x0.k] 36)) (w.heap.size + 1) #[.int .i64 x0.t, .int .i64 x0.i, .string x0.k] 36 := by
      have h := Blk.new (w.alloc (.cells #[.int .i64 0, .int .i64 0, .string ⟨#[]⟩] 36)) #[.int .i64 x0.t, .int .i64 x0.i, .string x0.k] 36
      rw [hz1] at h
      exact h
    have HW : Hid (Blk ((w.alloc (.cells #[.int .i64 0, .int .i64 0, .string ⟨#[]⟩] 36)).alloc (.cells #[.int .i64 x0.t, .int .i64 x0.i, .string x0.k] 36)) w.heap.size #[.int .i64 0, .int .i64 0, .string ⟨#[]⟩] 36 ∧ Blk ((w.alloc (.cells #[.int .i64 0, .int .i64 0, .string ⟨#[]⟩] 36)).alloc (.cells #[.int .i64 x0.t, .int .i64 x0.i, .string x0.k] 36)) (w.heap.size + 1) #[.int .i64 x0.t, .int .i64 x0.i, .string x0.k] 36 ∧ RowP ((w.alloc (.cells #[.int .i64 0, .int .i64 0, .string ⟨#[]⟩] 36)).alloc (.cells #[.int .i64 x0.t, .int .i64 x0.i, .string x0.k] 36)) w.heap.size p (x0 :: L) ∧ Below w.heap.size w ((w.alloc (.cells #[.int .i64 0, .int .i64 0, .string ⟨#[]⟩] 36)).alloc (.cells #[.int .i64 x0.t, .int .i64 x0.i, .string x0.k] 36)) ∧ ((w.alloc (.cells #[.int .i64 0, .int .i64 0, .string ⟨#[]⟩] 36)).alloc (.cells #[.int .i64 x0.t, .int .i64 x0.i, .string x0.k] 36)).heap.size = w.heap.size + 1 + 1) := ⟨hZ.on hal2, hX0, hR.keep (hal.trans (hal2.mono (by omega))), hal.trans (hal2.mono (by omega)), by simp⟩
    have HLL : Hid ((x0 :: L).length = L.length + 1) := rfl
    have hlen2 : (x0 :: L).length ≤ 4398046511104 := hlen
    have hl1 : 1 ≤ (x0 :: L).length := by simp
    have d0' : (w.alloc (.cells #[.int .i64 0, .int .i64 0, .string ⟨#[]⟩] 36)).cell? ⟨b0, o0, none⟩ = some (.int .i64 x0.t) := by simpa using d0
    have d1' : (w.alloc (.cells #[.int .i64 0, .int .i64 0, .string ⟨#[]⟩] 36)).cell? ⟨b0, o0 + 1, none⟩ = some (.int .i64 x0.i) := by simpa using d1
    have d2' : (w.alloc (.cells #[.int .i64 0, .int .i64 0, .string ⟨#[]⟩] 36)).cell? ⟨b0, o0 + 2, none⟩ = some (.string x0.k) := by simpa using d2
    have HM0 : Hid (IsMin (fun x => x ∈ (x0 :: L).take 1) (some x0)) := ⟨by simp, fun x hx => by
      have e : x = x0 := by simpa using hx
      rw [e]; exact ltP_irrefl _⟩
    have HX0C : Hid (∀ (i : Nat) (hi : i < (x0 :: L).length) (y : Pt), y = (x0 :: L)[i] → ∀ z, z ∈ (x0 :: L).take (i + 1) ↔ z ∈ (x0 :: L).take i ∨ z = y) := fun i hi y hy z => by rw [hy]; exact take_mem _ i hi z
    subst hp0
    clear hR hal hR1 hZ hz1 hal2 hX0 d0 d1 d2 hb0 hlen
    obtain ⟨LL, hLL⟩ : ∃ LL, LL = x0 :: L := ⟨_, rfl⟩
    rw [← hLL] at HW hlen2 hl1 HM0 HX0C ⊢
    have hlz : ((LL.length : Int) == 0) = false := by
      rw [beq_eq_false_iff_ne]
      omega
    clear hLL HLL
    go_enter Tryz.func53, Tryz.ntmps53
    go_wp2_with fail
    generalize (w.alloc (.cells #[.int .i64 0, .int .i64 0, .string ⟨#[]⟩] 36)).alloc (.cells #[.int .i64 x0.t, .int .i64 x0.i, .string x0.k] 36) = wB at *
    go_loopw [5] (fun i wr => ∃ (j : Nat) (m : Pt), 1 ≤ j ∧ j ≤ LL.length ∧ i = .int .i64 (j : Int) ∧ Hid (IsMin (fun x => x ∈ LL.take j) (some m)) ∧ Hid (Blk wr (w.heap.size + 1) #[.int .i64 m.t, .int .i64 m.i, .string m.k] 36) ∧ Hid (Frm wB wr (fun k => k = w.heap.size + 1))) (fun i _ => LL.length - (intOf i).toNat)
    case atStart => exact ⟨1, x0, Nat.le_refl _, hl1, by go_num, HM0, HW.out.2.1, Frm.refl _ _⟩
    case round =>
      clear d0' d1' d2'
      obtain ⟨j, m, hj1, hj, rfl, HM, HB, HFr⟩ := hrel
      have HE : Hid (Below w.heap.size w wr ∧ w.heap.size + 1 < wr.heap.size ∧ Blk wr w.heap.size #[.int .i64 0, .int .i64 0, .string ⟨#[]⟩] 36) := ⟨HW.out.2.2.2.1.trans (HFr.out.below (by have := HW.out.2.2.2.2; omega) (fun k hk => by omega)), HB.out.lt, HW.out.1.frm HFr.out (by omega)⟩
      by_cases hj0 : j = LL.length
      · subst hj0
        have m0 := HB.out.cell (i := 0) rfl
        have m1 := HB.out.cell (i := 1) rfl
        have m2 := HB.out.cell (i := 2) rfl
        have z0 := HE.out.2.2.cell (i := 0) rfl
        have z1 := HE.out.2.2.cell (i := 1) rfl
        have z2 := HE.out.2.2.cell (i := 2) rfl
        have f0 := HE.out.2.2.frozen 0
        have f1 := HE.out.2.2.frozen 1
        have f2 := HE.out.2.2.frozen 2
        have HR2 : Hid (Blk (((wr.setCell ⟨w.heap.size, 0, none⟩ (.int .i64 m.t)).setCell ⟨w.heap.size, 1, none⟩ (.int .i64 m.i)).setCell ⟨w.heap.size, 2, none⟩ (.string m.k)) w.heap.size #[.int .i64 m.t, .int .i64 m.i, .string m.k] 36 ∧ Below w.heap.size w (((wr.setCell ⟨w.heap.size, 0, none⟩ (.int .i64 m.t)).setCell ⟨w.heap.size, 1, none⟩ (.int .i64 m.i)).setCell ⟨w.heap.size, 2, none⟩ (.string m.k))) := ⟨((HE.out.2.2.set 0 _).set 1 _).set 2 _, ((HE.out.1.setCell (Nat.le_refl _) _).setCell (Nat.le_refl _) _).setCell (Nat.le_refl _) _⟩
        go_wp2_with fail
        generalize ((wr.setCell ⟨w.heap.size, 0, none⟩ (.int .i64 m.t)).setCell ⟨w.heap.size, 1, none⟩ (.int .i64 m.i)).setCell ⟨w.heap.size, 2, none⟩ (.string m.k) = we at *
        have r0 := HR2.out.1.cell (i := 0) rfl
        have r1 := HR2.out.1.cell (i := 1) rfl
        have r2 := HR2.out.1.cell (i := 2) rfl
        refine bodyPost_ret (v := .tuple #[PV m, .bool true]) (by simp [results, Tryz.results53, go_sem, r0, r1, r2]) rfl ?_
        exact ⟨some m, HM.out.ext (fun x => by rw [List.take_of_length_le (Nat.le_refl _)]), rfl, HR2.out.2⟩
      · have hj2 : j < LL.length := by omega
        have hRr : RowP wr w.heap.size (some ⟨b0, o0, none⟩) LL := fun i hi => by
          obtain ⟨b, o, e, hb, c0, c1, c2⟩ := HW.out.2.2.1 i hi
          have k : ∀ q, wr.cell? ⟨b, q, none⟩ = wB.cell? ⟨b, q, none⟩ := fun q => cell_block (HFr.out.block b (by have := HW.out.2.2.2.2; omega) (by omega))
          exact ⟨b, o, e, hb, (k _).trans c0, (k _).trans c1, (k _).trans c2⟩
        obtain ⟨b, o, hp, hb, c0, c1, c2⟩ := hRr j hj2
        have hb' : b < wr.heap.size := by have := HE.out.2.1; omega
        have HD : Hid (wr.cell? ⟨b, o + j * 3, none⟩ = some (.int .i64 LL[j].t) ∧ wr.cell? ⟨b, o + j * 3 + 1, none⟩ = some (.int .i64 LL[j].i) ∧ wr.cell? ⟨b, o + j * 3 + 2, none⟩ = some (.string LL[j].k) ∧ b < wr.heap.size) := ⟨c0, c1, c2, hb'⟩
        have s0 := InB.cell (w := wr) c0 hb'
        have s1 := InB.cell (w := wr) c1 hb'
        have s2 := InB.cell (w := wr) c2 hb'
        have q0 := InB.cell (w := wr) (HB.out.cell (i := 0) rfl) HB.out.lt
        have q1 := InB.cell (w := wr) (HB.out.cell (i := 1) rfl) HB.out.lt
        have q2 := InB.cell (w := wr) (HB.out.cell (i := 2) rfl) HB.out.lt
        have ne1 := inB_ne wr
        have HTM := HX0C.out j hj2
        obtain ⟨y, hy⟩ : ∃ y, y = LL[j] := ⟨_, rfl⟩
        have HTY : Hid (∀ z, z ∈ LL.take (j + 1) ↔ z ∈ LL.take j ∨ z = y) := HTM y hy
        rw [← hy] at HD s0 s1 s2
        have CC : Hid (∀ w1 : World, Calls Tryz.prog 67 #[PV y, PV m] w1 fun e w' => e = .returned (.int .i64 (cmpP y m)) ∧ Below w1.heap.size w1 w') := fun w1 => rcmp_any y m w1
        have HMA : Hid (IsMin (fun x => x ∈ LL.take (j + 1)) (if decide (cmpP y m < 0) then some y else some m)) := (HM.out.add y).ext (fun z => (HTY.out z).symm)
        obtain ⟨rfl, rfl⟩ : b0 = b ∧ o0 = o := by
          cases hp
          exact ⟨rfl, rfl⟩
        clear hRr c0 c1 c2 hb hp hy HTM hb'
        generalize cmpP y m = cm at *
        cases hc : decide (cm < 0)
        · rw [hc] at HMA
          go_wp2_with fail
          refine wp_region_inB (by kernel_rfl) (by kernel_rfl) ?_
          repeat (go_big_quiet_step (first
            | (go_at_call 67; exact Calls.inB (CC.out _))))
          refine wpQuiet_nil ?_
          rintro w7 ⟨⟨w8, hb7⟩, h9⟩
          obtain rfl : w7 = w8 := h9
          clear s0 s1 s2 q0 q1 q2 ne1 CC
          go_wp2_with fail
          go_roundw
          case rel => exact ⟨j + 1, m, by omega, by omega, by go_num, HMA.out, HB.out.on hb7, HFr.out.trans (Frm.of_below (F := fun k => k = w.heap.size + 1) hb7) (fun k hk => .inl hk)⟩
          case measure => simp [intOf]; omega
        · rw [hc] at HMA
          go_wp2_with fail
          refine wp_region_inB (by kernel_rfl) (by kernel_rfl) ?_
          repeat (go_big_quiet_step (first
            | (go_at_call 67; exact Calls.inB (CC.out _))))
          refine wpQuiet_nil ?_
          rintro w7 ⟨⟨w8, hb7⟩, h9⟩
          obtain rfl : w7 = w8 := h9
          clear s0 s1 s2 q0 q1 q2 ne1 CC
          have c0 := (hb7.cell (p := ⟨b0, o0 + j * 3, none⟩) HD.out.2.2.2).trans HD.out.1
          have c1 := (hb7.cell (p := ⟨b0, o0 + j * 3 + 1, none⟩) HD.out.2.2.2).trans HD.out.2.1
          have c2 := (hb7.cell (p := ⟨b0, o0 + j * 3 + 2, none⟩) HD.out.2.2.2).trans HD.out.2.2.1
          have HB7 : Hid (Blk w7 (w.heap.size + 1) #[.int .i64 m.t, .int .i64 m.i, .string m.k] 36) := HB.out.on hb7
          have e0 := HB7.out.cell (i := 0) rfl
          have e1 := HB7.out.cell (i := 1) rfl
          have e2 := HB7.out.cell (i := 2) rfl
          have f0 := HB7.out.frozen 0
          have f1 := HB7.out.frozen 1
          have f2 := HB7.out.frozen 2
          go_wp2_with fail
          go_roundw
          case rel => exact ⟨j + 1, y, by omega, by omega, by go_num, HMA.out, ((HB7.out.set 0 _).set 1 _).set 2 _, (((HFr.out.trans (Frm.of_below (F := fun k => k = w.heap.size + 1) hb7) (fun k hk => .inl hk)).trans (frm_set _ _ _ _ (F := fun k => k = w.heap.size + 1) (.inl rfl)) (fun k hk => .inl hk)).trans (frm_set _ _ _ _ (F := fun k => k = w.heap.size + 1) (.inl rfl)) (fun k hk => .inl hk)).trans (frm_set _ _ _ _ (F := fun k => k = w.heap.size + 1) (.inl rfl)) (fun k hk => .inl hk)⟩
          case measure => simp [intOf]; omega

end Go.Proofs.YtcknhjabdjbjiabGreat

namespace Go.Proofs.YtcknhjabdjbjiabGreat
open Go.RowKit
set_option maxRecDepth 100000

theorem own_empty (w : World) : OwnP (w.alloc (.cells #[] 36)) w.heap.size (.slice (some ⟨w.heap.size, 0, none⟩) 0 0) [] := by
  have h := World.ownsRow_lit (e := 36) (size := 3) w #[] 0 (Nat.le_refl _) (Nat.zero_le _) rfl
  exact h
theorem filter_take {α : Type} (f : α → Bool) (L : List α) (j : Nat) (hj : j < L.length) : (L.take (j + 1)).filter f = (L.take j).filter f ++ (if f L[j] then [L[j]] else []) := by
  rw [← List.take_append_getElem hj, List.filter_append]
  congr 1
  cases h : f L[j] <;> simp [h]

set_option maxHeartbeats 8000000 in
theorem rclash_any (a b : Ft) (va0 va1 va2 vb0 vb1 vb2 : Value) (w : World) (ha : RdF w va0 va1 va2 a) (hb : RdF w vb0 vb1 vb2 b) :
    Calls Tryz.prog 33 #[.agg #[va0, va1, va2], .agg #[vb0, vb1, vb2]] w fun e w' => ∃ o, IsMin (fun x => x ∈ b.W ∧ a.rds x) o ∧ e = .returned (.tuple #[PV (lP o), .bool o.isSome]) ∧ Below w.heap.size w w' := by
  obtain ⟨pw, cw, eb2, lw1, lw2, hpw⟩ := hb.w.f
  have hal : Below w.heap.size w (((w.alloc (.cells #[va0, va1, va2] 27)).alloc (.cells #[vb0, vb1, vb2] 27)).alloc (.cells #[.int .i64 0, .int .i64 0, .string ⟨#[]⟩] 36)) := (((Below.refl _ _).alloc (Nat.le_refl _) _).alloc (by simp) _).alloc (by simp <;> omega) _
  have hz : (((w.alloc (.cells #[va0, va1, va2] 27)).alloc (.cells #[vb0, vb1, vb2] 27)).alloc (.cells #[.int .i64 0, .int .i64 0, .string ⟨#[]⟩] 36)).heap.size = w.heap.size + 1 + 1 + 1 := by simp
  have hA0 : Blk (((w.alloc (.cells #[va0, va1, va2] 27)).alloc (.cells #[vb0, vb1, vb2] 27)).alloc (.cells #[.int .i64 0, .int .i64 0, .string ⟨#[]⟩] 36)) w.heap.size #[va0, va1, va2] 27 := (Blk.new w #[va0, va1, va2] 27).keep (B := w.heap.size + 1) (((Below.refl _ _).alloc (by simp) _).alloc (by simp) _) (by omega)
  have hB0 : Blk (((w.alloc (.cells #[va0, va1, va2] 27)).alloc (.cells #[vb0, vb1, vb2] 27)).alloc (.cells #[.int .i64 0, .int .i64 0, .string ⟨#[]⟩] 36)) (w.heap.size + 1) #[vb0, vb1, vb2] 27 := by
    have h := Blk.new (w.alloc (.cells #[va0, va1, va2] 27)) #[vb0, vb1, vb2] 27
    have e : (w.alloc (.cells #[va0, va1, va2] 27)).heap.size = w.heap.size + 1 := by simp
    rw [e] at h
    exact h.keep (B := w.heap.size + 1 + 1) ((Below.refl _ _).alloc (by simp) _) (by omega)
  have hC0 : Blk (((w.alloc (.cells #[va0, va1, va2] 27)).alloc (.cells #[vb0, vb1, vb2] 27)).alloc (.cells #[.int .i64 0, .int .i64 0, .string ⟨#[]⟩] 36)) (w.heap.size + 1 + 1) #[.int .i64 0, .int .i64 0, .string ⟨#[]⟩] 36 := by
    have h := Blk.new ((w.alloc (.cells #[va0, va1, va2] 27)).alloc (.cells #[vb0, vb1, vb2] 27)) #[.int .i64 0, .int .i64 0, .string ⟨#[]⟩] 36
    have e : ((w.alloc (.cells #[va0, va1, va2] 27)).alloc (.cells #[vb0, vb1, vb2] 27)).heap.size = w.heap.size + 1 + 1 := by simp
    rw [e] at h
    exact h
  have hO := own_empty (((w.alloc (.cells #[va0, va1, va2] 27)).alloc (.cells #[vb0, vb1, vb2] 27)).alloc (.cells #[.int .i64 0, .int .i64 0, .string ⟨#[]⟩] 36))
  have hal4 : Below (((w.alloc (.cells #[va0, va1, va2] 27)).alloc (.cells #[vb0, vb1, vb2] 27)).alloc (.cells #[.int .i64 0, .int .i64 0, .string ⟨#[]⟩] 36)).heap.size (((w.alloc (.cells #[va0, va1, va2] 27)).alloc (.cells #[vb0, vb1, vb2] 27)).alloc (.cells #[.int .i64 0, .int .i64 0, .string ⟨#[]⟩] 36)) ((((w.alloc (.cells #[va0, va1, va2] 27)).alloc (.cells #[vb0, vb1, vb2] 27)).alloc (.cells #[.int .i64 0, .int .i64 0, .string ⟨#[]⟩] 36)).alloc (.cells #[] 36)) := (Below.refl _ _).alloc (Nat.le_refl _) _
  rw [hz] at hO
  have HW : Hid (Below w.heap.size w ((((w.alloc (.cells #[va0, va1, va2] 27)).alloc (.cells #[vb0, vb1, vb2] 27)).alloc (.cells #[.int .i64 0, .int .i64 0, .string ⟨#[]⟩] 36)).alloc (.cells #[] 36)) ∧ w.heap.size + 1 + 1 + 1 ≤ ((((w.alloc (.cells #[va0, va1, va2] 27)).alloc (.cells #[vb0, vb1, vb2] 27)).alloc (.cells #[.int .i64 0, .int .i64 0, .string ⟨#[]⟩] 36)).alloc (.cells #[] 36)).heap.size ∧ Blk ((((w.alloc (.cells #[va0, va1, va2] 27)).alloc (.cells #[vb0, vb1, vb2] 27)).alloc (.cells #[.int .i64 0, .int .i64 0, .string ⟨#[]⟩] 36)).alloc (.cells #[] 36)) w.heap.size #[va0, va1, va2] 27 ∧ Blk ((((w.alloc (.cells #[va0, va1, va2] 27)).alloc (.cells #[vb0, vb1, vb2] 27)).alloc (.cells #[.int .i64 0, .int .i64 0, .string ⟨#[]⟩] 36)).alloc (.cells #[] 36)) (w.heap.size + 1) #[vb0, vb1, vb2] 27 ∧ Blk ((((w.alloc (.cells #[va0, va1, va2] 27)).alloc (.cells #[vb0, vb1, vb2] 27)).alloc (.cells #[.int .i64 0, .int .i64 0, .string ⟨#[]⟩] 36)).alloc (.cells #[] 36)) (w.heap.size + 1 + 1) #[.int .i64 0, .int .i64 0, .string ⟨#[]⟩] 36 ∧ OwnP ((((w.alloc (.cells #[va0, va1, va2] 27)).alloc (.cells #[vb0, vb1, vb2] 27)).alloc (.cells #[.int .i64 0, .int .i64 0, .string ⟨#[]⟩] 36)).alloc (.cells #[] 36)) (w.heap.size + 1 + 1 + 1) (.slice (some ⟨w.heap.size + 1 + 1 + 1, 0, none⟩) 0 0) []) := ⟨hal.trans (hal4.mono hal.size), by rw [← hz]; exact hal4.size, hA0.on hal4, hB0.on hal4, hC0.on hal4, hO⟩
  have HR : Hid (RdF w va0 va1 va2 a ∧ RowP w w.heap.size pw b.W) := ⟨ha, hpw⟩
  have hlw := hb.lw
  obtain ⟨L, hL⟩ : ∃ L, L = b.W := ⟨_, rfl⟩
  subst eb2
  rw [← hL] at HW HR hlw ⊢
  have HLb : Hid (L = b.W) := hL
  clear ha hb hal hz hA0 hB0 hC0 hO hal4 hpw lw1 lw2 hL
  go_enter Tryz.func33, Tryz.ntmps33
  go_wp2_with fail
  generalize ((((w.alloc (.cells #[va0, va1, va2] 27)).alloc (.cells #[vb0, vb1, (.slice pw L.length cw)] 27)).alloc (.cells #[.int .i64 0, .int .i64 0, .string ⟨#[]⟩] 36)).alloc (.cells #[] 36)) = w4 at *
  go_loopw [6, 7] (fun v i wr => ∃ j : Nat, j ≤ L.length ∧ i = .int .i64 (j : Int) ∧ Hid (OwnP wr (w.heap.size + 1 + 1 + 1) v ((L.take j).filter (rdsB a))) ∧ Hid (Below (w.heap.size + 1 + 1 + 1) w4 wr)) (fun _ i _ => L.length - (intOf i).toNat)
  case atStart => exact ⟨0, Nat.zero_le _, by go_num, HW.out.2.2.2.2.2, Below.refl _ _⟩
  case round =>
    obtain ⟨j, hj, rfl, HO, HN⟩ := hrel
    have HE : Hid (Below w.heap.size w wr ∧ w.heap.size + 1 + 1 + 1 ≤ wr.heap.size ∧ Blk wr w.heap.size #[va0, va1, va2] 27 ∧ Blk wr (w.heap.size + 1) #[vb0, vb1, .slice pw L.length cw] 27 ∧ Blk wr (w.heap.size + 1 + 1) #[.int .i64 0, .int .i64 0, .string ⟨#[]⟩] 36) := ⟨HW.out.1.trans (HN.out.mono (by omega)), Nat.le_trans HW.out.2.1 HN.out.size, HW.out.2.2.1.keep HN.out (by omega), HW.out.2.2.2.1.keep HN.out (by omega), HW.out.2.2.2.2.1.keep HN.out (by omega)⟩
    have g2 := HE.out.2.2.2.1.cell (i := 2) rfl
    by_cases hj0 : j = L.length
    · subst hj0
      have hO := HO.out
      rw [List.take_of_length_le (Nat.le_refl _)] at hO
      obtain ⟨p6, c6, e6, h6⟩ := hO.row
      have hl6 : (L.filter (rdsB a)).length ≤ 4398046511104 := Nat.le_trans (List.length_filter_le _ _) hlw
      have CL : Hid (Calls _ _ _ _ _) := rleast_any (L.filter (rdsB a)) p6 c6 wr h6 hl6
      rw [← e6] at CL
      have HMM : Hid (∀ x, x ∈ L.filter (rdsB a) ↔ (x ∈ b.W ∧ a.rds x)) := fun x => by rw [List.mem_filter, rdsB_iff, ← HLb.out]
      clear hO h6 e6 hl6
      go_wp2_with fail
      refine CL.out.mono ?_
      rintro e w5 ⟨o2, hm2, rfl, hb5⟩
      have HM : Hid (IsMin (fun x => x ∈ b.W ∧ a.rds x) o2) := hm2.ext HMM.out
      have hC := HE.out.2.2.2.2.on hb5
      have HE5 : Hid (Below w.heap.size w w5) := HE.out.1.trans (hb5.mono HE.out.1.size)
      have z0 := hC.cell (i := 0) rfl
      have z1 := hC.cell (i := 1) rfl
      have z2 := hC.cell (i := 2) rfl
      have f0 := hC.frozen 0
      have f1 := hC.frozen 1
      have f2 := hC.frozen 2
      have HC : Hid (Blk w5 (w.heap.size + 1 + 1) #[.int .i64 0, .int .i64 0, .string ⟨#[]⟩] 36) := hC
      clear hm2 hb5 hC CL g2
      obtain ⟨m, hm⟩ : ∃ m, m = lP o2 := ⟨_, rfl⟩
      obtain ⟨so, hso⟩ : ∃ so, so = o2.isSome := ⟨_, rfl⟩
      have HX : Hid (m = lP o2 ∧ so = o2.isSome) := ⟨hm, hso⟩
      rw [← hm, ← hso]
      clear hm hso
      have HR2 : Hid (Blk (((w5.setCell ⟨w.heap.size + 1 + 1, 0, none⟩ (.int .i64 m.t)).setCell ⟨w.heap.size + 1 + 1, 1, none⟩ (.int .i64 m.i)).setCell ⟨w.heap.size + 1 + 1, 2, none⟩ (.string m.k)) (w.heap.size + 1 + 1) #[.int .i64 m.t, .int .i64 m.i, .string m.k] 36 ∧ Below w.heap.size w (((w5.setCell ⟨w.heap.size + 1 + 1, 0, none⟩ (.int .i64 m.t)).setCell ⟨w.heap.size + 1 + 1, 1, none⟩ (.int .i64 m.i)).setCell ⟨w.heap.size + 1 + 1, 2, none⟩ (.string m.k))) := ⟨((HC.out.set 0 _).set 1 _).set 2 _, ((HE5.out.setCell (show w.heap.size ≤ w.heap.size + 1 + 1 by omega) _).setCell (show w.heap.size ≤ w.heap.size + 1 + 1 by omega) _).setCell (show w.heap.size ≤ w.heap.size + 1 + 1 by omega) _⟩
      go_wp2_with fail
      generalize ((w5.setCell ⟨w.heap.size + 1 + 1, 0, none⟩ (.int .i64 m.t)).setCell ⟨w.heap.size + 1 + 1, 1, none⟩ (.int .i64 m.i)).setCell ⟨w.heap.size + 1 + 1, 2, none⟩ (.string m.k) = we at *
      have r0 := HR2.out.1.cell (i := 0) rfl
      have r1 := HR2.out.1.cell (i := 1) rfl
      have r2 := HR2.out.1.cell (i := 2) rfl
      refine bodyPost_ret (v := .tuple #[PV m, .bool so]) (by simp [results, Tryz.results33, go_sem, r0, r1, r2]) rfl ?_
      exact ⟨o2, by have h := HM.out; rw [← HLb.out] at h; exact h, by rw [HX.out.1, HX.out.2], HR2.out.2⟩
    · have hj1 : j < L.length := by omega
      obtain ⟨b9, o9, hp, hbB, c0, c1, c2⟩ := (HR.out.2.keep HE.out.1) j hj1
      have hb9 : b9 < wr.heap.size := by have := HE.out.2.1; omega
      have HD : Hid (wr.cell? ⟨b9, o9 + j * 3, none⟩ = some (.int .i64 L[j].t) ∧ wr.cell? ⟨b9, o9 + j * 3 + 1, none⟩ = some (.int .i64 L[j].i) ∧ wr.cell? ⟨b9, o9 + j * 3 + 2, none⟩ = some (.string L[j].k) ∧ b9 < wr.heap.size) := ⟨c0, c1, c2, hb9⟩
      have s0 := InB.cell (w := wr) c0 hb9
      have s1 := InB.cell (w := wr) c1 hb9
      have s2 := InB.cell (w := wr) c2 hb9
      have q0 := InB.cell (w := wr) (HE.out.2.2.1.cell (i := 0) rfl) HE.out.2.2.1.lt
      have q1 := InB.cell (w := wr) (HE.out.2.2.1.cell (i := 1) rfl) HE.out.2.2.1.lt
      have q2 := InB.cell (w := wr) (HE.out.2.2.1.cell (i := 2) rfl) HE.out.2.2.1.lt
      have u2 := InB.cell (w := wr) g2 HE.out.2.2.2.1.lt
      have ne1 := inB_ne wr
      have HFT : Hid ((L.take (j + 1)).filter (rdsB a) = (L.take j).filter (rdsB a) ++ (if rdsB a L[j] then [L[j]] else [])) := filter_take (rdsB a) L j hj1
      have CR : Hid (∀ w1 : World, Below wr.heap.size wr w1 → Calls Tryz.prog 52 #[.agg #[va0, va1, va2], PV L[j]] w1 fun e w' => e = .returned (.bool (rdsB a L[j])) ∧ Below w1.heap.size w1 w') := fun w1 h1 => rreads_any a L[j] va0 va1 va2 w1 ((HR.out.1.on HE.out.1).on h1)
      have hol : ((L.take j).filter (rdsB a)).length + 1 ≤ 4398046511104 := by
        have h1 := List.length_filter_le (rdsB a) (L.take j)
        rw [List.length_take] at h1
        omega
      have HOL : Hid (((L.take j).filter (rdsB a)).length + 1 ≤ 4398046511104) := hol
      subst hp
      clear c0 c1 c2 hb9 hol hj0 hbB
      generalize L[j] = x at *
      cases hr : rdsB a x
      · rw [hr] at CR HFT
        clear hr
        go_wp2_with fail
        refine wp_region_inB (by kernel_rfl) (by kernel_rfl) ?_
        repeat (go_big_quiet_step (first
          | (go_at_call 52; exact Calls.inB (CR.out _ (InB.h _)))))
        refine wpQuiet_nil ?_
        rintro w7 ⟨⟨w8, hb7⟩, h9⟩
        obtain rfl : w7 = w8 := h9
        clear s0 s1 s2 q0 q1 q2 u2 ne1 CR g2
        go_wp2_with fail
        go_roundw
        case rel => exact ⟨j + 1, by omega, by go_num, by
          refine (show OwnP _ _ _ _ from ?_)
          rw [HFT.out]
          simpa using HO.out.kept hb7, HN.out.trans (hb7.mono HE.out.2.1)⟩
        case measure => simp [intOf]; omega
      · rw [hr] at CR HFT
        clear hr
        go_wp2_with fail
        refine wp_region_inB (by kernel_rfl) (by kernel_rfl) ?_
        repeat (go_big_quiet_step (first
          | (go_at_call 52; exact Calls.inB (CR.out _ (InB.h _)))))
        refine wpQuiet_nil ?_
        rintro w7 ⟨⟨w8, hb7⟩, h9⟩
        obtain rfl : w7 = w8 := h9
        clear s0 s1 s2 q0 q1 q2 u2 ne1 CR
        have g2' := (hb7.cell (p := ⟨w.heap.size + 1, 2, none⟩) HE.out.2.2.2.1.lt).trans g2
        have c0 := (hb7.cell (p := ⟨b9, o9 + j * 3, none⟩) HD.out.2.2.2).trans HD.out.1
        have c1 := (hb7.cell (p := ⟨b9, o9 + j * 3 + 1, none⟩) HD.out.2.2.2).trans HD.out.2.1
        have c2 := (hb7.cell (p := ⟨b9, o9 + j * 3 + 2, none⟩) HD.out.2.2.2).trans HD.out.2.2.1
        have HO7 : Hid (OwnP w7 (w.heap.size + 1 + 1 + 1) _ ((L.take j).filter (rdsB a)) ∧ w.heap.size + 1 + 1 + 1 ≤ w7.heap.size ∧ Below (w.heap.size + 1 + 1 + 1) w4 w7) := ⟨HO.out.kept hb7, Nat.le_trans HE.out.2.1 hb7.size, HN.out.trans (hb7.mono HE.out.2.1)⟩
        clear hb7 g2 HO HN
        go_wp2_with (first | (at_builtin; refine wpList_appP _ rfl (.tmp 23) (.tmp 29) rfl (w.heap.size + 1 + 1 + 1) _ _ rfl HO7.out.1 x _ rfl ?gz ?ll ?bb ?_))
        case gz => rfl
        case ll => exact HOL.out
        case bb => exact HO7.out.2.1
        intro v8 w8 h1 h2
        have HO8 : Hid (OwnP w8 (w.heap.size + 1 + 1 + 1) v8 ((L.take (j + 1)).filter (rdsB a)) ∧ Below (w.heap.size + 1 + 1 + 1) w4 w8) := ⟨by rw [HFT.out]; exact h1, HO7.out.2.2.trans h2⟩
        clear h1 h2 c0 c1 c2 g2'
        go_wp2_with fail
        go_roundw
        case rel => exact ⟨j + 1, by omega, by go_num, HO8.out.1, HO8.out.2⟩
        case measure => simp [intOf]; omega

end Go.Proofs.YtcknhjabdjbjiabGreat
