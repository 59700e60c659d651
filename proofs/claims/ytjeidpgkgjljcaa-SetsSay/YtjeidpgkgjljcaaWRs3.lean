/- The document's Clash. -/
import Derived.Test.YtjeidpgkgjljcaaWRs2
namespace Go.Proofs.Ytjeidpgkgjljcaa
open Go.RowKit
set_option maxRecDepth 100000

theorem own_empty (w : World) : OwnP (w.alloc (.cells #[] 27)) w.heap.size (.slice (some ⟨w.heap.size, 0, none⟩) 0 0) [] := by
  have h := World.ownsRow_lit (e := 27) (size := 3) w #[] 0 (Nat.le_refl _) (Nat.zero_le _) rfl
  exact h
theorem filter_take {α : Type} (f : α → Bool) (L : List α) (j : Nat) (hj : j < L.length) : (L.take (j + 1)).filter f = (L.take j).filter f ++ (if f L[j] then [L[j]] else []) := by
  rw [← List.take_append_getElem hj, List.filter_append]
  congr 1
  cases h : f L[j] <;> simp [h]

set_option maxHeartbeats 8000000 in
theorem rclash_any (a b : Ft) (va0 va1 va2 vb0 vb1 vb2 : Value) (w : World) (ha : RdF w va0 va1 va2 a) (hb : RdF w vb0 vb1 vb2 b) :
    Calls Try.prog 7 #[.agg #[va0, va1, va2], .agg #[vb0, vb1, vb2]] w fun e w' => ∃ o, IsMin (fun x => x ∈ b.W ∧ a.rds x) o ∧ e = .returned (.tuple #[PV (lP o), .bool o.isSome]) ∧ Below w.heap.size w w' := by
  obtain ⟨pw, cw, eb2, lw1, lw2, hpw⟩ := hb.w.f
  have hal : Below w.heap.size w (((w.alloc (.cells #[va0, va1, va2] 25)).alloc (.cells #[vb0, vb1, vb2] 25)).alloc (.cells #[.int .i64 0, .int .i64 0, .string ⟨#[]⟩] 27)) := (((Below.refl _ _).alloc (Nat.le_refl _) _).alloc (by simp) _).alloc (by simp <;> omega) _
  have hz : (((w.alloc (.cells #[va0, va1, va2] 25)).alloc (.cells #[vb0, vb1, vb2] 25)).alloc (.cells #[.int .i64 0, .int .i64 0, .string ⟨#[]⟩] 27)).heap.size = w.heap.size + 1 + 1 + 1 := by simp
  have hA0 : Blk (((w.alloc (.cells #[va0, va1, va2] 25)).alloc (.cells #[vb0, vb1, vb2] 25)).alloc (.cells #[.int .i64 0, .int .i64 0, .string ⟨#[]⟩] 27)) w.heap.size #[va0, va1, va2] 25 := (Blk.new w #[va0, va1, va2] 25).keep (B := w.heap.size + 1) (((Below.refl _ _).alloc (by simp) _).alloc (by simp) _) (by omega)
  have hB0 : Blk (((w.alloc (.cells #[va0, va1, va2] 25)).alloc (.cells #[vb0, vb1, vb2] 25)).alloc (.cells #[.int .i64 0, .int .i64 0, .string ⟨#[]⟩] 27)) (w.heap.size + 1) #[vb0, vb1, vb2] 25 := by
    have h := Blk.new (w.alloc (.cells #[va0, va1, va2] 25)) #[vb0, vb1, vb2] 25
    have e : (w.alloc (.cells #[va0, va1, va2] 25)).heap.size = w.heap.size + 1 := by simp
    rw [e] at h
    exact h.keep (B := w.heap.size + 1 + 1) ((Below.refl _ _).alloc (by simp) _) (by omega)
  have hC0 : Blk (((w.alloc (.cells #[va0, va1, va2] 25)).alloc (.cells #[vb0, vb1, vb2] 25)).alloc (.cells #[.int .i64 0, .int .i64 0, .string ⟨#[]⟩] 27)) (w.heap.size + 1 + 1) #[.int .i64 0, .int .i64 0, .string ⟨#[]⟩] 27 := by
    have h := Blk.new ((w.alloc (.cells #[va0, va1, va2] 25)).alloc (.cells #[vb0, vb1, vb2] 25)) #[.int .i64 0, .int .i64 0, .string ⟨#[]⟩] 27
    have e : ((w.alloc (.cells #[va0, va1, va2] 25)).alloc (.cells #[vb0, vb1, vb2] 25)).heap.size = w.heap.size + 1 + 1 := by simp
    rw [e] at h
    exact h
  have hO := own_empty (((w.alloc (.cells #[va0, va1, va2] 25)).alloc (.cells #[vb0, vb1, vb2] 25)).alloc (.cells #[.int .i64 0, .int .i64 0, .string ⟨#[]⟩] 27))
  have hal4 : Below (((w.alloc (.cells #[va0, va1, va2] 25)).alloc (.cells #[vb0, vb1, vb2] 25)).alloc (.cells #[.int .i64 0, .int .i64 0, .string ⟨#[]⟩] 27)).heap.size (((w.alloc (.cells #[va0, va1, va2] 25)).alloc (.cells #[vb0, vb1, vb2] 25)).alloc (.cells #[.int .i64 0, .int .i64 0, .string ⟨#[]⟩] 27)) ((((w.alloc (.cells #[va0, va1, va2] 25)).alloc (.cells #[vb0, vb1, vb2] 25)).alloc (.cells #[.int .i64 0, .int .i64 0, .string ⟨#[]⟩] 27)).alloc (.cells #[] 27)) := (Below.refl _ _).alloc (Nat.le_refl _) _
  rw [hz] at hO
  have HW : Hid (Below w.heap.size w ((((w.alloc (.cells #[va0, va1, va2] 25)).alloc (.cells #[vb0, vb1, vb2] 25)).alloc (.cells #[.int .i64 0, .int .i64 0, .string ⟨#[]⟩] 27)).alloc (.cells #[] 27)) ∧ w.heap.size + 1 + 1 + 1 ≤ ((((w.alloc (.cells #[va0, va1, va2] 25)).alloc (.cells #[vb0, vb1, vb2] 25)).alloc (.cells #[.int .i64 0, .int .i64 0, .string ⟨#[]⟩] 27)).alloc (.cells #[] 27)).heap.size ∧ Blk ((((w.alloc (.cells #[va0, va1, va2] 25)).alloc (.cells #[vb0, vb1, vb2] 25)).alloc (.cells #[.int .i64 0, .int .i64 0, .string ⟨#[]⟩] 27)).alloc (.cells #[] 27)) w.heap.size #[va0, va1, va2] 25 ∧ Blk ((((w.alloc (.cells #[va0, va1, va2] 25)).alloc (.cells #[vb0, vb1, vb2] 25)).alloc (.cells #[.int .i64 0, .int .i64 0, .string ⟨#[]⟩] 27)).alloc (.cells #[] 27)) (w.heap.size + 1) #[vb0, vb1, vb2] 25 ∧ Blk ((((w.alloc (.cells #[va0, va1, va2] 25)).alloc (.cells #[vb0, vb1, vb2] 25)).alloc (.cells #[.int .i64 0, .int .i64 0, .string ⟨#[]⟩] 27)).alloc (.cells #[] 27)) (w.heap.size + 1 + 1) #[.int .i64 0, .int .i64 0, .string ⟨#[]⟩] 27 ∧ OwnP ((((w.alloc (.cells #[va0, va1, va2] 25)).alloc (.cells #[vb0, vb1, vb2] 25)).alloc (.cells #[.int .i64 0, .int .i64 0, .string ⟨#[]⟩] 27)).alloc (.cells #[] 27)) (w.heap.size + 1 + 1 + 1) (.slice (some ⟨w.heap.size + 1 + 1 + 1, 0, none⟩) 0 0) []) := ⟨hal.trans (hal4.mono hal.size), by rw [← hz]; exact hal4.size, hA0.on hal4, hB0.on hal4, hC0.on hal4, hO⟩
  have HR : Hid (RdF w va0 va1 va2 a ∧ RowP w w.heap.size pw b.W) := ⟨ha, hpw⟩
  have hlw := hb.lw
  obtain ⟨L, hL⟩ : ∃ L, L = b.W := ⟨_, rfl⟩
  subst eb2
  rw [← hL] at HW HR hlw ⊢
  have HLb : Hid (L = b.W) := hL
  clear ha hb hal hz hA0 hB0 hC0 hO hal4 hpw lw1 lw2 hL
  go_enter Try.func7, Try.ntmps7
  go_wp2_with fail
  generalize ((((w.alloc (.cells #[va0, va1, va2] 25)).alloc (.cells #[vb0, vb1, (.slice pw L.length cw)] 25)).alloc (.cells #[.int .i64 0, .int .i64 0, .string ⟨#[]⟩] 27)).alloc (.cells #[] 27)) = w4 at *
  go_loopw [6, 7] (fun v i wr => ∃ j : Nat, j ≤ L.length ∧ i = .int .i64 (j : Int) ∧ Hid (OwnP wr (w.heap.size + 1 + 1 + 1) v ((L.take j).filter (rdsB a))) ∧ Hid (Below (w.heap.size + 1 + 1 + 1) w4 wr)) (fun _ i _ => L.length - (intOf i).toNat)
  case atStart => exact ⟨0, Nat.zero_le _, by go_num, HW.out.2.2.2.2.2, Below.refl _ _⟩
  case round =>
    obtain ⟨j, hj, rfl, HO, HN⟩ := hrel
    have HE : Hid (Below w.heap.size w wr ∧ w.heap.size + 1 + 1 + 1 ≤ wr.heap.size ∧ Blk wr w.heap.size #[va0, va1, va2] 25 ∧ Blk wr (w.heap.size + 1) #[vb0, vb1, .slice pw L.length cw] 25 ∧ Blk wr (w.heap.size + 1 + 1) #[.int .i64 0, .int .i64 0, .string ⟨#[]⟩] 27) := ⟨HW.out.1.trans (HN.out.mono (by omega)), Nat.le_trans HW.out.2.1 HN.out.size, HW.out.2.2.1.keep HN.out (by omega), HW.out.2.2.2.1.keep HN.out (by omega), HW.out.2.2.2.2.1.keep HN.out (by omega)⟩
    have g2 := HE.out.2.2.2.1.cell (i := 2) rfl
    by_cases hj0 : j = L.length
    · subst hj0
      have hO := HO.out
      rw [List.take_of_length_le (Nat.le_refl _)] at hO
      obtain ⟨p6, c6, e6, h6⟩ := hO.row
      have hl6 : (L.filter (rdsB a)).length ≤ 4398046511104 := Nat.le_trans (List.length_filter_le _ _) hlw
      have CL : Hid (Calls _ _ _ _ _) := rleast_any (L.filter (rdsB a)) p6 c6 wr h6 hl6
      rw [← e6] at CL
      have HMM : Hid (∀ x, x ∈ L.filter (rdsB a) ↔ (x ∈ b.W ∧ a.rds x)) := fun x => by rw [List.mem_filter, rdsB_iff, ← HLb.out]
      clear hO h6 e6 hl6
      go_wp2_with fail
      refine CL.out.mono ?_
      rintro e w5 ⟨o2, hm2, rfl, hb5⟩
      have HM : Hid (IsMin (fun x => x ∈ b.W ∧ a.rds x) o2) := hm2.ext HMM.out
      have hC := HE.out.2.2.2.2.on hb5
      have HE5 : Hid (Below w.heap.size w w5) := HE.out.1.trans (hb5.mono HE.out.1.size)
      have z0 := hC.cell (i := 0) rfl
      have z1 := hC.cell (i := 1) rfl
      have z2 := hC.cell (i := 2) rfl
      have f0 := hC.frozen 0
      have f1 := hC.frozen 1
      have f2 := hC.frozen 2
      have HC : Hid (Blk w5 (w.heap.size + 1 + 1) #[.int .i64 0, .int .i64 0, .string ⟨#[]⟩] 27) := hC
      clear hm2 hb5 hC CL g2
      obtain ⟨m, hm⟩ : ∃ m, m = lP o2 := ⟨_, rfl⟩
      obtain ⟨so, hso⟩ : ∃ so, so = o2.isSome := ⟨_, rfl⟩
      have HX : Hid (m = lP o2 ∧ so = o2.isSome) := ⟨hm, hso⟩
      rw [← hm, ← hso]
      clear hm hso
      have HR2 : Hid (Blk (((w5.setCell ⟨w.heap.size + 1 + 1, 0, none⟩ (.int .i64 m.t)).setCell ⟨w.heap.size + 1 + 1, 1, none⟩ (.int .i64 m.i)).setCell ⟨w.heap.size + 1 + 1, 2, none⟩ (.string m.k)) (w.heap.size + 1 + 1) #[.int .i64 m.t, .int .i64 m.i, .string m.k] 27 ∧ Below w.heap.size w (((w5.setCell ⟨w.heap.size + 1 + 1, 0, none⟩ (.int .i64 m.t)).setCell ⟨w.heap.size + 1 + 1, 1, none⟩ (.int .i64 m.i)).setCell ⟨w.heap.size + 1 + 1, 2, none⟩ (.string m.k))) := ⟨((HC.out.set 0 _).set 1 _).set 2 _, ((HE5.out.setCell (show w.heap.size ≤ w.heap.size + 1 + 1 by omega) _).setCell (show w.heap.size ≤ w.heap.size + 1 + 1 by omega) _).setCell (show w.heap.size ≤ w.heap.size + 1 + 1 by omega) _⟩
      go_wp2_with fail
      generalize ((w5.setCell ⟨w.heap.size + 1 + 1, 0, none⟩ (.int .i64 m.t)).setCell ⟨w.heap.size + 1 + 1, 1, none⟩ (.int .i64 m.i)).setCell ⟨w.heap.size + 1 + 1, 2, none⟩ (.string m.k) = we at *
      have r0 := HR2.out.1.cell (i := 0) rfl
      have r1 := HR2.out.1.cell (i := 1) rfl
      have r2 := HR2.out.1.cell (i := 2) rfl
      refine bodyPost_ret (v := .tuple #[PV m, .bool so]) (by simp [results, Try.results7, go_sem, r0, r1, r2]) rfl ?_
      exact ⟨o2, by have h := HM.out; rw [← HLb.out] at h; exact h, by rw [HX.out.1, HX.out.2], HR2.out.2⟩
    · have hj1 : j < L.length := by omega
      obtain ⟨b9, o9, hp, hbB, c0, c1, c2⟩ := (HR.out.2.keep HE.out.1) j hj1
      have hb9 : b9 < wr.heap.size := by have := HE.out.2.1; omega
      have HD : Hid (wr.cell? ⟨b9, o9 + j * 3, none⟩ = some (.int .i64 L[j].t) ∧ wr.cell? ⟨b9, o9 + j * 3 + 1, none⟩ = some (.int .i64 L[j].i) ∧ wr.cell? ⟨b9, o9 + j * 3 + 2, none⟩ = some (.string L[j].k) ∧ b9 < wr.heap.size) := ⟨c0, c1, c2, hb9⟩
      have s0 := InB.cell (w := wr) c0 hb9
      have s1 := InB.cell (w := wr) c1 hb9
      have s2 := InB.cell (w := wr) c2 hb9
      have q0 := InB.cell (w := wr) (HE.out.2.2.1.cell (i := 0) rfl) HE.out.2.2.1.lt
      have q1 := InB.cell (w := wr) (HE.out.2.2.1.cell (i := 1) rfl) HE.out.2.2.1.lt
      have q2 := InB.cell (w := wr) (HE.out.2.2.1.cell (i := 2) rfl) HE.out.2.2.1.lt
      have u2 := InB.cell (w := wr) g2 HE.out.2.2.2.1.lt
      have ne1 := inB_ne wr
      have HFT : Hid ((L.take (j + 1)).filter (rdsB a) = (L.take j).filter (rdsB a) ++ (if rdsB a L[j] then [L[j]] else [])) := filter_take (rdsB a) L j hj1
      have CR : Hid (∀ w1 : World, Below wr.heap.size wr w1 → Calls Try.prog 11 #[.agg #[va0, va1, va2], PV L[j]] w1 fun e w' => e = .returned (.bool (rdsB a L[j])) ∧ Below w1.heap.size w1 w') := fun w1 h1 => rreads_any a L[j] va0 va1 va2 w1 ((HR.out.1.on HE.out.1).on h1)
      have hol : ((L.take j).filter (rdsB a)).length + 1 ≤ 4398046511104 := by
        have h1 := List.length_filter_le (rdsB a) (L.take j)
        rw [List.length_take] at h1
        omega
      have HOL : Hid (((L.take j).filter (rdsB a)).length + 1 ≤ 4398046511104) := hol
      subst hp
      clear c0 c1 c2 hb9 hol hj0 hbB
      generalize L[j] = x at *
      cases hr : rdsB a x
      · rw [hr] at CR HFT
        clear hr
        go_wp2_with fail
        refine wp_region_inB (by kernel_rfl) (by kernel_rfl) ?_
        repeat (go_big_quiet_step (first
          | (go_at_call 11; exact Calls.inB (CR.out _ (InB.h _)))))
        refine wpQuiet_nil ?_
        rintro w7 ⟨⟨w8, hb7⟩, h9⟩
        obtain rfl : w7 = w8 := h9
        clear s0 s1 s2 q0 q1 q2 u2 ne1 CR g2
        go_wp2_with fail
        go_roundw
        case rel => exact ⟨j + 1, by omega, by go_num, by
          refine (show OwnP _ _ _ _ from ?_)
          rw [HFT.out]
          simpa using HO.out.kept hb7, HN.out.trans (hb7.mono HE.out.2.1)⟩
        case measure => simp [intOf]; omega
      · rw [hr] at CR HFT
        clear hr
        go_wp2_with fail
        refine wp_region_inB (by kernel_rfl) (by kernel_rfl) ?_
        repeat (go_big_quiet_step (first
          | (go_at_call 11; exact Calls.inB (CR.out _ (InB.h _)))))
        refine wpQuiet_nil ?_
        rintro w7 ⟨⟨w8, hb7⟩, h9⟩
        obtain rfl : w7 = w8 := h9
        clear s0 s1 s2 q0 q1 q2 u2 ne1 CR
        have g2' := (hb7.cell (p := ⟨w.heap.size + 1, 2, none⟩) HE.out.2.2.2.1.lt).trans g2
        have c0 := (hb7.cell (p := ⟨b9, o9 + j * 3, none⟩) HD.out.2.2.2).trans HD.out.1
        have c1 := (hb7.cell (p := ⟨b9, o9 + j * 3 + 1, none⟩) HD.out.2.2.2).trans HD.out.2.1
        have c2 := (hb7.cell (p := ⟨b9, o9 + j * 3 + 2, none⟩) HD.out.2.2.2).trans HD.out.2.2.1
        have HO7 : Hid (OwnP w7 (w.heap.size + 1 + 1 + 1) _ ((L.take j).filter (rdsB a)) ∧ w.heap.size + 1 + 1 + 1 ≤ w7.heap.size ∧ Below (w.heap.size + 1 + 1 + 1) w4 w7) := ⟨HO.out.kept hb7, Nat.le_trans HE.out.2.1 hb7.size, HN.out.trans (hb7.mono HE.out.2.1)⟩
        clear hb7 g2 HO HN
        go_wp2_with (first | (at_builtin; refine wpList_appP _ rfl (.tmp 23) (.tmp 29) rfl (w.heap.size + 1 + 1 + 1) _ _ rfl HO7.out.1 x _ rfl ?gz ?ll ?bb ?_))
        case gz => rfl
        case ll => exact HOL.out
        case bb => exact HO7.out.2.1
        intro v8 w8 h1 h2
        have HO8 : Hid (OwnP w8 (w.heap.size + 1 + 1 + 1) v8 ((L.take (j + 1)).filter (rdsB a)) ∧ Below (w.heap.size + 1 + 1 + 1) w4 w8) := ⟨by rw [HFT.out]; exact h1, HO7.out.2.2.trans h2⟩
        clear h1 h2 c0 c1 c2 g2'
        go_wp2_with fail
        go_roundw
        case rel => exact ⟨j + 1, by omega, by go_num, HO8.out.1, HO8.out.2⟩
        case measure => simp [intOf]; omega
end Go.Proofs.Ytjeidpgkgjljcaa
