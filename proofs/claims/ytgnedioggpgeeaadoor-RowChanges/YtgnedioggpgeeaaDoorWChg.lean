/- The walk of Change of rows. -/
import Derived.Test.YtgnedioggpgeeaaDoorMChg
namespace Go.Proofs.YtgnedioggpgeeaaDoor
open Go.RowKit
set_option maxRecDepth 100000

set_option maxHeartbeats 4000000 in
theorem change_any (t : Tb) (a : TabP) (L M : List Vl) (p q : Option Addr) (cl cm : Nat) (w : World) (hV : TabV w w.heap.size t a) (hok : t.ok) (hL : RowV w w.heap.size p L) (hM : RowV w w.heap.size q M) (hvl : ∀ v ∈ L, v.ok) (hvm : ∀ v ∈ M, v.ok) (hll : L.length ≤ 17592186043904) (hlm : M.length ≤ 17592186043904) (hcm : M.length ≤ cm) (hE : Env w) :
    Calls Tryd.prog 13 #[a.val t, .slice p L.length cl, .slice q M.length cm] w fun e w' => e = .returned (.tuple #[.string ⟨(chgR t L M).1.toArray⟩, .int .i64 (chgR t L M).2]) ∧ Below w.heap.size w w' := by
  obtain ⟨pc, cc, pk, ck, px, cx, pr, cr⟩ := a
  have CL : Hid (∀ w1, Below w.heap.size w w1 → Calls Tryd.prog 16 #[.agg #[.string t.nm, .slice pc t.cs.length cc, .slice pk t.key.length ck, .slice px t.ix.length cx, .slice pr t.rf.length cr], .slice p L.length cl] w1 fun e w' => e = .returned (.int .i64 (admS t L)) ∧ Below w1.heap.size w1 w') := fun w1 hb => admits_any t ⟨pc, cc, pk, ck, px, cx, pr, cr⟩ L p cl w1 (hV.on hb) hok ((hL.keep hb).mono hb.size) hvl hll (hE.on hb)
  have CM : Hid (∀ w1, Below w.heap.size w w1 → Calls Tryd.prog 16 #[.agg #[.string t.nm, .slice pc t.cs.length cc, .slice pk t.key.length ck, .slice px t.ix.length cx, .slice pr t.rf.length cr], .slice q M.length cm] w1 fun e w' => e = .returned (.int .i64 (admS t M)) ∧ Below w1.heap.size w1 w') := fun w1 hb => admits_any t ⟨pc, cc, pk, ck, px, cx, pr, cr⟩ M q cm w1 (hV.on hb) hok ((hM.keep hb).mono hb.size) hvm hlm (hE.on hb)
  have HB : Hid (BoxT _ _ _ _) := BoxT.new w t ⟨pc, cc, pk, ck, px, cx, pr, cr⟩
  have hb0 : Below w.heap.size w (w.alloc (.cells #[.string t.nm, .slice pc t.cs.length cc, .slice pk t.key.length ck, .slice px t.ix.length cx, .slice pr t.rf.length cr] 27)) := by go_grown
  have HF : Hid (chgR t L M = if admS t L = 0 then (if admS t M = 0 then (if (chgS L M M.length).1.length ≤ 65536 then ((chgS L M M.length).1, 0) else ([], 3)) else ([], admS t M)) else ([], admS t L)) := rfl
  have HOK : Hid (admS t L = 0 → admS t M = 0 → L.length = M.length ∧ M.length ≤ 64 ∧ ∀ v ∈ M, v.s.size ≤ 65536) := fun h1 h2 => ⟨(admS_len h1).trans (admS_len h2).symm, (admS_ok h2).2.1, (admS_ok h2).2.2⟩
  have HA : Hid (RowV w w.heap.size p L ∧ RowV w w.heap.size q M ∧ ∀ v ∈ M, v.ok) := ⟨hL, hM, hvm⟩
  clear hV hok hL hM hvl hvm hE
  generalize chgR t L M = d at *
  generalize admS t L = el at *
  generalize admS t M = em at *
  unfold TabP.val
  dsimp only
  go_enter Tryd.func13, Tryd.ntmps13
  go_wp2_with fail
  have b1 : Below w.heap.size w ((w.alloc (.cells #[.string t.nm, .slice pc t.cs.length cc, .slice pk t.key.length ck, .slice px t.ix.length cx, .slice pr t.rf.length cr] 27)).alloc (.cells #[.slice p L.length cl, .slice q M.length cm] 28)) := by go_grown
  have b2 : Below (w.alloc (.cells #[.string t.nm, .slice pc t.cs.length cc, .slice pk t.key.length ck, .slice px t.ix.length cx, .slice pr t.rf.length cr] 27)).heap.size (w.alloc (.cells #[.string t.nm, .slice pc t.cs.length cc, .slice pk t.key.length ck, .slice px t.ix.length cx, .slice pr t.rf.length cr] 27)) ((w.alloc (.cells #[.string t.nm, .slice pc t.cs.length cc, .slice pk t.key.length ck, .slice px t.ix.length cx, .slice pr t.rf.length cr] 27)).alloc (.cells #[.slice p L.length cl, .slice q M.length cm] 28)) := by go_grown
  have HB0 : Hid (BoxT ((w.alloc (.cells #[.string t.nm, .slice pc t.cs.length cc, .slice pk t.key.length ck, .slice px t.ix.length cx, .slice pr t.rf.length cr] 27)).alloc (.cells #[.slice p L.length cl, .slice q M.length cm] 28)) w.heap.size t ⟨pc, cc, pk, ck, px, cx, pr, cr⟩) := HB.out.on b2 (by simp)
  have g0 : ((w.alloc (.cells #[.string t.nm, .slice pc t.cs.length cc, .slice pk t.key.length ck, .slice px t.ix.length cx, .slice pr t.rf.length cr] 27)).alloc (.cells #[.slice p L.length cl, .slice q M.length cm] 28)).cell? ⟨w.heap.size + 1, 0, none⟩ = some (.slice p L.length cl) := by simp [go_sem]
  have g1 : ((w.alloc (.cells #[.string t.nm, .slice pc t.cs.length cc, .slice pk t.key.length ck, .slice px t.ix.length cx, .slice pr t.rf.length cr] 27)).alloc (.cells #[.slice p L.length cl, .slice q M.length cm] 28)).cell? ⟨w.heap.size + 1, 1, none⟩ = some (.slice q M.length cm) := by simp [go_sem]
  have hg : w.heap.size + 1 < ((w.alloc (.cells #[.string t.nm, .slice pc t.cs.length cc, .slice pk t.key.length ck, .slice px t.ix.length cx, .slice pr t.rf.length cr] 27)).alloc (.cells #[.slice p L.length cl, .slice q M.length cm] 28)).heap.size := by simp
  clear HB hb0 b2
  generalize (w.alloc (.cells #[.string t.nm, .slice pc t.cs.length cc, .slice pk t.key.length ck, .slice px t.ix.length cx, .slice pr t.rf.length cr] 27)).alloc (.cells #[.slice p L.length cl, .slice q M.length cm] 28) = w0 at *
  have HG : Hid (w0.cell? ⟨w.heap.size + 1, 0, none⟩ = some (.slice p L.length cl) ∧ w0.cell? ⟨w.heap.size + 1, 1, none⟩ = some (.slice q M.length cm) ∧ w.heap.size + 1 < w0.heap.size) := ⟨g0, g1, hg⟩
  clear g0 g1 hg
  go_loopw [18] (fun k wr => ∃ j : Nat, j ≤ 2 ∧ k = .int .i64 (j : Int) ∧ Hid ((1 ≤ j → el = 0) ∧ (2 ≤ j → em = 0)) ∧ Hid (Below w0.heap.size w0 wr)) (fun k _ => 2 - (intOf k).toNat)
  case atStart => exact ⟨0, Nat.zero_le _, by go_num, ⟨fun h => by omega, fun h => by omega⟩, Below.refl _ _⟩
  case round =>
    obtain ⟨j, hj, rfl, hz, hn⟩ := hrel
    have hbw : Below w.heap.size w wr := b1.trans (hn.out.mono b1.size)
    have HBr : Hid (BoxT wr w.heap.size t ⟨pc, cc, pk, ck, px, cx, pr, cr⟩) := HB0.out.on hn.out HB0.out.hg
    obtain ⟨hz1, e0, e1, e2, e3, e4⟩ := HBr.out
    dsimp only at e0 e1 e2 e3 e4
    have k0 := (hn.out.cell (p := ⟨w.heap.size + 1, 0, none⟩) HG.out.2.2).trans HG.out.1
    have k1 := (hn.out.cell (p := ⟨w.heap.size + 1, 1, none⟩) HG.out.2.2).trans HG.out.2.1
    obtain h | h | h : j = 0 ∨ j = 1 ∨ j = 2 := by omega
    · subst h
      clear k1 hz HBr
      by_cases hel : el = 0
      · subst hel
        go_wp2_with fail
        refine (CL.out _ hbw).mono ?_
        rintro e w2 ⟨rfl, hb2⟩
        go_wp2_with fail
        go_roundw
        case rel => exact ⟨1, by omega, by go_num, ⟨by simp, fun h => by omega⟩, hn.out.trans (hb2.mono hn.out.size)⟩
        case measure => simp [intOf]
      · have hel' : (el != 0) = true := by simpa using hel
        have H12 : Hid (d.1 = [] ∧ d.2 = el) := by
          have := HF.out
          rw [if_neg hel] at this
          exact ⟨congrArg Prod.fst this, congrArg Prod.snd this⟩
        go_wp2_with fail
        refine (CL.out _ hbw).mono ?_
        rintro e w2 ⟨rfl, hb2⟩
        go_wp2
        go_ret2
        exact ⟨strE H12.out.1.symm H12.out.2.symm, hbw.trans (hb2.mono hbw.size)⟩
    · subst h
      have hel : el = 0 := hz.out.1 (by omega)
      subst hel
      clear k0 hz HBr
      rw [if_pos rfl] at HF
      by_cases hem : em = 0
      · subst hem
        go_wp2_with fail
        refine (CM.out _ hbw).mono ?_
        rintro e w2 ⟨rfl, hb2⟩
        go_wp2_with fail
        go_roundw
        case rel => exact ⟨2, by omega, by go_num, ⟨by simp, by simp⟩, hn.out.trans (hb2.mono hn.out.size)⟩
        case measure => simp [intOf]
      · have hem' : (em != 0) = true := by simpa using hem
        have H12 : Hid (d.1 = [] ∧ d.2 = em) := by
          have := HF.out
          rw [if_neg hem] at this
          exact ⟨congrArg Prod.fst this, congrArg Prod.snd this⟩
        go_wp2_with fail
        refine (CM.out _ hbw).mono ?_
        rintro e w2 ⟨rfl, hb2⟩
        go_wp2
        go_ret2
        exact ⟨strE H12.out.1.symm H12.out.2.symm, hbw.trans (hb2.mono hbw.size)⟩
    · subst h
      have hel : el = 0 := hz.out.1 (by omega)
      have hem : em = 0 := hz.out.2 (by omega)
      subst hel hem
      obtain ⟨hlen, h64, hsz⟩ := HOK.out rfl rfl
      rw [if_pos rfl, if_pos rfl] at HF
      have HZ : Hid (∀ v ∈ M, v.s.size ≤ 65536) := hsz
      have HLN : Hid (L.length = M.length) := hlen
      clear k0 k1 e0 e1 e2 e3 e4 hz1 hz HBr CL CM HOK HG HB0 b1 hsz hlen
      rw [show ((2 : Nat) : Int) = 2 from rfl]
      go_wp2_with fail
      generalize wr = w3 at *
      go_loopw [11, 12, 31] (fun u x k wr => ∃ j : Nat, j ≤ M.length ∧ k = .int .i64 (j : Int) ∧ x = .int .i64 ((chgS L M j).2 : Int) ∧ Hid (OwnB wr w.heap.size u (chgS L M j).1 ∧ Keep5 w.heap.size w wr)) (fun _ _ k _ => M.length - (intOf k).toNat)
      case atStart => exact ⟨0, Nat.zero_le _, by go_num, by go_num, ⟨OwnB.nil _ _, Keep5.of_below hbw (Nat.le_refl _)⟩⟩
      case round =>
        clear hn hbw
        obtain ⟨j, hj, rfl, rfl, hO⟩ := hrel
        by_cases hj0 : j = M.length
        · subst hj0
          have hbl : (chgS L M M.length).1.length ≤ 1099511627776 := by
            have := chgS_len (L := L) HZ.out M.length
            omega
          have CLm : Hid (∀ w1 : World, OwnB w1 w.heap.size u11 (chgS L M M.length).1 → Calls Tryd.prog 17 #[u11] w1 fun e w' => e = .returned (.tuple #[.string ⟨d.1.toArray⟩, .int .i64 d.2]) ∧ Below w1.heap.size w1 w') := fun w1 h => by
            have h2 := limited_any w.heap.size u11 (chgS L M M.length).1 w1 h hbl
            have e1 : d.1 = if (chgS L M M.length).1.length ≤ 65536 then (chgS L M M.length).1 else [] := by rw [HF.out]; split <;> rfl
            have e2 : d.2 = if (chgS L M M.length).1.length ≤ 65536 then 0 else 3 := by rw [HF.out]; split <;> rfl
            rw [e1, e2]
            exact h2
          clear hbl HF
          obtain ⟨d1, d2⟩ := d
          dsimp only at CLm ⊢
          generalize chgS L M M.length = C at *
          go_wp2_with fail
          refine (CLm.out _ hO.out.1).mono ?_
          rintro e w4 ⟨rfl, hb4⟩
          have h4 := hO.out.2.below
          go_wp2
          go_ret2
          exact ⟨rfl, h4.trans (hb4.mono h4.size)⟩
        · have hj2 : j < M.length := by omega
          have hj1 : j < L.length := by have := HLN.out; omega
          obtain ⟨b, o, rfl, hbB, c0, c1, c2, c3⟩ := HA.out.1 j hj1
          obtain ⟨bm, om, rfl, hbm, d0, d1, d2, d3⟩ := HA.out.2.1 j hj2
          have hkb := hO.out.2.below
          have a0 := (hkb.cell (p := ⟨b, o + j * 4, none⟩) hbB).trans c0
          have a1 := (hkb.cell (p := ⟨b, o + j * 4 + 1, none⟩) hbB).trans c1
          have a2 := (hkb.cell (p := ⟨b, o + j * 4 + 2, none⟩) hbB).trans c2
          have a3 := (hkb.cell (p := ⟨b, o + j * 4 + 3, none⟩) hbB).trans c3
          have q0 := (hkb.cell (p := ⟨bm, om + j * 4, none⟩) hbm).trans d0
          have q1 := (hkb.cell (p := ⟨bm, om + j * 4 + 1, none⟩) hbm).trans d1
          have q2 := (hkb.cell (p := ⟨bm, om + j * 4 + 2, none⟩) hbm).trans d2
          have q3 := (hkb.cell (p := ⟨bm, om + j * 4 + 3, none⟩) hbm).trans d3
          have HS : Hid ((sameV L[j] M[j] = true → chgS L M (j + 1) = chgS L M j) ∧ (sameV L[j] M[j] = false → chgS L M (j + 1) = ((chgS L M j).1 ++ varB (j - (chgS L M j).2) ++ rowB [M[j]], j + 1))) := ⟨chgS_same hj1 hj2, chgS_else hj1 hj2⟩
          have CS : Hid (∀ w1 : World, Calls Tryd.prog 27 #[.agg #[.int .i64 (L[j]).k, .int .i64 (L[j]).n, .float .f64 (L[j]).f, .string (L[j]).s], .agg #[.int .i64 (M[j]).k, .int .i64 (M[j]).n, .float .f64 (M[j]).f, .string (M[j]).s]] w1 fun e w' => e = .returned (.bool (sameV L[j] M[j])) ∧ Below w1.heap.size w1 w') := fun w1 => same_any (L[j]).k (L[j]).n (M[j]).k (M[j]).n (L[j]).f (M[j]).f (L[j]).s (M[j]).s w1
          have HR1 : Hid (∀ w1 : World, Below w.heap.size w w1 → RowV w1 w.heap.size (some ⟨bm, om + j * 4, none⟩) [M[j]]) := fun w1 hb => (HA.out.2.1.keep hb).one j hj2
          have HR2 : Hid (M[j].ok ∧ M[j].s.size ≤ 65536) := ⟨HA.out.2.2 _ (List.getElem_mem hj2), HZ.out _ (List.getElem_mem hj2)⟩
          have hcl := chgS_len (L := L) HZ.out j
          have hcl2 : (chgS L M j).1.length ≤ 5000000 := by omega
          have hcle := chgS_le L M j
          clear c0 c1 c2 c3 d0 d1 d2 d3 hj0 hcl
          generalize sameV L[j] M[j] = sv at *
          generalize hCn : chgS L M (j + 1) = Cn at *
          obtain ⟨C, nx, hCj⟩ : ∃ C nx, chgS L M j = (C, nx) := ⟨_, _, rfl⟩
          rw [hCj] at HS hO hcl2 hcle
          simp only [hCj]
          dsimp only at HS hO hcl2 hcle ⊢
          generalize L[j] = x at *
          generalize M[j] = y at *
          obtain ⟨xk, xn, xf, xs⟩ := x
          have HY : Hid (∃ z : Vl, z = y) := ⟨y, rfl⟩
          generalize hyk : y.k = yk at *
          generalize hyn : y.n = yn at *
          generalize hyf : y.f = yf at *
          generalize hys : y.s = ys at *
          clear hyk hyn hyf
          dsimp only at a0 a1 a2 a3 q0 q1 q2 q3 CS
          cases sv
          · have HE : Hid (Cn = (C ++ varB (j - nx) ++ rowB [y], j + 1)) := HS.out.2 rfl
            clear HS
            have hsl : ∀ w1 : World, (Instr.slice 28 (.slice (some ⟨bm, om, none⟩) M.length cm) (some (.int .i64 (j : Int))) (some (.int .i64 ((j : Int) + 1))) none).run Tryd.prog w1 = .ok (.slice (some ⟨bm, om + j * 4, none⟩) 1 (cm - j)) w1 := fun w1 => slice_one bm om M.length cm j w1 hj2 hcm
            have hvl : (varB (j - nx)).length ≤ 10 := varB_len _
            have CV : Hid (∀ (v : Value) (w1 : World), w.heap.size ≤ w1.heap.size → OwnB w1 w.heap.size v C → Calls Tryd.prog 28 #[v, .int .u64 ((j : Int) - (nx : Int))] w1 fun e w' => ∃ v', e = .returned v' ∧ OwnB w' w.heap.size v' (C ++ varB (j - nx)) ∧ Keep5 w.heap.size w1 w') := fun v w1 h1 h2 => by
              have h3 := appendVarint_any w.heap.size v C (j - nx) w1 h1 h2 (by omega) (by omega)
              rw [show ((j - nx : Nat) : Int) = (j : Int) - (nx : Int) by omega] at h3
              exact h3
            have CRw : Hid (∀ (v : Value) (w1 : World), w.heap.size ≤ w1.heap.size → OwnB w1 w.heap.size v (C ++ varB (j - nx)) → Below w.heap.size w w1 → Calls Tryd.prog 18 #[v, .slice (some ⟨bm, om + j * 4, none⟩) 1 (cm - j)] w1 fun e w' => ∃ v', e = .returned v' ∧ OwnB w' w.heap.size v' (C ++ varB (j - nx) ++ rowB [y]) ∧ Keep5 w.heap.size w1 w') := fun v w1 h1 h2 h3 =>
              appendRow_any w.heap.size v (C ++ varB (j - nx)) [y] _ _ w1 h1 h2 (by rw [List.length_append]; omega) (HR1.out w1 h3) (fun u hu => by rw [List.mem_singleton.1 hu, hys]; exact HR2.out) (by simp) (by simp)
            clear hvl
            go_wp2_with fail
            go_region_with (first | (go_at_call 27; refine (CS.out _).mono ?_; rintro e w5 ⟨rfl, hb5⟩))
            all_goals
              have hk5 : Keep5 w.heap.size w w5 := hO.out.2.drew.trans (Keep5.of_below hb5 (by simpa using hkb.size))
              have HO5 : Hid (OwnB w5 w.heap.size u11 C) := hO.out.1.kept ((Below.refl wr.heap.size wr).drew.trans hb5)
              clear hO hkb hb5 CS
              go_wp2_with fail
              refine (CV.out _ _ (by have := hk5.below.size; omega) HO5.out).mono ?_
              rintro e w6 ⟨v6, rfl, hO6, hk6⟩
              have hk06 := hk5.trans hk6
              go_wp2_with fail
              refine (CRw.out _ _ (by have := hk06.below.size; omega) hO6 hk06.below).mono ?_
              rintro e w7 ⟨v7, rfl, hO7, hk7⟩
              have hk07 := hk06.trans hk7
              have R : Hid (OwnB w7 w.heap.size v7 Cn.1 ∧ Keep5 w.heap.size w w7) := ⟨by rw [HE.out]; exact hO7, hk07⟩
              have HC2 : Cn.2 = j + 1 := by rw [HE.out]
              clear hO6 hk6 hO7 hk7 hk07 hk06 hk5 HO5
              go_wp2_with fail
              go_roundw
              case rel => exact ⟨j + 1, hj2, by go_num, by rw [hCn, HC2]; go_num, by rw [hCn]; exact R⟩
              case measure => simp [intOf]; omega
          · have HE : Hid (Cn = (C, nx)) := HS.out.1 rfl
            clear HS
            go_wp2_with fail
            go_region_with (first | (go_at_call 27; refine (CS.out _).mono ?_; rintro e w5 ⟨rfl, hb5⟩))
            all_goals
              have hk5 : Keep5 w.heap.size w w5 := hO.out.2.drew.trans (Keep5.of_below hb5 (by simpa using hkb.size))
              have HO5 : OwnB w5 w.heap.size u11 C := hO.out.1.kept ((Below.refl wr.heap.size wr).drew.trans hb5)
              have R : Hid (OwnB w5 w.heap.size u11 Cn.1 ∧ Keep5 w.heap.size w w5) := ⟨by rw [HE.out]; exact HO5, hk5⟩
              have HC2 : Cn.2 = nx := by rw [HE.out]
              clear hk5 HO5 hO hkb hb5 CS
              go_wp2_with fail
              go_roundw
              case rel => exact ⟨j + 1, hj2, by go_num, by rw [hCn, HC2], by rw [hCn]; exact R⟩
              case measure => simp [intOf]; omega
end Go.Proofs.YtgnedioggpgeeaaDoor
