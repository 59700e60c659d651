/- Layer 19: single where nothing leads on; allTargets. Layer 19: saw where there is no scan; someSaw, readsUncommitted, readsBetween. -/
import Derived.Test.YtncfejndmlcidaaGreatGWTg8
namespace Go.Proofs.YtncfejndmlcidaaGreat
open Go.RowKit
set_option maxRecDepth 100000

theorem slg_lit {w : World} {g : Nat} (ks : List Nat) (h : Blk w g (nats ks) 3) : SlG encN 1 w.heap.size w (.slice (some ⟨g, 0, none⟩) ks.length ks.length) ks := by
  refine ⟨some ⟨g, 0, none⟩, ks.length, rfl, Nat.le_refl _, (fun h => by cases h), fun i hi => ⟨g, 0, rfl, h.lt, fun t u hu => ?_⟩⟩
  have ht : t = 0 := by have h9 := (List.getElem?_eq_some_iff.1 hu).1; simp [encN] at h9; omega
  subst ht
  have h1 := h.cell (nats_get ks i hi)
  rw [show 0 + i * 1 + 0 = i by omega, h1]
  simp only [encN, List.getElem?_cons_zero] at hu
  rw [← hu]
  simp [List.getD_eq_getElem?_getD, hi]
theorem slg_new (w : World) (ks : List Nat) {cs : Array Value} (hc : cs = nats ks) : SlG encN 1 (w.alloc (.cells cs 3)).heap.size (w.alloc (.cells cs 3)) (.slice (some ⟨w.heap.size, 0, none⟩) ks.length ks.length) ks := by
  subst hc
  exact slg_lit ks (Blk.new w _ _)
/-- what is known of all edges -/
structure EdK (w : World) (C ob : Nat) (vs : Nat → Value) (LL : List (List Ed)) (n : Nat) : Prop where
  o : OutE w C ob vs LL
  nl : LL.length = n
  n4 : n ≤ 4096
  l : ∀ l ∈ LL, l.length ≤ 1099511627776
  lt : EdLt n LL
theorem EdK.on {w w' : World} {C ob : Nat} {vs : Nat → Value} {LL : List (List Ed)} {n : Nat} (h : EdK w C ob vs LL n) (hb : Below w.heap.size w w') : EdK w' C ob vs LL n := { h with o := h.o.on hb }
theorem EdK.tg {w : World} {C ob : Nat} {vs : Nat → Value} {LL : List (List Ed)} {n : Nat} (h : EdK w C ob vs LL n) (kv : Value) (ks : List Nat) (hK : SlG encN 1 w.heap.size w kv ks) (hk : ks.length ≤ 8) :
    Calls Tryz.prog 54 #[.slice (some ⟨ob, 0, none⟩) n n, kv] w fun e w' => ∃ tb ts, e = .returned (.slice (some ⟨tb, 0, none⟩) n n) ∧ OutN w' w.heap.size tb ts (tgs ks LL) ∧ Below w.heap.size w w' := targets_any C ob vs LL n kv ks w h.o h.nl h.n4 h.l hK hk
set_option maxHeartbeats 4000000 in
theorem allTargets_any (C ob : Nat) (vs : Nat → Value) (LL : List (List Ed)) (n : Nat) (w : World) (h : EdK w C ob vs LL n) :
    Calls Tryz.prog 55 #[.slice (some ⟨ob, 0, none⟩) n n] w fun e w' => ∃ tb ts, e = .returned (.slice (some ⟨tb, 0, none⟩) n n) ∧ OutN w' w.heap.size tb ts (tgs [1, 2, 3, 4] LL) ∧ Below w.heap.size w w' := by
  obtain ⟨w1, hw1⟩ : ∃ w1, w.alloc (.cells #[.int .i64 1, .int .i64 2, .int .i64 3, .int .i64 4] 3) = w1 := ⟨_, rfl⟩
  have HB1 : Hid (Below w.heap.size w w1) := by rw [← hw1]; exact (Below.refl _ _).alloc (Nat.le_refl _) _
  have CT : Hid (Calls Tryz.prog 54 #[.slice (some ⟨ob, 0, none⟩) n n, .slice (some ⟨w.heap.size, 0, none⟩) 4 4] w1 fun e w' => ∃ tb ts, e = .returned (.slice (some ⟨tb, 0, none⟩) n n) ∧ OutN w' w1.heap.size tb ts (tgs [1, 2, 3, 4] LL) ∧ Below w1.heap.size w1 w') := (h.on HB1.out).tg _ [1, 2, 3, 4] (by rw [← hw1]; exact slg_new w [1, 2, 3, 4] rfl) (by decide)
  clear h
  go_enter Tryz.func55, Tryz.ntmps55
  go_wp2_with (first | (go_at_call 54; refine CT.out.mono ?_; rintro e w2 ⟨tb, ts, rfl, h1, h2⟩; have HW2 : Hid (OutN w2 w1.heap.size tb ts (tgs [1, 2, 3, 4] LL) ∧ Below w1.heap.size w1 w2) := ⟨h1, h2⟩; clear h1 h2))
  go_ret
  refine ⟨tb, ts, rfl, ⟨Nat.le_trans HB1.out.size HW2.out.1.obC, HW2.out.1.blk, fun k => (HW2.out.1.fam.own k).mono HB1.out.size, HW2.out.1.fam.apart⟩, HB1.out.trans (HW2.out.2.mono HB1.out.size)⟩
set_option maxHeartbeats 8000000 in
theorem single0_any (C ob : Nat) (vs : Nat → Value) (LL : List (List Ed)) (n : Nat) (w : World) (h : EdK w C ob vs LL n) (h1 : ∀ p, (tgs [1, 2] LL).getD p [] = []) (h2 : ∀ p, p < n → ∃ x, x < n ∧ x ≠ p ∧ (tgs [3, 4] LL).getD p [] = [x]) :
    Calls Tryz.prog 59 #[.slice (some ⟨ob, 0, none⟩) n n] w fun e w' => e = .returned (.bool false) ∧ Below w.heap.size w w' := by
  obtain ⟨w1, hw1⟩ : ∃ w1, w.alloc (.cells #[.int .i64 1, .int .i64 2] 3) = w1 := ⟨_, rfl⟩
  have HB1 : Hid (Below w.heap.size w w1) := by rw [← hw1]; exact (Below.refl _ _).alloc (Nat.le_refl _) _
  have HA : Hid (EdK w C ob vs LL n ∧ (∀ p, (tgs [1, 2] LL).getD p [] = []) ∧ (∀ p, p < n → ∃ x, x < n ∧ x ≠ p ∧ (tgs [3, 4] LL).getD p [] = [x])) := ⟨h, h1, h2⟩
  have CT : Hid (Calls Tryz.prog 54 #[.slice (some ⟨ob, 0, none⟩) n n, .slice (some ⟨w.heap.size, 0, none⟩) 2 2] w1 fun e w' => ∃ tb ts, e = .returned (.slice (some ⟨tb, 0, none⟩) n n) ∧ OutN w' w1.heap.size tb ts (tgs [1, 2] LL) ∧ Below w1.heap.size w1 w') := (h.on HB1.out).tg _ [1, 2] (by rw [← hw1]; exact slg_new w [1, 2] rfl) (by decide)
  have hn4 := h.n4
  clear h h1 h2
  go_enter Tryz.func59, Tryz.ntmps59
  go_upto_region 2 with (first | (go_at_call 54; refine CT.out.mono ?_; rintro e w2 ⟨tb, ts, rfl, g1, g2⟩; have HW2 : Hid (OutN w2 w1.heap.size tb ts (tgs [1, 2] LL) ∧ Below w1.heap.size w1 w2) := ⟨g1, g2⟩; clear g1 g2))
  clear hw1 CT
  have HD2 : Hid (Below w.heap.size w w2 ∧ OutN w2 w1.heap.size tb ts (tgs [1, 2] LL)) := ⟨HB1.out.trans (HW2.out.2.mono HB1.out.size), HW2.out.1⟩
  clear HW2 HB1
  obtain ⟨w3, hw3⟩ : ∃ w3, w2.alloc (.cells #[.int .i64 3, .int .i64 4] 3) = w3 := ⟨_, rfl⟩
  have HB3 : Hid (Below w2.heap.size w2 w3) := by rw [← hw3]; exact (Below.refl _ _).alloc (Nat.le_refl _) _
  have CT : Hid (Calls Tryz.prog 54 #[.slice (some ⟨ob, 0, none⟩) n n, .slice (some ⟨w2.heap.size, 0, none⟩) 2 2] w3 fun e w' => ∃ tb ts, e = .returned (.slice (some ⟨tb, 0, none⟩) n n) ∧ OutN w' w3.heap.size tb ts (tgs [3, 4] LL) ∧ Below w3.heap.size w3 w') := (HA.out.1.on (HD2.out.1.trans (HB3.out.mono HD2.out.1.size))).tg _ [3, 4] (by rw [← hw3]; exact slg_new w2 [3, 4] rfl) (by decide)
  go_wp2_with (first | (go_at_call 54; refine CT.out.mono ?_; rintro e w4 ⟨ub, us, rfl, g1, g2⟩; have HW4 : Hid (OutN w4 w3.heap.size ub us (tgs [3, 4] LL) ∧ Below w3.heap.size w3 w4) := ⟨g1, g2⟩; clear g1 g2))
  have HD4 : Hid (Below w2.heap.size w2 w4) := HB3.out.trans (HW4.out.2.mono HB3.out.size)
  go_loopw [13] (fun ix wr => ∃ i : Nat, ix = .int .i64 (i : Int) ∧ i ≤ n ∧ Hid (Below w4.heap.size w4 wr)) (fun ix _ => n - (intOf ix).toNat)
  case atStart => exact ⟨0, by go_num, Nat.zero_le _, Below.refl _ _⟩
  case round =>
    obtain ⟨i, rfl, hi, HB⟩ := hrel
    by_cases hi0 : i = n
    · subst hi0
      go_wp2_with fail
      go_ret
      exact ⟨rfl, (HD2.out.1.trans (HD4.out.mono HD2.out.1.size)).trans (HB.out.mono (Nat.le_trans HD2.out.1.size HD4.out.size))⟩
    · have hi1 : i < n := by omega
      clear hi0
      have HI1 : Hid (i < n) := hi1
      obtain ⟨x, hx1, hx2, hx3⟩ := HA.out.2.2 i hi1
      have hO := HW4.out.1.on HB.out
      obtain ⟨q, dd, ev⟩ := hO.slr i
      have hrow := hO.row i
      rw [hx3] at ev hrow
      rw [ev] at hrow
      have x0 : wr.cell? ⟨ub, i, none⟩ = some (.slice q 1 dd) := by
        have h1 := hO.cell i (by rw [tgs, List.length_map, HA.out.1.nl]; exact hi1)
        rw [ev] at h1
        exact h1
      have hOn : OutN wr w1.heap.size tb ts (tgs [1, 2] LL) := HD2.out.2.on (HD4.out.trans (HB.out.mono HD4.out.size))
      have CW : Hid (Calls Tryz.prog 62 #[.slice (some ⟨tb, 0, none⟩) n n, .slice q 1 dd, .int .i64 (i : Int)] wr fun e w' => e = .returned (.slice none 0 0) ∧ Below wr.heap.size wr w') := way0_any w1.heap.size tb ts (tgs [1, 2] LL) n x i (.slice q 1 dd) wr hOn (by rw [tgs, List.length_map]; exact HA.out.1.nl) hn4 HA.out.2.1 (OwnG.slN hrow) hx1 hi1 hx2
      clear hO ev hrow hOn hx1 hx2 hx3
      rename World => wo
      go_wp2_with (first | (go_at_call 62; refine CW.out.mono ?_; rintro e w5 ⟨rfl, hb5⟩; have HB5 : Hid (Below w4.heap.size w4 w5) := HB.out.trans (hb5.mono HB.out.size); clear hb5))
      go_roundw
      case rel => exact ⟨i + 1, by go_num, HI1.out, HB5.out⟩
      case measure => have h9 := HI1.out; simp [intOf]; omega

end Go.Proofs.YtncfejndmlcidaaGreat

namespace Go.Proofs.YtncfejndmlcidaaGreat
open Go.RowKit
set_option maxRecDepth 100000

set_option maxHeartbeats 4000000 in
theorem saw0_any (N B : Nat) (H : List Ac) (d : Dv) (t : Int) (w : World) (hR : RdD w N B H d) (hH : H.length ≤ 4096) (ht : t ∈ cms H) (hs : scs H t = []) :
    Calls Tryz.prog 120 #[.pointer (some ⟨d.s.pt t, 0, none⟩)] w fun e w' => ∃ q l c, e = .returned (.slice q l c) ∧ OwnG encS 3 53 w' w.heap.size (.slice q l c) (rds H t) ∧ Below w.heap.size w w' := by
  obtain ⟨qr, dr, evr⟩ := (hR.dn.fr.own t).slcL
  obtain ⟨qs, ds, evs⟩ := (hR.dn.fs.own t).slcL
  have h0 : (d.s.Sc t).length = 0 := by
    have h1 := hR.dn.sc t
    rw [hs] at h1
    simpa using h1
  rw [h0] at evs
  have hl := rds_len H t
  have CC : Hid (Calls Tryz.prog 158 #[.slice qr (rds H t).length dr] w fun e w' => ∃ q l c, e = .returned (.slice q l c) ∧ OwnG encS 3 53 w' w.heap.size (.slice q l c) (rds H t) ∧ Below w.heap.size w w') := by
    rw [← evr]
    refine (cloneS_any (d.s.vr t) (rds H t) w (OwnG.sl (T := 53) (B := B) (fun _ => rfl) (hR.dn.fr.own t)) (by omega)).mono ?_
    rintro e w' ⟨v', rfl, h1, h2⟩
    obtain ⟨q, c, rfl⟩ := h1.slcL
    exact ⟨q, _, c, rfl, h1, h2⟩
  have c7 : w.cell? ⟨d.s.pt t, 7, none⟩ = some (.slice qr (rds H t).length dr) := by rw [← evr]; exact (hR.dn.tn t (cms_kn ht)).2.cell rfl
  have HC8 : Hid (∀ w', Below w.heap.size w w' → w'.cell? ⟨d.s.pt t, 8, none⟩ = some (.slice qs 0 ds)) := fun w' h => by rw [← evs]; exact ((hR.on (h.mono hR.size)).dn.tn t (cms_kn ht)).2.cell rfl
  generalize (rds H t).length = rl at *
  clear hR hH ht hs evr evs h0 hl
  go_enter Tryz.func120, Tryz.ntmps120
  go_wp2_with (first | (go_at_call 158; refine CC.out.mono ?_; rintro e w1 ⟨q, l, c, rfl, h1, h2⟩; have HW : Hid (OwnG encS 3 53 w1 w.heap.size (.slice q l c) (rds H t) ∧ Below w.heap.size w w1) := ⟨h1, h2⟩; have c8 : w1.cell? ⟨d.s.pt t, 8, none⟩ = some (.slice qs 0 ds) := HC8.out w1 h2; clear h1 h2 c7))
  go_loopw [3, 16] (fun lv ix wr => lv = .slice q l c ∧ ix = .int .i64 0 ∧ Hid (wr = w1)) (fun _ ix _ => 0)
  case atStart => exact ⟨rfl, rfl, rfl⟩
  case round =>
    obtain ⟨rfl, rfl, HWr⟩ := hrel
    go_wp2_with fail
    go_ret
    have e := HWr.out
    subst e
    exact ⟨q, l, c, rfl, HW.out⟩
set_option maxHeartbeats 4000000 in
theorem rU1_any (N B : Nat) (H : List Ac) (d : Dv) (pt bh : Nat) (s : Sw) (w : World) (hR : RdD w N B H d) (hb : Blk w bh #[.pointer (some ⟨d.s.hb, 0, none⟩)] 43) (hk : s.fr = 0 ∨ kn H s.fr = true) :
    Calls Tryz.prog 88 #[.pointer (some ⟨pt, 0, none⟩), .agg #[.string s.it, .int .i64 s.fr, .int .i64 s.nt], .pointer (some ⟨bh, 0, none⟩)] w fun e w' => e = .returned (.bool (!(s.fr == 0 || decide (0 < cm H s.fr)))) ∧ Below w.heap.size w w' := by
  obtain ⟨w1, hw1⟩ : ∃ w1, w.alloc (.cells #[.string s.it, .int .i64 s.fr, .int .i64 s.nt] 53) = w1 := ⟨_, rfl⟩
  have HB1 : Hid (Below w.heap.size w w1) := by rw [← hw1]; exact (Below.refl _ _).alloc (Nat.le_refl _) _
  have HK1 : Hid (Blk w1 w.heap.size #[.string s.it, .int .i64 s.fr, .int .i64 s.nt] 53) := by rw [← hw1]; exact Blk.new w _ _
  have CS : Hid (Calls Tryz.prog 89 #[.pointer (some ⟨d.s.hb, 0, none⟩), .int .i64 s.fr] w1 fun e w' => e = .returned (.tuple #[.int .u64 (cm0 H s.fr : Nat), .bool (s.fr == 0 || decide (0 < cm H s.fr))]) ∧ w' = w1) := stampOf_any N B H d s.fr w1 (hR.on (HB1.out.mono hR.size)) hk
  have c0 : w1.cell? ⟨bh, 0, none⟩ = some (.pointer (some ⟨d.s.hb, 0, none⟩)) := (hb.on HB1.out).cell rfl
  have k1 : w1.cell? ⟨w.heap.size, 1, none⟩ = some (.int .i64 s.fr) := HK1.out.cell rfl
  generalize (s.fr == 0 || decide (0 < cm H s.fr)) = R at *
  generalize cm0 H s.fr = st at *
  clear hR hb hk
  go_enter Tryz.func88, Tryz.ntmps88
  go_wp2_with (first | (go_at_call 89; refine CS.out.mono ?_; rintro e w2 ⟨rfl, hw2⟩; obtain rfl := hw2.symm))
  go_ret
  exact ⟨rfl, HB1.out⟩
/-- is a version read that was overwritten by its own writer? -/
def btB (H : List Ac) (t : Int) (s : Sw) : Bool := (s.fr == 0 || decide (0 < cm H s.fr)) && (!(s.fr == t) && decide (s.nt < (wr H s.fr s.it : Int)))
set_option maxHeartbeats 8000000 in
theorem rB1_any (N B : Nat) (H : List Ac) (d : Dv) (t : Int) (bh : Nat) (s : Sw) (w : World) (hR : RdD w N B H d) (hb : Blk w bh #[.pointer (some ⟨d.s.hb, 0, none⟩)] 43) (ht : t ∈ cms H) (hk : s.fr = 0 ∨ kn H s.fr = true) :
    Calls Tryz.prog 90 #[.pointer (some ⟨d.s.pt t, 0, none⟩), .agg #[.string s.it, .int .i64 s.fr, .int .i64 s.nt], .pointer (some ⟨bh, 0, none⟩)] w fun e w' => e = .returned (.bool (btB H t s)) ∧ Below w.heap.size w w' := by
  obtain ⟨w1, hw1⟩ : ∃ w1, w.alloc (.cells #[.string s.it, .int .i64 s.fr, .int .i64 s.nt] 53) = w1 := ⟨_, rfl⟩
  have HB1 : Hid (Below w.heap.size w w1) := by rw [← hw1]; exact (Below.refl _ _).alloc (Nat.le_refl _) _
  have HK1 : Hid (Blk w1 w.heap.size #[.string s.it, .int .i64 s.fr, .int .i64 s.nt] 53) := by rw [← hw1]; exact Blk.new w _ _
  have HR1 : Hid (RdD w1 N B H d) := hR.on (HB1.out.mono hR.size)
  have HBh : Hid (Blk w1 bh #[.pointer (some ⟨d.s.hb, 0, none⟩)] 43) := hb.on HB1.out
  have CS : Hid (Calls Tryz.prog 89 #[.pointer (some ⟨d.s.hb, 0, none⟩), .int .i64 s.fr] w1 fun e w' => e = .returned (.tuple #[.int .u64 (cm0 H s.fr : Nat), .bool (s.fr == 0 || decide (0 < cm H s.fr))]) ∧ w' = w1) := stampOf_any N B H d s.fr w1 HR1.out hk
  have HT : Hid (t ∈ cms H) := ht
  have c0 : w1.cell? ⟨bh, 0, none⟩ = some (.pointer (some ⟨d.s.hb, 0, none⟩)) := HBh.out.cell rfl
  have k1 : w1.cell? ⟨w.heap.size, 1, none⟩ = some (.int .i64 s.fr) := HK1.out.cell rfl
  obtain ⟨R, hRR⟩ : ∃ R, (s.fr == 0 || decide (0 < cm H s.fr)) = R := ⟨_, rfl⟩
  have HRR : Hid ((s.fr == 0 || decide (0 < cm H s.fr)) = R) := hRR
  rw [hRR] at CS
  generalize cm0 H s.fr = st at *
  obtain ⟨m, hm⟩ : ∃ m, wr H s.fr s.it = m := ⟨_, rfl⟩
  have HM : Hid (wr H s.fr s.it = m) := hm
  clear hR hb hk ht hRR hm
  have HF : Hid (∀ w' : World, Below w1.heap.size w1 w' → w'.cell? ⟨w.heap.size, 0, none⟩ = some (.string s.it) ∧ w'.cell? ⟨w.heap.size, 1, none⟩ = some (.int .i64 s.fr) ∧ w'.cell? ⟨w.heap.size, 2, none⟩ = some (.int .i64 s.nt) ∧ w'.cell? ⟨d.s.pt t, 0, none⟩ = some (.int .i64 t) ∧ w'.cell? ⟨bh, 0, none⟩ = some (.pointer (some ⟨d.s.hb, 0, none⟩)) ∧ w'.cell? ⟨d.s.hb, 1, none⟩ = some (.map (some d.s.mW)) ∧ (Instr.lookup 74 (.map (some d.s.mW)) (.agg #[.int .i64 s.fr, .string s.it]) false).run Tryz.prog w' = .ok (.int .i64 (m : Nat)) w') := fun w' hb => by
    have h1 := HR1.out.on (hb.mono HR1.out.size)
    have h2 := HK1.out.on hb
    refine ⟨h2.cell rfl, h2.cell rfl, h2.cell rfl, (h1.dn.tn t (cms_kn HT.out)).2.cell rfl, (HBh.out.on hb).cell rfl, h1.dn.blk.cell rfl, ?_⟩
    have h3 := h1.dn.mw.look keyW Tryz.underlying74 zeroNn (s.fr, s.it)
    rw [h1.dn.mwv, HM.out] at h3
    exact h3
  have HBw1 : Hid (Below w1.heap.size w1 w1) := Below.refl _ _
  have HBT : Hid (btB H t s = (R && (!(s.fr == t) && decide (s.nt < (m : Int))))) := by
    show _ = _
    unfold btB
    rw [HRR.out, HM.out]
  go_enter Tryz.func90, Tryz.ntmps90
  cases R
  · skip
    go_upto_region 2 with (first | (go_at_call 89; refine CS.out.mono ?_; rintro e w2 ⟨rfl, hw2⟩; obtain rfl := hw2.symm))
    clear c0 k1 CS
    haveI := inB_ne w1
    refine wp_region_inB (by kernel_rfl) (by kernel_rfl) ?_
    repeat (go_big_quiet_step (fail))
    refine wpQuiet_nil ?_
    rintro w3 ⟨⟨w3', hb9⟩, h9⟩
    obtain rfl : w3 = w3' := h9
    have HBw3 : Hid (Below w1.heap.size w1 w3) := HBw1.out.trans (hb9.mono HBw1.out.size)
    clear hb9
    have HQ : Hid (btB H t s = false) := by show _ = _; rw [HBT.out]; simp [*]
    go_wp2_with fail
    go_ret
    rw [HQ.out]
    exact ⟨rfl, HB1.out.trans (HBw3.out.mono HB1.out.size)⟩
  · by_cases e1 : s.fr = t
    · have q1 : (s.fr == t) = true := by rw [beq_iff_eq]; exact e1
      have q3 : (s.fr != t) = false := by rw [bne, q1]; rfl
      clear e1
      go_upto_region 2 with (first | (go_at_call 89; refine CS.out.mono ?_; rintro e w2 ⟨rfl, hw2⟩; obtain rfl := hw2.symm))
      clear c0 k1 CS
      haveI := inB_ne w1
      have f1 := fun p : InB w1 => (HF.out p.w' (HBw1.out.trans (p.h.mono HBw1.out.size))).2.1
      have f3 := fun p : InB w1 => (HF.out p.w' (HBw1.out.trans (p.h.mono HBw1.out.size))).2.2.2.1
      refine wp_region_inB (by kernel_rfl) (by kernel_rfl) ?_
      repeat (go_big_quiet_step (fail))
      refine wpQuiet_nil ?_
      rintro w3 ⟨⟨w3', hb9⟩, h9⟩
      obtain rfl : w3 = w3' := h9
      have HBw3 : Hid (Below w1.heap.size w1 w3) := HBw1.out.trans (hb9.mono HBw1.out.size)
      clear hb9 f1 f3
      have HQ : Hid (btB H t s = false) := by show _ = _; rw [HBT.out]; simp [*]
      go_wp2_with fail
      go_ret
      rw [HQ.out]
      exact ⟨rfl, HB1.out.trans (HBw3.out.mono HB1.out.size)⟩
    · have q1 : (s.fr == t) = false := by rw [beq_eq_false_iff_ne]; exact e1
      have q3 : (s.fr != t) = true := by rw [bne, q1]; rfl
      by_cases e2 : s.nt < (m : Int)
      · have q2 : decide (s.nt < (m : Int)) = true := decide_eq_true e2
        clear e1 e2
        go_upto_region 2 with (first | (go_at_call 89; refine CS.out.mono ?_; rintro e w2 ⟨rfl, hw2⟩; obtain rfl := hw2.symm))
        clear c0 k1 CS
        haveI := inB_ne w1
        have f0 := fun p : InB w1 => (HF.out p.w' (HBw1.out.trans (p.h.mono HBw1.out.size))).1
        have f1 := fun p : InB w1 => (HF.out p.w' (HBw1.out.trans (p.h.mono HBw1.out.size))).2.1
        have f2 := fun p : InB w1 => (HF.out p.w' (HBw1.out.trans (p.h.mono HBw1.out.size))).2.2.1
        have f3 := fun p : InB w1 => (HF.out p.w' (HBw1.out.trans (p.h.mono HBw1.out.size))).2.2.2.1
        have f4 := fun p : InB w1 => (HF.out p.w' (HBw1.out.trans (p.h.mono HBw1.out.size))).2.2.2.2.1
        have f5 := fun p : InB w1 => (HF.out p.w' (HBw1.out.trans (p.h.mono HBw1.out.size))).2.2.2.2.2.1
        have f6 := fun p : InB w1 => (HF.out p.w' (HBw1.out.trans (p.h.mono HBw1.out.size))).2.2.2.2.2.2
        refine wp_region_inB (by kernel_rfl) (by kernel_rfl) ?_
        repeat (go_big_quiet_step (fail))
        refine wpQuiet_nil ?_
        rintro w3 ⟨⟨w3', hb9⟩, h9⟩
        obtain rfl : w3 = w3' := h9
        have HBw3 : Hid (Below w1.heap.size w1 w3) := HBw1.out.trans (hb9.mono HBw1.out.size)
        clear hb9 f0 f1 f2 f3 f4 f5 f6
        have HQ : Hid (btB H t s = true) := by show _ = _; rw [HBT.out]; simp [*]
        go_wp2_with fail
        go_ret
        rw [HQ.out]
        exact ⟨rfl, HB1.out.trans (HBw3.out.mono HB1.out.size)⟩
      · have q2 : decide (s.nt < (m : Int)) = false := decide_eq_false e2
        clear e1 e2
        go_upto_region 2 with (first | (go_at_call 89; refine CS.out.mono ?_; rintro e w2 ⟨rfl, hw2⟩; obtain rfl := hw2.symm))
        clear c0 k1 CS
        haveI := inB_ne w1
        have f0 := fun p : InB w1 => (HF.out p.w' (HBw1.out.trans (p.h.mono HBw1.out.size))).1
        have f1 := fun p : InB w1 => (HF.out p.w' (HBw1.out.trans (p.h.mono HBw1.out.size))).2.1
        have f2 := fun p : InB w1 => (HF.out p.w' (HBw1.out.trans (p.h.mono HBw1.out.size))).2.2.1
        have f3 := fun p : InB w1 => (HF.out p.w' (HBw1.out.trans (p.h.mono HBw1.out.size))).2.2.2.1
        have f4 := fun p : InB w1 => (HF.out p.w' (HBw1.out.trans (p.h.mono HBw1.out.size))).2.2.2.2.1
        have f5 := fun p : InB w1 => (HF.out p.w' (HBw1.out.trans (p.h.mono HBw1.out.size))).2.2.2.2.2.1
        have f6 := fun p : InB w1 => (HF.out p.w' (HBw1.out.trans (p.h.mono HBw1.out.size))).2.2.2.2.2.2
        refine wp_region_inB (by kernel_rfl) (by kernel_rfl) ?_
        repeat (go_big_quiet_step (fail))
        refine wpQuiet_nil ?_
        rintro w3 ⟨⟨w3', hb9⟩, h9⟩
        obtain rfl : w3 = w3' := h9
        have HBw3 : Hid (Below w1.heap.size w1 w3) := HBw1.out.trans (hb9.mono HBw1.out.size)
        clear hb9 f0 f1 f2 f3 f4 f5 f6
        have HQ : Hid (btB H t s = false) := by show _ = _; rw [HBT.out]; simp [*]
        go_wp2_with fail
        go_ret
        rw [HQ.out]
        exact ⟨rfl, HB1.out.trans (HBw3.out.mono HB1.out.size)⟩
/-- someSaw, whatever is meant -/
structure MeantF (H : List Ac) (d : Dv) (w : World) (fid : FuncId) (bh : Nat) (M : Int → Sw → Bool) : Prop where
  ent : ∀ args w, (callFunc fid args).run Tryz.prog w = .ok (.enter fid args) w
  call : ∀ t ∈ cms H, ∀ s ∈ rds H t, ∀ W, Below w.heap.size w W → Calls Tryz.prog fid #[.pointer (some ⟨d.s.pt t, 0, none⟩), .agg #[.string s.it, .int .i64 s.fr, .int .i64 s.nt], .pointer (some ⟨bh, 0, none⟩)] W fun e w' => e = .returned (.bool (M t s)) ∧ Below W.heap.size W w'
set_option maxHeartbeats 4000000 in
theorem sS11_any (H : List Ac) (d : Dv) (w0 : World) (fid : FuncId) (bh bf bt : Nat) (M : Int → Sw → Bool) (hM : MeantF H d w0 fid bh M) (t : Int) (ht : t ∈ cms H) (s : Sw) (hs : s ∈ rds H t) (w : World) (hw : Below w0.heap.size w0 w)
    (hf : Blk w bf #[.func (.func fid) #[] #[.pointer (some ⟨bh, 0, none⟩)]] 103) (hb : Blk w bt #[.pointer (some ⟨d.s.pt t, 0, none⟩)] 102) :
    Calls Tryz.prog 121 #[.agg #[.string s.it, .int .i64 s.fr, .int .i64 s.nt], .pointer (some ⟨bf, 0, none⟩), .pointer (some ⟨bt, 0, none⟩)] w fun e w' => e = .returned (.bool (M t s)) ∧ Below w.heap.size w w' := by
  obtain ⟨w1, hw1⟩ : ∃ w1, w.alloc (.cells #[.string s.it, .int .i64 s.fr, .int .i64 s.nt] 53) = w1 := ⟨_, rfl⟩
  have HB1 : Hid (Below w.heap.size w w1) := by rw [← hw1]; exact (Below.refl _ _).alloc (Nat.le_refl _) _
  have HK1 : Hid (Blk w1 w.heap.size #[.string s.it, .int .i64 s.fr, .int .i64 s.nt] 53) := by rw [← hw1]; exact Blk.new w _ _
  have CM : Hid (Calls Tryz.prog fid #[.pointer (some ⟨d.s.pt t, 0, none⟩), .agg #[.string s.it, .int .i64 s.fr, .int .i64 s.nt], .pointer (some ⟨bh, 0, none⟩)] w1 fun e w' => e = .returned (.bool (M t s)) ∧ Below w1.heap.size w1 w') := hM.call t ht s hs w1 (hw.trans (HB1.out.mono hw.size))
  have hin := hM.ent
  have c0 : w1.cell? ⟨bf, 0, none⟩ = some (.func (.func fid) #[] #[.pointer (some ⟨bh, 0, none⟩)]) := (hf.on HB1.out).cell rfl
  have c1 : w1.cell? ⟨bt, 0, none⟩ = some (.pointer (some ⟨d.s.pt t, 0, none⟩)) := (hb.on HB1.out).cell rfl
  have k0 := HK1.out.cell (i := 0) rfl
  have k1 := HK1.out.cell (i := 1) rfl
  have k2 := HK1.out.cell (i := 2) rfl
  generalize M t s = R at *
  clear hM ht hs hw hf hb
  go_enter Tryz.func121, Tryz.ntmps121
  go_wp2_with fail
  refine CM.out.mono ?_
  rintro e w2 ⟨rfl, hb2⟩
  have HB2 : Hid (Below w.heap.size w w2) := HB1.out.trans (hb2.mono HB1.out.size)
  clear hb2 CM
  go_wp2_with fail
  go_ret
  exact ⟨rfl, HB2.out⟩
set_option maxHeartbeats 4000000 in
theorem sS1_any (N B : Nat) (H : List Ac) (d : Dv) (w0 : World) (fid : FuncId) (bh bf : Nat) (M : Int → Sw → Bool) (hM : MeantF H d w0 fid bh M) (hH : H.length ≤ 4096) (t : Int) (ht : t ∈ cms H) (hs : scs H t = []) (w : World) (hw : Below w0.heap.size w0 w) (hR : RdD w N B H d)
    (hf : Blk w bf #[.func (.func fid) #[] #[.pointer (some ⟨bh, 0, none⟩)]] 103) :
    Calls Tryz.prog 118 #[.pointer (some ⟨d.s.pt t, 0, none⟩), .pointer (some ⟨bf, 0, none⟩)] w fun e w' => e = .returned (.bool ((rds H t).any (M t))) ∧ Below w.heap.size w w' := by
  obtain ⟨w1, hw1⟩ : ∃ w1, w.alloc (.cells #[.pointer (some ⟨d.s.pt t, 0, none⟩)] 102) = w1 := ⟨_, rfl⟩
  have HB1 : Hid (Below w.heap.size w w1) := by rw [← hw1]; exact (Below.refl _ _).alloc (Nat.le_refl _) _
  have HK1 : Hid (Blk w1 w.heap.size #[.pointer (some ⟨d.s.pt t, 0, none⟩)] 102) := by rw [← hw1]; exact Blk.new w _ _
  have CSw : Hid (Calls Tryz.prog 120 #[.pointer (some ⟨d.s.pt t, 0, none⟩)] w1 fun e w' => ∃ q l c, e = .returned (.slice q l c) ∧ OwnG encS 3 53 w' w1.heap.size (.slice q l c) (rds H t) ∧ Below w1.heap.size w1 w') := saw0_any N B H d t w1 (hR.on (HB1.out.mono hR.size)) hH ht hs
  have HCF : Hid (∀ (w2 : World) (q : Option Addr) (l c : Nat), OwnG encS 3 53 w2 w1.heap.size (.slice q l c) (rds H t) → Below w1.heap.size w1 w2 → Calls Tryz.prog 119 #[.slice q l c, .func (.func 121) #[] #[.pointer (some ⟨bf, 0, none⟩), .pointer (some ⟨w.heap.size, 0, none⟩)]] w2 fun e w' => e = .returned (.bool ((rds H t).any (M t))) ∧ Below w2.heap.size w2 w') := fun w2 q l c ho hb => by
    have hw2 : Below w.heap.size w w2 := HB1.out.trans (hb.mono HB1.out.size)
    refine containsFS_any 121 _ _ (M t) _ (rds H t) w2 (enters_of Tryz.func121 (by kernel_rfl) rfl) (OwnG.sl (T := 53) (B := w1.heap.size) (fun _ => rfl) ho) (by have := rds_len H t; omega) (fun x w3 hx hb3 => ?_)
    have hb23 : Below w.heap.size w w3 := hw2.trans (hb3.mono hw2.size)
    exact sS11_any H d w0 fid bh bf w.heap.size M hM t ht x hx w3 (hw.trans (hb23.mono hw.size)) (hf.on hb23) (HK1.out.on (hb.trans (hb3.mono hb.size)))
  have k0 := HK1.out.cell (i := 0) rfl
  generalize (rds H t).any (M t) = R at *
  clear hM hw hf hR hH hs ht
  go_enter Tryz.func118, Tryz.ntmps118
  go_wp2_with (first | (go_at_call 120; refine CSw.out.mono ?_; rintro e w2 ⟨q, l, c, rfl, g1, g2⟩; have HW2 : Hid (OwnG encS 3 53 w2 w1.heap.size (.slice q l c) (rds H t) ∧ Below w1.heap.size w1 w2) := ⟨g1, g2⟩; clear g1 g2 k0) | (go_at_call 119; refine (HCF.out _ _ _ _ HW2.out.1 HW2.out.2).mono ?_; rintro e w3 ⟨rfl, hb3⟩; have HB3 : Hid (Below w1.heap.size w1 w3) := HW2.out.2.trans (hb3.mono HW2.out.2.size); clear hb3))
  go_ret
  exact ⟨rfl, HB1.out.trans (HB3.out.mono HB1.out.size)⟩
set_option maxHeartbeats 4000000 in
theorem someSaw_any (N B : Nat) (H : List Ac) (d : Dv) (w : World) (fid : FuncId) (bh : Nat) (M : Int → Sw → Bool) (hM : MeantF H d w fid bh M) (hH : H.length ≤ 4096) (hF : Fin H d.s d) (hs : ∀ t, scs H t = []) (hR : RdD w N B H d) :
    Calls Tryz.prog 87 #[.pointer (some ⟨d.s.hb, 0, none⟩), .func (.func fid) #[] #[.pointer (some ⟨bh, 0, none⟩)]] w fun e w' => e = .returned (.bool (d.C.any (fun t => (rds H t).any (M t)))) ∧ Below w.heap.size w w' := by
  obtain ⟨w1, hw1⟩ : ∃ w1, w.alloc (.cells #[.func (.func fid) #[] #[.pointer (some ⟨bh, 0, none⟩)]] 103) = w1 := ⟨_, rfl⟩
  have HB1 : Hid (Below w.heap.size w w1) := by rw [← hw1]; exact (Below.refl _ _).alloc (Nat.le_refl _) _
  have HK1 : Hid (Blk w1 w.heap.size #[.func (.func fid) #[] #[.pointer (some ⟨bh, 0, none⟩)]] 103) := by rw [← hw1]; exact Blk.new w _ _
  have hR1 := hR.on (HB1.out.mono hR.size)
  obtain ⟨qc, dc, evc⟩ := hR1.dn.own.slcL
  have CF : Hid (Calls Tryz.prog 117 #[.slice qc d.C.length dc, .func (.func 118) #[] #[.pointer (some ⟨w.heap.size, 0, none⟩)]] w1 fun e w' => e = .returned (.bool (d.C.any (fun t => (rds H t).any (M t)))) ∧ Below w1.heap.size w1 w') := by
    rw [← evc]
    refine containsFT_any 118 _ (fun t => (rds H t).any (M t)) _ d.C d.s.pt w1 (enters_of Tryz.func118 (by kernel_rfl) rfl) (OwnG.sl (T := 102) (B := B) (fun _ => rfl) hR1.dn.own) (by have h1 := hF.perm.length_eq; have h2 := cms_len H; omega) (fun x w3 hx hb3 => ?_)
    have hb23 : Below w.heap.size w w3 := HB1.out.trans (hb3.mono HB1.out.size)
    exact sS1_any N B H d w fid bh w.heap.size M hM hH x (hF.perm.mem_iff.1 hx) (hs x) w3 hb23 (hR.on (hb23.mono hR.size)) (HK1.out.on hb3)
  have c2 : w1.cell? ⟨d.s.hb, 2, none⟩ = some (.slice qc d.C.length dc) := by rw [← evc]; exact hR1.dn.blk.cell rfl
  generalize d.C.any (fun t => (rds H t).any (M t)) = R at *
  generalize d.C.length = n at *
  clear hM hH hF hs hR hR1 evc
  go_enter Tryz.func87, Tryz.ntmps87
  go_wp2_with (first | (go_at_call 117; refine CF.out.mono ?_; rintro e w3 ⟨rfl, hb3⟩; have HB3 : Hid (Below w.heap.size w w3) := HB1.out.trans (hb3.mono HB1.out.size); clear hb3))
  go_ret
  exact ⟨rfl, HB3.out⟩
set_option maxHeartbeats 4000000 in
theorem readsU_any (N B : Nat) (H : List Ac) (d : Dv) (w : World) (hO : OkF H) (hF : Fin H d.s d) (hs : ∀ t, scs H t = []) (hR : RdD w N B H d) :
    Calls Tryz.prog 57 #[.pointer (some ⟨d.s.hb, 0, none⟩)] w fun e w' => e = .returned (.bool (d.C.any (fun t => (rds H t).any ((fun _ s => !(s.fr == 0 || decide (0 < cm H s.fr))) t)))) ∧ Below w.heap.size w w' := by
  obtain ⟨w1, hw1⟩ : ∃ w1, w.alloc (.cells #[.pointer (some ⟨d.s.hb, 0, none⟩)] 43) = w1 := ⟨_, rfl⟩
  have HB1 : Hid (Below w.heap.size w w1) := by rw [← hw1]; exact (Below.refl _ _).alloc (Nat.le_refl _) _
  have HK1 : Hid (Blk w1 w.heap.size #[.pointer (some ⟨d.s.hb, 0, none⟩)] 43) := by rw [← hw1]; exact Blk.new w _ _
  have hR1 := hR.on (HB1.out.mono hR.size)
  have CS : Hid (Calls Tryz.prog 87 #[.pointer (some ⟨d.s.hb, 0, none⟩), .func (.func 88) #[] #[.pointer (some ⟨w.heap.size, 0, none⟩)]] w1 fun e w' => e = .returned (.bool (d.C.any (fun t => (rds H t).any ((fun _ s => !(s.fr == 0 || decide (0 < cm H s.fr))) t)))) ∧ Below w1.heap.size w1 w') := by
    refine someSaw_any N B H d w1 88 w.heap.size (fun _ s => !(s.fr == 0 || decide (0 < cm H s.fr))) ⟨enters_of Tryz.func88 (by kernel_rfl) rfl, fun t ht s hs2 W hb => ?_⟩ hO.len hF hs hR1
    exact rU1_any N B H d (d.s.pt t) w.heap.size s W (hR1.on (hb.mono hR1.size)) (HK1.out.on hb) (hO.rd hs2)
  have k0 := HK1.out.cell (i := 0) rfl
  generalize d.C.any (fun t => (rds H t).any ((fun _ s => !(s.fr == 0 || decide (0 < cm H s.fr))) t)) = R at *
  clear hO hF hs hR hR1
  go_enter Tryz.func57, Tryz.ntmps57
  go_wp2_with (first | (go_at_call 87; refine CS.out.mono ?_; rintro e w3 ⟨rfl, hb3⟩; have HB3 : Hid (Below w.heap.size w w3) := HB1.out.trans (hb3.mono HB1.out.size); clear hb3))
  go_ret
  exact ⟨rfl, HB3.out⟩
set_option maxHeartbeats 4000000 in
theorem readsB_any (N B : Nat) (H : List Ac) (d : Dv) (w : World) (hO : OkF H) (hF : Fin H d.s d) (hs : ∀ t, scs H t = []) (hR : RdD w N B H d) :
    Calls Tryz.prog 58 #[.pointer (some ⟨d.s.hb, 0, none⟩)] w fun e w' => e = .returned (.bool (d.C.any (fun t => (rds H t).any ((btB H) t)))) ∧ Below w.heap.size w w' := by
  obtain ⟨w1, hw1⟩ : ∃ w1, w.alloc (.cells #[.pointer (some ⟨d.s.hb, 0, none⟩)] 43) = w1 := ⟨_, rfl⟩
  have HB1 : Hid (Below w.heap.size w w1) := by rw [← hw1]; exact (Below.refl _ _).alloc (Nat.le_refl _) _
  have HK1 : Hid (Blk w1 w.heap.size #[.pointer (some ⟨d.s.hb, 0, none⟩)] 43) := by rw [← hw1]; exact Blk.new w _ _
  have hR1 := hR.on (HB1.out.mono hR.size)
  have CS : Hid (Calls Tryz.prog 87 #[.pointer (some ⟨d.s.hb, 0, none⟩), .func (.func 90) #[] #[.pointer (some ⟨w.heap.size, 0, none⟩)]] w1 fun e w' => e = .returned (.bool (d.C.any (fun t => (rds H t).any ((btB H) t)))) ∧ Below w1.heap.size w1 w') := by
    refine someSaw_any N B H d w1 90 w.heap.size (btB H) ⟨enters_of Tryz.func90 (by kernel_rfl) rfl, fun t ht s hs2 W hb => ?_⟩ hO.len hF hs hR1
    exact rB1_any N B H d t w.heap.size s W (hR1.on (hb.mono hR1.size)) (HK1.out.on hb) ht (hO.rd hs2)
  have k0 := HK1.out.cell (i := 0) rfl
  generalize d.C.any (fun t => (rds H t).any ((btB H) t)) = R at *
  clear hO hF hs hR hR1
  go_enter Tryz.func58, Tryz.ntmps58
  go_wp2_with (first | (go_at_call 87; refine CS.out.mono ?_; rintro e w3 ⟨rfl, hb3⟩; have HB3 : Hid (Below w.heap.size w w3) := HB1.out.trans (hb3.mono HB1.out.size); clear hb3))
  go_ret
  exact ⟨rfl, HB3.out⟩

end Go.Proofs.YtncfejndmlcidaaGreat
