/- Layer 19: addVersion. Layer 19: addReads. -/
import Derived.Test.YtncfejndmlcidaaGreatGWEd2
import Derived.Test.YtncfejndmlcidaaGreatGMGr8
namespace Go.Proofs.YtncfejndmlcidaaGreat
open Go.RowKit
set_option maxRecDepth 100000

theorem bsS_det (B : Nat) (v : Value) (L : List ByteArray) (x : ByteArray) (w : World) (hL : SlG encX 1 B w v L) (hR : RisS L) (hl : L.length ≤ 4398046511104) :
    Calls Tryz.prog 100 #[v, .string x] w fun e w' => e = .returned (.tuple #[.int .i64 (plI L x : Nat), .bool (memB x L)]) ∧ Below w.heap.size w w' := by
  refine (bsS_any B v L x w hL hR hl).mono ?_
  rintro e w' ⟨k, b, rfl, h1, h2, h3, h4, h5⟩
  have e1 : plI L x = k := count_pre _ L k h2 (fun j hj hjk => h3 j hj hjk) (fun j hj hjk => h4 j hj hjk)
  have e2 : b = memB x L := by rw [Bool.eq_iff_iff, memB_iff]; exact h1
  rw [e1, e2]
  exact ⟨rfl, h5⟩
set_option maxHeartbeats 4000000 in
theorem addV1_any (N B : Nat) (H : List Ac) (d : Dv) (x : ByteArray) (lb sb st i : Nat) (hi : i < (vrs H x).length) (w : World) (hR : RdD w N B H d) (hl : Blk w lb #[getG nilS d.s.EV x] 76) (hs : Blk w sb #[.int .u64 (st : Nat)] 49) :
    Calls Tryz.prog 145 #[.int .i64 (i : Nat), .pointer (some ⟨lb, 0, none⟩), .pointer (some ⟨sb, 0, none⟩)] w fun e w' => e = .returned (.bool (decide (st < cm H ((vrs H x).getD i 0)))) ∧ Below w.heap.size w w' := by
  have s0 : w.cell? ⟨sb, 0, none⟩ = some (.int .u64 (st : Nat)) := hs.cell rfl
  obtain ⟨q, c, ev⟩ := (show OwnG (encT d.s.pt) 1 102 w B (getG nilS d.s.EV x) (vrs H x) from hR.dn.fv.own (some (some x))).slcL
  obtain ⟨-, hlc, -, h3⟩ := hR.vcell ev
  obtain ⟨b, o, rfl, g0⟩ := h3 i hi
  have c0 : w.cell? ⟨lb, 0, none⟩ = some (.slice (some ⟨b, o, none⟩) (vrs H x).length c) := by rw [← ev]; exact hl.cell rfl
  have et : (vrs H x).getD i 0 = (vrs H x)[i] := by simp [List.getD_eq_getElem?_getD, hi]
  rw [et]
  have hkn : kn H (vrs H x)[i] = true := cms_kn (vrs_cms (List.getElem_mem hi))
  have t5 : w.cell? ⟨d.s.pt (vrs H x)[i], 5, none⟩ = some (.int .u64 (cm H (vrs H x)[i] : Nat)) := (hR.dn.tn _ hkn).2.cell rfl
  clear h3 ev hl hs hR et
  generalize (vrs H x)[i] = t at *
  generalize cm H t = m at *
  generalize (vrs H x).length = l at *
  obtain ⟨R, hRR⟩ : ∃ R, decide (st < m) = R := ⟨_, rfl⟩
  have hq : decide ((m : Int) > (st : Int)) = R := by rw [← hRR]; simp
  rw [hRR]
  clear hRR hkn
  go_enter Tryz.func145, Tryz.ntmps145
  go_upto_region 1 with fail
  go_quiet (fail)
  go_wp2_with fail
  go_ret
  exact ⟨by first | rfl | rw [hq] | simp_all, ⟨rfl, rfl, rfl, Nat.le_refl _, fun _ _ => rfl⟩⟩
set_option maxHeartbeats 8000000 in
theorem addVersion_any (N B C ob : Nat) (vs : Nat → Value) (LL : List (List Ed)) (n : Nat) (H : List Ac) (d : Dv) (t : Int) (s : Sw) (kd : Nat) (w : World) (hR : RdD w N B H d) (hN : N ≤ C) (hC : C ≤ w.heap.size) (hF : Fin H d.s d) (hH : OkF H) (hO : OutE w C ob vs LL) (hn : LL.length = n) (hd : d.C.length = n) (hI : d.I.length ≤ 4096) (hl : RowsLe LL 549755813888)
    (ht : t ∈ cms H) (hs : s.fr = 0 ∨ kn H s.fr = true) :
    Calls Tryz.prog 109 #[.pointer (some ⟨d.s.hb, 0, none⟩), .slice (some ⟨ob, 0, none⟩) n n, .pointer (some ⟨d.s.pt t, 0, none⟩), .agg #[.string s.it, .int .i64 s.fr, .int .i64 s.nt], .int .i64 (kd : Int)] w fun e w' => e = .returned (.tuple #[]) ∧ EdF w w' C ∧ ∃ vs', OutE w' C ob vs' (vrM d.pl H d.I t kd LL s) := by
  have hn4 : n ≤ 4096 := by rw [← hd, hF.perm.length_eq]; exact Nat.le_trans (cms_len H) hH.len
  have HA : Hid (N ≤ C ∧ C ≤ w.heap.size ∧ Fin H d.s d ∧ OkF H ∧ LL.length = n ∧ d.C.length = n ∧ n ≤ 4096 ∧ d.I.length ≤ 4096 ∧ RowsLe LL 549755813888 ∧ t ∈ cms H ∧ (s.fr = 0 ∨ kn H s.fr = true)) := ⟨hN, hC, hF, hH, hn, hd, hn4, hI, hl, ht, hs⟩
  have HR : Hid (RdD w N B H d) := hR
  have HO : Hid (OutE w C ob vs LL) := hO
  obtain ⟨qi, di, evi⟩ := (show OwnG encX 1 9 w B d.vI d.I from hR.dn.fi.own none).slcL
  obtain ⟨mi, hmi⟩ : ∃ m, d.I.length = m := ⟨_, rfl⟩
  rw [hmi] at evi
  have HEI : Hid (d.vI = .slice qi mi di ∧ d.I.length = mi) := ⟨evi, hmi⟩
  obtain ⟨qv, dv, evv⟩ := (show OwnG (encT d.s.pt) 1 102 w B (getG nilS d.s.EV s.it) (vrs H s.it) from hR.dn.fv.own (some (some s.it))).slcL
  obtain ⟨lv, hlv⟩ : ∃ m, (vrs H s.it).length = m := ⟨_, rfl⟩
  rw [hlv] at evv
  have HEV : Hid (getG nilS d.s.EV s.it = .slice qv lv dv ∧ (vrs H s.it).length = lv ∧ lv ≤ 4096) := ⟨evv, hlv, by rw [← hlv]; exact Nat.le_trans (vrs_len H s.it) hH.len⟩
  obtain ⟨w1, hw1⟩ : ∃ w1, w.alloc (.cells #[.string s.it, .int .i64 s.fr, .int .i64 s.nt] 53) = w1 := ⟨_, rfl⟩
  have HB1 : Hid (Below w.heap.size w w1 ∧ w1.heap.size = w.heap.size + 1) := by rw [← hw1]; exact ⟨(Below.refl _ _).alloc (Nat.le_refl _) _, by simp⟩
  have HK1 : Hid (Blk w1 w.heap.size #[.string s.it, .int .i64 s.fr, .int .i64 s.nt] 53) := by rw [← hw1]; exact Blk.new w _ _
  have HR1 : Hid (RdD w1 N B H d) := hR.on (HB1.out.1.mono hR.size)
  obtain ⟨R, hRR⟩ : ∃ R, (s.fr == 0 || decide (0 < cm H s.fr)) = R := ⟨_, rfl⟩
  have HRR : Hid ((s.fr == 0 || decide (0 < cm H s.fr)) = R) := hRR
  obtain ⟨st, hst⟩ : ∃ st, cm0 H s.fr = st := ⟨_, rfl⟩
  have HST : Hid (cm0 H s.fr = st) := hst
  have CS : Hid (Calls Tryz.prog 89 #[.pointer (some ⟨d.s.hb, 0, none⟩), .int .i64 s.fr] w1 fun e w' => e = .returned (.tuple #[.int .u64 (st : Nat), .bool R]) ∧ w' = w1) := by
    rw [← hRR, ← hst]
    exact stampOf_any N B H d s.fr w1 HR1.out hs
  have k0 := HK1.out.cell (i := 0) rfl
  have k1 := HK1.out.cell (i := 1) rfl
  have k2 := HK1.out.cell (i := 2) rfl
  clear hR hN hC hF hH hO hn hd hI hl ht hs evi hmi evv hlv hRR hst hn4
  skip
  skip
  go_enter Tryz.func109, Tryz.ntmps109
  cases R
  · go_wp2_with (first | (go_at_call 89; refine CS.out.mono ?_; rintro e w2 ⟨rfl, hw2⟩; obtain rfl := hw2.symm))
    go_returns
    have e1 : vrM d.pl H d.I t kd LL s = LL := by
      unfold vrM
      refine if_pos ?_
      have h1 := HRR.out
      simp only [Bool.or_eq_false_iff, beq_eq_false_iff_ne, decide_eq_false_iff_not] at h1
      exact ⟨h1.1, by omega⟩
    rw [e1]
    exact ⟨rfl, (EdF.of HB1.out.1).trans' (EdF.of ((Below.refl _ _).alloc (Nat.le_refl _) _)), vs, (HO.out.on HB1.out.1).on ((Below.refl _ _).alloc (Nat.le_refl _) _)⟩
  · go_upto_region 3 with (first | (go_at_call 89; refine CS.out.mono ?_; rintro e w2 ⟨rfl, hw2⟩; obtain rfl := hw2.symm))
    obtain ⟨w2, hw2⟩ : ∃ w2, w1.alloc (.cells #[.int .u64 (st : Nat)] 49) = w2 := ⟨_, rfl⟩
    have HB2 : Hid (Below w.heap.size w w2 ∧ w1.heap.size ≤ w2.heap.size) := by rw [← hw2]; exact ⟨HB1.out.1.alloc HB1.out.1.size _, by simp⟩
    have HK2 : Hid (Blk w2 w.heap.size #[.string s.it, .int .i64 s.fr, .int .i64 s.nt] 53 ∧ Blk w2 w1.heap.size #[.int .u64 (st : Nat)] 49) := by rw [← hw2]; exact ⟨HK1.out.on ((Below.refl _ _).alloc (Nat.le_refl _) _), Blk.new w1 _ _⟩
    rw [hw2]
    clear hw2 k0 k1 k2 CS
    generalize w1.heap.size = b10 at *
    have HR2 : Hid (RdD w2 N B H d) := HR.out.on (HB2.out.1.mono HR.out.size)
    have HBw2 : Hid (Below w2.heap.size w2 w2) := Below.refl _ _
    have HF : Hid (∀ w' : World, Below w2.heap.size w2 w' → w'.cell? ⟨d.s.hb, 4, none⟩ = some (.slice qi mi di) ∧ w'.cell? ⟨w.heap.size, 0, none⟩ = some (.string s.it)) := fun w' hb => by
      have h1 := HR2.out.on (hb.mono HR2.out.size)
      refine ⟨?_, (HK2.out.1.on hb).cell rfl⟩
      rw [← HEI.out.1]
      exact h1.dn.blk.cell rfl
    obtain ⟨im, him⟩ : ∃ im, plI d.I s.it = im := ⟨_, rfl⟩
    have HIM : Hid (plI d.I s.it = im) := him
    have HC : Hid (∀ p : InB w2, Calls Tryz.prog 100 #[.slice qi mi di, .string s.it] p.w' fun e w' => e = .returned (.tuple #[.int .i64 (im : Nat), .bool (memB s.it d.I)]) ∧ Below p.w'.heap.size p.w' w') := fun p => by
      have h1 := HR2.out.on (p.h.mono HR2.out.size)
      rw [← HEI.out.1, ← him]
      exact bsS_det p.w'.heap.size d.vI d.I s.it p.w' (OwnG.sl (T := 9) (B := B) (fun _ => rfl) (h1.dn.fi.own none)) HA.out.2.2.1.isr (by have := HA.out.2.2.2.2.2.2.2.1; omega)
    clear him
    generalize memB s.it d.I = mb at *
    haveI := inB_ne w2
    have f1 := fun p : InB w2 => (HF.out p.w' (HBw2.out.trans (p.h.mono HBw2.out.size))).1
    have f2 := fun p : InB w2 => (HF.out p.w' (HBw2.out.trans (p.h.mono HBw2.out.size))).2
    refine wp_region_inB (by kernel_rfl) (by kernel_rfl) ?_
    repeat (go_big_quiet_step (first | (go_at_call 100; exact Calls.inB (HC.out _))))
    refine wpQuiet_nil ?_
    rintro w3 ⟨⟨w3', hb9⟩, h9⟩
    obtain rfl : w3 = w3' := h9
    have HBw3 : Hid (Below w2.heap.size w2 w3) := HBw2.out.trans (hb9.mono HBw2.out.size)
    have HB3 : Hid (Below w2.heap.size w2 w3) := hb9
    clear hb9 f1 f2
    clear HF HC HBw2
    have HB23 : Hid (Below w.heap.size w w3) := HB2.out.1.trans (HB3.out.mono HB2.out.1.size)
    have HR3 : Hid (RdD w3 N B H d) := HR2.out.on (HB3.out.mono HR2.out.size)
    have HK3 : Hid (Blk w3 w.heap.size #[.string s.it, .int .i64 s.fr, .int .i64 s.nt] 53 ∧ Blk w3 b10 #[.int .u64 (st : Nat)] 49) := ⟨HK2.out.1.on HB3.out, HK2.out.2.on HB3.out⟩
    clear HR2 HK2 HB2 HK1 HR1 HB1
    have k1 : w3.cell? ⟨w.heap.size, 1, none⟩ = some (.int .i64 s.fr) := HK3.out.1.cell rfl
    by_cases e0 : s.fr = 0
    · skip
      have q0 : (s.fr == 0) = true := by simpa using e0
      have HK4 : Hid (Blk w3 w.heap.size #[.string s.it, .int .i64 s.fr, .int .i64 s.nt] 53 ∧ Blk w3 b10 #[.int .u64 (st : Nat)] 49) := HK3.out
      have HE4 : Hid (EdF w w3 C) := EdF.of HB23.out
      have HO4 : Hid (∃ vs', OutE w3 C ob vs' (vrM1 d.pl d.I t LL s)) := ⟨vs, by
        have e1 : vrM1 d.pl d.I t LL s = LL := if_pos e0
        rw [e1]
        exact HO.out.on HB23.out⟩
      clear HR3 HK3 HB3 HBw3 HB23
      generalize w3 = w4 at *
      go_upto_region 6 with fail
      have HBd : Hid (Below w4.heap.size w4 w4.drew) := (Below.refl _ _).drew
      refine wp_region_L (fun w' => Below w4.drew.heap.size w4.drew w') 8 (by kernel_rfl) ?_
      generalize w4.drew = wd at *
      have HRd : Hid (RdD wd N B H d) := HR.out.on (((HE4.out.below' HA.out.2.1).mono HA.out.1).trans (HBd.out.mono (Nat.le_trans HA.out.1 (Nat.le_trans HA.out.2.1 HE4.out.size))))
      have HKd : Hid (Blk wd w.heap.size #[.string s.it, .int .i64 s.fr, .int .i64 s.nt] 53 ∧ Blk wd b10 #[.int .u64 (st : Nat)] 49) := ⟨HK4.out.1.on HBd.out, HK4.out.2.on HBd.out⟩
      have HEd : Hid (EdF w wd C) := HE4.out.trans' (EdF.of HBd.out)
      have HOd : Hid (∃ vs', OutE wd C ob vs' (vrM1 d.pl d.I t LL s)) := HO4.out.elim (fun v h => ⟨v, h.on HBd.out⟩)
      clear HE4 HO4 HK4 HBd
      have HF6 : Hid (∀ w9 : World, Below wd.heap.size wd w9 → w9.cell? ⟨d.s.hb, 3, none⟩ = some (.map (some d.s.mV)) ∧ w9.cell? ⟨w.heap.size, 0, none⟩ = some (.string s.it) ∧ (Instr.lookup 75 (.map (some d.s.mV)) (.string s.it) false).run Tryz.prog w9 = .ok (.slice qv lv dv) w9) := fun w9 hb => by
        have h1 := HRd.out.on (hb.mono HRd.out.size)
        refine ⟨h1.dn.blk.cell rfl, (HKd.out.1.on hb).cell rfl, ?_⟩
        rw [← HEV.out.1]
        exact h1.dn.mv.look keyS Tryz.underlying75 zeroTs s.it
      refine wpL_take (v := ?_) 0 rfl (by kernel_rfl) (fun _ _ _ h => h) (by rfl) ?_ (Below.refl _ _) ?_
      rotate_left
      focus
        intro w9 hw9
        obtain ⟨a3, b0, lk⟩ := HF6.out w9 hw9
        go_simp
        try with_reducible rfl
      try simp only [Act.put, List.setIfInBounds_toArray, List.set_cons_zero, List.set_cons_succ]
      refine wpL_take (v := ?_) 1 rfl (by kernel_rfl) (fun _ _ _ h => h) (by rfl) ?_ (Below.refl _ _) ?_
      rotate_left
      focus
        intro w9 hw9
        obtain ⟨a3, b0, lk⟩ := HF6.out w9 hw9
        go_simp
        try with_reducible rfl
      try simp only [Act.put, List.setIfInBounds_toArray, List.set_cons_zero, List.set_cons_succ]
      refine wpL_take (v := ?_) 2 rfl (by kernel_rfl) (fun _ _ _ h => h) (by rfl) ?_ (Below.refl _ _) ?_
      rotate_left
      focus
        intro w9 hw9
        obtain ⟨a3, b0, lk⟩ := HF6.out w9 hw9
        go_simp
        try with_reducible rfl
      try simp only [Act.put, List.setIfInBounds_toArray, List.set_cons_zero, List.set_cons_succ]
      refine wpL_take (v := ?_) 3 rfl (by kernel_rfl) (fun _ _ _ h => h) (by rfl) ?_ (Below.refl _ _) ?_
      rotate_left
      focus
        intro w9 hw9
        obtain ⟨a3, b0, lk⟩ := HF6.out w9 hw9
        go_simp
        try with_reducible rfl
      try simp only [Act.put, List.setIfInBounds_toArray, List.set_cons_zero, List.set_cons_succ]
      refine wpL_take (v := ?_) 4 rfl (by kernel_rfl) (fun _ _ _ h => h) (by rfl) ?_ (Below.refl _ _) ?_
      rotate_left
      focus
        intro w9 hw9
        obtain ⟨a3, b0, lk⟩ := HF6.out w9 hw9
        go_simp
        try with_reducible rfl
      try simp only [Act.put, List.setIfInBounds_toArray, List.set_cons_zero, List.set_cons_succ]
      refine wpL_take (v := ?_) 5 rfl (by kernel_rfl) (fun _ _ _ h => h) (by rfl) ?_ (Below.refl _ _) ?_
      rotate_left
      focus
        intro w9 hw9
        obtain ⟨a3, b0, lk⟩ := HF6.out w9 hw9
        go_simp
        try with_reducible rfl
      try simp only [Act.put, List.setIfInBounds_toArray, List.set_cons_zero, List.set_cons_succ]
      refine wpL_take (v := ?_) 6 rfl (by kernel_rfl) (fun _ _ _ h => h) (by rfl) ?_ (Below.refl _ _) ?_
      rotate_left
      focus
        intro w9 hw9
        obtain ⟨a3, b0, lk⟩ := HF6.out w9 hw9
        go_simp
        try with_reducible rfl
      try simp only [Act.put, List.setIfInBounds_toArray, List.set_cons_zero, List.set_cons_succ]
      refine wpL_one 7 rfl (by kernel_rfl) (by rfl) ?_
      intro K hK
      go_simp
      have HBa : Hid (Below wd.heap.size wd (wd.alloc (.cells #[.slice none 0 0] 76))) := (Below.refl _ _).alloc (Nat.le_refl _) _
      refine hK.out _ _ (fun _ => HBa.out) ?_
      clear hK K
      try simp only [Act.put, List.setIfInBounds_toArray, List.set_cons_zero, List.set_cons_succ]
      refine wpL_one 8 rfl (by kernel_rfl) (by rfl) ?_
      intro K hK
      go_simp
      refine hK.out _ _ (fun h => absurd rfl h) ?_
      clear hK K
      try simp only [Act.put, List.setIfInBounds_toArray, List.set_cons_zero, List.set_cons_succ]
      refine wpL_done (by kernel_rfl) ?_ _
      try simp only [NoPanic]
      clear HBa HF6
      obtain ⟨w5, hw5⟩ : ∃ w5, (wd.alloc (.cells #[.slice qv lv dv] 76)) = w5 := ⟨_, rfl⟩
      have HB5 : Hid (Below wd.heap.size wd w5) := by rw [← hw5]; exact (Below.refl _ _).alloc (Nat.le_refl _) _
      have HV5 : Hid (Blk w5 wd.heap.size #[.slice qv lv dv] 76) := by rw [← hw5]; exact Blk.new wd _ _
      rw [hw5]
      clear hw5
      have HRw5 : Hid (RdD w5 N B H d) := HRd.out.on (HB5.out.mono HRd.out.size)
      have HK5 : Hid (Blk w5 b10 #[.int .u64 (st : Nat)] 49) := HKd.out.2.on HB5.out
      have HE5 : Hid (EdF w w5 C) := HEd.out.trans' (EdF.of HB5.out)
      have HO5 : Hid (∃ vs', OutE w5 C ob vs' (vrM1 d.pl d.I t LL s)) := HOd.out.elim (fun v h => ⟨v, h.on HB5.out⟩)
      clear HRd HKd HEd HOd HB5
      generalize wd.heap.size = b14 at *
      have v5 : w5.cell? ⟨b14, 0, none⟩ = some (.slice qv lv dv) := HV5.out.cell rfl
      have hlv : lv ≤ 4398046511104 := by have := HEV.out.2.2; omega
      have CSr : Hid (Calls Tryz.prog 126 #[.int .i64 (lv : Nat), .func (.func 145) #[] #[.pointer (some ⟨b14, 0, none⟩), .pointer (some ⟨b10, 0, none⟩)]] w5 fun e w' => ∃ r : Nat, e = .returned (.int .i64 (r : Nat)) ∧ r ≤ lv ∧ vrN H s = r ∧ Below w5.heap.size w5 w') := by
        have h1 := search2_any 145 (.pointer (some ⟨b14, 0, none⟩)) (.pointer (some ⟨b10, 0, none⟩)) (fun i => decide (st < cm H ((vrs H s.it).getD i 0))) lv w5 (enters_of Tryz.func145 (by kernel_rfl) rfl) hlv
          (fun i j hij hj => HA.out.2.2.2.1.mono s.it st i j hij (by rw [HEV.out.2.1]; exact hj))
          (fun i w6 hi hb => addV1_any N B H d s.it b14 b10 st i (by rw [HEV.out.2.1]; exact hi) w6 (HRw5.out.on (hb.mono HRw5.out.size)) (by rw [HEV.out.1]; exact HV5.out.on hb) (HK5.out.on hb))
        refine h1.mono ?_
        rintro e w' ⟨r, rfl, h2, h3, h4, h5⟩
        refine ⟨r, rfl, h2, ?_, h5⟩
        refine vrN_of s r (by rw [HEV.out.2.1]; exact h2) (fun k hk hkr => ?_) (fun k hk hkr => ?_)
        · have h6 := h3 k hkr
          rw [HST.out]
          simpa [List.getD_eq_getElem?_getD, hk] using h6
        · have h6 := h4 k hkr (by rw [← HEV.out.2.1]; exact hk)
          rw [HST.out]
          simpa [List.getD_eq_getElem?_getD, hk] using h6
      clear hlv
      go_upto_region 8 with (first | (go_at_call 126; refine CSr.out.mono ?_; rintro e w6 ⟨r, rfl, hr6⟩; have HR6 : Hid (r ≤ lv ∧ vrN H s = r ∧ Below w5.heap.size w5 w6) := hr6; clear hr6))
      have v6 : w6.cell? ⟨b14, 0, none⟩ = some (.slice qv lv dv) := (HV5.out.on HR6.out.2.2).cell rfl
      have HRw6 : Hid (RdD w6 N B H d) := HRw5.out.on (HR6.out.2.2.mono HRw5.out.size)
      have HE6 : Hid (EdF w w6 C) := HE5.out.trans' (EdF.of HR6.out.2.2)
      have HO6 : Hid (∃ vs', OutE w6 C ob vs' (vrM1 d.pl d.I t LL s)) := HO5.out.elim (fun v h => ⟨v, h.on HR6.out.2.2⟩)
      clear v5 HRw5 HE5 HO5 CSr
      have HVM : Hid (¬ (s.fr ≠ 0 ∧ cm H s.fr = 0)) := fun h9 => by
        have h1 := HRR.out
        simp only [Bool.or_eq_true, beq_iff_eq, decide_eq_true_eq] at h1
        omega
      by_cases hrl : r < lv
      · have hrv : r < (vrs H s.it).length := by rw [HEV.out.2.1]; exact hrl
        obtain ⟨b, o, hqv, g6⟩ := (HRw6.out.vcell HEV.out.1).2.2.2 r hrv
        obtain ⟨u, hu⟩ : ∃ u, (vrs H s.it)[r] = u := ⟨_, rfl⟩
        rw [hu] at g6
        subst hqv
        have CL2 : Hid (Calls Tryz.prog 108 #[.slice (some ⟨ob, 0, none⟩) n n, .pointer (some ⟨d.s.pt t, 0, none⟩), .pointer (some ⟨d.s.pt u, 0, none⟩), .int .i64 (kd : Int), .int .i64 (im : Int)] w6 fun e w' => e = .returned (.tuple #[]) ∧ EdF w w' C ∧ ∃ vs', OutE w' C ob vs' (vrM d.pl H d.I t kd LL s)) := by
          have e1 : vrM d.pl H d.I t kd LL s = leadM (vrM1 d.pl d.I t LL s) (d.pl t) (d.pl u) kd im := by
            unfold vrM
            rw [if_neg HVM.out, HR6.out.2.1, if_pos hrv, HIM.out, ← hu]
            simp [List.getD_eq_getElem?_getD, hrv]
          obtain ⟨vs6, h6⟩ := HO6.out
          rw [e1]
          refine (leadD_any HRw6.out HA.out.2.2.1 h6 (by rw [vrM1_len]; exact HA.out.2.2.2.2.1) (Nat.le_trans HA.out.2.1 HE6.out.size) HA.out.2.2.2.2.2.1 HA.out.2.2.2.2.2.2.1 HA.out.2.2.2.2.2.2.2.2.2.1 (vrs_cms (x := s.it) (by rw [← hu]; exact List.getElem_mem hrv)) kd im ((vrM1_le d.pl d.I t HA.out.2.2.2.2.2.2.2.2.1 s).mono (by omega))).mono ?_
          rintro e w7 ⟨he, h7, h8⟩
          exact ⟨he, HE6.out.trans' h7, h8⟩
        clear hu hrv HVM HE6 HO6
        go_wp2_with (first | (go_at_call 108; refine CL2.out.mono ?_; rintro e w7 ⟨rfl, hw7⟩; have HW7 : Hid (EdF w w7 C ∧ ∃ vs', OutE w7 C ob vs' (vrM d.pl H d.I t kd LL s)) := hw7; clear hw7))
        go_end0
        exact ⟨rfl, HW7.out⟩
      · have e1 : vrM d.pl H d.I t kd LL s = vrM1 d.pl d.I t LL s := by
          unfold vrM
          rw [if_neg HVM.out, HR6.out.2.1, HEV.out.2.1, if_neg hrl]
        have HE1 : Hid (vrM d.pl H d.I t kd LL s = vrM1 d.pl d.I t LL s) := e1
        clear HVM e1
        go_wp2_with fail
        go_end0
        exact ⟨rfl, HE6.out, by rw [HE1.out]; exact HO6.out⟩
    · skip
      have q0 : (s.fr == 0) = false := by simpa using e0
      go_upto_region 5 with fail
      refine wp_region_L (fun w' => RdD w' N B H d ∧ Blk w' w.heap.size #[.string s.it, .int .i64 s.fr, .int .i64 s.nt] 53) 99 (by kernel_rfl) ?_
      have HBd : Hid (Below w3.heap.size w3 w3.drew) := (Below.refl _ _).drew
      generalize w3.drew = wd at *
      have HRd : Hid (RdD wd N B H d) := HR3.out.on (HBd.out.mono HR3.out.size)
      have HKd : Hid (Blk wd w.heap.size #[.string s.it, .int .i64 s.fr, .int .i64 s.nt] 53 ∧ Blk wd b10 #[.int .u64 (st : Nat)] 49) := ⟨HK3.out.1.on HBd.out, HK3.out.2.on HBd.out⟩
      have hkn : kn H s.fr = true := HA.out.2.2.2.2.2.2.2.2.2.2.resolve_left e0
      have hcm : s.fr ∈ cms H := cm_cms (by
        have h1 := HRR.out
        simp only [Bool.or_eq_true, beq_iff_eq, decide_eq_true_eq] at h1
        exact h1.resolve_left e0)
      have HKN : Hid (kn H s.fr = true) := hkn
      have CL : Hid (Calls Tryz.prog 108 #[.slice (some ⟨ob, 0, none⟩) n n, .pointer (some ⟨d.s.pt s.fr, 0, none⟩), .pointer (some ⟨d.s.pt t, 0, none⟩), .int .i64 2, .int .i64 (im : Int)] wd fun e w' => e = .returned (.tuple #[]) ∧ EdF wd w' C ∧ ∃ vs', OutE w' C ob vs' (vrM1 d.pl d.I t LL s)) := by
        have e1 : vrM1 d.pl d.I t LL s = leadM LL (d.pl s.fr) (d.pl t) 2 im := by
          unfold vrM1
          rw [if_neg e0, HIM.out]
        rw [e1]
        exact leadD_any HRd.out HA.out.2.2.1 ((HO.out.on HB23.out).on HBd.out) HA.out.2.2.2.2.1 (Nat.le_trans HA.out.2.1 (Nat.le_trans HB23.out.size HBd.out.size)) HA.out.2.2.2.2.2.1 HA.out.2.2.2.2.2.2.1 hcm HA.out.2.2.2.2.2.2.2.2.2.1 2 im (HA.out.2.2.2.2.2.2.2.2.1.mono (by omega))
      clear hkn hcm
      refine wpL_take (v := ?_) 0 rfl (by kernel_rfl) (fun _ _ _ h => h) (by rfl) ?_ ⟨HRd.out, HKd.out.1⟩ ?_
      rotate_left
      focus
        intro w9 hw9
        have a0 : w9.cell? ⟨d.s.hb, 0, none⟩ = some (.map (some d.s.mT)) := hw9.1.dn.blk.cell rfl
        have b0 : w9.cell? ⟨w.heap.size, 1, none⟩ = some (.int .i64 s.fr) := hw9.2.cell rfl
        have lk : (Instr.lookup 73 (.map (some d.s.mT)) (.int .i64 s.fr) false).run Tryz.prog w9 = .ok (.pointer (some ⟨d.s.pt s.fr, 0, none⟩)) w9 := by
          have h1 := hw9.1.dn.mt.look keyI Tryz.underlying73 zeroTx s.fr
          rw [hw9.1.dn.mtv, if_pos HKN.out] at h1
          exact h1
        go_simp
        try with_reducible rfl
      try simp only [Act.put, List.setIfInBounds_toArray, List.set_cons_zero, List.set_cons_succ]
      refine wpL_take (v := ?_) 1 rfl (by kernel_rfl) (fun _ _ _ h => h) (by rfl) ?_ ⟨HRd.out, HKd.out.1⟩ ?_
      rotate_left
      focus
        intro w9 hw9
        have a0 : w9.cell? ⟨d.s.hb, 0, none⟩ = some (.map (some d.s.mT)) := hw9.1.dn.blk.cell rfl
        have b0 : w9.cell? ⟨w.heap.size, 1, none⟩ = some (.int .i64 s.fr) := hw9.2.cell rfl
        have lk : (Instr.lookup 73 (.map (some d.s.mT)) (.int .i64 s.fr) false).run Tryz.prog w9 = .ok (.pointer (some ⟨d.s.pt s.fr, 0, none⟩)) w9 := by
          have h1 := hw9.1.dn.mt.look keyI Tryz.underlying73 zeroTx s.fr
          rw [hw9.1.dn.mtv, if_pos HKN.out] at h1
          exact h1
        go_simp
        try with_reducible rfl
      try simp only [Act.put, List.setIfInBounds_toArray, List.set_cons_zero, List.set_cons_succ]
      refine wpL_take (v := ?_) 2 rfl (by kernel_rfl) (fun _ _ _ h => h) (by rfl) ?_ ⟨HRd.out, HKd.out.1⟩ ?_
      rotate_left
      focus
        intro w9 hw9
        have a0 : w9.cell? ⟨d.s.hb, 0, none⟩ = some (.map (some d.s.mT)) := hw9.1.dn.blk.cell rfl
        have b0 : w9.cell? ⟨w.heap.size, 1, none⟩ = some (.int .i64 s.fr) := hw9.2.cell rfl
        have lk : (Instr.lookup 73 (.map (some d.s.mT)) (.int .i64 s.fr) false).run Tryz.prog w9 = .ok (.pointer (some ⟨d.s.pt s.fr, 0, none⟩)) w9 := by
          have h1 := hw9.1.dn.mt.look keyI Tryz.underlying73 zeroTx s.fr
          rw [hw9.1.dn.mtv, if_pos HKN.out] at h1
          exact h1
        go_simp
        try with_reducible rfl
      try simp only [Act.put, List.setIfInBounds_toArray, List.set_cons_zero, List.set_cons_succ]
      refine wpL_take (v := ?_) 3 rfl (by kernel_rfl) (fun _ _ _ h => h) (by rfl) ?_ ⟨HRd.out, HKd.out.1⟩ ?_
      rotate_left
      focus
        intro w9 hw9
        have a0 : w9.cell? ⟨d.s.hb, 0, none⟩ = some (.map (some d.s.mT)) := hw9.1.dn.blk.cell rfl
        have b0 : w9.cell? ⟨w.heap.size, 1, none⟩ = some (.int .i64 s.fr) := hw9.2.cell rfl
        have lk : (Instr.lookup 73 (.map (some d.s.mT)) (.int .i64 s.fr) false).run Tryz.prog w9 = .ok (.pointer (some ⟨d.s.pt s.fr, 0, none⟩)) w9 := by
          have h1 := hw9.1.dn.mt.look keyI Tryz.underlying73 zeroTx s.fr
          rw [hw9.1.dn.mtv, if_pos HKN.out] at h1
          exact h1
        go_simp
        try with_reducible rfl
      try simp only [Act.put, List.setIfInBounds_toArray, List.set_cons_zero, List.set_cons_succ]
      refine wpL_take (v := ?_) 4 rfl (by kernel_rfl) (fun _ _ _ h => h) (by rfl) ?_ ⟨HRd.out, HKd.out.1⟩ ?_
      rotate_left
      focus
        intro w9 hw9
        have a0 : w9.cell? ⟨d.s.hb, 0, none⟩ = some (.map (some d.s.mT)) := hw9.1.dn.blk.cell rfl
        have b0 : w9.cell? ⟨w.heap.size, 1, none⟩ = some (.int .i64 s.fr) := hw9.2.cell rfl
        have lk : (Instr.lookup 73 (.map (some d.s.mT)) (.int .i64 s.fr) false).run Tryz.prog w9 = .ok (.pointer (some ⟨d.s.pt s.fr, 0, none⟩)) w9 := by
          have h1 := hw9.1.dn.mt.look keyI Tryz.underlying73 zeroTx s.fr
          rw [hw9.1.dn.mtv, if_pos HKN.out] at h1
          exact h1
        go_simp
        try with_reducible rfl
      try simp only [Act.put, List.setIfInBounds_toArray, List.set_cons_zero, List.set_cons_succ]
      refine wpL_take (v := ?_) 5 rfl (by kernel_rfl) (fun _ _ _ h => h) (by rfl) ?_ ⟨HRd.out, HKd.out.1⟩ ?_
      rotate_left
      focus
        intro w9 hw9
        have a0 : w9.cell? ⟨d.s.hb, 0, none⟩ = some (.map (some d.s.mT)) := hw9.1.dn.blk.cell rfl
        have b0 : w9.cell? ⟨w.heap.size, 1, none⟩ = some (.int .i64 s.fr) := hw9.2.cell rfl
        have lk : (Instr.lookup 73 (.map (some d.s.mT)) (.int .i64 s.fr) false).run Tryz.prog w9 = .ok (.pointer (some ⟨d.s.pt s.fr, 0, none⟩)) w9 := by
          have h1 := hw9.1.dn.mt.look keyI Tryz.underlying73 zeroTx s.fr
          rw [hw9.1.dn.mtv, if_pos HKN.out] at h1
          exact h1
        go_simp
        try with_reducible rfl
      try simp only [Act.put, List.setIfInBounds_toArray, List.set_cons_zero, List.set_cons_succ]
      refine wpL_take (v := ?_) 6 rfl (by kernel_rfl) (fun _ _ _ h => h) (by rfl) ?_ ⟨HRd.out, HKd.out.1⟩ ?_
      rotate_left
      focus
        intro w9 hw9
        have a0 : w9.cell? ⟨d.s.hb, 0, none⟩ = some (.map (some d.s.mT)) := hw9.1.dn.blk.cell rfl
        have b0 : w9.cell? ⟨w.heap.size, 1, none⟩ = some (.int .i64 s.fr) := hw9.2.cell rfl
        have lk : (Instr.lookup 73 (.map (some d.s.mT)) (.int .i64 s.fr) false).run Tryz.prog w9 = .ok (.pointer (some ⟨d.s.pt s.fr, 0, none⟩)) w9 := by
          have h1 := hw9.1.dn.mt.look keyI Tryz.underlying73 zeroTx s.fr
          rw [hw9.1.dn.mtv, if_pos HKN.out] at h1
          exact h1
        go_simp
        try with_reducible rfl
      try simp only [Act.put, List.setIfInBounds_toArray, List.set_cons_zero, List.set_cons_succ]
      refine wpL_take (v := ?_) 7 rfl (by kernel_rfl) (fun _ _ _ h => h) (by rfl) ?_ ⟨HRd.out, HKd.out.1⟩ ?_
      rotate_left
      focus
        intro w9 hw9
        have a0 : w9.cell? ⟨d.s.hb, 0, none⟩ = some (.map (some d.s.mT)) := hw9.1.dn.blk.cell rfl
        have b0 : w9.cell? ⟨w.heap.size, 1, none⟩ = some (.int .i64 s.fr) := hw9.2.cell rfl
        have lk : (Instr.lookup 73 (.map (some d.s.mT)) (.int .i64 s.fr) false).run Tryz.prog w9 = .ok (.pointer (some ⟨d.s.pt s.fr, 0, none⟩)) w9 := by
          have h1 := hw9.1.dn.mt.look keyI Tryz.underlying73 zeroTx s.fr
          rw [hw9.1.dn.mtv, if_pos HKN.out] at h1
          exact h1
        go_simp
        try with_reducible rfl
      try simp only [Act.put, List.setIfInBounds_toArray, List.set_cons_zero, List.set_cons_succ]
      refine wpL_take (v := ?_) 8 rfl (by kernel_rfl) (fun _ _ _ h => h) (by rfl) ?_ ⟨HRd.out, HKd.out.1⟩ ?_
      rotate_left
      focus
        intro w9 hw9
        have a0 : w9.cell? ⟨d.s.hb, 0, none⟩ = some (.map (some d.s.mT)) := hw9.1.dn.blk.cell rfl
        have b0 : w9.cell? ⟨w.heap.size, 1, none⟩ = some (.int .i64 s.fr) := hw9.2.cell rfl
        have lk : (Instr.lookup 73 (.map (some d.s.mT)) (.int .i64 s.fr) false).run Tryz.prog w9 = .ok (.pointer (some ⟨d.s.pt s.fr, 0, none⟩)) w9 := by
          have h1 := hw9.1.dn.mt.look keyI Tryz.underlying73 zeroTx s.fr
          rw [hw9.1.dn.mtv, if_pos HKN.out] at h1
          exact h1
        go_simp
        try with_reducible rfl
      try simp only [Act.put, List.setIfInBounds_toArray, List.set_cons_zero, List.set_cons_succ]
      refine wpL_take (v := ?_) 9 rfl (by kernel_rfl) (fun _ _ _ h => h) (by rfl) ?_ ⟨HRd.out, HKd.out.1⟩ ?_
      rotate_left
      focus
        intro w9 hw9
        have a0 : w9.cell? ⟨d.s.hb, 0, none⟩ = some (.map (some d.s.mT)) := hw9.1.dn.blk.cell rfl
        have b0 : w9.cell? ⟨w.heap.size, 1, none⟩ = some (.int .i64 s.fr) := hw9.2.cell rfl
        have lk : (Instr.lookup 73 (.map (some d.s.mT)) (.int .i64 s.fr) false).run Tryz.prog w9 = .ok (.pointer (some ⟨d.s.pt s.fr, 0, none⟩)) w9 := by
          have h1 := hw9.1.dn.mt.look keyI Tryz.underlying73 zeroTx s.fr
          rw [hw9.1.dn.mtv, if_pos HKN.out] at h1
          exact h1
        go_simp
        try with_reducible rfl
      try simp only [Act.put, List.setIfInBounds_toArray, List.set_cons_zero, List.set_cons_succ]
      refine wpL_one 10 rfl (by kernel_rfl) (by rfl) ?_
      intro K hK
      go_simp
      refine CL.out.mono ?_
      rintro e w4 ⟨rfl, hw4⟩
      have HI4 : Hid (EdF wd w4 C ∧ ∃ vs', OutE w4 C ob vs' (vrM1 d.pl d.I t LL s)) := hw4
      have HR4 : Hid (RdD w4 N B H d) := HRd.out.on ((HI4.out.1.below' (Nat.le_trans HA.out.2.1 (Nat.le_trans HB23.out.size HBd.out.size))).mono HA.out.1)
      have HK44 : Hid (Blk w4 w.heap.size #[.string s.it, .int .i64 s.fr, .int .i64 s.nt] 53) := HI4.out.1.blk' HKd.out.1 (by decide) (by decide)
      clear hw4
      dsimp only
      refine hK.out _ _ (fun _ => ⟨HR4.out, HK44.out⟩) ?_
      clear hK K
      try simp only [Act.put, List.setIfInBounds_toArray, List.set_cons_zero, List.set_cons_succ]
      refine wpL_done (by kernel_rfl) ?_ _
      try simp only [NoPanic]
      clear CL HR4 HK44
      have HK4 : Hid (Blk w4 w.heap.size #[.string s.it, .int .i64 s.fr, .int .i64 s.nt] 53 ∧ Blk w4 b10 #[.int .u64 (st : Nat)] 49) := ⟨HI4.out.1.blk' HKd.out.1 (by decide) (by decide), HI4.out.1.blk' HKd.out.2 (by decide) (by decide)⟩
      have HE4 : Hid (EdF w w4 C) := (EdF.of HB23.out).trans' ((EdF.of HBd.out).trans' HI4.out.1)
      have HO4 : Hid (∃ vs', OutE w4 C ob vs' (vrM1 d.pl d.I t LL s)) := HI4.out.2
      clear HI4 HKd HRd HBd HR3 HK3 HB3 HBw3 HB23 HKN
      go_upto_region 6 with fail
      have HBd : Hid (Below w4.heap.size w4 w4.drew) := (Below.refl _ _).drew
      refine wp_region_L (fun w' => Below w4.drew.heap.size w4.drew w') 8 (by kernel_rfl) ?_
      generalize w4.drew = wd at *
      have HRd : Hid (RdD wd N B H d) := HR.out.on (((HE4.out.below' HA.out.2.1).mono HA.out.1).trans (HBd.out.mono (Nat.le_trans HA.out.1 (Nat.le_trans HA.out.2.1 HE4.out.size))))
      have HKd : Hid (Blk wd w.heap.size #[.string s.it, .int .i64 s.fr, .int .i64 s.nt] 53 ∧ Blk wd b10 #[.int .u64 (st : Nat)] 49) := ⟨HK4.out.1.on HBd.out, HK4.out.2.on HBd.out⟩
      have HEd : Hid (EdF w wd C) := HE4.out.trans' (EdF.of HBd.out)
      have HOd : Hid (∃ vs', OutE wd C ob vs' (vrM1 d.pl d.I t LL s)) := HO4.out.elim (fun v h => ⟨v, h.on HBd.out⟩)
      clear HE4 HO4 HK4 HBd
      have HF6 : Hid (∀ w9 : World, Below wd.heap.size wd w9 → w9.cell? ⟨d.s.hb, 3, none⟩ = some (.map (some d.s.mV)) ∧ w9.cell? ⟨w.heap.size, 0, none⟩ = some (.string s.it) ∧ (Instr.lookup 75 (.map (some d.s.mV)) (.string s.it) false).run Tryz.prog w9 = .ok (.slice qv lv dv) w9) := fun w9 hb => by
        have h1 := HRd.out.on (hb.mono HRd.out.size)
        refine ⟨h1.dn.blk.cell rfl, (HKd.out.1.on hb).cell rfl, ?_⟩
        rw [← HEV.out.1]
        exact h1.dn.mv.look keyS Tryz.underlying75 zeroTs s.it
      refine wpL_take (v := ?_) 0 rfl (by kernel_rfl) (fun _ _ _ h => h) (by rfl) ?_ (Below.refl _ _) ?_
      rotate_left
      focus
        intro w9 hw9
        obtain ⟨a3, b0, lk⟩ := HF6.out w9 hw9
        go_simp
        try with_reducible rfl
      try simp only [Act.put, List.setIfInBounds_toArray, List.set_cons_zero, List.set_cons_succ]
      refine wpL_take (v := ?_) 1 rfl (by kernel_rfl) (fun _ _ _ h => h) (by rfl) ?_ (Below.refl _ _) ?_
      rotate_left
      focus
        intro w9 hw9
        obtain ⟨a3, b0, lk⟩ := HF6.out w9 hw9
        go_simp
        try with_reducible rfl
      try simp only [Act.put, List.setIfInBounds_toArray, List.set_cons_zero, List.set_cons_succ]
      refine wpL_take (v := ?_) 2 rfl (by kernel_rfl) (fun _ _ _ h => h) (by rfl) ?_ (Below.refl _ _) ?_
      rotate_left
      focus
        intro w9 hw9
        obtain ⟨a3, b0, lk⟩ := HF6.out w9 hw9
        go_simp
        try with_reducible rfl
      try simp only [Act.put, List.setIfInBounds_toArray, List.set_cons_zero, List.set_cons_succ]
      refine wpL_take (v := ?_) 3 rfl (by kernel_rfl) (fun _ _ _ h => h) (by rfl) ?_ (Below.refl _ _) ?_
      rotate_left
      focus
        intro w9 hw9
        obtain ⟨a3, b0, lk⟩ := HF6.out w9 hw9
        go_simp
        try with_reducible rfl
      try simp only [Act.put, List.setIfInBounds_toArray, List.set_cons_zero, List.set_cons_succ]
      refine wpL_take (v := ?_) 4 rfl (by kernel_rfl) (fun _ _ _ h => h) (by rfl) ?_ (Below.refl _ _) ?_
      rotate_left
      focus
        intro w9 hw9
        obtain ⟨a3, b0, lk⟩ := HF6.out w9 hw9
        go_simp
        try with_reducible rfl
      try simp only [Act.put, List.setIfInBounds_toArray, List.set_cons_zero, List.set_cons_succ]
      refine wpL_take (v := ?_) 5 rfl (by kernel_rfl) (fun _ _ _ h => h) (by rfl) ?_ (Below.refl _ _) ?_
      rotate_left
      focus
        intro w9 hw9
        obtain ⟨a3, b0, lk⟩ := HF6.out w9 hw9
        go_simp
        try with_reducible rfl
      try simp only [Act.put, List.setIfInBounds_toArray, List.set_cons_zero, List.set_cons_succ]
      refine wpL_take (v := ?_) 6 rfl (by kernel_rfl) (fun _ _ _ h => h) (by rfl) ?_ (Below.refl _ _) ?_
      rotate_left
      focus
        intro w9 hw9
        obtain ⟨a3, b0, lk⟩ := HF6.out w9 hw9
        go_simp
        try with_reducible rfl
      try simp only [Act.put, List.setIfInBounds_toArray, List.set_cons_zero, List.set_cons_succ]
      refine wpL_one 7 rfl (by kernel_rfl) (by rfl) ?_
      intro K hK
      go_simp
      have HBa : Hid (Below wd.heap.size wd (wd.alloc (.cells #[.slice none 0 0] 76))) := (Below.refl _ _).alloc (Nat.le_refl _) _
      refine hK.out _ _ (fun _ => HBa.out) ?_
      clear hK K
      try simp only [Act.put, List.setIfInBounds_toArray, List.set_cons_zero, List.set_cons_succ]
      refine wpL_one 8 rfl (by kernel_rfl) (by rfl) ?_
      intro K hK
      go_simp
      refine hK.out _ _ (fun h => absurd rfl h) ?_
      clear hK K
      try simp only [Act.put, List.setIfInBounds_toArray, List.set_cons_zero, List.set_cons_succ]
      refine wpL_done (by kernel_rfl) ?_ _
      try simp only [NoPanic]
      clear HBa HF6
      obtain ⟨w5, hw5⟩ : ∃ w5, (wd.alloc (.cells #[.slice qv lv dv] 76)) = w5 := ⟨_, rfl⟩
      have HB5 : Hid (Below wd.heap.size wd w5) := by rw [← hw5]; exact (Below.refl _ _).alloc (Nat.le_refl _) _
      have HV5 : Hid (Blk w5 wd.heap.size #[.slice qv lv dv] 76) := by rw [← hw5]; exact Blk.new wd _ _
      rw [hw5]
      clear hw5
      have HRw5 : Hid (RdD w5 N B H d) := HRd.out.on (HB5.out.mono HRd.out.size)
      have HK5 : Hid (Blk w5 b10 #[.int .u64 (st : Nat)] 49) := HKd.out.2.on HB5.out
      have HE5 : Hid (EdF w w5 C) := HEd.out.trans' (EdF.of HB5.out)
      have HO5 : Hid (∃ vs', OutE w5 C ob vs' (vrM1 d.pl d.I t LL s)) := HOd.out.elim (fun v h => ⟨v, h.on HB5.out⟩)
      clear HRd HKd HEd HOd HB5
      generalize wd.heap.size = b14 at *
      have v5 : w5.cell? ⟨b14, 0, none⟩ = some (.slice qv lv dv) := HV5.out.cell rfl
      have hlv : lv ≤ 4398046511104 := by have := HEV.out.2.2; omega
      have CSr : Hid (Calls Tryz.prog 126 #[.int .i64 (lv : Nat), .func (.func 145) #[] #[.pointer (some ⟨b14, 0, none⟩), .pointer (some ⟨b10, 0, none⟩)]] w5 fun e w' => ∃ r : Nat, e = .returned (.int .i64 (r : Nat)) ∧ r ≤ lv ∧ vrN H s = r ∧ Below w5.heap.size w5 w') := by
        have h1 := search2_any 145 (.pointer (some ⟨b14, 0, none⟩)) (.pointer (some ⟨b10, 0, none⟩)) (fun i => decide (st < cm H ((vrs H s.it).getD i 0))) lv w5 (enters_of Tryz.func145 (by kernel_rfl) rfl) hlv
          (fun i j hij hj => HA.out.2.2.2.1.mono s.it st i j hij (by rw [HEV.out.2.1]; exact hj))
          (fun i w6 hi hb => addV1_any N B H d s.it b14 b10 st i (by rw [HEV.out.2.1]; exact hi) w6 (HRw5.out.on (hb.mono HRw5.out.size)) (by rw [HEV.out.1]; exact HV5.out.on hb) (HK5.out.on hb))
        refine h1.mono ?_
        rintro e w' ⟨r, rfl, h2, h3, h4, h5⟩
        refine ⟨r, rfl, h2, ?_, h5⟩
        refine vrN_of s r (by rw [HEV.out.2.1]; exact h2) (fun k hk hkr => ?_) (fun k hk hkr => ?_)
        · have h6 := h3 k hkr
          rw [HST.out]
          simpa [List.getD_eq_getElem?_getD, hk] using h6
        · have h6 := h4 k hkr (by rw [← HEV.out.2.1]; exact hk)
          rw [HST.out]
          simpa [List.getD_eq_getElem?_getD, hk] using h6
      clear hlv
      go_upto_region 8 with (first | (go_at_call 126; refine CSr.out.mono ?_; rintro e w6 ⟨r, rfl, hr6⟩; have HR6 : Hid (r ≤ lv ∧ vrN H s = r ∧ Below w5.heap.size w5 w6) := hr6; clear hr6))
      have v6 : w6.cell? ⟨b14, 0, none⟩ = some (.slice qv lv dv) := (HV5.out.on HR6.out.2.2).cell rfl
      have HRw6 : Hid (RdD w6 N B H d) := HRw5.out.on (HR6.out.2.2.mono HRw5.out.size)
      have HE6 : Hid (EdF w w6 C) := HE5.out.trans' (EdF.of HR6.out.2.2)
      have HO6 : Hid (∃ vs', OutE w6 C ob vs' (vrM1 d.pl d.I t LL s)) := HO5.out.elim (fun v h => ⟨v, h.on HR6.out.2.2⟩)
      clear v5 HRw5 HE5 HO5 CSr
      have HVM : Hid (¬ (s.fr ≠ 0 ∧ cm H s.fr = 0)) := fun h9 => by
        have h1 := HRR.out
        simp only [Bool.or_eq_true, beq_iff_eq, decide_eq_true_eq] at h1
        omega
      by_cases hrl : r < lv
      · have hrv : r < (vrs H s.it).length := by rw [HEV.out.2.1]; exact hrl
        obtain ⟨b, o, hqv, g6⟩ := (HRw6.out.vcell HEV.out.1).2.2.2 r hrv
        obtain ⟨u, hu⟩ : ∃ u, (vrs H s.it)[r] = u := ⟨_, rfl⟩
        rw [hu] at g6
        subst hqv
        have CL2 : Hid (Calls Tryz.prog 108 #[.slice (some ⟨ob, 0, none⟩) n n, .pointer (some ⟨d.s.pt t, 0, none⟩), .pointer (some ⟨d.s.pt u, 0, none⟩), .int .i64 (kd : Int), .int .i64 (im : Int)] w6 fun e w' => e = .returned (.tuple #[]) ∧ EdF w w' C ∧ ∃ vs', OutE w' C ob vs' (vrM d.pl H d.I t kd LL s)) := by
          have e1 : vrM d.pl H d.I t kd LL s = leadM (vrM1 d.pl d.I t LL s) (d.pl t) (d.pl u) kd im := by
            unfold vrM
            rw [if_neg HVM.out, HR6.out.2.1, if_pos hrv, HIM.out, ← hu]
            simp [List.getD_eq_getElem?_getD, hrv]
          obtain ⟨vs6, h6⟩ := HO6.out
          rw [e1]
          refine (leadD_any HRw6.out HA.out.2.2.1 h6 (by rw [vrM1_len]; exact HA.out.2.2.2.2.1) (Nat.le_trans HA.out.2.1 HE6.out.size) HA.out.2.2.2.2.2.1 HA.out.2.2.2.2.2.2.1 HA.out.2.2.2.2.2.2.2.2.2.1 (vrs_cms (x := s.it) (by rw [← hu]; exact List.getElem_mem hrv)) kd im ((vrM1_le d.pl d.I t HA.out.2.2.2.2.2.2.2.2.1 s).mono (by omega))).mono ?_
          rintro e w7 ⟨he, h7, h8⟩
          exact ⟨he, HE6.out.trans' h7, h8⟩
        clear hu hrv HVM HE6 HO6
        go_wp2_with (first | (go_at_call 108; refine CL2.out.mono ?_; rintro e w7 ⟨rfl, hw7⟩; have HW7 : Hid (EdF w w7 C ∧ ∃ vs', OutE w7 C ob vs' (vrM d.pl H d.I t kd LL s)) := hw7; clear hw7))
        go_end0
        exact ⟨rfl, HW7.out⟩
      · have e1 : vrM d.pl H d.I t kd LL s = vrM1 d.pl d.I t LL s := by
          unfold vrM
          rw [if_neg HVM.out, HR6.out.2.1, HEV.out.2.1, if_neg hrl]
        have HE1 : Hid (vrM d.pl H d.I t kd LL s = vrM1 d.pl d.I t LL s) := e1
        clear HVM e1
        go_wp2_with fail
        go_end0
        exact ⟨rfl, HE6.out, by rw [HE1.out]; exact HO6.out⟩

end Go.Proofs.YtncfejndmlcidaaGreat

namespace Go.Proofs.YtncfejndmlcidaaGreat
open Go.RowKit
set_option maxRecDepth 100000

/-- the cells of a version in a slice -/
theorem SlG.cellS {B : Nat} {w : World} {p : Option Addr} {n c : Nat} {L : List Sw} (h : SlG encS 3 B w (.slice p n c) L) (i : Nat) (hi : i < L.length) : ∃ b o, p = some ⟨b, o, none⟩ ∧ b < B ∧ w.cell? ⟨b, o + i * 3, none⟩ = some (.string L[i].it) ∧ w.cell? ⟨b, o + i * 3 + 1, none⟩ = some (.int .i64 L[i].fr) ∧ w.cell? ⟨b, o + i * 3 + 2, none⟩ = some (.int .i64 L[i].nt) := by
  obtain ⟨p', c', e, _, _, h3⟩ := h.f
  cases e
  obtain ⟨b, o, e, hb, hc⟩ := h3 i hi
  exact ⟨b, o, e, hb, hc 0 _ rfl, hc 1 _ rfl, hc 2 _ rfl⟩
/-- the cells of a scan -/
theorem RdD.scell {w : World} {N B : Nat} {H : List Ac} {d : Dv} (h : RdD w N B H d) {t : Int} {p : Option Addr} {n c : Nat} (e : d.s.vs t = .slice p n c) (i : Nat) (hi : i < (scs H t).length) : ∃ (b o : Nat) (q : Option Addr) (dd : Nat), p = some ⟨b, o, none⟩ ∧ SlG encS 3 B w (.slice q (scs H t)[i].sn.length dd) (scs H t)[i].sn ∧
    w.cell? ⟨b, o + i * 10, none⟩ = some (.int .i64 (scs H t)[i].tx) ∧ w.cell? ⟨b, o + i * 10 + 1, none⟩ = some (.int .i64 (scs H t)[i].kd) ∧ w.cell? ⟨b, o + i * 10 + 2, none⟩ = some (.string (scs H t)[i].it) ∧ w.cell? ⟨b, o + i * 10 + 3, none⟩ = some (.int .i64 (scs H t)[i].fr) ∧ w.cell? ⟨b, o + i * 10 + 4, none⟩ = some (.int .i64 (scs H t)[i].nt) ∧
    w.cell? ⟨b, o + i * 10 + 5, none⟩ = some (.string (scs H t)[i].lo) ∧ w.cell? ⟨b, o + i * 10 + 6, none⟩ = some (.string (scs H t)[i].hi) ∧ w.cell? ⟨b, o + i * 10 + 7, none⟩ = some (.bool (scs H t)[i].op) ∧ w.cell? ⟨b, o + i * 10 + 8, none⟩ = some (.slice q (scs H t)[i].sn.length dd) ∧ w.cell? ⟨b, o + i * 10 + 9, none⟩ = some (.int .u64 ((scs H t)[i].st : Nat)) := by
  have hD := h.dn
  have hsc := hD.sc t
  have hl : i < (d.s.Sc t).length := by rw [← hsc] at hi; simpa using hi
  have hz : (scs H t)[i] = (d.s.Sc t)[i].1 := by simp only [← hsc, List.getElem_map]
  have hsn := hD.sn t _ (List.getElem_mem hl)
  have hsl : SlG encA 10 w.heap.size w (d.s.vs t) (d.s.Sc t) := OwnG.sl (T := 51) (B := B) (fun _ => rfl) (hD.fs.own t)
  rw [e] at hsl
  obtain ⟨p', c', e', _, _, h3⟩ := hsl.f
  cases e'
  obtain ⟨b, o, e2, hb, hc⟩ := h3 i hl
  obtain ⟨q, dd, e3, _, _, _⟩ := hsn.f
  rw [hz]
  rw [e3] at hsn
  refine ⟨b, o, q, dd, e2, hsn, hc 0 _ rfl, hc 1 _ rfl, hc 2 _ rfl, hc 3 _ rfl, hc 4 _ rfl, hc 5 _ rfl, hc 6 _ rfl, hc 7 _ rfl, ?_, hc 9 _ rfl⟩
  rw [← e3]
  exact hc 8 _ rfl
set_option maxHeartbeats 8000000 in
theorem addReads_any (N B C ob : Nat) (vs : Nat → Value) (LL : List (List Ed)) (n : Nat) (H : List Ac) (d : Dv) (t : Int) (w : World) (hR : RdD w N B H d) (hN : N ≤ C) (hC : C ≤ w.heap.size) (hF : Fin H d.s d) (hH : OkF H) (hO : OutE w C ob vs LL) (hn : LL.length = n) (hd : d.C.length = n) (hI : d.I.length ≤ 4096) (hl : RowsLe LL 274877906944)
    (ht : t ∈ cms H) (hsn : snN H ≤ 4096) :
    Calls Tryz.prog 74 #[.pointer (some ⟨d.s.hb, 0, none⟩), .slice (some ⟨ob, 0, none⟩) n n, .pointer (some ⟨d.s.pt t, 0, none⟩)] w fun e w' => e = .returned (.tuple #[]) ∧ EdF w w' C ∧ ∃ vs', OutE w' C ob vs' (rdM d.pl H d.I t LL) := by
  have HA : Hid (N ≤ C ∧ C ≤ w.heap.size ∧ Fin H d.s d ∧ OkF H ∧ LL.length = n ∧ d.C.length = n ∧ d.I.length ≤ 4096 ∧ RowsLe LL 274877906944 ∧ t ∈ cms H) := ⟨hN, hC, hF, hH, hn, hd, hI, hl, ht⟩
  have HSN : Hid (∀ a ∈ scs H t, a.sn.length ≤ 4096) := fun a ha => by
    obtain ⟨h1, h2⟩ := List.mem_filter.1 ha
    simp only [Bool.and_eq_true, beq_iff_eq] at h2
    exact Nat.le_trans (snN_mem H a h1 h2.2) hsn
  have HR : Hid (RdD w N B H d) := hR
  have HO : Hid (OutE w C ob vs LL) := hO
  have HRD : Hid (∀ wr, EdF w wr C → RdD wr N B H d) := fun wr h => hR.on ((h.below' hC).mono hN)
  obtain ⟨qr, dr, evr⟩ := (hR.dn.fr.own t).slcL
  obtain ⟨mr, hmr⟩ : ∃ m, (rds H t).length = m := ⟨_, rfl⟩
  rw [hmr] at evr
  obtain ⟨qs, ds, evs⟩ := (hR.dn.fs.own t).slcL
  obtain ⟨ms, hms⟩ : ∃ m, (d.s.Sc t).length = m := ⟨_, rfl⟩
  rw [hms] at evs
  have HEV : Hid (d.s.vr t = .slice qr mr dr ∧ (rds H t).length = mr ∧ d.s.vs t = .slice qs ms ds ∧ (scs H t).length = ms) := ⟨evr, hmr, evs, by rw [← hms, ← hR.dn.sc t, List.length_map]⟩
  have hmr4 : mr ≤ 4096 := by rw [← hmr]; exact Nat.le_trans (rds_len H t) hH.len
  have hms4 : ms ≤ 4096 := by rw [← HEV.out.2.2.2]; exact Nat.le_trans (scs_len H t) hH.len
  have c7 : w.cell? ⟨d.s.pt t, 7, none⟩ = some (.slice qr mr dr) := by rw [← evr]; exact (hR.dn.tn t (cms_kn ht)).2.cell rfl
  have HC8 : Hid (∀ wr, RdD wr N B H d → wr.cell? ⟨d.s.pt t, 8, none⟩ = some (.slice qs ms ds)) := fun wr h => by rw [← evs]; exact (h.dn.tn t (cms_kn ht)).2.cell rfl
  clear hR hN hC hF hH hO hn hd hI hl ht evr hmr evs hms hsn
  go_enter Tryz.func74, Tryz.ntmps74
  go_wp2_with fail
  clear c7
  go_loopw [17] (fun ix wr => ∃ k : Nat, ix = .int .i64 (k : Int) ∧ k ≤ mr ∧ Hid (EdF w wr C ∧ ∃ vs', OutE wr C ob vs' (((rds H t).take k).foldl (vrM d.pl H d.I t 3) LL))) (fun ix _ => mr - (intOf ix).toNat)
  case atStart => exact ⟨0, by go_num, Nat.zero_le _, Frm.refl _ _, vs, HO.out⟩
  case round =>
    obtain ⟨k, rfl, hk, HI⟩ := hrel
    by_cases hk0 : k = mr
    · subst hk0
      rename World => w1
      have HI1 : Hid (EdF w w1 C ∧ ∃ vs', OutE w1 C ob vs' ((rds H t).foldl (vrM d.pl H d.I t 3) LL)) := by
        have h1 := HI.out
        rw [← HEV.out.2.1, List.take_length] at h1
        exact h1
      have c8 := HC8.out w1 (HRD.out w1 HI1.out.1)
      obtain ⟨LL1, hLL1⟩ : ∃ LL1, (rds H t).foldl (vrM d.pl H d.I t 3) LL = LL1 := ⟨_, rfl⟩
      have HL1 : Hid (rdM d.pl H d.I t LL = scM d.pl H d.I t LL1 (scs H t) ∧ LL1.length = n ∧ RowsLe LL1 274877915136) := by
        refine ⟨by rw [← hLL1]; rfl, by rw [← hLL1, vrMs_len]; exact HA.out.2.2.2.2.1, ?_⟩
        rw [← hLL1]
        refine (vrMs_le d.pl H d.I t 3 (rds H t) LL _ HA.out.2.2.2.2.2.2.2.1).mono ?_
        have h2 := HEV.out.2.1
        omega
      rw [hLL1] at HI1
      clear HI hLL1
      go_wp2_with fail
      clear c8
      go_loopw [32] (fun ix wr => ∃ k : Nat, ix = .int .i64 (k : Int) ∧ k ≤ ms ∧ Hid (EdF w wr C ∧ ∃ vs', OutE wr C ob vs' (scM d.pl H d.I t LL1 ((scs H t).take k)))) (fun ix _ => ms - (intOf ix).toNat)
      case atStart => exact ⟨0, by go_num, Nat.zero_le _, HI1.out⟩
      case round =>
        obtain ⟨k2, rfl, hk2, HJ⟩ := hrel
        clear HI1
        by_cases hk20 : k2 = ms
        · subst hk20
          go_wp2_with fail
          go_end0
          refine ⟨rfl, HJ.out.1, ?_⟩
          have h1 := HJ.out.2
          rw [← HEV.out.2.2.2, List.take_length] at h1
          rw [HL1.out.1]
          exact h1
        · have hk21 : k2 < ms := by omega
          clear hk20
          have HK2 : Hid (k2 < ms) := hk21
          have hki : k2 < (scs H t).length := by rw [HEV.out.2.2.2]; exact hk21
          obtain ⟨b, o, q, dd, rfl, hsl, x0, x1, x2, x3, x4, x5, x6, x7, x8, x9⟩ := (HRD.out wr HJ.out.1).scell HEV.out.2.2.1 k2 hki
          have hBC : B ≤ C := by obtain ⟨w0, g1, g2, g3, g4⟩ := HR.out.f; have := HA.out.1; omega
          have HSL : Hid (SlG encS 3 B wr (.slice q (scs H t)[k2].sn.length dd) (scs H t)[k2].sn ∧ B ≤ C) := ⟨hsl, hBC⟩
          have hkn := fun (s : Sw) (hs : s ∈ (scs H t)[k2].sn) => HA.out.2.2.2.1.sc (List.getElem_mem hki) hs
          have hm4 := HSN.out _ (List.getElem_mem hki)
          have HTK : Hid (scM d.pl H d.I t LL1 ((scs H t).take (k2 + 1)) = (scs H t)[k2].sn.foldl (vrM d.pl H d.I t 4) (scM d.pl H d.I t LL1 ((scs H t).take k2))) := foldl_take _ _ _ k2 hki
          have hle := scM_le d.pl H d.I t 4096 ((scs H t).take k2) LL1 _ (fun a ha => HSN.out a (List.mem_of_mem_take ha)) HL1.out.2.2
          have hlk : ((scs H t).take k2).length = k2 := by rw [List.length_take]; omega
          rw [hlk] at hle
          have hllen := scM_len d.pl H d.I t ((scs H t).take k2) LL1
          rw [HL1.out.2.1] at hllen
          generalize (scs H t)[k2] = a at *
          obtain ⟨LL2, hLL2⟩ : ∃ LL2, scM d.pl H d.I t LL1 ((scs H t).take k2) = LL2 := ⟨_, rfl⟩
          have HJ2 : Hid (EdF w wr C ∧ ∃ vs', OutE wr C ob vs' LL2) := by rw [← hLL2]; exact HJ.out
          rw [hLL2] at HTK hle hllen
          have HL2 : Hid (LL2.length = n ∧ RowsLe LL2 (274877915136 + k2 * 8192) ∧ (∀ s ∈ a.sn, s.fr = 0 ∨ kn H s.fr = true) ∧ a.sn.length ≤ 4096) := ⟨hllen, hle, hkn, hm4⟩
          obtain ⟨sn, hsn⟩ : ∃ sn, a.sn = sn := ⟨_, rfl⟩
          obtain ⟨m3, hm3⟩ : ∃ m3, sn.length = m3 := ⟨_, rfl⟩
          rw [hsn, hm3] at x8 HSL HL2
          rw [hsn] at HTK
          have HM3 : Hid (sn.length = m3) := hm3
          have hm34 : m3 ≤ 4096 := by rw [hsn, hm3] at hm4; exact hm4
          clear hLL2 HJ hkn hle hllen hlk hki hsn hm3 hm4 hsl
          rename World => w2
          go_upto_region 8 with fail
          clear x0 x1 x2 x3 x4 x5 x6 x7 x8 x9
          obtain ⟨w3, hw3⟩ : ∃ w3, (w2.alloc (.cells #[.int .i64 a.tx, .int .i64 a.kd, .string a.it, .int .i64 a.fr, .int .i64 a.nt, .string a.lo, .string a.hi, .bool a.op, .slice q m3 dd, .int .u64 (a.st : Nat)] 51)) = w3 := ⟨_, rfl⟩
          have HB3 : Hid (Below w2.heap.size w2 w3) := by rw [← hw3]; exact (Below.refl _ _).alloc (Nat.le_refl _) _
          have z8 : w3.cell? ⟨w2.heap.size, 8, none⟩ = some (.slice q m3 dd) := by rw [← hw3]; exact (Blk.new w2 _ _).cell rfl
          rw [hw3]
          clear hw3
          have HE3 : Hid (EdF w w3 C ∧ EdF w2 w3 C) := ⟨HJ2.out.1.trans' (EdF.of HB3.out), EdF.of HB3.out⟩
          have HO3 : Hid (∃ vs', OutE w3 C ob vs' LL2) := HJ2.out.2.elim (fun v h => ⟨v, h.on HB3.out⟩)
          generalize w2.heap.size = bz at *
          go_wp2_with fail
          go_loopw [39] (fun ix wr => ∃ j : Nat, ix = .int .i64 (j : Int) ∧ j ≤ m3 ∧ Hid (EdF w wr C ∧ EdF w2 wr C ∧ ∃ vs', OutE wr C ob vs' ((sn.take j).foldl (vrM d.pl H d.I t 4) LL2))) (fun ix _ => m3 - (intOf ix).toNat)
          case atStart => exact ⟨0, by go_num, Nat.zero_le _, HE3.out.1, HE3.out.2, HO3.out⟩
          case round =>
            obtain ⟨j, rfl, hj, HM⟩ := hrel
            by_cases hj0 : j = m3
            · subst hj0
              go_wp2_with fail
              go_roundw
              case rel => exact ⟨k2 + 1, by go_num, HK2.out, HM.out.1, by rw [HTK.out]; have h1 := HM.out.2.2; rw [← HM3.out, List.take_length] at h1; exact h1⟩
              case measure => have h9 := HK2.out; simp [intOf]; omega
            · have hj1 : j < m3 := by omega
              clear hj0
              have hji : j < sn.length := by rw [HM3.out]; exact hj1
              have hsl := HSL.out.1.on ((HM.out.2.1.below' (Nat.le_trans HA.out.2.1 HJ2.out.1.size)).mono HSL.out.2)
              obtain ⟨b2, o2, rfl, hb, x0, x1, x2⟩ := hsl.cellS j hji
              have hkn := HL2.out.2.2.1 _ (List.getElem_mem hji)
              have HTJ : Hid ((sn.take (j + 1)).foldl (vrM d.pl H d.I t 4) LL2 = vrM d.pl H d.I t 4 ((sn.take j).foldl (vrM d.pl H d.I t 4) LL2) sn[j]) := foldl_take _ _ _ j hji
              have hle := vrMs_le d.pl H d.I t 4 (sn.take j) LL2 _ HL2.out.2.1
              have hlk : (sn.take j).length = j := by rw [List.length_take]; omega
              rw [hlk] at hle
              generalize sn[j] = s at *
              have CV : Hid (∀ W, EdF w W C → (∃ vs', OutE W C ob vs' ((sn.take j).foldl (vrM d.pl H d.I t 4) LL2)) → Calls Tryz.prog 109 #[.pointer (some ⟨d.s.hb, 0, none⟩), .slice (some ⟨ob, 0, none⟩) n n, .pointer (some ⟨d.s.pt t, 0, none⟩), .agg #[.string s.it, .int .i64 s.fr, .int .i64 s.nt], .int .i64 4] W fun e w' => e = .returned (.tuple #[]) ∧ EdF w w' C ∧ EdF W w' C ∧ ∃ vs', OutE w' C ob vs' (vrM d.pl H d.I t 4 ((sn.take j).foldl (vrM d.pl H d.I t 4) LL2) s)) := fun W hW ho => by
                obtain ⟨vs1, ho⟩ := ho
                refine (addVersion_any N B C ob vs1 _ n H d t s 4 W (HRD.out W hW) HA.out.1 (Nat.le_trans HA.out.2.1 hW.size) HA.out.2.2.1 HA.out.2.2.2.1 ho (by rw [vrMs_len]; exact HL2.out.1) HA.out.2.2.2.2.2.1 HA.out.2.2.2.2.2.2.1 (hle.mono (by have := HK2.out; omega)) HA.out.2.2.2.2.2.2.2.2 hkn).mono ?_
                rintro e w9 ⟨he, h1, h2⟩
                exact ⟨he, hW.trans' h1, h1, h2⟩
              clear hkn hle hlk hsl hb hji
              rename World => w4
              go_upto_region 11 with fail
              obtain ⟨w5, hw5⟩ : ∃ w5, w4.alloc (.cells #[.string s.it, .int .i64 s.fr, .int .i64 s.nt] 53) = w5 := ⟨_, rfl⟩
              have HB5 : Hid (Below w4.heap.size w4 w5) := by rw [← hw5]; exact (Below.refl _ _).alloc (Nat.le_refl _) _
              have HK5 : Hid (Blk w5 w4.heap.size #[.string s.it, .int .i64 s.fr, .int .i64 s.nt] 53) := by rw [← hw5]; exact Blk.new w4 _ _
              rw [hw5]
              have z0 := HK5.out.cell (i := 0) rfl
              have z1 := HK5.out.cell (i := 1) rfl
              have z2 := HK5.out.cell (i := 2) rfl
              clear hw5 x0 x1 x2
              have CV3 : Hid (Calls Tryz.prog 109 #[.pointer (some ⟨d.s.hb, 0, none⟩), .slice (some ⟨ob, 0, none⟩) n n, .pointer (some ⟨d.s.pt t, 0, none⟩), .agg #[.string s.it, .int .i64 s.fr, .int .i64 s.nt], .int .i64 4] w5 fun e w' => e = .returned (.tuple #[]) ∧ EdF w w' C ∧ EdF w5 w' C ∧ ∃ vs', OutE w' C ob vs' (vrM d.pl H d.I t 4 ((sn.take j).foldl (vrM d.pl H d.I t 4) LL2) s)) := CV.out w5 (HM.out.1.trans' (EdF.of HB5.out)) (HM.out.2.2.elim (fun v h => ⟨v, h.on HB5.out⟩))
              have HE5 : Hid (EdF w2 w5 C) := HM.out.2.1.trans' (EdF.of HB5.out)
              generalize w4.heap.size = bz2 at *
              go_wp2_with (first | (go_at_call 109; refine CV3.out.mono ?_; rintro e w6 ⟨rfl, hw6⟩; have HW6 : Hid (EdF w w6 C ∧ EdF w5 w6 C ∧ ∃ vs', OutE w6 C ob vs' (vrM d.pl H d.I t 4 ((sn.take j).foldl (vrM d.pl H d.I t 4) LL2) s)) := hw6; clear hw6))
              go_roundw
              case rel => exact ⟨j + 1, by go_num, hj1, HW6.out.1, HE5.out.trans' HW6.out.2.1, by rw [HTJ.out]; exact HW6.out.2.2⟩
              case measure => simp [intOf]; omega
    · have hk1 : k < mr := by omega
      clear hk0
      have HK1 : Hid (k < mr) := hk1
      have hki : k < (rds H t).length := by rw [HEV.out.2.1]; exact hk1
      have hsl : SlG encS 3 wr.heap.size wr (.slice qr mr dr) (rds H t) := by
        have h1 : SlG encS 3 wr.heap.size wr (d.s.vr t) (rds H t) := OwnG.sl (T := 53) (B := B) (fun _ => rfl) ((HRD.out wr HI.out.1).dn.fr.own t)
        rw [HEV.out.1] at h1
        exact h1
      obtain ⟨b, o, rfl, hb, x0, x1, x2⟩ := hsl.cellS k hki
      have hkn := HA.out.2.2.2.1.rd (t := t) (List.getElem_mem hki)
      have HTK : Hid (((rds H t).take (k + 1)).foldl (vrM d.pl H d.I t 3) LL = vrM d.pl H d.I t 3 (((rds H t).take k).foldl (vrM d.pl H d.I t 3) LL) (rds H t)[k]) := foldl_take _ _ _ k hki
      have hle := vrMs_le d.pl H d.I t 3 ((rds H t).take k) LL _ HA.out.2.2.2.2.2.2.2.1
      have hlk : ((rds H t).take k).length = k := by rw [List.length_take]; omega
      rw [hlk] at hle
      generalize (rds H t)[k] = s at *
      have CV : Hid (∀ W, EdF w W C → (∃ vs', OutE W C ob vs' (((rds H t).take k).foldl (vrM d.pl H d.I t 3) LL)) → Calls Tryz.prog 109 #[.pointer (some ⟨d.s.hb, 0, none⟩), .slice (some ⟨ob, 0, none⟩) n n, .pointer (some ⟨d.s.pt t, 0, none⟩), .agg #[.string s.it, .int .i64 s.fr, .int .i64 s.nt], .int .i64 3] W fun e w' => e = .returned (.tuple #[]) ∧ EdF w w' C ∧ ∃ vs', OutE w' C ob vs' (vrM d.pl H d.I t 3 (((rds H t).take k).foldl (vrM d.pl H d.I t 3) LL) s)) := fun W hW ho => by
        obtain ⟨vs1, ho⟩ := ho
        refine (addVersion_any N B C ob vs1 _ n H d t s 3 W (HRD.out W hW) HA.out.1 (Nat.le_trans HA.out.2.1 hW.size) HA.out.2.2.1 HA.out.2.2.2.1 ho (by rw [vrMs_len]; exact HA.out.2.2.2.2.1) HA.out.2.2.2.2.2.1 HA.out.2.2.2.2.2.2.1 (hle.mono (by omega)) HA.out.2.2.2.2.2.2.2.2 hkn).mono ?_
        rintro e w9 ⟨he, h1, h2⟩
        exact ⟨he, hW.trans' h1, h2⟩
      clear hkn hle hlk hsl hb
      clear hki
      rename World => w2
      go_upto_region 3 with fail
      obtain ⟨w3, hw3⟩ : ∃ w3, w2.alloc (.cells #[.string s.it, .int .i64 s.fr, .int .i64 s.nt] 53) = w3 := ⟨_, rfl⟩
      have HB3 : Hid (Below w2.heap.size w2 w3) := by rw [← hw3]; exact (Below.refl _ _).alloc (Nat.le_refl _) _
      have HK3 : Hid (Blk w3 w2.heap.size #[.string s.it, .int .i64 s.fr, .int .i64 s.nt] 53) := by rw [← hw3]; exact Blk.new w2 _ _
      rw [hw3]
      have z0 := HK3.out.cell (i := 0) rfl
      have z1 := HK3.out.cell (i := 1) rfl
      have z2 := HK3.out.cell (i := 2) rfl
      clear hw3 x0 x1 x2
      have CV3 : Hid (Calls Tryz.prog 109 #[.pointer (some ⟨d.s.hb, 0, none⟩), .slice (some ⟨ob, 0, none⟩) n n, .pointer (some ⟨d.s.pt t, 0, none⟩), .agg #[.string s.it, .int .i64 s.fr, .int .i64 s.nt], .int .i64 3] w3 fun e w' => e = .returned (.tuple #[]) ∧ EdF w w' C ∧ ∃ vs', OutE w' C ob vs' (vrM d.pl H d.I t 3 (((rds H t).take k).foldl (vrM d.pl H d.I t 3) LL) s)) := CV.out w3 (HI.out.1.trans' (EdF.of HB3.out)) (HI.out.2.elim (fun v h => ⟨v, h.on HB3.out⟩))
      generalize w2.heap.size = bz at *
      go_wp2_with (first | (go_at_call 109; refine CV3.out.mono ?_; rintro e w4 ⟨rfl, hw4⟩; have HW4 : Hid (EdF w w4 C ∧ ∃ vs', OutE w4 C ob vs' (vrM d.pl H d.I t 3 (((rds H t).take k).foldl (vrM d.pl H d.I t 3) LL) s)) := hw4; clear hw4))
      go_roundw
      case rel => exact ⟨k + 1, by go_num, HK1.out, HW4.out.1, by rw [HTK.out]; exact HW4.out.2⟩
      case measure => have h9 := HK1.out; simp [intOf]; omega

end Go.Proofs.YtncfejndmlcidaaGreat
