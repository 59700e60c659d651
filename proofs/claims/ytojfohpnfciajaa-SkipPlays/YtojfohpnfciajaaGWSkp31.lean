/- Layer 12: a scan that falls. Layer 12: a scan that falls. -/
import Derived.Test.YtojfohpnfciajaaGMFall
namespace Go.Proofs.Ytojfohpnfciajaa
open Go.RowKit
set_option maxRecDepth 100000

set_option maxHeartbeats 4000000 in
theorem fall_zero (b lb hb sb hl cb p q : Nat) (N : List Nd) (lo hi : ByteArray) (op : Bool) (most : Int) (v : Value) (T : List En) (w0 w : World) (hk : Skp w0 lb hb sb hl cb N) (hN : N.length < 4000000000000) (hq : ScS w0 w b lb sb lo hi op most v T) (ho : OnL 0 N p) (hpq : p < q) (hqN : q ≤ N.length + 1) (hoq : q = N.length + 1 ∨ OnL 0 N q) (hg : goodP hi op (ensN N) p = true) (hT : T.length + q ≤ N.length + 2) (hl16 : 0 < 16) :
    Calls Try.prog 72 #[ptr1 b, .int .i64 0, ptr1 (posB hb N p), tov hb N q] w fun e w' => FlR w0 w w' b lb sb lo hi op most N p q T e := by
  have HK : Hid (Skp w0 lb hb sb hl cb N) := hk
  have HQ : Hid (ScS w0 w b lb sb lo hi op most v T) := hq
  have HA : Hid (p < q ∧ q ≤ N.length + 1 ∧ (q = N.length + 1 ∨ OnL 0 N q) ∧ goodP hi op (ensN N) p = true ∧ 0 < 16) := ⟨hpq, hqN, hoq, hg, hl16⟩
  have HKw : Hid (Skp w lb hb sb hl cb N) := hk.on hq.bel
  have HLn : Hid (N.length < 4000000000000) := hN
  have HTl : Hid (T.length + q ≤ N.length + 2) := hT
  have HI0 : Hid (Fl1 w w hb N hi op 0 p q (.slice none 0 0) [] p) := Fl1.start w hb N hi op ho hpq
  have HTP : Hid (ptr1 (posB hb N p) = tov hb N p) := (tov_at hb ho.le).symm
  clear hk hq hN ho hpq hqN hoq hg hT hl16
  go_enter Try.func72, Try.ntmps72
  go_wp2_with fail
  go_loopw [9, 10] (fun sv sx wq => ∃ (st : List Nat) (c : Nat), sx = tov hb N c ∧ Hid (Fl1 w wq hb N hi op 0 p q sv st c)) (fun _ sx _ => msO hb N sx)
  case atStart => exact ⟨[], p, HTP.out, HI0⟩
  case round =>
    obtain ⟨st, c, rfl, HI⟩ := hrel
    clear HI0
    have hskw := HK.out.on (HQ.out.bel.trans (HI.out.bel.mono HQ.out.bel.size))
    have HSk : Hid (Skp wr lb hb sb hl cb N) := hskw
    have HQw : Hid (ScS w0 wr b lb sb lo hi op most v T) := HQ.out.keep HI.out.bel
    clear hskw
    rcases Nat.lt_or_ge N.length c with hc1 | hc1
    · have ec : c = N.length + 1 := by have := HI.out.cq; have := HA.out.2.1; omega
      have hx : tov hb N c = .pointer none := by rw [ec]; exact tov_nil hb N
      have hex : st ≠ [] ∧ (c = N.length + 1 ∨ c = q ∨ goodP hi op (ensN N) c = false) := ⟨fun e => by have := HI.out.p0 e; have := HA.out.1; have := HA.out.2.1; omega, .inl ec⟩
      have HEx : Hid (st ≠ [] ∧ (c = N.length + 1 ∨ c = q ∨ goodP hi op (ensN N) c = false)) := hex
      rw [hx]
      clear hx ec hex hc1
      obtain ⟨gg, cap, rfl, -, -⟩ := owns_form HI.out.own (by rcases st with _ | ⟨x9, s9⟩; exact absurd rfl HEx.out.1; simp)
      have hzb : (st.length : Int) < 5000000000000 := by have := HI.out.lenB; have := HI.out.cq; have := HA.out.2.1; have := HLn.out; omega
      go_wp2_with fail
      have HSt2 : Hid (StP hi op N 0 p q st) := HI.out.stp HK.out.r HEx.out HA.out.1 HA.out.2.1 HA.out.2.2.1
      obtain ⟨T0, hT0⟩ : ∃ T0, T0 = T := ⟨_, rfl⟩
      have HT00 : Hid (T0 = T) := hT0
      have HJ0 : Hid (Fl2 w0 w wr b lb sb lo hi op most N hb p q gg cap st T0 st.length v T) := ⟨KeepT.of_below HI.out.bel, HI.out.own, HQ.out.keep HI.out.bel, by rw [HT00.out, getD_no q (Nat.le_refl _)], by rw [getD_no q (Nat.le_refl _)]; exact HTl.out⟩
      have HSl : Hid (1 ≤ st.length ∧ st.length ≤ N.length + 1) := ⟨by have := HSt2.out.ne; omega, HSt2.out.len⟩
      have hqe : tov hb N q = tov hb N (st.getD st.length q) := by rw [getD_no q (Nat.le_refl _)]
      have HQe : Hid (tov hb N q = tov hb N (st.getD st.length q)) := hqe
      clear hT0 hqe
      go_loopw [3, 11] (fun sto si wq => ∃ (j : Nat) (u : Value) (T1 : List En), j ≤ st.length ∧ sto = tov hb N (st.getD j q) ∧ si = .int .i64 ((j : Int) - 1) ∧ Hid (Fl2 w0 w wq b lb sb lo hi op most N hb p q gg cap st T0 j u T1)) (fun _ si _ => (intOf si + 1).toNat)
      case atStart => exact ⟨st.length, v, T, Nat.le_refl _, HQe.out, by go_num, HJ0⟩
      case round =>
        obtain ⟨j, u, T1, hj, rfl, rfl, HJ⟩ := hrel
        clear HJ0
        cases j with
        | zero =>
          have HR : Hid (FlR w0 w wr b lb sb lo hi op most N p q T (.returned (.bool true))) := HT00.out ▸ HJ.out.fin HSt2.out
          rw [show ((0 : Nat) : Int) - 1 = -1 from rfl]
          go_wp2_with fail
          go_ret
          exact HR.out
        | succ j =>
          rw [show ((j + 1 : Nat) : Int) - 1 = (j : Int) by omega]
          have hjs : j < st.length := by omega
          have hcl : wr.cell? ⟨gg, j, none⟩ = some (ptr1 (posB hb N st[j])) := HJ.out.cell hjs
          have HS : Hid (p ≤ st[j] ∧ st[j] < st.getD (j + 1) q ∧ OnL 0 N st[j] ∧ goodP hi op (ensN N) st[j] = true ∧ st[j] ≤ N.length ∧ (st.getD (j + 1) q = N.length + 1 ∨ OnL 0 N (st.getD (j + 1) q)) ∧ st.getD (j + 1) q ≤ N.length + 1 ∧ st.getD j q = st[j]) := HSt2.out.ath hjs
          have hz1 : (j : Int) < st.length := by omega
          have hz2 : (0 : Int) ≤ (j : Int) := by omega
          have hz3 : (j : Int) < 5000000000000 := by have := HSl.out; have := HLn.out; omega
          have hkw := HK.out.on HJ.out.sc.bel
          have HKr : Hid (Skp wr lb hb sb hl cb N) := hkw
          have HTd : Hid (tov hb N st[j] = ptr1 (posB hb N st[j]) ∧ tov hb N st[j] = tov hb N (st.getD j q)) := ⟨tov_at hb HS.out.2.2.2.2.1, by rw [HS.out.2.2.2.2.2.2.2]⟩
          have HSt9 : Hid (∃ z, z = st[j]) := ⟨_, rfl⟩
          clear hkw
          have HOne : Hid (PL hi op (ensN N) st[j] (st.getD (j + 1) q) = [st[j]]) := HSt2.out.one rfl hjs
          obtain ⟨s, hs⟩ : ∃ s, st[j] = s := ⟨_, rfl⟩
          rw [hs] at HS HTd HOne hcl
          have HRun : Hid (∀ r, runP lo most (ensN N) [s] T1 = r → (r.2 = false → ∀ w' u', KeepT wr w' → ScS w0 w' b lb sb lo hi op most u' r.1 → FlR w0 w w' b lb sb lo hi op most N p q T (.returned (.bool false))) ∧ (r.2 = true → ∀ w' u', KeepT wr w' → ScS w0 w' b lb sb lo hi op most u' r.1 → Fl2 w0 w w' b lb sb lo hi op most N hb p q gg cap st T0 j u' r.1)) := fun r hr => by
            have h9 := HJ.out.run1 HSt2.out hjs
            rw [hs] at h9
            rw [HOne.out, hr] at h9
            exact ⟨fun h1 w' u' h2 h3 => HT00.out ▸ h9.1 h1 w' u' h2 h3, h9.2⟩
          have z0 := Blk.cell (i := 0) HJ.out.sc.x rfl
          have z2 := Blk.cell (i := 2) HJ.out.sc.x rfl
          have zl := Blk.cell (i := 1) HKr.out.l rfl
          have HSj : Hid (st[j] = s) := hs
          clear hs
          cases s with
          | zero =>
            have heq : (binOp .eql 53 (ptr1 (posB hb N 0)) (ptr1 hb)).run Try.prog wr = .ok (.bool true) wr := nd_eq wr hb
            have HZ : Hid (∀ n, FlR w0 w (wr.drewN n) b lb sb lo hi op most N p q T (.returned (.bool false))) := fun n => (HRun.out (T1, false) rfl).1 rfl _ u (KeepT.of_below (below_drewN (Below.refl _ _) n)) (HJ.out.sc.keep (below_drewN (Below.refl _ _) n))
            have hheq := nd_eq
            go_upto_region 10 with fail
            have heqn : ∀ n, (binOp .eql 53 (ptr1 (posB hb N 0)) (ptr1 hb)).run Try.prog (wr.drewN n) = .ok (.bool true) (wr.drewN n) := fun n => nd_eq _ hb
            go_quiet (fail)
            go_wp2_with fail
            go_ret
            exact HZ.out _
          | succ i =>
            have hiN : i < N.length := HS.out.2.2.2.2.1
            have hnm := HKr.out.n.ndm hiN
            have hpb : posB hb N (i + 1) = N[i].nb := posB_at hb hiN
            have HPB : Hid (posB hb N (i + 1) = N[i].nb) := hpb
            have hrc : runP lo most (ensN N) [i + 1] T1 = if ltB N[i].e.k lo then (T1, false) else if ((T1.length + 1 : Nat) : Int) < most then (T1 ++ [N[i].e], true) else (T1 ++ [N[i].e], false) := by
              rw [runP_cons, ens_at hiN]
              rfl
            have hn0 := Blk.cell (i := 0) hnm.n rfl
            rw [← hpb] at hn0
            clear hpb
            cases hlt : ltB N[i].e.k lo with
            | true =>
              rw [hlt, if_pos rfl] at hrc
              have HZ : Hid (∀ n, FlR w0 w (wr.drewN n) b lb sb lo hi op most N p q T (.returned (.bool false))) := fun n => (HRun.out _ hrc).1 rfl _ u (KeepT.of_below (below_drewN (Below.refl _ _) n)) (HJ.out.sc.keep (below_drewN (Below.refl _ _) n))
              unfold ltB at hlt
              clear hrc hnm
              go_upto_region 10 with fail
              have heqn : ∀ n, (binOp .eql 53 (ptr1 (posB hb N (i + 1))) (ptr1 hb)).run Try.prog (wr.drewN n) = .ok (.bool false) (wr.drewN n) := fun n => nd_eql (q := 0) (HKr.out.n.on (below_drewN (Below.refl _ _) n)) hiN (Nat.zero_le _) (by omega)
              go_quiet (fail)
              go_wp2_with fail
              go_ret
              exact HZ.out _
            | false =>
              rw [hlt, if_neg (by decide)] at hrc
              have hdr : Below wr.heap.size wr wr.drew := (Below.refl _ _).drew
              have HEq : Hid ((binOp .eql 53 (ptr1 (posB hb N (i + 1))) (ptr1 hb)).run Try.prog wr.drew = .ok (.bool false) wr.drew) := nd_eql (q := 0) (HKr.out.n.on hdr) hiN (Nat.zero_le _) (by omega)
              have HCe : Hid (wr.drew.cell? ⟨b, 0, none⟩ = some (ptr1 lb) ∧ wr.drew.cell? ⟨lb, 1, none⟩ = some (ptr1 hb) ∧ wr.drew.cell? ⟨posB hb N (i + 1), 0, none⟩ = some (.string N[i].e.k) ∧ wr.drew.cell? ⟨b, 2, none⟩ = some (.string lo)) := ⟨z0, zl, hn0, z2⟩
              have CT : Hid (Calls Try.prog 95 #[ptr1 b, ptr1 (posB hb N (i + 1))] wr.drew fun e w' => e = .returned (.bool (decide (((T1.length + 1 : Nat) : Int) < most))) ∧ KeepT wr.drew w' ∧ ∃ v', ScS w0 w' b lb sb lo hi op most v' (T1 ++ [N[i].e])) := by
                show Calls _ _ _ _ _
                rw [HPB.out]
                exact tell_any b lb sb N[i].nb N[i].vb N[i].lb N[i].e.h lo hi N[i].e.k op most N[i].e.v u T1 w0 wr.drew (HJ.out.sc.keep hdr) (hnm.on hdr) (by have := HLn.out; have := HJ.out.len; have := HS.out.2.1; omega)
              have HKd : Hid (KeepT wr wr.drew) := KeepT.of_below hdr
              unfold ltB at hlt
              by_cases hm : ((T1.length + 1 : Nat) : Int) < most
              · rw [decide_eq_true hm] at CT
                rw [if_pos hm] at hrc
                have HZ : Hid (∀ w' u', KeepT wr w' → ScS w0 w' b lb sb lo hi op most u' (T1 ++ [N[i].e]) → Fl2 w0 w w' b lb sb lo hi op most N hb p q gg cap st T0 j u' (T1 ++ [N[i].e])) := (HRun.out _ hrc).2 rfl
                clear hm hrc hnm hdr hn0 z0 z2 zl
                go_upto_region 10 with fail
                clear hcl
                refine wp_region_any (by kernel_rfl) ?_
                change wpAny _ _ _ _ _ _ _ (World.drew _)
                generalize wr.drew = wd at *
                refine tk (v := ?_) 0 rfl ?_ ?_
                rotate_left
                focus
                  intro w9
                  go_simp
                  try with_reducible rfl
                try simp only [aP]
                refine tk (v := ?_) 1 rfl ?_ ?_
                rotate_left
                focus
                  intro w9
                  go_simp
                  try with_reducible rfl
                try simp only [aP]
                refine tk (v := ?_) 2 rfl ?_ ?_
                rotate_left
                focus
                  intro w9
                  go_simp
                  try with_reducible rfl
                try simp only [aP]
                refine tk (v := ?_) 3 rfl ?_ ?_
                rotate_left
                focus
                  intro w9
                  go_simp
                  try with_reducible rfl
                try simp only [aP]
                refine tk (v := ?_) 4 rfl ?_ ?_
                rotate_left
                focus
                  intro w9
                  go_simp
                  try with_reducible rfl
                try simp only [aP]
                refine tk (v := ?_) 5 rfl ?_ ?_
                rotate_left
                focus
                  intro w9
                  go_simp
                  try with_reducible rfl
                try simp only [aP]
                refine tk (v := ?_) 6 rfl ?_ ?_
                rotate_left
                focus
                  intro w9
                  go_simp
                  try with_reducible rfl
                try simp only [aP]
                refine tk (v := ?_) 7 rfl ?_ ?_
                rotate_left
                focus
                  intro w9
                  go_simp
                  try with_reducible rfl
                try simp only [aP]
                apply later2 (fun (w5 : World) (u5 : Value) => Hid (KeepT wd w5 ∧ ScS w0 w5 b lb sb lo hi op most u5 (T1 ++ [N[i].e])))
                intro hs8_11_12_17_22_23_28
                apply later0
                intro hs8_11_12_17_22_23
                apply later0
                intro hs8_11_12_17_22
                apply later0
                intro hs8_11_12_22
                apply later0
                intro hs8_11_12_17
                apply later0
                intro hs8_11_12
                apply later0
                intro hs8_11
                apply later0
                intro hs8
                · obtain ⟨x0, l1, n0, x2⟩ := HCe.out
                  have heq := HEq.out
                  refine wpAny_ready (rs := [8]) (by kernel_rfl) (by simp) ?_
                  refine anyN_cons 8 rfl (by rfl) (fun K hK => ?_) AllReady.nil
                  go_simp
                  refine hK.out _ _ ?_
                  clear hK K
                  try simp only [aP]
                  refine tk (v := ?_) 9 rfl ?_ ?_
                  rotate_left
                  focus
                    intro w9
                    go_simp
                    try with_reducible rfl
                  try simp only [aP]
                  refine tk (v := ?_) 10 rfl ?_ ?_
                  rotate_left
                  focus
                    intro w9
                    go_simp
                    try with_reducible rfl
                  try simp only [aP]
                  exact hs8
                · obtain ⟨x0, l1, n0, x2⟩ := HCe.out
                  have heq := HEq.out
                  refine wpAny_ready (rs := [11]) (by kernel_rfl) (by simp) ?_
                  refine anyN_cons 11 rfl (by rfl) (fun K hK => ?_) AllReady.nil
                  go_simp
                  refine hK.out _ _ ?_
                  clear hK K
                  try simp only [aP]
                  exact hs8_11
                · obtain ⟨x0, l1, n0, x2⟩ := HCe.out
                  have heq := HEq.out
                  refine wpAny_ready (rs := [12]) (by kernel_rfl) (by simp) ?_
                  refine anyN_cons 12 rfl (by rfl) (fun K hK => ?_) AllReady.nil
                  go_simp
                  refine hK.out _ _ ?_
                  clear hK K
                  try simp only [aP]
                  refine tk (v := ?_) 13 rfl ?_ ?_
                  rotate_left
                  focus
                    intro w9
                    go_simp
                    try with_reducible rfl
                  try simp only [aP]
                  refine tk (v := ?_) 14 rfl ?_ ?_
                  rotate_left
                  focus
                    intro w9
                    go_simp
                    try with_reducible rfl
                  try simp only [aP]
                  refine tk (v := ?_) 15 rfl ?_ ?_
                  rotate_left
                  focus
                    intro w9
                    go_simp
                    try with_reducible rfl
                  try simp only [aP]
                  refine tk (v := ?_) 16 rfl ?_ ?_
                  rotate_left
                  focus
                    intro w9
                    go_simp
                    try with_reducible rfl
                  try simp only [aP]
                  refine tk (v := ?_) 18 rfl ?_ ?_
                  rotate_left
                  focus
                    intro w9
                    go_simp
                    try with_reducible rfl
                  try simp only [aP]
                  refine tk (v := ?_) 19 rfl ?_ ?_
                  rotate_left
                  focus
                    intro w9
                    go_simp
                    try with_reducible rfl
                  try simp only [aP]
                  refine tk (v := ?_) 20 rfl ?_ ?_
                  rotate_left
                  focus
                    intro w9
                    go_simp
                    try with_reducible rfl
                  try simp only [aP]
                  refine tk (v := ?_) 21 rfl ?_ ?_
                  rotate_left
                  focus
                    intro w9
                    go_simp
                    try with_reducible rfl
                  try simp only [aP]
                  exact hs8_11_12
                · obtain ⟨x0, l1, n0, x2⟩ := HCe.out
                  have heq := HEq.out
                  refine wpAny_ready (rs := [17, 22]) (by kernel_rfl) (by simp) ?_
                  refine anyN_cons 17 rfl (by rfl) (fun K hK => ?_) (anyN_cons 22 rfl (by rfl) (fun K hK => ?_) AllReady.nil)
                  · go_simp
                    refine hK.out _ _ ?_
                    clear hK K
                    try simp only [aP]
                    exact hs8_11_12_17
                  · go_simp
                    refine hK.out _ _ ?_
                    clear hK K
                    try simp only [aP]
                    exact hs8_11_12_22
                · obtain ⟨x0, l1, n0, x2⟩ := HCe.out
                  have heq := HEq.out
                  refine wpAny_ready (rs := [22]) (by kernel_rfl) (by simp) ?_
                  refine anyN_cons 22 rfl (by rfl) (fun K hK => ?_) AllReady.nil
                  go_simp
                  refine hK.out _ _ ?_
                  clear hK K
                  try simp only [aP]
                  exact hs8_11_12_17_22
                · obtain ⟨x0, l1, n0, x2⟩ := HCe.out
                  have heq := HEq.out
                  refine wpAny_ready (rs := [17]) (by kernel_rfl) (by simp) ?_
                  refine anyN_cons 17 rfl (by rfl) (fun K hK => ?_) AllReady.nil
                  go_simp
                  refine hK.out _ _ ?_
                  clear hK K
                  try simp only [aP]
                  exact hs8_11_12_17_22
                · obtain ⟨x0, l1, n0, x2⟩ := HCe.out
                  have heq := HEq.out
                  refine wpAny_ready (rs := [23]) (by kernel_rfl) (by simp) ?_
                  refine anyN_cons 23 rfl (by rfl) (fun K hK => ?_) AllReady.nil
                  go_simp
                  refine hK.out _ _ ?_
                  clear hK K
                  try simp only [aP]
                  refine tk (v := ?_) 24 rfl ?_ ?_
                  rotate_left
                  focus
                    intro w9
                    go_simp
                    try with_reducible rfl
                  try simp only [aP]
                  refine tk (v := ?_) 25 rfl ?_ ?_
                  rotate_left
                  focus
                    intro w9
                    go_simp
                    try with_reducible rfl
                  try simp only [aP]
                  refine tk (v := ?_) 26 rfl ?_ ?_
                  rotate_left
                  focus
                    intro w9
                    go_simp
                    try with_reducible rfl
                  try simp only [aP]
                  refine tk (v := ?_) 27 rfl ?_ ?_
                  rotate_left
                  focus
                    intro w9
                    go_simp
                    try with_reducible rfl
                  try simp only [aP]
                  exact hs8_11_12_17_22_23
                · obtain ⟨x0, l1, n0, x2⟩ := HCe.out
                  have heq := HEq.out
                  refine wpAny_ready (rs := [28]) (by kernel_rfl) (by simp) ?_
                  refine anyN_cons 28 rfl (by rfl) (fun K hK => ?_) AllReady.nil
                  go_simp
                  refine CT.out.mono ?_
                  rintro e w5 ⟨rfl, hk5, u5, hq5⟩
                  dsimp only
                  have H5 : Hid (KeepT wd w5 ∧ ScS w0 w5 b lb sb lo hi op most u5 (T1 ++ [N[i].e])) := ⟨hk5, hq5⟩
                  clear hk5 hq5
                  refine hK.out _ _ ?_
                  clear hK K
                  try simp only [aP]
                  refine tk (v := ?_) 29 rfl ?_ ?_
                  rotate_left
                  focus
                    intro w9
                    go_simp
                    try with_reducible rfl
                  try simp only [aP]
                  refine tk (v := ?_) 30 rfl ?_ ?_
                  rotate_left
                  focus
                    intro w9
                    go_simp
                    try with_reducible rfl
                  try simp only [aP]
                  refine tk (v := ?_) 31 rfl ?_ ?_
                  rotate_left
                  focus
                    intro w9
                    go_simp
                    try with_reducible rfl
                  try simp only [aP]
                  exact hs8_11_12_17_22_23_28 w5 u5 H5
                · intro w5 u5 H5
                  refine wpAny_done (by kernel_rfl) ?_ _
                  have HN2 : Hid (Fl2 w0 w w5 b lb sb lo hi op most N hb p q gg cap st T0 j u5 (T1 ++ [N[i].e])) := HZ.out w5 u5 (HKd.out.trans H5.out.1) H5.out.2
                  clear H5
                  go_wp2_with fail
                  go_roundw
                  case rel => exact ⟨j, u5, _, by omega, by rw [← HTd.out.2, HTd.out.1], by go_num, HN2⟩
                  case measure => simp [intOf]
              · rw [decide_eq_false hm] at CT
                rw [if_neg hm] at hrc
                have HZ : Hid (∀ w' u', KeepT wr w' → ScS w0 w' b lb sb lo hi op most u' (T1 ++ [N[i].e]) → FlR w0 w w' b lb sb lo hi op most N p q T (.returned (.bool false))) := (HRun.out _ hrc).1 rfl
                clear hm hrc hnm hdr hn0 z0 z2 zl
                go_upto_region 10 with fail
                clear hcl
                refine wp_region_any (by kernel_rfl) ?_
                change wpAny _ _ _ _ _ _ _ (World.drew _)
                generalize wr.drew = wd at *
                refine tk (v := ?_) 0 rfl ?_ ?_
                rotate_left
                focus
                  intro w9
                  go_simp
                  try with_reducible rfl
                try simp only [aP]
                refine tk (v := ?_) 1 rfl ?_ ?_
                rotate_left
                focus
                  intro w9
                  go_simp
                  try with_reducible rfl
                try simp only [aP]
                refine tk (v := ?_) 2 rfl ?_ ?_
                rotate_left
                focus
                  intro w9
                  go_simp
                  try with_reducible rfl
                try simp only [aP]
                refine tk (v := ?_) 3 rfl ?_ ?_
                rotate_left
                focus
                  intro w9
                  go_simp
                  try with_reducible rfl
                try simp only [aP]
                refine tk (v := ?_) 4 rfl ?_ ?_
                rotate_left
                focus
                  intro w9
                  go_simp
                  try with_reducible rfl
                try simp only [aP]
                refine tk (v := ?_) 5 rfl ?_ ?_
                rotate_left
                focus
                  intro w9
                  go_simp
                  try with_reducible rfl
                try simp only [aP]
                refine tk (v := ?_) 6 rfl ?_ ?_
                rotate_left
                focus
                  intro w9
                  go_simp
                  try with_reducible rfl
                try simp only [aP]
                refine tk (v := ?_) 7 rfl ?_ ?_
                rotate_left
                focus
                  intro w9
                  go_simp
                  try with_reducible rfl
                try simp only [aP]
                apply later2 (fun (w5 : World) (u5 : Value) => Hid (KeepT wd w5 ∧ ScS w0 w5 b lb sb lo hi op most u5 (T1 ++ [N[i].e])))
                intro hs8_11_12_17_22_23_28
                apply later0
                intro hs8_11_12_17_22_23
                apply later0
                intro hs8_11_12_17_22
                apply later0
                intro hs8_11_12_22
                apply later0
                intro hs8_11_12_17
                apply later0
                intro hs8_11_12
                apply later0
                intro hs8_11
                apply later0
                intro hs8
                · obtain ⟨x0, l1, n0, x2⟩ := HCe.out
                  have heq := HEq.out
                  refine wpAny_ready (rs := [8]) (by kernel_rfl) (by simp) ?_
                  refine anyN_cons 8 rfl (by rfl) (fun K hK => ?_) AllReady.nil
                  go_simp
                  refine hK.out _ _ ?_
                  clear hK K
                  try simp only [aP]
                  refine tk (v := ?_) 9 rfl ?_ ?_
                  rotate_left
                  focus
                    intro w9
                    go_simp
                    try with_reducible rfl
                  try simp only [aP]
                  refine tk (v := ?_) 10 rfl ?_ ?_
                  rotate_left
                  focus
                    intro w9
                    go_simp
                    try with_reducible rfl
                  try simp only [aP]
                  exact hs8
                · obtain ⟨x0, l1, n0, x2⟩ := HCe.out
                  have heq := HEq.out
                  refine wpAny_ready (rs := [11]) (by kernel_rfl) (by simp) ?_
                  refine anyN_cons 11 rfl (by rfl) (fun K hK => ?_) AllReady.nil
                  go_simp
                  refine hK.out _ _ ?_
                  clear hK K
                  try simp only [aP]
                  exact hs8_11
                · obtain ⟨x0, l1, n0, x2⟩ := HCe.out
                  have heq := HEq.out
                  refine wpAny_ready (rs := [12]) (by kernel_rfl) (by simp) ?_
                  refine anyN_cons 12 rfl (by rfl) (fun K hK => ?_) AllReady.nil
                  go_simp
                  refine hK.out _ _ ?_
                  clear hK K
                  try simp only [aP]
                  refine tk (v := ?_) 13 rfl ?_ ?_
                  rotate_left
                  focus
                    intro w9
                    go_simp
                    try with_reducible rfl
                  try simp only [aP]
                  refine tk (v := ?_) 14 rfl ?_ ?_
                  rotate_left
                  focus
                    intro w9
                    go_simp
                    try with_reducible rfl
                  try simp only [aP]
                  refine tk (v := ?_) 15 rfl ?_ ?_
                  rotate_left
                  focus
                    intro w9
                    go_simp
                    try with_reducible rfl
                  try simp only [aP]
                  refine tk (v := ?_) 16 rfl ?_ ?_
                  rotate_left
                  focus
                    intro w9
                    go_simp
                    try with_reducible rfl
                  try simp only [aP]
                  refine tk (v := ?_) 18 rfl ?_ ?_
                  rotate_left
                  focus
                    intro w9
                    go_simp
                    try with_reducible rfl
                  try simp only [aP]
                  refine tk (v := ?_) 19 rfl ?_ ?_
                  rotate_left
                  focus
                    intro w9
                    go_simp
                    try with_reducible rfl
                  try simp only [aP]
                  refine tk (v := ?_) 20 rfl ?_ ?_
                  rotate_left
                  focus
                    intro w9
                    go_simp
                    try with_reducible rfl
                  try simp only [aP]
                  refine tk (v := ?_) 21 rfl ?_ ?_
                  rotate_left
                  focus
                    intro w9
                    go_simp
                    try with_reducible rfl
                  try simp only [aP]
                  exact hs8_11_12
                · obtain ⟨x0, l1, n0, x2⟩ := HCe.out
                  have heq := HEq.out
                  refine wpAny_ready (rs := [17, 22]) (by kernel_rfl) (by simp) ?_
                  refine anyN_cons 17 rfl (by rfl) (fun K hK => ?_) (anyN_cons 22 rfl (by rfl) (fun K hK => ?_) AllReady.nil)
                  · go_simp
                    refine hK.out _ _ ?_
                    clear hK K
                    try simp only [aP]
                    exact hs8_11_12_17
                  · go_simp
                    refine hK.out _ _ ?_
                    clear hK K
                    try simp only [aP]
                    exact hs8_11_12_22
                · obtain ⟨x0, l1, n0, x2⟩ := HCe.out
                  have heq := HEq.out
                  refine wpAny_ready (rs := [22]) (by kernel_rfl) (by simp) ?_
                  refine anyN_cons 22 rfl (by rfl) (fun K hK => ?_) AllReady.nil
                  go_simp
                  refine hK.out _ _ ?_
                  clear hK K
                  try simp only [aP]
                  exact hs8_11_12_17_22
                · obtain ⟨x0, l1, n0, x2⟩ := HCe.out
                  have heq := HEq.out
                  refine wpAny_ready (rs := [17]) (by kernel_rfl) (by simp) ?_
                  refine anyN_cons 17 rfl (by rfl) (fun K hK => ?_) AllReady.nil
                  go_simp
                  refine hK.out _ _ ?_
                  clear hK K
                  try simp only [aP]
                  exact hs8_11_12_17_22
                · obtain ⟨x0, l1, n0, x2⟩ := HCe.out
                  have heq := HEq.out
                  refine wpAny_ready (rs := [23]) (by kernel_rfl) (by simp) ?_
                  refine anyN_cons 23 rfl (by rfl) (fun K hK => ?_) AllReady.nil
                  go_simp
                  refine hK.out _ _ ?_
                  clear hK K
                  try simp only [aP]
                  refine tk (v := ?_) 24 rfl ?_ ?_
                  rotate_left
                  focus
                    intro w9
                    go_simp
                    try with_reducible rfl
                  try simp only [aP]
                  refine tk (v := ?_) 25 rfl ?_ ?_
                  rotate_left
                  focus
                    intro w9
                    go_simp
                    try with_reducible rfl
                  try simp only [aP]
                  refine tk (v := ?_) 26 rfl ?_ ?_
                  rotate_left
                  focus
                    intro w9
                    go_simp
                    try with_reducible rfl
                  try simp only [aP]
                  refine tk (v := ?_) 27 rfl ?_ ?_
                  rotate_left
                  focus
                    intro w9
                    go_simp
                    try with_reducible rfl
                  try simp only [aP]
                  exact hs8_11_12_17_22_23
                · obtain ⟨x0, l1, n0, x2⟩ := HCe.out
                  have heq := HEq.out
                  refine wpAny_ready (rs := [28]) (by kernel_rfl) (by simp) ?_
                  refine anyN_cons 28 rfl (by rfl) (fun K hK => ?_) AllReady.nil
                  go_simp
                  refine CT.out.mono ?_
                  rintro e w5 ⟨rfl, hk5, u5, hq5⟩
                  dsimp only
                  have H5 : Hid (KeepT wd w5 ∧ ScS w0 w5 b lb sb lo hi op most u5 (T1 ++ [N[i].e])) := ⟨hk5, hq5⟩
                  clear hk5 hq5
                  refine hK.out _ _ ?_
                  clear hK K
                  try simp only [aP]
                  refine tk (v := ?_) 29 rfl ?_ ?_
                  rotate_left
                  focus
                    intro w9
                    go_simp
                    try with_reducible rfl
                  try simp only [aP]
                  refine tk (v := ?_) 30 rfl ?_ ?_
                  rotate_left
                  focus
                    intro w9
                    go_simp
                    try with_reducible rfl
                  try simp only [aP]
                  refine tk (v := ?_) 31 rfl ?_ ?_
                  rotate_left
                  focus
                    intro w9
                    go_simp
                    try with_reducible rfl
                  try simp only [aP]
                  exact hs8_11_12_17_22_23_28 w5 u5 H5
                · intro w5 u5 H5
                  refine wpAny_done (by kernel_rfl) ?_ _
                  have HN2 : Hid (FlR w0 w w5 b lb sb lo hi op most N p q T (.returned (.bool false))) := HZ.out w5 u5 (HKd.out.trans H5.out.1) H5.out.2
                  clear H5
                  go_wp2_with fail
                  go_ret
                  exact HN2.out
    · have hx : tov hb N c = ptr1 (posB hb N c) := tov_at hb hc1
      rw [hx]
      by_cases hcq : c = q
      · have htq : tov hb N q = ptr1 (posB hb N c) := by rw [← hcq]; exact hx
        have hex : st ≠ [] ∧ (c = N.length + 1 ∨ c = q ∨ goodP hi op (ensN N) c = false) := ⟨fun e => by have := HI.out.p0 e; have := HA.out.1; omega, .inr (.inl hcq)⟩
        have HEx : Hid (st ≠ [] ∧ (c = N.length + 1 ∨ c = q ∨ goodP hi op (ensN N) c = false)) := hex
        have hne := nd_neq_same wr (posB hb N c)
        have HTq : Hid (tov hb N q = ptr1 (posB hb N c)) := htq
        rw [htq]
        clear hx htq hex hcq hc1
        obtain ⟨gg, cap, rfl, -, -⟩ := owns_form HI.out.own (by rcases st with _ | ⟨x9, s9⟩; exact absurd rfl HEx.out.1; simp)
        have hzb : (st.length : Int) < 5000000000000 := by have := HI.out.lenB; have := HI.out.cq; have := HA.out.2.1; have := HLn.out; omega
        go_wp2_with fail
        clear hne
        rw [← HTq.out]
        have HSt2 : Hid (StP hi op N 0 p q st) := HI.out.stp HK.out.r HEx.out HA.out.1 HA.out.2.1 HA.out.2.2.1
        obtain ⟨T0, hT0⟩ : ∃ T0, T0 = T := ⟨_, rfl⟩
        have HT00 : Hid (T0 = T) := hT0
        have HJ0 : Hid (Fl2 w0 w wr b lb sb lo hi op most N hb p q gg cap st T0 st.length v T) := ⟨KeepT.of_below HI.out.bel, HI.out.own, HQ.out.keep HI.out.bel, by rw [HT00.out, getD_no q (Nat.le_refl _)], by rw [getD_no q (Nat.le_refl _)]; exact HTl.out⟩
        have HSl : Hid (1 ≤ st.length ∧ st.length ≤ N.length + 1) := ⟨by have := HSt2.out.ne; omega, HSt2.out.len⟩
        have hqe : tov hb N q = tov hb N (st.getD st.length q) := by rw [getD_no q (Nat.le_refl _)]
        have HQe : Hid (tov hb N q = tov hb N (st.getD st.length q)) := hqe
        clear hT0 hqe
        go_loopw [3, 11] (fun sto si wq => ∃ (j : Nat) (u : Value) (T1 : List En), j ≤ st.length ∧ sto = tov hb N (st.getD j q) ∧ si = .int .i64 ((j : Int) - 1) ∧ Hid (Fl2 w0 w wq b lb sb lo hi op most N hb p q gg cap st T0 j u T1)) (fun _ si _ => (intOf si + 1).toNat)
        case atStart => exact ⟨st.length, v, T, Nat.le_refl _, HQe.out, by go_num, HJ0⟩
        case round =>
          obtain ⟨j, u, T1, hj, rfl, rfl, HJ⟩ := hrel
          clear HJ0
          cases j with
          | zero =>
            have HR : Hid (FlR w0 w wr b lb sb lo hi op most N p q T (.returned (.bool true))) := HT00.out ▸ HJ.out.fin HSt2.out
            rw [show ((0 : Nat) : Int) - 1 = -1 from rfl]
            go_wp2_with fail
            go_ret
            exact HR.out
          | succ j =>
            rw [show ((j + 1 : Nat) : Int) - 1 = (j : Int) by omega]
            have hjs : j < st.length := by omega
            have hcl : wr.cell? ⟨gg, j, none⟩ = some (ptr1 (posB hb N st[j])) := HJ.out.cell hjs
            have HS : Hid (p ≤ st[j] ∧ st[j] < st.getD (j + 1) q ∧ OnL 0 N st[j] ∧ goodP hi op (ensN N) st[j] = true ∧ st[j] ≤ N.length ∧ (st.getD (j + 1) q = N.length + 1 ∨ OnL 0 N (st.getD (j + 1) q)) ∧ st.getD (j + 1) q ≤ N.length + 1 ∧ st.getD j q = st[j]) := HSt2.out.ath hjs
            have hz1 : (j : Int) < st.length := by omega
            have hz2 : (0 : Int) ≤ (j : Int) := by omega
            have hz3 : (j : Int) < 5000000000000 := by have := HSl.out; have := HLn.out; omega
            have hkw := HK.out.on HJ.out.sc.bel
            have HKr : Hid (Skp wr lb hb sb hl cb N) := hkw
            have HTd : Hid (tov hb N st[j] = ptr1 (posB hb N st[j]) ∧ tov hb N st[j] = tov hb N (st.getD j q)) := ⟨tov_at hb HS.out.2.2.2.2.1, by rw [HS.out.2.2.2.2.2.2.2]⟩
            have HSt9 : Hid (∃ z, z = st[j]) := ⟨_, rfl⟩
            clear hkw
            have HOne : Hid (PL hi op (ensN N) st[j] (st.getD (j + 1) q) = [st[j]]) := HSt2.out.one rfl hjs
            obtain ⟨s, hs⟩ : ∃ s, st[j] = s := ⟨_, rfl⟩
            rw [hs] at HS HTd HOne hcl
            have HRun : Hid (∀ r, runP lo most (ensN N) [s] T1 = r → (r.2 = false → ∀ w' u', KeepT wr w' → ScS w0 w' b lb sb lo hi op most u' r.1 → FlR w0 w w' b lb sb lo hi op most N p q T (.returned (.bool false))) ∧ (r.2 = true → ∀ w' u', KeepT wr w' → ScS w0 w' b lb sb lo hi op most u' r.1 → Fl2 w0 w w' b lb sb lo hi op most N hb p q gg cap st T0 j u' r.1)) := fun r hr => by
              have h9 := HJ.out.run1 HSt2.out hjs
              rw [hs] at h9
              rw [HOne.out, hr] at h9
              exact ⟨fun h1 w' u' h2 h3 => HT00.out ▸ h9.1 h1 w' u' h2 h3, h9.2⟩
            have z0 := Blk.cell (i := 0) HJ.out.sc.x rfl
            have z2 := Blk.cell (i := 2) HJ.out.sc.x rfl
            have zl := Blk.cell (i := 1) HKr.out.l rfl
            have HSj : Hid (st[j] = s) := hs
            clear hs
            cases s with
            | zero =>
              have heq : (binOp .eql 53 (ptr1 (posB hb N 0)) (ptr1 hb)).run Try.prog wr = .ok (.bool true) wr := nd_eq wr hb
              have HZ : Hid (∀ n, FlR w0 w (wr.drewN n) b lb sb lo hi op most N p q T (.returned (.bool false))) := fun n => (HRun.out (T1, false) rfl).1 rfl _ u (KeepT.of_below (below_drewN (Below.refl _ _) n)) (HJ.out.sc.keep (below_drewN (Below.refl _ _) n))
              have hheq := nd_eq
              go_upto_region 10 with fail
              have heqn : ∀ n, (binOp .eql 53 (ptr1 (posB hb N 0)) (ptr1 hb)).run Try.prog (wr.drewN n) = .ok (.bool true) (wr.drewN n) := fun n => nd_eq _ hb
              go_quiet (fail)
              go_wp2_with fail
              go_ret
              exact HZ.out _
            | succ i =>
              have hiN : i < N.length := HS.out.2.2.2.2.1
              have hnm := HKr.out.n.ndm hiN
              have hpb : posB hb N (i + 1) = N[i].nb := posB_at hb hiN
              have HPB : Hid (posB hb N (i + 1) = N[i].nb) := hpb
              have hrc : runP lo most (ensN N) [i + 1] T1 = if ltB N[i].e.k lo then (T1, false) else if ((T1.length + 1 : Nat) : Int) < most then (T1 ++ [N[i].e], true) else (T1 ++ [N[i].e], false) := by
                rw [runP_cons, ens_at hiN]
                rfl
              have hn0 := Blk.cell (i := 0) hnm.n rfl
              rw [← hpb] at hn0
              clear hpb
              cases hlt : ltB N[i].e.k lo with
              | true =>
                rw [hlt, if_pos rfl] at hrc
                have HZ : Hid (∀ n, FlR w0 w (wr.drewN n) b lb sb lo hi op most N p q T (.returned (.bool false))) := fun n => (HRun.out _ hrc).1 rfl _ u (KeepT.of_below (below_drewN (Below.refl _ _) n)) (HJ.out.sc.keep (below_drewN (Below.refl _ _) n))
                unfold ltB at hlt
                clear hrc hnm
                go_upto_region 10 with fail
                have heqn : ∀ n, (binOp .eql 53 (ptr1 (posB hb N (i + 1))) (ptr1 hb)).run Try.prog (wr.drewN n) = .ok (.bool false) (wr.drewN n) := fun n => nd_eql (q := 0) (HKr.out.n.on (below_drewN (Below.refl _ _) n)) hiN (Nat.zero_le _) (by omega)
                go_quiet (fail)
                go_wp2_with fail
                go_ret
                exact HZ.out _
              | false =>
                rw [hlt, if_neg (by decide)] at hrc
                have hdr : Below wr.heap.size wr wr.drew := (Below.refl _ _).drew
                have HEq : Hid ((binOp .eql 53 (ptr1 (posB hb N (i + 1))) (ptr1 hb)).run Try.prog wr.drew = .ok (.bool false) wr.drew) := nd_eql (q := 0) (HKr.out.n.on hdr) hiN (Nat.zero_le _) (by omega)
                have HCe : Hid (wr.drew.cell? ⟨b, 0, none⟩ = some (ptr1 lb) ∧ wr.drew.cell? ⟨lb, 1, none⟩ = some (ptr1 hb) ∧ wr.drew.cell? ⟨posB hb N (i + 1), 0, none⟩ = some (.string N[i].e.k) ∧ wr.drew.cell? ⟨b, 2, none⟩ = some (.string lo)) := ⟨z0, zl, hn0, z2⟩
                have CT : Hid (Calls Try.prog 95 #[ptr1 b, ptr1 (posB hb N (i + 1))] wr.drew fun e w' => e = .returned (.bool (decide (((T1.length + 1 : Nat) : Int) < most))) ∧ KeepT wr.drew w' ∧ ∃ v', ScS w0 w' b lb sb lo hi op most v' (T1 ++ [N[i].e])) := by
                  show Calls _ _ _ _ _
                  rw [HPB.out]
                  exact tell_any b lb sb N[i].nb N[i].vb N[i].lb N[i].e.h lo hi N[i].e.k op most N[i].e.v u T1 w0 wr.drew (HJ.out.sc.keep hdr) (hnm.on hdr) (by have := HLn.out; have := HJ.out.len; have := HS.out.2.1; omega)
                have HKd : Hid (KeepT wr wr.drew) := KeepT.of_below hdr
                unfold ltB at hlt
                by_cases hm : ((T1.length + 1 : Nat) : Int) < most
                · rw [decide_eq_true hm] at CT
                  rw [if_pos hm] at hrc
                  have HZ : Hid (∀ w' u', KeepT wr w' → ScS w0 w' b lb sb lo hi op most u' (T1 ++ [N[i].e]) → Fl2 w0 w w' b lb sb lo hi op most N hb p q gg cap st T0 j u' (T1 ++ [N[i].e])) := (HRun.out _ hrc).2 rfl
                  clear hm hrc hnm hdr hn0 z0 z2 zl
                  go_upto_region 10 with fail
                  clear hcl
                  refine wp_region_any (by kernel_rfl) ?_
                  change wpAny _ _ _ _ _ _ _ (World.drew _)
                  generalize wr.drew = wd at *
                  refine tk (v := ?_) 0 rfl ?_ ?_
                  rotate_left
                  focus
                    intro w9
                    go_simp
                    try with_reducible rfl
                  try simp only [aP]
                  refine tk (v := ?_) 1 rfl ?_ ?_
                  rotate_left
                  focus
                    intro w9
                    go_simp
                    try with_reducible rfl
                  try simp only [aP]
                  refine tk (v := ?_) 2 rfl ?_ ?_
                  rotate_left
                  focus
                    intro w9
                    go_simp
                    try with_reducible rfl
                  try simp only [aP]
                  refine tk (v := ?_) 3 rfl ?_ ?_
                  rotate_left
                  focus
                    intro w9
                    go_simp
                    try with_reducible rfl
                  try simp only [aP]
                  refine tk (v := ?_) 4 rfl ?_ ?_
                  rotate_left
                  focus
                    intro w9
                    go_simp
                    try with_reducible rfl
                  try simp only [aP]
                  refine tk (v := ?_) 5 rfl ?_ ?_
                  rotate_left
                  focus
                    intro w9
                    go_simp
                    try with_reducible rfl
                  try simp only [aP]
                  refine tk (v := ?_) 6 rfl ?_ ?_
                  rotate_left
                  focus
                    intro w9
                    go_simp
                    try with_reducible rfl
                  try simp only [aP]
                  refine tk (v := ?_) 7 rfl ?_ ?_
                  rotate_left
                  focus
                    intro w9
                    go_simp
                    try with_reducible rfl
                  try simp only [aP]
                  apply later2 (fun (w5 : World) (u5 : Value) => Hid (KeepT wd w5 ∧ ScS w0 w5 b lb sb lo hi op most u5 (T1 ++ [N[i].e])))
                  intro hs8_11_12_17_22_23_28
                  apply later0
                  intro hs8_11_12_17_22_23
                  apply later0
                  intro hs8_11_12_17_22
                  apply later0
                  intro hs8_11_12_22
                  apply later0
                  intro hs8_11_12_17
                  apply later0
                  intro hs8_11_12
                  apply later0
                  intro hs8_11
                  apply later0
                  intro hs8
                  · obtain ⟨x0, l1, n0, x2⟩ := HCe.out
                    have heq := HEq.out
                    refine wpAny_ready (rs := [8]) (by kernel_rfl) (by simp) ?_
                    refine anyN_cons 8 rfl (by rfl) (fun K hK => ?_) AllReady.nil
                    go_simp
                    refine hK.out _ _ ?_
                    clear hK K
                    try simp only [aP]
                    refine tk (v := ?_) 9 rfl ?_ ?_
                    rotate_left
                    focus
                      intro w9
                      go_simp
                      try with_reducible rfl
                    try simp only [aP]
                    refine tk (v := ?_) 10 rfl ?_ ?_
                    rotate_left
                    focus
                      intro w9
                      go_simp
                      try with_reducible rfl
                    try simp only [aP]
                    exact hs8
                  · obtain ⟨x0, l1, n0, x2⟩ := HCe.out
                    have heq := HEq.out
                    refine wpAny_ready (rs := [11]) (by kernel_rfl) (by simp) ?_
                    refine anyN_cons 11 rfl (by rfl) (fun K hK => ?_) AllReady.nil
                    go_simp
                    refine hK.out _ _ ?_
                    clear hK K
                    try simp only [aP]
                    exact hs8_11
                  · obtain ⟨x0, l1, n0, x2⟩ := HCe.out
                    have heq := HEq.out
                    refine wpAny_ready (rs := [12]) (by kernel_rfl) (by simp) ?_
                    refine anyN_cons 12 rfl (by rfl) (fun K hK => ?_) AllReady.nil
                    go_simp
                    refine hK.out _ _ ?_
                    clear hK K
                    try simp only [aP]
                    refine tk (v := ?_) 13 rfl ?_ ?_
                    rotate_left
                    focus
                      intro w9
                      go_simp
                      try with_reducible rfl
                    try simp only [aP]
                    refine tk (v := ?_) 14 rfl ?_ ?_
                    rotate_left
                    focus
                      intro w9
                      go_simp
                      try with_reducible rfl
                    try simp only [aP]
                    refine tk (v := ?_) 15 rfl ?_ ?_
                    rotate_left
                    focus
                      intro w9
                      go_simp
                      try with_reducible rfl
                    try simp only [aP]
                    refine tk (v := ?_) 16 rfl ?_ ?_
                    rotate_left
                    focus
                      intro w9
                      go_simp
                      try with_reducible rfl
                    try simp only [aP]
                    refine tk (v := ?_) 18 rfl ?_ ?_
                    rotate_left
                    focus
                      intro w9
                      go_simp
                      try with_reducible rfl
                    try simp only [aP]
                    refine tk (v := ?_) 19 rfl ?_ ?_
                    rotate_left
                    focus
                      intro w9
                      go_simp
                      try with_reducible rfl
                    try simp only [aP]
                    refine tk (v := ?_) 20 rfl ?_ ?_
                    rotate_left
                    focus
                      intro w9
                      go_simp
                      try with_reducible rfl
                    try simp only [aP]
                    refine tk (v := ?_) 21 rfl ?_ ?_
                    rotate_left
                    focus
                      intro w9
                      go_simp
                      try with_reducible rfl
                    try simp only [aP]
                    exact hs8_11_12
                  · obtain ⟨x0, l1, n0, x2⟩ := HCe.out
                    have heq := HEq.out
                    refine wpAny_ready (rs := [17, 22]) (by kernel_rfl) (by simp) ?_
                    refine anyN_cons 17 rfl (by rfl) (fun K hK => ?_) (anyN_cons 22 rfl (by rfl) (fun K hK => ?_) AllReady.nil)
                    · go_simp
                      refine hK.out _ _ ?_
                      clear hK K
                      try simp only [aP]
                      exact hs8_11_12_17
                    · go_simp
                      refine hK.out _ _ ?_
                      clear hK K
                      try simp only [aP]
                      exact hs8_11_12_22
                  · obtain ⟨x0, l1, n0, x2⟩ := HCe.out
                    have heq := HEq.out
                    refine wpAny_ready (rs := [22]) (by kernel_rfl) (by simp) ?_
                    refine anyN_cons 22 rfl (by rfl) (fun K hK => ?_) AllReady.nil
                    go_simp
                    refine hK.out _ _ ?_
                    clear hK K
                    try simp only [aP]
                    exact hs8_11_12_17_22
                  · obtain ⟨x0, l1, n0, x2⟩ := HCe.out
                    have heq := HEq.out
                    refine wpAny_ready (rs := [17]) (by kernel_rfl) (by simp) ?_
                    refine anyN_cons 17 rfl (by rfl) (fun K hK => ?_) AllReady.nil
                    go_simp
                    refine hK.out _ _ ?_
                    clear hK K
                    try simp only [aP]
                    exact hs8_11_12_17_22
                  · obtain ⟨x0, l1, n0, x2⟩ := HCe.out
                    have heq := HEq.out
                    refine wpAny_ready (rs := [23]) (by kernel_rfl) (by simp) ?_
                    refine anyN_cons 23 rfl (by rfl) (fun K hK => ?_) AllReady.nil
                    go_simp
                    refine hK.out _ _ ?_
                    clear hK K
                    try simp only [aP]
                    refine tk (v := ?_) 24 rfl ?_ ?_
                    rotate_left
                    focus
                      intro w9
                      go_simp
                      try with_reducible rfl
                    try simp only [aP]
                    refine tk (v := ?_) 25 rfl ?_ ?_
                    rotate_left
                    focus
                      intro w9
                      go_simp
                      try with_reducible rfl
                    try simp only [aP]
                    refine tk (v := ?_) 26 rfl ?_ ?_
                    rotate_left
                    focus
                      intro w9
                      go_simp
                      try with_reducible rfl
                    try simp only [aP]
                    refine tk (v := ?_) 27 rfl ?_ ?_
                    rotate_left
                    focus
                      intro w9
                      go_simp
                      try with_reducible rfl
                    try simp only [aP]
                    exact hs8_11_12_17_22_23
                  · obtain ⟨x0, l1, n0, x2⟩ := HCe.out
                    have heq := HEq.out
                    refine wpAny_ready (rs := [28]) (by kernel_rfl) (by simp) ?_
                    refine anyN_cons 28 rfl (by rfl) (fun K hK => ?_) AllReady.nil
                    go_simp
                    refine CT.out.mono ?_
                    rintro e w5 ⟨rfl, hk5, u5, hq5⟩
                    dsimp only
                    have H5 : Hid (KeepT wd w5 ∧ ScS w0 w5 b lb sb lo hi op most u5 (T1 ++ [N[i].e])) := ⟨hk5, hq5⟩
                    clear hk5 hq5
                    refine hK.out _ _ ?_
                    clear hK K
                    try simp only [aP]
                    refine tk (v := ?_) 29 rfl ?_ ?_
                    rotate_left
                    focus
                      intro w9
                      go_simp
                      try with_reducible rfl
                    try simp only [aP]
                    refine tk (v := ?_) 30 rfl ?_ ?_
                    rotate_left
                    focus
                      intro w9
                      go_simp
                      try with_reducible rfl
                    try simp only [aP]
                    refine tk (v := ?_) 31 rfl ?_ ?_
                    rotate_left
                    focus
                      intro w9
                      go_simp
                      try with_reducible rfl
                    try simp only [aP]
                    exact hs8_11_12_17_22_23_28 w5 u5 H5
                  · intro w5 u5 H5
                    refine wpAny_done (by kernel_rfl) ?_ _
                    have HN2 : Hid (Fl2 w0 w w5 b lb sb lo hi op most N hb p q gg cap st T0 j u5 (T1 ++ [N[i].e])) := HZ.out w5 u5 (HKd.out.trans H5.out.1) H5.out.2
                    clear H5
                    go_wp2_with fail
                    go_roundw
                    case rel => exact ⟨j, u5, _, by omega, by rw [← HTd.out.2, HTd.out.1], by go_num, HN2⟩
                    case measure => simp [intOf]
                · rw [decide_eq_false hm] at CT
                  rw [if_neg hm] at hrc
                  have HZ : Hid (∀ w' u', KeepT wr w' → ScS w0 w' b lb sb lo hi op most u' (T1 ++ [N[i].e]) → FlR w0 w w' b lb sb lo hi op most N p q T (.returned (.bool false))) := (HRun.out _ hrc).1 rfl
                  clear hm hrc hnm hdr hn0 z0 z2 zl
                  go_upto_region 10 with fail
                  clear hcl
                  refine wp_region_any (by kernel_rfl) ?_
                  change wpAny _ _ _ _ _ _ _ (World.drew _)
                  generalize wr.drew = wd at *
                  refine tk (v := ?_) 0 rfl ?_ ?_
                  rotate_left
                  focus
                    intro w9
                    go_simp
                    try with_reducible rfl
                  try simp only [aP]
                  refine tk (v := ?_) 1 rfl ?_ ?_
                  rotate_left
                  focus
                    intro w9
                    go_simp
                    try with_reducible rfl
                  try simp only [aP]
                  refine tk (v := ?_) 2 rfl ?_ ?_
                  rotate_left
                  focus
                    intro w9
                    go_simp
                    try with_reducible rfl
                  try simp only [aP]
                  refine tk (v := ?_) 3 rfl ?_ ?_
                  rotate_left
                  focus
                    intro w9
                    go_simp
                    try with_reducible rfl
                  try simp only [aP]
                  refine tk (v := ?_) 4 rfl ?_ ?_
                  rotate_left
                  focus
                    intro w9
                    go_simp
                    try with_reducible rfl
                  try simp only [aP]
                  refine tk (v := ?_) 5 rfl ?_ ?_
                  rotate_left
                  focus
                    intro w9
                    go_simp
                    try with_reducible rfl
                  try simp only [aP]
                  refine tk (v := ?_) 6 rfl ?_ ?_
                  rotate_left
                  focus
                    intro w9
                    go_simp
                    try with_reducible rfl
                  try simp only [aP]
                  refine tk (v := ?_) 7 rfl ?_ ?_
                  rotate_left
                  focus
                    intro w9
                    go_simp
                    try with_reducible rfl
                  try simp only [aP]
                  apply later2 (fun (w5 : World) (u5 : Value) => Hid (KeepT wd w5 ∧ ScS w0 w5 b lb sb lo hi op most u5 (T1 ++ [N[i].e])))
                  intro hs8_11_12_17_22_23_28
                  apply later0
                  intro hs8_11_12_17_22_23
                  apply later0
                  intro hs8_11_12_17_22
                  apply later0
                  intro hs8_11_12_22
                  apply later0
                  intro hs8_11_12_17
                  apply later0
                  intro hs8_11_12
                  apply later0
                  intro hs8_11
                  apply later0
                  intro hs8
                  · obtain ⟨x0, l1, n0, x2⟩ := HCe.out
                    have heq := HEq.out
                    refine wpAny_ready (rs := [8]) (by kernel_rfl) (by simp) ?_
                    refine anyN_cons 8 rfl (by rfl) (fun K hK => ?_) AllReady.nil
                    go_simp
                    refine hK.out _ _ ?_
                    clear hK K
                    try simp only [aP]
                    refine tk (v := ?_) 9 rfl ?_ ?_
                    rotate_left
                    focus
                      intro w9
                      go_simp
                      try with_reducible rfl
                    try simp only [aP]
                    refine tk (v := ?_) 10 rfl ?_ ?_
                    rotate_left
                    focus
                      intro w9
                      go_simp
                      try with_reducible rfl
                    try simp only [aP]
                    exact hs8
                  · obtain ⟨x0, l1, n0, x2⟩ := HCe.out
                    have heq := HEq.out
                    refine wpAny_ready (rs := [11]) (by kernel_rfl) (by simp) ?_
                    refine anyN_cons 11 rfl (by rfl) (fun K hK => ?_) AllReady.nil
                    go_simp
                    refine hK.out _ _ ?_
                    clear hK K
                    try simp only [aP]
                    exact hs8_11
                  · obtain ⟨x0, l1, n0, x2⟩ := HCe.out
                    have heq := HEq.out
                    refine wpAny_ready (rs := [12]) (by kernel_rfl) (by simp) ?_
                    refine anyN_cons 12 rfl (by rfl) (fun K hK => ?_) AllReady.nil
                    go_simp
                    refine hK.out _ _ ?_
                    clear hK K
                    try simp only [aP]
                    refine tk (v := ?_) 13 rfl ?_ ?_
                    rotate_left
                    focus
                      intro w9
                      go_simp
                      try with_reducible rfl
                    try simp only [aP]
                    refine tk (v := ?_) 14 rfl ?_ ?_
                    rotate_left
                    focus
                      intro w9
                      go_simp
                      try with_reducible rfl
                    try simp only [aP]
                    refine tk (v := ?_) 15 rfl ?_ ?_
                    rotate_left
                    focus
                      intro w9
                      go_simp
                      try with_reducible rfl
                    try simp only [aP]
                    refine tk (v := ?_) 16 rfl ?_ ?_
                    rotate_left
                    focus
                      intro w9
                      go_simp
                      try with_reducible rfl
                    try simp only [aP]
                    refine tk (v := ?_) 18 rfl ?_ ?_
                    rotate_left
                    focus
                      intro w9
                      go_simp
                      try with_reducible rfl
                    try simp only [aP]
                    refine tk (v := ?_) 19 rfl ?_ ?_
                    rotate_left
                    focus
                      intro w9
                      go_simp
                      try with_reducible rfl
                    try simp only [aP]
                    refine tk (v := ?_) 20 rfl ?_ ?_
                    rotate_left
                    focus
                      intro w9
                      go_simp
                      try with_reducible rfl
                    try simp only [aP]
                    refine tk (v := ?_) 21 rfl ?_ ?_
                    rotate_left
                    focus
                      intro w9
                      go_simp
                      try with_reducible rfl
                    try simp only [aP]
                    exact hs8_11_12
                  · obtain ⟨x0, l1, n0, x2⟩ := HCe.out
                    have heq := HEq.out
                    refine wpAny_ready (rs := [17, 22]) (by kernel_rfl) (by simp) ?_
                    refine anyN_cons 17 rfl (by rfl) (fun K hK => ?_) (anyN_cons 22 rfl (by rfl) (fun K hK => ?_) AllReady.nil)
                    · go_simp
                      refine hK.out _ _ ?_
                      clear hK K
                      try simp only [aP]
                      exact hs8_11_12_17
                    · go_simp
                      refine hK.out _ _ ?_
                      clear hK K
                      try simp only [aP]
                      exact hs8_11_12_22
                  · obtain ⟨x0, l1, n0, x2⟩ := HCe.out
                    have heq := HEq.out
                    refine wpAny_ready (rs := [22]) (by kernel_rfl) (by simp) ?_
                    refine anyN_cons 22 rfl (by rfl) (fun K hK => ?_) AllReady.nil
                    go_simp
                    refine hK.out _ _ ?_
                    clear hK K
                    try simp only [aP]
                    exact hs8_11_12_17_22
                  · obtain ⟨x0, l1, n0, x2⟩ := HCe.out
                    have heq := HEq.out
                    refine wpAny_ready (rs := [17]) (by kernel_rfl) (by simp) ?_
                    refine anyN_cons 17 rfl (by rfl) (fun K hK => ?_) AllReady.nil
                    go_simp
                    refine hK.out _ _ ?_
                    clear hK K
                    try simp only [aP]
                    exact hs8_11_12_17_22
                  · obtain ⟨x0, l1, n0, x2⟩ := HCe.out
                    have heq := HEq.out
                    refine wpAny_ready (rs := [23]) (by kernel_rfl) (by simp) ?_
                    refine anyN_cons 23 rfl (by rfl) (fun K hK => ?_) AllReady.nil
                    go_simp
                    refine hK.out _ _ ?_
                    clear hK K
                    try simp only [aP]
                    refine tk (v := ?_) 24 rfl ?_ ?_
                    rotate_left
                    focus
                      intro w9
                      go_simp
                      try with_reducible rfl
                    try simp only [aP]
                    refine tk (v := ?_) 25 rfl ?_ ?_
                    rotate_left
                    focus
                      intro w9
                      go_simp
                      try with_reducible rfl
                    try simp only [aP]
                    refine tk (v := ?_) 26 rfl ?_ ?_
                    rotate_left
                    focus
                      intro w9
                      go_simp
                      try with_reducible rfl
                    try simp only [aP]
                    refine tk (v := ?_) 27 rfl ?_ ?_
                    rotate_left
                    focus
                      intro w9
                      go_simp
                      try with_reducible rfl
                    try simp only [aP]
                    exact hs8_11_12_17_22_23
                  · obtain ⟨x0, l1, n0, x2⟩ := HCe.out
                    have heq := HEq.out
                    refine wpAny_ready (rs := [28]) (by kernel_rfl) (by simp) ?_
                    refine anyN_cons 28 rfl (by rfl) (fun K hK => ?_) AllReady.nil
                    go_simp
                    refine CT.out.mono ?_
                    rintro e w5 ⟨rfl, hk5, u5, hq5⟩
                    dsimp only
                    have H5 : Hid (KeepT wd w5 ∧ ScS w0 w5 b lb sb lo hi op most u5 (T1 ++ [N[i].e])) := ⟨hk5, hq5⟩
                    clear hk5 hq5
                    refine hK.out _ _ ?_
                    clear hK K
                    try simp only [aP]
                    refine tk (v := ?_) 29 rfl ?_ ?_
                    rotate_left
                    focus
                      intro w9
                      go_simp
                      try with_reducible rfl
                    try simp only [aP]
                    refine tk (v := ?_) 30 rfl ?_ ?_
                    rotate_left
                    focus
                      intro w9
                      go_simp
                      try with_reducible rfl
                    try simp only [aP]
                    refine tk (v := ?_) 31 rfl ?_ ?_
                    rotate_left
                    focus
                      intro w9
                      go_simp
                      try with_reducible rfl
                    try simp only [aP]
                    exact hs8_11_12_17_22_23_28 w5 u5 H5
                  · intro w5 u5 H5
                    refine wpAny_done (by kernel_rfl) ?_ _
                    have HN2 : Hid (FlR w0 w w5 b lb sb lo hi op most N p q T (.returned (.bool false))) := HZ.out w5 u5 (HKd.out.trans H5.out.1) H5.out.2
                    clear H5
                    go_wp2_with fail
                    go_ret
                    exact HN2.out
      · have hcq2 : c < q := by have := HI.out.cq; omega
        have HCq : Hid (c < q ∧ c ≤ N.length) := ⟨hcq2, hc1⟩
        have hne : (binOp .neq 53 (ptr1 (posB hb N c)) (tov hb N q)).run Try.prog wr = .ok (.bool true) wr := by
          rcases Nat.lt_or_ge N.length q with h9 | h9
          · have e9 : q = N.length + 1 := by have := HA.out.2.1; omega
            rw [e9, tov_nil]
            exact nd_neq_nil wr _
          · rw [tov_at hb h9]
            exact nd_neq HSk.out.n hc1 h9 hcq
        clear hx hcq hcq2 hc1
        obtain ⟨kb9, n9, q1, q2, q3, q4⟩ := HKw.out.n.n.at (l := 0) HA.out.2.2.2.2 (HI.out.onl (by have := HCq.out; omega))
        have C3 : Hid (∀ w5, Below w.heap.size w w5 → Calls Try.prog 79 #[.agg #[ptr1 lb, ptr1 sb], ptr1 (posB hb N c), .int .i64 0] w5 fun e w' => e = .returned (ptrO (tgt 0 (N.drop c))) ∧ Below w5.heap.size w5 w') := fun w5 hb5 => behind_any lb hb sb (posB hb N c) kb9 n9 0 _ w5 (HKw.out.vw.on hb5) (cell_on q1 hb5) q2 q3 (q4.on hb5)
        clear q1 q2 q3 q4
        by_cases hst : st = []
        · have hcp : c = p := HI.out.p0 hst
          have HGd : Hid (goodP hi op (ensN N) c = true) := by show goodP hi op (ensN N) c = true; rw [hcp]; exact HA.out.2.2.2.1
          have heq : (binOp .eql 53 (ptr1 (posB hb N c)) (ptr1 (posB hb N p))).run Try.prog wr = .ok (.bool true) wr := by rw [hcp]; exact nd_eq wr _
          clear hst hcp
          obtain ⟨pc, hpc⟩ : ∃ pc, posB hb N c = pc := ⟨_, rfl⟩
          have HPC : Hid (posB hb N c = pc) := hpc
          rw [hpc] at hne heq C3
          rw [hpc]
          clear hpc
          go_wp2_with (first | (at_builtin; go_loud (refine wpList_app1 wr rfl (.tmp 39) (.tmp 41) 53 198 _ 1 8 rfl Try.underlying198 info_np rfl (by decide) w.heap.size _ _ _ (by rfl) HI.out.own [ptr1 pc] rfl (by intro u hu; simp only [List.mem_cons, List.not_mem_nil, or_false] at hu; rcases hu with rfl; rfl) _ rfl (by simp) (by have := HI.out.lenB; have := HLn.out; have := HCq.out; omega) (by have := HI.out.lenB; have := HLn.out; have := HCq.out; omega) HI.out.bel.size ?_); intro v6 w6 h6 h7 h8; refine Hid.out ?_))
          have HI6 : Hid (Fl1a w w6 hb N hi op 0 p q v6 (st ++ [c]) c) := HI.out.push HGd.out HCq.out h6 h7 HPC.out
          have C4 : Hid (Calls _ _ _ _ _) := C3.out w6 HI6.out.bel
          have hq6 := HQ.out.keep HI6.out.bel
          have y0 := Blk.cell (i := 0) hq6.x rfl
          have y1 := Blk.cell (i := 1) hq6.x rfl
          have HMs : Hid (∀ c', c < c' → c' ≤ N.length + 1 → msO hb N (tov hb N c') < msO hb N (ptr1 pc)) := fun c' h1 h2 => by rw [← HPC.out]; exact ms_tov HKw.out.n h1 h2
          clear h6 h7 h8 hq6
          unfold Hid
          go_wp2_with fail
          refine C4.out.mono ?_
          rintro e w7 ⟨rfl, hb7⟩
          obtain ⟨c', ec, hcc, hI7⟩ := HI6.out.next hb7 HCq.out HA.out.2.1 HA.out.2.2.1 HKw.out.n.n
          have HI7 : Hid (Fl1 w w7 hb N hi op 0 p q v6 (st ++ [c]) c') := hI7
          have HM7 : Hid (msO hb N (tov hb N c') < msO hb N (ptr1 pc)) := HMs.out c' hcc (by have := hI7.cq; have := HA.out.2.1; omega)
          rw [ec]
          clear hI7 hb7 C4 HI6 y0 y1 ec hcc
          go_wp2_with fail
          go_roundw
          case rel => exact ⟨st ++ [c], c', rfl, HI7⟩
          case measure => exact HM7.out
        · have hpc0 := HI.out.ps hst
          have heq : (binOp .eql 53 (ptr1 (posB hb N c)) (ptr1 (posB hb N p))).run Try.prog wr = .ok (.bool false) wr := nd_eql HSk.out.n HCq.out.2 (by have := HCq.out; omega) (by omega)
          obtain ⟨i, hi9⟩ : ∃ i, c = i + 1 := ⟨c - 1, by omega⟩
          have hiN : i < N.length := by have := HCq.out.2; omega
          have hnb : posB hb N c = N[i].nb := by rw [hi9]; exact posB_at hb hiN
          have hgd : goodP hi op (ensN N) c = !endB hi op N[i].e.k := by
            rw [hi9]
            unfold goodP
            dsimp only
            rw [ens_at hiN]
          have C2 : Hid (Calls _ _ _ _ _) := ends_any b lb sb N[i].nb N[i].vb N[i].lb N[i].e.h lo hi N[i].e.k op most N[i].e.v v wr HQw.out.x (HSk.out.n.ndm hiN)
          have HSt : Hid (st ≠ []) := hst
          rw [← hnb] at C2
          clear hnb hi9 hpc0 hst
          obtain ⟨pc, hpc⟩ : ∃ pc, posB hb N c = pc := ⟨_, rfl⟩
          have HPC : Hid (posB hb N c = pc) := hpc
          rw [hpc] at hne heq C3 C2
          rw [hpc]
          clear hpc
          cases he : endB hi op N[i].e.k with
          | true =>
            rw [he] at C2 hgd
            have HEx : Hid (st ≠ [] ∧ (c = N.length + 1 ∨ c = q ∨ goodP hi op (ensN N) c = false)) := ⟨HSt.out, .inr (.inr hgd)⟩
            obtain ⟨gg, cap, rfl, -, -⟩ := owns_form HI.out.own (by rcases st with _ | ⟨x9, s9⟩; exact absurd rfl HEx.out.1; simp)
            have hzb : (st.length : Int) < 5000000000000 := by have := HI.out.lenB; have := HI.out.cq; have := HA.out.2.1; have := HLn.out; omega
            clear he hgd hiN
            go_wp2_with fail
            refine C2.out.mono ?_
            rintro e w3 ⟨rfl, hb3⟩
            have HI3 : Hid (Fl1 w w3 hb N hi op 0 p q (.slice (some ⟨gg, 0, none⟩) st.length cap) st c) := HI.out.keep hb3
            clear hb3 C2 hne heq HSk HQw HI
            go_wp2_with fail
            have HSt2 : Hid (StP hi op N 0 p q st) := HI3.out.stp HK.out.r HEx.out HA.out.1 HA.out.2.1 HA.out.2.2.1
            obtain ⟨T0, hT0⟩ : ∃ T0, T0 = T := ⟨_, rfl⟩
            have HT00 : Hid (T0 = T) := hT0
            have HJ0 : Hid (Fl2 w0 w w3 b lb sb lo hi op most N hb p q gg cap st T0 st.length v T) := ⟨KeepT.of_below HI3.out.bel, HI3.out.own, HQ.out.keep HI3.out.bel, by rw [HT00.out, getD_no q (Nat.le_refl _)], by rw [getD_no q (Nat.le_refl _)]; exact HTl.out⟩
            have HSl : Hid (1 ≤ st.length ∧ st.length ≤ N.length + 1) := ⟨by have := HSt2.out.ne; omega, HSt2.out.len⟩
            have hqe : tov hb N q = tov hb N (st.getD st.length q) := by rw [getD_no q (Nat.le_refl _)]
            have HQe : Hid (tov hb N q = tov hb N (st.getD st.length q)) := hqe
            clear hT0 hqe
            go_loopw [3, 11] (fun sto si wq => ∃ (j : Nat) (u : Value) (T1 : List En), j ≤ st.length ∧ sto = tov hb N (st.getD j q) ∧ si = .int .i64 ((j : Int) - 1) ∧ Hid (Fl2 w0 w wq b lb sb lo hi op most N hb p q gg cap st T0 j u T1)) (fun _ si _ => (intOf si + 1).toNat)
            case atStart => exact ⟨st.length, v, T, Nat.le_refl _, HQe.out, by go_num, HJ0⟩
            case round =>
              obtain ⟨j, u, T1, hj, rfl, rfl, HJ⟩ := hrel
              clear HJ0
              cases j with
              | zero =>
                have HR : Hid (FlR w0 w wr b lb sb lo hi op most N p q T (.returned (.bool true))) := HT00.out ▸ HJ.out.fin HSt2.out
                rw [show ((0 : Nat) : Int) - 1 = -1 from rfl]
                go_wp2_with fail
                go_ret
                exact HR.out
              | succ j =>
                rw [show ((j + 1 : Nat) : Int) - 1 = (j : Int) by omega]
                have hjs : j < st.length := by omega
                have hcl : wr.cell? ⟨gg, j, none⟩ = some (ptr1 (posB hb N st[j])) := HJ.out.cell hjs
                have HS : Hid (p ≤ st[j] ∧ st[j] < st.getD (j + 1) q ∧ OnL 0 N st[j] ∧ goodP hi op (ensN N) st[j] = true ∧ st[j] ≤ N.length ∧ (st.getD (j + 1) q = N.length + 1 ∨ OnL 0 N (st.getD (j + 1) q)) ∧ st.getD (j + 1) q ≤ N.length + 1 ∧ st.getD j q = st[j]) := HSt2.out.ath hjs
                have hz1 : (j : Int) < st.length := by omega
                have hz2 : (0 : Int) ≤ (j : Int) := by omega
                have hz3 : (j : Int) < 5000000000000 := by have := HSl.out; have := HLn.out; omega
                have hkw := HK.out.on HJ.out.sc.bel
                have HKr : Hid (Skp wr lb hb sb hl cb N) := hkw
                have HTd : Hid (tov hb N st[j] = ptr1 (posB hb N st[j]) ∧ tov hb N st[j] = tov hb N (st.getD j q)) := ⟨tov_at hb HS.out.2.2.2.2.1, by rw [HS.out.2.2.2.2.2.2.2]⟩
                have HSt9 : Hid (∃ z, z = st[j]) := ⟨_, rfl⟩
                clear hkw
                have HOne : Hid (PL hi op (ensN N) st[j] (st.getD (j + 1) q) = [st[j]]) := HSt2.out.one rfl hjs
                obtain ⟨s, hs⟩ : ∃ s, st[j] = s := ⟨_, rfl⟩
                rw [hs] at HS HTd HOne hcl
                have HRun : Hid (∀ r, runP lo most (ensN N) [s] T1 = r → (r.2 = false → ∀ w' u', KeepT wr w' → ScS w0 w' b lb sb lo hi op most u' r.1 → FlR w0 w w' b lb sb lo hi op most N p q T (.returned (.bool false))) ∧ (r.2 = true → ∀ w' u', KeepT wr w' → ScS w0 w' b lb sb lo hi op most u' r.1 → Fl2 w0 w w' b lb sb lo hi op most N hb p q gg cap st T0 j u' r.1)) := fun r hr => by
                  have h9 := HJ.out.run1 HSt2.out hjs
                  rw [hs] at h9
                  rw [HOne.out, hr] at h9
                  exact ⟨fun h1 w' u' h2 h3 => HT00.out ▸ h9.1 h1 w' u' h2 h3, h9.2⟩
                have z0 := Blk.cell (i := 0) HJ.out.sc.x rfl
                have z2 := Blk.cell (i := 2) HJ.out.sc.x rfl
                have zl := Blk.cell (i := 1) HKr.out.l rfl
                have HSj : Hid (st[j] = s) := hs
                clear hs
                cases s with
                | zero =>
                  have heq : (binOp .eql 53 (ptr1 (posB hb N 0)) (ptr1 hb)).run Try.prog wr = .ok (.bool true) wr := nd_eq wr hb
                  have HZ : Hid (∀ n, FlR w0 w (wr.drewN n) b lb sb lo hi op most N p q T (.returned (.bool false))) := fun n => (HRun.out (T1, false) rfl).1 rfl _ u (KeepT.of_below (below_drewN (Below.refl _ _) n)) (HJ.out.sc.keep (below_drewN (Below.refl _ _) n))
                  have hheq := nd_eq
                  go_upto_region 10 with fail
                  have heqn : ∀ n, (binOp .eql 53 (ptr1 (posB hb N 0)) (ptr1 hb)).run Try.prog (wr.drewN n) = .ok (.bool true) (wr.drewN n) := fun n => nd_eq _ hb
                  go_quiet (fail)
                  go_wp2_with fail
                  go_ret
                  exact HZ.out _
                | succ i =>
                  have hiN : i < N.length := HS.out.2.2.2.2.1
                  have hnm := HKr.out.n.ndm hiN
                  have hpb : posB hb N (i + 1) = N[i].nb := posB_at hb hiN
                  have HPB : Hid (posB hb N (i + 1) = N[i].nb) := hpb
                  have hrc : runP lo most (ensN N) [i + 1] T1 = if ltB N[i].e.k lo then (T1, false) else if ((T1.length + 1 : Nat) : Int) < most then (T1 ++ [N[i].e], true) else (T1 ++ [N[i].e], false) := by
                    rw [runP_cons, ens_at hiN]
                    rfl
                  have hn0 := Blk.cell (i := 0) hnm.n rfl
                  rw [← hpb] at hn0
                  clear hpb
                  cases hlt : ltB N[i].e.k lo with
                  | true =>
                    rw [hlt, if_pos rfl] at hrc
                    have HZ : Hid (∀ n, FlR w0 w (wr.drewN n) b lb sb lo hi op most N p q T (.returned (.bool false))) := fun n => (HRun.out _ hrc).1 rfl _ u (KeepT.of_below (below_drewN (Below.refl _ _) n)) (HJ.out.sc.keep (below_drewN (Below.refl _ _) n))
                    unfold ltB at hlt
                    clear hrc hnm
                    go_upto_region 10 with fail
                    have heqn : ∀ n, (binOp .eql 53 (ptr1 (posB hb N (i + 1))) (ptr1 hb)).run Try.prog (wr.drewN n) = .ok (.bool false) (wr.drewN n) := fun n => nd_eql (q := 0) (HKr.out.n.on (below_drewN (Below.refl _ _) n)) hiN (Nat.zero_le _) (by omega)
                    go_quiet (fail)
                    go_wp2_with fail
                    go_ret
                    exact HZ.out _
                  | false =>
                    rw [hlt, if_neg (by decide)] at hrc
                    have hdr : Below wr.heap.size wr wr.drew := (Below.refl _ _).drew
                    have HEq : Hid ((binOp .eql 53 (ptr1 (posB hb N (i + 1))) (ptr1 hb)).run Try.prog wr.drew = .ok (.bool false) wr.drew) := nd_eql (q := 0) (HKr.out.n.on hdr) hiN (Nat.zero_le _) (by omega)
                    have HCe : Hid (wr.drew.cell? ⟨b, 0, none⟩ = some (ptr1 lb) ∧ wr.drew.cell? ⟨lb, 1, none⟩ = some (ptr1 hb) ∧ wr.drew.cell? ⟨posB hb N (i + 1), 0, none⟩ = some (.string N[i].e.k) ∧ wr.drew.cell? ⟨b, 2, none⟩ = some (.string lo)) := ⟨z0, zl, hn0, z2⟩
                    have CT : Hid (Calls Try.prog 95 #[ptr1 b, ptr1 (posB hb N (i + 1))] wr.drew fun e w' => e = .returned (.bool (decide (((T1.length + 1 : Nat) : Int) < most))) ∧ KeepT wr.drew w' ∧ ∃ v', ScS w0 w' b lb sb lo hi op most v' (T1 ++ [N[i].e])) := by
                      show Calls _ _ _ _ _
                      rw [HPB.out]
                      exact tell_any b lb sb N[i].nb N[i].vb N[i].lb N[i].e.h lo hi N[i].e.k op most N[i].e.v u T1 w0 wr.drew (HJ.out.sc.keep hdr) (hnm.on hdr) (by have := HLn.out; have := HJ.out.len; have := HS.out.2.1; omega)
                    have HKd : Hid (KeepT wr wr.drew) := KeepT.of_below hdr
                    unfold ltB at hlt
                    by_cases hm : ((T1.length + 1 : Nat) : Int) < most
                    · rw [decide_eq_true hm] at CT
                      rw [if_pos hm] at hrc
                      have HZ : Hid (∀ w' u', KeepT wr w' → ScS w0 w' b lb sb lo hi op most u' (T1 ++ [N[i].e]) → Fl2 w0 w w' b lb sb lo hi op most N hb p q gg cap st T0 j u' (T1 ++ [N[i].e])) := (HRun.out _ hrc).2 rfl
                      clear hm hrc hnm hdr hn0 z0 z2 zl
                      go_upto_region 10 with fail
                      clear hcl
                      refine wp_region_any (by kernel_rfl) ?_
                      change wpAny _ _ _ _ _ _ _ (World.drew _)
                      generalize wr.drew = wd at *
                      refine tk (v := ?_) 0 rfl ?_ ?_
                      rotate_left
                      focus
                        intro w9
                        go_simp
                        try with_reducible rfl
                      try simp only [aP]
                      refine tk (v := ?_) 1 rfl ?_ ?_
                      rotate_left
                      focus
                        intro w9
                        go_simp
                        try with_reducible rfl
                      try simp only [aP]
                      refine tk (v := ?_) 2 rfl ?_ ?_
                      rotate_left
                      focus
                        intro w9
                        go_simp
                        try with_reducible rfl
                      try simp only [aP]
                      refine tk (v := ?_) 3 rfl ?_ ?_
                      rotate_left
                      focus
                        intro w9
                        go_simp
                        try with_reducible rfl
                      try simp only [aP]
                      refine tk (v := ?_) 4 rfl ?_ ?_
                      rotate_left
                      focus
                        intro w9
                        go_simp
                        try with_reducible rfl
                      try simp only [aP]
                      refine tk (v := ?_) 5 rfl ?_ ?_
                      rotate_left
                      focus
                        intro w9
                        go_simp
                        try with_reducible rfl
                      try simp only [aP]
                      refine tk (v := ?_) 6 rfl ?_ ?_
                      rotate_left
                      focus
                        intro w9
                        go_simp
                        try with_reducible rfl
                      try simp only [aP]
                      refine tk (v := ?_) 7 rfl ?_ ?_
                      rotate_left
                      focus
                        intro w9
                        go_simp
                        try with_reducible rfl
                      try simp only [aP]
                      apply later2 (fun (w5 : World) (u5 : Value) => Hid (KeepT wd w5 ∧ ScS w0 w5 b lb sb lo hi op most u5 (T1 ++ [N[i].e])))
                      intro hs8_11_12_17_22_23_28
                      apply later0
                      intro hs8_11_12_17_22_23
                      apply later0
                      intro hs8_11_12_17_22
                      apply later0
                      intro hs8_11_12_22
                      apply later0
                      intro hs8_11_12_17
                      apply later0
                      intro hs8_11_12
                      apply later0
                      intro hs8_11
                      apply later0
                      intro hs8
                      · obtain ⟨x0, l1, n0, x2⟩ := HCe.out
                        have heq := HEq.out
                        refine wpAny_ready (rs := [8]) (by kernel_rfl) (by simp) ?_
                        refine anyN_cons 8 rfl (by rfl) (fun K hK => ?_) AllReady.nil
                        go_simp
                        refine hK.out _ _ ?_
                        clear hK K
                        try simp only [aP]
                        refine tk (v := ?_) 9 rfl ?_ ?_
                        rotate_left
                        focus
                          intro w9
                          go_simp
                          try with_reducible rfl
                        try simp only [aP]
                        refine tk (v := ?_) 10 rfl ?_ ?_
                        rotate_left
                        focus
                          intro w9
                          go_simp
                          try with_reducible rfl
                        try simp only [aP]
                        exact hs8
                      · obtain ⟨x0, l1, n0, x2⟩ := HCe.out
                        have heq := HEq.out
                        refine wpAny_ready (rs := [11]) (by kernel_rfl) (by simp) ?_
                        refine anyN_cons 11 rfl (by rfl) (fun K hK => ?_) AllReady.nil
                        go_simp
                        refine hK.out _ _ ?_
                        clear hK K
                        try simp only [aP]
                        exact hs8_11
                      · obtain ⟨x0, l1, n0, x2⟩ := HCe.out
                        have heq := HEq.out
                        refine wpAny_ready (rs := [12]) (by kernel_rfl) (by simp) ?_
                        refine anyN_cons 12 rfl (by rfl) (fun K hK => ?_) AllReady.nil
                        go_simp
                        refine hK.out _ _ ?_
                        clear hK K
                        try simp only [aP]
                        refine tk (v := ?_) 13 rfl ?_ ?_
                        rotate_left
                        focus
                          intro w9
                          go_simp
                          try with_reducible rfl
                        try simp only [aP]
                        refine tk (v := ?_) 14 rfl ?_ ?_
                        rotate_left
                        focus
                          intro w9
                          go_simp
                          try with_reducible rfl
                        try simp only [aP]
                        refine tk (v := ?_) 15 rfl ?_ ?_
                        rotate_left
                        focus
                          intro w9
                          go_simp
                          try with_reducible rfl
                        try simp only [aP]
                        refine tk (v := ?_) 16 rfl ?_ ?_
                        rotate_left
                        focus
                          intro w9
                          go_simp
                          try with_reducible rfl
                        try simp only [aP]
                        refine tk (v := ?_) 18 rfl ?_ ?_
                        rotate_left
                        focus
                          intro w9
                          go_simp
                          try with_reducible rfl
                        try simp only [aP]
                        refine tk (v := ?_) 19 rfl ?_ ?_
                        rotate_left
                        focus
                          intro w9
                          go_simp
                          try with_reducible rfl
                        try simp only [aP]
                        refine tk (v := ?_) 20 rfl ?_ ?_
                        rotate_left
                        focus
                          intro w9
                          go_simp
                          try with_reducible rfl
                        try simp only [aP]
                        refine tk (v := ?_) 21 rfl ?_ ?_
                        rotate_left
                        focus
                          intro w9
                          go_simp
                          try with_reducible rfl
                        try simp only [aP]
                        exact hs8_11_12
                      · obtain ⟨x0, l1, n0, x2⟩ := HCe.out
                        have heq := HEq.out
                        refine wpAny_ready (rs := [17, 22]) (by kernel_rfl) (by simp) ?_
                        refine anyN_cons 17 rfl (by rfl) (fun K hK => ?_) (anyN_cons 22 rfl (by rfl) (fun K hK => ?_) AllReady.nil)
                        · go_simp
                          refine hK.out _ _ ?_
                          clear hK K
                          try simp only [aP]
                          exact hs8_11_12_17
                        · go_simp
                          refine hK.out _ _ ?_
                          clear hK K
                          try simp only [aP]
                          exact hs8_11_12_22
                      · obtain ⟨x0, l1, n0, x2⟩ := HCe.out
                        have heq := HEq.out
                        refine wpAny_ready (rs := [22]) (by kernel_rfl) (by simp) ?_
                        refine anyN_cons 22 rfl (by rfl) (fun K hK => ?_) AllReady.nil
                        go_simp
                        refine hK.out _ _ ?_
                        clear hK K
                        try simp only [aP]
                        exact hs8_11_12_17_22
                      · obtain ⟨x0, l1, n0, x2⟩ := HCe.out
                        have heq := HEq.out
                        refine wpAny_ready (rs := [17]) (by kernel_rfl) (by simp) ?_
                        refine anyN_cons 17 rfl (by rfl) (fun K hK => ?_) AllReady.nil
                        go_simp
                        refine hK.out _ _ ?_
                        clear hK K
                        try simp only [aP]
                        exact hs8_11_12_17_22
                      · obtain ⟨x0, l1, n0, x2⟩ := HCe.out
                        have heq := HEq.out
                        refine wpAny_ready (rs := [23]) (by kernel_rfl) (by simp) ?_
                        refine anyN_cons 23 rfl (by rfl) (fun K hK => ?_) AllReady.nil
                        go_simp
                        refine hK.out _ _ ?_
                        clear hK K
                        try simp only [aP]
                        refine tk (v := ?_) 24 rfl ?_ ?_
                        rotate_left
                        focus
                          intro w9
                          go_simp
                          try with_reducible rfl
                        try simp only [aP]
                        refine tk (v := ?_) 25 rfl ?_ ?_
                        rotate_left
                        focus
                          intro w9
                          go_simp
                          try with_reducible rfl
                        try simp only [aP]
                        refine tk (v := ?_) 26 rfl ?_ ?_
                        rotate_left
                        focus
                          intro w9
                          go_simp
                          try with_reducible rfl
                        try simp only [aP]
                        refine tk (v := ?_) 27 rfl ?_ ?_
                        rotate_left
                        focus
                          intro w9
                          go_simp
                          try with_reducible rfl
                        try simp only [aP]
                        exact hs8_11_12_17_22_23
                      · obtain ⟨x0, l1, n0, x2⟩ := HCe.out
                        have heq := HEq.out
                        refine wpAny_ready (rs := [28]) (by kernel_rfl) (by simp) ?_
                        refine anyN_cons 28 rfl (by rfl) (fun K hK => ?_) AllReady.nil
                        go_simp
                        refine CT.out.mono ?_
                        rintro e w5 ⟨rfl, hk5, u5, hq5⟩
                        dsimp only
                        have H5 : Hid (KeepT wd w5 ∧ ScS w0 w5 b lb sb lo hi op most u5 (T1 ++ [N[i].e])) := ⟨hk5, hq5⟩
                        clear hk5 hq5
                        refine hK.out _ _ ?_
                        clear hK K
                        try simp only [aP]
                        refine tk (v := ?_) 29 rfl ?_ ?_
                        rotate_left
                        focus
                          intro w9
                          go_simp
                          try with_reducible rfl
                        try simp only [aP]
                        refine tk (v := ?_) 30 rfl ?_ ?_
                        rotate_left
                        focus
                          intro w9
                          go_simp
                          try with_reducible rfl
                        try simp only [aP]
                        refine tk (v := ?_) 31 rfl ?_ ?_
                        rotate_left
                        focus
                          intro w9
                          go_simp
                          try with_reducible rfl
                        try simp only [aP]
                        exact hs8_11_12_17_22_23_28 w5 u5 H5
                      · intro w5 u5 H5
                        refine wpAny_done (by kernel_rfl) ?_ _
                        have HN2 : Hid (Fl2 w0 w w5 b lb sb lo hi op most N hb p q gg cap st T0 j u5 (T1 ++ [N[i].e])) := HZ.out w5 u5 (HKd.out.trans H5.out.1) H5.out.2
                        clear H5
                        go_wp2_with fail
                        go_roundw
                        case rel => exact ⟨j, u5, _, by omega, by rw [← HTd.out.2, HTd.out.1], by go_num, HN2⟩
                        case measure => simp [intOf]
                    · rw [decide_eq_false hm] at CT
                      rw [if_neg hm] at hrc
                      have HZ : Hid (∀ w' u', KeepT wr w' → ScS w0 w' b lb sb lo hi op most u' (T1 ++ [N[i].e]) → FlR w0 w w' b lb sb lo hi op most N p q T (.returned (.bool false))) := (HRun.out _ hrc).1 rfl
                      clear hm hrc hnm hdr hn0 z0 z2 zl
                      go_upto_region 10 with fail
                      clear hcl
                      refine wp_region_any (by kernel_rfl) ?_
                      change wpAny _ _ _ _ _ _ _ (World.drew _)
                      generalize wr.drew = wd at *
                      refine tk (v := ?_) 0 rfl ?_ ?_
                      rotate_left
                      focus
                        intro w9
                        go_simp
                        try with_reducible rfl
                      try simp only [aP]
                      refine tk (v := ?_) 1 rfl ?_ ?_
                      rotate_left
                      focus
                        intro w9
                        go_simp
                        try with_reducible rfl
                      try simp only [aP]
                      refine tk (v := ?_) 2 rfl ?_ ?_
                      rotate_left
                      focus
                        intro w9
                        go_simp
                        try with_reducible rfl
                      try simp only [aP]
                      refine tk (v := ?_) 3 rfl ?_ ?_
                      rotate_left
                      focus
                        intro w9
                        go_simp
                        try with_reducible rfl
                      try simp only [aP]
                      refine tk (v := ?_) 4 rfl ?_ ?_
                      rotate_left
                      focus
                        intro w9
                        go_simp
                        try with_reducible rfl
                      try simp only [aP]
                      refine tk (v := ?_) 5 rfl ?_ ?_
                      rotate_left
                      focus
                        intro w9
                        go_simp
                        try with_reducible rfl
                      try simp only [aP]
                      refine tk (v := ?_) 6 rfl ?_ ?_
                      rotate_left
                      focus
                        intro w9
                        go_simp
                        try with_reducible rfl
                      try simp only [aP]
                      refine tk (v := ?_) 7 rfl ?_ ?_
                      rotate_left
                      focus
                        intro w9
                        go_simp
                        try with_reducible rfl
                      try simp only [aP]
                      apply later2 (fun (w5 : World) (u5 : Value) => Hid (KeepT wd w5 ∧ ScS w0 w5 b lb sb lo hi op most u5 (T1 ++ [N[i].e])))
                      intro hs8_11_12_17_22_23_28
                      apply later0
                      intro hs8_11_12_17_22_23
                      apply later0
                      intro hs8_11_12_17_22
                      apply later0
                      intro hs8_11_12_22
                      apply later0
                      intro hs8_11_12_17
                      apply later0
                      intro hs8_11_12
                      apply later0
                      intro hs8_11
                      apply later0
                      intro hs8
                      · obtain ⟨x0, l1, n0, x2⟩ := HCe.out
                        have heq := HEq.out
                        refine wpAny_ready (rs := [8]) (by kernel_rfl) (by simp) ?_
                        refine anyN_cons 8 rfl (by rfl) (fun K hK => ?_) AllReady.nil
                        go_simp
                        refine hK.out _ _ ?_
                        clear hK K
                        try simp only [aP]
                        refine tk (v := ?_) 9 rfl ?_ ?_
                        rotate_left
                        focus
                          intro w9
                          go_simp
                          try with_reducible rfl
                        try simp only [aP]
                        refine tk (v := ?_) 10 rfl ?_ ?_
                        rotate_left
                        focus
                          intro w9
                          go_simp
                          try with_reducible rfl
                        try simp only [aP]
                        exact hs8
                      · obtain ⟨x0, l1, n0, x2⟩ := HCe.out
                        have heq := HEq.out
                        refine wpAny_ready (rs := [11]) (by kernel_rfl) (by simp) ?_
                        refine anyN_cons 11 rfl (by rfl) (fun K hK => ?_) AllReady.nil
                        go_simp
                        refine hK.out _ _ ?_
                        clear hK K
                        try simp only [aP]
                        exact hs8_11
                      · obtain ⟨x0, l1, n0, x2⟩ := HCe.out
                        have heq := HEq.out
                        refine wpAny_ready (rs := [12]) (by kernel_rfl) (by simp) ?_
                        refine anyN_cons 12 rfl (by rfl) (fun K hK => ?_) AllReady.nil
                        go_simp
                        refine hK.out _ _ ?_
                        clear hK K
                        try simp only [aP]
                        refine tk (v := ?_) 13 rfl ?_ ?_
                        rotate_left
                        focus
                          intro w9
                          go_simp
                          try with_reducible rfl
                        try simp only [aP]
                        refine tk (v := ?_) 14 rfl ?_ ?_
                        rotate_left
                        focus
                          intro w9
                          go_simp
                          try with_reducible rfl
                        try simp only [aP]
                        refine tk (v := ?_) 15 rfl ?_ ?_
                        rotate_left
                        focus
                          intro w9
                          go_simp
                          try with_reducible rfl
                        try simp only [aP]
                        refine tk (v := ?_) 16 rfl ?_ ?_
                        rotate_left
                        focus
                          intro w9
                          go_simp
                          try with_reducible rfl
                        try simp only [aP]
                        refine tk (v := ?_) 18 rfl ?_ ?_
                        rotate_left
                        focus
                          intro w9
                          go_simp
                          try with_reducible rfl
                        try simp only [aP]
                        refine tk (v := ?_) 19 rfl ?_ ?_
                        rotate_left
                        focus
                          intro w9
                          go_simp
                          try with_reducible rfl
                        try simp only [aP]
                        refine tk (v := ?_) 20 rfl ?_ ?_
                        rotate_left
                        focus
                          intro w9
                          go_simp
                          try with_reducible rfl
                        try simp only [aP]
                        refine tk (v := ?_) 21 rfl ?_ ?_
                        rotate_left
                        focus
                          intro w9
                          go_simp
                          try with_reducible rfl
                        try simp only [aP]
                        exact hs8_11_12
                      · obtain ⟨x0, l1, n0, x2⟩ := HCe.out
                        have heq := HEq.out
                        refine wpAny_ready (rs := [17, 22]) (by kernel_rfl) (by simp) ?_
                        refine anyN_cons 17 rfl (by rfl) (fun K hK => ?_) (anyN_cons 22 rfl (by rfl) (fun K hK => ?_) AllReady.nil)
                        · go_simp
                          refine hK.out _ _ ?_
                          clear hK K
                          try simp only [aP]
                          exact hs8_11_12_17
                        · go_simp
                          refine hK.out _ _ ?_
                          clear hK K
                          try simp only [aP]
                          exact hs8_11_12_22
                      · obtain ⟨x0, l1, n0, x2⟩ := HCe.out
                        have heq := HEq.out
                        refine wpAny_ready (rs := [22]) (by kernel_rfl) (by simp) ?_
                        refine anyN_cons 22 rfl (by rfl) (fun K hK => ?_) AllReady.nil
                        go_simp
                        refine hK.out _ _ ?_
                        clear hK K
                        try simp only [aP]
                        exact hs8_11_12_17_22
                      · obtain ⟨x0, l1, n0, x2⟩ := HCe.out
                        have heq := HEq.out
                        refine wpAny_ready (rs := [17]) (by kernel_rfl) (by simp) ?_
                        refine anyN_cons 17 rfl (by rfl) (fun K hK => ?_) AllReady.nil
                        go_simp
                        refine hK.out _ _ ?_
                        clear hK K
                        try simp only [aP]
                        exact hs8_11_12_17_22
                      · obtain ⟨x0, l1, n0, x2⟩ := HCe.out
                        have heq := HEq.out
                        refine wpAny_ready (rs := [23]) (by kernel_rfl) (by simp) ?_
                        refine anyN_cons 23 rfl (by rfl) (fun K hK => ?_) AllReady.nil
                        go_simp
                        refine hK.out _ _ ?_
                        clear hK K
                        try simp only [aP]
                        refine tk (v := ?_) 24 rfl ?_ ?_
                        rotate_left
                        focus
                          intro w9
                          go_simp
                          try with_reducible rfl
                        try simp only [aP]
                        refine tk (v := ?_) 25 rfl ?_ ?_
                        rotate_left
                        focus
                          intro w9
                          go_simp
                          try with_reducible rfl
                        try simp only [aP]
                        refine tk (v := ?_) 26 rfl ?_ ?_
                        rotate_left
                        focus
                          intro w9
                          go_simp
                          try with_reducible rfl
                        try simp only [aP]
                        refine tk (v := ?_) 27 rfl ?_ ?_
                        rotate_left
                        focus
                          intro w9
                          go_simp
                          try with_reducible rfl
                        try simp only [aP]
                        exact hs8_11_12_17_22_23
                      · obtain ⟨x0, l1, n0, x2⟩ := HCe.out
                        have heq := HEq.out
                        refine wpAny_ready (rs := [28]) (by kernel_rfl) (by simp) ?_
                        refine anyN_cons 28 rfl (by rfl) (fun K hK => ?_) AllReady.nil
                        go_simp
                        refine CT.out.mono ?_
                        rintro e w5 ⟨rfl, hk5, u5, hq5⟩
                        dsimp only
                        have H5 : Hid (KeepT wd w5 ∧ ScS w0 w5 b lb sb lo hi op most u5 (T1 ++ [N[i].e])) := ⟨hk5, hq5⟩
                        clear hk5 hq5
                        refine hK.out _ _ ?_
                        clear hK K
                        try simp only [aP]
                        refine tk (v := ?_) 29 rfl ?_ ?_
                        rotate_left
                        focus
                          intro w9
                          go_simp
                          try with_reducible rfl
                        try simp only [aP]
                        refine tk (v := ?_) 30 rfl ?_ ?_
                        rotate_left
                        focus
                          intro w9
                          go_simp
                          try with_reducible rfl
                        try simp only [aP]
                        refine tk (v := ?_) 31 rfl ?_ ?_
                        rotate_left
                        focus
                          intro w9
                          go_simp
                          try with_reducible rfl
                        try simp only [aP]
                        exact hs8_11_12_17_22_23_28 w5 u5 H5
                      · intro w5 u5 H5
                        refine wpAny_done (by kernel_rfl) ?_ _
                        have HN2 : Hid (FlR w0 w w5 b lb sb lo hi op most N p q T (.returned (.bool false))) := HZ.out w5 u5 (HKd.out.trans H5.out.1) H5.out.2
                        clear H5
                        go_wp2_with fail
                        go_ret
                        exact HN2.out
          | false =>
            rw [he] at C2 hgd
            have HGd : Hid (goodP hi op (ensN N) c = true) := hgd
            clear he hgd hiN
            go_wp2_with fail
            refine C2.out.mono ?_
            rintro e w3 ⟨rfl, hb3⟩
            have HI3 : Hid (Fl1 w w3 hb N hi op 0 p q u9 st c) := HI.out.keep hb3
            have HB3 : Hid (Below wr.heap.size wr w3) := hb3
            clear hb3 C2 hne heq HI
            go_wp2_with (first | (at_builtin; go_loud (refine wpList_app1 w3 rfl (.tmp 39) (.tmp 41) 53 198 _ 1 8 rfl Try.underlying198 info_np rfl (by decide) w.heap.size _ _ _ (by rfl) HI3.out.own [ptr1 pc] rfl (by intro u hu; simp only [List.mem_cons, List.not_mem_nil, or_false] at hu; rcases hu with rfl; rfl) _ rfl (by simp) (by have := HI3.out.lenB; have := HLn.out; have := HCq.out; omega) (by have := HI3.out.lenB; have := HLn.out; have := HCq.out; omega) HI3.out.bel.size ?_); intro v6 w6 h6 h7 h8; refine Hid.out ?_))
            have HI6 : Hid (Fl1a w w6 hb N hi op 0 p q v6 (st ++ [c]) c) := HI3.out.push HGd.out HCq.out h6 h7 HPC.out
            have C4 : Hid (Calls _ _ _ _ _) := C3.out w6 HI6.out.bel
            have hq6 := HQ.out.keep HI6.out.bel
            have y0 := Blk.cell (i := 0) hq6.x rfl
            have y1 := Blk.cell (i := 1) hq6.x rfl
            have HMs : Hid (∀ c', c < c' → c' ≤ N.length + 1 → msO hb N (tov hb N c') < msO hb N (ptr1 pc)) := fun c' h1 h2 => by rw [← HPC.out]; exact ms_tov HKw.out.n h1 h2
            clear h6 h7 h8 hq6
            unfold Hid
            go_wp2_with fail
            refine C4.out.mono ?_
            rintro e w7 ⟨rfl, hb7⟩
            obtain ⟨c', ec, hcc, hI7⟩ := HI6.out.next hb7 HCq.out HA.out.2.1 HA.out.2.2.1 HKw.out.n.n
            have HI7 : Hid (Fl1 w w7 hb N hi op 0 p q v6 (st ++ [c]) c') := hI7
            have HM7 : Hid (msO hb N (tov hb N c') < msO hb N (ptr1 pc)) := HMs.out c' hcc (by have := hI7.cq; have := HA.out.2.1; omega)
            rw [ec]
            clear hI7 hb7 C4 HI6 y0 y1 ec hcc
            go_wp2_with fail
            go_roundw
            case rel => exact ⟨st ++ [c], c', rfl, HI7⟩
            case measure => exact HM7.out

end Go.Proofs.Ytojfohpnfciajaa

namespace Go.Proofs.Ytojfohpnfciajaa
open Go.RowKit
set_option maxRecDepth 100000

set_option maxHeartbeats 4000000 in
theorem fall_succ (b lb hb sb hl cb p q : Nat) (L l : Nat) (N : List Nd) (lo hi : ByteArray) (op : Bool) (most : Int) (v : Value) (T : List En) (w0 w : World) (hk : Skp w0 lb hb sb hl cb N) (hN : N.length < 4000000000000) (hq : ScS w0 w b lb sb lo hi op most v T) (ho : OnL L N p) (hpq : p < q) (hqN : q ≤ N.length + 1) (hoq : q = N.length + 1 ∨ OnL L N q) (hg : goodP hi op (ensN N) p = true) (hT : T.length + q ≤ N.length + 2) (hl16 : L < 16) (ih : ∀ (p q : Nat) (v : Value) (T : List En) (w : World), ScS w0 w b lb sb lo hi op most v T → OnL l N p → p < q → q ≤ N.length + 1 → (q = N.length + 1 ∨ OnL l N q) → goodP hi op (ensN N) p = true → T.length + q ≤ N.length + 2 → Calls Try.prog 72 #[ptr1 b, .int .i64 (l : Nat), ptr1 (posB hb N p), tov hb N q] w fun e w' => FlR w0 w w' b lb sb lo hi op most N p q T e) (hLl : L = l + 1) :
    Calls Try.prog 72 #[ptr1 b, .int .i64 (L : Nat), ptr1 (posB hb N p), tov hb N q] w fun e w' => FlR w0 w w' b lb sb lo hi op most N p q T e := by
  have HK : Hid (Skp w0 lb hb sb hl cb N) := hk
  have HQ : Hid (ScS w0 w b lb sb lo hi op most v T) := hq
  have HA : Hid (p < q ∧ q ≤ N.length + 1 ∧ (q = N.length + 1 ∨ OnL L N q) ∧ goodP hi op (ensN N) p = true ∧ L < 16) := ⟨hpq, hqN, hoq, hg, hl16⟩
  have HKw : Hid (Skp w lb hb sb hl cb N) := hk.on hq.bel
  have HLn : Hid (N.length < 4000000000000) := hN
  have HTl : Hid (T.length + q ≤ N.length + 2) := hT
  have HI0 : Hid (Fl1 w w hb N hi op L p q (.slice none 0 0) [] p) := Fl1.start w hb N hi op ho hpq
  have HTP : Hid (ptr1 (posB hb N p) = tov hb N p) := (tov_at hb ho.le).symm
  have IH : Hid (∀ (p q : Nat) (v : Value) (T : List En) (w : World), ScS w0 w b lb sb lo hi op most v T → OnL l N p → p < q → q ≤ N.length + 1 → (q = N.length + 1 ∨ OnL l N q) → goodP hi op (ensN N) p = true → T.length + q ≤ N.length + 2 → Calls Try.prog 72 #[ptr1 b, .int .i64 (l : Nat), ptr1 (posB hb N p), tov hb N q] w fun e w' => FlR w0 w w' b lb sb lo hi op most N p q T e) := ih
  have HL : Hid (l ≤ L) := by show l ≤ L; omega
  have HLz : Hid (((L : Int) == 0) = false ∧ 0 < (L : Int) ∧ ((l : Nat) : Int) = (L : Int) - 1 ∧ (L : Int) < 16) := ⟨by rw [beq_eq_false_iff_ne]; omega, by omega, by omega, by omega⟩
  clear hk hq hN ho hpq hqN hoq hg hT hl16 ih hLl
  go_enter Try.func72, Try.ntmps72
  go_wp2_with fail
  go_loopw [9, 10] (fun sv sx wq => ∃ (st : List Nat) (c : Nat), sx = tov hb N c ∧ Hid (Fl1 w wq hb N hi op L p q sv st c)) (fun _ sx _ => msO hb N sx)
  case atStart => exact ⟨[], p, HTP.out, HI0⟩
  case round =>
    obtain ⟨st, c, rfl, HI⟩ := hrel
    clear HI0
    have hskw := HK.out.on (HQ.out.bel.trans (HI.out.bel.mono HQ.out.bel.size))
    have HSk : Hid (Skp wr lb hb sb hl cb N) := hskw
    have HQw : Hid (ScS w0 wr b lb sb lo hi op most v T) := HQ.out.keep HI.out.bel
    clear hskw
    rcases Nat.lt_or_ge N.length c with hc1 | hc1
    · have ec : c = N.length + 1 := by have := HI.out.cq; have := HA.out.2.1; omega
      have hx : tov hb N c = .pointer none := by rw [ec]; exact tov_nil hb N
      have hex : st ≠ [] ∧ (c = N.length + 1 ∨ c = q ∨ goodP hi op (ensN N) c = false) := ⟨fun e => by have := HI.out.p0 e; have := HA.out.1; have := HA.out.2.1; omega, .inl ec⟩
      have HEx : Hid (st ≠ [] ∧ (c = N.length + 1 ∨ c = q ∨ goodP hi op (ensN N) c = false)) := hex
      rw [hx]
      clear hx ec hex hc1
      obtain ⟨gg, cap, rfl, -, -⟩ := owns_form HI.out.own (by rcases st with _ | ⟨x9, s9⟩; exact absurd rfl HEx.out.1; simp)
      have hzb : (st.length : Int) < 5000000000000 := by have := HI.out.lenB; have := HI.out.cq; have := HA.out.2.1; have := HLn.out; omega
      go_wp2_with fail
      have HSt2 : Hid (StP hi op N L p q st) := HI.out.stp HK.out.r HEx.out HA.out.1 HA.out.2.1 HA.out.2.2.1
      obtain ⟨T0, hT0⟩ : ∃ T0, T0 = T := ⟨_, rfl⟩
      have HT00 : Hid (T0 = T) := hT0
      have HJ0 : Hid (Fl2 w0 w wr b lb sb lo hi op most N hb p q gg cap st T0 st.length v T) := ⟨KeepT.of_below HI.out.bel, HI.out.own, HQ.out.keep HI.out.bel, by rw [HT00.out, getD_no q (Nat.le_refl _)], by rw [getD_no q (Nat.le_refl _)]; exact HTl.out⟩
      have HSl : Hid (1 ≤ st.length ∧ st.length ≤ N.length + 1) := ⟨by have := HSt2.out.ne; omega, HSt2.out.len⟩
      have hqe : tov hb N q = tov hb N (st.getD st.length q) := by rw [getD_no q (Nat.le_refl _)]
      have HQe : Hid (tov hb N q = tov hb N (st.getD st.length q)) := hqe
      clear hT0 hqe
      go_loopw [3, 11] (fun sto si wq => ∃ (j : Nat) (u : Value) (T1 : List En), j ≤ st.length ∧ sto = tov hb N (st.getD j q) ∧ si = .int .i64 ((j : Int) - 1) ∧ Hid (Fl2 w0 w wq b lb sb lo hi op most N hb p q gg cap st T0 j u T1)) (fun _ si _ => (intOf si + 1).toNat)
      case atStart => exact ⟨st.length, v, T, Nat.le_refl _, HQe.out, by go_num, HJ0⟩
      case round =>
        obtain ⟨j, u, T1, hj, rfl, rfl, HJ⟩ := hrel
        clear HJ0
        cases j with
        | zero =>
          have HR : Hid (FlR w0 w wr b lb sb lo hi op most N p q T (.returned (.bool true))) := HT00.out ▸ HJ.out.fin HSt2.out
          rw [show ((0 : Nat) : Int) - 1 = -1 from rfl]
          go_wp2_with fail
          go_ret
          exact HR.out
        | succ j =>
          rw [show ((j + 1 : Nat) : Int) - 1 = (j : Int) by omega]
          have hjs : j < st.length := by omega
          have hcl : wr.cell? ⟨gg, j, none⟩ = some (ptr1 (posB hb N st[j])) := HJ.out.cell hjs
          have HS : Hid (p ≤ st[j] ∧ st[j] < st.getD (j + 1) q ∧ OnL L N st[j] ∧ goodP hi op (ensN N) st[j] = true ∧ st[j] ≤ N.length ∧ (st.getD (j + 1) q = N.length + 1 ∨ OnL L N (st.getD (j + 1) q)) ∧ st.getD (j + 1) q ≤ N.length + 1 ∧ st.getD j q = st[j]) := HSt2.out.ath hjs
          have hz1 : (j : Int) < st.length := by omega
          have hz2 : (0 : Int) ≤ (j : Int) := by omega
          have hz3 : (j : Int) < 5000000000000 := by have := HSl.out; have := HLn.out; omega
          have hkw := HK.out.on HJ.out.sc.bel
          have HKr : Hid (Skp wr lb hb sb hl cb N) := hkw
          have HTd : Hid (tov hb N st[j] = ptr1 (posB hb N st[j]) ∧ tov hb N st[j] = tov hb N (st.getD j q)) := ⟨tov_at hb HS.out.2.2.2.2.1, by rw [HS.out.2.2.2.2.2.2.2]⟩
          have HSt9 : Hid (∃ z, z = st[j]) := ⟨_, rfl⟩
          clear hkw
          obtain ⟨r, hr⟩ : ∃ r, runP lo most (ensN N) (PL hi op (ensN N) st[j] (st.getD (j + 1) q)) T1 = r := ⟨_, rfl⟩
          have hrun := HJ.out.run1 HSt2.out hjs
          rw [hr] at hrun
          have C9 : Hid (∀ n, Calls Try.prog 72 #[ptr1 b, .int .i64 ((L : Int) - 1), ptr1 (posB hb N st[j]), tov hb N (st.getD (j + 1) q)] (wr.drewN n) fun e w' => e = .returned (.bool r.2) ∧ KeepT (wr.drewN n) w' ∧ ∃ v', ScS w0 w' b lb sb lo hi op most v' r.1) := fun n => by
            have h9 := IH.out st[j] (st.getD (j + 1) q) u T1 (wr.drewN n) (HJ.out.sc.keep (below_drewN (Below.refl _ _) n)) (HS.out.2.2.1.down HL.out) HS.out.2.1 HS.out.2.2.2.2.2.2.1 (HS.out.2.2.2.2.2.1.imp id (fun h => h.down HL.out)) HS.out.2.2.2.1 HJ.out.len
            unfold FlR at h9
            rw [hr, HLz.out.2.2.1] at h9
            exact h9
          have HRun : Hid ((r.2 = false → ∀ w' u', KeepT wr w' → ScS w0 w' b lb sb lo hi op most u' r.1 → FlR w0 w w' b lb sb lo hi op most N p q T0 (.returned (.bool false))) ∧ (r.2 = true → ∀ w' u', KeepT wr w' → ScS w0 w' b lb sb lo hi op most u' r.1 → Fl2 w0 w w' b lb sb lo hi op most N hb p q gg cap st T0 j u' r.1)) := hrun
          obtain ⟨s, hs⟩ : ∃ s, st[j] = s := ⟨_, rfl⟩
          rw [hs] at HS HTd hcl C9
          have HSj : Hid (st[j] = s) := hs
          clear hr hrun hs
          have e1 := HLz.out.1
          have e2 := HLz.out.2.1
          have e4 := HLz.out.2.2.2
          go_upto_region 10 with fail
          go_quiet (fail)
          clear hcl
          have C10 : Hid (Calls _ _ _ _ _) := C9.out nq
          have HKd : Hid (KeepT wr (wr.drewN nq)) := KeepT.of_below (below_drewN (Below.refl _ _) nq)
          have e5 : 0 < L := by omega
          clear e1 hz3 hz1 hzb hz2
          go_wp2_with fail
          refine C10.out.mono ?_
          rintro e w5 ⟨rfl, hk5, u5, hq5⟩
          cases hr2 : r.2 with
          | false =>
            have HZ : Hid (FlR w0 w w5 b lb sb lo hi op most N p q T (.returned (.bool false))) := HT00.out ▸ HRun.out.1 hr2 w5 u5 (HKd.out.trans hk5) hq5
            clear hr2 hk5 hq5
            go_wp2_with fail
            go_ret
            exact HZ.out
          | true =>
            have HZ : Hid (Fl2 w0 w w5 b lb sb lo hi op most N hb p q gg cap st T0 j u5 r.1) := HRun.out.2 hr2 w5 u5 (HKd.out.trans hk5) hq5
            have hz3 : (j : Int) < 5000000000000 := by have := HSl.out; have := HLn.out; omega
            clear hr2 hk5 hq5
            go_wp2_with fail
            go_roundw
            case rel => exact ⟨j, u5, _, by omega, by rw [← HTd.out.2, HTd.out.1], by go_num, HZ⟩
            case measure => simp [intOf]
    · have hx : tov hb N c = ptr1 (posB hb N c) := tov_at hb hc1
      rw [hx]
      by_cases hcq : c = q
      · have htq : tov hb N q = ptr1 (posB hb N c) := by rw [← hcq]; exact hx
        have hex : st ≠ [] ∧ (c = N.length + 1 ∨ c = q ∨ goodP hi op (ensN N) c = false) := ⟨fun e => by have := HI.out.p0 e; have := HA.out.1; omega, .inr (.inl hcq)⟩
        have HEx : Hid (st ≠ [] ∧ (c = N.length + 1 ∨ c = q ∨ goodP hi op (ensN N) c = false)) := hex
        have hne := nd_neq_same wr (posB hb N c)
        have HTq : Hid (tov hb N q = ptr1 (posB hb N c)) := htq
        rw [htq]
        clear hx htq hex hcq hc1
        obtain ⟨gg, cap, rfl, -, -⟩ := owns_form HI.out.own (by rcases st with _ | ⟨x9, s9⟩; exact absurd rfl HEx.out.1; simp)
        have hzb : (st.length : Int) < 5000000000000 := by have := HI.out.lenB; have := HI.out.cq; have := HA.out.2.1; have := HLn.out; omega
        go_wp2_with fail
        clear hne
        rw [← HTq.out]
        have HSt2 : Hid (StP hi op N L p q st) := HI.out.stp HK.out.r HEx.out HA.out.1 HA.out.2.1 HA.out.2.2.1
        obtain ⟨T0, hT0⟩ : ∃ T0, T0 = T := ⟨_, rfl⟩
        have HT00 : Hid (T0 = T) := hT0
        have HJ0 : Hid (Fl2 w0 w wr b lb sb lo hi op most N hb p q gg cap st T0 st.length v T) := ⟨KeepT.of_below HI.out.bel, HI.out.own, HQ.out.keep HI.out.bel, by rw [HT00.out, getD_no q (Nat.le_refl _)], by rw [getD_no q (Nat.le_refl _)]; exact HTl.out⟩
        have HSl : Hid (1 ≤ st.length ∧ st.length ≤ N.length + 1) := ⟨by have := HSt2.out.ne; omega, HSt2.out.len⟩
        have hqe : tov hb N q = tov hb N (st.getD st.length q) := by rw [getD_no q (Nat.le_refl _)]
        have HQe : Hid (tov hb N q = tov hb N (st.getD st.length q)) := hqe
        clear hT0 hqe
        go_loopw [3, 11] (fun sto si wq => ∃ (j : Nat) (u : Value) (T1 : List En), j ≤ st.length ∧ sto = tov hb N (st.getD j q) ∧ si = .int .i64 ((j : Int) - 1) ∧ Hid (Fl2 w0 w wq b lb sb lo hi op most N hb p q gg cap st T0 j u T1)) (fun _ si _ => (intOf si + 1).toNat)
        case atStart => exact ⟨st.length, v, T, Nat.le_refl _, HQe.out, by go_num, HJ0⟩
        case round =>
          obtain ⟨j, u, T1, hj, rfl, rfl, HJ⟩ := hrel
          clear HJ0
          cases j with
          | zero =>
            have HR : Hid (FlR w0 w wr b lb sb lo hi op most N p q T (.returned (.bool true))) := HT00.out ▸ HJ.out.fin HSt2.out
            rw [show ((0 : Nat) : Int) - 1 = -1 from rfl]
            go_wp2_with fail
            go_ret
            exact HR.out
          | succ j =>
            rw [show ((j + 1 : Nat) : Int) - 1 = (j : Int) by omega]
            have hjs : j < st.length := by omega
            have hcl : wr.cell? ⟨gg, j, none⟩ = some (ptr1 (posB hb N st[j])) := HJ.out.cell hjs
            have HS : Hid (p ≤ st[j] ∧ st[j] < st.getD (j + 1) q ∧ OnL L N st[j] ∧ goodP hi op (ensN N) st[j] = true ∧ st[j] ≤ N.length ∧ (st.getD (j + 1) q = N.length + 1 ∨ OnL L N (st.getD (j + 1) q)) ∧ st.getD (j + 1) q ≤ N.length + 1 ∧ st.getD j q = st[j]) := HSt2.out.ath hjs
            have hz1 : (j : Int) < st.length := by omega
            have hz2 : (0 : Int) ≤ (j : Int) := by omega
            have hz3 : (j : Int) < 5000000000000 := by have := HSl.out; have := HLn.out; omega
            have hkw := HK.out.on HJ.out.sc.bel
            have HKr : Hid (Skp wr lb hb sb hl cb N) := hkw
            have HTd : Hid (tov hb N st[j] = ptr1 (posB hb N st[j]) ∧ tov hb N st[j] = tov hb N (st.getD j q)) := ⟨tov_at hb HS.out.2.2.2.2.1, by rw [HS.out.2.2.2.2.2.2.2]⟩
            have HSt9 : Hid (∃ z, z = st[j]) := ⟨_, rfl⟩
            clear hkw
            obtain ⟨r, hr⟩ : ∃ r, runP lo most (ensN N) (PL hi op (ensN N) st[j] (st.getD (j + 1) q)) T1 = r := ⟨_, rfl⟩
            have hrun := HJ.out.run1 HSt2.out hjs
            rw [hr] at hrun
            have C9 : Hid (∀ n, Calls Try.prog 72 #[ptr1 b, .int .i64 ((L : Int) - 1), ptr1 (posB hb N st[j]), tov hb N (st.getD (j + 1) q)] (wr.drewN n) fun e w' => e = .returned (.bool r.2) ∧ KeepT (wr.drewN n) w' ∧ ∃ v', ScS w0 w' b lb sb lo hi op most v' r.1) := fun n => by
              have h9 := IH.out st[j] (st.getD (j + 1) q) u T1 (wr.drewN n) (HJ.out.sc.keep (below_drewN (Below.refl _ _) n)) (HS.out.2.2.1.down HL.out) HS.out.2.1 HS.out.2.2.2.2.2.2.1 (HS.out.2.2.2.2.2.1.imp id (fun h => h.down HL.out)) HS.out.2.2.2.1 HJ.out.len
              unfold FlR at h9
              rw [hr, HLz.out.2.2.1] at h9
              exact h9
            have HRun : Hid ((r.2 = false → ∀ w' u', KeepT wr w' → ScS w0 w' b lb sb lo hi op most u' r.1 → FlR w0 w w' b lb sb lo hi op most N p q T0 (.returned (.bool false))) ∧ (r.2 = true → ∀ w' u', KeepT wr w' → ScS w0 w' b lb sb lo hi op most u' r.1 → Fl2 w0 w w' b lb sb lo hi op most N hb p q gg cap st T0 j u' r.1)) := hrun
            obtain ⟨s, hs⟩ : ∃ s, st[j] = s := ⟨_, rfl⟩
            rw [hs] at HS HTd hcl C9
            have HSj : Hid (st[j] = s) := hs
            clear hr hrun hs
            have e1 := HLz.out.1
            have e2 := HLz.out.2.1
            have e4 := HLz.out.2.2.2
            go_upto_region 10 with fail
            go_quiet (fail)
            clear hcl
            have C10 : Hid (Calls _ _ _ _ _) := C9.out nq
            have HKd : Hid (KeepT wr (wr.drewN nq)) := KeepT.of_below (below_drewN (Below.refl _ _) nq)
            have e5 : 0 < L := by omega
            clear e1 hz3 hz1 hzb hz2
            go_wp2_with fail
            refine C10.out.mono ?_
            rintro e w5 ⟨rfl, hk5, u5, hq5⟩
            cases hr2 : r.2 with
            | false =>
              have HZ : Hid (FlR w0 w w5 b lb sb lo hi op most N p q T (.returned (.bool false))) := HT00.out ▸ HRun.out.1 hr2 w5 u5 (HKd.out.trans hk5) hq5
              clear hr2 hk5 hq5
              go_wp2_with fail
              go_ret
              exact HZ.out
            | true =>
              have HZ : Hid (Fl2 w0 w w5 b lb sb lo hi op most N hb p q gg cap st T0 j u5 r.1) := HRun.out.2 hr2 w5 u5 (HKd.out.trans hk5) hq5
              have hz3 : (j : Int) < 5000000000000 := by have := HSl.out; have := HLn.out; omega
              clear hr2 hk5 hq5
              go_wp2_with fail
              go_roundw
              case rel => exact ⟨j, u5, _, by omega, by rw [← HTd.out.2, HTd.out.1], by go_num, HZ⟩
              case measure => simp [intOf]
      · have hcq2 : c < q := by have := HI.out.cq; omega
        have HCq : Hid (c < q ∧ c ≤ N.length) := ⟨hcq2, hc1⟩
        have hne : (binOp .neq 53 (ptr1 (posB hb N c)) (tov hb N q)).run Try.prog wr = .ok (.bool true) wr := by
          rcases Nat.lt_or_ge N.length q with h9 | h9
          · have e9 : q = N.length + 1 := by have := HA.out.2.1; omega
            rw [e9, tov_nil]
            exact nd_neq_nil wr _
          · rw [tov_at hb h9]
            exact nd_neq HSk.out.n hc1 h9 hcq
        clear hx hcq hcq2 hc1
        obtain ⟨kb9, n9, q1, q2, q3, q4⟩ := HKw.out.n.n.at (l := L) HA.out.2.2.2.2 (HI.out.onl (by have := HCq.out; omega))
        have C3 : Hid (∀ w5, Below w.heap.size w w5 → Calls Try.prog 79 #[.agg #[ptr1 lb, ptr1 sb], ptr1 (posB hb N c), .int .i64 (L : Nat)] w5 fun e w' => e = .returned (ptrO (tgt L (N.drop c))) ∧ Below w5.heap.size w5 w') := fun w5 hb5 => behind_any lb hb sb (posB hb N c) kb9 n9 L _ w5 (HKw.out.vw.on hb5) (cell_on q1 hb5) q2 q3 (q4.on hb5)
        clear q1 q2 q3 q4
        by_cases hst : st = []
        · have hcp : c = p := HI.out.p0 hst
          have HGd : Hid (goodP hi op (ensN N) c = true) := by show goodP hi op (ensN N) c = true; rw [hcp]; exact HA.out.2.2.2.1
          have heq : (binOp .eql 53 (ptr1 (posB hb N c)) (ptr1 (posB hb N p))).run Try.prog wr = .ok (.bool true) wr := by rw [hcp]; exact nd_eq wr _
          clear hst hcp
          obtain ⟨pc, hpc⟩ : ∃ pc, posB hb N c = pc := ⟨_, rfl⟩
          have HPC : Hid (posB hb N c = pc) := hpc
          rw [hpc] at hne heq C3
          rw [hpc]
          clear hpc
          go_wp2_with (first | (at_builtin; go_loud (refine wpList_app1 wr rfl (.tmp 39) (.tmp 41) 53 198 _ 1 8 rfl Try.underlying198 info_np rfl (by decide) w.heap.size _ _ _ (by rfl) HI.out.own [ptr1 pc] rfl (by intro u hu; simp only [List.mem_cons, List.not_mem_nil, or_false] at hu; rcases hu with rfl; rfl) _ rfl (by simp) (by have := HI.out.lenB; have := HLn.out; have := HCq.out; omega) (by have := HI.out.lenB; have := HLn.out; have := HCq.out; omega) HI.out.bel.size ?_); intro v6 w6 h6 h7 h8; refine Hid.out ?_))
          have HI6 : Hid (Fl1a w w6 hb N hi op L p q v6 (st ++ [c]) c) := HI.out.push HGd.out HCq.out h6 h7 HPC.out
          have C4 : Hid (Calls _ _ _ _ _) := C3.out w6 HI6.out.bel
          have hq6 := HQ.out.keep HI6.out.bel
          have y0 := Blk.cell (i := 0) hq6.x rfl
          have y1 := Blk.cell (i := 1) hq6.x rfl
          have HMs : Hid (∀ c', c < c' → c' ≤ N.length + 1 → msO hb N (tov hb N c') < msO hb N (ptr1 pc)) := fun c' h1 h2 => by rw [← HPC.out]; exact ms_tov HKw.out.n h1 h2
          clear h6 h7 h8 hq6
          unfold Hid
          go_wp2_with fail
          refine C4.out.mono ?_
          rintro e w7 ⟨rfl, hb7⟩
          obtain ⟨c', ec, hcc, hI7⟩ := HI6.out.next hb7 HCq.out HA.out.2.1 HA.out.2.2.1 HKw.out.n.n
          have HI7 : Hid (Fl1 w w7 hb N hi op L p q v6 (st ++ [c]) c') := hI7
          have HM7 : Hid (msO hb N (tov hb N c') < msO hb N (ptr1 pc)) := HMs.out c' hcc (by have := hI7.cq; have := HA.out.2.1; omega)
          rw [ec]
          clear hI7 hb7 C4 HI6 y0 y1 ec hcc
          go_wp2_with fail
          go_roundw
          case rel => exact ⟨st ++ [c], c', rfl, HI7⟩
          case measure => exact HM7.out
        · have hpc0 := HI.out.ps hst
          have heq : (binOp .eql 53 (ptr1 (posB hb N c)) (ptr1 (posB hb N p))).run Try.prog wr = .ok (.bool false) wr := nd_eql HSk.out.n HCq.out.2 (by have := HCq.out; omega) (by omega)
          obtain ⟨i, hi9⟩ : ∃ i, c = i + 1 := ⟨c - 1, by omega⟩
          have hiN : i < N.length := by have := HCq.out.2; omega
          have hnb : posB hb N c = N[i].nb := by rw [hi9]; exact posB_at hb hiN
          have hgd : goodP hi op (ensN N) c = !endB hi op N[i].e.k := by
            rw [hi9]
            unfold goodP
            dsimp only
            rw [ens_at hiN]
          have C2 : Hid (Calls _ _ _ _ _) := ends_any b lb sb N[i].nb N[i].vb N[i].lb N[i].e.h lo hi N[i].e.k op most N[i].e.v v wr HQw.out.x (HSk.out.n.ndm hiN)
          have HSt : Hid (st ≠ []) := hst
          rw [← hnb] at C2
          clear hnb hi9 hpc0 hst
          obtain ⟨pc, hpc⟩ : ∃ pc, posB hb N c = pc := ⟨_, rfl⟩
          have HPC : Hid (posB hb N c = pc) := hpc
          rw [hpc] at hne heq C3 C2
          rw [hpc]
          clear hpc
          cases he : endB hi op N[i].e.k with
          | true =>
            rw [he] at C2 hgd
            have HEx : Hid (st ≠ [] ∧ (c = N.length + 1 ∨ c = q ∨ goodP hi op (ensN N) c = false)) := ⟨HSt.out, .inr (.inr hgd)⟩
            obtain ⟨gg, cap, rfl, -, -⟩ := owns_form HI.out.own (by rcases st with _ | ⟨x9, s9⟩; exact absurd rfl HEx.out.1; simp)
            have hzb : (st.length : Int) < 5000000000000 := by have := HI.out.lenB; have := HI.out.cq; have := HA.out.2.1; have := HLn.out; omega
            clear he hgd hiN
            go_wp2_with fail
            refine C2.out.mono ?_
            rintro e w3 ⟨rfl, hb3⟩
            have HI3 : Hid (Fl1 w w3 hb N hi op L p q (.slice (some ⟨gg, 0, none⟩) st.length cap) st c) := HI.out.keep hb3
            clear hb3 C2 hne heq HSk HQw HI
            go_wp2_with fail
            have HSt2 : Hid (StP hi op N L p q st) := HI3.out.stp HK.out.r HEx.out HA.out.1 HA.out.2.1 HA.out.2.2.1
            obtain ⟨T0, hT0⟩ : ∃ T0, T0 = T := ⟨_, rfl⟩
            have HT00 : Hid (T0 = T) := hT0
            have HJ0 : Hid (Fl2 w0 w w3 b lb sb lo hi op most N hb p q gg cap st T0 st.length v T) := ⟨KeepT.of_below HI3.out.bel, HI3.out.own, HQ.out.keep HI3.out.bel, by rw [HT00.out, getD_no q (Nat.le_refl _)], by rw [getD_no q (Nat.le_refl _)]; exact HTl.out⟩
            have HSl : Hid (1 ≤ st.length ∧ st.length ≤ N.length + 1) := ⟨by have := HSt2.out.ne; omega, HSt2.out.len⟩
            have hqe : tov hb N q = tov hb N (st.getD st.length q) := by rw [getD_no q (Nat.le_refl _)]
            have HQe : Hid (tov hb N q = tov hb N (st.getD st.length q)) := hqe
            clear hT0 hqe
            go_loopw [3, 11] (fun sto si wq => ∃ (j : Nat) (u : Value) (T1 : List En), j ≤ st.length ∧ sto = tov hb N (st.getD j q) ∧ si = .int .i64 ((j : Int) - 1) ∧ Hid (Fl2 w0 w wq b lb sb lo hi op most N hb p q gg cap st T0 j u T1)) (fun _ si _ => (intOf si + 1).toNat)
            case atStart => exact ⟨st.length, v, T, Nat.le_refl _, HQe.out, by go_num, HJ0⟩
            case round =>
              obtain ⟨j, u, T1, hj, rfl, rfl, HJ⟩ := hrel
              clear HJ0
              cases j with
              | zero =>
                have HR : Hid (FlR w0 w wr b lb sb lo hi op most N p q T (.returned (.bool true))) := HT00.out ▸ HJ.out.fin HSt2.out
                rw [show ((0 : Nat) : Int) - 1 = -1 from rfl]
                go_wp2_with fail
                go_ret
                exact HR.out
              | succ j =>
                rw [show ((j + 1 : Nat) : Int) - 1 = (j : Int) by omega]
                have hjs : j < st.length := by omega
                have hcl : wr.cell? ⟨gg, j, none⟩ = some (ptr1 (posB hb N st[j])) := HJ.out.cell hjs
                have HS : Hid (p ≤ st[j] ∧ st[j] < st.getD (j + 1) q ∧ OnL L N st[j] ∧ goodP hi op (ensN N) st[j] = true ∧ st[j] ≤ N.length ∧ (st.getD (j + 1) q = N.length + 1 ∨ OnL L N (st.getD (j + 1) q)) ∧ st.getD (j + 1) q ≤ N.length + 1 ∧ st.getD j q = st[j]) := HSt2.out.ath hjs
                have hz1 : (j : Int) < st.length := by omega
                have hz2 : (0 : Int) ≤ (j : Int) := by omega
                have hz3 : (j : Int) < 5000000000000 := by have := HSl.out; have := HLn.out; omega
                have hkw := HK.out.on HJ.out.sc.bel
                have HKr : Hid (Skp wr lb hb sb hl cb N) := hkw
                have HTd : Hid (tov hb N st[j] = ptr1 (posB hb N st[j]) ∧ tov hb N st[j] = tov hb N (st.getD j q)) := ⟨tov_at hb HS.out.2.2.2.2.1, by rw [HS.out.2.2.2.2.2.2.2]⟩
                have HSt9 : Hid (∃ z, z = st[j]) := ⟨_, rfl⟩
                clear hkw
                obtain ⟨r, hr⟩ : ∃ r, runP lo most (ensN N) (PL hi op (ensN N) st[j] (st.getD (j + 1) q)) T1 = r := ⟨_, rfl⟩
                have hrun := HJ.out.run1 HSt2.out hjs
                rw [hr] at hrun
                have C9 : Hid (∀ n, Calls Try.prog 72 #[ptr1 b, .int .i64 ((L : Int) - 1), ptr1 (posB hb N st[j]), tov hb N (st.getD (j + 1) q)] (wr.drewN n) fun e w' => e = .returned (.bool r.2) ∧ KeepT (wr.drewN n) w' ∧ ∃ v', ScS w0 w' b lb sb lo hi op most v' r.1) := fun n => by
                  have h9 := IH.out st[j] (st.getD (j + 1) q) u T1 (wr.drewN n) (HJ.out.sc.keep (below_drewN (Below.refl _ _) n)) (HS.out.2.2.1.down HL.out) HS.out.2.1 HS.out.2.2.2.2.2.2.1 (HS.out.2.2.2.2.2.1.imp id (fun h => h.down HL.out)) HS.out.2.2.2.1 HJ.out.len
                  unfold FlR at h9
                  rw [hr, HLz.out.2.2.1] at h9
                  exact h9
                have HRun : Hid ((r.2 = false → ∀ w' u', KeepT wr w' → ScS w0 w' b lb sb lo hi op most u' r.1 → FlR w0 w w' b lb sb lo hi op most N p q T0 (.returned (.bool false))) ∧ (r.2 = true → ∀ w' u', KeepT wr w' → ScS w0 w' b lb sb lo hi op most u' r.1 → Fl2 w0 w w' b lb sb lo hi op most N hb p q gg cap st T0 j u' r.1)) := hrun
                obtain ⟨s, hs⟩ : ∃ s, st[j] = s := ⟨_, rfl⟩
                rw [hs] at HS HTd hcl C9
                have HSj : Hid (st[j] = s) := hs
                clear hr hrun hs
                have e1 := HLz.out.1
                have e2 := HLz.out.2.1
                have e4 := HLz.out.2.2.2
                go_upto_region 10 with fail
                go_quiet (fail)
                clear hcl
                have C10 : Hid (Calls _ _ _ _ _) := C9.out nq
                have HKd : Hid (KeepT wr (wr.drewN nq)) := KeepT.of_below (below_drewN (Below.refl _ _) nq)
                have e5 : 0 < L := by omega
                clear e1 hz3 hz1 hzb hz2
                go_wp2_with fail
                refine C10.out.mono ?_
                rintro e w5 ⟨rfl, hk5, u5, hq5⟩
                cases hr2 : r.2 with
                | false =>
                  have HZ : Hid (FlR w0 w w5 b lb sb lo hi op most N p q T (.returned (.bool false))) := HT00.out ▸ HRun.out.1 hr2 w5 u5 (HKd.out.trans hk5) hq5
                  clear hr2 hk5 hq5
                  go_wp2_with fail
                  go_ret
                  exact HZ.out
                | true =>
                  have HZ : Hid (Fl2 w0 w w5 b lb sb lo hi op most N hb p q gg cap st T0 j u5 r.1) := HRun.out.2 hr2 w5 u5 (HKd.out.trans hk5) hq5
                  have hz3 : (j : Int) < 5000000000000 := by have := HSl.out; have := HLn.out; omega
                  clear hr2 hk5 hq5
                  go_wp2_with fail
                  go_roundw
                  case rel => exact ⟨j, u5, _, by omega, by rw [← HTd.out.2, HTd.out.1], by go_num, HZ⟩
                  case measure => simp [intOf]
          | false =>
            rw [he] at C2 hgd
            have HGd : Hid (goodP hi op (ensN N) c = true) := hgd
            clear he hgd hiN
            go_wp2_with fail
            refine C2.out.mono ?_
            rintro e w3 ⟨rfl, hb3⟩
            have HI3 : Hid (Fl1 w w3 hb N hi op L p q u9 st c) := HI.out.keep hb3
            have HB3 : Hid (Below wr.heap.size wr w3) := hb3
            clear hb3 C2 hne heq HI
            go_wp2_with (first | (at_builtin; go_loud (refine wpList_app1 w3 rfl (.tmp 39) (.tmp 41) 53 198 _ 1 8 rfl Try.underlying198 info_np rfl (by decide) w.heap.size _ _ _ (by rfl) HI3.out.own [ptr1 pc] rfl (by intro u hu; simp only [List.mem_cons, List.not_mem_nil, or_false] at hu; rcases hu with rfl; rfl) _ rfl (by simp) (by have := HI3.out.lenB; have := HLn.out; have := HCq.out; omega) (by have := HI3.out.lenB; have := HLn.out; have := HCq.out; omega) HI3.out.bel.size ?_); intro v6 w6 h6 h7 h8; refine Hid.out ?_))
            have HI6 : Hid (Fl1a w w6 hb N hi op L p q v6 (st ++ [c]) c) := HI3.out.push HGd.out HCq.out h6 h7 HPC.out
            have C4 : Hid (Calls _ _ _ _ _) := C3.out w6 HI6.out.bel
            have hq6 := HQ.out.keep HI6.out.bel
            have y0 := Blk.cell (i := 0) hq6.x rfl
            have y1 := Blk.cell (i := 1) hq6.x rfl
            have HMs : Hid (∀ c', c < c' → c' ≤ N.length + 1 → msO hb N (tov hb N c') < msO hb N (ptr1 pc)) := fun c' h1 h2 => by rw [← HPC.out]; exact ms_tov HKw.out.n h1 h2
            clear h6 h7 h8 hq6
            unfold Hid
            go_wp2_with fail
            refine C4.out.mono ?_
            rintro e w7 ⟨rfl, hb7⟩
            obtain ⟨c', ec, hcc, hI7⟩ := HI6.out.next hb7 HCq.out HA.out.2.1 HA.out.2.2.1 HKw.out.n.n
            have HI7 : Hid (Fl1 w w7 hb N hi op L p q v6 (st ++ [c]) c') := hI7
            have HM7 : Hid (msO hb N (tov hb N c') < msO hb N (ptr1 pc)) := HMs.out c' hcc (by have := hI7.cq; have := HA.out.2.1; omega)
            rw [ec]
            clear hI7 hb7 C4 HI6 y0 y1 ec hcc
            go_wp2_with fail
            go_roundw
            case rel => exact ⟨st ++ [c], c', rfl, HI7⟩
            case measure => exact HM7.out

end Go.Proofs.Ytojfohpnfciajaa
