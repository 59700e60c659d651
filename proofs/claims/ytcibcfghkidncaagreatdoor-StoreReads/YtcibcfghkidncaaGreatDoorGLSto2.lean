/- The law StoreReads. -/
import Derived.Test.YtcibcfghkidncaaGreatDoorGWLw23
namespace Go.Proofs.YtcibcfghkidncaaGreatDoor
open Go.RowKit Go.Lib
set_option maxRecDepth 100000

structure LkR where
 sl : Int
 tx : Int
 st : Int
def RdK (w : World) (B : Nat) (p : Option Addr) (L : List LkR) : Prop := ∀ i (hi : i < L.length), ∃ b o, p = some ⟨b, o, none⟩ ∧ b < B ∧ w.cell? ⟨b, o + i * 3, none⟩ = some (.int .i64 L[i].sl) ∧ w.cell? ⟨b, o + i * 3 + 1, none⟩ = some (.int .i64 L[i].tx) ∧ w.cell? ⟨b, o + i * 3 + 2, none⟩ = some (.int .u64 L[i].st)
structure RL (w wq : World) (most : Nat) (M : List Rs) (n : Nat) (v : Value) (bm : Nat) : Prop where
 ps : PS none1 wq (w.heap.size + 1) (w.heap.size + 1) most M (65537 * n) n v
 m : Box wq bm #[.int .i64 (most : Nat), v] 29
 bel : Below w.heap.size w wq
theorem RL.on {w wq w' : World} {most : Nat} {M : List Rs} {n : Nat} {v : Value} {bm : Nat} (h : RL w wq most M n v bm) (hb : Below wq.heap.size wq w') : RL w w' most M n v bm := ⟨h.ps.on hb, h.m.on hb, h.bel.trans (hb.mono h.bel.size)⟩

set_option maxHeartbeats 8000000 in
theorem sreads_bad (most : Int) (pA : Option Addr) (n cA : Nat) (pK : Option Addr) (k cK : Nat) (w : World) (hT : Tab w) (hg : 1 < w.heap.size) (hm : most < 1 ∨ 65536 < most) :
  Calls Tryz.prog 4 #[.int .i64 most, .slice pA n cA, .slice pK k cK] w fun e w' => e = .returned (.bool true) ∧ Below w.heap.size w w' := by
 have C1 : Hid (Calls _ _ _ _ _) := made_bad most pA n cA w hm
 have HT : Hid (Tab w ∧ 1 < w.heap.size) := ⟨hT, hg⟩
 clear hT hg hm
 go_enter Tryz.func4, Tryz.ntmps4
 go_wp2_with fail
 refine C1.out.mono ?_
 rintro e w1 ⟨rfl, hb1⟩
 obtain ⟨_, bB, _⟩ := one_new w1 #[.int .i64 0, .slice none 0 0] 29
 have HB : Hid (Below w.heap.size w (w1.alloc (.cells #[.int .i64 0, .slice none 0 0] 29))) := hb1.trans (bB.mono hb1.size)
 clear hb1 bB C1
 go_upto_region 2 with fail
 generalize (w1.alloc (.cells #[.int .i64 0, .slice none 0 0] 29)) = w2 at *
 have C2 : Hid (Calls _ _ _ _ _) := awake11 w2 (HT.out.1.keep HB.out HT.out.2) (Nat.lt_of_lt_of_le HT.out.2 HB.out.size)
 go_wp2_with fail
 go_loopw [10] (fun i wq => i = .int .i64 0 ∧ wq = w2) (fun _ _ => 0)
 case atStart => exact ⟨rfl, rfl⟩
 case round =>
  obtain ⟨rfl, hw⟩ := hrel
  rw [hw]
  go_wp2_with fail
  refine C2.out.mono ?_
  rintro e w4 ⟨rfl, hb4⟩
  have HB4 : Hid (Below w.heap.size w w4) := HB.out.trans (hb4.mono HB.out.size)
  go_wp2_with fail
  go_ret
  exact ⟨rfl, HB4.out⟩

set_option maxHeartbeats 8000000 in
theorem sreads_ok (most : Nat) (A : List AcR) (pA : Option Addr) (cA : Nat) (L : List LkR) (pK : Option Addr) (cK : Nat) (w : World) (hT : Tab w) (hg : 1 < w.heap.size) (hm1 : 1 ≤ most) (hm2 : most ≤ 65536) (hA : RdA w w.heap.size pA A) (hk : ∀ a ∈ A, a.ok) (hl : A.length ≤ 1759218604442) (hK : RdK w w.heap.size pK L) (hkl : L.length ≤ 5864062014806) :
  Calls Tryz.prog 4 #[.int .i64 (most : Nat), .slice pA A.length cA, .slice pK L.length cK] w fun e w' => e = .returned (.bool true) ∧ Below w.heap.size w w' := by
 have C1 : Hid (Calls _ _ _ _ _) := made_ok most A pA cA w hT hg hm1 hm2 hA hk hl
 have HG : Hid (1 < w.heap.size) := hg
 have HK : Hid (RdK w w.heap.size pK L) := hK
 clear hT hg hm1 hm2 hA hk hK
 obtain ⟨n, hn⟩ : ∃ n, A.length = n := ⟨_, rfl⟩
 rw [hn] at hl C1
 rw [hn]
 clear hn
 obtain ⟨k, hkk⟩ : ∃ k, L.length = k := ⟨_, rfl⟩
 have HKl : Hid (L.length = k) := hkk
 rw [hkk] at hkl
 rw [hkk]
 clear hkk
 go_enter Tryz.func4, Tryz.ntmps4
 go_wp2_with fail
 refine C1.out.mono ?_
 rintro e w1 ⟨v1, rfl, hp1, hb1⟩
 obtain ⟨p1, n1, c1, e1⟩ : ∃ p1 n1 c1, v1 = .slice p1 n1 c1 := by obtain ⟨p1, c1, e1, _⟩ := hp1.doc.len; exact ⟨p1, _, c1, e1⟩
 subst e1
 obtain ⟨bX, bB, _⟩ := one_new w1 #[.int .i64 (most : Nat), .slice p1 n1 c1] 29
 have HL0 : Hid (RL w _ most (runM most A) n (.slice p1 n1 c1) w1.heap.size) := ⟨hp1.on bB, bX, hb1.trans (bB.mono hb1.size)⟩
 clear hp1 hb1 bX bB C1
 go_upto_region 2 with fail
 generalize (w1.alloc (.cells #[.int .i64 (most : Nat), .slice p1 n1 c1] 29)) = w2 at *
 generalize w1.heap.size = bm at *
 go_wp2_with fail
 go_loopw [10] (fun i wq => ∃ j : Nat, j ≤ k ∧ i = .int .i64 (j : Int) ∧ Hid (RL w wq most (runM most A) n (.slice p1 n1 c1) bm)) (fun i _ => k - (intOf i).toNat)
 case atStart => exact ⟨0, Nat.zero_le _, by go_num, HL0⟩
 case round =>
  obtain ⟨j, hj, rfl, HL⟩ := hrel
  by_cases hj0 : j = k
  ·subst hj0
   have C2 : Hid (Calls _ _ _ _ _) := awake11 wr HL.out.ps.tab (Nat.lt_of_lt_of_le HG.out HL.out.bel.size)
   go_wp2_with fail
   refine C2.out.mono ?_
   rintro e w4 ⟨rfl, hb4⟩
   have HB4 : Hid (Below w.heap.size w w4) := HL.out.bel.trans (hb4.mono HL.out.bel.size)
   go_wp2_with fail
   go_ret
   exact ⟨rfl, HB4.out⟩
  ·have hj1 : j < L.length := by rw [HKl.out]; omega
   have hjk : j < k := by omega
   obtain ⟨b, o, e, hlt, a0, a1, a2⟩ := HK.out j hj1
   subst e
   have k0 := (HL.out.bel.cell (p := ⟨b, o + j * 3, none⟩) hlt).trans a0
   have k1 := (HL.out.bel.cell (p := ⟨b, o + j * 3 + 1, none⟩) hlt).trans a1
   have k2 := (HL.out.bel.cell (p := ⟨b, o + j * 3 + 2, none⟩) hlt).trans a2
   clear a0 a1 a2 hlt
   generalize L[j].sl = x0 at *
   generalize L[j].tx = x1 at *
   generalize L[j].st = x2 at *
   clear hj1
   have HLd : Hid (RL w wr.drew most (runM most A) n (.slice p1 n1 c1) bm) := HL.out.on ((Below.refl _ _).drew)
   go_upto_region 7 with fail
   go_cut [48] from 20 to 48 (fun o wx => o = .bool false ∧ Hid (RL w wx most (runM most A) n (.slice p1 n1 c1) bm))
   case first =>
    refine wp_region_any (by kernel_rfl) ?_
    change wpAny _ _ _ _ _ _ _ (World.drew _)
    refine tk (v := ?_) 0 rfl ?_ ?_
    rotate_left
    focus
     intro w9
     go_simp
     try with_reducible rfl
    try simp only [aP]
    refine tk (v := ?_) 2 rfl ?_ ?_
    rotate_left
    focus
     intro w9
     go_simp
     try with_reducible rfl
    try simp only [aP]
    refine tk (v := ?_) 3 rfl ?_ ?_
    rotate_left
    focus
     intro w9
     go_simp
     try with_reducible rfl
    try simp only [aP]
    refine tk (v := ?_) 4 rfl ?_ ?_
    rotate_left
    focus
     intro w9
     go_simp
     try with_reducible rfl
    try simp only [aP]
    refine tk (v := ?_) 5 rfl ?_ ?_
    rotate_left
    focus
     intro w9
     go_simp
     try with_reducible rfl
    try simp only [aP]
    refine tk (v := ?_) 7 rfl ?_ ?_
    rotate_left
    focus
     intro w9
     go_simp
     try with_reducible rfl
    try simp only [aP]
    refine tk (v := ?_) 8 rfl ?_ ?_
    rotate_left
    focus
     intro w9
     go_simp
     try with_reducible rfl
    try simp only [aP]
    refine tk (v := ?_) 9 rfl ?_ ?_
    rotate_left
    focus
     intro w9
     go_simp
     try with_reducible rfl
    try simp only [aP]
    refine tk (v := ?_) 10 rfl ?_ ?_
    rotate_left
    focus
     intro w9
     go_simp
     try with_reducible rfl
    try simp only [aP]
    refine tk (v := ?_) 12 rfl ?_ ?_
    rotate_left
    focus
     intro w9
     go_simp
     try with_reducible rfl
    try simp only [aP]
    refine tk (v := ?_) 13 rfl ?_ ?_
    rotate_left
    focus
     intro w9
     go_simp
     try with_reducible rfl
    try simp only [aP]
    refine tk (v := ?_) 14 rfl ?_ ?_
    rotate_left
    focus
     intro w9
     go_simp
     try with_reducible rfl
    try simp only [aP]
    refine tk (v := ?_) 15 rfl ?_ ?_
    rotate_left
    focus
     intro w9
     go_simp
     try with_reducible rfl
    try simp only [aP]
    apply later1 (fun (w3 : World) => Hid (RL w w3 most (runM most A) n (.slice p1 n1 c1) bm))
    intro hs1_6_11_16_17
    apply later0
    intro hs1_6_11_16
    apply later0
    intro hs6_11_16
    apply later0
    intro hs1_11_16
    apply later0
    intro hs1_6_16
    apply later0
    intro hs1_6_11
    apply later0
    intro hs11_16
    apply later0
    intro hs6_16
    apply later0
    intro hs6_11
    apply later0
    intro hs1_16
    apply later0
    intro hs1_11
    apply later0
    intro hs1_6
    apply later0
    intro hs16
    apply later0
    intro hs11
    apply later0
    intro hs6
    apply later0
    intro hs1
    ·obtain ⟨m0, m1, _, _⟩ := box2 HL.out.m
     refine wpAny_ready (rs := [1, 6, 11, 16]) (by kernel_rfl) (by simp) ?_
     refine anyN_cons 1 rfl (by rfl) (fun K hK => ?_) (anyN_cons 6 rfl (by rfl) (fun K hK => ?_) (anyN_cons 11 rfl (by rfl) (fun K hK => ?_) (anyN_cons 16 rfl (by rfl) (fun K hK => ?_) AllReady.nil)))
     ·go_simp
      refine hK.out _ _ ?_
      clear hK K
      try simp only [aP]
      exact hs1
     ·go_simp
      refine hK.out _ _ ?_
      clear hK K
      try simp only [aP]
      exact hs6
     ·go_simp
      refine hK.out _ _ ?_
      clear hK K
      try simp only [aP]
      exact hs11
     ·go_simp
      refine hK.out _ _ ?_
      clear hK K
      try simp only [aP]
      exact hs16
    ·obtain ⟨m0, m1, _, _⟩ := box2 HL.out.m
     refine wpAny_ready (rs := [6, 11, 16]) (by kernel_rfl) (by simp) ?_
     refine anyN_cons 6 rfl (by rfl) (fun K hK => ?_) (anyN_cons 11 rfl (by rfl) (fun K hK => ?_) (anyN_cons 16 rfl (by rfl) (fun K hK => ?_) AllReady.nil))
     ·go_simp
      refine hK.out _ _ ?_
      clear hK K
      try simp only [aP]
      exact hs1_6
     ·go_simp
      refine hK.out _ _ ?_
      clear hK K
      try simp only [aP]
      exact hs1_11
     ·go_simp
      refine hK.out _ _ ?_
      clear hK K
      try simp only [aP]
      exact hs1_16
    ·obtain ⟨m0, m1, _, _⟩ := box2 HL.out.m
     refine wpAny_ready (rs := [1, 11, 16]) (by kernel_rfl) (by simp) ?_
     refine anyN_cons 1 rfl (by rfl) (fun K hK => ?_) (anyN_cons 11 rfl (by rfl) (fun K hK => ?_) (anyN_cons 16 rfl (by rfl) (fun K hK => ?_) AllReady.nil))
     ·go_simp
      refine hK.out _ _ ?_
      clear hK K
      try simp only [aP]
      exact hs1_6
     ·go_simp
      refine hK.out _ _ ?_
      clear hK K
      try simp only [aP]
      exact hs6_11
     ·go_simp
      refine hK.out _ _ ?_
      clear hK K
      try simp only [aP]
      exact hs6_16
    ·obtain ⟨m0, m1, _, _⟩ := box2 HL.out.m
     refine wpAny_ready (rs := [1, 6, 16]) (by kernel_rfl) (by simp) ?_
     refine anyN_cons 1 rfl (by rfl) (fun K hK => ?_) (anyN_cons 6 rfl (by rfl) (fun K hK => ?_) (anyN_cons 16 rfl (by rfl) (fun K hK => ?_) AllReady.nil))
     ·go_simp
      refine hK.out _ _ ?_
      clear hK K
      try simp only [aP]
      exact hs1_11
     ·go_simp
      refine hK.out _ _ ?_
      clear hK K
      try simp only [aP]
      exact hs6_11
     ·go_simp
      refine hK.out _ _ ?_
      clear hK K
      try simp only [aP]
      exact hs11_16
    ·obtain ⟨m0, m1, _, _⟩ := box2 HL.out.m
     refine wpAny_ready (rs := [1, 6, 11]) (by kernel_rfl) (by simp) ?_
     refine anyN_cons 1 rfl (by rfl) (fun K hK => ?_) (anyN_cons 6 rfl (by rfl) (fun K hK => ?_) (anyN_cons 11 rfl (by rfl) (fun K hK => ?_) AllReady.nil))
     ·go_simp
      refine hK.out _ _ ?_
      clear hK K
      try simp only [aP]
      exact hs1_16
     ·go_simp
      refine hK.out _ _ ?_
      clear hK K
      try simp only [aP]
      exact hs6_16
     ·go_simp
      refine hK.out _ _ ?_
      clear hK K
      try simp only [aP]
      exact hs11_16
    ·obtain ⟨m0, m1, _, _⟩ := box2 HL.out.m
     refine wpAny_ready (rs := [11, 16]) (by kernel_rfl) (by simp) ?_
     refine anyN_cons 11 rfl (by rfl) (fun K hK => ?_) (anyN_cons 16 rfl (by rfl) (fun K hK => ?_) AllReady.nil)
     ·go_simp
      refine hK.out _ _ ?_
      clear hK K
      try simp only [aP]
      exact hs1_6_11
     ·go_simp
      refine hK.out _ _ ?_
      clear hK K
      try simp only [aP]
      exact hs1_6_16
    ·obtain ⟨m0, m1, _, _⟩ := box2 HL.out.m
     refine wpAny_ready (rs := [6, 16]) (by kernel_rfl) (by simp) ?_
     refine anyN_cons 6 rfl (by rfl) (fun K hK => ?_) (anyN_cons 16 rfl (by rfl) (fun K hK => ?_) AllReady.nil)
     ·go_simp
      refine hK.out _ _ ?_
      clear hK K
      try simp only [aP]
      exact hs1_6_11
     ·go_simp
      refine hK.out _ _ ?_
      clear hK K
      try simp only [aP]
      exact hs1_11_16
    ·obtain ⟨m0, m1, _, _⟩ := box2 HL.out.m
     refine wpAny_ready (rs := [6, 11]) (by kernel_rfl) (by simp) ?_
     refine anyN_cons 6 rfl (by rfl) (fun K hK => ?_) (anyN_cons 11 rfl (by rfl) (fun K hK => ?_) AllReady.nil)
     ·go_simp
      refine hK.out _ _ ?_
      clear hK K
      try simp only [aP]
      exact hs1_6_16
     ·go_simp
      refine hK.out _ _ ?_
      clear hK K
      try simp only [aP]
      exact hs1_11_16
    ·obtain ⟨m0, m1, _, _⟩ := box2 HL.out.m
     refine wpAny_ready (rs := [1, 16]) (by kernel_rfl) (by simp) ?_
     refine anyN_cons 1 rfl (by rfl) (fun K hK => ?_) (anyN_cons 16 rfl (by rfl) (fun K hK => ?_) AllReady.nil)
     ·go_simp
      refine hK.out _ _ ?_
      clear hK K
      try simp only [aP]
      exact hs1_6_11
     ·go_simp
      refine hK.out _ _ ?_
      clear hK K
      try simp only [aP]
      exact hs6_11_16
    ·obtain ⟨m0, m1, _, _⟩ := box2 HL.out.m
     refine wpAny_ready (rs := [1, 11]) (by kernel_rfl) (by simp) ?_
     refine anyN_cons 1 rfl (by rfl) (fun K hK => ?_) (anyN_cons 11 rfl (by rfl) (fun K hK => ?_) AllReady.nil)
     ·go_simp
      refine hK.out _ _ ?_
      clear hK K
      try simp only [aP]
      exact hs1_6_16
     ·go_simp
      refine hK.out _ _ ?_
      clear hK K
      try simp only [aP]
      exact hs6_11_16
    ·obtain ⟨m0, m1, _, _⟩ := box2 HL.out.m
     refine wpAny_ready (rs := [1, 6]) (by kernel_rfl) (by simp) ?_
     refine anyN_cons 1 rfl (by rfl) (fun K hK => ?_) (anyN_cons 6 rfl (by rfl) (fun K hK => ?_) AllReady.nil)
     ·go_simp
      refine hK.out _ _ ?_
      clear hK K
      try simp only [aP]
      exact hs1_11_16
     ·go_simp
      refine hK.out _ _ ?_
      clear hK K
      try simp only [aP]
      exact hs6_11_16
    ·obtain ⟨m0, m1, _, _⟩ := box2 HL.out.m
     refine wpAny_ready (rs := [16]) (by kernel_rfl) (by simp) ?_
     refine anyN_cons 16 rfl (by rfl) (fun K hK => ?_) AllReady.nil
     go_simp
     refine hK.out _ _ ?_
     clear hK K
     try simp only [aP]
     exact hs1_6_11_16
    ·obtain ⟨m0, m1, _, _⟩ := box2 HL.out.m
     refine wpAny_ready (rs := [11]) (by kernel_rfl) (by simp) ?_
     refine anyN_cons 11 rfl (by rfl) (fun K hK => ?_) AllReady.nil
     go_simp
     refine hK.out _ _ ?_
     clear hK K
     try simp only [aP]
     exact hs1_6_11_16
    ·obtain ⟨m0, m1, _, _⟩ := box2 HL.out.m
     refine wpAny_ready (rs := [6]) (by kernel_rfl) (by simp) ?_
     refine anyN_cons 6 rfl (by rfl) (fun K hK => ?_) AllReady.nil
     go_simp
     refine hK.out _ _ ?_
     clear hK K
     try simp only [aP]
     exact hs1_6_11_16
    ·obtain ⟨m0, m1, _, _⟩ := box2 HL.out.m
     refine wpAny_ready (rs := [1]) (by kernel_rfl) (by simp) ?_
     refine anyN_cons 1 rfl (by rfl) (fun K hK => ?_) AllReady.nil
     go_simp
     refine hK.out _ _ ?_
     clear hK K
     try simp only [aP]
     exact hs1_6_11_16
    ·obtain ⟨m0, m1, _, _⟩ := box2 HL.out.m
     refine wpAny_ready (rs := [17]) (by kernel_rfl) (by simp) ?_
     refine anyN_cons 17 rfl (by rfl) (fun K hK => ?_) AllReady.nil
     go_simp
     refine (reads_any none1 _ _ _ _ _ _ _ x0 x1 x2 _ HLd.out.ps (by omega)).mono ?_
     rintro e w3 ⟨rfl, hb3⟩
     dsimp only
     have HM : Hid (RL w w3 most (runM most A) n (.slice p1 n1 c1) bm) := HLd.out.on hb3
     clear hb3
     refine hK.out _ _ ?_
     clear hK K
     try simp only [aP]
     refine tk (v := ?_) 18 rfl ?_ ?_
     rotate_left
     focus
      intro w9
      go_simp
      try with_reducible rfl
     try simp only [aP]
     exact hs1_6_11_16_17 w3 HM
    ·intro w3 HM
     refine wpAny_done (by kernel_rfl) ?_ _
     go_wp2_with fail
     go_meet
     exact ⟨rfl, HM⟩
   case rest =>
    obtain ⟨rfl, HL3⟩ := hcut
    clear k0 k1 k2 HL HLd
    go_wp2_with fail
    go_roundw
    case rel => exact ⟨j + 1, by omega, by go_num, HL3⟩
    case measure => simp [intOf]; omega

theorem lawStoReads (m : Int) (A : List AcR) (pA : Option Addr) (cA : Nat) (L : List LkR) (pK : Option Addr) (cK : Nat) (w : World) (hT : Tab w) (hg : 1 < w.heap.size) (hA : RdA w w.heap.size pA A) (hk : ∀ a ∈ A, a.ok) (hl : A.length ≤ 1759218604442) (hK : RdK w w.heap.size pK L) (hkl : L.length ≤ 5864062014806) :
  Calls Tryz.prog 4 #[.int .i64 m, .slice pA A.length cA, .slice pK L.length cK] w fun e w' => e = .returned (.bool true) ∧ Below w.heap.size w w' := by
 by_cases hm : m < 1 ∨ 65536 < m
 ·exact sreads_bad m pA A.length cA pK L.length cK w hT hg hm
 ·obtain ⟨most, rfl⟩ : ∃ most : Nat, m = (most : Int) := ⟨m.toNat, by omega⟩
  exact sreads_ok most A pA cA L pK cK w hT hg (by omega) (by omega) hA hk hl hK hkl

end Go.Proofs.YtcibcfghkidncaaGreatDoor
