/- The law StorePlays. -/
import Derived.Deep.Cut
import Derived.Deep.CutRange
import Derived.Test.YtcibcfghkidncaaGreatDoorGWLw22
namespace Go.Proofs.YtcibcfghkidncaaGreatDoor
open Go.RowKit Go.Lib
set_option maxRecDepth 100000

set_option maxHeartbeats 8000000 in
theorem plays_bad (most : Int) (pA : Option Addr) (n cA : Nat) (w : World) (hT : Tab w) (hg : 1 < w.heap.size) (hm : most < 1 ∨ 65536 < most) :
  Calls Tryz.prog 3 #[.int .i64 most, .slice pA n cA] w fun e w' => e = .returned (.bool true) ∧ Below w.heap.size w w' := by
 have C1 : Hid (Calls _ _ _ _ _) := newS_bad most w hm
 have C2 : Hid (Calls _ _ _ _ _) := newD_bad most w hm
 have HT : Hid (Tab w ∧ 1 < w.heap.size) := ⟨hT, hg⟩
 clear hT hg hm
 go_enter Tryz.func3, Tryz.ntmps3
 go_wp2_with fail
 refine C1.out.mono ?_
 rintro e w1 ⟨rfl, rfl⟩
 go_wp2_with fail
 refine C2.out.mono ?_
 rintro e w2 ⟨rfl, hb2⟩
 obtain ⟨_, bB, bS⟩ := one_new w2 #[.int .i64 0, .slice none 0 0] 29
 have hb3 := hb2.trans (bB.mono hb2.size)
 have C3 : Hid (Calls _ _ _ _ _) := awake11 _ (HT.out.1.keep hb3 HT.out.2) (Nat.lt_of_lt_of_le HT.out.2 hb3.size)
 have HB : Hid (Below _ _ _) := hb3
 clear C1 C2 hb2 bB bS hb3
 go_wp2_with fail
 refine C3.out.mono ?_
 rintro e w4 ⟨rfl, hb4⟩
 go_wp2_with fail
 go_ret
 exact ⟨rfl, HB.out.trans (hb4.mono HB.out.size)⟩

set_option maxHeartbeats 16000000 in
theorem plays_ok (most : Nat) (A : List AcR) (pA : Option Addr) (cA : Nat) (w : World) (hT : Tab w) (hg : 1 < w.heap.size) (hm1 : 1 ≤ most) (hm2 : most ≤ 65536) (hA : RdA w w.heap.size pA A) (hk : ∀ a ∈ A, a.ok) (hl : A.length ≤ 1759218604442) :
  Calls Tryz.prog 3 #[.int .i64 (most : Nat), .slice pA A.length cA] w fun e w' => e = .returned (.bool true) ∧ Below w.heap.size w w' := by
 have C1 : Hid (Calls _ _ _ _ _) := newS_ok most w hm1 hm2
 have C2 : Hid (∀ w1, Calls Tryz.prog 9 #[.int .i64 (most : Nat)] w1 fun e w' => e = .returned (.tuple #[.agg #[.int .i64 (most : Nat), .slice none 0 0], .int .i64 0]) ∧ Below w1.heap.size w1 w') := fun w1 => newD_ok most w1 hm1 hm2
 have HT : Hid (Tab w ∧ 1 < w.heap.size) := ⟨hT, hg⟩
 have HA : Hid (RdA w w.heap.size pA A ∧ ∀ a ∈ A, a.ok) := ⟨hA, hk⟩
 clear hT hg hm1 hm2 hA hk
 obtain ⟨n, hn⟩ : ∃ n, A.length = n := ⟨_, rfl⟩
 have HN : Hid (A.length = n) := hn
 rw [hn] at hl
 rw [hn]
 clear hn
 go_enter Tryz.func3, Tryz.ntmps3
 go_wp2_with fail
 refine C1.out.mono ?_
 rintro e w1 ⟨rfl, ⟨F, hs1, hF1⟩, hb1⟩
 go_wp2_with fail
 refine (C2.out _).mono ?_
 rintro e w2 ⟨rfl, hb2⟩
 obtain ⟨bX, bB, bS⟩ := one_new w2 #[.int .i64 (most : Nat), .slice none 0 0] 29
 have hb3 := hb2.trans (bB.mono hb2.size)
 have hsb := hs1.ok.2.2.2.2
 have HL0 : Hid (PL w _ most w2.heap.size 0 (runM most (A.take 0)) (.slice none 0 0)) := ⟨⟨⟨F, hs1.on hb3, fun k hk => by
  rw [show k = w2.heap.size from hk]
  exact ⟨fun hf => by have h8 := (hs1.mut hf).2.2; have h9 := hb2.size; omega, by rw [bS]; omega⟩⟩, DocS.nil _ _, (HT.out.1.keep hb1 HT.out.2).keep hb3 (Nat.lt_of_lt_of_le HT.out.2 hb1.size), HT.out.2, Nat.le_trans hb1.size hb3.size⟩, bX, hb1.trans (hb3.mono hb1.size), by have h9 := hb2.size; omega⟩
 clear C1 C2 hs1 hF1 hb1 hb2 bX bB bS hb3 hsb
 go_upto_region 3 with fail
 generalize (w2.alloc (.cells #[.int .i64 (most : Nat), .slice none 0 0] 29)) = w3 at *
 generalize w2.heap.size = bm at *
 obtain ⟨m0, m1, m2, m3⟩ := HL0.out.cells
 have C3 : Hid (Calls _ _ _ _ _) := is_any (one1 bm) _ _ _ _ _ _ _ _ HL0.out.ps (fun e => by have h8 := HL0.out.lo; have h9 : w.heap.size = bm := e; omega) (by omega)
 go_wp2_with fail
 refine C3.out.mono ?_
 rintro e w4 ⟨rfl, hp4, hf4⟩
 have HL1 : Hid (PL w w4 most bm 0 (runM most (A.take 0)) (.slice none 0 0)) := HL0.out.is hp4 hf4
 clear C3 hp4 hf4 HL0 m0 m1 m2 m3
 go_wp2_with fail
 go_loopw [9, 10] (fun o i wq => ∃ (j : Nat) (p2 : Option Addr) (n2 c2 : Nat) (b : Bool), j ≤ n ∧ i = .int .i64 (j : Int) ∧ o = .bool b ∧ Hid (PL w wq most bm j (runM most (A.take j)) (.slice p2 n2 c2))) (fun _ i _ => n - (intOf i).toNat)
 case atStart => exact ⟨0, none, 0, 0, false, Nat.zero_le _, by go_num, rfl, HL1⟩
 case round =>
  obtain ⟨j, p2, n2, c2, b0, hj, rfl, rfl, HL⟩ := hrel
  by_cases hj0 : j = n
  ·subst hj0
   have C4 : Hid (Calls _ _ _ _ _) := awake11 wr HL.out.ps.tab (Nat.lt_of_lt_of_le HT.out.2 HL.out.bel.size)
   go_wp2_with fail
   refine C4.out.mono ?_
   rintro e w5 ⟨rfl, hb5⟩
   have HB5 : Hid (Below w.heap.size w w5) := HL.out.bel.trans (hb5.mono HL.out.bel.size)
   go_wp2_with fail
   go_ret
   exact ⟨rfl, HB5.out⟩
  ·have hj1 : j < A.length := by rw [HN.out]; omega
   have hjn : j < n := by omega
   have HLd : Hid (PL w wr.drew most bm j (runM most (A.take j)) (.slice p2 n2 c2)) := HL.out.on ((Below.refl _ _).drew)
   obtain ⟨b, o, q, c, e, ⟨a0, a1, a2, a3, a4, a5, a6, a7⟩, hc⟩ := HLd.out.does HA.out.1 hj1 HA.out.2 (by rw [HN.out]; exact hl)
   subst e
   have HC : Hid (Calls _ _ _ _ _) := hc
   clear hc HLd
   have k0 : wr.cell? ⟨b, o + j * 8, none⟩ = some (.int .i64 A[j].k) := a0
   have k1 : wr.cell? ⟨b, o + j * 8 + 1, none⟩ = some (.int .i64 A[j].sl) := a1
   have k2 : wr.cell? ⟨b, o + j * 8 + 2, none⟩ = some (.int .i64 A[j].tx) := a2
   have k3 : wr.cell? ⟨b, o + j * 8 + 3, none⟩ = some (.int .i64 A[j].v.n) := a3
   have k4 : wr.cell? ⟨b, o + j * 8 + 4, none⟩ = some (.bool A[j].v.gn) := a4
   have k5 : wr.cell? ⟨b, o + j * 8 + 5, none⟩ = some (.slice q A[j].v.row.length c) := a5
   have k6 : wr.cell? ⟨b, o + j * 8 + 6, none⟩ = some (.int .u64 A[j].st) := a6
   have k7 : wr.cell? ⟨b, o + j * 8 + 7, none⟩ = some (.int .i64 A[j].lv) := a7
   clear a0 a1 a2 a3 a4 a5 a6 a7
   generalize A[j].k = x0 at *
   generalize A[j].sl = x1 at *
   generalize A[j].tx = x2 at *
   generalize A[j].v.n = x3 at *
   generalize A[j].v.gn = x4 at *
   generalize A[j].v.row.length = x5 at *
   generalize A[j].st = x6 at *
   generalize A[j].lv = x7 at *
   clear hj1
   go_upto_region 13 with fail
   go_cut [9] from 35 to 58 (fun o wx => o = .bool true ∧ Hid (∃ p3 n3 c3, PL w wx most bm (j + 1) (runM most (A.take (j + 1))) (.slice p3 n3 c3)))
   case first =>
    refine wp_region_any (by kernel_rfl) ?_
    change wpAny _ _ _ _ _ _ _ (World.drew _)
    refine tk (v := ?_) 0 rfl ?_ ?_
    rotate_left
    focus
     intro w9
     go_simp
     try with_reducible rfl
    try simp only [aP]
    refine tk (v := ?_) 2 rfl ?_ ?_
    rotate_left
    focus
     intro w9
     go_simp
     try with_reducible rfl
    try simp only [aP]
    refine tk (v := ?_) 3 rfl ?_ ?_
    rotate_left
    focus
     intro w9
     go_simp
     try with_reducible rfl
    try simp only [aP]
    refine tk (v := ?_) 4 rfl ?_ ?_
    rotate_left
    focus
     intro w9
     go_simp
     try with_reducible rfl
    try simp only [aP]
    apply later4 (fun (w3 : World) (p3 : Option Addr) (n3 : Nat) (c3 : Nat) => Hid (PM w w3 most bm (j + 1) (runM most (A.take (j + 1))) (.slice p2 n2 c2) (.slice p3 n3 c3)))
    intro hs1_5_6
    apply later0
    intro hs1_5
    apply later0
    intro hs5
    apply later0
    intro hs1
    ·obtain ⟨m0, m1, m2, m3⟩ := HL.out.cells
     refine wpAny_ready (rs := [1, 5]) (by kernel_rfl) (by simp) ?_
     refine anyN_cons 1 rfl (by rfl) (fun K hK => ?_) (anyN_cons 5 rfl (by rfl) (fun K hK => ?_) AllReady.nil)
     ·go_simp
      refine hK.out _ _ ?_
      clear hK K
      try simp only [aP]
      exact hs1
     ·go_simp
      refine hK.out _ _ ?_
      clear hK K
      try simp only [aP]
      exact hs5
    ·obtain ⟨m0, m1, m2, m3⟩ := HL.out.cells
     refine wpAny_ready (rs := [5]) (by kernel_rfl) (by simp) ?_
     refine anyN_cons 5 rfl (by rfl) (fun K hK => ?_) AllReady.nil
     go_simp
     refine hK.out _ _ ?_
     clear hK K
     try simp only [aP]
     exact hs1_5
    ·obtain ⟨m0, m1, m2, m3⟩ := HL.out.cells
     refine wpAny_ready (rs := [1]) (by kernel_rfl) (by simp) ?_
     refine anyN_cons 1 rfl (by rfl) (fun K hK => ?_) AllReady.nil
     go_simp
     refine hK.out _ _ ?_
     clear hK K
     try simp only [aP]
     exact hs1_5
    ·obtain ⟨m0, m1, m2, m3⟩ := HL.out.cells
     refine wpAny_ready (rs := [6]) (by kernel_rfl) (by simp) ?_
     refine anyN_cons 6 rfl (by rfl) (fun K hK => ?_) AllReady.nil
     go_simp
     refine HC.out.mono ?_
     rintro e w3 ⟨v3, rfl, hm⟩
     dsimp only
     obtain ⟨p3, n3, c3, e3⟩ : ∃ p3 n3 c3, v3 = .slice p3 n3 c3 := by obtain ⟨p3, c3, e3, _⟩ := hm.ps.doc.len; exact ⟨p3, _, c3, e3⟩
     subst e3
     have HM : Hid (PM w w3 most bm (j + 1) (runM most (A.take (j + 1))) (.slice p2 n2 c2) (.slice p3 n3 c3)) := hm
     clear hm
     refine hK.out _ _ ?_
     clear hK K
     try simp only [aP]
     refine tk (v := ?_) 7 rfl ?_ ?_
     rotate_left
     focus
      intro w9
      go_simp
      try with_reducible rfl
     try simp only [aP]
     refine tk (v := ?_) 8 rfl ?_ ?_
     rotate_left
     focus
      intro w9
      go_simp
      try with_reducible rfl
     try simp only [aP]
     refine tk (v := ?_) 9 rfl ?_ ?_
     rotate_left
     focus
      intro w9
      go_simp
      try with_reducible rfl
     try simp only [aP]
     exact hs1_5_6 w3 p3 n3 c3 HM
    ·intro w3 p3 n3 c3 HM
     obtain ⟨m0, m1, m2, m3⟩ := HM.out.cells
     refine wpAny_ready (rs := [10]) (by kernel_rfl) (by simp) ?_
     refine anyN_cons 10 rfl (by rfl) (fun K hK => ?_) AllReady.nil
     go_simp
     refine hK.out _ _ ?_
     clear hK K
     try simp only [aP]
     refine wpAny_ready (rs := [11]) (by kernel_rfl) (by simp) ?_
     refine anyN_cons 11 rfl (by rfl) (fun K hK => ?_) AllReady.nil
     go_simp
     refine hK.out _ _ ?_
     clear hK K
     try simp only [aP]
     refine wpAny_done (by kernel_rfl) ?_ _
     go_wp2_with fail
     go_meet
     exact ⟨rfl, p3, n3, c3, HM.out.lay⟩
   case rest =>
    obtain ⟨rfl, hcx⟩ := hcut
    obtain ⟨p3, n3, c3, hl3⟩ := hcx.out
    have HL3 : Hid (PL w wc most bm (j + 1) (runM most (A.take (j + 1))) (.slice p3 n3 c3)) := hl3
    clear hl3 hcx k0 k1 k2 k3 k4 k5 k6 k7 HC
    obtain ⟨m0, m1, m2, m3⟩ := HL3.out.cells
    have C5 : Hid (Calls _ _ _ _ _) := is_any (one1 bm) _ _ _ _ _ _ _ _ HL3.out.ps (fun e => by have h8 := HL3.out.lo; have h9 : w.heap.size = bm := e; omega) (by omega)
    go_wp2_with fail
    refine C5.out.mono ?_
    rintro e w4 ⟨rfl, hp4, hf4⟩
    have HL4 : Hid (PL w w4 most bm (j + 1) (runM most (A.take (j + 1))) (.slice p3 n3 c3)) := HL3.out.is hp4 hf4
    clear C5 hp4 hf4 m0 m1 m2 m3
    go_wp2_with fail
    go_roundw
    case rel => exact ⟨j + 1, p3, n3, c3, true, by omega, by go_num, rfl, HL4⟩
    case measure => simp [intOf]; omega

theorem lawStoPlays (m : Int) (A : List AcR) (pA : Option Addr) (cA : Nat) (w : World) (hT : Tab w) (hg : 1 < w.heap.size) (hA : RdA w w.heap.size pA A) (hk : ∀ a ∈ A, a.ok) (hl : A.length ≤ 1759218604442) :
  Calls Tryz.prog 3 #[.int .i64 m, .slice pA A.length cA] w fun e w' => e = .returned (.bool true) ∧ Below w.heap.size w w' := by
 by_cases hm : m < 1 ∨ 65536 < m
 ·exact plays_bad m pA A.length cA w hT hg hm
 ·obtain ⟨most, rfl⟩ : ∃ most : Nat, m = (most : Int) := ⟨m.toNat, by omega⟩
  exact plays_ok most A pA cA w hT hg (by omega) (by omega) hA hk hl

end Go.Proofs.YtcibcfghkidncaaGreatDoor
