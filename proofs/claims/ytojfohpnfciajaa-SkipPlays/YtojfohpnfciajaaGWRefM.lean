/- Layer 12: the document's side: Same. Layer 12: asked: a look at a list and at the document's. -/
import Derived.Test.YtojfohpnfciajaaGLSkH
import Derived.Test.YtojfohpnfciajaaGWPl7
import Derived.Test.YtojfohpnfciajaaGWPl3
import Derived.Test.YtojfohpnfciajaaGLSkLe
namespace Go.Proofs.Ytojfohpnfciajaa
open Go.RowKit
set_option maxRecDepth 100000

set_option maxHeartbeats 4000000 in
theorem rsame_any (S : List En) (p p' : Option Addr) (c c' : Nat) (w : World) (hR : RdE w p S) (hR' : RdE w p' S) (hl : S.length < 4000000000000) :
    Calls Try.prog 32 #[.slice p S.length c, .slice p' S.length c'] w fun e w' => e = .returned (.bool true) ∧ Below w.heap.size w w' := by
  have HI0 : Hid (RdE w p S ∧ RdE w p' S ∧ Below w.heap.size w w) := ⟨hR, hR', Below.refl _ _⟩
  clear hR hR'
  go_enter Try.func32, Try.ntmps32
  go_wp2_with fail
  go_loopw [5] (fun si wq => ∃ i : Nat, i ≤ S.length ∧ si = .int .i64 (i : Int) ∧ Hid (RdE wq p S ∧ RdE wq p' S ∧ Below w.heap.size w wq)) (fun si _ => ((S.length : Int) - intOf si).toNat)
  case atStart => exact ⟨0, by omega, rfl, HI0⟩
  case round =>
    clear HI0
    obtain ⟨i, hi, rfl, HI⟩ := hrel
    rcases Nat.lt_or_eq_of_le hi with hlt | heq
    · have g1 : decide ((i : Int) < (S.length : Int)) = true := by simp; omega
      obtain ⟨ga, rfl, -, a0, a1, a2⟩ := HI.out.1 i hlt
      obtain ⟨gb, rfl, -, b0, b1, b2⟩ := HI.out.2.1 i hlt
      have hq := run_eqE
      have hqg := run_eqGE
      have HI2 : Hid (∀ n, RdE (wr.drewN n) (some ⟨ga, 0, none⟩) S ∧ RdE (wr.drewN n) (some ⟨gb, 0, none⟩) S ∧ Below w.heap.size w (wr.drewN n)) := by
        intro n
        have hdr : Below wr.heap.size wr (wr.drewN n) := below_drewN (Below.refl _ _) n
        exact ⟨HI.out.1.on hdr, HI.out.2.1.on hdr, below_drewN HI.out.2.2 n⟩
      go_wp2_with fail
      go_quiet (fail)
      go_wp2_with fail
      go_roundw
      case rel => exact ⟨i + 1, by omega, by go_num, HI2.out _⟩
      case measure => simp [intOf]; omega
    · have g1 : decide ((i : Int) < (S.length : Int)) = false := by simp; omega
      go_wp2_with fail
      go_ret
      exact ⟨rfl, HI.out.2.2⟩

end Go.Proofs.Ytojfohpnfciajaa

namespace Go.Proofs.Ytojfohpnfciajaa
open Go.RowKit
set_option maxRecDepth 100000

set_option maxHeartbeats 16000000 in
theorem asked_any (lb C : Nat) (E : List En) (v : Value) (a : LkR) (w0 w : World) (q : SkL w0 w lb E) (hO : OwnE w C v E) (hl : E.length < 4000000000000) :
    Calls Try.prog 10 #[ptr1 lb, v, .agg (lkC a)] w fun e w' => e = .returned (.bool true) ∧ Below w.heap.size w w' := by
  obtain ⟨aX, aB, aS⟩ := blk_new w #[.string a.k, .string a.lo, .string a.hi, .bool a.op, .bool a.back, .int .i64 a.most] 38
  have HX : Hid (Blk (w.alloc (.cells #[.string a.k, .string a.lo, .string a.hi, .bool a.op, .bool a.back, .int .i64 a.most] 38)) w.heap.size #[.string a.k, .string a.lo, .string a.hi, .bool a.op, .bool a.back, .int .i64 a.most] 38 ∧ Below w.heap.size w (w.alloc (.cells #[.string a.k, .string a.lo, .string a.hi, .bool a.op, .bool a.back, .int .i64 a.most] 38))) := ⟨aX, aB⟩
  have HQ : Hid (SkL w0 (w.alloc (.cells #[.string a.k, .string a.lo, .string a.hi, .bool a.op, .bool a.back, .int .i64 a.most] 38)) lb E) := q.on aB
  have HO : Hid (OwnE (w.alloc (.cells #[.string a.k, .string a.lo, .string a.hi, .bool a.op, .bool a.back, .int .i64 a.most] 38)) C v E) := owns_kept hO aB
  have HL : Hid (E.length < 4000000000000) := hl
  have HRi : Hid (RiseE E) := q.rise
  obtain ⟨p, n, c, hv⟩ : ∃ p n c, v = .slice p n c := by
    obtain ⟨p, c, e, -⟩ := owns_len hO
    exact ⟨p, _, c, e⟩
  subst hv
  clear aX aB aS q hO hl
  go_enter Try.func10, Try.ntmps10
  go_upto_region 1 with fail
  generalize (w.alloc (.cells #[.string a.k, .string a.lo, .string a.hi, .bool a.op, .bool a.back, .int .i64 a.most] 38)) = w1 at *
  have C1 : Hid (Calls _ _ _ _ _) := seek_L lb E a.k a.back w0 w1 HQ.out
  have o0 := Blk.cell (i := 0) HX.out.1 rfl
  have o4 := Blk.cell (i := 4) HX.out.1 rfl
  go_wp2_with fail
  refine C1.out.mono ?_
  rintro e w2 ⟨rfl, hb2⟩
  have HX2 : Hid (Blk w2 w.heap.size #[.string a.k, .string a.lo, .string a.hi, .bool a.op, .bool a.back, .int .i64 a.most] 38 ∧ Below w.heap.size w w2) := ⟨HX.out.1.on hb2, HX.out.2.trans (hb2.mono HX.out.2.size)⟩
  have HQ2 : Hid (SkL w0 w2 lb E) := HQ.out.on hb2
  have HO2 : Hid (OwnE w2 C (.slice p n c) E) := owns_kept HO.out hb2
  clear C1 hb2 o0 o4 HX HQ HO
  generalize hke : keyO (seekE E a.k a.back) = ke
  generalize hve : valO (seekE E a.k a.back) = ve
  generalize hhe : hgtO (seekE E a.k a.back) = he
  generalize hse : (seekE E a.k a.back).isSome = se
  have HSk : Hid (keyO (seekE E a.k a.back) = ke ∧ valO (seekE E a.k a.back) = ve ∧ hgtO (seekE E a.k a.back) = he ∧ (seekE E a.k a.back).isSome = se) := ⟨hke, hve, hhe, hse⟩
  clear hke hve hhe hse
  obtain ⟨bX, bB, bS⟩ := blk_new w2 #[.string ke, .int .i64 ve, .int .i64 he] 48
  have HE1 : Hid (Blk (w2.alloc (.cells #[.string ke, .int .i64 ve, .int .i64 he] 48)) w2.heap.size #[.string ke, .int .i64 ve, .int .i64 he] 48) := bX
  have HX3 : Hid (Blk (w2.alloc (.cells #[.string ke, .int .i64 ve, .int .i64 he] 48)) w.heap.size #[.string a.k, .string a.lo, .string a.hi, .bool a.op, .bool a.back, .int .i64 a.most] 38 ∧ Below w.heap.size w (w2.alloc (.cells #[.string ke, .int .i64 ve, .int .i64 he] 48))) := ⟨HX2.out.1.on bB, HX2.out.2.trans (bB.mono HX2.out.2.size)⟩
  have HQ3 : Hid (SkL w0 (w2.alloc (.cells #[.string ke, .int .i64 ve, .int .i64 he] 48)) lb E) := HQ2.out.on bB
  have HO3 : Hid (OwnE (w2.alloc (.cells #[.string ke, .int .i64 ve, .int .i64 he] 48)) C (.slice p n c) E) := owns_kept HO2.out bB
  clear bX bB bS HX2 HQ2 HO2
  go_upto_region 2 with fail
  generalize w2.alloc (.cells #[.string ke, .int .i64 ve, .int .i64 he] 48) = w3 at *
  generalize w2.heap.size = eb1 at *
  have hRd : ∃ p' c', Value.slice p n c = .slice p' E.length c' ∧ RdE w3 p' E := own_rd HO3.out
  obtain ⟨p', c', e1, hRd⟩ := hRd
  injection e1 with e1 e2 e3
  have HEn : Hid (E.length = n) := e2.symm
  subst e1 e3
  have C2 : Hid (Calls _ _ _ _ _) := rseek_any E p c a.k a.back w3 hRd HL.out
  rw [HEn.out, HSk.out.1, HSk.out.2.1, HSk.out.2.2.1, HSk.out.2.2.2] at C2
  clear hRd e2 HSk
  have o0 := Blk.cell (i := 0) HX3.out.1 rfl
  have o4 := Blk.cell (i := 4) HX3.out.1 rfl
  go_wp2_with fail
  refine C2.out.mono ?_
  rintro e w5 ⟨rfl, hb5⟩
  have HX5 : Hid (Blk w5 w.heap.size #[.string a.k, .string a.lo, .string a.hi, .bool a.op, .bool a.back, .int .i64 a.most] 38 ∧ Below w.heap.size w w5 ∧ Blk w5 eb1 #[.string ke, .int .i64 ve, .int .i64 he] 48 ∧ SkL w0 w5 lb E ∧ OwnE w5 C (.slice p n c) E) := ⟨HX3.out.1.on hb5, HX3.out.2.trans (hb5.mono HX3.out.2.size), HE1.out.on hb5, HQ3.out.on hb5, owns_kept HO3.out hb5⟩
  clear C2 hb5 o0 o4 HX3 HQ3 HO3 HE1
  obtain ⟨bX, bB, bS⟩ := blk_new w5 #[.string ke, .int .i64 ve, .int .i64 he] 48
  have hdr : Below (w5.alloc (.cells #[.string ke, .int .i64 ve, .int .i64 he] 48)).heap.size (w5.alloc (.cells #[.string ke, .int .i64 ve, .int .i64 he] 48)) (w5.alloc (.cells #[.string ke, .int .i64 ve, .int .i64 he] 48)).drew := (Below.refl _ _).drew
  have bB2 : Below w5.heap.size w5 (w5.alloc (.cells #[.string ke, .int .i64 ve, .int .i64 he] 48)).drew := bB.trans (hdr.mono bB.size)
  have HXd : Hid (Blk (w5.alloc (.cells #[.string ke, .int .i64 ve, .int .i64 he] 48)).drew w.heap.size #[.string a.k, .string a.lo, .string a.hi, .bool a.op, .bool a.back, .int .i64 a.most] 38 ∧ Below w.heap.size w (w5.alloc (.cells #[.string ke, .int .i64 ve, .int .i64 he] 48)).drew ∧ Blk (w5.alloc (.cells #[.string ke, .int .i64 ve, .int .i64 he] 48)).drew eb1 #[.string ke, .int .i64 ve, .int .i64 he] 48 ∧ Blk (w5.alloc (.cells #[.string ke, .int .i64 ve, .int .i64 he] 48)).drew w5.heap.size #[.string ke, .int .i64 ve, .int .i64 he] 48 ∧ SkL w0 (w5.alloc (.cells #[.string ke, .int .i64 ve, .int .i64 he] 48)).drew lb E ∧ OwnE (w5.alloc (.cells #[.string ke, .int .i64 ve, .int .i64 he] 48)).drew C (.slice p n c) E) := ⟨HX5.out.1.on bB2, HX5.out.2.1.trans (bB2.mono HX5.out.2.1.size), HX5.out.2.2.1.on bB2, bX.on hdr, HX5.out.2.2.2.1.on bB2, owns_kept HX5.out.2.2.2.2 bB2⟩
  clear bX bB bS hdr bB2 HX5
  go_upto_region 3 with fail
  generalize w5.heap.size = eb2 at *
  generalize w5.alloc (.cells #[.string ke, .int .i64 ve, .int .i64 he] 48) = w4 at *
  refine wp_region_any (by kernel_rfl) ?_
  change wpAny _ _ _ _ _ _ _ (World.drew _)
  generalize w4.drew = wd at *
  have HK : Hid (wd.cell? ⟨w.heap.size, 1, none⟩ = some (.string a.lo) ∧ wd.cell? ⟨w.heap.size, 2, none⟩ = some (.string a.hi) ∧ wd.cell? ⟨w.heap.size, 3, none⟩ = some (.bool a.op) ∧ wd.cell? ⟨w.heap.size, 4, none⟩ = some (.bool a.back) ∧ wd.cell? ⟨w.heap.size, 5, none⟩ = some (.int .i64 a.most)) := ⟨Blk.cell (i := 1) HXd.out.1 rfl, Blk.cell (i := 2) HXd.out.1 rfl, Blk.cell (i := 3) HXd.out.1 rfl, Blk.cell (i := 4) HXd.out.1 rfl, Blk.cell (i := 5) HXd.out.1 rfl⟩
  have HKo : Hid (∀ w5, Below wd.heap.size wd w5 → w5.cell? ⟨w.heap.size, 1, none⟩ = some (.string a.lo) ∧ w5.cell? ⟨w.heap.size, 2, none⟩ = some (.string a.hi) ∧ w5.cell? ⟨w.heap.size, 3, none⟩ = some (.bool a.op) ∧ w5.cell? ⟨w.heap.size, 4, none⟩ = some (.bool a.back) ∧ w5.cell? ⟨w.heap.size, 5, none⟩ = some (.int .i64 a.most)) := fun w5 hb => ⟨Blk.cell (i := 1) (HXd.out.1.on hb) rfl, Blk.cell (i := 2) (HXd.out.1.on hb) rfl, Blk.cell (i := 3) (HXd.out.1.on hb) rfl, Blk.cell (i := 4) (HXd.out.1.on hb) rfl, Blk.cell (i := 5) (HXd.out.1.on hb) rfl⟩
  have x0 := Blk.cell (i := 0) HXd.out.2.2.1 rfl
  have x1 := Blk.cell (i := 1) HXd.out.2.2.1 rfl
  have x2 := Blk.cell (i := 2) HXd.out.2.2.1 rfl
  have z0 := Blk.cell (i := 0) HXd.out.2.2.2.1 rfl
  have z1 := Blk.cell (i := 1) HXd.out.2.2.2.1 rfl
  have z2 := Blk.cell (i := 2) HXd.out.2.2.2.1 rfl
  have CS : Hid (Calls _ _ _ _ _) := scan_L lb E a.lo a.hi a.op a.back a.most w0 wd HXd.out.2.2.2.2.1 HL.out
  have CR : Hid (∀ w5, Below wd.heap.size wd w5 → Calls _ _ _ _ _) := fun w5 hb => rscan_any E C (.slice p n c) a.lo a.hi a.op a.back a.most w5 (owns_kept HXd.out.2.2.2.2.2 hb) HL.out HRi.out
  have HAl : Hid ((scanM E a.lo a.hi a.op a.back a.most).length < 4000000000000) := Nat.lt_of_le_of_lt (scan_len HRi.out a.lo a.hi a.op a.back a.most) HL.out
  have HB : Hid (Below w.heap.size w wd) := HXd.out.2.1
  clear HXd
  apply later0
  intro hsA
  · refine wpAny_ready (rs := [0, 1]) (by kernel_rfl) (by simp) ?_
    refine anyN_cons 0 rfl (by rfl) (fun K hK => ?_) (anyN_cons 1 rfl (by rfl) (fun K hK => ?_) AllReady.nil)
    · go_simp
      refine hK.out _ _ ?_
      clear hK K
      try simp only [aP]
      refine wpAny_ready (rs := [1]) (by kernel_rfl) (by simp) ?_
      refine anyN_cons 1 rfl (by rfl) (fun K hK => ?_) AllReady.nil
      go_simp
      refine hK.out _ _ ?_
      clear hK K
      try simp only [aP]
      exact hsA
    · go_simp
      refine hK.out _ _ ?_
      clear hK K
      try simp only [aP]
      refine wpAny_ready (rs := [0]) (by kernel_rfl) (by simp) ?_
      refine anyN_cons 0 rfl (by rfl) (fun K hK => ?_) AllReady.nil
      go_simp
      refine hK.out _ _ ?_
      clear hK K
      try simp only [aP]
      exact hsA
  · refine tk (v := ?_) 2 rfl ?_ ?_
    rotate_left
    focus
      intro w9
      go_simp
      try simp only [run_eqE, run_eqGE]
      try go_simp
      try with_reducible rfl
    try simp only [aP]
    refine tk (v := ?_) 3 rfl ?_ ?_
    rotate_left
    focus
      intro w9
      go_simp
      try with_reducible rfl
    try simp only [aP]
    refine tk (v := ?_) 4 rfl ?_ ?_
    rotate_left
    focus
      intro w9
      go_simp
      try with_reducible rfl
    try simp only [aP]
    refine tk (v := ?_) 5 rfl ?_ ?_
    rotate_left
    focus
      intro w9
      go_simp
      try with_reducible rfl
    try simp only [aP]
    refine tk (v := ?_) 6 rfl ?_ ?_
    rotate_left
    focus
      intro w9
      go_simp
      try with_reducible rfl
    try simp only [aP]
    refine tk (v := ?_) 7 rfl ?_ ?_
    rotate_left
    focus
      intro w9
      go_simp
      try with_reducible rfl
    try simp only [aP]
    refine tk (v := ?_) 8 rfl ?_ ?_
    rotate_left
    focus
      intro w9
      go_simp
      try with_reducible rfl
    try simp only [aP]
    refine tk (v := ?_) 9 rfl ?_ ?_
    rotate_left
    focus
      intro w9
      go_simp
      try with_reducible rfl
    try simp only [aP]
    refine tk (v := ?_) 10 rfl ?_ ?_
    rotate_left
    focus
      intro w9
      go_simp
      try with_reducible rfl
    try simp only [aP]
    refine tk (v := ?_) 12 rfl ?_ ?_
    rotate_left
    focus
      intro w9
      go_simp
      try with_reducible rfl
    try simp only [aP]
    refine tk (v := ?_) 14 rfl ?_ ?_
    rotate_left
    focus
      intro w9
      go_simp
      try with_reducible rfl
    try simp only [aP]
    refine tk (v := ?_) 17 rfl ?_ ?_
    rotate_left
    focus
      intro w9
      go_simp
      try with_reducible rfl
    try simp only [aP]
    refine tk (v := ?_) 18 rfl ?_ ?_
    rotate_left
    focus
      intro w9
      go_simp
      try with_reducible rfl
    try simp only [aP]
    refine tk (v := ?_) 20 rfl ?_ ?_
    rotate_left
    focus
      intro w9
      go_simp
      try with_reducible rfl
    try simp only [aP]
    refine tk (v := ?_) 22 rfl ?_ ?_
    rotate_left
    focus
      intro w9
      go_simp
      try with_reducible rfl
    try simp only [aP]
    apply later3 (fun (_ : Value) (_ : Value) (w7 : World) => Hid (Below wd.heap.size wd w7))
    intro hs11_13_15_16_19_21_23_24_25
    apply later3 (fun (v5 : Value) (v6 : Value) (w6 : World) => Hid (OwnE w6 wd.heap.size v5 (scanM E a.lo a.hi a.op a.back a.most) ∧ (∃ B6, OwnE w6 B6 v6 (scanM E a.lo a.hi a.op a.back a.most)) ∧ Below wd.heap.size wd w6))
    intro hs11_13_15_16_19_21_23_24
    apply later2 (fun (v5 : Value) (w5 : World) => Hid (OwnE w5 wd.heap.size v5 (scanM E a.lo a.hi a.op a.back a.most) ∧ Below wd.heap.size wd w5))
    intro hs11_13_15_16_19_21_23
    apply later0
    intro hs11_13_15_19_21_23
    apply later2 (fun (v5 : Value) (w5 : World) => Hid (OwnE w5 wd.heap.size v5 (scanM E a.lo a.hi a.op a.back a.most) ∧ Below wd.heap.size wd w5))
    intro hs11_13_15_16_21_23
    apply later2 (fun (v5 : Value) (w5 : World) => Hid (OwnE w5 wd.heap.size v5 (scanM E a.lo a.hi a.op a.back a.most) ∧ Below wd.heap.size wd w5))
    intro hs11_13_15_16_19_23
    apply later2 (fun (v5 : Value) (w5 : World) => Hid (OwnE w5 wd.heap.size v5 (scanM E a.lo a.hi a.op a.back a.most) ∧ Below wd.heap.size wd w5))
    intro hs11_13_15_16_19_21
    apply later0
    intro hs13_15_19_21_23
    apply later0
    intro hs11_15_19_21_23
    apply later0
    intro hs11_13_19_21_23
    apply later0
    intro hs11_13_15_21_23
    apply later0
    intro hs11_13_15_19_23
    apply later0
    intro hs11_13_15_19_21
    apply later2 (fun (v5 : Value) (w5 : World) => Hid (OwnE w5 wd.heap.size v5 (scanM E a.lo a.hi a.op a.back a.most) ∧ Below wd.heap.size wd w5))
    intro hs11_13_15_16_23
    apply later2 (fun (v5 : Value) (w5 : World) => Hid (OwnE w5 wd.heap.size v5 (scanM E a.lo a.hi a.op a.back a.most) ∧ Below wd.heap.size wd w5))
    intro hs11_13_15_16_21
    apply later2 (fun (v5 : Value) (w5 : World) => Hid (OwnE w5 wd.heap.size v5 (scanM E a.lo a.hi a.op a.back a.most) ∧ Below wd.heap.size wd w5))
    intro hs11_13_15_16_19
    apply later0
    intro hs15_19_21_23
    apply later0
    intro hs13_19_21_23
    apply later0
    intro hs13_15_21_23
    apply later0
    intro hs13_15_19_23
    apply later0
    intro hs13_15_19_21
    apply later0
    intro hs11_19_21_23
    apply later0
    intro hs11_15_21_23
    apply later0
    intro hs11_15_19_23
    apply later0
    intro hs11_15_19_21
    apply later0
    intro hs11_13_21_23
    apply later0
    intro hs11_13_19_23
    apply later0
    intro hs11_13_19_21
    apply later0
    intro hs11_13_15_23
    apply later0
    intro hs11_13_15_21
    apply later0
    intro hs11_13_15_19
    apply later2 (fun (v5 : Value) (w5 : World) => Hid (OwnE w5 wd.heap.size v5 (scanM E a.lo a.hi a.op a.back a.most) ∧ Below wd.heap.size wd w5))
    intro hs11_13_15_16
    apply later0
    intro hs19_21_23
    apply later0
    intro hs15_21_23
    apply later0
    intro hs15_19_23
    apply later0
    intro hs15_19_21
    apply later0
    intro hs13_21_23
    apply later0
    intro hs13_19_23
    apply later0
    intro hs13_19_21
    apply later0
    intro hs13_15_23
    apply later0
    intro hs13_15_21
    apply later0
    intro hs13_15_19
    apply later0
    intro hs11_21_23
    apply later0
    intro hs11_19_23
    apply later0
    intro hs11_19_21
    apply later0
    intro hs11_15_23
    apply later0
    intro hs11_15_21
    apply later0
    intro hs11_15_19
    apply later0
    intro hs11_13_23
    apply later0
    intro hs11_13_21
    apply later0
    intro hs11_13_19
    apply later0
    intro hs11_13_15
    apply later0
    intro hs21_23
    apply later0
    intro hs19_23
    apply later0
    intro hs19_21
    apply later0
    intro hs15_23
    apply later0
    intro hs15_21
    apply later0
    intro hs15_19
    apply later0
    intro hs13_23
    apply later0
    intro hs13_21
    apply later0
    intro hs13_19
    apply later0
    intro hs13_15
    apply later0
    intro hs11_23
    apply later0
    intro hs11_21
    apply later0
    intro hs11_19
    apply later0
    intro hs11_15
    apply later0
    intro hs11_13
    apply later0
    intro hs23
    apply later0
    intro hs21
    apply later0
    intro hs19
    apply later0
    intro hs15
    apply later0
    intro hs13
    apply later0
    intro hs11
    · obtain ⟨k1, k2, k3, k4, k5⟩ := HK.out
      refine wpAny_ready (rs := [11, 13, 15, 19, 21, 23]) (by kernel_rfl) (by simp) ?_
      refine anyN_cons 11 rfl (by rfl) (fun K hK => ?_) (anyN_cons 13 rfl (by rfl) (fun K hK => ?_) (anyN_cons 15 rfl (by rfl) (fun K hK => ?_) (anyN_cons 19 rfl (by rfl) (fun K hK => ?_) (anyN_cons 21 rfl (by rfl) (fun K hK => ?_) (anyN_cons 23 rfl (by rfl) (fun K hK => ?_) AllReady.nil)))))
      · go_simp
        refine hK.out _ _ ?_
        clear hK K
        try simp only [aP]
        exact hs11
      · go_simp
        refine hK.out _ _ ?_
        clear hK K
        try simp only [aP]
        exact hs13
      · go_simp
        refine hK.out _ _ ?_
        clear hK K
        try simp only [aP]
        exact hs15
      · go_simp
        refine hK.out _ _ ?_
        clear hK K
        try simp only [aP]
        exact hs19
      · go_simp
        refine hK.out _ _ ?_
        clear hK K
        try simp only [aP]
        exact hs21
      · go_simp
        refine hK.out _ _ ?_
        clear hK K
        try simp only [aP]
        exact hs23
    · obtain ⟨k1, k2, k3, k4, k5⟩ := HK.out
      refine wpAny_ready (rs := [13, 15, 19, 21, 23]) (by kernel_rfl) (by simp) ?_
      refine anyN_cons 13 rfl (by rfl) (fun K hK => ?_) (anyN_cons 15 rfl (by rfl) (fun K hK => ?_) (anyN_cons 19 rfl (by rfl) (fun K hK => ?_) (anyN_cons 21 rfl (by rfl) (fun K hK => ?_) (anyN_cons 23 rfl (by rfl) (fun K hK => ?_) AllReady.nil))))
      · go_simp
        refine hK.out _ _ ?_
        clear hK K
        try simp only [aP]
        exact hs11_13
      · go_simp
        refine hK.out _ _ ?_
        clear hK K
        try simp only [aP]
        exact hs11_15
      · go_simp
        refine hK.out _ _ ?_
        clear hK K
        try simp only [aP]
        exact hs11_19
      · go_simp
        refine hK.out _ _ ?_
        clear hK K
        try simp only [aP]
        exact hs11_21
      · go_simp
        refine hK.out _ _ ?_
        clear hK K
        try simp only [aP]
        exact hs11_23
    · obtain ⟨k1, k2, k3, k4, k5⟩ := HK.out
      refine wpAny_ready (rs := [11, 15, 19, 21, 23]) (by kernel_rfl) (by simp) ?_
      refine anyN_cons 11 rfl (by rfl) (fun K hK => ?_) (anyN_cons 15 rfl (by rfl) (fun K hK => ?_) (anyN_cons 19 rfl (by rfl) (fun K hK => ?_) (anyN_cons 21 rfl (by rfl) (fun K hK => ?_) (anyN_cons 23 rfl (by rfl) (fun K hK => ?_) AllReady.nil))))
      · go_simp
        refine hK.out _ _ ?_
        clear hK K
        try simp only [aP]
        exact hs11_13
      · go_simp
        refine hK.out _ _ ?_
        clear hK K
        try simp only [aP]
        exact hs13_15
      · go_simp
        refine hK.out _ _ ?_
        clear hK K
        try simp only [aP]
        exact hs13_19
      · go_simp
        refine hK.out _ _ ?_
        clear hK K
        try simp only [aP]
        exact hs13_21
      · go_simp
        refine hK.out _ _ ?_
        clear hK K
        try simp only [aP]
        exact hs13_23
    · obtain ⟨k1, k2, k3, k4, k5⟩ := HK.out
      refine wpAny_ready (rs := [11, 13, 19, 21, 23]) (by kernel_rfl) (by simp) ?_
      refine anyN_cons 11 rfl (by rfl) (fun K hK => ?_) (anyN_cons 13 rfl (by rfl) (fun K hK => ?_) (anyN_cons 19 rfl (by rfl) (fun K hK => ?_) (anyN_cons 21 rfl (by rfl) (fun K hK => ?_) (anyN_cons 23 rfl (by rfl) (fun K hK => ?_) AllReady.nil))))
      · go_simp
        refine hK.out _ _ ?_
        clear hK K
        try simp only [aP]
        exact hs11_15
      · go_simp
        refine hK.out _ _ ?_
        clear hK K
        try simp only [aP]
        exact hs13_15
      · go_simp
        refine hK.out _ _ ?_
        clear hK K
        try simp only [aP]
        exact hs15_19
      · go_simp
        refine hK.out _ _ ?_
        clear hK K
        try simp only [aP]
        exact hs15_21
      · go_simp
        refine hK.out _ _ ?_
        clear hK K
        try simp only [aP]
        exact hs15_23
    · obtain ⟨k1, k2, k3, k4, k5⟩ := HK.out
      refine wpAny_ready (rs := [11, 13, 15, 21, 23]) (by kernel_rfl) (by simp) ?_
      refine anyN_cons 11 rfl (by rfl) (fun K hK => ?_) (anyN_cons 13 rfl (by rfl) (fun K hK => ?_) (anyN_cons 15 rfl (by rfl) (fun K hK => ?_) (anyN_cons 21 rfl (by rfl) (fun K hK => ?_) (anyN_cons 23 rfl (by rfl) (fun K hK => ?_) AllReady.nil))))
      · go_simp
        refine hK.out _ _ ?_
        clear hK K
        try simp only [aP]
        exact hs11_19
      · go_simp
        refine hK.out _ _ ?_
        clear hK K
        try simp only [aP]
        exact hs13_19
      · go_simp
        refine hK.out _ _ ?_
        clear hK K
        try simp only [aP]
        exact hs15_19
      · go_simp
        refine hK.out _ _ ?_
        clear hK K
        try simp only [aP]
        exact hs19_21
      · go_simp
        refine hK.out _ _ ?_
        clear hK K
        try simp only [aP]
        exact hs19_23
    · obtain ⟨k1, k2, k3, k4, k5⟩ := HK.out
      refine wpAny_ready (rs := [11, 13, 15, 19, 23]) (by kernel_rfl) (by simp) ?_
      refine anyN_cons 11 rfl (by rfl) (fun K hK => ?_) (anyN_cons 13 rfl (by rfl) (fun K hK => ?_) (anyN_cons 15 rfl (by rfl) (fun K hK => ?_) (anyN_cons 19 rfl (by rfl) (fun K hK => ?_) (anyN_cons 23 rfl (by rfl) (fun K hK => ?_) AllReady.nil))))
      · go_simp
        refine hK.out _ _ ?_
        clear hK K
        try simp only [aP]
        exact hs11_21
      · go_simp
        refine hK.out _ _ ?_
        clear hK K
        try simp only [aP]
        exact hs13_21
      · go_simp
        refine hK.out _ _ ?_
        clear hK K
        try simp only [aP]
        exact hs15_21
      · go_simp
        refine hK.out _ _ ?_
        clear hK K
        try simp only [aP]
        exact hs19_21
      · go_simp
        refine hK.out _ _ ?_
        clear hK K
        try simp only [aP]
        exact hs21_23
    · obtain ⟨k1, k2, k3, k4, k5⟩ := HK.out
      refine wpAny_ready (rs := [11, 13, 15, 19, 21]) (by kernel_rfl) (by simp) ?_
      refine anyN_cons 11 rfl (by rfl) (fun K hK => ?_) (anyN_cons 13 rfl (by rfl) (fun K hK => ?_) (anyN_cons 15 rfl (by rfl) (fun K hK => ?_) (anyN_cons 19 rfl (by rfl) (fun K hK => ?_) (anyN_cons 21 rfl (by rfl) (fun K hK => ?_) AllReady.nil))))
      · go_simp
        refine hK.out _ _ ?_
        clear hK K
        try simp only [aP]
        exact hs11_23
      · go_simp
        refine hK.out _ _ ?_
        clear hK K
        try simp only [aP]
        exact hs13_23
      · go_simp
        refine hK.out _ _ ?_
        clear hK K
        try simp only [aP]
        exact hs15_23
      · go_simp
        refine hK.out _ _ ?_
        clear hK K
        try simp only [aP]
        exact hs19_23
      · go_simp
        refine hK.out _ _ ?_
        clear hK K
        try simp only [aP]
        exact hs21_23
    · obtain ⟨k1, k2, k3, k4, k5⟩ := HK.out
      refine wpAny_ready (rs := [15, 19, 21, 23]) (by kernel_rfl) (by simp) ?_
      refine anyN_cons 15 rfl (by rfl) (fun K hK => ?_) (anyN_cons 19 rfl (by rfl) (fun K hK => ?_) (anyN_cons 21 rfl (by rfl) (fun K hK => ?_) (anyN_cons 23 rfl (by rfl) (fun K hK => ?_) AllReady.nil)))
      · go_simp
        refine hK.out _ _ ?_
        clear hK K
        try simp only [aP]
        exact hs11_13_15
      · go_simp
        refine hK.out _ _ ?_
        clear hK K
        try simp only [aP]
        exact hs11_13_19
      · go_simp
        refine hK.out _ _ ?_
        clear hK K
        try simp only [aP]
        exact hs11_13_21
      · go_simp
        refine hK.out _ _ ?_
        clear hK K
        try simp only [aP]
        exact hs11_13_23
    · obtain ⟨k1, k2, k3, k4, k5⟩ := HK.out
      refine wpAny_ready (rs := [13, 19, 21, 23]) (by kernel_rfl) (by simp) ?_
      refine anyN_cons 13 rfl (by rfl) (fun K hK => ?_) (anyN_cons 19 rfl (by rfl) (fun K hK => ?_) (anyN_cons 21 rfl (by rfl) (fun K hK => ?_) (anyN_cons 23 rfl (by rfl) (fun K hK => ?_) AllReady.nil)))
      · go_simp
        refine hK.out _ _ ?_
        clear hK K
        try simp only [aP]
        exact hs11_13_15
      · go_simp
        refine hK.out _ _ ?_
        clear hK K
        try simp only [aP]
        exact hs11_15_19
      · go_simp
        refine hK.out _ _ ?_
        clear hK K
        try simp only [aP]
        exact hs11_15_21
      · go_simp
        refine hK.out _ _ ?_
        clear hK K
        try simp only [aP]
        exact hs11_15_23
    · obtain ⟨k1, k2, k3, k4, k5⟩ := HK.out
      refine wpAny_ready (rs := [13, 15, 21, 23]) (by kernel_rfl) (by simp) ?_
      refine anyN_cons 13 rfl (by rfl) (fun K hK => ?_) (anyN_cons 15 rfl (by rfl) (fun K hK => ?_) (anyN_cons 21 rfl (by rfl) (fun K hK => ?_) (anyN_cons 23 rfl (by rfl) (fun K hK => ?_) AllReady.nil)))
      · go_simp
        refine hK.out _ _ ?_
        clear hK K
        try simp only [aP]
        exact hs11_13_19
      · go_simp
        refine hK.out _ _ ?_
        clear hK K
        try simp only [aP]
        exact hs11_15_19
      · go_simp
        refine hK.out _ _ ?_
        clear hK K
        try simp only [aP]
        exact hs11_19_21
      · go_simp
        refine hK.out _ _ ?_
        clear hK K
        try simp only [aP]
        exact hs11_19_23
    · obtain ⟨k1, k2, k3, k4, k5⟩ := HK.out
      refine wpAny_ready (rs := [13, 15, 19, 23]) (by kernel_rfl) (by simp) ?_
      refine anyN_cons 13 rfl (by rfl) (fun K hK => ?_) (anyN_cons 15 rfl (by rfl) (fun K hK => ?_) (anyN_cons 19 rfl (by rfl) (fun K hK => ?_) (anyN_cons 23 rfl (by rfl) (fun K hK => ?_) AllReady.nil)))
      · go_simp
        refine hK.out _ _ ?_
        clear hK K
        try simp only [aP]
        exact hs11_13_21
      · go_simp
        refine hK.out _ _ ?_
        clear hK K
        try simp only [aP]
        exact hs11_15_21
      · go_simp
        refine hK.out _ _ ?_
        clear hK K
        try simp only [aP]
        exact hs11_19_21
      · go_simp
        refine hK.out _ _ ?_
        clear hK K
        try simp only [aP]
        exact hs11_21_23
    · obtain ⟨k1, k2, k3, k4, k5⟩ := HK.out
      refine wpAny_ready (rs := [13, 15, 19, 21]) (by kernel_rfl) (by simp) ?_
      refine anyN_cons 13 rfl (by rfl) (fun K hK => ?_) (anyN_cons 15 rfl (by rfl) (fun K hK => ?_) (anyN_cons 19 rfl (by rfl) (fun K hK => ?_) (anyN_cons 21 rfl (by rfl) (fun K hK => ?_) AllReady.nil)))
      · go_simp
        refine hK.out _ _ ?_
        clear hK K
        try simp only [aP]
        exact hs11_13_23
      · go_simp
        refine hK.out _ _ ?_
        clear hK K
        try simp only [aP]
        exact hs11_15_23
      · go_simp
        refine hK.out _ _ ?_
        clear hK K
        try simp only [aP]
        exact hs11_19_23
      · go_simp
        refine hK.out _ _ ?_
        clear hK K
        try simp only [aP]
        exact hs11_21_23
    · obtain ⟨k1, k2, k3, k4, k5⟩ := HK.out
      refine wpAny_ready (rs := [11, 19, 21, 23]) (by kernel_rfl) (by simp) ?_
      refine anyN_cons 11 rfl (by rfl) (fun K hK => ?_) (anyN_cons 19 rfl (by rfl) (fun K hK => ?_) (anyN_cons 21 rfl (by rfl) (fun K hK => ?_) (anyN_cons 23 rfl (by rfl) (fun K hK => ?_) AllReady.nil)))
      · go_simp
        refine hK.out _ _ ?_
        clear hK K
        try simp only [aP]
        exact hs11_13_15
      · go_simp
        refine hK.out _ _ ?_
        clear hK K
        try simp only [aP]
        exact hs13_15_19
      · go_simp
        refine hK.out _ _ ?_
        clear hK K
        try simp only [aP]
        exact hs13_15_21
      · go_simp
        refine hK.out _ _ ?_
        clear hK K
        try simp only [aP]
        exact hs13_15_23
    · obtain ⟨k1, k2, k3, k4, k5⟩ := HK.out
      refine wpAny_ready (rs := [11, 15, 21, 23]) (by kernel_rfl) (by simp) ?_
      refine anyN_cons 11 rfl (by rfl) (fun K hK => ?_) (anyN_cons 15 rfl (by rfl) (fun K hK => ?_) (anyN_cons 21 rfl (by rfl) (fun K hK => ?_) (anyN_cons 23 rfl (by rfl) (fun K hK => ?_) AllReady.nil)))
      · go_simp
        refine hK.out _ _ ?_
        clear hK K
        try simp only [aP]
        exact hs11_13_19
      · go_simp
        refine hK.out _ _ ?_
        clear hK K
        try simp only [aP]
        exact hs13_15_19
      · go_simp
        refine hK.out _ _ ?_
        clear hK K
        try simp only [aP]
        exact hs13_19_21
      · go_simp
        refine hK.out _ _ ?_
        clear hK K
        try simp only [aP]
        exact hs13_19_23
    · obtain ⟨k1, k2, k3, k4, k5⟩ := HK.out
      refine wpAny_ready (rs := [11, 15, 19, 23]) (by kernel_rfl) (by simp) ?_
      refine anyN_cons 11 rfl (by rfl) (fun K hK => ?_) (anyN_cons 15 rfl (by rfl) (fun K hK => ?_) (anyN_cons 19 rfl (by rfl) (fun K hK => ?_) (anyN_cons 23 rfl (by rfl) (fun K hK => ?_) AllReady.nil)))
      · go_simp
        refine hK.out _ _ ?_
        clear hK K
        try simp only [aP]
        exact hs11_13_21
      · go_simp
        refine hK.out _ _ ?_
        clear hK K
        try simp only [aP]
        exact hs13_15_21
      · go_simp
        refine hK.out _ _ ?_
        clear hK K
        try simp only [aP]
        exact hs13_19_21
      · go_simp
        refine hK.out _ _ ?_
        clear hK K
        try simp only [aP]
        exact hs13_21_23
    · obtain ⟨k1, k2, k3, k4, k5⟩ := HK.out
      refine wpAny_ready (rs := [11, 15, 19, 21]) (by kernel_rfl) (by simp) ?_
      refine anyN_cons 11 rfl (by rfl) (fun K hK => ?_) (anyN_cons 15 rfl (by rfl) (fun K hK => ?_) (anyN_cons 19 rfl (by rfl) (fun K hK => ?_) (anyN_cons 21 rfl (by rfl) (fun K hK => ?_) AllReady.nil)))
      · go_simp
        refine hK.out _ _ ?_
        clear hK K
        try simp only [aP]
        exact hs11_13_23
      · go_simp
        refine hK.out _ _ ?_
        clear hK K
        try simp only [aP]
        exact hs13_15_23
      · go_simp
        refine hK.out _ _ ?_
        clear hK K
        try simp only [aP]
        exact hs13_19_23
      · go_simp
        refine hK.out _ _ ?_
        clear hK K
        try simp only [aP]
        exact hs13_21_23
    · obtain ⟨k1, k2, k3, k4, k5⟩ := HK.out
      refine wpAny_ready (rs := [11, 13, 21, 23]) (by kernel_rfl) (by simp) ?_
      refine anyN_cons 11 rfl (by rfl) (fun K hK => ?_) (anyN_cons 13 rfl (by rfl) (fun K hK => ?_) (anyN_cons 21 rfl (by rfl) (fun K hK => ?_) (anyN_cons 23 rfl (by rfl) (fun K hK => ?_) AllReady.nil)))
      · go_simp
        refine hK.out _ _ ?_
        clear hK K
        try simp only [aP]
        exact hs11_15_19
      · go_simp
        refine hK.out _ _ ?_
        clear hK K
        try simp only [aP]
        exact hs13_15_19
      · go_simp
        refine hK.out _ _ ?_
        clear hK K
        try simp only [aP]
        exact hs15_19_21
      · go_simp
        refine hK.out _ _ ?_
        clear hK K
        try simp only [aP]
        exact hs15_19_23
    · obtain ⟨k1, k2, k3, k4, k5⟩ := HK.out
      refine wpAny_ready (rs := [11, 13, 19, 23]) (by kernel_rfl) (by simp) ?_
      refine anyN_cons 11 rfl (by rfl) (fun K hK => ?_) (anyN_cons 13 rfl (by rfl) (fun K hK => ?_) (anyN_cons 19 rfl (by rfl) (fun K hK => ?_) (anyN_cons 23 rfl (by rfl) (fun K hK => ?_) AllReady.nil)))
      · go_simp
        refine hK.out _ _ ?_
        clear hK K
        try simp only [aP]
        exact hs11_15_21
      · go_simp
        refine hK.out _ _ ?_
        clear hK K
        try simp only [aP]
        exact hs13_15_21
      · go_simp
        refine hK.out _ _ ?_
        clear hK K
        try simp only [aP]
        exact hs15_19_21
      · go_simp
        refine hK.out _ _ ?_
        clear hK K
        try simp only [aP]
        exact hs15_21_23
    · obtain ⟨k1, k2, k3, k4, k5⟩ := HK.out
      refine wpAny_ready (rs := [11, 13, 19, 21]) (by kernel_rfl) (by simp) ?_
      refine anyN_cons 11 rfl (by rfl) (fun K hK => ?_) (anyN_cons 13 rfl (by rfl) (fun K hK => ?_) (anyN_cons 19 rfl (by rfl) (fun K hK => ?_) (anyN_cons 21 rfl (by rfl) (fun K hK => ?_) AllReady.nil)))
      · go_simp
        refine hK.out _ _ ?_
        clear hK K
        try simp only [aP]
        exact hs11_15_23
      · go_simp
        refine hK.out _ _ ?_
        clear hK K
        try simp only [aP]
        exact hs13_15_23
      · go_simp
        refine hK.out _ _ ?_
        clear hK K
        try simp only [aP]
        exact hs15_19_23
      · go_simp
        refine hK.out _ _ ?_
        clear hK K
        try simp only [aP]
        exact hs15_21_23
    · obtain ⟨k1, k2, k3, k4, k5⟩ := HK.out
      refine wpAny_ready (rs := [11, 13, 15, 23]) (by kernel_rfl) (by simp) ?_
      refine anyN_cons 11 rfl (by rfl) (fun K hK => ?_) (anyN_cons 13 rfl (by rfl) (fun K hK => ?_) (anyN_cons 15 rfl (by rfl) (fun K hK => ?_) (anyN_cons 23 rfl (by rfl) (fun K hK => ?_) AllReady.nil)))
      · go_simp
        refine hK.out _ _ ?_
        clear hK K
        try simp only [aP]
        exact hs11_19_21
      · go_simp
        refine hK.out _ _ ?_
        clear hK K
        try simp only [aP]
        exact hs13_19_21
      · go_simp
        refine hK.out _ _ ?_
        clear hK K
        try simp only [aP]
        exact hs15_19_21
      · go_simp
        refine hK.out _ _ ?_
        clear hK K
        try simp only [aP]
        exact hs19_21_23
    · obtain ⟨k1, k2, k3, k4, k5⟩ := HK.out
      refine wpAny_ready (rs := [11, 13, 15, 21]) (by kernel_rfl) (by simp) ?_
      refine anyN_cons 11 rfl (by rfl) (fun K hK => ?_) (anyN_cons 13 rfl (by rfl) (fun K hK => ?_) (anyN_cons 15 rfl (by rfl) (fun K hK => ?_) (anyN_cons 21 rfl (by rfl) (fun K hK => ?_) AllReady.nil)))
      · go_simp
        refine hK.out _ _ ?_
        clear hK K
        try simp only [aP]
        exact hs11_19_23
      · go_simp
        refine hK.out _ _ ?_
        clear hK K
        try simp only [aP]
        exact hs13_19_23
      · go_simp
        refine hK.out _ _ ?_
        clear hK K
        try simp only [aP]
        exact hs15_19_23
      · go_simp
        refine hK.out _ _ ?_
        clear hK K
        try simp only [aP]
        exact hs19_21_23
    · obtain ⟨k1, k2, k3, k4, k5⟩ := HK.out
      refine wpAny_ready (rs := [11, 13, 15, 19]) (by kernel_rfl) (by simp) ?_
      refine anyN_cons 11 rfl (by rfl) (fun K hK => ?_) (anyN_cons 13 rfl (by rfl) (fun K hK => ?_) (anyN_cons 15 rfl (by rfl) (fun K hK => ?_) (anyN_cons 19 rfl (by rfl) (fun K hK => ?_) AllReady.nil)))
      · go_simp
        refine hK.out _ _ ?_
        clear hK K
        try simp only [aP]
        exact hs11_21_23
      · go_simp
        refine hK.out _ _ ?_
        clear hK K
        try simp only [aP]
        exact hs13_21_23
      · go_simp
        refine hK.out _ _ ?_
        clear hK K
        try simp only [aP]
        exact hs15_21_23
      · go_simp
        refine hK.out _ _ ?_
        clear hK K
        try simp only [aP]
        exact hs19_21_23
    · obtain ⟨k1, k2, k3, k4, k5⟩ := HK.out
      refine wpAny_ready (rs := [16, 19, 21, 23]) (by kernel_rfl) (by simp) ?_
      refine anyN_cons 16 rfl (by rfl) (fun K hK => ?_) (anyN_cons 19 rfl (by rfl) (fun K hK => ?_) (anyN_cons 21 rfl (by rfl) (fun K hK => ?_) (anyN_cons 23 rfl (by rfl) (fun K hK => ?_) AllReady.nil)))
      · go_simp
        refine CS.out.mono ?_
        rintro e w5 ⟨v5, rfl, ho5, hb5⟩
        dsimp only
        have H5 : Hid (OwnE w5 wd.heap.size v5 (scanM E a.lo a.hi a.op a.back a.most) ∧ Below wd.heap.size wd w5) := ⟨ho5, hb5⟩
        clear ho5 hb5
        refine hK.out _ _ ?_
        clear hK K
        try simp only [aP]
        exact hs11_13_15_16 v5 w5 H5
      · go_simp
        refine hK.out _ _ ?_
        clear hK K
        try simp only [aP]
        exact hs11_13_15_19
      · go_simp
        refine hK.out _ _ ?_
        clear hK K
        try simp only [aP]
        exact hs11_13_15_21
      · go_simp
        refine hK.out _ _ ?_
        clear hK K
        try simp only [aP]
        exact hs11_13_15_23
    · obtain ⟨k1, k2, k3, k4, k5⟩ := HK.out
      refine wpAny_ready (rs := [15, 21, 23]) (by kernel_rfl) (by simp) ?_
      refine anyN_cons 15 rfl (by rfl) (fun K hK => ?_) (anyN_cons 21 rfl (by rfl) (fun K hK => ?_) (anyN_cons 23 rfl (by rfl) (fun K hK => ?_) AllReady.nil))
      · go_simp
        refine hK.out _ _ ?_
        clear hK K
        try simp only [aP]
        exact hs11_13_15_19
      · go_simp
        refine hK.out _ _ ?_
        clear hK K
        try simp only [aP]
        exact hs11_13_19_21
      · go_simp
        refine hK.out _ _ ?_
        clear hK K
        try simp only [aP]
        exact hs11_13_19_23
    · obtain ⟨k1, k2, k3, k4, k5⟩ := HK.out
      refine wpAny_ready (rs := [15, 19, 23]) (by kernel_rfl) (by simp) ?_
      refine anyN_cons 15 rfl (by rfl) (fun K hK => ?_) (anyN_cons 19 rfl (by rfl) (fun K hK => ?_) (anyN_cons 23 rfl (by rfl) (fun K hK => ?_) AllReady.nil))
      · go_simp
        refine hK.out _ _ ?_
        clear hK K
        try simp only [aP]
        exact hs11_13_15_21
      · go_simp
        refine hK.out _ _ ?_
        clear hK K
        try simp only [aP]
        exact hs11_13_19_21
      · go_simp
        refine hK.out _ _ ?_
        clear hK K
        try simp only [aP]
        exact hs11_13_21_23
    · obtain ⟨k1, k2, k3, k4, k5⟩ := HK.out
      refine wpAny_ready (rs := [15, 19, 21]) (by kernel_rfl) (by simp) ?_
      refine anyN_cons 15 rfl (by rfl) (fun K hK => ?_) (anyN_cons 19 rfl (by rfl) (fun K hK => ?_) (anyN_cons 21 rfl (by rfl) (fun K hK => ?_) AllReady.nil))
      · go_simp
        refine hK.out _ _ ?_
        clear hK K
        try simp only [aP]
        exact hs11_13_15_23
      · go_simp
        refine hK.out _ _ ?_
        clear hK K
        try simp only [aP]
        exact hs11_13_19_23
      · go_simp
        refine hK.out _ _ ?_
        clear hK K
        try simp only [aP]
        exact hs11_13_21_23
    · obtain ⟨k1, k2, k3, k4, k5⟩ := HK.out
      refine wpAny_ready (rs := [13, 21, 23]) (by kernel_rfl) (by simp) ?_
      refine anyN_cons 13 rfl (by rfl) (fun K hK => ?_) (anyN_cons 21 rfl (by rfl) (fun K hK => ?_) (anyN_cons 23 rfl (by rfl) (fun K hK => ?_) AllReady.nil))
      · go_simp
        refine hK.out _ _ ?_
        clear hK K
        try simp only [aP]
        exact hs11_13_15_19
      · go_simp
        refine hK.out _ _ ?_
        clear hK K
        try simp only [aP]
        exact hs11_15_19_21
      · go_simp
        refine hK.out _ _ ?_
        clear hK K
        try simp only [aP]
        exact hs11_15_19_23
    · obtain ⟨k1, k2, k3, k4, k5⟩ := HK.out
      refine wpAny_ready (rs := [13, 19, 23]) (by kernel_rfl) (by simp) ?_
      refine anyN_cons 13 rfl (by rfl) (fun K hK => ?_) (anyN_cons 19 rfl (by rfl) (fun K hK => ?_) (anyN_cons 23 rfl (by rfl) (fun K hK => ?_) AllReady.nil))
      · go_simp
        refine hK.out _ _ ?_
        clear hK K
        try simp only [aP]
        exact hs11_13_15_21
      · go_simp
        refine hK.out _ _ ?_
        clear hK K
        try simp only [aP]
        exact hs11_15_19_21
      · go_simp
        refine hK.out _ _ ?_
        clear hK K
        try simp only [aP]
        exact hs11_15_21_23
    · obtain ⟨k1, k2, k3, k4, k5⟩ := HK.out
      refine wpAny_ready (rs := [13, 19, 21]) (by kernel_rfl) (by simp) ?_
      refine anyN_cons 13 rfl (by rfl) (fun K hK => ?_) (anyN_cons 19 rfl (by rfl) (fun K hK => ?_) (anyN_cons 21 rfl (by rfl) (fun K hK => ?_) AllReady.nil))
      · go_simp
        refine hK.out _ _ ?_
        clear hK K
        try simp only [aP]
        exact hs11_13_15_23
      · go_simp
        refine hK.out _ _ ?_
        clear hK K
        try simp only [aP]
        exact hs11_15_19_23
      · go_simp
        refine hK.out _ _ ?_
        clear hK K
        try simp only [aP]
        exact hs11_15_21_23
    · obtain ⟨k1, k2, k3, k4, k5⟩ := HK.out
      refine wpAny_ready (rs := [13, 15, 23]) (by kernel_rfl) (by simp) ?_
      refine anyN_cons 13 rfl (by rfl) (fun K hK => ?_) (anyN_cons 15 rfl (by rfl) (fun K hK => ?_) (anyN_cons 23 rfl (by rfl) (fun K hK => ?_) AllReady.nil))
      · go_simp
        refine hK.out _ _ ?_
        clear hK K
        try simp only [aP]
        exact hs11_13_19_21
      · go_simp
        refine hK.out _ _ ?_
        clear hK K
        try simp only [aP]
        exact hs11_15_19_21
      · go_simp
        refine hK.out _ _ ?_
        clear hK K
        try simp only [aP]
        exact hs11_19_21_23
    · obtain ⟨k1, k2, k3, k4, k5⟩ := HK.out
      refine wpAny_ready (rs := [13, 15, 21]) (by kernel_rfl) (by simp) ?_
      refine anyN_cons 13 rfl (by rfl) (fun K hK => ?_) (anyN_cons 15 rfl (by rfl) (fun K hK => ?_) (anyN_cons 21 rfl (by rfl) (fun K hK => ?_) AllReady.nil))
      · go_simp
        refine hK.out _ _ ?_
        clear hK K
        try simp only [aP]
        exact hs11_13_19_23
      · go_simp
        refine hK.out _ _ ?_
        clear hK K
        try simp only [aP]
        exact hs11_15_19_23
      · go_simp
        refine hK.out _ _ ?_
        clear hK K
        try simp only [aP]
        exact hs11_19_21_23
    · obtain ⟨k1, k2, k3, k4, k5⟩ := HK.out
      refine wpAny_ready (rs := [13, 15, 19]) (by kernel_rfl) (by simp) ?_
      refine anyN_cons 13 rfl (by rfl) (fun K hK => ?_) (anyN_cons 15 rfl (by rfl) (fun K hK => ?_) (anyN_cons 19 rfl (by rfl) (fun K hK => ?_) AllReady.nil))
      · go_simp
        refine hK.out _ _ ?_
        clear hK K
        try simp only [aP]
        exact hs11_13_21_23
      · go_simp
        refine hK.out _ _ ?_
        clear hK K
        try simp only [aP]
        exact hs11_15_21_23
      · go_simp
        refine hK.out _ _ ?_
        clear hK K
        try simp only [aP]
        exact hs11_19_21_23
    · obtain ⟨k1, k2, k3, k4, k5⟩ := HK.out
      refine wpAny_ready (rs := [11, 21, 23]) (by kernel_rfl) (by simp) ?_
      refine anyN_cons 11 rfl (by rfl) (fun K hK => ?_) (anyN_cons 21 rfl (by rfl) (fun K hK => ?_) (anyN_cons 23 rfl (by rfl) (fun K hK => ?_) AllReady.nil))
      · go_simp
        refine hK.out _ _ ?_
        clear hK K
        try simp only [aP]
        exact hs11_13_15_19
      · go_simp
        refine hK.out _ _ ?_
        clear hK K
        try simp only [aP]
        exact hs13_15_19_21
      · go_simp
        refine hK.out _ _ ?_
        clear hK K
        try simp only [aP]
        exact hs13_15_19_23
    · obtain ⟨k1, k2, k3, k4, k5⟩ := HK.out
      refine wpAny_ready (rs := [11, 19, 23]) (by kernel_rfl) (by simp) ?_
      refine anyN_cons 11 rfl (by rfl) (fun K hK => ?_) (anyN_cons 19 rfl (by rfl) (fun K hK => ?_) (anyN_cons 23 rfl (by rfl) (fun K hK => ?_) AllReady.nil))
      · go_simp
        refine hK.out _ _ ?_
        clear hK K
        try simp only [aP]
        exact hs11_13_15_21
      · go_simp
        refine hK.out _ _ ?_
        clear hK K
        try simp only [aP]
        exact hs13_15_19_21
      · go_simp
        refine hK.out _ _ ?_
        clear hK K
        try simp only [aP]
        exact hs13_15_21_23
    · obtain ⟨k1, k2, k3, k4, k5⟩ := HK.out
      refine wpAny_ready (rs := [11, 19, 21]) (by kernel_rfl) (by simp) ?_
      refine anyN_cons 11 rfl (by rfl) (fun K hK => ?_) (anyN_cons 19 rfl (by rfl) (fun K hK => ?_) (anyN_cons 21 rfl (by rfl) (fun K hK => ?_) AllReady.nil))
      · go_simp
        refine hK.out _ _ ?_
        clear hK K
        try simp only [aP]
        exact hs11_13_15_23
      · go_simp
        refine hK.out _ _ ?_
        clear hK K
        try simp only [aP]
        exact hs13_15_19_23
      · go_simp
        refine hK.out _ _ ?_
        clear hK K
        try simp only [aP]
        exact hs13_15_21_23
    · obtain ⟨k1, k2, k3, k4, k5⟩ := HK.out
      refine wpAny_ready (rs := [11, 15, 23]) (by kernel_rfl) (by simp) ?_
      refine anyN_cons 11 rfl (by rfl) (fun K hK => ?_) (anyN_cons 15 rfl (by rfl) (fun K hK => ?_) (anyN_cons 23 rfl (by rfl) (fun K hK => ?_) AllReady.nil))
      · go_simp
        refine hK.out _ _ ?_
        clear hK K
        try simp only [aP]
        exact hs11_13_19_21
      · go_simp
        refine hK.out _ _ ?_
        clear hK K
        try simp only [aP]
        exact hs13_15_19_21
      · go_simp
        refine hK.out _ _ ?_
        clear hK K
        try simp only [aP]
        exact hs13_19_21_23
    · obtain ⟨k1, k2, k3, k4, k5⟩ := HK.out
      refine wpAny_ready (rs := [11, 15, 21]) (by kernel_rfl) (by simp) ?_
      refine anyN_cons 11 rfl (by rfl) (fun K hK => ?_) (anyN_cons 15 rfl (by rfl) (fun K hK => ?_) (anyN_cons 21 rfl (by rfl) (fun K hK => ?_) AllReady.nil))
      · go_simp
        refine hK.out _ _ ?_
        clear hK K
        try simp only [aP]
        exact hs11_13_19_23
      · go_simp
        refine hK.out _ _ ?_
        clear hK K
        try simp only [aP]
        exact hs13_15_19_23
      · go_simp
        refine hK.out _ _ ?_
        clear hK K
        try simp only [aP]
        exact hs13_19_21_23
    · obtain ⟨k1, k2, k3, k4, k5⟩ := HK.out
      refine wpAny_ready (rs := [11, 15, 19]) (by kernel_rfl) (by simp) ?_
      refine anyN_cons 11 rfl (by rfl) (fun K hK => ?_) (anyN_cons 15 rfl (by rfl) (fun K hK => ?_) (anyN_cons 19 rfl (by rfl) (fun K hK => ?_) AllReady.nil))
      · go_simp
        refine hK.out _ _ ?_
        clear hK K
        try simp only [aP]
        exact hs11_13_21_23
      · go_simp
        refine hK.out _ _ ?_
        clear hK K
        try simp only [aP]
        exact hs13_15_21_23
      · go_simp
        refine hK.out _ _ ?_
        clear hK K
        try simp only [aP]
        exact hs13_19_21_23
    · obtain ⟨k1, k2, k3, k4, k5⟩ := HK.out
      refine wpAny_ready (rs := [11, 13, 23]) (by kernel_rfl) (by simp) ?_
      refine anyN_cons 11 rfl (by rfl) (fun K hK => ?_) (anyN_cons 13 rfl (by rfl) (fun K hK => ?_) (anyN_cons 23 rfl (by rfl) (fun K hK => ?_) AllReady.nil))
      · go_simp
        refine hK.out _ _ ?_
        clear hK K
        try simp only [aP]
        exact hs11_15_19_21
      · go_simp
        refine hK.out _ _ ?_
        clear hK K
        try simp only [aP]
        exact hs13_15_19_21
      · go_simp
        refine hK.out _ _ ?_
        clear hK K
        try simp only [aP]
        exact hs15_19_21_23
    · obtain ⟨k1, k2, k3, k4, k5⟩ := HK.out
      refine wpAny_ready (rs := [11, 13, 21]) (by kernel_rfl) (by simp) ?_
      refine anyN_cons 11 rfl (by rfl) (fun K hK => ?_) (anyN_cons 13 rfl (by rfl) (fun K hK => ?_) (anyN_cons 21 rfl (by rfl) (fun K hK => ?_) AllReady.nil))
      · go_simp
        refine hK.out _ _ ?_
        clear hK K
        try simp only [aP]
        exact hs11_15_19_23
      · go_simp
        refine hK.out _ _ ?_
        clear hK K
        try simp only [aP]
        exact hs13_15_19_23
      · go_simp
        refine hK.out _ _ ?_
        clear hK K
        try simp only [aP]
        exact hs15_19_21_23
    · obtain ⟨k1, k2, k3, k4, k5⟩ := HK.out
      refine wpAny_ready (rs := [11, 13, 19]) (by kernel_rfl) (by simp) ?_
      refine anyN_cons 11 rfl (by rfl) (fun K hK => ?_) (anyN_cons 13 rfl (by rfl) (fun K hK => ?_) (anyN_cons 19 rfl (by rfl) (fun K hK => ?_) AllReady.nil))
      · go_simp
        refine hK.out _ _ ?_
        clear hK K
        try simp only [aP]
        exact hs11_15_21_23
      · go_simp
        refine hK.out _ _ ?_
        clear hK K
        try simp only [aP]
        exact hs13_15_21_23
      · go_simp
        refine hK.out _ _ ?_
        clear hK K
        try simp only [aP]
        exact hs15_19_21_23
    · obtain ⟨k1, k2, k3, k4, k5⟩ := HK.out
      refine wpAny_ready (rs := [11, 13, 15]) (by kernel_rfl) (by simp) ?_
      refine anyN_cons 11 rfl (by rfl) (fun K hK => ?_) (anyN_cons 13 rfl (by rfl) (fun K hK => ?_) (anyN_cons 15 rfl (by rfl) (fun K hK => ?_) AllReady.nil))
      · go_simp
        refine hK.out _ _ ?_
        clear hK K
        try simp only [aP]
        exact hs11_19_21_23
      · go_simp
        refine hK.out _ _ ?_
        clear hK K
        try simp only [aP]
        exact hs13_19_21_23
      · go_simp
        refine hK.out _ _ ?_
        clear hK K
        try simp only [aP]
        exact hs15_19_21_23
    · intro v5 w5 H5
      obtain ⟨k1, k2, k3, k4, k5⟩ := HKo.out w5 H5.out.2
      refine wpAny_ready (rs := [19, 21, 23]) (by kernel_rfl) (by simp) ?_
      refine anyN_cons 19 rfl (by rfl) (fun K hK => ?_) (anyN_cons 21 rfl (by rfl) (fun K hK => ?_) (anyN_cons 23 rfl (by rfl) (fun K hK => ?_) AllReady.nil))
      · go_simp
        refine hK.out _ _ ?_
        clear hK K
        try simp only [aP]
        exact hs11_13_15_16_19 v5 w5 H5
      · go_simp
        refine hK.out _ _ ?_
        clear hK K
        try simp only [aP]
        exact hs11_13_15_16_21 v5 w5 H5
      · go_simp
        refine hK.out _ _ ?_
        clear hK K
        try simp only [aP]
        exact hs11_13_15_16_23 v5 w5 H5
    · obtain ⟨k1, k2, k3, k4, k5⟩ := HK.out
      refine wpAny_ready (rs := [16, 21, 23]) (by kernel_rfl) (by simp) ?_
      refine anyN_cons 16 rfl (by rfl) (fun K hK => ?_) (anyN_cons 21 rfl (by rfl) (fun K hK => ?_) (anyN_cons 23 rfl (by rfl) (fun K hK => ?_) AllReady.nil))
      · go_simp
        refine CS.out.mono ?_
        rintro e w5 ⟨v5, rfl, ho5, hb5⟩
        dsimp only
        have H5 : Hid (OwnE w5 wd.heap.size v5 (scanM E a.lo a.hi a.op a.back a.most) ∧ Below wd.heap.size wd w5) := ⟨ho5, hb5⟩
        clear ho5 hb5
        refine hK.out _ _ ?_
        clear hK K
        try simp only [aP]
        exact hs11_13_15_16_19 v5 w5 H5
      · go_simp
        refine hK.out _ _ ?_
        clear hK K
        try simp only [aP]
        exact hs11_13_15_19_21
      · go_simp
        refine hK.out _ _ ?_
        clear hK K
        try simp only [aP]
        exact hs11_13_15_19_23
    · obtain ⟨k1, k2, k3, k4, k5⟩ := HK.out
      refine wpAny_ready (rs := [16, 19, 23]) (by kernel_rfl) (by simp) ?_
      refine anyN_cons 16 rfl (by rfl) (fun K hK => ?_) (anyN_cons 19 rfl (by rfl) (fun K hK => ?_) (anyN_cons 23 rfl (by rfl) (fun K hK => ?_) AllReady.nil))
      · go_simp
        refine CS.out.mono ?_
        rintro e w5 ⟨v5, rfl, ho5, hb5⟩
        dsimp only
        have H5 : Hid (OwnE w5 wd.heap.size v5 (scanM E a.lo a.hi a.op a.back a.most) ∧ Below wd.heap.size wd w5) := ⟨ho5, hb5⟩
        clear ho5 hb5
        refine hK.out _ _ ?_
        clear hK K
        try simp only [aP]
        exact hs11_13_15_16_21 v5 w5 H5
      · go_simp
        refine hK.out _ _ ?_
        clear hK K
        try simp only [aP]
        exact hs11_13_15_19_21
      · go_simp
        refine hK.out _ _ ?_
        clear hK K
        try simp only [aP]
        exact hs11_13_15_21_23
    · obtain ⟨k1, k2, k3, k4, k5⟩ := HK.out
      refine wpAny_ready (rs := [16, 19, 21]) (by kernel_rfl) (by simp) ?_
      refine anyN_cons 16 rfl (by rfl) (fun K hK => ?_) (anyN_cons 19 rfl (by rfl) (fun K hK => ?_) (anyN_cons 21 rfl (by rfl) (fun K hK => ?_) AllReady.nil))
      · go_simp
        refine CS.out.mono ?_
        rintro e w5 ⟨v5, rfl, ho5, hb5⟩
        dsimp only
        have H5 : Hid (OwnE w5 wd.heap.size v5 (scanM E a.lo a.hi a.op a.back a.most) ∧ Below wd.heap.size wd w5) := ⟨ho5, hb5⟩
        clear ho5 hb5
        refine hK.out _ _ ?_
        clear hK K
        try simp only [aP]
        exact hs11_13_15_16_23 v5 w5 H5
      · go_simp
        refine hK.out _ _ ?_
        clear hK K
        try simp only [aP]
        exact hs11_13_15_19_23
      · go_simp
        refine hK.out _ _ ?_
        clear hK K
        try simp only [aP]
        exact hs11_13_15_21_23
    · obtain ⟨k1, k2, k3, k4, k5⟩ := HK.out
      refine wpAny_ready (rs := [15, 23]) (by kernel_rfl) (by simp) ?_
      refine anyN_cons 15 rfl (by rfl) (fun K hK => ?_) (anyN_cons 23 rfl (by rfl) (fun K hK => ?_) AllReady.nil)
      · go_simp
        refine hK.out _ _ ?_
        clear hK K
        try simp only [aP]
        exact hs11_13_15_19_21
      · go_simp
        refine hK.out _ _ ?_
        clear hK K
        try simp only [aP]
        exact hs11_13_19_21_23
    · obtain ⟨k1, k2, k3, k4, k5⟩ := HK.out
      refine wpAny_ready (rs := [15, 21]) (by kernel_rfl) (by simp) ?_
      refine anyN_cons 15 rfl (by rfl) (fun K hK => ?_) (anyN_cons 21 rfl (by rfl) (fun K hK => ?_) AllReady.nil)
      · go_simp
        refine hK.out _ _ ?_
        clear hK K
        try simp only [aP]
        exact hs11_13_15_19_23
      · go_simp
        refine hK.out _ _ ?_
        clear hK K
        try simp only [aP]
        exact hs11_13_19_21_23
    · obtain ⟨k1, k2, k3, k4, k5⟩ := HK.out
      refine wpAny_ready (rs := [15, 19]) (by kernel_rfl) (by simp) ?_
      refine anyN_cons 15 rfl (by rfl) (fun K hK => ?_) (anyN_cons 19 rfl (by rfl) (fun K hK => ?_) AllReady.nil)
      · go_simp
        refine hK.out _ _ ?_
        clear hK K
        try simp only [aP]
        exact hs11_13_15_21_23
      · go_simp
        refine hK.out _ _ ?_
        clear hK K
        try simp only [aP]
        exact hs11_13_19_21_23
    · obtain ⟨k1, k2, k3, k4, k5⟩ := HK.out
      refine wpAny_ready (rs := [13, 23]) (by kernel_rfl) (by simp) ?_
      refine anyN_cons 13 rfl (by rfl) (fun K hK => ?_) (anyN_cons 23 rfl (by rfl) (fun K hK => ?_) AllReady.nil)
      · go_simp
        refine hK.out _ _ ?_
        clear hK K
        try simp only [aP]
        exact hs11_13_15_19_21
      · go_simp
        refine hK.out _ _ ?_
        clear hK K
        try simp only [aP]
        exact hs11_15_19_21_23
    · obtain ⟨k1, k2, k3, k4, k5⟩ := HK.out
      refine wpAny_ready (rs := [13, 21]) (by kernel_rfl) (by simp) ?_
      refine anyN_cons 13 rfl (by rfl) (fun K hK => ?_) (anyN_cons 21 rfl (by rfl) (fun K hK => ?_) AllReady.nil)
      · go_simp
        refine hK.out _ _ ?_
        clear hK K
        try simp only [aP]
        exact hs11_13_15_19_23
      · go_simp
        refine hK.out _ _ ?_
        clear hK K
        try simp only [aP]
        exact hs11_15_19_21_23
    · obtain ⟨k1, k2, k3, k4, k5⟩ := HK.out
      refine wpAny_ready (rs := [13, 19]) (by kernel_rfl) (by simp) ?_
      refine anyN_cons 13 rfl (by rfl) (fun K hK => ?_) (anyN_cons 19 rfl (by rfl) (fun K hK => ?_) AllReady.nil)
      · go_simp
        refine hK.out _ _ ?_
        clear hK K
        try simp only [aP]
        exact hs11_13_15_21_23
      · go_simp
        refine hK.out _ _ ?_
        clear hK K
        try simp only [aP]
        exact hs11_15_19_21_23
    · obtain ⟨k1, k2, k3, k4, k5⟩ := HK.out
      refine wpAny_ready (rs := [13, 15]) (by kernel_rfl) (by simp) ?_
      refine anyN_cons 13 rfl (by rfl) (fun K hK => ?_) (anyN_cons 15 rfl (by rfl) (fun K hK => ?_) AllReady.nil)
      · go_simp
        refine hK.out _ _ ?_
        clear hK K
        try simp only [aP]
        exact hs11_13_19_21_23
      · go_simp
        refine hK.out _ _ ?_
        clear hK K
        try simp only [aP]
        exact hs11_15_19_21_23
    · obtain ⟨k1, k2, k3, k4, k5⟩ := HK.out
      refine wpAny_ready (rs := [11, 23]) (by kernel_rfl) (by simp) ?_
      refine anyN_cons 11 rfl (by rfl) (fun K hK => ?_) (anyN_cons 23 rfl (by rfl) (fun K hK => ?_) AllReady.nil)
      · go_simp
        refine hK.out _ _ ?_
        clear hK K
        try simp only [aP]
        exact hs11_13_15_19_21
      · go_simp
        refine hK.out _ _ ?_
        clear hK K
        try simp only [aP]
        exact hs13_15_19_21_23
    · obtain ⟨k1, k2, k3, k4, k5⟩ := HK.out
      refine wpAny_ready (rs := [11, 21]) (by kernel_rfl) (by simp) ?_
      refine anyN_cons 11 rfl (by rfl) (fun K hK => ?_) (anyN_cons 21 rfl (by rfl) (fun K hK => ?_) AllReady.nil)
      · go_simp
        refine hK.out _ _ ?_
        clear hK K
        try simp only [aP]
        exact hs11_13_15_19_23
      · go_simp
        refine hK.out _ _ ?_
        clear hK K
        try simp only [aP]
        exact hs13_15_19_21_23
    · obtain ⟨k1, k2, k3, k4, k5⟩ := HK.out
      refine wpAny_ready (rs := [11, 19]) (by kernel_rfl) (by simp) ?_
      refine anyN_cons 11 rfl (by rfl) (fun K hK => ?_) (anyN_cons 19 rfl (by rfl) (fun K hK => ?_) AllReady.nil)
      · go_simp
        refine hK.out _ _ ?_
        clear hK K
        try simp only [aP]
        exact hs11_13_15_21_23
      · go_simp
        refine hK.out _ _ ?_
        clear hK K
        try simp only [aP]
        exact hs13_15_19_21_23
    · obtain ⟨k1, k2, k3, k4, k5⟩ := HK.out
      refine wpAny_ready (rs := [11, 15]) (by kernel_rfl) (by simp) ?_
      refine anyN_cons 11 rfl (by rfl) (fun K hK => ?_) (anyN_cons 15 rfl (by rfl) (fun K hK => ?_) AllReady.nil)
      · go_simp
        refine hK.out _ _ ?_
        clear hK K
        try simp only [aP]
        exact hs11_13_19_21_23
      · go_simp
        refine hK.out _ _ ?_
        clear hK K
        try simp only [aP]
        exact hs13_15_19_21_23
    · obtain ⟨k1, k2, k3, k4, k5⟩ := HK.out
      refine wpAny_ready (rs := [11, 13]) (by kernel_rfl) (by simp) ?_
      refine anyN_cons 11 rfl (by rfl) (fun K hK => ?_) (anyN_cons 13 rfl (by rfl) (fun K hK => ?_) AllReady.nil)
      · go_simp
        refine hK.out _ _ ?_
        clear hK K
        try simp only [aP]
        exact hs11_15_19_21_23
      · go_simp
        refine hK.out _ _ ?_
        clear hK K
        try simp only [aP]
        exact hs13_15_19_21_23
    · intro v5 w5 H5
      obtain ⟨k1, k2, k3, k4, k5⟩ := HKo.out w5 H5.out.2
      refine wpAny_ready (rs := [21, 23]) (by kernel_rfl) (by simp) ?_
      refine anyN_cons 21 rfl (by rfl) (fun K hK => ?_) (anyN_cons 23 rfl (by rfl) (fun K hK => ?_) AllReady.nil)
      · go_simp
        refine hK.out _ _ ?_
        clear hK K
        try simp only [aP]
        exact hs11_13_15_16_19_21 v5 w5 H5
      · go_simp
        refine hK.out _ _ ?_
        clear hK K
        try simp only [aP]
        exact hs11_13_15_16_19_23 v5 w5 H5
    · intro v5 w5 H5
      obtain ⟨k1, k2, k3, k4, k5⟩ := HKo.out w5 H5.out.2
      refine wpAny_ready (rs := [19, 23]) (by kernel_rfl) (by simp) ?_
      refine anyN_cons 19 rfl (by rfl) (fun K hK => ?_) (anyN_cons 23 rfl (by rfl) (fun K hK => ?_) AllReady.nil)
      · go_simp
        refine hK.out _ _ ?_
        clear hK K
        try simp only [aP]
        exact hs11_13_15_16_19_21 v5 w5 H5
      · go_simp
        refine hK.out _ _ ?_
        clear hK K
        try simp only [aP]
        exact hs11_13_15_16_21_23 v5 w5 H5
    · intro v5 w5 H5
      obtain ⟨k1, k2, k3, k4, k5⟩ := HKo.out w5 H5.out.2
      refine wpAny_ready (rs := [19, 21]) (by kernel_rfl) (by simp) ?_
      refine anyN_cons 19 rfl (by rfl) (fun K hK => ?_) (anyN_cons 21 rfl (by rfl) (fun K hK => ?_) AllReady.nil)
      · go_simp
        refine hK.out _ _ ?_
        clear hK K
        try simp only [aP]
        exact hs11_13_15_16_19_23 v5 w5 H5
      · go_simp
        refine hK.out _ _ ?_
        clear hK K
        try simp only [aP]
        exact hs11_13_15_16_21_23 v5 w5 H5
    · obtain ⟨k1, k2, k3, k4, k5⟩ := HK.out
      refine wpAny_ready (rs := [16, 23]) (by kernel_rfl) (by simp) ?_
      refine anyN_cons 16 rfl (by rfl) (fun K hK => ?_) (anyN_cons 23 rfl (by rfl) (fun K hK => ?_) AllReady.nil)
      · go_simp
        refine CS.out.mono ?_
        rintro e w5 ⟨v5, rfl, ho5, hb5⟩
        dsimp only
        have H5 : Hid (OwnE w5 wd.heap.size v5 (scanM E a.lo a.hi a.op a.back a.most) ∧ Below wd.heap.size wd w5) := ⟨ho5, hb5⟩
        clear ho5 hb5
        refine hK.out _ _ ?_
        clear hK K
        try simp only [aP]
        exact hs11_13_15_16_19_21 v5 w5 H5
      · go_simp
        refine hK.out _ _ ?_
        clear hK K
        try simp only [aP]
        exact hs11_13_15_19_21_23
    · obtain ⟨k1, k2, k3, k4, k5⟩ := HK.out
      refine wpAny_ready (rs := [16, 21]) (by kernel_rfl) (by simp) ?_
      refine anyN_cons 16 rfl (by rfl) (fun K hK => ?_) (anyN_cons 21 rfl (by rfl) (fun K hK => ?_) AllReady.nil)
      · go_simp
        refine CS.out.mono ?_
        rintro e w5 ⟨v5, rfl, ho5, hb5⟩
        dsimp only
        have H5 : Hid (OwnE w5 wd.heap.size v5 (scanM E a.lo a.hi a.op a.back a.most) ∧ Below wd.heap.size wd w5) := ⟨ho5, hb5⟩
        clear ho5 hb5
        refine hK.out _ _ ?_
        clear hK K
        try simp only [aP]
        exact hs11_13_15_16_19_23 v5 w5 H5
      · go_simp
        refine hK.out _ _ ?_
        clear hK K
        try simp only [aP]
        exact hs11_13_15_19_21_23
    · obtain ⟨k1, k2, k3, k4, k5⟩ := HK.out
      refine wpAny_ready (rs := [16, 19]) (by kernel_rfl) (by simp) ?_
      refine anyN_cons 16 rfl (by rfl) (fun K hK => ?_) (anyN_cons 19 rfl (by rfl) (fun K hK => ?_) AllReady.nil)
      · go_simp
        refine CS.out.mono ?_
        rintro e w5 ⟨v5, rfl, ho5, hb5⟩
        dsimp only
        have H5 : Hid (OwnE w5 wd.heap.size v5 (scanM E a.lo a.hi a.op a.back a.most) ∧ Below wd.heap.size wd w5) := ⟨ho5, hb5⟩
        clear ho5 hb5
        refine hK.out _ _ ?_
        clear hK K
        try simp only [aP]
        exact hs11_13_15_16_21_23 v5 w5 H5
      · go_simp
        refine hK.out _ _ ?_
        clear hK K
        try simp only [aP]
        exact hs11_13_15_19_21_23
    · obtain ⟨k1, k2, k3, k4, k5⟩ := HK.out
      refine wpAny_ready (rs := [15]) (by kernel_rfl) (by simp) ?_
      refine anyN_cons 15 rfl (by rfl) (fun K hK => ?_) AllReady.nil
      go_simp
      refine hK.out _ _ ?_
      clear hK K
      try simp only [aP]
      exact hs11_13_15_19_21_23
    · obtain ⟨k1, k2, k3, k4, k5⟩ := HK.out
      refine wpAny_ready (rs := [13]) (by kernel_rfl) (by simp) ?_
      refine anyN_cons 13 rfl (by rfl) (fun K hK => ?_) AllReady.nil
      go_simp
      refine hK.out _ _ ?_
      clear hK K
      try simp only [aP]
      exact hs11_13_15_19_21_23
    · obtain ⟨k1, k2, k3, k4, k5⟩ := HK.out
      refine wpAny_ready (rs := [11]) (by kernel_rfl) (by simp) ?_
      refine anyN_cons 11 rfl (by rfl) (fun K hK => ?_) AllReady.nil
      go_simp
      refine hK.out _ _ ?_
      clear hK K
      try simp only [aP]
      exact hs11_13_15_19_21_23
    · intro v5 w5 H5
      obtain ⟨k1, k2, k3, k4, k5⟩ := HKo.out w5 H5.out.2
      refine wpAny_ready (rs := [23]) (by kernel_rfl) (by simp) ?_
      refine anyN_cons 23 rfl (by rfl) (fun K hK => ?_) AllReady.nil
      go_simp
      refine hK.out _ _ ?_
      clear hK K
      try simp only [aP]
      exact hs11_13_15_16_19_21_23 v5 w5 H5
    · intro v5 w5 H5
      obtain ⟨k1, k2, k3, k4, k5⟩ := HKo.out w5 H5.out.2
      refine wpAny_ready (rs := [21]) (by kernel_rfl) (by simp) ?_
      refine anyN_cons 21 rfl (by rfl) (fun K hK => ?_) AllReady.nil
      go_simp
      refine hK.out _ _ ?_
      clear hK K
      try simp only [aP]
      exact hs11_13_15_16_19_21_23 v5 w5 H5
    · intro v5 w5 H5
      obtain ⟨k1, k2, k3, k4, k5⟩ := HKo.out w5 H5.out.2
      refine wpAny_ready (rs := [19]) (by kernel_rfl) (by simp) ?_
      refine anyN_cons 19 rfl (by rfl) (fun K hK => ?_) AllReady.nil
      go_simp
      refine hK.out _ _ ?_
      clear hK K
      try simp only [aP]
      exact hs11_13_15_16_19_21_23 v5 w5 H5
    · obtain ⟨k1, k2, k3, k4, k5⟩ := HK.out
      refine wpAny_ready (rs := [16]) (by kernel_rfl) (by simp) ?_
      refine anyN_cons 16 rfl (by rfl) (fun K hK => ?_) AllReady.nil
      go_simp
      refine CS.out.mono ?_
      rintro e w5 ⟨v5, rfl, ho5, hb5⟩
      dsimp only
      have H5 : Hid (OwnE w5 wd.heap.size v5 (scanM E a.lo a.hi a.op a.back a.most) ∧ Below wd.heap.size wd w5) := ⟨ho5, hb5⟩
      clear ho5 hb5
      refine hK.out _ _ ?_
      clear hK K
      try simp only [aP]
      exact hs11_13_15_16_19_21_23 v5 w5 H5
    · intro v5 w5 H5
      obtain ⟨k1, k2, k3, k4, k5⟩ := HKo.out w5 H5.out.2
      refine wpAny_ready (rs := [24]) (by kernel_rfl) (by simp) ?_
      refine anyN_cons 24 rfl (by rfl) (fun K hK => ?_) AllReady.nil
      go_simp
      obtain ⟨hd1, hd2⟩ := H5.out
      have CR2 := CR.out w5 hd2
      refine CR2.mono ?_
      rintro e w6 ⟨v6, rfl, ho6, hb6⟩
      dsimp only
      have H6 : Hid (OwnE w6 wd.heap.size v5 (scanM E a.lo a.hi a.op a.back a.most) ∧ (∃ B6, OwnE w6 B6 v6 (scanM E a.lo a.hi a.op a.back a.most)) ∧ Below wd.heap.size wd w6) := ⟨owns_kept hd1 hb6, ⟨_, ho6⟩, hd2.trans (hb6.mono hd2.size)⟩
      clear ho6 hb6 CR2 hd1 hd2
      refine hK.out _ _ ?_
      clear hK K
      try simp only [aP]
      exact hs11_13_15_16_19_21_23_24 v5 v6 w6 H6
    · intro v5 v6 w6 H6
      refine wpAny_ready (rs := [25]) (by kernel_rfl) (by simp) ?_
      refine anyN_cons 25 rfl (by rfl) (fun K hK => ?_) AllReady.nil
      go_simp
      obtain ⟨hd1, ⟨B6, hd2⟩, hd3⟩ := H6.out
      obtain ⟨p5, c5, e5, hr5⟩ := own_rd hd1
      obtain ⟨p6, c6, e6, hr6⟩ := own_rd hd2
      have CM := rsame_any (scanM E a.lo a.hi a.op a.back a.most) p5 p6 c5 c6 w6 hr5 hr6 HAl.out
      rw [← e5, ← e6] at CM
      refine CM.mono ?_
      rintro e w7 ⟨rfl, hb7⟩
      dsimp only
      have H7 : Hid (Below wd.heap.size wd w7) := hd3.trans (hb7.mono hd3.size)
      clear hb7 CM hd1 hd2 hd3 hr5 hr6 e5 e6
      refine hK.out _ _ ?_
      clear hK K
      try simp only [aP]
      refine tk (v := ?_) 26 rfl ?_ ?_
      rotate_left
      focus
        intro w9
        go_simp
        try with_reducible rfl
      try simp only [aP]
      exact hs11_13_15_16_19_21_23_24_25 v5 v6 w7 H7
    · intro v5 v6 w7 H7
      refine wpAny_ready (rs := [27]) (by kernel_rfl) (by simp) ?_
      refine anyN_cons 27 rfl (by rfl) (fun K hK => ?_) AllReady.nil
      go_simp
      refine hK.out _ _ ?_
      clear hK K
      try simp only [aP]
      refine wpAny_done (by kernel_rfl) ?_ _
      go_wp2_with fail
      go_ret
      exact ⟨rfl, HB.out.trans (H7.out.mono HB.out.size)⟩

end Go.Proofs.Ytojfohpnfciajaa
