/- reads: a row reads the same by both. made: a store behind some acts. -/
import Derived.Deep.Cut
import Derived.Deep.CutRange
import Derived.Test.YtcibcfghkidncaaGreatDoorGWLw22
namespace Go.Proofs.YtcibcfghkidncaaGreatDoor
open Go.RowKit Go.Lib
set_option maxRecDepth 100000

theorem readS_PS {N : Nat → Prop} {w : World} {B sb most : Nat} {M : List Rs} {Kn J : Nat} {v : Value} (h : PS N w B sb most M Kn J v) (hJ : J ≤ 3518437208000) (s txn st : Int) :
  Calls Tryz.prog 15 #[ptr1 sb, .int .i64 s, .int .i64 txn, .int .u64 st] w fun e w' => (∃ p c, e = .returned (.tuple #[.slice p (shwL (seeR (getR M s).L (getR M s).W (getR M s).tx txn st)).length c, .bool (shwB (seeR (getR M s).L (getR M s).W (getR M s).tx txn st))]) ∧ SlV w' w'.heap.size (.slice p (shwL (seeR (getR M s).L (getR M s).W (getR M s).tx txn st)).length c) (shwL (seeR (getR M s).L (getR M s).W (getR M s).tx txn st))) ∧ Below w.heap.size w w' := by
 obtain ⟨F, ⟨pb, dl, dm, pv, tv, C, T, sv, wo, hX, hd0, hI, hW, hF⟩, hn⟩ := h.sto
 refine (read_any s txn st w hX (by rw [hX.plc.len]; have h1 := hI.len; have h2 := hI.mst; omega) J hI.ok hJ).mono ?_
 rintro e w1 ⟨⟨v1, rfl, ho⟩, hb⟩
 have hs := ho.sl
 obtain ⟨p, c, rfl, _⟩ := hs
 exact ⟨⟨p, c, rfl, ho.sl⟩, hb⟩
theorem shwL_len {J : Nat} {r : Rs} (h : OkR J r) (txn st : Int) : (shwL (seeR r.L r.W r.tx txn st)).length ≤ 3518437208780 := by
 cases hs : seeR r.L r.W r.tx txn st with
 | none => simp [shwL]
 | some x =>
  have hx : x.row.length ≤ 3518437208780 := by
   unfold seeR at hs
   split at hs
   ·exact shortR_mem h.sW (List.mem_of_getElem? hs)
   ·exact shortR_mem h.sL (List.mem_of_getElem? hs)
  unfold shwL
  dsimp only
  split
  ·simp
  ·exact hx

set_option maxHeartbeats 4000000 in
theorem reads_any (N : Nat → Prop) (B sb most : Nat) (M : List Rs) (Kn J : Nat) (v : Value) (s txn st : Int) (w : World) (h : PS N w B sb most M Kn J v) (hJ : J ≤ 3518437208000) :
  Calls Tryz.prog 14 #[ptr1 sb, .agg #[.int .i64 (most : Nat), v], .int .i64 s, .int .i64 txn, .int .u64 st] w fun e w' => e = .returned (.bool true) ∧ Below w.heap.size w w' := by
 obtain ⟨p, c, hv, _⟩ := h.doc.len
 obtain ⟨n, hn⟩ : ∃ n, (docL M).length = n := ⟨_, rfl⟩
 rw [hn] at hv
 subst hv
 obtain ⟨bX, bB, bS⟩ := one_new w #[.int .i64 (most : Nat), .slice p n c] 29
 have HP : Hid (PS N (w.alloc (.cells #[.int .i64 (most : Nat), .slice p n c] 29)) B sb most M Kn J (.slice p n c)) := h.on bB
 have HX : Hid (Box _ _ _ _) := bX
 have HB : Hid (Below _ _ _) := bB
 have HLe : Hid ((shwL (seeR (getR M s).L (getR M s).W (getR M s).tx txn st)).length ≤ 3518437208780) := shwL_len (OkR.get h.ok.1 s) txn st
 clear bX bB bS h hn
 go_enter Tryz.func14, Tryz.ntmps14
 go_upto_region 1 with fail
 generalize (w.alloc (.cells #[.int .i64 (most : Nat), .slice p n c] 29)) = w0 at *
 obtain ⟨x0, x1, _, _⟩ := box2 HX.out
 have C1 : Hid (Calls _ _ _ _ _) := readS_PS HP.out hJ s txn st
 go_wp2_with fail
 refine C1.out.mono ?_
 rintro e w1 ⟨⟨p1, c1, rfl, hs1⟩, hb1⟩
 have HP1 : Hid (PS N w1 B sb most M Kn J (.slice p n c)) := HP.out.on hb1
 obtain ⟨y0, y1, _, _⟩ := box2 (HX.out.on hb1)
 have HB1 : Hid (Below w.heap.size w w1) := HB.out.trans (hb1.mono HB.out.size)
 have HS1 : Hid (SlV w1 w1.heap.size _ _) := hs1
 clear hs1 hb1 C1 x0 x1
 have C2 : Hid (Calls _ _ _ _ _) := readD_any B most J _ M s txn st w1 HP1.out.doc HP1.out.ok.1 HP1.out.len hJ
 go_wp2_with fail
 refine C2.out.mono ?_
 rintro e w2 ⟨⟨v2, rfl, hs2⟩, hb2⟩
 have hs2' := hs2
 obtain ⟨p2, c2, rfl, _⟩ := hs2
 have HB2 : Hid (Below w.heap.size w w2) := HB1.out.trans (hb2.mono HB1.out.size)
 have C3 : Hid (Calls _ _ _ _ _) := rsameRow_any _ _ p1 p2 c1 c2 w2 (HS1.out.imm (Imm.of_below hb2)).row hs2'.row (by have := HLe.out; omega) (by have := HLe.out; omega)
 rw [sameL_refl] at C3
 clear hs2' hb2 C2 y0 y1 HS1
 generalize (shwL (seeR (getR M s).L (getR M s).W (getR M s).tx txn st)).length = nx at *
 generalize shwB (seeR (getR M s).L (getR M s).W (getR M s).tx txn st) = bx at *
 have hbb : (bx == bx) = true := by simp
 go_wp2_with fail
 refine C3.out.mono ?_
 rintro e w3 ⟨rfl, hb3⟩
 have HB3 : Hid (Below w.heap.size w w3) := HB2.out.trans (hb3.mono HB2.out.size)
 go_wp2_with fail
 go_ret
 exact ⟨rfl, HB3.out⟩

end Go.Proofs.YtcibcfghkidncaaGreatDoor

namespace Go.Proofs.YtcibcfghkidncaaGreatDoor
open Go.RowKit Go.Lib
set_option maxRecDepth 100000

theorem PS.lay2 {N : Nat → Prop} {w : World} {B sb most : Nat} {M : List Rs} {Kn J : Nat} {v : Value} {b : Nat} {a0 : Int} {p q : Option Addr} {n c m d : Nat} (h : PS N w B sb most M Kn J v) (hN : N b ∨ b < B) (hg : 1 ≠ b) (hb : Box w b #[.int .i64 a0, .slice p n c] 29) (a : Int) : PS N ((w.setCell ⟨b, 0, none⟩ (.int .i64 a)).setCell ⟨b, 1, none⟩ (.slice q m d)) B sb most M Kn J v ∧ Box ((w.setCell ⟨b, 0, none⟩ (.int .i64 a)).setCell ⟨b, 1, none⟩ (.slice q m d)) b #[.int .i64 a, .slice q m d] 29 ∧ Frm w ((w.setCell ⟨b, 0, none⟩ (.int .i64 a)).setCell ⟨b, 1, none⟩ (.slice q m d)) (one1 b) := by
 obtain ⟨h2, hI, hF⟩ := int_int hb a q m d
 obtain ⟨F, hs, hn⟩ := h.sto
 have hM : Imm w ((w.setCell ⟨b, 0, none⟩ (.int .i64 a)).setCell ⟨b, 1, none⟩ (.slice q m d)) := Imm.of_frm hF (fun k hk => by rw [show k = b from hk]; exact hb.mut (pln2 _ _ _ _ _) (by decide))
 have hnf : ¬ F b := fun hf => by
  rcases hN with hN | hN
  ·exact (hn b hN).1 hf
  ·have := (hs.mut hf).2.1
   omega
 obtain ⟨pb, dl, dm, pv, tv, C, T, sv, wo, hX, hd0, hI9, hW, hFF⟩ := hs
 refine ⟨⟨⟨F, ⟨pb, dl, dm, pv, tv, C, T, sv, wo, hX.keep hF hM (fun k hk e => ?_), hd0, hI9, hW, hFF⟩, fun k hk => ⟨(hn k hk).1, Nat.lt_of_lt_of_le (hn k hk).2 hF.size⟩⟩, h.doc.imm hM, fun j hj => ?_, h.glo, Nat.le_trans h.hB hF.size⟩, h2, hF⟩
 ·have e9 : k = b := e
  subst e9
  exact hnf ((hFF k).2 hk)
 ·exact (World.cell?_of_block (a := ⟨_, j, none⟩) (hF.block _ (Nat.lt_of_lt_of_le h.glo h.hB) hg)).trans (h.tab j hj)

set_option maxHeartbeats 8000000 in
theorem made_bad (most : Int) (pA : Option Addr) (n cA : Nat) (w : World) (hm : most < 1 ∨ 65536 < most) :
  Calls Tryz.prog 13 #[.int .i64 most, .slice pA n cA] w fun e w' => e = .returned (.tuple #[.pointer none, .agg #[.int .i64 0, .slice none 0 0], .bool true]) ∧ Below w.heap.size w w' := by
 obtain ⟨bX, bB, bS⟩ := one_new w #[.int .i64 0, .slice none 0 0] 29
 have C1 : Hid (Calls _ _ _ _ _) := newS_bad most (w.alloc (.cells #[.int .i64 0, .slice none 0 0] 29)) hm
 have C2 : Hid (Calls _ _ _ _ _) := newD_bad most (w.alloc (.cells #[.int .i64 0, .slice none 0 0] 29)) hm
 have HX : Hid (Box _ _ _ _) := bX
 have HB : Hid (Below _ _ _) := bB
 clear bX bB bS hm
 go_enter Tryz.func13, Tryz.ntmps13
 go_upto_region 1 with fail
 generalize (w.alloc (.cells #[.int .i64 0, .slice none 0 0] 29)) = w0 at *
 go_wp2_with fail
 refine C1.out.mono ?_
 rintro e w1 ⟨rfl, rfl⟩
 go_wp2_with fail
 refine C2.out.mono ?_
 rintro e w2 ⟨rfl, hb2⟩
 obtain ⟨cX, cB, cS⟩ := one_new w2 #[.int .i64 0, .slice none 0 0] 29
 have hb3 := hb2.trans (cB.mono hb2.size)
 have HX3 : Hid (Box _ _ _ _) := HX.out.on hb3
 have HM3 : Hid (Box _ _ _ _) := cX
 have HB3 : Hid (Below _ _ _) := HB.out.trans (hb3.mono HB.out.size)
 clear C1 C2 hb2 cX cB cS hb3
 go_upto_region 3 with fail
 generalize (w2.alloc (.cells #[.int .i64 0, .slice none 0 0] 29)) = w3 at *
 obtain ⟨x0, x1, x2, x3⟩ := box2 HX3.out
 obtain ⟨y0, y1, _, _⟩ := box2 HM3.out
 go_wp2_with fail
 go_region
 go_wp2_with fail
 obtain ⟨f0, f1, fb, _⟩ := ret2 (wq := w3) HB3.out HX3.out (Nat.le_refl _) 0 (.slice none 0 0)
 (try simp only [Exit.inBlock, Exit.then])
 refine bodyPost_ret (v := .tuple #[.pointer none, .agg #[.int .i64 0, .slice none 0 0], .bool true]) (by simp [results, Tryz.results13, go_sem, f0, f1]) rfl ?_
 exact ⟨rfl, fb.drew⟩
theorem RdA.mono {w : World} {B C : Nat} {p : Option Addr} {A : List AcR} (h : RdA w B p A) (hc : B ≤ C) : RdA w C p A := by
 intro i hi
 obtain ⟨b, o, q, c, e, hl, h1, hr, hq⟩ := h i hi
 exact ⟨b, o, q, c, e, Nat.lt_of_lt_of_le hl hc, h1, hr.mono hc, hq⟩

set_option maxHeartbeats 16000000 in
theorem made_ok (most : Nat) (A : List AcR) (pA : Option Addr) (cA : Nat) (w : World) (hT : Tab w) (hg : 1 < w.heap.size) (hm1 : 1 ≤ most) (hm2 : most ≤ 65536) (hA : RdA w w.heap.size pA A) (hk : ∀ a ∈ A, a.ok) (hl : A.length ≤ 1759218604442) :
  Calls Tryz.prog 13 #[.int .i64 (most : Nat), .slice pA A.length cA] w fun e w' => ∃ v, e = .returned (.tuple #[ptr1 (w.heap.size + 1), .agg #[.int .i64 (most : Nat), v], .bool true]) ∧ PS none1 w' (w.heap.size + 1) (w.heap.size + 1) most (runM most A) (65537 * A.length) A.length v ∧ Below w.heap.size w w' := by
 obtain ⟨bX, bB, bS⟩ := one_new w #[.int .i64 0, .slice none 0 0] 29
 have C1 : Hid (Calls _ _ _ _ _) := newS_ok most (w.alloc (.cells #[.int .i64 0, .slice none 0 0] 29)) hm1 hm2
 have C2 : Hid (∀ w1, Calls Tryz.prog 9 #[.int .i64 (most : Nat)] w1 fun e w' => e = .returned (.tuple #[.agg #[.int .i64 (most : Nat), .slice none 0 0], .int .i64 0]) ∧ Below w1.heap.size w1 w') := fun w1 => newD_ok most w1 hm1 hm2
 have HT : Hid (Tab (w.alloc (.cells #[.int .i64 0, .slice none 0 0] 29)) ∧ 1 < (w.alloc (.cells #[.int .i64 0, .slice none 0 0] 29)).heap.size) := ⟨hT.keep bB hg, by rw [bS]; omega⟩
 have HA : Hid (RdA (w.alloc (.cells #[.int .i64 0, .slice none 0 0] 29)) (w.alloc (.cells #[.int .i64 0, .slice none 0 0] 29)).heap.size pA A ∧ ∀ a ∈ A, a.ok) := ⟨(hA.keep bB).mono bB.size, hk⟩
 have HR0 : Hid (Box _ _ _ _) := bX
 have HB0 : Hid (Below _ _ _) := bB
 have HS0 : Hid ((w.alloc (.cells #[.int .i64 0, .slice none 0 0] 29)).heap.size = w.heap.size + 1) := bS
 have HG : Hid (1 < w.heap.size) := hg
 clear hT hg hm1 hm2 hA hk bX bB bS
 obtain ⟨n, hn⟩ : ∃ n, A.length = n := ⟨_, rfl⟩
 have HN : Hid (A.length = n) := hn
 rw [hn] at hl
 rw [hn]
 clear hn
 go_enter Tryz.func13, Tryz.ntmps13
 go_upto_region 1 with fail
 generalize (w.alloc (.cells #[.int .i64 0, .slice none 0 0] 29)) = w0 at *
 go_wp2_with fail
 refine C1.out.mono ?_
 rintro e w1 ⟨rfl, ⟨F, hs1, hF1⟩, hb1⟩
 go_wp2_with fail
 refine (C2.out _).mono ?_
 rintro e w2 ⟨rfl, hb2⟩
 obtain ⟨bX, bB, bS⟩ := one_new w2 #[.int .i64 (most : Nat), .slice none 0 0] 29
 have hb3 := hb2.trans (bB.mono hb2.size)
 have hsb := hs1.ok.2.2.2.2
 have HL0 : Hid (PL w0 _ most w2.heap.size 0 (runM most (A.take 0)) (.slice none 0 0)) := ⟨⟨⟨F, hs1.on hb3, fun k hk => by
  rw [show k = w2.heap.size from hk]
  exact ⟨fun hf => by have h8 := (hs1.mut hf).2.2; have h9 := hb2.size; omega, by rw [bS]; omega⟩⟩, DocS.nil _ _, (HT.out.1.keep hb1 HT.out.2).keep hb3 (Nat.lt_of_lt_of_le HT.out.2 hb1.size), HT.out.2, Nat.le_trans hb1.size hb3.size⟩, bX, hb1.trans (hb3.mono hb1.size), by have h9 := hb2.size; omega⟩
 clear C1 C2 hs1 hF1 hb1 hb2 bX bB bS hb3 hsb
 go_upto_region 3 with fail
 generalize (w2.alloc (.cells #[.int .i64 (most : Nat), .slice none 0 0] 29)) = w3 at *
 generalize w2.heap.size = bm at *
 go_wp2_with fail
 go_loopw [11, 12] (fun o i wq => ∃ (j : Nat) (p2 : Option Addr) (n2 c2 : Nat) (b : Bool), j ≤ n ∧ i = .int .i64 (j : Int) ∧ o = .bool b ∧ Hid (PL w0 wq most bm j (runM most (A.take j)) (.slice p2 n2 c2))) (fun _ i _ => n - (intOf i).toNat)
 case atStart => exact ⟨0, none, 0, 0, false, Nat.zero_le _, by go_num, rfl, HL0⟩
 case round =>
  obtain ⟨j, p2, n2, c2, b0, hj, rfl, rfl, HL1⟩ := hrel
  by_cases hj0 : j = n
  ·subst hj0
   have HL : Hid (PL w0 wr most bm j (runM most A) (.slice p2 n2 c2)) := by
    have h1 := HL1.out
    rw [List.take_of_length_le (by rw [HN.out]; exact Nat.le_refl _)] at h1
    exact h1
   have HLd : Hid (PL w0 wr.drew most bm j (runM most A) (.slice p2 n2 c2)) := HL.out.on ((Below.refl _ _).drew)
   have HRd : Hid (Box wr.drew w.heap.size #[.int .i64 0, .slice none 0 0] 29) := (HR0.out.keep HL.out.bel (by have h8 := HS0.out; omega)).on ((Below.refl _ _).drew)
   have HCi : Hid (Calls _ _ _ _ _) := is_any (one1 bm) _ _ _ _ _ _ _ _ HLd.out.ps (fun e => by have h8 := HLd.out.lo; have h9 : w0.heap.size = bm := e; omega) (by omega)
   clear HL1
   go_upto_region 14 with fail
   refine wp_region_any (by kernel_rfl) ?_
   change wpAny _ _ _ _ _ _ _ (World.drew _)
   refine tk (v := ?_) 0 rfl ?_ ?_
   rotate_left
   focus
    intro w9
    go_simp
    try with_reducible rfl
   try simp only [aP]
   refine tk (v := ?_) 2 rfl ?_ ?_
   rotate_left
   focus
    intro w9
    go_simp
    try with_reducible rfl
   try simp only [aP]
   apply later1 (fun (w3 : World) => Hid (PL w0 w3 most bm j (runM most A) (.slice p2 n2 c2) ∧ Box w3 w.heap.size #[.int .i64 0, .slice none 0 0] 29))
   intro hs1_3_4_5
   apply later1 (fun (w3 : World) => Hid (PL w0 w3 most bm j (runM most A) (.slice p2 n2 c2) ∧ Box w3 w.heap.size #[.int .i64 0, .slice none 0 0] 29))
   intro hs3_4_5
   apply later1 (fun (w3 : World) => Hid (PL w0 w3 most bm j (runM most A) (.slice p2 n2 c2) ∧ Box w3 w.heap.size #[.int .i64 0, .slice none 0 0] 29))
   intro hs1_3_4
   apply later1 (fun (w3 : World) => Hid (PL w0 w3 most bm j (runM most A) (.slice p2 n2 c2) ∧ Box w3 w.heap.size #[.int .i64 0, .slice none 0 0] 29))
   intro hs3_4
   apply later0
   intro hs1_3
   apply later0
   intro hs3
   apply later0
   intro hs1
   ·obtain ⟨m0, m1, m2, m3⟩ := HL.out.cells
    refine wpAny_ready (rs := [1, 3]) (by kernel_rfl) (by simp) ?_
    refine anyN_cons 1 rfl (by rfl) (fun K hK => ?_) (anyN_cons 3 rfl (by rfl) (fun K hK => ?_) AllReady.nil)
    ·go_simp
     refine hK.out _ _ ?_
     clear hK K
     try simp only [aP]
     exact hs1
    ·go_simp
     refine hK.out _ _ ?_
     clear hK K
     try simp only [aP]
     exact hs3
   ·obtain ⟨m0, m1, m2, m3⟩ := HL.out.cells
    refine wpAny_ready (rs := [3]) (by kernel_rfl) (by simp) ?_
    refine anyN_cons 3 rfl (by rfl) (fun K hK => ?_) AllReady.nil
    go_simp
    refine hK.out _ _ ?_
    clear hK K
    try simp only [aP]
    exact hs1_3
   ·obtain ⟨m0, m1, m2, m3⟩ := HL.out.cells
    refine wpAny_ready (rs := [1, 4]) (by kernel_rfl) (by simp) ?_
    refine anyN_cons 1 rfl (by rfl) (fun K hK => ?_) (anyN_cons 4 rfl (by rfl) (fun K hK => ?_) AllReady.nil)
    ·go_simp
     refine hK.out _ _ ?_
     clear hK K
     try simp only [aP]
     exact hs1_3
    ·go_simp
     refine HCi.out.mono ?_
     rintro e w3 ⟨rfl, hp3, hf3⟩
     dsimp only
     have HE : Hid (PL w0 w3 most bm j (runM most A) (.slice p2 n2 c2) ∧ Box w3 w.heap.size #[.int .i64 0, .slice none 0 0] 29) := ⟨(HLd.out.is hp3 hf3), HRd.out.frm hf3 (fun e => by have h9 : w.heap.size = w0.heap.size := e; have h8 := HS0.out; omega)⟩
     clear hp3 hf3
     refine hK.out _ _ ?_
     clear hK K
     try simp only [aP]
     exact hs3_4 w3 HE
   ·obtain ⟨m0, m1, m2, m3⟩ := HL.out.cells
    refine wpAny_ready (rs := [4]) (by kernel_rfl) (by simp) ?_
    refine anyN_cons 4 rfl (by rfl) (fun K hK => ?_) AllReady.nil
    go_simp
    refine HCi.out.mono ?_
    rintro e w3 ⟨rfl, hp3, hf3⟩
    dsimp only
    have HE : Hid (PL w0 w3 most bm j (runM most A) (.slice p2 n2 c2) ∧ Box w3 w.heap.size #[.int .i64 0, .slice none 0 0] 29) := ⟨(HLd.out.is hp3 hf3), HRd.out.frm hf3 (fun e => by have h9 : w.heap.size = w0.heap.size := e; have h8 := HS0.out; omega)⟩
    clear hp3 hf3
    refine hK.out _ _ ?_
    clear hK K
    try simp only [aP]
    exact hs1_3_4 w3 HE
   ·intro w3 HE
    obtain ⟨m0, m1, m2, m3⟩ := HE.out.1.cells
    obtain ⟨r0, r1, r2, r3⟩ := box2 HE.out.2
    refine wpAny_ready (rs := [1, 5]) (by kernel_rfl) (by simp) ?_
    refine anyN_cons 1 rfl (by rfl) (fun K hK => ?_) (anyN_cons 5 rfl (by rfl) (fun K hK => ?_) AllReady.nil)
    ·go_simp
     refine hK.out _ _ ?_
     clear hK K
     try simp only [aP]
     exact hs1_3_4 w3 HE
    ·go_simp
     refine hK.out _ _ ?_
     clear hK K
     try simp only [aP]
     exact hs3_4_5 w3 HE
   ·intro w3 HE
    obtain ⟨m0, m1, m2, m3⟩ := HE.out.1.cells
    obtain ⟨r0, r1, r2, r3⟩ := box2 HE.out.2
    refine wpAny_ready (rs := [5]) (by kernel_rfl) (by simp) ?_
    refine anyN_cons 5 rfl (by rfl) (fun K hK => ?_) AllReady.nil
    go_simp
    refine hK.out _ _ ?_
    clear hK K
    try simp only [aP]
    exact hs1_3_4_5 w3 HE
   ·intro w3 HE
    obtain ⟨m0, m1, m2, m3⟩ := HE.out.1.cells
    obtain ⟨r0, r1, r2, r3⟩ := box2 HE.out.2
    refine wpAny_ready (rs := [1]) (by kernel_rfl) (by simp) ?_
    refine anyN_cons 1 rfl (by rfl) (fun K hK => ?_) AllReady.nil
    go_simp
    refine hK.out _ _ ?_
    clear hK K
    try simp only [aP]
    exact hs1_3_4_5 w3 HE
   ·intro w3 HE
    obtain ⟨m0, m1, m2, m3⟩ := HE.out.1.cells
    obtain ⟨r0, r1, r2, r3⟩ := box2 HE.out.2
    refine wpAny_ready (rs := [6]) (by kernel_rfl) (by simp) ?_
    refine anyN_cons 6 rfl (by rfl) (fun K hK => ?_) AllReady.nil
    go_simp
    refine hK.out _ _ ?_
    clear hK K
    try simp only [aP]
    refine wpAny_ready (rs := [7]) (by kernel_rfl) (by simp) ?_
    refine anyN_cons 7 rfl (by rfl) (fun K hK => ?_) AllReady.nil
    go_simp
    refine hK.out _ _ ?_
    clear hK K
    try simp only [aP]
    refine wpAny_done (by kernel_rfl) ?_ _
    go_wp2_with fail
    obtain ⟨z1, z2, z3⟩ := HE.out.1.ps.lay2 (q := p2) (m := n2) (d := c2) (.inr (by have h8 := HS0.out; omega)) (by have h8 := HG.out; omega) HE.out.2 (most : Nat)
    have hB9 : Below w.heap.size w ((w3.setCell ⟨w.heap.size, 0, none⟩ (.int .i64 (most : Nat))).setCell ⟨w.heap.size, 1, none⟩ (.slice p2 n2 c2)) := (HB0.out.trans (HE.out.1.bel.mono (by have h8 := HS0.out; omega))).trans (z3.below (Nat.le_trans HB0.out.size HE.out.1.bel.size) (fun k hk => by rw [show k = w.heap.size from hk]; exact Nat.le_refl _))
    obtain ⟨f0, f1, _, _⟩ := box2 z2
    generalize (w3.setCell ⟨w.heap.size, 0, none⟩ (.int .i64 (most : Nat))).setCell ⟨w.heap.size, 1, none⟩ (.slice p2 n2 c2) = w9 at *
    (try simp only [Exit.inBlock, Exit.then])
    refine bodyPost_ret (v := .tuple #[ptr1 w0.heap.size, .agg #[.int .i64 (most : Nat), .slice p2 n2 c2], .bool true]) (by simp [results, Tryz.results13, go_sem, f0, f1]) rfl ?_
    exact ⟨_, by rw [HS0.out], by rw [← HN.out]; exact (by have h9 := z1.less (N' := none1) (fun _ h => h.elim); rw [HS0.out, ← HN.out] at h9; exact h9), hB9⟩
  ·have hj1 : j < A.length := by rw [HN.out]; omega
   have hjn : j < n := by omega
   have HL : Hid (PL w0 wr most bm j (runM most (A.take j)) (.slice p2 n2 c2)) := HL1.out
   have HLd : Hid (PL w0 wr.drew most bm j (runM most (A.take j)) (.slice p2 n2 c2)) := HL.out.on ((Below.refl _ _).drew)
   obtain ⟨b, o, q, c, e, ⟨k0, k1, k2, k3, k4, k5, k6, k7⟩, hc⟩ := HLd.out.does HA.out.1 hj1 HA.out.2 (by rw [HN.out]; exact hl)
   subst e
   have HC : Hid (Calls _ _ _ _ _) := hc
   clear hc HLd HL1
   change wr.cell? _ = _ at k0 k1 k2 k3 k4 k5 k6 k7
   generalize A[j].k = x0 at *
   generalize A[j].sl = x1 at *
   generalize A[j].tx = x2 at *
   generalize A[j].v.n = x3 at *
   generalize A[j].v.gn = x4 at *
   generalize A[j].v.row.length = x5 at *
   generalize A[j].st = x6 at *
   generalize A[j].lv = x7 at *
   clear hj1
   go_upto_region 11 with fail
   go_cut [11] from 37 to 56 (fun o wx => o = .bool true ∧ Hid (∃ p3 n3 c3, PL w0 wx most bm (j + 1) (runM most (A.take (j + 1))) (.slice p3 n3 c3)))
   case first =>
    refine wp_region_any (by kernel_rfl) ?_
    change wpAny _ _ _ _ _ _ _ (World.drew _)
    refine tk (v := ?_) 0 rfl ?_ ?_
    rotate_left
    focus
     intro w9
     go_simp
     try with_reducible rfl
    try simp only [aP]
    refine tk (v := ?_) 2 rfl ?_ ?_
    rotate_left
    focus
     intro w9
     go_simp
     try with_reducible rfl
    try simp only [aP]
    refine tk (v := ?_) 3 rfl ?_ ?_
    rotate_left
    focus
     intro w9
     go_simp
     try with_reducible rfl
    try simp only [aP]
    refine tk (v := ?_) 4 rfl ?_ ?_
    rotate_left
    focus
     intro w9
     go_simp
     try with_reducible rfl
    try simp only [aP]
    apply later4 (fun (w3 : World) (p3 : Option Addr) (n3 : Nat) (c3 : Nat) => Hid (PM w0 w3 most bm (j + 1) (runM most (A.take (j + 1))) (.slice p2 n2 c2) (.slice p3 n3 c3)))
    intro hs1_5_6
    apply later0
    intro hs1_5
    apply later0
    intro hs5
    apply later0
    intro hs1
    ·obtain ⟨m0, m1, m2, m3⟩ := HL.out.cells
     refine wpAny_ready (rs := [1, 5]) (by kernel_rfl) (by simp) ?_
     refine anyN_cons 1 rfl (by rfl) (fun K hK => ?_) (anyN_cons 5 rfl (by rfl) (fun K hK => ?_) AllReady.nil)
     ·go_simp
      refine hK.out _ _ ?_
      clear hK K
      try simp only [aP]
      exact hs1
     ·go_simp
      refine hK.out _ _ ?_
      clear hK K
      try simp only [aP]
      exact hs5
    ·obtain ⟨m0, m1, m2, m3⟩ := HL.out.cells
     refine wpAny_ready (rs := [5]) (by kernel_rfl) (by simp) ?_
     refine anyN_cons 5 rfl (by rfl) (fun K hK => ?_) AllReady.nil
     go_simp
     refine hK.out _ _ ?_
     clear hK K
     try simp only [aP]
     exact hs1_5
    ·obtain ⟨m0, m1, m2, m3⟩ := HL.out.cells
     refine wpAny_ready (rs := [1]) (by kernel_rfl) (by simp) ?_
     refine anyN_cons 1 rfl (by rfl) (fun K hK => ?_) AllReady.nil
     go_simp
     refine hK.out _ _ ?_
     clear hK K
     try simp only [aP]
     exact hs1_5
    ·obtain ⟨m0, m1, m2, m3⟩ := HL.out.cells
     refine wpAny_ready (rs := [6]) (by kernel_rfl) (by simp) ?_
     refine anyN_cons 6 rfl (by rfl) (fun K hK => ?_) AllReady.nil
     go_simp
     refine HC.out.mono ?_
     rintro e w3 ⟨v3, rfl, hm⟩
     dsimp only
     obtain ⟨p3, n3, c3, e3⟩ : ∃ p3 n3 c3, v3 = .slice p3 n3 c3 := by obtain ⟨p3, c3, e3, _⟩ := hm.ps.doc.len; exact ⟨p3, _, c3, e3⟩
     subst e3
     have HM : Hid (PM w0 w3 most bm (j + 1) (runM most (A.take (j + 1))) (.slice p2 n2 c2) (.slice p3 n3 c3)) := hm
     clear hm
     refine hK.out _ _ ?_
     clear hK K
     try simp only [aP]
     refine tk (v := ?_) 7 rfl ?_ ?_
     rotate_left
     focus
      intro w9
      go_simp
      try with_reducible rfl
     try simp only [aP]
     refine tk (v := ?_) 8 rfl ?_ ?_
     rotate_left
     focus
      intro w9
      go_simp
      try with_reducible rfl
     try simp only [aP]
     refine tk (v := ?_) 9 rfl ?_ ?_
     rotate_left
     focus
      intro w9
      go_simp
      try with_reducible rfl
     try simp only [aP]
     exact hs1_5_6 w3 p3 n3 c3 HM
    ·intro w3 p3 n3 c3 HM
     obtain ⟨m0, m1, m2, m3⟩ := HM.out.cells
     refine wpAny_ready (rs := [10]) (by kernel_rfl) (by simp) ?_
     refine anyN_cons 10 rfl (by rfl) (fun K hK => ?_) AllReady.nil
     go_simp
     refine hK.out _ _ ?_
     clear hK K
     try simp only [aP]
     refine wpAny_ready (rs := [11]) (by kernel_rfl) (by simp) ?_
     refine anyN_cons 11 rfl (by rfl) (fun K hK => ?_) AllReady.nil
     go_simp
     refine hK.out _ _ ?_
     clear hK K
     try simp only [aP]
     refine wpAny_done (by kernel_rfl) ?_ _
     go_wp2_with fail
     go_meet
     exact ⟨rfl, p3, n3, c3, HM.out.lay⟩
   case rest =>
    obtain ⟨rfl, hcx⟩ := hcut
    obtain ⟨p3, n3, c3, hl3⟩ := hcx.out
    have HL3 : Hid (PL w0 wc most bm (j + 1) (runM most (A.take (j + 1))) (.slice p3 n3 c3)) := hl3
    clear hl3 hcx k0 k1 k2 k3 k4 k5 k6 k7 HC
    go_wp2_with fail
    go_roundw
    case rel => exact ⟨j + 1, p3, n3, c3, true, by omega, by go_num, rfl, HL3⟩
    case measure => simp [intOf]; omega

end Go.Proofs.YtcibcfghkidncaaGreatDoor
