/- Layer 13: GapPlays. -/
import Derived.Test.YtcdamalpecedcaaGreatWGl5
namespace Go.Proofs.YtcdamalpecedcaaGreat
open Go.RowKit
set_option maxRecDepth 100000

/-- an act as it is read -/
structure AcG where
  kd : Int
  q : Option Addr
  c : Nat
  H : List Hd
  nn : Int
def RdG (w : World) (N : Nat) (q : Option Addr) (L : List AcG) : Prop := ∀ i (hi : i < L.length), ∃ b o, q = some ⟨b, o, none⟩ ∧ b < N ∧ w.cell? ⟨b, o + i * 3, none⟩ = some (.int .i64 L[i].kd) ∧ w.cell? ⟨b, o + i * 3 + 1, none⟩ = some (.slice L[i].q L[i].H.length L[i].c) ∧ w.cell? ⟨b, o + i * 3 + 2, none⟩ = some (.int .i64 L[i].nn) ∧ RdH w N L[i].q L[i].H ∧ L[i].H.length ≤ 2932031007317
theorem RdG.keep {w w' : World} {N : Nat} {q : Option Addr} {L : List AcG} (h : RdG w N q L) (hb : Below N w w') : RdG w' N q L := by
  intro i hi
  obtain ⟨b, o, e, hlt, c0, c1, c2, c3, c4⟩ := h i hi
  have k : ∀ n v, w.cell? ⟨b, n, none⟩ = some v → w'.cell? ⟨b, n, none⟩ = some v := fun n v hc => (hb.cell (p := ⟨b, n, none⟩) hlt).trans hc
  exact ⟨b, o, e, hlt, k _ _ c0, k _ _ c1, k _ _ c2, c3.keep hb, c4⟩
/-- all blocks that a Gaps writes are not below N -/
def LowG (N gb : Nat) (Y : List Tkr) : Prop := N ≤ gb ∧ ∀ y ∈ Y, N ≤ y.b ∧ N ≤ y.ch
theorem LowG.gv {N gb : Nat} {Y : List Tkr} (h : LowG N gb Y) (k : Nat) (hk : gvF gb Y k) : N ≤ k := by
  rcases hk with hk | ⟨y, hy, hk | hk⟩
  · rw [hk]; exact h.1
  · rw [hk]; exact (h.2 y hy).1
  · rw [hk]; exact (h.2 y hy).2
/-- GapPlays between two acts: i are done -/
def PlS (w wq : World) (gb mb i : Nat) : Prop := ∃ v ls Y D, PG wq gb ls v Y D ∧ Blk wq mb #[v, .int .u64 ((ls : Nat) : Int)] 28 ∧ Below w.heap.size w wq ∧ LowG w.heap.size gb Y ∧ ls ≤ i ∧ w.heap.size ≤ mb
theorem PlS.on {w wq w' : World} {gb mb i : Nat} (h : PlS w wq gb mb i) (hb : Below wq.heap.size wq w') : PlS w w' gb mb i := by
  obtain ⟨v, ls, Y, D, h1, h2, h3, h4, h5, h6⟩ := h
  exact ⟨v, ls, Y, D, h1.on hb, h2.on hb, h3.trans (hb.mono h3.size), h4, h5, h6⟩

set_option maxHeartbeats 16000000 in
theorem lawPlays (L : List AcG) (q : Option Addr) (c : Nat) (w : World) (hR : RdG w w.heap.size q L) (hl : L.length ≤ 5900000000000) :
    Calls Tryz.prog 3 #[.slice q L.length c] w fun e w' => e = .returned (.bool true) ∧ Below w.heap.size w w' := by
  have HR : Hid (RdG w w.heap.size q L) := hR
  obtain ⟨n, hn⟩ : ∃ n, L.length = n := ⟨_, rfl⟩
  have HN : Hid (L.length = n) := hn
  rw [hn] at hl ⊢
  have HNb : Hid (n ≤ 5900000000000) := hl
  clear hR hn
  go_enter Tryz.func3, Tryz.ntmps3
  go_wp2_with fail
  refine (gnew_any w).mono ?_
  rintro e w1 ⟨gb, rfl, hg, hgb, hb1⟩
  dsimp only
  obtain ⟨aX, hal, -⟩ := blk_new w1 #[.slice none 0 0, .int .u64 0] 28
  have HI0 : Hid (PlS w (w1.alloc (.cells #[.slice none 0 0, .int .u64 0] 28)) gb w1.heap.size 0) := by
    refine ⟨.slice none 0 0, 0, [], [], ⟨hg.on hal, ⟨World.ownsRow_nil _ _ _ _, fun d hd => by cases hd⟩, rfl⟩, aX, hb1.trans (hal.mono hb1.size), ⟨hgb, fun y hy => by cases hy⟩, Nat.le_refl _, hb1.size⟩
  have CI : Hid (Calls _ _ _ _ _) := is_any gb 0 (.slice none 0 0) [] [] (w1.alloc (.cells #[.slice none 0 0, .int .u64 0] 28)) ⟨hg.on hal, ⟨World.ownsRow_nil _ _ _ _, fun d hd => by cases hd⟩, rfl⟩ (by decide)
  have x0 := aX.cell (i := 0) rfl
  have x1 := aX.cell (i := 1) rfl
  clear aX hal hg hgb hb1
  go_wp2_with fail
  generalize w1.alloc (.cells #[.slice none 0 0, .int .u64 0] 28) = w2 at *
  refine CI.out.mono ?_
  rintro e w3 ⟨rfl, hb3⟩
  dsimp only
  have HI3 : Hid (PlS w w3 gb w1.heap.size 0) := HI0.out.on hb3
  clear hb3 CI HI0 x0 x1
  generalize w1.heap.size = mb at *
  go_upto_region 6 with fail
  go_loopw [5, 6] (fun _ si wq => ∃ i : Nat, i ≤ n ∧ si = .int .i64 (i : Int) ∧ Hid (PlS w wq gb mb i)) (fun _ si _ => ((n : Int) - intOf si).toNat)
  case atStart => exact ⟨0, by omega, rfl, HI3⟩
  case round =>
    clear HI3
    obtain ⟨i, hi, rfl, HI⟩ := hrel
    have HIn : Hid (i ≤ n) := hi
    rcases Nat.lt_or_eq_of_le hi with hlt | heq
    · have g1 : decide ((i : Int) < (n : Int)) = true := by simp; omega
      have hiL : i < L.length := by rw [HN.out]; exact hlt
      have HIn : Hid (i < n) := hlt
      have hdr : Below wr.heap.size wr wr.drew := (Below.refl _ _).drew
      obtain ⟨v, ls, Y, D, hp, hm, hb, hlo, hle, hml⟩ := HI.out.on hdr
      obtain ⟨q0, c0, hv, -⟩ := hp.d.rd
      obtain ⟨m0, hm0⟩ : ∃ m0, D.length = m0 := ⟨_, rfl⟩
      rw [hm0] at hv
      subst hv
      have HPd : Hid (PG wr.drew gb ls (.slice q0 m0 c0) Y D) := hp
      have HMd : Hid (Blk wr.drew mb #[.slice q0 m0 c0, .int .u64 ((ls : Nat) : Int)] 28) := hm
      have HLd : Hid (Below w.heap.size w wr.drew) := hb
      have HLo : Hid (LowG w.heap.size gb Y) := hlo
      have HLs : Hid (ls ≤ i) := hle
      have HMl : Hid (w.heap.size ≤ mb) := hml
      obtain ⟨b, o, hq, hbl, y0, y1, y2, hrh, hhl⟩ := HR.out.keep hb i hiL
      subst hq
      have CD : Hid (Calls _ _ _ _ _) := does_any gb ls L[i].c L[i].kd L[i].nn L[i].q L[i].H (.slice q0 m0 c0) Y D wr.drew hp (hrh.wide hb.size) hhl (by omega)
      have s0 := hm.cell (i := 0) rfl
      have s1 := hm.cell (i := 1) rfl
      clear hdr hp hm hb hlo hle hml hm0 hbl hrh hhl HI
      generalize L[i].kd = kd at *
      generalize L[i].nn = nn at *
      generalize L[i].q = lq at *
      generalize L[i].c = lc at *
      generalize L[i].H.length = ln at *
      go_upto_region 8 with fail
      refine wp_region_any (by kernel_rfl) ?_
      change wpAny _ _ _ _ _ _ _ (World.drew _)
      generalize wr.drew = wd at *
      refine tk (v := ?_) 0 rfl ?_ ?_
      rotate_left
      focus
        intro w9
        go_simp
        try with_reducible rfl
      try simp only [aP]
      refine tk (v := ?_) 2 rfl ?_ ?_
      rotate_left
      focus
        intro w9
        go_simp
        try with_reducible rfl
      try simp only [aP]
      refine tk (v := ?_) 3 rfl ?_ ?_
      rotate_left
      focus
        intro w9
        go_simp
        try with_reducible rfl
      try simp only [aP]
      refine tk (v := ?_) 4 rfl ?_ ?_
      rotate_left
      focus
        intro w9
        go_simp
        try with_reducible rfl
      try simp only [aP]
      apply later7 (fun (q5 : Option Addr) (m5 : Nat) (c5 : Nat) (ls5 : Nat) (Y5 : List Tkr) (D5 : List Dk) (w5 : World) => Hid (PG w5 gb ls5 (.slice q5 m5 c5) Y5 D5 ∧ ls5 ≤ ls + 1 ∧ DoR wd w5 gb Y Y5 D D5))
      intro hs1_5_6_10
      apply later7 (fun (q5 : Option Addr) (m5 : Nat) (c5 : Nat) (ls5 : Nat) (Y5 : List Tkr) (D5 : List Dk) (w5 : World) => Hid (PG w5 gb ls5 (.slice q5 m5 c5) Y5 D5 ∧ ls5 ≤ ls + 1 ∧ DoR wd w5 gb Y Y5 D D5))
      intro hs1_5_6
      apply later0
      intro hs1_5
      apply later0
      intro hs5
      apply later0
      intro hs1
      · refine wpAny_ready (rs := [1, 5]) (by kernel_rfl) (by simp) ?_
        refine anyN_cons 1 rfl (by rfl) (fun K hK => ?_) (anyN_cons 5 rfl (by rfl) (fun K hK => ?_) AllReady.nil)
        · go_simp
          refine hK.out _ _ ?_
          clear hK K
          try simp only [aP]
          exact hs1
        · go_simp
          refine hK.out _ _ ?_
          clear hK K
          try simp only [aP]
          exact hs5
      · refine wpAny_ready (rs := [5]) (by kernel_rfl) (by simp) ?_
        refine anyN_cons 5 rfl (by rfl) (fun K hK => ?_) AllReady.nil
        go_simp
        refine hK.out _ _ ?_
        clear hK K
        try simp only [aP]
        exact hs1_5
      · refine wpAny_ready (rs := [1]) (by kernel_rfl) (by simp) ?_
        refine anyN_cons 1 rfl (by rfl) (fun K hK => ?_) AllReady.nil
        go_simp
        refine hK.out _ _ ?_
        clear hK K
        try simp only [aP]
        exact hs1_5
      · refine wpAny_ready (rs := [6]) (by kernel_rfl) (by simp) ?_
        refine anyN_cons 6 rfl (by rfl) (fun K hK => ?_) AllReady.nil
        go_simp
        refine CD.out.mono ?_
        rintro e w5 ⟨v5, ls5, Y5, D5, rfl, hp5, hl5, hr5⟩
        dsimp only
        obtain ⟨q5, c5, hv5, -⟩ := hp5.d.rd
        obtain ⟨m5, hm5⟩ : ∃ m5, D5.length = m5 := ⟨_, rfl⟩
        rw [hm5] at hv5
        subst hv5
        have H5 : Hid (PG w5 gb ls5 (.slice q5 m5 c5) Y5 D5 ∧ ls5 ≤ ls + 1 ∧ DoR wd w5 gb Y Y5 D D5) := ⟨hp5, hl5, hr5⟩
        clear hp5 hl5 hr5 hm5
        refine hK.out _ _ ?_
        clear hK K
        try simp only [aP]
        refine tk (v := ?_) 7 rfl ?_ ?_
        rotate_left
        focus
          intro w9
          go_simp
          try with_reducible rfl
        try simp only [aP]
        refine tk (v := ?_) 8 rfl ?_ ?_
        rotate_left
        focus
          intro w9
          go_simp
          try with_reducible rfl
        try simp only [aP]
        refine tk (v := ?_) 9 rfl ?_ ?_
        rotate_left
        focus
          intro w9
          go_simp
          try with_reducible rfl
        try simp only [aP]
        exact hs1_5_6 q5 m5 c5 ls5 Y5 D5 w5 H5
      · intro q5 m5 c5 ls5 Y5 D5 w5 H5
        have HM5 : Hid (Blk w5 mb #[.slice q0 m0 c0, .int .u64 (ls : Nat)] 28) := blk_frm HMd.out H5.out.2.2.f (only_gv HPd.out.g) (by decide) (by decide)
        have r0 := HM5.out.cell (i := 0) rfl
        have r1 := HM5.out.cell (i := 1) rfl
        have f0 := HM5.out.frozen 0
        have f1 := HM5.out.frozen 1
        refine wpAny_ready (rs := [10]) (by kernel_rfl) (by simp) ?_
        refine anyN_cons 10 rfl (by rfl) (fun K hK => ?_) AllReady.nil
        go_simp
        refine hK.out _ _ ?_
        clear hK K
        try simp only [aP]
        exact hs1_5_6_10 q5 m5 c5 ls5 Y5 D5 w5 H5
      · intro q5 m5 c5 ls5 Y5 D5 w5 H5
        refine tk (v := ?_) 11 rfl ?_ ?_
        rotate_left
        focus
          intro w9
          go_simp
          try with_reducible rfl
        try simp only [aP]
        refine wpAny_done (by kernel_rfl) ?_ _
        have HM5 : Hid (Blk w5 mb #[.slice q0 m0 c0, .int .u64 (ls : Nat)] 28) := blk_frm HMd.out H5.out.2.2.f (only_gv HPd.out.g) (by decide) (by decide)
        have HFZ : Hid (Frm w5 ((w5.setCell ⟨mb, 0, none⟩ (.slice q5 m5 c5)).setCell ⟨mb, 1, none⟩ (.int .u64 (ls5 : Nat))) (fun k => k = mb)) := (frm_set w5 _ 0 _ (F := fun k => k = mb) (.inl rfl)).trans (frm_set _ _ 1 _ (F := fun k => k = mb) (.inl rfl)) (fun k hk => .inl hk)
        have HIZ : Hid (PlS w ((w5.setCell ⟨mb, 0, none⟩ (.slice q5 m5 c5)).setCell ⟨mb, 1, none⟩ (.int .u64 (ls5 : Nat))) gb mb (i + 1)) := by
          have hlo : ∀ k, gvF gb Y k → w.heap.size ≤ k := HLo.out.gv
          have hbd : Below w.heap.size w w5 := HLd.out.trans (H5.out.2.2.f.below HLd.out.size hlo)
          have hbz : Below w.heap.size w ((w5.setCell ⟨mb, 0, none⟩ (.slice q5 m5 c5)).setCell ⟨mb, 1, none⟩ (.int .u64 (ls5 : Nat))) := hbd.trans (HFZ.out.below hbd.size (fun k hk => by rw [hk]; exact HMl.out))
          refine ⟨_, ls5, Y5, D5, PG.box H5.out.1 HM5.out HFZ.out, (HM5.out.set 0 _).set 1 _, hbz, ⟨HLo.out.1, fun y hy => ?_⟩, by have := H5.out.2.1; have := HLs.out; omega, HMl.out⟩
          rcases H5.out.2.2.n y hy with h9 | h9
          · exact HLo.out.2 y h9
          · exact ⟨Nat.le_trans HLd.out.size h9.1, Nat.le_trans HLd.out.size h9.2⟩
        clear HFZ HM5
        generalize ((w5.setCell ⟨mb, 0, none⟩ (.slice q5 m5 c5)).setCell ⟨mb, 1, none⟩ (.int .u64 (ls5 : Nat))) = w6 at *
        by_cases h60 : n < 60
        · have g60 : (n : Int) < 60 := by omega
          obtain ⟨v6, ls6, Y6, D6, hp6, hm6, hb6, hlo6, hle6, hml6⟩ := HIZ.out
          have x0 := hm6.cell (i := 0) rfl
          have x1 := hm6.cell (i := 1) rfl
          have CI : Hid (Calls _ _ _ _ _) := is_any gb ls6 v6 Y6 D6 w6 hp6 (by have := HNb.out; have := HIn.out; omega)
          clear hp6 hm6 hb6 hlo6 hle6 hml6
          go_wp2_with fail
          refine CI.out.mono ?_
          rintro e w7 ⟨rfl, hb7⟩
          dsimp only
          have HI7 : Hid (PlS w w7 gb mb (i + 1)) := HIZ.out.on hb7
          clear hb7 CI x0 x1
          go_wp2_with fail
          go_roundw
          case rel => exact ⟨i + 1, by omega, by go_num, HI7⟩
          case measure => simp [intOf]; omega
        · have g60 : ¬ (n : Int) < 60 := by omega
          go_wp2_with fail
          go_roundw
          case rel => exact ⟨i + 1, by omega, by go_num, HIZ⟩
          case measure => simp [intOf]; omega
    · have g1 : decide ((i : Int) < (n : Int)) = false := by simp; omega
      obtain ⟨v6, ls6, Y6, D6, hp6, hm6, hb6, hlo6, hle6, hml6⟩ := HI.out
      have x0 := hm6.cell (i := 0) rfl
      have x1 := hm6.cell (i := 1) rfl
      have CI : Hid (Calls _ _ _ _ _) := is_any gb ls6 v6 Y6 D6 wr hp6 (by have := HNb.out; have := HIn.out; omega)
      have HB6 : Hid (Below w.heap.size w wr) := hb6
      clear hp6 hm6 hb6 hlo6 hle6 hml6
      go_wp2_with fail
      refine CI.out.mono ?_
      rintro e w7 ⟨rfl, hb7⟩
      dsimp only
      have HB7 : Hid (Below w.heap.size w w7) := HB6.out.trans (hb7.mono HB6.out.size)
      clear hb7 CI x0 x1
      go_wp2_with fail
      refine (awake_any w7).mono ?_
      rintro e w8 ⟨rfl, hb8⟩
      dsimp only
      have HB8 : Hid (Below w.heap.size w w8) := HB7.out.trans (hb8.mono HB7.out.size)
      clear hb8
      go_wp2_with fail
      go_ret
      exact ⟨rfl, HB8.out⟩
end Go.Proofs.YtcdamalpecedcaaGreat
