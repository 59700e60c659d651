/- SnapPlays: the law's walk. -/
import Derived.Test.YtbmgkoifidhfjaaMOp10
namespace Go.Proofs.Ytbmgkoifidhfjaa
open Go.RowKit
set_option maxRecDepth 100000

set_option maxHeartbeats 8000000 in
theorem lawPlays (fl : Nat) (L : List OpC) (q : Option Addr) (c : Nat) (w : World) (hR : RdO w w.heap.size q L) (hlen : L.length ≤ 8796093022208) :
    Calls Try.prog 4 #[.int .u64 (fl : Nat), .slice q L.length c] w fun e w' => e = .returned (.bool true) ∧ Below w.heap.size w w' := by
  have HR : Hid (RdO _ _ _ _) := hR
  clear hR
  have C1 : Hid (Calls _ _ _ _ _) := new_any fl w
  go_enter Try.func4, Try.ntmps4
  go_wp2_with fail
  refine C1.out.mono ?_
  rintro e w1 ⟨⟨hf, rfl⟩ | ⟨hf, sb, rfl, hsb, hs1⟩, hb1⟩
  · have C2 : Hid (Calls _ _ _ _ _) := rnew_any fl w1
    have HB1 : Hid (Below w.heap.size w w1) := hb1
    have HF : Hid (4611686018427387904 < fl) := hf
    clear hb1 hf C1
    go_wp2_with fail
    refine C2.out.mono ?_
    rintro e w2 ⟨⟨_, rfl⟩ | ⟨hf2, _⟩, hb2⟩
    · have HB3 : Hid (Below w.heap.size w (w2.alloc (.cells #[.int .u64 0, .slice none 0 0] 29))) := (HB1.out.trans (hb2.mono HB1.out.size)).trans (((Below.refl _ _).alloc (Nat.le_refl _) _).mono (Nat.le_trans HB1.out.size hb2.size))
      clear hb2 C2
      go_wp2_with fail
      generalize (w2.alloc (.cells #[.int .u64 0, .slice none 0 0] 29)) = w3 at *
      have C3 : Hid (Calls _ _ _ _ _) := awake_any w3
      go_loopw [9, 10] (fun o i wr => o = .bool true ∧ i = .int .i64 0 ∧ wr = w3) (fun _ _ _ => 0)
      case atStart => exact ⟨rfl, by go_num, rfl⟩
      case round =>
        obtain ⟨rfl, rfl, hwr⟩ := hrel
        rw [hwr]
        clear hwr
        by_cases hl : 0 < L.length
        · have hl2 : (0 : Int) < (L.length : Int) := by omega
          clear hl
          go_wp2_with fail
          refine C3.out.mono ?_
          rintro e w4 ⟨rfl, hb4⟩
          have HB4 : Hid (Below w.heap.size w w4) := HB3.out.trans (hb4.mono HB3.out.size)
          clear hb4 C3
          go_wp2_with fail
          go_ret
          exact ⟨rfl, HB4.out⟩
        · have hl2 : L.length = 0 := by omega
          rw [hl2]
          clear hl hl2
          go_wp2_with fail
          refine C3.out.mono ?_
          rintro e w4 ⟨rfl, hb4⟩
          have HB4 : Hid (Below w.heap.size w w4) := HB3.out.trans (hb4.mono HB3.out.size)
          clear hb4 C3
          go_wp2_with fail
          go_ret
          exact ⟨rfl, HB4.out⟩
    · exact absurd HF.out (by omega)
  · have C2 : Hid (Calls _ _ _ _ _) := rnew_any fl w1
    have HB1 : Hid (Below w.heap.size w w1) := hb1
    have HF : Hid (fl ≤ 4611686018427387904) := hf
    have HS1 : Hid (Snp w1 sb fl []) := hs1
    have HSB : Hid (w.heap.size ≤ sb ∧ sb < w1.heap.size) := ⟨hsb, by obtain ⟨_, _, _, _, hx⟩ := hs1; exact hx.blk.lt⟩
    clear hb1 hf C1 hs1 hsb
    go_wp2_with fail
    refine C2.out.mono ?_
    rintro e w2 ⟨⟨hf2, _⟩ | ⟨_, rfl⟩, hb2⟩
    · exact absurd HF.out (by omega)
    have L3 : Below w2.heap.size w2 (w2.alloc (.cells #[.int .u64 (fl : Nat), .slice none 0 0] 29)) := (Below.refl _ _).alloc (Nat.le_refl _) _
    have HB3 : Hid (Below w.heap.size w (w2.alloc (.cells #[.int .u64 (fl : Nat), .slice none 0 0] 29))) := (HB1.out.trans (hb2.mono HB1.out.size)).trans (L3.mono (Nat.le_trans HB1.out.size hb2.size))
    have HX3 : Hid (BoxT (w2.alloc (.cells #[.int .u64 (fl : Nat), .slice none 0 0] 29)) w2.heap.size #[.int .u64 (fl : Nat), .slice none 0 0] 29) := BoxT.new _ _ _
    have HS3 : Hid (Snp (w2.alloc (.cells #[.int .u64 (fl : Nat), .slice none 0 0] 29)) sb fl []) := (HS1.out.on hb2).on L3
    have HLO : Hid (w.heap.size ≤ sb ∧ w.heap.size ≤ w2.heap.size) := ⟨HSB.out.1, Nat.le_trans HB1.out.size hb2.size⟩
    have HNE : Hid (w2.heap.size ≠ sb) := by have h1 := HSB.out.2; have h2 := hb2.size; show _ ≠ _; omega
    obtain ⟨bx, hbx⟩ : ∃ bx, bx = w2.heap.size := ⟨_, rfl⟩
    rw [← hbx] at HX3 HLO HNE
    clear hb2 C2 L3 HS1 HSB HB1
    go_wp2_with fail
    rw [← hbx]
    generalize (w2.alloc (.cells #[.int .u64 (fl : Nat), .slice none 0 0] 29)) = w3 at *
    clear hbx HF
    go_loopw [9, 10] (fun o i wr => ∃ (j f : Nat) (R : List Rd) (v : Value), j ≤ L.length ∧ o = .bool true ∧ i = .int .i64 (j : Int) ∧ Hid (Snp wr sb f R) ∧ Hid (OwR wr 0 v R) ∧ Hid (BoxT wr bx #[.int .u64 (f : Nat), v] 29) ∧ Hid (Below w.heap.size w wr)) (fun _ i _ => L.length - (intOf i).toNat)
    case atStart => exact ⟨0, fl, [], _, Nat.zero_le _, rfl, by go_num, HS3, OwR.nil _ _, HX3, HB3⟩
    case round =>
      obtain ⟨j, f, R, v, hj, rfl, rfl, hS, hO, HBX, hB⟩ := hrel
      clear HS3 HX3 HB3
      by_cases hj0 : j = L.length
      · subst hj0
        have C4 : Hid (Calls _ _ _ _ _) := awake_any wr
        go_wp2_with fail
        refine C4.out.mono ?_
        rintro e w5 ⟨rfl, hb5⟩
        have HB5 : Hid (Below w.heap.size w w5) := hB.out.trans (hb5.mono hB.out.size)
        clear hb5 C4
        go_wp2_with fail
        go_ret
        exact ⟨rfl, HB5.out⟩
      · have hj1 : j < L.length := by omega
        obtain ⟨p, l, c1, rfl⟩ : ∃ p l c, v = .slice p l c := by
          obtain ⟨p, c, e, -⟩ := hO.out.rd
          exact ⟨_, _, _, e⟩
        obtain ⟨g, o, rfl, hgB, d0, d1, d2⟩ := HR.out j hj1
        have e0 := (hB.out.cell (p := ⟨g, o + j * 3, none⟩) hgB).trans d0
        have e1 := (hB.out.cell (p := ⟨g, o + j * 3 + 1, none⟩) hgB).trans d1
        have e2 := (hB.out.cell (p := ⟨g, o + j * 3 + 2, none⟩) hgB).trans d2
        have y0 : wr.cell? ⟨bx, 0, none⟩ = some (.int .u64 (f : Nat)) := HBX.out.cell
        have y1 : wr.cell? ⟨bx, 1, none⟩ = some (.slice p l c1) := HBX.out.cell
        clear d0 d1 d2
        have C1 : Hid (True → Calls Try.prog 12 #[ptr1 sb, .agg #[.int .u64 (f : Nat), .slice p l c1], .agg #[.int .i64 L[j].k, .int .u64 (L[j].s : Nat), .int .i64 L[j].n]] wr.drew fun e w' => (∃ v', e = .returned (.tuple #[.agg #[.int .u64 ((stepF L[j].k L[j].s f R) : Nat), v'], .bool true]) ∧ OwR w' 0 v' (stepR L[j].k L[j].n L[j].s f R)) ∧ Snp w' sb (stepF L[j].k L[j].s f R) (stepR L[j].k L[j].n L[j].s f R) ∧ Frm wr.drew w' (fun k => k = sb)) := fun _ => play_any L[j].k sb f L[j].s L[j].n (.slice p l c1) R wr.drew hS.out.drew hO.out
        generalize stepF L[j].k L[j].s f R = f2 at *
        generalize stepR L[j].k L[j].n L[j].s f R = R2 at *
        generalize L[j].k = ak at *
        generalize L[j].n = an at *
        generalize L[j].s = as' at *
        clear hS hO HR
        go_wp2_with fail
        refine wp_region_any (by kernel_rfl) ?_
        change wpAny _ _ _ _ _ _ _ (World.drew _)
        refine anyN_take (v := ?_) 0 rfl (by kernel_rfl) (by kernel_rfl) (by kernel_rfl) (fun _ _ _ h => h) (Or.inl ⟨by rfl, ?_⟩) ?_
        rotate_left
        focus
          intro w9
          go_simp
          try with_reducible rfl
        try simp only [Act.put, List.setIfInBounds_toArray, List.set_cons_zero, List.set_cons_succ]
        refine anyN_take (v := ?_) 2 rfl (by kernel_rfl) (by kernel_rfl) (by kernel_rfl) (fun _ _ _ h => h) (Or.inl ⟨by rfl, ?_⟩) ?_
        rotate_left
        focus
          intro w9
          go_simp
          try with_reducible rfl
        try simp only [Act.put, List.setIfInBounds_toArray, List.set_cons_zero, List.set_cons_succ]
        refine anyN_take (v := ?_) 3 rfl (by kernel_rfl) (by kernel_rfl) (by kernel_rfl) (fun _ _ _ h => h) (Or.inl ⟨by rfl, ?_⟩) ?_
        rotate_left
        focus
          intro w9
          go_simp
          try with_reducible rfl
        try simp only [Act.put, List.setIfInBounds_toArray, List.set_cons_zero, List.set_cons_succ]
        refine anyN_take (v := ?_) 4 rfl (by kernel_rfl) (by kernel_rfl) (by kernel_rfl) (fun _ _ _ h => h) (Or.inl ⟨by rfl, ?_⟩) ?_
        rotate_left
        focus
          intro w9
          go_simp
          try with_reducible rfl
        try simp only [Act.put, List.setIfInBounds_toArray, List.set_cons_zero, List.set_cons_succ]
        refine wpAny_ready (rs := [1, 5]) (by kernel_rfl) (by simp) ?_
        refine anyN_cons 1 rfl (by rfl) (fun K hK => ?_) (anyN_cons 5 rfl (by rfl) (fun K hK => ?_) AllReady.nil)
        · go_simp
          refine hK.out _ _ ?_
          clear hK K
          try simp only [Act.put, List.setIfInBounds_toArray, List.set_cons_zero, List.set_cons_succ]
          refine wpAny_ready (rs := [5]) (by kernel_rfl) (by simp) ?_
          refine anyN_cons 5 rfl (by rfl) (fun K hK => ?_) AllReady.nil
          go_simp
          refine hK.out _ _ ?_
          clear hK K
          try simp only [Act.put, List.setIfInBounds_toArray, List.set_cons_zero, List.set_cons_succ]
          refine wpAny_ready (rs := [6]) (by kernel_rfl) (by simp) ?_
          refine anyN_cons 6 rfl (by rfl) (fun K hK => ?_) AllReady.nil
          go_simp
          refine (C1.out trivial).mono ?_
          rintro e w2 ⟨⟨u, rfl, hv2⟩, hs2, hf2⟩
          dsimp only
          obtain ⟨q2, l2, d2, rfl⟩ : ∃ p l c, u = .slice p l c := by
            obtain ⟨p, c, e, -⟩ := hv2.rd
            exact ⟨_, _, _, e⟩
          have hb2 : BoxT w2 bx #[.int .u64 (f : Nat), .slice p l c1] 29 := (hf2.block bx HBX.out.lt (fun e => HNE.out e)).trans HBX.out
          have z0 : w2.cell? ⟨bx, 0, none⟩ = some (.int .u64 (f : Nat)) := hb2.cell
          have z1 : w2.cell? ⟨bx, 1, none⟩ = some (.slice p l c1) := hb2.cell
          have z2 : w2.frozen? ⟨bx, 0, none⟩ = false := hb2.frozen
          have z3 : w2.frozen? ⟨bx, 1, none⟩ = false := hb2.frozen
          have f3 : Frm w2 ((w2.setCell ⟨bx, 0, none⟩ (.int .u64 (f2 : Nat))).setCell ⟨bx, 1, none⟩ (.slice q2 l2 d2)) (fun k => k = bx) := (frm_set w2 _ 0 _ (F := fun k => k = bx) rfl).trans (frm_set _ _ 1 _ (F := fun k => k = bx) rfl)
          have HX3 : Hid (BoxT ((w2.setCell ⟨bx, 0, none⟩ (.int .u64 (f2 : Nat))).setCell ⟨bx, 1, none⟩ (.slice q2 l2 d2)) bx #[.int .u64 (f2 : Nat), .slice q2 l2 d2] 29) := (hb2.set (i := 0) _).set (i := 1) _
          have HO3 : Hid (OwR ((w2.setCell ⟨bx, 0, none⟩ (.int .u64 (f2 : Nat))).setCell ⟨bx, 1, none⟩ (.slice q2 l2 d2)) 0 (.slice q2 l2 d2) R2) := hv2.frm hb2 (by decide) f3
          have HS3 : Hid (Snp ((w2.setCell ⟨bx, 0, none⟩ (.int .u64 (f2 : Nat))).setCell ⟨bx, 1, none⟩ (.slice q2 l2 d2)) sb f2 R2) := by
            obtain ⟨tb, a, v, ha, hx⟩ := hs2
            have h1 := hx.sta.ne hb2 (by decide)
            have h2 := hx.blk.ne hb2 (by decide)
            exact ⟨tb, a, v, ha, (hx.blk.off _ h2).off _ h2, (hx.sta.off _ h1).off _ h1, hx.rdr.frm hb2 (by decide) f3, hx.inv⟩
          have HB3 : Hid (Below w.heap.size w ((w2.setCell ⟨bx, 0, none⟩ (.int .u64 (f2 : Nat))).setCell ⟨bx, 1, none⟩ (.slice q2 l2 d2))) := (Below.trans (b := wr.drew) ⟨hB.out.os, hB.out.tape, hB.out.output, hB.out.size, hB.out.block⟩ (hf2.below hB.out.size (fun k hk => by rw [hk]; exact HLO.out.1))).trans (f3.below (Nat.le_trans hB.out.size hf2.size) (fun k hk => by rw [hk]; exact HLO.out.2))
          clear hv2 hs2 hf2 hb2 f3
          refine hK.out _ _ ?_
          clear hK K
          try simp only [Act.put, List.setIfInBounds_toArray, List.set_cons_zero, List.set_cons_succ]
          refine anyN_take (v := ?_) 7 rfl (by kernel_rfl) (by kernel_rfl) (by kernel_rfl) (fun _ _ _ h => h) (Or.inl ⟨by rfl, ?_⟩) ?_
          rotate_left
          focus
            intro w9
            go_simp
            try with_reducible rfl
          try simp only [Act.put, List.setIfInBounds_toArray, List.set_cons_zero, List.set_cons_succ]
          refine anyN_take (v := ?_) 8 rfl (by kernel_rfl) (by kernel_rfl) (by kernel_rfl) (fun _ _ _ h => h) (Or.inl ⟨by rfl, ?_⟩) ?_
          rotate_left
          focus
            intro w9
            go_simp
            try with_reducible rfl
          try simp only [Act.put, List.setIfInBounds_toArray, List.set_cons_zero, List.set_cons_succ]
          refine anyN_take (v := ?_) 9 rfl (by kernel_rfl) (by kernel_rfl) (by kernel_rfl) (fun _ _ _ h => h) (Or.inl ⟨by rfl, ?_⟩) ?_
          rotate_left
          focus
            intro w9
            go_simp
            try with_reducible rfl
          try simp only [Act.put, List.setIfInBounds_toArray, List.set_cons_zero, List.set_cons_succ]
          refine wpAny_ready (rs := [10]) (by kernel_rfl) (by simp) ?_
          refine anyN_cons 10 rfl (by rfl) (fun K hK => ?_) AllReady.nil
          go_simp
          refine hK.out _ _ ?_
          clear hK K
          try simp only [Act.put, List.setIfInBounds_toArray, List.set_cons_zero, List.set_cons_succ]
          refine wpAny_ready (rs := [11]) (by kernel_rfl) (by simp) ?_
          refine anyN_cons 11 rfl (by rfl) (fun K hK => ?_) AllReady.nil
          go_simp
          refine hK.out _ _ ?_
          clear hK K
          try simp only [Act.put, List.setIfInBounds_toArray, List.set_cons_zero, List.set_cons_succ]
          refine wpAny_done (by kernel_rfl) ?_ _
          clear hB HBX
          generalize ((w2.setCell ⟨bx, 0, none⟩ (.int .u64 (f2 : Nat))).setCell ⟨bx, 1, none⟩ (.slice q2 l2 d2)) = w3 at *
          clear z0 z1 z2 z3 e0 e1 e2 y0 y1 C1
          have x0 : w3.cell? ⟨bx, 0, none⟩ = some (.int .u64 (f2 : Nat)) := HX3.out.cell
          have x1 : w3.cell? ⟨bx, 1, none⟩ = some (.slice q2 l2 d2) := HX3.out.cell
          have C2 : Hid (Calls _ _ _ _ _) := is_any sb f2 (.slice q2 l2 d2) R2 w3 HS3.out HO3.out
          go_wp2_with fail
          refine C2.out.mono ?_
          rintro e w4 ⟨rfl, hb4⟩
          have HS4 : Hid (Snp w4 sb f2 R2) := HS3.out.on hb4
          have HO4 : Hid (OwR w4 0 (.slice q2 l2 d2) R2) := HO3.out.on hb4
          have HX4 : Hid (BoxT w4 bx #[.int .u64 (f2 : Nat), .slice q2 l2 d2] 29) := HX3.out.on hb4
          have HB4 : Hid (Below w.heap.size w w4) := HB3.out.trans (hb4.mono HB3.out.size)
          clear hb4 C2 HS3 HO3 HX3 HB3 x0 x1
          go_wp2_with fail
          go_roundw
          case rel => exact ⟨j + 1, f2, R2, _, hj1, rfl, by go_num, HS4, HO4, HX4, HB4⟩
          case measure => simp [intOf]; omega
        · go_simp
          refine hK.out _ _ ?_
          clear hK K
          try simp only [Act.put, List.setIfInBounds_toArray, List.set_cons_zero, List.set_cons_succ]
          refine wpAny_ready (rs := [1]) (by kernel_rfl) (by simp) ?_
          refine anyN_cons 1 rfl (by rfl) (fun K hK => ?_) AllReady.nil
          go_simp
          refine hK.out _ _ ?_
          clear hK K
          try simp only [Act.put, List.setIfInBounds_toArray, List.set_cons_zero, List.set_cons_succ]
          refine wpAny_ready (rs := [6]) (by kernel_rfl) (by simp) ?_
          refine anyN_cons 6 rfl (by rfl) (fun K hK => ?_) AllReady.nil
          go_simp
          refine (C1.out trivial).mono ?_
          rintro e w2 ⟨⟨u, rfl, hv2⟩, hs2, hf2⟩
          dsimp only
          obtain ⟨q2, l2, d2, rfl⟩ : ∃ p l c, u = .slice p l c := by
            obtain ⟨p, c, e, -⟩ := hv2.rd
            exact ⟨_, _, _, e⟩
          have hb2 : BoxT w2 bx #[.int .u64 (f : Nat), .slice p l c1] 29 := (hf2.block bx HBX.out.lt (fun e => HNE.out e)).trans HBX.out
          have z0 : w2.cell? ⟨bx, 0, none⟩ = some (.int .u64 (f : Nat)) := hb2.cell
          have z1 : w2.cell? ⟨bx, 1, none⟩ = some (.slice p l c1) := hb2.cell
          have z2 : w2.frozen? ⟨bx, 0, none⟩ = false := hb2.frozen
          have z3 : w2.frozen? ⟨bx, 1, none⟩ = false := hb2.frozen
          have f3 : Frm w2 ((w2.setCell ⟨bx, 0, none⟩ (.int .u64 (f2 : Nat))).setCell ⟨bx, 1, none⟩ (.slice q2 l2 d2)) (fun k => k = bx) := (frm_set w2 _ 0 _ (F := fun k => k = bx) rfl).trans (frm_set _ _ 1 _ (F := fun k => k = bx) rfl)
          have HX3 : Hid (BoxT ((w2.setCell ⟨bx, 0, none⟩ (.int .u64 (f2 : Nat))).setCell ⟨bx, 1, none⟩ (.slice q2 l2 d2)) bx #[.int .u64 (f2 : Nat), .slice q2 l2 d2] 29) := (hb2.set (i := 0) _).set (i := 1) _
          have HO3 : Hid (OwR ((w2.setCell ⟨bx, 0, none⟩ (.int .u64 (f2 : Nat))).setCell ⟨bx, 1, none⟩ (.slice q2 l2 d2)) 0 (.slice q2 l2 d2) R2) := hv2.frm hb2 (by decide) f3
          have HS3 : Hid (Snp ((w2.setCell ⟨bx, 0, none⟩ (.int .u64 (f2 : Nat))).setCell ⟨bx, 1, none⟩ (.slice q2 l2 d2)) sb f2 R2) := by
            obtain ⟨tb, a, v, ha, hx⟩ := hs2
            have h1 := hx.sta.ne hb2 (by decide)
            have h2 := hx.blk.ne hb2 (by decide)
            exact ⟨tb, a, v, ha, (hx.blk.off _ h2).off _ h2, (hx.sta.off _ h1).off _ h1, hx.rdr.frm hb2 (by decide) f3, hx.inv⟩
          have HB3 : Hid (Below w.heap.size w ((w2.setCell ⟨bx, 0, none⟩ (.int .u64 (f2 : Nat))).setCell ⟨bx, 1, none⟩ (.slice q2 l2 d2))) := (Below.trans (b := wr.drew) ⟨hB.out.os, hB.out.tape, hB.out.output, hB.out.size, hB.out.block⟩ (hf2.below hB.out.size (fun k hk => by rw [hk]; exact HLO.out.1))).trans (f3.below (Nat.le_trans hB.out.size hf2.size) (fun k hk => by rw [hk]; exact HLO.out.2))
          clear hv2 hs2 hf2 hb2 f3
          refine hK.out _ _ ?_
          clear hK K
          try simp only [Act.put, List.setIfInBounds_toArray, List.set_cons_zero, List.set_cons_succ]
          refine anyN_take (v := ?_) 7 rfl (by kernel_rfl) (by kernel_rfl) (by kernel_rfl) (fun _ _ _ h => h) (Or.inl ⟨by rfl, ?_⟩) ?_
          rotate_left
          focus
            intro w9
            go_simp
            try with_reducible rfl
          try simp only [Act.put, List.setIfInBounds_toArray, List.set_cons_zero, List.set_cons_succ]
          refine anyN_take (v := ?_) 8 rfl (by kernel_rfl) (by kernel_rfl) (by kernel_rfl) (fun _ _ _ h => h) (Or.inl ⟨by rfl, ?_⟩) ?_
          rotate_left
          focus
            intro w9
            go_simp
            try with_reducible rfl
          try simp only [Act.put, List.setIfInBounds_toArray, List.set_cons_zero, List.set_cons_succ]
          refine anyN_take (v := ?_) 9 rfl (by kernel_rfl) (by kernel_rfl) (by kernel_rfl) (fun _ _ _ h => h) (Or.inl ⟨by rfl, ?_⟩) ?_
          rotate_left
          focus
            intro w9
            go_simp
            try with_reducible rfl
          try simp only [Act.put, List.setIfInBounds_toArray, List.set_cons_zero, List.set_cons_succ]
          refine wpAny_ready (rs := [10]) (by kernel_rfl) (by simp) ?_
          refine anyN_cons 10 rfl (by rfl) (fun K hK => ?_) AllReady.nil
          go_simp
          refine hK.out _ _ ?_
          clear hK K
          try simp only [Act.put, List.setIfInBounds_toArray, List.set_cons_zero, List.set_cons_succ]
          refine wpAny_ready (rs := [11]) (by kernel_rfl) (by simp) ?_
          refine anyN_cons 11 rfl (by rfl) (fun K hK => ?_) AllReady.nil
          go_simp
          refine hK.out _ _ ?_
          clear hK K
          try simp only [Act.put, List.setIfInBounds_toArray, List.set_cons_zero, List.set_cons_succ]
          refine wpAny_done (by kernel_rfl) ?_ _
          clear hB HBX
          generalize ((w2.setCell ⟨bx, 0, none⟩ (.int .u64 (f2 : Nat))).setCell ⟨bx, 1, none⟩ (.slice q2 l2 d2)) = w3 at *
          clear z0 z1 z2 z3 e0 e1 e2 y0 y1 C1
          have x0 : w3.cell? ⟨bx, 0, none⟩ = some (.int .u64 (f2 : Nat)) := HX3.out.cell
          have x1 : w3.cell? ⟨bx, 1, none⟩ = some (.slice q2 l2 d2) := HX3.out.cell
          have C2 : Hid (Calls _ _ _ _ _) := is_any sb f2 (.slice q2 l2 d2) R2 w3 HS3.out HO3.out
          go_wp2_with fail
          refine C2.out.mono ?_
          rintro e w4 ⟨rfl, hb4⟩
          have HS4 : Hid (Snp w4 sb f2 R2) := HS3.out.on hb4
          have HO4 : Hid (OwR w4 0 (.slice q2 l2 d2) R2) := HO3.out.on hb4
          have HX4 : Hid (BoxT w4 bx #[.int .u64 (f2 : Nat), .slice q2 l2 d2] 29) := HX3.out.on hb4
          have HB4 : Hid (Below w.heap.size w w4) := HB3.out.trans (hb4.mono HB3.out.size)
          clear hb4 C2 HS3 HO3 HX3 HB3 x0 x1
          go_wp2_with fail
          go_roundw
          case rel => exact ⟨j + 1, f2, R2, _, hj1, rfl, by go_num, HS4, HO4, HX4, HB4⟩
          case measure => simp [intOf]; omega
end Go.Proofs.Ytbmgkoifidhfjaa
