/- Layer 13: the document's Take. -/
import Derived.Test.YtcdamalpecedcaaGreatWGd5
namespace Go.Proofs.YtcdamalpecedcaaGreat
open Go.RowKit
set_option maxRecDepth 100000

theorem RdH.wide {w : World} {A B : Nat} {q : Option Addr} {H : List Hd} (h : RdH w A q H) (hB : A ≤ B) : RdH w B q H := by
  intro i hi
  obtain ⟨b, o, e, hlt, r⟩ := h i hi
  exact ⟨b, o, e, by omega, r⟩

set_option maxHeartbeats 16000000 in
theorem rtake_ok (D : List Dk) (B ls hc : Nat) (hq : Option Addr) (H : List Hd) (v : Value) (w : World) (hD : DkL w B v D) (hR : RdH w w.heap.size hq H) (hl : H.length ≤ 256) (hf : D.length < 256) (hls : ls < 9000000000000000000) :
    Calls Tryz.prog 17 #[.agg #[v, .int .u64 (ls : Nat)], .slice hq H.length hc] w fun e w' => ∃ v' vh, e = .returned (.tuple #[.agg #[v', .int .u64 ((ls + 1 : Nat) : Nat)], .int .u64 ((ls + 1 : Nat) : Nat), .int .i64 0]) ∧ DkL w' w.heap.size v' (D ++ [⟨ls + 1, vh, H⟩]) ∧ Below w.heap.size w w' := by
  obtain ⟨l1, hl1⟩ : ∃ l1, l1 = ls + 1 := ⟨_, rfl⟩
  rw [← hl1]
  have gw : IntKind.u64.wrap ((ls : Int) + 1) = (l1 : Int) := by rw [hl1]; unfold IntKind.wrap; simp [IntKind.bits, IntKind.signed]; omega
  have HDh : Hid (∀ d ∈ D, OwnH w 0 d.v d.H ∧ d.H.length ≤ 256) := hD.h
  have HSl : Hid (∀ j (hj : j < D.length), ∃ q l c, D[j].v = .slice q l c) := fun j hj => hD.sl j hj
  obtain ⟨q0, c, rfl, hRD⟩ := hD.rd
  have HR : Hid (RdD w w.heap.size q0 D) := hRD
  have HRH : Hid (RdH w w.heap.size hq H) := hR
  have HHl : Hid (H.length ≤ 256) := hl
  have HDl : Hid (D.length < 256) := hf
  have HL256 : Hid (∀ j, j ≤ D.length → (D.take j).length ≤ 256) := fun j hj => by rw [List.length_take]; omega
  obtain ⟨n, hn⟩ : ∃ n, H.length = n := ⟨_, rfl⟩
  have HHn : Hid (H.length = n) := hn
  obtain ⟨m, hm⟩ : ∃ m, D.length = m := ⟨_, rfl⟩
  have HDm : Hid (D.length = m) := hm
  rw [hn] at hl ⊢
  rw [hm] at hf ⊢
  have g1 : ¬ (256 : Int) < (n : Int) := by omega
  have g2 : ¬ (256 : Int) ≤ (m : Int) := by omega
  obtain ⟨aX, aB, aS⟩ := blk_new w #[.slice q0 m c, .int .u64 (ls : Nat)] 28
  obtain ⟨bX, bB, bS⟩ := blk_new (w.alloc (.cells #[.slice q0 m c, .int .u64 (ls : Nat)] 28)) #[.slice none 0 0, .int .u64 0] 28
  obtain ⟨cX, cB, cS⟩ := blk_new ((w.alloc (.cells #[.slice q0 m c, .int .u64 (ls : Nat)] 28)).alloc (.cells #[.slice none 0 0, .int .u64 0] 28)) #[.slice none 0 0, .int .u64 (l1 : Nat)] 28
  have aX2 := aX.on bB
  have bX2 := bX.on cB
  have aX3 := aX2.on cB
  rw [bS, aS] at cX cS
  rw [aS] at bX2 bX bS
  have cL : Below w.heap.size w ((w.alloc (.cells #[.slice q0 m c, .int .u64 (ls : Nat)] 28)).alloc (.cells #[.slice none 0 0, .int .u64 0] 28)) := aB.trans (bB.mono aB.size)
  have HL4 : Hid (Below w.heap.size w (((w.alloc (.cells #[.slice q0 m c, .int .u64 (ls : Nat)] 28)).alloc (.cells #[.slice none 0 0, .int .u64 0] 28)).alloc (.cells #[.slice none 0 0, .int .u64 (l1 : Nat)] 28))) := cL.trans (cB.mono cL.size)
  have HSB : Hid (Blk _ w.heap.size #[.slice q0 m c, .int .u64 (ls : Nat)] 28) := aX3
  have HRB : Hid (Blk _ (w.heap.size + 1) #[.slice none 0 0, .int .u64 0] 28) := bX2
  have HB4 : Hid (Blk _ (w.heap.size + 1 + 1) #[.slice none 0 0, .int .u64 (l1 : Nat)] 28) := cX
  have HS4 : Hid ((((w.alloc (.cells #[.slice q0 m c, .int .u64 (ls : Nat)] 28)).alloc (.cells #[.slice none 0 0, .int .u64 0] 28)).alloc (.cells #[.slice none 0 0, .int .u64 (l1 : Nat)] 28)).heap.size = w.heap.size + 1 + 1 + 1) := cS
  have y1 := aX2.cell (i := 1) rfl
  clear aX aB aS bX bB bS cX cB cS aX2 bX2 aX3 cL hD hRD hR hl hn hm hls hl1
  go_enter Tryz.func17, Tryz.ntmps17
  go_upto_region 5 with fail
  clear y1 gw g1 g2
  generalize (((w.alloc (.cells #[.slice q0 m c, .int .u64 (ls : Nat)] 28)).alloc (.cells #[.slice none 0 0, .int .u64 0] 28)).alloc (.cells #[.slice none 0 0, .int .u64 (l1 : Nat)] 28)) = w4 at *
  obtain ⟨ob, hob⟩ : ∃ ob, w.heap.size + 1 + 1 = ob := ⟨_, rfl⟩
  have HOb : Hid (w.heap.size + 2 ≤ ob) := by show _ ≤ _; omega
  rw [hob] at HB4 HS4 ⊢
  clear hob
  go_loopw [8] (fun si wr => ∃ j : Nat, j ≤ D.length ∧ si = .int .i64 (j : Int) ∧ Hid (∃ q l d, Blk wr ob #[.slice q l d, .int .u64 (l1 : Nat)] 28 ∧ World.ownsRow wr (ob + 1) 42 2 (.slice q l d) (D.take j).length ((D.take j).flatMap dkC)) ∧ Hid (Frm w4 wr (fun k => k = ob))) (fun si _ => ((m : Int) - intOf si).toNat)
  case atStart => exact ⟨0, Nat.zero_le _, by go_num, ⟨none, 0, 0, HB4.out, World.ownsRow_nil _ _ _ _⟩, Frm.refl _ _⟩
  case round =>
    obtain ⟨j, hj, rfl, hU, hF⟩ := hrel
    obtain ⟨q, l, d, hOB, hOD⟩ := hU.out
    have HOB : Hid (Blk wr ob #[.slice q l d, .int .u64 (l1 : Nat)] 28) := hOB
    have HD : Hid (World.ownsRow wr (ob + 1) 42 2 (.slice q l d) (D.take j).length ((D.take j).flatMap dkC)) := hOD
    have HSr : Hid (Blk wr w.heap.size #[.slice q0 m c, .int .u64 (ls : Nat)] 28) := HSB.out.frm hF.out (by have := HOb.out; omega)
    have HRr : Hid (Blk wr (w.heap.size + 1) #[.slice none 0 0, .int .u64 0] 28) := HRB.out.frm hF.out (by have := HOb.out; omega)
    have HLr : Hid (Below w.heap.size w wr) := HL4.out.trans (hF.out.below (by rw [HS4.out]; have := HOb.out; omega) (fun k hk => by have := HOb.out; omega))
    have cs := HSr.out.cell (i := 0) rfl
    clear hOB hOD hU
    have hjm : j ≤ m := by rw [← HDm.out]; exact hj
    rcases Nat.lt_or_eq_of_le hjm with hlt | heq
    · have hjD : j < D.length := by rw [HDm.out]; exact hlt
      have gj : decide ((j : Int) < (m : Int)) = true := by simp; omega
      obtain ⟨b, o, hq, hb, y0, y1⟩ := HR.out.keep (HLr.out) j hjD
      subst hq
      obtain ⟨yq, yl, yc, hyv⟩ : ∃ yq yl yc, D[j].v = .slice yq yl yc := HSl.out j hjD
      rw [hyv] at y1
      have HT : Hid (D.take (j + 1) = D.take j ++ [D[j]]) := List.take_succ_eq_append_getElem hjD
      have HTL : Hid ((D.take j).length ≤ 256) := HL256.out j hj
      have hz := HOB.out.lt
      have hdr : Below wr.heap.size wr wr.drew := (Below.refl _ _).drew
      have HOBd : Hid (Blk wr.drew ob #[.slice q l d, .int .u64 (l1 : Nat)] 28) := HOB.out.on hdr
      have HDd : Hid (World.ownsRow wr.drew (ob + 1) 42 2 (.slice q l d) (D.take j).length ((D.take j).flatMap dkC)) := owns_kept HD.out hdr
      have HFd : Hid (Frm w4 wr.drew (fun k => k = ob)) := hF.out.drew
      have HLd : Hid (Below w.heap.size w wr.drew) := HLr.out.trans (hdr.mono HLr.out.size)
      have HZd : Hid (ob + 1 ≤ wr.drew.heap.size ∧ w.heap.size + 2 ≤ ob) := ⟨hz, HOb.out⟩
      have HSBd : Hid (Blk wr.drew w.heap.size #[.slice (some ⟨b, o, none⟩) m c, .int .u64 (ls : Nat)] 28) := HSr.out.on hdr
      have hdk : dkC D[j] = [.int .u64 (D[j].t : Nat), .slice yq yl yc] := by unfold dkC; rw [hyv]
      have HDK : Hid (∀ w' v' n', World.ownsRow w' (ob + 1) 42 2 v' n' ((D.take j).flatMap dkC ++ [.int .u64 (D[j].t : Nat), .slice yq yl yc]) → n' = (D.take j).length + 1 → World.ownsRow w' (ob + 1) 42 2 v' (D.take (j + 1)).length ((D.take (j + 1)).flatMap dkC)) := by
        intro w' v' n' h9 hn9
        rw [HT.out, List.length_append, List.flatMap_append, List.flatMap_cons, List.flatMap_nil, List.append_nil, hdk]
        subst hn9
        exact h9
      have HS0 : Hid (wr.drew.cell? ⟨ob, 0, none⟩ = some (.slice q l d) ∧ wr.drew.cell? ⟨w.heap.size, 0, none⟩ = some (.slice (some ⟨b, o, none⟩) m c) ∧ wr.drew.cell? ⟨b, o + j * 2, none⟩ = some (.int .u64 (D[j].t : Nat)) ∧ wr.drew.cell? ⟨b, o + j * 2 + 1, none⟩ = some (.slice yq yl yc)) := ⟨HOBd.out.cell rfl, HSBd.out.cell rfl, (hdr.cell (p := ⟨b, o + j * 2, none⟩) (show b < wr.heap.size by have := HLr.out.size; omega)).trans y0, (hdr.cell (p := ⟨b, o + j * 2 + 1, none⟩) (show b < wr.heap.size by have := HLr.out.size; omega)).trans y1⟩
      have HBb : Hid (b < w.heap.size) := hb
      clear y0 y1 hdr hz hyv hdk HT HSr HLr HOB HD hF hb
      have x0 := HS0.out.1
      clear x0
      generalize (D[j].t : Int) = yt at *
      go_wp2_with fail
      refine wp_region_L (fun w' => w'.cell? ⟨ob, 0, none⟩ = some (.slice q l d) ∧ w'.cell? ⟨w.heap.size, 0, none⟩ = some (.slice (some ⟨b, o, none⟩) m c) ∧ w'.cell? ⟨b, o + j * 2, none⟩ = some (.int .u64 yt) ∧ w'.cell? ⟨b, o + j * 2 + 1, none⟩ = some (.slice yq yl yc)) 10 (by kernel_rfl) ?_
      generalize wr.drew = wd at *
      refine wpL_take (v := ?_) 0 rfl (by kernel_rfl) (fun _ _ _ h => h) (by rfl) ?_ HS0.out ?_
      rotate_left
      focus
        intro w9 hw9
        obtain ⟨k0, k1, k2, k3⟩ := hw9
        go_simp
        try with_reducible rfl
      try simp only [Act.put, List.setIfInBounds_toArray, List.set_cons_zero, List.set_cons_succ]
      refine wpL_take (v := ?_) 1 rfl (by kernel_rfl) (fun _ _ _ h => h) (by rfl) ?_ HS0.out ?_
      rotate_left
      focus
        intro w9 hw9
        obtain ⟨k0, k1, k2, k3⟩ := hw9
        go_simp
        try with_reducible rfl
      try simp only [Act.put, List.setIfInBounds_toArray, List.set_cons_zero, List.set_cons_succ]
      refine wpL_take (v := ?_) 2 rfl (by kernel_rfl) (fun _ _ _ h => h) (by rfl) ?_ HS0.out ?_
      rotate_left
      focus
        intro w9 hw9
        obtain ⟨k0, k1, k2, k3⟩ := hw9
        go_simp
        try with_reducible rfl
      try simp only [Act.put, List.setIfInBounds_toArray, List.set_cons_zero, List.set_cons_succ]
      refine wpL_take (v := ?_) 3 rfl (by kernel_rfl) (fun _ _ _ h => h) (by rfl) ?_ HS0.out ?_
      rotate_left
      focus
        intro w9 hw9
        obtain ⟨k0, k1, k2, k3⟩ := hw9
        go_simp
        try with_reducible rfl
      try simp only [Act.put, List.setIfInBounds_toArray, List.set_cons_zero, List.set_cons_succ]
      refine wpL_take (v := ?_) 4 rfl (by kernel_rfl) (fun _ _ _ h => h) (by rfl) ?_ HS0.out ?_
      rotate_left
      focus
        intro w9 hw9
        obtain ⟨k0, k1, k2, k3⟩ := hw9
        go_simp
        try with_reducible rfl
      try simp only [Act.put, List.setIfInBounds_toArray, List.set_cons_zero, List.set_cons_succ]
      refine wpL_take (v := ?_) 5 rfl (by kernel_rfl) (fun _ _ _ h => h) (by rfl) ?_ HS0.out ?_
      rotate_left
      focus
        intro w9 hw9
        obtain ⟨k0, k1, k2, k3⟩ := hw9
        go_simp
        try with_reducible rfl
      try simp only [Act.put, List.setIfInBounds_toArray, List.set_cons_zero, List.set_cons_succ]
      refine wpL_take (v := ?_) 6 rfl (by kernel_rfl) (fun _ _ _ h => h) (by rfl) ?_ HS0.out ?_
      rotate_left
      focus
        intro w9 hw9
        obtain ⟨k0, k1, k2, k3⟩ := hw9
        go_simp
        try with_reducible rfl
      try simp only [Act.put, List.setIfInBounds_toArray, List.set_cons_zero, List.set_cons_succ]
      have HS1 : Hid ((wd.alloc (.cells #[.int .u64 yt, .slice yq yl yc] 42)).cell? ⟨ob, 0, none⟩ = some (.slice q l d) ∧ (wd.alloc (.cells #[.int .u64 yt, .slice yq yl yc] 42)).cell? ⟨w.heap.size, 0, none⟩ = some (.slice (some ⟨b, o, none⟩) m c) ∧ (wd.alloc (.cells #[.int .u64 yt, .slice yq yl yc] 42)).cell? ⟨b, o + j * 2, none⟩ = some (.int .u64 yt) ∧ (wd.alloc (.cells #[.int .u64 yt, .slice yq yl yc] 42)).cell? ⟨b, o + j * 2 + 1, none⟩ = some (.slice yq yl yc)) := by
        have hal : Below wd.heap.size wd (wd.alloc (.cells #[.int .u64 yt, .slice yq yl yc] 42)) := (Below.refl _ _).alloc (Nat.le_refl _) _
        obtain ⟨k0, k1, k2, k3⟩ := HS0.out
        have z1 := HZd.out.1
        have z2 := HZd.out.2
        have z3 := HBb.out
        exact ⟨(hal.cell (p := ⟨ob, 0, none⟩) (show ob < _ by omega)).trans k0, (hal.cell (p := ⟨w.heap.size, 0, none⟩) (show w.heap.size < _ by omega)).trans k1, (hal.cell (p := ⟨b, o + j * 2, none⟩) (show b < _ by omega)).trans k2, (hal.cell (p := ⟨b, o + j * 2 + 1, none⟩) (show b < _ by omega)).trans k3⟩
      refine wpL_one 7 rfl (by kernel_rfl) (by rfl) ?_
      intro K hK
      go_simp
      refine hK.out _ _ (fun _ => HS1.out) ?_
      clear hK K
      try simp only [Act.put, List.setIfInBounds_toArray, List.set_cons_zero, List.set_cons_succ]
      refine wpL_one 8 rfl (by kernel_rfl) (by rfl) ?_
      intro K hK
      refine wp_appW _ (.tmp 31) (.tmp 37) 42 25 _ 2 32 rfl Tryz.underlying25 info_dk rfl (by decide) (ob + 1) _ _ _ rfl (World.ownsRow.alloc HDd.out _) [.int .u64 yt, .slice yq yl yc] rfl (by intro u hu; simp only [List.mem_cons, List.not_mem_nil, or_false] at hu; rcases hu with rfl | rfl <;> rfl) wd.heap.size rfl (by intro i9 u9 hu9; rw [World.cell?_alloc_new]; simpa using hu9) (by have := HTL.out; omega) (by have := HTL.out; omega) (by have := HZd.out.1; simp; omega) ?_
      intro v3 we h3 h5
      have HO3 : Hid (World.ownsRow we (ob + 1) 42 2 v3 (D.take (j + 1)).length ((D.take (j + 1)).flatMap dkC)) := HDK.out _ _ _ h3 rfl
      have HF3 : Hid (Frm wd we (fun k => (Value.slice q l d).ownBlock = some k)) := (Frm.of_below (F := fun k => (Value.slice q l d).ownBlock = some k) ((Below.refl wd.heap.size wd).alloc (Nat.le_refl _) _)).trans (Frm.of_grown (F := fun k => (Value.slice q l d).ownBlock = some k) h5 (fun g hg => .inl hg)) (fun k hk => .inl hk)
      have HLw : Hid (∀ k, (Value.slice q l d).ownBlock = some k → ob + 1 ≤ k) := fun k hk => (World.ownsRow.lt HDd.out k hk).1
      clear h3 h5 HDK
      have HOB3 : Hid (Blk we ob #[.slice q l d, .int .u64 (l1 : Nat)] 28) := HOBd.out.frm HF3.out (fun hk => by have := HLw.out _ hk; omega)
      have HB3 : Hid (Below (ob + 1) wd we) := HF3.out.below HZd.out.1 HLw.out
      have HS2 : Hid (we.cell? ⟨ob, 0, none⟩ = some (.slice q l d) ∧ we.cell? ⟨w.heap.size, 0, none⟩ = some (.slice (some ⟨b, o, none⟩) m c) ∧ we.cell? ⟨b, o + j * 2, none⟩ = some (.int .u64 yt) ∧ we.cell? ⟨b, o + j * 2 + 1, none⟩ = some (.slice yq yl yc)) := by
        obtain ⟨k0, k1, k2, k3⟩ := HS0.out
        have z2 := HZd.out.2
        have z3 := HBb.out
        exact ⟨(HB3.out.cell (p := ⟨ob, 0, none⟩) (show ob < _ by omega)).trans k0, (HB3.out.cell (p := ⟨w.heap.size, 0, none⟩) (show w.heap.size < _ by omega)).trans k1, (HB3.out.cell (p := ⟨b, o + j * 2, none⟩) (show b < _ by omega)).trans k2, (HB3.out.cell (p := ⟨b, o + j * 2 + 1, none⟩) (show b < _ by omega)).trans k3⟩
      refine hK.out _ _ (fun _ => HS2.out) ?_
      clear hK K
      try simp only [Act.put, List.setIfInBounds_toArray, List.set_cons_zero, List.set_cons_succ]
      refine wpL_take (v := ?_) 9 rfl (by kernel_rfl) (fun _ _ _ h => h) (by rfl) ?_ HS2.out ?_
      rotate_left
      focus
        intro w9 hw9
        obtain ⟨k0, k1, k2, k3⟩ := hw9
        go_simp
        try with_reducible rfl
      try simp only [Act.put, List.setIfInBounds_toArray, List.set_cons_zero, List.set_cons_succ]
      obtain ⟨q3, l3, d3, hv3⟩ : ∃ q3 l3 d3, v3 = .slice q3 l3 d3 := by
        obtain ⟨p9, c9, e9, _⟩ := owns_len HO3.out
        exact ⟨_, _, _, e9⟩
      subst hv3
      have e0 := HOB3.out.cell (i := 0) rfl
      have f0 := HOB3.out.frozen 0
      refine wpL_one 10 rfl (by kernel_rfl) (by rfl) ?_
      intro K hK
      go_simp
      refine hK.out _ _ (fun h => absurd rfl h) ?_
      clear hK K
      refine wpL_done (by kernel_rfl) ?_ _
      try simp only [NoPanic]
      have HUN : Hid (∃ q l d, Blk (we.setCell ⟨ob, 0, none⟩ (.slice q3 l3 d3)) ob #[.slice q l d, .int .u64 (l1 : Nat)] 28 ∧ World.ownsRow (we.setCell ⟨ob, 0, none⟩ (.slice q3 l3 d3)) (ob + 1) 42 2 (.slice q l d) (D.take (j + 1)).length ((D.take (j + 1)).flatMap dkC)) := by
        refine ⟨q3, l3, d3, HOB3.out.set 0 _, ?_⟩
        exact owns_other2 HO3.out (fun g hg => heap_set_other we ob 0 g _ (by have := (World.ownsRow.lt HO3.out g hg).1; omega))
      have HFN : Hid (Frm w4 (we.setCell ⟨ob, 0, none⟩ (.slice q3 l3 d3)) (fun k => k = ob)) := (HFd.out.trans HF3.out (fun k hk => .inr (by have := HLw.out k hk; rw [HS4.out]; exact this))).trans (frm_set we ob 0 _ (F := fun k => k = ob) (.inl rfl)) (fun k hk => .inl hk)
      clear e0 f0
      go_wp2_with fail
      go_roundw
      case rel => exact ⟨j + 1, by omega, by go_num, HUN, HFN⟩
      case measure => simp [intOf]; omega
    · have gj : decide ((j : Int) < (m : Int)) = false := by simp; omega
      rw [heq, ← HDm.out, List.take_length] at HD
      have hdr : Below wr.heap.size wr wr.drew := (Below.refl _ _).drew
      have HOBd : Hid (Blk wr.drew ob #[.slice q l d, .int .u64 (l1 : Nat)] 28) := HOB.out.on hdr
      have HDd : Hid (World.ownsRow wr.drew (ob + 1) 42 2 (.slice q l d) D.length (D.flatMap dkC)) := owns_kept HD.out hdr
      have HLd : Hid (Below w.heap.size w wr.drew) := HLr.out.trans (hdr.mono HLr.out.size)
      have HFd : Hid (Frm w4 wr.drew (fun k => k = ob)) := hF.out.drew
      have HZd : Hid (ob + 1 ≤ wr.drew.heap.size ∧ w.heap.size + 2 ≤ ob) := ⟨HOB.out.lt, HOb.out⟩
      have HRBd : Hid (Blk wr.drew (w.heap.size + 1) #[.slice none 0 0, .int .u64 0] 28) := HRr.out.on hdr
      have CH : Hid (Calls _ _ _ _ _) := rholds_any H hq hc wr.drew ((HRH.out.keep HLd.out).wide HLd.out.size) (by have := HHl.out; omega)
      have HS0 : Hid (wr.drew.cell? ⟨ob, 0, none⟩ = some (.slice q l d) ∧ wr.drew.cell? ⟨ob, 1, none⟩ = some (.int .u64 (l1 : Nat)) ∧ True ∧ True) := ⟨HOBd.out.cell rfl, HOBd.out.cell rfl, trivial, trivial⟩
      rw [HHn.out] at CH
      clear hdr HSr HLr HOB HD hF HRr
      go_upto_region 8 with fail
      refine wp_region_L (fun w' => w'.cell? ⟨ob, 0, none⟩ = some (.slice q l d) ∧ w'.cell? ⟨ob, 1, none⟩ = some (.int .u64 (l1 : Nat)) ∧ True ∧ True) 10 (by kernel_rfl) ?_
      generalize wr.drew = wd at *
      refine wpL_take (v := ?_) 0 rfl (by kernel_rfl) (fun _ _ _ h => h) (by rfl) ?_ HS0.out ?_
      rotate_left
      focus
        intro w9 hw9
        obtain ⟨k0, k1, k2, k3⟩ := hw9
        go_simp
        try with_reducible rfl
      try simp only [Act.put, List.setIfInBounds_toArray, List.set_cons_zero, List.set_cons_succ]
      refine wpL_take (v := ?_) 1 rfl (by kernel_rfl) (fun _ _ _ h => h) (by rfl) ?_ HS0.out ?_
      rotate_left
      focus
        intro w9 hw9
        obtain ⟨k0, k1, k2, k3⟩ := hw9
        go_simp
        try with_reducible rfl
      try simp only [Act.put, List.setIfInBounds_toArray, List.set_cons_zero, List.set_cons_succ]
      refine wpL_take (v := ?_) 2 rfl (by kernel_rfl) (fun _ _ _ h => h) (by rfl) ?_ HS0.out ?_
      rotate_left
      focus
        intro w9 hw9
        obtain ⟨k0, k1, k2, k3⟩ := hw9
        go_simp
        try with_reducible rfl
      try simp only [Act.put, List.setIfInBounds_toArray, List.set_cons_zero, List.set_cons_succ]
      refine wpL_take (v := ?_) 3 rfl (by kernel_rfl) (fun _ _ _ h => h) (by rfl) ?_ HS0.out ?_
      rotate_left
      focus
        intro w9 hw9
        obtain ⟨k0, k1, k2, k3⟩ := hw9
        go_simp
        try with_reducible rfl
      try simp only [Act.put, List.setIfInBounds_toArray, List.set_cons_zero, List.set_cons_succ]
      refine wpL_take (v := ?_) 4 rfl (by kernel_rfl) (fun _ _ _ h => h) (by rfl) ?_ HS0.out ?_
      rotate_left
      focus
        intro w9 hw9
        obtain ⟨k0, k1, k2, k3⟩ := hw9
        go_simp
        try with_reducible rfl
      try simp only [Act.put, List.setIfInBounds_toArray, List.set_cons_zero, List.set_cons_succ]
      refine wpL_one 5 rfl (by kernel_rfl) (by rfl) ?_
      intro K hK
      go_simp
      refine CH.out.mono ?_
      rintro e w5 ⟨vh, rfl, hOH, hb5⟩
      dsimp only
      obtain ⟨vq, vc, hvh, -⟩ := hOH.rd
      subst hvh
      have HOH : Hid (OwnH w5 wd.heap.size (.slice vq H.length vc) H) := hOH
      have HB5 : Hid (Below wd.heap.size wd w5) := hb5
      obtain ⟨vl, hvl⟩ : ∃ vl, vl = H.length := ⟨_, rfl⟩
      rw [← hvl] at HOH
      rw [← hvl]
      have HVL : Hid (vl = H.length) := hvl
      clear hOH hb5 hvl CH
      have HOB5 : Hid (Blk w5 ob #[.slice q l d, .int .u64 (l1 : Nat)] 28) := HOBd.out.on HB5.out
      have HD5 : Hid (World.ownsRow w5 (ob + 1) 42 2 (.slice q l d) D.length (D.flatMap dkC)) := owns_kept HDd.out HB5.out
      have HS5 : Hid (w5.cell? ⟨ob, 0, none⟩ = some (.slice q l d) ∧ w5.cell? ⟨ob, 1, none⟩ = some (.int .u64 (l1 : Nat)) ∧ True ∧ True) := ⟨HOB5.out.cell rfl, HOB5.out.cell rfl, trivial, trivial⟩
      refine hK.out _ _ (fun _ => HS5.out) ?_
      clear hK K
      try simp only [Act.put, List.setIfInBounds_toArray, List.set_cons_zero, List.set_cons_succ]
      refine wpL_take (v := ?_) 6 rfl (by kernel_rfl) (fun _ _ _ h => h) (by rfl) ?_ HS5.out ?_
      rotate_left
      focus
        intro w9 hw9
        obtain ⟨k0, k1, k2, k3⟩ := hw9
        go_simp
        try with_reducible rfl
      try simp only [Act.put, List.setIfInBounds_toArray, List.set_cons_zero, List.set_cons_succ]
      have HA5 : Hid (Blk (w5.alloc (.cells #[.int .u64 (l1 : Nat), .slice vq vl vc] 42)) ob #[.slice q l d, .int .u64 (l1 : Nat)] 28) := HOB5.out.on ((Below.refl _ _).alloc (Nat.le_refl _) _)
      have HS6 : Hid ((w5.alloc (.cells #[.int .u64 (l1 : Nat), .slice vq vl vc] 42)).cell? ⟨ob, 0, none⟩ = some (.slice q l d) ∧ (w5.alloc (.cells #[.int .u64 (l1 : Nat), .slice vq vl vc] 42)).cell? ⟨ob, 1, none⟩ = some (.int .u64 (l1 : Nat)) ∧ True ∧ True) := ⟨HA5.out.cell rfl, HA5.out.cell rfl, trivial, trivial⟩
      refine wpL_one 7 rfl (by kernel_rfl) (by rfl) ?_
      intro K hK
      go_simp
      refine hK.out _ _ (fun _ => HS6.out) ?_
      clear hK K
      try simp only [Act.put, List.setIfInBounds_toArray, List.set_cons_zero, List.set_cons_succ]
      refine wpL_one 8 rfl (by kernel_rfl) (by rfl) ?_
      intro K hK
      refine wp_appW _ (.tmp 41) (.tmp 47) 42 25 _ 2 32 rfl Tryz.underlying25 info_dk rfl (by decide) (ob + 1) _ _ _ rfl (World.ownsRow.alloc HD5.out _) [.int .u64 (l1 : Nat), .slice vq vl vc] rfl (by intro u hu; simp only [List.mem_cons, List.not_mem_nil, or_false] at hu; rcases hu with rfl | rfl <;> rfl) w5.heap.size rfl (by intro i9 u9 hu9; rw [World.cell?_alloc_new]; simpa using hu9) (by have := HDl.out; omega) (by have := HDl.out; omega) (by have := HZd.out.1; have := HB5.out.size; simp; omega) ?_
      intro v3 we h3 h5
      have HO3 : Hid (World.ownsRow we (ob + 1) 42 2 v3 (D ++ [(⟨l1, .slice vq vl vc, H⟩ : Dk)]).length ((D ++ [(⟨l1, .slice vq vl vc, H⟩ : Dk)]).flatMap dkC)) := by
        show World.ownsRow _ _ _ _ _ _ _
        rw [List.length_append, List.flatMap_append, List.flatMap_cons, List.flatMap_nil, List.append_nil]
        exact h3
      have HF3 : Hid (Frm w5 we (fun k => (Value.slice q l d).ownBlock = some k)) := (Frm.of_below (F := fun k => (Value.slice q l d).ownBlock = some k) ((Below.refl w5.heap.size w5).alloc (Nat.le_refl _) _)).trans (Frm.of_grown (F := fun k => (Value.slice q l d).ownBlock = some k) h5 (fun g hg => .inl hg)) (fun k hk => .inl hk)
      have HLw : Hid (∀ k, (Value.slice q l d).ownBlock = some k → ob + 1 ≤ k) := fun k hk => (World.ownsRow.lt HD5.out k hk).1
      have HOH3 : Hid (OwnH we wd.heap.size (.slice vq vl vc) H) := by
        refine owns_other (owns_kept HOH.out ((Below.refl _ _).alloc (Nat.le_refl _) _)) (World.ownsRow.alloc HD5.out _) (by decide) h5
      clear h3 h5
      have HB3 : Hid (Below (ob + 1) wd we) := (HB5.out.mono (by exact HZd.out.1)).trans (HF3.out.below (Nat.le_trans HZd.out.1 HB5.out.size) HLw.out)
      have HOB3 : Hid (Blk we ob #[.slice q l d, .int .u64 (l1 : Nat)] 28) := HOBd.out.keep HB3.out (Nat.lt_succ_self _)
      have HS2 : Hid (we.cell? ⟨ob, 0, none⟩ = some (.slice q l d) ∧ we.cell? ⟨ob, 1, none⟩ = some (.int .u64 (l1 : Nat)) ∧ True ∧ True) := ⟨HOB3.out.cell rfl, HOB3.out.cell rfl, trivial, trivial⟩
      refine hK.out _ _ (fun _ => HS2.out) ?_
      clear hK K
      try simp only [Act.put, List.setIfInBounds_toArray, List.set_cons_zero, List.set_cons_succ]
      refine wpL_take (v := ?_) 9 rfl (by kernel_rfl) (fun _ _ _ h => h) (by rfl) ?_ HS2.out ?_
      rotate_left
      focus
        intro w9 hw9
        obtain ⟨k0, k1, k2, k3⟩ := hw9
        go_simp
        try with_reducible rfl
      try simp only [Act.put, List.setIfInBounds_toArray, List.set_cons_zero, List.set_cons_succ]
      obtain ⟨q3, l3, d3, hv3⟩ : ∃ q3 l3 d3, v3 = .slice q3 l3 d3 := by
        obtain ⟨p9, c9, e9, _⟩ := owns_len HO3.out
        exact ⟨_, _, _, e9⟩
      subst hv3
      have e0 := HOB3.out.cell (i := 0) rfl
      have f0 := HOB3.out.frozen 0
      refine wpL_one 10 rfl (by kernel_rfl) (by rfl) ?_
      intro K hK
      go_simp
      refine hK.out _ _ (fun h => absurd rfl h) ?_
      clear hK K
      refine wpL_done (by kernel_rfl) ?_ _
      try simp only [NoPanic]
      have HFX : Hid (Frm we (we.setCell ⟨ob, 0, none⟩ (.slice q3 l3 d3)) (fun k => k = ob)) := frm_set we ob 0 _ (F := fun k => k = ob) (.inl rfl)
      have HOB6 : Hid (Blk (we.setCell ⟨ob, 0, none⟩ (.slice q3 l3 d3)) ob #[.slice q3 l3 d3, .int .u64 (l1 : Nat)] 28) := HOB3.out.set 0 _
      have HRB6 : Hid (Blk (we.setCell ⟨ob, 0, none⟩ (.slice q3 l3 d3)) (w.heap.size + 1) #[.slice none 0 0, .int .u64 0] 28) := (HRBd.out.keep HB3.out (by have := HZd.out.2; omega)).frm HFX.out (by have := HZd.out.2; omega)
      have HZ6 : Hid (ob + 1 ≤ we.heap.size) := HOB3.out.lt
      have HO6 : Hid (World.ownsRow (we.setCell ⟨ob, 0, none⟩ (.slice q3 l3 d3)) (ob + 1) 42 2 (.slice q3 l3 d3) (D ++ [(⟨l1, .slice vq vl vc, H⟩ : Dk)]).length ((D ++ [(⟨l1, .slice vq vl vc, H⟩ : Dk)]).flatMap dkC)) := owns_other2 HO3.out (fun g hg => heap_set_other we ob 0 g _ (by have := (World.ownsRow.lt HO3.out g hg).1; omega))
      have HOH6 : Hid (OwnH (we.setCell ⟨ob, 0, none⟩ (.slice q3 l3 d3)) wd.heap.size (.slice vq vl vc) H) := owns_other2 HOH3.out (fun g hg => heap_set_other we ob 0 g _ (by have := (World.ownsRow.lt HOH3.out g hg).1; have := HZd.out.1; omega))
      have HL6 : Hid (Below w.heap.size w (we.setCell ⟨ob, 0, none⟩ (.slice q3 l3 d3))) := HLd.out.trans ((HB3.out.mono (by have := HZd.out.2; omega)).trans (HFX.out.below (by have := HZd.out.2; have := HZ6.out; omega) (fun k hk => by have := HZd.out.2; omega)))
      have HZ7 : Hid (w.heap.size + 2 ≤ ob ∧ ob + 1 ≤ wd.heap.size) := ⟨HZd.out.2, HZd.out.1⟩
      clear e0 f0 HO3 HOH3 HOB3 HB3 HF3 HFX HS0 HS5 HS6 HS2 HA5 HOB5 HD5 HOBd HDd HLd HFd HRBd
      generalize we.setCell ⟨ob, 0, none⟩ (.slice q3 l3 d3) = w6 at *
      have hdr6 : Below w6.heap.size w6 w6.drew := (Below.refl _ _).drew
      have HOB7 : Hid (Blk w6.drew ob #[.slice q3 l3 d3, .int .u64 (l1 : Nat)] 28) := HOB6.out.on hdr6
      have HRB7 : Hid (Blk w6.drew (w.heap.size + 1) #[.slice none 0 0, .int .u64 0] 28) := HRB6.out.on hdr6
      have HO7 : Hid (World.ownsRow w6.drew (ob + 1) 42 2 (.slice q3 l3 d3) (D ++ [(⟨l1, .slice vq vl vc, H⟩ : Dk)]).length ((D ++ [(⟨l1, .slice vq vl vc, H⟩ : Dk)]).flatMap dkC)) := owns_kept HO6.out hdr6
      have HOH7 : Hid (OwnH w6.drew wd.heap.size (.slice vq vl vc) H) := owns_kept HOH6.out hdr6
      have HL7 : Hid (Below w.heap.size w w6.drew) := HL6.out.trans (hdr6.mono HL6.out.size)
      have HS9 : Hid (w6.drew.cell? ⟨ob, 0, none⟩ = some (.slice q3 l3 d3) ∧ w6.drew.cell? ⟨ob, 1, none⟩ = some (.int .u64 (l1 : Nat)) ∧ True ∧ True) := ⟨HOB7.out.cell rfl, HOB7.out.cell rfl, trivial, trivial⟩
      clear hdr6 HOB6 HRB6 HO6 HOH6 HL6
      go_upto_region 9 with fail
      refine wp_region_any (by kernel_rfl) ?_
      change wpAny _ _ _ _ _ _ _ (World.drew _)
      generalize w6.drew = w7 at *
      have r0 := HRB7.out.cell (i := 0) rfl
      have r1 := HRB7.out.cell (i := 1) rfl
      have fr0 := HRB7.out.frozen 0
      have fr1 := HRB7.out.frozen 1
      have o0 := HOB7.out.cell (i := 0) rfl
      have o1 := HOB7.out.cell (i := 1) rfl
      have HFZ : Hid (Frm w7 ((w7.setCell ⟨w.heap.size + 1, 0, none⟩ (.slice q3 l3 d3)).setCell ⟨w.heap.size + 1, 1, none⟩ (.int .u64 (l1 : Nat))) (fun k => k = w.heap.size + 1)) := (frm_set w7 _ 0 _ (F := fun k => k = w.heap.size + 1) (.inl rfl)).trans (frm_set _ _ 1 _ (F := fun k => k = w.heap.size + 1) (.inl rfl)) (fun k hk => .inl hk)
      have HBZ : Hid (Blk ((w7.setCell ⟨w.heap.size + 1, 0, none⟩ (.slice q3 l3 d3)).setCell ⟨w.heap.size + 1, 1, none⟩ (.int .u64 (l1 : Nat))) (w.heap.size + 1) #[.slice q3 l3 d3, .int .u64 (l1 : Nat)] 28) := (HRB7.out.set 0 _).set 1 _
      have HBO : Hid (Blk ((w7.setCell ⟨w.heap.size + 1, 0, none⟩ (.slice q3 l3 d3)).setCell ⟨w.heap.size + 1, 1, none⟩ (.int .u64 (l1 : Nat))) ob #[.slice q3 l3 d3, .int .u64 (l1 : Nat)] 28) := HOB7.out.frm HFZ.out (by have := HZ7.out.1; omega)
      have o2 := HBO.out.cell (i := 1) rfl
      refine tk (v := ?_) 1 rfl ?_ ?_
      rotate_left
      focus
        intro w9
        go_simp
        try with_reducible rfl
      try simp only [aP]
      apply later0
      intro hs0_2_3
      apply later0
      intro hs0_3
      apply later0
      intro hs0_2
      apply later0
      intro hs2
      apply later0
      intro hs0
      · refine wpAny_ready (rs := [0, 2]) (by kernel_rfl) (by simp) ?_
        refine anyN_cons 0 rfl (by rfl) (fun K hK => ?_) (anyN_cons 2 rfl (by rfl) (fun K hK => ?_) AllReady.nil)
        · go_simp
          refine hK.out _ _ ?_
          clear hK K
          try simp only [aP]
          exact hs0
        · go_simp
          refine hK.out _ _ ?_
          clear hK K
          try simp only [aP]
          exact hs2
      · refine wpAny_ready (rs := [2, 3]) (by kernel_rfl) (by simp) ?_
        refine anyN_cons 2 rfl (by rfl) (fun K hK => ?_) (anyN_cons 3 rfl (by rfl) (fun K hK => ?_) AllReady.nil)
        · go_simp
          refine hK.out _ _ ?_
          clear hK K
          try simp only [aP]
          exact hs0_2
        · go_simp
          refine hK.out _ _ ?_
          clear hK K
          try simp only [aP]
          exact hs0_3
      · refine wpAny_ready (rs := [0]) (by kernel_rfl) (by simp) ?_
        refine anyN_cons 0 rfl (by rfl) (fun K hK => ?_) AllReady.nil
        go_simp
        refine hK.out _ _ ?_
        clear hK K
        try simp only [aP]
        exact hs0_2
      · refine wpAny_ready (rs := [3]) (by kernel_rfl) (by simp) ?_
        refine anyN_cons 3 rfl (by rfl) (fun K hK => ?_) AllReady.nil
        go_simp
        refine hK.out _ _ ?_
        clear hK K
        try simp only [aP]
        exact hs0_2_3
      · refine wpAny_ready (rs := [2]) (by kernel_rfl) (by simp) ?_
        refine anyN_cons 2 rfl (by rfl) (fun K hK => ?_) AllReady.nil
        go_simp
        refine hK.out _ _ ?_
        clear hK K
        try simp only [aP]
        exact hs0_2_3
      · refine tk (v := ?_) 4 rfl ?_ ?_
        rotate_left
        focus
          intro w9
          go_simp
          try with_reducible rfl
        try simp only [aP]
        refine tk (v := ?_) 5 rfl ?_ ?_
        rotate_left
        focus
          intro w9
          go_simp
          try with_reducible rfl
        try simp only [aP]
        refine wpAny_done (by kernel_rfl) ?_ _
        have HLZ : Hid (Below w.heap.size w ((w7.setCell ⟨w.heap.size + 1, 0, none⟩ (.slice q3 l3 d3)).setCell ⟨w.heap.size + 1, 1, none⟩ (.int .u64 (l1 : Nat)))) := HL7.out.trans (HFZ.out.below HL7.out.size (fun k hk => by omega))
        have HDZ : Hid (DkL ((w7.setCell ⟨w.heap.size + 1, 0, none⟩ (.slice q3 l3 d3)).setCell ⟨w.heap.size + 1, 1, none⟩ (.int .u64 (l1 : Nat))) w.heap.size (.slice q3 l3 d3) (D ++ [(⟨l1, .slice vq vl vc, H⟩ : Dk)])) := by
          refine ⟨owns_base (owns_other2 HO7.out (fun g hg => HFZ.out.block g (World.ownsRow.lt HO7.out g hg).2 (by have := (World.ownsRow.lt HO7.out g hg).1; have := HZ7.out.1; omega))) (by have := HZ7.out.1; omega), ?_⟩
          intro d9 hd9
          rcases List.mem_append.1 hd9 with h9 | h9
          · exact ⟨owns_kept (HDh.out d9 h9).1 HLZ.out, (HDh.out d9 h9).2⟩
          · simp only [List.mem_cons, List.not_mem_nil, or_false] at h9
            subst h9
            refine ⟨?_, HHl.out⟩
            exact owns_base (owns_other2 HOH7.out (fun g hg => HFZ.out.block g (World.ownsRow.lt HOH7.out g hg).2 (by have := (World.ownsRow.lt HOH7.out g hg).1; have := HZ7.out; omega))) (Nat.zero_le _)
        have t0 := HBZ.out.cell (i := 0) rfl
        have t1 := HBZ.out.cell (i := 1) rfl
        clear HBZ HBO HFZ HOB7 HRB7 HO7 HOH7 HL7 HS9 r0 r1 fr0 fr1 o0 o1 o2
        generalize ((w7.setCell ⟨w.heap.size + 1, 0, none⟩ (.slice q3 l3 d3)).setCell ⟨w.heap.size + 1, 1, none⟩ (.int .u64 (l1 : Nat))) = wz at *
        go_wp2_with fail
        refine bodyPost_ret (v := .tuple #[.agg #[.slice q3 l3 d3, .int .u64 (l1 : Nat)], .int .u64 (l1 : Nat), .int .i64 0]) (by simp [results, Tryz.results17, go_sem, t0, t1]) rfl ?_
        exact ⟨_, _, rfl, HDZ.out, HLZ.out⟩
end Go.Proofs.YtcdamalpecedcaaGreat
