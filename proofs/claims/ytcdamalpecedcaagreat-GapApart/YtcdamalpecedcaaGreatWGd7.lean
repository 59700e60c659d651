/- Layer 13: the document's Give. -/
import Derived.Test.YtcdamalpecedcaaGreatWGd6
namespace Go.Proofs.YtcdamalpecedcaaGreat
open Go.RowKit
set_option maxRecDepth 100000

theorem erase_at (D : List Dk) (k j : Nat) (hk : k < D.length) : (D.take (k + 1)).eraseIdx j = (D.take k).eraseIdx j ++ (if k = j then [] else [D[k]]) := by
  have hl : (D.take k).length = k := by rw [List.length_take]; omega
  rw [← List.take_append_getElem hk]
  rcases Nat.lt_trichotomy j k with h | h | h
  · rw [List.eraseIdx_append_of_lt_length (by omega), if_neg (by omega)]
  · subst h
    rw [if_pos rfl, List.eraseIdx_append_of_length_le (by omega), hl, List.eraseIdx_of_length_le (by omega : (D.take j).length ≤ j)]
    simp
  · rw [if_neg (by omega), List.eraseIdx_of_length_le (by simp; omega), List.eraseIdx_of_length_le (by omega : (D.take k).length ≤ j)]

set_option maxHeartbeats 16000000 in
theorem rgive_no (D : List Dk) (B ls n : Nat) (v : Value) (w : World) (hD : DkL w B v D) (hl : D.length ≤ 256) (hn : ∀ d ∈ D, d.t ≠ n) :
    Calls Tryz.prog 23 #[.agg #[v, .int .u64 (ls : Nat)], .int .u64 (n : Nat)] w fun e w' => e = .returned (.tuple #[.agg #[v, .int .u64 (ls : Nat)], .int .i64 130]) ∧ Below w.heap.size w w' := by
  have HDh : Hid (∀ d ∈ D, OwnH w 0 d.v d.H ∧ d.H.length ≤ 256) := hD.h
  have HSl : Hid (∀ j (hj : j < D.length), ∃ q l c, D[j].v = .slice q l c) := fun j hj => hD.sl j hj
  have HD0 : Hid (DkL w B v D) := hD
  obtain ⟨q0, c, hv, hRD⟩ := hD.rd
  have HR : Hid (RdD w w.heap.size q0 D) := hRD
  obtain ⟨m, hm⟩ : ∃ m, D.length = m := ⟨_, rfl⟩
  have HDm : Hid (D.length = m) := hm
  rw [hm] at hv
  subst hv
  obtain ⟨aX, aB, aS⟩ := blk_new w #[.slice q0 m c, .int .u64 (ls : Nat)] 28
  obtain ⟨bX, bB, bS⟩ := blk_new (w.alloc (.cells #[.slice q0 m c, .int .u64 (ls : Nat)] 28)) #[.slice none 0 0, .int .u64 0] 28
  have aX2 := aX.on bB
  rw [aS] at bX bS
  have cL : Below w.heap.size w ((w.alloc (.cells #[.slice q0 m c, .int .u64 (ls : Nat)] 28)).alloc (.cells #[.slice none 0 0, .int .u64 0] 28)) := aB.trans (bB.mono aB.size)
  have C1 : Hid (Calls _ _ _ _ _) := rfind_any D B n ls (.slice q0 m c) ((w.alloc (.cells #[.slice q0 m c, .int .u64 (ls : Nat)] 28)).alloc (.cells #[.slice none 0 0, .int .u64 0] 28)) (hD.on cL) hl
  have HL2 : Hid (Below w.heap.size w ((w.alloc (.cells #[.slice q0 m c, .int .u64 (ls : Nat)] 28)).alloc (.cells #[.slice none 0 0, .int .u64 0] 28))) := cL
  have HSB2 : Hid (Blk ((w.alloc (.cells #[.slice q0 m c, .int .u64 (ls : Nat)] 28)).alloc (.cells #[.slice none 0 0, .int .u64 0] 28)) w.heap.size #[.slice q0 m c, .int .u64 (ls : Nat)] 28) := aX2
  have HRB2 : Hid (Blk ((w.alloc (.cells #[.slice q0 m c, .int .u64 (ls : Nat)] 28)).alloc (.cells #[.slice none 0 0, .int .u64 0] 28)) (w.heap.size + 1) #[.slice none 0 0, .int .u64 0] 28) := bX
  have y0 := aX2.cell (i := 0) rfl
  have y1 := aX2.cell (i := 1) rfl
  rw [hm] at hl
  have HK : Hid (∀ k, FndD D n k → k = -1) := fun k hk => fnd_no hk hn
  clear aX aB aS bX bB bS aX2 cL hD hRD hm hn
  go_enter Tryz.func23, Tryz.ntmps23
  go_wp2_with fail
  refine C1.out.mono ?_
  rintro e w3 ⟨k, rfl, hk, hb3⟩
  have hk1 : k = -1 := HK.out k hk
  subst hk1
  have HSB3 : Hid (Blk w3 w.heap.size #[.slice q0 m c, .int .u64 (ls : Nat)] 28) := HSB2.out.on hb3
  have HRB3 : Hid (Blk w3 (w.heap.size + 1) #[.slice none 0 0, .int .u64 0] 28) := HRB2.out.on hb3
  have HL3 : Hid (Below w.heap.size w w3) := HL2.out.trans (hb3.mono HL2.out.size)
  clear hk hb3 C1 HK HSB2 HRB2 HL2 y0 y1
  have s0 := HSB3.out.cell (i := 0) rfl
  have s1 := HSB3.out.cell (i := 1) rfl
  have r0 := HRB3.out.cell (i := 0) rfl
  have r1 := HRB3.out.cell (i := 1) rfl
  have f0 := HRB3.out.frozen 0
  have f1 := HRB3.out.frozen 1
  have HFZ : Hid (Frm w3 ((w3.setCell ⟨w.heap.size + 1, 0, none⟩ (.slice q0 m c)).setCell ⟨w.heap.size + 1, 1, none⟩ (.int .u64 (ls : Nat))) (fun k => k = w.heap.size + 1)) := (frm_set w3 _ 0 _ (F := fun k => k = w.heap.size + 1) (.inl rfl)).trans (frm_set _ _ 1 _ (F := fun k => k = w.heap.size + 1) (.inl rfl)) (fun k hk => .inl hk)
  have HBZ : Hid (Blk ((w3.setCell ⟨w.heap.size + 1, 0, none⟩ (.slice q0 m c)).setCell ⟨w.heap.size + 1, 1, none⟩ (.int .u64 (ls : Nat))) (w.heap.size + 1) #[.slice q0 m c, .int .u64 (ls : Nat)] 28) := (HRB3.out.set 0 _).set 1 _
  have HLZ : Hid (Below w.heap.size w ((w3.setCell ⟨w.heap.size + 1, 0, none⟩ (.slice q0 m c)).setCell ⟨w.heap.size + 1, 1, none⟩ (.int .u64 (ls : Nat)))) := HL3.out.trans (HFZ.out.below HL3.out.size (fun k hk => by omega))
  have t0 := HBZ.out.cell (i := 0) rfl
  have t1 := HBZ.out.cell (i := 1) rfl
  clear HFZ HBZ
  go_wp2_with fail
  refine bodyPost_ret (v := .tuple #[.agg #[.slice q0 m c, .int .u64 (ls : Nat)], .int .i64 130]) (by simp [results, Tryz.results23, go_sem, t0, t1]) rfl ?_
  exact ⟨rfl, HLZ.out⟩

set_option maxHeartbeats 16000000 in
theorem rgive_yes (D : List Dk) (B ls i : Nat) (v : Value) (w : World) (hD : DkL w B v D) (hl : D.length ≤ 256) (hp : D.Pairwise (fun a b => a.t < b.t)) (hi : i < D.length) :
    Calls Tryz.prog 23 #[.agg #[v, .int .u64 (ls : Nat)], .int .u64 (D[i].t : Nat)] w fun e w' => ∃ v', e = .returned (.tuple #[.agg #[v', .int .u64 (ls : Nat)], .int .i64 0]) ∧ DkL w' w.heap.size v' (D.eraseIdx i) ∧ Below w.heap.size w w' := by
  have HDh : Hid (∀ d ∈ D, OwnH w 0 d.v d.H ∧ d.H.length ≤ 256) := hD.h
  have HSl : Hid (∀ j (hj : j < D.length), ∃ q l c, D[j].v = .slice q l c) := fun j hj => hD.sl j hj
  have HD0 : Hid (DkL w B v D) := hD
  obtain ⟨q0, c, hv, hRD⟩ := hD.rd
  have HR : Hid (RdD w w.heap.size q0 D) := hRD
  obtain ⟨m, hm⟩ : ∃ m, D.length = m := ⟨_, rfl⟩
  have HDm : Hid (D.length = m) := hm
  rw [hm] at hv
  subst hv
  obtain ⟨aX, aB, aS⟩ := blk_new w #[.slice q0 m c, .int .u64 (ls : Nat)] 28
  obtain ⟨bX, bB, bS⟩ := blk_new (w.alloc (.cells #[.slice q0 m c, .int .u64 (ls : Nat)] 28)) #[.slice none 0 0, .int .u64 0] 28
  have aX2 := aX.on bB
  rw [aS] at bX bS
  have cL : Below w.heap.size w ((w.alloc (.cells #[.slice q0 m c, .int .u64 (ls : Nat)] 28)).alloc (.cells #[.slice none 0 0, .int .u64 0] 28)) := aB.trans (bB.mono aB.size)
  have C1 : Hid (Calls _ _ _ _ _) := rfind_any D B D[i].t ls (.slice q0 m c) ((w.alloc (.cells #[.slice q0 m c, .int .u64 (ls : Nat)] 28)).alloc (.cells #[.slice none 0 0, .int .u64 0] 28)) (hD.on cL) hl
  have HL2 : Hid (Below w.heap.size w ((w.alloc (.cells #[.slice q0 m c, .int .u64 (ls : Nat)] 28)).alloc (.cells #[.slice none 0 0, .int .u64 0] 28))) := cL
  have HSB2 : Hid (Blk ((w.alloc (.cells #[.slice q0 m c, .int .u64 (ls : Nat)] 28)).alloc (.cells #[.slice none 0 0, .int .u64 0] 28)) w.heap.size #[.slice q0 m c, .int .u64 (ls : Nat)] 28) := aX2
  have HRB2 : Hid (Blk ((w.alloc (.cells #[.slice q0 m c, .int .u64 (ls : Nat)] 28)).alloc (.cells #[.slice none 0 0, .int .u64 0] 28)) (w.heap.size + 1) #[.slice none 0 0, .int .u64 0] 28) := bX
  have y0 := aX2.cell (i := 0) rfl
  have y1 := aX2.cell (i := 1) rfl
  rw [hm] at hl
  have HK : Hid (∀ k, FndD D D[i].t k → k = (i : Int)) := fun k hk => fnd_at hi hk hp
  have HL256 : Hid (∀ j, j ≤ D.length → ((D.take j).eraseIdx i).length ≤ 256) := fun j hj => Nat.le_trans (List.length_eraseIdx_le _ _) (by rw [List.length_take]; omega)
  obtain ⟨l1, hl1⟩ : ∃ l1, l1 = ls := ⟨_, rfl⟩
  generalize D[i].t = ti at *
  clear aX aB aS bX bB bS aX2 cL hD hRD hp
  rw [hm] at hi
  clear hm
  go_enter Tryz.func23, Tryz.ntmps23
  go_wp2_with fail
  refine C1.out.mono ?_
  rintro e w3 ⟨k, rfl, hk, hb3⟩
  have hk1 : k = (i : Int) := HK.out k hk
  subst hk1
  have HSB3 : Hid (Blk w3 w.heap.size #[.slice q0 m c, .int .u64 (ls : Nat)] 28) := HSB2.out.on hb3
  have HRB3 : Hid (Blk w3 (w.heap.size + 1) #[.slice none 0 0, .int .u64 0] 28) := HRB2.out.on hb3
  have HL3 : Hid (Below w.heap.size w w3) := HL2.out.trans (hb3.mono HL2.out.size)
  clear hk hb3 C1 HK HSB2 HRB2 HL2 y0 y1
  have g0 : decide ((i : Int) < 0) = false := by simp
  have s1 := HSB3.out.cell (i := 1) rfl
  obtain ⟨cX, cB, cS⟩ := blk_new w3 #[.slice none 0 0, .int .u64 (ls : Nat)] 28
  have HB4 : Hid (Blk (w3.alloc (.cells #[.slice none 0 0, .int .u64 (ls : Nat)] 28)) w3.heap.size #[.slice none 0 0, .int .u64 (ls : Nat)] 28) := cX
  have HS4 : Hid ((w3.alloc (.cells #[.slice none 0 0, .int .u64 (ls : Nat)] 28)).heap.size = w3.heap.size + 1) := cS
  have HSB : Hid (Blk (w3.alloc (.cells #[.slice none 0 0, .int .u64 (ls : Nat)] 28)) w.heap.size #[.slice q0 m c, .int .u64 (ls : Nat)] 28) := HSB3.out.on cB
  have HRB : Hid (Blk (w3.alloc (.cells #[.slice none 0 0, .int .u64 (ls : Nat)] 28)) (w.heap.size + 1) #[.slice none 0 0, .int .u64 0] 28) := HRB3.out.on cB
  have HL4 : Hid (Below w.heap.size w (w3.alloc (.cells #[.slice none 0 0, .int .u64 (ls : Nat)] 28))) := HL3.out.trans (cB.mono HL3.out.size)
  have HOb0 : Hid (w.heap.size + 2 ≤ w3.heap.size) := HRB3.out.lt
  clear cX cB cS HSB3 HRB3 HL3
  go_upto_region 6 with fail
  clear s1 g0
  generalize w3.alloc (.cells #[.slice none 0 0, .int .u64 (ls : Nat)] 28) = w4 at *
  obtain ⟨ob, hob⟩ : ∃ ob, w3.heap.size = ob := ⟨_, rfl⟩
  rw [hob] at HB4 HS4 HOb0 ⊢
  have HOb : Hid (w.heap.size + 2 ≤ ob) := HOb0
  clear hob HOb0
  rw [← hl1] at HB4 ⊢
  have HLL : Hid (l1 = ls) := hl1
  clear hl1
  go_loopw [8] (fun si wr => ∃ j : Nat, j ≤ D.length ∧ si = .int .i64 (j : Int) ∧ Hid (∃ q l d, Blk wr ob #[.slice q l d, .int .u64 (l1 : Nat)] 28 ∧ World.ownsRow wr (ob + 1) 42 2 (.slice q l d) ((D.take j).eraseIdx i).length (((D.take j).eraseIdx i).flatMap dkC)) ∧ Hid (Frm w4 wr (fun k => k = ob))) (fun si _ => ((m : Int) - intOf si).toNat)
  case atStart => exact ⟨0, Nat.zero_le _, by go_num, ⟨none, 0, 0, HB4.out, World.ownsRow_nil _ _ _ _⟩, Frm.refl _ _⟩
  case round =>
    obtain ⟨j, hj, rfl, hU, hF⟩ := hrel
    obtain ⟨q, l, d, hOB, hOD⟩ := hU.out
    have HOB : Hid (Blk wr ob #[.slice q l d, .int .u64 (l1 : Nat)] 28) := hOB
    have HD : Hid (World.ownsRow wr (ob + 1) 42 2 (.slice q l d) ((D.take j).eraseIdx i).length (((D.take j).eraseIdx i).flatMap dkC)) := hOD
    have HSr : Hid (Blk wr w.heap.size #[.slice q0 m c, .int .u64 (ls : Nat)] 28) := HSB.out.frm hF.out (by have := HOb.out; omega)
    have HRr : Hid (Blk wr (w.heap.size + 1) #[.slice none 0 0, .int .u64 0] 28) := HRB.out.frm hF.out (by have := HOb.out; omega)
    have HLr : Hid (Below w.heap.size w wr) := HL4.out.trans (hF.out.below (by rw [HS4.out]; have := HOb.out; omega) (fun k hk => by have := HOb.out; omega))
    have cs := HSr.out.cell (i := 0) rfl
    clear hOB hOD hU
    have hjm : j ≤ m := by rw [← HDm.out]; exact hj
    rcases Nat.lt_or_eq_of_le hjm with hlt | heq
    · have hjD : j < D.length := by rw [HDm.out]; exact hlt
      have gj : decide ((j : Int) < (m : Int)) = true := by simp; omega
      by_cases hji : j = i
      · have HUN : Hid (∃ q l d, Blk wr ob #[.slice q l d, .int .u64 (l1 : Nat)] 28 ∧ World.ownsRow wr (ob + 1) 42 2 (.slice q l d) ((D.take (j + 1)).eraseIdx i).length (((D.take (j + 1)).eraseIdx i).flatMap dkC)) := by
          refine ⟨q, l, d, HOB.out, ?_⟩
          rw [erase_at D j i hjD, if_pos hji, List.append_nil]
          exact HD.out
        have HFN := hF
        subst hji
        clear HD HOB hF HSr HRr HLr
        go_wp2_with fail
        go_roundw
        case rel => exact ⟨j + 1, by omega, by go_num, HUN, HFN⟩
        case measure => simp [intOf]; omega
      · have gji : ¬ (j : Int) = (i : Int) := by omega
        obtain ⟨b, o, hq, hb, y0, y1⟩ := HR.out.keep (HLr.out) j hjD
        subst hq
        obtain ⟨yq, yl, yc, hyv⟩ : ∃ yq yl yc, D[j].v = .slice yq yl yc := HSl.out j hjD
        rw [hyv] at y1
        have HT : Hid ((D.take (j + 1)).eraseIdx i = (D.take j).eraseIdx i ++ [D[j]]) := by
          show _ = _
          rw [erase_at D j i hjD, if_neg hji]
        have HTL : Hid (((D.take j).eraseIdx i).length ≤ 256) := HL256.out j hj
        have hz := HOB.out.lt
        have hdr : Below wr.heap.size wr wr.drew := (Below.refl _ _).drew
        have HOBd : Hid (Blk wr.drew ob #[.slice q l d, .int .u64 (l1 : Nat)] 28) := HOB.out.on hdr
        have HDd : Hid (World.ownsRow wr.drew (ob + 1) 42 2 (.slice q l d) ((D.take j).eraseIdx i).length (((D.take j).eraseIdx i).flatMap dkC)) := owns_kept HD.out hdr
        have HFd : Hid (Frm w4 wr.drew (fun k => k = ob)) := hF.out.drew
        have HLd : Hid (Below w.heap.size w wr.drew) := HLr.out.trans (hdr.mono HLr.out.size)
        have HZd : Hid (ob + 1 ≤ wr.drew.heap.size ∧ w.heap.size + 2 ≤ ob) := ⟨hz, HOb.out⟩
        have HSBd : Hid (Blk wr.drew w.heap.size #[.slice (some ⟨b, o, none⟩) m c, .int .u64 (ls : Nat)] 28) := HSr.out.on hdr
        have hdk : dkC D[j] = [.int .u64 (D[j].t : Nat), .slice yq yl yc] := by unfold dkC; rw [hyv]
        have HDK : Hid (∀ w' v' n', World.ownsRow w' (ob + 1) 42 2 v' n' (((D.take j).eraseIdx i).flatMap dkC ++ [.int .u64 (D[j].t : Nat), .slice yq yl yc]) → n' = ((D.take j).eraseIdx i).length + 1 → World.ownsRow w' (ob + 1) 42 2 v' ((D.take (j + 1)).eraseIdx i).length (((D.take (j + 1)).eraseIdx i).flatMap dkC)) := by
          intro w' v' n' h9 hn9
          rw [HT.out, List.length_append, List.flatMap_append, List.flatMap_cons, List.flatMap_nil, List.append_nil, hdk]
          subst hn9
          exact h9
        have HS0 : Hid (wr.drew.cell? ⟨ob, 0, none⟩ = some (.slice q l d) ∧ wr.drew.cell? ⟨w.heap.size, 0, none⟩ = some (.slice (some ⟨b, o, none⟩) m c) ∧ wr.drew.cell? ⟨b, o + j * 2, none⟩ = some (.int .u64 (D[j].t : Nat)) ∧ wr.drew.cell? ⟨b, o + j * 2 + 1, none⟩ = some (.slice yq yl yc)) := ⟨HOBd.out.cell rfl, HSBd.out.cell rfl, (hdr.cell (p := ⟨b, o + j * 2, none⟩) (show b < wr.heap.size by have := HLr.out.size; omega)).trans y0, (hdr.cell (p := ⟨b, o + j * 2 + 1, none⟩) (show b < wr.heap.size by have := HLr.out.size; omega)).trans y1⟩
        have HBb : Hid (b < w.heap.size) := hb
        clear y0 y1 hdr hz hyv hdk HT HSr HLr HOB HD hF hb
        have x0 := HS0.out.1
        clear x0
        generalize (D[j].t : Int) = yt at *
        go_wp2_with fail
        refine wp_region_L (fun w' => w'.cell? ⟨ob, 0, none⟩ = some (.slice q l d) ∧ w'.cell? ⟨w.heap.size, 0, none⟩ = some (.slice (some ⟨b, o, none⟩) m c) ∧ w'.cell? ⟨b, o + j * 2, none⟩ = some (.int .u64 yt) ∧ w'.cell? ⟨b, o + j * 2 + 1, none⟩ = some (.slice yq yl yc)) 10 (by kernel_rfl) ?_
        generalize wr.drew = wd at *
        refine wpL_take (v := ?_) 0 rfl (by kernel_rfl) (fun _ _ _ h => h) (by rfl) ?_ HS0.out ?_
        rotate_left
        focus
          intro w9 hw9
          obtain ⟨k0, k1, k2, k3⟩ := hw9
          go_simp
          try with_reducible rfl
        try simp only [Act.put, List.setIfInBounds_toArray, List.set_cons_zero, List.set_cons_succ]
        refine wpL_take (v := ?_) 1 rfl (by kernel_rfl) (fun _ _ _ h => h) (by rfl) ?_ HS0.out ?_
        rotate_left
        focus
          intro w9 hw9
          obtain ⟨k0, k1, k2, k3⟩ := hw9
          go_simp
          try with_reducible rfl
        try simp only [Act.put, List.setIfInBounds_toArray, List.set_cons_zero, List.set_cons_succ]
        refine wpL_take (v := ?_) 2 rfl (by kernel_rfl) (fun _ _ _ h => h) (by rfl) ?_ HS0.out ?_
        rotate_left
        focus
          intro w9 hw9
          obtain ⟨k0, k1, k2, k3⟩ := hw9
          go_simp
          try with_reducible rfl
        try simp only [Act.put, List.setIfInBounds_toArray, List.set_cons_zero, List.set_cons_succ]
        refine wpL_take (v := ?_) 3 rfl (by kernel_rfl) (fun _ _ _ h => h) (by rfl) ?_ HS0.out ?_
        rotate_left
        focus
          intro w9 hw9
          obtain ⟨k0, k1, k2, k3⟩ := hw9
          go_simp
          try with_reducible rfl
        try simp only [Act.put, List.setIfInBounds_toArray, List.set_cons_zero, List.set_cons_succ]
        refine wpL_take (v := ?_) 4 rfl (by kernel_rfl) (fun _ _ _ h => h) (by rfl) ?_ HS0.out ?_
        rotate_left
        focus
          intro w9 hw9
          obtain ⟨k0, k1, k2, k3⟩ := hw9
          go_simp
          try with_reducible rfl
        try simp only [Act.put, List.setIfInBounds_toArray, List.set_cons_zero, List.set_cons_succ]
        refine wpL_take (v := ?_) 5 rfl (by kernel_rfl) (fun _ _ _ h => h) (by rfl) ?_ HS0.out ?_
        rotate_left
        focus
          intro w9 hw9
          obtain ⟨k0, k1, k2, k3⟩ := hw9
          go_simp
          try with_reducible rfl
        try simp only [Act.put, List.setIfInBounds_toArray, List.set_cons_zero, List.set_cons_succ]
        refine wpL_take (v := ?_) 6 rfl (by kernel_rfl) (fun _ _ _ h => h) (by rfl) ?_ HS0.out ?_
        rotate_left
        focus
          intro w9 hw9
          obtain ⟨k0, k1, k2, k3⟩ := hw9
          go_simp
          try with_reducible rfl
        try simp only [Act.put, List.setIfInBounds_toArray, List.set_cons_zero, List.set_cons_succ]
        have HS1 : Hid ((wd.alloc (.cells #[.int .u64 yt, .slice yq yl yc] 42)).cell? ⟨ob, 0, none⟩ = some (.slice q l d) ∧ (wd.alloc (.cells #[.int .u64 yt, .slice yq yl yc] 42)).cell? ⟨w.heap.size, 0, none⟩ = some (.slice (some ⟨b, o, none⟩) m c) ∧ (wd.alloc (.cells #[.int .u64 yt, .slice yq yl yc] 42)).cell? ⟨b, o + j * 2, none⟩ = some (.int .u64 yt) ∧ (wd.alloc (.cells #[.int .u64 yt, .slice yq yl yc] 42)).cell? ⟨b, o + j * 2 + 1, none⟩ = some (.slice yq yl yc)) := by
          have hal : Below wd.heap.size wd (wd.alloc (.cells #[.int .u64 yt, .slice yq yl yc] 42)) := (Below.refl _ _).alloc (Nat.le_refl _) _
          obtain ⟨k0, k1, k2, k3⟩ := HS0.out
          have z1 := HZd.out.1
          have z2 := HZd.out.2
          have z3 := HBb.out
          exact ⟨(hal.cell (p := ⟨ob, 0, none⟩) (show ob < _ by omega)).trans k0, (hal.cell (p := ⟨w.heap.size, 0, none⟩) (show w.heap.size < _ by omega)).trans k1, (hal.cell (p := ⟨b, o + j * 2, none⟩) (show b < _ by omega)).trans k2, (hal.cell (p := ⟨b, o + j * 2 + 1, none⟩) (show b < _ by omega)).trans k3⟩
        refine wpL_one 7 rfl (by kernel_rfl) (by rfl) ?_
        intro K hK
        go_simp
        refine hK.out _ _ (fun _ => HS1.out) ?_
        clear hK K
        try simp only [Act.put, List.setIfInBounds_toArray, List.set_cons_zero, List.set_cons_succ]
        refine wpL_one 8 rfl (by kernel_rfl) (by rfl) ?_
        intro K hK
        refine wp_appW _ (.tmp 29) (.tmp 35) 42 25 _ 2 32 rfl Tryz.underlying25 info_dk rfl (by decide) (ob + 1) _ _ _ rfl (World.ownsRow.alloc HDd.out _) [.int .u64 yt, .slice yq yl yc] rfl (by intro u hu; simp only [List.mem_cons, List.not_mem_nil, or_false] at hu; rcases hu with rfl | rfl <;> rfl) wd.heap.size rfl (by intro i9 u9 hu9; rw [World.cell?_alloc_new]; simpa using hu9) (by have := HTL.out; omega) (by have := HTL.out; omega) (by have := HZd.out.1; simp; omega) ?_
        intro v3 we h3 h5
        have HO3 : Hid (World.ownsRow we (ob + 1) 42 2 v3 ((D.take (j + 1)).eraseIdx i).length (((D.take (j + 1)).eraseIdx i).flatMap dkC)) := HDK.out _ _ _ h3 rfl
        have HF3 : Hid (Frm wd we (fun k => (Value.slice q l d).ownBlock = some k)) := (Frm.of_below (F := fun k => (Value.slice q l d).ownBlock = some k) ((Below.refl wd.heap.size wd).alloc (Nat.le_refl _) _)).trans (Frm.of_grown (F := fun k => (Value.slice q l d).ownBlock = some k) h5 (fun g hg => .inl hg)) (fun k hk => .inl hk)
        have HLw : Hid (∀ k, (Value.slice q l d).ownBlock = some k → ob + 1 ≤ k) := fun k hk => (World.ownsRow.lt HDd.out k hk).1
        clear h3 h5 HDK
        have HOB3 : Hid (Blk we ob #[.slice q l d, .int .u64 (l1 : Nat)] 28) := HOBd.out.frm HF3.out (fun hk => by have := HLw.out _ hk; omega)
        have HB3 : Hid (Below (ob + 1) wd we) := HF3.out.below HZd.out.1 HLw.out
        have HS2 : Hid (we.cell? ⟨ob, 0, none⟩ = some (.slice q l d) ∧ we.cell? ⟨w.heap.size, 0, none⟩ = some (.slice (some ⟨b, o, none⟩) m c) ∧ we.cell? ⟨b, o + j * 2, none⟩ = some (.int .u64 yt) ∧ we.cell? ⟨b, o + j * 2 + 1, none⟩ = some (.slice yq yl yc)) := by
          obtain ⟨k0, k1, k2, k3⟩ := HS0.out
          have z2 := HZd.out.2
          have z3 := HBb.out
          exact ⟨(HB3.out.cell (p := ⟨ob, 0, none⟩) (show ob < _ by omega)).trans k0, (HB3.out.cell (p := ⟨w.heap.size, 0, none⟩) (show w.heap.size < _ by omega)).trans k1, (HB3.out.cell (p := ⟨b, o + j * 2, none⟩) (show b < _ by omega)).trans k2, (HB3.out.cell (p := ⟨b, o + j * 2 + 1, none⟩) (show b < _ by omega)).trans k3⟩
        refine hK.out _ _ (fun _ => HS2.out) ?_
        clear hK K
        try simp only [Act.put, List.setIfInBounds_toArray, List.set_cons_zero, List.set_cons_succ]
        refine wpL_take (v := ?_) 9 rfl (by kernel_rfl) (fun _ _ _ h => h) (by rfl) ?_ HS2.out ?_
        rotate_left
        focus
          intro w9 hw9
          obtain ⟨k0, k1, k2, k3⟩ := hw9
          go_simp
          try with_reducible rfl
        try simp only [Act.put, List.setIfInBounds_toArray, List.set_cons_zero, List.set_cons_succ]
        obtain ⟨q3, l3, d3, hv3⟩ : ∃ q3 l3 d3, v3 = .slice q3 l3 d3 := by
          obtain ⟨p9, c9, e9, _⟩ := owns_len HO3.out
          exact ⟨_, _, _, e9⟩
        subst hv3
        have e0 := HOB3.out.cell (i := 0) rfl
        have f0 := HOB3.out.frozen 0
        refine wpL_one 10 rfl (by kernel_rfl) (by rfl) ?_
        intro K hK
        go_simp
        refine hK.out _ _ (fun h => absurd rfl h) ?_
        clear hK K
        refine wpL_done (by kernel_rfl) ?_ _
        try simp only [NoPanic]
        have HUN : Hid (∃ q l d, Blk (we.setCell ⟨ob, 0, none⟩ (.slice q3 l3 d3)) ob #[.slice q l d, .int .u64 (l1 : Nat)] 28 ∧ World.ownsRow (we.setCell ⟨ob, 0, none⟩ (.slice q3 l3 d3)) (ob + 1) 42 2 (.slice q l d) ((D.take (j + 1)).eraseIdx i).length (((D.take (j + 1)).eraseIdx i).flatMap dkC)) := by
          refine ⟨q3, l3, d3, HOB3.out.set 0 _, ?_⟩
          exact owns_other2 HO3.out (fun g hg => heap_set_other we ob 0 g _ (by have := (World.ownsRow.lt HO3.out g hg).1; omega))
        have HFN : Hid (Frm w4 (we.setCell ⟨ob, 0, none⟩ (.slice q3 l3 d3)) (fun k => k = ob)) := (HFd.out.trans HF3.out (fun k hk => .inr (by have := HLw.out k hk; rw [HS4.out]; exact this))).trans (frm_set we ob 0 _ (F := fun k => k = ob) (.inl rfl)) (fun k hk => .inl hk)
        clear e0 f0
        go_wp2_with fail
        go_roundw
        case rel => exact ⟨j + 1, by omega, by go_num, HUN, HFN⟩
        case measure => simp [intOf]; omega
    · have gj : decide ((j : Int) < (m : Int)) = false := by simp; omega
      rw [heq, ← HDm.out, List.take_length] at HD
      have o0 := HOB.out.cell (i := 0) rfl
      have o1 := HOB.out.cell (i := 1) rfl
      have r0 := HRr.out.cell (i := 0) rfl
      have r1 := HRr.out.cell (i := 1) rfl
      have f0 := HRr.out.frozen 0
      have f1 := HRr.out.frozen 1
      have HFZ : Hid (Frm wr ((wr.setCell ⟨w.heap.size + 1, 0, none⟩ (.slice q l d)).setCell ⟨w.heap.size + 1, 1, none⟩ (.int .u64 (l1 : Nat))) (fun k => k = w.heap.size + 1)) := (frm_set wr _ 0 _ (F := fun k => k = w.heap.size + 1) (.inl rfl)).trans (frm_set _ _ 1 _ (F := fun k => k = w.heap.size + 1) (.inl rfl)) (fun k hk => .inl hk)
      have HBZ : Hid (Blk ((wr.setCell ⟨w.heap.size + 1, 0, none⟩ (.slice q l d)).setCell ⟨w.heap.size + 1, 1, none⟩ (.int .u64 (l1 : Nat))) (w.heap.size + 1) #[.slice q l d, .int .u64 (l1 : Nat)] 28) := (HRr.out.set 0 _).set 1 _
      have HLZ : Hid (Below w.heap.size w ((wr.setCell ⟨w.heap.size + 1, 0, none⟩ (.slice q l d)).setCell ⟨w.heap.size + 1, 1, none⟩ (.int .u64 (l1 : Nat)))) := HLr.out.trans (HFZ.out.below HLr.out.size (fun k hk => by omega))
      have HDZ : Hid (DkL ((wr.setCell ⟨w.heap.size + 1, 0, none⟩ (.slice q l d)).setCell ⟨w.heap.size + 1, 1, none⟩ (.int .u64 (l1 : Nat))) w.heap.size (.slice q l d) (D.eraseIdx i)) := by
        refine ⟨owns_base (owns_other2 HD.out (fun g hg => HFZ.out.block g (World.ownsRow.lt HD.out g hg).2 (by have := (World.ownsRow.lt HD.out g hg).1; have := HOb.out; omega))) (by have := HOb.out; omega), ?_⟩
        intro d9 hd9
        have h9 := List.mem_of_mem_eraseIdx hd9
        exact ⟨owns_kept (HDh.out d9 h9).1 HLZ.out, (HDh.out d9 h9).2⟩
      have t0 := HBZ.out.cell (i := 0) rfl
      have t1 := HBZ.out.cell (i := 1) rfl
      clear HFZ HBZ HD HOB hF HSr HRr HLr
      go_wp2_with fail
      rw [← HLL.out]
      refine bodyPost_ret (v := .tuple #[.agg #[.slice q l d, .int .u64 (l1 : Nat)], .int .i64 0]) (by simp [results, Tryz.results23, go_sem, t0, t1]) rfl ?_
      exact ⟨_, rfl, HDZ.out, HLZ.out⟩
end Go.Proofs.YtcdamalpecedcaaGreat
