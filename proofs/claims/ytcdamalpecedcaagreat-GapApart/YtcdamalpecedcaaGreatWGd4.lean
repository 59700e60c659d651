/- Layer 13: the document's Ahead. -/
import Derived.Test.YtcdamalpecedcaaGreatWGd3
namespace Go.Proofs.YtcdamalpecedcaaGreat
open Go.RowKit
set_option maxRecDepth 100000

theorem fnd_no {D : List Dk} {n : Nat} {k : Int} (h : FndD D n k) (hn : ∀ d ∈ D, d.t ≠ n) : k = -1 := by
  rcases h with h | ⟨i, hi, _, h⟩
  · exact h.1
  · exact absurd h (hn _ (List.getElem_mem hi))
theorem fnd_at {D : List Dk} {i : Nat} {k : Int} (hi : i < D.length) (h : FndD D D[i].t k) (hp : D.Pairwise (fun a b => a.t < b.t)) : k = (i : Int) := by
  rcases h with ⟨_, h⟩ | ⟨j, hj, rfl, h⟩
  · exact absurd rfl (h _ (List.getElem_mem hi))
  · rw [List.pairwise_iff_getElem] at hp
    rcases Nat.lt_trichotomy i j with h9 | h9 | h9
    · have := hp i j hi hj h9
      omega
    · rw [h9]
    · have := hp j i hj hi h9
      omega
/-- those in the way of some holds, of the first k -/
noncomputable def ahD (D : List Dk) (H : List Hd) (k : Nat) : List Nat := ((D.take k).filter (fun d => wayB d.H H)).map Dk.t
theorem ahD_on {D : List Dk} {H : List Hd} {k : Nat} (hk : k < D.length) (h : wayB D[k].H H = true) : ahD D H (k + 1) = ahD D H k ++ [D[k].t] := by
  unfold ahD
  rw [List.take_succ_eq_append_getElem hk, List.filter_append, List.map_append]
  simp [h]
theorem ahD_off {D : List Dk} {H : List Hd} {k : Nat} (hk : k < D.length) (h : wayB D[k].H H = false) : ahD D H (k + 1) = ahD D H k := by
  unfold ahD
  rw [List.take_succ_eq_append_getElem hk, List.filter_append, List.map_append]
  simp [h]
theorem ahD_len (D : List Dk) (H : List Hd) (k : Nat) : (ahD D H k).length ≤ k := by
  unfold ahD
  rw [List.length_map]
  exact Nat.le_trans (List.length_filter_le _ _) (List.length_take_le _ _)

set_option maxHeartbeats 4000000 in
theorem rahead_no (D : List Dk) (B ls n : Nat) (v : Value) (w : World) (hD : DkL w B v D) (hl : D.length ≤ 256) (hn : ∀ d ∈ D, d.t ≠ n) :
    Calls Tryz.prog 21 #[.agg #[v, .int .u64 (ls : Nat)], .int .u64 (n : Nat)] w fun e w' => e = .returned (.tuple #[.slice none 0 0, .int .i64 130]) ∧ Below w.heap.size w w' := by
  obtain ⟨hX, hal, hsz⟩ := blk_new w #[v, .int .u64 (ls : Nat)] 28
  have C1 : Hid (Calls _ _ _ _ _) := rfind_any D B n ls v (w.alloc (.cells #[v, .int .u64 (ls : Nat)] 28)) (hD.on hal) hl
  have HN : Hid (∀ d ∈ D, d.t ≠ n) := hn
  have HB : Hid (Below w.heap.size w (w.alloc (.cells #[v, .int .u64 (ls : Nat)] 28))) := hal
  have x0 := Blk.cell (i := 0) hX rfl
  have x1 := Blk.cell (i := 1) hX rfl
  clear hD hX hn hal hsz
  go_enter Tryz.func21, Tryz.ntmps21
  go_wp2_with fail
  refine C1.out.mono ?_
  rintro e w2 ⟨k, rfl, hk, hb2⟩
  have hk1 := fnd_no hk HN.out
  subst hk1
  have HB2 : Hid (Below w.heap.size w w2) := HB.out.trans (hb2.mono HB.out.size)
  clear hk hb2 C1
  go_wp2_with fail
  go_ret2
  exact ⟨rfl, HB2.out⟩

set_option maxHeartbeats 16000000 in
theorem rahead_yes (D : List Dk) (B ls i : Nat) (v : Value) (w : World) (hD : DkL w B v D) (hl : D.length ≤ 256) (hp : D.Pairwise (fun a b => a.t < b.t)) (hi : i < D.length) :
    Calls Tryz.prog 21 #[.agg #[v, .int .u64 (ls : Nat)], .int .u64 (D[i].t : Nat)] w fun e w' => ∃ u, e = .returned (.tuple #[u, .int .i64 0]) ∧ OwnU w' w.heap.size u (ahD D D[i].H i) ∧ Below w.heap.size w w' := by
  obtain ⟨hX, hal, hsz⟩ := blk_new w #[v, .int .u64 (ls : Nat)] 28
  have hD1 := hD.on hal
  obtain ⟨Hi, hHi⟩ : ∃ Hi, D[i].H = Hi := ⟨_, rfl⟩
  obtain ⟨vi, hvi⟩ : ∃ vi, D[i].v = vi := ⟨_, rfl⟩
  have C1 : Hid (Calls _ _ _ _ _) := rfind_any D B D[i].t ls v (w.alloc (.cells #[v, .int .u64 (ls : Nat)] 28)) hD1 hl
  have HN : Hid (∀ k, FndD D D[i].t k → k = (i : Int)) := fun k hk => fnd_at hi hk hp
  have HB : Hid (Below w.heap.size w (w.alloc (.cells #[v, .int .u64 (ls : Nat)] 28))) := hal
  have x0 := Blk.cell (i := 0) hX rfl
  have x1 := Blk.cell (i := 1) hX rfl
  have HX1 : Hid (Blk (w.alloc (.cells #[v, .int .u64 (ls : Nat)] 28)) w.heap.size #[v, .int .u64 (ls : Nat)] 28) := hX
  have HD1 : Hid (DkL (w.alloc (.cells #[v, .int .u64 (ls : Nat)] 28)) B v D) := hD1
  have HIi : Hid (D[i].H = Hi ∧ D[i].v = vi) := ⟨hHi, hvi⟩
  rw [hHi]
  generalize hti : D[i].t = ti at *
  clear hD hX hal hsz hp hD1 hHi hvi hti
  go_enter Tryz.func21, Tryz.ntmps21
  go_wp2_with fail
  generalize w.alloc (.cells #[v, .int .u64 (ls : Nat)] 28) = w1 at *
  refine C1.out.mono ?_
  rintro e w2 ⟨k, rfl, hk, hb2⟩
  have hk1 := HN.out k hk
  subst hk1
  have HB2 : Hid (Below w.heap.size w w2) := HB.out.trans (hb2.mono HB.out.size)
  have HX : Hid (Blk w2 w.heap.size #[v, .int .u64 (ls : Nat)] 28) := HX1.out.on hb2
  have hD2 := HD1.out.on hb2
  have HS : Hid (w2.heap.size ≤ w2.heap.size) := Nat.le_refl _
  have hal2 : Below w2.heap.size w2 (w2.alloc (.cells #[] 26)) := (Below.refl _ _).alloc (Nat.le_refl _) _
  have H0 : Hid (OwnU (w2.alloc (.cells #[] 26)) w2.heap.size (.slice (some ⟨w2.heap.size, 0, none⟩) 0 0) [] ∧ Below w2.heap.size w2 (w2.alloc (.cells #[] 26))) := ⟨owns_empty w2 _ (Nat.le_refl _) _ _, hal2⟩
  have HD2 : Hid (DkL w2 B v D) := hD2
  obtain ⟨q, c, hv, hR⟩ := hD2.rd
  have HR : Hid (RdD w2 w2.heap.size q D) := hR
  subst hv
  clear hk hb2 C1 HN HB HX1 HD1 hD2 hal2 hR x0 x1
  have g0 : decide ((i : Int) < 0) = false := by simp
  go_upto_region 6 with fail
  clear g0
  generalize w2.alloc (.cells #[] 26) = w5 at *
  go_loopw [7, 8] (fun sv sk wq => ∃ k : Nat, k ≤ i ∧ sk = .int .i64 (k : Int) ∧ Hid (OwnU wq w2.heap.size sv (ahD D Hi k) ∧ Below w2.heap.size w2 wq)) (fun _ sk _ => ((i : Int) - intOf sk).toNat)
  case atStart => exact ⟨0, by omega, rfl, H0⟩
  case round =>
    clear H0
    obtain ⟨k, hk, rfl, HI⟩ := hrel
    rcases Nat.lt_or_eq_of_le hk with hltk | heqk
    · have g1 : decide ((k : Int) < (i : Int)) = true := by simp; omega
      have hkD : k < D.length := by omega
      have hdr : Below wr.heap.size wr wr.drew := (Below.refl _ _).drew
      have HBd : Hid (Below w2.heap.size w2 wr.drew) := HI.out.2.trans (hdr.mono HI.out.2.size)
      have HOd : Hid (OwnU wr.drew w2.heap.size u7 (ahD D Hi k)) := owns_kept HI.out.1 hdr
      have HLn : Hid ((ahD D Hi k).length ≤ k) := ahD_len _ _ _
      have z0 := Blk.cell (i := 0) (HX.out.on HBd.out) rfl
      have hDd := HD2.out.on HBd.out
      obtain ⟨ok, lk⟩ := hDd.h _ (List.getElem_mem hkD)
      obtain ⟨oi, li⟩ := hDd.h _ (List.getElem_mem hi)
      obtain ⟨b, o, hq, -, -, y1⟩ := HR.out.keep HBd.out k hkD
      subst hq
      obtain ⟨b', o', hq', -, -, y2⟩ := HR.out.keep HBd.out i hi
      cases hq'
      rw [HIi.out.1, HIi.out.2] at oi
      rw [HIi.out.1] at li
      rw [HIi.out.2] at y2
      obtain ⟨qk, ck, hvk, rk⟩ := OwnH.rd ok
      obtain ⟨qi, ci, hvi, ri⟩ := OwnH.rd oi
      rw [hvk] at y1
      rw [hvi] at y2
      have CW : Hid (Calls Tryz.prog 11 #[.slice qk D[k].H.length ck, .slice qi Hi.length ci] wr.drew fun e w' => e = .returned (.bool (wayB D[k].H Hi)) ∧ Below wr.drew.heap.size wr.drew w') := rway_any _ _ _ _ _ _ _ rk ri lk li
      clear hdr hDd ok lk oi li hvk hvi rk ri HI
      have hlI : ((D.length : Int)) ≤ 256 := by omega
      have gk : (k : Int) < (D.length : Int) := by omega
      have gi : (i : Int) < (D.length : Int) := by omega
      go_upto_region 8 with fail
      refine wp_region_any (by kernel_rfl) ?_
      change wpAny _ _ _ _ _ _ _ (World.drew _)
      generalize wr.drew = wd at *
      cases hway : wayB D[k].H Hi with
      | true =>
        have HT : Hid (ahD D Hi (k + 1) = ahD D Hi k ++ [D[k].t]) := ahD_on hkD hway
        rw [hway] at CW
        clear hway
        refine tk (v := ?_) 0 rfl ?_ ?_
        rotate_left
        focus
          intro w9
          go_simp
          try with_reducible rfl
        try simp only [aP]
        refine tk (v := ?_) 2 rfl ?_ ?_
        rotate_left
        focus
          intro w9
          go_simp
          try with_reducible rfl
        try simp only [aP]
        refine tk (v := ?_) 6 rfl ?_ ?_
        rotate_left
        focus
          intro w9
          go_simp
          try with_reducible rfl
        try simp only [aP]
        refine tk (v := ?_) 8 rfl ?_ ?_
        rotate_left
        focus
          intro w9
          go_simp
          try with_reducible rfl
        try simp only [aP]
        apply later1 (fun (w3 : World) => Hid (Below wd.heap.size wd w3))
        intro hs1_5_7_11_12
        apply later0
        intro hs1_5_7_11
        apply later0
        intro hs1_7_11
        apply later0
        intro hs1_5_7
        apply later0
        intro hs7_11
        apply later0
        intro hs1_7
        apply later0
        intro hs1_5
        apply later0
        intro hs7
        apply later0
        intro hs1
        · refine wpAny_ready (rs := [1, 7]) (by kernel_rfl) (by simp) ?_
          refine anyN_cons 1 rfl (by rfl) (fun K hK => ?_) (anyN_cons 7 rfl (by rfl) (fun K hK => ?_) AllReady.nil)
          · go_simp
            refine hK.out _ _ ?_
            clear hK K
            try simp only [aP]
            refine tk (v := ?_) 3 rfl ?_ ?_
            rotate_left
            focus
              intro w9
              go_simp
              try with_reducible rfl
            try simp only [aP]
            refine tk (v := ?_) 4 rfl ?_ ?_
            rotate_left
            focus
              intro w9
              go_simp
              try with_reducible rfl
            try simp only [aP]
            exact hs1
          · go_simp
            refine hK.out _ _ ?_
            clear hK K
            try simp only [aP]
            refine tk (v := ?_) 9 rfl ?_ ?_
            rotate_left
            focus
              intro w9
              go_simp
              try with_reducible rfl
            try simp only [aP]
            refine tk (v := ?_) 10 rfl ?_ ?_
            rotate_left
            focus
              intro w9
              go_simp
              try with_reducible rfl
            try simp only [aP]
            exact hs7
        · refine wpAny_ready (rs := [5, 7]) (by kernel_rfl) (by simp) ?_
          refine anyN_cons 5 rfl (by rfl) (fun K hK => ?_) (anyN_cons 7 rfl (by rfl) (fun K hK => ?_) AllReady.nil)
          · go_simp
            refine hK.out _ _ ?_
            clear hK K
            try simp only [aP]
            exact hs1_5
          · go_simp
            refine hK.out _ _ ?_
            clear hK K
            try simp only [aP]
            refine tk (v := ?_) 9 rfl ?_ ?_
            rotate_left
            focus
              intro w9
              go_simp
              try with_reducible rfl
            try simp only [aP]
            refine tk (v := ?_) 10 rfl ?_ ?_
            rotate_left
            focus
              intro w9
              go_simp
              try with_reducible rfl
            try simp only [aP]
            exact hs1_7
        · refine wpAny_ready (rs := [1, 11]) (by kernel_rfl) (by simp) ?_
          refine anyN_cons 1 rfl (by rfl) (fun K hK => ?_) (anyN_cons 11 rfl (by rfl) (fun K hK => ?_) AllReady.nil)
          · go_simp
            refine hK.out _ _ ?_
            clear hK K
            try simp only [aP]
            refine tk (v := ?_) 3 rfl ?_ ?_
            rotate_left
            focus
              intro w9
              go_simp
              try with_reducible rfl
            try simp only [aP]
            refine tk (v := ?_) 4 rfl ?_ ?_
            rotate_left
            focus
              intro w9
              go_simp
              try with_reducible rfl
            try simp only [aP]
            exact hs1_7
          · go_simp
            refine hK.out _ _ ?_
            clear hK K
            try simp only [aP]
            exact hs7_11
        · refine wpAny_ready (rs := [7]) (by kernel_rfl) (by simp) ?_
          refine anyN_cons 7 rfl (by rfl) (fun K hK => ?_) AllReady.nil
          go_simp
          refine hK.out _ _ ?_
          clear hK K
          try simp only [aP]
          refine tk (v := ?_) 9 rfl ?_ ?_
          rotate_left
          focus
            intro w9
            go_simp
            try with_reducible rfl
          try simp only [aP]
          refine tk (v := ?_) 10 rfl ?_ ?_
          rotate_left
          focus
            intro w9
            go_simp
            try with_reducible rfl
          try simp only [aP]
          exact hs1_5_7
        · refine wpAny_ready (rs := [5, 11]) (by kernel_rfl) (by simp) ?_
          refine anyN_cons 5 rfl (by rfl) (fun K hK => ?_) (anyN_cons 11 rfl (by rfl) (fun K hK => ?_) AllReady.nil)
          · go_simp
            refine hK.out _ _ ?_
            clear hK K
            try simp only [aP]
            exact hs1_5_7
          · go_simp
            refine hK.out _ _ ?_
            clear hK K
            try simp only [aP]
            exact hs1_7_11
        · refine wpAny_ready (rs := [1]) (by kernel_rfl) (by simp) ?_
          refine anyN_cons 1 rfl (by rfl) (fun K hK => ?_) AllReady.nil
          go_simp
          refine hK.out _ _ ?_
          clear hK K
          try simp only [aP]
          refine tk (v := ?_) 3 rfl ?_ ?_
          rotate_left
          focus
            intro w9
            go_simp
            try with_reducible rfl
          try simp only [aP]
          refine tk (v := ?_) 4 rfl ?_ ?_
          rotate_left
          focus
            intro w9
            go_simp
            try with_reducible rfl
          try simp only [aP]
          exact hs1_7_11
        · refine wpAny_ready (rs := [11]) (by kernel_rfl) (by simp) ?_
          refine anyN_cons 11 rfl (by rfl) (fun K hK => ?_) AllReady.nil
          go_simp
          refine hK.out _ _ ?_
          clear hK K
          try simp only [aP]
          exact hs1_5_7_11
        · refine wpAny_ready (rs := [5]) (by kernel_rfl) (by simp) ?_
          refine anyN_cons 5 rfl (by rfl) (fun K hK => ?_) AllReady.nil
          go_simp
          refine hK.out _ _ ?_
          clear hK K
          try simp only [aP]
          exact hs1_5_7_11
        · refine wpAny_ready (rs := [12]) (by kernel_rfl) (by simp) ?_
          refine anyN_cons 12 rfl (by rfl) (fun K hK => ?_) AllReady.nil
          go_simp
          refine CW.out.mono ?_
          rintro e w3 ⟨rfl, hb3⟩
          dsimp only
          have H3 : Hid (Below wd.heap.size wd w3) := hb3
          clear hb3
          refine hK.out _ _ ?_
          clear hK K
          try simp only [aP]
          exact hs1_5_7_11_12 w3 H3
        · intro w3 H3
          refine wpAny_done (by kernel_rfl) ?_ _
          have HB3 : Hid (Below w2.heap.size w2 w3) := HBd.out.trans (H3.out.mono HBd.out.size)
          have hOw : Hid (World.ownsRow w3 w2.heap.size 26 1 u7 (ahD D Hi k).length ((ahD D Hi k).map tkV)) := owns_kept HOd.out H3.out
          have x0 := Blk.cell (i := 0) (HX.out.on HB3.out) rfl
          obtain ⟨b9, o9, e9, hb9, c0, -⟩ := HR.out.keep (HB3.out.mono HS.out) k hkD
          cases e9
          go_wp2_with (first | (at_builtin; go_loud (refine wpList_app1 w3 rfl (.tmp 33) (.tmp 40) 26 37 _ 1 8 rfl Tryz.underlying37 info_u64 rfl (by decide) w2.heap.size _ _ _ (by rfl) hOw.out [.int .u64 (D[k].t : Nat)] rfl (by intro u hu; simp only [List.mem_cons, List.not_mem_nil, or_false] at hu; rcases hu with rfl; rfl) _ rfl (by simp) (by have := HLn.out; omega) (by have := HLn.out; omega) HB3.out.size ?_); intro v4 w4 h3 h4 h5; refine Hid.out ?_))
          have HI4 : Hid (OwnU w4 w2.heap.size v4 (ahD D Hi (k + 1)) ∧ Below w2.heap.size w2 w4) := by
            refine ⟨?_, HB3.out.trans h4⟩
            show World.ownsRow _ _ _ _ _ _ _
            rw [HT.out, List.length_append, List.map_append]
            simpa [tkV] using h3
          clear h3 h4 h5
          unfold Hid
          go_wp2_with fail
          go_roundw
          case rel => exact ⟨k + 1, by omega, by go_num, HI4⟩
          case measure => simp [intOf]; omega
      | false =>
        have HT : Hid (ahD D Hi (k + 1) = ahD D Hi k) := ahD_off hkD hway
        rw [hway] at CW
        clear hway
        refine tk (v := ?_) 0 rfl ?_ ?_
        rotate_left
        focus
          intro w9
          go_simp
          try with_reducible rfl
        try simp only [aP]
        refine tk (v := ?_) 2 rfl ?_ ?_
        rotate_left
        focus
          intro w9
          go_simp
          try with_reducible rfl
        try simp only [aP]
        refine tk (v := ?_) 6 rfl ?_ ?_
        rotate_left
        focus
          intro w9
          go_simp
          try with_reducible rfl
        try simp only [aP]
        refine tk (v := ?_) 8 rfl ?_ ?_
        rotate_left
        focus
          intro w9
          go_simp
          try with_reducible rfl
        try simp only [aP]
        apply later1 (fun (w3 : World) => Hid (Below wd.heap.size wd w3))
        intro hs1_5_7_11_12
        apply later0
        intro hs1_5_7_11
        apply later0
        intro hs1_7_11
        apply later0
        intro hs1_5_7
        apply later0
        intro hs7_11
        apply later0
        intro hs1_7
        apply later0
        intro hs1_5
        apply later0
        intro hs7
        apply later0
        intro hs1
        · refine wpAny_ready (rs := [1, 7]) (by kernel_rfl) (by simp) ?_
          refine anyN_cons 1 rfl (by rfl) (fun K hK => ?_) (anyN_cons 7 rfl (by rfl) (fun K hK => ?_) AllReady.nil)
          · go_simp
            refine hK.out _ _ ?_
            clear hK K
            try simp only [aP]
            refine tk (v := ?_) 3 rfl ?_ ?_
            rotate_left
            focus
              intro w9
              go_simp
              try with_reducible rfl
            try simp only [aP]
            refine tk (v := ?_) 4 rfl ?_ ?_
            rotate_left
            focus
              intro w9
              go_simp
              try with_reducible rfl
            try simp only [aP]
            exact hs1
          · go_simp
            refine hK.out _ _ ?_
            clear hK K
            try simp only [aP]
            refine tk (v := ?_) 9 rfl ?_ ?_
            rotate_left
            focus
              intro w9
              go_simp
              try with_reducible rfl
            try simp only [aP]
            refine tk (v := ?_) 10 rfl ?_ ?_
            rotate_left
            focus
              intro w9
              go_simp
              try with_reducible rfl
            try simp only [aP]
            exact hs7
        · refine wpAny_ready (rs := [5, 7]) (by kernel_rfl) (by simp) ?_
          refine anyN_cons 5 rfl (by rfl) (fun K hK => ?_) (anyN_cons 7 rfl (by rfl) (fun K hK => ?_) AllReady.nil)
          · go_simp
            refine hK.out _ _ ?_
            clear hK K
            try simp only [aP]
            exact hs1_5
          · go_simp
            refine hK.out _ _ ?_
            clear hK K
            try simp only [aP]
            refine tk (v := ?_) 9 rfl ?_ ?_
            rotate_left
            focus
              intro w9
              go_simp
              try with_reducible rfl
            try simp only [aP]
            refine tk (v := ?_) 10 rfl ?_ ?_
            rotate_left
            focus
              intro w9
              go_simp
              try with_reducible rfl
            try simp only [aP]
            exact hs1_7
        · refine wpAny_ready (rs := [1, 11]) (by kernel_rfl) (by simp) ?_
          refine anyN_cons 1 rfl (by rfl) (fun K hK => ?_) (anyN_cons 11 rfl (by rfl) (fun K hK => ?_) AllReady.nil)
          · go_simp
            refine hK.out _ _ ?_
            clear hK K
            try simp only [aP]
            refine tk (v := ?_) 3 rfl ?_ ?_
            rotate_left
            focus
              intro w9
              go_simp
              try with_reducible rfl
            try simp only [aP]
            refine tk (v := ?_) 4 rfl ?_ ?_
            rotate_left
            focus
              intro w9
              go_simp
              try with_reducible rfl
            try simp only [aP]
            exact hs1_7
          · go_simp
            refine hK.out _ _ ?_
            clear hK K
            try simp only [aP]
            exact hs7_11
        · refine wpAny_ready (rs := [7]) (by kernel_rfl) (by simp) ?_
          refine anyN_cons 7 rfl (by rfl) (fun K hK => ?_) AllReady.nil
          go_simp
          refine hK.out _ _ ?_
          clear hK K
          try simp only [aP]
          refine tk (v := ?_) 9 rfl ?_ ?_
          rotate_left
          focus
            intro w9
            go_simp
            try with_reducible rfl
          try simp only [aP]
          refine tk (v := ?_) 10 rfl ?_ ?_
          rotate_left
          focus
            intro w9
            go_simp
            try with_reducible rfl
          try simp only [aP]
          exact hs1_5_7
        · refine wpAny_ready (rs := [5, 11]) (by kernel_rfl) (by simp) ?_
          refine anyN_cons 5 rfl (by rfl) (fun K hK => ?_) (anyN_cons 11 rfl (by rfl) (fun K hK => ?_) AllReady.nil)
          · go_simp
            refine hK.out _ _ ?_
            clear hK K
            try simp only [aP]
            exact hs1_5_7
          · go_simp
            refine hK.out _ _ ?_
            clear hK K
            try simp only [aP]
            exact hs1_7_11
        · refine wpAny_ready (rs := [1]) (by kernel_rfl) (by simp) ?_
          refine anyN_cons 1 rfl (by rfl) (fun K hK => ?_) AllReady.nil
          go_simp
          refine hK.out _ _ ?_
          clear hK K
          try simp only [aP]
          refine tk (v := ?_) 3 rfl ?_ ?_
          rotate_left
          focus
            intro w9
            go_simp
            try with_reducible rfl
          try simp only [aP]
          refine tk (v := ?_) 4 rfl ?_ ?_
          rotate_left
          focus
            intro w9
            go_simp
            try with_reducible rfl
          try simp only [aP]
          exact hs1_7_11
        · refine wpAny_ready (rs := [11]) (by kernel_rfl) (by simp) ?_
          refine anyN_cons 11 rfl (by rfl) (fun K hK => ?_) AllReady.nil
          go_simp
          refine hK.out _ _ ?_
          clear hK K
          try simp only [aP]
          exact hs1_5_7_11
        · refine wpAny_ready (rs := [5]) (by kernel_rfl) (by simp) ?_
          refine anyN_cons 5 rfl (by rfl) (fun K hK => ?_) AllReady.nil
          go_simp
          refine hK.out _ _ ?_
          clear hK K
          try simp only [aP]
          exact hs1_5_7_11
        · refine wpAny_ready (rs := [12]) (by kernel_rfl) (by simp) ?_
          refine anyN_cons 12 rfl (by rfl) (fun K hK => ?_) AllReady.nil
          go_simp
          refine CW.out.mono ?_
          rintro e w3 ⟨rfl, hb3⟩
          dsimp only
          have H3 : Hid (Below wd.heap.size wd w3) := hb3
          clear hb3
          refine hK.out _ _ ?_
          clear hK K
          try simp only [aP]
          exact hs1_5_7_11_12 w3 H3
        · intro w3 H3
          refine wpAny_done (by kernel_rfl) ?_ _
          have HI4 : Hid (OwnU w3 w2.heap.size u7 (ahD D Hi (k + 1)) ∧ Below w2.heap.size w2 w3) := by
            rw [HT.out]
            exact ⟨owns_kept HOd.out H3.out, HBd.out.trans (H3.out.mono HBd.out.size)⟩
          go_wp2_with fail
          go_roundw
          case rel => exact ⟨k + 1, by omega, by go_num, HI4⟩
          case measure => simp [intOf]; omega
    · have g1 : decide ((k : Int) < (i : Int)) = false := by simp; omega
      have HZ : Hid (OwnU wr w.heap.size u7 (ahD D Hi i) ∧ Below w.heap.size w wr) := by
        have h9 := HI.out
        rw [heqk] at h9
        exact ⟨owns_base h9.1 HB2.out.size, HB2.out.trans (h9.2.mono HB2.out.size)⟩
      go_wp2_with fail
      go_ret2
      exact ⟨_, rfl, HZ.out⟩
end Go.Proofs.YtcdamalpecedcaaGreat
