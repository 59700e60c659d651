/- Layer 13: the document's Way. -/
import Derived.Test.YtcdamalpecedcaaGreatWGd1
import Derived.Test.YtcdamalpecedcaaGreatMGap2
namespace Go.Proofs.YtcdamalpecedcaaGreat
open Go.RowKit
set_option maxRecDepth 100000

theorem sk {P : Program} {ops : Array Oper} {Q : Exit → Act → World → Prop} (i : Nat) {oi : Oper} {fuel : Nat} {listed : Array Bool} {a : Act} {w : World} (hi : nthO ops.toList i = some oi)
    (h : wpAny P .any ops Q fuel (listed.setIfInBounds i true) (a.put oi.dst undef) w)
    (hs : Region.noSelect ops = true := by kernel_rfl) (hf : Region.free .any ops listed i = true := by kernel_rfl) (hr : (Region.ready .any ops listed).contains i = true := by kernel_rfl)
    (hQ : ∀ c a w, Q (.panic c) (a.put oi.dst undef) w → Q (.panic c) a w := by exact fun _ _ _ h => h) (hw : Region.wanted oi (yielded ops a.tmps) = false := by rfl) : wpAny P .any ops Q (fuel + 1) listed a w := anyN_take i hi hs hf hr hQ (Or.inr ⟨hw, rfl⟩) h

set_option maxHeartbeats 16000000 in
theorem rway_any (A B : List Hd) (q r : Option Addr) (c d : Nat) (w : World) (hA : RdH w w.heap.size q A) (hB : RdH w w.heap.size r B) (hl : A.length ≤ 256) (hm : B.length ≤ 256) :
    Calls Tryz.prog 11 #[.slice q A.length c, .slice r B.length d] w fun e w' => e = .returned (.bool (wayB A B)) ∧ Below w.heap.size w w' := by
  have HA : Hid (RdH w w.heap.size q A) := hA
  have HB : Hid (RdH w w.heap.size r B) := hB
  obtain ⟨n, hn⟩ : ∃ n, A.length = n := ⟨_, rfl⟩
  obtain ⟨m, hm'⟩ : ∃ m, B.length = m := ⟨_, rfl⟩
  have HN : Hid (A.length = n ∧ B.length = m) := ⟨hn, hm'⟩
  rw [hn] at hl ⊢
  rw [hm'] at hm ⊢
  clear hA hB hn hm'
  go_enter Tryz.func11, Tryz.ntmps11
  go_wp2_with fail
  go_loopw [5] (fun si wq => ∃ i : Nat, i ≤ n ∧ si = .int .i64 (i : Int) ∧ Hid ((A.take i).any (fun x => B.any (fun y => tstB x y)) = false ∧ Below w.heap.size w wq)) (fun si _ => ((n : Int) - intOf si).toNat)
  case atStart => exact ⟨0, by omega, rfl, by rw [List.take_zero]; rfl, Below.refl _ _⟩
  case round =>
    obtain ⟨i, hi, rfl, HI⟩ := hrel
    generalize wr = wo at *
    rcases Nat.lt_or_eq_of_le hi with hlt | heq
    · have g1 : decide ((i : Int) < (n : Int)) = true := by simp; omega
      have hiA : i < A.length := by rw [HN.out.1]; exact hlt
      obtain ⟨x0, hx0⟩ : ∃ x0, A[i] = x0 := ⟨_, rfl⟩
      have HXm : Hid (x0 ∈ A) := by rw [← hx0]; exact List.getElem_mem hiA
      have HTi : Hid (A.take (i + 1) = A.take i ++ [x0]) := by rw [← hx0]; exact List.take_succ_eq_append_getElem hiA
      go_wp2_with fail
      go_loopw [6] (fun sk wq => ∃ k : Nat, k ≤ m ∧ sk = .int .i64 (k : Int) ∧ Hid ((B.take k).any (fun y => tstB x0 y) = false ∧ Below w.heap.size w wq)) (fun sk _ => ((m : Int) - intOf sk).toNat)
      case atStart => exact ⟨0, by omega, rfl, by rw [List.take_zero]; rfl, HI.out.2⟩
      case round =>
        obtain ⟨k, hk, rfl, HJ⟩ := hrel
        rcases Nat.lt_or_eq_of_le hk with hltk | heqk
        · have g2 : decide ((k : Int) < (m : Int)) = true := by simp; omega
          have hkB : k < B.length := by rw [HN.out.2]; exact hltk
          have hdr : Below wr.heap.size wr wr.drew := (Below.refl _ _).drew
          have HBd : Hid (Below w.heap.size w wr.drew) := HJ.out.2.trans (hdr.mono HJ.out.2.size)
          obtain ⟨bx, ox, hqx, -, x1, x2, x3, x4⟩ := HA.out.keep HBd.out i hiA
          obtain ⟨by', oy, hqy, -, y1, y2, y3, y4⟩ := HB.out.keep HBd.out k hkB
          subst hqx hqy
          obtain ⟨y0, hy0⟩ : ∃ y0, B[k] = y0 := ⟨_, rfl⟩
          have HYm : Hid (y0 ∈ B) := by rw [← hy0]; exact List.getElem_mem hkB
          have HTk : Hid (B.take (k + 1) = B.take k ++ [y0]) := by rw [← hy0]; exact List.take_succ_eq_append_getElem hkB
          rw [hx0] at x1 x2 x3 x4
          rw [hy0] at y1 y2 y3 y4
          have CM : Hid (Calls Tryz.prog 27 #[rngV x0.r.lo x0.r.hi x0.r.op, rngV y0.r.lo y0.r.hi y0.r.op] wr.drew fun e w' => e = .returned (.bool (metB x0.r y0.r)) ∧ Below wr.drew.heap.size wr.drew w') := rmeet_any _ _ _ _ _ _ _
          clear hx0 hy0 hdr hiA hkB HI
          obtain ⟨⟨lo, hh, op⟩, al⟩ := x0
          obtain ⟨⟨lo', hh', op'⟩, al'⟩ := y0
          dsimp only at x1 x2 x3 x4 y1 y2 y3 y4 CM
          go_upto_region 7 with fail
          refine wp_region_any (by kernel_rfl) ?_
          change wpAny _ _ _ _ _ _ _ (World.drew _)
          generalize wr.drew = wd at *
          cases al with
          | true =>
            cases al' with
            | true =>
              cases hmt : metB ⟨lo, hh, op⟩ ⟨lo', hh', op'⟩ with
              | true =>
                have hts : tstB ⟨⟨lo, hh, op⟩, true⟩ ⟨⟨lo', hh', op'⟩, true⟩ = true := by
                  unfold tstB
                  rw [hmt]; rfl
                have HW : Hid (wayB A B = true) := by
                  rw [way_any_iff]
                  exact List.any_eq_true.2 ⟨_, HXm.out, List.any_eq_true.2 ⟨_, HYm.out, hts⟩⟩
                clear hts
                rw [hmt] at CM
                refine tk (v := ?_) 0 rfl ?_ ?_
                rotate_left
                focus
                  intro w9
                  go_simp
                  try with_reducible rfl
                try simp only [aP]
                refine tk (v := ?_) 1 rfl ?_ ?_
                rotate_left
                focus
                  intro w9
                  go_simp
                  try with_reducible rfl
                try simp only [aP]
                refine tk (v := ?_) 2 rfl ?_ ?_
                rotate_left
                focus
                  intro w9
                  go_simp
                  try with_reducible rfl
                try simp only [aP]
                refine tk (v := ?_) 3 rfl ?_ ?_
                rotate_left
                focus
                  intro w9
                  go_simp
                  try with_reducible rfl
                try simp only [aP]
                refine wpAny_ready (rs := [4]) (by kernel_rfl) (by simp) ?_
                refine anyN_cons 4 rfl (by rfl) (fun K hK => ?_) AllReady.nil
                go_simp
                refine hK.out _ _ ?_
                clear hK K
                try simp only [aP]
                refine tk (v := ?_) 5 rfl ?_ ?_
                rotate_left
                focus
                  intro w9
                  go_simp
                  try with_reducible rfl
                try simp only [aP]
                refine sk 6 rfl ?_
                try simp only [aP]
                refine sk 7 rfl ?_
                try simp only [aP]
                refine sk 8 rfl ?_
                try simp only [aP]
                refine sk 9 rfl ?_
                try simp only [aP]
                refine sk 10 rfl ?_
                try simp only [aP]
                refine tk (v := ?_) 11 rfl ?_ ?_
                rotate_left
                focus
                  intro w9
                  go_simp
                  try with_reducible rfl
                try simp only [aP]
                refine tk (v := ?_) 12 rfl ?_ ?_
                rotate_left
                focus
                  intro w9
                  go_simp
                  try with_reducible rfl
                try simp only [aP]
                refine tk (v := ?_) 13 rfl ?_ ?_
                rotate_left
                focus
                  intro w9
                  go_simp
                  try with_reducible rfl
                try simp only [aP]
                refine tk (v := ?_) 14 rfl ?_ ?_
                rotate_left
                focus
                  intro w9
                  go_simp
                  try with_reducible rfl
                try simp only [aP]
                refine tk (v := ?_) 15 rfl ?_ ?_
                rotate_left
                focus
                  intro w9
                  go_simp
                  try with_reducible rfl
                try simp only [aP]
                refine tk (v := ?_) 16 rfl ?_ ?_
                rotate_left
                focus
                  intro w9
                  go_simp
                  try with_reducible rfl
                try simp only [aP]
                refine tk (v := ?_) 18 rfl ?_ ?_
                rotate_left
                focus
                  intro w9
                  go_simp
                  try with_reducible rfl
                try simp only [aP]
                refine tk (v := ?_) 19 rfl ?_ ?_
                rotate_left
                focus
                  intro w9
                  go_simp
                  try with_reducible rfl
                try simp only [aP]
                refine tk (v := ?_) 20 rfl ?_ ?_
                rotate_left
                focus
                  intro w9
                  go_simp
                  try with_reducible rfl
                try simp only [aP]
                refine tk (v := ?_) 21 rfl ?_ ?_
                rotate_left
                focus
                  intro w9
                  go_simp
                  try with_reducible rfl
                try simp only [aP]
                apply later1 (fun (w3 : World) => Hid (Below wd.heap.size wd w3))
                intro hs17_22_23
                apply later0
                intro hs17_22
                apply later0
                intro hs22
                apply later0
                intro hs17
                · refine wpAny_ready (rs := [17, 22]) (by kernel_rfl) (by simp) ?_
                  refine anyN_cons 17 rfl (by rfl) (fun K hK => ?_) (anyN_cons 22 rfl (by rfl) (fun K hK => ?_) AllReady.nil)
                  · go_simp
                    refine hK.out _ _ ?_
                    clear hK K
                    try simp only [aP]
                    exact hs17
                  · go_simp
                    refine hK.out _ _ ?_
                    clear hK K
                    try simp only [aP]
                    exact hs22
                · refine wpAny_ready (rs := [22]) (by kernel_rfl) (by simp) ?_
                  refine anyN_cons 22 rfl (by rfl) (fun K hK => ?_) AllReady.nil
                  go_simp
                  refine hK.out _ _ ?_
                  clear hK K
                  try simp only [aP]
                  exact hs17_22
                · refine wpAny_ready (rs := [17]) (by kernel_rfl) (by simp) ?_
                  refine anyN_cons 17 rfl (by rfl) (fun K hK => ?_) AllReady.nil
                  go_simp
                  refine hK.out _ _ ?_
                  clear hK K
                  try simp only [aP]
                  exact hs17_22
                · refine wpAny_ready (rs := [23]) (by kernel_rfl) (by simp) ?_
                  refine anyN_cons 23 rfl (by rfl) (fun K hK => ?_) AllReady.nil
                  go_simp
                  refine CM.out.mono ?_
                  rintro e w3 ⟨rfl, hb3⟩
                  dsimp only
                  have H3 : Hid (Below wd.heap.size wd w3) := hb3
                  clear hb3
                  refine hK.out _ _ ?_
                  clear hK K
                  try simp only [aP]
                  refine tk (v := ?_) 24 rfl ?_ ?_
                  rotate_left
                  focus
                    intro w9
                    go_simp
                    try with_reducible rfl
                  try simp only [aP]
                  exact hs17_22_23 w3 H3
                · intro w3 H3
                  refine wpAny_done (by kernel_rfl) ?_ _
                  have HB3 : Hid (Below w.heap.size w w3) := HBd.out.trans (H3.out.mono HBd.out.size)
                  go_wp2_with fail
                  go_ret
                  exact ⟨by rw [HW.out]; rfl, HB3.out⟩
              | false =>
                have hts : tstB ⟨⟨lo, hh, op⟩, true⟩ ⟨⟨lo', hh', op'⟩, true⟩ = false := by
                  unfold tstB
                  rw [hmt]; rfl
                have HT : Hid ((B.take (k + 1)).any (fun y => tstB ⟨⟨lo, hh, op⟩, true⟩ y) = false) := by
                  have h7 := HJ.out.1
                  show _ = false
                  rw [HTk.out, List.any_append, h7]
                  simp [hts]
                clear hts
                rw [hmt] at CM
                refine tk (v := ?_) 0 rfl ?_ ?_
                rotate_left
                focus
                  intro w9
                  go_simp
                  try with_reducible rfl
                try simp only [aP]
                refine tk (v := ?_) 1 rfl ?_ ?_
                rotate_left
                focus
                  intro w9
                  go_simp
                  try with_reducible rfl
                try simp only [aP]
                refine tk (v := ?_) 2 rfl ?_ ?_
                rotate_left
                focus
                  intro w9
                  go_simp
                  try with_reducible rfl
                try simp only [aP]
                refine tk (v := ?_) 3 rfl ?_ ?_
                rotate_left
                focus
                  intro w9
                  go_simp
                  try with_reducible rfl
                try simp only [aP]
                refine wpAny_ready (rs := [4]) (by kernel_rfl) (by simp) ?_
                refine anyN_cons 4 rfl (by rfl) (fun K hK => ?_) AllReady.nil
                go_simp
                refine hK.out _ _ ?_
                clear hK K
                try simp only [aP]
                refine tk (v := ?_) 5 rfl ?_ ?_
                rotate_left
                focus
                  intro w9
                  go_simp
                  try with_reducible rfl
                try simp only [aP]
                refine sk 6 rfl ?_
                try simp only [aP]
                refine sk 7 rfl ?_
                try simp only [aP]
                refine sk 8 rfl ?_
                try simp only [aP]
                refine sk 9 rfl ?_
                try simp only [aP]
                refine sk 10 rfl ?_
                try simp only [aP]
                refine tk (v := ?_) 11 rfl ?_ ?_
                rotate_left
                focus
                  intro w9
                  go_simp
                  try with_reducible rfl
                try simp only [aP]
                refine tk (v := ?_) 12 rfl ?_ ?_
                rotate_left
                focus
                  intro w9
                  go_simp
                  try with_reducible rfl
                try simp only [aP]
                refine tk (v := ?_) 13 rfl ?_ ?_
                rotate_left
                focus
                  intro w9
                  go_simp
                  try with_reducible rfl
                try simp only [aP]
                refine tk (v := ?_) 14 rfl ?_ ?_
                rotate_left
                focus
                  intro w9
                  go_simp
                  try with_reducible rfl
                try simp only [aP]
                refine tk (v := ?_) 15 rfl ?_ ?_
                rotate_left
                focus
                  intro w9
                  go_simp
                  try with_reducible rfl
                try simp only [aP]
                refine tk (v := ?_) 16 rfl ?_ ?_
                rotate_left
                focus
                  intro w9
                  go_simp
                  try with_reducible rfl
                try simp only [aP]
                refine tk (v := ?_) 18 rfl ?_ ?_
                rotate_left
                focus
                  intro w9
                  go_simp
                  try with_reducible rfl
                try simp only [aP]
                refine tk (v := ?_) 19 rfl ?_ ?_
                rotate_left
                focus
                  intro w9
                  go_simp
                  try with_reducible rfl
                try simp only [aP]
                refine tk (v := ?_) 20 rfl ?_ ?_
                rotate_left
                focus
                  intro w9
                  go_simp
                  try with_reducible rfl
                try simp only [aP]
                refine tk (v := ?_) 21 rfl ?_ ?_
                rotate_left
                focus
                  intro w9
                  go_simp
                  try with_reducible rfl
                try simp only [aP]
                apply later1 (fun (w3 : World) => Hid (Below wd.heap.size wd w3))
                intro hs17_22_23
                apply later0
                intro hs17_22
                apply later0
                intro hs22
                apply later0
                intro hs17
                · refine wpAny_ready (rs := [17, 22]) (by kernel_rfl) (by simp) ?_
                  refine anyN_cons 17 rfl (by rfl) (fun K hK => ?_) (anyN_cons 22 rfl (by rfl) (fun K hK => ?_) AllReady.nil)
                  · go_simp
                    refine hK.out _ _ ?_
                    clear hK K
                    try simp only [aP]
                    exact hs17
                  · go_simp
                    refine hK.out _ _ ?_
                    clear hK K
                    try simp only [aP]
                    exact hs22
                · refine wpAny_ready (rs := [22]) (by kernel_rfl) (by simp) ?_
                  refine anyN_cons 22 rfl (by rfl) (fun K hK => ?_) AllReady.nil
                  go_simp
                  refine hK.out _ _ ?_
                  clear hK K
                  try simp only [aP]
                  exact hs17_22
                · refine wpAny_ready (rs := [17]) (by kernel_rfl) (by simp) ?_
                  refine anyN_cons 17 rfl (by rfl) (fun K hK => ?_) AllReady.nil
                  go_simp
                  refine hK.out _ _ ?_
                  clear hK K
                  try simp only [aP]
                  exact hs17_22
                · refine wpAny_ready (rs := [23]) (by kernel_rfl) (by simp) ?_
                  refine anyN_cons 23 rfl (by rfl) (fun K hK => ?_) AllReady.nil
                  go_simp
                  refine CM.out.mono ?_
                  rintro e w3 ⟨rfl, hb3⟩
                  dsimp only
                  have H3 : Hid (Below wd.heap.size wd w3) := hb3
                  clear hb3
                  refine hK.out _ _ ?_
                  clear hK K
                  try simp only [aP]
                  refine tk (v := ?_) 24 rfl ?_ ?_
                  rotate_left
                  focus
                    intro w9
                    go_simp
                    try with_reducible rfl
                  try simp only [aP]
                  exact hs17_22_23 w3 H3
                · intro w3 H3
                  refine wpAny_done (by kernel_rfl) ?_ _
                  have HJ3 : Hid ((B.take (k + 1)).any (fun y => tstB ⟨⟨lo, hh, op⟩, true⟩ y) = false ∧ Below w.heap.size w w3) := ⟨HT.out, HBd.out.trans (H3.out.mono HBd.out.size)⟩
                  go_wp2_with fail
                  go_roundw
                  case rel => exact ⟨k + 1, by omega, by go_num, HJ3⟩
                  case measure => simp [intOf]; omega
            | false =>
              cases hmt : metB ⟨lo, hh, op⟩ ⟨lo', hh', op'⟩ with
              | true =>
                have hts : tstB ⟨⟨lo, hh, op⟩, true⟩ ⟨⟨lo', hh', op'⟩, false⟩ = true := by
                  unfold tstB
                  rw [hmt]; rfl
                have HW : Hid (wayB A B = true) := by
                  rw [way_any_iff]
                  exact List.any_eq_true.2 ⟨_, HXm.out, List.any_eq_true.2 ⟨_, HYm.out, hts⟩⟩
                clear hts
                rw [hmt] at CM
                refine tk (v := ?_) 0 rfl ?_ ?_
                rotate_left
                focus
                  intro w9
                  go_simp
                  try with_reducible rfl
                try simp only [aP]
                refine tk (v := ?_) 1 rfl ?_ ?_
                rotate_left
                focus
                  intro w9
                  go_simp
                  try with_reducible rfl
                try simp only [aP]
                refine tk (v := ?_) 2 rfl ?_ ?_
                rotate_left
                focus
                  intro w9
                  go_simp
                  try with_reducible rfl
                try simp only [aP]
                refine tk (v := ?_) 3 rfl ?_ ?_
                rotate_left
                focus
                  intro w9
                  go_simp
                  try with_reducible rfl
                try simp only [aP]
                refine wpAny_ready (rs := [4]) (by kernel_rfl) (by simp) ?_
                refine anyN_cons 4 rfl (by rfl) (fun K hK => ?_) AllReady.nil
                go_simp
                refine hK.out _ _ ?_
                clear hK K
                try simp only [aP]
                refine tk (v := ?_) 5 rfl ?_ ?_
                rotate_left
                focus
                  intro w9
                  go_simp
                  try with_reducible rfl
                try simp only [aP]
                refine sk 6 rfl ?_
                try simp only [aP]
                refine sk 7 rfl ?_
                try simp only [aP]
                refine sk 8 rfl ?_
                try simp only [aP]
                refine sk 9 rfl ?_
                try simp only [aP]
                refine sk 10 rfl ?_
                try simp only [aP]
                refine tk (v := ?_) 11 rfl ?_ ?_
                rotate_left
                focus
                  intro w9
                  go_simp
                  try with_reducible rfl
                try simp only [aP]
                refine tk (v := ?_) 12 rfl ?_ ?_
                rotate_left
                focus
                  intro w9
                  go_simp
                  try with_reducible rfl
                try simp only [aP]
                refine tk (v := ?_) 13 rfl ?_ ?_
                rotate_left
                focus
                  intro w9
                  go_simp
                  try with_reducible rfl
                try simp only [aP]
                refine tk (v := ?_) 14 rfl ?_ ?_
                rotate_left
                focus
                  intro w9
                  go_simp
                  try with_reducible rfl
                try simp only [aP]
                refine tk (v := ?_) 15 rfl ?_ ?_
                rotate_left
                focus
                  intro w9
                  go_simp
                  try with_reducible rfl
                try simp only [aP]
                refine tk (v := ?_) 16 rfl ?_ ?_
                rotate_left
                focus
                  intro w9
                  go_simp
                  try with_reducible rfl
                try simp only [aP]
                refine tk (v := ?_) 18 rfl ?_ ?_
                rotate_left
                focus
                  intro w9
                  go_simp
                  try with_reducible rfl
                try simp only [aP]
                refine tk (v := ?_) 19 rfl ?_ ?_
                rotate_left
                focus
                  intro w9
                  go_simp
                  try with_reducible rfl
                try simp only [aP]
                refine tk (v := ?_) 20 rfl ?_ ?_
                rotate_left
                focus
                  intro w9
                  go_simp
                  try with_reducible rfl
                try simp only [aP]
                refine tk (v := ?_) 21 rfl ?_ ?_
                rotate_left
                focus
                  intro w9
                  go_simp
                  try with_reducible rfl
                try simp only [aP]
                apply later1 (fun (w3 : World) => Hid (Below wd.heap.size wd w3))
                intro hs17_22_23
                apply later0
                intro hs17_22
                apply later0
                intro hs22
                apply later0
                intro hs17
                · refine wpAny_ready (rs := [17, 22]) (by kernel_rfl) (by simp) ?_
                  refine anyN_cons 17 rfl (by rfl) (fun K hK => ?_) (anyN_cons 22 rfl (by rfl) (fun K hK => ?_) AllReady.nil)
                  · go_simp
                    refine hK.out _ _ ?_
                    clear hK K
                    try simp only [aP]
                    exact hs17
                  · go_simp
                    refine hK.out _ _ ?_
                    clear hK K
                    try simp only [aP]
                    exact hs22
                · refine wpAny_ready (rs := [22]) (by kernel_rfl) (by simp) ?_
                  refine anyN_cons 22 rfl (by rfl) (fun K hK => ?_) AllReady.nil
                  go_simp
                  refine hK.out _ _ ?_
                  clear hK K
                  try simp only [aP]
                  exact hs17_22
                · refine wpAny_ready (rs := [17]) (by kernel_rfl) (by simp) ?_
                  refine anyN_cons 17 rfl (by rfl) (fun K hK => ?_) AllReady.nil
                  go_simp
                  refine hK.out _ _ ?_
                  clear hK K
                  try simp only [aP]
                  exact hs17_22
                · refine wpAny_ready (rs := [23]) (by kernel_rfl) (by simp) ?_
                  refine anyN_cons 23 rfl (by rfl) (fun K hK => ?_) AllReady.nil
                  go_simp
                  refine CM.out.mono ?_
                  rintro e w3 ⟨rfl, hb3⟩
                  dsimp only
                  have H3 : Hid (Below wd.heap.size wd w3) := hb3
                  clear hb3
                  refine hK.out _ _ ?_
                  clear hK K
                  try simp only [aP]
                  refine tk (v := ?_) 24 rfl ?_ ?_
                  rotate_left
                  focus
                    intro w9
                    go_simp
                    try with_reducible rfl
                  try simp only [aP]
                  exact hs17_22_23 w3 H3
                · intro w3 H3
                  refine wpAny_done (by kernel_rfl) ?_ _
                  have HB3 : Hid (Below w.heap.size w w3) := HBd.out.trans (H3.out.mono HBd.out.size)
                  go_wp2_with fail
                  go_ret
                  exact ⟨by rw [HW.out]; rfl, HB3.out⟩
              | false =>
                have hts : tstB ⟨⟨lo, hh, op⟩, true⟩ ⟨⟨lo', hh', op'⟩, false⟩ = false := by
                  unfold tstB
                  rw [hmt]; rfl
                have HT : Hid ((B.take (k + 1)).any (fun y => tstB ⟨⟨lo, hh, op⟩, true⟩ y) = false) := by
                  have h7 := HJ.out.1
                  show _ = false
                  rw [HTk.out, List.any_append, h7]
                  simp [hts]
                clear hts
                rw [hmt] at CM
                refine tk (v := ?_) 0 rfl ?_ ?_
                rotate_left
                focus
                  intro w9
                  go_simp
                  try with_reducible rfl
                try simp only [aP]
                refine tk (v := ?_) 1 rfl ?_ ?_
                rotate_left
                focus
                  intro w9
                  go_simp
                  try with_reducible rfl
                try simp only [aP]
                refine tk (v := ?_) 2 rfl ?_ ?_
                rotate_left
                focus
                  intro w9
                  go_simp
                  try with_reducible rfl
                try simp only [aP]
                refine tk (v := ?_) 3 rfl ?_ ?_
                rotate_left
                focus
                  intro w9
                  go_simp
                  try with_reducible rfl
                try simp only [aP]
                refine wpAny_ready (rs := [4]) (by kernel_rfl) (by simp) ?_
                refine anyN_cons 4 rfl (by rfl) (fun K hK => ?_) AllReady.nil
                go_simp
                refine hK.out _ _ ?_
                clear hK K
                try simp only [aP]
                refine tk (v := ?_) 5 rfl ?_ ?_
                rotate_left
                focus
                  intro w9
                  go_simp
                  try with_reducible rfl
                try simp only [aP]
                refine sk 6 rfl ?_
                try simp only [aP]
                refine sk 7 rfl ?_
                try simp only [aP]
                refine sk 8 rfl ?_
                try simp only [aP]
                refine sk 9 rfl ?_
                try simp only [aP]
                refine sk 10 rfl ?_
                try simp only [aP]
                refine tk (v := ?_) 11 rfl ?_ ?_
                rotate_left
                focus
                  intro w9
                  go_simp
                  try with_reducible rfl
                try simp only [aP]
                refine tk (v := ?_) 12 rfl ?_ ?_
                rotate_left
                focus
                  intro w9
                  go_simp
                  try with_reducible rfl
                try simp only [aP]
                refine tk (v := ?_) 13 rfl ?_ ?_
                rotate_left
                focus
                  intro w9
                  go_simp
                  try with_reducible rfl
                try simp only [aP]
                refine tk (v := ?_) 14 rfl ?_ ?_
                rotate_left
                focus
                  intro w9
                  go_simp
                  try with_reducible rfl
                try simp only [aP]
                refine tk (v := ?_) 15 rfl ?_ ?_
                rotate_left
                focus
                  intro w9
                  go_simp
                  try with_reducible rfl
                try simp only [aP]
                refine tk (v := ?_) 16 rfl ?_ ?_
                rotate_left
                focus
                  intro w9
                  go_simp
                  try with_reducible rfl
                try simp only [aP]
                refine tk (v := ?_) 18 rfl ?_ ?_
                rotate_left
                focus
                  intro w9
                  go_simp
                  try with_reducible rfl
                try simp only [aP]
                refine tk (v := ?_) 19 rfl ?_ ?_
                rotate_left
                focus
                  intro w9
                  go_simp
                  try with_reducible rfl
                try simp only [aP]
                refine tk (v := ?_) 20 rfl ?_ ?_
                rotate_left
                focus
                  intro w9
                  go_simp
                  try with_reducible rfl
                try simp only [aP]
                refine tk (v := ?_) 21 rfl ?_ ?_
                rotate_left
                focus
                  intro w9
                  go_simp
                  try with_reducible rfl
                try simp only [aP]
                apply later1 (fun (w3 : World) => Hid (Below wd.heap.size wd w3))
                intro hs17_22_23
                apply later0
                intro hs17_22
                apply later0
                intro hs22
                apply later0
                intro hs17
                · refine wpAny_ready (rs := [17, 22]) (by kernel_rfl) (by simp) ?_
                  refine anyN_cons 17 rfl (by rfl) (fun K hK => ?_) (anyN_cons 22 rfl (by rfl) (fun K hK => ?_) AllReady.nil)
                  · go_simp
                    refine hK.out _ _ ?_
                    clear hK K
                    try simp only [aP]
                    exact hs17
                  · go_simp
                    refine hK.out _ _ ?_
                    clear hK K
                    try simp only [aP]
                    exact hs22
                · refine wpAny_ready (rs := [22]) (by kernel_rfl) (by simp) ?_
                  refine anyN_cons 22 rfl (by rfl) (fun K hK => ?_) AllReady.nil
                  go_simp
                  refine hK.out _ _ ?_
                  clear hK K
                  try simp only [aP]
                  exact hs17_22
                · refine wpAny_ready (rs := [17]) (by kernel_rfl) (by simp) ?_
                  refine anyN_cons 17 rfl (by rfl) (fun K hK => ?_) AllReady.nil
                  go_simp
                  refine hK.out _ _ ?_
                  clear hK K
                  try simp only [aP]
                  exact hs17_22
                · refine wpAny_ready (rs := [23]) (by kernel_rfl) (by simp) ?_
                  refine anyN_cons 23 rfl (by rfl) (fun K hK => ?_) AllReady.nil
                  go_simp
                  refine CM.out.mono ?_
                  rintro e w3 ⟨rfl, hb3⟩
                  dsimp only
                  have H3 : Hid (Below wd.heap.size wd w3) := hb3
                  clear hb3
                  refine hK.out _ _ ?_
                  clear hK K
                  try simp only [aP]
                  refine tk (v := ?_) 24 rfl ?_ ?_
                  rotate_left
                  focus
                    intro w9
                    go_simp
                    try with_reducible rfl
                  try simp only [aP]
                  exact hs17_22_23 w3 H3
                · intro w3 H3
                  refine wpAny_done (by kernel_rfl) ?_ _
                  have HJ3 : Hid ((B.take (k + 1)).any (fun y => tstB ⟨⟨lo, hh, op⟩, true⟩ y) = false ∧ Below w.heap.size w w3) := ⟨HT.out, HBd.out.trans (H3.out.mono HBd.out.size)⟩
                  go_wp2_with fail
                  go_roundw
                  case rel => exact ⟨k + 1, by omega, by go_num, HJ3⟩
                  case measure => simp [intOf]; omega
          | false =>
            cases al' with
            | true =>
              cases hmt : metB ⟨lo, hh, op⟩ ⟨lo', hh', op'⟩ with
              | true =>
                have hts : tstB ⟨⟨lo, hh, op⟩, false⟩ ⟨⟨lo', hh', op'⟩, true⟩ = true := by
                  unfold tstB
                  rw [hmt]; rfl
                have HW : Hid (wayB A B = true) := by
                  rw [way_any_iff]
                  exact List.any_eq_true.2 ⟨_, HXm.out, List.any_eq_true.2 ⟨_, HYm.out, hts⟩⟩
                clear hts
                rw [hmt] at CM
                refine tk (v := ?_) 0 rfl ?_ ?_
                rotate_left
                focus
                  intro w9
                  go_simp
                  try with_reducible rfl
                try simp only [aP]
                refine tk (v := ?_) 1 rfl ?_ ?_
                rotate_left
                focus
                  intro w9
                  go_simp
                  try with_reducible rfl
                try simp only [aP]
                refine tk (v := ?_) 2 rfl ?_ ?_
                rotate_left
                focus
                  intro w9
                  go_simp
                  try with_reducible rfl
                try simp only [aP]
                refine tk (v := ?_) 3 rfl ?_ ?_
                rotate_left
                focus
                  intro w9
                  go_simp
                  try with_reducible rfl
                try simp only [aP]
                refine wpAny_ready (rs := [4]) (by kernel_rfl) (by simp) ?_
                refine anyN_cons 4 rfl (by rfl) (fun K hK => ?_) AllReady.nil
                go_simp
                refine hK.out _ _ ?_
                clear hK K
                try simp only [aP]
                refine tk (v := ?_) 5 rfl ?_ ?_
                rotate_left
                focus
                  intro w9
                  go_simp
                  try with_reducible rfl
                try simp only [aP]
                refine tk (v := ?_) 6 rfl ?_ ?_
                rotate_left
                focus
                  intro w9
                  go_simp
                  try with_reducible rfl
                try simp only [aP]
                refine tk (v := ?_) 7 rfl ?_ ?_
                rotate_left
                focus
                  intro w9
                  go_simp
                  try with_reducible rfl
                try simp only [aP]
                refine tk (v := ?_) 8 rfl ?_ ?_
                rotate_left
                focus
                  intro w9
                  go_simp
                  try with_reducible rfl
                try simp only [aP]
                refine tk (v := ?_) 9 rfl ?_ ?_
                rotate_left
                focus
                  intro w9
                  go_simp
                  try with_reducible rfl
                try simp only [aP]
                refine wpAny_ready (rs := [10]) (by kernel_rfl) (by simp) ?_
                refine anyN_cons 10 rfl (by rfl) (fun K hK => ?_) AllReady.nil
                go_simp
                refine hK.out _ _ ?_
                clear hK K
                try simp only [aP]
                refine tk (v := ?_) 11 rfl ?_ ?_
                rotate_left
                focus
                  intro w9
                  go_simp
                  try with_reducible rfl
                try simp only [aP]
                refine tk (v := ?_) 12 rfl ?_ ?_
                rotate_left
                focus
                  intro w9
                  go_simp
                  try with_reducible rfl
                try simp only [aP]
                refine tk (v := ?_) 13 rfl ?_ ?_
                rotate_left
                focus
                  intro w9
                  go_simp
                  try with_reducible rfl
                try simp only [aP]
                refine tk (v := ?_) 14 rfl ?_ ?_
                rotate_left
                focus
                  intro w9
                  go_simp
                  try with_reducible rfl
                try simp only [aP]
                refine tk (v := ?_) 15 rfl ?_ ?_
                rotate_left
                focus
                  intro w9
                  go_simp
                  try with_reducible rfl
                try simp only [aP]
                refine tk (v := ?_) 16 rfl ?_ ?_
                rotate_left
                focus
                  intro w9
                  go_simp
                  try with_reducible rfl
                try simp only [aP]
                refine tk (v := ?_) 18 rfl ?_ ?_
                rotate_left
                focus
                  intro w9
                  go_simp
                  try with_reducible rfl
                try simp only [aP]
                refine tk (v := ?_) 19 rfl ?_ ?_
                rotate_left
                focus
                  intro w9
                  go_simp
                  try with_reducible rfl
                try simp only [aP]
                refine tk (v := ?_) 20 rfl ?_ ?_
                rotate_left
                focus
                  intro w9
                  go_simp
                  try with_reducible rfl
                try simp only [aP]
                refine tk (v := ?_) 21 rfl ?_ ?_
                rotate_left
                focus
                  intro w9
                  go_simp
                  try with_reducible rfl
                try simp only [aP]
                apply later1 (fun (w3 : World) => Hid (Below wd.heap.size wd w3))
                intro hs17_22_23
                apply later0
                intro hs17_22
                apply later0
                intro hs22
                apply later0
                intro hs17
                · refine wpAny_ready (rs := [17, 22]) (by kernel_rfl) (by simp) ?_
                  refine anyN_cons 17 rfl (by rfl) (fun K hK => ?_) (anyN_cons 22 rfl (by rfl) (fun K hK => ?_) AllReady.nil)
                  · go_simp
                    refine hK.out _ _ ?_
                    clear hK K
                    try simp only [aP]
                    exact hs17
                  · go_simp
                    refine hK.out _ _ ?_
                    clear hK K
                    try simp only [aP]
                    exact hs22
                · refine wpAny_ready (rs := [22]) (by kernel_rfl) (by simp) ?_
                  refine anyN_cons 22 rfl (by rfl) (fun K hK => ?_) AllReady.nil
                  go_simp
                  refine hK.out _ _ ?_
                  clear hK K
                  try simp only [aP]
                  exact hs17_22
                · refine wpAny_ready (rs := [17]) (by kernel_rfl) (by simp) ?_
                  refine anyN_cons 17 rfl (by rfl) (fun K hK => ?_) AllReady.nil
                  go_simp
                  refine hK.out _ _ ?_
                  clear hK K
                  try simp only [aP]
                  exact hs17_22
                · refine wpAny_ready (rs := [23]) (by kernel_rfl) (by simp) ?_
                  refine anyN_cons 23 rfl (by rfl) (fun K hK => ?_) AllReady.nil
                  go_simp
                  refine CM.out.mono ?_
                  rintro e w3 ⟨rfl, hb3⟩
                  dsimp only
                  have H3 : Hid (Below wd.heap.size wd w3) := hb3
                  clear hb3
                  refine hK.out _ _ ?_
                  clear hK K
                  try simp only [aP]
                  refine tk (v := ?_) 24 rfl ?_ ?_
                  rotate_left
                  focus
                    intro w9
                    go_simp
                    try with_reducible rfl
                  try simp only [aP]
                  exact hs17_22_23 w3 H3
                · intro w3 H3
                  refine wpAny_done (by kernel_rfl) ?_ _
                  have HB3 : Hid (Below w.heap.size w w3) := HBd.out.trans (H3.out.mono HBd.out.size)
                  go_wp2_with fail
                  go_ret
                  exact ⟨by rw [HW.out]; rfl, HB3.out⟩
              | false =>
                have hts : tstB ⟨⟨lo, hh, op⟩, false⟩ ⟨⟨lo', hh', op'⟩, true⟩ = false := by
                  unfold tstB
                  rw [hmt]; rfl
                have HT : Hid ((B.take (k + 1)).any (fun y => tstB ⟨⟨lo, hh, op⟩, false⟩ y) = false) := by
                  have h7 := HJ.out.1
                  show _ = false
                  rw [HTk.out, List.any_append, h7]
                  simp [hts]
                clear hts
                rw [hmt] at CM
                refine tk (v := ?_) 0 rfl ?_ ?_
                rotate_left
                focus
                  intro w9
                  go_simp
                  try with_reducible rfl
                try simp only [aP]
                refine tk (v := ?_) 1 rfl ?_ ?_
                rotate_left
                focus
                  intro w9
                  go_simp
                  try with_reducible rfl
                try simp only [aP]
                refine tk (v := ?_) 2 rfl ?_ ?_
                rotate_left
                focus
                  intro w9
                  go_simp
                  try with_reducible rfl
                try simp only [aP]
                refine tk (v := ?_) 3 rfl ?_ ?_
                rotate_left
                focus
                  intro w9
                  go_simp
                  try with_reducible rfl
                try simp only [aP]
                refine wpAny_ready (rs := [4]) (by kernel_rfl) (by simp) ?_
                refine anyN_cons 4 rfl (by rfl) (fun K hK => ?_) AllReady.nil
                go_simp
                refine hK.out _ _ ?_
                clear hK K
                try simp only [aP]
                refine tk (v := ?_) 5 rfl ?_ ?_
                rotate_left
                focus
                  intro w9
                  go_simp
                  try with_reducible rfl
                try simp only [aP]
                refine tk (v := ?_) 6 rfl ?_ ?_
                rotate_left
                focus
                  intro w9
                  go_simp
                  try with_reducible rfl
                try simp only [aP]
                refine tk (v := ?_) 7 rfl ?_ ?_
                rotate_left
                focus
                  intro w9
                  go_simp
                  try with_reducible rfl
                try simp only [aP]
                refine tk (v := ?_) 8 rfl ?_ ?_
                rotate_left
                focus
                  intro w9
                  go_simp
                  try with_reducible rfl
                try simp only [aP]
                refine tk (v := ?_) 9 rfl ?_ ?_
                rotate_left
                focus
                  intro w9
                  go_simp
                  try with_reducible rfl
                try simp only [aP]
                refine wpAny_ready (rs := [10]) (by kernel_rfl) (by simp) ?_
                refine anyN_cons 10 rfl (by rfl) (fun K hK => ?_) AllReady.nil
                go_simp
                refine hK.out _ _ ?_
                clear hK K
                try simp only [aP]
                refine tk (v := ?_) 11 rfl ?_ ?_
                rotate_left
                focus
                  intro w9
                  go_simp
                  try with_reducible rfl
                try simp only [aP]
                refine tk (v := ?_) 12 rfl ?_ ?_
                rotate_left
                focus
                  intro w9
                  go_simp
                  try with_reducible rfl
                try simp only [aP]
                refine tk (v := ?_) 13 rfl ?_ ?_
                rotate_left
                focus
                  intro w9
                  go_simp
                  try with_reducible rfl
                try simp only [aP]
                refine tk (v := ?_) 14 rfl ?_ ?_
                rotate_left
                focus
                  intro w9
                  go_simp
                  try with_reducible rfl
                try simp only [aP]
                refine tk (v := ?_) 15 rfl ?_ ?_
                rotate_left
                focus
                  intro w9
                  go_simp
                  try with_reducible rfl
                try simp only [aP]
                refine tk (v := ?_) 16 rfl ?_ ?_
                rotate_left
                focus
                  intro w9
                  go_simp
                  try with_reducible rfl
                try simp only [aP]
                refine tk (v := ?_) 18 rfl ?_ ?_
                rotate_left
                focus
                  intro w9
                  go_simp
                  try with_reducible rfl
                try simp only [aP]
                refine tk (v := ?_) 19 rfl ?_ ?_
                rotate_left
                focus
                  intro w9
                  go_simp
                  try with_reducible rfl
                try simp only [aP]
                refine tk (v := ?_) 20 rfl ?_ ?_
                rotate_left
                focus
                  intro w9
                  go_simp
                  try with_reducible rfl
                try simp only [aP]
                refine tk (v := ?_) 21 rfl ?_ ?_
                rotate_left
                focus
                  intro w9
                  go_simp
                  try with_reducible rfl
                try simp only [aP]
                apply later1 (fun (w3 : World) => Hid (Below wd.heap.size wd w3))
                intro hs17_22_23
                apply later0
                intro hs17_22
                apply later0
                intro hs22
                apply later0
                intro hs17
                · refine wpAny_ready (rs := [17, 22]) (by kernel_rfl) (by simp) ?_
                  refine anyN_cons 17 rfl (by rfl) (fun K hK => ?_) (anyN_cons 22 rfl (by rfl) (fun K hK => ?_) AllReady.nil)
                  · go_simp
                    refine hK.out _ _ ?_
                    clear hK K
                    try simp only [aP]
                    exact hs17
                  · go_simp
                    refine hK.out _ _ ?_
                    clear hK K
                    try simp only [aP]
                    exact hs22
                · refine wpAny_ready (rs := [22]) (by kernel_rfl) (by simp) ?_
                  refine anyN_cons 22 rfl (by rfl) (fun K hK => ?_) AllReady.nil
                  go_simp
                  refine hK.out _ _ ?_
                  clear hK K
                  try simp only [aP]
                  exact hs17_22
                · refine wpAny_ready (rs := [17]) (by kernel_rfl) (by simp) ?_
                  refine anyN_cons 17 rfl (by rfl) (fun K hK => ?_) AllReady.nil
                  go_simp
                  refine hK.out _ _ ?_
                  clear hK K
                  try simp only [aP]
                  exact hs17_22
                · refine wpAny_ready (rs := [23]) (by kernel_rfl) (by simp) ?_
                  refine anyN_cons 23 rfl (by rfl) (fun K hK => ?_) AllReady.nil
                  go_simp
                  refine CM.out.mono ?_
                  rintro e w3 ⟨rfl, hb3⟩
                  dsimp only
                  have H3 : Hid (Below wd.heap.size wd w3) := hb3
                  clear hb3
                  refine hK.out _ _ ?_
                  clear hK K
                  try simp only [aP]
                  refine tk (v := ?_) 24 rfl ?_ ?_
                  rotate_left
                  focus
                    intro w9
                    go_simp
                    try with_reducible rfl
                  try simp only [aP]
                  exact hs17_22_23 w3 H3
                · intro w3 H3
                  refine wpAny_done (by kernel_rfl) ?_ _
                  have HJ3 : Hid ((B.take (k + 1)).any (fun y => tstB ⟨⟨lo, hh, op⟩, false⟩ y) = false ∧ Below w.heap.size w w3) := ⟨HT.out, HBd.out.trans (H3.out.mono HBd.out.size)⟩
                  go_wp2_with fail
                  go_roundw
                  case rel => exact ⟨k + 1, by omega, by go_num, HJ3⟩
                  case measure => simp [intOf]; omega
            | false =>
              have hts : tstB ⟨⟨lo, hh, op⟩, false⟩ ⟨⟨lo', hh', op'⟩, false⟩ = false := by
                unfold tstB
                rfl
              have HT : Hid ((B.take (k + 1)).any (fun y => tstB ⟨⟨lo, hh, op⟩, false⟩ y) = false) := by
                have h7 := HJ.out.1
                show _ = false
                rw [HTk.out, List.any_append, h7]
                simp [hts]
              clear hts
              refine tk (v := ?_) 0 rfl ?_ ?_
              rotate_left
              focus
                intro w9
                go_simp
                try with_reducible rfl
              try simp only [aP]
              refine tk (v := ?_) 1 rfl ?_ ?_
              rotate_left
              focus
                intro w9
                go_simp
                try with_reducible rfl
              try simp only [aP]
              refine tk (v := ?_) 2 rfl ?_ ?_
              rotate_left
              focus
                intro w9
                go_simp
                try with_reducible rfl
              try simp only [aP]
              refine tk (v := ?_) 3 rfl ?_ ?_
              rotate_left
              focus
                intro w9
                go_simp
                try with_reducible rfl
              try simp only [aP]
              refine wpAny_ready (rs := [4]) (by kernel_rfl) (by simp) ?_
              refine anyN_cons 4 rfl (by rfl) (fun K hK => ?_) AllReady.nil
              go_simp
              refine hK.out _ _ ?_
              clear hK K
              try simp only [aP]
              refine tk (v := ?_) 5 rfl ?_ ?_
              rotate_left
              focus
                intro w9
                go_simp
                try with_reducible rfl
              try simp only [aP]
              refine tk (v := ?_) 6 rfl ?_ ?_
              rotate_left
              focus
                intro w9
                go_simp
                try with_reducible rfl
              try simp only [aP]
              refine tk (v := ?_) 7 rfl ?_ ?_
              rotate_left
              focus
                intro w9
                go_simp
                try with_reducible rfl
              try simp only [aP]
              refine tk (v := ?_) 8 rfl ?_ ?_
              rotate_left
              focus
                intro w9
                go_simp
                try with_reducible rfl
              try simp only [aP]
              refine tk (v := ?_) 9 rfl ?_ ?_
              rotate_left
              focus
                intro w9
                go_simp
                try with_reducible rfl
              try simp only [aP]
              refine wpAny_ready (rs := [10]) (by kernel_rfl) (by simp) ?_
              refine anyN_cons 10 rfl (by rfl) (fun K hK => ?_) AllReady.nil
              go_simp
              refine hK.out _ _ ?_
              clear hK K
              try simp only [aP]
              refine tk (v := ?_) 11 rfl ?_ ?_
              rotate_left
              focus
                intro w9
                go_simp
                try with_reducible rfl
              try simp only [aP]
              refine tk (v := ?_) 12 rfl ?_ ?_
              rotate_left
              focus
                intro w9
                go_simp
                try with_reducible rfl
              try simp only [aP]
              refine sk 13 rfl ?_
              try simp only [aP]
              refine sk 14 rfl ?_
              try simp only [aP]
              refine sk 15 rfl ?_
              try simp only [aP]
              refine sk 16 rfl ?_
              try simp only [aP]
              refine sk 17 rfl ?_
              try simp only [aP]
              refine sk 18 rfl ?_
              try simp only [aP]
              refine sk 19 rfl ?_
              try simp only [aP]
              refine sk 20 rfl ?_
              try simp only [aP]
              refine sk 21 rfl ?_
              try simp only [aP]
              refine sk 22 rfl ?_
              try simp only [aP]
              refine sk 23 rfl ?_
              try simp only [aP]
              refine tk (v := ?_) 24 rfl ?_ ?_
              rotate_left
              focus
                intro w9
                go_simp
                try with_reducible rfl
              try simp only [aP]
              refine wpAny_done (by kernel_rfl) ?_ _
              have H3 : Hid (Below wd.heap.size wd wd) := Below.refl _ _
              obtain ⟨w3, hw3⟩ : ∃ w3, wd = w3 := ⟨_, rfl⟩
              rw [hw3]
              have H3 : Hid (Below wd.heap.size wd w3) := by rw [← hw3]; exact Below.refl _ _
              clear hw3
              have HJ3 : Hid ((B.take (k + 1)).any (fun y => tstB ⟨⟨lo, hh, op⟩, false⟩ y) = false ∧ Below w.heap.size w w3) := ⟨HT.out, HBd.out.trans (H3.out.mono HBd.out.size)⟩
              go_wp2_with fail
              go_roundw
              case rel => exact ⟨k + 1, by omega, by go_num, HJ3⟩
              case measure => simp [intOf]; omega
        · have g2 : decide ((k : Int) < (m : Int)) = false := by simp; omega
          have HI3 : Hid ((A.take (i + 1)).any (fun x => B.any (fun y => tstB x y)) = false ∧ Below w.heap.size w wr) := by
            have h9 := HJ.out.1
            rw [heqk, ← HN.out.2, List.take_length] at h9
            refine ⟨?_, HJ.out.2⟩
            rw [HTi.out, List.any_append, HI.out.1]
            simp [h9]
          go_wp2_with fail
          go_roundw
          case rel => exact ⟨i + 1, by omega, by go_num, HI3⟩
          case measure => simp [intOf]; omega
    · have g1 : decide ((i : Int) < (n : Int)) = false := by simp; omega
      have HW : Hid (wayB A B = false) := by
        have h9 := HI.out.1
        rw [heq, ← HN.out.1, List.take_length] at h9
        show wayB A B = false
        rw [way_any_iff]
        exact h9
      go_wp2_with fail
      go_ret
      exact ⟨by rw [HW.out]; rfl, HI.out.2⟩
end Go.Proofs.YtcdamalpecedcaaGreat
