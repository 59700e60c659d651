/- Layer 13: meet, inWay, claimOf. -/
import Derived.Test.YtcdamalpecedcaaGreatWV13
import Derived.Test.YtcdamalpecedcaaGreatWGp1
namespace Go.Proofs.YtcdamalpecedcaaGreat
open Go.RowKit
set_option maxRecDepth 100000

def lenV : Value → Nat
  | .slice _ n _ => n
  | _ => 0
theorem gt_str (a b : ByteArray) : (!Op.bytesLess a.toList b.toList && !a.toList == b.toList) = ltB b a := by
  have h := leq_not a b
  rw [← Bool.not_or, h, Bool.not_not]
theorem row_tail {w : World} {B g o : Nat} {x : Rg} {T : List Rg} (h : RowR w B (some ⟨g, o, none⟩) (x :: T)) : RowR w B (some ⟨g, o + 3, none⟩) T := by
  intro i hi
  obtain ⟨b, o', e, hb, c0, c1, c2⟩ := h (i + 1) (by simp; omega)
  injection e with e
  injection e with e1 e2
  subst e1 e2
  refine ⟨g, o + 3, rfl, hb, ?_, ?_, ?_⟩
  · rw [show o + 3 + i * 3 = o + (i + 1) * 3 by omega]; exact c0
  · rw [show o + 3 + i * 3 + 1 = o + (i + 1) * 3 + 1 by omega]; exact c1
  · rw [show o + 3 + i * 3 + 2 = o + (i + 1) * 3 + 2 by omega]; exact c2
theorem row_head {w : World} {B : Nat} {p : Option Addr} {x : Rg} {T : List Rg} (h : RowR w B p (x :: T)) : ∃ g o, p = some ⟨g, o, none⟩ ∧ g < B ∧ w.cell? ⟨g, o, none⟩ = some (.string x.lo) ∧ w.cell? ⟨g, o + 1, none⟩ = some (.string x.hi) ∧ w.cell? ⟨g, o + 2, none⟩ = some (.bool x.op) := by
  obtain ⟨b, o, e, hb, c0, c1, c2⟩ := h 0 (by simp)
  exact ⟨b, o, e, hb, by simpa using c0, by simpa using c1, by simpa using c2⟩

set_option maxHeartbeats 8000000 in
theorem gmeet_any (A B : List Rg) (p q : Option Addr) (c d : Nat) (w : World) (hA : RowR w w.heap.size p A) (hB : RowR w w.heap.size q B) (hc : A.length ≤ c) (hd : B.length ≤ d) :
    Calls Tryz.prog 70 #[.slice p A.length c, .slice q B.length d] w fun e w' => e = .returned (.bool (meetB A B)) ∧ Below w.heap.size w w' := by
  have HI0 : Hid (RowR w w.heap.size p A ∧ RowR w w.heap.size q B ∧ Below w.heap.size w w) := ⟨hA, hB, Below.refl _ _⟩
  have HC0 : Hid (A.length ≤ c ∧ B.length ≤ d) := ⟨hc, hd⟩
  clear hA hB hc hd
  go_enter Tryz.func70, Tryz.ntmps70
  go_wp2_with fail
  go_loopw [0, 1] (fun sa sb wq => ∃ (A' B' : List Rg) (p' q' : Option Addr) (c' d' : Nat), sa = .slice p' A'.length c' ∧ sb = .slice q' B'.length d' ∧ A'.length ≤ c' ∧ B'.length ≤ d' ∧ Hid (RowR wq w.heap.size p' A' ∧ RowR wq w.heap.size q' B' ∧ Below w.heap.size w wq) ∧ Hid (meetB A' B' = meetB A B)) (fun sa sb _ => lenV sa + lenV sb)
  case atStart => exact ⟨A, B, p, q, c, d, rfl, rfl, HC0.out.1, HC0.out.2, HI0, rfl⟩
  case round =>
    clear HI0 HC0
    obtain ⟨A', B', p', q', c', d', rfl, rfl, hc', hd', HI, HEq⟩ := hrel
    cases A' with
    | nil =>
      have HM : Hid (meetB A B = false) := by
        rw [← HEq.out]
        show meetB _ _ = false
        unfold meetB
        rfl
      go_wp2_with fail
      go_ret
      exact ⟨by rw [HM.out]; rfl, HI.out.2.2⟩
    | cons x T =>
      cases B' with
      | nil =>
        have HM : Hid (meetB A B = false) := by
          rw [← HEq.out]
          show meetB _ _ = false
          unfold meetB
          rfl
        have g1 : (0 : Int) < (((T.length + 1 : Nat)) : Int) := by omega
        simp only [List.length_cons, List.length_nil] at *
        go_wp2_with fail
        go_ret
        exact ⟨by rw [HM.out]; rfl, HI.out.2.2⟩
      | cons y U =>
        obtain ⟨gx, ox, hpx, hgx, x0, x1, x2⟩ := row_head HI.out.1
        obtain ⟨gy, oy, hpy, hgy, y0, y1, y2⟩ := row_head HI.out.2.1
        subst hpx hpy
        have HCx0 : Hid ((x :: T).length ≤ c') := hc'
        have HCy0 : Hid ((y :: U).length ≤ d') := hd'
        simp only [List.length_cons] at hc' hd'
        have g1 : (0 : Int) < (((T.length + 1 : Nat)) : Int) := by omega
        have g2 : (0 : Int) < (((U.length + 1 : Nat)) : Int) := by omega
        simp only [List.length_cons]
        cases hlt : ltB y.lo x.lo with
        | true =>
          have hlt2 : (!Op.bytesLess x.lo.toList y.lo.toList && !x.lo.toList == y.lo.toList) = true := by rw [gt_str]; exact hlt
          go_wp2_with fail
          go_quiet (fail)
          go_upto_region 4 with fail
          obtain ⟨wq1, hwq1⟩ : ∃ wq1, wr.drewN nq = wq1 := ⟨_, rfl⟩
          have hdr : Below wr.heap.size wr wq1.drew := by rw [← hwq1]; exact (below_drewN (Below.refl _ _) _).drew
          rw [hwq1]
          clear hwq1
          have HRx : Hid (RowR wq1.drew w.heap.size (some ⟨gy, oy, none⟩) (y :: U)) := HI.out.2.1.keep (hdr.mono HI.out.2.2.size)
          have HRy : Hid (RowR wq1.drew w.heap.size (some ⟨gx, ox, none⟩) (x :: T)) := HI.out.1.keep (hdr.mono HI.out.2.2.size)
          have HB : Hid (Below w.heap.size w wq1.drew) := HI.out.2.2.trans (hdr.mono HI.out.2.2.size)
          have HCx := HCy0
          have HCy := HCx0
          have x0' := (hdr.cell (p := ⟨gx, ox, none⟩) (Nat.lt_of_lt_of_le hgx HI.out.2.2.size)).trans x0
          have x1' := (hdr.cell (p := ⟨gx, ox + 1, none⟩) (Nat.lt_of_lt_of_le hgx HI.out.2.2.size)).trans x1
          have x2' := (hdr.cell (p := ⟨gx, ox + 2, none⟩) (Nat.lt_of_lt_of_le hgx HI.out.2.2.size)).trans x2
          have y0' := (hdr.cell (p := ⟨gy, oy, none⟩) (Nat.lt_of_lt_of_le hgy HI.out.2.2.size)).trans y0
          have y1' := (hdr.cell (p := ⟨gy, oy + 1, none⟩) (Nat.lt_of_lt_of_le hgy HI.out.2.2.size)).trans y1
          have y2' := (hdr.cell (p := ⟨gy, oy + 2, none⟩) (Nat.lt_of_lt_of_le hgy HI.out.2.2.size)).trans y2
          clear x0 x1 x2 y0 y1 y2 hdr HI HCx0 HCy0
          have CH : Hid (Calls _ _ _ _ _) := has_any y.lo y.hi y.op x.lo wq1.drew
          refine wp_region_any (by kernel_rfl) ?_
          change wpAny _ _ _ _ _ _ _ (World.drew _)
          generalize wq1.drew = wd at *
          cases hh : hasB y.lo y.hi y.op x.lo with
          | true =>
            have HM : Hid (meetB A B = true) := by
              rw [← HEq.out]
              show meetB _ _ = true
              unfold meetB
              rw [if_pos hlt, if_pos hh]
            rw [hh] at CH
            refine tk (v := ?_) 0 rfl ?_ ?_
            rotate_left
            focus
              intro w9
              go_simp
              try with_reducible rfl
            try simp only [aP]
            refine tk (v := ?_) 1 rfl ?_ ?_
            rotate_left
            focus
              intro w9
              go_simp
              try with_reducible rfl
            try simp only [aP]
            refine tk (v := ?_) 3 rfl ?_ ?_
            rotate_left
            focus
              intro w9
              go_simp
              try with_reducible rfl
            try simp only [aP]
            refine tk (v := ?_) 4 rfl ?_ ?_
            rotate_left
            focus
              intro w9
              go_simp
              try with_reducible rfl
            try simp only [aP]
            refine tk (v := ?_) 5 rfl ?_ ?_
            rotate_left
            focus
              intro w9
              go_simp
              try with_reducible rfl
            try simp only [aP]
            apply later1 (fun (w3 : World) => Hid (Below wd.heap.size wd w3))
            intro hs2_6_7
            apply later0
            intro hs2_6
            apply later0
            intro hs6
            apply later0
            intro hs2
            · refine wpAny_ready (rs := [2, 6]) (by kernel_rfl) (by simp) ?_
              refine anyN_cons 2 rfl (by rfl) (fun K hK => ?_) (anyN_cons 6 rfl (by rfl) (fun K hK => ?_) AllReady.nil)
              · go_simp
                refine hK.out _ _ ?_
                clear hK K
                try simp only [aP]
                exact hs2
              · go_simp
                refine hK.out _ _ ?_
                clear hK K
                try simp only [aP]
                exact hs6
            · refine wpAny_ready (rs := [6]) (by kernel_rfl) (by simp) ?_
              refine anyN_cons 6 rfl (by rfl) (fun K hK => ?_) AllReady.nil
              go_simp
              refine hK.out _ _ ?_
              clear hK K
              try simp only [aP]
              exact hs2_6
            · refine wpAny_ready (rs := [2]) (by kernel_rfl) (by simp) ?_
              refine anyN_cons 2 rfl (by rfl) (fun K hK => ?_) AllReady.nil
              go_simp
              refine hK.out _ _ ?_
              clear hK K
              try simp only [aP]
              exact hs2_6
            · refine wpAny_ready (rs := [7]) (by kernel_rfl) (by simp) ?_
              refine anyN_cons 7 rfl (by rfl) (fun K hK => ?_) AllReady.nil
              go_simp
              refine CH.out.mono ?_
              rintro e w3 ⟨rfl, hb3⟩
              dsimp only
              have H3 : Hid (Below wd.heap.size wd w3) := hb3
              clear hb3
              refine hK.out _ _ ?_
              clear hK K
              try simp only [aP]
              exact hs2_6_7 w3 H3
            · intro w3 H3
              refine wpAny_done (by kernel_rfl) ?_ _
              go_wp2_with fail
              go_ret
              exact ⟨by rw [HM.out]; rfl, HB.out.trans (H3.out.mono HB.out.size)⟩
          | false =>
            rw [hh] at CH
            have HM : Hid (meetB U (x :: T) = meetB A B) := by
              rw [← HEq.out]
              show _ = _
              conv => rhs; unfold meetB
              rw [if_pos hlt, if_neg (by rw [hh]; decide)]
            by_cases hca : d' = 1
            · have hT : U = [] := List.eq_nil_of_length_eq_zero (by have := HCx.out; simp only [List.length_cons] at this; omega)
              have hrow : Hid (RowR wd w.heap.size (some ⟨gy, oy, none⟩) U) := by rw [hT]; exact fun i hi => absurd hi (by simp)
              subst hT
              have hc2 := hca
              subst hc2
              refine tk (v := ?_) 0 rfl ?_ ?_
              rotate_left
              focus
                intro w9
                go_simp
                try with_reducible rfl
              try simp only [aP]
              refine tk (v := ?_) 1 rfl ?_ ?_
              rotate_left
              focus
                intro w9
                go_simp
                try with_reducible rfl
              try simp only [aP]
              refine tk (v := ?_) 3 rfl ?_ ?_
              rotate_left
              focus
                intro w9
                go_simp
                try with_reducible rfl
              try simp only [aP]
              refine tk (v := ?_) 4 rfl ?_ ?_
              rotate_left
              focus
                intro w9
                go_simp
                try with_reducible rfl
              try simp only [aP]
              refine tk (v := ?_) 5 rfl ?_ ?_
              rotate_left
              focus
                intro w9
                go_simp
                try with_reducible rfl
              try simp only [aP]
              apply later1 (fun (w3 : World) => Hid (Below wd.heap.size wd w3))
              intro hs2_6_7
              apply later0
              intro hs2_6
              apply later0
              intro hs6
              apply later0
              intro hs2
              · refine wpAny_ready (rs := [2, 6]) (by kernel_rfl) (by simp) ?_
                refine anyN_cons 2 rfl (by rfl) (fun K hK => ?_) (anyN_cons 6 rfl (by rfl) (fun K hK => ?_) AllReady.nil)
                · go_simp
                  refine hK.out _ _ ?_
                  clear hK K
                  try simp only [aP]
                  exact hs2
                · go_simp
                  refine hK.out _ _ ?_
                  clear hK K
                  try simp only [aP]
                  exact hs6
              · refine wpAny_ready (rs := [6]) (by kernel_rfl) (by simp) ?_
                refine anyN_cons 6 rfl (by rfl) (fun K hK => ?_) AllReady.nil
                go_simp
                refine hK.out _ _ ?_
                clear hK K
                try simp only [aP]
                exact hs2_6
              · refine wpAny_ready (rs := [2]) (by kernel_rfl) (by simp) ?_
                refine anyN_cons 2 rfl (by rfl) (fun K hK => ?_) AllReady.nil
                go_simp
                refine hK.out _ _ ?_
                clear hK K
                try simp only [aP]
                exact hs2_6
              · refine wpAny_ready (rs := [7]) (by kernel_rfl) (by simp) ?_
                refine anyN_cons 7 rfl (by rfl) (fun K hK => ?_) AllReady.nil
                go_simp
                refine CH.out.mono ?_
                rintro e w3 ⟨rfl, hb3⟩
                dsimp only
                have H3 : Hid (Below wd.heap.size wd w3) := hb3
                clear hb3
                refine hK.out _ _ ?_
                clear hK K
                try simp only [aP]
                exact hs2_6_7 w3 H3
              · intro w3 H3
                refine wpAny_done (by kernel_rfl) ?_ _
                have HR3 : Hid (RowR w3 w.heap.size (some ⟨gy, oy, none⟩) [] ∧ RowR w3 w.heap.size (some ⟨gx, ox, none⟩) (x :: T) ∧ Below w.heap.size w w3) := ⟨hrow.out.keep (H3.out.mono HB.out.size), HRy.out.keep (H3.out.mono HB.out.size), HB.out.trans (H3.out.mono HB.out.size)⟩
                clear H3 CH
                go_wp2_with fail
                go_roundw
                case rel => exact ⟨[], x :: T, _, _, _, _, rfl, rfl, by simp, HCy.out, HR3, HM⟩
                case measure => simp only [lenV, List.length_nil]; omega
            · have hrow : Hid (RowR wd w.heap.size (some ⟨gy, oy + 3, none⟩) U) := row_tail HRx.out
              have HC2 : Hid (U.length ≤ d' - 1) := by
                have h9 := HCx.out
                simp only [List.length_cons] at h9
                have : U.length ≤ d' - 1 := by omega
                exact this
              refine tk (v := ?_) 0 rfl ?_ ?_
              rotate_left
              focus
                intro w9
                go_simp
                try with_reducible rfl
              try simp only [aP]
              refine tk (v := ?_) 1 rfl ?_ ?_
              rotate_left
              focus
                intro w9
                go_simp
                try with_reducible rfl
              try simp only [aP]
              refine tk (v := ?_) 3 rfl ?_ ?_
              rotate_left
              focus
                intro w9
                go_simp
                try with_reducible rfl
              try simp only [aP]
              refine tk (v := ?_) 4 rfl ?_ ?_
              rotate_left
              focus
                intro w9
                go_simp
                try with_reducible rfl
              try simp only [aP]
              refine tk (v := ?_) 5 rfl ?_ ?_
              rotate_left
              focus
                intro w9
                go_simp
                try with_reducible rfl
              try simp only [aP]
              apply later1 (fun (w3 : World) => Hid (Below wd.heap.size wd w3))
              intro hs2_6_7
              apply later0
              intro hs2_6
              apply later0
              intro hs6
              apply later0
              intro hs2
              · refine wpAny_ready (rs := [2, 6]) (by kernel_rfl) (by simp) ?_
                refine anyN_cons 2 rfl (by rfl) (fun K hK => ?_) (anyN_cons 6 rfl (by rfl) (fun K hK => ?_) AllReady.nil)
                · go_simp
                  refine hK.out _ _ ?_
                  clear hK K
                  try simp only [aP]
                  exact hs2
                · go_simp
                  refine hK.out _ _ ?_
                  clear hK K
                  try simp only [aP]
                  exact hs6
              · refine wpAny_ready (rs := [6]) (by kernel_rfl) (by simp) ?_
                refine anyN_cons 6 rfl (by rfl) (fun K hK => ?_) AllReady.nil
                go_simp
                refine hK.out _ _ ?_
                clear hK K
                try simp only [aP]
                exact hs2_6
              · refine wpAny_ready (rs := [2]) (by kernel_rfl) (by simp) ?_
                refine anyN_cons 2 rfl (by rfl) (fun K hK => ?_) AllReady.nil
                go_simp
                refine hK.out _ _ ?_
                clear hK K
                try simp only [aP]
                exact hs2_6
              · refine wpAny_ready (rs := [7]) (by kernel_rfl) (by simp) ?_
                refine anyN_cons 7 rfl (by rfl) (fun K hK => ?_) AllReady.nil
                go_simp
                refine CH.out.mono ?_
                rintro e w3 ⟨rfl, hb3⟩
                dsimp only
                have H3 : Hid (Below wd.heap.size wd w3) := hb3
                clear hb3
                refine hK.out _ _ ?_
                clear hK K
                try simp only [aP]
                exact hs2_6_7 w3 H3
              · intro w3 H3
                refine wpAny_done (by kernel_rfl) ?_ _
                have HR3 : Hid (RowR w3 w.heap.size (some ⟨gy, oy + 3, none⟩) U ∧ RowR w3 w.heap.size (some ⟨gx, ox, none⟩) (x :: T) ∧ Below w.heap.size w w3) := ⟨hrow.out.keep (H3.out.mono HB.out.size), HRy.out.keep (H3.out.mono HB.out.size), HB.out.trans (H3.out.mono HB.out.size)⟩
                clear H3 CH
                go_wp2_with fail
                go_roundw
                case rel => exact ⟨U, x :: T, _, _, _, _, rfl, rfl, HC2.out, HCy.out, HR3, HM⟩
                case measure => simp only [lenV]; omega
        | false =>
          have hlt2 : (!Op.bytesLess x.lo.toList y.lo.toList && !x.lo.toList == y.lo.toList) = false := by rw [gt_str]; exact hlt
          go_wp2_with fail
          go_quiet (fail)
          go_upto_region 4 with fail
          obtain ⟨wq1, hwq1⟩ : ∃ wq1, wr.drewN nq = wq1 := ⟨_, rfl⟩
          have hdr : Below wr.heap.size wr wq1.drew := by rw [← hwq1]; exact (below_drewN (Below.refl _ _) _).drew
          rw [hwq1]
          clear hwq1
          have HRx : Hid (RowR wq1.drew w.heap.size (some ⟨gx, ox, none⟩) (x :: T)) := HI.out.1.keep (hdr.mono HI.out.2.2.size)
          have HRy : Hid (RowR wq1.drew w.heap.size (some ⟨gy, oy, none⟩) (y :: U)) := HI.out.2.1.keep (hdr.mono HI.out.2.2.size)
          have HB : Hid (Below w.heap.size w wq1.drew) := HI.out.2.2.trans (hdr.mono HI.out.2.2.size)
          have HCx := HCx0
          have HCy := HCy0
          have x0' := (hdr.cell (p := ⟨gx, ox, none⟩) (Nat.lt_of_lt_of_le hgx HI.out.2.2.size)).trans x0
          have x1' := (hdr.cell (p := ⟨gx, ox + 1, none⟩) (Nat.lt_of_lt_of_le hgx HI.out.2.2.size)).trans x1
          have x2' := (hdr.cell (p := ⟨gx, ox + 2, none⟩) (Nat.lt_of_lt_of_le hgx HI.out.2.2.size)).trans x2
          have y0' := (hdr.cell (p := ⟨gy, oy, none⟩) (Nat.lt_of_lt_of_le hgy HI.out.2.2.size)).trans y0
          have y1' := (hdr.cell (p := ⟨gy, oy + 1, none⟩) (Nat.lt_of_lt_of_le hgy HI.out.2.2.size)).trans y1
          have y2' := (hdr.cell (p := ⟨gy, oy + 2, none⟩) (Nat.lt_of_lt_of_le hgy HI.out.2.2.size)).trans y2
          clear x0 x1 x2 y0 y1 y2 hdr HI HCx0 HCy0
          have CH : Hid (Calls _ _ _ _ _) := has_any x.lo x.hi x.op y.lo wq1.drew
          refine wp_region_any (by kernel_rfl) ?_
          change wpAny _ _ _ _ _ _ _ (World.drew _)
          generalize wq1.drew = wd at *
          cases hh : hasB x.lo x.hi x.op y.lo with
          | true =>
            have HM : Hid (meetB A B = true) := by
              rw [← HEq.out]
              show meetB _ _ = true
              unfold meetB
              rw [if_neg (by rw [hlt]; decide), if_pos hh]
            rw [hh] at CH
            refine tk (v := ?_) 0 rfl ?_ ?_
            rotate_left
            focus
              intro w9
              go_simp
              try with_reducible rfl
            try simp only [aP]
            refine tk (v := ?_) 1 rfl ?_ ?_
            rotate_left
            focus
              intro w9
              go_simp
              try with_reducible rfl
            try simp only [aP]
            refine tk (v := ?_) 3 rfl ?_ ?_
            rotate_left
            focus
              intro w9
              go_simp
              try with_reducible rfl
            try simp only [aP]
            refine tk (v := ?_) 4 rfl ?_ ?_
            rotate_left
            focus
              intro w9
              go_simp
              try with_reducible rfl
            try simp only [aP]
            refine tk (v := ?_) 5 rfl ?_ ?_
            rotate_left
            focus
              intro w9
              go_simp
              try with_reducible rfl
            try simp only [aP]
            apply later1 (fun (w3 : World) => Hid (Below wd.heap.size wd w3))
            intro hs2_6_7
            apply later0
            intro hs2_6
            apply later0
            intro hs6
            apply later0
            intro hs2
            · refine wpAny_ready (rs := [2, 6]) (by kernel_rfl) (by simp) ?_
              refine anyN_cons 2 rfl (by rfl) (fun K hK => ?_) (anyN_cons 6 rfl (by rfl) (fun K hK => ?_) AllReady.nil)
              · go_simp
                refine hK.out _ _ ?_
                clear hK K
                try simp only [aP]
                exact hs2
              · go_simp
                refine hK.out _ _ ?_
                clear hK K
                try simp only [aP]
                exact hs6
            · refine wpAny_ready (rs := [6]) (by kernel_rfl) (by simp) ?_
              refine anyN_cons 6 rfl (by rfl) (fun K hK => ?_) AllReady.nil
              go_simp
              refine hK.out _ _ ?_
              clear hK K
              try simp only [aP]
              exact hs2_6
            · refine wpAny_ready (rs := [2]) (by kernel_rfl) (by simp) ?_
              refine anyN_cons 2 rfl (by rfl) (fun K hK => ?_) AllReady.nil
              go_simp
              refine hK.out _ _ ?_
              clear hK K
              try simp only [aP]
              exact hs2_6
            · refine wpAny_ready (rs := [7]) (by kernel_rfl) (by simp) ?_
              refine anyN_cons 7 rfl (by rfl) (fun K hK => ?_) AllReady.nil
              go_simp
              refine CH.out.mono ?_
              rintro e w3 ⟨rfl, hb3⟩
              dsimp only
              have H3 : Hid (Below wd.heap.size wd w3) := hb3
              clear hb3
              refine hK.out _ _ ?_
              clear hK K
              try simp only [aP]
              exact hs2_6_7 w3 H3
            · intro w3 H3
              refine wpAny_done (by kernel_rfl) ?_ _
              go_wp2_with fail
              go_ret
              exact ⟨by rw [HM.out]; rfl, HB.out.trans (H3.out.mono HB.out.size)⟩
          | false =>
            rw [hh] at CH
            have HM : Hid (meetB T (y :: U) = meetB A B) := by
              rw [← HEq.out]
              show _ = _
              conv => rhs; unfold meetB
              rw [if_neg (by rw [hlt]; decide), if_neg (by rw [hh]; decide)]
            by_cases hca : c' = 1
            · have hT : T = [] := List.eq_nil_of_length_eq_zero (by have := HCx.out; simp only [List.length_cons] at this; omega)
              have hrow : Hid (RowR wd w.heap.size (some ⟨gx, ox, none⟩) T) := by rw [hT]; exact fun i hi => absurd hi (by simp)
              subst hT
              have hc2 := hca
              subst hc2
              refine tk (v := ?_) 0 rfl ?_ ?_
              rotate_left
              focus
                intro w9
                go_simp
                try with_reducible rfl
              try simp only [aP]
              refine tk (v := ?_) 1 rfl ?_ ?_
              rotate_left
              focus
                intro w9
                go_simp
                try with_reducible rfl
              try simp only [aP]
              refine tk (v := ?_) 3 rfl ?_ ?_
              rotate_left
              focus
                intro w9
                go_simp
                try with_reducible rfl
              try simp only [aP]
              refine tk (v := ?_) 4 rfl ?_ ?_
              rotate_left
              focus
                intro w9
                go_simp
                try with_reducible rfl
              try simp only [aP]
              refine tk (v := ?_) 5 rfl ?_ ?_
              rotate_left
              focus
                intro w9
                go_simp
                try with_reducible rfl
              try simp only [aP]
              apply later1 (fun (w3 : World) => Hid (Below wd.heap.size wd w3))
              intro hs2_6_7
              apply later0
              intro hs2_6
              apply later0
              intro hs6
              apply later0
              intro hs2
              · refine wpAny_ready (rs := [2, 6]) (by kernel_rfl) (by simp) ?_
                refine anyN_cons 2 rfl (by rfl) (fun K hK => ?_) (anyN_cons 6 rfl (by rfl) (fun K hK => ?_) AllReady.nil)
                · go_simp
                  refine hK.out _ _ ?_
                  clear hK K
                  try simp only [aP]
                  exact hs2
                · go_simp
                  refine hK.out _ _ ?_
                  clear hK K
                  try simp only [aP]
                  exact hs6
              · refine wpAny_ready (rs := [6]) (by kernel_rfl) (by simp) ?_
                refine anyN_cons 6 rfl (by rfl) (fun K hK => ?_) AllReady.nil
                go_simp
                refine hK.out _ _ ?_
                clear hK K
                try simp only [aP]
                exact hs2_6
              · refine wpAny_ready (rs := [2]) (by kernel_rfl) (by simp) ?_
                refine anyN_cons 2 rfl (by rfl) (fun K hK => ?_) AllReady.nil
                go_simp
                refine hK.out _ _ ?_
                clear hK K
                try simp only [aP]
                exact hs2_6
              · refine wpAny_ready (rs := [7]) (by kernel_rfl) (by simp) ?_
                refine anyN_cons 7 rfl (by rfl) (fun K hK => ?_) AllReady.nil
                go_simp
                refine CH.out.mono ?_
                rintro e w3 ⟨rfl, hb3⟩
                dsimp only
                have H3 : Hid (Below wd.heap.size wd w3) := hb3
                clear hb3
                refine hK.out _ _ ?_
                clear hK K
                try simp only [aP]
                exact hs2_6_7 w3 H3
              · intro w3 H3
                refine wpAny_done (by kernel_rfl) ?_ _
                have HR3 : Hid (RowR w3 w.heap.size (some ⟨gx, ox, none⟩) [] ∧ RowR w3 w.heap.size (some ⟨gy, oy, none⟩) (y :: U) ∧ Below w.heap.size w w3) := ⟨hrow.out.keep (H3.out.mono HB.out.size), HRy.out.keep (H3.out.mono HB.out.size), HB.out.trans (H3.out.mono HB.out.size)⟩
                clear H3 CH
                go_wp2_with fail
                go_roundw
                case rel => exact ⟨[], y :: U, _, _, _, _, rfl, rfl, by simp, HCy.out, HR3, HM⟩
                case measure => simp only [lenV, List.length_nil]; omega
            · have hrow : Hid (RowR wd w.heap.size (some ⟨gx, ox + 3, none⟩) T) := row_tail HRx.out
              have HC2 : Hid (T.length ≤ c' - 1) := by
                have h9 := HCx.out
                simp only [List.length_cons] at h9
                have : T.length ≤ c' - 1 := by omega
                exact this
              refine tk (v := ?_) 0 rfl ?_ ?_
              rotate_left
              focus
                intro w9
                go_simp
                try with_reducible rfl
              try simp only [aP]
              refine tk (v := ?_) 1 rfl ?_ ?_
              rotate_left
              focus
                intro w9
                go_simp
                try with_reducible rfl
              try simp only [aP]
              refine tk (v := ?_) 3 rfl ?_ ?_
              rotate_left
              focus
                intro w9
                go_simp
                try with_reducible rfl
              try simp only [aP]
              refine tk (v := ?_) 4 rfl ?_ ?_
              rotate_left
              focus
                intro w9
                go_simp
                try with_reducible rfl
              try simp only [aP]
              refine tk (v := ?_) 5 rfl ?_ ?_
              rotate_left
              focus
                intro w9
                go_simp
                try with_reducible rfl
              try simp only [aP]
              apply later1 (fun (w3 : World) => Hid (Below wd.heap.size wd w3))
              intro hs2_6_7
              apply later0
              intro hs2_6
              apply later0
              intro hs6
              apply later0
              intro hs2
              · refine wpAny_ready (rs := [2, 6]) (by kernel_rfl) (by simp) ?_
                refine anyN_cons 2 rfl (by rfl) (fun K hK => ?_) (anyN_cons 6 rfl (by rfl) (fun K hK => ?_) AllReady.nil)
                · go_simp
                  refine hK.out _ _ ?_
                  clear hK K
                  try simp only [aP]
                  exact hs2
                · go_simp
                  refine hK.out _ _ ?_
                  clear hK K
                  try simp only [aP]
                  exact hs6
              · refine wpAny_ready (rs := [6]) (by kernel_rfl) (by simp) ?_
                refine anyN_cons 6 rfl (by rfl) (fun K hK => ?_) AllReady.nil
                go_simp
                refine hK.out _ _ ?_
                clear hK K
                try simp only [aP]
                exact hs2_6
              · refine wpAny_ready (rs := [2]) (by kernel_rfl) (by simp) ?_
                refine anyN_cons 2 rfl (by rfl) (fun K hK => ?_) AllReady.nil
                go_simp
                refine hK.out _ _ ?_
                clear hK K
                try simp only [aP]
                exact hs2_6
              · refine wpAny_ready (rs := [7]) (by kernel_rfl) (by simp) ?_
                refine anyN_cons 7 rfl (by rfl) (fun K hK => ?_) AllReady.nil
                go_simp
                refine CH.out.mono ?_
                rintro e w3 ⟨rfl, hb3⟩
                dsimp only
                have H3 : Hid (Below wd.heap.size wd w3) := hb3
                clear hb3
                refine hK.out _ _ ?_
                clear hK K
                try simp only [aP]
                exact hs2_6_7 w3 H3
              · intro w3 H3
                refine wpAny_done (by kernel_rfl) ?_ _
                have HR3 : Hid (RowR w3 w.heap.size (some ⟨gx, ox + 3, none⟩) T ∧ RowR w3 w.heap.size (some ⟨gy, oy, none⟩) (y :: U) ∧ Below w.heap.size w w3) := ⟨hrow.out.keep (H3.out.mono HB.out.size), HRy.out.keep (H3.out.mono HB.out.size), HB.out.trans (H3.out.mono HB.out.size)⟩
                clear H3 CH
                go_wp2_with fail
                go_roundw
                case rel => exact ⟨T, y :: U, _, _, _, _, rfl, rfl, HC2.out, HCy.out, HR3, HM⟩
                case measure => simp only [lenV]; omega
end Go.Proofs.YtcdamalpecedcaaGreat
