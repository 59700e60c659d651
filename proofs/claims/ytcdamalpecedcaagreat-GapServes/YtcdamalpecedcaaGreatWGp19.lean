/- Layer 13: tellLast, tellBehind. -/
import Derived.Test.YtcdamalpecedcaaGreatWGp18
namespace Go.Proofs.YtcdamalpecedcaaGreat
open Go.RowKit
set_option maxRecDepth 100000

set_option maxHeartbeats 4000000 in
theorem tellLast_any (xb nx c tb ch : Nat) (p : Option Addr) (Z : List (Nat × Nat)) (x : Tk) (w : World) (hz : LnZ w xb nx p c Z) (hT : TkM w tb ch x) (hl : x.A.length ≤ 256) :
    Calls Tryz.prog 30 #[ptr1 xb, ptr1 tb] w fun e w' => e = .returned (.tuple #[]) ∧ TkM w' tb ch x ∧ Frm w w' (fun k => k = tb ∨ k = ch) := by
  have HT : Hid (TkM w tb ch x) := hT
  obtain ⟨va, vo, vh, told, d, sm, cl, k1, -, -, -, k5, -, -⟩ := hT
  have C1 : Hid (Calls _ _ _ _ _) := grants_any xb nx c tb p Z x.A vh w hz (Blk.cell (i := 3) k1 rfl) (ownU_rw k5) hl
  clear hz k1 k5 hl
  cases hg : (!x.A.any (hasT Z)) with
  | true =>
    rw [hg] at C1
    go_enter Tryz.func30, Tryz.ntmps30
    go_wp2_with fail
    refine C1.out.mono ?_
    rintro e w2 ⟨rfl, hb2⟩
    have C2 : Hid (Calls _ _ _ _ _) := tell_any tb ch x 0 w2 (HT.out.on hb2)
    have HB2 : Hid (Below w.heap.size w w2) := hb2
    clear hb2 C1
    go_wp2_with fail
    refine C2.out.mono ?_
    rintro e w3 ⟨rfl, h1, h2⟩
    have HZ : Hid (TkM w3 tb ch x ∧ Frm w w3 (fun k => k = tb ∨ k = ch)) := ⟨h1, (Frm.of_below (F := fun k => k = tb ∨ k = ch) HB2.out).trans h2 (fun k hk => .inl hk)⟩
    clear h1 h2 C2
    go_wp2_with fail
    first | go_end0 | (simp only [Exit.inBlock, Exit.then]; refine bodyPost_ret (results_none rfl _ _ _) rfl ?_) | refine bodyPost_ret (results_none rfl _ _ _) rfl ?_
    exact ⟨rfl, HZ.out⟩
  | false =>
    rw [hg] at C1
    go_enter Tryz.func30, Tryz.ntmps30
    go_wp2_with fail
    refine C1.out.mono ?_
    rintro e w2 ⟨rfl, hb2⟩
    have C2 : Hid (Calls _ _ _ _ _) := tell_any tb ch x 130 w2 (HT.out.on hb2)
    have HB2 : Hid (Below w.heap.size w w2) := hb2
    clear hb2 C1
    go_wp2_with fail
    refine C2.out.mono ?_
    rintro e w3 ⟨rfl, h1, h2⟩
    have HZ : Hid (TkM w3 tb ch x ∧ Frm w w3 (fun k => k = tb ∨ k = ch)) := ⟨h1, (Frm.of_below (F := fun k => k = tb ∨ k = ch) HB2.out).trans h2 (fun k hk => .inl hk)⟩
    clear h1 h2 C2
    go_wp2_with fail
    first | go_end0 | (simp only [Exit.inBlock, Exit.then]; refine bodyPost_ret (results_none rfl _ _ _) rfl ?_) | refine bodyPost_ret (results_none rfl _ _ _) rfl ?_
    exact ⟨rfl, HZ.out⟩
/-- what tellBehind may write -/
def tbF (Y : List Tkr) : Nat → Prop := fun k => ∃ y ∈ Y, k = y.b ∨ k = y.ch
theorem tbF_of {Y : List Tkr} {y : Tkr} (hy : y ∈ Y) {k : Nat} (h : k = y.b ∨ k = y.ch) : tbF Y k := ⟨y, hy, h⟩
theorem only_tb {w : World} {xb nx c : Nat} {p : Option Addr} {Y : List Tkr} (h : LnP w xb nx p c Y) : OnlyTG w (tbF Y) := by
  intro g cs T z hg hk
  obtain ⟨y, hy, hk⟩ := hk
  obtain ⟨va, vo, vh, told, d, sm, cl, k1, _, _, _, _, k6, _⟩ := h.t y hy
  exact only_tc k1 k6 g cs T z hg hk

set_option maxHeartbeats 16000000 in
theorem tellBehind_any (yb nx c gb gch : Nat) (p : Option Addr) (gx : Tk) (Y : List Tkr) (w : World) (hL : LnP w yb nx p c Y) (hT : TkM w gb gch gx) (hn : ∀ y ∈ Y, y.b ≠ gb ∧ y.ch ≠ gch) :
    Calls Tryz.prog 31 #[ptr1 yb, ptr1 gb] w fun e w' => e = .returned (.tuple #[]) ∧ LnP w' yb nx p c Y ∧ Frm w w' (tbF Y) := by
  have HL : Hid (LnP w yb nx p c Y) := hL
  have HT : Hid (TkM w gb gch gx) := hT
  have HNe : Hid (∀ y ∈ Y, y.b ≠ gb ∧ y.ch ≠ gch) := hn
  obtain ⟨hz, kc, kn, kp⟩ := hL.z
  have C1 : Hid (Calls _ _ _ _ _) := from_any yb nx c gx.t p (zs Y) w hz (by rw [List.length_map]; exact kc) kn kp
  have y0 := hT.tkt.1
  obtain ⟨m, hm⟩ : ∃ m, plc (zs Y) gx.t = m := ⟨_, rfl⟩
  rw [hm] at C1
  have HOn : Hid (OnlyTG w (tbF Y)) := only_tb hL
  clear hL hT hn hz kc kn kp hm
  go_enter Tryz.func31, Tryz.ntmps31
  go_wp2_with fail
  refine C1.out.mono ?_
  rintro e w9 ⟨⟨p5, c5, rfl, hr5⟩, hw9⟩
  rw [hw9]
  clear hw9 C1 y0
  have HR5 : Hid (∀ wz, RdZ wz p (zs Y) → RdZ wz p5 ((zs Y).drop m)) := hr5
  obtain ⟨n, hnn⟩ : ∃ n, ((zs Y).drop m).length = n := ⟨_, rfl⟩
  have HN : Hid (((zs Y).drop m).length = n) := hnn
  have hl9 : n ≤ 256 := by
    have h1 := HL.out.l
    rw [← hnn, List.length_drop, List.length_map]
    omega
  rw [hnn]
  clear hr5 hnn
  go_wp2_with fail
  go_loopw [13] (fun si wq => ∃ i : Nat, i ≤ n ∧ si = .int .i64 (i : Int) ∧ Hid (LnP wq yb nx p c Y ∧ TkM wq gb gch gx ∧ Frm w wq (tbF Y))) (fun si _ => ((n : Int) - intOf si).toNat)
  case atStart => exact ⟨0, by omega, rfl, HL.out, HT.out, Frm.refl _ _⟩
  case round =>
    obtain ⟨i, hi, rfl, HI⟩ := hrel
    rcases Nat.lt_or_eq_of_le hi with hlt | heq
    · have g1 : decide ((i : Int) < (n : Int)) = true := by simp; omega
      have hiD : i < ((zs Y).drop m).length := by rw [HN.out]; exact hlt
      have hiY : m + i < Y.length := by
        rw [List.length_drop, List.length_map] at hiD
        omega
      obtain ⟨g, o, hp5, hg, d0, -, -⟩ := HR5.out wr HI.out.1.z.1.r i hiD
      subst hp5
      have hzi : ((zs Y).drop m)[i] = (Y[m + i].b, Y[m + i].x.t) := by rw [List.getElem_drop, List.getElem_map]
      rw [hzi] at d0
      have hy : Y[m + i] ∈ Y := List.getElem_mem hiY
      obtain ⟨yy, hyy⟩ : ∃ yy, Y[m + i] = yy := ⟨_, rfl⟩
      rw [hyy] at d0 hy
      clear hzi hyy
      have HY : Hid (yy ∈ Y) := hy
      have hTy := HI.out.1.t yy hy
      obtain ⟨va, vo, vh, told, d, sm, cl, k1, -, -, -, k5, -, -⟩ := hTy
      have x3 := Blk.cell (i := 3) k1 rfl
      have C2 : Hid (Calls _ _ _ _ _) := waitsFor_any yy.b gb gx.t yy.x.A vh wr x3 (ownU_rw k5) (HI.out.1.a yy hy) HI.out.2.1.tkt.1
      have C3 : Hid (∀ w3, Below wr.heap.size wr w3 → Calls _ _ _ _ _) := fun w3 hb => grants_any yb nx c yy.b p (zs Y) yy.x.A vh w3 (HI.out.1.z.1.on hb) (Blk.cell (i := 3) (k1.on hb) rfl) (ownU_rw (owns_kept k5 hb)) (HI.out.1.a yy hy)
      generalize (!yy.x.A.any (hasT (zs Y))) = gr at *
      generalize hob : yy.b = ob at *
      have HOb : Hid (yy.b = ob) := hob
      clear hob hy k1 k5 x3 hg hiD hiY
      go_wp2_with fail
      refine C2.out.mono ?_
      rintro e w2 ⟨⟨bb, rfl⟩, hb2⟩
      have C4 : Hid (Calls _ _ _ _ _) := C3.out w2 hb2
      have HI2 : Hid (LnP w2 yb nx p c Y ∧ TkM w2 gb gch gx ∧ Frm w w2 (tbF Y)) := ⟨HI.out.1.on hb2, HI.out.2.1.on hb2, HI.out.2.2.trans (Frm.of_below (F := tbF Y) hb2) (fun k hk => .inl hk)⟩
      clear C2 C3 hb2 HI d0
      cases bb with
      | false =>
        go_wp2_with fail
        go_roundw
        case rel => exact ⟨i + 1, by omega, by go_num, HI2⟩
        case measure => simp [intOf]; omega
      | true =>
        go_wp2_with fail
        refine C4.out.mono ?_
        rintro e w3 ⟨rfl, hb3⟩
        have HI3 : Hid (LnP w3 yb nx p c Y ∧ TkM w3 gb gch gx ∧ Frm w w3 (tbF Y)) := ⟨HI2.out.1.on hb3, HI2.out.2.1.on hb3, HI2.out.2.2.trans (Frm.of_below (F := tbF Y) hb3) (fun k hk => .inl hk)⟩
        clear C4 hb3 HI2
        cases gr with
        | false =>
          go_wp2_with fail
          go_roundw
          case rel => exact ⟨i + 1, by omega, by go_num, HI3⟩
          case measure => simp [intOf]; omega
        | true =>
          have C5 : Hid (Calls _ _ _ _ _) := tell_any yy.b yy.ch yy.x 0 w3 (HI3.out.1.t yy HY.out)
          rw [HOb.out] at C5
          go_wp2_with fail
          refine C5.out.mono ?_
          rintro e w4 ⟨rfl, h1, h2⟩
          rw [← HOb.out] at h1 h2
          have hne := HNe.out yy HY.out
          have HI4 : Hid (LnP w4 yb nx p c Y ∧ TkM w4 gb gch gx ∧ Frm w w4 (tbF Y)) := by
            refine ⟨HI3.out.1.told HY.out h1 h2, HI3.out.2.1.frm h2 ?_ (fun h9 => ?_) (fun h9 => ?_), HI3.out.2.2.trans h2 (fun k hk => .inl (tbF_of HY.out hk))⟩
            · obtain ⟨va, vo, vh, told, d, sm, cl, k1, _, _, _, _, k6, _⟩ := HI3.out.1.t yy HY.out
              exact only_tc k1 k6
            · rcases h9 with h9 | h9
              · exact hne.1 h9.symm
              · exact tk_bch HI3.out.2.1 (HI3.out.1.t yy HY.out) h9
            · rcases h9 with h9 | h9
              · exact tk_bch (HI3.out.1.t yy HY.out) HI3.out.2.1 h9.symm
              · exact hne.2 h9.symm
          clear h1 h2 C5 hne HI3
          go_wp2_with fail
          go_roundw
          case rel => exact ⟨i + 1, by omega, by go_num, HI4⟩
          case measure => simp [intOf]; omega
    · have g1 : decide ((i : Int) < (n : Int)) = false := by simp; omega
      go_wp2_with fail
      first | go_end0 | (simp only [Exit.inBlock, Exit.then]; refine bodyPost_ret (results_none rfl _ _ _) rfl ?_) | refine bodyPost_ret (results_none rfl _ _ _) rfl ?_
      exact ⟨rfl, HI.out.1, HI.out.2.2⟩
end Go.Proofs.YtcdamalpecedcaaGreat
