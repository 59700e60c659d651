/- The document's Both. The document's Check. Check. -/
import Derived.Test.YtcknhjabdjbjiabGreatGWRs8
import Derived.Test.YtcknhjabdjbjiabGreatGWCl6
namespace Go.Proofs.YtcknhjabdjbjiabGreat
open Go.RowKit
set_option maxRecDepth 100000

/-- what two lists have in common, under way -/
structure BthI (T : Pt → Prop) (A B : List Pt) : Prop where
  ra : RisP A
  rb : RisP B
  mem : ∀ z, T z ↔ (z ∈ A ∧ z ∈ B) ∧ (z.i == -1) = true
theorem BthI.nilA {T : Pt → Prop} {B : List Pt} (h : BthI T [] B) : IsMin T none := fun z hz => by
  have := ((h.mem z).1 hz).1.1
  cases this
theorem BthI.nilB {T : Pt → Prop} {A : List Pt} (h : BthI T A []) : IsMin T none := fun z hz => by
  have := ((h.mem z).1 hz).1.2
  cases this
theorem RisP.first {x y : Pt} {B : List Pt} (h : RisP (y :: B)) (hx : ltP x y = true) : ¬ x ∈ y :: B := by
  intro hm
  rcases List.mem_cons.1 hm with rfl | hm
  · rw [ltP_irrefl] at hx; cases hx
  · have := ltP_trans hx ((List.pairwise_cons.1 h).1 x hm)
    rw [ltP_irrefl] at this; cases this
theorem BthI.lt {T : Pt → Prop} {x y : Pt} {A B : List Pt} (h : BthI T (x :: A) (y :: B)) (hc : cmpP x y = -1) : BthI T A (y :: B) := by
  have hl := (cmpP_lt x y).1 (by omega)
  refine ⟨(List.pairwise_cons.1 h.ra).2, h.rb, fun z => ?_⟩
  rw [h.mem z]
  refine and_congr_left' ?_
  constructor
  · rintro ⟨h1, h2⟩
    rcases List.mem_cons.1 h1 with rfl | h1
    · exact absurd h2 (h.rb.first hl)
    · exact ⟨h1, h2⟩
  · rintro ⟨h1, h2⟩
    exact ⟨List.mem_cons_of_mem _ h1, h2⟩
theorem BthI.swap {T : Pt → Prop} {A B : List Pt} (h : BthI T A B) : BthI T B A := ⟨h.rb, h.ra, fun z => by rw [h.mem z]; exact and_congr_left' ⟨And.symm, And.symm⟩⟩
theorem BthI.gt {T : Pt → Prop} {x y : Pt} {A B : List Pt} (h : BthI T (x :: A) (y :: B)) (hc : cmpP x y = 1) : BthI T (x :: A) B := by
  refine (h.swap.lt ?_).swap
  rcases cmpP_spec y x with ⟨h1, -⟩ | ⟨-, h1⟩ | ⟨h1, -⟩
  · exact h1
  · have := (cmpP_eq x y).2 h1.symm; omega
  · have e1 : ltP x y = true := by
      rcases ltP_tri y x with h2 | h2 | h2
      · have := (cmpP_lt y x).2 h2; omega
      · have := (cmpP_eq y x).2 h2; omega
      · exact h2
    have := (cmpP_lt x y).2 e1
    omega
theorem BthI.ne {T : Pt → Prop} {x y : Pt} {A B : List Pt} (h : BthI T (x :: A) (y :: B)) (_hc : cmpP x y = 0) (hx : (x.i == -1) = false) : BthI T A (y :: B) := by
  refine ⟨(List.pairwise_cons.1 h.ra).2, h.rb, fun z => ?_⟩
  rw [h.mem z]
  constructor
  · rintro ⟨⟨h1, h2⟩, h3⟩
    rcases List.mem_cons.1 h1 with rfl | h1
    · rw [hx] at h3; cases h3
    · exact ⟨⟨h1, h2⟩, h3⟩
  · rintro ⟨⟨h1, h2⟩, h3⟩
    exact ⟨⟨List.mem_cons_of_mem _ h1, h2⟩, h3⟩
theorem BthI.found {T : Pt → Prop} {x y : Pt} {A B : List Pt} (h : BthI T (x :: A) (y :: B)) (hc : cmpP x y = 0) (hx : (x.i == -1) = true) : IsMin T (some x) := by
  have e := (cmpP_eq x y).1 hc
  subst e
  refine ⟨(h.mem x).2 ⟨⟨List.mem_cons_self .., List.mem_cons_self ..⟩, hx⟩, fun z hz => ?_⟩
  rcases List.mem_cons.1 ((h.mem z).1 hz).1.1 with rfl | h1
  · exact ltP_irrefl _
  · exact ltP_asymm ((List.pairwise_cons.1 h.ra).1 z h1)



end Go.Proofs.YtcknhjabdjbjiabGreat

namespace Go.Proofs.YtcknhjabdjbjiabGreat

section
open Go.RowKit
set_option maxRecDepth 100000

/-- may a table and an index be? -/
def plB (t i : Int) : Bool := decide (0 ≤ t) && decide (-1 ≤ i)
theorem rplace_any (t i : Int) (w : World) : Calls Tryz.prog 51 #[.int .i64 t, .int .i64 i] w fun e w' => e = .returned (.bool (plB t i)) ∧ Below w.heap.size w w' := by
  unfold plB
  by_cases h1 : 0 ≤ t
  · by_cases h2 : -1 ≤ i
    · go_enter Tryz.func51, Tryz.ntmps51
      go_wp2_with fail
      go_ret
      exact ⟨by simp [h1, h2], Below.refl _ _⟩
    · go_enter Tryz.func51, Tryz.ntmps51
      go_wp2_with fail
      go_ret
      exact ⟨by simp [h2], Below.refl _ _⟩
  · have H1 : Hid (decide (0 ≤ t) = false) := decide_eq_false h1
    go_enter Tryz.func51, Tryz.ntmps51
    go_wp2_with fail
    go_ret
    exact ⟨by rw [H1.out]; rfl, Below.refl _ _⟩
/-- how many points, spans and writes a foot has -/
def Ft.size (a : Ft) : Nat := a.P.length + a.S.length + a.W.length
/-- what is wrong with a foot -/
def chkF (a : Ft) : Int := if 65536 < a.size then 2 else if a.P.any (fun y : Pt => !plB y.t y.i) || (a.S.any (fun y : Sp => !plB y.t y.i) || a.W.any (fun y : Pt => !plB y.t y.i)) then 1 else 0

theorem rsize_any (a : Ft) (pa0 pa1 pa2 : Option Addr) (ca0 ca1 ca2 : Nat) (w : World) (hl0 : a.P.length ≤ 4398046511104) (hl1 : a.S.length ≤ 2513169434916) (hl2 : a.W.length ≤ 4398046511104) :
    Calls Tryz.prog 50 #[.agg #[(.slice pa0 a.P.length ca0), (.slice pa1 a.S.length ca1), (.slice pa2 a.W.length ca2)]] w fun e w' => e = .returned (.int .i64 (a.size : Int)) ∧ Below w.heap.size w w' := by
  have hA := Blk.new w #[(.slice pa0 a.P.length ca0), (.slice pa1 a.S.length ca1), (.slice pa2 a.W.length ca2)] 27
  have g0 := hA.cell (i := 0) rfl
  have g1 := hA.cell (i := 1) rfl
  have g2 := hA.cell (i := 2) rfl
  have HE : Hid (Below w.heap.size w (w.alloc (.cells #[(.slice pa0 a.P.length ca0), (.slice pa1 a.S.length ca1), (.slice pa2 a.W.length ca2)] 27))) := (Below.refl _ _).alloc (Nat.le_refl _) _
  clear hA
  go_enter Tryz.func50, Tryz.ntmps50
  go_wp2_with fail
  go_ret
  exact ⟨by unfold Ft.size; first | rfl | (congr 2; go_num) | (simp; omega), HE.out⟩

set_option maxHeartbeats 8000000 in
theorem rcheck_core (a : Ft) (pa0 pa1 pa2 : Option Addr) (ca0 ca1 ca2 : Nat) (w : World)
    (hr0 : RowP w w.heap.size pa0 a.P) (hr1 : RowS w w.heap.size pa1 a.S) (hr2 : RowP w w.heap.size pa2 a.W)
    (hl0 : a.P.length ≤ 4398046511104) (hl1 : a.S.length ≤ 2513169434916) (hl2 : a.W.length ≤ 4398046511104) :
    Calls Tryz.prog 32 #[.agg #[(.slice pa0 a.P.length ca0), (.slice pa1 a.S.length ca1), (.slice pa2 a.W.length ca2)]] w fun e w' => e = .returned (.int .i64 (chkF a)) ∧ Below w.heap.size w w' := by
  have hal : Below w.heap.size w (w.alloc (.cells #[(.slice pa0 a.P.length ca0), (.slice pa1 a.S.length ca1), (.slice pa2 a.W.length ca2)] 27)) := (Below.refl _ _).alloc (Nat.le_refl _) _
  have hA0 := Blk.new w #[(.slice pa0 a.P.length ca0), (.slice pa1 a.S.length ca1), (.slice pa2 a.W.length ca2)] 27
  have CS : Hid (Calls _ _ _ _ _) := rsize_any a pa0 pa1 pa2 ca0 ca1 ca2 (w.alloc (.cells #[(.slice pa0 a.P.length ca0), (.slice pa1 a.S.length ca1), (.slice pa2 a.W.length ca2)] 27)) hl0 hl1 hl2
  have HW0 : Hid (Blk (w.alloc (.cells #[(.slice pa0 a.P.length ca0), (.slice pa1 a.S.length ca1), (.slice pa2 a.W.length ca2)] 27)) w.heap.size #[(.slice pa0 a.P.length ca0), (.slice pa1 a.S.length ca1), (.slice pa2 a.W.length ca2)] 27 ∧ Below w.heap.size w (w.alloc (.cells #[(.slice pa0 a.P.length ca0), (.slice pa1 a.S.length ca1), (.slice pa2 a.W.length ca2)] 27))) := ⟨hA0, hal⟩
  have HQ0 : Hid (RowP (w.alloc (.cells #[(.slice pa0 a.P.length ca0), (.slice pa1 a.S.length ca1), (.slice pa2 a.W.length ca2)] 27)) (w.alloc (.cells #[(.slice pa0 a.P.length ca0), (.slice pa1 a.S.length ca1), (.slice pa2 a.W.length ca2)] 27)).heap.size pa0 a.P ∧ RowS (w.alloc (.cells #[(.slice pa0 a.P.length ca0), (.slice pa1 a.S.length ca1), (.slice pa2 a.W.length ca2)] 27)) (w.alloc (.cells #[(.slice pa0 a.P.length ca0), (.slice pa1 a.S.length ca1), (.slice pa2 a.W.length ca2)] 27)).heap.size pa1 a.S ∧ RowP (w.alloc (.cells #[(.slice pa0 a.P.length ca0), (.slice pa1 a.S.length ca1), (.slice pa2 a.W.length ca2)] 27)) (w.alloc (.cells #[(.slice pa0 a.P.length ca0), (.slice pa1 a.S.length ca1), (.slice pa2 a.W.length ca2)] 27)).heap.size pa2 a.W) := ⟨hr0.on hal, hr1.on hal, hr2.on hal⟩
  have i0 := hA0.cell (i := 0) rfl
  have i1 := hA0.cell (i := 1) rfl
  have i2 := hA0.cell (i := 2) rfl
  have HST0 : Hid (∀ (j : Nat) (hj : j < a.P.length), j ≤ firstG (fun y : Pt => !plB y.t y.i) a.P → ((!plB a.P[j].t a.P[j].i) = true → firstG (fun y : Pt => !plB y.t y.i) a.P = j) ∧ ((!plB a.P[j].t a.P[j].i) = false → j + 1 ≤ firstG (fun y : Pt => !plB y.t y.i) a.P)) := firstG_step (fun y : Pt => !plB y.t y.i) a.P
  have HIF0 : Hid (firstG (fun y : Pt => !plB y.t y.i) a.P = a.P.length ↔ a.P.any (fun y : Pt => !plB y.t y.i) = false) := firstG_iff (fun y : Pt => !plB y.t y.i) a.P
  have HFL0 := firstG_le (fun y : Pt => !plB y.t y.i) a.P
  have HST1 : Hid (∀ (j : Nat) (hj : j < a.S.length), j ≤ firstG (fun y : Sp => !plB y.t y.i) a.S → ((!plB a.S[j].t a.S[j].i) = true → firstG (fun y : Sp => !plB y.t y.i) a.S = j) ∧ ((!plB a.S[j].t a.S[j].i) = false → j + 1 ≤ firstG (fun y : Sp => !plB y.t y.i) a.S)) := firstG_step (fun y : Sp => !plB y.t y.i) a.S
  have HIF1 : Hid (firstG (fun y : Sp => !plB y.t y.i) a.S = a.S.length ↔ a.S.any (fun y : Sp => !plB y.t y.i) = false) := firstG_iff (fun y : Sp => !plB y.t y.i) a.S
  have HFL1 := firstG_le (fun y : Sp => !plB y.t y.i) a.S
  have HST2 : Hid (∀ (j : Nat) (hj : j < a.W.length), j ≤ firstG (fun y : Pt => !plB y.t y.i) a.W → ((!plB a.W[j].t a.W[j].i) = true → firstG (fun y : Pt => !plB y.t y.i) a.W = j) ∧ ((!plB a.W[j].t a.W[j].i) = false → j + 1 ≤ firstG (fun y : Pt => !plB y.t y.i) a.W)) := firstG_step (fun y : Pt => !plB y.t y.i) a.W
  have HIF2 : Hid (firstG (fun y : Pt => !plB y.t y.i) a.W = a.W.length ↔ a.W.any (fun y : Pt => !plB y.t y.i) = false) := firstG_iff (fun y : Pt => !plB y.t y.i) a.W
  have HFL2 := firstG_le (fun y : Pt => !plB y.t y.i) a.W
  obtain ⟨r, hr⟩ : ∃ r, r = chkF a := ⟨_, rfl⟩
  have HRB : Hid (65536 < a.size → r = 2) := fun h => by rw [hr]; unfold chkF; rw [if_pos h]
  have HRES0 : Hid (¬ 65536 < a.size → (a.P.any (fun y : Pt => !plB y.t y.i) = true ∨ a.S.any (fun y : Sp => !plB y.t y.i) = true ∨ a.W.any (fun y : Pt => !plB y.t y.i) = true → r = 1) ∧ (a.P.any (fun y : Pt => !plB y.t y.i) = false → a.S.any (fun y : Sp => !plB y.t y.i) = false → a.W.any (fun y : Pt => !plB y.t y.i) = false → r = 0)) := fun h => by
    rw [hr]
    unfold chkF
    rw [if_neg h]
    refine ⟨fun h => ?_, fun h0 h1 h2 => by rw [h0, h1, h2]; rfl⟩
    rw [if_pos]
    simp only [Bool.or_eq_true]
    exact h
  rw [← hr]
  clear hr hal hA0 hr0 hr1 hr2
  generalize firstG (fun y : Pt => !plB y.t y.i) a.P = f0 at *
  generalize firstG (fun y : Sp => !plB y.t y.i) a.S = f1 at *
  generalize firstG (fun y : Pt => !plB y.t y.i) a.W = f2 at *
  have hsl : a.size ≤ 20000000000000 := by unfold Ft.size; omega
  generalize a.size = sz at *
  go_enter Tryz.func32, Tryz.ntmps32
  go_wp2_with fail
  refine CS.out.mono ?_
  rintro e wA ⟨rfl, hbA⟩
  have HW : Hid (Blk wA w.heap.size #[(.slice pa0 a.P.length ca0), (.slice pa1 a.S.length ca1), (.slice pa2 a.W.length ca2)] 27 ∧ Below w.heap.size w wA) := ⟨HW0.out.1.on hbA, HW0.out.2.trans (hbA.mono HW0.out.2.size)⟩
  have HR0 : Hid (RowP wA wA.heap.size pa0 a.P) := HQ0.out.1.on hbA
  have HR1 : Hid (RowS wA wA.heap.size pa1 a.S) := HQ0.out.2.1.on hbA
  have HR2 : Hid (RowP wA wA.heap.size pa2 a.W) := HQ0.out.2.2.on hbA
  have HP0 : Hid (Below wA.heap.size wA wA) := Below.refl _ _
  clear hbA CS i0 i1 i2 HQ0 HW0
  by_cases hsz : 65536 < sz
  · have hr := HRB.out hsz
    go_wp2_with fail
    go_ret
    exact ⟨by rw [hr]; rfl, HW.out.2⟩
  · have HRES : Hid ((a.P.any (fun y : Pt => !plB y.t y.i) = true ∨ a.S.any (fun y : Sp => !plB y.t y.i) = true ∨ a.W.any (fun y : Pt => !plB y.t y.i) = true → r = 1) ∧ (a.P.any (fun y : Pt => !plB y.t y.i) = false → a.S.any (fun y : Sp => !plB y.t y.i) = false → a.W.any (fun y : Pt => !plB y.t y.i) = false → r = 0)) := HRES0.out hsz
    clear HRES0 HRB
    go_wp2_with fail
    go_loopw [3] (fun i wr => ∃ j : Nat, j ≤ f0 ∧ i = .int .i64 (j : Int) ∧ Hid (Below wA.heap.size wA wr)) (fun i _ => a.P.length - (intOf i).toNat)
    case atStart => exact ⟨0, Nat.zero_le _, by go_num, HP0.out⟩
    case round =>
      obtain ⟨j, hj, rfl, HN⟩ := hrel
      have g0 := (HW.out.1.on HN.out).cell (i := 0) rfl
      by_cases hj0 : j = a.P.length
      · subst hj0
        rename World => wE1
        have HP1 : Hid (Below wA.heap.size wA wE1) := HN.out
        have HK1 : Hid (a.P.any (fun y : Pt => !plB y.t y.i) = false) := HIF0.out.1 (by omega)
        clear HN
        go_wp2_with fail
        go_loopw [4] (fun i wr => ∃ j : Nat, j ≤ f1 ∧ i = .int .i64 (j : Int) ∧ Hid (Below wA.heap.size wA wr)) (fun i _ => a.S.length - (intOf i).toNat)
        case atStart => exact ⟨0, Nat.zero_le _, by go_num, HP1.out⟩
        case round =>
          obtain ⟨j, hj, rfl, HN⟩ := hrel
          have g0 := (HW.out.1.on HN.out).cell (i := 1) rfl
          by_cases hj0 : j = a.S.length
          · subst hj0
            rename World => wE2
            have HP2 : Hid (Below wA.heap.size wA wE2) := HN.out
            have HK2 : Hid (a.S.any (fun y : Sp => !plB y.t y.i) = false) := HIF1.out.1 (by omega)
            clear HN
            go_wp2_with fail
            go_loopw [5] (fun i wr => ∃ j : Nat, j ≤ f2 ∧ i = .int .i64 (j : Int) ∧ Hid (Below wA.heap.size wA wr)) (fun i _ => a.W.length - (intOf i).toNat)
            case atStart => exact ⟨0, Nat.zero_le _, by go_num, HP2.out⟩
            case round =>
              obtain ⟨j, hj, rfl, HN⟩ := hrel
              have g0 := (HW.out.1.on HN.out).cell (i := 2) rfl
              by_cases hj0 : j = a.W.length
              · subst hj0
                rename World => wE3
                have HP3 : Hid (Below wA.heap.size wA wE3) := HN.out
                have HK3 : Hid (a.W.any (fun y : Pt => !plB y.t y.i) = false) := HIF2.out.1 (by omega)
                clear HN
                have HE : Hid (Below w.heap.size w wE3) := HW.out.2.trans (HP3.out.mono HW.out.2.size)
                go_wp2_with fail
                go_ret
                exact ⟨by rw [HRES.out.2 HK1.out HK2.out HK3.out]; rfl, HE.out⟩
              · have hj1 : j < a.W.length := by omega
                obtain ⟨b, o, hp, hbB, c0, c1, c2⟩ := (HR2.out.on HN.out) j hj1
                have hst := HST2.out j hj1 hj
                have s0 := InB.cell (w := wr) c0 hbB
                have s1 := InB.cell (w := wr) c1 hbB
                have s2 := InB.cell (w := wr) g0 (HW.out.1.on HN.out).lt
                have ne1 := inB_ne wr
                have CC : Hid (∀ w1 : World, Calls Tryz.prog 51 #[.int .i64 a.W[j].t, .int .i64 a.W[j].i] w1 fun e w' => e = .returned (.bool (plB a.W[j].t a.W[j].i)) ∧ Below w1.heap.size w1 w') := fun w1 => rplace_any _ _ w1
                subst hp
                clear hj0 c0 c1 c2
                generalize a.W[j] = y at *
                cases hpl : plB y.t y.i
                · have hf := hst.1 (by simp only [hpl]; rfl)
                  have HBD : Hid (a.W.any (fun y : Pt => !plB y.t y.i) = true) := by
                    refine (show _ = _ from ?_)
                    cases h : a.W.any (fun y : Pt => !plB y.t y.i)
                    · have := HIF2.out.2 h; omega
                    · rfl
                  rw [hpl] at CC
                  clear hst hpl
                  go_wp2_with fail
                  refine wp_region_inB (by kernel_rfl) (by kernel_rfl) ?_
                  repeat (go_big_quiet_step (first
                    | (go_at_call 51; exact Calls.inB (CC.out _))))
                  refine wpQuiet_nil ?_
                  rintro w7 ⟨⟨w8, hb7⟩, h9⟩
                  obtain rfl : w7 = w8 := h9
                  have HE : Hid (Below w.heap.size w w7) := (HW.out.2.trans (HN.out.mono HW.out.2.size)).trans (hb7.mono (Nat.le_trans HW.out.2.size HN.out.size))
                  clear hb7 s0 s1 s2 ne1 CC g0
                  go_wp2_with fail
                  go_ret
                  exact ⟨by rw [HRES.out.1 (.inr (.inr HBD.out))]; rfl, HE.out⟩
                · have hlt := hst.2 (by simp only [hpl]; rfl)
                  rw [hpl] at CC
                  clear hst hpl
                  go_wp2_with fail
                  refine wp_region_inB (by kernel_rfl) (by kernel_rfl) ?_
                  repeat (go_big_quiet_step (first
                    | (go_at_call 51; exact Calls.inB (CC.out _))))
                  refine wpQuiet_nil ?_
                  rintro w7 ⟨⟨w8, hb7⟩, h9⟩
                  obtain rfl : w7 = w8 := h9
                  have HN7 : Hid (Below wA.heap.size wA w7) := HN.out.trans (hb7.mono HN.out.size)
                  clear hb7 s0 s1 s2 ne1 CC g0
                  go_wp2_with fail
                  go_roundw
                  case rel => exact ⟨j + 1, hlt, by go_num, HN7.out⟩
                  case measure => simp [intOf]; omega
          · have hj1 : j < a.S.length := by omega
            obtain ⟨b, o, hp, hbB, c0, c1, c2, c3, c4⟩ := (HR1.out.on HN.out) j hj1
            have hst := HST1.out j hj1 hj
            have s0 := InB.cell (w := wr) c0 hbB
            have s1 := InB.cell (w := wr) c1 hbB
            have s2 := InB.cell (w := wr) g0 (HW.out.1.on HN.out).lt
            have ne1 := inB_ne wr
            have CC : Hid (∀ w1 : World, Calls Tryz.prog 51 #[.int .i64 a.S[j].t, .int .i64 a.S[j].i] w1 fun e w' => e = .returned (.bool (plB a.S[j].t a.S[j].i)) ∧ Below w1.heap.size w1 w') := fun w1 => rplace_any _ _ w1
            subst hp
            clear hj0 c0 c1 c2 c3 c4
            generalize a.S[j] = y at *
            cases hpl : plB y.t y.i
            · have hf := hst.1 (by simp only [hpl]; rfl)
              have HBD : Hid (a.S.any (fun y : Sp => !plB y.t y.i) = true) := by
                refine (show _ = _ from ?_)
                cases h : a.S.any (fun y : Sp => !plB y.t y.i)
                · have := HIF1.out.2 h; omega
                · rfl
              rw [hpl] at CC
              clear hst hpl
              go_wp2_with fail
              refine wp_region_inB (by kernel_rfl) (by kernel_rfl) ?_
              repeat (go_big_quiet_step (first
                | (go_at_call 51; exact Calls.inB (CC.out _))))
              refine wpQuiet_nil ?_
              rintro w7 ⟨⟨w8, hb7⟩, h9⟩
              obtain rfl : w7 = w8 := h9
              have HE : Hid (Below w.heap.size w w7) := (HW.out.2.trans (HN.out.mono HW.out.2.size)).trans (hb7.mono (Nat.le_trans HW.out.2.size HN.out.size))
              clear hb7 s0 s1 s2 ne1 CC g0
              go_wp2_with fail
              go_ret
              exact ⟨by rw [HRES.out.1 (.inr (.inl HBD.out))]; rfl, HE.out⟩
            · have hlt := hst.2 (by simp only [hpl]; rfl)
              rw [hpl] at CC
              clear hst hpl
              go_wp2_with fail
              refine wp_region_inB (by kernel_rfl) (by kernel_rfl) ?_
              repeat (go_big_quiet_step (first
                | (go_at_call 51; exact Calls.inB (CC.out _))))
              refine wpQuiet_nil ?_
              rintro w7 ⟨⟨w8, hb7⟩, h9⟩
              obtain rfl : w7 = w8 := h9
              have HN7 : Hid (Below wA.heap.size wA w7) := HN.out.trans (hb7.mono HN.out.size)
              clear hb7 s0 s1 s2 ne1 CC g0
              go_wp2_with fail
              go_roundw
              case rel => exact ⟨j + 1, hlt, by go_num, HN7.out⟩
              case measure => simp [intOf]; omega
      · have hj1 : j < a.P.length := by omega
        obtain ⟨b, o, hp, hbB, c0, c1, c2⟩ := (HR0.out.on HN.out) j hj1
        have hst := HST0.out j hj1 hj
        have s0 := InB.cell (w := wr) c0 hbB
        have s1 := InB.cell (w := wr) c1 hbB
        have s2 := InB.cell (w := wr) g0 (HW.out.1.on HN.out).lt
        have ne1 := inB_ne wr
        have CC : Hid (∀ w1 : World, Calls Tryz.prog 51 #[.int .i64 a.P[j].t, .int .i64 a.P[j].i] w1 fun e w' => e = .returned (.bool (plB a.P[j].t a.P[j].i)) ∧ Below w1.heap.size w1 w') := fun w1 => rplace_any _ _ w1
        subst hp
        clear hj0 c0 c1 c2
        generalize a.P[j] = y at *
        cases hpl : plB y.t y.i
        · have hf := hst.1 (by simp only [hpl]; rfl)
          have HBD : Hid (a.P.any (fun y : Pt => !plB y.t y.i) = true) := by
            refine (show _ = _ from ?_)
            cases h : a.P.any (fun y : Pt => !plB y.t y.i)
            · have := HIF0.out.2 h; omega
            · rfl
          rw [hpl] at CC
          clear hst hpl
          go_wp2_with fail
          refine wp_region_inB (by kernel_rfl) (by kernel_rfl) ?_
          repeat (go_big_quiet_step (first
            | (go_at_call 51; exact Calls.inB (CC.out _))))
          refine wpQuiet_nil ?_
          rintro w7 ⟨⟨w8, hb7⟩, h9⟩
          obtain rfl : w7 = w8 := h9
          have HE : Hid (Below w.heap.size w w7) := (HW.out.2.trans (HN.out.mono HW.out.2.size)).trans (hb7.mono (Nat.le_trans HW.out.2.size HN.out.size))
          clear hb7 s0 s1 s2 ne1 CC g0
          go_wp2_with fail
          go_ret
          exact ⟨by rw [HRES.out.1 (.inl HBD.out)]; rfl, HE.out⟩
        · have hlt := hst.2 (by simp only [hpl]; rfl)
          rw [hpl] at CC
          clear hst hpl
          go_wp2_with fail
          refine wp_region_inB (by kernel_rfl) (by kernel_rfl) ?_
          repeat (go_big_quiet_step (first
            | (go_at_call 51; exact Calls.inB (CC.out _))))
          refine wpQuiet_nil ?_
          rintro w7 ⟨⟨w8, hb7⟩, h9⟩
          obtain rfl : w7 = w8 := h9
          have HN7 : Hid (Below wA.heap.size wA w7) := HN.out.trans (hb7.mono HN.out.size)
          clear hb7 s0 s1 s2 ne1 CC g0
          go_wp2_with fail
          go_roundw
          case rel => exact ⟨j + 1, hlt, by go_num, HN7.out⟩
          case measure => simp [intOf]; omega
theorem rcheck_any (a : Ft) (va0 va1 va2 : Value) (w : World) (ha : RdF w va0 va1 va2 a) :
    Calls Tryz.prog 32 #[.agg #[va0, va1, va2]] w fun e w' => e = .returned (.int .i64 (chkF a)) ∧ Below w.heap.size w w' := by
  obtain ⟨p0, c0, rfl, _, _, h0⟩ := ha.p.f
  obtain ⟨p1, c1, rfl, _, _, h1⟩ := ha.s.f
  obtain ⟨p2, c2, rfl, _, _, h2⟩ := ha.w.f
  exact rcheck_core a p0 p1 p2 c0 c1 c2 w h0 h1 h2 ha.lp ha.ls ha.lw

end

section
open Go.RowKit
set_option maxRecDepth 100000

theorem isNowhere_any (x : Pt) (w : World) : Calls Tryz.prog 36 #[PV x] w fun e w' => e = .returned (.bool (!plB x.t x.i)) ∧ Below w.heap.size w w' := by
  have HE : Hid (Below w.heap.size w (w.alloc (.cells #[.int .i64 x.t, .int .i64 x.i, .string x.k] 36))) := (Below.refl _ _).alloc (Nat.le_refl _) _
  have hA := Blk.new w #[.int .i64 x.t, .int .i64 x.i, .string x.k] 36
  have g0 := hA.cell (i := 0) rfl
  have g1 := hA.cell (i := 1) rfl
  clear hA
  have HP : Hid ((x.t < 0 → plB x.t x.i = false) ∧ (¬ x.t < 0 → x.i < -1 → plB x.t x.i = false) ∧ (¬ x.t < 0 → ¬ x.i < -1 → plB x.t x.i = true)) := by
    refine (show _ ∧ _ ∧ _ from ?_)
    unfold plB
    refine ⟨fun h => by simp; omega, fun h1 h2 => by simp; omega, fun h1 h2 => by simp; omega⟩
  by_cases h1 : x.t < 0
  · have hp := HP.out.1 h1
    rw [hp]
    clear hp
    go_enter Tryz.func36, Tryz.ntmps36
    go_wp2_with fail
    go_ret
    exact ⟨rfl, HE.out⟩
  · by_cases h2 : x.i < -1
    · have hp := HP.out.2.1 h1 h2
      rw [hp]
      clear hp
      go_enter Tryz.func36, Tryz.ntmps36
      go_wp2_with fail
      go_ret
      exact ⟨rfl, HE.out⟩
    · have hp := HP.out.2.2 h1 h2
      rw [hp]
      clear hp
      go_enter Tryz.func36, Tryz.ntmps36
      go_wp2_with fail
      go_ret
      exact ⟨rfl, HE.out⟩
theorem psize_any (a : Ft) (pa0 pa1 pa2 : Option Addr) (ca0 ca1 ca2 : Nat) (w : World) (hl0 : a.P.length ≤ 4398046511104) (hl1 : a.S.length ≤ 2513169434916) (hl2 : a.W.length ≤ 4398046511104) :
    Calls Tryz.prog 34 #[.agg #[(.slice pa0 a.P.length ca0), (.slice pa1 a.S.length ca1), (.slice pa2 a.W.length ca2)]] w fun e w' => e = .returned (.int .i64 (a.size : Int)) ∧ Below w.heap.size w w' := by
  have hA := Blk.new w #[(.slice pa0 a.P.length ca0), (.slice pa1 a.S.length ca1), (.slice pa2 a.W.length ca2)] 27
  have g0 := hA.cell (i := 0) rfl
  have g1 := hA.cell (i := 1) rfl
  have g2 := hA.cell (i := 2) rfl
  have HE : Hid (Below w.heap.size w (w.alloc (.cells #[(.slice pa0 a.P.length ca0), (.slice pa1 a.S.length ca1), (.slice pa2 a.W.length ca2)] 27))) := (Below.refl _ _).alloc (Nat.le_refl _) _
  clear hA
  go_enter Tryz.func34, Tryz.ntmps34
  go_wp2_with fail
  go_ret
  exact ⟨by unfold Ft.size; first | rfl | (congr 2; go_num) | (simp; omega), HE.out⟩

set_option maxHeartbeats 8000000 in
theorem check_core (a : Ft) (pa0 pa1 pa2 : Option Addr) (ca0 ca1 ca2 : Nat) (w : World)
    (hr0 : RowP w w.heap.size pa0 a.P) (hr1 : RowS w w.heap.size pa1 a.S) (hr2 : RowP w w.heap.size pa2 a.W)
    (hl0 : a.P.length ≤ 4398046511104) (hl1 : a.S.length ≤ 2513169434916) (hl2 : a.W.length ≤ 4398046511104) :
    Calls Tryz.prog 20 #[.agg #[(.slice pa0 a.P.length ca0), (.slice pa1 a.S.length ca1), (.slice pa2 a.W.length ca2)]] w fun e w' => e = .returned (.int .i64 (chkF a)) ∧ Below w.heap.size w w' := by
  have hal : Below w.heap.size w (w.alloc (.cells #[(.slice pa0 a.P.length ca0), (.slice pa1 a.S.length ca1), (.slice pa2 a.W.length ca2)] 27)) := (Below.refl _ _).alloc (Nat.le_refl _) _
  have hA0 := Blk.new w #[(.slice pa0 a.P.length ca0), (.slice pa1 a.S.length ca1), (.slice pa2 a.W.length ca2)] 27
  have CS : Hid (Calls _ _ _ _ _) := psize_any a pa0 pa1 pa2 ca0 ca1 ca2 (w.alloc (.cells #[(.slice pa0 a.P.length ca0), (.slice pa1 a.S.length ca1), (.slice pa2 a.W.length ca2)] 27)) hl0 hl1 hl2
  have HW0 : Hid (Blk (w.alloc (.cells #[(.slice pa0 a.P.length ca0), (.slice pa1 a.S.length ca1), (.slice pa2 a.W.length ca2)] 27)) w.heap.size #[(.slice pa0 a.P.length ca0), (.slice pa1 a.S.length ca1), (.slice pa2 a.W.length ca2)] 27 ∧ Below w.heap.size w (w.alloc (.cells #[(.slice pa0 a.P.length ca0), (.slice pa1 a.S.length ca1), (.slice pa2 a.W.length ca2)] 27))) := ⟨hA0, hal⟩
  have HQ0 : Hid (RowP (w.alloc (.cells #[(.slice pa0 a.P.length ca0), (.slice pa1 a.S.length ca1), (.slice pa2 a.W.length ca2)] 27)) (w.alloc (.cells #[(.slice pa0 a.P.length ca0), (.slice pa1 a.S.length ca1), (.slice pa2 a.W.length ca2)] 27)).heap.size pa0 a.P ∧ RowS (w.alloc (.cells #[(.slice pa0 a.P.length ca0), (.slice pa1 a.S.length ca1), (.slice pa2 a.W.length ca2)] 27)) (w.alloc (.cells #[(.slice pa0 a.P.length ca0), (.slice pa1 a.S.length ca1), (.slice pa2 a.W.length ca2)] 27)).heap.size pa1 a.S ∧ RowP (w.alloc (.cells #[(.slice pa0 a.P.length ca0), (.slice pa1 a.S.length ca1), (.slice pa2 a.W.length ca2)] 27)) (w.alloc (.cells #[(.slice pa0 a.P.length ca0), (.slice pa1 a.S.length ca1), (.slice pa2 a.W.length ca2)] 27)).heap.size pa2 a.W) := ⟨hr0.on hal, hr1.on hal, hr2.on hal⟩
  have i0 := hA0.cell (i := 0) rfl
  have i1 := hA0.cell (i := 1) rfl
  have i2 := hA0.cell (i := 2) rfl
  have HST : Hid (∀ (j : Nat) (hj : j < a.S.length), j ≤ firstG (fun y : Sp => !plB y.t y.i) a.S → ((!plB a.S[j].t a.S[j].i) = true → firstG (fun y : Sp => !plB y.t y.i) a.S = j) ∧ ((!plB a.S[j].t a.S[j].i) = false → j + 1 ≤ firstG (fun y : Sp => !plB y.t y.i) a.S)) := firstG_step (fun y : Sp => !plB y.t y.i) a.S
  have HIF : Hid (firstG (fun y : Sp => !plB y.t y.i) a.S = a.S.length ↔ a.S.any (fun y : Sp => !plB y.t y.i) = false) := firstG_iff (fun y : Sp => !plB y.t y.i) a.S
  have HFL := firstG_le (fun y : Sp => !plB y.t y.i) a.S
  obtain ⟨r, hr⟩ : ∃ r, r = chkF a := ⟨_, rfl⟩
  have HRB : Hid (65536 < a.size → r = 2) := fun h => by rw [hr]; unfold chkF; rw [if_pos h]
  have HRES0 : Hid (¬ 65536 < a.size → (a.P.any (fun y : Pt => !plB y.t y.i) = true ∨ a.S.any (fun y : Sp => !plB y.t y.i) = true ∨ a.W.any (fun y : Pt => !plB y.t y.i) = true → r = 1) ∧ (a.P.any (fun y : Pt => !plB y.t y.i) = false → a.S.any (fun y : Sp => !plB y.t y.i) = false → a.W.any (fun y : Pt => !plB y.t y.i) = false → r = 0)) := fun h => by
    rw [hr]
    unfold chkF
    rw [if_neg h]
    refine ⟨fun h => ?_, fun h0 h1 h2 => by rw [h0, h1, h2]; rfl⟩
    rw [if_pos]
    simp only [Bool.or_eq_true]
    exact h
  rw [← hr]
  clear hr hal hA0 hr0 hr1 hr2
  generalize firstG (fun y : Sp => !plB y.t y.i) a.S = f1 at *
  have hsl : a.size ≤ 20000000000000 := by unfold Ft.size; omega
  generalize a.size = sz at *
  go_enter Tryz.func20, Tryz.ntmps20
  go_wp2_with fail
  refine CS.out.mono ?_
  rintro e wA ⟨rfl, hbA⟩
  have HW : Hid (Blk wA w.heap.size #[(.slice pa0 a.P.length ca0), (.slice pa1 a.S.length ca1), (.slice pa2 a.W.length ca2)] 27 ∧ Below w.heap.size w wA) := ⟨HW0.out.1.on hbA, HW0.out.2.trans (hbA.mono HW0.out.2.size)⟩
  have HQ : Hid (RowP wA wA.heap.size pa0 a.P ∧ RowS wA wA.heap.size pa1 a.S ∧ RowP wA wA.heap.size pa2 a.W) := ⟨HQ0.out.1.on hbA, HQ0.out.2.1.on hbA, HQ0.out.2.2.on hbA⟩
  clear hbA CS i0 i1 i2 HQ0 HW0
  by_cases hsz : 65536 < sz
  · have hr := HRB.out hsz
    go_wp2_with fail
    go_ret
    exact ⟨by rw [hr]; rfl, HW.out.2⟩
  · have HRES : Hid ((a.P.any (fun y : Pt => !plB y.t y.i) = true ∨ a.S.any (fun y : Sp => !plB y.t y.i) = true ∨ a.W.any (fun y : Pt => !plB y.t y.i) = true → r = 1) ∧ (a.P.any (fun y : Pt => !plB y.t y.i) = false → a.S.any (fun y : Sp => !plB y.t y.i) = false → a.W.any (fun y : Pt => !plB y.t y.i) = false → r = 0)) := HRES0.out hsz
    clear HRES0 HRB
    have CP : Hid (Calls _ _ _ _ _) := containsFP0_any 36 (fun y : Pt => !plB y.t y.i) a.P pa0 ca0 wA (fun args w => by rfl) HQ.out.1 hl0 (fun x w1 _ => isNowhere_any x w1)
    have g0 := HW.out.1.cell (i := 0) rfl
    cases hP : a.P.any (fun y : Pt => !plB y.t y.i)
    · rw [hP] at CP
      have HPF : Hid (a.P.any (fun y : Pt => !plB y.t y.i) = false) := hP
      clear hP
      go_wp2_with fail
      refine CP.out.mono ?_
      rintro e wP ⟨rfl, hbP⟩
      have HWP : Hid (Blk wP w.heap.size #[(.slice pa0 a.P.length ca0), (.slice pa1 a.S.length ca1), (.slice pa2 a.W.length ca2)] 27 ∧ Below w.heap.size w wP ∧ RowS wP wP.heap.size pa1 a.S) := ⟨HW.out.1.on hbP, HW.out.2.trans (hbP.mono HW.out.2.size), HQ.out.2.1.on hbP⟩
      have CW : Hid (Calls _ _ _ _ _) := containsFP0_any 36 (fun y : Pt => !plB y.t y.i) a.W pa2 ca2 wP (fun args w => by rfl) (HQ.out.2.2.on hbP) hl2 (fun x w1 _ => isNowhere_any x w1)
      have g2 := HWP.out.1.cell (i := 2) rfl
      clear hbP CP g0
      cases hW : a.W.any (fun y : Pt => !plB y.t y.i)
      · rw [hW] at CW
        have HWF : Hid (a.W.any (fun y : Pt => !plB y.t y.i) = false) := hW
        clear hW
        go_wp2_with fail
        refine CW.out.mono ?_
        rintro e wL ⟨rfl, hbL⟩
        have HWL : Hid (Blk wL w.heap.size #[(.slice pa0 a.P.length ca0), (.slice pa1 a.S.length ca1), (.slice pa2 a.W.length ca2)] 27 ∧ Below w.heap.size w wL ∧ RowS wL wL.heap.size pa1 a.S) := ⟨HWP.out.1.on hbL, HWP.out.2.1.trans (hbL.mono HWP.out.2.1.size), HWP.out.2.2.on hbL⟩
        have g1 := HWL.out.1.cell (i := 1) rfl
        clear hbL CW g2
        go_wp2_with fail
        go_loopw [19] (fun i wr => ∃ j : Nat, j ≤ f1 ∧ i = .int .i64 (j : Int) ∧ Hid (Below wL.heap.size wL wr)) (fun i _ => a.S.length - (intOf i).toNat)
        case atStart => exact ⟨0, Nat.zero_le _, by go_num, Below.refl _ _⟩
        case round =>
          clear g1
          obtain ⟨j, hj, rfl, HN⟩ := hrel
          have HE : Hid (Below w.heap.size w wr) := HWL.out.2.1.trans (HN.out.mono HWL.out.2.1.size)
          by_cases hj0 : j = a.S.length
          · subst hj0
            have hS := HIF.out.1 (by omega)
            have hr := HRES.out.2 HPF.out hS HWF.out
            go_wp2_with fail
            go_ret
            exact ⟨by rw [hr]; rfl, HE.out⟩
          · have hj1 : j < a.S.length := by omega
            obtain ⟨b, o, hp, hbB, c0, c1, c2, c3, c4⟩ := (HWL.out.2.2.on HN.out) j hj1
            have hst := HST.out j hj1 hj
            subst hp
            clear hj0
            generalize a.S[j] = y at *
            have hal : Below wr.heap.size wr (wr.alloc (.cells #[.int .i64 y.t, .int .i64 y.i, .string y.lo, .string y.hi, .bool y.op] 86)) := (Below.refl _ _).alloc (Nat.le_refl _) _
            have HAL : Hid (Below wr.heap.size wr (wr.alloc (.cells #[.int .i64 y.t, .int .i64 y.i, .string y.lo, .string y.hi, .bool y.op] 86))) := hal
            have hY := Blk.new wr #[.int .i64 y.t, .int .i64 y.i, .string y.lo, .string y.hi, .bool y.op] 86
            have y0 := hY.cell (i := 0) rfl
            have y1 := hY.cell (i := 1) rfl
            have y2 := hY.cell (i := 2) rfl
            have y3 := hY.cell (i := 3) rfl
            have y4 := hY.cell (i := 4) rfl
            have CB : Hid (Calls _ _ _ _ _) := begin_any y (wr.alloc (.cells #[.int .i64 y.t, .int .i64 y.i, .string y.lo, .string y.hi, .bool y.op] 86))
            clear hal hY
            go_wp2_with fail
            refine CB.out.mono ?_
            rintro e wX ⟨rfl, hbX⟩
            have HX : Hid (Below wr.heap.size wr wX) := HAL.out.trans (hbX.mono HAL.out.size)
            have CN : Hid (Calls Tryz.prog 36 #[PV (bgn y)] wX fun e w' => e = .returned (.bool (!plB y.t y.i)) ∧ Below wX.heap.size wX w') := isNowhere_any (bgn y) wX
            clear hbX CB y0 y1 y2 y3 y4 c0 c1 c2 c3 c4
            cases hpl : !plB y.t y.i
            · have hlt := hst.2 hpl
              rw [hpl] at CN
              clear hst hpl
              go_wp2_with fail
              refine CN.out.mono ?_
              rintro e wY ⟨rfl, hbY⟩
              have HNY : Hid (Below wL.heap.size wL wY) := (HN.out.trans (HX.out.mono HN.out.size)).trans (hbY.mono (Nat.le_trans HN.out.size HX.out.size))
              clear hbY CN
              go_wp2_with fail
              go_roundw
              case rel => exact ⟨j + 1, hlt, by go_num, HNY.out⟩
              case measure => simp [intOf]; omega
            · have hf := hst.1 hpl
              have hS : a.S.any (fun y : Sp => !plB y.t y.i) = true := by
                cases h : a.S.any (fun y : Sp => !plB y.t y.i)
                · have := HIF.out.2 h; omega
                · rfl
              have hr := HRES.out.1 (.inr (.inl hS))
              rw [hpl] at CN
              clear hst hpl hS
              go_wp2_with fail
              refine CN.out.mono ?_
              rintro e wY ⟨rfl, hbY⟩
              have HEY : Hid (Below w.heap.size w wY) := (HE.out.trans (HX.out.mono HE.out.size)).trans (hbY.mono (Nat.le_trans HE.out.size HX.out.size))
              clear hbY CN
              go_wp2_with fail
              go_ret
              exact ⟨by rw [hr]; rfl, HEY.out⟩
      · rw [hW] at CW
        have hr := HRES.out.1 (.inr (.inr hW))
        clear hW
        go_wp2_with fail
        refine CW.out.mono ?_
        rintro e wL ⟨rfl, hbL⟩
        have HEL : Hid (Below w.heap.size w wL) := HWP.out.2.1.trans (hbL.mono HWP.out.2.1.size)
        clear hbL CW g2
        go_wp2_with fail
        go_ret
        exact ⟨by rw [hr]; rfl, HEL.out⟩
    · rw [hP] at CP
      have hr := HRES.out.1 (.inl hP)
      clear hP
      go_wp2_with fail
      refine CP.out.mono ?_
      rintro e wL ⟨rfl, hbL⟩
      have HEL : Hid (Below w.heap.size w wL) := HW.out.2.trans (hbL.mono HW.out.2.size)
      clear hbL CP g0
      go_wp2_with fail
      go_ret
      exact ⟨by rw [hr]; rfl, HEL.out⟩
theorem check_any (a : Ft) (X0 X1 X2 : Value) (w : World) (ha : RdF w X0 X1 X2 a) :
    Calls Tryz.prog 20 #[.agg #[X0, X1, X2]] w fun e w' => e = .returned (.int .i64 (chkF a)) ∧ Below w.heap.size w w' := by
  obtain ⟨p0, c0, rfl, _, _, h0⟩ := ha.p.f
  obtain ⟨p1, c1, rfl, _, _, h1⟩ := ha.s.f
  obtain ⟨p2, c2, rfl, _, _, h2⟩ := ha.w.f
  exact check_core a p0 p1 p2 c0 c1 c2 w h0 h1 h2 ha.lp ha.ls ha.lw

end

end Go.Proofs.YtcknhjabdjbjiabGreat
