/- Of each span the first of the points that are in it. A statement that draws its order and writes last: what it reads may be taken first, though its last operation writes there. Where what one wrote was read by another one: Clash. -/
import Derived.Test.YtcknhjabdjbjiaaGreatProg
import Derived.WalkKit
import Derived.Deep.RegionHeld3
import Derived.Test.YtcknhjabdjbjiaaGreatGWCl1
namespace Go.Proofs.YtcknhjabdjbjiaaGreat
open Go.RowKit
set_option maxRecDepth 100000

theorem RowS.frm {w w' : World} {F : Nat → Prop} {p : Option Addr} {L : List Sp} (h : RowS w w.heap.size p L) (hf : Frm w w' F) (hn : ∀ b o, p = some ⟨b, o, none⟩ → b < w.heap.size → L ≠ [] → ¬ F b) : RowS w' w'.heap.size p L := by
  intro i hi
  obtain ⟨b, o, e, hb, c0, c1, c2, c3, c4⟩ := h i hi
  have k : ∀ q, w'.cell? ⟨b, q, none⟩ = w.cell? ⟨b, q, none⟩ := fun q => cell_block (hf.block b hb (hn b o e hb (List.ne_nil_of_length_pos (by omega))))
  exact ⟨b, o, e, Nat.lt_of_lt_of_le hb hf.size, (k _).trans c0, (k _).trans c1, (k _).trans c2, (k _).trans c3, (k _).trans c4⟩
theorem OwnP.frm {w w' : World} {F : Nat → Prop} {B : Nat} {v : Value} {L : List Pt} (h : OwnP w B v L) (hf : Frm w w' F) (hn : ∀ b, B ≤ b → ¬ F b) : OwnP w' B v L := by
  refine ⟨h.1, ?_⟩
  rcases h.2 with h1 | ⟨g, cap, cur, e, hb', hg, r⟩
  · exact .inl h1
  · exact .inr ⟨g, cap, cur, e, hb', (hf.block g (Array.getElem?_eq_some_iff.1 hg).1 (hn g hb')).trans hg, r⟩
/-- spans one more: the first point at or behind its beginning is shown, if it is in it -/
theorem span_step {S : Pt → Prop} {W R : List Pt} {o : Option Pt} {i : Nat} {s : Sp} (hM : IsMin S o) (hI : RisP R) (hm : ∀ x, x ∈ R ↔ x ∈ W) (h1 : ∀ k (hk : k < R.length), k < i → ltP R[k] (bgn s) = true) (h2 : ∀ k (hk : k < R.length), i ≤ k → ltP R[k] (bgn s) = false) :
    (∀ (hi : i < R.length), inS R[i] s = true → IsMin (fun x => S x ∨ (x ∈ W ∧ inS x s = true)) (minO o R[i])) ∧ ((∀ (hi : i < R.length), inS R[i] s = false) → IsMin (fun x => S x ∨ (x ∈ W ∧ inS x s = true)) o) := by
  have key : ∀ x, x ∈ W → inS x s = true → ∃ hi : i < R.length, ltP x R[i] = false ∧ inS R[i] s = true := by
    intro x hx hs
    obtain ⟨k, hk, rfl⟩ := List.getElem_of_mem ((hm x).2 hx)
    have hik : i ≤ k := by
      rcases Nat.lt_or_ge k i with h | h
      · have h3 := h1 k hk h
        rw [inS_ge hs] at h3
        cases h3
      · exact h
    have hi : i < R.length := by omega
    have hle : ltP R[k] R[i] = false := by
      rcases Nat.lt_or_eq_of_le hik with h | h
      · exact ltP_asymm (hI.lt h hk)
      · subst h; exact ltP_irrefl _
    exact ⟨hi, hle, inS_mid (h2 i hi (Nat.le_refl _)) hle hs⟩
  constructor
  · intro hi hs
    refine (hM.add R[i]).more (fun x hx => ?_) (fun x hx => ?_)
    · rcases hx with h | rfl
      · exact .inl h
      · exact .inr ⟨(hm _).1 (List.getElem_mem hi), hs⟩
    · rcases hx with h | ⟨h, h'⟩
      · exact ⟨x, .inl h, ltP_irrefl _⟩
      · obtain ⟨_, h3, _⟩ := key x h h'
        exact ⟨R[i], .inr rfl, h3⟩
  · intro hn
    refine hM.ext (fun x => ⟨.inl, fun hx => ?_⟩)
    rcases hx with h | ⟨h, h'⟩
    · exact h
    · obtain ⟨hi, _, h3⟩ := key x h h'
      rw [hn hi] at h3
      cases h3

set_option maxHeartbeats 8000000 in
theorem seeSpanned_any (S : Pt → Prop) (o : Option Pt) (Q : List Sp) (W : List Pt) (ps : Option Addr) (cs lb : Nat) (vw : Value) (w : World) (hM : IsMin S o) (hL : Blk w lb (lC o) 90) (hQ : RowS w w.heap.size ps Q) (hW : SlP w vw W)
    (hlq : Q.length ≤ 2513169434916) (hlw : W.length ≤ 4398046511104) (hns : ∀ b o, ps = some ⟨b, o, none⟩ → Q ≠ [] → ¬ b = lb) :
    Calls Tryz.prog 43 #[ptr1 lb, .slice ps Q.length cs, vw] w fun e w' => e = .returned (.tuple #[]) ∧ ∃ o', IsMin (fun x => S x ∨ (x ∈ W ∧ ∃ s ∈ Q, inS x s = true)) o' ∧ Blk w' lb (lC o') 90 ∧ Frm w w' (fun k => k = lb) := by
  have HL : Hid (Blk w lb (lC o) 90) := hL
  have HM : Hid (IsMin S o) := hM
  have HQ : Hid (RowS w w.heap.size ps Q) := hQ
  have HNS : Hid (∀ b o, ps = some ⟨b, o, none⟩ → Q ≠ [] → ¬ b = lb) := hns
  by_cases hq0 : Q = []
  · subst hq0
    clear hL hM hQ hW hns
    go_enter Tryz.func43, Tryz.ntmps43
    go_wp2_with fail
    go_returns
    exact ⟨rfl, o, HM.out.ext (fun x => by simp), HL.out, Frm.refl _ _⟩
  · have hql : ¬ (Q.length : Int) = 0 := by
      have := List.length_pos_iff.2 hq0
      omega
    have hqd : ((Q.length : Int) == 0) = false := by simpa using hql
    have C1 : Hid (Calls Tryz.prog 67 #[vw] w fun e w' => ∃ (v' : Value) (R : List Pt), e = .returned v' ∧ OwnP w' w.heap.size v' R ∧ RisP R ∧ (∀ x, x ∈ R ↔ x ∈ W) ∧ R.length ≤ W.length ∧ Below w.heap.size w w') := inOrder_any W vw w hW hlw
    obtain ⟨ql, hqL⟩ : ∃ ql, ql = Q.length := ⟨_, rfl⟩
    rw [← hqL] at hqd hlq ⊢
    have HqL : Hid (ql = Q.length) := hqL
    clear hL hM hQ hW hns hql hq0 hqL
    go_enter Tryz.func43, Tryz.ntmps43
    go_wp2_with fail
    refine C1.out.mono ?_
    rintro e w1 ⟨v', R, rfl, hO, hI, hm, hl, hb1⟩
    have hz1 := hb1.size
    have HO : Hid (OwnP w1 w.heap.size v' R ∧ RisP R ∧ (∀ x, x ∈ R ↔ x ∈ W) ∧ R.length ≤ 4398046511104 ∧ Below w.heap.size w w1) := ⟨hO, hI, hm, by omega, hb1⟩
    obtain ⟨pr, cr, hv, hRow⟩ := hO.row
    subst hv
    have HRr : Hid (RowP w1 w1.heap.size pr R) := hRow
    have HRb : Hid (∀ b o, pr = some ⟨b, o, none⟩ → w.heap.size ≤ b) := fun b o e => by
      rcases hO.form with ⟨h, _⟩ | ⟨g, cap, h, hg, _⟩
      · obtain ⟨h9, -, -⟩ := Value.slice.inj h
        rw [h9] at e
        cases e
      · obtain ⟨h9, -, -⟩ := Value.slice.inj h
        rw [h9] at e
        cases e
        exact hg
    have HLB : Hid (lb < w.heap.size) := HL.out.lt
    have HL1 : Hid (Blk w1 lb (lC o) 90) := HL.out.on hb1
    have HQ1 : Hid (RowS w1 w1.heap.size ps Q) := HQ.out.on hb1
    have hrl : R.length ≤ 4398046511104 := by omega
    clear hO hI hm hl hb1 C1 hRow HL HQ hz1
    go_wp2_with fail
    go_loopw [18] (fun i wr => ∃ (j : Nat) (o2 : Option Pt), j ≤ ql ∧ i = .int .i64 (j : Int) ∧ Hid (IsMin (fun x => S x ∨ (x ∈ W ∧ ∃ s ∈ Q.take j, inS x s = true)) o2) ∧ Hid (Blk wr lb (lC o2) 90) ∧ Hid (Frm w1 wr (fun k => k = lb))) (fun i _ => ql - (intOf i).toNat)
    case atStart => exact ⟨0, o, Nat.zero_le _, by go_num, HM.out.ext (fun x => by simp), HL1.out, Frm.refl _ _⟩
    case round =>
      obtain ⟨j, o2, hj, rfl, HM2, HB2, HFr⟩ := hrel
      by_cases hj0 : j = ql
      · subst hj0
        go_wp2_with fail
        go_returns
        refine ⟨rfl, o2, HM2.out.ext (fun x => by rw [HqL.out, List.take_of_length_le (Nat.le_refl _)]), HB2.out, ?_⟩
        exact (Frm.of_below (F := fun k => k = lb) HO.out.2.2.2.2).trans HFr.out (fun k hk => .inl hk)
      · have hj1 : j < ql := by omega
        have hjQ : j < Q.length := by have := HqL.out; omega
        obtain ⟨b, q, hp, hb, c0, c1, c2, c3, c4⟩ := (HQ1.out.frm HFr.out (fun b o e _ hne hb => HNS.out b o e hne hb)) j hjQ
        have hmt := take_mem Q j hjQ
        obtain ⟨s, hs⟩ : ∃ s, s = Q[j] := ⟨_, rfl⟩
        rw [← hs] at c0 c1 c2 c3 c4 hmt
        have HMT : Hid (∀ y, y ∈ Q.take (j + 1) ↔ y ∈ Q.take j ∨ y = s) := hmt
        clear hs hmt
        have hal : Below wr.heap.size wr (wr.alloc (.cells #[.int .i64 s.t, .int .i64 s.i, .string s.lo, .string s.hi, .bool s.op] 103)) := (Below.refl _ _).alloc (Nat.le_refl _) _
        have hz2 : (wr.alloc (.cells #[.int .i64 s.t, .int .i64 s.i, .string s.lo, .string s.hi, .bool s.op] 103)).heap.size = wr.heap.size + 1 := by simp
        have hP := Blk.new wr #[.int .i64 s.t, .int .i64 s.i, .string s.lo, .string s.hi, .bool s.op] 103
        have p0 := hP.cell (i := 0) rfl
        have p1 := hP.cell (i := 1) rfl
        have p2 := hP.cell (i := 2) rfl
        have p3 := hP.cell (i := 3) rfl
        have p4 := hP.cell (i := 4) rfl
        have HP : Hid (Blk (wr.alloc (.cells #[.int .i64 s.t, .int .i64 s.i, .string s.lo, .string s.hi, .bool s.op] 103)) wr.heap.size #[.int .i64 s.t, .int .i64 s.i, .string s.lo, .string s.hi, .bool s.op] 103 ∧ (wr.alloc (.cells #[.int .i64 s.t, .int .i64 s.i, .string s.lo, .string s.hi, .bool s.op] 103)).heap.size = wr.heap.size + 1) := ⟨hP, hz2⟩
        have HA : Hid (Frm w1 (wr.alloc (.cells #[.int .i64 s.t, .int .i64 s.i, .string s.lo, .string s.hi, .bool s.op] 103)) (fun k => k = lb)) := HFr.out.trans (Frm.of_below (F := fun k => k = lb) hal) (fun k hk => .inl hk)
        have HB3 : Hid (Blk (wr.alloc (.cells #[.int .i64 s.t, .int .i64 s.i, .string s.lo, .string s.hi, .bool s.op] 103)) lb (lC o2) 90) := HB2.out.on hal
        subst hp
        clear hal hz2 hP HFr HB2
        have CB : Hid (∀ w5 : World, Calls Tryz.prog 52 #[.agg #[.int .i64 s.t, .int .i64 s.i, .string s.lo, .string s.hi, .bool s.op]] w5 fun e w' => e = .returned (PV (bgn s)) ∧ Below w5.heap.size w5 w') := fun w5 => begin_any s w5
        go_wp2_with fail
        generalize (wr.alloc (.cells #[.int .i64 s.t, .int .i64 s.i, .string s.lo, .string s.hi, .bool s.op] 103)) = wB at *
        refine (CB.out _).mono ?_
        rintro e w5 ⟨rfl, hb5⟩
        have HA5 : Hid (Frm w1 w5 (fun k => k = lb)) := HA.out.trans (Frm.of_below (F := fun k => k = lb) hb5) (fun k hk => .inl hk)
        have HR5 : Hid (RowP w5 w5.heap.size pr R) := HRr.out.frm HA5.out (fun b o e _ _ hb => by have := HRb.out b o e; have := HLB.out; omega)
        have HP5 : Hid (Blk w5 wr.heap.size #[.int .i64 s.t, .int .i64 s.i, .string s.lo, .string s.hi, .bool s.op] 103) := HP.out.1.on hb5
        have HB5 : Hid (Blk w5 lb (lC o2) 90) := HB3.out.on hb5
        have CS : Hid (Calls Tryz.prog 68 #[.slice pr R.length cr, PV (bgn s), .func (.func 69) #[] #[]] w5 fun e w' => ∃ (i : Nat) (b : Bool), e = .returned (.tuple #[.int .i64 (i : Nat), .bool b]) ∧ i ≤ R.length ∧ (∀ k (hk : k < R.length), k < i → ltP R[k] (bgn s) = true) ∧ (∀ k (hk : k < R.length), i ≤ k → ltP R[k] (bgn s) = false) ∧ Below w5.heap.size w5 w') := bsP_any R pr cr (bgn s) w5 HR5.out HO.out.2.1 HO.out.2.2.2.1
        clear hb5 HA HB3 HP p0 p1 p2 p3 p4 c0 c1 c2 c3 c4 CB
        go_wp2_with fail
        refine CS.out.mono ?_
        rintro e w6 ⟨i, bo, rfl, hi, h1, h2, hb6⟩
        have hst := span_step HM2.out HO.out.2.1 HO.out.2.2.1 h1 h2
        have HA6 : Hid (Frm w1 w6 (fun k => k = lb)) := HA5.out.trans (Frm.of_below (F := fun k => k = lb) hb6) (fun k hk => .inl hk)
        have HR6 : Hid (RowP w6 w6.heap.size pr R) := HR5.out.on hb6
        have HP6 : Hid (Blk w6 wr.heap.size #[.int .i64 s.t, .int .i64 s.i, .string s.lo, .string s.hi, .bool s.op] 103) := HP5.out.on hb6
        have HB6 : Hid (Blk w6 lb (lC o2) 90) := HB5.out.on hb6
        have HEX : Hid (∀ x, ((S x ∨ (x ∈ W ∧ ∃ y ∈ Q.take j, inS x y = true)) ∨ (x ∈ W ∧ inS x s = true)) ↔ (S x ∨ (x ∈ W ∧ ∃ y ∈ Q.take (j + 1), inS x y = true))) := fun x => by
          constructor
          · rintro ((h | ⟨h, y, hy, h'⟩) | ⟨h, h'⟩)
            · exact .inl h
            · exact .inr ⟨h, y, (HMT.out y).2 (.inl hy), h'⟩
            · exact .inr ⟨h, s, (HMT.out s).2 (.inr rfl), h'⟩
          · rintro (h | ⟨h, y, hy, h'⟩)
            · exact .inl (.inl h)
            · rcases (HMT.out y).1 hy with h9 | rfl
              · exact .inl (.inr ⟨h, y, h9, h'⟩)
              · exact .inr ⟨h, h'⟩
        clear h1 h2 hb6 HA5 HR5 HP5 HB5 CS HM2 HMT
        have s0 := InB.cell (w := w6) (HP6.out.cell (i := 0) rfl) HP6.out.lt
        have s1 := InB.cell (w := w6) (HP6.out.cell (i := 1) rfl) HP6.out.lt
        have s2 := InB.cell (w := w6) (HP6.out.cell (i := 2) rfl) HP6.out.lt
        have s3 := InB.cell (w := w6) (HP6.out.cell (i := 3) rfl) HP6.out.lt
        have s4 := InB.cell (w := w6) (HP6.out.cell (i := 4) rfl) HP6.out.lt
        have ne1 := inB_ne w6
        by_cases hiR : i < R.length
        · obtain ⟨b9, q9, hp9, hb9, d0, d1, d2⟩ := HR6.out i hiR
          have r0 := InB.cell (w := w6) d0 hb9
          have r1 := InB.cell (w := w6) d1 hb9
          have r2 := InB.cell (w := w6) d2 hb9
          have gl : decide ((i : Int) < (R.length : Int)) = true := by simp; omega
          have CI : Hid (∀ w7 : World, Calls Tryz.prog 70 #[PV R[i], .agg #[.int .i64 s.t, .int .i64 s.i, .string s.lo, .string s.hi, .bool s.op]] w7 fun e w' => e = .returned (.bool (inS R[i] s)) ∧ Below w7.heap.size w7 w') := fun w7 => isIn_any R[i] s w7
          have hst1 := hst.1 hiR
          have hst2 : inS R[i] s = false → IsMin (fun x => (S x ∨ (x ∈ W ∧ ∃ y ∈ Q.take j, inS x y = true)) ∨ (x ∈ W ∧ inS x s = true)) o2 := fun h => hst.2 (fun _ => h)
          subst hp9
          obtain ⟨x, hx⟩ : ∃ x, x = R[i] := ⟨_, rfl⟩
          rw [← hx] at hst1 hst2 CI r0 r1 r2 d0 d1 d2
          have HD : Hid (w6.cell? ⟨b9, q9 + i * 3, none⟩ = some (.int .i64 x.t) ∧ w6.cell? ⟨b9, q9 + i * 3 + 1, none⟩ = some (.int .i64 x.i) ∧ w6.cell? ⟨b9, q9 + i * 3 + 2, none⟩ = some (.string x.k) ∧ b9 < w6.heap.size) := ⟨d0, d1, d2, hb9⟩
          clear hst hx d0 d1 d2 hb9
          cases hin : inS x s
          · rw [hin] at CI
            have HMN : Hid (IsMin (fun x => S x ∨ (x ∈ W ∧ ∃ y ∈ Q.take (j + 1), inS x y = true)) o2) := (hst2 hin).ext HEX.out
            clear hst1 hst2 HEX hin
            go_wp2_with fail
            refine wp_region_inB (by kernel_rfl) (by kernel_rfl) ?_
            repeat (go_big_quiet_step (first
              | (go_at_call 70; exact Calls.inB (CI.out _))))
            refine wpQuiet_nil ?_
            rintro w7 ⟨⟨w8, hb7⟩, h9⟩
            obtain rfl : w7 = w8 := h9
            clear s0 s1 s2 s3 s4 r0 r1 r2 ne1 CI
            go_wp2_with fail
            go_roundw
            case rel => exact ⟨j + 1, o2, by omega, by go_num, HMN.out, HB6.out.on hb7, HA6.out.trans (Frm.of_below (F := fun k => k = lb) hb7) (fun k hk => .inl hk)⟩
            case measure => simp [intOf]; omega
          · rw [hin] at CI
            have HMN : Hid (IsMin (fun x => S x ∨ (x ∈ W ∧ ∃ y ∈ Q.take (j + 1), inS x y = true)) (minO o2 x)) := (hst1 hin).ext HEX.out
            clear hst1 hst2 HEX hin
            go_wp2_with fail
            refine wp_region_inB (by kernel_rfl) (by kernel_rfl) ?_
            repeat (go_big_quiet_step (first
              | (go_at_call 70; exact Calls.inB (CI.out _))))
            refine wpQuiet_nil ?_
            rintro w7 ⟨⟨w8, hb7⟩, h9⟩
            obtain rfl : w7 = w8 := h9
            clear s0 s1 s2 s3 s4 r0 r1 r2 ne1 CI
            have d0 := (hb7.cell (p := ⟨b9, q9 + i * 3, none⟩) HD.out.2.2.2).trans HD.out.1
            have d1 := (hb7.cell (p := ⟨b9, q9 + i * 3 + 1, none⟩) HD.out.2.2.2).trans HD.out.2.1
            have d2 := (hb7.cell (p := ⟨b9, q9 + i * 3 + 2, none⟩) HD.out.2.2.2).trans HD.out.2.2.1
            have CC : Hid (Calls Tryz.prog 66 #[ptr1 lb, PV x] w7 fun e w' => e = .returned (.tuple #[]) ∧ Blk w' lb (lC (minO o2 x)) 90 ∧ Frm w7 w' (fun k => k = lb)) := see_any o2 x lb w7 (HB6.out.on hb7)
            have HA7 : Hid (Frm w1 w7 (fun k => k = lb)) := HA6.out.trans (Frm.of_below (F := fun k => k = lb) hb7) (fun k hk => .inl hk)
            clear hb7 HD HA6 HB6 HR6 HP6
            go_wp2_with fail
            refine CC.out.mono ?_
            rintro e w9 ⟨rfl, hb9, hf9⟩
            have HB9 : Hid (Blk w9 lb (lC (minO o2 x)) 90) := hb9
            have HA9 : Hid (Frm w1 w9 (fun k => k = lb)) := HA7.out.trans hf9 (fun k hk => .inl hk)
            clear hb9 hf9 CC d0 d1 d2
            go_wp2_with fail
            go_roundw
            case rel => exact ⟨j + 1, minO o2 x, by omega, by go_num, HMN.out, HB9.out, HA9.out⟩
            case measure => simp [intOf]; omega
        · have gl : decide ((i : Int) < (R.length : Int)) = false := by simp; omega
          have gl2 : decide (i < R.length) = false := decide_eq_false hiR
          have HMN : Hid (IsMin (fun x => S x ∨ (x ∈ W ∧ ∃ y ∈ Q.take (j + 1), inS x y = true)) o2) := (hst.2 (fun h => absurd h hiR)).ext HEX.out
          clear hst HEX hiR
          go_wp2_with fail
          refine wp_region_inB (by kernel_rfl) (by kernel_rfl) ?_
          repeat (go_big_quiet_step (first
            | (go_at_call 70; fail)))
          refine wpQuiet_nil ?_
          rintro w7 ⟨⟨w8, hb7⟩, h9⟩
          obtain rfl : w7 = w8 := h9
          clear s0 s1 s2 s3 s4 ne1
          go_wp2_with fail
          go_roundw
          case rel => exact ⟨j + 1, o2, by omega, by go_num, HMN.out, HB6.out.on hb7, HA6.out.trans (Frm.of_below (F := fun k => k = lb) hb7) (fun k hk => .inl hk)⟩
          case measure => simp [intOf]; omega

end Go.Proofs.YtcknhjabdjbjiaaGreat

namespace Go.Proofs.YtcknhjabdjbjiaaGreat
open Go.RowKit
set_option maxRecDepth 100000

/-- the operation at a place -/
def nthO : List Oper → Nat → Option Oper
  | [], _ => none
  | o :: _, 0 => some o
  | _ :: l, i + 1 => nthO l i
theorem nthO_eq : ∀ (l : List Oper) (i : Nat), nthO l i = l[i]?
  | [], _ => rfl
  | _ :: _, 0 => rfl
  | _ :: l, i + 1 => by rw [nthO, nthO_eq l i]; rfl
theorem nthO_at {ops : Array Oper} {i : Nat} {o : Oper} (h : nthO ops.toList i = some o) : ops[i]? = some o := by
  rw [nthO_eq] at h
  simpa using h

section
variable {P : Program} {ops : Array Oper} {Q : Exit → Act → World → Prop} {S : World → Prop} {m : Nat}

/-- whatever order is drawn; S holds behind every operation but number m -/
def wpL (P : Program) (ops : Array Oper) (Q : Exit → Act → World → Prop) (S : World → Prop) (m : Nat) : Nat → Array Bool → Act → World → Prop
  | 0, listed, a, w => Region.ready .any ops listed = [] ∧ Q .normal a w
  | fuel + 1, listed, a, w => (Region.ready .any ops listed = [] → Q .normal a w) ∧
    ∀ i ∈ Region.ready .any ops listed, wpOp P ops Q i (fun a' w' => (i ≠ m → S w') ∧ wpL P ops Q S m fuel (listed.setIfInBounds i true) a' w') a w
theorem wpAny_of_L : ∀ (fuel : Nat) (listed : Array Bool) (a : Act) (w : World), wpL P ops Q S m fuel listed a w → wpAny P .any ops Q fuel listed a w
  | 0, _, _, _, h => h
  | fuel + 1, _, _, _, h => ⟨h.1, fun i hi => wpOp_mono (fun a' w' h' => wpAny_of_L fuel _ a' w' h'.2) (h.2 i hi)⟩
/-- operation m waits for operation i -/
def gateB (ops : Array Oper) (m i : Nat) : Bool := match ops[m]? with
  | some o => o.after.toList.any fun e => Region.binds .any e && e.on == i
  | none => true
theorem gate_no {i j : Nat} {listed : Array Bool} (hg : gateB ops m i = true) (hi : i ∈ Region.ready .any ops listed) (hj : j ∈ Region.ready .any ops listed) : j ≠ m := by
  intro e
  subst e
  obtain ⟨_, o, ho, hall⟩ := mem_ready.1 hj
  unfold gateB at hg
  rw [ho] at hg
  obtain ⟨e, he, hb⟩ := List.any_eq_true.1 hg
  simp only [Bool.and_eq_true, beq_iff_eq] at hb
  have h1 := hall e (by simpa using he) hb.1
  rw [hb.2] at h1
  have h0 := (mem_ready.1 hi).1
  rcases Nat.lt_or_ge i listed.size with h' | h'
  · simp [h'] at h0 h1
    rw [h0] at h1
    cases h1
  · simp [Array.getElem?_eq_none h'] at h1
theorem wpL_first {i : Nat} {oi : Oper} {v : Value} (hi : ops[i]? = some oi) (hsel : ∀ (j : Nat) (o : Oper) cs b, ops[j]? = some o → o.op ≠ .select cs b)
    (hQ : ∀ c a w, Q (.panic c) (a.put oi.dst v) w → Q (.panic c) a w) (hg : gateB ops m i = true) :
    ∀ (fuel : Nat) (listed : Array Bool) (a : Act) (w : World),
      (∀ j oj, ops[j]? = some oj → j ≠ i → listed.getD j true = false → (∀ e ∈ oj.after, Region.binds .any e = true → e.on ≠ i) → oi.apart ops oj = true) →
      i ∈ Region.ready .any ops listed → YieldsIf P ops S oi v a → S w →
      wpL P ops Q S m fuel (listed.setIfInBounds i true) (a.put oi.dst v) w → wpL P ops Q S m (fuel + 1) listed a w := by
  intro fuel
  induction fuel with
  | zero =>
    intro listed a w _ hr hy hS H
    refine ⟨fun h => (by rw [h] at hr; cases hr), fun j hj => ?_⟩
    by_cases hji : j = i
    · subst hji
      exact hy.wpOp hi hS ⟨fun _ => hS, H⟩
    · have := ready_mono hj hji
      rw [H.1] at this
      cases this
  | succ fuel ih =>
    intro listed a w hfree hr hy hS H
    refine ⟨fun h => (by rw [h] at hr; cases hr), fun j hj => ?_⟩
    by_cases hji : j = i
    · subst hji
      exact hy.wpOp hi hS ⟨fun _ => hS, H⟩
    · have hjm := gate_no hg hr hj
      have h1 := H.2 j (ready_mono hj hji)
      obtain ⟨hjun, oj, hoj, hall⟩ := mem_ready.1 hj
      have hnot : ∀ e ∈ oj.after, Region.binds .any e = true → e.on ≠ i := fun e he hb heq => by
        have h1 := hall e he hb
        have h0 := (mem_ready.1 hr).1
        rw [heq] at h1
        rcases Nat.lt_or_ge i listed.size with h' | h'
        · simp [h'] at h0 h1
          rw [h0] at h1
          cases h1
        · simp [Array.getElem?_eq_none h'] at h1
      have h2 := wpOp_putIf hoj (hfree j oj hoj hji hjun hnot) (fun cs b => hsel i oi cs b hi) (fun cs b => hsel j oj cs b hoj) hQ hy h1
      have hfree' : ∀ k ok, ops[k]? = some ok → k ≠ i → (listed.setIfInBounds j true).getD k true = false →
          (∀ e ∈ ok.after, Region.binds .any e = true → e.on ≠ i) → oi.apart ops ok = true := fun k ok hk hki hun hno => by
        refine hfree k ok hk hki ?_ hno
        by_cases hjk : j = k
        · subst hjk
          exact hjun
        · rw [getD_set_ne true hjk] at hun
          exact hun
      refine wpOp_mono (fun a' w' h3 => ⟨fun _ => h3.2.1 hjm, ih (listed.setIfInBounds j true) a' w' hfree' (ready_mono hr (Ne.symm hji)) h3.1 (h3.2.1 hjm) ?_⟩) h2
      rw [Array.setIfInBounds_comm _ _ hji]
      exact h3.2.2
/-- may number i be taken first? -/
def takeB (ops : Array Oper) (listed : Array Bool) (m i : Nat) : Bool := Region.noSelect ops && Region.free .any ops listed i && (Region.ready .any ops listed).contains i && gateB ops m i
/-- it is taken first -/
theorem wpL_take (i : Nat) {oi : Oper} {v : Value} {fuel : Nat} {listed : Array Bool} {a : Act} {w : World} (hi : nthO ops.toList i = some oi) (hb : takeB ops listed m i = true)
    (hQ : ∀ c a w, Q (.panic c) (a.put oi.dst v) w → Q (.panic c) a w) (hw : Region.wanted oi (yielded ops a.tmps) = true) (hy : ∀ w, S w → (execOp a.eval oi).run P w = .ok (.value v) w) (hS : S w)
    (h : wpL P ops Q S m fuel (listed.setIfInBounds i true) (a.put oi.dst v) w) : wpL P ops Q S m (fuel + 1) listed a w := by
  unfold takeB at hb
  simp only [Bool.and_eq_true] at hb
  obtain ⟨⟨⟨h1, h2⟩, h3⟩, h4⟩ := hb
  exact wpL_first (nthO_at hi) (Region.noSelect_spec h1) hQ h4 fuel listed a w (Region.free_spec (nthO_at hi) h2) (by simpa using h3) (.inl ⟨hw, hy⟩) hS h
/-- only number i can come up -/
theorem wpL_one (i : Nat) {oi : Oper} {fuel : Nat} {listed : Array Bool} {a : Act} {w : World} (hi : nthO ops.toList i = some oi) (hr : Region.ready .any ops listed = [i]) (hw : Region.wanted oi (yielded ops a.tmps) = true)
    (h : ∀ K : Act → World → Prop, Hid (∀ a' w', (i ≠ m → S w') → wpL P ops Q S m fuel (listed.setIfInBounds i true) a' w' → K a' w') → oi.wp P a w K Q) : wpL P ops Q S m (fuel + 1) listed a w := by
  refine ⟨fun h0 => (by rw [hr] at h0; cases h0), fun j hj => ?_⟩
  rw [hr] at hj
  have e : j = i := by simpa using hj
  subst e
  unfold wpOp
  simp only [nthO_at hi, hw, if_true]
  exact .inl (h _ (show ∀ a' w', _ → _ → _ from fun a' w' h1 h2 => ⟨h1, h2⟩))
theorem wpL_done {listed : Array Bool} {a : Act} {w : World} (hr : Region.ready .any ops listed = []) (h : Q .normal a w) : ∀ fuel, wpL P ops Q S m fuel listed a w
  | 0 => ⟨hr, h⟩
  | _ + 1 => ⟨fun _ => h, by rw [hr]; simp⟩
/-- the beginning -/
theorem wp_region_L (S : World → Prop) (m : Nat) {id : Nat} {a : Act} {w : World} (hm : P.follows .mixedOrders = true) (h : wpL P ops (NoPanic Q) S m ops.size (Array.replicate ops.size false) a w.drew) : (Code.region id ops true).wp P Q a w :=
  wp_region_noPanic (wp_region_any hm (wpAny_of_L _ _ _ _ h))
end

end Go.Proofs.YtcknhjabdjbjiaaGreat

namespace Go.Proofs.YtcknhjabdjbjiaaGreat
open Go.RowKit
set_option maxRecDepth 100000

/-- a foot -/
structure Ft where
  P : List Pt
  S : List Sp
  W : List Pt
/-- a foot that is read -/
structure RdF (w : World) (v0 v1 v2 : Value) (f : Ft) : Prop where
  p : SlP w v0 f.P
  s : SlS w v1 f.S
  w : SlP w v2 f.W
  lp : f.P.length ≤ 4398046511104
  ls : f.S.length ≤ 2513169434916
  lw : f.W.length ≤ 4398046511104
theorem RdF.on {w w' : World} {v0 v1 v2 : Value} {f : Ft} (h : RdF w v0 v1 v2 f) (hb : Below w.heap.size w w') : RdF w' v0 v1 v2 f := ⟨h.p.on hb, h.s.on hb, h.w.on hb, h.lp, h.ls, h.lw⟩
/-- does a foot read a point? -/
def Ft.rds (f : Ft) (x : Pt) : Prop := x ∈ f.P ∨ ∃ s ∈ f.S, inS x s = true
theorem SlP.ne {w : World} {p : Option Addr} {L : List Pt} {lb : Nat} (h : RowP w w.heap.size p L) (hl : w.heap.size ≤ lb) : ∀ b o, p = some ⟨b, o, none⟩ → L ≠ [] → ¬ b = lb := by
  intro b o e hne
  obtain ⟨b', o', e', hb, _⟩ := h 0 (List.length_pos_iff.2 hne)
  rw [e] at e'
  cases e'
  omega
theorem SlS.ne {w : World} {p : Option Addr} {L : List Sp} {lb : Nat} (h : RowS w w.heap.size p L) (hl : w.heap.size ≤ lb) : ∀ b o, p = some ⟨b, o, none⟩ → L ≠ [] → ¬ b = lb := by
  intro b o e hne
  obtain ⟨b', o', e', hb, _⟩ := h 0 (List.length_pos_iff.2 hne)
  rw [e] at e'
  cases e'
  omega
theorem SlP.frm {w w' : World} {F : Nat → Prop} {v : Value} {L : List Pt} (h : SlP w v L) (hf : Frm w w' F) (hn : ∀ b, b < w.heap.size → ¬ F b) : SlP w' v L := by
  obtain ⟨p, c, e, h1, h2, h3⟩ := h.f
  exact ⟨p, c, e, h1, h2, h3.frm hf (fun b o _ hb _ => hn b hb)⟩
/-- the end of Clash and of Both: a least is told -/
theorem lC_eq (o : Option Pt) : lC o = #[.int .i64 (lP o).t, .int .i64 (lP o).i, .string (lP o).k, .bool o.isSome] := by
  cases o <;> rfl

set_option maxHeartbeats 8000000 in
theorem clash_any (a b : Ft) (va0 va1 va2 vb0 vb1 vb2 : Value) (w : World) (ha : RdF w va0 va1 va2 a) (hb : RdF w vb0 vb1 vb2 b) :
    Calls Tryz.prog 23 #[.agg #[va0, va1, va2], .agg #[vb0, vb1, vb2]] w fun e w' => ∃ o, IsMin (fun x => x ∈ b.W ∧ a.rds x) o ∧ e = .returned (.tuple #[PV (lP o), .bool o.isSome]) ∧ Below w.heap.size w w' := by
  obtain ⟨pa, ca, ea0, la1, la2, hpa⟩ := ha.p.f
  obtain ⟨ps, cs, ea1, ls1, ls2, hps⟩ := ha.s.f
  obtain ⟨pw, cw, eb2, lw1, lw2, hpw⟩ := hb.w.f
  have hal : Below w.heap.size w ((((w.alloc (.cells #[va0, va1, va2] 37)).alloc (.cells #[vb0, vb1, vb2] 37)).alloc (.cells #[.int .i64 0, .int .i64 0, .string ⟨#[]⟩] 39)).alloc (.cells #[.int .i64 0, .int .i64 0, .string ⟨#[]⟩, .bool false] 90)) := ((((Below.refl _ _).alloc (Nat.le_refl _) _).alloc (by simp) _).alloc (by simp <;> omega) _).alloc (by simp <;> omega) _
  have hz : ((((w.alloc (.cells #[va0, va1, va2] 37)).alloc (.cells #[vb0, vb1, vb2] 37)).alloc (.cells #[.int .i64 0, .int .i64 0, .string ⟨#[]⟩] 39)).alloc (.cells #[.int .i64 0, .int .i64 0, .string ⟨#[]⟩, .bool false] 90)).heap.size = w.heap.size + 1 + 1 + 1 + 1 := by simp
  have hB : Blk ((((w.alloc (.cells #[va0, va1, va2] 37)).alloc (.cells #[vb0, vb1, vb2] 37)).alloc (.cells #[.int .i64 0, .int .i64 0, .string ⟨#[]⟩] 39)).alloc (.cells #[.int .i64 0, .int .i64 0, .string ⟨#[]⟩, .bool false] 90)) (w.heap.size + 1 + 1 + 1) (lC none) 90 := by
    have h := Blk.new (((w.alloc (.cells #[va0, va1, va2] 37)).alloc (.cells #[vb0, vb1, vb2] 37)).alloc (.cells #[.int .i64 0, .int .i64 0, .string ⟨#[]⟩] 39)) #[.int .i64 0, .int .i64 0, .string ⟨#[]⟩, .bool false] 90
    have e : (((w.alloc (.cells #[va0, va1, va2] 37)).alloc (.cells #[vb0, vb1, vb2] 37)).alloc (.cells #[.int .i64 0, .int .i64 0, .string ⟨#[]⟩] 39)).heap.size = w.heap.size + 1 + 1 + 1 := by simp
    rw [e] at h
    exact h
  have hA0 : Blk ((((w.alloc (.cells #[va0, va1, va2] 37)).alloc (.cells #[vb0, vb1, vb2] 37)).alloc (.cells #[.int .i64 0, .int .i64 0, .string ⟨#[]⟩] 39)).alloc (.cells #[.int .i64 0, .int .i64 0, .string ⟨#[]⟩, .bool false] 90)) w.heap.size #[va0, va1, va2] 37 := (Blk.new w #[va0, va1, va2] 37).keep (B := w.heap.size + 1) ((((Below.refl _ _).alloc (by simp) _).alloc (by simp <;> omega) _).alloc (by simp <;> omega) _) (by omega)
  have hB0 : Blk ((((w.alloc (.cells #[va0, va1, va2] 37)).alloc (.cells #[vb0, vb1, vb2] 37)).alloc (.cells #[.int .i64 0, .int .i64 0, .string ⟨#[]⟩] 39)).alloc (.cells #[.int .i64 0, .int .i64 0, .string ⟨#[]⟩, .bool false] 90)) (w.heap.size + 1) #[vb0, vb1, vb2] 37 := by
    have h := Blk.new (w.alloc (.cells #[va0, va1, va2] 37)) #[vb0, vb1, vb2] 37
    have e : (w.alloc (.cells #[va0, va1, va2] 37)).heap.size = w.heap.size + 1 := by simp
    rw [e] at h
    exact h.keep (B := w.heap.size + 1 + 1) (((Below.refl _ _).alloc (by simp) _).alloc (by simp <;> omega) _) (by omega)
  have hC0 : Blk ((((w.alloc (.cells #[va0, va1, va2] 37)).alloc (.cells #[vb0, vb1, vb2] 37)).alloc (.cells #[.int .i64 0, .int .i64 0, .string ⟨#[]⟩] 39)).alloc (.cells #[.int .i64 0, .int .i64 0, .string ⟨#[]⟩, .bool false] 90)) (w.heap.size + 1 + 1) #[.int .i64 0, .int .i64 0, .string ⟨#[]⟩] 39 := by
    have h := Blk.new ((w.alloc (.cells #[va0, va1, va2] 37)).alloc (.cells #[vb0, vb1, vb2] 37)) #[.int .i64 0, .int .i64 0, .string ⟨#[]⟩] 39
    have e : ((w.alloc (.cells #[va0, va1, va2] 37)).alloc (.cells #[vb0, vb1, vb2] 37)).heap.size = w.heap.size + 1 + 1 := by simp
    rw [e] at h
    exact h.keep (B := w.heap.size + 1 + 1 + 1) ((Below.refl _ _).alloc (by simp) _) (by omega)
  have HW : Hid (Below w.heap.size w ((((w.alloc (.cells #[va0, va1, va2] 37)).alloc (.cells #[vb0, vb1, vb2] 37)).alloc (.cells #[.int .i64 0, .int .i64 0, .string ⟨#[]⟩] 39)).alloc (.cells #[.int .i64 0, .int .i64 0, .string ⟨#[]⟩, .bool false] 90)) ∧ ((((w.alloc (.cells #[va0, va1, va2] 37)).alloc (.cells #[vb0, vb1, vb2] 37)).alloc (.cells #[.int .i64 0, .int .i64 0, .string ⟨#[]⟩] 39)).alloc (.cells #[.int .i64 0, .int .i64 0, .string ⟨#[]⟩, .bool false] 90)).heap.size = w.heap.size + 1 + 1 + 1 + 1 ∧ Blk ((((w.alloc (.cells #[va0, va1, va2] 37)).alloc (.cells #[vb0, vb1, vb2] 37)).alloc (.cells #[.int .i64 0, .int .i64 0, .string ⟨#[]⟩] 39)).alloc (.cells #[.int .i64 0, .int .i64 0, .string ⟨#[]⟩, .bool false] 90)) w.heap.size #[va0, va1, va2] 37 ∧ Blk ((((w.alloc (.cells #[va0, va1, va2] 37)).alloc (.cells #[vb0, vb1, vb2] 37)).alloc (.cells #[.int .i64 0, .int .i64 0, .string ⟨#[]⟩] 39)).alloc (.cells #[.int .i64 0, .int .i64 0, .string ⟨#[]⟩, .bool false] 90)) (w.heap.size + 1) #[vb0, vb1, vb2] 37 ∧ Blk ((((w.alloc (.cells #[va0, va1, va2] 37)).alloc (.cells #[vb0, vb1, vb2] 37)).alloc (.cells #[.int .i64 0, .int .i64 0, .string ⟨#[]⟩] 39)).alloc (.cells #[.int .i64 0, .int .i64 0, .string ⟨#[]⟩, .bool false] 90)) (w.heap.size + 1 + 1) #[.int .i64 0, .int .i64 0, .string ⟨#[]⟩] 39) := ⟨hal, hz, hA0, hB0, hC0⟩
  have C1 : Hid (Calls Tryz.prog 42 #[ptr1 (w.heap.size + 1 + 1 + 1), va0, vb2] ((((w.alloc (.cells #[va0, va1, va2] 37)).alloc (.cells #[vb0, vb1, vb2] 37)).alloc (.cells #[.int .i64 0, .int .i64 0, .string ⟨#[]⟩] 39)).alloc (.cells #[.int .i64 0, .int .i64 0, .string ⟨#[]⟩, .bool false] 90)) fun e w' => e = .returned (.tuple #[]) ∧ ∃ o', IsMin (fun x => False ∨ (x ∈ a.P ∧ x ∈ b.W)) o' ∧ Blk w' (w.heap.size + 1 + 1 + 1) (lC o') 90 ∧ Frm ((((w.alloc (.cells #[va0, va1, va2] 37)).alloc (.cells #[vb0, vb1, vb2] 37)).alloc (.cells #[.int .i64 0, .int .i64 0, .string ⟨#[]⟩] 39)).alloc (.cells #[.int .i64 0, .int .i64 0, .string ⟨#[]⟩, .bool false] 90)) w' (fun k => k = w.heap.size + 1 + 1 + 1)) := by
    subst ea0 eb2
    exact seeShared_any (fun _ => False) none a.P b.W pa pw ca cw (w.heap.size + 1 + 1 + 1) _ (fun x hx => hx) hB (hpa.on hal) (hpw.on hal) ha.lp hb.lw (SlP.ne hpa (by omega)) (SlP.ne hpw (by omega))
  have HS : Hid (va1 = .slice ps a.S.length cs ∧ RowS w w.heap.size ps a.S ∧ SlP w vb2 b.W ∧ a.S.length ≤ 2513169434916 ∧ b.W.length ≤ 4398046511104) := ⟨ea1, hps, hb.w, ha.ls, hb.lw⟩
  have a0 := hA0.cell (i := 0) rfl
  have a1 := hA0.cell (i := 1) rfl
  have a2 := hA0.cell (i := 2) rfl
  have b0 := hB0.cell (i := 0) rfl
  have b1 := hB0.cell (i := 1) rfl
  have b2 := hB0.cell (i := 2) rfl
  clear ha hb la1 la2 ls1 ls2 lw1 lw2 hpa hps hpw hal hz hB hA0 hB0 hC0 ea0 ea1 eb2
  go_enter Tryz.func23, Tryz.ntmps23
  go_wp2_with fail
  generalize ((((w.alloc (.cells #[va0, va1, va2] 37)).alloc (.cells #[vb0, vb1, vb2] 37)).alloc (.cells #[.int .i64 0, .int .i64 0, .string ⟨#[]⟩] 39)).alloc (.cells #[.int .i64 0, .int .i64 0, .string ⟨#[]⟩, .bool false] 90)) = w4 at *
  refine C1.out.mono ?_
  rintro e w5 ⟨rfl, o1, hm1, hb5, hf5⟩
  have HW5 : Hid (Blk w5 w.heap.size #[va0, va1, va2] 37 ∧ Blk w5 (w.heap.size + 1) #[vb0, vb1, vb2] 37 ∧ Blk w5 (w.heap.size + 1 + 1) #[.int .i64 0, .int .i64 0, .string ⟨#[]⟩] 39 ∧ Below w.heap.size w w5 ∧ w.heap.size + 1 + 1 + 1 < w5.heap.size) := ⟨HW.out.2.2.1.frm hf5 (by omega), HW.out.2.2.2.1.frm hf5 (by omega), HW.out.2.2.2.2.frm hf5 (by omega), HW.out.1.trans (hf5.below (by have := HW.out.2.1; omega) (fun k hk => by omega)), by have := HW.out.2.1; have := hf5.size; omega⟩
  have HB5 : Hid (Blk w5 (w.heap.size + 1 + 1 + 1) (lC o1) 90 ∧ IsMin (fun x => False ∨ (x ∈ a.P ∧ x ∈ b.W)) o1) := ⟨hb5, hm1⟩
  have C2 : Hid (Calls Tryz.prog 43 #[ptr1 (w.heap.size + 1 + 1 + 1), va1, vb2] w5 fun e w' => e = .returned (.tuple #[]) ∧ ∃ o', IsMin (fun x => (False ∨ (x ∈ a.P ∧ x ∈ b.W)) ∨ (x ∈ b.W ∧ ∃ s ∈ a.S, inS x s = true)) o' ∧ Blk w' (w.heap.size + 1 + 1 + 1) (lC o') 90 ∧ Frm w5 w' (fun k => k = w.heap.size + 1 + 1 + 1)) := by
    have hs := HS.out
    rw [hs.1]
    exact seeSpanned_any _ o1 a.S b.W ps cs (w.heap.size + 1 + 1 + 1) vb2 w5 hm1 hb5 (hs.2.1.on HW5.out.2.2.2.1) (hs.2.2.1.on HW5.out.2.2.2.1) hs.2.2.2.1 hs.2.2.2.2 (SlS.ne hs.2.1 (by omega))
  clear hm1 hb5 hf5 C1 HW a0 a1 a2 b0 b1 b2
  have a0 := HW5.out.1.cell (i := 0) rfl
  have a1 := HW5.out.1.cell (i := 1) rfl
  have a2 := HW5.out.1.cell (i := 2) rfl
  have b0 := HW5.out.2.1.cell (i := 0) rfl
  have b1 := HW5.out.2.1.cell (i := 1) rfl
  have b2 := HW5.out.2.1.cell (i := 2) rfl
  go_wp2_with fail
  refine C2.out.mono ?_
  rintro e w6 ⟨rfl, o2, hm2, hb6, hf6⟩
  have HM : Hid (IsMin (fun x => x ∈ b.W ∧ a.rds x) o2) := hm2.ext (fun x => by
    unfold Ft.rds
    constructor
    · rintro ((h | ⟨h, h'⟩) | ⟨h, h'⟩)
      · exact h.elim
      · exact ⟨h', .inl h⟩
      · exact ⟨h, .inr h'⟩
    · rintro ⟨h, h' | h'⟩
      · exact .inl (.inr ⟨h', h⟩)
      · exact .inr ⟨h, h'⟩)
  rw [lC_eq] at hb6
  have HB6 : Hid (Blk w6 (w.heap.size + 1 + 1 + 1) #[.int .i64 (lP o2).t, .int .i64 (lP o2).i, .string (lP o2).k, .bool o2.isSome] 90 ∧ Blk w6 (w.heap.size + 1 + 1) #[.int .i64 0, .int .i64 0, .string ⟨#[]⟩] 39 ∧ Below w.heap.size w w6) := ⟨hb6, HW5.out.2.2.1.frm hf6 (by omega), HW5.out.2.2.2.1.trans (hf6.below (by have := HW5.out.2.2.2.2; omega) (fun k hk => by omega))⟩
  clear hm2 hb6 hf6 C2 HW5 HB5 HS a0 a1 a2 b0 b1 b2
  obtain ⟨x, hx⟩ : ∃ x, x = lP o2 := ⟨_, rfl⟩
  obtain ⟨so, hso⟩ : ∃ so, so = o2.isSome := ⟨_, rfl⟩
  rw [← hx, ← hso] at HB6
  have HX : Hid (x = lP o2 ∧ so = o2.isSome) := ⟨hx, hso⟩
  clear hx hso
  go_wp2_with fail
  refine wp_region_L (fun w' => Blk w' (w.heap.size + 1 + 1 + 1) #[.int .i64 x.t, .int .i64 x.i, .string x.k, .bool so] 90) 5 (by kernel_rfl) ?_
  have hdr : Below w6.heap.size w6 w6.drew := (Below.refl _ _).drew
  have HD : Hid (Blk w6.drew (w.heap.size + 1 + 1 + 1) #[.int .i64 x.t, .int .i64 x.i, .string x.k, .bool so] 90 ∧ Blk w6.drew (w.heap.size + 1 + 1) #[.int .i64 0, .int .i64 0, .string ⟨#[]⟩] 39 ∧ Below w.heap.size w w6.drew) := ⟨HB6.out.1.on hdr, HB6.out.2.1.on hdr, HB6.out.2.2.drew⟩
  have HS0 : Hid (Blk w6.drew (w.heap.size + 1 + 1 + 1) #[.int .i64 x.t, .int .i64 x.i, .string x.k, .bool so] 90) := HD.out.1
  clear hdr HB6
  generalize w6.drew = wd at *
  refine wpL_take (v := ?_) 0 rfl (by kernel_rfl) (fun _ _ _ h => h) (by rfl) ?_ HS0.out ?_
  rotate_left
  focus
    intro w9 hw9
    have k0 := Blk.cell hw9 (i := 0) rfl
    have k1 := Blk.cell hw9 (i := 1) rfl
    have k2 := Blk.cell hw9 (i := 2) rfl
    have k3 := Blk.cell hw9 (i := 3) rfl
    go_simp
    try with_reducible rfl
  try simp only [Act.put, List.setIfInBounds_toArray, List.set_cons_zero, List.set_cons_succ]
  refine wpL_take (v := ?_) 1 rfl (by kernel_rfl) (fun _ _ _ h => h) (by rfl) ?_ HS0.out ?_
  rotate_left
  focus
    intro w9 hw9
    have k0 := Blk.cell hw9 (i := 0) rfl
    have k1 := Blk.cell hw9 (i := 1) rfl
    have k2 := Blk.cell hw9 (i := 2) rfl
    have k3 := Blk.cell hw9 (i := 3) rfl
    go_simp
    try with_reducible rfl
  try simp only [Act.put, List.setIfInBounds_toArray, List.set_cons_zero, List.set_cons_succ]
  refine wpL_take (v := ?_) 2 rfl (by kernel_rfl) (fun _ _ _ h => h) (by rfl) ?_ HS0.out ?_
  rotate_left
  focus
    intro w9 hw9
    have k0 := Blk.cell hw9 (i := 0) rfl
    have k1 := Blk.cell hw9 (i := 1) rfl
    have k2 := Blk.cell hw9 (i := 2) rfl
    have k3 := Blk.cell hw9 (i := 3) rfl
    go_simp
    try with_reducible rfl
  try simp only [Act.put, List.setIfInBounds_toArray, List.set_cons_zero, List.set_cons_succ]
  refine wpL_take (v := ?_) 3 rfl (by kernel_rfl) (fun _ _ _ h => h) (by rfl) ?_ HS0.out ?_
  rotate_left
  focus
    intro w9 hw9
    have k0 := Blk.cell hw9 (i := 0) rfl
    have k1 := Blk.cell hw9 (i := 1) rfl
    have k2 := Blk.cell hw9 (i := 2) rfl
    have k3 := Blk.cell hw9 (i := 3) rfl
    go_simp
    try with_reducible rfl
  try simp only [Act.put, List.setIfInBounds_toArray, List.set_cons_zero, List.set_cons_succ]
  have c0 := HD.out.2.1.cell (i := 0) rfl
  have c1 := HD.out.2.1.cell (i := 1) rfl
  have c2 := HD.out.2.1.cell (i := 2) rfl
  have f0 := HD.out.2.1.frozen 0
  have f1 := HD.out.2.1.frozen 1
  have f2 := HD.out.2.1.frozen 2
  refine wpL_one 4 rfl (by kernel_rfl) (by rfl) ?_
  intro K hK
  go_simp
  refine hK.out _ _ (fun _ => ((HD.out.1.other (by omega) 0 _).other (by omega) 1 _).other (by omega) 2 _) ?_
  clear hK K
  try simp only [Act.put, List.setIfInBounds_toArray, List.set_cons_zero, List.set_cons_succ]
  have HR : Hid (Blk (((wd.setCell ⟨w.heap.size + 1 + 1, 0, none⟩ (.int .i64 x.t)).setCell ⟨w.heap.size + 1 + 1, 1, none⟩ (.int .i64 x.i)).setCell ⟨w.heap.size + 1 + 1, 2, none⟩ (.string x.k)) (w.heap.size + 1 + 1) #[.int .i64 x.t, .int .i64 x.i, .string x.k] 39 ∧ Below w.heap.size w (((wd.setCell ⟨w.heap.size + 1 + 1, 0, none⟩ (.int .i64 x.t)).setCell ⟨w.heap.size + 1 + 1, 1, none⟩ (.int .i64 x.i)).setCell ⟨w.heap.size + 1 + 1, 2, none⟩ (.string x.k))) := ⟨((HD.out.2.1.set 0 _).set 1 _).set 2 _, ((HD.out.2.2.setCell (show w.heap.size ≤ w.heap.size + 1 + 1 by omega) _).setCell (show w.heap.size ≤ w.heap.size + 1 + 1 by omega) _).setCell (show w.heap.size ≤ w.heap.size + 1 + 1 by omega) _⟩
  have HS1 : Hid (Blk (((wd.setCell ⟨w.heap.size + 1 + 1, 0, none⟩ (.int .i64 x.t)).setCell ⟨w.heap.size + 1 + 1, 1, none⟩ (.int .i64 x.i)).setCell ⟨w.heap.size + 1 + 1, 2, none⟩ (.string x.k)) (w.heap.size + 1 + 1 + 1) #[.int .i64 x.t, .int .i64 x.i, .string x.k, .bool so] 90) := ((HD.out.1.other (by omega) 0 _).other (by omega) 1 _).other (by omega) 2 _
  clear c0 c1 c2 f0 f1 f2
  generalize ((wd.setCell ⟨w.heap.size + 1 + 1, 0, none⟩ (.int .i64 x.t)).setCell ⟨w.heap.size + 1 + 1, 1, none⟩ (.int .i64 x.i)).setCell ⟨w.heap.size + 1 + 1, 2, none⟩ (.string x.k) = we at *
  refine wpL_one 5 rfl (by kernel_rfl) (by rfl) ?_
  intro K hK
  go_simp
  refine hK.out _ _ (fun _ => HS1.out) ?_
  clear hK K
  try simp only [Act.put, List.setIfInBounds_toArray, List.set_cons_zero, List.set_cons_succ]
  refine wpL_done (by kernel_rfl) ?_ _
  try simp only [NoPanic]
  have r0 := HR.out.1.cell (i := 0) rfl
  have r1 := HR.out.1.cell (i := 1) rfl
  have r2 := HR.out.1.cell (i := 2) rfl
  go_wp2_with fail
  refine bodyPost_ret (v := .tuple #[PV x, .bool so]) (by simp [results, Tryz.results23, go_sem, r0, r1, r2]) rfl ?_
  refine ⟨o2, HM.out, ?_, HR.out.2⟩
  rw [HX.out.1, HX.out.2]

end Go.Proofs.YtcknhjabdjbjiaaGreat
