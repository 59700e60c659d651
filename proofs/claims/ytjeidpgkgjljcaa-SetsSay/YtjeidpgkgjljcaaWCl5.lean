/- Of each span the first of the points that are in it. -/
import Derived.Test.YtjeidpgkgjljcaaWCl4
namespace Go.Proofs.Ytjeidpgkgjljcaa
open Go.RowKit
set_option maxRecDepth 100000

theorem RowS.frm {w w' : World} {F : Nat → Prop} {p : Option Addr} {L : List Sp} (h : RowS w w.heap.size p L) (hf : Frm w w' F) (hn : ∀ b o, p = some ⟨b, o, none⟩ → b < w.heap.size → L ≠ [] → ¬ F b) : RowS w' w'.heap.size p L := by
  intro i hi
  obtain ⟨b, o, e, hb, c0, c1, c2, c3, c4⟩ := h i hi
  have k : ∀ q, w'.cell? ⟨b, q, none⟩ = w.cell? ⟨b, q, none⟩ := fun q => cell_block (hf.block b hb (hn b o e hb (List.ne_nil_of_length_pos (by omega))))
  exact ⟨b, o, e, Nat.lt_of_lt_of_le hb hf.size, (k _).trans c0, (k _).trans c1, (k _).trans c2, (k _).trans c3, (k _).trans c4⟩
theorem OwnP.frm {w w' : World} {F : Nat → Prop} {B : Nat} {v : Value} {L : List Pt} (h : OwnP w B v L) (hf : Frm w w' F) (hn : ∀ b, B ≤ b → ¬ F b) : OwnP w' B v L := by
  refine ⟨h.1, ?_⟩
  rcases h.2 with h1 | ⟨g, cap, cur, e, hb', hg, r⟩
  · exact .inl h1
  · exact .inr ⟨g, cap, cur, e, hb', (hf.block g (Array.getElem?_eq_some_iff.1 hg).1 (hn g hb')).trans hg, r⟩
/-- spans one more: the first point at or behind its beginning is shown, if it is in it -/
theorem span_step {S : Pt → Prop} {W R : List Pt} {o : Option Pt} {i : Nat} {s : Sp} (hM : IsMin S o) (hI : RisP R) (hm : ∀ x, x ∈ R ↔ x ∈ W) (h1 : ∀ k (hk : k < R.length), k < i → ltP R[k] (bgn s) = true) (h2 : ∀ k (hk : k < R.length), i ≤ k → ltP R[k] (bgn s) = false) :
    (∀ (hi : i < R.length), inS R[i] s = true → IsMin (fun x => S x ∨ (x ∈ W ∧ inS x s = true)) (minO o R[i])) ∧ ((∀ (hi : i < R.length), inS R[i] s = false) → IsMin (fun x => S x ∨ (x ∈ W ∧ inS x s = true)) o) := by
  have key : ∀ x, x ∈ W → inS x s = true → ∃ hi : i < R.length, ltP x R[i] = false ∧ inS R[i] s = true := by
    intro x hx hs
    obtain ⟨k, hk, rfl⟩ := List.getElem_of_mem ((hm x).2 hx)
    have hik : i ≤ k := by
      rcases Nat.lt_or_ge k i with h | h
      · have h3 := h1 k hk h
        rw [inS_ge hs] at h3
        cases h3
      · exact h
    have hi : i < R.length := by omega
    have hle : ltP R[k] R[i] = false := by
      rcases Nat.lt_or_eq_of_le hik with h | h
      · exact ltP_asymm (hI.lt h hk)
      · subst h; exact ltP_irrefl _
    exact ⟨hi, hle, inS_mid (h2 i hi (Nat.le_refl _)) hle hs⟩
  constructor
  · intro hi hs
    refine (hM.add R[i]).more (fun x hx => ?_) (fun x hx => ?_)
    · rcases hx with h | rfl
      · exact .inl h
      · exact .inr ⟨(hm _).1 (List.getElem_mem hi), hs⟩
    · rcases hx with h | ⟨h, h'⟩
      · exact ⟨x, .inl h, ltP_irrefl _⟩
      · obtain ⟨_, h3, _⟩ := key x h h'
        exact ⟨R[i], .inr rfl, h3⟩
  · intro hn
    refine hM.ext (fun x => ⟨.inl, fun hx => ?_⟩)
    rcases hx with h | ⟨h, h'⟩
    · exact h
    · obtain ⟨hi, _, h3⟩ := key x h h'
      rw [hn hi] at h3
      cases h3

set_option maxHeartbeats 8000000 in
theorem seeSpanned_any (S : Pt → Prop) (o : Option Pt) (Q : List Sp) (W : List Pt) (ps : Option Addr) (cs lb : Nat) (vw : Value) (w : World) (hM : IsMin S o) (hL : Blk w lb (lC o) 43) (hQ : RowS w w.heap.size ps Q) (hW : SlP w vw W)
    (hlq : Q.length ≤ 2513169434916) (hlw : W.length ≤ 4398046511104) (hns : ∀ b o, ps = some ⟨b, o, none⟩ → Q ≠ [] → ¬ b = lb) :
    Calls Try.prog 20 #[ptr1 lb, .slice ps Q.length cs, vw] w fun e w' => e = .returned (.tuple #[]) ∧ ∃ o', IsMin (fun x => S x ∨ (x ∈ W ∧ ∃ s ∈ Q, inS x s = true)) o' ∧ Blk w' lb (lC o') 43 ∧ Frm w w' (fun k => k = lb) := by
  have HL : Hid (Blk w lb (lC o) 43) := hL
  have HM : Hid (IsMin S o) := hM
  have HQ : Hid (RowS w w.heap.size ps Q) := hQ
  have HNS : Hid (∀ b o, ps = some ⟨b, o, none⟩ → Q ≠ [] → ¬ b = lb) := hns
  by_cases hq0 : Q = []
  · subst hq0
    clear hL hM hQ hW hns
    go_enter Try.func20, Try.ntmps20
    go_wp2_with fail
    go_returns
    exact ⟨rfl, o, HM.out.ext (fun x => by simp), HL.out, Frm.refl _ _⟩
  · have hql : ¬ (Q.length : Int) = 0 := by
      have := List.length_pos_iff.2 hq0
      omega
    have hqd : ((Q.length : Int) == 0) = false := by simpa using hql
    have C1 : Hid (Calls Try.prog 43 #[vw] w fun e w' => ∃ (v' : Value) (R : List Pt), e = .returned v' ∧ OwnP w' w.heap.size v' R ∧ RisP R ∧ (∀ x, x ∈ R ↔ x ∈ W) ∧ R.length ≤ W.length ∧ Below w.heap.size w w') := inOrder_any W vw w hW hlw
    obtain ⟨ql, hqL⟩ : ∃ ql, ql = Q.length := ⟨_, rfl⟩
    rw [← hqL] at hqd hlq ⊢
    have HqL : Hid (ql = Q.length) := hqL
    clear hL hM hQ hW hns hql hq0 hqL
    go_enter Try.func20, Try.ntmps20
    go_wp2_with fail
    refine C1.out.mono ?_
    rintro e w1 ⟨v', R, rfl, hO, hI, hm, hl, hb1⟩
    have hz1 := hb1.size
    have HO : Hid (OwnP w1 w.heap.size v' R ∧ RisP R ∧ (∀ x, x ∈ R ↔ x ∈ W) ∧ R.length ≤ 4398046511104 ∧ Below w.heap.size w w1) := ⟨hO, hI, hm, by omega, hb1⟩
    obtain ⟨pr, cr, hv, hRow⟩ := hO.row
    subst hv
    have HRr : Hid (RowP w1 w1.heap.size pr R) := hRow
    have HRb : Hid (∀ b o, pr = some ⟨b, o, none⟩ → w.heap.size ≤ b) := fun b o e => by
      rcases hO.form with ⟨h, _⟩ | ⟨g, cap, h, hg, _⟩
      · obtain ⟨h9, -, -⟩ := Value.slice.inj h
        rw [h9] at e
        cases e
      · obtain ⟨h9, -, -⟩ := Value.slice.inj h
        rw [h9] at e
        cases e
        exact hg
    have HLB : Hid (lb < w.heap.size) := HL.out.lt
    have HL1 : Hid (Blk w1 lb (lC o) 43) := HL.out.on hb1
    have HQ1 : Hid (RowS w1 w1.heap.size ps Q) := HQ.out.on hb1
    have hrl : R.length ≤ 4398046511104 := by omega
    clear hO hI hm hl hb1 C1 hRow HL HQ hz1
    go_wp2_with fail
    go_loopw [18] (fun i wr => ∃ (j : Nat) (o2 : Option Pt), j ≤ ql ∧ i = .int .i64 (j : Int) ∧ Hid (IsMin (fun x => S x ∨ (x ∈ W ∧ ∃ s ∈ Q.take j, inS x s = true)) o2) ∧ Hid (Blk wr lb (lC o2) 43) ∧ Hid (Frm w1 wr (fun k => k = lb))) (fun i _ => ql - (intOf i).toNat)
    case atStart => exact ⟨0, o, Nat.zero_le _, by go_num, HM.out.ext (fun x => by simp), HL1.out, Frm.refl _ _⟩
    case round =>
      obtain ⟨j, o2, hj, rfl, HM2, HB2, HFr⟩ := hrel
      by_cases hj0 : j = ql
      · subst hj0
        go_wp2_with fail
        go_returns
        refine ⟨rfl, o2, HM2.out.ext (fun x => by rw [HqL.out, List.take_of_length_le (Nat.le_refl _)]), HB2.out, ?_⟩
        exact (Frm.of_below (F := fun k => k = lb) HO.out.2.2.2.2).trans HFr.out (fun k hk => .inl hk)
      · have hj1 : j < ql := by omega
        have hjQ : j < Q.length := by have := HqL.out; omega
        obtain ⟨b, q, hp, hb, c0, c1, c2, c3, c4⟩ := (HQ1.out.frm HFr.out (fun b o e _ hne hb => HNS.out b o e hne hb)) j hjQ
        have hmt := take_mem Q j hjQ
        obtain ⟨s, hs⟩ : ∃ s, s = Q[j] := ⟨_, rfl⟩
        rw [← hs] at c0 c1 c2 c3 c4 hmt
        have HMT : Hid (∀ y, y ∈ Q.take (j + 1) ↔ y ∈ Q.take j ∨ y = s) := hmt
        clear hs hmt
        have hal : Below wr.heap.size wr (wr.alloc (.cells #[.int .i64 s.t, .int .i64 s.i, .string s.lo, .string s.hi, .bool s.op] 55)) := (Below.refl _ _).alloc (Nat.le_refl _) _
        have hz2 : (wr.alloc (.cells #[.int .i64 s.t, .int .i64 s.i, .string s.lo, .string s.hi, .bool s.op] 55)).heap.size = wr.heap.size + 1 := by simp
        have hP := Blk.new wr #[.int .i64 s.t, .int .i64 s.i, .string s.lo, .string s.hi, .bool s.op] 55
        have p0 := hP.cell (i := 0) rfl
        have p1 := hP.cell (i := 1) rfl
        have p2 := hP.cell (i := 2) rfl
        have p3 := hP.cell (i := 3) rfl
        have p4 := hP.cell (i := 4) rfl
        have HP : Hid (Blk (wr.alloc (.cells #[.int .i64 s.t, .int .i64 s.i, .string s.lo, .string s.hi, .bool s.op] 55)) wr.heap.size #[.int .i64 s.t, .int .i64 s.i, .string s.lo, .string s.hi, .bool s.op] 55 ∧ (wr.alloc (.cells #[.int .i64 s.t, .int .i64 s.i, .string s.lo, .string s.hi, .bool s.op] 55)).heap.size = wr.heap.size + 1) := ⟨hP, hz2⟩
        have HA : Hid (Frm w1 (wr.alloc (.cells #[.int .i64 s.t, .int .i64 s.i, .string s.lo, .string s.hi, .bool s.op] 55)) (fun k => k = lb)) := HFr.out.trans (Frm.of_below (F := fun k => k = lb) hal) (fun k hk => .inl hk)
        have HB3 : Hid (Blk (wr.alloc (.cells #[.int .i64 s.t, .int .i64 s.i, .string s.lo, .string s.hi, .bool s.op] 55)) lb (lC o2) 43) := HB2.out.on hal
        subst hp
        clear hal hz2 hP HFr HB2
        have CB : Hid (∀ w5 : World, Calls Try.prog 45 #[.agg #[.int .i64 s.t, .int .i64 s.i, .string s.lo, .string s.hi, .bool s.op]] w5 fun e w' => e = .returned (PV (bgn s)) ∧ Below w5.heap.size w5 w') := fun w5 => begin_any s w5
        go_wp2_with fail
        generalize (wr.alloc (.cells #[.int .i64 s.t, .int .i64 s.i, .string s.lo, .string s.hi, .bool s.op] 55)) = wB at *
        refine (CB.out _).mono ?_
        rintro e w5 ⟨rfl, hb5⟩
        have HA5 : Hid (Frm w1 w5 (fun k => k = lb)) := HA.out.trans (Frm.of_below (F := fun k => k = lb) hb5) (fun k hk => .inl hk)
        have HR5 : Hid (RowP w5 w5.heap.size pr R) := HRr.out.frm HA5.out (fun b o e _ _ hb => by have := HRb.out b o e; have := HLB.out; omega)
        have HP5 : Hid (Blk w5 wr.heap.size #[.int .i64 s.t, .int .i64 s.i, .string s.lo, .string s.hi, .bool s.op] 55) := HP.out.1.on hb5
        have HB5 : Hid (Blk w5 lb (lC o2) 43) := HB3.out.on hb5
        have CS : Hid (Calls Try.prog 44 #[.slice pr R.length cr, PV (bgn s), .func (.func 46) #[] #[]] w5 fun e w' => ∃ (i : Nat) (b : Bool), e = .returned (.tuple #[.int .i64 (i : Nat), .bool b]) ∧ i ≤ R.length ∧ (∀ k (hk : k < R.length), k < i → ltP R[k] (bgn s) = true) ∧ (∀ k (hk : k < R.length), i ≤ k → ltP R[k] (bgn s) = false) ∧ Below w5.heap.size w5 w') := bsP_any R pr cr (bgn s) w5 HR5.out HO.out.2.1 HO.out.2.2.2.1
        clear hb5 HA HB3 HP p0 p1 p2 p3 p4 c0 c1 c2 c3 c4 CB
        go_wp2_with fail
        refine CS.out.mono ?_
        rintro e w6 ⟨i, bo, rfl, hi, h1, h2, hb6⟩
        have hst := span_step HM2.out HO.out.2.1 HO.out.2.2.1 h1 h2
        have HA6 : Hid (Frm w1 w6 (fun k => k = lb)) := HA5.out.trans (Frm.of_below (F := fun k => k = lb) hb6) (fun k hk => .inl hk)
        have HR6 : Hid (RowP w6 w6.heap.size pr R) := HR5.out.on hb6
        have HP6 : Hid (Blk w6 wr.heap.size #[.int .i64 s.t, .int .i64 s.i, .string s.lo, .string s.hi, .bool s.op] 55) := HP5.out.on hb6
        have HB6 : Hid (Blk w6 lb (lC o2) 43) := HB5.out.on hb6
        have HEX : Hid (∀ x, ((S x ∨ (x ∈ W ∧ ∃ y ∈ Q.take j, inS x y = true)) ∨ (x ∈ W ∧ inS x s = true)) ↔ (S x ∨ (x ∈ W ∧ ∃ y ∈ Q.take (j + 1), inS x y = true))) := fun x => by
          constructor
          · rintro ((h | ⟨h, y, hy, h'⟩) | ⟨h, h'⟩)
            · exact .inl h
            · exact .inr ⟨h, y, (HMT.out y).2 (.inl hy), h'⟩
            · exact .inr ⟨h, s, (HMT.out s).2 (.inr rfl), h'⟩
          · rintro (h | ⟨h, y, hy, h'⟩)
            · exact .inl (.inl h)
            · rcases (HMT.out y).1 hy with h9 | rfl
              · exact .inl (.inr ⟨h, y, h9, h'⟩)
              · exact .inr ⟨h, h'⟩
        clear h1 h2 hb6 HA5 HR5 HP5 HB5 CS HM2 HMT
        have s0 := InB.cell (w := w6) (HP6.out.cell (i := 0) rfl) HP6.out.lt
        have s1 := InB.cell (w := w6) (HP6.out.cell (i := 1) rfl) HP6.out.lt
        have s2 := InB.cell (w := w6) (HP6.out.cell (i := 2) rfl) HP6.out.lt
        have s3 := InB.cell (w := w6) (HP6.out.cell (i := 3) rfl) HP6.out.lt
        have s4 := InB.cell (w := w6) (HP6.out.cell (i := 4) rfl) HP6.out.lt
        have ne1 := inB_ne w6
        by_cases hiR : i < R.length
        · obtain ⟨b9, q9, hp9, hb9, d0, d1, d2⟩ := HR6.out i hiR
          have r0 := InB.cell (w := w6) d0 hb9
          have r1 := InB.cell (w := w6) d1 hb9
          have r2 := InB.cell (w := w6) d2 hb9
          have gl : decide ((i : Int) < (R.length : Int)) = true := by simp; omega
          have CI : Hid (∀ w7 : World, Calls Try.prog 29 #[PV R[i], .agg #[.int .i64 s.t, .int .i64 s.i, .string s.lo, .string s.hi, .bool s.op]] w7 fun e w' => e = .returned (.bool (inS R[i] s)) ∧ Below w7.heap.size w7 w') := fun w7 => isIn_any R[i] s w7
          have hst1 := hst.1 hiR
          have hst2 : inS R[i] s = false → IsMin (fun x => (S x ∨ (x ∈ W ∧ ∃ y ∈ Q.take j, inS x y = true)) ∨ (x ∈ W ∧ inS x s = true)) o2 := fun h => hst.2 (fun _ => h)
          subst hp9
          obtain ⟨x, hx⟩ : ∃ x, x = R[i] := ⟨_, rfl⟩
          rw [← hx] at hst1 hst2 CI r0 r1 r2 d0 d1 d2
          have HD : Hid (w6.cell? ⟨b9, q9 + i * 3, none⟩ = some (.int .i64 x.t) ∧ w6.cell? ⟨b9, q9 + i * 3 + 1, none⟩ = some (.int .i64 x.i) ∧ w6.cell? ⟨b9, q9 + i * 3 + 2, none⟩ = some (.string x.k) ∧ b9 < w6.heap.size) := ⟨d0, d1, d2, hb9⟩
          clear hst hx d0 d1 d2 hb9
          cases hin : inS x s
          · rw [hin] at CI
            have HMN : Hid (IsMin (fun x => S x ∨ (x ∈ W ∧ ∃ y ∈ Q.take (j + 1), inS x y = true)) o2) := (hst2 hin).ext HEX.out
            clear hst1 hst2 HEX hin
            go_wp2_with fail
            refine wp_region_inB (by kernel_rfl) (by kernel_rfl) ?_
            repeat (go_big_quiet_step (first
              | (go_at_call 29; exact Calls.inB (CI.out _))))
            refine wpQuiet_nil ?_
            rintro w7 ⟨⟨w8, hb7⟩, h9⟩
            obtain rfl : w7 = w8 := h9
            clear s0 s1 s2 s3 s4 r0 r1 r2 ne1 CI
            go_wp2_with fail
            go_roundw
            case rel => exact ⟨j + 1, o2, by omega, by go_num, HMN.out, HB6.out.on hb7, HA6.out.trans (Frm.of_below (F := fun k => k = lb) hb7) (fun k hk => .inl hk)⟩
            case measure => simp [intOf]; omega
          · rw [hin] at CI
            have HMN : Hid (IsMin (fun x => S x ∨ (x ∈ W ∧ ∃ y ∈ Q.take (j + 1), inS x y = true)) (minO o2 x)) := (hst1 hin).ext HEX.out
            clear hst1 hst2 HEX hin
            go_wp2_with fail
            refine wp_region_inB (by kernel_rfl) (by kernel_rfl) ?_
            repeat (go_big_quiet_step (first
              | (go_at_call 29; exact Calls.inB (CI.out _))))
            refine wpQuiet_nil ?_
            rintro w7 ⟨⟨w8, hb7⟩, h9⟩
            obtain rfl : w7 = w8 := h9
            clear s0 s1 s2 s3 s4 r0 r1 r2 ne1 CI
            have d0 := (hb7.cell (p := ⟨b9, q9 + i * 3, none⟩) HD.out.2.2.2).trans HD.out.1
            have d1 := (hb7.cell (p := ⟨b9, q9 + i * 3 + 1, none⟩) HD.out.2.2.2).trans HD.out.2.1
            have d2 := (hb7.cell (p := ⟨b9, q9 + i * 3 + 2, none⟩) HD.out.2.2.2).trans HD.out.2.2.1
            have CC : Hid (Calls Try.prog 42 #[ptr1 lb, PV x] w7 fun e w' => e = .returned (.tuple #[]) ∧ Blk w' lb (lC (minO o2 x)) 43 ∧ Frm w7 w' (fun k => k = lb)) := see_any o2 x lb w7 (HB6.out.on hb7)
            have HA7 : Hid (Frm w1 w7 (fun k => k = lb)) := HA6.out.trans (Frm.of_below (F := fun k => k = lb) hb7) (fun k hk => .inl hk)
            clear hb7 HD HA6 HB6 HR6 HP6
            go_wp2_with fail
            refine CC.out.mono ?_
            rintro e w9 ⟨rfl, hb9, hf9⟩
            have HB9 : Hid (Blk w9 lb (lC (minO o2 x)) 43) := hb9
            have HA9 : Hid (Frm w1 w9 (fun k => k = lb)) := HA7.out.trans hf9 (fun k hk => .inl hk)
            clear hb9 hf9 CC d0 d1 d2
            go_wp2_with fail
            go_roundw
            case rel => exact ⟨j + 1, minO o2 x, by omega, by go_num, HMN.out, HB9.out, HA9.out⟩
            case measure => simp [intOf]; omega
        · have gl : decide ((i : Int) < (R.length : Int)) = false := by simp; omega
          have gl2 : decide (i < R.length) = false := decide_eq_false hiR
          have HMN : Hid (IsMin (fun x => S x ∨ (x ∈ W ∧ ∃ y ∈ Q.take (j + 1), inS x y = true)) o2) := (hst.2 (fun h => absurd h hiR)).ext HEX.out
          clear hst HEX hiR
          go_wp2_with fail
          refine wp_region_inB (by kernel_rfl) (by kernel_rfl) ?_
          repeat (go_big_quiet_step (first
            | (go_at_call 29; fail)))
          refine wpQuiet_nil ?_
          rintro w7 ⟨⟨w8, hb7⟩, h9⟩
          obtain rfl : w7 = w8 := h9
          clear s0 s1 s2 s3 s4 ne1
          go_wp2_with fail
          go_roundw
          case rel => exact ⟨j + 1, o2, by omega, by go_num, HMN.out, HB6.out.on hb7, HA6.out.trans (Frm.of_below (F := fun k => k = lb) hb7) (fun k hk => .inl hk)⟩
          case measure => simp [intOf]; omega
end Go.Proofs.Ytjeidpgkgjljcaa
