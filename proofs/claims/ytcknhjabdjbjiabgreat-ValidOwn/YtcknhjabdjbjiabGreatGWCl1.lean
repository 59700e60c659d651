/- The first of points that it was shown: see, seeShared. The points that two lists share. -/
import Derived.Test.YtcknhjabdjbjiabGreatGWSpF
import Derived.Test.YtcknhjabdjbjiabGreatGWPtM
import Derived.Test.YtcknhjabdjbjiabGreatGWQuiet
namespace Go.Proofs.YtcknhjabdjbjiabGreat
open Go.RowKit
set_option maxRecDepth 100000

set_option maxHeartbeats 4000000 in
theorem see_any (o : Option Pt) (p : Pt) (lb : Nat) (w : World) (h : Blk w lb (lC o) 94) :
    Calls Tryz.prog 59 #[ptr1 lb, PV p] w fun e w' => e = .returned (.tuple #[]) ∧ Blk w' lb (lC (minO o p)) 94 ∧ Frm w w' (fun k => k = lb) := by
  have hlt := h.lt
  have hal : Below w.heap.size w (w.alloc (.cells #[.int .i64 p.t, .int .i64 p.i, .string p.k] 36)) := (Below.refl _ _).alloc (Nat.le_refl _) _
  have hB0 : Blk (w.alloc (.cells #[.int .i64 p.t, .int .i64 p.i, .string p.k] 36)) lb (lC o) 94 := h.on hal
  have hP := Blk.new w #[.int .i64 p.t, .int .i64 p.i, .string p.k] 36
  have hne : ¬ lb = w.heap.size := by omega
  have hne2 : ¬ w.heap.size = lb := by omega
  have HF : Hid (Frm w (w.alloc (.cells #[.int .i64 p.t, .int .i64 p.i, .string p.k] 36)) (fun k => k = lb)) := Frm.of_below hal
  have hz1 : (w.alloc (.cells #[.int .i64 p.t, .int .i64 p.i, .string p.k] 36)).heap.size = w.heap.size + 1 := by simp
  have HZ : Hid ((w.alloc (.cells #[.int .i64 p.t, .int .i64 p.i, .string p.k] 36)).heap.size = w.heap.size + 1) := hz1
  clear hz1
  cases o with
  | none =>
    have hB : Blk (w.alloc (.cells #[.int .i64 p.t, .int .i64 p.i, .string p.k] 36)) lb #[.int .i64 0, .int .i64 0, .string ⟨#[]⟩, .bool false] 94 := hB0
    have a0 := hB.cell (i := 0) rfl
    have a1 := hB.cell (i := 1) rfl
    have a2 := hB.cell (i := 2) rfl
    have a3 := hB.cell (i := 3) rfl
    have f0 := hB.frozen 0
    have f1 := hB.frozen 1
    have f2 := hB.frozen 2
    have f3 := hB.frozen 3
    have p0 := hP.cell (i := 0) rfl
    have p1 := hP.cell (i := 1) rfl
    have p2 := hP.cell (i := 2) rfl
    have HB : Hid (Blk (w.alloc (.cells #[.int .i64 p.t, .int .i64 p.i, .string p.k] 36)) lb #[.int .i64 0, .int .i64 0, .string ⟨#[]⟩, .bool false] 94) := hB
    clear h hal hB hP hB0
    have C1 : Hid (∀ w1 : World, True → True) := fun _ _ => trivial
    go_enter Tryz.func59, Tryz.ntmps59
    go_wp2_with fail
    generalize (w.alloc (.cells #[.int .i64 p.t, .int .i64 p.i, .string p.k] 36)) = w1 at *
    have b0 := InB.cell (w := w1) a0 (by have := HZ.out; omega)
    have b1 := InB.cell (w := w1) a1 (by have := HZ.out; omega)
    have b2 := InB.cell (w := w1) a2 (by have := HZ.out; omega)
    have b3 := InB.cell (w := w1) a3 (by have := HZ.out; omega)
    have q0 := InB.cell (w := w1) p0 (by have := HZ.out; omega)
    have q1 := InB.cell (w := w1) p1 (by have := HZ.out; omega)
    have q2 := InB.cell (w := w1) p2 (by have := HZ.out; omega)
    have ne1 := inB_ne w1
    refine wp_region_inB (by kernel_rfl) (by kernel_rfl) ?_
    repeat (go_big_quiet_step (first
      | (go_at_call 62; fail)))
    refine wpQuiet_nil ?_
    rintro w2 ⟨⟨w3, hb2⟩, h9⟩
    obtain rfl : w2 = w3 := h9
    clear b0 b1 b2 b3 q0 q1 q2 ne1
    have p0' := (hb2.cell (p := ⟨w.heap.size, 0, none⟩) (by have := HZ.out; show w.heap.size < _; omega)).trans p0
    have p1' := (hb2.cell (p := ⟨w.heap.size, 1, none⟩) (by have := HZ.out; show w.heap.size < _; omega)).trans p1
    have p2' := (hb2.cell (p := ⟨w.heap.size, 2, none⟩) (by have := HZ.out; show w.heap.size < _; omega)).trans p2
    have HB2 : Hid (Blk w2 lb #[.int .i64 0, .int .i64 0, .string ⟨#[]⟩, .bool false] 94) := HB.out.on hb2
    have HF2 : Hid (Frm w w2 (fun k => k = lb)) := HF.out.trans (Frm.of_below (F := fun k => k = lb) hb2) (fun k hk => .inl hk)
    clear a0 a1 a2 a3 f0 f1 f2 f3 p0 p1 p2 hb2 HB HF HZ
    have a0 := HB2.out.cell (i := 0) rfl
    have a1 := HB2.out.cell (i := 1) rfl
    have a2 := HB2.out.cell (i := 2) rfl
    have a3 := HB2.out.cell (i := 3) rfl
    have f0 := HB2.out.frozen 0
    have f1 := HB2.out.frozen 1
    have f2 := HB2.out.frozen 2
    have f3 := HB2.out.frozen 3
    go_wp2_with fail
    go_returns
    exact ⟨rfl, (((HB2.out.set 0 _).set 1 _).set 2 _).set 3 _, (((HF2.out.trans (frm_set _ lb 0 _ (F := fun k => k = lb) (.inl rfl)) (fun k hk => .inl hk)).trans (frm_set _ lb 1 _ (F := fun k => k = lb) (.inl rfl)) (fun k hk => .inl hk)).trans (frm_set _ lb 2 _ (F := fun k => k = lb) (.inl rfl)) (fun k hk => .inl hk)).trans (frm_set _ lb 3 _ (F := fun k => k = lb) (.inl rfl)) (fun k hk => .inl hk)⟩
  | some q =>
    have C1 : Hid (∀ w1 : World, Calls Tryz.prog 62 #[PV p, PV q] w1 fun e w' => e = .returned (.int .i64 (cmpP p q)) ∧ Below w1.heap.size w1 w') := fun w1 => compareB_any p q w1
    have hm : minO (some q) p = if decide (cmpP p q < 0) then some p else some q := rfl
    rw [hm]
    clear hm
    generalize cmpP p q = c at *
    cases hc : decide (c < 0)
    · have hB : Blk (w.alloc (.cells #[.int .i64 p.t, .int .i64 p.i, .string p.k] 36)) lb #[.int .i64 q.t, .int .i64 q.i, .string q.k, .bool true] 94 := hB0
      have a0 := hB.cell (i := 0) rfl
      have a1 := hB.cell (i := 1) rfl
      have a2 := hB.cell (i := 2) rfl
      have a3 := hB.cell (i := 3) rfl
      have f0 := hB.frozen 0
      have f1 := hB.frozen 1
      have f2 := hB.frozen 2
      have f3 := hB.frozen 3
      have p0 := hP.cell (i := 0) rfl
      have p1 := hP.cell (i := 1) rfl
      have p2 := hP.cell (i := 2) rfl
      have HB : Hid (Blk (w.alloc (.cells #[.int .i64 p.t, .int .i64 p.i, .string p.k] 36)) lb #[.int .i64 q.t, .int .i64 q.i, .string q.k, .bool true] 94) := hB
      clear h hal hB hP hB0
      rw [if_neg (by simp)]
      go_enter Tryz.func59, Tryz.ntmps59
      go_wp2_with fail
      generalize (w.alloc (.cells #[.int .i64 p.t, .int .i64 p.i, .string p.k] 36)) = w1 at *
      have b0 := InB.cell (w := w1) a0 (by have := HZ.out; omega)
      have b1 := InB.cell (w := w1) a1 (by have := HZ.out; omega)
      have b2 := InB.cell (w := w1) a2 (by have := HZ.out; omega)
      have b3 := InB.cell (w := w1) a3 (by have := HZ.out; omega)
      have q0 := InB.cell (w := w1) p0 (by have := HZ.out; omega)
      have q1 := InB.cell (w := w1) p1 (by have := HZ.out; omega)
      have q2 := InB.cell (w := w1) p2 (by have := HZ.out; omega)
      have ne1 := inB_ne w1
      refine wp_region_inB (by kernel_rfl) (by kernel_rfl) ?_
      repeat (go_big_quiet_step (first
        | (go_at_call 62; exact Calls.inB (C1.out _))))
      refine wpQuiet_nil ?_
      rintro w2 ⟨⟨w3, hb2⟩, h9⟩
      obtain rfl : w2 = w3 := h9
      clear b0 b1 b2 b3 q0 q1 q2 ne1
      have p0' := (hb2.cell (p := ⟨w.heap.size, 0, none⟩) (by have := HZ.out; show w.heap.size < _; omega)).trans p0
      have p1' := (hb2.cell (p := ⟨w.heap.size, 1, none⟩) (by have := HZ.out; show w.heap.size < _; omega)).trans p1
      have p2' := (hb2.cell (p := ⟨w.heap.size, 2, none⟩) (by have := HZ.out; show w.heap.size < _; omega)).trans p2
      have HB2 : Hid (Blk w2 lb #[.int .i64 q.t, .int .i64 q.i, .string q.k, .bool true] 94) := HB.out.on hb2
      have HF2 : Hid (Frm w w2 (fun k => k = lb)) := HF.out.trans (Frm.of_below (F := fun k => k = lb) hb2) (fun k hk => .inl hk)
      clear a0 a1 a2 a3 f0 f1 f2 f3 p0 p1 p2 hb2 HB HF HZ
      go_wp2_with fail
      go_returns
      exact ⟨rfl, HB2.out, HF2.out⟩
    · have hB : Blk (w.alloc (.cells #[.int .i64 p.t, .int .i64 p.i, .string p.k] 36)) lb #[.int .i64 q.t, .int .i64 q.i, .string q.k, .bool true] 94 := hB0
      have a0 := hB.cell (i := 0) rfl
      have a1 := hB.cell (i := 1) rfl
      have a2 := hB.cell (i := 2) rfl
      have a3 := hB.cell (i := 3) rfl
      have f0 := hB.frozen 0
      have f1 := hB.frozen 1
      have f2 := hB.frozen 2
      have f3 := hB.frozen 3
      have p0 := hP.cell (i := 0) rfl
      have p1 := hP.cell (i := 1) rfl
      have p2 := hP.cell (i := 2) rfl
      have HB : Hid (Blk (w.alloc (.cells #[.int .i64 p.t, .int .i64 p.i, .string p.k] 36)) lb #[.int .i64 q.t, .int .i64 q.i, .string q.k, .bool true] 94) := hB
      clear h hal hB hP hB0
      rw [if_pos rfl]
      go_enter Tryz.func59, Tryz.ntmps59
      go_wp2_with fail
      generalize (w.alloc (.cells #[.int .i64 p.t, .int .i64 p.i, .string p.k] 36)) = w1 at *
      have b0 := InB.cell (w := w1) a0 (by have := HZ.out; omega)
      have b1 := InB.cell (w := w1) a1 (by have := HZ.out; omega)
      have b2 := InB.cell (w := w1) a2 (by have := HZ.out; omega)
      have b3 := InB.cell (w := w1) a3 (by have := HZ.out; omega)
      have q0 := InB.cell (w := w1) p0 (by have := HZ.out; omega)
      have q1 := InB.cell (w := w1) p1 (by have := HZ.out; omega)
      have q2 := InB.cell (w := w1) p2 (by have := HZ.out; omega)
      have ne1 := inB_ne w1
      refine wp_region_inB (by kernel_rfl) (by kernel_rfl) ?_
      repeat (go_big_quiet_step (first
        | (go_at_call 62; exact Calls.inB (C1.out _))))
      refine wpQuiet_nil ?_
      rintro w2 ⟨⟨w3, hb2⟩, h9⟩
      obtain rfl : w2 = w3 := h9
      clear b0 b1 b2 b3 q0 q1 q2 ne1
      have p0' := (hb2.cell (p := ⟨w.heap.size, 0, none⟩) (by have := HZ.out; show w.heap.size < _; omega)).trans p0
      have p1' := (hb2.cell (p := ⟨w.heap.size, 1, none⟩) (by have := HZ.out; show w.heap.size < _; omega)).trans p1
      have p2' := (hb2.cell (p := ⟨w.heap.size, 2, none⟩) (by have := HZ.out; show w.heap.size < _; omega)).trans p2
      have HB2 : Hid (Blk w2 lb #[.int .i64 q.t, .int .i64 q.i, .string q.k, .bool true] 94) := HB.out.on hb2
      have HF2 : Hid (Frm w w2 (fun k => k = lb)) := HF.out.trans (Frm.of_below (F := fun k => k = lb) hb2) (fun k hk => .inl hk)
      clear a0 a1 a2 a3 f0 f1 f2 f3 p0 p1 p2 hb2 HB HF HZ
      have a0 := HB2.out.cell (i := 0) rfl
      have a1 := HB2.out.cell (i := 1) rfl
      have a2 := HB2.out.cell (i := 2) rfl
      have a3 := HB2.out.cell (i := 3) rfl
      have f0 := HB2.out.frozen 0
      have f1 := HB2.out.frozen 1
      have f2 := HB2.out.frozen 2
      have f3 := HB2.out.frozen 3
      go_wp2_with fail
      go_returns
      exact ⟨rfl, (((HB2.out.set 0 _).set 1 _).set 2 _).set 3 _, (((HF2.out.trans (frm_set _ lb 0 _ (F := fun k => k = lb) (.inl rfl)) (fun k hk => .inl hk)).trans (frm_set _ lb 1 _ (F := fun k => k = lb) (.inl rfl)) (fun k hk => .inl hk)).trans (frm_set _ lb 2 _ (F := fun k => k = lb) (.inl rfl)) (fun k hk => .inl hk)).trans (frm_set _ lb 3 _ (F := fun k => k = lb) (.inl rfl)) (fun k hk => .inl hk)⟩

end Go.Proofs.YtcknhjabdjbjiabGreat

namespace Go.Proofs.YtcknhjabdjbjiabGreat
open Go.RowKit
set_option maxRecDepth 100000

theorem cell_block {w w' : World} {b o : Nat} (h : w'.heap[b]? = w.heap[b]?) : w'.cell? ⟨b, o, none⟩ = w.cell? ⟨b, o, none⟩ := by
  simp only [World.cell?, h]
theorem RowP.frm {w w' : World} {F : Nat → Prop} {p : Option Addr} {L : List Pt} (h : RowP w w.heap.size p L) (hf : Frm w w' F) (hn : ∀ b o, p = some ⟨b, o, none⟩ → b < w.heap.size → L ≠ [] → ¬ F b) : RowP w' w'.heap.size p L := by
  intro i hi
  obtain ⟨b, o, e, hb, c0, c1, c2⟩ := h i hi
  have k : ∀ q, w'.cell? ⟨b, q, none⟩ = w.cell? ⟨b, q, none⟩ := fun q => cell_block (hf.block b hb (hn b o e hb (List.ne_nil_of_length_pos (by omega))))
  exact ⟨b, o, e, Nat.lt_of_lt_of_le hb hf.size, (k _).trans c0, (k _).trans c1, (k _).trans c2⟩
theorem run_makeP (n : Int) (w : World) : (Instr.makeMap 106 (some (.int .i64 n))).run Tryz.prog w = .ok (.map (some w.heap.size)) (w.alloc (.map #[] 0)) := by
  unfold Instr.makeMap
  simp [run_underlying Tryz.underlying106, asInt, go_sem]


set_option maxHeartbeats 8000000 in
theorem seeShared_any (S : Pt → Prop) (o : Option Pt) (A B : List Pt) (pa pb : Option Addr) (ca cb lb : Nat) (w : World) (hM : IsMin S o) (hL : Blk w lb (lC o) 94) (hA : RowP w w.heap.size pa A) (hB : RowP w w.heap.size pb B)
    (hla : A.length ≤ 4398046511104) (hlb : B.length ≤ 4398046511104) (hna : ∀ b o, pa = some ⟨b, o, none⟩ → A ≠ [] → ¬ b = lb) (hnb : ∀ b o, pb = some ⟨b, o, none⟩ → B ≠ [] → ¬ b = lb) :
    Calls Tryz.prog 43 #[ptr1 lb, .slice pa A.length ca, .slice pb B.length cb] w fun e w' => e = .returned (.tuple #[]) ∧ ∃ o', IsMin (fun x => S x ∨ (x ∈ A ∧ x ∈ B)) o' ∧ Blk w' lb (lC o') 94 ∧ Frm w w' (fun k => k = lb) := by
  have HA : Hid (RowP w w.heap.size pa A) := hA
  have HB : Hid (RowP w w.heap.size pb B) := hB
  have HL : Hid (Blk w lb (lC o) 94) := hL
  have HM : Hid (IsMin S o) := hM
  have HNA : Hid (∀ b o, pa = some ⟨b, o, none⟩ → A ≠ [] → ¬ b = lb) := hna
  have HNB : Hid (∀ b o, pb = some ⟨b, o, none⟩ → B ≠ [] → ¬ b = lb) := hnb
  clear hA hB hL hM hna hnb
  by_cases hl : B.length < A.length
  · have HNne : Hid (∀ b o, pa = some ⟨b, o, none⟩ → A ≠ [] → ¬ b = lb) := HNA.out
    have hmb : MapP (w.alloc (.map #[] 0)) w.heap.size [] := MapP.made w
    have hz1 : (w.alloc (.map #[] 0)).heap.size = w.heap.size + 1 := by simp
    have HW1 : Hid (MapP (w.alloc (.map #[] 0)) w.heap.size [] ∧ Below w.heap.size w (w.alloc (.map #[] 0)) ∧ (w.alloc (.map #[] 0)).heap.size = w.heap.size + 1) := ⟨hmb, (Below.refl _ _).alloc (Nat.le_refl _) _, hz1⟩
    clear hmb hz1
    have hmk := run_makeP
    go_enter Tryz.func43, Tryz.ntmps43
    go_wp2_with fail
    generalize w.alloc (.map #[] 0) = w1 at *
    go_loopw [25] (fun i wr => ∃ (j : Nat) (K : List Pt), j ≤ B.length ∧ i = .int .i64 (j : Int) ∧ Hid (MapP wr w.heap.size K) ∧ Hid (∀ x, x ∈ K ↔ x ∈ B.take j) ∧ Hid (Frm w1 wr (fun k => k = w.heap.size))) (fun i _ => B.length - (intOf i).toNat)
    case atStart => exact ⟨0, [], Nat.zero_le _, by go_num, HW1.out.1, fun x => by simp, Frm.refl _ _⟩
    case round =>
      obtain ⟨j, K, hj, rfl, HK, HKm, HFr⟩ := hrel
      by_cases hj0 : j = B.length
      · subst hj0
        rename World => w2
        have HKM : Hid (∀ x, x ∈ K ↔ x ∈ B) := fun x => by rw [HKm.out x, List.take_of_length_le (Nat.le_refl _)]
        have HF2 : Hid (Frm w w2 (fun k => k = w.heap.size)) := (Frm.of_below (F := fun k => k = w.heap.size) HW1.out.2.1).trans HFr.out (fun k hk => .inl hk)
        have HBl : Hid (Blk w2 lb (lC o) 94 ∧ lb < w.heap.size) := ⟨HL.out.frm HF2.out (by have := HL.out.lt; omega), HL.out.lt⟩
        have HRn : Hid (RowP w2 w2.heap.size pa A) := HA.out.frm HF2.out (fun b o e hlt _ hb => by omega)
        have HSz : Hid (w.heap.size < w2.heap.size) := HK.out.lt
        clear HKm HFr HW1
        go_wp2_with fail
        go_loopw [35] (fun i wr => ∃ (j2 : Nat) (o2 : Option Pt), j2 ≤ A.length ∧ i = .int .i64 (j2 : Int) ∧ Hid (IsMin (fun x => S x ∨ (x ∈ B ∧ x ∈ A.take j2)) o2) ∧ Hid (Blk wr lb (lC o2) 94) ∧ Hid (Frm w2 wr (fun k => k = lb))) (fun i _ => A.length - (intOf i).toNat)
        case atStart => exact ⟨0, o, Nat.zero_le _, by go_num, HM.out.ext (fun x => by simp), HBl.out.1, Frm.refl _ _⟩
        case round =>
          obtain ⟨j2, o2, hj2, rfl, HM2, HB2, HFr2⟩ := hrel
          by_cases hj3 : j2 = A.length
          · subst hj3
            go_wp2_with fail
            go_returns
            refine ⟨rfl, o2, HM2.out.ext (fun x => by rw [List.take_of_length_le (Nat.le_refl _)]; exact ⟨fun h => h.imp id (fun h => ⟨h.2, h.1⟩), fun h => h.imp id (fun h => ⟨h.2, h.1⟩)⟩), HB2.out, ?_⟩
            exact ((HF2.out.mono (G := fun k => k = lb) (fun k hk => .inr (by omega))).trans HFr2.out (fun k hk => .inl hk))
          · have hj4 : j2 < A.length := by omega
            obtain ⟨b, q, hp, hb, c0, c1, c2⟩ := (HRn.out.frm HFr2.out (fun b o e _ hne hb => HNne.out b o e hne hb)) j2 hj4
            have HKw : Hid (MapP wr w.heap.size K) := HK.out.of_block (HFr2.out.block _ HSz.out (by have := HBl.out.2; omega))
            have hmt := take_mem A j2 hj4
            obtain ⟨x, hx⟩ : ∃ x, x = A[j2] := ⟨_, rfl⟩
            rw [← hx] at c0 c1 c2 hmt
            have HMT : Hid (∀ y, y ∈ A.take (j2 + 1) ↔ y ∈ A.take j2 ∨ y = x) := hmt
            clear hx hmt
            have hal : Below wr.heap.size wr (wr.alloc (.cells #[.int .i64 x.t, .int .i64 x.i, .string x.k] 36)) := (Below.refl _ _).alloc (Nat.le_refl _) _
            have hlk := (HKw.out.on hal).look x
            have hz3 : (wr.alloc (.cells #[.int .i64 x.t, .int .i64 x.i, .string x.k] 36)).heap.size = wr.heap.size + 1 := by simp
            have hP3 := Blk.new wr #[.int .i64 x.t, .int .i64 x.i, .string x.k] 36
            have hP4 := hP3.on (w' := (wr.alloc (.cells #[.int .i64 x.t, .int .i64 x.i, .string x.k] 36)).alloc (.cells #[] 107)) ((Below.refl _ _).alloc (Nat.le_refl _) _)
            have hal2 : Below wr.heap.size wr ((wr.alloc (.cells #[.int .i64 x.t, .int .i64 x.i, .string x.k] 36)).alloc (.cells #[] 107)) := hal.alloc (by rw [hz3]; omega) _
            have p0 := hP4.cell (i := 0) rfl
            have p1 := hP4.cell (i := 1) rfl
            have p2 := hP4.cell (i := 2) rfl
            have p0' := hP3.cell (i := 0) rfl
            have p1' := hP3.cell (i := 1) rfl
            have p2' := hP3.cell (i := 2) rfl
            have HAL : Hid (Below wr.heap.size wr ((wr.alloc (.cells #[.int .i64 x.t, .int .i64 x.i, .string x.k] 36)).alloc (.cells #[] 107))) := hal2
            subst hp
            clear hal hal2 hP3 hP4 hz3
            by_cases hin : x ∈ K
            · rw [decide_eq_true hin] at hlk
              have HIn : Hid (x ∈ B) := (HKM.out x).1 hin
              clear hin
              have C1 : Hid (Calls Tryz.prog 59 #[ptr1 lb, PV x] ((wr.alloc (.cells #[.int .i64 x.t, .int .i64 x.i, .string x.k] 36)).alloc (.cells #[] 107)) fun e w' => e = .returned (.tuple #[]) ∧ Blk w' lb (lC (minO o2 x)) 94 ∧ Frm ((wr.alloc (.cells #[.int .i64 x.t, .int .i64 x.i, .string x.k] 36)).alloc (.cells #[] 107)) w' (fun k => k = lb)) := see_any o2 x lb _ (HB2.out.on HAL.out)
              go_wp2_with fail
              refine C1.out.mono ?_
              rintro e w4 ⟨rfl, hb4, hf4⟩
              have HB4 : Hid (Blk w4 lb (lC (minO o2 x)) 94) := hb4
              have HF4 : Hid (Frm w2 w4 (fun k => k = lb)) := (HFr2.out.trans (Frm.of_below (F := fun k => k = lb) HAL.out) (fun k hk => .inl hk)).trans hf4 (fun k hk => .inl hk)
              clear hb4 hf4 C1
              go_wp2_with fail
              go_roundw
              case rel => exact ⟨j2 + 1, minO o2 x, by omega, by go_num, (HM2.out.add x).ext (fun y => by
                rw [HMT.out y]
                constructor
                · rintro ((h | ⟨h1, h2⟩) | rfl)
                  · exact .inl h
                  · exact .inr ⟨h1, .inl h2⟩
                  · exact .inr ⟨HIn.out, .inr rfl⟩
                · rintro (h | ⟨h1, h2 | rfl⟩)
                  · exact .inl (.inl h)
                  · exact .inl (.inr ⟨h1, h2⟩)
                  · exact .inr rfl), HB4.out, HF4.out⟩
              case measure => simp [intOf]; omega
            · rw [decide_eq_false hin] at hlk
              have HIn : Hid (¬ x ∈ B) := fun h => hin ((HKM.out x).2 h)
              clear hin
              go_wp2_with fail
              go_roundw
              case rel => exact ⟨j2 + 1, o2, by omega, by go_num, HM2.out.ext (fun y => by
                rw [HMT.out y]
                constructor
                · rintro (h | ⟨h1, h2⟩)
                  · exact .inl h
                  · exact .inr ⟨h1, .inl h2⟩
                · rintro (h | ⟨h1, h2 | rfl⟩)
                  · exact .inl h
                  · exact .inr ⟨h1, h2⟩
                  · exact absurd h1 HIn.out), HB2.out.on HAL.out, HFr2.out.trans (Frm.of_below (F := fun k => k = lb) HAL.out) (fun k hk => .inl hk)⟩
              case measure => simp [intOf]; omega
      · have hj1 : j < B.length := by omega
        have HF2 : Hid (Frm w wr (fun k => k = w.heap.size)) := (Frm.of_below (F := fun k => k = w.heap.size) HW1.out.2.1).trans HFr.out (fun k hk => .inl hk)
        obtain ⟨b, q, hp, hb, c0, c1, c2⟩ := (HB.out.frm HF2.out (fun b o e hlt _ hb => by omega)) j hj1
        have hmt := take_mem B j hj1
        obtain ⟨x, hx⟩ : ∃ x, x = B[j] := ⟨_, rfl⟩
        rw [← hx] at c0 c1 c2 hmt
        have HMT : Hid (∀ y, y ∈ B.take (j + 1) ↔ y ∈ B.take j ∨ y = x) := hmt
        clear hx hmt
        have hal : Below wr.heap.size wr (wr.alloc (.cells #[.int .i64 x.t, .int .i64 x.i, .string x.k] 36)) := (Below.refl _ _).alloc (Nat.le_refl _) _
        have hP3 := Blk.new wr #[.int .i64 x.t, .int .i64 x.i, .string x.k] 36
        have p0 := hP3.cell (i := 0) rfl
        have p1 := hP3.cell (i := 1) rfl
        have p2 := hP3.cell (i := 2) rfl
        obtain ⟨wd, hst, hmd, hoth, hsz, hos, htp, hou⟩ := (HK.out.on hal).store x
        have HFD : Hid (Frm w1 wd (fun k => k = w.heap.size)) := (HFr.out.trans (Frm.of_below (F := fun k => k = w.heap.size) hal) (fun k hk => .inl hk)).trans ⟨hos, htp, hou, by rw [hsz]; exact Nat.le_refl _, fun k _ hn => hoth k hn⟩ (G := fun k => k = w.heap.size) (fun k hk => .inl hk)
        have HMD : Hid (MapP wd w.heap.size (if x ∈ K then K else K ++ [x])) := hmd
        subst hp
        clear hal hP3 hmd hoth hsz hos htp hou
        go_wp2_with fail
        go_roundw
        case rel => exact ⟨j + 1, _, by omega, by go_num, HMD.out, fun y => by
          rw [HMT.out y, ← HKm.out y]
          by_cases hx : x ∈ K
          · rw [if_pos hx]
            exact ⟨.inl, fun h => h.elim id (fun e => e ▸ hx)⟩
          · rw [if_neg hx, List.mem_append, List.mem_singleton], HFD.out⟩
        case measure => simp [intOf]; omega
  · have HNne : Hid (∀ b o, pb = some ⟨b, o, none⟩ → B ≠ [] → ¬ b = lb) := HNB.out
    have hmb : MapP (w.alloc (.map #[] 0)) w.heap.size [] := MapP.made w
    have hz1 : (w.alloc (.map #[] 0)).heap.size = w.heap.size + 1 := by simp
    have HW1 : Hid (MapP (w.alloc (.map #[] 0)) w.heap.size [] ∧ Below w.heap.size w (w.alloc (.map #[] 0)) ∧ (w.alloc (.map #[] 0)).heap.size = w.heap.size + 1) := ⟨hmb, (Below.refl _ _).alloc (Nat.le_refl _) _, hz1⟩
    clear hmb hz1
    have hmk := run_makeP
    go_enter Tryz.func43, Tryz.ntmps43
    go_wp2_with fail
    generalize w.alloc (.map #[] 0) = w1 at *
    go_loopw [25] (fun i wr => ∃ (j : Nat) (K : List Pt), j ≤ A.length ∧ i = .int .i64 (j : Int) ∧ Hid (MapP wr w.heap.size K) ∧ Hid (∀ x, x ∈ K ↔ x ∈ A.take j) ∧ Hid (Frm w1 wr (fun k => k = w.heap.size))) (fun i _ => A.length - (intOf i).toNat)
    case atStart => exact ⟨0, [], Nat.zero_le _, by go_num, HW1.out.1, fun x => by simp, Frm.refl _ _⟩
    case round =>
      obtain ⟨j, K, hj, rfl, HK, HKm, HFr⟩ := hrel
      by_cases hj0 : j = A.length
      · subst hj0
        rename World => w2
        have HKM : Hid (∀ x, x ∈ K ↔ x ∈ A) := fun x => by rw [HKm.out x, List.take_of_length_le (Nat.le_refl _)]
        have HF2 : Hid (Frm w w2 (fun k => k = w.heap.size)) := (Frm.of_below (F := fun k => k = w.heap.size) HW1.out.2.1).trans HFr.out (fun k hk => .inl hk)
        have HBl : Hid (Blk w2 lb (lC o) 94 ∧ lb < w.heap.size) := ⟨HL.out.frm HF2.out (by have := HL.out.lt; omega), HL.out.lt⟩
        have HRn : Hid (RowP w2 w2.heap.size pb B) := HB.out.frm HF2.out (fun b o e hlt _ hb => by omega)
        have HSz : Hid (w.heap.size < w2.heap.size) := HK.out.lt
        clear HKm HFr HW1
        go_wp2_with fail
        go_loopw [35] (fun i wr => ∃ (j2 : Nat) (o2 : Option Pt), j2 ≤ B.length ∧ i = .int .i64 (j2 : Int) ∧ Hid (IsMin (fun x => S x ∨ (x ∈ A ∧ x ∈ B.take j2)) o2) ∧ Hid (Blk wr lb (lC o2) 94) ∧ Hid (Frm w2 wr (fun k => k = lb))) (fun i _ => B.length - (intOf i).toNat)
        case atStart => exact ⟨0, o, Nat.zero_le _, by go_num, HM.out.ext (fun x => by simp), HBl.out.1, Frm.refl _ _⟩
        case round =>
          obtain ⟨j2, o2, hj2, rfl, HM2, HB2, HFr2⟩ := hrel
          by_cases hj3 : j2 = B.length
          · subst hj3
            go_wp2_with fail
            go_returns
            refine ⟨rfl, o2, HM2.out.ext (fun x => by rw [List.take_of_length_le (Nat.le_refl _)]), HB2.out, ?_⟩
            exact ((HF2.out.mono (G := fun k => k = lb) (fun k hk => .inr (by omega))).trans HFr2.out (fun k hk => .inl hk))
          · have hj4 : j2 < B.length := by omega
            obtain ⟨b, q, hp, hb, c0, c1, c2⟩ := (HRn.out.frm HFr2.out (fun b o e _ hne hb => HNne.out b o e hne hb)) j2 hj4
            have HKw : Hid (MapP wr w.heap.size K) := HK.out.of_block (HFr2.out.block _ HSz.out (by have := HBl.out.2; omega))
            have hmt := take_mem B j2 hj4
            obtain ⟨x, hx⟩ : ∃ x, x = B[j2] := ⟨_, rfl⟩
            rw [← hx] at c0 c1 c2 hmt
            have HMT : Hid (∀ y, y ∈ B.take (j2 + 1) ↔ y ∈ B.take j2 ∨ y = x) := hmt
            clear hx hmt
            have hal : Below wr.heap.size wr (wr.alloc (.cells #[.int .i64 x.t, .int .i64 x.i, .string x.k] 36)) := (Below.refl _ _).alloc (Nat.le_refl _) _
            have hlk := (HKw.out.on hal).look x
            have hz3 : (wr.alloc (.cells #[.int .i64 x.t, .int .i64 x.i, .string x.k] 36)).heap.size = wr.heap.size + 1 := by simp
            have hP3 := Blk.new wr #[.int .i64 x.t, .int .i64 x.i, .string x.k] 36
            have hP4 := hP3.on (w' := (wr.alloc (.cells #[.int .i64 x.t, .int .i64 x.i, .string x.k] 36)).alloc (.cells #[] 107)) ((Below.refl _ _).alloc (Nat.le_refl _) _)
            have hal2 : Below wr.heap.size wr ((wr.alloc (.cells #[.int .i64 x.t, .int .i64 x.i, .string x.k] 36)).alloc (.cells #[] 107)) := hal.alloc (by rw [hz3]; omega) _
            have p0 := hP4.cell (i := 0) rfl
            have p1 := hP4.cell (i := 1) rfl
            have p2 := hP4.cell (i := 2) rfl
            have p0' := hP3.cell (i := 0) rfl
            have p1' := hP3.cell (i := 1) rfl
            have p2' := hP3.cell (i := 2) rfl
            have HAL : Hid (Below wr.heap.size wr ((wr.alloc (.cells #[.int .i64 x.t, .int .i64 x.i, .string x.k] 36)).alloc (.cells #[] 107))) := hal2
            subst hp
            clear hal hal2 hP3 hP4 hz3
            by_cases hin : x ∈ K
            · rw [decide_eq_true hin] at hlk
              have HIn : Hid (x ∈ A) := (HKM.out x).1 hin
              clear hin
              have C1 : Hid (Calls Tryz.prog 59 #[ptr1 lb, PV x] ((wr.alloc (.cells #[.int .i64 x.t, .int .i64 x.i, .string x.k] 36)).alloc (.cells #[] 107)) fun e w' => e = .returned (.tuple #[]) ∧ Blk w' lb (lC (minO o2 x)) 94 ∧ Frm ((wr.alloc (.cells #[.int .i64 x.t, .int .i64 x.i, .string x.k] 36)).alloc (.cells #[] 107)) w' (fun k => k = lb)) := see_any o2 x lb _ (HB2.out.on HAL.out)
              go_wp2_with fail
              refine C1.out.mono ?_
              rintro e w4 ⟨rfl, hb4, hf4⟩
              have HB4 : Hid (Blk w4 lb (lC (minO o2 x)) 94) := hb4
              have HF4 : Hid (Frm w2 w4 (fun k => k = lb)) := (HFr2.out.trans (Frm.of_below (F := fun k => k = lb) HAL.out) (fun k hk => .inl hk)).trans hf4 (fun k hk => .inl hk)
              clear hb4 hf4 C1
              go_wp2_with fail
              go_roundw
              case rel => exact ⟨j2 + 1, minO o2 x, by omega, by go_num, (HM2.out.add x).ext (fun y => by
                rw [HMT.out y]
                constructor
                · rintro ((h | ⟨h1, h2⟩) | rfl)
                  · exact .inl h
                  · exact .inr ⟨h1, .inl h2⟩
                  · exact .inr ⟨HIn.out, .inr rfl⟩
                · rintro (h | ⟨h1, h2 | rfl⟩)
                  · exact .inl (.inl h)
                  · exact .inl (.inr ⟨h1, h2⟩)
                  · exact .inr rfl), HB4.out, HF4.out⟩
              case measure => simp [intOf]; omega
            · rw [decide_eq_false hin] at hlk
              have HIn : Hid (¬ x ∈ A) := fun h => hin ((HKM.out x).2 h)
              clear hin
              go_wp2_with fail
              go_roundw
              case rel => exact ⟨j2 + 1, o2, by omega, by go_num, HM2.out.ext (fun y => by
                rw [HMT.out y]
                constructor
                · rintro (h | ⟨h1, h2⟩)
                  · exact .inl h
                  · exact .inr ⟨h1, .inl h2⟩
                · rintro (h | ⟨h1, h2 | rfl⟩)
                  · exact .inl h
                  · exact .inr ⟨h1, h2⟩
                  · exact absurd h1 HIn.out), HB2.out.on HAL.out, HFr2.out.trans (Frm.of_below (F := fun k => k = lb) HAL.out) (fun k hk => .inl hk)⟩
              case measure => simp [intOf]; omega
      · have hj1 : j < A.length := by omega
        have HF2 : Hid (Frm w wr (fun k => k = w.heap.size)) := (Frm.of_below (F := fun k => k = w.heap.size) HW1.out.2.1).trans HFr.out (fun k hk => .inl hk)
        obtain ⟨b, q, hp, hb, c0, c1, c2⟩ := (HA.out.frm HF2.out (fun b o e hlt _ hb => by omega)) j hj1
        have hmt := take_mem A j hj1
        obtain ⟨x, hx⟩ : ∃ x, x = A[j] := ⟨_, rfl⟩
        rw [← hx] at c0 c1 c2 hmt
        have HMT : Hid (∀ y, y ∈ A.take (j + 1) ↔ y ∈ A.take j ∨ y = x) := hmt
        clear hx hmt
        have hal : Below wr.heap.size wr (wr.alloc (.cells #[.int .i64 x.t, .int .i64 x.i, .string x.k] 36)) := (Below.refl _ _).alloc (Nat.le_refl _) _
        have hP3 := Blk.new wr #[.int .i64 x.t, .int .i64 x.i, .string x.k] 36
        have p0 := hP3.cell (i := 0) rfl
        have p1 := hP3.cell (i := 1) rfl
        have p2 := hP3.cell (i := 2) rfl
        obtain ⟨wd, hst, hmd, hoth, hsz, hos, htp, hou⟩ := (HK.out.on hal).store x
        have HFD : Hid (Frm w1 wd (fun k => k = w.heap.size)) := (HFr.out.trans (Frm.of_below (F := fun k => k = w.heap.size) hal) (fun k hk => .inl hk)).trans ⟨hos, htp, hou, by rw [hsz]; exact Nat.le_refl _, fun k _ hn => hoth k hn⟩ (G := fun k => k = w.heap.size) (fun k hk => .inl hk)
        have HMD : Hid (MapP wd w.heap.size (if x ∈ K then K else K ++ [x])) := hmd
        subst hp
        clear hal hP3 hmd hoth hsz hos htp hou
        go_wp2_with fail
        go_roundw
        case rel => exact ⟨j + 1, _, by omega, by go_num, HMD.out, fun y => by
          rw [HMT.out y, ← HKm.out y]
          by_cases hx : x ∈ K
          · rw [if_pos hx]
            exact ⟨.inl, fun h => h.elim id (fun e => e ▸ hx)⟩
          · rw [if_neg hx, List.mem_append, List.mem_singleton], HFD.out⟩
        case measure => simp [intOf]; omega

end Go.Proofs.YtcknhjabdjbjiabGreat
