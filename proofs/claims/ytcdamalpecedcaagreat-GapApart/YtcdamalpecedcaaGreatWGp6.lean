/- Layer 13: inWay; what claims are made of. -/
import Derived.Test.YtcdamalpecedcaaGreatWGp5
namespace Go.Proofs.YtcdamalpecedcaaGreat
open Go.RowKit
set_option maxRecDepth 100000

theorem OwnR.len {w : World} {B : Nat} {v : Value} {L : List Rg} (h : OwnR w B v L) : ∃ (p : Option Addr) (c : Nat), v = .slice p L.length c ∧ L.length ≤ c ∧ (p = none → c = 0) ∧ RowR w w.heap.size p L := by
  obtain ⟨p, c, rfl, hr⟩ := h.row
  obtain ⟨p', c', e, hle⟩ := owns_len (show World.ownsRow _ _ _ _ _ _ _ from h)
  injection e with e1 e2 e3
  refine ⟨p, c, rfl, by rw [e3]; exact hle, fun hp => ?_, hr⟩
  rcases h.form with ⟨e9, _⟩ | ⟨g, cap, e9, _⟩
  · injection e9
  · injection e9 with e8
    rw [hp] at e8
    cases e8

set_option maxHeartbeats 4000000 in
theorem inWay_any (a b : Cl) (B1 B2 B3 B4 : Nat) (va vo vb vp : Value) (w : World) (h1 : OwnR w B1 va a.all) (h2 : OwnR w B2 vo a.alo) (h3 : OwnR w B3 vb b.all) (h4 : OwnR w B4 vp b.alo) :
    Calls Tryz.prog 60 #[.agg #[va, vo], .agg #[vb, vp]] w fun e w' => e = .returned (.bool (inWayB a b)) ∧ Below w.heap.size w w' := by
  obtain ⟨p1, c1, rfl, l1, -, r1⟩ := h1.len
  obtain ⟨p2, c2, rfl, l2, -, r2⟩ := h2.len
  obtain ⟨p3, c3, rfl, l3, -, r3⟩ := h3.len
  obtain ⟨p4, c4, rfl, l4, -, r4⟩ := h4.len
  have HI : Hid (inWayB a b = (meetB a.alo b.all || meetB a.all b.alo)) := by show inWayB a b = _; rfl
  obtain ⟨aX, aB, aS⟩ := blk_new w #[.slice p1 a.all.length c1, .slice p2 a.alo.length c2] 84
  obtain ⟨bX, bB, bS⟩ := blk_new (w.alloc (.cells #[.slice p1 a.all.length c1, .slice p2 a.alo.length c2] 84)) #[.slice p3 b.all.length c3, .slice p4 b.alo.length c4] 84
  rw [aS] at bX
  have hB2 : Below w.heap.size w ((w.alloc (.cells #[.slice p1 a.all.length c1, .slice p2 a.alo.length c2] 84)).alloc (.cells #[.slice p3 b.all.length c3, .slice p4 b.alo.length c4] 84)) := aB.trans (bB.mono aB.size)
  have HX : Hid (Blk ((w.alloc (.cells #[.slice p1 a.all.length c1, .slice p2 a.alo.length c2] 84)).alloc (.cells #[.slice p3 b.all.length c3, .slice p4 b.alo.length c4] 84)) w.heap.size #[.slice p1 a.all.length c1, .slice p2 a.alo.length c2] 84) := aX.on bB
  have HY : Hid (Blk ((w.alloc (.cells #[.slice p1 a.all.length c1, .slice p2 a.alo.length c2] 84)).alloc (.cells #[.slice p3 b.all.length c3, .slice p4 b.alo.length c4] 84)) (w.heap.size + 1) #[.slice p3 b.all.length c3, .slice p4 b.alo.length c4] 84) := bX
  have HC : Hid (∀ (w1 : World), Below w.heap.size w w1 → Calls Tryz.prog 70 #[.slice p2 a.alo.length c2, .slice p3 b.all.length c3] w1 (fun e w' => e = .returned (.bool (meetB a.alo b.all)) ∧ Below w1.heap.size w1 w') ∧ Calls Tryz.prog 70 #[.slice p1 a.all.length c1, .slice p4 b.alo.length c4] w1 (fun e w' => e = .returned (.bool (meetB a.all b.alo)) ∧ Below w1.heap.size w1 w')) := fun w1 hb => ⟨gmeet_any _ _ _ _ _ _ w1 ((r2.keep hb).mono hb.size) ((r3.keep hb).mono hb.size) l2 l3, gmeet_any _ _ _ _ _ _ w1 ((r1.keep hb).mono hb.size) ((r4.keep hb).mono hb.size) l1 l4⟩
  have HB : Hid (Below w.heap.size w ((w.alloc (.cells #[.slice p1 a.all.length c1, .slice p2 a.alo.length c2] 84)).alloc (.cells #[.slice p3 b.all.length c3, .slice p4 b.alo.length c4] 84))) := hB2
  clear h1 h2 h3 h4 l1 l2 l3 l4 r1 r2 r3 r4 aX aB aS bX bB bS hB2
  generalize meetB a.alo b.all = m1 at *
  generalize meetB a.all b.alo = m2 at *
  generalize a.all.length = n1 at *
  generalize a.alo.length = n2 at *
  generalize b.all.length = n3 at *
  generalize b.alo.length = n4 at *
  go_enter Tryz.func60, Tryz.ntmps60
  go_upto_region 1 with fail
  generalize ((w.alloc (.cells #[.slice p1 n1 c1, .slice p2 n2 c2] 84)).alloc (.cells #[.slice p3 n3 c3, .slice p4 n4 c4] 84)) = w1 at *
  have x1 := Blk.cell (i := 1) HX.out rfl
  have y0 := Blk.cell (i := 0) HY.out rfl
  have C1 : Hid (Calls _ _ _ _ _) := (HC.out w1 HB.out).1
  go_wp2_with fail
  refine C1.out.mono ?_
  rintro e w2 ⟨rfl, hb2⟩
  have HB2 : Hid (Below w.heap.size w w2) := HB.out.trans (hb2.mono HB.out.size)
  have z0 := Blk.cell (i := 0) (HX.out.on hb2) rfl
  have z1 := Blk.cell (i := 1) (HY.out.on hb2) rfl
  have C2 : Hid (Calls _ _ _ _ _) := (HC.out w2 HB2.out).2
  clear hb2 C1 x1 y0
  cases m1 with
  | true =>
    go_wp2_with fail
    go_ret
    exact ⟨by rw [HI.out]; rfl, HB2.out⟩
  | false =>
    go_wp2_with fail
    refine C2.out.mono ?_
    rintro e w3 ⟨rfl, hb3⟩
    have HB3 : Hid (Below w.heap.size w w3) := HB2.out.trans (hb3.mono HB2.out.size)
    clear hb3 C2
    go_wp2_with fail
    go_ret
    exact ⟨by rw [HI.out]; rfl, HB3.out⟩

theorem emp_none {r : Rg} (h : r.emp = true) (k : ByteArray) : ¬ r.has k := by
  intro hk
  unfold Rg.emp emptyB at h
  simp only [Bool.and_eq_true, Bool.not_eq_true'] at h
  rcases hk.2 with h1 | h1
  · rw [h.1] at h1; cases h1
  · have h2 := lt_of_le_of_lt' hk.1 h1
    rw [h.2] at h2; cases h2
theorem union_keys {R L : List Rg} (hr : Rising R) (hm : ∀ r, r ∈ R ↔ r ∈ keepL L) : Sep (R.foldl stepU []) ∧ ∀ k, inL (R.foldl stepU []) k ↔ inL L k := by
  have hs : ∀ r ∈ R, r.some := by
    intro r hr'
    have h1 := (hm r).1 hr'
    unfold keepL at h1
    have h2 := (List.mem_filter.1 h1).2
    rw [Bool.not_eq_true'] at h2
    unfold Rg.emp emptyB at h2
    unfold Rg.some
    cases ho : r.op with
    | true => exact .inl rfl
    | false =>
      rw [ho] at h2
      simp at h2
      exact .inr h2
  obtain ⟨h1, h2, _⟩ := union_inv hr hs
  refine ⟨h1, fun k => (h2 k).trans ?_⟩
  constructor
  · rintro ⟨r, hr', hk⟩
    exact ⟨r, (List.mem_filter.1 ((hm r).1 hr')).1, hk⟩
  · rintro ⟨r, hr', hk⟩
    refine ⟨r, (hm r).2 (List.mem_filter.2 ⟨hr', ?_⟩), hk⟩
    rw [Bool.not_eq_true']
    cases he : r.emp with
    | false => rfl
    | true => exact absurd hk (emp_none he k)
/-- holds in memory -/
def RdH (w : World) (B : Nat) (q : Option Addr) (H : List Hd) : Prop := ∀ i (hi : i < H.length), ∃ b o, q = some ⟨b, o, none⟩ ∧ b < B ∧ w.cell? ⟨b, o + i * 4, none⟩ = some (.string H[i].r.lo) ∧ w.cell? ⟨b, o + i * 4 + 1, none⟩ = some (.string H[i].r.hi) ∧ w.cell? ⟨b, o + i * 4 + 2, none⟩ = some (.bool H[i].r.op) ∧ w.cell? ⟨b, o + i * 4 + 3, none⟩ = some (.bool H[i].al)
theorem RdH.keep {w w' : World} {B : Nat} {q : Option Addr} {H : List Hd} (h : RdH w B q H) (hb : Below B w w') : RdH w' B q H := by
  intro i hi
  obtain ⟨b, o, e, hlt, c0, c1, c2, c3⟩ := h i hi
  have k : ∀ n v, w.cell? ⟨b, n, none⟩ = some v → w'.cell? ⟨b, n, none⟩ = some v := fun n v hc => (hb.cell (p := ⟨b, n, none⟩) hlt).trans hc
  exact ⟨b, o, e, hlt, k _ _ c0, k _ _ c1, k _ _ c2, k _ _ c3⟩
theorem alls_snoc (H : List Hd) {i : Nat} (hi : i < H.length) : alls (H.take (i + 1)) = alls (H.take i) ++ [H[i].r] := by
  unfold alls
  rw [List.take_succ_eq_append_getElem hi, List.map_append]
  rfl
theorem alos_on {H : List Hd} {i : Nat} (hi : i < H.length) (h : H[i].al = true) : alos (H.take (i + 1)) = alos (H.take i) ++ [H[i].r] := by
  unfold alos
  rw [List.take_succ_eq_append_getElem hi, List.filter_append, List.map_append]
  simp [h]
theorem alos_off {H : List Hd} {i : Nat} (hi : i < H.length) (h : H[i].al = false) : alos (H.take (i + 1)) = alos (H.take i) := by
  unfold alos
  rw [List.take_succ_eq_append_getElem hi, List.filter_append, List.map_append]
  simp [h]
theorem alls_len (H : List Hd) (i : Nat) : (alls (H.take i)).length ≤ i := by
  unfold alls
  rw [List.length_map]
  exact List.length_take_le _ _
theorem alos_len (H : List Hd) (i : Nat) : (alos (H.take i)).length ≤ i := by
  unfold alos
  rw [List.length_map]
  exact Nat.le_trans (List.length_filter_le _ _) (List.length_take_le _ _)
end Go.Proofs.YtcdamalpecedcaaGreat
