/- ChainSaves: the law's walk. -/
import Derived.Test.YteddpogjpohacabWAwk8
import Derived.Test.YteddpogjpohacabMSav8
namespace Go.Proofs.Yteddpogjpohacab
open Go.RowKit
set_option maxRecDepth 100000

theorem box2_only {w : World} {g o : Nat} {k : IntKind} {n : Int} {q : Option Addr} {l c : Nat} {T : TypeId} {v : Value} (h : Box w g #[.int k n, .slice q l c] T) (hv : w.cell? ⟨g, o, none⟩ = some v) : (∃ k n, v = .int k n) ∨ ∃ q l c, v = .slice q l c := by
  unfold Box at h
  simp only [World.cell?, h] at hv
  match o, hv with
  | 0, hv => simp at hv; exact Or.inl ⟨_, _, hv.symm⟩
  | 1, hv => simp at hv; exact Or.inr ⟨_, _, _, hv.symm⟩
  | o + 2, hv => simp at hv
theorem RowV.offB {w : World} {B g i : Nat} {k : IntKind} {n : Int} {q : Option Addr} {l c : Nat} {T : TypeId} {p : Option Addr} {L : List Vl} (h : RowV w B p L) (hx : Box w g #[.int k n, .slice q l c] T) (x : Value) : RowV (w.setCell ⟨g, i, none⟩ x) B p L := by
  intro j hj
  obtain ⟨b, o, e, hb, c0, c1, c2, c3⟩ := h j hj
  have hne : b ≠ g := by
    intro e2
    subst e2
    rcases box2_only hx c2 with ⟨_, _, h2⟩ | ⟨_, _, _, h2⟩ <;> cases h2
  have kk : ∀ {m : Nat} {v : Option Value}, w.cell? ⟨b, m, none⟩ = v → (w.setCell ⟨g, i, none⟩ x).cell? ⟨b, m, none⟩ = v := fun {m v} hc => (World.cell?_setCell_other w _ _ x (fun e => hne (by injection e with e1; first | exact e1 | exact e1.symm))).trans hc
  exact ⟨b, o, e, hb, kk c0, kk c1, kk c2, kk c3⟩
theorem RdR.offB {kk : IntKind} {w : World} {B g i : Nat} {k : IntKind} {n : Int} {q : Option Addr} {l c : Nat} {T : TypeId} {p : Option Addr} {L : List Rw} (h : RdR kk w B p L) (hx : Box w g #[.int k n, .slice q l c] T) (x : Value) : RdR kk (w.setCell ⟨g, i, none⟩ x) B p L := by
  intro j hj
  obtain ⟨b, o, q1, d1, e, hb, c0, c1, c2, hr, hq⟩ := h j hj
  have hne : b ≠ g := by
    intro e2
    subst e2
    rcases box2_only hx c1 with ⟨_, _, h2⟩ | ⟨_, _, _, h2⟩ <;> cases h2
  have kk : ∀ {m : Nat} {v : Option Value}, w.cell? ⟨b, m, none⟩ = v → (w.setCell ⟨g, i, none⟩ x).cell? ⟨b, m, none⟩ = v := fun {m v} hc => (World.cell?_setCell_other w _ _ x (fun e => hne (by injection e with e1; first | exact e1 | exact e1.symm))).trans hc
  exact ⟨b, o, q1, d1, e, hb, kk c0, kk c1, kk c2, hr.offB hx x, hq⟩

set_option maxHeartbeats 8000000 in
theorem lawSaves (tx : Int) (W : List Rw) (p : Option Addr) (c : Nat) (lv : Int) (L : List Rw) (q : Option Addr) (d : Nat) (w : World) (hR : RdR .i64 w w.heap.size p W) (hsh : shortR W) (hlen : W.length + L.length ≤ 3518437208000) (hlv : lv ≤ 9223372036854775807) (hQ : RdR .i64 w w.heap.size q L) (hsL : shortR L) :
    Calls Try.prog 4 #[.agg #[.int .i64 tx, .slice p W.length c], .int .i64 lv, .slice q L.length d] w fun e w' => e = .returned (.bool true) ∧ Below w.heap.size w w' := by
  have HR : Hid (∀ w1, Below w.heap.size w w1 → RdR .i64 w1 w1.heap.size p W) := fun w1 h => hR.on h
  have HQ : Hid (∀ w1, Below w.heap.size w w1 → RdR .i64 w1 w1.heap.size q L) := fun w1 h => hQ.on h
  have HSL : Hid (shortR L) := hsL
  have HSW : Hid (shortR W) := hsh
  have CAw : Hid (∀ w1 : World, Calls Try.prog 7 #[] w1 fun e w' => e = .returned (.bool true) ∧ Below w1.heap.size w1 w') := awake_any
  have CM : Hid (∀ w1, Below w.heap.size w w1 → Calls Try.prog 10 #[.agg #[.int .i64 tx, .slice p W.length c]] w1 fun e w' => e = .returned (.bool (mayI tx W)) ∧ Below w1.heap.size w1 w') := fun w1 h => mayI_any W p c tx w1 (HR.out w1 h) (by omega)
  have CB : Hid (∀ w1, Below w.heap.size w w1 → Calls Try.prog 11 #[.agg #[.int .i64 tx, .slice p W.length c], .int .i64 lv] w1 fun e w' => (∃ v Z, e = .returned (.agg #[.int .i64 (bakT tx W lv), v]) ∧ Z.map Prod.fst = belL W lv ∧ OwnRs .i64 40 w' w1.heap.size v Z) ∧ Below w1.heap.size w1 w') := fun w1 h => back_any W p c tx lv w1 (HR.out w1 h) (by omega) HSW.out
  have CF : Hid (∀ (N : List Rw) (pn : Option Addr) (cn : Nat) w1, RdR .i64 w1 w1.heap.size pn N → N.length ≤ 3518437208780 → shortR N → Calls Try.prog 13 #[.agg #[.int .i64 tx, .slice pn N.length cn], .int .i64 lv] w1 fun e w' => (∃ v Z, e = .returned (.tuple #[.agg #[.int .i64 (fldT tx lv), v], .int .i64 (fldE lv)]) ∧ Z.map Prod.fst = fldL N lv ∧ OwnRs .i64 40 w' w1.heap.size v Z) ∧ Below w1.heap.size w1 w') := fun N pn cn w1 h1 h2 h3 => fold_any N pn cn tx lv w1 h1 h2 h3 hlv
  have CSe : Hid (∀ (N : List Rw) (pn : Option Addr) (cn : Nat) w1, RdR .i64 w1 w1.heap.size pn N → N.length ≤ 3518437208780 → shortR N → Calls Try.prog 14 #[.slice none 0 0, .agg #[.int .i64 tx, .slice pn N.length cn], .int .i64 tx, .int .u64 1] w1 fun e w' => (∃ v', e = .returned (.tuple #[v', .bool (shwB (seeR [] N tx tx 1))]) ∧ OwnV w' w1.heap.size v' (shwL (seeR [] N tx tx 1))) ∧ Below w1.heap.size w1 w') := fun N pn cn w1 h1 h2 h3 => see_any [] N none pn 0 cn tx tx 1 w1 (RdR.nil _ _ _) h1 (by simp) h2 (fun i hi => absurd hi (by simp)) h3
  have CBN : Hid (∀ (N : List Rw) (pn : Option Addr) (cn : Nat) w1, RdR .i64 w1 w1.heap.size pn N → N.length ≤ 3518437208780 → shortR N → Calls Try.prog 11 #[.agg #[.int .i64 tx, .slice pn N.length cn], .int .i64 lv] w1 fun e w' => (∃ v Z, e = .returned (.agg #[.int .i64 (bakT tx N lv), v]) ∧ Z.map Prod.fst = belL N lv ∧ OwnRs .i64 40 w' w1.heap.size v Z) ∧ Below w1.heap.size w1 w') := fun N pn cn w1 h1 h2 h3 => back_any N pn cn tx lv w1 h1 h2 h3
  have HBs : Hid (shortR (belL W lv) ∧ (belL W lv).length ≤ 17592186043904) := ⟨(Sv.start (lv := lv) hsh).sh, by have := belL_len W lv; omega⟩
  have HSv0 : Hid (Sv W lv 0 (belL W lv) lv) := Sv.start hsh
  have HBt : Hid (bakT tx W lv = if (belL W lv).length = 0 then 0 else tx) := rfl
  have HBt2 : Hid (∀ j N a, Sv W lv j N a → bakT tx N lv = bakT tx W lv ∧ belL N lv = belL W lv) := fun j N a h => ⟨sav_bak h, h.bel⟩
  clear hR hsh HR hQ hsL
  generalize bakT tx W lv = bt at *
  have hlw : W.length + L.length ≤ 3518437208000 := hlen
  obtain ⟨wl, hwl⟩ : ∃ wl, W.length = wl := ⟨_, rfl⟩
  have hm0 : mayI tx W = true → 0 ≤ tx := fun h1 => by
    unfold mayI at h1
    simp only [Bool.and_eq_true, Bool.not_eq_true', decide_eq_false_iff_not] at h1
    omega
  have HWl : Hid (W.length = wl) := hwl
  generalize mayI tx W = mb at *
  rw [hwl] at CM CB hlw ⊢
  clear hwl hlen
  have HX0 : Hid (Box (w.alloc (.cells #[.int .i64 tx, .slice p wl c] 36)) w.heap.size #[.int .i64 tx, .slice p wl c] 36) := Box.new w #[.int .i64 tx, .slice p wl c] 36
  have HB0 : Hid (Below w.heap.size w (w.alloc (.cells #[.int .i64 tx, .slice p wl c] 36))) := by
    show Below _ _ _
    go_grown
  go_enter Try.func4, Try.ntmps4
  go_wp2_with fail
  generalize w.alloc (.cells #[.int .i64 tx, .slice p wl c] 36) = w0 at *
  refine (CM.out _ HB0.out).mono ?_
  rintro e w1 ⟨rfl, hb1⟩
  have HB1 : Hid (Below w.heap.size w w1) := HB0.out.trans (hb1.mono HB0.out.size)
  have HX1 : Hid (Box w1 w.heap.size #[.int .i64 tx, .slice p wl c] 36) := HX0.out.on hb1
  clear hb1 HB0 HX0
  obtain ⟨x0, x1, _, _⟩ := box2 HX1.out
  cases mb with
  | false =>
    clear hm0
    go_wp2_with fail
    refine (CAw.out _).mono ?_
    rintro e wz ⟨rfl, hbz⟩
    have HBz : Hid (Below w.heap.size w wz) := HB1.out.trans (hbz.mono HB1.out.size)
    clear hbz
    go_wp2_with fail
    go_ret
    exact ⟨rfl, HBz.out⟩
  | true =>
    have htx := hm0 rfl
    clear hm0
    by_cases ht0 : tx = 0
    · subst ht0
      go_wp2_with fail
      refine (CAw.out _).mono ?_
      rintro e wz ⟨rfl, hbz⟩
      have HBz : Hid (Below w.heap.size w wz) := HB1.out.trans (hbz.mono HB1.out.size)
      clear hbz
      go_wp2_with fail
      go_ret
      exact ⟨rfl, HBz.out⟩
    have htb : (tx == 0) = false := beq_eq_false_iff_ne.2 ht0
    have ht1 : 1 ≤ tx := by omega
    by_cases hl1 : lv < 1
    · clear ht1 htx ht0
      go_wp2_with fail
      refine (CAw.out _).mono ?_
      rintro e wz ⟨rfl, hbz⟩
      have HBz : Hid (Below w.heap.size w wz) := HB1.out.trans (hbz.mono HB1.out.size)
      clear hbz
      go_wp2_with fail
      go_ret
      exact ⟨rfl, HBz.out⟩
    have hl1' : 1 ≤ lv := by omega
    have HT1 : Hid (1 ≤ tx ∧ 1 ≤ lv) := ⟨ht1, hl1'⟩
    have hlb : decide (lv < 1) = false := decide_eq_false hl1
    clear hl1 ht0 htx ht1 hl1'
    go_wp2_with fail
    refine (CB.out _ HB1.out).mono ?_
    rintro e w2 ⟨⟨v2, Z2, rfl, hZ2, hO2⟩, hb2⟩
    obtain ⟨pB, cB, e2, _, hr2⟩ := hO2.rd hZ2
    subst e2
    have hX2 := HX1.out.on hb2
    have HB2 : Hid (Below w.heap.size w w2) := HB1.out.trans (hb2.mono HB1.out.size)
    have HR2 : Hid (RdR .i64 w2 w2.heap.size pB (belL W lv)) := hr2
    have HX2 : Hid (Box w2 w.heap.size #[.int .i64 tx, .slice p wl c] 36) := hX2
    have hx2l := hX2.lt
    clear hb2 hO2 hZ2 hr2 HB1 HX1 hX2 x0 x1 CB
    obtain ⟨x0, x1, _, _⟩ := box2 HX2.out
    generalize hBL : belL W lv = BL at *
    obtain ⟨bl, hbl⟩ : ∃ bl, BL.length = bl := ⟨_, rfl⟩
    rw [hbl] at HBt ⊢
    have HBl : Hid (BL.length = bl) := hbl
    clear hbl
    by_cases hbl0 : bl = 0
    · have HBt0 : Hid (bt = 0) := HBt.out.trans (if_pos hbl0)
      have HBLn : Hid (BL = []) := List.eq_nil_of_length_eq_zero (HBl.out.trans hbl0)
      subst hbl0
      clear HBt
      have hb7 : Below w2.heap.size w2 (w2.alloc (.cells #[.int .i64 bt, .slice pB 0 cB] 36)) := (Below.refl _ _).alloc (Nat.le_refl _) _
      have hb8 : Below (w2.alloc (.cells #[.int .i64 bt, .slice pB 0 cB] 36)).heap.size (w2.alloc (.cells #[.int .i64 bt, .slice pB 0 cB] 36)) ((w2.alloc (.cells #[.int .i64 bt, .slice pB 0 cB] 36)).alloc (.cells #[.int .i64 tx, .slice none 0 0] 36)) := (Below.refl _ _).alloc (Nat.le_refl _) _
      have hs7 : (w2.alloc (.cells #[.int .i64 bt, .slice pB 0 cB] 36)).heap.size = w2.heap.size + 1 := by simp [go_sem]
      have hx8 := Box.new (w2.alloc (.cells #[.int .i64 bt, .slice pB 0 cB] 36)) #[.int .i64 tx, .slice none 0 0] 36
      rw [hs7] at hx8
      have HX8 : Hid (Box ((w2.alloc (.cells #[.int .i64 bt, .slice pB 0 cB] 36)).alloc (.cells #[.int .i64 tx, .slice none 0 0] 36)) w.heap.size #[.int .i64 tx, .slice p wl c] 36 ∧ Box ((w2.alloc (.cells #[.int .i64 bt, .slice pB 0 cB] 36)).alloc (.cells #[.int .i64 tx, .slice none 0 0] 36)) w2.heap.size #[.int .i64 bt, .slice pB 0 cB] 36 ∧ Box ((w2.alloc (.cells #[.int .i64 bt, .slice pB 0 cB] 36)).alloc (.cells #[.int .i64 tx, .slice none 0 0] 36)) (w2.heap.size + 1) #[.int .i64 tx, .slice none 0 0] 36) := ⟨(HX2.out.on hb7).on hb8, (Box.new w2 _ _).on hb8, hx8⟩
      have HB8 : Hid (Below w.heap.size w ((w2.alloc (.cells #[.int .i64 bt, .slice pB 0 cB] 36)).alloc (.cells #[.int .i64 tx, .slice none 0 0] 36)) ∧ w2.heap.size + 2 ≤ ((w2.alloc (.cells #[.int .i64 bt, .slice pB 0 cB] 36)).alloc (.cells #[.int .i64 tx, .slice none 0 0] 36)).heap.size) := ⟨(HB2.out.trans (hb7.mono HB2.out.size)).trans (hb8.mono (HB2.out.trans (hb7.mono HB2.out.size)).size), by simp [go_sem]⟩
      have HRB : Hid (RdR .i64 ((w2.alloc (.cells #[.int .i64 bt, .slice pB 0 cB] 36)).alloc (.cells #[.int .i64 tx, .slice none 0 0] 36)) ((w2.alloc (.cells #[.int .i64 bt, .slice pB 0 cB] 36)).alloc (.cells #[.int .i64 tx, .slice none 0 0] 36)).heap.size pB BL) := (HR2.out.on hb7).on hb8
      clear hb7 hb8 hs7 hx8 HX2 HB2 HR2
      go_wp2_with fail
      generalize ((w2.alloc (.cells #[.int .i64 bt, .slice pB 0 cB] 36)).alloc (.cells #[.int .i64 tx, .slice none 0 0] 36)) = w3 at *
      have HN0 : Hid (RdR .i64 w3 w3.heap.size none [] ∧ Sv W lv 0 [] lv) := ⟨RdR.nil _ _ _, by have := HSv0.out; rw [HBLn.out] at this; exact this⟩
      go_loopw [9, 10] (fun at_ i wr => ∃ (j : Nat) (N : List Rw) (a : Int) (pn : Option Addr) (cn : Nat), j ≤ L.length ∧ i = .int .i64 (j : Int) ∧ at_ = .int .i64 a ∧ Hid (RdR .i64 wr wr.heap.size pn N ∧ Sv W lv j N a) ∧ Hid (Box wr w.heap.size #[.int .i64 tx, .slice p wl c] 36 ∧ Box wr w2.heap.size #[.int .i64 bt, .slice pB 0 cB] 36 ∧ Box wr (w2.heap.size + 1) #[.int .i64 tx, .slice pn N.length cn] 36) ∧ Hid (RdR .i64 wr wr.heap.size pB BL) ∧ Hid (w2.heap.size + 2 ≤ wr.heap.size) ∧ Below w.heap.size w wr) (fun _ i _ => L.length - (intOf i).toNat)
      case atStart => exact ⟨0, [], lv, none, 0, Nat.zero_le _, by go_num, rfl, HN0, HX8, HRB, HB8.out.2, HB8.out.1⟩
      case round =>
        obtain ⟨j, N, a, pn, cn, hj, rfl, rfl, HN, HX, HRb, HSz, hn⟩ := hrel
        clear HN0 HX8 HRB HB8
        obtain ⟨x0, x1, _, _⟩ := box2 HX.out.1
        obtain ⟨y0, y1, y2, y3⟩ := box2 HX.out.2.1
        obtain ⟨z0, z1, z2, z3⟩ := box2 HX.out.2.2
        have hNl := HN.out.2.len
        rw [HWl.out] at hNl
        by_cases hj0 : j = L.length
        · subst hj0
          obtain ⟨nl, hnl⟩ : ∃ nl, N.length = nl := ⟨_, rfl⟩
          have HNl : Hid (N.length = nl) := hnl
          rw [hnl] at HX z1
          have HBr : Hid (Below w.heap.size w wr) := hn
          by_cases hn0 : nl = 0
          · subst hn0
            clear hnl hNl hn
            go_wp2_with fail
            refine (CAw.out _).mono ?_
            rintro e wz ⟨rfl, hbz⟩
            have HBz : Hid (Below w.heap.size w wz) := HBr.out.trans (hbz.mono HBr.out.size)
            clear hbz
            go_wp2_with fail
            go_ret
            exact ⟨rfl, HBz.out⟩
          · have hnb : ((nl : Int) == 0) = false := beq_eq_false_iff_ne.2 (by omega)
            have HNp : Hid (0 < N.length ∧ N.length ≤ 3518437208780) := ⟨by omega, by omega⟩
            have CF2 : Hid (Calls _ _ _ _ _) := CF.out N pn cn wr HN.out.1 HNp.out.2 HN.out.2.sh
            have HFE : Hid (fldE lv = 0 ∧ fldT tx lv = tx) := ⟨if_neg (by have := HT1.out.2; omega), if_neg (by have := HT1.out.2; omega)⟩
            have HFS : Hid (shwB (seeR [] (fldL N lv) tx tx 1) = shwB (seeR [] N tx tx 1) ∧ shwL (seeR [] (fldL N lv) tx tx 1) = shwL (seeR [] N tx tx 1)) := fld_see HT1.out.2 HT1.out.1 HNp.out.1
            have HFh : Hid (shortR (fldL N lv) ∧ (fldL N lv).length ≤ 3518437208780) := ⟨(fld_sh HN.out.2.sh).1, by have := (fld_sh (s := lv) HN.out.2.sh).2; have := HN.out.2.len; rw [HWl.out] at this; omega⟩
            have HSh : Hid ((shwL (seeR [] N tx tx 1)).length ≤ 17592186043904) := see_sh HN.out.2.sh
            rw [HFE.out.1, HFE.out.2, hnl] at CF2
            clear hnl hNl hn0 hn CF
            go_wp2_with fail
            refine CF2.out.mono ?_
            rintro e w4 ⟨⟨v4, Z4, rfl, hZ4, hO4⟩, hb4⟩
            obtain ⟨p4, c4, rfl, _, hr4⟩ := hO4.rd hZ4
            generalize hFL : fldL N lv = FL at *
            have hba : Below w4.heap.size w4 (w4.alloc (.cells #[.int .i64 tx, .slice p4 FL.length c4] 36)) := (Below.refl _ _).alloc (Nat.le_refl _) _
            have HB5 : Hid (Below w.heap.size w (w4.alloc (.cells #[.int .i64 tx, .slice p4 FL.length c4] 36))) := (HBr.out.trans (hb4.mono HBr.out.size)).trans (hba.mono (HBr.out.trans (hb4.mono HBr.out.size)).size)
            have HX5 : Hid ((Box (w4.alloc (.cells #[.int .i64 tx, .slice p4 FL.length c4] 36)) w.heap.size #[.int .i64 tx, .slice p wl c] 36 ∧ Box (w4.alloc (.cells #[.int .i64 tx, .slice p4 FL.length c4] 36)) w2.heap.size #[.int .i64 bt, .slice pB 0 cB] 36 ∧ Box (w4.alloc (.cells #[.int .i64 tx, .slice p4 FL.length c4] 36)) (w2.heap.size + 1) #[.int .i64 tx, .slice pn nl cn] 36) ∧ Box (w4.alloc (.cells #[.int .i64 tx, .slice p4 FL.length c4] 36)) w4.heap.size #[.int .i64 tx, .slice p4 FL.length c4] 36) := ⟨⟨(HX.out.1.on hb4).on hba, (HX.out.2.1.on hb4).on hba, (HX.out.2.2.on hb4).on hba⟩, Box.new w4 _ _⟩
            have HR5 : Hid (RdR .i64 (w4.alloc (.cells #[.int .i64 tx, .slice p4 FL.length c4] 36)) (w4.alloc (.cells #[.int .i64 tx, .slice p4 FL.length c4] 36)).heap.size pn N ∧ RdR .i64 (w4.alloc (.cells #[.int .i64 tx, .slice p4 FL.length c4] 36)) (w4.alloc (.cells #[.int .i64 tx, .slice p4 FL.length c4] 36)).heap.size p4 FL ∧ RdR .i64 (w4.alloc (.cells #[.int .i64 tx, .slice p4 FL.length c4] 36)) (w4.alloc (.cells #[.int .i64 tx, .slice p4 FL.length c4] 36)).heap.size pB BL) := ⟨(HN.out.1.on hb4).on hba, hr4.on hba, (HRb.out.on hb4).on hba⟩
            clear hb4 hO4 hZ4 hr4 hba x0 x1 y0 y1 y2 y3 z0 z1 z2 z3 HBr CF2 HX HRb
            obtain ⟨x0, x1, _, _⟩ := box2 HX5.out.1.1
            obtain ⟨z0, z1, z2, z3⟩ := box2 HX5.out.1.2.2
            go_wp2_with fail
            generalize w4.alloc (.cells #[.int .i64 tx, .slice p4 FL.length c4] 36) = w5 at *
            have CS1 := CSe.out N pn cn w5 HR5.out.1 HNp.out.2 HN.out.2.sh
            rw [HNl.out] at CS1
            generalize hrb : shwB (seeR [] N tx tx 1) = rb at *
            generalize hrl : shwL (seeR [] N tx tx 1) = rl at *
            refine CS1.mono ?_
            rintro e w6 ⟨⟨v6, rfl, ho6⟩, hb6⟩
            obtain ⟨q6, c6, rfl, hr6, _⟩ := ho6.sl
            have HB6 : Hid (Below w.heap.size w w6) := HB5.out.trans (hb6.mono HB5.out.size)
            have HX6 : Hid ((Box w6 w.heap.size #[.int .i64 tx, .slice p wl c] 36 ∧ Box w6 w2.heap.size #[.int .i64 bt, .slice pB 0 cB] 36 ∧ Box w6 (w2.heap.size + 1) #[.int .i64 tx, .slice pn nl cn] 36) ∧ Box w6 w4.heap.size #[.int .i64 tx, .slice p4 FL.length c4] 36) := ⟨⟨HX5.out.1.1.on hb6, HX5.out.1.2.1.on hb6, HX5.out.1.2.2.on hb6⟩, HX5.out.2.on hb6⟩
            have HR6 : Hid (RdR .i64 w6 w6.heap.size pn N ∧ RdR .i64 w6 w6.heap.size p4 FL ∧ RdR .i64 w6 w6.heap.size pB BL) := ⟨HR5.out.1.on hb6, HR5.out.2.1.on hb6, HR5.out.2.2.on hb6⟩
            have HV6 : Hid (RowV w6 w6.heap.size q6 rl) := hr6
            clear hb6 ho6 hr6 x0 x1 z0 z1 z2 z3 HB5 HX5 HR5
            obtain ⟨x0, x1, _, _⟩ := box2 HX6.out.1.1
            obtain ⟨u0, u1, u2, u3⟩ := box2 HX6.out.2
            have CS2 : Hid (Calls Try.prog 14 #[.slice none 0 0, .agg #[.int .i64 tx, .slice p4 FL.length c4], .int .i64 tx, .int .u64 1] w6 fun e w' => (∃ v', e = .returned (.tuple #[v', .bool rb]) ∧ OwnV w' w6.heap.size v' rl) ∧ Below w6.heap.size w6 w') := by
              have h9 := CSe.out FL p4 c4 w6 HR6.out.2.1 HFh.out.2 HFh.out.1
              rw [HFS.out.1, HFS.out.2] at h9
              exact h9
            go_wp2_with fail
            refine CS2.out.mono ?_
            rintro e w7 ⟨⟨v7, rfl, ho7⟩, hb7⟩
            obtain ⟨q7, c7, rfl, hr7, _⟩ := ho7.sl
            have HB7 : Hid (Below w.heap.size w w7) := HB6.out.trans (hb7.mono HB6.out.size)
            have HX7 : Hid (Box w7 w.heap.size #[.int .i64 tx, .slice p wl c] 36 ∧ Box w7 w2.heap.size #[.int .i64 bt, .slice pB 0 cB] 36 ∧ Box w7 (w2.heap.size + 1) #[.int .i64 tx, .slice pn nl cn] 36) := ⟨HX6.out.1.1.on hb7, HX6.out.1.2.1.on hb7, HX6.out.1.2.2.on hb7⟩
            have HR7 : Hid (RdR .i64 w7 w7.heap.size pn N ∧ RdR .i64 w7 w7.heap.size pB BL) := ⟨HR6.out.1.on hb7, HR6.out.2.2.on hb7⟩
            have HV7 : Hid (RowV w7 w7.heap.size q6 rl ∧ RowV w7 w7.heap.size q7 rl) := ⟨HV6.out.on hb7, hr7⟩
            clear hb7 ho7 hr7 x0 x1 u0 u1 u2 u3 HB6 HX6 HR6 HV6 CS2
            have CBk : Hid (∀ w1, RdR .i64 w1 w1.heap.size pn N → Calls Try.prog 11 #[.agg #[.int .i64 tx, .slice pn nl cn], .int .i64 lv] w1 fun e w' => (∃ v Z, e = .returned (.agg #[.int .i64 bt, v]) ∧ Z.map Prod.fst = BL ∧ OwnRs .i64 40 w' w1.heap.size v Z) ∧ Below w1.heap.size w1 w') := fun w1 h1 => by
              have h9 := CBN.out N pn cn w1 h1 HNp.out.2 HN.out.2.sh
              rw [HNl.out, (HBt2.out _ _ _ HN.out.2).1, (HBt2.out _ _ _ HN.out.2).2] at h9
              exact h9
            go_wp2_with fail
            refine wp_region_L (fun w' => Box w' w.heap.size #[.int .i64 tx, .slice p wl c] 36 ∧ Box w' w2.heap.size #[.int .i64 bt, .slice pB 0 cB] 36 ∧ Box w' (w2.heap.size + 1) #[.int .i64 tx, .slice pn nl cn] 36) 22 (by kernel_rfl) ?_
            have hS0 : Box w7.drew w.heap.size #[.int .i64 tx, .slice p wl c] 36 ∧ Box w7.drew w2.heap.size #[.int .i64 bt, .slice pB 0 cB] 36 ∧ Box w7.drew (w2.heap.size + 1) #[.int .i64 tx, .slice pn nl cn] 36 := HX7.out
            have HBe : Hid (Below w.heap.size w w7.drew) := HB7.out.drew
            have C7 : Hid (Calls Try.prog 15 #[.slice q6 rl.length c6, .slice q7 rl.length c7] w7.drew fun e w' => e = .returned (.bool true) ∧ Below w7.drew.heap.size w7.drew w') := sameRow_eq rl q6 q7 c6 c7 w7.drew HV7.out.1 HV7.out.2 HSh.out
            have HR8 : Hid (RdR .i64 w7.drew w7.drew.heap.size pn N ∧ RdR .i64 w7.drew w7.drew.heap.size pB BL) := HR7.out
            clear HB7 HX7 HV7 HR7
            refine wpL_take (v := ?_) 0 rfl (by kernel_rfl) (fun _ _ _ h => h) (by rfl) ?_ hS0 ?_
            rotate_left
            focus
              intro w9 hw9
              go_simp
              try with_reducible rfl
            try simp only [Act.put, List.setIfInBounds_toArray, List.set_cons_zero, List.set_cons_succ]
            refine wpL_take (v := ?_) 1 rfl (by kernel_rfl) (fun _ _ _ h => h) (by rfl) ?_ hS0 ?_
            rotate_left
            focus
              intro w9 hw9
              go_simp
              try with_reducible rfl
            try simp only [Act.put, List.setIfInBounds_toArray, List.set_cons_zero, List.set_cons_succ]
            refine wpL_take (v := ?_) 2 rfl (by kernel_rfl) (fun _ _ _ h => h) (by rfl) ?_ hS0 ?_
            rotate_left
            focus
              intro w9 hw9
              go_simp
              try with_reducible rfl
            try simp only [Act.put, List.setIfInBounds_toArray, List.set_cons_zero, List.set_cons_succ]
            refine wpL_take (v := ?_) 3 rfl (by kernel_rfl) (fun _ _ _ h => h) (by rfl) ?_ hS0 ?_
            rotate_left
            focus
              intro w9 hw9
              go_simp
              try with_reducible rfl
            try simp only [Act.put, List.setIfInBounds_toArray, List.set_cons_zero, List.set_cons_succ]
            refine wpL_take (v := ?_) 4 rfl (by kernel_rfl) (fun _ _ _ h => h) (by rfl) ?_ hS0 ?_
            rotate_left
            focus
              intro w9 hw9
              go_simp
              try with_reducible rfl
            try simp only [Act.put, List.setIfInBounds_toArray, List.set_cons_zero, List.set_cons_succ]
            refine wpL_take (v := ?_) 5 rfl (by kernel_rfl) (fun _ _ _ h => h) (by rfl) ?_ hS0 ?_
            rotate_left
            focus
              intro w9 hw9
              go_simp
              try with_reducible rfl
            try simp only [Act.put, List.setIfInBounds_toArray, List.set_cons_zero, List.set_cons_succ]
            refine wpL_take (v := ?_) 6 rfl (by kernel_rfl) (fun _ _ _ h => h) (by rfl) ?_ hS0 ?_
            rotate_left
            focus
              intro w9 hw9
              go_simp
              try with_reducible rfl
            try simp only [Act.put, List.setIfInBounds_toArray, List.set_cons_zero, List.set_cons_succ]
            refine wpL_take (v := ?_) 7 rfl (by kernel_rfl) (fun _ _ _ h => h) (by rfl) ?_ hS0 ?_
            rotate_left
            focus
              intro w9 hw9
              go_simp
              try with_reducible rfl
            try simp only [Act.put, List.setIfInBounds_toArray, List.set_cons_zero, List.set_cons_succ]
            refine wpL_take (v := ?_) 8 rfl (by kernel_rfl) (fun _ _ _ h => h) (by rfl) ?_ hS0 ?_
            rotate_left
            focus
              intro w9 hw9
              go_simp
              try with_reducible rfl
            try simp only [Act.put, List.setIfInBounds_toArray, List.set_cons_zero, List.set_cons_succ]
            refine wpL_take (v := ?_) 9 rfl (by kernel_rfl) (fun _ _ _ h => h) (by rfl) ?_ hS0 ?_
            rotate_left
            focus
              intro w9 hw9
              go_simp
              try with_reducible rfl
            try simp only [Act.put, List.setIfInBounds_toArray, List.set_cons_zero, List.set_cons_succ]
            refine wpL_one 10 rfl (by kernel_rfl) (by rfl) ?_
            intro K hK
            go_simp
            refine C7.out.mono ?_
            rintro e w8 ⟨rfl, hb8⟩
            dsimp only
            have hS8 : Box w8 w.heap.size #[.int .i64 tx, .slice p wl c] 36 ∧ Box w8 w2.heap.size #[.int .i64 bt, .slice pB 0 cB] 36 ∧ Box w8 (w2.heap.size + 1) #[.int .i64 tx, .slice pn nl cn] 36 := ⟨hS0.1.on hb8, hS0.2.1.on hb8, hS0.2.2.on hb8⟩
            have HB8 : Hid (Below w.heap.size w w8) := HBe.out.trans (hb8.mono HBe.out.size)
            have HR9 : Hid (RdR .i64 w8 w8.heap.size pn N ∧ RdR .i64 w8 w8.heap.size pB BL) := ⟨HR8.out.1.on hb8, HR8.out.2.on hb8⟩
            clear hb8 hS0 HBe C7 HR8
            refine hK.out _ _ (fun _ => hS8) ?_
            clear hK K
            try simp only [Act.put, List.setIfInBounds_toArray, List.set_cons_zero, List.set_cons_succ]
            refine wpL_take (v := ?_) 11 rfl (by kernel_rfl) (fun _ _ _ h => h) (by rfl) ?_ hS8 ?_
            rotate_left
            focus
              intro w9 hw9
              obtain ⟨x0, x1, _⟩ := box2 hw9.1
              obtain ⟨y0, y1, _⟩ := box2 hw9.2.1
              obtain ⟨z0, z1, _⟩ := box2 hw9.2.2
              go_simp
              try with_reducible rfl
            try simp only [Act.put, List.setIfInBounds_toArray, List.set_cons_zero, List.set_cons_succ]
            refine wpL_take (v := ?_) 12 rfl (by kernel_rfl) (fun _ _ _ h => h) (by rfl) ?_ hS8 ?_
            rotate_left
            focus
              intro w9 hw9
              obtain ⟨x0, x1, _⟩ := box2 hw9.1
              obtain ⟨y0, y1, _⟩ := box2 hw9.2.1
              obtain ⟨z0, z1, _⟩ := box2 hw9.2.2
              go_simp
              try with_reducible rfl
            try simp only [Act.put, List.setIfInBounds_toArray, List.set_cons_zero, List.set_cons_succ]
            refine wpL_take (v := ?_) 13 rfl (by kernel_rfl) (fun _ _ _ h => h) (by rfl) ?_ hS8 ?_
            rotate_left
            focus
              intro w9 hw9
              obtain ⟨x0, x1, _⟩ := box2 hw9.1
              obtain ⟨y0, y1, _⟩ := box2 hw9.2.1
              obtain ⟨z0, z1, _⟩ := box2 hw9.2.2
              go_simp
              try with_reducible rfl
            try simp only [Act.put, List.setIfInBounds_toArray, List.set_cons_zero, List.set_cons_succ]
            refine wpL_take (v := ?_) 14 rfl (by kernel_rfl) (fun _ _ _ h => h) (by rfl) ?_ hS8 ?_
            rotate_left
            focus
              intro w9 hw9
              obtain ⟨x0, x1, _⟩ := box2 hw9.1
              obtain ⟨y0, y1, _⟩ := box2 hw9.2.1
              obtain ⟨z0, z1, _⟩ := box2 hw9.2.2
              go_simp
              try with_reducible rfl
            try simp only [Act.put, List.setIfInBounds_toArray, List.set_cons_zero, List.set_cons_succ]
            refine wpL_take (v := ?_) 16 rfl (by kernel_rfl) (fun _ _ _ h => h) (by rfl) ?_ hS8 ?_
            rotate_left
            focus
              intro w9 hw9
              obtain ⟨x0, x1, _⟩ := box2 hw9.1
              obtain ⟨y0, y1, _⟩ := box2 hw9.2.1
              obtain ⟨z0, z1, _⟩ := box2 hw9.2.2
              go_simp
              try with_reducible rfl
            try simp only [Act.put, List.setIfInBounds_toArray, List.set_cons_zero, List.set_cons_succ]
            refine wpL_one 15 rfl (by kernel_rfl) (by rfl) ?_
            intro K hK
            go_simp
            refine (CBk.out _ HR9.out.1).mono ?_
            rintro e wA ⟨⟨vA, ZA, rfl, hZA, hOA⟩, hbA⟩
            dsimp only
            obtain ⟨pA, cA, eA, _, hrA⟩ := hOA.rd hZA
            rw [HBl.out] at eA
            subst eA
            have hSA : Box wA w.heap.size #[.int .i64 tx, .slice p wl c] 36 ∧ Box wA w2.heap.size #[.int .i64 bt, .slice pB 0 cB] 36 ∧ Box wA (w2.heap.size + 1) #[.int .i64 tx, .slice pn nl cn] 36 := ⟨hS8.1.on hbA, hS8.2.1.on hbA, hS8.2.2.on hbA⟩
            have HBA : Hid (Below w.heap.size w wA) := HB8.out.trans (hbA.mono HB8.out.size)
            have C8 : Hid (Calls Try.prog 16 #[.agg #[.int .i64 bt, .slice pA 0 cA], .agg #[.int .i64 bt, .slice pB 0 cB]] wA fun e w' => e = .returned (.bool true) ∧ Below wA.heap.size wA w') := by
              have h9 := sameIntent_eq BL pA pB cA cB bt wA hrA (HR9.out.2.on hbA) HBs.out.2 HBs.out.1
              rw [HBl.out] at h9
              exact h9
            clear hbA hS8 HB8 hOA hZA hrA HR9 CBk
            refine hK.out _ _ (fun _ => hSA) ?_
            clear hK K
            try simp only [Act.put, List.setIfInBounds_toArray, List.set_cons_zero, List.set_cons_succ]
            refine wpL_one 17 rfl (by kernel_rfl) (by rfl) ?_
            intro K hK
            go_simp
            refine C8.out.mono ?_
            rintro e wC ⟨rfl, hbC⟩
            dsimp only
            have hSC : Box wC w.heap.size #[.int .i64 tx, .slice p wl c] 36 ∧ Box wC w2.heap.size #[.int .i64 bt, .slice pB 0 cB] 36 ∧ Box wC (w2.heap.size + 1) #[.int .i64 tx, .slice pn nl cn] 36 := ⟨hSA.1.on hbC, hSA.2.1.on hbC, hSA.2.2.on hbC⟩
            have HBC : Hid (Below w.heap.size w wC) := HBA.out.trans (hbC.mono HBA.out.size)
            clear hbC hSA HBA C8
            refine hK.out _ _ (fun _ => hSC) ?_
            clear hK K
            try simp only [Act.put, List.setIfInBounds_toArray, List.set_cons_zero, List.set_cons_succ]
            refine wpL_take (v := ?_) 18 rfl (by kernel_rfl) (fun _ _ _ h => h) (by rfl) ?_ hSC ?_
            rotate_left
            focus
              intro w9 hw9
              go_simp
              try with_reducible rfl
            try simp only [Act.put, List.setIfInBounds_toArray, List.set_cons_zero, List.set_cons_succ]
            refine wpL_take (v := ?_) 19 rfl (by kernel_rfl) (fun _ _ _ h => h) (by rfl) ?_ hSC ?_
            rotate_left
            focus
              intro w9 hw9
              go_simp
              try with_reducible rfl
            try simp only [Act.put, List.setIfInBounds_toArray, List.set_cons_zero, List.set_cons_succ]
            refine wpL_one 20 rfl (by kernel_rfl) (by rfl) ?_
            intro K hK
            go_simp
            refine (CAw.out _).mono ?_
            rintro e wD ⟨rfl, hbD⟩
            dsimp only
            have hSD : Box wD w.heap.size #[.int .i64 tx, .slice p wl c] 36 ∧ Box wD w2.heap.size #[.int .i64 bt, .slice pB 0 cB] 36 ∧ Box wD (w2.heap.size + 1) #[.int .i64 tx, .slice pn nl cn] 36 := ⟨hSC.1.on hbD, hSC.2.1.on hbD, hSC.2.2.on hbD⟩
            have HBD : Hid (Below w.heap.size w wD) := HBC.out.trans (hbD.mono HBC.out.size)
            clear hbD hSC HBC
            refine hK.out _ _ (fun _ => hSD) ?_
            clear hK K
            try simp only [Act.put, List.setIfInBounds_toArray, List.set_cons_zero, List.set_cons_succ]
            refine wpL_take (v := ?_) 21 rfl (by kernel_rfl) (fun _ _ _ h => h) (by rfl) ?_ hSD ?_
            rotate_left
            focus
              intro w9 hw9
              go_simp
              try with_reducible rfl
            try simp only [Act.put, List.setIfInBounds_toArray, List.set_cons_zero, List.set_cons_succ]
            refine wpL_one 22 rfl (by kernel_rfl) (by rfl) ?_
            intro K hK
            go_simp
            refine hK.out _ _ (fun h => absurd rfl h) ?_
            clear hK K
            refine wpL_done (by kernel_rfl) ?_ _
            refine NoPanic.normal ?_
            go_wp2_with fail
            go_ret
            exact ⟨rfl, HBD.out⟩
        · have hj1 : j < L.length := by omega
          obtain ⟨b, o, q1, d1, e1, hbB, c0, c1, c2, hr, hq⟩ := HQ.out wr hn j hj1
          subst e1
          have HPt : Hid ((putE tx N (topW a L[j]) = 0 ∧ putT tx N (topW a L[j]) = tx) ∧ Sv W lv (j + 1) (putL tx N (topW a L[j])) (topW a L[j]).n) := HN.out.2.put HT1.out.1 HT1.out.2 (HSL.out j hj1)
          have HTp : Hid (topW a L[j] = ⟨if L[j].n < a then a else L[j].n, L[j].gn, if L[j].gn then [] else L[j].row⟩) := rfl
          have HSlj : Hid (SlV wr wr.heap.size (.slice q1 L[j].row.length d1) L[j].row ∧ L[j].row.length ≤ 3518437208780) := ⟨⟨q1, d1, rfl, hr, hq⟩, HSL.out j hj1⟩
          clear hr hq hj0
          generalize topW a L[j] = tw at *
          generalize L[j].n = xn at *
          generalize L[j].gn = xg at *
          generalize hxrow : L[j].row = xrow at *
          obtain ⟨xl, hxl⟩ : ∃ xl, xrow.length = xl := ⟨_, rfl⟩
          have HXl : Hid (xrow.length = xl) := hxl
          rw [hxl] at c2 HSlj
          clear hxl hxrow
          by_cases hlt : xn < a
          · cases xg with
            | false =>
              have HTw : Hid (tw = ⟨a, false, xrow⟩) := HTp.out.trans (by rw [if_pos hlt]; rfl)
              have htw := HTw.out
              subst htw
              dsimp only at HPt


              have hba : Below wr.heap.size wr (wr.alloc (.cells #[.int .i64 a, .bool false, .slice q1 xl d1] 40)) := (Below.refl _ _).alloc (Nat.le_refl _) _
              have HSv : Hid (SlV (wr.alloc (.cells #[.int .i64 a, .bool false, .slice q1 xl d1] 40)) (wr.alloc (.cells #[.int .i64 a, .bool false, .slice q1 xl d1] 40)).heap.size (.slice q1 xl d1) xrow) := (HSlj.out.1.keep hba).mono hba.size
              have CP : Hid (Calls Try.prog 12 #[.agg #[.int .i64 tx, .slice pn N.length cn], .agg #[.int .i64 a, .bool false, .slice q1 xl d1]] (wr.alloc (.cells #[.int .i64 a, .bool false, .slice q1 xl d1] 40)) fun e w' => (∃ v Z, e = .returned (.tuple #[.agg #[.int .i64 tx, v], .int .i64 0]) ∧ Z.map Prod.fst = putL tx N ⟨a, false, xrow⟩ ∧ OwnRs .i64 40 w' (wr.alloc (.cells #[.int .i64 a, .bool false, .slice q1 xl d1] 40)).heap.size v Z) ∧ Below (wr.alloc (.cells #[.int .i64 a, .bool false, .slice q1 xl d1] 40)).heap.size (wr.alloc (.cells #[.int .i64 a, .bool false, .slice q1 xl d1] 40)) w') := by
                have h9 := put_any N pn cn tx a false xrow q1 d1 (wr.alloc (.cells #[.int .i64 a, .bool false, .slice q1 xl d1] 40)) (HN.out.1.on hba) (by rw [HXl.out]; exact HSv.out) (by omega) HN.out.2.sh (by rw [HXl.out]; exact HSlj.out.2)
                rw [HPt.out.1.1, HPt.out.1.2, HXl.out] at h9
                exact h9
              have HXb : Hid (Box (wr.alloc (.cells #[.int .i64 a, .bool false, .slice q1 xl d1] 40)) w.heap.size #[.int .i64 tx, .slice p wl c] 36 ∧ Box (wr.alloc (.cells #[.int .i64 a, .bool false, .slice q1 xl d1] 40)) w2.heap.size #[.int .i64 bt, .slice pB 0 cB] 36 ∧ Box (wr.alloc (.cells #[.int .i64 a, .bool false, .slice q1 xl d1] 40)) (w2.heap.size + 1) #[.int .i64 tx, .slice pn N.length cn] 36) := ⟨HX.out.1.on hba, HX.out.2.1.on hba, HX.out.2.2.on hba⟩
              have HBb : Hid (Below w.heap.size w (wr.alloc (.cells #[.int .i64 a, .bool false, .slice q1 xl d1] 40))) := hn.trans (hba.mono hn.size)
              have HRbb : Hid (RdR .i64 (wr.alloc (.cells #[.int .i64 a, .bool false, .slice q1 xl d1] 40)) (wr.alloc (.cells #[.int .i64 a, .bool false, .slice q1 xl d1] 40)).heap.size pB BL) := HRb.out.on hba
              have HSzb : Hid (w2.heap.size + 2 ≤ (wr.alloc (.cells #[.int .i64 a, .bool false, .slice q1 xl d1] 40)).heap.size) := Nat.le_trans HSz.out hba.size
              have hzl := HX.out.2.2.lt
              clear hba
              generalize putL tx N ⟨a, false, xrow⟩ = N2 at *
              go_wp2_with fail
              generalize (wr.alloc (.cells #[.int .i64 a, .bool false, .slice q1 xl d1] 40)) = wb at *
              refine CP.out.mono ?_
              rintro e w5 ⟨⟨v5, Z5, rfl, hZ5, hO5⟩, hb5⟩
              obtain ⟨p5, c5, rfl, _, hr5⟩ := hO5.rd hZ5
              have hb6 : Below w5.heap.size w5 (w5.alloc (.cells #[.int .i64 tx, .slice p5 N2.length c5] 36)) := (Below.refl _ _).alloc (Nat.le_refl _) _
              have HX6 : Hid (Box (w5.alloc (.cells #[.int .i64 tx, .slice p5 N2.length c5] 36)) w.heap.size #[.int .i64 tx, .slice p wl c] 36 ∧ Box (w5.alloc (.cells #[.int .i64 tx, .slice p5 N2.length c5] 36)) w2.heap.size #[.int .i64 bt, .slice pB 0 cB] 36 ∧ Box (w5.alloc (.cells #[.int .i64 tx, .slice p5 N2.length c5] 36)) (w2.heap.size + 1) #[.int .i64 tx, .slice pn N.length cn] 36) := ⟨(HXb.out.1.on hb5).on hb6, (HXb.out.2.1.on hb5).on hb6, (HXb.out.2.2.on hb5).on hb6⟩
              have HB6 : Hid (Below w.heap.size w (w5.alloc (.cells #[.int .i64 tx, .slice p5 N2.length c5] 36))) := (HBb.out.trans (hb5.mono HBb.out.size)).trans (hb6.mono (HBb.out.trans (hb5.mono HBb.out.size)).size)
              have HR6 : Hid (RdR .i64 (w5.alloc (.cells #[.int .i64 tx, .slice p5 N2.length c5] 36)) (w5.alloc (.cells #[.int .i64 tx, .slice p5 N2.length c5] 36)).heap.size p5 N2 ∧ RdR .i64 (w5.alloc (.cells #[.int .i64 tx, .slice p5 N2.length c5] 36)) (w5.alloc (.cells #[.int .i64 tx, .slice p5 N2.length c5] 36)).heap.size pB BL) := ⟨hr5.on hb6, (HRbb.out.on hb5).on hb6⟩
              have HSz6 : Hid (w2.heap.size + 2 ≤ (w5.alloc (.cells #[.int .i64 tx, .slice p5 N2.length c5] 36)).heap.size) := Nat.le_trans (Nat.le_trans HSzb.out hb5.size) hb6.size
              clear hb5 hb6 hO5 hZ5 hr5 x0 x1 y0 y1 y2 y3 z0 z1 z2 z3 HXb HBb HRbb HSzb CP
              obtain ⟨z0, z1, z2, z3⟩ := box2 HX6.out.2.2
              have hzl6 := HX6.out.2.2.lt
              go_wp2_with fail
              generalize w5.alloc (.cells #[.int .i64 tx, .slice p5 N2.length c5] 36) = w6 at *
              have hZZ := (HX6.out.2.2.set (i := 0) (.int .i64 tx)).set (i := 1) (.slice p5 N2.length c5)
              have hZ1 := HX6.out.2.2.set (i := 0) (.int .i64 tx)
              have hI := (HX6.out.1.off (i := 0) (j := w2.heap.size + 1) (.int .i64 tx) (by omega)).off (i := 1) (j := w2.heap.size + 1) (.slice p5 N2.length c5) (by omega)
              have hWs := (HX6.out.2.1.off (i := 0) (j := w2.heap.size + 1) (.int .i64 tx) (by omega)).off (i := 1) (j := w2.heap.size + 1) (.slice p5 N2.length c5) (by omega)
              have hRN := (HR6.out.1.offB (i := 0) HX6.out.2.2 (.int .i64 tx)).offB (i := 1) hZ1 (.slice p5 N2.length c5)
              have hRB := (HR6.out.2.offB (i := 0) HX6.out.2.2 (.int .i64 tx)).offB (i := 1) hZ1 (.slice p5 N2.length c5)
              have hBZ := (HB6.out.setCell (p := ⟨w2.heap.size + 1, 0, none⟩) (show w.heap.size ≤ w2.heap.size + 1 by omega) (.int .i64 tx)).setCell (p := ⟨w2.heap.size + 1, 1, none⟩) (show w.heap.size ≤ w2.heap.size + 1 by omega) (.slice p5 N2.length c5)
              have hsz : ((w6.setCell ⟨w2.heap.size + 1, 0, none⟩ (.int .i64 tx)).setCell ⟨w2.heap.size + 1, 1, none⟩ (.slice p5 N2.length c5)).heap.size = w6.heap.size := by simp [World.setCell]
              rw [← hsz] at hRN hRB HSz6
              clear hsz z0 z1 z2 z3 HX6 HB6 HR6 hZ1 hzl6
              generalize (w6.setCell ⟨w2.heap.size + 1, 0, none⟩ (.int .i64 tx)).setCell ⟨w2.heap.size + 1, 1, none⟩ (.slice p5 N2.length c5) = w9 at *
              go_roundw
              case rel => exact ⟨j + 1, N2, a, p5, c5, hj1, by go_num, rfl, ⟨hRN, HPt.out.2⟩, ⟨hI, hWs, hZZ⟩, hRB, HSz6, hBZ⟩
              case measure => simp [intOf]; omega
            | true =>
              have HTw : Hid (tw = ⟨a, true, []⟩) := HTp.out.trans (by rw [if_pos hlt]; rfl)
              have htw := HTw.out
              subst htw
              dsimp only at HPt


              have hba : Below wr.heap.size wr (wr.alloc (.cells #[.int .i64 a, .bool true, .slice none 0 0] 40)) := (Below.refl _ _).alloc (Nat.le_refl _) _
              have HSv : Hid (SlV (wr.alloc (.cells #[.int .i64 a, .bool true, .slice none 0 0] 40)) (wr.alloc (.cells #[.int .i64 a, .bool true, .slice none 0 0] 40)).heap.size (.slice none 0 0) []) := (OwnV.nil _ 0).sl
              have CP : Hid (Calls Try.prog 12 #[.agg #[.int .i64 tx, .slice pn N.length cn], .agg #[.int .i64 a, .bool true, .slice none 0 0]] (wr.alloc (.cells #[.int .i64 a, .bool true, .slice none 0 0] 40)) fun e w' => (∃ v Z, e = .returned (.tuple #[.agg #[.int .i64 tx, v], .int .i64 0]) ∧ Z.map Prod.fst = putL tx N ⟨a, true, []⟩ ∧ OwnRs .i64 40 w' (wr.alloc (.cells #[.int .i64 a, .bool true, .slice none 0 0] 40)).heap.size v Z) ∧ Below (wr.alloc (.cells #[.int .i64 a, .bool true, .slice none 0 0] 40)).heap.size (wr.alloc (.cells #[.int .i64 a, .bool true, .slice none 0 0] 40)) w') := by
                have h9 := put_any N pn cn tx a true [] none 0 (wr.alloc (.cells #[.int .i64 a, .bool true, .slice none 0 0] 40)) (HN.out.1.on hba) (by exact HSv.out) (by omega) HN.out.2.sh (by simp)
                rw [HPt.out.1.1, HPt.out.1.2] at h9
                exact h9
              have HXb : Hid (Box (wr.alloc (.cells #[.int .i64 a, .bool true, .slice none 0 0] 40)) w.heap.size #[.int .i64 tx, .slice p wl c] 36 ∧ Box (wr.alloc (.cells #[.int .i64 a, .bool true, .slice none 0 0] 40)) w2.heap.size #[.int .i64 bt, .slice pB 0 cB] 36 ∧ Box (wr.alloc (.cells #[.int .i64 a, .bool true, .slice none 0 0] 40)) (w2.heap.size + 1) #[.int .i64 tx, .slice pn N.length cn] 36) := ⟨HX.out.1.on hba, HX.out.2.1.on hba, HX.out.2.2.on hba⟩
              have HBb : Hid (Below w.heap.size w (wr.alloc (.cells #[.int .i64 a, .bool true, .slice none 0 0] 40))) := hn.trans (hba.mono hn.size)
              have HRbb : Hid (RdR .i64 (wr.alloc (.cells #[.int .i64 a, .bool true, .slice none 0 0] 40)) (wr.alloc (.cells #[.int .i64 a, .bool true, .slice none 0 0] 40)).heap.size pB BL) := HRb.out.on hba
              have HSzb : Hid (w2.heap.size + 2 ≤ (wr.alloc (.cells #[.int .i64 a, .bool true, .slice none 0 0] 40)).heap.size) := Nat.le_trans HSz.out hba.size
              have hzl := HX.out.2.2.lt
              clear hba
              generalize putL tx N ⟨a, true, []⟩ = N2 at *
              go_wp2_with fail
              generalize (wr.alloc (.cells #[.int .i64 a, .bool true, .slice none 0 0] 40)) = wb at *
              refine CP.out.mono ?_
              rintro e w5 ⟨⟨v5, Z5, rfl, hZ5, hO5⟩, hb5⟩
              obtain ⟨p5, c5, rfl, _, hr5⟩ := hO5.rd hZ5
              have hb6 : Below w5.heap.size w5 (w5.alloc (.cells #[.int .i64 tx, .slice p5 N2.length c5] 36)) := (Below.refl _ _).alloc (Nat.le_refl _) _
              have HX6 : Hid (Box (w5.alloc (.cells #[.int .i64 tx, .slice p5 N2.length c5] 36)) w.heap.size #[.int .i64 tx, .slice p wl c] 36 ∧ Box (w5.alloc (.cells #[.int .i64 tx, .slice p5 N2.length c5] 36)) w2.heap.size #[.int .i64 bt, .slice pB 0 cB] 36 ∧ Box (w5.alloc (.cells #[.int .i64 tx, .slice p5 N2.length c5] 36)) (w2.heap.size + 1) #[.int .i64 tx, .slice pn N.length cn] 36) := ⟨(HXb.out.1.on hb5).on hb6, (HXb.out.2.1.on hb5).on hb6, (HXb.out.2.2.on hb5).on hb6⟩
              have HB6 : Hid (Below w.heap.size w (w5.alloc (.cells #[.int .i64 tx, .slice p5 N2.length c5] 36))) := (HBb.out.trans (hb5.mono HBb.out.size)).trans (hb6.mono (HBb.out.trans (hb5.mono HBb.out.size)).size)
              have HR6 : Hid (RdR .i64 (w5.alloc (.cells #[.int .i64 tx, .slice p5 N2.length c5] 36)) (w5.alloc (.cells #[.int .i64 tx, .slice p5 N2.length c5] 36)).heap.size p5 N2 ∧ RdR .i64 (w5.alloc (.cells #[.int .i64 tx, .slice p5 N2.length c5] 36)) (w5.alloc (.cells #[.int .i64 tx, .slice p5 N2.length c5] 36)).heap.size pB BL) := ⟨hr5.on hb6, (HRbb.out.on hb5).on hb6⟩
              have HSz6 : Hid (w2.heap.size + 2 ≤ (w5.alloc (.cells #[.int .i64 tx, .slice p5 N2.length c5] 36)).heap.size) := Nat.le_trans (Nat.le_trans HSzb.out hb5.size) hb6.size
              clear hb5 hb6 hO5 hZ5 hr5 x0 x1 y0 y1 y2 y3 z0 z1 z2 z3 HXb HBb HRbb HSzb CP
              obtain ⟨z0, z1, z2, z3⟩ := box2 HX6.out.2.2
              have hzl6 := HX6.out.2.2.lt
              go_wp2_with fail
              generalize w5.alloc (.cells #[.int .i64 tx, .slice p5 N2.length c5] 36) = w6 at *
              have hZZ := (HX6.out.2.2.set (i := 0) (.int .i64 tx)).set (i := 1) (.slice p5 N2.length c5)
              have hZ1 := HX6.out.2.2.set (i := 0) (.int .i64 tx)
              have hI := (HX6.out.1.off (i := 0) (j := w2.heap.size + 1) (.int .i64 tx) (by omega)).off (i := 1) (j := w2.heap.size + 1) (.slice p5 N2.length c5) (by omega)
              have hWs := (HX6.out.2.1.off (i := 0) (j := w2.heap.size + 1) (.int .i64 tx) (by omega)).off (i := 1) (j := w2.heap.size + 1) (.slice p5 N2.length c5) (by omega)
              have hRN := (HR6.out.1.offB (i := 0) HX6.out.2.2 (.int .i64 tx)).offB (i := 1) hZ1 (.slice p5 N2.length c5)
              have hRB := (HR6.out.2.offB (i := 0) HX6.out.2.2 (.int .i64 tx)).offB (i := 1) hZ1 (.slice p5 N2.length c5)
              have hBZ := (HB6.out.setCell (p := ⟨w2.heap.size + 1, 0, none⟩) (show w.heap.size ≤ w2.heap.size + 1 by omega) (.int .i64 tx)).setCell (p := ⟨w2.heap.size + 1, 1, none⟩) (show w.heap.size ≤ w2.heap.size + 1 by omega) (.slice p5 N2.length c5)
              have hsz : ((w6.setCell ⟨w2.heap.size + 1, 0, none⟩ (.int .i64 tx)).setCell ⟨w2.heap.size + 1, 1, none⟩ (.slice p5 N2.length c5)).heap.size = w6.heap.size := by simp [World.setCell]
              rw [← hsz] at hRN hRB HSz6
              clear hsz z0 z1 z2 z3 HX6 HB6 HR6 hZ1 hzl6
              generalize (w6.setCell ⟨w2.heap.size + 1, 0, none⟩ (.int .i64 tx)).setCell ⟨w2.heap.size + 1, 1, none⟩ (.slice p5 N2.length c5) = w9 at *
              go_roundw
              case rel => exact ⟨j + 1, N2, a, p5, c5, hj1, by go_num, rfl, ⟨hRN, HPt.out.2⟩, ⟨hI, hWs, hZZ⟩, hRB, HSz6, hBZ⟩
              case measure => simp [intOf]; omega
          · cases xg with
            | false =>
              have HTw : Hid (tw = ⟨xn, false, xrow⟩) := HTp.out.trans (by rw [if_neg hlt]; rfl)
              have htw := HTw.out
              subst htw
              dsimp only at HPt
              have hlt' : a ≤ xn := by omega
              clear hlt
              have hba : Below wr.heap.size wr (wr.alloc (.cells #[.int .i64 xn, .bool false, .slice q1 xl d1] 40)) := (Below.refl _ _).alloc (Nat.le_refl _) _
              have HSv : Hid (SlV (wr.alloc (.cells #[.int .i64 xn, .bool false, .slice q1 xl d1] 40)) (wr.alloc (.cells #[.int .i64 xn, .bool false, .slice q1 xl d1] 40)).heap.size (.slice q1 xl d1) xrow) := (HSlj.out.1.keep hba).mono hba.size
              have CP : Hid (Calls Try.prog 12 #[.agg #[.int .i64 tx, .slice pn N.length cn], .agg #[.int .i64 xn, .bool false, .slice q1 xl d1]] (wr.alloc (.cells #[.int .i64 xn, .bool false, .slice q1 xl d1] 40)) fun e w' => (∃ v Z, e = .returned (.tuple #[.agg #[.int .i64 tx, v], .int .i64 0]) ∧ Z.map Prod.fst = putL tx N ⟨xn, false, xrow⟩ ∧ OwnRs .i64 40 w' (wr.alloc (.cells #[.int .i64 xn, .bool false, .slice q1 xl d1] 40)).heap.size v Z) ∧ Below (wr.alloc (.cells #[.int .i64 xn, .bool false, .slice q1 xl d1] 40)).heap.size (wr.alloc (.cells #[.int .i64 xn, .bool false, .slice q1 xl d1] 40)) w') := by
                have h9 := put_any N pn cn tx xn false xrow q1 d1 (wr.alloc (.cells #[.int .i64 xn, .bool false, .slice q1 xl d1] 40)) (HN.out.1.on hba) (by rw [HXl.out]; exact HSv.out) (by omega) HN.out.2.sh (by rw [HXl.out]; exact HSlj.out.2)
                rw [HPt.out.1.1, HPt.out.1.2, HXl.out] at h9
                exact h9
              have HXb : Hid (Box (wr.alloc (.cells #[.int .i64 xn, .bool false, .slice q1 xl d1] 40)) w.heap.size #[.int .i64 tx, .slice p wl c] 36 ∧ Box (wr.alloc (.cells #[.int .i64 xn, .bool false, .slice q1 xl d1] 40)) w2.heap.size #[.int .i64 bt, .slice pB 0 cB] 36 ∧ Box (wr.alloc (.cells #[.int .i64 xn, .bool false, .slice q1 xl d1] 40)) (w2.heap.size + 1) #[.int .i64 tx, .slice pn N.length cn] 36) := ⟨HX.out.1.on hba, HX.out.2.1.on hba, HX.out.2.2.on hba⟩
              have HBb : Hid (Below w.heap.size w (wr.alloc (.cells #[.int .i64 xn, .bool false, .slice q1 xl d1] 40))) := hn.trans (hba.mono hn.size)
              have HRbb : Hid (RdR .i64 (wr.alloc (.cells #[.int .i64 xn, .bool false, .slice q1 xl d1] 40)) (wr.alloc (.cells #[.int .i64 xn, .bool false, .slice q1 xl d1] 40)).heap.size pB BL) := HRb.out.on hba
              have HSzb : Hid (w2.heap.size + 2 ≤ (wr.alloc (.cells #[.int .i64 xn, .bool false, .slice q1 xl d1] 40)).heap.size) := Nat.le_trans HSz.out hba.size
              have hzl := HX.out.2.2.lt
              clear hba
              generalize putL tx N ⟨xn, false, xrow⟩ = N2 at *
              go_wp2_with fail
              generalize (wr.alloc (.cells #[.int .i64 xn, .bool false, .slice q1 xl d1] 40)) = wb at *
              refine CP.out.mono ?_
              rintro e w5 ⟨⟨v5, Z5, rfl, hZ5, hO5⟩, hb5⟩
              obtain ⟨p5, c5, rfl, _, hr5⟩ := hO5.rd hZ5
              have hb6 : Below w5.heap.size w5 (w5.alloc (.cells #[.int .i64 tx, .slice p5 N2.length c5] 36)) := (Below.refl _ _).alloc (Nat.le_refl _) _
              have HX6 : Hid (Box (w5.alloc (.cells #[.int .i64 tx, .slice p5 N2.length c5] 36)) w.heap.size #[.int .i64 tx, .slice p wl c] 36 ∧ Box (w5.alloc (.cells #[.int .i64 tx, .slice p5 N2.length c5] 36)) w2.heap.size #[.int .i64 bt, .slice pB 0 cB] 36 ∧ Box (w5.alloc (.cells #[.int .i64 tx, .slice p5 N2.length c5] 36)) (w2.heap.size + 1) #[.int .i64 tx, .slice pn N.length cn] 36) := ⟨(HXb.out.1.on hb5).on hb6, (HXb.out.2.1.on hb5).on hb6, (HXb.out.2.2.on hb5).on hb6⟩
              have HB6 : Hid (Below w.heap.size w (w5.alloc (.cells #[.int .i64 tx, .slice p5 N2.length c5] 36))) := (HBb.out.trans (hb5.mono HBb.out.size)).trans (hb6.mono (HBb.out.trans (hb5.mono HBb.out.size)).size)
              have HR6 : Hid (RdR .i64 (w5.alloc (.cells #[.int .i64 tx, .slice p5 N2.length c5] 36)) (w5.alloc (.cells #[.int .i64 tx, .slice p5 N2.length c5] 36)).heap.size p5 N2 ∧ RdR .i64 (w5.alloc (.cells #[.int .i64 tx, .slice p5 N2.length c5] 36)) (w5.alloc (.cells #[.int .i64 tx, .slice p5 N2.length c5] 36)).heap.size pB BL) := ⟨hr5.on hb6, (HRbb.out.on hb5).on hb6⟩
              have HSz6 : Hid (w2.heap.size + 2 ≤ (w5.alloc (.cells #[.int .i64 tx, .slice p5 N2.length c5] 36)).heap.size) := Nat.le_trans (Nat.le_trans HSzb.out hb5.size) hb6.size
              clear hb5 hb6 hO5 hZ5 hr5 x0 x1 y0 y1 y2 y3 z0 z1 z2 z3 HXb HBb HRbb HSzb CP
              obtain ⟨z0, z1, z2, z3⟩ := box2 HX6.out.2.2
              have hzl6 := HX6.out.2.2.lt
              go_wp2_with fail
              generalize w5.alloc (.cells #[.int .i64 tx, .slice p5 N2.length c5] 36) = w6 at *
              have hZZ := (HX6.out.2.2.set (i := 0) (.int .i64 tx)).set (i := 1) (.slice p5 N2.length c5)
              have hZ1 := HX6.out.2.2.set (i := 0) (.int .i64 tx)
              have hI := (HX6.out.1.off (i := 0) (j := w2.heap.size + 1) (.int .i64 tx) (by omega)).off (i := 1) (j := w2.heap.size + 1) (.slice p5 N2.length c5) (by omega)
              have hWs := (HX6.out.2.1.off (i := 0) (j := w2.heap.size + 1) (.int .i64 tx) (by omega)).off (i := 1) (j := w2.heap.size + 1) (.slice p5 N2.length c5) (by omega)
              have hRN := (HR6.out.1.offB (i := 0) HX6.out.2.2 (.int .i64 tx)).offB (i := 1) hZ1 (.slice p5 N2.length c5)
              have hRB := (HR6.out.2.offB (i := 0) HX6.out.2.2 (.int .i64 tx)).offB (i := 1) hZ1 (.slice p5 N2.length c5)
              have hBZ := (HB6.out.setCell (p := ⟨w2.heap.size + 1, 0, none⟩) (show w.heap.size ≤ w2.heap.size + 1 by omega) (.int .i64 tx)).setCell (p := ⟨w2.heap.size + 1, 1, none⟩) (show w.heap.size ≤ w2.heap.size + 1 by omega) (.slice p5 N2.length c5)
              have hsz : ((w6.setCell ⟨w2.heap.size + 1, 0, none⟩ (.int .i64 tx)).setCell ⟨w2.heap.size + 1, 1, none⟩ (.slice p5 N2.length c5)).heap.size = w6.heap.size := by simp [World.setCell]
              rw [← hsz] at hRN hRB HSz6
              clear hsz z0 z1 z2 z3 HX6 HB6 HR6 hZ1 hzl6
              generalize (w6.setCell ⟨w2.heap.size + 1, 0, none⟩ (.int .i64 tx)).setCell ⟨w2.heap.size + 1, 1, none⟩ (.slice p5 N2.length c5) = w9 at *
              go_roundw
              case rel => exact ⟨j + 1, N2, xn, p5, c5, hj1, by go_num, rfl, ⟨hRN, HPt.out.2⟩, ⟨hI, hWs, hZZ⟩, hRB, HSz6, hBZ⟩
              case measure => simp [intOf]; omega
            | true =>
              have HTw : Hid (tw = ⟨xn, true, []⟩) := HTp.out.trans (by rw [if_neg hlt]; rfl)
              have htw := HTw.out
              subst htw
              dsimp only at HPt
              have hlt' : a ≤ xn := by omega
              clear hlt
              have hba : Below wr.heap.size wr (wr.alloc (.cells #[.int .i64 xn, .bool true, .slice none 0 0] 40)) := (Below.refl _ _).alloc (Nat.le_refl _) _
              have HSv : Hid (SlV (wr.alloc (.cells #[.int .i64 xn, .bool true, .slice none 0 0] 40)) (wr.alloc (.cells #[.int .i64 xn, .bool true, .slice none 0 0] 40)).heap.size (.slice none 0 0) []) := (OwnV.nil _ 0).sl
              have CP : Hid (Calls Try.prog 12 #[.agg #[.int .i64 tx, .slice pn N.length cn], .agg #[.int .i64 xn, .bool true, .slice none 0 0]] (wr.alloc (.cells #[.int .i64 xn, .bool true, .slice none 0 0] 40)) fun e w' => (∃ v Z, e = .returned (.tuple #[.agg #[.int .i64 tx, v], .int .i64 0]) ∧ Z.map Prod.fst = putL tx N ⟨xn, true, []⟩ ∧ OwnRs .i64 40 w' (wr.alloc (.cells #[.int .i64 xn, .bool true, .slice none 0 0] 40)).heap.size v Z) ∧ Below (wr.alloc (.cells #[.int .i64 xn, .bool true, .slice none 0 0] 40)).heap.size (wr.alloc (.cells #[.int .i64 xn, .bool true, .slice none 0 0] 40)) w') := by
                have h9 := put_any N pn cn tx xn true [] none 0 (wr.alloc (.cells #[.int .i64 xn, .bool true, .slice none 0 0] 40)) (HN.out.1.on hba) (by exact HSv.out) (by omega) HN.out.2.sh (by simp)
                rw [HPt.out.1.1, HPt.out.1.2] at h9
                exact h9
              have HXb : Hid (Box (wr.alloc (.cells #[.int .i64 xn, .bool true, .slice none 0 0] 40)) w.heap.size #[.int .i64 tx, .slice p wl c] 36 ∧ Box (wr.alloc (.cells #[.int .i64 xn, .bool true, .slice none 0 0] 40)) w2.heap.size #[.int .i64 bt, .slice pB 0 cB] 36 ∧ Box (wr.alloc (.cells #[.int .i64 xn, .bool true, .slice none 0 0] 40)) (w2.heap.size + 1) #[.int .i64 tx, .slice pn N.length cn] 36) := ⟨HX.out.1.on hba, HX.out.2.1.on hba, HX.out.2.2.on hba⟩
              have HBb : Hid (Below w.heap.size w (wr.alloc (.cells #[.int .i64 xn, .bool true, .slice none 0 0] 40))) := hn.trans (hba.mono hn.size)
              have HRbb : Hid (RdR .i64 (wr.alloc (.cells #[.int .i64 xn, .bool true, .slice none 0 0] 40)) (wr.alloc (.cells #[.int .i64 xn, .bool true, .slice none 0 0] 40)).heap.size pB BL) := HRb.out.on hba
              have HSzb : Hid (w2.heap.size + 2 ≤ (wr.alloc (.cells #[.int .i64 xn, .bool true, .slice none 0 0] 40)).heap.size) := Nat.le_trans HSz.out hba.size
              have hzl := HX.out.2.2.lt
              clear hba
              generalize putL tx N ⟨xn, true, []⟩ = N2 at *
              go_wp2_with fail
              generalize (wr.alloc (.cells #[.int .i64 xn, .bool true, .slice none 0 0] 40)) = wb at *
              refine CP.out.mono ?_
              rintro e w5 ⟨⟨v5, Z5, rfl, hZ5, hO5⟩, hb5⟩
              obtain ⟨p5, c5, rfl, _, hr5⟩ := hO5.rd hZ5
              have hb6 : Below w5.heap.size w5 (w5.alloc (.cells #[.int .i64 tx, .slice p5 N2.length c5] 36)) := (Below.refl _ _).alloc (Nat.le_refl _) _
              have HX6 : Hid (Box (w5.alloc (.cells #[.int .i64 tx, .slice p5 N2.length c5] 36)) w.heap.size #[.int .i64 tx, .slice p wl c] 36 ∧ Box (w5.alloc (.cells #[.int .i64 tx, .slice p5 N2.length c5] 36)) w2.heap.size #[.int .i64 bt, .slice pB 0 cB] 36 ∧ Box (w5.alloc (.cells #[.int .i64 tx, .slice p5 N2.length c5] 36)) (w2.heap.size + 1) #[.int .i64 tx, .slice pn N.length cn] 36) := ⟨(HXb.out.1.on hb5).on hb6, (HXb.out.2.1.on hb5).on hb6, (HXb.out.2.2.on hb5).on hb6⟩
              have HB6 : Hid (Below w.heap.size w (w5.alloc (.cells #[.int .i64 tx, .slice p5 N2.length c5] 36))) := (HBb.out.trans (hb5.mono HBb.out.size)).trans (hb6.mono (HBb.out.trans (hb5.mono HBb.out.size)).size)
              have HR6 : Hid (RdR .i64 (w5.alloc (.cells #[.int .i64 tx, .slice p5 N2.length c5] 36)) (w5.alloc (.cells #[.int .i64 tx, .slice p5 N2.length c5] 36)).heap.size p5 N2 ∧ RdR .i64 (w5.alloc (.cells #[.int .i64 tx, .slice p5 N2.length c5] 36)) (w5.alloc (.cells #[.int .i64 tx, .slice p5 N2.length c5] 36)).heap.size pB BL) := ⟨hr5.on hb6, (HRbb.out.on hb5).on hb6⟩
              have HSz6 : Hid (w2.heap.size + 2 ≤ (w5.alloc (.cells #[.int .i64 tx, .slice p5 N2.length c5] 36)).heap.size) := Nat.le_trans (Nat.le_trans HSzb.out hb5.size) hb6.size
              clear hb5 hb6 hO5 hZ5 hr5 x0 x1 y0 y1 y2 y3 z0 z1 z2 z3 HXb HBb HRbb HSzb CP
              obtain ⟨z0, z1, z2, z3⟩ := box2 HX6.out.2.2
              have hzl6 := HX6.out.2.2.lt
              go_wp2_with fail
              generalize w5.alloc (.cells #[.int .i64 tx, .slice p5 N2.length c5] 36) = w6 at *
              have hZZ := (HX6.out.2.2.set (i := 0) (.int .i64 tx)).set (i := 1) (.slice p5 N2.length c5)
              have hZ1 := HX6.out.2.2.set (i := 0) (.int .i64 tx)
              have hI := (HX6.out.1.off (i := 0) (j := w2.heap.size + 1) (.int .i64 tx) (by omega)).off (i := 1) (j := w2.heap.size + 1) (.slice p5 N2.length c5) (by omega)
              have hWs := (HX6.out.2.1.off (i := 0) (j := w2.heap.size + 1) (.int .i64 tx) (by omega)).off (i := 1) (j := w2.heap.size + 1) (.slice p5 N2.length c5) (by omega)
              have hRN := (HR6.out.1.offB (i := 0) HX6.out.2.2 (.int .i64 tx)).offB (i := 1) hZ1 (.slice p5 N2.length c5)
              have hRB := (HR6.out.2.offB (i := 0) HX6.out.2.2 (.int .i64 tx)).offB (i := 1) hZ1 (.slice p5 N2.length c5)
              have hBZ := (HB6.out.setCell (p := ⟨w2.heap.size + 1, 0, none⟩) (show w.heap.size ≤ w2.heap.size + 1 by omega) (.int .i64 tx)).setCell (p := ⟨w2.heap.size + 1, 1, none⟩) (show w.heap.size ≤ w2.heap.size + 1 by omega) (.slice p5 N2.length c5)
              have hsz : ((w6.setCell ⟨w2.heap.size + 1, 0, none⟩ (.int .i64 tx)).setCell ⟨w2.heap.size + 1, 1, none⟩ (.slice p5 N2.length c5)).heap.size = w6.heap.size := by simp [World.setCell]
              rw [← hsz] at hRN hRB HSz6
              clear hsz z0 z1 z2 z3 HX6 HB6 HR6 hZ1 hzl6
              generalize (w6.setCell ⟨w2.heap.size + 1, 0, none⟩ (.int .i64 tx)).setCell ⟨w2.heap.size + 1, 1, none⟩ (.slice p5 N2.length c5) = w9 at *
              go_roundw
              case rel => exact ⟨j + 1, N2, xn, p5, c5, hj1, by go_num, rfl, ⟨hRN, HPt.out.2⟩, ⟨hI, hWs, hZZ⟩, hRB, HSz6, hBZ⟩
              case measure => simp [intOf]; omega
    · have HBt1 : Hid (bt = tx) := HBt.out.trans (if_neg hbl0)
      have hblb : ((bl : Int) == 0) = false := beq_eq_false_iff_ne.2 (by omega)
      clear HBt
      have hbt := HBt1.out
      subst hbt
      have hb7 : Below w2.heap.size w2 (w2.alloc (.cells #[.int .i64 bt, .slice pB bl cB] 36)) := (Below.refl _ _).alloc (Nat.le_refl _) _
      have hb8 : Below (w2.alloc (.cells #[.int .i64 bt, .slice pB bl cB] 36)).heap.size (w2.alloc (.cells #[.int .i64 bt, .slice pB bl cB] 36)) ((w2.alloc (.cells #[.int .i64 bt, .slice pB bl cB] 36)).alloc (.cells #[.int .i64 bt, .slice pB bl cB] 36)) := (Below.refl _ _).alloc (Nat.le_refl _) _
      have hs7 : (w2.alloc (.cells #[.int .i64 bt, .slice pB bl cB] 36)).heap.size = w2.heap.size + 1 := by simp [go_sem]
      have hx8 := Box.new (w2.alloc (.cells #[.int .i64 bt, .slice pB bl cB] 36)) #[.int .i64 bt, .slice pB bl cB] 36
      rw [hs7] at hx8
      have HX8 : Hid (Box ((w2.alloc (.cells #[.int .i64 bt, .slice pB bl cB] 36)).alloc (.cells #[.int .i64 bt, .slice pB bl cB] 36)) w.heap.size #[.int .i64 bt, .slice p wl c] 36 ∧ Box ((w2.alloc (.cells #[.int .i64 bt, .slice pB bl cB] 36)).alloc (.cells #[.int .i64 bt, .slice pB bl cB] 36)) w2.heap.size #[.int .i64 bt, .slice pB bl cB] 36 ∧ Box ((w2.alloc (.cells #[.int .i64 bt, .slice pB bl cB] 36)).alloc (.cells #[.int .i64 bt, .slice pB bl cB] 36)) (w2.heap.size + 1) #[.int .i64 bt, .slice pB bl cB] 36) := ⟨(HX2.out.on hb7).on hb8, (Box.new w2 _ _).on hb8, hx8⟩
      have HB8 : Hid (Below w.heap.size w ((w2.alloc (.cells #[.int .i64 bt, .slice pB bl cB] 36)).alloc (.cells #[.int .i64 bt, .slice pB bl cB] 36)) ∧ w2.heap.size + 2 ≤ ((w2.alloc (.cells #[.int .i64 bt, .slice pB bl cB] 36)).alloc (.cells #[.int .i64 bt, .slice pB bl cB] 36)).heap.size) := ⟨(HB2.out.trans (hb7.mono HB2.out.size)).trans (hb8.mono (HB2.out.trans (hb7.mono HB2.out.size)).size), by simp [go_sem]⟩
      have HRB : Hid (RdR .i64 ((w2.alloc (.cells #[.int .i64 bt, .slice pB bl cB] 36)).alloc (.cells #[.int .i64 bt, .slice pB bl cB] 36)) ((w2.alloc (.cells #[.int .i64 bt, .slice pB bl cB] 36)).alloc (.cells #[.int .i64 bt, .slice pB bl cB] 36)).heap.size pB BL) := (HR2.out.on hb7).on hb8
      clear hb7 hb8 hs7 hx8 HX2 HB2 HR2
      go_wp2_with fail
      generalize ((w2.alloc (.cells #[.int .i64 bt, .slice pB bl cB] 36)).alloc (.cells #[.int .i64 bt, .slice pB bl cB] 36)) = w3 at *
      have HN0 : Hid (RdR .i64 w3 w3.heap.size pB BL ∧ Sv W lv 0 BL lv) := ⟨HRB.out, HSv0.out⟩
      go_loopw [9, 10] (fun at_ i wr => ∃ (j : Nat) (N : List Rw) (a : Int) (pn : Option Addr) (cn : Nat), j ≤ L.length ∧ i = .int .i64 (j : Int) ∧ at_ = .int .i64 a ∧ Hid (RdR .i64 wr wr.heap.size pn N ∧ Sv W lv j N a) ∧ Hid (Box wr w.heap.size #[.int .i64 bt, .slice p wl c] 36 ∧ Box wr w2.heap.size #[.int .i64 bt, .slice pB bl cB] 36 ∧ Box wr (w2.heap.size + 1) #[.int .i64 bt, .slice pn N.length cn] 36) ∧ Hid (RdR .i64 wr wr.heap.size pB BL) ∧ Hid (w2.heap.size + 2 ≤ wr.heap.size) ∧ Below w.heap.size w wr) (fun _ i _ => L.length - (intOf i).toNat)
      case atStart => exact ⟨0, BL, lv, pB, cB, Nat.zero_le _, by go_num, rfl, HN0, by rw [HBl.out]; exact HX8, HRB, HB8.out.2, HB8.out.1⟩
      case round =>
        obtain ⟨j, N, a, pn, cn, hj, rfl, rfl, HN, HX, HRb, HSz, hn⟩ := hrel
        clear HN0 HX8 HRB HB8
        obtain ⟨x0, x1, _, _⟩ := box2 HX.out.1
        obtain ⟨y0, y1, y2, y3⟩ := box2 HX.out.2.1
        obtain ⟨z0, z1, z2, z3⟩ := box2 HX.out.2.2
        have hNl := HN.out.2.len
        rw [HWl.out] at hNl
        by_cases hj0 : j = L.length
        · subst hj0
          obtain ⟨nl, hnl⟩ : ∃ nl, N.length = nl := ⟨_, rfl⟩
          have HNl : Hid (N.length = nl) := hnl
          rw [hnl] at HX z1
          have HBr : Hid (Below w.heap.size w wr) := hn
          by_cases hn0 : nl = 0
          · subst hn0
            clear hnl hNl hn
            go_wp2_with fail
            refine (CAw.out _).mono ?_
            rintro e wz ⟨rfl, hbz⟩
            have HBz : Hid (Below w.heap.size w wz) := HBr.out.trans (hbz.mono HBr.out.size)
            clear hbz
            go_wp2_with fail
            go_ret
            exact ⟨rfl, HBz.out⟩
          · have hnb : ((nl : Int) == 0) = false := beq_eq_false_iff_ne.2 (by omega)
            have HNp : Hid (0 < N.length ∧ N.length ≤ 3518437208780) := ⟨by omega, by omega⟩
            have CF2 : Hid (Calls _ _ _ _ _) := CF.out N pn cn wr HN.out.1 HNp.out.2 HN.out.2.sh
            have HFE : Hid (fldE lv = 0 ∧ fldT bt lv = bt) := ⟨if_neg (by have := HT1.out.2; omega), if_neg (by have := HT1.out.2; omega)⟩
            have HFS : Hid (shwB (seeR [] (fldL N lv) bt bt 1) = shwB (seeR [] N bt bt 1) ∧ shwL (seeR [] (fldL N lv) bt bt 1) = shwL (seeR [] N bt bt 1)) := fld_see HT1.out.2 HT1.out.1 HNp.out.1
            have HFh : Hid (shortR (fldL N lv) ∧ (fldL N lv).length ≤ 3518437208780) := ⟨(fld_sh HN.out.2.sh).1, by have := (fld_sh (s := lv) HN.out.2.sh).2; have := HN.out.2.len; rw [HWl.out] at this; omega⟩
            have HSh : Hid ((shwL (seeR [] N bt bt 1)).length ≤ 17592186043904) := see_sh HN.out.2.sh
            rw [HFE.out.1, HFE.out.2, hnl] at CF2
            clear hnl hNl hn0 hn CF
            go_wp2_with fail
            refine CF2.out.mono ?_
            rintro e w4 ⟨⟨v4, Z4, rfl, hZ4, hO4⟩, hb4⟩
            obtain ⟨p4, c4, rfl, _, hr4⟩ := hO4.rd hZ4
            generalize hFL : fldL N lv = FL at *
            have hba : Below w4.heap.size w4 (w4.alloc (.cells #[.int .i64 bt, .slice p4 FL.length c4] 36)) := (Below.refl _ _).alloc (Nat.le_refl _) _
            have HB5 : Hid (Below w.heap.size w (w4.alloc (.cells #[.int .i64 bt, .slice p4 FL.length c4] 36))) := (HBr.out.trans (hb4.mono HBr.out.size)).trans (hba.mono (HBr.out.trans (hb4.mono HBr.out.size)).size)
            have HX5 : Hid ((Box (w4.alloc (.cells #[.int .i64 bt, .slice p4 FL.length c4] 36)) w.heap.size #[.int .i64 bt, .slice p wl c] 36 ∧ Box (w4.alloc (.cells #[.int .i64 bt, .slice p4 FL.length c4] 36)) w2.heap.size #[.int .i64 bt, .slice pB bl cB] 36 ∧ Box (w4.alloc (.cells #[.int .i64 bt, .slice p4 FL.length c4] 36)) (w2.heap.size + 1) #[.int .i64 bt, .slice pn nl cn] 36) ∧ Box (w4.alloc (.cells #[.int .i64 bt, .slice p4 FL.length c4] 36)) w4.heap.size #[.int .i64 bt, .slice p4 FL.length c4] 36) := ⟨⟨(HX.out.1.on hb4).on hba, (HX.out.2.1.on hb4).on hba, (HX.out.2.2.on hb4).on hba⟩, Box.new w4 _ _⟩
            have HR5 : Hid (RdR .i64 (w4.alloc (.cells #[.int .i64 bt, .slice p4 FL.length c4] 36)) (w4.alloc (.cells #[.int .i64 bt, .slice p4 FL.length c4] 36)).heap.size pn N ∧ RdR .i64 (w4.alloc (.cells #[.int .i64 bt, .slice p4 FL.length c4] 36)) (w4.alloc (.cells #[.int .i64 bt, .slice p4 FL.length c4] 36)).heap.size p4 FL ∧ RdR .i64 (w4.alloc (.cells #[.int .i64 bt, .slice p4 FL.length c4] 36)) (w4.alloc (.cells #[.int .i64 bt, .slice p4 FL.length c4] 36)).heap.size pB BL) := ⟨(HN.out.1.on hb4).on hba, hr4.on hba, (HRb.out.on hb4).on hba⟩
            clear hb4 hO4 hZ4 hr4 hba x0 x1 y0 y1 y2 y3 z0 z1 z2 z3 HBr CF2 HX HRb
            obtain ⟨x0, x1, _, _⟩ := box2 HX5.out.1.1
            obtain ⟨z0, z1, z2, z3⟩ := box2 HX5.out.1.2.2
            go_wp2_with fail
            generalize w4.alloc (.cells #[.int .i64 bt, .slice p4 FL.length c4] 36) = w5 at *
            have CS1 := CSe.out N pn cn w5 HR5.out.1 HNp.out.2 HN.out.2.sh
            rw [HNl.out] at CS1
            generalize hrb : shwB (seeR [] N bt bt 1) = rb at *
            generalize hrl : shwL (seeR [] N bt bt 1) = rl at *
            refine CS1.mono ?_
            rintro e w6 ⟨⟨v6, rfl, ho6⟩, hb6⟩
            obtain ⟨q6, c6, rfl, hr6, _⟩ := ho6.sl
            have HB6 : Hid (Below w.heap.size w w6) := HB5.out.trans (hb6.mono HB5.out.size)
            have HX6 : Hid ((Box w6 w.heap.size #[.int .i64 bt, .slice p wl c] 36 ∧ Box w6 w2.heap.size #[.int .i64 bt, .slice pB bl cB] 36 ∧ Box w6 (w2.heap.size + 1) #[.int .i64 bt, .slice pn nl cn] 36) ∧ Box w6 w4.heap.size #[.int .i64 bt, .slice p4 FL.length c4] 36) := ⟨⟨HX5.out.1.1.on hb6, HX5.out.1.2.1.on hb6, HX5.out.1.2.2.on hb6⟩, HX5.out.2.on hb6⟩
            have HR6 : Hid (RdR .i64 w6 w6.heap.size pn N ∧ RdR .i64 w6 w6.heap.size p4 FL ∧ RdR .i64 w6 w6.heap.size pB BL) := ⟨HR5.out.1.on hb6, HR5.out.2.1.on hb6, HR5.out.2.2.on hb6⟩
            have HV6 : Hid (RowV w6 w6.heap.size q6 rl) := hr6
            clear hb6 ho6 hr6 x0 x1 z0 z1 z2 z3 HB5 HX5 HR5
            obtain ⟨x0, x1, _, _⟩ := box2 HX6.out.1.1
            obtain ⟨u0, u1, u2, u3⟩ := box2 HX6.out.2
            have CS2 : Hid (Calls Try.prog 14 #[.slice none 0 0, .agg #[.int .i64 bt, .slice p4 FL.length c4], .int .i64 bt, .int .u64 1] w6 fun e w' => (∃ v', e = .returned (.tuple #[v', .bool rb]) ∧ OwnV w' w6.heap.size v' rl) ∧ Below w6.heap.size w6 w') := by
              have h9 := CSe.out FL p4 c4 w6 HR6.out.2.1 HFh.out.2 HFh.out.1
              rw [HFS.out.1, HFS.out.2] at h9
              exact h9
            go_wp2_with fail
            refine CS2.out.mono ?_
            rintro e w7 ⟨⟨v7, rfl, ho7⟩, hb7⟩
            obtain ⟨q7, c7, rfl, hr7, _⟩ := ho7.sl
            have HB7 : Hid (Below w.heap.size w w7) := HB6.out.trans (hb7.mono HB6.out.size)
            have HX7 : Hid (Box w7 w.heap.size #[.int .i64 bt, .slice p wl c] 36 ∧ Box w7 w2.heap.size #[.int .i64 bt, .slice pB bl cB] 36 ∧ Box w7 (w2.heap.size + 1) #[.int .i64 bt, .slice pn nl cn] 36) := ⟨HX6.out.1.1.on hb7, HX6.out.1.2.1.on hb7, HX6.out.1.2.2.on hb7⟩
            have HR7 : Hid (RdR .i64 w7 w7.heap.size pn N ∧ RdR .i64 w7 w7.heap.size pB BL) := ⟨HR6.out.1.on hb7, HR6.out.2.2.on hb7⟩
            have HV7 : Hid (RowV w7 w7.heap.size q6 rl ∧ RowV w7 w7.heap.size q7 rl) := ⟨HV6.out.on hb7, hr7⟩
            clear hb7 ho7 hr7 x0 x1 u0 u1 u2 u3 HB6 HX6 HR6 HV6 CS2
            have CBk : Hid (∀ w1, RdR .i64 w1 w1.heap.size pn N → Calls Try.prog 11 #[.agg #[.int .i64 bt, .slice pn nl cn], .int .i64 lv] w1 fun e w' => (∃ v Z, e = .returned (.agg #[.int .i64 bt, v]) ∧ Z.map Prod.fst = BL ∧ OwnRs .i64 40 w' w1.heap.size v Z) ∧ Below w1.heap.size w1 w') := fun w1 h1 => by
              have h9 := CBN.out N pn cn w1 h1 HNp.out.2 HN.out.2.sh
              rw [HNl.out, (HBt2.out _ _ _ HN.out.2).1, (HBt2.out _ _ _ HN.out.2).2] at h9
              exact h9
            go_wp2_with fail
            refine wp_region_L (fun w' => Box w' w.heap.size #[.int .i64 bt, .slice p wl c] 36 ∧ Box w' w2.heap.size #[.int .i64 bt, .slice pB bl cB] 36 ∧ Box w' (w2.heap.size + 1) #[.int .i64 bt, .slice pn nl cn] 36) 22 (by kernel_rfl) ?_
            have hS0 : Box w7.drew w.heap.size #[.int .i64 bt, .slice p wl c] 36 ∧ Box w7.drew w2.heap.size #[.int .i64 bt, .slice pB bl cB] 36 ∧ Box w7.drew (w2.heap.size + 1) #[.int .i64 bt, .slice pn nl cn] 36 := HX7.out
            have HBe : Hid (Below w.heap.size w w7.drew) := HB7.out.drew
            have C7 : Hid (Calls Try.prog 15 #[.slice q6 rl.length c6, .slice q7 rl.length c7] w7.drew fun e w' => e = .returned (.bool true) ∧ Below w7.drew.heap.size w7.drew w') := sameRow_eq rl q6 q7 c6 c7 w7.drew HV7.out.1 HV7.out.2 HSh.out
            have HR8 : Hid (RdR .i64 w7.drew w7.drew.heap.size pn N ∧ RdR .i64 w7.drew w7.drew.heap.size pB BL) := HR7.out
            clear HB7 HX7 HV7 HR7
            refine wpL_take (v := ?_) 0 rfl (by kernel_rfl) (fun _ _ _ h => h) (by rfl) ?_ hS0 ?_
            rotate_left
            focus
              intro w9 hw9
              go_simp
              try with_reducible rfl
            try simp only [Act.put, List.setIfInBounds_toArray, List.set_cons_zero, List.set_cons_succ]
            refine wpL_take (v := ?_) 1 rfl (by kernel_rfl) (fun _ _ _ h => h) (by rfl) ?_ hS0 ?_
            rotate_left
            focus
              intro w9 hw9
              go_simp
              try with_reducible rfl
            try simp only [Act.put, List.setIfInBounds_toArray, List.set_cons_zero, List.set_cons_succ]
            refine wpL_take (v := ?_) 2 rfl (by kernel_rfl) (fun _ _ _ h => h) (by rfl) ?_ hS0 ?_
            rotate_left
            focus
              intro w9 hw9
              go_simp
              try with_reducible rfl
            try simp only [Act.put, List.setIfInBounds_toArray, List.set_cons_zero, List.set_cons_succ]
            refine wpL_take (v := ?_) 3 rfl (by kernel_rfl) (fun _ _ _ h => h) (by rfl) ?_ hS0 ?_
            rotate_left
            focus
              intro w9 hw9
              go_simp
              try with_reducible rfl
            try simp only [Act.put, List.setIfInBounds_toArray, List.set_cons_zero, List.set_cons_succ]
            refine wpL_take (v := ?_) 4 rfl (by kernel_rfl) (fun _ _ _ h => h) (by rfl) ?_ hS0 ?_
            rotate_left
            focus
              intro w9 hw9
              go_simp
              try with_reducible rfl
            try simp only [Act.put, List.setIfInBounds_toArray, List.set_cons_zero, List.set_cons_succ]
            refine wpL_take (v := ?_) 5 rfl (by kernel_rfl) (fun _ _ _ h => h) (by rfl) ?_ hS0 ?_
            rotate_left
            focus
              intro w9 hw9
              go_simp
              try with_reducible rfl
            try simp only [Act.put, List.setIfInBounds_toArray, List.set_cons_zero, List.set_cons_succ]
            refine wpL_take (v := ?_) 6 rfl (by kernel_rfl) (fun _ _ _ h => h) (by rfl) ?_ hS0 ?_
            rotate_left
            focus
              intro w9 hw9
              go_simp
              try with_reducible rfl
            try simp only [Act.put, List.setIfInBounds_toArray, List.set_cons_zero, List.set_cons_succ]
            refine wpL_take (v := ?_) 7 rfl (by kernel_rfl) (fun _ _ _ h => h) (by rfl) ?_ hS0 ?_
            rotate_left
            focus
              intro w9 hw9
              go_simp
              try with_reducible rfl
            try simp only [Act.put, List.setIfInBounds_toArray, List.set_cons_zero, List.set_cons_succ]
            refine wpL_take (v := ?_) 8 rfl (by kernel_rfl) (fun _ _ _ h => h) (by rfl) ?_ hS0 ?_
            rotate_left
            focus
              intro w9 hw9
              go_simp
              try with_reducible rfl
            try simp only [Act.put, List.setIfInBounds_toArray, List.set_cons_zero, List.set_cons_succ]
            refine wpL_take (v := ?_) 9 rfl (by kernel_rfl) (fun _ _ _ h => h) (by rfl) ?_ hS0 ?_
            rotate_left
            focus
              intro w9 hw9
              go_simp
              try with_reducible rfl
            try simp only [Act.put, List.setIfInBounds_toArray, List.set_cons_zero, List.set_cons_succ]
            refine wpL_one 10 rfl (by kernel_rfl) (by rfl) ?_
            intro K hK
            go_simp
            refine C7.out.mono ?_
            rintro e w8 ⟨rfl, hb8⟩
            dsimp only
            have hS8 : Box w8 w.heap.size #[.int .i64 bt, .slice p wl c] 36 ∧ Box w8 w2.heap.size #[.int .i64 bt, .slice pB bl cB] 36 ∧ Box w8 (w2.heap.size + 1) #[.int .i64 bt, .slice pn nl cn] 36 := ⟨hS0.1.on hb8, hS0.2.1.on hb8, hS0.2.2.on hb8⟩
            have HB8 : Hid (Below w.heap.size w w8) := HBe.out.trans (hb8.mono HBe.out.size)
            have HR9 : Hid (RdR .i64 w8 w8.heap.size pn N ∧ RdR .i64 w8 w8.heap.size pB BL) := ⟨HR8.out.1.on hb8, HR8.out.2.on hb8⟩
            clear hb8 hS0 HBe C7 HR8
            refine hK.out _ _ (fun _ => hS8) ?_
            clear hK K
            try simp only [Act.put, List.setIfInBounds_toArray, List.set_cons_zero, List.set_cons_succ]
            refine wpL_take (v := ?_) 11 rfl (by kernel_rfl) (fun _ _ _ h => h) (by rfl) ?_ hS8 ?_
            rotate_left
            focus
              intro w9 hw9
              obtain ⟨x0, x1, _⟩ := box2 hw9.1
              obtain ⟨y0, y1, _⟩ := box2 hw9.2.1
              obtain ⟨z0, z1, _⟩ := box2 hw9.2.2
              go_simp
              try with_reducible rfl
            try simp only [Act.put, List.setIfInBounds_toArray, List.set_cons_zero, List.set_cons_succ]
            refine wpL_take (v := ?_) 12 rfl (by kernel_rfl) (fun _ _ _ h => h) (by rfl) ?_ hS8 ?_
            rotate_left
            focus
              intro w9 hw9
              obtain ⟨x0, x1, _⟩ := box2 hw9.1
              obtain ⟨y0, y1, _⟩ := box2 hw9.2.1
              obtain ⟨z0, z1, _⟩ := box2 hw9.2.2
              go_simp
              try with_reducible rfl
            try simp only [Act.put, List.setIfInBounds_toArray, List.set_cons_zero, List.set_cons_succ]
            refine wpL_take (v := ?_) 13 rfl (by kernel_rfl) (fun _ _ _ h => h) (by rfl) ?_ hS8 ?_
            rotate_left
            focus
              intro w9 hw9
              obtain ⟨x0, x1, _⟩ := box2 hw9.1
              obtain ⟨y0, y1, _⟩ := box2 hw9.2.1
              obtain ⟨z0, z1, _⟩ := box2 hw9.2.2
              go_simp
              try with_reducible rfl
            try simp only [Act.put, List.setIfInBounds_toArray, List.set_cons_zero, List.set_cons_succ]
            refine wpL_take (v := ?_) 14 rfl (by kernel_rfl) (fun _ _ _ h => h) (by rfl) ?_ hS8 ?_
            rotate_left
            focus
              intro w9 hw9
              obtain ⟨x0, x1, _⟩ := box2 hw9.1
              obtain ⟨y0, y1, _⟩ := box2 hw9.2.1
              obtain ⟨z0, z1, _⟩ := box2 hw9.2.2
              go_simp
              try with_reducible rfl
            try simp only [Act.put, List.setIfInBounds_toArray, List.set_cons_zero, List.set_cons_succ]
            refine wpL_take (v := ?_) 16 rfl (by kernel_rfl) (fun _ _ _ h => h) (by rfl) ?_ hS8 ?_
            rotate_left
            focus
              intro w9 hw9
              obtain ⟨x0, x1, _⟩ := box2 hw9.1
              obtain ⟨y0, y1, _⟩ := box2 hw9.2.1
              obtain ⟨z0, z1, _⟩ := box2 hw9.2.2
              go_simp
              try with_reducible rfl
            try simp only [Act.put, List.setIfInBounds_toArray, List.set_cons_zero, List.set_cons_succ]
            refine wpL_one 15 rfl (by kernel_rfl) (by rfl) ?_
            intro K hK
            go_simp
            refine (CBk.out _ HR9.out.1).mono ?_
            rintro e wA ⟨⟨vA, ZA, rfl, hZA, hOA⟩, hbA⟩
            dsimp only
            obtain ⟨pA, cA, eA, _, hrA⟩ := hOA.rd hZA
            rw [HBl.out] at eA
            subst eA
            have hSA : Box wA w.heap.size #[.int .i64 bt, .slice p wl c] 36 ∧ Box wA w2.heap.size #[.int .i64 bt, .slice pB bl cB] 36 ∧ Box wA (w2.heap.size + 1) #[.int .i64 bt, .slice pn nl cn] 36 := ⟨hS8.1.on hbA, hS8.2.1.on hbA, hS8.2.2.on hbA⟩
            have HBA : Hid (Below w.heap.size w wA) := HB8.out.trans (hbA.mono HB8.out.size)
            have C8 : Hid (Calls Try.prog 16 #[.agg #[.int .i64 bt, .slice pA bl cA], .agg #[.int .i64 bt, .slice pB bl cB]] wA fun e w' => e = .returned (.bool true) ∧ Below wA.heap.size wA w') := by
              have h9 := sameIntent_eq BL pA pB cA cB bt wA hrA (HR9.out.2.on hbA) HBs.out.2 HBs.out.1
              rw [HBl.out] at h9
              exact h9
            clear hbA hS8 HB8 hOA hZA hrA HR9 CBk
            refine hK.out _ _ (fun _ => hSA) ?_
            clear hK K
            try simp only [Act.put, List.setIfInBounds_toArray, List.set_cons_zero, List.set_cons_succ]
            refine wpL_one 17 rfl (by kernel_rfl) (by rfl) ?_
            intro K hK
            go_simp
            refine C8.out.mono ?_
            rintro e wC ⟨rfl, hbC⟩
            dsimp only
            have hSC : Box wC w.heap.size #[.int .i64 bt, .slice p wl c] 36 ∧ Box wC w2.heap.size #[.int .i64 bt, .slice pB bl cB] 36 ∧ Box wC (w2.heap.size + 1) #[.int .i64 bt, .slice pn nl cn] 36 := ⟨hSA.1.on hbC, hSA.2.1.on hbC, hSA.2.2.on hbC⟩
            have HBC : Hid (Below w.heap.size w wC) := HBA.out.trans (hbC.mono HBA.out.size)
            clear hbC hSA HBA C8
            refine hK.out _ _ (fun _ => hSC) ?_
            clear hK K
            try simp only [Act.put, List.setIfInBounds_toArray, List.set_cons_zero, List.set_cons_succ]
            refine wpL_take (v := ?_) 18 rfl (by kernel_rfl) (fun _ _ _ h => h) (by rfl) ?_ hSC ?_
            rotate_left
            focus
              intro w9 hw9
              go_simp
              try with_reducible rfl
            try simp only [Act.put, List.setIfInBounds_toArray, List.set_cons_zero, List.set_cons_succ]
            refine wpL_take (v := ?_) 19 rfl (by kernel_rfl) (fun _ _ _ h => h) (by rfl) ?_ hSC ?_
            rotate_left
            focus
              intro w9 hw9
              go_simp
              try with_reducible rfl
            try simp only [Act.put, List.setIfInBounds_toArray, List.set_cons_zero, List.set_cons_succ]
            refine wpL_one 20 rfl (by kernel_rfl) (by rfl) ?_
            intro K hK
            go_simp
            refine (CAw.out _).mono ?_
            rintro e wD ⟨rfl, hbD⟩
            dsimp only
            have hSD : Box wD w.heap.size #[.int .i64 bt, .slice p wl c] 36 ∧ Box wD w2.heap.size #[.int .i64 bt, .slice pB bl cB] 36 ∧ Box wD (w2.heap.size + 1) #[.int .i64 bt, .slice pn nl cn] 36 := ⟨hSC.1.on hbD, hSC.2.1.on hbD, hSC.2.2.on hbD⟩
            have HBD : Hid (Below w.heap.size w wD) := HBC.out.trans (hbD.mono HBC.out.size)
            clear hbD hSC HBC
            refine hK.out _ _ (fun _ => hSD) ?_
            clear hK K
            try simp only [Act.put, List.setIfInBounds_toArray, List.set_cons_zero, List.set_cons_succ]
            refine wpL_take (v := ?_) 21 rfl (by kernel_rfl) (fun _ _ _ h => h) (by rfl) ?_ hSD ?_
            rotate_left
            focus
              intro w9 hw9
              go_simp
              try with_reducible rfl
            try simp only [Act.put, List.setIfInBounds_toArray, List.set_cons_zero, List.set_cons_succ]
            refine wpL_one 22 rfl (by kernel_rfl) (by rfl) ?_
            intro K hK
            go_simp
            refine hK.out _ _ (fun h => absurd rfl h) ?_
            clear hK K
            refine wpL_done (by kernel_rfl) ?_ _
            refine NoPanic.normal ?_
            go_wp2_with fail
            go_ret
            exact ⟨rfl, HBD.out⟩
        · have hj1 : j < L.length := by omega
          obtain ⟨b, o, q1, d1, e1, hbB, c0, c1, c2, hr, hq⟩ := HQ.out wr hn j hj1
          subst e1
          have HPt : Hid ((putE bt N (topW a L[j]) = 0 ∧ putT bt N (topW a L[j]) = bt) ∧ Sv W lv (j + 1) (putL bt N (topW a L[j])) (topW a L[j]).n) := HN.out.2.put HT1.out.1 HT1.out.2 (HSL.out j hj1)
          have HTp : Hid (topW a L[j] = ⟨if L[j].n < a then a else L[j].n, L[j].gn, if L[j].gn then [] else L[j].row⟩) := rfl
          have HSlj : Hid (SlV wr wr.heap.size (.slice q1 L[j].row.length d1) L[j].row ∧ L[j].row.length ≤ 3518437208780) := ⟨⟨q1, d1, rfl, hr, hq⟩, HSL.out j hj1⟩
          clear hr hq hj0
          generalize topW a L[j] = tw at *
          generalize L[j].n = xn at *
          generalize L[j].gn = xg at *
          generalize hxrow : L[j].row = xrow at *
          obtain ⟨xl, hxl⟩ : ∃ xl, xrow.length = xl := ⟨_, rfl⟩
          have HXl : Hid (xrow.length = xl) := hxl
          rw [hxl] at c2 HSlj
          clear hxl hxrow
          by_cases hlt : xn < a
          · cases xg with
            | false =>
              have HTw : Hid (tw = ⟨a, false, xrow⟩) := HTp.out.trans (by rw [if_pos hlt]; rfl)
              have htw := HTw.out
              subst htw
              dsimp only at HPt


              have hba : Below wr.heap.size wr (wr.alloc (.cells #[.int .i64 a, .bool false, .slice q1 xl d1] 40)) := (Below.refl _ _).alloc (Nat.le_refl _) _
              have HSv : Hid (SlV (wr.alloc (.cells #[.int .i64 a, .bool false, .slice q1 xl d1] 40)) (wr.alloc (.cells #[.int .i64 a, .bool false, .slice q1 xl d1] 40)).heap.size (.slice q1 xl d1) xrow) := (HSlj.out.1.keep hba).mono hba.size
              have CP : Hid (Calls Try.prog 12 #[.agg #[.int .i64 bt, .slice pn N.length cn], .agg #[.int .i64 a, .bool false, .slice q1 xl d1]] (wr.alloc (.cells #[.int .i64 a, .bool false, .slice q1 xl d1] 40)) fun e w' => (∃ v Z, e = .returned (.tuple #[.agg #[.int .i64 bt, v], .int .i64 0]) ∧ Z.map Prod.fst = putL bt N ⟨a, false, xrow⟩ ∧ OwnRs .i64 40 w' (wr.alloc (.cells #[.int .i64 a, .bool false, .slice q1 xl d1] 40)).heap.size v Z) ∧ Below (wr.alloc (.cells #[.int .i64 a, .bool false, .slice q1 xl d1] 40)).heap.size (wr.alloc (.cells #[.int .i64 a, .bool false, .slice q1 xl d1] 40)) w') := by
                have h9 := put_any N pn cn bt a false xrow q1 d1 (wr.alloc (.cells #[.int .i64 a, .bool false, .slice q1 xl d1] 40)) (HN.out.1.on hba) (by rw [HXl.out]; exact HSv.out) (by omega) HN.out.2.sh (by rw [HXl.out]; exact HSlj.out.2)
                rw [HPt.out.1.1, HPt.out.1.2, HXl.out] at h9
                exact h9
              have HXb : Hid (Box (wr.alloc (.cells #[.int .i64 a, .bool false, .slice q1 xl d1] 40)) w.heap.size #[.int .i64 bt, .slice p wl c] 36 ∧ Box (wr.alloc (.cells #[.int .i64 a, .bool false, .slice q1 xl d1] 40)) w2.heap.size #[.int .i64 bt, .slice pB bl cB] 36 ∧ Box (wr.alloc (.cells #[.int .i64 a, .bool false, .slice q1 xl d1] 40)) (w2.heap.size + 1) #[.int .i64 bt, .slice pn N.length cn] 36) := ⟨HX.out.1.on hba, HX.out.2.1.on hba, HX.out.2.2.on hba⟩
              have HBb : Hid (Below w.heap.size w (wr.alloc (.cells #[.int .i64 a, .bool false, .slice q1 xl d1] 40))) := hn.trans (hba.mono hn.size)
              have HRbb : Hid (RdR .i64 (wr.alloc (.cells #[.int .i64 a, .bool false, .slice q1 xl d1] 40)) (wr.alloc (.cells #[.int .i64 a, .bool false, .slice q1 xl d1] 40)).heap.size pB BL) := HRb.out.on hba
              have HSzb : Hid (w2.heap.size + 2 ≤ (wr.alloc (.cells #[.int .i64 a, .bool false, .slice q1 xl d1] 40)).heap.size) := Nat.le_trans HSz.out hba.size
              have hzl := HX.out.2.2.lt
              clear hba
              generalize putL bt N ⟨a, false, xrow⟩ = N2 at *
              go_wp2_with fail
              generalize (wr.alloc (.cells #[.int .i64 a, .bool false, .slice q1 xl d1] 40)) = wb at *
              refine CP.out.mono ?_
              rintro e w5 ⟨⟨v5, Z5, rfl, hZ5, hO5⟩, hb5⟩
              obtain ⟨p5, c5, rfl, _, hr5⟩ := hO5.rd hZ5
              have hb6 : Below w5.heap.size w5 (w5.alloc (.cells #[.int .i64 bt, .slice p5 N2.length c5] 36)) := (Below.refl _ _).alloc (Nat.le_refl _) _
              have HX6 : Hid (Box (w5.alloc (.cells #[.int .i64 bt, .slice p5 N2.length c5] 36)) w.heap.size #[.int .i64 bt, .slice p wl c] 36 ∧ Box (w5.alloc (.cells #[.int .i64 bt, .slice p5 N2.length c5] 36)) w2.heap.size #[.int .i64 bt, .slice pB bl cB] 36 ∧ Box (w5.alloc (.cells #[.int .i64 bt, .slice p5 N2.length c5] 36)) (w2.heap.size + 1) #[.int .i64 bt, .slice pn N.length cn] 36) := ⟨(HXb.out.1.on hb5).on hb6, (HXb.out.2.1.on hb5).on hb6, (HXb.out.2.2.on hb5).on hb6⟩
              have HB6 : Hid (Below w.heap.size w (w5.alloc (.cells #[.int .i64 bt, .slice p5 N2.length c5] 36))) := (HBb.out.trans (hb5.mono HBb.out.size)).trans (hb6.mono (HBb.out.trans (hb5.mono HBb.out.size)).size)
              have HR6 : Hid (RdR .i64 (w5.alloc (.cells #[.int .i64 bt, .slice p5 N2.length c5] 36)) (w5.alloc (.cells #[.int .i64 bt, .slice p5 N2.length c5] 36)).heap.size p5 N2 ∧ RdR .i64 (w5.alloc (.cells #[.int .i64 bt, .slice p5 N2.length c5] 36)) (w5.alloc (.cells #[.int .i64 bt, .slice p5 N2.length c5] 36)).heap.size pB BL) := ⟨hr5.on hb6, (HRbb.out.on hb5).on hb6⟩
              have HSz6 : Hid (w2.heap.size + 2 ≤ (w5.alloc (.cells #[.int .i64 bt, .slice p5 N2.length c5] 36)).heap.size) := Nat.le_trans (Nat.le_trans HSzb.out hb5.size) hb6.size
              clear hb5 hb6 hO5 hZ5 hr5 x0 x1 y0 y1 y2 y3 z0 z1 z2 z3 HXb HBb HRbb HSzb CP
              obtain ⟨z0, z1, z2, z3⟩ := box2 HX6.out.2.2
              have hzl6 := HX6.out.2.2.lt
              go_wp2_with fail
              generalize w5.alloc (.cells #[.int .i64 bt, .slice p5 N2.length c5] 36) = w6 at *
              have hZZ := (HX6.out.2.2.set (i := 0) (.int .i64 bt)).set (i := 1) (.slice p5 N2.length c5)
              have hZ1 := HX6.out.2.2.set (i := 0) (.int .i64 bt)
              have hI := (HX6.out.1.off (i := 0) (j := w2.heap.size + 1) (.int .i64 bt) (by omega)).off (i := 1) (j := w2.heap.size + 1) (.slice p5 N2.length c5) (by omega)
              have hWs := (HX6.out.2.1.off (i := 0) (j := w2.heap.size + 1) (.int .i64 bt) (by omega)).off (i := 1) (j := w2.heap.size + 1) (.slice p5 N2.length c5) (by omega)
              have hRN := (HR6.out.1.offB (i := 0) HX6.out.2.2 (.int .i64 bt)).offB (i := 1) hZ1 (.slice p5 N2.length c5)
              have hRB := (HR6.out.2.offB (i := 0) HX6.out.2.2 (.int .i64 bt)).offB (i := 1) hZ1 (.slice p5 N2.length c5)
              have hBZ := (HB6.out.setCell (p := ⟨w2.heap.size + 1, 0, none⟩) (show w.heap.size ≤ w2.heap.size + 1 by omega) (.int .i64 bt)).setCell (p := ⟨w2.heap.size + 1, 1, none⟩) (show w.heap.size ≤ w2.heap.size + 1 by omega) (.slice p5 N2.length c5)
              have hsz : ((w6.setCell ⟨w2.heap.size + 1, 0, none⟩ (.int .i64 bt)).setCell ⟨w2.heap.size + 1, 1, none⟩ (.slice p5 N2.length c5)).heap.size = w6.heap.size := by simp [World.setCell]
              rw [← hsz] at hRN hRB HSz6
              clear hsz z0 z1 z2 z3 HX6 HB6 HR6 hZ1 hzl6
              generalize (w6.setCell ⟨w2.heap.size + 1, 0, none⟩ (.int .i64 bt)).setCell ⟨w2.heap.size + 1, 1, none⟩ (.slice p5 N2.length c5) = w9 at *
              go_roundw
              case rel => exact ⟨j + 1, N2, a, p5, c5, hj1, by go_num, rfl, ⟨hRN, HPt.out.2⟩, ⟨hI, hWs, hZZ⟩, hRB, HSz6, hBZ⟩
              case measure => simp [intOf]; omega
            | true =>
              have HTw : Hid (tw = ⟨a, true, []⟩) := HTp.out.trans (by rw [if_pos hlt]; rfl)
              have htw := HTw.out
              subst htw
              dsimp only at HPt


              have hba : Below wr.heap.size wr (wr.alloc (.cells #[.int .i64 a, .bool true, .slice none 0 0] 40)) := (Below.refl _ _).alloc (Nat.le_refl _) _
              have HSv : Hid (SlV (wr.alloc (.cells #[.int .i64 a, .bool true, .slice none 0 0] 40)) (wr.alloc (.cells #[.int .i64 a, .bool true, .slice none 0 0] 40)).heap.size (.slice none 0 0) []) := (OwnV.nil _ 0).sl
              have CP : Hid (Calls Try.prog 12 #[.agg #[.int .i64 bt, .slice pn N.length cn], .agg #[.int .i64 a, .bool true, .slice none 0 0]] (wr.alloc (.cells #[.int .i64 a, .bool true, .slice none 0 0] 40)) fun e w' => (∃ v Z, e = .returned (.tuple #[.agg #[.int .i64 bt, v], .int .i64 0]) ∧ Z.map Prod.fst = putL bt N ⟨a, true, []⟩ ∧ OwnRs .i64 40 w' (wr.alloc (.cells #[.int .i64 a, .bool true, .slice none 0 0] 40)).heap.size v Z) ∧ Below (wr.alloc (.cells #[.int .i64 a, .bool true, .slice none 0 0] 40)).heap.size (wr.alloc (.cells #[.int .i64 a, .bool true, .slice none 0 0] 40)) w') := by
                have h9 := put_any N pn cn bt a true [] none 0 (wr.alloc (.cells #[.int .i64 a, .bool true, .slice none 0 0] 40)) (HN.out.1.on hba) (by exact HSv.out) (by omega) HN.out.2.sh (by simp)
                rw [HPt.out.1.1, HPt.out.1.2] at h9
                exact h9
              have HXb : Hid (Box (wr.alloc (.cells #[.int .i64 a, .bool true, .slice none 0 0] 40)) w.heap.size #[.int .i64 bt, .slice p wl c] 36 ∧ Box (wr.alloc (.cells #[.int .i64 a, .bool true, .slice none 0 0] 40)) w2.heap.size #[.int .i64 bt, .slice pB bl cB] 36 ∧ Box (wr.alloc (.cells #[.int .i64 a, .bool true, .slice none 0 0] 40)) (w2.heap.size + 1) #[.int .i64 bt, .slice pn N.length cn] 36) := ⟨HX.out.1.on hba, HX.out.2.1.on hba, HX.out.2.2.on hba⟩
              have HBb : Hid (Below w.heap.size w (wr.alloc (.cells #[.int .i64 a, .bool true, .slice none 0 0] 40))) := hn.trans (hba.mono hn.size)
              have HRbb : Hid (RdR .i64 (wr.alloc (.cells #[.int .i64 a, .bool true, .slice none 0 0] 40)) (wr.alloc (.cells #[.int .i64 a, .bool true, .slice none 0 0] 40)).heap.size pB BL) := HRb.out.on hba
              have HSzb : Hid (w2.heap.size + 2 ≤ (wr.alloc (.cells #[.int .i64 a, .bool true, .slice none 0 0] 40)).heap.size) := Nat.le_trans HSz.out hba.size
              have hzl := HX.out.2.2.lt
              clear hba
              generalize putL bt N ⟨a, true, []⟩ = N2 at *
              go_wp2_with fail
              generalize (wr.alloc (.cells #[.int .i64 a, .bool true, .slice none 0 0] 40)) = wb at *
              refine CP.out.mono ?_
              rintro e w5 ⟨⟨v5, Z5, rfl, hZ5, hO5⟩, hb5⟩
              obtain ⟨p5, c5, rfl, _, hr5⟩ := hO5.rd hZ5
              have hb6 : Below w5.heap.size w5 (w5.alloc (.cells #[.int .i64 bt, .slice p5 N2.length c5] 36)) := (Below.refl _ _).alloc (Nat.le_refl _) _
              have HX6 : Hid (Box (w5.alloc (.cells #[.int .i64 bt, .slice p5 N2.length c5] 36)) w.heap.size #[.int .i64 bt, .slice p wl c] 36 ∧ Box (w5.alloc (.cells #[.int .i64 bt, .slice p5 N2.length c5] 36)) w2.heap.size #[.int .i64 bt, .slice pB bl cB] 36 ∧ Box (w5.alloc (.cells #[.int .i64 bt, .slice p5 N2.length c5] 36)) (w2.heap.size + 1) #[.int .i64 bt, .slice pn N.length cn] 36) := ⟨(HXb.out.1.on hb5).on hb6, (HXb.out.2.1.on hb5).on hb6, (HXb.out.2.2.on hb5).on hb6⟩
              have HB6 : Hid (Below w.heap.size w (w5.alloc (.cells #[.int .i64 bt, .slice p5 N2.length c5] 36))) := (HBb.out.trans (hb5.mono HBb.out.size)).trans (hb6.mono (HBb.out.trans (hb5.mono HBb.out.size)).size)
              have HR6 : Hid (RdR .i64 (w5.alloc (.cells #[.int .i64 bt, .slice p5 N2.length c5] 36)) (w5.alloc (.cells #[.int .i64 bt, .slice p5 N2.length c5] 36)).heap.size p5 N2 ∧ RdR .i64 (w5.alloc (.cells #[.int .i64 bt, .slice p5 N2.length c5] 36)) (w5.alloc (.cells #[.int .i64 bt, .slice p5 N2.length c5] 36)).heap.size pB BL) := ⟨hr5.on hb6, (HRbb.out.on hb5).on hb6⟩
              have HSz6 : Hid (w2.heap.size + 2 ≤ (w5.alloc (.cells #[.int .i64 bt, .slice p5 N2.length c5] 36)).heap.size) := Nat.le_trans (Nat.le_trans HSzb.out hb5.size) hb6.size
              clear hb5 hb6 hO5 hZ5 hr5 x0 x1 y0 y1 y2 y3 z0 z1 z2 z3 HXb HBb HRbb HSzb CP
              obtain ⟨z0, z1, z2, z3⟩ := box2 HX6.out.2.2
              have hzl6 := HX6.out.2.2.lt
              go_wp2_with fail
              generalize w5.alloc (.cells #[.int .i64 bt, .slice p5 N2.length c5] 36) = w6 at *
              have hZZ := (HX6.out.2.2.set (i := 0) (.int .i64 bt)).set (i := 1) (.slice p5 N2.length c5)
              have hZ1 := HX6.out.2.2.set (i := 0) (.int .i64 bt)
              have hI := (HX6.out.1.off (i := 0) (j := w2.heap.size + 1) (.int .i64 bt) (by omega)).off (i := 1) (j := w2.heap.size + 1) (.slice p5 N2.length c5) (by omega)
              have hWs := (HX6.out.2.1.off (i := 0) (j := w2.heap.size + 1) (.int .i64 bt) (by omega)).off (i := 1) (j := w2.heap.size + 1) (.slice p5 N2.length c5) (by omega)
              have hRN := (HR6.out.1.offB (i := 0) HX6.out.2.2 (.int .i64 bt)).offB (i := 1) hZ1 (.slice p5 N2.length c5)
              have hRB := (HR6.out.2.offB (i := 0) HX6.out.2.2 (.int .i64 bt)).offB (i := 1) hZ1 (.slice p5 N2.length c5)
              have hBZ := (HB6.out.setCell (p := ⟨w2.heap.size + 1, 0, none⟩) (show w.heap.size ≤ w2.heap.size + 1 by omega) (.int .i64 bt)).setCell (p := ⟨w2.heap.size + 1, 1, none⟩) (show w.heap.size ≤ w2.heap.size + 1 by omega) (.slice p5 N2.length c5)
              have hsz : ((w6.setCell ⟨w2.heap.size + 1, 0, none⟩ (.int .i64 bt)).setCell ⟨w2.heap.size + 1, 1, none⟩ (.slice p5 N2.length c5)).heap.size = w6.heap.size := by simp [World.setCell]
              rw [← hsz] at hRN hRB HSz6
              clear hsz z0 z1 z2 z3 HX6 HB6 HR6 hZ1 hzl6
              generalize (w6.setCell ⟨w2.heap.size + 1, 0, none⟩ (.int .i64 bt)).setCell ⟨w2.heap.size + 1, 1, none⟩ (.slice p5 N2.length c5) = w9 at *
              go_roundw
              case rel => exact ⟨j + 1, N2, a, p5, c5, hj1, by go_num, rfl, ⟨hRN, HPt.out.2⟩, ⟨hI, hWs, hZZ⟩, hRB, HSz6, hBZ⟩
              case measure => simp [intOf]; omega
          · cases xg with
            | false =>
              have HTw : Hid (tw = ⟨xn, false, xrow⟩) := HTp.out.trans (by rw [if_neg hlt]; rfl)
              have htw := HTw.out
              subst htw
              dsimp only at HPt
              have hlt' : a ≤ xn := by omega
              clear hlt
              have hba : Below wr.heap.size wr (wr.alloc (.cells #[.int .i64 xn, .bool false, .slice q1 xl d1] 40)) := (Below.refl _ _).alloc (Nat.le_refl _) _
              have HSv : Hid (SlV (wr.alloc (.cells #[.int .i64 xn, .bool false, .slice q1 xl d1] 40)) (wr.alloc (.cells #[.int .i64 xn, .bool false, .slice q1 xl d1] 40)).heap.size (.slice q1 xl d1) xrow) := (HSlj.out.1.keep hba).mono hba.size
              have CP : Hid (Calls Try.prog 12 #[.agg #[.int .i64 bt, .slice pn N.length cn], .agg #[.int .i64 xn, .bool false, .slice q1 xl d1]] (wr.alloc (.cells #[.int .i64 xn, .bool false, .slice q1 xl d1] 40)) fun e w' => (∃ v Z, e = .returned (.tuple #[.agg #[.int .i64 bt, v], .int .i64 0]) ∧ Z.map Prod.fst = putL bt N ⟨xn, false, xrow⟩ ∧ OwnRs .i64 40 w' (wr.alloc (.cells #[.int .i64 xn, .bool false, .slice q1 xl d1] 40)).heap.size v Z) ∧ Below (wr.alloc (.cells #[.int .i64 xn, .bool false, .slice q1 xl d1] 40)).heap.size (wr.alloc (.cells #[.int .i64 xn, .bool false, .slice q1 xl d1] 40)) w') := by
                have h9 := put_any N pn cn bt xn false xrow q1 d1 (wr.alloc (.cells #[.int .i64 xn, .bool false, .slice q1 xl d1] 40)) (HN.out.1.on hba) (by rw [HXl.out]; exact HSv.out) (by omega) HN.out.2.sh (by rw [HXl.out]; exact HSlj.out.2)
                rw [HPt.out.1.1, HPt.out.1.2, HXl.out] at h9
                exact h9
              have HXb : Hid (Box (wr.alloc (.cells #[.int .i64 xn, .bool false, .slice q1 xl d1] 40)) w.heap.size #[.int .i64 bt, .slice p wl c] 36 ∧ Box (wr.alloc (.cells #[.int .i64 xn, .bool false, .slice q1 xl d1] 40)) w2.heap.size #[.int .i64 bt, .slice pB bl cB] 36 ∧ Box (wr.alloc (.cells #[.int .i64 xn, .bool false, .slice q1 xl d1] 40)) (w2.heap.size + 1) #[.int .i64 bt, .slice pn N.length cn] 36) := ⟨HX.out.1.on hba, HX.out.2.1.on hba, HX.out.2.2.on hba⟩
              have HBb : Hid (Below w.heap.size w (wr.alloc (.cells #[.int .i64 xn, .bool false, .slice q1 xl d1] 40))) := hn.trans (hba.mono hn.size)
              have HRbb : Hid (RdR .i64 (wr.alloc (.cells #[.int .i64 xn, .bool false, .slice q1 xl d1] 40)) (wr.alloc (.cells #[.int .i64 xn, .bool false, .slice q1 xl d1] 40)).heap.size pB BL) := HRb.out.on hba
              have HSzb : Hid (w2.heap.size + 2 ≤ (wr.alloc (.cells #[.int .i64 xn, .bool false, .slice q1 xl d1] 40)).heap.size) := Nat.le_trans HSz.out hba.size
              have hzl := HX.out.2.2.lt
              clear hba
              generalize putL bt N ⟨xn, false, xrow⟩ = N2 at *
              go_wp2_with fail
              generalize (wr.alloc (.cells #[.int .i64 xn, .bool false, .slice q1 xl d1] 40)) = wb at *
              refine CP.out.mono ?_
              rintro e w5 ⟨⟨v5, Z5, rfl, hZ5, hO5⟩, hb5⟩
              obtain ⟨p5, c5, rfl, _, hr5⟩ := hO5.rd hZ5
              have hb6 : Below w5.heap.size w5 (w5.alloc (.cells #[.int .i64 bt, .slice p5 N2.length c5] 36)) := (Below.refl _ _).alloc (Nat.le_refl _) _
              have HX6 : Hid (Box (w5.alloc (.cells #[.int .i64 bt, .slice p5 N2.length c5] 36)) w.heap.size #[.int .i64 bt, .slice p wl c] 36 ∧ Box (w5.alloc (.cells #[.int .i64 bt, .slice p5 N2.length c5] 36)) w2.heap.size #[.int .i64 bt, .slice pB bl cB] 36 ∧ Box (w5.alloc (.cells #[.int .i64 bt, .slice p5 N2.length c5] 36)) (w2.heap.size + 1) #[.int .i64 bt, .slice pn N.length cn] 36) := ⟨(HXb.out.1.on hb5).on hb6, (HXb.out.2.1.on hb5).on hb6, (HXb.out.2.2.on hb5).on hb6⟩
              have HB6 : Hid (Below w.heap.size w (w5.alloc (.cells #[.int .i64 bt, .slice p5 N2.length c5] 36))) := (HBb.out.trans (hb5.mono HBb.out.size)).trans (hb6.mono (HBb.out.trans (hb5.mono HBb.out.size)).size)
              have HR6 : Hid (RdR .i64 (w5.alloc (.cells #[.int .i64 bt, .slice p5 N2.length c5] 36)) (w5.alloc (.cells #[.int .i64 bt, .slice p5 N2.length c5] 36)).heap.size p5 N2 ∧ RdR .i64 (w5.alloc (.cells #[.int .i64 bt, .slice p5 N2.length c5] 36)) (w5.alloc (.cells #[.int .i64 bt, .slice p5 N2.length c5] 36)).heap.size pB BL) := ⟨hr5.on hb6, (HRbb.out.on hb5).on hb6⟩
              have HSz6 : Hid (w2.heap.size + 2 ≤ (w5.alloc (.cells #[.int .i64 bt, .slice p5 N2.length c5] 36)).heap.size) := Nat.le_trans (Nat.le_trans HSzb.out hb5.size) hb6.size
              clear hb5 hb6 hO5 hZ5 hr5 x0 x1 y0 y1 y2 y3 z0 z1 z2 z3 HXb HBb HRbb HSzb CP
              obtain ⟨z0, z1, z2, z3⟩ := box2 HX6.out.2.2
              have hzl6 := HX6.out.2.2.lt
              go_wp2_with fail
              generalize w5.alloc (.cells #[.int .i64 bt, .slice p5 N2.length c5] 36) = w6 at *
              have hZZ := (HX6.out.2.2.set (i := 0) (.int .i64 bt)).set (i := 1) (.slice p5 N2.length c5)
              have hZ1 := HX6.out.2.2.set (i := 0) (.int .i64 bt)
              have hI := (HX6.out.1.off (i := 0) (j := w2.heap.size + 1) (.int .i64 bt) (by omega)).off (i := 1) (j := w2.heap.size + 1) (.slice p5 N2.length c5) (by omega)
              have hWs := (HX6.out.2.1.off (i := 0) (j := w2.heap.size + 1) (.int .i64 bt) (by omega)).off (i := 1) (j := w2.heap.size + 1) (.slice p5 N2.length c5) (by omega)
              have hRN := (HR6.out.1.offB (i := 0) HX6.out.2.2 (.int .i64 bt)).offB (i := 1) hZ1 (.slice p5 N2.length c5)
              have hRB := (HR6.out.2.offB (i := 0) HX6.out.2.2 (.int .i64 bt)).offB (i := 1) hZ1 (.slice p5 N2.length c5)
              have hBZ := (HB6.out.setCell (p := ⟨w2.heap.size + 1, 0, none⟩) (show w.heap.size ≤ w2.heap.size + 1 by omega) (.int .i64 bt)).setCell (p := ⟨w2.heap.size + 1, 1, none⟩) (show w.heap.size ≤ w2.heap.size + 1 by omega) (.slice p5 N2.length c5)
              have hsz : ((w6.setCell ⟨w2.heap.size + 1, 0, none⟩ (.int .i64 bt)).setCell ⟨w2.heap.size + 1, 1, none⟩ (.slice p5 N2.length c5)).heap.size = w6.heap.size := by simp [World.setCell]
              rw [← hsz] at hRN hRB HSz6
              clear hsz z0 z1 z2 z3 HX6 HB6 HR6 hZ1 hzl6
              generalize (w6.setCell ⟨w2.heap.size + 1, 0, none⟩ (.int .i64 bt)).setCell ⟨w2.heap.size + 1, 1, none⟩ (.slice p5 N2.length c5) = w9 at *
              go_roundw
              case rel => exact ⟨j + 1, N2, xn, p5, c5, hj1, by go_num, rfl, ⟨hRN, HPt.out.2⟩, ⟨hI, hWs, hZZ⟩, hRB, HSz6, hBZ⟩
              case measure => simp [intOf]; omega
            | true =>
              have HTw : Hid (tw = ⟨xn, true, []⟩) := HTp.out.trans (by rw [if_neg hlt]; rfl)
              have htw := HTw.out
              subst htw
              dsimp only at HPt
              have hlt' : a ≤ xn := by omega
              clear hlt
              have hba : Below wr.heap.size wr (wr.alloc (.cells #[.int .i64 xn, .bool true, .slice none 0 0] 40)) := (Below.refl _ _).alloc (Nat.le_refl _) _
              have HSv : Hid (SlV (wr.alloc (.cells #[.int .i64 xn, .bool true, .slice none 0 0] 40)) (wr.alloc (.cells #[.int .i64 xn, .bool true, .slice none 0 0] 40)).heap.size (.slice none 0 0) []) := (OwnV.nil _ 0).sl
              have CP : Hid (Calls Try.prog 12 #[.agg #[.int .i64 bt, .slice pn N.length cn], .agg #[.int .i64 xn, .bool true, .slice none 0 0]] (wr.alloc (.cells #[.int .i64 xn, .bool true, .slice none 0 0] 40)) fun e w' => (∃ v Z, e = .returned (.tuple #[.agg #[.int .i64 bt, v], .int .i64 0]) ∧ Z.map Prod.fst = putL bt N ⟨xn, true, []⟩ ∧ OwnRs .i64 40 w' (wr.alloc (.cells #[.int .i64 xn, .bool true, .slice none 0 0] 40)).heap.size v Z) ∧ Below (wr.alloc (.cells #[.int .i64 xn, .bool true, .slice none 0 0] 40)).heap.size (wr.alloc (.cells #[.int .i64 xn, .bool true, .slice none 0 0] 40)) w') := by
                have h9 := put_any N pn cn bt xn true [] none 0 (wr.alloc (.cells #[.int .i64 xn, .bool true, .slice none 0 0] 40)) (HN.out.1.on hba) (by exact HSv.out) (by omega) HN.out.2.sh (by simp)
                rw [HPt.out.1.1, HPt.out.1.2] at h9
                exact h9
              have HXb : Hid (Box (wr.alloc (.cells #[.int .i64 xn, .bool true, .slice none 0 0] 40)) w.heap.size #[.int .i64 bt, .slice p wl c] 36 ∧ Box (wr.alloc (.cells #[.int .i64 xn, .bool true, .slice none 0 0] 40)) w2.heap.size #[.int .i64 bt, .slice pB bl cB] 36 ∧ Box (wr.alloc (.cells #[.int .i64 xn, .bool true, .slice none 0 0] 40)) (w2.heap.size + 1) #[.int .i64 bt, .slice pn N.length cn] 36) := ⟨HX.out.1.on hba, HX.out.2.1.on hba, HX.out.2.2.on hba⟩
              have HBb : Hid (Below w.heap.size w (wr.alloc (.cells #[.int .i64 xn, .bool true, .slice none 0 0] 40))) := hn.trans (hba.mono hn.size)
              have HRbb : Hid (RdR .i64 (wr.alloc (.cells #[.int .i64 xn, .bool true, .slice none 0 0] 40)) (wr.alloc (.cells #[.int .i64 xn, .bool true, .slice none 0 0] 40)).heap.size pB BL) := HRb.out.on hba
              have HSzb : Hid (w2.heap.size + 2 ≤ (wr.alloc (.cells #[.int .i64 xn, .bool true, .slice none 0 0] 40)).heap.size) := Nat.le_trans HSz.out hba.size
              have hzl := HX.out.2.2.lt
              clear hba
              generalize putL bt N ⟨xn, true, []⟩ = N2 at *
              go_wp2_with fail
              generalize (wr.alloc (.cells #[.int .i64 xn, .bool true, .slice none 0 0] 40)) = wb at *
              refine CP.out.mono ?_
              rintro e w5 ⟨⟨v5, Z5, rfl, hZ5, hO5⟩, hb5⟩
              obtain ⟨p5, c5, rfl, _, hr5⟩ := hO5.rd hZ5
              have hb6 : Below w5.heap.size w5 (w5.alloc (.cells #[.int .i64 bt, .slice p5 N2.length c5] 36)) := (Below.refl _ _).alloc (Nat.le_refl _) _
              have HX6 : Hid (Box (w5.alloc (.cells #[.int .i64 bt, .slice p5 N2.length c5] 36)) w.heap.size #[.int .i64 bt, .slice p wl c] 36 ∧ Box (w5.alloc (.cells #[.int .i64 bt, .slice p5 N2.length c5] 36)) w2.heap.size #[.int .i64 bt, .slice pB bl cB] 36 ∧ Box (w5.alloc (.cells #[.int .i64 bt, .slice p5 N2.length c5] 36)) (w2.heap.size + 1) #[.int .i64 bt, .slice pn N.length cn] 36) := ⟨(HXb.out.1.on hb5).on hb6, (HXb.out.2.1.on hb5).on hb6, (HXb.out.2.2.on hb5).on hb6⟩
              have HB6 : Hid (Below w.heap.size w (w5.alloc (.cells #[.int .i64 bt, .slice p5 N2.length c5] 36))) := (HBb.out.trans (hb5.mono HBb.out.size)).trans (hb6.mono (HBb.out.trans (hb5.mono HBb.out.size)).size)
              have HR6 : Hid (RdR .i64 (w5.alloc (.cells #[.int .i64 bt, .slice p5 N2.length c5] 36)) (w5.alloc (.cells #[.int .i64 bt, .slice p5 N2.length c5] 36)).heap.size p5 N2 ∧ RdR .i64 (w5.alloc (.cells #[.int .i64 bt, .slice p5 N2.length c5] 36)) (w5.alloc (.cells #[.int .i64 bt, .slice p5 N2.length c5] 36)).heap.size pB BL) := ⟨hr5.on hb6, (HRbb.out.on hb5).on hb6⟩
              have HSz6 : Hid (w2.heap.size + 2 ≤ (w5.alloc (.cells #[.int .i64 bt, .slice p5 N2.length c5] 36)).heap.size) := Nat.le_trans (Nat.le_trans HSzb.out hb5.size) hb6.size
              clear hb5 hb6 hO5 hZ5 hr5 x0 x1 y0 y1 y2 y3 z0 z1 z2 z3 HXb HBb HRbb HSzb CP
              obtain ⟨z0, z1, z2, z3⟩ := box2 HX6.out.2.2
              have hzl6 := HX6.out.2.2.lt
              go_wp2_with fail
              generalize w5.alloc (.cells #[.int .i64 bt, .slice p5 N2.length c5] 36) = w6 at *
              have hZZ := (HX6.out.2.2.set (i := 0) (.int .i64 bt)).set (i := 1) (.slice p5 N2.length c5)
              have hZ1 := HX6.out.2.2.set (i := 0) (.int .i64 bt)
              have hI := (HX6.out.1.off (i := 0) (j := w2.heap.size + 1) (.int .i64 bt) (by omega)).off (i := 1) (j := w2.heap.size + 1) (.slice p5 N2.length c5) (by omega)
              have hWs := (HX6.out.2.1.off (i := 0) (j := w2.heap.size + 1) (.int .i64 bt) (by omega)).off (i := 1) (j := w2.heap.size + 1) (.slice p5 N2.length c5) (by omega)
              have hRN := (HR6.out.1.offB (i := 0) HX6.out.2.2 (.int .i64 bt)).offB (i := 1) hZ1 (.slice p5 N2.length c5)
              have hRB := (HR6.out.2.offB (i := 0) HX6.out.2.2 (.int .i64 bt)).offB (i := 1) hZ1 (.slice p5 N2.length c5)
              have hBZ := (HB6.out.setCell (p := ⟨w2.heap.size + 1, 0, none⟩) (show w.heap.size ≤ w2.heap.size + 1 by omega) (.int .i64 bt)).setCell (p := ⟨w2.heap.size + 1, 1, none⟩) (show w.heap.size ≤ w2.heap.size + 1 by omega) (.slice p5 N2.length c5)
              have hsz : ((w6.setCell ⟨w2.heap.size + 1, 0, none⟩ (.int .i64 bt)).setCell ⟨w2.heap.size + 1, 1, none⟩ (.slice p5 N2.length c5)).heap.size = w6.heap.size := by simp [World.setCell]
              rw [← hsz] at hRN hRB HSz6
              clear hsz z0 z1 z2 z3 HX6 HB6 HR6 hZ1 hzl6
              generalize (w6.setCell ⟨w2.heap.size + 1, 0, none⟩ (.int .i64 bt)).setCell ⟨w2.heap.size + 1, 1, none⟩ (.slice p5 N2.length c5) = w9 at *
              go_roundw
              case rel => exact ⟨j + 1, N2, xn, p5, c5, hj1, by go_num, rfl, ⟨hRN, HPt.out.2⟩, ⟨hI, hWs, hZZ⟩, hRB, HSz6, hBZ⟩
              case measure => simp [intOf]; omega
end Go.Proofs.Yteddpogjpohacab
