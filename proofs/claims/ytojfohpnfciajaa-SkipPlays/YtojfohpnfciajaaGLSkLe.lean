/- Layer 12: the law SkipLevels. Layer 12: the document's SameLevels. -/
import Derived.Test.YtojfohpnfciajaaGLSkH
import Derived.Test.YtojfohpnfciajaaGMTurn12
namespace Go.Proofs.Ytojfohpnfciajaa
open Go.RowKit
set_option maxRecDepth 100000

/-- lists of keys that are read -/
def RdKs (w : World) (p : Option Addr) (V : List (List ByteArray)) : Prop := ∀ n (hn : n < V.length), ∃ g pk ck, p = some ⟨g, 0, none⟩ ∧ g < w.heap.size ∧ w.cell? ⟨g, n, none⟩ = some (.slice pk V[n].length ck) ∧ ∀ j (hj : j < V[n].length), ∃ gk, pk = some ⟨gk, 0, none⟩ ∧ gk < w.heap.size ∧ w.cell? ⟨gk, j, none⟩ = some (.string V[n][j])
theorem RdKs.on {w w' : World} {p : Option Addr} {V : List (List ByteArray)} (h : RdKs w p V) (hb : Below w.heap.size w w') : RdKs w' p V := by
  intro n hn
  obtain ⟨g, pk, ck, e, hg, c0, hk⟩ := h n hn
  refine ⟨g, pk, ck, e, Nat.lt_of_lt_of_le hg hb.size, (hb.cell (p := ⟨g, n, none⟩) hg).trans c0, fun j hj => ?_⟩
  obtain ⟨gk, e2, hg2, c1⟩ := hk j hj
  exact ⟨gk, e2, Nat.lt_of_lt_of_le hg2 hb.size, (hb.cell (p := ⟨gk, j, none⟩) hg2).trans c1⟩
theorem own_rdk {w : World} {B : Nat} {v : Value} {V : List (List ByteArray)} (h : OwnKs w B v V) : ∃ p c, v = .slice p V.length c ∧ RdKs w p V := by
  obtain ⟨vs, h1, h2, h3⟩ := h
  obtain ⟨p, c, rfl, -⟩ := owns_len h2
  rw [h1]
  refine ⟨p, c, rfl, fun n hn => ?_⟩
  have hnv : n < vs.length := by omega
  obtain ⟨g, cap, e, -, hg⟩ := owns_form h2 (by omega)
  cases e
  have h4 := h3 n hnv hn
  obtain ⟨pk, ck, e4, -⟩ := owns_len h4
  have c0 := World.ownsRow.cellAt h2 n (by omega)
  rw [List.getElem?_eq_getElem hnv, e4] at c0
  refine ⟨g, pk, ck, rfl, hg, c0, fun j hj => ?_⟩
  rw [e4] at h4
  obtain ⟨gk, cap', e5, -, hg5⟩ := owns_form h4 (by omega)
  cases e5
  have c1 := World.ownsRow.cellAt h4 j (by omega)
  rw [List.getElem?_map, List.getElem?_eq_getElem hj] at c1
  exact ⟨gk, rfl, hg5, c1⟩
theorem RdKs.lev {w : World} {p : Option Addr} {E : List En} {T : Nat} (h : RdKs w p (lvsE E T)) {n : Nat} (hn : n < T) : ∃ g pk ck, p = some ⟨g, 0, none⟩ ∧ g < w.heap.size ∧ w.cell? ⟨g, n, none⟩ = some (.slice pk (keyE n E).length ck) ∧ ∀ j (hj : j < (keyE n E).length), ∃ gk, pk = some ⟨gk, 0, none⟩ ∧ gk < w.heap.size ∧ w.cell? ⟨gk, j, none⟩ = some (.string (keyE n E)[j]) := by
  have hl : n < (lvsE E T).length := by rw [lvsE_len]; exact hn
  have h2 := h n hl
  simp only [lvsE_at] at h2
  exact h2
theorem scan_len {E : List En} (hr : RiseE E) (lo hi : ByteArray) (op back : Bool) (most : Int) : (scanM E lo hi op back most).length ≤ E.length := by
  rw [scan_spec hr]
  refine Nat.le_trans (List.length_take_le' _ _) ?_
  cases back with
  | true => rw [if_pos rfl, List.length_reverse]; exact sel_len _ _ _ _
  | false => rw [if_neg (by decide)]; exact sel_len _ _ _ _
/-- two lists and a look -/
structure LeS (w wq w1 w2 : World) (lb fb : Nat) (E F : List En) (a : LkR) : Prop where
  l : SkL w1 wq lb E
  f : SkL w2 wq fb F
  x : Blk wq w.heap.size #[.string a.k, .string a.lo, .string a.hi, .bool a.op, .bool a.back, .int .i64 a.most] 38
  b : Below w.heap.size w wq
theorem LeS.on {w wq w1 w2 w' : World} {lb fb : Nat} {E F : List En} {a : LkR} (h : LeS w wq w1 w2 lb fb E F a) (hb : Below wq.heap.size wq w') : LeS w w' w1 w2 lb fb E F a := ⟨h.l.on hb, h.f.on hb, h.x.on hb, h.b.trans (hb.mono h.b.size)⟩

set_option maxHeartbeats 8000000 in
theorem lawLevels (L : List OpR) (q : Option Addr) (c : Nat) (a : LkR) (w : World) (hR : RdO w w.heap.size q L) (hlen : L.length ≤ 3518437208883) :
    Calls Try.prog 4 #[.slice q L.length c, .agg (lkC a)] w fun e w' => e = .returned (.bool true) ∧ Below w.heap.size w w' := by
  obtain ⟨aX, aB, aS⟩ := blk_new w #[.string a.k, .string a.lo, .string a.hi, .bool a.op, .bool a.back, .int .i64 a.most] 38
  have C1 : Hid (Calls _ _ _ _ _) := made_any true L q c w.heap.size (w.alloc (.cells #[.string a.k, .string a.lo, .string a.hi, .bool a.op, .bool a.back, .int .i64 a.most] 38)) (hR.keep aB) aB.size (by omega)
  have C2 : Hid (∀ w2, Below (w.alloc (.cells #[.string a.k, .string a.lo, .string a.hi, .bool a.op, .bool a.back, .int .i64 a.most] 38)).heap.size (w.alloc (.cells #[.string a.k, .string a.lo, .string a.hi, .bool a.op, .bool a.back, .int .i64 a.most] 38)) w2 → Calls _ _ _ _ _) := fun w2 hb => made_any false L q c w.heap.size w2 (hR.keep (aB.trans (hb.mono aB.size))) (Nat.le_trans aB.size hb.size) (by omega)
  have HX : Hid (Blk (w.alloc (.cells #[.string a.k, .string a.lo, .string a.hi, .bool a.op, .bool a.back, .int .i64 a.most] 38)) w.heap.size #[.string a.k, .string a.lo, .string a.hi, .bool a.op, .bool a.back, .int .i64 a.most] 38 ∧ Below w.heap.size w (w.alloc (.cells #[.string a.k, .string a.lo, .string a.hi, .bool a.op, .bool a.back, .int .i64 a.most] 38))) := ⟨aX, aB⟩
  have HN : Hid ((madeM true L).length < 4000000000000 ∧ (madeM false L).length < 4000000000000) := by
    have h1 := madeM_len true L L.length (Nat.le_refl _)
    have h2 := madeM_len false L L.length (Nat.le_refl _)
    rw [List.take_length] at h1 h2
    exact ⟨by omega, by omega⟩
  have HM : Hid (SamE (madeM true L) (madeM false L)) := made_same L
  clear aX aB aS hR hlen
  go_enter Try.func4, Try.ntmps4
  go_wp2_with fail
  generalize hw1 : (w.alloc (.cells #[.string a.k, .string a.lo, .string a.hi, .bool a.op, .bool a.back, .int .i64 a.most] 38)) = w1s at *
  refine C1.out.mono ?_
  rintro e w2 ⟨lb, rfl, q2⟩
  have C3 : Hid (Calls _ _ _ _ _) := C2.out w2 q2.bel
  have HQ2 : Hid (SkL w1s w2 lb (madeM true L)) := q2
  clear C1 q2 hw1 C2
  go_wp2_with fail
  refine C3.out.mono ?_
  rintro e w3 ⟨fb, rfl, q3⟩
  have q2 := HQ2.out.on q3.bel
  have HE : Hid (RiseE (madeM true L) ∧ RiseE (madeM false L) ∧ ∀ e ∈ madeM true L, 1 ≤ e.h ∧ e.h ≤ 16) := ⟨q2.rise, q3.rise, q2.hts⟩
  have HT : Hid (LeS w w3 w1s w2 lb fb (madeM true L) (madeM false L) a) := ⟨q2, q3, HX.out.1.on q2.bel, HX.out.2.trans (q2.bel.mono HX.out.2.size)⟩
  clear C3 q2 q3 HX HQ2
  generalize madeM true L = E at *
  generalize madeM false L = F at *
  have C4 : Hid (Calls _ _ _ _ _) := levels_L lb E _ w3 HT.out.l HN.out.1
  go_wp2_with fail
  refine C4.out.mono ?_
  rintro e w4 ⟨v4, rfl, ho4, hb4⟩
  obtain ⟨pv, cv, hv4, hRV⟩ := own_rdk ho4
  have HRV : Hid (RdKs w4 pv (lvsE E (topE E 16))) := hRV
  have HT4 : Hid (LeS w w4 w1s w2 lb fb E F a) := HT.out.on hb4
  rw [lvsE_len] at hv4
  subst hv4
  clear HT C4 ho4 hb4 hRV
  have C5 : Hid (Calls _ _ _ _ _) := len_L lb E _ w4 HT4.out.l
  go_wp2_with fail
  refine C5.out.mono ?_
  rintro e w9 ⟨rfl, hw9⟩
  rw [hw9]
  clear hw9 C5
  have C6 : Hid (Calls _ _ _ _ _) := scan_L lb E ⟨#[]⟩ ⟨#[]⟩ true false (E.length : Nat) _ w4 HT4.out.l HN.out.1
  rw [scan_all HE.out.1, sel_whole] at C6
  go_wp2_with fail
  refine C6.out.mono ?_
  rintro e w5 ⟨v5, rfl, ho5, hb5⟩
  obtain ⟨pa, ca, rfl, hRA⟩ := own_rd ho5
  have HRA : Hid (RdE w5 pa E) := hRA
  have HRV5 : Hid (RdKs w5 pv (lvsE E (topE E 16))) := HRV.out.on hb5
  have HT5 : Hid (LeS w w5 w1s w2 lb fb E F a) := HT4.out.on hb5
  clear C6 ho5 hb5 hRA HRV HT4
  have C7 : Hid (Calls _ _ _ _ _) := len_L lb E _ w5 HT5.out.l
  have C8 : Hid (Calls _ _ _ _ _) := len_L fb F _ w5 HT5.out.f
  rw [← HM.out.len] at C8
  have HTop : Hid (0 < E.length ↔ 0 < topE E 16) := top_iff HE.out.2.2
  have HT16 : Hid (topE E 16 ≤ 16) := topE_le E 16
  have HKey : Hid (∀ n, n < topE E 16 → keyE n E ≠ []) := topE_key E 16
  obtain ⟨T, hT⟩ : ∃ T, topE E 16 = T := ⟨_, rfl⟩
  rw [hT] at HTop HT16 HKey HRV5 ⊢
  clear hT
  have g0 : decide (0 < E.length) = decide (0 < T) := by
    have h9 := HTop.out
    by_cases h8 : 0 < T
    · rw [decide_eq_true h8, decide_eq_true (h9.2 h8)]
    · rw [decide_eq_false h8, decide_eq_false (fun h7 => h8 (h9.1 h7))]
  go_wp2_with fail
  refine C7.out.mono ?_
  rintro e w9 ⟨rfl, hw9⟩
  rw [hw9]
  clear hw9
  go_wp2_with fail
  refine C8.out.mono ?_
  rintro e w9 ⟨rfl, hw9⟩
  rw [hw9]
  clear hw9 C8
  go_wp2_with fail
  refine C7.out.mono ?_
  rintro e w9 ⟨rfl, hw9⟩
  rw [hw9]
  clear hw9 C7
  go_wp2_with fail
  have HEl : Hid (E.length < 4000000000000) := HN.out.1
  go_loopw [9] (fun sn wq => ∃ n : Nat, n ≤ T ∧ sn = .int .i64 (n : Int) ∧ Hid (LeS w wq w1s w2 lb fb E F a ∧ RdE wq pa E ∧ RdKs wq pv (lvsE E T))) (fun sn _ => ((T : Int) - intOf sn).toNat)
  case atStart => exact ⟨0, by omega, rfl, HT5.out, HRA.out, HRV5.out⟩
  case round =>
    clear HT5 HRA HRV5 g0
    obtain ⟨n, hn, rfl, HI⟩ := hrel
    rcases Nat.lt_or_eq_of_le hn with hlt | heq
    · have g1 : decide ((n : Int) < (T : Int)) = true := by simp; omega
      go_wp2_with fail
      go_loopw [10, 11] (fun sa si wq => ∃ i : Nat, i ≤ E.length ∧ si = .int .i64 (i : Int) ∧ sa = .int .i64 (cntE n E i : Nat) ∧ Hid (LeS w wq w1s w2 lb fb E F a ∧ RdE wq pa E ∧ RdKs wq pv (lvsE E T))) (fun _ si _ => ((E.length : Int) - intOf si).toNat)
      case atStart => exact ⟨0, by omega, rfl, by simp [cntE], HI⟩
      case round =>
        clear HI
        obtain ⟨i, hi, rfl, rfl, HI⟩ := hrel
        rcases Nat.lt_or_eq_of_le hi with hlt2 | heq2
        · have g2 : decide ((i : Int) < (E.length : Int)) = true := by simp; omega
          obtain ⟨ga, rfl, -, a0, a1, a2⟩ := HI.out.2.1 i hlt2
          by_cases hh : n < E[i].h
          · obtain ⟨e1, hc, ek⟩ := cntE_on hlt2 hh
            obtain ⟨gv, pk, ck, rfl, -, v0, hk⟩ := HI.out.2.2.lev hlt
            obtain ⟨gk, rfl, -, k0⟩ := hk _ hc
            rw [ek] at k0
            have hcl := cntE_le n E i
            have hct : cntE n E (i + 1) = cntE n E i + 1 := e1
            have HI2 : Hid (∀ m, LeS w (wr.drewN m) w1s w2 lb fb E F a ∧ RdE (wr.drewN m) (some ⟨ga, 0, none⟩) E ∧ RdKs (wr.drewN m) (some ⟨gv, 0, none⟩) (lvsE E T)) := by
              intro m
              have hdr : Below wr.heap.size wr (wr.drewN m) := below_drewN (Below.refl _ _) m
              exact ⟨HI.out.1.on hdr, HI.out.2.1.on hdr, HI.out.2.2.on hdr⟩
            have HCT : Hid (cntE n E (i + 1) = cntE n E i + 1) := hct
            have hl9 : E.length < 4000000000000 := HEl.out
            have hT9 := HT16.out
            clear hct e1 hk ek a1
            generalize (keyE n E).length = kl at *
            obtain ⟨ct, hct⟩ : ∃ ct, cntE n E i = ct := ⟨_, rfl⟩
            rw [hct] at HCT hc hcl k0 ⊢
            clear hct
            go_wp2_with fail
            go_quiet (fail)
            go_wp2_with fail
            go_roundw
            case rel => exact ⟨i + 1, by omega, by go_num, by rw [HCT.out]; go_num, HI2.out _⟩
            case measure => simp [intOf]; omega
          · have hct := cntE_off hlt2 hh
            have HCT : Hid (cntE n E (i + 1) = cntE n E i) := hct
            have hl9 : E.length < 4000000000000 := HEl.out
            have hT9 := HT16.out
            clear hct
            go_wp2_with fail
            go_roundw
            case rel => exact ⟨i + 1, by omega, by go_num, by rw [HCT.out], HI⟩
            case measure => simp [intOf]; omega
        · have hcn : cntE n E i = (keyE n E).length := by rw [heq2]; exact cntE_all n E
          have hcp : 0 < (keyE n E).length := List.length_pos_iff.2 (HKey.out n hlt)
          obtain ⟨gv, pk, ck, rfl, -, v0, hk⟩ := HI.out.2.2.lev hlt
          have hT9 := HT16.out
          clear hk
          rw [hcn]
          clear hcn
          generalize (keyE n E).length = kl at *
          go_wp2_with fail
          go_roundw
          case rel => exact ⟨n + 1, by omega, by go_num, HI⟩
          case measure => simp [intOf]; omega
    · have g1 : decide ((n : Int) < (T : Int)) = false := by simp; omega
      have HT : Hid (LeS w wr w1s w2 lb fb E F a) := HI.out.1
      clear HI
      have k1 := Blk.cell (i := 1) HT.out.x rfl
      have k2 := Blk.cell (i := 2) HT.out.x rfl
      have k3 := Blk.cell (i := 3) HT.out.x rfl
      have k4 := Blk.cell (i := 4) HT.out.x rfl
      have k5 := Blk.cell (i := 5) HT.out.x rfl
      have C1 : Hid (Calls _ _ _ _ _) := scan_L lb E a.lo a.hi a.op a.back a.most w1s wr HT.out.l HN.out.1
      go_wp2_with fail
      refine C1.out.mono ?_
      rintro e w6 ⟨v6, rfl, ho6, hb6⟩
      obtain ⟨p1, c1, rfl, hR1⟩ := own_rd ho6
      have HT6 : Hid (LeS w w6 w1s w2 lb fb E F a) := HT.out.on hb6
      have HR1 : Hid (RdE w6 p1 (scanM E a.lo a.hi a.op a.back a.most)) := hR1
      clear k1 k2 k3 k4 k5 C1 ho6 hb6 hR1 HT g1 heq hn
      have HT := HT6
      clear HT6
      have k1 := Blk.cell (i := 1) HT.out.x rfl
      have k2 := Blk.cell (i := 2) HT.out.x rfl
      have k3 := Blk.cell (i := 3) HT.out.x rfl
      have k4 := Blk.cell (i := 4) HT.out.x rfl
      have k5 := Blk.cell (i := 5) HT.out.x rfl
      have C2 : Hid (Calls _ _ _ _ _) := scan_L fb F a.lo a.hi a.op a.back a.most w2 w6 HT.out.f HN.out.2
      go_wp2_with fail
      refine C2.out.mono ?_
      rintro e w7 ⟨v7, rfl, ho7, hb7⟩
      obtain ⟨p2, c2, hv7, hR2⟩ := own_rd ho7
      have HT7 : Hid (LeS w w7 w1s w2 lb fb E F a) := HT.out.on hb7
      have HR17 : Hid (RdE w7 p1 (scanM E a.lo a.hi a.op a.back a.most)) := HR1.out.on hb7
      have HR2 : Hid (RdE w7 p2 (scanM F a.lo a.hi a.op a.back a.most)) := hR2
      have HSm : Hid (SamE (scanM E a.lo a.hi a.op a.back a.most) (scanM F a.lo a.hi a.op a.back a.most)) := HM.out.scan HE.out.1 HE.out.2.1 _ _ _ _ _
      have HAl0 := Nat.lt_of_le_of_lt (scan_len HE.out.1 a.lo a.hi a.op a.back a.most) HN.out.1
      have HAl : Hid ((scanM E a.lo a.hi a.op a.back a.most).length < 4000000000000) := HAl0
      rw [← HSm.out.len] at hv7
      subst hv7
      clear k1 k2 k3 k4 k5 C2 ho7 hb7 hR2 HT HR1 HAl0
      generalize scanM E a.lo a.hi a.op a.back a.most = A at *
      generalize scanM F a.lo a.hi a.op a.back a.most = B at *
      go_wp2_with fail
      go_loopw [14] (fun si wq => ∃ i : Nat, i ≤ A.length ∧ si = .int .i64 (i : Int) ∧ Hid (LeS w wq w1s w2 lb fb E F a ∧ RdE wq p1 A ∧ RdE wq p2 B)) (fun si _ => ((A.length : Int) - intOf si).toNat)
      case atStart => exact ⟨0, by omega, rfl, HT7.out, HR17.out, HR2.out⟩
      case round =>
        clear HT7 HR17 HR2
        obtain ⟨i, hi, rfl, HI⟩ := hrel
        rcases Nat.lt_or_eq_of_le hi with hlt2 | heq2
        · have g2 : decide ((i : Int) < (A.length : Int)) = true := by simp; omega
          have hlb : i < B.length := by rw [← HSm.out.len]; exact hlt2
          obtain ⟨ga, rfl, -, a0, a1, a2⟩ := HI.out.2.1 i hlt2
          obtain ⟨gb, rfl, -, b0, b1, b2⟩ := HI.out.2.2 i hlb
          rw [← (HSm.out.get hlt2 hlb).1] at b0
          rw [← (HSm.out.get hlt2 hlb).2] at b1
          have HI2 : Hid (∀ m, LeS w (wr.drewN m) w1s w2 lb fb E F a ∧ RdE (wr.drewN m) (some ⟨ga, 0, none⟩) A ∧ RdE (wr.drewN m) (some ⟨gb, 0, none⟩) B) := by
            intro m
            have hdr : Below wr.heap.size wr (wr.drewN m) := below_drewN (Below.refl _ _) m
            exact ⟨HI.out.1.on hdr, HI.out.2.1.on hdr, HI.out.2.2.on hdr⟩
          have hl9 : A.length < 4000000000000 := HAl.out
          go_wp2_with fail
          go_quiet (fail)
          go_wp2_with fail
          go_roundw
          case rel => exact ⟨i + 1, by omega, by go_num, HI2.out _⟩
          case measure => simp [intOf]; omega
        · have g2 : decide ((i : Int) < (A.length : Int)) = false := by simp; omega
          have C3 : Hid (Calls _ _ _ _ _) := awake_any wr
          go_wp2_with fail
          refine C3.out.mono ?_
          rintro e w9 ⟨rfl, hb9⟩
          have HB9 : Hid (Below w.heap.size w w9) := HI.out.1.b.trans (hb9.mono HI.out.1.b.size)
          clear hb9 C3
          go_wp2_with fail
          go_ret
          exact ⟨rfl, HB9.out⟩

end Go.Proofs.Ytojfohpnfciajaa

namespace Go.Proofs.Ytojfohpnfciajaa
open Go.RowKit
set_option maxRecDepth 100000

set_option maxHeartbeats 4000000 in
theorem rsamelv_any (V : List (List ByteArray)) (p p' : Option Addr) (c c' : Nat) (w : World) (hR : RdKs w p V) (hR' : RdKs w p' V) (hl : V.length < 4000000000000) (hl2 : ∀ n (hn : n < V.length), V[n].length < 4000000000000) :
    Calls Try.prog 11 #[.slice p V.length c, .slice p' V.length c'] w fun e w' => e = .returned (.bool true) ∧ Below w.heap.size w w' := by
  have HI0 : Hid (RdKs w p V ∧ RdKs w p' V ∧ Below w.heap.size w w) := ⟨hR, hR', Below.refl _ _⟩
  have HL2 : Hid (∀ n (hn : n < V.length), V[n].length < 4000000000000) := hl2
  clear hR hR' hl2
  go_enter Try.func11, Try.ntmps11
  go_wp2_with fail
  go_loopw [5] (fun si wq => ∃ i : Nat, i ≤ V.length ∧ si = .int .i64 (i : Int) ∧ Hid (RdKs wq p V ∧ RdKs wq p' V ∧ Below w.heap.size w wq)) (fun si _ => ((V.length : Int) - intOf si).toNat)
  case atStart => exact ⟨0, by omega, rfl, HI0⟩
  case round =>
    clear HI0
    obtain ⟨i, hi, rfl, HI⟩ := hrel
    rcases Nat.lt_or_eq_of_le hi with hlt | heq
    · have g1 : decide ((i : Int) < (V.length : Int)) = true := by simp; omega
      obtain ⟨ga, pk, ck, rfl, -, a0, -⟩ := HI.out.1 i hlt
      obtain ⟨gb, pk', ck', rfl, -, b0, -⟩ := HI.out.2.1 i hlt
      have HI2 : Hid (∀ n, RdKs (wr.drewN n) (some ⟨ga, 0, none⟩) V ∧ RdKs (wr.drewN n) (some ⟨gb, 0, none⟩) V ∧ Below w.heap.size w (wr.drewN n)) := by
        intro n
        have hdr : Below wr.heap.size wr (wr.drewN n) := below_drewN (Below.refl _ _) n
        exact ⟨HI.out.1.on hdr, HI.out.2.1.on hdr, below_drewN HI.out.2.2 n⟩
      have HVL : Hid (V[i].length < 4000000000000) := HL2.out i hlt
      obtain ⟨kl, hkl⟩ : ∃ kl, V[i].length = kl := ⟨_, rfl⟩
      have HK : Hid (V[i].length = kl) := hkl
      rw [hkl] at a0 b0 HVL
      clear hkl
      go_wp2_with fail
      go_quiet (fail)
      go_wp2_with fail
      go_loopw [6] (fun sj wq => ∃ j : Nat, j ≤ kl ∧ sj = .int .i64 (j : Int) ∧ Hid (RdKs wq (some ⟨ga, 0, none⟩) V ∧ RdKs wq (some ⟨gb, 0, none⟩) V ∧ Below w.heap.size w wq)) (fun sj _ => ((kl : Int) - intOf sj).toNat)
      case atStart => exact ⟨0, by omega, rfl, HI2.out _⟩
      case round =>
        clear HI HI2 a0 b0
        obtain ⟨j, hj, rfl, HI⟩ := hrel
        obtain ⟨ga', pk, ck, e1, -, a0, hka⟩ := HI.out.1 i hlt
        cases e1
        obtain ⟨gb', pk', ck', e1, -, b0, hkb⟩ := HI.out.2.1 i hlt
        cases e1
        rw [HK.out] at a0 b0
        have hl9 := HVL.out
        rcases Nat.lt_or_eq_of_le hj with hlt2 | heq2
        · have g2 : decide ((j : Int) < (kl : Int)) = true := by simp; omega
          have hjV : j < V[i].length := by rw [HK.out]; exact hlt2
          obtain ⟨gk, rfl, -, k0⟩ := hka j hjV
          obtain ⟨gk', rfl, -, k0'⟩ := hkb j hjV
          generalize V[i][j] = kk at *
          clear hka hkb hjV
          have HI2 : Hid (∀ n, RdKs (wr.drewN n) (some ⟨ga, 0, none⟩) V ∧ RdKs (wr.drewN n) (some ⟨gb, 0, none⟩) V ∧ Below w.heap.size w (wr.drewN n)) := by
            intro n
            have hdr : Below wr.heap.size wr (wr.drewN n) := below_drewN (Below.refl _ _) n
            exact ⟨HI.out.1.on hdr, HI.out.2.1.on hdr, below_drewN HI.out.2.2 n⟩
          go_wp2_with fail
          go_quiet (fail)
          go_wp2_with fail
          go_roundw
          case rel => exact ⟨j + 1, by omega, by go_num, HI2.out _⟩
          case measure => simp [intOf]; omega
        · have g2 : decide ((j : Int) < (kl : Int)) = false := by simp; omega
          clear hka hkb
          go_wp2_with fail
          go_roundw
          case rel => exact ⟨i + 1, by omega, by go_num, HI⟩
          case measure => simp [intOf]; omega
    · have g1 : decide ((i : Int) < (V.length : Int)) = false := by simp; omega
      go_wp2_with fail
      go_ret
      exact ⟨rfl, HI.out.2.2⟩

end Go.Proofs.Ytojfohpnfciajaa
