/- Plain mathematics: a list behind some calls. Layer 12: a list behind some calls. -/
import Derived.Test.YtojfohpnfciajaaGMLaw12
namespace Go.Proofs.Ytojfohpnfciajaa
set_option maxRecDepth 100000

theorem put_len (E : List En) (k : ByteArray) (v : Int) (h : Nat) : (putE E k v h).length ≤ E.length + 1 := by
  unfold putE
  split
  · rw [List.length_set]
    omega
  · unfold insE
    rw [List.length_append, List.length_cons, List.length_take, List.length_drop]
    omega
theorem del_len (E : List En) (k : ByteArray) : (delE E k).length ≤ E.length := by
  unfold delE
  split
  · rw [List.length_eraseIdx]
    split <;> omega
  · exact Nat.le_refl _
/-- the height that is asked -/
def hgtM (hts : Bool) (h : Int) : Nat := if hts = true ∧ 1 ≤ h ∧ h ≤ 16 then h.toNat else 1
theorem hgtM_in (hts : Bool) (h : Int) : 1 ≤ hgtM hts h ∧ hgtM hts h ≤ 16 := by
  unfold hgtM
  split <;> omega
/-- what a call does -/
def stepM (hts : Bool) (E : List En) (a : OpR) : List En := if a.kd = 1 ∨ a.kd = 2 then (if 1025 < a.k.size then E else putE E a.k a.v (hgtM hts a.h)) else if a.kd = 3 then delE E a.k else E
def madeM (hts : Bool) (L : List OpR) : List En := L.foldl (stepM hts) []
theorem stepM_len (hts : Bool) (E : List En) (a : OpR) : (stepM hts E a).length ≤ E.length + 1 := by
  unfold stepM
  split
  · split
    · omega
    · exact put_len _ _ _ _
  · split
    · exact Nat.le_trans (del_len _ _) (Nat.le_succ _)
    · omega
theorem madeM_take (hts : Bool) (L : List OpR) {i : Nat} (hi : i < L.length) : madeM hts (L.take (i + 1)) = stepM hts (madeM hts (L.take i)) L[i] := by
  unfold madeM
  rw [List.take_succ_eq_append_getElem hi, List.foldl_append]
  rfl
theorem madeM_len (hts : Bool) (L : List OpR) : ∀ i, i ≤ L.length → (madeM hts (L.take i)).length ≤ i
  | 0, _ => by simp [madeM]
  | i + 1, h => by
    rw [madeM_take hts L (by omega)]
    exact Nat.le_trans (stepM_len _ _ _) (Nat.succ_le_succ (madeM_len hts L i (by omega)))
/-- but for heights -/
def KV (a b : En) : Prop := a.k = b.k ∧ a.v = b.v
/-- lists of the same keys and values -/
def SamE (A B : List En) : Prop := A.map (fun e => (e.k, e.v)) = B.map (fun e => (e.k, e.v))
theorem SamE.len {A B : List En} (h : SamE A B) : A.length = B.length := by
  have := congrArg List.length h
  simpa using this
theorem SamE.get {A B : List En} (h : SamE A B) {i : Nat} (h1 : i < A.length) (h2 : i < B.length) : A[i].k = B[i].k ∧ A[i].v = B[i].v := by
  have h3 := congrArg (fun l => l[i]?) h
  simp only [List.getElem?_map, List.getElem?_eq_getElem h1, List.getElem?_eq_getElem h2, Option.map_some, Option.some.injEq, Prod.mk.injEq] at h3
  exact h3
theorem SamE.of {A B : List En} (hl : A.length = B.length) (h : ∀ i (h1 : i < A.length) (h2 : i < B.length), A[i].k = B[i].k ∧ A[i].v = B[i].v) : SamE A B := by
  unfold SamE
  apply List.ext_getElem (by simp [hl])
  intro i h1 h2
  simp only [List.getElem_map, Prod.mk.injEq]
  exact h i (by simpa using h1) (by simpa using h2)
theorem SamE.fndS {A B : List En} (h : SamE A B) (k : ByteArray) : fnd A k = fnd B k := by
  have e : ∀ E : List En, fnd E k = (E.map (fun e => (e.k, e.v))).findIdx (fun x => !ltB x.1 k) := by
    intro E
    unfold fnd
    rw [List.findIdx_map]
    rfl
  rw [e, e, h]
theorem SamE.getS {A B : List En} (h : SamE A B) (k : ByteArray) : (getE A k).isSome = (getE B k).isSome := by
  unfold getE
  rw [← h.fndS k]
  by_cases hl : fnd A k < A.length
  · have hl2 : fnd A k < B.length := by rw [← h.len]; exact hl
    rw [List.getElem?_eq_getElem hl, List.getElem?_eq_getElem hl2]
    dsimp only
    rw [(h.get hl hl2).1]
    split <;> rfl
  · rw [List.getElem?_eq_none (by omega), List.getElem?_eq_none (by rw [← h.len]; omega)]
theorem SamE.put {A B : List En} (h : SamE A B) (k : ByteArray) (v : Int) (x y : Nat) : SamE (putE A k v x) (putE B k v y) := by
  have hg := h.getS k
  have hf := h.fndS k
  unfold putE
  cases h1 : getE A k with
  | some a =>
    cases h2 : getE B k with
    | none => rw [h1, h2] at hg; cases hg
    | some b =>
      dsimp only
      unfold SamE at h ⊢
      rw [List.map_set, List.map_set, h, hf]
  | none =>
    cases h2 : getE B k with
    | some b => rw [h1, h2] at hg; cases hg
    | none =>
      dsimp only
      unfold insE SamE at *
      rw [List.map_append, List.map_append, List.map_cons, List.map_cons, List.map_take, List.map_take, List.map_drop, List.map_drop, h, hf]
theorem SamE.del {A B : List En} (h : SamE A B) (k : ByteArray) : SamE (delE A k) (delE B k) := by
  have hg := h.getS k
  have hf := h.fndS k
  unfold delE
  cases h1 : getE A k with
  | some a =>
    cases h2 : getE B k with
    | none => rw [h1, h2] at hg; cases hg
    | some b =>
      dsimp only
      unfold SamE at h ⊢
      rw [List.eraseIdx_eq_take_drop_succ, List.eraseIdx_eq_take_drop_succ, List.map_append, List.map_append, List.map_take, List.map_take, List.map_drop, List.map_drop, h, hf]
  | none =>
    cases h2 : getE B k with
    | some b => rw [h1, h2] at hg; cases hg
    | none => exact h
theorem SamE.step {A B : List En} (h : SamE A B) (a : OpR) : SamE (stepM true A a) (stepM false B a) := by
  unfold stepM
  split
  · split
    · exact h
    · exact h.put _ _ _ _
  · split
    · exact h.del _
    · exact h
theorem made_same (L : List OpR) : SamE (madeM true L) (madeM false L) := by
  unfold madeM
  have : ∀ (L : List OpR) (A B : List En), SamE A B → SamE (L.foldl (stepM true) A) (L.foldl (stepM false) B) := by
    intro L
    induction L with
    | nil => exact fun A B h => h
    | cons a L ih => exact fun A B h => ih _ _ (h.step a)
  exact this L [] [] rfl
theorem SamE.sel {A B : List En} (h : SamE A B) (lo hi : ByteArray) (op : Bool) : SamE (selE A lo hi op) (selE B lo hi op) := by
  have e : ∀ E : List En, (selE E lo hi op).map (fun e => (e.k, e.v)) = (E.map (fun e => (e.k, e.v))).filter (fun x => !ltB x.1 lo && !endB hi op x.1) := by
    intro E
    unfold selE
    rw [List.filter_map]
    rfl
  unfold SamE
  rw [e, e, h]
theorem SamE.scan {A B : List En} (h : SamE A B) (hA : RiseE A) (hB : RiseE B) (lo hi : ByteArray) (op back : Bool) (most : Int) : SamE (scanM A lo hi op back most) (scanM B lo hi op back most) := by
  rw [scan_spec hA, scan_spec hB]
  have h1 := h.sel lo hi op
  unfold SamE at h1 ⊢
  cases back with
  | true => rw [if_pos rfl, if_pos rfl, List.map_take, List.map_take, List.map_reverse, List.map_reverse, h1]
  | false => rw [if_neg (by decide), if_neg (by decide), List.map_take, List.map_take, h1]

end Go.Proofs.Ytojfohpnfciajaa

namespace Go.Proofs.Ytojfohpnfciajaa
open Go.RowKit
set_option maxRecDepth 100000

/-- Put, as the law's made wants it -/
theorem put_made (lb : Nat) (hts : Bool) (E : List En) (a : OpR) (hk : a.kd = 1 ∨ a.kd = 2) (w0 w : World) (q : SkL w0 w lb E) (hN : E.length < 9000000000000000000) :
    Calls Try.prog 18 #[ptr1 lb, .string a.k, .int .i64 a.v, .int .i64 (hgtM hts a.h : Nat)] w fun e w' => ∃ x, e = .returned (.tuple x) ∧ x.size = 3 ∧ SkL w0 w' lb (stepM hts E a) := by
  unfold stepM
  rw [if_pos hk]
  by_cases hl : 1025 < a.k.size
  · rw [if_pos hl]
    refine (putlong_L lb E a.k a.v _ w0 w q hl).mono ?_
    rintro e w' ⟨rfl, rfl⟩
    exact ⟨_, rfl, rfl, q⟩
  · rw [if_neg hl]
    refine (put_L lb _ E a.k a.v w0 w q (by omega) (hgtM_in hts a.h) hN).mono ?_
    rintro e w' ⟨rfl, q', -⟩
    exact ⟨_, rfl, rfl, q'⟩
theorem del_made (lb : Nat) (hts : Bool) (E : List En) (a : OpR) (hk : a.kd = 3) (w0 w : World) (q : SkL w0 w lb E) (hN : E.length < 9000000000000000000) :
    Calls Try.prog 19 #[ptr1 lb, .string a.k] w fun e w' => ∃ x, e = .returned (.tuple x) ∧ x.size = 2 ∧ SkL w0 w' lb (stepM hts E a) := by
  unfold stepM
  rw [if_neg (by omega), if_pos hk]
  refine (del_L lb E a.k w0 w q hN).mono ?_
  rintro e w' ⟨rfl, q', -⟩
  exact ⟨_, rfl, rfl, q'⟩
theorem no_made {hts : Bool} {E : List En} {a : OpR} (h1 : a.kd ≠ 1) (h2 : a.kd ≠ 2) (h3 : a.kd ≠ 3) : stepM hts E a = E := by
  unfold stepM
  rw [if_neg (by omega), if_neg h3]

set_option maxHeartbeats 8000000 in
theorem made_any (hts : Bool) (L : List OpR) (q : Option Addr) (c B : Nat) (w : World) (hR : RdO w B q L) (hB : B ≤ w.heap.size) (hlen : L.length < 4000000000000) :
    Calls Try.prog 15 #[.slice q L.length c, .bool hts] w fun e w' => ∃ lb, e = .returned (ptr1 lb) ∧ SkL w w' lb (madeM hts L) := by
  have C1 : Hid (Calls _ _ _ _ _) := new_L w
  have HL : Hid (L.length < 4000000000000) := hlen
  have HR : Hid (RdO w B q L ∧ B ≤ w.heap.size) := ⟨hR, hB⟩
  clear hR hB hlen
  go_enter Try.func15, Try.ntmps15
  go_wp2_with fail
  refine C1.out.mono ?_
  rintro e w1 ⟨lb, rfl, q1⟩
  have HS0 : Hid (SkL w w1 lb (madeM hts (L.take 0))) := q1
  clear C1 q1
  go_wp2_with fail
  go_loopw [6] (fun sx wq => ∃ i : Nat, i ≤ L.length ∧ sx = .int .i64 (i : Int) ∧ Hid (SkL w wq lb (madeM hts (L.take i)))) (fun sx _ => ((L.length : Int) - intOf sx).toNat)
  case atStart => exact ⟨0, by omega, rfl, HS0⟩
  case round =>
    obtain ⟨i, hi, rfl, HS⟩ := hrel
    clear HS0
    rcases Nat.lt_or_eq_of_le hi with hlt | heq
    · have g1 : decide ((i : Int) < (L.length : Int)) = true := by simp; omega
      obtain ⟨b, o, rfl, hb, c0, c1, c2, c3⟩ := HR.out.1.keep (HS.out.bel.mono HR.out.2) i hlt
      rw [Nat.add_zero] at c0
      have HT : Hid (madeM hts (L.take (i + 1)) = stepM hts (madeM hts (L.take i)) L[i]) := madeM_take hts L hlt
      have HN0 : (madeM hts (L.take i)).length < 9000000000000000000 := by
        have h1 := madeM_len hts L i hi
        have h2 := HL.out
        omega
      have HN : Hid ((madeM hts (L.take i)).length < 9000000000000000000) := HN0
      clear HN0
      generalize L[i] = a at *
      generalize madeM hts (L.take i) = E at *
      obtain ⟨kd, k, v, h⟩ := a
      obtain ⟨aX, aB, aS⟩ := blk_new wr #[.int .i64 kd, .string k, .int .i64 v, .int .i64 h] 32
      have HSa : Hid (SkL w (wr.alloc (.cells #[.int .i64 kd, .string k, .int .i64 v, .int .i64 h] 32)) lb E) := HS.out.on aB
      have HBa : Hid (Below wr.heap.size wr (wr.alloc (.cells #[.int .i64 kd, .string k, .int .i64 v, .int .i64 h] 32))) := aB
      have HO : Hid (Blk (wr.alloc (.cells #[.int .i64 kd, .string k, .int .i64 v, .int .i64 h] 32)) wr.heap.size #[.int .i64 kd, .string k, .int .i64 v, .int .i64 h] 32) := aX
      clear aX aB aS
      go_upto_region 6 with fail
      clear c0 c1 c2 c3 hb
      generalize (wr.alloc (.cells #[.int .i64 kd, .string k, .int .i64 v, .int .i64 h] 32)) = wa at *
      have HZ : Hid (wr.heap.size ≤ wr.heap.size) := Nat.le_refl _
      by_cases hk : kd = 1
      · subst hk
        cases hts with
        | false =>
          have hbad : ¬ (false = true ∧ 1 ≤ h ∧ h ≤ 16) := by simp
          have C1 : Hid (Calls _ _ _ _ _) := put_made lb false E ⟨1, k, v, h⟩ (.inl rfl) w (wa.setCell ⟨wr.heap.size, 3, none⟩ (.int .i64 1)) (HS.out.on (below_set HBa.out HZ.out 3 _)) HN.out
          dsimp only at C1
          rw [show ((hgtM false h : Nat) : Int) = 1 by unfold hgtM; rw [if_neg hbad]; rfl] at C1
          have HO2 : Hid (Blk (wa.setCell ⟨wr.heap.size, 3, none⟩ (.int .i64 1)) wr.heap.size #[.int .i64 1, .string k, .int .i64 v, .int .i64 1] 32) := HO.out.set 3 _
          clear hbad
          have f3 := Blk.frozen HO.out 3
          have o0 := Blk.cell (i := 0) HO.out rfl
          have o1 := Blk.cell (i := 1) HO.out rfl
          have o2 := Blk.cell (i := 2) HO.out rfl
          have o3 := Blk.cell (i := 3) HO.out rfl
          go_upto_region 11 with fail
          clear o0 o1 o2 o3 f3 HO
          generalize (wa.setCell ⟨wr.heap.size, 3, none⟩ (.int .i64 1)) = wb at *
          have HO := HO2
          clear HO2
          have o0 := Blk.cell (i := 0) HO.out rfl
          have o1 := Blk.cell (i := 1) HO.out rfl
          have o2 := Blk.cell (i := 2) HO.out rfl
          have o3 := Blk.cell (i := 3) HO.out rfl
          go_wp2_with fail
          refine C1.out.mono ?_
          rintro e w2 ⟨x, rfl, -, q2⟩
          have HM : Hid (SkL w w2 lb (madeM false (L.take (i + 1)))) := by
            rw [HT.out]
            exact q2
          clear C1 q2 HT
          have hl9 : i + 1 < 4000000000000 := by have := HL.out; omega
          go_wp2_with fail
          go_roundw
          case rel => exact ⟨i + 1, by omega, by go_num, HM⟩
          case measure => simp [intOf]; omega
        | true =>
          by_cases h1 : 1 ≤ h
          · by_cases h2 : h ≤ 16
            · have C1 : Hid (Calls _ _ _ _ _) := put_made lb true E ⟨1, k, v, h⟩ (.inl rfl) w wa HSa.out HN.out
              dsimp only at C1
              rw [show ((hgtM true h : Nat) : Int) = h by unfold hgtM; rw [if_pos ⟨rfl, h1, h2⟩]; omega] at C1
              have g2 : decide (h < 1) = false := by simp; omega
              have g3 : decide (16 < h) = false := by simp; omega
              clear h1 h2
              have o0 := Blk.cell (i := 0) HO.out rfl
              have o1 := Blk.cell (i := 1) HO.out rfl
              have o2 := Blk.cell (i := 2) HO.out rfl
              have o3 := Blk.cell (i := 3) HO.out rfl
              go_wp2_with fail
              refine C1.out.mono ?_
              rintro e w2 ⟨x, rfl, -, q2⟩
              have HM : Hid (SkL w w2 lb (madeM true (L.take (i + 1)))) := by
                rw [HT.out]
                exact q2
              clear C1 q2 HT
              have hl9 : i + 1 < 4000000000000 := by have := HL.out; omega
              go_wp2_with fail
              go_roundw
              case rel => exact ⟨i + 1, by omega, by go_num, HM⟩
              case measure => simp [intOf]; omega
            · have hbad : ¬ (true = true ∧ 1 ≤ h ∧ h ≤ 16) := by omega
              have g2 : decide (h < 1) = false := by simp; omega
              have g3 : decide (16 < h) = true := by simp; omega
              clear h1 h2
              have C1 : Hid (Calls _ _ _ _ _) := put_made lb true E ⟨1, k, v, h⟩ (.inl rfl) w (wa.setCell ⟨wr.heap.size, 3, none⟩ (.int .i64 1)) (HS.out.on (below_set HBa.out HZ.out 3 _)) HN.out
              dsimp only at C1
              rw [show ((hgtM true h : Nat) : Int) = 1 by unfold hgtM; rw [if_neg hbad]; rfl] at C1
              have HO2 : Hid (Blk (wa.setCell ⟨wr.heap.size, 3, none⟩ (.int .i64 1)) wr.heap.size #[.int .i64 1, .string k, .int .i64 v, .int .i64 1] 32) := HO.out.set 3 _
              clear hbad
              have f3 := Blk.frozen HO.out 3
              have o0 := Blk.cell (i := 0) HO.out rfl
              have o1 := Blk.cell (i := 1) HO.out rfl
              have o2 := Blk.cell (i := 2) HO.out rfl
              have o3 := Blk.cell (i := 3) HO.out rfl
              go_upto_region 11 with fail
              clear o0 o1 o2 o3 f3 HO
              generalize (wa.setCell ⟨wr.heap.size, 3, none⟩ (.int .i64 1)) = wb at *
              have HO := HO2
              clear HO2
              have o0 := Blk.cell (i := 0) HO.out rfl
              have o1 := Blk.cell (i := 1) HO.out rfl
              have o2 := Blk.cell (i := 2) HO.out rfl
              have o3 := Blk.cell (i := 3) HO.out rfl
              go_wp2_with fail
              refine C1.out.mono ?_
              rintro e w2 ⟨x, rfl, -, q2⟩
              have HM : Hid (SkL w w2 lb (madeM true (L.take (i + 1)))) := by
                rw [HT.out]
                exact q2
              clear C1 q2 HT
              have hl9 : i + 1 < 4000000000000 := by have := HL.out; omega
              go_wp2_with fail
              go_roundw
              case rel => exact ⟨i + 1, by omega, by go_num, HM⟩
              case measure => simp [intOf]; omega
          · have hbad : ¬ (true = true ∧ 1 ≤ h ∧ h ≤ 16) := by omega
            have g2 : decide (h < 1) = true := by simp; omega
            clear h1
            have C1 : Hid (Calls _ _ _ _ _) := put_made lb true E ⟨1, k, v, h⟩ (.inl rfl) w (wa.setCell ⟨wr.heap.size, 3, none⟩ (.int .i64 1)) (HS.out.on (below_set HBa.out HZ.out 3 _)) HN.out
            dsimp only at C1
            rw [show ((hgtM true h : Nat) : Int) = 1 by unfold hgtM; rw [if_neg hbad]; rfl] at C1
            have HO2 : Hid (Blk (wa.setCell ⟨wr.heap.size, 3, none⟩ (.int .i64 1)) wr.heap.size #[.int .i64 1, .string k, .int .i64 v, .int .i64 1] 32) := HO.out.set 3 _
            clear hbad
            have f3 := Blk.frozen HO.out 3
            have o0 := Blk.cell (i := 0) HO.out rfl
            have o1 := Blk.cell (i := 1) HO.out rfl
            have o2 := Blk.cell (i := 2) HO.out rfl
            have o3 := Blk.cell (i := 3) HO.out rfl
            go_upto_region 11 with fail
            clear o0 o1 o2 o3 f3 HO
            generalize (wa.setCell ⟨wr.heap.size, 3, none⟩ (.int .i64 1)) = wb at *
            have HO := HO2
            clear HO2
            have o0 := Blk.cell (i := 0) HO.out rfl
            have o1 := Blk.cell (i := 1) HO.out rfl
            have o2 := Blk.cell (i := 2) HO.out rfl
            have o3 := Blk.cell (i := 3) HO.out rfl
            go_wp2_with fail
            refine C1.out.mono ?_
            rintro e w2 ⟨x, rfl, -, q2⟩
            have HM : Hid (SkL w w2 lb (madeM true (L.take (i + 1)))) := by
              rw [HT.out]
              exact q2
            clear C1 q2 HT
            have hl9 : i + 1 < 4000000000000 := by have := HL.out; omega
            go_wp2_with fail
            go_roundw
            case rel => exact ⟨i + 1, by omega, by go_num, HM⟩
            case measure => simp [intOf]; omega

      · have n1 := hk
        clear hk
        by_cases hk : kd = 2
        · clear n1
          subst hk
          cases hts with
          | false =>
            have hbad : ¬ (false = true ∧ 1 ≤ h ∧ h ≤ 16) := by simp
            have C1 : Hid (Calls _ _ _ _ _) := put_made lb false E ⟨2, k, v, h⟩ (.inr rfl) w (wa.setCell ⟨wr.heap.size, 3, none⟩ (.int .i64 1)) (HS.out.on (below_set HBa.out HZ.out 3 _)) HN.out
            dsimp only at C1
            rw [show ((hgtM false h : Nat) : Int) = 1 by unfold hgtM; rw [if_neg hbad]; rfl] at C1
            have HO2 : Hid (Blk (wa.setCell ⟨wr.heap.size, 3, none⟩ (.int .i64 1)) wr.heap.size #[.int .i64 2, .string k, .int .i64 v, .int .i64 1] 32) := HO.out.set 3 _
            clear hbad
            have f3 := Blk.frozen HO.out 3
            have o0 := Blk.cell (i := 0) HO.out rfl
            have o1 := Blk.cell (i := 1) HO.out rfl
            have o2 := Blk.cell (i := 2) HO.out rfl
            have o3 := Blk.cell (i := 3) HO.out rfl
            go_upto_region 11 with fail
            clear o0 o1 o2 o3 f3 HO
            generalize (wa.setCell ⟨wr.heap.size, 3, none⟩ (.int .i64 1)) = wb at *
            have HO := HO2
            clear HO2
            have o0 := Blk.cell (i := 0) HO.out rfl
            have o1 := Blk.cell (i := 1) HO.out rfl
            have o2 := Blk.cell (i := 2) HO.out rfl
            have o3 := Blk.cell (i := 3) HO.out rfl
            go_wp2_with fail
            refine C1.out.mono ?_
            rintro e w2 ⟨x, rfl, -, q2⟩
            have HM : Hid (SkL w w2 lb (madeM false (L.take (i + 1)))) := by
              rw [HT.out]
              exact q2
            clear C1 q2 HT
            have hl9 : i + 1 < 4000000000000 := by have := HL.out; omega
            go_wp2_with fail
            go_roundw
            case rel => exact ⟨i + 1, by omega, by go_num, HM⟩
            case measure => simp [intOf]; omega
          | true =>
            by_cases h1 : 1 ≤ h
            · by_cases h2 : h ≤ 16
              · have C1 : Hid (Calls _ _ _ _ _) := put_made lb true E ⟨2, k, v, h⟩ (.inr rfl) w wa HSa.out HN.out
                dsimp only at C1
                rw [show ((hgtM true h : Nat) : Int) = h by unfold hgtM; rw [if_pos ⟨rfl, h1, h2⟩]; omega] at C1
                have g2 : decide (h < 1) = false := by simp; omega
                have g3 : decide (16 < h) = false := by simp; omega
                clear h1 h2
                have o0 := Blk.cell (i := 0) HO.out rfl
                have o1 := Blk.cell (i := 1) HO.out rfl
                have o2 := Blk.cell (i := 2) HO.out rfl
                have o3 := Blk.cell (i := 3) HO.out rfl
                go_wp2_with fail
                refine C1.out.mono ?_
                rintro e w2 ⟨x, rfl, -, q2⟩
                have HM : Hid (SkL w w2 lb (madeM true (L.take (i + 1)))) := by
                  rw [HT.out]
                  exact q2
                clear C1 q2 HT
                have hl9 : i + 1 < 4000000000000 := by have := HL.out; omega
                go_wp2_with fail
                go_roundw
                case rel => exact ⟨i + 1, by omega, by go_num, HM⟩
                case measure => simp [intOf]; omega
              · have hbad : ¬ (true = true ∧ 1 ≤ h ∧ h ≤ 16) := by omega
                have g2 : decide (h < 1) = false := by simp; omega
                have g3 : decide (16 < h) = true := by simp; omega
                clear h1 h2
                have C1 : Hid (Calls _ _ _ _ _) := put_made lb true E ⟨2, k, v, h⟩ (.inr rfl) w (wa.setCell ⟨wr.heap.size, 3, none⟩ (.int .i64 1)) (HS.out.on (below_set HBa.out HZ.out 3 _)) HN.out
                dsimp only at C1
                rw [show ((hgtM true h : Nat) : Int) = 1 by unfold hgtM; rw [if_neg hbad]; rfl] at C1
                have HO2 : Hid (Blk (wa.setCell ⟨wr.heap.size, 3, none⟩ (.int .i64 1)) wr.heap.size #[.int .i64 2, .string k, .int .i64 v, .int .i64 1] 32) := HO.out.set 3 _
                clear hbad
                have f3 := Blk.frozen HO.out 3
                have o0 := Blk.cell (i := 0) HO.out rfl
                have o1 := Blk.cell (i := 1) HO.out rfl
                have o2 := Blk.cell (i := 2) HO.out rfl
                have o3 := Blk.cell (i := 3) HO.out rfl
                go_upto_region 11 with fail
                clear o0 o1 o2 o3 f3 HO
                generalize (wa.setCell ⟨wr.heap.size, 3, none⟩ (.int .i64 1)) = wb at *
                have HO := HO2
                clear HO2
                have o0 := Blk.cell (i := 0) HO.out rfl
                have o1 := Blk.cell (i := 1) HO.out rfl
                have o2 := Blk.cell (i := 2) HO.out rfl
                have o3 := Blk.cell (i := 3) HO.out rfl
                go_wp2_with fail
                refine C1.out.mono ?_
                rintro e w2 ⟨x, rfl, -, q2⟩
                have HM : Hid (SkL w w2 lb (madeM true (L.take (i + 1)))) := by
                  rw [HT.out]
                  exact q2
                clear C1 q2 HT
                have hl9 : i + 1 < 4000000000000 := by have := HL.out; omega
                go_wp2_with fail
                go_roundw
                case rel => exact ⟨i + 1, by omega, by go_num, HM⟩
                case measure => simp [intOf]; omega
            · have hbad : ¬ (true = true ∧ 1 ≤ h ∧ h ≤ 16) := by omega
              have g2 : decide (h < 1) = true := by simp; omega
              clear h1
              have C1 : Hid (Calls _ _ _ _ _) := put_made lb true E ⟨2, k, v, h⟩ (.inr rfl) w (wa.setCell ⟨wr.heap.size, 3, none⟩ (.int .i64 1)) (HS.out.on (below_set HBa.out HZ.out 3 _)) HN.out
              dsimp only at C1
              rw [show ((hgtM true h : Nat) : Int) = 1 by unfold hgtM; rw [if_neg hbad]; rfl] at C1
              have HO2 : Hid (Blk (wa.setCell ⟨wr.heap.size, 3, none⟩ (.int .i64 1)) wr.heap.size #[.int .i64 2, .string k, .int .i64 v, .int .i64 1] 32) := HO.out.set 3 _
              clear hbad
              have f3 := Blk.frozen HO.out 3
              have o0 := Blk.cell (i := 0) HO.out rfl
              have o1 := Blk.cell (i := 1) HO.out rfl
              have o2 := Blk.cell (i := 2) HO.out rfl
              have o3 := Blk.cell (i := 3) HO.out rfl
              go_upto_region 11 with fail
              clear o0 o1 o2 o3 f3 HO
              generalize (wa.setCell ⟨wr.heap.size, 3, none⟩ (.int .i64 1)) = wb at *
              have HO := HO2
              clear HO2
              have o0 := Blk.cell (i := 0) HO.out rfl
              have o1 := Blk.cell (i := 1) HO.out rfl
              have o2 := Blk.cell (i := 2) HO.out rfl
              have o3 := Blk.cell (i := 3) HO.out rfl
              go_wp2_with fail
              refine C1.out.mono ?_
              rintro e w2 ⟨x, rfl, -, q2⟩
              have HM : Hid (SkL w w2 lb (madeM true (L.take (i + 1)))) := by
                rw [HT.out]
                exact q2
              clear C1 q2 HT
              have hl9 : i + 1 < 4000000000000 := by have := HL.out; omega
              go_wp2_with fail
              go_roundw
              case rel => exact ⟨i + 1, by omega, by go_num, HM⟩
              case measure => simp [intOf]; omega

        · have n2 := hk
          clear hk
          by_cases hk : kd = 3
          · clear n1 n2
            subst hk
            have C1 : Hid (Calls _ _ _ _ _) := del_made lb hts E ⟨3, k, v, h⟩ rfl w wa HSa.out HN.out
            have o0 := Blk.cell (i := 0) HO.out rfl
            have o1 := Blk.cell (i := 1) HO.out rfl
            have o2 := Blk.cell (i := 2) HO.out rfl
            have o3 := Blk.cell (i := 3) HO.out rfl
            go_wp2_with fail
            refine C1.out.mono ?_
            rintro e w2 ⟨x, rfl, -, q2⟩
            have HM : Hid (SkL w w2 lb (madeM hts (L.take (i + 1)))) := by
              rw [HT.out]
              exact q2
            clear C1 q2 HT
            have hl9 : i + 1 < 4000000000000 := by have := HL.out; omega
            go_wp2_with fail
            go_roundw
            case rel => exact ⟨i + 1, by omega, by go_num, HM⟩
            case measure => simp [intOf]; omega

          · have n3 := hk
            clear hk
            have g1 : (kd == 1) = false := by simp; omega
            have g2 : (kd == 2) = false := by simp; omega
            have g3 : (kd == 3) = false := by simp; omega
            have HM : Hid (SkL w wa lb (madeM hts (L.take (i + 1)))) := by
              rw [HT.out, no_made n1 n2 n3]
              exact HSa.out
            clear n1 n2 n3 HT
            have o0 := Blk.cell (i := 0) HO.out rfl
            have o1 := Blk.cell (i := 1) HO.out rfl
            have o2 := Blk.cell (i := 2) HO.out rfl
            have o3 := Blk.cell (i := 3) HO.out rfl
            have hl9 : i + 1 < 4000000000000 := by have := HL.out; omega
            go_wp2_with fail
            go_roundw
            case rel => exact ⟨i + 1, by omega, by go_num, HM⟩
            case measure => simp [intOf]; omega

    · have g1 : decide ((i : Int) < (L.length : Int)) = false := by simp; omega
      have HM : Hid (SkL w wr lb (madeM hts L)) := by
        have h1 := HS.out
        rw [heq, List.take_length] at h1
        exact h1
      go_wp2_with fail
      go_ret
      exact ⟨lb, rfl, HM.out⟩

end Go.Proofs.Ytojfohpnfciajaa
