/- awake: a read of what was written later meets it. noted: a Log behind some commits, and the document's beside it. -/
import Derived.Test.YtcknhjabdjbjiabGreatGWLg11
import Derived.Test.YtcknhjabdjbjiabGreatGWLg12
import Derived.Test.YtcknhjabdjbjiabGreatGWLd1
namespace Go.Proofs.YtcknhjabdjbjiabGreat
open Go.RowKit
set_option maxRecDepth 100000

def pK : Pt := ⟨1, -1, ⟨#[107]⟩⟩
theorem SlP.oneK {w : World} {b : Nat} (h : Blk w b #[.int .i64 1, .int .i64 (-1), .string ⟨#[107]⟩] 36) : SlP w (.slice (some ⟨b, 0, none⟩) 1 1) [pK] :=
  ⟨some ⟨b, 0, none⟩, 1, rfl, Nat.le_refl _, (fun h => by cases h), fun i hi => by
    have hi0 : i = 0 := by simpa using hi
    subst hi0
    exact ⟨b, 0, rfl, h.lt, h.cell rfl, h.cell rfl, h.cell rfl⟩⟩
theorem SlP.nil18 (w : World) : SlP w (.slice none 0 0) [] := ⟨none, 0, rfl, Nat.le_refl _, fun _ => rfl, fun i hi => absurd hi (by simp)⟩
theorem SlS.nil18 (w : World) : SlS w (.slice none 0 0) [] := ⟨none, 0, rfl, Nat.le_refl _, fun _ => rfl, fun i hi => absurd hi (by simp)⟩
theorem Frm.lowB {w w' : World} {B : Nat} (h : Frm w w' (FB B w)) (hB : B ≤ w.heap.size) : Below B w w' := h.below hB (fun _ hk => hk.1)
set_option maxHeartbeats 4000000 in
theorem awake18_any (w : World) : Calls Tryz.prog 8 #[] w fun e w' => e = .returned (.bool true) ∧ Below w.heap.size w w' := by
  have CN : Hid (Calls _ _ _ _ _) := newLog_any w
  go_enter Tryz.func8, Tryz.ntmps8
  go_wp2_with fail
  refine CN.out.mono ?_
  rintro e w1 ⟨lb, vC, mb, E, rfl, hX1, hb1⟩
  clear CN
  obtain ⟨w2, hw2⟩ : ∃ w2, w1.alloc (.cells #[.int .i64 1, .int .i64 (-1), .string ⟨#[107]⟩] 36) = w2 := ⟨_, rfl⟩
  have hal : Below w1.heap.size w1 w2 := by rw [← hw2]; exact (Below.refl _ _).alloc (Nat.le_refl _) _
  have HX2 : Hid (LogO w2 w.heap.size lb vC mb E []) := hX1.on hal
  have HB2 : Hid (Below w.heap.size w w2) := hb1.trans (hal.mono hb1.size)
  have HK2 : Hid (Blk w2 w1.heap.size #[.int .i64 1, .int .i64 (-1), .string ⟨#[107]⟩] 36) := by rw [← hw2]; exact Blk.new w1 _ _
  have CT : Hid (Calls _ _ _ _ _) := note_any ⟨[], [], [pK]⟩ _ _ _ w.heap.size lb 5 vC mb E [] w2 HX2.out ⟨SlP.nil18 _, SlS.nil18 _, SlP.oneK HK2.out, by simp, by simp, by simp⟩ (by omega)
  clear hal hX1 hb1
  go_wp2_with fail
  refine CT.out.mono ?_
  rintro e w3 ⟨rfl, vC', E', L', hX3, hN3, hF3⟩
  clear CT hw2
  have hn0 : noteE ⟨[], [], [pK]⟩ 5 (lastC []) ([] : List Cm).length = 0 := by decide
  obtain ⟨c, rfl, hcs, hcW⟩ := hN3.2 hn0
  rw [hn0]
  have HX3 : Hid (LogO w3 w.heap.size lb vC' mb E' ([] ++ [c])) := hX3
  have HB3 : Hid (Below w.heap.size w w3) := HB2.out.trans (hF3.lowB HB2.out.size)
  have HK3 : Hid (Blk w3 w1.heap.size #[.int .i64 1, .int .i64 (-1), .string ⟨#[107]⟩] 36) := (FB.other hF3 HK2.out (by decide)).trans HK2.out
  have HW : Hid (c.s = 5 ∧ ∀ x, x ∈ c.W ↔ x ∈ [pK]) := ⟨hcs, hcW⟩
  clear hn0 hN3 hF3 hX3 HX2 HB2 HK2 hcs hcW
  have CR : Hid (Calls _ _ _ _ _) := read_any ⟨[pK], [], []⟩ _ _ _ lb 4 vC' mb _ _ w3 HX3.out.x ⟨SlP.oneK HK3.out, SlS.nil18 _, SlP.nil18 _, by simp, by simp, by simp⟩ (by omega)
  go_wp2_with fail
  refine CR.out.mono ?_
  rintro e w4 ⟨q, rfl, hq, hb4⟩
  clear CR
  have hq4 := hq.ok (by decide)
  cases q with
  | none => exact absurd (Or.inl (List.mem_singleton.2 rfl)) (hq4 c (by simp) (by have := HW.out.1; omega) pK ((HW.out.2 pK).2 (by simp)))
  | some q =>
    obtain ⟨m, x⟩ := q
    obtain ⟨wb, hwb⟩ : ∃ wb, w4.alloc (.cells #[.int .u64 (m : Nat), .int .i64 x.t, .int .i64 x.i, .string x.k] 38) = wb := ⟨_, rfl⟩
    have hal : Below w3.heap.size w3 wb := by rw [← hwb]; exact hb4.trans ((Below.refl _ _).alloc hb4.size _)
    have HXb : Hid (LogO wb w.heap.size lb vC' mb E' ([] ++ [c])) := HX3.out.on hal
    have HBb : Hid (Below w.heap.size w wb) := HB3.out.trans (hal.mono HB3.out.size)
    have HKb : Hid (Blk wb w1.heap.size #[.int .i64 1, .int .i64 (-1), .string ⟨#[107]⟩] 36) := HK3.out.on hal
    have CR : Hid (Calls _ _ _ _ _) := read_any ⟨[pK], [], []⟩ _ _ _ lb 5 vC' mb _ _ wb HXb.out.x ⟨SlP.oneK HKb.out, SlS.nil18 _, SlP.nil18 _, by simp, by simp, by simp⟩ (by omega)
    clear hal hq hq4 hb4 HX3 HB3 HK3
    dsimp only [clV]
    go_wp2_with fail
    refine CR.out.mono ?_
    rintro e w5 ⟨q, rfl, hq, hb5⟩
    clear CR hwb
    have hq4 := hq.ok (by decide)
    have hqn : q = none := by
      cases q with
      | none => rfl
      | some q =>
        obtain ⟨c', hc', e1, h1, -⟩ := hq4
        have e2 : c' = c := by simpa using hc'
        subst e2
        have := HW.out.1
        omega
    subst hqn
    have HB5 : Hid (Below w.heap.size w w5) := HBb.out.trans (hb5.mono HBb.out.size)
    obtain ⟨wc, hwc⟩ : ∃ wc, w5.alloc (.cells #[.int .u64 0, .int .i64 0, .int .i64 0, .string ⟨#[]⟩] 38) = wc := ⟨_, rfl⟩
    have HKc : Hid (Blk wc w5.heap.size #[.int .u64 0, .int .i64 0, .int .i64 0, .string ⟨#[]⟩] 38) := by rw [← hwc]; exact Blk.new w5 _ _
    have HBc : Hid (Below w.heap.size w wc) := by rw [← hwc]; exact HB5.out.alloc HB5.out.size _
    have y0 := HKc.out.cell (i := 0) rfl
    have y1 := HKc.out.cell (i := 1) rfl
    have y2 := HKc.out.cell (i := 2) rfl
    have y3 := HKc.out.cell (i := 3) rfl
    have g0 := HKc.out.frozen 0
    have g1 := HKc.out.frozen 1
    have g2 := HKc.out.frozen 2
    have g3 := HKc.out.frozen 3
    have HE : Hid (Below w.heap.size w ((((wc.setCell ⟨w5.heap.size, 0, none⟩ (.int .u64 0)).setCell ⟨w5.heap.size, 1, none⟩ (.int .i64 0)).setCell ⟨w5.heap.size, 2, none⟩ (.int .i64 0)).setCell ⟨w5.heap.size, 3, none⟩ (.string ⟨#[]⟩))) := HBc.out.trans ((set4 HKc.out).2.below HBc.out.size (fun k hk => by have := HB5.out.size; omega))
    clear hq hq4 hb5 HXb HBb HKb
    dsimp only [clV]
    go_wp2_with fail
    go_ret
    exact ⟨rfl, HE.out⟩

end Go.Proofs.YtcknhjabdjbjiabGreat

namespace Go.Proofs.YtcknhjabdjbjiabGreat
open Go.RowKit
set_option maxRecDepth 100000

/-- a commit that is handed in -/
structure Lc where
  s : Nat
  a : Ft
  v0 : Value
  v1 : Value
  v2 : Value
/-- commits that are handed in -/
structure RdLc (w : World) (v : Value) (K : List Lc) : Prop where
  f : ∃ p c, v = .slice p K.length c ∧ K.length ≤ c ∧ K.length ≤ 4398046511104 ∧ ∀ i (hi : i < K.length), ∃ b o, p = some ⟨b, o, none⟩ ∧ b < w.heap.size ∧ w.cell? ⟨b, o + i * 4, none⟩ = some (.int .u64 (K[i].s : Nat)) ∧ w.cell? ⟨b, o + i * 4 + 1, none⟩ = some K[i].v0 ∧ w.cell? ⟨b, o + i * 4 + 2, none⟩ = some K[i].v1 ∧ w.cell? ⟨b, o + i * 4 + 3, none⟩ = some K[i].v2
  ft : ∀ c ∈ K, RdF w c.v0 c.v1 c.v2 c.a ∧ c.s < 18446744073709551616
theorem RdLc.on {w w' : World} {v : Value} {K : List Lc} (h : RdLc w v K) (hb : Below w.heap.size w w') : RdLc w' v K := by
  obtain ⟨p, c, e, h1, h2, h3⟩ := h.f
  refine ⟨⟨p, c, e, h1, h2, fun i hi => ?_⟩, fun c hc => ⟨(h.ft c hc).1.on hb, (h.ft c hc).2⟩⟩
  obtain ⟨b, o, e, hbB, c0, c1, c2, c3⟩ := h3 i hi
  have k : ∀ {o : Nat} {v : Option Value}, w.cell? ⟨b, o, none⟩ = v → w'.cell? ⟨b, o, none⟩ = v := fun {o v} hc => (hb.cell (p := ⟨b, o, none⟩) hbB).trans hc
  exact ⟨b, o, e, Nat.lt_of_lt_of_le hbB hb.size, k c0, k c1, k c2, k c3⟩
/-- two lists of commits tell the same -/
structure SamC (L M : List Cm) : Prop where
  len : L.length = M.length
  at' : ∀ i (hi : i < L.length) (hi' : i < M.length), L[i].s = M[i].s ∧ ∀ x, x ∈ L[i].W ↔ x ∈ M[i].W
theorem SamC.nil : SamC [] [] := ⟨rfl, fun i hi => absurd hi (by simp)⟩
theorem SamC.snoc {L M : List Cm} (h : SamC L M) (c d : Cm) (hs : c.s = d.s) (hw : ∀ x, x ∈ c.W ↔ x ∈ d.W) : SamC (L ++ [c]) (M ++ [d]) := by
  refine ⟨by simp [h.len], fun i hi hi' => ?_⟩
  rcases Nat.lt_or_ge i L.length with h1 | h1
  · have h2 : i < M.length := by rw [← h.len]; exact h1
    rw [List.getElem_append_left h1, List.getElem_append_left h2]
    exact h.at' i h1 h2
  · have h2 : M.length ≤ i := by rw [← h.len]; exact h1
    rw [List.getElem_append_right h1, List.getElem_append_right h2]
    simp [hs, hw]
theorem SamC.last {L M : List Cm} (h : SamC L M) : lastC L = lastC M := by
  unfold lastC
  rw [List.getLast?_eq_getElem?, List.getLast?_eq_getElem?]
  by_cases h0 : L.length = 0
  · have h1 : M.length = 0 := by rw [← h.len]; exact h0
    rw [List.getElem?_eq_none (by omega), List.getElem?_eq_none (by omega)]
  · have h1 : L.length - 1 < L.length := by omega
    have h2 : M.length - 1 < M.length := by have := h.len; omega
    rw [List.getElem?_eq_getElem h1, List.getElem?_eq_getElem h2]
    have := h.at' (L.length - 1) h1 (by have := h.len; omega)
    simp only [h.len] at this ⊢
    exact this.1
theorem SamC.fst {L M : List Cm} (h : SamC L M) {fr : Nat} {P : Pt → Prop} : ∀ {q : Option (Nat × Pt)}, FstO L fr P q → FstO M fr P q
  | none, hq => fun c hc hf x hx => by
    obtain ⟨i, hi, rfl⟩ := List.getElem_of_mem hc
    have hi' : i < L.length := by rw [h.len]; exact hi
    obtain ⟨e, hw⟩ := h.at' i hi' hi
    exact hq L[i] (List.getElem_mem hi') (by omega) x ((hw x).2 hx)
  | some q, hq => by
    obtain ⟨c, hc, e, hf, hm, hl⟩ := hq
    obtain ⟨i, hi, rfl⟩ := List.getElem_of_mem hc
    have hi' : i < M.length := by rw [← h.len]; exact hi
    obtain ⟨e2, hw⟩ := h.at' i hi hi'
    refine ⟨M[i], List.getElem_mem hi', by omega, hf, hm.ext (fun x => by rw [hw x]), fun c' hc' hf' hlt x hx => ?_⟩
    obtain ⟨k, hk, rfl⟩ := List.getElem_of_mem hc'
    have hk' : k < L.length := by rw [h.len]; exact hk
    obtain ⟨e3, hw3⟩ := h.at' k hk' hk
    exact hl L[k] (List.getElem_mem hk') (by omega) (by omega) x ((hw3 x).2 hx)
/-- the document's commits; what they wrote lies in the first world -/
structure DocB (w wr : World) (B : Nat) (v : Value) (M : List Cm) : Prop where
  own : OwnD wr B v M
  ft : ∀ c ∈ M, (SlP w c.v2 c.W ∧ c.W.length ≤ 4398046511104) ∧ c.v0 = .slice none 0 0 ∧ c.v1 = .slice none 0 0
theorem DocB.doc {w wr : World} {B : Nat} {v : Value} {M : List Cm} (h : DocB w wr B v M) (hb : Below w.heap.size w wr) : DocC wr B v M := ⟨h.own, fun c hc => ⟨⟨(h.ft c hc).1.1.on hb, (h.ft c hc).1.2⟩, (h.ft c hc).2⟩⟩
theorem chk_lw {a : Ft} (h : chkF a = 0) : a.W.length ≤ 65536 := by
  unfold chkF at h
  by_cases h9 : 65536 < a.size
  · rw [if_pos h9] at h; cases h
  · unfold Ft.size at h9; omega
theorem note_ok {a : Ft} {s la n : Nat} (h : noteE a s la n = 0) : chkF a = 0 ∧ 1 ≤ s ∧ s ≤ 4611686018427387904 ∧ la < s ∧ n < 4096 := by
  by_cases h0 : chkF a = 0
  · by_cases h1 : s = 0 ∨ 4611686018427387904 < s
    · rw [note1 h0 h1] at h; cases h
    · by_cases h2 : s ≤ la
      · rw [note2 h0 h1 h2] at h; cases h
      · by_cases h3 : 4096 ≤ n
        · rw [note3 h0 h1 h2 h3] at h; cases h
        · exact ⟨h0, by omega, by omega, by omega, by omega⟩
  · rw [note0 h0] at h; exact absurd h h0
/-- a Log and the document's commits beside it; w: the world ahead of it -/
structure NtP (w wr : World) (lb mb : Nat) (vC : Value) (E : List (Pt × Value × List Nat)) (L : List Cm) (vm : Value) (M : List Cm) : Prop where
  log : LogO wr w.heap.size lb vC mb E L
  doc : DocB w wr w.heap.size vm M
  sam : SamC L M
  inv : InvC M
  bel : Below w.heap.size w wr
theorem NtP.on {w wr w' : World} {lb mb : Nat} {vC : Value} {E : List (Pt × Value × List Nat)} {L : List Cm} {vm : Value} {M : List Cm} (h : NtP w wr lb mb vC E L vm M) (hb : Below wr.heap.size wr w') : NtP w w' lb mb vC E L vm M :=
  ⟨h.log.on hb, ⟨h.doc.own.on hb, h.doc.ft⟩, h.sam, h.inv, h.bel.trans (hb.mono h.bel.size)⟩
/-- a Log has noted; the document's has not yet -/
structure NtH (w wr : World) (lb mb : Nat) (vC : Value) (E : List (Pt × Value × List Nat)) (L L' : List Cm) (vm : Value) (M : List Cm) (k : Lc) : Prop where
  log : LogO wr w.heap.size lb vC mb E L'
  doc : DocB w wr w.heap.size vm M
  sam : SamC L M
  inv : InvC M
  bel : Below w.heap.size w wr
  nt : NtL k.a k.s L L'
theorem NtP.half {w wr w' : World} {lb mb : Nat} {vC vC' : Value} {E E' : List (Pt × Value × List Nat)} {L L' : List Cm} {vm : Value} {M : List Cm} {k : Lc} (h : NtP w wr lb mb vC E L vm M) (hl : LogO w' w.heap.size lb vC' mb E' L') (hn : NtL k.a k.s L L') (hf : Frm wr w' (FB w.heap.size wr)) : NtH w w' lb mb vC' E' L L' vm M k :=
  ⟨hl, ⟨h.doc.own.fb hf, h.doc.ft⟩, h.sam, h.inv, h.bel.trans (hf.lowB h.bel.size), hn⟩
theorem NtH.on {w wr w' : World} {lb mb : Nat} {vC : Value} {E : List (Pt × Value × List Nat)} {L L' : List Cm} {vm : Value} {M : List Cm} {k : Lc} (h : NtH w wr lb mb vC E L L' vm M k) (hb : Below wr.heap.size wr w') : NtH w w' lb mb vC E L L' vm M k :=
  ⟨h.log.on hb, ⟨h.doc.own.on hb, h.doc.ft⟩, h.sam, h.inv, h.bel.trans (hb.mono h.bel.size), h.nt⟩
theorem NtH.full {w wr w' : World} {lb mb : Nat} {vC : Value} {E : List (Pt × Value × List Nat)} {L L' : List Cm} {vm vm' : Value} {M M' : List Cm} {k : Lc} (h : NtH w wr lb mb vC E L L' vm M k) (hr : RdF w k.v0 k.v1 k.v2 k.a) (hd : DocC w' w.heap.size vm' M') (hn : NtD k.a k.s k.v2 M M') (hb : Below wr.heap.size wr w') : NtP w w' lb mb vC E L' vm' M' := by
  have hbel := h.bel.trans (hb.mono h.bel.size)
  by_cases he : noteE k.a k.s (lastC M) M.length = 0
  · have he2 : noteE k.a k.s (lastC L) L.length = 0 := by rw [h.sam.last, h.sam.len]; exact he
    obtain ⟨c, rfl, h1, h2⟩ := h.nt.2 he2
    have := hn.2 he
    subst this
    obtain ⟨k0, k1, k2, k3, k4⟩ := note_ok he
    refine ⟨h.log.on hb, ⟨hd.own, fun d hdm => ?_⟩, h.sam.snoc c _ h1 h2, h.inv.snoc _ k1 k2 k3 k4 (chk_lw k0), hbel⟩
    rcases List.mem_append.1 hdm with hdm | hdm
    · exact h.doc.ft d hdm
    · rw [List.mem_singleton] at hdm
      subst hdm
      exact ⟨⟨hr.w, hr.lw⟩, rfl, rfl⟩
  · have he2 : noteE k.a k.s (lastC L) L.length ≠ 0 := by rw [h.sam.last, h.sam.len]; exact he
    have e1 := h.nt.1 he2
    have e2 := hn.1 he
    subst e1 e2
    exact ⟨h.log.on hb, ⟨hd.own, h.doc.ft⟩, h.sam, h.inv, hbel⟩
set_option maxHeartbeats 8000000 in
theorem noted_any (v : Value) (K : List Lc) (w : World) (hK : RdLc w v K) :
    Calls Tryz.prog 6 #[v] w fun e w' => ∃ lb mb vC E L vm M, e = .returned (.tuple #[ptr1 lb, vm, .bool true]) ∧ NtP w w' lb mb vC E L vm M := by
  obtain ⟨p, c, rfl, hlc, hln, hrow⟩ := hK.f
  obtain ⟨n, hn⟩ : ∃ n, K.length = n := ⟨_, rfl⟩
  rw [hn] at hlc hln ⊢
  have HKl : Hid (K.length = n) := hn
  have HRow : Hid (∀ i (hi : i < K.length), ∃ b o, p = some ⟨b, o, none⟩ ∧ b < w.heap.size ∧ w.cell? ⟨b, o + i * 4, none⟩ = some (.int .u64 (K[i].s : Nat)) ∧ w.cell? ⟨b, o + i * 4 + 1, none⟩ = some K[i].v0 ∧ w.cell? ⟨b, o + i * 4 + 2, none⟩ = some K[i].v1 ∧ w.cell? ⟨b, o + i * 4 + 3, none⟩ = some K[i].v2) := hrow
  have HFt : Hid (∀ c ∈ K, RdF w c.v0 c.v1 c.v2 c.a ∧ c.s < 18446744073709551616) := hK.ft
  clear hK hrow hn
  have CN : Hid (Calls _ _ _ _ _) := newLog_any w
  go_enter Tryz.func6, Tryz.ntmps6
  go_wp2_with fail
  refine CN.out.mono ?_
  rintro e w1 ⟨lb, vC, mb, E, rfl, hX1, hb1⟩
  clear CN
  have HP1 : Hid (NtP w w1 lb mb vC E [] (.slice none 0 0) []) := ⟨hX1, ⟨OwnD.nil _ _, by simp⟩, SamC.nil, ⟨fun i j hi => absurd hi (by simp), by simp, by simp, by simp, by simp⟩, hb1⟩
  clear hX1 hb1
  go_wp2_with fail
  go_loopw [6, 7] (fun m i wr => ∃ (j : Nat) (vC : Value) (E : List (Pt × Value × List Nat)) (L : List Cm) (M : List Cm), j ≤ n ∧ i = .int .i64 (j : Int) ∧ Hid (NtP w wr lb mb vC E L m M)) (fun _ i _ => n - (intOf i).toNat)
  case atStart => exact ⟨0, vC, E, [], [], Nat.zero_le _, by go_num, HP1⟩
  case round =>
    obtain ⟨j, vC', E', L, M, hj, rfl, HP⟩ := hrel
    clear HP1
    by_cases hj0 : j = n
    · subst hj0
      go_wp2_with fail
      refine bodyPost_ret (v := .tuple #[ptr1 lb, u6, .bool true]) (by simp [results, Tryz.results6, go_sem]) rfl ?_
      exact ⟨lb, mb, vC', E', L, u6, M, rfl, HP.out⟩
    · have hj1 : j < n := by omega
      have hjK : j < K.length := by have := HKl.out; omega
      obtain ⟨b, o, rfl, hbl, d0, d1, d2, d3⟩ := HRow.out j hjK
      have hft := HFt.out K[j] (List.getElem_mem hjK)
      obtain ⟨k, hk⟩ : ∃ k, K[j] = k := ⟨_, rfl⟩
      rw [hk] at d0 d1 d2 d3 hft
      clear hk hjK
      obtain ⟨s, ka, v0, v1, v2⟩ := k
      dsimp only at d0 d1 d2 d3 hft
      obtain ⟨⟨p0, n0, c0, e0⟩, ⟨p1, n1, c1, e1⟩, ⟨p2, n2, c2, e2⟩⟩ : (∃ p n c, v0 = .slice p n c) ∧ (∃ p n c, v1 = .slice p n c) ∧ (∃ p n c, v2 = .slice p n c) := by
        obtain ⟨p0, c0, e0, _⟩ := hft.1.p.f
        obtain ⟨p1, c1, e1, _⟩ := hft.1.s.f
        obtain ⟨p2, c2, e2, _⟩ := hft.1.w.f
        exact ⟨⟨_, _, _, e0⟩, ⟨_, _, _, e1⟩, ⟨_, _, _, e2⟩⟩
      subst e0 e1 e2
      have HR : Hid (RdF w (.slice p0 n0 c0) (.slice p1 n1 c1) (.slice p2 n2 c2) ka ∧ s < 18446744073709551616) := hft
      have HD : Hid (∀ w9, Below w.heap.size w w9 → w9.cell? ⟨b, o + j * 4, none⟩ = some (.int .u64 (s : Nat)) ∧ w9.cell? ⟨b, o + j * 4 + 1, none⟩ = some (.slice p0 n0 c0) ∧ w9.cell? ⟨b, o + j * 4 + 2, none⟩ = some (.slice p1 n1 c1) ∧ w9.cell? ⟨b, o + j * 4 + 3, none⟩ = some (.slice p2 n2 c2)) := fun w9 h9 => ⟨(h9.cell (p := ⟨b, o + j * 4, none⟩) hbl).trans d0, (h9.cell (p := ⟨b, o + j * 4 + 1, none⟩) hbl).trans d1, (h9.cell (p := ⟨b, o + j * 4 + 2, none⟩) hbl).trans d2, (h9.cell (p := ⟨b, o + j * 4 + 3, none⟩) hbl).trans d3⟩
      clear hft d0 d1 d2 d3 hbl
      go_upto_region 8 with fail
      refine wp_region_L (fun w' => Below w.heap.size w w') 13 (by kernel_rfl) ?_
      have HPd : Hid (NtP w wr.drew lb mb vC' E' L u6 M) := HP.out.on ((Below.refl _ _).drew)
      generalize wr.drew = wd at *
      have HBd : Hid (Below w.heap.size w wd) := HPd.out.bel
      refine wpL_take (v := ?_) 0 rfl (by kernel_rfl) (fun _ _ _ h => h) (by rfl) ?_ HBd.out ?_
      rotate_left
      focus
        intro w9 hw9
        obtain ⟨a0, a1, a2, a3⟩ := HD.out w9 hw9
        go_simp
        try with_reducible rfl
      try simp only [Act.put, List.setIfInBounds_toArray, List.set_cons_zero, List.set_cons_succ]
      refine wpL_take (v := ?_) 1 rfl (by kernel_rfl) (fun _ _ _ h => h) (by rfl) ?_ HBd.out ?_
      rotate_left
      focus
        intro w9 hw9
        obtain ⟨a0, a1, a2, a3⟩ := HD.out w9 hw9
        go_simp
        try with_reducible rfl
      try simp only [Act.put, List.setIfInBounds_toArray, List.set_cons_zero, List.set_cons_succ]
      refine wpL_take (v := ?_) 2 rfl (by kernel_rfl) (fun _ _ _ h => h) (by rfl) ?_ HBd.out ?_
      rotate_left
      focus
        intro w9 hw9
        obtain ⟨a0, a1, a2, a3⟩ := HD.out w9 hw9
        go_simp
        try with_reducible rfl
      try simp only [Act.put, List.setIfInBounds_toArray, List.set_cons_zero, List.set_cons_succ]
      refine wpL_take (v := ?_) 3 rfl (by kernel_rfl) (fun _ _ _ h => h) (by rfl) ?_ HBd.out ?_
      rotate_left
      focus
        intro w9 hw9
        obtain ⟨a0, a1, a2, a3⟩ := HD.out w9 hw9
        go_simp
        try with_reducible rfl
      try simp only [Act.put, List.setIfInBounds_toArray, List.set_cons_zero, List.set_cons_succ]
      refine wpL_take (v := ?_) 4 rfl (by kernel_rfl) (fun _ _ _ h => h) (by rfl) ?_ HBd.out ?_
      rotate_left
      focus
        intro w9 hw9
        obtain ⟨a0, a1, a2, a3⟩ := HD.out w9 hw9
        go_simp
        try with_reducible rfl
      try simp only [Act.put, List.setIfInBounds_toArray, List.set_cons_zero, List.set_cons_succ]
      refine wpL_take (v := ?_) 5 rfl (by kernel_rfl) (fun _ _ _ h => h) (by rfl) ?_ HBd.out ?_
      rotate_left
      focus
        intro w9 hw9
        obtain ⟨a0, a1, a2, a3⟩ := HD.out w9 hw9
        go_simp
        try with_reducible rfl
      try simp only [Act.put, List.setIfInBounds_toArray, List.set_cons_zero, List.set_cons_succ]
      refine wpL_take (v := ?_) 6 rfl (by kernel_rfl) (fun _ _ _ h => h) (by rfl) ?_ HBd.out ?_
      rotate_left
      focus
        intro w9 hw9
        obtain ⟨a0, a1, a2, a3⟩ := HD.out w9 hw9
        go_simp
        try with_reducible rfl
      try simp only [Act.put, List.setIfInBounds_toArray, List.set_cons_zero, List.set_cons_succ]
      refine wpL_take (v := ?_) 7 rfl (by kernel_rfl) (fun _ _ _ h => h) (by rfl) ?_ HBd.out ?_
      rotate_left
      focus
        intro w9 hw9
        obtain ⟨a0, a1, a2, a3⟩ := HD.out w9 hw9
        go_simp
        try with_reducible rfl
      try simp only [Act.put, List.setIfInBounds_toArray, List.set_cons_zero, List.set_cons_succ]
      refine wpL_take (v := ?_) 8 rfl (by kernel_rfl) (fun _ _ _ h => h) (by rfl) ?_ HBd.out ?_
      rotate_left
      focus
        intro w9 hw9
        obtain ⟨a0, a1, a2, a3⟩ := HD.out w9 hw9
        go_simp
        try with_reducible rfl
      try simp only [Act.put, List.setIfInBounds_toArray, List.set_cons_zero, List.set_cons_succ]
      refine wpL_take (v := ?_) 9 rfl (by kernel_rfl) (fun _ _ _ h => h) (by rfl) ?_ HBd.out ?_
      rotate_left
      focus
        intro w9 hw9
        obtain ⟨a0, a1, a2, a3⟩ := HD.out w9 hw9
        go_simp
        try with_reducible rfl
      try simp only [Act.put, List.setIfInBounds_toArray, List.set_cons_zero, List.set_cons_succ]
      refine wpL_take (v := ?_) 10 rfl (by kernel_rfl) (fun _ _ _ h => h) (by rfl) ?_ HBd.out ?_
      rotate_left
      focus
        intro w9 hw9
        obtain ⟨a0, a1, a2, a3⟩ := HD.out w9 hw9
        go_simp
        try with_reducible rfl
      try simp only [Act.put, List.setIfInBounds_toArray, List.set_cons_zero, List.set_cons_succ]
      refine wpL_one 11 rfl (by kernel_rfl) (by rfl) ?_
      intro K2 hK2
      go_simp
      refine (note_any ka _ _ _ w.heap.size lb s vC' mb E' L wd HPd.out.log (HR.out.1.on HBd.out) HR.out.2).mono ?_
      rintro e w4 ⟨rfl, vC4, E4, L4, hX4, hN4, hF4⟩
      have HH : Hid (NtH w w4 lb mb vC4 E4 L L4 u6 M ⟨s, ka, .slice p0 n0 c0, .slice p1 n1 c1, .slice p2 n2 c2⟩) := HPd.out.half hX4 hN4 hF4
      have HBd4 : Hid (Below w.heap.size w w4) := HH.out.bel
      clear hX4 hN4 hF4 HPd HBd HP
      dsimp only
      refine hK2.out _ _ (fun _ => HBd4.out) ?_
      clear hK2 K2
      try simp only [Act.put, List.setIfInBounds_toArray, List.set_cons_zero, List.set_cons_succ]
      refine wpL_take (v := ?_) 12 rfl (by kernel_rfl) (fun _ _ _ h => h) (by rfl) ?_ HBd4.out ?_
      rotate_left
      focus
        intro w9 hw9

        go_simp
        try with_reducible rfl
      try simp only [Act.put, List.setIfInBounds_toArray, List.set_cons_zero, List.set_cons_succ]
      refine wpL_done (by kernel_rfl) ?_ _
      try simp only [NoPanic]
      obtain ⟨en, hen⟩ : ∃ en, noteE ka s (lastC L) L.length = en := ⟨_, rfl⟩
      rw [hen]
      have HEn : Hid (noteE ka s (lastC M) M.length = en) := by
        have h := HH.out.sam
        rw [h.last, h.len] at hen
        exact hen
      clear hen
      go_upto_region 9 with fail
      refine wp_region_L (fun w' => Below w.heap.size w w') 17 (by kernel_rfl) ?_
      have HHd : Hid (NtH w w4.drew lb mb vC4 E4 L L4 u6 M ⟨s, ka, .slice p0 n0 c0, .slice p1 n1 c1, .slice p2 n2 c2⟩) := HH.out.on ((Below.refl _ _).drew)
      clear HH HBd4
      generalize w4.drew = wd4 at *
      have HBd : Hid (Below w.heap.size w wd4) := HHd.out.bel
      refine wpL_take (v := ?_) 0 rfl (by kernel_rfl) (fun _ _ _ h => h) (by rfl) ?_ HBd.out ?_
      rotate_left
      focus
        intro w9 hw9
        obtain ⟨a0, a1, a2, a3⟩ := HD.out w9 hw9
        go_simp
        try with_reducible rfl
      try simp only [Act.put, List.setIfInBounds_toArray, List.set_cons_zero, List.set_cons_succ]
      refine wpL_take (v := ?_) 1 rfl (by kernel_rfl) (fun _ _ _ h => h) (by rfl) ?_ HBd.out ?_
      rotate_left
      focus
        intro w9 hw9
        obtain ⟨a0, a1, a2, a3⟩ := HD.out w9 hw9
        go_simp
        try with_reducible rfl
      try simp only [Act.put, List.setIfInBounds_toArray, List.set_cons_zero, List.set_cons_succ]
      refine wpL_take (v := ?_) 2 rfl (by kernel_rfl) (fun _ _ _ h => h) (by rfl) ?_ HBd.out ?_
      rotate_left
      focus
        intro w9 hw9
        obtain ⟨a0, a1, a2, a3⟩ := HD.out w9 hw9
        go_simp
        try with_reducible rfl
      try simp only [Act.put, List.setIfInBounds_toArray, List.set_cons_zero, List.set_cons_succ]
      refine wpL_take (v := ?_) 3 rfl (by kernel_rfl) (fun _ _ _ h => h) (by rfl) ?_ HBd.out ?_
      rotate_left
      focus
        intro w9 hw9
        obtain ⟨a0, a1, a2, a3⟩ := HD.out w9 hw9
        go_simp
        try with_reducible rfl
      try simp only [Act.put, List.setIfInBounds_toArray, List.set_cons_zero, List.set_cons_succ]
      refine wpL_take (v := ?_) 4 rfl (by kernel_rfl) (fun _ _ _ h => h) (by rfl) ?_ HBd.out ?_
      rotate_left
      focus
        intro w9 hw9
        obtain ⟨a0, a1, a2, a3⟩ := HD.out w9 hw9
        go_simp
        try with_reducible rfl
      try simp only [Act.put, List.setIfInBounds_toArray, List.set_cons_zero, List.set_cons_succ]
      refine wpL_take (v := ?_) 5 rfl (by kernel_rfl) (fun _ _ _ h => h) (by rfl) ?_ HBd.out ?_
      rotate_left
      focus
        intro w9 hw9
        obtain ⟨a0, a1, a2, a3⟩ := HD.out w9 hw9
        go_simp
        try with_reducible rfl
      try simp only [Act.put, List.setIfInBounds_toArray, List.set_cons_zero, List.set_cons_succ]
      refine wpL_take (v := ?_) 6 rfl (by kernel_rfl) (fun _ _ _ h => h) (by rfl) ?_ HBd.out ?_
      rotate_left
      focus
        intro w9 hw9
        obtain ⟨a0, a1, a2, a3⟩ := HD.out w9 hw9
        go_simp
        try with_reducible rfl
      try simp only [Act.put, List.setIfInBounds_toArray, List.set_cons_zero, List.set_cons_succ]
      refine wpL_take (v := ?_) 7 rfl (by kernel_rfl) (fun _ _ _ h => h) (by rfl) ?_ HBd.out ?_
      rotate_left
      focus
        intro w9 hw9
        obtain ⟨a0, a1, a2, a3⟩ := HD.out w9 hw9
        go_simp
        try with_reducible rfl
      try simp only [Act.put, List.setIfInBounds_toArray, List.set_cons_zero, List.set_cons_succ]
      refine wpL_take (v := ?_) 8 rfl (by kernel_rfl) (fun _ _ _ h => h) (by rfl) ?_ HBd.out ?_
      rotate_left
      focus
        intro w9 hw9
        obtain ⟨a0, a1, a2, a3⟩ := HD.out w9 hw9
        go_simp
        try with_reducible rfl
      try simp only [Act.put, List.setIfInBounds_toArray, List.set_cons_zero, List.set_cons_succ]
      refine wpL_take (v := ?_) 9 rfl (by kernel_rfl) (fun _ _ _ h => h) (by rfl) ?_ HBd.out ?_
      rotate_left
      focus
        intro w9 hw9
        obtain ⟨a0, a1, a2, a3⟩ := HD.out w9 hw9
        go_simp
        try with_reducible rfl
      try simp only [Act.put, List.setIfInBounds_toArray, List.set_cons_zero, List.set_cons_succ]
      refine wpL_take (v := ?_) 10 rfl (by kernel_rfl) (fun _ _ _ h => h) (by rfl) ?_ HBd.out ?_
      rotate_left
      focus
        intro w9 hw9
        obtain ⟨a0, a1, a2, a3⟩ := HD.out w9 hw9
        go_simp
        try with_reducible rfl
      try simp only [Act.put, List.setIfInBounds_toArray, List.set_cons_zero, List.set_cons_succ]
      refine wpL_one 11 rfl (by kernel_rfl) (by rfl) ?_
      intro K2 hK2
      go_simp
      refine (rnote_any ka _ _ _ w.heap.size s _ M wd4 (HHd.out.doc.doc HBd.out) HHd.out.inv.len (HR.out.1.on HBd.out) HR.out.2 HBd.out.size).mono ?_
      rintro e w5 ⟨v5, M5, rfl, hD5, hN5, hb5⟩
      have HP5 : Hid (NtP w w5 lb mb vC4 E4 L4 v5 M5) := HHd.out.full HR.out.1 hD5 hN5 hb5
      have HBd5 : Hid (Below w.heap.size w w5) := HP5.out.bel
      rw [HEn.out]
      clear hD5 hN5 hb5 HHd HBd
      dsimp only
      refine hK2.out _ _ (fun _ => HBd5.out) ?_
      clear hK2 K2
      try simp only [Act.put, List.setIfInBounds_toArray, List.set_cons_zero, List.set_cons_succ]
      refine wpL_take (v := ?_) 12 rfl (by kernel_rfl) (fun _ _ _ h => h) (by rfl) ?_ HBd5.out ?_
      rotate_left
      focus
        intro w9 hw9

        go_simp
        try with_reducible rfl
      try simp only [Act.put, List.setIfInBounds_toArray, List.set_cons_zero, List.set_cons_succ]
      refine wpL_take (v := ?_) 13 rfl (by kernel_rfl) (fun _ _ _ h => h) (by rfl) ?_ HBd5.out ?_
      rotate_left
      focus
        intro w9 hw9

        go_simp
        try with_reducible rfl
      try simp only [Act.put, List.setIfInBounds_toArray, List.set_cons_zero, List.set_cons_succ]
      refine wpL_take (v := ?_) 14 rfl (by kernel_rfl) (fun _ _ _ h => h) (by rfl) ?_ HBd5.out ?_
      rotate_left
      focus
        intro w9 hw9

        go_simp
        try with_reducible rfl
      try simp only [Act.put, List.setIfInBounds_toArray, List.set_cons_zero, List.set_cons_succ]
      refine wpL_take (v := ?_) 15 rfl (by kernel_rfl) (fun _ _ _ h => h) (by rfl) ?_ HBd5.out ?_
      rotate_left
      focus
        intro w9 hw9

        go_simp
        try with_reducible rfl
      try simp only [Act.put, List.setIfInBounds_toArray, List.set_cons_zero, List.set_cons_succ]
      refine wpL_take (v := ?_) 16 rfl (by kernel_rfl) (fun _ _ _ h => h) (by rfl) ?_ HBd5.out ?_
      rotate_left
      focus
        intro w9 hw9

        go_simp
        try with_reducible rfl
      try simp only [Act.put, List.setIfInBounds_toArray, List.set_cons_zero, List.set_cons_succ]
      refine wpL_done (by kernel_rfl) ?_ _
      try simp only [NoPanic]
      clear HBd5 HEn HR HD
      go_wp2_with fail
      go_roundw
      case rel => exact ⟨j + 1, vC4, E4, L4, M5, hj1, by go_num, HP5⟩
      case measure => simp [intOf]; omega

end Go.Proofs.YtcknhjabdjbjiabGreat
