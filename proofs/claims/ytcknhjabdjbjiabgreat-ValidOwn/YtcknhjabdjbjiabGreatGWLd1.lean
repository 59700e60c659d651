/- The document's commits: lists of stamps and what was written. The document's Note. -/
import Derived.Laws.AppendOwnNone
import Derived.Test.YtcknhjabdjbjiabGreatGWLg11
namespace Go.Proofs.YtcknhjabdjbjiabGreat
open Go.RowKit
set_option maxRecDepth 100000

theorem info_D : (Tryz.prog.info? 79).map (fun i => (i.zero, i.size, i.bytes)) = some (some (.agg #[.int .u64 0, .slice none 0 0]), 2, 32) := by kernel_rfl
def dcells (M : List Cm) : List Value := M.flatMap (fun c => [.int .u64 (c.s : Nat), c.v2])
/-- the document's commits in a row of one's own -/
def OwnD (w : World) (B : Nat) (v : Value) (M : List Cm) : Prop := w.ownsRow B 79 2 v M.length (dcells M)
theorem OwnD.nil (w : World) (B : Nat) : OwnD w B (.slice none 0 0) [] := World.ownsRow_nil w B _ _
theorem dcells_append (L M : List Cm) : dcells (L ++ M) = dcells L ++ dcells M := by unfold dcells; exact List.flatMap_append
theorem dcells_len (L : List Cm) : (dcells L).length = L.length * 2 := by
  induction L with
  | nil => rfl
  | cons c L ih =>
    have e : dcells (c :: L) = .int .u64 (c.s : Nat) :: c.v2 :: dcells L := rfl
    rw [e, List.length_cons, List.length_cons, ih, List.length_cons]
    omega
theorem dcells_at {L : List Cm} : ∀ {i : Nat} (hi : i < L.length), (dcells L)[i * 2]? = some (.int .u64 (L[i].s : Nat)) ∧ (dcells L)[i * 2 + 1]? = some L[i].v2 := by
  induction L with
  | nil => intro i hi; simp at hi
  | cons c L ih =>
    intro i hi
    cases i with
    | zero => exact ⟨rfl, rfl⟩
    | succ i =>
      have e : (i + 1) * 2 = i * 2 + 1 + 1 := by omega
      have hc : dcells (c :: L) = .int .u64 (c.s : Nat) :: c.v2 :: dcells L := rfl
      rw [e, hc]
      simp only [List.getElem?_cons_succ, List.getElem_cons_succ]
      exact ih (by simpa using hi)
def RowD (w : World) (p : Option Addr) (L : List Cm) : Prop := ∀ i (hi : i < L.length), ∃ b o, p = some ⟨b, o, none⟩ ∧ b < w.heap.size ∧ w.cell? ⟨b, o + i * 2, none⟩ = some (.int .u64 (L[i].s : Nat)) ∧ w.cell? ⟨b, o + i * 2 + 1, none⟩ = some L[i].v2
theorem RowD.on {w w' : World} {p : Option Addr} {L : List Cm} (h : RowD w p L) (hb : Below w.heap.size w w') : RowD w' p L := by
  intro i hi
  obtain ⟨b, o, e, hbB, c0, c1⟩ := h i hi
  have k : ∀ {o : Nat} {v : Option Value}, w.cell? ⟨b, o, none⟩ = v → w'.cell? ⟨b, o, none⟩ = v := fun {o v} hc => (hb.cell (p := ⟨b, o, none⟩) hbB).trans hc
  exact ⟨b, o, e, Nat.lt_of_lt_of_le hbB hb.size, k c0, k c1⟩
theorem OwnD.row {w : World} {B : Nat} {v : Value} {L : List Cm} (h : OwnD w B v L) : ∃ p c, v = .slice p L.length c ∧ L.length ≤ c ∧ (p = none → L = [] ∧ c = 0) ∧ RowD w p L := by
  rcases (show w.ownsRow B 79 2 v L.length (dcells L) from h).2 with ⟨rfl, h0⟩ | ⟨g, cap, cur, rfl, hB, hgb, hc, _, hsz, htk⟩
  · have : L = [] := List.eq_nil_of_length_eq_zero h0
    subst this
    exact ⟨none, 0, rfl, Nat.le_refl _, fun _ => ⟨rfl, rfl⟩, fun i hi => absurd hi (by simp)⟩
  · refine ⟨some ⟨g, 0, none⟩, cap, rfl, hc, (fun h => by cases h), fun i hi => ⟨g, 0, rfl, (Array.getElem?_eq_some_iff.1 hgb).1, ?_⟩⟩
    obtain ⟨k0, k1⟩ := dcells_at hi
    have hk : ∀ (j : Nat) (y : Value), j < L.length * 2 → (dcells L)[j]? = some y → w.cell? ⟨g, 0 + j, none⟩ = some y := fun j y hj hy => by
      rw [← htk, List.getElem?_take_of_lt hj, Array.getElem?_toList] at hy
      rw [Nat.zero_add]
      exact (show Blk w g cur 79 from hgb).cell hy
    exact ⟨hk _ _ (by omega) k0, hk _ _ (by omega) k1⟩
theorem OwnD.blk {w : World} {B : Nat} {v : Value} {L : List Cm} (h : OwnD w B v L) {g : Nat} (hg : v.ownBlock = some g) : B ≤ g ∧ ∃ cur, w.heap[g]? = some (.cells cur 79 (0, 0)) := by
  rcases (show w.ownsRow B 79 2 v L.length (dcells L) from h).2 with ⟨rfl, _⟩ | ⟨g', cap, cur, rfl, hB, hgb, _⟩
  · cases hg
  · cases hg
    exact ⟨hB, cur, hgb⟩
theorem OwnD.on {w w' : World} {B : Nat} {v : Value} {L : List Cm} (h : OwnD w B v L) (hb : Below w.heap.size w w') : OwnD w' B v L := ownsRow_by h (fun _ _ _ hg => hb.block _ (Array.getElem?_eq_some_iff.1 hg).1)
theorem OwnD.fb {w w' : World} {B C : Nat} {v : Value} {L : List Cm} (h : OwnD w B v L) (hf : Frm w w' (FB C w)) : OwnD w' B v L := ownsRow_by h (fun _ _ _ hg => FB.other hf hg (by decide))
theorem RowD.cellsA {w : World} {ad : Addr} {L : List Cm} (h : RowD w (some ad) L) : ∀ (j : Nat) (y : Value), (dcells L)[j]? = some y → w.cell? (ad.add j) = some y := by
  intro j y hj
  have hl : j < L.length * 2 := by
    have := (List.getElem?_eq_some_iff.1 hj).1
    rw [dcells_len] at this
    exact this
  obtain ⟨k, hk⟩ : ∃ k, j = k * 2 ∨ j = k * 2 + 1 := ⟨j / 2, by omega⟩
  have hi : k < L.length := by omega
  obtain ⟨b, o, e, _, c0, c1⟩ := h k hi
  cases e
  have ea : (⟨b, o, none⟩ : Addr).add j = ⟨b, o + j, none⟩ := by unfold Addr.add; split <;> simp_all
  rw [ea]
  obtain ⟨k0, k1⟩ := dcells_at hi
  rcases hk with rfl | rfl
  · rw [k0] at hj
    cases hj
    exact c0
  · rw [k1] at hj
    cases hj
    exact c1
/-- the document's commits -/
structure DocC (w : World) (B : Nat) (v : Value) (M : List Cm) : Prop where
  own : OwnD w B v M
  ft : ∀ c ∈ M, (SlP w c.v2 c.W ∧ c.W.length ≤ 4398046511104) ∧ c.v0 = .slice none 0 0 ∧ c.v1 = .slice none 0 0
theorem DocC.on {w w' : World} {B : Nat} {v : Value} {M : List Cm} (h : DocC w B v M) (hb : Below w.heap.size w w') : DocC w' B v M := ⟨h.own.on hb, fun c hc => ⟨⟨(h.ft c hc).1.1.on hb, (h.ft c hc).1.2⟩, (h.ft c hc).2⟩⟩
theorem SlP.one' {w : World} {v : Value} {L : List Pt} (h : SlP w v L) : v.oneCell' = true := by
  obtain ⟨p, c, rfl, _⟩ := h.f
  rfl
theorem dcells_one {w : World} {B : Nat} {v : Value} {M : List Cm} (h : DocC w B v M) : ∀ y ∈ dcells M, y.oneCell' = true := by
  intro y hy
  unfold dcells at hy
  obtain ⟨c, hc, h2⟩ := List.mem_flatMap.1 hy
  simp only [List.mem_cons, List.not_mem_nil, or_false] at h2
  rcases h2 with rfl | rfl
  · rfl
  · exact (h.ft c hc).1.1.one'
/-- 'append(nil, M...)' -/
theorem wpList_appLD {ops : Array Oper} {rest : List Oper} {o : Oper} {a : Act} {Q : Exit → Act → World → Prop} (w : World) (hgd : o.guard = none) (s x : Operand)
    (ho : o.op = .call { callee := .builtin .append, args := #[s, x], argTypes := #[32, 32] })
    (B : Nat) (v : Value) (R : List Cm) (C : Nat) (hs : a.eval s = .slice none 0 0) (hx : a.eval x = v) (hR : DocC w C v R)
    (hl2 : R.length ≤ 200000) (hbase : B ≤ w.heap.size)
    (h : ∀ v' w', OwnD w' B v' R → Below w.heap.size w w' → wpList Tryz.prog ops Q rest (a.put o.dst v') w') : wpList Tryz.prog ops Q (o :: rest) a w := by
  obtain ⟨i, hi, hz0, hz1, hz2⟩ := info_parts info_D
  obtain ⟨p, c, rfl, h1, h2, h3⟩ := hR.own.row
  cases p with
  | none =>
    obtain ⟨rfl, rfl⟩ := h2 rfl
    exact wpList_append_own_none hgd s x _ ho B 79 i 2 Tryz.underlying32 hi _ _ _ hs (OwnD.nil w B) hx (h _ w (OwnD.nil w B) (Below.refl _ _))
  | some ad =>
    refine wpList_append_own _ hgd s x 32 ho B 79 i (.agg #[.int .u64 0, .slice none 0 0]) 2 32 Tryz.underlying32 hi hz0 hz1 hz2 rfl (by decide) _ 0 _ hs (OwnD.nil w B) ad R.length c (dcells R) hx (by rw [dcells_len]) h3.cellsA (dcells_one hR) (by unfold maxLen; omega) (by omega) hbase ?_
    intro v' w' h1 h2 _
    refine h v' w' ?_ ((Below.refl _ _).grown h2 (Nat.le_refl _) (fun k hk => by cases hk))
    unfold OwnD
    have e : dcells [] ++ dcells R = dcells R := rfl
    rw [e, Nat.zero_add] at h1
    exact h1
/-- 'append(l, Commit{..})' -/
theorem wpList_appD1 {ops : Array Oper} {rest : List Oper} {o : Oper} {a : Act} {Q : Exit → Act → World → Prop} (w : World) (hgd : o.guard = none) (s x : Operand)
    (ho : o.op = .call { callee := .builtin .append, args := #[s, x], argTypes := #[32, 32] })
    (B : Nat) (v : Value) (L : List Cm) (hs : a.eval s = v) (hown : OwnD w B v L)
    (u : Cm) (hu : u.v2.oneCell' = true) (g : Nat) (hx : a.eval x = .slice (some ⟨g, 0, none⟩) 1 1) (hC : Blk w g #[.int .u64 (u.s : Nat), u.v2] 79)
    (hlen : L.length + 1 ≤ 200000) (hbase : B ≤ w.heap.size)
    (h : ∀ v' w', OwnD w' B v' (L ++ [u]) → Below B w w' → wpList Tryz.prog ops Q rest (a.put o.dst v') w') : wpList Tryz.prog ops Q (o :: rest) a w := by
  obtain ⟨i, hi, hz0, hz1, hz2⟩ := info_parts info_D
  refine wpList_append_own _ hgd s x 32 ho B 79 i (.agg #[.int .u64 0, .slice none 0 0]) 2 32 Tryz.underlying32 hi hz0 hz1 hz2 rfl (by decide) v L.length (dcells L) hs hown ⟨g, 0, none⟩ 1 1 (dcells [u]) hx rfl ?_ ?_ (by unfold maxLen; omega) (by omega) hbase ?_
  · intro j y hj
    have hj' : j < 2 := by
      have := (List.getElem?_eq_some_iff.1 hj).1
      simpa [dcells] using this
    have e : (⟨g, 0, none⟩ : Addr).add j = ⟨g, j, none⟩ := by unfold Addr.add; split <;> simp_all
    rw [e]
    have h4 : j = 0 ∨ j = 1 := by omega
    rcases h4 with rfl | rfl <;> (simp [dcells] at hj; subst hj; exact hC.cell rfl)
  · intro y hy
    simp [dcells] at hy
    rcases hy with rfl | rfl
    · rfl
    · exact hu
  · intro v' w' h1 h2 _
    refine h v' w' ?_ ((Below.refl _ _).grown h2 hbase (fun k hk => (World.ownsRow.lt hown k hk).1))
    unfold OwnD
    rw [dcells_append, List.length_append]
    exact h1

end Go.Proofs.YtcknhjabdjbjiabGreat

namespace Go.Proofs.YtcknhjabdjbjiabGreat
open Go.RowKit
set_option maxRecDepth 100000

/-- what the document's Note makes of the commits -/
def NtD (a : Ft) (s : Nat) (va2 : Value) (M M' : List Cm) : Prop := (noteE a s (lastC M) M.length ≠ 0 → M' = M) ∧ (noteE a s (lastC M) M.length = 0 → M' = M ++ [⟨s, .slice none 0 0, .slice none 0 0, va2, a.W⟩])
theorem NtD.refl {a : Ft} {s : Nat} {va2 : Value} {L : List Cm} (h : noteE a s (lastC L) L.length ≠ 0) : NtD a s va2 L L := ⟨fun _ => rfl, fun h2 => absurd h2 h⟩
theorem DocC.drop {w : World} {B : Nat} {v : Value} {M : List Cm} (h : DocC w B v M) : ∃ p c, v = .slice p M.length c ∧ RowD w p M := by
  obtain ⟨p, c, e, _, _, h3⟩ := h.own.row
  exact ⟨p, c, e, h3⟩
theorem OwnD.mono {w : World} {B C : Nat} {v : Value} {L : List Cm} (h : OwnD w B v L) (hb : C ≤ B) : OwnD w C v L := by
  refine ⟨h.1, ?_⟩
  rcases h.2 with h1 | ⟨g, cap, cur, e, hb', r⟩
  · exact .inl h1
  · exact .inr ⟨g, cap, cur, e, Nat.le_trans hb hb', r⟩
set_option maxHeartbeats 8000000 in
theorem rnote_any (a : Ft) (va0 va1 va2 : Value) (B s : Nat) (v : Value) (M : List Cm) (w : World) (hX : DocC w B v M) (hl : M.length ≤ 4096) (ha : RdF w va0 va1 va2 a) (hs : s < 18446744073709551616) (hB : B ≤ w.heap.size) :
    Calls Tryz.prog 18 #[v, .int .u64 (s : Nat), .agg #[va0, va1, va2]] w fun e w' => ∃ v' M', e = .returned (.tuple #[v', .int .i64 (noteE a s (lastC M) M.length)]) ∧ DocC w' B v' M' ∧ NtD a s va2 M M' ∧ Below w.heap.size w w' := by
  obtain ⟨p0, c0, e0, -⟩ := ha.p.f
  obtain ⟨p1, c1, e1, -⟩ := ha.s.f
  obtain ⟨p2, c2, e2, -⟩ := ha.w.f
  obtain ⟨n0, hn0⟩ : ∃ n, a.P.length = n := ⟨_, rfl⟩
  obtain ⟨n1, hn1⟩ : ∃ n, a.S.length = n := ⟨_, rfl⟩
  obtain ⟨n2, hn2⟩ : ∃ n, a.W.length = n := ⟨_, rfl⟩
  rw [hn0] at e0
  rw [hn1] at e1
  rw [hn2] at e2
  subst e0 e1 e2
  clear hn0 hn1 hn2
  obtain ⟨w1, hw1⟩ : ∃ w1, w.alloc (.cells #[.slice p0 n0 c0, .slice p1 n1 c1, .slice p2 n2 c2] 27) = w1 := ⟨_, rfl⟩
  have HB1 : Hid (Below w.heap.size w w1) := by rw [← hw1]; exact (Below.refl _ _).alloc (Nat.le_refl _) _
  have HKA : Hid (Blk w1 w.heap.size #[.slice p0 n0 c0, .slice p1 n1 c1, .slice p2 n2 c2] 27) := by rw [← hw1]; exact Blk.new w _ _
  obtain ⟨pm, cm, rfl, -⟩ := hX.drop
  obtain ⟨n, hn⟩ : ∃ n, M.length = n := ⟨_, rfl⟩
  have HX1 : Hid (DocC w1 B (.slice pm n cm) M) := by rw [← hn]; exact hX.on HB1.out
  rw [hn]
  rw [hn] at hl
  have HA1 : Hid (RdF w1 _ _ _ a) := ha.on HB1.out
  have CC : Hid (Calls _ _ _ _ _) := rcheck_any a _ _ _ w1 HA1.out
  have k0 := HKA.out.cell (i := 0) rfl
  have k1 := HKA.out.cell (i := 1) rfl
  have k2 := HKA.out.cell (i := 2) rfl
  have HLn : Hid (M.length = n) := hn
  clear hX ha
  by_cases hca : chkF a = 0
  · rw [hca] at CC
    by_cases h1 : s = 0 ∨ 4611686018427387904 < s
    · have HN : Hid (noteE a s (lastC M) n = 1) := note1 hca h1
      rcases h1 with h1 | h1
      · subst h1
        go_enter Tryz.func18, Tryz.ntmps18
        go_wp2_with fail
        refine CC.out.mono ?_
        rintro e w2 ⟨rfl, hb2⟩
        clear CC k0 k1 k2 hw1
        have HB2 : Hid (Below w.heap.size w w2) := HB1.out.trans (hb2.mono HB1.out.size)
        have HX2 : Hid (DocC w2 B (.slice pm n cm) M) := HX1.out.on hb2
        have HA2 : Hid (RdF w2 _ _ _ a) := HA1.out.on hb2
        have HKA2 : Hid (Blk w2 w.heap.size #[.slice p0 n0 c0, .slice p1 n1 c1, .slice p2 n2 c2] 27) := HKA.out.on hb2
        clear hb2 HB1 HX1 HA1 HKA
        go_wp2_with fail
        refine bodyPost_ret (v := .tuple #[(.slice pm n cm), .int .i64 (1)]) (by simp [results, Tryz.results18, go_sem]) rfl ?_
        exact ⟨_, _, by rw [HN.out], HX2.out, NtD.refl (by rw [HLn.out, HN.out]; decide), HB2.out⟩
      · have d1 : decide ((s : Int) < 1) = false := decide_eq_false (by omega)
        have d2 : ¬ s < 1 := by omega
        have d3 : decide ((4611686018427387904 : Int) < (s : Int)) = true := decide_eq_true (by omega)
        clear hca h1
        go_enter Tryz.func18, Tryz.ntmps18
        go_wp2_with fail
        refine CC.out.mono ?_
        rintro e w2 ⟨rfl, hb2⟩
        clear CC k0 k1 k2 hw1
        have HB2 : Hid (Below w.heap.size w w2) := HB1.out.trans (hb2.mono HB1.out.size)
        have HX2 : Hid (DocC w2 B (.slice pm n cm) M) := HX1.out.on hb2
        have HA2 : Hid (RdF w2 _ _ _ a) := HA1.out.on hb2
        have HKA2 : Hid (Blk w2 w.heap.size #[.slice p0 n0 c0, .slice p1 n1 c1, .slice p2 n2 c2] 27) := HKA.out.on hb2
        clear hb2 HB1 HX1 HA1 HKA
        go_wp2_with fail
        refine bodyPost_ret (v := .tuple #[(.slice pm n cm), .int .i64 (1)]) (by simp [results, Tryz.results18, go_sem]) rfl ?_
        exact ⟨_, _, by rw [HN.out], HX2.out, NtD.refl (by rw [HLn.out, HN.out]; decide), HB2.out⟩
    · by_cases hn0 : n = 0
      · subst hn0
        have hM0 : M = [] := List.eq_nil_of_length_eq_zero hn
        have hla0 : lastC M = 0 := by rw [hM0]; rfl
        have HN : Hid (noteE a s (lastC M) 0 = 0) := note4 hca h1 (by omega) (by omega)
        have HL5 : Hid (M.length + 1 ≤ 200000) := by show M.length + 1 ≤ 200000; omega
        clear hM0 hla0
        have d1 : decide ((s : Int) < 1) = false := decide_eq_false (by omega)
        have d2 : ¬ s < 1 := by omega
        have d3 : decide ((4611686018427387904 : Int) < (s : Int)) = false := decide_eq_false (by omega)
        clear hca h1
        go_enter Tryz.func18, Tryz.ntmps18
        go_wp2_with fail
        refine CC.out.mono ?_
        rintro e w2 ⟨rfl, hb2⟩
        clear CC k0 k1 k2 hw1
        have HB2 : Hid (Below w.heap.size w w2) := HB1.out.trans (hb2.mono HB1.out.size)
        have HX2 : Hid (DocC w2 B (.slice pm 0 cm) M) := HX1.out.on hb2
        have HA2 : Hid (RdF w2 _ _ _ a) := HA1.out.on hb2
        have HKA2 : Hid (Blk w2 w.heap.size #[.slice p0 n0 c0, .slice p1 n1 c1, .slice p2 n2 c2] 27) := HKA.out.on hb2
        clear hb2 hn HB1 HX1 HA1 HKA
        have g2 := HKA2.out.cell (i := 2) rfl
        go_wp2_with (first
          | (at_builtin
             refine wpList_appLD w2 rfl _ _ rfl w2.heap.size _ M B rfl rfl HX2.out (Nat.le_of_succ_le HL5.out) (Nat.le_refl _) ?_
             intro v3 w3 h3 hb3
             have HO3 : Hid (OwnD w3 w2.heap.size v3 M) := h3
             have HB3 : Hid (Below w2.heap.size w2 w3) := hb3
             obtain ⟨w4, hw4⟩ : ∃ w4, w3.alloc (.cells #[.int .u64 (s : Nat), .slice p2 n2 c2] 79) = w4 := ⟨_, rfl⟩
             have HK4 : Hid (Blk w4 w3.heap.size #[.int .u64 (s : Nat), .slice p2 n2 c2] 79) := by rw [← hw4]; exact Blk.new w3 _ _
             have HB4 : Hid (Below w3.heap.size w3 w4) := by rw [← hw4]; exact (Below.refl _ _).alloc (Nat.le_refl _) _
             have HO4 : Hid (OwnD w4 w2.heap.size v3 M) := HO3.out.on HB4.out
             have g2 := (HKA2.out.on HB3.out).cell (i := 2) rfl
             have HBw4 : Hid (w2.heap.size ≤ w4.heap.size) := Nat.le_trans HB3.out.size HB4.out.size
             clear h3 hb3)
          | (at_builtin
             refine wpList_appD1 w4 rfl _ _ rfl w2.heap.size v3 M rfl HO4.out ⟨s, .slice none 0 0, .slice none 0 0, .slice p2 n2 c2, a.W⟩ rfl w3.heap.size rfl HK4.out HL5.out HBw4.out ?_
             intro v5 w5 h5 hb5
             have HO5 : Hid (OwnD w5 w2.heap.size v5 (M ++ [⟨s, .slice none 0 0, .slice none 0 0, .slice p2 n2 c2, a.W⟩])) := h5
             have HB5 : Hid (Below w2.heap.size w4 w5) := hb5
             clear h5 hb5))
        refine bodyPost_ret (v := .tuple #[v5, .int .i64 0]) (by simp [results, Tryz.results18, go_sem]) rfl ?_
        have hb5 : Below w2.heap.size w2 w5 := (HB3.out.trans (HB4.out.mono HB3.out.size)).trans HB5.out
        refine ⟨_, _, by rw [HN.out], ⟨HO5.out.mono (Nat.le_trans hB HB2.out.size), fun c hc => ?_⟩, ⟨fun h => absurd (by rw [HLn.out]; exact HN.out) h, fun _ => rfl⟩, HB2.out.trans (hb5.mono HB2.out.size)⟩
        rcases List.mem_append.1 hc with hc | hc
        · exact (HX2.out.on hb5).ft c hc
        · rw [List.mem_singleton] at hc
          subst hc
          exact ⟨⟨(HA2.out.on hb5).w, HA2.out.lw⟩, rfl, rfl⟩
      · obtain ⟨m, hm⟩ : ∃ m, n = m + 1 := ⟨n - 1, by omega⟩
        have hlm : m < M.length := by omega
        have e0 : lastC M = M[m].s := by
          unfold lastC
          rw [List.getLast?_eq_getElem?, List.getElem?_eq_getElem (by omega)]
          simp only [hn, hm, Nat.add_sub_cancel]
        obtain ⟨b, o, rfl⟩ : ∃ b o, pm = some ⟨b, o, none⟩ := by
          obtain ⟨p, c, e, _, _, h3⟩ := HX1.out.own.row
          obtain ⟨b, o, e2, _⟩ := h3 m hlm
          cases e
          exact ⟨b, o, e2⟩
        have hwr : IntKind.i64.wrap ((n : Int) - 1) = (m : Int) := by rw [IntKind.wrap_i64]; omega
        have hmn : m < n := by omega
        have hnp : 0 < n := by omega
        obtain ⟨x, hx⟩ : ∃ x, lastC M = x := ⟨_, rfl⟩
        have HD : Hid (∀ w', DocC w' B (.slice (some ⟨b, o, none⟩) n cm) M → w'.cell? ⟨b, o + m * 2, none⟩ = some (.int .u64 (x : Nat))) := fun w' h => by
          obtain ⟨p, c, e, _, _, h3⟩ := h.own.row
          obtain ⟨b', o', e2, _, h4, _⟩ := h3 m hlm
          cases e
          cases e2
          rw [h4, ← hx, e0]
        by_cases h2 : s ≤ lastC M
        · have HN : Hid (noteE a s (lastC M) n = 81) := note2 hca h1 h2
          have d4 : s ≤ x := by omega
          have d1 : decide ((s : Int) < 1) = false := decide_eq_false (by omega)
          have d2 : ¬ s < 1 := by omega
          have d3 : decide ((4611686018427387904 : Int) < (s : Int)) = false := decide_eq_false (by omega)
          clear hca h1 h2 hx e0 hm hn0 hl hn hlm
          go_enter Tryz.func18, Tryz.ntmps18
          go_wp2_with fail
          refine CC.out.mono ?_
          rintro e w2 ⟨rfl, hb2⟩
          clear CC k0 k1 k2 hw1
          have HB2 : Hid (Below w.heap.size w w2) := HB1.out.trans (hb2.mono HB1.out.size)
          have HX2 : Hid (DocC w2 B (.slice (some ⟨b, o, none⟩) n cm) M) := HX1.out.on hb2
          have HA2 : Hid (RdF w2 _ _ _ a) := HA1.out.on hb2
          have HKA2 : Hid (Blk w2 w.heap.size #[.slice p0 n0 c0, .slice p1 n1 c1, .slice p2 n2 c2] 27) := HKA.out.on hb2
          clear hb2 HB1 HX1 HA1 HKA
          have g1 := HD.out w2 HX2.out
          go_wp2_with fail
          refine bodyPost_ret (v := .tuple #[(.slice (some ⟨b, o, none⟩) n cm), .int .i64 (81)]) (by simp [results, Tryz.results18, go_sem]) rfl ?_
          exact ⟨_, _, by rw [HN.out], HX2.out, NtD.refl (by rw [HLn.out, HN.out]; decide), HB2.out⟩
        · have d4 : x < s := by omega
          by_cases h3 : 4096 ≤ n
          · have HN : Hid (noteE a s (lastC M) n = 2) := note3 hca h1 h2 h3
            have hn4 : n = 4096 := by omega
            have hm4 : m = 4095 := by omega
            subst hn4
            subst hm4
            have d1 : decide ((s : Int) < 1) = false := decide_eq_false (by omega)
            have d2 : ¬ s < 1 := by omega
            have d3 : decide ((4611686018427387904 : Int) < (s : Int)) = false := decide_eq_false (by omega)
            clear hca h1 h2 hx e0 hm hn0 hl hn hlm h3 hwr hmn hnp
            go_enter Tryz.func18, Tryz.ntmps18
            go_wp2_with fail
            refine CC.out.mono ?_
            rintro e w2 ⟨rfl, hb2⟩
            clear CC k0 k1 k2 hw1
            have HB2 : Hid (Below w.heap.size w w2) := HB1.out.trans (hb2.mono HB1.out.size)
            have HX2 : Hid (DocC w2 B (.slice (some ⟨b, o, none⟩) 4096 cm) M) := HX1.out.on hb2
            have HA2 : Hid (RdF w2 _ _ _ a) := HA1.out.on hb2
            have HKA2 : Hid (Blk w2 w.heap.size #[.slice p0 n0 c0, .slice p1 n1 c1, .slice p2 n2 c2] 27) := HKA.out.on hb2
            clear hb2 HB1 HX1 HA1 HKA
            have g1 := HD.out w2 HX2.out
            go_wp2_with fail
            refine bodyPost_ret (v := .tuple #[(.slice (some ⟨b, o, none⟩) 4096 cm), .int .i64 (2)]) (by simp [results, Tryz.results18, go_sem]) rfl ?_
            exact ⟨_, _, by rw [HN.out], HX2.out, NtD.refl (by rw [HLn.out, HN.out]; decide), HB2.out⟩
          · have HN : Hid (noteE a s (lastC M) n = 0) := note4 hca h1 h2 h3
            have d5 : decide ((4096 : Int) ≤ (n : Int)) = false := decide_eq_false (by omega)
            have HL5 : Hid (M.length + 1 ≤ 200000) := by show M.length + 1 ≤ 200000; omega
            have d1 : decide ((s : Int) < 1) = false := decide_eq_false (by omega)
            have d2 : ¬ s < 1 := by omega
            have d3 : decide ((4611686018427387904 : Int) < (s : Int)) = false := decide_eq_false (by omega)
            clear hca h1 h2 hx e0 hm hn0 hl hn hlm h3
            go_enter Tryz.func18, Tryz.ntmps18
            go_wp2_with fail
            refine CC.out.mono ?_
            rintro e w2 ⟨rfl, hb2⟩
            clear CC k0 k1 k2 hw1
            have HB2 : Hid (Below w.heap.size w w2) := HB1.out.trans (hb2.mono HB1.out.size)
            have HX2 : Hid (DocC w2 B (.slice (some ⟨b, o, none⟩) n cm) M) := HX1.out.on hb2
            have HA2 : Hid (RdF w2 _ _ _ a) := HA1.out.on hb2
            have HKA2 : Hid (Blk w2 w.heap.size #[.slice p0 n0 c0, .slice p1 n1 c1, .slice p2 n2 c2] 27) := HKA.out.on hb2
            clear hb2 HB1 HX1 HA1 HKA
            have g1 := HD.out w2 HX2.out
            have g2 := HKA2.out.cell (i := 2) rfl
            go_wp2_with (first
              | (at_builtin
                 refine wpList_appLD w2 rfl _ _ rfl w2.heap.size _ M B rfl rfl HX2.out (Nat.le_of_succ_le HL5.out) (Nat.le_refl _) ?_
                 intro v3 w3 h3 hb3
                 have HO3 : Hid (OwnD w3 w2.heap.size v3 M) := h3
                 have HB3 : Hid (Below w2.heap.size w2 w3) := hb3
                 obtain ⟨w4, hw4⟩ : ∃ w4, w3.alloc (.cells #[.int .u64 (s : Nat), .slice p2 n2 c2] 79) = w4 := ⟨_, rfl⟩
                 have HK4 : Hid (Blk w4 w3.heap.size #[.int .u64 (s : Nat), .slice p2 n2 c2] 79) := by rw [← hw4]; exact Blk.new w3 _ _
                 have HB4 : Hid (Below w3.heap.size w3 w4) := by rw [← hw4]; exact (Below.refl _ _).alloc (Nat.le_refl _) _
                 have HO4 : Hid (OwnD w4 w2.heap.size v3 M) := HO3.out.on HB4.out
                 have g2 := (HKA2.out.on HB3.out).cell (i := 2) rfl
                 have HBw4 : Hid (w2.heap.size ≤ w4.heap.size) := Nat.le_trans HB3.out.size HB4.out.size
                 clear h3 hb3)
              | (at_builtin
                 refine wpList_appD1 w4 rfl _ _ rfl w2.heap.size v3 M rfl HO4.out ⟨s, .slice none 0 0, .slice none 0 0, .slice p2 n2 c2, a.W⟩ rfl w3.heap.size rfl HK4.out HL5.out HBw4.out ?_
                 intro v5 w5 h5 hb5
                 have HO5 : Hid (OwnD w5 w2.heap.size v5 (M ++ [⟨s, .slice none 0 0, .slice none 0 0, .slice p2 n2 c2, a.W⟩])) := h5
                 have HB5 : Hid (Below w2.heap.size w4 w5) := hb5
                 clear h5 hb5))
            refine bodyPost_ret (v := .tuple #[v5, .int .i64 0]) (by simp [results, Tryz.results18, go_sem]) rfl ?_
            have hb5 : Below w2.heap.size w2 w5 := (HB3.out.trans (HB4.out.mono HB3.out.size)).trans HB5.out
            refine ⟨_, _, by rw [HN.out], ⟨HO5.out.mono (Nat.le_trans hB HB2.out.size), fun c hc => ?_⟩, ⟨fun h => absurd (by rw [HLn.out]; exact HN.out) h, fun _ => rfl⟩, HB2.out.trans (hb5.mono HB2.out.size)⟩
            rcases List.mem_append.1 hc with hc | hc
            · exact (HX2.out.on hb5).ft c hc
            · rw [List.mem_singleton] at hc
              subst hc
              exact ⟨⟨(HA2.out.on hb5).w, HA2.out.lw⟩, rfl, rfl⟩
  · have HC : Hid (chkF a ≠ 0) := hca
    have HN : Hid (noteE a s (lastC M) n = chkF a) := note0 hca
    go_enter Tryz.func18, Tryz.ntmps18
    go_wp2_with fail
    refine CC.out.mono ?_
    rintro e w2 ⟨rfl, hb2⟩
    clear CC k0 k1 k2 hw1
    have HB2 : Hid (Below w.heap.size w w2) := HB1.out.trans (hb2.mono HB1.out.size)
    have HX2 : Hid (DocC w2 B (.slice pm n cm) M) := HX1.out.on hb2
    have HA2 : Hid (RdF w2 _ _ _ a) := HA1.out.on hb2
    have HKA2 : Hid (Blk w2 w.heap.size #[.slice p0 n0 c0, .slice p1 n1 c1, .slice p2 n2 c2] 27) := HKA.out.on hb2
    clear hb2 HB1 HX1 HA1 HKA
    go_wp2_with fail
    refine bodyPost_ret (v := .tuple #[(.slice pm n cm), .int .i64 (chkF a)]) (by simp [results, Tryz.results18, go_sem]) rfl ?_
    exact ⟨_, _, by rw [HN.out], HX2.out, NtD.refl (by rw [HLn.out, HN.out]; exact HC.out), HB2.out⟩

end Go.Proofs.YtcknhjabdjbjiabGreat
