/- Layer 12: Levels. Layer 12: a list, in one word: New, Put, Seek, Len. -/
import Derived.Test.YtojfohpnfciajaaGWSkp33
import Derived.Test.YtojfohpnfciajaaGWSkp27
namespace Go.Proofs.Ytojfohpnfciajaa
open Go.RowKit
set_option maxRecDepth 100000

theorem info_sls : (Try.prog.info? 49).map (fun i => (i.zero, i.size, i.bytes)) = some (some (.slice none 0 0), 1, 24) := by kernel_rfl
/-- rows of keys that a call owns -/
def OwnKs (w : World) (B : Nat) (v : Value) (Ks : List (List ByteArray)) : Prop := ∃ vs : List Value, vs.length = Ks.length ∧ w.ownsRow B 49 1 v vs.length vs ∧ ∀ i (h1 : i < vs.length) (h2 : i < Ks.length), OwnK w B vs[i] Ks[i]
theorem OwnKs.kept {w w' : World} {B : Nat} {v : Value} {Ks : List (List ByteArray)} (h : OwnKs w B v Ks) (hb : Below w.heap.size w w') : OwnKs w' B v Ks := by
  obtain ⟨vs, h1, h2, h3⟩ := h
  exact ⟨vs, h1, owns_kept h2 hb, fun i a b => owns_kept (h3 i a b) hb⟩
theorem OwnKs.base {w : World} {B C : Nat} {v : Value} {Ks : List (List ByteArray)} (h : OwnKs w B v Ks) (hc : C ≤ B) : OwnKs w C v Ks := by
  obtain ⟨vs, h1, h2, h3⟩ := h
  exact ⟨vs, h1, owns_base h2 hc, fun i a b => owns_base (h3 i a b) hc⟩
/-- levels up to one -/
def lvs (N : List Nd) : Nat → List (List ByteArray)
  | 0 => []
  | l + 1 => lvs N l ++ [keyL l N]
theorem lvs_len (N : List Nd) (l : Nat) : (lvs N l).length = l := by
  induction l with
  | zero => rfl
  | succ l ih => simp [lvs, ih]
/-- how many levels have a key -/
def topL (N : List Nd) : Nat → Nat
  | 0 => 0
  | l + 1 => if topL N l = l ∧ keyL l N ≠ [] then l + 1 else topL N l
theorem topL_le (N : List Nd) (l : Nat) : topL N l ≤ l := by
  induction l with
  | zero => exact Nat.le_refl _
  | succ l ih =>
    unfold topL
    split
    · exact Nat.le_refl _
    · omega
theorem topL_stop {N : List Nd} {l : Nat} (h1 : topL N l = l) (h2 : keyL l N = []) : ∀ k, topL N (l + k) = l := by
  intro k
  induction k with
  | zero => exact h1
  | succ k ih =>
    show topL N (l + k + 1) = l
    unfold topL
    rw [ih]
    by_cases hk : l = l + k
    · have e : k = 0 := by omega
      subst e
      rw [if_neg (fun h => h.2 h2)]
    · rw [if_neg (fun h => hk h.1)]
theorem topL_on {N : List Nd} {l : Nat} (h1 : topL N l = l) (h2 : keyL l N ≠ []) : topL N (l + 1) = l + 1 := by
  unfold topL
  rw [if_pos ⟨h1, h2⟩]
/-- the keys of each level -/
def levE (N : List Nd) : List (List ByteArray) := lvs N (topL N 16)
/-- levels in the making -/
structure LsS (lb sb : Nat) (w wq : World) (N : List Nd) (v : Value) (l : Nat) : Prop where
  bel : Below w.heap.size w wq
  x : Blk wq w.heap.size #[ptr1 lb, ptr1 sb] 102
  own : OwnKs wq w.heap.size v (lvs N l)
  top : topL N l = l

set_option maxHeartbeats 4000000 in
theorem levels_any (lb hb sb hl cb : Nat) (N : List Nd) (w : World) (hk : Skp w lb hb sb hl cb N) (hN : N.length < 4000000000000) :
    Calls Try.prog 35 #[.agg #[ptr1 lb, ptr1 sb]] w fun e w' => ∃ v, e = .returned v ∧ OwnKs w' w.heap.size v (levE N) ∧ Below w.heap.size w w' := by
  obtain ⟨aX, aB, aS⟩ := blk_new w #[ptr1 lb, ptr1 sb] 102
  have HQ0 : Hid (LsS lb sb w (w.alloc (.cells #[ptr1 lb, ptr1 sb] 102)) N (.slice none 0 0) 0) := ⟨aB, aX, ⟨[], rfl, World.ownsRow_nil _ _ _ _, fun i h => absurd h (by simp)⟩, rfl⟩
  have HK : Hid (Skp w lb hb sb hl cb N) := hk
  have HLn : Hid (N.length < 4000000000000) := hN
  clear aX aB aS hk hN
  go_enter Try.func35, Try.ntmps35
  go_wp2_with fail
  generalize (w.alloc (.cells #[ptr1 lb, ptr1 sb] 102)) = w1 at *
  go_loopw [3, 6] (fun sv sx wq => ∃ l : Nat, l ≤ 16 ∧ sx = .int .i64 (l : Int) ∧ Hid (LsS lb sb w wq N sv l)) (fun _ sx _ => (16 - intOf sx).toNat)
  case atStart => exact ⟨0, by decide, rfl, HQ0⟩
  case round =>
    obtain ⟨l, hl16, rfl, HI⟩ := hrel
    clear HQ0
    rcases Nat.lt_or_ge l 16 with h1 | h1
    · have y0 := Blk.cell (i := 0) HI.out.x rfl
      have y1 := Blk.cell (i := 1) HI.out.x rfl
      have C1 : Hid (Calls _ _ _ _ _) := level_any lb hb sb hl cb l N wr (HK.out.on HI.out.bel) HLn.out h1
      have z1 : (l : Int) < 16 := by omega
      have HL : Hid (l < 16) := h1
      clear h1
      go_wp2_with fail
      refine C1.out.mono ?_
      rintro e w2 ⟨vk, rfl, ho, hb2⟩
      obtain ⟨pk, ck, rfl, -⟩ := owns_len ho
      have HI2 : Hid (LsS lb sb w w2 N u3 l) := ⟨HI.out.bel.trans (hb2.mono HI.out.bel.size), HI.out.x.on hb2, HI.out.own.kept hb2, HI.out.top⟩
      have HO2 : Hid (OwnK w2 w.heap.size (.slice pk (keyL l N).length ck) (keyL l N)) := owns_base ho HI.out.bel.size
      clear hb2 ho C1 HI y0 y1
      by_cases hnil : keyL l N = []
      · have HZ : Hid (OwnKs w2 w.heap.size u3 (levE N)) := by
          have h9 := topL_stop HI2.out.top hnil (16 - l)
          rw [show l + (16 - l) = 16 by have := HL.out; omega] at h9
          unfold levE
          rw [h9]
          exact HI2.out.own
        have hlen : (keyL l N).length = 0 := by rw [hnil]; rfl
        rw [hlen]
        clear hlen hnil HO2
        go_wp2_with fail
        go_ret
        exact ⟨_, rfl, HZ.out, HI2.out.bel⟩
      · obtain ⟨n, hn⟩ : ∃ n, (keyL l N).length = n := ⟨_, rfl⟩
        have hn0 : 0 < n := by
          rw [← hn]
          exact List.length_pos_iff.2 hnil
        have HTp : Hid (topL N (l + 1) = l + 1) := topL_on HI2.out.top hnil
        have HN : Hid ((keyL l N).length = n) := hn
        rw [hn]
        rw [hn] at HO2
        have hz : ¬ ((n : Int) = 0) := by omega
        clear hnil hn
        obtain ⟨vs, hv1, hv2, hv3⟩ := HI2.out.own
        rw [lvs_len] at hv1
        have HV : Hid (vs.length = l ∧ w2.ownsRow w.heap.size 49 1 u3 vs.length vs ∧ ∀ i (h1 : i < vs.length) (h2 : i < (lvs N l).length), OwnK w2 w.heap.size vs[i] (lvs N l)[i]) := ⟨hv1, hv2, hv3⟩
        clear hv1 hv2 hv3
        go_wp2_with (first | (at_builtin; go_loud (refine wpList_app1 w2 rfl (.tmp 15) (.tmp 17) 49 40 _ 1 24 rfl Try.underlying40 info_sls rfl (by decide) w.heap.size _ _ _ (by rfl) HV.out.2.1 [.slice pk n ck] rfl (by intro u hu; simp only [List.mem_cons, List.not_mem_nil, or_false] at hu; rcases hu with rfl; rfl) _ rfl (by simp) (by have := HV.out.1; have := HL.out; omega) (by have := HV.out.1; have := HL.out; omega) HI2.out.bel.size ?_); intro v6 w6 h6 h7 h8; refine Hid.out ?_))
        have HI6 : Hid (LsS lb sb w w6 N v6 (l + 1)) := by
          have hal : Below w2.heap.size w2 (w2.alloc (.cells [Value.slice pk n ck].toArray 49)) := (Below.refl _ _).alloc (Nat.le_refl _) _
          have hrow := owns_kept HV.out.2.1 hal
          refine ⟨HI2.out.bel.trans h7, ?_, ⟨vs ++ [.slice pk n ck], by rw [lvs_len, List.length_append, HV.out.1]; rfl, by rw [List.length_append]; exact h6, fun i a b => ?_⟩, HTp.out⟩
          · have hx1 := HI2.out.x.on hal
            refine hx1.grow h8 (fun e => ?_)
            rcases owns_ne hrow hx1 (by decide) with h9 | h9
            · rw [h9] at e; cases e
            · exact h9 e
          · have keepK : ∀ {x : Value} {K : List ByteArray}, OwnK w2 w.heap.size x K → OwnK w6 w.heap.size x K := fun hk => owns_other (owns_kept hk hal) hrow (by decide) h8
            rcases Nat.lt_or_ge i vs.length with h9 | h9
            · have e1 : (vs ++ [Value.slice pk n ck])[i] = vs[i] := List.getElem_append_left h9
              have e2 : (lvs N (l + 1))[i] = (lvs N l)[i]'(by rw [lvs_len, ← HV.out.1]; exact h9) := by
                show (lvs N l ++ [keyL l N])[i] = _
                exact List.getElem_append_left (by rw [lvs_len, ← HV.out.1]; exact h9)
              rw [e1, e2]
              exact keepK (HV.out.2.2 i h9 _)
            · have hi : i = vs.length := by
                rw [List.length_append, List.length_singleton] at a
                omega
              subst hi
              have e1 : (vs ++ [Value.slice pk n ck])[vs.length] = .slice pk n ck := by rw [List.getElem_append_right (Nat.le_refl _)]; simp
              have e2 : (lvs N (l + 1))[vs.length] = keyL l N := by
                apply Option.some.inj
                rw [← List.getElem?_eq_getElem b]
                show (lvs N l ++ [keyL l N])[vs.length]? = _
                rw [List.getElem?_append_right (by rw [lvs_len, HV.out.1]; exact Nat.le_refl _), lvs_len, HV.out.1, Nat.sub_self]
                rfl
              rw [e1, e2]
              exact keepK HO2.out
        clear h6 h7 h8 HV HO2 HI2
        unfold Hid
        go_wp2_with fail
        go_roundw
        case rel => exact ⟨l + 1, by have := HL.out; omega, by go_num, HI6⟩
        case measure => simp [intOf]; omega
    · obtain rfl : l = 16 := by omega
      have HZ : Hid (OwnKs wr w.heap.size u3 (levE N)) := by
        unfold levE
        rw [HI.out.top]
        exact HI.out.own
      rw [show ((16 : Nat) : Int) = 16 from rfl]
      go_wp2_with fail
      go_ret
      exact ⟨_, rfl, HZ.out, HI.out.bel⟩

set_option maxHeartbeats 2000000 in
theorem levelsL_any (lb hb sb hl cb : Nat) (N : List Nd) (w : World) (hq : Skp w lb hb sb hl cb N) (hN : N.length < 4000000000000) :
    Calls Try.prog 34 #[ptr1 lb, .func (.func 35) #[] #[]] w fun e w' => ∃ v, e = .returned v ∧ OwnKs w' w.heap.size v (levE N) ∧ Below w.heap.size w w' := by
  obtain ⟨aX, aB, aS⟩ := blk_new w #[.func (.func 35) #[] #[]] 100
  have HX1 : Hid (Blk (w.alloc (.cells #[.func (.func 35) #[] #[]] 100)) w.heap.size #[.func (.func 35) #[] #[]] 100 ∧ Below w.heap.size w (w.alloc (.cells #[.func (.func 35) #[] #[]] 100))) := ⟨aX, aB⟩
  have HQ : Hid (Skp (w.alloc (.cells #[.func (.func 35) #[] #[]] 100)) lb hb sb hl cb N) := hq.on aB
  have HLn : Hid (N.length < 4000000000000) := hN
  clear hq hN aX aB aS
  go_enter Try.func34, Try.ntmps34
  go_wp2_with fail
  generalize (w.alloc (.cells #[.func (.func 35) #[] #[]] 100)) = w1 at *
  go_loopw [10] (fun sx wq => sx = .int .i64 0 ∧ wq = w1) (fun _ _ => 0)
  case atStart => exact ⟨rfl, rfl⟩
  case round =>
    obtain ⟨rfl, hwr⟩ := hrel
    rw [hwr]
    clear hwr
    have C1 : Hid (Calls _ _ _ _ _) := now_any lb hb sb hl cb N w1 HQ.out
    go_wp2_with fail
    refine C1.out.mono ?_
    rintro e w2 ⟨rfl, hb2⟩
    obtain ⟨cX, cB, cS⟩ := blk_new w2 #[ptr1 lb, ptr1 sb] 102
    have hb3 := hb2.trans (cB.mono hb2.size)
    have hb3w := HX1.out.2.trans (hb3.mono HX1.out.2.size)
    have HB3 : Hid (Below w1.heap.size w1 (w2.alloc (.cells #[ptr1 lb, ptr1 sb] 102)) ∧ Below w.heap.size w (w2.alloc (.cells #[ptr1 lb, ptr1 sb] 102))) := ⟨hb3, hb3w⟩
    have HX3 : Hid (Blk (w2.alloc (.cells #[ptr1 lb, ptr1 sb] 102)) w2.heap.size #[ptr1 lb, ptr1 sb] 102) := cX
    have C2 : Hid (Calls _ _ _ _ _) := levels_any lb hb sb hl cb N (w2.alloc (.cells #[ptr1 lb, ptr1 sb] 102)) (HQ.out.on hb3) HLn.out
    have y0 := Blk.cell (i := 0) (HX1.out.1.on hb3) rfl
    have v0 := Blk.cell (i := 0) cX rfl
    have v1 := Blk.cell (i := 1) cX rfl
    clear cX cB cS hb2 hb3 hb3w C1
    go_wp2_with fail
    generalize (w2.alloc (.cells #[ptr1 lb, ptr1 sb] 102)) = w3 at *
    generalize w2.heap.size = vb3 at *
    refine C2.out.mono ?_
    rintro e w4 ⟨vv, rfl, ho4, hb4⟩
    have hb15 := HB3.out.1.trans (hb4.mono HB3.out.1.size)
    have hq5 := HQ.out.on hb15
    have C3 : Hid (Calls _ _ _ _ _) := holds_any lb hb sb w4 hq5.l hq5.vw.s
    have HE4 : Hid (OwnKs w4 w.heap.size vv (levE N) ∧ Below w.heap.size w w4) := ⟨ho4.base HB3.out.2.size, HB3.out.2.trans (hb4.mono HB3.out.2.size)⟩
    have v0 := Blk.cell (i := 0) (HX3.out.on hb4) rfl
    have v1 := Blk.cell (i := 1) (HX3.out.on hb4) rfl
    clear hb4 hb15 hq5 C2 y0 ho4
    go_wp2_with fail
    refine C3.out.mono ?_
    rintro e w6 ⟨rfl, hb6⟩
    have HE6 : Hid (OwnKs w6 w.heap.size vv (levE N) ∧ Below w.heap.size w w6) := ⟨HE4.out.1.kept hb6, HE4.out.2.trans (hb6.mono HE4.out.2.size)⟩
    clear hb6 C3
    go_wp2_with fail
    go_ret
    exact ⟨_, rfl, HE6.out⟩

theorem levelsP_any (lb hb sb hl cb : Nat) (N : List Nd) (w : World) (hq : Skp w lb hb sb hl cb N) (hN : N.length < 4000000000000) :
    Calls Try.prog 12 #[ptr1 lb] w fun e w' => ∃ v, e = .returned v ∧ OwnKs w' w.heap.size v (levE N) ∧ Below w.heap.size w w' := by
  have CG : Hid (Calls _ _ _ _ _) := given_ok lb hb sb w hq.l
  have C1 : Hid (Calls _ _ _ _ _) := levelsL_any lb hb sb hl cb N w hq hN
  clear hq hN
  go_enter Try.func12, Try.ntmps12
  go_wp2_with fail
  refine CG.out.mono ?_
  rintro e w9 ⟨rfl, hw9⟩
  rw [hw9]
  clear hw9 CG
  go_wp2_with fail
  refine C1.out.mono ?_
  rintro e w2 ⟨v2, rfl, ho, hb2⟩
  have HE : Hid (OwnKs w2 w.heap.size v2 (levE N) ∧ Below w.heap.size w w2) := ⟨ho, hb2⟩
  clear ho hb2 C1
  go_wp2_with fail
  go_ret
  exact ⟨_, rfl, HE.out⟩

end Go.Proofs.Ytojfohpnfciajaa

namespace Go.Proofs.Ytojfohpnfciajaa
open Go.RowKit
set_option maxRecDepth 100000

/-- all blocks that a list writes lie above a bound -/
structure AbvL (B lb sb hl : Nat) (N : List Nd) : Prop where
  l : B ≤ lb
  s : B ≤ sb
  h : B ≤ hl
  n : ∀ x ∈ N, B ≤ x.nb ∧ B ≤ x.lb
theorem AbvL.own {B lb sb hl : Nat} {N : List Nd} (h : AbvL B lb sb hl N) : ∀ k, ownL lb sb hl N k → B ≤ k := by
  rintro k (rfl | rfl | hk | hk)
  · exact h.l
  · exact h.s
  · rcases List.mem_cons.1 hk with rfl | hk
    · exact h.h
    · obtain ⟨y, hy, rfl⟩ := List.mem_map.1 hk
      exact (h.n y hy).2
  · obtain ⟨y, hy, rfl⟩ := List.mem_map.1 hk
    exact (h.n y hy).1
/-- A LIST WITH ENTRIES, begun behind a world. -/
def SkL (w0 w : World) (lb : Nat) (E : List En) : Prop := ∃ hb sb hl cb N, Skp w lb hb sb hl cb N ∧ ensN N = E ∧ AbvL w0.heap.size lb sb hl N ∧ Below w0.heap.size w0 w
theorem SkL.on {w0 w w' : World} {lb : Nat} {E : List En} (h : SkL w0 w lb E) (hb' : Below w.heap.size w w') : SkL w0 w' lb E := by
  obtain ⟨hb, sb, hl, cb, N, h1, h2, h3, h4⟩ := h
  exact ⟨hb, sb, hl, cb, N, h1.on hb', h2, h3, h4.trans (hb'.mono h4.size)⟩
theorem SkL.bel {w0 w : World} {lb : Nat} {E : List En} (h : SkL w0 w lb E) : Below w0.heap.size w0 w := by
  obtain ⟨hb, sb, hl, cb, N, h1, h2, h3, h4⟩ := h
  exact h4
theorem SkL.rise {w0 w : World} {lb : Nat} {E : List En} (h : SkL w0 w lb E) : RiseE E := by
  obtain ⟨hb, sb, hl, cb, N, h1, rfl, h3, h4⟩ := h
  exact h1.r
theorem SkL.hts {w0 w : World} {lb : Nat} {E : List En} (h : SkL w0 w lb E) : ∀ e ∈ E, 1 ≤ e.h ∧ e.h ≤ 16 := by
  obtain ⟨hb, sb, hl, cb, N, h1, rfl, h3, h4⟩ := h
  intro e he
  obtain ⟨x, hx, rfl⟩ := List.mem_map.1 he
  exact h1.n.ht x hx
theorem DoR.skl {w0 w w' : World} {lb hb sb hl sb' cb' : Nat} {N N' : List Nd} (r : DoR w w' lb hb sb hl sb' cb' N N') (h3 : AbvL w0.heap.size lb sb hl N) (h4 : Below w0.heap.size w0 w) : SkL w0 w' lb (ensN N') ∧ Below w0.heap.size w w' := by
  have hb' : Below w0.heap.size w w' := r.fr.below h4.size (fun k hk => h3.own k hk)
  refine ⟨⟨hb, sb', hl, cb', N', r.q, rfl, ⟨h3.l, Nat.le_trans h4.size r.ns, h3.h, fun x hx => ?_⟩, h4.trans hb'⟩, hb'⟩
  rcases r.gr x hx with ⟨y, hy, e1, e2⟩ | ⟨h5, h6⟩
  · rw [e1, e2]
    exact h3.n y hy
  · exact ⟨Nat.le_trans h4.size h5, Nat.le_trans h4.size h6⟩
theorem new_L (w : World) : Calls Try.prog 7 #[] w fun e w' => ∃ lb, e = .returned (ptr1 lb) ∧ SkL w w' lb [] := by
  refine (newL_any w).mono ?_
  rintro e w' ⟨lb, hb, sb, hl, cb, h1, h2, h3, h4, h5, h6, h7⟩
  exact ⟨lb, h1, hb, sb, hl, cb, [], h2, rfl, ⟨h3, h5, h6, fun x hx => absurd hx (by simp)⟩, h7⟩
theorem put_L (lb h : Nat) (E : List En) (k : ByteArray) (v : Int) (w0 w : World) (q : SkL w0 w lb E) (hk : k.size ≤ 1025) (hh : 1 ≤ h ∧ h ≤ 16) (hN : E.length < 9000000000000000000) :
    Calls Try.prog 18 #[ptr1 lb, .string k, .int .i64 v, .int .i64 (h : Nat)] w fun e w' => e = .returned (.tuple #[.int .i64 (wasV E k), .bool (getE E k).isSome, .int .i64 0]) ∧ SkL w0 w' lb (putE E k v h) ∧ Below w0.heap.size w w' := by
  obtain ⟨hb, sb, hl, cb, N, h1, rfl, h3, h4⟩ := q
  refine (put_ok lb hb sb hl cb h N k v w h1 hk hh (by rw [← ens_len]; exact hN)).mono ?_
  rintro e w' ⟨sb', cb', N', e1, hD, e2⟩
  rw [← e2]
  exact ⟨e1, hD.skl h3 h4⟩
theorem putlong_L (lb : Nat) (E : List En) (k : ByteArray) (v h : Int) (w0 w : World) (q : SkL w0 w lb E) (hk : 1025 < k.size) :
    Calls Try.prog 18 #[ptr1 lb, .string k, .int .i64 v, .int .i64 h] w fun e w' => e = .returned (.tuple #[.int .i64 0, .bool false, .int .i64 3]) ∧ w' = w := by
  obtain ⟨hb, sb, hl, cb, N, h1, rfl, h3, h4⟩ := q
  exact put_long lb hb sb hl cb N k v h w h1 hk
theorem puthgt_L (lb : Nat) (E : List En) (k : ByteArray) (v h : Int) (w0 w : World) (q : SkL w0 w lb E) (hk : k.size ≤ 1025) (hh : h < 1 ∨ 16 < h) :
    Calls Try.prog 18 #[ptr1 lb, .string k, .int .i64 v, .int .i64 h] w fun e w' => e = .returned (.tuple #[.int .i64 0, .bool false, .int .i64 120]) ∧ w' = w := by
  obtain ⟨hb, sb, hl, cb, N, h1, rfl, h3, h4⟩ := q
  exact put_height lb hb sb hl cb N k v h w h1 hk hh
theorem len_L (lb : Nat) (E : List En) (w0 w : World) (q : SkL w0 w lb E) : Calls Try.prog 9 #[ptr1 lb] w fun e w' => e = .returned (.int .i64 (E.length : Nat)) ∧ w' = w := by
  obtain ⟨hb, sb, hl, cb, N, h1, rfl, h3, h4⟩ := q
  rw [ens_len]
  exact len_any lb hb sb hl cb N w h1
theorem seek_L (lb : Nat) (E : List En) (k : ByteArray) (back : Bool) (w0 w : World) (q : SkL w0 w lb E) :
    Calls Try.prog 17 #[ptr1 lb, .string k, .bool back] w fun e w' => e = .returned (.tuple #[.agg #[.string (keyO (seekE E k back)), .int .i64 (valO (seekE E k back)), .int .i64 (hgtO (seekE E k back))], .bool (seekE E k back).isSome]) ∧ Below w.heap.size w w' := by
  obtain ⟨hb, sb, hl, cb, N, h1, rfl, h3, h4⟩ := q
  exact seekL_any lb hb sb hl cb N k back w h1
theorem aw1 : putE (putE [] ⟨#[98]⟩ 2 1) ⟨#[97]⟩ 1 3 = [⟨⟨#[97]⟩, 1, 3⟩, ⟨⟨#[98]⟩, 2, 1⟩] := by kernel_rfl
theorem aw2 : seekE [⟨⟨#[97]⟩, 1, 3⟩, ⟨⟨#[98]⟩, 2, 1⟩] ⟨#[]⟩ false = some ⟨⟨#[97]⟩, 1, 3⟩ := by kernel_rfl

set_option maxHeartbeats 2000000 in
theorem awake_any (w : World) : Calls Try.prog 14 #[] w fun e w' => e = .returned (.bool true) ∧ Below w.heap.size w w' := by
  have C1 : Hid (Calls _ _ _ _ _) := new_L w
  go_enter Try.func14, Try.ntmps14
  go_wp2_with fail
  refine C1.out.mono ?_
  rintro e w1 ⟨lb, rfl, q1⟩
  have C2 : Hid (Calls _ _ _ _ _) := put_L lb 1 [] ⟨#[98]⟩ 2 w w1 q1 (by decide) (by decide) (by decide)
  clear C1 q1
  go_wp2_with fail
  refine C2.out.mono ?_
  rintro e w2 ⟨rfl, q2, -⟩
  have C3 : Hid (Calls _ _ _ _ _) := put_L lb 3 _ ⟨#[97]⟩ 1 w w2 q2 (by decide) (by decide) (by decide)
  clear C2 q2
  go_wp2_with fail
  refine C3.out.mono ?_
  rintro e w3 ⟨rfl, q3, -⟩
  rw [aw1] at q3
  have C4 : Hid (Calls _ _ _ _ _) := seek_L lb _ ⟨#[]⟩ false w w3 q3
  rw [aw2] at C4
  have HQ : Hid (SkL w w3 lb [⟨⟨#[97]⟩, 1, 3⟩, ⟨⟨#[98]⟩, 2, 1⟩]) := q3
  clear C3 q3
  go_wp2_with fail
  refine C4.out.mono ?_
  rintro e w4 ⟨rfl, hb4⟩
  obtain ⟨aX, aB, aS⟩ := blk_new w4 #[.string ⟨#[97]⟩, .int .i64 1, .int .i64 3] 48
  have a0 := Blk.cell (i := 0) aX rfl
  have hb5 := hb4.trans (aB.mono hb4.size)
  have q5 := HQ.out.on hb5
  have C5 : Hid (Calls _ _ _ _ _) := len_L lb _ w _ q5
  have HB : Hid (Below w.heap.size w (w4.alloc (.cells #[.string ⟨#[97]⟩, .int .i64 1, .int .i64 3] 48))) := q5.bel
  rw [show keyO (some ⟨⟨#[97]⟩, 1, 3⟩) = ⟨#[97]⟩ from rfl, show valO (some ⟨⟨#[97]⟩, 1, 3⟩) = 1 from rfl, show hgtO (some ⟨⟨#[97]⟩, 1, 3⟩) = 3 from rfl]
  clear C4 hb4 hb5 q5 aX aB aS
  go_wp2_with fail
  refine C5.out.mono ?_
  rintro e w6 ⟨rfl, hw6⟩
  rw [hw6]
  clear hw6 C5
  go_wp2_with fail
  go_ret
  exact ⟨rfl, HB.out⟩

end Go.Proofs.Ytojfohpnfciajaa
