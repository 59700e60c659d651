/- What maps.Keys gives is collected. -/
import Derived.Test.YtjeidpgkgjljcaaWNa
namespace Go.Proofs.Ytjeidpgkgjljcaa
open Go.RowKit Go.Shelf
set_option maxRecDepth 100000
attribute [local go_sem] Oper.semAt_some

theorem grown_of_below {w w' : World} (h : Below w.heap.size w w') : w.grownBy w' none := ⟨h.os, h.tape, h.output, h.size, fun k hk _ => h.block k hk⟩
theorem walks_of_below {w w' : World} (h : Below w.heap.size w w') : KeepsWalks w w' := ⟨h.size, fun k _ hk _ => (h.block k (Array.getElem?_eq_some_iff.1 hk).1).trans hk⟩
theorem others_of_below {w w' : World} (h : Below w.heap.size w w') : KeepsOthers w w' := ⟨h.size, fun k _ hk _ => (h.block k (Array.getElem?_eq_some_iff.1 hk).1).trans hk⟩

set_option maxHeartbeats 4000000 in
theorem keys1_in (F : Fence) (n : Nat) (hf : F.fn 79) (hro : F.round = none) (hn : 1 ≤ n) (l Bm mb : Nat) (E : List (Pt × Value)) (hnd : (E.map (·.1)).Nodup) (J Jx : List Pt → World → Prop)
    (hY : ∀ pre x W, J pre W → pre.length < E.length → YieldAt F (n - 1) Try.prog l #[PV x] W fun e W' => (e = .returned (.bool true) ∧ J (pre ++ [x]) W' ∧ KeepsWalks W W') ∨ (e = .returned (.bool false) ∧ Jx (pre ++ [x]) W'))
    (W : World) (hJ : AbidesFrom W.heap.size J) (hm : W.cell? ⟨Bm, 0, none⟩ = some (.map (some mb))) (hE : MapV W mb E) (h0 : J [] W) :
    CallsIn F n Try.prog 79 #[.func (.yield l) #[] #[], .pointer (some ⟨Bm, 0, none⟩)] W fun e W' => (∃ v, e = .returned v) ∧ ((∃ ss, (ss.Nodup ∧ (∀ x, x ∈ ss ↔ x ∈ E.map (·.1)) ∧ ss.length ≤ E.length) ∧ J ss W') ∨ (∃ pre, True ∧ Jx pre W')) := by
  have hlt := hE.lt
  refine callsIn_of_wp Try.func79 rfl hf ?_ hro
  simp only [Try.ntmps79, List.size_toArray, List.length_cons, List.length_nil, Nat.reduceAdd, Nat.reduceSub, Array.replicate_succ, Array.replicate_zero, List.push_toArray, List.append_toArray, List.nil_append, List.cons_append]
  gi_wp2_with (first
    | (gi_at_range; refine wpListIn_rangeM _ rfl _ rfl mb E rfl hE ?_; intro w0 hrg0 hg0 hs0)
    | gi_in)
  go_frame
  gi_loopw [3] (fun _ wr => ∃ ss : List Pt, ItrM wr mb W.heap.size E ss ∧ J ss wr) (fun _ wr => wr.rangeLeft mb W.heap.size)
  case atStart => exact ⟨[], hrg0, hJ [] W w0 none h0 hg0 (fun r e => by cases e)⟩
  case round =>
    obtain ⟨ss, hC, hJs⟩ := hrel
    gi_wp2_with (first
      | (gi_at_next; refine wpListIn_nextM _ rfl _ rfl mb W.heap.size E ss rfl hC (by omega) hnd ?_ ?_)
      | gi_in)
    · intro hl
      have HL : Hid (∀ x, x ∈ ss ↔ x ∈ E.map (·.1)) := fun x => (hl x).trans (by simp)
      clear hl
      gi_wp2
      go_end0
      exact ⟨⟨_, rfl⟩, .inl ⟨ss, ⟨hC.nd, HL.out, hC.len⟩, hJs⟩⟩
    · intro x v w2 hlen hC2 hlt2 hg2 hs2 hen
      have hJ2 : J ss w2 := hJ ss wr w2 (some W.heap.size) hJs hg2 (fun r e => by cases e; exact ⟨Nat.le_refl _, hC.walk⟩)
      obtain ⟨w3, hw3⟩ : ∃ w3, w2.alloc (.cells #[.int .i64 x.t, .int .i64 x.i, .string x.k] 27) = w3 := ⟨_, rfl⟩
      have hb3 : Below w2.heap.size w2 w3 := by rw [← hw3]; exact (Below.refl _ _).alloc (Nat.le_refl _) _
      have hk3 : Blk w3 w2.heap.size #[.int .i64 x.t, .int .i64 x.i, .string x.k] 27 := by rw [← hw3]; exact Blk.new w2 _ _
      have q0 := hk3.cell (i := 0) rfl
      have q1 := hk3.cell (i := 1) rfl
      have q2 := hk3.cell (i := 2) rfl
      have hJ3 : J ss w3 := hJ ss w2 w3 none hJ2 (grown_of_below hb3) (fun r e => by cases e)
      obtain ⟨fn, tmps, assign, body, hy, hR⟩ := hY ss x w3 hJ3 hlen
      clear hs2
      gi_wp2
      try rw [hw3]
      try gi_wp2
      refine hR.mono ?_
      rintro e W3 (⟨rfl, hJ4, hk4⟩ | ⟨rfl, hJx4⟩)
      · have hC4 := hC2.of_walks ((walks_of_below hb3).trans hk4)
        have hl4 := hC2.left_eq ((walks_of_below hb3).trans hk4)
        gi_wp2
        go_roundw
        case rel => exact ⟨ss ++ [x], hC4, hJ4⟩
        case measure => rw [hl4]; exact hlt2
      · gi_wp2
        refine bodyPost_ret (results_none rfl _ _ _) rfl ?_
        exact ⟨⟨_, rfl⟩, .inr ⟨_, trivial, hJx4⟩⟩

set_option maxHeartbeats 1000000 in
theorem keys_any (mb : Option Nat) (w : World) : Calls Try.prog 70 #[.map mb] w fun e w' => e = .returned (.func (.func 79) #[] #[.pointer (some ⟨w.heap.size, 0, none⟩)]) ∧ w' = w.alloc (.cells #[.map mb] 88) := by
  go_enter Try.func70, Try.ntmps70
  go_wp2
  go_ret
  exact ⟨rfl, rfl⟩

theorem keys_stops (F : Fence) (n : Nat) (hf : F.fn 79) (hro : F.round = none) (hn : 1 ≤ n) (Bm mb : Nat) (E : List (Pt × Value)) (hnd : (E.map (·.1)).Nodup) (w : World) (hBm : Bm < w.heap.size) (hm : w.cell? ⟨Bm, 0, none⟩ = some (.map (some mb))) (hE : MapV w mb E) :
    SeqStopsK F n Try.prog 79 #[.pointer (some ⟨Bm, 0, none⟩)] (fun x : Pt => #[PV x]) KeepsWalks (fun ss => ss.Nodup ∧ (∀ x, x ∈ ss ↔ x ∈ E.map (·.1)) ∧ ss.length ≤ E.length) (fun _ => True) E.length w := fun l J Jx W hW hJ _ hY h0 =>
  keys1_in F n hf hro hn l Bm mb E hnd J Jx hY W hJ ((hW.cell (p := ⟨Bm, 0, none⟩) hBm).trans hm) (hE.on hW) h0

theorem wpListIn_appP {F : Fence} {n : Nat} {ops : Array Oper} {rest : List Oper} {o : Oper} {a : Act} {Q : Exit → Act → World → Prop} (w : World) (hgd : o.guard = none) (s x : Operand)
    (ho : o.op = .call { callee := .builtin .append, args := #[s, x], argTypes := #[22, 22] })
    (B : Nat) (v : Value) (L : List Pt) (hs : a.eval s = v) (hown : OwnP w B v L)
    (u : Pt) (g : Nat) (hx : a.eval x = .slice (some ⟨g, 0, none⟩) 1 1) (hgz : g = w.heap.size)
    (hlen : L.length + 1 ≤ 4398046511104) (hbase : B ≤ w.heap.size)
    (h : ∀ v' w', w'.ownsRow B 27 3 v' (L.length + 1) (pcells (L ++ [u])) → (w.alloc (.cells #[.int .i64 u.t, .int .i64 u.i, .string u.k] 27)).grownBy w' v.ownBlock → wpListIn F n Try.prog ops Q rest (a.put o.dst v') w') : wpListIn F n Try.prog ops Q (o :: rest) a (w.alloc (.cells #[.int .i64 u.t, .int .i64 u.i, .string u.k] 27)) := by
  obtain ⟨i, hi, hz0, hz1, hz2⟩ := info_parts info_P
  subst hgz
  have hown' : OwnP (w.alloc (.cells #[.int .i64 u.t, .int .i64 u.i, .string u.k] 27)) B v L := hown.kept ((Below.refl _ _).alloc (Nat.le_refl _) _)
  refine wpListIn_append_own _ hgd s x 22 ho B 27 i (.agg #[.int .i64 0, .int .i64 0, .string ⟨#[]⟩]) 3 32 Try.underlying22 hi hz0 hz1 hz2 rfl (by decide) v L.length (pcells L) hs hown' ⟨w.heap.size, 0, none⟩ 1 1 (pcells [u]) hx rfl ?_ ?_ (by unfold maxLen; omega) (by omega) (by simp; omega) ?_
  · intro j y hj
    have hj' : j < 3 := by
      have := (List.getElem?_eq_some_iff.1 hj).1
      simpa [pcells, encP] using this
    have e : (⟨w.heap.size, 0, none⟩ : Addr).add j = ⟨w.heap.size, j, none⟩ := by unfold Addr.add; split <;> simp_all
    rw [e]
    have h4 : j = 0 ∨ j = 1 ∨ j = 2 := by omega
    rcases h4 with rfl | rfl | rfl <;> (simp [pcells, encP] at hj; subst hj; simp [go_sem])
  · intro y hy
    simp [pcells, encP] at hy
    rcases hy with rfl | rfl | rfl <;> rfl
  · intro v' w' h1 h2 _
    refine h v' w' ?_ h2
    rw [pcells_append]
    exact h1

set_option maxHeartbeats 8000000 in
theorem appendSeq_any (Bm mb : Nat) (E : List (Pt × Value)) (hnd : (E.map (·.1)).Nodup) (hlen : E.length ≤ 65536) (w : World) (hBm : Bm < w.heap.size) (hm : w.cell? ⟨Bm, 0, none⟩ = some (.map (some mb))) (hE : MapV w mb E) :
    Calls Try.prog 95 #[.slice none 0 0, .func (.func 79) #[] #[.pointer (some ⟨Bm, 0, none⟩)]] w fun e w' => ∃ (v : Value) (ss : List Pt), e = .returned v ∧ OwnP w' w.heap.size v ss ∧ ss.Nodup ∧ (∀ x, x ∈ ss ↔ x ∈ E.map (·.1)) ∧ ss.length ≤ E.length ∧ Below w.heap.size w w' := by
  refine (callsIn_wide (n := 3)).1 ?_
  refine callsIn_of_wp_marks Try.func95 rfl trivial ?_ rfl
  simp only [Try.ntmps95, List.size_toArray, List.length_cons, List.length_nil, Nat.reduceAdd, Nat.reduceSub, Array.replicate_succ, Array.replicate_zero, List.push_toArray, List.append_toArray, List.nil_append, List.cons_append]
  gi_wp2
  have bS := Boxed.new w 22 (.slice none 0 0)
  have hB0 : Below w.heap.size w (w.alloc (.cells #[.slice none 0 0] 22)) := (Below.refl _ w).alloc (Nat.le_refl _) _
  have hs0 : (w.alloc (.cells #[.slice none 0 0] 22)).heap.size = w.heap.size + 1 := by simp
  generalize (w.alloc (.cells #[.slice none 0 0] 22)) = w0 at *
  have hte : 22 ≠ 27 := by decide
  refine wpIn_rangeFunc_ownH rfl (by decide) (gf := 79) (lb := #[.pointer (some ⟨Bm, 0, none⟩)]) rfl trivial (enters_of Try.func79 (by kernel_rfl) rfl)
    (keys_stops _ _ trivial rfl (by decide) Bm mb E hnd w0 (by omega) ((hB0.cell (p := ⟨Bm, 0, none⟩) hBm).trans hm) (hE.on hB0)) walksK_t walksK_b (Below.refl _ _) (fun _ => rfl)
    (fun pre W => (∃ v, Boxed W w.heap.size 22 v ∧ W.ownsRow w.heap.size 27 3 v pre.length (pcells pre) ∧ True) ∧ Below w.heap.size w W)
    (fun _ _ _ => False)
    (OwnFrom.and (Own.from (holdsRow_own w.heap.size w.heap.size 22 27 3 (fun pre : List Pt => pre.length) (fun pre => pcells pre) (fun _ _ => True)) _) (ownFrom_below (Nat.le_refl _) (by omega)))
    (fun _ _ _ _ _ hs _ _ => hs)
    ⟨⟨_, bS, World.ownsRow_nil _ _ _ _, trivial⟩, hB0⟩
    (fun x a' W => ∃ Bx, w.heap.size < Bx ∧ Blk W Bx #[.int .i64 x.t, .int .i64 x.i, .string x.k] 27 ∧ a' = { tmps := #[.slice none 0 0, .func (.func 79) #[] #[.pointer (some ⟨Bm, 0, none⟩)], .pointer (some ⟨w.heap.size, 0, none⟩), undef, .slice none 0 0, .pointer (some ⟨Bx, 0, none⟩), .func (.func 79) #[] #[.pointer (some ⟨Bm, 0, none⟩)], PV x, undef, undef, undef, undef, undef], defers := [] })
    (fun x a' _ X Y row hs hg hr => by
      obtain ⟨Bx, h1, h2, h3⟩ := hs
      refine ⟨Bx, h1, (hg.block Bx h2.lt (fun e => ?_)).trans h2, h3⟩
      obtain ⟨_, o, ho, hc⟩ := hr Bx e.symm
      rw [show X.heap[Bx]? = _ from h2] at ho
      cases ho
      cases hc)
    ?assign ?body ?done ?stop
  case assign =>
    rintro l pre x W K ⟨⟨v, bV, hO, _⟩, hB⟩ hK
    have hal : Below W.heap.size W (W.alloc (.cells #[.int .i64 x.t, .int .i64 x.i, .string x.k] 27)) := (Below.refl _ _).alloc (Nat.le_refl _) _
    gi_wp2
    exact hK _ _ ((others_of_below hal).from _) (walks_of_below hal) ⟨⟨v, bV.alloc _, hO.alloc _, trivial⟩, hB.alloc hB.size _⟩ ⟨W.heap.size, bV.lt, Blk.new W _ _, rfl⟩
  case body =>
    rintro l pre x a' W hl ⟨r, hr⟩ ⟨⟨v, bV, hO, _⟩, hB⟩ ⟨Bx, hBx, bX, rfl⟩ hlt
    have cV := bV.cell
    have q0 := bX.cell (i := 0) rfl
    have q1 := bX.cell (i := 1) rfl
    have q2 := bX.cell (i := 2) rfl
    have hO' : OwnP W w.heap.size v pre := hO
    have hsz := hB.size
    rcases hO'.form with ⟨rfl, rfl⟩ | ⟨g, cap, rfl, hg1, hg2⟩
    · gi_wp2_with (first
        | (gi_at_builtin; refine wpListIn_appP _ rfl _ _ rfl w.heap.size _ _ rfl hO' x _ rfl rfl (by omega) hsz ?_; intro v' w1 hown' hgrow
           obtain ⟨b1, b2, o2, k2, bl2⟩ := bV.appended hte hO hsz (Nat.le_refl _) hown' hgrow
           have c1 := b1.cell
           have f1 := b1.frozen
           obtain ⟨g', cap', rfl⟩ := ownsRow_succ hown'
           go_frame)
        | gi_in)
      exact ⟨k2.from _, k2.walks, ⟨⟨_, b2, (by simpa using o2), trivial⟩, hB.trans bl2⟩⟩
    · gi_wp2_with (first
        | (gi_at_builtin; refine wpListIn_appP _ rfl _ _ rfl w.heap.size _ _ rfl hO' x _ rfl rfl (by omega) hsz ?_; intro v' w1 hown' hgrow
           obtain ⟨b1, b2, o2, k2, bl2⟩ := bV.appended hte hO hsz (Nat.le_refl _) hown' hgrow
           have c1 := b1.cell
           have f1 := b1.frozen
           obtain ⟨g', cap', rfl⟩ := ownsRow_succ hown'
           go_frame)
        | gi_in)
      exact ⟨k2.from _, k2.walks, ⟨⟨_, b2, (by simpa using o2), trivial⟩, hB.trans bl2⟩⟩
  case done =>
    rintro D zs W hD ⟨hz1, hz2, hz3⟩ ⟨⟨v, bV, hO, _⟩, hB⟩ hK
    have cV := bV.cell
    gi_wp2
    refine ⟨by simp, .inl ⟨_, _, rfl, run_takeDeferred hK, ?_⟩⟩
    exact ⟨_, results_tmp rfl _ _ _, v, zs, rfl, ownsRow_putObj hO _ hK rfl, hz1, hz2, hz3, hB.trans (belowK_b (w := w) (Nat.le_refl _) W D _ _ (by omega) hK rfl rfl)⟩
  case stop =>
    rintro D c pre W _ _ h _
    exact h.elim
end Go.Proofs.Ytjeidpgkgjljcaa
