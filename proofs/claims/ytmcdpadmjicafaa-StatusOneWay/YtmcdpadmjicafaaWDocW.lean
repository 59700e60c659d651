/- The document's with. -/
import Derived.Test.YtmcdpadmjicafaaWDocO
namespace Go.Proofs.Ytmcdpadmjicafaa
open Go.RowKit Go.Maps
set_option maxRecDepth 100000

def withD (D : List Dx) (a : Int) (x : Dx) : List Dx := if 0 ≤ a then D.set a.toNat x else D
theorem withD_take (D : List Dx) (a : Int) (x : Dx) (j : Nat) (hj : j < D.length) : (withD D a x).take (j + 1) = (withD D a x).take j ++ [if (j : Int) = a then x else D[j]] := by
  have hl : j < (withD D a x).length := by unfold withD; split <;> simp [hj]
  have hg : (withD D a x)[j] = if (j : Int) = a then x else D[j] := by
    apply Option.some.inj
    rw [← List.getElem?_eq_getElem hl]
    unfold withD
    by_cases h0 : 0 ≤ a
    · rw [if_pos h0, List.getElem?_set]
      by_cases e : (j : Int) = a
      · rw [if_pos (by omega), if_pos e, if_pos (by omega)]
      · rw [if_neg (by omega), if_neg e, List.getElem?_eq_getElem hj]
    · rw [if_neg h0, if_neg (by omega), List.getElem?_eq_getElem hj]
  rw [← List.take_append_getElem hl, hg]
theorem withD_len (D : List Dx) (a : Int) (x : Dx) : (withD D a x).length = D.length := by unfold withD; split <;> simp
/-- a box -/
def BoxT (w : World) (g : Nat) (vs : Array Value) (T : TypeId) : Prop := w.heap[g]? = some (.cells vs T (0, 0))
theorem BoxT.new (w : World) (vs : Array Value) (T : TypeId) : BoxT (w.alloc (.cells vs T)) w.heap.size vs T := heap_alloc_new w _
theorem BoxT.lt {w : World} {g : Nat} {vs : Array Value} {T : TypeId} (h : BoxT w g vs T) : g < w.heap.size := (Array.getElem?_eq_some_iff.1 h).1
theorem BoxT.keep {w w' : World} {B g : Nat} {vs : Array Value} {T : TypeId} (h : BoxT w g vs T) (hb : Below B w w') (hg : g < B) : BoxT w' g vs T := (hb.block g hg).trans h
theorem BoxT.on {w w' : World} {g : Nat} {vs : Array Value} {T : TypeId} (h : BoxT w g vs T) (hb : Below w.heap.size w w') : BoxT w' g vs T := h.keep hb h.lt
theorem BoxT.set {w : World} {g i : Nat} {vs : Array Value} {T : TypeId} (h : BoxT w g vs T) (x : Value) : BoxT (w.setCell ⟨g, i, none⟩ x) g (vs.setIfInBounds i x) T := heap_set_same w g i x _ _ _ h
theorem BoxT.off {w : World} {g j i : Nat} {vs : Array Value} {T : TypeId} (h : BoxT w g vs T) (x : Value) (hj : g ≠ j) : BoxT (w.setCell ⟨j, i, none⟩ x) g vs T := (Below.heap_setCell _ _ _ _ hj).trans h
theorem BoxT.cell {w : World} {g i : Nat} {vs : Array Value} {T : TypeId} (h : BoxT w g vs T) : w.cell? ⟨g, i, none⟩ = vs[i]? := by
  unfold BoxT at h
  simp [World.cell?, h]
theorem BoxT.frozen {w : World} {g i : Nat} {vs : Array Value} {T : TypeId} (h : BoxT w g vs T) : w.frozen? ⟨g, i, none⟩ = false := by
  unfold BoxT at h
  simp [World.frozen?, h]

/-- 'append(l, x)' at the operation, by what it runs to there -/
theorem wpList_appT {ops : Array Oper} {rest : List Oper} {o : Oper} {a : Act} {Q : Exit → Act → World → Prop} (w w2 : World) (hgd : o.guard = none) (s x : Operand) (S : TypeId)
    (ho : o.op = .call { callee := .builtin .append, args := #[s, x], argTypes := #[S, S] }) (v vx r : Value) (hs : a.eval s = v) (hx : a.eval x = vx)
    (hrun : (Builtin.append_ #[S, S] o.type #[v, vx]).run Try.prog w = .ok r w2) (h : wpList Try.prog ops Q rest (a.put o.dst r) w2) : wpList Try.prog ops Q (o :: rest) a w := by
  refine wpList_plain hgd fun K hK => ?_
  unfold Oper.wp execOp
  simp only [ho, resolve, invoke, builtin, Sem.run_bind, Sem.run_pure, Result.andThen_ok, List.map_toArray, List.map_cons, List.map_nil, hs, hx, hrun]
  exact hK _ _ h
theorem operApp {o : Oper} {a : Act} {K : Act → World → Prop} {Q : Exit → Act → World → Prop} (w w2 : World) (s x : Operand) (S : TypeId)
    (ho : o.op = .call { callee := .builtin .append, args := #[s, x], argTypes := #[S, S] }) (v vx r : Value) (hs : a.eval s = v) (hx : a.eval x = vx)
    (hrun : (Builtin.append_ #[S, S] o.type #[v, vx]).run Try.prog w = .ok r w2) (h : K (a.put o.dst r) w2) : o.wp Try.prog a w K Q := by
  unfold Oper.wp execOp
  simp only [ho, resolve, invoke, builtin, Sem.run_bind, Sem.run_pure, Result.andThen_ok, List.map_toArray, List.map_cons, List.map_nil, hs, hx, hrun]
  exact h
theorem info_txn : (Try.prog.info? 86).map (fun i => (i.zero, i.size, i.bytes)) = some (some (.agg #[.int .i64 0, .int .i64 0, .int .u64 0]), 3, 24) := by kernel_rfl
theorem dcell_one (d : Dx) : ∀ u ∈ dcell d, u.oneCell' = true := by
  intro u hu
  simp only [dcell, List.mem_cons, List.not_mem_nil, or_false] at hu
  rcases hu with rfl | rfl | rfl <;> rfl
theorem docApp (wr : World) (lo : Nat) (u : Value) (K : List Dx) (d : Dx) (h : DocT wr lo u K) (hK : K.length ≤ 5000000000000) (hlo : lo ≤ wr.heap.size) :
    ∃ g cap we, (Builtin.append_ #[25, 25] 25 #[u, .slice (some ⟨wr.heap.size, 0, none⟩) 1 1]).run Try.prog (wr.alloc (.cells #[.int .i64 d.num, .int .i64 d.st, .int .u64 (d.sp : Nat)] 86)) = .ok (.slice (some ⟨g, 0, none⟩) (K.length + 1) cap) we ∧
      DocT we lo (.slice (some ⟨g, 0, none⟩) (K.length + 1) cap) (K ++ [d]) ∧ Frm wr we (fun k => u.ownBlock = some k) := by
  obtain ⟨i, hi, hz0, hz1, hz2⟩ := info_parts info_txn
  have hal : Frm wr (wr.alloc (.cells #[.int .i64 d.num, .int .i64 d.st, .int .u64 (d.sp : Nat)] 86)) (fun _ => False) := Frm.of_below ((Below.refl _ _).alloc (Nat.le_refl _) _)
  obtain ⟨v', we, hr, ho, hg, _, _⟩ := run_append_own_at (P := Try.prog) (w := wr.alloc (.cells #[.int .i64 d.num, .int .i64 d.st, .int .u64 (d.sp : Nat)] 86)) lo 25 25 86 i _ 3 24 Try.underlying25 hi hz0 hz1 hz2 rfl (by decide) u K.length _ (World.ownsRow.alloc h _) ⟨wr.heap.size, 0, none⟩ 1 1 (dcell d) rfl
    (fun j y hj => by
      have e : (⟨wr.heap.size, 0, none⟩ : Addr).add j = ⟨wr.heap.size, j, none⟩ := by unfold Addr.add; split <;> simp_all
      rw [e, World.cell?_alloc_new]
      simpa [dcell] using hj) (dcell_one d) (by unfold maxLen; omega) (by omega) (by simp; omega)
  obtain ⟨g, cap, rfl⟩ : ∃ g cap, v' = .slice (some ⟨g, 0, none⟩) (K.length + 1) cap := by
    rcases ho.2 with ⟨_, h9⟩ | ⟨g9, cap9, cur9, e9, _⟩
    · omega
    · exact ⟨g9, cap9, e9⟩
  refine ⟨g, cap, we, hr, ?_, (hal.mono (fun k hk => hk.elim)).trans (Frm.of_grown hg (fun g hg => hg)) (fun k hk => .inl hk)⟩
  unfold DocT
  rw [List.length_append, List.flatMap_append]
  simpa using ho
theorem DocT.low {w : World} {B : Nat} {v : Value} {D : List Dx} (h : DocT w B v D) {g : Nat} (hg : v.ownBlock = some g) : B ≤ g := by
  rcases h.2 with ⟨e, _⟩ | ⟨g', cap, cur, e, h1, _⟩
  · rw [e] at hg; cases hg
  · rw [e] at hg; cases hg; exact h1
theorem DocT.block {w w' : World} {B : Nat} {v : Value} {D : List Dx} (h : DocT w B v D) (hb : ∀ g, v.ownBlock = some g → w'.heap[g]? = w.heap[g]?) : DocT w' B v D := owns_block h hb
theorem DocT.on {w w' : World} {B : Nat} {v : Value} {D : List Dx} (h : DocT w B v D) (hb : Below w.heap.size w w') : DocT w' B v D := owns_kept h hb

set_option maxHeartbeats 4000000 in
theorem with_any (D : List Dx) (v : Value) (la B : Nat) (a : Int) (x : Dx) (w : World) (h : DocT w B v D) (hlen : D.length ≤ 5000000000000) :
    Calls Try.prog 34 #[tvD v la, .int .i64 a, .agg #[.int .i64 x.num, .int .i64 x.st, .int .u64 (x.sp : Nat)]] w fun e w' => (∃ u, e = .returned (tvD u la) ∧ DocT w' w.heap.size u (withD D a x)) ∧ Below w.heap.size w w' := by
  obtain ⟨p, c, ev, hrd⟩ := h.rd
  rw [ev]
  have HRD : Hid (∀ i (hi : i < D.length), ∃ b, p = some ⟨b, 0, none⟩ ∧ b < w.heap.size ∧ w.cell? ⟨b, i * 3, none⟩ = some (.int .i64 D[i].num) ∧ w.cell? ⟨b, i * 3 + 1, none⟩ = some (.int .i64 D[i].st) ∧ w.cell? ⟨b, i * 3 + 2, none⟩ = some (.int .u64 (D[i].sp : Nat))) := hrd
  have HWT : Hid (∀ j (hj : j < D.length), (withD D a x).take (j + 1) = (withD D a x).take j ++ [if (j : Int) = a then x else D[j]]) := fun j hj => withD_take D a x j hj
  have HWL : Hid ((withD D a x).length = D.length) := withD_len D a x
  generalize withD D a x = E at *
  clear h hrd ev
  go_enter Try.func34, Try.ntmps34
  go_wp2_with fail
  have hs1 : (w.alloc (.cells #[.slice p D.length c, .int .i64 (la : Nat)] 27)).heap.size = w.heap.size + 1 := by simp
  have HB1 : BoxT (w.alloc (.cells #[.slice p D.length c, .int .i64 (la : Nat)] 27)) w.heap.size #[.slice p D.length c, .int .i64 (la : Nat)] 27 := BoxT.new _ _ _
  have HL1 : Below w.heap.size w (w.alloc (.cells #[.slice p D.length c, .int .i64 (la : Nat)] 27)) := (Below.refl _ _).alloc (Nat.le_refl _) _
  generalize w.alloc (.cells #[.slice p D.length c, .int .i64 (la : Nat)] 27) = w1 at *
  have hs2 : (w1.alloc (.cells #[.int .i64 x.num, .int .i64 x.st, .int .u64 (x.sp : Nat)] 86)).heap.size = w.heap.size + 2 := by simp [hs1]
  have b12 : Below w1.heap.size w1 (w1.alloc (.cells #[.int .i64 x.num, .int .i64 x.st, .int .u64 (x.sp : Nat)] 86)) := (Below.refl _ _).alloc (Nat.le_refl _) _
  have HB2 : BoxT (w1.alloc (.cells #[.int .i64 x.num, .int .i64 x.st, .int .u64 (x.sp : Nat)] 86)) (w.heap.size + 1) #[.int .i64 x.num, .int .i64 x.st, .int .u64 (x.sp : Nat)] 86 := by rw [← hs1]; exact BoxT.new _ _ _
  generalize w1.alloc (.cells #[.int .i64 x.num, .int .i64 x.st, .int .u64 (x.sp : Nat)] 86) = w2 at *
  have hs3 : (w2.alloc (.cells #[.slice none 0 0, .int .i64 0] 27)).heap.size = w.heap.size + 3 := by simp [hs2]
  have b23 : Below w2.heap.size w2 (w2.alloc (.cells #[.slice none 0 0, .int .i64 0] 27)) := (Below.refl _ _).alloc (Nat.le_refl _) _
  have HB3 : BoxT (w2.alloc (.cells #[.slice none 0 0, .int .i64 0] 27)) (w.heap.size + 2) #[.slice none 0 0, .int .i64 0] 27 := by rw [← hs2]; exact BoxT.new _ _ _
  generalize w2.alloc (.cells #[.slice none 0 0, .int .i64 0] 27) = w3 at *
  have hs4 : (w3.alloc (.cells #[.slice none 0 0, .int .i64 (la : Nat)] 27)).heap.size = w.heap.size + 4 := by simp [hs3]
  have b34 : Below w3.heap.size w3 (w3.alloc (.cells #[.slice none 0 0, .int .i64 (la : Nat)] 27)) := (Below.refl _ _).alloc (Nat.le_refl _) _
  have HB4 : Hid (BoxT (w3.alloc (.cells #[.slice none 0 0, .int .i64 (la : Nat)] 27)) (w.heap.size + 3) #[.slice none 0 0, .int .i64 (la : Nat)] 27) := by rw [← hs3]; exact BoxT.new _ _ _
  generalize w3.alloc (.cells #[.slice none 0 0, .int .i64 (la : Nat)] 27) = w4 at *
  have HS : Hid (BoxT w4 w.heap.size #[.slice p D.length c, .int .i64 (la : Nat)] 27) := ((HB1.on b12).on b23).on b34
  have HXB : Hid (BoxT w4 (w.heap.size + 1) #[.int .i64 x.num, .int .i64 x.st, .int .u64 (x.sp : Nat)] 86) := (HB2.on b23).on b34
  have HRB : Hid (BoxT w4 (w.heap.size + 2) #[.slice none 0 0, .int .i64 0] 27) := HB3.on b34
  have HL4 : Hid (Below w.heap.size w w4) := ((HL1.trans (b12.mono (by omega))).trans (b23.mono (by omega))).trans (b34.mono (by omega))
  have HS4 : Hid (w4.heap.size = w.heap.size + 4) := hs4
  clear hs1 hs2 hs3 hs4 HB1 HB2 HB3 HL1 b12 b23 b34
  go_loopw [8] (fun i wr => ∃ j : Nat, j ≤ D.length ∧ i = .int .i64 (j : Int) ∧ Hid (∃ q l d, BoxT wr (w.heap.size + 3) #[.slice q l d, .int .i64 (la : Nat)] 27 ∧ DocT wr (w.heap.size + 4) (.slice q l d) (E.take j)) ∧ Hid (Frm w4 wr (fun k => k = w.heap.size + 3))) (fun i _ => D.length - (intOf i).toNat)
  case atStart => exact ⟨0, Nat.zero_le _, by go_num, ⟨none, 0, 0, HB4.out, World.ownsRow_nil _ _ _ _⟩, Frm.refl _ _⟩
  case round =>
    obtain ⟨j, hj, rfl, hU, hF⟩ := hrel
    obtain ⟨q, l, d, hOB, hD⟩ := hU.out
    have HOB : Hid (BoxT _ _ _ _) := hOB
    have HD : Hid (DocT _ _ _ _) := hD
    have HSr : Hid (BoxT wr w.heap.size #[.slice p D.length c, .int .i64 (la : Nat)] 27) := (hF.out.block _ HS.out.lt (by omega)).trans HS.out
    have HXr : Hid (BoxT wr (w.heap.size + 1) #[.int .i64 x.num, .int .i64 x.st, .int .u64 (x.sp : Nat)] 86) := (hF.out.block _ HXB.out.lt (by omega)).trans HXB.out
    have HRr : Hid (BoxT wr (w.heap.size + 2) #[.slice none 0 0, .int .i64 0] 27) := (hF.out.block _ HRB.out.lt (by omega)).trans HRB.out
    have HLr : Hid (Below w.heap.size w wr) := HL4.out.trans ((hF.out.below (B := w.heap.size) (by rw [HS4.out]; omega) (fun k hk => by omega)))
    have HZr : Hid (w.heap.size + 4 ≤ wr.heap.size) := by have := hF.out.size; rw [HS4.out] at this; exact this
    have cs : wr.cell? ⟨w.heap.size, 0, none⟩ = some (.slice p D.length c) := HSr.out.cell
    have co0 : wr.cell? ⟨w.heap.size + 3, 0, none⟩ = some (.slice q l d) := HOB.out.cell
    have co1 : wr.cell? ⟨w.heap.size + 3, 1, none⟩ = some (.int .i64 (la : Nat)) := HOB.out.cell
    have fo0 : wr.frozen? ⟨w.heap.size + 3, 0, none⟩ = false := HOB.out.frozen
    clear hOB hD hU
    by_cases hj0 : j = D.length
    · subst hj0
      have cr0 : wr.cell? ⟨w.heap.size + 2, 0, none⟩ = some (.slice none 0 0) := HRr.out.cell
      have cr1 : wr.cell? ⟨w.heap.size + 2, 1, none⟩ = some (.int .i64 0) := HRr.out.cell
      have fr0 : wr.frozen? ⟨w.heap.size + 2, 0, none⟩ = false := HRr.out.frozen
      have fr1 : wr.frozen? ⟨w.heap.size + 2, 1, none⟩ = false := HRr.out.frozen
      rw [List.take_of_length_le (by rw [HWL.out]; exact Nat.le_refl _)] at HD
      have HE : Hid (DocT ((wr.setCell ⟨w.heap.size + 2, 0, none⟩ (.slice q l d)).setCell ⟨w.heap.size + 2, 1, none⟩ (.int .i64 (la : Nat))) w.heap.size (.slice q l d) E ∧ Below w.heap.size w ((wr.setCell ⟨w.heap.size + 2, 0, none⟩ (.slice q l d)).setCell ⟨w.heap.size + 2, 1, none⟩ (.int .i64 (la : Nat)))) := by
        have f2 : Frm wr ((wr.setCell ⟨w.heap.size + 2, 0, none⟩ (.slice q l d)).setCell ⟨w.heap.size + 2, 1, none⟩ (.int .i64 (la : Nat))) (fun k => k = w.heap.size + 2) := (frm_set wr _ 0 _ (F := fun k => k = w.heap.size + 2) rfl).trans (frm_set _ _ 1 _ (F := fun k => k = w.heap.size + 2) rfl) (fun k hk => .inl hk)
        refine ⟨owns_base (HD.out.block (fun g hg => ?_)) (by omega), HLr.out.trans (f2.below (by have := HZr.out; omega) (fun k hk => by omega))⟩
        have h1 := HD.out.low hg
        obtain ⟨cur, h2⟩ := own_cells HD.out hg
        exact f2.block g (Array.getElem?_eq_some_iff.1 h2).1 (by omega)
      have HBR : Hid (BoxT ((wr.setCell ⟨w.heap.size + 1 + 1, 0, none⟩ (.slice q l d)).setCell ⟨w.heap.size + 1 + 1, 1, none⟩ (.int .i64 (la : Nat))) (w.heap.size + 1 + 1) #[.slice q l d, .int .i64 (la : Nat)] 27) := (HRr.out.set (i := 0) _).set (i := 1) _
      clear HD HOB hF HSr HXr HRr HLr
      go_wp2_with fail
      have r0 : ((wr.setCell ⟨w.heap.size + 1 + 1, 0, none⟩ (.slice q l d)).setCell ⟨w.heap.size + 1 + 1, 1, none⟩ (.int .i64 (la : Nat))).cell? ⟨w.heap.size + 1 + 1, 0, none⟩ = some (.slice q l d) := HBR.out.cell
      have r1 : ((wr.setCell ⟨w.heap.size + 1 + 1, 0, none⟩ (.slice q l d)).setCell ⟨w.heap.size + 1 + 1, 1, none⟩ (.int .i64 (la : Nat))).cell? ⟨w.heap.size + 1 + 1, 1, none⟩ = some (.int .i64 (la : Nat)) := HBR.out.cell
      have HE2 : Hid (DocT ((wr.setCell ⟨w.heap.size + 1 + 1, 0, none⟩ (.slice q l d)).setCell ⟨w.heap.size + 1 + 1, 1, none⟩ (.int .i64 (la : Nat))) _ _ _ ∧ Below _ _ _) := HE
      generalize (wr.setCell ⟨w.heap.size + 1 + 1, 0, none⟩ (.slice q l d)).setCell ⟨w.heap.size + 1 + 1, 1, none⟩ (.int .i64 (la : Nat)) = wz at *
      refine bodyPost_ret (v := tvD (.slice q l d) la) (by simp [results, Try.results34, go_sem, r0, r1]) rfl ?_
      exact ⟨⟨_, rfl, HE2.out.1⟩, HE2.out.2⟩
    · have hj1 : j < D.length := by omega
      obtain ⟨b, rfl, hb, y0, y1, y2⟩ := HRD.out j hj1
      have z0 := (HLr.out.cell (p := ⟨b, j * 3, none⟩) hb).trans y0
      have z1 := (HLr.out.cell (p := ⟨b, j * 3 + 1, none⟩) hb).trans y1
      have z2 := (HLr.out.cell (p := ⟨b, j * 3 + 2, none⟩) hb).trans y2
      have HT := HWT.out j hj1
      have HTL : Hid ((E.take j).length = j) := by have := HWL.out; show _ = _; rw [List.length_take]; omega
      clear y0 y1 y2 hj0
      by_cases hja : (j : Int) = a
      · rw [if_pos hja] at HT
        have cx0 : wr.cell? ⟨w.heap.size + 1, 0, none⟩ = some (.int .i64 x.num) := HXr.out.cell
        have cx1 : wr.cell? ⟨w.heap.size + 1, 1, none⟩ = some (.int .i64 x.st) := HXr.out.cell
        have cx2 : wr.cell? ⟨w.heap.size + 1, 2, none⟩ = some (.int .u64 (x.sp : Nat)) := HXr.out.cell
        obtain ⟨g, cap, we, hrun, hD2, hF2⟩ := docApp wr (w.heap.size + 4) _ _ x HD.out (by have := HTL.out; omega) HZr.out
        rw [HTL.out] at hrun hD2
        have hob2 : we.heap[w.heap.size + 3]? = wr.heap[w.heap.size + 3]? := hF2.block _ (by have := HZr.out; omega) (fun e => by have := HD.out.low e; omega)
        have HOB2 : Hid (BoxT we (w.heap.size + 3) _ _) := hob2.trans HOB.out
        have ce0 : we.cell? ⟨w.heap.size + 3, 0, none⟩ = some (.slice q l d) := HOB2.out.cell
        have fe0 : we.frozen? ⟨w.heap.size + 3, 0, none⟩ = false := HOB2.out.frozen
        have HUN : Hid (∃ q l d, BoxT (we.setCell ⟨w.heap.size + 3, 0, none⟩ (.slice (some ⟨g, 0, none⟩) (j + 1) cap)) (w.heap.size + 3) #[.slice q l d, .int .i64 (la : Nat)] 27 ∧ DocT (we.setCell ⟨w.heap.size + 3, 0, none⟩ (.slice (some ⟨g, 0, none⟩) (j + 1) cap)) (w.heap.size + 4) (.slice q l d) (E.take (j + 1))) := by
          refine ⟨_, _, _, HOB2.out.set _, ?_⟩
          rw [HT]
          refine hD2.block (fun g' hg' => ?_)
          have h1 := hD2.low hg'
          exact Below.heap_setCell _ _ _ _ (by simp; omega)
        have HFN : Hid (Frm w4 (we.setCell ⟨w.heap.size + 3, 0, none⟩ (.slice (some ⟨g, 0, none⟩) (j + 1) cap)) (fun k => k = w.heap.size + 3)) := (hF.out.trans hF2 (fun k hk => .inr (by rw [HS4.out]; exact HD.out.low hk))).trans (frm_set we _ 0 _ (F := fun k => k = w.heap.size + 3) rfl) (fun k hk => .inl hk)
        clear HT hD2 hF2 hob2 HOB2 HD hF HOB HSr HXr HRr HLr
        go_wp2_with (first | (at_builtin; refine wpList_appT _ _ rfl (.tmp 23) (.tmp 25) 25 rfl _ _ _ rfl rfl hrun ?_))
        go_roundw
        case rel => exact ⟨j + 1, by omega, by go_num, HUN, HFN⟩
        case measure => simp [intOf]; omega
      · rw [if_neg hja] at HT
        obtain ⟨g, cap, we, hrun, hD2, hF2⟩ := docApp wr.drew (w.heap.size + 4) _ _ D[j] HD.out (by have := HTL.out; omega) HZr.out
        rw [HTL.out] at hrun hD2
        have hob2 : we.heap[w.heap.size + 3]? = wr.heap[w.heap.size + 3]? := hF2.block _ (by have := HZr.out; show _ < wr.heap.size; omega) (fun e => by have := HD.out.low e; omega)
        have HOB2 : Hid (BoxT we (w.heap.size + 3) _ _) := hob2.trans HOB.out
        have hsb2 : we.heap[w.heap.size]? = wr.heap[w.heap.size]? := hF2.block _ (by have := HZr.out; show _ < wr.heap.size; omega) (fun e => by have := HD.out.low e; omega)
        have hbb2 : we.heap[b]? = wr.heap[b]? := hF2.block _ (by have := HZr.out; show _ < wr.heap.size; omega) (fun e => by have := HD.out.low e; omega)
        have ce0 : we.cell? ⟨w.heap.size + 3, 0, none⟩ = some (.slice q l d) := HOB2.out.cell
        have fe0 : we.frozen? ⟨w.heap.size + 3, 0, none⟩ = false := HOB2.out.frozen
        have HUN : Hid (∃ q l d, BoxT (we.setCell ⟨w.heap.size + 3, 0, none⟩ (.slice (some ⟨g, 0, none⟩) (j + 1) cap)) (w.heap.size + 3) #[.slice q l d, .int .i64 (la : Nat)] 27 ∧ DocT (we.setCell ⟨w.heap.size + 3, 0, none⟩ (.slice (some ⟨g, 0, none⟩) (j + 1) cap)) (w.heap.size + 4) (.slice q l d) (E.take (j + 1))) := by
          refine ⟨_, _, _, HOB2.out.set _, ?_⟩
          rw [HT]
          refine hD2.block (fun g' hg' => ?_)
          have h1 := hD2.low hg'
          exact Below.heap_setCell _ _ _ _ (by simp; omega)
        have HFN : Hid (Frm w4 (we.setCell ⟨w.heap.size + 3, 0, none⟩ (.slice (some ⟨g, 0, none⟩) (j + 1) cap)) (fun k => k = w.heap.size + 3)) := (hF.out.drew.trans hF2 (fun k hk => .inr (by rw [HS4.out]; exact HD.out.low hk))).trans (frm_set we _ 0 _ (F := fun k => k = w.heap.size + 3) rfl) (fun k hk => .inl hk)
        have hal : Below wr.heap.size wr.drew (wr.drew.alloc (.cells #[.int .i64 D[j].num, .int .i64 D[j].st, .int .u64 (D[j].sp : Nat)] 86)) := (Below.refl wr.heap.size wr.drew).alloc (Nat.le_refl _) _
        have HS0 : Hid (wr.drew.cell? ⟨w.heap.size + 3, 0, none⟩ = some (.slice q l d) ∧ wr.drew.cell? ⟨w.heap.size, 0, none⟩ = some (.slice (some ⟨b, 0, none⟩) D.length c) ∧ wr.drew.cell? ⟨b, j * 3, none⟩ = some (.int .i64 D[j].num) ∧ wr.drew.cell? ⟨b, j * 3 + 1, none⟩ = some (.int .i64 D[j].st) ∧ wr.drew.cell? ⟨b, j * 3 + 2, none⟩ = some (.int .u64 (D[j].sp : Nat))) := ⟨co0, cs, z0, z1, z2⟩
        have zr := HZr.out
        have HS1 : Hid ((wr.drew.alloc (.cells #[.int .i64 D[j].num, .int .i64 D[j].st, .int .u64 (D[j].sp : Nat)] 86)).cell? ⟨w.heap.size + 3, 0, none⟩ = some (.slice q l d) ∧ (wr.drew.alloc (.cells #[.int .i64 D[j].num, .int .i64 D[j].st, .int .u64 (D[j].sp : Nat)] 86)).cell? ⟨w.heap.size, 0, none⟩ = some (.slice (some ⟨b, 0, none⟩) D.length c) ∧ (wr.drew.alloc (.cells #[.int .i64 D[j].num, .int .i64 D[j].st, .int .u64 (D[j].sp : Nat)] 86)).cell? ⟨b, j * 3, none⟩ = some (.int .i64 D[j].num) ∧ (wr.drew.alloc (.cells #[.int .i64 D[j].num, .int .i64 D[j].st, .int .u64 (D[j].sp : Nat)] 86)).cell? ⟨b, j * 3 + 1, none⟩ = some (.int .i64 D[j].st) ∧ (wr.drew.alloc (.cells #[.int .i64 D[j].num, .int .i64 D[j].st, .int .u64 (D[j].sp : Nat)] 86)).cell? ⟨b, j * 3 + 2, none⟩ = some (.int .u64 (D[j].sp : Nat))) :=
          ⟨(hal.cell (p := ⟨w.heap.size + 3, 0, none⟩) (show w.heap.size + 3 < wr.heap.size by omega)).trans co0, (hal.cell (p := ⟨w.heap.size, 0, none⟩) (show w.heap.size < wr.heap.size by omega)).trans cs, (hal.cell (p := ⟨b, j * 3, none⟩) (show b < wr.heap.size by omega)).trans z0, (hal.cell (p := ⟨b, j * 3 + 1, none⟩) (show b < wr.heap.size by omega)).trans z1, (hal.cell (p := ⟨b, j * 3 + 2, none⟩) (show b < wr.heap.size by omega)).trans z2⟩
        have HS2 : Hid (we.cell? ⟨w.heap.size + 3, 0, none⟩ = some (.slice q l d) ∧ we.cell? ⟨w.heap.size, 0, none⟩ = some (.slice (some ⟨b, 0, none⟩) D.length c) ∧ we.cell? ⟨b, j * 3, none⟩ = some (.int .i64 D[j].num) ∧ we.cell? ⟨b, j * 3 + 1, none⟩ = some (.int .i64 D[j].st) ∧ we.cell? ⟨b, j * 3 + 2, none⟩ = some (.int .u64 (D[j].sp : Nat))) :=
          ⟨ce0, (World.cell?_of_block (a := ⟨w.heap.size, 0, none⟩) hsb2).trans cs, (World.cell?_of_block (a := ⟨b, j * 3, none⟩) hbb2).trans z0, (World.cell?_of_block (a := ⟨b, j * 3 + 1, none⟩) hbb2).trans z1, (World.cell?_of_block (a := ⟨b, j * 3 + 2, none⟩) hbb2).trans z2⟩
        clear HT hD2 hF2 hob2 hsb2 hbb2 HOB2 HD hF HOB HSr HXr HRr HLr hal zr
        generalize D[j].num = yn at *
        generalize D[j].st = ys at *
        generalize (D[j].sp : Int) = yp at *
        go_wp2_with fail
        refine wp_region_L (fun w' => w'.cell? ⟨w.heap.size + 3, 0, none⟩ = some (.slice q l d) ∧ w'.cell? ⟨w.heap.size, 0, none⟩ = some (.slice (some ⟨b, 0, none⟩) D.length c) ∧ w'.cell? ⟨b, j * 3, none⟩ = some (.int .i64 yn) ∧ w'.cell? ⟨b, j * 3 + 1, none⟩ = some (.int .i64 ys) ∧ w'.cell? ⟨b, j * 3 + 2, none⟩ = some (.int .u64 yp)) 10 (by kernel_rfl) ?_
        refine wpL_take (v := ?_) 0 rfl (by kernel_rfl) (fun _ _ _ h => h) (by rfl) ?_ HS0.out ?_
        rotate_left
        focus
          intro w9 hw9
          obtain ⟨k0, k1, k2, k3, k4⟩ := hw9
          go_simp
          try with_reducible rfl
        try simp only [Act.put, List.setIfInBounds_toArray, List.set_cons_zero, List.set_cons_succ]
        refine wpL_take (v := ?_) 1 rfl (by kernel_rfl) (fun _ _ _ h => h) (by rfl) ?_ HS0.out ?_
        rotate_left
        focus
          intro w9 hw9
          obtain ⟨k0, k1, k2, k3, k4⟩ := hw9
          go_simp
          try with_reducible rfl
        try simp only [Act.put, List.setIfInBounds_toArray, List.set_cons_zero, List.set_cons_succ]
        refine wpL_take (v := ?_) 2 rfl (by kernel_rfl) (fun _ _ _ h => h) (by rfl) ?_ HS0.out ?_
        rotate_left
        focus
          intro w9 hw9
          obtain ⟨k0, k1, k2, k3, k4⟩ := hw9
          go_simp
          try with_reducible rfl
        try simp only [Act.put, List.setIfInBounds_toArray, List.set_cons_zero, List.set_cons_succ]
        refine wpL_take (v := ?_) 3 rfl (by kernel_rfl) (fun _ _ _ h => h) (by rfl) ?_ HS0.out ?_
        rotate_left
        focus
          intro w9 hw9
          obtain ⟨k0, k1, k2, k3, k4⟩ := hw9
          go_simp
          try with_reducible rfl
        try simp only [Act.put, List.setIfInBounds_toArray, List.set_cons_zero, List.set_cons_succ]
        refine wpL_take (v := ?_) 4 rfl (by kernel_rfl) (fun _ _ _ h => h) (by rfl) ?_ HS0.out ?_
        rotate_left
        focus
          intro w9 hw9
          obtain ⟨k0, k1, k2, k3, k4⟩ := hw9
          go_simp
          try with_reducible rfl
        try simp only [Act.put, List.setIfInBounds_toArray, List.set_cons_zero, List.set_cons_succ]
        refine wpL_take (v := ?_) 5 rfl (by kernel_rfl) (fun _ _ _ h => h) (by rfl) ?_ HS0.out ?_
        rotate_left
        focus
          intro w9 hw9
          obtain ⟨k0, k1, k2, k3, k4⟩ := hw9
          go_simp
          try with_reducible rfl
        try simp only [Act.put, List.setIfInBounds_toArray, List.set_cons_zero, List.set_cons_succ]
        refine wpL_take (v := ?_) 6 rfl (by kernel_rfl) (fun _ _ _ h => h) (by rfl) ?_ HS0.out ?_
        rotate_left
        focus
          intro w9 hw9
          obtain ⟨k0, k1, k2, k3, k4⟩ := hw9
          go_simp
          try with_reducible rfl
        try simp only [Act.put, List.setIfInBounds_toArray, List.set_cons_zero, List.set_cons_succ]
        refine wpL_one 7 rfl (by kernel_rfl) (by rfl) ?_
        intro K hK
        go_simp
        refine hK.out _ _ (fun _ => HS1.out) ?_
        clear hK K
        try simp only [Act.put, List.setIfInBounds_toArray, List.set_cons_zero, List.set_cons_succ]
        refine wpL_one 8 rfl (by kernel_rfl) (by rfl) ?_
        intro K hK
        refine operApp _ _ (.tmp 29) (.tmp 35) 25 rfl _ _ _ rfl rfl hrun ?_
        refine hK.out _ _ (fun _ => HS2.out) ?_
        clear hK K
        try simp only [Act.put, List.setIfInBounds_toArray, List.set_cons_zero, List.set_cons_succ]
        refine wpL_take (v := ?_) 9 rfl (by kernel_rfl) (fun _ _ _ h => h) (by rfl) ?_ HS2.out ?_
        rotate_left
        focus
          intro w9 hw9
          obtain ⟨k0, k1, k2, k3, k4⟩ := hw9
          go_simp
          try with_reducible rfl
        try simp only [Act.put, List.setIfInBounds_toArray, List.set_cons_zero, List.set_cons_succ]
        refine wpL_one 10 rfl (by kernel_rfl) (by rfl) ?_
        intro K hK
        go_simp
        refine hK.out _ _ (fun h => absurd rfl h) ?_
        clear hK K
        refine wpL_done (by kernel_rfl) ?_ _
        try simp only [NoPanic]
        go_wp2_with fail
        go_roundw
        case rel => exact ⟨j + 1, by omega, by go_num, HUN, HFN⟩
        case measure => simp [intOf]; omega
end Go.Proofs.Ytmcdpadmjicafaa
