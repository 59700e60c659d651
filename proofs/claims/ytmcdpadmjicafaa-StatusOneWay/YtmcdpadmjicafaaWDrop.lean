/- Walk: dropDecided: what is open moves together in its place. -/
import Derived.Test.YtmcdpadmjicafaaWOps9
import Derived.Test.YtmcdpadmjicafaaMSta2
import Derived.ArgAppend
namespace Go.Proofs.Ytmcdpadmjicafaa
open Go.RowKit Go.Maps
set_option maxRecDepth 100000

/-- THE ROW WHILE IT IS GONE THROUGH: first those that stay, from place j on what was there. -/
def RowG (w : World) (g cap j : Nat) (K Os : List Value) : Prop := ∃ cur, w.heap[g]? = some (.cells cur 78 (0, 0)) ∧ cur.size = cap ∧ (∀ (a : Nat) v, K[a]? = some v → cur[a]? = some v) ∧ ∀ (a : Nat) v, j ≤ a → Os[a]? = some v → cur[a]? = some v
theorem RowG.of_block {w w' : World} {g cap j : Nat} {K Os : List Value} (h : RowG w g cap j K Os) (hb : w'.heap[g]? = w.heap[g]?) : RowG w' g cap j K Os := by
  obtain ⟨cur, h1, h2⟩ := h
  exact ⟨cur, hb.trans h1, h2⟩
theorem RowG.lt {w : World} {g cap j : Nat} {K Os : List Value} (h : RowG w g cap j K Os) : g < w.heap.size := by
  obtain ⟨cur, h1, _⟩ := h
  exact (Array.getElem?_eq_some_iff.1 h1).1
theorem RowG.skip {w : World} {g cap j : Nat} {K Os : List Value} (h : RowG w g cap j K Os) : RowG w g cap (j + 1) K Os := by
  obtain ⟨cur, h1, h2, h3, h4⟩ := h
  exact ⟨cur, h1, h2, h3, fun a v ha => h4 a v (by omega)⟩
theorem RowG.put {w : World} {g cap j : Nat} {K Os : List Value} (h : RowG w g cap j K Os) (hk : K.length ≤ j) (hc : K.length < cap) (v : Value) : RowG (w.setCell ⟨g, K.length, none⟩ v) g cap (j + 1) (K ++ [v]) Os := by
  obtain ⟨cur, h1, h2, h3, h4⟩ := h
  refine ⟨cur.setIfInBounds K.length v, heap_set_same w g K.length v _ _ _ h1, by simpa using h2, fun a u ha => ?_, fun a u ha hu => ?_⟩
  · by_cases e : a = K.length
    · subst e
      rw [List.getElem?_append_right (Nat.le_refl _)] at ha
      simp at ha
      subst ha
      rw [Array.getElem?_setIfInBounds, if_pos rfl, if_pos (by omega)]
    · rw [Array.getElem?_setIfInBounds, if_neg (Ne.symm e)]
      have hl := (List.getElem?_eq_some_iff.1 ha).1
      rw [List.length_append, List.length_singleton] at hl
      rw [List.getElem?_append_left (by omega)] at ha
      exact h3 a u ha
  · rw [Array.getElem?_setIfInBounds, if_neg (by omega)]
    exact h4 a u (by omega) hu
theorem RowG.cell {w : World} {g cap j : Nat} {K Os : List Value} (h : RowG w g cap j K Os) {v : Value} (hv : Os[j]? = some v) : w.cell? ⟨g, j, none⟩ = some v := by
  obtain ⟨cur, h1, h2, h3, h4⟩ := h
  have := h4 j v (Nat.le_refl _) hv
  simp [World.cell?, h1, this]
theorem RowG.isC {w : World} {g cap j : Nat} {K Os : List Value} (h : RowG w g cap j K Os) (a : Nat) (ha : a < cap) : (w.cell? ⟨g, a, none⟩).isSome = true := by
  obtain ⟨cur, h1, h2, h3, h4⟩ := h
  have hl : a < cur.size := by omega
  simp [World.cell?, h1, hl]
theorem RowG.frozen {w : World} {g cap j : Nat} {K Os : List Value} (h : RowG w g cap j K Os) (a : Nat) : w.frozen? ⟨g, a, none⟩ = false := by
  obtain ⟨cur, h1, h2, h3, h4⟩ := h
  simp [World.frozen?, h1]
theorem RowG.owns {w : World} {g cap j : Nat} {K Os : List Value} (h : RowG w g cap j K Os) (hc : K.length ≤ cap) (hm : cap ≤ maxLen) : w.ownsRow 0 78 1 (.slice (some ⟨g, 0, none⟩) K.length cap) K.length K := by
  obtain ⟨cur, h1, h2, h3, h4⟩ := h
  refine ⟨by omega, .inr ⟨g, cap, cur, rfl, Nat.zero_le _, h1, hc, hm, by omega, ?_⟩⟩
  apply List.ext_getElem?
  intro a
  rw [Nat.mul_one]
  by_cases ha : a < K.length
  · rw [List.getElem?_take_of_lt ha, Array.getElem?_toList, List.getElem?_eq_getElem ha]
    exact h3 a _ (List.getElem?_eq_getElem ha)
  · rw [List.getElem?_eq_none (l := K) (by omega), List.getElem?_eq_none (by rw [List.length_take]; omega)]
/-- behind the end -/
theorem RowG.wipe {g cap j : Nat} {K Os : List Value} : ∀ (vs : List Value) (o : Nat) {w : World}, RowG w g cap j K Os → K.length ≤ o → ∃ J, RowG (w.setCells g o vs) g cap J K [] ∧ Frm w (w.setCells g o vs) (fun k => k = g)
  | [], o, w, h, ho => by
    obtain ⟨cur, h1, h2, h3, h4⟩ := h
    exact ⟨j, ⟨cur, h1, h2, h3, fun a v _ hv => by simp at hv⟩, Frm.refl _ _⟩
  | v :: vs, o, w, h, ho => by
    have h' : RowG (w.setCell ⟨g, o, none⟩ v) g cap j K [] := by
      obtain ⟨cur, h1, h2, h3, h4⟩ := h
      refine ⟨cur.setIfInBounds o v, heap_set_same w g o v _ _ _ h1, by simpa using h2, fun a u ha => ?_, fun a u _ hu => by simp at hu⟩
      have hl := (List.getElem?_eq_some_iff.1 ha).1
      rw [Array.getElem?_setIfInBounds, if_neg (by omega)]
      exact h3 a u ha
    obtain ⟨J, h5, h6⟩ := RowG.wipe vs (o + 1) h' (by omega)
    exact ⟨J, h5, (frm_set w g o v (F := fun k => k = g) rfl).trans h6 (fun k hk => .inl hk)⟩
theorem info_ptr : (Try.prog.info? 78).map (fun i => (i.zero, i.size, i.bytes)) = some (some (.pointer none), 1, 8) := by kernel_rfl

theorem StaX.dropped {w w' : World} {s r : Int} {F : Nat → Prop} {tb mb : Nat} {ov ov' : Value} {B : Nat → Nat} {O : List Nat} {T : List Tx} (h : StaX w s r F tb mb ov B O T) (G : Nat → Prop) (hf : Frm w w' G) (hG : ∀ k, G k → ov.ownBlock = some k) (hov : ov'.ownBlock = ov.ownBlock)
    (ho : w'.ownsRow 0 78 1 ov' (keepO T O).length ((keepO T O).map fun i => ptr1 (B i))) : StaX (w'.setCell ⟨tb, 8, none⟩ ov') s r F tb mb ov' B (keepO T O) T := by
  have kp : ∀ k, F k → (∀ g, ov.ownBlock = some g → k ≠ g) → w'.heap[k]? = w.heap[k]? := fun k hk hn => hf.block k (h.flt k hk) (fun hg => hn k (hG k hg) rfl)
  have hB : TabB w' tb s r T.length mb ov := (kp tb h.ftb (fun g hg => Ne.symm (h.ne_ov hg))).trans h.blk
  have hf2 : Frm w' (w'.setCell ⟨tb, 8, none⟩ ov') (fun k => k = tb) := frm_set w' tb 8 ov' rfl
  have hsz : ∀ k, F k → k < w'.heap.size := fun k hk => Nat.lt_of_lt_of_le (h.flt k hk) hf.size
  have kp2 : ∀ k, F k → k ≠ tb → (w'.setCell ⟨tb, 8, none⟩ ov').heap[k]? = w'.heap[k]? := fun k hk hn => hf2.block k (hsz k hk) hn
  refine { blk := hB.set8 ov', ftb := h.ftb, fmb := h.fmb, ftx := h.ftx, fov := fun g hg => h.fov g (hov ▸ hg), map := ?_, opn := ?_, tx := ?_, rise := h.rise.filter _, inn := ?_, all := ?_, few := Nat.le_trans (keepO_len T O) h.few, gon := h.gon, flt := fun k hk => Nat.lt_of_lt_of_le (hsz k hk) hf2.size }
  · exact h.map.of_block ((kp2 mb h.fmb h.ne_mb).trans (kp mb h.fmb (fun g hg => Ne.symm (h.ov_mb hg))))
  · exact owns_block ho (fun g hg => kp2 g (h.fov g (hov ▸ hg)) (h.ne_ov (hov ▸ hg)))
  · intro i x hx
    have hi := (List.getElem?_eq_some_iff.1 hx).1
    exact ((kp2 _ (h.ftx i hi) (h.ne_tx hi)).trans (kp _ (h.ftx i hi) (fun g hg => Ne.symm (h.ov_tx hg hi)))).trans (h.tx i x hx)
  · intro i hi
    exact h.inn i (List.mem_filter.1 hi).1
  · intro i x hx hd
    exact List.mem_filter.2 ⟨h.all i x hx hd, by rw [wdT_at hx, hd]; rfl⟩

theorem slice_from (w : World) (g n cap k : Nat) (h : k ≤ n) : ∃ o, (k < n → n ≤ cap → o = k) ∧ (Instr.sliceAt 67 (.slice (some ⟨g, 0, none⟩) n cap) (some (.int .i64 (k : Int))) none none).run Try.prog w = .ok (.slice (some ⟨g, o, none⟩) (n - k) (cap - k)) w := by
  have hs : (sizeOf (Try.prog.elem 67)).run Try.prog w = .ok 1 w := by kernel_rfl
  refine ⟨if cap = k then 0 else k, fun h1 h2 => by rw [if_neg (by omega)], ?_⟩
  have hu : Try.prog.underlying 67 = some (.slice (Try.prog.elem 67)) := by kernel_rfl
  rw [run_sliceAt_slice (P := Try.prog) (w := w) _ _ _ _ _ hu, run_slice_l (P := Try.prog) (w := w) _ _ _ _ hu _ _ (by omega) (by omega), hs]
  simp only [Result.andThen, sliced, Int.toNat_natCast]
  split
  · rfl
  · simp [Addr.add]
    exact fun h => h.symm
theorem clear_none (w : World) (a : Option Addr) (c : Nat) (ty : TypeId) : (Builtin.clear_ #[67] ty #[.slice a 0 c]).run Try.prog w = .ok (.tuple #[]) w := by
  cases a <;> simp [Builtin.clear_, run_underlying Try.underlying67]
theorem append_in (w : World) (g cap k : Nat) (v : Value) (h1 : v.oneCell' = true) (hk : k < cap) (hc : (w.cell? ⟨g, k, none⟩).isSome = true) (hf : w.frozen? ⟨g, k, none⟩ = false) (ty : TypeId) :
    (Builtin.append_ #[67, 67] ty #[.slice (some ⟨g, 0, none⟩) k cap, .slice (some ⟨w.heap.size, 0, none⟩) 1 1]).run Try.prog (w.alloc (.cells #[v] 78)) = .ok (.slice (some ⟨g, 0, none⟩) (k + 1) cap) ((w.alloc (.cells #[v] 78)).setCell ⟨g, k, none⟩ v) := by
  obtain ⟨i, hi, hz0, hz1, hz2⟩ := info_parts info_ptr
  have hg : g < w.heap.size := by
    rcases Nat.lt_or_ge g w.heap.size with h' | h'
    · exact h'
    · simp [World.cell?, Array.getElem?_eq_none h'] at hc
  have hb : (w.alloc (.cells #[v] 78)).heap[g]? = w.heap[g]? := ((Below.refl w.heap.size w).alloc (Nat.le_refl _) _).block g hg
  have := run_append_room_cells (P := Try.prog) (w := w.alloc (.cells #[v] 78)) 67 ty 78 i Try.underlying67 hi g 0 k cap ⟨w.heap.size, 0, none⟩ 1 1 [v] (by rw [hz1]; rfl) (cell_one_new w v _) (by simpa using h1) (by omega)
    (fun j hj => by
      have ej : j = 0 := by simpa using hj
      subst ej
      rw [hz1, World.cell?_of_block (a := ⟨g, 0 + k * 1 + 0, none⟩) hb]
      simpa using hc)
    (fun j hj => by
      have ej : j = 0 := by simpa using hj
      subst ej
      rw [hz1, World.frozen?_of_block (a := ⟨g, 0 + k * 1 + 0, none⟩) hb]
      simpa using hf)
  rw [hz1] at this
  simpa [World.setCells] using this

/-- 'append(l, x)' at the operation, by what it runs to -/
theorem wpList_appIn {ops : Array Oper} {rest : List Oper} {o : Oper} {a : Act} {Q : Exit → Act → World → Prop} (w w2 : World) (hgd : o.guard = none) (s x : Operand) (S : TypeId)
    (ho : o.op = .call { callee := .builtin .append, args := #[s, x], argTypes := #[S, S] }) (v vx r : Value) (hs : a.eval s = v) (hx : a.eval x = vx)
    (hrun : ∀ ty, (Builtin.append_ #[S, S] ty #[v, vx]).run Try.prog w = .ok r w2) (h : wpList Try.prog ops Q rest (a.put o.dst r) w2) : wpList Try.prog ops Q (o :: rest) a w := by
  refine wpList_plain hgd fun K hK => ?_
  unfold Oper.wp execOp
  simp only [ho, resolve, invoke, builtin, Sem.run_bind, Sem.run_pure, Result.andThen_ok, List.map_toArray, List.map_cons, List.map_nil, hs, hx, hrun]
  exact hK _ _ h

set_option maxHeartbeats 2000000 in
theorem drop_any (F : Nat → Prop) (tb mb : Nat) (ov : Value) (B : Nat → Nat) (O : List Nat) (T : List Tx) (s r : Int) (w : World) (h : StaX w s r F tb mb ov B O T) :
    Calls Try.prog 33 #[ptr1 tb] w fun e w' => e = .returned (.tuple #[]) ∧ ∃ ov', StaX w' s r F tb mb ov' B (keepO T O) T ∧ Frm w w' F := by
  obtain ⟨c0, c2, c3, c4, c6, c7, c8⟩ := h.blk.cell
  have f8 := h.blk.frozen 8
  rcases h.opn.2 with ⟨rfl, hO⟩ | ⟨g, cap, cur, rfl, _, hg, hn, hmx, hcs, htk⟩
  · have hO' : O = [] := List.eq_nil_of_length_eq_zero hO
    subst hO'
    have HX : Hid (StaX (w.setCell ⟨tb, 8, none⟩ (.slice none 0 0)) s r F tb mb (.slice none 0 0) B (keepO T []) T) := h.dropped (fun _ => False) (Frm.refl w _) (fun k hk => hk.elim) rfl (World.ownsRow_nil _ _ _ _)
    have HF : Hid (Frm w (w.setCell ⟨tb, 8, none⟩ (.slice none 0 0)) F) := frm_set w tb 8 _ h.ftb
    clear h hO
    go_enter Try.func33, Try.ntmps33
    go_wp2_with fail
    go_loopw [2, 15] (fun v i wr => v = .slice none 0 0 ∧ i = .int .i64 0 ∧ wr = w) (fun _ _ _ => 0)
    case atStart => exact ⟨rfl, rfl, rfl⟩
    case round =>
      obtain ⟨rfl, rfl, rfl⟩ := hrel
      have hcl : ∀ ty, (Builtin.clear_ #[67] ty #[.slice none 0 0]).run Try.prog wr = .ok (.tuple #[]) wr := fun ty => by simp [Builtin.clear_, run_underlying Try.underlying67]
      go_wp2_with fail
      (try simp only [Exit.inBlock, Exit.then])
      refine bodyPost_end (results_none rfl _ _ _) rfl ?_
      exact ⟨rfl, _, HX.out, HF.out⟩
  · have hK0 : RowG w g cap 0 [] (O.map fun i => ptr1 (B i)) := by
      refine ⟨cur, hg, by omega, fun a v ha => by simp at ha, fun a v _ hv => ?_⟩
      rw [← htk] at hv
      have hl := (List.getElem?_eq_some_iff.1 hv).1
      rw [List.length_take] at hl
      rw [List.getElem?_take_of_lt (by omega), Array.getElem?_toList] at hv
      exact hv
    have hF0 : ∀ k, k = g → (Value.slice (some ⟨g, 0, none⟩) O.length cap).ownBlock = some k := fun k hk => by rw [hk]; rfl
    obtain ⟨ti, hi, hz0, hz1, hz2⟩ := info_parts info_ptr
    have HH : Hid (StaX _ _ _ _ _ _ _ _ _ _) := h
    have HK0 : Hid (RowG _ _ _ _ _ _) := hK0
    have HGT : Hid (g ≠ tb) := h.ne_ov rfl
    have HTX : Hid (∀ i, i < T.length → g ≠ B i) := fun i hi => h.ov_tx rfl hi
    have HN : Hid (O.length ≤ cap) := hn
    have HM : Hid (cap ≤ maxLen) := hmx
    clear h hK0 htk hcs hg hmx hn c0 c2 c3 c4 c6 c7
    go_enter Try.func33, Try.ntmps33
    go_wp2_with fail
    go_loopw [2, 15] (fun v i wr => ∃ j : Nat, j ≤ O.length ∧ i = .int .i64 (j : Int) ∧ v = .slice (some ⟨g, 0, none⟩) (keepO T (O.take j)).length cap ∧ Hid (RowG wr g cap j ((keepO T (O.take j)).map fun i => ptr1 (B i)) (O.map fun i => ptr1 (B i))) ∧ Hid (Frm w wr (fun k => k = g))) (fun _ i _ => O.length - (intOf i).toNat)
    case atStart => exact ⟨0, Nat.zero_le _, by go_num, rfl, HK0.out, Frm.refl _ _⟩
    case round =>
      obtain ⟨j, hj, rfl, rfl, hK, hF⟩ := hrel
      have hlk : Hid ((keepO T (O.take j)).length ≤ j) := Nat.le_trans (keepO_len T _) (by rw [List.length_take]; omega)
      by_cases hj0 : j = O.length
      · subst hj0
        have c8' : wr.cell? ⟨tb, 8, none⟩ = some (.slice (some ⟨g, 0, none⟩) O.length cap) := (World.cell?_of_block (a := ⟨tb, 8, none⟩) (hF.out.block tb (HH.out.flt _ HH.out.ftb) (Ne.symm HGT.out))).trans c8
        have f8' : wr.frozen? ⟨tb, 8, none⟩ = false := (World.frozen?_of_block (a := ⟨tb, 8, none⟩) (hF.out.block tb (HH.out.flt _ HH.out.ftb) (Ne.symm HGT.out))).trans f8
        rw [List.take_length] at hK hlk ⊢
        obtain ⟨ox, hox, hsl⟩ := slice_from wr g O.length cap (keepO T O).length hlk.out
        have HEND : Hid (∀ J (w2 : World), RowG w2 g cap J ((keepO T O).map fun i => ptr1 (B i)) [] → Frm w w2 (fun k => k = g) → StaX (w2.setCell ⟨tb, 8, none⟩ (.slice (some ⟨g, 0, none⟩) (keepO T O).length cap)) s r F tb mb (.slice (some ⟨g, 0, none⟩) (keepO T O).length cap) B (keepO T O) T ∧ Frm w (w2.setCell ⟨tb, 8, none⟩ (.slice (some ⟨g, 0, none⟩) (keepO T O).length cap)) F) := fun J w2 h2 h3 => by
          have h4 := h2.owns (by rw [List.length_map]; exact Nat.le_trans hlk.out HN.out) HM.out
          rw [List.length_map] at h4
          exact ⟨HH.out.dropped (fun k => k = g) h3 hF0 rfl h4, (h3.mono (fun k hk => by rw [hk]; exact HH.out.fov g rfl)).trans (frm_set w2 tb 8 _ (F := fun k => k = tb) rfl) (fun k hk => .inl (by rw [hk]; exact HH.out.ftb))⟩
        have HKF : Hid (∃ J, RowG (wr.setCells g (keepO T O).length (List.replicate (O.length - (keepO T O).length) (.pointer none))) g cap J ((keepO T O).map fun i => ptr1 (B i)) [] ∧ Frm wr _ (fun k => k = g)) := RowG.wipe _ _ hK.out (by rw [List.length_map]; exact Nat.le_refl _)
        have HCL : Hid (0 < O.length - (keepO T O).length → ∀ ty c, (Builtin.clear_ #[67] ty #[.slice (some ⟨g, (keepO T O).length, none⟩) (O.length - (keepO T O).length) c]).run Try.prog wr = .ok (.tuple #[]) (wr.setCells g (keepO T O).length (List.replicate (O.length - (keepO T O).length) (.pointer none)))) := fun hp ty c =>
          Lib.run_clear_slice wr 67 78 ty (.pointer none) Try.underlying67 zeroP rfl rfl g _ _ c hp (fun j hj => hK.out.isC _ (by have := HN.out; omega)) (fun j _ => hK.out.frozen _)
        by_cases hz : (keepO T O).length = O.length
        · have e0 : O.length - (keepO T O).length = 0 := by omega
          rw [e0] at hsl HKF
          have hcl := clear_none wr (some ⟨g, ox, none⟩) (cap - (keepO T O).length)
          obtain ⟨J, hk1, hk2⟩ := HKF.out
          have HE : Hid _ := HEND.out J wr hk1 hF.out
          clear hK hF hlk HCL HKF HEND e0 hz hox hk1 hk2 HK0 HN HM hF0 hj
          generalize (keepO T O).length = k at *
          generalize O.length = n at *
          go_wp2_with fail
          (try simp only [Exit.inBlock, Exit.then])
          refine bodyPost_end (results_none rfl _ _ _) rfl ?_
          exact ⟨rfl, _, HE.out⟩
        · have hp : 0 < O.length - (keepO T O).length := by have := hlk.out; omega
          have e1 : ox = (keepO T O).length := hox (by omega) HN.out
          subst e1
          have hcl := fun ty => HCL.out hp ty (cap - (keepO T O).length)
          obtain ⟨J, hk1, hk2⟩ := HKF.out
          generalize hwx : wr.setCells g (keepO T O).length (List.replicate (O.length - (keepO T O).length) (.pointer none)) = wx at *
          have HE : Hid _ := HEND.out J wx hk1 (hF.out.trans hk2 (fun k hk => .inl hk))
          have f8x : wx.frozen? ⟨tb, 8, none⟩ = false := (World.frozen?_of_block (a := ⟨tb, 8, none⟩) (hk2.block tb (Nat.lt_of_lt_of_le (HH.out.flt _ HH.out.ftb) hF.out.size) (Ne.symm HGT.out))).trans f8'
          have c8x : wx.cell? ⟨tb, 8, none⟩ = _ := (World.cell?_of_block (a := ⟨tb, 8, none⟩) (hk2.block tb (Nat.lt_of_lt_of_le (HH.out.flt _ HH.out.ftb) hF.out.size) (Ne.symm HGT.out))).trans c8'
          clear hK hF hlk HCL HKF HEND hp hz hox hk1 hk2 HK0 HN HM hF0 hj hwx
          generalize (keepO T O).length = k at *
          generalize O.length = n at *
          go_wp2_with fail
          (try simp only [Exit.inBlock, Exit.then])
          refine bodyPost_end (results_none rfl _ _ _) rfl ?_
          exact ⟨rfl, _, HE.out⟩
      · have hj1 : j < O.length := by omega
        have hoj : O[j] < T.length := HH.out.inn _ (List.getElem_mem hj1)
        have hx := List.getElem?_eq_getElem hoj
        have hv : (O.map fun i => ptr1 (B i))[j]? = some (ptr1 (B O[j])) := by rw [List.getElem?_map, List.getElem?_eq_getElem hj1]; rfl
        have ca := hK.out.cell hv
        have hb : wr.heap[B O[j]]? = w.heap[B O[j]]? := hF.out.block _ (HH.out.flt _ (HH.out.ftx _ hoj)) (Ne.symm (HTX.out _ hoj))
        have cb : wr.cell? ⟨B O[j], 1, none⟩ = some (.int .u64 ((wdT T O[j] : Nat) : Int)) := by
          rw [wdT_at hx]
          exact (World.cell?_of_block (a := ⟨B O[j], 1, none⟩) hb).trans (HH.out.cell1 hx).2.1
        have C1 : Hid (Calls _ _ _ _ _) := load_any (B O[j]) 1 _ wr cb
        have C2 : Hid (Calls _ _ _ _ _) := decided_any (wdT T O[j]) wr
        have hkt := keepO_take T O j hj1
        have hfew := HH.out.few
        clear hb hv cb
        cases hd : decd (wdT T O[j])
        · rw [hd] at C2 hkt
          rw [if_neg (by simp)] at hkt
          have hkc : (keepO T (O.take j)).length < cap := by have := hlk.out; have := HN.out; omega
          have happ := append_in wr g cap (keepO T (O.take j)).length (ptr1 (B O[j])) rfl hkc (hK.out.isC _ hkc) (hK.out.frozen _)
          have hal : Frm wr (wr.alloc (.cells #[ptr1 (B O[j])] 78)) (fun _ => False) := Frm.of_below ((Below.refl _ _).alloc (Nat.le_refl _) _)
          have hK2 := (hK.out.of_block (hal.block g hK.out.lt (by simp))).put (by rw [List.length_map]; exact hlk.out) (by rw [List.length_map]; exact hkc) (ptr1 (B O[j]))
          have HKN : Hid (RowG ((wr.alloc (.cells #[ptr1 (B O[j])] 78)).setCell ⟨g, (keepO T (O.take j)).length, none⟩ (ptr1 (B O[j]))) g cap (j + 1) ((keepO T (O.take (j + 1))).map fun i => ptr1 (B i)) (O.map fun i => ptr1 (B i))) := by
            rw [List.length_map] at hK2
            rw [hkt, List.map_append]
            exact hK2
          have HFN : Hid (Frm w ((wr.alloc (.cells #[ptr1 (B O[j])] 78)).setCell ⟨g, (keepO T (O.take j)).length, none⟩ (ptr1 (B O[j]))) (fun k => k = g)) := (hF.out.trans hal (fun k hk => hk.elim)).trans (frm_set _ g _ _ (F := fun k => k = g) rfl) (fun k hk => .inl hk)
          have HLN : Hid ((keepO T (O.take (j + 1))).length = (keepO T (O.take j)).length + 1) := by rw [hkt]; simp [Hid]
          clear hK hF hlk hkt hkc hal hK2 hx hoj hd hj0
          generalize (keepO T (O.take j)).length = k at *
          generalize B O[j] = bx at *
          go_wp2_with fail
          refine C1.out.mono ?_
          rintro e w2 ⟨rfl, hw⟩
          rw [hw]
          clear hw
          go_wp2_with fail
          refine C2.out.mono ?_
          rintro e w2 ⟨rfl, hw⟩
          rw [hw]
          clear hw
          go_wp2_with (first | (at_builtin; refine wpList_appIn _ _ rfl (.tmp 25) (.tmp 27) 67 rfl _ _ _ rfl rfl happ ?_))
          go_roundw
          case rel => exact ⟨j + 1, by omega, by go_num, by rw [HLN.out], HKN.out, HFN.out⟩
          case measure => simp [intOf]; omega
        · rw [hd] at C2 hkt
          rw [if_pos rfl, List.append_nil] at hkt
          have HKN : Hid (RowG wr g cap (j + 1) ((keepO T (O.take (j + 1))).map fun i => ptr1 (B i)) (O.map fun i => ptr1 (B i))) := by
            rw [hkt]
            exact hK.out.skip
          have HLN : Hid ((keepO T (O.take (j + 1))).length = (keepO T (O.take j)).length) := by rw [hkt]; rfl
          have HFN : Hid (Frm w wr (fun k => k = g)) := hF
          clear hK hF hlk hkt hx hoj hd hj0
          generalize (keepO T (O.take j)).length = k at *
          generalize B O[j] = bx at *
          go_wp2_with fail
          refine C1.out.mono ?_
          rintro e w2 ⟨rfl, hw⟩
          rw [hw]
          clear hw
          go_wp2_with fail
          refine C2.out.mono ?_
          rintro e w2 ⟨rfl, hw⟩
          rw [hw]
          clear hw
          go_wp2_with fail
          go_roundw
          case rel => exact ⟨j + 1, by omega, by go_num, by rw [HLN.out], HKN.out, HFN.out⟩
          case measure => simp [intOf]; omega
end Go.Proofs.Ytmcdpadmjicafaa
