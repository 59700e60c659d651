/- slices.Delete of the first commits. slices.Delete of the first commits. -/
import Derived.Laws.OwnMore
import Derived.Test.YtcknhjabdjbjiaaGreatGWTr1
namespace Go.Proofs.YtcknhjabdjbjiaaGreat
open Go.RowKit
set_option maxRecDepth 100000

theorem ccells_len (L : List Cm) : (ccells L).length = L.length * 4 := by
  induction L with
  | nil => rfl
  | cons c L ih =>
    have e : ccells (c :: L) = .int .u64 (c.s : Nat) :: c.v0 :: c.v1 :: c.v2 :: ccells L := rfl
    rw [e, List.length_cons, List.length_cons, List.length_cons, List.length_cons, ih, List.length_cons]
    omega
theorem ccells_drop (L : List Cm) (k : Nat) : ccells (L.drop k) = (ccells L).drop (k * 4) := by
  induction L generalizing k with
  | nil => simp [ccells]
  | cons c L ih =>
    cases k with
    | zero => simp
    | succ k =>
      have e : (k + 1) * 4 = k * 4 + 1 + 1 + 1 + 1 := by omega
      have hc : ccells (c :: L) = .int .u64 (c.s : Nat) :: c.v0 :: c.v1 :: c.v2 :: ccells L := rfl
      rw [List.drop_succ_cons, hc, e, List.drop_succ_cons, List.drop_succ_cons, List.drop_succ_cons, List.drop_succ_cons, ih]
theorem ccells_take (L : List Cm) (k : Nat) : ccells (L.take k) = (ccells L).take (k * 4) := by
  induction L generalizing k with
  | nil => simp [ccells]
  | cons c L ih =>
    cases k with
    | zero => simp [ccells]
    | succ k =>
      have e : (k + 1) * 4 = k * 4 + 1 + 1 + 1 + 1 := by omega
      have hc : ccells (c :: L) = .int .u64 (c.s : Nat) :: c.v0 :: c.v1 :: c.v2 :: ccells L := rfl
      have hc2 : ccells (c :: L.take k) = .int .u64 (c.s : Nat) :: c.v0 :: c.v1 :: c.v2 :: ccells (L.take k) := rfl
      rw [List.take_succ_cons, hc2, hc, e, List.take_succ_cons, List.take_succ_cons, List.take_succ_cons, List.take_succ_cons, ih]
theorem setCells_row4 (g : Nat) (t : TypeId) : ∀ (vs : List Value) (o : Nat) (w : World) (cur : Array Value), w.heap[g]? = some (.cells cur t (0, 0)) →
    ∃ cur', (w.setCells g o vs).heap[g]? = some (.cells cur' t (0, 0)) ∧ cur'.size = cur.size ∧ ∀ j, j < o → cur'[j]? = cur[j]?
  | [], _, w, cur, h => ⟨cur, h, rfl, fun _ _ => rfl⟩
  | v :: vs, o, w, cur, h => by
    have h1 := heap_setCell_same w g o cur t v h
    obtain ⟨cur', h2, h3, h4⟩ := setCells_row4 g t vs (o + 1) (w.setCell ⟨g, o, none⟩ v) (cur.setIfInBounds o v) h1
    refine ⟨cur', h2, by rw [h3]; simp, fun j hj => ?_⟩
    rw [h4 j (by omega), Array.getElem?_setIfInBounds_ne (by omega)]
theorem setCells_frm4 (g : Nat) : ∀ (vs : List Value) (o : Nat) (w : World), Frm w (w.setCells g o vs) (fun k => k = g)
  | [], _, _ => Frm.refl _ _
  | v :: vs, o, w => (frm_set w g o v (F := fun k => k = g) (.inl rfl)).trans (setCells_frm4 g vs (o + 1) (w.setCell ⟨g, o, none⟩ v)) (fun _ h => .inl h)
/-- the row cut to its first commits, whatever is laid behind them -/
theorem OwnC.cut {w : World} {B g cap n : Nat} {M : List Cm} (h : OwnC w B (.slice (some ⟨g, 0, none⟩) n cap) M) (hn : n = M.length) (vs : List Value) :
    OwnC (w.setCells g (n * 4) vs) B (.slice (some ⟨g, 0, none⟩) n cap) M := by
  subst hn
  rcases h.2 with ⟨h1, _⟩ | ⟨g', cap', cur, e, hb, hg, hn1, hm, hs, ht⟩
  · cases h1
  · injection e with e1 e2 e3
    injection e1 with e1
    injection e1 with e1
    subst e1 e3
    obtain ⟨cur', c1, c2, c3⟩ := setCells_row4 g 80 vs (M.length * 4) w cur hg
    refine ⟨by rw [ccells_len], .inr ⟨g, cap, cur', rfl, hb, c1, hn1, hm, by rw [c2]; exact hs, ?_⟩⟩
    rw [← ht]
    apply List.ext_getElem?
    intro j
    rw [List.getElem?_take, List.getElem?_take]
    split
    · rename_i hj
      rw [Array.getElem?_toList, Array.getElem?_toList, c3 j hj]
    · rfl
def zeroC (n : Nat) : List Value := (Builtin.zeroCells #[.int .u64 0, .slice none 0 0, .slice none 0 0, .slice none 0 0] n).toList
theorem zeroC_len (n : Nat) : (zeroC n).length = n * 4 := by simp [zeroC, Builtin.zeroCells]
theorem zeroC_one (n : Nat) : ∀ v ∈ zeroC n, v.oneCell' = true := by
  intro v hv
  simp [zeroC, Builtin.zeroCells] at hv
  obtain ⟨j, h1, rfl⟩ := hv
  have h3 : j % 4 = 0 ∨ j % 4 = 1 ∨ j % 4 = 2 ∨ j % 4 = 3 := by omega
  rcases h3 with e | e | e | e <;> simp [e] <;> rfl
theorem zeroV_cm (w : World) : (zeroValue 80).run Tryz.prog w = .ok (.agg #[.int .u64 0, .slice none 0 0, .slice none 0 0, .slice none 0 0]) w := by kernel_rfl
theorem run_clearC (w : World) (ty : TypeId) (b o n c : Nat) (hn : 0 < n) (hc : ∀ j, j < n * 4 → (w.cell? ⟨b, o + j, none⟩).isSome = true) (hf : ∀ j, j < n * 4 → w.frozen? ⟨b, o + j, none⟩ = false) :
    (Builtin.clear_ #[74] ty #[.slice (some ⟨b, o, none⟩) n c]).run Tryz.prog w = .ok (.tuple #[]) (w.setCells b o (zeroC n)) := by
  have hst := run_storeCells_cells (P := Tryz.prog) b o (zeroC n) 0 w (by rw [zeroC_len]; simpa using hc) (by rw [zeroC_len]; simpa using hf) (zeroC_one n)
  simp only [Nat.add_zero] at hst
  obtain ⟨m, rfl⟩ : ∃ m, n = m + 1 := ⟨n - 1, by omega⟩
  have hz : (Value.agg #[.int .u64 0, .slice none 0 0, .slice none 0 0, .slice none 0 0]).cells = #[.int .u64 0, .slice none 0 0, .slice none 0 0, .slice none 0 0] := by first | rfl | kernel_rfl | simp [Value.cells]
  unfold zeroC at hst ⊢
  simp [Builtin.clear_, run_underlying Tryz.underlying74, hz, hst]

end Go.Proofs.YtcknhjabdjbjiaaGreat

namespace Go.Proofs.YtcknhjabdjbjiaaGreat
open Go.RowKit
set_option maxRecDepth 100000

theorem OwnC.zero {w : World} {B g cap n : Nat} {M : List Cm} (h : OwnC w B (.slice (some ⟨g, 0, none⟩) n cap) M) : OwnC w B (.slice (some ⟨g, 0, none⟩) 0 cap) [] := by
  rcases h.2 with ⟨h1, _⟩ | ⟨g', cap', cur, e, hb, hg, hn1, hm, hs, ht⟩
  · cases h1
  · injection e with e1 e2 e3
    injection e1 with e1
    injection e1 with e1
    subst e1 e3
    exact ⟨rfl, .inr ⟨g, cap, cur, rfl, hb, hg, Nat.zero_le _, hm, hs, by simp [ccells]⟩⟩
theorem OwnC.capC {w : World} {B g cap n : Nat} {M : List Cm} (h : OwnC w B (.slice (some ⟨g, 0, none⟩) n cap) M) : M.length ≤ cap ∧ cap ≤ maxLen ∧ ∃ cur, Blk w g cur 80 ∧ cur.size = cap * 4 := by
  rcases h.2 with ⟨h1, _⟩ | ⟨g', cap', cur, e, hb, hg, hn1, hm, hs, ht⟩
  · cases h1
  · injection e with e1 e2 e3
    injection e1 with e1
    injection e1 with e1
    subst e1 e3
    exact ⟨hn1, hm, cur, hg, hs⟩
theorem wp_append_runC {o : Oper} {a : Act} {K : Act → World → Prop} {Q : Exit → Act → World → Prop} (w w' : World) (v : Value) (s x : Operand)
    (ho : o.op = .call { callee := .builtin .append, args := #[s, x], argTypes := #[74, 74] })
    (u1 u2 : Value) (hs : a.eval s = u1) (hx : a.eval x = u2) (hr : ∀ ty, (Builtin.append_ #[74, 74] ty #[u1, u2]).run Tryz.prog w = .ok v w') (h : K (a.put o.dst v) w') : Oper.wp Tryz.prog o a w K Q := by
  unfold Oper.wp execOp
  simp only [ho, resolve, invoke, builtin, Sem.run_bind, Sem.run_pure, Result.andThen_ok, List.map_toArray, List.map_cons, List.map_nil, hs, hx, hr]
  exact h
set_option maxHeartbeats 4000000 in
theorem deleteC_any (L : List Cm) (vC : Value) (B n : Nat) (w : World) (hO : OwnC w B vC L) (h1 : ∀ c ∈ L, c.v0.oneCell' = true ∧ c.v1.oneCell' = true ∧ c.v2.oneCell' = true) (hn : n ≤ L.length) (hlen : L.length ≤ 4096) :
    Calls Tryz.prog 32 #[vC, .int .i64 0, .int .i64 (n : Nat)] w fun e w' => ∃ v', e = .returned v' ∧ OwnC w' B v' (L.drop n) ∧ Frm w w' (fun k => vC.ownBlock = some k) := by
  by_cases hn0 : n = 0
  · subst hn0
    obtain ⟨p, c, rfl, hlc, -, -⟩ := hO.row
    obtain ⟨len, hl⟩ : ∃ len, L.length = len := ⟨_, rfl⟩
    have HO : Hid (OwnC w B (.slice p len c) L) := by rw [← hl]; exact hO
    rw [hl] at hlc hlen ⊢
    clear hO hl hn h1
    go_enter Tryz.func32, Tryz.ntmps32
    go_wp2_with fail
    go_ret
    exact ⟨_, rfl, HO.out, Frm.refl _ _⟩
  · obtain ⟨g, cap, hvC⟩ : ∃ g cap, vC = .slice (some ⟨g, 0, none⟩) L.length cap := by
      rcases (show w.ownsRow B 80 4 vC L.length (ccells L) from hO).2 with ⟨rfl, h0⟩ | ⟨g, cap, cur, rfl, _⟩
      · omega
      · exact ⟨g, cap, rfl⟩
    subst hvC
    obtain ⟨hlc, hcm, cur, hbk, hcs⟩ := hO.capC
    obtain ⟨i, hi, hz0, hz1, hz2⟩ := info_parts info_C
    obtain ⟨len, hl⟩ : ∃ len, L.length = len := ⟨_, rfl⟩
    have HO : Hid (OwnC w B (.slice (some ⟨g, 0, none⟩) len cap) L) := by rw [← hl]; exact hO
    obtain ⟨m, hm⟩ : ∃ m, len - n = m := ⟨_, rfl⟩
    have hlm : (L.drop n).length = m := by rw [List.length_drop, hl]; exact hm
    have HA : Hid (∀ wd : World, Frm w wd (fun _ => False) → ∃ w', (∀ ty, (Builtin.append_ #[74, 74] ty #[.slice (some ⟨g, 0, none⟩) 0 cap, .slice (some (if cap = n then ⟨g, 0, none⟩ else ⟨g, n * 4, none⟩)) m (cap - n)]).run Tryz.prog wd = .ok (.slice (some ⟨g, 0, none⟩) m cap) w') ∧ OwnC w' B (.slice (some ⟨g, 0, none⟩) m cap) (L.drop n) ∧ wd.grownBy w' (some g)) := fun wd hwd => by
      have hd : Below w.heap.size w wd := hwd.below (Nat.le_refl _) (fun _ h => h.elim)
      have hOd : OwnC wd B (.slice (some ⟨g, 0, none⟩) len cap) L := HO.out.on hd
      have hr := fun ty => run_append_fits (P := Tryz.prog) wd B 74 ty 80 i 4 Tryz.underlying74 hi hz1 g 0 cap (ccells []) hOd.zero (if cap = n then ⟨g, 0, none⟩ else ⟨g, n * 4, none⟩) m (cap - n) (ccells (L.drop n)) (by rw [ccells_len, hlm]) (by
        intro j u hu
        have hjl : j < m * 4 := by
          have := (List.getElem?_eq_some_iff.1 hu).1
          rw [ccells_len, hlm] at this
          exact this
        have hne : ¬ cap = n := by omega
        rw [if_neg hne]
        have e : (⟨g, n * 4, none⟩ : Addr).add j = ⟨g, n * 4 + j, none⟩ := by unfold Addr.add; split <;> simp_all
        rw [e]
        rw [ccells_drop, List.getElem?_drop] at hu
        have hx := World.ownsRow.cellAt (show wd.ownsRow B 80 4 (.slice (some ⟨g, 0, none⟩) len cap) len (ccells L) by have := hOd; unfold OwnC at this; rw [hl] at this; exact this) (n * 4 + j) (by omega)
        rw [hx]
        exact hu) (by
        intro u hu
        unfold ccells at hu
        obtain ⟨c, hc, h2⟩ := List.mem_flatMap.1 hu
        simp only [List.mem_cons, List.not_mem_nil, or_false] at h2
        have h3 := h1 c (List.mem_of_mem_drop hc)
        rcases h2 with rfl | rfl | rfl | rfl
        · rfl
        · exact h3.1
        · exact h3.2.1
        · exact h3.2.2) (by omega)
      obtain ⟨w', h4, h5, h6⟩ := hr 0
      refine ⟨w', fun ty => ?_, ?_, h6⟩
      · rw [Nat.zero_add] at h4
        exact h4
      · unfold OwnC
        rw [hlm]
        rw [Nat.zero_add] at h5
        exact h5
    have HF : Hid (L.length = len ∧ len - n = m ∧ 0 < n ∧ n ≤ len ∧ len ≤ cap ∧ len ≤ 4096) := ⟨hl, hm, by omega, by omega, by omega, by omega⟩
    have hn1 : n ≤ len := by omega
    have hn2 : 0 < n := by omega
    have hlc2 : len ≤ cap := by omega
    rw [hl]
    rw [hl] at hlen
    clear hO hbk hcs hi hz0 hz1 hz2 hlc hcm hlm h1 hn hl hn0 hm
    go_enter Tryz.func32, Tryz.ntmps32
    by_cases hcn : cap = n
    · have hln : len = n := by omega
      have hm0 : m = 0 := by have := HF.out.2.1; omega
      subst hcn
      subst hln
      subst hm0
      have HA2 : Hid (∀ wd : World, Frm w wd (fun _ => False) → ∃ w', (∀ ty, (Builtin.append_ #[74, 74] ty #[.slice (some ⟨g, 0, none⟩) 0 len, .slice (some ⟨g, 0, none⟩) 0 0]).run Tryz.prog wd = .ok (.slice (some ⟨g, 0, none⟩) 0 len) w') ∧ OwnC w' B (.slice (some ⟨g, 0, none⟩) 0 len) (L.drop len) ∧ wd.grownBy w' (some g)) := fun wd h => by
        have := HA.out wd h
        simpa using this
      clear HA
      go_upto_region 5 with fail
      refine wp_region_L (fun _ => True) 8 (by kernel_rfl) ?_
      have HFd : Hid (Frm w w.drew (fun _ => False)) := (Frm.refl w (fun _ => False)).drew
      generalize w.drew = wd at *
      refine wpL_take (v := ?_) 0 rfl (by kernel_rfl) (fun _ _ _ h => h) (by rfl) ?_ trivial ?_
      rotate_left
      focus
        intro w9 hw9
        go_simp
        try with_reducible rfl
      try simp only [Act.put, List.setIfInBounds_toArray, List.set_cons_zero, List.set_cons_succ]
      refine wpL_take (v := ?_) 1 rfl (by kernel_rfl) (fun _ _ _ h => h) (by rfl) ?_ trivial ?_
      rotate_left
      focus
        intro w9 hw9
        go_simp
        try with_reducible rfl
      try simp only [Act.put, List.setIfInBounds_toArray, List.set_cons_zero, List.set_cons_succ]
      refine wpL_take (v := ?_) 2 rfl (by kernel_rfl) (fun _ _ _ h => h) (by rfl) ?_ trivial ?_
      rotate_left
      focus
        intro w9 hw9
        go_simp
        try with_reducible rfl
      try simp only [Act.put, List.setIfInBounds_toArray, List.set_cons_zero, List.set_cons_succ]
      refine wpL_take (v := ?_) 3 rfl (by kernel_rfl) (fun _ _ _ h => h) (by rfl) ?_ trivial ?_
      rotate_left
      focus
        intro w9 hw9
        go_simp
        try with_reducible rfl
      try simp only [Act.put, List.setIfInBounds_toArray, List.set_cons_zero, List.set_cons_succ]
      refine wpL_take (v := ?_) 4 rfl (by kernel_rfl) (fun _ _ _ h => h) (by rfl) ?_ trivial ?_
      rotate_left
      focus
        intro w9 hw9
        go_simp
        try with_reducible rfl
      try simp only [Act.put, List.setIfInBounds_toArray, List.set_cons_zero, List.set_cons_succ]
      refine wpL_take (v := ?_) 5 rfl (by kernel_rfl) (fun _ _ _ h => h) (by rfl) ?_ trivial ?_
      rotate_left
      focus
        intro w9 hw9
        go_simp
        try (rw [if_pos (by omega)])
        try with_reducible rfl
      try simp only [Act.put, List.setIfInBounds_toArray, List.set_cons_zero, List.set_cons_succ]
      refine wpL_one 6 rfl (by kernel_rfl) (by rfl) ?_
      intro K hK
      obtain ⟨w6, hrun, hO6, hg6⟩ := HA2.out wd HFd.out
      refine wp_append_runC wd w6 _ (.tmp 22) (.tmp 25) rfl _ _ (by rfl) (by rfl) hrun ?_
      clear hrun
      refine hK.out _ _ (fun _ => trivial) ?_
      clear hK K
      try simp only [Act.put, List.setIfInBounds_toArray, List.set_cons_zero, List.set_cons_succ]
      refine wpL_take (v := ?_) 7 rfl (by kernel_rfl) (fun _ _ _ h => h) (by rfl) ?_ trivial ?_
      rotate_left
      focus
        intro w9 hw9
        go_simp
        try with_reducible rfl
      try simp only [Act.put, List.setIfInBounds_toArray, List.set_cons_zero]
      refine wpL_done (by kernel_rfl) ?_ _
      try simp only [NoPanic]
      have hbk := hO6.capC
      have HO6 : Hid (OwnC w6 B (.slice (some ⟨g, 0, none⟩) 0 len) (L.drop len)) := hO6
      have HF6 : Hid (Frm w w6 (fun k => k = g)) := (HFd.out.mono (G := fun k => k = g) (fun _ h => h.elim)).trans (Frm.of_grown (F := fun k => k = g) hg6 (fun k e => by cases e; exact .inl rfl)) (fun _ h => .inl h)
      obtain ⟨-, -, cur, hcur, hcs⟩ := hbk
      have hcl : ∀ ty, (Builtin.clear_ #[74] ty #[.slice (some ⟨g, 0, none⟩) len (len)]).run Tryz.prog w6 = .ok (.tuple #[]) (w6.setCells g (0) (zeroC len)) := fun ty => run_clearC w6 ty g _ len _ hn2 (fun t ht => by
        rw [hcur.cell (Array.getElem?_eq_getElem (show 0 + t < cur.size by omega))]
        rfl) (fun t _ => hcur.frozen _)
      have HE : Hid (OwnC (w6.setCells g (0) (zeroC len)) B (.slice (some ⟨g, 0, none⟩) 0 len) (L.drop len) ∧ Frm w (w6.setCells g (0) (zeroC len)) (fun k => k = g)) := ⟨by
        have h := HO6.out.cut (by rw [List.length_drop, HF.out.1]; omega) (zeroC len)
        simpa using h, HF6.out.trans (setCells_frm4 g _ _ _) (fun _ h => .inl h)⟩
      clear hO6 hg6 hcur hcs
      go_wp2_with fail
      go_ret
      exact ⟨_, rfl, HE.out.1, HE.out.2.mono (fun k hk => .inl (by subst hk; rfl))⟩
    · have HA2 : Hid (∀ wd : World, Frm w wd (fun _ => False) → ∃ w', (∀ ty, (Builtin.append_ #[74, 74] ty #[.slice (some ⟨g, 0, none⟩) 0 cap, .slice (some ⟨g, n * 4, none⟩) m (cap - n)]).run Tryz.prog wd = .ok (.slice (some ⟨g, 0, none⟩) m cap) w') ∧ OwnC w' B (.slice (some ⟨g, 0, none⟩) m cap) (L.drop n) ∧ wd.grownBy w' (some g)) := fun wd h => by
        have := HA.out wd h
        rw [if_neg hcn] at this
        exact this
      clear HA
      have hmm : len - n = m := HF.out.2.1
      go_upto_region 5 with fail
      refine wp_region_L (fun _ => True) 8 (by kernel_rfl) ?_
      have HFd : Hid (Frm w w.drew (fun _ => False)) := (Frm.refl w (fun _ => False)).drew
      generalize w.drew = wd at *
      refine wpL_take (v := ?_) 0 rfl (by kernel_rfl) (fun _ _ _ h => h) (by rfl) ?_ trivial ?_
      rotate_left
      focus
        intro w9 hw9
        go_simp
        try with_reducible rfl
      try simp only [Act.put, List.setIfInBounds_toArray, List.set_cons_zero, List.set_cons_succ]
      refine wpL_take (v := ?_) 1 rfl (by kernel_rfl) (fun _ _ _ h => h) (by rfl) ?_ trivial ?_
      rotate_left
      focus
        intro w9 hw9
        go_simp
        try with_reducible rfl
      try simp only [Act.put, List.setIfInBounds_toArray, List.set_cons_zero, List.set_cons_succ]
      refine wpL_take (v := ?_) 2 rfl (by kernel_rfl) (fun _ _ _ h => h) (by rfl) ?_ trivial ?_
      rotate_left
      focus
        intro w9 hw9
        go_simp
        try with_reducible rfl
      try simp only [Act.put, List.setIfInBounds_toArray, List.set_cons_zero, List.set_cons_succ]
      refine wpL_take (v := ?_) 3 rfl (by kernel_rfl) (fun _ _ _ h => h) (by rfl) ?_ trivial ?_
      rotate_left
      focus
        intro w9 hw9
        go_simp
        try with_reducible rfl
      try simp only [Act.put, List.setIfInBounds_toArray, List.set_cons_zero, List.set_cons_succ]
      refine wpL_take (v := ?_) 4 rfl (by kernel_rfl) (fun _ _ _ h => h) (by rfl) ?_ trivial ?_
      rotate_left
      focus
        intro w9 hw9
        go_simp
        try with_reducible rfl
      try simp only [Act.put, List.setIfInBounds_toArray, List.set_cons_zero, List.set_cons_succ]
      refine wpL_take (v := ?_) 5 rfl (by kernel_rfl) (fun _ _ _ h => h) (by rfl) ?_ trivial ?_
      rotate_left
      focus
        intro w9 hw9
        go_simp
        try (rw [if_pos (by omega)])
        try with_reducible rfl
      try simp only [Act.put, List.setIfInBounds_toArray, List.set_cons_zero, List.set_cons_succ]
      refine wpL_one 6 rfl (by kernel_rfl) (by rfl) ?_
      intro K hK
      obtain ⟨w6, hrun, hO6, hg6⟩ := HA2.out wd HFd.out
      refine wp_append_runC wd w6 _ (.tmp 22) (.tmp 25) rfl _ _ (by rfl) (by rfl) hrun ?_
      clear hrun
      refine hK.out _ _ (fun _ => trivial) ?_
      clear hK K
      try simp only [Act.put, List.setIfInBounds_toArray, List.set_cons_zero, List.set_cons_succ]
      refine wpL_take (v := ?_) 7 rfl (by kernel_rfl) (fun _ _ _ h => h) (by rfl) ?_ trivial ?_
      rotate_left
      focus
        intro w9 hw9
        go_simp
        try with_reducible rfl
      try simp only [Act.put, List.setIfInBounds_toArray, List.set_cons_zero]
      refine wpL_done (by kernel_rfl) ?_ _
      try simp only [NoPanic]
      have hbk := hO6.capC
      have HO6 : Hid (OwnC w6 B (.slice (some ⟨g, 0, none⟩) m cap) (L.drop n)) := hO6
      have HF6 : Hid (Frm w w6 (fun k => k = g)) := (HFd.out.mono (G := fun k => k = g) (fun _ h => h.elim)).trans (Frm.of_grown (F := fun k => k = g) hg6 (fun k e => by cases e; exact .inl rfl)) (fun _ h => .inl h)
      obtain ⟨-, -, cur, hcur, hcs⟩ := hbk
      have hcl : ∀ ty, (Builtin.clear_ #[74] ty #[.slice (some ⟨g, m * 4, none⟩) n (cap - m)]).run Tryz.prog w6 = .ok (.tuple #[]) (w6.setCells g (m * 4) (zeroC n)) := fun ty => run_clearC w6 ty g _ n _ hn2 (fun t ht => by
        rw [hcur.cell (Array.getElem?_eq_getElem (show m * 4 + t < cur.size by omega))]
        rfl) (fun t _ => hcur.frozen _)
      have HE : Hid (OwnC (w6.setCells g (m * 4) (zeroC n)) B (.slice (some ⟨g, 0, none⟩) m cap) (L.drop n) ∧ Frm w (w6.setCells g (m * 4) (zeroC n)) (fun k => k = g)) := ⟨by
        have h := HO6.out.cut (by rw [List.length_drop, HF.out.1]; omega) (zeroC n)
        simpa using h, HF6.out.trans (setCells_frm4 g _ _ _) (fun _ h => .inl h)⟩
      have hnm : len - m = n := by omega
      have hml : m ≤ len := by omega
      have hcm : ¬ cap = m := by omega
      clear hO6 hg6 hcur hcs
      go_wp2_with fail
      go_ret
      exact ⟨_, rfl, HE.out.1, HE.out.2.mono (fun k hk => .inl (by subst hk; rfl))⟩

end Go.Proofs.YtcknhjabdjbjiaaGreat
