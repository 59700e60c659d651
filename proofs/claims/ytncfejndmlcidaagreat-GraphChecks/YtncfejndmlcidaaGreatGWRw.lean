/- Rows of rows of one's own: a slice of slices. Layer 19: lead. -/
import Derived.Test.YtncfejndmlcidaaGreatGWGr6
import Derived.Test.YtncfejndmlcidaaGreatGMGr7
namespace Go.Proofs.YtncfejndmlcidaaGreat
open Go.RowKit
set_option maxRecDepth 100000

/-- a slice of slices, each in a row of its own -/
structure OutG {α : Type} (enc : α → List Value) (size : Nat) (T TS : TypeId) (w : World) (C ob : Nat) (vs : Nat → Value) (LL : List (List α)) : Prop where
  obC : C ≤ ob
  blk : Blk w ob ((List.range LL.length).map vs).toArray TS
  fam : Fam enc size T w C vs (fun i => LL.getD i [])
section
variable {α : Type} {enc : α → List Value} {size : Nat} {T TS : TypeId} {w w' : World} {C ob : Nat} {vs : Nat → Value} {LL : List (List α)}
theorem OutG.on (h : OutG enc size T TS w C ob vs LL) (hb : Below w.heap.size w w') : OutG enc size T TS w' C ob vs LL := ⟨h.obC, h.blk.on hb, h.fam.on hb⟩
theorem OutG.cell (h : OutG enc size T TS w C ob vs LL) (i : Nat) (hi : i < LL.length) : w.cell? ⟨ob, i, none⟩ = some (vs i) := h.blk.cell (by simp [hi])
theorem OutG.row (h : OutG enc size T TS w C ob vs LL) (i : Nat) : OwnG enc size T w C (vs i) (LL.getD i []) := h.fam.own i
theorem OutG.new (w : World) (n : Nat) (hC : C ≤ w.heap.size) : OutG enc size T TS (w.alloc (.cells (Array.replicate n nilS) TS)) C w.heap.size (fun _ => nilS) (List.replicate n ([] : List α)) where
  obC := hC
  blk := by
    have e : ((List.range (List.replicate n ([] : List α)).length).map (fun _ => nilS)).toArray = Array.replicate n nilS := by
      rw [List.length_replicate, List.map_const', List.length_range]
      simp
    rw [e]
    exact Blk.new w _ _
  fam := by
    have e : (fun i => (List.replicate n ([] : List α)).getD i []) = fun _ => [] := by
      funext i
      simp only [List.getD_eq_getElem?_getD, List.getElem?_replicate]
      split <;> rfl
    rw [e]
    exact Fam.nil _ _
theorem set_getD (LL : List (List α)) (i : Nat) (hi : i < LL.length) (L' : List α) : (fun j => (LL.set i L').getD j []) = updF (fun j => LL.getD j []) i L' := by
  funext j
  unfold updF
  by_cases h : j = i
  · subst h
    simp [List.getD_eq_getElem?_getD, hi]
  · rw [if_neg h]
    simp [List.getD_eq_getElem?_getD, Ne.symm h]
/-- one row is another one -/
theorem OutG.put (h : OutG enc size T TS w C ob vs LL) (hC : C ≤ w.heap.size) (hT : T ≠ TS) (i : Nat) (hi : i < LL.length) {v : Value} {L' : List α} (ho : OwnG enc size T w' C v L') (hf : Frm w w' (fun k => (vs i).ownBlock = some k)) (hat : v.ownBlock = (vs i).ownBlock ∨ v.ownBlock = none ∨ ∃ g, v.ownBlock = some g ∧ w.heap.size ≤ g) :
    OutG enc size T TS (w'.setCell ⟨ob, i, none⟩ v) C ob (updF vs i v) (LL.set i L') ∧ Below C w (w'.setCell ⟨ob, i, none⟩ v) ∧ Frm w (w'.setCell ⟨ob, i, none⟩ v) (fun k => k = ob ∨ (vs i).ownBlock = some k) := by
  have hb1 : Blk w' ob ((List.range LL.length).map vs).toArray TS := h.blk.frm hf (fun e => own_ne_blk (h.row i) h.blk hT e.symm)
  have h23 : Frm w' (w'.setCell ⟨ob, i, none⟩ v) (one1 ob) := frm_set w' ob i v (.inl rfl)
  have hfF : Frm w (w'.setCell ⟨ob, i, none⟩ v) (fun k => k = ob ∨ (vs i).ownBlock = some k) := (hf.mono (fun k e => .inl (.inr e))).trans h23 (fun k e => .inl (.inl e))
  refine ⟨⟨h.obC, ?_, ?_⟩, hfF.below hC (fun k e => e.elim (fun e => by rw [e]; exact h.obC) (fun e => ((h.row i).blk e).1)), hfF⟩
  · have e : ((List.range (LL.set i L').length).map (updF vs i v)).toArray = (((List.range LL.length).map vs).toArray).setIfInBounds i v := by
      apply Array.ext
      · simp
      · intro j h1 h2
        simp only [List.size_toArray, List.length_map, List.length_range, List.length_set] at h1
        rw [Array.getElem_setIfInBounds (by simpa using h1)]
        simp only [List.getElem_toArray, List.getElem_map, List.getElem_range]
        unfold updF
        by_cases e : j = i
        · rw [if_pos e, if_pos e.symm]
        · rw [if_neg e, if_neg (Ne.symm e)]
    rw [e]
    exact hb1.set i v
  · rw [set_getD LL i hi L']
    have ho2 : OwnG enc size T (w'.setCell ⟨ob, i, none⟩ v) C v L' := ho.byG (fun g hg => h23.block g (ho.lt hg) (fun e => by
      have e1 : g = ob := e
      exact own_ne_blk ho hb1 hT (by rw [hg, e1])))
    refine h.fam.put i ho2 (fun g hg hne hc => hfF.block g hg (fun hc2 => ?_)) hat
    rcases hc2 with e | e
    · obtain ⟨cur, hc⟩ := hc
      have h3 : w.heap[ob]? = _ := h.blk
      rw [← e, hc] at h3
      cases h3
      exact hT rfl
    · exact hne e
/-- what lies in a row -/
theorem OutG.slr (h : OutG enc size T TS w C ob vs LL) (i : Nat) : ∃ q d, vs i = .slice q (LL.getD i []).length d := (h.row i).slcL
end

end Go.Proofs.YtncfejndmlcidaaGreat

namespace Go.Proofs.YtncfejndmlcidaaGreat
open Go.RowKit
set_option maxRecDepth 100000

def encE (e : Ed) : List Value := [natV e.to, natV e.kd, natV e.im]
/-- edges, of each place those that lead from it -/
abbrev OutE (w : World) (C ob : Nat) (vs : Nat → Value) (LL : List (List Ed)) : Prop := OutG encE 3 85 83 w C ob vs LL
theorem info_edg : (Tryz.prog.info? 85).map (fun i => (i.zero, i.size, i.bytes)) = some (some (.agg #[.int .i64 0, .int .i64 0, .int .i64 0]), 3, 24) := by kernel_rfl
theorem encE_one (x : Ed) : ∀ u ∈ encE x, u.oneCell' = true := by intro u hu; simp [encE] at hu; rcases hu with rfl | rfl | rfl <;> rfl
theorem tx_eql (w : World) (a : Nat) : (binOp .eql 102 (ptr1 a) (ptr1 a)).run Tryz.prog w = .ok (.bool true) w := by
  have h : ((Tryz.prog.info? 101).map (fun i => decide (i.size ≠ 0))) = some true := by kernel_rfl
  obtain ⟨j, hj, h2⟩ := Option.map_eq_some_iff.1 h
  exact run_eql_ptr_same (P := Tryz.prog) w ⟨a, 0, none⟩ Tryz.underlying102 hj
theorem tx_eql_not {w : World} {a b : Nat} {ca cb : Array Value} {T S : TypeId} (ha : Blk w a ca T) (hb : Blk w b cb S) (hne : a ≠ b) : (binOp .eql 102 (ptr1 a) (ptr1 b)).run Tryz.prog w = .ok (.bool false) w := by
  have h : ((Tryz.prog.info? 101).map (fun i => decide (i.size ≠ 0))) = some true := by kernel_rfl
  obtain ⟨j, hj, h2⟩ := Option.map_eq_some_iff.1 h
  exact run_eql_ptr_other (P := Tryz.prog) w Tryz.underlying102 hj (by simpa using h2) (by intro e; injection e with e; exact hne e) ha hb
theorem neq_of9 {w : World} {a b : Option Addr} {x : Bool} (h : (binOp .eql 102 (.pointer a) (.pointer b)).run Tryz.prog w = .ok (.bool x) w) : (binOp .neq 102 (.pointer a) (.pointer b)).run Tryz.prog w = .ok (.bool !x) w := by
  have h1 : (Op.equal 102 (.pointer a) (.pointer b)).run Tryz.prog w = .ok x w := by
    change (Sem.run Tryz.prog (do pure (Value.bool (← Op.equal 102 (.pointer a) (.pointer b)))) w) = _ at h
    rw [Sem.run_bind] at h
    cases e : (Op.equal 102 (.pointer a) (.pointer b)).run Tryz.prog w with
    | ok y w' =>
      rw [e] at h
      simp [Result.andThen] at h
      rw [h.1, h.2]
    | _ => rw [e] at h; simp [Result.andThen] at h
  change (Sem.run Tryz.prog (do pure (Value.bool (!(← Op.equal 102 (.pointer a) (.pointer b))))) w) = _
  rw [Sem.run_bind, h1]
  simp [Result.andThen]
/-- rows of edges from C on, and slices of them, may be others -/
def FE (w : World) (C : Nat) (k : Nat) : Prop := C ≤ k ∧ ∃ cur T, w.heap[k]? = some (Obj.cells cur T (0, 0)) ∧ (T = 85 ∨ T = 83)
abbrev EdF (w w' : World) (C : Nat) : Prop := Frm w w' (FE w C)
theorem EdF.below' {w w' : World} {C : Nat} (h : EdF w w' C) (hC : C ≤ w.heap.size) : Below C w w' := Frm.below h hC (fun _ hk => hk.1)
theorem EdF.trans' {w w1 w2 : World} {C : Nat} (h1 : EdF w w1 C) (h2 : EdF w1 w2 C) : EdF w w2 C := Frm.trans h1 h2 (fun k hk => by
  by_cases hlt : k < w.heap.size
  · by_cases hF : FE w C k
    · exact .inl hF
    · have e := h1.block k hlt hF
      obtain ⟨hc, cur, T, h3, h4⟩ := hk
      exact .inl ⟨hc, cur, T, by rw [← e]; exact h3, h4⟩
  · exact .inr (by omega))
theorem EdF.of {w w' : World} {C : Nat} (h : Below w.heap.size w w') : EdF w w' C := Frm.of_below h
theorem EdF.blk' {w w' : World} {C g : Nat} {cs : Array Value} {T : TypeId} (h : EdF w w' C) (hb : Blk w g cs T) (h1 : T ≠ 85) (h2 : T ≠ 83) : Blk w' g cs T := hb.frm h (fun hk => by
  obtain ⟨_, cur, T', h3, h4⟩ := hk
  have h5 : w.heap[g]? = _ := hb
  rw [h5] at h3
  cases h3
  rcases h4 with h4 | h4
  · exact h1 h4
  · exact h2 h4)
/-- a row of edges was put -/
theorem EdF.put {w w' : World} {C ob i : Nat} {vs : Nat → Value} {LL : List (List Ed)} (h : OutE w C ob vs LL) (hf : Frm w w' (fun k => k = ob ∨ (vs i).ownBlock = some k)) : EdF w w' C := hf.mono (fun k hk => .inl (by
  rcases hk with rfl | e
  · exact ⟨h.obC, _, _, h.blk, .inr rfl⟩
  · obtain ⟨h1, cur, h2⟩ := (h.row i).blk e
    exact ⟨h1, cur, _, h2, .inl rfl⟩))
set_option maxHeartbeats 8000000 in
theorem lead_any (C ob : Nat) (vs : Nat → Value) (LL : List (List Ed)) (n pf pt : Nat) (cf ct : Array Value) (i j kd im : Nat) (w : World) (hO : OutE w C ob vs LL) (hn : LL.length = n) (hC : C ≤ w.heap.size)
    (hf : Blk w pf cf 101) (hfi : cf[1]? = some (natV i)) (ht : Blk w pt ct 101) (htj : ct[1]? = some (natV j)) (hi : i < n) (_hn4 : n ≤ 4096) (he : pf = pt ↔ i = j) (hl : RowsLe LL 1099511627776) :
    Calls Tryz.prog 108 #[.slice (some ⟨ob, 0, none⟩) n n, ptr1 pf, ptr1 pt, natV kd, natV im] w fun e w' => e = .returned (.tuple #[]) ∧ EdF w w' C ∧ ∃ vs', OutE w' C ob vs' (leadM LL i j kd im) := by
  by_cases hp : pf = pt
  · have e1 : leadM LL i j kd im = LL := if_pos (he.1 hp)
    rw [e1]
    subst hp
    have hq := neq_of9 (tx_eql w pf)
    have HO : Hid (OutE w C ob vs LL) := hO
    clear hO hf hfi ht htj hi he hl hn e1
    dsimp only [ptr1] at hq ⊢
    go_enter Tryz.func108, Tryz.ntmps108
    go_wp2_with fail
    go_end0
    exact ⟨rfl, Frm.refl _ _, vs, HO.out⟩
  · have hij : i ≠ j := fun e => hp (he.2 e)
    have HE : Hid (leadM LL i j kd im = LL.set i (LL.getD i [] ++ [⟨j, kd, im⟩])) := if_neg hij
    have hq := neq_of9 (tx_eql_not hf ht hp)
    have HO : Hid (OutE w C ob vs LL ∧ LL.length = n ∧ C ≤ w.heap.size ∧ (LL.getD i []).length ≤ 1099511627776) := ⟨hO, hn, hC, hl i⟩
    have HF : Hid (Blk w pf cf 101 ∧ cf[1]? = some (natV i) ∧ Blk w pt ct 101 ∧ ct[1]? = some (natV j)) := ⟨hf, hfi, ht, htj⟩
    have HI : Hid (i < LL.length) := by rw [Hid, hn]; exact hi
    obtain ⟨q0, d0, ev0⟩ := hO.slr i
    have HV : Hid (vs i = .slice q0 (LL.getD i []).length d0) := ev0
    generalize hll : (LL.getD i []).length = ll at *
    have HLL : Hid ((LL.getD i []).length = ll) := hll
    clear hO hf hfi ht htj he hl hn hij hp ev0 hll hC
    dsimp only [ptr1] at hq ⊢
    go_enter Tryz.func108, Tryz.ntmps108
    go_upto_region 2 with fail
    refine wp_region_L (fun w' => Blk w' pf cf 101 ∧ Blk w' pt ct 101 ∧ w'.cell? ⟨ob, i, none⟩ = some (.slice q0 ll d0)) 22 (by kernel_rfl) ?_
    have HFd : Hid (Blk w.drew pf cf 101 ∧ cf[1]? = some (natV i) ∧ Blk w.drew pt ct 101 ∧ ct[1]? = some (natV j)) := HF.out
    have HBd : Hid (Below w.heap.size w w.drew) := (Below.refl _ _).drew
    have HOd : Hid (OutE w.drew C ob vs LL ∧ C ≤ w.drew.heap.size) := ⟨HO.out.1.on HBd.out, HO.out.2.2.1⟩
    clear hq
    generalize w.drew = wd at *
    have HCd : Hid (wd.cell? ⟨ob, i, none⟩ = some (.slice q0 ll d0)) := by rw [Hid, HOd.out.1.cell i HI.out, HV.out]
    refine wpL_take (v := ?_) 0 rfl (by kernel_rfl) (fun _ _ _ h => h) (by rfl) ?_ ⟨HFd.out.1, HFd.out.2.2.1, HCd.out⟩ ?_
    rotate_left
    focus
      intro w9 hw9
      have a0 := hw9.1.cell HFd.out.2.1
      have b0 := hw9.2.1.cell HFd.out.2.2.2
      have c0 := hw9.2.2
      go_simp
      try with_reducible rfl
    try simp only [Act.put, List.setIfInBounds_toArray, List.set_cons_zero, List.set_cons_succ]
    refine wpL_take (v := ?_) 1 rfl (by kernel_rfl) (fun _ _ _ h => h) (by rfl) ?_ ⟨HFd.out.1, HFd.out.2.2.1, HCd.out⟩ ?_
    rotate_left
    focus
      intro w9 hw9
      have a0 := hw9.1.cell HFd.out.2.1
      have b0 := hw9.2.1.cell HFd.out.2.2.2
      have c0 := hw9.2.2
      go_simp
      try with_reducible rfl
    try simp only [Act.put, List.setIfInBounds_toArray, List.set_cons_zero, List.set_cons_succ]
    refine wpL_take (v := ?_) 2 rfl (by kernel_rfl) (fun _ _ _ h => h) (by rfl) ?_ ⟨HFd.out.1, HFd.out.2.2.1, HCd.out⟩ ?_
    rotate_left
    focus
      intro w9 hw9
      have a0 := hw9.1.cell HFd.out.2.1
      have b0 := hw9.2.1.cell HFd.out.2.2.2
      have c0 := hw9.2.2
      go_simp
      try with_reducible rfl
    try simp only [Act.put, List.setIfInBounds_toArray, List.set_cons_zero, List.set_cons_succ]
    refine wpL_take (v := ?_) 3 rfl (by kernel_rfl) (fun _ _ _ h => h) (by rfl) ?_ ⟨HFd.out.1, HFd.out.2.2.1, HCd.out⟩ ?_
    rotate_left
    focus
      intro w9 hw9
      have a0 := hw9.1.cell HFd.out.2.1
      have b0 := hw9.2.1.cell HFd.out.2.2.2
      have c0 := hw9.2.2
      go_simp
      try with_reducible rfl
    try simp only [Act.put, List.setIfInBounds_toArray, List.set_cons_zero, List.set_cons_succ]
    refine wpL_take (v := ?_) 4 rfl (by kernel_rfl) (fun _ _ _ h => h) (by rfl) ?_ ⟨HFd.out.1, HFd.out.2.2.1, HCd.out⟩ ?_
    rotate_left
    focus
      intro w9 hw9
      have a0 := hw9.1.cell HFd.out.2.1
      have b0 := hw9.2.1.cell HFd.out.2.2.2
      have c0 := hw9.2.2
      go_simp
      try with_reducible rfl
    try simp only [Act.put, List.setIfInBounds_toArray, List.set_cons_zero, List.set_cons_succ]
    refine wpL_take (v := ?_) 5 rfl (by kernel_rfl) (fun _ _ _ h => h) (by rfl) ?_ ⟨HFd.out.1, HFd.out.2.2.1, HCd.out⟩ ?_
    rotate_left
    focus
      intro w9 hw9
      have a0 := hw9.1.cell HFd.out.2.1
      have b0 := hw9.2.1.cell HFd.out.2.2.2
      have c0 := hw9.2.2
      go_simp
      try with_reducible rfl
    try simp only [Act.put, List.setIfInBounds_toArray, List.set_cons_zero, List.set_cons_succ]
    refine wpL_take (v := ?_) 6 rfl (by kernel_rfl) (fun _ _ _ h => h) (by rfl) ?_ ⟨HFd.out.1, HFd.out.2.2.1, HCd.out⟩ ?_
    rotate_left
    focus
      intro w9 hw9
      have a0 := hw9.1.cell HFd.out.2.1
      have b0 := hw9.2.1.cell HFd.out.2.2.2
      have c0 := hw9.2.2
      go_simp
      try with_reducible rfl
    try simp only [Act.put, List.setIfInBounds_toArray, List.set_cons_zero, List.set_cons_succ]
    refine wpL_take (v := ?_) 7 rfl (by kernel_rfl) (fun _ _ _ h => h) (by rfl) ?_ ⟨HFd.out.1, HFd.out.2.2.1, HCd.out⟩ ?_
    rotate_left
    focus
      intro w9 hw9
      have a0 := hw9.1.cell HFd.out.2.1
      have b0 := hw9.2.1.cell HFd.out.2.2.2
      have c0 := hw9.2.2
      go_simp
      try with_reducible rfl
    try simp only [Act.put, List.setIfInBounds_toArray, List.set_cons_zero, List.set_cons_succ]
    refine wpL_take (v := ?_) 8 rfl (by kernel_rfl) (fun _ _ _ h => h) (by rfl) ?_ ⟨HFd.out.1, HFd.out.2.2.1, HCd.out⟩ ?_
    rotate_left
    focus
      intro w9 hw9
      have a0 := hw9.1.cell HFd.out.2.1
      have b0 := hw9.2.1.cell HFd.out.2.2.2
      have c0 := hw9.2.2
      go_simp
      try with_reducible rfl
    try simp only [Act.put, List.setIfInBounds_toArray, List.set_cons_zero, List.set_cons_succ]
    refine wpL_take (v := ?_) 9 rfl (by kernel_rfl) (fun _ _ _ h => h) (by rfl) ?_ ⟨HFd.out.1, HFd.out.2.2.1, HCd.out⟩ ?_
    rotate_left
    focus
      intro w9 hw9
      have a0 := hw9.1.cell HFd.out.2.1
      have b0 := hw9.2.1.cell HFd.out.2.2.2
      have c0 := hw9.2.2
      go_simp
      try with_reducible rfl
    try simp only [Act.put, List.setIfInBounds_toArray, List.set_cons_zero, List.set_cons_succ]
    refine wpL_take (v := ?_) 10 rfl (by kernel_rfl) (fun _ _ _ h => h) (by rfl) ?_ ⟨HFd.out.1, HFd.out.2.2.1, HCd.out⟩ ?_
    rotate_left
    focus
      intro w9 hw9
      have a0 := hw9.1.cell HFd.out.2.1
      have b0 := hw9.2.1.cell HFd.out.2.2.2
      have c0 := hw9.2.2
      go_simp
      try with_reducible rfl
    try simp only [Act.put, List.setIfInBounds_toArray, List.set_cons_zero, List.set_cons_succ]
    refine wpL_take (v := ?_) 11 rfl (by kernel_rfl) (fun _ _ _ h => h) (by rfl) ?_ ⟨HFd.out.1, HFd.out.2.2.1, HCd.out⟩ ?_
    rotate_left
    focus
      intro w9 hw9
      have a0 := hw9.1.cell HFd.out.2.1
      have b0 := hw9.2.1.cell HFd.out.2.2.2
      have c0 := hw9.2.2
      go_simp
      try with_reducible rfl
    try simp only [Act.put, List.setIfInBounds_toArray, List.set_cons_zero, List.set_cons_succ]
    refine wpL_take (v := ?_) 12 rfl (by kernel_rfl) (fun _ _ _ h => h) (by rfl) ?_ ⟨HFd.out.1, HFd.out.2.2.1, HCd.out⟩ ?_
    rotate_left
    focus
      intro w9 hw9
      have a0 := hw9.1.cell HFd.out.2.1
      have b0 := hw9.2.1.cell HFd.out.2.2.2
      have c0 := hw9.2.2
      go_simp
      try with_reducible rfl
    try simp only [Act.put, List.setIfInBounds_toArray, List.set_cons_zero, List.set_cons_succ]
    refine wpL_take (v := ?_) 13 rfl (by kernel_rfl) (fun _ _ _ h => h) (by rfl) ?_ ⟨HFd.out.1, HFd.out.2.2.1, HCd.out⟩ ?_
    rotate_left
    focus
      intro w9 hw9
      have a0 := hw9.1.cell HFd.out.2.1
      have b0 := hw9.2.1.cell HFd.out.2.2.2
      have c0 := hw9.2.2
      go_simp
      try with_reducible rfl
    try simp only [Act.put, List.setIfInBounds_toArray, List.set_cons_zero, List.set_cons_succ]
    refine wpL_take (v := ?_) 14 rfl (by kernel_rfl) (fun _ _ _ h => h) (by rfl) ?_ ⟨HFd.out.1, HFd.out.2.2.1, HCd.out⟩ ?_
    rotate_left
    focus
      intro w9 hw9
      have a0 := hw9.1.cell HFd.out.2.1
      have b0 := hw9.2.1.cell HFd.out.2.2.2
      have c0 := hw9.2.2
      go_simp
      try with_reducible rfl
    try simp only [Act.put, List.setIfInBounds_toArray, List.set_cons_zero, List.set_cons_succ]
    refine wpL_take (v := ?_) 15 rfl (by kernel_rfl) (fun _ _ _ h => h) (by rfl) ?_ ⟨HFd.out.1, HFd.out.2.2.1, HCd.out⟩ ?_
    rotate_left
    focus
      intro w9 hw9
      have a0 := hw9.1.cell HFd.out.2.1
      have b0 := hw9.2.1.cell HFd.out.2.2.2
      have c0 := hw9.2.2
      go_simp
      try with_reducible rfl
    try simp only [Act.put, List.setIfInBounds_toArray, List.set_cons_zero, List.set_cons_succ]
    refine wpL_take (v := ?_) 16 rfl (by kernel_rfl) (fun _ _ _ h => h) (by rfl) ?_ ⟨HFd.out.1, HFd.out.2.2.1, HCd.out⟩ ?_
    rotate_left
    focus
      intro w9 hw9
      have a0 := hw9.1.cell HFd.out.2.1
      have b0 := hw9.2.1.cell HFd.out.2.2.2
      have c0 := hw9.2.2
      go_simp
      try with_reducible rfl
    try simp only [Act.put, List.setIfInBounds_toArray, List.set_cons_zero, List.set_cons_succ]
    refine wpL_take (v := ?_) 17 rfl (by kernel_rfl) (fun _ _ _ h => h) (by rfl) ?_ ⟨HFd.out.1, HFd.out.2.2.1, HCd.out⟩ ?_
    rotate_left
    focus
      intro w9 hw9
      have a0 := hw9.1.cell HFd.out.2.1
      have b0 := hw9.2.1.cell HFd.out.2.2.2
      have c0 := hw9.2.2
      go_simp
      try with_reducible rfl
    try simp only [Act.put, List.setIfInBounds_toArray, List.set_cons_zero, List.set_cons_succ]
    refine wpL_take (v := ?_) 18 rfl (by kernel_rfl) (fun _ _ _ h => h) (by rfl) ?_ ⟨HFd.out.1, HFd.out.2.2.1, HCd.out⟩ ?_
    rotate_left
    focus
      intro w9 hw9
      have a0 := hw9.1.cell HFd.out.2.1
      have b0 := hw9.2.1.cell HFd.out.2.2.2
      have c0 := hw9.2.2
      go_simp
      try with_reducible rfl
    try simp only [Act.put, List.setIfInBounds_toArray, List.set_cons_zero, List.set_cons_succ]
    refine wpL_one 19 rfl (by kernel_rfl) (by rfl) ?_
    intro K hK
    go_simp
    have hal : Below wd.heap.size wd (wd.alloc (.cells #[natV j, natV kd, natV im] 85)) := (Below.refl _ _).alloc (Nat.le_refl _) _
    have HC3 : Hid (Blk (wd.alloc (.cells #[natV j, natV kd, natV im] 85)) wd.heap.size #[natV j, natV kd, natV im] 85) := Blk.new wd _ _
    have HF3 : Hid (Blk (wd.alloc (.cells #[natV j, natV kd, natV im] 85)) pf cf 101 ∧ Blk (wd.alloc (.cells #[natV j, natV kd, natV im] 85)) pt ct 101) := ⟨HFd.out.1.on hal, HFd.out.2.2.1.on hal⟩
    have HO3 : Hid (OutE (wd.alloc (.cells #[natV j, natV kd, natV im] 85)) C ob vs LL) := HOd.out.1.on hal
    have HB3 : Hid (Below w.heap.size w (wd.alloc (.cells #[natV j, natV kd, natV im] 85))) := HBd.out.trans (hal.mono HBd.out.size)
    have HCc3 : Hid ((wd.alloc (.cells #[natV j, natV kd, natV im] 85)).cell? ⟨ob, i, none⟩ = some (.slice q0 ll d0)) := by rw [Hid, HO3.out.cell i HI.out, HV.out]
    clear hal HFd HOd HBd HCd
    refine hK.out _ _ (fun _ => ⟨HF3.out.1, HF3.out.2, HCc3.out⟩) ?_
    clear hK K
    try simp only [Act.put, List.setIfInBounds_toArray, List.set_cons_zero, List.set_cons_succ]
    generalize hgz : wd.heap.size = gz at *
    generalize (wd.alloc (.cells #[natV j, natV kd, natV im] 85)) = w3 at *
    clear hgz
    refine wpL_one 20 rfl (by kernel_rfl) (by rfl) ?_
    intro K hK
    refine wp_appG w3 (.tmp 24) (.tmp 32) 85 83 (.agg #[.int .i64 0, .int .i64 0, .int .i64 0]) 24 rfl Tryz.underlying83 info_edg rfl (by decide) (fun _ => rfl) C (.slice q0 ll d0) (LL.getD i []) ⟨j, kd, im⟩ (encE_one _) (by rfl) (by rw [← HV.out]; exact HO3.out.row i) gz (by rfl) (fun j u hj => by
      have h0 : j = 0 ∨ j = 1 ∨ j = 2 := by have h9 := (List.getElem?_eq_some_iff.1 hj).1; simp [encE] at h9; omega
      rcases h0 with rfl | rfl | rfl <;> (cases hj; exact HC3.out.cell rfl)) (by have h8 := HO.out.2.2.2; have h9 := HLL.out; omega) (by have h8 := HO.out.2.2.2; have h9 := HLL.out; omega) (Nat.le_trans HO.out.2.2.1 HB3.out.size) ?_
    intro v4 w4 ho4 hg4 hat4
    have hne : ∀ {g : Nat} {cs : Array Value} {T : TypeId}, Blk w3 g cs T → 85 ≠ T → Blk w4 g cs T := fun hb hT => hb.grown hg4 (own_ne_blk (v := .slice q0 ll d0) (by rw [← HV.out]; exact HO3.out.row i) hb hT)
    have HF4 : Hid (Blk w4 pf cf 101 ∧ Blk w4 pt ct 101) := ⟨hne HF3.out.1 (by decide), hne HF3.out.2 (by decide)⟩
    have HO4b : Hid (Blk w4 ob ((List.range LL.length).map vs).toArray 83) := hne HO3.out.blk (by decide)
    have HCc4 : Hid (w4.cell? ⟨ob, i, none⟩ = some (.slice q0 ll d0)) := by rw [Hid, ← HV.out]; have h1 := HI.out; exact HO4b.out.cell (by simp [h1])
    obtain ⟨q4, m4, d4, ev4⟩ := ho4.slc
    subst ev4
    have HO4 : Hid (OwnG encE 3 85 w4 C (.slice q4 m4 d4) (LL.getD i [] ++ [⟨j, kd, im⟩]) ∧ Frm w3 w4 (fun k => (vs i).ownBlock = some k) ∧ ((Value.slice q4 m4 d4).ownBlock = (vs i).ownBlock ∨ (Value.slice q4 m4 d4).ownBlock = some w3.heap.size)) := ⟨ho4, Frm.of_grown hg4 (fun g e => .inl (by rw [HV.out]; exact e)), by rw [HV.out]; exact hat4⟩
    clear ho4 hg4 hat4 hne
    refine hK.out _ _ (fun _ => ⟨HF4.out.1, HF4.out.2, HCc4.out⟩) ?_
    clear hK K
    try simp only [Act.put, List.setIfInBounds_toArray, List.set_cons_zero, List.set_cons_succ]
    refine wpL_one 21 rfl (by kernel_rfl) (by rfl) ?_
    intro K hK
    go_simp
    refine hK.out _ _ (fun _ => ⟨HF4.out.1, HF4.out.2, HCc4.out⟩) ?_
    clear hK K
    try simp only [Act.put, List.setIfInBounds_toArray, List.set_cons_zero, List.set_cons_succ]
    refine wpL_one 22 rfl (by kernel_rfl) (by rfl) ?_
    intro K hK
    have z0 := HCc4.out
    have f0 := HO4b.out.frozen i
    go_simp
    refine hK.out _ _ (fun h => absurd rfl h) ?_
    clear hK K
    try simp only [Act.put, List.setIfInBounds_toArray, List.set_cons_zero, List.set_cons_succ]
    refine wpL_done (by kernel_rfl) ?_ _
    try simp only [NoPanic]
    have HP := HO3.out.put (Nat.le_trans HO.out.2.2.1 HB3.out.size) (by decide) i HI.out HO4.out.1 HO4.out.2.1 (HO4.out.2.2.elim .inl (fun e => .inr (.inr ⟨_, e, Nat.le_refl _⟩)))
    have HPh : Hid (OutE (w4.setCell ⟨ob, i, none⟩ (.slice q4 m4 d4)) C ob (updF vs i (.slice q4 m4 d4)) (LL.set i (LL.getD i [] ++ [⟨j, kd, im⟩])) ∧ EdF w3 (w4.setCell ⟨ob, i, none⟩ (.slice q4 m4 d4)) C) := ⟨HP.1, EdF.put HO3.out HP.2.2⟩
    clear HP HF4 HO4b HCc4 HO4
    try clear z0
    try clear f0
    generalize w4.setCell ⟨ob, i, none⟩ (.slice q4 m4 d4) = w5 at *
    go_wp2_with fail
    go_end0
    exact ⟨rfl, (EdF.of HB3.out).trans' HPh.out.2, _, by rw [HE.out]; exact HPh.out.1⟩

end Go.Proofs.YtncfejndmlcidaaGreat
