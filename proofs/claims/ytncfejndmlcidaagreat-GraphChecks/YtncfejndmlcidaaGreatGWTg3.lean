/- slices.Repeat of one number. Layer 19: parts, as Tarjan finds them: what stays; plain. -/
import Derived.Shelf.Bits.Mul64
import Derived.Laws.IdiomCopy
import Derived.Test.YtncfejndmlcidaaGreatGWTg1
import Derived.Test.YtncfejndmlcidaaGreatGMGr5
namespace Go.Proofs.YtncfejndmlcidaaGreat
open Go.RowKit
set_option maxRecDepth 100000

set_option maxHeartbeats 1000000 in
theorem mul64_one (n : Nat) (hn : n ≤ 4096) (w : World) : Calls Tryz.prog 155 #[.int .u64 1, .int .u64 (n : Int)] w fun e w' => e = .returned (.tuple #[.int .u64 0, .int .u64 (n : Int)]) ∧ w' = w := by
  go_enter Tryz.func155, Tryz.ntmps155
  go_wp2_with fail
  have h0 : bits .and .u64 0 4294967295 = 0 := by kernel_rfl
  have h1 : bits .and .u64 1 4294967295 = 1 := by kernel_rfl
  have h2 : bits .and .u64 (n : Int) 4294967295 = (n : Int) := by rw [Mul64.maskN n (by omega)]; omega
  have h3 : (n : Int) / 4294967296 = 0 := by omega
  have h4 : IntKind.u64.wrap (n : Int) = (n : Int) := Mul64.wrapN n (by omega)
  have h5 : IntKind.u64.wrap 0 = 0 := by kernel_rfl
  simp only [h1, h2, h3, h4, h5, h0, Int.one_mul, Int.mul_zero, Int.add_zero, Int.zero_ediv]
  go_ret2
  exact ⟨rfl, rfl⟩
set_option maxHeartbeats 1000000 in
theorem mul_one9 (n : Nat) (hn : n ≤ 4096) (w : World) : Calls Tryz.prog 113 #[.int .u64 1, .int .u64 (n : Int)] w fun e w' => e = .returned (.tuple #[.int .u64 0, .int .u64 (n : Int)]) ∧ w' = w := by
  have CM : Hid (Calls Tryz.prog 155 #[.int .u64 1, .int .u64 (n : Int)] w fun e w' => e = .returned (.tuple #[.int .u64 0, .int .u64 (n : Int)]) ∧ w' = w) := mul64_one n hn w
  clear hn
  go_enter Tryz.func113, Tryz.ntmps113
  go_wp2_with (first | (go_at_call 155; refine CM.out.mono ?_; rintro e w1 ⟨rfl, hw1⟩; obtain rfl := hw1.symm))
  go_ret2
  exact ⟨rfl, rfl⟩
/-- a row whose first m are one number -/
def RepI (w : World) (rb n m : Nat) (x : Int) : Prop := ∃ cur, Blk w rb cur 3 ∧ cur.size = n ∧ ∀ j, j < m → cur[j]? = some (.int .i64 x)
theorem size_int9 : (Tryz.prog.info? 3).map (·.size) = some 1 := by kernel_rfl
theorem RepI.step {w : World} {rb n m k : Nat} {x : Int} (h : RepI w rb n m x) (hk : m + k ≤ n) : RepI (w.setCells rb m (List.replicate k (.int .i64 x))) rb n (m + k) x := by
  obtain ⟨cur, h1, h2, h3⟩ := h
  obtain ⟨cur', g1, g2, g3⟩ := blk_cells rb 3 (List.replicate k (.int .i64 x)) m w cur h1
  refine ⟨cur', g1, by rw [g2]; exact h2, fun j hj => ?_⟩
  rw [g3 j, List.length_replicate]
  by_cases hjm : m ≤ j
  · rw [if_pos ⟨hjm, hj, by omega⟩, List.getElem?_replicate, if_pos (by omega)]
  · rw [if_neg (fun h => hjm h.1)]
    exact h3 j (by omega)
theorem RepI.copy {w : World} {rb n m : Nat} {x : Int} (h : RepI w rb n m x) (_hm : m ≤ n) (ty : TypeId) (a : Addr) (sc dc : Nat) (s : Nat) (o : Nat) (ho : o ≤ n) (hsrc : ∀ j, j < s → w.cell? (a.add j) = some (.int .i64 x)) :
    (Builtin.copy_ #[38, 38] ty #[.slice (some ⟨rb, o, none⟩) (n - o) dc, .slice (some a) s sc]).run Tryz.prog w = .ok (goInt (min s (n - o) : Nat)) (w.setCells rb o (List.replicate (min s (n - o)) (.int .i64 x))) := by
  obtain ⟨cur, h1, h2, h3⟩ := h
  have h9 := run_copy_cells (P := Tryz.prog) w 38 38 ty 3 rb o (n - o) dc a s sc (List.replicate (min s (n - o)) (.int .i64 x)) Tryz.underlying38 size_int9 (by rw [List.length_replicate]) (fun j v hj => by
      have hl := (List.getElem?_eq_some_iff.1 hj).1
      rw [List.length_replicate] at hl
      rw [List.getElem?_replicate, if_pos hl] at hj
      cases hj
      exact hsrc j (by omega)) (fun j hj => by
      rw [List.length_replicate] at hj
      have hlt : o + j < cur.size := by omega
      rw [h1.cell (Array.getElem?_eq_getElem hlt)]; rfl) (fun j _ => h1.frozen _) (fun v hv => by rw [(List.mem_replicate.1 hv).2]; rfl)
  rw [List.length_replicate] at h9
  exact h9
set_option maxHeartbeats 8000000 in
theorem repeat1_any (x : Int) (n g : Nat) (hn : n ≤ 4096) (w : World) (hg : w.cell? ⟨g, 0, none⟩ = some (.int .i64 x)) (hgl : g < w.heap.size) :
    Calls Tryz.prog 82 #[.slice (some ⟨g, 0, none⟩) 1 1, .int .i64 (n : Int)] w fun e w' => ∃ rb, e = .returned (.slice (some ⟨rb, 0, none⟩) n n) ∧ w.heap.size ≤ rb ∧ Blk w' rb (Array.replicate n (.int .i64 x)) 3 ∧ Below w.heap.size w w' := by
  have CM : Hid (Calls Tryz.prog 113 #[.int .u64 1, .int .u64 (n : Int)] w fun e w' => e = .returned (.tuple #[.int .u64 0, .int .u64 (n : Int)]) ∧ w' = w) := mul_one9 n hn w
  have HG : Hid (w.cell? ⟨g, 0, none⟩ = some (.int .i64 x) ∧ g < w.heap.size) := ⟨hg, hgl⟩
  have hmk := run_mk1 38 3 (.int .i64 0) 8 info_int9 rfl Tryz.underlying38 (by omega) n hn
  have d1 : decide ((n : Int) > 9223372036854775807) = false := by rw [decide_eq_false_iff_not]; omega
  have d2 : ¬ (n : Int) < 0 := by omega
  have d3 : IntKind.u64.wrap (n : Int) = (n : Int) := Mul64.wrapN n (by omega)
  have d4 : IntKind.i64.wrap (n : Int) = (n : Int) := by rw [IntKind.wrap_i64]; omega
  clear hg hgl
  go_enter Tryz.func82, Tryz.ntmps82
  go_upto_region 7 with (first | (go_at_call 113; refine CM.out.mono ?_; rintro e w1 ⟨rfl, hw1⟩; obtain rfl := hw1.symm))
  obtain ⟨w2, hw2⟩ : ∃ w2, w.alloc (.cells (Array.replicate n (.int .i64 0)) 3) = w2 := ⟨_, rfl⟩
  have HB2 : Hid (Below w.heap.size w w2) := by rw [← hw2]; exact (Below.refl _ _).alloc (Nat.le_refl _) _
  have HI2 : Hid (RepI w2 w.heap.size n 0 x) := by rw [← hw2]; exact ⟨_, Blk.new w _ _, by simp, fun j hj => absurd hj (by omega)⟩
  rw [hw2]
  clear hw2 hmk CM d1 d2 d3 d4
  obtain ⟨rb, hrb⟩ : ∃ rb, w.heap.size = rb := ⟨_, rfl⟩
  have HRB : Hid (w.heap.size = rb ∧ g < rb) := ⟨hrb, by have := HG.out.2; omega⟩
  rw [hrb] at HI2 ⊢
  clear hrb
  by_cases hn0 : n = 0
  · subst hn0
    have hcp : (Builtin.copy_ #[38, 38] 3 #[.slice (some ⟨rb, 0, none⟩) 0 0, .slice (some ⟨g, 0, none⟩) 1 1]).run Tryz.prog w2 = .ok (goInt 0) w2 := run_copy_none (P := Tryz.prog) w2 38 38 3 3 _ _ 0 0 1 1 Tryz.underlying38 size_int9 rfl
    go_wp2_with fail
    go_loopw [8] (fun ix wr => ix = .int .i64 0 ∧ Hid (wr = w2)) (fun ix _ => 0)
    case atStart => exact ⟨rfl, rfl⟩
    case round =>
      obtain ⟨rfl, HW⟩ := hrel
      go_wp2_with fail
      go_ret
      have e := HW.out
      subst e
      obtain ⟨cur, h1, h2, h3⟩ := HI2.out
      have h4 : cur = Array.replicate 0 (.int .i64 x) := by
        apply Array.ext
        · simp [h2]
        · intro i hi; omega
      rw [h4] at h1
      exact ⟨rb, rfl, by rw [HRB.out.1]; exact Nat.le_refl _, h1, HB2.out⟩
  · have hn1 : 1 ≤ n := by omega
    clear hn0
    have e1 : min 1 (n - 0) = 1 := by omega
    have hcp : (Builtin.copy_ #[38, 38] 3 #[.slice (some ⟨rb, 0, none⟩) n n, .slice (some ⟨g, 0, none⟩) 1 1]).run Tryz.prog w2 = .ok (goInt (1 : Nat)) (w2.setCells rb 0 [.int .i64 x]) := by
      have h9 := HI2.out.copy (m := 0) (Nat.zero_le _) 3 ⟨g, 0, none⟩ 1 n 1 0 (Nat.zero_le _) (fun j hj => by
        have : j = 0 := by omega
        subst this
        rw [← HG.out.1]
        exact HB2.out.cell (p := ⟨g, 0, none⟩) HG.out.2)
      rw [e1] at h9
      exact h9
    have HI3 : Hid (RepI (w2.setCells rb 0 [.int .i64 x]) rb n 1 x ∧ Below w.heap.size w (w2.setCells rb 0 [.int .i64 x])) := by
      have h1 := HI2.out.step (k := 1) (by omega)
      rw [Nat.zero_add] at h1
      exact ⟨h1, HB2.out.trans ((setCells_frm rb _ 0 w2).below HB2.out.size (fun k hk => by rw [show k = rb from hk, HRB.out.1]; exact Nat.le_refl _))⟩
    clear e1
    go_upto_region 8 with fail
    clear hcp
    generalize w2.setCells rb 0 [.int .i64 x] = w3 at *
    go_loopw [8] (fun ix wr => ∃ m : Nat, ix = .int .i64 (m : Int) ∧ 1 ≤ m ∧ m ≤ n ∧ Hid (RepI wr rb n m x ∧ Below w.heap.size w wr)) (fun ix _ => n - (intOf ix).toNat)
    case atStart => exact ⟨1, by go_num, Nat.le_refl _, hn1, HI3.out⟩
    case round =>
      obtain ⟨m, rfl, hm1, hm, HI⟩ := hrel
      clear HI3
      by_cases hm0 : m = n
      · subst hm0
        go_wp2_with fail
        go_ret
        obtain ⟨⟨cur, h1, h2, h3⟩, h5⟩ := HI.out
        have h4 : cur = Array.replicate m (.int .i64 x) := by
          apply Array.ext
          · simp [h2]
          · intro i hi hi2
            have := h3 i (by omega)
            rw [Array.getElem?_eq_getElem hi] at this
            simp only [Array.getElem_replicate]
            exact Option.some.inj this
        rw [h4] at h1
        exact ⟨rb, rfl, by rw [HRB.out.1]; exact Nat.le_refl _, h1, h5⟩
      · have hmn : m < n := by omega
        have hnm : ¬ n = m := by omega
        have hmi : (m : Int) < (n : Int) := by omega
        clear hm0
        obtain ⟨k, hk⟩ : ∃ k, min m (n - m) = k := ⟨_, rfl⟩
        have HK : Hid (1 ≤ k ∧ m + k ≤ n) := ⟨by omega, by omega⟩
        have HCp : Hid (∀ w9, RepI w9 rb n m x → (Builtin.copy_ #[38, 38] 3 #[.slice (some ⟨rb, m, none⟩) (n - m) (n - m), .slice (some ⟨rb, 0, none⟩) m n]).run Tryz.prog w9 = .ok (goInt (k : Nat)) (w9.setCells rb m (List.replicate k (.int .i64 x)))) := fun w9 h9 => by
          have h8 := h9.copy hm 3 ⟨rb, 0, none⟩ n (n - m) m m hm (fun j hj => by
            obtain ⟨cur, h1, h2, h3⟩ := h9
            have e : (⟨rb, 0, none⟩ : Addr).add j = ⟨rb, j, none⟩ := by unfold Addr.add; split <;> simp_all
            rw [e]
            exact h1.cell (h3 j hj))
          rw [hk] at h8
          exact h8
        have hwr : IntKind.i64.wrap ((m : Int) + (k : Int)) = (m : Int) + (k : Int) := by rw [IntKind.wrap_i64]; have := HK.out.2; omega
        clear hk
        go_upto_region 9 with fail
        refine wp_region_L (fun w' => True) 99 (by kernel_rfl) ?_
        have HId : Hid (RepI wr.drew rb n m x ∧ Below w.heap.size w wr.drew) := ⟨HI.out.1, HI.out.2.drew⟩
        generalize wr.drew = wd at *
        refine wpL_take (v := ?_) 0 rfl (by kernel_rfl) (fun _ _ _ h => h) (by rfl) ?_ trivial ?_
        rotate_left
        focus
          intro w9 hw9

          go_simp
          try with_reducible rfl
        try simp only [Act.put, List.setIfInBounds_toArray, List.set_cons_zero, List.set_cons_succ]
        refine wpL_take (v := ?_) 1 rfl (by kernel_rfl) (fun _ _ _ h => h) (by rfl) ?_ trivial ?_
        rotate_left
        focus
          intro w9 hw9

          go_simp
          try with_reducible rfl
        try simp only [Act.put, List.setIfInBounds_toArray, List.set_cons_zero, List.set_cons_succ]
        refine wpL_take (v := ?_) 2 rfl (by kernel_rfl) (fun _ _ _ h => h) (by rfl) ?_ trivial ?_
        rotate_left
        focus
          intro w9 hw9

          go_simp
          try with_reducible rfl
        try simp only [Act.put, List.setIfInBounds_toArray, List.set_cons_zero, List.set_cons_succ]
        refine wpL_take (v := ?_) 3 rfl (by kernel_rfl) (fun _ _ _ h => h) (by rfl) ?_ trivial ?_
        rotate_left
        focus
          intro w9 hw9

          go_simp
          try with_reducible rfl
        try simp only [Act.put, List.setIfInBounds_toArray, List.set_cons_zero, List.set_cons_succ]
        refine wpL_take (v := ?_) 4 rfl (by kernel_rfl) (fun _ _ _ h => h) (by rfl) ?_ trivial ?_
        rotate_left
        focus
          intro w9 hw9

          go_simp
          try with_reducible rfl
        try simp only [Act.put, List.setIfInBounds_toArray, List.set_cons_zero, List.set_cons_succ]
        refine wpL_take (v := ?_) 5 rfl (by kernel_rfl) (fun _ _ _ h => h) (by rfl) ?_ trivial ?_
        rotate_left
        focus
          intro w9 hw9

          go_simp
          try with_reducible rfl
        try simp only [Act.put, List.setIfInBounds_toArray, List.set_cons_zero, List.set_cons_succ]
        refine wpL_take (v := ?_) 6 rfl (by kernel_rfl) (fun _ _ _ h => h) (by rfl) ?_ trivial ?_
        rotate_left
        focus
          intro w9 hw9

          go_simp
          try with_reducible rfl
        try simp only [Act.put, List.setIfInBounds_toArray, List.set_cons_zero, List.set_cons_succ]
        refine wpL_one 7 rfl (by kernel_rfl) (by rfl) ?_
        intro K hK
        have hcp := HCp.out wd HId.out.1
        go_simp
        have HI5 : Hid (RepI (wd.setCells rb m (List.replicate k (.int .i64 x))) rb n (m + k) x ∧ Below w.heap.size w (wd.setCells rb m (List.replicate k (.int .i64 x)))) :=
          ⟨HId.out.1.step HK.out.2, HId.out.2.trans ((setCells_frm rb _ m wd).below HId.out.2.size (fun k hk => by rw [show k = rb from hk, HRB.out.1]; exact Nat.le_refl _))⟩
        clear hcp HId
        generalize wd.setCells rb m (List.replicate k (.int .i64 x)) = w5 at *
        refine hK.out _ _ (fun _ => trivial) ?_
        clear hK K
        try simp only [Act.put, List.setIfInBounds_toArray, List.set_cons_zero, List.set_cons_succ]
        refine wpL_one 8 rfl (by kernel_rfl) (by rfl) ?_
        intro K hK
        go_simp
        refine hK.out _ _ (fun _ => trivial) ?_
        clear hK K
        try simp only [Act.put, List.setIfInBounds_toArray, List.set_cons_zero, List.set_cons_succ]
        refine wpL_one 9 rfl (by kernel_rfl) (by rfl) ?_
        intro K hK
        go_simp
        refine hK.out _ _ (fun _ => trivial) ?_
        clear hK K
        try simp only [Act.put, List.setIfInBounds_toArray, List.set_cons_zero, List.set_cons_succ]
        refine wpL_done (by kernel_rfl) ?_ _
        try simp only [NoPanic]
        go_wp2_with fail
        go_roundw
        case rel => exact ⟨m + k, by go_num, by have := HK.out.1; omega, HK.out.2, HI5.out⟩
        case measure => have h9 := HK.out; simp [intOf]; omega

end Go.Proofs.YtncfejndmlcidaaGreat

namespace Go.Proofs.YtncfejndmlcidaaGreat
set_option maxRecDepth 100000

/-- how many places are not met -/
def Pst.un (s : Pst) : Nat := s.met.countP (fun x => x == 0)
structure PInv (n : Nat) (s : Pst) : Prop where
  lm : s.met.length = n
  ll : s.low.length = n
  lp : s.prt.length = n
  op : ∀ q ∈ s.opn, q < n ∧ s.met.getD q 0 ≠ 0
  ol : s.opn.length ≤ s.cnt
  cu : s.cnt + s.un ≤ n
structure PExt (s t : Pst) : Prop where
  mt : ∀ j, s.met.getD j 0 ≠ 0 → t.met.getD j 0 ≠ 0
  un : t.un ≤ s.un
  op : s.opn <+: t.opn
theorem PExt.refl (s : Pst) : PExt s s := ⟨fun _ h => h, Nat.le_refl _, List.prefix_refl _⟩
theorem PExt.trans {a b c : Pst} (h1 : PExt a b) (h2 : PExt b c) : PExt a c := ⟨fun j h => h2.mt j (h1.mt j h), Nat.le_trans h2.un h1.un, h1.op.trans h2.op⟩
theorem countP_set {L : List Nat} {i : Nat} {x : Nat} (hi : i < L.length) (h0 : L.getD i 0 = 0) (hx : x ≠ 0) : (L.set i x).countP (fun x => x == 0) + 1 = L.countP (fun x => x == 0) := by
  induction L generalizing i with
  | nil => simp at hi
  | cons a L ih =>
    cases i with
    | zero =>
      have ha : a = 0 := by simpa using h0
      rw [List.set_cons_zero, List.countP_cons, List.countP_cons, ha]
      have : (x == 0) = false := by simpa using hx
      rw [this]
      simp
    | succ i =>
      rw [List.set_cons_succ, List.countP_cons, List.countP_cons]
      have := ih (i := i) (by simpa using hi) (by simpa using h0)
      omega
theorem getD_set_ne9 {α : Type} (L : List α) {i j : Nat} (x z : α) (h : j ≠ i) : (L.set i x).getD j z = L.getD j z := by
  simp only [List.getD_eq_getElem?_getD, List.getElem?_set]
  rw [if_neg (Ne.symm h)]
theorem getD_set_eq9 {α : Type} (L : List α) {i : Nat} (x z : α) (h : i < L.length) : (L.set i x).getD i z = x := by
  simp only [List.getD_eq_getElem?_getD, List.getElem?_set, h, if_true, Option.getD_some]
theorem Pst.meet_inv {n : Nat} {s : Pst} (h : PInv n s) {p : Nat} (hp : p < n) (h0 : s.met.getD p 0 = 0) : PInv n (s.meet p) ∧ (s.meet p).un + 1 = s.un ∧ (s.meet p).met.getD p 0 ≠ 0 ∧ (∀ j, s.met.getD j 0 ≠ 0 → (s.meet p).met.getD j 0 ≠ 0) ∧ (s.meet p).opn = s.opn ++ [p] := by
  have hu : (s.meet p).un + 1 = s.un := countP_set (by rw [h.lm]; exact hp) h0 (by omega)
  have hm : (s.meet p).met.getD p 0 = s.cnt + 1 := getD_set_eq9 _ _ _ (by rw [h.lm]; exact hp)
  have hj : ∀ j, s.met.getD j 0 ≠ 0 → (s.meet p).met.getD j 0 ≠ 0 := fun j hj => by
    by_cases e : j = p
    · subst e; exact absurd h0 hj
    · show (s.met.set p _).getD j 0 ≠ 0
      rw [getD_set_ne9 _ _ _ e]
      exact hj
  refine ⟨⟨by show (s.met.set p _).length = n; rw [List.length_set]; exact h.lm, by show (s.low.set p _).length = n; rw [List.length_set]; exact h.ll, h.lp, fun q hq => ?_, ?_, ?_⟩, hu, by omega, hj, rfl⟩
  · rcases List.mem_append.1 (show q ∈ s.opn ++ [p] from hq) with hq | hq
    · exact ⟨(h.op q hq).1, hj q (h.op q hq).2⟩
    · rw [List.mem_singleton.1 hq]
      exact ⟨hp, by omega⟩
  · show (s.opn ++ [p]).length ≤ s.cnt + 1
    rw [List.length_append]
    have := h.ol
    simp
    omega
  · show s.cnt + 1 + (s.meet p).un ≤ n
    have := h.cu
    omega
theorem foldl_set_len {α β : Type} (f : β → Nat) (x : α) : ∀ (L : List β) (A : List α), (L.foldl (fun l q => l.set (f q) x) A).length = A.length
  | [], A => rfl
  | q :: L, A => by rw [List.foldl_cons, foldl_set_len f x L, List.length_set]
theorem idx_app {p : Nat} : ∀ (pre r : List Nat), p ∉ pre → (pre ++ p :: r).idxOf p = pre.length
  | [], r, _ => by simp
  | a :: pre, r, h => by
    simp only [List.mem_cons, not_or] at h
    have h1 := idx_app pre r h.2
    rw [List.cons_append, List.idxOf_cons]
    have : (a == p) = false := by simpa using (Ne.symm h.1)
    rw [this, h1]
    rfl
theorem idx_pre {p : Nat} {pre opn : List Nat} (h : (pre ++ [p]) <+: opn) (hn : p ∉ pre) : opn.idxOf p = pre.length ∧ pre.length < opn.length ∧ opn.take pre.length = pre := by
  obtain ⟨r, rfl⟩ := h
  refine ⟨?_, by simp, by rw [List.append_assoc]; exact List.take_left' rfl⟩
  rw [List.append_assoc]
  exact idx_app pre r hn
theorem Pst.fin_inv {n : Nat} {s t : Pst} (hs : PInv n t) {p : Nat} (hpre : (s.opn ++ [p]) <+: t.opn) (hn : p ∉ s.opn) : PInv n (t.fin p) ∧ (t.fin p).met = t.met ∧ s.opn <+: (t.fin p).opn := by
  unfold Pst.fin
  split
  · obtain ⟨h1, h2, h3⟩ := idx_pre hpre hn
    have ho : (t.shut p).opn = s.opn := by
      show t.opn.take (t.opn.idxOf p) = s.opn
      rw [h1, h3]
    refine ⟨⟨hs.lm, hs.ll, (foldl_set_len (fun q : Nat => q) (p : Int) (t.opn.drop (t.opn.idxOf p)) t.prt).trans hs.lp, fun q hq => ?_, ?_, hs.cu⟩, rfl, by rw [ho]; exact List.prefix_refl _⟩
    · rw [ho] at hq
      exact hs.op q (hpre.subset (List.mem_append_left _ hq))
    · rw [ho]
      have := hs.ol
      show s.opn.length ≤ t.cnt
      omega
  · exact ⟨hs, rfl, (List.prefix_append s.opn [p]).trans hpre⟩
theorem Pst.step_inv {n : Nat} {go : Nat → Pst → Pst} {p : Nat} {t : Pst} {q : Nat} (ht : PInv n t) (_hq : q < n) (hgo : t.met.getD q 0 = 0 → PInv n (go q t) ∧ PExt t (go q t)) : PInv n (t.step go p q) ∧ PExt t (t.step go p q) := by
  unfold Pst.step
  split
  · rename_i h0
    obtain ⟨h1, h2⟩ := hgo h0
    exact ⟨⟨h1.lm, by show (List.set _ _ _).length = n; rw [List.length_set]; exact h1.ll, h1.lp, h1.op, h1.ol, h1.cu⟩, ⟨h2.mt, h2.un, h2.op⟩⟩
  · split
    · exact ⟨⟨ht.lm, by show (List.set _ _ _).length = n; rw [List.length_set]; exact ht.ll, ht.lp, ht.op, ht.ol, ht.cu⟩, ⟨fun _ h => h, Nat.le_refl _, List.prefix_refl _⟩⟩
    · exact ⟨ht, PExt.refl _⟩
theorem steps_inv {n : Nat} {go : Nat → Pst → Pst} {p : Nat} : ∀ (L : List Nat) (t : Pst), PInv n t → (∀ q ∈ L, q < n) → (∀ q ∈ L, ∀ t', PInv n t' → PExt t t' → t'.met.getD q 0 = 0 → PInv n (go q t') ∧ PExt t' (go q t')) → PInv n (L.foldl (Pst.step go p) t) ∧ PExt t (L.foldl (Pst.step go p) t)
  | [], t, ht, _, _ => ⟨ht, PExt.refl _⟩
  | q :: L, t, ht, hL, hgo => by
    rw [List.foldl_cons]
    obtain ⟨h1, h2⟩ := Pst.step_inv (p := p) ht (hL q (List.mem_cons_self ..)) (hgo q (List.mem_cons_self ..) t ht (PExt.refl _))
    obtain ⟨h3, h4⟩ := steps_inv L _ h1 (fun q' hq => hL q' (List.mem_cons_of_mem _ hq)) (fun q' hq t' a b => hgo q' (List.mem_cons_of_mem _ hq) t' a (h2.trans b))
    exact ⟨h3, h2.trans h4⟩
theorem visit_inv {n : Nat} {next : List (List Nat)} (hn : ∀ p, ∀ q ∈ next.getD p [], q < n) : ∀ (f p : Nat) (s : Pst), PInv n s → p < n → s.met.getD p 0 = 0 → s.un ≤ f → PInv n (visitM next f p s) ∧ PExt s (visitM next f p s) ∧ (visitM next f p s).met.getD p 0 ≠ 0
  | 0, p, s, hs, hp, h0, hf => by
    exfalso
    have : 0 < s.un := List.countP_pos_iff.2 ⟨s.met.getD p 0, by
      have hl : p < s.met.length := by rw [hs.lm]; exact hp
      rw [List.getD_eq_getElem?_getD, List.getElem?_eq_getElem hl]
      exact List.getElem_mem hl, by rw [h0]; rfl⟩
    omega
  | f + 1, p, s, hs, hp, h0, hf => by
    obtain ⟨m1, m2, m3, m4, m5⟩ := Pst.meet_inv hs hp h0
    obtain ⟨h1, h2⟩ := steps_inv (go := visitM next f) (p := p) (next.getD p []) (s.meet p) m1 (hn p) (fun q hq t' ht' he hq0 => by
      have h9 := visit_inv hn f q t' ht' (hn p q hq) hq0 (by have := he.un; omega)
      exact ⟨h9.1, h9.2.1⟩)
    have hpn : p ∉ s.opn := fun h => (hs.op p h).2 h0
    obtain ⟨h3, h4, h5⟩ := Pst.fin_inv (s := s) h1 (by rw [← m5]; exact h2.op) hpn
    have hv : visitM next (f + 1) p s = ((next.getD p []).foldl (Pst.step (visitM next f) p) (s.meet p)).fin p := rfl
    rw [hv]
    refine ⟨h3, ⟨fun j hj => by rw [h4]; exact h2.mt j (m4 j hj), ?_, h5⟩, by rw [h4]; exact h2.mt p m3⟩
    show List.countP _ (Pst.met _) ≤ _
    rw [h4]
    have := h2.un
    show Pst.un _ ≤ _
    omega

end Go.Proofs.YtncfejndmlcidaaGreat
