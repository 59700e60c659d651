/- Layer 19: visit. Layer 19: parts. -/
import Derived.Test.YtncfejndmlcidaaGreatGWTg4
namespace Go.Proofs.YtncfejndmlcidaaGreat
open Go.RowKit
set_option maxRecDepth 100000

theorem PtI.cellM {w : World} {C : Nat} {v : Pv} {vO : Value} {s : Pst} (h : PtI w C v vO s) {q : Nat} (hq : q < s.met.length) : w.cell? ⟨v.mb, q, none⟩ = some (.int .i64 (s.met.getD q 0 : Nat)) := h.met.cell (nats_get _ q hq)
theorem PtI.cellL {w : World} {C : Nat} {v : Pv} {vO : Value} {s : Pst} (h : PtI w C v vO s) {q : Nat} (hq : q < s.low.length) : w.cell? ⟨v.lb, q, none⟩ = some (.int .i64 (s.low.getD q 0 : Nat)) := h.low.cell (nats_get _ q hq)
theorem PtI.cellP {w : World} {C : Nat} {v : Pv} {vO : Value} {s : Pst} (h : PtI w C v vO s) {q : Nat} (hq : q < s.prt.length) : w.cell? ⟨v.qb, q, none⟩ = some (.int .i64 (s.prt.getD q 0)) := h.prt.cell (ints9_get _ q hq)
theorem PtI.below {w w' : World} {C g : Nat} (hb : C ≤ w.heap.size) (h : Frm w w' (one1 g)) (hg : C ≤ g) : Below C w w' := h.below hb (fun k hk => by rw [show k = g from hk]; exact hg)
/-- what lies ahead of a visit -/
structure VisF (w0 : World) (Cn nb : Nat) (ns : Nat → Value) (NN : List (List Nat)) (v : Pv) : Prop where
  nx : OutN w0 Cn nb ns NN
  nv : v.nv = .slice (some ⟨nb, 0, none⟩) v.n v.n
  nl : NN.length = v.n
  n4 : v.n ≤ 4096
  lt : ∀ p, ∀ q ∈ NN.getD p [], q < v.n
  rl : ∀ p, (NN.getD p []).length ≤ 1099511627776
set_option maxHeartbeats 16000000 in
theorem visit_any (w0 : World) (Cn nb : Nat) (ns : Nat → Value) (NN : List (List Nat)) (v : Pv) (hV : VisF w0 Cn nb ns NN v) : ∀ (f p : Nat) (s : Pst) (vO : Value) (w : World), Below w0.heap.size w0 w → PtI w w0.heap.size v vO s → PInv v.n s → p < v.n → s.met.getD p 0 = 0 → s.un ≤ f →
    Calls Tryz.prog 83 #[.pointer (some ⟨v.pb, 0, none⟩), .int .i64 (p : Int)] w fun e w' => e = .returned (.tuple #[]) ∧ Below w0.heap.size w w' ∧ ∃ vO', PtI w' w0.heap.size v vO' (visitM NN f p s) := by
  intro f
  induction f with
  | zero =>
    intro p s vO w _ _ hI hp h0 hf
    exfalso
    have : 0 < s.un := List.countP_pos_iff.2 ⟨s.met.getD p 0, by
      have hl : p < s.met.length := by rw [hI.lm]; exact hp
      rw [List.getD_eq_getElem?_getD, List.getElem?_eq_getElem hl]
      exact List.getElem_mem hl, by rw [h0]; rfl⟩
    omega
  | succ f ih =>
    intro p s vO w hbw hP hI hp h0 hf
    have IH : Hid (∀ (p : Nat) (s : Pst) (vO : Value) (w : World), Below w0.heap.size w0 w → PtI w w0.heap.size v vO s → PInv v.n s → p < v.n → s.met.getD p 0 = 0 → s.un ≤ f →
      Calls Tryz.prog 83 #[.pointer (some ⟨v.pb, 0, none⟩), .int .i64 (p : Int)] w fun e w' => e = .returned (.tuple #[]) ∧ Below w0.heap.size w w' ∧ ∃ vO', PtI w' w0.heap.size v vO' (visitM NN f p s)) := ih
    obtain ⟨C, hC⟩ : ∃ C, w0.heap.size = C := ⟨_, rfl⟩
    rw [hC] at hbw hP ⊢
    have HC : Hid (w0.heap.size = C ∧ C ≤ w.heap.size ∧ Below C w0 w) := ⟨hC, by rw [← hC]; have := hbw.size; omega, hbw⟩
    have HA : Hid (PInv v.n s ∧ p < v.n ∧ s.met.getD p 0 = 0 ∧ s.un ≤ f + 1) := ⟨hI, hp, h0, hf⟩
    have HM : Hid (PInv v.n (s.meet p) ∧ (s.meet p).un + 1 = s.un ∧ (s.meet p).met.getD p 0 ≠ 0 ∧ (s.meet p).opn = s.opn ++ [p]) := by
      obtain ⟨a, b, c, d, e⟩ := Pst.meet_inv hI hp h0
      exact ⟨a, b, c, e⟩
    have HP : Hid (PtI w C v vO s) := hP
    have HV : Hid (VisF w0 Cn nb ns NN v) := hV
    have c1 : w.cell? ⟨v.pb, 1, none⟩ = some (.int .i64 (s.cnt : Nat)) := hP.blk.cell rfl
    have f1 := hP.blk.frozen 1
    have hcn : s.cnt ≤ 4096 := by have := hI.cu; have := hV.n4; omega
    have HN4 : Hid (s.cnt ≤ 4096) := hcn
    clear hbw hP hI hp h0 hf hV hC ih
    go_enter Tryz.func83, Tryz.ntmps83
    go_upto_region 1 with fail
    clear c1 f1
    have HP1 : Hid (PtI (w.setCell ⟨v.pb, 1, none⟩ (.int .i64 ((s.cnt : Int) + 1))) C v vO { s with cnt := s.cnt + 1 } ∧ Below C w (w.setCell ⟨v.pb, 1, none⟩ (.int .i64 ((s.cnt : Int) + 1)))) :=
      ⟨HP.out.cnt (s.cnt + 1), PtI.below HC.out.2.1 (frm_set w v.pb 1 _ (.inl rfl)) HP.out.pC⟩
    generalize w.setCell ⟨v.pb, 1, none⟩ (.int .i64 ((s.cnt : Int) + 1)) = w1 at *
    have HPd : Hid (PtI w1.drew C v vO { s with cnt := s.cnt + 1 } ∧ Below C w w1.drew) := ⟨HP1.out.1.on (Below.refl _ _).drew, HP1.out.2.drew⟩
    obtain ⟨qO, lO, cO, evO⟩ := HP.out.opn.slc
    refine wp_region_L (fun w' => Blk w' v.pb #[v.nv, .int .i64 ((s.cnt : Int) + 1), .slice (some ⟨v.mb, 0, none⟩) v.n v.n, .slice (some ⟨v.lb, 0, none⟩) v.n v.n, vO, .slice (some ⟨v.qb, 0, none⟩) v.n v.n] 124) 99 (by kernel_rfl) ?_
    clear HP1
    have hpn : p < v.n := HA.out.2.1
    have hnn : v.n ≤ 4096 := HV.out.n4
    generalize w1.drew = wd at *
    refine wpL_take (v := ?_) 0 rfl (by kernel_rfl) (fun _ _ _ h => h) (by rfl) ?_ HPd.out.1.blk ?_
    rotate_left
    focus
      intro w9 hw9
      have b1 : w9.cell? ⟨v.pb, 1, none⟩ = some (.int .i64 ((s.cnt : Int) + 1)) := hw9.cell rfl
      have b2 : w9.cell? ⟨v.pb, 2, none⟩ = some (.slice (some ⟨v.mb, 0, none⟩) v.n v.n) := hw9.cell rfl
      have b3 : w9.cell? ⟨v.pb, 3, none⟩ = some (.slice (some ⟨v.lb, 0, none⟩) v.n v.n) := hw9.cell rfl
      go_simp
      try with_reducible rfl
    try simp only [Act.put, List.setIfInBounds_toArray, List.set_cons_zero, List.set_cons_succ]
    refine wpL_take (v := ?_) 1 rfl (by kernel_rfl) (fun _ _ _ h => h) (by rfl) ?_ HPd.out.1.blk ?_
    rotate_left
    focus
      intro w9 hw9
      have b1 : w9.cell? ⟨v.pb, 1, none⟩ = some (.int .i64 ((s.cnt : Int) + 1)) := hw9.cell rfl
      have b2 : w9.cell? ⟨v.pb, 2, none⟩ = some (.slice (some ⟨v.mb, 0, none⟩) v.n v.n) := hw9.cell rfl
      have b3 : w9.cell? ⟨v.pb, 3, none⟩ = some (.slice (some ⟨v.lb, 0, none⟩) v.n v.n) := hw9.cell rfl
      go_simp
      try with_reducible rfl
    try simp only [Act.put, List.setIfInBounds_toArray, List.set_cons_zero, List.set_cons_succ]
    refine wpL_take (v := ?_) 2 rfl (by kernel_rfl) (fun _ _ _ h => h) (by rfl) ?_ HPd.out.1.blk ?_
    rotate_left
    focus
      intro w9 hw9
      have b1 : w9.cell? ⟨v.pb, 1, none⟩ = some (.int .i64 ((s.cnt : Int) + 1)) := hw9.cell rfl
      have b2 : w9.cell? ⟨v.pb, 2, none⟩ = some (.slice (some ⟨v.mb, 0, none⟩) v.n v.n) := hw9.cell rfl
      have b3 : w9.cell? ⟨v.pb, 3, none⟩ = some (.slice (some ⟨v.lb, 0, none⟩) v.n v.n) := hw9.cell rfl
      go_simp
      try with_reducible rfl
    try simp only [Act.put, List.setIfInBounds_toArray, List.set_cons_zero, List.set_cons_succ]
    refine wpL_take (v := ?_) 3 rfl (by kernel_rfl) (fun _ _ _ h => h) (by rfl) ?_ HPd.out.1.blk ?_
    rotate_left
    focus
      intro w9 hw9
      have b1 : w9.cell? ⟨v.pb, 1, none⟩ = some (.int .i64 ((s.cnt : Int) + 1)) := hw9.cell rfl
      have b2 : w9.cell? ⟨v.pb, 2, none⟩ = some (.slice (some ⟨v.mb, 0, none⟩) v.n v.n) := hw9.cell rfl
      have b3 : w9.cell? ⟨v.pb, 3, none⟩ = some (.slice (some ⟨v.lb, 0, none⟩) v.n v.n) := hw9.cell rfl
      go_simp
      try with_reducible rfl
    try simp only [Act.put, List.setIfInBounds_toArray, List.set_cons_zero, List.set_cons_succ]
    refine wpL_take (v := ?_) 4 rfl (by kernel_rfl) (fun _ _ _ h => h) (by rfl) ?_ HPd.out.1.blk ?_
    rotate_left
    focus
      intro w9 hw9
      have b1 : w9.cell? ⟨v.pb, 1, none⟩ = some (.int .i64 ((s.cnt : Int) + 1)) := hw9.cell rfl
      have b2 : w9.cell? ⟨v.pb, 2, none⟩ = some (.slice (some ⟨v.mb, 0, none⟩) v.n v.n) := hw9.cell rfl
      have b3 : w9.cell? ⟨v.pb, 3, none⟩ = some (.slice (some ⟨v.lb, 0, none⟩) v.n v.n) := hw9.cell rfl
      go_simp
      try with_reducible rfl
    try simp only [Act.put, List.setIfInBounds_toArray, List.set_cons_zero, List.set_cons_succ]
    refine wpL_take (v := ?_) 5 rfl (by kernel_rfl) (fun _ _ _ h => h) (by rfl) ?_ HPd.out.1.blk ?_
    rotate_left
    focus
      intro w9 hw9
      have b1 : w9.cell? ⟨v.pb, 1, none⟩ = some (.int .i64 ((s.cnt : Int) + 1)) := hw9.cell rfl
      have b2 : w9.cell? ⟨v.pb, 2, none⟩ = some (.slice (some ⟨v.mb, 0, none⟩) v.n v.n) := hw9.cell rfl
      have b3 : w9.cell? ⟨v.pb, 3, none⟩ = some (.slice (some ⟨v.lb, 0, none⟩) v.n v.n) := hw9.cell rfl
      go_simp
      try with_reducible rfl
    try simp only [Act.put, List.setIfInBounds_toArray, List.set_cons_zero, List.set_cons_succ]
    refine wpL_take (v := ?_) 6 rfl (by kernel_rfl) (fun _ _ _ h => h) (by rfl) ?_ HPd.out.1.blk ?_
    rotate_left
    focus
      intro w9 hw9
      have b1 : w9.cell? ⟨v.pb, 1, none⟩ = some (.int .i64 ((s.cnt : Int) + 1)) := hw9.cell rfl
      have b2 : w9.cell? ⟨v.pb, 2, none⟩ = some (.slice (some ⟨v.mb, 0, none⟩) v.n v.n) := hw9.cell rfl
      have b3 : w9.cell? ⟨v.pb, 3, none⟩ = some (.slice (some ⟨v.lb, 0, none⟩) v.n v.n) := hw9.cell rfl
      go_simp
      try with_reducible rfl
    try simp only [Act.put, List.setIfInBounds_toArray, List.set_cons_zero, List.set_cons_succ]
    refine wpL_take (v := ?_) 7 rfl (by kernel_rfl) (fun _ _ _ h => h) (by rfl) ?_ HPd.out.1.blk ?_
    rotate_left
    focus
      intro w9 hw9
      have b1 : w9.cell? ⟨v.pb, 1, none⟩ = some (.int .i64 ((s.cnt : Int) + 1)) := hw9.cell rfl
      have b2 : w9.cell? ⟨v.pb, 2, none⟩ = some (.slice (some ⟨v.mb, 0, none⟩) v.n v.n) := hw9.cell rfl
      have b3 : w9.cell? ⟨v.pb, 3, none⟩ = some (.slice (some ⟨v.lb, 0, none⟩) v.n v.n) := hw9.cell rfl
      go_simp
      try with_reducible rfl
    try simp only [Act.put, List.setIfInBounds_toArray, List.set_cons_zero, List.set_cons_succ]
    refine wpL_take (v := ?_) 8 rfl (by kernel_rfl) (fun _ _ _ h => h) (by rfl) ?_ HPd.out.1.blk ?_
    rotate_left
    focus
      intro w9 hw9
      have b1 : w9.cell? ⟨v.pb, 1, none⟩ = some (.int .i64 ((s.cnt : Int) + 1)) := hw9.cell rfl
      have b2 : w9.cell? ⟨v.pb, 2, none⟩ = some (.slice (some ⟨v.mb, 0, none⟩) v.n v.n) := hw9.cell rfl
      have b3 : w9.cell? ⟨v.pb, 3, none⟩ = some (.slice (some ⟨v.lb, 0, none⟩) v.n v.n) := hw9.cell rfl
      go_simp
      try with_reducible rfl
    try simp only [Act.put, List.setIfInBounds_toArray, List.set_cons_zero, List.set_cons_succ]
    refine wpL_take (v := ?_) 9 rfl (by kernel_rfl) (fun _ _ _ h => h) (by rfl) ?_ HPd.out.1.blk ?_
    rotate_left
    focus
      intro w9 hw9
      have b1 : w9.cell? ⟨v.pb, 1, none⟩ = some (.int .i64 ((s.cnt : Int) + 1)) := hw9.cell rfl
      have b2 : w9.cell? ⟨v.pb, 2, none⟩ = some (.slice (some ⟨v.mb, 0, none⟩) v.n v.n) := hw9.cell rfl
      have b3 : w9.cell? ⟨v.pb, 3, none⟩ = some (.slice (some ⟨v.lb, 0, none⟩) v.n v.n) := hw9.cell rfl
      go_simp
      try with_reducible rfl
    try simp only [Act.put, List.setIfInBounds_toArray, List.set_cons_zero, List.set_cons_succ]
    refine wpL_take (v := ?_) 10 rfl (by kernel_rfl) (fun _ _ _ h => h) (by rfl) ?_ HPd.out.1.blk ?_
    rotate_left
    focus
      intro w9 hw9
      have b1 : w9.cell? ⟨v.pb, 1, none⟩ = some (.int .i64 ((s.cnt : Int) + 1)) := hw9.cell rfl
      have b2 : w9.cell? ⟨v.pb, 2, none⟩ = some (.slice (some ⟨v.mb, 0, none⟩) v.n v.n) := hw9.cell rfl
      have b3 : w9.cell? ⟨v.pb, 3, none⟩ = some (.slice (some ⟨v.lb, 0, none⟩) v.n v.n) := hw9.cell rfl
      go_simp
      try with_reducible rfl
    try simp only [Act.put, List.setIfInBounds_toArray, List.set_cons_zero, List.set_cons_succ]
    refine wpL_take (v := ?_) 11 rfl (by kernel_rfl) (fun _ _ _ h => h) (by rfl) ?_ HPd.out.1.blk ?_
    rotate_left
    focus
      intro w9 hw9
      have b1 : w9.cell? ⟨v.pb, 1, none⟩ = some (.int .i64 ((s.cnt : Int) + 1)) := hw9.cell rfl
      have b2 : w9.cell? ⟨v.pb, 2, none⟩ = some (.slice (some ⟨v.mb, 0, none⟩) v.n v.n) := hw9.cell rfl
      have b3 : w9.cell? ⟨v.pb, 3, none⟩ = some (.slice (some ⟨v.lb, 0, none⟩) v.n v.n) := hw9.cell rfl
      go_simp
      try with_reducible rfl
    try simp only [Act.put, List.setIfInBounds_toArray, List.set_cons_zero, List.set_cons_succ]
    refine wpL_take (v := ?_) 12 rfl (by kernel_rfl) (fun _ _ _ h => h) (by rfl) ?_ HPd.out.1.blk ?_
    rotate_left
    focus
      intro w9 hw9
      have b1 : w9.cell? ⟨v.pb, 1, none⟩ = some (.int .i64 ((s.cnt : Int) + 1)) := hw9.cell rfl
      have b2 : w9.cell? ⟨v.pb, 2, none⟩ = some (.slice (some ⟨v.mb, 0, none⟩) v.n v.n) := hw9.cell rfl
      have b3 : w9.cell? ⟨v.pb, 3, none⟩ = some (.slice (some ⟨v.lb, 0, none⟩) v.n v.n) := hw9.cell rfl
      go_simp
      try with_reducible rfl
    try simp only [Act.put, List.setIfInBounds_toArray, List.set_cons_zero, List.set_cons_succ]
    refine wpL_take (v := ?_) 13 rfl (by kernel_rfl) (fun _ _ _ h => h) (by rfl) ?_ HPd.out.1.blk ?_
    rotate_left
    focus
      intro w9 hw9
      have b1 : w9.cell? ⟨v.pb, 1, none⟩ = some (.int .i64 ((s.cnt : Int) + 1)) := hw9.cell rfl
      have b2 : w9.cell? ⟨v.pb, 2, none⟩ = some (.slice (some ⟨v.mb, 0, none⟩) v.n v.n) := hw9.cell rfl
      have b3 : w9.cell? ⟨v.pb, 3, none⟩ = some (.slice (some ⟨v.lb, 0, none⟩) v.n v.n) := hw9.cell rfl
      go_simp
      try with_reducible rfl
    try simp only [Act.put, List.setIfInBounds_toArray, List.set_cons_zero, List.set_cons_succ]
    refine wpL_take (v := ?_) 14 rfl (by kernel_rfl) (fun _ _ _ h => h) (by rfl) ?_ HPd.out.1.blk ?_
    rotate_left
    focus
      intro w9 hw9
      have b1 : w9.cell? ⟨v.pb, 1, none⟩ = some (.int .i64 ((s.cnt : Int) + 1)) := hw9.cell rfl
      have b2 : w9.cell? ⟨v.pb, 2, none⟩ = some (.slice (some ⟨v.mb, 0, none⟩) v.n v.n) := hw9.cell rfl
      have b3 : w9.cell? ⟨v.pb, 3, none⟩ = some (.slice (some ⟨v.lb, 0, none⟩) v.n v.n) := hw9.cell rfl
      go_simp
      try with_reducible rfl
    try simp only [Act.put, List.setIfInBounds_toArray, List.set_cons_zero, List.set_cons_succ]
    refine wpL_take (v := ?_) 15 rfl (by kernel_rfl) (fun _ _ _ h => h) (by rfl) ?_ HPd.out.1.blk ?_
    rotate_left
    focus
      intro w9 hw9
      have b1 : w9.cell? ⟨v.pb, 1, none⟩ = some (.int .i64 ((s.cnt : Int) + 1)) := hw9.cell rfl
      have b2 : w9.cell? ⟨v.pb, 2, none⟩ = some (.slice (some ⟨v.mb, 0, none⟩) v.n v.n) := hw9.cell rfl
      have b3 : w9.cell? ⟨v.pb, 3, none⟩ = some (.slice (some ⟨v.lb, 0, none⟩) v.n v.n) := hw9.cell rfl
      go_simp
      try with_reducible rfl
    try simp only [Act.put, List.setIfInBounds_toArray, List.set_cons_zero, List.set_cons_succ]
    refine wpL_take (v := ?_) 16 rfl (by kernel_rfl) (fun _ _ _ h => h) (by rfl) ?_ HPd.out.1.blk ?_
    rotate_left
    focus
      intro w9 hw9
      have b1 : w9.cell? ⟨v.pb, 1, none⟩ = some (.int .i64 ((s.cnt : Int) + 1)) := hw9.cell rfl
      have b2 : w9.cell? ⟨v.pb, 2, none⟩ = some (.slice (some ⟨v.mb, 0, none⟩) v.n v.n) := hw9.cell rfl
      have b3 : w9.cell? ⟨v.pb, 3, none⟩ = some (.slice (some ⟨v.lb, 0, none⟩) v.n v.n) := hw9.cell rfl
      go_simp
      try with_reducible rfl
    try simp only [Act.put, List.setIfInBounds_toArray, List.set_cons_zero, List.set_cons_succ]
    refine wpL_take (v := ?_) 17 rfl (by kernel_rfl) (fun _ _ _ h => h) (by rfl) ?_ HPd.out.1.blk ?_
    rotate_left
    focus
      intro w9 hw9
      have b1 : w9.cell? ⟨v.pb, 1, none⟩ = some (.int .i64 ((s.cnt : Int) + 1)) := hw9.cell rfl
      have b2 : w9.cell? ⟨v.pb, 2, none⟩ = some (.slice (some ⟨v.mb, 0, none⟩) v.n v.n) := hw9.cell rfl
      have b3 : w9.cell? ⟨v.pb, 3, none⟩ = some (.slice (some ⟨v.lb, 0, none⟩) v.n v.n) := hw9.cell rfl
      go_simp
      try with_reducible rfl
    try simp only [Act.put, List.setIfInBounds_toArray, List.set_cons_zero, List.set_cons_succ]
    refine wpL_one 18 rfl (by kernel_rfl) (by rfl) ?_
    intro K hK
    go_simp
    refine hK.out _ _ (fun _ => HPd.out.1.blk) ?_
    clear hK K
    try simp only [Act.put, List.setIfInBounds_toArray, List.set_cons_zero, List.set_cons_succ]
    refine wpL_one 19 rfl (by kernel_rfl) (by rfl) ?_
    intro K hK
    have z0 := HPd.out.1.cellM (q := p) (by show p < s.met.length; rw [HA.out.1.lm]; exact hpn)
    have f0 := HPd.out.1.met.frozen p
    go_simp
    have HPa : Hid (PtI (wd.setCell ⟨v.mb, p, none⟩ (.int .i64 ((s.cnt : Int) + 1))) C v vO { s with cnt := s.cnt + 1, met := s.met.set p (s.cnt + 1) } ∧ Below C w (wd.setCell ⟨v.mb, p, none⟩ (.int .i64 ((s.cnt : Int) + 1)))) :=
      ⟨HPd.out.1.setM p (s.cnt + 1), HPd.out.2.trans (PtI.below (Nat.le_trans HC.out.2.1 HPd.out.2.size) (frm_set wd v.mb p _ (.inl rfl)) HPd.out.1.mC)⟩
    refine hK.out _ _ (fun _ => HPa.out.1.blk) ?_
    clear hK K
    try simp only [Act.put, List.setIfInBounds_toArray, List.set_cons_zero, List.set_cons_succ]
    clear z0 f0
    generalize wd.setCell ⟨v.mb, p, none⟩ (.int .i64 ((s.cnt : Int) + 1)) = we at *
    refine wpL_one 20 rfl (by kernel_rfl) (by rfl) ?_
    intro K hK
    go_simp
    refine hK.out _ _ (fun _ => HPa.out.1.blk) ?_
    clear hK K
    try simp only [Act.put, List.setIfInBounds_toArray, List.set_cons_zero, List.set_cons_succ]
    refine wpL_one 21 rfl (by kernel_rfl) (by rfl) ?_
    intro K hK
    have z0 := HPa.out.1.cellL (q := p) (by show p < s.low.length; rw [HA.out.1.ll]; exact hpn)
    have f0 := HPa.out.1.low.frozen p
    go_simp
    have HPb : Hid (PtI (we.setCell ⟨v.lb, p, none⟩ (.int .i64 ((s.cnt : Int) + 1))) C v vO { s with cnt := s.cnt + 1, met := s.met.set p (s.cnt + 1), low := s.low.set p (s.cnt + 1) } ∧ Below C w (we.setCell ⟨v.lb, p, none⟩ (.int .i64 ((s.cnt : Int) + 1)))) :=
      ⟨HPa.out.1.setL p (s.cnt + 1), HPa.out.2.trans (PtI.below (Nat.le_trans HC.out.2.1 HPa.out.2.size) (frm_set we v.lb p _ (.inl rfl)) HPa.out.1.lC)⟩
    refine hK.out _ _ (fun _ => HPb.out.1.blk) ?_
    clear hK K
    try simp only [Act.put, List.setIfInBounds_toArray, List.set_cons_zero, List.set_cons_succ]
    clear z0 f0
    refine wpL_done (by kernel_rfl) ?_ _
    try simp only [NoPanic]
    generalize we.setCell ⟨v.lb, p, none⟩ (.int .i64 ((s.cnt : Int) + 1)) = w3 at *
    have HP3 : Hid (PtI w3 C v vO { s with cnt := s.cnt + 1, met := s.met.set p (s.cnt + 1), low := s.low.set p (s.cnt + 1) } ∧ Below C w w3) := HPb.out
    clear HPb HPa HPd
    obtain ⟨w4, hw4⟩ : ∃ w4, w3.alloc (.cells #[.int .i64 (p : Int)] 3) = w4 := ⟨_, rfl⟩
    have HB4 : Hid (Below w3.heap.size w3 w4) := by rw [← hw4]; exact (Below.refl _ _).alloc (Nat.le_refl _) _
    have HC4 : Hid (Blk w4 w3.heap.size #[.int .i64 (p : Int)] 3) := by rw [← hw4]; exact Blk.new w3 _ _
    have HP4 : Hid (PtI w4 C v vO { s with cnt := s.cnt + 1, met := s.met.set p (s.cnt + 1), low := s.low.set p (s.cnt + 1) } ∧ Below C w w4 ∧ C ≤ w4.heap.size) := by
      have h1 : C ≤ w3.heap.size := Nat.le_trans HC.out.2.1 HP3.out.2.size
      exact ⟨HP3.out.1.on HB4.out, HP3.out.2.trans (HB4.out.mono h1), Nat.le_trans h1 HB4.out.size⟩
    have k4 : w3.cell? ⟨v.pb, 4, none⟩ = some vO := HP3.out.1.blk.cell rfl
    have hcc : ∀ j u, (encN p)[j]? = some u → w4.cell? ⟨w3.heap.size, j, none⟩ = some u := fun j u hj => by
      have h0 : j = 0 := by have h9 := (List.getElem?_eq_some_iff.1 hj).1; simp [encN] at h9; omega
      subst h0
      cases hj
      exact HC4.out.cell rfl
    have hl1 : (s.opn.length + 1) * 8 ≤ 140737488355328 := by have := HA.out.1.ol; have := HN4.out; omega
    have hl2 : s.opn.length + 1 ≤ 140737488355328 := by omega
    have k4b : w4.cell? ⟨v.pb, 4, none⟩ = some vO := HP4.out.1.blk.cell rfl
    rw [evO] at k4 k4b
    go_upto_region 3 with (first | (at_builtin; go_loud (refine wpList_appG w4 rfl (.tmp 37) (.tmp 39) 3 38 (.int .i64 0) 8 rfl Tryz.underlying38 info_int9 rfl (by decide) (fun _ => rfl) C (.slice qO lO cO) s.opn p (encN_one _) (by rfl) (by rw [← evO]; exact HP4.out.1.opn) w3.heap.size (by rfl) hcc hl1 hl2 HP4.out.2.2 ?_; intro v6 w6 h6 h7 h8; obtain ⟨q6, m6, d6, rfl⟩ := h6.slc; have y2 : w6.cell? ⟨v.pb, 4, none⟩ = some (.slice qO lO cO) := (by rw [← evO]; exact (HP4.out.1.blk.grown h7 (by rw [← evO]; exact Ne.symm HP4.out.1.opp)).cell rfl); have y3 := (HP4.out.1.blk.grown h7 (by rw [← evO]; exact Ne.symm HP4.out.1.opp)).frozen 4)))
    have HP6 : Hid (PtI (w6.setCell ⟨v.pb, 4, none⟩ (.slice q6 m6 d6)) C v (.slice q6 m6 d6) (s.meet p) ∧ Below C w (w6.setCell ⟨v.pb, 4, none⟩ (.slice q6 m6 d6))) := by
      have hfr : Frm w4 w6 (fun k => vO.ownBlock = some k) := Frm.of_grown h7 (fun g e => .inl (by rw [evO]; exact e))
      have h9 := HP4.out.1.setO h6 hfr (by rw [evO]; exact h8.elim .inl (fun e => .inr (.inl e)))
      refine ⟨h9, HP4.out.2.1.trans ((hfr.below HP4.out.2.2 (fun k hk => (HP4.out.1.opn.blk hk).1)).trans (PtI.below (Nat.le_trans HP4.out.2.2 hfr.size) (frm_set w6 v.pb 4 _ (.inl rfl)) HP4.out.1.pC))⟩
    clear y2 y3 h6 h7 h8 k4 k4b hcc hl1 hl2 HP4 HC4 HB4 HP3 hw4
    generalize w6.setCell ⟨v.pb, 4, none⟩ (.slice q6 m6 d6) = w7 at *
    obtain ⟨row, hrow⟩ : ∃ row, NN.getD p [] = row := ⟨_, rfl⟩
    have hO7 := HV.out.nx.on (show Below w0.heap.size w0 w7 by rw [HC.out.1]; exact HC.out.2.2.trans HP6.out.2)
    obtain ⟨qr, dr, evr⟩ := hO7.slr p
    rw [hrow] at evr
    obtain ⟨rl, hrl⟩ : ∃ rl, row.length = rl := ⟨_, rfl⟩
    rw [hrl] at evr
    have HRow : Hid (row.length = rl ∧ NN.getD p [] = row ∧ (∀ q ∈ row, q < v.n) ∧ ∀ w', Below C w0 w' → SlG encN 1 w'.heap.size w' (.slice qr rl dr) row) := by
      refine ⟨hrl, hrow, fun q hq => HV.out.lt p q (by rw [hrow]; exact hq), fun w' h => ?_⟩
      have h1 := (HV.out.nx.on (show Below w0.heap.size w0 w' by rw [HC.out.1]; exact h)).row p
      rw [hrow, evr] at h1
      exact h1.slN
    have hrl4 : rl ≤ 1099511627776 := by rw [← hrl, ← hrow]; exact HV.out.rl p
    have k0 : w7.cell? ⟨v.pb, 0, none⟩ = some (.slice (some ⟨nb, 0, none⟩) v.n v.n) := by rw [← HV.out.nv]; exact HP6.out.1.blk.cell rfl
    have k1 : w7.cell? ⟨nb, p, none⟩ = some (.slice qr rl dr) := by rw [← evr]; exact hO7.cell p (by rw [HV.out.nl]; exact hpn)
    clear hO7 evr hrl hrow evO
    go_wp2_with fail
    clear k0 k1
    go_loopw [51] (fun ix wr => ∃ j : Nat, ix = .int .i64 (j : Int) ∧ j ≤ rl ∧ Hid (Below C w wr ∧ ∃ vO', PtI wr C v vO' ((row.take j).foldl (Pst.step (visitM NN f) p) (s.meet p)))) (fun ix _ => rl - (intOf ix).toNat)
    case atStart => exact ⟨0, by go_num, Nat.zero_le _, HP6.out.2, _, HP6.out.1⟩
    case round =>
      obtain ⟨j, rfl, hj, HJ⟩ := hrel
      clear HP6
      have HT : Hid (PInv v.n ((row.take j).foldl (Pst.step (visitM NN f) p) (s.meet p)) ∧ PExt (s.meet p) ((row.take j).foldl (Pst.step (visitM NN f) p) (s.meet p))) := by
        have hmm := HM.out
        refine steps_inv (row.take j) (s.meet p) hmm.1 (fun q hq => HRow.out.2.2.1 q (List.mem_of_mem_take hq)) (fun q hq t' ht' he h0 => ?_)
        have h9 := visit_inv HV.out.lt f q t' ht' (HRow.out.2.2.1 q (List.mem_of_mem_take hq)) h0 (by have := he.un; have := HA.out.2.2.2; omega)
        exact ⟨h9.1, h9.2.1⟩
      by_cases hj0 : j = rl
      · subst hj0
        have HE : Hid (visitM NN (f + 1) p s = ((row.take j).foldl (Pst.step (visitM NN f) p) (s.meet p)).fin p) := by
          show _ = _
          rw [← HRow.out.1, List.take_length, ← HRow.out.2.1]
          rfl
        generalize (row.take j).foldl (Pst.step (visitM NN f) p) (s.meet p) = t at *
        obtain ⟨hbt, vT, hPt⟩ := HJ.out
        have HPt : Hid (Below C w wr ∧ PtI wr C v vT t) := ⟨hbt, hPt⟩
        have d2 : wr.cell? ⟨v.pb, 2, none⟩ = some (.slice (some ⟨v.mb, 0, none⟩) v.n v.n) := hPt.blk.cell rfl
        have d3 : wr.cell? ⟨v.pb, 3, none⟩ = some (.slice (some ⟨v.lb, 0, none⟩) v.n v.n) := hPt.blk.cell rfl
        have e2 := hPt.cellM (q := p) (by rw [HT.out.1.lm]; exact hpn)
        have e3 := hPt.cellL (q := p) (by rw [HT.out.1.ll]; exact hpn)
        have HF : Hid (p ∈ t.opn) := by
          have h1 := HT.out.2.op
          rw [HM.out.2.2.2] at h1
          exact h1.subset (by simp)
        clear hbt hPt HJ
        obtain ⟨a, ha⟩ : ∃ a, t.met.getD p 0 = a := ⟨_, rfl⟩
        obtain ⟨b, hb⟩ : ∃ b, t.low.getD p 0 = b := ⟨_, rfl⟩
        rw [ha] at e2
        rw [hb] at e3
        have HAB : Hid (t.met.getD p 0 = a ∧ t.low.getD p 0 = b) := ⟨ha, hb⟩
        clear ha hb
        go_upto_region 12 with fail
        by_cases hab : b = a
        · have hq : ((b : Int) == (a : Int)) = true := by rw [beq_iff_eq]; omega
          have HFin : Hid (t.fin p = t.shut p) := by show _ = _; unfold Pst.fin; rw [if_pos (by rw [HAB.out.1, HAB.out.2]; exact hab)]
          go_quiet (fail)
          have HPq : Hid (Below C w (wr.drewN nq) ∧ PtI (wr.drewN nq) C v vT t) := ⟨HPt.out.1.trans ⟨rfl, rfl, rfl, Nat.le_refl _, fun _ _ => rfl⟩, HPt.out.2.on ⟨rfl, rfl, rfl, Nat.le_refl _, fun _ _ => rfl⟩⟩
          have CSh : Hid (Calls Tryz.prog 114 #[.pointer (some ⟨v.pb, 0, none⟩), .int .i64 (p : Int)] (wr.drewN nq) fun e w' => e = .returned (.tuple #[]) ∧ Below C (wr.drewN nq) w' ∧ ∃ vO', PtI w' C v vO' (t.shut p)) := shut_any C v vT t p _ HPq.out.2 (Nat.le_trans HC.out.2.1 HPq.out.1.size) HT.out.1 HV.out.n4 HF.out
          clear d2 d3 e2 e3
          generalize wr.drewN nq = wq at *
          go_wp2_with (first | (go_at_call 114; refine CSh.out.mono ?_; rintro e w9 ⟨rfl, hw9⟩; have HW9 : Hid (Below C wq w9 ∧ ∃ vO', PtI w9 C v vO' (t.shut p)) := hw9; clear hw9))
          go_end0
          rw [HE.out, HFin.out]
          exact ⟨rfl, HPq.out.1.trans HW9.out.1, HW9.out.2⟩
        · have hq : ((b : Int) == (a : Int)) = false := by rw [beq_eq_false_iff_ne]; omega
          have HFin : Hid (t.fin p = t) := by show _ = _; unfold Pst.fin; rw [if_neg (by rw [HAB.out.1, HAB.out.2]; exact hab)]
          go_quiet (fail)
          have HPq : Hid (Below C w (wr.drewN nq) ∧ PtI (wr.drewN nq) C v vT t) := ⟨HPt.out.1.trans ⟨rfl, rfl, rfl, Nat.le_refl _, fun _ _ => rfl⟩, HPt.out.2.on ⟨rfl, rfl, rfl, Nat.le_refl _, fun _ _ => rfl⟩⟩
          clear d2 d3 e2 e3
          generalize wr.drewN nq = wq at *
          go_wp2_with fail
          go_end0
          rw [HE.out, HFin.out]
          exact ⟨rfl, HPq.out.1, _, HPq.out.2⟩
      · have hj1 : j < rl := by omega
        clear hj0
        have HJ1 : Hid (j < rl) := hj1
        have hji : j < row.length := by rw [HRow.out.1]; exact hj1
        obtain ⟨b, o, rfl, hb, x0⟩ := (HRow.out.2.2.2 wr (HC.out.2.2.trans HJ.out.1)).cellN j hji
        have hqn := HRow.out.2.2.1 _ (List.getElem_mem hji)
        have HTK : Hid ((row.take (j + 1)).foldl (Pst.step (visitM NN f) p) (s.meet p) = Pst.step (visitM NN f) p ((row.take j).foldl (Pst.step (visitM NN f) p) (s.meet p)) row[j]) := foldl_take _ _ _ j hji
        generalize row[j] = q at *
        generalize (row.take j).foldl (Pst.step (visitM NN f) p) (s.meet p) = t at *
        obtain ⟨hbt, vT, hPt⟩ := HJ.out
        have HPt : Hid (Below C w wr ∧ PtI wr C v vT t) := ⟨hbt, hPt⟩
        have d2 : wr.cell? ⟨v.pb, 2, none⟩ = some (.slice (some ⟨v.mb, 0, none⟩) v.n v.n) := hPt.blk.cell rfl
        have d5 : wr.cell? ⟨v.pb, 5, none⟩ = some (.slice (some ⟨v.qb, 0, none⟩) v.n v.n) := hPt.blk.cell rfl
        have e2 := hPt.cellM (q := q) (by rw [HT.out.1.lm]; exact hqn)
        have e5 := hPt.cellP (q := q) (by rw [HT.out.1.lp]; exact hqn)
        clear hbt hPt HJ hb hji
        rename World => wo
        by_cases h0 : t.met.getD q 0 = 0
        · rw [h0] at e2
          have HS : Hid (Pst.step (visitM NN f) p t q = { visitM NN f q t with low := (visitM NN f q t).low.set p (min ((visitM NN f q t).low.getD p 0) ((visitM NN f q t).low.getD q 0)) }) := by show _ = _; unfold Pst.step; rw [if_pos h0]
          have hun : t.un ≤ f := by have h1 := HT.out.2.un; have h2 := HM.out.2.1; have h3 := HA.out.2.2.2; omega
          have CV : Hid (Calls Tryz.prog 83 #[.pointer (some ⟨v.pb, 0, none⟩), .int .i64 (q : Int)] wo fun e w' => e = .returned (.tuple #[]) ∧ Below C wo w' ∧ ∃ vO', PtI w' C v vO' (visitM NN f q t)) := by
            have h9 := IH.out q t vT wo (by rw [HC.out.1]; exact HC.out.2.2.trans HPt.out.1) (by rw [HC.out.1]; exact HPt.out.2) HT.out.1 hqn h0 hun
            rw [HC.out.1] at h9
            exact h9
          have HTi : Hid (PInv v.n (visitM NN f q t)) := (visit_inv HV.out.lt f q t HT.out.1 hqn h0 hun).1
          generalize visitM NN f q t = t2 at *
          clear hun h0 e5 d5
          go_upto_region 8 with (first | (go_at_call 83; refine CV.out.mono ?_; rintro e w5 ⟨rfl, hw5⟩; have HW5 : Hid (Below C wo w5 ∧ ∃ vO', PtI w5 C v vO' t2) := hw5; clear hw5))
          clear d2 e2 x0
          obtain ⟨hb5, v5, hP5⟩ := HW5.out
          have HPd : Hid (Below C w w5.drew ∧ PtI w5.drew C v v5 t2) := ⟨HPt.out.1.trans hb5.drew, hP5.on (Below.refl _ _).drew⟩
          have hqn2 : q < v.n := hqn
          clear hb5 hP5 HW5 CV
          obtain ⟨a, ha⟩ : ∃ a, t2.low.getD p 0 = a := ⟨_, rfl⟩
          obtain ⟨b', hb'⟩ : ∃ b, t2.low.getD q 0 = b := ⟨_, rfl⟩
          have HAB : Hid (t2.low.getD p 0 = a ∧ t2.low.getD q 0 = b') := ⟨ha, hb'⟩
          clear ha hb'
          refine wp_region_L (fun w' => PtI w' C v v5 t2) 21 (by kernel_rfl) ?_
          generalize w5.drew = wd at *
          refine wpL_take (v := ?_) 0 rfl (by kernel_rfl) (fun _ _ _ h => h) (by rfl) ?_ HPd.out.2 ?_
          rotate_left
          focus
            intro w9 hw9
            have b2 : w9.cell? ⟨v.pb, 2, none⟩ = some (.slice (some ⟨v.mb, 0, none⟩) v.n v.n) := hw9.blk.cell rfl
            have b3 : w9.cell? ⟨v.pb, 3, none⟩ = some (.slice (some ⟨v.lb, 0, none⟩) v.n v.n) := hw9.blk.cell rfl
            have g1 : w9.cell? ⟨v.lb, p, none⟩ = some (.int .i64 (a : Nat)) := by rw [← HAB.out.1]; exact hw9.cellL (by rw [HTi.out.ll]; exact hpn)
            have g2 : w9.cell? ⟨v.lb, q, none⟩ = some (.int .i64 (b' : Nat)) := by rw [← HAB.out.2]; exact hw9.cellL (by rw [HTi.out.ll]; exact hqn2)
            go_simp
            try with_reducible rfl
          try simp only [Act.put, List.setIfInBounds_toArray, List.set_cons_zero, List.set_cons_succ]
          refine wpL_take (v := ?_) 1 rfl (by kernel_rfl) (fun _ _ _ h => h) (by rfl) ?_ HPd.out.2 ?_
          rotate_left
          focus
            intro w9 hw9
            have b2 : w9.cell? ⟨v.pb, 2, none⟩ = some (.slice (some ⟨v.mb, 0, none⟩) v.n v.n) := hw9.blk.cell rfl
            have b3 : w9.cell? ⟨v.pb, 3, none⟩ = some (.slice (some ⟨v.lb, 0, none⟩) v.n v.n) := hw9.blk.cell rfl
            have g1 : w9.cell? ⟨v.lb, p, none⟩ = some (.int .i64 (a : Nat)) := by rw [← HAB.out.1]; exact hw9.cellL (by rw [HTi.out.ll]; exact hpn)
            have g2 : w9.cell? ⟨v.lb, q, none⟩ = some (.int .i64 (b' : Nat)) := by rw [← HAB.out.2]; exact hw9.cellL (by rw [HTi.out.ll]; exact hqn2)
            go_simp
            try with_reducible rfl
          try simp only [Act.put, List.setIfInBounds_toArray, List.set_cons_zero, List.set_cons_succ]
          refine wpL_take (v := ?_) 2 rfl (by kernel_rfl) (fun _ _ _ h => h) (by rfl) ?_ HPd.out.2 ?_
          rotate_left
          focus
            intro w9 hw9
            have b2 : w9.cell? ⟨v.pb, 2, none⟩ = some (.slice (some ⟨v.mb, 0, none⟩) v.n v.n) := hw9.blk.cell rfl
            have b3 : w9.cell? ⟨v.pb, 3, none⟩ = some (.slice (some ⟨v.lb, 0, none⟩) v.n v.n) := hw9.blk.cell rfl
            have g1 : w9.cell? ⟨v.lb, p, none⟩ = some (.int .i64 (a : Nat)) := by rw [← HAB.out.1]; exact hw9.cellL (by rw [HTi.out.ll]; exact hpn)
            have g2 : w9.cell? ⟨v.lb, q, none⟩ = some (.int .i64 (b' : Nat)) := by rw [← HAB.out.2]; exact hw9.cellL (by rw [HTi.out.ll]; exact hqn2)
            go_simp
            try with_reducible rfl
          try simp only [Act.put, List.setIfInBounds_toArray, List.set_cons_zero, List.set_cons_succ]
          refine wpL_take (v := ?_) 3 rfl (by kernel_rfl) (fun _ _ _ h => h) (by rfl) ?_ HPd.out.2 ?_
          rotate_left
          focus
            intro w9 hw9
            have b2 : w9.cell? ⟨v.pb, 2, none⟩ = some (.slice (some ⟨v.mb, 0, none⟩) v.n v.n) := hw9.blk.cell rfl
            have b3 : w9.cell? ⟨v.pb, 3, none⟩ = some (.slice (some ⟨v.lb, 0, none⟩) v.n v.n) := hw9.blk.cell rfl
            have g1 : w9.cell? ⟨v.lb, p, none⟩ = some (.int .i64 (a : Nat)) := by rw [← HAB.out.1]; exact hw9.cellL (by rw [HTi.out.ll]; exact hpn)
            have g2 : w9.cell? ⟨v.lb, q, none⟩ = some (.int .i64 (b' : Nat)) := by rw [← HAB.out.2]; exact hw9.cellL (by rw [HTi.out.ll]; exact hqn2)
            go_simp
            try with_reducible rfl
          try simp only [Act.put, List.setIfInBounds_toArray, List.set_cons_zero, List.set_cons_succ]
          refine wpL_take (v := ?_) 4 rfl (by kernel_rfl) (fun _ _ _ h => h) (by rfl) ?_ HPd.out.2 ?_
          rotate_left
          focus
            intro w9 hw9
            have b2 : w9.cell? ⟨v.pb, 2, none⟩ = some (.slice (some ⟨v.mb, 0, none⟩) v.n v.n) := hw9.blk.cell rfl
            have b3 : w9.cell? ⟨v.pb, 3, none⟩ = some (.slice (some ⟨v.lb, 0, none⟩) v.n v.n) := hw9.blk.cell rfl
            have g1 : w9.cell? ⟨v.lb, p, none⟩ = some (.int .i64 (a : Nat)) := by rw [← HAB.out.1]; exact hw9.cellL (by rw [HTi.out.ll]; exact hpn)
            have g2 : w9.cell? ⟨v.lb, q, none⟩ = some (.int .i64 (b' : Nat)) := by rw [← HAB.out.2]; exact hw9.cellL (by rw [HTi.out.ll]; exact hqn2)
            go_simp
            try with_reducible rfl
          try simp only [Act.put, List.setIfInBounds_toArray, List.set_cons_zero, List.set_cons_succ]
          refine wpL_take (v := ?_) 5 rfl (by kernel_rfl) (fun _ _ _ h => h) (by rfl) ?_ HPd.out.2 ?_
          rotate_left
          focus
            intro w9 hw9
            have b2 : w9.cell? ⟨v.pb, 2, none⟩ = some (.slice (some ⟨v.mb, 0, none⟩) v.n v.n) := hw9.blk.cell rfl
            have b3 : w9.cell? ⟨v.pb, 3, none⟩ = some (.slice (some ⟨v.lb, 0, none⟩) v.n v.n) := hw9.blk.cell rfl
            have g1 : w9.cell? ⟨v.lb, p, none⟩ = some (.int .i64 (a : Nat)) := by rw [← HAB.out.1]; exact hw9.cellL (by rw [HTi.out.ll]; exact hpn)
            have g2 : w9.cell? ⟨v.lb, q, none⟩ = some (.int .i64 (b' : Nat)) := by rw [← HAB.out.2]; exact hw9.cellL (by rw [HTi.out.ll]; exact hqn2)
            go_simp
            try with_reducible rfl
          try simp only [Act.put, List.setIfInBounds_toArray, List.set_cons_zero, List.set_cons_succ]
          refine wpL_take (v := ?_) 6 rfl (by kernel_rfl) (fun _ _ _ h => h) (by rfl) ?_ HPd.out.2 ?_
          rotate_left
          focus
            intro w9 hw9
            have b2 : w9.cell? ⟨v.pb, 2, none⟩ = some (.slice (some ⟨v.mb, 0, none⟩) v.n v.n) := hw9.blk.cell rfl
            have b3 : w9.cell? ⟨v.pb, 3, none⟩ = some (.slice (some ⟨v.lb, 0, none⟩) v.n v.n) := hw9.blk.cell rfl
            have g1 : w9.cell? ⟨v.lb, p, none⟩ = some (.int .i64 (a : Nat)) := by rw [← HAB.out.1]; exact hw9.cellL (by rw [HTi.out.ll]; exact hpn)
            have g2 : w9.cell? ⟨v.lb, q, none⟩ = some (.int .i64 (b' : Nat)) := by rw [← HAB.out.2]; exact hw9.cellL (by rw [HTi.out.ll]; exact hqn2)
            go_simp
            try with_reducible rfl
          try simp only [Act.put, List.setIfInBounds_toArray, List.set_cons_zero, List.set_cons_succ]
          refine wpL_take (v := ?_) 7 rfl (by kernel_rfl) (fun _ _ _ h => h) (by rfl) ?_ HPd.out.2 ?_
          rotate_left
          focus
            intro w9 hw9
            have b2 : w9.cell? ⟨v.pb, 2, none⟩ = some (.slice (some ⟨v.mb, 0, none⟩) v.n v.n) := hw9.blk.cell rfl
            have b3 : w9.cell? ⟨v.pb, 3, none⟩ = some (.slice (some ⟨v.lb, 0, none⟩) v.n v.n) := hw9.blk.cell rfl
            have g1 : w9.cell? ⟨v.lb, p, none⟩ = some (.int .i64 (a : Nat)) := by rw [← HAB.out.1]; exact hw9.cellL (by rw [HTi.out.ll]; exact hpn)
            have g2 : w9.cell? ⟨v.lb, q, none⟩ = some (.int .i64 (b' : Nat)) := by rw [← HAB.out.2]; exact hw9.cellL (by rw [HTi.out.ll]; exact hqn2)
            go_simp
            try with_reducible rfl
          try simp only [Act.put, List.setIfInBounds_toArray, List.set_cons_zero, List.set_cons_succ]
          refine wpL_take (v := ?_) 8 rfl (by kernel_rfl) (fun _ _ _ h => h) (by rfl) ?_ HPd.out.2 ?_
          rotate_left
          focus
            intro w9 hw9
            have b2 : w9.cell? ⟨v.pb, 2, none⟩ = some (.slice (some ⟨v.mb, 0, none⟩) v.n v.n) := hw9.blk.cell rfl
            have b3 : w9.cell? ⟨v.pb, 3, none⟩ = some (.slice (some ⟨v.lb, 0, none⟩) v.n v.n) := hw9.blk.cell rfl
            have g1 : w9.cell? ⟨v.lb, p, none⟩ = some (.int .i64 (a : Nat)) := by rw [← HAB.out.1]; exact hw9.cellL (by rw [HTi.out.ll]; exact hpn)
            have g2 : w9.cell? ⟨v.lb, q, none⟩ = some (.int .i64 (b' : Nat)) := by rw [← HAB.out.2]; exact hw9.cellL (by rw [HTi.out.ll]; exact hqn2)
            go_simp
            try with_reducible rfl
          try simp only [Act.put, List.setIfInBounds_toArray, List.set_cons_zero, List.set_cons_succ]
          refine wpL_take (v := ?_) 9 rfl (by kernel_rfl) (fun _ _ _ h => h) (by rfl) ?_ HPd.out.2 ?_
          rotate_left
          focus
            intro w9 hw9
            have b2 : w9.cell? ⟨v.pb, 2, none⟩ = some (.slice (some ⟨v.mb, 0, none⟩) v.n v.n) := hw9.blk.cell rfl
            have b3 : w9.cell? ⟨v.pb, 3, none⟩ = some (.slice (some ⟨v.lb, 0, none⟩) v.n v.n) := hw9.blk.cell rfl
            have g1 : w9.cell? ⟨v.lb, p, none⟩ = some (.int .i64 (a : Nat)) := by rw [← HAB.out.1]; exact hw9.cellL (by rw [HTi.out.ll]; exact hpn)
            have g2 : w9.cell? ⟨v.lb, q, none⟩ = some (.int .i64 (b' : Nat)) := by rw [← HAB.out.2]; exact hw9.cellL (by rw [HTi.out.ll]; exact hqn2)
            go_simp
            try with_reducible rfl
          try simp only [Act.put, List.setIfInBounds_toArray, List.set_cons_zero, List.set_cons_succ]
          refine wpL_take (v := ?_) 10 rfl (by kernel_rfl) (fun _ _ _ h => h) (by rfl) ?_ HPd.out.2 ?_
          rotate_left
          focus
            intro w9 hw9
            have b2 : w9.cell? ⟨v.pb, 2, none⟩ = some (.slice (some ⟨v.mb, 0, none⟩) v.n v.n) := hw9.blk.cell rfl
            have b3 : w9.cell? ⟨v.pb, 3, none⟩ = some (.slice (some ⟨v.lb, 0, none⟩) v.n v.n) := hw9.blk.cell rfl
            have g1 : w9.cell? ⟨v.lb, p, none⟩ = some (.int .i64 (a : Nat)) := by rw [← HAB.out.1]; exact hw9.cellL (by rw [HTi.out.ll]; exact hpn)
            have g2 : w9.cell? ⟨v.lb, q, none⟩ = some (.int .i64 (b' : Nat)) := by rw [← HAB.out.2]; exact hw9.cellL (by rw [HTi.out.ll]; exact hqn2)
            go_simp
            try with_reducible rfl
          try simp only [Act.put, List.setIfInBounds_toArray, List.set_cons_zero, List.set_cons_succ]
          refine wpL_take (v := ?_) 11 rfl (by kernel_rfl) (fun _ _ _ h => h) (by rfl) ?_ HPd.out.2 ?_
          rotate_left
          focus
            intro w9 hw9
            have b2 : w9.cell? ⟨v.pb, 2, none⟩ = some (.slice (some ⟨v.mb, 0, none⟩) v.n v.n) := hw9.blk.cell rfl
            have b3 : w9.cell? ⟨v.pb, 3, none⟩ = some (.slice (some ⟨v.lb, 0, none⟩) v.n v.n) := hw9.blk.cell rfl
            have g1 : w9.cell? ⟨v.lb, p, none⟩ = some (.int .i64 (a : Nat)) := by rw [← HAB.out.1]; exact hw9.cellL (by rw [HTi.out.ll]; exact hpn)
            have g2 : w9.cell? ⟨v.lb, q, none⟩ = some (.int .i64 (b' : Nat)) := by rw [← HAB.out.2]; exact hw9.cellL (by rw [HTi.out.ll]; exact hqn2)
            go_simp
            try with_reducible rfl
          try simp only [Act.put, List.setIfInBounds_toArray, List.set_cons_zero, List.set_cons_succ]
          refine wpL_take (v := ?_) 12 rfl (by kernel_rfl) (fun _ _ _ h => h) (by rfl) ?_ HPd.out.2 ?_
          rotate_left
          focus
            intro w9 hw9
            have b2 : w9.cell? ⟨v.pb, 2, none⟩ = some (.slice (some ⟨v.mb, 0, none⟩) v.n v.n) := hw9.blk.cell rfl
            have b3 : w9.cell? ⟨v.pb, 3, none⟩ = some (.slice (some ⟨v.lb, 0, none⟩) v.n v.n) := hw9.blk.cell rfl
            have g1 : w9.cell? ⟨v.lb, p, none⟩ = some (.int .i64 (a : Nat)) := by rw [← HAB.out.1]; exact hw9.cellL (by rw [HTi.out.ll]; exact hpn)
            have g2 : w9.cell? ⟨v.lb, q, none⟩ = some (.int .i64 (b' : Nat)) := by rw [← HAB.out.2]; exact hw9.cellL (by rw [HTi.out.ll]; exact hqn2)
            go_simp
            try with_reducible rfl
          try simp only [Act.put, List.setIfInBounds_toArray, List.set_cons_zero, List.set_cons_succ]
          refine wpL_take (v := ?_) 13 rfl (by kernel_rfl) (fun _ _ _ h => h) (by rfl) ?_ HPd.out.2 ?_
          rotate_left
          focus
            intro w9 hw9
            have b2 : w9.cell? ⟨v.pb, 2, none⟩ = some (.slice (some ⟨v.mb, 0, none⟩) v.n v.n) := hw9.blk.cell rfl
            have b3 : w9.cell? ⟨v.pb, 3, none⟩ = some (.slice (some ⟨v.lb, 0, none⟩) v.n v.n) := hw9.blk.cell rfl
            have g1 : w9.cell? ⟨v.lb, p, none⟩ = some (.int .i64 (a : Nat)) := by rw [← HAB.out.1]; exact hw9.cellL (by rw [HTi.out.ll]; exact hpn)
            have g2 : w9.cell? ⟨v.lb, q, none⟩ = some (.int .i64 (b' : Nat)) := by rw [← HAB.out.2]; exact hw9.cellL (by rw [HTi.out.ll]; exact hqn2)
            go_simp
            try with_reducible rfl
          try simp only [Act.put, List.setIfInBounds_toArray, List.set_cons_zero, List.set_cons_succ]
          refine wpL_take (v := ?_) 14 rfl (by kernel_rfl) (fun _ _ _ h => h) (by rfl) ?_ HPd.out.2 ?_
          rotate_left
          focus
            intro w9 hw9
            have b2 : w9.cell? ⟨v.pb, 2, none⟩ = some (.slice (some ⟨v.mb, 0, none⟩) v.n v.n) := hw9.blk.cell rfl
            have b3 : w9.cell? ⟨v.pb, 3, none⟩ = some (.slice (some ⟨v.lb, 0, none⟩) v.n v.n) := hw9.blk.cell rfl
            have g1 : w9.cell? ⟨v.lb, p, none⟩ = some (.int .i64 (a : Nat)) := by rw [← HAB.out.1]; exact hw9.cellL (by rw [HTi.out.ll]; exact hpn)
            have g2 : w9.cell? ⟨v.lb, q, none⟩ = some (.int .i64 (b' : Nat)) := by rw [← HAB.out.2]; exact hw9.cellL (by rw [HTi.out.ll]; exact hqn2)
            go_simp
            try with_reducible rfl
          try simp only [Act.put, List.setIfInBounds_toArray, List.set_cons_zero, List.set_cons_succ]
          refine wpL_take (v := ?_) 15 rfl (by kernel_rfl) (fun _ _ _ h => h) (by rfl) ?_ HPd.out.2 ?_
          rotate_left
          focus
            intro w9 hw9
            have b2 : w9.cell? ⟨v.pb, 2, none⟩ = some (.slice (some ⟨v.mb, 0, none⟩) v.n v.n) := hw9.blk.cell rfl
            have b3 : w9.cell? ⟨v.pb, 3, none⟩ = some (.slice (some ⟨v.lb, 0, none⟩) v.n v.n) := hw9.blk.cell rfl
            have g1 : w9.cell? ⟨v.lb, p, none⟩ = some (.int .i64 (a : Nat)) := by rw [← HAB.out.1]; exact hw9.cellL (by rw [HTi.out.ll]; exact hpn)
            have g2 : w9.cell? ⟨v.lb, q, none⟩ = some (.int .i64 (b' : Nat)) := by rw [← HAB.out.2]; exact hw9.cellL (by rw [HTi.out.ll]; exact hqn2)
            go_simp
            try with_reducible rfl
          try simp only [Act.put, List.setIfInBounds_toArray, List.set_cons_zero, List.set_cons_succ]
          refine wpL_take (v := ?_) 16 rfl (by kernel_rfl) (fun _ _ _ h => h) (by rfl) ?_ HPd.out.2 ?_
          rotate_left
          focus
            intro w9 hw9
            have b2 : w9.cell? ⟨v.pb, 2, none⟩ = some (.slice (some ⟨v.mb, 0, none⟩) v.n v.n) := hw9.blk.cell rfl
            have b3 : w9.cell? ⟨v.pb, 3, none⟩ = some (.slice (some ⟨v.lb, 0, none⟩) v.n v.n) := hw9.blk.cell rfl
            have g1 : w9.cell? ⟨v.lb, p, none⟩ = some (.int .i64 (a : Nat)) := by rw [← HAB.out.1]; exact hw9.cellL (by rw [HTi.out.ll]; exact hpn)
            have g2 : w9.cell? ⟨v.lb, q, none⟩ = some (.int .i64 (b' : Nat)) := by rw [← HAB.out.2]; exact hw9.cellL (by rw [HTi.out.ll]; exact hqn2)
            go_simp
            try with_reducible rfl
          try simp only [Act.put, List.setIfInBounds_toArray, List.set_cons_zero, List.set_cons_succ]
          refine wpL_take (v := ?_) 17 rfl (by kernel_rfl) (fun _ _ _ h => h) (by rfl) ?_ HPd.out.2 ?_
          rotate_left
          focus
            intro w9 hw9
            have b2 : w9.cell? ⟨v.pb, 2, none⟩ = some (.slice (some ⟨v.mb, 0, none⟩) v.n v.n) := hw9.blk.cell rfl
            have b3 : w9.cell? ⟨v.pb, 3, none⟩ = some (.slice (some ⟨v.lb, 0, none⟩) v.n v.n) := hw9.blk.cell rfl
            have g1 : w9.cell? ⟨v.lb, p, none⟩ = some (.int .i64 (a : Nat)) := by rw [← HAB.out.1]; exact hw9.cellL (by rw [HTi.out.ll]; exact hpn)
            have g2 : w9.cell? ⟨v.lb, q, none⟩ = some (.int .i64 (b' : Nat)) := by rw [← HAB.out.2]; exact hw9.cellL (by rw [HTi.out.ll]; exact hqn2)
            go_simp
            try with_reducible rfl
          try simp only [Act.put, List.setIfInBounds_toArray, List.set_cons_zero, List.set_cons_succ]
          refine wpL_take (v := ?_) 18 rfl (by kernel_rfl) (fun _ _ _ h => h) (by rfl) ?_ HPd.out.2 ?_
          rotate_left
          focus
            intro w9 hw9
            have b2 : w9.cell? ⟨v.pb, 2, none⟩ = some (.slice (some ⟨v.mb, 0, none⟩) v.n v.n) := hw9.blk.cell rfl
            have b3 : w9.cell? ⟨v.pb, 3, none⟩ = some (.slice (some ⟨v.lb, 0, none⟩) v.n v.n) := hw9.blk.cell rfl
            have g1 : w9.cell? ⟨v.lb, p, none⟩ = some (.int .i64 (a : Nat)) := by rw [← HAB.out.1]; exact hw9.cellL (by rw [HTi.out.ll]; exact hpn)
            have g2 : w9.cell? ⟨v.lb, q, none⟩ = some (.int .i64 (b' : Nat)) := by rw [← HAB.out.2]; exact hw9.cellL (by rw [HTi.out.ll]; exact hqn2)
            go_simp
            try with_reducible rfl
          try simp only [Act.put, List.setIfInBounds_toArray, List.set_cons_zero, List.set_cons_succ]
          refine wpL_take (v := ?_) 19 rfl (by kernel_rfl) (fun _ _ _ h => h) (by rfl) ?_ HPd.out.2 ?_
          rotate_left
          focus
            intro w9 hw9
            have b2 : w9.cell? ⟨v.pb, 2, none⟩ = some (.slice (some ⟨v.mb, 0, none⟩) v.n v.n) := hw9.blk.cell rfl
            have b3 : w9.cell? ⟨v.pb, 3, none⟩ = some (.slice (some ⟨v.lb, 0, none⟩) v.n v.n) := hw9.blk.cell rfl
            have g1 : w9.cell? ⟨v.lb, p, none⟩ = some (.int .i64 (a : Nat)) := by rw [← HAB.out.1]; exact hw9.cellL (by rw [HTi.out.ll]; exact hpn)
            have g2 : w9.cell? ⟨v.lb, q, none⟩ = some (.int .i64 (b' : Nat)) := by rw [← HAB.out.2]; exact hw9.cellL (by rw [HTi.out.ll]; exact hqn2)
            go_simp
            try with_reducible rfl
          try simp only [Act.put, List.setIfInBounds_toArray, List.set_cons_zero, List.set_cons_succ]
          refine wpL_take (v := ?_) 20 rfl (by kernel_rfl) (fun _ _ _ h => h) (by rfl) ?_ HPd.out.2 ?_
          rotate_left
          focus
            intro w9 hw9
            have b2 : w9.cell? ⟨v.pb, 2, none⟩ = some (.slice (some ⟨v.mb, 0, none⟩) v.n v.n) := hw9.blk.cell rfl
            have b3 : w9.cell? ⟨v.pb, 3, none⟩ = some (.slice (some ⟨v.lb, 0, none⟩) v.n v.n) := hw9.blk.cell rfl
            have g1 : w9.cell? ⟨v.lb, p, none⟩ = some (.int .i64 (a : Nat)) := by rw [← HAB.out.1]; exact hw9.cellL (by rw [HTi.out.ll]; exact hpn)
            have g2 : w9.cell? ⟨v.lb, q, none⟩ = some (.int .i64 (b' : Nat)) := by rw [← HAB.out.2]; exact hw9.cellL (by rw [HTi.out.ll]; exact hqn2)
            go_simp
            try with_reducible rfl
          try simp only [Act.put, List.setIfInBounds_toArray, List.set_cons_zero, List.set_cons_succ]
          refine wpL_one 21 rfl (by kernel_rfl) (by rfl) ?_
          intro K hK
          have z0 := HPd.out.2.cellL (q := p) (by rw [HTi.out.ll]; exact hpn)
          have f0 := HPd.out.2.low.frozen p
          go_simp
          have HPz : Hid (Below C w (wd.setCell ⟨v.lb, p, none⟩ (.int .i64 (min (a : Int) (b' : Int)))) ∧ PtI (wd.setCell ⟨v.lb, p, none⟩ (.int .i64 (min (a : Int) (b' : Int)))) C v v5 { t2 with low := t2.low.set p (min a b') }) := by
            rw [show min (a : Int) (b' : Int) = ((min a b' : Nat) : Int) by omega]
            exact ⟨HPd.out.1.trans (PtI.below (Nat.le_trans HC.out.2.1 HPd.out.1.size) (frm_set wd v.lb p _ (.inl rfl)) HPd.out.2.lC), HPd.out.2.setL p (min a b')⟩
          refine hK.out _ _ (fun h => absurd rfl h) ?_
          clear hK K
          try simp only [Act.put, List.setIfInBounds_toArray, List.set_cons_zero, List.set_cons_succ]
          clear z0 f0
          refine wpL_done (by kernel_rfl) ?_ _
          try simp only [NoPanic]
          generalize wd.setCell ⟨v.lb, p, none⟩ (.int .i64 (min (a : Int) (b' : Int))) = wz at *
          go_wp2_with fail
          go_roundw
          case rel => exact ⟨j + 1, by go_num, HJ1.out, HPz.out.1, v5, by rw [HTK.out, HS.out, HAB.out.1, HAB.out.2]; exact HPz.out.2⟩
          case measure => have h9 := HJ1.out; simp [intOf]; omega
        · obtain ⟨me, hme⟩ : ∃ me, t.met.getD q 0 = me := ⟨_, rfl⟩
          rw [hme] at e2
          have hm0 : ((me : Int) == 0) = false := by rw [beq_eq_false_iff_ne]; omega
          by_cases h5 : t.prt.getD q 0 < 0
          · have HS : Hid (Pst.step (visitM NN f) p t q = { t with low := t.low.set p (min (t.low.getD p 0) (t.met.getD q 0)) }) := by show _ = _; unfold Pst.step; rw [if_neg h0, if_pos h5]
            have d3 : wo.cell? ⟨v.pb, 3, none⟩ = some (.slice (some ⟨v.lb, 0, none⟩) v.n v.n) := HPt.out.2.blk.cell rfl
            generalize t.prt.getD q 0 = pq at *
            clear h0
            have HME : Hid (t.met.getD q 0 = me) := hme
            clear hme
            go_upto_region 10 with fail
            clear d2 d3 d5 e2 e5 x0 hm0 h5
            have HPd : Hid (Below C w wo.drew ∧ PtI wo.drew C v vT t) := ⟨HPt.out.1.drew, HPt.out.2.on (Below.refl _ _).drew⟩
            have hqn2 : q < v.n := hqn
            obtain ⟨a, ha⟩ : ∃ a, t.low.getD p 0 = a := ⟨_, rfl⟩
            have HAB : Hid (t.low.getD p 0 = a ∧ t.met.getD q 0 = me) := ⟨ha, HME.out⟩
            have HTi : Hid (PInv v.n t) := HT.out.1
            clear ha
            refine wp_region_L (fun w' => PtI w' C v vT t) 21 (by kernel_rfl) ?_
            generalize wo.drew = wd at *
            refine wpL_take (v := ?_) 0 rfl (by kernel_rfl) (fun _ _ _ h => h) (by rfl) ?_ HPd.out.2 ?_
            rotate_left
            focus
              intro w9 hw9
              have b2 : w9.cell? ⟨v.pb, 2, none⟩ = some (.slice (some ⟨v.mb, 0, none⟩) v.n v.n) := hw9.blk.cell rfl
              have b3 : w9.cell? ⟨v.pb, 3, none⟩ = some (.slice (some ⟨v.lb, 0, none⟩) v.n v.n) := hw9.blk.cell rfl
              have g1 : w9.cell? ⟨v.lb, p, none⟩ = some (.int .i64 (a : Nat)) := by rw [← HAB.out.1]; exact hw9.cellL (by rw [HTi.out.ll]; exact hpn)
              have g2 : w9.cell? ⟨v.mb, q, none⟩ = some (.int .i64 (me : Nat)) := by rw [← HAB.out.2]; exact hw9.cellM (by rw [HTi.out.lm]; exact hqn2)
              go_simp
              try with_reducible rfl
            try simp only [Act.put, List.setIfInBounds_toArray, List.set_cons_zero, List.set_cons_succ]
            refine wpL_take (v := ?_) 1 rfl (by kernel_rfl) (fun _ _ _ h => h) (by rfl) ?_ HPd.out.2 ?_
            rotate_left
            focus
              intro w9 hw9
              have b2 : w9.cell? ⟨v.pb, 2, none⟩ = some (.slice (some ⟨v.mb, 0, none⟩) v.n v.n) := hw9.blk.cell rfl
              have b3 : w9.cell? ⟨v.pb, 3, none⟩ = some (.slice (some ⟨v.lb, 0, none⟩) v.n v.n) := hw9.blk.cell rfl
              have g1 : w9.cell? ⟨v.lb, p, none⟩ = some (.int .i64 (a : Nat)) := by rw [← HAB.out.1]; exact hw9.cellL (by rw [HTi.out.ll]; exact hpn)
              have g2 : w9.cell? ⟨v.mb, q, none⟩ = some (.int .i64 (me : Nat)) := by rw [← HAB.out.2]; exact hw9.cellM (by rw [HTi.out.lm]; exact hqn2)
              go_simp
              try with_reducible rfl
            try simp only [Act.put, List.setIfInBounds_toArray, List.set_cons_zero, List.set_cons_succ]
            refine wpL_take (v := ?_) 2 rfl (by kernel_rfl) (fun _ _ _ h => h) (by rfl) ?_ HPd.out.2 ?_
            rotate_left
            focus
              intro w9 hw9
              have b2 : w9.cell? ⟨v.pb, 2, none⟩ = some (.slice (some ⟨v.mb, 0, none⟩) v.n v.n) := hw9.blk.cell rfl
              have b3 : w9.cell? ⟨v.pb, 3, none⟩ = some (.slice (some ⟨v.lb, 0, none⟩) v.n v.n) := hw9.blk.cell rfl
              have g1 : w9.cell? ⟨v.lb, p, none⟩ = some (.int .i64 (a : Nat)) := by rw [← HAB.out.1]; exact hw9.cellL (by rw [HTi.out.ll]; exact hpn)
              have g2 : w9.cell? ⟨v.mb, q, none⟩ = some (.int .i64 (me : Nat)) := by rw [← HAB.out.2]; exact hw9.cellM (by rw [HTi.out.lm]; exact hqn2)
              go_simp
              try with_reducible rfl
            try simp only [Act.put, List.setIfInBounds_toArray, List.set_cons_zero, List.set_cons_succ]
            refine wpL_take (v := ?_) 3 rfl (by kernel_rfl) (fun _ _ _ h => h) (by rfl) ?_ HPd.out.2 ?_
            rotate_left
            focus
              intro w9 hw9
              have b2 : w9.cell? ⟨v.pb, 2, none⟩ = some (.slice (some ⟨v.mb, 0, none⟩) v.n v.n) := hw9.blk.cell rfl
              have b3 : w9.cell? ⟨v.pb, 3, none⟩ = some (.slice (some ⟨v.lb, 0, none⟩) v.n v.n) := hw9.blk.cell rfl
              have g1 : w9.cell? ⟨v.lb, p, none⟩ = some (.int .i64 (a : Nat)) := by rw [← HAB.out.1]; exact hw9.cellL (by rw [HTi.out.ll]; exact hpn)
              have g2 : w9.cell? ⟨v.mb, q, none⟩ = some (.int .i64 (me : Nat)) := by rw [← HAB.out.2]; exact hw9.cellM (by rw [HTi.out.lm]; exact hqn2)
              go_simp
              try with_reducible rfl
            try simp only [Act.put, List.setIfInBounds_toArray, List.set_cons_zero, List.set_cons_succ]
            refine wpL_take (v := ?_) 4 rfl (by kernel_rfl) (fun _ _ _ h => h) (by rfl) ?_ HPd.out.2 ?_
            rotate_left
            focus
              intro w9 hw9
              have b2 : w9.cell? ⟨v.pb, 2, none⟩ = some (.slice (some ⟨v.mb, 0, none⟩) v.n v.n) := hw9.blk.cell rfl
              have b3 : w9.cell? ⟨v.pb, 3, none⟩ = some (.slice (some ⟨v.lb, 0, none⟩) v.n v.n) := hw9.blk.cell rfl
              have g1 : w9.cell? ⟨v.lb, p, none⟩ = some (.int .i64 (a : Nat)) := by rw [← HAB.out.1]; exact hw9.cellL (by rw [HTi.out.ll]; exact hpn)
              have g2 : w9.cell? ⟨v.mb, q, none⟩ = some (.int .i64 (me : Nat)) := by rw [← HAB.out.2]; exact hw9.cellM (by rw [HTi.out.lm]; exact hqn2)
              go_simp
              try with_reducible rfl
            try simp only [Act.put, List.setIfInBounds_toArray, List.set_cons_zero, List.set_cons_succ]
            refine wpL_take (v := ?_) 5 rfl (by kernel_rfl) (fun _ _ _ h => h) (by rfl) ?_ HPd.out.2 ?_
            rotate_left
            focus
              intro w9 hw9
              have b2 : w9.cell? ⟨v.pb, 2, none⟩ = some (.slice (some ⟨v.mb, 0, none⟩) v.n v.n) := hw9.blk.cell rfl
              have b3 : w9.cell? ⟨v.pb, 3, none⟩ = some (.slice (some ⟨v.lb, 0, none⟩) v.n v.n) := hw9.blk.cell rfl
              have g1 : w9.cell? ⟨v.lb, p, none⟩ = some (.int .i64 (a : Nat)) := by rw [← HAB.out.1]; exact hw9.cellL (by rw [HTi.out.ll]; exact hpn)
              have g2 : w9.cell? ⟨v.mb, q, none⟩ = some (.int .i64 (me : Nat)) := by rw [← HAB.out.2]; exact hw9.cellM (by rw [HTi.out.lm]; exact hqn2)
              go_simp
              try with_reducible rfl
            try simp only [Act.put, List.setIfInBounds_toArray, List.set_cons_zero, List.set_cons_succ]
            refine wpL_take (v := ?_) 6 rfl (by kernel_rfl) (fun _ _ _ h => h) (by rfl) ?_ HPd.out.2 ?_
            rotate_left
            focus
              intro w9 hw9
              have b2 : w9.cell? ⟨v.pb, 2, none⟩ = some (.slice (some ⟨v.mb, 0, none⟩) v.n v.n) := hw9.blk.cell rfl
              have b3 : w9.cell? ⟨v.pb, 3, none⟩ = some (.slice (some ⟨v.lb, 0, none⟩) v.n v.n) := hw9.blk.cell rfl
              have g1 : w9.cell? ⟨v.lb, p, none⟩ = some (.int .i64 (a : Nat)) := by rw [← HAB.out.1]; exact hw9.cellL (by rw [HTi.out.ll]; exact hpn)
              have g2 : w9.cell? ⟨v.mb, q, none⟩ = some (.int .i64 (me : Nat)) := by rw [← HAB.out.2]; exact hw9.cellM (by rw [HTi.out.lm]; exact hqn2)
              go_simp
              try with_reducible rfl
            try simp only [Act.put, List.setIfInBounds_toArray, List.set_cons_zero, List.set_cons_succ]
            refine wpL_take (v := ?_) 7 rfl (by kernel_rfl) (fun _ _ _ h => h) (by rfl) ?_ HPd.out.2 ?_
            rotate_left
            focus
              intro w9 hw9
              have b2 : w9.cell? ⟨v.pb, 2, none⟩ = some (.slice (some ⟨v.mb, 0, none⟩) v.n v.n) := hw9.blk.cell rfl
              have b3 : w9.cell? ⟨v.pb, 3, none⟩ = some (.slice (some ⟨v.lb, 0, none⟩) v.n v.n) := hw9.blk.cell rfl
              have g1 : w9.cell? ⟨v.lb, p, none⟩ = some (.int .i64 (a : Nat)) := by rw [← HAB.out.1]; exact hw9.cellL (by rw [HTi.out.ll]; exact hpn)
              have g2 : w9.cell? ⟨v.mb, q, none⟩ = some (.int .i64 (me : Nat)) := by rw [← HAB.out.2]; exact hw9.cellM (by rw [HTi.out.lm]; exact hqn2)
              go_simp
              try with_reducible rfl
            try simp only [Act.put, List.setIfInBounds_toArray, List.set_cons_zero, List.set_cons_succ]
            refine wpL_take (v := ?_) 8 rfl (by kernel_rfl) (fun _ _ _ h => h) (by rfl) ?_ HPd.out.2 ?_
            rotate_left
            focus
              intro w9 hw9
              have b2 : w9.cell? ⟨v.pb, 2, none⟩ = some (.slice (some ⟨v.mb, 0, none⟩) v.n v.n) := hw9.blk.cell rfl
              have b3 : w9.cell? ⟨v.pb, 3, none⟩ = some (.slice (some ⟨v.lb, 0, none⟩) v.n v.n) := hw9.blk.cell rfl
              have g1 : w9.cell? ⟨v.lb, p, none⟩ = some (.int .i64 (a : Nat)) := by rw [← HAB.out.1]; exact hw9.cellL (by rw [HTi.out.ll]; exact hpn)
              have g2 : w9.cell? ⟨v.mb, q, none⟩ = some (.int .i64 (me : Nat)) := by rw [← HAB.out.2]; exact hw9.cellM (by rw [HTi.out.lm]; exact hqn2)
              go_simp
              try with_reducible rfl
            try simp only [Act.put, List.setIfInBounds_toArray, List.set_cons_zero, List.set_cons_succ]
            refine wpL_take (v := ?_) 9 rfl (by kernel_rfl) (fun _ _ _ h => h) (by rfl) ?_ HPd.out.2 ?_
            rotate_left
            focus
              intro w9 hw9
              have b2 : w9.cell? ⟨v.pb, 2, none⟩ = some (.slice (some ⟨v.mb, 0, none⟩) v.n v.n) := hw9.blk.cell rfl
              have b3 : w9.cell? ⟨v.pb, 3, none⟩ = some (.slice (some ⟨v.lb, 0, none⟩) v.n v.n) := hw9.blk.cell rfl
              have g1 : w9.cell? ⟨v.lb, p, none⟩ = some (.int .i64 (a : Nat)) := by rw [← HAB.out.1]; exact hw9.cellL (by rw [HTi.out.ll]; exact hpn)
              have g2 : w9.cell? ⟨v.mb, q, none⟩ = some (.int .i64 (me : Nat)) := by rw [← HAB.out.2]; exact hw9.cellM (by rw [HTi.out.lm]; exact hqn2)
              go_simp
              try with_reducible rfl
            try simp only [Act.put, List.setIfInBounds_toArray, List.set_cons_zero, List.set_cons_succ]
            refine wpL_take (v := ?_) 10 rfl (by kernel_rfl) (fun _ _ _ h => h) (by rfl) ?_ HPd.out.2 ?_
            rotate_left
            focus
              intro w9 hw9
              have b2 : w9.cell? ⟨v.pb, 2, none⟩ = some (.slice (some ⟨v.mb, 0, none⟩) v.n v.n) := hw9.blk.cell rfl
              have b3 : w9.cell? ⟨v.pb, 3, none⟩ = some (.slice (some ⟨v.lb, 0, none⟩) v.n v.n) := hw9.blk.cell rfl
              have g1 : w9.cell? ⟨v.lb, p, none⟩ = some (.int .i64 (a : Nat)) := by rw [← HAB.out.1]; exact hw9.cellL (by rw [HTi.out.ll]; exact hpn)
              have g2 : w9.cell? ⟨v.mb, q, none⟩ = some (.int .i64 (me : Nat)) := by rw [← HAB.out.2]; exact hw9.cellM (by rw [HTi.out.lm]; exact hqn2)
              go_simp
              try with_reducible rfl
            try simp only [Act.put, List.setIfInBounds_toArray, List.set_cons_zero, List.set_cons_succ]
            refine wpL_take (v := ?_) 11 rfl (by kernel_rfl) (fun _ _ _ h => h) (by rfl) ?_ HPd.out.2 ?_
            rotate_left
            focus
              intro w9 hw9
              have b2 : w9.cell? ⟨v.pb, 2, none⟩ = some (.slice (some ⟨v.mb, 0, none⟩) v.n v.n) := hw9.blk.cell rfl
              have b3 : w9.cell? ⟨v.pb, 3, none⟩ = some (.slice (some ⟨v.lb, 0, none⟩) v.n v.n) := hw9.blk.cell rfl
              have g1 : w9.cell? ⟨v.lb, p, none⟩ = some (.int .i64 (a : Nat)) := by rw [← HAB.out.1]; exact hw9.cellL (by rw [HTi.out.ll]; exact hpn)
              have g2 : w9.cell? ⟨v.mb, q, none⟩ = some (.int .i64 (me : Nat)) := by rw [← HAB.out.2]; exact hw9.cellM (by rw [HTi.out.lm]; exact hqn2)
              go_simp
              try with_reducible rfl
            try simp only [Act.put, List.setIfInBounds_toArray, List.set_cons_zero, List.set_cons_succ]
            refine wpL_take (v := ?_) 12 rfl (by kernel_rfl) (fun _ _ _ h => h) (by rfl) ?_ HPd.out.2 ?_
            rotate_left
            focus
              intro w9 hw9
              have b2 : w9.cell? ⟨v.pb, 2, none⟩ = some (.slice (some ⟨v.mb, 0, none⟩) v.n v.n) := hw9.blk.cell rfl
              have b3 : w9.cell? ⟨v.pb, 3, none⟩ = some (.slice (some ⟨v.lb, 0, none⟩) v.n v.n) := hw9.blk.cell rfl
              have g1 : w9.cell? ⟨v.lb, p, none⟩ = some (.int .i64 (a : Nat)) := by rw [← HAB.out.1]; exact hw9.cellL (by rw [HTi.out.ll]; exact hpn)
              have g2 : w9.cell? ⟨v.mb, q, none⟩ = some (.int .i64 (me : Nat)) := by rw [← HAB.out.2]; exact hw9.cellM (by rw [HTi.out.lm]; exact hqn2)
              go_simp
              try with_reducible rfl
            try simp only [Act.put, List.setIfInBounds_toArray, List.set_cons_zero, List.set_cons_succ]
            refine wpL_take (v := ?_) 13 rfl (by kernel_rfl) (fun _ _ _ h => h) (by rfl) ?_ HPd.out.2 ?_
            rotate_left
            focus
              intro w9 hw9
              have b2 : w9.cell? ⟨v.pb, 2, none⟩ = some (.slice (some ⟨v.mb, 0, none⟩) v.n v.n) := hw9.blk.cell rfl
              have b3 : w9.cell? ⟨v.pb, 3, none⟩ = some (.slice (some ⟨v.lb, 0, none⟩) v.n v.n) := hw9.blk.cell rfl
              have g1 : w9.cell? ⟨v.lb, p, none⟩ = some (.int .i64 (a : Nat)) := by rw [← HAB.out.1]; exact hw9.cellL (by rw [HTi.out.ll]; exact hpn)
              have g2 : w9.cell? ⟨v.mb, q, none⟩ = some (.int .i64 (me : Nat)) := by rw [← HAB.out.2]; exact hw9.cellM (by rw [HTi.out.lm]; exact hqn2)
              go_simp
              try with_reducible rfl
            try simp only [Act.put, List.setIfInBounds_toArray, List.set_cons_zero, List.set_cons_succ]
            refine wpL_take (v := ?_) 14 rfl (by kernel_rfl) (fun _ _ _ h => h) (by rfl) ?_ HPd.out.2 ?_
            rotate_left
            focus
              intro w9 hw9
              have b2 : w9.cell? ⟨v.pb, 2, none⟩ = some (.slice (some ⟨v.mb, 0, none⟩) v.n v.n) := hw9.blk.cell rfl
              have b3 : w9.cell? ⟨v.pb, 3, none⟩ = some (.slice (some ⟨v.lb, 0, none⟩) v.n v.n) := hw9.blk.cell rfl
              have g1 : w9.cell? ⟨v.lb, p, none⟩ = some (.int .i64 (a : Nat)) := by rw [← HAB.out.1]; exact hw9.cellL (by rw [HTi.out.ll]; exact hpn)
              have g2 : w9.cell? ⟨v.mb, q, none⟩ = some (.int .i64 (me : Nat)) := by rw [← HAB.out.2]; exact hw9.cellM (by rw [HTi.out.lm]; exact hqn2)
              go_simp
              try with_reducible rfl
            try simp only [Act.put, List.setIfInBounds_toArray, List.set_cons_zero, List.set_cons_succ]
            refine wpL_take (v := ?_) 15 rfl (by kernel_rfl) (fun _ _ _ h => h) (by rfl) ?_ HPd.out.2 ?_
            rotate_left
            focus
              intro w9 hw9
              have b2 : w9.cell? ⟨v.pb, 2, none⟩ = some (.slice (some ⟨v.mb, 0, none⟩) v.n v.n) := hw9.blk.cell rfl
              have b3 : w9.cell? ⟨v.pb, 3, none⟩ = some (.slice (some ⟨v.lb, 0, none⟩) v.n v.n) := hw9.blk.cell rfl
              have g1 : w9.cell? ⟨v.lb, p, none⟩ = some (.int .i64 (a : Nat)) := by rw [← HAB.out.1]; exact hw9.cellL (by rw [HTi.out.ll]; exact hpn)
              have g2 : w9.cell? ⟨v.mb, q, none⟩ = some (.int .i64 (me : Nat)) := by rw [← HAB.out.2]; exact hw9.cellM (by rw [HTi.out.lm]; exact hqn2)
              go_simp
              try with_reducible rfl
            try simp only [Act.put, List.setIfInBounds_toArray, List.set_cons_zero, List.set_cons_succ]
            refine wpL_take (v := ?_) 16 rfl (by kernel_rfl) (fun _ _ _ h => h) (by rfl) ?_ HPd.out.2 ?_
            rotate_left
            focus
              intro w9 hw9
              have b2 : w9.cell? ⟨v.pb, 2, none⟩ = some (.slice (some ⟨v.mb, 0, none⟩) v.n v.n) := hw9.blk.cell rfl
              have b3 : w9.cell? ⟨v.pb, 3, none⟩ = some (.slice (some ⟨v.lb, 0, none⟩) v.n v.n) := hw9.blk.cell rfl
              have g1 : w9.cell? ⟨v.lb, p, none⟩ = some (.int .i64 (a : Nat)) := by rw [← HAB.out.1]; exact hw9.cellL (by rw [HTi.out.ll]; exact hpn)
              have g2 : w9.cell? ⟨v.mb, q, none⟩ = some (.int .i64 (me : Nat)) := by rw [← HAB.out.2]; exact hw9.cellM (by rw [HTi.out.lm]; exact hqn2)
              go_simp
              try with_reducible rfl
            try simp only [Act.put, List.setIfInBounds_toArray, List.set_cons_zero, List.set_cons_succ]
            refine wpL_take (v := ?_) 17 rfl (by kernel_rfl) (fun _ _ _ h => h) (by rfl) ?_ HPd.out.2 ?_
            rotate_left
            focus
              intro w9 hw9
              have b2 : w9.cell? ⟨v.pb, 2, none⟩ = some (.slice (some ⟨v.mb, 0, none⟩) v.n v.n) := hw9.blk.cell rfl
              have b3 : w9.cell? ⟨v.pb, 3, none⟩ = some (.slice (some ⟨v.lb, 0, none⟩) v.n v.n) := hw9.blk.cell rfl
              have g1 : w9.cell? ⟨v.lb, p, none⟩ = some (.int .i64 (a : Nat)) := by rw [← HAB.out.1]; exact hw9.cellL (by rw [HTi.out.ll]; exact hpn)
              have g2 : w9.cell? ⟨v.mb, q, none⟩ = some (.int .i64 (me : Nat)) := by rw [← HAB.out.2]; exact hw9.cellM (by rw [HTi.out.lm]; exact hqn2)
              go_simp
              try with_reducible rfl
            try simp only [Act.put, List.setIfInBounds_toArray, List.set_cons_zero, List.set_cons_succ]
            refine wpL_take (v := ?_) 18 rfl (by kernel_rfl) (fun _ _ _ h => h) (by rfl) ?_ HPd.out.2 ?_
            rotate_left
            focus
              intro w9 hw9
              have b2 : w9.cell? ⟨v.pb, 2, none⟩ = some (.slice (some ⟨v.mb, 0, none⟩) v.n v.n) := hw9.blk.cell rfl
              have b3 : w9.cell? ⟨v.pb, 3, none⟩ = some (.slice (some ⟨v.lb, 0, none⟩) v.n v.n) := hw9.blk.cell rfl
              have g1 : w9.cell? ⟨v.lb, p, none⟩ = some (.int .i64 (a : Nat)) := by rw [← HAB.out.1]; exact hw9.cellL (by rw [HTi.out.ll]; exact hpn)
              have g2 : w9.cell? ⟨v.mb, q, none⟩ = some (.int .i64 (me : Nat)) := by rw [← HAB.out.2]; exact hw9.cellM (by rw [HTi.out.lm]; exact hqn2)
              go_simp
              try with_reducible rfl
            try simp only [Act.put, List.setIfInBounds_toArray, List.set_cons_zero, List.set_cons_succ]
            refine wpL_take (v := ?_) 19 rfl (by kernel_rfl) (fun _ _ _ h => h) (by rfl) ?_ HPd.out.2 ?_
            rotate_left
            focus
              intro w9 hw9
              have b2 : w9.cell? ⟨v.pb, 2, none⟩ = some (.slice (some ⟨v.mb, 0, none⟩) v.n v.n) := hw9.blk.cell rfl
              have b3 : w9.cell? ⟨v.pb, 3, none⟩ = some (.slice (some ⟨v.lb, 0, none⟩) v.n v.n) := hw9.blk.cell rfl
              have g1 : w9.cell? ⟨v.lb, p, none⟩ = some (.int .i64 (a : Nat)) := by rw [← HAB.out.1]; exact hw9.cellL (by rw [HTi.out.ll]; exact hpn)
              have g2 : w9.cell? ⟨v.mb, q, none⟩ = some (.int .i64 (me : Nat)) := by rw [← HAB.out.2]; exact hw9.cellM (by rw [HTi.out.lm]; exact hqn2)
              go_simp
              try with_reducible rfl
            try simp only [Act.put, List.setIfInBounds_toArray, List.set_cons_zero, List.set_cons_succ]
            refine wpL_take (v := ?_) 20 rfl (by kernel_rfl) (fun _ _ _ h => h) (by rfl) ?_ HPd.out.2 ?_
            rotate_left
            focus
              intro w9 hw9
              have b2 : w9.cell? ⟨v.pb, 2, none⟩ = some (.slice (some ⟨v.mb, 0, none⟩) v.n v.n) := hw9.blk.cell rfl
              have b3 : w9.cell? ⟨v.pb, 3, none⟩ = some (.slice (some ⟨v.lb, 0, none⟩) v.n v.n) := hw9.blk.cell rfl
              have g1 : w9.cell? ⟨v.lb, p, none⟩ = some (.int .i64 (a : Nat)) := by rw [← HAB.out.1]; exact hw9.cellL (by rw [HTi.out.ll]; exact hpn)
              have g2 : w9.cell? ⟨v.mb, q, none⟩ = some (.int .i64 (me : Nat)) := by rw [← HAB.out.2]; exact hw9.cellM (by rw [HTi.out.lm]; exact hqn2)
              go_simp
              try with_reducible rfl
            try simp only [Act.put, List.setIfInBounds_toArray, List.set_cons_zero, List.set_cons_succ]
            refine wpL_one 21 rfl (by kernel_rfl) (by rfl) ?_
            intro K hK
            have z0 := HPd.out.2.cellL (q := p) (by rw [HTi.out.ll]; exact hpn)
            have f0 := HPd.out.2.low.frozen p
            go_simp
            have HPz : Hid (Below C w (wd.setCell ⟨v.lb, p, none⟩ (.int .i64 (min (a : Int) (me : Int)))) ∧ PtI (wd.setCell ⟨v.lb, p, none⟩ (.int .i64 (min (a : Int) (me : Int)))) C v vT { t with low := t.low.set p (min a me) }) := by
              rw [show min (a : Int) (me : Int) = ((min a me : Nat) : Int) by omega]
              exact ⟨HPd.out.1.trans (PtI.below (Nat.le_trans HC.out.2.1 HPd.out.1.size) (frm_set wd v.lb p _ (.inl rfl)) HPd.out.2.lC), HPd.out.2.setL p (min a me)⟩
            refine hK.out _ _ (fun h => absurd rfl h) ?_
            clear hK K
            try simp only [Act.put, List.setIfInBounds_toArray, List.set_cons_zero, List.set_cons_succ]
            clear z0 f0
            refine wpL_done (by kernel_rfl) ?_ _
            try simp only [NoPanic]
            generalize wd.setCell ⟨v.lb, p, none⟩ (.int .i64 (min (a : Int) (me : Int))) = wz at *
            go_wp2_with fail
            go_roundw
            case rel => exact ⟨j + 1, by go_num, HJ1.out, HPz.out.1, vT, by rw [HTK.out, HS.out, HAB.out.1, HAB.out.2]; exact HPz.out.2⟩
            case measure => have h9 := HJ1.out; simp [intOf]; omega
          · have HS : Hid (Pst.step (visitM NN f) p t q = t) := by show _ = _; unfold Pst.step; rw [if_neg h0, if_neg h5]
            generalize t.prt.getD q 0 = pq at *
            clear h0 hme
            go_wp2_with fail
            go_roundw
            case rel => exact ⟨j + 1, by go_num, HJ1.out, HPt.out.1, vT, by rw [HTK.out, HS.out]; exact HPt.out.2⟩
            case measure => have h9 := HJ1.out; simp [intOf]; omega

end Go.Proofs.YtncfejndmlcidaaGreat

namespace Go.Proofs.YtncfejndmlcidaaGreat
open Go.RowKit
set_option maxRecDepth 100000

theorem wpL_more {P : Program} {ops : Array Oper} {Q : Exit → Act → World → Prop} {S : World → Prop} {m : Nat} (rs : List Nat) {fuel : Nat} {listed : Array Bool} {a : Act} {w : World} (hr : Region.ready .any ops listed = rs)
    (h : ∀ k ∈ rs, ∃ o, nthO ops.toList k = some o ∧ Region.wanted o (yielded ops a.tmps) = true ∧ ∀ K : Act → World → Prop, Hid (∀ a' w', (k ≠ m → S w') → wpL P ops Q S m fuel (listed.setIfInBounds k true) a' w' → K a' w') → o.wp P a w K Q) (hne : rs ≠ []) : wpL P ops Q S m (fuel + 1) listed a w := by
  refine ⟨fun h0 => absurd (hr.symm.trans h0) hne, fun k hk => ?_⟩
  rw [hr] at hk
  obtain ⟨o, ho, hw, h1⟩ := h k hk
  unfold wpOp
  simp only [nthO_at ho, hw, if_true]
  exact .inl (h1 _ (show ∀ a' w', _ → _ → _ from fun a' w' h1 h2 => ⟨h1, h2⟩))
theorem wpL_two {P : Program} {ops : Array Oper} {Q : Exit → Act → World → Prop} {S : World → Prop} {m : Nat} (i j : Nat) {oi oj : Oper} {fuel : Nat} {listed : Array Bool} {a : Act} {w : World} (hi : nthO ops.toList i = some oi) (hj : nthO ops.toList j = some oj) (hr : Region.ready .any ops listed = [i, j]) (hwi : Region.wanted oi (yielded ops a.tmps) = true) (hwj : Region.wanted oj (yielded ops a.tmps) = true)
    (h1 : ∀ K : Act → World → Prop, Hid (∀ a' w', (i ≠ m → S w') → wpL P ops Q S m fuel (listed.setIfInBounds i true) a' w' → K a' w') → oi.wp P a w K Q)
    (h2 : ∀ K : Act → World → Prop, Hid (∀ a' w', (j ≠ m → S w') → wpL P ops Q S m fuel (listed.setIfInBounds j true) a' w' → K a' w') → oj.wp P a w K Q) : wpL P ops Q S m (fuel + 1) listed a w :=
  wpL_more [i, j] hr (fun k hk => by
    rcases List.mem_cons.1 hk with rfl | hk
    · exact ⟨oi, hi, hwi, h1⟩
    · obtain rfl : k = j := by simpa using hk
      exact ⟨oj, hj, hwj, h2⟩) (by simp)
theorem wpL_three {P : Program} {ops : Array Oper} {Q : Exit → Act → World → Prop} {S : World → Prop} {m : Nat} (i j l : Nat) {oi oj ol : Oper} {fuel : Nat} {listed : Array Bool} {a : Act} {w : World} (hi : nthO ops.toList i = some oi) (hj : nthO ops.toList j = some oj) (hl : nthO ops.toList l = some ol) (hr : Region.ready .any ops listed = [i, j, l]) (hwi : Region.wanted oi (yielded ops a.tmps) = true) (hwj : Region.wanted oj (yielded ops a.tmps) = true) (hwl : Region.wanted ol (yielded ops a.tmps) = true)
    (h1 : ∀ K : Act → World → Prop, Hid (∀ a' w', (i ≠ m → S w') → wpL P ops Q S m fuel (listed.setIfInBounds i true) a' w' → K a' w') → oi.wp P a w K Q)
    (h2 : ∀ K : Act → World → Prop, Hid (∀ a' w', (j ≠ m → S w') → wpL P ops Q S m fuel (listed.setIfInBounds j true) a' w' → K a' w') → oj.wp P a w K Q)
    (h3 : ∀ K : Act → World → Prop, Hid (∀ a' w', (l ≠ m → S w') → wpL P ops Q S m fuel (listed.setIfInBounds l true) a' w' → K a' w') → ol.wp P a w K Q) : wpL P ops Q S m (fuel + 1) listed a w :=
  wpL_more [i, j, l] hr (fun k hk => by
    rcases List.mem_cons.1 hk with rfl | hk
    · exact ⟨oi, hi, hwi, h1⟩
    · rcases List.mem_cons.1 hk with rfl | hk
      · exact ⟨oj, hj, hwj, h2⟩
      · obtain rfl : k = l := by simpa using hk
        exact ⟨ol, hl, hwl, h3⟩) (by simp)
/-- nothing is met yet -/
def pst0 (n : Nat) : Pst := ⟨0, List.replicate n 0, List.replicate n 0, [], List.replicate n (-1)⟩
theorem pst0_inv (n : Nat) : PInv n (pst0 n) := ⟨by simp [pst0], by simp [pst0], by simp [pst0], fun q hq => by simp [pst0] at hq, Nat.le_refl _, by
  show 0 + List.countP _ _ ≤ n
  have := List.countP_le_length (p := fun x : Nat => x == 0) (l := List.replicate n 0)
  rw [List.length_replicate] at this
  show 0 + List.countP (fun x => x == 0) (List.replicate n 0) ≤ n
  omega⟩
theorem partsS_succ (NN : List (List Nat)) (k : Nat) : partsS NN (k + 1) = if (partsS NN k).met.getD k 0 = 0 then visitM NN NN.length k (partsS NN k) else partsS NN k := by
  unfold partsS
  rw [List.range_succ, List.foldl_append]
  rfl
theorem partsS_inv {n : Nat} {NN : List (List Nat)} (hl : NN.length = n) (hn : ∀ p, ∀ q ∈ NN.getD p [], q < n) : ∀ k, k ≤ n → PInv n (partsS NN k)
  | 0, _ => by
    have h := pst0_inv n
    unfold pst0 at h
    rw [← hl] at h ⊢
    exact h
  | k + 1, hk => by
    have ih := partsS_inv hl hn k (by omega)
    rw [partsS_succ]
    split
    · rename_i h0
      have hu : (partsS NN k).un ≤ NN.length := by
        have h1 : (partsS NN k).un ≤ (partsS NN k).met.length := List.countP_le_length
        rw [ih.lm] at h1
        omega
      exact (visit_inv hn NN.length k _ ih (by omega) h0 hu).1
    · exact ih
theorem PtI.start {w : World} {C mb lb qb n : Nat} {nv : Value} (hm : Blk w mb (Array.replicate n (.int .i64 0)) 3) (hl : Blk w lb (Array.replicate n (.int .i64 0)) 3) (hq : Blk w qb (Array.replicate n (.int .i64 (-1))) 3) (h1 : mb ≠ lb) (h2 : mb ≠ qb) (h3 : lb ≠ qb) (hC : C ≤ w.heap.size) (c1 : C ≤ mb) (c2 : C ≤ lb) (c3 : C ≤ qb) :
    PtI (w.alloc (.cells #[nv, .int .i64 0, .slice (some ⟨mb, 0, none⟩) n n, .slice (some ⟨lb, 0, none⟩) n n, .slice none 0 0, .slice (some ⟨qb, 0, none⟩) n n] 124)) C ⟨w.heap.size, mb, lb, qb, nv, n⟩ (.slice none 0 0) (pst0 n) where
  blk := Blk.new w _ _
  met := by
    have e : nats (pst0 n).met = Array.replicate n (.int .i64 0) := by simp [nats, pst0]
    rw [e]
    exact hm.on ((Below.refl _ _).alloc (Nat.le_refl _) _)
  low := by
    have e : nats (pst0 n).low = Array.replicate n (.int .i64 0) := by simp [nats, pst0]
    rw [e]
    exact hl.on ((Below.refl _ _).alloc (Nat.le_refl _) _)
  prt := by
    have e : ints9 (pst0 n).prt = Array.replicate n (.int .i64 (-1)) := by simp [ints9, pst0]
    rw [e]
    exact hq.on ((Below.refl _ _).alloc (Nat.le_refl _) _)
  opn := OwnG.nil _ _ _ _ _
  ml := h1
  mq := h2
  lq := h3
  om := fun e => by cases e
  ol := fun e => by cases e
  oq := fun e => by cases e
  pC := hC
  mC := c1
  lC := c2
  qC := c3
set_option maxHeartbeats 16000000 in
theorem parts_any (Cn nb : Nat) (ns : Nat → Value) (NN : List (List Nat)) (n : Nat) (w : World) (hN : OutN w Cn nb ns NN) (hnl : NN.length = n) (hn4 : n ≤ 4096) (hlt : ∀ p, ∀ q ∈ NN.getD p [], q < n) (hrl : ∀ p, (NN.getD p []).length ≤ 1099511627776) :
    Calls Tryz.prog 53 #[.slice (some ⟨nb, 0, none⟩) n n] w fun e w' => ∃ qb, e = .returned (.slice (some ⟨qb, 0, none⟩) n n) ∧ w.heap.size ≤ qb ∧ Blk w' qb (ints9 (partsM NN)) 3 ∧ (partsM NN).length = n ∧ Below w.heap.size w w' := by
  have HV : Hid (∀ v : Pv, v.nv = .slice (some ⟨nb, 0, none⟩) n n → v.n = n → VisF w Cn nb ns NN v) := fun v h1 h2 => ⟨hN, by rw [h1, h2], by rw [h2]; exact hnl, by rw [h2]; exact hn4, by rw [h2]; exact hlt, hrl⟩
  have HA : Hid (NN.length = n ∧ n ≤ 4096 ∧ ∀ p, ∀ q ∈ NN.getD p [], q < n) := ⟨hnl, hn4, hlt⟩
  have HMk : Hid (∀ w9 : World, (Instr.makeSlice 38 (.int .i64 (n : Int)) (.int .i64 (n : Int))).run Tryz.prog w9 = .ok (.slice (some ⟨w9.heap.size, 0, none⟩) n n) (w9.alloc (.cells (Array.replicate n (.int .i64 0)) 3))) := run_mk1 38 3 (.int .i64 0) 8 info_int9 rfl Tryz.underlying38 (by omega) n hn4
  clear hN hnl hlt hrl
  go_enter Tryz.func53, Tryz.ntmps53
  go_upto_region 2 with fail
  go_cut [4] from 8 to 17 (fun p4 wx => ∃ (pb mb lb qb : Nat), p4 = .pointer (some ⟨pb, 0, none⟩) ∧ Hid (PtI wx w.heap.size ⟨pb, mb, lb, qb, .slice (some ⟨nb, 0, none⟩) n n, n⟩ (.slice none 0 0) (pst0 n) ∧ Below w.heap.size w wx))
  case first =>
    refine wp_region_L (fun w' => True) 99 (by kernel_rfl) ?_
    have HBw0 : Hid (Below w.heap.size w w.drew) := (Below.refl _ _).drew
    generalize w.drew = w0 at *
    refine wpL_take (v := ?_) 0 rfl (by kernel_rfl) (fun _ _ _ h => h) (by rfl) ?_ trivial ?_
    rotate_left
    focus
      intro w9 hw9

      go_simp
      try with_reducible rfl
    try simp only [Act.put, List.setIfInBounds_toArray, List.set_cons_zero, List.set_cons_succ]
    refine wpL_take (v := ?_) 1 rfl (by kernel_rfl) (fun _ _ _ h => h) (by rfl) ?_ trivial ?_
    rotate_left
    focus
      intro w9 hw9

      go_simp
      try with_reducible rfl
    try simp only [Act.put, List.setIfInBounds_toArray, List.set_cons_zero, List.set_cons_succ]
    refine wpL_take (v := ?_) 3 rfl (by kernel_rfl) (fun _ _ _ h => h) (by rfl) ?_ trivial ?_
    rotate_left
    focus
      intro w9 hw9

      go_simp
      try with_reducible rfl
    try simp only [Act.put, List.setIfInBounds_toArray, List.set_cons_zero, List.set_cons_succ]
    refine wpL_take (v := ?_) 6 rfl (by kernel_rfl) (fun _ _ _ h => h) (by rfl) ?_ trivial ?_
    rotate_left
    focus
      intro w9 hw9

      go_simp
      try with_reducible rfl
    try simp only [Act.put, List.setIfInBounds_toArray, List.set_cons_zero, List.set_cons_succ]
    refine wpL_three 2 4 5 rfl rfl rfl (by kernel_rfl) (by rfl) (by rfl) (by rfl) ?_ ?_ ?_
    · intro K hK
      have hmk := HMk.out
      go_simp
      have hal : Below w0.heap.size w0 (w0.alloc (.cells (Array.replicate n (.int .i64 0)) 3)) := (Below.refl _ _).alloc (Nat.le_refl _) _
      have HBw1 : Hid (Below w.heap.size w (w0.alloc (.cells (Array.replicate n (.int .i64 0)) 3))) := HBw0.out.trans (hal.mono HBw0.out.size)
      obtain ⟨g2, hg⟩ : ∃ g, w0.heap.size = g := ⟨_, rfl⟩
      have HKg2 : Hid (Blk (w0.alloc (.cells (Array.replicate n (.int .i64 0)) 3)) g2 (Array.replicate n (.int .i64 0)) 3) := by rw [← hg]; exact Blk.new w0 _ _
      have HGg2 : Hid (w.heap.size ≤ g2) := by
        have l0 := HBw0.out.size
        show w.heap.size ≤ g2
        omega
      rw [hg]
      clear hal hg hmk
      refine hK.out _ _ (fun _ => trivial) ?_
      clear hK K
      try simp only [Act.put, List.setIfInBounds_toArray, List.set_cons_zero, List.set_cons_succ]
      generalize (w0.alloc (.cells (Array.replicate n (.int .i64 0)) 3)) = w1 at *
      refine wpL_two 4 5 rfl rfl (by kernel_rfl) (by rfl) (by rfl) ?_ ?_
      · intro K hK
        have hmk := HMk.out
        go_simp
        have hal : Below w1.heap.size w1 (w1.alloc (.cells (Array.replicate n (.int .i64 0)) 3)) := (Below.refl _ _).alloc (Nat.le_refl _) _
        have HBw3 : Hid (Below w.heap.size w (w1.alloc (.cells (Array.replicate n (.int .i64 0)) 3))) := HBw1.out.trans (hal.mono HBw1.out.size)
        obtain ⟨g4, hg⟩ : ∃ g, w1.heap.size = g := ⟨_, rfl⟩
        have HKg4 : Hid (Blk (w1.alloc (.cells (Array.replicate n (.int .i64 0)) 3)) g4 (Array.replicate n (.int .i64 0)) 3) := by rw [← hg]; exact Blk.new w1 _ _
        have HGg4 : Hid (g2 < g4 ∧ w.heap.size ≤ g4) := by
          have l_g2 := HKg2.out.lt
          have l0 := HBw1.out.size
          show g2 < g4 ∧ w.heap.size ≤ g4
          omega
        have HKg2_ : Hid (Blk (w1.alloc (.cells (Array.replicate n (.int .i64 0)) 3)) g2 (Array.replicate n (.int .i64 0)) 3) := HKg2.out.on hal
        clear HKg2
        have HKg2 := HKg2_
        clear HKg2_
        rw [hg]
        clear hal hg hmk
        refine hK.out _ _ (fun _ => trivial) ?_
        clear hK K
        try simp only [Act.put, List.setIfInBounds_toArray, List.set_cons_zero, List.set_cons_succ]
        generalize (w1.alloc (.cells (Array.replicate n (.int .i64 0)) 3)) = w3 at *
        refine wpL_one 5 rfl (by kernel_rfl) (by rfl) ?_
        intro K hK
        go_simp
        have hal : Below w3.heap.size w3 (w3.alloc (.cells #[.int .i64 (-1)] 3)) := (Below.refl _ _).alloc (Nat.le_refl _) _
        have HBw5 : Hid (Below w.heap.size w (w3.alloc (.cells #[.int .i64 (-1)] 3))) := HBw3.out.trans (hal.mono HBw3.out.size)
        obtain ⟨g6, hg⟩ : ∃ g, w3.heap.size = g := ⟨_, rfl⟩
        have HKg6 : Hid (Blk (w3.alloc (.cells #[.int .i64 (-1)] 3)) g6 #[.int .i64 (-1)] 3) := by rw [← hg]; exact Blk.new w3 _ _
        have HGg6 : Hid (g2 < g6 ∧ g4 < g6 ∧ w.heap.size ≤ g6) := by
          have l_g2 := HKg2.out.lt
          have l_g4 := HKg4.out.lt
          have l0 := HBw3.out.size
          show g2 < g6 ∧ g4 < g6 ∧ w.heap.size ≤ g6
          omega
        have HKg2_ : Hid (Blk (w3.alloc (.cells #[.int .i64 (-1)] 3)) g2 (Array.replicate n (.int .i64 0)) 3) := HKg2.out.on hal
        clear HKg2
        have HKg2 := HKg2_
        clear HKg2_
        have HKg4_ : Hid (Blk (w3.alloc (.cells #[.int .i64 (-1)] 3)) g4 (Array.replicate n (.int .i64 0)) 3) := HKg4.out.on hal
        clear HKg4
        have HKg4 := HKg4_
        clear HKg4_
        rw [hg]
        clear hal hg
        refine hK.out _ _ (fun _ => trivial) ?_
        clear hK K
        try simp only [Act.put, List.setIfInBounds_toArray, List.set_cons_zero, List.set_cons_succ]
        generalize (w3.alloc (.cells #[.int .i64 (-1)] 3)) = w5 at *
        refine wpL_one 7 rfl (by kernel_rfl) (by rfl) ?_
        intro K hK
        have CR : Hid (Calls Tryz.prog 82 #[.slice (some ⟨g6, 0, none⟩) 1 1, .int .i64 (n : Int)] w5 fun e w' => ∃ rb, e = .returned (.slice (some ⟨rb, 0, none⟩) n n) ∧ w5.heap.size ≤ rb ∧ Blk w' rb (Array.replicate n (.int .i64 (-1))) 3 ∧ Below w5.heap.size w5 w') := repeat1_any (-1) n g6 HA.out.2.1 w5 (HKg6.out.cell rfl) HKg6.out.lt
        go_simp
        refine CR.out.mono ?_
        rintro e w7 ⟨g8, rfl, hg1, hg2, hal⟩
        have HBw7 : Hid (Below w.heap.size w w7) := HBw5.out.trans (hal.mono HBw5.out.size)
        have HKg8 : Hid (Blk w7 g8 (Array.replicate n (.int .i64 (-1))) 3) := hg2
        have HGg8 : Hid (g2 < g8 ∧ g4 < g8 ∧ g6 < g8 ∧ w.heap.size ≤ g8) := by
          have l_g2 := HKg2.out.lt
          have l_g4 := HKg4.out.lt
          have l_g6 := HKg6.out.lt
          have l0 := HBw5.out.size
          show g2 < g8 ∧ g4 < g8 ∧ g6 < g8 ∧ w.heap.size ≤ g8
          omega
        have HKg2_ : Hid (Blk w7 g2 (Array.replicate n (.int .i64 0)) 3) := HKg2.out.on hal
        clear HKg2
        have HKg2 := HKg2_
        clear HKg2_
        have HKg4_ : Hid (Blk w7 g4 (Array.replicate n (.int .i64 0)) 3) := HKg4.out.on hal
        clear HKg4
        have HKg4 := HKg4_
        clear HKg4_
        have HKg6_ : Hid (Blk w7 g6 #[.int .i64 (-1)] 3) := HKg6.out.on hal
        clear HKg6
        have HKg6 := HKg6_
        clear HKg6_
        clear hal hg1 hg2 CR
        dsimp only
        refine hK.out _ _ (fun _ => trivial) ?_
        clear hK K
        try simp only [Act.put, List.setIfInBounds_toArray, List.set_cons_zero, List.set_cons_succ]
        refine wpL_take (v := ?_) 8 rfl (by kernel_rfl) (fun _ _ _ h => h) (by rfl) ?_ trivial ?_
        rotate_left
        focus
          intro w9 hw9

          go_simp
          try with_reducible rfl
        try simp only [Act.put, List.setIfInBounds_toArray, List.set_cons_zero, List.set_cons_succ]
        refine wpL_one 9 rfl (by kernel_rfl) (by rfl) ?_
        intro K hK
        go_simp
        refine hK.out _ _ (fun _ => trivial) ?_
        clear hK K
        try simp only [Act.put, List.setIfInBounds_toArray, List.set_cons_zero, List.set_cons_succ]
        refine wpL_one 10 rfl (by kernel_rfl) (by rfl) ?_
        intro K hK
        go_simp
        refine hK.out _ _ (fun _ => trivial) ?_
        clear hK K
        try simp only [Act.put, List.setIfInBounds_toArray, List.set_cons_zero, List.set_cons_succ]
        refine wpL_done (by kernel_rfl) ?_ _
        try simp only [NoPanic]
        have HFin : Hid (PtI (w7.alloc (.cells #[.slice (some ⟨nb, 0, none⟩) n n, .int .i64 0, .slice (some ⟨g2, 0, none⟩) n n, .slice (some ⟨g4, 0, none⟩) n n, .slice none 0 0, .slice (some ⟨g8, 0, none⟩) n n] 124)) w.heap.size ⟨w7.heap.size, g2, g4, g8, .slice (some ⟨nb, 0, none⟩) n n, n⟩ (.slice none 0 0) (pst0 n) ∧ Below w.heap.size w (w7.alloc (.cells #[.slice (some ⟨nb, 0, none⟩) n n, .int .i64 0, .slice (some ⟨g2, 0, none⟩) n n, .slice (some ⟨g4, 0, none⟩) n n, .slice none 0 0, .slice (some ⟨g8, 0, none⟩) n n] 124))) := ⟨PtI.start HKg2.out HKg4.out HKg8.out (by have := HGg2.out; have := HGg4.out; have := HGg8.out; omega) (by have := HGg2.out; have := HGg4.out; have := HGg8.out; omega) (by have := HGg2.out; have := HGg4.out; have := HGg8.out; omega) HBw7.out.size (by have := HGg2.out; have := HBw7.out.size; omega) (by have := HGg4.out; have := HBw7.out.size; omega) (by have := HGg8.out; have := HBw7.out.size; omega), HBw7.out.alloc HBw7.out.size _⟩
        go_wp2_with fail
        go_meet
        exact ⟨_, _, _, _, rfl, HFin.out⟩
      · intro K hK
        go_simp
        have hal : Below w1.heap.size w1 (w1.alloc (.cells #[.int .i64 (-1)] 3)) := (Below.refl _ _).alloc (Nat.le_refl _) _
        have HBw9 : Hid (Below w.heap.size w (w1.alloc (.cells #[.int .i64 (-1)] 3))) := HBw1.out.trans (hal.mono HBw1.out.size)
        obtain ⟨g10, hg⟩ : ∃ g, w1.heap.size = g := ⟨_, rfl⟩
        have HKg10 : Hid (Blk (w1.alloc (.cells #[.int .i64 (-1)] 3)) g10 #[.int .i64 (-1)] 3) := by rw [← hg]; exact Blk.new w1 _ _
        have HGg10 : Hid (g2 < g10 ∧ w.heap.size ≤ g10) := by
          have l_g2 := HKg2.out.lt
          have l0 := HBw1.out.size
          show g2 < g10 ∧ w.heap.size ≤ g10
          omega
        have HKg2_ : Hid (Blk (w1.alloc (.cells #[.int .i64 (-1)] 3)) g2 (Array.replicate n (.int .i64 0)) 3) := HKg2.out.on hal
        clear HKg2
        have HKg2 := HKg2_
        clear HKg2_
        rw [hg]
        clear hal hg
        refine hK.out _ _ (fun _ => trivial) ?_
        clear hK K
        try simp only [Act.put, List.setIfInBounds_toArray, List.set_cons_zero, List.set_cons_succ]
        generalize (w1.alloc (.cells #[.int .i64 (-1)] 3)) = w9 at *
        refine wpL_two 4 7 rfl rfl (by kernel_rfl) (by rfl) (by rfl) ?_ ?_
        · intro K hK
          have hmk := HMk.out
          go_simp
          have hal : Below w9.heap.size w9 (w9.alloc (.cells (Array.replicate n (.int .i64 0)) 3)) := (Below.refl _ _).alloc (Nat.le_refl _) _
          have HBw11 : Hid (Below w.heap.size w (w9.alloc (.cells (Array.replicate n (.int .i64 0)) 3))) := HBw9.out.trans (hal.mono HBw9.out.size)
          obtain ⟨g12, hg⟩ : ∃ g, w9.heap.size = g := ⟨_, rfl⟩
          have HKg12 : Hid (Blk (w9.alloc (.cells (Array.replicate n (.int .i64 0)) 3)) g12 (Array.replicate n (.int .i64 0)) 3) := by rw [← hg]; exact Blk.new w9 _ _
          have HGg12 : Hid (g2 < g12 ∧ g10 < g12 ∧ w.heap.size ≤ g12) := by
            have l_g2 := HKg2.out.lt
            have l_g10 := HKg10.out.lt
            have l0 := HBw9.out.size
            show g2 < g12 ∧ g10 < g12 ∧ w.heap.size ≤ g12
            omega
          have HKg2_ : Hid (Blk (w9.alloc (.cells (Array.replicate n (.int .i64 0)) 3)) g2 (Array.replicate n (.int .i64 0)) 3) := HKg2.out.on hal
          clear HKg2
          have HKg2 := HKg2_
          clear HKg2_
          have HKg10_ : Hid (Blk (w9.alloc (.cells (Array.replicate n (.int .i64 0)) 3)) g10 #[.int .i64 (-1)] 3) := HKg10.out.on hal
          clear HKg10
          have HKg10 := HKg10_
          clear HKg10_
          rw [hg]
          clear hal hg hmk
          refine hK.out _ _ (fun _ => trivial) ?_
          clear hK K
          try simp only [Act.put, List.setIfInBounds_toArray, List.set_cons_zero, List.set_cons_succ]
          generalize (w9.alloc (.cells (Array.replicate n (.int .i64 0)) 3)) = w11 at *
          refine wpL_one 7 rfl (by kernel_rfl) (by rfl) ?_
          intro K hK
          have CR : Hid (Calls Tryz.prog 82 #[.slice (some ⟨g10, 0, none⟩) 1 1, .int .i64 (n : Int)] w11 fun e w' => ∃ rb, e = .returned (.slice (some ⟨rb, 0, none⟩) n n) ∧ w11.heap.size ≤ rb ∧ Blk w' rb (Array.replicate n (.int .i64 (-1))) 3 ∧ Below w11.heap.size w11 w') := repeat1_any (-1) n g10 HA.out.2.1 w11 (HKg10.out.cell rfl) HKg10.out.lt
          go_simp
          refine CR.out.mono ?_
          rintro e w13 ⟨g14, rfl, hg1, hg2, hal⟩
          have HBw13 : Hid (Below w.heap.size w w13) := HBw11.out.trans (hal.mono HBw11.out.size)
          have HKg14 : Hid (Blk w13 g14 (Array.replicate n (.int .i64 (-1))) 3) := hg2
          have HGg14 : Hid (g2 < g14 ∧ g10 < g14 ∧ g12 < g14 ∧ w.heap.size ≤ g14) := by
            have l_g2 := HKg2.out.lt
            have l_g10 := HKg10.out.lt
            have l_g12 := HKg12.out.lt
            have l0 := HBw11.out.size
            show g2 < g14 ∧ g10 < g14 ∧ g12 < g14 ∧ w.heap.size ≤ g14
            omega
          have HKg2_ : Hid (Blk w13 g2 (Array.replicate n (.int .i64 0)) 3) := HKg2.out.on hal
          clear HKg2
          have HKg2 := HKg2_
          clear HKg2_
          have HKg10_ : Hid (Blk w13 g10 #[.int .i64 (-1)] 3) := HKg10.out.on hal
          clear HKg10
          have HKg10 := HKg10_
          clear HKg10_
          have HKg12_ : Hid (Blk w13 g12 (Array.replicate n (.int .i64 0)) 3) := HKg12.out.on hal
          clear HKg12
          have HKg12 := HKg12_
          clear HKg12_
          clear hal hg1 hg2 CR
          dsimp only
          refine hK.out _ _ (fun _ => trivial) ?_
          clear hK K
          try simp only [Act.put, List.setIfInBounds_toArray, List.set_cons_zero, List.set_cons_succ]
          refine wpL_take (v := ?_) 8 rfl (by kernel_rfl) (fun _ _ _ h => h) (by rfl) ?_ trivial ?_
          rotate_left
          focus
            intro w9 hw9

            go_simp
            try with_reducible rfl
          try simp only [Act.put, List.setIfInBounds_toArray, List.set_cons_zero, List.set_cons_succ]
          refine wpL_one 9 rfl (by kernel_rfl) (by rfl) ?_
          intro K hK
          go_simp
          refine hK.out _ _ (fun _ => trivial) ?_
          clear hK K
          try simp only [Act.put, List.setIfInBounds_toArray, List.set_cons_zero, List.set_cons_succ]
          refine wpL_one 10 rfl (by kernel_rfl) (by rfl) ?_
          intro K hK
          go_simp
          refine hK.out _ _ (fun _ => trivial) ?_
          clear hK K
          try simp only [Act.put, List.setIfInBounds_toArray, List.set_cons_zero, List.set_cons_succ]
          refine wpL_done (by kernel_rfl) ?_ _
          try simp only [NoPanic]
          have HFin : Hid (PtI (w13.alloc (.cells #[.slice (some ⟨nb, 0, none⟩) n n, .int .i64 0, .slice (some ⟨g2, 0, none⟩) n n, .slice (some ⟨g12, 0, none⟩) n n, .slice none 0 0, .slice (some ⟨g14, 0, none⟩) n n] 124)) w.heap.size ⟨w13.heap.size, g2, g12, g14, .slice (some ⟨nb, 0, none⟩) n n, n⟩ (.slice none 0 0) (pst0 n) ∧ Below w.heap.size w (w13.alloc (.cells #[.slice (some ⟨nb, 0, none⟩) n n, .int .i64 0, .slice (some ⟨g2, 0, none⟩) n n, .slice (some ⟨g12, 0, none⟩) n n, .slice none 0 0, .slice (some ⟨g14, 0, none⟩) n n] 124))) := ⟨PtI.start HKg2.out HKg12.out HKg14.out (by have := HGg2.out; have := HGg12.out; have := HGg14.out; omega) (by have := HGg2.out; have := HGg12.out; have := HGg14.out; omega) (by have := HGg2.out; have := HGg12.out; have := HGg14.out; omega) HBw13.out.size (by have := HGg2.out; have := HBw13.out.size; omega) (by have := HGg12.out; have := HBw13.out.size; omega) (by have := HGg14.out; have := HBw13.out.size; omega), HBw13.out.alloc HBw13.out.size _⟩
          go_wp2_with fail
          go_meet
          exact ⟨_, _, _, _, rfl, HFin.out⟩
        · intro K hK
          have CR : Hid (Calls Tryz.prog 82 #[.slice (some ⟨g10, 0, none⟩) 1 1, .int .i64 (n : Int)] w9 fun e w' => ∃ rb, e = .returned (.slice (some ⟨rb, 0, none⟩) n n) ∧ w9.heap.size ≤ rb ∧ Blk w' rb (Array.replicate n (.int .i64 (-1))) 3 ∧ Below w9.heap.size w9 w') := repeat1_any (-1) n g10 HA.out.2.1 w9 (HKg10.out.cell rfl) HKg10.out.lt
          go_simp
          refine CR.out.mono ?_
          rintro e w15 ⟨g16, rfl, hg1, hg2, hal⟩
          have HBw15 : Hid (Below w.heap.size w w15) := HBw9.out.trans (hal.mono HBw9.out.size)
          have HKg16 : Hid (Blk w15 g16 (Array.replicate n (.int .i64 (-1))) 3) := hg2
          have HGg16 : Hid (g2 < g16 ∧ g10 < g16 ∧ w.heap.size ≤ g16) := by
            have l_g2 := HKg2.out.lt
            have l_g10 := HKg10.out.lt
            have l0 := HBw9.out.size
            show g2 < g16 ∧ g10 < g16 ∧ w.heap.size ≤ g16
            omega
          have HKg2_ : Hid (Blk w15 g2 (Array.replicate n (.int .i64 0)) 3) := HKg2.out.on hal
          clear HKg2
          have HKg2 := HKg2_
          clear HKg2_
          have HKg10_ : Hid (Blk w15 g10 #[.int .i64 (-1)] 3) := HKg10.out.on hal
          clear HKg10
          have HKg10 := HKg10_
          clear HKg10_
          clear hal hg1 hg2 CR
          dsimp only
          refine hK.out _ _ (fun _ => trivial) ?_
          clear hK K
          try simp only [Act.put, List.setIfInBounds_toArray, List.set_cons_zero, List.set_cons_succ]
          refine wpL_one 4 rfl (by kernel_rfl) (by rfl) ?_
          intro K hK
          have hmk := HMk.out
          go_simp
          have hal : Below w15.heap.size w15 (w15.alloc (.cells (Array.replicate n (.int .i64 0)) 3)) := (Below.refl _ _).alloc (Nat.le_refl _) _
          have HBw17 : Hid (Below w.heap.size w (w15.alloc (.cells (Array.replicate n (.int .i64 0)) 3))) := HBw15.out.trans (hal.mono HBw15.out.size)
          obtain ⟨g18, hg⟩ : ∃ g, w15.heap.size = g := ⟨_, rfl⟩
          have HKg18 : Hid (Blk (w15.alloc (.cells (Array.replicate n (.int .i64 0)) 3)) g18 (Array.replicate n (.int .i64 0)) 3) := by rw [← hg]; exact Blk.new w15 _ _
          have HGg18 : Hid (g2 < g18 ∧ g10 < g18 ∧ g16 < g18 ∧ w.heap.size ≤ g18) := by
            have l_g2 := HKg2.out.lt
            have l_g10 := HKg10.out.lt
            have l_g16 := HKg16.out.lt
            have l0 := HBw15.out.size
            show g2 < g18 ∧ g10 < g18 ∧ g16 < g18 ∧ w.heap.size ≤ g18
            omega
          have HKg2_ : Hid (Blk (w15.alloc (.cells (Array.replicate n (.int .i64 0)) 3)) g2 (Array.replicate n (.int .i64 0)) 3) := HKg2.out.on hal
          clear HKg2
          have HKg2 := HKg2_
          clear HKg2_
          have HKg10_ : Hid (Blk (w15.alloc (.cells (Array.replicate n (.int .i64 0)) 3)) g10 #[.int .i64 (-1)] 3) := HKg10.out.on hal
          clear HKg10
          have HKg10 := HKg10_
          clear HKg10_
          have HKg16_ : Hid (Blk (w15.alloc (.cells (Array.replicate n (.int .i64 0)) 3)) g16 (Array.replicate n (.int .i64 (-1))) 3) := HKg16.out.on hal
          clear HKg16
          have HKg16 := HKg16_
          clear HKg16_
          rw [hg]
          clear hal hg hmk
          refine hK.out _ _ (fun _ => trivial) ?_
          clear hK K
          try simp only [Act.put, List.setIfInBounds_toArray, List.set_cons_zero, List.set_cons_succ]
          generalize (w15.alloc (.cells (Array.replicate n (.int .i64 0)) 3)) = w17 at *
          refine wpL_take (v := ?_) 8 rfl (by kernel_rfl) (fun _ _ _ h => h) (by rfl) ?_ trivial ?_
          rotate_left
          focus
            intro w9 hw9

            go_simp
            try with_reducible rfl
          try simp only [Act.put, List.setIfInBounds_toArray, List.set_cons_zero, List.set_cons_succ]
          refine wpL_one 9 rfl (by kernel_rfl) (by rfl) ?_
          intro K hK
          go_simp
          refine hK.out _ _ (fun _ => trivial) ?_
          clear hK K
          try simp only [Act.put, List.setIfInBounds_toArray, List.set_cons_zero, List.set_cons_succ]
          refine wpL_one 10 rfl (by kernel_rfl) (by rfl) ?_
          intro K hK
          go_simp
          refine hK.out _ _ (fun _ => trivial) ?_
          clear hK K
          try simp only [Act.put, List.setIfInBounds_toArray, List.set_cons_zero, List.set_cons_succ]
          refine wpL_done (by kernel_rfl) ?_ _
          try simp only [NoPanic]
          have HFin : Hid (PtI (w17.alloc (.cells #[.slice (some ⟨nb, 0, none⟩) n n, .int .i64 0, .slice (some ⟨g2, 0, none⟩) n n, .slice (some ⟨g18, 0, none⟩) n n, .slice none 0 0, .slice (some ⟨g16, 0, none⟩) n n] 124)) w.heap.size ⟨w17.heap.size, g2, g18, g16, .slice (some ⟨nb, 0, none⟩) n n, n⟩ (.slice none 0 0) (pst0 n) ∧ Below w.heap.size w (w17.alloc (.cells #[.slice (some ⟨nb, 0, none⟩) n n, .int .i64 0, .slice (some ⟨g2, 0, none⟩) n n, .slice (some ⟨g18, 0, none⟩) n n, .slice none 0 0, .slice (some ⟨g16, 0, none⟩) n n] 124))) := ⟨PtI.start HKg2.out HKg18.out HKg16.out (by have := HGg2.out; have := HGg18.out; have := HGg16.out; omega) (by have := HGg2.out; have := HGg18.out; have := HGg16.out; omega) (by have := HGg2.out; have := HGg18.out; have := HGg16.out; omega) HBw17.out.size (by have := HGg2.out; have := HBw17.out.size; omega) (by have := HGg18.out; have := HBw17.out.size; omega) (by have := HGg16.out; have := HBw17.out.size; omega), HBw17.out.alloc HBw17.out.size _⟩
          go_wp2_with fail
          go_meet
          exact ⟨_, _, _, _, rfl, HFin.out⟩
    · intro K hK
      have hmk := HMk.out
      go_simp
      have hal : Below w0.heap.size w0 (w0.alloc (.cells (Array.replicate n (.int .i64 0)) 3)) := (Below.refl _ _).alloc (Nat.le_refl _) _
      have HBw19 : Hid (Below w.heap.size w (w0.alloc (.cells (Array.replicate n (.int .i64 0)) 3))) := HBw0.out.trans (hal.mono HBw0.out.size)
      obtain ⟨g20, hg⟩ : ∃ g, w0.heap.size = g := ⟨_, rfl⟩
      have HKg20 : Hid (Blk (w0.alloc (.cells (Array.replicate n (.int .i64 0)) 3)) g20 (Array.replicate n (.int .i64 0)) 3) := by rw [← hg]; exact Blk.new w0 _ _
      have HGg20 : Hid (w.heap.size ≤ g20) := by
        have l0 := HBw0.out.size
        show w.heap.size ≤ g20
        omega
      rw [hg]
      clear hal hg hmk
      refine hK.out _ _ (fun _ => trivial) ?_
      clear hK K
      try simp only [Act.put, List.setIfInBounds_toArray, List.set_cons_zero, List.set_cons_succ]
      generalize (w0.alloc (.cells (Array.replicate n (.int .i64 0)) 3)) = w19 at *
      refine wpL_two 2 5 rfl rfl (by kernel_rfl) (by rfl) (by rfl) ?_ ?_
      · intro K hK
        have hmk := HMk.out
        go_simp
        have hal : Below w19.heap.size w19 (w19.alloc (.cells (Array.replicate n (.int .i64 0)) 3)) := (Below.refl _ _).alloc (Nat.le_refl _) _
        have HBw21 : Hid (Below w.heap.size w (w19.alloc (.cells (Array.replicate n (.int .i64 0)) 3))) := HBw19.out.trans (hal.mono HBw19.out.size)
        obtain ⟨g22, hg⟩ : ∃ g, w19.heap.size = g := ⟨_, rfl⟩
        have HKg22 : Hid (Blk (w19.alloc (.cells (Array.replicate n (.int .i64 0)) 3)) g22 (Array.replicate n (.int .i64 0)) 3) := by rw [← hg]; exact Blk.new w19 _ _
        have HGg22 : Hid (g20 < g22 ∧ w.heap.size ≤ g22) := by
          have l_g20 := HKg20.out.lt
          have l0 := HBw19.out.size
          show g20 < g22 ∧ w.heap.size ≤ g22
          omega
        have HKg20_ : Hid (Blk (w19.alloc (.cells (Array.replicate n (.int .i64 0)) 3)) g20 (Array.replicate n (.int .i64 0)) 3) := HKg20.out.on hal
        clear HKg20
        have HKg20 := HKg20_
        clear HKg20_
        rw [hg]
        clear hal hg hmk
        refine hK.out _ _ (fun _ => trivial) ?_
        clear hK K
        try simp only [Act.put, List.setIfInBounds_toArray, List.set_cons_zero, List.set_cons_succ]
        generalize (w19.alloc (.cells (Array.replicate n (.int .i64 0)) 3)) = w21 at *
        refine wpL_one 5 rfl (by kernel_rfl) (by rfl) ?_
        intro K hK
        go_simp
        have hal : Below w21.heap.size w21 (w21.alloc (.cells #[.int .i64 (-1)] 3)) := (Below.refl _ _).alloc (Nat.le_refl _) _
        have HBw23 : Hid (Below w.heap.size w (w21.alloc (.cells #[.int .i64 (-1)] 3))) := HBw21.out.trans (hal.mono HBw21.out.size)
        obtain ⟨g24, hg⟩ : ∃ g, w21.heap.size = g := ⟨_, rfl⟩
        have HKg24 : Hid (Blk (w21.alloc (.cells #[.int .i64 (-1)] 3)) g24 #[.int .i64 (-1)] 3) := by rw [← hg]; exact Blk.new w21 _ _
        have HGg24 : Hid (g20 < g24 ∧ g22 < g24 ∧ w.heap.size ≤ g24) := by
          have l_g20 := HKg20.out.lt
          have l_g22 := HKg22.out.lt
          have l0 := HBw21.out.size
          show g20 < g24 ∧ g22 < g24 ∧ w.heap.size ≤ g24
          omega
        have HKg20_ : Hid (Blk (w21.alloc (.cells #[.int .i64 (-1)] 3)) g20 (Array.replicate n (.int .i64 0)) 3) := HKg20.out.on hal
        clear HKg20
        have HKg20 := HKg20_
        clear HKg20_
        have HKg22_ : Hid (Blk (w21.alloc (.cells #[.int .i64 (-1)] 3)) g22 (Array.replicate n (.int .i64 0)) 3) := HKg22.out.on hal
        clear HKg22
        have HKg22 := HKg22_
        clear HKg22_
        rw [hg]
        clear hal hg
        refine hK.out _ _ (fun _ => trivial) ?_
        clear hK K
        try simp only [Act.put, List.setIfInBounds_toArray, List.set_cons_zero, List.set_cons_succ]
        generalize (w21.alloc (.cells #[.int .i64 (-1)] 3)) = w23 at *
        refine wpL_one 7 rfl (by kernel_rfl) (by rfl) ?_
        intro K hK
        have CR : Hid (Calls Tryz.prog 82 #[.slice (some ⟨g24, 0, none⟩) 1 1, .int .i64 (n : Int)] w23 fun e w' => ∃ rb, e = .returned (.slice (some ⟨rb, 0, none⟩) n n) ∧ w23.heap.size ≤ rb ∧ Blk w' rb (Array.replicate n (.int .i64 (-1))) 3 ∧ Below w23.heap.size w23 w') := repeat1_any (-1) n g24 HA.out.2.1 w23 (HKg24.out.cell rfl) HKg24.out.lt
        go_simp
        refine CR.out.mono ?_
        rintro e w25 ⟨g26, rfl, hg1, hg2, hal⟩
        have HBw25 : Hid (Below w.heap.size w w25) := HBw23.out.trans (hal.mono HBw23.out.size)
        have HKg26 : Hid (Blk w25 g26 (Array.replicate n (.int .i64 (-1))) 3) := hg2
        have HGg26 : Hid (g20 < g26 ∧ g22 < g26 ∧ g24 < g26 ∧ w.heap.size ≤ g26) := by
          have l_g20 := HKg20.out.lt
          have l_g22 := HKg22.out.lt
          have l_g24 := HKg24.out.lt
          have l0 := HBw23.out.size
          show g20 < g26 ∧ g22 < g26 ∧ g24 < g26 ∧ w.heap.size ≤ g26
          omega
        have HKg20_ : Hid (Blk w25 g20 (Array.replicate n (.int .i64 0)) 3) := HKg20.out.on hal
        clear HKg20
        have HKg20 := HKg20_
        clear HKg20_
        have HKg22_ : Hid (Blk w25 g22 (Array.replicate n (.int .i64 0)) 3) := HKg22.out.on hal
        clear HKg22
        have HKg22 := HKg22_
        clear HKg22_
        have HKg24_ : Hid (Blk w25 g24 #[.int .i64 (-1)] 3) := HKg24.out.on hal
        clear HKg24
        have HKg24 := HKg24_
        clear HKg24_
        clear hal hg1 hg2 CR
        dsimp only
        refine hK.out _ _ (fun _ => trivial) ?_
        clear hK K
        try simp only [Act.put, List.setIfInBounds_toArray, List.set_cons_zero, List.set_cons_succ]
        refine wpL_take (v := ?_) 8 rfl (by kernel_rfl) (fun _ _ _ h => h) (by rfl) ?_ trivial ?_
        rotate_left
        focus
          intro w9 hw9

          go_simp
          try with_reducible rfl
        try simp only [Act.put, List.setIfInBounds_toArray, List.set_cons_zero, List.set_cons_succ]
        refine wpL_one 9 rfl (by kernel_rfl) (by rfl) ?_
        intro K hK
        go_simp
        refine hK.out _ _ (fun _ => trivial) ?_
        clear hK K
        try simp only [Act.put, List.setIfInBounds_toArray, List.set_cons_zero, List.set_cons_succ]
        refine wpL_one 10 rfl (by kernel_rfl) (by rfl) ?_
        intro K hK
        go_simp
        refine hK.out _ _ (fun _ => trivial) ?_
        clear hK K
        try simp only [Act.put, List.setIfInBounds_toArray, List.set_cons_zero, List.set_cons_succ]
        refine wpL_done (by kernel_rfl) ?_ _
        try simp only [NoPanic]
        have HFin : Hid (PtI (w25.alloc (.cells #[.slice (some ⟨nb, 0, none⟩) n n, .int .i64 0, .slice (some ⟨g22, 0, none⟩) n n, .slice (some ⟨g20, 0, none⟩) n n, .slice none 0 0, .slice (some ⟨g26, 0, none⟩) n n] 124)) w.heap.size ⟨w25.heap.size, g22, g20, g26, .slice (some ⟨nb, 0, none⟩) n n, n⟩ (.slice none 0 0) (pst0 n) ∧ Below w.heap.size w (w25.alloc (.cells #[.slice (some ⟨nb, 0, none⟩) n n, .int .i64 0, .slice (some ⟨g22, 0, none⟩) n n, .slice (some ⟨g20, 0, none⟩) n n, .slice none 0 0, .slice (some ⟨g26, 0, none⟩) n n] 124))) := ⟨PtI.start HKg22.out HKg20.out HKg26.out (by have := HGg22.out; have := HGg20.out; have := HGg26.out; omega) (by have := HGg22.out; have := HGg20.out; have := HGg26.out; omega) (by have := HGg22.out; have := HGg20.out; have := HGg26.out; omega) HBw25.out.size (by have := HGg22.out; have := HBw25.out.size; omega) (by have := HGg20.out; have := HBw25.out.size; omega) (by have := HGg26.out; have := HBw25.out.size; omega), HBw25.out.alloc HBw25.out.size _⟩
        go_wp2_with fail
        go_meet
        exact ⟨_, _, _, _, rfl, HFin.out⟩
      · intro K hK
        go_simp
        have hal : Below w19.heap.size w19 (w19.alloc (.cells #[.int .i64 (-1)] 3)) := (Below.refl _ _).alloc (Nat.le_refl _) _
        have HBw27 : Hid (Below w.heap.size w (w19.alloc (.cells #[.int .i64 (-1)] 3))) := HBw19.out.trans (hal.mono HBw19.out.size)
        obtain ⟨g28, hg⟩ : ∃ g, w19.heap.size = g := ⟨_, rfl⟩
        have HKg28 : Hid (Blk (w19.alloc (.cells #[.int .i64 (-1)] 3)) g28 #[.int .i64 (-1)] 3) := by rw [← hg]; exact Blk.new w19 _ _
        have HGg28 : Hid (g20 < g28 ∧ w.heap.size ≤ g28) := by
          have l_g20 := HKg20.out.lt
          have l0 := HBw19.out.size
          show g20 < g28 ∧ w.heap.size ≤ g28
          omega
        have HKg20_ : Hid (Blk (w19.alloc (.cells #[.int .i64 (-1)] 3)) g20 (Array.replicate n (.int .i64 0)) 3) := HKg20.out.on hal
        clear HKg20
        have HKg20 := HKg20_
        clear HKg20_
        rw [hg]
        clear hal hg
        refine hK.out _ _ (fun _ => trivial) ?_
        clear hK K
        try simp only [Act.put, List.setIfInBounds_toArray, List.set_cons_zero, List.set_cons_succ]
        generalize (w19.alloc (.cells #[.int .i64 (-1)] 3)) = w27 at *
        refine wpL_two 2 7 rfl rfl (by kernel_rfl) (by rfl) (by rfl) ?_ ?_
        · intro K hK
          have hmk := HMk.out
          go_simp
          have hal : Below w27.heap.size w27 (w27.alloc (.cells (Array.replicate n (.int .i64 0)) 3)) := (Below.refl _ _).alloc (Nat.le_refl _) _
          have HBw29 : Hid (Below w.heap.size w (w27.alloc (.cells (Array.replicate n (.int .i64 0)) 3))) := HBw27.out.trans (hal.mono HBw27.out.size)
          obtain ⟨g30, hg⟩ : ∃ g, w27.heap.size = g := ⟨_, rfl⟩
          have HKg30 : Hid (Blk (w27.alloc (.cells (Array.replicate n (.int .i64 0)) 3)) g30 (Array.replicate n (.int .i64 0)) 3) := by rw [← hg]; exact Blk.new w27 _ _
          have HGg30 : Hid (g20 < g30 ∧ g28 < g30 ∧ w.heap.size ≤ g30) := by
            have l_g20 := HKg20.out.lt
            have l_g28 := HKg28.out.lt
            have l0 := HBw27.out.size
            show g20 < g30 ∧ g28 < g30 ∧ w.heap.size ≤ g30
            omega
          have HKg20_ : Hid (Blk (w27.alloc (.cells (Array.replicate n (.int .i64 0)) 3)) g20 (Array.replicate n (.int .i64 0)) 3) := HKg20.out.on hal
          clear HKg20
          have HKg20 := HKg20_
          clear HKg20_
          have HKg28_ : Hid (Blk (w27.alloc (.cells (Array.replicate n (.int .i64 0)) 3)) g28 #[.int .i64 (-1)] 3) := HKg28.out.on hal
          clear HKg28
          have HKg28 := HKg28_
          clear HKg28_
          rw [hg]
          clear hal hg hmk
          refine hK.out _ _ (fun _ => trivial) ?_
          clear hK K
          try simp only [Act.put, List.setIfInBounds_toArray, List.set_cons_zero, List.set_cons_succ]
          generalize (w27.alloc (.cells (Array.replicate n (.int .i64 0)) 3)) = w29 at *
          refine wpL_one 7 rfl (by kernel_rfl) (by rfl) ?_
          intro K hK
          have CR : Hid (Calls Tryz.prog 82 #[.slice (some ⟨g28, 0, none⟩) 1 1, .int .i64 (n : Int)] w29 fun e w' => ∃ rb, e = .returned (.slice (some ⟨rb, 0, none⟩) n n) ∧ w29.heap.size ≤ rb ∧ Blk w' rb (Array.replicate n (.int .i64 (-1))) 3 ∧ Below w29.heap.size w29 w') := repeat1_any (-1) n g28 HA.out.2.1 w29 (HKg28.out.cell rfl) HKg28.out.lt
          go_simp
          refine CR.out.mono ?_
          rintro e w31 ⟨g32, rfl, hg1, hg2, hal⟩
          have HBw31 : Hid (Below w.heap.size w w31) := HBw29.out.trans (hal.mono HBw29.out.size)
          have HKg32 : Hid (Blk w31 g32 (Array.replicate n (.int .i64 (-1))) 3) := hg2
          have HGg32 : Hid (g20 < g32 ∧ g28 < g32 ∧ g30 < g32 ∧ w.heap.size ≤ g32) := by
            have l_g20 := HKg20.out.lt
            have l_g28 := HKg28.out.lt
            have l_g30 := HKg30.out.lt
            have l0 := HBw29.out.size
            show g20 < g32 ∧ g28 < g32 ∧ g30 < g32 ∧ w.heap.size ≤ g32
            omega
          have HKg20_ : Hid (Blk w31 g20 (Array.replicate n (.int .i64 0)) 3) := HKg20.out.on hal
          clear HKg20
          have HKg20 := HKg20_
          clear HKg20_
          have HKg28_ : Hid (Blk w31 g28 #[.int .i64 (-1)] 3) := HKg28.out.on hal
          clear HKg28
          have HKg28 := HKg28_
          clear HKg28_
          have HKg30_ : Hid (Blk w31 g30 (Array.replicate n (.int .i64 0)) 3) := HKg30.out.on hal
          clear HKg30
          have HKg30 := HKg30_
          clear HKg30_
          clear hal hg1 hg2 CR
          dsimp only
          refine hK.out _ _ (fun _ => trivial) ?_
          clear hK K
          try simp only [Act.put, List.setIfInBounds_toArray, List.set_cons_zero, List.set_cons_succ]
          refine wpL_take (v := ?_) 8 rfl (by kernel_rfl) (fun _ _ _ h => h) (by rfl) ?_ trivial ?_
          rotate_left
          focus
            intro w9 hw9

            go_simp
            try with_reducible rfl
          try simp only [Act.put, List.setIfInBounds_toArray, List.set_cons_zero, List.set_cons_succ]
          refine wpL_one 9 rfl (by kernel_rfl) (by rfl) ?_
          intro K hK
          go_simp
          refine hK.out _ _ (fun _ => trivial) ?_
          clear hK K
          try simp only [Act.put, List.setIfInBounds_toArray, List.set_cons_zero, List.set_cons_succ]
          refine wpL_one 10 rfl (by kernel_rfl) (by rfl) ?_
          intro K hK
          go_simp
          refine hK.out _ _ (fun _ => trivial) ?_
          clear hK K
          try simp only [Act.put, List.setIfInBounds_toArray, List.set_cons_zero, List.set_cons_succ]
          refine wpL_done (by kernel_rfl) ?_ _
          try simp only [NoPanic]
          have HFin : Hid (PtI (w31.alloc (.cells #[.slice (some ⟨nb, 0, none⟩) n n, .int .i64 0, .slice (some ⟨g30, 0, none⟩) n n, .slice (some ⟨g20, 0, none⟩) n n, .slice none 0 0, .slice (some ⟨g32, 0, none⟩) n n] 124)) w.heap.size ⟨w31.heap.size, g30, g20, g32, .slice (some ⟨nb, 0, none⟩) n n, n⟩ (.slice none 0 0) (pst0 n) ∧ Below w.heap.size w (w31.alloc (.cells #[.slice (some ⟨nb, 0, none⟩) n n, .int .i64 0, .slice (some ⟨g30, 0, none⟩) n n, .slice (some ⟨g20, 0, none⟩) n n, .slice none 0 0, .slice (some ⟨g32, 0, none⟩) n n] 124))) := ⟨PtI.start HKg30.out HKg20.out HKg32.out (by have := HGg30.out; have := HGg20.out; have := HGg32.out; omega) (by have := HGg30.out; have := HGg20.out; have := HGg32.out; omega) (by have := HGg30.out; have := HGg20.out; have := HGg32.out; omega) HBw31.out.size (by have := HGg30.out; have := HBw31.out.size; omega) (by have := HGg20.out; have := HBw31.out.size; omega) (by have := HGg32.out; have := HBw31.out.size; omega), HBw31.out.alloc HBw31.out.size _⟩
          go_wp2_with fail
          go_meet
          exact ⟨_, _, _, _, rfl, HFin.out⟩
        · intro K hK
          have CR : Hid (Calls Tryz.prog 82 #[.slice (some ⟨g28, 0, none⟩) 1 1, .int .i64 (n : Int)] w27 fun e w' => ∃ rb, e = .returned (.slice (some ⟨rb, 0, none⟩) n n) ∧ w27.heap.size ≤ rb ∧ Blk w' rb (Array.replicate n (.int .i64 (-1))) 3 ∧ Below w27.heap.size w27 w') := repeat1_any (-1) n g28 HA.out.2.1 w27 (HKg28.out.cell rfl) HKg28.out.lt
          go_simp
          refine CR.out.mono ?_
          rintro e w33 ⟨g34, rfl, hg1, hg2, hal⟩
          have HBw33 : Hid (Below w.heap.size w w33) := HBw27.out.trans (hal.mono HBw27.out.size)
          have HKg34 : Hid (Blk w33 g34 (Array.replicate n (.int .i64 (-1))) 3) := hg2
          have HGg34 : Hid (g20 < g34 ∧ g28 < g34 ∧ w.heap.size ≤ g34) := by
            have l_g20 := HKg20.out.lt
            have l_g28 := HKg28.out.lt
            have l0 := HBw27.out.size
            show g20 < g34 ∧ g28 < g34 ∧ w.heap.size ≤ g34
            omega
          have HKg20_ : Hid (Blk w33 g20 (Array.replicate n (.int .i64 0)) 3) := HKg20.out.on hal
          clear HKg20
          have HKg20 := HKg20_
          clear HKg20_
          have HKg28_ : Hid (Blk w33 g28 #[.int .i64 (-1)] 3) := HKg28.out.on hal
          clear HKg28
          have HKg28 := HKg28_
          clear HKg28_
          clear hal hg1 hg2 CR
          dsimp only
          refine hK.out _ _ (fun _ => trivial) ?_
          clear hK K
          try simp only [Act.put, List.setIfInBounds_toArray, List.set_cons_zero, List.set_cons_succ]
          refine wpL_one 2 rfl (by kernel_rfl) (by rfl) ?_
          intro K hK
          have hmk := HMk.out
          go_simp
          have hal : Below w33.heap.size w33 (w33.alloc (.cells (Array.replicate n (.int .i64 0)) 3)) := (Below.refl _ _).alloc (Nat.le_refl _) _
          have HBw35 : Hid (Below w.heap.size w (w33.alloc (.cells (Array.replicate n (.int .i64 0)) 3))) := HBw33.out.trans (hal.mono HBw33.out.size)
          obtain ⟨g36, hg⟩ : ∃ g, w33.heap.size = g := ⟨_, rfl⟩
          have HKg36 : Hid (Blk (w33.alloc (.cells (Array.replicate n (.int .i64 0)) 3)) g36 (Array.replicate n (.int .i64 0)) 3) := by rw [← hg]; exact Blk.new w33 _ _
          have HGg36 : Hid (g20 < g36 ∧ g28 < g36 ∧ g34 < g36 ∧ w.heap.size ≤ g36) := by
            have l_g20 := HKg20.out.lt
            have l_g28 := HKg28.out.lt
            have l_g34 := HKg34.out.lt
            have l0 := HBw33.out.size
            show g20 < g36 ∧ g28 < g36 ∧ g34 < g36 ∧ w.heap.size ≤ g36
            omega
          have HKg20_ : Hid (Blk (w33.alloc (.cells (Array.replicate n (.int .i64 0)) 3)) g20 (Array.replicate n (.int .i64 0)) 3) := HKg20.out.on hal
          clear HKg20
          have HKg20 := HKg20_
          clear HKg20_
          have HKg28_ : Hid (Blk (w33.alloc (.cells (Array.replicate n (.int .i64 0)) 3)) g28 #[.int .i64 (-1)] 3) := HKg28.out.on hal
          clear HKg28
          have HKg28 := HKg28_
          clear HKg28_
          have HKg34_ : Hid (Blk (w33.alloc (.cells (Array.replicate n (.int .i64 0)) 3)) g34 (Array.replicate n (.int .i64 (-1))) 3) := HKg34.out.on hal
          clear HKg34
          have HKg34 := HKg34_
          clear HKg34_
          rw [hg]
          clear hal hg hmk
          refine hK.out _ _ (fun _ => trivial) ?_
          clear hK K
          try simp only [Act.put, List.setIfInBounds_toArray, List.set_cons_zero, List.set_cons_succ]
          generalize (w33.alloc (.cells (Array.replicate n (.int .i64 0)) 3)) = w35 at *
          refine wpL_take (v := ?_) 8 rfl (by kernel_rfl) (fun _ _ _ h => h) (by rfl) ?_ trivial ?_
          rotate_left
          focus
            intro w9 hw9

            go_simp
            try with_reducible rfl
          try simp only [Act.put, List.setIfInBounds_toArray, List.set_cons_zero, List.set_cons_succ]
          refine wpL_one 9 rfl (by kernel_rfl) (by rfl) ?_
          intro K hK
          go_simp
          refine hK.out _ _ (fun _ => trivial) ?_
          clear hK K
          try simp only [Act.put, List.setIfInBounds_toArray, List.set_cons_zero, List.set_cons_succ]
          refine wpL_one 10 rfl (by kernel_rfl) (by rfl) ?_
          intro K hK
          go_simp
          refine hK.out _ _ (fun _ => trivial) ?_
          clear hK K
          try simp only [Act.put, List.setIfInBounds_toArray, List.set_cons_zero, List.set_cons_succ]
          refine wpL_done (by kernel_rfl) ?_ _
          try simp only [NoPanic]
          have HFin : Hid (PtI (w35.alloc (.cells #[.slice (some ⟨nb, 0, none⟩) n n, .int .i64 0, .slice (some ⟨g36, 0, none⟩) n n, .slice (some ⟨g20, 0, none⟩) n n, .slice none 0 0, .slice (some ⟨g34, 0, none⟩) n n] 124)) w.heap.size ⟨w35.heap.size, g36, g20, g34, .slice (some ⟨nb, 0, none⟩) n n, n⟩ (.slice none 0 0) (pst0 n) ∧ Below w.heap.size w (w35.alloc (.cells #[.slice (some ⟨nb, 0, none⟩) n n, .int .i64 0, .slice (some ⟨g36, 0, none⟩) n n, .slice (some ⟨g20, 0, none⟩) n n, .slice none 0 0, .slice (some ⟨g34, 0, none⟩) n n] 124))) := ⟨PtI.start HKg36.out HKg20.out HKg34.out (by have := HGg36.out; have := HGg20.out; have := HGg34.out; omega) (by have := HGg36.out; have := HGg20.out; have := HGg34.out; omega) (by have := HGg36.out; have := HGg20.out; have := HGg34.out; omega) HBw35.out.size (by have := HGg36.out; have := HBw35.out.size; omega) (by have := HGg20.out; have := HBw35.out.size; omega) (by have := HGg34.out; have := HBw35.out.size; omega), HBw35.out.alloc HBw35.out.size _⟩
          go_wp2_with fail
          go_meet
          exact ⟨_, _, _, _, rfl, HFin.out⟩
    · intro K hK
      go_simp
      have hal : Below w0.heap.size w0 (w0.alloc (.cells #[.int .i64 (-1)] 3)) := (Below.refl _ _).alloc (Nat.le_refl _) _
      have HBw37 : Hid (Below w.heap.size w (w0.alloc (.cells #[.int .i64 (-1)] 3))) := HBw0.out.trans (hal.mono HBw0.out.size)
      obtain ⟨g38, hg⟩ : ∃ g, w0.heap.size = g := ⟨_, rfl⟩
      have HKg38 : Hid (Blk (w0.alloc (.cells #[.int .i64 (-1)] 3)) g38 #[.int .i64 (-1)] 3) := by rw [← hg]; exact Blk.new w0 _ _
      have HGg38 : Hid (w.heap.size ≤ g38) := by
        have l0 := HBw0.out.size
        show w.heap.size ≤ g38
        omega
      rw [hg]
      clear hal hg
      refine hK.out _ _ (fun _ => trivial) ?_
      clear hK K
      try simp only [Act.put, List.setIfInBounds_toArray, List.set_cons_zero, List.set_cons_succ]
      generalize (w0.alloc (.cells #[.int .i64 (-1)] 3)) = w37 at *
      refine wpL_three 2 4 7 rfl rfl rfl (by kernel_rfl) (by rfl) (by rfl) (by rfl) ?_ ?_ ?_
      · intro K hK
        have hmk := HMk.out
        go_simp
        have hal : Below w37.heap.size w37 (w37.alloc (.cells (Array.replicate n (.int .i64 0)) 3)) := (Below.refl _ _).alloc (Nat.le_refl _) _
        have HBw39 : Hid (Below w.heap.size w (w37.alloc (.cells (Array.replicate n (.int .i64 0)) 3))) := HBw37.out.trans (hal.mono HBw37.out.size)
        obtain ⟨g40, hg⟩ : ∃ g, w37.heap.size = g := ⟨_, rfl⟩
        have HKg40 : Hid (Blk (w37.alloc (.cells (Array.replicate n (.int .i64 0)) 3)) g40 (Array.replicate n (.int .i64 0)) 3) := by rw [← hg]; exact Blk.new w37 _ _
        have HGg40 : Hid (g38 < g40 ∧ w.heap.size ≤ g40) := by
          have l_g38 := HKg38.out.lt
          have l0 := HBw37.out.size
          show g38 < g40 ∧ w.heap.size ≤ g40
          omega
        have HKg38_ : Hid (Blk (w37.alloc (.cells (Array.replicate n (.int .i64 0)) 3)) g38 #[.int .i64 (-1)] 3) := HKg38.out.on hal
        clear HKg38
        have HKg38 := HKg38_
        clear HKg38_
        rw [hg]
        clear hal hg hmk
        refine hK.out _ _ (fun _ => trivial) ?_
        clear hK K
        try simp only [Act.put, List.setIfInBounds_toArray, List.set_cons_zero, List.set_cons_succ]
        generalize (w37.alloc (.cells (Array.replicate n (.int .i64 0)) 3)) = w39 at *
        refine wpL_two 4 7 rfl rfl (by kernel_rfl) (by rfl) (by rfl) ?_ ?_
        · intro K hK
          have hmk := HMk.out
          go_simp
          have hal : Below w39.heap.size w39 (w39.alloc (.cells (Array.replicate n (.int .i64 0)) 3)) := (Below.refl _ _).alloc (Nat.le_refl _) _
          have HBw41 : Hid (Below w.heap.size w (w39.alloc (.cells (Array.replicate n (.int .i64 0)) 3))) := HBw39.out.trans (hal.mono HBw39.out.size)
          obtain ⟨g42, hg⟩ : ∃ g, w39.heap.size = g := ⟨_, rfl⟩
          have HKg42 : Hid (Blk (w39.alloc (.cells (Array.replicate n (.int .i64 0)) 3)) g42 (Array.replicate n (.int .i64 0)) 3) := by rw [← hg]; exact Blk.new w39 _ _
          have HGg42 : Hid (g38 < g42 ∧ g40 < g42 ∧ w.heap.size ≤ g42) := by
            have l_g38 := HKg38.out.lt
            have l_g40 := HKg40.out.lt
            have l0 := HBw39.out.size
            show g38 < g42 ∧ g40 < g42 ∧ w.heap.size ≤ g42
            omega
          have HKg38_ : Hid (Blk (w39.alloc (.cells (Array.replicate n (.int .i64 0)) 3)) g38 #[.int .i64 (-1)] 3) := HKg38.out.on hal
          clear HKg38
          have HKg38 := HKg38_
          clear HKg38_
          have HKg40_ : Hid (Blk (w39.alloc (.cells (Array.replicate n (.int .i64 0)) 3)) g40 (Array.replicate n (.int .i64 0)) 3) := HKg40.out.on hal
          clear HKg40
          have HKg40 := HKg40_
          clear HKg40_
          rw [hg]
          clear hal hg hmk
          refine hK.out _ _ (fun _ => trivial) ?_
          clear hK K
          try simp only [Act.put, List.setIfInBounds_toArray, List.set_cons_zero, List.set_cons_succ]
          generalize (w39.alloc (.cells (Array.replicate n (.int .i64 0)) 3)) = w41 at *
          refine wpL_one 7 rfl (by kernel_rfl) (by rfl) ?_
          intro K hK
          have CR : Hid (Calls Tryz.prog 82 #[.slice (some ⟨g38, 0, none⟩) 1 1, .int .i64 (n : Int)] w41 fun e w' => ∃ rb, e = .returned (.slice (some ⟨rb, 0, none⟩) n n) ∧ w41.heap.size ≤ rb ∧ Blk w' rb (Array.replicate n (.int .i64 (-1))) 3 ∧ Below w41.heap.size w41 w') := repeat1_any (-1) n g38 HA.out.2.1 w41 (HKg38.out.cell rfl) HKg38.out.lt
          go_simp
          refine CR.out.mono ?_
          rintro e w43 ⟨g44, rfl, hg1, hg2, hal⟩
          have HBw43 : Hid (Below w.heap.size w w43) := HBw41.out.trans (hal.mono HBw41.out.size)
          have HKg44 : Hid (Blk w43 g44 (Array.replicate n (.int .i64 (-1))) 3) := hg2
          have HGg44 : Hid (g38 < g44 ∧ g40 < g44 ∧ g42 < g44 ∧ w.heap.size ≤ g44) := by
            have l_g38 := HKg38.out.lt
            have l_g40 := HKg40.out.lt
            have l_g42 := HKg42.out.lt
            have l0 := HBw41.out.size
            show g38 < g44 ∧ g40 < g44 ∧ g42 < g44 ∧ w.heap.size ≤ g44
            omega
          have HKg38_ : Hid (Blk w43 g38 #[.int .i64 (-1)] 3) := HKg38.out.on hal
          clear HKg38
          have HKg38 := HKg38_
          clear HKg38_
          have HKg40_ : Hid (Blk w43 g40 (Array.replicate n (.int .i64 0)) 3) := HKg40.out.on hal
          clear HKg40
          have HKg40 := HKg40_
          clear HKg40_
          have HKg42_ : Hid (Blk w43 g42 (Array.replicate n (.int .i64 0)) 3) := HKg42.out.on hal
          clear HKg42
          have HKg42 := HKg42_
          clear HKg42_
          clear hal hg1 hg2 CR
          dsimp only
          refine hK.out _ _ (fun _ => trivial) ?_
          clear hK K
          try simp only [Act.put, List.setIfInBounds_toArray, List.set_cons_zero, List.set_cons_succ]
          refine wpL_take (v := ?_) 8 rfl (by kernel_rfl) (fun _ _ _ h => h) (by rfl) ?_ trivial ?_
          rotate_left
          focus
            intro w9 hw9

            go_simp
            try with_reducible rfl
          try simp only [Act.put, List.setIfInBounds_toArray, List.set_cons_zero, List.set_cons_succ]
          refine wpL_one 9 rfl (by kernel_rfl) (by rfl) ?_
          intro K hK
          go_simp
          refine hK.out _ _ (fun _ => trivial) ?_
          clear hK K
          try simp only [Act.put, List.setIfInBounds_toArray, List.set_cons_zero, List.set_cons_succ]
          refine wpL_one 10 rfl (by kernel_rfl) (by rfl) ?_
          intro K hK
          go_simp
          refine hK.out _ _ (fun _ => trivial) ?_
          clear hK K
          try simp only [Act.put, List.setIfInBounds_toArray, List.set_cons_zero, List.set_cons_succ]
          refine wpL_done (by kernel_rfl) ?_ _
          try simp only [NoPanic]
          have HFin : Hid (PtI (w43.alloc (.cells #[.slice (some ⟨nb, 0, none⟩) n n, .int .i64 0, .slice (some ⟨g40, 0, none⟩) n n, .slice (some ⟨g42, 0, none⟩) n n, .slice none 0 0, .slice (some ⟨g44, 0, none⟩) n n] 124)) w.heap.size ⟨w43.heap.size, g40, g42, g44, .slice (some ⟨nb, 0, none⟩) n n, n⟩ (.slice none 0 0) (pst0 n) ∧ Below w.heap.size w (w43.alloc (.cells #[.slice (some ⟨nb, 0, none⟩) n n, .int .i64 0, .slice (some ⟨g40, 0, none⟩) n n, .slice (some ⟨g42, 0, none⟩) n n, .slice none 0 0, .slice (some ⟨g44, 0, none⟩) n n] 124))) := ⟨PtI.start HKg40.out HKg42.out HKg44.out (by have := HGg40.out; have := HGg42.out; have := HGg44.out; omega) (by have := HGg40.out; have := HGg42.out; have := HGg44.out; omega) (by have := HGg40.out; have := HGg42.out; have := HGg44.out; omega) HBw43.out.size (by have := HGg40.out; have := HBw43.out.size; omega) (by have := HGg42.out; have := HBw43.out.size; omega) (by have := HGg44.out; have := HBw43.out.size; omega), HBw43.out.alloc HBw43.out.size _⟩
          go_wp2_with fail
          go_meet
          exact ⟨_, _, _, _, rfl, HFin.out⟩
        · intro K hK
          have CR : Hid (Calls Tryz.prog 82 #[.slice (some ⟨g38, 0, none⟩) 1 1, .int .i64 (n : Int)] w39 fun e w' => ∃ rb, e = .returned (.slice (some ⟨rb, 0, none⟩) n n) ∧ w39.heap.size ≤ rb ∧ Blk w' rb (Array.replicate n (.int .i64 (-1))) 3 ∧ Below w39.heap.size w39 w') := repeat1_any (-1) n g38 HA.out.2.1 w39 (HKg38.out.cell rfl) HKg38.out.lt
          go_simp
          refine CR.out.mono ?_
          rintro e w45 ⟨g46, rfl, hg1, hg2, hal⟩
          have HBw45 : Hid (Below w.heap.size w w45) := HBw39.out.trans (hal.mono HBw39.out.size)
          have HKg46 : Hid (Blk w45 g46 (Array.replicate n (.int .i64 (-1))) 3) := hg2
          have HGg46 : Hid (g38 < g46 ∧ g40 < g46 ∧ w.heap.size ≤ g46) := by
            have l_g38 := HKg38.out.lt
            have l_g40 := HKg40.out.lt
            have l0 := HBw39.out.size
            show g38 < g46 ∧ g40 < g46 ∧ w.heap.size ≤ g46
            omega
          have HKg38_ : Hid (Blk w45 g38 #[.int .i64 (-1)] 3) := HKg38.out.on hal
          clear HKg38
          have HKg38 := HKg38_
          clear HKg38_
          have HKg40_ : Hid (Blk w45 g40 (Array.replicate n (.int .i64 0)) 3) := HKg40.out.on hal
          clear HKg40
          have HKg40 := HKg40_
          clear HKg40_
          clear hal hg1 hg2 CR
          dsimp only
          refine hK.out _ _ (fun _ => trivial) ?_
          clear hK K
          try simp only [Act.put, List.setIfInBounds_toArray, List.set_cons_zero, List.set_cons_succ]
          refine wpL_one 4 rfl (by kernel_rfl) (by rfl) ?_
          intro K hK
          have hmk := HMk.out
          go_simp
          have hal : Below w45.heap.size w45 (w45.alloc (.cells (Array.replicate n (.int .i64 0)) 3)) := (Below.refl _ _).alloc (Nat.le_refl _) _
          have HBw47 : Hid (Below w.heap.size w (w45.alloc (.cells (Array.replicate n (.int .i64 0)) 3))) := HBw45.out.trans (hal.mono HBw45.out.size)
          obtain ⟨g48, hg⟩ : ∃ g, w45.heap.size = g := ⟨_, rfl⟩
          have HKg48 : Hid (Blk (w45.alloc (.cells (Array.replicate n (.int .i64 0)) 3)) g48 (Array.replicate n (.int .i64 0)) 3) := by rw [← hg]; exact Blk.new w45 _ _
          have HGg48 : Hid (g38 < g48 ∧ g40 < g48 ∧ g46 < g48 ∧ w.heap.size ≤ g48) := by
            have l_g38 := HKg38.out.lt
            have l_g40 := HKg40.out.lt
            have l_g46 := HKg46.out.lt
            have l0 := HBw45.out.size
            show g38 < g48 ∧ g40 < g48 ∧ g46 < g48 ∧ w.heap.size ≤ g48
            omega
          have HKg38_ : Hid (Blk (w45.alloc (.cells (Array.replicate n (.int .i64 0)) 3)) g38 #[.int .i64 (-1)] 3) := HKg38.out.on hal
          clear HKg38
          have HKg38 := HKg38_
          clear HKg38_
          have HKg40_ : Hid (Blk (w45.alloc (.cells (Array.replicate n (.int .i64 0)) 3)) g40 (Array.replicate n (.int .i64 0)) 3) := HKg40.out.on hal
          clear HKg40
          have HKg40 := HKg40_
          clear HKg40_
          have HKg46_ : Hid (Blk (w45.alloc (.cells (Array.replicate n (.int .i64 0)) 3)) g46 (Array.replicate n (.int .i64 (-1))) 3) := HKg46.out.on hal
          clear HKg46
          have HKg46 := HKg46_
          clear HKg46_
          rw [hg]
          clear hal hg hmk
          refine hK.out _ _ (fun _ => trivial) ?_
          clear hK K
          try simp only [Act.put, List.setIfInBounds_toArray, List.set_cons_zero, List.set_cons_succ]
          generalize (w45.alloc (.cells (Array.replicate n (.int .i64 0)) 3)) = w47 at *
          refine wpL_take (v := ?_) 8 rfl (by kernel_rfl) (fun _ _ _ h => h) (by rfl) ?_ trivial ?_
          rotate_left
          focus
            intro w9 hw9

            go_simp
            try with_reducible rfl
          try simp only [Act.put, List.setIfInBounds_toArray, List.set_cons_zero, List.set_cons_succ]
          refine wpL_one 9 rfl (by kernel_rfl) (by rfl) ?_
          intro K hK
          go_simp
          refine hK.out _ _ (fun _ => trivial) ?_
          clear hK K
          try simp only [Act.put, List.setIfInBounds_toArray, List.set_cons_zero, List.set_cons_succ]
          refine wpL_one 10 rfl (by kernel_rfl) (by rfl) ?_
          intro K hK
          go_simp
          refine hK.out _ _ (fun _ => trivial) ?_
          clear hK K
          try simp only [Act.put, List.setIfInBounds_toArray, List.set_cons_zero, List.set_cons_succ]
          refine wpL_done (by kernel_rfl) ?_ _
          try simp only [NoPanic]
          have HFin : Hid (PtI (w47.alloc (.cells #[.slice (some ⟨nb, 0, none⟩) n n, .int .i64 0, .slice (some ⟨g40, 0, none⟩) n n, .slice (some ⟨g48, 0, none⟩) n n, .slice none 0 0, .slice (some ⟨g46, 0, none⟩) n n] 124)) w.heap.size ⟨w47.heap.size, g40, g48, g46, .slice (some ⟨nb, 0, none⟩) n n, n⟩ (.slice none 0 0) (pst0 n) ∧ Below w.heap.size w (w47.alloc (.cells #[.slice (some ⟨nb, 0, none⟩) n n, .int .i64 0, .slice (some ⟨g40, 0, none⟩) n n, .slice (some ⟨g48, 0, none⟩) n n, .slice none 0 0, .slice (some ⟨g46, 0, none⟩) n n] 124))) := ⟨PtI.start HKg40.out HKg48.out HKg46.out (by have := HGg40.out; have := HGg48.out; have := HGg46.out; omega) (by have := HGg40.out; have := HGg48.out; have := HGg46.out; omega) (by have := HGg40.out; have := HGg48.out; have := HGg46.out; omega) HBw47.out.size (by have := HGg40.out; have := HBw47.out.size; omega) (by have := HGg48.out; have := HBw47.out.size; omega) (by have := HGg46.out; have := HBw47.out.size; omega), HBw47.out.alloc HBw47.out.size _⟩
          go_wp2_with fail
          go_meet
          exact ⟨_, _, _, _, rfl, HFin.out⟩
      · intro K hK
        have hmk := HMk.out
        go_simp
        have hal : Below w37.heap.size w37 (w37.alloc (.cells (Array.replicate n (.int .i64 0)) 3)) := (Below.refl _ _).alloc (Nat.le_refl _) _
        have HBw49 : Hid (Below w.heap.size w (w37.alloc (.cells (Array.replicate n (.int .i64 0)) 3))) := HBw37.out.trans (hal.mono HBw37.out.size)
        obtain ⟨g50, hg⟩ : ∃ g, w37.heap.size = g := ⟨_, rfl⟩
        have HKg50 : Hid (Blk (w37.alloc (.cells (Array.replicate n (.int .i64 0)) 3)) g50 (Array.replicate n (.int .i64 0)) 3) := by rw [← hg]; exact Blk.new w37 _ _
        have HGg50 : Hid (g38 < g50 ∧ w.heap.size ≤ g50) := by
          have l_g38 := HKg38.out.lt
          have l0 := HBw37.out.size
          show g38 < g50 ∧ w.heap.size ≤ g50
          omega
        have HKg38_ : Hid (Blk (w37.alloc (.cells (Array.replicate n (.int .i64 0)) 3)) g38 #[.int .i64 (-1)] 3) := HKg38.out.on hal
        clear HKg38
        have HKg38 := HKg38_
        clear HKg38_
        rw [hg]
        clear hal hg hmk
        refine hK.out _ _ (fun _ => trivial) ?_
        clear hK K
        try simp only [Act.put, List.setIfInBounds_toArray, List.set_cons_zero, List.set_cons_succ]
        generalize (w37.alloc (.cells (Array.replicate n (.int .i64 0)) 3)) = w49 at *
        refine wpL_two 2 7 rfl rfl (by kernel_rfl) (by rfl) (by rfl) ?_ ?_
        · intro K hK
          have hmk := HMk.out
          go_simp
          have hal : Below w49.heap.size w49 (w49.alloc (.cells (Array.replicate n (.int .i64 0)) 3)) := (Below.refl _ _).alloc (Nat.le_refl _) _
          have HBw51 : Hid (Below w.heap.size w (w49.alloc (.cells (Array.replicate n (.int .i64 0)) 3))) := HBw49.out.trans (hal.mono HBw49.out.size)
          obtain ⟨g52, hg⟩ : ∃ g, w49.heap.size = g := ⟨_, rfl⟩
          have HKg52 : Hid (Blk (w49.alloc (.cells (Array.replicate n (.int .i64 0)) 3)) g52 (Array.replicate n (.int .i64 0)) 3) := by rw [← hg]; exact Blk.new w49 _ _
          have HGg52 : Hid (g38 < g52 ∧ g50 < g52 ∧ w.heap.size ≤ g52) := by
            have l_g38 := HKg38.out.lt
            have l_g50 := HKg50.out.lt
            have l0 := HBw49.out.size
            show g38 < g52 ∧ g50 < g52 ∧ w.heap.size ≤ g52
            omega
          have HKg38_ : Hid (Blk (w49.alloc (.cells (Array.replicate n (.int .i64 0)) 3)) g38 #[.int .i64 (-1)] 3) := HKg38.out.on hal
          clear HKg38
          have HKg38 := HKg38_
          clear HKg38_
          have HKg50_ : Hid (Blk (w49.alloc (.cells (Array.replicate n (.int .i64 0)) 3)) g50 (Array.replicate n (.int .i64 0)) 3) := HKg50.out.on hal
          clear HKg50
          have HKg50 := HKg50_
          clear HKg50_
          rw [hg]
          clear hal hg hmk
          refine hK.out _ _ (fun _ => trivial) ?_
          clear hK K
          try simp only [Act.put, List.setIfInBounds_toArray, List.set_cons_zero, List.set_cons_succ]
          generalize (w49.alloc (.cells (Array.replicate n (.int .i64 0)) 3)) = w51 at *
          refine wpL_one 7 rfl (by kernel_rfl) (by rfl) ?_
          intro K hK
          have CR : Hid (Calls Tryz.prog 82 #[.slice (some ⟨g38, 0, none⟩) 1 1, .int .i64 (n : Int)] w51 fun e w' => ∃ rb, e = .returned (.slice (some ⟨rb, 0, none⟩) n n) ∧ w51.heap.size ≤ rb ∧ Blk w' rb (Array.replicate n (.int .i64 (-1))) 3 ∧ Below w51.heap.size w51 w') := repeat1_any (-1) n g38 HA.out.2.1 w51 (HKg38.out.cell rfl) HKg38.out.lt
          go_simp
          refine CR.out.mono ?_
          rintro e w53 ⟨g54, rfl, hg1, hg2, hal⟩
          have HBw53 : Hid (Below w.heap.size w w53) := HBw51.out.trans (hal.mono HBw51.out.size)
          have HKg54 : Hid (Blk w53 g54 (Array.replicate n (.int .i64 (-1))) 3) := hg2
          have HGg54 : Hid (g38 < g54 ∧ g50 < g54 ∧ g52 < g54 ∧ w.heap.size ≤ g54) := by
            have l_g38 := HKg38.out.lt
            have l_g50 := HKg50.out.lt
            have l_g52 := HKg52.out.lt
            have l0 := HBw51.out.size
            show g38 < g54 ∧ g50 < g54 ∧ g52 < g54 ∧ w.heap.size ≤ g54
            omega
          have HKg38_ : Hid (Blk w53 g38 #[.int .i64 (-1)] 3) := HKg38.out.on hal
          clear HKg38
          have HKg38 := HKg38_
          clear HKg38_
          have HKg50_ : Hid (Blk w53 g50 (Array.replicate n (.int .i64 0)) 3) := HKg50.out.on hal
          clear HKg50
          have HKg50 := HKg50_
          clear HKg50_
          have HKg52_ : Hid (Blk w53 g52 (Array.replicate n (.int .i64 0)) 3) := HKg52.out.on hal
          clear HKg52
          have HKg52 := HKg52_
          clear HKg52_
          clear hal hg1 hg2 CR
          dsimp only
          refine hK.out _ _ (fun _ => trivial) ?_
          clear hK K
          try simp only [Act.put, List.setIfInBounds_toArray, List.set_cons_zero, List.set_cons_succ]
          refine wpL_take (v := ?_) 8 rfl (by kernel_rfl) (fun _ _ _ h => h) (by rfl) ?_ trivial ?_
          rotate_left
          focus
            intro w9 hw9

            go_simp
            try with_reducible rfl
          try simp only [Act.put, List.setIfInBounds_toArray, List.set_cons_zero, List.set_cons_succ]
          refine wpL_one 9 rfl (by kernel_rfl) (by rfl) ?_
          intro K hK
          go_simp
          refine hK.out _ _ (fun _ => trivial) ?_
          clear hK K
          try simp only [Act.put, List.setIfInBounds_toArray, List.set_cons_zero, List.set_cons_succ]
          refine wpL_one 10 rfl (by kernel_rfl) (by rfl) ?_
          intro K hK
          go_simp
          refine hK.out _ _ (fun _ => trivial) ?_
          clear hK K
          try simp only [Act.put, List.setIfInBounds_toArray, List.set_cons_zero, List.set_cons_succ]
          refine wpL_done (by kernel_rfl) ?_ _
          try simp only [NoPanic]
          have HFin : Hid (PtI (w53.alloc (.cells #[.slice (some ⟨nb, 0, none⟩) n n, .int .i64 0, .slice (some ⟨g52, 0, none⟩) n n, .slice (some ⟨g50, 0, none⟩) n n, .slice none 0 0, .slice (some ⟨g54, 0, none⟩) n n] 124)) w.heap.size ⟨w53.heap.size, g52, g50, g54, .slice (some ⟨nb, 0, none⟩) n n, n⟩ (.slice none 0 0) (pst0 n) ∧ Below w.heap.size w (w53.alloc (.cells #[.slice (some ⟨nb, 0, none⟩) n n, .int .i64 0, .slice (some ⟨g52, 0, none⟩) n n, .slice (some ⟨g50, 0, none⟩) n n, .slice none 0 0, .slice (some ⟨g54, 0, none⟩) n n] 124))) := ⟨PtI.start HKg52.out HKg50.out HKg54.out (by have := HGg52.out; have := HGg50.out; have := HGg54.out; omega) (by have := HGg52.out; have := HGg50.out; have := HGg54.out; omega) (by have := HGg52.out; have := HGg50.out; have := HGg54.out; omega) HBw53.out.size (by have := HGg52.out; have := HBw53.out.size; omega) (by have := HGg50.out; have := HBw53.out.size; omega) (by have := HGg54.out; have := HBw53.out.size; omega), HBw53.out.alloc HBw53.out.size _⟩
          go_wp2_with fail
          go_meet
          exact ⟨_, _, _, _, rfl, HFin.out⟩
        · intro K hK
          have CR : Hid (Calls Tryz.prog 82 #[.slice (some ⟨g38, 0, none⟩) 1 1, .int .i64 (n : Int)] w49 fun e w' => ∃ rb, e = .returned (.slice (some ⟨rb, 0, none⟩) n n) ∧ w49.heap.size ≤ rb ∧ Blk w' rb (Array.replicate n (.int .i64 (-1))) 3 ∧ Below w49.heap.size w49 w') := repeat1_any (-1) n g38 HA.out.2.1 w49 (HKg38.out.cell rfl) HKg38.out.lt
          go_simp
          refine CR.out.mono ?_
          rintro e w55 ⟨g56, rfl, hg1, hg2, hal⟩
          have HBw55 : Hid (Below w.heap.size w w55) := HBw49.out.trans (hal.mono HBw49.out.size)
          have HKg56 : Hid (Blk w55 g56 (Array.replicate n (.int .i64 (-1))) 3) := hg2
          have HGg56 : Hid (g38 < g56 ∧ g50 < g56 ∧ w.heap.size ≤ g56) := by
            have l_g38 := HKg38.out.lt
            have l_g50 := HKg50.out.lt
            have l0 := HBw49.out.size
            show g38 < g56 ∧ g50 < g56 ∧ w.heap.size ≤ g56
            omega
          have HKg38_ : Hid (Blk w55 g38 #[.int .i64 (-1)] 3) := HKg38.out.on hal
          clear HKg38
          have HKg38 := HKg38_
          clear HKg38_
          have HKg50_ : Hid (Blk w55 g50 (Array.replicate n (.int .i64 0)) 3) := HKg50.out.on hal
          clear HKg50
          have HKg50 := HKg50_
          clear HKg50_
          clear hal hg1 hg2 CR
          dsimp only
          refine hK.out _ _ (fun _ => trivial) ?_
          clear hK K
          try simp only [Act.put, List.setIfInBounds_toArray, List.set_cons_zero, List.set_cons_succ]
          refine wpL_one 2 rfl (by kernel_rfl) (by rfl) ?_
          intro K hK
          have hmk := HMk.out
          go_simp
          have hal : Below w55.heap.size w55 (w55.alloc (.cells (Array.replicate n (.int .i64 0)) 3)) := (Below.refl _ _).alloc (Nat.le_refl _) _
          have HBw57 : Hid (Below w.heap.size w (w55.alloc (.cells (Array.replicate n (.int .i64 0)) 3))) := HBw55.out.trans (hal.mono HBw55.out.size)
          obtain ⟨g58, hg⟩ : ∃ g, w55.heap.size = g := ⟨_, rfl⟩
          have HKg58 : Hid (Blk (w55.alloc (.cells (Array.replicate n (.int .i64 0)) 3)) g58 (Array.replicate n (.int .i64 0)) 3) := by rw [← hg]; exact Blk.new w55 _ _
          have HGg58 : Hid (g38 < g58 ∧ g50 < g58 ∧ g56 < g58 ∧ w.heap.size ≤ g58) := by
            have l_g38 := HKg38.out.lt
            have l_g50 := HKg50.out.lt
            have l_g56 := HKg56.out.lt
            have l0 := HBw55.out.size
            show g38 < g58 ∧ g50 < g58 ∧ g56 < g58 ∧ w.heap.size ≤ g58
            omega
          have HKg38_ : Hid (Blk (w55.alloc (.cells (Array.replicate n (.int .i64 0)) 3)) g38 #[.int .i64 (-1)] 3) := HKg38.out.on hal
          clear HKg38
          have HKg38 := HKg38_
          clear HKg38_
          have HKg50_ : Hid (Blk (w55.alloc (.cells (Array.replicate n (.int .i64 0)) 3)) g50 (Array.replicate n (.int .i64 0)) 3) := HKg50.out.on hal
          clear HKg50
          have HKg50 := HKg50_
          clear HKg50_
          have HKg56_ : Hid (Blk (w55.alloc (.cells (Array.replicate n (.int .i64 0)) 3)) g56 (Array.replicate n (.int .i64 (-1))) 3) := HKg56.out.on hal
          clear HKg56
          have HKg56 := HKg56_
          clear HKg56_
          rw [hg]
          clear hal hg hmk
          refine hK.out _ _ (fun _ => trivial) ?_
          clear hK K
          try simp only [Act.put, List.setIfInBounds_toArray, List.set_cons_zero, List.set_cons_succ]
          generalize (w55.alloc (.cells (Array.replicate n (.int .i64 0)) 3)) = w57 at *
          refine wpL_take (v := ?_) 8 rfl (by kernel_rfl) (fun _ _ _ h => h) (by rfl) ?_ trivial ?_
          rotate_left
          focus
            intro w9 hw9

            go_simp
            try with_reducible rfl
          try simp only [Act.put, List.setIfInBounds_toArray, List.set_cons_zero, List.set_cons_succ]
          refine wpL_one 9 rfl (by kernel_rfl) (by rfl) ?_
          intro K hK
          go_simp
          refine hK.out _ _ (fun _ => trivial) ?_
          clear hK K
          try simp only [Act.put, List.setIfInBounds_toArray, List.set_cons_zero, List.set_cons_succ]
          refine wpL_one 10 rfl (by kernel_rfl) (by rfl) ?_
          intro K hK
          go_simp
          refine hK.out _ _ (fun _ => trivial) ?_
          clear hK K
          try simp only [Act.put, List.setIfInBounds_toArray, List.set_cons_zero, List.set_cons_succ]
          refine wpL_done (by kernel_rfl) ?_ _
          try simp only [NoPanic]
          have HFin : Hid (PtI (w57.alloc (.cells #[.slice (some ⟨nb, 0, none⟩) n n, .int .i64 0, .slice (some ⟨g58, 0, none⟩) n n, .slice (some ⟨g50, 0, none⟩) n n, .slice none 0 0, .slice (some ⟨g56, 0, none⟩) n n] 124)) w.heap.size ⟨w57.heap.size, g58, g50, g56, .slice (some ⟨nb, 0, none⟩) n n, n⟩ (.slice none 0 0) (pst0 n) ∧ Below w.heap.size w (w57.alloc (.cells #[.slice (some ⟨nb, 0, none⟩) n n, .int .i64 0, .slice (some ⟨g58, 0, none⟩) n n, .slice (some ⟨g50, 0, none⟩) n n, .slice none 0 0, .slice (some ⟨g56, 0, none⟩) n n] 124))) := ⟨PtI.start HKg58.out HKg50.out HKg56.out (by have := HGg58.out; have := HGg50.out; have := HGg56.out; omega) (by have := HGg58.out; have := HGg50.out; have := HGg56.out; omega) (by have := HGg58.out; have := HGg50.out; have := HGg56.out; omega) HBw57.out.size (by have := HGg58.out; have := HBw57.out.size; omega) (by have := HGg50.out; have := HBw57.out.size; omega) (by have := HGg56.out; have := HBw57.out.size; omega), HBw57.out.alloc HBw57.out.size _⟩
          go_wp2_with fail
          go_meet
          exact ⟨_, _, _, _, rfl, HFin.out⟩
      · intro K hK
        have CR : Hid (Calls Tryz.prog 82 #[.slice (some ⟨g38, 0, none⟩) 1 1, .int .i64 (n : Int)] w37 fun e w' => ∃ rb, e = .returned (.slice (some ⟨rb, 0, none⟩) n n) ∧ w37.heap.size ≤ rb ∧ Blk w' rb (Array.replicate n (.int .i64 (-1))) 3 ∧ Below w37.heap.size w37 w') := repeat1_any (-1) n g38 HA.out.2.1 w37 (HKg38.out.cell rfl) HKg38.out.lt
        go_simp
        refine CR.out.mono ?_
        rintro e w59 ⟨g60, rfl, hg1, hg2, hal⟩
        have HBw59 : Hid (Below w.heap.size w w59) := HBw37.out.trans (hal.mono HBw37.out.size)
        have HKg60 : Hid (Blk w59 g60 (Array.replicate n (.int .i64 (-1))) 3) := hg2
        have HGg60 : Hid (g38 < g60 ∧ w.heap.size ≤ g60) := by
          have l_g38 := HKg38.out.lt
          have l0 := HBw37.out.size
          show g38 < g60 ∧ w.heap.size ≤ g60
          omega
        have HKg38_ : Hid (Blk w59 g38 #[.int .i64 (-1)] 3) := HKg38.out.on hal
        clear HKg38
        have HKg38 := HKg38_
        clear HKg38_
        clear hal hg1 hg2 CR
        dsimp only
        refine hK.out _ _ (fun _ => trivial) ?_
        clear hK K
        try simp only [Act.put, List.setIfInBounds_toArray, List.set_cons_zero, List.set_cons_succ]
        refine wpL_two 2 4 rfl rfl (by kernel_rfl) (by rfl) (by rfl) ?_ ?_
        · intro K hK
          have hmk := HMk.out
          go_simp
          have hal : Below w59.heap.size w59 (w59.alloc (.cells (Array.replicate n (.int .i64 0)) 3)) := (Below.refl _ _).alloc (Nat.le_refl _) _
          have HBw61 : Hid (Below w.heap.size w (w59.alloc (.cells (Array.replicate n (.int .i64 0)) 3))) := HBw59.out.trans (hal.mono HBw59.out.size)
          obtain ⟨g62, hg⟩ : ∃ g, w59.heap.size = g := ⟨_, rfl⟩
          have HKg62 : Hid (Blk (w59.alloc (.cells (Array.replicate n (.int .i64 0)) 3)) g62 (Array.replicate n (.int .i64 0)) 3) := by rw [← hg]; exact Blk.new w59 _ _
          have HGg62 : Hid (g38 < g62 ∧ g60 < g62 ∧ w.heap.size ≤ g62) := by
            have l_g38 := HKg38.out.lt
            have l_g60 := HKg60.out.lt
            have l0 := HBw59.out.size
            show g38 < g62 ∧ g60 < g62 ∧ w.heap.size ≤ g62
            omega
          have HKg38_ : Hid (Blk (w59.alloc (.cells (Array.replicate n (.int .i64 0)) 3)) g38 #[.int .i64 (-1)] 3) := HKg38.out.on hal
          clear HKg38
          have HKg38 := HKg38_
          clear HKg38_
          have HKg60_ : Hid (Blk (w59.alloc (.cells (Array.replicate n (.int .i64 0)) 3)) g60 (Array.replicate n (.int .i64 (-1))) 3) := HKg60.out.on hal
          clear HKg60
          have HKg60 := HKg60_
          clear HKg60_
          rw [hg]
          clear hal hg hmk
          refine hK.out _ _ (fun _ => trivial) ?_
          clear hK K
          try simp only [Act.put, List.setIfInBounds_toArray, List.set_cons_zero, List.set_cons_succ]
          generalize (w59.alloc (.cells (Array.replicate n (.int .i64 0)) 3)) = w61 at *
          refine wpL_one 4 rfl (by kernel_rfl) (by rfl) ?_
          intro K hK
          have hmk := HMk.out
          go_simp
          have hal : Below w61.heap.size w61 (w61.alloc (.cells (Array.replicate n (.int .i64 0)) 3)) := (Below.refl _ _).alloc (Nat.le_refl _) _
          have HBw63 : Hid (Below w.heap.size w (w61.alloc (.cells (Array.replicate n (.int .i64 0)) 3))) := HBw61.out.trans (hal.mono HBw61.out.size)
          obtain ⟨g64, hg⟩ : ∃ g, w61.heap.size = g := ⟨_, rfl⟩
          have HKg64 : Hid (Blk (w61.alloc (.cells (Array.replicate n (.int .i64 0)) 3)) g64 (Array.replicate n (.int .i64 0)) 3) := by rw [← hg]; exact Blk.new w61 _ _
          have HGg64 : Hid (g38 < g64 ∧ g60 < g64 ∧ g62 < g64 ∧ w.heap.size ≤ g64) := by
            have l_g38 := HKg38.out.lt
            have l_g60 := HKg60.out.lt
            have l_g62 := HKg62.out.lt
            have l0 := HBw61.out.size
            show g38 < g64 ∧ g60 < g64 ∧ g62 < g64 ∧ w.heap.size ≤ g64
            omega
          have HKg38_ : Hid (Blk (w61.alloc (.cells (Array.replicate n (.int .i64 0)) 3)) g38 #[.int .i64 (-1)] 3) := HKg38.out.on hal
          clear HKg38
          have HKg38 := HKg38_
          clear HKg38_
          have HKg60_ : Hid (Blk (w61.alloc (.cells (Array.replicate n (.int .i64 0)) 3)) g60 (Array.replicate n (.int .i64 (-1))) 3) := HKg60.out.on hal
          clear HKg60
          have HKg60 := HKg60_
          clear HKg60_
          have HKg62_ : Hid (Blk (w61.alloc (.cells (Array.replicate n (.int .i64 0)) 3)) g62 (Array.replicate n (.int .i64 0)) 3) := HKg62.out.on hal
          clear HKg62
          have HKg62 := HKg62_
          clear HKg62_
          rw [hg]
          clear hal hg hmk
          refine hK.out _ _ (fun _ => trivial) ?_
          clear hK K
          try simp only [Act.put, List.setIfInBounds_toArray, List.set_cons_zero, List.set_cons_succ]
          generalize (w61.alloc (.cells (Array.replicate n (.int .i64 0)) 3)) = w63 at *
          refine wpL_take (v := ?_) 8 rfl (by kernel_rfl) (fun _ _ _ h => h) (by rfl) ?_ trivial ?_
          rotate_left
          focus
            intro w9 hw9

            go_simp
            try with_reducible rfl
          try simp only [Act.put, List.setIfInBounds_toArray, List.set_cons_zero, List.set_cons_succ]
          refine wpL_one 9 rfl (by kernel_rfl) (by rfl) ?_
          intro K hK
          go_simp
          refine hK.out _ _ (fun _ => trivial) ?_
          clear hK K
          try simp only [Act.put, List.setIfInBounds_toArray, List.set_cons_zero, List.set_cons_succ]
          refine wpL_one 10 rfl (by kernel_rfl) (by rfl) ?_
          intro K hK
          go_simp
          refine hK.out _ _ (fun _ => trivial) ?_
          clear hK K
          try simp only [Act.put, List.setIfInBounds_toArray, List.set_cons_zero, List.set_cons_succ]
          refine wpL_done (by kernel_rfl) ?_ _
          try simp only [NoPanic]
          have HFin : Hid (PtI (w63.alloc (.cells #[.slice (some ⟨nb, 0, none⟩) n n, .int .i64 0, .slice (some ⟨g62, 0, none⟩) n n, .slice (some ⟨g64, 0, none⟩) n n, .slice none 0 0, .slice (some ⟨g60, 0, none⟩) n n] 124)) w.heap.size ⟨w63.heap.size, g62, g64, g60, .slice (some ⟨nb, 0, none⟩) n n, n⟩ (.slice none 0 0) (pst0 n) ∧ Below w.heap.size w (w63.alloc (.cells #[.slice (some ⟨nb, 0, none⟩) n n, .int .i64 0, .slice (some ⟨g62, 0, none⟩) n n, .slice (some ⟨g64, 0, none⟩) n n, .slice none 0 0, .slice (some ⟨g60, 0, none⟩) n n] 124))) := ⟨PtI.start HKg62.out HKg64.out HKg60.out (by have := HGg62.out; have := HGg64.out; have := HGg60.out; omega) (by have := HGg62.out; have := HGg64.out; have := HGg60.out; omega) (by have := HGg62.out; have := HGg64.out; have := HGg60.out; omega) HBw63.out.size (by have := HGg62.out; have := HBw63.out.size; omega) (by have := HGg64.out; have := HBw63.out.size; omega) (by have := HGg60.out; have := HBw63.out.size; omega), HBw63.out.alloc HBw63.out.size _⟩
          go_wp2_with fail
          go_meet
          exact ⟨_, _, _, _, rfl, HFin.out⟩
        · intro K hK
          have hmk := HMk.out
          go_simp
          have hal : Below w59.heap.size w59 (w59.alloc (.cells (Array.replicate n (.int .i64 0)) 3)) := (Below.refl _ _).alloc (Nat.le_refl _) _
          have HBw65 : Hid (Below w.heap.size w (w59.alloc (.cells (Array.replicate n (.int .i64 0)) 3))) := HBw59.out.trans (hal.mono HBw59.out.size)
          obtain ⟨g66, hg⟩ : ∃ g, w59.heap.size = g := ⟨_, rfl⟩
          have HKg66 : Hid (Blk (w59.alloc (.cells (Array.replicate n (.int .i64 0)) 3)) g66 (Array.replicate n (.int .i64 0)) 3) := by rw [← hg]; exact Blk.new w59 _ _
          have HGg66 : Hid (g38 < g66 ∧ g60 < g66 ∧ w.heap.size ≤ g66) := by
            have l_g38 := HKg38.out.lt
            have l_g60 := HKg60.out.lt
            have l0 := HBw59.out.size
            show g38 < g66 ∧ g60 < g66 ∧ w.heap.size ≤ g66
            omega
          have HKg38_ : Hid (Blk (w59.alloc (.cells (Array.replicate n (.int .i64 0)) 3)) g38 #[.int .i64 (-1)] 3) := HKg38.out.on hal
          clear HKg38
          have HKg38 := HKg38_
          clear HKg38_
          have HKg60_ : Hid (Blk (w59.alloc (.cells (Array.replicate n (.int .i64 0)) 3)) g60 (Array.replicate n (.int .i64 (-1))) 3) := HKg60.out.on hal
          clear HKg60
          have HKg60 := HKg60_
          clear HKg60_
          rw [hg]
          clear hal hg hmk
          refine hK.out _ _ (fun _ => trivial) ?_
          clear hK K
          try simp only [Act.put, List.setIfInBounds_toArray, List.set_cons_zero, List.set_cons_succ]
          generalize (w59.alloc (.cells (Array.replicate n (.int .i64 0)) 3)) = w65 at *
          refine wpL_one 2 rfl (by kernel_rfl) (by rfl) ?_
          intro K hK
          have hmk := HMk.out
          go_simp
          have hal : Below w65.heap.size w65 (w65.alloc (.cells (Array.replicate n (.int .i64 0)) 3)) := (Below.refl _ _).alloc (Nat.le_refl _) _
          have HBw67 : Hid (Below w.heap.size w (w65.alloc (.cells (Array.replicate n (.int .i64 0)) 3))) := HBw65.out.trans (hal.mono HBw65.out.size)
          obtain ⟨g68, hg⟩ : ∃ g, w65.heap.size = g := ⟨_, rfl⟩
          have HKg68 : Hid (Blk (w65.alloc (.cells (Array.replicate n (.int .i64 0)) 3)) g68 (Array.replicate n (.int .i64 0)) 3) := by rw [← hg]; exact Blk.new w65 _ _
          have HGg68 : Hid (g38 < g68 ∧ g60 < g68 ∧ g66 < g68 ∧ w.heap.size ≤ g68) := by
            have l_g38 := HKg38.out.lt
            have l_g60 := HKg60.out.lt
            have l_g66 := HKg66.out.lt
            have l0 := HBw65.out.size
            show g38 < g68 ∧ g60 < g68 ∧ g66 < g68 ∧ w.heap.size ≤ g68
            omega
          have HKg38_ : Hid (Blk (w65.alloc (.cells (Array.replicate n (.int .i64 0)) 3)) g38 #[.int .i64 (-1)] 3) := HKg38.out.on hal
          clear HKg38
          have HKg38 := HKg38_
          clear HKg38_
          have HKg60_ : Hid (Blk (w65.alloc (.cells (Array.replicate n (.int .i64 0)) 3)) g60 (Array.replicate n (.int .i64 (-1))) 3) := HKg60.out.on hal
          clear HKg60
          have HKg60 := HKg60_
          clear HKg60_
          have HKg66_ : Hid (Blk (w65.alloc (.cells (Array.replicate n (.int .i64 0)) 3)) g66 (Array.replicate n (.int .i64 0)) 3) := HKg66.out.on hal
          clear HKg66
          have HKg66 := HKg66_
          clear HKg66_
          rw [hg]
          clear hal hg hmk
          refine hK.out _ _ (fun _ => trivial) ?_
          clear hK K
          try simp only [Act.put, List.setIfInBounds_toArray, List.set_cons_zero, List.set_cons_succ]
          generalize (w65.alloc (.cells (Array.replicate n (.int .i64 0)) 3)) = w67 at *
          refine wpL_take (v := ?_) 8 rfl (by kernel_rfl) (fun _ _ _ h => h) (by rfl) ?_ trivial ?_
          rotate_left
          focus
            intro w9 hw9

            go_simp
            try with_reducible rfl
          try simp only [Act.put, List.setIfInBounds_toArray, List.set_cons_zero, List.set_cons_succ]
          refine wpL_one 9 rfl (by kernel_rfl) (by rfl) ?_
          intro K hK
          go_simp
          refine hK.out _ _ (fun _ => trivial) ?_
          clear hK K
          try simp only [Act.put, List.setIfInBounds_toArray, List.set_cons_zero, List.set_cons_succ]
          refine wpL_one 10 rfl (by kernel_rfl) (by rfl) ?_
          intro K hK
          go_simp
          refine hK.out _ _ (fun _ => trivial) ?_
          clear hK K
          try simp only [Act.put, List.setIfInBounds_toArray, List.set_cons_zero, List.set_cons_succ]
          refine wpL_done (by kernel_rfl) ?_ _
          try simp only [NoPanic]
          have HFin : Hid (PtI (w67.alloc (.cells #[.slice (some ⟨nb, 0, none⟩) n n, .int .i64 0, .slice (some ⟨g68, 0, none⟩) n n, .slice (some ⟨g66, 0, none⟩) n n, .slice none 0 0, .slice (some ⟨g60, 0, none⟩) n n] 124)) w.heap.size ⟨w67.heap.size, g68, g66, g60, .slice (some ⟨nb, 0, none⟩) n n, n⟩ (.slice none 0 0) (pst0 n) ∧ Below w.heap.size w (w67.alloc (.cells #[.slice (some ⟨nb, 0, none⟩) n n, .int .i64 0, .slice (some ⟨g68, 0, none⟩) n n, .slice (some ⟨g66, 0, none⟩) n n, .slice none 0 0, .slice (some ⟨g60, 0, none⟩) n n] 124))) := ⟨PtI.start HKg68.out HKg66.out HKg60.out (by have := HGg68.out; have := HGg66.out; have := HGg60.out; omega) (by have := HGg68.out; have := HGg66.out; have := HGg60.out; omega) (by have := HGg68.out; have := HGg66.out; have := HGg60.out; omega) HBw67.out.size (by have := HGg68.out; have := HBw67.out.size; omega) (by have := HGg66.out; have := HBw67.out.size; omega) (by have := HGg60.out; have := HBw67.out.size; omega), HBw67.out.alloc HBw67.out.size _⟩
          go_wp2_with fail
          go_meet
          exact ⟨_, _, _, _, rfl, HFin.out⟩
  case rest =>
    obtain ⟨pb, mb, lb, qb, rfl, H1⟩ := hcut
    obtain ⟨v, hv⟩ : ∃ v : Pv, (⟨pb, mb, lb, qb, .slice (some ⟨nb, 0, none⟩) n n, n⟩ : Pv) = v := ⟨_, rfl⟩
    have HVV : Hid (v.pb = pb ∧ v.n = n ∧ v.qb = qb ∧ VisF w Cn nb ns NN v) := by subst hv; exact ⟨rfl, rfl, rfl, HV.out _ rfl rfl⟩
    rw [hv] at H1
    obtain rfl : pb = v.pb := HVV.out.1.symm
    clear hv HMk
    have H2 : Hid (Below w.heap.size w wc ∧ ∃ vO', PtI wc w.heap.size v vO' (partsS NN 0)) := ⟨H1.out.2, _, by
      have e : partsS NN 0 = pst0 n := by rw [← HA.out.1]; rfl
      rw [e]
      exact H1.out.1⟩
    clear H1
    go_wp2_with fail
    go_loopw [20] (fun ix wr => ∃ k : Nat, ix = .int .i64 (k : Int) ∧ k ≤ n ∧ Hid (Below w.heap.size w wr ∧ ∃ vO', PtI wr w.heap.size v vO' (partsS NN k))) (fun ix _ => n - (intOf ix).toNat)
    case atStart => exact ⟨0, by go_num, Nat.zero_le _, H2.out⟩
    case round =>
      obtain ⟨k, rfl, hk, HI⟩ := hrel
      clear H2
      have HIv : Hid (PInv v.n (partsS NN k)) := by
        show PInv v.n (partsS NN k)
        rw [HVV.out.2.1]
        exact partsS_inv HA.out.1 HA.out.2.2 k hk
      have HSu : Hid (partsS NN (k + 1) = if (partsS NN k).met.getD k 0 = 0 then visitM NN NN.length k (partsS NN k) else partsS NN k) := partsS_succ NN k
      by_cases hk0 : k = n
      · subst hk0
        have HE : Hid (partsM NN = (partsS NN k).prt) := by
          show _ = _
          unfold partsM
          rw [HA.out.1]
        obtain ⟨h1, vT, hP⟩ := HI.out
        have c5 : wr.cell? ⟨v.pb, 5, none⟩ = some (.slice (some ⟨v.qb, 0, none⟩) v.n v.n) := hP.blk.cell rfl
        rw [HVV.out.2.1] at c5
        have HQ : Hid (Blk wr v.qb (ints9 (partsS NN k).prt) 3 ∧ w.heap.size ≤ v.qb ∧ Below w.heap.size w wr) := ⟨hP.prt, hP.qC, h1⟩
        clear h1 hP HI
        go_wp2_with fail
        go_ret
        rw [HE.out]
        exact ⟨_, rfl, HQ.out.2.1, HQ.out.1, by rw [HIv.out.lp, HVV.out.2.1], HQ.out.2.2⟩
      · have hk1 : k < n := by omega
        clear hk0
        have HK1 : Hid (k < n) := hk1
        obtain ⟨h1, vT, hP⟩ := HI.out
        have c2 : wr.cell? ⟨v.pb, 2, none⟩ = some (.slice (some ⟨v.mb, 0, none⟩) v.n v.n) := hP.blk.cell rfl
        rw [HVV.out.2.1] at c2
        have e2 := hP.cellM (q := k) (by rw [HIv.out.lm, HVV.out.2.1]; exact hk1)
        have HPt : Hid (Below w.heap.size w wr ∧ PtI wr w.heap.size v vT (partsS NN k)) := ⟨h1, hP⟩
        have hkv : k < v.n := by rw [HVV.out.2.1]; exact hk1
        have hun : (partsS NN k).un ≤ NN.length := by
          have h1 : (partsS NN k).un ≤ (partsS NN k).met.length := List.countP_le_length
          rw [HIv.out.lm, HVV.out.2.1] at h1
          have := HA.out.1
          omega
        have CV : Hid ((partsS NN k).met.getD k 0 = 0 → Calls Tryz.prog 83 #[.pointer (some ⟨v.pb, 0, none⟩), .int .i64 (k : Int)] wr fun e w' => e = .returned (.tuple #[]) ∧ Below w.heap.size wr w' ∧ ∃ vO', PtI w' w.heap.size v vO' (visitM NN NN.length k (partsS NN k))) := fun h0 => visit_any w Cn nb ns NN v HVV.out.2.2.2 NN.length k (partsS NN k) vT wr h1 hP HIv.out hkv h0 hun
        generalize hS : partsS NN k = s at *
        clear h1 hP HI hkv hun hS
        rename World => wo
        by_cases h0 : s.met.getD k 0 = 0
        · have CV2 : Hid (Calls Tryz.prog 83 #[.pointer (some ⟨v.pb, 0, none⟩), .int .i64 (k : Int)] wo fun e w' => e = .returned (.tuple #[]) ∧ Below w.heap.size wo w' ∧ ∃ vO', PtI w' w.heap.size v vO' (visitM NN NN.length k s)) := CV.out h0
          have HS2 : Hid (partsS NN (k + 1) = visitM NN NN.length k s) := by show _ = _; rw [HSu.out, if_pos h0]
          rw [h0] at e2
          clear CV h0
          go_wp2_with (first | (go_at_call 83; refine CV2.out.mono ?_; rintro e w5 ⟨rfl, hw5⟩; have HW5 : Hid (Below w.heap.size wo w5 ∧ ∃ vO', PtI w5 w.heap.size v vO' (visitM NN NN.length k s)) := hw5; clear hw5))
          go_roundw
          case rel => exact ⟨k + 1, by go_num, HK1.out, HPt.out.1.trans HW5.out.1, by rw [HS2.out]; exact HW5.out.2⟩
          case measure => have h9 := HK1.out; simp [intOf]; omega
        · have HS2 : Hid (partsS NN (k + 1) = s) := by show _ = _; rw [HSu.out, if_neg h0]
          obtain ⟨me, hme⟩ : ∃ me, s.met.getD k 0 = me := ⟨_, rfl⟩
          rw [hme] at e2 h0
          have hm0 : ((me : Int) == 0) = false := by rw [beq_eq_false_iff_ne]; omega
          clear CV h0 hme
          go_wp2_with fail
          go_roundw
          case rel => exact ⟨k + 1, by go_num, HK1.out, HPt.out.1, vT, by rw [HS2.out]; exact HPt.out.2⟩
          case measure => have h9 := HK1.out; simp [intOf]; omega

end Go.Proofs.YtncfejndmlcidaaGreat
