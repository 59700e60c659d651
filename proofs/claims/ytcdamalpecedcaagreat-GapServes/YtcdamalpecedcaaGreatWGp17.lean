/- Layer 13: without: a line without one of its takers. -/
import Derived.Test.YtcdamalpecedcaaGreatWGp16
namespace Go.Proofs.YtcdamalpecedcaaGreat
open Go.RowKit
set_option maxRecDepth 100000

theorem slp_take {w : World} {B g n c m : Nat} {P : List Nat} (h : OwnT w B (.slice (some ⟨g, 0, none⟩) n c) P) (hm : m ≤ P.length) : SlP w (.slice (some ⟨g, 0, none⟩) m c) (P.take m) := by
  obtain ⟨p', c', e, hat⟩ := OwnT.at h
  injection e with e1 e2 e3
  subst e1 e3
  refine ⟨_, _, by rw [List.length_take, Nat.min_eq_left hm], fun h => ?_, fun a ha => ?_, fun i hi => ?_⟩
  · cases h
  · cases ha
    exact ⟨_, _, rfl⟩
  · rw [List.length_take] at hi
    obtain ⟨g', e, hg, c0⟩ := hat i (by omega)
    cases e
    rw [List.getElem_take]
    exact ⟨g, 0, rfl, hg, by rw [Nat.zero_add]; exact c0⟩
theorem slp_drop {w : World} {B g n c m : Nat} {P : List Nat} (h : OwnT w B (.slice (some ⟨g, 0, none⟩) n c) P) : SlP w (.slice (some ⟨g, m, none⟩) (n - m) (c - m)) (P.drop m) := by
  obtain ⟨p', c', e, hat⟩ := OwnT.at h
  injection e with e1 e2 e3
  subst e1 e3
  refine ⟨_, _, by rw [List.length_drop, e2], fun h => ?_, fun a ha => ?_, fun i hi => ?_⟩
  · cases h
  · cases ha
    exact ⟨_, _, rfl⟩
  · rw [List.length_drop] at hi
    obtain ⟨g', e, hg, c0⟩ := hat (m + i) (by omega)
    cases e
    rw [List.getElem_drop]
    exact ⟨g, m, rfl, hg, c0⟩
theorem slp_nil0 (w : World) (g o c : Nat) : SlP w (.slice (some ⟨g, o, none⟩) 0 c) [] := ⟨_, _, rfl, fun h => (by cases h), fun a ha => (by cases ha; exact ⟨_, _, rfl⟩), fun i hi => absurd hi (by simp)⟩
theorem slp_drop1 {w : World} {B g n c m : Nat} {P : List Nat} (h : OwnT w B (.slice (some ⟨g, 0, none⟩) n c) P) (hm : m + 1 ≤ n) (hc : n ≤ c) : SlP w (.slice (if c = m + 1 then some ⟨g, 0, none⟩ else some ⟨g, m + 1, none⟩) (n - (m + 1)) (c - (m + 1))) (P.drop (m + 1)) := by
  by_cases hcm : c = m + 1
  · obtain ⟨p', c', e, _⟩ := owns_len h
    injection e with _ e2 _
    rw [if_pos hcm, show n - (m + 1) = 0 by omega, List.drop_eq_nil_of_le (by omega)]
    exact slp_nil0 _ _ _ _
  · rw [if_neg hcm]
    exact slp_drop h

set_option maxHeartbeats 16000000 in
theorem without_any (xb nx tb tq m n c g : Nat) (P : List Nat) (w : World) (hb : Blk w xb #[.int .u64 (nx : Nat), .slice (some ⟨g, 0, none⟩) n c] 68) (ho : OwnT w 0 (.slice (some ⟨g, 0, none⟩) n c) P) (hn : P.length = n) (hl : n ≤ 256) (hc : n ≤ c) (hm : m < n) (hpl : Calls Tryz.prog 39 #[ptr1 xb, .int .u64 (tq : Nat)] w fun e w' => e = .returned (.tuple #[.int .i64 (m : Nat), .bool true]) ∧ w' = w) (ht : w.cell? ⟨tb, 0, none⟩ = some (.int .u64 (tq : Nat))) :
    Calls Tryz.prog 28 #[ptr1 xb, ptr1 tb] w fun e w' => ∃ yb v, e = .returned (ptr1 yb) ∧ Blk w' yb #[.int .u64 (nx : Nat), v] 68 ∧ OwnT w' w.heap.size v (P.take m ++ P.drop (m + 1)) ∧ w.heap.size ≤ yb ∧ Below w.heap.size w w' := by
  have hdr : Below w.heap.size w w.drew := (Below.refl _ _).drew
  have HX : Hid (Blk w.drew xb #[.int .u64 (nx : Nat), .slice (some ⟨g, 0, none⟩) n c] 68) := hb.on hdr
  have HOw : Hid (OwnT w.drew 0 (.slice (some ⟨g, 0, none⟩) n c) P) := owns_kept ho hdr
  have HWd : Hid (Below w.heap.size w w.drew) := hdr
  have C1 : Hid (Calls _ _ _ _ _) := hpl
  have hwr : IntKind.i64.wrap ((m : Int) + 1) = ((m + 1 : Nat) : Int) := by
    simp [IntKind.wrap, IntKind.bits, IntKind.signed]
    omega
  clear hb ho hdr hpl
  go_enter Tryz.func28, Tryz.ntmps28
  go_wp2_with fail
  refine C1.out.mono ?_
  rintro e w2 ⟨rfl, hw2⟩
  rw [hw2]
  clear hw2 C1 ht
  go_upto_region 2 with fail
  refine wp_region_any (by kernel_rfl) ?_
  change wpAny _ _ _ _ _ _ _ (World.drew _)
  generalize w.drew = wd at *
  have hmcN : m ≤ c := by omega
  have hmcI : (m : Int) ≤ (c : Int) := by omega
  have hmnI : 0 ≤ ((m + 1 : Nat) : Int) ∧ ((m + 1 : Nat) : Int) ≤ (n : Int) := ⟨by omega, by omega⟩
  have hA1 : Below wd.heap.size wd (wd.alloc (.cells #[.slice (some ⟨g, 0, none⟩) m c, .slice (if c = m + 1 then some ⟨g, 0, none⟩ else some ⟨g, m + 1, none⟩) (n - (m + 1)) (c - (m + 1))] 66)) := (Below.refl _ _).alloc (Nat.le_refl _) _
  have k1 : Blk (wd.alloc (.cells #[.slice (some ⟨g, 0, none⟩) m c, .slice (if c = m + 1 then some ⟨g, 0, none⟩ else some ⟨g, m + 1, none⟩) (n - (m + 1)) (c - (m + 1))] 66)) wd.heap.size #[.slice (some ⟨g, 0, none⟩) m c, .slice (if c = m + 1 then some ⟨g, 0, none⟩ else some ⟨g, m + 1, none⟩) (n - (m + 1)) (c - (m + 1))] 66 := Blk.new _ _ _
  have CC : Hid (Calls _ _ _ _ _) := concatP_any [P.take m, P.drop (m + 1)] wd.heap.size (wd.alloc (.cells #[.slice (some ⟨g, 0, none⟩) m c, .slice (if c = m + 1 then some ⟨g, 0, none⟩ else some ⟨g, m + 1, none⟩) (n - (m + 1)) (c - (m + 1))] 66)) (by simp) (fun i hi => by
    match i, hi with
    | 0, _ => exact ⟨_, Blk.cell (i := 0) k1 rfl, (slp_take HOw.out (by omega)).on hA1⟩
    | 1, _ => exact ⟨_, Blk.cell (i := 1) k1 rfl, (slp_drop1 HOw.out (by omega) hc).on hA1⟩) (by simp) (fun L hL => by
    rcases List.mem_cons.1 hL with rfl | hL
    · rw [List.length_take]; omega
    · rw [List.mem_singleton] at hL
      subst hL
      rw [List.length_drop]; omega)
  rw [show [P.take m, P.drop (m + 1)].flatten = P.take m ++ P.drop (m + 1) by simp, show ([P.take m, P.drop (m + 1)] : List (List Nat)).length = 2 from rfl] at CC
  have HA1 : Hid (Below wd.heap.size wd (wd.alloc (.cells #[.slice (some ⟨g, 0, none⟩) m c, .slice (if c = m + 1 then some ⟨g, 0, none⟩ else some ⟨g, m + 1, none⟩) (n - (m + 1)) (c - (m + 1))] 66))) := hA1
  clear hA1 k1
  refine tk (v := ?_) 0 rfl ?_ ?_
  rotate_left
  focus
    intro w9
    go_simp
    try with_reducible rfl
  try simp only [aP]
  refine tk (v := ?_) 1 rfl ?_ ?_
  rotate_left
  focus
    intro w9
    go_simp
    try with_reducible rfl
  try simp only [aP]
  refine tk (v := ?_) 2 rfl ?_ ?_
  rotate_left
  focus
    intro w9
    go_simp
    try with_reducible rfl
  try simp only [aP]
  refine tk (v := ?_) 4 rfl ?_ ?_
  rotate_left
  focus
    intro w9
    go_simp
    try with_reducible rfl
  try simp only [aP]
  refine tk (v := ?_) 5 rfl ?_ ?_
  rotate_left
  focus
    intro w9
    go_simp
    try with_reducible rfl
  try simp only [aP]
  refine tk (v := ?_) 6 rfl ?_ ?_
  rotate_left
  focus
    intro w9
    go_simp
    try with_reducible rfl
  try simp only [aP]
  refine tk (v := ?_) 8 rfl ?_ ?_
  rotate_left
  focus
    intro w9
    go_simp
    try with_reducible rfl
  try simp only [aP]
  refine tk (v := ?_) 10 rfl ?_ ?_
  rotate_left
  focus
    intro w9
    go_simp
    try with_reducible rfl
  try simp only [aP]
  refine tk (v := ?_) 11 rfl ?_ ?_
  rotate_left
  focus
    intro w9
    go_simp
    try with_reducible rfl
  try simp only [aP]
  refine tk (v := ?_) 12 rfl ?_ ?_
  rotate_left
  focus
    intro w9
    go_simp
    try with_reducible rfl
  try simp only [aP]
  refine tk (v := ?_) 14 rfl ?_ ?_
  rotate_left
  focus
    intro w9
    go_simp
    try with_reducible rfl
  try simp only [aP]
  refine tk (v := ?_) 15 rfl ?_ ?_
  rotate_left
  focus
    intro w9
    go_simp
    first | (rw [hwr]; done) | (rw [hwr]; with_reducible rfl) | with_reducible rfl
  try simp only [aP]
  apply later4 (fun (p4 : Option Addr) (n4 : Nat) (c4 : Nat) (w4 : World) => Hid (OwnT w4 ((wd.alloc (.cells #[.slice (some ⟨g, 0, none⟩) m c, .slice (if c = m + 1 then some ⟨g, 0, none⟩ else some ⟨g, m + 1, none⟩) (n - (m + 1)) (c - (m + 1))] 66)).heap.size) (.slice p4 n4 c4) (P.take m ++ P.drop (m + 1)) ∧ Below (wd.alloc (.cells #[.slice (some ⟨g, 0, none⟩) m c, .slice (if c = m + 1 then some ⟨g, 0, none⟩ else some ⟨g, m + 1, none⟩) (n - (m + 1)) (c - (m + 1))] 66)).heap.size (wd.alloc (.cells #[.slice (some ⟨g, 0, none⟩) m c, .slice (if c = m + 1 then some ⟨g, 0, none⟩ else some ⟨g, m + 1, none⟩) (n - (m + 1)) (c - (m + 1))] 66)) w4))
  intro hs3_7_13_17_18_19_20
  apply later4 (fun (p4 : Option Addr) (n4 : Nat) (c4 : Nat) (w4 : World) => Hid (OwnT w4 ((wd.alloc (.cells #[.slice (some ⟨g, 0, none⟩) m c, .slice (if c = m + 1 then some ⟨g, 0, none⟩ else some ⟨g, m + 1, none⟩) (n - (m + 1)) (c - (m + 1))] 66)).heap.size) (.slice p4 n4 c4) (P.take m ++ P.drop (m + 1)) ∧ Below (wd.alloc (.cells #[.slice (some ⟨g, 0, none⟩) m c, .slice (if c = m + 1 then some ⟨g, 0, none⟩ else some ⟨g, m + 1, none⟩) (n - (m + 1)) (c - (m + 1))] 66)).heap.size (wd.alloc (.cells #[.slice (some ⟨g, 0, none⟩) m c, .slice (if c = m + 1 then some ⟨g, 0, none⟩ else some ⟨g, m + 1, none⟩) (n - (m + 1)) (c - (m + 1))] 66)) w4))
  intro hs3_7_13_17_18_19
  apply later4 (fun (p4 : Option Addr) (n4 : Nat) (c4 : Nat) (w4 : World) => Hid (OwnT w4 ((wd.alloc (.cells #[.slice (some ⟨g, 0, none⟩) m c, .slice (if c = m + 1 then some ⟨g, 0, none⟩ else some ⟨g, m + 1, none⟩) (n - (m + 1)) (c - (m + 1))] 66)).heap.size) (.slice p4 n4 c4) (P.take m ++ P.drop (m + 1)) ∧ Below (wd.alloc (.cells #[.slice (some ⟨g, 0, none⟩) m c, .slice (if c = m + 1 then some ⟨g, 0, none⟩ else some ⟨g, m + 1, none⟩) (n - (m + 1)) (c - (m + 1))] 66)).heap.size (wd.alloc (.cells #[.slice (some ⟨g, 0, none⟩) m c, .slice (if c = m + 1 then some ⟨g, 0, none⟩ else some ⟨g, m + 1, none⟩) (n - (m + 1)) (c - (m + 1))] 66)) w4))
  intro hs3_7_13_17_18
  apply later4 (fun (p4 : Option Addr) (n4 : Nat) (c4 : Nat) (w4 : World) => Hid (OwnT w4 ((wd.alloc (.cells #[.slice (some ⟨g, 0, none⟩) m c, .slice (if c = m + 1 then some ⟨g, 0, none⟩ else some ⟨g, m + 1, none⟩) (n - (m + 1)) (c - (m + 1))] 66)).heap.size) (.slice p4 n4 c4) (P.take m ++ P.drop (m + 1)) ∧ Below (wd.alloc (.cells #[.slice (some ⟨g, 0, none⟩) m c, .slice (if c = m + 1 then some ⟨g, 0, none⟩ else some ⟨g, m + 1, none⟩) (n - (m + 1)) (c - (m + 1))] 66)).heap.size (wd.alloc (.cells #[.slice (some ⟨g, 0, none⟩) m c, .slice (if c = m + 1 then some ⟨g, 0, none⟩ else some ⟨g, m + 1, none⟩) (n - (m + 1)) (c - (m + 1))] 66)) w4))
  intro hs7_13_17_18
  apply later0
  intro hs3_7_13_17
  apply later0
  intro hs7_13_17
  apply later0
  intro hs3_7_13
  apply later0
  intro hs7_13
  apply later0
  intro hs3_13
  apply later0
  intro hs3_7
  apply later0
  intro hs13
  apply later0
  intro hs7
  apply later0
  intro hs3
  · have y0 := Blk.cell (i := 0) HX.out rfl
    have y1 := Blk.cell (i := 1) HX.out rfl
    refine wpAny_ready (rs := [3, 7, 13]) (by kernel_rfl) (by simp) ?_
    refine anyN_cons 3 rfl (by rfl) (fun K hK => ?_) (anyN_cons 7 rfl (by rfl) (fun K hK => ?_) (anyN_cons 13 rfl (by rfl) (fun K hK => ?_) AllReady.nil))
    · go_simp
      refine hK.out _ _ ?_
      clear hK K
      try simp only [aP]
      exact hs3
    · go_simp
      refine hK.out _ _ ?_
      clear hK K
      try simp only [aP]
      refine tk (v := ?_) 9 rfl ?_ ?_
      rotate_left
      focus
        intro w9
        go_simp
        first | with_reducible rfl | exact if_pos hmcN | exact if_pos hmcI
      try simp only [aP]
      exact hs7
    · go_simp
      refine hK.out _ _ ?_
      clear hK K
      try simp only [aP]
      refine tk (v := ?_) 16 rfl ?_ ?_
      rotate_left
      focus
        intro w9
        go_simp
        first | with_reducible rfl | exact if_pos hmnI
      try simp only [aP]
      exact hs13
  · have y0 := Blk.cell (i := 0) HX.out rfl
    have y1 := Blk.cell (i := 1) HX.out rfl
    refine wpAny_ready (rs := [7, 13]) (by kernel_rfl) (by simp) ?_
    refine anyN_cons 7 rfl (by rfl) (fun K hK => ?_) (anyN_cons 13 rfl (by rfl) (fun K hK => ?_) AllReady.nil)
    · go_simp
      refine hK.out _ _ ?_
      clear hK K
      try simp only [aP]
      refine tk (v := ?_) 9 rfl ?_ ?_
      rotate_left
      focus
        intro w9
        go_simp
        first | with_reducible rfl | exact if_pos hmcN | exact if_pos hmcI
      try simp only [aP]
      exact hs3_7
    · go_simp
      refine hK.out _ _ ?_
      clear hK K
      try simp only [aP]
      refine tk (v := ?_) 16 rfl ?_ ?_
      rotate_left
      focus
        intro w9
        go_simp
        first | with_reducible rfl | exact if_pos hmnI
      try simp only [aP]
      exact hs3_13
  · have y0 := Blk.cell (i := 0) HX.out rfl
    have y1 := Blk.cell (i := 1) HX.out rfl
    refine wpAny_ready (rs := [3, 13]) (by kernel_rfl) (by simp) ?_
    refine anyN_cons 3 rfl (by rfl) (fun K hK => ?_) (anyN_cons 13 rfl (by rfl) (fun K hK => ?_) AllReady.nil)
    · go_simp
      refine hK.out _ _ ?_
      clear hK K
      try simp only [aP]
      exact hs3_7
    · go_simp
      refine hK.out _ _ ?_
      clear hK K
      try simp only [aP]
      refine tk (v := ?_) 16 rfl ?_ ?_
      rotate_left
      focus
        intro w9
        go_simp
        first | with_reducible rfl | exact if_pos hmnI
      try simp only [aP]
      exact hs7_13
  · have y0 := Blk.cell (i := 0) HX.out rfl
    have y1 := Blk.cell (i := 1) HX.out rfl
    refine wpAny_ready (rs := [3, 7]) (by kernel_rfl) (by simp) ?_
    refine anyN_cons 3 rfl (by rfl) (fun K hK => ?_) (anyN_cons 7 rfl (by rfl) (fun K hK => ?_) AllReady.nil)
    · go_simp
      refine hK.out _ _ ?_
      clear hK K
      try simp only [aP]
      exact hs3_13
    · go_simp
      refine hK.out _ _ ?_
      clear hK K
      try simp only [aP]
      refine tk (v := ?_) 9 rfl ?_ ?_
      rotate_left
      focus
        intro w9
        go_simp
        first | with_reducible rfl | exact if_pos hmcN | exact if_pos hmcI
      try simp only [aP]
      exact hs7_13
  · have y0 := Blk.cell (i := 0) HX.out rfl
    have y1 := Blk.cell (i := 1) HX.out rfl
    refine wpAny_ready (rs := [13]) (by kernel_rfl) (by simp) ?_
    refine anyN_cons 13 rfl (by rfl) (fun K hK => ?_) AllReady.nil
    go_simp
    refine hK.out _ _ ?_
    clear hK K
    try simp only [aP]
    refine tk (v := ?_) 16 rfl ?_ ?_
    rotate_left
    focus
      intro w9
      go_simp
      first | with_reducible rfl | exact if_pos hmnI
    try simp only [aP]
    exact hs3_7_13
  · have y0 := Blk.cell (i := 0) HX.out rfl
    have y1 := Blk.cell (i := 1) HX.out rfl
    refine wpAny_ready (rs := [7]) (by kernel_rfl) (by simp) ?_
    refine anyN_cons 7 rfl (by rfl) (fun K hK => ?_) AllReady.nil
    go_simp
    refine hK.out _ _ ?_
    clear hK K
    try simp only [aP]
    refine tk (v := ?_) 9 rfl ?_ ?_
    rotate_left
    focus
      intro w9
      go_simp
      first | with_reducible rfl | exact if_pos hmcN | exact if_pos hmcI
    try simp only [aP]
    exact hs3_7_13
  · have y0 := Blk.cell (i := 0) HX.out rfl
    have y1 := Blk.cell (i := 1) HX.out rfl
    refine wpAny_ready (rs := [3, 17]) (by kernel_rfl) (by simp) ?_
    refine anyN_cons 3 rfl (by rfl) (fun K hK => ?_) (anyN_cons 17 rfl (by rfl) (fun K hK => ?_) AllReady.nil)
    · go_simp
      refine hK.out _ _ ?_
      clear hK K
      try simp only [aP]
      exact hs3_7_13
    · go_simp
      refine hK.out _ _ ?_
      clear hK K
      try simp only [aP]
      exact hs7_13_17
  · have y0 := Blk.cell (i := 0) HX.out rfl
    have y1 := Blk.cell (i := 1) HX.out rfl
    refine wpAny_ready (rs := [17]) (by kernel_rfl) (by simp) ?_
    refine anyN_cons 17 rfl (by rfl) (fun K hK => ?_) AllReady.nil
    go_simp
    refine hK.out _ _ ?_
    clear hK K
    try simp only [aP]
    exact hs3_7_13_17
  · have y0 := Blk.cell (i := 0) (HX.out.on HA1.out) rfl
    refine wpAny_ready (rs := [3, 18]) (by kernel_rfl) (by simp) ?_
    refine anyN_cons 3 rfl (by rfl) (fun K hK => ?_) (anyN_cons 18 rfl (by rfl) (fun K hK => ?_) AllReady.nil)
    · go_simp
      refine hK.out _ _ ?_
      clear hK K
      try simp only [aP]
      exact hs3_7_13_17
    · go_simp
      refine CC.out.mono ?_
      rintro e w4 ⟨⟨v4, rfl, ho4⟩, hb4⟩
      dsimp only
      obtain ⟨p4, n4, c4, hv4⟩ : ∃ p n c, v4 = .slice p n c := by
        obtain ⟨p, c, e, -⟩ := owns_len ho4
        exact ⟨p, _, c, e⟩
      subst hv4
      have H4 : Hid (OwnT w4 ((wd.alloc (.cells #[.slice (some ⟨g, 0, none⟩) m c, .slice (if c = m + 1 then some ⟨g, 0, none⟩ else some ⟨g, m + 1, none⟩) (n - (m + 1)) (c - (m + 1))] 66)).heap.size) (.slice p4 n4 c4) (P.take m ++ P.drop (m + 1)) ∧ Below (wd.alloc (.cells #[.slice (some ⟨g, 0, none⟩) m c, .slice (if c = m + 1 then some ⟨g, 0, none⟩ else some ⟨g, m + 1, none⟩) (n - (m + 1)) (c - (m + 1))] 66)).heap.size (wd.alloc (.cells #[.slice (some ⟨g, 0, none⟩) m c, .slice (if c = m + 1 then some ⟨g, 0, none⟩ else some ⟨g, m + 1, none⟩) (n - (m + 1)) (c - (m + 1))] 66)) w4) := ⟨ho4, hb4⟩
      clear ho4 hb4
      refine hK.out _ _ ?_
      clear hK K
      try simp only [aP]
      exact hs7_13_17_18 p4 n4 c4 w4 H4
  · have y0 := Blk.cell (i := 0) (HX.out.on HA1.out) rfl
    refine wpAny_ready (rs := [18]) (by kernel_rfl) (by simp) ?_
    refine anyN_cons 18 rfl (by rfl) (fun K hK => ?_) AllReady.nil
    go_simp
    refine CC.out.mono ?_
    rintro e w4 ⟨⟨v4, rfl, ho4⟩, hb4⟩
    dsimp only
    obtain ⟨p4, n4, c4, hv4⟩ : ∃ p n c, v4 = .slice p n c := by
      obtain ⟨p, c, e, -⟩ := owns_len ho4
      exact ⟨p, _, c, e⟩
    subst hv4
    have H4 : Hid (OwnT w4 ((wd.alloc (.cells #[.slice (some ⟨g, 0, none⟩) m c, .slice (if c = m + 1 then some ⟨g, 0, none⟩ else some ⟨g, m + 1, none⟩) (n - (m + 1)) (c - (m + 1))] 66)).heap.size) (.slice p4 n4 c4) (P.take m ++ P.drop (m + 1)) ∧ Below (wd.alloc (.cells #[.slice (some ⟨g, 0, none⟩) m c, .slice (if c = m + 1 then some ⟨g, 0, none⟩ else some ⟨g, m + 1, none⟩) (n - (m + 1)) (c - (m + 1))] 66)).heap.size (wd.alloc (.cells #[.slice (some ⟨g, 0, none⟩) m c, .slice (if c = m + 1 then some ⟨g, 0, none⟩ else some ⟨g, m + 1, none⟩) (n - (m + 1)) (c - (m + 1))] 66)) w4) := ⟨ho4, hb4⟩
    clear ho4 hb4
    refine hK.out _ _ ?_
    clear hK K
    try simp only [aP]
    exact hs3_7_13_17_18 p4 n4 c4 w4 H4
  · intro p4 n4 c4 w4 H4
    have y0 := Blk.cell (i := 0) ((HX.out.on HA1.out).on H4.out.2) rfl
    refine wpAny_ready (rs := [3]) (by kernel_rfl) (by simp) ?_
    refine anyN_cons 3 rfl (by rfl) (fun K hK => ?_) AllReady.nil
    go_simp
    refine hK.out _ _ ?_
    clear hK K
    try simp only [aP]
    exact hs3_7_13_17_18 p4 n4 c4 w4 H4
  · intro p4 n4 c4 w4 H4
    have y0 := Blk.cell (i := 0) ((HX.out.on HA1.out).on H4.out.2) rfl
    refine wpAny_ready (rs := [19]) (by kernel_rfl) (by simp) ?_
    refine anyN_cons 19 rfl (by rfl) (fun K hK => ?_) AllReady.nil
    go_simp
    refine hK.out _ _ ?_
    clear hK K
    try simp only [aP]
    exact hs3_7_13_17_18_19 p4 n4 c4 w4 H4
  · intro p4 n4 c4 w4 H4
    refine wpAny_ready (rs := [20]) (by kernel_rfl) (by simp) ?_
    refine anyN_cons 20 rfl (by rfl) (fun K hK => ?_) AllReady.nil
    go_simp
    refine hK.out _ _ ?_
    clear hK K
    try simp only [aP]
    exact hs3_7_13_17_18_19_20 p4 n4 c4 w4 H4
  · intro p4 n4 c4 w4 H4
    refine wpAny_ready (rs := [21]) (by kernel_rfl) (by simp) ?_
    refine anyN_cons 21 rfl (by rfl) (fun K hK => ?_) AllReady.nil
    go_simp
    refine hK.out _ _ ?_
    clear hK K
    try simp only [aP]
    refine wpAny_done (by kernel_rfl) ?_ _
    generalize (if c = m + 1 then (some ⟨g, 0, none⟩ : Option Addr) else some ⟨g, m + 1, none⟩) = pq at *
    go_wp2_with fail
    go_ret
    obtain ⟨bX, bB, bS⟩ := blk_new w4 #[.int .u64 (nx : Nat), .slice p4 n4 c4] 68
    have hb24 : Below wd.heap.size wd w4 := HA1.out.trans (H4.out.2.mono HA1.out.size)
    exact ⟨w4.heap.size, .slice p4 n4 c4, rfl, bX, owns_kept (owns_base H4.out.1 (Nat.le_trans HWd.out.size HA1.out.size)) bB, Nat.le_trans HWd.out.size hb24.size, (HWd.out.trans (hb24.mono HWd.out.size)).trans (bB.mono (Nat.le_trans HWd.out.size hb24.size))⟩
end Go.Proofs.YtcdamalpecedcaaGreat
