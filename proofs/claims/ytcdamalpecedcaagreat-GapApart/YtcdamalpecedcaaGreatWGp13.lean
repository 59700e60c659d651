/- Layer 13: with: a line with one taker more. -/
import Derived.Test.YtcdamalpecedcaaGreatWGp12
namespace Go.Proofs.YtcdamalpecedcaaGreat
open Go.RowKit
set_option maxRecDepth 100000

theorem slp_of {w : World} {B : Nat} {v : Value} {P : List Nat} (h : OwnT w B v P) : SlP w v P := by
  obtain ⟨p, c, rfl, hat⟩ := OwnT.at h
  refine ⟨p, c, rfl, fun hp => ?_, fun a ha => ?_, fun i hi => ?_⟩
  · rcases h.2 with ⟨e9, h2⟩ | ⟨g, cap, cur, e9, _⟩
    · injection e9 with _ _ e3
      exact ⟨List.eq_nil_of_length_eq_zero h2, e3⟩
    · injection e9 with e8
      rw [hp] at e8
      cases e8
  · rcases h.2 with ⟨e9, _⟩ | ⟨g, cap, cur, e9, _⟩
    · injection e9 with e8
      rw [ha] at e8
      cases e8
    · injection e9 with e8
      rw [ha] at e8
      injection e8 with e8
      exact ⟨g, 0, e8⟩
  · obtain ⟨g, e, hg, c0⟩ := hat i hi
    exact ⟨g, 0, e, hg, by rw [Nat.zero_add]; exact c0⟩

theorem slp_single {w : World} {g tb : Nat} (h : Blk w g #[ptr1 tb] 77) : SlP w (.slice (some ⟨g, 0, none⟩) 1 1) [tb] := by
  refine ⟨_, _, rfl, fun h => ?_, fun a ha => ?_, fun j hj => ?_⟩
  · cases h
  · cases ha
    exact ⟨_, _, rfl⟩
  · have e : j = 0 := by simpa using hj
    subst e
    exact ⟨g, 0, rfl, h.lt, Blk.cell (i := 0) h rfl⟩

set_option maxHeartbeats 8000000 in
theorem with_any (xb nx tb n c : Nat) (p : Option Addr) (P : List Nat) (w : World) (hb : Blk w xb #[.int .u64 (nx : Nat), .slice p n c] 68) (ho : OwnT w 0 (.slice p n c) P) (hl : P.length ≤ 256) (hnx : nx < 9000000000000000000) :
    Calls Tryz.prog 49 #[ptr1 xb, ptr1 tb] w fun e w' => ∃ yb v, e = .returned (ptr1 yb) ∧ Blk w' yb #[.int .u64 ((nx + 1 : Nat) : Int), v] 68 ∧ OwnT w' w.heap.size v (P ++ [tb]) ∧ w.heap.size ≤ yb ∧ Below w.heap.size w w' := by
  have hdr : Below w.heap.size w w.drew := (Below.refl _ _).drew
  have HX : Hid (Blk w.drew xb #[.int .u64 (nx : Nat), .slice p n c] 68) := hb.on hdr
  have HOw : Hid (OwnT w.drew 0 (.slice p n c) P) := owns_kept ho hdr
  have HWd : Hid (Below w.heap.size w w.drew) := hdr
  have hnw : IntKind.u64.wrap ((nx : Int) + 1) = ((nx + 1 : Nat) : Int) := by
    simp [IntKind.wrap, IntKind.bits, IntKind.signed]
    omega
  clear hb ho hdr
  go_enter Tryz.func49, Tryz.ntmps49
  go_upto_region 1 with fail
  refine wp_region_any (by kernel_rfl) ?_
  change wpAny _ _ _ _ _ _ _ (World.drew _)
  generalize w.drew = wd at *
  have hA1 : Below wd.heap.size wd (wd.alloc (.cells #[ptr1 tb] 77)) := (Below.refl _ _).alloc (Nat.le_refl _) _
  have hs1 : (wd.alloc (.cells #[ptr1 tb] 77)).heap.size = wd.heap.size + 1 := by simp
  have hA12 : Below (wd.alloc (.cells #[ptr1 tb] 77)).heap.size (wd.alloc (.cells #[ptr1 tb] 77)) ((wd.alloc (.cells #[ptr1 tb] 77)).alloc (.cells #[.slice p n c, .slice (some ⟨wd.heap.size, 0, none⟩) 1 1] 66)) := (Below.refl _ _).alloc (Nat.le_refl _) _
  have hA2 : Below wd.heap.size wd ((wd.alloc (.cells #[ptr1 tb] 77)).alloc (.cells #[.slice p n c, .slice (some ⟨wd.heap.size, 0, none⟩) 1 1] 66)) := hA1.trans (hA12.mono hA1.size)
  have hs2 : ((wd.alloc (.cells #[ptr1 tb] 77)).alloc (.cells #[.slice p n c, .slice (some ⟨wd.heap.size, 0, none⟩) 1 1] 66)).heap.size = wd.heap.size + 1 + 1 := by simp
  have k2 : Blk ((wd.alloc (.cells #[ptr1 tb] 77)).alloc (.cells #[.slice p n c, .slice (some ⟨wd.heap.size, 0, none⟩) 1 1] 66)) (wd.heap.size + 1) #[.slice p n c, .slice (some ⟨wd.heap.size, 0, none⟩) 1 1] 66 := by
    have h9 := Blk.new (wd.alloc (.cells #[ptr1 tb] 77)) #[.slice p n c, .slice (some ⟨wd.heap.size, 0, none⟩) 1 1] 66
    rw [hs1] at h9
    exact h9
  have k1 : Blk ((wd.alloc (.cells #[ptr1 tb] 77)).alloc (.cells #[.slice p n c, .slice (some ⟨wd.heap.size, 0, none⟩) 1 1] 66)) wd.heap.size #[ptr1 tb] 77 := (Blk.new wd #[ptr1 tb] 77).on hA12
  have CC : Hid (Calls _ _ _ _ _) := concatP_any [P, [tb]] (wd.heap.size + 1) ((wd.alloc (.cells #[ptr1 tb] 77)).alloc (.cells #[.slice p n c, .slice (some ⟨wd.heap.size, 0, none⟩) 1 1] 66)) (by omega) (fun i hi => by
    match i, hi with
    | 0, _ => exact ⟨_, Blk.cell (i := 0) k2 rfl, (slp_of HOw.out).on hA2⟩
    | 1, _ => exact ⟨_, Blk.cell (i := 1) k2 rfl, slp_single k1⟩) (by simp) (fun L hL => by
    rcases List.mem_cons.1 hL with rfl | hL
    · exact hl
    · rw [List.mem_singleton] at hL
      subst hL
      simp)
  rw [show [P, [tb]].flatten = P ++ [tb] by simp, show ([P, [tb]] : List (List Nat)).length = 2 from rfl] at CC
  have HA1 : Hid (Below wd.heap.size wd (wd.alloc (.cells #[ptr1 tb] 77))) := hA1
  have HA2 : Hid (Below wd.heap.size wd ((wd.alloc (.cells #[ptr1 tb] 77)).alloc (.cells #[.slice p n c, .slice (some ⟨wd.heap.size, 0, none⟩) 1 1] 66))) := hA2
  clear hA1 hs1 hA12 hA2 hs2 k1 k2 hl
  refine tk (v := ?_) 0 rfl ?_ ?_
  rotate_left
  focus
    intro w9
    go_simp
    try with_reducible rfl
  try simp only [aP]
  refine tk (v := ?_) 1 rfl ?_ ?_
  rotate_left
  focus
    intro w9
    go_simp
    try with_reducible rfl
  try simp only [aP]
  refine tk (v := ?_) 2 rfl ?_ ?_
  rotate_left
  focus
    intro w9
    go_simp
    try with_reducible rfl
  try simp only [aP]
  refine tk (v := ?_) 5 rfl ?_ ?_
  rotate_left
  focus
    intro w9
    go_simp
    try with_reducible rfl
  try simp only [aP]
  refine tk (v := ?_) 6 rfl ?_ ?_
  rotate_left
  focus
    intro w9
    go_simp
    try with_reducible rfl
  try simp only [aP]
  refine tk (v := ?_) 7 rfl ?_ ?_
  rotate_left
  focus
    intro w9
    go_simp
    try with_reducible rfl
  try simp only [aP]
  refine tk (v := ?_) 9 rfl ?_ ?_
  rotate_left
  focus
    intro w9
    go_simp
    try with_reducible rfl
  try simp only [aP]
  apply later4 (fun (p4 : Option Addr) (n4 : Nat) (c4 : Nat) (w4 : World) => Hid (OwnT w4 (((wd.alloc (.cells #[ptr1 tb] 77)).alloc (.cells #[.slice p n c, .slice (some ⟨wd.heap.size, 0, none⟩) 1 1] 66)).heap.size) (.slice p4 n4 c4) (P ++ [tb]) ∧ Below ((wd.alloc (.cells #[ptr1 tb] 77)).alloc (.cells #[.slice p n c, .slice (some ⟨wd.heap.size, 0, none⟩) 1 1] 66)).heap.size ((wd.alloc (.cells #[ptr1 tb] 77)).alloc (.cells #[.slice p n c, .slice (some ⟨wd.heap.size, 0, none⟩) 1 1] 66)) w4))
  intro hs3_8_10_11_12_13_14
  apply later4 (fun (p4 : Option Addr) (n4 : Nat) (c4 : Nat) (w4 : World) => Hid (OwnT w4 (((wd.alloc (.cells #[ptr1 tb] 77)).alloc (.cells #[.slice p n c, .slice (some ⟨wd.heap.size, 0, none⟩) 1 1] 66)).heap.size) (.slice p4 n4 c4) (P ++ [tb]) ∧ Below ((wd.alloc (.cells #[ptr1 tb] 77)).alloc (.cells #[.slice p n c, .slice (some ⟨wd.heap.size, 0, none⟩) 1 1] 66)).heap.size ((wd.alloc (.cells #[ptr1 tb] 77)).alloc (.cells #[.slice p n c, .slice (some ⟨wd.heap.size, 0, none⟩) 1 1] 66)) w4))
  intro hs3_8_10_11_12_13
  apply later4 (fun (p4 : Option Addr) (n4 : Nat) (c4 : Nat) (w4 : World) => Hid (OwnT w4 (((wd.alloc (.cells #[ptr1 tb] 77)).alloc (.cells #[.slice p n c, .slice (some ⟨wd.heap.size, 0, none⟩) 1 1] 66)).heap.size) (.slice p4 n4 c4) (P ++ [tb]) ∧ Below ((wd.alloc (.cells #[ptr1 tb] 77)).alloc (.cells #[.slice p n c, .slice (some ⟨wd.heap.size, 0, none⟩) 1 1] 66)).heap.size ((wd.alloc (.cells #[ptr1 tb] 77)).alloc (.cells #[.slice p n c, .slice (some ⟨wd.heap.size, 0, none⟩) 1 1] 66)) w4))
  intro hs3_8_10_11_12
  apply later4 (fun (p4 : Option Addr) (n4 : Nat) (c4 : Nat) (w4 : World) => Hid (OwnT w4 (((wd.alloc (.cells #[ptr1 tb] 77)).alloc (.cells #[.slice p n c, .slice (some ⟨wd.heap.size, 0, none⟩) 1 1] 66)).heap.size) (.slice p4 n4 c4) (P ++ [tb]) ∧ Below ((wd.alloc (.cells #[ptr1 tb] 77)).alloc (.cells #[.slice p n c, .slice (some ⟨wd.heap.size, 0, none⟩) 1 1] 66)).heap.size ((wd.alloc (.cells #[ptr1 tb] 77)).alloc (.cells #[.slice p n c, .slice (some ⟨wd.heap.size, 0, none⟩) 1 1] 66)) w4))
  intro hs8_10_11_12
  apply later0
  intro hs3_8_10_11
  apply later0
  intro hs8_10_11
  apply later0
  intro hs3_8_10
  apply later0
  intro hs8_10
  apply later0
  intro hs3_10
  apply later0
  intro hs3_8
  apply later0
  intro hs10
  apply later0
  intro hs8
  apply later0
  intro hs3
  · have y0 := Blk.cell (i := 0) HX.out rfl
    have y1 := Blk.cell (i := 1) HX.out rfl
    refine wpAny_ready (rs := [3, 8, 10]) (by kernel_rfl) (by simp) ?_
    refine anyN_cons 3 rfl (by rfl) (fun K hK => ?_) (anyN_cons 8 rfl (by rfl) (fun K hK => ?_) (anyN_cons 10 rfl (by rfl) (fun K hK => ?_) AllReady.nil))
    · go_simp
      refine hK.out _ _ ?_
      clear hK K
      try simp only [aP]
      refine tk (v := ?_) 4 rfl ?_ ?_
      rotate_left
      focus
        intro w9
        go_simp
        try with_reducible rfl
      try simp only [aP]
      exact hs3
    · go_simp
      refine hK.out _ _ ?_
      clear hK K
      try simp only [aP]
      exact hs8
    · go_simp
      refine hK.out _ _ ?_
      clear hK K
      try simp only [aP]
      exact hs10
  · have y0 := Blk.cell (i := 0) HX.out rfl
    have y1 := Blk.cell (i := 1) HX.out rfl
    refine wpAny_ready (rs := [8, 10]) (by kernel_rfl) (by simp) ?_
    refine anyN_cons 8 rfl (by rfl) (fun K hK => ?_) (anyN_cons 10 rfl (by rfl) (fun K hK => ?_) AllReady.nil)
    · go_simp
      refine hK.out _ _ ?_
      clear hK K
      try simp only [aP]
      exact hs3_8
    · go_simp
      refine hK.out _ _ ?_
      clear hK K
      try simp only [aP]
      exact hs3_10
  · have y0 := Blk.cell (i := 0) HX.out rfl
    have y1 := Blk.cell (i := 1) HX.out rfl
    refine wpAny_ready (rs := [3, 10]) (by kernel_rfl) (by simp) ?_
    refine anyN_cons 3 rfl (by rfl) (fun K hK => ?_) (anyN_cons 10 rfl (by rfl) (fun K hK => ?_) AllReady.nil)
    · go_simp
      refine hK.out _ _ ?_
      clear hK K
      try simp only [aP]
      refine tk (v := ?_) 4 rfl ?_ ?_
      rotate_left
      focus
        intro w9
        go_simp
        try with_reducible rfl
      try simp only [aP]
      exact hs3_8
    · go_simp
      refine hK.out _ _ ?_
      clear hK K
      try simp only [aP]
      exact hs8_10
  · have y0 := Blk.cell (i := 0) (HX.out.on HA1.out) rfl
    have y1 := Blk.cell (i := 1) (HX.out.on HA1.out) rfl
    refine wpAny_ready (rs := [3, 8]) (by kernel_rfl) (by simp) ?_
    refine anyN_cons 3 rfl (by rfl) (fun K hK => ?_) (anyN_cons 8 rfl (by rfl) (fun K hK => ?_) AllReady.nil)
    · go_simp
      refine hK.out _ _ ?_
      clear hK K
      try simp only [aP]
      refine tk (v := ?_) 4 rfl ?_ ?_
      rotate_left
      focus
        intro w9
        go_simp
        try with_reducible rfl
      try simp only [aP]
      exact hs3_10
    · go_simp
      refine hK.out _ _ ?_
      clear hK K
      try simp only [aP]
      exact hs8_10
  · have y0 := Blk.cell (i := 0) HX.out rfl
    have y1 := Blk.cell (i := 1) HX.out rfl
    refine wpAny_ready (rs := [10]) (by kernel_rfl) (by simp) ?_
    refine anyN_cons 10 rfl (by rfl) (fun K hK => ?_) AllReady.nil
    go_simp
    refine hK.out _ _ ?_
    clear hK K
    try simp only [aP]
    exact hs3_8_10
  · have y0 := Blk.cell (i := 0) (HX.out.on HA1.out) rfl
    have y1 := Blk.cell (i := 1) (HX.out.on HA1.out) rfl
    refine wpAny_ready (rs := [8]) (by kernel_rfl) (by simp) ?_
    refine anyN_cons 8 rfl (by rfl) (fun K hK => ?_) AllReady.nil
    go_simp
    refine hK.out _ _ ?_
    clear hK K
    try simp only [aP]
    exact hs3_8_10
  · have y0 := Blk.cell (i := 0) (HX.out.on HA1.out) rfl
    have y1 := Blk.cell (i := 1) (HX.out.on HA1.out) rfl
    refine wpAny_ready (rs := [3, 11]) (by kernel_rfl) (by simp) ?_
    refine anyN_cons 3 rfl (by rfl) (fun K hK => ?_) (anyN_cons 11 rfl (by rfl) (fun K hK => ?_) AllReady.nil)
    · go_simp
      refine hK.out _ _ ?_
      clear hK K
      try simp only [aP]
      refine tk (v := ?_) 4 rfl ?_ ?_
      rotate_left
      focus
        intro w9
        go_simp
        try with_reducible rfl
      try simp only [aP]
      exact hs3_8_10
    · go_simp
      refine hK.out _ _ ?_
      clear hK K
      try simp only [aP]
      exact hs8_10_11
  · have y0 := Blk.cell (i := 0) (HX.out.on HA1.out) rfl
    have y1 := Blk.cell (i := 1) (HX.out.on HA1.out) rfl
    refine wpAny_ready (rs := [11]) (by kernel_rfl) (by simp) ?_
    refine anyN_cons 11 rfl (by rfl) (fun K hK => ?_) AllReady.nil
    go_simp
    refine hK.out _ _ ?_
    clear hK K
    try simp only [aP]
    exact hs3_8_10_11
  · have y0 := Blk.cell (i := 0) (HX.out.on HA2.out) rfl
    refine wpAny_ready (rs := [3, 12]) (by kernel_rfl) (by simp) ?_
    refine anyN_cons 3 rfl (by rfl) (fun K hK => ?_) (anyN_cons 12 rfl (by rfl) (fun K hK => ?_) AllReady.nil)
    · go_simp
      refine hK.out _ _ ?_
      clear hK K
      try simp only [aP]
      refine tk (v := ?_) 4 rfl ?_ ?_
      rotate_left
      focus
        intro w9
        go_simp
        try with_reducible rfl
      try simp only [aP]
      exact hs3_8_10_11
    · go_simp
      refine CC.out.mono ?_
      rintro e w4 ⟨⟨v4, rfl, ho4⟩, hb4⟩
      dsimp only
      obtain ⟨p4, n4, c4, hv4⟩ : ∃ p n c, v4 = .slice p n c := by
        obtain ⟨p, c, e, -⟩ := owns_len ho4
        exact ⟨p, _, c, e⟩
      subst hv4
      have H4 : Hid (OwnT w4 (((wd.alloc (.cells #[ptr1 tb] 77)).alloc (.cells #[.slice p n c, .slice (some ⟨wd.heap.size, 0, none⟩) 1 1] 66)).heap.size) (.slice p4 n4 c4) (P ++ [tb]) ∧ Below ((wd.alloc (.cells #[ptr1 tb] 77)).alloc (.cells #[.slice p n c, .slice (some ⟨wd.heap.size, 0, none⟩) 1 1] 66)).heap.size ((wd.alloc (.cells #[ptr1 tb] 77)).alloc (.cells #[.slice p n c, .slice (some ⟨wd.heap.size, 0, none⟩) 1 1] 66)) w4) := ⟨ho4, hb4⟩
      clear ho4 hb4
      refine hK.out _ _ ?_
      clear hK K
      try simp only [aP]
      exact hs8_10_11_12 p4 n4 c4 w4 H4
  · have y0 := Blk.cell (i := 0) (HX.out.on HA2.out) rfl
    refine wpAny_ready (rs := [12]) (by kernel_rfl) (by simp) ?_
    refine anyN_cons 12 rfl (by rfl) (fun K hK => ?_) AllReady.nil
    go_simp
    refine CC.out.mono ?_
    rintro e w4 ⟨⟨v4, rfl, ho4⟩, hb4⟩
    dsimp only
    obtain ⟨p4, n4, c4, hv4⟩ : ∃ p n c, v4 = .slice p n c := by
      obtain ⟨p, c, e, -⟩ := owns_len ho4
      exact ⟨p, _, c, e⟩
    subst hv4
    have H4 : Hid (OwnT w4 (((wd.alloc (.cells #[ptr1 tb] 77)).alloc (.cells #[.slice p n c, .slice (some ⟨wd.heap.size, 0, none⟩) 1 1] 66)).heap.size) (.slice p4 n4 c4) (P ++ [tb]) ∧ Below ((wd.alloc (.cells #[ptr1 tb] 77)).alloc (.cells #[.slice p n c, .slice (some ⟨wd.heap.size, 0, none⟩) 1 1] 66)).heap.size ((wd.alloc (.cells #[ptr1 tb] 77)).alloc (.cells #[.slice p n c, .slice (some ⟨wd.heap.size, 0, none⟩) 1 1] 66)) w4) := ⟨ho4, hb4⟩
    clear ho4 hb4
    refine hK.out _ _ ?_
    clear hK K
    try simp only [aP]
    exact hs3_8_10_11_12 p4 n4 c4 w4 H4
  · intro p4 n4 c4 w4 H4
    have y0 := Blk.cell (i := 0) ((HX.out.on HA2.out).on H4.out.2) rfl
    refine wpAny_ready (rs := [3]) (by kernel_rfl) (by simp) ?_
    refine anyN_cons 3 rfl (by rfl) (fun K hK => ?_) AllReady.nil
    go_simp
    refine hK.out _ _ ?_
    clear hK K
    try simp only [aP]
    refine tk (v := ?_) 4 rfl ?_ ?_
    rotate_left
    focus
      intro w9
      go_simp
      try with_reducible rfl
    try simp only [aP]
    exact hs3_8_10_11_12 p4 n4 c4 w4 H4
  · intro p4 n4 c4 w4 H4
    have y0 := Blk.cell (i := 0) ((HX.out.on HA2.out).on H4.out.2) rfl
    refine wpAny_ready (rs := [13]) (by kernel_rfl) (by simp) ?_
    refine anyN_cons 13 rfl (by rfl) (fun K hK => ?_) AllReady.nil
    go_simp
    refine hK.out _ _ ?_
    clear hK K
    try simp only [aP]
    exact hs3_8_10_11_12_13 p4 n4 c4 w4 H4
  · intro p4 n4 c4 w4 H4
    refine wpAny_ready (rs := [14]) (by kernel_rfl) (by simp) ?_
    refine anyN_cons 14 rfl (by rfl) (fun K hK => ?_) AllReady.nil
    go_simp
    refine hK.out _ _ ?_
    clear hK K
    try simp only [aP]
    exact hs3_8_10_11_12_13_14 p4 n4 c4 w4 H4
  · intro p4 n4 c4 w4 H4
    refine wpAny_ready (rs := [15]) (by kernel_rfl) (by simp) ?_
    refine anyN_cons 15 rfl (by rfl) (fun K hK => ?_) AllReady.nil
    go_simp
    refine hK.out _ _ ?_
    clear hK K
    try simp only [aP]
    refine wpAny_done (by kernel_rfl) ?_ _
    go_wp2_with fail
    go_ret
    obtain ⟨bX, bB, bS⟩ := blk_new w4 #[.int .u64 ((nx + 1 : Nat) : Int), .slice p4 n4 c4] 68
    have hb24 : Below wd.heap.size wd w4 := HA2.out.trans (H4.out.2.mono HA2.out.size)
    exact ⟨w4.heap.size, _, rfl, bX, owns_kept (owns_base H4.out.1 (Nat.le_trans HWd.out.size HA2.out.size)) bB, Nat.le_trans HWd.out.size hb24.size, (HWd.out.trans (hb24.mono HWd.out.size)).trans (bB.mono (Nat.le_trans HWd.out.size hb24.size))⟩
end Go.Proofs.YtcdamalpecedcaaGreat
