/- is; awake. -/
import Derived.Test.YtbmgkoifidhfjaaWSnp11
import Derived.Test.YtbmgkoifidhfjaaWSnpR
import Derived.Test.YtbmgkoifidhfjaaMAny9
namespace Go.Proofs.Ytbmgkoifidhfjaa
open Go.RowKit
set_option maxRecDepth 100000

set_option maxHeartbeats 4000000 in
theorem is_any (sb fl : Nat) (v : Value) (R : List Rd) (w : World) (h : Snp w sb fl R) (hv : OwR w 0 v R) :
    Calls Try.prog 10 #[ptr1 sb, .agg #[.int .u64 (fl : Nat), v]] w fun e w' => e = .returned (.bool true) ∧ Below w.heap.size w w' := by
  obtain ⟨p, rl, c, rfl⟩ : ∃ p l c, v = .slice p l c := by
    obtain ⟨p, c, e, -⟩ := hv.rd
    exact ⟨_, _, _, e⟩
  have HLEN : Hid (R.length ≤ 256) := by obtain ⟨_, _, _, _, hx⟩ := h; exact hx.inv.len
  have L1 : Below w.heap.size w (w.alloc (.cells #[.int .u64 (fl : Nat), .slice p rl c] 29)) := (Below.refl _ _).alloc (Nat.le_refl _) _
  have HL1 : Hid (Below w.heap.size w (w.alloc (.cells #[.int .u64 (fl : Nat), .slice p rl c] 29))) := L1
  have HX1 : Hid (BoxT (w.alloc (.cells #[.int .u64 (fl : Nat), .slice p rl c] 29)) w.heap.size #[.int .u64 (fl : Nat), .slice p rl c] 29) := BoxT.new _ _ _
  have HS1 : Hid (Snp (w.alloc (.cells #[.int .u64 (fl : Nat), .slice p rl c] 29)) sb fl R) := h.on L1
  have HO1 : Hid (OwR (w.alloc (.cells #[.int .u64 (fl : Nat), .slice p rl c] 29)) 0 (.slice p rl c) R) := hv.on L1
  have CF : Hid (∀ w1, Snp w1 sb fl R → Calls Try.prog 17 #[ptr1 sb] w1 fun e w' => e = .returned (.int .u64 (fl : Nat)) ∧ w' = w1) := fun w1 h1 => floor_any w1 sb fl R h1
  have CR : Hid (∀ w1, Snp w1 sb fl R → Calls Try.prog 15 #[ptr1 sb] w1 fun e w' => (∃ v, e = .returned v ∧ OwR w' w1.heap.size v R) ∧ Below w1.heap.size w1 w') := fun w1 h1 => readers_any w1 sb fl R h1
  have CS : Hid (∀ w1 B u x, OwR w1 B u R → OwR w1 0 x R → Calls Try.prog 21 #[u, x] w1 fun e w' => e = .returned (.bool true) ∧ Below w1.heap.size w1 w') := fun w1 B u x h1 h2 => rsame_any B 0 u x R w1 h1 h2 HLEN.out
  have C1 : Hid (Calls _ _ _ _ _) := sleast_any _ sb fl R HS1.out
  clear L1 h hv
  go_enter Try.func10, Try.ntmps10
  go_wp2_with fail
  generalize (w.alloc (.cells #[.int .u64 (fl : Nat), .slice p rl c] 29)) = w1 at *
  refine C1.out.mono ?_
  rintro e w2 ⟨rfl, hb2⟩
  have HL2 : Hid (Below w.heap.size w w2) := HL1.out.trans (hb2.mono HL1.out.size)
  have HX2 : Hid (BoxT w2 w.heap.size #[.int .u64 (fl : Nat), .slice p rl c] 29) := HX1.out.on hb2
  have HS2 : Hid (Snp w2 sb fl R) := HS1.out.on hb2
  have HO2 : Hid (OwR w2 0 (.slice p rl c) R) := HO1.out.on hb2
  have C2 : Hid (Calls _ _ _ _ _) := rleast_any fl 0 (.slice p rl c) R w2 HO2.out HLEN.out
  have m0 : w2.cell? ⟨w.heap.size, 0, none⟩ = some (.int .u64 (fl : Nat)) := HX2.out.cell
  have m1 : w2.cell? ⟨w.heap.size, 1, none⟩ = some (.slice p rl c) := HX2.out.cell
  clear hb2 C1 HL1 HX1 HS1 HO1
  go_wp2_with fail
  refine C2.out.mono ?_
  rintro e w3 ⟨rfl, hb3⟩
  have HL3 : Hid (Below w.heap.size w w3) := HL2.out.trans (hb3.mono HL2.out.size)
  have HX3 : Hid (BoxT w3 w.heap.size #[.int .u64 (fl : Nat), .slice p rl c] 29) := HX2.out.on hb3
  have HS3 : Hid (Snp w3 sb fl R) := HS2.out.on hb3
  have HO3 : Hid (OwR w3 0 (.slice p rl c) R) := HO2.out.on hb3
  clear hb3 C2 HL2 HX2 HS2 HO2 m0 m1
  generalize lstR R = ml at *
  generalize somR R = sm at *
  go_wp2_with fail
  have HS4 : Hid (Snp w3.drew sb fl R) := HS3.out.drew
  have HSX : Hid (Snp w3.drew sb fl R) := HS3.out.drew
  have HL4 : Hid (Below w.heap.size w w3.drew) := ⟨HL3.out.os, HL3.out.tape, HL3.out.output, HL3.out.size, HL3.out.block⟩
  have HX4 : Hid (BoxT w3.drew w.heap.size #[.int .u64 (fl : Nat), .slice p rl c] 29) := HX3.out
  have HO4 : Hid (OwR w3.drew 0 (.slice p rl c) R) := HO3.out
  have m0 : w3.cell? ⟨w.heap.size, 0, none⟩ = some (.int .u64 (fl : Nat)) := HX3.out.cell
  have m1 : w3.cell? ⟨w.heap.size, 1, none⟩ = some (.slice p rl c) := HX3.out.cell
  clear HL3 HX3 HS3 HO3
  refine wp_region_any (by kernel_rfl) ?_
  change wpAny _ _ _ _ _ _ _ (World.drew _)
  refine anyN_take (v := ?_) 0 rfl (by kernel_rfl) (by kernel_rfl) (by kernel_rfl) (fun _ _ _ h => h) (Or.inl ⟨by rfl, ?_⟩) ?_
  rotate_left
  focus
    intro w9
    go_simp
    try with_reducible rfl
  try simp only [Act.put, List.setIfInBounds_toArray, List.set_cons_zero, List.set_cons_succ]
  refine anyN_take (v := ?_) 1 rfl (by kernel_rfl) (by kernel_rfl) (by kernel_rfl) (fun _ _ _ h => h) (Or.inl ⟨by rfl, ?_⟩) ?_
  rotate_left
  focus
    intro w9
    go_simp
    try with_reducible rfl
  try simp only [Act.put, List.setIfInBounds_toArray, List.set_cons_zero, List.set_cons_succ]
  refine anyN_take (v := ?_) 2 rfl (by kernel_rfl) (by kernel_rfl) (by kernel_rfl) (fun _ _ _ h => h) (Or.inl ⟨by rfl, ?_⟩) ?_
  rotate_left
  focus
    intro w9
    go_simp
    try with_reducible rfl
  try simp only [Act.put, List.setIfInBounds_toArray, List.set_cons_zero, List.set_cons_succ]
  refine anyN_take (v := ?_) 3 rfl (by kernel_rfl) (by kernel_rfl) (by kernel_rfl) (fun _ _ _ h => h) (Or.inl ⟨by rfl, ?_⟩) ?_
  rotate_left
  focus
    intro w9
    go_simp
    try with_reducible rfl
  try simp only [Act.put, List.setIfInBounds_toArray, List.set_cons_zero, List.set_cons_succ]
  refine anyN_take (v := ?_) 4 rfl (by kernel_rfl) (by kernel_rfl) (by kernel_rfl) (fun _ _ _ h => h) (Or.inl ⟨by rfl, ?_⟩) ?_
  rotate_left
  focus
    intro w9
    go_simp
    try with_reducible rfl
  try simp only [Act.put, List.setIfInBounds_toArray, List.set_cons_zero, List.set_cons_succ]
  refine anyN_take (v := ?_) 5 rfl (by kernel_rfl) (by kernel_rfl) (by kernel_rfl) (fun _ _ _ h => h) (Or.inl ⟨by rfl, ?_⟩) ?_
  rotate_left
  focus
    intro w9
    go_simp
    try with_reducible rfl
  try simp only [Act.put, List.setIfInBounds_toArray, List.set_cons_zero, List.set_cons_succ]
  refine anyN_take (v := ?_) 6 rfl (by kernel_rfl) (by kernel_rfl) (by kernel_rfl) (fun _ _ _ h => h) (Or.inl ⟨by rfl, ?_⟩) ?_
  rotate_left
  focus
    intro w9
    go_simp
    try with_reducible rfl
  try simp only [Act.put, List.setIfInBounds_toArray, List.set_cons_zero, List.set_cons_succ]
  refine anyN_take (v := ?_) 7 rfl (by kernel_rfl) (by kernel_rfl) (by kernel_rfl) (fun _ _ _ h => h) (Or.inl ⟨by rfl, ?_⟩) ?_
  rotate_left
  focus
    intro w9
    go_simp
    try with_reducible rfl
  try simp only [Act.put, List.setIfInBounds_toArray, List.set_cons_zero, List.set_cons_succ]
  refine anyN_take (v := ?_) 8 rfl (by kernel_rfl) (by kernel_rfl) (by kernel_rfl) (fun _ _ _ h => h) (Or.inl ⟨by rfl, ?_⟩) ?_
  rotate_left
  focus
    intro w9
    go_simp
    try with_reducible rfl
  try simp only [Act.put, List.setIfInBounds_toArray, List.set_cons_zero, List.set_cons_succ]
  refine anyN_take (v := ?_) 9 rfl (by kernel_rfl) (by kernel_rfl) (by kernel_rfl) (fun _ _ _ h => h) (Or.inl ⟨by rfl, ?_⟩) ?_
  rotate_left
  focus
    intro w9
    go_simp
    try with_reducible rfl
  try simp only [Act.put, List.setIfInBounds_toArray, List.set_cons_zero, List.set_cons_succ]
  refine anyN_take (v := ?_) 11 rfl (by kernel_rfl) (by kernel_rfl) (by kernel_rfl) (fun _ _ _ h => h) (Or.inl ⟨by rfl, ?_⟩) ?_
  rotate_left
  focus
    intro w9
    go_simp
    try with_reducible rfl
  try simp only [Act.put, List.setIfInBounds_toArray, List.set_cons_zero, List.set_cons_succ]
  refine wpAny_ready (rs := [10, 12]) (by kernel_rfl) (by simp) ?_
  refine anyN_cons 10 rfl (by rfl) (fun K hK => ?_) (anyN_cons 12 rfl (by rfl) (fun K hK => ?_) AllReady.nil)
  · go_simp
    refine (CF.out _ HS4.out).mono ?_
    rintro e w9 ⟨rfl, rfl⟩
    dsimp only
    refine hK.out _ _ ?_
    clear hK K
    try simp only [Act.put, List.setIfInBounds_toArray, List.set_cons_zero, List.set_cons_succ]
    refine wpAny_ready (rs := [12]) (by kernel_rfl) (by simp) ?_
    refine anyN_cons 12 rfl (by rfl) (fun K hK => ?_) AllReady.nil
    go_simp
    refine hK.out _ _ ?_
    clear hK K
    try simp only [Act.put, List.setIfInBounds_toArray, List.set_cons_zero, List.set_cons_succ]
    refine anyN_take (v := ?_) 13 rfl (by kernel_rfl) (by kernel_rfl) (by kernel_rfl) (fun _ _ _ h => h) (Or.inl ⟨by rfl, ?_⟩) ?_
    rotate_left
    focus
      intro w9
      go_simp
      try with_reducible rfl
    try simp only [Act.put, List.setIfInBounds_toArray, List.set_cons_zero, List.set_cons_succ]
    refine anyN_take (v := ?_) 14 rfl (by kernel_rfl) (by kernel_rfl) (by kernel_rfl) (fun _ _ _ h => h) (Or.inl ⟨by rfl, ?_⟩) ?_
    rotate_left
    focus
      intro w9
      go_simp
      try with_reducible rfl
    try simp only [Act.put, List.setIfInBounds_toArray, List.set_cons_zero, List.set_cons_succ]
    refine anyN_take (v := ?_) 15 rfl (by kernel_rfl) (by kernel_rfl) (by kernel_rfl) (fun _ _ _ h => h) (Or.inl ⟨by rfl, ?_⟩) ?_
    rotate_left
    focus
      intro w9
      go_simp
      try with_reducible rfl
    try simp only [Act.put, List.setIfInBounds_toArray, List.set_cons_zero, List.set_cons_succ]
    refine anyN_take (v := ?_) 16 rfl (by kernel_rfl) (by kernel_rfl) (by kernel_rfl) (fun _ _ _ h => h) (Or.inl ⟨by rfl, ?_⟩) ?_
    rotate_left
    focus
      intro w9
      go_simp
      try with_reducible rfl
    try simp only [Act.put, List.setIfInBounds_toArray, List.set_cons_zero, List.set_cons_succ]
    refine anyN_take (v := ?_) 18 rfl (by kernel_rfl) (by kernel_rfl) (by kernel_rfl) (fun _ _ _ h => h) (Or.inl ⟨by rfl, ?_⟩) ?_
    rotate_left
    focus
      intro w9
      go_simp
      try with_reducible rfl
    try simp only [Act.put, List.setIfInBounds_toArray, List.set_cons_zero, List.set_cons_succ]
    refine wpAny_ready (rs := [17, 19]) (by kernel_rfl) (by simp) ?_
    refine anyN_cons 17 rfl (by rfl) (fun K hK => ?_) (anyN_cons 19 rfl (by rfl) (fun K hK => ?_) AllReady.nil)
    · go_simp
      refine (CR.out _ HSX.out).mono ?_
      rintro e w5 ⟨⟨vr, rfl, hvr⟩, hb5⟩
      dsimp only
      have HVR : Hid (OwR w5 _ vr R) := hvr
      have HOV : Hid (OwR w5 0 (.slice p rl c) R) := OwR.on (w := w3.drew) HO4.out hb5
      have HL5 : Hid (Below w.heap.size w w5) := Below.trans (b := w3.drew) HL4.out (hb5.mono HL4.out.size)
      have HX5 : Hid (BoxT w5 w.heap.size #[.int .u64 (fl : Nat), .slice p rl c] 29) := BoxT.on (w := w3.drew) HX4.out hb5
      have m1' : w5.cell? ⟨w.heap.size, 1, none⟩ = some (.slice p rl c) := HX5.out.cell
      clear hvr hb5
      refine hK.out _ _ ?_
      clear hK K
      try simp only [Act.put, List.setIfInBounds_toArray, List.set_cons_zero, List.set_cons_succ]
      refine wpAny_ready (rs := [19]) (by kernel_rfl) (by simp) ?_
      refine anyN_cons 19 rfl (by rfl) (fun K hK => ?_) AllReady.nil
      go_simp
      refine hK.out _ _ ?_
      clear hK K
      try simp only [Act.put, List.setIfInBounds_toArray, List.set_cons_zero, List.set_cons_succ]
      refine wpAny_ready (rs := [20]) (by kernel_rfl) (by simp) ?_
      refine anyN_cons 20 rfl (by rfl) (fun K hK => ?_) AllReady.nil
      go_simp
      refine (CS.out _ _ _ _ HVR.out HOV.out).mono ?_
      rintro e w6 ⟨rfl, hb6⟩
      dsimp only
      have HL6 : Hid (Below w.heap.size w w6) := HL5.out.trans (hb6.mono HL5.out.size)
      clear hb6
      refine hK.out _ _ ?_
      clear hK K
      try simp only [Act.put, List.setIfInBounds_toArray, List.set_cons_zero, List.set_cons_succ]
      refine anyN_take (v := ?_) 21 rfl (by kernel_rfl) (by kernel_rfl) (by kernel_rfl) (fun _ _ _ h => h) (Or.inl ⟨by rfl, ?_⟩) ?_
      rotate_left
      focus
        intro w9
        go_simp
        try with_reducible rfl
      try simp only [Act.put, List.setIfInBounds_toArray, List.set_cons_zero, List.set_cons_succ]
      refine wpAny_ready (rs := [22]) (by kernel_rfl) (by simp) ?_
      refine anyN_cons 22 rfl (by rfl) (fun K hK => ?_) AllReady.nil
      go_simp
      refine hK.out _ _ ?_
      clear hK K
      try simp only [Act.put, List.setIfInBounds_toArray, List.set_cons_zero, List.set_cons_succ]
      refine wpAny_done (by kernel_rfl) ?_ _
      go_wp2_with fail
      go_ret
      exact ⟨rfl, HL6.out⟩
    · go_simp
      refine hK.out _ _ ?_
      clear hK K
      try simp only [Act.put, List.setIfInBounds_toArray, List.set_cons_zero, List.set_cons_succ]
      refine wpAny_ready (rs := [17]) (by kernel_rfl) (by simp) ?_
      refine anyN_cons 17 rfl (by rfl) (fun K hK => ?_) AllReady.nil
      go_simp
      refine (CR.out _ HSX.out).mono ?_
      rintro e w5 ⟨⟨vr, rfl, hvr⟩, hb5⟩
      dsimp only
      have HVR : Hid (OwR w5 _ vr R) := hvr
      have HOV : Hid (OwR w5 0 (.slice p rl c) R) := OwR.on (w := w3.drew) HO4.out hb5
      have HL5 : Hid (Below w.heap.size w w5) := Below.trans (b := w3.drew) HL4.out (hb5.mono HL4.out.size)
      have HX5 : Hid (BoxT w5 w.heap.size #[.int .u64 (fl : Nat), .slice p rl c] 29) := BoxT.on (w := w3.drew) HX4.out hb5
      have m1' : w5.cell? ⟨w.heap.size, 1, none⟩ = some (.slice p rl c) := HX5.out.cell
      clear hvr hb5
      refine hK.out _ _ ?_
      clear hK K
      try simp only [Act.put, List.setIfInBounds_toArray, List.set_cons_zero, List.set_cons_succ]
      refine wpAny_ready (rs := [20]) (by kernel_rfl) (by simp) ?_
      refine anyN_cons 20 rfl (by rfl) (fun K hK => ?_) AllReady.nil
      go_simp
      refine (CS.out _ _ _ _ HVR.out HOV.out).mono ?_
      rintro e w6 ⟨rfl, hb6⟩
      dsimp only
      have HL6 : Hid (Below w.heap.size w w6) := HL5.out.trans (hb6.mono HL5.out.size)
      clear hb6
      refine hK.out _ _ ?_
      clear hK K
      try simp only [Act.put, List.setIfInBounds_toArray, List.set_cons_zero, List.set_cons_succ]
      refine anyN_take (v := ?_) 21 rfl (by kernel_rfl) (by kernel_rfl) (by kernel_rfl) (fun _ _ _ h => h) (Or.inl ⟨by rfl, ?_⟩) ?_
      rotate_left
      focus
        intro w9
        go_simp
        try with_reducible rfl
      try simp only [Act.put, List.setIfInBounds_toArray, List.set_cons_zero, List.set_cons_succ]
      refine wpAny_ready (rs := [22]) (by kernel_rfl) (by simp) ?_
      refine anyN_cons 22 rfl (by rfl) (fun K hK => ?_) AllReady.nil
      go_simp
      refine hK.out _ _ ?_
      clear hK K
      try simp only [Act.put, List.setIfInBounds_toArray, List.set_cons_zero, List.set_cons_succ]
      refine wpAny_done (by kernel_rfl) ?_ _
      go_wp2_with fail
      go_ret
      exact ⟨rfl, HL6.out⟩
  · go_simp
    refine hK.out _ _ ?_
    clear hK K
    try simp only [Act.put, List.setIfInBounds_toArray, List.set_cons_zero, List.set_cons_succ]
    refine wpAny_ready (rs := [10]) (by kernel_rfl) (by simp) ?_
    refine anyN_cons 10 rfl (by rfl) (fun K hK => ?_) AllReady.nil
    go_simp
    refine (CF.out _ HS4.out).mono ?_
    rintro e w9 ⟨rfl, rfl⟩
    dsimp only
    refine hK.out _ _ ?_
    clear hK K
    try simp only [Act.put, List.setIfInBounds_toArray, List.set_cons_zero, List.set_cons_succ]
    refine anyN_take (v := ?_) 13 rfl (by kernel_rfl) (by kernel_rfl) (by kernel_rfl) (fun _ _ _ h => h) (Or.inl ⟨by rfl, ?_⟩) ?_
    rotate_left
    focus
      intro w9
      go_simp
      try with_reducible rfl
    try simp only [Act.put, List.setIfInBounds_toArray, List.set_cons_zero, List.set_cons_succ]
    refine anyN_take (v := ?_) 14 rfl (by kernel_rfl) (by kernel_rfl) (by kernel_rfl) (fun _ _ _ h => h) (Or.inl ⟨by rfl, ?_⟩) ?_
    rotate_left
    focus
      intro w9
      go_simp
      try with_reducible rfl
    try simp only [Act.put, List.setIfInBounds_toArray, List.set_cons_zero, List.set_cons_succ]
    refine anyN_take (v := ?_) 15 rfl (by kernel_rfl) (by kernel_rfl) (by kernel_rfl) (fun _ _ _ h => h) (Or.inl ⟨by rfl, ?_⟩) ?_
    rotate_left
    focus
      intro w9
      go_simp
      try with_reducible rfl
    try simp only [Act.put, List.setIfInBounds_toArray, List.set_cons_zero, List.set_cons_succ]
    refine anyN_take (v := ?_) 16 rfl (by kernel_rfl) (by kernel_rfl) (by kernel_rfl) (fun _ _ _ h => h) (Or.inl ⟨by rfl, ?_⟩) ?_
    rotate_left
    focus
      intro w9
      go_simp
      try with_reducible rfl
    try simp only [Act.put, List.setIfInBounds_toArray, List.set_cons_zero, List.set_cons_succ]
    refine anyN_take (v := ?_) 18 rfl (by kernel_rfl) (by kernel_rfl) (by kernel_rfl) (fun _ _ _ h => h) (Or.inl ⟨by rfl, ?_⟩) ?_
    rotate_left
    focus
      intro w9
      go_simp
      try with_reducible rfl
    try simp only [Act.put, List.setIfInBounds_toArray, List.set_cons_zero, List.set_cons_succ]
    refine wpAny_ready (rs := [17, 19]) (by kernel_rfl) (by simp) ?_
    refine anyN_cons 17 rfl (by rfl) (fun K hK => ?_) (anyN_cons 19 rfl (by rfl) (fun K hK => ?_) AllReady.nil)
    · go_simp
      refine (CR.out _ HSX.out).mono ?_
      rintro e w5 ⟨⟨vr, rfl, hvr⟩, hb5⟩
      dsimp only
      have HVR : Hid (OwR w5 _ vr R) := hvr
      have HOV : Hid (OwR w5 0 (.slice p rl c) R) := OwR.on (w := w3.drew) HO4.out hb5
      have HL5 : Hid (Below w.heap.size w w5) := Below.trans (b := w3.drew) HL4.out (hb5.mono HL4.out.size)
      have HX5 : Hid (BoxT w5 w.heap.size #[.int .u64 (fl : Nat), .slice p rl c] 29) := BoxT.on (w := w3.drew) HX4.out hb5
      have m1' : w5.cell? ⟨w.heap.size, 1, none⟩ = some (.slice p rl c) := HX5.out.cell
      clear hvr hb5
      refine hK.out _ _ ?_
      clear hK K
      try simp only [Act.put, List.setIfInBounds_toArray, List.set_cons_zero, List.set_cons_succ]
      refine wpAny_ready (rs := [19]) (by kernel_rfl) (by simp) ?_
      refine anyN_cons 19 rfl (by rfl) (fun K hK => ?_) AllReady.nil
      go_simp
      refine hK.out _ _ ?_
      clear hK K
      try simp only [Act.put, List.setIfInBounds_toArray, List.set_cons_zero, List.set_cons_succ]
      refine wpAny_ready (rs := [20]) (by kernel_rfl) (by simp) ?_
      refine anyN_cons 20 rfl (by rfl) (fun K hK => ?_) AllReady.nil
      go_simp
      refine (CS.out _ _ _ _ HVR.out HOV.out).mono ?_
      rintro e w6 ⟨rfl, hb6⟩
      dsimp only
      have HL6 : Hid (Below w.heap.size w w6) := HL5.out.trans (hb6.mono HL5.out.size)
      clear hb6
      refine hK.out _ _ ?_
      clear hK K
      try simp only [Act.put, List.setIfInBounds_toArray, List.set_cons_zero, List.set_cons_succ]
      refine anyN_take (v := ?_) 21 rfl (by kernel_rfl) (by kernel_rfl) (by kernel_rfl) (fun _ _ _ h => h) (Or.inl ⟨by rfl, ?_⟩) ?_
      rotate_left
      focus
        intro w9
        go_simp
        try with_reducible rfl
      try simp only [Act.put, List.setIfInBounds_toArray, List.set_cons_zero, List.set_cons_succ]
      refine wpAny_ready (rs := [22]) (by kernel_rfl) (by simp) ?_
      refine anyN_cons 22 rfl (by rfl) (fun K hK => ?_) AllReady.nil
      go_simp
      refine hK.out _ _ ?_
      clear hK K
      try simp only [Act.put, List.setIfInBounds_toArray, List.set_cons_zero, List.set_cons_succ]
      refine wpAny_done (by kernel_rfl) ?_ _
      go_wp2_with fail
      go_ret
      exact ⟨rfl, HL6.out⟩
    · go_simp
      refine hK.out _ _ ?_
      clear hK K
      try simp only [Act.put, List.setIfInBounds_toArray, List.set_cons_zero, List.set_cons_succ]
      refine wpAny_ready (rs := [17]) (by kernel_rfl) (by simp) ?_
      refine anyN_cons 17 rfl (by rfl) (fun K hK => ?_) AllReady.nil
      go_simp
      refine (CR.out _ HSX.out).mono ?_
      rintro e w5 ⟨⟨vr, rfl, hvr⟩, hb5⟩
      dsimp only
      have HVR : Hid (OwR w5 _ vr R) := hvr
      have HOV : Hid (OwR w5 0 (.slice p rl c) R) := OwR.on (w := w3.drew) HO4.out hb5
      have HL5 : Hid (Below w.heap.size w w5) := Below.trans (b := w3.drew) HL4.out (hb5.mono HL4.out.size)
      have HX5 : Hid (BoxT w5 w.heap.size #[.int .u64 (fl : Nat), .slice p rl c] 29) := BoxT.on (w := w3.drew) HX4.out hb5
      have m1' : w5.cell? ⟨w.heap.size, 1, none⟩ = some (.slice p rl c) := HX5.out.cell
      clear hvr hb5
      refine hK.out _ _ ?_
      clear hK K
      try simp only [Act.put, List.setIfInBounds_toArray, List.set_cons_zero, List.set_cons_succ]
      refine wpAny_ready (rs := [20]) (by kernel_rfl) (by simp) ?_
      refine anyN_cons 20 rfl (by rfl) (fun K hK => ?_) AllReady.nil
      go_simp
      refine (CS.out _ _ _ _ HVR.out HOV.out).mono ?_
      rintro e w6 ⟨rfl, hb6⟩
      dsimp only
      have HL6 : Hid (Below w.heap.size w w6) := HL5.out.trans (hb6.mono HL5.out.size)
      clear hb6
      refine hK.out _ _ ?_
      clear hK K
      try simp only [Act.put, List.setIfInBounds_toArray, List.set_cons_zero, List.set_cons_succ]
      refine anyN_take (v := ?_) 21 rfl (by kernel_rfl) (by kernel_rfl) (by kernel_rfl) (fun _ _ _ h => h) (Or.inl ⟨by rfl, ?_⟩) ?_
      rotate_left
      focus
        intro w9
        go_simp
        try with_reducible rfl
      try simp only [Act.put, List.setIfInBounds_toArray, List.set_cons_zero, List.set_cons_succ]
      refine wpAny_ready (rs := [22]) (by kernel_rfl) (by simp) ?_
      refine anyN_cons 22 rfl (by rfl) (fun K hK => ?_) AllReady.nil
      go_simp
      refine hK.out _ _ ?_
      clear hK K
      try simp only [Act.put, List.setIfInBounds_toArray, List.set_cons_zero, List.set_cons_succ]
      refine wpAny_done (by kernel_rfl) ?_ _
      go_wp2_with fail
      go_ret
      exact ⟨rfl, HL6.out⟩

set_option maxHeartbeats 2000000 in
theorem awake_any (w : World) :
    Calls Try.prog 11 #[] w fun e w' => e = .returned (.bool true) ∧ Below w.heap.size w w' := by
  have C1 : Hid (Calls Try.prog 8 #[.int .u64 5] w fun e w' => ((4611686018427387904 < 5 ∧ e = .returned (.tuple #[.pointer none, .int .i64 1])) ∨ (5 ≤ 4611686018427387904 ∧ ∃ sb, e = .returned (.tuple #[ptr1 sb, .int .i64 0]) ∧ w.heap.size ≤ sb ∧ Snp w' sb 5 [])) ∧ Below w.heap.size w w') := new_any 5 w
  have D1 : Hid (∀ sb w1, Snp w1 sb 5 [] → Calls Try.prog 13 #[ptr1 sb, .int .u64 9] w1 fun e w' => e = .returned (.tuple #[.int .i64 0, .int .i64 0]) ∧ Snp w' sb 5 [⟨0, 9⟩] ∧ Frm w1 w' (fun k => k = sb)) := fun sb w1 h1 => Enter_any sb 5 9 [] w1 h1
  have D2 : Hid (∀ sb w1, Snp w1 sb 5 [⟨0, 9⟩] → Calls Try.prog 16 #[ptr1 sb, .int .u64 20] w1 fun e w' => e = .returned (.int .u64 9) ∧ Snp w' sb 9 [⟨0, 9⟩] ∧ Frm w1 w' (fun k => k = sb)) := fun sb w1 h1 => Raise_any sb 5 20 [⟨0, 9⟩] w1 h1
  have D3 : Hid (∀ sb w1, Snp w1 sb 9 [⟨0, 9⟩] → Calls Try.prog 14 #[ptr1 sb, .int .i64 0] w1 fun e w' => e = .returned (.int .i64 0) ∧ Snp w' sb 9 [] ∧ Frm w1 w' (fun k => k = sb)) := fun sb w1 h1 => Leave_any sb 9 0 [⟨0, 9⟩] w1 h1
  have D4 : Hid (∀ sb w1, Snp w1 sb 9 [] → Calls Try.prog 16 #[ptr1 sb, .int .u64 20] w1 fun e w' => e = .returned (.int .u64 20) ∧ Snp w' sb 20 [] ∧ Frm w1 w' (fun k => k = sb)) := fun sb w1 h1 => Raise_any sb 9 20 [] w1 h1
  go_enter Try.func11, Try.ntmps11
  go_wp2_with fail
  refine C1.out.mono ?_
  rintro e w1 ⟨h | ⟨_, sb, rfl, hsb, hs1⟩, hb1⟩
  · exact absurd h.1 (by decide)
  have HS1 : Hid (Snp w1 sb 5 []) := hs1
  have HB1 : Hid (Below w.heap.size w w1) := hb1
  have HSB : Hid (w.heap.size ≤ sb) := hsb
  clear hs1 hb1 hsb C1
  go_wp2_with fail
  refine (D1.out sb w1 HS1.out).mono ?_
  rintro e w2 ⟨rfl, hs2, hf2⟩
  have HS2 : Hid (Snp w2 sb 5 [⟨0, 9⟩]) := hs2
  have HB2 : Hid (Below w.heap.size w w2) := HB1.out.trans (hf2.below HB1.out.size (fun k hk => by rw [hk]; exact HSB.out))
  clear hs2 hf2
  go_wp2_with fail
  refine (D2.out sb w2 HS2.out).mono ?_
  rintro e w3 ⟨rfl, hs3, hf3⟩
  have HS3 : Hid (Snp w3 sb 9 [⟨0, 9⟩]) := hs3
  have HB3 : Hid (Below w.heap.size w w3) := HB2.out.trans (hf3.below HB2.out.size (fun k hk => by rw [hk]; exact HSB.out))
  clear hs3 hf3
  go_wp2_with fail
  refine (D3.out sb w3 HS3.out).mono ?_
  rintro e w4 ⟨rfl, hs4, hf4⟩
  have HS4 : Hid (Snp w4 sb 9 []) := hs4
  have HB4 : Hid (Below w.heap.size w w4) := HB3.out.trans (hf4.below HB3.out.size (fun k hk => by rw [hk]; exact HSB.out))
  clear hs4 hf4
  go_wp2_with fail
  refine (D4.out sb w4 HS4.out).mono ?_
  rintro e w5 ⟨rfl, hs5, hf5⟩
  have HB5 : Hid (Below w.heap.size w w5) := HB4.out.trans (hf5.below HB4.out.size (fun k hk => by rw [hk]; exact HSB.out))
  clear hs5 hf5
  go_wp2_with fail
  go_ret
  exact ⟨rfl, HB5.out⟩
end Go.Proofs.Ytbmgkoifidhfjaa
