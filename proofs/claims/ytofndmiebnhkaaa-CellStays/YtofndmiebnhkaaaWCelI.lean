/- The walk of is. -/
import Derived.Test.YtofndmiebnhkaaaWCelE
namespace Go.Proofs.Ytofndmiebnhkaaa
open Go.RowKit
set_option maxRecDepth 100000

/-- what is known while is runs: the place, the document's slice, the box -/
structure SI (w : World) (b lo : Nat) (O : List Int) (n : Nat) (v : Value) (w' : World) : Prop where
  cel : CelE w' b lo O n
  sl : SlI w' 0 v O
  bl : Below w.heap.size w w'
  box : w'.heap[w.heap.size]? = some (.cells #[v, .int .u64 (n : Nat)] 28 (0, 0))
theorem SI.on {w w1 w2 : World} {b lo : Nat} {O : List Int} {n : Nat} {v : Value} (h : SI w b lo O n v w1) (hb : Below w1.heap.size w1 w2) : SI w b lo O n v w2 :=
  ⟨h.cel.keep hb (Nat.le_refl _), h.sl.keep hb (Nat.le_refl _), h.bl.trans (hb.mono h.bl.size), (hb.block _ (Array.getElem?_eq_some_iff.1 h.box).1).trans h.box⟩
theorem SI.facts {w w1 : World} {b lo : Nat} {O : List Int} {n : Nat} {v : Value} (h : SI w b lo O n v w1) : w1.cell? ⟨w.heap.size, 0, none⟩ = some v ∧ w1.cell? ⟨w.heap.size, 1, none⟩ = some (.int .u64 (n : Nat)) := by
  constructor <;> simp [World.cell?, h.box]
theorem SI.start {w : World} {b lo : Nat} {O : List Int} {n : Nat} {v : Value} (h : CelE w b lo O n) (hs : SlI w 0 v O) : SI w b lo O n v (w.alloc (.cells #[v, .int .u64 (n : Nat)] 28)) :=
  ⟨h.keep (B := w.heap.size) (by go_grown) (Nat.le_refl _), hs.keep (B := w.heap.size) (by go_grown) (Nat.le_refl _), by go_grown, heap_alloc_new _ _⟩

set_option maxHeartbeats 4000000 in
theorem is_any (b lo : Nat) (O : List Int) (n : Nat) (v : Value) (w : World) (h : CelE w b lo O n) (hs : SlI w 0 v O) (hlen : O.length ≤ 17592186044416) :
    Calls Try.prog 8 #[.pointer (some ⟨b, 0, none⟩), celV v n] w fun e w' => e = .returned (.bool true) ∧ Below w.heap.size w w' := by
  have HZ := h.zero
  have C1 : Hid (∀ w1, SI w b lo O n v w1 → Calls Try.prog 20 #[.pointer (some ⟨b, 0, none⟩)] w1 fun e w' => e = .returned (.tuple #[.int .i64 (O.headD 0), .int .u64 (n : Nat)]) ∧ Below w1.heap.size w1 w') := fun w1 h1 => loadE b lo O n w1 h1.cel
  have C2 : Hid (∀ w1, SI w b lo O n v w1 → Calls Try.prog 21 #[celV v n] w1 fun e w' => e = .returned (.tuple #[.int .i64 (O.headD 0), .int .u64 (n : Nat)]) ∧ Below w1.heap.size w1 w') := fun w1 h1 => rload_any O v n w1 h1.sl HZ hlen
  have C3 : Hid (∀ w1, SI w b lo O n v w1 → Calls Try.prog 11 #[.pointer (some ⟨b, 0, none⟩)] w1 fun e w' => (∃ v, e = .returned v ∧ w'.ownsRow w1.heap.size 2 1 v O.length (cellsX O)) ∧ Below w1.heap.size w1 w') := fun w1 h1 => allE b lo O n w1 h1.cel hlen
  obtain ⟨p, c, rfl, _⟩ := hs.rd
  have C4 : Hid (∀ w1 (p3 : Option Addr) (c3 lo3 : Nat), RdI w1 lo3 p3 O → SI w b lo O n (.slice p O.length c) w1 → Calls Try.prog 12 #[.slice p3 O.length c3, .slice p O.length c] w1 fun e w' => e = .returned (.bool true) ∧ Below w1.heap.size w1 w') := by
    intro w1 p3 c3 lo3 h3 h1
    obtain ⟨p', c', e, hr⟩ := h1.sl.rd
    cases e
    exact rsame_any O p3 p c3 c w1 (fun i hi => by obtain ⟨g, e1, _, e3, e4⟩ := h3 i hi; exact ⟨g, e1, Nat.zero_le _, e3, e4⟩) hr hlen
  have BX0 := SI.start h hs
  clear h hs HZ hlen
  unfold celV at *
  generalize O.headD 0 = x at *
  go_enter Try.func8, Try.ntmps8
  go_wp2_with fail
  refine (C1.out _ BX0).mono ?_
  rintro e w1 ⟨rfl, hb1⟩
  have BX1 := BX0.on hb1
  obtain ⟨x0, x1⟩ := BX1.facts
  clear hb1 BX0
  go_wp2_with fail
  refine (C2.out _ BX1).mono ?_
  rintro e w2 ⟨rfl, hb2⟩
  have BX2 := BX1.on hb2
  obtain ⟨z0, z1⟩ := BX2.facts
  clear hb2 BX1 x0 x1
  go_wp2_with fail
  have BXq : SI w b lo O n (.slice p O.length c) w2.drew := BX2.on (by go_grown)
  refine wp_region_any (by kernel_rfl) ?_
  change wpAny _ _ _ _ _ _ _ (World.drew _)
  refine anyN_take (v := ?_) 0 rfl (by kernel_rfl) (by kernel_rfl) (by kernel_rfl) (fun _ _ _ h => h) (Or.inl ⟨by rfl, ?_⟩) ?_
  rotate_left
  focus
    intro w9
    go_simp
    try with_reducible rfl
  try simp only [Act.put, List.setIfInBounds_toArray, List.set_cons_zero, List.set_cons_succ]
  refine anyN_take (v := ?_) 1 rfl (by kernel_rfl) (by kernel_rfl) (by kernel_rfl) (fun _ _ _ h => h) (Or.inl ⟨by rfl, ?_⟩) ?_
  rotate_left
  focus
    intro w9
    go_simp
    try with_reducible rfl
  try simp only [Act.put, List.setIfInBounds_toArray, List.set_cons_zero, List.set_cons_succ]
  refine anyN_take (v := ?_) 2 rfl (by kernel_rfl) (by kernel_rfl) (by kernel_rfl) (fun _ _ _ h => h) (Or.inl ⟨by rfl, ?_⟩) ?_
  rotate_left
  focus
    intro w9
    go_simp
    try with_reducible rfl
  try simp only [Act.put, List.setIfInBounds_toArray, List.set_cons_zero, List.set_cons_succ]
  refine anyN_take (v := ?_) 3 rfl (by kernel_rfl) (by kernel_rfl) (by kernel_rfl) (fun _ _ _ h => h) (Or.inl ⟨by rfl, ?_⟩) ?_
  rotate_left
  focus
    intro w9
    go_simp
    try with_reducible rfl
  try simp only [Act.put, List.setIfInBounds_toArray, List.set_cons_zero, List.set_cons_succ]
  refine anyN_take (v := ?_) 4 rfl (by kernel_rfl) (by kernel_rfl) (by kernel_rfl) (fun _ _ _ h => h) (Or.inl ⟨by rfl, ?_⟩) ?_
  rotate_left
  focus
    intro w9
    go_simp
    try with_reducible rfl
  try simp only [Act.put, List.setIfInBounds_toArray, List.set_cons_zero, List.set_cons_succ]
  refine anyN_take (v := ?_) 5 rfl (by kernel_rfl) (by kernel_rfl) (by kernel_rfl) (fun _ _ _ h => h) (Or.inl ⟨by rfl, ?_⟩) ?_
  rotate_left
  focus
    intro w9
    go_simp
    try with_reducible rfl
  try simp only [Act.put, List.setIfInBounds_toArray, List.set_cons_zero, List.set_cons_succ]
  refine anyN_take (v := ?_) 6 rfl (by kernel_rfl) (by kernel_rfl) (by kernel_rfl) (fun _ _ _ h => h) (Or.inl ⟨by rfl, ?_⟩) ?_
  rotate_left
  focus
    intro w9
    go_simp
    try with_reducible rfl
  try simp only [Act.put, List.setIfInBounds_toArray, List.set_cons_zero, List.set_cons_succ]
  refine anyN_take (v := ?_) 7 rfl (by kernel_rfl) (by kernel_rfl) (by kernel_rfl) (fun _ _ _ h => h) (Or.inl ⟨by rfl, ?_⟩) ?_
  rotate_left
  focus
    intro w9
    go_simp
    try with_reducible rfl
  try simp only [Act.put, List.setIfInBounds_toArray, List.set_cons_zero, List.set_cons_succ]
  refine anyN_take (v := ?_) 8 rfl (by kernel_rfl) (by kernel_rfl) (by kernel_rfl) (fun _ _ _ h => h) (Or.inl ⟨by rfl, ?_⟩) ?_
  rotate_left
  focus
    intro w9
    go_simp
    try with_reducible rfl
  try simp only [Act.put, List.setIfInBounds_toArray, List.set_cons_zero, List.set_cons_succ]
  refine anyN_take (v := ?_) 9 rfl (by kernel_rfl) (by kernel_rfl) (by kernel_rfl) (fun _ _ _ h => h) (Or.inl ⟨by rfl, ?_⟩) ?_
  rotate_left
  focus
    intro w9
    go_simp
    try with_reducible rfl
  try simp only [Act.put, List.setIfInBounds_toArray, List.set_cons_zero, List.set_cons_succ]
  refine anyN_take (v := ?_) 11 rfl (by kernel_rfl) (by kernel_rfl) (by kernel_rfl) (fun _ _ _ h => h) (Or.inl ⟨by rfl, ?_⟩) ?_
  rotate_left
  focus
    intro w9
    go_simp
    try with_reducible rfl
  try simp only [Act.put, List.setIfInBounds_toArray, List.set_cons_zero, List.set_cons_succ]
  refine wpAny_ready (rs := [10, 12]) (by kernel_rfl) (by simp) ?_
  refine anyN_cons 10 rfl (by rfl) (fun K hK => ?_) (anyN_cons 12 rfl (by rfl) (fun K hK => ?_) AllReady.nil)
  · go_simp
    refine (C3.out _ BXq).mono ?_
    rintro e w3 ⟨⟨v3, rfl, ho3⟩, hb3⟩
    dsimp only
    have BX3 := BXq.on hb3
    obtain ⟨y0, y1⟩ := BX3.facts
    obtain ⟨p3, c3, hv3, hr3⟩ := (sl_of_owns ho3).rd
    subst hv3
    refine hK.out _ _ ?_
    clear hK K
    try simp only [Act.put, List.setIfInBounds_toArray, List.set_cons_zero, List.set_cons_succ]
    refine wpAny_ready (rs := [12]) (by kernel_rfl) (by simp) ?_
    refine anyN_cons 12 rfl (by rfl) (fun K hK => ?_) AllReady.nil
    go_simp
    refine hK.out _ _ ?_
    clear hK K
    try simp only [Act.put, List.setIfInBounds_toArray, List.set_cons_zero, List.set_cons_succ]
    refine wpAny_ready (rs := [13]) (by kernel_rfl) (by simp) ?_
    refine anyN_cons 13 rfl (by rfl) (fun K hK => ?_) AllReady.nil
    go_simp
    refine (C4.out _ _ _ _ hr3 BX3).mono ?_
    rintro e w4 ⟨rfl, hb4⟩
    dsimp only
    have BX4 := BX3.on hb4
    refine hK.out _ _ ?_
    clear hK K
    try simp only [Act.put, List.setIfInBounds_toArray, List.set_cons_zero, List.set_cons_succ]
    refine anyN_take (v := ?_) 14 rfl (by kernel_rfl) (by kernel_rfl) (by kernel_rfl) (fun _ _ _ h => h) (Or.inl ⟨by rfl, ?_⟩) ?_
    rotate_left
    focus
      intro w9
      go_simp
      try with_reducible rfl
    try simp only [Act.put, List.setIfInBounds_toArray, List.set_cons_zero, List.set_cons_succ]
    refine wpAny_ready (rs := [15]) (by kernel_rfl) (by simp) ?_
    refine anyN_cons 15 rfl (by rfl) (fun K hK => ?_) AllReady.nil
    go_simp
    refine hK.out _ _ ?_
    clear hK K
    try simp only [Act.put, List.setIfInBounds_toArray, List.set_cons_zero, List.set_cons_succ]
    refine wpAny_done (by kernel_rfl) ?_ _
    go_wp2_with fail
    go_ret
    exact ⟨rfl, BX4.bl⟩
  · go_simp
    refine hK.out _ _ ?_
    clear hK K
    try simp only [Act.put, List.setIfInBounds_toArray, List.set_cons_zero, List.set_cons_succ]
    refine wpAny_ready (rs := [10]) (by kernel_rfl) (by simp) ?_
    refine anyN_cons 10 rfl (by rfl) (fun K hK => ?_) AllReady.nil
    go_simp
    refine (C3.out _ BXq).mono ?_
    rintro e w3 ⟨⟨v3, rfl, ho3⟩, hb3⟩
    dsimp only
    have BX3 := BXq.on hb3
    obtain ⟨y0, y1⟩ := BX3.facts
    obtain ⟨p3, c3, hv3, hr3⟩ := (sl_of_owns ho3).rd
    subst hv3
    refine hK.out _ _ ?_
    clear hK K
    try simp only [Act.put, List.setIfInBounds_toArray, List.set_cons_zero, List.set_cons_succ]
    refine wpAny_ready (rs := [13]) (by kernel_rfl) (by simp) ?_
    refine anyN_cons 13 rfl (by rfl) (fun K hK => ?_) AllReady.nil
    go_simp
    refine (C4.out _ _ _ _ hr3 BX3).mono ?_
    rintro e w4 ⟨rfl, hb4⟩
    dsimp only
    have BX4 := BX3.on hb4
    refine hK.out _ _ ?_
    clear hK K
    try simp only [Act.put, List.setIfInBounds_toArray, List.set_cons_zero, List.set_cons_succ]
    refine anyN_take (v := ?_) 14 rfl (by kernel_rfl) (by kernel_rfl) (by kernel_rfl) (fun _ _ _ h => h) (Or.inl ⟨by rfl, ?_⟩) ?_
    rotate_left
    focus
      intro w9
      go_simp
      try with_reducible rfl
    try simp only [Act.put, List.setIfInBounds_toArray, List.set_cons_zero, List.set_cons_succ]
    refine wpAny_ready (rs := [15]) (by kernel_rfl) (by simp) ?_
    refine anyN_cons 15 rfl (by rfl) (fun K hK => ?_) AllReady.nil
    go_simp
    refine hK.out _ _ ?_
    clear hK K
    try simp only [Act.put, List.setIfInBounds_toArray, List.set_cons_zero, List.set_cons_succ]
    refine wpAny_done (by kernel_rfl) ?_ _
    go_wp2_with fail
    go_ret
    exact ⟨rfl, BX4.bl⟩
end Go.Proofs.Ytofndmiebnhkaaa
