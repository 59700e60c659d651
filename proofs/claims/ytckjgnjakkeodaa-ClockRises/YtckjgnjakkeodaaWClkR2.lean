/- The document's Take. -/
import Derived.Test.YtckjgnjakkeodaaWClkR
import Derived.Deep.RegionWith
namespace Go.Proofs.Ytckjgnjakkeodaa
open Go.RowKit
set_option maxRecDepth 100000

/-- 'append(nil, l...)' -/
theorem wpList_appN {ops : Array Oper} {rest : List Oper} {o : Oper} {a : Act} {Q : Exit → Act → World → Prop} (w : World) (hgd : o.guard = none) (s x : Operand)
    (ho : o.op = .call { callee := .builtin .append, args := #[s, x], argTypes := #[27, 27] }) (v : Value) (O : List Nat) (hs : a.eval s = .slice none 0 0) (hx : a.eval x = v) (hS : SlU w 0 v O) (hlen : O.length ≤ 4096)
    (h : ∀ v' w', w'.ownsRow w.heap.size 22 1 v' O.length (cellsU O) → w.grownBy w' none → wpList Try.prog ops Q rest (a.put o.dst v') w') : wpList Try.prog ops Q (o :: rest) a w := by
  obtain ⟨i, hi, hz0, hz1, hz2⟩ := info_parts info_u64
  have hown : w.ownsRow w.heap.size 22 1 (.slice none 0 0) 0 [] := ⟨rfl, .inl ⟨rfl, rfl⟩⟩
  rcases hS with ⟨rfl, rfl⟩ | ⟨g, c, rfl, h1, h2, h3⟩
  · exact wpList_append_own_none hgd s x 27 ho w.heap.size 22 i 1 Try.underlying27 hi _ _ _ hs hown hx (h _ _ hown (grown_refl _ _))
  · refine wpList_append_own _ hgd s x 27 ho w.heap.size 22 i _ 1 8 Try.underlying27 hi hz0 hz1 hz2 rfl (by decide) _ _ _ hs hown ⟨g, 0, none⟩ O.length c (cellsU O) hx (by simp [cellsU]) ?_ ?_ (by unfold maxLen; omega) (by omega) (Nat.le_refl _) ?_
    · intro j u hj
      have e : (⟨g, 0, none⟩ : Addr).add j = ⟨g, j, none⟩ := by unfold Addr.add; split <;> simp_all
      unfold cellsU at hj
      rw [List.getElem?_map] at hj
      obtain ⟨y, hy, rfl⟩ := Option.map_eq_some_iff.1 hj
      obtain ⟨hj', rfl⟩ := List.getElem?_eq_some_iff.1 hy
      rw [e]
      exact h3 j hj'
    · intro u hu
      obtain ⟨y, _, rfl⟩ := List.mem_map.1 hu
      rfl
    · intro v' w' h4 h5 _
      rw [Nat.zero_add, List.nil_append] at h4
      exact h v' w' h4 h5

theorem wrapU (x : Int) (h1 : 0 ≤ x) (h2 : x < 18446744073709551616) : IntKind.u64.wrap x = x := by
  simp [IntKind.wrap, IntKind.bits, IntKind.signed]
  omega
theorem new_block (w : World) (o : Obj) : (w.alloc o).heap[w.heap.size]? = some o := by
  show (w.heap.push o)[w.heap.size]? = some o
  exact Array.getElem?_push_size
theorem size_new (w : World) (o : Obj) : (w.alloc o).heap.size = w.heap.size + 1 := by simp
theorem cell_of_block {w : World} {g : Nat} {A : Array Value} {t : TypeId} (h : w.heap[g]? = some (.cells A t)) (o : Nat) : w.cell? ⟨g, o, none⟩ = A[o]? := by simp [World.cell?, h]
theorem frozen_of_block {w : World} {g : Nat} {A : Array Value} {t : TypeId} (h : w.heap[g]? = some (.cells A t)) (o : Nat) : w.frozen? ⟨g, o, none⟩ = false := by simp [World.frozen?, h]
theorem sl_snoc {w : World} {B T : Nat} {v : Value} {O : List Nat} {la : Nat} (h : w.ownsRow B T 1 v (O.length + 1) (cellsU O ++ [.int .u64 ((la : Int) + 1)])) : SlU w B v (O ++ [la + 1]) := by
  refine sl_of_owns (T := T) ?_
  rw [List.length_append, List.length_singleton]
  unfold cellsU at *
  rw [List.map_append]
  exact h
theorem SlU.far {w w' : World} {lo : Nat} {v : Value} {O : List Nat} (h : SlU w lo v O) (hs : w.heap.size ≤ w'.heap.size) (hb : ∀ g, lo ≤ g → g < w.heap.size → w'.heap[g]? = w.heap[g]?) : SlU w' lo v O := by
  rcases h with h | ⟨g, c, rfl, h1, h2, h3⟩
  · exact .inl h
  · exact .inr ⟨g, c, rfl, h1, Nat.lt_of_lt_of_le h2 hs, fun i hi => (World.cell?_of_block (a := ⟨g, i, none⟩) (hb g h1 h2)).trans (h3 i hi)⟩
/-- the two boxes: the clock that was handed in, and the result's -/
structure Two (w : World) (g : Nat) (be la : Int) (v : Value) : Prop where
  sz : g + 1 < w.heap.size
  q0 : w.cell? ⟨g, 0, none⟩ = some (.int .u64 be)
  q1 : w.cell? ⟨g, 1, none⟩ = some (.int .u64 la)
  q2 : w.cell? ⟨g, 2, none⟩ = some v
  f0 : w.frozen? ⟨g, 0, none⟩ = false
  f1 : w.frozen? ⟨g, 1, none⟩ = false
  f2 : w.frozen? ⟨g, 2, none⟩ = false
  r0 : w.cell? ⟨g + 1, 0, none⟩ = some (.int .u64 0)
  r1 : w.cell? ⟨g + 1, 1, none⟩ = some (.int .u64 0)
  r2 : w.cell? ⟨g + 1, 2, none⟩ = some (.slice none 0 0)
  k0 : w.frozen? ⟨g + 1, 0, none⟩ = false
  k1 : w.frozen? ⟨g + 1, 1, none⟩ = false
  k2 : w.frozen? ⟨g + 1, 2, none⟩ = false
theorem Two.blocks {w w' : World} {g : Nat} {be la : Int} {v : Value} (h : Two w g be la v) (hs : w.heap.size ≤ w'.heap.size) (h1 : w'.heap[g]? = w.heap[g]?) (h2 : w'.heap[g + 1]? = w.heap[g + 1]?) : Two w' g be la v := by
  have c1 : ∀ o, w'.cell? ⟨g, o, none⟩ = w.cell? ⟨g, o, none⟩ := fun o => World.cell?_of_block (a := ⟨g, o, none⟩) h1
  have c2 : ∀ o, w'.cell? ⟨g + 1, o, none⟩ = w.cell? ⟨g + 1, o, none⟩ := fun o => World.cell?_of_block (a := ⟨g + 1, o, none⟩) h2
  have d1 : ∀ o, w'.frozen? ⟨g, o, none⟩ = w.frozen? ⟨g, o, none⟩ := fun o => World.frozen?_of_block (a := ⟨g, o, none⟩) h1
  have d2 : ∀ o, w'.frozen? ⟨g + 1, o, none⟩ = w.frozen? ⟨g + 1, o, none⟩ := fun o => World.frozen?_of_block (a := ⟨g + 1, o, none⟩) h2
  exact ⟨Nat.lt_of_lt_of_le h.sz hs, (c1 _).trans h.q0, (c1 _).trans h.q1, (c1 _).trans h.q2, (d1 _).trans h.f0, (d1 _).trans h.f1, (d1 _).trans h.f2, (c2 _).trans h.r0, (c2 _).trans h.r1, (c2 _).trans h.r2, (d2 _).trans h.k0, (d2 _).trans h.k1, (d2 _).trans h.k2⟩
theorem Two.below {w w' : World} {g B : Nat} {be la : Int} {v : Value} (h : Two w g be la v) (hb : Below B w w') (hB : g + 1 < B) : Two w' g be la v := h.blocks hb.size (hb.block _ (by omega)) (hb.block _ hB)
theorem Two.grown {w w' : World} {g : Nat} {be la : Int} {v : Value} (h : Two w g be la v) (hb : w.grownBy w' none) : Two w' g be la v := h.blocks hb.size (hb.block _ (Nat.lt_of_succ_lt h.sz) (by simp)) (hb.block _ h.sz (by simp))
theorem set_far (w : World) (b b' i j : Nat) (v : Value) (h : b ≠ b') : (w.setCell ⟨b, i, none⟩ v).cell? ⟨b', j, none⟩ = w.cell? ⟨b', j, none⟩ := World.cell?_setCell_other w _ _ _ (by simp)
theorem Two.setLa {w : World} {g : Nat} {be la : Int} {v : Value} (h : Two w g be la v) (x : Int) : Two (w.setCell ⟨g, 1, none⟩ (.int .u64 x)) g be x v :=
  ⟨by rw [set_size]; exact h.sz, (set_other _ _ _ _ _ (by decide)).trans h.q0, set_same _ _ _ _ _ h.q1, (set_other _ _ _ _ _ (by decide)).trans h.q2, (frozen_set _ _ _ _).trans h.f0, (frozen_set _ _ _ _).trans h.f1, (frozen_set _ _ _ _).trans h.f2, (set_far _ _ _ _ _ _ (by omega)).trans h.r0, (set_far _ _ _ _ _ _ (by omega)).trans h.r1, (set_far _ _ _ _ _ _ (by omega)).trans h.r2, (frozen_set _ _ _ _).trans h.k0, (frozen_set _ _ _ _).trans h.k1, (frozen_set _ _ _ _).trans h.k2⟩
/-- the two boxes behind a call -/
theorem box2 (w wp w4 : World) (be la : Nat) (v : Value) (hb4 : Below wp.heap.size wp w4) (hp : wp.heap = ((w.alloc (.cells #[.int .u64 be, .int .u64 la, v] 29)).alloc (.cells #[.int .u64 0, .int .u64 0, .slice none 0 0] 29)).heap) (h0 : Below w.heap.size w wp) :
    Hid (Below w.heap.size w w4) ∧ Two w4 w.heap.size be la v := by
  have hs : wp.heap.size = w.heap.size + 1 + 1 := by rw [hp]; simp
  have e1 : wp.heap[w.heap.size]? = some (.cells #[.int .u64 be, .int .u64 la, v] 29) := by rw [hp]; exact (Below.heap_alloc _ _ _ (by simp)).trans (new_block _ _)
  have e2 : wp.heap[w.heap.size + 1]? = some (.cells #[.int .u64 0, .int .u64 0, .slice none 0 0] 29) := by rw [hp]; have := new_block (w.alloc (.cells #[.int .u64 be, .int .u64 la, v] 29)) (.cells #[.int .u64 0, .int .u64 0, .slice none 0 0] 29); rw [size_new] at this; exact this
  have g1 := (hb4.block w.heap.size (by omega)).trans e1
  have g2 := (hb4.block (w.heap.size + 1) (by omega)).trans e2
  have c1 : ∀ o, w4.cell? ⟨w.heap.size, o, none⟩ = #[Value.int .u64 be, .int .u64 la, v][o]? := fun o => cell_of_block g1 o
  have c2 : ∀ o, w4.cell? ⟨w.heap.size + 1, o, none⟩ = #[Value.int .u64 0, .int .u64 0, .slice none 0 0][o]? := fun o => cell_of_block g2 o
  have d1 : ∀ o, w4.frozen? ⟨w.heap.size, o, none⟩ = false := fun o => frozen_of_block g1 o
  have d2 : ∀ o, w4.frozen? ⟨w.heap.size + 1, o, none⟩ = false := fun o => frozen_of_block g2 o
  exact ⟨h0.trans (hb4.mono (by omega)), ⟨by have := hb4.size; omega, c1 0, c1 1, c1 2, d1 0, d1 1, d1 2, c2 0, c2 1, c2 2, d2 0, d2 1, d2 2⟩⟩

theorem rtake_end (be la : Nat) (O : List Nat) (v : Value) (w : World) (hS : SlU w 0 v O) (hla : la = 4611686018427387904) :
    Calls Try.prog 24 #[clkV be la v] w fun e w' => e = .returned (.tuple #[clkV be la v, .int .u64 0, .int .i64 4]) ∧ Below w.heap.size w w' := by
  have a1 : 4611686018427387904 ≤ (la : Int) := by omega
  obtain ⟨p, c, rfl, _⟩ := hS.rd
  clear hS hla
  unfold clkV
  go_enter Try.func24, Try.ntmps24
  go_wp2_with fail
  refine bodyPost_ret (v := .tuple #[clkV be la (.slice p O.length c), .int .u64 0, .int .i64 4]) (by simp [results, Try.results24, go_sem, clkV]) rfl ?_
  exact ⟨rfl, by go_grown⟩

set_option maxHeartbeats 4000000 in
theorem rtake_full (be la : Nat) (O : List Nat) (v : Value) (w : World) (hS : SlU w 0 v O) (hp : ∀ s ∈ O, 0 < s) (hb : ∀ s ∈ O, s ≤ la) (hlen : O.length ≤ 4096) (hla : la < 4611686018427387904) (hF : frO la O + 4096 ≤ la) :
    Calls Try.prog 24 #[clkV be la v] w fun e w' => e = .returned (.tuple #[clkV be la v, .int .u64 0, .int .i64 2]) ∧ Below w.heap.size w w' := by
  have C1 : Hid (∀ w1, Below w.heap.size w w1 → Calls _ _ _ _ _) := fun w1 h1 => rfront_any be la O v w1 (hS.keep h1 (Nat.le_refl _)) hp hb (by omega) hlen
  obtain ⟨p, c, rfl, _⟩ := hS.rd
  clear hS hp hb hlen
  generalize frO la O = F at *
  have a1 : ¬ (4611686018427387904 ≤ (la : Int)) := by omega
  obtain ⟨x, hx, hx2⟩ : ∃ x : Int, IntKind.u64.wrap ((la : Int) - (F : Int)) = x ∧ 4096 ≤ x := ⟨_, wrapU _ (by omega) (by omega), by omega⟩
  have HX : Hid _ := hx
  clear hF hla hx
  unfold clkV at *
  go_enter Try.func24, Try.ntmps24
  go_wp2_with fail
  go_region_with (first | (go_at_call 21; refine (C1.out _ (by go_grown)).mono ?_; rintro e w4 ⟨rfl, hb4⟩; obtain ⟨HB, T4⟩ := box2 w _ w4 be la _ hb4 rfl (show Below _ _ _ by go_grown); have HT : Hid _ := T4; obtain ⟨hz4, q0, q1, q2, f0, f1, f2, r0, r1, r2, k0, k1, k2⟩ := T4))
  all_goals
    rw [HX.out, decide_eq_true hx2]
    clear hx2 HX a1
    go_wp2_with fail
    refine bodyPost_ret (v := .tuple #[clkV be la (.slice p O.length c), .int .u64 0, .int .i64 2]) (by simp [results, Try.results24, go_sem, clkV, r0, r1, r2]) rfl ?_
    exact ⟨rfl, by go_grown; all_goals exact HB.out⟩

set_option maxHeartbeats 8000000 in
theorem rtake_ok (be la : Nat) (O : List Nat) (v : Value) (w : World) (hS : SlU w 0 v O) (hp : ∀ s ∈ O, 0 < s) (hb : ∀ s ∈ O, s ≤ la) (hlen : O.length ≤ 4096) (hla : la < 4611686018427387904) (hF : la < frO la O + 4096) :
    Calls Try.prog 24 #[clkV be la v] w fun e w' => ∃ v', e = .returned (.tuple #[clkV be (la + 1) v', .int .u64 ((la + 1 : Nat) : Int), .int .i64 0]) ∧ SlU w' w.heap.size v' (O ++ [la + 1]) ∧ Below w.heap.size w w' := by
  have C1 : Hid (∀ w1, Below w.heap.size w w1 → Calls _ _ _ _ _) := fun w1 h1 => rfront_any be la O v w1 (hS.keep h1 (Nat.le_refl _)) hp hb (by omega) hlen
  have hle := frO_le hb
  have HS : Hid (SlU _ _ _ _) := hS
  obtain ⟨p, c, rfl, _⟩ := hS.rd
  clear hS hp hb
  generalize frO la O = F at *
  have a1 : ¬ (4611686018427387904 ≤ (la : Int)) := by omega
  obtain ⟨x, hx, hx2⟩ : ∃ x : Int, IntKind.u64.wrap ((la : Int) - (F : Int)) = x ∧ ¬ 4096 ≤ x := ⟨_, wrapU _ (by omega) (by omega), by omega⟩
  have HX : Hid _ := hx
  have HX2 : Hid _ := hx2
  have HL : Hid (O.length ≤ 4096) := hlen
  have E1 : Hid (((la + 1 : Nat) : Int) = (la : Int) + 1) := by show _ = _; omega
  clear hF hx hle hlen hx2
  unfold clkV at *
  go_enter Try.func24, Try.ntmps24
  go_wp2_with fail
  go_region_with (first | (go_at_call 21; refine (C1.out _ (by go_grown)).mono ?_; rintro e w4 ⟨rfl, hb4⟩; obtain ⟨HB, T4⟩ := box2 w _ w4 be la _ hb4 rfl (show Below _ _ _ by go_grown); have HT : Hid _ := T4; obtain ⟨hz4, q0, q1, q2, f0, f1, f2, r0, r1, r2, k0, k1, k2⟩ := T4))
  all_goals
    rw [HX.out, decide_eq_false HX2.out]
    clear HX2 HX a1 hb4
    go_wp2_with (first | (at_builtin; refine wpList_appN _ rfl (.tmp 21) (.tmp 23) rfl _ O rfl rfl (HS.out.keep (show Below w.heap.size w _ by go_grown; all_goals exact HB.out) (Nat.le_refl _)) HL.out ?_; intro v5 w5 h5 h6; clear q0 q1 q2 f0 f1 f2 r0 r1 r2 k0 k1 k2; have HT5 : Hid (Two w5 w.heap.size _ _ _) := (HT.out.setLa ((la : Int) + 1)).grown h6; obtain ⟨hz5, q0, q1, q2, f0, f1, f2, r0, r1, r2, k0, k1, k2⟩ := HT5.out; have HB5 : Hid (Below w.heap.size w w5) := (HB.out.setCell (p := ⟨w.heap.size, 1, none⟩) (Nat.le_refl _) (.int .u64 ((la : Int) + 1))).grown h6 (by simp; omega) (by simp)) | (at_builtin; go_loud (refine wpList_app1 _ rfl (.tmp 25) _ 22 27 _ 1 8 rfl Try.underlying27 info_u64 rfl (by decide) _ v5 _ _ (by rfl) h5 [.int .u64 ((la : Int) + 1)] rfl (by intro u hu; have e : u = .int .u64 ((la : Int) + 1) := (by simpa using hu); subst e; rfl) _ rfl (by simp) (by have := HL.out; omega) (by have := HL.out; omega) h6.size ?_); intro v6 w6 h7 h8 h9; clear q0 q1 q2 f0 f1 f2 r0 r1 r2 k0 k1 k2; have HT6 : Hid (Two w6 w.heap.size _ _ _) := HT5.out.below h8 (by rw [set_size]; exact hz4); obtain ⟨hz6, q0, q1, q2, f0, f1, f2, r0, r1, r2, k0, k1, k2⟩ := HT6.out; have HB6 : Hid (Below w.heap.size w w6) := HB5.out.trans (h8.mono (by rw [set_size]; omega)); have HS6 : Hid (SlU w6 (w.heap.size + 2) v6 (O ++ [la + 1])) := (sl_snoc h7).weaken (by rw [set_size]; exact hz4); obtain ⟨p6, c6, e6, _⟩ := HS6.out.rd; subst e6))
  all_goals
    clear h5 h6 h7 h8 h9 HT HT5 HT6 HB HB5 C1 HS
    go_region
  all_goals
    go_wp2_with fail
    refine bodyPost_ret (v := .tuple #[clkV be (la + 1) (.slice p6 (O ++ [la + 1]).length c6), .int .u64 ((la + 1 : Nat) : Int), .int .i64 0]) (by simp [results, Try.results24, go_sem, clkV, r0, r1, r2]) rfl ?_
    refine ⟨_, rfl, (HS6.out.far (by simp) ?_).weaken (by omega), by go_grown; all_goals exact HB6.out⟩
    intro g h1 h2
    exact (Below.heap_setCell _ _ _ _ (by simp; omega)).trans ((Below.heap_setCell _ _ _ _ (by simp; omega)).trans ((Below.heap_setCell _ _ _ _ (by simp; omega)).trans (Below.heap_setCell _ _ _ _ (by simp; omega))))
