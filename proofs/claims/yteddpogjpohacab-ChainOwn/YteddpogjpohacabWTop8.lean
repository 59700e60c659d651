/- The walk of topped. -/
import Derived.Test.YteddpogjpohacabWBel8
import Derived.Test.YteddpogjpohacabWHeld
namespace Go.Proofs.Yteddpogjpohacab
open Go.RowKit
set_option maxRecDepth 100000

/-- 'append(l, x)', as an operation -/
theorem wp_app8 {o : Oper} {a : Act} {K : Act → World → Prop} {Q : Exit → Act → World → Prop} (W : World) (s x : Operand) (T S : TypeId) (z : Value) (size bytes : Nat)
    (ho : o.op = .call { callee := .builtin .append, args := #[s, x], argTypes := #[S, S] }) (hu : Try.prog.underlying S = some (.slice T))
    (hinfo : (Try.prog.info? T).map (fun i => (i.zero, i.size, i.bytes)) = some (some z, size, bytes)) (hzs : z.cells.size = size) (hsz : 0 < size)
    (B : Nat) (v : Value) (n : Nat) (xs : List Value) (hs : a.eval s = v) (hown : W.ownsRow B T size v n xs)
    (us : List Value) (hus : us.length = size) (hone : ∀ u ∈ us, u.oneCell' = true) (g : Nat) (hx : a.eval x = .slice (some ⟨g, 0, none⟩) 1 1) (hcell : ∀ (j : Nat) u, us[j]? = some u → W.cell? ⟨g, j, none⟩ = some u)
    (hlen : (n + 1) * bytes ≤ 140737488355328) (hlen2 : n + 1 ≤ 140737488355328) (hbase : B ≤ W.heap.size)
    (h : ∀ v' w', w'.ownsRow B T size v' (n + 1) (xs ++ us) → W.grownBy w' v.ownBlock → K (a.put o.dst v') w') : Oper.wp Try.prog o a W K Q := by
  obtain ⟨i, hi, hz0, hz1, hz2⟩ := info_parts1 hinfo
  refine wp_append_own _ s x S ho B T i z size bytes hu hi hz0 hz1 hz2 hzs hsz v n xs hs hown ⟨g, 0, none⟩ 1 1 us hx (by omega) ?_ hone (by unfold maxLen; omega) hlen hbase ?_
  · intro j y hj
    have e : (⟨g, 0, none⟩ : Addr).add j = ⟨g, j, none⟩ := by unfold Addr.add; split <;> simp_all
    rw [e]
    exact hcell j y hj
  · intro v' w' h1 h2 _
    exact h v' w' h1 h2
theorem cell_new8 (w : World) (us : List Value) (T : TypeId) (j : Nat) (u : Value) (h : us[j]? = some u) : (w.alloc (.cells us.toArray T)).cell? ⟨w.heap.size, j, none⟩ = some u := by
  rw [World.cell?_alloc_new]
  simpa using h
theorem three_one {k : IntKind} {n : Int} {g : Bool} {v : Value} (h : v.oneCell' = true) : ∀ u ∈ [Value.int k n, .bool g, v], u.oneCell' = true := by
  intro u hu
  simp only [List.mem_cons, List.not_mem_nil, or_false] at hu
  rcases hu with rfl | rfl | rfl
  · rfl
  · rfl
  · exact h
theorem OwnRs.off {k : IntKind} {T : TypeId} {w : World} {B j i : Nat} {v : Value} {Z : List (Rw × Value)} (h : OwnRs k T w B v Z) (x : Value) (hj : j < B) : OwnRs k T (w.setCell ⟨j, i, none⟩ x) B v Z := by
  refine ⟨⟨h.1.1, ?_⟩, fun z hz => (h.2 z hz).off x hj⟩
  rcases h.1.2 with h1 | ⟨g, cap, cur, e, hb', hg, r⟩
  · exact .inl h1
  · exact .inr ⟨g, cap, cur, e, hb', (heap_setCell_other w _ g x (by show g ≠ j; omega)).trans hg, r⟩

set_option maxHeartbeats 8000000 in
theorem topped_any (W : List Rw) (p : Option Addr) (c : Nat) (tx n : Int) (g : Bool) (row : List Vl) (q : Option Addr) (d : Nat) (w : World) (hR : RdR .i64 w w.heap.size p W) (hV : SlV w w.heap.size (.slice q row.length d) row) (hlen : W.length ≤ 3518437208780) (hsh : shortR W) (hrow : row.length ≤ 3518437208780) :
    Calls Try.prog 26 #[.agg #[.int .i64 tx, .slice p W.length c], .agg #[.int .i64 n, .bool g, .slice q row.length d]] w fun e w' => (∃ v Z, e = .returned (.agg #[.int .i64 tx, v]) ∧ Z.map Prod.fst = belL W n ++ [⟨n, g, row⟩] ∧ OwnRs .i64 40 w' w.heap.size v Z) ∧ Below w.heap.size w w' := by
  have HR : Hid (∀ w1, Below w.heap.size w w1 → RdR .i64 w1 w1.heap.size p W) := fun w1 h => hR.on h
  have HV : Hid (∀ w1, Below w.heap.size w w1 → SlV w1 w1.heap.size (.slice q row.length d) row) := fun w1 h => (hV.keep h).mono h.size
  have C6 : Hid (∀ w1, Below w.heap.size w w1 → Calls Try.prog 23 #[.slice p W.length c, .int .i64 n] w1 fun e w' => (∃ v Z, e = .returned v ∧ Z.map Prod.fst = belL W n ∧ OwnRs .i64 40 w' w1.heap.size v Z) ∧ Below w1.heap.size w1 w') := fun w1 h => below_any W p c n w1 (HR.out w1 h) hlen hsh
  have C8 : Hid (∀ w1, Below w.heap.size w w1 → Calls Try.prog 31 #[.agg #[.int .i64 n, .bool g, .slice q row.length d]] w1 fun e w' => (∃ v', e = .returned (.agg #[.int .i64 n, .bool g, v']) ∧ OwnV w' w1.heap.size v' row) ∧ Below w1.heap.size w1 w') := fun w1 h => ownWrite_any _ _ _ _ w1 (HV.out w1 h) hrow
  have HC : Hid (∀ v, rcell .i64 (⟨n, g, row⟩, v) = [.int .i64 n, .bool g, v]) := fun v => rfl
  have HBl : Hid ((belL W n).length ≤ W.length) := belL_len W n
  clear hR hV hsh hrow HR HV
  generalize row.length = rl at *
  have hx1 := ((Box.new w #[.int .i64 tx, .slice p W.length c] 36).on ((Below.refl _ _).alloc (Nat.le_refl _) (.cells #[.int .i64 n, .bool g, .slice q rl d] 40))).on ((Below.refl _ _).alloc (Nat.le_refl _) (.cells #[.int .i64 0, .slice none 0 0] 36))
  have hx2 := (Box.new (w.alloc (.cells #[.int .i64 tx, .slice p W.length c] 36)) #[.int .i64 n, .bool g, .slice q rl d] 40).on ((Below.refl _ _).alloc (Nat.le_refl _) (.cells #[.int .i64 0, .slice none 0 0] 36))
  have hx3 := Box.new ((w.alloc (.cells #[.int .i64 tx, .slice p W.length c] 36)).alloc (.cells #[.int .i64 n, .bool g, .slice q rl d] 40)) #[.int .i64 0, .slice none 0 0] 36
  have hs1 : (w.alloc (.cells #[.int .i64 tx, .slice p W.length c] 36)).heap.size = w.heap.size + 1 := by simp [go_sem]
  have hs2 : ((w.alloc (.cells #[.int .i64 tx, .slice p W.length c] 36)).alloc (.cells #[.int .i64 n, .bool g, .slice q rl d] 40)).heap.size = w.heap.size + 1 + 1 := by simp [go_sem]
  have hs3 : (((w.alloc (.cells #[.int .i64 tx, .slice p W.length c] 36)).alloc (.cells #[.int .i64 n, .bool g, .slice q rl d] 40)).alloc (.cells #[.int .i64 0, .slice none 0 0] 36)).heap.size = w.heap.size + 3 := by simp [go_sem]
  rw [hs1] at hx2
  rw [hs2] at hx3
  have HB0 : Hid (Below w.heap.size w (((w.alloc (.cells #[.int .i64 tx, .slice p W.length c] 36)).alloc (.cells #[.int .i64 n, .bool g, .slice q rl d] 40)).alloc (.cells #[.int .i64 0, .slice none 0 0] 36)) ∧ (((w.alloc (.cells #[.int .i64 tx, .slice p W.length c] 36)).alloc (.cells #[.int .i64 n, .bool g, .slice q rl d] 40)).alloc (.cells #[.int .i64 0, .slice none 0 0] 36)).heap.size = w.heap.size + 3) := ⟨by go_grown, hs3⟩
  have HX0 : Hid (Box (((w.alloc (.cells #[.int .i64 tx, .slice p W.length c] 36)).alloc (.cells #[.int .i64 n, .bool g, .slice q rl d] 40)).alloc (.cells #[.int .i64 0, .slice none 0 0] 36)) w.heap.size #[.int .i64 tx, .slice p W.length c] 36 ∧ Box (((w.alloc (.cells #[.int .i64 tx, .slice p W.length c] 36)).alloc (.cells #[.int .i64 n, .bool g, .slice q rl d] 40)).alloc (.cells #[.int .i64 0, .slice none 0 0] 36)) (w.heap.size + 1) #[.int .i64 n, .bool g, .slice q rl d] 40 ∧ Box (((w.alloc (.cells #[.int .i64 tx, .slice p W.length c] 36)).alloc (.cells #[.int .i64 n, .bool g, .slice q rl d] 40)).alloc (.cells #[.int .i64 0, .slice none 0 0] 36)) (w.heap.size + 1 + 1) #[.int .i64 0, .slice none 0 0] 36) := ⟨hx1, hx2, hx3⟩
  clear hx1 hx2 hx3 hs1 hs2 hs3
  go_enter Try.func26, Try.ntmps26
  go_wp2_with fail
  generalize (((w.alloc (.cells #[.int .i64 tx, .slice p W.length c] 36)).alloc (.cells #[.int .i64 n, .bool g, .slice q rl d] 40)).alloc (.cells #[.int .i64 0, .slice none 0 0] 36)) = w3 at *
  refine wp_region_L (fun w' => Box w' w.heap.size #[.int .i64 tx, .slice p W.length c] 36 ∧ Box w' (w.heap.size + 1) #[.int .i64 n, .bool g, .slice q rl d] 40 ∧ Box w' (w.heap.size + 1 + 1) #[.int .i64 0, .slice none 0 0] 36) 12 (by kernel_rfl) ?_
  have hS0 : Box w3.drew w.heap.size #[.int .i64 tx, .slice p W.length c] 36 ∧ Box w3.drew (w.heap.size + 1) #[.int .i64 n, .bool g, .slice q rl d] 40 ∧ Box w3.drew (w.heap.size + 1 + 1) #[.int .i64 0, .slice none 0 0] 36 := HX0.out
  have HBd : Hid (Below w.heap.size w w3.drew ∧ w3.drew.heap.size = w.heap.size + 3) := ⟨HB0.out.1.drew, HB0.out.2⟩
  clear HX0 HB0
  refine wpL_take (v := ?_) 0 rfl (by kernel_rfl) (fun _ _ _ h => h) (by rfl) ?_ hS0 ?_
  rotate_left
  focus
    intro w9 hw9
    obtain ⟨a0, a1, _, _⟩ := box2 hw9.1
    obtain ⟨⟨b0, b1, b2⟩, _⟩ := box3 hw9.2.1
    go_simp
    try with_reducible rfl
  try simp only [Act.put, List.setIfInBounds_toArray, List.set_cons_zero, List.set_cons_succ]
  refine wpL_take (v := ?_) 1 rfl (by kernel_rfl) (fun _ _ _ h => h) (by rfl) ?_ hS0 ?_
  rotate_left
  focus
    intro w9 hw9
    obtain ⟨a0, a1, _, _⟩ := box2 hw9.1
    obtain ⟨⟨b0, b1, b2⟩, _⟩ := box3 hw9.2.1
    go_simp
    try with_reducible rfl
  try simp only [Act.put, List.setIfInBounds_toArray, List.set_cons_zero, List.set_cons_succ]
  refine wpL_take (v := ?_) 2 rfl (by kernel_rfl) (fun _ _ _ h => h) (by rfl) ?_ hS0 ?_
  rotate_left
  focus
    intro w9 hw9
    obtain ⟨a0, a1, _, _⟩ := box2 hw9.1
    obtain ⟨⟨b0, b1, b2⟩, _⟩ := box3 hw9.2.1
    go_simp
    try with_reducible rfl
  try simp only [Act.put, List.setIfInBounds_toArray, List.set_cons_zero, List.set_cons_succ]
  refine wpL_take (v := ?_) 3 rfl (by kernel_rfl) (fun _ _ _ h => h) (by rfl) ?_ hS0 ?_
  rotate_left
  focus
    intro w9 hw9
    obtain ⟨a0, a1, _, _⟩ := box2 hw9.1
    obtain ⟨⟨b0, b1, b2⟩, _⟩ := box3 hw9.2.1
    go_simp
    try with_reducible rfl
  try simp only [Act.put, List.setIfInBounds_toArray, List.set_cons_zero, List.set_cons_succ]
  refine wpL_take (v := ?_) 4 rfl (by kernel_rfl) (fun _ _ _ h => h) (by rfl) ?_ hS0 ?_
  rotate_left
  focus
    intro w9 hw9
    obtain ⟨a0, a1, _, _⟩ := box2 hw9.1
    obtain ⟨⟨b0, b1, b2⟩, _⟩ := box3 hw9.2.1
    go_simp
    try with_reducible rfl
  try simp only [Act.put, List.setIfInBounds_toArray, List.set_cons_zero, List.set_cons_succ]
  refine wpL_take (v := ?_) 5 rfl (by kernel_rfl) (fun _ _ _ h => h) (by rfl) ?_ hS0 ?_
  rotate_left
  focus
    intro w9 hw9
    obtain ⟨a0, a1, _, _⟩ := box2 hw9.1
    obtain ⟨⟨b0, b1, b2⟩, _⟩ := box3 hw9.2.1
    go_simp
    try with_reducible rfl
  try simp only [Act.put, List.setIfInBounds_toArray, List.set_cons_zero, List.set_cons_succ]
  refine wpL_take (v := ?_) 7 rfl (by kernel_rfl) (fun _ _ _ h => h) (by rfl) ?_ hS0 ?_
  rotate_left
  focus
    intro w9 hw9
    obtain ⟨a0, a1, _, _⟩ := box2 hw9.1
    obtain ⟨⟨b0, b1, b2⟩, _⟩ := box3 hw9.2.1
    go_simp
    try with_reducible rfl
  try simp only [Act.put, List.setIfInBounds_toArray, List.set_cons_zero, List.set_cons_succ]
  refine wpL_one 6 rfl (by kernel_rfl) (by rfl) ?_
  intro K hK
  go_simp
  refine (C6.out _ HBd.out.1).mono ?_
  rintro e w5 ⟨⟨v5, Z5, rfl, hZ5, hO5⟩, hb5⟩
  dsimp only
  obtain ⟨p5, c5, rfl, _⟩ := owns_len hO5.1
  have hS5 : Box w5 w.heap.size #[.int .i64 tx, .slice p W.length c] 36 ∧ Box w5 (w.heap.size + 1) #[.int .i64 n, .bool g, .slice q rl d] 40 ∧ Box w5 (w.heap.size + 1 + 1) #[.int .i64 0, .slice none 0 0] 36 := ⟨hS0.1.on hb5, hS0.2.1.on hb5, hS0.2.2.on hb5⟩
  have HB5 : Hid (Below w.heap.size w w5) := HBd.out.1.trans (hb5.mono HBd.out.1.size)
  have HO5 : Hid (OwnRs .i64 40 w5 (w.heap.size + 3) (.slice p5 Z5.length c5) Z5 ∧ Z5.map Prod.fst = belL W n) := ⟨hO5.base (by rw [HBd.out.2]; exact Nat.le_refl _), hZ5⟩
  have HS5 : Hid (w.heap.size + 3 ≤ w5.heap.size) := by have := hb5.size; rw [HBd.out.2] at this; exact this
  clear hb5 hO5 hZ5 HBd hS0
  refine hK.out _ _ (fun _ => hS5) ?_
  clear hK K
  try simp only [Act.put, List.setIfInBounds_toArray, List.set_cons_zero, List.set_cons_succ]
  refine wpL_one 8 rfl (by kernel_rfl) (by rfl) ?_
  intro K hK
  go_simp
  refine (C8.out _ HB5.out).mono ?_
  rintro e w6 ⟨⟨v6, rfl, ho6⟩, hb6⟩
  dsimp only
  obtain ⟨q6, c6, rfl, _⟩ := ho6.sl
  have hS6 : Box w6 w.heap.size #[.int .i64 tx, .slice p W.length c] 36 ∧ Box w6 (w.heap.size + 1) #[.int .i64 n, .bool g, .slice q rl d] 40 ∧ Box w6 (w.heap.size + 1 + 1) #[.int .i64 0, .slice none 0 0] 36 := ⟨hS5.1.on hb6, hS5.2.1.on hb6, hS5.2.2.on hb6⟩
  have HB6 : Hid (Below w.heap.size w w6) := HB5.out.trans (hb6.mono HB5.out.size)
  have HO6 : Hid (OwnRs .i64 40 w6 (w.heap.size + 3) (.slice p5 Z5.length c5) Z5 ∧ Z5.map Prod.fst = belL W n) := ⟨HO5.out.1.kept hb6, HO5.out.2⟩
  have HV6 : Hid (OwnV w6 (w.heap.size + 3) (.slice q6 row.length c6) row) := ho6.base HS5.out
  have HS6 : Hid (w.heap.size + 3 ≤ w6.heap.size) := Nat.le_trans HS5.out hb6.size
  clear hb6 ho6 hS5 HB5 HO5 HS5
  refine hK.out _ _ (fun _ => hS6) ?_
  clear hK K
  try simp only [Act.put, List.setIfInBounds_toArray, List.set_cons_zero, List.set_cons_succ]
  refine wpL_one 9 rfl (by kernel_rfl) (by rfl) ?_
  intro K hK
  go_simp
  have hba : Below w6.heap.size w6 (w6.alloc (.cells #[.int .i64 n, .bool g, .slice q6 row.length c6] 40)) := (Below.refl _ _).alloc (Nat.le_refl _) _
  have hS7 : Box (w6.alloc (.cells #[.int .i64 n, .bool g, .slice q6 row.length c6] 40)) w.heap.size #[.int .i64 tx, .slice p W.length c] 36 ∧ Box (w6.alloc (.cells #[.int .i64 n, .bool g, .slice q6 row.length c6] 40)) (w.heap.size + 1) #[.int .i64 n, .bool g, .slice q rl d] 40 ∧ Box (w6.alloc (.cells #[.int .i64 n, .bool g, .slice q6 row.length c6] 40)) (w.heap.size + 1 + 1) #[.int .i64 0, .slice none 0 0] 36 := ⟨hS6.1.on hba, hS6.2.1.on hba, hS6.2.2.on hba⟩
  refine hK.out _ _ (fun _ => hS7) ?_
  clear hK K
  try simp only [Act.put, List.setIfInBounds_toArray, List.set_cons_zero, List.set_cons_succ]
  refine wpL_one 10 rfl (by kernel_rfl) (by rfl) ?_
  intro K hK
  have hZl : Z5.length ≤ W.length := by
    have := congrArg List.length HO6.out.2
    rw [List.length_map] at this
    rw [this]
    exact HBl.out
  refine wp_app8 _ (.tmp 11) (.tmp 14) 40 34 _ 3 40 rfl Try.underlying34 info_wri rfl (by decide) (w.heap.size + 3) _ Z5.length (Z5.flatMap (rcell .i64)) (by rfl) (HO6.out.1.kept hba).1 [.int .i64 n, .bool g, .slice q6 row.length c6] rfl (three_one rfl) w6.heap.size (by rfl) (cell_new8 w6 _ _) (by omega) (by omega) (Nat.le_trans HS6.out hba.size) ?_
  intro v8 w8 h8 h9
  have hb68 : Below (w.heap.size + 3) (w6.alloc (.cells #[.int .i64 n, .bool g, .slice q6 row.length c6] 40)) w8 := (Below.refl _ _).grown h9 (Nat.le_trans HS6.out hba.size) (fun k hk => ((HO6.out.1.kept hba).1.lt k hk).1)
  have HO8 : Hid (OwnRs .i64 40 w8 (w.heap.size + 3) v8 (Z5 ++ [(⟨n, g, row⟩, .slice q6 row.length c6)])) := HO6.out.1.app (z := (⟨n, g, row⟩, .slice q6 row.length c6)) HV6.out (by decide) (by rw [HC.out]; exact h8) (by rw [HC.out]; exact h9)
  have hS8 : Box w8 w.heap.size #[.int .i64 tx, .slice p W.length c] 36 ∧ Box w8 (w.heap.size + 1) #[.int .i64 n, .bool g, .slice q rl d] 40 ∧ Box w8 (w.heap.size + 1 + 1) #[.int .i64 0, .slice none 0 0] 36 := ⟨hS7.1.keep hb68 (by omega), hS7.2.1.keep hb68 (by omega), hS7.2.2.keep hb68 (by omega)⟩
  have HB8 : Hid (Below w.heap.size w w8) := (HB6.out.trans (hba.mono HB6.out.size)).trans (hb68.mono (by omega))
  clear h8 h9 hb68
  obtain ⟨p8, c8, e8, _⟩ := owns_len HO8.out.1
  rw [show (Z5 ++ [((⟨n, g, row⟩ : Rw), Value.slice q6 row.length c6)]).length = Z5.length + 1 by simp] at e8
  subst e8
  refine hK.out _ _ (fun _ => hS8) ?_
  clear hK K hba hS7 hS6
  try simp only [Act.put, List.setIfInBounds_toArray, List.set_cons_zero, List.set_cons_succ]
  refine wpL_take (v := ?_) 11 rfl (by kernel_rfl) (fun _ _ _ h => h) (by rfl) ?_ hS8 ?_
  rotate_left
  focus
    intro w9 hw9
    go_simp
    try with_reducible rfl
  try simp only [Act.put, List.setIfInBounds_toArray, List.set_cons_zero, List.set_cons_succ]
  refine wpL_one 12 rfl (by kernel_rfl) (by rfl) ?_
  intro K hK
  obtain ⟨z0, z1, z2, z3⟩ := box2 hS8.2.2
  go_simp
  refine hK.out _ _ (fun h => absurd rfl h) ?_
  clear hK K
  refine wpL_done (by kernel_rfl) ?_ _
  refine NoPanic.normal ?_
  have hZ := (hS8.2.2.set (i := 0) (.int .i64 tx)).set (i := 1) (.slice p8 (Z5.length + 1) c8)
  have hN4 := (HO8.out.off (i := 0) (.int .i64 tx) (show w.heap.size + 1 + 1 < w.heap.size + 3 by omega)).off (i := 1) (.slice p8 (Z5.length + 1) c8) (show w.heap.size + 1 + 1 < w.heap.size + 3 by omega)
  have hB4 := (HB8.out.setCell (p := ⟨w.heap.size + 1 + 1, 0, none⟩) (show w.heap.size ≤ w.heap.size + 1 + 1 by omega) (.int .i64 tx)).setCell (p := ⟨w.heap.size + 1 + 1, 1, none⟩) (show w.heap.size ≤ w.heap.size + 1 + 1 by omega) (.slice p8 (Z5.length + 1) c8)
  have HZm : Hid ((Z5 ++ [((⟨n, g, row⟩ : Rw), Value.slice q6 row.length c6)]).map Prod.fst = belL W n ++ [⟨n, g, row⟩]) := by
    show _ = _
    rw [List.map_append, HO6.out.2]
    rfl
  generalize (Z5 ++ [((⟨n, g, row⟩ : Rw), Value.slice q6 row.length c6)]) = Z8 at *
  generalize (w8.setCell ⟨w.heap.size + 1 + 1, 0, none⟩ (.int .i64 tx)).setCell ⟨w.heap.size + 1 + 1, 1, none⟩ (.slice p8 (Z5.length + 1) c8) = w9 at *
  obtain ⟨y0, y1, _⟩ := box2 hZ
  go_wp2_with fail
  (try simp only [Exit.inBlock, Exit.then])
  refine bodyPost_ret (v := .agg #[.int .i64 tx, .slice p8 (Z5.length + 1) c8]) (by simp [results, Try.results26, go_sem, y0, y1]) rfl ?_
  exact ⟨⟨_, Z8, rfl, HZm.out, hN4.base (by omega)⟩, hB4⟩
end Go.Proofs.Yteddpogjpohacab
