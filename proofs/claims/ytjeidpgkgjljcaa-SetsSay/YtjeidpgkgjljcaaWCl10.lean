/- A foot without a table. -/
import Derived.Test.YtjeidpgkgjljcaaWCl9
namespace Go.Proofs.Ytjeidpgkgjljcaa
open Go.RowKit
set_option maxRecDepth 100000

theorem OwnS.frm {w w' : World} {F : Nat → Prop} {B : Nat} {v : Value} {L : List Sp} (h : OwnS w B v L) (hf : Frm w w' F) (hn : ∀ b, B ≤ b → ¬ F b) : OwnS w' B v L := by
  refine ⟨h.1, ?_⟩
  rcases h.2 with h1 | ⟨g, cap, cur, e, hb', hg, r⟩
  · exact .inl h1
  · exact .inr ⟨g, cap, cur, e, hb', (hf.block g (Array.getElem?_eq_some_iff.1 hg).1 (hn g hb')).trans hg, r⟩

theorem wo1_any (x : Pt) (tb : Int) (ib : Nat) (w : World) (h : Blk w ib #[.int .i64 tb] 3) : Calls Try.prog 31 #[PV x, ptr1 ib] w fun e w' => e = .returned (.bool (x.t == tb)) ∧ Below w.heap.size w w' := by
  have hal : Below w.heap.size w (w.alloc (.cells #[.int .i64 x.t, .int .i64 x.i, .string x.k] 27)) := (Below.refl _ _).alloc (Nat.le_refl _) _
  have hx := h.on hal
  have a0 := hx.cell (i := 0) rfl
  have b0 := (Blk.new w #[.int .i64 x.t, .int .i64 x.i, .string x.k] 27).cell (i := 0) rfl
  have HA : Hid (Below w.heap.size w (w.alloc (.cells #[.int .i64 x.t, .int .i64 x.i, .string x.k] 27))) := hal
  have hlt := h.lt
  have hne : ¬ ib = w.heap.size := by omega
  clear hal hx h
  go_enter Try.func31, Try.ntmps31
  go_wp2_with fail
  go_ret
  exact ⟨rfl, HA.out⟩

theorem wo2_any (x : Sp) (tb : Int) (ib : Nat) (w : World) (h : Blk w ib #[.int .i64 tb] 3) : Calls Try.prog 34 #[.agg #[.int .i64 x.t, .int .i64 x.i, .string x.lo, .string x.hi, .bool x.op], ptr1 ib] w fun e w' => e = .returned (.bool (x.t == tb)) ∧ Below w.heap.size w w' := by
  have hal : Below w.heap.size w (w.alloc (.cells #[.int .i64 x.t, .int .i64 x.i, .string x.lo, .string x.hi, .bool x.op] 55)) := (Below.refl _ _).alloc (Nat.le_refl _) _
  have hx := h.on hal
  have a0 := hx.cell (i := 0) rfl
  have b0 := (Blk.new w #[.int .i64 x.t, .int .i64 x.i, .string x.lo, .string x.hi, .bool x.op] 55).cell (i := 0) rfl
  have HA : Hid (Below w.heap.size w (w.alloc (.cells #[.int .i64 x.t, .int .i64 x.i, .string x.lo, .string x.hi, .bool x.op] 55))) := hal
  have hlt := h.lt
  have hne : ¬ ib = w.heap.size := by omega
  clear hal hx h
  go_enter Try.func34, Try.ntmps34
  go_wp2_with fail
  go_ret
  exact ⟨rfl, HA.out⟩

set_option maxHeartbeats 8000000 in
theorem pwithout_any (a : Ft) (tb : Int) (va0 va1 va2 : Value) (w : World) (ha : RdF w va0 va1 va2 a) :
    Calls Try.prog 13 #[.agg #[va0, va1, va2], .int .i64 tb] w fun e w' => ∃ v0 v1 v2, e = .returned (.agg #[v0, v1, v2]) ∧ OwnP w' w.heap.size v0 (dropG (fun x => x.t == tb) a.P) ∧ OwnS w' w.heap.size v1 (dropG (fun x => x.t == tb) a.S) ∧ OwnP w' w.heap.size v2 (dropG (fun x => x.t == tb) a.W) ∧ Below w.heap.size w w' := by
  have hal : Below w.heap.size w (((w.alloc (.cells #[va0, va1, va2] 25)).alloc (.cells #[.int .i64 tb] 3)).alloc (.cells #[.slice none 0 0, .slice none 0 0, .slice none 0 0] 25)) := (((Below.refl _ _).alloc (Nat.le_refl _) _).alloc (by simp) _).alloc (by simp <;> omega) _
  have hz : (((w.alloc (.cells #[va0, va1, va2] 25)).alloc (.cells #[.int .i64 tb] 3)).alloc (.cells #[.slice none 0 0, .slice none 0 0, .slice none 0 0] 25)).heap.size = w.heap.size + 1 + 1 + 1 := by simp
  have hA0 : Blk (((w.alloc (.cells #[va0, va1, va2] 25)).alloc (.cells #[.int .i64 tb] 3)).alloc (.cells #[.slice none 0 0, .slice none 0 0, .slice none 0 0] 25)) w.heap.size #[va0, va1, va2] 25 := (Blk.new w #[va0, va1, va2] 25).keep (B := w.heap.size + 1) (((Below.refl _ _).alloc (by simp) _).alloc (by simp) _) (by omega)
  have hB0 : Blk (((w.alloc (.cells #[va0, va1, va2] 25)).alloc (.cells #[.int .i64 tb] 3)).alloc (.cells #[.slice none 0 0, .slice none 0 0, .slice none 0 0] 25)) (w.heap.size + 1) #[.int .i64 tb] 3 := by
    have h := Blk.new (w.alloc (.cells #[va0, va1, va2] 25)) #[.int .i64 tb] 3
    have e : (w.alloc (.cells #[va0, va1, va2] 25)).heap.size = w.heap.size + 1 := by simp
    rw [e] at h
    exact h.keep (B := w.heap.size + 1 + 1) ((Below.refl _ _).alloc (by simp) _) (by omega)
  have hC0 : Blk (((w.alloc (.cells #[va0, va1, va2] 25)).alloc (.cells #[.int .i64 tb] 3)).alloc (.cells #[.slice none 0 0, .slice none 0 0, .slice none 0 0] 25)) (w.heap.size + 1 + 1) #[.slice none 0 0, .slice none 0 0, .slice none 0 0] 25 := by
    have h := Blk.new ((w.alloc (.cells #[va0, va1, va2] 25)).alloc (.cells #[.int .i64 tb] 3)) #[.slice none 0 0, .slice none 0 0, .slice none 0 0] 25
    have e : ((w.alloc (.cells #[va0, va1, va2] 25)).alloc (.cells #[.int .i64 tb] 3)).heap.size = w.heap.size + 1 + 1 := by simp
    rw [e] at h
    exact h
  have HW : Hid (Below w.heap.size w (((w.alloc (.cells #[va0, va1, va2] 25)).alloc (.cells #[.int .i64 tb] 3)).alloc (.cells #[.slice none 0 0, .slice none 0 0, .slice none 0 0] 25)) ∧ (((w.alloc (.cells #[va0, va1, va2] 25)).alloc (.cells #[.int .i64 tb] 3)).alloc (.cells #[.slice none 0 0, .slice none 0 0, .slice none 0 0] 25)).heap.size = w.heap.size + 1 + 1 + 1 ∧ Blk (((w.alloc (.cells #[va0, va1, va2] 25)).alloc (.cells #[.int .i64 tb] 3)).alloc (.cells #[.slice none 0 0, .slice none 0 0, .slice none 0 0] 25)) w.heap.size #[va0, va1, va2] 25 ∧ Blk (((w.alloc (.cells #[va0, va1, va2] 25)).alloc (.cells #[.int .i64 tb] 3)).alloc (.cells #[.slice none 0 0, .slice none 0 0, .slice none 0 0] 25)) (w.heap.size + 1) #[.int .i64 tb] 3 ∧ Blk (((w.alloc (.cells #[va0, va1, va2] 25)).alloc (.cells #[.int .i64 tb] 3)).alloc (.cells #[.slice none 0 0, .slice none 0 0, .slice none 0 0] 25)) (w.heap.size + 1 + 1) #[.slice none 0 0, .slice none 0 0, .slice none 0 0] 25) := ⟨hal, hz, hA0, hB0, hC0⟩
  have HA : Hid (RdF w va0 va1 va2 a) := ha
  clear ha hal hz hA0 hB0 hC0
  go_enter Try.func13, Try.ntmps13
  go_wp2_with fail
  generalize (((w.alloc (.cells #[va0, va1, va2] 25)).alloc (.cells #[.int .i64 tb] 3)).alloc (.cells #[.slice none 0 0, .slice none 0 0, .slice none 0 0] 25)) = w3 at *
  refine wp_region_L (fun w' => Blk w' w.heap.size #[va0, va1, va2] 25) 13 (by kernel_rfl) ?_
  have HD : Hid (Below w3.heap.size w3 w3.drew) := (Below.refl _ _).drew
  have HSN : Hid (Blk w3.drew w.heap.size #[va0, va1, va2] 25) := HW.out.2.2.1.on HD.out
  generalize w3.drew = wd at *
  refine wpL_take (v := ?_) 0 rfl (by kernel_rfl) (fun _ _ _ h => h) (by rfl) ?_ HSN.out ?_
  rotate_left
  focus
    intro w9 hw9
    have k0 := Blk.cell hw9 (i := 0) rfl
    have k1 := Blk.cell hw9 (i := 1) rfl
    have k2 := Blk.cell hw9 (i := 2) rfl
    go_simp
    try with_reducible rfl
  try simp only [Act.put, List.setIfInBounds_toArray, List.set_cons_zero, List.set_cons_succ]
  refine wpL_take (v := ?_) 1 rfl (by kernel_rfl) (fun _ _ _ h => h) (by rfl) ?_ HSN.out ?_
  rotate_left
  focus
    intro w9 hw9
    have k0 := Blk.cell hw9 (i := 0) rfl
    have k1 := Blk.cell hw9 (i := 1) rfl
    have k2 := Blk.cell hw9 (i := 2) rfl
    go_simp
    try with_reducible rfl
  try simp only [Act.put, List.setIfInBounds_toArray, List.set_cons_zero, List.set_cons_succ]
  refine wpL_take (v := ?_) 2 rfl (by kernel_rfl) (fun _ _ _ h => h) (by rfl) ?_ HSN.out ?_
  rotate_left
  focus
    intro w9 hw9
    have k0 := Blk.cell hw9 (i := 0) rfl
    have k1 := Blk.cell hw9 (i := 1) rfl
    have k2 := Blk.cell hw9 (i := 2) rfl
    go_simp
    try with_reducible rfl
  try simp only [Act.put, List.setIfInBounds_toArray, List.set_cons_zero, List.set_cons_succ]
  refine wpL_take (v := ?_) 4 rfl (by kernel_rfl) (fun _ _ _ h => h) (by rfl) ?_ HSN.out ?_
  rotate_left
  focus
    intro w9 hw9
    have k0 := Blk.cell hw9 (i := 0) rfl
    have k1 := Blk.cell hw9 (i := 1) rfl
    have k2 := Blk.cell hw9 (i := 2) rfl
    go_simp
    try with_reducible rfl
  try simp only [Act.put, List.setIfInBounds_toArray, List.set_cons_zero, List.set_cons_succ]
  refine wpL_take (v := ?_) 5 rfl (by kernel_rfl) (fun _ _ _ h => h) (by rfl) ?_ HSN.out ?_
  rotate_left
  focus
    intro w9 hw9
    have k0 := Blk.cell hw9 (i := 0) rfl
    have k1 := Blk.cell hw9 (i := 1) rfl
    have k2 := Blk.cell hw9 (i := 2) rfl
    go_simp
    try with_reducible rfl
  try simp only [Act.put, List.setIfInBounds_toArray, List.set_cons_zero, List.set_cons_succ]
  refine wpL_take (v := ?_) 6 rfl (by kernel_rfl) (fun _ _ _ h => h) (by rfl) ?_ HSN.out ?_
  rotate_left
  focus
    intro w9 hw9
    have k0 := Blk.cell hw9 (i := 0) rfl
    have k1 := Blk.cell hw9 (i := 1) rfl
    have k2 := Blk.cell hw9 (i := 2) rfl
    go_simp
    try with_reducible rfl
  try simp only [Act.put, List.setIfInBounds_toArray, List.set_cons_zero, List.set_cons_succ]
  refine wpL_take (v := ?_) 8 rfl (by kernel_rfl) (fun _ _ _ h => h) (by rfl) ?_ HSN.out ?_
  rotate_left
  focus
    intro w9 hw9
    have k0 := Blk.cell hw9 (i := 0) rfl
    have k1 := Blk.cell hw9 (i := 1) rfl
    have k2 := Blk.cell hw9 (i := 2) rfl
    go_simp
    try with_reducible rfl
  try simp only [Act.put, List.setIfInBounds_toArray, List.set_cons_zero, List.set_cons_succ]
  refine wpL_take (v := ?_) 9 rfl (by kernel_rfl) (fun _ _ _ h => h) (by rfl) ?_ HSN.out ?_
  rotate_left
  focus
    intro w9 hw9
    have k0 := Blk.cell hw9 (i := 0) rfl
    have k1 := Blk.cell hw9 (i := 1) rfl
    have k2 := Blk.cell hw9 (i := 2) rfl
    go_simp
    try with_reducible rfl
  try simp only [Act.put, List.setIfInBounds_toArray, List.set_cons_zero, List.set_cons_succ]
  refine wpL_take (v := ?_) 10 rfl (by kernel_rfl) (fun _ _ _ h => h) (by rfl) ?_ HSN.out ?_
  rotate_left
  focus
    intro w9 hw9
    have k0 := Blk.cell hw9 (i := 0) rfl
    have k1 := Blk.cell hw9 (i := 1) rfl
    have k2 := Blk.cell hw9 (i := 2) rfl
    go_simp
    try with_reducible rfl
  try simp only [Act.put, List.setIfInBounds_toArray, List.set_cons_zero, List.set_cons_succ]
  refine wpL_one 3 rfl (by kernel_rfl) (by rfl) ?_
  intro K hK
  go_simp
  have CR3 : Hid (Calls Try.prog 32 #[va0, .func (.func 31) #[] #[ptr1 (w.heap.size + 1)]] wd fun e w' => ∃ v', e = .returned v' ∧ OwnP w' wd.heap.size v' (dropG (fun x => x.t == tb) a.P) ∧ Below wd.heap.size wd w') := withoutP1_any 31 (ptr1 (w.heap.size + 1)) (fun x => x.t == tb) a.P va0 wd (enters_of Try.func31 (by kernel_rfl) rfl) (HA.out.p.on (HW.out.1.trans (HD.out.mono HW.out.1.size))) HA.out.lp (fun x w9 h9 => wo1_any x tb (w.heap.size + 1) w9 ((HW.out.2.2.2.1.on HD.out).on h9))
  refine CR3.out.mono ?_
  rintro e w5 ⟨v3, rfl, hO3, hb3⟩
  dsimp only
  refine hK.out _ _ (fun _ => HSN.out.on hb3) ?_
  clear hK K CR3
  try simp only [Act.put, List.setIfInBounds_toArray, List.set_cons_zero, List.set_cons_succ]
  have HSM : Hid (Blk w5 w.heap.size #[va0, va1, va2] 25) := HSN.out.on hb3
  have HDM : Hid (Below w3.heap.size w3 w5 ∧ w3.heap.size ≤ wd.heap.size) := ⟨HD.out.trans (hb3.mono HD.out.size), HD.out.size⟩
  have HO3 : Hid (OwnP w5 wd.heap.size v3 (dropG (fun x => x.t == tb) a.P)) := hO3
  clear HSN HD hO3 hb3
  have HSN : Hid (Blk w5 w.heap.size #[va0, va1, va2] 25) := HSM.out
  have HD : Hid (Below w3.heap.size w3 w5) := HDM.out.1
  refine wpL_one 7 rfl (by kernel_rfl) (by rfl) ?_
  intro K hK
  go_simp
  have CR7 : Hid (Calls Try.prog 33 #[va1, .func (.func 34) #[] #[ptr1 (w.heap.size + 1)]] w5 fun e w' => ∃ v', e = .returned v' ∧ OwnS w' w5.heap.size v' (dropG (fun x => x.t == tb) a.S) ∧ Below w5.heap.size w5 w') := withoutS1_any 34 (ptr1 (w.heap.size + 1)) (fun x => x.t == tb) a.S va1 w5 (enters_of Try.func34 (by kernel_rfl) rfl) (HA.out.s.on (HW.out.1.trans (HD.out.mono HW.out.1.size))) HA.out.ls (fun x w9 h9 => wo2_any x tb (w.heap.size + 1) w9 ((HW.out.2.2.2.1.on HD.out).on h9))
  refine CR7.out.mono ?_
  rintro e w6 ⟨v7, rfl, hO7, hb7⟩
  dsimp only
  refine hK.out _ _ (fun _ => HSN.out.on hb7) ?_
  clear hK K CR7
  try simp only [Act.put, List.setIfInBounds_toArray, List.set_cons_zero, List.set_cons_succ]
  have HSM2 : Hid (Blk w6 w.heap.size #[va0, va1, va2] 25) := HSN.out.on hb7
  have HDM2 : Hid (Below w3.heap.size w3 w6 ∧ w3.heap.size ≤ w5.heap.size) := ⟨HD.out.trans (hb7.mono HD.out.size), HD.out.size⟩
  have HO7 : Hid (OwnS w6 w5.heap.size v7 (dropG (fun x => x.t == tb) a.S) ∧ OwnP w6 wd.heap.size v3 (dropG (fun x => x.t == tb) a.P)) := ⟨hO7, HO3.out.kept hb7⟩
  clear HSN HD hO7 hb7 HO3
  have HSN : Hid (Blk w6 w.heap.size #[va0, va1, va2] 25) := HSM2.out
  have HD : Hid (Below w3.heap.size w3 w6) := HDM2.out.1
  refine wpL_one 11 rfl (by kernel_rfl) (by rfl) ?_
  intro K hK
  go_simp
  have CR11 : Hid (Calls Try.prog 32 #[va2, .func (.func 31) #[] #[ptr1 (w.heap.size + 1)]] w6 fun e w' => ∃ v', e = .returned v' ∧ OwnP w' w6.heap.size v' (dropG (fun x => x.t == tb) a.W) ∧ Below w6.heap.size w6 w') := withoutP1_any 31 (ptr1 (w.heap.size + 1)) (fun x => x.t == tb) a.W va2 w6 (enters_of Try.func31 (by kernel_rfl) rfl) (HA.out.w.on (HW.out.1.trans (HD.out.mono HW.out.1.size))) HA.out.lw (fun x w9 h9 => wo1_any x tb (w.heap.size + 1) w9 ((HW.out.2.2.2.1.on HD.out).on h9))
  refine CR11.out.mono ?_
  rintro e w7 ⟨v11, rfl, hO11, hb11⟩
  dsimp only
  refine hK.out _ _ (fun _ => HSN.out.on hb11) ?_
  clear hK K CR11
  try simp only [Act.put, List.setIfInBounds_toArray, List.set_cons_zero, List.set_cons_succ]
  have HSM3 : Hid (Blk w7 w.heap.size #[va0, va1, va2] 25) := HSN.out.on hb11
  have HDM3 : Hid (Below w3.heap.size w3 w7 ∧ w3.heap.size ≤ w6.heap.size) := ⟨HD.out.trans (hb11.mono HD.out.size), HD.out.size⟩
  have HO11 : Hid (OwnP w7 w6.heap.size v11 (dropG (fun x => x.t == tb) a.W) ∧ OwnS w7 w5.heap.size v7 (dropG (fun x => x.t == tb) a.S) ∧ OwnP w7 wd.heap.size v3 (dropG (fun x => x.t == tb) a.P)) := ⟨hO11, HO7.out.1.kept hb11, HO7.out.2.kept hb11⟩
  clear HSN HD hO11 hb11 HO7
  have HSN : Hid (Blk w7 w.heap.size #[va0, va1, va2] 25) := HSM3.out
  obtain ⟨p3, n3, c3, e3⟩ : ∃ p n c, v3 = .slice p n c := by
    obtain ⟨p, c, e, _⟩ := HO11.out.2.2.row
    exact ⟨_, _, _, e⟩
  obtain ⟨p7, n7, c7, e7⟩ : ∃ p n c, v7 = .slice p n c := by
    obtain ⟨p, c, e, _⟩ := HO11.out.2.1.row
    exact ⟨_, _, _, e⟩
  obtain ⟨p11, n11, c11, e11⟩ : ∃ p n c, v11 = .slice p n c := by
    obtain ⟨p, c, e, _⟩ := HO11.out.1.row
    exact ⟨_, _, _, e⟩
  subst e3 e7 e11
  refine wpL_take (v := ?_) 12 rfl (by kernel_rfl) (fun _ _ _ h => h) (by rfl) ?_ HSN.out ?_
  rotate_left
  focus
    intro w9 hw9
    have k0 := Blk.cell hw9 (i := 0) rfl
    have k1 := Blk.cell hw9 (i := 1) rfl
    have k2 := Blk.cell hw9 (i := 2) rfl
    go_simp
    try with_reducible rfl
  try simp only [Act.put, List.setIfInBounds_toArray, List.set_cons_zero, List.set_cons_succ]
  have hC := HW.out.2.2.2.2.on HDM3.out.1
  have c0 := hC.cell (i := 0) rfl
  have c1 := hC.cell (i := 1) rfl
  have c2 := hC.cell (i := 2) rfl
  have f0 := hC.frozen 0
  have f1 := hC.frozen 1
  have f2 := hC.frozen 2
  refine wpL_one 13 rfl (by kernel_rfl) (by rfl) ?_
  intro K hK
  go_simp
  refine hK.out _ _ (fun h => absurd rfl h) ?_
  clear hK K
  try simp only [Act.put, List.setIfInBounds_toArray, List.set_cons_zero, List.set_cons_succ]
  refine wpL_done (by kernel_rfl) ?_ _
  try simp only [NoPanic]
  have HF : Hid (Frm w7 (((w7.setCell ⟨w.heap.size + 1 + 1, 0, none⟩ (.slice p3 n3 c3)).setCell ⟨w.heap.size + 1 + 1, 1, none⟩ (.slice p7 n7 c7)).setCell ⟨w.heap.size + 1 + 1, 2, none⟩ (.slice p11 n11 c11)) (fun k => k = w.heap.size + 1 + 1)) := ((frm_set _ _ _ _ (F := fun k => k = w.heap.size + 1 + 1) (.inl rfl)).trans (frm_set _ _ _ _ (F := fun k => k = w.heap.size + 1 + 1) (.inl rfl)) (fun k hk => .inl hk)).trans (frm_set _ _ _ _ (F := fun k => k = w.heap.size + 1 + 1) (.inl rfl)) (fun k hk => .inl hk)
  have HR : Hid (Blk (((w7.setCell ⟨w.heap.size + 1 + 1, 0, none⟩ (.slice p3 n3 c3)).setCell ⟨w.heap.size + 1 + 1, 1, none⟩ (.slice p7 n7 c7)).setCell ⟨w.heap.size + 1 + 1, 2, none⟩ (.slice p11 n11 c11)) (w.heap.size + 1 + 1) #[.slice p3 n3 c3, .slice p7 n7 c7, .slice p11 n11 c11] 25) := ((hC.set 0 _).set 1 _).set 2 _
  clear c0 c1 c2 f0 f1 f2 hC
  generalize ((w7.setCell ⟨w.heap.size + 1 + 1, 0, none⟩ (.slice p3 n3 c3)).setCell ⟨w.heap.size + 1 + 1, 1, none⟩ (.slice p7 n7 c7)).setCell ⟨w.heap.size + 1 + 1, 2, none⟩ (.slice p11 n11 c11) = we at *
  have r0 := HR.out.cell (i := 0) rfl
  have r1 := HR.out.cell (i := 1) rfl
  have r2 := HR.out.cell (i := 2) rfl
  go_wp2_with fail
  refine bodyPost_ret (v := .agg #[.slice p3 n3 c3, .slice p7 n7 c7, .slice p11 n11 c11]) (by simp [results, Try.results13, go_sem, r0, r1, r2]) rfl ?_
  have hz := HW.out.2.1
  have hz5 := HDM.out.2
  have hz6 := HDM2.out.2
  have hz7 := HDM3.out.2
  exact ⟨_, _, _, rfl, (HO11.out.2.2.frm HF.out (fun b hb hk => by omega)).mono (by omega), (HO11.out.2.1.frm HF.out (fun b hb hk => by omega)).mono (by omega), (HO11.out.1.frm HF.out (fun b hb hk => by omega)).mono (by omega), (HW.out.1.trans (HDM3.out.1.mono HW.out.1.size)).trans (HF.out.below (by have := HDM3.out.1.size; omega) (fun k hk => by omega))⟩
end Go.Proofs.Ytjeidpgkgjljcaa
