/- Layer 12: Scan. Layer 12: the keys of a level. -/
import Derived.Test.YtojfohpnfciajaaGWSkp31
namespace Go.Proofs.Ytojfohpnfciajaa
open Go.RowKit
set_option maxRecDepth 100000

theorem fall_any (b lb hb sb hl cb : Nat) (N : List Nd) (lo hi : ByteArray) (op : Bool) (most : Int) (w0 : World) (hk : Skp w0 lb hb sb hl cb N) (hN : N.length < 4000000000000) : ∀ (l : Nat), l < 16 → ∀ (p q : Nat) (v : Value) (T : List En) (w : World), ScS w0 w b lb sb lo hi op most v T → OnL l N p → p < q → q ≤ N.length + 1 → (q = N.length + 1 ∨ OnL l N q) → goodP hi op (ensN N) p = true → T.length + q ≤ N.length + 2 → Calls Try.prog 72 #[ptr1 b, .int .i64 (l : Nat), ptr1 (posB hb N p), tov hb N q] w fun e w' => FlR w0 w w' b lb sb lo hi op most N p q T e := by
  intro l
  induction l with
  | zero => exact fun h16 p q v T w h1 h2 h3 h4 h5 h6 h7 => fall_zero b lb hb sb hl cb p q N lo hi op most v T w0 w hk hN h1 h2 h3 h4 h5 h6 h7 h16
  | succ l ih => exact fun h16 p q v T w h1 h2 h3 h4 h5 h6 h7 => fall_succ b lb hb sb hl cb p q (l + 1) l N lo hi op most v T w0 w hk hN h1 h2 h3 h4 h5 h6 h7 h16 (ih (by omega)) rfl
/-- the entries of a range, either way, so many -/
def scanE (E : List En) (lo hi : ByteArray) (op back : Bool) (most : Int) : List En :=
  if back then (runP lo most E (PL hi op E 0 (E.length + 1)) []).1 else riseF hi op most (E.drop (fnd E lo)) []
/-- .. none, if none is asked for -/
def scanM (E : List En) (lo hi : ByteArray) (op back : Bool) (most : Int) : List En := if most < 1 then [] else scanE E lo hi op back most

set_option maxHeartbeats 4000000 in
theorem scan_any (lb hb sb hl cb : Nat) (N : List Nd) (lo hi : ByteArray) (op back : Bool) (most : Int) (w : World) (hk : Skp w lb hb sb hl cb N) (hN : N.length < 4000000000000) :
    Calls Try.prog 38 #[.agg #[ptr1 lb, ptr1 sb], .agg #[.string lo, .string hi, .bool op], .bool back, .int .i64 most] w fun e w' => ∃ v, e = .returned v ∧ OwnE w' w.heap.size v (scanE (ensN N) lo hi op back most) ∧ Below w.heap.size w w' := by
  obtain ⟨aX, aB, aS⟩ := blk_new w #[ptr1 lb, ptr1 sb] 102
  obtain ⟨bX, bB, bS⟩ := blk_new (w.alloc (.cells #[ptr1 lb, ptr1 sb] 102)) #[.string lo, .string hi, .bool op] 36
  obtain ⟨cX, cB, cS⟩ := blk_new ((w.alloc (.cells #[ptr1 lb, ptr1 sb] 102)).alloc (.cells #[.string lo, .string hi, .bool op] 36)) #[ptr1 lb, ptr1 sb, .string lo, .string hi, .bool op, .int .i64 most, .slice none 0 0] 167
  rw [aS] at bX
  rw [bS, aS] at cX
  have hb2 := aB.trans (bB.mono aB.size)
  have hb3 := hb2.trans (cB.mono hb2.size)
  have x0 := Blk.cell (i := 0) (aX.on bB) rfl
  have x1 := Blk.cell (i := 1) (aX.on bB) rfl
  have r0 := Blk.cell (i := 0) bX rfl
  have r1 := Blk.cell (i := 1) bX rfl
  have r2 := Blk.cell (i := 2) bX rfl
  have HS : Hid (ScS w (((w.alloc (.cells #[ptr1 lb, ptr1 sb] 102)).alloc (.cells #[.string lo, .string hi, .bool op] 36)).alloc (.cells #[ptr1 lb, ptr1 sb, .string lo, .string hi, .bool op, .int .i64 most, .slice none 0 0] 167)) (w.heap.size + 1 + 1) lb sb lo hi op most (.slice none 0 0) []) := ⟨hb3, by omega, cX, World.ownsRow_nil _ _ _ _⟩
  have HX : Hid (Blk (((w.alloc (.cells #[ptr1 lb, ptr1 sb] 102)).alloc (.cells #[.string lo, .string hi, .bool op] 36)).alloc (.cells #[ptr1 lb, ptr1 sb, .string lo, .string hi, .bool op, .int .i64 most, .slice none 0 0] 167)) w.heap.size #[ptr1 lb, ptr1 sb] 102) := (aX.on bB).on cB
  have HK : Hid (Skp w lb hb sb hl cb N) := hk
  have HLn : Hid (N.length < 4000000000000) := hN
  clear aX aB aS bX bB bS cX cB cS hb2 hb3 hk hN
  go_enter Try.func38, Try.ntmps38
  go_upto_region 2 with fail
  clear r0 r1 r2 x0 x1
  generalize (((w.alloc (.cells #[ptr1 lb, ptr1 sb] 102)).alloc (.cells #[.string lo, .string hi, .bool op] 36)).alloc (.cells #[ptr1 lb, ptr1 sb, .string lo, .string hi, .bool op, .int .i64 most, .slice none 0 0] 167)) = w3 at *
  have hk3 := HK.out.on HS.out.bel
  cases back with
  | true =>
    have y0 := Blk.cell (i := 0) HX.out rfl
    have l1 := Blk.cell (i := 1) hk3.l rfl
    have C1 : Hid (Calls _ _ _ _ _) := fall_any (w.heap.size + 1 + 1) lb hb sb hl cb N lo hi op most w HK.out HLn.out 15 (by decide) 0 (N.length + 1) _ [] w3 HS.out (.inl rfl) (by omega) (Nat.le_refl _) (.inl rfl) rfl (by simp)
    rw [tov_nil] at C1
    clear hk3
    go_wp2_with fail
    refine C1.out.mono ?_
    rintro e w4 ⟨rfl, -, v4, hq4⟩
    have HE : Hid (OwnE w4 w.heap.size v4 (scanE (ensN N) lo hi op true most) ∧ Below w.heap.size w w4) := by
      unfold scanE
      rw [if_pos rfl, ens_len]
      exact ⟨hq4.o, hq4.bel⟩
    have y6 := Blk.cell (i := 6) hq4.x rfl
    clear hq4 C1 y0 l1
    go_wp2_with fail
    go_ret
    exact ⟨_, rfl, HE.out⟩
  | false =>
    have C1 : Hid (Calls _ _ _ _ _) := rise_any (w.heap.size + 1 + 1) lb hb sb hl cb N lo hi op most _ w w3 HK.out HS.out HLn.out
    clear hk3
    go_wp2_with fail
    refine C1.out.mono ?_
    rintro e w4 ⟨rfl, v4, hq4⟩
    have HE : Hid (OwnE w4 w.heap.size v4 (scanE (ensN N) lo hi op false most) ∧ Below w.heap.size w w4) := ⟨hq4.o, hq4.bel⟩
    have y6 := Blk.cell (i := 6) hq4.x rfl
    clear hq4 C1
    go_wp2_with fail
    go_ret
    exact ⟨_, rfl, HE.out⟩

set_option maxHeartbeats 2000000 in
theorem scan1_any (lb hb sb hl cb rb bb mb : Nat) (N : List Nd) (lo hi : ByteArray) (op back : Bool) (most : Int) (w : World) (hk : Skp w lb hb sb hl cb N) (hN : N.length < 4000000000000) (k1 : Blk w rb #[.string lo, .string hi, .bool op] 36) (k2 : Blk w bb #[.bool back] 4) (k3 : Blk w mb #[.int .i64 most] 3) :
    Calls Try.prog 37 #[.agg #[ptr1 lb, ptr1 sb], ptr1 rb, ptr1 bb, ptr1 mb] w fun e w' => ∃ v, e = .returned v ∧ OwnE w' w.heap.size v (scanE (ensN N) lo hi op back most) ∧ Below w.heap.size w w' := by
  obtain ⟨aX, aB, aS⟩ := blk_new w #[ptr1 lb, ptr1 sb] 102
  have x0 := Blk.cell (i := 0) aX rfl
  have x1 := Blk.cell (i := 1) aX rfl
  have r0 := Blk.cell (i := 0) (k1.on aB) rfl
  have r1 := Blk.cell (i := 1) (k1.on aB) rfl
  have r2 := Blk.cell (i := 2) (k1.on aB) rfl
  have s0 := Blk.cell (i := 0) (k2.on aB) rfl
  have t0 := Blk.cell (i := 0) (k3.on aB) rfl
  have C1 : Hid (Calls _ _ _ _ _) := scan_any lb hb sb hl cb N lo hi op back most (w.alloc (.cells #[ptr1 lb, ptr1 sb] 102)) (hk.on aB) hN
  have HB : Hid (Below w.heap.size w (w.alloc (.cells #[ptr1 lb, ptr1 sb] 102))) := aB
  clear aX aB aS k1 k2 k3 hk hN
  go_enter Try.func37, Try.ntmps37
  go_wp2_with fail
  generalize (w.alloc (.cells #[ptr1 lb, ptr1 sb] 102)) = w1 at *
  refine C1.out.mono ?_
  rintro e w2 ⟨v2, rfl, ho, hb2⟩
  have HE : Hid (OwnE w2 w.heap.size v2 (scanE (ensN N) lo hi op back most) ∧ Below w.heap.size w w2) := ⟨owns_base ho HB.out.size, HB.out.trans (hb2.mono HB.out.size)⟩
  clear ho hb2 C1
  go_wp2_with fail
  go_ret
  exact ⟨_, rfl, HE.out⟩

set_option maxHeartbeats 2000000 in
theorem tellE (lb hb sb hl cb rb bb mb : Nat) (N : List Nd) (E : List En) (w : World) (hq : Skp w lb hb sb hl cb N)
    (HC : ∀ w1, Below w.heap.size w w1 → Calls Try.prog 37 #[.agg #[ptr1 lb, ptr1 sb], ptr1 rb, ptr1 bb, ptr1 mb] w1 fun e w2 => ∃ v, e = .returned v ∧ OwnE w2 w1.heap.size v E ∧ Below w1.heap.size w1 w2) :
    Calls Try.prog 36 #[ptr1 lb, .func (.func 37) #[] #[ptr1 rb, ptr1 bb, ptr1 mb]] w fun e w' => ∃ v, e = .returned v ∧ OwnE w' w.heap.size v E ∧ Below w.heap.size w w' := by
  obtain ⟨aX, aB, aS⟩ := blk_new w #[.func (.func 37) #[] #[ptr1 rb, ptr1 bb, ptr1 mb]] 104
  have HX1 : Hid (Blk (w.alloc (.cells #[.func (.func 37) #[] #[ptr1 rb, ptr1 bb, ptr1 mb]] 104)) w.heap.size #[.func (.func 37) #[] #[ptr1 rb, ptr1 bb, ptr1 mb]] 104 ∧ Below w.heap.size w (w.alloc (.cells #[.func (.func 37) #[] #[ptr1 rb, ptr1 bb, ptr1 mb]] 104))) := ⟨aX, aB⟩
  have HC1 : Hid (∀ w1, Below w.heap.size w w1 → Calls Try.prog 37 #[.agg #[ptr1 lb, ptr1 sb], ptr1 rb, ptr1 bb, ptr1 mb] w1 fun e w2 => ∃ v, e = .returned v ∧ OwnE w2 w1.heap.size v E ∧ Below w1.heap.size w1 w2) := HC
  have HQ : Hid (Skp (w.alloc (.cells #[.func (.func 37) #[] #[ptr1 rb, ptr1 bb, ptr1 mb]] 104)) lb hb sb hl cb N) := hq.on aB
  clear hq HC aX aB aS
  go_enter Try.func36, Try.ntmps36
  go_wp2_with fail
  generalize (w.alloc (.cells #[.func (.func 37) #[] #[ptr1 rb, ptr1 bb, ptr1 mb]] 104)) = w1 at *
  go_loopw [10] (fun sx wq => sx = .int .i64 0 ∧ wq = w1) (fun _ _ => 0)
  case atStart => exact ⟨rfl, rfl⟩
  case round =>
    obtain ⟨rfl, hwr⟩ := hrel
    rw [hwr]
    clear hwr
    have C1 : Hid (Calls _ _ _ _ _) := now_any lb hb sb hl cb N w1 HQ.out
    go_wp2_with fail
    refine C1.out.mono ?_
    rintro e w2 ⟨rfl, hb2⟩
    obtain ⟨cX, cB, cS⟩ := blk_new w2 #[ptr1 lb, ptr1 sb] 102
    have hb3 := hb2.trans (cB.mono hb2.size)
    have hb3w := HX1.out.2.trans (hb3.mono HX1.out.2.size)
    have HB3 : Hid (Below w1.heap.size w1 (w2.alloc (.cells #[ptr1 lb, ptr1 sb] 102)) ∧ Below w.heap.size w (w2.alloc (.cells #[ptr1 lb, ptr1 sb] 102))) := ⟨hb3, hb3w⟩
    have HX3 : Hid (Blk (w2.alloc (.cells #[ptr1 lb, ptr1 sb] 102)) w2.heap.size #[ptr1 lb, ptr1 sb] 102) := cX
    have C2 : Hid (Calls _ _ _ _ _) := HC1.out (w2.alloc (.cells #[ptr1 lb, ptr1 sb] 102)) hb3w
    have y0 := Blk.cell (i := 0) (HX1.out.1.on hb3) rfl
    have v0 := Blk.cell (i := 0) cX rfl
    have v1 := Blk.cell (i := 1) cX rfl
    clear cX cB cS hb2 hb3 hb3w C1
    go_wp2_with fail
    generalize (w2.alloc (.cells #[ptr1 lb, ptr1 sb] 102)) = w3 at *
    generalize w2.heap.size = vb3 at *
    refine C2.out.mono ?_
    rintro e w4 ⟨vv, rfl, ho4, hb4⟩
    have hb15 := HB3.out.1.trans (hb4.mono HB3.out.1.size)
    have hq5 := HQ.out.on hb15
    have C3 : Hid (Calls _ _ _ _ _) := holds_any lb hb sb w4 hq5.l hq5.vw.s
    have HE4 : Hid (OwnE w4 w.heap.size vv E ∧ Below w.heap.size w w4) := ⟨owns_base ho4 HB3.out.2.size, HB3.out.2.trans (hb4.mono HB3.out.2.size)⟩
    have v0 := Blk.cell (i := 0) (HX3.out.on hb4) rfl
    have v1 := Blk.cell (i := 1) (HX3.out.on hb4) rfl
    clear hb4 hb15 hq5 C2 y0 ho4
    go_wp2_with fail
    refine C3.out.mono ?_
    rintro e w6 ⟨rfl, hb6⟩
    have HE6 : Hid (OwnE w6 w.heap.size vv E ∧ Below w.heap.size w w6) := ⟨owns_kept HE4.out.1 hb6, HE4.out.2.trans (hb6.mono HE4.out.2.size)⟩
    clear hb6 C3
    go_wp2_with fail
    go_ret
    exact ⟨_, rfl, HE6.out⟩

set_option maxHeartbeats 2000000 in
theorem scanL_any (lb hb sb hl cb : Nat) (N : List Nd) (lo hi : ByteArray) (op back : Bool) (most : Int) (w : World) (hk : Skp w lb hb sb hl cb N) (hN : N.length < 4000000000000) :
    Calls Try.prog 16 #[ptr1 lb, .agg #[.string lo, .string hi, .bool op], .bool back, .int .i64 most] w fun e w' => ∃ v, e = .returned v ∧ OwnE w' w.heap.size v (scanM (ensN N) lo hi op back most) ∧ Below w.heap.size w w' := by
  obtain ⟨aX, aB, aS⟩ := blk_new w #[.string lo, .string hi, .bool op] 36
  obtain ⟨bX, bB, bS⟩ := blk_new (w.alloc (.cells #[.string lo, .string hi, .bool op] 36)) #[.bool back] 4
  obtain ⟨cX, cB, cS⟩ := blk_new ((w.alloc (.cells #[.string lo, .string hi, .bool op] 36)).alloc (.cells #[.bool back] 4)) #[.int .i64 most] 3
  rw [aS] at bX
  rw [bS, aS] at cX
  have hb2 := aB.trans (bB.mono aB.size)
  have hb3 := hb2.trans (cB.mono hb2.size)
  have CG : Hid (Calls _ _ _ _ _) := given_ok lb hb sb (((w.alloc (.cells #[.string lo, .string hi, .bool op] 36)).alloc (.cells #[.bool back] 4)).alloc (.cells #[.int .i64 most] 3)) (hk.on hb3).l
  have CT : Hid (Calls _ _ _ _ _) := tellE lb hb sb hl cb w.heap.size (w.heap.size + 1) (w.heap.size + 1 + 1) N (scanE (ensN N) lo hi op back most) (((w.alloc (.cells #[.string lo, .string hi, .bool op] 36)).alloc (.cells #[.bool back] 4)).alloc (.cells #[.int .i64 most] 3)) (hk.on hb3) (fun w1 hb1 => scan1_any lb hb sb hl cb w.heap.size (w.heap.size + 1) (w.heap.size + 1 + 1) N lo hi op back most w1 ((hk.on hb3).on hb1) hN (((aX.on bB).on cB).on hb1) ((bX.on cB).on hb1) (cX.on hb1))
  have HB : Hid (Below w.heap.size w (((w.alloc (.cells #[.string lo, .string hi, .bool op] 36)).alloc (.cells #[.bool back] 4)).alloc (.cells #[.int .i64 most] 3))) := hb3
  have t0 := Blk.cell (i := 0) cX rfl
  clear aX aB aS bX bB bS cX cB cS hb2 hb3 hk hN
  by_cases hm : most < 1
  · have HE : Hid (∀ w', OwnE w' w.heap.size (.slice none 0 0) (scanM (ensN N) lo hi op back most)) := fun w' => by rw [scanM, if_pos hm]; exact World.ownsRow_nil _ _ _ _
    go_enter Try.func16, Try.ntmps16
    go_wp2_with fail
    generalize (((w.alloc (.cells #[.string lo, .string hi, .bool op] 36)).alloc (.cells #[.bool back] 4)).alloc (.cells #[.int .i64 most] 3)) = w1 at *
    refine CG.out.mono ?_
    rintro e w9 ⟨rfl, hw9⟩
    rw [hw9]
    clear hw9 CG
    go_wp2_with fail
    go_ret
    exact ⟨_, rfl, HE.out _, HB.out⟩
  · have HE : Hid (scanM (ensN N) lo hi op back most = scanE (ensN N) lo hi op back most) := if_neg hm
    have hm1 : 1 ≤ most := by omega
    clear hm
    go_enter Try.func16, Try.ntmps16
    go_wp2_with fail
    generalize (((w.alloc (.cells #[.string lo, .string hi, .bool op] 36)).alloc (.cells #[.bool back] 4)).alloc (.cells #[.int .i64 most] 3)) = w1 at *
    refine CG.out.mono ?_
    rintro e w9 ⟨rfl, hw9⟩
    rw [hw9]
    clear hw9 CG
    have hm2 : ¬ most < 1 := by omega
    go_wp2_with fail
    refine CT.out.mono ?_
    rintro e w2 ⟨v2, rfl, ho, hb2⟩
    have HE2 : Hid (OwnE w2 w.heap.size v2 (scanM (ensN N) lo hi op back most) ∧ Below w.heap.size w w2) := by
      show OwnE _ _ _ _ ∧ _
      rw [HE.out]
      exact ⟨owns_base ho HB.out.size, HB.out.trans (hb2.mono HB.out.size)⟩
    clear ho hb2 CT t0
    go_wp2_with fail
    go_ret
    exact ⟨_, rfl, HE2.out⟩

end Go.Proofs.Ytojfohpnfciajaa

namespace Go.Proofs.Ytojfohpnfciajaa
open Go.RowKit
set_option maxRecDepth 100000

theorem info_str : (Try.prog.info? 9).map (fun i => (i.zero, i.size, i.bytes)) = some (some (.string ⟨#[]⟩), 1, 16) := by kernel_rfl
/-- keys that a call owns -/
abbrev OwnK (w : World) (B : Nat) (v : Value) (K : List ByteArray) : Prop := w.ownsRow B 9 1 v K.length (K.map Value.string)
/-- the keys of a level -/
def keyL (l : Nat) (N : List Nd) : List ByteArray := (N.filter (fun x => decide (l < x.e.h))).map (fun x => x.e.k)
theorem lvl_len (l : Nat) (N : List Nd) : (keyL l N).length ≤ N.length := by
  unfold keyL
  rw [List.length_map]
  exact List.length_filter_le _ _
theorem lvl_end {l c : Nat} {N : List Nd} (hno : ∀ i (hi : i < N.length), c ≤ i → ¬ l < N[i].e.h) : keyL l (N.take c) = keyL l N := by
  conv => rhs; rw [← List.take_append_drop c N]
  unfold keyL
  rw [List.filter_append]
  have h : (N.drop c).filter (fun x => decide (l < x.e.h)) = [] := by
    rw [List.filter_eq_nil_iff]
    intro x hx
    obtain ⟨i, hi, rfl⟩ := List.getElem_of_mem hx
    rw [List.length_drop] at hi
    rw [List.getElem_drop]
    simpa using hno (c + i) (by omega) (by omega)
  rw [h, List.append_nil]
theorem lvl_next {l c r : Nat} {N : List Nd} (hr : r < N.length) (hcr : c ≤ r) (hlr : l < N[r].e.h) (hno : ∀ i (hi : i < N.length), c ≤ i → i < r → ¬ l < N[i].e.h) : keyL l (N.take (r + 1)) = keyL l (N.take c) ++ [N[r].e.k] := by
  rw [List.take_succ_eq_append_getElem hr]
  have h1 : keyL l (N.take r) = keyL l (N.take c) := by
    have h2 := lvl_end (l := l) (c := c) (N := N.take r) (fun i hi h3 => by
      rw [List.length_take] at hi
      rw [List.getElem_take]
      exact hno i (by omega) h3 (by omega))
    rw [List.take_take, Nat.min_eq_left hcr] at h2
    exact h2.symm
  unfold keyL at h1 ⊢
  rw [List.filter_append, List.map_append, h1]
  simp [hlr]
/-- keys in the making -/
structure LvS (lb sb : Nat) (w wq : World) (l : Nat) (N : List Nd) (v : Value) (c : Nat) : Prop where
  bel : Below w.heap.size w wq
  x : Blk wq w.heap.size #[ptr1 lb, ptr1 sb] 102
  own : OwnK wq w.heap.size v (keyL l (N.take c))
theorem LvS.keep {w wq w' : World} {lb sb l : Nat} {N : List Nd} {v : Value} {c : Nat} (h : LvS lb sb w wq l N v c) (hb : Below wq.heap.size wq w') : LvS lb sb w w' l N v c := ⟨h.bel.trans (hb.mono h.bel.size), h.x.on hb, owns_kept h.own hb⟩
theorem ms_tgt {w : World} {hb hl : Nat} {N : List Nd} (h : SkF w hb hl N (ldF N)) {l r : Nat} (hr : r < N.length) : msO hb N (ptrO (tgt l (N.drop (r + 1)))) < N.length + 1 - r := by
  rcases tgt_cases l N (r + 1) with ⟨e, _⟩ | ⟨s, hs, h1, _, _, e⟩
  · rw [e]
    show 0 < _
    omega
  · rw [e, show ptrO (some N[s].nb) = ptr1 N[s].nb from rfl, ms_at h.n hs]
    omega

set_option maxHeartbeats 4000000 in
theorem level_any (lb hb sb hl cb l : Nat) (N : List Nd) (w : World) (hk : Skp w lb hb sb hl cb N) (hN : N.length < 4000000000000) (hl16 : l < 16) :
    Calls Try.prog 68 #[.agg #[ptr1 lb, ptr1 sb], .int .i64 (l : Nat)] w fun e w' => ∃ v, e = .returned v ∧ OwnK w' w.heap.size v (keyL l N) ∧ Below w.heap.size w w' := by
  obtain ⟨aX, aB, aS⟩ := blk_new w #[ptr1 lb, ptr1 sb] 102
  have hdr : Below (w.alloc (.cells #[ptr1 lb, ptr1 sb] 102)).heap.size (w.alloc (.cells #[ptr1 lb, ptr1 sb] 102)) (w.alloc (.cells #[ptr1 lb, ptr1 sb] 102)).drew := (Below.refl _ _).drew
  have hbd := aB.trans (hdr.mono aB.size)
  have hkd := hk.on hbd
  obtain ⟨kb, n, q1, q2, q3, q4⟩ := hkd.n.n.at (l := l) (p := 0) hl16 (.inl rfl)
  have C1 : Hid (Calls Try.prog 79 #[.agg #[ptr1 lb, ptr1 sb], ptr1 hb, .int .i64 (l : Nat)] (w.alloc (.cells #[ptr1 lb, ptr1 sb] 102)).drew fun e w' => e = .returned (ptrO (tgt l (N.drop 0))) ∧ Below (w.alloc (.cells #[ptr1 lb, ptr1 sb] 102)).drew.heap.size (w.alloc (.cells #[ptr1 lb, ptr1 sb] 102)).drew w') := behind_any lb hb sb hb kb n l _ _ hkd.vw q1 q2 q3 q4
  have HY : Hid ((w.alloc (.cells #[ptr1 lb, ptr1 sb] 102)).drew.cell? ⟨w.heap.size, 0, none⟩ = some (ptr1 lb) ∧ (w.alloc (.cells #[ptr1 lb, ptr1 sb] 102)).drew.cell? ⟨w.heap.size, 1, none⟩ = some (ptr1 sb) ∧ (w.alloc (.cells #[ptr1 lb, ptr1 sb] 102)).drew.cell? ⟨lb, 1, none⟩ = some (ptr1 hb)) := ⟨Blk.cell (i := 0) aX rfl, Blk.cell (i := 1) aX rfl, Blk.cell (i := 1) hkd.l rfl⟩
  have HXd : Hid (Blk (w.alloc (.cells #[ptr1 lb, ptr1 sb] 102)).drew w.heap.size #[ptr1 lb, ptr1 sb] 102) := aX.on hdr
  have HBd : Hid (Below w.heap.size w (w.alloc (.cells #[ptr1 lb, ptr1 sb] 102)).drew) := hbd
  have HK : Hid (Skp w lb hb sb hl cb N) := hk
  have HLn : Hid (N.length < 4000000000000) := hN
  have HL : Hid (l < 16) := hl16
  clear aX aB aS hdr hbd hkd q1 q2 q3 q4 hk hN hl16
  go_enter Try.func68, Try.ntmps68
  go_upto_region 2 with fail
  refine wp_region_any (by kernel_rfl) ?_
  change wpAny _ _ _ _ _ _ _ (World.drew _)
  generalize (w.alloc (.cells #[ptr1 lb, ptr1 sb] 102)).drew = wd at *
  refine tk (v := ?_) 1 rfl ?_ ?_
  rotate_left
  focus
    intro w9
    go_simp
    try with_reducible rfl
  try simp only [aP]
  refine tk (v := ?_) 6 rfl ?_ ?_
  rotate_left
  focus
    intro w9
    go_simp
    try with_reducible rfl
  try simp only [aP]
  apply later1 (fun (w1 : World) => Hid (Below wd.heap.size wd w1))
  intro hs0_2_5_7
  apply later0
  intro hs0_2_5
  apply later0
  intro hs2_5
  apply later0
  intro hs0_2
  apply later0
  intro hs2
  apply later0
  intro hs0
  · obtain ⟨y0, y1, y2⟩ := HY.out
    refine wpAny_ready (rs := [0, 2]) (by kernel_rfl) (by simp) ?_
    refine anyN_cons 0 rfl (by rfl) (fun K hK => ?_) (anyN_cons 2 rfl (by rfl) (fun K hK => ?_) AllReady.nil)
    · go_simp
      refine hK.out _ _ ?_
      clear hK K
      try simp only [aP]
      exact hs0
    · go_simp
      refine hK.out _ _ ?_
      clear hK K
      try simp only [aP]
      refine tk (v := ?_) 3 rfl ?_ ?_
      rotate_left
      focus
        intro w9
        go_simp
        try with_reducible rfl
      try simp only [aP]
      refine tk (v := ?_) 4 rfl ?_ ?_
      rotate_left
      focus
        intro w9
        go_simp
        try with_reducible rfl
      try simp only [aP]
      exact hs2
  · obtain ⟨y0, y1, y2⟩ := HY.out
    refine wpAny_ready (rs := [2]) (by kernel_rfl) (by simp) ?_
    refine anyN_cons 2 rfl (by rfl) (fun K hK => ?_) AllReady.nil
    go_simp
    refine hK.out _ _ ?_
    clear hK K
    try simp only [aP]
    refine tk (v := ?_) 3 rfl ?_ ?_
    rotate_left
    focus
      intro w9
      go_simp
      try with_reducible rfl
    try simp only [aP]
    refine tk (v := ?_) 4 rfl ?_ ?_
    rotate_left
    focus
      intro w9
      go_simp
      try with_reducible rfl
    try simp only [aP]
    exact hs0_2
  · obtain ⟨y0, y1, y2⟩ := HY.out
    refine wpAny_ready (rs := [0, 5]) (by kernel_rfl) (by simp) ?_
    refine anyN_cons 0 rfl (by rfl) (fun K hK => ?_) (anyN_cons 5 rfl (by rfl) (fun K hK => ?_) AllReady.nil)
    · go_simp
      refine hK.out _ _ ?_
      clear hK K
      try simp only [aP]
      exact hs0_2
    · go_simp
      refine hK.out _ _ ?_
      clear hK K
      try simp only [aP]
      exact hs2_5
  · obtain ⟨y0, y1, y2⟩ := HY.out
    refine wpAny_ready (rs := [5]) (by kernel_rfl) (by simp) ?_
    refine anyN_cons 5 rfl (by rfl) (fun K hK => ?_) AllReady.nil
    go_simp
    refine hK.out _ _ ?_
    clear hK K
    try simp only [aP]
    exact hs0_2_5
  · obtain ⟨y0, y1, y2⟩ := HY.out
    refine wpAny_ready (rs := [0]) (by kernel_rfl) (by simp) ?_
    refine anyN_cons 0 rfl (by rfl) (fun K hK => ?_) AllReady.nil
    go_simp
    refine hK.out _ _ ?_
    clear hK K
    try simp only [aP]
    exact hs0_2_5
  · obtain ⟨y0, y1, y2⟩ := HY.out
    refine wpAny_ready (rs := [7]) (by kernel_rfl) (by simp) ?_
    refine anyN_cons 7 rfl (by rfl) (fun K hK => ?_) AllReady.nil
    go_simp
    refine C1.out.mono ?_
    rintro e w1 ⟨rfl, hb1⟩
    dsimp only
    have h1 : Hid (Below wd.heap.size wd w1) := hb1
    clear hb1
    refine hK.out _ _ ?_
    clear hK K
    try simp only [aP]
    exact hs0_2_5_7 w1 h1
  · intro w1 h1
    refine wpAny_ready (rs := [8]) (by kernel_rfl) (by simp) ?_
    refine anyN_cons 8 rfl (by rfl) (fun K hK => ?_) AllReady.nil
    go_simp
    refine hK.out _ _ ?_
    clear hK K
    try simp only [aP]
    refine wpAny_done (by kernel_rfl) ?_ _
    have HQ1 : Hid (LvS lb sb w w1 l N (.slice none 0 0) 0) := ⟨HBd.out.trans (h1.out.mono HBd.out.size), HXd.out.on h1.out, World.ownsRow_nil _ _ _ _⟩
    clear HXd h1 C1
    go_wp2_with fail
    go_loopw [5, 6] (fun sv sx wq => ∃ c : Nat, c ≤ N.length ∧ sx = ptrO (tgt l (N.drop c)) ∧ Hid (LvS lb sb w wq l N sv c)) (fun _ sx _ => msO hb N sx)
    case atStart => exact ⟨0, Nat.zero_le _, rfl, HQ1⟩
    case round =>
      obtain ⟨c, hc, rfl, HI⟩ := hrel
      clear HQ1
      have hsk := HK.out.on HI.out.bel
      have HSk : Hid (Skp wr lb hb sb hl cb N) := hsk
      rcases tgt_cases l N c with ⟨e, hno⟩ | ⟨r, hr, hcr, hlr, hno, e⟩
      · rw [e, show ptrO none = .pointer none from rfl]
        have HZ : Hid (OwnK wr w.heap.size u5 (keyL l N)) := by
          have h9 := HI.out.own
          rw [lvl_end hno] at h9
          exact h9
        clear e hno hsk
        go_wp2_with fail
        go_ret
        exact ⟨_, rfl, HZ.out, HI.out.bel⟩
      · rw [e, show ptrO (some N[r].nb) = ptr1 N[r].nb from rfl]
        have n0 := Blk.cell (i := 0) (hsk.n.ndm hr).n rfl
        obtain ⟨kb, n, q1, q2, q3, q4⟩ := hsk.n.n.at (l := l) (p := r + 1) HL.out (.inr ⟨hr, hlr⟩)
        rw [posB_at hb hr] at q1
        have C3 : Hid (∀ w5, Below w.heap.size w w5 → Calls Try.prog 79 #[.agg #[ptr1 lb, ptr1 sb], ptr1 N[r].nb, .int .i64 (l : Nat)] w5 fun e w' => e = .returned (ptrO (tgt l (N.drop (r + 1)))) ∧ Below w5.heap.size w5 w') := fun w5 hb5 => by
          obtain ⟨kb9, n9, p1, p2, p3, p4⟩ := (HK.out.on hb5).n.n.at (l := l) (p := r + 1) HL.out (.inr ⟨hr, hlr⟩)
          rw [posB_at hb hr] at p1
          exact behind_any lb hb sb N[r].nb kb9 n9 l _ w5 (HK.out.on hb5).vw p1 p2 p3 p4
        have HMs : Hid (msO hb N (ptr1 N[r].nb) = N.length + 1 - r ∧ msO hb N (ptrO (tgt l (N.drop (r + 1)))) < N.length + 1 - r) := ⟨ms_at hsk.n.n hr, ms_tgt hsk.n hr⟩
        have HKy : Hid (keyL l (N.take (r + 1)) = keyL l (N.take c) ++ [N[r].e.k]) := lvl_next hr hcr hlr hno
        have HLb : Hid ((keyL l (N.take c)).length < 4000000000000) := by
          have h9 := lvl_len l (N.take c)
          rw [List.length_take] at h9
          have := HLn.out
          show _ < _
          omega
        clear e hno hlr q1 q2 q3 q4 hsk
        go_wp2_with (first | (at_builtin; go_loud (refine wpList_app1 wr rfl (.tmp 21) (.tmp 26) 9 49 _ 1 16 rfl Try.underlying49 info_str rfl (by decide) w.heap.size _ _ _ (by rfl) HI.out.own [.string N[r].e.k] rfl (by intro u hu; simp only [List.mem_cons, List.not_mem_nil, or_false] at hu; rcases hu with rfl; rfl) _ rfl (by simp) (by have := HLb.out; omega) (by have := HLb.out; omega) HI.out.bel.size ?_); intro v6 w6 h6 h7 h8; refine Hid.out ?_))
        have HI6 : Hid (LvS lb sb w w6 l N v6 (r + 1)) := by
          refine ⟨HI.out.bel.trans h7, ?_, ?_⟩
          · have hx := HI.out.x
            have hx1 := hx.on ((Below.refl _ _).alloc (Nat.le_refl _) (.cells #[.string N[r].e.k] 9))
            refine hx1.grow h8 (fun e => ?_)
            have ho1 := owns_kept HI.out.own ((Below.refl _ _).alloc (Nat.le_refl _) (.cells #[.string N[r].e.k] 9))
            rcases owns_ne ho1 hx1 (by decide) with h9 | h9
            · rw [h9] at e; cases e
            · exact h9 e
          · show World.ownsRow _ _ _ _ _ _ _
            rw [HKy.out, List.length_append, List.map_append]
            exact h6
        have C4 : Hid (Calls _ _ _ _ _) := C3.out w6 HI6.out.bel
        have y0 := Blk.cell (i := 0) HI6.out.x rfl
        have y1 := Blk.cell (i := 1) HI6.out.x rfl
        clear h6 h7 h8 n0
        unfold Hid
        go_wp2_with fail
        refine C4.out.mono ?_
        rintro e w7 ⟨rfl, hb7⟩
        have HI7 : Hid (LvS lb sb w w7 l N v6 (r + 1)) := HI6.out.keep hb7
        clear hb7 C4 HI6 y0 y1
        go_wp2_with fail
        go_roundw
        case rel => exact ⟨r + 1, hr, rfl, HI7⟩
        case measure => rw [HMs.out.1]; exact HMs.out.2

end Go.Proofs.Ytojfohpnfciajaa
