/- awake; is. -/
import Derived.Test.YtmcdpadmjicafaaWDocB
import Derived.Test.YtmcdpadmjicafaaWDocF
import Derived.Test.YtmcdpadmjicafaaWDocC
import Derived.Test.YtmcdpadmjicafaaWBeg9
namespace Go.Proofs.Ytmcdpadmjicafaa
open Go.RowKit Go.Maps
set_option maxRecDepth 100000

theorem docA_len : ∀ (T : List Tx) (k : Nat), (docA k T).length ≤ T.length
  | [], _ => Nat.le_refl _
  | x :: t, k => by
    have ih := docA_len t (k + 1)
    unfold docA
    split
    · simp; omega
    · simp; omega
theorem own_low {w : World} {B e s n : Nat} {v : Value} {xs : List Value} (h : w.ownsRow B e s v n xs) {g : Nat} (hg : v.ownBlock = some g) : B ≤ g := by
  rcases h.2 with ⟨e, _⟩ | ⟨g', cap, cur, e, h1, _⟩
  · rw [e] at hg; cases hg
  · rw [e] at hg; cases hg; exact h1
theorem undI_len : ∀ (T : List Tx) (k : Nat), (undI k T).length ≤ T.length
  | [], _ => Nat.le_refl _
  | x :: t, k => by
    have ih := undI_len t (k + 1)
    unfold undI
    split
    · simp; omega
    · simp; omega

set_option maxHeartbeats 1000000 in
theorem awake_any (w : World) :
    Calls Try.prog 10 #[] w fun e w' => e = .returned (.bool true) ∧ Below w.heap.size w w' := by
  have C1 : Hid (Calls _ _ _ _ _) := new_any w
  go_enter Try.func10, Try.ntmps10
  go_wp2_with fail
  refine C1.out.mono ?_
  rintro e w1 ⟨tb, rfl, htb, ht, hb⟩
  have HB : Hid (Below _ _ _) := hb
  have C2 : Hid (Calls _ _ _ _ _) := begin_any _ tb [] w1 ht (by simp)
  have e1 : begT [] = ([⟨0, false⟩], 1, 0) := rfl
  rw [e1] at C2
  have HSZ : Hid (w.heap.size ≤ w1.heap.size) := hb.size
  clear ht hb C1 e1
  go_wp2_with fail
  refine C2.out.mono ?_
  rintro e w2 ⟨rfl, ⟨F', hF', ht2⟩, hf2⟩
  have HB2 : Hid (Below w.heap.size w w2) := HB.out.trans (hf2.below HSZ.out (fun k hk => hk.1))
  have HF' : Hid (∀ k, F' k → w.heap.size ≤ k) := fun k hk => (hF' k hk).elim (fun h => h.1) (fun h => Nat.le_trans HSZ.out h)
  have C3 : Hid (Calls _ _ _ _ _) := state_any F' tb _ 1 w2 ht2 (by omega) (by omega)
  have e2 : tellT [⟨0, false⟩] 1 = (1, 0, 0) := rfl
  rw [e2] at C3
  have HZ2 : Hid (w.heap.size ≤ w2.heap.size) := HB2.out.size
  clear ht2 hf2 hF' C2 e2
  go_wp2_with fail
  refine C3.out.mono ?_
  rintro e w3 ⟨rfl, _, hf3⟩
  have HB3 : Hid (Below w.heap.size w w3) := HB2.out.trans (hf3.below HZ2.out (fun k hk => HF'.out k hk))
  clear hf3 C3
  go_wp2_with fail
  go_ret
  exact ⟨rfl, HB3.out⟩

set_option maxHeartbeats 4000000 in
theorem is_any (F : Nat → Prop) (tb : Nat) (T : List Tx) (v : Value) (w : World) (ht : Sta w F tb T) (hd : DocT w 0 v (docA 0 T)) (hv : ∀ g, v.ownBlock = some g → ¬ F g) (hlen : T.length < 4000000000000) :
    Calls Try.prog 8 #[ptr1 tb, tvD v T.length] w fun e w' => e = .returned (.bool true) ∧ Sta w' F tb T ∧ Frm w w' F := by
  obtain ⟨p, c, rfl, _⟩ := hd.rd
  have HDL : Hid ((docA 0 T).length ≤ 4000000000000) := Nat.le_trans (docA_len T 0) (by omega)
  have HOL : Hid ((openA 0 T).length ≤ 4000000000000) := by
    show _ ≤ _
    rw [openA_len]
    have := undI_len T 0
    omega
  have HOD : Hid (openD (docA 0 T) = openA 0 T) := by
    obtain ⟨_, _, _, _, hx⟩ := ht
    exact open_doc T 0 hx.gon
  have hal : Frm w (w.alloc (.cells #[.slice p (docA 0 T).length c, .int .i64 (T.length : Nat)] 27)) (fun _ => False) := Frm.of_below ((Below.refl _ _).alloc (Nat.le_refl _) _)
  have HTq : Hid (Sta (w.alloc (.cells #[.slice p (docA 0 T).length c, .int .i64 (T.length : Nat)] 27)).drew F tb T) := ht.keep hal.drew (fun k _ hn => hn)
  have HDq : Hid (DocT (w.alloc (.cells #[.slice p (docA 0 T).length c, .int .i64 (T.length : Nat)] 27)).drew 0 (.slice p (docA 0 T).length c) (docA 0 T)) := by
    have h9 : DocT (w.alloc (.cells #[.slice p (docA 0 T).length c, .int .i64 (T.length : Nat)] 27)) 0 _ (docA 0 T) := owns_kept hd ((Below.refl _ _).alloc (Nat.le_refl _) _)
    exact h9
  have HXq : Hid (BoxT (w.alloc (.cells #[.slice p (docA 0 T).length c, .int .i64 (T.length : Nat)] 27)).drew w.heap.size #[.slice p (docA 0 T).length c, .int .i64 (T.length : Nat)] 27) := BoxT.new _ _ _
  have HSN : Hid (¬ F w.heap.size) := fun hf => by
    obtain ⟨mb, ov, B, O, hh⟩ := ht
    have := hh.flt _ hf
    omega
  have HFq : Hid (Frm w (w.alloc (.cells #[.slice p (docA 0 T).length c, .int .i64 (T.length : Nat)] 27)).drew F) := (hal.mono (fun k hk => hk.elim)).drew
  have HV : Hid (∀ g, (Value.slice p (docA 0 T).length c).ownBlock = some g → ¬ F g) := hv
  have HFL : Hid (∀ k, F k → k < w.heap.size) := fun k hk => by
    obtain ⟨mb, ov, B, O, hh⟩ := ht
    exact hh.flt k hk
  clear ht hd hv hal
  go_enter Try.func8, Try.ntmps8
  go_wp2_with fail
  generalize hwq : (w.alloc (.cells #[.slice p (docA 0 T).length c, .int .i64 (T.length : Nat)] 27)) = wq at *
  clear hwq
  have xa0 : wq.cell? ⟨w.heap.size, 0, none⟩ = some (.slice p (docA 0 T).length c) := HXq.out.cell
  have xb0 : wq.cell? ⟨w.heap.size, 1, none⟩ = some (.int .i64 (T.length : Nat)) := HXq.out.cell
  refine wp_region_any (by kernel_rfl) ?_
  change wpAny _ _ _ _ _ _ _ (World.drew _)
  refine anyN_take (v := ?_) 0 rfl (by kernel_rfl) (by kernel_rfl) (by kernel_rfl) (fun _ _ _ h => h) (Or.inl ⟨by rfl, ?_⟩) ?_
  rotate_left
  focus
    intro w9
    go_simp
    try with_reducible rfl
  try simp only [Act.put, List.setIfInBounds_toArray, List.set_cons_zero, List.set_cons_succ]
  refine wpAny_ready (rs := [1, 2]) (by kernel_rfl) (by simp) ?_
  refine anyN_cons 1 rfl (by rfl) (fun K hK => ?_) (anyN_cons 2 rfl (by rfl) (fun K hK => ?_) AllReady.nil)
  · go_simp
    refine (open_any F tb T _ HTq.out).mono ?_
    rintro e w5 ⟨g, rfl, hr, hgz, ht, hf⟩
    dsimp only
    have HT5 : Hid (Sta w5 F tb T) := ht
    have HD5 : Hid (DocT w5 0 (.slice p (docA 0 T).length c) (docA 0 T)) := HDq.out.block (fun k hk => hf.block k (by obtain ⟨cur, h2⟩ := own_cells HDq.out hk; exact (Array.getElem?_eq_some_iff.1 h2).1) (HV.out k hk))
    have HX5 : Hid (BoxT w5 w.heap.size #[.slice p (docA 0 T).length c, .int .i64 (T.length : Nat)] 27) := (hf.block _ HXq.out.lt HSN.out).trans HXq.out
    have HF5 : Hid (Frm w w5 F) := HFq.out.trans hf (fun k hk => .inl hk)
    have HR5 : Hid (RowI w5 g _) := hr
    have xa5 : w5.cell? ⟨w.heap.size, 0, none⟩ = some (.slice p (docA 0 T).length c) := HX5.out.cell
    have xb5 : w5.cell? ⟨w.heap.size, 1, none⟩ = some (.int .i64 (T.length : Nat)) := HX5.out.cell
    clear hr ht hf hgz
    refine hK.out _ _ ?_
    clear hK K
    try simp only [Act.put, List.setIfInBounds_toArray, List.set_cons_zero, List.set_cons_succ]
    refine wpAny_ready (rs := [2]) (by kernel_rfl) (by simp) ?_
    refine anyN_cons 2 rfl (by rfl) (fun K hK => ?_) AllReady.nil
    go_simp
    refine hK.out _ _ ?_
    clear hK K
    try simp only [Act.put, List.setIfInBounds_toArray, List.set_cons_zero, List.set_cons_succ]
    refine wpAny_ready (rs := [3]) (by kernel_rfl) (by simp) ?_
    refine anyN_cons 3 rfl (by rfl) (fun K hK => ?_) AllReady.nil
    go_simp
    refine (ropen_any (docA 0 T) (.slice p (docA 0 T).length c) T.length 0 _ HD5.out (by have := HDL.out; omega)).mono ?_
    rintro e w6 ⟨⟨u, rfl, hu⟩, hb⟩
    dsimp only
    rw [HOD.out] at hu
    obtain ⟨q, cu, rfl, _⟩ := own_rdI hu
    have HO6 : Hid (w6.ownsRow w.heap.size 3 1 (.slice q (openA 0 T).length cu) (openA 0 T).length ((openA 0 T).map (Value.int .i64))) := owns_base hu (HF5.out.size)
    have HT6 : Hid (Sta w6 F tb T) := HT5.out.keep (Frm.of_below hb (F := fun _ => False)) (fun k _ hn => hn)
    have HD6 : Hid (DocT w6 0 (.slice p (docA 0 T).length c) (docA 0 T)) := owns_kept HD5.out hb
    have HX6 : Hid (BoxT w6 w.heap.size #[.slice p (docA 0 T).length c, .int .i64 (T.length : Nat)] 27) := HX5.out.on hb
    have HF6 : Hid (Frm w w6 F) := HF5.out.trans (Frm.of_below hb (F := fun _ => False)) (fun k hk => hk.elim)
    have HR6 : Hid (RowI w6 g _) := HR5.out.of_block (hb.block g HR5.out.lt)
    have xa6 : w6.cell? ⟨w.heap.size, 0, none⟩ = some (.slice p (docA 0 T).length c) := HX6.out.cell
    have xb6 : w6.cell? ⟨w.heap.size, 1, none⟩ = some (.int .i64 (T.length : Nat)) := HX6.out.cell
    clear hu hb
    refine hK.out _ _ ?_
    clear hK K
    try simp only [Act.put, List.setIfInBounds_toArray, List.set_cons_zero, List.set_cons_succ]
    refine wpAny_ready (rs := [4]) (by kernel_rfl) (by simp) ?_
    refine anyN_cons 4 rfl (by rfl) (fun K hK => ?_) AllReady.nil
    go_simp
    obtain ⟨q2, c2, e2, hrd2⟩ := own_rdI HO6.out
    injection e2 with e21 e22 e23
    subst e21
    refine (sameInts_any (openA 0 T) _ _ _ _ w6 HR6.out.rdI hrd2 (by have := HOL.out; omega)).mono ?_
    rintro e w7 ⟨rfl, hb7⟩
    dsimp only
    have HT7 : Hid (Sta w7 F tb T) := HT6.out.keep (Frm.of_below hb7 (F := fun _ => False)) (fun k _ hn => hn)
    have HD7 : Hid (DocT w7 0 (.slice p (docA 0 T).length c) (docA 0 T)) := owns_kept HD6.out hb7
    have HX7 : Hid (BoxT w7 w.heap.size #[.slice p (docA 0 T).length c, .int .i64 (T.length : Nat)] 27) := HX6.out.on hb7
    have HF7 : Hid (Frm w w7 F) := HF6.out.trans (Frm.of_below hb7 (F := fun _ => False)) (fun k hk => hk.elim)
    clear hb7 hrd2 HR6 HO6
    refine hK.out _ _ ?_
    clear hK K
    try simp only [Act.put, List.setIfInBounds_toArray, List.set_cons_zero, List.set_cons_succ]
    refine wpAny_ready (rs := [5]) (by kernel_rfl) (by simp) ?_
    refine anyN_cons 5 rfl (by rfl) (fun K hK => ?_) AllReady.nil
    go_simp
    refine hK.out _ _ ?_
    clear hK K
    try simp only [Act.put, List.setIfInBounds_toArray, List.set_cons_zero, List.set_cons_succ]
    refine wpAny_done (by kernel_rfl) ?_ _
    go_wp2_with fail
    go_loopw [5] (fun i wr => ∃ j : Nat, j ≤ T.length + 3 ∧ i = .int .i64 ((j : Int) - 1) ∧ Hid (Sta wr F tb T ∧ DocT wr 0 (.slice p (docA 0 T).length c) (docA 0 T) ∧ BoxT wr w.heap.size #[.slice p (docA 0 T).length c, .int .i64 (T.length : Nat)] 27 ∧ Frm w wr F)) (fun i _ => T.length + 3 - (intOf i + 1).toNat)
    case atStart => exact ⟨0, Nat.zero_le _, by go_num, HT7.out, HD7.out, HX7.out, HF7.out⟩
    case round =>
      obtain ⟨j, hj, rfl, hS⟩ := hrel
      have cb : wr.cell? ⟨w.heap.size, 1, none⟩ = some (.int .i64 (T.length : Nat)) := hS.out.2.2.1.cell
      have ca : wr.cell? ⟨w.heap.size, 0, none⟩ = some (.slice p (docA 0 T).length c) := hS.out.2.2.1.cell
      by_cases hj0 : j = T.length + 3
      · have hlt : (T.length : Int) + 1 < (j : Int) - 1 := by omega
        clear hj0 hj
        go_wp2_with fail
        go_ret
        exact ⟨rfl, hS.out.1, hS.out.2.2.2⟩
      · have hle : (j : Int) - 1 ≤ (T.length : Int) + 1 := by omega
        have C1 : Hid (Calls _ _ _ _ _) := state_any F tb T ((j : Int) - 1) wr hS.out.1 (by omega) (by omega)
        have HJ : Hid (j < T.length + 3 ∧ T.length < 4000000000000) := ⟨by omega, hlen⟩

        clear hj hj0
        go_wp2_with fail
        refine C1.out.mono ?_
        rintro e w8 ⟨rfl, ht8, hf8⟩
        have HD8 : Hid (DocT w8 0 (.slice p (docA 0 T).length c) (docA 0 T)) := hS.out.2.1.block (fun k hk => hf8.block k (by obtain ⟨cur, h2⟩ := own_cells hS.out.2.1 hk; exact (Array.getElem?_eq_some_iff.1 h2).1) (HV.out k hk))
        have HX8 : Hid (BoxT w8 w.heap.size _ _) := (hf8.block _ hS.out.2.2.1.lt HSN.out).trans hS.out.2.2.1
        have HT8 : Hid (Sta w8 F tb T) := ht8
        have HF8 : Hid (Frm w w8 F) := hS.out.2.2.2.trans hf8 (fun k hk => .inl hk)
        have C2 : Hid (Calls _ _ _ _ _) := rstate_any (docA 0 T) (.slice p (docA 0 T).length c) T.length 0 ((j : Int) - 1) w8 HD8.out (by have := HDL.out; omega)
        rw [tell_doc] at C2
        have da : w8.cell? ⟨w.heap.size, 0, none⟩ = some (.slice p (docA 0 T).length c) := HX8.out.cell
        have db : w8.cell? ⟨w.heap.size, 1, none⟩ = some (.int .i64 (T.length : Nat)) := HX8.out.cell
        clear ht8 hf8 C1 hS
        generalize (tellT T ((j : Int) - 1)).1 = t1 at *
        generalize ((tellT T ((j : Int) - 1)).2.1 : Int) = t2 at *
        generalize (tellT T ((j : Int) - 1)).2.2 = t3 at *
        go_wp2_with fail
        refine C2.out.mono ?_
        rintro e w9 ⟨rfl, hb9⟩
        have HN : Hid (Sta w9 F tb T ∧ DocT w9 0 (.slice p (docA 0 T).length c) (docA 0 T) ∧ BoxT w9 w.heap.size #[.slice p (docA 0 T).length c, .int .i64 (T.length : Nat)] 27 ∧ Frm w w9 F) := ⟨HT8.out.keep (Frm.of_below hb9 (F := fun _ => False)) (fun k _ hn => hn), owns_kept HD8.out hb9, HX8.out.on hb9, HF8.out.trans (Frm.of_below hb9 (F := fun _ => False)) (fun k hk => hk.elim)⟩
        clear hb9 C2
        go_wp2_with fail
        go_roundw
        case rel => exact ⟨j + 1, by have := HJ.out; omega, by have := HJ.out; go_num, HN⟩
        case measure => simp [intOf]; have := HJ.out; omega
  · go_simp
    refine hK.out _ _ ?_
    clear hK K
    try simp only [Act.put, List.setIfInBounds_toArray, List.set_cons_zero, List.set_cons_succ]
    refine wpAny_ready (rs := [1]) (by kernel_rfl) (by simp) ?_
    refine anyN_cons 1 rfl (by rfl) (fun K hK => ?_) AllReady.nil
    go_simp
    refine (open_any F tb T _ HTq.out).mono ?_
    rintro e w5 ⟨g, rfl, hr, hgz, ht, hf⟩
    dsimp only
    have HT5 : Hid (Sta w5 F tb T) := ht
    have HD5 : Hid (DocT w5 0 (.slice p (docA 0 T).length c) (docA 0 T)) := HDq.out.block (fun k hk => hf.block k (by obtain ⟨cur, h2⟩ := own_cells HDq.out hk; exact (Array.getElem?_eq_some_iff.1 h2).1) (HV.out k hk))
    have HX5 : Hid (BoxT w5 w.heap.size #[.slice p (docA 0 T).length c, .int .i64 (T.length : Nat)] 27) := (hf.block _ HXq.out.lt HSN.out).trans HXq.out
    have HF5 : Hid (Frm w w5 F) := HFq.out.trans hf (fun k hk => .inl hk)
    have HR5 : Hid (RowI w5 g _) := hr
    have xa5 : w5.cell? ⟨w.heap.size, 0, none⟩ = some (.slice p (docA 0 T).length c) := HX5.out.cell
    have xb5 : w5.cell? ⟨w.heap.size, 1, none⟩ = some (.int .i64 (T.length : Nat)) := HX5.out.cell
    clear hr ht hf hgz
    refine hK.out _ _ ?_
    clear hK K
    try simp only [Act.put, List.setIfInBounds_toArray, List.set_cons_zero, List.set_cons_succ]
    refine wpAny_ready (rs := [3]) (by kernel_rfl) (by simp) ?_
    refine anyN_cons 3 rfl (by rfl) (fun K hK => ?_) AllReady.nil
    go_simp
    refine (ropen_any (docA 0 T) (.slice p (docA 0 T).length c) T.length 0 _ HD5.out (by have := HDL.out; omega)).mono ?_
    rintro e w6 ⟨⟨u, rfl, hu⟩, hb⟩
    dsimp only
    rw [HOD.out] at hu
    obtain ⟨q, cu, rfl, _⟩ := own_rdI hu
    have HO6 : Hid (w6.ownsRow w.heap.size 3 1 (.slice q (openA 0 T).length cu) (openA 0 T).length ((openA 0 T).map (Value.int .i64))) := owns_base hu (HF5.out.size)
    have HT6 : Hid (Sta w6 F tb T) := HT5.out.keep (Frm.of_below hb (F := fun _ => False)) (fun k _ hn => hn)
    have HD6 : Hid (DocT w6 0 (.slice p (docA 0 T).length c) (docA 0 T)) := owns_kept HD5.out hb
    have HX6 : Hid (BoxT w6 w.heap.size #[.slice p (docA 0 T).length c, .int .i64 (T.length : Nat)] 27) := HX5.out.on hb
    have HF6 : Hid (Frm w w6 F) := HF5.out.trans (Frm.of_below hb (F := fun _ => False)) (fun k hk => hk.elim)
    have HR6 : Hid (RowI w6 g _) := HR5.out.of_block (hb.block g HR5.out.lt)
    have xa6 : w6.cell? ⟨w.heap.size, 0, none⟩ = some (.slice p (docA 0 T).length c) := HX6.out.cell
    have xb6 : w6.cell? ⟨w.heap.size, 1, none⟩ = some (.int .i64 (T.length : Nat)) := HX6.out.cell
    clear hu hb
    refine hK.out _ _ ?_
    clear hK K
    try simp only [Act.put, List.setIfInBounds_toArray, List.set_cons_zero, List.set_cons_succ]
    refine wpAny_ready (rs := [4]) (by kernel_rfl) (by simp) ?_
    refine anyN_cons 4 rfl (by rfl) (fun K hK => ?_) AllReady.nil
    go_simp
    obtain ⟨q2, c2, e2, hrd2⟩ := own_rdI HO6.out
    injection e2 with e21 e22 e23
    subst e21
    refine (sameInts_any (openA 0 T) _ _ _ _ w6 HR6.out.rdI hrd2 (by have := HOL.out; omega)).mono ?_
    rintro e w7 ⟨rfl, hb7⟩
    dsimp only
    have HT7 : Hid (Sta w7 F tb T) := HT6.out.keep (Frm.of_below hb7 (F := fun _ => False)) (fun k _ hn => hn)
    have HD7 : Hid (DocT w7 0 (.slice p (docA 0 T).length c) (docA 0 T)) := owns_kept HD6.out hb7
    have HX7 : Hid (BoxT w7 w.heap.size #[.slice p (docA 0 T).length c, .int .i64 (T.length : Nat)] 27) := HX6.out.on hb7
    have HF7 : Hid (Frm w w7 F) := HF6.out.trans (Frm.of_below hb7 (F := fun _ => False)) (fun k hk => hk.elim)
    clear hb7 hrd2 HR6 HO6
    refine hK.out _ _ ?_
    clear hK K
    try simp only [Act.put, List.setIfInBounds_toArray, List.set_cons_zero, List.set_cons_succ]
    refine wpAny_ready (rs := [5]) (by kernel_rfl) (by simp) ?_
    refine anyN_cons 5 rfl (by rfl) (fun K hK => ?_) AllReady.nil
    go_simp
    refine hK.out _ _ ?_
    clear hK K
    try simp only [Act.put, List.setIfInBounds_toArray, List.set_cons_zero, List.set_cons_succ]
    refine wpAny_done (by kernel_rfl) ?_ _
    go_wp2_with fail
    go_loopw [5] (fun i wr => ∃ j : Nat, j ≤ T.length + 3 ∧ i = .int .i64 ((j : Int) - 1) ∧ Hid (Sta wr F tb T ∧ DocT wr 0 (.slice p (docA 0 T).length c) (docA 0 T) ∧ BoxT wr w.heap.size #[.slice p (docA 0 T).length c, .int .i64 (T.length : Nat)] 27 ∧ Frm w wr F)) (fun i _ => T.length + 3 - (intOf i + 1).toNat)
    case atStart => exact ⟨0, Nat.zero_le _, by go_num, HT7.out, HD7.out, HX7.out, HF7.out⟩
    case round =>
      obtain ⟨j, hj, rfl, hS⟩ := hrel
      have cb : wr.cell? ⟨w.heap.size, 1, none⟩ = some (.int .i64 (T.length : Nat)) := hS.out.2.2.1.cell
      have ca : wr.cell? ⟨w.heap.size, 0, none⟩ = some (.slice p (docA 0 T).length c) := hS.out.2.2.1.cell
      by_cases hj0 : j = T.length + 3
      · have hlt : (T.length : Int) + 1 < (j : Int) - 1 := by omega
        clear hj0 hj
        go_wp2_with fail
        go_ret
        exact ⟨rfl, hS.out.1, hS.out.2.2.2⟩
      · have hle : (j : Int) - 1 ≤ (T.length : Int) + 1 := by omega
        have C1 : Hid (Calls _ _ _ _ _) := state_any F tb T ((j : Int) - 1) wr hS.out.1 (by omega) (by omega)
        have HJ : Hid (j < T.length + 3 ∧ T.length < 4000000000000) := ⟨by omega, hlen⟩

        clear hj hj0
        go_wp2_with fail
        refine C1.out.mono ?_
        rintro e w8 ⟨rfl, ht8, hf8⟩
        have HD8 : Hid (DocT w8 0 (.slice p (docA 0 T).length c) (docA 0 T)) := hS.out.2.1.block (fun k hk => hf8.block k (by obtain ⟨cur, h2⟩ := own_cells hS.out.2.1 hk; exact (Array.getElem?_eq_some_iff.1 h2).1) (HV.out k hk))
        have HX8 : Hid (BoxT w8 w.heap.size _ _) := (hf8.block _ hS.out.2.2.1.lt HSN.out).trans hS.out.2.2.1
        have HT8 : Hid (Sta w8 F tb T) := ht8
        have HF8 : Hid (Frm w w8 F) := hS.out.2.2.2.trans hf8 (fun k hk => .inl hk)
        have C2 : Hid (Calls _ _ _ _ _) := rstate_any (docA 0 T) (.slice p (docA 0 T).length c) T.length 0 ((j : Int) - 1) w8 HD8.out (by have := HDL.out; omega)
        rw [tell_doc] at C2
        have da : w8.cell? ⟨w.heap.size, 0, none⟩ = some (.slice p (docA 0 T).length c) := HX8.out.cell
        have db : w8.cell? ⟨w.heap.size, 1, none⟩ = some (.int .i64 (T.length : Nat)) := HX8.out.cell
        clear ht8 hf8 C1 hS
        generalize (tellT T ((j : Int) - 1)).1 = t1 at *
        generalize ((tellT T ((j : Int) - 1)).2.1 : Int) = t2 at *
        generalize (tellT T ((j : Int) - 1)).2.2 = t3 at *
        go_wp2_with fail
        refine C2.out.mono ?_
        rintro e w9 ⟨rfl, hb9⟩
        have HN : Hid (Sta w9 F tb T ∧ DocT w9 0 (.slice p (docA 0 T).length c) (docA 0 T) ∧ BoxT w9 w.heap.size #[.slice p (docA 0 T).length c, .int .i64 (T.length : Nat)] 27 ∧ Frm w w9 F) := ⟨HT8.out.keep (Frm.of_below hb9 (F := fun _ => False)) (fun k _ hn => hn), owns_kept HD8.out hb9, HX8.out.on hb9, HF8.out.trans (Frm.of_below hb9 (F := fun _ => False)) (fun k hk => hk.elim)⟩
        clear hb9 C2
        go_wp2_with fail
        go_roundw
        case rel => exact ⟨j + 1, by have := HJ.out; omega, by have := HJ.out; go_num, HN⟩
        case measure => simp [intOf]; have := HJ.out; omega
end Go.Proofs.Ytmcdpadmjicafaa
