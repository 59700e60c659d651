/- does. -/
import Derived.Test.YtmcdpadmjicafaaWIs9
namespace Go.Proofs.Ytmcdpadmjicafaa
open Go.RowKit Go.Maps
set_option maxRecDepth 100000

theorem turnT_len (T : List Tx) (n : Int) (may : Nat → Int) (tw : Nat) : ((turnT T n may tw).1).length = T.length := by
  unfold turnT
  split
  · rfl
  · split
    · rfl
    · split
      · simp
      · rfl
theorem forgT_len (T : List Tx) (n : Int) : ((forgT T n).1).length = T.length := by
  unfold forgT
  split
  · rfl
  · split
    · rfl
    · split
      · simp
      · rfl
theorem prep_doc (T : List Tx) (n : Int) : turnD (docA 0 T) n mayUD 2 0 = (docA 0 (turnT T n mayU 4611686018427387905).1, (turnT T n mayU 4611686018427387905).2) := turn_doc T n mayU mayUD _ 2 0 mayU_doc (fun _ _ => ⟨rfl, rfl⟩)
theorem abort_doc (T : List Tx) (n : Int) : turnD (docA 0 T) n mayUD 4 0 = (docA 0 (turnT T n mayU 4611686018427387906).1, (turnT T n mayU 4611686018427387906).2) := turn_doc T n mayU mayUD _ 4 0 mayU_doc (fun _ _ => ⟨rfl, rfl⟩)
theorem mayC_ok {s x : Nat} (h : mayC s x = 0) : 0 < s ∧ s ≤ 4611686018427387904 := by
  unfold mayC at h
  split at h
  · omega
  · split at h
    · omega
    · split at h
      · omega
      · omega
theorem commit_doc (T : List Tx) (n : Int) (s : Nat) : turnD (docA 0 T) n (mayCD s) 3 s = (docA 0 (turnT T n (mayC s) s).1, (turnT T n (mayC s) s).2) := turn_doc T n (mayC s) (mayCD s) s 3 s (mayC_doc s) (fun x hx => by
  have := mayC_ok hx
  exact stO_stamp s this.1 this.2)

set_option maxHeartbeats 4000000 in
theorem doesP_any (F : Nat → Prop) (tb : Nat) (T : List Tx) (v : Value) (n : Int) (s : Nat) (w : World) (ht : Sta w F tb T) (hd : DocT w 0 v (docA 0 T)) (hv : ∀ g, v.ownBlock = some g → ¬ F g) (hlen : T.length < 4000000000000) (hn1 : -9223372036854775808 ≤ n) (hn2 : n < 9223372036854775808) :
    Calls Try.prog 9 #[ptr1 tb, tvD v T.length, .agg #[.int .i64 1, .int .i64 n, .int .u64 (s : Nat)]] w fun e w' => (∃ u F', e = .returned (.tuple #[tvD u ((turnT T n mayU 4611686018427387905).1).length, .bool true]) ∧ Sta w' F' tb ((turnT T n mayU 4611686018427387905).1) ∧ DocT w' 0 u (docA 0 ((turnT T n mayU 4611686018427387905).1)) ∧ (∀ g, u.ownBlock = some g → ¬ F' g) ∧ (∀ k, F' k → F k ∨ w.heap.size ≤ k) ∧ ∀ g, u.ownBlock = some g → v.ownBlock = some g ∨ w.heap.size ≤ g) ∧ Frm w w' F := by
  have HTL : Hid (((turnT T n mayU 4611686018427387905).1).length = T.length) := turnT_len _ _ _ _
  obtain ⟨p, c, rfl, _⟩ := hd.rd
  have HDL : Hid ((docA 0 T).length < 5000000000000) := Nat.lt_of_le_of_lt (docA_len T 0) (by omega)
  have HLN : Hid (T.length < 4000000000000) := hlen
  have HN : Hid (-9223372036854775808 ≤ n ∧ n < 9223372036854775808) := ⟨hn1, hn2⟩
  have HGON : Hid (∀ x ∈ T, x.gone = true → decd x.wd = true) := by
    obtain ⟨_, _, _, _, hx⟩ := ht
    exact hx.gon
  have HFL : Hid (∀ k, F k → k < w.heap.size) := fun k hk => by
    obtain ⟨mb, ov, B, O, hh⟩ := ht
    exact hh.flt k hk
  have HV : Hid (∀ g, (Value.slice p (docA 0 T).length c).ownBlock = some g → ¬ F g) := hv
  have HVL : Hid (∀ g, (Value.slice p (docA 0 T).length c).ownBlock = some g → g < w.heap.size) := fun g hg => by
    obtain ⟨cur, h2⟩ := own_cells hd hg
    exact (Array.getElem?_eq_some_iff.1 h2).1
  have H0 : Hid (Sta w F tb T ∧ DocT w 0 (.slice p (docA 0 T).length c) (docA 0 T)) := ⟨ht, hd⟩
  clear ht hd hv hlen hn1 hn2
  go_enter Try.func9, Try.ntmps9
  have hs1 : (w.alloc (.cells #[.slice p (docA 0 T).length c, .int .i64 (T.length : Nat)] 27)).heap.size = w.heap.size + 1 := by simp
  have X1 : BoxT (w.alloc (.cells #[.slice p (docA 0 T).length c, .int .i64 (T.length : Nat)] 27)) w.heap.size #[.slice p (docA 0 T).length c, .int .i64 (T.length : Nat)] 27 := BoxT.new _ _ _
  have L1 : Below w.heap.size w (w.alloc (.cells #[.slice p (docA 0 T).length c, .int .i64 (T.length : Nat)] 27)) := (Below.refl _ _).alloc (Nat.le_refl _) _
  have hs2 : ((w.alloc (.cells #[.slice p (docA 0 T).length c, .int .i64 (T.length : Nat)] 27)).alloc (.cells #[.int .i64 1, .int .i64 n, .int .u64 (s : Nat)] 33)).heap.size = w.heap.size + 2 := by simp
  have X2 : BoxT ((w.alloc (.cells #[.slice p (docA 0 T).length c, .int .i64 (T.length : Nat)] 27)).alloc (.cells #[.int .i64 1, .int .i64 n, .int .u64 (s : Nat)] 33)) (w.heap.size + 1) #[.int .i64 1, .int .i64 n, .int .u64 (s : Nat)] 33 := by rw [← hs1]; exact BoxT.new _ _ _
  have L2 : Below (w.alloc (.cells #[.slice p (docA 0 T).length c, .int .i64 (T.length : Nat)] 27)).heap.size (w.alloc (.cells #[.slice p (docA 0 T).length c, .int .i64 (T.length : Nat)] 27)) ((w.alloc (.cells #[.slice p (docA 0 T).length c, .int .i64 (T.length : Nat)] 27)).alloc (.cells #[.int .i64 1, .int .i64 n, .int .u64 (s : Nat)] 33)) := (Below.refl _ _).alloc (Nat.le_refl _) _
  have X3 : BoxT (((w.alloc (.cells #[.slice p (docA 0 T).length c, .int .i64 (T.length : Nat)] 27)).alloc (.cells #[.int .i64 1, .int .i64 n, .int .u64 (s : Nat)] 33)).alloc (.cells #[.slice none 0 0, .int .i64 0] 27)) (w.heap.size + 2) #[.slice none 0 0, .int .i64 0] 27 := by rw [← hs2]; exact BoxT.new _ _ _
  have L3 : Below ((w.alloc (.cells #[.slice p (docA 0 T).length c, .int .i64 (T.length : Nat)] 27)).alloc (.cells #[.int .i64 1, .int .i64 n, .int .u64 (s : Nat)] 33)).heap.size ((w.alloc (.cells #[.slice p (docA 0 T).length c, .int .i64 (T.length : Nat)] 27)).alloc (.cells #[.int .i64 1, .int .i64 n, .int .u64 (s : Nat)] 33)) (((w.alloc (.cells #[.slice p (docA 0 T).length c, .int .i64 (T.length : Nat)] 27)).alloc (.cells #[.int .i64 1, .int .i64 n, .int .u64 (s : Nat)] 33)).alloc (.cells #[.slice none 0 0, .int .i64 0] 27)) := (Below.refl _ _).alloc (Nat.le_refl _) _
  have HM : Hid (BoxT (((w.alloc (.cells #[.slice p (docA 0 T).length c, .int .i64 (T.length : Nat)] 27)).alloc (.cells #[.int .i64 1, .int .i64 n, .int .u64 (s : Nat)] 33)).alloc (.cells #[.slice none 0 0, .int .i64 0] 27)) w.heap.size #[.slice p (docA 0 T).length c, .int .i64 (T.length : Nat)] 27) := (X1.on L2).on L3
  have HA : Hid (BoxT (((w.alloc (.cells #[.slice p (docA 0 T).length c, .int .i64 (T.length : Nat)] 27)).alloc (.cells #[.int .i64 1, .int .i64 n, .int .u64 (s : Nat)] 33)).alloc (.cells #[.slice none 0 0, .int .i64 0] 27)) (w.heap.size + 1) #[.int .i64 1, .int .i64 n, .int .u64 (s : Nat)] 33) := X2.on L3
  have HR : Hid (BoxT (((w.alloc (.cells #[.slice p (docA 0 T).length c, .int .i64 (T.length : Nat)] 27)).alloc (.cells #[.int .i64 1, .int .i64 n, .int .u64 (s : Nat)] 33)).alloc (.cells #[.slice none 0 0, .int .i64 0] 27)) (w.heap.size + 2) #[.slice none 0 0, .int .i64 0] 27) := X3
  have HL : Hid (Below w.heap.size w (((w.alloc (.cells #[.slice p (docA 0 T).length c, .int .i64 (T.length : Nat)] 27)).alloc (.cells #[.int .i64 1, .int .i64 n, .int .u64 (s : Nat)] 33)).alloc (.cells #[.slice none 0 0, .int .i64 0] 27))) := (L1.trans (L2.mono (by omega))).trans (L3.mono (by omega))
  have k0 : (((w.alloc (.cells #[.slice p (docA 0 T).length c, .int .i64 (T.length : Nat)] 27)).alloc (.cells #[.int .i64 1, .int .i64 n, .int .u64 (s : Nat)] 33)).alloc (.cells #[.slice none 0 0, .int .i64 0] 27)).cell? ⟨w.heap.size + 1, 0, none⟩ = some (.int .i64 1) := HA.out.cell
  have k1 : (((w.alloc (.cells #[.slice p (docA 0 T).length c, .int .i64 (T.length : Nat)] 27)).alloc (.cells #[.int .i64 1, .int .i64 n, .int .u64 (s : Nat)] 33)).alloc (.cells #[.slice none 0 0, .int .i64 0] 27)).cell? ⟨w.heap.size + 1, 1, none⟩ = some (.int .i64 n) := HA.out.cell
  have k2 : (((w.alloc (.cells #[.slice p (docA 0 T).length c, .int .i64 (T.length : Nat)] 27)).alloc (.cells #[.int .i64 1, .int .i64 n, .int .u64 (s : Nat)] 33)).alloc (.cells #[.slice none 0 0, .int .i64 0] 27)).cell? ⟨w.heap.size + 1, 2, none⟩ = some (.int .u64 (s : Nat)) := HA.out.cell
  have m0 : (((w.alloc (.cells #[.slice p (docA 0 T).length c, .int .i64 (T.length : Nat)] 27)).alloc (.cells #[.int .i64 1, .int .i64 n, .int .u64 (s : Nat)] 33)).alloc (.cells #[.slice none 0 0, .int .i64 0] 27)).cell? ⟨w.heap.size, 0, none⟩ = some (.slice p (docA 0 T).length c) := HM.out.cell
  have m1 : (((w.alloc (.cells #[.slice p (docA 0 T).length c, .int .i64 (T.length : Nat)] 27)).alloc (.cells #[.int .i64 1, .int .i64 n, .int .u64 (s : Nat)] 33)).alloc (.cells #[.slice none 0 0, .int .i64 0] 27)).cell? ⟨w.heap.size, 1, none⟩ = some (.int .i64 (T.length : Nat)) := HM.out.cell
  clear hs1 X1 L1 hs2 X2 L2 X3 L3
  go_wp2_with fail
  generalize ((w.alloc (.cells #[.slice p (docA 0 T).length c, .int .i64 (T.length : Nat)] 27)).alloc (.cells #[.int .i64 1, .int .i64 n, .int .u64 (s : Nat)] 33)).alloc (.cells #[.slice none 0 0, .int .i64 0] 27) = w3 at *
  have HT3 : Hid (Sta w3 F tb T) := H0.out.1.keep (Frm.of_below HL.out (F := fun _ => False)) (fun k _ hn => hn)
  have HD3 : Hid (DocT w3 0 (.slice p (docA 0 T).length c) (docA 0 T)) := owns_kept H0.out.2 HL.out
  have HZ3 : Hid (w.heap.size + 2 < w3.heap.size) := HR.out.lt
  have C1 : Hid (Calls _ _ _ _ _) := rprepare_any (docA 0 T) _ T.length 0 n w3 HD3.out (Nat.le_of_lt HDL.out)
  rw [prep_doc] at C1
  clear k0
  refine C1.out.mono ?_
  rintro e w4 ⟨⟨u, rfl, hu, hul⟩, hb4⟩
  obtain ⟨q, l, d, rfl⟩ : ∃ q l c, u = .slice q l c := by
    obtain ⟨q, cq, eu, _⟩ := hu.rd
    exact ⟨_, _, _, eu⟩
  have HU4 : Hid (DocT w4 0 (.slice q l d) _) := hu
  have HUL : Hid (∀ g, (Value.slice q l d).ownBlock = some g → (Value.slice p (docA 0 T).length c).ownBlock = some g ∨ w.heap.size ≤ g) := fun g hg => (hul g hg).imp id (fun h => by have := HZ3.out; omega)
  have HUB : Hid (∀ g, (Value.slice q l d).ownBlock = some g → g ≠ w.heap.size + 2) := fun g hg e => by
    rcases hul g hg with h1 | h1
    · have := HVL.out g h1; omega
    · have := HZ3.out; omega
  have HUB0 : Hid (∀ g, (Value.slice q l d).ownBlock = some g → g ≠ w.heap.size) := fun g hg e => by
    rcases hul g hg with h1 | h1
    · have := HVL.out g h1; omega
    · have := HZ3.out; omega
  have HUN : Hid (∀ g, (Value.slice q l d).ownBlock = some g → ¬ F g) := fun g hg hf => by
    rcases hul g hg with h1 | h1
    · exact HV.out g h1 hf
    · have := HFL.out g hf; have := HZ3.out; omega
  have HM4 : Hid (BoxT w4 w.heap.size _ _) := HM.out.on hb4
  have HA4 : Hid (BoxT w4 (w.heap.size + 1) _ _) := HA.out.on hb4
  have HR4 : Hid (BoxT w4 (w.heap.size + 2) _ _) := HR.out.on hb4
  have HT4 : Hid (Sta w4 F tb T) := HT3.out.keep (Frm.of_below hb4 (F := fun _ => False)) (fun k _ hn => hn)
  have HL4 : Hid (Below w.heap.size w w4) := HL.out.trans (hb4.mono HL.out.size)
  have n0 : w4.cell? ⟨w.heap.size, 0, none⟩ = some (.slice p (docA 0 T).length c) := HM4.out.cell
  have n1 : w4.cell? ⟨w.heap.size, 1, none⟩ = some (.int .i64 (T.length : Nat)) := HM4.out.cell
  have o0 : w4.frozen? ⟨w.heap.size, 0, none⟩ = false := HM4.out.frozen
  have o1 : w4.frozen? ⟨w.heap.size, 1, none⟩ = false := HM4.out.frozen
  have hf5 : Frm w4 ((w4.setCell ⟨w.heap.size, 0, none⟩ (.slice q l d)).setCell ⟨w.heap.size, 1, none⟩ (.int .i64 (T.length : Nat))) (fun k => k = w.heap.size) := (frm_set w4 _ 0 _ (F := fun k => k = w.heap.size) rfl).trans (frm_set _ _ 1 _ (F := fun k => k = w.heap.size) rfl) (fun k hk => .inl hk)
  have HM5 : Hid (BoxT ((w4.setCell ⟨w.heap.size, 0, none⟩ (.slice q l d)).setCell ⟨w.heap.size, 1, none⟩ (.int .i64 (T.length : Nat))) w.heap.size #[.slice q l d, .int .i64 (T.length : Nat)] 27) := (HM4.out.set (i := 0) _).set (i := 1) _
  have HA5 : Hid (BoxT ((w4.setCell ⟨w.heap.size, 0, none⟩ (.slice q l d)).setCell ⟨w.heap.size, 1, none⟩ (.int .i64 (T.length : Nat))) (w.heap.size + 1) #[.int .i64 1, .int .i64 n, .int .u64 (s : Nat)] 33) := (hf5.block _ HA4.out.lt (by omega)).trans HA4.out
  have HR5 : Hid (BoxT ((w4.setCell ⟨w.heap.size, 0, none⟩ (.slice q l d)).setCell ⟨w.heap.size, 1, none⟩ (.int .i64 (T.length : Nat))) (w.heap.size + 2) #[.slice none 0 0, .int .i64 0] 27) := (hf5.block _ HR4.out.lt (by omega)).trans HR4.out
  have HT5 : Hid (Sta ((w4.setCell ⟨w.heap.size, 0, none⟩ (.slice q l d)).setCell ⟨w.heap.size, 1, none⟩ (.int .i64 (T.length : Nat))).drew F tb T) := HT4.out.keep hf5.drew (fun k hk e => by have := HFL.out _ hk; omega)
  have HD5 : Hid (DocT ((w4.setCell ⟨w.heap.size, 0, none⟩ (.slice q l d)).setCell ⟨w.heap.size, 1, none⟩ (.int .i64 (T.length : Nat))).drew 0 (.slice q l d) _) := HU4.out.block (fun g hg => hf5.block g (by obtain ⟨cur, h2⟩ := own_cells HU4.out hg; exact (Array.getElem?_eq_some_iff.1 h2).1) (HUB0.out g hg))
  have HF5 : Hid (Frm w ((w4.setCell ⟨w.heap.size, 0, none⟩ (.slice q l d)).setCell ⟨w.heap.size, 1, none⟩ (.int .i64 (T.length : Nat))).drew F) := ((Frm.of_below HL4.out (F := F)).trans hf5 (fun k hk => .inr (by omega))).drew
  clear hu hul hb4 hf5 C1 HM HA HR HL HT3 HD3 HM4 HA4 HR4 HT4 HL4 HU4 H0 k1 k2 m0 m1
  go_wp2_with fail
  generalize hw5 : ((w4.setCell ⟨w.heap.size, 0, none⟩ (.slice q l d)).setCell ⟨w.heap.size, 1, none⟩ (.int .i64 (T.length : Nat))) = w5 at *
  clear hw5 n0 n1 o0 o1
  have i1 : w5.cell? ⟨w.heap.size + 1, 1, none⟩ = some (.int .i64 n) := HA5.out.cell
  have i2 : w5.cell? ⟨w.heap.size + 1, 2, none⟩ = some (.int .u64 (s : Nat)) := HA5.out.cell
  have i3 : w5.cell? ⟨w.heap.size, 0, none⟩ = some (.slice q l d) := HM5.out.cell
  have i4 : w5.cell? ⟨w.heap.size, 1, none⟩ = some (.int .i64 (T.length : Nat)) := HM5.out.cell
  refine wp_region_any (by kernel_rfl) ?_
  change wpAny _ _ _ _ _ _ _ (World.drew _)
  refine anyN_take (v := ?_) 1 rfl (by kernel_rfl) (by kernel_rfl) (by kernel_rfl) (fun _ _ _ h => h) (Or.inl ⟨by rfl, ?_⟩) ?_
  rotate_left
  focus
    intro w9
    go_simp
    try with_reducible rfl
  try simp only [Act.put, List.setIfInBounds_toArray, List.set_cons_zero, List.set_cons_succ]
  refine anyN_take (v := ?_) 2 rfl (by kernel_rfl) (by kernel_rfl) (by kernel_rfl) (fun _ _ _ h => h) (Or.inl ⟨by rfl, ?_⟩) ?_
  rotate_left
  focus
    intro w9
    go_simp
    try with_reducible rfl
  try simp only [Act.put, List.setIfInBounds_toArray, List.set_cons_zero, List.set_cons_succ]
  refine anyN_take (v := ?_) 5 rfl (by kernel_rfl) (by kernel_rfl) (by kernel_rfl) (fun _ _ _ h => h) (Or.inl ⟨by rfl, ?_⟩) ?_
  rotate_left
  focus
    intro w9
    go_simp
    try with_reducible rfl
  try simp only [Act.put, List.setIfInBounds_toArray, List.set_cons_zero, List.set_cons_succ]
  refine wpAny_ready (rs := [0, 3]) (by kernel_rfl) (by simp) ?_
  refine anyN_cons 0 rfl (by rfl) (fun K hK => ?_) (anyN_cons 3 rfl (by rfl) (fun K hK => ?_) (AllReady.nil))
  · go_simp
    refine hK.out _ _ ?_
    clear hK K
    try simp only [Act.put, List.setIfInBounds_toArray, List.set_cons_zero, List.set_cons_succ]
    refine wpAny_ready (rs := [3]) (by kernel_rfl) (by simp) ?_
    refine anyN_cons 3 rfl (by rfl) (fun K hK => ?_) AllReady.nil
    go_simp
    refine hK.out _ _ ?_
    clear hK K
    try simp only [Act.put, List.setIfInBounds_toArray, List.set_cons_zero, List.set_cons_succ]
    refine wpAny_ready (rs := [4]) (by kernel_rfl) (by simp) ?_
    refine anyN_cons 4 rfl (by rfl) (fun K hK => ?_) AllReady.nil
    go_simp
    refine (prepare_any F tb T n _ HT5.out HN.out.1 HN.out.2).mono ?_
    rintro e w6 ⟨rfl, ht6, hf6⟩
    dsimp only
    have HT6 : Hid (Sta w6 F tb _) := ht6
    have hkp : ∀ k, ¬ F k → k < w5.heap.size → w6.heap[k]? = w5.heap[k]? := fun k h1 h2 => hf6.block k h2 h1
    have HM6 : Hid (BoxT w6 w.heap.size #[.slice q l d, .int .i64 (T.length : Nat)] 27) := (hkp _ (fun hf => by have := HFL.out _ hf; omega) HM5.out.lt).trans HM5.out
    have HA6 : Hid (BoxT w6 (w.heap.size + 1) _ 33) := (hkp _ (fun hf => by have := HFL.out _ hf; omega) HA5.out.lt).trans HA5.out
    have HR6 : Hid (BoxT w6 (w.heap.size + 2) #[.slice none 0 0, .int .i64 0] 27) := (hkp _ (fun hf => by have := HFL.out _ hf; omega) HR5.out.lt).trans HR5.out
    have HD6 : Hid (DocT w6 0 (.slice q l d) _) := HD5.out.block (fun g hg => hkp g (HUN.out g hg) (by obtain ⟨cur, h2⟩ := own_cells HD5.out hg; exact (Array.getElem?_eq_some_iff.1 h2).1))
    have HF6 : Hid (Frm w w6 F) := HF5.out.trans hf6 (fun k hk => .inl hk)
    have e0 : w6.cell? ⟨w.heap.size, 0, none⟩ = some (.slice q l d) := HM6.out.cell
    have e1 : w6.cell? ⟨w.heap.size, 1, none⟩ = some (.int .i64 (T.length : Nat)) := HM6.out.cell
    have g0 : w6.cell? ⟨w.heap.size + 2, 0, none⟩ = some (.slice none 0 0) := HR6.out.cell
    have g1 : w6.cell? ⟨w.heap.size + 2, 1, none⟩ = some (.int .i64 0) := HR6.out.cell
    have y0 : w6.frozen? ⟨w.heap.size + 2, 0, none⟩ = false := HR6.out.frozen
    have y1 : w6.frozen? ⟨w.heap.size + 2, 1, none⟩ = false := HR6.out.frozen
    clear ht6 hf6 hkp
    refine hK.out _ _ ?_
    clear hK K
    try simp only [Act.put, List.setIfInBounds_toArray, List.set_cons_zero, List.set_cons_succ]
    refine anyN_take (v := ?_) 6 rfl (by kernel_rfl) (by kernel_rfl) (by kernel_rfl) (fun _ _ _ h => h) (Or.inl ⟨by rfl, ?_⟩) ?_
    rotate_left
    focus
      intro w9
      go_simp
      try with_reducible rfl
    try simp only [Act.put, List.setIfInBounds_toArray, List.set_cons_zero, List.set_cons_succ]
    refine wpAny_ready (rs := [7]) (by kernel_rfl) (by simp) ?_
    refine anyN_cons 7 rfl (by rfl) (fun K hK => ?_) AllReady.nil
    go_simp
    refine hK.out _ _ ?_
    clear hK K
    try simp only [Act.put, List.setIfInBounds_toArray, List.set_cons_zero, List.set_cons_succ]
    refine wpAny_ready (rs := [8]) (by kernel_rfl) (by simp) ?_
    refine anyN_cons 8 rfl (by rfl) (fun K hK => ?_) AllReady.nil
    go_simp
    refine hK.out _ _ ?_
    clear hK K
    try simp only [Act.put, List.setIfInBounds_toArray, List.set_cons_zero, List.set_cons_succ]
    refine wpAny_done (by kernel_rfl) ?_ _
    have hfz : Frm w6 ((w6.setCell ⟨w.heap.size + 2, 0, none⟩ (.slice q l d)).setCell ⟨w.heap.size + 2, 1, none⟩ (.int .i64 (T.length : Nat))) (fun k => k = w.heap.size + 2) := (frm_set w6 _ 0 _ (F := fun k => k = w.heap.size + 2) rfl).trans (frm_set _ _ 1 _ (F := fun k => k = w.heap.size + 2) rfl) (fun k hk => .inl hk)
    have HBE : Hid (BoxT ((w6.setCell ⟨w.heap.size + 2, 0, none⟩ (.slice q l d)).setCell ⟨w.heap.size + 2, 1, none⟩ (.int .i64 (T.length : Nat))) (w.heap.size + 2) #[.slice q l d, .int .i64 (T.length : Nat)] 27) := (HR6.out.set (i := 0) _).set (i := 1) _
    have q0 : ((w6.setCell ⟨w.heap.size + 2, 0, none⟩ (.slice q l d)).setCell ⟨w.heap.size + 2, 1, none⟩ (.int .i64 (T.length : Nat))).cell? ⟨w.heap.size + 2, 0, none⟩ = some (.slice q l d) := HBE.out.cell
    have q1 : ((w6.setCell ⟨w.heap.size + 2, 0, none⟩ (.slice q l d)).setCell ⟨w.heap.size + 2, 1, none⟩ (.int .i64 (T.length : Nat))).cell? ⟨w.heap.size + 2, 1, none⟩ = some (.int .i64 (T.length : Nat)) := HBE.out.cell
    have HTE : Hid (Sta ((w6.setCell ⟨w.heap.size + 2, 0, none⟩ (.slice q l d)).setCell ⟨w.heap.size + 2, 1, none⟩ (.int .i64 (T.length : Nat))) F tb _) := HT6.out.keep hfz (fun k hk e => by have := HFL.out _ hk; omega)
    have HDE : Hid (DocT ((w6.setCell ⟨w.heap.size + 2, 0, none⟩ (.slice q l d)).setCell ⟨w.heap.size + 2, 1, none⟩ (.int .i64 (T.length : Nat))) 0 (.slice q l d) _) := HD6.out.block (fun g hg => hfz.block g (by obtain ⟨cur, h2⟩ := own_cells HD6.out hg; exact (Array.getElem?_eq_some_iff.1 h2).1) (HUB.out g hg))
    have HFE : Hid (Frm w ((w6.setCell ⟨w.heap.size + 2, 0, none⟩ (.slice q l d)).setCell ⟨w.heap.size + 2, 1, none⟩ (.int .i64 (T.length : Nat))) F) := HF6.out.trans hfz (fun k hk => .inr (by omega))
    clear hfz
    generalize ((w6.setCell ⟨w.heap.size + 2, 0, none⟩ (.slice q l d)).setCell ⟨w.heap.size + 2, 1, none⟩ (.int .i64 (T.length : Nat))) = wz at *
    go_wp2_with fail
    have hln := HTL.out
    refine bodyPost_ret (v := .tuple #[tvD (.slice q l d) T.length, .bool true]) (by simp [results, Try.results9, go_sem, q0, q1]) rfl ?_
    exact ⟨⟨_, F, by rw [hln], HTE.out, HDE.out, HUN.out, fun k hk => .inl hk, HUL.out⟩, HFE.out⟩
  · go_simp
    refine hK.out _ _ ?_
    clear hK K
    try simp only [Act.put, List.setIfInBounds_toArray, List.set_cons_zero, List.set_cons_succ]
    refine wpAny_ready (rs := [0, 4]) (by kernel_rfl) (by simp) ?_
    refine anyN_cons 0 rfl (by rfl) (fun K hK => ?_) (anyN_cons 4 rfl (by rfl) (fun K hK => ?_) (AllReady.nil))
    · go_simp
      refine hK.out _ _ ?_
      clear hK K
      try simp only [Act.put, List.setIfInBounds_toArray, List.set_cons_zero, List.set_cons_succ]
      refine wpAny_ready (rs := [4]) (by kernel_rfl) (by simp) ?_
      refine anyN_cons 4 rfl (by rfl) (fun K hK => ?_) AllReady.nil
      go_simp
      refine (prepare_any F tb T n _ HT5.out HN.out.1 HN.out.2).mono ?_
      rintro e w6 ⟨rfl, ht6, hf6⟩
      dsimp only
      have HT6 : Hid (Sta w6 F tb _) := ht6
      have hkp : ∀ k, ¬ F k → k < w5.heap.size → w6.heap[k]? = w5.heap[k]? := fun k h1 h2 => hf6.block k h2 h1
      have HM6 : Hid (BoxT w6 w.heap.size #[.slice q l d, .int .i64 (T.length : Nat)] 27) := (hkp _ (fun hf => by have := HFL.out _ hf; omega) HM5.out.lt).trans HM5.out
      have HA6 : Hid (BoxT w6 (w.heap.size + 1) _ 33) := (hkp _ (fun hf => by have := HFL.out _ hf; omega) HA5.out.lt).trans HA5.out
      have HR6 : Hid (BoxT w6 (w.heap.size + 2) #[.slice none 0 0, .int .i64 0] 27) := (hkp _ (fun hf => by have := HFL.out _ hf; omega) HR5.out.lt).trans HR5.out
      have HD6 : Hid (DocT w6 0 (.slice q l d) _) := HD5.out.block (fun g hg => hkp g (HUN.out g hg) (by obtain ⟨cur, h2⟩ := own_cells HD5.out hg; exact (Array.getElem?_eq_some_iff.1 h2).1))
      have HF6 : Hid (Frm w w6 F) := HF5.out.trans hf6 (fun k hk => .inl hk)
      have e0 : w6.cell? ⟨w.heap.size, 0, none⟩ = some (.slice q l d) := HM6.out.cell
      have e1 : w6.cell? ⟨w.heap.size, 1, none⟩ = some (.int .i64 (T.length : Nat)) := HM6.out.cell
      have g0 : w6.cell? ⟨w.heap.size + 2, 0, none⟩ = some (.slice none 0 0) := HR6.out.cell
      have g1 : w6.cell? ⟨w.heap.size + 2, 1, none⟩ = some (.int .i64 0) := HR6.out.cell
      have y0 : w6.frozen? ⟨w.heap.size + 2, 0, none⟩ = false := HR6.out.frozen
      have y1 : w6.frozen? ⟨w.heap.size + 2, 1, none⟩ = false := HR6.out.frozen
      clear ht6 hf6 hkp
      refine hK.out _ _ ?_
      clear hK K
      try simp only [Act.put, List.setIfInBounds_toArray, List.set_cons_zero, List.set_cons_succ]
      refine anyN_take (v := ?_) 6 rfl (by kernel_rfl) (by kernel_rfl) (by kernel_rfl) (fun _ _ _ h => h) (Or.inl ⟨by rfl, ?_⟩) ?_
      rotate_left
      focus
        intro w9
        go_simp
        try with_reducible rfl
      try simp only [Act.put, List.setIfInBounds_toArray, List.set_cons_zero, List.set_cons_succ]
      refine wpAny_ready (rs := [7]) (by kernel_rfl) (by simp) ?_
      refine anyN_cons 7 rfl (by rfl) (fun K hK => ?_) AllReady.nil
      go_simp
      refine hK.out _ _ ?_
      clear hK K
      try simp only [Act.put, List.setIfInBounds_toArray, List.set_cons_zero, List.set_cons_succ]
      refine wpAny_ready (rs := [8]) (by kernel_rfl) (by simp) ?_
      refine anyN_cons 8 rfl (by rfl) (fun K hK => ?_) AllReady.nil
      go_simp
      refine hK.out _ _ ?_
      clear hK K
      try simp only [Act.put, List.setIfInBounds_toArray, List.set_cons_zero, List.set_cons_succ]
      refine wpAny_done (by kernel_rfl) ?_ _
      have hfz : Frm w6 ((w6.setCell ⟨w.heap.size + 2, 0, none⟩ (.slice q l d)).setCell ⟨w.heap.size + 2, 1, none⟩ (.int .i64 (T.length : Nat))) (fun k => k = w.heap.size + 2) := (frm_set w6 _ 0 _ (F := fun k => k = w.heap.size + 2) rfl).trans (frm_set _ _ 1 _ (F := fun k => k = w.heap.size + 2) rfl) (fun k hk => .inl hk)
      have HBE : Hid (BoxT ((w6.setCell ⟨w.heap.size + 2, 0, none⟩ (.slice q l d)).setCell ⟨w.heap.size + 2, 1, none⟩ (.int .i64 (T.length : Nat))) (w.heap.size + 2) #[.slice q l d, .int .i64 (T.length : Nat)] 27) := (HR6.out.set (i := 0) _).set (i := 1) _
      have q0 : ((w6.setCell ⟨w.heap.size + 2, 0, none⟩ (.slice q l d)).setCell ⟨w.heap.size + 2, 1, none⟩ (.int .i64 (T.length : Nat))).cell? ⟨w.heap.size + 2, 0, none⟩ = some (.slice q l d) := HBE.out.cell
      have q1 : ((w6.setCell ⟨w.heap.size + 2, 0, none⟩ (.slice q l d)).setCell ⟨w.heap.size + 2, 1, none⟩ (.int .i64 (T.length : Nat))).cell? ⟨w.heap.size + 2, 1, none⟩ = some (.int .i64 (T.length : Nat)) := HBE.out.cell
      have HTE : Hid (Sta ((w6.setCell ⟨w.heap.size + 2, 0, none⟩ (.slice q l d)).setCell ⟨w.heap.size + 2, 1, none⟩ (.int .i64 (T.length : Nat))) F tb _) := HT6.out.keep hfz (fun k hk e => by have := HFL.out _ hk; omega)
      have HDE : Hid (DocT ((w6.setCell ⟨w.heap.size + 2, 0, none⟩ (.slice q l d)).setCell ⟨w.heap.size + 2, 1, none⟩ (.int .i64 (T.length : Nat))) 0 (.slice q l d) _) := HD6.out.block (fun g hg => hfz.block g (by obtain ⟨cur, h2⟩ := own_cells HD6.out hg; exact (Array.getElem?_eq_some_iff.1 h2).1) (HUB.out g hg))
      have HFE : Hid (Frm w ((w6.setCell ⟨w.heap.size + 2, 0, none⟩ (.slice q l d)).setCell ⟨w.heap.size + 2, 1, none⟩ (.int .i64 (T.length : Nat))) F) := HF6.out.trans hfz (fun k hk => .inr (by omega))
      clear hfz
      generalize ((w6.setCell ⟨w.heap.size + 2, 0, none⟩ (.slice q l d)).setCell ⟨w.heap.size + 2, 1, none⟩ (.int .i64 (T.length : Nat))) = wz at *
      go_wp2_with fail
      have hln := HTL.out
      refine bodyPost_ret (v := .tuple #[tvD (.slice q l d) T.length, .bool true]) (by simp [results, Try.results9, go_sem, q0, q1]) rfl ?_
      exact ⟨⟨_, F, by rw [hln], HTE.out, HDE.out, HUN.out, fun k hk => .inl hk, HUL.out⟩, HFE.out⟩
    · go_simp
      refine (prepare_any F tb T n _ HT5.out HN.out.1 HN.out.2).mono ?_
      rintro e w6 ⟨rfl, ht6, hf6⟩
      dsimp only
      have HT6 : Hid (Sta w6 F tb _) := ht6
      have hkp : ∀ k, ¬ F k → k < w5.heap.size → w6.heap[k]? = w5.heap[k]? := fun k h1 h2 => hf6.block k h2 h1
      have HM6 : Hid (BoxT w6 w.heap.size #[.slice q l d, .int .i64 (T.length : Nat)] 27) := (hkp _ (fun hf => by have := HFL.out _ hf; omega) HM5.out.lt).trans HM5.out
      have HA6 : Hid (BoxT w6 (w.heap.size + 1) _ 33) := (hkp _ (fun hf => by have := HFL.out _ hf; omega) HA5.out.lt).trans HA5.out
      have HR6 : Hid (BoxT w6 (w.heap.size + 2) #[.slice none 0 0, .int .i64 0] 27) := (hkp _ (fun hf => by have := HFL.out _ hf; omega) HR5.out.lt).trans HR5.out
      have HD6 : Hid (DocT w6 0 (.slice q l d) _) := HD5.out.block (fun g hg => hkp g (HUN.out g hg) (by obtain ⟨cur, h2⟩ := own_cells HD5.out hg; exact (Array.getElem?_eq_some_iff.1 h2).1))
      have HF6 : Hid (Frm w w6 F) := HF5.out.trans hf6 (fun k hk => .inl hk)
      have e0 : w6.cell? ⟨w.heap.size, 0, none⟩ = some (.slice q l d) := HM6.out.cell
      have e1 : w6.cell? ⟨w.heap.size, 1, none⟩ = some (.int .i64 (T.length : Nat)) := HM6.out.cell
      have g0 : w6.cell? ⟨w.heap.size + 2, 0, none⟩ = some (.slice none 0 0) := HR6.out.cell
      have g1 : w6.cell? ⟨w.heap.size + 2, 1, none⟩ = some (.int .i64 0) := HR6.out.cell
      have y0 : w6.frozen? ⟨w.heap.size + 2, 0, none⟩ = false := HR6.out.frozen
      have y1 : w6.frozen? ⟨w.heap.size + 2, 1, none⟩ = false := HR6.out.frozen
      clear ht6 hf6 hkp
      refine hK.out _ _ ?_
      clear hK K
      try simp only [Act.put, List.setIfInBounds_toArray, List.set_cons_zero, List.set_cons_succ]
      refine anyN_take (v := ?_) 6 rfl (by kernel_rfl) (by kernel_rfl) (by kernel_rfl) (fun _ _ _ h => h) (Or.inl ⟨by rfl, ?_⟩) ?_
      rotate_left
      focus
        intro w9
        go_simp
        try with_reducible rfl
      try simp only [Act.put, List.setIfInBounds_toArray, List.set_cons_zero, List.set_cons_succ]
      refine wpAny_ready (rs := [0]) (by kernel_rfl) (by simp) ?_
      refine anyN_cons 0 rfl (by rfl) (fun K hK => ?_) AllReady.nil
      go_simp
      refine hK.out _ _ ?_
      clear hK K
      try simp only [Act.put, List.setIfInBounds_toArray, List.set_cons_zero, List.set_cons_succ]
      refine wpAny_ready (rs := [7]) (by kernel_rfl) (by simp) ?_
      refine anyN_cons 7 rfl (by rfl) (fun K hK => ?_) AllReady.nil
      go_simp
      refine hK.out _ _ ?_
      clear hK K
      try simp only [Act.put, List.setIfInBounds_toArray, List.set_cons_zero, List.set_cons_succ]
      refine wpAny_ready (rs := [8]) (by kernel_rfl) (by simp) ?_
      refine anyN_cons 8 rfl (by rfl) (fun K hK => ?_) AllReady.nil
      go_simp
      refine hK.out _ _ ?_
      clear hK K
      try simp only [Act.put, List.setIfInBounds_toArray, List.set_cons_zero, List.set_cons_succ]
      refine wpAny_done (by kernel_rfl) ?_ _
      have hfz : Frm w6 ((w6.setCell ⟨w.heap.size + 2, 0, none⟩ (.slice q l d)).setCell ⟨w.heap.size + 2, 1, none⟩ (.int .i64 (T.length : Nat))) (fun k => k = w.heap.size + 2) := (frm_set w6 _ 0 _ (F := fun k => k = w.heap.size + 2) rfl).trans (frm_set _ _ 1 _ (F := fun k => k = w.heap.size + 2) rfl) (fun k hk => .inl hk)
      have HBE : Hid (BoxT ((w6.setCell ⟨w.heap.size + 2, 0, none⟩ (.slice q l d)).setCell ⟨w.heap.size + 2, 1, none⟩ (.int .i64 (T.length : Nat))) (w.heap.size + 2) #[.slice q l d, .int .i64 (T.length : Nat)] 27) := (HR6.out.set (i := 0) _).set (i := 1) _
      have q0 : ((w6.setCell ⟨w.heap.size + 2, 0, none⟩ (.slice q l d)).setCell ⟨w.heap.size + 2, 1, none⟩ (.int .i64 (T.length : Nat))).cell? ⟨w.heap.size + 2, 0, none⟩ = some (.slice q l d) := HBE.out.cell
      have q1 : ((w6.setCell ⟨w.heap.size + 2, 0, none⟩ (.slice q l d)).setCell ⟨w.heap.size + 2, 1, none⟩ (.int .i64 (T.length : Nat))).cell? ⟨w.heap.size + 2, 1, none⟩ = some (.int .i64 (T.length : Nat)) := HBE.out.cell
      have HTE : Hid (Sta ((w6.setCell ⟨w.heap.size + 2, 0, none⟩ (.slice q l d)).setCell ⟨w.heap.size + 2, 1, none⟩ (.int .i64 (T.length : Nat))) F tb _) := HT6.out.keep hfz (fun k hk e => by have := HFL.out _ hk; omega)
      have HDE : Hid (DocT ((w6.setCell ⟨w.heap.size + 2, 0, none⟩ (.slice q l d)).setCell ⟨w.heap.size + 2, 1, none⟩ (.int .i64 (T.length : Nat))) 0 (.slice q l d) _) := HD6.out.block (fun g hg => hfz.block g (by obtain ⟨cur, h2⟩ := own_cells HD6.out hg; exact (Array.getElem?_eq_some_iff.1 h2).1) (HUB.out g hg))
      have HFE : Hid (Frm w ((w6.setCell ⟨w.heap.size + 2, 0, none⟩ (.slice q l d)).setCell ⟨w.heap.size + 2, 1, none⟩ (.int .i64 (T.length : Nat))) F) := HF6.out.trans hfz (fun k hk => .inr (by omega))
      clear hfz
      generalize ((w6.setCell ⟨w.heap.size + 2, 0, none⟩ (.slice q l d)).setCell ⟨w.heap.size + 2, 1, none⟩ (.int .i64 (T.length : Nat))) = wz at *
      go_wp2_with fail
      have hln := HTL.out
      refine bodyPost_ret (v := .tuple #[tvD (.slice q l d) T.length, .bool true]) (by simp [results, Try.results9, go_sem, q0, q1]) rfl ?_
      exact ⟨⟨_, F, by rw [hln], HTE.out, HDE.out, HUN.out, fun k hk => .inl hk, HUL.out⟩, HFE.out⟩

set_option maxHeartbeats 4000000 in
theorem doesA_any (F : Nat → Prop) (tb : Nat) (T : List Tx) (v : Value) (n : Int) (s : Nat) (w : World) (ht : Sta w F tb T) (hd : DocT w 0 v (docA 0 T)) (hv : ∀ g, v.ownBlock = some g → ¬ F g) (hlen : T.length < 4000000000000) (hn1 : -9223372036854775808 ≤ n) (hn2 : n < 9223372036854775808) :
    Calls Try.prog 9 #[ptr1 tb, tvD v T.length, .agg #[.int .i64 3, .int .i64 n, .int .u64 (s : Nat)]] w fun e w' => (∃ u F', e = .returned (.tuple #[tvD u ((turnT T n mayU 4611686018427387906).1).length, .bool true]) ∧ Sta w' F' tb ((turnT T n mayU 4611686018427387906).1) ∧ DocT w' 0 u (docA 0 ((turnT T n mayU 4611686018427387906).1)) ∧ (∀ g, u.ownBlock = some g → ¬ F' g) ∧ (∀ k, F' k → F k ∨ w.heap.size ≤ k) ∧ ∀ g, u.ownBlock = some g → v.ownBlock = some g ∨ w.heap.size ≤ g) ∧ Frm w w' F := by
  have HTL : Hid (((turnT T n mayU 4611686018427387906).1).length = T.length) := turnT_len _ _ _ _
  obtain ⟨p, c, rfl, _⟩ := hd.rd
  have HDL : Hid ((docA 0 T).length < 5000000000000) := Nat.lt_of_le_of_lt (docA_len T 0) (by omega)
  have HLN : Hid (T.length < 4000000000000) := hlen
  have HN : Hid (-9223372036854775808 ≤ n ∧ n < 9223372036854775808) := ⟨hn1, hn2⟩
  have HGON : Hid (∀ x ∈ T, x.gone = true → decd x.wd = true) := by
    obtain ⟨_, _, _, _, hx⟩ := ht
    exact hx.gon
  have HFL : Hid (∀ k, F k → k < w.heap.size) := fun k hk => by
    obtain ⟨mb, ov, B, O, hh⟩ := ht
    exact hh.flt k hk
  have HV : Hid (∀ g, (Value.slice p (docA 0 T).length c).ownBlock = some g → ¬ F g) := hv
  have HVL : Hid (∀ g, (Value.slice p (docA 0 T).length c).ownBlock = some g → g < w.heap.size) := fun g hg => by
    obtain ⟨cur, h2⟩ := own_cells hd hg
    exact (Array.getElem?_eq_some_iff.1 h2).1
  have H0 : Hid (Sta w F tb T ∧ DocT w 0 (.slice p (docA 0 T).length c) (docA 0 T)) := ⟨ht, hd⟩
  clear ht hd hv hlen hn1 hn2
  go_enter Try.func9, Try.ntmps9
  have hs1 : (w.alloc (.cells #[.slice p (docA 0 T).length c, .int .i64 (T.length : Nat)] 27)).heap.size = w.heap.size + 1 := by simp
  have X1 : BoxT (w.alloc (.cells #[.slice p (docA 0 T).length c, .int .i64 (T.length : Nat)] 27)) w.heap.size #[.slice p (docA 0 T).length c, .int .i64 (T.length : Nat)] 27 := BoxT.new _ _ _
  have L1 : Below w.heap.size w (w.alloc (.cells #[.slice p (docA 0 T).length c, .int .i64 (T.length : Nat)] 27)) := (Below.refl _ _).alloc (Nat.le_refl _) _
  have hs2 : ((w.alloc (.cells #[.slice p (docA 0 T).length c, .int .i64 (T.length : Nat)] 27)).alloc (.cells #[.int .i64 3, .int .i64 n, .int .u64 (s : Nat)] 33)).heap.size = w.heap.size + 2 := by simp
  have X2 : BoxT ((w.alloc (.cells #[.slice p (docA 0 T).length c, .int .i64 (T.length : Nat)] 27)).alloc (.cells #[.int .i64 3, .int .i64 n, .int .u64 (s : Nat)] 33)) (w.heap.size + 1) #[.int .i64 3, .int .i64 n, .int .u64 (s : Nat)] 33 := by rw [← hs1]; exact BoxT.new _ _ _
  have L2 : Below (w.alloc (.cells #[.slice p (docA 0 T).length c, .int .i64 (T.length : Nat)] 27)).heap.size (w.alloc (.cells #[.slice p (docA 0 T).length c, .int .i64 (T.length : Nat)] 27)) ((w.alloc (.cells #[.slice p (docA 0 T).length c, .int .i64 (T.length : Nat)] 27)).alloc (.cells #[.int .i64 3, .int .i64 n, .int .u64 (s : Nat)] 33)) := (Below.refl _ _).alloc (Nat.le_refl _) _
  have X3 : BoxT (((w.alloc (.cells #[.slice p (docA 0 T).length c, .int .i64 (T.length : Nat)] 27)).alloc (.cells #[.int .i64 3, .int .i64 n, .int .u64 (s : Nat)] 33)).alloc (.cells #[.slice none 0 0, .int .i64 0] 27)) (w.heap.size + 2) #[.slice none 0 0, .int .i64 0] 27 := by rw [← hs2]; exact BoxT.new _ _ _
  have L3 : Below ((w.alloc (.cells #[.slice p (docA 0 T).length c, .int .i64 (T.length : Nat)] 27)).alloc (.cells #[.int .i64 3, .int .i64 n, .int .u64 (s : Nat)] 33)).heap.size ((w.alloc (.cells #[.slice p (docA 0 T).length c, .int .i64 (T.length : Nat)] 27)).alloc (.cells #[.int .i64 3, .int .i64 n, .int .u64 (s : Nat)] 33)) (((w.alloc (.cells #[.slice p (docA 0 T).length c, .int .i64 (T.length : Nat)] 27)).alloc (.cells #[.int .i64 3, .int .i64 n, .int .u64 (s : Nat)] 33)).alloc (.cells #[.slice none 0 0, .int .i64 0] 27)) := (Below.refl _ _).alloc (Nat.le_refl _) _
  have HM : Hid (BoxT (((w.alloc (.cells #[.slice p (docA 0 T).length c, .int .i64 (T.length : Nat)] 27)).alloc (.cells #[.int .i64 3, .int .i64 n, .int .u64 (s : Nat)] 33)).alloc (.cells #[.slice none 0 0, .int .i64 0] 27)) w.heap.size #[.slice p (docA 0 T).length c, .int .i64 (T.length : Nat)] 27) := (X1.on L2).on L3
  have HA : Hid (BoxT (((w.alloc (.cells #[.slice p (docA 0 T).length c, .int .i64 (T.length : Nat)] 27)).alloc (.cells #[.int .i64 3, .int .i64 n, .int .u64 (s : Nat)] 33)).alloc (.cells #[.slice none 0 0, .int .i64 0] 27)) (w.heap.size + 1) #[.int .i64 3, .int .i64 n, .int .u64 (s : Nat)] 33) := X2.on L3
  have HR : Hid (BoxT (((w.alloc (.cells #[.slice p (docA 0 T).length c, .int .i64 (T.length : Nat)] 27)).alloc (.cells #[.int .i64 3, .int .i64 n, .int .u64 (s : Nat)] 33)).alloc (.cells #[.slice none 0 0, .int .i64 0] 27)) (w.heap.size + 2) #[.slice none 0 0, .int .i64 0] 27) := X3
  have HL : Hid (Below w.heap.size w (((w.alloc (.cells #[.slice p (docA 0 T).length c, .int .i64 (T.length : Nat)] 27)).alloc (.cells #[.int .i64 3, .int .i64 n, .int .u64 (s : Nat)] 33)).alloc (.cells #[.slice none 0 0, .int .i64 0] 27))) := (L1.trans (L2.mono (by omega))).trans (L3.mono (by omega))
  have k0 : (((w.alloc (.cells #[.slice p (docA 0 T).length c, .int .i64 (T.length : Nat)] 27)).alloc (.cells #[.int .i64 3, .int .i64 n, .int .u64 (s : Nat)] 33)).alloc (.cells #[.slice none 0 0, .int .i64 0] 27)).cell? ⟨w.heap.size + 1, 0, none⟩ = some (.int .i64 3) := HA.out.cell
  have k1 : (((w.alloc (.cells #[.slice p (docA 0 T).length c, .int .i64 (T.length : Nat)] 27)).alloc (.cells #[.int .i64 3, .int .i64 n, .int .u64 (s : Nat)] 33)).alloc (.cells #[.slice none 0 0, .int .i64 0] 27)).cell? ⟨w.heap.size + 1, 1, none⟩ = some (.int .i64 n) := HA.out.cell
  have k2 : (((w.alloc (.cells #[.slice p (docA 0 T).length c, .int .i64 (T.length : Nat)] 27)).alloc (.cells #[.int .i64 3, .int .i64 n, .int .u64 (s : Nat)] 33)).alloc (.cells #[.slice none 0 0, .int .i64 0] 27)).cell? ⟨w.heap.size + 1, 2, none⟩ = some (.int .u64 (s : Nat)) := HA.out.cell
  have m0 : (((w.alloc (.cells #[.slice p (docA 0 T).length c, .int .i64 (T.length : Nat)] 27)).alloc (.cells #[.int .i64 3, .int .i64 n, .int .u64 (s : Nat)] 33)).alloc (.cells #[.slice none 0 0, .int .i64 0] 27)).cell? ⟨w.heap.size, 0, none⟩ = some (.slice p (docA 0 T).length c) := HM.out.cell
  have m1 : (((w.alloc (.cells #[.slice p (docA 0 T).length c, .int .i64 (T.length : Nat)] 27)).alloc (.cells #[.int .i64 3, .int .i64 n, .int .u64 (s : Nat)] 33)).alloc (.cells #[.slice none 0 0, .int .i64 0] 27)).cell? ⟨w.heap.size, 1, none⟩ = some (.int .i64 (T.length : Nat)) := HM.out.cell
  clear hs1 X1 L1 hs2 X2 L2 X3 L3
  go_wp2_with fail
  generalize ((w.alloc (.cells #[.slice p (docA 0 T).length c, .int .i64 (T.length : Nat)] 27)).alloc (.cells #[.int .i64 3, .int .i64 n, .int .u64 (s : Nat)] 33)).alloc (.cells #[.slice none 0 0, .int .i64 0] 27) = w3 at *
  have HT3 : Hid (Sta w3 F tb T) := H0.out.1.keep (Frm.of_below HL.out (F := fun _ => False)) (fun k _ hn => hn)
  have HD3 : Hid (DocT w3 0 (.slice p (docA 0 T).length c) (docA 0 T)) := owns_kept H0.out.2 HL.out
  have HZ3 : Hid (w.heap.size + 2 < w3.heap.size) := HR.out.lt
  have C1 : Hid (Calls _ _ _ _ _) := rabort_any (docA 0 T) _ T.length 0 n w3 HD3.out (Nat.le_of_lt HDL.out)
  rw [abort_doc] at C1
  clear k0
  refine C1.out.mono ?_
  rintro e w4 ⟨⟨u, rfl, hu, hul⟩, hb4⟩
  obtain ⟨q, l, d, rfl⟩ : ∃ q l c, u = .slice q l c := by
    obtain ⟨q, cq, eu, _⟩ := hu.rd
    exact ⟨_, _, _, eu⟩
  have HU4 : Hid (DocT w4 0 (.slice q l d) _) := hu
  have HUL : Hid (∀ g, (Value.slice q l d).ownBlock = some g → (Value.slice p (docA 0 T).length c).ownBlock = some g ∨ w.heap.size ≤ g) := fun g hg => (hul g hg).imp id (fun h => by have := HZ3.out; omega)
  have HUB : Hid (∀ g, (Value.slice q l d).ownBlock = some g → g ≠ w.heap.size + 2) := fun g hg e => by
    rcases hul g hg with h1 | h1
    · have := HVL.out g h1; omega
    · have := HZ3.out; omega
  have HUB0 : Hid (∀ g, (Value.slice q l d).ownBlock = some g → g ≠ w.heap.size) := fun g hg e => by
    rcases hul g hg with h1 | h1
    · have := HVL.out g h1; omega
    · have := HZ3.out; omega
  have HUN : Hid (∀ g, (Value.slice q l d).ownBlock = some g → ¬ F g) := fun g hg hf => by
    rcases hul g hg with h1 | h1
    · exact HV.out g h1 hf
    · have := HFL.out g hf; have := HZ3.out; omega
  have HM4 : Hid (BoxT w4 w.heap.size _ _) := HM.out.on hb4
  have HA4 : Hid (BoxT w4 (w.heap.size + 1) _ _) := HA.out.on hb4
  have HR4 : Hid (BoxT w4 (w.heap.size + 2) _ _) := HR.out.on hb4
  have HT4 : Hid (Sta w4 F tb T) := HT3.out.keep (Frm.of_below hb4 (F := fun _ => False)) (fun k _ hn => hn)
  have HL4 : Hid (Below w.heap.size w w4) := HL.out.trans (hb4.mono HL.out.size)
  have n0 : w4.cell? ⟨w.heap.size, 0, none⟩ = some (.slice p (docA 0 T).length c) := HM4.out.cell
  have n1 : w4.cell? ⟨w.heap.size, 1, none⟩ = some (.int .i64 (T.length : Nat)) := HM4.out.cell
  have o0 : w4.frozen? ⟨w.heap.size, 0, none⟩ = false := HM4.out.frozen
  have o1 : w4.frozen? ⟨w.heap.size, 1, none⟩ = false := HM4.out.frozen
  have hf5 : Frm w4 ((w4.setCell ⟨w.heap.size, 0, none⟩ (.slice q l d)).setCell ⟨w.heap.size, 1, none⟩ (.int .i64 (T.length : Nat))) (fun k => k = w.heap.size) := (frm_set w4 _ 0 _ (F := fun k => k = w.heap.size) rfl).trans (frm_set _ _ 1 _ (F := fun k => k = w.heap.size) rfl) (fun k hk => .inl hk)
  have HM5 : Hid (BoxT ((w4.setCell ⟨w.heap.size, 0, none⟩ (.slice q l d)).setCell ⟨w.heap.size, 1, none⟩ (.int .i64 (T.length : Nat))) w.heap.size #[.slice q l d, .int .i64 (T.length : Nat)] 27) := (HM4.out.set (i := 0) _).set (i := 1) _
  have HA5 : Hid (BoxT ((w4.setCell ⟨w.heap.size, 0, none⟩ (.slice q l d)).setCell ⟨w.heap.size, 1, none⟩ (.int .i64 (T.length : Nat))) (w.heap.size + 1) #[.int .i64 3, .int .i64 n, .int .u64 (s : Nat)] 33) := (hf5.block _ HA4.out.lt (by omega)).trans HA4.out
  have HR5 : Hid (BoxT ((w4.setCell ⟨w.heap.size, 0, none⟩ (.slice q l d)).setCell ⟨w.heap.size, 1, none⟩ (.int .i64 (T.length : Nat))) (w.heap.size + 2) #[.slice none 0 0, .int .i64 0] 27) := (hf5.block _ HR4.out.lt (by omega)).trans HR4.out
  have HT5 : Hid (Sta ((w4.setCell ⟨w.heap.size, 0, none⟩ (.slice q l d)).setCell ⟨w.heap.size, 1, none⟩ (.int .i64 (T.length : Nat))).drew F tb T) := HT4.out.keep hf5.drew (fun k hk e => by have := HFL.out _ hk; omega)
  have HD5 : Hid (DocT ((w4.setCell ⟨w.heap.size, 0, none⟩ (.slice q l d)).setCell ⟨w.heap.size, 1, none⟩ (.int .i64 (T.length : Nat))).drew 0 (.slice q l d) _) := HU4.out.block (fun g hg => hf5.block g (by obtain ⟨cur, h2⟩ := own_cells HU4.out hg; exact (Array.getElem?_eq_some_iff.1 h2).1) (HUB0.out g hg))
  have HF5 : Hid (Frm w ((w4.setCell ⟨w.heap.size, 0, none⟩ (.slice q l d)).setCell ⟨w.heap.size, 1, none⟩ (.int .i64 (T.length : Nat))).drew F) := ((Frm.of_below HL4.out (F := F)).trans hf5 (fun k hk => .inr (by omega))).drew
  clear hu hul hb4 hf5 C1 HM HA HR HL HT3 HD3 HM4 HA4 HR4 HT4 HL4 HU4 H0 k1 k2 m0 m1
  go_wp2_with fail
  generalize hw5 : ((w4.setCell ⟨w.heap.size, 0, none⟩ (.slice q l d)).setCell ⟨w.heap.size, 1, none⟩ (.int .i64 (T.length : Nat))) = w5 at *
  clear hw5 n0 n1 o0 o1
  have i1 : w5.cell? ⟨w.heap.size + 1, 1, none⟩ = some (.int .i64 n) := HA5.out.cell
  have i2 : w5.cell? ⟨w.heap.size + 1, 2, none⟩ = some (.int .u64 (s : Nat)) := HA5.out.cell
  have i3 : w5.cell? ⟨w.heap.size, 0, none⟩ = some (.slice q l d) := HM5.out.cell
  have i4 : w5.cell? ⟨w.heap.size, 1, none⟩ = some (.int .i64 (T.length : Nat)) := HM5.out.cell
  refine wp_region_any (by kernel_rfl) ?_
  change wpAny _ _ _ _ _ _ _ (World.drew _)
  refine anyN_take (v := ?_) 1 rfl (by kernel_rfl) (by kernel_rfl) (by kernel_rfl) (fun _ _ _ h => h) (Or.inl ⟨by rfl, ?_⟩) ?_
  rotate_left
  focus
    intro w9
    go_simp
    try with_reducible rfl
  try simp only [Act.put, List.setIfInBounds_toArray, List.set_cons_zero, List.set_cons_succ]
  refine anyN_take (v := ?_) 2 rfl (by kernel_rfl) (by kernel_rfl) (by kernel_rfl) (fun _ _ _ h => h) (Or.inl ⟨by rfl, ?_⟩) ?_
  rotate_left
  focus
    intro w9
    go_simp
    try with_reducible rfl
  try simp only [Act.put, List.setIfInBounds_toArray, List.set_cons_zero, List.set_cons_succ]
  refine anyN_take (v := ?_) 5 rfl (by kernel_rfl) (by kernel_rfl) (by kernel_rfl) (fun _ _ _ h => h) (Or.inl ⟨by rfl, ?_⟩) ?_
  rotate_left
  focus
    intro w9
    go_simp
    try with_reducible rfl
  try simp only [Act.put, List.setIfInBounds_toArray, List.set_cons_zero, List.set_cons_succ]
  refine wpAny_ready (rs := [0, 3]) (by kernel_rfl) (by simp) ?_
  refine anyN_cons 0 rfl (by rfl) (fun K hK => ?_) (anyN_cons 3 rfl (by rfl) (fun K hK => ?_) (AllReady.nil))
  · go_simp
    refine hK.out _ _ ?_
    clear hK K
    try simp only [Act.put, List.setIfInBounds_toArray, List.set_cons_zero, List.set_cons_succ]
    refine wpAny_ready (rs := [3]) (by kernel_rfl) (by simp) ?_
    refine anyN_cons 3 rfl (by rfl) (fun K hK => ?_) AllReady.nil
    go_simp
    refine hK.out _ _ ?_
    clear hK K
    try simp only [Act.put, List.setIfInBounds_toArray, List.set_cons_zero, List.set_cons_succ]
    refine wpAny_ready (rs := [4]) (by kernel_rfl) (by simp) ?_
    refine anyN_cons 4 rfl (by rfl) (fun K hK => ?_) AllReady.nil
    go_simp
    refine (abort_any F tb T n _ HT5.out HN.out.1 HN.out.2).mono ?_
    rintro e w6 ⟨rfl, ht6, hf6⟩
    dsimp only
    have HT6 : Hid (Sta w6 F tb _) := ht6
    have hkp : ∀ k, ¬ F k → k < w5.heap.size → w6.heap[k]? = w5.heap[k]? := fun k h1 h2 => hf6.block k h2 h1
    have HM6 : Hid (BoxT w6 w.heap.size #[.slice q l d, .int .i64 (T.length : Nat)] 27) := (hkp _ (fun hf => by have := HFL.out _ hf; omega) HM5.out.lt).trans HM5.out
    have HA6 : Hid (BoxT w6 (w.heap.size + 1) _ 33) := (hkp _ (fun hf => by have := HFL.out _ hf; omega) HA5.out.lt).trans HA5.out
    have HR6 : Hid (BoxT w6 (w.heap.size + 2) #[.slice none 0 0, .int .i64 0] 27) := (hkp _ (fun hf => by have := HFL.out _ hf; omega) HR5.out.lt).trans HR5.out
    have HD6 : Hid (DocT w6 0 (.slice q l d) _) := HD5.out.block (fun g hg => hkp g (HUN.out g hg) (by obtain ⟨cur, h2⟩ := own_cells HD5.out hg; exact (Array.getElem?_eq_some_iff.1 h2).1))
    have HF6 : Hid (Frm w w6 F) := HF5.out.trans hf6 (fun k hk => .inl hk)
    have e0 : w6.cell? ⟨w.heap.size, 0, none⟩ = some (.slice q l d) := HM6.out.cell
    have e1 : w6.cell? ⟨w.heap.size, 1, none⟩ = some (.int .i64 (T.length : Nat)) := HM6.out.cell
    have g0 : w6.cell? ⟨w.heap.size + 2, 0, none⟩ = some (.slice none 0 0) := HR6.out.cell
    have g1 : w6.cell? ⟨w.heap.size + 2, 1, none⟩ = some (.int .i64 0) := HR6.out.cell
    have y0 : w6.frozen? ⟨w.heap.size + 2, 0, none⟩ = false := HR6.out.frozen
    have y1 : w6.frozen? ⟨w.heap.size + 2, 1, none⟩ = false := HR6.out.frozen
    clear ht6 hf6 hkp
    refine hK.out _ _ ?_
    clear hK K
    try simp only [Act.put, List.setIfInBounds_toArray, List.set_cons_zero, List.set_cons_succ]
    refine anyN_take (v := ?_) 6 rfl (by kernel_rfl) (by kernel_rfl) (by kernel_rfl) (fun _ _ _ h => h) (Or.inl ⟨by rfl, ?_⟩) ?_
    rotate_left
    focus
      intro w9
      go_simp
      try with_reducible rfl
    try simp only [Act.put, List.setIfInBounds_toArray, List.set_cons_zero, List.set_cons_succ]
    refine wpAny_ready (rs := [7]) (by kernel_rfl) (by simp) ?_
    refine anyN_cons 7 rfl (by rfl) (fun K hK => ?_) AllReady.nil
    go_simp
    refine hK.out _ _ ?_
    clear hK K
    try simp only [Act.put, List.setIfInBounds_toArray, List.set_cons_zero, List.set_cons_succ]
    refine wpAny_ready (rs := [8]) (by kernel_rfl) (by simp) ?_
    refine anyN_cons 8 rfl (by rfl) (fun K hK => ?_) AllReady.nil
    go_simp
    refine hK.out _ _ ?_
    clear hK K
    try simp only [Act.put, List.setIfInBounds_toArray, List.set_cons_zero, List.set_cons_succ]
    refine wpAny_done (by kernel_rfl) ?_ _
    have hfz : Frm w6 ((w6.setCell ⟨w.heap.size + 2, 0, none⟩ (.slice q l d)).setCell ⟨w.heap.size + 2, 1, none⟩ (.int .i64 (T.length : Nat))) (fun k => k = w.heap.size + 2) := (frm_set w6 _ 0 _ (F := fun k => k = w.heap.size + 2) rfl).trans (frm_set _ _ 1 _ (F := fun k => k = w.heap.size + 2) rfl) (fun k hk => .inl hk)
    have HBE : Hid (BoxT ((w6.setCell ⟨w.heap.size + 2, 0, none⟩ (.slice q l d)).setCell ⟨w.heap.size + 2, 1, none⟩ (.int .i64 (T.length : Nat))) (w.heap.size + 2) #[.slice q l d, .int .i64 (T.length : Nat)] 27) := (HR6.out.set (i := 0) _).set (i := 1) _
    have q0 : ((w6.setCell ⟨w.heap.size + 2, 0, none⟩ (.slice q l d)).setCell ⟨w.heap.size + 2, 1, none⟩ (.int .i64 (T.length : Nat))).cell? ⟨w.heap.size + 2, 0, none⟩ = some (.slice q l d) := HBE.out.cell
    have q1 : ((w6.setCell ⟨w.heap.size + 2, 0, none⟩ (.slice q l d)).setCell ⟨w.heap.size + 2, 1, none⟩ (.int .i64 (T.length : Nat))).cell? ⟨w.heap.size + 2, 1, none⟩ = some (.int .i64 (T.length : Nat)) := HBE.out.cell
    have HTE : Hid (Sta ((w6.setCell ⟨w.heap.size + 2, 0, none⟩ (.slice q l d)).setCell ⟨w.heap.size + 2, 1, none⟩ (.int .i64 (T.length : Nat))) F tb _) := HT6.out.keep hfz (fun k hk e => by have := HFL.out _ hk; omega)
    have HDE : Hid (DocT ((w6.setCell ⟨w.heap.size + 2, 0, none⟩ (.slice q l d)).setCell ⟨w.heap.size + 2, 1, none⟩ (.int .i64 (T.length : Nat))) 0 (.slice q l d) _) := HD6.out.block (fun g hg => hfz.block g (by obtain ⟨cur, h2⟩ := own_cells HD6.out hg; exact (Array.getElem?_eq_some_iff.1 h2).1) (HUB.out g hg))
    have HFE : Hid (Frm w ((w6.setCell ⟨w.heap.size + 2, 0, none⟩ (.slice q l d)).setCell ⟨w.heap.size + 2, 1, none⟩ (.int .i64 (T.length : Nat))) F) := HF6.out.trans hfz (fun k hk => .inr (by omega))
    clear hfz
    generalize ((w6.setCell ⟨w.heap.size + 2, 0, none⟩ (.slice q l d)).setCell ⟨w.heap.size + 2, 1, none⟩ (.int .i64 (T.length : Nat))) = wz at *
    go_wp2_with fail
    have hln := HTL.out
    refine bodyPost_ret (v := .tuple #[tvD (.slice q l d) T.length, .bool true]) (by simp [results, Try.results9, go_sem, q0, q1]) rfl ?_
    exact ⟨⟨_, F, by rw [hln], HTE.out, HDE.out, HUN.out, fun k hk => .inl hk, HUL.out⟩, HFE.out⟩
  · go_simp
    refine hK.out _ _ ?_
    clear hK K
    try simp only [Act.put, List.setIfInBounds_toArray, List.set_cons_zero, List.set_cons_succ]
    refine wpAny_ready (rs := [0, 4]) (by kernel_rfl) (by simp) ?_
    refine anyN_cons 0 rfl (by rfl) (fun K hK => ?_) (anyN_cons 4 rfl (by rfl) (fun K hK => ?_) (AllReady.nil))
    · go_simp
      refine hK.out _ _ ?_
      clear hK K
      try simp only [Act.put, List.setIfInBounds_toArray, List.set_cons_zero, List.set_cons_succ]
      refine wpAny_ready (rs := [4]) (by kernel_rfl) (by simp) ?_
      refine anyN_cons 4 rfl (by rfl) (fun K hK => ?_) AllReady.nil
      go_simp
      refine (abort_any F tb T n _ HT5.out HN.out.1 HN.out.2).mono ?_
      rintro e w6 ⟨rfl, ht6, hf6⟩
      dsimp only
      have HT6 : Hid (Sta w6 F tb _) := ht6
      have hkp : ∀ k, ¬ F k → k < w5.heap.size → w6.heap[k]? = w5.heap[k]? := fun k h1 h2 => hf6.block k h2 h1
      have HM6 : Hid (BoxT w6 w.heap.size #[.slice q l d, .int .i64 (T.length : Nat)] 27) := (hkp _ (fun hf => by have := HFL.out _ hf; omega) HM5.out.lt).trans HM5.out
      have HA6 : Hid (BoxT w6 (w.heap.size + 1) _ 33) := (hkp _ (fun hf => by have := HFL.out _ hf; omega) HA5.out.lt).trans HA5.out
      have HR6 : Hid (BoxT w6 (w.heap.size + 2) #[.slice none 0 0, .int .i64 0] 27) := (hkp _ (fun hf => by have := HFL.out _ hf; omega) HR5.out.lt).trans HR5.out
      have HD6 : Hid (DocT w6 0 (.slice q l d) _) := HD5.out.block (fun g hg => hkp g (HUN.out g hg) (by obtain ⟨cur, h2⟩ := own_cells HD5.out hg; exact (Array.getElem?_eq_some_iff.1 h2).1))
      have HF6 : Hid (Frm w w6 F) := HF5.out.trans hf6 (fun k hk => .inl hk)
      have e0 : w6.cell? ⟨w.heap.size, 0, none⟩ = some (.slice q l d) := HM6.out.cell
      have e1 : w6.cell? ⟨w.heap.size, 1, none⟩ = some (.int .i64 (T.length : Nat)) := HM6.out.cell
      have g0 : w6.cell? ⟨w.heap.size + 2, 0, none⟩ = some (.slice none 0 0) := HR6.out.cell
      have g1 : w6.cell? ⟨w.heap.size + 2, 1, none⟩ = some (.int .i64 0) := HR6.out.cell
      have y0 : w6.frozen? ⟨w.heap.size + 2, 0, none⟩ = false := HR6.out.frozen
      have y1 : w6.frozen? ⟨w.heap.size + 2, 1, none⟩ = false := HR6.out.frozen
      clear ht6 hf6 hkp
      refine hK.out _ _ ?_
      clear hK K
      try simp only [Act.put, List.setIfInBounds_toArray, List.set_cons_zero, List.set_cons_succ]
      refine anyN_take (v := ?_) 6 rfl (by kernel_rfl) (by kernel_rfl) (by kernel_rfl) (fun _ _ _ h => h) (Or.inl ⟨by rfl, ?_⟩) ?_
      rotate_left
      focus
        intro w9
        go_simp
        try with_reducible rfl
      try simp only [Act.put, List.setIfInBounds_toArray, List.set_cons_zero, List.set_cons_succ]
      refine wpAny_ready (rs := [7]) (by kernel_rfl) (by simp) ?_
      refine anyN_cons 7 rfl (by rfl) (fun K hK => ?_) AllReady.nil
      go_simp
      refine hK.out _ _ ?_
      clear hK K
      try simp only [Act.put, List.setIfInBounds_toArray, List.set_cons_zero, List.set_cons_succ]
      refine wpAny_ready (rs := [8]) (by kernel_rfl) (by simp) ?_
      refine anyN_cons 8 rfl (by rfl) (fun K hK => ?_) AllReady.nil
      go_simp
      refine hK.out _ _ ?_
      clear hK K
      try simp only [Act.put, List.setIfInBounds_toArray, List.set_cons_zero, List.set_cons_succ]
      refine wpAny_done (by kernel_rfl) ?_ _
      have hfz : Frm w6 ((w6.setCell ⟨w.heap.size + 2, 0, none⟩ (.slice q l d)).setCell ⟨w.heap.size + 2, 1, none⟩ (.int .i64 (T.length : Nat))) (fun k => k = w.heap.size + 2) := (frm_set w6 _ 0 _ (F := fun k => k = w.heap.size + 2) rfl).trans (frm_set _ _ 1 _ (F := fun k => k = w.heap.size + 2) rfl) (fun k hk => .inl hk)
      have HBE : Hid (BoxT ((w6.setCell ⟨w.heap.size + 2, 0, none⟩ (.slice q l d)).setCell ⟨w.heap.size + 2, 1, none⟩ (.int .i64 (T.length : Nat))) (w.heap.size + 2) #[.slice q l d, .int .i64 (T.length : Nat)] 27) := (HR6.out.set (i := 0) _).set (i := 1) _
      have q0 : ((w6.setCell ⟨w.heap.size + 2, 0, none⟩ (.slice q l d)).setCell ⟨w.heap.size + 2, 1, none⟩ (.int .i64 (T.length : Nat))).cell? ⟨w.heap.size + 2, 0, none⟩ = some (.slice q l d) := HBE.out.cell
      have q1 : ((w6.setCell ⟨w.heap.size + 2, 0, none⟩ (.slice q l d)).setCell ⟨w.heap.size + 2, 1, none⟩ (.int .i64 (T.length : Nat))).cell? ⟨w.heap.size + 2, 1, none⟩ = some (.int .i64 (T.length : Nat)) := HBE.out.cell
      have HTE : Hid (Sta ((w6.setCell ⟨w.heap.size + 2, 0, none⟩ (.slice q l d)).setCell ⟨w.heap.size + 2, 1, none⟩ (.int .i64 (T.length : Nat))) F tb _) := HT6.out.keep hfz (fun k hk e => by have := HFL.out _ hk; omega)
      have HDE : Hid (DocT ((w6.setCell ⟨w.heap.size + 2, 0, none⟩ (.slice q l d)).setCell ⟨w.heap.size + 2, 1, none⟩ (.int .i64 (T.length : Nat))) 0 (.slice q l d) _) := HD6.out.block (fun g hg => hfz.block g (by obtain ⟨cur, h2⟩ := own_cells HD6.out hg; exact (Array.getElem?_eq_some_iff.1 h2).1) (HUB.out g hg))
      have HFE : Hid (Frm w ((w6.setCell ⟨w.heap.size + 2, 0, none⟩ (.slice q l d)).setCell ⟨w.heap.size + 2, 1, none⟩ (.int .i64 (T.length : Nat))) F) := HF6.out.trans hfz (fun k hk => .inr (by omega))
      clear hfz
      generalize ((w6.setCell ⟨w.heap.size + 2, 0, none⟩ (.slice q l d)).setCell ⟨w.heap.size + 2, 1, none⟩ (.int .i64 (T.length : Nat))) = wz at *
      go_wp2_with fail
      have hln := HTL.out
      refine bodyPost_ret (v := .tuple #[tvD (.slice q l d) T.length, .bool true]) (by simp [results, Try.results9, go_sem, q0, q1]) rfl ?_
      exact ⟨⟨_, F, by rw [hln], HTE.out, HDE.out, HUN.out, fun k hk => .inl hk, HUL.out⟩, HFE.out⟩
    · go_simp
      refine (abort_any F tb T n _ HT5.out HN.out.1 HN.out.2).mono ?_
      rintro e w6 ⟨rfl, ht6, hf6⟩
      dsimp only
      have HT6 : Hid (Sta w6 F tb _) := ht6
      have hkp : ∀ k, ¬ F k → k < w5.heap.size → w6.heap[k]? = w5.heap[k]? := fun k h1 h2 => hf6.block k h2 h1
      have HM6 : Hid (BoxT w6 w.heap.size #[.slice q l d, .int .i64 (T.length : Nat)] 27) := (hkp _ (fun hf => by have := HFL.out _ hf; omega) HM5.out.lt).trans HM5.out
      have HA6 : Hid (BoxT w6 (w.heap.size + 1) _ 33) := (hkp _ (fun hf => by have := HFL.out _ hf; omega) HA5.out.lt).trans HA5.out
      have HR6 : Hid (BoxT w6 (w.heap.size + 2) #[.slice none 0 0, .int .i64 0] 27) := (hkp _ (fun hf => by have := HFL.out _ hf; omega) HR5.out.lt).trans HR5.out
      have HD6 : Hid (DocT w6 0 (.slice q l d) _) := HD5.out.block (fun g hg => hkp g (HUN.out g hg) (by obtain ⟨cur, h2⟩ := own_cells HD5.out hg; exact (Array.getElem?_eq_some_iff.1 h2).1))
      have HF6 : Hid (Frm w w6 F) := HF5.out.trans hf6 (fun k hk => .inl hk)
      have e0 : w6.cell? ⟨w.heap.size, 0, none⟩ = some (.slice q l d) := HM6.out.cell
      have e1 : w6.cell? ⟨w.heap.size, 1, none⟩ = some (.int .i64 (T.length : Nat)) := HM6.out.cell
      have g0 : w6.cell? ⟨w.heap.size + 2, 0, none⟩ = some (.slice none 0 0) := HR6.out.cell
      have g1 : w6.cell? ⟨w.heap.size + 2, 1, none⟩ = some (.int .i64 0) := HR6.out.cell
      have y0 : w6.frozen? ⟨w.heap.size + 2, 0, none⟩ = false := HR6.out.frozen
      have y1 : w6.frozen? ⟨w.heap.size + 2, 1, none⟩ = false := HR6.out.frozen
      clear ht6 hf6 hkp
      refine hK.out _ _ ?_
      clear hK K
      try simp only [Act.put, List.setIfInBounds_toArray, List.set_cons_zero, List.set_cons_succ]
      refine anyN_take (v := ?_) 6 rfl (by kernel_rfl) (by kernel_rfl) (by kernel_rfl) (fun _ _ _ h => h) (Or.inl ⟨by rfl, ?_⟩) ?_
      rotate_left
      focus
        intro w9
        go_simp
        try with_reducible rfl
      try simp only [Act.put, List.setIfInBounds_toArray, List.set_cons_zero, List.set_cons_succ]
      refine wpAny_ready (rs := [0]) (by kernel_rfl) (by simp) ?_
      refine anyN_cons 0 rfl (by rfl) (fun K hK => ?_) AllReady.nil
      go_simp
      refine hK.out _ _ ?_
      clear hK K
      try simp only [Act.put, List.setIfInBounds_toArray, List.set_cons_zero, List.set_cons_succ]
      refine wpAny_ready (rs := [7]) (by kernel_rfl) (by simp) ?_
      refine anyN_cons 7 rfl (by rfl) (fun K hK => ?_) AllReady.nil
      go_simp
      refine hK.out _ _ ?_
      clear hK K
      try simp only [Act.put, List.setIfInBounds_toArray, List.set_cons_zero, List.set_cons_succ]
      refine wpAny_ready (rs := [8]) (by kernel_rfl) (by simp) ?_
      refine anyN_cons 8 rfl (by rfl) (fun K hK => ?_) AllReady.nil
      go_simp
      refine hK.out _ _ ?_
      clear hK K
      try simp only [Act.put, List.setIfInBounds_toArray, List.set_cons_zero, List.set_cons_succ]
      refine wpAny_done (by kernel_rfl) ?_ _
      have hfz : Frm w6 ((w6.setCell ⟨w.heap.size + 2, 0, none⟩ (.slice q l d)).setCell ⟨w.heap.size + 2, 1, none⟩ (.int .i64 (T.length : Nat))) (fun k => k = w.heap.size + 2) := (frm_set w6 _ 0 _ (F := fun k => k = w.heap.size + 2) rfl).trans (frm_set _ _ 1 _ (F := fun k => k = w.heap.size + 2) rfl) (fun k hk => .inl hk)
      have HBE : Hid (BoxT ((w6.setCell ⟨w.heap.size + 2, 0, none⟩ (.slice q l d)).setCell ⟨w.heap.size + 2, 1, none⟩ (.int .i64 (T.length : Nat))) (w.heap.size + 2) #[.slice q l d, .int .i64 (T.length : Nat)] 27) := (HR6.out.set (i := 0) _).set (i := 1) _
      have q0 : ((w6.setCell ⟨w.heap.size + 2, 0, none⟩ (.slice q l d)).setCell ⟨w.heap.size + 2, 1, none⟩ (.int .i64 (T.length : Nat))).cell? ⟨w.heap.size + 2, 0, none⟩ = some (.slice q l d) := HBE.out.cell
      have q1 : ((w6.setCell ⟨w.heap.size + 2, 0, none⟩ (.slice q l d)).setCell ⟨w.heap.size + 2, 1, none⟩ (.int .i64 (T.length : Nat))).cell? ⟨w.heap.size + 2, 1, none⟩ = some (.int .i64 (T.length : Nat)) := HBE.out.cell
      have HTE : Hid (Sta ((w6.setCell ⟨w.heap.size + 2, 0, none⟩ (.slice q l d)).setCell ⟨w.heap.size + 2, 1, none⟩ (.int .i64 (T.length : Nat))) F tb _) := HT6.out.keep hfz (fun k hk e => by have := HFL.out _ hk; omega)
      have HDE : Hid (DocT ((w6.setCell ⟨w.heap.size + 2, 0, none⟩ (.slice q l d)).setCell ⟨w.heap.size + 2, 1, none⟩ (.int .i64 (T.length : Nat))) 0 (.slice q l d) _) := HD6.out.block (fun g hg => hfz.block g (by obtain ⟨cur, h2⟩ := own_cells HD6.out hg; exact (Array.getElem?_eq_some_iff.1 h2).1) (HUB.out g hg))
      have HFE : Hid (Frm w ((w6.setCell ⟨w.heap.size + 2, 0, none⟩ (.slice q l d)).setCell ⟨w.heap.size + 2, 1, none⟩ (.int .i64 (T.length : Nat))) F) := HF6.out.trans hfz (fun k hk => .inr (by omega))
      clear hfz
      generalize ((w6.setCell ⟨w.heap.size + 2, 0, none⟩ (.slice q l d)).setCell ⟨w.heap.size + 2, 1, none⟩ (.int .i64 (T.length : Nat))) = wz at *
      go_wp2_with fail
      have hln := HTL.out
      refine bodyPost_ret (v := .tuple #[tvD (.slice q l d) T.length, .bool true]) (by simp [results, Try.results9, go_sem, q0, q1]) rfl ?_
      exact ⟨⟨_, F, by rw [hln], HTE.out, HDE.out, HUN.out, fun k hk => .inl hk, HUL.out⟩, HFE.out⟩

set_option maxHeartbeats 4000000 in
theorem doesF_any (F : Nat → Prop) (tb : Nat) (T : List Tx) (v : Value) (n : Int) (s : Nat) (w : World) (ht : Sta w F tb T) (hd : DocT w 0 v (docA 0 T)) (hv : ∀ g, v.ownBlock = some g → ¬ F g) (hlen : T.length < 4000000000000) (hn1 : -9223372036854775808 ≤ n) (hn2 : n < 9223372036854775808) :
    Calls Try.prog 9 #[ptr1 tb, tvD v T.length, .agg #[.int .i64 4, .int .i64 n, .int .u64 (s : Nat)]] w fun e w' => (∃ u F', e = .returned (.tuple #[tvD u ((forgT T n).1).length, .bool true]) ∧ Sta w' F' tb ((forgT T n).1) ∧ DocT w' 0 u (docA 0 ((forgT T n).1)) ∧ (∀ g, u.ownBlock = some g → ¬ F' g) ∧ (∀ k, F' k → F k ∨ w.heap.size ≤ k) ∧ ∀ g, u.ownBlock = some g → v.ownBlock = some g ∨ w.heap.size ≤ g) ∧ Frm w w' F := by
  have HTL : Hid (((forgT T n).1).length = T.length) := forgT_len _ _
  obtain ⟨p, c, rfl, _⟩ := hd.rd
  have HDL : Hid ((docA 0 T).length < 5000000000000) := Nat.lt_of_le_of_lt (docA_len T 0) (by omega)
  have HLN : Hid (T.length < 4000000000000) := hlen
  have HN : Hid (-9223372036854775808 ≤ n ∧ n < 9223372036854775808) := ⟨hn1, hn2⟩
  have HGON : Hid (∀ x ∈ T, x.gone = true → decd x.wd = true) := by
    obtain ⟨_, _, _, _, hx⟩ := ht
    exact hx.gon
  have HFL : Hid (∀ k, F k → k < w.heap.size) := fun k hk => by
    obtain ⟨mb, ov, B, O, hh⟩ := ht
    exact hh.flt k hk
  have HV : Hid (∀ g, (Value.slice p (docA 0 T).length c).ownBlock = some g → ¬ F g) := hv
  have HVL : Hid (∀ g, (Value.slice p (docA 0 T).length c).ownBlock = some g → g < w.heap.size) := fun g hg => by
    obtain ⟨cur, h2⟩ := own_cells hd hg
    exact (Array.getElem?_eq_some_iff.1 h2).1
  have H0 : Hid (Sta w F tb T ∧ DocT w 0 (.slice p (docA 0 T).length c) (docA 0 T)) := ⟨ht, hd⟩
  clear ht hd hv hlen hn1 hn2
  go_enter Try.func9, Try.ntmps9
  have hs1 : (w.alloc (.cells #[.slice p (docA 0 T).length c, .int .i64 (T.length : Nat)] 27)).heap.size = w.heap.size + 1 := by simp
  have X1 : BoxT (w.alloc (.cells #[.slice p (docA 0 T).length c, .int .i64 (T.length : Nat)] 27)) w.heap.size #[.slice p (docA 0 T).length c, .int .i64 (T.length : Nat)] 27 := BoxT.new _ _ _
  have L1 : Below w.heap.size w (w.alloc (.cells #[.slice p (docA 0 T).length c, .int .i64 (T.length : Nat)] 27)) := (Below.refl _ _).alloc (Nat.le_refl _) _
  have hs2 : ((w.alloc (.cells #[.slice p (docA 0 T).length c, .int .i64 (T.length : Nat)] 27)).alloc (.cells #[.int .i64 4, .int .i64 n, .int .u64 (s : Nat)] 33)).heap.size = w.heap.size + 2 := by simp
  have X2 : BoxT ((w.alloc (.cells #[.slice p (docA 0 T).length c, .int .i64 (T.length : Nat)] 27)).alloc (.cells #[.int .i64 4, .int .i64 n, .int .u64 (s : Nat)] 33)) (w.heap.size + 1) #[.int .i64 4, .int .i64 n, .int .u64 (s : Nat)] 33 := by rw [← hs1]; exact BoxT.new _ _ _
  have L2 : Below (w.alloc (.cells #[.slice p (docA 0 T).length c, .int .i64 (T.length : Nat)] 27)).heap.size (w.alloc (.cells #[.slice p (docA 0 T).length c, .int .i64 (T.length : Nat)] 27)) ((w.alloc (.cells #[.slice p (docA 0 T).length c, .int .i64 (T.length : Nat)] 27)).alloc (.cells #[.int .i64 4, .int .i64 n, .int .u64 (s : Nat)] 33)) := (Below.refl _ _).alloc (Nat.le_refl _) _
  have X3 : BoxT (((w.alloc (.cells #[.slice p (docA 0 T).length c, .int .i64 (T.length : Nat)] 27)).alloc (.cells #[.int .i64 4, .int .i64 n, .int .u64 (s : Nat)] 33)).alloc (.cells #[.slice none 0 0, .int .i64 0] 27)) (w.heap.size + 2) #[.slice none 0 0, .int .i64 0] 27 := by rw [← hs2]; exact BoxT.new _ _ _
  have L3 : Below ((w.alloc (.cells #[.slice p (docA 0 T).length c, .int .i64 (T.length : Nat)] 27)).alloc (.cells #[.int .i64 4, .int .i64 n, .int .u64 (s : Nat)] 33)).heap.size ((w.alloc (.cells #[.slice p (docA 0 T).length c, .int .i64 (T.length : Nat)] 27)).alloc (.cells #[.int .i64 4, .int .i64 n, .int .u64 (s : Nat)] 33)) (((w.alloc (.cells #[.slice p (docA 0 T).length c, .int .i64 (T.length : Nat)] 27)).alloc (.cells #[.int .i64 4, .int .i64 n, .int .u64 (s : Nat)] 33)).alloc (.cells #[.slice none 0 0, .int .i64 0] 27)) := (Below.refl _ _).alloc (Nat.le_refl _) _
  have HM : Hid (BoxT (((w.alloc (.cells #[.slice p (docA 0 T).length c, .int .i64 (T.length : Nat)] 27)).alloc (.cells #[.int .i64 4, .int .i64 n, .int .u64 (s : Nat)] 33)).alloc (.cells #[.slice none 0 0, .int .i64 0] 27)) w.heap.size #[.slice p (docA 0 T).length c, .int .i64 (T.length : Nat)] 27) := (X1.on L2).on L3
  have HA : Hid (BoxT (((w.alloc (.cells #[.slice p (docA 0 T).length c, .int .i64 (T.length : Nat)] 27)).alloc (.cells #[.int .i64 4, .int .i64 n, .int .u64 (s : Nat)] 33)).alloc (.cells #[.slice none 0 0, .int .i64 0] 27)) (w.heap.size + 1) #[.int .i64 4, .int .i64 n, .int .u64 (s : Nat)] 33) := X2.on L3
  have HR : Hid (BoxT (((w.alloc (.cells #[.slice p (docA 0 T).length c, .int .i64 (T.length : Nat)] 27)).alloc (.cells #[.int .i64 4, .int .i64 n, .int .u64 (s : Nat)] 33)).alloc (.cells #[.slice none 0 0, .int .i64 0] 27)) (w.heap.size + 2) #[.slice none 0 0, .int .i64 0] 27) := X3
  have HL : Hid (Below w.heap.size w (((w.alloc (.cells #[.slice p (docA 0 T).length c, .int .i64 (T.length : Nat)] 27)).alloc (.cells #[.int .i64 4, .int .i64 n, .int .u64 (s : Nat)] 33)).alloc (.cells #[.slice none 0 0, .int .i64 0] 27))) := (L1.trans (L2.mono (by omega))).trans (L3.mono (by omega))
  have k0 : (((w.alloc (.cells #[.slice p (docA 0 T).length c, .int .i64 (T.length : Nat)] 27)).alloc (.cells #[.int .i64 4, .int .i64 n, .int .u64 (s : Nat)] 33)).alloc (.cells #[.slice none 0 0, .int .i64 0] 27)).cell? ⟨w.heap.size + 1, 0, none⟩ = some (.int .i64 4) := HA.out.cell
  have k1 : (((w.alloc (.cells #[.slice p (docA 0 T).length c, .int .i64 (T.length : Nat)] 27)).alloc (.cells #[.int .i64 4, .int .i64 n, .int .u64 (s : Nat)] 33)).alloc (.cells #[.slice none 0 0, .int .i64 0] 27)).cell? ⟨w.heap.size + 1, 1, none⟩ = some (.int .i64 n) := HA.out.cell
  have k2 : (((w.alloc (.cells #[.slice p (docA 0 T).length c, .int .i64 (T.length : Nat)] 27)).alloc (.cells #[.int .i64 4, .int .i64 n, .int .u64 (s : Nat)] 33)).alloc (.cells #[.slice none 0 0, .int .i64 0] 27)).cell? ⟨w.heap.size + 1, 2, none⟩ = some (.int .u64 (s : Nat)) := HA.out.cell
  have m0 : (((w.alloc (.cells #[.slice p (docA 0 T).length c, .int .i64 (T.length : Nat)] 27)).alloc (.cells #[.int .i64 4, .int .i64 n, .int .u64 (s : Nat)] 33)).alloc (.cells #[.slice none 0 0, .int .i64 0] 27)).cell? ⟨w.heap.size, 0, none⟩ = some (.slice p (docA 0 T).length c) := HM.out.cell
  have m1 : (((w.alloc (.cells #[.slice p (docA 0 T).length c, .int .i64 (T.length : Nat)] 27)).alloc (.cells #[.int .i64 4, .int .i64 n, .int .u64 (s : Nat)] 33)).alloc (.cells #[.slice none 0 0, .int .i64 0] 27)).cell? ⟨w.heap.size, 1, none⟩ = some (.int .i64 (T.length : Nat)) := HM.out.cell
  clear hs1 X1 L1 hs2 X2 L2 X3 L3
  go_wp2_with fail
  generalize ((w.alloc (.cells #[.slice p (docA 0 T).length c, .int .i64 (T.length : Nat)] 27)).alloc (.cells #[.int .i64 4, .int .i64 n, .int .u64 (s : Nat)] 33)).alloc (.cells #[.slice none 0 0, .int .i64 0] 27) = w3 at *
  have HT3 : Hid (Sta w3 F tb T) := H0.out.1.keep (Frm.of_below HL.out (F := fun _ => False)) (fun k _ hn => hn)
  have HD3 : Hid (DocT w3 0 (.slice p (docA 0 T).length c) (docA 0 T)) := owns_kept H0.out.2 HL.out
  have HZ3 : Hid (w.heap.size + 2 < w3.heap.size) := HR.out.lt
  have C1 : Hid (Calls _ _ _ _ _) := rforget_any (docA 0 T) _ T.length 0 n w3 HD3.out (Nat.le_of_lt HDL.out)
  rw [forg_doc] at C1
  clear k0
  refine C1.out.mono ?_
  rintro e w4 ⟨⟨u, rfl, hu, hul⟩, hb4⟩
  obtain ⟨q, l, d, rfl⟩ : ∃ q l c, u = .slice q l c := by
    obtain ⟨q, cq, eu, _⟩ := hu.rd
    exact ⟨_, _, _, eu⟩
  have HU4 : Hid (DocT w4 0 (.slice q l d) _) := hu
  have HUL : Hid (∀ g, (Value.slice q l d).ownBlock = some g → (Value.slice p (docA 0 T).length c).ownBlock = some g ∨ w.heap.size ≤ g) := fun g hg => (hul g hg).imp id (fun h => by have := HZ3.out; omega)
  have HUB : Hid (∀ g, (Value.slice q l d).ownBlock = some g → g ≠ w.heap.size + 2) := fun g hg e => by
    rcases hul g hg with h1 | h1
    · have := HVL.out g h1; omega
    · have := HZ3.out; omega
  have HUB0 : Hid (∀ g, (Value.slice q l d).ownBlock = some g → g ≠ w.heap.size) := fun g hg e => by
    rcases hul g hg with h1 | h1
    · have := HVL.out g h1; omega
    · have := HZ3.out; omega
  have HUN : Hid (∀ g, (Value.slice q l d).ownBlock = some g → ¬ F g) := fun g hg hf => by
    rcases hul g hg with h1 | h1
    · exact HV.out g h1 hf
    · have := HFL.out g hf; have := HZ3.out; omega
  have HM4 : Hid (BoxT w4 w.heap.size _ _) := HM.out.on hb4
  have HA4 : Hid (BoxT w4 (w.heap.size + 1) _ _) := HA.out.on hb4
  have HR4 : Hid (BoxT w4 (w.heap.size + 2) _ _) := HR.out.on hb4
  have HT4 : Hid (Sta w4 F tb T) := HT3.out.keep (Frm.of_below hb4 (F := fun _ => False)) (fun k _ hn => hn)
  have HL4 : Hid (Below w.heap.size w w4) := HL.out.trans (hb4.mono HL.out.size)
  have n0 : w4.cell? ⟨w.heap.size, 0, none⟩ = some (.slice p (docA 0 T).length c) := HM4.out.cell
  have n1 : w4.cell? ⟨w.heap.size, 1, none⟩ = some (.int .i64 (T.length : Nat)) := HM4.out.cell
  have o0 : w4.frozen? ⟨w.heap.size, 0, none⟩ = false := HM4.out.frozen
  have o1 : w4.frozen? ⟨w.heap.size, 1, none⟩ = false := HM4.out.frozen
  have hf5 : Frm w4 ((w4.setCell ⟨w.heap.size, 0, none⟩ (.slice q l d)).setCell ⟨w.heap.size, 1, none⟩ (.int .i64 (T.length : Nat))) (fun k => k = w.heap.size) := (frm_set w4 _ 0 _ (F := fun k => k = w.heap.size) rfl).trans (frm_set _ _ 1 _ (F := fun k => k = w.heap.size) rfl) (fun k hk => .inl hk)
  have HM5 : Hid (BoxT ((w4.setCell ⟨w.heap.size, 0, none⟩ (.slice q l d)).setCell ⟨w.heap.size, 1, none⟩ (.int .i64 (T.length : Nat))) w.heap.size #[.slice q l d, .int .i64 (T.length : Nat)] 27) := (HM4.out.set (i := 0) _).set (i := 1) _
  have HA5 : Hid (BoxT ((w4.setCell ⟨w.heap.size, 0, none⟩ (.slice q l d)).setCell ⟨w.heap.size, 1, none⟩ (.int .i64 (T.length : Nat))) (w.heap.size + 1) #[.int .i64 4, .int .i64 n, .int .u64 (s : Nat)] 33) := (hf5.block _ HA4.out.lt (by omega)).trans HA4.out
  have HR5 : Hid (BoxT ((w4.setCell ⟨w.heap.size, 0, none⟩ (.slice q l d)).setCell ⟨w.heap.size, 1, none⟩ (.int .i64 (T.length : Nat))) (w.heap.size + 2) #[.slice none 0 0, .int .i64 0] 27) := (hf5.block _ HR4.out.lt (by omega)).trans HR4.out
  have HT5 : Hid (Sta ((w4.setCell ⟨w.heap.size, 0, none⟩ (.slice q l d)).setCell ⟨w.heap.size, 1, none⟩ (.int .i64 (T.length : Nat))).drew F tb T) := HT4.out.keep hf5.drew (fun k hk e => by have := HFL.out _ hk; omega)
  have HD5 : Hid (DocT ((w4.setCell ⟨w.heap.size, 0, none⟩ (.slice q l d)).setCell ⟨w.heap.size, 1, none⟩ (.int .i64 (T.length : Nat))).drew 0 (.slice q l d) _) := HU4.out.block (fun g hg => hf5.block g (by obtain ⟨cur, h2⟩ := own_cells HU4.out hg; exact (Array.getElem?_eq_some_iff.1 h2).1) (HUB0.out g hg))
  have HF5 : Hid (Frm w ((w4.setCell ⟨w.heap.size, 0, none⟩ (.slice q l d)).setCell ⟨w.heap.size, 1, none⟩ (.int .i64 (T.length : Nat))).drew F) := ((Frm.of_below HL4.out (F := F)).trans hf5 (fun k hk => .inr (by omega))).drew
  clear hu hul hb4 hf5 C1 HM HA HR HL HT3 HD3 HM4 HA4 HR4 HT4 HL4 HU4 H0 k1 k2 m0 m1
  go_wp2_with fail
  generalize hw5 : ((w4.setCell ⟨w.heap.size, 0, none⟩ (.slice q l d)).setCell ⟨w.heap.size, 1, none⟩ (.int .i64 (T.length : Nat))) = w5 at *
  clear hw5 n0 n1 o0 o1
  have i1 : w5.cell? ⟨w.heap.size + 1, 1, none⟩ = some (.int .i64 n) := HA5.out.cell
  have i2 : w5.cell? ⟨w.heap.size + 1, 2, none⟩ = some (.int .u64 (s : Nat)) := HA5.out.cell
  have i3 : w5.cell? ⟨w.heap.size, 0, none⟩ = some (.slice q l d) := HM5.out.cell
  have i4 : w5.cell? ⟨w.heap.size, 1, none⟩ = some (.int .i64 (T.length : Nat)) := HM5.out.cell
  refine wp_region_any (by kernel_rfl) ?_
  change wpAny _ _ _ _ _ _ _ (World.drew _)
  refine anyN_take (v := ?_) 1 rfl (by kernel_rfl) (by kernel_rfl) (by kernel_rfl) (fun _ _ _ h => h) (Or.inl ⟨by rfl, ?_⟩) ?_
  rotate_left
  focus
    intro w9
    go_simp
    try with_reducible rfl
  try simp only [Act.put, List.setIfInBounds_toArray, List.set_cons_zero, List.set_cons_succ]
  refine anyN_take (v := ?_) 2 rfl (by kernel_rfl) (by kernel_rfl) (by kernel_rfl) (fun _ _ _ h => h) (Or.inl ⟨by rfl, ?_⟩) ?_
  rotate_left
  focus
    intro w9
    go_simp
    try with_reducible rfl
  try simp only [Act.put, List.setIfInBounds_toArray, List.set_cons_zero, List.set_cons_succ]
  refine anyN_take (v := ?_) 5 rfl (by kernel_rfl) (by kernel_rfl) (by kernel_rfl) (fun _ _ _ h => h) (Or.inl ⟨by rfl, ?_⟩) ?_
  rotate_left
  focus
    intro w9
    go_simp
    try with_reducible rfl
  try simp only [Act.put, List.setIfInBounds_toArray, List.set_cons_zero, List.set_cons_succ]
  refine wpAny_ready (rs := [0, 3]) (by kernel_rfl) (by simp) ?_
  refine anyN_cons 0 rfl (by rfl) (fun K hK => ?_) (anyN_cons 3 rfl (by rfl) (fun K hK => ?_) (AllReady.nil))
  · go_simp
    refine hK.out _ _ ?_
    clear hK K
    try simp only [Act.put, List.setIfInBounds_toArray, List.set_cons_zero, List.set_cons_succ]
    refine wpAny_ready (rs := [3]) (by kernel_rfl) (by simp) ?_
    refine anyN_cons 3 rfl (by rfl) (fun K hK => ?_) AllReady.nil
    go_simp
    refine hK.out _ _ ?_
    clear hK K
    try simp only [Act.put, List.setIfInBounds_toArray, List.set_cons_zero, List.set_cons_succ]
    refine wpAny_ready (rs := [4]) (by kernel_rfl) (by simp) ?_
    refine anyN_cons 4 rfl (by rfl) (fun K hK => ?_) AllReady.nil
    go_simp
    refine (forget_any F tb T n _ HT5.out HN.out.1 HN.out.2).mono ?_
    rintro e w6 ⟨rfl, ht6, hf6⟩
    dsimp only
    have HT6 : Hid (Sta w6 F tb _) := ht6
    have hkp : ∀ k, ¬ F k → k < w5.heap.size → w6.heap[k]? = w5.heap[k]? := fun k h1 h2 => hf6.block k h2 h1
    have HM6 : Hid (BoxT w6 w.heap.size #[.slice q l d, .int .i64 (T.length : Nat)] 27) := (hkp _ (fun hf => by have := HFL.out _ hf; omega) HM5.out.lt).trans HM5.out
    have HA6 : Hid (BoxT w6 (w.heap.size + 1) _ 33) := (hkp _ (fun hf => by have := HFL.out _ hf; omega) HA5.out.lt).trans HA5.out
    have HR6 : Hid (BoxT w6 (w.heap.size + 2) #[.slice none 0 0, .int .i64 0] 27) := (hkp _ (fun hf => by have := HFL.out _ hf; omega) HR5.out.lt).trans HR5.out
    have HD6 : Hid (DocT w6 0 (.slice q l d) _) := HD5.out.block (fun g hg => hkp g (HUN.out g hg) (by obtain ⟨cur, h2⟩ := own_cells HD5.out hg; exact (Array.getElem?_eq_some_iff.1 h2).1))
    have HF6 : Hid (Frm w w6 F) := HF5.out.trans hf6 (fun k hk => .inl hk)
    have e0 : w6.cell? ⟨w.heap.size, 0, none⟩ = some (.slice q l d) := HM6.out.cell
    have e1 : w6.cell? ⟨w.heap.size, 1, none⟩ = some (.int .i64 (T.length : Nat)) := HM6.out.cell
    have g0 : w6.cell? ⟨w.heap.size + 2, 0, none⟩ = some (.slice none 0 0) := HR6.out.cell
    have g1 : w6.cell? ⟨w.heap.size + 2, 1, none⟩ = some (.int .i64 0) := HR6.out.cell
    have y0 : w6.frozen? ⟨w.heap.size + 2, 0, none⟩ = false := HR6.out.frozen
    have y1 : w6.frozen? ⟨w.heap.size + 2, 1, none⟩ = false := HR6.out.frozen
    clear ht6 hf6 hkp
    refine hK.out _ _ ?_
    clear hK K
    try simp only [Act.put, List.setIfInBounds_toArray, List.set_cons_zero, List.set_cons_succ]
    refine anyN_take (v := ?_) 6 rfl (by kernel_rfl) (by kernel_rfl) (by kernel_rfl) (fun _ _ _ h => h) (Or.inl ⟨by rfl, ?_⟩) ?_
    rotate_left
    focus
      intro w9
      go_simp
      try with_reducible rfl
    try simp only [Act.put, List.setIfInBounds_toArray, List.set_cons_zero, List.set_cons_succ]
    refine wpAny_ready (rs := [7]) (by kernel_rfl) (by simp) ?_
    refine anyN_cons 7 rfl (by rfl) (fun K hK => ?_) AllReady.nil
    go_simp
    refine hK.out _ _ ?_
    clear hK K
    try simp only [Act.put, List.setIfInBounds_toArray, List.set_cons_zero, List.set_cons_succ]
    refine wpAny_ready (rs := [8]) (by kernel_rfl) (by simp) ?_
    refine anyN_cons 8 rfl (by rfl) (fun K hK => ?_) AllReady.nil
    go_simp
    refine hK.out _ _ ?_
    clear hK K
    try simp only [Act.put, List.setIfInBounds_toArray, List.set_cons_zero, List.set_cons_succ]
    refine wpAny_done (by kernel_rfl) ?_ _
    have hfz : Frm w6 ((w6.setCell ⟨w.heap.size + 2, 0, none⟩ (.slice q l d)).setCell ⟨w.heap.size + 2, 1, none⟩ (.int .i64 (T.length : Nat))) (fun k => k = w.heap.size + 2) := (frm_set w6 _ 0 _ (F := fun k => k = w.heap.size + 2) rfl).trans (frm_set _ _ 1 _ (F := fun k => k = w.heap.size + 2) rfl) (fun k hk => .inl hk)
    have HBE : Hid (BoxT ((w6.setCell ⟨w.heap.size + 2, 0, none⟩ (.slice q l d)).setCell ⟨w.heap.size + 2, 1, none⟩ (.int .i64 (T.length : Nat))) (w.heap.size + 2) #[.slice q l d, .int .i64 (T.length : Nat)] 27) := (HR6.out.set (i := 0) _).set (i := 1) _
    have q0 : ((w6.setCell ⟨w.heap.size + 2, 0, none⟩ (.slice q l d)).setCell ⟨w.heap.size + 2, 1, none⟩ (.int .i64 (T.length : Nat))).cell? ⟨w.heap.size + 2, 0, none⟩ = some (.slice q l d) := HBE.out.cell
    have q1 : ((w6.setCell ⟨w.heap.size + 2, 0, none⟩ (.slice q l d)).setCell ⟨w.heap.size + 2, 1, none⟩ (.int .i64 (T.length : Nat))).cell? ⟨w.heap.size + 2, 1, none⟩ = some (.int .i64 (T.length : Nat)) := HBE.out.cell
    have HTE : Hid (Sta ((w6.setCell ⟨w.heap.size + 2, 0, none⟩ (.slice q l d)).setCell ⟨w.heap.size + 2, 1, none⟩ (.int .i64 (T.length : Nat))) F tb _) := HT6.out.keep hfz (fun k hk e => by have := HFL.out _ hk; omega)
    have HDE : Hid (DocT ((w6.setCell ⟨w.heap.size + 2, 0, none⟩ (.slice q l d)).setCell ⟨w.heap.size + 2, 1, none⟩ (.int .i64 (T.length : Nat))) 0 (.slice q l d) _) := HD6.out.block (fun g hg => hfz.block g (by obtain ⟨cur, h2⟩ := own_cells HD6.out hg; exact (Array.getElem?_eq_some_iff.1 h2).1) (HUB.out g hg))
    have HFE : Hid (Frm w ((w6.setCell ⟨w.heap.size + 2, 0, none⟩ (.slice q l d)).setCell ⟨w.heap.size + 2, 1, none⟩ (.int .i64 (T.length : Nat))) F) := HF6.out.trans hfz (fun k hk => .inr (by omega))
    clear hfz
    generalize ((w6.setCell ⟨w.heap.size + 2, 0, none⟩ (.slice q l d)).setCell ⟨w.heap.size + 2, 1, none⟩ (.int .i64 (T.length : Nat))) = wz at *
    go_wp2_with fail
    have hln := HTL.out
    refine bodyPost_ret (v := .tuple #[tvD (.slice q l d) T.length, .bool true]) (by simp [results, Try.results9, go_sem, q0, q1]) rfl ?_
    exact ⟨⟨_, F, by rw [hln], HTE.out, HDE.out, HUN.out, fun k hk => .inl hk, HUL.out⟩, HFE.out⟩
  · go_simp
    refine hK.out _ _ ?_
    clear hK K
    try simp only [Act.put, List.setIfInBounds_toArray, List.set_cons_zero, List.set_cons_succ]
    refine wpAny_ready (rs := [0, 4]) (by kernel_rfl) (by simp) ?_
    refine anyN_cons 0 rfl (by rfl) (fun K hK => ?_) (anyN_cons 4 rfl (by rfl) (fun K hK => ?_) (AllReady.nil))
    · go_simp
      refine hK.out _ _ ?_
      clear hK K
      try simp only [Act.put, List.setIfInBounds_toArray, List.set_cons_zero, List.set_cons_succ]
      refine wpAny_ready (rs := [4]) (by kernel_rfl) (by simp) ?_
      refine anyN_cons 4 rfl (by rfl) (fun K hK => ?_) AllReady.nil
      go_simp
      refine (forget_any F tb T n _ HT5.out HN.out.1 HN.out.2).mono ?_
      rintro e w6 ⟨rfl, ht6, hf6⟩
      dsimp only
      have HT6 : Hid (Sta w6 F tb _) := ht6
      have hkp : ∀ k, ¬ F k → k < w5.heap.size → w6.heap[k]? = w5.heap[k]? := fun k h1 h2 => hf6.block k h2 h1
      have HM6 : Hid (BoxT w6 w.heap.size #[.slice q l d, .int .i64 (T.length : Nat)] 27) := (hkp _ (fun hf => by have := HFL.out _ hf; omega) HM5.out.lt).trans HM5.out
      have HA6 : Hid (BoxT w6 (w.heap.size + 1) _ 33) := (hkp _ (fun hf => by have := HFL.out _ hf; omega) HA5.out.lt).trans HA5.out
      have HR6 : Hid (BoxT w6 (w.heap.size + 2) #[.slice none 0 0, .int .i64 0] 27) := (hkp _ (fun hf => by have := HFL.out _ hf; omega) HR5.out.lt).trans HR5.out
      have HD6 : Hid (DocT w6 0 (.slice q l d) _) := HD5.out.block (fun g hg => hkp g (HUN.out g hg) (by obtain ⟨cur, h2⟩ := own_cells HD5.out hg; exact (Array.getElem?_eq_some_iff.1 h2).1))
      have HF6 : Hid (Frm w w6 F) := HF5.out.trans hf6 (fun k hk => .inl hk)
      have e0 : w6.cell? ⟨w.heap.size, 0, none⟩ = some (.slice q l d) := HM6.out.cell
      have e1 : w6.cell? ⟨w.heap.size, 1, none⟩ = some (.int .i64 (T.length : Nat)) := HM6.out.cell
      have g0 : w6.cell? ⟨w.heap.size + 2, 0, none⟩ = some (.slice none 0 0) := HR6.out.cell
      have g1 : w6.cell? ⟨w.heap.size + 2, 1, none⟩ = some (.int .i64 0) := HR6.out.cell
      have y0 : w6.frozen? ⟨w.heap.size + 2, 0, none⟩ = false := HR6.out.frozen
      have y1 : w6.frozen? ⟨w.heap.size + 2, 1, none⟩ = false := HR6.out.frozen
      clear ht6 hf6 hkp
      refine hK.out _ _ ?_
      clear hK K
      try simp only [Act.put, List.setIfInBounds_toArray, List.set_cons_zero, List.set_cons_succ]
      refine anyN_take (v := ?_) 6 rfl (by kernel_rfl) (by kernel_rfl) (by kernel_rfl) (fun _ _ _ h => h) (Or.inl ⟨by rfl, ?_⟩) ?_
      rotate_left
      focus
        intro w9
        go_simp
        try with_reducible rfl
      try simp only [Act.put, List.setIfInBounds_toArray, List.set_cons_zero, List.set_cons_succ]
      refine wpAny_ready (rs := [7]) (by kernel_rfl) (by simp) ?_
      refine anyN_cons 7 rfl (by rfl) (fun K hK => ?_) AllReady.nil
      go_simp
      refine hK.out _ _ ?_
      clear hK K
      try simp only [Act.put, List.setIfInBounds_toArray, List.set_cons_zero, List.set_cons_succ]
      refine wpAny_ready (rs := [8]) (by kernel_rfl) (by simp) ?_
      refine anyN_cons 8 rfl (by rfl) (fun K hK => ?_) AllReady.nil
      go_simp
      refine hK.out _ _ ?_
      clear hK K
      try simp only [Act.put, List.setIfInBounds_toArray, List.set_cons_zero, List.set_cons_succ]
      refine wpAny_done (by kernel_rfl) ?_ _
      have hfz : Frm w6 ((w6.setCell ⟨w.heap.size + 2, 0, none⟩ (.slice q l d)).setCell ⟨w.heap.size + 2, 1, none⟩ (.int .i64 (T.length : Nat))) (fun k => k = w.heap.size + 2) := (frm_set w6 _ 0 _ (F := fun k => k = w.heap.size + 2) rfl).trans (frm_set _ _ 1 _ (F := fun k => k = w.heap.size + 2) rfl) (fun k hk => .inl hk)
      have HBE : Hid (BoxT ((w6.setCell ⟨w.heap.size + 2, 0, none⟩ (.slice q l d)).setCell ⟨w.heap.size + 2, 1, none⟩ (.int .i64 (T.length : Nat))) (w.heap.size + 2) #[.slice q l d, .int .i64 (T.length : Nat)] 27) := (HR6.out.set (i := 0) _).set (i := 1) _
      have q0 : ((w6.setCell ⟨w.heap.size + 2, 0, none⟩ (.slice q l d)).setCell ⟨w.heap.size + 2, 1, none⟩ (.int .i64 (T.length : Nat))).cell? ⟨w.heap.size + 2, 0, none⟩ = some (.slice q l d) := HBE.out.cell
      have q1 : ((w6.setCell ⟨w.heap.size + 2, 0, none⟩ (.slice q l d)).setCell ⟨w.heap.size + 2, 1, none⟩ (.int .i64 (T.length : Nat))).cell? ⟨w.heap.size + 2, 1, none⟩ = some (.int .i64 (T.length : Nat)) := HBE.out.cell
      have HTE : Hid (Sta ((w6.setCell ⟨w.heap.size + 2, 0, none⟩ (.slice q l d)).setCell ⟨w.heap.size + 2, 1, none⟩ (.int .i64 (T.length : Nat))) F tb _) := HT6.out.keep hfz (fun k hk e => by have := HFL.out _ hk; omega)
      have HDE : Hid (DocT ((w6.setCell ⟨w.heap.size + 2, 0, none⟩ (.slice q l d)).setCell ⟨w.heap.size + 2, 1, none⟩ (.int .i64 (T.length : Nat))) 0 (.slice q l d) _) := HD6.out.block (fun g hg => hfz.block g (by obtain ⟨cur, h2⟩ := own_cells HD6.out hg; exact (Array.getElem?_eq_some_iff.1 h2).1) (HUB.out g hg))
      have HFE : Hid (Frm w ((w6.setCell ⟨w.heap.size + 2, 0, none⟩ (.slice q l d)).setCell ⟨w.heap.size + 2, 1, none⟩ (.int .i64 (T.length : Nat))) F) := HF6.out.trans hfz (fun k hk => .inr (by omega))
      clear hfz
      generalize ((w6.setCell ⟨w.heap.size + 2, 0, none⟩ (.slice q l d)).setCell ⟨w.heap.size + 2, 1, none⟩ (.int .i64 (T.length : Nat))) = wz at *
      go_wp2_with fail
      have hln := HTL.out
      refine bodyPost_ret (v := .tuple #[tvD (.slice q l d) T.length, .bool true]) (by simp [results, Try.results9, go_sem, q0, q1]) rfl ?_
      exact ⟨⟨_, F, by rw [hln], HTE.out, HDE.out, HUN.out, fun k hk => .inl hk, HUL.out⟩, HFE.out⟩
    · go_simp
      refine (forget_any F tb T n _ HT5.out HN.out.1 HN.out.2).mono ?_
      rintro e w6 ⟨rfl, ht6, hf6⟩
      dsimp only
      have HT6 : Hid (Sta w6 F tb _) := ht6
      have hkp : ∀ k, ¬ F k → k < w5.heap.size → w6.heap[k]? = w5.heap[k]? := fun k h1 h2 => hf6.block k h2 h1
      have HM6 : Hid (BoxT w6 w.heap.size #[.slice q l d, .int .i64 (T.length : Nat)] 27) := (hkp _ (fun hf => by have := HFL.out _ hf; omega) HM5.out.lt).trans HM5.out
      have HA6 : Hid (BoxT w6 (w.heap.size + 1) _ 33) := (hkp _ (fun hf => by have := HFL.out _ hf; omega) HA5.out.lt).trans HA5.out
      have HR6 : Hid (BoxT w6 (w.heap.size + 2) #[.slice none 0 0, .int .i64 0] 27) := (hkp _ (fun hf => by have := HFL.out _ hf; omega) HR5.out.lt).trans HR5.out
      have HD6 : Hid (DocT w6 0 (.slice q l d) _) := HD5.out.block (fun g hg => hkp g (HUN.out g hg) (by obtain ⟨cur, h2⟩ := own_cells HD5.out hg; exact (Array.getElem?_eq_some_iff.1 h2).1))
      have HF6 : Hid (Frm w w6 F) := HF5.out.trans hf6 (fun k hk => .inl hk)
      have e0 : w6.cell? ⟨w.heap.size, 0, none⟩ = some (.slice q l d) := HM6.out.cell
      have e1 : w6.cell? ⟨w.heap.size, 1, none⟩ = some (.int .i64 (T.length : Nat)) := HM6.out.cell
      have g0 : w6.cell? ⟨w.heap.size + 2, 0, none⟩ = some (.slice none 0 0) := HR6.out.cell
      have g1 : w6.cell? ⟨w.heap.size + 2, 1, none⟩ = some (.int .i64 0) := HR6.out.cell
      have y0 : w6.frozen? ⟨w.heap.size + 2, 0, none⟩ = false := HR6.out.frozen
      have y1 : w6.frozen? ⟨w.heap.size + 2, 1, none⟩ = false := HR6.out.frozen
      clear ht6 hf6 hkp
      refine hK.out _ _ ?_
      clear hK K
      try simp only [Act.put, List.setIfInBounds_toArray, List.set_cons_zero, List.set_cons_succ]
      refine anyN_take (v := ?_) 6 rfl (by kernel_rfl) (by kernel_rfl) (by kernel_rfl) (fun _ _ _ h => h) (Or.inl ⟨by rfl, ?_⟩) ?_
      rotate_left
      focus
        intro w9
        go_simp
        try with_reducible rfl
      try simp only [Act.put, List.setIfInBounds_toArray, List.set_cons_zero, List.set_cons_succ]
      refine wpAny_ready (rs := [0]) (by kernel_rfl) (by simp) ?_
      refine anyN_cons 0 rfl (by rfl) (fun K hK => ?_) AllReady.nil
      go_simp
      refine hK.out _ _ ?_
      clear hK K
      try simp only [Act.put, List.setIfInBounds_toArray, List.set_cons_zero, List.set_cons_succ]
      refine wpAny_ready (rs := [7]) (by kernel_rfl) (by simp) ?_
      refine anyN_cons 7 rfl (by rfl) (fun K hK => ?_) AllReady.nil
      go_simp
      refine hK.out _ _ ?_
      clear hK K
      try simp only [Act.put, List.setIfInBounds_toArray, List.set_cons_zero, List.set_cons_succ]
      refine wpAny_ready (rs := [8]) (by kernel_rfl) (by simp) ?_
      refine anyN_cons 8 rfl (by rfl) (fun K hK => ?_) AllReady.nil
      go_simp
      refine hK.out _ _ ?_
      clear hK K
      try simp only [Act.put, List.setIfInBounds_toArray, List.set_cons_zero, List.set_cons_succ]
      refine wpAny_done (by kernel_rfl) ?_ _
      have hfz : Frm w6 ((w6.setCell ⟨w.heap.size + 2, 0, none⟩ (.slice q l d)).setCell ⟨w.heap.size + 2, 1, none⟩ (.int .i64 (T.length : Nat))) (fun k => k = w.heap.size + 2) := (frm_set w6 _ 0 _ (F := fun k => k = w.heap.size + 2) rfl).trans (frm_set _ _ 1 _ (F := fun k => k = w.heap.size + 2) rfl) (fun k hk => .inl hk)
      have HBE : Hid (BoxT ((w6.setCell ⟨w.heap.size + 2, 0, none⟩ (.slice q l d)).setCell ⟨w.heap.size + 2, 1, none⟩ (.int .i64 (T.length : Nat))) (w.heap.size + 2) #[.slice q l d, .int .i64 (T.length : Nat)] 27) := (HR6.out.set (i := 0) _).set (i := 1) _
      have q0 : ((w6.setCell ⟨w.heap.size + 2, 0, none⟩ (.slice q l d)).setCell ⟨w.heap.size + 2, 1, none⟩ (.int .i64 (T.length : Nat))).cell? ⟨w.heap.size + 2, 0, none⟩ = some (.slice q l d) := HBE.out.cell
      have q1 : ((w6.setCell ⟨w.heap.size + 2, 0, none⟩ (.slice q l d)).setCell ⟨w.heap.size + 2, 1, none⟩ (.int .i64 (T.length : Nat))).cell? ⟨w.heap.size + 2, 1, none⟩ = some (.int .i64 (T.length : Nat)) := HBE.out.cell
      have HTE : Hid (Sta ((w6.setCell ⟨w.heap.size + 2, 0, none⟩ (.slice q l d)).setCell ⟨w.heap.size + 2, 1, none⟩ (.int .i64 (T.length : Nat))) F tb _) := HT6.out.keep hfz (fun k hk e => by have := HFL.out _ hk; omega)
      have HDE : Hid (DocT ((w6.setCell ⟨w.heap.size + 2, 0, none⟩ (.slice q l d)).setCell ⟨w.heap.size + 2, 1, none⟩ (.int .i64 (T.length : Nat))) 0 (.slice q l d) _) := HD6.out.block (fun g hg => hfz.block g (by obtain ⟨cur, h2⟩ := own_cells HD6.out hg; exact (Array.getElem?_eq_some_iff.1 h2).1) (HUB.out g hg))
      have HFE : Hid (Frm w ((w6.setCell ⟨w.heap.size + 2, 0, none⟩ (.slice q l d)).setCell ⟨w.heap.size + 2, 1, none⟩ (.int .i64 (T.length : Nat))) F) := HF6.out.trans hfz (fun k hk => .inr (by omega))
      clear hfz
      generalize ((w6.setCell ⟨w.heap.size + 2, 0, none⟩ (.slice q l d)).setCell ⟨w.heap.size + 2, 1, none⟩ (.int .i64 (T.length : Nat))) = wz at *
      go_wp2_with fail
      have hln := HTL.out
      refine bodyPost_ret (v := .tuple #[tvD (.slice q l d) T.length, .bool true]) (by simp [results, Try.results9, go_sem, q0, q1]) rfl ?_
      exact ⟨⟨_, F, by rw [hln], HTE.out, HDE.out, HUN.out, fun k hk => .inl hk, HUL.out⟩, HFE.out⟩

set_option maxHeartbeats 4000000 in
theorem doesC_any (F : Nat → Prop) (tb : Nat) (T : List Tx) (v : Value) (n : Int) (s : Nat) (w : World) (ht : Sta w F tb T) (hd : DocT w 0 v (docA 0 T)) (hv : ∀ g, v.ownBlock = some g → ¬ F g) (hlen : T.length < 4000000000000) (hn1 : -9223372036854775808 ≤ n) (hn2 : n < 9223372036854775808) :
    Calls Try.prog 9 #[ptr1 tb, tvD v T.length, .agg #[.int .i64 2, .int .i64 n, .int .u64 (s : Nat)]] w fun e w' => (∃ u F', e = .returned (.tuple #[tvD u ((turnT T n (mayC s) s).1).length, .bool true]) ∧ Sta w' F' tb ((turnT T n (mayC s) s).1) ∧ DocT w' 0 u (docA 0 ((turnT T n (mayC s) s).1)) ∧ (∀ g, u.ownBlock = some g → ¬ F' g) ∧ (∀ k, F' k → F k ∨ w.heap.size ≤ k) ∧ ∀ g, u.ownBlock = some g → v.ownBlock = some g ∨ w.heap.size ≤ g) ∧ Frm w w' F := by
  have HTL : Hid (((turnT T n (mayC s) s).1).length = T.length) := turnT_len _ _ _ _
  obtain ⟨p, c, rfl, _⟩ := hd.rd
  have HDL : Hid ((docA 0 T).length < 5000000000000) := Nat.lt_of_le_of_lt (docA_len T 0) (by omega)
  have HLN : Hid (T.length < 4000000000000) := hlen
  have HN : Hid (-9223372036854775808 ≤ n ∧ n < 9223372036854775808) := ⟨hn1, hn2⟩
  have HGON : Hid (∀ x ∈ T, x.gone = true → decd x.wd = true) := by
    obtain ⟨_, _, _, _, hx⟩ := ht
    exact hx.gon
  have HFL : Hid (∀ k, F k → k < w.heap.size) := fun k hk => by
    obtain ⟨mb, ov, B, O, hh⟩ := ht
    exact hh.flt k hk
  have HV : Hid (∀ g, (Value.slice p (docA 0 T).length c).ownBlock = some g → ¬ F g) := hv
  have HVL : Hid (∀ g, (Value.slice p (docA 0 T).length c).ownBlock = some g → g < w.heap.size) := fun g hg => by
    obtain ⟨cur, h2⟩ := own_cells hd hg
    exact (Array.getElem?_eq_some_iff.1 h2).1
  have H0 : Hid (Sta w F tb T ∧ DocT w 0 (.slice p (docA 0 T).length c) (docA 0 T)) := ⟨ht, hd⟩
  clear ht hd hv hlen hn1 hn2
  go_enter Try.func9, Try.ntmps9
  have hs1 : (w.alloc (.cells #[.slice p (docA 0 T).length c, .int .i64 (T.length : Nat)] 27)).heap.size = w.heap.size + 1 := by simp
  have X1 : BoxT (w.alloc (.cells #[.slice p (docA 0 T).length c, .int .i64 (T.length : Nat)] 27)) w.heap.size #[.slice p (docA 0 T).length c, .int .i64 (T.length : Nat)] 27 := BoxT.new _ _ _
  have L1 : Below w.heap.size w (w.alloc (.cells #[.slice p (docA 0 T).length c, .int .i64 (T.length : Nat)] 27)) := (Below.refl _ _).alloc (Nat.le_refl _) _
  have hs2 : ((w.alloc (.cells #[.slice p (docA 0 T).length c, .int .i64 (T.length : Nat)] 27)).alloc (.cells #[.int .i64 2, .int .i64 n, .int .u64 (s : Nat)] 33)).heap.size = w.heap.size + 2 := by simp
  have X2 : BoxT ((w.alloc (.cells #[.slice p (docA 0 T).length c, .int .i64 (T.length : Nat)] 27)).alloc (.cells #[.int .i64 2, .int .i64 n, .int .u64 (s : Nat)] 33)) (w.heap.size + 1) #[.int .i64 2, .int .i64 n, .int .u64 (s : Nat)] 33 := by rw [← hs1]; exact BoxT.new _ _ _
  have L2 : Below (w.alloc (.cells #[.slice p (docA 0 T).length c, .int .i64 (T.length : Nat)] 27)).heap.size (w.alloc (.cells #[.slice p (docA 0 T).length c, .int .i64 (T.length : Nat)] 27)) ((w.alloc (.cells #[.slice p (docA 0 T).length c, .int .i64 (T.length : Nat)] 27)).alloc (.cells #[.int .i64 2, .int .i64 n, .int .u64 (s : Nat)] 33)) := (Below.refl _ _).alloc (Nat.le_refl _) _
  have X3 : BoxT (((w.alloc (.cells #[.slice p (docA 0 T).length c, .int .i64 (T.length : Nat)] 27)).alloc (.cells #[.int .i64 2, .int .i64 n, .int .u64 (s : Nat)] 33)).alloc (.cells #[.slice none 0 0, .int .i64 0] 27)) (w.heap.size + 2) #[.slice none 0 0, .int .i64 0] 27 := by rw [← hs2]; exact BoxT.new _ _ _
  have L3 : Below ((w.alloc (.cells #[.slice p (docA 0 T).length c, .int .i64 (T.length : Nat)] 27)).alloc (.cells #[.int .i64 2, .int .i64 n, .int .u64 (s : Nat)] 33)).heap.size ((w.alloc (.cells #[.slice p (docA 0 T).length c, .int .i64 (T.length : Nat)] 27)).alloc (.cells #[.int .i64 2, .int .i64 n, .int .u64 (s : Nat)] 33)) (((w.alloc (.cells #[.slice p (docA 0 T).length c, .int .i64 (T.length : Nat)] 27)).alloc (.cells #[.int .i64 2, .int .i64 n, .int .u64 (s : Nat)] 33)).alloc (.cells #[.slice none 0 0, .int .i64 0] 27)) := (Below.refl _ _).alloc (Nat.le_refl _) _
  have HM : Hid (BoxT (((w.alloc (.cells #[.slice p (docA 0 T).length c, .int .i64 (T.length : Nat)] 27)).alloc (.cells #[.int .i64 2, .int .i64 n, .int .u64 (s : Nat)] 33)).alloc (.cells #[.slice none 0 0, .int .i64 0] 27)) w.heap.size #[.slice p (docA 0 T).length c, .int .i64 (T.length : Nat)] 27) := (X1.on L2).on L3
  have HA : Hid (BoxT (((w.alloc (.cells #[.slice p (docA 0 T).length c, .int .i64 (T.length : Nat)] 27)).alloc (.cells #[.int .i64 2, .int .i64 n, .int .u64 (s : Nat)] 33)).alloc (.cells #[.slice none 0 0, .int .i64 0] 27)) (w.heap.size + 1) #[.int .i64 2, .int .i64 n, .int .u64 (s : Nat)] 33) := X2.on L3
  have HR : Hid (BoxT (((w.alloc (.cells #[.slice p (docA 0 T).length c, .int .i64 (T.length : Nat)] 27)).alloc (.cells #[.int .i64 2, .int .i64 n, .int .u64 (s : Nat)] 33)).alloc (.cells #[.slice none 0 0, .int .i64 0] 27)) (w.heap.size + 2) #[.slice none 0 0, .int .i64 0] 27) := X3
  have HL : Hid (Below w.heap.size w (((w.alloc (.cells #[.slice p (docA 0 T).length c, .int .i64 (T.length : Nat)] 27)).alloc (.cells #[.int .i64 2, .int .i64 n, .int .u64 (s : Nat)] 33)).alloc (.cells #[.slice none 0 0, .int .i64 0] 27))) := (L1.trans (L2.mono (by omega))).trans (L3.mono (by omega))
  have k0 : (((w.alloc (.cells #[.slice p (docA 0 T).length c, .int .i64 (T.length : Nat)] 27)).alloc (.cells #[.int .i64 2, .int .i64 n, .int .u64 (s : Nat)] 33)).alloc (.cells #[.slice none 0 0, .int .i64 0] 27)).cell? ⟨w.heap.size + 1, 0, none⟩ = some (.int .i64 2) := HA.out.cell
  have k1 : (((w.alloc (.cells #[.slice p (docA 0 T).length c, .int .i64 (T.length : Nat)] 27)).alloc (.cells #[.int .i64 2, .int .i64 n, .int .u64 (s : Nat)] 33)).alloc (.cells #[.slice none 0 0, .int .i64 0] 27)).cell? ⟨w.heap.size + 1, 1, none⟩ = some (.int .i64 n) := HA.out.cell
  have k2 : (((w.alloc (.cells #[.slice p (docA 0 T).length c, .int .i64 (T.length : Nat)] 27)).alloc (.cells #[.int .i64 2, .int .i64 n, .int .u64 (s : Nat)] 33)).alloc (.cells #[.slice none 0 0, .int .i64 0] 27)).cell? ⟨w.heap.size + 1, 2, none⟩ = some (.int .u64 (s : Nat)) := HA.out.cell
  have m0 : (((w.alloc (.cells #[.slice p (docA 0 T).length c, .int .i64 (T.length : Nat)] 27)).alloc (.cells #[.int .i64 2, .int .i64 n, .int .u64 (s : Nat)] 33)).alloc (.cells #[.slice none 0 0, .int .i64 0] 27)).cell? ⟨w.heap.size, 0, none⟩ = some (.slice p (docA 0 T).length c) := HM.out.cell
  have m1 : (((w.alloc (.cells #[.slice p (docA 0 T).length c, .int .i64 (T.length : Nat)] 27)).alloc (.cells #[.int .i64 2, .int .i64 n, .int .u64 (s : Nat)] 33)).alloc (.cells #[.slice none 0 0, .int .i64 0] 27)).cell? ⟨w.heap.size, 1, none⟩ = some (.int .i64 (T.length : Nat)) := HM.out.cell
  clear hs1 X1 L1 hs2 X2 L2 X3 L3
  go_wp2_with fail
  generalize ((w.alloc (.cells #[.slice p (docA 0 T).length c, .int .i64 (T.length : Nat)] 27)).alloc (.cells #[.int .i64 2, .int .i64 n, .int .u64 (s : Nat)] 33)).alloc (.cells #[.slice none 0 0, .int .i64 0] 27) = w3 at *
  have HT3 : Hid (Sta w3 F tb T) := H0.out.1.keep (Frm.of_below HL.out (F := fun _ => False)) (fun k _ hn => hn)
  have HD3 : Hid (DocT w3 0 (.slice p (docA 0 T).length c) (docA 0 T)) := owns_kept H0.out.2 HL.out
  have HZ3 : Hid (w.heap.size + 2 < w3.heap.size) := HR.out.lt
  have C1 : Hid (Calls _ _ _ _ _) := rcommit_any (docA 0 T) _ T.length 0 n s w3 HD3.out (Nat.le_of_lt HDL.out)
  rw [commit_doc] at C1
  clear k0
  refine C1.out.mono ?_
  rintro e w4 ⟨⟨u, rfl, hu, hul⟩, hb4⟩
  obtain ⟨q, l, d, rfl⟩ : ∃ q l c, u = .slice q l c := by
    obtain ⟨q, cq, eu, _⟩ := hu.rd
    exact ⟨_, _, _, eu⟩
  have HU4 : Hid (DocT w4 0 (.slice q l d) _) := hu
  have HUL : Hid (∀ g, (Value.slice q l d).ownBlock = some g → (Value.slice p (docA 0 T).length c).ownBlock = some g ∨ w.heap.size ≤ g) := fun g hg => (hul g hg).imp id (fun h => by have := HZ3.out; omega)
  have HUB : Hid (∀ g, (Value.slice q l d).ownBlock = some g → g ≠ w.heap.size + 2) := fun g hg e => by
    rcases hul g hg with h1 | h1
    · have := HVL.out g h1; omega
    · have := HZ3.out; omega
  have HUB0 : Hid (∀ g, (Value.slice q l d).ownBlock = some g → g ≠ w.heap.size) := fun g hg e => by
    rcases hul g hg with h1 | h1
    · have := HVL.out g h1; omega
    · have := HZ3.out; omega
  have HUN : Hid (∀ g, (Value.slice q l d).ownBlock = some g → ¬ F g) := fun g hg hf => by
    rcases hul g hg with h1 | h1
    · exact HV.out g h1 hf
    · have := HFL.out g hf; have := HZ3.out; omega
  have HM4 : Hid (BoxT w4 w.heap.size _ _) := HM.out.on hb4
  have HA4 : Hid (BoxT w4 (w.heap.size + 1) _ _) := HA.out.on hb4
  have HR4 : Hid (BoxT w4 (w.heap.size + 2) _ _) := HR.out.on hb4
  have HT4 : Hid (Sta w4 F tb T) := HT3.out.keep (Frm.of_below hb4 (F := fun _ => False)) (fun k _ hn => hn)
  have HL4 : Hid (Below w.heap.size w w4) := HL.out.trans (hb4.mono HL.out.size)
  have n0 : w4.cell? ⟨w.heap.size, 0, none⟩ = some (.slice p (docA 0 T).length c) := HM4.out.cell
  have n1 : w4.cell? ⟨w.heap.size, 1, none⟩ = some (.int .i64 (T.length : Nat)) := HM4.out.cell
  have o0 : w4.frozen? ⟨w.heap.size, 0, none⟩ = false := HM4.out.frozen
  have o1 : w4.frozen? ⟨w.heap.size, 1, none⟩ = false := HM4.out.frozen
  have hf5 : Frm w4 ((w4.setCell ⟨w.heap.size, 0, none⟩ (.slice q l d)).setCell ⟨w.heap.size, 1, none⟩ (.int .i64 (T.length : Nat))) (fun k => k = w.heap.size) := (frm_set w4 _ 0 _ (F := fun k => k = w.heap.size) rfl).trans (frm_set _ _ 1 _ (F := fun k => k = w.heap.size) rfl) (fun k hk => .inl hk)
  have HM5 : Hid (BoxT ((w4.setCell ⟨w.heap.size, 0, none⟩ (.slice q l d)).setCell ⟨w.heap.size, 1, none⟩ (.int .i64 (T.length : Nat))) w.heap.size #[.slice q l d, .int .i64 (T.length : Nat)] 27) := (HM4.out.set (i := 0) _).set (i := 1) _
  have HA5 : Hid (BoxT ((w4.setCell ⟨w.heap.size, 0, none⟩ (.slice q l d)).setCell ⟨w.heap.size, 1, none⟩ (.int .i64 (T.length : Nat))) (w.heap.size + 1) #[.int .i64 2, .int .i64 n, .int .u64 (s : Nat)] 33) := (hf5.block _ HA4.out.lt (by omega)).trans HA4.out
  have HR5 : Hid (BoxT ((w4.setCell ⟨w.heap.size, 0, none⟩ (.slice q l d)).setCell ⟨w.heap.size, 1, none⟩ (.int .i64 (T.length : Nat))) (w.heap.size + 2) #[.slice none 0 0, .int .i64 0] 27) := (hf5.block _ HR4.out.lt (by omega)).trans HR4.out
  have HT5 : Hid (Sta ((w4.setCell ⟨w.heap.size, 0, none⟩ (.slice q l d)).setCell ⟨w.heap.size, 1, none⟩ (.int .i64 (T.length : Nat))).drew F tb T) := HT4.out.keep hf5.drew (fun k hk e => by have := HFL.out _ hk; omega)
  have HD5 : Hid (DocT ((w4.setCell ⟨w.heap.size, 0, none⟩ (.slice q l d)).setCell ⟨w.heap.size, 1, none⟩ (.int .i64 (T.length : Nat))).drew 0 (.slice q l d) _) := HU4.out.block (fun g hg => hf5.block g (by obtain ⟨cur, h2⟩ := own_cells HU4.out hg; exact (Array.getElem?_eq_some_iff.1 h2).1) (HUB0.out g hg))
  have HF5 : Hid (Frm w ((w4.setCell ⟨w.heap.size, 0, none⟩ (.slice q l d)).setCell ⟨w.heap.size, 1, none⟩ (.int .i64 (T.length : Nat))).drew F) := ((Frm.of_below HL4.out (F := F)).trans hf5 (fun k hk => .inr (by omega))).drew
  clear hu hul hb4 hf5 C1 HM HA HR HL HT3 HD3 HM4 HA4 HR4 HT4 HL4 HU4 H0 k1 k2 m0 m1
  go_wp2_with fail
  generalize hw5 : ((w4.setCell ⟨w.heap.size, 0, none⟩ (.slice q l d)).setCell ⟨w.heap.size, 1, none⟩ (.int .i64 (T.length : Nat))) = w5 at *
  clear hw5 n0 n1 o0 o1
  have i1 : w5.cell? ⟨w.heap.size + 1, 1, none⟩ = some (.int .i64 n) := HA5.out.cell
  have i2 : w5.cell? ⟨w.heap.size + 1, 2, none⟩ = some (.int .u64 (s : Nat)) := HA5.out.cell
  have i3 : w5.cell? ⟨w.heap.size, 0, none⟩ = some (.slice q l d) := HM5.out.cell
  have i4 : w5.cell? ⟨w.heap.size, 1, none⟩ = some (.int .i64 (T.length : Nat)) := HM5.out.cell
  refine wp_region_any (by kernel_rfl) ?_
  change wpAny _ _ _ _ _ _ _ (World.drew _)
  refine anyN_take (v := ?_) 1 rfl (by kernel_rfl) (by kernel_rfl) (by kernel_rfl) (fun _ _ _ h => h) (Or.inl ⟨by rfl, ?_⟩) ?_
  rotate_left
  focus
    intro w9
    go_simp
    try with_reducible rfl
  try simp only [Act.put, List.setIfInBounds_toArray, List.set_cons_zero, List.set_cons_succ]
  refine anyN_take (v := ?_) 2 rfl (by kernel_rfl) (by kernel_rfl) (by kernel_rfl) (fun _ _ _ h => h) (Or.inl ⟨by rfl, ?_⟩) ?_
  rotate_left
  focus
    intro w9
    go_simp
    try with_reducible rfl
  try simp only [Act.put, List.setIfInBounds_toArray, List.set_cons_zero, List.set_cons_succ]
  refine anyN_take (v := ?_) 4 rfl (by kernel_rfl) (by kernel_rfl) (by kernel_rfl) (fun _ _ _ h => h) (Or.inl ⟨by rfl, ?_⟩) ?_
  rotate_left
  focus
    intro w9
    go_simp
    try with_reducible rfl
  try simp only [Act.put, List.setIfInBounds_toArray, List.set_cons_zero, List.set_cons_succ]
  refine anyN_take (v := ?_) 7 rfl (by kernel_rfl) (by kernel_rfl) (by kernel_rfl) (fun _ _ _ h => h) (Or.inl ⟨by rfl, ?_⟩) ?_
  rotate_left
  focus
    intro w9
    go_simp
    try with_reducible rfl
  try simp only [Act.put, List.setIfInBounds_toArray, List.set_cons_zero, List.set_cons_succ]
  refine wpAny_ready (rs := [0, 3, 5]) (by kernel_rfl) (by simp) ?_
  refine anyN_cons 0 rfl (by rfl) (fun K hK => ?_) (anyN_cons 3 rfl (by rfl) (fun K hK => ?_) (anyN_cons 5 rfl (by rfl) (fun K hK => ?_) (AllReady.nil)))
  · go_simp
    refine hK.out _ _ ?_
    clear hK K
    try simp only [Act.put, List.setIfInBounds_toArray, List.set_cons_zero, List.set_cons_succ]
    refine wpAny_ready (rs := [3, 5]) (by kernel_rfl) (by simp) ?_
    refine anyN_cons 3 rfl (by rfl) (fun K hK => ?_) (anyN_cons 5 rfl (by rfl) (fun K hK => ?_) (AllReady.nil))
    · go_simp
      refine hK.out _ _ ?_
      clear hK K
      try simp only [Act.put, List.setIfInBounds_toArray, List.set_cons_zero, List.set_cons_succ]
      refine wpAny_ready (rs := [5]) (by kernel_rfl) (by simp) ?_
      refine anyN_cons 5 rfl (by rfl) (fun K hK => ?_) AllReady.nil
      go_simp
      refine hK.out _ _ ?_
      clear hK K
      try simp only [Act.put, List.setIfInBounds_toArray, List.set_cons_zero, List.set_cons_succ]
      refine wpAny_ready (rs := [6]) (by kernel_rfl) (by simp) ?_
      refine anyN_cons 6 rfl (by rfl) (fun K hK => ?_) AllReady.nil
      go_simp
      refine (commit_any F tb T n s _ HT5.out HN.out.1 HN.out.2).mono ?_
      rintro e w6 ⟨rfl, ht6, hf6⟩
      dsimp only
      have HT6 : Hid (Sta w6 F tb _) := ht6
      have hkp : ∀ k, ¬ F k → k < w5.heap.size → w6.heap[k]? = w5.heap[k]? := fun k h1 h2 => hf6.block k h2 h1
      have HM6 : Hid (BoxT w6 w.heap.size #[.slice q l d, .int .i64 (T.length : Nat)] 27) := (hkp _ (fun hf => by have := HFL.out _ hf; omega) HM5.out.lt).trans HM5.out
      have HA6 : Hid (BoxT w6 (w.heap.size + 1) _ 33) := (hkp _ (fun hf => by have := HFL.out _ hf; omega) HA5.out.lt).trans HA5.out
      have HR6 : Hid (BoxT w6 (w.heap.size + 2) #[.slice none 0 0, .int .i64 0] 27) := (hkp _ (fun hf => by have := HFL.out _ hf; omega) HR5.out.lt).trans HR5.out
      have HD6 : Hid (DocT w6 0 (.slice q l d) _) := HD5.out.block (fun g hg => hkp g (HUN.out g hg) (by obtain ⟨cur, h2⟩ := own_cells HD5.out hg; exact (Array.getElem?_eq_some_iff.1 h2).1))
      have HF6 : Hid (Frm w w6 F) := HF5.out.trans hf6 (fun k hk => .inl hk)
      have e0 : w6.cell? ⟨w.heap.size, 0, none⟩ = some (.slice q l d) := HM6.out.cell
      have e1 : w6.cell? ⟨w.heap.size, 1, none⟩ = some (.int .i64 (T.length : Nat)) := HM6.out.cell
      have g0 : w6.cell? ⟨w.heap.size + 2, 0, none⟩ = some (.slice none 0 0) := HR6.out.cell
      have g1 : w6.cell? ⟨w.heap.size + 2, 1, none⟩ = some (.int .i64 0) := HR6.out.cell
      have y0 : w6.frozen? ⟨w.heap.size + 2, 0, none⟩ = false := HR6.out.frozen
      have y1 : w6.frozen? ⟨w.heap.size + 2, 1, none⟩ = false := HR6.out.frozen
      clear ht6 hf6 hkp
      refine hK.out _ _ ?_
      clear hK K
      try simp only [Act.put, List.setIfInBounds_toArray, List.set_cons_zero, List.set_cons_succ]
      refine anyN_take (v := ?_) 8 rfl (by kernel_rfl) (by kernel_rfl) (by kernel_rfl) (fun _ _ _ h => h) (Or.inl ⟨by rfl, ?_⟩) ?_
      rotate_left
      focus
        intro w9
        go_simp
        try with_reducible rfl
      try simp only [Act.put, List.setIfInBounds_toArray, List.set_cons_zero, List.set_cons_succ]
      refine wpAny_ready (rs := [9]) (by kernel_rfl) (by simp) ?_
      refine anyN_cons 9 rfl (by rfl) (fun K hK => ?_) AllReady.nil
      go_simp
      refine hK.out _ _ ?_
      clear hK K
      try simp only [Act.put, List.setIfInBounds_toArray, List.set_cons_zero, List.set_cons_succ]
      refine wpAny_ready (rs := [10]) (by kernel_rfl) (by simp) ?_
      refine anyN_cons 10 rfl (by rfl) (fun K hK => ?_) AllReady.nil
      go_simp
      refine hK.out _ _ ?_
      clear hK K
      try simp only [Act.put, List.setIfInBounds_toArray, List.set_cons_zero, List.set_cons_succ]
      refine wpAny_done (by kernel_rfl) ?_ _
      have hfz : Frm w6 ((w6.setCell ⟨w.heap.size + 2, 0, none⟩ (.slice q l d)).setCell ⟨w.heap.size + 2, 1, none⟩ (.int .i64 (T.length : Nat))) (fun k => k = w.heap.size + 2) := (frm_set w6 _ 0 _ (F := fun k => k = w.heap.size + 2) rfl).trans (frm_set _ _ 1 _ (F := fun k => k = w.heap.size + 2) rfl) (fun k hk => .inl hk)
      have HBE : Hid (BoxT ((w6.setCell ⟨w.heap.size + 2, 0, none⟩ (.slice q l d)).setCell ⟨w.heap.size + 2, 1, none⟩ (.int .i64 (T.length : Nat))) (w.heap.size + 2) #[.slice q l d, .int .i64 (T.length : Nat)] 27) := (HR6.out.set (i := 0) _).set (i := 1) _
      have q0 : ((w6.setCell ⟨w.heap.size + 2, 0, none⟩ (.slice q l d)).setCell ⟨w.heap.size + 2, 1, none⟩ (.int .i64 (T.length : Nat))).cell? ⟨w.heap.size + 2, 0, none⟩ = some (.slice q l d) := HBE.out.cell
      have q1 : ((w6.setCell ⟨w.heap.size + 2, 0, none⟩ (.slice q l d)).setCell ⟨w.heap.size + 2, 1, none⟩ (.int .i64 (T.length : Nat))).cell? ⟨w.heap.size + 2, 1, none⟩ = some (.int .i64 (T.length : Nat)) := HBE.out.cell
      have HTE : Hid (Sta ((w6.setCell ⟨w.heap.size + 2, 0, none⟩ (.slice q l d)).setCell ⟨w.heap.size + 2, 1, none⟩ (.int .i64 (T.length : Nat))) F tb _) := HT6.out.keep hfz (fun k hk e => by have := HFL.out _ hk; omega)
      have HDE : Hid (DocT ((w6.setCell ⟨w.heap.size + 2, 0, none⟩ (.slice q l d)).setCell ⟨w.heap.size + 2, 1, none⟩ (.int .i64 (T.length : Nat))) 0 (.slice q l d) _) := HD6.out.block (fun g hg => hfz.block g (by obtain ⟨cur, h2⟩ := own_cells HD6.out hg; exact (Array.getElem?_eq_some_iff.1 h2).1) (HUB.out g hg))
      have HFE : Hid (Frm w ((w6.setCell ⟨w.heap.size + 2, 0, none⟩ (.slice q l d)).setCell ⟨w.heap.size + 2, 1, none⟩ (.int .i64 (T.length : Nat))) F) := HF6.out.trans hfz (fun k hk => .inr (by omega))
      clear hfz
      generalize ((w6.setCell ⟨w.heap.size + 2, 0, none⟩ (.slice q l d)).setCell ⟨w.heap.size + 2, 1, none⟩ (.int .i64 (T.length : Nat))) = wz at *
      go_wp2_with fail
      have hln := HTL.out
      refine bodyPost_ret (v := .tuple #[tvD (.slice q l d) T.length, .bool true]) (by simp [results, Try.results9, go_sem, q0, q1]) rfl ?_
      exact ⟨⟨_, F, by rw [hln], HTE.out, HDE.out, HUN.out, fun k hk => .inl hk, HUL.out⟩, HFE.out⟩
    · go_simp
      refine hK.out _ _ ?_
      clear hK K
      try simp only [Act.put, List.setIfInBounds_toArray, List.set_cons_zero, List.set_cons_succ]
      refine wpAny_ready (rs := [3]) (by kernel_rfl) (by simp) ?_
      refine anyN_cons 3 rfl (by rfl) (fun K hK => ?_) AllReady.nil
      go_simp
      refine hK.out _ _ ?_
      clear hK K
      try simp only [Act.put, List.setIfInBounds_toArray, List.set_cons_zero, List.set_cons_succ]
      refine wpAny_ready (rs := [6]) (by kernel_rfl) (by simp) ?_
      refine anyN_cons 6 rfl (by rfl) (fun K hK => ?_) AllReady.nil
      go_simp
      refine (commit_any F tb T n s _ HT5.out HN.out.1 HN.out.2).mono ?_
      rintro e w6 ⟨rfl, ht6, hf6⟩
      dsimp only
      have HT6 : Hid (Sta w6 F tb _) := ht6
      have hkp : ∀ k, ¬ F k → k < w5.heap.size → w6.heap[k]? = w5.heap[k]? := fun k h1 h2 => hf6.block k h2 h1
      have HM6 : Hid (BoxT w6 w.heap.size #[.slice q l d, .int .i64 (T.length : Nat)] 27) := (hkp _ (fun hf => by have := HFL.out _ hf; omega) HM5.out.lt).trans HM5.out
      have HA6 : Hid (BoxT w6 (w.heap.size + 1) _ 33) := (hkp _ (fun hf => by have := HFL.out _ hf; omega) HA5.out.lt).trans HA5.out
      have HR6 : Hid (BoxT w6 (w.heap.size + 2) #[.slice none 0 0, .int .i64 0] 27) := (hkp _ (fun hf => by have := HFL.out _ hf; omega) HR5.out.lt).trans HR5.out
      have HD6 : Hid (DocT w6 0 (.slice q l d) _) := HD5.out.block (fun g hg => hkp g (HUN.out g hg) (by obtain ⟨cur, h2⟩ := own_cells HD5.out hg; exact (Array.getElem?_eq_some_iff.1 h2).1))
      have HF6 : Hid (Frm w w6 F) := HF5.out.trans hf6 (fun k hk => .inl hk)
      have e0 : w6.cell? ⟨w.heap.size, 0, none⟩ = some (.slice q l d) := HM6.out.cell
      have e1 : w6.cell? ⟨w.heap.size, 1, none⟩ = some (.int .i64 (T.length : Nat)) := HM6.out.cell
      have g0 : w6.cell? ⟨w.heap.size + 2, 0, none⟩ = some (.slice none 0 0) := HR6.out.cell
      have g1 : w6.cell? ⟨w.heap.size + 2, 1, none⟩ = some (.int .i64 0) := HR6.out.cell
      have y0 : w6.frozen? ⟨w.heap.size + 2, 0, none⟩ = false := HR6.out.frozen
      have y1 : w6.frozen? ⟨w.heap.size + 2, 1, none⟩ = false := HR6.out.frozen
      clear ht6 hf6 hkp
      refine hK.out _ _ ?_
      clear hK K
      try simp only [Act.put, List.setIfInBounds_toArray, List.set_cons_zero, List.set_cons_succ]
      refine anyN_take (v := ?_) 8 rfl (by kernel_rfl) (by kernel_rfl) (by kernel_rfl) (fun _ _ _ h => h) (Or.inl ⟨by rfl, ?_⟩) ?_
      rotate_left
      focus
        intro w9
        go_simp
        try with_reducible rfl
      try simp only [Act.put, List.setIfInBounds_toArray, List.set_cons_zero, List.set_cons_succ]
      refine wpAny_ready (rs := [9]) (by kernel_rfl) (by simp) ?_
      refine anyN_cons 9 rfl (by rfl) (fun K hK => ?_) AllReady.nil
      go_simp
      refine hK.out _ _ ?_
      clear hK K
      try simp only [Act.put, List.setIfInBounds_toArray, List.set_cons_zero, List.set_cons_succ]
      refine wpAny_ready (rs := [10]) (by kernel_rfl) (by simp) ?_
      refine anyN_cons 10 rfl (by rfl) (fun K hK => ?_) AllReady.nil
      go_simp
      refine hK.out _ _ ?_
      clear hK K
      try simp only [Act.put, List.setIfInBounds_toArray, List.set_cons_zero, List.set_cons_succ]
      refine wpAny_done (by kernel_rfl) ?_ _
      have hfz : Frm w6 ((w6.setCell ⟨w.heap.size + 2, 0, none⟩ (.slice q l d)).setCell ⟨w.heap.size + 2, 1, none⟩ (.int .i64 (T.length : Nat))) (fun k => k = w.heap.size + 2) := (frm_set w6 _ 0 _ (F := fun k => k = w.heap.size + 2) rfl).trans (frm_set _ _ 1 _ (F := fun k => k = w.heap.size + 2) rfl) (fun k hk => .inl hk)
      have HBE : Hid (BoxT ((w6.setCell ⟨w.heap.size + 2, 0, none⟩ (.slice q l d)).setCell ⟨w.heap.size + 2, 1, none⟩ (.int .i64 (T.length : Nat))) (w.heap.size + 2) #[.slice q l d, .int .i64 (T.length : Nat)] 27) := (HR6.out.set (i := 0) _).set (i := 1) _
      have q0 : ((w6.setCell ⟨w.heap.size + 2, 0, none⟩ (.slice q l d)).setCell ⟨w.heap.size + 2, 1, none⟩ (.int .i64 (T.length : Nat))).cell? ⟨w.heap.size + 2, 0, none⟩ = some (.slice q l d) := HBE.out.cell
      have q1 : ((w6.setCell ⟨w.heap.size + 2, 0, none⟩ (.slice q l d)).setCell ⟨w.heap.size + 2, 1, none⟩ (.int .i64 (T.length : Nat))).cell? ⟨w.heap.size + 2, 1, none⟩ = some (.int .i64 (T.length : Nat)) := HBE.out.cell
      have HTE : Hid (Sta ((w6.setCell ⟨w.heap.size + 2, 0, none⟩ (.slice q l d)).setCell ⟨w.heap.size + 2, 1, none⟩ (.int .i64 (T.length : Nat))) F tb _) := HT6.out.keep hfz (fun k hk e => by have := HFL.out _ hk; omega)
      have HDE : Hid (DocT ((w6.setCell ⟨w.heap.size + 2, 0, none⟩ (.slice q l d)).setCell ⟨w.heap.size + 2, 1, none⟩ (.int .i64 (T.length : Nat))) 0 (.slice q l d) _) := HD6.out.block (fun g hg => hfz.block g (by obtain ⟨cur, h2⟩ := own_cells HD6.out hg; exact (Array.getElem?_eq_some_iff.1 h2).1) (HUB.out g hg))
      have HFE : Hid (Frm w ((w6.setCell ⟨w.heap.size + 2, 0, none⟩ (.slice q l d)).setCell ⟨w.heap.size + 2, 1, none⟩ (.int .i64 (T.length : Nat))) F) := HF6.out.trans hfz (fun k hk => .inr (by omega))
      clear hfz
      generalize ((w6.setCell ⟨w.heap.size + 2, 0, none⟩ (.slice q l d)).setCell ⟨w.heap.size + 2, 1, none⟩ (.int .i64 (T.length : Nat))) = wz at *
      go_wp2_with fail
      have hln := HTL.out
      refine bodyPost_ret (v := .tuple #[tvD (.slice q l d) T.length, .bool true]) (by simp [results, Try.results9, go_sem, q0, q1]) rfl ?_
      exact ⟨⟨_, F, by rw [hln], HTE.out, HDE.out, HUN.out, fun k hk => .inl hk, HUL.out⟩, HFE.out⟩
  · go_simp
    refine hK.out _ _ ?_
    clear hK K
    try simp only [Act.put, List.setIfInBounds_toArray, List.set_cons_zero, List.set_cons_succ]
    refine wpAny_ready (rs := [0, 5]) (by kernel_rfl) (by simp) ?_
    refine anyN_cons 0 rfl (by rfl) (fun K hK => ?_) (anyN_cons 5 rfl (by rfl) (fun K hK => ?_) (AllReady.nil))
    · go_simp
      refine hK.out _ _ ?_
      clear hK K
      try simp only [Act.put, List.setIfInBounds_toArray, List.set_cons_zero, List.set_cons_succ]
      refine wpAny_ready (rs := [5]) (by kernel_rfl) (by simp) ?_
      refine anyN_cons 5 rfl (by rfl) (fun K hK => ?_) AllReady.nil
      go_simp
      refine hK.out _ _ ?_
      clear hK K
      try simp only [Act.put, List.setIfInBounds_toArray, List.set_cons_zero, List.set_cons_succ]
      refine wpAny_ready (rs := [6]) (by kernel_rfl) (by simp) ?_
      refine anyN_cons 6 rfl (by rfl) (fun K hK => ?_) AllReady.nil
      go_simp
      refine (commit_any F tb T n s _ HT5.out HN.out.1 HN.out.2).mono ?_
      rintro e w6 ⟨rfl, ht6, hf6⟩
      dsimp only
      have HT6 : Hid (Sta w6 F tb _) := ht6
      have hkp : ∀ k, ¬ F k → k < w5.heap.size → w6.heap[k]? = w5.heap[k]? := fun k h1 h2 => hf6.block k h2 h1
      have HM6 : Hid (BoxT w6 w.heap.size #[.slice q l d, .int .i64 (T.length : Nat)] 27) := (hkp _ (fun hf => by have := HFL.out _ hf; omega) HM5.out.lt).trans HM5.out
      have HA6 : Hid (BoxT w6 (w.heap.size + 1) _ 33) := (hkp _ (fun hf => by have := HFL.out _ hf; omega) HA5.out.lt).trans HA5.out
      have HR6 : Hid (BoxT w6 (w.heap.size + 2) #[.slice none 0 0, .int .i64 0] 27) := (hkp _ (fun hf => by have := HFL.out _ hf; omega) HR5.out.lt).trans HR5.out
      have HD6 : Hid (DocT w6 0 (.slice q l d) _) := HD5.out.block (fun g hg => hkp g (HUN.out g hg) (by obtain ⟨cur, h2⟩ := own_cells HD5.out hg; exact (Array.getElem?_eq_some_iff.1 h2).1))
      have HF6 : Hid (Frm w w6 F) := HF5.out.trans hf6 (fun k hk => .inl hk)
      have e0 : w6.cell? ⟨w.heap.size, 0, none⟩ = some (.slice q l d) := HM6.out.cell
      have e1 : w6.cell? ⟨w.heap.size, 1, none⟩ = some (.int .i64 (T.length : Nat)) := HM6.out.cell
      have g0 : w6.cell? ⟨w.heap.size + 2, 0, none⟩ = some (.slice none 0 0) := HR6.out.cell
      have g1 : w6.cell? ⟨w.heap.size + 2, 1, none⟩ = some (.int .i64 0) := HR6.out.cell
      have y0 : w6.frozen? ⟨w.heap.size + 2, 0, none⟩ = false := HR6.out.frozen
      have y1 : w6.frozen? ⟨w.heap.size + 2, 1, none⟩ = false := HR6.out.frozen
      clear ht6 hf6 hkp
      refine hK.out _ _ ?_
      clear hK K
      try simp only [Act.put, List.setIfInBounds_toArray, List.set_cons_zero, List.set_cons_succ]
      refine anyN_take (v := ?_) 8 rfl (by kernel_rfl) (by kernel_rfl) (by kernel_rfl) (fun _ _ _ h => h) (Or.inl ⟨by rfl, ?_⟩) ?_
      rotate_left
      focus
        intro w9
        go_simp
        try with_reducible rfl
      try simp only [Act.put, List.setIfInBounds_toArray, List.set_cons_zero, List.set_cons_succ]
      refine wpAny_ready (rs := [9]) (by kernel_rfl) (by simp) ?_
      refine anyN_cons 9 rfl (by rfl) (fun K hK => ?_) AllReady.nil
      go_simp
      refine hK.out _ _ ?_
      clear hK K
      try simp only [Act.put, List.setIfInBounds_toArray, List.set_cons_zero, List.set_cons_succ]
      refine wpAny_ready (rs := [10]) (by kernel_rfl) (by simp) ?_
      refine anyN_cons 10 rfl (by rfl) (fun K hK => ?_) AllReady.nil
      go_simp
      refine hK.out _ _ ?_
      clear hK K
      try simp only [Act.put, List.setIfInBounds_toArray, List.set_cons_zero, List.set_cons_succ]
      refine wpAny_done (by kernel_rfl) ?_ _
      have hfz : Frm w6 ((w6.setCell ⟨w.heap.size + 2, 0, none⟩ (.slice q l d)).setCell ⟨w.heap.size + 2, 1, none⟩ (.int .i64 (T.length : Nat))) (fun k => k = w.heap.size + 2) := (frm_set w6 _ 0 _ (F := fun k => k = w.heap.size + 2) rfl).trans (frm_set _ _ 1 _ (F := fun k => k = w.heap.size + 2) rfl) (fun k hk => .inl hk)
      have HBE : Hid (BoxT ((w6.setCell ⟨w.heap.size + 2, 0, none⟩ (.slice q l d)).setCell ⟨w.heap.size + 2, 1, none⟩ (.int .i64 (T.length : Nat))) (w.heap.size + 2) #[.slice q l d, .int .i64 (T.length : Nat)] 27) := (HR6.out.set (i := 0) _).set (i := 1) _
      have q0 : ((w6.setCell ⟨w.heap.size + 2, 0, none⟩ (.slice q l d)).setCell ⟨w.heap.size + 2, 1, none⟩ (.int .i64 (T.length : Nat))).cell? ⟨w.heap.size + 2, 0, none⟩ = some (.slice q l d) := HBE.out.cell
      have q1 : ((w6.setCell ⟨w.heap.size + 2, 0, none⟩ (.slice q l d)).setCell ⟨w.heap.size + 2, 1, none⟩ (.int .i64 (T.length : Nat))).cell? ⟨w.heap.size + 2, 1, none⟩ = some (.int .i64 (T.length : Nat)) := HBE.out.cell
      have HTE : Hid (Sta ((w6.setCell ⟨w.heap.size + 2, 0, none⟩ (.slice q l d)).setCell ⟨w.heap.size + 2, 1, none⟩ (.int .i64 (T.length : Nat))) F tb _) := HT6.out.keep hfz (fun k hk e => by have := HFL.out _ hk; omega)
      have HDE : Hid (DocT ((w6.setCell ⟨w.heap.size + 2, 0, none⟩ (.slice q l d)).setCell ⟨w.heap.size + 2, 1, none⟩ (.int .i64 (T.length : Nat))) 0 (.slice q l d) _) := HD6.out.block (fun g hg => hfz.block g (by obtain ⟨cur, h2⟩ := own_cells HD6.out hg; exact (Array.getElem?_eq_some_iff.1 h2).1) (HUB.out g hg))
      have HFE : Hid (Frm w ((w6.setCell ⟨w.heap.size + 2, 0, none⟩ (.slice q l d)).setCell ⟨w.heap.size + 2, 1, none⟩ (.int .i64 (T.length : Nat))) F) := HF6.out.trans hfz (fun k hk => .inr (by omega))
      clear hfz
      generalize ((w6.setCell ⟨w.heap.size + 2, 0, none⟩ (.slice q l d)).setCell ⟨w.heap.size + 2, 1, none⟩ (.int .i64 (T.length : Nat))) = wz at *
      go_wp2_with fail
      have hln := HTL.out
      refine bodyPost_ret (v := .tuple #[tvD (.slice q l d) T.length, .bool true]) (by simp [results, Try.results9, go_sem, q0, q1]) rfl ?_
      exact ⟨⟨_, F, by rw [hln], HTE.out, HDE.out, HUN.out, fun k hk => .inl hk, HUL.out⟩, HFE.out⟩
    · go_simp
      refine hK.out _ _ ?_
      clear hK K
      try simp only [Act.put, List.setIfInBounds_toArray, List.set_cons_zero, List.set_cons_succ]
      refine wpAny_ready (rs := [0, 6]) (by kernel_rfl) (by simp) ?_
      refine anyN_cons 0 rfl (by rfl) (fun K hK => ?_) (anyN_cons 6 rfl (by rfl) (fun K hK => ?_) (AllReady.nil))
      · go_simp
        refine hK.out _ _ ?_
        clear hK K
        try simp only [Act.put, List.setIfInBounds_toArray, List.set_cons_zero, List.set_cons_succ]
        refine wpAny_ready (rs := [6]) (by kernel_rfl) (by simp) ?_
        refine anyN_cons 6 rfl (by rfl) (fun K hK => ?_) AllReady.nil
        go_simp
        refine (commit_any F tb T n s _ HT5.out HN.out.1 HN.out.2).mono ?_
        rintro e w6 ⟨rfl, ht6, hf6⟩
        dsimp only
        have HT6 : Hid (Sta w6 F tb _) := ht6
        have hkp : ∀ k, ¬ F k → k < w5.heap.size → w6.heap[k]? = w5.heap[k]? := fun k h1 h2 => hf6.block k h2 h1
        have HM6 : Hid (BoxT w6 w.heap.size #[.slice q l d, .int .i64 (T.length : Nat)] 27) := (hkp _ (fun hf => by have := HFL.out _ hf; omega) HM5.out.lt).trans HM5.out
        have HA6 : Hid (BoxT w6 (w.heap.size + 1) _ 33) := (hkp _ (fun hf => by have := HFL.out _ hf; omega) HA5.out.lt).trans HA5.out
        have HR6 : Hid (BoxT w6 (w.heap.size + 2) #[.slice none 0 0, .int .i64 0] 27) := (hkp _ (fun hf => by have := HFL.out _ hf; omega) HR5.out.lt).trans HR5.out
        have HD6 : Hid (DocT w6 0 (.slice q l d) _) := HD5.out.block (fun g hg => hkp g (HUN.out g hg) (by obtain ⟨cur, h2⟩ := own_cells HD5.out hg; exact (Array.getElem?_eq_some_iff.1 h2).1))
        have HF6 : Hid (Frm w w6 F) := HF5.out.trans hf6 (fun k hk => .inl hk)
        have e0 : w6.cell? ⟨w.heap.size, 0, none⟩ = some (.slice q l d) := HM6.out.cell
        have e1 : w6.cell? ⟨w.heap.size, 1, none⟩ = some (.int .i64 (T.length : Nat)) := HM6.out.cell
        have g0 : w6.cell? ⟨w.heap.size + 2, 0, none⟩ = some (.slice none 0 0) := HR6.out.cell
        have g1 : w6.cell? ⟨w.heap.size + 2, 1, none⟩ = some (.int .i64 0) := HR6.out.cell
        have y0 : w6.frozen? ⟨w.heap.size + 2, 0, none⟩ = false := HR6.out.frozen
        have y1 : w6.frozen? ⟨w.heap.size + 2, 1, none⟩ = false := HR6.out.frozen
        clear ht6 hf6 hkp
        refine hK.out _ _ ?_
        clear hK K
        try simp only [Act.put, List.setIfInBounds_toArray, List.set_cons_zero, List.set_cons_succ]
        refine anyN_take (v := ?_) 8 rfl (by kernel_rfl) (by kernel_rfl) (by kernel_rfl) (fun _ _ _ h => h) (Or.inl ⟨by rfl, ?_⟩) ?_
        rotate_left
        focus
          intro w9
          go_simp
          try with_reducible rfl
        try simp only [Act.put, List.setIfInBounds_toArray, List.set_cons_zero, List.set_cons_succ]
        refine wpAny_ready (rs := [9]) (by kernel_rfl) (by simp) ?_
        refine anyN_cons 9 rfl (by rfl) (fun K hK => ?_) AllReady.nil
        go_simp
        refine hK.out _ _ ?_
        clear hK K
        try simp only [Act.put, List.setIfInBounds_toArray, List.set_cons_zero, List.set_cons_succ]
        refine wpAny_ready (rs := [10]) (by kernel_rfl) (by simp) ?_
        refine anyN_cons 10 rfl (by rfl) (fun K hK => ?_) AllReady.nil
        go_simp
        refine hK.out _ _ ?_
        clear hK K
        try simp only [Act.put, List.setIfInBounds_toArray, List.set_cons_zero, List.set_cons_succ]
        refine wpAny_done (by kernel_rfl) ?_ _
        have hfz : Frm w6 ((w6.setCell ⟨w.heap.size + 2, 0, none⟩ (.slice q l d)).setCell ⟨w.heap.size + 2, 1, none⟩ (.int .i64 (T.length : Nat))) (fun k => k = w.heap.size + 2) := (frm_set w6 _ 0 _ (F := fun k => k = w.heap.size + 2) rfl).trans (frm_set _ _ 1 _ (F := fun k => k = w.heap.size + 2) rfl) (fun k hk => .inl hk)
        have HBE : Hid (BoxT ((w6.setCell ⟨w.heap.size + 2, 0, none⟩ (.slice q l d)).setCell ⟨w.heap.size + 2, 1, none⟩ (.int .i64 (T.length : Nat))) (w.heap.size + 2) #[.slice q l d, .int .i64 (T.length : Nat)] 27) := (HR6.out.set (i := 0) _).set (i := 1) _
        have q0 : ((w6.setCell ⟨w.heap.size + 2, 0, none⟩ (.slice q l d)).setCell ⟨w.heap.size + 2, 1, none⟩ (.int .i64 (T.length : Nat))).cell? ⟨w.heap.size + 2, 0, none⟩ = some (.slice q l d) := HBE.out.cell
        have q1 : ((w6.setCell ⟨w.heap.size + 2, 0, none⟩ (.slice q l d)).setCell ⟨w.heap.size + 2, 1, none⟩ (.int .i64 (T.length : Nat))).cell? ⟨w.heap.size + 2, 1, none⟩ = some (.int .i64 (T.length : Nat)) := HBE.out.cell
        have HTE : Hid (Sta ((w6.setCell ⟨w.heap.size + 2, 0, none⟩ (.slice q l d)).setCell ⟨w.heap.size + 2, 1, none⟩ (.int .i64 (T.length : Nat))) F tb _) := HT6.out.keep hfz (fun k hk e => by have := HFL.out _ hk; omega)
        have HDE : Hid (DocT ((w6.setCell ⟨w.heap.size + 2, 0, none⟩ (.slice q l d)).setCell ⟨w.heap.size + 2, 1, none⟩ (.int .i64 (T.length : Nat))) 0 (.slice q l d) _) := HD6.out.block (fun g hg => hfz.block g (by obtain ⟨cur, h2⟩ := own_cells HD6.out hg; exact (Array.getElem?_eq_some_iff.1 h2).1) (HUB.out g hg))
        have HFE : Hid (Frm w ((w6.setCell ⟨w.heap.size + 2, 0, none⟩ (.slice q l d)).setCell ⟨w.heap.size + 2, 1, none⟩ (.int .i64 (T.length : Nat))) F) := HF6.out.trans hfz (fun k hk => .inr (by omega))
        clear hfz
        generalize ((w6.setCell ⟨w.heap.size + 2, 0, none⟩ (.slice q l d)).setCell ⟨w.heap.size + 2, 1, none⟩ (.int .i64 (T.length : Nat))) = wz at *
        go_wp2_with fail
        have hln := HTL.out
        refine bodyPost_ret (v := .tuple #[tvD (.slice q l d) T.length, .bool true]) (by simp [results, Try.results9, go_sem, q0, q1]) rfl ?_
        exact ⟨⟨_, F, by rw [hln], HTE.out, HDE.out, HUN.out, fun k hk => .inl hk, HUL.out⟩, HFE.out⟩
      · go_simp
        refine (commit_any F tb T n s _ HT5.out HN.out.1 HN.out.2).mono ?_
        rintro e w6 ⟨rfl, ht6, hf6⟩
        dsimp only
        have HT6 : Hid (Sta w6 F tb _) := ht6
        have hkp : ∀ k, ¬ F k → k < w5.heap.size → w6.heap[k]? = w5.heap[k]? := fun k h1 h2 => hf6.block k h2 h1
        have HM6 : Hid (BoxT w6 w.heap.size #[.slice q l d, .int .i64 (T.length : Nat)] 27) := (hkp _ (fun hf => by have := HFL.out _ hf; omega) HM5.out.lt).trans HM5.out
        have HA6 : Hid (BoxT w6 (w.heap.size + 1) _ 33) := (hkp _ (fun hf => by have := HFL.out _ hf; omega) HA5.out.lt).trans HA5.out
        have HR6 : Hid (BoxT w6 (w.heap.size + 2) #[.slice none 0 0, .int .i64 0] 27) := (hkp _ (fun hf => by have := HFL.out _ hf; omega) HR5.out.lt).trans HR5.out
        have HD6 : Hid (DocT w6 0 (.slice q l d) _) := HD5.out.block (fun g hg => hkp g (HUN.out g hg) (by obtain ⟨cur, h2⟩ := own_cells HD5.out hg; exact (Array.getElem?_eq_some_iff.1 h2).1))
        have HF6 : Hid (Frm w w6 F) := HF5.out.trans hf6 (fun k hk => .inl hk)
        have e0 : w6.cell? ⟨w.heap.size, 0, none⟩ = some (.slice q l d) := HM6.out.cell
        have e1 : w6.cell? ⟨w.heap.size, 1, none⟩ = some (.int .i64 (T.length : Nat)) := HM6.out.cell
        have g0 : w6.cell? ⟨w.heap.size + 2, 0, none⟩ = some (.slice none 0 0) := HR6.out.cell
        have g1 : w6.cell? ⟨w.heap.size + 2, 1, none⟩ = some (.int .i64 0) := HR6.out.cell
        have y0 : w6.frozen? ⟨w.heap.size + 2, 0, none⟩ = false := HR6.out.frozen
        have y1 : w6.frozen? ⟨w.heap.size + 2, 1, none⟩ = false := HR6.out.frozen
        clear ht6 hf6 hkp
        refine hK.out _ _ ?_
        clear hK K
        try simp only [Act.put, List.setIfInBounds_toArray, List.set_cons_zero, List.set_cons_succ]
        refine anyN_take (v := ?_) 8 rfl (by kernel_rfl) (by kernel_rfl) (by kernel_rfl) (fun _ _ _ h => h) (Or.inl ⟨by rfl, ?_⟩) ?_
        rotate_left
        focus
          intro w9
          go_simp
          try with_reducible rfl
        try simp only [Act.put, List.setIfInBounds_toArray, List.set_cons_zero, List.set_cons_succ]
        refine wpAny_ready (rs := [0]) (by kernel_rfl) (by simp) ?_
        refine anyN_cons 0 rfl (by rfl) (fun K hK => ?_) AllReady.nil
        go_simp
        refine hK.out _ _ ?_
        clear hK K
        try simp only [Act.put, List.setIfInBounds_toArray, List.set_cons_zero, List.set_cons_succ]
        refine wpAny_ready (rs := [9]) (by kernel_rfl) (by simp) ?_
        refine anyN_cons 9 rfl (by rfl) (fun K hK => ?_) AllReady.nil
        go_simp
        refine hK.out _ _ ?_
        clear hK K
        try simp only [Act.put, List.setIfInBounds_toArray, List.set_cons_zero, List.set_cons_succ]
        refine wpAny_ready (rs := [10]) (by kernel_rfl) (by simp) ?_
        refine anyN_cons 10 rfl (by rfl) (fun K hK => ?_) AllReady.nil
        go_simp
        refine hK.out _ _ ?_
        clear hK K
        try simp only [Act.put, List.setIfInBounds_toArray, List.set_cons_zero, List.set_cons_succ]
        refine wpAny_done (by kernel_rfl) ?_ _
        have hfz : Frm w6 ((w6.setCell ⟨w.heap.size + 2, 0, none⟩ (.slice q l d)).setCell ⟨w.heap.size + 2, 1, none⟩ (.int .i64 (T.length : Nat))) (fun k => k = w.heap.size + 2) := (frm_set w6 _ 0 _ (F := fun k => k = w.heap.size + 2) rfl).trans (frm_set _ _ 1 _ (F := fun k => k = w.heap.size + 2) rfl) (fun k hk => .inl hk)
        have HBE : Hid (BoxT ((w6.setCell ⟨w.heap.size + 2, 0, none⟩ (.slice q l d)).setCell ⟨w.heap.size + 2, 1, none⟩ (.int .i64 (T.length : Nat))) (w.heap.size + 2) #[.slice q l d, .int .i64 (T.length : Nat)] 27) := (HR6.out.set (i := 0) _).set (i := 1) _
        have q0 : ((w6.setCell ⟨w.heap.size + 2, 0, none⟩ (.slice q l d)).setCell ⟨w.heap.size + 2, 1, none⟩ (.int .i64 (T.length : Nat))).cell? ⟨w.heap.size + 2, 0, none⟩ = some (.slice q l d) := HBE.out.cell
        have q1 : ((w6.setCell ⟨w.heap.size + 2, 0, none⟩ (.slice q l d)).setCell ⟨w.heap.size + 2, 1, none⟩ (.int .i64 (T.length : Nat))).cell? ⟨w.heap.size + 2, 1, none⟩ = some (.int .i64 (T.length : Nat)) := HBE.out.cell
        have HTE : Hid (Sta ((w6.setCell ⟨w.heap.size + 2, 0, none⟩ (.slice q l d)).setCell ⟨w.heap.size + 2, 1, none⟩ (.int .i64 (T.length : Nat))) F tb _) := HT6.out.keep hfz (fun k hk e => by have := HFL.out _ hk; omega)
        have HDE : Hid (DocT ((w6.setCell ⟨w.heap.size + 2, 0, none⟩ (.slice q l d)).setCell ⟨w.heap.size + 2, 1, none⟩ (.int .i64 (T.length : Nat))) 0 (.slice q l d) _) := HD6.out.block (fun g hg => hfz.block g (by obtain ⟨cur, h2⟩ := own_cells HD6.out hg; exact (Array.getElem?_eq_some_iff.1 h2).1) (HUB.out g hg))
        have HFE : Hid (Frm w ((w6.setCell ⟨w.heap.size + 2, 0, none⟩ (.slice q l d)).setCell ⟨w.heap.size + 2, 1, none⟩ (.int .i64 (T.length : Nat))) F) := HF6.out.trans hfz (fun k hk => .inr (by omega))
        clear hfz
        generalize ((w6.setCell ⟨w.heap.size + 2, 0, none⟩ (.slice q l d)).setCell ⟨w.heap.size + 2, 1, none⟩ (.int .i64 (T.length : Nat))) = wz at *
        go_wp2_with fail
        have hln := HTL.out
        refine bodyPost_ret (v := .tuple #[tvD (.slice q l d) T.length, .bool true]) (by simp [results, Try.results9, go_sem, q0, q1]) rfl ?_
        exact ⟨⟨_, F, by rw [hln], HTE.out, HDE.out, HUN.out, fun k hk => .inl hk, HUL.out⟩, HFE.out⟩
  · go_simp
    refine hK.out _ _ ?_
    clear hK K
    try simp only [Act.put, List.setIfInBounds_toArray, List.set_cons_zero, List.set_cons_succ]
    refine wpAny_ready (rs := [0, 3]) (by kernel_rfl) (by simp) ?_
    refine anyN_cons 0 rfl (by rfl) (fun K hK => ?_) (anyN_cons 3 rfl (by rfl) (fun K hK => ?_) (AllReady.nil))
    · go_simp
      refine hK.out _ _ ?_
      clear hK K
      try simp only [Act.put, List.setIfInBounds_toArray, List.set_cons_zero, List.set_cons_succ]
      refine wpAny_ready (rs := [3]) (by kernel_rfl) (by simp) ?_
      refine anyN_cons 3 rfl (by rfl) (fun K hK => ?_) AllReady.nil
      go_simp
      refine hK.out _ _ ?_
      clear hK K
      try simp only [Act.put, List.setIfInBounds_toArray, List.set_cons_zero, List.set_cons_succ]
      refine wpAny_ready (rs := [6]) (by kernel_rfl) (by simp) ?_
      refine anyN_cons 6 rfl (by rfl) (fun K hK => ?_) AllReady.nil
      go_simp
      refine (commit_any F tb T n s _ HT5.out HN.out.1 HN.out.2).mono ?_
      rintro e w6 ⟨rfl, ht6, hf6⟩
      dsimp only
      have HT6 : Hid (Sta w6 F tb _) := ht6
      have hkp : ∀ k, ¬ F k → k < w5.heap.size → w6.heap[k]? = w5.heap[k]? := fun k h1 h2 => hf6.block k h2 h1
      have HM6 : Hid (BoxT w6 w.heap.size #[.slice q l d, .int .i64 (T.length : Nat)] 27) := (hkp _ (fun hf => by have := HFL.out _ hf; omega) HM5.out.lt).trans HM5.out
      have HA6 : Hid (BoxT w6 (w.heap.size + 1) _ 33) := (hkp _ (fun hf => by have := HFL.out _ hf; omega) HA5.out.lt).trans HA5.out
      have HR6 : Hid (BoxT w6 (w.heap.size + 2) #[.slice none 0 0, .int .i64 0] 27) := (hkp _ (fun hf => by have := HFL.out _ hf; omega) HR5.out.lt).trans HR5.out
      have HD6 : Hid (DocT w6 0 (.slice q l d) _) := HD5.out.block (fun g hg => hkp g (HUN.out g hg) (by obtain ⟨cur, h2⟩ := own_cells HD5.out hg; exact (Array.getElem?_eq_some_iff.1 h2).1))
      have HF6 : Hid (Frm w w6 F) := HF5.out.trans hf6 (fun k hk => .inl hk)
      have e0 : w6.cell? ⟨w.heap.size, 0, none⟩ = some (.slice q l d) := HM6.out.cell
      have e1 : w6.cell? ⟨w.heap.size, 1, none⟩ = some (.int .i64 (T.length : Nat)) := HM6.out.cell
      have g0 : w6.cell? ⟨w.heap.size + 2, 0, none⟩ = some (.slice none 0 0) := HR6.out.cell
      have g1 : w6.cell? ⟨w.heap.size + 2, 1, none⟩ = some (.int .i64 0) := HR6.out.cell
      have y0 : w6.frozen? ⟨w.heap.size + 2, 0, none⟩ = false := HR6.out.frozen
      have y1 : w6.frozen? ⟨w.heap.size + 2, 1, none⟩ = false := HR6.out.frozen
      clear ht6 hf6 hkp
      refine hK.out _ _ ?_
      clear hK K
      try simp only [Act.put, List.setIfInBounds_toArray, List.set_cons_zero, List.set_cons_succ]
      refine anyN_take (v := ?_) 8 rfl (by kernel_rfl) (by kernel_rfl) (by kernel_rfl) (fun _ _ _ h => h) (Or.inl ⟨by rfl, ?_⟩) ?_
      rotate_left
      focus
        intro w9
        go_simp
        try with_reducible rfl
      try simp only [Act.put, List.setIfInBounds_toArray, List.set_cons_zero, List.set_cons_succ]
      refine wpAny_ready (rs := [9]) (by kernel_rfl) (by simp) ?_
      refine anyN_cons 9 rfl (by rfl) (fun K hK => ?_) AllReady.nil
      go_simp
      refine hK.out _ _ ?_
      clear hK K
      try simp only [Act.put, List.setIfInBounds_toArray, List.set_cons_zero, List.set_cons_succ]
      refine wpAny_ready (rs := [10]) (by kernel_rfl) (by simp) ?_
      refine anyN_cons 10 rfl (by rfl) (fun K hK => ?_) AllReady.nil
      go_simp
      refine hK.out _ _ ?_
      clear hK K
      try simp only [Act.put, List.setIfInBounds_toArray, List.set_cons_zero, List.set_cons_succ]
      refine wpAny_done (by kernel_rfl) ?_ _
      have hfz : Frm w6 ((w6.setCell ⟨w.heap.size + 2, 0, none⟩ (.slice q l d)).setCell ⟨w.heap.size + 2, 1, none⟩ (.int .i64 (T.length : Nat))) (fun k => k = w.heap.size + 2) := (frm_set w6 _ 0 _ (F := fun k => k = w.heap.size + 2) rfl).trans (frm_set _ _ 1 _ (F := fun k => k = w.heap.size + 2) rfl) (fun k hk => .inl hk)
      have HBE : Hid (BoxT ((w6.setCell ⟨w.heap.size + 2, 0, none⟩ (.slice q l d)).setCell ⟨w.heap.size + 2, 1, none⟩ (.int .i64 (T.length : Nat))) (w.heap.size + 2) #[.slice q l d, .int .i64 (T.length : Nat)] 27) := (HR6.out.set (i := 0) _).set (i := 1) _
      have q0 : ((w6.setCell ⟨w.heap.size + 2, 0, none⟩ (.slice q l d)).setCell ⟨w.heap.size + 2, 1, none⟩ (.int .i64 (T.length : Nat))).cell? ⟨w.heap.size + 2, 0, none⟩ = some (.slice q l d) := HBE.out.cell
      have q1 : ((w6.setCell ⟨w.heap.size + 2, 0, none⟩ (.slice q l d)).setCell ⟨w.heap.size + 2, 1, none⟩ (.int .i64 (T.length : Nat))).cell? ⟨w.heap.size + 2, 1, none⟩ = some (.int .i64 (T.length : Nat)) := HBE.out.cell
      have HTE : Hid (Sta ((w6.setCell ⟨w.heap.size + 2, 0, none⟩ (.slice q l d)).setCell ⟨w.heap.size + 2, 1, none⟩ (.int .i64 (T.length : Nat))) F tb _) := HT6.out.keep hfz (fun k hk e => by have := HFL.out _ hk; omega)
      have HDE : Hid (DocT ((w6.setCell ⟨w.heap.size + 2, 0, none⟩ (.slice q l d)).setCell ⟨w.heap.size + 2, 1, none⟩ (.int .i64 (T.length : Nat))) 0 (.slice q l d) _) := HD6.out.block (fun g hg => hfz.block g (by obtain ⟨cur, h2⟩ := own_cells HD6.out hg; exact (Array.getElem?_eq_some_iff.1 h2).1) (HUB.out g hg))
      have HFE : Hid (Frm w ((w6.setCell ⟨w.heap.size + 2, 0, none⟩ (.slice q l d)).setCell ⟨w.heap.size + 2, 1, none⟩ (.int .i64 (T.length : Nat))) F) := HF6.out.trans hfz (fun k hk => .inr (by omega))
      clear hfz
      generalize ((w6.setCell ⟨w.heap.size + 2, 0, none⟩ (.slice q l d)).setCell ⟨w.heap.size + 2, 1, none⟩ (.int .i64 (T.length : Nat))) = wz at *
      go_wp2_with fail
      have hln := HTL.out
      refine bodyPost_ret (v := .tuple #[tvD (.slice q l d) T.length, .bool true]) (by simp [results, Try.results9, go_sem, q0, q1]) rfl ?_
      exact ⟨⟨_, F, by rw [hln], HTE.out, HDE.out, HUN.out, fun k hk => .inl hk, HUL.out⟩, HFE.out⟩
    · go_simp
      refine hK.out _ _ ?_
      clear hK K
      try simp only [Act.put, List.setIfInBounds_toArray, List.set_cons_zero, List.set_cons_succ]
      refine wpAny_ready (rs := [0, 6]) (by kernel_rfl) (by simp) ?_
      refine anyN_cons 0 rfl (by rfl) (fun K hK => ?_) (anyN_cons 6 rfl (by rfl) (fun K hK => ?_) (AllReady.nil))
      · go_simp
        refine hK.out _ _ ?_
        clear hK K
        try simp only [Act.put, List.setIfInBounds_toArray, List.set_cons_zero, List.set_cons_succ]
        refine wpAny_ready (rs := [6]) (by kernel_rfl) (by simp) ?_
        refine anyN_cons 6 rfl (by rfl) (fun K hK => ?_) AllReady.nil
        go_simp
        refine (commit_any F tb T n s _ HT5.out HN.out.1 HN.out.2).mono ?_
        rintro e w6 ⟨rfl, ht6, hf6⟩
        dsimp only
        have HT6 : Hid (Sta w6 F tb _) := ht6
        have hkp : ∀ k, ¬ F k → k < w5.heap.size → w6.heap[k]? = w5.heap[k]? := fun k h1 h2 => hf6.block k h2 h1
        have HM6 : Hid (BoxT w6 w.heap.size #[.slice q l d, .int .i64 (T.length : Nat)] 27) := (hkp _ (fun hf => by have := HFL.out _ hf; omega) HM5.out.lt).trans HM5.out
        have HA6 : Hid (BoxT w6 (w.heap.size + 1) _ 33) := (hkp _ (fun hf => by have := HFL.out _ hf; omega) HA5.out.lt).trans HA5.out
        have HR6 : Hid (BoxT w6 (w.heap.size + 2) #[.slice none 0 0, .int .i64 0] 27) := (hkp _ (fun hf => by have := HFL.out _ hf; omega) HR5.out.lt).trans HR5.out
        have HD6 : Hid (DocT w6 0 (.slice q l d) _) := HD5.out.block (fun g hg => hkp g (HUN.out g hg) (by obtain ⟨cur, h2⟩ := own_cells HD5.out hg; exact (Array.getElem?_eq_some_iff.1 h2).1))
        have HF6 : Hid (Frm w w6 F) := HF5.out.trans hf6 (fun k hk => .inl hk)
        have e0 : w6.cell? ⟨w.heap.size, 0, none⟩ = some (.slice q l d) := HM6.out.cell
        have e1 : w6.cell? ⟨w.heap.size, 1, none⟩ = some (.int .i64 (T.length : Nat)) := HM6.out.cell
        have g0 : w6.cell? ⟨w.heap.size + 2, 0, none⟩ = some (.slice none 0 0) := HR6.out.cell
        have g1 : w6.cell? ⟨w.heap.size + 2, 1, none⟩ = some (.int .i64 0) := HR6.out.cell
        have y0 : w6.frozen? ⟨w.heap.size + 2, 0, none⟩ = false := HR6.out.frozen
        have y1 : w6.frozen? ⟨w.heap.size + 2, 1, none⟩ = false := HR6.out.frozen
        clear ht6 hf6 hkp
        refine hK.out _ _ ?_
        clear hK K
        try simp only [Act.put, List.setIfInBounds_toArray, List.set_cons_zero, List.set_cons_succ]
        refine anyN_take (v := ?_) 8 rfl (by kernel_rfl) (by kernel_rfl) (by kernel_rfl) (fun _ _ _ h => h) (Or.inl ⟨by rfl, ?_⟩) ?_
        rotate_left
        focus
          intro w9
          go_simp
          try with_reducible rfl
        try simp only [Act.put, List.setIfInBounds_toArray, List.set_cons_zero, List.set_cons_succ]
        refine wpAny_ready (rs := [9]) (by kernel_rfl) (by simp) ?_
        refine anyN_cons 9 rfl (by rfl) (fun K hK => ?_) AllReady.nil
        go_simp
        refine hK.out _ _ ?_
        clear hK K
        try simp only [Act.put, List.setIfInBounds_toArray, List.set_cons_zero, List.set_cons_succ]
        refine wpAny_ready (rs := [10]) (by kernel_rfl) (by simp) ?_
        refine anyN_cons 10 rfl (by rfl) (fun K hK => ?_) AllReady.nil
        go_simp
        refine hK.out _ _ ?_
        clear hK K
        try simp only [Act.put, List.setIfInBounds_toArray, List.set_cons_zero, List.set_cons_succ]
        refine wpAny_done (by kernel_rfl) ?_ _
        have hfz : Frm w6 ((w6.setCell ⟨w.heap.size + 2, 0, none⟩ (.slice q l d)).setCell ⟨w.heap.size + 2, 1, none⟩ (.int .i64 (T.length : Nat))) (fun k => k = w.heap.size + 2) := (frm_set w6 _ 0 _ (F := fun k => k = w.heap.size + 2) rfl).trans (frm_set _ _ 1 _ (F := fun k => k = w.heap.size + 2) rfl) (fun k hk => .inl hk)
        have HBE : Hid (BoxT ((w6.setCell ⟨w.heap.size + 2, 0, none⟩ (.slice q l d)).setCell ⟨w.heap.size + 2, 1, none⟩ (.int .i64 (T.length : Nat))) (w.heap.size + 2) #[.slice q l d, .int .i64 (T.length : Nat)] 27) := (HR6.out.set (i := 0) _).set (i := 1) _
        have q0 : ((w6.setCell ⟨w.heap.size + 2, 0, none⟩ (.slice q l d)).setCell ⟨w.heap.size + 2, 1, none⟩ (.int .i64 (T.length : Nat))).cell? ⟨w.heap.size + 2, 0, none⟩ = some (.slice q l d) := HBE.out.cell
        have q1 : ((w6.setCell ⟨w.heap.size + 2, 0, none⟩ (.slice q l d)).setCell ⟨w.heap.size + 2, 1, none⟩ (.int .i64 (T.length : Nat))).cell? ⟨w.heap.size + 2, 1, none⟩ = some (.int .i64 (T.length : Nat)) := HBE.out.cell
        have HTE : Hid (Sta ((w6.setCell ⟨w.heap.size + 2, 0, none⟩ (.slice q l d)).setCell ⟨w.heap.size + 2, 1, none⟩ (.int .i64 (T.length : Nat))) F tb _) := HT6.out.keep hfz (fun k hk e => by have := HFL.out _ hk; omega)
        have HDE : Hid (DocT ((w6.setCell ⟨w.heap.size + 2, 0, none⟩ (.slice q l d)).setCell ⟨w.heap.size + 2, 1, none⟩ (.int .i64 (T.length : Nat))) 0 (.slice q l d) _) := HD6.out.block (fun g hg => hfz.block g (by obtain ⟨cur, h2⟩ := own_cells HD6.out hg; exact (Array.getElem?_eq_some_iff.1 h2).1) (HUB.out g hg))
        have HFE : Hid (Frm w ((w6.setCell ⟨w.heap.size + 2, 0, none⟩ (.slice q l d)).setCell ⟨w.heap.size + 2, 1, none⟩ (.int .i64 (T.length : Nat))) F) := HF6.out.trans hfz (fun k hk => .inr (by omega))
        clear hfz
        generalize ((w6.setCell ⟨w.heap.size + 2, 0, none⟩ (.slice q l d)).setCell ⟨w.heap.size + 2, 1, none⟩ (.int .i64 (T.length : Nat))) = wz at *
        go_wp2_with fail
        have hln := HTL.out
        refine bodyPost_ret (v := .tuple #[tvD (.slice q l d) T.length, .bool true]) (by simp [results, Try.results9, go_sem, q0, q1]) rfl ?_
        exact ⟨⟨_, F, by rw [hln], HTE.out, HDE.out, HUN.out, fun k hk => .inl hk, HUL.out⟩, HFE.out⟩
      · go_simp
        refine (commit_any F tb T n s _ HT5.out HN.out.1 HN.out.2).mono ?_
        rintro e w6 ⟨rfl, ht6, hf6⟩
        dsimp only
        have HT6 : Hid (Sta w6 F tb _) := ht6
        have hkp : ∀ k, ¬ F k → k < w5.heap.size → w6.heap[k]? = w5.heap[k]? := fun k h1 h2 => hf6.block k h2 h1
        have HM6 : Hid (BoxT w6 w.heap.size #[.slice q l d, .int .i64 (T.length : Nat)] 27) := (hkp _ (fun hf => by have := HFL.out _ hf; omega) HM5.out.lt).trans HM5.out
        have HA6 : Hid (BoxT w6 (w.heap.size + 1) _ 33) := (hkp _ (fun hf => by have := HFL.out _ hf; omega) HA5.out.lt).trans HA5.out
        have HR6 : Hid (BoxT w6 (w.heap.size + 2) #[.slice none 0 0, .int .i64 0] 27) := (hkp _ (fun hf => by have := HFL.out _ hf; omega) HR5.out.lt).trans HR5.out
        have HD6 : Hid (DocT w6 0 (.slice q l d) _) := HD5.out.block (fun g hg => hkp g (HUN.out g hg) (by obtain ⟨cur, h2⟩ := own_cells HD5.out hg; exact (Array.getElem?_eq_some_iff.1 h2).1))
        have HF6 : Hid (Frm w w6 F) := HF5.out.trans hf6 (fun k hk => .inl hk)
        have e0 : w6.cell? ⟨w.heap.size, 0, none⟩ = some (.slice q l d) := HM6.out.cell
        have e1 : w6.cell? ⟨w.heap.size, 1, none⟩ = some (.int .i64 (T.length : Nat)) := HM6.out.cell
        have g0 : w6.cell? ⟨w.heap.size + 2, 0, none⟩ = some (.slice none 0 0) := HR6.out.cell
        have g1 : w6.cell? ⟨w.heap.size + 2, 1, none⟩ = some (.int .i64 0) := HR6.out.cell
        have y0 : w6.frozen? ⟨w.heap.size + 2, 0, none⟩ = false := HR6.out.frozen
        have y1 : w6.frozen? ⟨w.heap.size + 2, 1, none⟩ = false := HR6.out.frozen
        clear ht6 hf6 hkp
        refine hK.out _ _ ?_
        clear hK K
        try simp only [Act.put, List.setIfInBounds_toArray, List.set_cons_zero, List.set_cons_succ]
        refine anyN_take (v := ?_) 8 rfl (by kernel_rfl) (by kernel_rfl) (by kernel_rfl) (fun _ _ _ h => h) (Or.inl ⟨by rfl, ?_⟩) ?_
        rotate_left
        focus
          intro w9
          go_simp
          try with_reducible rfl
        try simp only [Act.put, List.setIfInBounds_toArray, List.set_cons_zero, List.set_cons_succ]
        refine wpAny_ready (rs := [0]) (by kernel_rfl) (by simp) ?_
        refine anyN_cons 0 rfl (by rfl) (fun K hK => ?_) AllReady.nil
        go_simp
        refine hK.out _ _ ?_
        clear hK K
        try simp only [Act.put, List.setIfInBounds_toArray, List.set_cons_zero, List.set_cons_succ]
        refine wpAny_ready (rs := [9]) (by kernel_rfl) (by simp) ?_
        refine anyN_cons 9 rfl (by rfl) (fun K hK => ?_) AllReady.nil
        go_simp
        refine hK.out _ _ ?_
        clear hK K
        try simp only [Act.put, List.setIfInBounds_toArray, List.set_cons_zero, List.set_cons_succ]
        refine wpAny_ready (rs := [10]) (by kernel_rfl) (by simp) ?_
        refine anyN_cons 10 rfl (by rfl) (fun K hK => ?_) AllReady.nil
        go_simp
        refine hK.out _ _ ?_
        clear hK K
        try simp only [Act.put, List.setIfInBounds_toArray, List.set_cons_zero, List.set_cons_succ]
        refine wpAny_done (by kernel_rfl) ?_ _
        have hfz : Frm w6 ((w6.setCell ⟨w.heap.size + 2, 0, none⟩ (.slice q l d)).setCell ⟨w.heap.size + 2, 1, none⟩ (.int .i64 (T.length : Nat))) (fun k => k = w.heap.size + 2) := (frm_set w6 _ 0 _ (F := fun k => k = w.heap.size + 2) rfl).trans (frm_set _ _ 1 _ (F := fun k => k = w.heap.size + 2) rfl) (fun k hk => .inl hk)
        have HBE : Hid (BoxT ((w6.setCell ⟨w.heap.size + 2, 0, none⟩ (.slice q l d)).setCell ⟨w.heap.size + 2, 1, none⟩ (.int .i64 (T.length : Nat))) (w.heap.size + 2) #[.slice q l d, .int .i64 (T.length : Nat)] 27) := (HR6.out.set (i := 0) _).set (i := 1) _
        have q0 : ((w6.setCell ⟨w.heap.size + 2, 0, none⟩ (.slice q l d)).setCell ⟨w.heap.size + 2, 1, none⟩ (.int .i64 (T.length : Nat))).cell? ⟨w.heap.size + 2, 0, none⟩ = some (.slice q l d) := HBE.out.cell
        have q1 : ((w6.setCell ⟨w.heap.size + 2, 0, none⟩ (.slice q l d)).setCell ⟨w.heap.size + 2, 1, none⟩ (.int .i64 (T.length : Nat))).cell? ⟨w.heap.size + 2, 1, none⟩ = some (.int .i64 (T.length : Nat)) := HBE.out.cell
        have HTE : Hid (Sta ((w6.setCell ⟨w.heap.size + 2, 0, none⟩ (.slice q l d)).setCell ⟨w.heap.size + 2, 1, none⟩ (.int .i64 (T.length : Nat))) F tb _) := HT6.out.keep hfz (fun k hk e => by have := HFL.out _ hk; omega)
        have HDE : Hid (DocT ((w6.setCell ⟨w.heap.size + 2, 0, none⟩ (.slice q l d)).setCell ⟨w.heap.size + 2, 1, none⟩ (.int .i64 (T.length : Nat))) 0 (.slice q l d) _) := HD6.out.block (fun g hg => hfz.block g (by obtain ⟨cur, h2⟩ := own_cells HD6.out hg; exact (Array.getElem?_eq_some_iff.1 h2).1) (HUB.out g hg))
        have HFE : Hid (Frm w ((w6.setCell ⟨w.heap.size + 2, 0, none⟩ (.slice q l d)).setCell ⟨w.heap.size + 2, 1, none⟩ (.int .i64 (T.length : Nat))) F) := HF6.out.trans hfz (fun k hk => .inr (by omega))
        clear hfz
        generalize ((w6.setCell ⟨w.heap.size + 2, 0, none⟩ (.slice q l d)).setCell ⟨w.heap.size + 2, 1, none⟩ (.int .i64 (T.length : Nat))) = wz at *
        go_wp2_with fail
        have hln := HTL.out
        refine bodyPost_ret (v := .tuple #[tvD (.slice q l d) T.length, .bool true]) (by simp [results, Try.results9, go_sem, q0, q1]) rfl ?_
        exact ⟨⟨_, F, by rw [hln], HTE.out, HDE.out, HUN.out, fun k hk => .inl hk, HUL.out⟩, HFE.out⟩
end Go.Proofs.Ytmcdpadmjicafaa
