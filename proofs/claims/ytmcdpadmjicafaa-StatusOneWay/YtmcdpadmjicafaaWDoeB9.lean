/- does: Begin; an act of no kind. -/
import Derived.Test.YtmcdpadmjicafaaWIs9
import Derived.Test.YtmcdpadmjicafaaMLaw9
namespace Go.Proofs.Ytmcdpadmjicafaa
open Go.RowKit Go.Maps
set_option maxRecDepth 100000

theorem beg_doc (T : List Tx) (h : ∀ x ∈ T, x.gone = true → decd x.wd = true) : begD (docA 0 T) T.length = (docA 0 (begT T).1, (begT T).1.length, (begT T).2.1, (begT T).2.2) := by
  unfold begD begT
  rw [open_doc T 0 h]
  split
  · rfl
  · rw [docA_app T 0 ⟨0, false⟩ rfl, List.length_append, List.length_singleton]
    simp [stO, spO]

set_option maxHeartbeats 4000000 in
theorem doesB_any (F : Nat → Prop) (tb : Nat) (T : List Tx) (v : Value) (n : Int) (s : Nat) (w : World) (ht : Sta w F tb T) (hd : DocT w 0 v (docA 0 T)) (hv : ∀ g, v.ownBlock = some g → ¬ F g) (hlen : T.length < 4000000000000) (hn1 : -9223372036854775808 ≤ n) (hn2 : n < 9223372036854775808) :
    Calls Try.prog 9 #[ptr1 tb, tvD v T.length, .agg #[.int .i64 0, .int .i64 n, .int .u64 (s : Nat)]] w fun e w' => (∃ u F', e = .returned (.tuple #[tvD u ((begT T).1).length, .bool true]) ∧ Sta w' F' tb ((begT T).1) ∧ DocT w' 0 u (docA 0 ((begT T).1)) ∧ (∀ g, u.ownBlock = some g → ¬ F' g) ∧ (∀ k, F' k → F k ∨ w.heap.size ≤ k) ∧ ∀ g, u.ownBlock = some g → v.ownBlock = some g ∨ w.heap.size ≤ g) ∧ Frm w w' F := by
  obtain ⟨T1, bn, be, hbt⟩ : ∃ T1 bn be, begT T = (T1, bn, be) := ⟨_, _, _, rfl⟩
  rw [hbt]
  obtain ⟨p, c, rfl, _⟩ := hd.rd
  have HDL : Hid ((docA 0 T).length < 5000000000000) := Nat.lt_of_le_of_lt (docA_len T 0) (by omega)
  have HLN : Hid (T.length < 4000000000000) := hlen
  have HN : Hid (-9223372036854775808 ≤ n ∧ n < 9223372036854775808) := ⟨hn1, hn2⟩
  have HGON : Hid (∀ x ∈ T, x.gone = true → decd x.wd = true) := by
    obtain ⟨_, _, _, _, hx⟩ := ht
    exact hx.gon
  have HFL : Hid (∀ k, F k → k < w.heap.size) := fun k hk => by
    obtain ⟨mb, ov, B, O, hh⟩ := ht
    exact hh.flt k hk
  have HV : Hid (∀ g, (Value.slice p (docA 0 T).length c).ownBlock = some g → ¬ F g) := hv
  have HVL : Hid (∀ g, (Value.slice p (docA 0 T).length c).ownBlock = some g → g < w.heap.size) := fun g hg => by
    obtain ⟨cur, h2⟩ := own_cells hd hg
    exact (Array.getElem?_eq_some_iff.1 h2).1
  have H0 : Hid (Sta w F tb T ∧ DocT w 0 (.slice p (docA 0 T).length c) (docA 0 T)) := ⟨ht, hd⟩
  clear ht hd hv hlen hn1 hn2
  go_enter Try.func9, Try.ntmps9
  have hs1 : (w.alloc (.cells #[.slice p (docA 0 T).length c, .int .i64 (T.length : Nat)] 27)).heap.size = w.heap.size + 1 := by simp
  have X1 : BoxT (w.alloc (.cells #[.slice p (docA 0 T).length c, .int .i64 (T.length : Nat)] 27)) w.heap.size #[.slice p (docA 0 T).length c, .int .i64 (T.length : Nat)] 27 := BoxT.new _ _ _
  have L1 : Below w.heap.size w (w.alloc (.cells #[.slice p (docA 0 T).length c, .int .i64 (T.length : Nat)] 27)) := (Below.refl _ _).alloc (Nat.le_refl _) _
  have hs2 : ((w.alloc (.cells #[.slice p (docA 0 T).length c, .int .i64 (T.length : Nat)] 27)).alloc (.cells #[.int .i64 0, .int .i64 n, .int .u64 (s : Nat)] 33)).heap.size = w.heap.size + 2 := by simp
  have X2 : BoxT ((w.alloc (.cells #[.slice p (docA 0 T).length c, .int .i64 (T.length : Nat)] 27)).alloc (.cells #[.int .i64 0, .int .i64 n, .int .u64 (s : Nat)] 33)) (w.heap.size + 1) #[.int .i64 0, .int .i64 n, .int .u64 (s : Nat)] 33 := by rw [← hs1]; exact BoxT.new _ _ _
  have L2 : Below (w.alloc (.cells #[.slice p (docA 0 T).length c, .int .i64 (T.length : Nat)] 27)).heap.size (w.alloc (.cells #[.slice p (docA 0 T).length c, .int .i64 (T.length : Nat)] 27)) ((w.alloc (.cells #[.slice p (docA 0 T).length c, .int .i64 (T.length : Nat)] 27)).alloc (.cells #[.int .i64 0, .int .i64 n, .int .u64 (s : Nat)] 33)) := (Below.refl _ _).alloc (Nat.le_refl _) _
  have X3 : BoxT (((w.alloc (.cells #[.slice p (docA 0 T).length c, .int .i64 (T.length : Nat)] 27)).alloc (.cells #[.int .i64 0, .int .i64 n, .int .u64 (s : Nat)] 33)).alloc (.cells #[.slice none 0 0, .int .i64 0] 27)) (w.heap.size + 2) #[.slice none 0 0, .int .i64 0] 27 := by rw [← hs2]; exact BoxT.new _ _ _
  have L3 : Below ((w.alloc (.cells #[.slice p (docA 0 T).length c, .int .i64 (T.length : Nat)] 27)).alloc (.cells #[.int .i64 0, .int .i64 n, .int .u64 (s : Nat)] 33)).heap.size ((w.alloc (.cells #[.slice p (docA 0 T).length c, .int .i64 (T.length : Nat)] 27)).alloc (.cells #[.int .i64 0, .int .i64 n, .int .u64 (s : Nat)] 33)) (((w.alloc (.cells #[.slice p (docA 0 T).length c, .int .i64 (T.length : Nat)] 27)).alloc (.cells #[.int .i64 0, .int .i64 n, .int .u64 (s : Nat)] 33)).alloc (.cells #[.slice none 0 0, .int .i64 0] 27)) := (Below.refl _ _).alloc (Nat.le_refl _) _
  have HM : Hid (BoxT (((w.alloc (.cells #[.slice p (docA 0 T).length c, .int .i64 (T.length : Nat)] 27)).alloc (.cells #[.int .i64 0, .int .i64 n, .int .u64 (s : Nat)] 33)).alloc (.cells #[.slice none 0 0, .int .i64 0] 27)) w.heap.size #[.slice p (docA 0 T).length c, .int .i64 (T.length : Nat)] 27) := (X1.on L2).on L3
  have HA : Hid (BoxT (((w.alloc (.cells #[.slice p (docA 0 T).length c, .int .i64 (T.length : Nat)] 27)).alloc (.cells #[.int .i64 0, .int .i64 n, .int .u64 (s : Nat)] 33)).alloc (.cells #[.slice none 0 0, .int .i64 0] 27)) (w.heap.size + 1) #[.int .i64 0, .int .i64 n, .int .u64 (s : Nat)] 33) := X2.on L3
  have HR : Hid (BoxT (((w.alloc (.cells #[.slice p (docA 0 T).length c, .int .i64 (T.length : Nat)] 27)).alloc (.cells #[.int .i64 0, .int .i64 n, .int .u64 (s : Nat)] 33)).alloc (.cells #[.slice none 0 0, .int .i64 0] 27)) (w.heap.size + 2) #[.slice none 0 0, .int .i64 0] 27) := X3
  have HL : Hid (Below w.heap.size w (((w.alloc (.cells #[.slice p (docA 0 T).length c, .int .i64 (T.length : Nat)] 27)).alloc (.cells #[.int .i64 0, .int .i64 n, .int .u64 (s : Nat)] 33)).alloc (.cells #[.slice none 0 0, .int .i64 0] 27))) := (L1.trans (L2.mono (by omega))).trans (L3.mono (by omega))
  have k0 : (((w.alloc (.cells #[.slice p (docA 0 T).length c, .int .i64 (T.length : Nat)] 27)).alloc (.cells #[.int .i64 0, .int .i64 n, .int .u64 (s : Nat)] 33)).alloc (.cells #[.slice none 0 0, .int .i64 0] 27)).cell? ⟨w.heap.size + 1, 0, none⟩ = some (.int .i64 0) := HA.out.cell
  have k1 : (((w.alloc (.cells #[.slice p (docA 0 T).length c, .int .i64 (T.length : Nat)] 27)).alloc (.cells #[.int .i64 0, .int .i64 n, .int .u64 (s : Nat)] 33)).alloc (.cells #[.slice none 0 0, .int .i64 0] 27)).cell? ⟨w.heap.size + 1, 1, none⟩ = some (.int .i64 n) := HA.out.cell
  have k2 : (((w.alloc (.cells #[.slice p (docA 0 T).length c, .int .i64 (T.length : Nat)] 27)).alloc (.cells #[.int .i64 0, .int .i64 n, .int .u64 (s : Nat)] 33)).alloc (.cells #[.slice none 0 0, .int .i64 0] 27)).cell? ⟨w.heap.size + 1, 2, none⟩ = some (.int .u64 (s : Nat)) := HA.out.cell
  have m0 : (((w.alloc (.cells #[.slice p (docA 0 T).length c, .int .i64 (T.length : Nat)] 27)).alloc (.cells #[.int .i64 0, .int .i64 n, .int .u64 (s : Nat)] 33)).alloc (.cells #[.slice none 0 0, .int .i64 0] 27)).cell? ⟨w.heap.size, 0, none⟩ = some (.slice p (docA 0 T).length c) := HM.out.cell
  have m1 : (((w.alloc (.cells #[.slice p (docA 0 T).length c, .int .i64 (T.length : Nat)] 27)).alloc (.cells #[.int .i64 0, .int .i64 n, .int .u64 (s : Nat)] 33)).alloc (.cells #[.slice none 0 0, .int .i64 0] 27)).cell? ⟨w.heap.size, 1, none⟩ = some (.int .i64 (T.length : Nat)) := HM.out.cell
  clear hs1 X1 L1 hs2 X2 L2 X3 L3
  go_wp2_with fail
  generalize ((w.alloc (.cells #[.slice p (docA 0 T).length c, .int .i64 (T.length : Nat)] 27)).alloc (.cells #[.int .i64 0, .int .i64 n, .int .u64 (s : Nat)] 33)).alloc (.cells #[.slice none 0 0, .int .i64 0] 27) = w3 at *
  have HT3 : Hid (Sta w3 F tb T) := H0.out.1.keep (Frm.of_below HL.out (F := fun _ => False)) (fun k _ hn => hn)
  have HD3 : Hid (DocT w3 0 (.slice p (docA 0 T).length c) (docA 0 T)) := owns_kept H0.out.2 HL.out
  have HZ3 : Hid (w.heap.size + 2 < w3.heap.size) := HR.out.lt
  have C1 : Hid (Calls Try.prog 12 #[tvD (.slice p (docA 0 T).length c) T.length] w3 fun e w' => (∃ u, e = .returned (.tuple #[tvD u T1.length, .int .i64 bn, .int .i64 be]) ∧ DocT w' 0 u (docA 0 T1) ∧ ∀ g, u.ownBlock = some g → (Value.slice p (docA 0 T).length c).ownBlock = some g ∨ w3.heap.size ≤ g) ∧ Below w3.heap.size w3 w') := by
    have h := rbegin_any (docA 0 T) _ T.length 0 w3 HD3.out HDL.out (by have := HLN.out; omega)
    rw [beg_doc T HGON.out, hbt] at h
    exact h
  have C2 : Hid (∀ w1, Sta w1 F tb T → Calls Try.prog 11 #[ptr1 tb] w1 fun e w' => e = .returned (.tuple #[.int .i64 bn, .int .i64 be]) ∧ (∃ F', (∀ k, F' k → F k ∨ w1.heap.size ≤ k) ∧ Sta w' F' tb T1) ∧ Frm w1 w' F) := fun w1 h1 => by
    have h := begin_any F tb T w1 h1 (by have := HLN.out; omega)
    rw [hbt] at h
    exact h
  clear k0 hbt
  refine C1.out.mono ?_
  rintro e w4 ⟨⟨u, rfl, hu, hul⟩, hb4⟩
  obtain ⟨q, l, d, rfl⟩ : ∃ q l c, u = .slice q l c := by
    obtain ⟨q, cq, eu, _⟩ := hu.rd
    exact ⟨_, _, _, eu⟩
  have HU4 : Hid (DocT w4 0 (.slice q l d) _) := hu
  have HUL : Hid (∀ g, (Value.slice q l d).ownBlock = some g → (Value.slice p (docA 0 T).length c).ownBlock = some g ∨ w.heap.size ≤ g) := fun g hg => (hul g hg).imp id (fun h => by have := HZ3.out; omega)
  have HUB : Hid (∀ g, (Value.slice q l d).ownBlock = some g → g ≠ w.heap.size + 2) := fun g hg e => by
    rcases hul g hg with h1 | h1
    · have := HVL.out g h1; omega
    · have := HZ3.out; omega
  have HUB0 : Hid (∀ g, (Value.slice q l d).ownBlock = some g → g ≠ w.heap.size) := fun g hg e => by
    rcases hul g hg with h1 | h1
    · have := HVL.out g h1; omega
    · have := HZ3.out; omega
  have HUN : Hid (∀ g, (Value.slice q l d).ownBlock = some g → ¬ F g) := fun g hg hf => by
    rcases hul g hg with h1 | h1
    · exact HV.out g h1 hf
    · have := HFL.out g hf; have := HZ3.out; omega
  have HM4 : Hid (BoxT w4 w.heap.size _ _) := HM.out.on hb4
  have HR4 : Hid (BoxT w4 (w.heap.size + 2) _ _) := HR.out.on hb4
  have HT4 : Hid (Sta w4 F tb T) := HT3.out.keep (Frm.of_below hb4 (F := fun _ => False)) (fun k _ hn => hn)
  have HL4 : Hid (Below w.heap.size w w4) := HL.out.trans (hb4.mono HL.out.size)
  have n0 : w4.cell? ⟨w.heap.size, 0, none⟩ = some (.slice p (docA 0 T).length c) := HM4.out.cell
  have n1 : w4.cell? ⟨w.heap.size, 1, none⟩ = some (.int .i64 (T.length : Nat)) := HM4.out.cell
  have o0 : w4.frozen? ⟨w.heap.size, 0, none⟩ = false := HM4.out.frozen
  have o1 : w4.frozen? ⟨w.heap.size, 1, none⟩ = false := HM4.out.frozen
  have hf5 : Frm w4 ((w4.setCell ⟨w.heap.size, 0, none⟩ (.slice q l d)).setCell ⟨w.heap.size, 1, none⟩ (.int .i64 (T1.length : Nat))) (fun k => k = w.heap.size) := (frm_set w4 _ 0 _ (F := fun k => k = w.heap.size) rfl).trans (frm_set _ _ 1 _ (F := fun k => k = w.heap.size) rfl) (fun k hk => .inl hk)
  have HM5 : Hid (BoxT ((w4.setCell ⟨w.heap.size, 0, none⟩ (.slice q l d)).setCell ⟨w.heap.size, 1, none⟩ (.int .i64 (T1.length : Nat))) w.heap.size #[.slice q l d, .int .i64 (T1.length : Nat)] 27) := (HM4.out.set (i := 0) _).set (i := 1) _
  have HR5 : Hid (BoxT ((w4.setCell ⟨w.heap.size, 0, none⟩ (.slice q l d)).setCell ⟨w.heap.size, 1, none⟩ (.int .i64 (T1.length : Nat))) (w.heap.size + 2) #[.slice none 0 0, .int .i64 0] 27) := (hf5.block _ HR4.out.lt (by omega)).trans HR4.out
  have HT5 : Hid (Sta ((w4.setCell ⟨w.heap.size, 0, none⟩ (.slice q l d)).setCell ⟨w.heap.size, 1, none⟩ (.int .i64 (T1.length : Nat))) F tb T) := HT4.out.keep hf5 (fun k hk e => by have := HFL.out _ hk; omega)
  have HD5 : Hid (DocT ((w4.setCell ⟨w.heap.size, 0, none⟩ (.slice q l d)).setCell ⟨w.heap.size, 1, none⟩ (.int .i64 (T1.length : Nat))) 0 (.slice q l d) (docA 0 T1)) := HU4.out.block (fun g hg => hf5.block g (by obtain ⟨cur, h2⟩ := own_cells HU4.out hg; exact (Array.getElem?_eq_some_iff.1 h2).1) (HUB0.out g hg))
  have HF5 : Hid (Frm w ((w4.setCell ⟨w.heap.size, 0, none⟩ (.slice q l d)).setCell ⟨w.heap.size, 1, none⟩ (.int .i64 (T1.length : Nat))) F) := (Frm.of_below HL4.out (F := F)).trans hf5 (fun k hk => .inr (by omega))
  clear hu hul hb4 hf5 C1 HM HA HR HL HT3 HD3 HM4 HR4 HT4 HL4 HU4 H0 k1 k2 m0 m1
  go_wp2_with fail
  generalize hw5 : ((w4.setCell ⟨w.heap.size, 0, none⟩ (.slice q l d)).setCell ⟨w.heap.size, 1, none⟩ (.int .i64 (T1.length : Nat))) = w5 at *
  clear hw5 n0 n1 o0 o1
  refine (C2.out w5 HT5.out).mono ?_
  rintro e w6 ⟨rfl, ⟨F', hF', ht6⟩, hf6⟩
  have HT6 : Hid (Sta w6 F' tb T1) := ht6
  have hkp : ∀ k, ¬ F k → k < w5.heap.size → w6.heap[k]? = w5.heap[k]? := fun k h1 h2 => hf6.block k h2 h1
  have HM6 : Hid (BoxT w6 w.heap.size #[.slice q l d, .int .i64 (T1.length : Nat)] 27) := (hkp _ (fun hf => by have := HFL.out _ hf; omega) HM5.out.lt).trans HM5.out
  have HR6 : Hid (BoxT w6 (w.heap.size + 2) #[.slice none 0 0, .int .i64 0] 27) := (hkp _ (fun hf => by have := HFL.out _ hf; omega) HR5.out.lt).trans HR5.out
  have HD6 : Hid (DocT w6 0 (.slice q l d) (docA 0 T1)) := HD5.out.block (fun g hg => hkp g (HUN.out g hg) (by obtain ⟨cur, h2⟩ := own_cells HD5.out hg; exact (Array.getElem?_eq_some_iff.1 h2).1))
  have HF6 : Hid (Frm w w6 F) := HF5.out.trans hf6 (fun k hk => .inl hk)
  have HFN : Hid (∀ k, F' k → F k ∨ w.heap.size ≤ k) := fun k hk => (hF' k hk).imp id (fun h => Nat.le_trans HF5.out.size h)
  have HFR : Hid (∀ k, F' k → k ≠ w.heap.size + 2) := fun k hk e => by
    rcases hF' k hk with h1 | h1
    · have := HFL.out _ h1; omega
    · have := HR5.out.lt; omega
  have HUF : Hid (∀ g, (Value.slice q l d).ownBlock = some g → ¬ F' g) := fun g hg hf => by
    rcases hF' g hf with h1 | h1
    · exact HUN.out g hg h1
    · obtain ⟨cur, h2⟩ := own_cells HD5.out hg
      have := (Array.getElem?_eq_some_iff.1 h2).1
      omega
  have e0 : w6.cell? ⟨w.heap.size, 0, none⟩ = some (.slice q l d) := HM6.out.cell
  have e1 : w6.cell? ⟨w.heap.size, 1, none⟩ = some (.int .i64 (T1.length : Nat)) := HM6.out.cell
  have g0 : w6.cell? ⟨w.heap.size + 2, 0, none⟩ = some (.slice none 0 0) := HR6.out.cell
  have g1 : w6.cell? ⟨w.heap.size + 2, 1, none⟩ = some (.int .i64 0) := HR6.out.cell
  have y0 : w6.frozen? ⟨w.heap.size + 2, 0, none⟩ = false := HR6.out.frozen
  have y1 : w6.frozen? ⟨w.heap.size + 2, 1, none⟩ = false := HR6.out.frozen
  clear ht6 hf6 hkp hF'
  have hfz : Frm w6 ((w6.setCell ⟨w.heap.size + 2, 0, none⟩ (.slice q l d)).setCell ⟨w.heap.size + 2, 1, none⟩ (.int .i64 (T1.length : Nat))) (fun k => k = w.heap.size + 2) := (frm_set w6 _ 0 _ (F := fun k => k = w.heap.size + 2) rfl).trans (frm_set _ _ 1 _ (F := fun k => k = w.heap.size + 2) rfl) (fun k hk => .inl hk)
  have HBE : Hid (BoxT ((w6.setCell ⟨w.heap.size + 2, 0, none⟩ (.slice q l d)).setCell ⟨w.heap.size + 2, 1, none⟩ (.int .i64 (T1.length : Nat))) (w.heap.size + 2) #[.slice q l d, .int .i64 (T1.length : Nat)] 27) := (HR6.out.set (i := 0) _).set (i := 1) _
  have q0 : ((w6.setCell ⟨w.heap.size + 2, 0, none⟩ (.slice q l d)).setCell ⟨w.heap.size + 2, 1, none⟩ (.int .i64 (T1.length : Nat))).cell? ⟨w.heap.size + 2, 0, none⟩ = some (.slice q l d) := HBE.out.cell
  have q1 : ((w6.setCell ⟨w.heap.size + 2, 0, none⟩ (.slice q l d)).setCell ⟨w.heap.size + 2, 1, none⟩ (.int .i64 (T1.length : Nat))).cell? ⟨w.heap.size + 2, 1, none⟩ = some (.int .i64 (T1.length : Nat)) := HBE.out.cell
  have HTE : Hid (Sta ((w6.setCell ⟨w.heap.size + 2, 0, none⟩ (.slice q l d)).setCell ⟨w.heap.size + 2, 1, none⟩ (.int .i64 (T1.length : Nat))) F' tb T1) := HT6.out.keep hfz (fun k hk e => HFR.out k hk e)
  have HDE : Hid (DocT ((w6.setCell ⟨w.heap.size + 2, 0, none⟩ (.slice q l d)).setCell ⟨w.heap.size + 2, 1, none⟩ (.int .i64 (T1.length : Nat))) 0 (.slice q l d) (docA 0 T1)) := HD6.out.block (fun g hg => hfz.block g (by obtain ⟨cur, h2⟩ := own_cells HD6.out hg; exact (Array.getElem?_eq_some_iff.1 h2).1) (HUB.out g hg))
  have HFE : Hid (Frm w ((w6.setCell ⟨w.heap.size + 2, 0, none⟩ (.slice q l d)).setCell ⟨w.heap.size + 2, 1, none⟩ (.int .i64 (T1.length : Nat))) F) := HF6.out.trans hfz (fun k hk => .inr (by omega))
  clear hfz
  go_wp2_with fail
  refine bodyPost_ret (v := .tuple #[tvD (.slice q l d) T1.length, .bool true]) (by simp [results, Try.results9, go_sem, q0, q1]) rfl ?_
  exact ⟨⟨_, F', rfl, HTE.out, HDE.out, HUF.out, HFN.out, HUL.out⟩, HFE.out⟩

set_option maxHeartbeats 4000000 in
theorem doesN_any (k : Int) (h0 : ¬ k = 0) (h1 : ¬ k = 1) (h2 : ¬ k = 2) (h3 : ¬ k = 3) (h4 : ¬ k = 4) (F : Nat → Prop) (tb : Nat) (T : List Tx) (v : Value) (n : Int) (s : Nat) (w : World) (ht : Sta w F tb T) (hd : DocT w 0 v (docA 0 T)) (hv : ∀ g, v.ownBlock = some g → ¬ F g) (hlen : T.length < 4000000000000) (hn1 : -9223372036854775808 ≤ n) (hn2 : n < 9223372036854775808) :
    Calls Try.prog 9 #[ptr1 tb, tvD v T.length, .agg #[.int .i64 k, .int .i64 n, .int .u64 (s : Nat)]] w fun e w' => (∃ u F', e = .returned (.tuple #[tvD u (T).length, .bool true]) ∧ Sta w' F' tb (T) ∧ DocT w' 0 u (docA 0 (T)) ∧ (∀ g, u.ownBlock = some g → ¬ F' g) ∧ (∀ k, F' k → F k ∨ w.heap.size ≤ k) ∧ ∀ g, u.ownBlock = some g → v.ownBlock = some g ∨ w.heap.size ≤ g) ∧ Frm w w' F := by
  obtain ⟨p, c, rfl, _⟩ := hd.rd
  have HDL : Hid ((docA 0 T).length < 5000000000000) := Nat.lt_of_le_of_lt (docA_len T 0) (by omega)
  have HLN : Hid (T.length < 4000000000000) := hlen
  have HN : Hid (-9223372036854775808 ≤ n ∧ n < 9223372036854775808) := ⟨hn1, hn2⟩
  have HGON : Hid (∀ x ∈ T, x.gone = true → decd x.wd = true) := by
    obtain ⟨_, _, _, _, hx⟩ := ht
    exact hx.gon
  have HFL : Hid (∀ k, F k → k < w.heap.size) := fun k hk => by
    obtain ⟨mb, ov, B, O, hh⟩ := ht
    exact hh.flt k hk
  have HV : Hid (∀ g, (Value.slice p (docA 0 T).length c).ownBlock = some g → ¬ F g) := hv
  have HVL : Hid (∀ g, (Value.slice p (docA 0 T).length c).ownBlock = some g → g < w.heap.size) := fun g hg => by
    obtain ⟨cur, h2⟩ := own_cells hd hg
    exact (Array.getElem?_eq_some_iff.1 h2).1
  have H0 : Hid (Sta w F tb T ∧ DocT w 0 (.slice p (docA 0 T).length c) (docA 0 T)) := ⟨ht, hd⟩
  clear ht hd hv hlen hn1 hn2
  go_enter Try.func9, Try.ntmps9
  have hs1 : (w.alloc (.cells #[.slice p (docA 0 T).length c, .int .i64 (T.length : Nat)] 27)).heap.size = w.heap.size + 1 := by simp
  have X1 : BoxT (w.alloc (.cells #[.slice p (docA 0 T).length c, .int .i64 (T.length : Nat)] 27)) w.heap.size #[.slice p (docA 0 T).length c, .int .i64 (T.length : Nat)] 27 := BoxT.new _ _ _
  have L1 : Below w.heap.size w (w.alloc (.cells #[.slice p (docA 0 T).length c, .int .i64 (T.length : Nat)] 27)) := (Below.refl _ _).alloc (Nat.le_refl _) _
  have hs2 : ((w.alloc (.cells #[.slice p (docA 0 T).length c, .int .i64 (T.length : Nat)] 27)).alloc (.cells #[.int .i64 k, .int .i64 n, .int .u64 (s : Nat)] 33)).heap.size = w.heap.size + 2 := by simp
  have X2 : BoxT ((w.alloc (.cells #[.slice p (docA 0 T).length c, .int .i64 (T.length : Nat)] 27)).alloc (.cells #[.int .i64 k, .int .i64 n, .int .u64 (s : Nat)] 33)) (w.heap.size + 1) #[.int .i64 k, .int .i64 n, .int .u64 (s : Nat)] 33 := by rw [← hs1]; exact BoxT.new _ _ _
  have L2 : Below (w.alloc (.cells #[.slice p (docA 0 T).length c, .int .i64 (T.length : Nat)] 27)).heap.size (w.alloc (.cells #[.slice p (docA 0 T).length c, .int .i64 (T.length : Nat)] 27)) ((w.alloc (.cells #[.slice p (docA 0 T).length c, .int .i64 (T.length : Nat)] 27)).alloc (.cells #[.int .i64 k, .int .i64 n, .int .u64 (s : Nat)] 33)) := (Below.refl _ _).alloc (Nat.le_refl _) _
  have X3 : BoxT (((w.alloc (.cells #[.slice p (docA 0 T).length c, .int .i64 (T.length : Nat)] 27)).alloc (.cells #[.int .i64 k, .int .i64 n, .int .u64 (s : Nat)] 33)).alloc (.cells #[.slice none 0 0, .int .i64 0] 27)) (w.heap.size + 2) #[.slice none 0 0, .int .i64 0] 27 := by rw [← hs2]; exact BoxT.new _ _ _
  have L3 : Below ((w.alloc (.cells #[.slice p (docA 0 T).length c, .int .i64 (T.length : Nat)] 27)).alloc (.cells #[.int .i64 k, .int .i64 n, .int .u64 (s : Nat)] 33)).heap.size ((w.alloc (.cells #[.slice p (docA 0 T).length c, .int .i64 (T.length : Nat)] 27)).alloc (.cells #[.int .i64 k, .int .i64 n, .int .u64 (s : Nat)] 33)) (((w.alloc (.cells #[.slice p (docA 0 T).length c, .int .i64 (T.length : Nat)] 27)).alloc (.cells #[.int .i64 k, .int .i64 n, .int .u64 (s : Nat)] 33)).alloc (.cells #[.slice none 0 0, .int .i64 0] 27)) := (Below.refl _ _).alloc (Nat.le_refl _) _
  have HM : Hid (BoxT (((w.alloc (.cells #[.slice p (docA 0 T).length c, .int .i64 (T.length : Nat)] 27)).alloc (.cells #[.int .i64 k, .int .i64 n, .int .u64 (s : Nat)] 33)).alloc (.cells #[.slice none 0 0, .int .i64 0] 27)) w.heap.size #[.slice p (docA 0 T).length c, .int .i64 (T.length : Nat)] 27) := (X1.on L2).on L3
  have HA : Hid (BoxT (((w.alloc (.cells #[.slice p (docA 0 T).length c, .int .i64 (T.length : Nat)] 27)).alloc (.cells #[.int .i64 k, .int .i64 n, .int .u64 (s : Nat)] 33)).alloc (.cells #[.slice none 0 0, .int .i64 0] 27)) (w.heap.size + 1) #[.int .i64 k, .int .i64 n, .int .u64 (s : Nat)] 33) := X2.on L3
  have HR : Hid (BoxT (((w.alloc (.cells #[.slice p (docA 0 T).length c, .int .i64 (T.length : Nat)] 27)).alloc (.cells #[.int .i64 k, .int .i64 n, .int .u64 (s : Nat)] 33)).alloc (.cells #[.slice none 0 0, .int .i64 0] 27)) (w.heap.size + 2) #[.slice none 0 0, .int .i64 0] 27) := X3
  have HL : Hid (Below w.heap.size w (((w.alloc (.cells #[.slice p (docA 0 T).length c, .int .i64 (T.length : Nat)] 27)).alloc (.cells #[.int .i64 k, .int .i64 n, .int .u64 (s : Nat)] 33)).alloc (.cells #[.slice none 0 0, .int .i64 0] 27))) := (L1.trans (L2.mono (by omega))).trans (L3.mono (by omega))
  have k0 : (((w.alloc (.cells #[.slice p (docA 0 T).length c, .int .i64 (T.length : Nat)] 27)).alloc (.cells #[.int .i64 k, .int .i64 n, .int .u64 (s : Nat)] 33)).alloc (.cells #[.slice none 0 0, .int .i64 0] 27)).cell? ⟨w.heap.size + 1, 0, none⟩ = some (.int .i64 k) := HA.out.cell
  have k1 : (((w.alloc (.cells #[.slice p (docA 0 T).length c, .int .i64 (T.length : Nat)] 27)).alloc (.cells #[.int .i64 k, .int .i64 n, .int .u64 (s : Nat)] 33)).alloc (.cells #[.slice none 0 0, .int .i64 0] 27)).cell? ⟨w.heap.size + 1, 1, none⟩ = some (.int .i64 n) := HA.out.cell
  have k2 : (((w.alloc (.cells #[.slice p (docA 0 T).length c, .int .i64 (T.length : Nat)] 27)).alloc (.cells #[.int .i64 k, .int .i64 n, .int .u64 (s : Nat)] 33)).alloc (.cells #[.slice none 0 0, .int .i64 0] 27)).cell? ⟨w.heap.size + 1, 2, none⟩ = some (.int .u64 (s : Nat)) := HA.out.cell
  have m0 : (((w.alloc (.cells #[.slice p (docA 0 T).length c, .int .i64 (T.length : Nat)] 27)).alloc (.cells #[.int .i64 k, .int .i64 n, .int .u64 (s : Nat)] 33)).alloc (.cells #[.slice none 0 0, .int .i64 0] 27)).cell? ⟨w.heap.size, 0, none⟩ = some (.slice p (docA 0 T).length c) := HM.out.cell
  have m1 : (((w.alloc (.cells #[.slice p (docA 0 T).length c, .int .i64 (T.length : Nat)] 27)).alloc (.cells #[.int .i64 k, .int .i64 n, .int .u64 (s : Nat)] 33)).alloc (.cells #[.slice none 0 0, .int .i64 0] 27)).cell? ⟨w.heap.size, 1, none⟩ = some (.int .i64 (T.length : Nat)) := HM.out.cell
  clear hs1 X1 L1 hs2 X2 L2 X3 L3
  have HFW : Hid (Below w.heap.size w (((w.alloc (.cells #[.slice p (docA 0 T).length c, .int .i64 (T.length : Nat)] 27)).alloc (.cells #[.int .i64 k, .int .i64 n, .int .u64 (s : Nat)] 33)).alloc (.cells #[.slice p (docA 0 T).length c, .int .i64 (T.length : Nat)] 27))) := by
    show Below _ _ _
    go_grown
  have hbe : BoxT (((w.alloc (.cells #[.slice p (docA 0 T).length c, .int .i64 (T.length : Nat)] 27)).alloc (.cells #[.int .i64 k, .int .i64 n, .int .u64 (s : Nat)] 33)).alloc (.cells #[.slice p (docA 0 T).length c, .int .i64 (T.length : Nat)] 27)) (w.heap.size + 2) #[.slice p (docA 0 T).length c, .int .i64 (T.length : Nat)] 27 := by
    have h := BoxT.new ((w.alloc (.cells #[.slice p (docA 0 T).length c, .int .i64 (T.length : Nat)] 27)).alloc (.cells #[.int .i64 k, .int .i64 n, .int .u64 (s : Nat)] 33)) #[.slice p (docA 0 T).length c, .int .i64 (T.length : Nat)] 27
    have e : ((w.alloc (.cells #[.slice p (docA 0 T).length c, .int .i64 (T.length : Nat)] 27)).alloc (.cells #[.int .i64 k, .int .i64 n, .int .u64 (s : Nat)] 33)).heap.size = w.heap.size + 2 := by simp
    rw [e] at h
    exact h
  have q0 : (((w.alloc (.cells #[.slice p (docA 0 T).length c, .int .i64 (T.length : Nat)] 27)).alloc (.cells #[.int .i64 k, .int .i64 n, .int .u64 (s : Nat)] 33)).alloc (.cells #[.slice p (docA 0 T).length c, .int .i64 (T.length : Nat)] 27)).cell? ⟨w.heap.size + 2, 0, none⟩ = some (.slice p (docA 0 T).length c) := hbe.cell
  have q1 : (((w.alloc (.cells #[.slice p (docA 0 T).length c, .int .i64 (T.length : Nat)] 27)).alloc (.cells #[.int .i64 k, .int .i64 n, .int .u64 (s : Nat)] 33)).alloc (.cells #[.slice p (docA 0 T).length c, .int .i64 (T.length : Nat)] 27)).cell? ⟨w.heap.size + 2, 1, none⟩ = some (.int .i64 (T.length : Nat)) := hbe.cell
  clear hbe
  go_wp2_with fail
  refine bodyPost_ret (v := .tuple #[tvD (.slice p (docA 0 T).length c) T.length, .bool true]) (by simp [results, Try.results9, go_sem, q0, q1]) rfl ?_
  exact ⟨⟨_, F, rfl, H0.out.1.keep (Frm.of_below HFW.out (F := fun _ => False)) (fun _ _ h => h), H0.out.2.on HFW.out, HV.out, fun k hk => .inl hk, fun g hg => .inl hg⟩, Frm.of_below HFW.out⟩

end Go.Proofs.Ytmcdpadmjicafaa
