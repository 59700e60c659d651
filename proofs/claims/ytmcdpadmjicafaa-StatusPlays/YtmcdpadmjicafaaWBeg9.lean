/- Walk: Begin. -/
import Derived.Test.YtmcdpadmjicafaaWOpen9
import Derived.Test.YtmcdpadmjicafaaWHeld
namespace Go.Proofs.Ytmcdpadmjicafaa
open Go.RowKit Go.Maps
set_option maxRecDepth 100000

theorem StaX.begun {wa wd we : World} {s r : Int} {F : Nat → Prop} {tb mb nb : Nat} {ov v' : Value} {B : Nat → Nat} {O : List Nat} {T : List Tx} (h : StaX wa s r F tb mb ov B O T) (hO : O.length < 256) (hnb : nb = wa.heap.size)
    (hm : HasMap wd mb (T.length + 1) (updF (fun x => (lookT T x).map B) ((T.length : Int) + 1) (some nb))) (hf : Frm wa wd (fun k => k = tb ∨ k = mb)) (htb : TabB wd tb s r (T.length + 1) mb ov)
    (hx : wd.heap[nb]? = some (.cells #[.int .i64 ((T.length : Int) + 1), .int .u64 0] 83 (0, 0)))
    (ho : we.ownsRow 0 78 1 v' (O.length + 1) ((O.map fun i => ptr1 (B i)) ++ [ptr1 nb])) (hf2 : Frm wd we (fun k => ov.ownBlock = some k)) (hloc : ∀ g, v'.ownBlock = some g → ov.ownBlock = some g ∨ wd.heap.size ≤ g) :
    ∃ F', (∀ k, F' k → F k ∨ wa.heap.size ≤ k) ∧ StaX (we.setCell ⟨tb, 8, none⟩ v') s r F' tb mb v' (fun i => if i = T.length then nb else B i) (O ++ [T.length]) (T ++ [⟨0, false⟩]) := by
  have hnd : nb < wd.heap.size := (Array.getElem?_eq_some_iff.1 hx).1
  have hf3 : Frm we (we.setCell ⟨tb, 8, none⟩ v') (fun k => k = tb) := frm_set we tb 8 v' rfl
  have hsd : ∀ k, F k → k < wd.heap.size := fun k hk => Nat.lt_of_lt_of_le (h.flt k hk) hf.size
  have hnF : ¬ F nb := fun hk => by have := h.flt _ hk; omega
  have kd : ∀ k, F k → k ≠ tb → k ≠ mb → wd.heap[k]? = wa.heap[k]? := fun k hk h1 h2 => hf.block k (h.flt k hk) (fun e => e.elim h1 h2)
  have ke : ∀ k, k < wd.heap.size → (∀ g, ov.ownBlock = some g → k ≠ g) → we.heap[k]? = wd.heap[k]? := fun k hk h1 => hf2.block k hk (fun e => h1 k e rfl)
  have kf : ∀ k, k < we.heap.size → k ≠ tb → (we.setCell ⟨tb, 8, none⟩ v').heap[k]? = we.heap[k]? := fun k hk h1 => hf3.block k hk h1
  have hse : ∀ k, k < wd.heap.size → k < we.heap.size := fun k hk => Nat.lt_of_lt_of_le hk hf2.size
  have htbs := hsd tb h.ftb
  have htb2 : TabB we tb s r (T.length + 1) mb ov := (ke tb htbs (fun g hg => Ne.symm (h.ne_ov hg))).trans htb
  have hvn : ∀ g, v'.ownBlock = some g → g ≠ tb := fun g hg e => by
    obtain ⟨cur, h1⟩ := own_cells ho hg
    have h2 := htb2
    unfold TabB at h2
    rw [e, h2] at h1
    injection h1 with h1
    injection h1 with _ h1
    exact absurd h1 (by decide)
  have hne_nb : ∀ g, ov.ownBlock = some g → nb ≠ g := fun g hg e => hnF (by rw [e]; exact h.fov g hg)
  refine ⟨fun k => F k ∨ k = nb ∨ v'.ownBlock = some k, ?_, ?_⟩
  · rintro k (hk | hk | hk)
    · exact .inl hk
    · exact .inr (by omega)
    · rcases hloc k hk with h1 | h1
      · exact .inl (h.fov k h1)
      · exact .inr (Nat.le_trans hf.size h1)
  · refine { blk := ?_, ftb := .inl h.ftb, fmb := .inl h.fmb, ftx := ?_, fov := fun g hg => .inr (.inr hg), map := ?_, opn := ?_, tx := ?_, rise := ?_, inn := ?_, all := ?_, few := by simp; omega, gon := ?_, flt := ?_ }
    · rw [List.length_append]
      exact htb2.set8 v'
    · intro i hi
      by_cases e : i = T.length
      · rw [if_pos e]
        exact .inr (.inl rfl)
      · rw [if_neg e]
        rw [List.length_append, List.length_singleton] at hi
        exact .inl (h.ftx i (by omega))
    · rw [List.length_append]
      refine (hm.of_block ((kf mb (hse mb (hsd mb h.fmb)) h.ne_mb).trans (ke mb (hsd mb h.fmb) (fun g hg => Ne.symm (h.ov_mb hg))))).ext fun x => ?_
      rw [lookT_app]
      unfold updF
      by_cases e : x = (T.length : Int) + 1
      · rw [if_pos e, if_pos e]
        simp
      · rw [if_neg e, if_neg e]
        show Option.map B (lookT T x) = _
        cases hl : lookT T x with
        | none => rfl
        | some i =>
          obtain ⟨y, hy, _⟩ := lookT_some hl
          have := (List.getElem?_eq_some_iff.1 hy).1
          simp only [Option.map_some]
          rw [if_neg (by omega)]
    · have hmp : (O ++ [T.length]).map (fun i => ptr1 (if i = T.length then nb else B i)) = (O.map fun i => ptr1 (B i)) ++ [ptr1 nb] := by
        rw [List.map_append]
        congr 1
        · refine List.map_congr_left fun i hi => ?_
          have := h.inn i hi
          rw [if_neg (by omega)]
        · simp
      rw [hmp, List.length_append]
      exact owns_block ho (fun g hg => kf g (by obtain ⟨cur, h1⟩ := own_cells ho hg; exact (Array.getElem?_eq_some_iff.1 h1).1) (hvn g hg))
    · intro i x hx'
      by_cases e : i = T.length
      · subst e
        rw [List.getElem?_append_right (Nat.le_refl _)] at hx'
        simp at hx'
        subst hx'
        rw [if_pos rfl]
        refine ((kf nb (hse nb hnd) (fun e => hnF (by rw [e]; exact h.ftb))).trans (ke nb hnd hne_nb)).trans ?_
        exact hx
      · have hi := (List.getElem?_eq_some_iff.1 hx').1
        rw [List.length_append, List.length_singleton] at hi
        have hi2 : i < T.length := by omega
        rw [List.getElem?_append_left hi2] at hx'
        rw [if_neg e]
        exact (((kf _ (hse _ (hsd _ (h.ftx i hi2))) (h.ne_tx hi2)).trans (ke _ (hsd _ (h.ftx i hi2)) (fun g hg => Ne.symm (h.ov_tx hg hi2)))).trans (kd _ (h.ftx i hi2) (h.ne_tx hi2) (h.tx_mb hi2))).trans (h.tx i x hx')
    · refine List.pairwise_append.2 ⟨h.rise, List.pairwise_singleton _ _, fun a ha b hb => ?_⟩
      rw [List.mem_singleton] at hb
      subst hb
      exact h.inn a ha
    · intro i hi
      rw [List.length_append, List.length_singleton]
      rcases List.mem_append.1 hi with hi | hi
      · have := h.inn i hi
        omega
      · rw [List.mem_singleton] at hi
        omega
    · intro i x hx' hd
      by_cases e : i = T.length
      · exact List.mem_append.2 (.inr (by rw [e]; simp))
      · have hi := (List.getElem?_eq_some_iff.1 hx').1
        rw [List.length_append, List.length_singleton] at hi
        rw [List.getElem?_append_left (by omega)] at hx'
        exact List.mem_append.2 (.inl (h.all i x hx' hd))
    · intro x hx' hg
      rcases List.mem_append.1 hx' with h1 | h1
      · exact h.gon x h1 hg
      · rw [List.mem_singleton] at h1
        rw [h1] at hg
        cases hg
    · rintro k (hk | hk | hk)
      · exact Nat.lt_of_lt_of_le (hse k (hsd k hk)) hf3.size
      · rw [hk]
        exact Nat.lt_of_lt_of_le (hse nb hnd) hf3.size
      · obtain ⟨cur, h1⟩ := own_cells ho hk
        exact Nat.lt_of_lt_of_le (Array.getElem?_eq_some_iff.1 h1).1 hf3.size

theorem begT_go {T : List Tx} (h : (undI 0 T).length < 256) : begT T = (T ++ [⟨0, false⟩], (T.length : Int) + 1, 0) := by
  unfold begT
  rw [openA_len, if_neg (by omega)]
theorem begT_full {T : List Tx} (h : (undI 0 T).length = 256) : begT T = (T, 0, 2) := by
  unfold begT
  rw [openA_len, if_pos (by omega)]

set_option maxHeartbeats 4000000 in
theorem begin_any (F : Nat → Prop) (tb : Nat) (T : List Tx) (w : World) (h : Sta w F tb T) (hlen : T.length < 1000000000000000) :
    Calls Try.prog 11 #[ptr1 tb] w fun e w' => e = .returned (.tuple #[.int .i64 (begT T).2.1, .int .i64 (begT T).2.2]) ∧ (∃ F', (∀ k, F' k → F k ∨ w.heap.size ≤ k) ∧ Sta w' F' tb (begT T).1) ∧ Frm w w' F := by
  obtain ⟨mb, ov, B, O, h⟩ := h
  have C1 : Hid (Calls _ _ _ _ _) := wlock_tab tb T.length mb ov w h.blk
  have HO : Hid (keepO T O = undI 0 T) := keepO_is h.rise h.inn h.all
  have H0 : Hid (StaX _ _ _ _ _ _ _ _ _ _) := h
  have hle := keepO_len T O
  rw [HO.out] at hle
  have hfew := h.few
  obtain ⟨ti, hi, hz0, hz1, hz2⟩ := info_parts info_ptr
  have HI : Hid _ := hi
  have HZ : Hid (_ ∧ _ ∧ _) := ⟨hz0, hz1, hz2⟩
  clear h hi hz0 hz1 hz2
  by_cases hO : O.length = 256
  · by_cases hU : (undI 0 T).length = 256
    · rw [begT_full hU]
      go_enter_defers Try.func11, Try.ntmps11
      go_wp2_with fail
      refine C1.out.mono ?_
      rintro e wl ⟨rfl, hB1, hF1, hs1⟩
      have HXl : Hid (StaX _ _ _ _ _ _ _ _ _ _) := H0.out.own hF1 hB1
      have HFl : Hid (Frm w wl F) := hF1.mono (G := F) (fun k hk => by rw [hk]; exact H0.out.ftb)
      obtain ⟨p0, cap0, rfl, _⟩ := HXl.out.reads
      obtain ⟨c0, c2, c3, c4, c6, c7, c8⟩ := hB1.cell
      have C2 : Hid (Calls _ _ _ _ _) := drop_any F tb mb _ B O T _ _ wl HXl.out
      clear C1 hB1 hF1 hfew hle hs1
      go_wp2_with fail
      refine C2.out.mono ?_
      rintro e wa ⟨rfl, ov2, hX2, hF2⟩
      rw [HO.out] at hX2
      have HXa : Hid (StaX _ _ _ _ _ _ _ _ _ _) := hX2
      have HFa : Hid (Frm w wa F) := HFl.out.trans hF2 (fun k hk => .inl hk)
      obtain ⟨p, cap, rfl, _⟩ := hX2.reads
      clear c0 c2 c3 c4 c6 c7 c8
      obtain ⟨c0, c2, c3, c4, c6, c7, c8⟩ := hX2.blk.cell
      have fz := fun o => hX2.blk.frozen o
      clear C2 hX2 hF2 HO HXl HFl
      generalize undI 0 T = U at *
      go_wp2_with fail
      refine leaves_cons (f := 32) (args := #[.pointer (some ⟨tb, 0, none⟩)]) (by simp) (by simp [go_sem]) ?_
      refine (wunlock_tab tb _ mb _ .returning _ HXa.out.blk).mono ?_
      rintro e u' w5 ⟨rfl, rfl, hB5, hF5, hs5⟩
      exact ⟨_, results_tmp2 rfl _ _ _, rfl, ⟨F, fun k hk => .inl hk, mb, _, _, _, HXa.out.own hF5 hB5⟩, HFa.out.trans hF5 (fun k hk => .inl (by rw [hk]; exact HXa.out.ftb))⟩
    · have hOl : Hid ((undI 0 T).length < 256) := (by omega : (undI 0 T).length < 256)
      rw [begT_go hOl.out]
      go_enter_defers Try.func11, Try.ntmps11
      go_wp2_with fail
      refine C1.out.mono ?_
      rintro e wl ⟨rfl, hB1, hF1, hs1⟩
      have HXl : Hid (StaX _ _ _ _ _ _ _ _ _ _) := H0.out.own hF1 hB1
      have HFl : Hid (Frm w wl F) := hF1.mono (G := F) (fun k hk => by rw [hk]; exact H0.out.ftb)
      obtain ⟨p0, cap0, rfl, _⟩ := HXl.out.reads
      obtain ⟨c0, c2, c3, c4, c6, c7, c8⟩ := hB1.cell
      have C2 : Hid (Calls _ _ _ _ _) := drop_any F tb mb _ B O T _ _ wl HXl.out
      clear C1 hB1 hF1 hfew hle hs1
      go_wp2_with fail
      refine C2.out.mono ?_
      rintro e wa ⟨rfl, ov2, hX2, hF2⟩
      rw [HO.out] at hX2
      have HXa : Hid (StaX _ _ _ _ _ _ _ _ _ _) := hX2
      have HFa : Hid (Frm w wa F) := HFl.out.trans hF2 (fun k hk => .inl hk)
      obtain ⟨p, cap, rfl, _⟩ := hX2.reads
      clear c0 c2 c3 c4 c6 c7 c8
      obtain ⟨c0, c2, c3, c4, c6, c7, c8⟩ := hX2.blk.cell
      have fz := fun o => hX2.blk.frozen o
      clear C2 hX2 hF2 HO HXl HFl
      generalize undI 0 T = U at *
      have HNB : Hid (_ = wa.heap.size) := rfl
      have HB6 : Hid (TabB (wa.setCell ⟨tb, 6, none⟩ (.int .i64 ((T.length : Int) + 1))) tb 1 (-1073741824) (T.length + 1) mb _) := HXa.out.blk.set6 (T.length + 1)
      have hsb : (wa.setCell ⟨tb, 6, none⟩ (.int .i64 ((T.length : Int) + 1))).heap.size = wa.heap.size := by simp [World.setCell]
      have HF6 : Hid (Frm wa (wa.setCell ⟨tb, 6, none⟩ (.int .i64 ((T.length : Int) + 1))) (fun k => k = tb)) := frm_set wa tb 6 _ rfl
      have hmb6 : (wa.setCell ⟨tb, 6, none⟩ (.int .i64 ((T.length : Int) + 1))).heap[mb]? = wa.heap[mb]? := HF6.out.block mb HXa.out.map.lt HXa.out.ne_mb
      generalize hwb : wa.setCell ⟨tb, 6, none⟩ (.int .i64 ((T.length : Int) + 1)) = wb at *
      obtain ⟨b0, b2, b3, b4, b6, b7, b8⟩ := HB6.out.cell
      have b6' : wb.cell? ⟨tb, 6, none⟩ = some (.int .i64 ((T.length : Int) + 1)) := b6
      have hmx : T.length < maxLen := by unfold maxLen; omega
      have HAL : Hid (Frm wb (wb.alloc (.cells #[.int .i64 ((T.length : Int) + 1), .int .u64 0] 83)) (fun _ => False)) := Frm.of_below ((Below.refl _ _).alloc (Nat.le_refl _) _)
      have hnew := heap_alloc_new wb (.cells #[.int .i64 ((T.length : Int) + 1), .int .u64 0] 83)
      have hm1 : HasMap (wb.alloc (.cells #[.int .i64 ((T.length : Int) + 1), .int .u64 0] 83)).drew mb T.length (fun x => (lookT T x).map B) := (HXa.out.map.of_block hmb6).of_block (HAL.out.block mb (by rw [hsb]; exact HXa.out.map.lt) (by simp))
      obtain ⟨wd, hst, hmd, htd⟩ := hm1.store hmx ((T.length : Int) + 1) wb.heap.size (by omega) (by omega)
      have HMD : Hid (HasMap _ _ _ _) := hmd
      have HFD0 : Hid (Frm (wb.alloc (.cells #[.int .i64 ((T.length : Int) + 1), .int .u64 0] 83)).drew wd (fun k => k = mb)) := Frm.of_turned htd rfl
      have HFC : Hid (Frm wa (wb.alloc (.cells #[.int .i64 ((T.length : Int) + 1), .int .u64 0] 83)).drew (fun k => k = tb ∨ k = mb)) := ((HF6.out.mono (fun k hk => .inl hk)).trans HAL.out (fun k hk => hk.elim)).drew
      have HFD : Hid (Frm wa wd (fun k => k = tb ∨ k = mb)) := HFC.out.trans HFD0.out (fun k hk => .inl (.inr hk))
      have htC : TabB (wb.alloc (.cells #[.int .i64 ((T.length : Int) + 1), .int .u64 0] 83)).drew tb 1 (-1073741824) (T.length + 1) mb _ := (HAL.out.block tb (by rw [hsb]; exact HXa.out.flt _ HXa.out.ftb) (by simp)).trans HB6.out
      have HTD : Hid (TabB wd tb 1 (-1073741824) (T.length + 1) mb _) := (HFD0.out.block tb (Array.getElem?_eq_some_iff.1 htC).1 (Ne.symm HXa.out.ne_mb)).trans htC
      have HND : Hid (wd.heap[wb.heap.size]? = some (.cells #[.int .i64 ((T.length : Int) + 1), .int .u64 0] 83 (0, 0))) := (HFD0.out.block _ (Array.getElem?_eq_some_iff.1 hnew).1 (by rw [hsb]; exact Nat.ne_of_gt HXa.out.map.lt)).trans hnew
      have HS : Hid ((wb.alloc (.cells #[.int .i64 ((T.length : Int) + 1), .int .u64 0] 83)).drew.cell? ⟨tb, 7, none⟩ = some (.map (some mb)) ∧ (wb.alloc (.cells #[.int .i64 ((T.length : Int) + 1), .int .u64 0] 83)).drew.cell? ⟨wb.heap.size, 0, none⟩ = some (.int .i64 ((T.length : Int) + 1))) := ⟨htC.cell.2.2.2.2.2.1, by
        show (wb.alloc (.cells #[.int .i64 ((T.length : Int) + 1), .int .u64 0] 83)).cell? ⟨wb.heap.size, 0, none⟩ = _
        rw [World.cell?_alloc_new]
        rfl⟩
      obtain ⟨d0, d2, d3, d4, d6, d7, d8⟩ := HTD.out.cell
      have hcn : wd.cell? ⟨wb.heap.size, 0, none⟩ = some (.int .i64 ((T.length : Int) + 1)) := by
        have h9 := HND.out
        simp [World.cell?, h9]
      have hopn := owns_block HXa.out.opn (w' := wd) (fun g hg => HFD.out.block g (HXa.out.flt _ (HXa.out.fov g hg)) (fun e => e.elim (HXa.out.ne_ov hg) (HXa.out.ov_mb hg)))
      have HOP : Hid (World.ownsRow _ _ _ _ _ _ _) := hopn
      have hlb : T.length + 1 < 1000000000000001 := by omega
      have HOB : Hid (∀ v' we, we.ownsRow 0 78 1 v' (U.length + 1) ((U.map fun i => ptr1 (B i)) ++ [ptr1 wb.heap.size]) → Frm wd we (fun k => (Value.slice p U.length cap).ownBlock = some k) → (∀ g, v'.ownBlock = some g → (Value.slice p U.length cap).ownBlock = some g ∨ wd.heap.size ≤ g) → ∃ F', (∀ k, F' k → F k ∨ wa.heap.size ≤ k) ∧ StaX (we.setCell ⟨tb, 8, none⟩ v') 1 (-1073741824) F' tb mb v' (fun i => if i = T.length then wb.heap.size else B i) (U ++ [T.length]) (T ++ [⟨0, false⟩])) := fun v' we ho hf2 hloc => HXa.out.begun hOl.out hsb HMD.out HFD.out HTD.out HND.out (v' := v') (we := we) ho hf2 hloc
      have HTBN : Hid (∀ g, (Value.slice p U.length cap).ownBlock = some g → g ≠ tb) := fun g hg => HXa.out.ne_ov hg
      have HTBL : Hid (tb < wd.heap.size) := (Array.getElem?_eq_some_iff.1 HTD.out).1
      rw [hsb] at hst hcn HS HOB
      clear b0 b2 b3 b4 b6 hmx hnew hm1 hmd htd htC hopn d0 d2 d3 d4 d6 HFC HFD0 HAL HF6 HB6 hmb6 HMD HND
      go_wp2_with fail
      clear hwb
      refine wp_region_L (fun w' => w'.cell? ⟨tb, 7, none⟩ = some (.map (some mb)) ∧ w'.cell? ⟨wa.heap.size, 0, none⟩ = some (.int .i64 ((T.length : Int) + 1))) 9 (by kernel_rfl) ?_
      refine wpL_take (v := ?_) 0 rfl (by kernel_rfl) (fun _ _ _ h => h) (by rfl) ?_ HS.out ?_
      rotate_left
      focus
        intro w9 hw9
        obtain ⟨k1, k2⟩ := hw9
        go_simp
        try with_reducible rfl
      try simp only [Act.put, List.setIfInBounds_toArray, List.set_cons_zero, List.set_cons_succ]
      refine wpL_take (v := ?_) 1 rfl (by kernel_rfl) (fun _ _ _ h => h) (by rfl) ?_ HS.out ?_
      rotate_left
      focus
        intro w9 hw9
        obtain ⟨k1, k2⟩ := hw9
        go_simp
        try with_reducible rfl
      try simp only [Act.put, List.setIfInBounds_toArray, List.set_cons_zero, List.set_cons_succ]
      refine wpL_take (v := ?_) 2 rfl (by kernel_rfl) (fun _ _ _ h => h) (by rfl) ?_ HS.out ?_
      rotate_left
      focus
        intro w9 hw9
        obtain ⟨k1, k2⟩ := hw9
        go_simp
        try with_reducible rfl
      try simp only [Act.put, List.setIfInBounds_toArray, List.set_cons_zero, List.set_cons_succ]
      refine wpL_take (v := ?_) 3 rfl (by kernel_rfl) (fun _ _ _ h => h) (by rfl) ?_ HS.out ?_
      rotate_left
      focus
        intro w9 hw9
        obtain ⟨k1, k2⟩ := hw9
        go_simp
        try with_reducible rfl
      try simp only [Act.put, List.setIfInBounds_toArray, List.set_cons_zero, List.set_cons_succ]
      refine wpL_take (v := ?_) 4 rfl (by kernel_rfl) (fun _ _ _ h => h) (by rfl) ?_ HS.out ?_
      rotate_left
      focus
        intro w9 hw9
        obtain ⟨k1, k2⟩ := hw9
        go_simp
        try with_reducible rfl
      try simp only [Act.put, List.setIfInBounds_toArray, List.set_cons_zero, List.set_cons_succ]
      refine wpL_take (v := ?_) 5 rfl (by kernel_rfl) (fun _ _ _ h => h) (by rfl) ?_ HS.out ?_
      rotate_left
      focus
        intro w9 hw9
        obtain ⟨k1, k2⟩ := hw9
        go_simp
        try with_reducible rfl
      try simp only [Act.put, List.setIfInBounds_toArray, List.set_cons_zero, List.set_cons_succ]
      refine wpL_take (v := ?_) 6 rfl (by kernel_rfl) (fun _ _ _ h => h) (by rfl) ?_ HS.out ?_
      rotate_left
      focus
        intro w9 hw9
        obtain ⟨k1, k2⟩ := hw9
        go_simp
        try with_reducible rfl
      try simp only [Act.put, List.setIfInBounds_toArray, List.set_cons_zero, List.set_cons_succ]
      refine wpL_take (v := ?_) 7 rfl (by kernel_rfl) (fun _ _ _ h => h) (by rfl) ?_ HS.out ?_
      rotate_left
      focus
        intro w9 hw9
        obtain ⟨k1, k2⟩ := hw9
        go_simp
        try with_reducible rfl
      try simp only [Act.put, List.setIfInBounds_toArray, List.set_cons_zero, List.set_cons_succ]
      refine wpL_take (v := ?_) 8 rfl (by kernel_rfl) (fun _ _ _ h => h) (by rfl) ?_ HS.out ?_
      rotate_left
      focus
        intro w9 hw9
        obtain ⟨k1, k2⟩ := hw9
        go_simp
        try with_reducible rfl
      try simp only [Act.put, List.setIfInBounds_toArray, List.set_cons_zero, List.set_cons_succ]
      refine wpL_one 9 rfl (by kernel_rfl) (by rfl) ?_
      intro K hK
      go_simp
      refine hK.out _ _ (fun h => absurd rfl h) ?_
      clear hK K
      refine wpL_done (by kernel_rfl) ?_ _
      try simp only [NoPanic]
      go_wp2_with (first | (at_builtin; refine wpList_append_own_at _ rfl (.tmp 52) (.tmp 54) 67 rfl 0 78 ti _ 1 8 Try.underlying67 HI.out HZ.out.1 HZ.out.2.1 HZ.out.2.2 rfl (by decide) _ _ _ rfl (HOP.out.alloc _) ⟨wd.heap.size, 0, none⟩ 1 1 [ptr1 wa.heap.size] rfl rfl (cell_one_new _ _ _) (by simp [Value.oneCell']) (by have := hOl.out; unfold maxLen; omega) (by have := hOl.out; omega) (Nat.zero_le _) ?_))
      intro v' we ho hgrow hnil hloc
      obtain ⟨g', cap', rfl⟩ : ∃ g' cap', v' = .slice (some ⟨g', 0, none⟩) (U.length + 1) cap' := by
        rcases ho.2 with ⟨_, h9⟩ | ⟨g9, cap9, cur9, e9, _⟩
        · omega
        · exact ⟨g9, cap9, e9⟩
      have hal : Frm wd (wd.alloc (.cells #[ptr1 wa.heap.size] 78)) (fun _ => False) := Frm.of_below ((Below.refl _ _).alloc (Nat.le_refl _) _)
      have HFE : Hid (Frm wd we (fun k => (Value.slice p U.length cap).ownBlock = some k)) := (hal.mono (fun k hk => hk.elim)).trans (Frm.of_grown hgrow (fun g hg => hg)) (fun k hk => .inl hk)
      obtain ⟨F', hF', hX'⟩ := HOB.out (Value.slice (some ⟨g', 0, none⟩) (U.length + 1) cap') we ho HFE.out (fun g hg => by
        rcases hloc with e | e
        · exact .inl (by rw [← e]; exact hg)
        · rw [e] at hg
          injection hg with hg
          exact .inr (by rw [← hg]; simp))
      have hbt : we.heap[tb]? = wd.heap[tb]? := HFE.out.block tb HTBL.out (fun e => HTBN.out tb e rfl)
      have t8 : we.cell? ⟨tb, 8, none⟩ = _ := (World.cell?_of_block (a := ⟨tb, 8, none⟩) hbt).trans d8
      have f8 : we.frozen? ⟨tb, 8, none⟩ = false := (World.frozen?_of_block (a := ⟨tb, 8, none⟩) hbt).trans (HTD.out.frozen 8)
      have cn : (we.setCell ⟨tb, 8, none⟩ (Value.slice (some ⟨g', 0, none⟩) (U.length + 1) cap')).cell? ⟨wa.heap.size, 0, none⟩ = some (.int .i64 ((T.length : Int) + 1)) := by
        have h9 := (hX'.cell1 (i := T.length) (x := ⟨0, false⟩) (by rw [List.getElem?_append_right (Nat.le_refl _)]; simp)).1
        rw [if_pos rfl] at h9
        exact h9
      have HFin : Hid (Frm w (we.setCell ⟨tb, 8, none⟩ (Value.slice (some ⟨g', 0, none⟩) (U.length + 1) cap')) F) := (((HFa.out.trans HFD.out (fun k hk => .inl (hk.elim (fun e => by rw [e]; exact HXa.out.ftb) (fun e => by rw [e]; exact HXa.out.fmb))))).trans HFE.out (fun k hk => .inl (HXa.out.fov k hk))).trans (frm_set we tb 8 (Value.slice (some ⟨g', 0, none⟩) (U.length + 1) cap') (F := fun k => k = tb) rfl) (fun k hk => .inl (by rw [hk]; exact HXa.out.ftb))
      have HX' : Hid (StaX _ _ _ _ _ _ _ _ _ _) := hX'
      have HF' : Hid (∀ k, F' k → F k ∨ wa.heap.size ≤ k) := hF'
      have HWA : Hid (w.heap.size ≤ wa.heap.size) := HFa.out.size
      have HFT : Hid (F tb) := HXa.out.ftb
      clear ho hgrow hnil hloc hal hX' hF' hbt HOB HOP HFE HFD HTD HS HXa HFa hst d7 d8 hcn
      go_wp2_with fail
      refine leaves_cons (f := 32) (args := #[.pointer (some ⟨tb, 0, none⟩)]) (by simp) (by simp [go_sem]) ?_
      refine (wunlock_tab tb _ mb _ .returning _ HX'.out.blk).mono ?_
      rintro e u' w5 ⟨rfl, rfl, hB5, hF5, hs5⟩
      exact ⟨_, results_tmp2 rfl _ _ _, rfl, ⟨F', fun k hk => (HF'.out k hk).imp id (fun h => Nat.le_trans HWA.out h), mb, _, _, _, HX'.out.own hF5 hB5⟩, HFin.out.trans hF5 (fun k hk => .inl (by rw [hk]; exact HFT.out))⟩
  · have hOl : Hid (O.length < 256) := (by omega : O.length < 256)
    rw [begT_go (by have := hOl.out; omega)]
    go_enter_defers Try.func11, Try.ntmps11
    go_wp2_with fail
    refine C1.out.mono ?_
    rintro e wa ⟨rfl, hB1, hF1, hs1⟩
    have HXa : Hid (StaX _ _ _ _ _ _ _ _ _ _) := H0.out.own hF1 hB1
    have HFa : Hid (Frm w wa F) := hF1.mono (G := F) (fun k hk => by rw [hk]; exact H0.out.ftb)
    obtain ⟨p, cap, rfl, _⟩ := HXa.out.reads
    obtain ⟨c0, c2, c3, c4, c6, c7, c8⟩ := hB1.cell
    have fz := fun o => hB1.frozen o
    clear C1 hB1 hF1 HO hfew hle hs1
    have HNB : Hid (_ = wa.heap.size) := rfl
    have HB6 : Hid (TabB (wa.setCell ⟨tb, 6, none⟩ (.int .i64 ((T.length : Int) + 1))) tb 1 (-1073741824) (T.length + 1) mb _) := HXa.out.blk.set6 (T.length + 1)
    have hsb : (wa.setCell ⟨tb, 6, none⟩ (.int .i64 ((T.length : Int) + 1))).heap.size = wa.heap.size := by simp [World.setCell]
    have HF6 : Hid (Frm wa (wa.setCell ⟨tb, 6, none⟩ (.int .i64 ((T.length : Int) + 1))) (fun k => k = tb)) := frm_set wa tb 6 _ rfl
    have hmb6 : (wa.setCell ⟨tb, 6, none⟩ (.int .i64 ((T.length : Int) + 1))).heap[mb]? = wa.heap[mb]? := HF6.out.block mb HXa.out.map.lt HXa.out.ne_mb
    generalize hwb : wa.setCell ⟨tb, 6, none⟩ (.int .i64 ((T.length : Int) + 1)) = wb at *
    obtain ⟨b0, b2, b3, b4, b6, b7, b8⟩ := HB6.out.cell
    have b6' : wb.cell? ⟨tb, 6, none⟩ = some (.int .i64 ((T.length : Int) + 1)) := b6
    have hmx : T.length < maxLen := by unfold maxLen; omega
    have HAL : Hid (Frm wb (wb.alloc (.cells #[.int .i64 ((T.length : Int) + 1), .int .u64 0] 83)) (fun _ => False)) := Frm.of_below ((Below.refl _ _).alloc (Nat.le_refl _) _)
    have hnew := heap_alloc_new wb (.cells #[.int .i64 ((T.length : Int) + 1), .int .u64 0] 83)
    have hm1 : HasMap (wb.alloc (.cells #[.int .i64 ((T.length : Int) + 1), .int .u64 0] 83)).drew mb T.length (fun x => (lookT T x).map B) := (HXa.out.map.of_block hmb6).of_block (HAL.out.block mb (by rw [hsb]; exact HXa.out.map.lt) (by simp))
    obtain ⟨wd, hst, hmd, htd⟩ := hm1.store hmx ((T.length : Int) + 1) wb.heap.size (by omega) (by omega)
    have HMD : Hid (HasMap _ _ _ _) := hmd
    have HFD0 : Hid (Frm (wb.alloc (.cells #[.int .i64 ((T.length : Int) + 1), .int .u64 0] 83)).drew wd (fun k => k = mb)) := Frm.of_turned htd rfl
    have HFC : Hid (Frm wa (wb.alloc (.cells #[.int .i64 ((T.length : Int) + 1), .int .u64 0] 83)).drew (fun k => k = tb ∨ k = mb)) := ((HF6.out.mono (fun k hk => .inl hk)).trans HAL.out (fun k hk => hk.elim)).drew
    have HFD : Hid (Frm wa wd (fun k => k = tb ∨ k = mb)) := HFC.out.trans HFD0.out (fun k hk => .inl (.inr hk))
    have htC : TabB (wb.alloc (.cells #[.int .i64 ((T.length : Int) + 1), .int .u64 0] 83)).drew tb 1 (-1073741824) (T.length + 1) mb _ := (HAL.out.block tb (by rw [hsb]; exact HXa.out.flt _ HXa.out.ftb) (by simp)).trans HB6.out
    have HTD : Hid (TabB wd tb 1 (-1073741824) (T.length + 1) mb _) := (HFD0.out.block tb (Array.getElem?_eq_some_iff.1 htC).1 (Ne.symm HXa.out.ne_mb)).trans htC
    have HND : Hid (wd.heap[wb.heap.size]? = some (.cells #[.int .i64 ((T.length : Int) + 1), .int .u64 0] 83 (0, 0))) := (HFD0.out.block _ (Array.getElem?_eq_some_iff.1 hnew).1 (by rw [hsb]; exact Nat.ne_of_gt HXa.out.map.lt)).trans hnew
    have HS : Hid ((wb.alloc (.cells #[.int .i64 ((T.length : Int) + 1), .int .u64 0] 83)).drew.cell? ⟨tb, 7, none⟩ = some (.map (some mb)) ∧ (wb.alloc (.cells #[.int .i64 ((T.length : Int) + 1), .int .u64 0] 83)).drew.cell? ⟨wb.heap.size, 0, none⟩ = some (.int .i64 ((T.length : Int) + 1))) := ⟨htC.cell.2.2.2.2.2.1, by
      show (wb.alloc (.cells #[.int .i64 ((T.length : Int) + 1), .int .u64 0] 83)).cell? ⟨wb.heap.size, 0, none⟩ = _
      rw [World.cell?_alloc_new]
      rfl⟩
    obtain ⟨d0, d2, d3, d4, d6, d7, d8⟩ := HTD.out.cell
    have hcn : wd.cell? ⟨wb.heap.size, 0, none⟩ = some (.int .i64 ((T.length : Int) + 1)) := by
      have h9 := HND.out
      simp [World.cell?, h9]
    have hopn := owns_block HXa.out.opn (w' := wd) (fun g hg => HFD.out.block g (HXa.out.flt _ (HXa.out.fov g hg)) (fun e => e.elim (HXa.out.ne_ov hg) (HXa.out.ov_mb hg)))
    have HOP : Hid (World.ownsRow _ _ _ _ _ _ _) := hopn
    have hlb : T.length + 1 < 1000000000000001 := by omega
    have HOB : Hid (∀ v' we, we.ownsRow 0 78 1 v' (O.length + 1) ((O.map fun i => ptr1 (B i)) ++ [ptr1 wb.heap.size]) → Frm wd we (fun k => (Value.slice p O.length cap).ownBlock = some k) → (∀ g, v'.ownBlock = some g → (Value.slice p O.length cap).ownBlock = some g ∨ wd.heap.size ≤ g) → ∃ F', (∀ k, F' k → F k ∨ wa.heap.size ≤ k) ∧ StaX (we.setCell ⟨tb, 8, none⟩ v') 1 (-1073741824) F' tb mb v' (fun i => if i = T.length then wb.heap.size else B i) (O ++ [T.length]) (T ++ [⟨0, false⟩])) := fun v' we ho hf2 hloc => HXa.out.begun hOl.out hsb HMD.out HFD.out HTD.out HND.out (v' := v') (we := we) ho hf2 hloc
    have HTBN : Hid (∀ g, (Value.slice p O.length cap).ownBlock = some g → g ≠ tb) := fun g hg => HXa.out.ne_ov hg
    have HTBL : Hid (tb < wd.heap.size) := (Array.getElem?_eq_some_iff.1 HTD.out).1
    rw [hsb] at hst hcn HS HOB
    clear b0 b2 b3 b4 b6 hmx hnew hm1 hmd htd htC hopn d0 d2 d3 d4 d6 HFC HFD0 HAL HF6 HB6 hmb6 HMD HND
    go_wp2_with fail
    clear hwb
    refine wp_region_L (fun w' => w'.cell? ⟨tb, 7, none⟩ = some (.map (some mb)) ∧ w'.cell? ⟨wa.heap.size, 0, none⟩ = some (.int .i64 ((T.length : Int) + 1))) 9 (by kernel_rfl) ?_
    refine wpL_take (v := ?_) 0 rfl (by kernel_rfl) (fun _ _ _ h => h) (by rfl) ?_ HS.out ?_
    rotate_left
    focus
      intro w9 hw9
      obtain ⟨k1, k2⟩ := hw9
      go_simp
      try with_reducible rfl
    try simp only [Act.put, List.setIfInBounds_toArray, List.set_cons_zero, List.set_cons_succ]
    refine wpL_take (v := ?_) 1 rfl (by kernel_rfl) (fun _ _ _ h => h) (by rfl) ?_ HS.out ?_
    rotate_left
    focus
      intro w9 hw9
      obtain ⟨k1, k2⟩ := hw9
      go_simp
      try with_reducible rfl
    try simp only [Act.put, List.setIfInBounds_toArray, List.set_cons_zero, List.set_cons_succ]
    refine wpL_take (v := ?_) 2 rfl (by kernel_rfl) (fun _ _ _ h => h) (by rfl) ?_ HS.out ?_
    rotate_left
    focus
      intro w9 hw9
      obtain ⟨k1, k2⟩ := hw9
      go_simp
      try with_reducible rfl
    try simp only [Act.put, List.setIfInBounds_toArray, List.set_cons_zero, List.set_cons_succ]
    refine wpL_take (v := ?_) 3 rfl (by kernel_rfl) (fun _ _ _ h => h) (by rfl) ?_ HS.out ?_
    rotate_left
    focus
      intro w9 hw9
      obtain ⟨k1, k2⟩ := hw9
      go_simp
      try with_reducible rfl
    try simp only [Act.put, List.setIfInBounds_toArray, List.set_cons_zero, List.set_cons_succ]
    refine wpL_take (v := ?_) 4 rfl (by kernel_rfl) (fun _ _ _ h => h) (by rfl) ?_ HS.out ?_
    rotate_left
    focus
      intro w9 hw9
      obtain ⟨k1, k2⟩ := hw9
      go_simp
      try with_reducible rfl
    try simp only [Act.put, List.setIfInBounds_toArray, List.set_cons_zero, List.set_cons_succ]
    refine wpL_take (v := ?_) 5 rfl (by kernel_rfl) (fun _ _ _ h => h) (by rfl) ?_ HS.out ?_
    rotate_left
    focus
      intro w9 hw9
      obtain ⟨k1, k2⟩ := hw9
      go_simp
      try with_reducible rfl
    try simp only [Act.put, List.setIfInBounds_toArray, List.set_cons_zero, List.set_cons_succ]
    refine wpL_take (v := ?_) 6 rfl (by kernel_rfl) (fun _ _ _ h => h) (by rfl) ?_ HS.out ?_
    rotate_left
    focus
      intro w9 hw9
      obtain ⟨k1, k2⟩ := hw9
      go_simp
      try with_reducible rfl
    try simp only [Act.put, List.setIfInBounds_toArray, List.set_cons_zero, List.set_cons_succ]
    refine wpL_take (v := ?_) 7 rfl (by kernel_rfl) (fun _ _ _ h => h) (by rfl) ?_ HS.out ?_
    rotate_left
    focus
      intro w9 hw9
      obtain ⟨k1, k2⟩ := hw9
      go_simp
      try with_reducible rfl
    try simp only [Act.put, List.setIfInBounds_toArray, List.set_cons_zero, List.set_cons_succ]
    refine wpL_take (v := ?_) 8 rfl (by kernel_rfl) (fun _ _ _ h => h) (by rfl) ?_ HS.out ?_
    rotate_left
    focus
      intro w9 hw9
      obtain ⟨k1, k2⟩ := hw9
      go_simp
      try with_reducible rfl
    try simp only [Act.put, List.setIfInBounds_toArray, List.set_cons_zero, List.set_cons_succ]
    refine wpL_one 9 rfl (by kernel_rfl) (by rfl) ?_
    intro K hK
    go_simp
    refine hK.out _ _ (fun h => absurd rfl h) ?_
    clear hK K
    refine wpL_done (by kernel_rfl) ?_ _
    try simp only [NoPanic]
    go_wp2_with (first | (at_builtin; refine wpList_append_own_at _ rfl (.tmp 52) (.tmp 54) 67 rfl 0 78 ti _ 1 8 Try.underlying67 HI.out HZ.out.1 HZ.out.2.1 HZ.out.2.2 rfl (by decide) _ _ _ rfl (HOP.out.alloc _) ⟨wd.heap.size, 0, none⟩ 1 1 [ptr1 wa.heap.size] rfl rfl (cell_one_new _ _ _) (by simp [Value.oneCell']) (by have := hOl.out; unfold maxLen; omega) (by have := hOl.out; omega) (Nat.zero_le _) ?_))
    intro v' we ho hgrow hnil hloc
    obtain ⟨g', cap', rfl⟩ : ∃ g' cap', v' = .slice (some ⟨g', 0, none⟩) (O.length + 1) cap' := by
      rcases ho.2 with ⟨_, h9⟩ | ⟨g9, cap9, cur9, e9, _⟩
      · omega
      · exact ⟨g9, cap9, e9⟩
    have hal : Frm wd (wd.alloc (.cells #[ptr1 wa.heap.size] 78)) (fun _ => False) := Frm.of_below ((Below.refl _ _).alloc (Nat.le_refl _) _)
    have HFE : Hid (Frm wd we (fun k => (Value.slice p O.length cap).ownBlock = some k)) := (hal.mono (fun k hk => hk.elim)).trans (Frm.of_grown hgrow (fun g hg => hg)) (fun k hk => .inl hk)
    obtain ⟨F', hF', hX'⟩ := HOB.out (Value.slice (some ⟨g', 0, none⟩) (O.length + 1) cap') we ho HFE.out (fun g hg => by
      rcases hloc with e | e
      · exact .inl (by rw [← e]; exact hg)
      · rw [e] at hg
        injection hg with hg
        exact .inr (by rw [← hg]; simp))
    have hbt : we.heap[tb]? = wd.heap[tb]? := HFE.out.block tb HTBL.out (fun e => HTBN.out tb e rfl)
    have t8 : we.cell? ⟨tb, 8, none⟩ = _ := (World.cell?_of_block (a := ⟨tb, 8, none⟩) hbt).trans d8
    have f8 : we.frozen? ⟨tb, 8, none⟩ = false := (World.frozen?_of_block (a := ⟨tb, 8, none⟩) hbt).trans (HTD.out.frozen 8)
    have cn : (we.setCell ⟨tb, 8, none⟩ (Value.slice (some ⟨g', 0, none⟩) (O.length + 1) cap')).cell? ⟨wa.heap.size, 0, none⟩ = some (.int .i64 ((T.length : Int) + 1)) := by
      have h9 := (hX'.cell1 (i := T.length) (x := ⟨0, false⟩) (by rw [List.getElem?_append_right (Nat.le_refl _)]; simp)).1
      rw [if_pos rfl] at h9
      exact h9
    have HFin : Hid (Frm w (we.setCell ⟨tb, 8, none⟩ (Value.slice (some ⟨g', 0, none⟩) (O.length + 1) cap')) F) := (((HFa.out.trans HFD.out (fun k hk => .inl (hk.elim (fun e => by rw [e]; exact HXa.out.ftb) (fun e => by rw [e]; exact HXa.out.fmb))))).trans HFE.out (fun k hk => .inl (HXa.out.fov k hk))).trans (frm_set we tb 8 (Value.slice (some ⟨g', 0, none⟩) (O.length + 1) cap') (F := fun k => k = tb) rfl) (fun k hk => .inl (by rw [hk]; exact HXa.out.ftb))
    have HX' : Hid (StaX _ _ _ _ _ _ _ _ _ _) := hX'
    have HF' : Hid (∀ k, F' k → F k ∨ wa.heap.size ≤ k) := hF'
    have HWA : Hid (w.heap.size ≤ wa.heap.size) := HFa.out.size
    have HFT : Hid (F tb) := HXa.out.ftb
    clear ho hgrow hnil hloc hal hX' hF' hbt HOB HOP HFE HFD HTD HS HXa HFa hst d7 d8 hcn
    go_wp2_with fail
    refine leaves_cons (f := 32) (args := #[.pointer (some ⟨tb, 0, none⟩)]) (by simp) (by simp [go_sem]) ?_
    refine (wunlock_tab tb _ mb _ .returning _ HX'.out.blk).mono ?_
    rintro e u' w5 ⟨rfl, rfl, hB5, hF5, hs5⟩
    exact ⟨_, results_tmp2 rfl _ _ _, rfl, ⟨F', fun k hk => (HF'.out k hk).imp id (fun h => Nat.le_trans HWA.out h), mb, _, _, _, HX'.out.own hF5 hB5⟩, HFin.out.trans hF5 (fun k hk => .inl (by rw [hk]; exact HFT.out))⟩
end Go.Proofs.Ytmcdpadmjicafaa
