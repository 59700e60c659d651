/- Walk: Open. -/
import Derived.Test.YtmcdpadmjicafaaWDrop
namespace Go.Proofs.Ytmcdpadmjicafaa
open Go.RowKit Go.Maps
set_option maxRecDepth 100000

/-- A ROW OF NUMBERS in block g. -/
def RowI (w : World) (g : Nat) (L : List Int) : Prop := w.heap[g]? = some (.cells (L.map (Value.int .i64)).toArray 3 (0, 0))
theorem RowI.of_block {w w' : World} {g : Nat} {L : List Int} (h : RowI w g L) (hb : w'.heap[g]? = w.heap[g]?) : RowI w' g L := hb.trans h
theorem RowI.lt {w : World} {g : Nat} {L : List Int} (h : RowI w g L) : g < w.heap.size := (Array.getElem?_eq_some_iff.1 h).1
theorem RowI.cell {w : World} {g : Nat} {L : List Int} (h : RowI w g L) (i : Nat) (hi : i < L.length) : w.cell? ⟨g, i, none⟩ = some (.int .i64 L[i]) := by
  unfold RowI at h
  simp [World.cell?, h, hi]
theorem RowI.frozen {w : World} {g : Nat} {L : List Int} (h : RowI w g L) (i : Nat) : w.frozen? ⟨g, i, none⟩ = false := by
  unfold RowI at h
  simp [World.frozen?, h]
theorem RowI.set {w : World} {g : Nat} {L : List Int} (h : RowI w g L) (i : Nat) (x : Int) : RowI (w.setCell ⟨g, i, none⟩ (.int .i64 x)) g (L.set i x) := by
  unfold RowI at *
  rw [heap_set_same w g i _ _ _ _ h]
  congr 2
  rw [List.map_set]
  simp
theorem info_int : (Try.prog.info? 3).map (fun i => (i.zero, i.size, i.bytes)) = some (some (.int .i64 0), 1, 8) := by kernel_rfl
theorem RowI.of_made {w : World} {b0 g n : Nat} (h : w.ownsRow b0 3 1 (.slice (some ⟨g, 0, none⟩) n n) n (madeCells #[Value.int .i64 0] n).toList) : RowI w g (List.replicate n 0) := by
  rcases h.2 with ⟨h1, _⟩ | ⟨g', cap, cur, e, h1, h2, h3, h4, h5, h6⟩
  · cases h1
  · cases e
    unfold RowI
    rw [h2]
    have e2 : cur.toList = (List.replicate n (0 : Int)).map (Value.int .i64) := by
      rw [Nat.mul_one] at h6
      rw [List.take_of_length_le (by simp; omega)] at h6
      rw [h6, toList_madeCells_one]
      simp
    rw [← e2]
theorem fill_step (P R : List Int) (x y : Int) : (P ++ y :: R).set P.length x = P ++ x :: R := by
  induction P with
  | nil => rfl
  | cons a P ih => simp
/-- the numbers that are filled in -/
def fillI (U : List Nat) (j : Nat) : List Int := (U.take j).map (fun (i : Nat) => (i : Int) + 1) ++ List.replicate (U.length - j) 0
theorem fillI_zero (U : List Nat) : fillI U 0 = List.replicate U.length 0 := by simp [fillI]
theorem fillI_all (U : List Nat) : fillI U U.length = U.map (fun (i : Nat) => (i : Int) + 1) := by simp [fillI]
theorem fillI_step (U : List Nat) (j : Nat) (hj : j < U.length) : (fillI U j).set j ((U[j] : Int) + 1) = fillI U (j + 1) := by
  unfold fillI
  have e1 : U.length - j = (U.length - (j + 1)) + 1 := by omega
  have e2 : ((U.take j).map (fun (i : Nat) => (i : Int) + 1)).length = j := by rw [List.length_map, List.length_take]; omega
  have h := fill_step ((U.take j).map (fun (i : Nat) => (i : Int) + 1)) (List.replicate (U.length - (j + 1)) 0) ((U[j] : Int) + 1) 0
  rw [e2] at h
  rw [e1, List.replicate_succ, h, ← List.take_append_getElem hj, List.map_append, List.append_assoc]
  rfl
/-- what is open, as it is read -/
theorem StaX.reads {w : World} {s r : Int} {F : Nat → Prop} {tb mb : Nat} {ov : Value} {B : Nat → Nat} {O : List Nat} {T : List Tx} (h : StaX w s r F tb mb ov B O T) : ∃ p cap, ov = .slice p O.length cap ∧ ∀ i (hi : i < O.length), ∃ g, p = some ⟨g, 0, none⟩ ∧ F g ∧ w.cell? ⟨g, i, none⟩ = some (ptr1 (B O[i])) := by
  rcases h.opn.2 with ⟨e, h1⟩ | ⟨g, cap, cur, e, _, h2, h3, h4, h5, h6⟩
  · exact ⟨none, 0, by rw [e, h1], fun i hi => by omega⟩
  · refine ⟨_, cap, e, fun i hi => ⟨g, rfl, h.fov g (by rw [e]; rfl), ?_⟩⟩
    have hc := congrArg (fun l => l[i]?) h6
    simp only [Nat.mul_one] at hc
    rw [List.getElem?_take_of_lt hi, Array.getElem?_toList, List.getElem?_map, List.getElem?_eq_getElem hi] at hc
    simp [World.cell?, h2, hc]

set_option maxHeartbeats 2000000 in
theorem open_any (F : Nat → Prop) (tb : Nat) (T : List Tx) (w : World) (h : Sta w F tb T) :
    Calls Try.prog 19 #[ptr1 tb] w fun e w' => ∃ g, e = .returned (.slice (some ⟨g, 0, none⟩) (openA 0 T).length (openA 0 T).length) ∧ RowI w' g (openA 0 T) ∧ w.heap.size ≤ g ∧ Sta w' F tb T ∧ Frm w w' F := by
  obtain ⟨mb, ov, B, O, h⟩ := h
  have C1 : Hid (Calls _ _ _ _ _) := wlock_tab tb T.length mb ov w h.blk
  have HO : Hid (keepO T O = undI 0 T) := keepO_is h.rise h.inn h.all
  rw [open_undI, List.length_map]
  generalize undI 0 T = U at *
  obtain ⟨ti, hi, hz0, hz1, hz2⟩ := info_parts info_int
  have HI : Hid _ := hi
  have HZ : Hid (_ ∧ _ ∧ _) := ⟨hz0, hz1, hz2⟩
  have H0 : Hid (StaX _ _ _ _ _ _ _ _ _ _) := h
  clear h hi hz0 hz1 hz2
  go_enter_defers Try.func19, Try.ntmps19
  go_wp2_with fail
  refine C1.out.mono ?_
  rintro e w1 ⟨rfl, hB1, hF1, hs1⟩
  have HX1 : Hid (StaX _ _ _ _ _ _ _ _ _ _) := H0.out.own hF1 hB1
  have HF1 : Hid (Frm _ _ _) := hF1.mono (G := F) (fun k hk => by rw [hk]; exact H0.out.ftb)
  have C2 : Hid (Calls _ _ _ _ _) := drop_any F tb mb ov B O T _ _ w1 HX1.out
  clear C1 hB1 hF1 HX1
  go_wp2_with fail
  refine C2.out.mono ?_
  rintro e w2 ⟨rfl, ov2, hX2, hF2⟩
  rw [HO.out] at hX2
  have HX2 : Hid (StaX _ _ _ _ _ _ _ _ _ _) := hX2
  have HF2 : Hid (Frm _ _ _) := HF1.out.trans hF2 (fun k hk => .inl hk)
  obtain ⟨p, cap, rfl, hrd⟩ := hX2.reads
  have HRD : Hid (∀ i (hi : i < U.length), ∃ g, p = some ⟨g, 0, none⟩ ∧ F g ∧ w2.cell? ⟨g, i, none⟩ = some (ptr1 (B U[i]))) := hrd
  obtain ⟨c0, c2, c3, c4, c6, c7, c8⟩ := hX2.blk.cell
  have hfew := hX2.few
  have HIN : Hid (∀ i ∈ U, i < T.length) := hX2.inn
  have HS2 : Hid (w.heap.size ≤ w2.heap.size) := HF2.out.size
  clear C2 hX2 hF2 HF1 hrd c0 c2 c3 c4 c6 c7 HO hs1
  go_wp2_with (at_make; refine wpList_make_full _ rfl _ _ 45 rfl w2.heap.size 3 ti _ 1 Try.underlying45 HI.out HZ.out.1 HZ.out.2.1 .i64 .i64 (U.length : Int) (U.length : Int) U.length rfl rfl rfl rfl (by rw [HZ.out.2.2]; omega) (by unfold maxLen; omega) (Nat.le_refl _) ?_)
  intro w3 hown hgrow
  have HF3 : Hid (Frm w2 w3 (fun _ => False)) := Frm.of_grown hgrow (fun g hg => by cases hg)
  have HX3 : Hid (StaX _ _ _ _ _ _ _ _ _ _) := HX2.out.keep HF3.out (fun k _ hn => hn)
  have HR3 : Hid (RowI w3 w2.heap.size (fillI U 0)) := by
    rw [fillI_zero]
    exact RowI.of_made hown
  have HNF : Hid (¬ F w2.heap.size) := fun hf => by have := HX2.out.flt _ hf; omega
  obtain ⟨d0, d2, d3, d4, d6, d7, d8⟩ := HX3.out.blk.cell
  clear hown hgrow c8 d0 d2 d3 d4 d6 d7
  generalize w2.heap.size = gi at *
  go_wp2_with fail
  go_loopw [26] (fun i wr => ∃ j : Nat, j ≤ U.length ∧ i = .int .i64 (j : Int) ∧ Hid (RowI wr gi (fillI U j)) ∧ Hid (Frm w3 wr (fun k => k = gi))) (fun i _ => U.length - (intOf i).toNat)
  case atStart => exact ⟨0, Nat.zero_le _, by go_num, HR3, Frm.refl _ _⟩
  case round =>
    obtain ⟨j, hj, rfl, hR, hF⟩ := hrel
    by_cases hj0 : j = U.length
    · subst hj0
      have HXE : Hid (StaX wr _ _ _ _ _ _ _ _ _) := HX3.out.keep hF.out (fun k hk e => HNF.out (by rw [← e]; exact hk))
      rw [fillI_all] at hR
      have HFE : Hid (Frm w wr F) := (HF2.out.trans HF3.out (fun k hk => hk.elim)).trans hF.out (fun k hk => .inr (by rw [hk]; exact HS2.out))
      clear hF HF3 HX3
      go_wp2_with fail
      refine leaves_cons (f := 32) (args := #[.pointer (some ⟨tb, 0, none⟩)]) (by simp) (by simp [go_sem]) ?_
      refine (wunlock_tab tb T.length mb _ .returning wr HXE.out.blk).mono ?_
      rintro e u' w5 ⟨rfl, rfl, hB5, hF5, hs5⟩
      exact ⟨_, results_tmp rfl _ _ _, gi, rfl, hR.out.of_block (hF5.block gi hR.out.lt (fun e => HNF.out (by rw [e]; exact HXE.out.ftb))), HS2.out, ⟨mb, _, B, U, HXE.out.own hF5 hB5⟩, HFE.out.trans hF5 (fun k hk => .inl (by rw [hk]; exact HXE.out.ftb))⟩
    · have hj1 : j < U.length := by omega
      have hoj := HIN.out _ (List.getElem_mem hj1)
      have hx := List.getElem?_eq_getElem hoj
      obtain ⟨g, rfl, hFg, hcg⟩ := HRD.out j hj1
      have ca : wr.cell? ⟨g, j, none⟩ = some (ptr1 (B U[j])) := (World.cell?_of_block (a := ⟨g, j, none⟩) ((hF.out.block g (HX3.out.flt _ hFg) (fun e => HNF.out (by rw [← e]; exact hFg))).trans (HF3.out.block g (HX2.out.flt _ hFg) (by simp)))).trans hcg
      have cb : wr.cell? ⟨B U[j], 0, none⟩ = some (.int .i64 ((U[j] : Int) + 1)) := (World.cell?_of_block (a := ⟨B U[j], 0, none⟩) (hF.out.block _ (HX3.out.flt _ (HX3.out.ftx _ hoj)) (fun e => HNF.out (by rw [← e]; exact HX3.out.ftx _ hoj)))).trans (HX3.out.cell1 hx).1
      have hlf : j < (fillI U j).length := by unfold fillI; rw [List.length_append, List.length_map, List.length_take, List.length_replicate]; omega
      have cc := hR.out.cell j hlf
      have fc := hR.out.frozen j
      have HRN : Hid (RowI (wr.setCell ⟨gi, j, none⟩ (.int .i64 ((U[j] : Int) + 1))) gi (fillI U (j + 1))) := by
        rw [← fillI_step U j hj1]
        exact hR.out.set j _
      have HFN : Hid (Frm w3 (wr.setCell ⟨gi, j, none⟩ (.int .i64 ((U[j] : Int) + 1))) (fun k => k = gi)) := hF.out.trans (frm_set wr gi j _ (F := fun k => k = gi) rfl) (fun k hk => .inl hk)
      generalize (fillI U j)[j] = zz at *
      clear hR hF hx hcg hFg hlf hoj
      generalize B U[j] = bx at *
      generalize ((U[j] : Int) + 1) = xx at *
      go_wp2_with fail
      go_roundw
      case rel => exact ⟨j + 1, by omega, by go_num, HRN, HFN⟩
      case measure => simp [intOf]; omega
end Go.Proofs.Ytmcdpadmjicafaa
