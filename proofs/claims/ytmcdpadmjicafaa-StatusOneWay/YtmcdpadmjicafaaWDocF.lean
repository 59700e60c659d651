/- The document's Forget. -/
import Derived.Test.YtmcdpadmjicafaaWDocT
namespace Go.Proofs.Ytmcdpadmjicafaa
open Go.RowKit Go.Maps
set_option maxRecDepth 100000

theorem erase_at (D : List Dx) (k j : Nat) (hk : k < D.length) : (D.take (k + 1)).eraseIdx j = (D.take k).eraseIdx j ++ (if k = j then [] else [D[k]]) := by
  have hl : (D.take k).length = k := by rw [List.length_take]; omega
  rw [← List.take_append_getElem hk]
  rcases Nat.lt_trichotomy j k with h | h | h
  · rw [List.eraseIdx_append_of_lt_length (by omega), if_neg (by omega)]
  · subst h
    rw [if_pos rfl, List.eraseIdx_append_of_length_le (by omega), hl, List.eraseIdx_of_length_le (by omega : (D.take j).length ≤ j)]
    simp
  · rw [if_neg (by omega), List.eraseIdx_of_length_le (by simp; omega), List.eraseIdx_of_length_le (by omega : (D.take k).length ≤ j)]

set_option maxHeartbeats 2000000 in
theorem rforget_any (D : List Dx) (v : Value) (la B : Nat) (n : Int) (w : World) (h : DocT w B v D) (hlen : D.length ≤ 5000000000000) :
    Calls Try.prog 29 #[tvD v la, .int .i64 n] w fun e w' => (∃ u, e = .returned (.tuple #[tvD u la, .int .i64 (forgD D n).2]) ∧ DocT w' 0 u (forgD D n).1 ∧ ∀ g, u.ownBlock = some g → v.ownBlock = some g ∨ w.heap.size ≤ g) ∧ Below w.heap.size w w' := by
  obtain ⟨p, c, rfl, hrd⟩ := h.rd
  have HB1 : Below w.heap.size w (w.alloc (.cells #[.slice p D.length c, .int .i64 (la : Nat)] 27)) := (Below.refl _ _).alloc (Nat.le_refl _) _
  have hs1 : (w.alloc (.cells #[.slice p D.length c, .int .i64 (la : Nat)] 27)).heap.size = w.heap.size + 1 := by simp
  have B1 : BoxT (w.alloc (.cells #[.slice p D.length c, .int .i64 (la : Nat)] 27)) w.heap.size #[.slice p D.length c, .int .i64 (la : Nat)] 27 := BoxT.new _ _ _
  have HB2 : Below (w.alloc (.cells #[.slice p D.length c, .int .i64 (la : Nat)] 27)).heap.size (w.alloc (.cells #[.slice p D.length c, .int .i64 (la : Nat)] 27)) ((w.alloc (.cells #[.slice p D.length c, .int .i64 (la : Nat)] 27)).alloc (.cells #[.slice none 0 0, .int .i64 0] 27)) := (Below.refl _ _).alloc (Nat.le_refl _) _
  have HS : Hid (BoxT ((w.alloc (.cells #[.slice p D.length c, .int .i64 (la : Nat)] 27)).alloc (.cells #[.slice none 0 0, .int .i64 0] 27)) w.heap.size #[.slice p D.length c, .int .i64 (la : Nat)] 27) := B1.on HB2
  have HR : Hid (BoxT ((w.alloc (.cells #[.slice p D.length c, .int .i64 (la : Nat)] 27)).alloc (.cells #[.slice none 0 0, .int .i64 0] 27)) (w.heap.size + 1) #[.slice none 0 0, .int .i64 0] 27) := by rw [← hs1]; exact BoxT.new _ _ _
  have HL : Hid (Below w.heap.size w ((w.alloc (.cells #[.slice p D.length c, .int .i64 (la : Nat)] 27)).alloc (.cells #[.slice none 0 0, .int .i64 0] 27))) := HB1.trans (HB2.mono (by omega))
  have H0 : Hid (DocT w B (.slice p D.length c) D) := h
  have HRD : Hid (∀ i (hi : i < D.length), ∃ b, p = some ⟨b, 0, none⟩ ∧ b < w.heap.size ∧ w.cell? ⟨b, i * 3, none⟩ = some (.int .i64 D[i].num) ∧ w.cell? ⟨b, i * 3 + 1, none⟩ = some (.int .i64 D[i].st) ∧ w.cell? ⟨b, i * 3 + 2, none⟩ = some (.int .u64 (D[i].sp : Nat))) := hrd
  have CL : Hid (∀ w1, DocT w1 B (.slice p D.length c) D → Calls Try.prog 47 #[tvD (.slice p D.length c) la, .int .i64 n] w1 fun e w' => e = .returned (.int .i64 (fiI D n)) ∧ Below w1.heap.size w1 w') := fun w1 h1 => find_any D _ la B n w1 h1 (by omega)
  clear h hrd HB1 hs1 B1 HB2
  unfold forgD
  cases hf : findD D n with
  | none =>
    have e1 : fiI D n = -1 := by unfold fiI; rw [hf]
    rw [e1] at CL
    clear e1 hf
    go_enter Try.func29, Try.ntmps29
    go_wp2_with fail
    generalize (w.alloc (.cells #[.slice p D.length c, .int .i64 (la : Nat)] 27)).alloc (.cells #[.slice none 0 0, .int .i64 0] 27) = w2 at *
    refine (CL.out w2 (owns_kept H0.out HL.out)).mono ?_
    rintro e w3 ⟨rfl, hb3⟩
    have HL3 : Hid (Below w.heap.size w w3) := HL.out.trans (hb3.mono HL.out.size)
    have HS3 : Hid (BoxT w3 w.heap.size _ _) := HS.out.on hb3
    have HR3 : Hid (BoxT w3 (w.heap.size + 1) _ _) := HR.out.on hb3
    have s0 : w3.cell? ⟨w.heap.size, 0, none⟩ = some (.slice p D.length c) := HS3.out.cell
    have s1 : w3.cell? ⟨w.heap.size, 1, none⟩ = some (.int .i64 (la : Nat)) := HS3.out.cell
    have r0 : w3.cell? ⟨w.heap.size + 1, 0, none⟩ = some (.slice none 0 0) := HR3.out.cell
    have r1 : w3.cell? ⟨w.heap.size + 1, 1, none⟩ = some (.int .i64 0) := HR3.out.cell
    have f0 : w3.frozen? ⟨w.heap.size + 1, 0, none⟩ = false := HR3.out.frozen
    have f1 : w3.frozen? ⟨w.heap.size + 1, 1, none⟩ = false := HR3.out.frozen
    clear hb3 CL HS HR HL
    have HZ : Hid (BoxT ((w3.setCell ⟨w.heap.size + 1, 0, none⟩ (.slice p D.length c)).setCell ⟨w.heap.size + 1, 1, none⟩ (.int .i64 (la : Nat))) (w.heap.size + 1) #[.slice p D.length c, .int .i64 (la : Nat)] 27) := (HR3.out.set (i := 0) _).set (i := 1) _
    have HFz : Hid (Below w.heap.size w ((w3.setCell ⟨w.heap.size + 1, 0, none⟩ (.slice p D.length c)).setCell ⟨w.heap.size + 1, 1, none⟩ (.int .i64 (la : Nat)))) := HL3.out.trans (((frm_set w3 _ 0 _ (F := fun k => k = w.heap.size + 1) rfl).trans (frm_set _ _ 1 _ (F := fun k => k = w.heap.size + 1) rfl) (fun k hk => .inl hk)).below HL3.out.size (fun k hk => by omega))
    go_wp2_with fail
    have q0 : ((w3.setCell ⟨w.heap.size + 1, 0, none⟩ (.slice p D.length c)).setCell ⟨w.heap.size + 1, 1, none⟩ (.int .i64 (la : Nat))).cell? ⟨w.heap.size + 1, 0, none⟩ = some (.slice p D.length c) := HZ.out.cell
    have q1 : ((w3.setCell ⟨w.heap.size + 1, 0, none⟩ (.slice p D.length c)).setCell ⟨w.heap.size + 1, 1, none⟩ (.int .i64 (la : Nat))).cell? ⟨w.heap.size + 1, 1, none⟩ = some (.int .i64 (la : Nat)) := HZ.out.cell
    generalize (w3.setCell ⟨w.heap.size + 1, 0, none⟩ (.slice p D.length c)).setCell ⟨w.heap.size + 1, 1, none⟩ (.int .i64 (la : Nat)) = wz at *
    refine bodyPost_ret (v := .tuple #[tvD (.slice p D.length c) la, .int .i64 90]) (by simp [results, Try.results29, go_sem, q0, q1]) rfl ?_
    exact ⟨⟨_, rfl, owns_base (owns_kept H0.out HFz.out) (Nat.zero_le _), fun g hg => .inl hg⟩, HFz.out⟩
  | some j =>
    have e1 : fiI D n = (j : Int) := by unfold fiI; rw [hf]
    rw [e1] at CL
    obtain ⟨⟨dd, hd, hdn⟩, _⟩ := findD_some hf
    obtain ⟨hj, hdj⟩ := List.getElem?_eq_some_iff.1 hd
    simp only [hd]
    obtain ⟨b, rfl, hb, y0, y1, y2⟩ := HRD.out j hj
    rw [hdj] at y1
    cases hds : decS dd.st
    · rw [if_neg (by simp)]
      clear e1 hf hdn hd hdj y0 y2
      go_enter Try.func29, Try.ntmps29
      go_wp2_with fail
      generalize (w.alloc (.cells #[.slice (some ⟨b, 0, none⟩) D.length c, .int .i64 (la : Nat)] 27)).alloc (.cells #[.slice none 0 0, .int .i64 0] 27) = w2 at *
      refine (CL.out w2 (owns_kept H0.out HL.out)).mono ?_
      rintro e w3 ⟨rfl, hb3⟩
      have HL3 : Hid (Below w.heap.size w w3) := HL.out.trans (hb3.mono HL.out.size)
      have HS3 : Hid (BoxT w3 w.heap.size _ _) := HS.out.on hb3
      have HR3 : Hid (BoxT w3 (w.heap.size + 1) _ _) := HR.out.on hb3
      have s0 : w3.cell? ⟨w.heap.size, 0, none⟩ = some (.slice (some ⟨b, 0, none⟩) D.length c) := HS3.out.cell
      have s1 : w3.cell? ⟨w.heap.size, 1, none⟩ = some (.int .i64 (la : Nat)) := HS3.out.cell
      have r0 : w3.cell? ⟨w.heap.size + 1, 0, none⟩ = some (.slice none 0 0) := HR3.out.cell
      have r1 : w3.cell? ⟨w.heap.size + 1, 1, none⟩ = some (.int .i64 0) := HR3.out.cell
      have f0 : w3.frozen? ⟨w.heap.size + 1, 0, none⟩ = false := HR3.out.frozen
      have f1 : w3.frozen? ⟨w.heap.size + 1, 1, none⟩ = false := HR3.out.frozen
      clear hb3 CL HS HR HL
      have z1 : w3.cell? ⟨b, j * 3 + 1, none⟩ = some (.int .i64 dd.st) := (HL3.out.cell (p := ⟨b, j * 3 + 1, none⟩) hb).trans y1
      have C2 : Hid (Calls _ _ _ _ _) := rdecided_any dd.st w3
      rw [hds] at C2
      go_wp2_with fail
      refine C2.out.mono ?_
      rintro e w9 ⟨rfl, hw⟩
      rw [hw]
      clear hw C2
      have HZ : Hid (BoxT ((w3.setCell ⟨w.heap.size + 1, 0, none⟩ (.slice (some ⟨b, 0, none⟩) D.length c)).setCell ⟨w.heap.size + 1, 1, none⟩ (.int .i64 (la : Nat))) (w.heap.size + 1) #[.slice (some ⟨b, 0, none⟩) D.length c, .int .i64 (la : Nat)] 27) := (HR3.out.set (i := 0) _).set (i := 1) _
      have HFz : Hid (Below w.heap.size w ((w3.setCell ⟨w.heap.size + 1, 0, none⟩ (.slice (some ⟨b, 0, none⟩) D.length c)).setCell ⟨w.heap.size + 1, 1, none⟩ (.int .i64 (la : Nat)))) := HL3.out.trans (((frm_set w3 _ 0 _ (F := fun k => k = w.heap.size + 1) rfl).trans (frm_set _ _ 1 _ (F := fun k => k = w.heap.size + 1) rfl) (fun k hk => .inl hk)).below HL3.out.size (fun k hk => by omega))
      go_wp2_with fail
      have q0 : ((w3.setCell ⟨w.heap.size + 1, 0, none⟩ (.slice (some ⟨b, 0, none⟩) D.length c)).setCell ⟨w.heap.size + 1, 1, none⟩ (.int .i64 (la : Nat))).cell? ⟨w.heap.size + 1, 0, none⟩ = some (.slice (some ⟨b, 0, none⟩) D.length c) := HZ.out.cell
      have q1 : ((w3.setCell ⟨w.heap.size + 1, 0, none⟩ (.slice (some ⟨b, 0, none⟩) D.length c)).setCell ⟨w.heap.size + 1, 1, none⟩ (.int .i64 (la : Nat))).cell? ⟨w.heap.size + 1, 1, none⟩ = some (.int .i64 (la : Nat)) := HZ.out.cell
      generalize (w3.setCell ⟨w.heap.size + 1, 0, none⟩ (.slice (some ⟨b, 0, none⟩) D.length c)).setCell ⟨w.heap.size + 1, 1, none⟩ (.int .i64 (la : Nat)) = wz at *
      refine bodyPost_ret (v := .tuple #[tvD (.slice (some ⟨b, 0, none⟩) D.length c) la, .int .i64 92]) (by simp [results, Try.results29, go_sem, q0, q1]) rfl ?_
      exact ⟨⟨_, rfl, owns_base (owns_kept H0.out HFz.out) (Nat.zero_le _), fun g hg => .inl hg⟩, HFz.out⟩
    · rw [if_pos rfl]
      clear e1 hf hdn hd hdj y0 y2
      go_enter Try.func29, Try.ntmps29
      go_wp2_with fail
      generalize (w.alloc (.cells #[.slice (some ⟨b, 0, none⟩) D.length c, .int .i64 (la : Nat)] 27)).alloc (.cells #[.slice none 0 0, .int .i64 0] 27) = w2 at *
      refine (CL.out w2 (owns_kept H0.out HL.out)).mono ?_
      rintro e w3 ⟨rfl, hb3⟩
      have HL3 : Hid (Below w.heap.size w w3) := HL.out.trans (hb3.mono HL.out.size)
      have HS3 : Hid (BoxT w3 w.heap.size _ _) := HS.out.on hb3
      have HR3 : Hid (BoxT w3 (w.heap.size + 1) _ _) := HR.out.on hb3
      have s0 : w3.cell? ⟨w.heap.size, 0, none⟩ = some (.slice (some ⟨b, 0, none⟩) D.length c) := HS3.out.cell
      have s1 : w3.cell? ⟨w.heap.size, 1, none⟩ = some (.int .i64 (la : Nat)) := HS3.out.cell
      have r0 : w3.cell? ⟨w.heap.size + 1, 0, none⟩ = some (.slice none 0 0) := HR3.out.cell
      have r1 : w3.cell? ⟨w.heap.size + 1, 1, none⟩ = some (.int .i64 0) := HR3.out.cell
      have f0 : w3.frozen? ⟨w.heap.size + 1, 0, none⟩ = false := HR3.out.frozen
      have f1 : w3.frozen? ⟨w.heap.size + 1, 1, none⟩ = false := HR3.out.frozen
      clear hb3 CL HS HR HL
      have z1 : w3.cell? ⟨b, j * 3 + 1, none⟩ = some (.int .i64 dd.st) := (HL3.out.cell (p := ⟨b, j * 3 + 1, none⟩) hb).trans y1
      have C2 : Hid (Calls _ _ _ _ _) := rdecided_any dd.st w3
      rw [hds] at C2
      go_wp2_with fail
      refine C2.out.mono ?_
      rintro e w9 ⟨rfl, hw⟩
      rw [hw]
      clear hw C2
      have HW3 : Hid (w.heap.size + 2 ≤ w3.heap.size) := by have := HR3.out.lt; show _ ≤ _; omega
      go_wp2_with fail
      have hs4 : (w3.alloc (.cells #[.slice none 0 0, .int .i64 (la : Nat)] 27)).heap.size = w3.heap.size + 1 := by simp
      have b34 : Below w3.heap.size w3 (w3.alloc (.cells #[.slice none 0 0, .int .i64 (la : Nat)] 27)) := (Below.refl _ _).alloc (Nat.le_refl _) _
      have HB4 : Hid (BoxT (w3.alloc (.cells #[.slice none 0 0, .int .i64 (la : Nat)] 27)) w3.heap.size #[.slice none 0 0, .int .i64 (la : Nat)] 27) := BoxT.new _ _ _
      generalize w3.alloc (.cells #[.slice none 0 0, .int .i64 (la : Nat)] 27) = w4 at *
      have HS4 : Hid (w4.heap.size = w3.heap.size + 1) := hs4
      have HSB : Hid (BoxT w4 w.heap.size _ _) := HS3.out.on b34
      have HRB : Hid (BoxT w4 (w.heap.size + 1) _ _) := HR3.out.on b34
      have HL4 : Hid (Below w.heap.size w w4) := HL3.out.trans (b34.mono HL3.out.size)
      have HW3' : Hid (∃ o, o = w3.heap.size) := ⟨_, rfl⟩
      clear hs4 b34 HS3 HR3 HL3 z1 s0 s1 r0 r1 f0 f1
      generalize w3.heap.size = ob at *
      go_loopw [8] (fun i wr => ∃ k : Nat, k ≤ D.length ∧ i = .int .i64 (k : Int) ∧ Hid (∃ q l d, BoxT wr ob #[.slice q l d, .int .i64 (la : Nat)] 27 ∧ DocT wr (ob + 1) (.slice q l d) ((D.take k).eraseIdx j)) ∧ Hid (Frm w4 wr (fun k => k = ob))) (fun i _ => D.length - (intOf i).toNat)
      case atStart => exact ⟨0, Nat.zero_le _, by go_num, ⟨none, 0, 0, HB4.out, World.ownsRow_nil _ _ _ _⟩, Frm.refl _ _⟩
      case round =>
        obtain ⟨k, hk, rfl, hU, hF⟩ := hrel
        obtain ⟨q, l, d, hOB, hD⟩ := hU.out
        have HOB : Hid (BoxT _ _ _ _) := hOB
        have HD : Hid (DocT _ _ _ _) := hD
        have HSr : Hid (BoxT wr w.heap.size #[.slice (some ⟨b, 0, none⟩) D.length c, .int .i64 (la : Nat)] 27) := (hF.out.block _ HSB.out.lt (by have := HW3.out; omega)).trans HSB.out
        have HRr : Hid (BoxT wr (w.heap.size + 1) #[.slice none 0 0, .int .i64 0] 27) := (hF.out.block _ HRB.out.lt (by have := HW3.out; omega)).trans HRB.out
        have HLr : Hid (Below w.heap.size w wr) := HL4.out.trans ((hF.out.below (B := w.heap.size) (by rw [HS4.out]; have := HW3.out; omega) (fun k hk => by have := HW3.out; omega)))
        have HZr : Hid (ob + 1 ≤ wr.heap.size) := by have := hF.out.size; rw [HS4.out] at this; exact this
        have cs : wr.cell? ⟨w.heap.size, 0, none⟩ = some (.slice (some ⟨b, 0, none⟩) D.length c) := HSr.out.cell
        have co0 : wr.cell? ⟨ob, 0, none⟩ = some (.slice q l d) := HOB.out.cell
        have co1 : wr.cell? ⟨ob, 1, none⟩ = some (.int .i64 (la : Nat)) := HOB.out.cell
        have fo0 : wr.frozen? ⟨ob, 0, none⟩ = false := HOB.out.frozen
        clear hOB hD hU
        by_cases hk0 : k = D.length
        · subst hk0
          have cr0 : wr.cell? ⟨w.heap.size + 1, 0, none⟩ = some (.slice none 0 0) := HRr.out.cell
          have cr1 : wr.cell? ⟨w.heap.size + 1, 1, none⟩ = some (.int .i64 0) := HRr.out.cell
          have fr0 : wr.frozen? ⟨w.heap.size + 1, 0, none⟩ = false := HRr.out.frozen
          have fr1 : wr.frozen? ⟨w.heap.size + 1, 1, none⟩ = false := HRr.out.frozen
          rw [List.take_length] at HD
          have f2 : Frm wr ((wr.setCell ⟨w.heap.size + 1, 0, none⟩ (.slice q l d)).setCell ⟨w.heap.size + 1, 1, none⟩ (.int .i64 (la : Nat))) (fun k => k = w.heap.size + 1) := (frm_set wr _ 0 _ (F := fun k => k = w.heap.size + 1) rfl).trans (frm_set _ _ 1 _ (F := fun k => k = w.heap.size + 1) rfl) (fun k hk => .inl hk)
          have HE : Hid (DocT ((wr.setCell ⟨w.heap.size + 1, 0, none⟩ (.slice q l d)).setCell ⟨w.heap.size + 1, 1, none⟩ (.int .i64 (la : Nat))) 0 (.slice q l d) (D.eraseIdx j) ∧ Below w.heap.size w ((wr.setCell ⟨w.heap.size + 1, 0, none⟩ (.slice q l d)).setCell ⟨w.heap.size + 1, 1, none⟩ (.int .i64 (la : Nat)))) := by
            refine ⟨owns_base (HD.out.block (fun g hg => ?_)) (Nat.zero_le _), HLr.out.trans (f2.below (by have := HZr.out; have := HW3.out; omega) (fun k hk => by omega))⟩
            have h1 := HD.out.low hg
            have h3 := HW3.out
            obtain ⟨cur, h2⟩ := own_cells HD.out hg
            exact f2.block g (Array.getElem?_eq_some_iff.1 h2).1 (by omega)
          have HLo : Hid (∀ g, (Value.slice q l d).ownBlock = some g → w.heap.size ≤ g) := fun g hg => by have h1 := HD.out.low hg; have := HW3.out; omega
          have HBR : Hid (BoxT ((wr.setCell ⟨w.heap.size + 1, 0, none⟩ (.slice q l d)).setCell ⟨w.heap.size + 1, 1, none⟩ (.int .i64 (la : Nat))) (w.heap.size + 1) #[.slice q l d, .int .i64 (la : Nat)] 27) := (HRr.out.set (i := 0) _).set (i := 1) _
          clear HD HOB hF HSr HRr HLr f2
          go_wp2_with fail
          have t0 : ((wr.setCell ⟨w.heap.size + 1, 0, none⟩ (.slice q l d)).setCell ⟨w.heap.size + 1, 1, none⟩ (.int .i64 (la : Nat))).cell? ⟨w.heap.size + 1, 0, none⟩ = some (.slice q l d) := HBR.out.cell
          have t1 : ((wr.setCell ⟨w.heap.size + 1, 0, none⟩ (.slice q l d)).setCell ⟨w.heap.size + 1, 1, none⟩ (.int .i64 (la : Nat))).cell? ⟨w.heap.size + 1, 1, none⟩ = some (.int .i64 (la : Nat)) := HBR.out.cell
          generalize (wr.setCell ⟨w.heap.size + 1, 0, none⟩ (.slice q l d)).setCell ⟨w.heap.size + 1, 1, none⟩ (.int .i64 (la : Nat)) = wz at *
          refine bodyPost_ret (v := .tuple #[tvD (.slice q l d) la, .int .i64 0]) (by simp [results, Try.results29, go_sem, t0, t1]) rfl ?_
          exact ⟨⟨_, rfl, HE.out.1, fun g hg => .inr (HLo.out g hg)⟩, HE.out.2⟩
        · have hk1 : k < D.length := by omega
          by_cases hkj : k = j
          · have HUN : Hid (∃ q l d, BoxT wr ob #[.slice q l d, .int .i64 (la : Nat)] 27 ∧ DocT wr (ob + 1) (.slice q l d) ((D.take (k + 1)).eraseIdx j)) := by
              refine ⟨q, l, d, HOB.out, ?_⟩
              rw [erase_at D k j hk1, if_pos hkj, List.append_nil]
              exact HD.out
            have HFN := hF
            subst hkj
            clear HD HOB hF HSr HRr HLr hk0
            go_wp2_with fail
            go_roundw
            case rel => exact ⟨k + 1, by omega, by go_num, HUN, HFN⟩
            case measure => simp [intOf]; omega
          · obtain ⟨b9, eb, hb9, y0, y1, y2⟩ := HRD.out k hk1
            cases eb
            have z0 := (HLr.out.cell (p := ⟨b, k * 3, none⟩) hb9).trans y0
            have z1 := (HLr.out.cell (p := ⟨b, k * 3 + 1, none⟩) hb9).trans y1
            have z2 := (HLr.out.cell (p := ⟨b, k * 3 + 2, none⟩) hb9).trans y2
            have HT := erase_at D k j hk1
            rw [if_neg hkj] at HT
            have HTL : Hid (((D.take k).eraseIdx j).length ≤ k) := Nat.le_trans (List.length_eraseIdx_le _ _) (by rw [List.length_take]; omega)
            have hkj' : ¬ (k : Int) = (j : Int) := by omega
            clear y0 y1 y2 hk0 hkj
            obtain ⟨g, cap, we, hrun, hD2, hF2⟩ := docApp wr.drew (ob + 1) _ _ D[k] HD.out (by have := HTL.out; omega) HZr.out
            have zr := HZr.out
            have zw := HW3.out
            have hob2 : we.heap[ob]? = wr.heap[ob]? := hF2.block _ (by show _ < wr.heap.size; omega) (fun e => by have := HD.out.low e; omega)
            have HOB2 : Hid (BoxT we ob _ _) := hob2.trans HOB.out
            have hsb2 : we.heap[w.heap.size]? = wr.heap[w.heap.size]? := hF2.block _ (by show _ < wr.heap.size; omega) (fun e => by have := HD.out.low e; omega)
            have hbb2 : we.heap[b]? = wr.heap[b]? := hF2.block _ (by show _ < wr.heap.size; omega) (fun e => by have := HD.out.low e; omega)
            have ce0 : we.cell? ⟨ob, 0, none⟩ = some (.slice q l d) := HOB2.out.cell
            have fe0 : we.frozen? ⟨ob, 0, none⟩ = false := HOB2.out.frozen
            have HUN : Hid (∃ q l d, BoxT (we.setCell ⟨ob, 0, none⟩ (.slice (some ⟨g, 0, none⟩) (((D.take k).eraseIdx j).length + 1) cap)) ob #[.slice q l d, .int .i64 (la : Nat)] 27 ∧ DocT (we.setCell ⟨ob, 0, none⟩ (.slice (some ⟨g, 0, none⟩) (((D.take k).eraseIdx j).length + 1) cap)) (ob + 1) (.slice q l d) ((D.take (k + 1)).eraseIdx j)) := by
              refine ⟨_, _, _, HOB2.out.set _, ?_⟩
              rw [HT]
              refine hD2.block (fun g' hg' => ?_)
              have h1 := hD2.low hg'
              exact Below.heap_setCell _ _ _ _ (by simp; omega)
            have HFN : Hid (Frm w4 (we.setCell ⟨ob, 0, none⟩ (.slice (some ⟨g, 0, none⟩) (((D.take k).eraseIdx j).length + 1) cap)) (fun k => k = ob)) := (hF.out.drew.trans hF2 (fun k hk => .inr (by rw [HS4.out]; exact HD.out.low hk))).trans (frm_set we _ 0 _ (F := fun k => k = ob) rfl) (fun k hk => .inl hk)
            have hal : Below wr.heap.size wr.drew (wr.drew.alloc (.cells #[.int .i64 D[k].num, .int .i64 D[k].st, .int .u64 (D[k].sp : Nat)] 86)) := (Below.refl wr.heap.size wr.drew).alloc (Nat.le_refl _) _
            have HS0 : Hid (wr.drew.cell? ⟨ob, 0, none⟩ = some (.slice q l d) ∧ wr.drew.cell? ⟨w.heap.size, 0, none⟩ = some (.slice (some ⟨b, 0, none⟩) D.length c) ∧ wr.drew.cell? ⟨b, k * 3, none⟩ = some (.int .i64 D[k].num) ∧ wr.drew.cell? ⟨b, k * 3 + 1, none⟩ = some (.int .i64 D[k].st) ∧ wr.drew.cell? ⟨b, k * 3 + 2, none⟩ = some (.int .u64 (D[k].sp : Nat))) := ⟨co0, cs, z0, z1, z2⟩
            have HS1 : Hid ((wr.drew.alloc (.cells #[.int .i64 D[k].num, .int .i64 D[k].st, .int .u64 (D[k].sp : Nat)] 86)).cell? ⟨ob, 0, none⟩ = some (.slice q l d) ∧ (wr.drew.alloc (.cells #[.int .i64 D[k].num, .int .i64 D[k].st, .int .u64 (D[k].sp : Nat)] 86)).cell? ⟨w.heap.size, 0, none⟩ = some (.slice (some ⟨b, 0, none⟩) D.length c) ∧ (wr.drew.alloc (.cells #[.int .i64 D[k].num, .int .i64 D[k].st, .int .u64 (D[k].sp : Nat)] 86)).cell? ⟨b, k * 3, none⟩ = some (.int .i64 D[k].num) ∧ (wr.drew.alloc (.cells #[.int .i64 D[k].num, .int .i64 D[k].st, .int .u64 (D[k].sp : Nat)] 86)).cell? ⟨b, k * 3 + 1, none⟩ = some (.int .i64 D[k].st) ∧ (wr.drew.alloc (.cells #[.int .i64 D[k].num, .int .i64 D[k].st, .int .u64 (D[k].sp : Nat)] 86)).cell? ⟨b, k * 3 + 2, none⟩ = some (.int .u64 (D[k].sp : Nat))) :=
              ⟨(hal.cell (p := ⟨ob, 0, none⟩) (show ob < wr.heap.size by omega)).trans co0, (hal.cell (p := ⟨w.heap.size, 0, none⟩) (show w.heap.size < wr.heap.size by omega)).trans cs, (hal.cell (p := ⟨b, k * 3, none⟩) (show b < wr.heap.size by omega)).trans z0, (hal.cell (p := ⟨b, k * 3 + 1, none⟩) (show b < wr.heap.size by omega)).trans z1, (hal.cell (p := ⟨b, k * 3 + 2, none⟩) (show b < wr.heap.size by omega)).trans z2⟩
            have HS2 : Hid (we.cell? ⟨ob, 0, none⟩ = some (.slice q l d) ∧ we.cell? ⟨w.heap.size, 0, none⟩ = some (.slice (some ⟨b, 0, none⟩) D.length c) ∧ we.cell? ⟨b, k * 3, none⟩ = some (.int .i64 D[k].num) ∧ we.cell? ⟨b, k * 3 + 1, none⟩ = some (.int .i64 D[k].st) ∧ we.cell? ⟨b, k * 3 + 2, none⟩ = some (.int .u64 (D[k].sp : Nat))) :=
              ⟨ce0, (World.cell?_of_block (a := ⟨w.heap.size, 0, none⟩) hsb2).trans cs, (World.cell?_of_block (a := ⟨b, k * 3, none⟩) hbb2).trans z0, (World.cell?_of_block (a := ⟨b, k * 3 + 1, none⟩) hbb2).trans z1, (World.cell?_of_block (a := ⟨b, k * 3 + 2, none⟩) hbb2).trans z2⟩
            clear HT hD2 hF2 hob2 hsb2 hbb2 HOB2 HD hF HOB HSr HRr HLr hal zr zw
            generalize D[k].num = yn at *
            generalize D[k].st = ys at *
            generalize (D[k].sp : Int) = yp at *
            generalize ((D.take k).eraseIdx j).length = nl at *
            go_wp2_with fail
            refine wp_region_L (fun w' => w'.cell? ⟨ob, 0, none⟩ = some (.slice q l d) ∧ w'.cell? ⟨w.heap.size, 0, none⟩ = some (.slice (some ⟨b, 0, none⟩) D.length c) ∧ w'.cell? ⟨b, k * 3, none⟩ = some (.int .i64 yn) ∧ w'.cell? ⟨b, k * 3 + 1, none⟩ = some (.int .i64 ys) ∧ w'.cell? ⟨b, k * 3 + 2, none⟩ = some (.int .u64 yp)) 10 (by kernel_rfl) ?_
            refine wpL_take (v := ?_) 0 rfl (by kernel_rfl) (fun _ _ _ h => h) (by rfl) ?_ HS0.out ?_
            rotate_left
            focus
              intro w9 hw9
              obtain ⟨k0, k1, k2, k3, k4⟩ := hw9
              go_simp
              try with_reducible rfl
            try simp only [Act.put, List.setIfInBounds_toArray, List.set_cons_zero, List.set_cons_succ]
            refine wpL_take (v := ?_) 1 rfl (by kernel_rfl) (fun _ _ _ h => h) (by rfl) ?_ HS0.out ?_
            rotate_left
            focus
              intro w9 hw9
              obtain ⟨k0, k1, k2, k3, k4⟩ := hw9
              go_simp
              try with_reducible rfl
            try simp only [Act.put, List.setIfInBounds_toArray, List.set_cons_zero, List.set_cons_succ]
            refine wpL_take (v := ?_) 2 rfl (by kernel_rfl) (fun _ _ _ h => h) (by rfl) ?_ HS0.out ?_
            rotate_left
            focus
              intro w9 hw9
              obtain ⟨k0, k1, k2, k3, k4⟩ := hw9
              go_simp
              try with_reducible rfl
            try simp only [Act.put, List.setIfInBounds_toArray, List.set_cons_zero, List.set_cons_succ]
            refine wpL_take (v := ?_) 3 rfl (by kernel_rfl) (fun _ _ _ h => h) (by rfl) ?_ HS0.out ?_
            rotate_left
            focus
              intro w9 hw9
              obtain ⟨k0, k1, k2, k3, k4⟩ := hw9
              go_simp
              try with_reducible rfl
            try simp only [Act.put, List.setIfInBounds_toArray, List.set_cons_zero, List.set_cons_succ]
            refine wpL_take (v := ?_) 4 rfl (by kernel_rfl) (fun _ _ _ h => h) (by rfl) ?_ HS0.out ?_
            rotate_left
            focus
              intro w9 hw9
              obtain ⟨k0, k1, k2, k3, k4⟩ := hw9
              go_simp
              try with_reducible rfl
            try simp only [Act.put, List.setIfInBounds_toArray, List.set_cons_zero, List.set_cons_succ]
            refine wpL_take (v := ?_) 5 rfl (by kernel_rfl) (fun _ _ _ h => h) (by rfl) ?_ HS0.out ?_
            rotate_left
            focus
              intro w9 hw9
              obtain ⟨k0, k1, k2, k3, k4⟩ := hw9
              go_simp
              try with_reducible rfl
            try simp only [Act.put, List.setIfInBounds_toArray, List.set_cons_zero, List.set_cons_succ]
            refine wpL_take (v := ?_) 6 rfl (by kernel_rfl) (fun _ _ _ h => h) (by rfl) ?_ HS0.out ?_
            rotate_left
            focus
              intro w9 hw9
              obtain ⟨k0, k1, k2, k3, k4⟩ := hw9
              go_simp
              try with_reducible rfl
            try simp only [Act.put, List.setIfInBounds_toArray, List.set_cons_zero, List.set_cons_succ]
            refine wpL_one 7 rfl (by kernel_rfl) (by rfl) ?_
            intro K hK
            go_simp
            refine hK.out _ _ (fun _ => HS1.out) ?_
            clear hK K
            try simp only [Act.put, List.setIfInBounds_toArray, List.set_cons_zero, List.set_cons_succ]
            refine wpL_one 8 rfl (by kernel_rfl) (by rfl) ?_
            intro K hK
            refine operApp _ _ (.tmp 38) (.tmp 44) 25 rfl _ _ _ rfl rfl hrun ?_
            refine hK.out _ _ (fun _ => HS2.out) ?_
            clear hK K
            try simp only [Act.put, List.setIfInBounds_toArray, List.set_cons_zero, List.set_cons_succ]
            refine wpL_take (v := ?_) 9 rfl (by kernel_rfl) (fun _ _ _ h => h) (by rfl) ?_ HS2.out ?_
            rotate_left
            focus
              intro w9 hw9
              obtain ⟨k0, k1, k2, k3, k4⟩ := hw9
              go_simp
              try with_reducible rfl
            try simp only [Act.put, List.setIfInBounds_toArray, List.set_cons_zero, List.set_cons_succ]
            refine wpL_one 10 rfl (by kernel_rfl) (by rfl) ?_
            intro K hK
            go_simp
            refine hK.out _ _ (fun h => absurd rfl h) ?_
            clear hK K
            refine wpL_done (by kernel_rfl) ?_ _
            try simp only [NoPanic]
            go_wp2_with fail
            go_roundw
            case rel => exact ⟨k + 1, by omega, by go_num, HUN, HFN⟩
            case measure => simp [intOf]; omega
end Go.Proofs.Ytmcdpadmjicafaa
