/- The document's Commit. -/
import Derived.Test.YtmcdpadmjicafaaWDocT
namespace Go.Proofs.Ytmcdpadmjicafaa
open Go.RowKit Go.Maps
set_option maxRecDepth 100000

set_option maxHeartbeats 2000000 in
theorem rcommit_any (D : List Dx) (v : Value) (la B : Nat) (n : Int) (s : Nat) (w : World) (h : DocT w B v D) (hlen : D.length ≤ 5000000000000) :
    Calls Try.prog 25 #[tvD v la, .int .i64 n, .int .u64 (s : Nat)] w fun e w' => (∃ u, e = .returned (.tuple #[tvD u la, .int .i64 (turnD D n (mayCD s) 3 s).2]) ∧ DocT w' 0 u (turnD D n (mayCD s) 3 s).1 ∧ ∀ g, u.ownBlock = some g → v.ownBlock = some g ∨ w.heap.size ≤ g) ∧ Below w.heap.size w w' := by
  obtain ⟨p, c, rfl, hrd⟩ := h.rd
  have HB1 : Below w.heap.size w (w.alloc (.cells #[.slice p D.length c, .int .i64 (la : Nat)] 27)) := (Below.refl _ _).alloc (Nat.le_refl _) _
  have hs1 : (w.alloc (.cells #[.slice p D.length c, .int .i64 (la : Nat)] 27)).heap.size = w.heap.size + 1 := by simp
  have B1 : BoxT (w.alloc (.cells #[.slice p D.length c, .int .i64 (la : Nat)] 27)) w.heap.size #[.slice p D.length c, .int .i64 (la : Nat)] 27 := BoxT.new _ _ _
  have HB2 : Below (w.alloc (.cells #[.slice p D.length c, .int .i64 (la : Nat)] 27)).heap.size (w.alloc (.cells #[.slice p D.length c, .int .i64 (la : Nat)] 27)) ((w.alloc (.cells #[.slice p D.length c, .int .i64 (la : Nat)] 27)).alloc (.cells #[.slice none 0 0, .int .i64 0] 27)) := (Below.refl _ _).alloc (Nat.le_refl _) _
  have HS : Hid (BoxT ((w.alloc (.cells #[.slice p D.length c, .int .i64 (la : Nat)] 27)).alloc (.cells #[.slice none 0 0, .int .i64 0] 27)) w.heap.size #[.slice p D.length c, .int .i64 (la : Nat)] 27) := B1.on HB2
  have HR : Hid (BoxT ((w.alloc (.cells #[.slice p D.length c, .int .i64 (la : Nat)] 27)).alloc (.cells #[.slice none 0 0, .int .i64 0] 27)) (w.heap.size + 1) #[.slice none 0 0, .int .i64 0] 27) := by rw [← hs1]; exact BoxT.new _ _ _
  have HL : Hid (Below w.heap.size w ((w.alloc (.cells #[.slice p D.length c, .int .i64 (la : Nat)] 27)).alloc (.cells #[.slice none 0 0, .int .i64 0] 27))) := HB1.trans (HB2.mono (by omega))
  have H0 : Hid (DocT w B (.slice p D.length c) D) := h
  have HRD : Hid (∀ i (hi : i < D.length), ∃ b, p = some ⟨b, 0, none⟩ ∧ b < w.heap.size ∧ w.cell? ⟨b, i * 3, none⟩ = some (.int .i64 D[i].num) ∧ w.cell? ⟨b, i * 3 + 1, none⟩ = some (.int .i64 D[i].st) ∧ w.cell? ⟨b, i * 3 + 2, none⟩ = some (.int .u64 (D[i].sp : Nat))) := hrd
  have CL : Hid (∀ w1, DocT w1 B (.slice p D.length c) D → Calls Try.prog 48 #[tvD (.slice p D.length c) la, .int .i64 n] w1 fun e w' => e = .returned (.tuple #[.int .i64 (lookD D n).1, .int .i64 (lookD D n).2]) ∧ Below w1.heap.size w1 w') := fun w1 h1 => looked_any D _ la B n w1 h1 (by omega)
  have CW : Hid (∀ (a : Int) (x : Dx) (w1 : World), DocT w1 B (.slice p D.length c) D → Calls Try.prog 34 #[tvD (.slice p D.length c) la, .int .i64 a, .agg #[.int .i64 x.num, .int .i64 x.st, .int .u64 (x.sp : Nat)]] w1 fun e w' => (∃ u, e = .returned (tvD u la) ∧ DocT w' w1.heap.size u (withD D a x)) ∧ Below w1.heap.size w1 w') := fun a x w1 h1 => with_any D _ la B a x w1 h1 hlen
  clear h hrd HB1 hs1 B1 HB2
  unfold turnD
  cases hf : findD D n with
  | none =>
    have e1 : lookD D n = (0, 90) := by unfold lookD; rw [hf]
    rw [e1] at CL
    clear e1 hf
    go_enter Try.func25, Try.ntmps25
    go_wp2_with fail
    generalize (w.alloc (.cells #[.slice p D.length c, .int .i64 (la : Nat)] 27)).alloc (.cells #[.slice none 0 0, .int .i64 0] 27) = w2 at *
    refine (CL.out w2 (owns_kept H0.out HL.out)).mono ?_
    rintro e w3 ⟨rfl, hb3⟩
    have HL3 : Hid (Below w.heap.size w w3) := HL.out.trans (hb3.mono HL.out.size)
    have HS3 : Hid (BoxT w3 w.heap.size _ _) := HS.out.on hb3
    have HR3 : Hid (BoxT w3 (w.heap.size + 1) _ _) := HR.out.on hb3
    have s0 : w3.cell? ⟨w.heap.size, 0, none⟩ = some (.slice p D.length c) := HS3.out.cell
    have s1 : w3.cell? ⟨w.heap.size, 1, none⟩ = some (.int .i64 (la : Nat)) := HS3.out.cell
    have r0 : w3.cell? ⟨w.heap.size + 1, 0, none⟩ = some (.slice none 0 0) := HR3.out.cell
    have r1 : w3.cell? ⟨w.heap.size + 1, 1, none⟩ = some (.int .i64 0) := HR3.out.cell
    have f0 : w3.frozen? ⟨w.heap.size + 1, 0, none⟩ = false := HR3.out.frozen
    have f1 : w3.frozen? ⟨w.heap.size + 1, 1, none⟩ = false := HR3.out.frozen
    clear hb3 CL HS HR HL
    have HZ : Hid (BoxT ((w3.setCell ⟨w.heap.size + 1, 0, none⟩ (.slice p D.length c)).setCell ⟨w.heap.size + 1, 1, none⟩ (.int .i64 (la : Nat))) (w.heap.size + 1) #[.slice p D.length c, .int .i64 (la : Nat)] 27) := (HR3.out.set (i := 0) _).set (i := 1) _
    have HFz : Hid (Below w.heap.size w ((w3.setCell ⟨w.heap.size + 1, 0, none⟩ (.slice p D.length c)).setCell ⟨w.heap.size + 1, 1, none⟩ (.int .i64 (la : Nat)))) := HL3.out.trans (((frm_set w3 _ 0 _ (F := fun k => k = w.heap.size + 1) rfl).trans (frm_set _ _ 1 _ (F := fun k => k = w.heap.size + 1) rfl) (fun k hk => .inl hk)).below HL3.out.size (fun k hk => by omega))
    go_wp2_with fail
    have q0 : ((w3.setCell ⟨w.heap.size + 1, 0, none⟩ (.slice p D.length c)).setCell ⟨w.heap.size + 1, 1, none⟩ (.int .i64 (la : Nat))).cell? ⟨w.heap.size + 1, 0, none⟩ = some (.slice p D.length c) := HZ.out.cell
    have q1 : ((w3.setCell ⟨w.heap.size + 1, 0, none⟩ (.slice p D.length c)).setCell ⟨w.heap.size + 1, 1, none⟩ (.int .i64 (la : Nat))).cell? ⟨w.heap.size + 1, 1, none⟩ = some (.int .i64 (la : Nat)) := HZ.out.cell
    generalize (w3.setCell ⟨w.heap.size + 1, 0, none⟩ (.slice p D.length c)).setCell ⟨w.heap.size + 1, 1, none⟩ (.int .i64 (la : Nat)) = wz at *
    refine bodyPost_ret (v := .tuple #[tvD (.slice p D.length c) la, .int .i64 90]) (by simp [results, Try.results25, go_sem, q0, q1]) rfl ?_
    exact ⟨⟨_, rfl, owns_base (owns_kept H0.out HFz.out) (Nat.zero_le _), fun g hg => .inl hg⟩, HFz.out⟩
  | some j =>
    obtain ⟨⟨dd, hd, hdn⟩, _⟩ := findD_some hf
    obtain ⟨hj, hdj⟩ := List.getElem?_eq_some_iff.1 hd
    simp only [hd]
    cases hds : decS dd.st
    · have e1 : lookD D n = ((j : Int), 0) := by unfold lookD; rw [hf]; simp only [hd, hds]; rfl
      rw [e1] at CL
      obtain ⟨b, rfl, hb, y0, y1, y2⟩ := HRD.out j hj
      rw [hdj] at y1
      have em : (mayCD s) dd.st = if dd.st = 1 then 92 else if s = 0 ∨ 4611686018427387904 < s then 1 else 0 := by unfold mayCD; rw [hds]; rfl
      clear e1 hf hds hdn hd hdj y0 y2
      by_cases h1 : dd.st = 1
      · rw [show (mayCD s) dd.st = 92 by rw [em, if_pos h1], if_neg (by decide)]
        clear em
        go_enter Try.func25, Try.ntmps25
        go_wp2_with fail
        generalize (w.alloc (.cells #[.slice (some ⟨b, 0, none⟩) D.length c, .int .i64 (la : Nat)] 27)).alloc (.cells #[.slice none 0 0, .int .i64 0] 27) = w2 at *
        refine (CL.out w2 (owns_kept H0.out HL.out)).mono ?_
        rintro e w3 ⟨rfl, hb3⟩
        have HL3 : Hid (Below w.heap.size w w3) := HL.out.trans (hb3.mono HL.out.size)
        have HS3 : Hid (BoxT w3 w.heap.size _ _) := HS.out.on hb3
        have HR3 : Hid (BoxT w3 (w.heap.size + 1) _ _) := HR.out.on hb3
        have s0 : w3.cell? ⟨w.heap.size, 0, none⟩ = some (.slice (some ⟨b, 0, none⟩) D.length c) := HS3.out.cell
        have s1 : w3.cell? ⟨w.heap.size, 1, none⟩ = some (.int .i64 (la : Nat)) := HS3.out.cell
        have r0 : w3.cell? ⟨w.heap.size + 1, 0, none⟩ = some (.slice none 0 0) := HR3.out.cell
        have r1 : w3.cell? ⟨w.heap.size + 1, 1, none⟩ = some (.int .i64 0) := HR3.out.cell
        have f0 : w3.frozen? ⟨w.heap.size + 1, 0, none⟩ = false := HR3.out.frozen
        have f1 : w3.frozen? ⟨w.heap.size + 1, 1, none⟩ = false := HR3.out.frozen
        clear hb3 CL HS HR HL
        have z1 : w3.cell? ⟨b, j * 3 + 1, none⟩ = some (.int .i64 dd.st) := (HL3.out.cell (p := ⟨b, j * 3 + 1, none⟩) hb).trans y1
        rw [h1] at z1
        have HZ : Hid (BoxT ((w3.setCell ⟨w.heap.size + 1, 0, none⟩ (.slice (some ⟨b, 0, none⟩) D.length c)).setCell ⟨w.heap.size + 1, 1, none⟩ (.int .i64 (la : Nat))) (w.heap.size + 1) #[.slice (some ⟨b, 0, none⟩) D.length c, .int .i64 (la : Nat)] 27) := (HR3.out.set (i := 0) _).set (i := 1) _
        have HFz : Hid (Below w.heap.size w ((w3.setCell ⟨w.heap.size + 1, 0, none⟩ (.slice (some ⟨b, 0, none⟩) D.length c)).setCell ⟨w.heap.size + 1, 1, none⟩ (.int .i64 (la : Nat)))) := HL3.out.trans (((frm_set w3 _ 0 _ (F := fun k => k = w.heap.size + 1) rfl).trans (frm_set _ _ 1 _ (F := fun k => k = w.heap.size + 1) rfl) (fun k hk => .inl hk)).below HL3.out.size (fun k hk => by omega))
        go_wp2_with fail
        have q0 : ((w3.setCell ⟨w.heap.size + 1, 0, none⟩ (.slice (some ⟨b, 0, none⟩) D.length c)).setCell ⟨w.heap.size + 1, 1, none⟩ (.int .i64 (la : Nat))).cell? ⟨w.heap.size + 1, 0, none⟩ = some (.slice (some ⟨b, 0, none⟩) D.length c) := HZ.out.cell
        have q1 : ((w3.setCell ⟨w.heap.size + 1, 0, none⟩ (.slice (some ⟨b, 0, none⟩) D.length c)).setCell ⟨w.heap.size + 1, 1, none⟩ (.int .i64 (la : Nat))).cell? ⟨w.heap.size + 1, 1, none⟩ = some (.int .i64 (la : Nat)) := HZ.out.cell
        generalize (w3.setCell ⟨w.heap.size + 1, 0, none⟩ (.slice (some ⟨b, 0, none⟩) D.length c)).setCell ⟨w.heap.size + 1, 1, none⟩ (.int .i64 (la : Nat)) = wz at *
        refine bodyPost_ret (v := .tuple #[tvD (.slice (some ⟨b, 0, none⟩) D.length c) la, .int .i64 92]) (by simp [results, Try.results25, go_sem, q0, q1]) rfl ?_
        exact ⟨⟨_, rfl, owns_base (owns_kept H0.out HFz.out) (Nat.zero_le _), fun g hg => .inl hg⟩, HFz.out⟩
      · rw [if_neg h1] at em
        by_cases h2 : s = 0
        · subst h2
          rw [if_pos (.inl rfl)] at em
          rw [em, if_neg (by decide)]
          clear em
          go_enter Try.func25, Try.ntmps25
          go_wp2_with fail
          generalize (w.alloc (.cells #[.slice (some ⟨b, 0, none⟩) D.length c, .int .i64 (la : Nat)] 27)).alloc (.cells #[.slice none 0 0, .int .i64 0] 27) = w2 at *
          refine (CL.out w2 (owns_kept H0.out HL.out)).mono ?_
          rintro e w3 ⟨rfl, hb3⟩
          have HL3 : Hid (Below w.heap.size w w3) := HL.out.trans (hb3.mono HL.out.size)
          have HS3 : Hid (BoxT w3 w.heap.size _ _) := HS.out.on hb3
          have HR3 : Hid (BoxT w3 (w.heap.size + 1) _ _) := HR.out.on hb3
          have s0 : w3.cell? ⟨w.heap.size, 0, none⟩ = some (.slice (some ⟨b, 0, none⟩) D.length c) := HS3.out.cell
          have s1 : w3.cell? ⟨w.heap.size, 1, none⟩ = some (.int .i64 (la : Nat)) := HS3.out.cell
          have r0 : w3.cell? ⟨w.heap.size + 1, 0, none⟩ = some (.slice none 0 0) := HR3.out.cell
          have r1 : w3.cell? ⟨w.heap.size + 1, 1, none⟩ = some (.int .i64 0) := HR3.out.cell
          have f0 : w3.frozen? ⟨w.heap.size + 1, 0, none⟩ = false := HR3.out.frozen
          have f1 : w3.frozen? ⟨w.heap.size + 1, 1, none⟩ = false := HR3.out.frozen
          clear hb3 CL HS HR HL
          have z1 : w3.cell? ⟨b, j * 3 + 1, none⟩ = some (.int .i64 dd.st) := (HL3.out.cell (p := ⟨b, j * 3 + 1, none⟩) hb).trans y1
          have HZ : Hid (BoxT ((w3.setCell ⟨w.heap.size + 1, 0, none⟩ (.slice (some ⟨b, 0, none⟩) D.length c)).setCell ⟨w.heap.size + 1, 1, none⟩ (.int .i64 (la : Nat))) (w.heap.size + 1) #[.slice (some ⟨b, 0, none⟩) D.length c, .int .i64 (la : Nat)] 27) := (HR3.out.set (i := 0) _).set (i := 1) _
          have HFz : Hid (Below w.heap.size w ((w3.setCell ⟨w.heap.size + 1, 0, none⟩ (.slice (some ⟨b, 0, none⟩) D.length c)).setCell ⟨w.heap.size + 1, 1, none⟩ (.int .i64 (la : Nat)))) := HL3.out.trans (((frm_set w3 _ 0 _ (F := fun k => k = w.heap.size + 1) rfl).trans (frm_set _ _ 1 _ (F := fun k => k = w.heap.size + 1) rfl) (fun k hk => .inl hk)).below HL3.out.size (fun k hk => by omega))
          go_wp2_with fail
          have q0 : ((w3.setCell ⟨w.heap.size + 1, 0, none⟩ (.slice (some ⟨b, 0, none⟩) D.length c)).setCell ⟨w.heap.size + 1, 1, none⟩ (.int .i64 (la : Nat))).cell? ⟨w.heap.size + 1, 0, none⟩ = some (.slice (some ⟨b, 0, none⟩) D.length c) := HZ.out.cell
          have q1 : ((w3.setCell ⟨w.heap.size + 1, 0, none⟩ (.slice (some ⟨b, 0, none⟩) D.length c)).setCell ⟨w.heap.size + 1, 1, none⟩ (.int .i64 (la : Nat))).cell? ⟨w.heap.size + 1, 1, none⟩ = some (.int .i64 (la : Nat)) := HZ.out.cell
          generalize (w3.setCell ⟨w.heap.size + 1, 0, none⟩ (.slice (some ⟨b, 0, none⟩) D.length c)).setCell ⟨w.heap.size + 1, 1, none⟩ (.int .i64 (la : Nat)) = wz at *
          refine bodyPost_ret (v := .tuple #[tvD (.slice (some ⟨b, 0, none⟩) D.length c) la, .int .i64 1]) (by simp [results, Try.results25, go_sem, q0, q1]) rfl ?_
          exact ⟨⟨_, rfl, owns_base (owns_kept H0.out HFz.out) (Nat.zero_le _), fun g hg => .inl hg⟩, HFz.out⟩
        · have q0 : ¬ (s : Int) = 0 := by omega
          by_cases h3 : 4611686018427387904 < s
          · rw [if_pos (.inr h3)] at em
            rw [em, if_neg (by decide)]
            clear em
            have q9 : (4611686018427387904 : Int) < (s : Int) := by omega
            clear h2 h3
            go_enter Try.func25, Try.ntmps25
            go_wp2_with fail
            generalize (w.alloc (.cells #[.slice (some ⟨b, 0, none⟩) D.length c, .int .i64 (la : Nat)] 27)).alloc (.cells #[.slice none 0 0, .int .i64 0] 27) = w2 at *
            refine (CL.out w2 (owns_kept H0.out HL.out)).mono ?_
            rintro e w3 ⟨rfl, hb3⟩
            have HL3 : Hid (Below w.heap.size w w3) := HL.out.trans (hb3.mono HL.out.size)
            have HS3 : Hid (BoxT w3 w.heap.size _ _) := HS.out.on hb3
            have HR3 : Hid (BoxT w3 (w.heap.size + 1) _ _) := HR.out.on hb3
            have s0 : w3.cell? ⟨w.heap.size, 0, none⟩ = some (.slice (some ⟨b, 0, none⟩) D.length c) := HS3.out.cell
            have s1 : w3.cell? ⟨w.heap.size, 1, none⟩ = some (.int .i64 (la : Nat)) := HS3.out.cell
            have r0 : w3.cell? ⟨w.heap.size + 1, 0, none⟩ = some (.slice none 0 0) := HR3.out.cell
            have r1 : w3.cell? ⟨w.heap.size + 1, 1, none⟩ = some (.int .i64 0) := HR3.out.cell
            have f0 : w3.frozen? ⟨w.heap.size + 1, 0, none⟩ = false := HR3.out.frozen
            have f1 : w3.frozen? ⟨w.heap.size + 1, 1, none⟩ = false := HR3.out.frozen
            clear hb3 CL HS HR HL
            have z1 : w3.cell? ⟨b, j * 3 + 1, none⟩ = some (.int .i64 dd.st) := (HL3.out.cell (p := ⟨b, j * 3 + 1, none⟩) hb).trans y1
            have HZ : Hid (BoxT ((w3.setCell ⟨w.heap.size + 1, 0, none⟩ (.slice (some ⟨b, 0, none⟩) D.length c)).setCell ⟨w.heap.size + 1, 1, none⟩ (.int .i64 (la : Nat))) (w.heap.size + 1) #[.slice (some ⟨b, 0, none⟩) D.length c, .int .i64 (la : Nat)] 27) := (HR3.out.set (i := 0) _).set (i := 1) _
            have HFz : Hid (Below w.heap.size w ((w3.setCell ⟨w.heap.size + 1, 0, none⟩ (.slice (some ⟨b, 0, none⟩) D.length c)).setCell ⟨w.heap.size + 1, 1, none⟩ (.int .i64 (la : Nat)))) := HL3.out.trans (((frm_set w3 _ 0 _ (F := fun k => k = w.heap.size + 1) rfl).trans (frm_set _ _ 1 _ (F := fun k => k = w.heap.size + 1) rfl) (fun k hk => .inl hk)).below HL3.out.size (fun k hk => by omega))
            go_wp2_with fail
            have q0 : ((w3.setCell ⟨w.heap.size + 1, 0, none⟩ (.slice (some ⟨b, 0, none⟩) D.length c)).setCell ⟨w.heap.size + 1, 1, none⟩ (.int .i64 (la : Nat))).cell? ⟨w.heap.size + 1, 0, none⟩ = some (.slice (some ⟨b, 0, none⟩) D.length c) := HZ.out.cell
            have q1 : ((w3.setCell ⟨w.heap.size + 1, 0, none⟩ (.slice (some ⟨b, 0, none⟩) D.length c)).setCell ⟨w.heap.size + 1, 1, none⟩ (.int .i64 (la : Nat))).cell? ⟨w.heap.size + 1, 1, none⟩ = some (.int .i64 (la : Nat)) := HZ.out.cell
            generalize (w3.setCell ⟨w.heap.size + 1, 0, none⟩ (.slice (some ⟨b, 0, none⟩) D.length c)).setCell ⟨w.heap.size + 1, 1, none⟩ (.int .i64 (la : Nat)) = wz at *
            refine bodyPost_ret (v := .tuple #[tvD (.slice (some ⟨b, 0, none⟩) D.length c) la, .int .i64 1]) (by simp [results, Try.results25, go_sem, q0, q1]) rfl ?_
            exact ⟨⟨_, rfl, owns_base (owns_kept H0.out HFz.out) (Nat.zero_le _), fun g hg => .inl hg⟩, HFz.out⟩
          · rw [if_neg (by omega)] at em
            rw [em, if_pos rfl]
            clear em
            have q9 : ((s : Int) == 0 || decide ((4611686018427387904 : Int) < (s : Int))) = false := by
              rw [Bool.or_eq_false_iff]
              exact ⟨by simpa using q0, by simp; omega⟩
            clear h2 h3
            go_enter Try.func25, Try.ntmps25
            go_wp2_with fail
            generalize (w.alloc (.cells #[.slice (some ⟨b, 0, none⟩) D.length c, .int .i64 (la : Nat)] 27)).alloc (.cells #[.slice none 0 0, .int .i64 0] 27) = w2 at *
            refine (CL.out w2 (owns_kept H0.out HL.out)).mono ?_
            rintro e w3 ⟨rfl, hb3⟩
            have HL3 : Hid (Below w.heap.size w w3) := HL.out.trans (hb3.mono HL.out.size)
            have HS3 : Hid (BoxT w3 w.heap.size _ _) := HS.out.on hb3
            have HR3 : Hid (BoxT w3 (w.heap.size + 1) _ _) := HR.out.on hb3
            have s0 : w3.cell? ⟨w.heap.size, 0, none⟩ = some (.slice (some ⟨b, 0, none⟩) D.length c) := HS3.out.cell
            have s1 : w3.cell? ⟨w.heap.size, 1, none⟩ = some (.int .i64 (la : Nat)) := HS3.out.cell
            have r0 : w3.cell? ⟨w.heap.size + 1, 0, none⟩ = some (.slice none 0 0) := HR3.out.cell
            have r1 : w3.cell? ⟨w.heap.size + 1, 1, none⟩ = some (.int .i64 0) := HR3.out.cell
            have f0 : w3.frozen? ⟨w.heap.size + 1, 0, none⟩ = false := HR3.out.frozen
            have f1 : w3.frozen? ⟨w.heap.size + 1, 1, none⟩ = false := HR3.out.frozen
            clear hb3 CL HS HR HL
            have z1 : w3.cell? ⟨b, j * 3 + 1, none⟩ = some (.int .i64 dd.st) := (HL3.out.cell (p := ⟨b, j * 3 + 1, none⟩) hb).trans y1
            go_wp2_with fail
            refine (CW.out (j : Int) ⟨n, 3, s⟩ w3 (owns_kept H0.out HL3.out)).mono ?_
            rintro e w4 ⟨⟨u, rfl, hu⟩, hb4⟩
            have hHU : DocT w4 0 u (D.set j ⟨n, 3, s⟩) := by
              have h9 := owns_base hu (Nat.zero_le _) (C := 0)
              unfold withD at h9
              rw [if_pos (by omega), Int.toNat_natCast] at h9
              exact h9
            have HLow : Hid (∀ g, u.ownBlock = some g → w3.heap.size ≤ g) := fun g hg => hu.low hg
            obtain ⟨q, lq, cq, eu⟩ : ∃ q l c, u = .slice q l c := by
              obtain ⟨q, cq, eu, _⟩ := hu.rd
              exact ⟨_, _, _, eu⟩
            have HU : Hid (DocT w4 0 u _) := hHU
            have HL4 : Hid (Below w.heap.size w w4) := HL3.out.trans (hb4.mono HL3.out.size)
            have HR4 : Hid (BoxT w4 (w.heap.size + 1) _ _) := HR3.out.on hb4
            have HRl : Hid (w.heap.size + 1 < w3.heap.size) := HR3.out.lt
            have t0 : w4.cell? ⟨w.heap.size + 1, 0, none⟩ = some (.slice none 0 0) := HR4.out.cell
            have t1 : w4.cell? ⟨w.heap.size + 1, 1, none⟩ = some (.int .i64 0) := HR4.out.cell
            have g0 : w4.frozen? ⟨w.heap.size + 1, 0, none⟩ = false := HR4.out.frozen
            have g1 : w4.frozen? ⟨w.heap.size + 1, 1, none⟩ = false := HR4.out.frozen
            subst eu
            have HZ : Hid (BoxT ((w4.setCell ⟨w.heap.size + 1, 0, none⟩ (.slice q lq cq)).setCell ⟨w.heap.size + 1, 1, none⟩ (.int .i64 (la : Nat))) (w.heap.size + 1) #[.slice q lq cq, .int .i64 (la : Nat)] 27) := (HR4.out.set (i := 0) _).set (i := 1) _
            have hfz : Frm w4 ((w4.setCell ⟨w.heap.size + 1, 0, none⟩ (.slice q lq cq)).setCell ⟨w.heap.size + 1, 1, none⟩ (.int .i64 (la : Nat))) (fun k => k = w.heap.size + 1) := (frm_set w4 _ 0 _ (F := fun k => k = w.heap.size + 1) rfl).trans (frm_set _ _ 1 _ (F := fun k => k = w.heap.size + 1) rfl) (fun k hk => .inl hk)
            have HFz : Hid (Below w.heap.size w ((w4.setCell ⟨w.heap.size + 1, 0, none⟩ (.slice q lq cq)).setCell ⟨w.heap.size + 1, 1, none⟩ (.int .i64 (la : Nat)))) := HL4.out.trans (hfz.below HL4.out.size (fun k hk => by omega))
            have HDz : Hid (DocT ((w4.setCell ⟨w.heap.size + 1, 0, none⟩ (.slice q lq cq)).setCell ⟨w.heap.size + 1, 1, none⟩ (.int .i64 (la : Nat))) 0 (.slice q lq cq) _) := HU.out.block (fun g hg => hfz.block g (by obtain ⟨cur, h2⟩ := own_cells HU.out hg; exact (Array.getElem?_eq_some_iff.1 h2).1) (by have := HLow.out g hg; have := HRl.out; omega))
            clear hu hb4 hHU hfz HU HR4 HL4
            go_wp2_with fail
            have q0 : ((w4.setCell ⟨w.heap.size + 1, 0, none⟩ (.slice q lq cq)).setCell ⟨w.heap.size + 1, 1, none⟩ (.int .i64 (la : Nat))).cell? ⟨w.heap.size + 1, 0, none⟩ = some (.slice q lq cq) := HZ.out.cell
            have q1 : ((w4.setCell ⟨w.heap.size + 1, 0, none⟩ (.slice q lq cq)).setCell ⟨w.heap.size + 1, 1, none⟩ (.int .i64 (la : Nat))).cell? ⟨w.heap.size + 1, 1, none⟩ = some (.int .i64 (la : Nat)) := HZ.out.cell
            generalize (w4.setCell ⟨w.heap.size + 1, 0, none⟩ (.slice q lq cq)).setCell ⟨w.heap.size + 1, 1, none⟩ (.int .i64 (la : Nat)) = wz at *
            refine bodyPost_ret (v := .tuple #[tvD (.slice q lq cq) la, .int .i64 0]) (by simp [results, Try.results25, go_sem, q0, q1]) rfl ?_
            exact ⟨⟨_, rfl, HDz.out, fun g hg => .inr (Nat.le_trans HL3.out.size (HLow.out g hg))⟩, HFz.out⟩
    · have e1 : lookD D n = (0, 91) := by unfold lookD; rw [hf]; simp only [hd, hds]; rfl
      have e2 : (mayCD s) dd.st = 91 := by unfold mayCD; rw [hds]; rfl
      rw [e1] at CL
      rw [e2, if_neg (by decide)]
      clear e1 e2 hf hds hdn hd
      go_enter Try.func25, Try.ntmps25
      go_wp2_with fail
      generalize (w.alloc (.cells #[.slice p D.length c, .int .i64 (la : Nat)] 27)).alloc (.cells #[.slice none 0 0, .int .i64 0] 27) = w2 at *
      refine (CL.out w2 (owns_kept H0.out HL.out)).mono ?_
      rintro e w3 ⟨rfl, hb3⟩
      have HL3 : Hid (Below w.heap.size w w3) := HL.out.trans (hb3.mono HL.out.size)
      have HS3 : Hid (BoxT w3 w.heap.size _ _) := HS.out.on hb3
      have HR3 : Hid (BoxT w3 (w.heap.size + 1) _ _) := HR.out.on hb3
      have s0 : w3.cell? ⟨w.heap.size, 0, none⟩ = some (.slice p D.length c) := HS3.out.cell
      have s1 : w3.cell? ⟨w.heap.size, 1, none⟩ = some (.int .i64 (la : Nat)) := HS3.out.cell
      have r0 : w3.cell? ⟨w.heap.size + 1, 0, none⟩ = some (.slice none 0 0) := HR3.out.cell
      have r1 : w3.cell? ⟨w.heap.size + 1, 1, none⟩ = some (.int .i64 0) := HR3.out.cell
      have f0 : w3.frozen? ⟨w.heap.size + 1, 0, none⟩ = false := HR3.out.frozen
      have f1 : w3.frozen? ⟨w.heap.size + 1, 1, none⟩ = false := HR3.out.frozen
      clear hb3 CL HS HR HL
      have HZ : Hid (BoxT ((w3.setCell ⟨w.heap.size + 1, 0, none⟩ (.slice p D.length c)).setCell ⟨w.heap.size + 1, 1, none⟩ (.int .i64 (la : Nat))) (w.heap.size + 1) #[.slice p D.length c, .int .i64 (la : Nat)] 27) := (HR3.out.set (i := 0) _).set (i := 1) _
      have HFz : Hid (Below w.heap.size w ((w3.setCell ⟨w.heap.size + 1, 0, none⟩ (.slice p D.length c)).setCell ⟨w.heap.size + 1, 1, none⟩ (.int .i64 (la : Nat)))) := HL3.out.trans (((frm_set w3 _ 0 _ (F := fun k => k = w.heap.size + 1) rfl).trans (frm_set _ _ 1 _ (F := fun k => k = w.heap.size + 1) rfl) (fun k hk => .inl hk)).below HL3.out.size (fun k hk => by omega))
      go_wp2_with fail
      have q0 : ((w3.setCell ⟨w.heap.size + 1, 0, none⟩ (.slice p D.length c)).setCell ⟨w.heap.size + 1, 1, none⟩ (.int .i64 (la : Nat))).cell? ⟨w.heap.size + 1, 0, none⟩ = some (.slice p D.length c) := HZ.out.cell
      have q1 : ((w3.setCell ⟨w.heap.size + 1, 0, none⟩ (.slice p D.length c)).setCell ⟨w.heap.size + 1, 1, none⟩ (.int .i64 (la : Nat))).cell? ⟨w.heap.size + 1, 1, none⟩ = some (.int .i64 (la : Nat)) := HZ.out.cell
      generalize (w3.setCell ⟨w.heap.size + 1, 0, none⟩ (.slice p D.length c)).setCell ⟨w.heap.size + 1, 1, none⟩ (.int .i64 (la : Nat)) = wz at *
      refine bodyPost_ret (v := .tuple #[tvD (.slice p D.length c) la, .int .i64 91]) (by simp [results, Try.results25, go_sem, q0, q1]) rfl ?_
      exact ⟨⟨_, rfl, owns_base (owns_kept H0.out HFz.out) (Nat.zero_le _), fun g hg => .inl hg⟩, HFz.out⟩
end Go.Proofs.Ytmcdpadmjicafaa
