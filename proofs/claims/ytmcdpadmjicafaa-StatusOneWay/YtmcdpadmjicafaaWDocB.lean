/- The document's Begin. -/
import Derived.Test.YtmcdpadmjicafaaWDocT
import Derived.Test.YtmcdpadmjicafaaMAny9
namespace Go.Proofs.Ytmcdpadmjicafaa
open Go.RowKit Go.Maps
set_option maxRecDepth 100000

def begD (D : List Dx) (la : Nat) : List Dx × Nat × Int × Int := if 256 ≤ (openD D).length then (D, la, 0, 2) else (D ++ [⟨(la : Int) + 1, 1, 0⟩], la + 1, (la : Int) + 1, 0)
set_option maxHeartbeats 2000000 in
theorem rbegin_any (D : List Dx) (v : Value) (la B : Nat) (w : World) (h : DocT w B v D) (hlen : D.length < 5000000000000) (hla : la < 1000000000000000) :
    Calls Try.prog 12 #[tvD v la] w fun e w' => (∃ u, e = .returned (.tuple #[tvD u (begD D la).2.1, .int .i64 (begD D la).2.2.1, .int .i64 (begD D la).2.2.2]) ∧ DocT w' 0 u (begD D la).1 ∧ ∀ g, u.ownBlock = some g → v.ownBlock = some g ∨ w.heap.size ≤ g) ∧ Below w.heap.size w w' := by
  obtain ⟨p, c, rfl, hrd⟩ := h.rd
  have HB1 : Below w.heap.size w (w.alloc (.cells #[.slice p D.length c, .int .i64 (la : Nat)] 27)) := (Below.refl _ _).alloc (Nat.le_refl _) _
  have hs1 : (w.alloc (.cells #[.slice p D.length c, .int .i64 (la : Nat)] 27)).heap.size = w.heap.size + 1 := by simp
  have B1 : BoxT (w.alloc (.cells #[.slice p D.length c, .int .i64 (la : Nat)] 27)) w.heap.size #[.slice p D.length c, .int .i64 (la : Nat)] 27 := BoxT.new _ _ _
  have HB2 : Below (w.alloc (.cells #[.slice p D.length c, .int .i64 (la : Nat)] 27)).heap.size (w.alloc (.cells #[.slice p D.length c, .int .i64 (la : Nat)] 27)) ((w.alloc (.cells #[.slice p D.length c, .int .i64 (la : Nat)] 27)).alloc (.cells #[.slice none 0 0, .int .i64 0] 27)) := (Below.refl _ _).alloc (Nat.le_refl _) _
  have HS : Hid (BoxT ((w.alloc (.cells #[.slice p D.length c, .int .i64 (la : Nat)] 27)).alloc (.cells #[.slice none 0 0, .int .i64 0] 27)) w.heap.size #[.slice p D.length c, .int .i64 (la : Nat)] 27) := B1.on HB2
  have HR : Hid (BoxT ((w.alloc (.cells #[.slice p D.length c, .int .i64 (la : Nat)] 27)).alloc (.cells #[.slice none 0 0, .int .i64 0] 27)) (w.heap.size + 1) #[.slice none 0 0, .int .i64 0] 27) := by rw [← hs1]; exact BoxT.new _ _ _
  have HL : Hid (Below w.heap.size w ((w.alloc (.cells #[.slice p D.length c, .int .i64 (la : Nat)] 27)).alloc (.cells #[.slice none 0 0, .int .i64 0] 27))) := HB1.trans (HB2.mono (by omega))
  have H0 : Hid (DocT w B (.slice p D.length c) D) := h
  have HRD : Hid (∀ i (hi : i < D.length), ∃ b, p = some ⟨b, 0, none⟩ ∧ b < w.heap.size ∧ w.cell? ⟨b, i * 3, none⟩ = some (.int .i64 D[i].num) ∧ w.cell? ⟨b, i * 3 + 1, none⟩ = some (.int .i64 D[i].st) ∧ w.cell? ⟨b, i * 3 + 2, none⟩ = some (.int .u64 (D[i].sp : Nat))) := hrd
  have CL : Hid (∀ w1, DocT w1 B (.slice p D.length c) D → Calls Try.prog 21 #[tvD (.slice p D.length c) la] w1 fun e w' => (∃ u, e = .returned u ∧ w'.ownsRow w1.heap.size 3 1 u (openD D).length ((openD D).map (Value.int .i64))) ∧ Below w1.heap.size w1 w') := fun w1 h1 => ropen_any D _ la B w1 h1 (by omega)
  have CW : Hid (∀ (a : Int) (x : Dx) (w1 : World), DocT w1 B (.slice p D.length c) D → Calls Try.prog 34 #[tvD (.slice p D.length c) la, .int .i64 a, .agg #[.int .i64 x.num, .int .i64 x.st, .int .u64 (x.sp : Nat)]] w1 fun e w' => (∃ u, e = .returned (tvD u la) ∧ DocT w' w1.heap.size u (withD D a x)) ∧ Below w1.heap.size w1 w') := fun a x w1 h1 => with_any D _ la B a x w1 h1 (by omega)
  clear h hrd HB1 hs1 B1 HB2
  unfold begD
  by_cases hfull : 256 ≤ (openD D).length
  · rw [if_pos hfull]
    clear CW
    go_enter Try.func12, Try.ntmps12
    go_wp2_with fail
    generalize (w.alloc (.cells #[.slice p D.length c, .int .i64 (la : Nat)] 27)).alloc (.cells #[.slice none 0 0, .int .i64 0] 27) = w2 at *
    refine (CL.out w2 (owns_kept H0.out HL.out)).mono ?_
    rintro e w3 ⟨⟨uo, rfl, ho⟩, hb3⟩
    obtain ⟨qo, co, rfl, _⟩ := own_rdI ho
    clear ho
    have HL3 : Hid (Below w.heap.size w w3) := HL.out.trans (hb3.mono HL.out.size)
    have HS3 : Hid (BoxT w3 w.heap.size _ _) := HS.out.on hb3
    have HR3 : Hid (BoxT w3 (w.heap.size + 1) _ _) := HR.out.on hb3
    have s0 : w3.cell? ⟨w.heap.size, 0, none⟩ = some (.slice p D.length c) := HS3.out.cell
    have s1 : w3.cell? ⟨w.heap.size, 1, none⟩ = some (.int .i64 (la : Nat)) := HS3.out.cell
    have r0 : w3.cell? ⟨w.heap.size + 1, 0, none⟩ = some (.slice none 0 0) := HR3.out.cell
    have r1 : w3.cell? ⟨w.heap.size + 1, 1, none⟩ = some (.int .i64 0) := HR3.out.cell
    have f0 : w3.frozen? ⟨w.heap.size + 1, 0, none⟩ = false := HR3.out.frozen
    have f1 : w3.frozen? ⟨w.heap.size + 1, 1, none⟩ = false := HR3.out.frozen
    clear hb3 CL HS HR HL
    have HZ : Hid (BoxT ((w3.setCell ⟨w.heap.size + 1, 0, none⟩ (.slice p D.length c)).setCell ⟨w.heap.size + 1, 1, none⟩ (.int .i64 (la : Nat))) (w.heap.size + 1) #[.slice p D.length c, .int .i64 (la : Nat)] 27) := (HR3.out.set (i := 0) _).set (i := 1) _
    have HFz : Hid (Below w.heap.size w ((w3.setCell ⟨w.heap.size + 1, 0, none⟩ (.slice p D.length c)).setCell ⟨w.heap.size + 1, 1, none⟩ (.int .i64 (la : Nat)))) := HL3.out.trans (((frm_set w3 _ 0 _ (F := fun k => k = w.heap.size + 1) rfl).trans (frm_set _ _ 1 _ (F := fun k => k = w.heap.size + 1) rfl) (fun k hk => .inl hk)).below HL3.out.size (fun k hk => by omega))
    go_wp2_with fail
    have q0 : ((w3.setCell ⟨w.heap.size + 1, 0, none⟩ (.slice p D.length c)).setCell ⟨w.heap.size + 1, 1, none⟩ (.int .i64 (la : Nat))).cell? ⟨w.heap.size + 1, 0, none⟩ = some (.slice p D.length c) := HZ.out.cell
    have q1 : ((w3.setCell ⟨w.heap.size + 1, 0, none⟩ (.slice p D.length c)).setCell ⟨w.heap.size + 1, 1, none⟩ (.int .i64 (la : Nat))).cell? ⟨w.heap.size + 1, 1, none⟩ = some (.int .i64 (la : Nat)) := HZ.out.cell
    generalize (w3.setCell ⟨w.heap.size + 1, 0, none⟩ (.slice p D.length c)).setCell ⟨w.heap.size + 1, 1, none⟩ (.int .i64 (la : Nat)) = wz at *
    refine bodyPost_ret (v := .tuple #[tvD (.slice p D.length c) la, .int .i64 0, .int .i64 2]) (by simp [results, Try.results12, go_sem, q0, q1]) rfl ?_
    exact ⟨⟨_, rfl, owns_base (owns_kept H0.out HFz.out) (Nat.zero_le _), fun g hg => .inl hg⟩, HFz.out⟩
  · rw [if_neg hfull]
    have hfull' : (openD D).length < 256 := by omega
    clear hfull
    go_enter Try.func12, Try.ntmps12
    go_wp2_with fail
    generalize (w.alloc (.cells #[.slice p D.length c, .int .i64 (la : Nat)] 27)).alloc (.cells #[.slice none 0 0, .int .i64 0] 27) = w2 at *
    refine (CL.out w2 (owns_kept H0.out HL.out)).mono ?_
    rintro e w3 ⟨⟨uo, rfl, ho⟩, hb3⟩
    obtain ⟨qo, co, rfl, _⟩ := own_rdI ho
    clear ho
    have HL3 : Hid (Below w.heap.size w w3) := HL.out.trans (hb3.mono HL.out.size)
    have HS3 : Hid (BoxT w3 w.heap.size _ _) := HS.out.on hb3
    have HR3 : Hid (BoxT w3 (w.heap.size + 1) _ _) := HR.out.on hb3
    have s0 : w3.cell? ⟨w.heap.size, 0, none⟩ = some (.slice p D.length c) := HS3.out.cell
    have s1 : w3.cell? ⟨w.heap.size, 1, none⟩ = some (.int .i64 (la : Nat)) := HS3.out.cell
    have r0 : w3.cell? ⟨w.heap.size + 1, 0, none⟩ = some (.slice none 0 0) := HR3.out.cell
    have r1 : w3.cell? ⟨w.heap.size + 1, 1, none⟩ = some (.int .i64 0) := HR3.out.cell
    have f0 : w3.frozen? ⟨w.heap.size + 1, 0, none⟩ = false := HR3.out.frozen
    have f1 : w3.frozen? ⟨w.heap.size + 1, 1, none⟩ = false := HR3.out.frozen
    clear hb3 CL HS HR HL
    go_wp2_with fail
    refine (CW.out (-1) ⟨0, 0, 0⟩ w3 (owns_kept H0.out HL3.out)).mono ?_
    rintro e w4 ⟨⟨u, rfl, hu⟩, hb4⟩
    have HU : Hid (DocT w4 w3.heap.size u D) := hu
    obtain ⟨q, lq, cq, eu⟩ : ∃ q l c, u = .slice q l c := by
      obtain ⟨q, cq, eu, _⟩ := hu.rd
      exact ⟨_, _, _, eu⟩
    subst eu
    have HL4 : Hid (Below w.heap.size w w4) := HL3.out.trans (hb4.mono HL3.out.size)
    have HS4 : Hid (BoxT w4 w.heap.size _ _) := HS3.out.on hb4
    have HR4 : Hid (BoxT w4 (w.heap.size + 1) _ _) := HR3.out.on hb4
    have HRl : Hid (w.heap.size + 1 < w3.heap.size) := HR3.out.lt
    have H34 : Hid (w3.heap.size ≤ w4.heap.size) := hb4.size
    have k0 : w4.cell? ⟨w.heap.size, 0, none⟩ = some (.slice p D.length c) := HS4.out.cell
    have k1 : w4.cell? ⟨w.heap.size, 1, none⟩ = some (.int .i64 (la : Nat)) := HS4.out.cell
    have a1 : (w4.alloc (.cells #[.slice q lq cq, .int .i64 (la : Nat)] 27)).cell? ⟨w.heap.size, 1, none⟩ = some (.int .i64 (la : Nat)) := (HS4.out.on ((Below.refl _ _).alloc (Nat.le_refl _) _)).cell
    have hs6 : (w4.alloc (.cells #[.slice q lq cq, .int .i64 ((la : Int) + 1)] 27)).heap.size = w4.heap.size + 1 := by simp
    have HB6 : Hid (Below w4.heap.size w4 (w4.alloc (.cells #[.slice q lq cq, .int .i64 ((la : Int) + 1)] 27))) := (Below.refl _ _).alloc (Nat.le_refl _) _
    have HO6 : Hid (BoxT (w4.alloc (.cells #[.slice q lq cq, .int .i64 ((la : Int) + 1)] 27)) w4.heap.size #[.slice q lq cq, .int .i64 ((la : Int) + 1)] 27) := BoxT.new _ _ _
    have HR6 : Hid (BoxT (w4.alloc (.cells #[.slice q lq cq, .int .i64 ((la : Int) + 1)] 27)) (w.heap.size + 1) _ _) := HR4.out.on HB6.out
    obtain ⟨g, cap, we, hrun, hD2, hF2⟩ := docApp (w4.alloc (.cells #[.slice q lq cq, .int .i64 ((la : Int) + 1)] 27)) w3.heap.size _ D ⟨(la : Int) + 1, 1, 0⟩ (owns_kept HU.out HB6.out) (by omega) (by rw [hs6]; have := H34.out; omega)
    rw [hs6] at hrun
    have hown : ∀ k, (Value.slice q lq cq).ownBlock = some k → k < w4.heap.size := fun k hk => by obtain ⟨cur, h2⟩ := own_cells HU.out hk; exact (Array.getElem?_eq_some_iff.1 h2).1
    have HOe : Hid (BoxT we w4.heap.size _ _) := (hF2.block _ (by omega) (fun e => by have := hown _ e; omega)).trans HO6.out
    have HRe : Hid (BoxT we (w.heap.size + 1) _ _) := (hF2.block _ (by have := HRl.out; have := H34.out; omega) (fun e => by have := HU.out.low e; have := HRl.out; omega)).trans HR6.out
    have HLe : Hid (Below w.heap.size w we) := (HL4.out.trans (HB6.out.mono HL4.out.size)).trans (hF2.below (by rw [hs6]; have := HL4.out.size; omega) (fun k hk => by have := HU.out.low hk; have := HL3.out.size; omega))
    have HDe : Hid (DocT we w3.heap.size (.slice (some ⟨g, 0, none⟩) (D.length + 1) cap) (D ++ [⟨(la : Int) + 1, 1, 0⟩])) := hD2
    have o0 : we.cell? ⟨w4.heap.size, 0, none⟩ = some (.slice q lq cq) := HOe.out.cell
    have fo : we.frozen? ⟨w4.heap.size, 0, none⟩ = false := HOe.out.frozen
    have HOf : Hid (BoxT (we.setCell ⟨w4.heap.size, 0, none⟩ (.slice (some ⟨g, 0, none⟩) (D.length + 1) cap)).drew w4.heap.size #[(.slice (some ⟨g, 0, none⟩) (D.length + 1) cap), .int .i64 ((la : Int) + 1)] 27) := HOe.out.set (i := 0) _
    have HRf : Hid (BoxT (we.setCell ⟨w4.heap.size, 0, none⟩ (.slice (some ⟨g, 0, none⟩) (D.length + 1) cap)).drew (w.heap.size + 1) #[.slice none 0 0, .int .i64 0] 27) := HRe.out.off _ (by have := HRl.out; have := H34.out; omega)
    have HSS : Hid ((we.setCell ⟨w4.heap.size, 0, none⟩ (.slice (some ⟨g, 0, none⟩) (D.length + 1) cap)).drew.cell? ⟨w4.heap.size, 0, none⟩ = some (.slice (some ⟨g, 0, none⟩) (D.length + 1) cap) ∧ (we.setCell ⟨w4.heap.size, 0, none⟩ (.slice (some ⟨g, 0, none⟩) (D.length + 1) cap)).drew.cell? ⟨w4.heap.size, 1, none⟩ = some (.int .i64 ((la : Int) + 1))) := ⟨HOf.out.cell, HOf.out.cell⟩
    have v0 : (we.setCell ⟨w4.heap.size, 0, none⟩ (.slice (some ⟨g, 0, none⟩) (D.length + 1) cap)).cell? ⟨w.heap.size + 1, 0, none⟩ = some (.slice none 0 0) := HRf.out.cell
    have v1 : (we.setCell ⟨w4.heap.size, 0, none⟩ (.slice (some ⟨g, 0, none⟩) (D.length + 1) cap)).cell? ⟨w.heap.size + 1, 1, none⟩ = some (.int .i64 0) := HRf.out.cell
    have h0f : (we.setCell ⟨w4.heap.size, 0, none⟩ (.slice (some ⟨g, 0, none⟩) (D.length + 1) cap)).frozen? ⟨w.heap.size + 1, 0, none⟩ = false := HRf.out.frozen
    have h1f : (we.setCell ⟨w4.heap.size, 0, none⟩ (.slice (some ⟨g, 0, none⟩) (D.length + 1) cap)).frozen? ⟨w.heap.size + 1, 1, none⟩ = false := HRf.out.frozen
    have HZ : Hid (BoxT (((we.setCell ⟨w4.heap.size, 0, none⟩ (.slice (some ⟨g, 0, none⟩) (D.length + 1) cap)).drew.setCell ⟨w.heap.size + 1, 0, none⟩ (.slice (some ⟨g, 0, none⟩) (D.length + 1) cap)).setCell ⟨w.heap.size + 1, 1, none⟩ (.int .i64 ((la : Int) + 1))) (w.heap.size + 1) #[(.slice (some ⟨g, 0, none⟩) (D.length + 1) cap), .int .i64 ((la : Int) + 1)] 27) := (HRf.out.set (i := 0) _).set (i := 1) _
    have hfw : Frm we (we.setCell ⟨w4.heap.size, 0, none⟩ (.slice (some ⟨g, 0, none⟩) (D.length + 1) cap)).drew (fun k => k = w4.heap.size) := (frm_set we _ 0 _ (F := fun k => k = w4.heap.size) rfl).drew
    have hfz : Frm (we.setCell ⟨w4.heap.size, 0, none⟩ (.slice (some ⟨g, 0, none⟩) (D.length + 1) cap)).drew (((we.setCell ⟨w4.heap.size, 0, none⟩ (.slice (some ⟨g, 0, none⟩) (D.length + 1) cap)).drew.setCell ⟨w.heap.size + 1, 0, none⟩ (.slice (some ⟨g, 0, none⟩) (D.length + 1) cap)).setCell ⟨w.heap.size + 1, 1, none⟩ (.int .i64 ((la : Int) + 1))) (fun k => k = w.heap.size + 1) := (frm_set _ _ 0 _ (F := fun k => k = w.heap.size + 1) rfl).trans (frm_set _ _ 1 _ (F := fun k => k = w.heap.size + 1) rfl) (fun k hk => .inl hk)
    have HLz : Hid (Below w.heap.size w (((we.setCell ⟨w4.heap.size, 0, none⟩ (.slice (some ⟨g, 0, none⟩) (D.length + 1) cap)).drew.setCell ⟨w.heap.size + 1, 0, none⟩ (.slice (some ⟨g, 0, none⟩) (D.length + 1) cap)).setCell ⟨w.heap.size + 1, 1, none⟩ (.int .i64 ((la : Int) + 1)))) := (HLe.out.trans (hfw.below HLe.out.size (fun k hk => by have := HL4.out.size; omega))).trans (hfz.below (Nat.le_trans HLe.out.size hfw.size) (fun k hk => by omega))
    have HGL : Hid (w3.heap.size ≤ g) := HDe.out.low (g := g) rfl
    have HGN : Hid (g ≠ w4.heap.size) := fun e => by
      obtain ⟨cur, h2⟩ := own_cells HDe.out (g := g) rfl
      have h3 := HOe.out
      unfold BoxT at h3
      rw [e, h3] at h2
      injection h2 with h2
      injection h2 with _ h2
      exact absurd h2 (by decide)
    have HDz : Hid (DocT (((we.setCell ⟨w4.heap.size, 0, none⟩ (.slice (some ⟨g, 0, none⟩) (D.length + 1) cap)).drew.setCell ⟨w.heap.size + 1, 0, none⟩ (.slice (some ⟨g, 0, none⟩) (D.length + 1) cap)).setCell ⟨w.heap.size + 1, 1, none⟩ (.int .i64 ((la : Int) + 1))) 0 (.slice (some ⟨g, 0, none⟩) (D.length + 1) cap) (D ++ [⟨(la : Int) + 1, 1, 0⟩])) := owns_base (HDe.out.block (fun k hk => by
      cases hk
      have h1 := HGL.out
      obtain ⟨cur, h2⟩ := own_cells HDe.out (g := g) rfl
      have h3 := (Array.getElem?_eq_some_iff.1 h2).1
      exact (hfz.block g (Nat.lt_of_lt_of_le h3 hfw.size) (by have := HRl.out; omega)).trans (hfw.block g h3 HGN.out))) (Nat.zero_le _)
    have HY1 : Hid ((((we.setCell ⟨w4.heap.size, 0, none⟩ (.slice (some ⟨g, 0, none⟩) (D.length + 1) cap)).drew.setCell ⟨w.heap.size + 1, 0, none⟩ (.slice (some ⟨g, 0, none⟩) (D.length + 1) cap)).setCell ⟨w.heap.size + 1, 1, none⟩ (.int .i64 ((la : Int) + 1))).cell? ⟨w4.heap.size, 1, none⟩ = some (.int .i64 ((la : Int) + 1))) := ((HOf.out.off _ (by have := HRl.out; have := H34.out; omega)).off _ (by have := HRl.out; have := H34.out; omega)).cell
    have HLo : Hid (∀ k, (Value.slice (some ⟨g, 0, none⟩) (D.length + 1) cap).ownBlock = some k → w.heap.size ≤ k) := fun k hk => by cases hk; have h1 := HGL.out; have := HL3.out.size; show _ ≤ g; omega
    clear hu hb4 s0 s1 r0 r1 f0 f1 CW hs6 hD2 hF2 hown hfw hfz HB6 HO6 HR6 HU HOe HRe HLe HDe HS4 HR4 HL4 HS3 HR3 HL3 HOf HRf HGN
    go_wp2_with (at_builtin; refine wpList_appT _ _ rfl (.tmp 19) (.tmp 23) 25 rfl _ _ _ rfl rfl hrun ?_)
    have x0 : (we.setCell ⟨w4.heap.size, 0, none⟩ (.slice (some ⟨g, 0, none⟩) (D.length + 1) cap)).cell? ⟨w4.heap.size, 0, none⟩ = some (.slice (some ⟨g, 0, none⟩) (D.length + 1) cap) := HSS.out.1
    have x1 : (we.setCell ⟨w4.heap.size, 0, none⟩ (.slice (some ⟨g, 0, none⟩) (D.length + 1) cap)).cell? ⟨w4.heap.size, 1, none⟩ = some (.int .i64 ((la : Int) + 1)) := HSS.out.2
    generalize (we.setCell ⟨w4.heap.size, 0, none⟩ (.slice (some ⟨g, 0, none⟩) (D.length + 1) cap)) = wf at *
    have y1 : ((wf.setCell ⟨w.heap.size + 1, 0, none⟩ (.slice (some ⟨g, 0, none⟩) (D.length + 1) cap)).setCell ⟨w.heap.size + 1, 1, none⟩ (.int .i64 ((la : Int) + 1))).cell? ⟨w4.heap.size, 1, none⟩ = some (.int .i64 ((la : Int) + 1)) := HY1.out
    have q0 : ((wf.setCell ⟨w.heap.size + 1, 0, none⟩ (.slice (some ⟨g, 0, none⟩) (D.length + 1) cap)).setCell ⟨w.heap.size + 1, 1, none⟩ (.int .i64 ((la : Int) + 1))).cell? ⟨w.heap.size + 1, 0, none⟩ = some (.slice (some ⟨g, 0, none⟩) (D.length + 1) cap) := HZ.out.cell
    have q1 : ((wf.setCell ⟨w.heap.size + 1, 0, none⟩ (.slice (some ⟨g, 0, none⟩) (D.length + 1) cap)).setCell ⟨w.heap.size + 1, 1, none⟩ (.int .i64 ((la : Int) + 1))).cell? ⟨w.heap.size + 1, 1, none⟩ = some (.int .i64 ((la : Int) + 1)) := HZ.out.cell
    have HDz2 : Hid (DocT ((wf.setCell ⟨w.heap.size + 1, 0, none⟩ (.slice (some ⟨g, 0, none⟩) (D.length + 1) cap)).setCell ⟨w.heap.size + 1, 1, none⟩ (.int .i64 ((la : Int) + 1))).drew 0 (.slice (some ⟨g, 0, none⟩) (D.length + 1) cap) (D ++ [⟨(la : Int) + 1, 1, 0⟩])) := HDz
    have HLz2 : Hid (Below w.heap.size w ((wf.setCell ⟨w.heap.size + 1, 0, none⟩ (.slice (some ⟨g, 0, none⟩) (D.length + 1) cap)).setCell ⟨w.heap.size + 1, 1, none⟩ (.int .i64 ((la : Int) + 1))).drew) := HLz
    clear HDz HLz HZ HY1 HSS
    refine wp_region_any (by kernel_rfl) ?_
    change wpAny _ _ _ _ _ _ _ (World.drew _)
    refine anyN_take (v := ?_) 1 rfl (by kernel_rfl) (by kernel_rfl) (by kernel_rfl) (fun _ _ _ h => h) (Or.inl ⟨by rfl, ?_⟩) ?_
    rotate_left
    focus
      intro w9
      go_simp
      try with_reducible rfl
    try simp only [Act.put, List.setIfInBounds_toArray, List.set_cons_zero, List.set_cons_succ]
    refine wpAny_ready (rs := [0, 2]) (by kernel_rfl) (by simp) ?_
    refine anyN_cons 0 rfl (by rfl) (fun K hK => ?_) (anyN_cons 2 rfl (by rfl) (fun K hK => ?_) AllReady.nil)
    · go_simp
      refine hK.out _ _ ?_
      clear hK K
      try simp only [Act.put, List.setIfInBounds_toArray, List.set_cons_zero, List.set_cons_succ]
      refine wpAny_ready (rs := [2, 3]) (by kernel_rfl) (by simp) ?_
      refine anyN_cons 2 rfl (by rfl) (fun K hK => ?_) (anyN_cons 3 rfl (by rfl) (fun K hK => ?_) AllReady.nil)
      · go_simp
        refine hK.out _ _ ?_
        clear hK K
        try simp only [Act.put, List.setIfInBounds_toArray, List.set_cons_zero, List.set_cons_succ]
        refine wpAny_ready (rs := [3]) (by kernel_rfl) (by simp) ?_
        refine anyN_cons 3 rfl (by rfl) (fun K hK => ?_) AllReady.nil
        go_simp
        refine hK.out _ _ ?_
        clear hK K
        try simp only [Act.put, List.setIfInBounds_toArray, List.set_cons_zero, List.set_cons_succ]
        generalize (wf.setCell ⟨w.heap.size + 1, 0, none⟩ (.slice (some ⟨g, 0, none⟩) (D.length + 1) cap)).setCell ⟨w.heap.size + 1, 1, none⟩ (.int .i64 ((la : Int) + 1)) = wz at *
        refine wpAny_ready (rs := [4]) (by kernel_rfl) (by simp) ?_
        refine anyN_cons 4 rfl (by rfl) (fun K hK => ?_) AllReady.nil
        go_simp
        refine hK.out _ _ ?_
        clear hK K
        try simp only [Act.put, List.setIfInBounds_toArray, List.set_cons_zero, List.set_cons_succ]
        refine wpAny_ready (rs := [5]) (by kernel_rfl) (by simp) ?_
        refine anyN_cons 5 rfl (by rfl) (fun K hK => ?_) AllReady.nil
        go_simp
        refine hK.out _ _ ?_
        clear hK K
        try simp only [Act.put, List.setIfInBounds_toArray, List.set_cons_zero, List.set_cons_succ]
        refine wpAny_done (by kernel_rfl) ?_ _
        go_wp2_with fail
        refine bodyPost_ret (v := .tuple #[tvD (.slice (some ⟨g, 0, none⟩) (D.length + 1) cap) (la + 1), .int .i64 ((la : Int) + 1), .int .i64 0]) (by simp [results, Try.results12, go_sem, q0, q1]) rfl ?_
        exact ⟨⟨_, rfl, HDz2.out, fun g hg => .inr (HLo.out g hg)⟩, HLz2.out⟩
      · go_simp
        refine hK.out _ _ ?_
        clear hK K
        try simp only [Act.put, List.setIfInBounds_toArray, List.set_cons_zero, List.set_cons_succ]
        generalize (wf.setCell ⟨w.heap.size + 1, 0, none⟩ (.slice (some ⟨g, 0, none⟩) (D.length + 1) cap)).setCell ⟨w.heap.size + 1, 1, none⟩ (.int .i64 ((la : Int) + 1)) = wz at *
        refine wpAny_ready (rs := [2]) (by kernel_rfl) (by simp) ?_
        refine anyN_cons 2 rfl (by rfl) (fun K hK => ?_) AllReady.nil
        go_simp
        refine hK.out _ _ ?_
        clear hK K
        try simp only [Act.put, List.setIfInBounds_toArray, List.set_cons_zero, List.set_cons_succ]
        refine wpAny_ready (rs := [4]) (by kernel_rfl) (by simp) ?_
        refine anyN_cons 4 rfl (by rfl) (fun K hK => ?_) AllReady.nil
        go_simp
        refine hK.out _ _ ?_
        clear hK K
        try simp only [Act.put, List.setIfInBounds_toArray, List.set_cons_zero, List.set_cons_succ]
        refine wpAny_ready (rs := [5]) (by kernel_rfl) (by simp) ?_
        refine anyN_cons 5 rfl (by rfl) (fun K hK => ?_) AllReady.nil
        go_simp
        refine hK.out _ _ ?_
        clear hK K
        try simp only [Act.put, List.setIfInBounds_toArray, List.set_cons_zero, List.set_cons_succ]
        refine wpAny_done (by kernel_rfl) ?_ _
        go_wp2_with fail
        refine bodyPost_ret (v := .tuple #[tvD (.slice (some ⟨g, 0, none⟩) (D.length + 1) cap) (la + 1), .int .i64 ((la : Int) + 1), .int .i64 0]) (by simp [results, Try.results12, go_sem, q0, q1]) rfl ?_
        exact ⟨⟨_, rfl, HDz2.out, fun g hg => .inr (HLo.out g hg)⟩, HLz2.out⟩
    · go_simp
      refine hK.out _ _ ?_
      clear hK K
      try simp only [Act.put, List.setIfInBounds_toArray, List.set_cons_zero, List.set_cons_succ]
      refine wpAny_ready (rs := [0]) (by kernel_rfl) (by simp) ?_
      refine anyN_cons 0 rfl (by rfl) (fun K hK => ?_) AllReady.nil
      go_simp
      refine hK.out _ _ ?_
      clear hK K
      try simp only [Act.put, List.setIfInBounds_toArray, List.set_cons_zero, List.set_cons_succ]
      refine wpAny_ready (rs := [3]) (by kernel_rfl) (by simp) ?_
      refine anyN_cons 3 rfl (by rfl) (fun K hK => ?_) AllReady.nil
      go_simp
      refine hK.out _ _ ?_
      clear hK K
      try simp only [Act.put, List.setIfInBounds_toArray, List.set_cons_zero, List.set_cons_succ]
      generalize (wf.setCell ⟨w.heap.size + 1, 0, none⟩ (.slice (some ⟨g, 0, none⟩) (D.length + 1) cap)).setCell ⟨w.heap.size + 1, 1, none⟩ (.int .i64 ((la : Int) + 1)) = wz at *
      refine wpAny_ready (rs := [4]) (by kernel_rfl) (by simp) ?_
      refine anyN_cons 4 rfl (by rfl) (fun K hK => ?_) AllReady.nil
      go_simp
      refine hK.out _ _ ?_
      clear hK K
      try simp only [Act.put, List.setIfInBounds_toArray, List.set_cons_zero, List.set_cons_succ]
      refine wpAny_ready (rs := [5]) (by kernel_rfl) (by simp) ?_
      refine anyN_cons 5 rfl (by rfl) (fun K hK => ?_) AllReady.nil
      go_simp
      refine hK.out _ _ ?_
      clear hK K
      try simp only [Act.put, List.setIfInBounds_toArray, List.set_cons_zero, List.set_cons_succ]
      refine wpAny_done (by kernel_rfl) ?_ _
      go_wp2_with fail
      refine bodyPost_ret (v := .tuple #[tvD (.slice (some ⟨g, 0, none⟩) (D.length + 1) cap) (la + 1), .int .i64 ((la : Int) + 1), .int .i64 0]) (by simp [results, Try.results12, go_sem, q0, q1]) rfl ?_
      exact ⟨⟨_, rfl, HDz2.out, fun g hg => .inr (HLo.out g hg)⟩, HLz2.out⟩
end Go.Proofs.Ytmcdpadmjicafaa
