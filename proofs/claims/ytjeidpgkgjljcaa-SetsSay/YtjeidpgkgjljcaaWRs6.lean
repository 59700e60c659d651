/- The document's Without. -/
import Derived.Test.YtjeidpgkgjljcaaWRs4
namespace Go.Proofs.Ytjeidpgkgjljcaa
open Go.RowKit
set_option maxRecDepth 100000

/-- what is there while a foot is made of one -/
structure BW (w wr : World) (va0 va1 va2 : Value) : Prop where
  lw : Below w.heap.size w wr
  ba : Blk wr w.heap.size #[va0, va1, va2] 25
  br : Blk wr (w.heap.size + 1) #[.slice none 0 0, .slice none 0 0, .slice none 0 0] 25
  sz : w.heap.size + 1 < wr.heap.size
theorem BW.frm {w wr w' : World} {va0 va1 va2 : Value} (h : BW w wr va0 va1 va2) (hf : Frm wr w' (fun k => k = w.heap.size + 1 + 1)) : BW w w' va0 va1 va2 :=
  ⟨h.lw.trans (hf.below h.lw.size (fun k hk => by omega)), h.ba.frm hf (by omega), h.br.frm hf (by omega), Nat.lt_of_lt_of_le h.sz hf.size⟩

set_option maxHeartbeats 40000000 in
theorem rwithout_core (a : Ft) (tb : Int) (pa0 pa1 pa2 : Option Addr) (ca0 ca1 ca2 : Nat) (w : World)
    (hra0 : RowP w w.heap.size pa0 a.P) (hra1 : RowS w w.heap.size pa1 a.S) (hra2 : RowP w w.heap.size pa2 a.W)
    (m0 : a.P.length ≤ 4398046511104) (m1 : a.S.length ≤ 2513169434916) (m2 : a.W.length ≤ 4398046511104) :
    Calls Try.prog 14 #[.agg #[.slice pa0 a.P.length ca0, .slice pa1 a.S.length ca1, .slice pa2 a.W.length ca2], .int .i64 tb] w fun e w' => ∃ v0 v1 v2, e = .returned (.agg #[v0, v1, v2]) ∧ OwnP w' w.heap.size v0 (dropG (fun x => x.t == tb) a.P) ∧ OwnS w' w.heap.size v1 (dropG (fun x => x.t == tb) a.S) ∧ OwnP w' w.heap.size v2 (dropG (fun x => x.t == tb) a.W) ∧ Below w.heap.size w w' := by
  have HRa0 : Hid (RowP w w.heap.size pa0 a.P) := hra0
  have HRa1 : Hid (RowS w w.heap.size pa1 a.S) := hra1
  have HRa2 : Hid (RowP w w.heap.size pa2 a.W) := hra2
  have HLs0 : Hid (a.P.length ≤ 4398046511104) := m0
  have HLs1 : Hid (a.S.length ≤ 2513169434916) := m1
  have HLs2 : Hid (a.W.length ≤ 4398046511104) := m2
  have hal : Below w.heap.size w (((w.alloc (.cells #[.slice pa0 a.P.length ca0, .slice pa1 a.S.length ca1, .slice pa2 a.W.length ca2] 25)).alloc (.cells #[.slice none 0 0, .slice none 0 0, .slice none 0 0] 25)).alloc (.cells #[.slice none 0 0, .slice none 0 0, .slice none 0 0] 25)) := (((Below.refl _ _).alloc (Nat.le_refl _) _).alloc (by simp) _).alloc (by simp <;> omega) _
  have hz : (((w.alloc (.cells #[.slice pa0 a.P.length ca0, .slice pa1 a.S.length ca1, .slice pa2 a.W.length ca2] 25)).alloc (.cells #[.slice none 0 0, .slice none 0 0, .slice none 0 0] 25)).alloc (.cells #[.slice none 0 0, .slice none 0 0, .slice none 0 0] 25)).heap.size = w.heap.size + 1 + 1 + 1 := by simp
  have hBX : BW w (((w.alloc (.cells #[.slice pa0 a.P.length ca0, .slice pa1 a.S.length ca1, .slice pa2 a.W.length ca2] 25)).alloc (.cells #[.slice none 0 0, .slice none 0 0, .slice none 0 0] 25)).alloc (.cells #[.slice none 0 0, .slice none 0 0, .slice none 0 0] 25)) (.slice pa0 a.P.length ca0) (.slice pa1 a.S.length ca1) (.slice pa2 a.W.length ca2) := ⟨hal, (Blk.new w #[.slice pa0 a.P.length ca0, .slice pa1 a.S.length ca1, .slice pa2 a.W.length ca2] 25).keep (B := w.heap.size + 1) (((Below.refl _ _).alloc (by simp) _).alloc (by simp) _) (by omega), by
    have h := Blk.new (w.alloc (.cells #[.slice pa0 a.P.length ca0, .slice pa1 a.S.length ca1, .slice pa2 a.W.length ca2] 25)) #[.slice none 0 0, .slice none 0 0, .slice none 0 0] 25
    have e : (w.alloc (.cells #[.slice pa0 a.P.length ca0, .slice pa1 a.S.length ca1, .slice pa2 a.W.length ca2] 25)).heap.size = w.heap.size + 1 := by simp
    rw [e] at h
    exact h.keep (B := w.heap.size + 1 + 1) ((Below.refl _ _).alloc (by simp) _) (by omega), by rw [hz]; omega⟩
  have hBo : Blk (((w.alloc (.cells #[.slice pa0 a.P.length ca0, .slice pa1 a.S.length ca1, .slice pa2 a.W.length ca2] 25)).alloc (.cells #[.slice none 0 0, .slice none 0 0, .slice none 0 0] 25)).alloc (.cells #[.slice none 0 0, .slice none 0 0, .slice none 0 0] 25)) (w.heap.size + 1 + 1) #[.slice none 0 0, .slice none 0 0, .slice none 0 0] 25 := by
    have h := Blk.new ((w.alloc (.cells #[.slice pa0 a.P.length ca0, .slice pa1 a.S.length ca1, .slice pa2 a.W.length ca2] 25)).alloc (.cells #[.slice none 0 0, .slice none 0 0, .slice none 0 0] 25)) #[.slice none 0 0, .slice none 0 0, .slice none 0 0] 25
    have e : ((w.alloc (.cells #[.slice pa0 a.P.length ca0, .slice pa1 a.S.length ca1, .slice pa2 a.W.length ca2] 25)).alloc (.cells #[.slice none 0 0, .slice none 0 0, .slice none 0 0] 25)).heap.size = w.heap.size + 1 + 1 := by simp
    rw [e] at h
    exact h
  have HBX0 : Hid (BW w (((w.alloc (.cells #[.slice pa0 a.P.length ca0, .slice pa1 a.S.length ca1, .slice pa2 a.W.length ca2] 25)).alloc (.cells #[.slice none 0 0, .slice none 0 0, .slice none 0 0] 25)).alloc (.cells #[.slice none 0 0, .slice none 0 0, .slice none 0 0] 25)) (.slice pa0 a.P.length ca0) (.slice pa1 a.S.length ca1) (.slice pa2 a.W.length ca2)) := hBX
  have HBo : Hid (Blk (((w.alloc (.cells #[.slice pa0 a.P.length ca0, .slice pa1 a.S.length ca1, .slice pa2 a.W.length ca2] 25)).alloc (.cells #[.slice none 0 0, .slice none 0 0, .slice none 0 0] 25)).alloc (.cells #[.slice none 0 0, .slice none 0 0, .slice none 0 0] 25)) (w.heap.size + 1 + 1) #[.slice none 0 0, .slice none 0 0, .slice none 0 0] 25) := hBo
  have HSz : Hid (w.heap.size + 1 + 1 < (((w.alloc (.cells #[.slice pa0 a.P.length ca0, .slice pa1 a.S.length ca1, .slice pa2 a.W.length ca2] 25)).alloc (.cells #[.slice none 0 0, .slice none 0 0, .slice none 0 0] 25)).alloc (.cells #[.slice none 0 0, .slice none 0 0, .slice none 0 0] 25)).heap.size) := hBo.lt
  clear hra0 hra1 hra2 hal hz hBX hBo
  go_enter Try.func14, Try.ntmps14
  go_wp2_with fail
  generalize (((w.alloc (.cells #[.slice pa0 a.P.length ca0, .slice pa1 a.S.length ca1, .slice pa2 a.W.length ca2] 25)).alloc (.cells #[.slice none 0 0, .slice none 0 0, .slice none 0 0] 25)).alloc (.cells #[.slice none 0 0, .slice none 0 0, .slice none 0 0] 25)) = wS0 at *
  go_loopw [6] (fun i wr => ∃ (j : Nat) (q : Option Addr) (l d : Nat), j ≤ a.P.length ∧ i = .int .i64 (j : Int) ∧ Hid (Blk wr (w.heap.size + 1 + 1) #[.slice q l d, .slice none 0 0, .slice none 0 0] 25) ∧ Hid (OwnP wr wS0.heap.size (.slice q l d) (dropG (fun x => x.t == tb) (a.P.take j))) ∧ Hid (Frm wS0 wr (fun k => k = w.heap.size + 1 + 1))) (fun i _ => a.P.length - (intOf i).toNat)
  case atStart => exact ⟨0, none, 0, 0, Nat.zero_le _, by go_num, HBo.out, OwnP.nil _ _, Frm.refl _ _⟩
  case round =>
    obtain ⟨j, q, l, d, hj, rfl, HB, HOw, HFr⟩ := hrel
    have HBX : Hid (BW w wr (.slice pa0 a.P.length ca0) (.slice pa1 a.S.length ca1) (.slice pa2 a.W.length ca2)) := HBX0.out.frm HFr.out
    have g0 := HBX.out.ba.cell (i := 0) rfl
    by_cases hj0 : j = a.P.length
    · subst hj0
      rename World => wS1
      obtain ⟨x0, hx0⟩ : ∃ x, x = Value.slice q l d := ⟨_, rfl⟩
      have HO0 : Hid (OwnP wS1 (w.heap.size + 1 + 1 + 1) x0 (dropG (fun x => x.t == tb) a.P)) := by
        have h := HOw.out
        rw [List.take_of_length_le (Nat.le_refl _), ← hx0] at h
        exact h.mono HSz.out
      have HBo : Hid (Blk wS1 (w.heap.size + 1 + 1) #[x0, .slice none 0 0, .slice none 0 0] 25) := by
        have h := HB.out
        rw [← hx0] at h
        exact h
      have HBX1 : Hid (BW w wS1 (.slice pa0 a.P.length ca0) (.slice pa1 a.S.length ca1) (.slice pa2 a.W.length ca2)) := HBX.out
      have HSz1 : Hid (w.heap.size + 1 + 1 < wS1.heap.size) := HBo.out.lt
      clear HOw HB HFr hx0 HBX HBX0 HSz
      have HBX0 : Hid (BW w wS1 (.slice pa0 a.P.length ca0) (.slice pa1 a.S.length ca1) (.slice pa2 a.W.length ca2)) := HBX1.out
      have HSz : Hid (w.heap.size + 1 + 1 < wS1.heap.size) := HSz1.out
      clear HBX1 HSz1
      go_wp2_with fail
      go_loopw [7] (fun i wr => ∃ (j : Nat) (q : Option Addr) (l d : Nat), j ≤ a.S.length ∧ i = .int .i64 (j : Int) ∧ Hid (Blk wr (w.heap.size + 1 + 1) #[x0, .slice q l d, .slice none 0 0] 25) ∧ Hid (OwnS wr wS1.heap.size (.slice q l d) (dropG (fun x => x.t == tb) (a.S.take j))) ∧ Hid (Frm wS1 wr (fun k => k = w.heap.size + 1 + 1))) (fun i _ => a.S.length - (intOf i).toNat)
      case atStart => exact ⟨0, none, 0, 0, Nat.zero_le _, by go_num, HBo.out, OwnS.nil _ _, Frm.refl _ _⟩
      case round =>
        obtain ⟨j, q, l, d, hj, rfl, HB, HOw, HFr⟩ := hrel
        have HBX : Hid (BW w wr (.slice pa0 a.P.length ca0) (.slice pa1 a.S.length ca1) (.slice pa2 a.W.length ca2)) := HBX0.out.frm HFr.out
        have g0 := HBX.out.ba.cell (i := 1) rfl
        by_cases hj0 : j = a.S.length
        · subst hj0
          rename World => wS2
          obtain ⟨x1, hx1⟩ : ∃ x, x = Value.slice q l d := ⟨_, rfl⟩
          have HO1 : Hid (OwnS wS2 (w.heap.size + 1 + 1 + 1) x1 (dropG (fun x => x.t == tb) a.S)) := by
            have h := HOw.out
            rw [List.take_of_length_le (Nat.le_refl _), ← hx1] at h
            exact h.mono HSz.out
          have HBo : Hid (Blk wS2 (w.heap.size + 1 + 1) #[x0, x1, .slice none 0 0] 25) := by
            have h := HB.out
            rw [← hx1] at h
            exact h
          have HO0' : Hid (OwnP wS2 (w.heap.size + 1 + 1 + 1) x0 (dropG (fun x => x.t == tb) a.P)) := HO0.out.frm HFr.out (fun b9 hb9 hk => by omega)
          clear HO0
          have HO0 : Hid (OwnP wS2 (w.heap.size + 1 + 1 + 1) x0 (dropG (fun x => x.t == tb) a.P)) := HO0'.out
          clear HO0'
          have HBX1 : Hid (BW w wS2 (.slice pa0 a.P.length ca0) (.slice pa1 a.S.length ca1) (.slice pa2 a.W.length ca2)) := HBX.out
          have HSz1 : Hid (w.heap.size + 1 + 1 < wS2.heap.size) := HBo.out.lt
          clear HOw HB HFr hx1 HBX HBX0 HSz
          have HBX0 : Hid (BW w wS2 (.slice pa0 a.P.length ca0) (.slice pa1 a.S.length ca1) (.slice pa2 a.W.length ca2)) := HBX1.out
          have HSz : Hid (w.heap.size + 1 + 1 < wS2.heap.size) := HSz1.out
          clear HBX1 HSz1
          go_wp2_with fail
          go_loopw [8] (fun i wr => ∃ (j : Nat) (q : Option Addr) (l d : Nat), j ≤ a.W.length ∧ i = .int .i64 (j : Int) ∧ Hid (Blk wr (w.heap.size + 1 + 1) #[x0, x1, .slice q l d] 25) ∧ Hid (OwnP wr wS2.heap.size (.slice q l d) (dropG (fun x => x.t == tb) (a.W.take j))) ∧ Hid (Frm wS2 wr (fun k => k = w.heap.size + 1 + 1))) (fun i _ => a.W.length - (intOf i).toNat)
          case atStart => exact ⟨0, none, 0, 0, Nat.zero_le _, by go_num, HBo.out, OwnP.nil _ _, Frm.refl _ _⟩
          case round =>
            obtain ⟨j, q, l, d, hj, rfl, HB, HOw, HFr⟩ := hrel
            have HBX : Hid (BW w wr (.slice pa0 a.P.length ca0) (.slice pa1 a.S.length ca1) (.slice pa2 a.W.length ca2)) := HBX0.out.frm HFr.out
            have g0 := HBX.out.ba.cell (i := 2) rfl
            by_cases hj0 : j = a.W.length
            · subst hj0
              rename World => wS3
              obtain ⟨x2, hx2⟩ : ∃ x, x = Value.slice q l d := ⟨_, rfl⟩
              have HO2 : Hid (OwnP wS3 (w.heap.size + 1 + 1 + 1) x2 (dropG (fun x => x.t == tb) a.W)) := by
                have h := HOw.out
                rw [List.take_of_length_le (Nat.le_refl _), ← hx2] at h
                exact h.mono HSz.out
              have HBo : Hid (Blk wS3 (w.heap.size + 1 + 1) #[x0, x1, x2] 25) := by
                have h := HB.out
                rw [← hx2] at h
                exact h
              have HO0' : Hid (OwnP wS3 (w.heap.size + 1 + 1 + 1) x0 (dropG (fun x => x.t == tb) a.P)) := HO0.out.frm HFr.out (fun b9 hb9 hk => by omega)
              clear HO0
              have HO0 : Hid (OwnP wS3 (w.heap.size + 1 + 1 + 1) x0 (dropG (fun x => x.t == tb) a.P)) := HO0'.out
              clear HO0'
              have HO1' : Hid (OwnS wS3 (w.heap.size + 1 + 1 + 1) x1 (dropG (fun x => x.t == tb) a.S)) := HO1.out.frm HFr.out (fun b9 hb9 hk => by omega)
              clear HO1
              have HO1 : Hid (OwnS wS3 (w.heap.size + 1 + 1 + 1) x1 (dropG (fun x => x.t == tb) a.S)) := HO1'.out
              clear HO1'
              have HBX1 : Hid (BW w wS3 (.slice pa0 a.P.length ca0) (.slice pa1 a.S.length ca1) (.slice pa2 a.W.length ca2)) := HBX.out
              have HSz1 : Hid (w.heap.size + 1 + 1 < wS3.heap.size) := HBo.out.lt
              clear HOw HB HFr hx2 HBX HBX0 HSz
              have HBX0 : Hid (BW w wS3 (.slice pa0 a.P.length ca0) (.slice pa1 a.S.length ca1) (.slice pa2 a.W.length ca2)) := HBX1.out
              have HSz : Hid (w.heap.size + 1 + 1 < wS3.heap.size) := HSz1.out
              clear HBX1 HSz1
              obtain ⟨q0, l0, d0, e0⟩ : ∃ p n c, x0 = .slice p n c := by
                obtain ⟨p, c, e, _⟩ := HO0.out.row
                exact ⟨_, _, _, e⟩
              obtain ⟨q1, l1, d1, e1⟩ : ∃ p n c, x1 = .slice p n c := by
                obtain ⟨p, c, e, _⟩ := HO1.out.row
                exact ⟨_, _, _, e⟩
              obtain ⟨q2, l2, d2, e2⟩ : ∃ p n c, x2 = .slice p n c := by
                obtain ⟨p, c, e, _⟩ := HO2.out.row
                exact ⟨_, _, _, e⟩
              subst e0 e1 e2
              have o0 := HBo.out.cell (i := 0) rfl
              have o1 := HBo.out.cell (i := 1) rfl
              have o2 := HBo.out.cell (i := 2) rfl
              have z0 := HBX0.out.br.cell (i := 0) rfl
              have z1 := HBX0.out.br.cell (i := 1) rfl
              have z2 := HBX0.out.br.cell (i := 2) rfl
              have f0 := HBX0.out.br.frozen 0
              have f1 := HBX0.out.br.frozen 1
              have f2 := HBX0.out.br.frozen 2
              have HF : Hid (Frm wS3 (((wS3.setCell ⟨w.heap.size + 1, 0, none⟩ (.slice q0 l0 d0)).setCell ⟨w.heap.size + 1, 1, none⟩ (.slice q1 l1 d1)).setCell ⟨w.heap.size + 1, 2, none⟩ (.slice q2 l2 d2)) (fun k => k = w.heap.size + 1)) := ((frm_set _ _ _ _ (F := fun k => k = w.heap.size + 1) (.inl rfl)).trans (frm_set _ _ _ _ (F := fun k => k = w.heap.size + 1) (.inl rfl)) (fun k hk => .inl hk)).trans (frm_set _ _ _ _ (F := fun k => k = w.heap.size + 1) (.inl rfl)) (fun k hk => .inl hk)
              have HR : Hid (Blk (((wS3.setCell ⟨w.heap.size + 1, 0, none⟩ (.slice q0 l0 d0)).setCell ⟨w.heap.size + 1, 1, none⟩ (.slice q1 l1 d1)).setCell ⟨w.heap.size + 1, 2, none⟩ (.slice q2 l2 d2)) (w.heap.size + 1) #[.slice q0 l0 d0, .slice q1 l1 d1, .slice q2 l2 d2] 25) := ((HBX0.out.br.set 0 _).set 1 _).set 2 _
              go_wp2_with fail
              generalize (((wS3.setCell ⟨w.heap.size + 1, 0, none⟩ (.slice q0 l0 d0)).setCell ⟨w.heap.size + 1, 1, none⟩ (.slice q1 l1 d1)).setCell ⟨w.heap.size + 1, 2, none⟩ (.slice q2 l2 d2)) = we at *
              have r0 := HR.out.cell (i := 0) rfl
              have r1 := HR.out.cell (i := 1) rfl
              have r2 := HR.out.cell (i := 2) rfl
              refine bodyPost_ret (v := .agg #[.slice q0 l0 d0, .slice q1 l1 d1, .slice q2 l2 d2]) (by simp [results, Try.results14, go_sem, r0, r1, r2]) rfl ?_
              exact ⟨_, _, _, rfl, (HO0.out.frm HF.out (fun b9 hb9 hk => by omega)).mono (by omega), (HO1.out.frm HF.out (fun b9 hb9 hk => by omega)).mono (by omega), (HO2.out.frm HF.out (fun b9 hb9 hk => by omega)).mono (by omega), HBX0.out.lw.trans (HF.out.below HBX0.out.lw.size (fun k hk => by omega))⟩
            · have hj1 : j < a.W.length := by omega
              obtain ⟨bk, o, hp, hbB, c0, c1, c2⟩ := (HRa2.out.keep HBX.out.lw) j hj1
              have hsn := dropG_snoc (fun x => x.t == tb) a.W j hj1
              obtain ⟨y, hy⟩ : ∃ y, y = a.W[j] := ⟨_, rfl⟩
              rw [← hy] at c0 c1 c2 hsn
              have hlt : (dropG (fun x => x.t == tb) (a.W.take j)).length + 1 ≤ 4398046511104 := by
                have h9 := HLs2.out
                have h8 : (dropG (fun x => x.t == tb) (a.W.take j)).length ≤ (a.W.take j).length := List.length_filter_le _ _
                rw [List.length_take] at h8
                omega
              have HLn : Hid ((dropG (fun x => x.t == tb) (a.W.take j)).length + 1 ≤ 4398046511104) := hlt
              rw [hp] at g0
              have HBb : Hid (bk < w.heap.size) := hbB
              cases hyt : (y.t == tb)
              · have hne : (y.t != tb) = true := by rw [bne, hyt]; rfl
                have HTK : Hid ((dropG (fun x => x.t == tb) (a.W.take (j + 1))) = (dropG (fun x => x.t == tb) (a.W.take j)) ++ [y]) := by
                  refine (show _ = _ from ?_)
                  rw [hsn, hyt]
                  rfl
                have HS : Hid (wr.cell? ⟨w.heap.size + 1 + 1, 2, none⟩ = some (.slice q l d) ∧ wr.cell? ⟨w.heap.size, 2, none⟩ = some (.slice (some ⟨bk, o, none⟩) a.W.length ca2) ∧ wr.cell? ⟨bk, o + j * 3, none⟩ = some (.int .i64 y.t) ∧ wr.cell? ⟨bk, o + j * 3 + 1, none⟩ = some (.int .i64 y.i) ∧ wr.cell? ⟨bk, o + j * 3 + 2, none⟩ = some (.string y.k)) := ⟨HB.out.cell (i := 2) rfl, g0, c0, c1, c2⟩
                clear hp hj0 hbB hy hlt hyt hsn
                go_wp2_with fail
                clear c0 c1 c2
                refine wp_region_L (fun w' => w'.cell? ⟨w.heap.size + 1 + 1, 2, none⟩ = some (.slice q l d) ∧ w'.cell? ⟨w.heap.size, 2, none⟩ = some (.slice (some ⟨bk, o, none⟩) a.W.length ca2) ∧ w'.cell? ⟨bk, o + j * 3, none⟩ = some (.int .i64 y.t) ∧ w'.cell? ⟨bk, o + j * 3 + 1, none⟩ = some (.int .i64 y.i) ∧ w'.cell? ⟨bk, o + j * 3 + 2, none⟩ = some (.string y.k)) 10 (by kernel_rfl) ?_
                have hdr : Below wr.heap.size wr wr.drew := (Below.refl _ _).drew
                have HS0 : Hid (wr.drew.cell? ⟨w.heap.size + 1 + 1, 2, none⟩ = some (.slice q l d) ∧ wr.drew.cell? ⟨w.heap.size, 2, none⟩ = some (.slice (some ⟨bk, o, none⟩) a.W.length ca2) ∧ wr.drew.cell? ⟨bk, o + j * 3, none⟩ = some (.int .i64 y.t) ∧ wr.drew.cell? ⟨bk, o + j * 3 + 1, none⟩ = some (.int .i64 y.i) ∧ wr.drew.cell? ⟨bk, o + j * 3 + 2, none⟩ = some (.string y.k)) := HS.out
                have HBd : Hid (Blk wr.drew (w.heap.size + 1 + 1) #[x0, x1, .slice q l d] 25 ∧ OwnP wr.drew wS2.heap.size (.slice q l d) (dropG (fun x => x.t == tb) (a.W.take j)) ∧ BW w wr.drew (.slice pa0 a.P.length ca0) (.slice pa1 a.S.length ca1) (.slice pa2 a.W.length ca2) ∧ Frm wS2 wr.drew (fun k => k = w.heap.size + 1 + 1)) := ⟨HB.out.on hdr, HOw.out.kept hdr, HBX.out.frm (Frm.of_below hdr), HFr.out.drew⟩
                have HZ : Hid (bk < w.heap.size ∧ w.heap.size + 1 + 1 < wr.drew.heap.size ∧ w.heap.size + 1 + 1 < wS2.heap.size ∧ wS2.heap.size ≤ wr.drew.heap.size) := ⟨HBb.out, (HB.out.on hdr).lt, HSz.out, HFr.out.size⟩
                clear hdr HS HB HOw HBX HFr HBb
                generalize wr.drew = wd at *
                refine wpL_take (v := ?_) 0 rfl (by kernel_rfl) (fun _ _ _ h => h) (by rfl) ?_ HS0.out ?_
                rotate_left
                focus
                  intro w9 hw9
                  obtain ⟨k0, k1, k2, k3, k4⟩ := hw9
                  go_simp
                  try with_reducible rfl
                try simp only [Act.put, List.setIfInBounds_toArray, List.set_cons_zero, List.set_cons_succ]
                refine wpL_take (v := ?_) 1 rfl (by kernel_rfl) (fun _ _ _ h => h) (by rfl) ?_ HS0.out ?_
                rotate_left
                focus
                  intro w9 hw9
                  obtain ⟨k0, k1, k2, k3, k4⟩ := hw9
                  go_simp
                  try with_reducible rfl
                try simp only [Act.put, List.setIfInBounds_toArray, List.set_cons_zero, List.set_cons_succ]
                refine wpL_take (v := ?_) 2 rfl (by kernel_rfl) (fun _ _ _ h => h) (by rfl) ?_ HS0.out ?_
                rotate_left
                focus
                  intro w9 hw9
                  obtain ⟨k0, k1, k2, k3, k4⟩ := hw9
                  go_simp
                  try with_reducible rfl
                try simp only [Act.put, List.setIfInBounds_toArray, List.set_cons_zero, List.set_cons_succ]
                refine wpL_take (v := ?_) 3 rfl (by kernel_rfl) (fun _ _ _ h => h) (by rfl) ?_ HS0.out ?_
                rotate_left
                focus
                  intro w9 hw9
                  obtain ⟨k0, k1, k2, k3, k4⟩ := hw9
                  go_simp
                  try with_reducible rfl
                try simp only [Act.put, List.setIfInBounds_toArray, List.set_cons_zero, List.set_cons_succ]
                refine wpL_take (v := ?_) 4 rfl (by kernel_rfl) (fun _ _ _ h => h) (by rfl) ?_ HS0.out ?_
                rotate_left
                focus
                  intro w9 hw9
                  obtain ⟨k0, k1, k2, k3, k4⟩ := hw9
                  go_simp
                  try with_reducible rfl
                try simp only [Act.put, List.setIfInBounds_toArray, List.set_cons_zero, List.set_cons_succ]
                refine wpL_take (v := ?_) 5 rfl (by kernel_rfl) (fun _ _ _ h => h) (by rfl) ?_ HS0.out ?_
                rotate_left
                focus
                  intro w9 hw9
                  obtain ⟨k0, k1, k2, k3, k4⟩ := hw9
                  go_simp
                  try with_reducible rfl
                try simp only [Act.put, List.setIfInBounds_toArray, List.set_cons_zero, List.set_cons_succ]
                refine wpL_take (v := ?_) 6 rfl (by kernel_rfl) (fun _ _ _ h => h) (by rfl) ?_ HS0.out ?_
                rotate_left
                focus
                  intro w9 hw9
                  obtain ⟨k0, k1, k2, k3, k4⟩ := hw9
                  go_simp
                  try with_reducible rfl
                try simp only [Act.put, List.setIfInBounds_toArray, List.set_cons_zero, List.set_cons_succ]
                have HAL : Hid (Below wd.heap.size wd (wd.alloc (.cells #[.int .i64 y.t, .int .i64 y.i, .string y.k] 27))) := (Below.refl _ _).alloc (Nat.le_refl _) _
                have HS1 : Hid ((wd.alloc (.cells #[.int .i64 y.t, .int .i64 y.i, .string y.k] 27)).cell? ⟨w.heap.size + 1 + 1, 2, none⟩ = some (.slice q l d) ∧ (wd.alloc (.cells #[.int .i64 y.t, .int .i64 y.i, .string y.k] 27)).cell? ⟨w.heap.size, 2, none⟩ = some (.slice (some ⟨bk, o, none⟩) a.W.length ca2) ∧ (wd.alloc (.cells #[.int .i64 y.t, .int .i64 y.i, .string y.k] 27)).cell? ⟨bk, o + j * 3, none⟩ = some (.int .i64 y.t) ∧ (wd.alloc (.cells #[.int .i64 y.t, .int .i64 y.i, .string y.k] 27)).cell? ⟨bk, o + j * 3 + 1, none⟩ = some (.int .i64 y.i) ∧ (wd.alloc (.cells #[.int .i64 y.t, .int .i64 y.i, .string y.k] 27)).cell? ⟨bk, o + j * 3 + 2, none⟩ = some (.string y.k)) := by
                  obtain ⟨k0, k1, k2, k3, k4⟩ := HS0.out
                  obtain ⟨z1, z2, z3, z4⟩ := HZ.out
                  exact ⟨((HAL.out).cell (p := ⟨w.heap.size + 1 + 1, 2, none⟩) (show w.heap.size + 1 + 1 < _ by omega)).trans k0, ((HAL.out).cell (p := ⟨w.heap.size, 2, none⟩) (show w.heap.size < _ by omega)).trans k1, ((HAL.out).cell (p := ⟨bk, o + j * 3, none⟩) (show bk < _ by omega)).trans k2, ((HAL.out).cell (p := ⟨bk, o + j * 3 + 1, none⟩) (show bk < _ by omega)).trans k3, ((HAL.out).cell (p := ⟨bk, o + j * 3 + 2, none⟩) (show bk < _ by omega)).trans k4⟩
                refine wpL_one 7 rfl (by kernel_rfl) (by rfl) ?_
                intro K hK
                go_simp
                refine hK.out _ _ (fun _ => HS1.out) ?_
                clear hK K
                try simp only [Act.put, List.setIfInBounds_toArray, List.set_cons_zero, List.set_cons_succ]
                refine wpL_one 8 rfl (by kernel_rfl) (by rfl) ?_
                intro K hK
                refine wp_appP wd (.tmp 76) (.tmp 82) rfl wS2.heap.size (.slice q l d) (dropG (fun x => x.t == tb) (a.W.take j)) (by rfl) HBd.out.2.1 y wd.heap.size (by rfl) rfl HLn.out HZ.out.2.2.2 ?_
                intro v3 we h3 h5
                have HO3 : Hid (OwnP we wS2.heap.size v3 ((dropG (fun x => x.t == tb) (a.W.take j)) ++ [y]) ∧ Below wS2.heap.size wd we) := ⟨h3, h5⟩
                clear h3 h5
                have HS2 : Hid (we.cell? ⟨w.heap.size + 1 + 1, 2, none⟩ = some (.slice q l d) ∧ we.cell? ⟨w.heap.size, 2, none⟩ = some (.slice (some ⟨bk, o, none⟩) a.W.length ca2) ∧ we.cell? ⟨bk, o + j * 3, none⟩ = some (.int .i64 y.t) ∧ we.cell? ⟨bk, o + j * 3 + 1, none⟩ = some (.int .i64 y.i) ∧ we.cell? ⟨bk, o + j * 3 + 2, none⟩ = some (.string y.k)) := by
                  obtain ⟨k0, k1, k2, k3, k4⟩ := HS0.out
                  obtain ⟨z1, z2, z3, z4⟩ := HZ.out
                  exact ⟨((HO3.out.2).cell (p := ⟨w.heap.size + 1 + 1, 2, none⟩) (show w.heap.size + 1 + 1 < _ by omega)).trans k0, ((HO3.out.2).cell (p := ⟨w.heap.size, 2, none⟩) (show w.heap.size < _ by omega)).trans k1, ((HO3.out.2).cell (p := ⟨bk, o + j * 3, none⟩) (show bk < _ by omega)).trans k2, ((HO3.out.2).cell (p := ⟨bk, o + j * 3 + 1, none⟩) (show bk < _ by omega)).trans k3, ((HO3.out.2).cell (p := ⟨bk, o + j * 3 + 2, none⟩) (show bk < _ by omega)).trans k4⟩
                refine hK.out _ _ (fun _ => HS2.out) ?_
                clear hK K
                try simp only [Act.put, List.setIfInBounds_toArray, List.set_cons_zero, List.set_cons_succ]
                refine wpL_take (v := ?_) 9 rfl (by kernel_rfl) (fun _ _ _ h => h) (by rfl) ?_ HS2.out ?_
                rotate_left
                focus
                  intro w9 hw9
                  obtain ⟨k0, k1, k2, k3, k4⟩ := hw9
                  go_simp
                  try with_reducible rfl
                try simp only [Act.put, List.setIfInBounds_toArray, List.set_cons_zero, List.set_cons_succ]
                obtain ⟨q3, l3, d3, hv3⟩ : ∃ q3 l3 d3, v3 = .slice q3 l3 d3 := by
                  obtain ⟨p9, c9, e9, _⟩ := HO3.out.1.row
                  exact ⟨_, _, _, e9⟩
                subst hv3
                have HB3 : Hid (Blk we (w.heap.size + 1 + 1) #[x0, x1, .slice q l d] 25) := HBd.out.1.keep HO3.out.2 HZ.out.2.2.1
                have e0 := HB3.out.cell (i := 2) rfl
                have f0 := HB3.out.frozen 2
                refine wpL_one 10 rfl (by kernel_rfl) (by rfl) ?_
                intro K hK
                go_simp
                refine hK.out _ _ (fun h => absurd rfl h) ?_
                clear hK K
                refine wpL_done (by kernel_rfl) ?_ _
                try simp only [NoPanic]
                have HFN : Hid (Frm wS2 (we.setCell ⟨w.heap.size + 1 + 1, 2, none⟩ (.slice q3 l3 d3)) (fun k => k = w.heap.size + 1 + 1)) := (HBd.out.2.2.2.trans (Frm.of_belowB HO3.out.2 HZ.out.2.2.2) (G := fun k => wS2.heap.size ≤ k) (fun k hk => .inr hk)).trans (frm_set _ _ _ _ (F := fun k => k = w.heap.size + 1 + 1) (.inl rfl)) (fun k hk => .inl hk)
                have HBN : Hid (Blk (we.setCell ⟨w.heap.size + 1 + 1, 2, none⟩ (.slice q3 l3 d3)) (w.heap.size + 1 + 1) #[x0, x1, .slice q3 l3 d3] 25) := HB3.out.set 2 _
                have HON : Hid (OwnP (we.setCell ⟨w.heap.size + 1 + 1, 2, none⟩ (.slice q3 l3 d3)) wS2.heap.size (.slice q3 l3 d3) ((dropG (fun x => x.t == tb) (a.W.take j)) ++ [y])) := HO3.out.1.frm (frm_set we _ _ _ (F := fun k => k = w.heap.size + 1 + 1) (.inl rfl)) (fun b9 hb9 hk => by have := HZ.out.2.2.1; omega)
                have HXN : Hid (BW w (we.setCell ⟨w.heap.size + 1 + 1, 2, none⟩ (.slice q3 l3 d3)) (.slice pa0 a.P.length ca0) (.slice pa1 a.S.length ca1) (.slice pa2 a.W.length ca2)) := HBX0.out.frm HFN.out
                clear e0 f0 HB3 HO3 HS0 HS1 HS2 HAL HBd HZ
                generalize we.setCell ⟨w.heap.size + 1 + 1, 2, none⟩ (.slice q3 l3 d3) = wf at *
                go_wp2_with fail
                go_roundw
                case rel => exact ⟨j + 1, q3, l3, d3, by omega, by go_num, HBN.out, by
                  refine (show OwnP _ _ _ _ from ?_)
                  rw [HTK.out]
                  exact HON.out, HFN.out⟩
                case measure => simp [intOf]; omega
              · have hne : (y.t != tb) = false := by rw [bne, hyt]; rfl
                have HTK : Hid ((dropG (fun x => x.t == tb) (a.W.take (j + 1))) = (dropG (fun x => x.t == tb) (a.W.take j))) := by
                  refine (show _ = _ from ?_)
                  rw [hsn, hyt]
                  rfl
                clear hp hj0 hbB hy hlt hyt hsn
                go_wp2_with fail
                go_roundw
                case rel => exact ⟨j + 1, q, l, d, by omega, by go_num, HB.out, by
                  refine (show OwnP _ _ _ _ from ?_)
                  rw [HTK.out]
                  exact HOw.out, HFr.out⟩
                case measure => simp [intOf]; omega
        · have hj1 : j < a.S.length := by omega
          obtain ⟨bk, o, hp, hbB, c0, c1, c2, c3, c4⟩ := (HRa1.out.keep HBX.out.lw) j hj1
          have hsn := dropG_snoc (fun x => x.t == tb) a.S j hj1
          obtain ⟨y, hy⟩ : ∃ y, y = a.S[j] := ⟨_, rfl⟩
          rw [← hy] at c0 c1 c2 c3 c4 hsn
          have hlt : (dropG (fun x => x.t == tb) (a.S.take j)).length + 1 ≤ 2513169434916 := by
            have h9 := HLs1.out
            have h8 : (dropG (fun x => x.t == tb) (a.S.take j)).length ≤ (a.S.take j).length := List.length_filter_le _ _
            rw [List.length_take] at h8
            omega
          have HLn : Hid ((dropG (fun x => x.t == tb) (a.S.take j)).length + 1 ≤ 2513169434916) := hlt
          rw [hp] at g0
          have HBb : Hid (bk < w.heap.size) := hbB
          cases hyt : (y.t == tb)
          · have hne : (y.t != tb) = true := by rw [bne, hyt]; rfl
            have HTK : Hid ((dropG (fun x => x.t == tb) (a.S.take (j + 1))) = (dropG (fun x => x.t == tb) (a.S.take j)) ++ [y]) := by
              refine (show _ = _ from ?_)
              rw [hsn, hyt]
              rfl
            have HS : Hid (wr.cell? ⟨w.heap.size + 1 + 1, 1, none⟩ = some (.slice q l d) ∧ wr.cell? ⟨w.heap.size, 1, none⟩ = some (.slice (some ⟨bk, o, none⟩) a.S.length ca1) ∧ wr.cell? ⟨bk, o + j * 5, none⟩ = some (.int .i64 y.t) ∧ wr.cell? ⟨bk, o + j * 5 + 1, none⟩ = some (.int .i64 y.i) ∧ wr.cell? ⟨bk, o + j * 5 + 2, none⟩ = some (.string y.lo) ∧ wr.cell? ⟨bk, o + j * 5 + 3, none⟩ = some (.string y.hi) ∧ wr.cell? ⟨bk, o + j * 5 + 4, none⟩ = some (.bool y.op)) := ⟨HB.out.cell (i := 1) rfl, g0, c0, c1, c2, c3, c4⟩
            clear hp hj0 hbB hy hlt hyt hsn
            go_wp2_with fail
            clear c0 c1 c2 c3 c4
            refine wp_region_L (fun w' => w'.cell? ⟨w.heap.size + 1 + 1, 1, none⟩ = some (.slice q l d) ∧ w'.cell? ⟨w.heap.size, 1, none⟩ = some (.slice (some ⟨bk, o, none⟩) a.S.length ca1) ∧ w'.cell? ⟨bk, o + j * 5, none⟩ = some (.int .i64 y.t) ∧ w'.cell? ⟨bk, o + j * 5 + 1, none⟩ = some (.int .i64 y.i) ∧ w'.cell? ⟨bk, o + j * 5 + 2, none⟩ = some (.string y.lo) ∧ w'.cell? ⟨bk, o + j * 5 + 3, none⟩ = some (.string y.hi) ∧ w'.cell? ⟨bk, o + j * 5 + 4, none⟩ = some (.bool y.op)) 10 (by kernel_rfl) ?_
            have hdr : Below wr.heap.size wr wr.drew := (Below.refl _ _).drew
            have HS0 : Hid (wr.drew.cell? ⟨w.heap.size + 1 + 1, 1, none⟩ = some (.slice q l d) ∧ wr.drew.cell? ⟨w.heap.size, 1, none⟩ = some (.slice (some ⟨bk, o, none⟩) a.S.length ca1) ∧ wr.drew.cell? ⟨bk, o + j * 5, none⟩ = some (.int .i64 y.t) ∧ wr.drew.cell? ⟨bk, o + j * 5 + 1, none⟩ = some (.int .i64 y.i) ∧ wr.drew.cell? ⟨bk, o + j * 5 + 2, none⟩ = some (.string y.lo) ∧ wr.drew.cell? ⟨bk, o + j * 5 + 3, none⟩ = some (.string y.hi) ∧ wr.drew.cell? ⟨bk, o + j * 5 + 4, none⟩ = some (.bool y.op)) := HS.out
            have HBd : Hid (Blk wr.drew (w.heap.size + 1 + 1) #[x0, .slice q l d, .slice none 0 0] 25 ∧ OwnS wr.drew wS1.heap.size (.slice q l d) (dropG (fun x => x.t == tb) (a.S.take j)) ∧ BW w wr.drew (.slice pa0 a.P.length ca0) (.slice pa1 a.S.length ca1) (.slice pa2 a.W.length ca2) ∧ Frm wS1 wr.drew (fun k => k = w.heap.size + 1 + 1)) := ⟨HB.out.on hdr, HOw.out.kept hdr, HBX.out.frm (Frm.of_below hdr), HFr.out.drew⟩
            have HZ : Hid (bk < w.heap.size ∧ w.heap.size + 1 + 1 < wr.drew.heap.size ∧ w.heap.size + 1 + 1 < wS1.heap.size ∧ wS1.heap.size ≤ wr.drew.heap.size) := ⟨HBb.out, (HB.out.on hdr).lt, HSz.out, HFr.out.size⟩
            clear hdr HS HB HOw HBX HFr HBb
            generalize wr.drew = wd at *
            refine wpL_take (v := ?_) 0 rfl (by kernel_rfl) (fun _ _ _ h => h) (by rfl) ?_ HS0.out ?_
            rotate_left
            focus
              intro w9 hw9
              obtain ⟨k0, k1, k2, k3, k4, k5, k6⟩ := hw9
              go_simp
              try with_reducible rfl
            try simp only [Act.put, List.setIfInBounds_toArray, List.set_cons_zero, List.set_cons_succ]
            refine wpL_take (v := ?_) 1 rfl (by kernel_rfl) (fun _ _ _ h => h) (by rfl) ?_ HS0.out ?_
            rotate_left
            focus
              intro w9 hw9
              obtain ⟨k0, k1, k2, k3, k4, k5, k6⟩ := hw9
              go_simp
              try with_reducible rfl
            try simp only [Act.put, List.setIfInBounds_toArray, List.set_cons_zero, List.set_cons_succ]
            refine wpL_take (v := ?_) 2 rfl (by kernel_rfl) (fun _ _ _ h => h) (by rfl) ?_ HS0.out ?_
            rotate_left
            focus
              intro w9 hw9
              obtain ⟨k0, k1, k2, k3, k4, k5, k6⟩ := hw9
              go_simp
              try with_reducible rfl
            try simp only [Act.put, List.setIfInBounds_toArray, List.set_cons_zero, List.set_cons_succ]
            refine wpL_take (v := ?_) 3 rfl (by kernel_rfl) (fun _ _ _ h => h) (by rfl) ?_ HS0.out ?_
            rotate_left
            focus
              intro w9 hw9
              obtain ⟨k0, k1, k2, k3, k4, k5, k6⟩ := hw9
              go_simp
              try with_reducible rfl
            try simp only [Act.put, List.setIfInBounds_toArray, List.set_cons_zero, List.set_cons_succ]
            refine wpL_take (v := ?_) 4 rfl (by kernel_rfl) (fun _ _ _ h => h) (by rfl) ?_ HS0.out ?_
            rotate_left
            focus
              intro w9 hw9
              obtain ⟨k0, k1, k2, k3, k4, k5, k6⟩ := hw9
              go_simp
              try with_reducible rfl
            try simp only [Act.put, List.setIfInBounds_toArray, List.set_cons_zero, List.set_cons_succ]
            refine wpL_take (v := ?_) 5 rfl (by kernel_rfl) (fun _ _ _ h => h) (by rfl) ?_ HS0.out ?_
            rotate_left
            focus
              intro w9 hw9
              obtain ⟨k0, k1, k2, k3, k4, k5, k6⟩ := hw9
              go_simp
              try with_reducible rfl
            try simp only [Act.put, List.setIfInBounds_toArray, List.set_cons_zero, List.set_cons_succ]
            refine wpL_take (v := ?_) 6 rfl (by kernel_rfl) (fun _ _ _ h => h) (by rfl) ?_ HS0.out ?_
            rotate_left
            focus
              intro w9 hw9
              obtain ⟨k0, k1, k2, k3, k4, k5, k6⟩ := hw9
              go_simp
              try with_reducible rfl
            try simp only [Act.put, List.setIfInBounds_toArray, List.set_cons_zero, List.set_cons_succ]
            have HAL : Hid (Below wd.heap.size wd (wd.alloc (.cells #[.int .i64 y.t, .int .i64 y.i, .string y.lo, .string y.hi, .bool y.op] 55))) := (Below.refl _ _).alloc (Nat.le_refl _) _
            have HS1 : Hid ((wd.alloc (.cells #[.int .i64 y.t, .int .i64 y.i, .string y.lo, .string y.hi, .bool y.op] 55)).cell? ⟨w.heap.size + 1 + 1, 1, none⟩ = some (.slice q l d) ∧ (wd.alloc (.cells #[.int .i64 y.t, .int .i64 y.i, .string y.lo, .string y.hi, .bool y.op] 55)).cell? ⟨w.heap.size, 1, none⟩ = some (.slice (some ⟨bk, o, none⟩) a.S.length ca1) ∧ (wd.alloc (.cells #[.int .i64 y.t, .int .i64 y.i, .string y.lo, .string y.hi, .bool y.op] 55)).cell? ⟨bk, o + j * 5, none⟩ = some (.int .i64 y.t) ∧ (wd.alloc (.cells #[.int .i64 y.t, .int .i64 y.i, .string y.lo, .string y.hi, .bool y.op] 55)).cell? ⟨bk, o + j * 5 + 1, none⟩ = some (.int .i64 y.i) ∧ (wd.alloc (.cells #[.int .i64 y.t, .int .i64 y.i, .string y.lo, .string y.hi, .bool y.op] 55)).cell? ⟨bk, o + j * 5 + 2, none⟩ = some (.string y.lo) ∧ (wd.alloc (.cells #[.int .i64 y.t, .int .i64 y.i, .string y.lo, .string y.hi, .bool y.op] 55)).cell? ⟨bk, o + j * 5 + 3, none⟩ = some (.string y.hi) ∧ (wd.alloc (.cells #[.int .i64 y.t, .int .i64 y.i, .string y.lo, .string y.hi, .bool y.op] 55)).cell? ⟨bk, o + j * 5 + 4, none⟩ = some (.bool y.op)) := by
              obtain ⟨k0, k1, k2, k3, k4, k5, k6⟩ := HS0.out
              obtain ⟨z1, z2, z3, z4⟩ := HZ.out
              exact ⟨((HAL.out).cell (p := ⟨w.heap.size + 1 + 1, 1, none⟩) (show w.heap.size + 1 + 1 < _ by omega)).trans k0, ((HAL.out).cell (p := ⟨w.heap.size, 1, none⟩) (show w.heap.size < _ by omega)).trans k1, ((HAL.out).cell (p := ⟨bk, o + j * 5, none⟩) (show bk < _ by omega)).trans k2, ((HAL.out).cell (p := ⟨bk, o + j * 5 + 1, none⟩) (show bk < _ by omega)).trans k3, ((HAL.out).cell (p := ⟨bk, o + j * 5 + 2, none⟩) (show bk < _ by omega)).trans k4, ((HAL.out).cell (p := ⟨bk, o + j * 5 + 3, none⟩) (show bk < _ by omega)).trans k5, ((HAL.out).cell (p := ⟨bk, o + j * 5 + 4, none⟩) (show bk < _ by omega)).trans k6⟩
            refine wpL_one 7 rfl (by kernel_rfl) (by rfl) ?_
            intro K hK
            go_simp
            refine hK.out _ _ (fun _ => HS1.out) ?_
            clear hK K
            try simp only [Act.put, List.setIfInBounds_toArray, List.set_cons_zero, List.set_cons_succ]
            refine wpL_one 8 rfl (by kernel_rfl) (by rfl) ?_
            intro K hK
            refine wp_appS wd (.tmp 51) (.tmp 57) rfl wS1.heap.size (.slice q l d) (dropG (fun x => x.t == tb) (a.S.take j)) (by rfl) HBd.out.2.1 y wd.heap.size (by rfl) rfl HLn.out HZ.out.2.2.2 ?_
            intro v3 we h3 h5
            have HO3 : Hid (OwnS we wS1.heap.size v3 ((dropG (fun x => x.t == tb) (a.S.take j)) ++ [y]) ∧ Below wS1.heap.size wd we) := ⟨h3, h5⟩
            clear h3 h5
            have HS2 : Hid (we.cell? ⟨w.heap.size + 1 + 1, 1, none⟩ = some (.slice q l d) ∧ we.cell? ⟨w.heap.size, 1, none⟩ = some (.slice (some ⟨bk, o, none⟩) a.S.length ca1) ∧ we.cell? ⟨bk, o + j * 5, none⟩ = some (.int .i64 y.t) ∧ we.cell? ⟨bk, o + j * 5 + 1, none⟩ = some (.int .i64 y.i) ∧ we.cell? ⟨bk, o + j * 5 + 2, none⟩ = some (.string y.lo) ∧ we.cell? ⟨bk, o + j * 5 + 3, none⟩ = some (.string y.hi) ∧ we.cell? ⟨bk, o + j * 5 + 4, none⟩ = some (.bool y.op)) := by
              obtain ⟨k0, k1, k2, k3, k4, k5, k6⟩ := HS0.out
              obtain ⟨z1, z2, z3, z4⟩ := HZ.out
              exact ⟨((HO3.out.2).cell (p := ⟨w.heap.size + 1 + 1, 1, none⟩) (show w.heap.size + 1 + 1 < _ by omega)).trans k0, ((HO3.out.2).cell (p := ⟨w.heap.size, 1, none⟩) (show w.heap.size < _ by omega)).trans k1, ((HO3.out.2).cell (p := ⟨bk, o + j * 5, none⟩) (show bk < _ by omega)).trans k2, ((HO3.out.2).cell (p := ⟨bk, o + j * 5 + 1, none⟩) (show bk < _ by omega)).trans k3, ((HO3.out.2).cell (p := ⟨bk, o + j * 5 + 2, none⟩) (show bk < _ by omega)).trans k4, ((HO3.out.2).cell (p := ⟨bk, o + j * 5 + 3, none⟩) (show bk < _ by omega)).trans k5, ((HO3.out.2).cell (p := ⟨bk, o + j * 5 + 4, none⟩) (show bk < _ by omega)).trans k6⟩
            refine hK.out _ _ (fun _ => HS2.out) ?_
            clear hK K
            try simp only [Act.put, List.setIfInBounds_toArray, List.set_cons_zero, List.set_cons_succ]
            refine wpL_take (v := ?_) 9 rfl (by kernel_rfl) (fun _ _ _ h => h) (by rfl) ?_ HS2.out ?_
            rotate_left
            focus
              intro w9 hw9
              obtain ⟨k0, k1, k2, k3, k4, k5, k6⟩ := hw9
              go_simp
              try with_reducible rfl
            try simp only [Act.put, List.setIfInBounds_toArray, List.set_cons_zero, List.set_cons_succ]
            obtain ⟨q3, l3, d3, hv3⟩ : ∃ q3 l3 d3, v3 = .slice q3 l3 d3 := by
              obtain ⟨p9, c9, e9, _⟩ := HO3.out.1.row
              exact ⟨_, _, _, e9⟩
            subst hv3
            have HB3 : Hid (Blk we (w.heap.size + 1 + 1) #[x0, .slice q l d, .slice none 0 0] 25) := HBd.out.1.keep HO3.out.2 HZ.out.2.2.1
            have e0 := HB3.out.cell (i := 1) rfl
            have f0 := HB3.out.frozen 1
            refine wpL_one 10 rfl (by kernel_rfl) (by rfl) ?_
            intro K hK
            go_simp
            refine hK.out _ _ (fun h => absurd rfl h) ?_
            clear hK K
            refine wpL_done (by kernel_rfl) ?_ _
            try simp only [NoPanic]
            have HFN : Hid (Frm wS1 (we.setCell ⟨w.heap.size + 1 + 1, 1, none⟩ (.slice q3 l3 d3)) (fun k => k = w.heap.size + 1 + 1)) := (HBd.out.2.2.2.trans (Frm.of_belowB HO3.out.2 HZ.out.2.2.2) (G := fun k => wS1.heap.size ≤ k) (fun k hk => .inr hk)).trans (frm_set _ _ _ _ (F := fun k => k = w.heap.size + 1 + 1) (.inl rfl)) (fun k hk => .inl hk)
            have HBN : Hid (Blk (we.setCell ⟨w.heap.size + 1 + 1, 1, none⟩ (.slice q3 l3 d3)) (w.heap.size + 1 + 1) #[x0, .slice q3 l3 d3, .slice none 0 0] 25) := HB3.out.set 1 _
            have HON : Hid (OwnS (we.setCell ⟨w.heap.size + 1 + 1, 1, none⟩ (.slice q3 l3 d3)) wS1.heap.size (.slice q3 l3 d3) ((dropG (fun x => x.t == tb) (a.S.take j)) ++ [y])) := HO3.out.1.frm (frm_set we _ _ _ (F := fun k => k = w.heap.size + 1 + 1) (.inl rfl)) (fun b9 hb9 hk => by have := HZ.out.2.2.1; omega)
            have HXN : Hid (BW w (we.setCell ⟨w.heap.size + 1 + 1, 1, none⟩ (.slice q3 l3 d3)) (.slice pa0 a.P.length ca0) (.slice pa1 a.S.length ca1) (.slice pa2 a.W.length ca2)) := HBX0.out.frm HFN.out
            clear e0 f0 HB3 HO3 HS0 HS1 HS2 HAL HBd HZ
            generalize we.setCell ⟨w.heap.size + 1 + 1, 1, none⟩ (.slice q3 l3 d3) = wf at *
            go_wp2_with fail
            go_roundw
            case rel => exact ⟨j + 1, q3, l3, d3, by omega, by go_num, HBN.out, by
              refine (show OwnS _ _ _ _ from ?_)
              rw [HTK.out]
              exact HON.out, HFN.out⟩
            case measure => simp [intOf]; omega
          · have hne : (y.t != tb) = false := by rw [bne, hyt]; rfl
            have HTK : Hid ((dropG (fun x => x.t == tb) (a.S.take (j + 1))) = (dropG (fun x => x.t == tb) (a.S.take j))) := by
              refine (show _ = _ from ?_)
              rw [hsn, hyt]
              rfl
            clear hp hj0 hbB hy hlt hyt hsn
            go_wp2_with fail
            go_roundw
            case rel => exact ⟨j + 1, q, l, d, by omega, by go_num, HB.out, by
              refine (show OwnS _ _ _ _ from ?_)
              rw [HTK.out]
              exact HOw.out, HFr.out⟩
            case measure => simp [intOf]; omega
    · have hj1 : j < a.P.length := by omega
      obtain ⟨bk, o, hp, hbB, c0, c1, c2⟩ := (HRa0.out.keep HBX.out.lw) j hj1
      have hsn := dropG_snoc (fun x => x.t == tb) a.P j hj1
      obtain ⟨y, hy⟩ : ∃ y, y = a.P[j] := ⟨_, rfl⟩
      rw [← hy] at c0 c1 c2 hsn
      have hlt : (dropG (fun x => x.t == tb) (a.P.take j)).length + 1 ≤ 4398046511104 := by
        have h9 := HLs0.out
        have h8 : (dropG (fun x => x.t == tb) (a.P.take j)).length ≤ (a.P.take j).length := List.length_filter_le _ _
        rw [List.length_take] at h8
        omega
      have HLn : Hid ((dropG (fun x => x.t == tb) (a.P.take j)).length + 1 ≤ 4398046511104) := hlt
      rw [hp] at g0
      have HBb : Hid (bk < w.heap.size) := hbB
      cases hyt : (y.t == tb)
      · have hne : (y.t != tb) = true := by rw [bne, hyt]; rfl
        have HTK : Hid ((dropG (fun x => x.t == tb) (a.P.take (j + 1))) = (dropG (fun x => x.t == tb) (a.P.take j)) ++ [y]) := by
          refine (show _ = _ from ?_)
          rw [hsn, hyt]
          rfl
        have HS : Hid (wr.cell? ⟨w.heap.size + 1 + 1, 0, none⟩ = some (.slice q l d) ∧ wr.cell? ⟨w.heap.size, 0, none⟩ = some (.slice (some ⟨bk, o, none⟩) a.P.length ca0) ∧ wr.cell? ⟨bk, o + j * 3, none⟩ = some (.int .i64 y.t) ∧ wr.cell? ⟨bk, o + j * 3 + 1, none⟩ = some (.int .i64 y.i) ∧ wr.cell? ⟨bk, o + j * 3 + 2, none⟩ = some (.string y.k)) := ⟨HB.out.cell (i := 0) rfl, g0, c0, c1, c2⟩
        clear hp hj0 hbB hy hlt hyt hsn
        go_wp2_with fail
        clear c0 c1 c2
        refine wp_region_L (fun w' => w'.cell? ⟨w.heap.size + 1 + 1, 0, none⟩ = some (.slice q l d) ∧ w'.cell? ⟨w.heap.size, 0, none⟩ = some (.slice (some ⟨bk, o, none⟩) a.P.length ca0) ∧ w'.cell? ⟨bk, o + j * 3, none⟩ = some (.int .i64 y.t) ∧ w'.cell? ⟨bk, o + j * 3 + 1, none⟩ = some (.int .i64 y.i) ∧ w'.cell? ⟨bk, o + j * 3 + 2, none⟩ = some (.string y.k)) 10 (by kernel_rfl) ?_
        have hdr : Below wr.heap.size wr wr.drew := (Below.refl _ _).drew
        have HS0 : Hid (wr.drew.cell? ⟨w.heap.size + 1 + 1, 0, none⟩ = some (.slice q l d) ∧ wr.drew.cell? ⟨w.heap.size, 0, none⟩ = some (.slice (some ⟨bk, o, none⟩) a.P.length ca0) ∧ wr.drew.cell? ⟨bk, o + j * 3, none⟩ = some (.int .i64 y.t) ∧ wr.drew.cell? ⟨bk, o + j * 3 + 1, none⟩ = some (.int .i64 y.i) ∧ wr.drew.cell? ⟨bk, o + j * 3 + 2, none⟩ = some (.string y.k)) := HS.out
        have HBd : Hid (Blk wr.drew (w.heap.size + 1 + 1) #[.slice q l d, .slice none 0 0, .slice none 0 0] 25 ∧ OwnP wr.drew wS0.heap.size (.slice q l d) (dropG (fun x => x.t == tb) (a.P.take j)) ∧ BW w wr.drew (.slice pa0 a.P.length ca0) (.slice pa1 a.S.length ca1) (.slice pa2 a.W.length ca2) ∧ Frm wS0 wr.drew (fun k => k = w.heap.size + 1 + 1)) := ⟨HB.out.on hdr, HOw.out.kept hdr, HBX.out.frm (Frm.of_below hdr), HFr.out.drew⟩
        have HZ : Hid (bk < w.heap.size ∧ w.heap.size + 1 + 1 < wr.drew.heap.size ∧ w.heap.size + 1 + 1 < wS0.heap.size ∧ wS0.heap.size ≤ wr.drew.heap.size) := ⟨HBb.out, (HB.out.on hdr).lt, HSz.out, HFr.out.size⟩
        clear hdr HS HB HOw HBX HFr HBb
        generalize wr.drew = wd at *
        refine wpL_take (v := ?_) 0 rfl (by kernel_rfl) (fun _ _ _ h => h) (by rfl) ?_ HS0.out ?_
        rotate_left
        focus
          intro w9 hw9
          obtain ⟨k0, k1, k2, k3, k4⟩ := hw9
          go_simp
          try with_reducible rfl
        try simp only [Act.put, List.setIfInBounds_toArray, List.set_cons_zero, List.set_cons_succ]
        refine wpL_take (v := ?_) 1 rfl (by kernel_rfl) (fun _ _ _ h => h) (by rfl) ?_ HS0.out ?_
        rotate_left
        focus
          intro w9 hw9
          obtain ⟨k0, k1, k2, k3, k4⟩ := hw9
          go_simp
          try with_reducible rfl
        try simp only [Act.put, List.setIfInBounds_toArray, List.set_cons_zero, List.set_cons_succ]
        refine wpL_take (v := ?_) 2 rfl (by kernel_rfl) (fun _ _ _ h => h) (by rfl) ?_ HS0.out ?_
        rotate_left
        focus
          intro w9 hw9
          obtain ⟨k0, k1, k2, k3, k4⟩ := hw9
          go_simp
          try with_reducible rfl
        try simp only [Act.put, List.setIfInBounds_toArray, List.set_cons_zero, List.set_cons_succ]
        refine wpL_take (v := ?_) 3 rfl (by kernel_rfl) (fun _ _ _ h => h) (by rfl) ?_ HS0.out ?_
        rotate_left
        focus
          intro w9 hw9
          obtain ⟨k0, k1, k2, k3, k4⟩ := hw9
          go_simp
          try with_reducible rfl
        try simp only [Act.put, List.setIfInBounds_toArray, List.set_cons_zero, List.set_cons_succ]
        refine wpL_take (v := ?_) 4 rfl (by kernel_rfl) (fun _ _ _ h => h) (by rfl) ?_ HS0.out ?_
        rotate_left
        focus
          intro w9 hw9
          obtain ⟨k0, k1, k2, k3, k4⟩ := hw9
          go_simp
          try with_reducible rfl
        try simp only [Act.put, List.setIfInBounds_toArray, List.set_cons_zero, List.set_cons_succ]
        refine wpL_take (v := ?_) 5 rfl (by kernel_rfl) (fun _ _ _ h => h) (by rfl) ?_ HS0.out ?_
        rotate_left
        focus
          intro w9 hw9
          obtain ⟨k0, k1, k2, k3, k4⟩ := hw9
          go_simp
          try with_reducible rfl
        try simp only [Act.put, List.setIfInBounds_toArray, List.set_cons_zero, List.set_cons_succ]
        refine wpL_take (v := ?_) 6 rfl (by kernel_rfl) (fun _ _ _ h => h) (by rfl) ?_ HS0.out ?_
        rotate_left
        focus
          intro w9 hw9
          obtain ⟨k0, k1, k2, k3, k4⟩ := hw9
          go_simp
          try with_reducible rfl
        try simp only [Act.put, List.setIfInBounds_toArray, List.set_cons_zero, List.set_cons_succ]
        have HAL : Hid (Below wd.heap.size wd (wd.alloc (.cells #[.int .i64 y.t, .int .i64 y.i, .string y.k] 27))) := (Below.refl _ _).alloc (Nat.le_refl _) _
        have HS1 : Hid ((wd.alloc (.cells #[.int .i64 y.t, .int .i64 y.i, .string y.k] 27)).cell? ⟨w.heap.size + 1 + 1, 0, none⟩ = some (.slice q l d) ∧ (wd.alloc (.cells #[.int .i64 y.t, .int .i64 y.i, .string y.k] 27)).cell? ⟨w.heap.size, 0, none⟩ = some (.slice (some ⟨bk, o, none⟩) a.P.length ca0) ∧ (wd.alloc (.cells #[.int .i64 y.t, .int .i64 y.i, .string y.k] 27)).cell? ⟨bk, o + j * 3, none⟩ = some (.int .i64 y.t) ∧ (wd.alloc (.cells #[.int .i64 y.t, .int .i64 y.i, .string y.k] 27)).cell? ⟨bk, o + j * 3 + 1, none⟩ = some (.int .i64 y.i) ∧ (wd.alloc (.cells #[.int .i64 y.t, .int .i64 y.i, .string y.k] 27)).cell? ⟨bk, o + j * 3 + 2, none⟩ = some (.string y.k)) := by
          obtain ⟨k0, k1, k2, k3, k4⟩ := HS0.out
          obtain ⟨z1, z2, z3, z4⟩ := HZ.out
          exact ⟨((HAL.out).cell (p := ⟨w.heap.size + 1 + 1, 0, none⟩) (show w.heap.size + 1 + 1 < _ by omega)).trans k0, ((HAL.out).cell (p := ⟨w.heap.size, 0, none⟩) (show w.heap.size < _ by omega)).trans k1, ((HAL.out).cell (p := ⟨bk, o + j * 3, none⟩) (show bk < _ by omega)).trans k2, ((HAL.out).cell (p := ⟨bk, o + j * 3 + 1, none⟩) (show bk < _ by omega)).trans k3, ((HAL.out).cell (p := ⟨bk, o + j * 3 + 2, none⟩) (show bk < _ by omega)).trans k4⟩
        refine wpL_one 7 rfl (by kernel_rfl) (by rfl) ?_
        intro K hK
        go_simp
        refine hK.out _ _ (fun _ => HS1.out) ?_
        clear hK K
        try simp only [Act.put, List.setIfInBounds_toArray, List.set_cons_zero, List.set_cons_succ]
        refine wpL_one 8 rfl (by kernel_rfl) (by rfl) ?_
        intro K hK
        refine wp_appP wd (.tmp 26) (.tmp 32) rfl wS0.heap.size (.slice q l d) (dropG (fun x => x.t == tb) (a.P.take j)) (by rfl) HBd.out.2.1 y wd.heap.size (by rfl) rfl HLn.out HZ.out.2.2.2 ?_
        intro v3 we h3 h5
        have HO3 : Hid (OwnP we wS0.heap.size v3 ((dropG (fun x => x.t == tb) (a.P.take j)) ++ [y]) ∧ Below wS0.heap.size wd we) := ⟨h3, h5⟩
        clear h3 h5
        have HS2 : Hid (we.cell? ⟨w.heap.size + 1 + 1, 0, none⟩ = some (.slice q l d) ∧ we.cell? ⟨w.heap.size, 0, none⟩ = some (.slice (some ⟨bk, o, none⟩) a.P.length ca0) ∧ we.cell? ⟨bk, o + j * 3, none⟩ = some (.int .i64 y.t) ∧ we.cell? ⟨bk, o + j * 3 + 1, none⟩ = some (.int .i64 y.i) ∧ we.cell? ⟨bk, o + j * 3 + 2, none⟩ = some (.string y.k)) := by
          obtain ⟨k0, k1, k2, k3, k4⟩ := HS0.out
          obtain ⟨z1, z2, z3, z4⟩ := HZ.out
          exact ⟨((HO3.out.2).cell (p := ⟨w.heap.size + 1 + 1, 0, none⟩) (show w.heap.size + 1 + 1 < _ by omega)).trans k0, ((HO3.out.2).cell (p := ⟨w.heap.size, 0, none⟩) (show w.heap.size < _ by omega)).trans k1, ((HO3.out.2).cell (p := ⟨bk, o + j * 3, none⟩) (show bk < _ by omega)).trans k2, ((HO3.out.2).cell (p := ⟨bk, o + j * 3 + 1, none⟩) (show bk < _ by omega)).trans k3, ((HO3.out.2).cell (p := ⟨bk, o + j * 3 + 2, none⟩) (show bk < _ by omega)).trans k4⟩
        refine hK.out _ _ (fun _ => HS2.out) ?_
        clear hK K
        try simp only [Act.put, List.setIfInBounds_toArray, List.set_cons_zero, List.set_cons_succ]
        refine wpL_take (v := ?_) 9 rfl (by kernel_rfl) (fun _ _ _ h => h) (by rfl) ?_ HS2.out ?_
        rotate_left
        focus
          intro w9 hw9
          obtain ⟨k0, k1, k2, k3, k4⟩ := hw9
          go_simp
          try with_reducible rfl
        try simp only [Act.put, List.setIfInBounds_toArray, List.set_cons_zero, List.set_cons_succ]
        obtain ⟨q3, l3, d3, hv3⟩ : ∃ q3 l3 d3, v3 = .slice q3 l3 d3 := by
          obtain ⟨p9, c9, e9, _⟩ := HO3.out.1.row
          exact ⟨_, _, _, e9⟩
        subst hv3
        have HB3 : Hid (Blk we (w.heap.size + 1 + 1) #[.slice q l d, .slice none 0 0, .slice none 0 0] 25) := HBd.out.1.keep HO3.out.2 HZ.out.2.2.1
        have e0 := HB3.out.cell (i := 0) rfl
        have f0 := HB3.out.frozen 0
        refine wpL_one 10 rfl (by kernel_rfl) (by rfl) ?_
        intro K hK
        go_simp
        refine hK.out _ _ (fun h => absurd rfl h) ?_
        clear hK K
        refine wpL_done (by kernel_rfl) ?_ _
        try simp only [NoPanic]
        have HFN : Hid (Frm wS0 (we.setCell ⟨w.heap.size + 1 + 1, 0, none⟩ (.slice q3 l3 d3)) (fun k => k = w.heap.size + 1 + 1)) := (HBd.out.2.2.2.trans (Frm.of_belowB HO3.out.2 HZ.out.2.2.2) (G := fun k => wS0.heap.size ≤ k) (fun k hk => .inr hk)).trans (frm_set _ _ _ _ (F := fun k => k = w.heap.size + 1 + 1) (.inl rfl)) (fun k hk => .inl hk)
        have HBN : Hid (Blk (we.setCell ⟨w.heap.size + 1 + 1, 0, none⟩ (.slice q3 l3 d3)) (w.heap.size + 1 + 1) #[.slice q3 l3 d3, .slice none 0 0, .slice none 0 0] 25) := HB3.out.set 0 _
        have HON : Hid (OwnP (we.setCell ⟨w.heap.size + 1 + 1, 0, none⟩ (.slice q3 l3 d3)) wS0.heap.size (.slice q3 l3 d3) ((dropG (fun x => x.t == tb) (a.P.take j)) ++ [y])) := HO3.out.1.frm (frm_set we _ _ _ (F := fun k => k = w.heap.size + 1 + 1) (.inl rfl)) (fun b9 hb9 hk => by have := HZ.out.2.2.1; omega)
        have HXN : Hid (BW w (we.setCell ⟨w.heap.size + 1 + 1, 0, none⟩ (.slice q3 l3 d3)) (.slice pa0 a.P.length ca0) (.slice pa1 a.S.length ca1) (.slice pa2 a.W.length ca2)) := HBX0.out.frm HFN.out
        clear e0 f0 HB3 HO3 HS0 HS1 HS2 HAL HBd HZ
        generalize we.setCell ⟨w.heap.size + 1 + 1, 0, none⟩ (.slice q3 l3 d3) = wf at *
        go_wp2_with fail
        go_roundw
        case rel => exact ⟨j + 1, q3, l3, d3, by omega, by go_num, HBN.out, by
          refine (show OwnP _ _ _ _ from ?_)
          rw [HTK.out]
          exact HON.out, HFN.out⟩
        case measure => simp [intOf]; omega
      · have hne : (y.t != tb) = false := by rw [bne, hyt]; rfl
        have HTK : Hid ((dropG (fun x => x.t == tb) (a.P.take (j + 1))) = (dropG (fun x => x.t == tb) (a.P.take j))) := by
          refine (show _ = _ from ?_)
          rw [hsn, hyt]
          rfl
        clear hp hj0 hbB hy hlt hyt hsn
        go_wp2_with fail
        go_roundw
        case rel => exact ⟨j + 1, q, l, d, by omega, by go_num, HB.out, by
          refine (show OwnP _ _ _ _ from ?_)
          rw [HTK.out]
          exact HOw.out, HFr.out⟩
        case measure => simp [intOf]; omega
end Go.Proofs.Ytjeidpgkgjljcaa
