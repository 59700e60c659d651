/- Layer 13: Give. -/
import Derived.Test.YtcdamalpecedcaaGreatWGp19
namespace Go.Proofs.YtcdamalpecedcaaGreat
open Go.RowKit
set_option maxRecDepth 100000

set_option maxHeartbeats 4000000 in
theorem give_no (gb nx n : Nat) (Y : List Tkr) (w : World) (hG : Gp w gb nx Y) (hn : hasT (zs Y) n = false) :
    Calls Tryz.prog 14 #[ptr1 gb, .int .u64 (n : Nat)] w fun e w' => e = .returned (.int .i64 130) ∧ w' = w := by
  obtain ⟨xb, p, c, hg, hL⟩ := hG
  obtain ⟨hz, -, -, -⟩ := hL.z
  have C1 : Hid (Calls _ _ _ _ _) := loadLn gb 0 (some ⟨xb, 0, none⟩) w (Blk.cell (i := 0) hg rfl) (PtT.blk hL.b rfl)
  have C2 : Hid (Calls _ _ _ _ _) := find_none xb nx c n p (zs Y) w hz hn
  clear hg hL hz hn
  go_enter Tryz.func14, Tryz.ntmps14
  go_wp2_with fail
  go_loopw [5] (fun _ wq => wq = w) (fun _ _ => 0)
  case atStart => rfl
  case round =>
    subst hrel
    go_wp2_with fail
    refine C1.out.mono ?_
    rintro e w2 ⟨rfl, hw2⟩
    rw [hw2]
    clear hw2 C1
    go_wp2_with fail
    refine C2.out.mono ?_
    rintro e w2 ⟨rfl, hw2⟩
    rw [hw2]
    clear hw2 C2
    go_wp2_with fail
    go_ret
    exact ⟨rfl, rfl⟩
/-- what a give may write -/
def gvF (gb : Nat) (Y : List Tkr) : Nat → Prop := fun k => k = gb ∨ tbF Y k
theorem erase_mem {Y : List Tkr} {i : Nat} {z : Tkr} (h : z ∈ Y.eraseIdx i) : z ∈ Y := (List.eraseIdx_sublist Y i).mem h
theorem erase_ne {Y : List Tkr} (hn : (Y.map Tkr.b).Nodup) {i : Nat} (hi : i < Y.length) {z : Tkr} (h : z ∈ Y.eraseIdx i) : z.b ≠ Y[i].b := by
  rw [List.eraseIdx_eq_take_drop_succ] at h
  have e0 : Y = Y.take i ++ Y[i] :: Y.drop (i + 1) := by simp
  rw [e0, List.map_append, List.map_cons] at hn
  obtain ⟨_, h2, h3⟩ := List.nodup_append.1 hn
  rw [List.nodup_cons] at h2
  intro e
  rcases List.mem_append.1 h with h1 | h1
  · exact h3 z.b (List.mem_map.2 ⟨z, h1, rfl⟩) Y[i].b List.mem_cons_self e
  · exact h2.1 (e ▸ List.mem_map.2 ⟨z, h1, rfl⟩)
theorem erase_nc {Y : List Tkr} (hn : (Y.map Tkr.ch).Nodup) {i : Nat} (hi : i < Y.length) {z : Tkr} (h : z ∈ Y.eraseIdx i) : z.ch ≠ Y[i].ch := by
  rw [List.eraseIdx_eq_take_drop_succ] at h
  have e0 : Y = Y.take i ++ Y[i] :: Y.drop (i + 1) := by simp
  rw [e0, List.map_append, List.map_cons] at hn
  obtain ⟨_, h2, h3⟩ := List.nodup_append.1 hn
  rw [List.nodup_cons] at h2
  intro e
  rcases List.mem_append.1 h with h1 | h1
  · exact h3 z.ch (List.mem_map.2 ⟨z, h1, rfl⟩) Y[i].ch List.mem_cons_self e
  · exact h2.1 (e ▸ List.mem_map.2 ⟨z, h1, rfl⟩)
theorem erase_map {α β : Type} (f : α → β) (L : List α) (i : Nat) : (L.eraseIdx i).map f = (L.map f).eraseIdx i := by
  rw [List.eraseIdx_eq_take_drop_succ, List.eraseIdx_eq_take_drop_succ, List.map_append, List.map_take, List.map_drop]
/-- the line without one of its takers -/
theorem LnP.less {w w2 : World} {xb nx c yb n4 c4 : Nat} {p p4 : Option Addr} {Y : List Tkr} (h : LnP w xb nx p c Y) {i : Nat} (hi : i < Y.length) (hb : Below w.heap.size w w2) (hy : Blk w2 yb #[.int .u64 (nx : Nat), .slice p4 n4 c4] 68) (ho : OwnT w2 w.heap.size (.slice p4 n4 c4) ((Y.map Tkr.b).take i ++ (Y.map Tkr.b).drop (i + 1))) : LnP w2 yb nx p4 c4 (Y.eraseIdx i) := by
  have e1 : (Y.map Tkr.b).take i ++ (Y.map Tkr.b).drop (i + 1) = (Y.eraseIdx i).map Tkr.b := by rw [erase_map, List.eraseIdx_eq_take_drop_succ]
  rw [e1] at ho
  have e2 : n4 = (Y.eraseIdx i).length := by
    obtain ⟨p', c', e, _⟩ := owns_len ho
    injection e with _ e2 _
    rw [e2, List.length_map]
  rw [e2] at hy ho
  have hsub : (Y.eraseIdx i).Sublist Y := List.eraseIdx_sublist _ _
  refine ⟨hy, owns_base ho (Nat.zero_le _), fun z hz => (h.t z (hsub.mem hz)).on hb, h.nb.sublist (hsub.map _), h.nc.sublist (hsub.map _), ?_, Nat.le_trans hsub.length_le h.l, fun z hz => h.a z (hsub.mem hz)⟩
  rw [erase_map]
  exact h.i.give (by rw [List.length_map]; exact hi)

set_option maxHeartbeats 16000000 in
theorem give_yes (gb nx i : Nat) (Y : List Tkr) (w : World) (hG : Gp w gb nx Y) (hi : i < Y.length) :
    Calls Tryz.prog 14 #[ptr1 gb, .int .u64 (Y[i].x.t : Nat)] w fun e w' => e = .returned (.int .i64 0) ∧ Gp w' gb nx (Y.eraseIdx i) ∧ Frm w w' (gvF gb Y) := by
  obtain ⟨xb, p, c, hg, hL⟩ := hG
  obtain ⟨hz, kc, kn, kp⟩ := hL.z
  have C1 : Hid (Calls _ _ _ _ _) := loadLn gb 0 (some ⟨xb, 0, none⟩) w (Blk.cell (i := 0) hg rfl) (PtT.blk hL.b rfl)
  have hiz : i < (zs Y).length := by rw [List.length_map]; exact hi
  have hzi : (zs Y)[i] = (Y[i].b, Y[i].x.t) := List.getElem_map _
  have hpl : plc (zs Y) Y[i].x.t = i := by
    have h9 := plc_at hz.i hiz
    rw [hzi] at h9
    exact h9
  have hha : hasT (zs Y) Y[i].x.t = true := by
    have h9 := hasT_at hiz
    rw [hzi] at h9
    exact h9
  have C2 : Hid (Calls _ _ _ _ _) := find_some xb nx c Y[i].x.t p (zs Y) w hz hha (by rw [hpl]; exact hiz)
  rw [show (zs Y)[plc (zs Y) Y[i].x.t]'(by rw [hpl]; exact hiz) = (Y[i].b, Y[i].x.t) by simp only [hpl]; exact hzi] at C2
  have hpA : ∃ g, p = some ⟨g, 0, none⟩ := by
    obtain ⟨p', c', e, hat⟩ := OwnT.at hL.o
    injection e with e1 _ _
    obtain ⟨g, e2, _⟩ := hat i (by rw [List.length_map]; exact hi)
    exact ⟨g, by rw [e1]; exact e2⟩
  obtain ⟨g, rfl⟩ := hpA
  have hpl2 := place_any xb nx c Y[i].x.t (some ⟨g, 0, none⟩) (zs Y) w hz
  rw [hpl, hha] at hpl2
  have C3 : Hid (Calls _ _ _ _ _) := without_any xb nx Y[i].b Y[i].x.t i Y.length c g (Y.map Tkr.b) w hL.b hL.o (List.length_map _) hL.l kc hi hpl2 (hL.t Y[i] (List.getElem_mem hi)).tkt.1
  have HL : Hid (LnP w xb nx (some ⟨g, 0, none⟩) c Y) := hL
  have HG : Hid (Blk w gb #[ptr1 xb] 64) := hg
  have HYi : Hid (∃ hi : i < Y.length, True) := ⟨hi, trivial⟩
  obtain ⟨yy, hyy⟩ : ∃ yy, Y[i] = yy := ⟨_, rfl⟩
  have HYy : Hid (yy ∈ Y ∧ ∀ z ∈ Y.eraseIdx i, z.b ≠ yy.b ∧ z.ch ≠ yy.ch) := by
    rw [← hyy]
    exact ⟨List.getElem_mem hi, fun z hz => ⟨erase_ne hL.nb hi hz, erase_nc hL.nc hi hz⟩⟩
  rw [hyy] at C2 C3 ⊢
  clear hg hL hz hiz hzi hpl hha hpl2 kc kn kp hyy
  generalize hob : yy.b = ob at *
  have HOb : Hid (yy.b = ob) := hob
  generalize yy.x.t = tq at *
  clear hob
  go_enter Tryz.func14, Tryz.ntmps14
  go_wp2_with fail
  go_loopw [5] (fun _ wq => wq = w) (fun _ _ => 0)
  case atStart => rfl
  case round =>
    subst hrel
    go_wp2_with fail
    refine C1.out.mono ?_
    rintro e w2 ⟨rfl, hw2⟩
    rw [hw2]
    clear hw2 C1
    go_wp2_with fail
    refine C2.out.mono ?_
    rintro e w2 ⟨rfl, hw2⟩
    rw [hw2]
    clear hw2 C2
    go_wp2_with fail
    refine C3.out.mono ?_
    rintro e w2 ⟨yb, v2, rfl, hy1, hy2, hy3, hb2⟩
    obtain ⟨p4, n4, c4, hv4⟩ : ∃ p n c, v2 = .slice p n c := by
      obtain ⟨p, c, e, -⟩ := owns_len hy2
      exact ⟨p, _, c, e⟩
    subst hv4
    have hg2 := HG.out.on hb2
    have hx2 := HL.out.on hb2
    have hnw := HL.out.less hi hb2 hy1 hy2
    have C4 : Hid (Calls _ _ _ _ _) := casLn gb 0 (some ⟨xb, 0, none⟩) (some ⟨yb, 0, none⟩) w2 (Blk.cell (i := 0) hg2 rfl) (hg2.frozen 0) (PtT.blk hx2.b rfl) (PtT.blk hy1 rfl)
    have HF3 : Hid (Frm w2 (w2.setCell ⟨gb, 0, none⟩ (ptr1 yb)) (fun k => k = gb)) := frm_set w2 gb 0 _ (.inl rfl)
    have hoG := only_gb hg2
    have hneG : ∀ y ∈ Y, ¬ y.b = gb ∧ ¬ y.ch = gb := fun y hy => (hx2.t y hy).ne hg2 (by decide)
    have HX3 : Hid (LnP (w2.setCell ⟨gb, 0, none⟩ (ptr1 yb)) xb nx (some ⟨g, 0, none⟩) c Y) := hx2.frm HF3.out hoG hneG
    have HN3 : Hid (LnP (w2.setCell ⟨gb, 0, none⟩ (ptr1 yb)) yb nx p4 c4 (Y.eraseIdx i)) := hnw.frm HF3.out hoG (fun y hy => hneG y (erase_mem hy))
    have HG3 : Hid (Blk (w2.setCell ⟨gb, 0, none⟩ (ptr1 yb)) gb #[ptr1 yb] 64) := hg2.set 0 _
    have HFr : Hid (Frm wr (w2.setCell ⟨gb, 0, none⟩ (ptr1 yb)) (gvF gb Y)) := (Frm.of_below (F := gvF gb Y) hb2).trans HF3.out (fun k hk => .inl (.inl hk))
    clear C3 hy1 hy2 hy3 hb2 hg2 hx2 hnw hoG hneG HF3
    go_wp2_with fail
    refine C4.out.mono ?_
    rintro e w3 ⟨rfl, hw3⟩
    rw [← hw3] at HX3 HN3 HG3 HFr
    clear hw3 C4
    have hTy := HX3.out.t yy HYy.out.1
    have C5 : Hid (Calls _ _ _ _ _) := tellLast_any xb nx c yy.b yy.ch (some ⟨g, 0, none⟩) (zs Y) yy.x w3 HX3.out.z.1 hTy (HX3.out.a yy HYy.out.1)
    rw [HOb.out] at C5
    clear hTy
    go_wp2_with fail
    refine C5.out.mono ?_
    rintro e w4 ⟨rfl, h1, h2⟩
    have hTy3 := HX3.out.t yy HYy.out.1
    have HT4 : Hid (TkM w4 yy.b yy.ch yy.x) := by rw [HOb.out]; exact h1
    have hF4 : Frm w3 w4 (fun k => k = yy.b ∨ k = yy.ch) := by rw [HOb.out]; exact h2
    have hoT : OnlyTG w3 (fun k => k = yy.b ∨ k = yy.ch) := by
      obtain ⟨va, vo, vh, told, d, sm, cl, k1, _, _, _, _, k6, _⟩ := hTy3
      exact only_tc k1 k6
    have HN4 : Hid (LnP w4 yb nx p4 c4 (Y.eraseIdx i)) := by
      refine HN3.out.frm hF4 hoT (fun z hz => ⟨fun h9 => ?_, fun h9 => ?_⟩)
      · rcases h9 with h9 | h9
        · exact (HYy.out.2 z hz).1 (by rw [h9]; exact HOb.out)
        · exact tk_bch (HN3.out.t z hz) hTy3 h9
      · rcases h9 with h9 | h9
        · exact tk_bch hTy3 (HN3.out.t z hz) h9.symm
        · exact (HYy.out.2 z hz).2 h9
    have HG4 : Hid (Blk w4 gb #[ptr1 yb] 64) := by
      have hne := hTy3.ne HG3.out (by decide)
      exact HG3.out.frm hF4 (fun h9 => by
        rcases h9 with h9 | h9
        · exact hne.1 h9.symm
        · exact hne.2 h9.symm)
    have HFr4 : Hid (Frm wr w4 (gvF gb Y)) := HFr.out.trans hF4 (fun k hk => .inl (.inr (tbF_of HYy.out.1 hk)))
    have C6 : Hid (Calls _ _ _ _ _) := tellBehind_any yb nx c4 yy.b yy.ch p4 yy.x (Y.eraseIdx i) w4 HN4.out HT4.out (fun z hz => ⟨by rw [HOb.out]; exact (HYy.out.2 z hz).1, (HYy.out.2 z hz).2⟩)
    rw [HOb.out] at C6
    clear C5 h1 h2 hTy3 hF4 hoT
    go_wp2_with fail
    refine C6.out.mono ?_
    rintro e w5 ⟨rfl, h1, h2⟩
    have HZ : Hid (Gp w5 gb nx (Y.eraseIdx i) ∧ Frm wr w5 (gvF gb Y)) := by
      refine ⟨⟨yb, p4, c4, ?_, h1⟩, HFr4.out.trans h2 (fun k hk => .inl (.inr ?_))⟩
      · refine HG4.out.frm h2 (fun hk => ?_)
        obtain ⟨z, hz, h9⟩ := hk
        have hne := (HN4.out.t z hz).ne HG4.out (by decide)
        rcases h9 with h9 | h9
        · exact hne.1 h9.symm
        · exact hne.2 h9.symm
      · obtain ⟨z, hz, h9⟩ := hk
        exact ⟨z, erase_mem hz, h9⟩
    clear h1 h2 C6
    go_wp2_with fail
    go_ret
    exact ⟨rfl, HZ.out⟩
end Go.Proofs.YtcdamalpecedcaaGreat
