/- Layer 13: does, at Take. -/
import Derived.Test.YtcdamalpecedcaaGreatWGl1
namespace Go.Proofs.YtcdamalpecedcaaGreat
open Go.RowKit
set_option maxRecDepth 100000

theorem blk_box {w w' : World} {b g : Nat} {cs cs' : Array Value} {T : TypeId} (hb : Blk w b cs 28) (hf : Frm w w' (fun k => k = b)) (h : Blk w g cs' T) (hT : T ≠ 28) : Blk w' g cs' T := h.frm hf (fun e => by
  subst e
  unfold Blk at h hb
  rw [h] at hb
  injection hb with hb
  injection hb with _ hb _
  exact hT hb)
theorem owns_box {w w' : World} {b B e size n : Nat} {cs : Array Value} {v : Value} {xs : List Value} (hb : Blk w b cs 28) (hf : Frm w w' (fun k => k = b)) (h : w.ownsRow B e size v n xs) (hT : e ≠ 28) : w'.ownsRow B e size v n xs := by
  refine ⟨h.1, ?_⟩
  rcases h.2 with h1 | ⟨g, cap, cur, e1, hb', hg, r⟩
  · exact .inl h1
  · refine .inr ⟨g, cap, cur, e1, hb', (hf.block g (Array.getElem?_eq_some_iff.1 hg).1 (fun e2 => ?_)).trans hg, r⟩
    subst e2
    unfold Blk at hb
    rw [hg] at hb
    injection hb with hb
    injection hb with _ hb _
    exact hT hb
theorem ch_box {w w' : World} {b ch : Nat} {d : Bool} {cs : Array Value} (hb : Blk w b cs 28) (hf : Frm w w' (fun k => k = b)) (h : ChM w ch d) : ChM w' ch d := (hf.block ch h.lt (fun e => by
  subst e
  unfold Blk at hb
  unfold ChM at h
  rw [h] at hb
  injection hb with hb
  cases hb)).trans h
theorem Gp.box {w w' : World} {b gb nx : Nat} {cs : Array Value} {Y : List Tkr} (h : Gp w gb nx Y) (hb : Blk w b cs 28) (hf : Frm w w' (fun k => k = b)) : Gp w' gb nx Y := by
  obtain ⟨xb, p, c, h1, h2⟩ := h
  refine ⟨xb, p, c, blk_box hb hf h1 (by decide), ⟨blk_box hb hf h2.b (by decide), owns_box hb hf h2.o (by decide), fun y hy => ?_, h2.nb, h2.nc, h2.i, h2.l, h2.a⟩⟩
  obtain ⟨va, vo, vh, told, d, sm, cl, k1, k2, k3, k4, k5, k6, k7⟩ := h2.t y hy
  exact ⟨va, vo, vh, told, d, sm, cl, blk_box hb hf k1 (by decide), k2, owns_box hb hf k3 (by decide), owns_box hb hf k4 (by decide), owns_box hb hf k5 (by decide), ch_box hb hf k6, k7⟩
theorem PG.box {w w' : World} {b gb ls : Nat} {cs : Array Value} {v : Value} {Y : List Tkr} {D : List Dk} (h : PG w gb ls v Y D) (hb : Blk w b cs 28) (hf : Frm w w' (fun k => k = b)) : PG w' gb ls v Y D :=
  ⟨h.g.box hb hf, ⟨owns_box hb hf h.d.o (by decide), fun d hd => ⟨owns_box hb hf (h.d.h d hd).1 (by decide), (h.d.h d hd).2⟩⟩, h.e⟩
/-- what one act may make of the document's list -/
def StpD (D D' : List Dk) : Prop := D' = D ∨ (∃ d, D' = D ++ [d]) ∨ ∃ i, i < D.length ∧ D' = D.eraseIdx i
/-- what one act does to the world -/
structure DoR (w w' : World) (gb : Nat) (Y Y' : List Tkr) (D D' : List Dk) : Prop where
  f : Frm w w' (gvF gb Y)
  n : ∀ y ∈ Y', y ∈ Y ∨ (w.heap.size ≤ y.b ∧ w.heap.size ≤ y.ch)
  s : StpD D D'

set_option maxHeartbeats 16000000 in
theorem dtake_core (gb ls ls1 tn lc : Nat) (nn ec : Int) (M : List (Nat × List Hd)) (lq : Option Addr) (H : List Hd) (v : Value) (Y : List Tkr) (D : List Dk) (w : World) (h : PG w gb ls v Y D) (hR : RdH w w.heap.size lq H) (hl : H.length ≤ 2932031007317)
    (hT : ∀ w', DkL w' 0 v D → RdH w' w'.heap.size lq H → Calls Tryz.prog 17 #[.agg #[v, .int .u64 (ls : Nat)], .slice lq H.length lc] w' fun e w'' => ∃ v' D', e = .returned (.tuple #[.agg #[v', .int .u64 (ls1 : Nat)], .int .u64 (tn : Nat), .int .i64 ec]) ∧ DkL w'' 0 v' D' ∧ D'.map (fun d => (d.t, d.H)) = M ∧ StpD D D' ∧ Below w'.heap.size w' w'')
    (hP : ∀ w' q' c', Gp w' gb (ls + 1) Y → RdH w' w'.heap.size q' H → Calls Tryz.prog 16 #[ptr1 gb, .slice q' H.length c'] w' fun e w'' => ∃ Y', e = .returned (.tuple #[.int .u64 (tn : Nat), .int .i64 ec]) ∧ Gp w'' gb (ls1 + 1) Y' ∧ Y'.map (fun y => (y.x.t, y.x.H)) = M ∧ Frm w' w'' (fun k => k = gb) ∧ ∀ y ∈ Y', y ∈ Y ∨ (w'.heap.size ≤ y.b ∧ w'.heap.size ≤ y.ch)) :
    Calls Tryz.prog 8 #[ptr1 gb, .agg #[v, .int .u64 (ls : Nat)], .agg #[.int .i64 0, .slice lq H.length lc, .int .i64 nn]] w fun e w' => ∃ v' Y' D', e = .returned (.tuple #[.agg #[v', .int .u64 (ls1 : Nat)], .bool true]) ∧ PG w' gb ls1 v' Y' D' ∧ DoR w w' gb Y Y' D D' := by
  have HT : Hid _ := hT
  have HP : Hid _ := hP
  have HHl : Hid (H.length ≤ 2932031007317) := hl
  obtain ⟨n, hn⟩ : ∃ n, H.length = n := ⟨_, rfl⟩
  have HHn : Hid (H.length = n) := hn
  obtain ⟨aX, aB, aS⟩ := blk_new w #[v, .int .u64 (ls : Nat)] 28
  obtain ⟨bX, bB, bS⟩ := blk_new (w.alloc (.cells #[v, .int .u64 (ls : Nat)] 28)) #[.int .i64 0, .slice lq n lc, .int .i64 nn] 34
  obtain ⟨cX, cB, cS⟩ := blk_new ((w.alloc (.cells #[v, .int .u64 (ls : Nat)] 28)).alloc (.cells #[.int .i64 0, .slice lq n lc, .int .i64 nn] 34)) #[.slice none 0 0, .int .u64 0] 28
  have bL := aB.trans (bB.mono aB.size)
  have cL := bL.trans (cB.mono bL.size)
  have aX3 := (aX.on bB).on cB
  have bX3 := bX.on cB
  rw [bS, aS] at cX
  rw [aS] at bX3
  have HL2 : Hid (Below w.heap.size w (((w.alloc (.cells #[v, .int .u64 (ls : Nat)] 28)).alloc (.cells #[.int .i64 0, .slice lq n lc, .int .i64 nn] 34)).alloc (.cells #[.slice none 0 0, .int .u64 0] 28))) := cL
  have HA2 : Hid (Blk (((w.alloc (.cells #[v, .int .u64 (ls : Nat)] 28)).alloc (.cells #[.int .i64 0, .slice lq n lc, .int .i64 nn] 34)).alloc (.cells #[.slice none 0 0, .int .u64 0] 28)) (w.heap.size + 1) #[.int .i64 0, .slice lq n lc, .int .i64 nn] 34) := bX3
  have HR2 : Hid (Blk (((w.alloc (.cells #[v, .int .u64 (ls : Nat)] 28)).alloc (.cells #[.int .i64 0, .slice lq n lc, .int .i64 nn] 34)).alloc (.cells #[.slice none 0 0, .int .u64 0] 28)) (w.heap.size + 1 + 1) #[.slice none 0 0, .int .u64 0] 28) := cX
  have HG2 : Hid (Gp (((w.alloc (.cells #[v, .int .u64 (ls : Nat)] 28)).alloc (.cells #[.int .i64 0, .slice lq n lc, .int .i64 nn] 34)).alloc (.cells #[.slice none 0 0, .int .u64 0] 28)) gb (ls + 1) Y) := h.g.on cL
  have HD2 : Hid (DkL (((w.alloc (.cells #[v, .int .u64 (ls : Nat)] 28)).alloc (.cells #[.int .i64 0, .slice lq n lc, .int .i64 nn] 34)).alloc (.cells #[.slice none 0 0, .int .u64 0] 28)) 0 v D) := h.d.on cL
  have HH2 : Hid (RdH (((w.alloc (.cells #[v, .int .u64 (ls : Nat)] 28)).alloc (.cells #[.int .i64 0, .slice lq n lc, .int .i64 nn] 34)).alloc (.cells #[.slice none 0 0, .int .u64 0] 28)) w.heap.size lq H) := hR.keep cL
  have y0 := aX3.cell (i := 0) rfl
  have y1 := aX3.cell (i := 1) rfl
  have z0 := bX3.cell (i := 0) rfl
  have z1 := bX3.cell (i := 1) rfl
  rw [hn]
  rw [hn] at HT
  have HGl : Hid (gb < w.heap.size) := by obtain ⟨_, _, _, h9, _⟩ := h.g; exact h9.lt
  clear h hR hT hP hl hn aX aB aS bX bB bS cX cB cS bL cL aX3 bX3
  go_enter Tryz.func8, Tryz.ntmps8
  go_wp2_with fail
  generalize (((w.alloc (.cells #[v, .int .u64 (ls : Nat)] 28)).alloc (.cells #[.int .i64 0, .slice lq n lc, .int .i64 nn] 34)).alloc (.cells #[.slice none 0 0, .int .u64 0] 28)) = w2 at *
  refine (HT.out w2 HD2.out (HH2.out.wide HL2.out.size)).mono ?_
  rintro e w5 ⟨v5, D5, rfl, hd5, hm5, hs5, hb5⟩
  dsimp only
  obtain ⟨q5, c5, hv5, -⟩ := hd5.rd
  obtain ⟨m5, hm5'⟩ : ∃ m5, D5.length = m5 := ⟨_, rfl⟩
  rw [hm5'] at hv5
  subst hv5
  have hal := (blk_new w5 #[.slice q5 m5 c5, .int .u64 (ls1 : Nat)] 28).2.1
  have HO6 : Hid (Blk (w5.alloc (.cells #[.slice q5 m5 c5, .int .u64 (ls1 : Nat)] 28)) w5.heap.size #[.slice q5 m5 c5, .int .u64 (ls1 : Nat)] 28) := (blk_new w5 _ _).1
  have HD6 : Hid (DkL (w5.alloc (.cells #[.slice q5 m5 c5, .int .u64 (ls1 : Nat)] 28)) 0 (.slice q5 m5 c5) D5) := hd5.on hal
  have HE5 : Hid (D5.map (fun d => (d.t, d.H)) = M ∧ StpD D D5) := ⟨hm5, hs5⟩
  have hb6 := hb5.trans (hal.mono hb5.size)
  have HA6 : Hid (Blk (w5.alloc (.cells #[.slice q5 m5 c5, .int .u64 (ls1 : Nat)] 28)) (w.heap.size + 1) #[.int .i64 0, .slice lq n lc, .int .i64 nn] 34) := HA2.out.on hb6
  have HR6 : Hid (Blk (w5.alloc (.cells #[.slice q5 m5 c5, .int .u64 (ls1 : Nat)] 28)) (w.heap.size + 1 + 1) #[.slice none 0 0, .int .u64 0] 28) := HR2.out.on hb6
  have HG6 : Hid (Gp (w5.alloc (.cells #[.slice q5 m5 c5, .int .u64 (ls1 : Nat)] 28)) gb (ls + 1) Y) := HG2.out.on hb6
  have HL6 : Hid (Below w.heap.size w (w5.alloc (.cells #[.slice q5 m5 c5, .int .u64 (ls1 : Nat)] 28))) := HL2.out.trans (hb6.mono HL2.out.size)
  have HH6 : Hid (RdH (w5.alloc (.cells #[.slice q5 m5 c5, .int .u64 (ls1 : Nat)] 28)) w.heap.size lq H) := HH2.out.keep (hb6.mono HL2.out.size)
  have z2 := HA6.out.cell (i := 1) rfl
  have HZ5 : Hid (w.heap.size + 3 ≤ w5.heap.size) := Nat.le_trans (by have := HR2.out.lt; omega) hb5.size
  clear hd5 hm5 hs5 hb5 hm5' hal hb6 HT HD2 HA2 HR2 HG2 HL2 HH2 y0 y1 z0 z1
  go_wp2_with fail
  generalize (w5.alloc (.cells #[.slice q5 m5 c5, .int .u64 (ls1 : Nat)] 28)) = w6 at *
  have CH := lholds_any H lq lc w6 (HH6.out.wide HL6.out.size) HHl.out
  rw [HHn.out] at CH
  refine CH.mono ?_
  rintro e w7' ⟨vh, rfl, hoh, hb7⟩
  dsimp only
  obtain ⟨hq, hc, hvh, hrh⟩ := hoh.rd
  subst hvh
  have HA7 : Hid (Blk w7' (w.heap.size + 1) #[.int .i64 0, .slice lq n lc, .int .i64 nn] 34) := HA6.out.on hb7
  have HR7' : Hid (Blk w7' (w.heap.size + 1 + 1) #[.slice none 0 0, .int .u64 0] 28) := HR6.out.on hb7
  have HO7' : Hid (Blk w7' w5.heap.size #[.slice q5 m5 c5, .int .u64 (ls1 : Nat)] 28) := HO6.out.on hb7
  have HG7' : Hid (Gp w7' gb (ls + 1) Y) := HG6.out.on hb7
  have HD7' : Hid (DkL w7' 0 (.slice q5 m5 c5) D5) := HD6.out.on hb7
  have HL7' : Hid (Below w.heap.size w w7') := HL6.out.trans (hb7.mono HL6.out.size)
  have CT := HP.out w7' hq hc HG7'.out hrh
  rw [HHn.out] at CT ⊢
  clear CH hoh hb7 hrh HA6 HR6 HO6 HG6 HD6 HL6 HH6 z2 HP
  go_wp2_with fail
  refine CT.mono ?_
  rintro e w7 ⟨Y7, rfl, hg7, hm7, hf7, hn7⟩
  dsimp only
  have hon : OnlyTG w7' (fun k => k = gb) := by
    obtain ⟨_, _, _, h9, _⟩ := HG7'.out
    exact only_gb h9
  have HR7 : Hid (Blk w7 (w.heap.size + 1 + 1) #[.slice none 0 0, .int .u64 0] 28) := HR7'.out.frm hf7 (by have := HGl.out; omega)
  have HO7 : Hid (Blk w7 w5.heap.size #[.slice q5 m5 c5, .int .u64 (ls1 : Nat)] 28) := HO7'.out.frm hf7 (by have := HGl.out; have := HZ5.out; omega)
  have HD7 : Hid (DkL w7 0 (.slice q5 m5 c5) D5) := HD7'.out.frm hf7 hon
  have HG7 : Hid (Gp w7 gb (ls1 + 1) Y7 ∧ Y7.map (fun y => (y.x.t, y.x.H)) = M) := ⟨hg7, hm7⟩
  have HF7 : Hid (Frm w w7 (gvF gb Y)) := (Frm.of_below (F := gvF gb Y) HL7'.out).trans hf7 (fun k hk => .inl (.inl hk))
  have HN7 : Hid (∀ y ∈ Y7, y ∈ Y ∨ (w.heap.size ≤ y.b ∧ w.heap.size ≤ y.ch)) := fun y hy => (hn7 y hy).imp id (fun h9 => ⟨Nat.le_trans HL7'.out.size h9.1, Nat.le_trans HL7'.out.size h9.2⟩)
  clear CT hg7 hm7 hf7 hn7 hon HR7' HO7' HG7' HD7' HL7' HA7
  have o0 := HO7.out.cell (i := 0) rfl
  have o1 := HO7.out.cell (i := 1) rfl
  have r0 := HR7.out.cell (i := 0) rfl
  have r1 := HR7.out.cell (i := 1) rfl
  have f0 := HR7.out.frozen 0
  have f1 := HR7.out.frozen 1
  have HFZ : Hid (Frm w7 ((w7.setCell ⟨w.heap.size + 2, 0, none⟩ (.slice q5 m5 c5)).setCell ⟨w.heap.size + 2, 1, none⟩ (.int .u64 (ls1 : Nat))) (fun k => k = w.heap.size + 2)) := (frm_set w7 _ 0 _ (F := fun k => k = w.heap.size + 2) (.inl rfl)).trans (frm_set _ _ 1 _ (F := fun k => k = w.heap.size + 2) (.inl rfl)) (fun k hk => .inl hk)
  have HBZ : Hid (Blk ((w7.setCell ⟨w.heap.size + 2, 0, none⟩ (.slice q5 m5 c5)).setCell ⟨w.heap.size + 2, 1, none⟩ (.int .u64 (ls1 : Nat))) (w.heap.size + 2) #[.slice q5 m5 c5, .int .u64 (ls1 : Nat)] 28) := (HR7.out.set 0 _).set 1 _
  have HPZ : Hid (PG ((w7.setCell ⟨w.heap.size + 2, 0, none⟩ (.slice q5 m5 c5)).setCell ⟨w.heap.size + 2, 1, none⟩ (.int .u64 (ls1 : Nat))) gb ls1 (.slice q5 m5 c5) Y7 D5) := PG.box ⟨HG7.out.1, HD7.out, HE5.out.1.trans HG7.out.2.symm⟩ HR7.out HFZ.out
  have HRZ : Hid (DoR w ((w7.setCell ⟨w.heap.size + 2, 0, none⟩ (.slice q5 m5 c5)).setCell ⟨w.heap.size + 2, 1, none⟩ (.int .u64 (ls1 : Nat))) gb Y Y7 D D5) := ⟨HF7.out.trans HFZ.out (fun k hk => .inr (by omega)), HN7.out, HE5.out.2⟩
  have t0 := HBZ.out.cell (i := 0) rfl
  have t1 := HBZ.out.cell (i := 1) rfl
  clear HFZ HBZ HD7 HG7 HF7 HN7 HE5
  go_wp2_with fail
  refine bodyPost_ret (v := .tuple #[.agg #[.slice q5 m5 c5, .int .u64 (ls1 : Nat)], .bool true]) (by simp [results, Tryz.results8, go_sem, t0, t1]) rfl ?_
  exact ⟨_, _, _, rfl, HPZ.out, HRZ.out⟩
end Go.Proofs.YtcdamalpecedcaaGreat
