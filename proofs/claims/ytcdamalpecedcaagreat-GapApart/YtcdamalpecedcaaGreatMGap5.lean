/- Layer 13: two Gaps beside one another; a Take by both. -/
import Derived.Test.YtcdamalpecedcaaGreatLGPl
namespace Go.Proofs.YtcdamalpecedcaaGreat
open Go.RowKit
set_option maxRecDepth 100000

theorem Gp.frmA {w w' : World} {gb nx : Nat} {Y : List Tkr} {F : Nat → Prop} (h : Gp w gb nx Y) (hf : Frm w w' F) (hF : OnlyTG w F) (h1 : ¬ F gb) (h2 : ∀ y ∈ Y, ¬ F y.b ∧ ¬ F y.ch) : Gp w' gb nx Y := by
  obtain ⟨xb, p, c, k1, k2⟩ := h
  exact ⟨xb, p, c, k1.frm hf h1, k2.frm hf hF h2⟩
theorem PG.frmA {w w' : World} {gb ls : Nat} {v : Value} {Y : List Tkr} {D : List Dk} {F : Nat → Prop} (h : PG w gb ls v Y D) (hf : Frm w w' F) (hF : OnlyTG w F) (h1 : ¬ F gb) (h2 : ∀ y ∈ Y, ¬ F y.b ∧ ¬ F y.ch) : PG w' gb ls v Y D := ⟨h.g.frmA hf hF h1 h2, h.d.frm hf hF, h.e⟩
theorem blk_oth {w w' : World} {b g : Nat} {cs cs' : Array Value} {S T : TypeId} (hb : Blk w b cs S) (hf : Frm w w' (fun k => k = b)) (h : Blk w g cs' T) (hT : T ≠ S) : Blk w' g cs' T := h.frm hf (fun e => by
  subst e
  unfold Blk at h hb
  rw [h] at hb
  injection hb with hb
  injection hb with _ hb _
  exact hT hb)
theorem owns_oth {w w' : World} {b B e size n : Nat} {cs : Array Value} {S : TypeId} {v : Value} {xs : List Value} (hb : Blk w b cs S) (hf : Frm w w' (fun k => k = b)) (h : w.ownsRow B e size v n xs) (hT : e ≠ S) : w'.ownsRow B e size v n xs := by
  refine ⟨h.1, ?_⟩
  rcases h.2 with h1 | ⟨g, cap, cur, e1, hb', hg, r⟩
  · exact .inl h1
  · refine .inr ⟨g, cap, cur, e1, hb', (hf.block g (Array.getElem?_eq_some_iff.1 hg).1 (fun e2 => ?_)).trans hg, r⟩
    subst e2
    unfold Blk at hb
    rw [hg] at hb
    injection hb with hb
    injection hb with _ hb _
    exact hT hb
theorem ch_oth {w w' : World} {b ch : Nat} {d : Bool} {cs : Array Value} {S : TypeId} (hb : Blk w b cs S) (hf : Frm w w' (fun k => k = b)) (h : ChM w ch d) : ChM w' ch d := (hf.block ch h.lt (fun e => by
  subst e
  unfold Blk at hb
  unfold ChM at h
  rw [h] at hb
  injection hb with hb
  cases hb)).trans h
/-- holds that are written over: a Gaps keeps none of them -/
theorem Gp.hold {w w' : World} {b gb nx : Nat} {cs : Array Value} {Y : List Tkr} (h : Gp w gb nx Y) (hb : Blk w b cs 52) (hf : Frm w w' (fun k => k = b)) : Gp w' gb nx Y := by
  obtain ⟨xb, p, c, h1, h2⟩ := h
  refine ⟨xb, p, c, blk_oth hb hf h1 (by decide), ⟨blk_oth hb hf h2.b (by decide), owns_oth hb hf h2.o (by decide), fun y hy => ?_, h2.nb, h2.nc, h2.i, h2.l, h2.a⟩⟩
  obtain ⟨va, vo, vh, told, d, sm, cl, k1, k2, k3, k4, k5, k6, k7⟩ := h2.t y hy
  exact ⟨va, vo, vh, told, d, sm, cl, blk_oth hb hf k1 (by decide), k2, owns_oth hb hf k3 (by decide), owns_oth hb hf k4 (by decide), owns_oth hb hf k5 (by decide), ch_oth hb hf k6, k7⟩

/-- two Gaps, and the document's beside them -/
structure Tw (w wq : World) (ga gb ma mb : Nat) (v : Value) (ls : Nat) (Y : List Tkr) (D : List Dk) (v' : Value) (ls' : Nat) (Y' : List Tkr) (D' : List Dk) : Prop where
  a : PG wq ga ls v Y D
  b : PG wq gb ls' v' Y' D'
  xa : Blk wq ma #[v, .int .u64 ((ls : Nat) : Int)] 28
  xb : Blk wq mb #[v', .int .u64 ((ls' : Nat) : Int)] 28
  lo : Below w.heap.size w wq
  la : LowG w.heap.size ga Y
  lb : LowG w.heap.size gb Y'
  na : w.heap.size ≤ ma
  nb : w.heap.size ≤ mb
  d : ∀ k, gvF ga Y k → ¬ gvF gb Y' k
  m : ma ≠ mb
theorem Tw.on {w wq w2 : World} {ga gb ma mb : Nat} {v : Value} {ls : Nat} {Y : List Tkr} {D : List Dk} {v' : Value} {ls' : Nat} {Y' : List Tkr} {D' : List Dk} (h : Tw w wq ga gb ma mb v ls Y D v' ls' Y' D') (hb : Below wq.heap.size wq w2) : Tw w w2 ga gb ma mb v ls Y D v' ls' Y' D' :=
  ⟨h.a.on hb, h.b.on hb, h.xa.on hb, h.xb.on hb, h.lo.trans (hb.mono h.lo.size), h.la, h.lb, h.na, h.nb, h.d, h.m⟩
theorem Tw.swap {w wq : World} {ga gb ma mb : Nat} {v : Value} {ls : Nat} {Y : List Tkr} {D : List Dk} {v' : Value} {ls' : Nat} {Y' : List Tkr} {D' : List Dk} (h : Tw w wq ga gb ma mb v ls Y D v' ls' Y' D') : Tw w wq gb ga mb ma v' ls' Y' D' v ls Y D :=
  ⟨h.b, h.a, h.xb, h.xa, h.lo, h.lb, h.la, h.nb, h.na, fun k hk hk' => h.d k hk' hk, h.m.symm⟩
theorem Tw.box {w wd w5 : World} {ga gb ma mb : Nat} {v : Value} {ls : Nat} {Y : List Tkr} {D : List Dk} {v' : Value} {ls' : Nat} {Y' : List Tkr} {D' : List Dk} {Y5 : List Tkr} {D5 : List Dk} (h : Tw w wd ga gb ma mb v ls Y D v' ls' Y' D') (hr : DoR wd w5 ga Y Y5 D D5) : Blk w5 ma #[v, .int .u64 ((ls : Nat) : Int)] 28 := blk_frm h.xa hr.f (only_gv h.a.g) (by decide) (by decide)
/-- one of them is turned -/
theorem Tw.does {w wd w5 w6 : World} {ga gb ma mb : Nat} {v : Value} {ls : Nat} {Y : List Tkr} {D : List Dk} {v' : Value} {ls' : Nat} {Y' : List Tkr} {D' : List Dk} {v5 : Value} {ls5 : Nat} {Y5 : List Tkr} {D5 : List Dk} (h : Tw w wd ga gb ma mb v ls Y D v' ls' Y' D')
    (hp : PG w5 ga ls5 v5 Y5 D5) (hr : DoR wd w5 ga Y Y5 D D5) (hf : Frm w5 w6 (fun k => k = ma)) (hx : Blk w6 ma #[v5, .int .u64 ((ls5 : Nat) : Int)] 28) : Tw w w6 ga gb ma mb v5 ls5 Y5 D5 v' ls' Y' D' := by
  have hM := h.box hr
  have hF := only_gv h.a.g
  have hb5 : PG w5 gb ls' v' Y' D' := h.b.frmA hr.f hF (fun hk => h.d gb hk (.inl rfl)) (fun y hy => ⟨fun hk => h.d _ hk (.inr ⟨y, hy, .inl rfl⟩), fun hk => h.d _ hk (.inr ⟨y, hy, .inr rfl⟩)⟩)
  have hbd := h.lo.trans (hr.f.below h.lo.size h.la.gv)
  refine ⟨PG.box hp hM hf, PG.box hb5 hM hf, hx, (blk_frm h.xb hr.f hF (by decide) (by decide)).frm hf (fun e => h.m e.symm), hbd.trans (hf.below hbd.size (fun k hk => by rw [hk]; exact h.na)), ⟨h.la.1, fun y hy => ?_⟩, h.lb, h.na, h.nb, ?_, h.m⟩
  · rcases hr.n y hy with h9 | h9
    · exact h.la.2 y h9
    · exact ⟨Nat.le_trans h.lo.size h9.1, Nat.le_trans h.lo.size h9.2⟩
  · rintro k hk hk'
    rcases hk with hk | ⟨y, hy, hk⟩
    · exact h.d k (.inl hk) hk'
    · rcases hr.n y hy with h9 | h9
      · exact h.d k (.inr ⟨y, h9, hk⟩) hk'
      · have := gv_lt h.b.g k hk'
        rcases hk with hk | hk <;> omega
def TwS (w wq : World) (ga gb ma mb i j : Nat) : Prop := ∃ v ls Y D v' ls' Y' D', Tw w wq ga gb ma mb v ls Y D v' ls' Y' D' ∧ ls ≤ i ∧ ls' ≤ j
theorem TwS.on {w wq w2 : World} {ga gb ma mb i j : Nat} (h : TwS w wq ga gb ma mb i j) (hb : Below wq.heap.size wq w2) : TwS w w2 ga gb ma mb i j := by
  obtain ⟨v, ls, Y, D, v', ls', Y', D', h1, h2⟩ := h
  exact ⟨v, ls, Y, D, v', ls', Y', D', h1.on hb, h2⟩
theorem TwS.swap {w wq : World} {ga gb ma mb i j : Nat} (h : TwS w wq ga gb ma mb i j) : TwS w wq gb ga mb ma j i := by
  obtain ⟨v, ls, Y, D, v', ls', Y', D', h1, h2, h3⟩ := h
  exact ⟨v', ls', Y', D', v, ls, Y, D, h1.swap, h3, h2⟩
theorem TwS.mono {w wq : World} {ga gb ma mb i j k l : Nat} (h : TwS w wq ga gb ma mb i j) (hi : i ≤ k) (hj : j ≤ l) : TwS w wq ga gb ma mb k l := by
  obtain ⟨v, ls, Y, D, v', ls', Y', D', h1, h2, h3⟩ := h
  exact ⟨v, ls, Y, D, v', ls', Y', D', h1, Nat.le_trans h2 hi, Nat.le_trans h3 hj⟩

/-- a list of one's own that may be written over: where it lies, how long it is -/
def InS (w : World) (N : Nat) (T : TypeId) (sz : Nat) (v : Value) (n : Nat) : Prop := ∃ p c, v = .slice p n c ∧ (0 < n → ∃ g cs, p = some ⟨g, 0, none⟩ ∧ N ≤ g ∧ Blk w g cs T ∧ n * sz ≤ cs.size)
theorem InS.of {w : World} {N sz n : Nat} {T : TypeId} {v : Value} {xs : List Value} (h : w.ownsRow N T sz v n xs) : InS w N T sz v n := by
  rcases h.2 with ⟨rfl, rfl⟩ | ⟨g, cap, cur, e1, hb, hg, hn, -, hs, -⟩
  · exact ⟨none, 0, rfl, fun h => absurd h (Nat.lt_irrefl _)⟩
  · refine ⟨_, _, e1, fun _ => ⟨g, cur, rfl, hb, hg, ?_⟩⟩
    rw [hs]
    exact Nat.mul_le_mul_right _ hn

/-- the contracts of Take, of holds -/
theorem take_both (gb ls lc : Nat) (lq : Option Addr) (H : List Hd) (v : Value) (Y : List Tkr) (D : List Dk) (w : World) (h : PG w gb ls v Y D) (hls : ls + 1 < 9000000000000000000) : ∃ (ls1 tn : Nat) (ec : Int) (M : List (Nat × List Hd)), ls1 ≤ ls + 1 ∧
    (∀ w', DkL w' 0 v D → RdH w' w'.heap.size lq H → Calls Tryz.prog 17 #[.agg #[v, .int .u64 (ls : Nat)], .slice lq H.length lc] w' fun e w'' => ∃ v' D', e = .returned (.tuple #[.agg #[v', .int .u64 (ls1 : Nat)], .int .u64 (tn : Nat), .int .i64 ec]) ∧ DkL w'' 0 v' D' ∧ D'.map (fun d => (d.t, d.H)) = M ∧ StpD D D' ∧ Below w'.heap.size w' w'') ∧
    (∀ w' q' c', Gp w' gb (ls + 1) Y → RdH w' w'.heap.size q' H → Calls Tryz.prog 16 #[ptr1 gb, .slice q' H.length c'] w' fun e w'' => ∃ Y', e = .returned (.tuple #[.int .u64 (tn : Nat), .int .i64 ec]) ∧ Gp w'' gb (ls1 + 1) Y' ∧ Y'.map (fun y => (y.x.t, y.x.H)) = M ∧ Frm w' w'' (fun k => k = gb) ∧ ∀ y ∈ Y', y ∈ Y ∨ (w'.heap.size ≤ y.b ∧ w'.heap.size ≤ y.ch)) := by
  have hDl : D.length ≤ 256 := by rw [same_len h.e]; exact h.g.inv.2
  by_cases h1 : 256 < H.length
  · refine ⟨ls, 0, 2, D.map (fun d => (d.t, d.H)), by omega, fun w' hd _ => ?_, fun w' q' c' hg _ => ?_⟩
    · refine (rtake_long D 0 ls H.length lc lq v w' hd h1).mono ?_
      rintro e w'' ⟨rfl, h2⟩
      exact ⟨v, D, rfl, hd.on h2, rfl, .inl rfl, h2⟩
    · refine (Take_long gb c' H.length q' w' h1).mono ?_
      rintro e w'' ⟨rfl, rfl⟩
      exact ⟨Y, rfl, hg, h.e.symm, Frm.refl _ _, fun y hy => .inl hy⟩
  · by_cases h2 : D.length = 256
    · refine ⟨ls, 0, 2, D.map (fun d => (d.t, d.H)), by omega, fun w' hd _ => ?_, fun w' q' c' hg hr => ?_⟩
      · refine (rtake_full D 0 ls H.length lc lq v w' hd (by omega) h2).mono ?_
        rintro e w'' ⟨rfl, h3⟩
        exact ⟨v, D, rfl, hd.on h3, rfl, .inl rfl, h3⟩
      · refine (Take_full gb (ls + 1) c' q' H Y w' hg hr (by omega) (by rw [← same_len h.e]; exact h2)).mono ?_
        rintro e w'' ⟨rfl, h3⟩
        exact ⟨Y, rfl, hg.on h3, h.e.symm, Frm.of_below h3, fun y hy => .inl hy⟩
    · refine ⟨ls + 1, ls + 1, 0, D.map (fun d => (d.t, d.H)) ++ [(ls + 1, H)], Nat.le_refl _, fun w' hd hr => ?_, fun w' q' c' hg hr => ?_⟩
      · refine (rtake_ok D 0 ls lc lq H v w' hd hr (by omega) (by omega) (by omega)).mono ?_
        rintro e w'' ⟨v', vh, rfl, h3, h4⟩
        refine ⟨v', _, rfl, h3.base (Nat.zero_le _), ?_, .inr (.inl ⟨_, rfl⟩), h4⟩
        rw [List.map_append]
        rfl
      · refine (Take_ok gb (ls + 1) c' q' H Y w' hg hr (by omega) (by rw [← same_len h.e]; omega) (by omega)).mono ?_
        rintro e w'' ⟨tb, ch, rfl, h3, h4, h5, h6⟩
        refine ⟨_, rfl, h3, ?_, h4, fun y hy => ?_⟩
        · rw [List.map_append, h.e]
          rfl
        · rcases List.mem_append.1 hy with hy | hy
          · exact .inl hy
          · simp only [List.mem_cons, List.not_mem_nil, or_false] at hy
            subst hy
            exact .inr ⟨h5, h6⟩
end Go.Proofs.YtcdamalpecedcaaGreat
