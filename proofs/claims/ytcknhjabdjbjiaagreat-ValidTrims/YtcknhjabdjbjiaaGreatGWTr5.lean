/- Trim: commits go that nobody who began behind a stamp asks for. -/
import Derived.Test.YtcknhjabdjbjiaaGreatGWTr3
namespace Go.Proofs.YtcknhjabdjbjiaaGreat
open Go.RowKit
set_option maxRecDepth 100000

theorem sts_drop {L : List Cm} {j : Nat} (hj : j < L.length) : tlF (stsAt (L.drop j)) L[j].W = stsAt (L.drop (j + 1)) := by
  funext y
  unfold tlF stsAt
  rw [List.drop_eq_getElem_cons hj, List.filter_cons]
  by_cases h : y ∈ L[j].W
  · rw [if_pos h]; simp [h]
  · rw [if_neg h]; simp [h]
theorem InvC.dropC {L : List Cm} (h : InvC L) (r : Nat) : InvC (L.drop r) := by
  refine ⟨fun i j hi hj hij => ?_, fun c hc => h.lo c (List.mem_of_mem_drop hc), fun c hc => h.hi c (List.mem_of_mem_drop hc), by rw [List.length_drop]; have := h.len; omega, fun c hc => h.lw c (List.mem_of_mem_drop hc)⟩
  rw [List.length_drop] at hi hj
  simp only [List.getElem_drop]
  exact h.ris _ _ (by omega) (by omega) (by omega)
/-- commits are going -/
structure TrI (w wr : World) (B lb mb : Nat) (vC : Value) (L : List Cm) (j : Nat) (E : List (Pt × Value)) : Prop where
  blk : Blk wr lb #[ptr1 lb, vC, .map (some mb)] 77
  com : OwnC wr B vC L
  ft : ∀ c ∈ L, OwnFt wr B c
  sm : SmX wr mb (stsAt (L.drop j)) E
  frm : Frm w wr (FB B w)
theorem TrI.on {w wr w' : World} {B lb mb : Nat} {vC : Value} {L : List Cm} {j : Nat} {E : List (Pt × Value)} (h : TrI w wr B lb mb vC L j E) (hb : Below wr.heap.size wr w') : TrI w w' B lb mb vC L j E :=
  ⟨h.blk.on hb, h.com.on hb, fun c hc => (h.ft c hc).fb (C := 0) (FB.of_below hb), h.sm.on hb, FB.trans h.frm (FB.of_below hb)⟩
theorem LogO.trim {w : World} {B lb : Nat} {vC : Value} {mb : Nat} {E : List (Pt × Value × List Nat)} {L : List Cm} (h : LogO w B lb vC mb E L) : TrI w w B lb mb vC L 0 (E.map kvU) :=
  ⟨h.blk, h.com, h.ft, ⟨h.sts.map, by
    have := h.sts.nodup
    rw [List.map_map]
    exact this, fun x => (h.sts.get x).sl, fun x b o n c e => by
    have h1 := h.sts.get x
    rw [e] at h1
    rcases (show w.ownsRow B 23 1 (.slice (some ⟨b, o, none⟩) n c) (stsAt L x).length (ucells (stsAt L x)) from h1).2 with ⟨h2, _⟩ | ⟨g, cap, cur, h2, _, h3, _⟩
    · cases h2
    · cases h2
      exact ⟨cur, h3⟩⟩, Frm.refl _ _⟩
theorem TrI.step {w wr w' : World} {B lb mb : Nat} {vC : Value} {L : List Cm} {j : Nat} {E E' : List (Pt × Value)} (h : TrI w wr B lb mb vC L j E) (hj : j < L.length) (hmB : B ≤ mb) (hs : SmX w' mb (tlF (stsAt (L.drop j)) L[j].W) E') (hf : Frm wr w' (fun k => k = mb)) : TrI w w' B lb mb vC L (j + 1) E' := by
  have hk : ∀ {k : Nat} {cs : Array Value} {T : TypeId}, wr.heap[k]? = some (.cells cs T (0, 0)) → w'.heap[k]? = wr.heap[k]? := fun {k cs T} hk => hf.block k (Array.getElem?_eq_some_iff.1 hk).1 (map_not_cells h.sm.map hk)
  refine ⟨(hk h.blk).trans h.blk, h.com.by (fun g hg => by
    obtain ⟨_, cur, h2⟩ := h.com.blk hg
    exact hk h2), fun c hc => ⟨ownsRow_by (h.ft c hc).p (fun _ _ _ hg => hk hg), ownsRow_by (h.ft c hc).s (fun _ _ _ hg => hk hg), ownsRow_by (h.ft c hc).w (fun _ _ _ hg => hk hg)⟩, by rw [← sts_drop hj]; exact hs, FB.trans h.frm (hf.mono (fun k hk => .inl ⟨by omega, .inl (by
    subst hk
    obtain ⟨es, c9, h1, _⟩ := h.sm.map.f
    exact ⟨es, c9, h1⟩)⟩))⟩
/-- a Log behind Trim -/
theorem TrI.done {w wr w6 w7 : World} {B lb mb : Nat} {vC v' : Value} {L : List Cm} {r : Nat} {E : List (Pt × Value)} (h : TrI w wr B lb mb vC L r E) (hI : InvC L) (hlB : B ≤ lb) (hO : OwnC w6 B v' (L.drop r)) (hf : Frm wr w6 (fun k => vC.ownBlock = some k)) (h7 : w7 = w6.setCell ⟨lb, 1, none⟩ v') : LogX w7 lb v' mb E (L.drop r) ∧ Frm w w7 (FB B w) := by
  have hk6 : ∀ {k : Nat} {cs : Array Value} {T : TypeId}, T ≠ 80 → wr.heap[k]? = some (.cells cs T (0, 0)) → w6.heap[k]? = wr.heap[k]? := fun {k cs T} hT hk => hf.block k (Array.getElem?_eq_some_iff.1 hk).1 (fun e => by
    obtain ⟨_, cur, h2⟩ := h.com.blk e
    rw [hk] at h2
    cases h2
    exact hT rfl)
  have hm6 : w6.heap[mb]? = wr.heap[mb]? := by
    obtain ⟨es, c, h3, _⟩ := h.sm.map.f
    exact hf.block mb (Array.getElem?_eq_some_iff.1 h3).1 (fun e => by
      obtain ⟨_, cur, h2⟩ := h.com.blk e
      rw [h3] at h2
      cases h2)
  have hl6 : Blk w6 lb #[ptr1 lb, vC, .map (some mb)] 77 := (hk6 (by decide) h.blk).trans h.blk
  have f7 : Frm w6 w7 (fun k => k = lb) := by rw [h7]; exact frm_set _ _ _ _ (F := fun k => k = lb) (.inl rfl)
  have hk7 : ∀ {k : Nat} {cs : Array Value} {T : TypeId}, T ≠ 77 → w6.heap[k]? = some (.cells cs T (0, 0)) → w7.heap[k]? = w6.heap[k]? := fun {k cs T} hT hk => f7.block k (Array.getElem?_eq_some_iff.1 hk).1 (fun e => by
    subst e
    rw [show w6.heap[k]? = some (.cells _ 77 (0, 0)) from hl6] at hk
    cases hk
    exact hT rfl)
  have hm7 : w7.heap[mb]? = w6.heap[mb]? := by
    obtain ⟨es, c, h3, _⟩ := h.sm.map.f
    rw [← hm6] at h3
    exact f7.block mb (Array.getElem?_eq_some_iff.1 h3).1 (fun e => by
      subst e
      rw [show w6.heap[mb]? = some (.cells _ 77 (0, 0)) from hl6] at h3
      cases h3)
  have hk : ∀ {k : Nat} {cs : Array Value} {T : TypeId}, T ≠ 80 → T ≠ 77 → wr.heap[k]? = some (.cells cs T (0, 0)) → w7.heap[k]? = wr.heap[k]? := fun {k cs T} h1 h2 hk => (hk7 h2 ((hk6 h1 hk).trans hk)).trans (hk6 h1 hk)
  have hO7 : OwnC w7 B v' (L.drop r) := hO.by (fun g hg => by
    obtain ⟨_, cur, h2⟩ := hO.blk hg
    exact hk7 (by decide) h2)
  have hft : ∀ c ∈ L.drop r, OwnFt w7 B c := fun c hc => ⟨ownsRow_by (h.ft c (List.mem_of_mem_drop hc)).p (fun _ _ _ hg => hk (by decide) (by decide) hg), ownsRow_by (h.ft c (List.mem_of_mem_drop hc)).s (fun _ _ _ hg => hk (by decide) (by decide) hg), ownsRow_by (h.ft c (List.mem_of_mem_drop hc)).w (fun _ _ _ hg => hk (by decide) (by decide) hg)⟩
  have hI2 := hI.dropC r
  refine ⟨⟨by rw [h7]; exact hl6.set 1 _, ⟨hO7.row, fun c hc => (hft c hc).rd (hI2.lw c hc)⟩, h.sm.map.of_block (hm7.trans hm6), fun x => ?_, hI2⟩, ?_⟩
  · obtain ⟨p, c, e, h1, h2, h3⟩ := (h.sm.sts x).f
    refine ⟨p, c, e, h1, h2, fun i hi => ?_⟩
    obtain ⟨b, o, e2, hbB, c0⟩ := h3 i hi
    subst e2
    obtain ⟨cur, hcur⟩ := h.sm.ty x b o _ _ e
    have hb7 : w7.heap[b]? = wr.heap[b]? := hk (by decide) (by decide) hcur
    refine ⟨b, o, rfl, ?_, ?_⟩
    · have := (Array.getElem?_eq_some_iff.1 (hb7.trans hcur)).1
      exact this
    · unfold World.cell? at c0 ⊢
      rw [hb7]
      exact c0
  · have f1 : Frm wr w6 (FB B wr) := hf.mono (fun k hk => by
      obtain ⟨h1, cur, h2⟩ := h.com.blk hk
      exact .inl ⟨h1, .inr ⟨_, _, _, h2, .inr (.inl rfl)⟩⟩)
    have f2 : Frm w6 w7 (FB B w6) := f7.mono (fun k hk => by
      subst hk
      exact .inl ⟨hlB, .inr ⟨_, _, _, hl6, .inl rfl⟩⟩)
    exact FB.trans (FB.trans h.frm f1) f2
set_option maxHeartbeats 8000000 in
theorem trim_any (B lb fl : Nat) (vC : Value) (mb : Nat) (E : List (Pt × Value × List Nat)) (L : List Cm) (w : World) (hX : LogO w B lb vC mb E L) (hN : ∀ c ∈ L, c.W.Nodup) :
    Calls Tryz.prog 11 #[ptr1 lb, .int .u64 (fl : Nat)] w fun e w' => ∃ (r : Nat) (vC' : Value) (E' : List (Pt × Value)), e = .returned (.int .i64 (r : Nat)) ∧ IsBeh L fl r ∧ LogX w' lb vC' mb E' (L.drop r) ∧ Frm w w' (FB B w) := by
  have CG : Hid (Calls _ _ _ _ _) := given_any lb _ _ w hX.blk
  obtain ⟨pc, cc, rfl, hlc, hpn, hrow⟩ := hX.com.row
  obtain ⟨len, hl⟩ : ∃ len, L.length = len := ⟨_, rfl⟩
  have HX : Hid (LogO w B lb (.slice pc len cc) mb E L) := by rw [← hl]; exact hX
  have HLg : Hid (Blk w lb #[ptr1 lb, .slice pc len cc, .map (some mb)] 77) := HX.out.blk
  have HNd : Hid (∀ c ∈ L, c.W.Nodup) := hN
  have hlen : len ≤ 4096 := by have := hX.inv.len; omega
  have HLl : Hid (L.length = len ∧ len ≤ 4096) := ⟨hl, hlen⟩
  have HBs : Hid (B ≤ lb ∧ B ≤ mb ∧ InvC L) := ⟨hX.lbB, hX.mbB, hX.inv⟩
  have CB : Hid (∀ w1, Below w.heap.size w w1 → Calls Tryz.prog 30 #[ptr1 lb, .int .u64 (fl : Nat)] w1 fun e w' => ∃ (p : Option Addr) (m c r : Nat), e = .returned (.slice p m c) ∧ m + r = len ∧ IsBeh L fl r ∧ Below w1.heap.size w1 w') := fun w1 hb => by
    refine (behind_any lb fl _ _ L w1 ((HX.out.on hb).blk) ((HX.out.on hb).x.com) HX.out.inv).mono ?_
    rintro e w' ⟨v, r, rfl, hr, hs, hb'⟩
    obtain ⟨p, c, e, _⟩ := hs.f
    rw [List.length_drop, hl] at e
    refine ⟨p, len - r, c, r, by rw [e], ?_, hr, hb'⟩
    have := hr.1
    omega
  rw [hl] at hlc
  clear hX hN hl hrow
  go_enter Tryz.func11, Tryz.ntmps11
  go_wp2_with fail
  refine CG.out.mono ?_
  rintro e w3 ⟨rfl, hw3⟩
  obtain rfl := hw3.symm
  clear CG
  go_upto_region 3 with fail
  refine wp_region_L (fun w' => Below w.heap.size w w') 11 (by kernel_rfl) ?_
  have HBd : Hid (Below w.heap.size w w.drew) := (Below.refl _ _).drew
  generalize w.drew = wd at *
  refine wpL_take (v := ?_) 0 rfl (by kernel_rfl) (fun _ _ _ h => h) (by rfl) ?_ HBd.out ?_
  rotate_left
  focus
    intro w9 hw9
    have a1 := (HLg.out.on hw9).cell (i := 1) rfl
    go_simp
    try with_reducible rfl
  try simp only [Act.put, List.setIfInBounds_toArray, List.set_cons_zero, List.set_cons_succ]
  refine wpL_take (v := ?_) 1 rfl (by kernel_rfl) (fun _ _ _ h => h) (by rfl) ?_ HBd.out ?_
  rotate_left
  focus
    intro w9 hw9
    have a1 := (HLg.out.on hw9).cell (i := 1) rfl
    go_simp
    try with_reducible rfl
  try simp only [Act.put, List.setIfInBounds_toArray, List.set_cons_zero, List.set_cons_succ]
  refine wpL_take (v := ?_) 2 rfl (by kernel_rfl) (fun _ _ _ h => h) (by rfl) ?_ HBd.out ?_
  rotate_left
  focus
    intro w9 hw9
    have a1 := (HLg.out.on hw9).cell (i := 1) rfl
    go_simp
    try with_reducible rfl
  try simp only [Act.put, List.setIfInBounds_toArray, List.set_cons_zero, List.set_cons_succ]
  refine wpL_take (v := ?_) 3 rfl (by kernel_rfl) (fun _ _ _ h => h) (by rfl) ?_ HBd.out ?_
  rotate_left
  focus
    intro w9 hw9
    have a1 := (HLg.out.on hw9).cell (i := 1) rfl
    go_simp
    try with_reducible rfl
  try simp only [Act.put, List.setIfInBounds_toArray, List.set_cons_zero, List.set_cons_succ]
  refine wpL_take (v := ?_) 4 rfl (by kernel_rfl) (fun _ _ _ h => h) (by rfl) ?_ HBd.out ?_
  rotate_left
  focus
    intro w9 hw9
    have a1 := (HLg.out.on hw9).cell (i := 1) rfl
    go_simp
    try with_reducible rfl
  try simp only [Act.put, List.setIfInBounds_toArray, List.set_cons_zero, List.set_cons_succ]
  refine wpL_take (v := ?_) 5 rfl (by kernel_rfl) (fun _ _ _ h => h) (by rfl) ?_ HBd.out ?_
  rotate_left
  focus
    intro w9 hw9
    have a1 := (HLg.out.on hw9).cell (i := 1) rfl
    go_simp
    try with_reducible rfl
  try simp only [Act.put, List.setIfInBounds_toArray, List.set_cons_zero, List.set_cons_succ]
  refine wpL_take (v := ?_) 6 rfl (by kernel_rfl) (fun _ _ _ h => h) (by rfl) ?_ HBd.out ?_
  rotate_left
  focus
    intro w9 hw9
    have a1 := (HLg.out.on hw9).cell (i := 1) rfl
    go_simp
    try with_reducible rfl
  try simp only [Act.put, List.setIfInBounds_toArray, List.set_cons_zero, List.set_cons_succ]
  refine wpL_one 7 rfl (by kernel_rfl) (by rfl) ?_
  intro K hK
  go_simp
  refine (CB.out wd HBd.out).mono ?_
  rintro e w4 ⟨pb, m, cb, r, rfl, hmr, hr, hb4⟩
  have HB4 : Hid (Below w.heap.size w w4) := HBd.out.trans (hb4.mono HBd.out.size)
  have HR : Hid (IsBeh L fl r ∧ m + r = len) := ⟨hr, hmr⟩
  clear CB hb4 hr HBd
  dsimp only
  refine hK.out _ _ (fun _ => HB4.out) ?_
  clear hK K
  try simp only [Act.put, List.setIfInBounds_toArray, List.set_cons_zero, List.set_cons_succ]
  have hsub : IntKind.i64.wrap ((len : Int) - (m : Int)) = (r : Int) := by rw [IntKind.wrap_i64]; omega
  refine wpL_take (v := ?_) 8 rfl (by kernel_rfl) (fun _ _ _ h => h) (by rfl) ?_ HB4.out ?_
  rotate_left
  focus
    intro w9 hw9

    go_simp
    try with_reducible rfl
  try simp only [Act.put, List.setIfInBounds_toArray, List.set_cons_zero, List.set_cons_succ]
  refine wpL_take (v := ?_) 9 rfl (by kernel_rfl) (fun _ _ _ h => h) (by rfl) ?_ HB4.out ?_
  rotate_left
  focus
    intro w9 hw9

    go_simp
    try with_reducible rfl
  try simp only [Act.put, List.setIfInBounds_toArray, List.set_cons_zero, List.set_cons_succ]
  refine wpL_take (v := ?_) 10 rfl (by kernel_rfl) (fun _ _ _ h => h) (by rfl) ?_ HB4.out ?_
  rotate_left
  focus
    intro w9 hw9

    go_simp
    try with_reducible rfl
  try simp only [Act.put, List.setIfInBounds_toArray, List.set_cons_zero, List.set_cons_succ]
  refine wpL_done (by kernel_rfl) ?_ _
  try simp only [NoPanic]
  clear hsub
  have HI4 : Hid (TrI w w4 B lb mb (.slice pc len cc) L 0 (E.map kvU)) := HX.out.trim.on HB4.out
  have hrl : r ≤ len := by omega
  have hrc : r ≤ cc := by omega
  have g1 := (HLg.out.on HB4.out).cell (i := 1) rfl
  clear hmr HB4 HX
  go_wp2_with fail
  clear g1
  go_loopw [28] (fun i wr => ∃ (j : Nat) (E' : List (Pt × Value)), j ≤ r ∧ i = .int .i64 (j : Int) ∧ Hid (TrI w wr B lb mb (.slice pc len cc) L j E')) (fun i _ => r - (intOf i).toNat)
  case atStart => exact ⟨0, _, Nat.zero_le _, by go_num, HI4⟩
  case round =>
    obtain ⟨j, E', hj, rfl, HI⟩ := hrel
    clear HI4
    by_cases hj0 : j = r
    · subst hj0
      have CD : Hid (Calls _ _ _ _ _) := deleteC_any L (.slice pc len cc) B j wr HI.out.com (fun c hc => ⟨(by obtain ⟨p, c', e, _⟩ := (HI.out.ft c hc).p.sl.f; rw [e]; rfl), (by obtain ⟨p, c', e, _⟩ := (HI.out.ft c hc).s.sl.f; rw [e]; rfl), (by obtain ⟨p, c', e, _⟩ := (HI.out.ft c hc).w.sl.f; rw [e]; rfl)⟩) (by have := HLl.out.1; omega) (by have := HLl.out; omega)
      have g1 := HI.out.blk.cell (i := 1) rfl
      go_wp2_with fail
      clear g1
      refine CD.out.mono ?_
      rintro e w6 ⟨v6, rfl, hO6, hf6⟩
      clear CD
      have hl6 : Blk w6 lb #[ptr1 lb, .slice pc len cc, .map (some mb)] 77 := (hf6.block lb HI.out.blk.lt (fun e => by
        obtain ⟨_, cur, h2⟩ := HI.out.com.blk e
        rw [show wr.heap[lb]? = some (.cells _ 77 (0, 0)) from HI.out.blk] at h2
        cases h2)).trans HI.out.blk
      have z1 := hl6.cell (i := 1) rfl
      have f1 := hl6.frozen 1
      obtain ⟨q6, l6, c6, e6⟩ := hO6.form
      subst e6
      have HD : Hid (LogX (w6.setCell ⟨lb, 1, none⟩ (.slice q6 l6 c6)) lb (.slice q6 l6 c6) mb E' (L.drop j) ∧ Frm w (w6.setCell ⟨lb, 1, none⟩ (.slice q6 l6 c6)) (FB B w)) := HI.out.done HBs.out.2.2 HBs.out.1 hO6 hf6 rfl
      clear hO6 hf6 hl6 HI
      go_wp2_with fail
      go_ret
      exact ⟨j, _, _, rfl, HR.out.1, HD.out.1, HD.out.2⟩
    · have hj1 : j < r := by omega
      have hjL : j < L.length := by have := HLl.out.1; omega
      obtain ⟨p', c', e', -, -, hrow⟩ := HI.out.com.row
      obtain ⟨rfl, -, rfl⟩ := Value.slice.inj e'
      obtain ⟨b, o, rfl, hbl, d0, d1, d2, d3⟩ := hrow j hjL
      have hftj := HI.out.ft L[j] (List.getElem_mem hjL)
      have HCf : Hid (∀ w5, TrI w w5 B lb mb (.slice (some ⟨b, o, none⟩) len cc) L j E' → Calls Tryz.prog 31 #[ptr1 lb, .agg #[.int .u64 (L[j].s : Nat), L[j].v0, L[j].v1, L[j].v2]] w5 fun e w' => ∃ E2, e = .returned (.tuple #[]) ∧ TrI w w' B lb mb (.slice (some ⟨b, o, none⟩) len cc) L (j + 1) E2) := fun w5 h5 => by
        refine (forget_any lb mb L[j].s _ _ _ _ (stsAt (L.drop j)) E' L[j].W w5 h5.blk h5.sm ((h5.ft L[j] (List.getElem_mem hjL)).rd (HBs.out.2.2.lw _ (List.getElem_mem hjL))) (HBs.out.2.2.lw _ (List.getElem_mem hjL)) (HNd.out _ (List.getElem_mem hjL)) (fun x hx he => by
          have h1 : L[j].s ∈ stsAt (L.drop j) x := mem_sts.2 ⟨L[j], by rw [List.drop_eq_getElem_cons hjL]; exact List.mem_cons_self, hx, rfl⟩
          rw [he] at h1
          cases h1)).mono ?_
        rintro e w' ⟨E2, rfl, hs, hf⟩
        exact ⟨E2, rfl, h5.step hjL HBs.out.2.1 hs hf⟩
      obtain ⟨p0, c0, e0, -⟩ := hftj.p.sl.f
      obtain ⟨p1, c1, e1, -⟩ := hftj.s.sl.f
      obtain ⟨p2, c2, e2, -⟩ := hftj.w.sl.f
      rw [e0] at d1
      rw [e1] at d2
      rw [e2] at d3
      rw [e0, e1, e2] at HCf
      generalize ([] : List Pt).length = n0 at *
      generalize L[j].W.length = n2 at *
      generalize L[j].s = s at *
      clear hftj e0 e1 e2 hrow hbl e' hjL
      obtain ⟨w5, hw5⟩ : ∃ w5, wr.alloc (.cells #[.int .u64 (s : Nat), .slice p0 n0 c0, .slice p1 n0 c1, .slice p2 n2 c2] 80) = w5 := ⟨_, rfl⟩
      have hal : Below wr.heap.size wr w5 := by rw [← hw5]; exact (Below.refl _ _).alloc (Nat.le_refl _) _
      have HK5 : Hid (Blk w5 wr.heap.size #[.int .u64 (s : Nat), .slice p0 n0 c0, .slice p1 n0 c1, .slice p2 n2 c2] 80) := by rw [← hw5]; exact Blk.new wr _ _
      have HI5 : Hid (TrI w w5 B lb mb (.slice (some ⟨b, o, none⟩) len cc) L j E') := HI.out.on hal
      have q0 := HK5.out.cell (i := 0) rfl
      have q1 := HK5.out.cell (i := 1) rfl
      have q2 := HK5.out.cell (i := 2) rfl
      have q3 := HK5.out.cell (i := 3) rfl
      have CF : Hid (Calls _ _ _ _ _) := HCf.out w5 HI5.out
      clear hal HI HCf
      go_wp2_with fail
      clear d0 d1 d2 d3 q0 q1 q2 q3 hw5
      refine CF.out.mono ?_
      rintro e w6 ⟨E2, rfl, h6⟩
      have HI6 : Hid (TrI w w6 B lb mb (.slice (some ⟨b, o, none⟩) len cc) L (j + 1) E2) := h6
      clear CF h6 HI5 HK5
      go_wp2_with fail
      go_roundw
      case rel => exact ⟨j + 1, E2, hj1, by go_num, HI6⟩
      case measure => simp [intOf]; omega

end Go.Proofs.YtcknhjabdjbjiaaGreat
