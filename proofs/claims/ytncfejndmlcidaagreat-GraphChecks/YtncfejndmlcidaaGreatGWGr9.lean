/- Layer 19: add. -/
import Derived.Test.YtncfejndmlcidaaGreatGWGr5
namespace Go.Proofs.YtncfejndmlcidaaGreat
open Go.RowKit
set_option maxRecDepth 100000

/-- what an action of a transaction that is there, and goes on, depends on -/
def resB (H : List Ac) (a : Ac) : Bool := (!(a.kd == 2) || thB H a.tx ⟨a.it, a.fr, a.nt⟩) && (!(a.kd == 3) || scnB H a) && (!(a.kd == 5) || decide (lst H < a.st))
theorem okA_eq (H : List Ac) (a : Ac) : okA H a = (fmB a && !(en H a.tx) && (!(a.kd == 1) || !(kn H a.tx)) && resB H a) := by
  unfold okA resB scnB
  simp only [Bool.and_assoc]
theorem resB_dum (H : List Ac) (a : Ac) : resB (H ++ [dum a.tx]) a = resB H a := by
  unfold resB
  rw [dum_thB, dum_scnB, dum_lst]
/-- a transaction that is there and goes on -/
structure GoO (w0 wx : World) (B A : Nat) (H : List Ac) (s : Hv) (a : Ac) (q : Option Addr) (d : Nat) (R : Bool) (H1 : List Ac) (s1 : Hv) : Prop where
  st : St wx B H1 s1
  hb : s1.hb = s.hb
  box : Blk wx A #[.int .i64 a.tx, .int .i64 a.kd, .string a.it, .int .i64 a.fr, .int .i64 a.nt, .string a.lo, .string a.hi, .bool a.op, .slice q a.sn.length d, .int .u64 (a.st : Nat)] 51
  kn : kn H1 a.tx = true
  len : H1.length ≤ 4096
  res : R = resB H1 a
  back : ∀ w' s', St w' B (H1 ++ [a]) s' → St w' B (H ++ [a]) s'
  bel : Below B w0 wx
  siz : B ≤ wx.heap.size
  en : en H1 a.tx = false
theorem GoO.ne {w0 wx : World} {B A : Nat} {H : List Ac} {s : Hv} {a : Ac} {q : Option Addr} {d : Nat} {R : Bool} {H1 : List Ac} {s1 : Hv} (h : GoO w0 wx B A H s a q d R H1 s1) : ¬ one1 (s1.pt a.tx) A := fun e => by
  have h1 : wx.heap[A]? = _ := h.box
  rw [show A = s1.pt a.tx from e, show wx.heap[s1.pt a.tx]? = _ from (h.st.tn a.tx h.kn).2] at h1
  simp only [Option.some.injEq, Obj.cells.injEq] at h1
  exact absurd h1.2.1 (by decide)
theorem GoO.on {w0 wx wy : World} {B A : Nat} {H : List Ac} {s : Hv} {a : Ac} {q : Option Addr} {d : Nat} {R : Bool} {H1 : List Ac} {s1 : Hv} (h : GoO w0 wx B A H s a q d R H1 s1) (hb : Below wx.heap.size wx wy) : GoO w0 wy B A H s a q d R H1 s1 :=
  ⟨h.st.on h.siz hb, h.hb, h.box.on hb, h.kn, h.len, h.res, h.back, h.bel.trans (hb.mono h.siz), Nat.le_trans h.siz hb.size, h.en⟩
set_option maxHeartbeats 8000000 in
theorem add_any (B : Nat) (H : List Ac) (s : Hv) (a : Ac) (va : Value) (w : World) (hS : St w B H s) (hB : B ≤ w.heap.size) (hfm : fmB a = true) (hlen : H.length + 1 ≤ 4096) (hsn : SlG encS 3 B w va a.sn) (hll : a.sn.length ≤ 4398046511104) :
    Calls Tryz.prog 42 #[ptr1 s.hb, aggA a va] w fun e w' => e = .returned (.bool (okA H a)) ∧ Below B w w' ∧ (okA H a = true → ∃ s' : Hv, St w' B (H ++ [a]) s' ∧ s'.hb = s.hb) := by
  obtain ⟨q, d, rfl, hnd, _, _⟩ := hsn.f
  have HSN : Hid (SlG encS 3 B w (.slice q a.sn.length d) a.sn ∧ a.sn.length ≤ 4398046511104) := ⟨hsn, hll⟩
  have HS0 : Hid (St w B H s) := hS
  have HFM : Hid (fmB a = true ∧ H.length + 1 ≤ 4096) := ⟨hfm, hlen⟩
  obtain ⟨R, hR⟩ : ∃ R, okA H a = R := ⟨_, rfl⟩
  have HR : Hid (okA H a = R) := hR
  rw [hR]
  obtain ⟨w1, hw1⟩ : ∃ w1, w.alloc (.cells #[.int .i64 a.tx, .int .i64 a.kd, .string a.it, .int .i64 a.fr, .int .i64 a.nt, .string a.lo, .string a.hi, .bool a.op, .slice q a.sn.length d, .int .u64 (a.st : Nat)] 51) = w1 := ⟨_, rfl⟩
  have HB1 : Hid (Below w.heap.size w w1) := by rw [← hw1]; exact (Below.refl _ _).alloc (Nat.le_refl _) _
  have HK1 : Hid (Blk w1 w.heap.size #[.int .i64 a.tx, .int .i64 a.kd, .string a.it, .int .i64 a.fr, .int .i64 a.nt, .string a.lo, .string a.hi, .bool a.op, .slice q a.sn.length d, .int .u64 (a.st : Nat)] 51) := by rw [← hw1]; exact Blk.new w _ _
  have HBw1 : Hid (Below w1.heap.size w1 w1) := Below.refl _ _
  obtain ⟨kt, hkt⟩ : ∃ kt, kn H a.tx = kt := ⟨_, rfl⟩
  have HKT : Hid (kn H a.tx = kt) := hkt
  obtain ⟨v5, hv5⟩ : ∃ v5, getG nilP s.ET a.tx = v5 := ⟨_, rfl⟩
  have HV5 : Hid (v5 = if kt = true then ptr1 (s.pt a.tx) else nilP) := by
    show _ = _
    rw [← hv5, hS.mtv, hkt]
  have HF : Hid (∀ w' : World, Below w1.heap.size w1 w' → w'.cell? ⟨s.hb, 0, none⟩ = some (.map (some s.mT)) ∧ w'.cell? ⟨w.heap.size, 0, none⟩ = some (.int .i64 a.tx) ∧ (Instr.lookup 73 (.map (some s.mT)) (.int .i64 a.tx) false).run Tryz.prog w' = .ok v5 w') := fun w' h => by
    have hS2 := HS0.out.on hB (HB1.out.trans (h.mono HB1.out.size))
    refine ⟨hS2.blk.cell rfl, (HK1.out.on h).cell rfl, ?_⟩
    have h1 := hS2.mt.look keyI Tryz.underlying73 zeroTx a.tx
    rw [hv5] at h1
    exact h1
  clear hS hR hsn hll hfm hlen hkt hv5 hnd
  dsimp only [ptr1, aggA]
  go_enter Tryz.func42, Tryz.ntmps42
  go_upto_region 1 with fail
  haveI := inB_ne w1
  have f0 := fun p : InB w1 => (HF.out p.w' (HBw1.out.trans (p.h.mono HBw1.out.size))).1
  have f1 := fun p : InB w1 => (HF.out p.w' (HBw1.out.trans (p.h.mono HBw1.out.size))).2.1
  have f2 := fun p : InB w1 => (HF.out p.w' (HBw1.out.trans (p.h.mono HBw1.out.size))).2.2
  refine wp_region_inB (by kernel_rfl) (by kernel_rfl) ?_
  repeat (go_big_quiet_step (fail))
  refine wpQuiet_nil ?_
  rintro w2 ⟨⟨w2', hb9⟩, h9⟩
  obtain rfl : w2 = w2' := h9
  have HBw2 : Hid (Below w1.heap.size w1 w2) := HBw1.out.trans (hb9.mono HBw1.out.size)
  clear hb9 f0 f1 f2
  clear hw1
  have HK2 : Hid (Blk w2 w.heap.size #[.int .i64 a.tx, .int .i64 a.kd, .string a.it, .int .i64 a.fr, .int .i64 a.nt, .string a.lo, .string a.hi, .bool a.op, .slice q a.sn.length d, .int .u64 (a.st : Nat)] 51) := HK1.out.on HBw2.out
  have HB02 : Hid (Below w.heap.size w w2) := HB1.out.trans (HBw2.out.mono HB1.out.size)
  have HS2 : Hid (St w2 B H s) := HS0.out.on hB HB02.out
  clear HF HK1 HB1 HBw1 HBw2
  have hv5 : v5 = if kt = true then ptr1 (s.pt a.tx) else nilP := HV5.out
  cases kt
  · obtain rfl : v5 = nilP := by simpa using hv5
    clear hv5 HV5
    obtain ⟨w3, hw3⟩ : ∃ w3, w2.alloc (.cells #[.int .i64 a.tx, .int .i64 0, .bool false, .bool false, .int .u64 0, .int .u64 0, .slice none 0 0, .slice none 0 0, .slice none 0 0] 101) = w3 := ⟨_, rfl⟩
    have HB23 : Hid (Below w2.heap.size w2 w3) := by rw [← hw3]; exact (Below.refl _ _).alloc (Nat.le_refl _) _
    have HT3 : Hid (Blk w3 w2.heap.size #[.int .i64 a.tx, .int .i64 0, .bool false, .bool false, .int .u64 0, .int .u64 0, .slice none 0 0, .slice none 0 0, .slice none 0 0] 101) := by rw [← hw3]; exact Blk.new w2 _ _
    have c0 : w2.cell? ⟨w.heap.size, 0, none⟩ = some (.int .i64 a.tx) := HK2.out.cell rfl
    go_upto_region 4 with fail
    clear c0 hw3
    refine wp_region_L (fun w' => Blk w' s.hb #[.map (some s.mT), .map (some s.mW), s.vC, .map (some s.mV), nilS, nilS] 78 ∧ Blk w' w.heap.size #[.int .i64 a.tx, .int .i64 a.kd, .string a.it, .int .i64 a.fr, .int .i64 a.nt, .string a.lo, .string a.hi, .bool a.op, .slice q a.sn.length d, .int .u64 (a.st : Nat)] 51) 7 (by kernel_rfl) ?_
    have HSd : Hid (St w3.drew B H s) := HS2.out.on (Nat.le_trans hB HB02.out.size) HB23.out.drew
    have HKd : Hid (Blk w3.drew w.heap.size #[.int .i64 a.tx, .int .i64 a.kd, .string a.it, .int .i64 a.fr, .int .i64 a.nt, .string a.lo, .string a.hi, .bool a.op, .slice q a.sn.length d, .int .u64 (a.st : Nat)] 51) := (HK2.out.on HB23.out).drew
    have HTd : Hid (Blk w3.drew w2.heap.size #[.int .i64 a.tx, .int .i64 0, .bool false, .bool false, .int .u64 0, .int .u64 0, .slice none 0 0, .slice none 0 0, .slice none 0 0] 101) := HT3.out.drew
    have HBd : Hid (Below w2.heap.size w2 w3.drew) := HB23.out.drew
    clear HB23 HT3
    generalize w3.drew = wd at *
    refine wpL_take (v := ?_) 0 rfl (by kernel_rfl) (fun _ _ _ h => h) (by rfl) ?_ ⟨HSd.out.blk, HKd.out⟩ ?_
    rotate_left
    focus
      intro w9 hw9
      have a0 := hw9.1.cell (i := 0) rfl
      have b0 := hw9.2.cell (i := 0) rfl
      go_simp
      try with_reducible rfl
    try simp only [Act.put, List.setIfInBounds_toArray, List.set_cons_zero, List.set_cons_succ]
    refine wpL_take (v := ?_) 1 rfl (by kernel_rfl) (fun _ _ _ h => h) (by rfl) ?_ ⟨HSd.out.blk, HKd.out⟩ ?_
    rotate_left
    focus
      intro w9 hw9
      have a0 := hw9.1.cell (i := 0) rfl
      have b0 := hw9.2.cell (i := 0) rfl
      go_simp
      try with_reducible rfl
    try simp only [Act.put, List.setIfInBounds_toArray, List.set_cons_zero, List.set_cons_succ]
    refine wpL_take (v := ?_) 2 rfl (by kernel_rfl) (fun _ _ _ h => h) (by rfl) ?_ ⟨HSd.out.blk, HKd.out⟩ ?_
    rotate_left
    focus
      intro w9 hw9
      have a0 := hw9.1.cell (i := 0) rfl
      have b0 := hw9.2.cell (i := 0) rfl
      go_simp
      try with_reducible rfl
    try simp only [Act.put, List.setIfInBounds_toArray, List.set_cons_zero, List.set_cons_succ]
    refine wpL_take (v := ?_) 3 rfl (by kernel_rfl) (fun _ _ _ h => h) (by rfl) ?_ ⟨HSd.out.blk, HKd.out⟩ ?_
    rotate_left
    focus
      intro w9 hw9
      have a0 := hw9.1.cell (i := 0) rfl
      have b0 := hw9.2.cell (i := 0) rfl
      go_simp
      try with_reducible rfl
    try simp only [Act.put, List.setIfInBounds_toArray, List.set_cons_zero, List.set_cons_succ]
    refine wpL_take (v := ?_) 4 rfl (by kernel_rfl) (fun _ _ _ h => h) (by rfl) ?_ ⟨HSd.out.blk, HKd.out⟩ ?_
    rotate_left
    focus
      intro w9 hw9
      have a0 := hw9.1.cell (i := 0) rfl
      have b0 := hw9.2.cell (i := 0) rfl
      go_simp
      try with_reducible rfl
    try simp only [Act.put, List.setIfInBounds_toArray, List.set_cons_zero, List.set_cons_succ]
    refine wpL_take (v := ?_) 5 rfl (by kernel_rfl) (fun _ _ _ h => h) (by rfl) ?_ ⟨HSd.out.blk, HKd.out⟩ ?_
    rotate_left
    focus
      intro w9 hw9
      have a0 := hw9.1.cell (i := 0) rfl
      have b0 := hw9.2.cell (i := 0) rfl
      go_simp
      try with_reducible rfl
    try simp only [Act.put, List.setIfInBounds_toArray, List.set_cons_zero, List.set_cons_succ]
    refine wpL_take (v := ?_) 6 rfl (by kernel_rfl) (fun _ _ _ h => h) (by rfl) ?_ ⟨HSd.out.blk, HKd.out⟩ ?_
    rotate_left
    focus
      intro w9 hw9
      have a0 := hw9.1.cell (i := 0) rfl
      have b0 := hw9.2.cell (i := 0) rfl
      go_simp
      try with_reducible rfl
    try simp only [Act.put, List.setIfInBounds_toArray, List.set_cons_zero, List.set_cons_succ]
    refine wpL_one 7 rfl (by kernel_rfl) (by rfl) ?_
    intro K hK
    refine wp_updateG keyI Tryz.underlying73 wd (.tmp 22) (.tmp 24) (.tmp 25) rfl s.mT s.ET a.tx (ptr1 w2.heap.size) (by rfl) (by rfl) (by rfl) HSd.out.mt ?_
    intro w4 hm4 hg4 hz4
    have HG : Hid (GoO w w4 B w.heap.size H s a q d R (H ++ [dum a.tx]) { s with pt := updF s.pt a.tx w2.heap.size, ET := putG s.ET a.tx (ptr1 w2.heap.size), vi := updF s.vi a.tx nilS, vr := updF s.vr a.tx nilS, vs := updF s.vs a.tx nilS, Sc := updF s.Sc a.tx [] }) := by
      have hf4 : Frm w2 w4 (one1 s.mT) := Frm.trans (w1 := wd) (Frm.of_below HBd.out) (Frm.of_grown (F := one1 s.mT) hg4 (fun g e => by cases e; exact .inl rfl)) (fun k hk => .inl hk)
      have hn : ∀ {g : Nat} {cs : Array Value} {T : TypeId}, Blk wd g cs T → some g ≠ some s.mT := fun {g cs T} hb e => HSd.out.mt.not_cells hb (Option.some.inj e)
      obtain ⟨n1, n2, _⟩ := no_all HKT.out
      refine ⟨HS2.out.fresh (Nat.le_trans hB HB02.out.size) HKT.out (HTd.out.grown hg4 (hn HTd.out)) hf4 hm4, rfl, HKd.out.grown hg4 (hn HKd.out), by rw [dum_kn]; simp, by rw [List.length_append]; exact HFM.out.2, ?_, fun w' s' h => h.congr (dum_sim H a), (HB02.out.mono hB).trans (hf4.below (Nat.le_trans hB HB02.out.size) (fun k hk => by rw [show k = s.mT from hk]; exact HS0.out.mTB)), Nat.le_trans hB (Nat.le_trans HB02.out.size hf4.size), by rw [dum_en]; exact n2⟩
      rw [resB_dum, ← HR.out, okA_eq, HFM.out.1, n2, HKT.out]
      simp
    clear hm4 hg4 hz4 HSd HKd HTd HBd HS2 HK2 HB02
    refine hK.out _ _ (fun h => absurd rfl h) ?_
    clear hK K
    try simp only [Act.put]
    refine wpL_done (by kernel_rfl) ?_ _
    try simp only [NoPanic]
    obtain ⟨s1, hs1⟩ : ∃ s1 : Hv, { s with pt := updF s.pt a.tx w2.heap.size, ET := putG s.ET a.tx (ptr1 w2.heap.size), vi := updF s.vi a.tx nilS, vr := updF s.vr a.tx nilS, vs := updF s.vs a.tx nilS, Sc := updF s.Sc a.tx [] } = s1 := ⟨_, rfl⟩
    rw [hs1] at HG
    have hpp : w2.heap.size = s1.pt a.tx := by rw [← hs1]; exact (updF_same _ _ _).symm
    rw [hpp]
    clear hs1 hpp
    have c1 : w4.cell? ⟨w.heap.size, 1, none⟩ = some (.int .i64 a.kd) := HG.out.box.cell rfl
    have hfm := HFM.out.1
    have hkds : (1 ≤ a.kd ∧ a.kd ≤ 6) := by
      unfold fmB at hfm
      simp only [Bool.and_eq_true, decide_eq_true_eq] at hfm
      exact ⟨hfm.1.1.1.1.1.1, hfm.1.1.1.1.1.2⟩
    clear hfm
    by_cases h1 : a.kd = 1
    · have hk1 : a.kd = 1 := h1
      have HKD : Hid (a.kd = 1) := h1
      rw [h1] at c1
      obtain rfl : R = true := by rw [HG.out.res]; unfold resB; simp [hk1]
      clear h1 hk1 hkds
      go_upto_region 9 with fail
      clear c1
      refine wp_region_L (fun w' => Blk w' w.heap.size #[.int .i64 a.tx, .int .i64 a.kd, .string a.it, .int .i64 a.fr, .int .i64 a.nt, .string a.lo, .string a.hi, .bool a.op, .slice q a.sn.length d, .int .u64 (a.st : Nat)] 51) 99 (by kernel_rfl) ?_
      have HGd : Hid (GoO w w4.drew B w.heap.size H s a q d true (H ++ [dum a.tx]) s1) := HG.out.on (Below.refl w4.heap.size w4).drew
      clear HG
      generalize w4.drew = wd at *
      refine wpL_take (v := ?_) 0 rfl (by kernel_rfl) (fun _ _ _ h => h) (by rfl) ?_ HGd.out.box ?_
      rotate_left
      focus
        intro w9 hw9
        have b9 := hw9.cell (i := 9) rfl
        go_simp
        try with_reducible rfl
      try simp only [Act.put, List.setIfInBounds_toArray, List.set_cons_zero, List.set_cons_succ]
      refine wpL_take (v := ?_) 1 rfl (by kernel_rfl) (fun _ _ _ h => h) (by rfl) ?_ HGd.out.box ?_
      rotate_left
      focus
        intro w9 hw9
        have b9 := hw9.cell (i := 9) rfl
        go_simp
        try with_reducible rfl
      try simp only [Act.put, List.setIfInBounds_toArray, List.set_cons_zero, List.set_cons_succ]
      refine wpL_take (v := ?_) 2 rfl (by kernel_rfl) (fun _ _ _ h => h) (by rfl) ?_ HGd.out.box ?_
      rotate_left
      focus
        intro w9 hw9
        have b9 := hw9.cell (i := 9) rfl
        go_simp
        try with_reducible rfl
      try simp only [Act.put, List.setIfInBounds_toArray, List.set_cons_zero, List.set_cons_succ]
      refine wpL_take (v := ?_) 3 rfl (by kernel_rfl) (fun _ _ _ h => h) (by rfl) ?_ HGd.out.box ?_
      rotate_left
      focus
        intro w9 hw9
        have b9 := hw9.cell (i := 9) rfl
        go_simp
        try with_reducible rfl
      try simp only [Act.put, List.setIfInBounds_toArray, List.set_cons_zero, List.set_cons_succ]
      refine wpL_one 4 rfl (by kernel_rfl) (by rfl) ?_
      intro K hK
      go_simp
      refine hK.out _ _ (fun _ => HGd.out.box) ?_
      clear hK K
      try simp only [Act.put, List.setIfInBounds_toArray, List.set_cons_zero, List.set_cons_succ]
      refine wpL_one 5 rfl (by kernel_rfl) (by rfl) ?_
      intro K hK
      go_simp
      refine hK.out _ _ (fun _ => HGd.out.box) ?_
      clear hK K
      try simp only [Act.put, List.setIfInBounds_toArray, List.set_cons_zero, List.set_cons_succ]
      refine wpL_one 6 rfl (by kernel_rfl) (by rfl) ?_
      intro K hK
      have z0 : wd.cell? ⟨s1.pt a.tx, 2, none⟩ = some (.bool (bg (H ++ [dum a.tx]) a.tx)) := (HGd.out.st.tn a.tx HGd.out.kn).2.cell (i := 2) rfl
      have f0 := (HGd.out.st.tn a.tx HGd.out.kn).2.frozen 2
      go_simp
      have HP5 : Hid (Blk (wd.setCell ⟨s1.pt a.tx, 2, none⟩ (.bool true)) (s1.pt a.tx) ((Hv.tcells s1 (H ++ [dum a.tx]) a.tx).setIfInBounds 2 (.bool true)) 101) := (HGd.out.st.tn a.tx HGd.out.kn).2.set 2 _
      have HF5 : Hid (Frm wd (wd.setCell ⟨s1.pt a.tx, 2, none⟩ (.bool true)) (one1 (s1.pt a.tx))) := frm_set wd (s1.pt a.tx) 2 _ (.inl rfl)
      have HA5 : Hid (Blk (wd.setCell ⟨s1.pt a.tx, 2, none⟩ (.bool true)) w.heap.size #[.int .i64 a.tx, .int .i64 a.kd, .string a.it, .int .i64 a.fr, .int .i64 a.nt, .string a.lo, .string a.hi, .bool a.op, .slice q a.sn.length d, .int .u64 (a.st : Nat)] 51) := HGd.out.box.frm HF5.out (GoO.ne HGd.out)
      clear z0 f0
      refine hK.out _ _ (fun _ => HA5.out) ?_
      clear hK K
      try simp only [Act.put, List.setIfInBounds_toArray, List.set_cons_zero, List.set_cons_succ]
      generalize wd.setCell ⟨s1.pt a.tx, 2, none⟩ (.bool true) = w5 at *
      refine wpL_one 7 rfl (by kernel_rfl) (by rfl) ?_
      intro K hK
      go_simp
      refine hK.out _ _ (fun _ => HA5.out) ?_
      clear hK K
      try simp only [Act.put, List.setIfInBounds_toArray, List.set_cons_zero, List.set_cons_succ]
      refine wpL_one 8 rfl (by kernel_rfl) (by rfl) ?_
      intro K hK
      go_simp
      refine hK.out _ _ (fun _ => HA5.out) ?_
      clear hK K
      try simp only [Act.put, List.setIfInBounds_toArray, List.set_cons_zero, List.set_cons_succ]
      refine wpL_one 9 rfl (by kernel_rfl) (by rfl) ?_
      intro K hK
      have z0 : w5.cell? ⟨s1.pt a.tx, 4, none⟩ = some (.int .u64 (snp (H ++ [dum a.tx]) a.tx : Nat)) := HP5.out.cell (i := 4) rfl
      have f0 := HP5.out.frozen 4
      go_simp
      have HP6 : Hid (Blk (w5.setCell ⟨s1.pt a.tx, 4, none⟩ (.int .u64 (a.st : Nat))) (s1.pt a.tx) (((Hv.tcells s1 (H ++ [dum a.tx]) a.tx).setIfInBounds 2 (.bool true)).setIfInBounds 4 (.int .u64 (a.st : Nat))) 101) := HP5.out.set 4 _
      have HF6 : Hid (Frm wd (w5.setCell ⟨s1.pt a.tx, 4, none⟩ (.int .u64 (a.st : Nat))) (one1 (s1.pt a.tx))) := HF5.out.trans (frm_set w5 (s1.pt a.tx) 4 _ (F := one1 (s1.pt a.tx)) (.inl rfl)) (fun k hk => .inl hk)
      have HA6 : Hid (Blk (w5.setCell ⟨s1.pt a.tx, 4, none⟩ (.int .u64 (a.st : Nat))) w.heap.size #[.int .i64 a.tx, .int .i64 a.kd, .string a.it, .int .i64 a.fr, .int .i64 a.nt, .string a.lo, .string a.hi, .bool a.op, .slice q a.sn.length d, .int .u64 (a.st : Nat)] 51) := HGd.out.box.frm HF6.out (GoO.ne HGd.out)
      clear z0 f0 HP5 HF5 HA5
      refine hK.out _ _ (fun _ => HA6.out) ?_
      clear hK K
      try simp only [Act.put, List.setIfInBounds_toArray, List.set_cons_zero, List.set_cons_succ]
      generalize w5.setCell ⟨s1.pt a.tx, 4, none⟩ (.int .u64 (a.st : Nat)) = w6 at *
      refine wpL_done (by kernel_rfl) ?_ _
      try simp only [NoPanic]
      have hM := HGd.out.st.mark (a := a) (t := a.tx) (w' := w6) HGd.out.siz HGd.out.kn rfl (.inl HKD.out) HF6.out (by
        have e1 : bg ((H ++ [dum a.tx]) ++ [a]) a.tx = true := by rw [bg_snoc]; simp [HKD.out]
        have e2 : en ((H ++ [dum a.tx]) ++ [a]) a.tx = en (H ++ [dum a.tx]) a.tx := en_keep _ (.inl (by rw [HKD.out]; decide))
        have e3 : snp ((H ++ [dum a.tx]) ++ [a]) a.tx = a.st := by show stOf 1 ((H ++ [dum a.tx]) ++ [a]) a.tx = _; rw [stOf_snoc, if_pos ⟨rfl, HKD.out⟩]
        have e4 : cm ((H ++ [dum a.tx]) ++ [a]) a.tx = cm (H ++ [dum a.tx]) a.tx := st_keep _ (.inl (by rw [HKD.out]; decide))
        rw [e1, e2, e3, e4]
        exact HP6.out)
      have HE : Hid (Below B w w6 ∧ ∃ s' : Hv, St w6 B (H ++ [a]) s' ∧ s'.hb = s.hb) := ⟨HGd.out.bel.trans hM.2, _, HGd.out.back _ _ hM.1, HGd.out.hb⟩
      clear HP6 HF6 HA6 HGd hM
      go_wp2_with fail
      go_ret
      exact ⟨rfl, HE.out.1, HE.out.2⟩
    · by_cases h2 : a.kd = 2
      · have hk1 : a.kd = 2 := h2
        have HKD : Hid (a.kd = 2) := h2
        rw [h2] at c1
        have d2 : w4.cell? ⟨w.heap.size, 2, none⟩ = some (.string a.it) := HG.out.box.cell rfl
        have d3 : w4.cell? ⟨w.heap.size, 3, none⟩ = some (.int .i64 a.fr) := HG.out.box.cell rfl
        have d4 : w4.cell? ⟨w.heap.size, 4, none⟩ = some (.int .i64 a.nt) := HG.out.box.cell rfl
        have HRV : Hid (R = thB (H ++ [dum a.tx]) a.tx ⟨a.it, a.fr, a.nt⟩) := by
          show _ = _
          rw [HG.out.res]
          unfold resB
          simp [hk1]
        have CC := addRead_any B (H ++ [dum a.tx]) s1 a w4 HG.out.st HG.out.siz HG.out.kn hk1 HG.out.len
        rw [HG.out.hb] at CC
        dsimp only [ptr1, aggS, aggA] at CC
        clear h2 hk1 hkds
        go_wp2_with fail
        refine CC.mono ?_
        clear CC c1 d2 d3 d4
        rintro e w6 ⟨rfl, hb6, hs6⟩
        have HE : Hid (Below B w w6 ∧ (R = true → ∃ s' : Hv, St w6 B (H ++ [a]) s' ∧ s'.hb = s.hb)) := ⟨HG.out.bel.trans hb6, fun hr => by
          obtain ⟨s', h1, h2⟩ := hs6 (by rw [← HRV.out]; exact hr)
          exact ⟨s', HG.out.back _ _ h1, h2⟩⟩
        clear hb6 hs6 HG
        go_wp2_with fail
        go_ret
        exact ⟨by rw [HRV.out]; first | done | rfl, HE.out.1, HE.out.2⟩
      by_cases h3 : a.kd = 3
      · have hk1 : a.kd = 3 := h3
        have HKD : Hid (a.kd = 3) := h3
        have t1 : (a.kd == 1) = false := by simp [hk1]
        have t2 : (a.kd == 2) = false := by simp [hk1]
        have t3 : (a.kd == 3) = true := by simp [hk1]
        have d0 : w4.cell? ⟨w.heap.size, 0, none⟩ = some (.int .i64 a.tx) := HG.out.box.cell rfl
        have d2 : w4.cell? ⟨w.heap.size, 2, none⟩ = some (.string a.it) := HG.out.box.cell rfl
        have d3 : w4.cell? ⟨w.heap.size, 3, none⟩ = some (.int .i64 a.fr) := HG.out.box.cell rfl
        have d4 : w4.cell? ⟨w.heap.size, 4, none⟩ = some (.int .i64 a.nt) := HG.out.box.cell rfl
        have d5 : w4.cell? ⟨w.heap.size, 5, none⟩ = some (.string a.lo) := HG.out.box.cell rfl
        have d6 : w4.cell? ⟨w.heap.size, 6, none⟩ = some (.string a.hi) := HG.out.box.cell rfl
        have d7 : w4.cell? ⟨w.heap.size, 7, none⟩ = some (.bool a.op) := HG.out.box.cell rfl
        have d8 : w4.cell? ⟨w.heap.size, 8, none⟩ = some (.slice q a.sn.length d) := HG.out.box.cell rfl
        have d9 : w4.cell? ⟨w.heap.size, 9, none⟩ = some (.int .u64 (a.st : Nat)) := HG.out.box.cell rfl
        have HRV : Hid (R = scnB (H ++ [dum a.tx]) a) := by
          show _ = _
          rw [HG.out.res]
          unfold resB
          simp [hk1]
        have CC := addScan_any B (H ++ [dum a.tx]) s1 a (.slice q a.sn.length d) w4 HG.out.st HG.out.siz HG.out.kn hk1 HG.out.len (HSN.out.1.on HG.out.bel) HSN.out.2
        rw [HG.out.hb] at CC
        dsimp only [ptr1, aggS, aggA] at CC
        clear h3 hk1 hkds
        go_wp2_with fail
        refine CC.mono ?_
        clear CC c1 d0 d2 d3 d4 d5 d6 d7 d8 d9
        rintro e w6 ⟨rfl, hb6, hs6⟩
        have HE : Hid (Below B w w6 ∧ (R = true → ∃ s' : Hv, St w6 B (H ++ [a]) s' ∧ s'.hb = s.hb)) := ⟨HG.out.bel.trans hb6, fun hr => by
          obtain ⟨s', h1, h2⟩ := hs6 (by rw [← HRV.out]; exact hr)
          exact ⟨s', HG.out.back _ _ h1, h2⟩⟩
        clear hb6 hs6 HG
        go_wp2_with fail
        go_ret
        exact ⟨by rw [HRV.out]; first | done | rfl, HE.out.1, HE.out.2⟩
      by_cases h4 : a.kd = 4
      · have hk1 : a.kd = 4 := h4
        have HKD : Hid (a.kd = 4) := h4
        rw [h4] at c1
        have d2 : w4.cell? ⟨w.heap.size, 2, none⟩ = some (.string a.it) := HG.out.box.cell rfl
        have HRV : Hid (R = true) := by
          show _ = _
          rw [HG.out.res]
          unfold resB
          simp [hk1]
        have CC := addWrite_any B (H ++ [dum a.tx]) s1 a w4 HG.out.st HG.out.siz HG.out.kn hk1 HG.out.en HG.out.len
        rw [HG.out.hb] at CC
        dsimp only [ptr1, aggS, aggA] at CC
        clear h4 hk1 hkds
        go_wp2_with fail
        refine CC.mono ?_
        clear CC c1 d2
        rintro e w6 ⟨rfl, hb6, s', hs1, hs2⟩
        have HE : Hid (Below B w w6 ∧ ∃ s' : Hv, St w6 B (H ++ [a]) s' ∧ s'.hb = s.hb) := ⟨HG.out.bel.trans hb6, s', HG.out.back _ _ hs1, hs2⟩
        clear hb6 hs1 hs2 HG
        go_wp2_with fail
        go_ret
        exact ⟨by rw [HRV.out]; first | done | rfl, HE.out.1, fun _ => HE.out.2⟩
      by_cases h5 : a.kd = 5
      · have hk1 : a.kd = 5 := h5
        have HKD : Hid (a.kd = 5) := h5
        rw [h5] at c1
        have d9 : w4.cell? ⟨w.heap.size, 9, none⟩ = some (.int .u64 (a.st : Nat)) := HG.out.box.cell rfl
        have HRV : Hid (R = decide (lst (H ++ [dum a.tx]) < a.st)) := by
          show _ = _
          rw [HG.out.res]
          unfold resB
          simp [hk1]
        have CC := addCommit_any B (H ++ [dum a.tx]) s1 a w4 HG.out.st HG.out.siz HG.out.kn hk1 HG.out.len
        rw [HG.out.hb] at CC
        dsimp only [ptr1, aggS, aggA] at CC
        clear h5 hk1 hkds
        go_wp2_with fail
        refine CC.mono ?_
        clear CC c1 d9
        rintro e w6 ⟨rfl, hb6, hs6⟩
        have HE : Hid (Below B w w6 ∧ (R = true → ∃ s' : Hv, St w6 B (H ++ [a]) s' ∧ s'.hb = s.hb)) := ⟨HG.out.bel.trans hb6, fun hr => by
          obtain ⟨s', h1, h2⟩ := hs6 (by rw [HRV.out] at hr; simpa using hr)
          exact ⟨s', HG.out.back _ _ h1, h2⟩⟩
        clear hb6 hs6 HG
        go_wp2_with fail
        go_ret
        exact ⟨by rw [HRV.out]; first | done | rfl, HE.out.1, HE.out.2⟩
      have hk6 : a.kd = 6 := by omega
      have HKD : Hid (a.kd = 6) := hk6
      rw [hk6] at c1
      obtain rfl : R = true := by rw [HG.out.res]; unfold resB; simp [hk6]
      have z0 : w4.cell? ⟨s1.pt a.tx, 3, none⟩ = some (.bool (en (H ++ [dum a.tx]) a.tx)) := (HG.out.st.tn a.tx HG.out.kn).2.cell (i := 3) rfl
      have f0 := (HG.out.st.tn a.tx HG.out.kn).2.frozen 3
      clear h1 h2 h3 h4 h5 hk6 hkds
      go_wp2_with fail
      clear z0 f0 c1
      go_ret
      have HP5 : Blk (w4.setCell ⟨s1.pt a.tx, 3, none⟩ (.bool true)) (s1.pt a.tx) ((Hv.tcells s1 (H ++ [dum a.tx]) a.tx).setIfInBounds 3 (.bool true)) 101 := (HG.out.st.tn a.tx HG.out.kn).2.set 3 _
      have HF5 : Frm w4 (w4.setCell ⟨s1.pt a.tx, 3, none⟩ (.bool true)) (one1 (s1.pt a.tx)) := frm_set w4 (s1.pt a.tx) 3 _ (.inl rfl)
      have hM := HG.out.st.mark (a := a) (t := a.tx) HG.out.siz HG.out.kn rfl (.inr HKD.out) HF5 (by
        have e1 : bg ((H ++ [dum a.tx]) ++ [a]) a.tx = bg (H ++ [dum a.tx]) a.tx := bg_keep _ (.inl (by rw [HKD.out]; decide))
        have e2 : en ((H ++ [dum a.tx]) ++ [a]) a.tx = true := by rw [en_snoc]; simp [HKD.out]
        have e3 : snp ((H ++ [dum a.tx]) ++ [a]) a.tx = snp (H ++ [dum a.tx]) a.tx := st_keep _ (.inl (by rw [HKD.out]; decide))
        have e4 : cm ((H ++ [dum a.tx]) ++ [a]) a.tx = cm (H ++ [dum a.tx]) a.tx := st_keep _ (.inl (by rw [HKD.out]; decide))
        rw [e1, e2, e3, e4]
        exact HP5)
      exact ⟨rfl, HG.out.bel.trans hM.2, _, HG.out.back _ _ hM.1, HG.out.hb⟩
  · obtain rfl : v5 = ptr1 (s.pt a.tx) := by simpa using hv5
    clear hv5 HV5
    obtain ⟨en0, hen⟩ : ∃ en0, en H a.tx = en0 := ⟨_, rfl⟩
    have c3 : w2.cell? ⟨s.pt a.tx, 3, none⟩ = some (.bool en0) := by rw [← hen]; exact (HS2.out.tn a.tx HKT.out).2.cell rfl
    have c1 : w2.cell? ⟨w.heap.size, 1, none⟩ = some (.int .i64 a.kd) := HK2.out.cell rfl
    cases en0
    · by_cases h1 : a.kd = 1
      · obtain rfl : R = false := by rw [← HR.out, okA_eq, HKT.out]; simp [h1]
        go_wp2_with fail
        go_ret
        exact ⟨rfl, HB02.out.mono hB, fun h => by cases h⟩
      · have HN1 : Hid (¬ a.kd = 1) := h1
        have HG : Hid (GoO w w2 B w.heap.size H s a q d R H s) := ⟨HS2.out, rfl, HK2.out, HKT.out, by have := HFM.out.2; omega, by rw [← HR.out, okA_eq, HFM.out.1, hen]; simp [h1], fun _ _ h => h, HB02.out.mono hB, Nat.le_trans hB HB02.out.size, hen⟩
        clear hen HS2 HK2 HB02
        go_upto_region 7 with fail
        clear c1 c3 h1
        have c1 : w2.cell? ⟨w.heap.size, 1, none⟩ = some (.int .i64 a.kd) := HG.out.box.cell rfl
        have hfm := HFM.out.1
        have hkds : (1 ≤ a.kd ∧ a.kd ≤ 6) := by
          unfold fmB at hfm
          simp only [Bool.and_eq_true, decide_eq_true_eq] at hfm
          exact ⟨hfm.1.1.1.1.1.1, hfm.1.1.1.1.1.2⟩
        clear hfm
        have h1 : ¬ a.kd = 1 := HN1.out
        by_cases h2 : a.kd = 2
        · have hk1 : a.kd = 2 := h2
          have HKD : Hid (a.kd = 2) := h2
          rw [h2] at c1
          have d2 : w2.cell? ⟨w.heap.size, 2, none⟩ = some (.string a.it) := HG.out.box.cell rfl
          have d3 : w2.cell? ⟨w.heap.size, 3, none⟩ = some (.int .i64 a.fr) := HG.out.box.cell rfl
          have d4 : w2.cell? ⟨w.heap.size, 4, none⟩ = some (.int .i64 a.nt) := HG.out.box.cell rfl
          have HRV : Hid (R = thB H a.tx ⟨a.it, a.fr, a.nt⟩) := by
            show _ = _
            rw [HG.out.res]
            unfold resB
            simp [hk1]
          have CC := addRead_any B H s a w2 HG.out.st HG.out.siz HG.out.kn hk1 HG.out.len
          rw [HG.out.hb] at CC
          dsimp only [ptr1, aggS, aggA] at CC
          clear h2 hk1 hkds
          go_wp2_with fail
          refine CC.mono ?_
          clear CC c1 d2 d3 d4
          rintro e w6 ⟨rfl, hb6, hs6⟩
          have HE : Hid (Below B w w6 ∧ (R = true → ∃ s' : Hv, St w6 B (H ++ [a]) s' ∧ s'.hb = s.hb)) := ⟨HG.out.bel.trans hb6, fun hr => by
            obtain ⟨s', h1, h2⟩ := hs6 (by rw [← HRV.out]; exact hr)
            exact ⟨s', HG.out.back _ _ h1, h2⟩⟩
          clear hb6 hs6 HG
          go_wp2_with fail
          go_ret
          exact ⟨by rw [HRV.out]; first | done | rfl, HE.out.1, HE.out.2⟩
        by_cases h3 : a.kd = 3
        · have hk1 : a.kd = 3 := h3
          have HKD : Hid (a.kd = 3) := h3
          have t1 : (a.kd == 1) = false := by simp [hk1]
          have t2 : (a.kd == 2) = false := by simp [hk1]
          have t3 : (a.kd == 3) = true := by simp [hk1]
          have d0 : w2.cell? ⟨w.heap.size, 0, none⟩ = some (.int .i64 a.tx) := HG.out.box.cell rfl
          have d2 : w2.cell? ⟨w.heap.size, 2, none⟩ = some (.string a.it) := HG.out.box.cell rfl
          have d3 : w2.cell? ⟨w.heap.size, 3, none⟩ = some (.int .i64 a.fr) := HG.out.box.cell rfl
          have d4 : w2.cell? ⟨w.heap.size, 4, none⟩ = some (.int .i64 a.nt) := HG.out.box.cell rfl
          have d5 : w2.cell? ⟨w.heap.size, 5, none⟩ = some (.string a.lo) := HG.out.box.cell rfl
          have d6 : w2.cell? ⟨w.heap.size, 6, none⟩ = some (.string a.hi) := HG.out.box.cell rfl
          have d7 : w2.cell? ⟨w.heap.size, 7, none⟩ = some (.bool a.op) := HG.out.box.cell rfl
          have d8 : w2.cell? ⟨w.heap.size, 8, none⟩ = some (.slice q a.sn.length d) := HG.out.box.cell rfl
          have d9 : w2.cell? ⟨w.heap.size, 9, none⟩ = some (.int .u64 (a.st : Nat)) := HG.out.box.cell rfl
          have HRV : Hid (R = scnB H a) := by
            show _ = _
            rw [HG.out.res]
            unfold resB
            simp [hk1]
          have CC := addScan_any B H s a (.slice q a.sn.length d) w2 HG.out.st HG.out.siz HG.out.kn hk1 HG.out.len (HSN.out.1.on HG.out.bel) HSN.out.2
          rw [HG.out.hb] at CC
          dsimp only [ptr1, aggS, aggA] at CC
          clear h3 hk1 hkds
          go_wp2_with fail
          refine CC.mono ?_
          clear CC c1 d0 d2 d3 d4 d5 d6 d7 d8 d9
          rintro e w6 ⟨rfl, hb6, hs6⟩
          have HE : Hid (Below B w w6 ∧ (R = true → ∃ s' : Hv, St w6 B (H ++ [a]) s' ∧ s'.hb = s.hb)) := ⟨HG.out.bel.trans hb6, fun hr => by
            obtain ⟨s', h1, h2⟩ := hs6 (by rw [← HRV.out]; exact hr)
            exact ⟨s', HG.out.back _ _ h1, h2⟩⟩
          clear hb6 hs6 HG
          go_wp2_with fail
          go_ret
          exact ⟨by rw [HRV.out]; first | done | rfl, HE.out.1, HE.out.2⟩
        by_cases h4 : a.kd = 4
        · have hk1 : a.kd = 4 := h4
          have HKD : Hid (a.kd = 4) := h4
          rw [h4] at c1
          have d2 : w2.cell? ⟨w.heap.size, 2, none⟩ = some (.string a.it) := HG.out.box.cell rfl
          have HRV : Hid (R = true) := by
            show _ = _
            rw [HG.out.res]
            unfold resB
            simp [hk1]
          have CC := addWrite_any B H s a w2 HG.out.st HG.out.siz HG.out.kn hk1 HG.out.en HG.out.len
          rw [HG.out.hb] at CC
          dsimp only [ptr1, aggS, aggA] at CC
          clear h4 hk1 hkds
          go_wp2_with fail
          refine CC.mono ?_
          clear CC c1 d2
          rintro e w6 ⟨rfl, hb6, s', hs1, hs2⟩
          have HE : Hid (Below B w w6 ∧ ∃ s' : Hv, St w6 B (H ++ [a]) s' ∧ s'.hb = s.hb) := ⟨HG.out.bel.trans hb6, s', HG.out.back _ _ hs1, hs2⟩
          clear hb6 hs1 hs2 HG
          go_wp2_with fail
          go_ret
          exact ⟨by rw [HRV.out]; first | done | rfl, HE.out.1, fun _ => HE.out.2⟩
        by_cases h5 : a.kd = 5
        · have hk1 : a.kd = 5 := h5
          have HKD : Hid (a.kd = 5) := h5
          rw [h5] at c1
          have d9 : w2.cell? ⟨w.heap.size, 9, none⟩ = some (.int .u64 (a.st : Nat)) := HG.out.box.cell rfl
          have HRV : Hid (R = decide (lst H < a.st)) := by
            show _ = _
            rw [HG.out.res]
            unfold resB
            simp [hk1]
          have CC := addCommit_any B H s a w2 HG.out.st HG.out.siz HG.out.kn hk1 HG.out.len
          rw [HG.out.hb] at CC
          dsimp only [ptr1, aggS, aggA] at CC
          clear h5 hk1 hkds
          go_wp2_with fail
          refine CC.mono ?_
          clear CC c1 d9
          rintro e w6 ⟨rfl, hb6, hs6⟩
          have HE : Hid (Below B w w6 ∧ (R = true → ∃ s' : Hv, St w6 B (H ++ [a]) s' ∧ s'.hb = s.hb)) := ⟨HG.out.bel.trans hb6, fun hr => by
            obtain ⟨s', h1, h2⟩ := hs6 (by rw [HRV.out] at hr; simpa using hr)
            exact ⟨s', HG.out.back _ _ h1, h2⟩⟩
          clear hb6 hs6 HG
          go_wp2_with fail
          go_ret
          exact ⟨by rw [HRV.out]; first | done | rfl, HE.out.1, HE.out.2⟩
        have hk6 : a.kd = 6 := by omega
        have HKD : Hid (a.kd = 6) := hk6
        rw [hk6] at c1
        obtain rfl : R = true := by rw [HG.out.res]; unfold resB; simp [hk6]
        have z0 : w2.cell? ⟨s.pt a.tx, 3, none⟩ = some (.bool (en H a.tx)) := (HG.out.st.tn a.tx HG.out.kn).2.cell (i := 3) rfl
        have f0 := (HG.out.st.tn a.tx HG.out.kn).2.frozen 3
        clear h1 h2 h3 h4 h5 hk6 hkds
        go_wp2_with fail
        clear z0 f0 c1
        go_ret
        have HP5 : Blk (w2.setCell ⟨s.pt a.tx, 3, none⟩ (.bool true)) (s.pt a.tx) ((Hv.tcells s H a.tx).setIfInBounds 3 (.bool true)) 101 := (HG.out.st.tn a.tx HG.out.kn).2.set 3 _
        have HF5 : Frm w2 (w2.setCell ⟨s.pt a.tx, 3, none⟩ (.bool true)) (one1 (s.pt a.tx)) := frm_set w2 (s.pt a.tx) 3 _ (.inl rfl)
        have hM := HG.out.st.mark (a := a) (t := a.tx) HG.out.siz HG.out.kn rfl (.inr HKD.out) HF5 (by
          have e1 : bg (H ++ [a]) a.tx = bg H a.tx := bg_keep _ (.inl (by rw [HKD.out]; decide))
          have e2 : en (H ++ [a]) a.tx = true := by rw [en_snoc]; simp [HKD.out]
          have e3 : snp (H ++ [a]) a.tx = snp H a.tx := st_keep _ (.inl (by rw [HKD.out]; decide))
          have e4 : cm (H ++ [a]) a.tx = cm H a.tx := st_keep _ (.inl (by rw [HKD.out]; decide))
          rw [e1, e2, e3, e4]
          exact HP5)
        exact ⟨rfl, HG.out.bel.trans hM.2, _, HG.out.back _ _ hM.1, HG.out.hb⟩
    · obtain rfl : R = false := by rw [← HR.out, okA_eq, hen]; simp
      go_wp2_with fail
      go_ret
      exact ⟨rfl, HB02.out.mono hB, fun h => by cases h⟩

end Go.Proofs.YtncfejndmlcidaaGreat
