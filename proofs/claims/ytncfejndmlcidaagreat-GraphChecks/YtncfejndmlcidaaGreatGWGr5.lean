/- Layer 19: addScan. Layer 19: a transaction that is new to a history; a begin, an abort. -/
import Derived.Test.YtncfejndmlcidaaGreatGWBsS
import Derived.Test.YtncfejndmlcidaaGreatGWGr6
namespace Go.Proofs.YtncfejndmlcidaaGreat
open Go.RowKit
set_option maxRecDepth 100000

abbrev sw0 : Sw := ⟨⟨#[]⟩, 0, 0⟩
/-- may the k-th version be told by a scan? -/
def scS (H : List Ac) (a : Ac) (i : Nat) : Bool := (i == 0 || ltB (a.sn.getD (i - 1) sw0).it (a.sn.getD i sw0).it) && inR a (a.sn.getD i sw0).it && thB H a.tx (a.sn.getD i sw0)
theorem scB_succ (H : List Ac) (a : Ac) (k : Nat) : scB H a (k + 1) = (scB H a k && scS H a k) := by
  unfold scB
  rw [List.range_succ, List.all_append]
  simp [scS]
theorem scB_no (H : List Ac) (a : Ac) (k n : Nat) (hk : k < n) (h : scS H a k = false) : scB H a n = false := by
  unfold scB
  rw [List.all_eq_false]
  exact ⟨k, List.mem_range.2 hk, by simpa [scS] using h⟩
/-- may a scan be? -/
def scnB (H : List Ac) (a : Ac) : Bool := scB H a a.sn.length && decide (((its H a.tx).filter (inR a)).length ≤ a.sn.countP (fun s => s.fr == a.tx))
theorem countP_take_succ {α : Type} (p : α → Bool) (L : List α) (k : Nat) (hk : k < L.length) : (L.take (k + 1)).countP p = (L.take k).countP p + (if p L[k] then 1 else 0) := by
  rw [← List.take_append_getElem hk, countP_snoc]
/-- a scan -/
theorem St.scan {w w' : World} {B : Nat} {H : List Ac} {s : Hv} {a : Ac} {t : Int} {v va : Value} (h : St w B H s) (hB : B ≤ w.heap.size) (ht : kn H t = true) (htx : a.tx = t) (hkd : a.kd = 3) (hf : Frm w w' (fun k => k = s.pt t ∨ (s.vs t).ownBlock = some k)) (hsn : SlG encS 3 B w va a.sn)
    (hblk : Blk w' (s.pt t) ((s.tcells H t).setIfInBounds 8 v) 101) (ho : OwnG encA 10 51 w' B v (s.Sc t ++ [(a, va)])) (hat : v.ownBlock = (s.vs t).ownBlock ∨ v.ownBlock = some w.heap.size) :
    St w' B (H ++ [a]) { s with vs := updF s.vs t v, Sc := updF s.Sc t (s.Sc t ++ [(a, va)]) } ∧ Below B w w' := by
  have hT : Frm w w' (Tch w B (s.pt t)) := hf.mono (fun k hk => .inl (by
    rcases hk with rfl | e
    · exact ⟨(h.tn t ht).1, .inl rfl⟩
    · obtain ⟨h1, cur, h2⟩ := (h.fs.own t).blk e
      exact ⟨h1, .inr ⟨cur, _, h2, .inr (.inr rfl)⟩⟩))
  have hbel : Below B w w' := hT.below hB (fun k hk => hk.f.1)
  have hk1 : a.kd ≠ 1 := by omega
  have hk2 : a.kd ≠ 2 := by omega
  have hk4 : a.kd ≠ 4 := by omega
  have hk5 : a.kd ≠ 5 := by omega
  have hk6 : a.kd ≠ 6 := by omega
  have hi : its (H ++ [a]) = its H := by funext u; exact its_keep _ (.inl hk4)
  have hr : rds (H ++ [a]) = rds H := by funext u; exact rds_keep _ (.inl hk2)
  refine ⟨h.upd t ht s.vi s.vr (updF s.vs t v) (updF s.Sc t (s.Sc t ++ [(a, va)])) hT ?_ ?_ ?_ ?_ ?_ ?_ ?_ ?_ ?_ ?_, hbel⟩
  · rw [bg_keep _ (.inl hk1), en_keep _ (.inl ⟨hk5, hk6⟩), show snp (H ++ [a]) t = snp H t from st_keep _ (.inl hk1), show cm (H ++ [a]) t = cm H t from st_keep _ (.inl hk5), updF_same]
    exact hblk
  · rw [hi]
    exact h.fi.other hf (h.tn t ht).2 (h.fs.own t) (by decide) (by decide)
  · rw [hr]
    exact h.fr.other hf (h.tn t ht).2 (h.fs.own t) (by decide) (by decide)
  · refine h.fs.put t ho (fun g hg hne hc => hf.block g hg (fun hc2 => ?_)) (hat.elim .inl (fun e => .inr (.inr ⟨_, e, Nat.le_refl _⟩)))
    rcases hc2 with rfl | e
    · obtain ⟨cur, hc⟩ := hc
      have h3 : w.heap[s.pt t]? = _ := (h.tn t ht).2
      rw [hc] at h3
      cases h3
    · exact hne e
  · intro u
    by_cases hu : u = t
    · subst hu
      rw [updF_same, scs_snoc, if_pos ⟨htx, hkd⟩, List.map_append, h.sc]
      rfl
    · rw [updF_other _ _ hu, scs_keep _ (.inr (by rw [htx]; exact Ne.symm hu))]
      exact h.sc u
  · intro u z hz
    by_cases hu : u = t
    · subst hu
      rw [updF_same] at hz
      rcases List.mem_append.1 hz with hz | hz
      · exact (h.sn u z hz).on hbel
      · rw [List.mem_singleton] at hz
        subst hz
        exact hsn.on hbel
    · rw [updF_other _ _ hu] at hz
      exact (h.sn u z hz).on hbel
  · exact fun u hu => ⟨rfl, rfl, updF_other _ _ hu, bg_keep _ (.inl hk1), en_keep _ (.inl ⟨hk5, hk6⟩), st_keep _ (.inl hk1), st_keep _ (.inl hk5)⟩
  · exact fun u => kn_keep _ (by rw [htx]; exact ht) u
  · exact fun u x => wr_keep _ (.inl hk4)
  · exact cms_keep _ hk5
theorem encA_one (z : Ac × Value) (hz : z.2.oneCell' = true) : ∀ u ∈ encA z, u.oneCell' = true := by
  intro u hu
  simp only [encA, List.mem_cons, List.not_mem_nil, or_false] at hu
  rcases hu with rfl | rfl | rfl | rfl | rfl | rfl | rfl | rfl | rfl | rfl
  all_goals first | rfl | exact hz
set_option maxHeartbeats 8000000 in
theorem addScan_any (B : Nat) (H : List Ac) (s : Hv) (a : Ac) (va : Value) (w : World) (hS : St w B H s) (hB : B ≤ w.heap.size) (ht : kn H a.tx = true) (hkd : a.kd = 3) (hlen : H.length ≤ 4096) (hsn : SlG encS 3 B w va a.sn) (hll : a.sn.length ≤ 4398046511104) :
    Calls Tryz.prog 65 #[ptr1 s.hb, ptr1 (s.pt a.tx), aggA a va] w fun e w' => e = .returned (.bool (scnB H a)) ∧ Below B w w' ∧ (scnB H a = true → ∃ s' : Hv, St w' B (H ++ [a]) s' ∧ s'.hb = s.hb) := by
  obtain ⟨q, d, rfl, hnd, _, _⟩ := hsn.f
  have HSN : Hid (SlG encS 3 B w (.slice q a.sn.length d) a.sn) := hsn
  obtain ⟨t, et⟩ : ∃ t, a.tx = t := ⟨_, rfl⟩
  have HT : Hid (kn H t = true) := by rw [← et]; exact ht
  have HS0 : Hid (St w B H s) := hS
  have HA : Hid (a.tx = t ∧ a.kd = 3 ∧ H.length ≤ 4096) := ⟨et, hkd, hlen⟩
  obtain ⟨R, hR⟩ : ∃ R, scnB H a = R := ⟨_, rfl⟩
  have HR : Hid (scnB H a = R) := hR
  obtain ⟨w1, hw1⟩ : ∃ w1, w.alloc (.cells #[.int .i64 a.tx, .int .i64 a.kd, .string a.it, .int .i64 a.fr, .int .i64 a.nt, .string a.lo, .string a.hi, .bool a.op, .slice q a.sn.length d, .int .u64 (a.st : Nat)] 51) = w1 := ⟨_, rfl⟩
  have HB1 : Hid (Below w.heap.size w w1) := by rw [← hw1]; exact (Below.refl _ _).alloc (Nat.le_refl _) _
  have HK1 : Hid (Blk w1 w.heap.size #[.int .i64 a.tx, .int .i64 a.kd, .string a.it, .int .i64 a.fr, .int .i64 a.nt, .string a.lo, .string a.hi, .bool a.op, .slice q a.sn.length d, .int .u64 (a.st : Nat)] 51) := by rw [← hw1]; exact Blk.new w _ _
  have k8 := HK1.out.cell (i := 8) rfl
  have hpt : s.pt a.tx = s.pt t := by rw [et]
  rw [hR, hpt]
  clear hpt hR hS hsn ht hkd hlen et
  dsimp only [ptr1, aggA]
  go_enter Tryz.func65, Tryz.ntmps65
  go_wp2_with fail
  clear k8
  have HBw1 : Hid (Below w1.heap.size w1 w1) := Below.refl _ _
  clear hw1
  go_loopw [7, 16] (fun ow ix wr => ∃ k : Nat, ix = .int .i64 (k : Int) ∧ ow = .int .i64 (((a.sn.take k).countP (fun s => s.fr == t) : Nat) : Int) ∧ k ≤ a.sn.length ∧ Hid (scB H a k = true) ∧ Hid (Below w1.heap.size w1 wr)) (fun _ ix _ => a.sn.length - (intOf ix).toNat)
  case atStart => exact ⟨0, by go_num, by simp, Nat.zero_le _, rfl, HBw1.out⟩
  case round =>
    obtain ⟨k, rfl, rfl, hk, HO, HBr⟩ := hrel
    by_cases hk0 : k = a.sn.length
    · subst hk0
      clear hk
      have hBr : B ≤ wr.heap.size := Nat.le_trans hB (Nat.le_trans HB1.out.size HBr.out.size)
      have HB0r : Hid (Below w.heap.size w wr) := HB1.out.trans (HBr.out.mono HB1.out.size)
      have HSr : Hid (St wr B H s) := HS0.out.on hB HB0r.out
      have HKr : Hid (Blk wr w.heap.size #[.int .i64 a.tx, .int .i64 a.kd, .string a.it, .int .i64 a.fr, .int .i64 a.nt, .string a.lo, .string a.hi, .bool a.op, .slice q a.sn.length d, .int .u64 (a.st : Nat)] 51) := HK1.out.on HBr.out
      have HSNr : Hid (SlG encS 3 B wr (.slice q a.sn.length d) a.sn) := HSN.out.on (HB0r.out.mono hB)
      clear HK1
      have HBwr : Hid (Below wr.heap.size wr wr) := Below.refl _ _
      have HF : Hid (∀ w' : World, Below wr.heap.size wr w' → w'.cell? ⟨s.pt t, 6, none⟩ = some (s.vi t) ∧ w'.cell? ⟨w.heap.size, 5, none⟩ = some (.string a.lo) ∧ w'.cell? ⟨w.heap.size, 6, none⟩ = some (.string a.hi) ∧ w'.cell? ⟨w.heap.size, 7, none⟩ = some (.bool a.op)) := fun w' h =>
        ⟨((HSr.out.on hBr h).tn t HT.out).2.cell rfl, (HKr.out.on h).cell rfl, (HKr.out.on h).cell rfl, (HKr.out.on h).cell rfl⟩
      have HI : Hid ((its H t).length ≤ 4096) := Nat.le_trans (its_len t H) HA.out.2.2
      obtain ⟨f0, hf0⟩ : ∃ f0, wiF a.lo (its H t) = f0 := ⟨_, rfl⟩
      obtain ⟨n0, hn0⟩ : ∃ n0, wiN a.lo a.hi a.op (its H t) = n0 := ⟨_, rfl⟩
      have HC : Hid (∀ p : InB wr, Calls Tryz.prog 99 #[s.vi t, .agg #[.string a.lo, .string a.hi, .bool a.op]] p.w' fun e w' => e = .returned (.tuple #[.int .i64 (f0 : Nat), .int .i64 ((f0 + n0 : Nat) : Int)]) ∧ Below p.w'.heap.size p.w' w') := fun p => by
        rw [← hf0, ← hn0]
        exact within_det a.lo a.hi a.op (s.vi t) (its H t) (its_ris t H) (by have := HI.out; omega) p.w' (((HSr.out.on hBr p.h).fi.own t).sl (fun _ => rfl))
      have HN : Hid (f0 ≤ 4096 ∧ n0 ≤ 4096 ∧ ((its H a.tx).filter (inR a)).length = n0) := by
        have h1 := wiFN_le a.lo a.hi a.op (its H t)
        have h2 := HI.out
        rw [hf0, hn0] at h1
        refine ⟨by omega, by omega, ?_⟩
        rw [HA.out.1, ← hn0]
        rfl
      obtain ⟨c0, hc0⟩ : ∃ c0, a.sn.countP (fun s => s.fr == t) = c0 := ⟨_, rfl⟩
      have HCN : Hid (a.sn.countP (fun s => s.fr == a.tx) = c0) := by
        rw [← hc0, HA.out.1]
        rfl
      rw [List.take_of_length_le (Nat.le_refl _), hc0]
      clear hf0 hn0 hc0
      go_upto_region 11 with fail
      haveI := inB_ne wr
      have f0 := fun p : InB wr => (HF.out p.w' (HBwr.out.trans (p.h.mono HBwr.out.size))).1
      have f1 := fun p : InB wr => (HF.out p.w' (HBwr.out.trans (p.h.mono HBwr.out.size))).2.1
      have f2 := fun p : InB wr => (HF.out p.w' (HBwr.out.trans (p.h.mono HBwr.out.size))).2.2.1
      have f3 := fun p : InB wr => (HF.out p.w' (HBwr.out.trans (p.h.mono HBwr.out.size))).2.2.2
      refine wp_region_inB (by kernel_rfl) (by kernel_rfl) ?_
      repeat (go_big_quiet_step (first | (go_at_call 99; exact Calls.inB (HC.out _))))
      refine wpQuiet_nil ?_
      rintro w2 ⟨⟨w2', hb9⟩, h9⟩
      obtain rfl : w2 = w2' := h9
      have HBw2 : Hid (Below wr.heap.size wr w2) := HBwr.out.trans (hb9.mono HBwr.out.size)
      clear hb9 f0 f1 f2 f3
      have HK2 : Hid (Blk w2 w.heap.size #[.int .i64 a.tx, .int .i64 a.kd, .string a.it, .int .i64 a.fr, .int .i64 a.nt, .string a.lo, .string a.hi, .bool a.op, .slice q a.sn.length d, .int .u64 (a.st : Nat)] 51) := HKr.out.on HBw2.out
      have HSN2 : Hid (SlG encS 3 B w2 (.slice q a.sn.length d) a.sn) := HSNr.out.on (HBw2.out.mono hBr)
      have HB02 : Hid (Below w.heap.size w w2) := HB0r.out.trans (HBw2.out.mono HB0r.out.size)
      have hsub : wrap64 ((f0 : Int) + (n0 : Int) - (f0 : Int)) = (n0 : Int) := by have := HN.out; simp only [wrap64]; omega
      by_cases hlt : c0 < n0
      · have hlt' : (c0 : Int) < (n0 : Int) := by omega
        obtain rfl : R = false := by rw [← HR.out]; unfold scnB; rw [HN.out.2.2, HCN.out, decide_eq_false (by omega), Bool.and_false]
        clear hlt
        go_wp2_with fail
        go_ret
        exact ⟨rfl, HB02.out.mono hB, fun h => by cases h⟩
      · have hlt' : ¬ (c0 : Int) < (n0 : Int) := by omega
        obtain rfl : R = true := by rw [← HR.out]; unfold scnB; rw [HN.out.2.2, HCN.out, decide_eq_true (by omega), HO.out]; rfl
        clear hlt HKr HSNr HC HF
        go_upto_region 14 with fail
        refine wp_region_L (fun w' => Blk w' (s.pt t) (s.tcells H t) 101 ∧ Blk w' w.heap.size #[.int .i64 a.tx, .int .i64 a.kd, .string a.it, .int .i64 a.fr, .int .i64 a.nt, .string a.lo, .string a.hi, .bool a.op, .slice q a.sn.length d, .int .u64 (a.st : Nat)] 51) 10 (by kernel_rfl) ?_
        have HKd : Hid (Blk w2.drew w.heap.size #[.int .i64 a.tx, .int .i64 a.kd, .string a.it, .int .i64 a.fr, .int .i64 a.nt, .string a.lo, .string a.hi, .bool a.op, .slice q a.sn.length d, .int .u64 (a.st : Nat)] 51) := HK2.out.drew
        have HBwd : Hid (Below w.heap.size w w2.drew) := HB02.out.drew
        clear HK2 hlt' hsub
        generalize w2.drew = wd at *
        have HSd : Hid (St wd B H s) := HS0.out.on hB HBwd.out
        have HPd : Hid (Blk wd (s.pt t) (s.tcells H t) 101) := (HSd.out.tn t HT.out).2
        have HLS : Hid ((s.Sc t).length ≤ 4096) := by
          have h1 := congrArg List.length (HS0.out.sc t)
          rw [List.length_map] at h1
          have h2 := scs_len H t
          have h3 := HA.out.2.2
          show _ ≤ _
          omega
        refine wpL_take (v := ?_) 0 rfl (by kernel_rfl) (fun _ _ _ h => h) (by rfl) ?_ ⟨HPd.out, HKd.out⟩ ?_
        rotate_left
        focus
          intro w9 hw9
          have a0 := hw9.1.cell (i := 8) rfl
          have b0 := hw9.2.cell (i := 0) rfl
          have b1 := hw9.2.cell (i := 1) rfl
          have b2 := hw9.2.cell (i := 2) rfl
          have b3 := hw9.2.cell (i := 3) rfl
          have b4 := hw9.2.cell (i := 4) rfl
          have b5 := hw9.2.cell (i := 5) rfl
          have b6 := hw9.2.cell (i := 6) rfl
          have b7 := hw9.2.cell (i := 7) rfl
          have b8 := hw9.2.cell (i := 8) rfl
          have b9 := hw9.2.cell (i := 9) rfl
          go_simp
          try with_reducible rfl
        try simp only [Act.put, List.setIfInBounds_toArray, List.set_cons_zero, List.set_cons_succ]
        refine wpL_take (v := ?_) 1 rfl (by kernel_rfl) (fun _ _ _ h => h) (by rfl) ?_ ⟨HPd.out, HKd.out⟩ ?_
        rotate_left
        focus
          intro w9 hw9
          have a0 := hw9.1.cell (i := 8) rfl
          have b0 := hw9.2.cell (i := 0) rfl
          have b1 := hw9.2.cell (i := 1) rfl
          have b2 := hw9.2.cell (i := 2) rfl
          have b3 := hw9.2.cell (i := 3) rfl
          have b4 := hw9.2.cell (i := 4) rfl
          have b5 := hw9.2.cell (i := 5) rfl
          have b6 := hw9.2.cell (i := 6) rfl
          have b7 := hw9.2.cell (i := 7) rfl
          have b8 := hw9.2.cell (i := 8) rfl
          have b9 := hw9.2.cell (i := 9) rfl
          go_simp
          try with_reducible rfl
        try simp only [Act.put, List.setIfInBounds_toArray, List.set_cons_zero, List.set_cons_succ]
        refine wpL_take (v := ?_) 2 rfl (by kernel_rfl) (fun _ _ _ h => h) (by rfl) ?_ ⟨HPd.out, HKd.out⟩ ?_
        rotate_left
        focus
          intro w9 hw9
          have a0 := hw9.1.cell (i := 8) rfl
          have b0 := hw9.2.cell (i := 0) rfl
          have b1 := hw9.2.cell (i := 1) rfl
          have b2 := hw9.2.cell (i := 2) rfl
          have b3 := hw9.2.cell (i := 3) rfl
          have b4 := hw9.2.cell (i := 4) rfl
          have b5 := hw9.2.cell (i := 5) rfl
          have b6 := hw9.2.cell (i := 6) rfl
          have b7 := hw9.2.cell (i := 7) rfl
          have b8 := hw9.2.cell (i := 8) rfl
          have b9 := hw9.2.cell (i := 9) rfl
          go_simp
          try with_reducible rfl
        try simp only [Act.put, List.setIfInBounds_toArray, List.set_cons_zero, List.set_cons_succ]
        refine wpL_take (v := ?_) 3 rfl (by kernel_rfl) (fun _ _ _ h => h) (by rfl) ?_ ⟨HPd.out, HKd.out⟩ ?_
        rotate_left
        focus
          intro w9 hw9
          have a0 := hw9.1.cell (i := 8) rfl
          have b0 := hw9.2.cell (i := 0) rfl
          have b1 := hw9.2.cell (i := 1) rfl
          have b2 := hw9.2.cell (i := 2) rfl
          have b3 := hw9.2.cell (i := 3) rfl
          have b4 := hw9.2.cell (i := 4) rfl
          have b5 := hw9.2.cell (i := 5) rfl
          have b6 := hw9.2.cell (i := 6) rfl
          have b7 := hw9.2.cell (i := 7) rfl
          have b8 := hw9.2.cell (i := 8) rfl
          have b9 := hw9.2.cell (i := 9) rfl
          go_simp
          try with_reducible rfl
        try simp only [Act.put, List.setIfInBounds_toArray, List.set_cons_zero, List.set_cons_succ]
        refine wpL_take (v := ?_) 4 rfl (by kernel_rfl) (fun _ _ _ h => h) (by rfl) ?_ ⟨HPd.out, HKd.out⟩ ?_
        rotate_left
        focus
          intro w9 hw9
          have a0 := hw9.1.cell (i := 8) rfl
          have b0 := hw9.2.cell (i := 0) rfl
          have b1 := hw9.2.cell (i := 1) rfl
          have b2 := hw9.2.cell (i := 2) rfl
          have b3 := hw9.2.cell (i := 3) rfl
          have b4 := hw9.2.cell (i := 4) rfl
          have b5 := hw9.2.cell (i := 5) rfl
          have b6 := hw9.2.cell (i := 6) rfl
          have b7 := hw9.2.cell (i := 7) rfl
          have b8 := hw9.2.cell (i := 8) rfl
          have b9 := hw9.2.cell (i := 9) rfl
          go_simp
          try with_reducible rfl
        try simp only [Act.put, List.setIfInBounds_toArray, List.set_cons_zero, List.set_cons_succ]
        refine wpL_take (v := ?_) 5 rfl (by kernel_rfl) (fun _ _ _ h => h) (by rfl) ?_ ⟨HPd.out, HKd.out⟩ ?_
        rotate_left
        focus
          intro w9 hw9
          have a0 := hw9.1.cell (i := 8) rfl
          have b0 := hw9.2.cell (i := 0) rfl
          have b1 := hw9.2.cell (i := 1) rfl
          have b2 := hw9.2.cell (i := 2) rfl
          have b3 := hw9.2.cell (i := 3) rfl
          have b4 := hw9.2.cell (i := 4) rfl
          have b5 := hw9.2.cell (i := 5) rfl
          have b6 := hw9.2.cell (i := 6) rfl
          have b7 := hw9.2.cell (i := 7) rfl
          have b8 := hw9.2.cell (i := 8) rfl
          have b9 := hw9.2.cell (i := 9) rfl
          go_simp
          try with_reducible rfl
        try simp only [Act.put, List.setIfInBounds_toArray, List.set_cons_zero, List.set_cons_succ]
        refine wpL_one 6 rfl (by kernel_rfl) (by rfl) ?_
        intro K hK
        go_simp
        have hal : Below wd.heap.size wd (wd.alloc (.cells #[.int .i64 a.tx, .int .i64 a.kd, .string a.it, .int .i64 a.fr, .int .i64 a.nt, .string a.lo, .string a.hi, .bool a.op, .slice q a.sn.length d, .int .u64 (a.st : Nat)] 51)) := (Below.refl _ _).alloc (Nat.le_refl _) _
        have HC3 : Hid (Blk (wd.alloc (.cells #[.int .i64 a.tx, .int .i64 a.kd, .string a.it, .int .i64 a.fr, .int .i64 a.nt, .string a.lo, .string a.hi, .bool a.op, .slice q a.sn.length d, .int .u64 (a.st : Nat)] 51)) wd.heap.size #[.int .i64 a.tx, .int .i64 a.kd, .string a.it, .int .i64 a.fr, .int .i64 a.nt, .string a.lo, .string a.hi, .bool a.op, .slice q a.sn.length d, .int .u64 (a.st : Nat)] 51) := Blk.new wd _ _
        have HS3 : Hid (St (wd.alloc (.cells #[.int .i64 a.tx, .int .i64 a.kd, .string a.it, .int .i64 a.fr, .int .i64 a.nt, .string a.lo, .string a.hi, .bool a.op, .slice q a.sn.length d, .int .u64 (a.st : Nat)] 51)) B H s) := HSd.out.on (Nat.le_trans hB HBwd.out.size) hal
        have HP3 : Hid (Blk (wd.alloc (.cells #[.int .i64 a.tx, .int .i64 a.kd, .string a.it, .int .i64 a.fr, .int .i64 a.nt, .string a.lo, .string a.hi, .bool a.op, .slice q a.sn.length d, .int .u64 (a.st : Nat)] 51)) (s.pt t) (s.tcells H t) 101) := HPd.out.on hal
        have HK3 : Hid (Blk (wd.alloc (.cells #[.int .i64 a.tx, .int .i64 a.kd, .string a.it, .int .i64 a.fr, .int .i64 a.nt, .string a.lo, .string a.hi, .bool a.op, .slice q a.sn.length d, .int .u64 (a.st : Nat)] 51)) w.heap.size #[.int .i64 a.tx, .int .i64 a.kd, .string a.it, .int .i64 a.fr, .int .i64 a.nt, .string a.lo, .string a.hi, .bool a.op, .slice q a.sn.length d, .int .u64 (a.st : Nat)] 51) := HKd.out.on hal
        have HB3 : Hid (Below w.heap.size w (wd.alloc (.cells #[.int .i64 a.tx, .int .i64 a.kd, .string a.it, .int .i64 a.fr, .int .i64 a.nt, .string a.lo, .string a.hi, .bool a.op, .slice q a.sn.length d, .int .u64 (a.st : Nat)] 51))) := HBwd.out.trans (hal.mono HBwd.out.size)
        clear hal HSd HPd HKd HBwd
        refine hK.out _ _ (fun _ => ⟨HP3.out, HK3.out⟩) ?_
        clear hK K
        try simp only [Act.put, List.setIfInBounds_toArray, List.set_cons_zero, List.set_cons_succ]
        generalize hgz : wd.heap.size = gz at *
        generalize wd.alloc (.cells #[.int .i64 a.tx, .int .i64 a.kd, .string a.it, .int .i64 a.fr, .int .i64 a.nt, .string a.lo, .string a.hi, .bool a.op, .slice q a.sn.length d, .int .u64 (a.st : Nat)] 51) = w3 at *
        clear hgz
        refine wpL_one 7 rfl (by kernel_rfl) (by rfl) ?_
        intro K hK
        refine wp_appG w3 (.tmp 81) (.tmp 83) 51 22 (.agg #[.int .i64 0, .int .i64 0, .string ⟨#[]⟩, .int .i64 0, .int .i64 0, .string ⟨#[]⟩, .string ⟨#[]⟩, .bool false, .slice none 0 0, .int .u64 0]) 120 rfl Tryz.underlying22 info_act rfl (by decide) (fun _ => rfl) B (s.vs t) (s.Sc t) (a, .slice q a.sn.length d) (encA_one _ rfl) (by rfl) (HS3.out.fs.own t) gz (by rfl) (fun j u hj => by
          have h0 : j = 0 ∨ j = 1 ∨ j = 2 ∨ j = 3 ∨ j = 4 ∨ j = 5 ∨ j = 6 ∨ j = 7 ∨ j = 8 ∨ j = 9 := by have h9 := (List.getElem?_eq_some_iff.1 hj).1; simp [encA] at h9; omega
          rcases h0 with rfl | rfl | rfl | rfl | rfl | rfl | rfl | rfl | rfl | rfl <;> (cases hj; exact HC3.out.cell rfl)) (by have h9 := HLS.out; omega) (by have h9 := HLS.out; omega) (Nat.le_trans hB HB3.out.size) ?_
        intro v4 w4 ho4 hg4 hat4
        have HP4 : Hid (Blk w4 (s.pt t) (s.tcells H t) 101) := HP3.out.grown hg4 (own_ne_blk (HS3.out.fs.own t) HP3.out (by decide))
        have HK4 : Hid (Blk w4 w.heap.size #[.int .i64 a.tx, .int .i64 a.kd, .string a.it, .int .i64 a.fr, .int .i64 a.nt, .string a.lo, .string a.hi, .bool a.op, .slice q a.sn.length d, .int .u64 (a.st : Nat)] 51) := HK3.out.grown hg4 (fun e => by have := (HS0.out.fs.own t).lt e.symm; omega)
        obtain ⟨q4, m4, d4, ev4⟩ := ho4.slc
        subst ev4
        have HO4 : Hid (OwnG encA 10 51 w4 B (.slice q4 m4 d4) (s.Sc t ++ [(a, .slice q a.sn.length d)]) ∧ w3.grownBy w4 (s.vs t).ownBlock ∧ ((Value.slice q4 m4 d4).ownBlock = (s.vs t).ownBlock ∨ (Value.slice q4 m4 d4).ownBlock = some w3.heap.size)) := ⟨ho4, hg4, hat4⟩
        clear ho4 hg4 hat4
        refine hK.out _ _ (fun _ => ⟨HP4.out, HK4.out⟩) ?_
        clear hK K
        try simp only [Act.put, List.setIfInBounds_toArray, List.set_cons_zero, List.set_cons_succ]
        refine wpL_one 8 rfl (by kernel_rfl) (by rfl) ?_
        intro K hK
        go_simp
        refine hK.out _ _ (fun _ => ⟨HP4.out, HK4.out⟩) ?_
        clear hK K
        try simp only [Act.put, List.setIfInBounds_toArray, List.set_cons_zero, List.set_cons_succ]
        refine wpL_one 9 rfl (by kernel_rfl) (by rfl) ?_
        intro K hK
        go_simp
        refine hK.out _ _ (fun _ => ⟨HP4.out, HK4.out⟩) ?_
        clear hK K
        try simp only [Act.put, List.setIfInBounds_toArray, List.set_cons_zero, List.set_cons_succ]
        refine wpL_one 10 rfl (by kernel_rfl) (by rfl) ?_
        intro K hK
        have z0 := HP4.out.cell (i := 8) rfl
        have f0 := HP4.out.frozen 8
        go_simp
        refine hK.out _ _ (fun h => absurd rfl h) ?_
        clear hK K
        try simp only [Act.put, List.setIfInBounds_toArray, List.set_cons_zero, List.set_cons_succ]
        refine wpL_done (by kernel_rfl) ?_ _
        try simp only [NoPanic]
        have HFS : Hid (Frm w3 (w4.setCell ⟨s.pt t, 8, none⟩ (.slice q4 m4 d4)) (fun k => k = s.pt t ∨ (s.vs t).ownBlock = some k) ∧ Blk (w4.setCell ⟨s.pt t, 8, none⟩ (.slice q4 m4 d4)) (s.pt t) ((s.tcells H t).setIfInBounds 8 (.slice q4 m4 d4)) 101 ∧ OwnG encA 10 51 (w4.setCell ⟨s.pt t, 8, none⟩ (.slice q4 m4 d4)) B (.slice q4 m4 d4) (s.Sc t ++ [(a, .slice q a.sn.length d)])) :=
          grown_set HS3.out.fs.own HP4.out HO4.out.1 HO4.out.2.1 8 (by decide)
        clear z0 f0 HK4 HP4
        generalize w4.setCell ⟨s.pt t, 8, none⟩ (.slice q4 m4 d4) = w5 at *
        go_wp2_with fail
        go_ret
        obtain ⟨e1, e3, e4⟩ := HA.out
        have hS5 := HS3.out.scan (Nat.le_trans hB HB3.out.size) HT.out e1 e3 HFS.out.1 (HSN.out.on (HB3.out.mono hB)) HFS.out.2.1 HFS.out.2.2 HO4.out.2.2
        exact ⟨rfl, (HB3.out.mono hB).trans hS5.2, ⟨_, hS5.1, rfl⟩⟩
    · have hk1 : k < a.sn.length := by omega
      clear hk hk0
      have hBr : B ≤ wr.heap.size := Nat.le_trans hB (Nat.le_trans HB1.out.size HBr.out.size)
      obtain ⟨q', d', eq', _, _, h3⟩ := (HSN.out.on ((HB1.out.trans (HBr.out.mono HB1.out.size)).mono hB)).f
      cases eq'
      obtain ⟨b, o, rfl, hbB, hc⟩ := h3 k hk1
      obtain ⟨x, hx⟩ : ∃ x, a.sn[k] = x := ⟨_, rfl⟩
      rw [hx] at hc
      have hg : a.sn.getD k sw0 = x := by simp [List.getD, hk1, hx]
      have HCN : Hid ((a.sn.take (k + 1)).countP (fun s => s.fr == t) = (a.sn.take k).countP (fun s => s.fr == t) + (if x.fr == t then 1 else 0)) := by
        show _ = _
        rw [countP_take_succ _ _ _ hk1, hx]
      obtain ⟨y, hy⟩ : ∃ y, (a.sn.getD (k - 1) sw0).it = y := ⟨_, rfl⟩
      obtain ⟨rs, hrs⟩ : ∃ rs, (k == 0 || ltB y x.it) = rs := ⟨_, rfl⟩
      obtain ⟨hs, hhs⟩ : ∃ hs, hasB a.lo a.hi a.op x.it = hs := ⟨_, rfl⟩
      obtain ⟨th, hth⟩ : ∃ th, thB H t x = th := ⟨_, rfl⟩
      have HSC : Hid (scS H a k = (rs && hs && th)) := by
        show _ = _
        unfold scS
        rw [hg, HA.out.1, hth, hy, hrs]
        show (_ && hasB a.lo a.hi a.op x.it && _) = _
        rw [hhs]
      have HY : Hid (∀ w' : World, Below B w w' → k ≠ 0 → w'.cell? ⟨b, o + (k - 1) * 3, none⟩ = some (.string y)) := fun w' hb hk0 => by
        obtain ⟨q', d', eq', _, _, h4⟩ := (HSN.out.on hb).f
        cases eq'
        obtain ⟨b', o', e', hb2, hc2⟩ := h4 (k - 1) (by omega)
        cases e'
        have h5 := hc2 0 _ rfl
        rw [Nat.add_zero] at h5
        rw [h5, ← hy]
        simp [List.getD, show k - 1 < a.sn.length by omega]
      have e0 := hc 0 _ rfl
      have e1 := hc 1 _ rfl
      have e2 := hc 2 _ rfl
      rw [Nat.add_zero] at e0
      have CH : Hid (∀ w5 : World, Calls Tryz.prog 98 #[rngV a.lo a.hi a.op, .string x.it] w5 fun e w' => e = .returned (.bool hs) ∧ Below w5.heap.size w5 w') := fun w5 => by rw [← hhs]; exact has_any a.lo a.hi a.op x.it w5
      have CM : Hid (∀ w5 : World, Below w.heap.size w w5 → Calls Tryz.prog 97 #[ptr1 s.hb, ptr1 (s.pt t), aggS x] w5 fun e w' => e = .returned (.bool th) ∧ Below w5.heap.size w5 w') := fun w5 h5 => by rw [← hth]; exact mayRead_any B H s t x w5 (HS0.out.on hB h5) (Nat.le_trans hB h5.size) HT.out
      obtain ⟨w2, hw2⟩ : ∃ w2, wr.alloc (.cells #[.string x.it, .int .i64 x.fr, .int .i64 x.nt] 53) = w2 := ⟨_, rfl⟩
      have HB02 : Hid (Below w.heap.size w w2) := by rw [← hw2]; exact (HB1.out.trans (HBr.out.mono HB1.out.size)).alloc (Nat.le_trans HB1.out.size HBr.out.size) _
      have HK2 : Hid (Blk w2 wr.heap.size #[.string x.it, .int .i64 x.fr, .int .i64 x.nt] 53) := by rw [← hw2]; exact Blk.new wr _ _
      have HA2 : Hid (Blk w2 w.heap.size #[.int .i64 a.tx, .int .i64 a.kd, .string a.it, .int .i64 a.fr, .int .i64 a.nt, .string a.lo, .string a.hi, .bool a.op, .slice (some ⟨b, o, none⟩) a.sn.length d, .int .u64 (a.st : Nat)] 51) := HK1.out.on (by
        rw [← hw2]
        exact HBr.out.alloc HBr.out.size _)
      have HBw2 : Hid (Below w2.heap.size w2 w2) := Below.refl _ _
      have HB12 : Hid (Below w1.heap.size w1 w2) := by rw [← hw2]; exact HBr.out.alloc HBr.out.size _
      have HF : Hid (∀ w' : World, Below w2.heap.size w2 w' → w'.cell? ⟨w.heap.size, 5, none⟩ = some (.string a.lo) ∧ w'.cell? ⟨w.heap.size, 6, none⟩ = some (.string a.hi) ∧ w'.cell? ⟨w.heap.size, 7, none⟩ = some (.bool a.op) ∧ w'.cell? ⟨w.heap.size, 8, none⟩ = some (.slice (some ⟨b, o, none⟩) a.sn.length d) ∧ w'.cell? ⟨wr.heap.size, 0, none⟩ = some (.string x.it) ∧ w'.cell? ⟨wr.heap.size, 1, none⟩ = some (.int .i64 x.fr) ∧ w'.cell? ⟨wr.heap.size, 2, none⟩ = some (.int .i64 x.nt) ∧ w'.cell? ⟨s.pt t, 0, none⟩ = some (.int .i64 t) ∧ (k ≠ 0 → w'.cell? ⟨b, o + (k - 1) * 3, none⟩ = some (.string y))) := fun w' h =>
        ⟨(HA2.out.on h).cell rfl, (HA2.out.on h).cell rfl, (HA2.out.on h).cell rfl, (HA2.out.on h).cell rfl, (HK2.out.on h).cell rfl, (HK2.out.on h).cell rfl, (HK2.out.on h).cell rfl, ((HS0.out.on hB (HB02.out.trans (h.mono HB02.out.size))).tn t HT.out).2.cell rfl, HY.out w' ((HB02.out.trans (h.mono HB02.out.size)).mono hB)⟩
      have a8 := (HK1.out.on HBr.out).cell (i := 8) rfl
      have hne : w.heap.size ≠ wr.heap.size := by have := HB1.out.size; have := HBr.out.size; have := HK1.out.lt; omega
      clear hc h3 hx hg hhs hth hy
      go_upto_region 5 with fail
      clear e0 e1 e2 a8 hw2
      cases rs
      · have hkz : k ≠ 0 := fun e => by rw [e] at hrs; simp at hrs
        have hlt : Op.bytesLess y.toList x.it.toList = false := by
          have h9 : (k == 0) = false := by simpa using hkz
          rw [h9, Bool.false_or] at hrs
          exact hrs
        have hk0' : ((k : Int) == 0) = false := by simp; omega
        have hsub : wrap64 ((k : Int) - 1) = ((k - 1 : Nat) : Int) := by simp only [wrap64]; omega
        have hin : ((k - 1 : Nat) : Int) < (a.sn.length : Int) := by omega
        obtain rfl : R = false := by rw [← HR.out]; unfold scnB; rw [scB_no H a k _ hk1 (by rw [HSC.out]; simp)]; rfl
        have f8 := fun p : InB w2 => (HF.out p.w' (HBw2.out.trans (p.h.mono HBw2.out.size))).2.2.2.2.2.2.2.2 hkz
        haveI := inB_ne w2
        have f3 := fun p : InB w2 => (HF.out p.w' (HBw2.out.trans (p.h.mono HBw2.out.size))).2.2.2.1
        have f4 := fun p : InB w2 => (HF.out p.w' (HBw2.out.trans (p.h.mono HBw2.out.size))).2.2.2.2.1
        refine wp_region_inB (by kernel_rfl) (by kernel_rfl) ?_
        repeat (go_big_quiet_step (fail))
        refine wpQuiet_nil ?_
        rintro w3 ⟨⟨w3', hb9⟩, h9⟩
        obtain rfl : w3 = w3' := h9
        have HBw3 : Hid (Below w2.heap.size w2 w3) := HBw2.out.trans (hb9.mono HBw2.out.size)
        clear hb9 f3 f4
        clear f8
        go_wp2_with fail
        go_ret
        exact ⟨rfl, (HB02.out.trans (HBw3.out.mono HB02.out.size)).mono hB, fun h => by cases h⟩
      · by_cases hkz : k = 0
        · have hk0' : ((k : Int) == 0) = true := by simp; omega
          haveI := inB_ne w2
          refine wp_region_inB (by kernel_rfl) (by kernel_rfl) ?_
          repeat (go_big_quiet_step (fail))
          refine wpQuiet_nil ?_
          rintro w3 ⟨⟨w3', hb9⟩, h9⟩
          obtain rfl : w3 = w3' := h9
          have HBw3 : Hid (Below w2.heap.size w2 w3) := HBw2.out.trans (hb9.mono HBw2.out.size)
          clear hb9
          clear hk0'
          have CH3 := CH.out w3
          have c5 := (HF.out w3 HBw3.out).1
          have c6 := (HF.out w3 HBw3.out).2.1
          have c7 := (HF.out w3 HBw3.out).2.2.1
          have d0 := (HF.out w3 HBw3.out).2.2.2.2.1
          have d1 := (HF.out w3 HBw3.out).2.2.2.2.2.1
          have d2 := (HF.out w3 HBw3.out).2.2.2.2.2.2.1
          dsimp only [rngV] at CH3
          go_wp2_with fail
          refine CH3.mono ?_
          rintro e w4 ⟨rfl, hb4⟩
          have HBw4 : Hid (Below w2.heap.size w2 w4) := HBw3.out.trans (hb4.mono HBw3.out.size)
          clear CH3 hb4 c5 c6 c7 d0 d1 d2
          cases hs
          · obtain rfl : R = false := by rw [← HR.out]; unfold scnB; rw [scB_no H a k _ hk1 (by rw [HSC.out]; simp)]; rfl
            go_wp2_with fail
            go_ret
            exact ⟨rfl, (HB02.out.trans (HBw4.out.mono HB02.out.size)).mono hB, fun h => by cases h⟩
          · have d0 := (HF.out w4 HBw4.out).2.2.2.2.1
            have d1 := (HF.out w4 HBw4.out).2.2.2.2.2.1
            have d2 := (HF.out w4 HBw4.out).2.2.2.2.2.2.1
            have CM4 := CM.out w4 (HB02.out.trans (HBw4.out.mono HB02.out.size))
            dsimp only [ptr1, aggS] at CM4
            go_wp2_with fail
            refine CM4.mono ?_
            rintro e w5 ⟨rfl, hb5⟩
            have HBw5 : Hid (Below w2.heap.size w2 w5) := HBw4.out.trans (hb5.mono HBw4.out.size)
            clear CM4 hb5 d0 d1 d2
            cases th
            · obtain rfl : R = false := by rw [← HR.out]; unfold scnB; rw [scB_no H a k _ hk1 (by rw [HSC.out]; simp)]; rfl
              go_wp2_with fail
              go_ret
              exact ⟨rfl, (HB02.out.trans (HBw5.out.mono HB02.out.size)).mono hB, fun h => by cases h⟩
            · have HO2 : Hid (scB H a (k + 1) = true) := by
                show _ = _
                rw [scB_succ, HO.out, HSC.out]
                rfl
              go_upto_region 8 with fail
              by_cases hft : x.fr = t
              · have hft' : (x.fr == t) = true := by simpa using hft
                have HCN2 : Hid ((a.sn.take (k + 1)).countP (fun s => s.fr == t) = (a.sn.take k).countP (fun s => s.fr == t) + 1) := by
                  have h9 := HCN.out
                  rw [hft', if_pos rfl] at h9
                  exact h9
                have hadd9 : wrap64 ((((a.sn.take k).countP (fun s => s.fr == t) : Nat) : Int) + 1) = (((a.sn.take (k + 1)).countP (fun s => s.fr == t) : Nat) : Int) := by
                  have h8 : (a.sn.take k).countP (fun s => s.fr == t) ≤ (a.sn.take k).length := List.countP_le_length
                  have h9 : (a.sn.take k).length ≤ a.sn.length := by rw [List.length_take]; omega
                  have h7 := HCN2.out
                  simp only [wrap64]
                  omega
                clear hft
                haveI := inB_ne w5
                have f5 := fun p : InB w5 => (HF.out p.w' (HBw5.out.trans (p.h.mono HBw5.out.size))).2.2.2.2.2.1
                have f7 := fun p : InB w5 => (HF.out p.w' (HBw5.out.trans (p.h.mono HBw5.out.size))).2.2.2.2.2.2.2.1
                refine wp_region_inB (by kernel_rfl) (by kernel_rfl) ?_
                repeat (go_big_quiet_step (fail))
                refine wpQuiet_nil ?_
                rintro w6 ⟨⟨w6', hb9⟩, h9⟩
                obtain rfl : w6 = w6' := h9
                have HBw6 : Hid (Below w2.heap.size w2 w6) := HBw5.out.trans (hb9.mono HBw5.out.size)
                clear hb9 f5 f7
                go_wp2_with fail
                go_roundw
                case rel => exact ⟨0 + 1, by go_num, by subst hkz; rw [HCN2.out]; rfl, by omega, (by subst hkz; exact HO2.out), (show Below w1.heap.size w1 w6 from HB12.out.trans (HBw6.out.mono (by have := HB12.out.size; omega)))⟩
                case measure => simp [intOf]; omega
              · have hft' : (x.fr == t) = false := by simpa using hft
                have HCN2 : Hid ((a.sn.take (k + 1)).countP (fun s => s.fr == t) = (a.sn.take k).countP (fun s => s.fr == t)) := by
                  have h9 := HCN.out
                  rw [hft'] at h9
                  exact h9
                clear hft
                haveI := inB_ne w5
                have f5 := fun p : InB w5 => (HF.out p.w' (HBw5.out.trans (p.h.mono HBw5.out.size))).2.2.2.2.2.1
                have f7 := fun p : InB w5 => (HF.out p.w' (HBw5.out.trans (p.h.mono HBw5.out.size))).2.2.2.2.2.2.2.1
                refine wp_region_inB (by kernel_rfl) (by kernel_rfl) ?_
                repeat (go_big_quiet_step (fail))
                refine wpQuiet_nil ?_
                rintro w6 ⟨⟨w6', hb9⟩, h9⟩
                obtain rfl : w6 = w6' := h9
                have HBw6 : Hid (Below w2.heap.size w2 w6) := HBw5.out.trans (hb9.mono HBw5.out.size)
                clear hb9 f5 f7
                go_wp2_with fail
                go_roundw
                case rel => exact ⟨0 + 1, by go_num, by subst hkz; rw [HCN2.out]; rfl, by omega, (by subst hkz; exact HO2.out), (show Below w1.heap.size w1 w6 from HB12.out.trans (HBw6.out.mono (by have := HB12.out.size; omega)))⟩
                case measure => simp [intOf]; omega
        · have hlt : Op.bytesLess y.toList x.it.toList = true := by
            have h9 : (k == 0) = false := by simpa using hkz
            rw [h9, Bool.false_or] at hrs
            exact hrs
          have hk0' : ((k : Int) == 0) = false := by simp; omega
          have hsub : wrap64 ((k : Int) - 1) = ((k - 1 : Nat) : Int) := by simp only [wrap64]; omega
          have hin : ((k - 1 : Nat) : Int) < (a.sn.length : Int) := by omega
          have f8 := fun p : InB w2 => (HF.out p.w' (HBw2.out.trans (p.h.mono HBw2.out.size))).2.2.2.2.2.2.2.2 hkz
          haveI := inB_ne w2
          have f3 := fun p : InB w2 => (HF.out p.w' (HBw2.out.trans (p.h.mono HBw2.out.size))).2.2.2.1
          have f4 := fun p : InB w2 => (HF.out p.w' (HBw2.out.trans (p.h.mono HBw2.out.size))).2.2.2.2.1
          refine wp_region_inB (by kernel_rfl) (by kernel_rfl) ?_
          repeat (go_big_quiet_step (fail))
          refine wpQuiet_nil ?_
          rintro w3 ⟨⟨w3', hb9⟩, h9⟩
          obtain rfl : w3 = w3' := h9
          have HBw3 : Hid (Below w2.heap.size w2 w3) := HBw2.out.trans (hb9.mono HBw2.out.size)
          clear hb9 f3 f4
          clear f8 hk0' hsub hin hlt
          have CH3 := CH.out w3
          have c5 := (HF.out w3 HBw3.out).1
          have c6 := (HF.out w3 HBw3.out).2.1
          have c7 := (HF.out w3 HBw3.out).2.2.1
          have d0 := (HF.out w3 HBw3.out).2.2.2.2.1
          have d1 := (HF.out w3 HBw3.out).2.2.2.2.2.1
          have d2 := (HF.out w3 HBw3.out).2.2.2.2.2.2.1
          dsimp only [rngV] at CH3
          go_wp2_with fail
          refine CH3.mono ?_
          rintro e w4 ⟨rfl, hb4⟩
          have HBw4 : Hid (Below w2.heap.size w2 w4) := HBw3.out.trans (hb4.mono HBw3.out.size)
          clear CH3 hb4 c5 c6 c7 d0 d1 d2
          cases hs
          · obtain rfl : R = false := by rw [← HR.out]; unfold scnB; rw [scB_no H a k _ hk1 (by rw [HSC.out]; simp)]; rfl
            go_wp2_with fail
            go_ret
            exact ⟨rfl, (HB02.out.trans (HBw4.out.mono HB02.out.size)).mono hB, fun h => by cases h⟩
          · have d0 := (HF.out w4 HBw4.out).2.2.2.2.1
            have d1 := (HF.out w4 HBw4.out).2.2.2.2.2.1
            have d2 := (HF.out w4 HBw4.out).2.2.2.2.2.2.1
            have CM4 := CM.out w4 (HB02.out.trans (HBw4.out.mono HB02.out.size))
            dsimp only [ptr1, aggS] at CM4
            go_wp2_with fail
            refine CM4.mono ?_
            rintro e w5 ⟨rfl, hb5⟩
            have HBw5 : Hid (Below w2.heap.size w2 w5) := HBw4.out.trans (hb5.mono HBw4.out.size)
            clear CM4 hb5 d0 d1 d2
            cases th
            · obtain rfl : R = false := by rw [← HR.out]; unfold scnB; rw [scB_no H a k _ hk1 (by rw [HSC.out]; simp)]; rfl
              go_wp2_with fail
              go_ret
              exact ⟨rfl, (HB02.out.trans (HBw5.out.mono HB02.out.size)).mono hB, fun h => by cases h⟩
            · have HO2 : Hid (scB H a (k + 1) = true) := by
                show _ = _
                rw [scB_succ, HO.out, HSC.out]
                rfl
              go_upto_region 8 with fail
              by_cases hft : x.fr = t
              · have hft' : (x.fr == t) = true := by simpa using hft
                have HCN2 : Hid ((a.sn.take (k + 1)).countP (fun s => s.fr == t) = (a.sn.take k).countP (fun s => s.fr == t) + 1) := by
                  have h9 := HCN.out
                  rw [hft', if_pos rfl] at h9
                  exact h9
                have hadd : wrap64 ((((a.sn.take k).countP (fun s => s.fr == t) : Nat) : Int) + 1) = (((a.sn.take (k + 1)).countP (fun s => s.fr == t) : Nat) : Int) := by
                  have h8 : (a.sn.take k).countP (fun s => s.fr == t) ≤ (a.sn.take k).length := List.countP_le_length
                  have h9 : (a.sn.take k).length ≤ a.sn.length := by rw [List.length_take]; omega
                  have h7 := HCN2.out
                  simp only [wrap64]
                  omega
                clear hft
                haveI := inB_ne w5
                have f5 := fun p : InB w5 => (HF.out p.w' (HBw5.out.trans (p.h.mono HBw5.out.size))).2.2.2.2.2.1
                have f7 := fun p : InB w5 => (HF.out p.w' (HBw5.out.trans (p.h.mono HBw5.out.size))).2.2.2.2.2.2.2.1
                refine wp_region_inB (by kernel_rfl) (by kernel_rfl) ?_
                repeat (go_big_quiet_step (fail))
                refine wpQuiet_nil ?_
                rintro w6 ⟨⟨w6', hb9⟩, h9⟩
                obtain rfl : w6 = w6' := h9
                have HBw6 : Hid (Below w2.heap.size w2 w6) := HBw5.out.trans (hb9.mono HBw5.out.size)
                clear hb9 f5 f7
                go_wp2_with fail
                go_roundw
                case rel => exact ⟨k + 1, by go_num, by first | rfl | (rw [hadd]), by omega, HO2.out, (show Below w1.heap.size w1 w6 from HB12.out.trans (HBw6.out.mono (by have := HB12.out.size; omega)))⟩
                case measure => simp [intOf]; omega
              · have hft' : (x.fr == t) = false := by simpa using hft
                have HCN2 : Hid ((a.sn.take (k + 1)).countP (fun s => s.fr == t) = (a.sn.take k).countP (fun s => s.fr == t)) := by
                  have h9 := HCN.out
                  rw [hft'] at h9
                  exact h9
                clear hft
                haveI := inB_ne w5
                have f5 := fun p : InB w5 => (HF.out p.w' (HBw5.out.trans (p.h.mono HBw5.out.size))).2.2.2.2.2.1
                have f7 := fun p : InB w5 => (HF.out p.w' (HBw5.out.trans (p.h.mono HBw5.out.size))).2.2.2.2.2.2.2.1
                refine wp_region_inB (by kernel_rfl) (by kernel_rfl) ?_
                repeat (go_big_quiet_step (fail))
                refine wpQuiet_nil ?_
                rintro w6 ⟨⟨w6', hb9⟩, h9⟩
                obtain rfl : w6 = w6' := h9
                have HBw6 : Hid (Below w2.heap.size w2 w6) := HBw5.out.trans (hb9.mono HBw5.out.size)
                clear hb9 f5 f7
                go_wp2_with fail
                go_roundw
                case rel => exact ⟨k + 1, by go_num, by rw [HCN2.out], by omega, HO2.out, (show Below w1.heap.size w1 w6 from HB12.out.trans (HBw6.out.mono (by have := HB12.out.size; omega)))⟩
                case measure => simp [intOf]; omega

end Go.Proofs.YtncfejndmlcidaaGreat

namespace Go.Proofs.YtncfejndmlcidaaGreat
open Go.RowKit
set_option maxRecDepth 100000

/-- two histories that say the same -/
structure Sim (H H' : List Ac) : Prop where
  kn : ∀ u, kn H u = kn H' u
  wr : ∀ u x, wr H u x = wr H' u x
  bg : ∀ u, bg H u = bg H' u
  en : ∀ u, en H u = en H' u
  st : ∀ k u, k ≠ 0 → stOf k H u = stOf k H' u
  rds : rds H = rds H'
  scs : scs H = scs H'
  cms : cms H = cms H'
  its : its H = its H'
theorem St.congr {w : World} {B : Nat} {H H' : List Ac} {s : Hv} (h : St w B H s) (e : Sim H H') : St w B H' s := by
  have hv : ∀ x, vrs H' x = vrs H x := fun x => by
    unfold vrs
    rw [e.cms]
    congr 1
    funext u
    rw [e.wr]
  have hvv : vvL H' = vvL H := by
    funext o
    cases o with
    | none => exact e.cms.symm
    | some x => exact hv x
  have htc : ∀ u, s.tcells H' u = s.tcells H u := fun u => by
    unfold Hv.tcells
    rw [e.bg, e.en, show snp H u = snp H' u from e.st 1 u (by decide), show cm H u = cm H' u from e.st 5 u (by decide)]
  exact { blk := h.blk, hbB := h.hbB, mTB := h.mTB, mWB := h.mWB, mVB := h.mVB, mTW := h.mTW, mTV := h.mTV, mWV := h.mWV, mt := h.mt, mtv := fun u => by rw [← e.kn]; exact h.mtv u, mw := h.mw, mwv := fun k => by rw [← e.wr]; exact h.mwv k, mv := h.mv, mvk := fun x => by rw [hv]; exact h.mvk x, mvn := h.mvn, fv := by rw [hvv]; exact h.fv, tn := fun u hu => by rw [htc]; exact h.tn u (by rw [e.kn]; exact hu), inj := fun u u' h1 h2 e' => h.inj u u' (by rw [e.kn]; exact h1) (by rw [e.kn]; exact h2) e', fi := by rw [← e.its]; exact h.fi, fr := by rw [← e.rds]; exact h.fr, fs := h.fs, sc := fun u => by rw [← e.scs]; exact h.sc u, sn := h.sn }
/-- an action of no kind says nothing but that its transaction is there -/
def dum (t : Int) : Ac := ⟨t, 0, ⟨#[]⟩, 0, 0, ⟨#[]⟩, ⟨#[]⟩, false, [], 0⟩
theorem dum_kn (H : List Ac) (t u : Int) : kn (H ++ [dum t]) u = (kn H u || t == u) := kn_snoc _ _ _
theorem dum_wr (H : List Ac) (t u : Int) (x : ByteArray) : wr (H ++ [dum t]) u x = wr H u x := wr_keep _ (.inl (by simp [dum]))
theorem dum_bg (H : List Ac) (t u : Int) : bg (H ++ [dum t]) u = bg H u := bg_keep _ (.inl (by simp [dum]))
theorem dum_en (H : List Ac) (t u : Int) : en (H ++ [dum t]) u = en H u := en_keep _ (.inl (by simp [dum]))
theorem dum_st (H : List Ac) (t u k : Int) (hk : k ≠ 0) : stOf k (H ++ [dum t]) u = stOf k H u := st_keep _ (.inl (fun e => hk e.symm))
theorem dum_rds (H : List Ac) (t u : Int) : rds (H ++ [dum t]) u = rds H u := rds_keep _ (.inl (by simp [dum]))
theorem dum_scs (H : List Ac) (t u : Int) : scs (H ++ [dum t]) u = scs H u := scs_keep _ (.inl (by simp [dum]))
theorem dum_its (H : List Ac) (t u : Int) : its (H ++ [dum t]) u = its H u := its_keep _ (.inl (by simp [dum]))
theorem dum_cms (H : List Ac) (t : Int) : cms (H ++ [dum t]) = cms H := cms_keep _ (by simp [dum])
theorem dum_lst (H : List Ac) (t : Int) : lst (H ++ [dum t]) = lst H := by rw [lst_snoc, if_neg (by simp [dum])]
theorem dum_thB (H : List Ac) (t u : Int) (x : Sw) : thB (H ++ [dum t]) u x = thB H u x := by unfold thB; rw [dum_wr, dum_wr]
theorem dum_scnB (H : List Ac) (t : Int) (a : Ac) : scnB (H ++ [dum t]) a = scnB H a := by
  unfold scnB scB
  rw [dum_its]
  simp only [dum_thB]
theorem dum_sim (H : List Ac) (a : Ac) : Sim (H ++ [dum a.tx] ++ [a]) (H ++ [a]) where
  kn u := by rw [kn_snoc (H ++ [dum a.tx]) a, kn_snoc H a, dum_kn]; cases kn H u <;> cases (a.tx == u) <;> rfl
  wr u x := by rw [wr_snoc (H ++ [dum a.tx]) a, wr_snoc H a, dum_wr]
  bg u := by rw [bg_snoc (H ++ [dum a.tx]) a, bg_snoc H a, dum_bg]
  en u := by rw [en_snoc (H ++ [dum a.tx]) a, en_snoc H a, dum_en]
  st k u hk := by rw [stOf_snoc k (H ++ [dum a.tx]) a, stOf_snoc k H a, dum_st _ _ _ _ hk]
  rds := by funext u; rw [rds_snoc (H ++ [dum a.tx]) a, rds_snoc H a, dum_rds]
  scs := by funext u; rw [scs_snoc (H ++ [dum a.tx]) a, scs_snoc H a, dum_scs]
  cms := by rw [cms_snoc (H ++ [dum a.tx]) a, cms_snoc H a, dum_cms]
  its := by funext u; rw [its_snoc (H ++ [dum a.tx]) a, its_snoc H a, dum_its]
theorem no_kn {H : List Ac} {t : Int} (h : kn H t = false) {p : Ac → Bool} : H.filter (fun a => a.tx == t && p a) = [] := by
  unfold kn at h
  rw [List.any_eq_false] at h
  rw [List.filter_eq_nil_iff]
  intro a ha h1
  simp only [Bool.and_eq_true] at h1
  exact h a ha h1.1
theorem no_its {H : List Ac} {t : Int} (h : kn H t = false) : its H t = [] := by
  cases h1 : its H t with
  | nil => rfl
  | cons x L =>
    exfalso
    have h2 := (its_mem t x H).1 (by rw [h1]; exact List.mem_cons_self ..)
    unfold wr at h2
    obtain ⟨a, ha, hw⟩ := List.countP_pos_iff.1 h2
    unfold kn at h
    rw [List.any_eq_false] at h
    unfold isW at hw
    simp only [Bool.and_eq_true] at hw
    exact h a ha hw.1.2
theorem no_all {H : List Ac} {t : Int} (h : kn H t = false) : bg H t = false ∧ en H t = false ∧ snp H t = 0 ∧ cm H t = 0 ∧ its H t = [] ∧ rds H t = [] ∧ scs H t = [] := by
  refine ⟨?_, ?_, ?_, ?_, no_its h, ?_, no_kn h⟩
  · unfold bg
    rw [List.any_eq_false]
    unfold kn at h
    rw [List.any_eq_false] at h
    intro a ha h1
    simp only [Bool.and_eq_true] at h1
    exact h a ha h1.1
  · unfold en
    rw [List.any_eq_false]
    unfold kn at h
    rw [List.any_eq_false] at h
    intro a ha h1
    simp only [Bool.and_eq_true] at h1
    exact h a ha h1.1
  · show stOf 1 H t = 0
    unfold stOf
    rw [no_kn h]
    rfl
  · show stOf 5 H t = 0
    unfold stOf
    rw [no_kn h]
    rfl
  · unfold rds
    rw [no_kn h]
    rfl
theorem cms_kn {H : List Ac} {u : Int} (h : u ∈ cms H) : kn H u = true := by
  unfold cms at h
  obtain ⟨a, ha, rfl⟩ := List.mem_map.1 h
  unfold kn
  rw [List.any_eq_true]
  exact ⟨a, (List.mem_filter.1 ha).1, by simp⟩
theorem OwnG.congr {α : Type} {enc enc' : α → List Value} {size B : Nat} {T : TypeId} {w : World} {v : Value} {L : List α} (h : OwnG enc size T w B v L) (he : ∀ x ∈ L, enc x = enc' x) : OwnG enc' size T w B v L := by
  unfold OwnG at h ⊢
  have : L.flatMap enc' = L.flatMap enc := by
    clear h
    induction L with
    | nil => rfl
    | cons x L ih =>
      rw [List.flatMap_cons, List.flatMap_cons, he x (List.mem_cons_self ..), ih (fun y hy => he y (List.mem_cons_of_mem _ hy))]
  rw [this]
  exact h
/-- a transaction that is new -/
theorem St.fresh {w w2 : World} {B : Nat} {H : List Ac} {s : Hv} {t : Int} (h : St w B H s) (hB : B ≤ w.heap.size) (ht : kn H t = false) (hblk : Blk w2 w.heap.size #[.int .i64 t, .int .i64 0, .bool false, .bool false, .int .u64 0, .int .u64 0, nilS, nilS, nilS] 101)
    (hf : Frm w w2 (one1 s.mT)) (hm : MapG kvI w2 s.mT (putG s.ET t (ptr1 w.heap.size))) :
    St w2 B (H ++ [dum t]) { s with pt := updF s.pt t w.heap.size, ET := putG s.ET t (ptr1 w.heap.size), vi := updF s.vi t nilS, vr := updF s.vr t nilS, vs := updF s.vs t nilS, Sc := updF s.Sc t [] } := by
  obtain ⟨n1, n2, n3, n4, n5, n6, n7⟩ := no_all ht
  have hkn : ∀ u, kn (H ++ [dum t]) u = (kn H u || t == u) := dum_kn H t
  have hbel : Below B w w2 := hf.below hB (fun k hk => by rw [show k = s.mT from hk]; exact h.mTB)
  have hcell : ∀ {g : Nat} {cs : Array Value} {T : TypeId}, w.heap[g]? = some (Obj.cells cs T (0, 0)) → ¬ one1 s.mT g := fun {g cs T} hg e => h.mt.not_cells hg e
  have hv : ∀ x, vrs (H ++ [dum t]) x = vrs H x := fun x => by
    unfold vrs
    rw [dum_cms]
    congr 1
    funext u
    rw [dum_wr]
  have hvv : vvL (H ++ [dum t]) = vvL H := by
    funext o
    cases o with
    | none => exact dum_cms H t
    | some x => exact hv x
  have hpt : ∀ u, kn H u = true → updF s.pt t w.heap.size u = s.pt u := fun u hu => updF_other _ _ (fun e => by rw [e, ht] at hu; cases hu)
  have hfam : ∀ {α : Type} {enc : α → List Value} {size : Nat} {T : TypeId} {vs : Int → Value} {Ls : Int → List α}, Fam enc size T w B vs Ls → Fam enc size T w2 B (updF vs t nilS) (updF Ls t []) := fun {α enc size T vs Ls} hF =>
    hF.put t (OwnG.nil _ _ _ _ _) (fun g hg _ ⟨cur, hc⟩ => hf.block g hg (hcell hc)) (.inr (.inl rfl))
  have hL : ∀ {α : Type} (f : Int → List α) (f' : Int → List α), (∀ u, f' u = f u) → f t = [] → f' = updF f t [] := fun {α} f f' h1 h2 => by
    funext u
    by_cases hu : u = t
    · subst hu; rw [updF_same, h1, h2]
    · rw [updF_other _ _ hu, h1]
  refine { blk := h.blk.frm hf (hcell h.blk), hbB := h.hbB, mTB := h.mTB, mWB := h.mWB, mVB := h.mVB, mTW := h.mTW, mTV := h.mTV, mWV := h.mWV, mt := hm, mtv := fun u => ?_, mw := h.mw.frm hf (fun e => h.mTW (show s.mW = s.mT from e).symm), mwv := fun k => by rw [dum_wr]; exact h.mwv k, mv := h.mv.frm hf (fun e => h.mTV (show s.mV = s.mT from e).symm), mvk := fun x => by rw [hv]; exact h.mvk x, mvn := h.mvn, fv := ?_, tn := fun u hu => ?_, inj := fun u u' h1 h2 e => ?_, fi := ?_, fr := ?_, fs := hfam h.fs, sc := fun u => ?_, sn := fun u z hz => ?_ }
  · rw [getG_put, hkn]
    by_cases hu : u = t
    · subst hu
      rw [if_pos rfl, if_pos (by simp)]
      show ptr1 w.heap.size = ptr1 (updF s.pt u w.heap.size u)
      rw [updF_same]
    · rw [if_neg hu, h.mtv]
      have : (t == u) = false := by simpa using Ne.symm hu
      rw [this, Bool.or_false]
      by_cases hk : kn H u = true
      · rw [if_pos hk, if_pos hk]
        show ptr1 (s.pt u) = ptr1 (updF s.pt t w.heap.size u)
        rw [updF_other _ _ hu]
      · rw [if_neg hk, if_neg hk]
  · rw [hvv]
    have hF := h.fv.frm hf (fun g cur hg => hcell hg)
    refine ⟨fun o => (hF.own o).congr (fun u hu => ?_), hF.apart⟩
    have hk : kn H u = true := by
      cases o with
      | none => exact cms_kn hu
      | some x => exact cms_kn (List.mem_filter.1 hu).1
    show [ptr1 (s.pt u)] = [ptr1 (updF s.pt t w.heap.size u)]
    rw [hpt u hk]
  · rw [hkn] at hu
    have e4 : bg (H ++ [dum t]) u = bg H u := dum_bg H t u
    have e5 : en (H ++ [dum t]) u = en H u := dum_en H t u
    have e6 : snp (H ++ [dum t]) u = snp H u := dum_st H t u 1 (by decide)
    have e7 : cm (H ++ [dum t]) u = cm H u := dum_st H t u 5 (by decide)
    by_cases he : u = t
    · subst he
      refine ⟨?_, ?_⟩
      · show B ≤ updF s.pt u w.heap.size u
        rw [updF_same]
        exact hB
      · show Blk w2 (updF s.pt u w.heap.size u) #[_, _, .bool (bg (H ++ [dum u]) u), .bool (en (H ++ [dum u]) u), .int .u64 (snp (H ++ [dum u]) u : Nat), .int .u64 (cm (H ++ [dum u]) u : Nat), updF s.vi u nilS u, updF s.vr u nilS u, updF s.vs u nilS u] _
        rw [e4, e5, e6, e7, n1, n2, n3, n4, updF_same, updF_same, updF_same, updF_same]
        exact hblk
    · have hk : kn H u = true := by
        have : (t == u) = false := by simpa using Ne.symm he
        rw [this, Bool.or_false] at hu
        exact hu
      refine ⟨?_, ?_⟩
      · show B ≤ updF s.pt t w.heap.size u
        rw [hpt u hk]
        exact (h.tn u hk).1
      · show Blk w2 (updF s.pt t w.heap.size u) #[_, _, .bool (bg (H ++ [dum t]) u), .bool (en (H ++ [dum t]) u), .int .u64 (snp (H ++ [dum t]) u : Nat), .int .u64 (cm (H ++ [dum t]) u : Nat), updF s.vi t nilS u, updF s.vr t nilS u, updF s.vs t nilS u] _
        rw [e4, e5, e6, e7, hpt u hk, updF_other _ _ he, updF_other _ _ he, updF_other _ _ he]
        exact (h.tn u hk).2.frm hf (hcell (h.tn u hk).2)
  · rw [hkn] at h1 h2
    have e' : updF s.pt t w.heap.size u = updF s.pt t w.heap.size u' := e
    by_cases hu : u = t
    · by_cases hu' : u' = t
      · rw [hu, hu']
      · exfalso
        have hk : kn H u' = true := by
          have : (t == u') = false := by simpa using Ne.symm hu'
          rw [this, Bool.or_false] at h2
          exact h2
        rw [hu, updF_same, updF_other _ _ hu'] at e'
        have := (h.tn u' hk).2.lt
        omega
    · have hk : kn H u = true := by
        have : (t == u) = false := by simpa using Ne.symm hu
        rw [this, Bool.or_false] at h1
        exact h1
      by_cases hu' : u' = t
      · exfalso
        rw [hu', updF_same, updF_other _ _ hu] at e'
        have := (h.tn u hk).2.lt
        omega
      · have hk' : kn H u' = true := by
          have : (t == u') = false := by simpa using Ne.symm hu'
          rw [this, Bool.or_false] at h2
          exact h2
        rw [updF_other _ _ hu, updF_other _ _ hu'] at e'
        exact h.inj u u' hk hk' e'
  · rw [hL (its H) (its (H ++ [dum t])) (dum_its H t) n5]
    exact hfam h.fi
  · rw [hL (rds H) (rds (H ++ [dum t])) (dum_rds H t) n6]
    exact hfam h.fr
  · show (updF s.Sc t [] u).map (·.1) = _
    rw [dum_scs]
    by_cases hu : u = t
    · subst hu; rw [updF_same, n7]; rfl
    · rw [updF_other _ _ hu]; exact h.sc u
  · have hz' : z ∈ updF s.Sc t [] u := hz
    by_cases hu : u = t
    · subst hu; rw [updF_same] at hz'; cases hz'
    · rw [updF_other _ _ hu] at hz'
      exact (h.sn u z hz').on hbel
/-- a begin, an abort: cells of the transaction alone -/
theorem St.mark {w w' : World} {B : Nat} {H : List Ac} {s : Hv} {a : Ac} {t : Int} (h : St w B H s) (hB : B ≤ w.heap.size) (ht : kn H t = true) (htx : a.tx = t) (hkd : a.kd = 1 ∨ a.kd = 6) (hf : Frm w w' (one1 (s.pt t)))
    (hblk : Blk w' (s.pt t) #[.int .i64 t, .int .i64 0, .bool (bg (H ++ [a]) t), .bool (en (H ++ [a]) t), .int .u64 (snp (H ++ [a]) t : Nat), .int .u64 (cm (H ++ [a]) t : Nat), s.vi t, s.vr t, s.vs t] 101) :
    St w' B (H ++ [a]) s ∧ Below B w w' := by
  have hk2 : a.kd ≠ 2 := by omega
  have hk3 : a.kd ≠ 3 := by omega
  have hk4 : a.kd ≠ 4 := by omega
  have hk5 : a.kd ≠ 5 := by omega
  have hT : Frm w w' (Tch w B (s.pt t)) := hf.mono (fun k hk => .inl ⟨by rw [show k = s.pt t from hk]; exact (h.tn t ht).1, .inl hk⟩)
  have hbel : Below B w w' := hT.below hB (fun k hk => hk.f.1)
  have hi : its (H ++ [a]) = its H := by funext u; exact its_keep _ (.inl hk4)
  have hr : rds (H ++ [a]) = rds H := by funext u; exact rds_keep _ (.inl hk2)
  have hne : ∀ {g : Nat} {cs : Array Value} {T : TypeId}, w.heap[g]? = some (Obj.cells cs T (0, 0)) → T ≠ 101 → ¬ one1 (s.pt t) g := fun {g cs T} hg h1 e => by
    rw [show g = s.pt t from e, show w.heap[s.pt t]? = _ from (h.tn t ht).2] at hg
    cases hg
    exact h1 rfl
  refine ⟨h.upd t ht s.vi s.vr s.vs s.Sc hT hblk ?_ ?_ ?_ ?_ ?_ ?_ ?_ ?_ ?_, hbel⟩
  · rw [hi]; exact h.fi.frm hf (fun g cur hg => hne hg (by decide))
  · rw [hr]; exact h.fr.frm hf (fun g cur hg => hne hg (by decide))
  · exact h.fs.frm hf (fun g cur hg => hne hg (by decide))
  · exact fun u => by rw [scs_keep _ (.inl hk3)]; exact h.sc u
  · exact fun u z hz => (h.sn u z hz).on hbel
  · exact fun u hu => ⟨rfl, rfl, rfl, bg_keep _ (.inr (by rw [htx]; exact Ne.symm hu)), en_keep _ (.inr (by rw [htx]; exact Ne.symm hu)), st_keep _ (.inr (by rw [htx]; exact Ne.symm hu)), st_keep _ (.inr (by rw [htx]; exact Ne.symm hu))⟩
  · exact fun u => kn_keep _ (by rw [htx]; exact ht) u
  · exact fun u x => wr_keep _ (.inl hk4)
  · exact cms_keep _ hk5

end Go.Proofs.YtncfejndmlcidaaGreat
