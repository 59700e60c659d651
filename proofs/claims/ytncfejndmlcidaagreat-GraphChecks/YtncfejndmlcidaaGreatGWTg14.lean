/- Layer 19: a history of write skew, and what comes of it. Layer 19: Phenomena and Serial at that history. -/
import Derived.Test.YtncfejndmlcidaaGreatGWTg12
import Derived.Test.YtncfejndmlcidaaGreatGWGr12
namespace Go.Proofs.YtncfejndmlcidaaGreat
open Go.RowKit
set_option maxRecDepth 100000

abbrev bX : ByteArray := ⟨#[120]⟩
abbrev bY : ByteArray := ⟨#[121]⟩
abbrev bN : ByteArray := ⟨#[]⟩
/-- two transactions, each reads what the other one writes -/
def skL : List Ac := [⟨1, 2, bX, 0, 0, bN, bN, false, [], 0⟩, ⟨2, 2, bY, 0, 0, bN, bN, false, [], 0⟩, ⟨1, 4, bY, 0, 0, bN, bN, false, [], 0⟩, ⟨2, 4, bX, 0, 0, bN, bN, false, [], 0⟩, ⟨1, 5, bN, 0, 0, bN, bN, false, [], 1⟩, ⟨2, 5, bN, 0, 0, bN, bN, false, [], 2⟩]
def skL4 : List Ac := skL.take 4
abbrev skZ : List (Ac × Value) := skL.map (fun a => (a, nilS))
abbrev skC : Array Value := (skZ.flatMap encA).toArray
theorem sk_len : skL.length = 6 := rfl
theorem sk_tl : tlB skL = false := by kernel_rfl
theorem sk4_tl : tlB skL4 = false := by kernel_rfl
theorem sk_scs (t : Int) : scs skL t = [] := by simp [scs, skL]
theorem sk4_scs (t : Int) : scs skL4 t = [] := by simp [scs, skL4, skL]
theorem sk_cms : cms skL = [1, 2] := by kernel_rfl
theorem sk4_cms : cms skL4 = [] := by kernel_rfl
theorem okA_sk : ∀ i (h : i < skL.length), okA (skL.take i) skL[i] = true
  | 0, _ => by kernel_rfl
  | 1, _ => by kernel_rfl
  | 2, _ => by kernel_rfl
  | 3, _ => by kernel_rfl
  | 4, _ => by kernel_rfl
  | 5, _ => by kernel_rfl
theorem sk_ok : okH skL skL.length := fun i _ h => okA_sk i h
theorem sk4_ok : okH skL4 skL4.length := fun i _ h => by
  have h4 : i < 4 := h
  have h1 := okA_sk i (by rw [sk_len]; omega)
  have e1 : skL4.take i = skL.take i := by unfold skL4; rw [List.take_take, Nat.min_eq_left (by omega)]
  have e2 : skL4[i] = skL[i]'(by rw [sk_len]; omega) := by simp [skL4]
  rw [e1]
  exact (congrArg (okA (skL.take i)) e2).trans h1
theorem sk_no {H : List Ac} (hs : ∀ k (hk : k < H.length), okA (H.take k) H[k] = true) (k : Nat) (hk : k < H.length) (h : okA (H.take k) H[k] = false) : False := by
  rw [hs k hk] at h; cases h
theorem isW_four (t u : Int) (x y : ByteArray) (lo hi : ByteArray) : isW t x ⟨u, 4, y, 0, 0, lo, hi, false, [], 0⟩ = decide (t = u ∧ x = y) := by
  show (((4 : Int) == 4) && (u == t) && decide (y = x)) = _
  by_cases h1 : u = t
  · by_cases h2 : y = x
    · subst h1 h2
      simp
    · have h3 : ¬ x = y := fun e => h2 e.symm
      simp [h2, h3]
  · have h3 : ¬ t = u := fun e => h1 e.symm
    simp [h1, h3]
theorem sk_wr (t : Int) (x : ByteArray) : wr skL t x = (if t = 1 ∧ x = bY then 1 else 0) + (if t = 2 ∧ x = bX then 1 else 0) := by
  have e3 := isW_four t 1 x bY bN bN
  have e4 := isW_four t 2 x bX bN bN
  have h : wr skL t x = 0 + 0 + (if isW t x ⟨2, 4, bX, 0, 0, bN, bN, false, [], 0⟩ = true then 1 else 0) + (if isW t x ⟨1, 4, bY, 0, 0, bN, bN, false, [], 0⟩ = true then 1 else 0) + 0 + 0 := by
    unfold wr skL
    simp only [List.countP_cons, List.countP_nil]
    rfl
  rw [h, e3, e4]
  simp only [decide_eq_true_eq, Nat.zero_add, Nat.add_zero]
  exact Nat.add_comm _ _
theorem sk_vrs (x : ByteArray) : vrs skL x = if x = bX then [2] else if x = bY then [1] else [] := by
  unfold vrs
  rw [sk_cms]
  simp only [List.filter_cons, List.filter_nil, sk_wr]
  by_cases h3 : x = bX
  · subst h3
    rw [if_pos rfl]
    kernel_rfl
  · rw [if_neg h3]
    by_cases h4 : x = bY
    · subst h4
      rw [if_pos rfl]
      kernel_rfl
    · rw [if_neg h4]
      simp [h3, h4]
theorem sk_C {s : Hv} {d : Dv} (h : Fin skL s d) : d.C = [1, 2] := by
  have h1 := h.perm
  rw [sk_cms] at h1
  exact List.Perm.eq_of_pairwise (le := (· < ·)) (fun a b _ _ h2 h3 => by have := Int.lt_trans h2 h3; omega) h.ris (by decide) h1
theorem sk_I {s : Hv} {d : Dv} (h : Fin skL s d) : d.I = [bX, bY] := by
  have hm : ∀ x, x ∈ d.I ↔ x ∈ [bX, bY] := fun x => by
    rw [h.mem, sk_vrs]
    by_cases h3 : x = bX
    · simp [h3]
    · by_cases h4 : x = bY
      · simp [h4]
      · simp [h3, h4]
  have hr : RisS [bX, bY] := List.pairwise_cons.2 ⟨fun y hy => by rw [List.mem_singleton.1 hy]; kernel_rfl, List.pairwise_singleton _ _⟩
  refine List.Perm.eq_of_pairwise (le := fun a b => ltB a b = true) (fun a b _ _ h2 h3 => by rw [ltB_asymm h2] at h3; cases h3) h.isr hr ?_
  exact (List.perm_ext_iff_of_nodup (ris_nodup h.isr) (ris_nodup hr)).2 hm
theorem sk_pl {s : Hv} {d : Dv} (h : Fin skL s d) : d.pl 1 = 0 ∧ d.pl 2 = 1 := by
  have h1 := h.pl
  have h2 := sk_C h
  rw [h2] at h1
  exact ⟨h1 0 (by simp), h1 1 (by simp)⟩
abbrev skE : List (List Ed) := [[⟨1, 3, 0⟩], [⟨0, 3, 1⟩]]
theorem sk_ed {s : Hv} {d : Dv} (h : Fin skL s d) : edM d skL (fun _ LL => LL) = skE := by
  have h1 := sk_C h
  have h2 := sk_I h
  obtain ⟨h3, h4⟩ := sk_pl h
  have e1 : rds skL 1 = [⟨bX, 0, 0⟩] := by kernel_rfl
  have e2 : rds skL 2 = [⟨bY, 0, 0⟩] := by kernel_rfl
  have e3 : vrs skL bX = [2] := by rw [sk_vrs, if_pos rfl]
  have e4 : vrs skL bY = [1] := by rw [sk_vrs, if_neg (by decide), if_pos rfl]
  have e5 : vrN skL ⟨bX, 0, 0⟩ = 0 := by kernel_rfl
  have e6 : vrN skL ⟨bY, 0, 0⟩ = 0 := by kernel_rfl
  have e7 : plI [bX, bY] bX = 0 := by kernel_rfl
  have e8 : plI [bX, bY] bY = 1 := by kernel_rfl
  have o1 : ovM d.pl skL [bX, bY] (List.replicate 2 []) 2 = [[], []] := by
    simp [ovM, ovI, e3, e4, List.replicate]
  have r1 : rdM d.pl skL [bX, bY] 1 [[], []] = [[⟨1, 3, 0⟩], []] := by
    simp [rdM, scM, sk_scs, e1, vrM, vrM1, e3, e5, e7, h3, h4, leadM]
  have r2 : rdM d.pl skL [bX, bY] 2 [[⟨1, 3, 0⟩], []] = [[⟨1, 3, 0⟩], [⟨0, 3, 1⟩]] := by
    simp [rdM, scM, sk_scs, e2, vrM, vrM1, e4, e6, e8, h3, h4, leadM]
  unfold edM raM cmM
  rw [h1, h2]
  simp only [List.length_cons, List.length_nil, List.foldl_cons, List.foldl_nil, Nat.zero_add, Nat.reduceAdd]
  rw [o1, r1, r2]
  rfl
theorem sk4_C {s : Hv} {d : Dv} (h : Fin skL4 s d) : d.C = [] := by
  have h1 := h.perm
  rw [sk4_cms] at h1
  exact List.perm_nil.1 h1
theorem sk4_I {s : Hv} {d : Dv} (h : Fin skL4 s d) : d.I = [] := by
  refine List.eq_nil_iff_forall_not_mem.2 (fun x hx => (h.mem x).1 hx ?_)
  unfold vrs
  rw [sk4_cms]
  rfl
theorem sk4_ed {s : Hv} {d : Dv} (h : Fin skL4 s d) : edM d skL4 (fun _ LL => LL) = [] := by
  have h1 := edM_len (unsF_none skL4 d sk4_scs)
  rw [sk4_C h] at h1
  exact List.length_eq_zero_iff.1 h1
theorem skE_lt : EdLt 2 skE := fun l hl e he => by
  simp only [skE, List.mem_cons, List.not_mem_nil, or_false] at hl
  rcases hl with rfl | rfl
  · rw [List.mem_singleton.1 he]; decide
  · rw [List.mem_singleton.1 he]; decide
theorem skE_1 : ∀ p, (tgs [1, 2] skE).getD p [] = [] := fun p => by
  have e : tgs [1, 2] skE = [[], []] := by kernel_rfl
  rw [e]
  match p with
  | 0 => rfl
  | 1 => rfl
  | p + 2 => rfl
theorem skE_2 : ∀ p, p < 2 → ∃ x, x < 2 ∧ x ≠ p ∧ (tgs [3, 4] skE).getD p [] = [x]
  | 0, _ => ⟨1, by decide, by decide, by kernel_rfl⟩
  | 1, _ => ⟨0, by decide, by decide, by kernel_rfl⟩
theorem skT1 : turnsM skE (partsM (tgs [1] skE)) [1] = false := by kernel_rfl
theorem skT2 : turnsM skE (partsM (tgs [1, 2] skE)) [1, 2] = false := by kernel_rfl
theorem skT3 : turnsM skE (partsM (tgs [1, 2, 3, 4] skE)) [3] = true := by kernel_rfl
theorem skT4 : turnsM skE (partsM (tgs [1, 2, 3, 4] skE)) [3, 4] = true := by kernel_rfl
theorem sk_ru {s : Hv} {d : Dv} (h : Fin skL s d) : d.C.any (fun t => (rds skL t).any ((fun _ s => !(s.fr == 0 || decide (0 < cm skL s.fr))) t)) = false := by
  rw [sk_C h]; kernel_rfl
theorem sk_rb {s : Hv} {d : Dv} (h : Fin skL s d) : d.C.any (fun t => (rds skL t).any ((btB skL) t)) = false := by
  rw [sk_C h]; kernel_rfl
theorem sk_sl {w : World} {g : Nat} (h : Blk w g skC 51) (n : Nat) (hn : n ≤ 6) : SlG encA 10 w.heap.size w (.slice (some ⟨g, 0, none⟩) n 6) (skZ.take n) := by
  have hl : (skZ.take n).length = n := by rw [List.length_take, show skZ.length = 6 from rfl]; omega
  refine ⟨some ⟨g, 0, none⟩, 6, by rw [hl], by rw [hl]; exact hn, (fun h => by cases h), fun i hi => ⟨g, 0, rfl, h.lt, fun t u hu => ?_⟩⟩
  have ht : t < 10 := by have h9 := (List.getElem?_eq_some_iff.1 hu).1; simpa [encA] using h9
  rw [hl] at hi
  have h6 : i < skZ.length := by rw [show skZ.length = 6 from rfl]; omega
  have h1 := flat_at (enc := encA) (size := 10) (fun _ => rfl) skZ i h6 t ht
  refine h.cell ?_
  rw [Nat.zero_add, List.getElem?_toArray, h1]
  rw [List.getElem_take] at hu
  exact hu

end Go.Proofs.YtncfejndmlcidaaGreat

namespace Go.Proofs.YtncfejndmlcidaaGreat
open Go.RowKit
set_option maxRecDepth 100000

theorem sk_sz : ∀ a ∈ skL, a.it.size ≤ 1 := by decide
theorem skR {w : World} {g : Nat} (h : Blk w g skC 51) (n : Nat) (hn : n ≤ 6) : RdH w.heap.size w (.slice (some ⟨g, 0, none⟩) n 6) (skZ.take n) where
  sl := sk_sl h n hn
  sn z hz := by
    obtain ⟨a, ha, rfl⟩ := List.mem_map.1 (List.take_subset _ _ hz)
    have h0 : ∀ a ∈ skL, a.sn = [] := by decide
    show SlG encS 3 w.heap.size w nilS a.sn
    rw [h0 a ha]
    exact ⟨none, 0, rfl, Nat.le_refl _, fun _ => rfl, fun i hi => absurd hi (Nat.not_lt_zero _)⟩
  ll := by rw [List.length_take]; omega
  lsn z hz := by
    obtain ⟨a, ha, rfl⟩ := List.mem_map.1 (List.take_subset _ _ hz)
    have h0 : ∀ a ∈ skL, a.sn = [] := by decide
    show a.sn.length ≤ _
    rw [h0 a ha]
    exact Nat.zero_le _
theorem sk_read {w : World} {g : Nat} (h : Blk w g skC 51) (n : Nat) (hn : n ≤ 6) (htl : tlB (skL.take n) = false) (hok : okH (skL.take n) (skL.take n).length) :
    Calls Tryz.prog 24 #[.slice (some ⟨g, 0, none⟩) n 6] w fun e w' => ∃ d, e = .returned (.tuple #[ptr1 d.s.hb, .int .i64 0, .int .i64 0]) ∧ RdD w' w'.heap.size w.heap.size (skL.take n) d ∧ Fin (skL.take n) d.s d ∧ Below w.heap.size w w' := by
  refine (read_any _ (skZ.take n) w (skR h n hn) (fun z hz => ?_)).mono ?_
  · obtain ⟨a, ha, rfl⟩ := List.mem_map.1 (List.take_subset _ _ hz)
    exact Nat.le_trans (sk_sz a ha) (by unfold maxLen; omega)
  · have em : (skZ.take n).map (·.1) = skL.take n := by rw [List.map_take]; rfl
    rw [em]
    rintro e w' ⟨hb, h1 | h1 | h1⟩
    · rw [htl] at h1; cases h1.1
    · obtain ⟨_, k, hk, _, h3, _⟩ := h1
      rw [hok k hk hk] at h3
      cases h3
    · obtain ⟨_, _, d, s, rfl, hD, hF⟩ := h1
      obtain rfl := hF.s
      exact ⟨d, rfl, ⟨w', hD, hb.size, rfl, Below.refl _ _⟩, hF, hb⟩
theorem sk_phen (N B : Nat) (d : Dv) (w : World) (hR : RdD w N B skL d) (hF : Fin skL d.s d) :
    Calls Tryz.prog 29 #[.pointer (some ⟨d.s.hb, 0, none⟩)] w fun e w' => e = .returned (phV false false false false false true true) ∧ Below w.heap.size w w' := by
  have hO : OkF skL := OkF.of sk_ok (by decide)
  have hU := unsF_none skL d sk_scs
  have hC : d.C.length = 2 := by rw [sk_C hF]; rfl
  have hE := sk_ed hF
  have h := phenomena_any N B skL d (fun _ LL => LL) w hR hF hO hU (by rw [sk_I hF]; decide) (by decide) (by rw [hE, hC]; exact skE_lt) false false false
    (fun W hW => by
      have h1 := readsU_any N B skL d W hO hF sk_scs hW
      rw [sk_ru hF] at h1
      exact h1)
    (fun W hW => by
      have h1 := readsB_any N B skL d W hO hF sk_scs hW
      rw [sk_rb hF] at h1
      exact h1)
    (fun C ob vs W hW => by
      rw [hE] at hW
      refine single0_any C ob vs skE d.C.length W hW skE_1 ?_
      rw [hC]
      exact skE_2)
  rw [hE, skT1, skT2, skT3, skT4] at h
  exact h
set_option maxHeartbeats 4000000 in
theorem sk_Phen (w : World) (g : Nat) (hK : Blk w g skC 51) :
    Calls Tryz.prog 16 #[.slice (some ⟨g, 0, none⟩) 6 6] w fun e w' => e = .returned (.tuple #[phV false false false false false true true, .int .i64 0]) ∧ Below w.heap.size w w' := by
  obtain ⟨w1, hw1⟩ : ∃ w1, w.alloc (.cells #[.bool false, .bool false, .bool false, .bool false, .bool false, .bool false, .bool false] 34) = w1 := ⟨_, rfl⟩
  have HB1 : Hid (Below w.heap.size w w1) := by rw [← hw1]; exact (Below.refl _ _).alloc (Nat.le_refl _) _
  have HK1 : Hid (Blk w1 w.heap.size #[.bool false, .bool false, .bool false, .bool false, .bool false, .bool false, .bool false] 34) := by rw [← hw1]; exact Blk.new w _ _
  have CR : Hid (Calls Tryz.prog 24 #[.slice (some ⟨g, 0, none⟩) 6 6] w1 fun e w' => ∃ d, e = .returned (.tuple #[ptr1 d.s.hb, .int .i64 0, .int .i64 0]) ∧ RdD w' w'.heap.size w1.heap.size skL d ∧ Fin skL d.s d ∧ Below w1.heap.size w1 w') := sk_read (hK.on HB1.out) 6 (Nat.le_refl _) sk_tl sk_ok
  clear hK
  go_enter Tryz.func16, Tryz.ntmps16
  go_wp2_with (first | (go_at_call 24; refine CR.out.mono ?_; rintro e w2 ⟨d, rfl, hR, hF, hb⟩; have HB2 : Hid (Below w1.heap.size w1 w2) := hb; have CP : Hid (Calls Tryz.prog 29 #[.pointer (some ⟨d.s.hb, 0, none⟩)] w2 fun e w' => e = .returned (phV false false false false false true true) ∧ Below w2.heap.size w2 w') := sk_phen _ _ d w2 hR hF; clear hR hF hb) | (go_at_call 29; refine CP.out.mono ?_; rintro e w3 ⟨rfl, hb3⟩; have HB3 : Hid (Below w1.heap.size w1 w3) := HB2.out.trans (hb3.mono HB2.out.size); have HK3 : Hid (Blk w3 w.heap.size #[.bool false, .bool false, .bool false, .bool false, .bool false, .bool false, .bool false] 34) := HK1.out.on HB3.out; clear hb3; have z0 := HK3.out.cell (i := 0) rfl; have y0 := HK3.out.frozen 0; have z1 := HK3.out.cell (i := 1) rfl; have y1 := HK3.out.frozen 1; have z2 := HK3.out.cell (i := 2) rfl; have y2 := HK3.out.frozen 2; have z3 := HK3.out.cell (i := 3) rfl; have y3 := HK3.out.frozen 3; have z4 := HK3.out.cell (i := 4) rfl; have y4 := HK3.out.frozen 4; have z5 := HK3.out.cell (i := 5) rfl; have y5 := HK3.out.frozen 5; have z6 := HK3.out.cell (i := 6) rfl; have y6 := HK3.out.frozen 6))

  have HFr : Hid (Frm w3 (((((((w3.setCell ⟨w.heap.size, 0, none⟩ (.bool false)).setCell ⟨w.heap.size, 1, none⟩ (.bool false)).setCell ⟨w.heap.size, 2, none⟩ (.bool false)).setCell ⟨w.heap.size, 3, none⟩ (.bool false)).setCell ⟨w.heap.size, 4, none⟩ (.bool false)).setCell ⟨w.heap.size, 5, none⟩ (.bool true)).setCell ⟨w.heap.size, 6, none⟩ (.bool true)) (one1 w.heap.size) ∧ Blk (((((((w3.setCell ⟨w.heap.size, 0, none⟩ (.bool false)).setCell ⟨w.heap.size, 1, none⟩ (.bool false)).setCell ⟨w.heap.size, 2, none⟩ (.bool false)).setCell ⟨w.heap.size, 3, none⟩ (.bool false)).setCell ⟨w.heap.size, 4, none⟩ (.bool false)).setCell ⟨w.heap.size, 5, none⟩ (.bool true)).setCell ⟨w.heap.size, 6, none⟩ (.bool true)) w.heap.size #[.bool false, .bool false, .bool false, .bool false, .bool false, .bool true, .bool true] 34) := ⟨((((((((Frm.refl w3 (one1 w.heap.size)).trans (frm_set _ w.heap.size 0 _ (F := one1 w.heap.size) (.inl rfl)) (fun k h => .inl h)).trans (frm_set _ w.heap.size 1 _ (F := one1 w.heap.size) (.inl rfl)) (fun k h => .inl h)).trans (frm_set _ w.heap.size 2 _ (F := one1 w.heap.size) (.inl rfl)) (fun k h => .inl h)).trans (frm_set _ w.heap.size 3 _ (F := one1 w.heap.size) (.inl rfl)) (fun k h => .inl h)).trans (frm_set _ w.heap.size 4 _ (F := one1 w.heap.size) (.inl rfl)) (fun k h => .inl h)).trans (frm_set _ w.heap.size 5 _ (F := one1 w.heap.size) (.inl rfl)) (fun k h => .inl h)).trans (frm_set _ w.heap.size 6 _ (F := one1 w.heap.size) (.inl rfl)) (fun k h => .inl h)), (((((((HK3.out.set 0 _).set 1 _).set 2 _).set 3 _).set 4 _).set 5 _).set 6 _)⟩
  generalize (((((((w3.setCell ⟨w.heap.size, 0, none⟩ (.bool false)).setCell ⟨w.heap.size, 1, none⟩ (.bool false)).setCell ⟨w.heap.size, 2, none⟩ (.bool false)).setCell ⟨w.heap.size, 3, none⟩ (.bool false)).setCell ⟨w.heap.size, 4, none⟩ (.bool false)).setCell ⟨w.heap.size, 5, none⟩ (.bool true)).setCell ⟨w.heap.size, 6, none⟩ (.bool true)) = wz at *
  have x0 : wz.cell? ⟨w.heap.size, 0, none⟩ = some (.bool false) := HFr.out.2.cell rfl
  have x1 : wz.cell? ⟨w.heap.size, 1, none⟩ = some (.bool false) := HFr.out.2.cell rfl
  have x2 : wz.cell? ⟨w.heap.size, 2, none⟩ = some (.bool false) := HFr.out.2.cell rfl
  have x3 : wz.cell? ⟨w.heap.size, 3, none⟩ = some (.bool false) := HFr.out.2.cell rfl
  have x4 : wz.cell? ⟨w.heap.size, 4, none⟩ = some (.bool false) := HFr.out.2.cell rfl
  have x5 : wz.cell? ⟨w.heap.size, 5, none⟩ = some (.bool true) := HFr.out.2.cell rfl
  have x6 : wz.cell? ⟨w.heap.size, 6, none⟩ = some (.bool true) := HFr.out.2.cell rfl
  refine bodyPost_ret (v := .tuple #[phV false false false false false true true, .int .i64 0]) (by simp [results, Tryz.results16, go_sem, x0, x1, x2, x3, x4, x5, x6]) rfl ?_
  have hb := HB1.out.trans (HB3.out.mono HB1.out.size)
  exact ⟨rfl, hb.trans (HFr.out.1.below hb.size (fun k h => by rw [show k = w.heap.size from h]; exact Nat.le_refl _))⟩
set_option maxHeartbeats 4000000 in
theorem sk_Ser (w : World) (g : Nat) (hK : Blk w g skC 51) :
    Calls Tryz.prog 20 #[.slice (some ⟨g, 0, none⟩) 4 6] w fun e w' => e = .returned (.tuple #[.slice none 0 0, .int .i64 0]) ∧ Below w.heap.size w w' := by
  have CR : Hid (Calls Tryz.prog 24 #[.slice (some ⟨g, 0, none⟩) 4 6] w fun e w' => ∃ d, e = .returned (.tuple #[ptr1 d.s.hb, .int .i64 0, .int .i64 0]) ∧ RdD w' w'.heap.size w.heap.size skL4 d ∧ Fin skL4 d.s d ∧ Below w.heap.size w w') := sk_read hK 4 (by omega) sk4_tl sk4_ok
  clear hK
  go_enter Tryz.func20, Tryz.ntmps20
  go_wp2_with (first | (go_at_call 24; refine CR.out.mono ?_; rintro e w2 ⟨d, rfl, hR, hF, hb⟩; have HB2 : Hid (Below w.heap.size w w2) := hb; have CP : Hid (Calls Tryz.prog 34 #[.pointer (some ⟨d.s.hb, 0, none⟩)] w2 fun e w' => e = .returned (.tuple #[.slice none 0 0, .int .i64 0]) ∧ Below w2.heap.size w2 w') := serial0_any _ _ skL4 d (fun _ LL => LL) w2 hR hF (OkF.of sk4_ok (by decide)) (unsF_none skL4 d sk4_scs) (by rw [sk4_I hF]; decide) (by decide) (by rw [sk4_ed hF]; exact fun l hl => by cases hl) sk4_scs (sk4_C hF); clear hR hF hb) | (go_at_call 34; refine CP.out.mono ?_; rintro e w3 ⟨rfl, hb3⟩; have HB3 : Hid (Below w.heap.size w w3) := HB2.out.trans (hb3.mono HB2.out.size); clear hb3))
  refine bodyPost_ret (v := .tuple #[.slice none 0 0, .int .i64 0]) (by simp [results, Tryz.results20, go_sem]) rfl ?_
  exact ⟨rfl, HB3.out⟩

end Go.Proofs.YtncfejndmlcidaaGreat
