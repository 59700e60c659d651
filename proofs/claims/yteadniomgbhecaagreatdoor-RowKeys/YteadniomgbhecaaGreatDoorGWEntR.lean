/- The key of an index's entry: the program's. The key of an index's entry: the document's. -/
import Derived.Test.YteadniomgbhecaaGreatDoorGWKeyR
import Derived.Test.YteadniomgbhecaaGreatDoorGMAny9
namespace Go.Proofs.YteadniomgbhecaaGreatDoor
open Go.RowKit
set_option maxRecDepth 100000

theorem slK_of {w w' : World} {p : Option Addr} {c : Nat} {K : List Int} (h : RowI w' w.heap.size p K) (hb : w.heap.size ≤ w'.heap.size) (h1 : 1 ≤ K.length) : SlK w' (.slice p K.length c) K := by
  obtain ⟨b, o, rfl, -, -⟩ := h 0 (by omega)
  refine ⟨_, c, rfl, (fun e => by cases e), fun a e => ?_, fun i hi => ?_⟩
  · cases e; exact ⟨b, o, rfl⟩
  · obtain ⟨b', o', e, hl, c0⟩ := h i hi
    exact ⟨b', o', e, Nat.lt_of_lt_of_le hl hb, c0⟩
/-- numbers in a list that is told -/
def RowIs (w : World) (v : Value) (K : List Int) : Prop := ∃ q c, v = .slice q K.length c ∧ RowI w w.heap.size q K
theorem rowIs_of {w : World} {B : Nat} {v : Value} {K : List Int} (h : OwnN w B v K) : RowIs w v K := by
  have h' := h.2
  rcases h' with ⟨rfl, h3⟩ | ⟨g, cap, cur, rfl, hb, hg, hn, -, hs, hc⟩
  · have : K = [] := List.eq_nil_of_length_eq_zero h3
    subst this
    exact ⟨none, 0, rfl, fun i hi => by cases hi⟩
  · refine ⟨_, cap, rfl, fun i hi => ⟨g, 0, rfl, (Array.getElem?_eq_some_iff.1 hg).1, ?_⟩⟩
    have hh : w.ownsRow B 3 1 (.slice (some ⟨g, 0, none⟩) K.length cap) K.length (K.map (Value.int .i64)) := h
    have h9 := World.ownsRow.cellAt hh i (by omega)
    rw [Nat.zero_add, h9, List.getElem?_map, List.getElem?_eq_getElem hi]
    rfl
theorem rowIs_row {w : World} {q : Option Addr} {n c : Nat} {K : List Int} (h : RowIs w (.slice q n c) K) : RowI w w.heap.size q K := by
  obtain ⟨q', c', e, h1⟩ := h
  obtain ⟨rfl, -, -⟩ := Value.slice.inj e
  exact h1

set_option maxHeartbeats 8000000 in
theorem rowEntry_any (t : Tb) (a : TabP) (i : Int) (l : List Vl) (p : Option Addr) (cl : Nat) (w : World) (hV : TabV w w.heap.size t a) (hok : t.ok) (hR : RowV w w.heap.size p l) (hvo : ∀ v ∈ l, v.ok) (hll : l.length ≤ 17592186043904) (hE : Env w) :
    Calls Tryz.prog 6 #[a.val t, .int .i64 i, .slice p l.length cl] w fun e w' => e = .returned (.tuple #[.string ⟨(entS t i l).1.toArray⟩, .int .i64 (entS t i l).2]) ∧ Below w.heap.size w w' := by
  obtain ⟨pc, cc, pk, ck, px, cx, pr, cr⟩ := a
  have CA : Hid (∀ w1, Below w.heap.size w w1 → Calls Tryz.prog 4 #[.agg #[.string t.nm, .slice pc t.cs.length cc, .slice pk t.key.length ck, .slice px t.ix.length cx, .slice pr t.rf.length cr], .slice p l.length cl] w1 fun e w' => e = .returned (.tuple #[.string ⟨(keyS t l).1.toArray⟩, .int .i64 (keyS t l).2]) ∧ Below w1.heap.size w1 w') := fun w1 hb => rowKey_any t ⟨pc, cc, pk, ck, px, cx, pr, cr⟩ l p cl w1 (hV.on hb) hok ((hR.keep hb).mono hb.size) hvo hll (hE.on hb)
  have HB : Hid (BoxT _ _ _ _) := BoxT.new w t ⟨pc, cc, pk, ck, px, cx, pr, cr⟩
  have hb0 : Below w.heap.size w (w.alloc (.cells #[.string t.nm, .slice pc t.cs.length cc, .slice pk t.key.length ck, .slice px t.ix.length cx, .slice pr t.rf.length cr] 27)) := by go_grown
  have hxl := hok.ix
  by_cases hk : (keyS t l).2 = 0
  · have had : admS t l = 0 := keyS_ok hk
    obtain ⟨k1, k2, k3, k4⟩ := adm_key had
    have HVV : Hid (TabV w w.heap.size t ⟨pc, cc, pk, ck, px, cx, pr, cr⟩ ∧ RowV w w.heap.size p l ∧ (∀ v ∈ l, v.ok) ∧ Env w) := ⟨hV, hR, hvo, hE⟩
    have HKK : Hid (l.length = t.cs.length ∧ t.cs.length ≤ 64 ∧ InL t.cs.length t.key ∧ ∀ i (hi : i < t.ix.length), InL t.cs.length t.ix[i].cs) := ⟨k1, k2, k3, k4⟩
    have HF : Hid (entS t i l = if 0 ≤ i ∧ i < t.ix.length then encS (pickL l ((t.ix.getD i.toNat ⟨⟨#[]⟩, [], false⟩).cs ++ t.key)) else ([], 5)) := by show _ = _; unfold entS; rw [if_pos hk]
    rw [hk] at CA
    clear hV hok hR hvo hll hE had hk k1 k2 k3 k4
    by_cases hi : 0 ≤ i ∧ i < t.ix.length
    · obtain ⟨j, rfl⟩ := Int.eq_ofNat_of_zero_le hi.1
      have hj : j < t.ix.length := by omega
      rw [if_pos hi] at HF
      have e9 : (t.ix.getD ((j : Int)).toNat ⟨⟨#[]⟩, [], false⟩) = t.ix[j] := by
        rw [List.getD_eq_getElem?_getD, Int.toNat_natCast, List.getElem?_eq_getElem hj]
        rfl
      rw [e9] at HF
      rw [HF.out]
      clear HF e9
      have gj : ¬ ((j : Int) < 0) := by omega
      have gj2 : ¬ ((t.ix.length : Int) ≤ (j : Int)) := by omega
      have gj3 : (j : Int) < (t.ix.length : Int) := by omega
      have HJ : Hid (j < t.ix.length) := hj
      have CE : Hid (∀ v w1 B, Below w.heap.size w w1 → OwnV w1 B v (pickL l (t.ix[j].cs ++ t.key)) → Calls Tryz.prog 10 #[v] w1 fun e w' => e = .returned (.tuple #[.string ⟨(encS (pickL l (t.ix[j].cs ++ t.key))).1.toArray⟩, .int .i64 (encS (pickL l (t.ix[j].cs ++ t.key))).2]) ∧ Below w1.heap.size w1 w') := by
        intro v w1 B hb ho
        obtain ⟨p1, c1, rfl, hr1⟩ := ho.row
        obtain ⟨k1, k2, k3, k4⟩ := HKK.out
        have k5 := k4 j hj
        refine encode_any _ p1 c1 w1 hr1 (pickL_ok HVV.out.2.2.1 (fun x hx => ?_)) (by rw [pickL_len, List.length_append]; have := k3.2.1; have := k5.2.1; omega) (HVV.out.2.2.2.on hb).hg (HVV.out.2.2.2.on hb).hT
        rw [k1]
        rcases List.mem_append.1 hx with h9 | h9
        · exact k5.1 x h9
        · exact k3.1 x h9
      have CP : Hid (∀ q c w1, Below w.heap.size w w1 → RowI w1 w1.heap.size q (t.ix[j].cs ++ t.key) → Calls Tryz.prog 11 #[.slice p l.length cl, .slice q (t.ix[j].cs ++ t.key).length c] w1 fun e w' => ∃ v, e = .returned v ∧ OwnV w' w1.heap.size v (pickL l (t.ix[j].cs ++ t.key)) ∧ Below w1.heap.size w1 w') := by
        intro q c w1 hb hq
        obtain ⟨k1, k2, k3, k4⟩ := HKK.out
        have k5 := k4 j hj
        refine pick_any l _ p q cl c w1 ((HVV.out.2.1.keep hb).mono hb.size) hq (fun x hx => ?_) (by omega) (by rw [List.length_append]; have := k3.2.1; have := k5.2.1; omega)
        rw [k1]
        rcases List.mem_append.1 hx with h9 | h9
        · exact k5.1 x h9
        · exact k3.1 x h9
      generalize encS (pickL l (t.ix[j].cs ++ t.key)) = r at *
      unfold TabP.val
      dsimp only
      go_enter Tryz.func6, Tryz.ntmps6
      go_wp2_with fail
      refine (CA.out _ hb0).mono ?_
      rintro e w1 ⟨rfl, hb1⟩
      have hdr : Below w1.heap.size w1 w1.drew := (Below.refl _ _).drew
      have hb1' := hb1.trans (hdr.mono hb1.size)
      have h01 : Below w.heap.size w w1.drew := hb0.trans (hb1'.mono hb0.size)
      have HB1 : Hid (BoxT w1.drew w.heap.size t ⟨pc, cc, pk, ck, px, cx, pr, cr⟩) := HB.out.on hb1' (by simp)
      have HB0 : Hid (BoxT w1 w.heap.size t ⟨pc, cc, pk, ck, px, cx, pr, cr⟩) := HB.out.on hb1 (by simp)
      obtain ⟨hz1, e0, e1, e2, e3, e4⟩ := HB1.out
      obtain ⟨hz0, f0, f1, f2, f3, f4⟩ := HB0.out
      dsimp only at e0 e1 e2 e3 e4 f0 f1 f2 f3 f4
      have H01 : Hid (Below w.heap.size w w1.drew) := h01
      have HBL : Hid (∀ w', Below w1.drew.heap.size w1.drew w' → BoxT w' w.heap.size t ⟨pc, cc, pk, ck, px, cx, pr, cr⟩) := fun w' hb => HB1.out.on hb hz1
      obtain ⟨xb, xo, hpx, -, -, ⟨xq, xc, y1, hri⟩, -⟩ := (HVV.out.1.on h01).ix j hj
      dsimp only at hpx
      subst hpx
      have HRI : Hid (RowI w1.drew w1.drew.heap.size xq t.ix[j].cs) := hri
      clear CA hb1 hb1' hb0 HB h01 hz1 hdr hz0 e0 e1 e4 f0 f1 f4 hri
      have CC : Hid (Calls Tryz.prog 15 #[.slice (some ⟨w1.drew.heap.size, 0, none⟩) 2 2] (w1.drew.alloc (.cells #[.slice xq t.ix[j].cs.length xc, .slice pk t.key.length ck] 23)) fun e w' => (∃ v, e = .returned v ∧ OwnN w' (w1.drew.alloc (.cells #[.slice xq t.ix[j].cs.length xc, .slice pk t.key.length ck] 23)).heap.size v (t.ix[j].cs ++ t.key)) ∧ Below (w1.drew.alloc (.cells #[.slice xq t.ix[j].cs.length xc, .slice pk t.key.length ck] 23)).heap.size (w1.drew.alloc (.cells #[.slice xq t.ix[j].cs.length xc, .slice pk t.key.length ck] 23)) w') := by
        have hal : Below w1.drew.heap.size w1.drew (w1.drew.alloc (.cells #[.slice xq t.ix[j].cs.length xc, .slice pk t.key.length ck] 23)) := (Below.refl _ _).alloc (Nat.le_refl _) _
        obtain ⟨k1, k2, k3, k4⟩ := HKK.out
        have k5 := k4 j HJ.out
        have c0 : (w1.drew.alloc (.cells #[.slice xq t.ix[j].cs.length xc, .slice pk t.key.length ck] 23)).cell? ⟨w1.drew.heap.size, 0, none⟩ = some (.slice xq t.ix[j].cs.length xc) := by rw [World.cell?_alloc_new]; rfl
        have c1 : (w1.drew.alloc (.cells #[.slice xq t.ix[j].cs.length xc, .slice pk t.key.length ck] 23)).cell? ⟨w1.drew.heap.size, 1, none⟩ = some (.slice pk t.key.length ck) := by rw [World.cell?_alloc_new]; rfl
        have s0 : SlK (w1.drew.alloc (.cells #[.slice xq t.ix[j].cs.length xc, .slice pk t.key.length ck] 23)) (.slice xq t.ix[j].cs.length xc) t.ix[j].cs := slK_of (HRI.out.keep hal) hal.size k5.2.2
        have s1 : SlK (w1.drew.alloc (.cells #[.slice xq t.ix[j].cs.length xc, .slice pk t.key.length ck] 23)) (.slice pk t.key.length ck) t.key := slK_of ((HVV.out.1.on H01.out).key.keep hal) hal.size k3.2.2
        have h9 := concatK_any [t.ix[j].cs, t.key] w1.drew.heap.size (w1.drew.alloc (.cells #[.slice xq t.ix[j].cs.length xc, .slice pk t.key.length ck] 23)) (by simp) (fun i hi => ?_) (by simp) (fun L hL => ?_)
        · have e9 : [t.ix[j].cs, t.key].flatten = t.ix[j].cs ++ t.key := by simp
          rw [e9] at h9
          exact h9
        · match i, hi with
          | 0, _ => exact ⟨_, c0, s0⟩
          | 1, _ => exact ⟨_, c1, s1⟩
        · simp only [List.mem_cons, List.not_mem_nil, or_false] at hL
          rcases hL with rfl | rfl
          · have := k5.2.1; omega
          · have := k3.2.1; omega
      have HBA : Hid (Below w.heap.size w (w1.drew.alloc (.cells #[.slice xq t.ix[j].cs.length xc, .slice pk t.key.length ck] 23))) := H01.out.alloc H01.out.size _
      go_upto_region 6 with fail
      refine wp_region_any (by kernel_rfl) ?_
      change wpAny _ _ _ _ _ _ _ (World.drew _)
      clear f2 f3 HB0
      generalize w1.drew = wd at *
      obtain ⟨kn, hkn⟩ : ∃ kn, (t.ix[j].cs ++ t.key).length = kn := ⟨_, rfl⟩
      rw [hkn] at CP
      have HKl : Hid ((t.ix[j].cs ++ t.key).length = kn) := hkn
      generalize pickL l (t.ix[j].cs ++ t.key) = VV at *
      generalize t.ix[j].cs ++ t.key = KK at *
      clear hkn
      generalize t.ix[j].cs.length = xl at *
      refine tk (v := ?_) 0 rfl ?_ ?_
      rotate_left
      focus
        intro w9
        go_simp
        try with_reducible rfl
      try simp only [aP]
      refine tk (v := ?_) 1 rfl ?_ ?_
      rotate_left
      focus
        intro w9
        go_simp
        try with_reducible rfl
      try simp only [aP]
      refine tk (v := ?_) 3 rfl ?_ ?_
      rotate_left
      focus
        intro w9
        go_simp
        try with_reducible rfl
      try simp only [aP]
      refine tk (v := ?_) 7 rfl ?_ ?_
      rotate_left
      focus
        intro w9
        go_simp
        try with_reducible rfl
      try simp only [aP]
      apply later4 (fun (_ : Option Addr) (_ : Nat) (_ : Value) (w7 : World) => Hid (Below w.heap.size w w7))
      intro hs2_6_8_9_10_11_12
      apply later4 (fun (_ : Option Addr) (_ : Nat) (v6 : Value) (w6 : World) => Hid ((∃ B, OwnV w6 B v6 VV) ∧ Below w.heap.size w w6))
      intro hs2_6_8_9_10_11
      apply later3 (fun (q5 : Option Addr) (c5 : Nat) (w5 : World) => Hid (RowIs w5 (.slice q5 kn c5) KK ∧ Below w.heap.size w w5))
      intro hs2_6_8_9_10
      apply later0
      intro hs2_6_8_9
      apply later0
      intro hs2_6_8
      apply later0
      intro hs2_8
      apply later0
      intro hs2_6
      apply later0
      intro hs8
      apply later0
      intro hs2
      · refine wpAny_ready (rs := [2, 8]) (by kernel_rfl) (by simp) ?_
        refine anyN_cons 2 rfl (by rfl) (fun K hK => ?_) (anyN_cons 8 rfl (by rfl) (fun K hK => ?_) AllReady.nil)
        · go_simp
          refine hK.out _ _ ?_
          clear hK K
          try simp only [aP]
          refine tk (v := ?_) 4 rfl ?_ ?_
          rotate_left
          focus
            intro w9
            go_simp
            try with_reducible rfl
          try simp only [aP]
          refine tk (v := ?_) 5 rfl ?_ ?_
          rotate_left
          focus
            intro w9
            go_simp
            try with_reducible rfl
          try simp only [aP]
          exact hs2
        · go_simp
          refine hK.out _ _ ?_
          clear hK K
          try simp only [aP]
          exact hs8
      · refine wpAny_ready (rs := [6, 8]) (by kernel_rfl) (by simp) ?_
        refine anyN_cons 6 rfl (by rfl) (fun K hK => ?_) (anyN_cons 8 rfl (by rfl) (fun K hK => ?_) AllReady.nil)
        · go_simp
          refine hK.out _ _ ?_
          clear hK K
          try simp only [aP]
          exact hs2_6
        · go_simp
          refine hK.out _ _ ?_
          clear hK K
          try simp only [aP]
          exact hs2_8
      · refine wpAny_ready (rs := [2]) (by kernel_rfl) (by simp) ?_
        refine anyN_cons 2 rfl (by rfl) (fun K hK => ?_) AllReady.nil
        go_simp
        refine hK.out _ _ ?_
        clear hK K
        try simp only [aP]
        refine tk (v := ?_) 4 rfl ?_ ?_
        rotate_left
        focus
          intro w9
          go_simp
          try with_reducible rfl
        try simp only [aP]
        refine tk (v := ?_) 5 rfl ?_ ?_
        rotate_left
        focus
          intro w9
          go_simp
          try with_reducible rfl
        try simp only [aP]
        exact hs2_8
      · refine wpAny_ready (rs := [8]) (by kernel_rfl) (by simp) ?_
        refine anyN_cons 8 rfl (by rfl) (fun K hK => ?_) AllReady.nil
        go_simp
        refine hK.out _ _ ?_
        clear hK K
        try simp only [aP]
        exact hs2_6_8
      · refine wpAny_ready (rs := [6]) (by kernel_rfl) (by simp) ?_
        refine anyN_cons 6 rfl (by rfl) (fun K hK => ?_) AllReady.nil
        go_simp
        refine hK.out _ _ ?_
        clear hK K
        try simp only [aP]
        exact hs2_6_8
      · refine wpAny_ready (rs := [9]) (by kernel_rfl) (by simp) ?_
        refine anyN_cons 9 rfl (by rfl) (fun K hK => ?_) AllReady.nil
        go_simp
        refine hK.out _ _ ?_
        clear hK K
        try simp only [aP]
        exact hs2_6_8_9
      · refine wpAny_ready (rs := [10]) (by kernel_rfl) (by simp) ?_
        refine anyN_cons 10 rfl (by rfl) (fun K hK => ?_) AllReady.nil
        go_simp
        refine CC.out.mono ?_
        rintro e w5 ⟨⟨v5, rfl, ho5⟩, hb5⟩
        dsimp only
        have H5 : Hid (RowIs w5 v5 KK ∧ Below w.heap.size w w5) := ⟨rowIs_of ho5, HBA.out.trans (hb5.mono HBA.out.size)⟩
        obtain ⟨q5, c5, hv5, -⟩ := H5.out.1
        rw [HKl.out] at hv5
        subst hv5
        clear ho5 hb5
        refine hK.out _ _ ?_
        clear hK K
        try simp only [aP]
        exact hs2_6_8_9_10 q5 c5 w5 H5
      · intro q5 c5 w5 H5
        refine wpAny_ready (rs := [11]) (by kernel_rfl) (by simp) ?_
        refine anyN_cons 11 rfl (by rfl) (fun K hK => ?_) AllReady.nil
        go_simp
        refine (CP.out q5 c5 w5 H5.out.2 (rowIs_row H5.out.1)).mono ?_
        rintro e w6 ⟨v6, rfl, ho6, hb6⟩
        dsimp only
        have H6 : Hid ((∃ B, OwnV w6 B v6 VV) ∧ Below w.heap.size w w6) := ⟨⟨_, ho6⟩, H5.out.2.trans (hb6.mono H5.out.2.size)⟩
        clear ho6 hb6
        refine hK.out _ _ ?_
        clear hK K
        try simp only [aP]
        exact hs2_6_8_9_10_11 q5 c5 v6 w6 H6
      · intro q5 c5 v6 w6 H6
        refine wpAny_ready (rs := [12]) (by kernel_rfl) (by simp) ?_
        refine anyN_cons 12 rfl (by rfl) (fun K hK => ?_) AllReady.nil
        go_simp
        obtain ⟨B6, ho6⟩ := H6.out.1
        refine (CE.out v6 w6 _ H6.out.2 ho6).mono ?_
        rintro e w7 ⟨rfl, hb7⟩
        dsimp only
        have H7 : Hid (Below w.heap.size w w7) := H6.out.2.trans (hb7.mono H6.out.2.size)
        clear hb7
        refine hK.out _ _ ?_
        clear hK K
        try simp only [aP]
        refine tk (v := ?_) 13 rfl ?_ ?_
        rotate_left
        focus
          intro w9
          go_simp
          try with_reducible rfl
        try simp only [aP]
        refine tk (v := ?_) 14 rfl ?_ ?_
        rotate_left
        focus
          intro w9
          go_simp
          try with_reducible rfl
        try simp only [aP]
        exact hs2_6_8_9_10_11_12 q5 c5 v6 w7 H7
      · intro q5 c5 v6 w7 H7
        refine tk (v := ?_) 15 rfl ?_ ?_
        rotate_left
        focus
          intro w9
          go_simp
          try with_reducible rfl
        try simp only [aP]
        refine tk (v := ?_) 16 rfl ?_ ?_
        rotate_left
        focus
          intro w9
          go_simp
          try with_reducible rfl
        try simp only [aP]
        refine wpAny_done (by kernel_rfl) ?_ _
        go_wp2_with fail
        go_ret2
        exact ⟨rfl, H7.out⟩
    · rw [if_neg hi] at HF
      rw [HF.out]
      clear HF
      by_cases h0 : i < 0
      · unfold TabP.val
        dsimp only
        go_enter Tryz.func6, Tryz.ntmps6
        go_wp2_with fail
        refine (CA.out _ hb0).mono ?_
        rintro e w1 ⟨rfl, hb1⟩
        have HB1 : Hid (BoxT w1 w.heap.size t ⟨pc, cc, pk, ck, px, cx, pr, cr⟩) := HB.out.on hb1 (by simp)
        obtain ⟨hz1, e0, e1, e2, e3, e4⟩ := HB1.out
        dsimp only at e0 e1 e2 e3 e4
        have H01 : Hid (Below w.heap.size w w1) := hb0.trans (hb1.mono hb0.size)
        clear hb1 hb0 CA HB hi
        go_wp2_with fail
        go_ret2
        exact ⟨rfl, H01.out⟩
      · have g2 : (t.ix.length : Int) ≤ i := by omega
        unfold TabP.val
        dsimp only
        go_enter Tryz.func6, Tryz.ntmps6
        go_wp2_with fail
        refine (CA.out _ hb0).mono ?_
        rintro e w1 ⟨rfl, hb1⟩
        have HB1 : Hid (BoxT w1 w.heap.size t ⟨pc, cc, pk, ck, px, cx, pr, cr⟩) := HB.out.on hb1 (by simp)
        obtain ⟨hz1, e0, e1, e2, e3, e4⟩ := HB1.out
        dsimp only at e0 e1 e2 e3 e4
        have H01 : Hid (Below w.heap.size w w1) := hb0.trans (hb1.mono hb0.size)
        clear hb1 hb0 CA HB hi
        go_wp2_with fail
        go_ret2
        exact ⟨rfl, H01.out⟩
  · have HF : Hid (entS t i l = ([], (keyS t l).2)) := by show _ = _; unfold entS; rw [if_neg hk]
    rw [HF.out]
    clear hV hok hR hvo hll hE HF
    generalize keyS t l = kr at *
    obtain ⟨kb, d⟩ := kr
    dsimp only at hk CA ⊢
    unfold TabP.val
    dsimp only
    go_enter Tryz.func6, Tryz.ntmps6
    go_wp2_with fail
    refine (CA.out _ hb0).mono ?_
    rintro e w1 ⟨rfl, hb1⟩
    have H01 : Hid (Below w.heap.size w w1) := hb0.trans (hb1.mono hb0.size)
    clear hb1 hb0 CA HB
    go_wp2_with fail
    go_ret2
    exact ⟨rfl, H01.out⟩

end Go.Proofs.YteadniomgbhecaaGreatDoor

namespace Go.Proofs.YteadniomgbhecaaGreatDoor
open Go.RowKit
set_option maxRecDepth 100000

theorem rowV_cellsK {w : World} {B b o : Nat} {L : List Vl} (h : RowV w B (some ⟨b, o, none⟩) L) : ∀ j y, (vcells L)[j]? = some y → w.cell? ((⟨b, o, none⟩ : Addr).add j) = some y := by
  intro j y hj
  have hl : j < L.length * 4 := by have := (List.getElem?_eq_some_iff.1 hj).1; rw [vcells_len] at this; exact this
  have e : (⟨b, o, none⟩ : Addr).add j = ⟨b, o + j, none⟩ := by unfold Addr.add; split <;> simp_all
  rw [e]
  have hi : j / 4 < L.length := by omega
  obtain ⟨b', o', e', _, c0, c1, c2, c3⟩ := h (j / 4) hi
  injection e' with e'
  injection e' with e1 e2
  subst e1 e2
  have h4 : j % 4 = 0 ∨ j % 4 = 1 ∨ j % 4 = 2 ∨ j % 4 = 3 := by omega
  rcases h4 with e | e | e | e
  · have ej : j = j / 4 * 4 + 0 := by omega
    rw [ej, vcell_at L _ hi 0 (by decide)] at hj
    rw [show o + j = o + j / 4 * 4 by omega, c0]
    exact hj
  · have ej : j = j / 4 * 4 + 1 := by omega
    rw [ej, vcell_at L _ hi 1 (by decide)] at hj
    rw [show o + j = o + j / 4 * 4 + 1 by omega, c1]
    exact hj
  · have ej : j = j / 4 * 4 + 2 := by omega
    rw [ej, vcell_at L _ hi 2 (by decide)] at hj
    rw [show o + j = o + j / 4 * 4 + 2 by omega, c2]
    exact hj
  · have ej : j = j / 4 * 4 + 3 := by omega
    rw [ej, vcell_at L _ hi 3 (by decide)] at hj
    rw [show o + j = o + j / 4 * 4 + 3 by omega, c3]
    exact hj
theorem vcells_oneK (L : List Vl) : ∀ y ∈ vcells L, y.oneCell' = true := by
  intro y hy
  simp only [vcells, List.mem_flatMap, vcell] at hy
  obtain ⟨r, _, h⟩ := hy
  simp at h
  rcases h with rfl | rfl | rfl | rfl <;> rfl
theorem wp_appVV {o : Oper} {a : Act} {K : Act → World → Prop} {Q : Exit → Act → World → Prop} (W : World) (s x : Operand)
    (ho : o.op = .call { callee := .builtin .append, args := #[s, x], argTypes := #[28, 28] })
    (B : Nat) (v : Value) (A R : List Vl) (hs : a.eval s = v) (hown : OwnV W B v A) (p : Option Addr) (c : Nat) (hx : a.eval x = .slice p R.length c) (h1 : 1 ≤ R.length) (hR : RowV W W.heap.size p R)
    (hlen : A.length + R.length ≤ 1000) (hbase : B ≤ W.heap.size)
    (h : ∀ v' w', OwnV w' B v' (A ++ R) → Below B W w' → K (a.put o.dst v') w') : Oper.wp Tryz.prog o a W K Q := by
  obtain ⟨i, hi, hz0, hz1, hz2⟩ := info_parts info_val
  obtain ⟨b, o', rfl, -⟩ := hR 0 (by omega)
  refine wp_append_own _ s x 28 ho B 45 i (.agg #[.int .i64 0, .int .i64 0, .float .f64 0, .string ⟨#[]⟩]) 4 40 Tryz.underlying28 hi hz0 hz1 hz2 rfl (by decide) v A.length (vcells A) hs hown ⟨b, o', none⟩ R.length c (vcells R) hx (by rw [vcells_len]) (rowV_cellsK hR) (vcells_oneK R) (by unfold maxLen; omega) (by omega) hbase ?_
  intro v' w' h2 h3 _
  refine h v' w' ?_ ((Below.refl _ _).grown h3 hbase (fun k hk => (World.ownsRow.lt hown k hk).1))
  unfold OwnV
  rw [vcells_append, List.length_append]
  exact h2

set_option maxHeartbeats 8000000 in
theorem refEntry_any (t : Tb) (a : TabP) (i : Int) (l : List Vl) (p : Option Addr) (cl : Nat) (w : World) (hV : TabV w w.heap.size t a) (hok : t.ok) (hR : RowV w w.heap.size p l) (hvo : ∀ v ∈ l, v.ok) (hll : l.length ≤ 17592186043904) (hE : Env w) :
    Calls Tryz.prog 7 #[a.val t, .int .i64 i, .slice p l.length cl] w fun e w' => e = .returned (.tuple #[.string ⟨(entS t i l).1.toArray⟩, .int .i64 (entS t i l).2]) ∧ Below w.heap.size w w' := by
  obtain ⟨pc, cc, pk, ck, px, cx, pr, cr⟩ := a
  have CA : Hid (∀ w1, Below w.heap.size w w1 → Calls Tryz.prog 5 #[.agg #[.string t.nm, .slice pc t.cs.length cc, .slice pk t.key.length ck, .slice px t.ix.length cx, .slice pr t.rf.length cr], .slice p l.length cl] w1 fun e w' => e = .returned (.tuple #[.string ⟨(keyS t l).1.toArray⟩, .int .i64 (keyS t l).2]) ∧ Below w1.heap.size w1 w') := fun w1 hb => refKey_any t ⟨pc, cc, pk, ck, px, cx, pr, cr⟩ l p cl w1 (hV.on hb) hok ((hR.keep hb).mono hb.size) hvo hll (hE.on hb)
  have HB : Hid (BoxT _ _ _ _) := BoxT.new w t ⟨pc, cc, pk, ck, px, cx, pr, cr⟩
  have hb0 : Below w.heap.size w (w.alloc (.cells #[.string t.nm, .slice pc t.cs.length cc, .slice pk t.key.length ck, .slice px t.ix.length cx, .slice pr t.rf.length cr] 27)) := by go_grown
  have hxl := hok.ix
  by_cases hk : (keyS t l).2 = 0
  · have had : admS t l = 0 := keyS_ok hk
    obtain ⟨k1, k2, k3, k4⟩ := adm_key had
    have HVV : Hid (TabV w w.heap.size t ⟨pc, cc, pk, ck, px, cx, pr, cr⟩ ∧ RowV w w.heap.size p l ∧ (∀ v ∈ l, v.ok) ∧ Env w) := ⟨hV, hR, hvo, hE⟩
    have HKK : Hid (l.length = t.cs.length ∧ t.cs.length ≤ 64 ∧ InL t.cs.length t.key ∧ ∀ i (hi : i < t.ix.length), InL t.cs.length t.ix[i].cs) := ⟨k1, k2, k3, k4⟩
    have HF : Hid (entS t i l = if 0 ≤ i ∧ i < t.ix.length then encS (pickL l ((t.ix.getD i.toNat ⟨⟨#[]⟩, [], false⟩).cs ++ t.key)) else ([], 5)) := by show _ = _; unfold entS; rw [if_pos hk]
    rw [hk] at CA
    clear hV hok hR hvo hll hE had hk k1 k2 k3 k4
    by_cases hi : 0 ≤ i ∧ i < t.ix.length
    · obtain ⟨j, rfl⟩ := Int.eq_ofNat_of_zero_le hi.1
      have hj : j < t.ix.length := by omega
      rw [if_pos hi] at HF
      have e9 : (t.ix.getD ((j : Int)).toNat ⟨⟨#[]⟩, [], false⟩) = t.ix[j] := by
        rw [List.getD_eq_getElem?_getD, Int.toNat_natCast, List.getElem?_eq_getElem hj]
        rfl
      rw [e9] at HF
      rw [HF.out]
      clear HF e9
      have gj : ¬ ((j : Int) < 0) := by omega
      have gj2 : ¬ ((t.ix.length : Int) ≤ (j : Int)) := by omega
      have gj3 : (j : Int) < (t.ix.length : Int) := by omega
      have HJ : Hid (j < t.ix.length) := hj
      have CE : Hid (∀ v w1 B, Below w.heap.size w w1 → OwnV w1 B v (pickL l (t.ix[j].cs ++ t.key)) → Calls Tryz.prog 13 #[v] w1 fun e w' => e = .returned (.tuple #[.string ⟨(encS (pickL l (t.ix[j].cs ++ t.key))).1.toArray⟩, .int .i64 (encS (pickL l (t.ix[j].cs ++ t.key))).2]) ∧ Below w1.heap.size w1 w') := by
        intro v w1 B hb ho
        obtain ⟨p1, c1, rfl, hr1⟩ := ho.row
        obtain ⟨k1, k2, k3, k4⟩ := HKK.out
        have k5 := k4 j hj
        refine rencode_any _ p1 c1 w1 hr1 (pickL_ok HVV.out.2.2.1 (fun x hx => ?_)) (by rw [pickL_len, List.length_append]; have := k3.2.1; have := k5.2.1; omega) (HVV.out.2.2.2.on hb).hg (HVV.out.2.2.2.on hb).hT
        rw [k1]
        rcases List.mem_append.1 hx with h9 | h9
        · exact k5.1 x h9
        · exact k3.1 x h9
      have CP : Hid (∀ K, InL t.cs.length K → ∀ q c w1, Below w.heap.size w w1 → RowI w1 w1.heap.size q K → Calls Tryz.prog 14 #[.slice q K.length c, .slice p l.length cl] w1 fun e w' => ∃ v, e = .returned v ∧ OwnV w' w1.heap.size v (pickL l K) ∧ Below w1.heap.size w1 w') := by
        intro K hK q c w1 hb hq
        obtain ⟨k1, k2, k3, k4⟩ := HKK.out
        exact rpicks_any l K p q cl c w1 ((HVV.out.2.1.keep hb).mono hb.size) hq (by rw [k1]; exact hK.1) (by omega) (by have := hK.2.1; omega)
      generalize encS (pickL l (t.ix[j].cs ++ t.key)) = r at *
      unfold TabP.val
      dsimp only
      go_enter Tryz.func7, Tryz.ntmps7
      go_wp2_with fail
      refine (CA.out _ hb0).mono ?_
      rintro e w1 ⟨rfl, hb1⟩
      have hdr : Below w1.heap.size w1 w1.drew := (Below.refl _ _).drew
      have hb1' := hb1.trans (hdr.mono hb1.size)
      have h01 : Below w.heap.size w w1.drew := hb0.trans (hb1'.mono hb0.size)
      have HB1 : Hid (BoxT w1.drew w.heap.size t ⟨pc, cc, pk, ck, px, cx, pr, cr⟩) := HB.out.on hb1' (by simp)
      have HB0 : Hid (BoxT w1 w.heap.size t ⟨pc, cc, pk, ck, px, cx, pr, cr⟩) := HB.out.on hb1 (by simp)
      obtain ⟨hz1, e0, e1, e2, e3, e4⟩ := HB1.out
      obtain ⟨hz0, f0, f1, f2, f3, f4⟩ := HB0.out
      dsimp only at e0 e1 e2 e3 e4 f0 f1 f2 f3 f4
      have H01 : Hid (Below w.heap.size w w1.drew) := h01
      have HBL : Hid (∀ w', Below w1.drew.heap.size w1.drew w' → BoxT w' w.heap.size t ⟨pc, cc, pk, ck, px, cx, pr, cr⟩) := fun w' hb => HB1.out.on hb hz1
      obtain ⟨xb, xo, hpx, -, -, ⟨xq, xc, y1, hri⟩, -⟩ := (HVV.out.1.on h01).ix j hj
      dsimp only at hpx
      subst hpx
      have HRI : Hid (RowI w1.drew w1.drew.heap.size xq t.ix[j].cs) := hri
      clear CA hb1 hb1' hb0 HB h01 hz1 hdr hz0 e0 e1 e4 f0 f1 f4 hri
      have HK3 : Hid (InL t.cs.length t.key ∧ InL t.cs.length t.ix[j].cs ∧ t.cs.length ≤ 64) := ⟨HKK.out.2.2.1, HKK.out.2.2.2 j HJ.out, HKK.out.2.1⟩
      have C7 : Hid (Calls Tryz.prog 14 #[.slice xq t.ix[j].cs.length xc, .slice p l.length cl] w1.drew fun e w' => ∃ v, e = .returned v ∧ OwnV w' w1.drew.heap.size v (pickL l t.ix[j].cs) ∧ Below w1.drew.heap.size w1.drew w') := CP.out _ HK3.out.2.1 xq xc w1.drew H01.out HRI.out
      have C8 : Hid (∀ w', Below w1.drew.heap.size w1.drew w' → Calls Tryz.prog 14 #[.slice pk t.key.length ck, .slice p l.length cl] w' fun e w'' => ∃ v, e = .returned v ∧ OwnV w'' w'.heap.size v (pickL l t.key) ∧ Below w'.heap.size w' w'') := by
        intro w' hb
        have h1 := H01.out.trans (hb.mono H01.out.size)
        exact CP.out _ HK3.out.1 pk ck w' h1 (HVV.out.1.on h1).key
      have HAp : Hid (pickL l (t.ix[j].cs ++ t.key) = pickL l t.ix[j].cs ++ pickL l t.key) := pickL_app _ _ _
      have HPl : Hid ((pickL l t.ix[j].cs).length ≤ 64 ∧ (pickL l t.key).length ≤ 64 ∧ 1 ≤ (pickL l t.key).length) := by
        obtain ⟨h1, h2, h3⟩ := HK3.out
        rw [Hid, pickL_len, pickL_len]
        have := h1.2.1; have := h1.2.2; have := h2.2.1
        omega
      clear CP
      go_upto_region 6 with fail
      refine wp_region_any (by kernel_rfl) ?_
      change wpAny _ _ _ _ _ _ _ (World.drew _)
      clear f2 f3 HB0
      generalize w1.drew = wd at *
      generalize pickL l (t.ix[j].cs ++ t.key) = VV at *
      generalize pickL l t.ix[j].cs = VA at *
      generalize pickL l t.key = VB at *
      generalize t.ix[j].cs.length = xl at *
      refine tk (v := ?_) 0 rfl ?_ ?_
      rotate_left
      focus
        intro w9
        go_simp
        try with_reducible rfl
      try simp only [aP]
      refine tk (v := ?_) 2 rfl ?_ ?_
      rotate_left
      focus
        intro w9
        go_simp
        try with_reducible rfl
      try simp only [aP]
      refine tk (v := ?_) 6 rfl ?_ ?_
      rotate_left
      focus
        intro w9
        go_simp
        try with_reducible rfl
      try simp only [aP]
      refine tk (v := ?_) 8 rfl ?_ ?_
      rotate_left
      focus
        intro w9
        go_simp
        try with_reducible rfl
      try simp only [aP]
      refine tk (v := ?_) 10 rfl ?_ ?_
      rotate_left
      focus
        intro w9
        go_simp
        try with_reducible rfl
      try simp only [aP]
      apply later7 (fun (_ : Value) (_ : Option Addr) (_ : Nat) (_ : Nat) (_ : Value) (_ : Nat) (w8 : World) => Hid (Below w.heap.size w w8))
      intro hs1_5_7_9_11_12_13
      apply later7 (fun (_ : Value) (_ : Option Addr) (_ : Nat) (_ : Nat) (v7 : Value) (_ : Nat) (w7 : World) => Hid (OwnV w7 wd.heap.size v7 (VA ++ VB) ∧ Below wd.heap.size wd w7))
      intro hs1_5_7_9_11_12
      apply later5 (fun (v5 : Value) (q6 : Option Addr) (n6 : Nat) (_ : Nat) (w6 : World) => Hid (OwnV w6 wd.heap.size v5 VA ∧ RowV w6 w6.heap.size q6 VB ∧ VB.length = n6 ∧ Below wd.heap.size wd w6))
      intro hs1_5_7_9_11
      apply later2 (fun (v5 : Value) (w5 : World) => Hid (OwnV w5 wd.heap.size v5 VA ∧ Below wd.heap.size wd w5))
      intro hs1_5_7_9
      apply later0
      intro hs1_5_9
      apply later2 (fun (v5 : Value) (w5 : World) => Hid (OwnV w5 wd.heap.size v5 VA ∧ Below wd.heap.size wd w5))
      intro hs1_5_7
      apply later0
      intro hs1_9
      apply later0
      intro hs1_5
      apply later0
      intro hs9
      apply later0
      intro hs1
      · refine wpAny_ready (rs := [1, 9]) (by kernel_rfl) (by simp) ?_
        refine anyN_cons 1 rfl (by rfl) (fun K hK => ?_) (anyN_cons 9 rfl (by rfl) (fun K hK => ?_) AllReady.nil)
        · go_simp
          refine hK.out _ _ ?_
          clear hK K
          try simp only [aP]
          refine tk (v := ?_) 3 rfl ?_ ?_
          rotate_left
          focus
            intro w9
            go_simp
            try with_reducible rfl
          try simp only [aP]
          refine tk (v := ?_) 4 rfl ?_ ?_
          rotate_left
          focus
            intro w9
            go_simp
            try with_reducible rfl
          try simp only [aP]
          exact hs1
        · go_simp
          refine hK.out _ _ ?_
          clear hK K
          try simp only [aP]
          exact hs9
      · refine wpAny_ready (rs := [5, 9]) (by kernel_rfl) (by simp) ?_
        refine anyN_cons 5 rfl (by rfl) (fun K hK => ?_) (anyN_cons 9 rfl (by rfl) (fun K hK => ?_) AllReady.nil)
        · go_simp
          refine hK.out _ _ ?_
          clear hK K
          try simp only [aP]
          exact hs1_5
        · go_simp
          refine hK.out _ _ ?_
          clear hK K
          try simp only [aP]
          exact hs1_9
      · refine wpAny_ready (rs := [1]) (by kernel_rfl) (by simp) ?_
        refine anyN_cons 1 rfl (by rfl) (fun K hK => ?_) AllReady.nil
        go_simp
        refine hK.out _ _ ?_
        clear hK K
        try simp only [aP]
        refine tk (v := ?_) 3 rfl ?_ ?_
        rotate_left
        focus
          intro w9
          go_simp
          try with_reducible rfl
        try simp only [aP]
        refine tk (v := ?_) 4 rfl ?_ ?_
        rotate_left
        focus
          intro w9
          go_simp
          try with_reducible rfl
        try simp only [aP]
        exact hs1_9
      · refine wpAny_ready (rs := [7, 9]) (by kernel_rfl) (by simp) ?_
        refine anyN_cons 7 rfl (by rfl) (fun K hK => ?_) (anyN_cons 9 rfl (by rfl) (fun K hK => ?_) AllReady.nil)
        · go_simp
          refine C7.out.mono ?_
          rintro e w5 ⟨v5, rfl, ho5, hb5⟩
          dsimp only
          have H5 : Hid (OwnV w5 wd.heap.size v5 VA ∧ Below wd.heap.size wd w5) := ⟨ho5, hb5⟩
          clear ho5 hb5
          refine hK.out _ _ ?_
          clear hK K
          try simp only [aP]
          exact hs1_5_7 v5 w5 H5
        · go_simp
          refine hK.out _ _ ?_
          clear hK K
          try simp only [aP]
          exact hs1_5_9
      · refine wpAny_ready (rs := [5]) (by kernel_rfl) (by simp) ?_
        refine anyN_cons 5 rfl (by rfl) (fun K hK => ?_) AllReady.nil
        go_simp
        refine hK.out _ _ ?_
        clear hK K
        try simp only [aP]
        exact hs1_5_9
      · intro v5 w5 H5
        obtain ⟨-, -, -, u2, -, -⟩ := HBL.out w5 H5.out.2
        dsimp only at u2
        refine wpAny_ready (rs := [9]) (by kernel_rfl) (by simp) ?_
        refine anyN_cons 9 rfl (by rfl) (fun K hK => ?_) AllReady.nil
        go_simp
        refine hK.out _ _ ?_
        clear hK K
        try simp only [aP]
        exact hs1_5_7_9 v5 w5 H5
      · refine wpAny_ready (rs := [7]) (by kernel_rfl) (by simp) ?_
        refine anyN_cons 7 rfl (by rfl) (fun K hK => ?_) AllReady.nil
        go_simp
        refine C7.out.mono ?_
        rintro e w5 ⟨v5, rfl, ho5, hb5⟩
        dsimp only
        have H5 : Hid (OwnV w5 wd.heap.size v5 VA ∧ Below wd.heap.size wd w5) := ⟨ho5, hb5⟩
        clear ho5 hb5
        refine hK.out _ _ ?_
        clear hK K
        try simp only [aP]
        exact hs1_5_7_9 v5 w5 H5
      · intro v5 w5 H5
        obtain ⟨-, -, -, u2, -, -⟩ := HBL.out w5 H5.out.2
        dsimp only at u2
        refine wpAny_ready (rs := [11]) (by kernel_rfl) (by simp) ?_
        refine anyN_cons 11 rfl (by rfl) (fun K hK => ?_) AllReady.nil
        go_simp
        refine (C8.out w5 H5.out.2).mono ?_
        rintro e w6 ⟨v6, rfl, ho6, hb6⟩
        dsimp only
        obtain ⟨q6, c6, hv6, hr6⟩ := ho6.row
        obtain ⟨n6, hn6⟩ : ∃ n6, VB.length = n6 := ⟨_, rfl⟩
        rw [hn6] at hv6
        subst hv6
        have H6 : Hid (OwnV w6 wd.heap.size v5 VA ∧ RowV w6 w6.heap.size q6 VB ∧ VB.length = n6 ∧ Below wd.heap.size wd w6) := ⟨H5.out.1.kept hb6, hr6, hn6, H5.out.2.trans (hb6.mono H5.out.2.size)⟩
        clear ho6 hb6 hr6 hn6
        refine hK.out _ _ ?_
        clear hK K
        try simp only [aP]
        exact hs1_5_7_9_11 v5 q6 n6 c6 w6 H6
      · intro v5 q6 n6 c6 w6 H6
        refine wpAny_ready (rs := [12]) (by kernel_rfl) (by simp) ?_
        refine anyN_cons 12 rfl (by rfl) (fun K hK => ?_) AllReady.nil
        refine wp_appVV w6 (.tmp 35) (.tmp 39) rfl wd.heap.size v5 VA VB rfl H6.out.1 q6 c6 (by rw [H6.out.2.2.1]; rfl) HPl.out.2.2 H6.out.2.1 (by have := HPl.out; omega) H6.out.2.2.2.size ?_
        intro v7 w7 ho7 hb7
        obtain ⟨z7, -⟩ : ∃ z7 : Nat, z7 = 0 := ⟨0, rfl⟩
        have H7 : Hid (OwnV w7 wd.heap.size v7 (VA ++ VB) ∧ Below wd.heap.size wd w7) := ⟨ho7, H6.out.2.2.2.trans hb7⟩
        clear ho7 hb7
        refine hK.out _ _ ?_
        clear hK K
        try simp only [aP]
        exact hs1_5_7_9_11_12 v5 q6 n6 c6 v7 z7 w7 H7
      · intro v5 q6 n6 c6 v7 z7 w7 H7
        refine wpAny_ready (rs := [13]) (by kernel_rfl) (by simp) ?_
        refine anyN_cons 13 rfl (by rfl) (fun K hK => ?_) AllReady.nil
        go_simp
        refine (CE.out v7 w7 wd.heap.size (H01.out.trans (H7.out.2.mono H01.out.size)) (by rw [HAp.out]; exact H7.out.1)).mono ?_
        rintro e w8 ⟨rfl, hb8⟩
        dsimp only
        have H8 : Hid (Below w.heap.size w w8) := by
          have h1 := H01.out.trans (H7.out.2.mono H01.out.size)
          exact h1.trans (hb8.mono h1.size)
        clear hb8
        refine hK.out _ _ ?_
        clear hK K
        try simp only [aP]
        refine tk (v := ?_) 14 rfl ?_ ?_
        rotate_left
        focus
          intro w9
          go_simp
          try with_reducible rfl
        try simp only [aP]
        refine tk (v := ?_) 15 rfl ?_ ?_
        rotate_left
        focus
          intro w9
          go_simp
          try with_reducible rfl
        try simp only [aP]
        exact hs1_5_7_9_11_12_13 v5 q6 n6 c6 v7 z7 w8 H8
      · intro v5 q6 n6 c6 v7 z7 w8 H8
        refine tk (v := ?_) 16 rfl ?_ ?_
        rotate_left
        focus
          intro w9
          go_simp
          try with_reducible rfl
        try simp only [aP]
        refine tk (v := ?_) 17 rfl ?_ ?_
        rotate_left
        focus
          intro w9
          go_simp
          try with_reducible rfl
        try simp only [aP]
        refine wpAny_done (by kernel_rfl) ?_ _
        go_wp2_with fail
        go_ret2
        exact ⟨rfl, H8.out⟩
    · rw [if_neg hi] at HF
      rw [HF.out]
      clear HF
      by_cases h0 : i < 0
      · unfold TabP.val
        dsimp only
        go_enter Tryz.func7, Tryz.ntmps7
        go_wp2_with fail
        refine (CA.out _ hb0).mono ?_
        rintro e w1 ⟨rfl, hb1⟩
        have HB1 : Hid (BoxT w1 w.heap.size t ⟨pc, cc, pk, ck, px, cx, pr, cr⟩) := HB.out.on hb1 (by simp)
        obtain ⟨hz1, e0, e1, e2, e3, e4⟩ := HB1.out
        dsimp only at e0 e1 e2 e3 e4
        have H01 : Hid (Below w.heap.size w w1) := hb0.trans (hb1.mono hb0.size)
        clear hb1 hb0 CA HB hi
        go_wp2_with fail
        go_ret2
        exact ⟨rfl, H01.out⟩
      · have g2 : (t.ix.length : Int) ≤ i := by omega
        unfold TabP.val
        dsimp only
        go_enter Tryz.func7, Tryz.ntmps7
        go_wp2_with fail
        refine (CA.out _ hb0).mono ?_
        rintro e w1 ⟨rfl, hb1⟩
        have HB1 : Hid (BoxT w1 w.heap.size t ⟨pc, cc, pk, ck, px, cx, pr, cr⟩) := HB.out.on hb1 (by simp)
        obtain ⟨hz1, e0, e1, e2, e3, e4⟩ := HB1.out
        dsimp only at e0 e1 e2 e3 e4
        have H01 : Hid (Below w.heap.size w w1) := hb0.trans (hb1.mono hb0.size)
        clear hb1 hb0 CA HB hi
        go_wp2_with fail
        go_ret2
        exact ⟨rfl, H01.out⟩
  · have HF : Hid (entS t i l = ([], (keyS t l).2)) := by show _ = _; unfold entS; rw [if_neg hk]
    rw [HF.out]
    clear hV hok hR hvo hll hE HF
    generalize keyS t l = kr at *
    obtain ⟨kb, d⟩ := kr
    dsimp only at hk CA ⊢
    unfold TabP.val
    dsimp only
    go_enter Tryz.func7, Tryz.ntmps7
    go_wp2_with fail
    refine (CA.out _ hb0).mono ?_
    rintro e w1 ⟨rfl, hb1⟩
    have H01 : Hid (Below w.heap.size w w1) := hb0.trans (hb1.mono hb0.size)
    clear hb1 hb0 CA HB
    go_wp2_with fail
    go_ret2
    exact ⟨rfl, H01.out⟩

end Go.Proofs.YteadniomgbhecaaGreatDoor
