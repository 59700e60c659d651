/- The walk of the statement that Encode and Decode lead back: it answers true. -/
import Derived.Test.YteffaldahccgiabDoorWDecE
import Derived.Test.YteffaldahccgiabDoorWAwake
namespace Go.Proofs.YteffaldahccgiabDoor
open Go.RowKit
set_option maxRecDepth 100000

theorem len_enc (M : List Vl) : M.length ≤ (encL M).length := by
  induction M with
  | nil => simp [encL]
  | cons v M ih => simp only [encL, List.length_cons, List.length_append, Vl.code]; omega
theorem bytes_eqB {a b : ByteArray} (h : a.data.toList = b.data.toList) : a = b := by
  cases a; cases b; simp at h; rw [h]
theorem decS_ok {s : ByteArray} (h : (decS s.data.toList).2 = 0) : Fine (decS s.data.toList).1 ∧ encS (decS s.data.toList).1 = (s.data.toList, 0) ∧ (decS s.data.toList).1.length ≤ 1024 ∧ s.size ≤ 1024 := by
  have hl : s.data.toList.length = s.size := by simp
  unfold decS at *
  split at h
  · simp at h
  · rename_i hlen
    rw [if_neg hlen]
    split at h
    · simp at h
    · rename_i M hM
      dsimp only
      obtain ⟨f1, f2, _⟩ := decF_back _ _ _ hM
      have h3 := len_enc M
      rw [f2] at h3
      refine ⟨f1, ?_, by omega, by omega⟩
      have h4 : ∀ t (ht : t < M.length), M[t].chk = 0 := fun t ht => (f1 _ (List.getElem_mem ht)).2
      rw [encS_fine h4 (by rw [f2]; omega), f2]
theorem decS_err {l : List UInt8} (h : ¬ (decS l).2 = 0) : (decS l).1 = [] := by
  unfold decS at *
  split
  · rfl
  · rename_i hn
    rw [if_neg hn] at h
    split
    · rfl
    · rename_i M hM
      rw [hM] at h
      exact absurd rfl h
theorem decS_enc {L : List Vl} (hf : Fine L) (hl : (encL L).length ≤ 1024) : decS (encL L) = (L.map Vl.plain, 0) := by
  unfold decS
  rw [if_neg (by omega), decF_enc L _ hf (Nat.le_refl _)]
theorem encS_ok2 {L : List Vl} (h : (encS L).2 = 0) (hok : ∀ v ∈ L, v.ok) : (encS L).1 = encL L ∧ Fine L ∧ (encL L).length ≤ 1024 := by
  unfold encS at *
  split at h
  · rename_i ha
    split at h
    · rename_i hb
      rw [if_pos ha, if_pos hb]
      refine ⟨rfl, fun v hv => ⟨hok v hv, ?_⟩, hb⟩
      have := List.all_eq_true.1 ha v hv
      simpa using this
    · simp at h
  · simp at h

set_option maxHeartbeats 8000000 in
theorem lawBack (L : List Vl) (p : Option Addr) (c : Nat) (s : ByteArray) (w : World) (hR : RowV w w.heap.size p L) (hok : ∀ v ∈ L, v.ok) (hlen : L.length ≤ 3518437208784) (hs : s.size ≤ 140737488351232) (hg : 2 < w.heap.size) (hT : Lib.Utf8Tabs 1 2 w) :
    Calls Tryd.prog 3 #[.slice p L.length c, .string s] w fun e w' => e = .returned (.bool true) ∧ Below w.heap.size w w' := by
  have C1 : Hid (∀ w1 : World, Below w.heap.size w w1 → Calls _ _ _ _ _) := fun w1 hb => encode_any L p c w1 ((hR.keep hb).mono hb.size) hok hlen (by have := hb.size; omega) (tabs_keep hb hg hT)
  have D2 : Hid (∀ w1 : World, Below w.heap.size w w1 → Calls _ _ _ _ _) := fun w1 hb => decode_any s w1 (by omega) (by have := hb.size; omega) (tabs_keep hb hg hT)
  have C3 : Hid (∀ w1 : World, Below w.heap.size w w1 → Calls _ _ _ _ _) := fun w1 hb => awake_any w1 (by have := hb.size; omega) (tabs_keep hb hg hT)
  have DK : Hid ((decS s.data.toList).2 = 0 → Fine (decS s.data.toList).1 ∧ encS (decS s.data.toList).1 = (s.data.toList, 0) ∧ (decS s.data.toList).1.length ≤ 1024 ∧ s.size ≤ 1024) := decS_ok
  have DN : Hid (¬ (decS s.data.toList).2 = 0 → (decS s.data.toList).1 = []) := decS_err
  have HT : Hid (Lib.Utf8Tabs 1 2 w) := hT
  by_cases her : (encS L).2 = 0
  · obtain ⟨e1, fL, hl⟩ := encS_ok2 her hok
    rw [e1, her] at C1
    have D1 : Hid (∀ w1 : World, Below w.heap.size w w1 → Calls Tryd.prog 8 #[.string ⟨(encL L).toArray⟩] w1 fun e w' => ∃ v, e = .returned (.tuple #[v, .int .i64 0]) ∧ OwnV w' w1.heap.size v (L.map Vl.plain) ∧ Below w1.heap.size w1 w') := fun w1 hb => by
      have hz : (ByteArray.mk (encL L).toArray).size = (encL L).length := by simp [ByteArray.size]
      have h := decode_any ⟨(encL L).toArray⟩ w1 (by omega) (by have := hb.size; omega) (tabs_keep hb hg hT)
      have e : (ByteArray.mk (encL L).toArray).data.toList = encL L := by simp
      rw [e, decS_enc fL hl] at h
      exact h
    have HRL : Hid (RowV w w.heap.size p L ∧ ∀ v ∈ L, v.ok) := ⟨hR, hok⟩
    clear hR hok hT her e1 fL hl
    generalize ByteArray.mk (encL L).toArray = ky at *
    go_enter Tryd.func3, Tryd.ntmps3
    go_wp2_with fail
    refine (C1.out _ (Below.refl _ _)).mono ?_
    rintro e w1 ⟨rfl, hb1⟩
    go_wp2_with fail
    refine (D1.out _ hb1).mono ?_
    rintro e wd ⟨vd, rfl, hOd, hbd⟩
    have hcd : Below w.heap.size w wd := hb1.trans (hbd.mono hb1.size)
    obtain ⟨pm, cm, rfl, hRm⟩ := hOd.row
    rw [List.length_map]
    have HRM : Hid (RowV wd wd.heap.size pm (L.map Vl.plain) ∧ Below w.heap.size w wd) := ⟨hRm, hcd⟩
    have hzd := hcd.size
    clear hb1 hOd hbd hcd hRm
    go_wp2_with fail
    go_loopw [9] (fun i wr => ∃ j : Nat, j ≤ L.length ∧ i = .int .i64 (j : Int) ∧ Below wd.heap.size wd wr) (fun i _ => L.length - (intOf i).toNat)
    case atStart => exact ⟨0, Nat.zero_le _, by go_num, Below.refl _ _⟩
    case round =>
      obtain ⟨j, hj, rfl, hn⟩ := hrel
      have hnw : Below w.heap.size w wr := HRM.out.2.trans (hn.mono hzd)
      have HNW : Hid (Below w.heap.size w wr) := hnw
      by_cases hj0 : j = L.length
      · subst hj0
        clear hn hnw
        go_wp2_with fail
        refine (D2.out _ HNW.out).mono ?_
        rintro e w8 ⟨v8, rfl, hO8, hb8⟩
        have hc8 : Below w.heap.size w w8 := (HNW.out).trans (hb8.mono (HNW.out).size)
        obtain ⟨p8, c8, rfl, hR8⟩ := hO8.row
        have HB8 : Hid (Below w.heap.size w w8) := hc8
        by_cases he2 : (decS s.data.toList).2 = 0
        · obtain ⟨g1, g2, g3, g4⟩ := DK.out he2
          have C8 : Hid (∀ x, x = w8 → Calls Tryd.prog 7 #[.slice p8 (decS s.data.toList).1.length c8] x fun e w' => e = .returned (.tuple #[.string s, .int .i64 0]) ∧ Below x.heap.size x w') := by
            rintro x rfl
            have h := encode_any (decS s.data.toList).1 p8 c8 x hR8 (fun v hv => (g1 v hv).1) (by omega) (by have := HB8.out.size; omega) (tabs_keep HB8.out hg HT.out)
            rw [g2] at h
            exact h
          rw [he2]
          clear hO8 hR8 hb8 hc8 g1 g2 g3 DK he2
          generalize (decS s.data.toList).1.length = m8 at *
          go_wp2_with fail
          refine (C8.out _ rfl).mono ?_
          rintro e w9 ⟨rfl, hb9⟩
          have hc9 : Below w.heap.size w w9 := HB8.out.trans (hb9.mono HB8.out.size)
          go_wp2_with fail
          refine (C3.out _ hc9).mono ?_
          rintro e w10 ⟨rfl, hb10⟩
          go_wp2
          go_ret
          exact ⟨rfl, hc9.trans (hb10.mono hc9.size)⟩
        · have g1 := DN.out he2
          have hne2 : ((decS s.data.toList).2 != 0) = true := bneT he2
          rw [g1, List.length_nil]
          clear hO8 hR8 hb8 DK DN g1
          generalize (decS s.data.toList).2 = er8 at *
          clear he2
          go_wp2_with fail
          refine (C3.out _ HB8.out).mono ?_
          rintro e w10 ⟨rfl, hb10⟩
          go_wp2
          go_ret
          exact ⟨rfl, HB8.out.trans (hb10.mono HB8.out.size)⟩
      · have hj1 : j < L.length := by omega
        obtain ⟨b, o, rfl, hbB, c0, c1, c2, c3⟩ := (HRL.out.1.keep hnw) j hj1
        obtain ⟨bm, om, rfl, hbm, d0, d1, d2, d3⟩ := HRM.out.1 j (by rw [List.length_map]; exact hj1)
        have em : (L.map Vl.plain)[j]'(by rw [List.length_map]; exact hj1) = (L[j]).plain := by simp
        rw [em] at d0 d1 d2 d3
        have a0 := (hn.cell (p := ⟨bm, om + j * 4, none⟩) hbm).trans d0
        have a1 := (hn.cell (p := ⟨bm, om + j * 4 + 1, none⟩) hbm).trans d1
        have a2 := (hn.cell (p := ⟨bm, om + j * 4 + 2, none⟩) hbm).trans d2
        have a3 := (hn.cell (p := ⟨bm, om + j * 4 + 3, none⟩) hbm).trans d3
        have ov := HRL.out.2 _ (List.getElem_mem hj1)
        have CP : Hid (∀ w1 : World, Calls _ _ _ _ _) := fun w1 => rplain_any (L[j]).k (L[j]).n (L[j]).f (L[j]).s w1 ov.2.2.1
        have CS : Hid (∀ w1 : World, Calls Tryd.prog 9 #[.agg #[.int .i64 (L[j]).k, .int .i64 (L[j]).n, .float .f64 (pf (L[j]).k (L[j]).f), .string (L[j]).s], .agg #[.int .i64 (L[j]).k, .int .i64 (L[j]).n, .float .f64 (pf (L[j]).k (L[j]).f), .string (L[j]).s]] w1 fun e w' => e = .returned (.bool true) ∧ Below w1.heap.size w1 w') := fun w1 => by
          have h := rsame_any (L[j]).k (L[j]).n (L[j]).k (L[j]).n (pf (L[j]).k (L[j]).f) (pf (L[j]).k (L[j]).f) (L[j]).s (L[j]).s w1
          have e : sameB (L[j]).k (L[j]).n (L[j]).k (L[j]).n (pf (L[j]).k (L[j]).f) (pf (L[j]).k (L[j]).f) (L[j]).s (L[j]).s = true := by simp [sameB]
          rw [e] at h
          exact h
        simp only [Vl.plain] at d0 d1 d2 d3 a0 a1 a2 a3
        clear em ov hj0
        generalize (L[j]).k = k at *
        generalize pf k (L[j]).f = f' at *
        generalize (L[j]).n = n at *
        generalize (L[j]).f = f at *
        generalize (L[j]).s = t at *
        go_wp2_with fail
        go_region_with (first | (go_at_call 10; refine (CP.out _).mono ?_; rintro e w4 ⟨rfl, hb4⟩; have hn4 : Below wd.heap.size wd w4 := hn.drew.trans (hb4.mono hn.size); have q0 := (hn4.cell (p := ⟨bm, om + j * 4, none⟩) hbm).trans d0; have q1 := (hn4.cell (p := ⟨bm, om + j * 4 + 1, none⟩) hbm).trans d1; have q2 := (hn4.cell (p := ⟨bm, om + j * 4 + 2, none⟩) hbm).trans d2; have q3 := (hn4.cell (p := ⟨bm, om + j * 4 + 3, none⟩) hbm).trans d3) | (go_at_call 9; refine (CS.out _).mono ?_; rintro e w5 ⟨rfl, hb5⟩))
        all_goals (try go_wp2)
        all_goals go_roundw
        all_goals first
          | (exact ⟨j + 1, by omega, by go_num, hn4.trans (hb5.mono (Nat.le_trans hn.size (by have := hb4.size; simpa using this)))⟩)
          | (simp [intOf]; omega)
  · have hne : ((encS L).2 == 0) = false := by simp [her]
    generalize (encS L).2 = er at *
    generalize ByteArray.mk (encS L).1.toArray = ky at *
    clear hR hok hT her
    go_enter Tryd.func3, Tryd.ntmps3
    go_wp2_with fail
    refine (C1.out _ (Below.refl _ _)).mono ?_
    rintro e w1 ⟨rfl, hb1⟩
    have HNW : Hid (Below w.heap.size w w1) := hb1
    clear hb1
    go_wp2_with fail
    refine (D2.out _ HNW.out).mono ?_
    rintro e w8 ⟨v8, rfl, hO8, hb8⟩
    have hc8 : Below w.heap.size w w8 := (HNW.out).trans (hb8.mono (HNW.out).size)
    obtain ⟨p8, c8, rfl, hR8⟩ := hO8.row
    have HB8 : Hid (Below w.heap.size w w8) := hc8
    by_cases he2 : (decS s.data.toList).2 = 0
    · obtain ⟨g1, g2, g3, g4⟩ := DK.out he2
      have C8 : Hid (∀ x, x = w8 → Calls Tryd.prog 7 #[.slice p8 (decS s.data.toList).1.length c8] x fun e w' => e = .returned (.tuple #[.string s, .int .i64 0]) ∧ Below x.heap.size x w') := by
        rintro x rfl
        have h := encode_any (decS s.data.toList).1 p8 c8 x hR8 (fun v hv => (g1 v hv).1) (by omega) (by have := HB8.out.size; omega) (tabs_keep HB8.out hg HT.out)
        rw [g2] at h
        exact h
      rw [he2]
      clear hO8 hR8 hb8 hc8 g1 g2 g3 DK he2
      generalize (decS s.data.toList).1.length = m8 at *
      go_wp2_with fail
      refine (C8.out _ rfl).mono ?_
      rintro e w9 ⟨rfl, hb9⟩
      have hc9 : Below w.heap.size w w9 := HB8.out.trans (hb9.mono HB8.out.size)
      go_wp2_with fail
      refine (C3.out _ hc9).mono ?_
      rintro e w10 ⟨rfl, hb10⟩
      go_wp2
      go_ret
      exact ⟨rfl, hc9.trans (hb10.mono hc9.size)⟩
    · have g1 := DN.out he2
      have hne2 : ((decS s.data.toList).2 != 0) = true := bneT he2
      rw [g1, List.length_nil]
      clear hO8 hR8 hb8 DK DN g1
      generalize (decS s.data.toList).2 = er8 at *
      clear he2
      go_wp2_with fail
      refine (C3.out _ HB8.out).mono ?_
      rintro e w10 ⟨rfl, hb10⟩
      go_wp2
      go_ret
      exact ⟨rfl, HB8.out.trans (hb10.mono HB8.out.size)⟩
end Go.Proofs.YteffaldahccgiabDoor
