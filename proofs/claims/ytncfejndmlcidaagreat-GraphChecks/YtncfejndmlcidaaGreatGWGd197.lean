/- Layer 19, the document's side: Check. Layer 19, the document's side: Copy. -/
import Derived.Test.YtncfejndmlcidaaGreatGWGd195
import Derived.Test.YtncfejndmlcidaaGreatGWEd2
import Derived.Test.YtncfejndmlcidaaGreatGWGr12
import Derived.Test.YtncfejndmlcidaaGreatGWGr5
namespace Go.Proofs.YtncfejndmlcidaaGreat
open Go.RowKit
set_option maxRecDepth 100000

theorem chk_uniq {L : List Ac} {e e' : Ending} (h : ChkE L e) (h' : ChkE L e') : e = e' := by
  have hx : ∀ k (hk : k < L.length), okH L L.length → okA (L.take k) L[k] = false → False := fun k hk h1 h2 => by
    rw [h1 k hk hk] at h2; cases h2
  have hy : ∀ k k' (hk : k < L.length) (hk' : k' < L.length), okH L k → okA (L.take k) L[k] = false → okH L k' → okA (L.take k') L[k'] = false → k = k' := fun k k' hk hk' h1 h2 h3 h4 => by
    rcases Nat.lt_trichotomy k k' with h | h | h
    · rw [h3 k h hk] at h2; cases h2
    · exact h
    · rw [h1 k' h hk'] at h4; cases h4
  rcases h with ⟨h1, rfl⟩ | ⟨h1, k, hk, h2, h3, rfl⟩ | ⟨h1, h2, rfl⟩ <;> rcases h' with ⟨g1, rfl⟩ | ⟨g1, k', hk', g2, g3, rfl⟩ | ⟨g1, g2, rfl⟩
  · rfl
  · rw [h1] at g1; cases g1
  · rw [h1] at g1; cases g1
  · rw [h1] at g1; cases g1
  · rw [hy k k' hk hk' h2 h3 g2 g3]
  · exact (hx k hk g2 h3).elim
  · rw [h1] at g1; cases g1
  · exact (hx k' hk' h2 g3).elim
  · rfl
set_option maxHeartbeats 8000000 in
theorem checkD_any (v : Value) (Z : List (Ac × Value)) (w : World) (h : RdH w.heap.size w v Z) : Calls Tryz.prog 11 #[v] w fun e w' => ChkE (Z.map (·.1)) e ∧ Below w.heap.size w w' := by
  obtain ⟨p, c, rfl, hpc, hp0, _⟩ := h.sl.f
  have HR : Hid (RdH w.heap.size w (.slice p Z.length c) Z) := h
  have hll : Z.length ≤ 1172812402961 := h.ll
  have HP : Hid (∀ k, k < Z.length → Z.length ≤ 4096 → snN ((Z.map (·.1)).take k) ≤ 18014398509481984) := fun k hk hz => by
    have h1 := snN_le ((Z.map (·.1)).take k) 4398046511104 (fun a ha => by
      obtain ⟨z, hz, rfl⟩ := List.mem_map.1 (List.mem_of_mem_take ha)
      exact h.lsn z hz)
    have h2 : ((Z.map (·.1)).take k).length ≤ 4096 := by rw [List.length_take, List.length_map]; omega
    have h3 := Nat.mul_le_mul_right 4398046511104 h2
    omega
  have HFi : Hid (∀ (W : World), Below w.heap.size w W → ∀ k (hk : k < Z.length), Calls Tryz.prog 25 #[.slice p Z.length c, .int .i64 (k : Nat)] W fun e w' => e = .returned (.bool (fineD ((Z.map (·.1)).take k) Z[k].1)) ∧ Below W.heap.size W w') := fun W hb k hk => fine_any w.heap.size _ Z W (h.on hb) hb.size k hk
  clear h
  go_enter Tryz.func11, Tryz.ntmps11
  go_wp2_with fail
  go_loopw [4, 5] (fun a b wr => ∃ (s : Int) (k : Nat), a = .int .i64 s ∧ b = .int .i64 (k : Int) ∧ k ≤ Z.length ∧ Hid (Z.length ≤ 4096 → s = (snN ((Z.map (·.1)).take k) : Int)) ∧ Hid (Below w.heap.size w wr)) (fun _ b _ => Z.length - (intOf b).toNat)
  case atStart => exact ⟨0, 0, rfl, by go_num, Nat.zero_le _, fun _ => rfl, Below.refl _ _⟩
  case round =>
    obtain ⟨s, k, rfl, rfl, hk, HS, HBl⟩ := hrel
    by_cases hk0 : k = Z.length
    · subst hk0
      by_cases hz : 4096 < Z.length
      · have HT : Hid (tlB (Z.map (·.1)) = true) := by
          show _ = _
          unfold tlB
          rw [List.length_map, decide_eq_true hz, Bool.true_or]
        have hz2 : ((Z.length : Nat) : Int) > 4096 := by omega
        clear hz
        go_wp2_with fail
        go_ret2
        exact ⟨.inl ⟨HT.out, rfl⟩, HBl.out⟩
      · have hz2 : ¬ ((Z.length : Nat) : Int) > 4096 := by omega
        have HT : Hid (tlB (Z.map (·.1)) = decide (4096 < s)) := by
          show _ = _
          unfold tlB
          have e := HS.out (by omega)
          rw [List.take_of_length_le (by simp)] at e
          rw [List.length_map, decide_eq_false hz, Bool.false_or, e]
          rw [Bool.eq_iff_iff, decide_eq_true_eq, decide_eq_true_eq]
          omega
        clear hz
        by_cases hs : s > 4096
        · have HT2 : Hid (tlB (Z.map (·.1)) = true) := by show _ = _; rw [HT.out, decide_eq_true_eq]; omega
          go_wp2_with fail
          go_ret2
          exact ⟨.inl ⟨HT2.out, rfl⟩, HBl.out⟩
        · have HT2 : Hid (tlB (Z.map (·.1)) = false) := by show _ = _; rw [HT.out, decide_eq_false_iff_not]; omega
          clear HT HS
          rename World => w2
          go_wp2_with fail
          go_loopw [6] (fun b wr => ∃ k : Nat, b = .int .i64 (k : Int) ∧ k ≤ Z.length ∧ Hid (okH (Z.map (·.1)) k) ∧ Hid (Below w.heap.size w wr)) (fun b _ => Z.length - (intOf b).toNat)
          case atStart => exact ⟨0, by go_num, Nat.zero_le _, fun i hi => absurd hi (Nat.not_lt_zero _), HBl.out⟩
          case round =>
            obtain ⟨k, rfl, hk, HO, HBr⟩ := hrel
            rename World => w3
            by_cases hk0 : k = Z.length
            · subst hk0
              go_wp2_with fail
              go_ret2
              exact ⟨.inr (.inr ⟨HT2.out, by rw [List.length_map]; exact HO.out, rfl⟩), HBr.out⟩
            · have hk1 : k < Z.length := by omega
              clear hk0
              have HK1 : Hid (k < Z.length) := hk1
              obtain ⟨R, hR⟩ : ∃ R, fineD ((Z.map (·.1)).take k) Z[k].1 = R := ⟨_, rfl⟩
              have CF : Hid (Calls Tryz.prog 25 #[.slice p Z.length c, .int .i64 (k : Nat)] w3 fun e w' => e = .returned (.bool R) ∧ Below w3.heap.size w3 w') := by rw [← hR]; exact HFi.out w3 HBr.out k hk1
              have HRR : Hid (okA ((Z.map (·.1)).take k) ((Z.map (·.1))[k]'(by rw [List.length_map]; exact hk1)) = R) := by
                show _ = _
                rw [← hR, ← fineD_eq (by rw [List.length_map]; omega) HO.out, List.getElem_map]
                rfl
              clear hR
              cases R
              · go_wp2_with (first | (go_at_call 25; refine CF.out.mono ?_; rintro e w4 ⟨rfl, hb4⟩; have HB4 : Hid (Below w.heap.size w w4) := HBr.out.trans (hb4.mono HBr.out.size); clear hb4))
                go_ret2
                exact ⟨.inr (.inl ⟨HT2.out, k, by rw [List.length_map]; exact HK1.out, HO.out, HRR.out, rfl⟩), HB4.out⟩
              · go_wp2_with (first | (go_at_call 25; refine CF.out.mono ?_; rintro e w4 ⟨rfl, hb4⟩; have HB4 : Hid (Below w.heap.size w w4) := HBr.out.trans (hb4.mono HBr.out.size); clear hb4))
                go_roundw
                case rel =>
                  refine ⟨k + 1, by go_num, HK1.out, fun i hi hl => ?_, HB4.out⟩
                  by_cases h1 : i = k
                  · subst h1
                    exact HRR.out
                  · exact HO.out i (by omega) hl
                case measure => have h9 := HK1.out; simp [intOf]; omega
    · have hk1 : k < Z.length := by omega
      clear hk0
      obtain ⟨b, o, q, d, rfl, hb, e8, hd, k0, k1, k2, k3, k4, k5, k6, k7, k8, k9⟩ := (HR.out.on HBl.out).at k hk1
      have HL : Hid (Z[k].1.sn.length ≤ 4398046511104 ∧ snN ((Z.map (·.1)).take (k + 1)) = snN ((Z.map (·.1)).take k) + (if Z[k].1.kd = 3 then Z[k].1.sn.length else 0)) := by
        refine ⟨HR.out.lsn _ (List.getElem_mem hk1), ?_⟩
        have h1 := snN_take (Z.map (·.1)) k (by simpa using hk1)
        simpa using h1
      have HP1 := HP.out k hk1
      rw [e8] at k8
      have HQ : Hid (Z.length ≤ 4096 → s = (snN ((Z.map (·.1)).take k) : Int) ∧ snN ((Z.map (·.1)).take k) ≤ 18014398509481984) := fun hz => ⟨HS.out hz, HP1 hz⟩
      generalize Z[k].1 = a at *
      clear HP1 HS e8 hb
      by_cases hkd : a.kd = 3
      · have HL2 : Hid (a.sn.length ≤ 4398046511104 ∧ snN ((Z.map (·.1)).take (k + 1)) = snN ((Z.map (·.1)).take k) + a.sn.length) := by
          have := HL.out
          rw [if_pos hkd] at this
          exact this
        clear HL
        go_wp2_with fail
        go_roundw
        case rel =>
          refine ⟨_, k + 1, rfl, by go_num, by omega, fun hz => ?_, HBl.out⟩
          obtain ⟨e1, e2⟩ := HQ.out hz
          obtain ⟨e3, e4⟩ := HL2.out
          rw [e4]
          rw [e1]
          simp only [wrap64]
          omega
        case measure => simp [intOf]; omega
      · have HL2 : Hid (snN ((Z.map (·.1)).take (k + 1)) = snN ((Z.map (·.1)).take k)) := by
          have := HL.out.2
          rw [if_neg hkd] at this
          exact this
        clear HL
        go_wp2_with fail
        go_roundw
        case rel =>
          refine ⟨s, k + 1, rfl, by go_num, by omega, fun hz => ?_, HBl.out⟩
          rw [HL2.out]
          exact (HQ.out hz).1
        case measure => simp [intOf]; omega

end Go.Proofs.YtncfejndmlcidaaGreat

namespace Go.Proofs.YtncfejndmlcidaaGreat
open Go.RowKit
set_option maxRecDepth 100000

theorem OwnG.ne_set {α : Type} {enc : α → List Value} {size B : Nat} {T T' : TypeId} {w : World} {v : Value} {L : List α} {g i : Nat} {u : Value} {cs : Array Value} (h : OwnG enc size T w B v L) (hb : Blk w g cs T') (hT : T ≠ T') : OwnG enc size T (w.setCell ⟨g, i, none⟩ u) B v L :=
  h.byG (fun k hk => (frm_set w g i u (F := one1 g) (.inl rfl)).block k (h.lt hk) (fun e => own_ne_blk h hb hT (by rw [hk, show k = g from e])))
theorem OwnG.ne_grown {α β : Type} {enc : α → List Value} {size B : Nat} {T : TypeId} {w w' : World} {v : Value} {L : List α} {enc' : β → List Value} {size' B' : Nat} {T' : TypeId} {v' : Value} {L' : List β} (h : OwnG enc size T w B v L) (h' : OwnG enc' size' T' w B' v' L') (hT : T ≠ T') (hg : w.grownBy w' v'.ownBlock) : OwnG enc size T w' B v L :=
  h.byG (fun k hk => hg.block k (h.lt hk) (fun e => h.ne h' hT k hk e.symm))
/-- a copy under way -/
structure CpI (w wr : World) (Z : List (Ac × Value)) (i : Nat) (lv : Value) : Prop where
  f : ∃ Z' : List (Ac × Value), OwnG encA 10 51 wr w.heap.size lv Z' ∧ Z'.map (·.1) = (Z.map (·.1)).take i ∧ (∀ z ∈ Z', OwnG encS 3 53 wr w.heap.size z.2 z.1.sn)
  bel : Below w.heap.size w wr
structure CpJ (wr wj : World) (a : Ac) (j : Nat) (sv : Value) : Prop where
  box : Blk wj wr.heap.size #[.int .i64 a.tx, .int .i64 a.kd, .string a.it, .int .i64 a.fr, .int .i64 a.nt, .string a.lo, .string a.hi, .bool a.op, sv, .int .u64 (a.st : Nat)] 51
  own : OwnG encS 3 53 wj wr.heap.size sv (a.sn.take j)
  bel : Below wr.heap.size wr wj
set_option maxHeartbeats 16000000 in
theorem copy_any (v : Value) (Z : List (Ac × Value)) (w : World) (h : RdH w.heap.size w v Z) :
    Calls Tryz.prog 10 #[v] w fun e w' => ∃ v' Z', e = .returned v' ∧ RdH w'.heap.size w' v' Z' ∧ Z'.map (·.1) = Z.map (·.1) ∧ Below w.heap.size w w' := by
  obtain ⟨p, c, rfl, hpc, hp0, _⟩ := h.sl.f
  have HR : Hid (RdH w.heap.size w (.slice p Z.length c) Z) := h
  have hll : Z.length ≤ 1172812402961 := h.ll
  clear h hpc hp0
  obtain ⟨w1, hw1⟩ : ∃ w1, w.alloc (.cells #[] 51) = w1 := ⟨_, rfl⟩
  have HI1 : Hid (CpI w w1 Z 0 (.slice (some ⟨w.heap.size, 0, none⟩) 0 0)) := by
    rw [← hw1]
    exact ⟨⟨[], World.ownsRow_lit w #[] 0 (Nat.le_refl _) (Nat.zero_le _) rfl, rfl, fun z hz => by cases hz⟩, (Below.refl _ _).alloc (Nat.le_refl _) _⟩
  go_enter Tryz.func10, Tryz.ntmps10
  go_wp2_with fail
  clear hw1
  go_loopw [4, 3, 6] (fun va vb _ wr => ∃ (i : Nat) (lv : Value), va = .int .i64 (i : Int) ∧ lv = vb ∧ i ≤ Z.length ∧ Hid (CpI w wr Z i lv)) (fun va _ _ _ => Z.length - (intOf va).toNat)
  case atStart => exact ⟨0, _, by go_num, rfl, Nat.zero_le _, HI1.out⟩
  case round =>
    obtain ⟨i, lv, rfl, rfl, hi, HI⟩ := hrel
    clear HI1
    rename World => w2
    by_cases hi0 : i = Z.length
    · subst hi0
      go_wp2_with fail
      go_ret
      obtain ⟨Z', h1, h2, h3⟩ := HI.out.f
      rw [List.take_of_length_le (by simp)] at h2
      refine ⟨_, Z', rfl, ⟨OwnG.sl (T := 51) (B := w.heap.size) (fun _ => rfl) h1, fun z hz => OwnG.sl (T := 53) (B := w.heap.size) (fun _ => rfl) (h3 z hz), ?_, fun z hz => ?_⟩, h2, HI.out.bel⟩
      · have h4 := congrArg List.length h2
        rw [List.length_map, List.length_map] at h4
        rw [h4]
        exact HR.out.ll
      · have h4 : z.1 ∈ Z.map (·.1) := by rw [← h2]; exact List.mem_map_of_mem hz
        obtain ⟨y, hy, e⟩ := List.mem_map.1 h4
        rw [← e]
        exact HR.out.lsn y hy
    · have hi1 : i < Z.length := by omega
      clear hi0
      obtain ⟨b, o, q, d, rfl, hb, e8, hd, k0, k1, k2, k3, k4, k5, k6, k7, k8, k9⟩ := (HR.out.on HI.out.bel).at i hi1
      have HSN : Hid (SlG encS 3 w.heap.size w (.slice q Z[i].1.sn.length d) Z[i].1.sn ∧ Z[i].1.sn.length ≤ 4398046511104 ∧ b < w.heap.size ∧ w2.cell? ⟨b, o + i * 10 + 8, none⟩ = some (.slice q Z[i].1.sn.length d)) := by
        have h1 := HR.out.sn _ (List.getElem_mem hi1)
        rw [e8] at h1
        exact ⟨h1, HR.out.lsn _ (List.getElem_mem hi1), hb, by rw [k8, e8]⟩
      rw [e8] at k8
      have HTK : Hid ((Z.map (·.1)).take (i + 1) = (Z.map (·.1)).take i ++ [Z[i].1]) := by
        show _ = _
        rw [← List.take_append_getElem (by rw [List.length_map]; exact hi1), List.getElem_map]
      obtain ⟨a, ha⟩ : ∃ a, Z[i].1 = a := ⟨_, rfl⟩
      rw [ha] at HSN HTK k0 k1 k2 k3 k4 k5 k6 k7 k8 k9
      clear hb e8 hd ha
      have HI9 : Hid (i < Z.length) := hi1
      have HBw : Hid (Below w.heap.size w w2) := HI.out.bel
      obtain ⟨w3, hw3⟩ : ∃ w3, w2.alloc (.cells #[.int .i64 a.tx, .int .i64 a.kd, .string a.it, .int .i64 a.fr, .int .i64 a.nt, .string a.lo, .string a.hi, .bool a.op, .slice q a.sn.length d, .int .u64 (a.st : Nat)] 51) = w3 := ⟨_, rfl⟩
      have HB3 : Hid (Below w2.heap.size w2 w3) := by rw [← hw3]; exact (Below.refl _ _).alloc (Nat.le_refl _) _
      have HK3 : Hid (Blk w3 w2.heap.size #[.int .i64 a.tx, .int .i64 a.kd, .string a.it, .int .i64 a.fr, .int .i64 a.nt, .string a.lo, .string a.hi, .bool a.op, .slice q a.sn.length d, .int .u64 (a.st : Nat)] 51) := by rw [← hw3]; exact Blk.new w2 _ _
      go_upto_region 6 with fail
      clear k0 k1 k2 k3 k4 k5 k6 k7 k8 k9
      first | rw [hw3] | simp only [hw3] | skip
      clear hw3
      have z0 := HK3.out.cell (i := 8) rfl
      have f0 := HK3.out.frozen 8
      have HJ0 : Hid (CpJ w2 (w3.setCell ⟨w2.heap.size, 8, none⟩ nilS) a 0 nilS) := ⟨HK3.out.set 8 _, OwnG.nil _ _ _ _ _, HB3.out.trans ((frm_set w3 w2.heap.size 8 _ (F := one1 w2.heap.size) (.inl rfl)).below HB3.out.size (fun k hk => by rw [show k = w2.heap.size from hk]; exact Nat.le_refl _))⟩
      go_upto_region 7 with fail
      clear z0 f0 HK3 HB3
      generalize w3.setCell ⟨w2.heap.size, 8, none⟩ nilS = w4 at *
      have HSRC : Hid (∀ W : World, Below w.heap.size w W → W.cell? ⟨b, o + i * 10 + 8, none⟩ = some (.slice q a.sn.length d)) := fun W hW => by
        have h1 := HBw.out.cell (p := ⟨b, o + i * 10 + 8, none⟩) HSN.out.2.2.1
        rw [hW.cell (p := ⟨b, o + i * 10 + 8, none⟩) HSN.out.2.2.1, ← h1]
        exact HSN.out.2.2.2
      go_wp2_with fail
      go_loopw [6] (fun ix wj => ∃ (j : Nat) (sv : Value), ix = .int .i64 (j : Int) ∧ j ≤ a.sn.length ∧ Hid (CpJ w2 wj a j sv)) (fun ix _ => a.sn.length - (intOf ix).toNat)
      case atStart => exact ⟨0, _, by go_num, Nat.zero_le _, HJ0.out⟩
      case round =>
        obtain ⟨j, sv, rfl, hj, HJ⟩ := hrel
        rename World => w5
        clear HJ0
        have HBj : Hid (Below w.heap.size w w5) := HBw.out.trans (HJ.out.bel.mono HBw.out.size)
        have s8 := HSRC.out w5 HBj.out
        by_cases hj0 : j = a.sn.length
        · subst hj0
          go_upto_region 11 with fail
          clear s8
          have HOS : Hid (OwnG encS 3 53 w5 w.heap.size sv a.sn) := by
            have h1 := HJ.out.own
            rw [List.take_length] at h1
            exact h1.mono HBw.out.size
          obtain ⟨Z', hz1, hz2, hz3⟩ := HI.out.f
          have HOL : Hid (OwnG encA 10 51 w5 w.heap.size lv Z' ∧ Z'.map (·.1) = (Z.map (·.1)).take i ∧ (∀ z ∈ Z', OwnG encS 3 53 w5 w.heap.size z.2 z.1.sn)) := ⟨hz1.on HJ.out.bel, hz2, fun z hz => (hz3 z hz).on HJ.out.bel⟩
          clear hz1 hz2 hz3
          obtain ⟨q9, d9, ev9⟩ := HOS.out.slcL
          subst ev9
          have hzl : Z'.length = i := by
            have h4 := congrArg List.length HOL.out.2.1
            rw [List.length_map, List.length_take, List.length_map] at h4
            omega
          obtain ⟨w6, hw6⟩ : ∃ w6, w5.alloc (.cells #[.int .i64 a.tx, .int .i64 a.kd, .string a.it, .int .i64 a.fr, .int .i64 a.nt, .string a.lo, .string a.hi, .bool a.op, .slice q9 a.sn.length d9, .int .u64 (a.st : Nat)] 51) = w6 := ⟨_, rfl⟩
          have HB6 : Hid (Below w5.heap.size w5 w6) := by rw [← hw6]; exact (Below.refl _ _).alloc (Nat.le_refl _) _
          have HK6 : Hid (Blk w6 w5.heap.size #[.int .i64 a.tx, .int .i64 a.kd, .string a.it, .int .i64 a.fr, .int .i64 a.nt, .string a.lo, .string a.hi, .bool a.op, .slice q9 a.sn.length d9, .int .u64 (a.st : Nat)] 51) := by rw [← hw6]; exact Blk.new w5 _ _
          have hcc : ∀ t u, (encA (a, .slice q9 a.sn.length d9))[t]? = some u → w6.cell? ⟨w5.heap.size, t, none⟩ = some u := fun t u hu => HK6.out.cell (by simpa [encA] using hu)
          have hl1 : (Z'.length + 1) * 120 ≤ 140737488355328 := by have := HI9.out; omega
          have hl2 : Z'.length + 1 ≤ 140737488355328 := by omega
          have HO6 : Hid (OwnG encA 10 51 w6 w.heap.size lv Z') := HOL.out.1.on HB6.out
          have HBb : Hid (w.heap.size ≤ w6.heap.size ∧ Below w.heap.size w w6) := ⟨Nat.le_trans HBj.out.size HB6.out.size, HBj.out.trans (HB6.out.mono HBj.out.size)⟩
          have x0 := HJ.out.box.cell (i := 0) rfl
          have x1 := HJ.out.box.cell (i := 1) rfl
          have x2 := HJ.out.box.cell (i := 2) rfl
          have x3 := HJ.out.box.cell (i := 3) rfl
          have x4 := HJ.out.box.cell (i := 4) rfl
          have x5 := HJ.out.box.cell (i := 5) rfl
          have x6 := HJ.out.box.cell (i := 6) rfl
          have x7 := HJ.out.box.cell (i := 7) rfl
          have x8 := HJ.out.box.cell (i := 8) rfl
          have x9 := HJ.out.box.cell (i := 9) rfl
          have hone : ∀ u ∈ encA (a, .slice q9 a.sn.length d9), u.oneCell' = true := encA_one _ rfl
          go_wp2_with (first | (at_builtin; go_loud (refine wpList_appG w6 rfl (.tmp 42) (.tmp 44) 51 22 (.agg #[.int .i64 0, .int .i64 0, .string ⟨#[]⟩, .int .i64 0, .int .i64 0, .string ⟨#[]⟩, .string ⟨#[]⟩, .bool false, .slice none 0 0, .int .u64 0]) 120 rfl Tryz.underlying22 info_act rfl (by decide) (fun _ => rfl) w.heap.size lv Z' (a, .slice q9 a.sn.length d9) hone (by rfl) HO6.out w5.heap.size (by rfl) hcc hl1 hl2 HBb.out.1 ?_; intro v7 w7 h7 h8 h9)))
          go_roundw
          case rel =>
            refine ⟨i + 1, _, by go_num, rfl, HI9.out, ⟨Z' ++ [(a, .slice q9 a.sn.length d9)], h7, by rw [List.map_append, HOL.out.2.1, HTK.out]; rfl, fun z hz => ?_⟩, HBb.out.2.grown h8 HBb.out.1 (fun k hk => (HO6.out.blk hk).1)⟩
            rcases List.mem_append.1 hz with hz | hz
            · exact ((HOL.out.2.2 z hz).on HB6.out).ne_grown HO6.out (by decide) h8
            · rw [List.mem_singleton.1 hz]
              exact (HOS.out.on HB6.out).ne_grown HO6.out (by decide) h8
          case measure => have h9 := HI9.out; simp [intOf]; omega
        · have hj1 : j < a.sn.length := by omega
          clear hj0
          obtain ⟨sb, so, rfl, hsb, -, -, -⟩ := HSN.out.1.cellS j hj1
          have HS : Hid (∀ W : World, Below w.heap.size w W → W.cell? ⟨b, o + i * 10 + 8, none⟩ = some (.slice (some ⟨sb, so, none⟩) a.sn.length d) ∧ W.cell? ⟨sb, so + j * 3, none⟩ = some (.string a.sn[j].it) ∧ W.cell? ⟨sb, so + j * 3 + 1, none⟩ = some (.int .i64 a.sn[j].fr) ∧ W.cell? ⟨sb, so + j * 3 + 2, none⟩ = some (.int .i64 a.sn[j].nt)) := fun W hbW => by
            obtain ⟨sb', so', e, _, g0, g1, g2⟩ := (HSN.out.1.on hbW).cellS j hj1
            cases e
            exact ⟨HSRC.out W hbW, g0, g1, g2⟩
          have HTJ : Hid (a.sn.take (j + 1) = a.sn.take j ++ [a.sn[j]] ∧ (a.sn.take j).length = j) := ⟨(List.take_append_getElem hj1).symm, by rw [List.length_take]; omega⟩
          generalize a.sn[j] = s at *
          have HJ9 : Hid (j < a.sn.length) := hj1
          obtain ⟨q0, d0, ev0⟩ := HJ.out.own.slcL
          rw [HTJ.out.2] at ev0
          subst ev0
          go_upto_region 10 with fail
          clear s8 hsb
          refine wp_region_L (fun w' => w'.cell? ⟨w2.heap.size, 8, none⟩ = some (.slice q0 j d0) ∧ w'.cell? ⟨b, o + i * 10 + 8, none⟩ = some (.slice (some ⟨sb, so, none⟩) a.sn.length d) ∧ w'.cell? ⟨sb, so + j * 3, none⟩ = some (.string s.it) ∧ w'.cell? ⟨sb, so + j * 3 + 1, none⟩ = some (.int .i64 s.fr) ∧ w'.cell? ⟨sb, so + j * 3 + 2, none⟩ = some (.int .i64 s.nt)) 13 (by kernel_rfl) ?_
          have HJd : Hid (CpJ w2 w5.drew a j (.slice q0 j d0) ∧ Below w.heap.size w w5.drew) := ⟨⟨HJ.out.box, HJ.out.own.on (Below.refl _ _).drew, HJ.out.bel.drew⟩, HBj.out.drew⟩
          clear HJ HBj
          generalize w5.drew = wd at *
          have HSd : Hid ((fun w' => w'.cell? ⟨w2.heap.size, 8, none⟩ = some (.slice q0 j d0) ∧ w'.cell? ⟨b, o + i * 10 + 8, none⟩ = some (.slice (some ⟨sb, so, none⟩) a.sn.length d) ∧ w'.cell? ⟨sb, so + j * 3, none⟩ = some (.string s.it) ∧ w'.cell? ⟨sb, so + j * 3 + 1, none⟩ = some (.int .i64 s.fr) ∧ w'.cell? ⟨sb, so + j * 3 + 2, none⟩ = some (.int .i64 s.nt)) wd) := ⟨HJd.out.1.box.cell (i := 8) rfl, HS.out wd HJd.out.2⟩
          refine wpL_take (v := ?_) 0 rfl (by kernel_rfl) (fun _ _ _ h => h) (by rfl) ?_ HSd.out ?_
          rotate_left
          focus
            intro w9 hw9
            have a0 := hw9.1
            have b0 := hw9.2.1
            have b1 := hw9.2.2.1
            have b2 := hw9.2.2.2.1
            have b3 := hw9.2.2.2.2
            go_simp
            try with_reducible rfl
          try simp only [Act.put, List.setIfInBounds_toArray, List.set_cons_zero, List.set_cons_succ]
          refine wpL_take (v := ?_) 1 rfl (by kernel_rfl) (fun _ _ _ h => h) (by rfl) ?_ HSd.out ?_
          rotate_left
          focus
            intro w9 hw9
            have a0 := hw9.1
            have b0 := hw9.2.1
            have b1 := hw9.2.2.1
            have b2 := hw9.2.2.2.1
            have b3 := hw9.2.2.2.2
            go_simp
            try with_reducible rfl
          try simp only [Act.put, List.setIfInBounds_toArray, List.set_cons_zero, List.set_cons_succ]
          refine wpL_take (v := ?_) 2 rfl (by kernel_rfl) (fun _ _ _ h => h) (by rfl) ?_ HSd.out ?_
          rotate_left
          focus
            intro w9 hw9
            have a0 := hw9.1
            have b0 := hw9.2.1
            have b1 := hw9.2.2.1
            have b2 := hw9.2.2.2.1
            have b3 := hw9.2.2.2.2
            go_simp
            try with_reducible rfl
          try simp only [Act.put, List.setIfInBounds_toArray, List.set_cons_zero, List.set_cons_succ]
          refine wpL_take (v := ?_) 3 rfl (by kernel_rfl) (fun _ _ _ h => h) (by rfl) ?_ HSd.out ?_
          rotate_left
          focus
            intro w9 hw9
            have a0 := hw9.1
            have b0 := hw9.2.1
            have b1 := hw9.2.2.1
            have b2 := hw9.2.2.2.1
            have b3 := hw9.2.2.2.2
            go_simp
            try with_reducible rfl
          try simp only [Act.put, List.setIfInBounds_toArray, List.set_cons_zero, List.set_cons_succ]
          refine wpL_take (v := ?_) 4 rfl (by kernel_rfl) (fun _ _ _ h => h) (by rfl) ?_ HSd.out ?_
          rotate_left
          focus
            intro w9 hw9
            have a0 := hw9.1
            have b0 := hw9.2.1
            have b1 := hw9.2.2.1
            have b2 := hw9.2.2.2.1
            have b3 := hw9.2.2.2.2
            go_simp
            try with_reducible rfl
          try simp only [Act.put, List.setIfInBounds_toArray, List.set_cons_zero, List.set_cons_succ]
          refine wpL_take (v := ?_) 5 rfl (by kernel_rfl) (fun _ _ _ h => h) (by rfl) ?_ HSd.out ?_
          rotate_left
          focus
            intro w9 hw9
            have a0 := hw9.1
            have b0 := hw9.2.1
            have b1 := hw9.2.2.1
            have b2 := hw9.2.2.2.1
            have b3 := hw9.2.2.2.2
            go_simp
            try with_reducible rfl
          try simp only [Act.put, List.setIfInBounds_toArray, List.set_cons_zero, List.set_cons_succ]
          refine wpL_take (v := ?_) 6 rfl (by kernel_rfl) (fun _ _ _ h => h) (by rfl) ?_ HSd.out ?_
          rotate_left
          focus
            intro w9 hw9
            have a0 := hw9.1
            have b0 := hw9.2.1
            have b1 := hw9.2.2.1
            have b2 := hw9.2.2.2.1
            have b3 := hw9.2.2.2.2
            go_simp
            try with_reducible rfl
          try simp only [Act.put, List.setIfInBounds_toArray, List.set_cons_zero, List.set_cons_succ]
          refine wpL_take (v := ?_) 7 rfl (by kernel_rfl) (fun _ _ _ h => h) (by rfl) ?_ HSd.out ?_
          rotate_left
          focus
            intro w9 hw9
            have a0 := hw9.1
            have b0 := hw9.2.1
            have b1 := hw9.2.2.1
            have b2 := hw9.2.2.2.1
            have b3 := hw9.2.2.2.2
            go_simp
            try with_reducible rfl
          try simp only [Act.put, List.setIfInBounds_toArray, List.set_cons_zero, List.set_cons_succ]
          refine wpL_take (v := ?_) 8 rfl (by kernel_rfl) (fun _ _ _ h => h) (by rfl) ?_ HSd.out ?_
          rotate_left
          focus
            intro w9 hw9
            have a0 := hw9.1
            have b0 := hw9.2.1
            have b1 := hw9.2.2.1
            have b2 := hw9.2.2.2.1
            have b3 := hw9.2.2.2.2
            go_simp
            try with_reducible rfl
          try simp only [Act.put, List.setIfInBounds_toArray, List.set_cons_zero, List.set_cons_succ]
          refine wpL_take (v := ?_) 9 rfl (by kernel_rfl) (fun _ _ _ h => h) (by rfl) ?_ HSd.out ?_
          rotate_left
          focus
            intro w9 hw9
            have a0 := hw9.1
            have b0 := hw9.2.1
            have b1 := hw9.2.2.1
            have b2 := hw9.2.2.2.1
            have b3 := hw9.2.2.2.2
            go_simp
            try with_reducible rfl
          try simp only [Act.put, List.setIfInBounds_toArray, List.set_cons_zero, List.set_cons_succ]
          refine wpL_one 10 rfl (by kernel_rfl) (by rfl) ?_
          intro K hK
          go_simp
          have hal : Below wd.heap.size wd (wd.alloc (.cells #[.string s.it, .int .i64 s.fr, .int .i64 s.nt] 53)) := (Below.refl _ _).alloc (Nat.le_refl _) _
          have HC3 : Hid (Blk (wd.alloc (.cells #[.string s.it, .int .i64 s.fr, .int .i64 s.nt] 53)) wd.heap.size #[.string s.it, .int .i64 s.fr, .int .i64 s.nt] 53) := Blk.new wd _ _
          have HJ3 : Hid (CpJ w2 (wd.alloc (.cells #[.string s.it, .int .i64 s.fr, .int .i64 s.nt] 53)) a j (.slice q0 j d0) ∧ Below w.heap.size w (wd.alloc (.cells #[.string s.it, .int .i64 s.fr, .int .i64 s.nt] 53))) := ⟨⟨HJd.out.1.box.on hal, HJd.out.1.own.on hal, HJd.out.1.bel.trans (hal.mono HJd.out.1.bel.size)⟩, HJd.out.2.trans (hal.mono HJd.out.2.size)⟩
          have HS3 : Hid ((fun w' => w'.cell? ⟨w2.heap.size, 8, none⟩ = some (.slice q0 j d0) ∧ w'.cell? ⟨b, o + i * 10 + 8, none⟩ = some (.slice (some ⟨sb, so, none⟩) a.sn.length d) ∧ w'.cell? ⟨sb, so + j * 3, none⟩ = some (.string s.it) ∧ w'.cell? ⟨sb, so + j * 3 + 1, none⟩ = some (.int .i64 s.fr) ∧ w'.cell? ⟨sb, so + j * 3 + 2, none⟩ = some (.int .i64 s.nt)) (wd.alloc (.cells #[.string s.it, .int .i64 s.fr, .int .i64 s.nt] 53))) := ⟨HJ3.out.1.box.cell (i := 8) rfl, HS.out (wd.alloc (.cells #[.string s.it, .int .i64 s.fr, .int .i64 s.nt] 53)) HJ3.out.2⟩
          clear hal HJd HSd
          refine hK.out _ _ (fun _ => HS3.out) ?_
          clear hK K
          try simp only [Act.put, List.setIfInBounds_toArray, List.set_cons_zero, List.set_cons_succ]
          generalize hgz : wd.heap.size = gz at *
          generalize (wd.alloc (.cells #[.string s.it, .int .i64 s.fr, .int .i64 s.nt] 53)) = w6 at *
          clear hgz
          refine wpL_one 11 rfl (by kernel_rfl) (by rfl) ?_
          intro K hK
          refine wp_appG w6 (.tmp 30) (.tmp 39) 53 48 (.agg #[.string ⟨#[]⟩, .int .i64 0, .int .i64 0]) 32 rfl Tryz.underlying48 info_saw rfl (by decide) (fun _ => rfl) w2.heap.size (.slice q0 j d0) (a.sn.take j) s (encS_one s) (by rfl) HJ3.out.1.own gz (by rfl) (fun t u hu => by
            have h0 : t = 0 ∨ t = 1 ∨ t = 2 := by have h9 := (List.getElem?_eq_some_iff.1 hu).1; simp [encS] at h9; omega
            rcases h0 with rfl | rfl | rfl <;> (cases hu; exact HC3.out.cell rfl)) (by have h8 := HSN.out.2.1; have h9 := HJ9.out; rw [HTJ.out.2]; omega) (by have h8 := HSN.out.2.1; have h9 := HJ9.out; rw [HTJ.out.2]; omega) HJ3.out.1.bel.size ?_
          intro v7 w7 ho7 hg7 hat7
          have HK7 : Hid (Blk w7 w2.heap.size #[.int .i64 a.tx, .int .i64 a.kd, .string a.it, .int .i64 a.fr, .int .i64 a.nt, .string a.lo, .string a.hi, .bool a.op, .slice q0 j d0, .int .u64 (a.st : Nat)] 51) := HJ3.out.1.box.grown hg7 (own_ne_blk HJ3.out.1.own HJ3.out.1.box (by decide))
          have HB7 : Hid (Below w2.heap.size w2 w7 ∧ Below w.heap.size w w7) := by
            have h1 : Below w2.heap.size w2 w7 := HJ3.out.1.bel.grown hg7 HJ3.out.1.bel.size (fun k hk => (HJ3.out.1.own.blk hk).1)
            exact ⟨h1, HBw.out.trans (h1.mono HBw.out.size)⟩
          have HS7 : Hid ((fun w' => w'.cell? ⟨w2.heap.size, 8, none⟩ = some (.slice q0 j d0) ∧ w'.cell? ⟨b, o + i * 10 + 8, none⟩ = some (.slice (some ⟨sb, so, none⟩) a.sn.length d) ∧ w'.cell? ⟨sb, so + j * 3, none⟩ = some (.string s.it) ∧ w'.cell? ⟨sb, so + j * 3 + 1, none⟩ = some (.int .i64 s.fr) ∧ w'.cell? ⟨sb, so + j * 3 + 2, none⟩ = some (.int .i64 s.nt)) w7) := ⟨HK7.out.cell (i := 8) rfl, HS.out w7 HB7.out.2⟩
          obtain ⟨q7, m7, d7, ev7⟩ := ho7.slc
          subst ev7
          have HO7 : Hid (OwnG encS 3 53 w7 w2.heap.size (.slice q7 m7 d7) (a.sn.take (j + 1))) := by rw [HTJ.out.1]; exact ho7
          clear ho7 hg7 hat7 HJ3 HS3 HC3
          refine hK.out _ _ (fun _ => HS7.out) ?_
          clear hK K
          try simp only [Act.put, List.setIfInBounds_toArray, List.set_cons_zero, List.set_cons_succ]
          refine wpL_one 12 rfl (by kernel_rfl) (by rfl) ?_
          intro K hK
          go_simp
          refine hK.out _ _ (fun _ => HS7.out) ?_
          clear hK K
          try simp only [Act.put, List.setIfInBounds_toArray, List.set_cons_zero, List.set_cons_succ]
          refine wpL_one 13 rfl (by kernel_rfl) (by rfl) ?_
          intro K hK
          have z0 := HS7.out.1
          have f0 := HK7.out.frozen 8
          go_simp
          refine hK.out _ _ (fun h => absurd rfl h) ?_
          clear hK K
          try simp only [Act.put, List.setIfInBounds_toArray, List.set_cons_zero, List.set_cons_succ]
          refine wpL_done (by kernel_rfl) ?_ _
          try simp only [NoPanic]
          have HJN : Hid (CpJ w2 (w7.setCell ⟨w2.heap.size, 8, none⟩ (.slice q7 m7 d7)) a (j + 1) (.slice q7 m7 d7)) := ⟨HK7.out.set 8 _, HO7.out.ne_set HK7.out (by decide), HB7.out.1.trans ((frm_set w7 w2.heap.size 8 _ (F := one1 w2.heap.size) (.inl rfl)).below HB7.out.1.size (fun k hk => by rw [show k = w2.heap.size from hk]; exact Nat.le_refl _))⟩
          clear HS7 HK7 HO7 HB7
          try clear z0
          try clear f0
          generalize w7.setCell ⟨w2.heap.size, 8, none⟩ (.slice q7 m7 d7) = w8 at *
          have hb8 : a.sn.length ≤ 4398046511104 := HSN.out.2.1
          have hb9 : j < a.sn.length := HJ9.out
          go_wp2_with fail
          go_roundw
          case rel =>
            have h8 := HSN.out.2.1
            have h9 := HJ9.out
            exact ⟨j + 1, _, by go_num, HJ9.out, HJN.out⟩
          case measure => have h9 := HJ9.out; simp [intOf]; omega

end Go.Proofs.YtncfejndmlcidaaGreat
