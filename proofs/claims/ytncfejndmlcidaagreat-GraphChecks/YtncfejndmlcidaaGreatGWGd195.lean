/- Layer 19, the document's side: is what a scan saw right? Layer 19, the document's side: may an action be? -/
import Derived.Test.YtncfejndmlcidaaGreatGWGd194
import Derived.Test.YtncfejndmlcidaaGreatGMGr5
import Derived.Test.YtncfejndmlcidaaGreatGWEd3
namespace Go.Proofs.YtncfejndmlcidaaGreat
open Go.RowKit
set_option maxRecDepth 100000

theorem scD1_succ (H : List Ac) (a : Ac) (i : Nat) (hi : i < a.sn.length) : scD1 H a (i + 1) = (scD1 H a i && (inR a a.sn[i].it && (i == 0 || ltB (a.sn.getD (i - 1) ⟨⟨#[]⟩, 0, 0⟩).it a.sn[i].it) && thD H a.tx a.sn[i].fr a.sn[i].nt a.sn[i].it)) := by
  unfold scD1
  rw [List.range_succ, List.all_append]
  simp [List.getD_eq_getElem?_getD, hi]
theorem scD1_no (H : List Ac) (a : Ac) (i : Nat) : ∀ n, i < n → scD1 H a (i + 1) = false → scD1 H a n = false := fun n hn h => by
  unfold scD1 at h ⊢
  rw [List.all_eq_false] at h ⊢
  obtain ⟨x, hx, h2⟩ := h
  exact ⟨x, List.mem_range.2 (by have := List.mem_range.1 hx; omega), h2⟩
def scP (a b : Ac) : Bool := !(b.kd == 4 && b.tx == a.tx && inR a b.it) || a.sn.any (fun s => decide (s.it = b.it))
theorem all_take {α : Type} (p : α → Bool) (L : List α) (k : Nat) (hk : k < L.length) : (L.take (k + 1)).all p = ((L.take k).all p && p L[k]) := by
  rw [← List.take_append_getElem hk, List.all_append]
  simp
theorem any_take {α : Type} (p : α → Bool) (L : List α) (k : Nat) (hk : k < L.length) : (L.take (k + 1)).any p = ((L.take k).any p || p L[k]) := by
  rw [← List.take_append_getElem hk, List.any_append]
  simp
theorem all_take_no {α : Type} (p : α → Bool) (L : List α) (k : Nat) (hk : k < L.length) (h : p L[k] = false) : L.all p = false := by
  rw [List.all_eq_false]
  exact ⟨L[k], List.getElem_mem hk, by rw [h]; simp⟩
set_option maxHeartbeats 16000000 in
theorem scanned_any (B : Nat) (v : Value) (Z : List (Ac × Value)) (w : World) (h : RdH B w v Z) (hB : B ≤ w.heap.size) (n : Nat) (hn : n < Z.length) :
    Calls Tryz.prog 46 #[v, .int .i64 (n : Nat)] w fun e w' => e = .returned (.bool (scD ((Z.map (·.1)).take n) Z[n].1)) ∧ Below w.heap.size w w' := by
  obtain ⟨p, c, rfl, hpc, hp0, -⟩ := h.sl.f
  have hll : Z.length ≤ 1172812402961 := h.ll
  have hls : Z[n].1.sn.length ≤ 4398046511104 := h.lsn _ (List.getElem_mem hn)
  have HR : Hid (RdH B w (.slice p Z.length c) Z ∧ B ≤ w.heap.size ∧ n < Z.length) := ⟨h, hB, hn⟩
  have HT : Hid (∀ W : World, Below w.heap.size w W → ∀ (x : ByteArray) (fr nt : Int), Calls Tryz.prog 45 #[.slice p Z.length c, .int .i64 (n : Nat), .string x, .int .i64 fr, .int .i64 nt] W fun e w' => e = .returned (.bool (thD ((Z.map (·.1)).take n) Z[n].1.tx fr nt x)) ∧ Below W.heap.size W w') := fun W hb x fr nt => by
    refine (there_any B _ Z W (h.on (hb.mono hB)) n hn x fr nt).mono ?_
    rintro e w' ⟨he, rfl⟩
    exact ⟨he, Below.refl _ _⟩
  obtain ⟨b, o, q, d, rfl, hb, e8, hd, k0, -, -, -, -, k5, k6, k7, k8, -⟩ := h.at n hn
  have hsn := h.sn _ (List.getElem_mem hn)
  rw [e8] at hsn k8
  have HL : Hid (((Z.map (·.1)).take n).length = n) := by show _ = _; rw [List.length_take, List.length_map]; omega
  have HZ : Hid (∀ k, k < n → ∃ h : k < ((Z.map (·.1)).take n).length, ∃ h2 : k < Z.length, ((Z.map (·.1)).take n)[k] = Z[k].1) := fun k hk => by
    have h1 := HL.out
    exact ⟨by omega, by omega, by simp⟩
  generalize (Z.map (·.1)).take n = H at *
  generalize Z[n].1 = a at *
  have HSN : Hid (SlG encS 3 B w (.slice q a.sn.length d) a.sn) := hsn
  have HF : Hid (∀ w' : World, Below w.heap.size w w' → w'.cell? ⟨b, o + n * 10, none⟩ = some (.int .i64 a.tx) ∧ w'.cell? ⟨b, o + n * 10 + 5, none⟩ = some (.string a.lo) ∧ w'.cell? ⟨b, o + n * 10 + 6, none⟩ = some (.string a.hi) ∧ w'.cell? ⟨b, o + n * 10 + 7, none⟩ = some (.bool a.op) ∧ w'.cell? ⟨b, o + n * 10 + 8, none⟩ = some (.slice q a.sn.length d)) := fun w' hb' => by
    have hbw : b < w.heap.size := by omega
    refine ⟨?_, ?_, ?_, ?_, ?_⟩
    · rw [hb'.cell (p := ⟨b, o + n * 10, none⟩) hbw]; exact k0
    · rw [hb'.cell (p := ⟨b, o + n * 10 + 5, none⟩) hbw]; exact k5
    · rw [hb'.cell (p := ⟨b, o + n * 10 + 6, none⟩) hbw]; exact k6
    · rw [hb'.cell (p := ⟨b, o + n * 10 + 7, none⟩) hbw]; exact k7
    · rw [hb'.cell (p := ⟨b, o + n * 10 + 8, none⟩) hbw]; exact k8
  clear h hb e8 hsn hp0 k0 k5 k6 k7
  have HBww : Hid (Below w.heap.size w w) := Below.refl _ _
  go_enter Tryz.func46, Tryz.ntmps46
  go_wp2_with fail
  clear k8
  go_loopw [6] (fun ix wr => ∃ i : Nat, ix = .int .i64 (i : Int) ∧ i ≤ a.sn.length ∧ Hid (scD1 H a i = true ∧ Below w.heap.size w wr)) (fun ix _ => a.sn.length - (intOf ix).toNat)
  case atStart => exact ⟨0, by go_num, Nat.zero_le _, rfl, HBww.out⟩
  case round =>
    obtain ⟨i, rfl, hi, HI⟩ := hrel
    by_cases hi0 : i = a.sn.length
    · subst hi0
      rename World => wo
      have HBo : Hid (Below w.heap.size w wo ∧ scD1 H a a.sn.length = true) := ⟨HI.out.2, HI.out.1⟩
      clear HI
      go_wp2_with fail
      go_loopw [7, 8, 9] (fun va _ _ wr => ∃ k : Nat, va = .int .i64 (k : Int) ∧ k ≤ n ∧ Hid ((H.take k).all (scP a) = true) ∧ Hid (Below w.heap.size w wr)) (fun va _ _ _ => n - (intOf va).toNat)
      case atStart => exact ⟨0, by go_num, Nat.zero_le _, rfl, HBo.out.1⟩
      case round =>
        obtain ⟨k, rfl, hk, HKA0, HBwr⟩ := hrel
        by_cases hk0 : k = n
        · subst hk0
          go_wp2_with fail
          go_ret
          refine ⟨?_, HBwr.out⟩
          have h1 := HKA0.out
          rw [List.take_of_length_le (by have := HL.out; omega)] at h1
          have h2 : scD2 H a = true := h1
          rw [scD, HBo.out.2, h2]
          rfl
        · have hk1 : k < n := by omega
          clear hk0
          have HK1 : Hid (k < n) := hk1
          obtain ⟨hkH, hkZ, hke⟩ := HZ.out k hk1
          have HK : Hid (∀ W : World, Below w.heap.size w W → W.cell? ⟨b, o + k * 10, none⟩ = some (.int .i64 H[k].tx) ∧ W.cell? ⟨b, o + k * 10 + 1, none⟩ = some (.int .i64 H[k].kd) ∧ W.cell? ⟨b, o + k * 10 + 2, none⟩ = some (.string H[k].it)) := fun W hbW => by
            obtain ⟨b', o', q', d', e, _, _, _, g0, g1, g2, _⟩ := (HR.out.1.on (hbW.mono HR.out.2.1)).at k hkZ
            cases e
            rw [hke]
            exact ⟨g0, g1, g2⟩
          have HKA : Hid ((H.take k).all (scP a) = true ∧ (scP a H[k] = false → scD2 H a = false)) := ⟨HKA0.out, fun hp => all_take_no (scP a) H k hkH hp⟩
          have HKL : Hid (k < H.length) := hkH
          clear HKA0 hke hkZ
          obtain ⟨PE, hPE⟩ : ∃ p, scP a (H[k]'hkH) = p := ⟨_, rfl⟩
          have HPE : Hid (scP a (H[k]'hkH) = PE) := hPE
          clear hPE
          have hpe := HPE.out
          obtain ⟨e, he⟩ : ∃ e, H[k]'hkH = e := ⟨_, rfl⟩
          rw [he] at HK hpe HKA
          rw [hpe] at HKA
          clear he
          unfold scP at hpe
          have HHC : Hid (∀ p : InB wr, Calls Tryz.prog 37 #[rngV a.lo a.hi a.op, .string e.it] p.w' fun e' w' => e' = .returned (.bool (inR a e.it)) ∧ Below p.w'.heap.size p.w' w') := fun p => hasD_any a.lo a.hi a.op e.it p.w'
          generalize inR a e.it = R1 at *
          by_cases h4 : e.kd = 4
          · have q4 : (e.kd != 4) = false := by simp [h4]
            by_cases h5 : e.tx = a.tx
            · have q5 : (e.tx != a.tx) = false := by simp [h5]
              cases R1
              · obtain rfl : true = PE := by rw [← hpe]; simp
                clear hpe h4 h5
                go_upto_region 10 with fail
                haveI := inB_ne wr
                have f0 := fun p : InB wr => (HF.out p.w' (HBwr.out.trans (p.h.mono HBwr.out.size))).1
                have f1 := fun p : InB wr => (HF.out p.w' (HBwr.out.trans (p.h.mono HBwr.out.size))).2.1
                have f2 := fun p : InB wr => (HF.out p.w' (HBwr.out.trans (p.h.mono HBwr.out.size))).2.2.1
                have f3 := fun p : InB wr => (HF.out p.w' (HBwr.out.trans (p.h.mono HBwr.out.size))).2.2.2.1
                have f4 := fun p : InB wr => (HK.out p.w' (HBwr.out.trans (p.h.mono HBwr.out.size))).1
                have f5 := fun p : InB wr => (HK.out p.w' (HBwr.out.trans (p.h.mono HBwr.out.size))).2.1
                have f6 := fun p : InB wr => (HK.out p.w' (HBwr.out.trans (p.h.mono HBwr.out.size))).2.2
                refine wp_region_inB (by kernel_rfl) (by kernel_rfl) ?_
                repeat (go_big_quiet_step (first | (go_at_call 37; exact Calls.inB (HHC.out _))))
                refine wpQuiet_nil ?_
                rintro w3 ⟨⟨w3', hb9⟩, h9⟩
                obtain rfl : w3 = w3' := h9
                have HB2 : Hid (Below w.heap.size w w3) := HBwr.out.trans (hb9.mono HBwr.out.size)
                clear hb9 f0 f1 f2 f3 f4 f5 f6
                clear HHC
                go_wp2_with fail
                go_roundw
                case rel => exact ⟨k + 1, by go_num, HK1.out, by show _ = _; rw [all_take _ _ _ HKL.out, HKA.out.1, HPE.out]; rfl, HB2.out⟩
                case measure => have h9 := HK1.out; simp [intOf]; omega
              · rw [show (e.kd == 4) = true from by rw [h4]; rfl, show (e.tx == a.tx) = true from by rw [h5]; simp] at hpe
                simp only [Bool.and_self, Bool.not_true, Bool.false_or] at hpe
                have HPP : Hid (a.sn.any (fun s => decide (s.it = e.it)) = PE) := hpe
                clear hpe h4 h5
                go_upto_region 10 with fail
                haveI := inB_ne wr
                have f0 := fun p : InB wr => (HF.out p.w' (HBwr.out.trans (p.h.mono HBwr.out.size))).1
                have f1 := fun p : InB wr => (HF.out p.w' (HBwr.out.trans (p.h.mono HBwr.out.size))).2.1
                have f2 := fun p : InB wr => (HF.out p.w' (HBwr.out.trans (p.h.mono HBwr.out.size))).2.2.1
                have f3 := fun p : InB wr => (HF.out p.w' (HBwr.out.trans (p.h.mono HBwr.out.size))).2.2.2.1
                have f4 := fun p : InB wr => (HK.out p.w' (HBwr.out.trans (p.h.mono HBwr.out.size))).1
                have f5 := fun p : InB wr => (HK.out p.w' (HBwr.out.trans (p.h.mono HBwr.out.size))).2.1
                have f6 := fun p : InB wr => (HK.out p.w' (HBwr.out.trans (p.h.mono HBwr.out.size))).2.2
                refine wp_region_inB (by kernel_rfl) (by kernel_rfl) ?_
                repeat (go_big_quiet_step (first | (go_at_call 37; exact Calls.inB (HHC.out _))))
                refine wpQuiet_nil ?_
                rintro w3 ⟨⟨w3', hb9⟩, h9⟩
                obtain rfl : w3 = w3' := h9
                have HB2 : Hid (Below w.heap.size w w3) := HBwr.out.trans (hb9.mono HBwr.out.size)
                clear hb9 f0 f1 f2 f3 f4 f5 f6
                clear HHC
                go_wp2_with fail
                go_loopw [8, 9] (fun va vb wr1 => ∃ (j : Nat) (fd : Bool), vb = .int .i64 (j : Int) ∧ va = .bool fd ∧ j ≤ a.sn.length ∧ Hid ((a.sn.take j).any (fun s => decide (s.it = e.it)) = fd) ∧ Hid (Below w.heap.size w wr1)) (fun _ vb _ => a.sn.length - (intOf vb).toNat)
                case atStart => exact ⟨0, false, by go_num, rfl, Nat.zero_le _, rfl, HB2.out⟩
                case round =>
                  obtain ⟨j, fd, rfl, rfl, hj, HFD, HBw1⟩ := hrel
                  rename World => w9
                  by_cases hj0 : j = a.sn.length
                  · subst hj0
                    have hf := HFD.out
                    rw [List.take_length, HPP.out] at hf
                    subst hf
                    have HB2 : Hid (Below w.heap.size w w9) := HBw1.out
                    cases PE
                    · go_wp2_with fail
                      go_ret
                      exact ⟨by rw [scD, HKA.out.2 (by simp), Bool.and_false]; rfl, HBw1.out⟩
                    · skip
                      go_wp2_with fail
                      go_roundw
                      case rel => exact ⟨k + 1, by go_num, HK1.out, by show _ = _; rw [all_take _ _ _ HKL.out, HKA.out.1, HPE.out]; rfl, HB2.out⟩
                      case measure => have h9 := HK1.out; simp [intOf]; omega
                  · have hj1 : j < a.sn.length := by omega
                    clear hj0
                    have HJ1 : Hid (j < a.sn.length) := hj1
                    obtain ⟨sb, so, rfl, -, g0, -, -⟩ := (HSN.out.on (HBw1.out.mono HR.out.2.1)).cellS j hj1
                    have g2 := (HK.out w9 HBw1.out).2.2
                    have HAT : Hid ((a.sn.take (j + 1)).any (fun s => decide (s.it = e.it)) = ((a.sn.take j).any (fun s => decide (s.it = e.it)) || decide (a.sn[j].it = e.it))) := any_take _ _ _ hj1
                    have hse := str_eq a.sn[j].it e.it
                    generalize a.sn[j].it = y at *
                    obtain ⟨R, hRR⟩ : ∃ R, decide (y = e.it) = R := ⟨_, rfl⟩
                    rw [hRR] at hse HAT
                    clear hRR
                    have HSE : Hid ((y.toList == e.it.toList) = R) := hse
                    clear hse
                    go_upto_region 15 with fail
                    have q1 := HSE.out
                    cases fd
                    · go_quiet (fail)

                      clear g0 g2
                      go_wp2_with fail
                      go_roundw
                      case rel => exact ⟨j + 1, _, by go_num, rfl, HJ1.out, by show _ = _; rw [HAT.out, HFD.out]; first | rfl | simp, below_drewN HBw1.out _⟩
                      case measure => have h9 := HJ1.out; simp [intOf]; omega
                    · go_quiet (fail)

                      clear g0 g2
                      go_wp2_with fail
                      go_roundw
                      case rel => exact ⟨j + 1, _, by go_num, rfl, HJ1.out, by show _ = _; rw [HAT.out, HFD.out]; first | rfl | simp, below_drewN HBw1.out _⟩
                      case measure => have h9 := HJ1.out; simp [intOf]; omega
            · have q5 : (e.tx != a.tx) = true := by simp [h5]
              obtain rfl : true = PE := by rw [← hpe, show (e.tx == a.tx) = false from by simp [h5]]; simp
              clear hpe h4 h5
              go_upto_region 10 with fail
              haveI := inB_ne wr
              have f0 := fun p : InB wr => (HF.out p.w' (HBwr.out.trans (p.h.mono HBwr.out.size))).1
              have f1 := fun p : InB wr => (HF.out p.w' (HBwr.out.trans (p.h.mono HBwr.out.size))).2.1
              have f2 := fun p : InB wr => (HF.out p.w' (HBwr.out.trans (p.h.mono HBwr.out.size))).2.2.1
              have f3 := fun p : InB wr => (HF.out p.w' (HBwr.out.trans (p.h.mono HBwr.out.size))).2.2.2.1
              have f4 := fun p : InB wr => (HK.out p.w' (HBwr.out.trans (p.h.mono HBwr.out.size))).1
              have f5 := fun p : InB wr => (HK.out p.w' (HBwr.out.trans (p.h.mono HBwr.out.size))).2.1
              have f6 := fun p : InB wr => (HK.out p.w' (HBwr.out.trans (p.h.mono HBwr.out.size))).2.2
              refine wp_region_inB (by kernel_rfl) (by kernel_rfl) ?_
              repeat (go_big_quiet_step (first | (go_at_call 37; exact Calls.inB (HHC.out _))))
              refine wpQuiet_nil ?_
              rintro w3 ⟨⟨w3', hb9⟩, h9⟩
              obtain rfl : w3 = w3' := h9
              have HB2 : Hid (Below w.heap.size w w3) := HBwr.out.trans (hb9.mono HBwr.out.size)
              clear hb9 f0 f1 f2 f3 f4 f5 f6
              clear HHC
              go_wp2_with fail
              go_roundw
              case rel => exact ⟨k + 1, by go_num, HK1.out, by show _ = _; rw [all_take _ _ _ HKL.out, HKA.out.1, HPE.out]; rfl, HB2.out⟩
              case measure => have h9 := HK1.out; simp [intOf]; omega
          · have q4 : (e.kd != 4) = true := by simp [h4]
            obtain rfl : true = PE := by rw [← hpe, show (e.kd == 4) = false from by simp [h4]]; simp
            clear hpe h4
            go_upto_region 10 with fail
            haveI := inB_ne wr
            have f0 := fun p : InB wr => (HF.out p.w' (HBwr.out.trans (p.h.mono HBwr.out.size))).1
            have f1 := fun p : InB wr => (HF.out p.w' (HBwr.out.trans (p.h.mono HBwr.out.size))).2.1
            have f2 := fun p : InB wr => (HF.out p.w' (HBwr.out.trans (p.h.mono HBwr.out.size))).2.2.1
            have f3 := fun p : InB wr => (HF.out p.w' (HBwr.out.trans (p.h.mono HBwr.out.size))).2.2.2.1
            have f4 := fun p : InB wr => (HK.out p.w' (HBwr.out.trans (p.h.mono HBwr.out.size))).1
            have f5 := fun p : InB wr => (HK.out p.w' (HBwr.out.trans (p.h.mono HBwr.out.size))).2.1
            have f6 := fun p : InB wr => (HK.out p.w' (HBwr.out.trans (p.h.mono HBwr.out.size))).2.2
            refine wp_region_inB (by kernel_rfl) (by kernel_rfl) ?_
            repeat (go_big_quiet_step (first | (go_at_call 37; exact Calls.inB (HHC.out _))))
            refine wpQuiet_nil ?_
            rintro w3 ⟨⟨w3', hb9⟩, h9⟩
            obtain rfl : w3 = w3' := h9
            have HB2 : Hid (Below w.heap.size w w3) := HBwr.out.trans (hb9.mono HBwr.out.size)
            clear hb9 f0 f1 f2 f3 f4 f5 f6
            clear HHC
            go_wp2_with fail
            go_roundw
            case rel => exact ⟨k + 1, by go_num, HK1.out, by show _ = _; rw [all_take _ _ _ HKL.out, HKA.out.1, HPE.out]; rfl, HB2.out⟩
            case measure => have h9 := HK1.out; simp [intOf]; omega
    · have hi1 : i < a.sn.length := by omega
      clear hi0
      have HI1 : Hid (i < a.sn.length) := hi1
      obtain ⟨sb, so, rfl, hsb, -⟩ := HSN.out.cellS i hi1
      have HS : Hid (∀ W : World, Below w.heap.size w W → ∀ (j : Nat) (hj : j < a.sn.length), W.cell? ⟨sb, so + j * 3, none⟩ = some (.string a.sn[j].it) ∧ W.cell? ⟨sb, so + j * 3 + 1, none⟩ = some (.int .i64 a.sn[j].fr) ∧ W.cell? ⟨sb, so + j * 3 + 2, none⟩ = some (.int .i64 a.sn[j].nt)) := fun W hbW j hj => by
        obtain ⟨sb', so', e, _, g0, g1, g2⟩ := (HSN.out.on (hbW.mono HR.out.2.1)).cellS j hj
        cases e
        exact ⟨g0, g1, g2⟩
      have HBwr : Hid (Below w.heap.size w wr) := HI.out.2
      have HSC := scD1_succ H a i hi1
      clear hsb
      have HX : Hid (∀ W : World, Below w.heap.size w W → W.cell? ⟨sb, so + i * 3, none⟩ = some (.string a.sn[i].it) ∧ W.cell? ⟨sb, so + i * 3 + 1, none⟩ = some (.int .i64 a.sn[i].fr) ∧ W.cell? ⟨sb, so + i * 3 + 2, none⟩ = some (.int .i64 a.sn[i].nt)) := fun W hbW => HS.out W hbW i hi1
      rw [HI.out.1, Bool.true_and] at HSC
      generalize a.sn[i].it = x at *
      generalize a.sn[i].fr = fr at *
      generalize a.sn[i].nt = nt at *
      obtain ⟨R1, hR1⟩ : ∃ R, hasB a.lo a.hi a.op x = R := ⟨_, rfl⟩
      have HR1 : Hid (hasB a.lo a.hi a.op x = R1) := hR1
      obtain ⟨R3, hR3⟩ : ∃ R, thD H a.tx fr nt x = R := ⟨_, rfl⟩
      have HR3 : Hid (thD H a.tx fr nt x = R3) := hR3
      rw [show inR a x = R1 from hR1, hR3] at HSC
      clear hR1 hR3
      have HC1 : Hid (∀ p : InB wr, Calls Tryz.prog 37 #[rngV a.lo a.hi a.op, .string x] p.w' fun e w' => e = .returned (.bool R1) ∧ Below p.w'.heap.size p.w' w') := fun p => by
        rw [← HR1.out]
        exact hasD_any a.lo a.hi a.op x p.w'
      have HC2 : Hid (∀ p : InB wr, Calls Tryz.prog 45 #[.slice (some ⟨b, o, none⟩) Z.length c, .int .i64 (n : Nat), .string x, .int .i64 fr, .int .i64 nt] p.w' fun e w' => e = .returned (.bool R3) ∧ Below p.w'.heap.size p.w' w') := fun p => by
        rw [← HR3.out]
        exact HT.out p.w' (HBwr.out.trans (p.h.mono HBwr.out.size)) x fr nt
      cases R1
      · skip
        have HSC9 : Hid (scD1 H a (i + 1) = false) := by show _ = _; rw [HSC]; simp
        clear HSC
        go_upto_region 5 with fail
        haveI := inB_ne wr
        have f0 := fun p : InB wr => (HF.out p.w' (HBwr.out.trans (p.h.mono HBwr.out.size))).1
        have f1 := fun p : InB wr => (HF.out p.w' (HBwr.out.trans (p.h.mono HBwr.out.size))).2.1
        have f2 := fun p : InB wr => (HF.out p.w' (HBwr.out.trans (p.h.mono HBwr.out.size))).2.2.1
        have f3 := fun p : InB wr => (HF.out p.w' (HBwr.out.trans (p.h.mono HBwr.out.size))).2.2.2.1
        have f4 := fun p : InB wr => (HX.out p.w' (HBwr.out.trans (p.h.mono HBwr.out.size))).1
        have f5 := fun p : InB wr => (HX.out p.w' (HBwr.out.trans (p.h.mono HBwr.out.size))).2.1
        have f6 := fun p : InB wr => (HX.out p.w' (HBwr.out.trans (p.h.mono HBwr.out.size))).2.2
        refine wp_region_inB (by kernel_rfl) (by kernel_rfl) ?_
        repeat (go_big_quiet_step (first | (go_at_call 37; exact Calls.inB (HC1.out _)) | (go_at_call 45; exact Calls.inB (HC2.out _))))
        refine wpQuiet_nil ?_
        rintro w3 ⟨⟨w3', hb9⟩, h9⟩
        obtain rfl : w3 = w3' := h9
        have HB2 : Hid (Below w.heap.size w w3) := HBwr.out.trans (hb9.mono HBwr.out.size)
        clear hb9 f0 f1 f2 f3 f4 f5 f6
        clear HC1 HC2
        go_wp2_with fail
        go_ret
        exact ⟨by rw [scD, scD1_no H a i _ HI1.out HSC9.out]; rfl, HB2.out⟩
      · by_cases hi2 : i = 0
        · have g1 : ¬ ((i : Int) > 0) := by omega
          have g2 : ¬ (0 < i) := by omega
          have g3 : ¬ (0 < (i : Int)) := by omega
          rw [show (i == 0) = true from by rw [hi2]; rfl] at HSC
          clear hi2
          cases R3
          · skip
            have HSC9 : Hid (scD1 H a (i + 1) = false) := by show _ = _; rw [HSC]; simp
            clear HSC
            go_upto_region 5 with fail
            haveI := inB_ne wr
            have f0 := fun p : InB wr => (HF.out p.w' (HBwr.out.trans (p.h.mono HBwr.out.size))).1
            have f1 := fun p : InB wr => (HF.out p.w' (HBwr.out.trans (p.h.mono HBwr.out.size))).2.1
            have f2 := fun p : InB wr => (HF.out p.w' (HBwr.out.trans (p.h.mono HBwr.out.size))).2.2.1
            have f3 := fun p : InB wr => (HF.out p.w' (HBwr.out.trans (p.h.mono HBwr.out.size))).2.2.2.1
            have f4 := fun p : InB wr => (HX.out p.w' (HBwr.out.trans (p.h.mono HBwr.out.size))).1
            have f5 := fun p : InB wr => (HX.out p.w' (HBwr.out.trans (p.h.mono HBwr.out.size))).2.1
            have f6 := fun p : InB wr => (HX.out p.w' (HBwr.out.trans (p.h.mono HBwr.out.size))).2.2
            refine wp_region_inB (by kernel_rfl) (by kernel_rfl) ?_
            repeat (go_big_quiet_step (first | (go_at_call 37; exact Calls.inB (HC1.out _)) | (go_at_call 45; exact Calls.inB (HC2.out _))))
            refine wpQuiet_nil ?_
            rintro w3 ⟨⟨w3', hb9⟩, h9⟩
            obtain rfl : w3 = w3' := h9
            have HB2 : Hid (Below w.heap.size w w3) := HBwr.out.trans (hb9.mono HBwr.out.size)
            clear hb9 f0 f1 f2 f3 f4 f5 f6
            clear HC1 HC2
            go_wp2_with fail
            go_ret
            exact ⟨by rw [scD, scD1_no H a i _ HI1.out HSC9.out]; rfl, HB2.out⟩
          · skip
            have HSC9 : Hid (scD1 H a (i + 1) = true) := by show _ = _; rw [HSC]; simp
            clear HSC
            go_upto_region 5 with fail
            haveI := inB_ne wr
            have f0 := fun p : InB wr => (HF.out p.w' (HBwr.out.trans (p.h.mono HBwr.out.size))).1
            have f1 := fun p : InB wr => (HF.out p.w' (HBwr.out.trans (p.h.mono HBwr.out.size))).2.1
            have f2 := fun p : InB wr => (HF.out p.w' (HBwr.out.trans (p.h.mono HBwr.out.size))).2.2.1
            have f3 := fun p : InB wr => (HF.out p.w' (HBwr.out.trans (p.h.mono HBwr.out.size))).2.2.2.1
            have f4 := fun p : InB wr => (HX.out p.w' (HBwr.out.trans (p.h.mono HBwr.out.size))).1
            have f5 := fun p : InB wr => (HX.out p.w' (HBwr.out.trans (p.h.mono HBwr.out.size))).2.1
            have f6 := fun p : InB wr => (HX.out p.w' (HBwr.out.trans (p.h.mono HBwr.out.size))).2.2
            refine wp_region_inB (by kernel_rfl) (by kernel_rfl) ?_
            repeat (go_big_quiet_step (first | (go_at_call 37; exact Calls.inB (HC1.out _)) | (go_at_call 45; exact Calls.inB (HC2.out _))))
            refine wpQuiet_nil ?_
            rintro w3 ⟨⟨w3', hb9⟩, h9⟩
            obtain rfl : w3 = w3' := h9
            have HB2 : Hid (Below w.heap.size w w3) := HBwr.out.trans (hb9.mono HBwr.out.size)
            clear hb9 f0 f1 f2 f3 f4 f5 f6
            clear HC1 HC2
            go_wp2_with fail
            go_roundw
            case rel => exact ⟨i + 1, by go_num, HI1.out, HSC9.out, HB2.out⟩
            case measure => have h9 := HI1.out; simp [intOf]; omega
        · obtain ⟨j, rfl⟩ : ∃ j, i = j + 1 := ⟨i - 1, by omega⟩
          have hj1 : j < a.sn.length := by omega
          have HP : Hid (∀ W : World, Below w.heap.size w W → W.cell? ⟨sb, so + j * 3, none⟩ = some (.string (a.sn.getD j ⟨⟨#[]⟩, 0, 0⟩).it)) := fun W hbW => by
            rw [List.getD_eq_getElem?_getD, List.getElem?_eq_getElem hj1, Option.getD_some]
            exact (HS.out W hbW j hj1).1
          rw [show j + 1 - 1 = j from rfl, show (j + 1 == 0) = false from rfl] at HSC
          generalize (a.sn.getD j ⟨⟨#[]⟩, 0, 0⟩).it = y at *
          obtain ⟨R2, hR2⟩ : ∃ R, ltB y x = R := ⟨_, rfl⟩
          have h2 : Op.bytesLess y.toList x.toList = R2 := hR2
          rw [hR2] at HSC
          clear hR2 hi2
          cases R2
          · skip
            have HSC9 : Hid (scD1 H a ((j + 1) + 1) = false) := by show _ = _; rw [HSC]; simp
            clear HSC
            go_upto_region 5 with fail
            haveI := inB_ne wr
            have f0 := fun p : InB wr => (HF.out p.w' (HBwr.out.trans (p.h.mono HBwr.out.size))).1
            have f1 := fun p : InB wr => (HF.out p.w' (HBwr.out.trans (p.h.mono HBwr.out.size))).2.1
            have f2 := fun p : InB wr => (HF.out p.w' (HBwr.out.trans (p.h.mono HBwr.out.size))).2.2.1
            have f3 := fun p : InB wr => (HF.out p.w' (HBwr.out.trans (p.h.mono HBwr.out.size))).2.2.2.1
            have f4 := fun p : InB wr => (HX.out p.w' (HBwr.out.trans (p.h.mono HBwr.out.size))).1
            have f5 := fun p : InB wr => (HX.out p.w' (HBwr.out.trans (p.h.mono HBwr.out.size))).2.1
            have f6 := fun p : InB wr => (HX.out p.w' (HBwr.out.trans (p.h.mono HBwr.out.size))).2.2
            have f7 := fun p : InB wr => (HP.out p.w' (HBwr.out.trans (p.h.mono HBwr.out.size)))
            refine wp_region_inB (by kernel_rfl) (by kernel_rfl) ?_
            repeat (go_big_quiet_step (first | (go_at_call 37; exact Calls.inB (HC1.out _)) | (go_at_call 45; exact Calls.inB (HC2.out _))))
            refine wpQuiet_nil ?_
            rintro w3 ⟨⟨w3', hb9⟩, h9⟩
            obtain rfl : w3 = w3' := h9
            have HB2 : Hid (Below w.heap.size w w3) := HBwr.out.trans (hb9.mono HBwr.out.size)
            clear hb9 f0 f1 f2 f3 f4 f5 f6 f7
            clear HC1 HC2
            go_wp2_with fail
            go_ret
            exact ⟨by rw [scD, scD1_no H a (j + 1) _ HI1.out HSC9.out]; rfl, HB2.out⟩
          · cases R3
            · skip
              have HSC9 : Hid (scD1 H a ((j + 1) + 1) = false) := by show _ = _; rw [HSC]; simp
              clear HSC
              go_upto_region 5 with fail
              haveI := inB_ne wr
              have f0 := fun p : InB wr => (HF.out p.w' (HBwr.out.trans (p.h.mono HBwr.out.size))).1
              have f1 := fun p : InB wr => (HF.out p.w' (HBwr.out.trans (p.h.mono HBwr.out.size))).2.1
              have f2 := fun p : InB wr => (HF.out p.w' (HBwr.out.trans (p.h.mono HBwr.out.size))).2.2.1
              have f3 := fun p : InB wr => (HF.out p.w' (HBwr.out.trans (p.h.mono HBwr.out.size))).2.2.2.1
              have f4 := fun p : InB wr => (HX.out p.w' (HBwr.out.trans (p.h.mono HBwr.out.size))).1
              have f5 := fun p : InB wr => (HX.out p.w' (HBwr.out.trans (p.h.mono HBwr.out.size))).2.1
              have f6 := fun p : InB wr => (HX.out p.w' (HBwr.out.trans (p.h.mono HBwr.out.size))).2.2
              have f7 := fun p : InB wr => (HP.out p.w' (HBwr.out.trans (p.h.mono HBwr.out.size)))
              refine wp_region_inB (by kernel_rfl) (by kernel_rfl) ?_
              repeat (go_big_quiet_step (first | (go_at_call 37; exact Calls.inB (HC1.out _)) | (go_at_call 45; exact Calls.inB (HC2.out _))))
              refine wpQuiet_nil ?_
              rintro w3 ⟨⟨w3', hb9⟩, h9⟩
              obtain rfl : w3 = w3' := h9
              have HB2 : Hid (Below w.heap.size w w3) := HBwr.out.trans (hb9.mono HBwr.out.size)
              clear hb9 f0 f1 f2 f3 f4 f5 f6 f7
              clear HC1 HC2
              go_wp2_with fail
              go_ret
              exact ⟨by rw [scD, scD1_no H a (j + 1) _ HI1.out HSC9.out]; rfl, HB2.out⟩
            · skip
              have HSC9 : Hid (scD1 H a ((j + 1) + 1) = true) := by show _ = _; rw [HSC]; simp
              clear HSC
              go_upto_region 5 with fail
              haveI := inB_ne wr
              have f0 := fun p : InB wr => (HF.out p.w' (HBwr.out.trans (p.h.mono HBwr.out.size))).1
              have f1 := fun p : InB wr => (HF.out p.w' (HBwr.out.trans (p.h.mono HBwr.out.size))).2.1
              have f2 := fun p : InB wr => (HF.out p.w' (HBwr.out.trans (p.h.mono HBwr.out.size))).2.2.1
              have f3 := fun p : InB wr => (HF.out p.w' (HBwr.out.trans (p.h.mono HBwr.out.size))).2.2.2.1
              have f4 := fun p : InB wr => (HX.out p.w' (HBwr.out.trans (p.h.mono HBwr.out.size))).1
              have f5 := fun p : InB wr => (HX.out p.w' (HBwr.out.trans (p.h.mono HBwr.out.size))).2.1
              have f6 := fun p : InB wr => (HX.out p.w' (HBwr.out.trans (p.h.mono HBwr.out.size))).2.2
              have f7 := fun p : InB wr => (HP.out p.w' (HBwr.out.trans (p.h.mono HBwr.out.size)))
              refine wp_region_inB (by kernel_rfl) (by kernel_rfl) ?_
              repeat (go_big_quiet_step (first | (go_at_call 37; exact Calls.inB (HC1.out _)) | (go_at_call 45; exact Calls.inB (HC2.out _))))
              refine wpQuiet_nil ?_
              rintro w3 ⟨⟨w3', hb9⟩, h9⟩
              obtain rfl : w3 = w3' := h9
              have HB2 : Hid (Below w.heap.size w w3) := HBwr.out.trans (hb9.mono HBwr.out.size)
              clear hb9 f0 f1 f2 f3 f4 f5 f6 f7
              clear HC1 HC2
              go_wp2_with fail
              go_roundw
              case rel => exact ⟨(j + 1) + 1, by go_num, HI1.out, HSC9.out, HB2.out⟩
              case measure => have h9 := HI1.out; simp [intOf]; omega

end Go.Proofs.YtncfejndmlcidaaGreat

namespace Go.Proofs.YtncfejndmlcidaaGreat
open Go.RowKit
set_option maxRecDepth 100000

def ahP (a b : Ac) : Bool := !(b.tx == a.tx && (b.kd == 5 || b.kd == 6 || a.kd == 1)) && !(a.kd == 5 && b.kd == 5 && decide (a.st ≤ b.st))
/-- what a kind asks besides -/
def kdD (H : List Ac) (a : Ac) : Bool := if a.kd = 2 then thD H a.tx a.fr a.nt a.it else if a.kd = 3 then scD H a else if a.kd = 5 then decide (1 ≤ a.st) else true
theorem fineD_of (H : List Ac) (a : Ac) : fineD H a = (decide (1 ≤ a.kd) && decide (a.kd ≤ 6) && decide (1 ≤ a.tx) && barB a && H.all (ahP a) && kdD H a) := by
  unfold fineD
  rw [fmB_bar]
  rfl
set_option maxHeartbeats 32000000 in
theorem fine_any (B : Nat) (v : Value) (Z : List (Ac × Value)) (w : World) (h : RdH B w v Z) (hB : B ≤ w.heap.size) (n : Nat) (hn : n < Z.length) :
    Calls Tryz.prog 25 #[v, .int .i64 (n : Nat)] w fun e w' => e = .returned (.bool (fineD ((Z.map (·.1)).take n) Z[n].1)) ∧ Below w.heap.size w w' := by
  obtain ⟨p, c, rfl, hpc, hp0, -⟩ := h.sl.f
  have hll : Z.length ≤ 1172812402961 := h.ll
  have HR : Hid (RdH B w (.slice p Z.length c) Z ∧ B ≤ w.heap.size ∧ n < Z.length) := ⟨h, hB, hn⟩
  have HT : Hid (∀ W : World, Below w.heap.size w W → ∀ (x : ByteArray) (fr nt : Int), Calls Tryz.prog 45 #[.slice p Z.length c, .int .i64 (n : Nat), .string x, .int .i64 fr, .int .i64 nt] W fun e w' => e = .returned (.bool (thD ((Z.map (·.1)).take n) Z[n].1.tx fr nt x)) ∧ w' = W) := fun W hb x fr nt => there_any B _ Z W (h.on (hb.mono hB)) n hn x fr nt
  have HSd : Hid (∀ W : World, Below w.heap.size w W → Calls Tryz.prog 46 #[.slice p Z.length c, .int .i64 (n : Nat)] W fun e w' => e = .returned (.bool (scD ((Z.map (·.1)).take n) Z[n].1)) ∧ Below W.heap.size W w') := fun W hb => scanned_any B _ Z W (h.on (hb.mono hB)) (Nat.le_trans hB hb.size) n hn
  obtain ⟨b, o, q, d, rfl, hb, e8, hd, k0, k1, k2, k3, k4, k5, k6, k7, k8, k9⟩ := h.at n hn
  rw [e8] at k8
  have HL : Hid (((Z.map (·.1)).take n).length = n) := by show _ = _; rw [List.length_take, List.length_map]; omega
  have HZ : Hid (∀ k, k < n → ∃ h : k < ((Z.map (·.1)).take n).length, ∃ h2 : k < Z.length, ((Z.map (·.1)).take n)[k] = Z[k].1) := fun k hk => by
    have h1 := HL.out
    exact ⟨by omega, by omega, by simp⟩
  rw [fineD_of]
  generalize (Z.map (·.1)).take n = H at *
  generalize Z[n].1 = a at *
  obtain ⟨R, hR⟩ : ∃ R, (decide (1 ≤ a.kd) && decide (a.kd ≤ 6) && decide (1 ≤ a.tx) && barB a && H.all (ahP a) && kdD H a) = R := ⟨_, rfl⟩
  rw [hR]
  have HRR : Hid ((decide (1 ≤ a.kd) && decide (a.kd ≤ 6) && decide (1 ≤ a.tx) && barB a && H.all (ahP a) && kdD H a) = R) := hR
  obtain ⟨w1, hw1⟩ : ∃ w1, w.alloc (.cells #[.int .i64 a.tx, .int .i64 a.kd, .string a.it, .int .i64 a.fr, .int .i64 a.nt, .string a.lo, .string a.hi, .bool a.op, .slice q a.sn.length d, .int .u64 (a.st : Nat)] 51) = w1 := ⟨_, rfl⟩
  have HB1 : Hid (Below w.heap.size w w1) := by rw [← hw1]; exact (Below.refl _ _).alloc (Nat.le_refl _) _
  have HK1 : Hid (Blk w1 w.heap.size #[.int .i64 a.tx, .int .i64 a.kd, .string a.it, .int .i64 a.fr, .int .i64 a.nt, .string a.lo, .string a.hi, .bool a.op, .slice q a.sn.length d, .int .u64 (a.st : Nat)] 51) := by rw [← hw1]; exact Blk.new w _ _
  obtain ⟨BR, hBR⟩ : ∃ R, barB a = R := ⟨_, rfl⟩
  have HBR : Hid (barB a = BR) := hBR
  have CB : Hid (∀ W : World, Calls Tryz.prog 44 #[aggA a (.slice q a.sn.length d)] W fun e w' => e = .returned (.bool BR) ∧ Below W.heap.size W w') := fun W => by rw [← hBR]; exact bare_any a q d W
  clear h hb e8 hp0 hR hBR
  go_enter Tryz.func25, Tryz.ntmps25
  go_upto_region 2 with fail
  clear k0 k1 k2 k3 k4 k5 k6 k7 k8 k9
  have c0 := HK1.out.cell (i := 0) rfl
  have c1 := HK1.out.cell (i := 1) rfl
  have c2 := HK1.out.cell (i := 2) rfl
  have c3 := HK1.out.cell (i := 3) rfl
  have c4 := HK1.out.cell (i := 4) rfl
  have c5 := HK1.out.cell (i := 5) rfl
  have c6 := HK1.out.cell (i := 6) rfl
  have c7 := HK1.out.cell (i := 7) rfl
  have c8 := HK1.out.cell (i := 8) rfl
  have c9 := HK1.out.cell (i := 9) rfl
  first | rw [hw1] | simp only [hw1] | skip
  clear hw1
  by_cases h1 : a.kd < 1
  · skip
    obtain rfl : false = R := by rw [← HRR.out, show decide (1 ≤ a.kd) = false from by simp; omega]; simp
    have CB1 := CB.out w1
    go_wp2_with (first | (go_at_call 44; refine CB1.mono ?_; rintro e w2 ⟨rfl, hb2⟩; have HB2 : Hid (Below w.heap.size w w2) := HB1.out.trans (hb2.mono HB1.out.size); clear hb2))
    go_ret
    exact ⟨rfl, by first | exact HB1.out | exact HB2.out⟩
  · by_cases h2 : a.kd > 6
    · skip
      obtain rfl : false = R := by rw [← HRR.out, show decide (a.kd ≤ 6) = false from by simp; omega]; simp
      have CB1 := CB.out w1
      go_wp2_with (first | (go_at_call 44; refine CB1.mono ?_; rintro e w2 ⟨rfl, hb2⟩; have HB2 : Hid (Below w.heap.size w w2) := HB1.out.trans (hb2.mono HB1.out.size); clear hb2))
      go_ret
      exact ⟨rfl, by first | exact HB2.out | exact HB1.out⟩
    · by_cases h3 : a.tx < 1
      · skip
        obtain rfl : false = R := by rw [← HRR.out, show decide (1 ≤ a.tx) = false from by simp; omega]; simp
        have CB1 := CB.out w1
        go_wp2_with (first | (go_at_call 44; refine CB1.mono ?_; rintro e w2 ⟨rfl, hb2⟩; have HB2 : Hid (Below w.heap.size w w2) := HB1.out.trans (hb2.mono HB1.out.size); clear hb2))
        go_ret
        exact ⟨rfl, by first | exact HB2.out | exact HB1.out⟩
      · cases BR
        · skip
          obtain rfl : false = R := by rw [← HRR.out, HBR.out]; simp
          have CB1 := CB.out w1
          go_wp2_with (first | (go_at_call 44; refine CB1.mono ?_; rintro e w2 ⟨rfl, hb2⟩; have HB2 : Hid (Below w.heap.size w w2) := HB1.out.trans (hb2.mono HB1.out.size); clear hb2))
          go_ret
          exact ⟨rfl, by first | exact HB2.out | exact HB1.out⟩
        · have hd1 : decide (1 ≤ a.kd) = true := by simp; omega
          have hd2 : decide (a.kd ≤ 6) = true := by simp; omega
          have hd3 : decide (1 ≤ a.tx) = true := by simp; omega
          have HRC : Hid ((H.all (ahP a) && kdD H a) = R) := by
            show _ = _
            rw [← HRR.out, hd1, hd2, hd3, HBR.out]
            simp
          clear hd1 hd2 hd3
          have CB1 := CB.out w1
          go_upto_region 4 with (first | (go_at_call 44; refine CB1.mono ?_; rintro e w2 ⟨rfl, hb2⟩; have HB2 : Hid (Below w.heap.size w w2 ∧ Below w1.heap.size w1 w2) := ⟨HB1.out.trans (hb2.mono HB1.out.size), hb2⟩; clear hb2))
          clear CB1 CB c0 c1 c2 c3 c4 c5 c6 c7 c8 c9 h1 h2 h3
          have HK2 : Hid (Blk w2 w.heap.size #[.int .i64 a.tx, .int .i64 a.kd, .string a.it, .int .i64 a.fr, .int .i64 a.nt, .string a.lo, .string a.hi, .bool a.op, .slice q a.sn.length d, .int .u64 (a.st : Nat)] 51) := HK1.out.on HB2.out.2
          clear HK1 HB1
          have HBw2 : Hid (Below w.heap.size w w2 ∧ w.heap.size < w2.heap.size) := ⟨HB2.out.1, HK2.out.lt⟩
          clear HB2
          go_wp2_with fail
          go_loopw [6] (fun ix wr => ∃ k : Nat, ix = .int .i64 (k : Int) ∧ k ≤ n ∧ Hid ((H.take k).all (ahP a) = true) ∧ Hid (Below w2.heap.size w2 wr)) (fun ix _ => n - (intOf ix).toNat)
          case atStart => exact ⟨0, by go_num, Nat.zero_le _, rfl, Below.refl _ _⟩
          case round =>
            obtain ⟨k, rfl, hk, HA, HBr⟩ := hrel
            rename World => w3
            have HB3 : Hid (Below w.heap.size w w3) := HBw2.out.1.trans (HBr.out.mono HBw2.out.1.size)
            by_cases hk0 : k = n
            · subst hk0
              have HRK : Hid (kdD H a = R) := by
                show _ = _
                have h1 := HA.out
                rw [List.take_of_length_le (by have := HL.out; omega)] at h1
                rw [← HRC.out, h1]
                rfl
              have HK4 : Hid (Blk w3 w.heap.size #[.int .i64 a.tx, .int .i64 a.kd, .string a.it, .int .i64 a.fr, .int .i64 a.nt, .string a.lo, .string a.hi, .bool a.op, .slice q a.sn.length d, .int .u64 (a.st : Nat)] 51) := HK2.out.on HBr.out
              have c0 := HK4.out.cell (i := 0) rfl
              have c1 := HK4.out.cell (i := 1) rfl
              have c2 := HK4.out.cell (i := 2) rfl
              have c3 := HK4.out.cell (i := 3) rfl
              have c4 := HK4.out.cell (i := 4) rfl
              have c5 := HK4.out.cell (i := 5) rfl
              have c6 := HK4.out.cell (i := 6) rfl
              have c7 := HK4.out.cell (i := 7) rfl
              have c8 := HK4.out.cell (i := 8) rfl
              have c9 := HK4.out.cell (i := 9) rfl
              have hrk := HRK.out
              unfold kdD at hrk
              by_cases h1 : a.kd = 2
              · rw [if_pos h1] at hrk
                have q1 : (a.kd == 2) = true := by simp [h1]
                have CT : Hid (Calls Tryz.prog 45 #[.slice (some ⟨b, o, none⟩) Z.length c, .int .i64 (k : Nat), .string a.it, .int .i64 a.fr, .int .i64 a.nt] w3 fun e w' => e = .returned (.bool R) ∧ w' = w3) := by
                  rw [← hrk]
                  exact HT.out w3 HB3.out a.it a.fr a.nt
                clear h1 hrk
                go_wp2_with (first | (go_at_call 45; refine CT.out.mono ?_; rintro e w5 ⟨rfl, hw5⟩; obtain rfl := hw5.symm))
                go_ret
                exact ⟨rfl, HB3.out⟩
              · rw [if_neg h1] at hrk
                have q1 : (a.kd == 2) = false := by simp [h1]
                by_cases h2 : a.kd = 3
                · rw [if_pos h2] at hrk
                  have q2 : (a.kd == 3) = true := by simp [h2]
                  have CT : Hid (Calls Tryz.prog 46 #[.slice (some ⟨b, o, none⟩) Z.length c, .int .i64 (k : Nat)] w3 fun e w' => e = .returned (.bool R) ∧ Below w3.heap.size w3 w') := by
                    rw [← hrk]
                    exact HSd.out w3 HB3.out
                  clear h1 h2 hrk
                  go_wp2_with (first | (go_at_call 46; refine CT.out.mono ?_; rintro e w5 ⟨rfl, hb5⟩; have HB5 : Hid (Below w.heap.size w w5) := HB3.out.trans (hb5.mono HB3.out.size); clear hb5))
                  go_ret
                  exact ⟨rfl, HB5.out⟩
                · rw [if_neg h2] at hrk
                  have q2 : (a.kd == 3) = false := by simp [h2]
                  by_cases h3 : a.kd = 5
                  · rw [if_pos h3] at hrk
                    have q3 : (a.kd == 5) = true := by simp [h3]
                    have q4 : decide (((a.st : Nat) : Int) ≥ 1) = R := by rw [← hrk, Bool.eq_iff_iff, decide_eq_true_eq, decide_eq_true_eq]; omega
                    clear h1 h2 h3 hrk
                    go_wp2_with fail
                    go_ret
                    exact ⟨by first | rfl | rw [q4] | (simp; exact q4), HB3.out⟩
                  · rw [if_neg h3] at hrk
                    have q3 : (a.kd == 5) = false := by simp [h3]
                    have HRT : Hid (true = R) := hrk
                    clear h1 h2 h3 hrk
                    go_wp2_with fail
                    go_ret
                    exact ⟨by rw [← HRT.out]; rfl, HB3.out⟩
            · have hk1 : k < n := by omega
              clear hk0
              have HK9 : Hid (k < n) := hk1
              obtain ⟨hkH, hkZ, hke⟩ := HZ.out k hk1
              have hZ := (HR.out.1.on (HB3.out.mono HR.out.2.1)).at k hkZ
              obtain ⟨b', o', q', d', e, _, eZ, _, g0, g1, g2, g3, g4, g5, g6, g7, g8, g9⟩ := hZ
              cases e
              rw [eZ] at g8
              have HPE : Hid ((ahP a (H[k]'hkH) = false → H.all (ahP a) = false) ∧ (ahP a (H[k]'hkH) = true → (H.take (k + 1)).all (ahP a) = true)) := ⟨fun hp => all_take_no (ahP a) H k hkH hp, fun hp => by rw [all_take _ _ _ hkH, HA.out, hp]; rfl⟩
              rw [hke] at HPE
              clear hke eZ
              generalize Z[k].1 = y at *
              obtain ⟨w5, hw5⟩ : ∃ w5, w3.alloc (.cells #[.int .i64 y.tx, .int .i64 y.kd, .string y.it, .int .i64 y.fr, .int .i64 y.nt, .string y.lo, .string y.hi, .bool y.op, .slice q' y.sn.length d', .int .u64 (y.st : Nat)] 51) = w5 := ⟨_, rfl⟩
              have HB5 : Hid (Below w3.heap.size w3 w5) := by rw [← hw5]; exact (Below.refl _ _).alloc (Nat.le_refl _) _
              have HK5 : Hid (Blk w5 w3.heap.size #[.int .i64 y.tx, .int .i64 y.kd, .string y.it, .int .i64 y.fr, .int .i64 y.nt, .string y.lo, .string y.hi, .bool y.op, .slice q' y.sn.length d', .int .u64 (y.st : Nat)] 51) := by rw [← hw5]; exact Blk.new w3 _ _
              have HBT : Hid (Below w2.heap.size w2 w5) := HBr.out.trans (HB5.out.mono HBr.out.size)
              have HK4 : Hid (Blk w5 w.heap.size #[.int .i64 a.tx, .int .i64 a.kd, .string a.it, .int .i64 a.fr, .int .i64 a.nt, .string a.lo, .string a.hi, .bool a.op, .slice q a.sn.length d, .int .u64 (a.st : Nat)] 51) := HK2.out.on HBT.out
              go_upto_region 8 with fail
              clear g0 g1 g2 g3 g4 g5 g6 g7 g8 g9
              first | rw [hw5] | simp only [hw5] | skip
              clear hw5
              have c1 := HK4.out.cell (i := 1) rfl
              have c0 := HK4.out.cell (i := 0) rfl
              have c9 := HK4.out.cell (i := 9) rfl
              have y0 := HK5.out.cell (i := 0) rfl
              have y1 := HK5.out.cell (i := 1) rfl
              have y9 := HK5.out.cell (i := 9) rfl
              by_cases m1 : y.tx = a.tx
              · skip
                have b1 : (y.tx == a.tx) = true := by simp [m1]
                clear m1
                by_cases m2 : y.kd = 5
                · skip
                  have b2 : (y.kd == 5) = true := by simp [m2]
                  clear m2
                  obtain rfl : false = R := by rw [← HRC.out, HPE.out.1 (by unfold ahP; simp [b1, b2])]; rfl
                  go_wp2_with fail
                  go_ret
                  exact ⟨rfl, HB3.out.trans (HB5.out.mono HB3.out.size)⟩
                · skip
                  have b2 : (y.kd == 5) = false := by simp [m2]
                  clear m2
                  by_cases m3 : y.kd = 6
                  · skip
                    have b3 : (y.kd == 6) = true := by simp [m3]
                    clear m3
                    obtain rfl : false = R := by rw [← HRC.out, HPE.out.1 (by unfold ahP; simp [b1, b2, b3])]; rfl
                    go_wp2_with fail
                    go_ret
                    exact ⟨rfl, HB3.out.trans (HB5.out.mono HB3.out.size)⟩
                  · skip
                    have b3 : (y.kd == 6) = false := by simp [m3]
                    clear m3
                    by_cases m4 : a.kd = 1
                    · skip
                      have b4 : (a.kd == 1) = true := by simp [m4]
                      clear m4
                      obtain rfl : false = R := by rw [← HRC.out, HPE.out.1 (by unfold ahP; simp [b1, b2, b3, b4])]; rfl
                      go_wp2_with fail
                      go_ret
                      exact ⟨rfl, HB3.out.trans (HB5.out.mono HB3.out.size)⟩
                    · skip
                      have b4 : (a.kd == 1) = false := by simp [m4]
                      clear m4
                      by_cases m5 : a.kd = 5
                      · skip
                        have b5 : (a.kd == 5) = true := by simp [m5]
                        clear m5
                        have HNX : Hid ((H.take (k + 1)).all (ahP a) = true) := HPE.out.2 (by unfold ahP; simp [b1, b2, b3, b4, b5])
                        go_wp2_with fail
                        go_roundw
                        case rel => exact ⟨k + 1, by go_num, HK9.out, HNX.out, HBT.out⟩
                        case measure => have h9 := HK9.out; simp [intOf]; omega
                      · skip
                        have b5 : (a.kd == 5) = false := by simp [m5]
                        clear m5
                        have HNX : Hid ((H.take (k + 1)).all (ahP a) = true) := HPE.out.2 (by unfold ahP; simp [b1, b2, b3, b4, b5])
                        go_wp2_with fail
                        go_roundw
                        case rel => exact ⟨k + 1, by go_num, HK9.out, HNX.out, HBT.out⟩
                        case measure => have h9 := HK9.out; simp [intOf]; omega
              · skip
                have b1 : (y.tx == a.tx) = false := by simp [m1]
                clear m1
                by_cases m5 : a.kd = 5
                · skip
                  have b5 : (a.kd == 5) = true := by simp [m5]
                  clear m5
                  by_cases m2 : y.kd = 5
                  · skip
                    have b2 : (y.kd == 5) = true := by simp [m2]
                    clear m2
                    by_cases m6 : y.st ≥ a.st
                    · skip
                      have q6 : decide ((y.st : Int) ≥ (a.st : Int)) = true := by simp; omega
                      have b6 : decide (a.st ≤ y.st) = true := by simp; omega
                      clear m6
                      obtain rfl : false = R := by rw [← HRC.out, HPE.out.1 (by unfold ahP; simp [b1, b5, b2, b6])]; rfl
                      go_wp2_with fail
                      go_ret
                      exact ⟨rfl, HB3.out.trans (HB5.out.mono HB3.out.size)⟩
                    · skip
                      have q6 : decide ((y.st : Int) ≥ (a.st : Int)) = false := by simp; omega
                      have b6 : decide (a.st ≤ y.st) = false := by simp; omega
                      clear m6
                      have HNX : Hid ((H.take (k + 1)).all (ahP a) = true) := HPE.out.2 (by unfold ahP; simp [b1, b5, b2, b6])
                      go_wp2_with fail
                      go_roundw
                      case rel => exact ⟨k + 1, by go_num, HK9.out, HNX.out, HBT.out⟩
                      case measure => have h9 := HK9.out; simp [intOf]; omega
                  · skip
                    have b2 : (y.kd == 5) = false := by simp [m2]
                    clear m2
                    have HNX : Hid ((H.take (k + 1)).all (ahP a) = true) := HPE.out.2 (by unfold ahP; simp [b1, b5, b2])
                    go_wp2_with fail
                    go_roundw
                    case rel => exact ⟨k + 1, by go_num, HK9.out, HNX.out, HBT.out⟩
                    case measure => have h9 := HK9.out; simp [intOf]; omega
                · skip
                  have b5 : (a.kd == 5) = false := by simp [m5]
                  clear m5
                  have HNX : Hid ((H.take (k + 1)).all (ahP a) = true) := HPE.out.2 (by unfold ahP; simp [b1, b5])
                  go_wp2_with fail
                  go_roundw
                  case rel => exact ⟨k + 1, by go_num, HK9.out, HNX.out, HBT.out⟩
                  case measure => have h9 := HK9.out; simp [intOf]; omega

end Go.Proofs.YtncfejndmlcidaaGreat
