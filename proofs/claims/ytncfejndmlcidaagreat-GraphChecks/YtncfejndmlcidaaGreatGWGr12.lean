/- Layer 19: read. Layer 19: Check. -/
import Derived.Test.YtncfejndmlcidaaGreatGWGr10
namespace Go.Proofs.YtncfejndmlcidaaGreat
open Go.RowKit
set_option maxRecDepth 100000

theorem MapG.new {K : Type} {kv : K → Value} (w : World) : MapG kv (w.alloc (.map #[] 0)) w.heap.size [] := ⟨#[], 0, heap_alloc_new w _, rfl, fun _ h => by simp at h, by simp⟩
/-- where a history lies that has just been made -/
def Hv.zero (N : Nat) : Hv := ⟨N + 3, N, N + 1, N + 2, [], [], [], nilS, fun _ => 0, fun _ => nilS, fun _ => nilS, fun _ => nilS, fun _ => []⟩
theorem St.zero (w w1 w2 w3 w4 : World) (B : Nat) (hB : B ≤ w.heap.size) (h1 : w1 = w.alloc (.map #[] 0)) (h2 : w2 = w1.alloc (.map #[] 0)) (h3 : w3 = w2.alloc (.map #[] 0))
    (h4 : w4 = w3.alloc (.cells #[.map (some w.heap.size), .map (some (w.heap.size + 1)), nilS, .map (some (w.heap.size + 1 + 1)), nilS, nilS] 78)) : St w4 B [] (Hv.zero w.heap.size) ∧ Below w.heap.size w w4 := by
  have s1 : w1.heap.size = w.heap.size + 1 := by rw [h1]; simp
  have s2 : w2.heap.size = w.heap.size + 2 := by rw [h2]; simp; omega
  have s3 : w3.heap.size = w.heap.size + 3 := by rw [h3]; simp; omega
  have b1 : Below w.heap.size w w1 := by rw [h1]; exact (Below.refl _ _).alloc (Nat.le_refl _) _
  have b2 : Below w1.heap.size w1 w2 := by rw [h2]; exact (Below.refl _ _).alloc (Nat.le_refl _) _
  have b3 : Below w2.heap.size w2 w3 := by rw [h3]; exact (Below.refl _ _).alloc (Nat.le_refl _) _
  have b4 : Below w3.heap.size w3 w4 := by rw [h4]; exact (Below.refl _ _).alloc (Nat.le_refl _) _
  have m1 : MapG kvI w4 w.heap.size ([] : List (Int × Value)) := (((show MapG kvI w1 w.heap.size [] by rw [h1]; exact MapG.new w).on b2).on b3).on b4
  have m2 : MapG kvW w4 w1.heap.size ([] : List ((Int × ByteArray) × Value)) := ((show MapG kvW w2 w1.heap.size [] by rw [h2]; exact MapG.new w1).on b3).on b4
  have m3 : MapG kvS w4 w2.heap.size ([] : List (ByteArray × Value)) := (show MapG kvS w3 w2.heap.size [] by rw [h3]; exact MapG.new w2).on b4
  have hb : Blk w4 w3.heap.size #[.map (some w.heap.size), .map (some (w.heap.size + 1)), nilS, .map (some (w.heap.size + 1 + 1)), nilS, nilS] 78 := by rw [h4]; exact Blk.new w3 _ _
  rw [s3] at hb
  rw [s1] at m2
  rw [s2] at m3
  refine ⟨{ blk := hb, hbB := by simp only [Hv.zero]; omega, mTB := hB, mWB := by simp only [Hv.zero]; omega, mVB := by simp only [Hv.zero]; omega, mTW := by simp only [Hv.zero]; omega, mTV := by simp only [Hv.zero]; omega, mWV := by simp only [Hv.zero]; omega, mt := m1, mtv := fun t => rfl, mw := m2, mwv := fun k => rfl, mv := m3, mvk := fun x => by simp [Hv.zero, vrs, cms], mvn := by simp [Hv.zero], fv := ⟨fun k => ?_, fun k k' _ g hg => ?_⟩, tn := fun t h => by simp [kn] at h, inj := fun t t' h => by simp [kn] at h, fi := Fam.nil _ _, fr := Fam.nil _ _, fs := Fam.nil _ _, sc := fun t => rfl, sn := fun t z hz => by simp [Hv.zero] at hz }, ?_⟩
  · cases k <;> exact OwnG.nil _ _ _ _ _
  · cases k <;> cases hg
  · have e1 : w.heap.size ≤ w1.heap.size := by omega
    have e2 : w.heap.size ≤ w2.heap.size := by omega
    have e3 : w.heap.size ≤ w3.heap.size := by omega
    exact b1.trans ((b2.mono e1).trans ((b3.mono e2).trans (b4.mono e3)))
theorem okH_next {L : List Ac} {k : Nat} (h : okH L k) (hk : k < L.length) (ha : okA (L.take k) L[k] = true) : okH L (k + 1) := fun i hi hl => by
  by_cases e : i = k
  · subst e; exact ha
  · exact h i (by omega) hl
theorem okA_fm {H : List Ac} {a : Ac} (h : fmB a = false) : okA H a = false := by
  rw [okA_eq, h]
  rfl
/-- how reading a history ends -/
def RdE (w w' : World) (L : List Ac) (e : Ending) : Prop :=
  (tlB L = true ∧ e = .returned (.tuple #[nilP, .int .i64 0, .int .i64 2])) ∨
  (tlB L = false ∧ ∃ (k : Nat) (hk : k < L.length), okH L k ∧ okA (L.take k) L[k] = false ∧ e = .returned (.tuple #[nilP, .int .i64 (k : Nat), .int .i64 190])) ∨
  (tlB L = false ∧ okH L L.length ∧ ∃ (d : Dv) (s : Hv), e = .returned (.tuple #[ptr1 s.hb, .int .i64 0, .int .i64 0]) ∧ Dn w' w.heap.size L d ∧ Fin L s d)
set_option maxHeartbeats 8000000 in
theorem read_any (v : Value) (Z : List (Ac × Value)) (w : World) (h : RdH w.heap.size w v Z) (hsz : ∀ z ∈ Z, z.1.it.size ≤ maxLen) :
    Calls Tryz.prog 24 #[v] w fun e w' => Below w.heap.size w w' ∧ RdE w w' (Z.map (·.1)) e := by
  obtain ⟨p, c, rfl, hpc, hp0, _⟩ := h.sl.f
  have HR : Hid (RdH w.heap.size w (.slice p Z.length c) Z ∧ (∀ z ∈ Z, z.1.it.size ≤ maxLen)) := ⟨h, hsz⟩
  have hll : Z.length ≤ 1172812402961 := h.ll
  obtain ⟨L, hL⟩ : ∃ L, Z.map (·.1) = L := ⟨_, rfl⟩
  have HL : Hid (Z.map (·.1) = L ∧ Z.length = L.length) := ⟨hL, by rw [← hL]; simp⟩
  rw [hL]
  have CT : Hid (Calls Tryz.prog 40 #[.slice p Z.length c] w fun e w' => e = .returned (.bool (tlB L)) ∧ Below w.heap.size w w') := by rw [← hL]; exact tooLong_any w.heap.size _ Z w (Nat.le_refl _) h
  clear h hsz hL
  obtain ⟨T, hT⟩ : ∃ T, tlB L = T := ⟨_, rfl⟩
  have HT : Hid (tlB L = T) := hT
  rw [hT] at CT
  clear hT
  go_enter Tryz.func24, Tryz.ntmps24
  cases T
  · have HT1 : Hid (L.length ≤ 4096) := by
      have h1 := HT.out
      unfold tlB at h1
      simp only [Bool.or_eq_false_iff, decide_eq_false_iff_not] at h1
      show _ ≤ _
      omega
    go_upto_region 3 with (first | (go_at_call 40; refine CT.out.mono ?_; rintro e w1 ⟨rfl, hb1⟩; have HB1 : Hid (Below w.heap.size w w1) := hb1; clear hb1))
    have mk1 := fun w : World => run_makeMap 73 w
    have mk2 := fun w : World => run_makeMap 74 w
    have mk3 := fun w : World => run_makeMap 75 w
    go_upto_region 4 with fail
    obtain ⟨W, hW⟩ : ∃ W, ((((w1.alloc (.map #[] 0)).alloc (.map #[] 0)).alloc (.map #[] 0)).alloc (.cells #[.map (some w1.heap.size), .map (some (w1.heap.size + 1)), .slice none 0 0, .map (some (w1.heap.size + 1 + 1)), .slice none 0 0, .slice none 0 0] 78)) = W := ⟨_, rfl⟩
    have HZ : Hid (St W w.heap.size [] (Hv.zero w1.heap.size) ∧ Below w1.heap.size w1 W) := by rw [← hW]; exact St.zero w1 _ _ _ _ w.heap.size HB1.out.size rfl rfl rfl rfl
    have HHB : Hid ((Hv.zero w1.heap.size).hb = w1.heap.size + 1 + 1 + 1) := rfl
    rw [hW]
    clear hW mk1 mk2 mk3
    generalize w1.heap.size + 1 + 1 + 1 = hb at *
    go_wp2_with fail
    go_loopw [17] (fun ix wr => ∃ k : Nat, ix = .int .i64 (k : Int) ∧ k ≤ Z.length ∧ Hid (∃ s : Hv, St wr w.heap.size (L.take k) s ∧ s.hb = hb ∧ okH L k ∧ Below w.heap.size w wr)) (fun ix _ => Z.length - (intOf ix).toNat)
    case atStart => exact ⟨0, by go_num, Nat.zero_le _, ⟨_, HZ.out.1, HHB.out, fun i hi => absurd hi (by omega), HB1.out.trans (HZ.out.2.mono HB1.out.size)⟩⟩
    case round =>
      obtain ⟨k, rfl, hk, HI⟩ := hrel
      clear HZ HHB
      by_cases hk0 : k = Z.length
      · subst hk0
        obtain ⟨s, hS, rfl, hok, hbl⟩ := HI.out
        rw [HL.out.2, List.take_length] at hS
        rw [HL.out.2] at hok
        have HSL : Hid (okH L L.length ∧ Below w.heap.size w wr) := ⟨hok, hbl⟩
        have CF : Hid (Calls Tryz.prog 43 #[.pointer (some ⟨s.hb, 0, none⟩)] wr fun e w' => e = .returned (.tuple #[]) ∧ Below w.heap.size wr w' ∧ ∃ d : Dv, Dn w' w.heap.size L d ∧ Fin L s d) :=
          finish_any w.heap.size L s wr hS hbl.size (by have h1 := cms_nodup L L.length (Nat.le_refl _) hok; rwa [List.take_length] at h1) HT1.out (fun a ha => by
            rw [← HL.out.1] at ha
            obtain ⟨z, hz, rfl⟩ := List.mem_map.1 ha
            exact HR.out.2 z hz)
        clear hS hok hbl HI
        go_wp2_with (first | (go_at_call 43; refine CF.out.mono ?_; rintro e w3 ⟨rfl, hfin⟩; have HFN : Hid (Below w.heap.size wr w3 ∧ ∃ d : Dv, Dn w3 w.heap.size L d ∧ Fin L s d) := hfin; clear hfin))
        go_ret3
        obtain ⟨h1, d, h2, h3⟩ := HFN.out
        exact ⟨HSL.out.2.trans h1, .inr (.inr ⟨HT.out, HSL.out.1, d, s, rfl, h2, h3⟩)⟩
      · have hk1 : k < Z.length := by omega
        clear hk0
        obtain ⟨s, hS, rfl, hok, hbl⟩ := HI.out
        obtain ⟨b, o, q, d, rfl, hb, e8, hd, k0, k1, k2, k3, k4, k5, k6, k7, k8, k9⟩ := (HR.out.1.on hbl).at k hk1
        have hkl : k < L.length := by rw [← HL.out.2]; exact hk1
        have HA0 : Hid (∃ h : k < L.length, L[k] = Z[k].1) := ⟨hkl, by simp only [← HL.out.1, List.getElem_map]⟩
        have hsn := HR.out.1.sn _ (List.getElem_mem hk1)
        have hlsn := HR.out.1.lsn _ (List.getElem_mem hk1)
        rw [e8] at hsn k8
        generalize Z[k].1 = a at *
        generalize Z[k].2 = va at *
        have HG0 : Hid (St wr w.heap.size (L.take k) s ∧ okH L k ∧ Below w.heap.size w wr ∧ SlG encS 3 w.heap.size w (.slice q a.sn.length d) a.sn ∧ a.sn.length ≤ 4398046511104 ∧ k < Z.length) := ⟨hS, hok, hbl, hsn, hlsn, hk1⟩
        clear hS hok hbl hsn hlsn HI e8 hb hd
        go_upto_region 7 with fail
        clear k0 k1 k2 k3 k4 k5 k6 k7 k8 k9
        have HG : Hid (St (wr.alloc (.cells #[.int .i64 a.tx, .int .i64 a.kd, .string a.it, .int .i64 a.fr, .int .i64 a.nt, .string a.lo, .string a.hi, .bool a.op, .slice q a.sn.length d, .int .u64 (a.st : Nat)] 51)) w.heap.size (L.take k) s ∧ Below w.heap.size w (wr.alloc (.cells #[.int .i64 a.tx, .int .i64 a.kd, .string a.it, .int .i64 a.fr, .int .i64 a.nt, .string a.lo, .string a.hi, .bool a.op, .slice q a.sn.length d, .int .u64 (a.st : Nat)] 51)) ∧ Blk (wr.alloc (.cells #[.int .i64 a.tx, .int .i64 a.kd, .string a.it, .int .i64 a.fr, .int .i64 a.nt, .string a.lo, .string a.hi, .bool a.op, .slice q a.sn.length d, .int .u64 (a.st : Nat)] 51)) wr.heap.size #[.int .i64 a.tx, .int .i64 a.kd, .string a.it, .int .i64 a.fr, .int .i64 a.nt, .string a.lo, .string a.hi, .bool a.op, .slice q a.sn.length d, .int .u64 (a.st : Nat)] 51) :=
          ⟨HG0.out.1.on HG0.out.2.2.1.size ((Below.refl _ _).alloc (Nat.le_refl _) _), HG0.out.2.2.1.alloc HG0.out.2.2.1.size _, Blk.new wr _ _⟩
        have HG1 : Hid (okH L k ∧ SlG encS 3 w.heap.size w (.slice q a.sn.length d) a.sn ∧ a.sn.length ≤ 4398046511104 ∧ k < Z.length) := ⟨HG0.out.2.1, HG0.out.2.2.2.1, HG0.out.2.2.2.2.1, HG0.out.2.2.2.2.2⟩
        clear HG0
        generalize hgz : wr.heap.size = gz at *
        generalize wr.alloc (.cells #[.int .i64 a.tx, .int .i64 a.kd, .string a.it, .int .i64 a.fr, .int .i64 a.nt, .string a.lo, .string a.hi, .bool a.op, .slice q a.sn.length d, .int .u64 (a.st : Nat)] 51) = w2 at *
        clear hgz
        have y0 := HG.out.2.2.cell (i := 0) rfl
        have y1 := HG.out.2.2.cell (i := 1) rfl
        have y2 := HG.out.2.2.cell (i := 2) rfl
        have y3 := HG.out.2.2.cell (i := 3) rfl
        have y4 := HG.out.2.2.cell (i := 4) rfl
        have y5 := HG.out.2.2.cell (i := 5) rfl
        have y6 := HG.out.2.2.cell (i := 6) rfl
        have y7 := HG.out.2.2.cell (i := 7) rfl
        have y8 := HG.out.2.2.cell (i := 8) rfl
        have y9 := HG.out.2.2.cell (i := 9) rfl
        obtain ⟨R, hR⟩ : ∃ R, fmB a = R := ⟨_, rfl⟩
        have CM : Hid (Calls Tryz.prog 41 #[aggA a (.slice q a.sn.length d)] w2 fun e w' => e = .returned (.bool R) ∧ Below w2.heap.size w2 w') := by rw [← hR]; exact formed_any a q d w2
        have HRR : Hid (fmB a = R) := hR
        clear hR
        dsimp only [aggA] at CM
        cases R
        · go_wp2_with (first | (go_at_call 41; refine CM.out.mono ?_; rintro e w3 ⟨rfl, hb3⟩; have HB3 : Hid (Below w2.heap.size w2 w3) := hb3; clear hb3))
          go_ret3
          obtain ⟨hkl, ea⟩ := HA0.out
          refine ⟨HG.out.2.1.trans (HB3.out.mono HG.out.2.1.size), .inr (.inl ⟨HT.out, k, hkl, HG1.out.1, ?_, rfl⟩)⟩
          rw [ea]
          exact okA_fm HRR.out
        · obtain ⟨A, hA⟩ : ∃ A, okA (L.take k) a = A := ⟨_, rfl⟩
          have CA : Hid (∀ w3 : World, Below w2.heap.size w2 w3 → Calls Tryz.prog 42 #[.pointer (some ⟨s.hb, 0, none⟩), .agg #[.int .i64 a.tx, .int .i64 a.kd, .string a.it, .int .i64 a.fr, .int .i64 a.nt, .string a.lo, .string a.hi, .bool a.op, .slice q a.sn.length d, .int .u64 (a.st : Nat)]] w3 fun e w' => e = .returned (.bool A) ∧ Below w.heap.size w3 w' ∧ (A = true → ∃ s' : Hv, St w' w.heap.size (L.take k ++ [a]) s' ∧ s'.hb = s.hb)) := fun w3 hb3 => by
            rw [← hA]
            refine add_any w.heap.size (L.take k) s a (.slice q a.sn.length d) w3 (HG.out.1.on HG.out.2.1.size hb3) (Nat.le_trans HG.out.2.1.size hb3.size) HRR.out ?_ (HG1.out.2.1.on (HG.out.2.1.trans (hb3.mono HG.out.2.1.size))) HG1.out.2.2.1
            have h1 := HT1.out
            have h2 := HG1.out.2.2.2
            have h3 := HL.out.2
            rw [List.length_take]
            omega
          have HAA : Hid (okA (L.take k) a = A) := hA
          clear hA
          cases A
          · go_wp2_with (first | (go_at_call 41; refine CM.out.mono ?_; rintro e w3 ⟨rfl, hb3⟩; have HB3 : Hid (Below w2.heap.size w2 w3) := hb3; have z0 : w3.cell? ⟨gz, 0, none⟩ = some (.int .i64 a.tx) := (HG.out.2.2.on hb3).cell (i := 0) rfl; have z1 : w3.cell? ⟨gz, 1, none⟩ = some (.int .i64 a.kd) := (HG.out.2.2.on hb3).cell (i := 1) rfl; have z2 : w3.cell? ⟨gz, 2, none⟩ = some (.string a.it) := (HG.out.2.2.on hb3).cell (i := 2) rfl; have z3 : w3.cell? ⟨gz, 3, none⟩ = some (.int .i64 a.fr) := (HG.out.2.2.on hb3).cell (i := 3) rfl; have z4 : w3.cell? ⟨gz, 4, none⟩ = some (.int .i64 a.nt) := (HG.out.2.2.on hb3).cell (i := 4) rfl; have z5 : w3.cell? ⟨gz, 5, none⟩ = some (.string a.lo) := (HG.out.2.2.on hb3).cell (i := 5) rfl; have z6 : w3.cell? ⟨gz, 6, none⟩ = some (.string a.hi) := (HG.out.2.2.on hb3).cell (i := 6) rfl; have z7 : w3.cell? ⟨gz, 7, none⟩ = some (.bool a.op) := (HG.out.2.2.on hb3).cell (i := 7) rfl; have z8 : w3.cell? ⟨gz, 8, none⟩ = some (.slice q a.sn.length d) := (HG.out.2.2.on hb3).cell (i := 8) rfl; have z9 : w3.cell? ⟨gz, 9, none⟩ = some (.int .u64 (a.st : Nat)) := (HG.out.2.2.on hb3).cell (i := 9) rfl; clear hb3 y0 y1 y2 y3 y4 y5 y6 y7 y8 y9) | (go_at_call 42; refine (CA.out _ HB3.out).mono ?_; rintro e w4 ⟨rfl, hb4, -⟩; have HB4 : Hid (Below w.heap.size w3 w4) := hb4; clear hb4))
            go_ret3
            obtain ⟨hkl, ea⟩ := HA0.out
            refine ⟨(HG.out.2.1.trans (HB3.out.mono HG.out.2.1.size)).trans HB4.out, .inr (.inl ⟨HT.out, k, hkl, HG1.out.1, ?_, rfl⟩)⟩
            rw [ea]
            exact HAA.out
          · have hll2 : Z.length ≤ 4096 := by have h1 := HT1.out; have h3 := HL.out.2; omega
            go_wp2_with (first | (go_at_call 41; refine CM.out.mono ?_; rintro e w3 ⟨rfl, hb3⟩; have HB3 : Hid (Below w2.heap.size w2 w3) := hb3; have z0 : w3.cell? ⟨gz, 0, none⟩ = some (.int .i64 a.tx) := (HG.out.2.2.on hb3).cell (i := 0) rfl; have z1 : w3.cell? ⟨gz, 1, none⟩ = some (.int .i64 a.kd) := (HG.out.2.2.on hb3).cell (i := 1) rfl; have z2 : w3.cell? ⟨gz, 2, none⟩ = some (.string a.it) := (HG.out.2.2.on hb3).cell (i := 2) rfl; have z3 : w3.cell? ⟨gz, 3, none⟩ = some (.int .i64 a.fr) := (HG.out.2.2.on hb3).cell (i := 3) rfl; have z4 : w3.cell? ⟨gz, 4, none⟩ = some (.int .i64 a.nt) := (HG.out.2.2.on hb3).cell (i := 4) rfl; have z5 : w3.cell? ⟨gz, 5, none⟩ = some (.string a.lo) := (HG.out.2.2.on hb3).cell (i := 5) rfl; have z6 : w3.cell? ⟨gz, 6, none⟩ = some (.string a.hi) := (HG.out.2.2.on hb3).cell (i := 6) rfl; have z7 : w3.cell? ⟨gz, 7, none⟩ = some (.bool a.op) := (HG.out.2.2.on hb3).cell (i := 7) rfl; have z8 : w3.cell? ⟨gz, 8, none⟩ = some (.slice q a.sn.length d) := (HG.out.2.2.on hb3).cell (i := 8) rfl; have z9 : w3.cell? ⟨gz, 9, none⟩ = some (.int .u64 (a.st : Nat)) := (HG.out.2.2.on hb3).cell (i := 9) rfl; clear hb3 y0 y1 y2 y3 y4 y5 y6 y7 y8 y9) | (go_at_call 42; refine (CA.out _ HB3.out).mono ?_; rintro e w4 ⟨rfl, hb4, hs4⟩; have HB4 : Hid (Below w.heap.size w3 w4 ∧ ∃ s' : Hv, St w4 w.heap.size (L.take k ++ [a]) s' ∧ s'.hb = s.hb) := ⟨hb4, hs4 (by trivial)⟩; clear hb4 hs4))
            go_roundw
            case rel =>
              obtain ⟨hkl, ea⟩ := HA0.out
              obtain ⟨h1, s', h2, h3⟩ := HB4.out
              refine ⟨k + 1, by go_num, HG1.out.2.2.2, ⟨s', ?_, h3, okH_next HG1.out.1 hkl (by rw [ea]; exact HAA.out), (HG.out.2.1.trans (HB3.out.mono HG.out.2.1.size)).trans h1⟩⟩
              rw [List.take_succ_eq_append_getElem hkl, ea]
              exact h2
            case measure => have h9 := HG1.out.2.2.2; simp [intOf]; omega
  · go_wp2_with (first | (go_at_call 40; refine CT.out.mono ?_; rintro e w1 ⟨rfl, hb1⟩; have HB1 : Hid (Below w.heap.size w w1) := hb1; clear hb1))
    go_ret3
    exact ⟨HB1.out, .inl ⟨HT.out, rfl⟩⟩

end Go.Proofs.YtncfejndmlcidaaGreat

namespace Go.Proofs.YtncfejndmlcidaaGreat
open Go.RowKit
set_option maxRecDepth 100000

/-- what Check tells -/
def ChkE (L : List Ac) (e : Ending) : Prop :=
  (tlB L = true ∧ e = .returned (.tuple #[.int .i64 0, .int .i64 2])) ∨
  (tlB L = false ∧ ∃ (k : Nat) (hk : k < L.length), okH L k ∧ okA (L.take k) L[k] = false ∧ e = .returned (.tuple #[.int .i64 (k : Nat), .int .i64 190])) ∨
  (tlB L = false ∧ okH L L.length ∧ e = .returned (.tuple #[.int .i64 0, .int .i64 0]))
set_option maxHeartbeats 2000000 in
theorem check_any (v : Value) (Z : List (Ac × Value)) (w : World) (h : RdH w.heap.size w v Z) (hsz : ∀ z ∈ Z, z.1.it.size ≤ maxLen) :
    Calls Tryz.prog 9 #[v] w fun e w' => Below w.heap.size w w' ∧ ChkE (Z.map (·.1)) e := by
  have CR : Hid (Calls Tryz.prog 24 #[v] w fun e w' => ∃ (x y z : Value), e = .returned (.tuple #[x, y, z]) ∧ Below w.heap.size w w' ∧ ChkE (Z.map (·.1)) (.returned (.tuple #[y, z]))) := by
    refine (read_any v Z w h hsz).mono ?_
    rintro e w' ⟨hb, h1 | h1 | h1⟩
    · obtain ⟨h1, rfl⟩ := h1
      exact ⟨_, _, _, rfl, hb, .inl ⟨h1, rfl⟩⟩
    · obtain ⟨h1, k, hk, h2, h3, rfl⟩ := h1
      exact ⟨_, _, _, rfl, hb, .inr (.inl ⟨h1, k, hk, h2, h3, rfl⟩)⟩
    · obtain ⟨h1, h2, d, s, rfl, _⟩ := h1
      exact ⟨_, _, _, rfl, hb, .inr (.inr ⟨h1, h2, rfl⟩)⟩
  clear h hsz
  go_enter Tryz.func9, Tryz.ntmps9
  go_wp2_with (first | (go_at_call 24; refine CR.out.mono ?_; rintro e w1 ⟨x, y, z, rfl, hr⟩; have HRR : Hid (Below w.heap.size w w1 ∧ ChkE (Z.map (·.1)) (.returned (.tuple #[y, z]))) := hr; clear hr))
  go_ret2
  exact HRR.out

end Go.Proofs.YtncfejndmlcidaaGreat
