/- What Schedule's fates say of one another. The law of ValidSerial. -/
import Derived.Test.YtcknhjabdjbjiaaGreatGF18c
import Derived.Test.YtcknhjabdjbjiaaGreatGLVsc
namespace Go.Proofs.YtcknhjabdjbjiaaGreat
set_option maxRecDepth 100000

/-- what is kept of the attempts that committed (the latest first) -/
theorem RunR.kept {l0 : Nat} : ∀ {A : List At} {F : List Fa} {la : Nat} {L : List Cm}, RunR l0 A F la L → ∀ k (hk : k < A.length) (hk' : k < F.length), F[k].er = 0 → ∃ c ∈ L, c.s = F[k].st ∧ ∀ y, y ∈ c.W ↔ y ∈ A[k].a.W
  | [], [], _, _, _, k, hk, _, _ => absurd hk (by simp)
  | x :: A, f :: F, la, L, ⟨l1, L1, h1, h2⟩, k, hk, hk', he => by
    obtain ⟨er, h3, h4⟩ := h2
    have hsub : ∀ c ∈ L1, c ∈ L := by
      rcases h4 with ⟨_, _, _, _, e⟩ | ⟨_, _, _, _, _, e⟩ | ⟨_, _, _, _, _, c, e, _⟩
      · rw [e]; exact fun c hc => hc
      · rw [e]; exact fun c hc => hc
      · rw [e]; exact fun c hc => List.mem_append_left _ hc
    cases k with
    | zero =>
      have he0 : f.er = 0 := he
      rcases h4 with ⟨a1, a2, _⟩ | ⟨a1, a2, a3, _⟩ | ⟨a1, a2, a3, a4, a5, c, a6, a7, a8, a9⟩
      · exact absurd (a2.symm.trans he0) a1
      · rw [a3] at he0; cases he0
      · refine ⟨c, by rw [a6]; simp, by rw [a7]; exact a4.symm, a8⟩
    | succ k =>
      obtain ⟨c, hc, h5, h6⟩ := RunR.kept h1 k (by simpa using hk) (by simpa using hk') he
      exact ⟨c, hsub c hc, h5, h6⟩
theorem RunR.below {l0 : Nat} : ∀ {A : List At} {F : List Fa} {la : Nat} {L : List Cm}, RunR l0 A F la L → ∀ k (hk : k < F.length), F[k].st ≤ la
  | [], [], _, _, _, k, hk => absurd hk (by simp)
  | x :: A, f :: F, la, L, ⟨l1, L1, h1, h2⟩, k, hk => by
    obtain ⟨er, h3, h4⟩ := h2
    have hl : l1 ≤ la ∧ f.st ≤ la := by
      rcases h4 with ⟨_, _, e0, e, _⟩ | ⟨_, _, _, e0, e, _⟩ | ⟨_, _, _, e0, e, _⟩ <;> omega
    cases k with
    | zero => exact hl.2
    | succ k =>
      have h5 := RunR.below h1 k (by simpa using hk)
      exact Nat.le_trans h5 hl.1
/-- of two that committed (the latest first) -/
theorem RunR.two {l0 : Nat} : ∀ {A : List At} {F : List Fa} {la : Nat} {L : List Cm}, RunR l0 A F la L → ∀ i k (_ : i < k) (hi : i < A.length) (hi' : i < F.length) (hk : k < A.length) (hk' : k < F.length), F[i].er = 0 → F[k].er = 0 → A[i].fr < F[k].st →
    F[k].st < F[i].st ∧ (A[i].lv = 3 → ∀ y ∈ A[k].a.W, ¬ A[i].a.rds y) ∧ (2 ≤ A[i].lv → ∀ y ∈ A[k].a.W, ¬ A[i].a.wrs y)
  | [], [], _, _, _, i, k, _, hi, _, _, _, _, _, _ => absurd hi (by simp)
  | x :: A, f :: F, la, L, ⟨l1, L1, h1, h2⟩, i, k, hik, hi, hi', hk, hk', e1, e2, hf => by
    cases i with
    | succ i =>
      cases k with
      | zero => omega
      | succ k => exact RunR.two h1 i k (by omega) (by simpa using hi) (by simpa using hi') (by simpa using hk) (by simpa using hk') e1 e2 hf
    | zero =>
      cases k with
      | zero => omega
      | succ k =>
        obtain ⟨er, h3, h4⟩ := h2
        have he0 : f.er = 0 := e1
        rcases h4 with ⟨a1, a2, _⟩ | ⟨a1, a2, a3, _⟩ | ⟨a1, a2, a3, a4, a5, c, a6, a7, a8, a9⟩
        · exact absurd (a2.symm.trans he0) a1
        · rw [a3] at he0; cases he0
        · subst a1
          obtain ⟨_, _, hlv, hw, hr⟩ := h3.zero
          obtain ⟨d, hd, hds, hdw⟩ := RunR.kept h1 k (by simpa using hk) (by simpa using hk') e2
          have hb := RunR.below h1 k (by simpa using hk')
          have hf' : x.fr < d.s := by rw [hds]; exact hf
          refine ⟨?_, fun h y hy => ?_, fun h y hy => ?_⟩
          · have e9 : (f :: F)[0].st = l1 + 1 := a4
            rw [e9]
            exact Nat.lt_succ_of_le hb
          · exact hr h d hd hf' y ((hdw y).2 hy)
          · have h' : (2 : Int) ≤ x.lv := h
            exact hw (by omega) d hd hf' y ((hdw y).2 hy)
theorem RunR.pair {l0 : Nat} {A : List At} {F : List Fa} {la : Nat} {L : List Cm} (h : RunR l0 A.reverse F.reverse la L) (hl : F.length = A.length) (i k : Nat) (hki : k < i) (hi : i < A.length) (hi' : i < F.length) (hk : k < A.length) (hk' : k < F.length) (e1 : F[i].er = 0) (e2 : F[k].er = 0) (hf : A[i].fr < F[k].st) :
    F[k].st < F[i].st ∧ (A[i].lv = 3 → ∀ y ∈ A[k].a.W, ¬ A[i].a.rds y) ∧ (2 ≤ A[i].lv → ∀ y ∈ A[k].a.W, ¬ A[i].a.wrs y) := by
  have hA : ∀ j (hj : j < A.length), A.reverse[A.length - 1 - j]'(by simp; omega) = A[j] := fun j hj => by
    rw [List.getElem_reverse]
    congr 1
    omega
  have hF : ∀ j (hj : j < F.length), F.reverse[A.length - 1 - j]'(by simp; omega) = F[j] := fun j hj => by
    rw [List.getElem_reverse]
    congr 1
    omega
  have := RunR.two h (A.length - 1 - i) (A.length - 1 - k) (by omega) (by simp; omega) (by simp; omega) (by simp; omega) (by simp; omega) (by rw [hF i hi']; exact e1) (by rw [hF k hk']; exact e2) (by rw [hA i hi, hF k hk']; exact hf)
  rw [hA i hi, hA k hk, hF i hi', hF k hk'] at this
  exact this

end Go.Proofs.YtcknhjabdjbjiaaGreat

namespace Go.Proofs.YtcknhjabdjbjiaaGreat
open Go.RowKit
set_option maxRecDepth 100000

theorem below_same {w w1 w2 : World} {B : Nat} (h : Below B w w1) (h1 : w2.os = w1.os) (h2 : w2.tape = w1.tape) (h3 : w2.output = w1.output) (h4 : w2.heap = w1.heap) : Below B w w2 := ⟨h1.trans h.os, h2.trans h.tape, h3.trans h.output, by rw [h4]; exact h.size, by rw [h4]; exact h.block⟩
theorem wp_region_LB {P : Program} {ops : Array Oper} {Q : Exit → Act → World → Prop} (S : World → Prop) (m : Nat) {id : Nat} {a : Act} {w : World} (hm : P.follows .mixedOrders = true) (hS : S w.drew) (h : ∀ wd, S wd → wpL P ops (NoPanic Q) S m ops.size (Array.replicate ops.size false) a wd) : (Code.region id ops true).wp P Q a w := wp_region_L S m hm (h _ hS)
set_option maxHeartbeats 8000000 in
theorem lawVSerial (l0 : Nat) (v : Value) (A : List At) (w : World) (hA : RdAt w v A) (hl : l0 < 18446744073709551616) :
    Calls Tryz.prog 7 #[.int .u64 (l0 : Nat), v] w fun e w' => e = .returned (.bool true) ∧ Below w.heap.size w w' := by
  by_cases h0 : 4611686018427387904 < l0
  · skip
    have C1 : Hid (Calls _ _ _ _ _) := schedule_big l0 v w h0
    clear hA
    go_enter Tryz.func7, Tryz.ntmps7
    go_wp2_with fail
    refine C1.out.mono ?_
    rintro e w1 ⟨rfl, hb1⟩
    have HB2 : Hid (Below w.heap.size w w1) := hb1
    have CW : Hid (Calls _ _ _ _ _) := awake18_any w1
    clear C1 hb1
    go_wp2_with fail
    refine CW.out.mono ?_
    rintro e w3 ⟨rfl, hb⟩
    have HE : Hid (Below w.heap.size w w3) := HB2.out.trans (hb.mono HB2.out.size)
    clear CW hb
    go_wp2_with fail
    go_ret
    exact ⟨rfl, HE.out⟩
  · by_cases h1 : 4096 < A.length
    · obtain ⟨p, c, rfl, -⟩ := hA.f
      obtain ⟨n, hn⟩ : ∃ n, A.length = n := ⟨_, rfl⟩
      rw [hn] at h1 ⊢
      clear hn
      have C1 : Hid (Calls _ _ _ _ _) := schedule_long l0 p n c w (by omega) h1
      clear hA h0 h1 hl
      go_enter Tryz.func7, Tryz.ntmps7
      go_wp2_with fail
      refine C1.out.mono ?_
      rintro e w1 ⟨rfl, hb1⟩
      have HB2 : Hid (Below w.heap.size w w1) := hb1
      have CW : Hid (Calls _ _ _ _ _) := awake18_any w1
      clear C1 hb1
      go_wp2_with fail
      refine CW.out.mono ?_
      rintro e w3 ⟨rfl, hb⟩
      have HE : Hid (Below w.heap.size w w3) := HB2.out.trans (hb.mono HB2.out.size)
      clear CW hb
      go_wp2_with fail
      go_ret
      exact ⟨rfl, HE.out⟩
    · have C1 : Hid (Calls _ _ _ _ _) := schedule_ok l0 v A w hA (by omega) (by omega)
      obtain ⟨p, c, rfl, hlc, -, hrow⟩ := hA.f
      obtain ⟨n, hn⟩ : ∃ n, A.length = n := ⟨_, rfl⟩
      have hn4 : n ≤ 4096 := by omega
      have HLn : Hid (A.length = n) := hn
      have HRow : Hid (∀ i (hi : i < A.length), ∃ b o, p = some ⟨b, o, none⟩ ∧ b < w.heap.size ∧ w.cell? ⟨b, o + i * 5, none⟩ = some (.int .u64 (A[i].fr : Nat)) ∧ w.cell? ⟨b, o + i * 5 + 1, none⟩ = some A[i].v0 ∧ w.cell? ⟨b, o + i * 5 + 2, none⟩ = some A[i].v1 ∧ w.cell? ⟨b, o + i * 5 + 3, none⟩ = some A[i].v2 ∧ w.cell? ⟨b, o + i * 5 + 4, none⟩ = some (.int .i64 A[i].lv)) := hrow
      have HFt : Hid (∀ c ∈ A, RdF w c.v0 c.v1 c.v2 c.a ∧ c.fr < 18446744073709551616) := hA.ft
      rw [hn] at C1 hlc ⊢
      clear hA h0 h1 hn hrow
      go_enter Tryz.func7, Tryz.ntmps7
      go_wp2_with fail
      refine C1.out.mono ?_
      rintro e w1 ⟨g, Fs, la, L, rfl, hF, hR, hg, hb1⟩
      clear C1 hg
      have HB1 : Hid (Below w.heap.size w w1) := hb1
      have hlF : Fs.length = n := by
        have h := hR.len
        simp at h
        rw [h]
        exact HLn.out
      have HR1 : Hid (RunR l0 A.reverse Fs.reverse la L) := hR
      have HF1 : Hid (BkF w1 g n Fs) := hF
      have HFl : Hid (Fs.length = n) := hlF
      have HCf : Hid (∀ j (hj : j < Fs.length) w9, Below w1.heap.size w1 w9 → w9.cell? ⟨g, j * 6, none⟩ = some (.int .u64 (Fs[j].st : Nat)) ∧ w9.cell? ⟨g, j * 6 + 1, none⟩ = some (.int .i64 Fs[j].er)) := fun j hj w9 h9 => by
        obtain ⟨c0, c1, _⟩ := (HF1.out.on h9).cell j hj
        exact ⟨c0, c1⟩
      clear hF hR hb1 hlF HF1
      go_wp2_with fail
      go_loopw [7] (fun x wr => ∃ i : Nat, i ≤ n ∧ x = .int .i64 (i : Int) ∧ Hid (Below w1.heap.size w1 wr)) (fun x _ => n - (intOf x).toNat)
      case atStart => exact ⟨0, Nat.zero_le _, by go_num, Below.refl _ _⟩
      case round =>
        obtain ⟨i, hin, rfl, HW⟩ := hrel
        by_cases hi0 : i = n
        · subst hi0
          have HB3 : Hid (Below w.heap.size w wr) := HB1.out.trans (HW.out.mono HB1.out.size)
          have CW : Hid (Calls _ _ _ _ _) := awake18_any wr
          go_wp2_with fail
          refine CW.out.mono ?_
          rintro e w3 ⟨rfl, hb⟩
          have HE : Hid (Below w.heap.size w w3) := HB3.out.trans (hb.mono HB3.out.size)
          clear CW hb
          go_wp2_with fail
          go_ret
          exact ⟨rfl, HE.out⟩
        · have hi1 : i < n := by omega
          have hiF : i < Fs.length := by have := HFl.out; omega
          have hiA : i < A.length := by have := HLn.out; omega
          obtain ⟨s0, s1⟩ := HCf.out i hiF wr HW.out
          obtain ⟨eri, heri⟩ : ∃ e, Fs[i].er = e := ⟨_, rfl⟩
          rw [heri] at s1
          clear s0
          by_cases he0 : eri = 0
          · subst he0
            have HEi : Hid (∃ h : i < Fs.length, Fs[i].er = 0) := ⟨hiF, heri⟩
            clear heri
            obtain ⟨b, o, rfl, hbl, d0, d1, d2, d3, d4⟩ := HRow.out i hiA
            have hfti := HFt.out A[i] (List.getElem_mem hiA)
            obtain ⟨ki, hki0⟩ : ∃ k, A[i] = k := ⟨_, rfl⟩
            have HAi : Hid (∃ h : i < A.length, A[i] = ki) := ⟨hiA, hki0⟩
            rw [hki0] at d0 d1 d2 d3 d4 hfti
            clear hki0 hiA hiF
            obtain ⟨fr, ka, lv, v0, v1, v2⟩ := ki
            dsimp only at d0 d1 d2 d3 d4 hfti
            obtain ⟨⟨p0, n0, c0, e0⟩, ⟨p1, n1, c1, e1⟩, ⟨p2, n2, c2, e2⟩⟩ : (∃ p n c, v0 = .slice p n c) ∧ (∃ p n c, v1 = .slice p n c) ∧ (∃ p n c, v2 = .slice p n c) := by
              obtain ⟨p0, c0, e0, _⟩ := hfti.1.p.f
              obtain ⟨p1, c1, e1, _⟩ := hfti.1.s.f
              obtain ⟨p2, c2, e2, _⟩ := hfti.1.w.f
              exact ⟨⟨_, _, _, e0⟩, ⟨_, _, _, e1⟩, ⟨_, _, _, e2⟩⟩
            subst e0 e1 e2
            have HRi : Hid (RdF w (.slice p0 n0 c0) (.slice p1 n1 c1) (.slice p2 n2 c2) ka) := hfti.1
            have hb1' : ∀ w9, Below w1.heap.size w1 w9 → Below w.heap.size w w9 := fun w9 h9 => HB1.out.trans (h9.mono HB1.out.size)
            have HDi : Hid (∀ w9, Below w1.heap.size w1 w9 → w9.cell? ⟨b, o + i * 5, none⟩ = some (.int .u64 (fr : Nat)) ∧ w9.cell? ⟨b, o + i * 5 + 1, none⟩ = some (.slice p0 n0 c0) ∧ w9.cell? ⟨b, o + i * 5 + 2, none⟩ = some (.slice p1 n1 c1) ∧ w9.cell? ⟨b, o + i * 5 + 3, none⟩ = some (.slice p2 n2 c2) ∧ w9.cell? ⟨b, o + i * 5 + 4, none⟩ = some (.int .i64 lv)) := fun w9 h9 => ⟨((hb1' w9 h9).cell (p := ⟨b, _, none⟩) hbl).trans d0, ((hb1' w9 h9).cell (p := ⟨b, _, none⟩) hbl).trans d1, ((hb1' w9 h9).cell (p := ⟨b, _, none⟩) hbl).trans d2, ((hb1' w9 h9).cell (p := ⟨b, _, none⟩) hbl).trans d3, ((hb1' w9 h9).cell (p := ⟨b, _, none⟩) hbl).trans d4⟩
            clear hfti d0 d1 d2 d3 d4 hb1' hbl
            go_wp2_with fail
            clear s1
            rename World => wo
            rename Hid (Below w1.heap.size w1 wo) => HWo
            go_loopw [8] (fun x wr => ∃ k : Nat, k ≤ i ∧ x = .int .i64 (k : Int) ∧ Hid (Below w1.heap.size w1 wr)) (fun x _ => i - (intOf x).toNat)
            case atStart => exact ⟨0, Nat.zero_le _, by go_num, HWo⟩
            case round =>
              obtain ⟨k, hki', rfl, HW⟩ := hrel
              by_cases hk0 : k = i
              · subst hk0
                go_wp2_with fail
                go_roundw
                case rel => exact ⟨k + 1, hi1, by go_num, HW⟩
                case measure => simp [intOf]; omega
              · have hki : k < i := by omega
                have hkn : k < n := by omega
                have hkF : k < Fs.length := by have := HFl.out; omega
                have hkA : k < A.length := by have := HLn.out; omega
                obtain ⟨t0, t1⟩ := HCf.out k hkF wr HW.out
                obtain ⟨erk, herk⟩ : ∃ e, Fs[k].er = e := ⟨_, rfl⟩
                obtain ⟨stk, hstk⟩ : ∃ e, Fs[k].st = e := ⟨_, rfl⟩
                rw [herk] at t1
                rw [hstk] at t0
                have HSk : Hid (∃ h : k < Fs.length, Fs[k].er = erk ∧ Fs[k].st = stk) := ⟨hkF, herk, hstk⟩
                obtain ⟨a0, a1, a2, a3, a4⟩ := HDi.out wr HW.out
                clear a1 a2 a3 a4
                clear herk hstk
                by_cases hek : erk = 0
                · subst hek
                  by_cases hsf : stk ≤ fr
                  · clear hkF hkA HSk
                    have hk4 : i ≤ 4096 := by omega
                    go_wp2_with fail
                    go_quiet (fail)
                    go_wp2_with fail
                    go_roundw
                    case rel => exact ⟨k + 1, hki, by go_num, below_same HW.out rfl rfl rfl rfl⟩
                    case measure => simp [intOf]; omega
                  · have hsf2 : fr < stk := by omega
                    clear hsf
                    have HPr : Hid (∃ h : i < Fs.length, stk < Fs[i].st ∧ (lv = 3 → ∀ y ∈ (A[k]'hkA).a.W, ¬ ka.rds y) ∧ (2 ≤ lv → ∀ y ∈ (A[k]'hkA).a.W, ¬ ka.wrs y)) := by
                      obtain ⟨hiF, hei⟩ := HEi.out
                      obtain ⟨hiA, hai⟩ := HAi.out
                      obtain ⟨hkF, hek, hsk⟩ := HSk.out
                      have h := HR1.out.pair (by rw [HFl.out, HLn.out]) i k hki hiA hiF hkA hkF hei hek (by rw [hsk, hai]; exact hsf2)
                      rw [hsk, hai] at h
                      exact ⟨hiF, h⟩
                    obtain ⟨sti, u0, hst⟩ : ∃ sti, wr.cell? ⟨g, i * 6, none⟩ = some (.int .u64 (sti : Nat)) ∧ stk < sti := by
                      obtain ⟨hiF, h, _⟩ := HPr.out
                      exact ⟨_, (HCf.out i hiF wr HW.out).1, h⟩
                    obtain ⟨b', o', e', hbl, d0, d1, d2, d3, d4⟩ := HRow.out k hkA
                    cases e'
                    have hftk := HFt.out A[k] (List.getElem_mem hkA)
                    obtain ⟨kk, hkk⟩ : ∃ k', A[k] = k' := ⟨_, rfl⟩
                    rw [hkk] at d0 d1 d2 d3 d4 hftk HPr
                    obtain ⟨fr', kb, lv', v0, v1, v2⟩ := kk
                    dsimp only at d0 d1 d2 d3 d4 hftk HPr
                    obtain ⟨⟨p0', n0', c0', e0⟩, ⟨p1', n1', c1', e1⟩, ⟨p2', n2', c2', e2⟩⟩ : (∃ p n c, v0 = .slice p n c) ∧ (∃ p n c, v1 = .slice p n c) ∧ (∃ p n c, v2 = .slice p n c) := by
                      obtain ⟨p0, c0, e0, _⟩ := hftk.1.p.f
                      obtain ⟨p1, c1, e1, _⟩ := hftk.1.s.f
                      obtain ⟨p2, c2, e2, _⟩ := hftk.1.w.f
                      exact ⟨⟨_, _, _, e0⟩, ⟨_, _, _, e1⟩, ⟨_, _, _, e2⟩⟩
                    subst e0 e1 e2
                    have hb1' : ∀ w9, Below w1.heap.size w1 w9 → Below w.heap.size w w9 := fun w9 h9 => HB1.out.trans (h9.mono HB1.out.size)
                    have HDk : Hid (∀ w9, Below w1.heap.size w1 w9 → w9.cell? ⟨b, o + k * 5, none⟩ = some (.int .u64 (fr' : Nat)) ∧ w9.cell? ⟨b, o + k * 5 + 1, none⟩ = some (.slice p0' n0' c0') ∧ w9.cell? ⟨b, o + k * 5 + 2, none⟩ = some (.slice p1' n1' c1') ∧ w9.cell? ⟨b, o + k * 5 + 3, none⟩ = some (.slice p2' n2' c2') ∧ w9.cell? ⟨b, o + k * 5 + 4, none⟩ = some (.int .i64 lv')) := fun w9 h9 => ⟨((hb1' w9 h9).cell (p := ⟨b, _, none⟩) hbl).trans d0, ((hb1' w9 h9).cell (p := ⟨b, _, none⟩) hbl).trans d1, ((hb1' w9 h9).cell (p := ⟨b, _, none⟩) hbl).trans d2, ((hb1' w9 h9).cell (p := ⟨b, _, none⟩) hbl).trans d3, ((hb1' w9 h9).cell (p := ⟨b, _, none⟩) hbl).trans d4⟩
                    have CQ : Hid (∀ w7 : World, Below w1.heap.size w1 w7 → Calls Tryz.prog 23 #[.agg #[.slice p0 n0 c0, .slice p1 n1 c1, .slice p2 n2 c2], .agg #[.slice p0' n0' c0', .slice p1' n1' c1', .slice p2' n2' c2']] w7 fun e w' => ∃ (x : Pt) (bo : Bool), (lv = 3 → bo = false) ∧ e = .returned (.tuple #[.agg #[.int .i64 x.t, .int .i64 x.i, .string x.k], .bool bo]) ∧ Below w7.heap.size w7 w') := fun w7 hb => by
                      refine (clash_any ka kb _ _ _ _ _ _ w7 (HRi.out.on (hb1' w7 hb)) (hftk.1.on (hb1' w7 hb))).mono ?_
                      rintro e w' ⟨oo, ho, rfl, hb'⟩
                      refine ⟨lP oo, oo.isSome, fun h3 => ?_, rfl, hb'⟩
                      cases oo with
                      | none => rfl
                      | some z => exact absurd ho.1.2 (HPr.out.2.2.1 h3 z ho.1.1)
                    have CB : Hid (∀ w7 : World, Below w1.heap.size w1 w7 → Calls Tryz.prog 24 #[.agg #[.slice p0 n0 c0, .slice p1 n1 c1, .slice p2 n2 c2], .agg #[.slice p0' n0' c0', .slice p1' n1' c1', .slice p2' n2' c2']] w7 fun e w' => ∃ (x : Pt) (co : Bool), (2 ≤ lv → co = false) ∧ e = .returned (.tuple #[.agg #[.int .i64 x.t, .int .i64 x.i, .string x.k], .bool co]) ∧ Below w7.heap.size w7 w') := fun w7 hb => by
                      refine (both_any ka kb _ _ _ _ _ _ w7 (HRi.out.on (hb1' w7 hb)) (hftk.1.on (hb1' w7 hb))).mono ?_
                      rintro e w' ⟨oo, ho, rfl, hb'⟩
                      refine ⟨lP oo, oo.isSome, fun h3 => ?_, rfl, hb'⟩
                      cases oo with
                      | none => rfl
                      | some z =>
                        have h9 := (wrs_iff ka.W kb.W z).1 ho.1
                        exact absurd h9.2 (HPr.out.2.2.2 h3 z h9.1)
                    clear hkk hftk d0 d1 d2 d3 d4 hbl hb1' HPr HSk hkF hkA
                    go_wp2_with fail
                    go_quiet (fail)
                    go_wp2_with fail
                    go_quiet (fail)
                    go_upto_region 16 with fail
                    clear t0 t1 u0 a0 hsf2 hst
                    refine wp_region_LB (fun w' => Below w1.heap.size w1 w') 17 (by kernel_rfl) (below_same HW.out rfl rfl rfl rfl) ?_
                    intro d16w hd16
                    have HBd16 : Hid (Below w1.heap.size w1 d16w) := hd16
                    clear hd16
                    refine wpL_take (v := ?_) 0 rfl (by kernel_rfl) (fun _ _ _ h => h) (by rfl) ?_ HBd16.out ?_
                    rotate_left
                    focus
                      intro w9 hw9
                      obtain ⟨a0, a1, a2, a3, a4⟩ := HDi.out w9 hw9
                      obtain ⟨b0, b1, b2, b3, b4⟩ := HDk.out w9 hw9
                      go_simp
                      try with_reducible rfl
                    try simp only [Act.put, List.setIfInBounds_toArray, List.set_cons_zero, List.set_cons_succ]
                    refine wpL_take (v := ?_) 1 rfl (by kernel_rfl) (fun _ _ _ h => h) (by rfl) ?_ HBd16.out ?_
                    rotate_left
                    focus
                      intro w9 hw9
                      obtain ⟨a0, a1, a2, a3, a4⟩ := HDi.out w9 hw9
                      obtain ⟨b0, b1, b2, b3, b4⟩ := HDk.out w9 hw9
                      go_simp
                      try with_reducible rfl
                    try simp only [Act.put, List.setIfInBounds_toArray, List.set_cons_zero, List.set_cons_succ]
                    refine wpL_take (v := ?_) 2 rfl (by kernel_rfl) (fun _ _ _ h => h) (by rfl) ?_ HBd16.out ?_
                    rotate_left
                    focus
                      intro w9 hw9
                      obtain ⟨a0, a1, a2, a3, a4⟩ := HDi.out w9 hw9
                      obtain ⟨b0, b1, b2, b3, b4⟩ := HDk.out w9 hw9
                      go_simp
                      try with_reducible rfl
                    try simp only [Act.put, List.setIfInBounds_toArray, List.set_cons_zero, List.set_cons_succ]
                    refine wpL_take (v := ?_) 3 rfl (by kernel_rfl) (fun _ _ _ h => h) (by rfl) ?_ HBd16.out ?_
                    rotate_left
                    focus
                      intro w9 hw9
                      obtain ⟨a0, a1, a2, a3, a4⟩ := HDi.out w9 hw9
                      obtain ⟨b0, b1, b2, b3, b4⟩ := HDk.out w9 hw9
                      go_simp
                      try with_reducible rfl
                    try simp only [Act.put, List.setIfInBounds_toArray, List.set_cons_zero, List.set_cons_succ]
                    refine wpL_take (v := ?_) 4 rfl (by kernel_rfl) (fun _ _ _ h => h) (by rfl) ?_ HBd16.out ?_
                    rotate_left
                    focus
                      intro w9 hw9
                      obtain ⟨a0, a1, a2, a3, a4⟩ := HDi.out w9 hw9
                      obtain ⟨b0, b1, b2, b3, b4⟩ := HDk.out w9 hw9
                      go_simp
                      try with_reducible rfl
                    try simp only [Act.put, List.setIfInBounds_toArray, List.set_cons_zero, List.set_cons_succ]
                    refine wpL_take (v := ?_) 5 rfl (by kernel_rfl) (fun _ _ _ h => h) (by rfl) ?_ HBd16.out ?_
                    rotate_left
                    focus
                      intro w9 hw9
                      obtain ⟨a0, a1, a2, a3, a4⟩ := HDi.out w9 hw9
                      obtain ⟨b0, b1, b2, b3, b4⟩ := HDk.out w9 hw9
                      go_simp
                      try with_reducible rfl
                    try simp only [Act.put, List.setIfInBounds_toArray, List.set_cons_zero, List.set_cons_succ]
                    refine wpL_take (v := ?_) 6 rfl (by kernel_rfl) (fun _ _ _ h => h) (by rfl) ?_ HBd16.out ?_
                    rotate_left
                    focus
                      intro w9 hw9
                      obtain ⟨a0, a1, a2, a3, a4⟩ := HDi.out w9 hw9
                      obtain ⟨b0, b1, b2, b3, b4⟩ := HDk.out w9 hw9
                      go_simp
                      try with_reducible rfl
                    try simp only [Act.put, List.setIfInBounds_toArray, List.set_cons_zero, List.set_cons_succ]
                    refine wpL_take (v := ?_) 7 rfl (by kernel_rfl) (fun _ _ _ h => h) (by rfl) ?_ HBd16.out ?_
                    rotate_left
                    focus
                      intro w9 hw9
                      obtain ⟨a0, a1, a2, a3, a4⟩ := HDi.out w9 hw9
                      obtain ⟨b0, b1, b2, b3, b4⟩ := HDk.out w9 hw9
                      go_simp
                      try with_reducible rfl
                    try simp only [Act.put, List.setIfInBounds_toArray, List.set_cons_zero, List.set_cons_succ]
                    refine wpL_take (v := ?_) 8 rfl (by kernel_rfl) (fun _ _ _ h => h) (by rfl) ?_ HBd16.out ?_
                    rotate_left
                    focus
                      intro w9 hw9
                      obtain ⟨a0, a1, a2, a3, a4⟩ := HDi.out w9 hw9
                      obtain ⟨b0, b1, b2, b3, b4⟩ := HDk.out w9 hw9
                      go_simp
                      try with_reducible rfl
                    try simp only [Act.put, List.setIfInBounds_toArray, List.set_cons_zero, List.set_cons_succ]
                    refine wpL_take (v := ?_) 9 rfl (by kernel_rfl) (fun _ _ _ h => h) (by rfl) ?_ HBd16.out ?_
                    rotate_left
                    focus
                      intro w9 hw9
                      obtain ⟨a0, a1, a2, a3, a4⟩ := HDi.out w9 hw9
                      obtain ⟨b0, b1, b2, b3, b4⟩ := HDk.out w9 hw9
                      go_simp
                      try with_reducible rfl
                    try simp only [Act.put, List.setIfInBounds_toArray, List.set_cons_zero, List.set_cons_succ]
                    refine wpL_two18 10 14 rfl rfl (by kernel_rfl) (by rfl) (by rfl) ?_ ?_
                    · intro K hK
                      go_simp
                      refine (CQ.out d16w HBd16.out).mono ?_
                      rintro e w16u1 ⟨x, bo, hbo, rfl, hbw16u1⟩
                      have HPbo : Hid (lv = 3 → bo = false) := hbo
                      clear hbo
                      dsimp only
                      have HBw16u1 : Hid (Below w1.heap.size w1 w16u1) := HBd16.out.trans (hbw16u1.mono HBd16.out.size)
                      clear hbw16u1
                      refine hK.out _ _ (fun _ => HBw16u1.out) ?_
                      clear hK K
                      try simp only [Act.put, List.setIfInBounds_toArray, List.set_cons_zero, List.set_cons_succ]
                      refine wpL_take (v := ?_) 11 rfl (by kernel_rfl) (fun _ _ _ h => h) (by rfl) ?_ HBw16u1.out ?_
                      rotate_left
                      focus
                        intro w9 hw9

                        go_simp
                        try with_reducible rfl
                      try simp only [Act.put, List.setIfInBounds_toArray, List.set_cons_zero, List.set_cons_succ]
                      refine wpL_take (v := ?_) 12 rfl (by kernel_rfl) (fun _ _ _ h => h) (by rfl) ?_ HBw16u1.out ?_
                      rotate_left
                      focus
                        intro w9 hw9

                        go_simp
                        try with_reducible rfl
                      try simp only [Act.put, List.setIfInBounds_toArray, List.set_cons_zero, List.set_cons_succ]
                      refine wpL_take (v := ?_) 13 rfl (by kernel_rfl) (fun _ _ _ h => h) (by rfl) ?_ HBw16u1.out ?_
                      rotate_left
                      focus
                        intro w9 hw9

                        go_simp
                        try with_reducible rfl
                      try simp only [Act.put, List.setIfInBounds_toArray, List.set_cons_zero, List.set_cons_succ]
                      refine wpL_one 14 rfl (by kernel_rfl) (by rfl) ?_
                      intro K hK
                      go_simp
                      have hal : Below w16u1.heap.size w16u1 (w16u1.alloc (.cells #[.int .i64 0, .int .i64 0, .string ⟨#[]⟩] 39)) := (Below.refl _ _).alloc (Nat.le_refl _) _
                      have HZw16u2 : Hid (Blk (w16u1.alloc (.cells #[.int .i64 0, .int .i64 0, .string ⟨#[]⟩] 39)) w16u1.heap.size #[.int .i64 0, .int .i64 0, .string ⟨#[]⟩] 39) := Blk.new w16u1 _ _
                      have HBw16u2 : Hid (Below w1.heap.size w1 (w16u1.alloc (.cells #[.int .i64 0, .int .i64 0, .string ⟨#[]⟩] 39))) := HBw16u1.out.trans (hal.mono HBw16u1.out.size)
                      have HLe : Hid (w1.heap.size ≤ w16u1.heap.size) := HBw16u1.out.size
                      clear hal
                      generalize (w16u1.alloc (.cells #[.int .i64 0, .int .i64 0, .string ⟨#[]⟩] 39)) = w16u2 at *
                      refine hK.out _ _ (fun _ => HBw16u2.out) ?_
                      clear hK K
                      try simp only [Act.put, List.setIfInBounds_toArray, List.set_cons_zero, List.set_cons_succ]
                      have q0 := HZw16u2.out.cell (i := 0) rfl
                      have q1 := HZw16u2.out.cell (i := 1) rfl
                      have q2 := HZw16u2.out.cell (i := 2) rfl
                      have g0 := HZw16u2.out.frozen 0
                      have g1 := HZw16u2.out.frozen 1
                      have g2 := HZw16u2.out.frozen 2
                      have H3 : Hid (Blk (((w16u2.setCell ⟨w16u1.heap.size, 0, none⟩ (.int .i64 x.t)).setCell ⟨w16u1.heap.size, 1, none⟩ (.int .i64 x.i)).setCell ⟨w16u1.heap.size, 2, none⟩ (.string x.k)) w16u1.heap.size #[.int .i64 x.t, .int .i64 x.i, .string x.k] 39 ∧ Frm w16u2 (((w16u2.setCell ⟨w16u1.heap.size, 0, none⟩ (.int .i64 x.t)).setCell ⟨w16u1.heap.size, 1, none⟩ (.int .i64 x.i)).setCell ⟨w16u1.heap.size, 2, none⟩ (.string x.k)) (fun k => k = w16u1.heap.size)) := set3 HZw16u2.out
                      have HBs16 : Hid (Below w1.heap.size w1 (((w16u2.setCell ⟨w16u1.heap.size, 0, none⟩ (.int .i64 x.t)).setCell ⟨w16u1.heap.size, 1, none⟩ (.int .i64 x.i)).setCell ⟨w16u1.heap.size, 2, none⟩ (.string x.k))) := HBw16u2.out.trans (H3.out.2.below HBw16u2.out.size (fun k hk => by have := HLe.out; omega))
                      refine wpL_one 15 rfl (by kernel_rfl) (by rfl) ?_
                      intro K hK
                      go_simp
                      refine hK.out _ _ (fun _ => HBs16.out) ?_
                      clear hK K q0 q1 q2 g0 g1 g2 H3
                      generalize ((w16u2.setCell ⟨w16u1.heap.size, 0, none⟩ (.int .i64 x.t)).setCell ⟨w16u1.heap.size, 1, none⟩ (.int .i64 x.i)).setCell ⟨w16u1.heap.size, 2, none⟩ (.string x.k) = ws16 at *
                      try simp only [Act.put, List.setIfInBounds_toArray, List.set_cons_zero, List.set_cons_succ]
                      refine wpL_take (v := ?_) 16 rfl (by kernel_rfl) (fun _ _ _ h => h) (by rfl) ?_ HBs16.out ?_
                      rotate_left
                      focus
                        intro w9 hw9

                        go_simp
                        try with_reducible rfl
                      try simp only [Act.put, List.setIfInBounds_toArray, List.set_cons_zero, List.set_cons_succ]
                      refine wpL_done (by kernel_rfl) ?_ _
                      try simp only [NoPanic]
                      clear HLe
                      go_upto_region 17 with fail
                      refine wp_region_LB (fun w' => Below w1.heap.size w1 w') 17 (by kernel_rfl) (below_same HBs16.out rfl rfl rfl rfl) ?_
                      intro d17w hd17
                      have HBd17 : Hid (Below w1.heap.size w1 d17w) := hd17
                      clear hd17
                      refine wpL_take (v := ?_) 0 rfl (by kernel_rfl) (fun _ _ _ h => h) (by rfl) ?_ HBd17.out ?_
                      rotate_left
                      focus
                        intro w9 hw9
                        obtain ⟨a0, a1, a2, a3, a4⟩ := HDi.out w9 hw9
                        obtain ⟨b0, b1, b2, b3, b4⟩ := HDk.out w9 hw9
                        go_simp
                        try with_reducible rfl
                      try simp only [Act.put, List.setIfInBounds_toArray, List.set_cons_zero, List.set_cons_succ]
                      refine wpL_take (v := ?_) 1 rfl (by kernel_rfl) (fun _ _ _ h => h) (by rfl) ?_ HBd17.out ?_
                      rotate_left
                      focus
                        intro w9 hw9
                        obtain ⟨a0, a1, a2, a3, a4⟩ := HDi.out w9 hw9
                        obtain ⟨b0, b1, b2, b3, b4⟩ := HDk.out w9 hw9
                        go_simp
                        try with_reducible rfl
                      try simp only [Act.put, List.setIfInBounds_toArray, List.set_cons_zero, List.set_cons_succ]
                      refine wpL_take (v := ?_) 2 rfl (by kernel_rfl) (fun _ _ _ h => h) (by rfl) ?_ HBd17.out ?_
                      rotate_left
                      focus
                        intro w9 hw9
                        obtain ⟨a0, a1, a2, a3, a4⟩ := HDi.out w9 hw9
                        obtain ⟨b0, b1, b2, b3, b4⟩ := HDk.out w9 hw9
                        go_simp
                        try with_reducible rfl
                      try simp only [Act.put, List.setIfInBounds_toArray, List.set_cons_zero, List.set_cons_succ]
                      refine wpL_take (v := ?_) 3 rfl (by kernel_rfl) (fun _ _ _ h => h) (by rfl) ?_ HBd17.out ?_
                      rotate_left
                      focus
                        intro w9 hw9
                        obtain ⟨a0, a1, a2, a3, a4⟩ := HDi.out w9 hw9
                        obtain ⟨b0, b1, b2, b3, b4⟩ := HDk.out w9 hw9
                        go_simp
                        try with_reducible rfl
                      try simp only [Act.put, List.setIfInBounds_toArray, List.set_cons_zero, List.set_cons_succ]
                      refine wpL_take (v := ?_) 4 rfl (by kernel_rfl) (fun _ _ _ h => h) (by rfl) ?_ HBd17.out ?_
                      rotate_left
                      focus
                        intro w9 hw9
                        obtain ⟨a0, a1, a2, a3, a4⟩ := HDi.out w9 hw9
                        obtain ⟨b0, b1, b2, b3, b4⟩ := HDk.out w9 hw9
                        go_simp
                        try with_reducible rfl
                      try simp only [Act.put, List.setIfInBounds_toArray, List.set_cons_zero, List.set_cons_succ]
                      refine wpL_take (v := ?_) 5 rfl (by kernel_rfl) (fun _ _ _ h => h) (by rfl) ?_ HBd17.out ?_
                      rotate_left
                      focus
                        intro w9 hw9
                        obtain ⟨a0, a1, a2, a3, a4⟩ := HDi.out w9 hw9
                        obtain ⟨b0, b1, b2, b3, b4⟩ := HDk.out w9 hw9
                        go_simp
                        try with_reducible rfl
                      try simp only [Act.put, List.setIfInBounds_toArray, List.set_cons_zero, List.set_cons_succ]
                      refine wpL_take (v := ?_) 6 rfl (by kernel_rfl) (fun _ _ _ h => h) (by rfl) ?_ HBd17.out ?_
                      rotate_left
                      focus
                        intro w9 hw9
                        obtain ⟨a0, a1, a2, a3, a4⟩ := HDi.out w9 hw9
                        obtain ⟨b0, b1, b2, b3, b4⟩ := HDk.out w9 hw9
                        go_simp
                        try with_reducible rfl
                      try simp only [Act.put, List.setIfInBounds_toArray, List.set_cons_zero, List.set_cons_succ]
                      refine wpL_take (v := ?_) 7 rfl (by kernel_rfl) (fun _ _ _ h => h) (by rfl) ?_ HBd17.out ?_
                      rotate_left
                      focus
                        intro w9 hw9
                        obtain ⟨a0, a1, a2, a3, a4⟩ := HDi.out w9 hw9
                        obtain ⟨b0, b1, b2, b3, b4⟩ := HDk.out w9 hw9
                        go_simp
                        try with_reducible rfl
                      try simp only [Act.put, List.setIfInBounds_toArray, List.set_cons_zero, List.set_cons_succ]
                      refine wpL_take (v := ?_) 8 rfl (by kernel_rfl) (fun _ _ _ h => h) (by rfl) ?_ HBd17.out ?_
                      rotate_left
                      focus
                        intro w9 hw9
                        obtain ⟨a0, a1, a2, a3, a4⟩ := HDi.out w9 hw9
                        obtain ⟨b0, b1, b2, b3, b4⟩ := HDk.out w9 hw9
                        go_simp
                        try with_reducible rfl
                      try simp only [Act.put, List.setIfInBounds_toArray, List.set_cons_zero, List.set_cons_succ]
                      refine wpL_take (v := ?_) 9 rfl (by kernel_rfl) (fun _ _ _ h => h) (by rfl) ?_ HBd17.out ?_
                      rotate_left
                      focus
                        intro w9 hw9
                        obtain ⟨a0, a1, a2, a3, a4⟩ := HDi.out w9 hw9
                        obtain ⟨b0, b1, b2, b3, b4⟩ := HDk.out w9 hw9
                        go_simp
                        try with_reducible rfl
                      try simp only [Act.put, List.setIfInBounds_toArray, List.set_cons_zero, List.set_cons_succ]
                      refine wpL_two18 10 14 rfl rfl (by kernel_rfl) (by rfl) (by rfl) ?_ ?_
                      · intro K hK
                        go_simp
                        refine (CB.out d17w HBd17.out).mono ?_
                        rintro e w17u1 ⟨y, co, hco, rfl, hbw17u1⟩
                        have HPco : Hid (2 ≤ lv → co = false) := hco
                        clear hco
                        dsimp only
                        have HBw17u1 : Hid (Below w1.heap.size w1 w17u1) := HBd17.out.trans (hbw17u1.mono HBd17.out.size)
                        clear hbw17u1
                        refine hK.out _ _ (fun _ => HBw17u1.out) ?_
                        clear hK K
                        try simp only [Act.put, List.setIfInBounds_toArray, List.set_cons_zero, List.set_cons_succ]
                        refine wpL_take (v := ?_) 11 rfl (by kernel_rfl) (fun _ _ _ h => h) (by rfl) ?_ HBw17u1.out ?_
                        rotate_left
                        focus
                          intro w9 hw9

                          go_simp
                          try with_reducible rfl
                        try simp only [Act.put, List.setIfInBounds_toArray, List.set_cons_zero, List.set_cons_succ]
                        refine wpL_take (v := ?_) 12 rfl (by kernel_rfl) (fun _ _ _ h => h) (by rfl) ?_ HBw17u1.out ?_
                        rotate_left
                        focus
                          intro w9 hw9

                          go_simp
                          try with_reducible rfl
                        try simp only [Act.put, List.setIfInBounds_toArray, List.set_cons_zero, List.set_cons_succ]
                        refine wpL_take (v := ?_) 13 rfl (by kernel_rfl) (fun _ _ _ h => h) (by rfl) ?_ HBw17u1.out ?_
                        rotate_left
                        focus
                          intro w9 hw9

                          go_simp
                          try with_reducible rfl
                        try simp only [Act.put, List.setIfInBounds_toArray, List.set_cons_zero, List.set_cons_succ]
                        refine wpL_one 14 rfl (by kernel_rfl) (by rfl) ?_
                        intro K hK
                        go_simp
                        have hal : Below w17u1.heap.size w17u1 (w17u1.alloc (.cells #[.int .i64 0, .int .i64 0, .string ⟨#[]⟩] 39)) := (Below.refl _ _).alloc (Nat.le_refl _) _
                        have HZw17u2 : Hid (Blk (w17u1.alloc (.cells #[.int .i64 0, .int .i64 0, .string ⟨#[]⟩] 39)) w17u1.heap.size #[.int .i64 0, .int .i64 0, .string ⟨#[]⟩] 39) := Blk.new w17u1 _ _
                        have HBw17u2 : Hid (Below w1.heap.size w1 (w17u1.alloc (.cells #[.int .i64 0, .int .i64 0, .string ⟨#[]⟩] 39))) := HBw17u1.out.trans (hal.mono HBw17u1.out.size)
                        have HLe : Hid (w1.heap.size ≤ w17u1.heap.size) := HBw17u1.out.size
                        clear hal
                        generalize (w17u1.alloc (.cells #[.int .i64 0, .int .i64 0, .string ⟨#[]⟩] 39)) = w17u2 at *
                        refine hK.out _ _ (fun _ => HBw17u2.out) ?_
                        clear hK K
                        try simp only [Act.put, List.setIfInBounds_toArray, List.set_cons_zero, List.set_cons_succ]
                        have q0 := HZw17u2.out.cell (i := 0) rfl
                        have q1 := HZw17u2.out.cell (i := 1) rfl
                        have q2 := HZw17u2.out.cell (i := 2) rfl
                        have g0 := HZw17u2.out.frozen 0
                        have g1 := HZw17u2.out.frozen 1
                        have g2 := HZw17u2.out.frozen 2
                        have H3 : Hid (Blk (((w17u2.setCell ⟨w17u1.heap.size, 0, none⟩ (.int .i64 y.t)).setCell ⟨w17u1.heap.size, 1, none⟩ (.int .i64 y.i)).setCell ⟨w17u1.heap.size, 2, none⟩ (.string y.k)) w17u1.heap.size #[.int .i64 y.t, .int .i64 y.i, .string y.k] 39 ∧ Frm w17u2 (((w17u2.setCell ⟨w17u1.heap.size, 0, none⟩ (.int .i64 y.t)).setCell ⟨w17u1.heap.size, 1, none⟩ (.int .i64 y.i)).setCell ⟨w17u1.heap.size, 2, none⟩ (.string y.k)) (fun k => k = w17u1.heap.size)) := set3 HZw17u2.out
                        have HBs17 : Hid (Below w1.heap.size w1 (((w17u2.setCell ⟨w17u1.heap.size, 0, none⟩ (.int .i64 y.t)).setCell ⟨w17u1.heap.size, 1, none⟩ (.int .i64 y.i)).setCell ⟨w17u1.heap.size, 2, none⟩ (.string y.k))) := HBw17u2.out.trans (H3.out.2.below HBw17u2.out.size (fun k hk => by have := HLe.out; omega))
                        refine wpL_one 15 rfl (by kernel_rfl) (by rfl) ?_
                        intro K hK
                        go_simp
                        refine hK.out _ _ (fun _ => HBs17.out) ?_
                        clear hK K q0 q1 q2 g0 g1 g2 H3
                        generalize ((w17u2.setCell ⟨w17u1.heap.size, 0, none⟩ (.int .i64 y.t)).setCell ⟨w17u1.heap.size, 1, none⟩ (.int .i64 y.i)).setCell ⟨w17u1.heap.size, 2, none⟩ (.string y.k) = ws17 at *
                        try simp only [Act.put, List.setIfInBounds_toArray, List.set_cons_zero, List.set_cons_succ]
                        refine wpL_take (v := ?_) 16 rfl (by kernel_rfl) (fun _ _ _ h => h) (by rfl) ?_ HBs17.out ?_
                        rotate_left
                        focus
                          intro w9 hw9

                          go_simp
                          try with_reducible rfl
                        try simp only [Act.put, List.setIfInBounds_toArray, List.set_cons_zero, List.set_cons_succ]
                        refine wpL_done (by kernel_rfl) ?_ _
                        try simp only [NoPanic]
                        clear HLe
                        have HIe := HBs17
                        clear HBs16
                        have hn5 : n ≤ 4096 := hn4
                        obtain ⟨a0, a1, a2, a3, a4⟩ := HDi.out ws17 HBs17.out
                        by_cases h3 : lv = 3
                        · subst h3
                          obtain rfl := HPbo.out rfl
                          obtain rfl := HPco.out (by omega)
                          go_wp2_with fail
                          go_roundw
                          case rel => exact ⟨k + 1, hki, by go_num, HIe⟩
                          case measure => simp [intOf]; omega
                        · by_cases h2 : 2 ≤ lv
                          · obtain rfl := HPco.out h2
                            go_wp2_with fail
                            go_roundw
                            case rel => exact ⟨k + 1, hki, by go_num, HIe⟩
                            case measure => simp [intOf]; omega
                          · have h2' : lv < 2 := by omega
                            clear h2
                            go_wp2_with fail
                            go_roundw
                            case rel => exact ⟨k + 1, hki, by go_num, HIe⟩
                            case measure => simp [intOf]; omega
                      · intro K hK
                        go_simp
                        have hal : Below d17w.heap.size d17w (d17w.alloc (.cells #[.int .i64 0, .int .i64 0, .string ⟨#[]⟩] 39)) := (Below.refl _ _).alloc (Nat.le_refl _) _
                        have HZw17u3 : Hid (Blk (d17w.alloc (.cells #[.int .i64 0, .int .i64 0, .string ⟨#[]⟩] 39)) d17w.heap.size #[.int .i64 0, .int .i64 0, .string ⟨#[]⟩] 39) := Blk.new d17w _ _
                        have HBw17u3 : Hid (Below w1.heap.size w1 (d17w.alloc (.cells #[.int .i64 0, .int .i64 0, .string ⟨#[]⟩] 39))) := HBd17.out.trans (hal.mono HBd17.out.size)
                        have HLe : Hid (w1.heap.size ≤ d17w.heap.size) := HBd17.out.size
                        clear hal
                        generalize (d17w.alloc (.cells #[.int .i64 0, .int .i64 0, .string ⟨#[]⟩] 39)) = w17u3 at *
                        refine hK.out _ _ (fun _ => HBw17u3.out) ?_
                        clear hK K
                        try simp only [Act.put, List.setIfInBounds_toArray, List.set_cons_zero, List.set_cons_succ]
                        refine wpL_one 10 rfl (by kernel_rfl) (by rfl) ?_
                        intro K hK
                        go_simp
                        refine (CB.out w17u3 HBw17u3.out).mono ?_
                        rintro e w17u4 ⟨y, co, hco, rfl, hbw17u4⟩
                        have HPco : Hid (2 ≤ lv → co = false) := hco
                        clear hco
                        dsimp only
                        have HBw17u4 : Hid (Below w1.heap.size w1 w17u4) := HBw17u3.out.trans (hbw17u4.mono HBw17u3.out.size)
                        have HZw17u4 : Hid (Blk w17u4 d17w.heap.size #[.int .i64 0, .int .i64 0, .string ⟨#[]⟩] 39) := HZw17u3.out.on hbw17u4
                        clear hbw17u4
                        refine hK.out _ _ (fun _ => HBw17u4.out) ?_
                        clear hK K
                        try simp only [Act.put, List.setIfInBounds_toArray, List.set_cons_zero, List.set_cons_succ]
                        refine wpL_take (v := ?_) 11 rfl (by kernel_rfl) (fun _ _ _ h => h) (by rfl) ?_ HBw17u4.out ?_
                        rotate_left
                        focus
                          intro w9 hw9

                          go_simp
                          try with_reducible rfl
                        try simp only [Act.put, List.setIfInBounds_toArray, List.set_cons_zero, List.set_cons_succ]
                        refine wpL_take (v := ?_) 12 rfl (by kernel_rfl) (fun _ _ _ h => h) (by rfl) ?_ HBw17u4.out ?_
                        rotate_left
                        focus
                          intro w9 hw9

                          go_simp
                          try with_reducible rfl
                        try simp only [Act.put, List.setIfInBounds_toArray, List.set_cons_zero, List.set_cons_succ]
                        refine wpL_take (v := ?_) 13 rfl (by kernel_rfl) (fun _ _ _ h => h) (by rfl) ?_ HBw17u4.out ?_
                        rotate_left
                        focus
                          intro w9 hw9

                          go_simp
                          try with_reducible rfl
                        try simp only [Act.put, List.setIfInBounds_toArray, List.set_cons_zero, List.set_cons_succ]
                        have q0 := HZw17u4.out.cell (i := 0) rfl
                        have q1 := HZw17u4.out.cell (i := 1) rfl
                        have q2 := HZw17u4.out.cell (i := 2) rfl
                        have g0 := HZw17u4.out.frozen 0
                        have g1 := HZw17u4.out.frozen 1
                        have g2 := HZw17u4.out.frozen 2
                        have H3 : Hid (Blk (((w17u4.setCell ⟨d17w.heap.size, 0, none⟩ (.int .i64 y.t)).setCell ⟨d17w.heap.size, 1, none⟩ (.int .i64 y.i)).setCell ⟨d17w.heap.size, 2, none⟩ (.string y.k)) d17w.heap.size #[.int .i64 y.t, .int .i64 y.i, .string y.k] 39 ∧ Frm w17u4 (((w17u4.setCell ⟨d17w.heap.size, 0, none⟩ (.int .i64 y.t)).setCell ⟨d17w.heap.size, 1, none⟩ (.int .i64 y.i)).setCell ⟨d17w.heap.size, 2, none⟩ (.string y.k)) (fun k => k = d17w.heap.size)) := set3 HZw17u4.out
                        have HBs17 : Hid (Below w1.heap.size w1 (((w17u4.setCell ⟨d17w.heap.size, 0, none⟩ (.int .i64 y.t)).setCell ⟨d17w.heap.size, 1, none⟩ (.int .i64 y.i)).setCell ⟨d17w.heap.size, 2, none⟩ (.string y.k))) := HBw17u4.out.trans (H3.out.2.below HBw17u4.out.size (fun k hk => by have := HLe.out; omega))
                        refine wpL_one 15 rfl (by kernel_rfl) (by rfl) ?_
                        intro K hK
                        go_simp
                        refine hK.out _ _ (fun _ => HBs17.out) ?_
                        clear hK K q0 q1 q2 g0 g1 g2 H3
                        generalize ((w17u4.setCell ⟨d17w.heap.size, 0, none⟩ (.int .i64 y.t)).setCell ⟨d17w.heap.size, 1, none⟩ (.int .i64 y.i)).setCell ⟨d17w.heap.size, 2, none⟩ (.string y.k) = ws17 at *
                        try simp only [Act.put, List.setIfInBounds_toArray, List.set_cons_zero, List.set_cons_succ]
                        refine wpL_take (v := ?_) 16 rfl (by kernel_rfl) (fun _ _ _ h => h) (by rfl) ?_ HBs17.out ?_
                        rotate_left
                        focus
                          intro w9 hw9

                          go_simp
                          try with_reducible rfl
                        try simp only [Act.put, List.setIfInBounds_toArray, List.set_cons_zero, List.set_cons_succ]
                        refine wpL_done (by kernel_rfl) ?_ _
                        try simp only [NoPanic]
                        clear HLe
                        have HIe := HBs17
                        clear HBs16
                        have hn5 : n ≤ 4096 := hn4
                        obtain ⟨a0, a1, a2, a3, a4⟩ := HDi.out ws17 HBs17.out
                        by_cases h3 : lv = 3
                        · subst h3
                          obtain rfl := HPbo.out rfl
                          obtain rfl := HPco.out (by omega)
                          go_wp2_with fail
                          go_roundw
                          case rel => exact ⟨k + 1, hki, by go_num, HIe⟩
                          case measure => simp [intOf]; omega
                        · by_cases h2 : 2 ≤ lv
                          · obtain rfl := HPco.out h2
                            go_wp2_with fail
                            go_roundw
                            case rel => exact ⟨k + 1, hki, by go_num, HIe⟩
                            case measure => simp [intOf]; omega
                          · have h2' : lv < 2 := by omega
                            clear h2
                            go_wp2_with fail
                            go_roundw
                            case rel => exact ⟨k + 1, hki, by go_num, HIe⟩
                            case measure => simp [intOf]; omega
                    · intro K hK
                      go_simp
                      have hal : Below d16w.heap.size d16w (d16w.alloc (.cells #[.int .i64 0, .int .i64 0, .string ⟨#[]⟩] 39)) := (Below.refl _ _).alloc (Nat.le_refl _) _
                      have HZw16u3 : Hid (Blk (d16w.alloc (.cells #[.int .i64 0, .int .i64 0, .string ⟨#[]⟩] 39)) d16w.heap.size #[.int .i64 0, .int .i64 0, .string ⟨#[]⟩] 39) := Blk.new d16w _ _
                      have HBw16u3 : Hid (Below w1.heap.size w1 (d16w.alloc (.cells #[.int .i64 0, .int .i64 0, .string ⟨#[]⟩] 39))) := HBd16.out.trans (hal.mono HBd16.out.size)
                      have HLe : Hid (w1.heap.size ≤ d16w.heap.size) := HBd16.out.size
                      clear hal
                      generalize (d16w.alloc (.cells #[.int .i64 0, .int .i64 0, .string ⟨#[]⟩] 39)) = w16u3 at *
                      refine hK.out _ _ (fun _ => HBw16u3.out) ?_
                      clear hK K
                      try simp only [Act.put, List.setIfInBounds_toArray, List.set_cons_zero, List.set_cons_succ]
                      refine wpL_one 10 rfl (by kernel_rfl) (by rfl) ?_
                      intro K hK
                      go_simp
                      refine (CQ.out w16u3 HBw16u3.out).mono ?_
                      rintro e w16u4 ⟨x, bo, hbo, rfl, hbw16u4⟩
                      have HPbo : Hid (lv = 3 → bo = false) := hbo
                      clear hbo
                      dsimp only
                      have HBw16u4 : Hid (Below w1.heap.size w1 w16u4) := HBw16u3.out.trans (hbw16u4.mono HBw16u3.out.size)
                      have HZw16u4 : Hid (Blk w16u4 d16w.heap.size #[.int .i64 0, .int .i64 0, .string ⟨#[]⟩] 39) := HZw16u3.out.on hbw16u4
                      clear hbw16u4
                      refine hK.out _ _ (fun _ => HBw16u4.out) ?_
                      clear hK K
                      try simp only [Act.put, List.setIfInBounds_toArray, List.set_cons_zero, List.set_cons_succ]
                      refine wpL_take (v := ?_) 11 rfl (by kernel_rfl) (fun _ _ _ h => h) (by rfl) ?_ HBw16u4.out ?_
                      rotate_left
                      focus
                        intro w9 hw9

                        go_simp
                        try with_reducible rfl
                      try simp only [Act.put, List.setIfInBounds_toArray, List.set_cons_zero, List.set_cons_succ]
                      refine wpL_take (v := ?_) 12 rfl (by kernel_rfl) (fun _ _ _ h => h) (by rfl) ?_ HBw16u4.out ?_
                      rotate_left
                      focus
                        intro w9 hw9

                        go_simp
                        try with_reducible rfl
                      try simp only [Act.put, List.setIfInBounds_toArray, List.set_cons_zero, List.set_cons_succ]
                      refine wpL_take (v := ?_) 13 rfl (by kernel_rfl) (fun _ _ _ h => h) (by rfl) ?_ HBw16u4.out ?_
                      rotate_left
                      focus
                        intro w9 hw9

                        go_simp
                        try with_reducible rfl
                      try simp only [Act.put, List.setIfInBounds_toArray, List.set_cons_zero, List.set_cons_succ]
                      have q0 := HZw16u4.out.cell (i := 0) rfl
                      have q1 := HZw16u4.out.cell (i := 1) rfl
                      have q2 := HZw16u4.out.cell (i := 2) rfl
                      have g0 := HZw16u4.out.frozen 0
                      have g1 := HZw16u4.out.frozen 1
                      have g2 := HZw16u4.out.frozen 2
                      have H3 : Hid (Blk (((w16u4.setCell ⟨d16w.heap.size, 0, none⟩ (.int .i64 x.t)).setCell ⟨d16w.heap.size, 1, none⟩ (.int .i64 x.i)).setCell ⟨d16w.heap.size, 2, none⟩ (.string x.k)) d16w.heap.size #[.int .i64 x.t, .int .i64 x.i, .string x.k] 39 ∧ Frm w16u4 (((w16u4.setCell ⟨d16w.heap.size, 0, none⟩ (.int .i64 x.t)).setCell ⟨d16w.heap.size, 1, none⟩ (.int .i64 x.i)).setCell ⟨d16w.heap.size, 2, none⟩ (.string x.k)) (fun k => k = d16w.heap.size)) := set3 HZw16u4.out
                      have HBs16 : Hid (Below w1.heap.size w1 (((w16u4.setCell ⟨d16w.heap.size, 0, none⟩ (.int .i64 x.t)).setCell ⟨d16w.heap.size, 1, none⟩ (.int .i64 x.i)).setCell ⟨d16w.heap.size, 2, none⟩ (.string x.k))) := HBw16u4.out.trans (H3.out.2.below HBw16u4.out.size (fun k hk => by have := HLe.out; omega))
                      refine wpL_one 15 rfl (by kernel_rfl) (by rfl) ?_
                      intro K hK
                      go_simp
                      refine hK.out _ _ (fun _ => HBs16.out) ?_
                      clear hK K q0 q1 q2 g0 g1 g2 H3
                      generalize ((w16u4.setCell ⟨d16w.heap.size, 0, none⟩ (.int .i64 x.t)).setCell ⟨d16w.heap.size, 1, none⟩ (.int .i64 x.i)).setCell ⟨d16w.heap.size, 2, none⟩ (.string x.k) = ws16 at *
                      try simp only [Act.put, List.setIfInBounds_toArray, List.set_cons_zero, List.set_cons_succ]
                      refine wpL_take (v := ?_) 16 rfl (by kernel_rfl) (fun _ _ _ h => h) (by rfl) ?_ HBs16.out ?_
                      rotate_left
                      focus
                        intro w9 hw9

                        go_simp
                        try with_reducible rfl
                      try simp only [Act.put, List.setIfInBounds_toArray, List.set_cons_zero, List.set_cons_succ]
                      refine wpL_done (by kernel_rfl) ?_ _
                      try simp only [NoPanic]
                      clear HLe
                      go_upto_region 17 with fail
                      refine wp_region_LB (fun w' => Below w1.heap.size w1 w') 17 (by kernel_rfl) (below_same HBs16.out rfl rfl rfl rfl) ?_
                      intro d17w hd17
                      have HBd17 : Hid (Below w1.heap.size w1 d17w) := hd17
                      clear hd17
                      refine wpL_take (v := ?_) 0 rfl (by kernel_rfl) (fun _ _ _ h => h) (by rfl) ?_ HBd17.out ?_
                      rotate_left
                      focus
                        intro w9 hw9
                        obtain ⟨a0, a1, a2, a3, a4⟩ := HDi.out w9 hw9
                        obtain ⟨b0, b1, b2, b3, b4⟩ := HDk.out w9 hw9
                        go_simp
                        try with_reducible rfl
                      try simp only [Act.put, List.setIfInBounds_toArray, List.set_cons_zero, List.set_cons_succ]
                      refine wpL_take (v := ?_) 1 rfl (by kernel_rfl) (fun _ _ _ h => h) (by rfl) ?_ HBd17.out ?_
                      rotate_left
                      focus
                        intro w9 hw9
                        obtain ⟨a0, a1, a2, a3, a4⟩ := HDi.out w9 hw9
                        obtain ⟨b0, b1, b2, b3, b4⟩ := HDk.out w9 hw9
                        go_simp
                        try with_reducible rfl
                      try simp only [Act.put, List.setIfInBounds_toArray, List.set_cons_zero, List.set_cons_succ]
                      refine wpL_take (v := ?_) 2 rfl (by kernel_rfl) (fun _ _ _ h => h) (by rfl) ?_ HBd17.out ?_
                      rotate_left
                      focus
                        intro w9 hw9
                        obtain ⟨a0, a1, a2, a3, a4⟩ := HDi.out w9 hw9
                        obtain ⟨b0, b1, b2, b3, b4⟩ := HDk.out w9 hw9
                        go_simp
                        try with_reducible rfl
                      try simp only [Act.put, List.setIfInBounds_toArray, List.set_cons_zero, List.set_cons_succ]
                      refine wpL_take (v := ?_) 3 rfl (by kernel_rfl) (fun _ _ _ h => h) (by rfl) ?_ HBd17.out ?_
                      rotate_left
                      focus
                        intro w9 hw9
                        obtain ⟨a0, a1, a2, a3, a4⟩ := HDi.out w9 hw9
                        obtain ⟨b0, b1, b2, b3, b4⟩ := HDk.out w9 hw9
                        go_simp
                        try with_reducible rfl
                      try simp only [Act.put, List.setIfInBounds_toArray, List.set_cons_zero, List.set_cons_succ]
                      refine wpL_take (v := ?_) 4 rfl (by kernel_rfl) (fun _ _ _ h => h) (by rfl) ?_ HBd17.out ?_
                      rotate_left
                      focus
                        intro w9 hw9
                        obtain ⟨a0, a1, a2, a3, a4⟩ := HDi.out w9 hw9
                        obtain ⟨b0, b1, b2, b3, b4⟩ := HDk.out w9 hw9
                        go_simp
                        try with_reducible rfl
                      try simp only [Act.put, List.setIfInBounds_toArray, List.set_cons_zero, List.set_cons_succ]
                      refine wpL_take (v := ?_) 5 rfl (by kernel_rfl) (fun _ _ _ h => h) (by rfl) ?_ HBd17.out ?_
                      rotate_left
                      focus
                        intro w9 hw9
                        obtain ⟨a0, a1, a2, a3, a4⟩ := HDi.out w9 hw9
                        obtain ⟨b0, b1, b2, b3, b4⟩ := HDk.out w9 hw9
                        go_simp
                        try with_reducible rfl
                      try simp only [Act.put, List.setIfInBounds_toArray, List.set_cons_zero, List.set_cons_succ]
                      refine wpL_take (v := ?_) 6 rfl (by kernel_rfl) (fun _ _ _ h => h) (by rfl) ?_ HBd17.out ?_
                      rotate_left
                      focus
                        intro w9 hw9
                        obtain ⟨a0, a1, a2, a3, a4⟩ := HDi.out w9 hw9
                        obtain ⟨b0, b1, b2, b3, b4⟩ := HDk.out w9 hw9
                        go_simp
                        try with_reducible rfl
                      try simp only [Act.put, List.setIfInBounds_toArray, List.set_cons_zero, List.set_cons_succ]
                      refine wpL_take (v := ?_) 7 rfl (by kernel_rfl) (fun _ _ _ h => h) (by rfl) ?_ HBd17.out ?_
                      rotate_left
                      focus
                        intro w9 hw9
                        obtain ⟨a0, a1, a2, a3, a4⟩ := HDi.out w9 hw9
                        obtain ⟨b0, b1, b2, b3, b4⟩ := HDk.out w9 hw9
                        go_simp
                        try with_reducible rfl
                      try simp only [Act.put, List.setIfInBounds_toArray, List.set_cons_zero, List.set_cons_succ]
                      refine wpL_take (v := ?_) 8 rfl (by kernel_rfl) (fun _ _ _ h => h) (by rfl) ?_ HBd17.out ?_
                      rotate_left
                      focus
                        intro w9 hw9
                        obtain ⟨a0, a1, a2, a3, a4⟩ := HDi.out w9 hw9
                        obtain ⟨b0, b1, b2, b3, b4⟩ := HDk.out w9 hw9
                        go_simp
                        try with_reducible rfl
                      try simp only [Act.put, List.setIfInBounds_toArray, List.set_cons_zero, List.set_cons_succ]
                      refine wpL_take (v := ?_) 9 rfl (by kernel_rfl) (fun _ _ _ h => h) (by rfl) ?_ HBd17.out ?_
                      rotate_left
                      focus
                        intro w9 hw9
                        obtain ⟨a0, a1, a2, a3, a4⟩ := HDi.out w9 hw9
                        obtain ⟨b0, b1, b2, b3, b4⟩ := HDk.out w9 hw9
                        go_simp
                        try with_reducible rfl
                      try simp only [Act.put, List.setIfInBounds_toArray, List.set_cons_zero, List.set_cons_succ]
                      refine wpL_two18 10 14 rfl rfl (by kernel_rfl) (by rfl) (by rfl) ?_ ?_
                      · intro K hK
                        go_simp
                        refine (CB.out d17w HBd17.out).mono ?_
                        rintro e w17u1 ⟨y, co, hco, rfl, hbw17u1⟩
                        have HPco : Hid (2 ≤ lv → co = false) := hco
                        clear hco
                        dsimp only
                        have HBw17u1 : Hid (Below w1.heap.size w1 w17u1) := HBd17.out.trans (hbw17u1.mono HBd17.out.size)
                        clear hbw17u1
                        refine hK.out _ _ (fun _ => HBw17u1.out) ?_
                        clear hK K
                        try simp only [Act.put, List.setIfInBounds_toArray, List.set_cons_zero, List.set_cons_succ]
                        refine wpL_take (v := ?_) 11 rfl (by kernel_rfl) (fun _ _ _ h => h) (by rfl) ?_ HBw17u1.out ?_
                        rotate_left
                        focus
                          intro w9 hw9

                          go_simp
                          try with_reducible rfl
                        try simp only [Act.put, List.setIfInBounds_toArray, List.set_cons_zero, List.set_cons_succ]
                        refine wpL_take (v := ?_) 12 rfl (by kernel_rfl) (fun _ _ _ h => h) (by rfl) ?_ HBw17u1.out ?_
                        rotate_left
                        focus
                          intro w9 hw9

                          go_simp
                          try with_reducible rfl
                        try simp only [Act.put, List.setIfInBounds_toArray, List.set_cons_zero, List.set_cons_succ]
                        refine wpL_take (v := ?_) 13 rfl (by kernel_rfl) (fun _ _ _ h => h) (by rfl) ?_ HBw17u1.out ?_
                        rotate_left
                        focus
                          intro w9 hw9

                          go_simp
                          try with_reducible rfl
                        try simp only [Act.put, List.setIfInBounds_toArray, List.set_cons_zero, List.set_cons_succ]
                        refine wpL_one 14 rfl (by kernel_rfl) (by rfl) ?_
                        intro K hK
                        go_simp
                        have hal : Below w17u1.heap.size w17u1 (w17u1.alloc (.cells #[.int .i64 0, .int .i64 0, .string ⟨#[]⟩] 39)) := (Below.refl _ _).alloc (Nat.le_refl _) _
                        have HZw17u2 : Hid (Blk (w17u1.alloc (.cells #[.int .i64 0, .int .i64 0, .string ⟨#[]⟩] 39)) w17u1.heap.size #[.int .i64 0, .int .i64 0, .string ⟨#[]⟩] 39) := Blk.new w17u1 _ _
                        have HBw17u2 : Hid (Below w1.heap.size w1 (w17u1.alloc (.cells #[.int .i64 0, .int .i64 0, .string ⟨#[]⟩] 39))) := HBw17u1.out.trans (hal.mono HBw17u1.out.size)
                        have HLe : Hid (w1.heap.size ≤ w17u1.heap.size) := HBw17u1.out.size
                        clear hal
                        generalize (w17u1.alloc (.cells #[.int .i64 0, .int .i64 0, .string ⟨#[]⟩] 39)) = w17u2 at *
                        refine hK.out _ _ (fun _ => HBw17u2.out) ?_
                        clear hK K
                        try simp only [Act.put, List.setIfInBounds_toArray, List.set_cons_zero, List.set_cons_succ]
                        have q0 := HZw17u2.out.cell (i := 0) rfl
                        have q1 := HZw17u2.out.cell (i := 1) rfl
                        have q2 := HZw17u2.out.cell (i := 2) rfl
                        have g0 := HZw17u2.out.frozen 0
                        have g1 := HZw17u2.out.frozen 1
                        have g2 := HZw17u2.out.frozen 2
                        have H3 : Hid (Blk (((w17u2.setCell ⟨w17u1.heap.size, 0, none⟩ (.int .i64 y.t)).setCell ⟨w17u1.heap.size, 1, none⟩ (.int .i64 y.i)).setCell ⟨w17u1.heap.size, 2, none⟩ (.string y.k)) w17u1.heap.size #[.int .i64 y.t, .int .i64 y.i, .string y.k] 39 ∧ Frm w17u2 (((w17u2.setCell ⟨w17u1.heap.size, 0, none⟩ (.int .i64 y.t)).setCell ⟨w17u1.heap.size, 1, none⟩ (.int .i64 y.i)).setCell ⟨w17u1.heap.size, 2, none⟩ (.string y.k)) (fun k => k = w17u1.heap.size)) := set3 HZw17u2.out
                        have HBs17 : Hid (Below w1.heap.size w1 (((w17u2.setCell ⟨w17u1.heap.size, 0, none⟩ (.int .i64 y.t)).setCell ⟨w17u1.heap.size, 1, none⟩ (.int .i64 y.i)).setCell ⟨w17u1.heap.size, 2, none⟩ (.string y.k))) := HBw17u2.out.trans (H3.out.2.below HBw17u2.out.size (fun k hk => by have := HLe.out; omega))
                        refine wpL_one 15 rfl (by kernel_rfl) (by rfl) ?_
                        intro K hK
                        go_simp
                        refine hK.out _ _ (fun _ => HBs17.out) ?_
                        clear hK K q0 q1 q2 g0 g1 g2 H3
                        generalize ((w17u2.setCell ⟨w17u1.heap.size, 0, none⟩ (.int .i64 y.t)).setCell ⟨w17u1.heap.size, 1, none⟩ (.int .i64 y.i)).setCell ⟨w17u1.heap.size, 2, none⟩ (.string y.k) = ws17 at *
                        try simp only [Act.put, List.setIfInBounds_toArray, List.set_cons_zero, List.set_cons_succ]
                        refine wpL_take (v := ?_) 16 rfl (by kernel_rfl) (fun _ _ _ h => h) (by rfl) ?_ HBs17.out ?_
                        rotate_left
                        focus
                          intro w9 hw9

                          go_simp
                          try with_reducible rfl
                        try simp only [Act.put, List.setIfInBounds_toArray, List.set_cons_zero, List.set_cons_succ]
                        refine wpL_done (by kernel_rfl) ?_ _
                        try simp only [NoPanic]
                        clear HLe
                        have HIe := HBs17
                        clear HBs16
                        have hn5 : n ≤ 4096 := hn4
                        obtain ⟨a0, a1, a2, a3, a4⟩ := HDi.out ws17 HBs17.out
                        by_cases h3 : lv = 3
                        · subst h3
                          obtain rfl := HPbo.out rfl
                          obtain rfl := HPco.out (by omega)
                          go_wp2_with fail
                          go_roundw
                          case rel => exact ⟨k + 1, hki, by go_num, HIe⟩
                          case measure => simp [intOf]; omega
                        · by_cases h2 : 2 ≤ lv
                          · obtain rfl := HPco.out h2
                            go_wp2_with fail
                            go_roundw
                            case rel => exact ⟨k + 1, hki, by go_num, HIe⟩
                            case measure => simp [intOf]; omega
                          · have h2' : lv < 2 := by omega
                            clear h2
                            go_wp2_with fail
                            go_roundw
                            case rel => exact ⟨k + 1, hki, by go_num, HIe⟩
                            case measure => simp [intOf]; omega
                      · intro K hK
                        go_simp
                        have hal : Below d17w.heap.size d17w (d17w.alloc (.cells #[.int .i64 0, .int .i64 0, .string ⟨#[]⟩] 39)) := (Below.refl _ _).alloc (Nat.le_refl _) _
                        have HZw17u3 : Hid (Blk (d17w.alloc (.cells #[.int .i64 0, .int .i64 0, .string ⟨#[]⟩] 39)) d17w.heap.size #[.int .i64 0, .int .i64 0, .string ⟨#[]⟩] 39) := Blk.new d17w _ _
                        have HBw17u3 : Hid (Below w1.heap.size w1 (d17w.alloc (.cells #[.int .i64 0, .int .i64 0, .string ⟨#[]⟩] 39))) := HBd17.out.trans (hal.mono HBd17.out.size)
                        have HLe : Hid (w1.heap.size ≤ d17w.heap.size) := HBd17.out.size
                        clear hal
                        generalize (d17w.alloc (.cells #[.int .i64 0, .int .i64 0, .string ⟨#[]⟩] 39)) = w17u3 at *
                        refine hK.out _ _ (fun _ => HBw17u3.out) ?_
                        clear hK K
                        try simp only [Act.put, List.setIfInBounds_toArray, List.set_cons_zero, List.set_cons_succ]
                        refine wpL_one 10 rfl (by kernel_rfl) (by rfl) ?_
                        intro K hK
                        go_simp
                        refine (CB.out w17u3 HBw17u3.out).mono ?_
                        rintro e w17u4 ⟨y, co, hco, rfl, hbw17u4⟩
                        have HPco : Hid (2 ≤ lv → co = false) := hco
                        clear hco
                        dsimp only
                        have HBw17u4 : Hid (Below w1.heap.size w1 w17u4) := HBw17u3.out.trans (hbw17u4.mono HBw17u3.out.size)
                        have HZw17u4 : Hid (Blk w17u4 d17w.heap.size #[.int .i64 0, .int .i64 0, .string ⟨#[]⟩] 39) := HZw17u3.out.on hbw17u4
                        clear hbw17u4
                        refine hK.out _ _ (fun _ => HBw17u4.out) ?_
                        clear hK K
                        try simp only [Act.put, List.setIfInBounds_toArray, List.set_cons_zero, List.set_cons_succ]
                        refine wpL_take (v := ?_) 11 rfl (by kernel_rfl) (fun _ _ _ h => h) (by rfl) ?_ HBw17u4.out ?_
                        rotate_left
                        focus
                          intro w9 hw9

                          go_simp
                          try with_reducible rfl
                        try simp only [Act.put, List.setIfInBounds_toArray, List.set_cons_zero, List.set_cons_succ]
                        refine wpL_take (v := ?_) 12 rfl (by kernel_rfl) (fun _ _ _ h => h) (by rfl) ?_ HBw17u4.out ?_
                        rotate_left
                        focus
                          intro w9 hw9

                          go_simp
                          try with_reducible rfl
                        try simp only [Act.put, List.setIfInBounds_toArray, List.set_cons_zero, List.set_cons_succ]
                        refine wpL_take (v := ?_) 13 rfl (by kernel_rfl) (fun _ _ _ h => h) (by rfl) ?_ HBw17u4.out ?_
                        rotate_left
                        focus
                          intro w9 hw9

                          go_simp
                          try with_reducible rfl
                        try simp only [Act.put, List.setIfInBounds_toArray, List.set_cons_zero, List.set_cons_succ]
                        have q0 := HZw17u4.out.cell (i := 0) rfl
                        have q1 := HZw17u4.out.cell (i := 1) rfl
                        have q2 := HZw17u4.out.cell (i := 2) rfl
                        have g0 := HZw17u4.out.frozen 0
                        have g1 := HZw17u4.out.frozen 1
                        have g2 := HZw17u4.out.frozen 2
                        have H3 : Hid (Blk (((w17u4.setCell ⟨d17w.heap.size, 0, none⟩ (.int .i64 y.t)).setCell ⟨d17w.heap.size, 1, none⟩ (.int .i64 y.i)).setCell ⟨d17w.heap.size, 2, none⟩ (.string y.k)) d17w.heap.size #[.int .i64 y.t, .int .i64 y.i, .string y.k] 39 ∧ Frm w17u4 (((w17u4.setCell ⟨d17w.heap.size, 0, none⟩ (.int .i64 y.t)).setCell ⟨d17w.heap.size, 1, none⟩ (.int .i64 y.i)).setCell ⟨d17w.heap.size, 2, none⟩ (.string y.k)) (fun k => k = d17w.heap.size)) := set3 HZw17u4.out
                        have HBs17 : Hid (Below w1.heap.size w1 (((w17u4.setCell ⟨d17w.heap.size, 0, none⟩ (.int .i64 y.t)).setCell ⟨d17w.heap.size, 1, none⟩ (.int .i64 y.i)).setCell ⟨d17w.heap.size, 2, none⟩ (.string y.k))) := HBw17u4.out.trans (H3.out.2.below HBw17u4.out.size (fun k hk => by have := HLe.out; omega))
                        refine wpL_one 15 rfl (by kernel_rfl) (by rfl) ?_
                        intro K hK
                        go_simp
                        refine hK.out _ _ (fun _ => HBs17.out) ?_
                        clear hK K q0 q1 q2 g0 g1 g2 H3
                        generalize ((w17u4.setCell ⟨d17w.heap.size, 0, none⟩ (.int .i64 y.t)).setCell ⟨d17w.heap.size, 1, none⟩ (.int .i64 y.i)).setCell ⟨d17w.heap.size, 2, none⟩ (.string y.k) = ws17 at *
                        try simp only [Act.put, List.setIfInBounds_toArray, List.set_cons_zero, List.set_cons_succ]
                        refine wpL_take (v := ?_) 16 rfl (by kernel_rfl) (fun _ _ _ h => h) (by rfl) ?_ HBs17.out ?_
                        rotate_left
                        focus
                          intro w9 hw9

                          go_simp
                          try with_reducible rfl
                        try simp only [Act.put, List.setIfInBounds_toArray, List.set_cons_zero, List.set_cons_succ]
                        refine wpL_done (by kernel_rfl) ?_ _
                        try simp only [NoPanic]
                        clear HLe
                        have HIe := HBs17
                        clear HBs16
                        have hn5 : n ≤ 4096 := hn4
                        obtain ⟨a0, a1, a2, a3, a4⟩ := HDi.out ws17 HBs17.out
                        by_cases h3 : lv = 3
                        · subst h3
                          obtain rfl := HPbo.out rfl
                          obtain rfl := HPco.out (by omega)
                          go_wp2_with fail
                          go_roundw
                          case rel => exact ⟨k + 1, hki, by go_num, HIe⟩
                          case measure => simp [intOf]; omega
                        · by_cases h2 : 2 ≤ lv
                          · obtain rfl := HPco.out h2
                            go_wp2_with fail
                            go_roundw
                            case rel => exact ⟨k + 1, hki, by go_num, HIe⟩
                            case measure => simp [intOf]; omega
                          · have h2' : lv < 2 := by omega
                            clear h2
                            go_wp2_with fail
                            go_roundw
                            case rel => exact ⟨k + 1, hki, by go_num, HIe⟩
                            case measure => simp [intOf]; omega
                · have hk4 : i ≤ 4096 := by omega
                  have HEk : Hid (¬ erk = 0) := hek
                  clear hkF hkA HSk hek
                  go_wp2_with fail
                  have hek := HEk.out
                  have hek2 : decide (erk = 0) = false := decide_eq_false hek
                  have hek3 : (erk == 0) = false := by simp [hek]
                  have hek4 : decide (¬ erk = 0) = true := decide_eq_true hek
                  have hek5 : (!decide (erk = 0)) = true := by simp [hek]
                  have hek6 : (erk != 0) = true := by simp [hek]
                  go_quiet (fail)
                  go_wp2_with fail
                  go_roundw
                  case rel => exact ⟨k + 1, hki, by go_num, below_same HW.out rfl rfl rfl rfl⟩
                  case measure => simp [intOf]; omega
          · clear heri hiA hiF
            go_wp2_with fail
            go_roundw
            case rel => exact ⟨i + 1, hi1, by go_num, HW⟩
            case measure => simp [intOf]; omega

end Go.Proofs.YtcknhjabdjbjiaaGreat
