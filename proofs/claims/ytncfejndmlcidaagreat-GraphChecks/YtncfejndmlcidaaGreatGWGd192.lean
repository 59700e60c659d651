/- Layer 19, the document's side: may a version be read? Layer 19, the document's side: has an action no parts that its kind has not? -/
import Derived.Test.YtncfejndmlcidaaGreatGWGr3
namespace Go.Proofs.YtncfejndmlcidaaGreat
open Go.RowKit
set_option maxRecDepth 100000

/-- may a version be read, as the document says it? -/
def thD (H : List Ac) (t fr nt : Int) (x : ByteArray) : Bool :=
  !(decide (fr < 0) || decide (nt < 0) || ((fr == 0) != (nt == 0)) || (decide (fr > 0) && decide ((wr H fr x : Int) < nt))) && ((wr H t x : Int) == 0 || (fr == t && nt == (wr H t x : Int)))
theorem wr_low {H : List Ac} (hH : ∀ a ∈ H, 1 ≤ a.tx) {t : Int} (ht : t < 1) (x : ByteArray) : wr H t x = 0 := by
  unfold wr
  rw [List.countP_eq_zero]
  intro a ha h
  unfold isW at h
  simp only [Bool.and_eq_true, decide_eq_true_eq, beq_iff_eq] at h
  have := hH a ha
  omega
/-- it is the same -/
theorem thD_eq {H : List Ac} (hH : ∀ a ∈ H, 1 ≤ a.tx) {t : Int} (ht : 1 ≤ t) (fr nt : Int) (x : ByteArray) : thD H t fr nt x = thB H t ⟨x, fr, nt⟩ := by
  unfold thD thB
  dsimp only
  rw [Bool.eq_iff_iff]
  by_cases h0 : 0 < wr H t x
  · rw [if_pos h0]
    simp only [Bool.and_eq_true, Bool.not_eq_true', Bool.or_eq_false_iff, decide_eq_false_iff_not, bne_eq_false_iff_eq, Bool.and_eq_false_iff, Bool.or_eq_true, beq_iff_eq]
    constructor
    · rintro ⟨_, h | h⟩
      · omega
      · exact h
    · rintro ⟨rfl, rfl⟩
      refine ⟨⟨⟨⟨by omega, by omega⟩, ?_⟩, .inr (by omega)⟩, .inr ⟨rfl, rfl⟩⟩
      rw [Bool.eq_iff_iff, beq_iff_eq, beq_iff_eq]
      omega
  · rw [if_neg h0]
    have e0 : wr H t x = 0 := by omega
    by_cases hf : fr = 0
    · rw [if_pos hf, e0, hf]
      simp only [Bool.and_eq_true, Bool.not_eq_true', Bool.or_eq_false_iff, decide_eq_false_iff_not, bne_eq_false_iff_eq, Bool.and_eq_false_iff, Bool.or_eq_true, beq_iff_eq]
      constructor
      · rintro ⟨⟨⟨_, h⟩, _⟩, _⟩
        have := h.symm
        simpa using this
      · rintro rfl
        simp
    · rw [if_neg hf, e0]
      simp only [Bool.and_eq_true, Bool.not_eq_true', Bool.or_eq_false_iff, decide_eq_false_iff_not, bne_eq_false_iff_eq, Bool.and_eq_false_iff, Bool.or_eq_true, beq_iff_eq, decide_eq_true_eq]
      have hq : (fr == 0) = false := by simpa using hf
      constructor
      · rintro ⟨⟨⟨⟨h1, h2⟩, h3⟩, h4⟩, _⟩
        rw [hq] at h3
        have h5 : nt ≠ 0 := by simpa using h3.symm
        omega
      · rintro ⟨h1, h2⟩
        have hn : 1 ≤ fr := Decidable.byContradiction (fun h => by
          have := wr_low hH (t := fr) (by omega) x
          omega)
        have hq2 : (nt == 0) = false := by
          have : nt ≠ 0 := by omega
          simpa using this
        exact ⟨⟨⟨⟨by omega, by omega⟩, by rw [hq, hq2]⟩, .inr (by omega)⟩, .inl rfl⟩
set_option maxHeartbeats 8000000 in
theorem there_any (B : Nat) (v : Value) (Z : List (Ac × Value)) (w : World) (h : RdH B w v Z) (n : Nat) (hn : n < Z.length) (x : ByteArray) (fr nt : Int) :
    Calls Tryz.prog 45 #[v, .int .i64 (n : Nat), .string x, .int .i64 fr, .int .i64 nt] w fun e w' => e = .returned (.bool (thD ((Z.map (·.1)).take n) Z[n].1.tx fr nt x)) ∧ w' = w := by
  have CW : Hid (∀ t : Int, Calls Tryz.prog 39 #[v, .int .i64 (n : Nat), .int .i64 t, .string x] w fun e w' => e = .returned (.int .i64 (wr ((Z.map (·.1)).take n) t x : Nat)) ∧ w' = w) := fun t => writes_any B v Z w h n (by omega) t x
  obtain ⟨p, c, rfl, hpc, hp0, -⟩ := h.sl.f
  have hll : Z.length ≤ 1172812402961 := h.ll
  obtain ⟨b, o, q, d, rfl, hb, e8, hd, k0, -, -, -, -, -, -, -, -, -⟩ := h.at n hn
  generalize (Z.map (·.1)).take n = H at *
  generalize Z[n].1.tx = t at *
  clear h hb e8 hd hp0
  generalize Z.length = l at *
  obtain ⟨R, hR⟩ : ∃ R, thD H t fr nt x = R := ⟨_, rfl⟩
  obtain ⟨m1, hm1⟩ : ∃ m, wr H fr x = m := ⟨_, rfl⟩
  obtain ⟨m2, hm2⟩ : ∃ m, wr H t x = m := ⟨_, rfl⟩
  have HRR : Hid ((!(decide (fr < 0) || decide (nt < 0) || ((fr == 0) != (nt == 0)) || (decide (fr > 0) && decide ((m1 : Int) < nt))) && ((m2 : Int) == 0 || (fr == t && nt == (m2 : Int)))) = R) := by rw [← hm1, ← hm2]; exact hR
  have C1 : Hid (Calls Tryz.prog 39 #[.slice (some ⟨b, o, none⟩) l c, .int .i64 (n : Nat), .int .i64 fr, .string x] w fun e w' => e = .returned (.int .i64 (m1 : Nat)) ∧ w' = w) := by rw [← hm1]; exact CW.out fr
  have C2 : Hid (Calls Tryz.prog 39 #[.slice (some ⟨b, o, none⟩) l c, .int .i64 (n : Nat), .int .i64 t, .string x] w fun e w' => e = .returned (.int .i64 (m2 : Nat)) ∧ w' = w) := by rw [← hm2]; exact CW.out t
  rw [hR]
  clear hR hm1 hm2 CW
  go_enter Tryz.func45, Tryz.ntmps45
  by_cases c1 : fr < 0
  · skip
    obtain rfl : R = false := by rw [← HRR.out]; simp [c1]
    go_wp2_with (first | (go_at_call 39; refine C1.out.mono ?_; rintro e w1 ⟨rfl, hw1⟩; obtain rfl := hw1.symm))
    go_ret
    exact ⟨rfl, rfl⟩
  · by_cases c2 : nt < 0
    · skip
      obtain rfl : R = false := by rw [← HRR.out]; simp [c1, c2]
      go_wp2_with (first | (go_at_call 39; refine C1.out.mono ?_; rintro e w1 ⟨rfl, hw1⟩; obtain rfl := hw1.symm))
      go_ret
      exact ⟨rfl, rfl⟩
    · by_cases e1 : fr = 0
      · have r1 : (fr == 0) = true := by simpa using e1
        have g1 : ¬ fr > 0 := by omega
        by_cases e2 : nt = 0
        · have r2 : (nt == 0) = true := by simpa using e2
          clear e1 e2
          go_upto_region 3 with (first | (go_at_call 39; refine C1.out.mono ?_; rintro e w1 ⟨rfl, hw1⟩; obtain rfl := hw1.symm))
          by_cases o0 : (m2 : Int) = 0
          · have q0 : ((m2 : Int) == 0) = true := by simpa using o0
            obtain rfl : R = true := by rw [← HRR.out]; simp [c1, c2, r1, r2, g1, o0]
            go_wp2_with (first | (go_at_call 39; refine C2.out.mono ?_; rintro e w1 ⟨rfl, hw1⟩; obtain rfl := hw1.symm))
            go_ret
            exact ⟨rfl, rfl⟩
          · have q0 : ((m2 : Int) == 0) = false := by simpa using o0
            by_cases o1 : fr = t
            · have q1 : (fr == t) = true := by simpa using o1
              by_cases o2 : nt = (m2 : Int)
              · have q2 : (nt == (m2 : Int)) = true := by simpa using o2
                obtain rfl : R = true := by rw [← HRR.out]; simp [c1, c2, r1, r2, g1, q0, q1, q2]
                go_wp2_with (first | (go_at_call 39; refine C2.out.mono ?_; rintro e w1 ⟨rfl, hw1⟩; obtain rfl := hw1.symm))
                go_ret
                exact ⟨rfl, rfl⟩
              · have q2 : (nt == (m2 : Int)) = false := by simpa using o2
                obtain rfl : R = false := by rw [← HRR.out]; simp [c1, c2, r1, r2, g1, q0, q1, q2]
                go_wp2_with (first | (go_at_call 39; refine C2.out.mono ?_; rintro e w1 ⟨rfl, hw1⟩; obtain rfl := hw1.symm))
                go_ret
                exact ⟨rfl, rfl⟩
            · have q1 : (fr == t) = false := by simpa using o1
              obtain rfl : R = false := by rw [← HRR.out]; simp [c1, c2, r1, r2, g1, q0, q1]
              go_wp2_with (first | (go_at_call 39; refine C2.out.mono ?_; rintro e w1 ⟨rfl, hw1⟩; obtain rfl := hw1.symm))
              go_ret
              exact ⟨rfl, rfl⟩
        · have r2 : (nt == 0) = false := by simpa using e2
          clear e1 e2
          obtain rfl : R = false := by rw [← HRR.out]; simp [c1, c2, r1, r2]
          go_wp2_with (first | (go_at_call 39; refine C1.out.mono ?_; rintro e w1 ⟨rfl, hw1⟩; obtain rfl := hw1.symm))
          go_ret
          exact ⟨rfl, rfl⟩
      · have r1 : (fr == 0) = false := by simpa using e1
        have g1 : fr > 0 := by omega
        by_cases e2 : nt = 0
        · have r2 : (nt == 0) = true := by simpa using e2
          clear e1 e2
          obtain rfl : R = false := by rw [← HRR.out]; simp [c1, c2, r1, r2]
          go_wp2_with (first | (go_at_call 39; refine C1.out.mono ?_; rintro e w1 ⟨rfl, hw1⟩; obtain rfl := hw1.symm))
          go_ret
          exact ⟨rfl, rfl⟩
        · have r2 : (nt == 0) = false := by simpa using e2
          clear e1 e2
          by_cases g2 : (m1 : Int) < nt
          · skip
            obtain rfl : R = false := by rw [← HRR.out]; simp [c1, c2, r1, r2, g1, g2]
            go_wp2_with (first | (go_at_call 39; refine C1.out.mono ?_; rintro e w1 ⟨rfl, hw1⟩; obtain rfl := hw1.symm))
            go_ret
            exact ⟨rfl, rfl⟩
          · skip
            go_upto_region 3 with (first | (go_at_call 39; refine C1.out.mono ?_; rintro e w1 ⟨rfl, hw1⟩; obtain rfl := hw1.symm))
            by_cases o0 : (m2 : Int) = 0
            · have q0 : ((m2 : Int) == 0) = true := by simpa using o0
              obtain rfl : R = true := by rw [← HRR.out]; simp [c1, c2, r1, r2, g1, g2, o0]
              go_wp2_with (first | (go_at_call 39; refine C2.out.mono ?_; rintro e w1 ⟨rfl, hw1⟩; obtain rfl := hw1.symm))
              go_ret
              exact ⟨rfl, rfl⟩
            · have q0 : ((m2 : Int) == 0) = false := by simpa using o0
              by_cases o1 : fr = t
              · have q1 : (fr == t) = true := by simpa using o1
                by_cases o2 : nt = (m2 : Int)
                · have q2 : (nt == (m2 : Int)) = true := by simpa using o2
                  obtain rfl : R = true := by rw [← HRR.out]; simp [c1, c2, r1, r2, g1, g2, q0, q1, q2]
                  go_wp2_with (first | (go_at_call 39; refine C2.out.mono ?_; rintro e w1 ⟨rfl, hw1⟩; obtain rfl := hw1.symm))
                  go_ret
                  exact ⟨rfl, rfl⟩
                · have q2 : (nt == (m2 : Int)) = false := by simpa using o2
                  obtain rfl : R = false := by rw [← HRR.out]; simp [r1, r2, g1, q0, q1, q2]
                  go_wp2_with (first | (go_at_call 39; refine C2.out.mono ?_; rintro e w1 ⟨rfl, hw1⟩; obtain rfl := hw1.symm))
                  go_ret
                  exact ⟨rfl, rfl⟩
              · have q1 : (fr == t) = false := by simpa using o1
                obtain rfl : R = false := by rw [← HRR.out]; simp [r1, r2, g1, q0, q1]
                go_wp2_with (first | (go_at_call 39; refine C2.out.mono ?_; rintro e w1 ⟨rfl, hw1⟩; obtain rfl := hw1.symm))
                go_ret
                exact ⟨rfl, rfl⟩

end Go.Proofs.YtncfejndmlcidaaGreat

namespace Go.Proofs.YtncfejndmlcidaaGreat
open Go.RowKit
set_option maxRecDepth 100000

def barB (a : Ac) : Bool := (a.kd == 2 || a.kd == 4 || decide (a.it = ⟨#[]⟩)) && (a.kd == 2 || (a.fr == 0 && a.nt == 0)) && (a.kd == 3 || (decide (a.lo = ⟨#[]⟩) && decide (a.hi = ⟨#[]⟩) && !a.op && decide (a.sn.length = 0))) && (a.kd == 1 || a.kd == 5 || a.st == 0)
theorem fmB_bar (a : Ac) : fmB a = (decide (1 ≤ a.kd) && decide (a.kd ≤ 6) && decide (1 ≤ a.tx) && barB a) := by
  unfold fmB barB
  simp only [Bool.and_assoc]
theorem run_neqRg (l h : ByteArray) (o : Bool) (l' h' : ByteArray) (o' : Bool) (w : World) : (binOp .neq 47 (.agg #[.string l, .string h, .bool o]) (.agg #[.string l', .string h', .bool o'])).run Tryz.prog w = .ok (.bool (!(decide (l = l') && (decide (h = h') && (o == o'))))) w := by
  rw [run_neq_struct, run_eqInR]
  rfl
set_option maxHeartbeats 4000000 in
theorem bare_any (a : Ac) (q : Option Addr) (d : Nat) (w : World) : Calls Tryz.prog 44 #[aggA a (.slice q a.sn.length d)] w fun e w' => e = .returned (.bool (barB a)) ∧ Below w.heap.size w w' := by
  have hgd := run_eqGR
  obtain ⟨N, hN⟩ : ∃ N, (!(decide (a.lo = ⟨#[]⟩) && (decide (a.hi = ⟨#[]⟩) && (a.op == false)))) = N := ⟨_, rfl⟩
  have HN : Hid ((!(decide (a.lo = ⟨#[]⟩) && (decide (a.hi = ⟨#[]⟩) && (a.op == false)))) = N) := hN
  have heq : ∀ w : World, (binOp .neq 47 (.agg #[.string a.lo, .string a.hi, .bool a.op]) (.agg #[.string ⟨#[]⟩, .string ⟨#[]⟩, .bool false])).run Tryz.prog w = .ok (.bool N) w := fun w => by rw [run_neqRg, hN]
  clear hN
  by_cases h1 : a.kd = 1
  · skip
    cases N
    all_goals go_enter Tryz.func44, Tryz.ntmps44
    all_goals go_wp2_with fail
    all_goals go_ret
    all_goals (refine ⟨?_, by go_grown⟩)
    all_goals unfold barB
    all_goals clear heq hgd
    all_goals have hN := HN.out
    all_goals clear HN
    all_goals simp_all [emp_iff]
    all_goals (intros; first | omega | (intro e; simp_all; done) | (simp_all; done) | (exfalso; simp_all; done))
  by_cases h2 : a.kd = 2
  · skip
    cases N
    all_goals go_enter Tryz.func44, Tryz.ntmps44
    all_goals go_wp2_with fail
    all_goals go_ret
    all_goals (refine ⟨?_, by go_grown⟩)
    all_goals unfold barB
    all_goals clear heq hgd
    all_goals have hN := HN.out
    all_goals clear HN
    all_goals simp_all [natbeq]
    all_goals (intros; first | omega | (intro e; simp_all; done) | (simp_all; done) | (exfalso; simp_all; done))
  by_cases h3 : a.kd = 3
  · skip
    cases N
    all_goals go_enter Tryz.func44, Tryz.ntmps44
    all_goals go_wp2_with fail
    all_goals go_ret
    all_goals (refine ⟨?_, by go_grown⟩)
    all_goals unfold barB
    all_goals clear heq hgd
    all_goals have hN := HN.out
    all_goals clear HN
    all_goals simp_all [natbeq, emp_iff]
    all_goals (intros; first | omega | (intro e; simp_all; done) | (simp_all; done) | (exfalso; simp_all; done))
  by_cases h4 : a.kd = 4
  · skip
    cases N
    all_goals go_enter Tryz.func44, Tryz.ntmps44
    all_goals go_wp2_with fail
    all_goals go_ret
    all_goals (refine ⟨?_, by go_grown⟩)
    all_goals unfold barB
    all_goals clear heq hgd
    all_goals have hN := HN.out
    all_goals clear HN
    all_goals simp_all [natbeq]
    all_goals (intros; first | omega | (intro e; simp_all; done) | (simp_all; done) | (exfalso; simp_all; done))
  by_cases h5 : a.kd = 5
  · skip
    cases N
    all_goals go_enter Tryz.func44, Tryz.ntmps44
    all_goals go_wp2_with fail
    all_goals go_ret
    all_goals (refine ⟨?_, by go_grown⟩)
    all_goals unfold barB
    all_goals clear heq hgd
    all_goals have hN := HN.out
    all_goals clear HN
    all_goals simp_all [emp_iff]
    all_goals (intros; first | omega | (intro e; simp_all; done) | (simp_all; done) | (exfalso; simp_all; done))
  cases N
  all_goals go_enter Tryz.func44, Tryz.ntmps44
  all_goals go_wp2_with fail
  all_goals go_ret
  all_goals (refine ⟨?_, by go_grown⟩)
  all_goals unfold barB
  all_goals clear heq hgd
  all_goals have hN := HN.out
  all_goals clear HN
  all_goals simp_all [natbeq, emp_iff]
  all_goals (intros; first | omega | (intro e; simp_all; done) | (simp_all; done) | (exfalso; simp_all; done))

end Go.Proofs.YtncfejndmlcidaaGreat
