/- The walk of sorted at a nil slice. The walk of Union. The walk of the document's Union. -/
import Derived.Test.YtcjpindbplppgaaDoorGWSorted
namespace Go.Proofs.YtcjpindbplppgaaDoor
open Go.Shelf Go.RowKit Go.Lib Go.Sort
set_option maxRecDepth 100000

set_option maxHeartbeats 2000000 in
theorem insN_any (fv : Value) (w : World) : Calls Tryd.prog 62 #[.slice none 0 0, .int .i64 0, .int .i64 0, fv] w fun e w' => e = .returned (.tuple #[]) ∧ w' = w := by
  go_enter Tryd.func62, Tryd.ntmps62
  go_wp2
  refine wp_loop_rounds 1 ?_
  rw [rounds_succ]
  go_wp2
  go_end0
  exact ⟨rfl, rfl⟩

set_option maxHeartbeats 2000000 in
theorem pdqN_any (lim : Int) (fv : Value) (w : World) : Calls Tryd.prog 53 #[.slice none 0 0, .int .i64 0, .int .i64 0, .int .i64 lim, fv] w fun e w' => e = .returned (.tuple #[]) ∧ w' = w := by
  have hi := fun W => insN_any fv W
  go_enter Tryd.func53, Tryd.ntmps53
  go_wp2
  refine wp_loop_rounds 1 ?_
  rw [rounds_succ]
  go_wp2_with (go_at_call 62; refine (hi _).mono ?_; rintro e w' ⟨rfl, rfl⟩)
  (try simp only [Exit.inBlock, Exit.then]); refine bodyPost_ret (results_none rfl _ _ _) rfl ?_
  exact ⟨rfl, rfl⟩

set_option maxHeartbeats 2000000 in
theorem lenN_any (w : World) : Calls Tryd.prog 54 #[.int .u64 0] w fun e w' => e = .returned (.int .i64 0) ∧ w' = w := by
  have e0 : Lib.bitLen 0 = 0 := by decide
  have hl : ∀ W, Calls Tryd.prog 57 #[.int .u64 0] W fun e w' => e = .returned (.int .i64 0) ∧ w' = W := fun W => by
    have h := len64_any 0 W (by omega)
    rw [e0] at h
    exact h
  clear e0
  go_enter Tryd.func54, Tryd.ntmps54
  go_wp2_with (first | (go_at_call 57; refine (hl _).mono ?_; rintro e w' ⟨rfl, rfl⟩))
  go_ret
  exact ⟨rfl, rfl⟩

set_option maxHeartbeats 2000000 in
theorem sortN_any (fv : Value) (w : World) : Calls Tryd.prog 34 #[.slice none 0 0, fv] w fun e w' => e = .returned (.tuple #[]) ∧ w' = w := by
  have hp := fun lim W => pdqN_any lim fv W
  have hl := lenN_any
  go_enter Tryd.func34, Tryd.ntmps34
  go_wp2_with (first | (go_at_call 54; refine (hl _).mono ?_; rintro e w' ⟨rfl, rfl⟩) | (go_at_call 53; refine (hp _ _).mono ?_; rintro e w' ⟨rfl, rfl⟩))
  go_end0
  exact ⟨rfl, rfl⟩

set_option maxHeartbeats 2000000 in
theorem cloneN_any (w : World) : Calls Tryd.prog 32 #[.slice none 0 0] w fun e w' => e = .returned (.slice none 0 0) ∧ Below w.heap.size w w' := by
  go_enter Tryd.func32, Tryd.ntmps32
  have hnil := fun w1 : World => Lib.run_eql_slice_nil (P := Tryd.prog) w1 23 35 none 0 0 0 0 Tryd.underlying23
  simp only [Option.isNone_none] at hnil
  go_wp2
  go_ret
  exact ⟨rfl, by go_grown⟩

set_option maxHeartbeats 2000000 in
theorem deleteN_any (w : World) : Calls Tryd.prog 31 #[.slice none 0 0, .func (.func 33) #[] #[]] w fun e w' => e = .returned (.slice none 0 0) ∧ Below w.heap.size w w' := by
  have hi := fun W => indexF_any [] none 0 W (fun i hi => absurd hi (by simp)) (by simp)
  simp only [firstI, List.length_nil, if_true] at hi
  go_enter Tryd.func31, Tryd.ntmps31
  go_wp2_with (first | (go_at_call 51; refine (hi _).mono ?_; rintro e w5 ⟨rfl, hb5⟩))
  go_ret
  exact ⟨rfl, hb5⟩

set_option maxHeartbeats 2000000 in
theorem sortedN_any (w : World) : Calls Tryd.prog 14 #[.slice none 0 0] w fun e w' => e = .returned (.slice none 0 0) ∧ Below w.heap.size w w' := by
  go_enter Tryd.func14, Tryd.ntmps14
  go_wp2_with (first
    | (go_at_call 32; refine (cloneN_any _).mono ?_; rintro e w1 ⟨rfl, hb1⟩)
    | (go_at_call 31; refine (deleteN_any _).mono ?_; rintro e w2 ⟨rfl, hb2⟩)
    | (go_at_call 34; refine (sortN_any _ _).mono ?_; rintro e w3 ⟨rfl, rfl⟩))
  go_ret
  exact ⟨rfl, hb1.trans (hb2.mono hb1.size)⟩

/-- sorted, whatever it is given -/
theorem sorted_all (L : List Rg) (p : Option Addr) (c : Nat) (w : World) (hR : RowR w w.heap.size p L) (hlen : L.length ≤ 3518437208784) (hc : L.length ≤ c) (hp : p = none → c = 0) :
    Calls Tryd.prog 14 #[.slice p L.length c] w fun e w' => ∃ (p : Option Addr) (c' : Nat) (R : List Rg), e = .returned (.slice p R.length c') ∧ RowR w' w'.heap.size p R ∧ Rising R ∧ (∀ r, r ∈ R ↔ r ∈ keepL L) ∧ R.length ≤ L.length ∧ RowKit.Below w.heap.size w w' := by
  cases p with
  | some a => exact sorted_any L a c w hR hlen hc
  | none =>
    obtain rfl := hp rfl
    obtain rfl : L = [] := List.eq_nil_of_length_eq_zero (by omega)
    refine (sortedN_any w).mono ?_
    rintro e w' ⟨rfl, hb⟩
    exact ⟨none, 0, [], rfl, fun i hi => absurd hi (by simp), List.Pairwise.nil, fun r => by simp [keepL], Nat.le_refl _, hb⟩

end Go.Proofs.YtcjpindbplppgaaDoor

namespace Go.Proofs.YtcjpindbplppgaaDoor
open Go.RowKit
set_option maxRecDepth 100000

theorem OwnR.last {w : World} {B g n cap : Nat} {V : List Rg} {a : Rg} (h : OwnR w B (.slice (some ⟨g, 0, none⟩) (n + 1) cap) (V ++ [a])) (hn : V.length = n) :
    (w.cell? ⟨g, n * 3, none⟩ = some (.string a.lo) ∧ w.cell? ⟨g, n * 3 + 1, none⟩ = some (.string a.hi) ∧ w.cell? ⟨g, n * 3 + 2, none⟩ = some (.bool a.op)) ∧
    (w.frozen? ⟨g, n * 3, none⟩ = false ∧ w.frozen? ⟨g, n * 3 + 1, none⟩ = false ∧ w.frozen? ⟨g, n * 3 + 2, none⟩ = false) := by
  subst hn
  have e : (V ++ [a]).length = V.length + 1 := by simp
  rw [← e] at h
  have h1 := h.at V.length (by simp)
  simpa using h1
theorem OwnR.setLast {w : World} {B g n cap : Nat} {V : List Rg} {a : Rg} (h : OwnR w B (.slice (some ⟨g, 0, none⟩) (n + 1) cap) (V ++ [a])) (hn : V.length = n) (r : Rg) :
    OwnR (((w.setCell ⟨g, n * 3, none⟩ (.string r.lo)).setCell ⟨g, n * 3 + 1, none⟩ (.string r.hi)).setCell ⟨g, n * 3 + 2, none⟩ (.bool r.op)) B (.slice (some ⟨g, 0, none⟩) (n + 1) cap) (V ++ [r]) := by
  subst hn
  have e : (V ++ [a]).length = V.length + 1 := by simp
  have h1 := h
  rw [← e] at h1
  have h2 := h1.set V.length (by simp) r
  have e2 : (V ++ [a]).set V.length r = V ++ [r] := by simp
  rw [e2, e] at h2
  exact h2
/-- what is held while a range is joined: the last range's cells, the range's box -/
abbrev S1U (w : World) (g n : Nat) (al ah rl rh : ByteArray) (ao ro : Bool) (w' : World) : Prop :=
  w'.cell? ⟨g, n * 3, none⟩ = some (.string al) ∧ w'.cell? ⟨g, n * 3 + 1, none⟩ = some (.string ah) ∧ w'.cell? ⟨g, n * 3 + 2, none⟩ = some (.bool ao) ∧
  w'.cell? ⟨w.heap.size, 0, none⟩ = some (.string rl) ∧ w'.cell? ⟨w.heap.size, 1, none⟩ = some (.string rh) ∧ w'.cell? ⟨w.heap.size, 2, none⟩ = some (.bool ro) ∧
  w.heap.size + 1 ≤ w'.heap.size ∧ Below w.heap.size w w'
theorem keepS1U {w : World} {g n : Nat} {al ah rl rh : ByteArray} {ao ro : Bool} {B : Nat} {wp w' : World} (hb : Below B wp w') (h : S1U w g n al ah rl rh ao ro wp) (hg : g < w.heap.size) (hB : B = wp.heap.size ∨ w.heap.size + 1 ≤ B) : S1U w g n al ah rl rh ao ro w' := by
  obtain ⟨h1, h2, h3, h4, h5, h6, hz, hw⟩ := h
  have := hb.size
  have hk : w.heap.size + 1 ≤ B := by omega
  have o : ∀ {b o : Nat} {v : Option Value}, b < w.heap.size + 1 → wp.cell? ⟨b, o, none⟩ = v → w'.cell? ⟨b, o, none⟩ = v := fun {b o v} hb' hc => (hb.cell (p := ⟨b, o, none⟩) (by show b < B; omega)).trans hc
  exact ⟨o (by omega) h1, o (by omega) h2, o (by omega) h3, o (by omega) h4, o (by omega) h5, o (by omega) h6, by omega, hw.trans (hb.mono (by omega))⟩
theorem startS1U {w : World} {g n : Nat} {al ah : ByteArray} {ao : Bool} (rl rh : ByteArray) (ro : Bool) (h1 : w.cell? ⟨g, n * 3, none⟩ = some (.string al)) (h2 : w.cell? ⟨g, n * 3 + 1, none⟩ = some (.string ah)) (h3 : w.cell? ⟨g, n * 3 + 2, none⟩ = some (.bool ao)) (hg : g < w.heap.size) :
    S1U w g n al ah rl rh ao ro (w.alloc (.cells #[.string rl, .string rh, .bool ro] 35)).drew := by
  have hb : Below w.heap.size w (w.alloc (.cells #[.string rl, .string rh, .bool ro] 35)).drew := by go_grown
  have o : ∀ {o : Nat} {v : Option Value}, w.cell? ⟨g, o, none⟩ = v → (w.alloc (.cells #[.string rl, .string rh, .bool ro] 35)).drew.cell? ⟨g, o, none⟩ = v := fun {o v} hc => (hb.cell (p := ⟨g, o, none⟩) hg).trans hc
  refine ⟨o h1, o h2, o h3, ?_, ?_, ?_, by simp, hb⟩
  all_goals simp [go_sem]

set_option maxHeartbeats 4000000 in
theorem union_any (L : List Rg) (p : Option Addr) (c : Nat) (w : World) (hR : RowR w w.heap.size p L) (hlen : L.length ≤ 3518437208784) (hc : L.length ≤ c) (hp : p = none → c = 0) :
    Calls Tryd.prog 7 #[.slice p L.length c] w fun e w' => ∃ v R, e = .returned v ∧ OwnR w' w.heap.size v (R.foldl stepU []) ∧ Rising R ∧ (∀ r, r ∈ R ↔ r ∈ keepL L) ∧ R.length ≤ L.length ∧ Below w.heap.size w w' := by
  have C1 : Hid (Calls _ _ _ _ _) := sorted_all L p c w hR hlen hc hp
  clear hR
  go_enter Tryd.func7, Tryd.ntmps7
  go_wp2_with fail
  refine C1.out.mono ?_
  rintro e w1 ⟨p1, c1, R, rfl, hR, hrise, hmem, hl, hb1⟩
  have HB1 : Hid (Below _ _ _) := hb1
  have HF : Hid (Rising R ∧ (∀ r, r ∈ R ↔ r ∈ keepL L)) := ⟨hrise, hmem⟩
  have HA : Hid (RowR _ _ _ _) := hR
  have hz1 := hb1.size
  clear C1 hR hrise hmem hb1
  go_wp2_with fail
  go_loopw [3, 10] (fun u i wr => ∃ j : Nat, j ≤ R.length ∧ i = .int .i64 (j : Int) ∧ Hid (OwnR wr w1.heap.size u ((R.take j).foldl stepU [])) ∧ Below w1.heap.size w1 wr) (fun _ i _ => R.length - (intOf i).toNat)
  case atStart => exact ⟨0, Nat.zero_le _, by go_num, OwnR.nil _ _, by go_grown⟩
  case round =>
    obtain ⟨j, hj, rfl, hO, hn⟩ := hrel
    by_cases hj0 : j = R.length
    · subst hj0
      rw [List.take_length] at hO
      go_wp2
      go_ret
      exact ⟨_, R, rfl, hO.out.mono (by omega), HF.out.1, HF.out.2, hl, HB1.out.trans (hn.mono hz1)⟩
    · have hj1 : j < R.length := by omega
      obtain ⟨b, o, rfl, hbB, d0, d1, d2⟩ := HA.out j hj1
      have a0 := (hn.cell (p := ⟨b, o + j * 3, none⟩) hbB).trans d0
      have a1 := (hn.cell (p := ⟨b, o + j * 3 + 1, none⟩) hbB).trans d1
      have a2 := (hn.cell (p := ⟨b, o + j * 3 + 2, none⟩) hbB).trans d2
      have HS : Hid ((R.take (j + 1)).foldl stepU [] = stepU ((R.take j).foldl stepU []) R[j]) := foldU_snoc R j hj1
      have hul := foldU_len (R.take j) []
      simp only [List.length_nil, Nat.zero_add, List.length_take] at hul
      generalize (R.take j).foldl stepU [] = U at *
      generalize R[j] = r at *
      obtain ⟨rl, rh, ro⟩ := r
      dsimp only at a0 a1 a2
      rcases List.eq_nil_or_concat U with rfl | ⟨V, a, rfl⟩
      · rw [stepU_nil] at HS
        have CP : Hid (∀ w1 : World, Calls Tryd.prog 17 #[.agg #[.string rl, .string rh, .bool ro]] w1 fun e w' => e = .returned (.agg #[.string (Rg.pl ⟨rl, rh, ro⟩).lo, .string (Rg.pl ⟨rl, rh, ro⟩).hi, .bool (Rg.pl ⟨rl, rh, ro⟩).op]) ∧ Below w1.heap.size w1 w') := fun w1 => plainR_any ⟨rl, rh, ro⟩ w1
        generalize Rg.pl ⟨rl, rh, ro⟩ = q at *
        obtain ⟨ql, qh, qo⟩ := q
        dsimp only at CP
        rcases hO.out.form with ⟨rfl, _⟩ | ⟨g, cap, rfl, hg1, hg2⟩
        · skip
          go_wp2_with fail
          go_quiet (fail)
          have hq : Below wr.heap.size wr ((wr.alloc (Obj.cells #[Value.string rl, Value.string rh, Value.bool ro] 35)).drewN nq) := (show Below wr.heap.size wr (wr.alloc (Obj.cells #[Value.string rl, Value.string rh, Value.bool ro] 35)) by go_grown).trans ((below_drewN _ _).mono (by simp))
          go_wp2_with (first | (go_at_call 17; refine (CP.out _).mono ?_; rintro e w5 ⟨rfl, hb5⟩; have hq5 := hq.trans (hb5.mono hq.size)) | (at_builtin; refine wpList_appR _ rfl (.tmp 36) _ rfl w1.heap.size _ _ rfl (hO.out.kept (hq5)) ⟨ql, qh, qo⟩ _ rfl (by simp) (by simp only [List.length_nil]; omega) (by have := hb5.size; have := hn.size; simp at *; omega) ?_; intro v6 w6 h6 h7))
          go_roundw
          case rel => exact ⟨j + 1, hj1, by go_num, (show OwnR _ _ _ _ by rw [HS.out]; exact h6), (hn.trans (hq5.mono hn.size)).trans h7⟩
          case measure => simp [intOf]; omega
        · skip
          go_wp2_with fail
          go_quiet (fail)
          have hq : Below wr.heap.size wr ((wr.alloc (Obj.cells #[Value.string rl, Value.string rh, Value.bool ro] 35)).drewN nq) := (show Below wr.heap.size wr (wr.alloc (Obj.cells #[Value.string rl, Value.string rh, Value.bool ro] 35)) by go_grown).trans ((below_drewN _ _).mono (by simp))
          go_wp2_with (first | (go_at_call 17; refine (CP.out _).mono ?_; rintro e w5 ⟨rfl, hb5⟩; have hq5 := hq.trans (hb5.mono hq.size)) | (at_builtin; refine wpList_appR _ rfl (.tmp 36) _ rfl w1.heap.size _ _ rfl (hO.out.kept (hq5)) ⟨ql, qh, qo⟩ _ rfl (by simp) (by simp only [List.length_nil]; omega) (by have := hb5.size; have := hn.size; simp at *; omega) ?_; intro v6 w6 h6 h7))
          go_roundw
          case rel => exact ⟨j + 1, hj1, by go_num, (show OwnR _ _ _ _ by rw [HS.out]; exact h6), (hn.trans (hq5.mono hn.size)).trans h7⟩
          case measure => simp [intOf]; omega
      · obtain ⟨al, ah, ao⟩ := a
        simp only [List.concat_eq_append] at *
        rcases hO.out.form with ⟨rfl, h0⟩ | ⟨g, cap, rfl, hg1, hg2⟩
        · simp at h0
        · obtain ⟨n, hVn⟩ : ∃ n, V.length = n := ⟨_, rfl⟩
          have hVl : (V ++ [(⟨al, ah, ao⟩ : Rg)]).length = n + 1 := by simp [hVn]
          rw [hVl] at hO hul
          have hV := hO.out.last hVn
          dsimp only at hV
          have CT : Hid (∀ w1 : World, Calls _ _ _ _ _) := fun w1 => touches_any ⟨al, ah, ao⟩ ⟨rl, rh, ro⟩ w1
          obtain ⟨⟨b0, b1, b2⟩, f0, f1, f2⟩ := hV
          have n0 : (0 : Int) ≤ (n : Int) := by omega
          have n1 : (n : Int) < (n : Int) + 1 := by omega
          rw [stepU_snoc] at HS
          have CJ : Hid (∀ w1 : World, Calls Tryd.prog 16 #[.agg #[.string al, .string ah, .bool ao], .agg #[.string rl, .string rh, .bool ro]] w1 fun e w' => e = .returned (.agg #[.string (joinR ⟨al, ah, ao⟩ ⟨rl, rh, ro⟩).lo, .string (joinR ⟨al, ah, ao⟩ ⟨rl, rh, ro⟩).hi, .bool (joinR ⟨al, ah, ao⟩ ⟨rl, rh, ro⟩).op]) ∧ Below w1.heap.size w1 w') := fun w1 => joined_any ⟨al, ah, ao⟩ ⟨rl, rh, ro⟩ w1
          have CP : Hid (∀ w1 : World, Calls Tryd.prog 17 #[.agg #[.string rl, .string rh, .bool ro]] w1 fun e w' => e = .returned (.agg #[.string (Rg.pl ⟨rl, rh, ro⟩).lo, .string (Rg.pl ⟨rl, rh, ro⟩).hi, .bool (Rg.pl ⟨rl, rh, ro⟩).op]) ∧ Below w1.heap.size w1 w') := fun w1 => plainR_any ⟨rl, rh, ro⟩ w1
          generalize touchB ⟨al, ah, ao⟩ ⟨rl, rh, ro⟩ = tb at *
          cases tb
          · simp only [Bool.false_eq_true, if_false] at HS
            clear CJ
            generalize Rg.pl ⟨rl, rh, ro⟩ = q at *
            obtain ⟨ql, qh, qo⟩ := q
            dsimp only at CP
            go_wp2_with fail
            go_region_held3 (fun w' => S1U wr g n al ah rl rh ao ro w') (first | exact startS1U rl rh ro b0 b1 b2 hg2 | (apply keepS1U; assumption; assumption; exact hg2; first | exact Or.inl rfl | exact Or.inr (Nat.le_refl _) | exact Or.inr (by simp))) (first | (go_at_call 15; refine (CT.out _).mono ?_; rintro e w' ⟨rfl, hb⟩))
            have hS : S1U wr g n al ah rl rh ao ro w' := by assumption
            obtain ⟨e0, e1, e2, x0, x1, x2, hz, hbw⟩ := hS
            go_wp2_with (first | (go_at_call 17; refine (CP.out _).mono ?_; rintro e w5 ⟨rfl, hb5⟩; have hq5 := hbw.trans (hb5.mono hbw.size)) | (at_builtin; refine wpList_appR _ rfl (.tmp 36) _ rfl w1.heap.size _ _ rfl (hO.out.kept (hq5)) ⟨ql, qh, qo⟩ _ rfl (by simp) (by simp only [List.length_append, List.length_singleton]; omega) (by have := hb5.size; have := hn.size; simp at *; omega) ?_; intro v6 w6 h6 h7))
            go_roundw
            case rel => exact ⟨j + 1, hj1, by go_num, (show OwnR _ _ _ _ by rw [HS.out]; exact h6), (hn.trans (hq5.mono hn.size)).trans h7⟩
            case measure => simp [intOf]; omega
          · simp only [if_true] at HS
            clear CP
            generalize joinR ⟨al, ah, ao⟩ ⟨rl, rh, ro⟩ = q at *
            obtain ⟨ql, qh, qo⟩ := q
            dsimp only at CJ
            go_wp2_with fail
            go_region_held3 (fun w' => S1U wr g n al ah rl rh ao ro w') (first | exact startS1U rl rh ro b0 b1 b2 hg2 | (apply keepS1U; assumption; assumption; exact hg2; first | exact Or.inl rfl | exact Or.inr (Nat.le_refl _) | exact Or.inr (by simp))) (first | (go_at_call 15; refine (CT.out _).mono ?_; rintro e w' ⟨rfl, hb⟩))
            have hS : S1U wr g n al ah rl rh ao ro w' := by assumption
            obtain ⟨e0, e1, e2, x0, x1, x2, hz, hbw⟩ := hS
            have k0 := (hbw.frozen (p := ⟨g, n * 3, none⟩) hg2).trans f0
            have k1 := (hbw.frozen (p := ⟨g, n * 3 + 1, none⟩) hg2).trans f1
            have k2 := (hbw.frozen (p := ⟨g, n * 3 + 2, none⟩) hg2).trans f2
            go_wp2_with fail
            go_region_with (go_at_call 16; refine (CJ.out _).mono ?_; rintro e w7 ⟨rfl, hb7⟩; have hq7 : Below wr.heap.size wr w7 := (by first | exact hbw.trans (hb7.mono hbw.size) | exact hbw.drew.trans (hb7.mono hbw.size)); have l0 := (hb7.cell (p := ⟨g, n * 3, none⟩) (by show g < _; simp; omega)).trans e0; have l1 := (hb7.cell (p := ⟨g, n * 3 + 1, none⟩) (by show g < _; simp; omega)).trans e1; have l2 := (hb7.cell (p := ⟨g, n * 3 + 2, none⟩) (by show g < _; simp; omega)).trans e2; have m0 := (hb7.frozen (p := ⟨g, n * 3, none⟩) (by show g < _; simp; omega)).trans k0; have m1 := (hb7.frozen (p := ⟨g, n * 3 + 1, none⟩) (by show g < _; simp; omega)).trans k1; have m2 := (hb7.frozen (p := ⟨g, n * 3 + 2, none⟩) (by show g < _; simp; omega)).trans k2)
            all_goals
              have hq8 : OwnR _ _ _ _ := (hO.out.kept hq7).setLast hVn ⟨ql, qh, qo⟩
              go_wp2_with fail
              go_roundw
              case rel => exact ⟨j + 1, hj1, by go_num, (show OwnR _ _ _ _ by rw [HS.out]; exact hq8), (((hn.trans (hq7.mono hn.size)).setCell hg1 _).setCell hg1 _).setCell hg1 _⟩
              case measure => simp [intOf]; omega

end Go.Proofs.YtcjpindbplppgaaDoor

namespace Go.Proofs.YtcjpindbplppgaaDoor
open Go.RowKit
set_option maxRecDepth 100000

theorem OwnR.form1 {w : World} {B : Nat} {v : Value} {L : List Rg} {n : Nat} (h : OwnR w B v L) (hl : L.length = n + 1) : ∃ g cap, v = .slice (some ⟨g, 0, none⟩) (n + 1) cap ∧ B ≤ g ∧ g < w.heap.size := by
  rcases h.form with ⟨_, rfl⟩ | ⟨g, cap, rfl, h1, h2⟩
  · simp at hl
  · exact ⟨g, cap, by rw [hl], h1, h2⟩
theorem OwnR.at' {w : World} {B g n cap : Nat} {L : List Rg} (h : OwnR w B (.slice (some ⟨g, 0, none⟩) n cap) L) (hn : L.length = n) (i : Nat) (hi : i < L.length) :
    (w.cell? ⟨g, i * 3, none⟩ = some (.string L[i].lo) ∧ w.cell? ⟨g, i * 3 + 1, none⟩ = some (.string L[i].hi) ∧ w.cell? ⟨g, i * 3 + 2, none⟩ = some (.bool L[i].op)) ∧
    (w.frozen? ⟨g, i * 3, none⟩ = false ∧ w.frozen? ⟨g, i * 3 + 1, none⟩ = false ∧ w.frozen? ⟨g, i * 3 + 2, none⟩ = false) := by
  subst hn; exact h.at i hi
theorem OwnR.set' {w : World} {B g n cap : Nat} {L : List Rg} (h : OwnR w B (.slice (some ⟨g, 0, none⟩) n cap) L) (hn : L.length = n) (i : Nat) (hi : i < L.length) (r : Rg) :
    OwnR (((w.setCell ⟨g, i * 3, none⟩ (.string r.lo)).setCell ⟨g, i * 3 + 1, none⟩ (.string r.hi)).setCell ⟨g, i * 3 + 2, none⟩ (.bool r.op)) B (.slice (some ⟨g, 0, none⟩) n cap) (L.set i r) := by
  subst hn; exact h.set i hi r

theorem rcells_setHi : ∀ (L : List Rg) (i : Nat) (h : ByteArray) (hi : i < L.length), rcells (L.set i ⟨L[i].lo, h, L[i].op⟩) = (rcells L).set (i * 3 + 1) (.string h)
  | [], i, h, hi => by simp at hi
  | v :: L, 0, h, _ => rfl
  | v :: L, i + 1, h, hi => by
    have ih := rcells_setHi L i h (by simpa using hi)
    have e : (i + 1) * 3 + 1 = i * 3 + 1 + 3 := by omega
    have e2 : (v :: L)[i + 1] = L[i]'(by simpa using hi) := rfl
    rw [e2, List.set_cons_succ, rcells_cons, rcells_cons, e, ih]
    rfl
theorem rcells_setOp : ∀ (L : List Rg) (i : Nat) (h : Bool) (hi : i < L.length), rcells (L.set i ⟨L[i].lo, L[i].hi, h⟩) = (rcells L).set (i * 3 + 2) (.bool h)
  | [], i, h, hi => by simp at hi
  | v :: L, 0, h, _ => rfl
  | v :: L, i + 1, h, hi => by
    have ih := rcells_setOp L i h (by simpa using hi)
    have e : (i + 1) * 3 + 2 = i * 3 + 2 + 3 := by omega
    have e2 : (v :: L)[i + 1] = L[i]'(by simpa using hi) := rfl
    rw [e2, List.set_cons_succ, rcells_cons, rcells_cons, e, ih]
    rfl
theorem OwnR.setHi {w : World} {B g n cap : Nat} {L : List Rg} (h : OwnR w B (.slice (some ⟨g, 0, none⟩) n cap) L) (hn : L.length = n) (i : Nat) (hi : i < L.length) (x : ByteArray) :
    OwnR (w.setCell ⟨g, i * 3 + 1, none⟩ (.string x)) B (.slice (some ⟨g, 0, none⟩) n cap) (L.set i ⟨L[i].lo, x, L[i].op⟩) := by
  subst hn
  have h' : w.ownsRow B 35 3 (.slice (some ⟨g, 0, none⟩) L.length cap) L.length (rcells L) := h
  have h3 := (h'.stored (i * 3 + 1) (.string x)).1
  unfold OwnR
  rw [List.length_set, rcells_setHi L i x hi]
  exact h3
theorem OwnR.setOp {w : World} {B g n cap : Nat} {L : List Rg} (h : OwnR w B (.slice (some ⟨g, 0, none⟩) n cap) L) (hn : L.length = n) (i : Nat) (hi : i < L.length) (x : Bool) :
    OwnR (w.setCell ⟨g, i * 3 + 2, none⟩ (.bool x)) B (.slice (some ⟨g, 0, none⟩) n cap) (L.set i ⟨L[i].lo, L[i].hi, x⟩) := by
  subst hn
  have h' : w.ownsRow B 35 3 (.slice (some ⟨g, 0, none⟩) L.length cap) L.length (rcells L) := h
  have h3 := (h'.stored (i * 3 + 2) (.bool x)).1
  unfold OwnR
  rw [List.length_set, rcells_setOp L i x hi]
  exact h3
theorem OwnR.join {w : World} {B g n cap : Nat} {V : List Rg} {a : Rg} (h : OwnR w B (.slice (some ⟨g, 0, none⟩) (n + 1) cap) (V ++ [a])) (hn : V.length = n) (x : ByteArray) (y : Bool) :
    OwnR ((w.setCell ⟨g, n * 3 + 1, none⟩ (.string x)).setCell ⟨g, n * 3 + 2, none⟩ (.bool y)) B (.slice (some ⟨g, 0, none⟩) (n + 1) cap) (V ++ [⟨a.lo, x, y⟩]) := by
  subst hn
  have h1 := h.setHi (by simp) V.length (by simp) x
  have e1 : (V ++ [a]).set V.length ⟨((V ++ [a])[V.length]'(by simp)).lo, x, ((V ++ [a])[V.length]'(by simp)).op⟩ = V ++ [⟨a.lo, x, a.op⟩] := by simp
  rw [e1] at h1
  have h2 := h1.setOp (by simp) V.length (by simp) y
  have e2 : (V ++ [(⟨a.lo, x, a.op⟩ : Rg)]).set V.length ⟨((V ++ [(⟨a.lo, x, a.op⟩ : Rg)])[V.length]'(by simp)).lo, ((V ++ [(⟨a.lo, x, a.op⟩ : Rg)])[V.length]'(by simp)).hi, y⟩ = V ++ [⟨a.lo, x, y⟩] := by simp
  rw [e2] at h2
  exact h2
/-- the end that does not matter, struck out of the first k -/
def plK (U : List Rg) (k : Nat) : List Rg := (U.take k).map Rg.pl ++ U.drop k
theorem plK_zero (U : List Rg) : plK U 0 = U := by simp [plK]
theorem plK_all (U : List Rg) : plK U U.length = U.map Rg.pl := by simp [plK]
theorem plK_len (U : List Rg) (k : Nat) : (plK U k).length = U.length := by simp [plK]; omega
theorem plK_at (U : List Rg) (k : Nat) (hk : k < U.length) : (plK U k)[k]'(by rw [plK_len]; exact hk) = U[k] := by
  unfold plK
  rw [List.getElem_append_right (by simp; omega)]
  simp [Nat.min_eq_left (Nat.le_of_lt hk)]
theorem setmid (A : List Rg) (u v : Rg) (D : List Rg) (k : Nat) (h : A.length = k) : (A ++ u :: D).set k v = A ++ v :: D := by subst h; simp
theorem plK_succ (U : List Rg) (k : Nat) (hk : k < U.length) : plK U (k + 1) = (plK U k).set k U[k].pl := by
  have e1 : U.take (k + 1) = U.take k ++ [U[k]] := (List.take_append_getElem hk).symm
  have e2 : U.drop k = U[k] :: U.drop (k + 1) := List.drop_eq_getElem_cons hk
  have e3 : ((U.take k).map Rg.pl).length = k := by simp; omega
  unfold plK
  rw [e1, e2, setmid _ _ _ _ _ e3, List.map_append, List.append_assoc]
  rfl
/-- what is held while two ranges are held against each other: their cells -/
abbrev S2U (w : World) (g m b o : Nat) (al ah rl rh : ByteArray) (ao ro : Bool) (w' : World) : Prop :=
  w'.cell? ⟨g, m, none⟩ = some (.string al) ∧ w'.cell? ⟨g, m + 1, none⟩ = some (.string ah) ∧ w'.cell? ⟨g, m + 2, none⟩ = some (.bool ao) ∧
  w'.cell? ⟨b, o, none⟩ = some (.string rl) ∧ w'.cell? ⟨b, o + 1, none⟩ = some (.string rh) ∧ w'.cell? ⟨b, o + 2, none⟩ = some (.bool ro) ∧ Below w.heap.size w w'
theorem keepS2U {w : World} {g m b o : Nat} {al ah rl rh : ByteArray} {ao ro : Bool} {B : Nat} {wp w' : World} (hb : Below B wp w') (h : S2U w g m b o al ah rl rh ao ro wp) (hg : g < w.heap.size) (hb0 : b < w.heap.size) (hB : B = wp.heap.size) : S2U w g m b o al ah rl rh ao ro w' := by
  obtain ⟨h1, h2, h3, h4, h5, h6, hw⟩ := h
  have := hw.size
  have o : ∀ {b o : Nat} {v : Option Value}, b < w.heap.size → wp.cell? ⟨b, o, none⟩ = v → w'.cell? ⟨b, o, none⟩ = v := fun {b o v} hb' hc => (hb.cell (p := ⟨b, o, none⟩) (by show b < B; omega)).trans hc
  exact ⟨o hg h1, o hg h2, o hg h3, o hb0 h4, o hb0 h5, o hb0 h6, hw.trans (hb.mono (by omega))⟩



end Go.Proofs.YtcjpindbplppgaaDoor
