/- Layer 13: does. -/
import Derived.Test.YtcdamalpecedcaaGreatWGl3
namespace Go.Proofs.YtcdamalpecedcaaGreat
open Go.RowKit
set_option maxRecDepth 100000

theorem map_erase {A B : Type} (f : A → B) (L : List A) (i : Nat) : (L.map f).eraseIdx i = (L.eraseIdx i).map f := by
  rw [List.eraseIdx_eq_take_drop_succ, List.eraseIdx_eq_take_drop_succ, List.map_append, List.map_take, List.map_drop]
theorem wrap_u64 (nn : Int) : ∃ tn : Nat, IntKind.u64.wrap nn = (tn : Int) := by
  refine ⟨(IntKind.u64.wrap nn).toNat, ?_⟩
  have : 0 ≤ IntKind.u64.wrap nn := by unfold IntKind.wrap; simp [IntKind.bits, IntKind.signed]; omega
  omega
/-- the contracts of Give, of a ticket -/
theorem give_both (gb ls tn : Nat) (v : Value) (Y : List Tkr) (D : List Dk) (w : World) (h : PG w gb ls v Y D) : ∃ (ec : Int) (M : List (Nat × List Hd)),
    (∀ w', DkL w' 0 v D → Calls Tryz.prog 23 #[.agg #[v, .int .u64 (ls : Nat)], .int .u64 (tn : Nat)] w' fun e w'' => ∃ v' D', e = .returned (.tuple #[.agg #[v', .int .u64 (ls : Nat)], .int .i64 ec]) ∧ DkL w'' 0 v' D' ∧ D'.map (fun d => (d.t, d.H)) = M ∧ StpD D D' ∧ Below w'.heap.size w' w'') ∧
    (∀ w', Gp w' gb (ls + 1) Y → Calls Tryz.prog 14 #[ptr1 gb, .int .u64 (tn : Nat)] w' fun e w'' => ∃ Y', e = .returned (.int .i64 ec) ∧ Gp w'' gb (ls + 1) Y' ∧ Y'.map (fun y => (y.x.t, y.x.H)) = M ∧ Frm w' w'' (gvF gb Y) ∧ ∀ y ∈ Y', y ∈ Y) := by
  have hl : D.length ≤ 256 := by rw [same_len h.e]; exact h.g.inv.2
  by_cases hx : ∃ i, ∃ hi : i < D.length, D[i].t = tn
  · obtain ⟨i, hi, hti⟩ := hx
    have hiY : i < Y.length := by rw [← same_len h.e]; exact hi
    refine ⟨0, (D.eraseIdx i).map (fun d => (d.t, d.H)), fun w' hd => ?_, fun w' hg => ?_⟩
    · have C := rgive_yes D 0 ls i v w' hd hl h.rise hi
      rw [hti] at C
      refine C.mono ?_
      rintro e w'' ⟨v', rfl, h1, h2⟩
      exact ⟨v', _, rfl, h1.base (Nat.zero_le _), rfl, .inr (.inr ⟨i, hi, rfl⟩), h2⟩
    · have C := give_yes gb (ls + 1) i Y w' hg hiY
      rw [← (same_at h.e i hi hiY).1, hti] at C
      refine C.mono ?_
      rintro e w'' ⟨rfl, h1, h2⟩
      refine ⟨_, rfl, h1, ?_, h2, fun y hy => List.mem_of_mem_eraseIdx hy⟩
      rw [← map_erase, ← map_erase, h.e]
  · have hn : ∀ d ∈ D, d.t ≠ tn := by
      intro d hd e
      obtain ⟨i, hi, rfl⟩ := List.getElem_of_mem hd
      exact hx ⟨i, hi, e⟩
    have hnY : hasT (zs Y) tn = false := by
      rw [hasT_tks]
      simp only [decide_eq_false_iff_not]
      intro h9
      unfold tks at h9
      rw [List.map_map] at h9
      have e9 : Y.map (Tk.t ∘ Tkr.x) = D.map Dk.t := same_tks h.e
      rw [e9] at h9
      obtain ⟨d, hd, e⟩ := List.mem_map.1 h9
      exact hn d hd e
    refine ⟨130, D.map (fun d => (d.t, d.H)), fun w' hd => ?_, fun w' hg => ?_⟩
    · refine (rgive_no D 0 ls tn v w' hd hl hn).mono ?_
      rintro e w'' ⟨rfl, h2⟩
      exact ⟨v, D, rfl, hd.on h2, rfl, .inl rfl, h2⟩
    · refine (give_no gb (ls + 1) tn Y w' hg hnY).mono ?_
      rintro e w'' ⟨rfl, rfl⟩
      exact ⟨Y, rfl, hg, h.e.symm, Frm.refl _ _, fun y hy => hy⟩
/-- an act, by both -/
theorem does_any (gb ls lc : Nat) (kd nn : Int) (lq : Option Addr) (H : List Hd) (v : Value) (Y : List Tkr) (D : List Dk) (w : World) (h : PG w gb ls v Y D) (hR : RdH w w.heap.size lq H) (hl : H.length ≤ 2932031007317) (hls : ls + 1 < 9000000000000000000) :
    Calls Tryz.prog 8 #[ptr1 gb, .agg #[v, .int .u64 (ls : Nat)], .agg #[.int .i64 kd, .slice lq H.length lc, .int .i64 nn]] w fun e w' => ∃ v' ls' Y' D', e = .returned (.tuple #[.agg #[v', .int .u64 ((ls' : Nat) : Int)], .bool true]) ∧ PG w' gb ls' v' Y' D' ∧ ls' ≤ ls + 1 ∧ DoR w w' gb Y Y' D D' := by
  have hDl : D.length ≤ 256 := by rw [same_len h.e]; exact h.g.inv.2
  by_cases hk : kd = 0
  · subst hk
    by_cases h1 : 256 < H.length
    · refine (dtake_core gb ls ls 0 lc nn 2 (D.map (fun d => (d.t, d.H))) lq H v Y D w h hR hl (fun w' hd _ => ?_) (fun w' q' c' hg _ => ?_)).mono ?_
      · refine (rtake_long D 0 ls H.length lc lq v w' hd h1).mono ?_
        rintro e w'' ⟨rfl, h2⟩
        exact ⟨v, D, rfl, hd.on h2, rfl, .inl rfl, h2⟩
      · refine (Take_long gb c' H.length q' w' h1).mono ?_
        rintro e w'' ⟨rfl, rfl⟩
        exact ⟨Y, rfl, hg, h.e.symm, Frm.refl _ _, fun y hy => .inl hy⟩
      · rintro e w' ⟨v', Y', D', rfl, h2, h3⟩
        exact ⟨v', ls, Y', D', rfl, h2, by omega, h3⟩
    · by_cases h2 : D.length = 256
      · refine (dtake_core gb ls ls 0 lc nn 2 (D.map (fun d => (d.t, d.H))) lq H v Y D w h hR hl (fun w' hd _ => ?_) (fun w' q' c' hg hr => ?_)).mono ?_
        · refine (rtake_full D 0 ls H.length lc lq v w' hd (by omega) h2).mono ?_
          rintro e w'' ⟨rfl, h3⟩
          exact ⟨v, D, rfl, hd.on h3, rfl, .inl rfl, h3⟩
        · refine (Take_full gb (ls + 1) c' q' H Y w' hg hr (by omega) (by rw [← same_len h.e]; exact h2)).mono ?_
          rintro e w'' ⟨rfl, h3⟩
          exact ⟨Y, rfl, hg.on h3, h.e.symm, Frm.of_below h3, fun y hy => .inl hy⟩
        · rintro e w' ⟨v', Y', D', rfl, h3, h4⟩
          exact ⟨v', ls, Y', D', rfl, h3, by omega, h4⟩
      · refine (dtake_core gb ls (ls + 1) (ls + 1) lc nn 0 (D.map (fun d => (d.t, d.H)) ++ [(ls + 1, H)]) lq H v Y D w h hR hl (fun w' hd hr => ?_) (fun w' q' c' hg hr => ?_)).mono ?_
        · refine (rtake_ok D 0 ls lc lq H v w' hd hr (by omega) (by omega) (by omega)).mono ?_
          rintro e w'' ⟨v', vh, rfl, h3, h4⟩
          refine ⟨v', _, rfl, h3.base (Nat.zero_le _), ?_, .inr (.inl ⟨_, rfl⟩), h4⟩
          rw [List.map_append]
          rfl
        · refine (Take_ok gb (ls + 1) c' q' H Y w' hg hr (by omega) (by rw [← same_len h.e]; omega) (by omega)).mono ?_
          rintro e w'' ⟨tb, ch, rfl, h3, h4, h5, h6⟩
          refine ⟨_, rfl, h3, ?_, h4.mono (fun k hk => .inl hk), fun y hy => ?_⟩
          · rw [List.map_append, h.e]
            rfl
          · rcases List.mem_append.1 hy with hy | hy
            · exact .inl hy
            · simp only [List.mem_cons, List.not_mem_nil, or_false] at hy
              subst hy
              exact .inr ⟨h5, h6⟩
        · rintro e w' ⟨v', Y', D', rfl, h3, h4⟩
          exact ⟨v', ls + 1, Y', D', rfl, h3, Nat.le_refl _, h4⟩
  · have fin : ∀ (e : Ending) (w' : World), (∃ v' Y' D', e = .returned (.tuple #[.agg #[v', .int .u64 (ls : Nat)], .bool true]) ∧ PG w' gb ls v' Y' D' ∧ DoR w w' gb Y Y' D D') → ∃ v' ls' Y' D', e = .returned (.tuple #[.agg #[v', .int .u64 ((ls' : Nat) : Int)], .bool true]) ∧ PG w' gb ls' v' Y' D' ∧ ls' ≤ ls + 1 ∧ DoR w w' gb Y Y' D D' := by
      rintro e w' ⟨v', Y', D', rfl, h2, h3⟩
      exact ⟨v', ls, Y', D', rfl, h2, by omega, h3⟩
    obtain ⟨tn, htn⟩ := wrap_u64 nn
    by_cases h0 : 0 ≤ nn
    · by_cases h1 : nn < (D.length : Int)
      · obtain ⟨i, rfl⟩ := Int.eq_ofNat_of_zero_le h0
        have hi : i < D.length := by omega
        obtain ⟨ec, M, c1, c2⟩ := give_both gb ls D[i].t v Y D w h
        exact (dgive_at gb ls D[i].t lc H.length i kd ec M lq v Y D w h hk hi rfl c1 c2).mono fin
      · obtain ⟨ec, M, c1, c2⟩ := give_both gb ls tn v Y D w h
        exact (dgive_big gb ls tn lc H.length kd nn ec M lq v Y D w h hk h0 h1 htn c1 c2).mono fin
    · obtain ⟨ec, M, c1, c2⟩ := give_both gb ls tn v Y D w h
      exact (dgive_neg gb ls tn lc H.length kd nn ec M lq v Y D w h hk h0 htn c1 c2).mono fin
end Go.Proofs.YtcdamalpecedcaaGreat
