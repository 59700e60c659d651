/- Layer 13: grants: whether a taker has its ranges. -/
import Derived.Test.YtcdamalpecedcaaGreatWGp3
namespace Go.Proofs.YtcdamalpecedcaaGreat
open Go.RowKit Go.Shelf
set_option maxRecDepth 100000
attribute [local go_sem] Oper.semAt_some

theorem bck_mem {A : List Nat} {k : Nat} (hk : k ≤ A.length) (x : Nat × Nat) (hx : x ∈ bckL A k) : x.2 ∈ A := by
  unfold bckL at hx
  obtain ⟨j, hj, rfl⟩ := List.mem_map.1 hx
  rw [List.mem_range] at hj
  show A.getD (A.length - 1 - j) 0 ∈ A
  rw [List.getD_eq_getElem?_getD, List.getElem?_eq_getElem (by omega)]
  exact List.getElem_mem _
theorem mem_bck {A : List Nat} {a : Nat} (ha : a ∈ A) : ∃ x ∈ bckL A A.length, x.2 = a := by
  obtain ⟨i, hi, rfl⟩ := List.getElem_of_mem ha
  refine ⟨(i, A[i]), ?_, rfl⟩
  unfold bckL
  refine List.mem_map.2 ⟨A.length - 1 - i, List.mem_range.2 (by omega), ?_⟩
  have e : A.length - 1 - (A.length - 1 - i) = i := by omega
  rw [e, List.getD_eq_getElem?_getD, List.getElem?_eq_getElem hi]
  rfl

set_option maxHeartbeats 4000000 in
theorem grants_any (xb nx c tb : Nat) (p : Option Addr) (Z : List (Nat × Nat)) (A : List Nat) (va : Value) (w : World) (h : LnZ w xb nx p c Z) (htb : w.cell? ⟨tb, 3, none⟩ = some va) (hA : RwU w.heap.size w va A) (hlen : A.length ≤ 256) :
    Calls Tryz.prog 26 #[ptr1 xb, ptr1 tb] w fun e w' => e = .returned (.bool (!A.any (hasT Z))) ∧ Below w.heap.size w w' := by
  refine (callsIn_wide (n := 3)).1 ?_
  obtain ⟨a, len, cap, hva⟩ : ∃ a len cap, va = .slice a len cap := by
    rcases hA with ⟨rfl, _⟩ | ⟨b, cap, rfl, _⟩
    · exact ⟨_, _, _, rfl⟩
    · exact ⟨_, _, _, rfl⟩
  subst hva
  have htl := World.block_lt_of_cell? w _ htb
  refine callsIn_of_wp_marks Tryz.func26 rfl trivial ?_ rfl
  simp only [Tryz.ntmps26, List.size_toArray, List.length_cons, List.length_nil, Nat.reduceAdd, Nat.reduceSub, Array.replicate_succ, Array.replicate_zero, List.push_toArray, List.append_toArray, List.nil_append, List.cons_append]
  gi_wp2_with (refine ⟨trivial, ?_⟩; gi_at_call 40; refine (backw_in _ _ trivial rfl _ _ _ _).mono ?_; rintro e w' ⟨rfl, rfl⟩)
  have bX := Boxed.new w 56 (ptr1 xb)
  have bR := Boxed.new (w.alloc (.cells #[ptr1 xb] 56)) 4 (.bool false)
  have bN := Boxed.new ((w.alloc (.cells #[ptr1 xb] 56)).alloc (.cells #[.bool false] 4)) 37 (.slice a len cap)
  rw [World.size_alloc] at bR bN
  rw [World.size_alloc] at bN
  have hB0 : Below w.heap.size w (((w.alloc (.cells #[ptr1 xb] 56)).alloc (.cells #[.bool false] 4)).alloc (.cells #[.slice a len cap] 37)) := (((Below.refl _ w).alloc (Nat.le_refl _) _).alloc (by simp) _).alloc (by simp; omega) _
  have bX2 := (bX.alloc (.cells #[.bool false] 4)).alloc (.cells #[.slice a len cap] 37)
  have bR2 := bR.alloc (.cells #[.slice a len cap] 37)
  have hs0 : (((w.alloc (.cells #[ptr1 xb] 56)).alloc (.cells #[.bool false] 4)).alloc (.cells #[.slice a len cap] 37)).heap.size = w.heap.size + 3 := by simp
  generalize (((w.alloc (.cells #[ptr1 xb] 56)).alloc (.cells #[.bool false] 4)).alloc (.cells #[.slice a len cap] 37)) = w0 at *
  have hRA : RwU w0.heap.size w0 (.slice a len cap) A := by
    rcases hA.below hB0 with h9 | ⟨b, cp, e, hb, hc⟩
    · exact .inl h9
    · exact .inr ⟨b, cp, e, by omega, hc⟩
  refine wpIn_rangeFunc_ownG rfl (by decide) (gf := 54) (lb := #[.pointer (some ⟨w.heap.size + 1 + 1, 0, none⟩)]) rfl trivial (enters_of Tryz.func54 (by kernel_rfl) rfl)
    (back_stops _ _ trivial rfl (by decide) (w.heap.size + 1 + 1) w0.heap.size _ A hlen w0 (by omega) (Nat.le_refl _) bN.cell hRA) belowK_t (belowK_b (Nat.le_refl _)) (Below.refl _ _) (fun _ => rfl)
    (fun pre W => ((∀ x ∈ pre, hasT Z x.2 = false) ∧ W.cell? ⟨w.heap.size, 0, none⟩ = some (ptr1 xb) ∧ W.cell? ⟨w.heap.size + 1, 0, none⟩ = some (.bool false) ∧ W.frozen? ⟨w.heap.size + 1, 0, none⟩ = false) ∧ Below w.heap.size w W)
    (fun c pre W => (c = .ret ∧ (∃ x ∈ pre, hasT Z x.2 = true) ∧ W.cell? ⟨w.heap.size + 1, 0, none⟩ = some (.bool false)) ∧ Below w.heap.size w W)
    (OwnFrom.and (Own.from (fun s A B row hs hg hr => ⟨hs.1, cell_kept hs.2.1 hg hr, cell_kept hs.2.2.1 hg hr, (frozen_kept hs.2.2.1 hg hr).trans hs.2.2.2⟩) _) (ownFrom_below (Nat.le_refl _) (by omega)))
    (fun c => OwnFrom.and (Own.from (fun s A B row hs hg hr => by obtain ⟨hc, hx, e4⟩ := hs; exact ⟨hc, hx, cell_kept e4 hg hr⟩) _) (ownFrom_below (Nat.le_refl _) (by omega)))
    ⟨⟨by simp, bX2.cell, bR2.cell, bR2.frozen⟩, hB0⟩
    (fun x => { tmps := #[ptr1 xb, ptr1 tb, .pointer (some ⟨w.heap.size, 0, none⟩), undef, .pointer (some ⟨w.heap.size + 1, 0, none⟩), undef, .int .u64 (x.2 : Nat), undef, undef, ptr1 tb, .pointer (some ⟨tb, 0, none⟩), .pointer (some ⟨tb, 3, none⟩), .slice a len cap, .func (.func 54) #[] #[.pointer (some ⟨w.heap.size + 1 + 1, 0, none⟩)], .int .i64 (x.1 : Nat), .int .u64 (x.2 : Nat), undef, undef, undef, undef, undef, undef, undef], defers := [] }) ?assign ?body ?done ?stop
  case assign =>
    intro l x W K hK
    gi_wp2
    exact hK
  case body =>
    rintro l pre x W ⟨⟨hp, hcx, hcr, hfr⟩, hB⟩ _
    have HP : Hid (Calls _ _ _ _ _) := place_any xb nx c x.2 p Z W (h.on hB)
    cases hx : hasT Z x.2 with
    | true =>
      rw [hx] at HP
      gi_wp2_with (refine ⟨trivial, ?_⟩; gi_at_call 39; refine (CallsIn.inRound l (callsIn_wide.2 HP.out)).mono ?_; rintro e w' ⟨rfl, rfl⟩)
      exact ⟨(KeepsOthers.setCell _ _ _).from _, ⟨rfl, ⟨x, by simp, hx⟩, World.cell?_setCell_same' _ _ _ (by rw [hcr]; rfl)⟩, hB.setCell (p := ⟨w.heap.size + 1, 0, none⟩) (by simp) _⟩
    | false =>
      rw [hx] at HP
      gi_wp2_with (refine ⟨trivial, ?_⟩; gi_at_call 39; refine (CallsIn.inRound l (callsIn_wide.2 HP.out)).mono ?_; rintro e w' ⟨rfl, rfl⟩)
      exact ⟨KeepsFrom.refl _ _, Below.refl _ _, ⟨fun y hy => (List.mem_append.1 hy).elim (hp y) (fun e => by simp at e; subst e; exact hx), hcx, hcr, hfr⟩, hB⟩
  case done =>
    rintro D ys W hD rfl ⟨⟨hne, hcx, hcr, hfr⟩, hB⟩ hK
    gi_wp2
    have hK' := (KeepsOthers.setCell W ⟨w.heap.size + 1, 0, none⟩ (.bool true)).same D _ hK rfl
    refine ⟨by simp, .inl ⟨_, _, rfl, run_takeDeferred hK', ?_⟩⟩
    have hc5 := cell_kept (World.cell?_setCell_same' W ⟨w.heap.size + 1, 0, none⟩ (.bool true) (by rw [hcr]; rfl)) (grownBy_putObj' _ D (.deferred none)) (fun r e => by cases e; exact ⟨_, hK', rfl⟩)
    have hz : (!A.any (hasT Z)) = true := by
      rw [Bool.not_eq_true', List.any_eq_false]
      intro y hy
      obtain ⟨x, hx, rfl⟩ := mem_bck hy
      rw [hne x hx]
      decide
    refine ⟨.bool true, ?_, by rw [hz], (hB.setCell (p := ⟨w.heap.size + 1, 0, none⟩) (by simp) _).trans (belowK_b (w := w) (Nat.le_refl _) _ D _ _ (by omega) hK' rfl rfl)⟩
    simp [results, Tryz.f26, go_sem, hc5]
  case stop =>
    rintro D c pre W hD ⟨k, hk, rfl⟩ ⟨⟨rfl, ⟨x, hx, hxt⟩, hcr⟩, hB⟩ hK
    gi_wp2
    refine ⟨by simp, .inl ⟨_, _, rfl, run_takeDeferred hK, ?_⟩⟩
    have hc5 := cell_kept hcr (grownBy_putObj' _ D (.deferred none)) (fun r e => by cases e; exact ⟨_, hK, rfl⟩)
    have hz : (!A.any (hasT Z)) = false := by
      rw [Bool.not_eq_false', List.any_eq_true]
      exact ⟨x.2, bck_mem hk x hx, hxt⟩
    refine ⟨.bool false, ?_, by rw [hz], hB.trans (belowK_b (w := w) (Nat.le_refl _) W D _ _ (by omega) hK rfl rfl)⟩
    simp [results, Tryz.f26, go_sem, hc5]
end Go.Proofs.YtcdamalpecedcaaGreat
