/- Push, Keep, Load on both sides, whatever number is handed in; awake. -/
import Derived.Test.YtofndmiebnhkaaaWCel4
import Derived.Test.YtofndmiebnhkaaaWCel5
import Derived.Test.YtofndmiebnhkaaaWCelR2
namespace Go.Proofs.Ytofndmiebnhkaaa
open Go.RowKit
set_option maxRecDepth 100000

/-- A PLACE THAT KEEPS O, newest first; the newest one's number is n. -/
def CelE (w : World) (b lo : Nat) (O : List Int) (n : Nat) : Prop := ∃ p L, Cel w b lo p L ∧ L.map Prod.fst = O ∧ numL L = n
theorem CelE.keep {w w' : World} {b lo B : Nat} {O : List Int} {n : Nat} (h : CelE w b lo O n) (hb : Below B w w') (hB : w.heap.size ≤ B) : CelE w' b lo O n := by
  obtain ⟨p, L, h1, h2, h3⟩ := h
  exact ⟨p, L, h1.keep hb hB, h2, h3⟩
theorem CelE.other {w w' : World} {b b' lo : Nat} {O : List Int} {n : Nat} (h : CelE w b lo O n) (hg : w.grownBy w' (some b')) (hne : b ≠ b') (hl : b' < lo) : CelE w' b lo O n := by
  obtain ⟨p, L, h1, h2, h3⟩ := h
  exact ⟨p, L, h1.other hg hne hl, h2, h3⟩
theorem CelE.lt {w : World} {b lo : Nat} {O : List Int} {n : Nat} (h : CelE w b lo O n) : b < lo := by
  obtain ⟨p, L, h1, _⟩ := h
  exact h1.lt
theorem CelE.size {w : World} {b lo : Nat} {O : List Int} {n : Nat} (h : CelE w b lo O n) : b < w.heap.size := by
  obtain ⟨p, L, h1, _⟩ := h
  exact h1.size
theorem CelE.zero {w : World} {b lo : Nat} {O : List Int} {n : Nat} (h : CelE w b lo O n) (hO : O = []) : n = 0 := by
  obtain ⟨p, L, _, h2, h3⟩ := h
  rw [hO, List.map_eq_nil_iff] at h2
  rw [← h3, h2]
  rfl
theorem numL_take (L : List (Int × Nat)) (k : Nat) (hk : 1 ≤ k) : numL (L.take k) = numL L := by
  cases L with
  | nil => simp
  | cons x L =>
    obtain ⟨j, rfl⟩ : ∃ j, k = j + 1 := ⟨k - 1, by omega⟩
    rfl

/-- a slice that does not lie in a block -/
def offB (g : Nat) (v : Value) : Prop := ∀ a l c, v = .slice (some a) l c → a.block ≠ g
theorem SlI.off {w : World} {lo g : Nat} {v : Value} {O : List Int} (h : SlI w lo v O) (hg : g < lo) : offB g v := by
  intro a l c e
  rcases h with ⟨h, _⟩ | ⟨g', c', h, h1, _⟩
  · rw [h] at e; cases e
  · rw [h] at e; cases e; show g' ≠ g; omega
/-- what a push leaves -/
def pushO (O : List Int) (n m : Nat) (x : Int) : List Int := if m = n then x :: O else O
def pushN (n m : Nat) : Nat := if m = n then n + 1 else n
/-- what a keep leaves -/
def keepO (O : List Int) (n m : Nat) (x : Int) : List Int := if m = n then O.take (keepN x) else O

theorem pushE (b lo : Nat) (O : List Int) (n m : Nat) (x : Int) (w : World) (h : CelE w b lo O n) (hlo : lo ≤ w.heap.size) (hn : n + 1 < 18446744073709551616) (hl : O.length < 17592186044416) :
    Calls Try.prog 25 #[.pointer (some ⟨b, 0, none⟩), .int .u64 (m : Nat), .int .i64 x] w fun e w' => e = .returned (.bool (decide (m = n))) ∧ CelE w' b lo (pushO O n m x) (pushN n m) ∧ w.grownBy w' (some b) := by
  obtain ⟨p, L, h1, h2, h3⟩ := h
  have hll : L.length = O.length := by rw [← h2, List.length_map]
  unfold pushO pushN
  by_cases hm : m = n
  · rw [if_pos hm, if_pos hm, decide_eq_true hm]
    refine (push_hit b lo p L m x w h1 (by omega) hlo (by omega) (by omega)).mono ?_
    rintro e w' ⟨rfl, ⟨q, hq⟩, hg⟩
    exact ⟨rfl, ⟨q, _, hq, by rw [List.map_cons, h2], by rw [← hm]; rfl⟩, hg⟩
  · rw [if_neg hm, if_neg hm, decide_eq_false hm]
    refine (push_miss b lo p L m x w h1 (by omega)).mono ?_
    rintro e w' ⟨rfl, rfl⟩
    exact ⟨rfl, ⟨p, L, h1, h2, h3⟩, grown_refl _ _⟩
theorem keepE (b lo : Nat) (O : List Int) (n m : Nat) (x : Int) (w : World) (h : CelE w b lo O n) (hlo : lo ≤ w.heap.size) (hl : O.length ≤ 17592186044416) :
    Calls Try.prog 23 #[.pointer (some ⟨b, 0, none⟩), .int .u64 (m : Nat), .int .i64 x] w fun e w' => e = .returned (.bool (decide (m = n))) ∧ CelE w' b lo (keepO O n m x) n ∧ w.grownBy w' (some b) := by
  obtain ⟨p, L, h1, h2, h3⟩ := h
  have hll : L.length = O.length := by rw [← h2, List.length_map]
  have hk := keepN_eq x
  unfold keepO
  by_cases hm : m = n
  · rw [if_pos hm, decide_eq_true hm]
    by_cases hc : keepN x < L.length
    · refine (keep_cut b lo p L m x (keepN x) w h1 (by omega) hlo hk hc (by omega)).mono ?_
      rintro e w' ⟨rfl, ⟨q, hq⟩, hg⟩
      exact ⟨rfl, ⟨q, _, hq, by rw [List.map_take, h2], by rw [numL_take _ _ (by omega)]; exact h3⟩, hg⟩
    · refine (keep_all b lo p L m x _ w h1 (by omega) hk (by omega)).mono ?_
      rintro e w' ⟨rfl, hb⟩
      exact ⟨rfl, ⟨p, L, h1.keep hb (Nat.le_refl _), by rw [List.take_of_length_le (by omega)]; exact h2, h3⟩, grown_below hb (Nat.le_refl _)⟩
  · rw [if_neg hm, decide_eq_false hm]
    refine (keep_miss b lo p L m x w h1 (by omega)).mono ?_
    rintro e w' ⟨rfl, rfl⟩
    exact ⟨rfl, ⟨p, L, h1, h2, h3⟩, grown_refl _ _⟩
theorem rpushE (O : List Int) (v : Value) (n m : Nat) (x : Int) (lo : Nat) (w : World) (hS : SlI w lo v O) (hlo : lo ≤ w.heap.size) (hn : n + 1 < 18446744073709551616) (hl : O.length < 17592186044416) :
    Calls Try.prog 24 #[celV v n, .int .u64 (m : Nat), .int .i64 x] w fun e w' => (∃ v', e = .returned (.tuple #[celV v' (pushN n m), .bool (decide (m = n))]) ∧ SlI w' lo v' (pushO O n m x) ∧ ∀ g, g < w.heap.size → offB g v → offB g v') ∧ Below w.heap.size w w' := by
  unfold pushO pushN
  by_cases hm : m = n
  · rw [if_pos hm, if_pos hm, decide_eq_true hm, hm]
    refine (rpush_hit O v n x w (hS.weaken (Nat.zero_le _)) hn hl).mono ?_
    rintro e w' ⟨⟨v', rfl, h1⟩, hb⟩
    exact ⟨⟨v', rfl, h1.weaken hlo, fun g hg _ => h1.off hg⟩, hb⟩
  · rw [if_neg hm, if_neg hm, decide_eq_false hm]
    obtain ⟨p, c, hv, _⟩ := hS.rd
    refine (rpush_miss v n m x p _ c w hv hm).mono ?_
    rintro e w' ⟨rfl, hb⟩
    exact ⟨⟨v, rfl, hS.keep hb (Nat.le_refl _), fun _ _ h => h⟩, hb⟩
theorem rkeepE (O : List Int) (v : Value) (n m : Nat) (x : Int) (lo : Nat) (w : World) (hS : SlI w lo v O) (hlo : lo ≤ w.heap.size) (hl : O.length ≤ 17592186044416) :
    Calls Try.prog 22 #[celV v n, .int .u64 (m : Nat), .int .i64 x] w fun e w' => (∃ v', e = .returned (.tuple #[celV v' n, .bool (decide (m = n))]) ∧ SlI w' lo v' (keepO O n m x) ∧ ∀ g, g < w.heap.size → offB g v → offB g v') ∧ Below w.heap.size w w' := by
  unfold keepO
  by_cases hm : m = n
  · rw [if_pos hm, decide_eq_true hm, hm]
    refine (rkeep_hit O v n x w (hS.weaken (Nat.zero_le _)) hl).mono ?_
    rintro e w' ⟨⟨v', rfl, h1⟩, hb⟩
    exact ⟨⟨v', rfl, h1.weaken hlo, fun g hg _ => h1.off hg⟩, hb⟩
  · rw [if_neg hm, decide_eq_false hm]
    obtain ⟨p, c, hv, _⟩ := hS.rd
    refine (rkeep_miss v n m x p _ c w hv hm).mono ?_
    rintro e w' ⟨rfl, hb⟩
    exact ⟨⟨v, rfl, hS.keep hb (Nat.le_refl _), fun _ _ h => h⟩, hb⟩
theorem newE (w : World) : Calls Try.prog 7 #[] w fun e w' => e = .returned (.pointer (some ⟨w.heap.size, 0, none⟩)) ∧ CelE w' w.heap.size (w.heap.size + 1) [] 0 ∧ w'.heap.size = w.heap.size + 1 ∧ Below w.heap.size w w' :=
  (new_any w).mono fun _ _ ⟨h1, h2, h3, h4⟩ => ⟨h1, ⟨_, _, h2, rfl, rfl⟩, h3, h4⟩
theorem loadE (b lo : Nat) (O : List Int) (n : Nat) (w : World) (h : CelE w b lo O n) :
    Calls Try.prog 20 #[.pointer (some ⟨b, 0, none⟩)] w fun e w' => e = .returned (.tuple #[.int .i64 (O.headD 0), .int .u64 (n : Nat)]) ∧ Below w.heap.size w w' := by
  obtain ⟨p, L, h1, h2, h3⟩ := h
  have e1 : headL L = O.headD 0 := by
    rw [← h2]
    cases L <;> rfl
  have := load_any b lo p L w h1
  rw [e1, h3] at this
  exact this
theorem allE (b lo : Nat) (O : List Int) (n : Nat) (w : World) (h : CelE w b lo O n) (hl : O.length ≤ 17592186044416) :
    Calls Try.prog 11 #[.pointer (some ⟨b, 0, none⟩)] w fun e w' => (∃ v, e = .returned v ∧ w'.ownsRow w.heap.size 2 1 v O.length (cellsX O)) ∧ Below w.heap.size w w' := by
  obtain ⟨p, L, h1, h2, h3⟩ := h
  have hll : L.length = O.length := by rw [← h2, List.length_map]
  have := all_any b lo p L w h1 (by omega)
  rw [h2, hll] at this
  exact this

set_option maxHeartbeats 1000000 in
theorem awake_any (w : World) : Calls Try.prog 10 #[] w fun e w' => e = .returned (.bool true) ∧ Below w.heap.size w w' := by
  have C0 : Hid (Calls _ _ _ _ _) := newE w
  go_enter Try.func10, Try.ntmps10
  go_wp2_with fail
  refine C0.out.mono ?_
  rintro e w1 ⟨rfl, hc, hs, hb⟩
  have C1 : Hid (Calls _ _ _ _ _) := pushE _ _ [] 0 0 5 w1 hc (by omega) (by decide) (by decide)
  have HB : Hid (Below w.heap.size w w1) := hb
  clear hc hs hb C0
  go_wp2_with fail
  refine C1.out.mono ?_
  rintro e w2 ⟨rfl, hc, hg⟩
  have C2 : Hid (Calls _ _ _ _ _) := loadE _ _ _ _ w2 hc
  have HB2 : Hid (Below w.heap.size w w2) := below_own HB.out hg (Nat.le_refl _)
  clear hc hg C1
  go_wp2_with fail
  refine C2.out.mono ?_
  rintro e w3 ⟨rfl, hb⟩
  have HB3 : Hid (Below w.heap.size w w3) := HB2.out.trans (hb.mono HB2.out.size)
  clear hb C2
  go_wp2_with fail
  go_ret
  exact ⟨rfl, HB3.out⟩
end Go.Proofs.Ytofndmiebnhkaaa
