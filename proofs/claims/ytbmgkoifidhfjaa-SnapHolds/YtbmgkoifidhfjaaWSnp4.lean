/- free, by sort.Search. -/
import Derived.Test.YtbmgkoifidhfjaaWSnp3
namespace Go.Proofs.Ytbmgkoifidhfjaa
open Go.RowKit
set_option maxRecDepth 100000

theorem freef_any (xb : Nat) (R : List Rd) (p : Option Addr) (c i : Nat) (w : World) (hc : w.cell? ⟨xb, 2, none⟩ = some (.slice p R.length c)) (hR : RdR w p R) (hi : i < R.length) :
    Calls Try.prog 85 #[.int .i64 (i : Nat), ptr1 xb] w fun e w' => e = .returned (.bool (decide (i < R[i].sl))) ∧ w' = w := by
  obtain ⟨b, o, rfl, -, d0, -⟩ := hR i hi
  clear hR
  generalize R[i].sl = x at *
  go_enter Try.func85, Try.ntmps85
  go_wp2_with fail
  go_ret
  exact ⟨rfl, rfl⟩
set_option maxHeartbeats 1000000 in
theorem search_any (xb : Nat) (R : List Rd) (p : Option Addr) (c : Nat) (w : World) (hc : w.cell? ⟨xb, 2, none⟩ = some (.slice p R.length c)) (hR : RdR w p R) (hI : InvR R) :
    Calls Try.prog 84 #[.int .i64 (R.length : Nat), .func (.func 85) #[] #[ptr1 xb]] w fun e w' => e = .returned (.int .i64 (freeN R : Nat)) ∧ w' = w := by
  have HF : Hid (∀ i (hi : i < R.length), Calls Try.prog 85 #[.int .i64 (i : Nat), ptr1 xb] w fun e w' => e = .returned (.bool (decide (i < R[i].sl))) ∧ w' = w) := fun i hi => freef_any xb R p c i w hc hR hi
  have HI : Hid (InvR R) := hI
  have hlen := hI.len
  clear hc hR hI
  go_enter Try.func84, Try.ntmps84
  go_wp2_with fail
  go_loopw [5, 6] (fun a b wr => ∃ i j : Nat, a = .int .i64 (i : Int) ∧ b = .int .i64 (j : Int) ∧ i ≤ j ∧ j ≤ R.length ∧ Hid (∀ k (hk : k < R.length), k < i → R[k].sl = k) ∧ Hid (∀ k (hk : k < R.length), j ≤ k → k < R[k].sl) ∧ wr = w) (fun a b _ => (intOf b).toNat - (intOf a).toNat)
  case atStart => exact ⟨0, R.length, by go_num, rfl, Nat.zero_le _, Nat.le_refl _, fun k _ h => absurd h (by omega), fun k hk h => absurd h (by omega), rfl⟩
  case round =>
    obtain ⟨i, j, rfl, rfl, hij, hj, hA, hB, rfl⟩ := hrel
    by_cases h0 : i = j
    · subst h0
      have HE : Hid (freeN R = i) := (free_is HI.out).uniq ⟨hj, hA.out, hB.out⟩
      go_wp2_with fail
      go_ret
      exact ⟨by rw [HE.out]; rfl, rfl⟩
    · have hl : i < j := by omega
      obtain ⟨m, hm⟩ : ∃ m : Nat, m = (i + j) / 2 := ⟨_, rfl⟩
      have hmi : ((i : Int) + (j : Int)) / 2 = ((m : Nat) : Int) := by omega
      have hm1 : m < R.length := by omega
      have hm2 : i ≤ m ∧ m < j := by omega
      have CM : Hid (Calls _ _ _ _ _) := HF.out m hm1
      have HM : Hid (i ≤ m ∧ m < j) := hm2
      clear hm hm2
      go_wp2_with fail
      clear hmi
      refine CM.out.mono ?_
      rintro e w2 ⟨rfl, rfl⟩
      clear CM
      by_cases hx : m < R[m].sl
      · have HB2 : Hid (∀ k (hk : k < R.length), m ≤ k → k < R[k].sl) := fun k hk hmk => HI.out.gap hmk hk hx
        have hd : decide (m < R[m].sl) = true := decide_eq_true hx
        rw [hd]
        clear hd hx hB
        go_wp2_with fail
        go_roundw
        case rel => exact ⟨i, m, rfl, rfl, HM.out.1, by have := HM.out; omega, hA, HB2, by trivial⟩
        case measure => simp [intOf]; have := HM.out; omega
      · have HA2 : Hid (∀ k (hk : k < R.length), k < m + 1 → R[k].sl = k) := fun k hk hmk => by
          have h1 := HI.out.ge k hk
          rcases Nat.lt_or_ge k R[k].sl with h2 | h2
          · exact absurd (HI.out.gap (show k ≤ m by omega) hm1 h2) hx
          · omega
        have hd : decide (m < R[m].sl) = false := decide_eq_false hx
        rw [hd]
        clear hd hx hA
        go_wp2_with fail
        go_roundw
        case rel => exact ⟨m + 1, j, by go_num, rfl, by have := HM.out; omega, hj, HA2, hB, by trivial⟩
        case measure => simp [intOf]; have := HM.out; omega
set_option maxHeartbeats 1000000 in
theorem free_any (at' fl B : Nat) (v : Value) (R : List Rd) (w : World) (h : OwR w B v R) (hI : InvR R) :
    Calls Try.prog 70 #[.agg #[.int .u64 (at' : Nat), .int .u64 (fl : Nat), v]] w fun e w' => e = .returned (.int .i64 (freeN R : Nat)) ∧ Below w.heap.size w w' := by
  obtain ⟨p, c, rfl, -, -, -, hrd⟩ := h.rd
  have HB : Hid (Below w.heap.size w (w.alloc (.cells #[.int .u64 (at' : Nat), .int .u64 (fl : Nat), .slice p R.length c] 77))) := (Below.refl _ _).alloc (Nat.le_refl _) _
  have c2 : (w.alloc (.cells #[.int .u64 (at' : Nat), .int .u64 (fl : Nat), .slice p R.length c] 77)).cell? ⟨w.heap.size, 2, none⟩ = some (.slice p R.length c) := by rw [World.cell?_alloc_new]; rfl
  have C1 : Hid (Calls _ _ _ _ _) := search_any w.heap.size R p c _ c2 (hrd.on HB.out) hI
  clear h hrd
  go_enter Try.func70, Try.ntmps70
  go_wp2_with fail
  refine C1.out.mono ?_
  rintro e w2 ⟨rfl, rfl⟩
  clear C1
  go_wp2_with fail
  go_ret
  exact ⟨rfl, HB.out⟩
end Go.Proofs.Ytbmgkoifidhfjaa
