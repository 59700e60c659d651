/- Layer 13: where a ticket's taker stands: cmp.Compare, slices.BinarySearchFunc, place; slices.BinarySearch of tickets. -/
import Derived.Test.YtcdamalpecedcaaGreatWGp1
namespace Go.Proofs.YtcdamalpecedcaaGreat
open Go.RowKit
set_option maxRecDepth 100000

def cmpN (x y : Nat) : Int := if x < y then -1 else if y < x then 1 else 0
theorem cmpN_lt {x n : Nat} : cmpN x n < 0 ↔ x < n := by
  unfold cmpN
  split
  · omega
  · split <;> omega
theorem cmpN_eq {x n : Nat} : cmpN x n = 0 ↔ x = n := by
  unfold cmpN
  split
  · omega
  · split <;> omega
theorem isNaNu_any (x : Nat) (w : World) : Calls Tryz.prog 65 #[.int .u64 (x : Nat)] w fun e w' => e = .returned (.bool false) ∧ w' = w := by
  go_enter Tryz.func65, Tryz.ntmps65
  go_wp2
  go_ret
  exact ⟨by simp, rfl⟩
theorem compareU_any (x y : Nat) (w : World) : Calls Tryz.prog 53 #[.int .u64 (x : Nat), .int .u64 (y : Nat)] w fun e w' => e = .returned (.int .i64 (cmpN x y)) ∧ w' = w := by
  have C1 : Hid (∀ (x : Nat) w, Calls Tryz.prog 65 #[.int .u64 (x : Nat)] w fun e w' => e = .returned (.bool false) ∧ w' = w) := isNaNu_any
  unfold cmpN
  rcases Nat.lt_trichotomy x y with h1 | h1 | h1
  · rw [if_pos h1]
    have g1 : (x : Int) < (y : Int) := by omega
    clear h1
    go_enter Tryz.func53, Tryz.ntmps53
    go_wp2_with fail
    refine (C1.out _ _).mono ?_
    rintro e w2 ⟨rfl, rfl⟩
    go_wp2_with fail
    refine (C1.out _ _).mono ?_
    rintro e w2 ⟨rfl, rfl⟩
    go_wp2_with fail
    go_ret
    exact ⟨rfl, rfl⟩
  · subst h1
    rw [if_neg (Nat.lt_irrefl _), if_neg (Nat.lt_irrefl _)]
    go_enter Tryz.func53, Tryz.ntmps53
    go_wp2_with fail
    refine (C1.out _ _).mono ?_
    rintro e w2 ⟨rfl, rfl⟩
    go_wp2_with fail
    refine (C1.out _ _).mono ?_
    rintro e w2 ⟨rfl, rfl⟩
    go_wp2_with fail
    go_ret
    exact ⟨rfl, rfl⟩
  · rw [if_neg (by omega), if_pos h1]
    have g1 : (y : Int) < (x : Int) := by omega
    clear h1
    go_enter Tryz.func53, Tryz.ntmps53
    go_wp2_with fail
    refine (C1.out _ _).mono ?_
    rintro e w2 ⟨rfl, rfl⟩
    go_wp2_with fail
    refine (C1.out _ _).mono ?_
    rintro e w2 ⟨rfl, rfl⟩
    go_wp2_with fail
    go_ret
    exact ⟨rfl, rfl⟩
theorem placef_any (tb t n : Nat) (w : World) (h : w.cell? ⟨tb, 0, none⟩ = some (.int .u64 (t : Nat))) : Calls Tryz.prog 52 #[ptr1 tb, .int .u64 (n : Nat)] w fun e w' => e = .returned (.int .i64 (cmpN t n)) ∧ w' = w := by
  have C1 : Hid (∀ w, Calls Tryz.prog 53 #[.int .u64 (t : Nat), .int .u64 (n : Nat)] w fun e w' => e = .returned (.int .i64 (cmpN t n)) ∧ w' = w) := compareU_any _ _
  go_enter Tryz.func52, Tryz.ntmps52
  go_wp2_with fail
  refine (C1.out _).mono ?_
  rintro e w2 ⟨rfl, rfl⟩
  go_wp2_with fail
  go_ret
  exact ⟨rfl, rfl⟩
/-- takers' blocks and tickets -/
def RdZ (w : World) (p : Option Addr) (Z : List (Nat × Nat)) : Prop := ∀ i (hi : i < Z.length), ∃ g o, p = some ⟨g, o, none⟩ ∧ g < w.heap.size ∧ w.cell? ⟨g, o + i, none⟩ = some (ptr1 Z[i].1) ∧ Z[i].1 < w.heap.size ∧ w.cell? ⟨Z[i].1, 0, none⟩ = some (.int .u64 (Z[i].2 : Nat))
theorem RdZ.on {w w' : World} {p : Option Addr} {Z : List (Nat × Nat)} (h : RdZ w p Z) (hb : Below w.heap.size w w') : RdZ w' p Z := by
  intro i hi
  obtain ⟨g, o, e, hg, c0, h1, c1⟩ := h i hi
  exact ⟨g, o, e, Nat.lt_of_lt_of_le hg hb.size, (hb.cell (p := ⟨g, o + i, none⟩) hg).trans c0, Nat.lt_of_lt_of_le h1 hb.size, (hb.cell (p := ⟨Z[i].1, 0, none⟩) h1).trans c1⟩
def RisZ (Z : List (Nat × Nat)) : Prop := Z.Pairwise (fun a b => a.2 < b.2)
theorem RisZ.lt {Z : List (Nat × Nat)} (h : RisZ Z) {i j : Nat} (hij : i < j) (hj : j < Z.length) : Z[i].2 < Z[j].2 := List.pairwise_iff_getElem.1 h i j (by omega) hj hij
/-- where a ticket stands, or would -/
def plc (Z : List (Nat × Nat)) (n : Nat) : Nat := Z.findIdx (fun z => decide (n ≤ z.2))
def hasT (Z : List (Nat × Nat)) (n : Nat) : Bool := Z.any (fun z => z.2 == n)
theorem plc_le (Z : List (Nat × Nat)) (n : Nat) : plc Z n ≤ Z.length := List.findIdx_le_length
theorem plc_is {Z : List (Nat × Nat)} {n m : Nat} (hm : m ≤ Z.length) (h1 : ∀ i (hi : i < Z.length), i < m → Z[i].2 < n) (h2 : ∀ i (hi : i < Z.length), m ≤ i → n ≤ Z[i].2) : plc Z n = m := by
  rcases Nat.lt_trichotomy (plc Z n) m with h | h | h
  · have h3 := List.findIdx_getElem (p := fun z : Nat × Nat => decide (n ≤ z.2)) (xs := Z) (w := by show plc Z n < _; omega)
    have h4 := h1 (plc Z n) (by omega) h
    have h5 : decide (n ≤ Z[plc Z n].2) = true := h3
    simp only [decide_eq_true_eq] at h5
    omega
  · exact h
  · have hl : m < Z.length := by have := plc_le Z n; omega
    have h3 := List.not_of_lt_findIdx (show m < Z.findIdx (fun z => decide (n ≤ z.2)) from h)
    have h4 := h2 m hl (Nat.le_refl _)
    simp at h3
    omega
theorem hasT_at {Z : List (Nat × Nat)} {i : Nat} (hi : i < Z.length) : hasT Z Z[i].2 = true := List.any_eq_true.2 ⟨Z[i], List.getElem_mem hi, by simp⟩
theorem hasT_no {Z : List (Nat × Nat)} {n : Nat} (h : ∀ i (hi : i < Z.length), ¬ Z[i].2 = n) : hasT Z n = false := List.any_eq_false.2 fun r hr => by
  obtain ⟨i, hi, e⟩ := List.getElem_of_mem hr
  rw [← e]
  simpa using h i hi
theorem hasT_iff (Z : List (Nat × Nat)) (n : Nat) : hasT Z n = true ↔ n ∈ Z.map Prod.snd := by
  unfold hasT
  rw [List.any_eq_true]
  simp only [beq_iff_eq, List.mem_map]

set_option maxHeartbeats 4000000 in
theorem bsT_any (Z : List (Nat × Nat)) (p : Option Addr) (c n : Nat) (w : World) (hR : RdZ w p Z) (hI : RisZ Z) (hlen : Z.length ≤ 256) :
    Calls Tryz.prog 51 #[.slice p Z.length c, .int .u64 (n : Nat), .func (.func 52) #[] #[]] w fun e w' => e = .returned (.tuple #[.int .i64 (plc Z n : Nat), .bool (hasT Z n)]) ∧ w' = w := by
  have HR : Hid (RdZ w p Z) := hR
  have HI : Hid (RisZ Z) := hI
  clear hR hI
  go_enter Tryz.func51, Tryz.ntmps51
  go_wp2_with fail
  go_loopw [9, 10] (fun a b wr => ∃ i j : Nat, a = .int .i64 (i : Int) ∧ b = .int .i64 (j : Int) ∧ i ≤ j ∧ j ≤ Z.length ∧ Hid (∀ k (hk : k < Z.length), k < i → Z[k].2 < n) ∧ Hid (∀ k (hk : k < Z.length), j ≤ k → n ≤ Z[k].2) ∧ wr = w) (fun a b _ => (intOf b).toNat - (intOf a).toNat)
  case atStart => exact ⟨0, Z.length, by go_num, rfl, Nat.zero_le _, Nat.le_refl _, fun k _ h => absurd h (by omega), fun k hk h => absurd h (by omega), rfl⟩
  case round =>
    obtain ⟨i, j, rfl, rfl, hij, hj, hA, hB, hW⟩ := hrel
    subst hW
    by_cases h0 : i = j
    · subst h0
      clear hij
      have HP : Hid (plc Z n = i) := plc_is hj hA.out hB.out
      by_cases hi : i < Z.length
      · obtain ⟨b, o, rfl, hb, d0, hzb, d1⟩ := HR.out i hi
        have HH : Hid ((cmpN Z[i].2 n == 0) = hasT Z n) := by
          by_cases hx : Z[i].2 = n
          · have h1 := hasT_at hi
            rw [hx] at h1
            show _ = _
            rw [h1]
            simpa using cmpN_eq.2 hx
          · have h1 : hasT Z n = false := hasT_no fun k hk => by
              rcases Nat.lt_trichotomy k i with h | h | h
              · have := hA.out k hk h; omega
              · subst h; exact hx
              · have h2 := HI.out.lt h hk
                have h3 := hB.out i hi (Nat.le_refl _)
                omega
            show _ = _
            rw [h1]
            have : ¬ cmpN Z[i].2 n = 0 := fun h => hx (cmpN_eq.1 h)
            simpa using this
        have CC : Hid (Calls _ _ _ _ _) := placef_any Z[i].1 Z[i].2 n wr d1
        have hh := HH.out
        clear d1 hb hA hB HH hzb
        generalize Z[i].1 = tb at *
        generalize Z[i].2 = x at *
        generalize cmpN x n = cm at *
        have gl : decide ((i : Int) < (Z.length : Int)) = true := by simp; omega
        go_wp2_with fail
        refine CC.out.mono ?_
        rintro e w2 ⟨rfl, rfl⟩
        go_wp2_with fail
        refine bodyPost_ret (results_tmp2 rfl _ _ _) rfl ?_
        refine ⟨?_, rfl⟩
        rw [HP.out, ← hh]
        rfl
      · have h1 : hasT Z n = false := hasT_no fun k hk => by
          have := hA.out k hk (by omega)
          omega
        have HNO : Hid (hasT Z n = false) := h1
        have hi2 : i = Z.length := by omega
        subst hi2
        clear hA hB h1 hi hj
        go_wp2_with fail
        refine bodyPost_ret (results_tmp2 rfl _ _ _) rfl ?_
        exact ⟨by rw [HP.out, HNO.out]; rfl, rfl⟩
    · have hl : i < j := by omega
      obtain ⟨m, hm⟩ : ∃ m : Nat, m = (i + j) / 2 := ⟨_, rfl⟩
      have hmi : ((i : Int) + (j : Int)) / 2 = ((m : Nat) : Int) := by omega
      have hm1 : m < Z.length := by omega
      have HM : Hid (i ≤ m ∧ m < j) := ⟨by omega, by omega⟩
      clear hm
      obtain ⟨b, o, rfl, hb, d0, hzb, d1⟩ := HR.out m hm1
      have CC : Hid (Calls _ _ _ _ _) := placef_any Z[m].1 Z[m].2 n wr d1
      clear d1 hb hzb
      by_cases hx : Z[m].2 < n
      · have HA2 : Hid (∀ k (hk : k < Z.length), k < m + 1 → Z[k].2 < n) := fun k hk hkm => by
          rcases Nat.lt_or_eq_of_le (Nat.lt_succ_iff.1 hkm) with h | h
          · have := HI.out.lt h hm1; omega
          · subst h; exact hx
        have hc := cmpN_lt.2 hx
        clear hx hA
        generalize Z[m].1 = tb at *
        generalize Z[m].2 = x at d0 CC hc
        generalize cmpN x n = cm at *
        go_wp2_with fail
        refine CC.out.mono ?_
        rintro e w2 ⟨rfl, rfl⟩
        clear CC hmi
        go_wp2_with fail
        go_roundw
        case rel => exact ⟨m + 1, j, by go_num, rfl, by have := HM.out; omega, hj, HA2, hB, trivial⟩
        case measure => simp [intOf]; have := HM.out; omega
      · have HB3 : Hid (∀ k (hk : k < Z.length), m ≤ k → n ≤ Z[k].2) := fun k hk hkm => by
          rcases Nat.lt_or_eq_of_le hkm with h | h
          · have := HI.out.lt h hk; omega
          · subst h; omega
        have hc : ¬ cmpN Z[m].2 n < 0 := fun h => hx (cmpN_lt.1 h)
        clear hx hB
        generalize Z[m].1 = tb at *
        generalize Z[m].2 = x at d0 CC hc
        generalize cmpN x n = cm at *
        go_wp2_with fail
        refine CC.out.mono ?_
        rintro e w2 ⟨rfl, rfl⟩
        clear CC hmi
        go_wp2_with fail
        go_roundw
        case rel => exact ⟨i, m, rfl, rfl, HM.out.1, by have := HM.out; omega, hA, HB3, trivial⟩
        case measure => simp [intOf]; have := HM.out; omega
/-- a line in memory, as it is searched -/
structure LnZ (w : World) (xb nx : Nat) (p : Option Addr) (c : Nat) (Z : List (Nat × Nat)) : Prop where
  b : Blk w xb #[.int .u64 (nx : Nat), .slice p Z.length c] 68
  r : RdZ w p Z
  i : RisZ Z
  l : Z.length ≤ 256
theorem LnZ.on {w w' : World} {xb nx : Nat} {p : Option Addr} {c : Nat} {Z : List (Nat × Nat)} (h : LnZ w xb nx p c Z) (hb : Below w.heap.size w w') : LnZ w' xb nx p c Z := ⟨h.b.on hb, h.r.on hb, h.i, h.l⟩
theorem place_any (xb nx c n : Nat) (p : Option Addr) (Z : List (Nat × Nat)) (w : World) (h : LnZ w xb nx p c Z) :
    Calls Tryz.prog 39 #[ptr1 xb, .int .u64 (n : Nat)] w fun e w' => e = .returned (.tuple #[.int .i64 (plc Z n : Nat), .bool (hasT Z n)]) ∧ w' = w := by
  have C1 : Hid (Calls _ _ _ _ _) := bsT_any Z p c n w h.r h.i h.l
  have y1 := Blk.cell (i := 1) h.b rfl
  clear h
  go_enter Tryz.func39, Tryz.ntmps39
  go_wp2_with fail
  refine C1.out.mono ?_
  rintro e w2 ⟨rfl, rfl⟩
  go_wp2_with fail
  go_ret2
  exact ⟨rfl, rfl⟩
end Go.Proofs.YtcdamalpecedcaaGreat
