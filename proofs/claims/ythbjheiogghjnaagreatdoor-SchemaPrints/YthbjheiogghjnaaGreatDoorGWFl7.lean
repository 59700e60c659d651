/- The digits of a number, laid into a row of bytes; noughts at their end are left out. A statement that draws its order and writes last: what it reads may be taken first, though its last operation writes there. -/
import Derived.Test.YthbjheiogghjnaaGreatDoorProg
import Derived.WalkKit
import Derived.Deep.RegionHeld3
import Derived.Test.YthbjheiogghjnaaGreatDoorGWFl5
import Derived.Test.YthbjheiogghjnaaGreatDoorGWSh1
namespace Go.Proofs.YthbjheiogghjnaaGreatDoor
open Go.RowKit Go.Sort Go.Lib
set_option maxRecDepth 100000

/-- so many are left without noughts at the end -/
def trimN (f : Nat → UInt8) : Nat → Nat
  | 0 => 0
  | n + 1 => if f n = 48 then trimN f n else n + 1
theorem trimN_le (f : Nat → UInt8) : ∀ n, trimN f n ≤ n
  | 0 => Nat.le_refl _
  | n + 1 => by
    unfold trimN
    split
    · exact Nat.le_succ_of_le (trimN_le f n)
    · exact Nat.le_refl _
theorem below_put {α : Type} [Inhabited α] (enc : α → Value) (w : World) (B g off : Nat) (d : Array α) (hg : B ≤ g) : Below B w (putRow enc w g off d) := by
  refine ⟨rfl, rfl, rfl, ?_, fun k hk => ?_⟩
  · simp [putRow, mapBlock]
  · have hne : g ≠ k := by omega
    simp [putRow, mapBlock, Array.getElem?_modify, hne]
theorem put_blk {α : Type} [Inhabited α] (enc : α → Value) (w : World) (g off : Nat) (d : Array α) {cs : Array Value} {T : TypeId} {z : Nat × Nat} (h : w.heap[g]? = some (.cells cs T z)) : ∃ cs', (putRow enc w g off d).heap[g]? = some (.cells cs' T z) := by
  refine ⟨putCells enc off d cs, ?_⟩
  simp [putRow, mapBlock, Array.getElem?_modify, h, onCells]
/-- a row of 32 bytes, of its own -/
def Row32 (w : World) (g : Nat) : Prop := ∀ j, j < 32 → w.cell? ⟨g, j, none⟩ = some (.int .u8 0) ∧ w.frozen? ⟨g, j, none⟩ = false

set_option maxHeartbeats 4000000 in
theorem setDigits_any (u nd g : Nat) (p : Int) (w : World) (hu : u < 10 ^ nd) (hu64 : u < 18446744073709551616) (hnd : nd ≤ 20) (hp1 : -400 ≤ p) (hp2 : p ≤ 400) (hH : Row32 w g) (cs : Array Value) (T : TypeId) (hg : w.heap[g]? = some (.cells cs T (0, 0))) :
    Calls Tryz.prog 112 #[.slice (some ⟨g, 0, none⟩) 32 32, .int .u64 u, .int .i64 p, .int .i64 (nd : Nat)] w fun e w' => e = .returned (.tuple #[.int .i64 ((nd : Int) + p), .int .i64 ((trimN (fun t => dg u (nd - 1 - t)) nd : Nat) : Int)]) ∧ (∀ t, t < nd → w'.cell? ⟨g, t, none⟩ = some (.int .u8 ((dg u (nd - 1 - t)).toNat : Int))) ∧ (∃ cs', w'.heap[g]? = some (.cells cs' T (0, 0))) ∧ Below g w w' := by
  have hH0 : Holds (fun (b : UInt8) => Value.int .u8 (b.toNat : Int)) w g 0 (Array.replicate nd 0) := by
    intro j hj
    rw [Array.size_replicate] at hj
    have h1 := hH j (by omega)
    rw [Nat.zero_add]
    refine ⟨?_, h1.2⟩
    rw [h1.1, getElem!_pos _ j (by rw [Array.size_replicate]; exact hj), Array.getElem_replicate]
    rfl
  have hfmt := Tryz.internal_strconv_formatBase10 g 0 32 u (Array.replicate nd 0) w hH0 (by rw [Array.size_replicate]; exact hu) hu64 (by rw [Array.size_replicate]; omega)
  rw [Array.size_replicate] at hfmt
  have CF : Hid (Calls Tryz.prog 76 #[.slice (some ⟨g, 0, none⟩) nd 32, .int .u64 u] w fun e w' => e = .returned (.tuple #[]) ∧ (∀ t, t < nd → w'.cell? ⟨g, t, none⟩ = some (.int .u8 ((dg u (nd - 1 - t)).toNat : Int))) ∧ (∃ cs', w'.heap[g]? = some (.cells cs' T (0, 0))) ∧ Below g w w') := by
    refine hfmt.mono ?_
    rintro e w' ⟨rfl, k, v', dk, rfl, hF⟩
    refine ⟨rfl, fun t ht => ?_, put_blk _ w g 0 dk hg, below_drewN (below_put _ w g g 0 dk (Nat.le_refl _)) k⟩
    rw [World.cell?_drewN]
    have h1 := cell?_putRow (fun (b : UInt8) => Value.int .u8 (b.toNat : Int)) w g 0 _ dk hH0 (by rw [hF.size, Array.size_replicate]) t (by rw [hF.size]; exact ht)
    rw [Nat.zero_add] at h1
    rw [h1, hF.done t (Nat.zero_le _) ht]
  clear hfmt hH0 hH hu hu64
  have HT : Hid (∀ n, trimN (fun t => dg u (nd - 1 - t)) (n + 1) = if dg u (nd - 1 - n) = 48 then trimN (fun t => dg u (nd - 1 - t)) n else n + 1) := fun n => rfl
  have HT0 : Hid (trimN (fun t => dg u (nd - 1 - t)) 0 = 0) := rfl
  generalize (trimN fun t => dg u (nd - 1 - t)) = tr at *
  have hsl : ∀ W, (Instr.slice 52 (.slice (some ⟨g, 0, none⟩) 32 32) none (some (.int .i64 (nd : Int))) none).run Tryz.prog W = .ok (.slice (some ⟨g, 0, none⟩) nd 32) W := by
    intro W
    simp [go_sem]
    omega
  have gle : (nd : Int) ≤ 32 := by omega
  go_enter Tryz.func112, Tryz.ntmps112
  go_wp2_with fail
  refine CF.out.mono ?_
  rintro e w1 ⟨rfl, hc, hk, hb⟩
  dsimp only
  have HC : Hid (∀ t, t < nd → w1.cell? ⟨g, t, none⟩ = some (.int .u8 ((dg u (nd - 1 - t)).toNat : Int))) := hc
  have HB : Hid ((∃ cs', w1.heap[g]? = some (.cells cs' T (0, 0))) ∧ Below g w w1) := ⟨hk, hb⟩
  clear hc hb hk CF hsl hg
  go_upto_region 4 with fail
  go_loopw [3] (fun sn wq => ∃ n : Nat, n ≤ nd ∧ sn = .int .i64 (n : Int) ∧ wq = w1 ∧ Hid (tr nd = tr n)) (fun sn _ => (RowKit.intOf sn).toNat)
  case atStart => exact ⟨nd, Nat.le_refl _, rfl, rfl, rfl⟩
  case round =>
    obtain ⟨n, hn, rfl, hwr, HE⟩ := hrel
    rw [hwr]
    clear hwr
    rcases Nat.eq_zero_or_pos n with h0 | h0
    · have HZ : Hid (tr nd = 0) := by
        have h9 := HE.out
        rw [h0, HT0.out] at h9
        exact h9
      subst h0
      go_wp2_with fail
      go_ret2
      exact ⟨by rw [HZ.out]; rfl, HC.out, HB.out.1, HB.out.2⟩
    · obtain ⟨m, rfl⟩ : ∃ m, n = m + 1 := ⟨n - 1, by omega⟩
      have c0 := HC.out m (by omega)
      have gw : IntKind.i64.wrap (((m + 1 : Nat) : Int) - 1) = (m : Int) := by rw [IntKind.wrap_i64]; omega
      have gp : (0 : Int) < ((m + 1 : Nat) : Int) := by omega
      have gm : (m : Int) < 32 := by omega
      by_cases hd : dg u (nd - 1 - m) = 48
      · have HE2 : Hid (tr nd = tr m) := by
          have h9 := HE.out
          rw [HT.out m, if_pos hd] at h9
          exact h9
        rw [hd] at c0
        have c1 : w1.cell? ⟨g, m, none⟩ = some (.int .u8 48) := c0
        clear c0 hd
        go_wp2_with fail
        go_roundw
        case rel => exact ⟨m, by omega, by go_num, by first | rfl | trivial, HE2⟩
        case measure => simp only [RowKit.intOf]; omega
      · have HE2 : Hid (tr nd = m + 1) := by
          have h9 := HE.out
          rw [HT.out m, if_neg hd] at h9
          exact h9
        have hd2 : ¬ ((dg u (nd - 1 - m)).toNat : Int) = 48 := by
          intro h9
          apply hd
          apply UInt8.toNat_inj.1
          have : (dg u (nd - 1 - m)).toNat = 48 := by omega
          rw [this]
          rfl
        generalize ((dg u (nd - 1 - m)).toNat : Int) = cz at *
        clear hd
        go_wp2_with fail
        go_ret2
        exact ⟨by rw [HE2.out]; rfl, HC.out, HB.out.1, HB.out.2⟩

set_option maxHeartbeats 4000000 in
theorem numDigits_zero (w : World) (htab : Lib.TabIs Tryz.prog w "internal/strconv.uint64pow10" .u64 Lib.pow10Tab) :
    Calls Tryz.prog 75 #[.int .u64 0] w fun e w' => e = .returned (.int .i64 0) ∧ w' = w := by
  have hc : w.cell? ⟨5, 0, none⟩ = some (.int .u64 1) := TabIs.cell (g := 5) htab (by kernel_rfl) 0 (by decide)
  have C1 : Hid (∀ w : World, Calls Tryz.prog 92 #[.int .u64 0] w fun e w' => e = .returned (.int .i64 0) ∧ w' = w) := fun w => by
    have h9 := Tryz.bits_Len64 0 w (by decide) (by decide)
    exact h9
  have C2 : Hid (∀ w : World, Calls Tryz.prog 91 #[.int .i64 0] w fun e w' => e = .returned (.int .i64 0) ∧ w' = w) := fun w => by
    have h9 := Tryz.internal_strconv_log10Pow2 0 (by decide) w
    exact h9
  have C3 : Hid (∀ w : World, Calls Tryz.prog 93 #[.bool false] w fun e w' => e = .returned (.int .i64 0) ∧ w' = w) := fun w => by
    have h9 := Tryz.internal_strconv_bool2_int false w
    exact h9
  clear htab
  go_enter Tryz.func75, Tryz.ntmps75
  go_wp2_with fail
  refine (C1.out _).mono ?_
  rintro e w1 ⟨rfl, rfl⟩
  go_wp2_with fail
  refine (C2.out _).mono ?_
  rintro e w1 ⟨rfl, rfl⟩
  go_wp2_with fail
  refine (C3.out _).mono ?_
  rintro e w1 ⟨rfl, rfl⟩
  go_wp2_with fail
  go_ret
  exact ⟨rfl, rfl⟩

end Go.Proofs.YthbjheiogghjnaaGreatDoor

namespace Go.Proofs.YthbjheiogghjnaaGreatDoor
open Go.RowKit
set_option maxRecDepth 100000

/-- the operation at a place -/
def nthO : List Oper → Nat → Option Oper
  | [], _ => none
  | o :: _, 0 => some o
  | _ :: l, i + 1 => nthO l i
theorem nthO_eq : ∀ (l : List Oper) (i : Nat), nthO l i = l[i]?
  | [], _ => rfl
  | _ :: _, 0 => rfl
  | _ :: l, i + 1 => by rw [nthO, nthO_eq l i]; rfl
theorem nthO_at {ops : Array Oper} {i : Nat} {o : Oper} (h : nthO ops.toList i = some o) : ops[i]? = some o := by
  rw [nthO_eq] at h
  simpa using h

section
variable {P : Program} {ops : Array Oper} {Q : Exit → Act → World → Prop} {S : World → Prop} {m : Nat}

/-- whatever order is drawn; S holds behind every operation but number m -/
def wpL (P : Program) (ops : Array Oper) (Q : Exit → Act → World → Prop) (S : World → Prop) (m : Nat) : Nat → Array Bool → Act → World → Prop
  | 0, listed, a, w => Region.ready .any ops listed = [] ∧ Q .normal a w
  | fuel + 1, listed, a, w => (Region.ready .any ops listed = [] → Q .normal a w) ∧
    ∀ i ∈ Region.ready .any ops listed, wpOp P ops Q i (fun a' w' => (i ≠ m → S w') ∧ wpL P ops Q S m fuel (listed.setIfInBounds i true) a' w') a w
theorem wpAny_of_L : ∀ (fuel : Nat) (listed : Array Bool) (a : Act) (w : World), wpL P ops Q S m fuel listed a w → wpAny P .any ops Q fuel listed a w
  | 0, _, _, _, h => h
  | fuel + 1, _, _, _, h => ⟨h.1, fun i hi => wpOp_mono (fun a' w' h' => wpAny_of_L fuel _ a' w' h'.2) (h.2 i hi)⟩
/-- operation m waits for operation i -/
def gateB (ops : Array Oper) (m i : Nat) : Bool := match ops[m]? with
  | some o => o.after.toList.any fun e => Region.binds .any e && e.on == i
  | none => true
theorem gate_no {i j : Nat} {listed : Array Bool} (hg : gateB ops m i = true) (hi : i ∈ Region.ready .any ops listed) (hj : j ∈ Region.ready .any ops listed) : j ≠ m := by
  intro e
  subst e
  obtain ⟨_, o, ho, hall⟩ := mem_ready.1 hj
  unfold gateB at hg
  rw [ho] at hg
  obtain ⟨e, he, hb⟩ := List.any_eq_true.1 hg
  simp only [Bool.and_eq_true, beq_iff_eq] at hb
  have h1 := hall e (by simpa using he) hb.1
  rw [hb.2] at h1
  have h0 := (mem_ready.1 hi).1
  rcases Nat.lt_or_ge i listed.size with h' | h'
  · simp [h'] at h0 h1
    rw [h0] at h1
    cases h1
  · simp [Array.getElem?_eq_none h'] at h1
theorem wpL_first {i : Nat} {oi : Oper} {v : Value} (hi : ops[i]? = some oi) (hsel : ∀ (j : Nat) (o : Oper) cs b, ops[j]? = some o → o.op ≠ .select cs b)
    (hQ : ∀ c a w, Q (.panic c) (a.put oi.dst v) w → Q (.panic c) a w) (hg : gateB ops m i = true) :
    ∀ (fuel : Nat) (listed : Array Bool) (a : Act) (w : World),
      (∀ j oj, ops[j]? = some oj → j ≠ i → listed.getD j true = false → (∀ e ∈ oj.after, Region.binds .any e = true → e.on ≠ i) → oi.apart ops oj = true) →
      i ∈ Region.ready .any ops listed → YieldsIf P ops S oi v a → S w →
      wpL P ops Q S m fuel (listed.setIfInBounds i true) (a.put oi.dst v) w → wpL P ops Q S m (fuel + 1) listed a w := by
  intro fuel
  induction fuel with
  | zero =>
    intro listed a w _ hr hy hS H
    refine ⟨fun h => (by rw [h] at hr; cases hr), fun j hj => ?_⟩
    by_cases hji : j = i
    · subst hji
      exact hy.wpOp hi hS ⟨fun _ => hS, H⟩
    · have := ready_mono hj hji
      rw [H.1] at this
      cases this
  | succ fuel ih =>
    intro listed a w hfree hr hy hS H
    refine ⟨fun h => (by rw [h] at hr; cases hr), fun j hj => ?_⟩
    by_cases hji : j = i
    · subst hji
      exact hy.wpOp hi hS ⟨fun _ => hS, H⟩
    · have hjm := gate_no hg hr hj
      have h1 := H.2 j (ready_mono hj hji)
      obtain ⟨hjun, oj, hoj, hall⟩ := mem_ready.1 hj
      have hnot : ∀ e ∈ oj.after, Region.binds .any e = true → e.on ≠ i := fun e he hb heq => by
        have h1 := hall e he hb
        have h0 := (mem_ready.1 hr).1
        rw [heq] at h1
        rcases Nat.lt_or_ge i listed.size with h' | h'
        · simp [h'] at h0 h1
          rw [h0] at h1
          cases h1
        · simp [Array.getElem?_eq_none h'] at h1
      have h2 := wpOp_putIf hoj (hfree j oj hoj hji hjun hnot) (fun cs b => hsel i oi cs b hi) (fun cs b => hsel j oj cs b hoj) hQ hy h1
      have hfree' : ∀ k ok, ops[k]? = some ok → k ≠ i → (listed.setIfInBounds j true).getD k true = false →
          (∀ e ∈ ok.after, Region.binds .any e = true → e.on ≠ i) → oi.apart ops ok = true := fun k ok hk hki hun hno => by
        refine hfree k ok hk hki ?_ hno
        by_cases hjk : j = k
        · subst hjk
          exact hjun
        · rw [getD_set_ne true hjk] at hun
          exact hun
      refine wpOp_mono (fun a' w' h3 => ⟨fun _ => h3.2.1 hjm, ih (listed.setIfInBounds j true) a' w' hfree' (ready_mono hr (Ne.symm hji)) h3.1 (h3.2.1 hjm) ?_⟩) h2
      rw [Array.setIfInBounds_comm _ _ hji]
      exact h3.2.2
/-- may number i be taken first? -/
def takeB (ops : Array Oper) (listed : Array Bool) (m i : Nat) : Bool := Region.noSelect ops && Region.free .any ops listed i && (Region.ready .any ops listed).contains i && gateB ops m i
/-- it is taken first -/
theorem wpL_take (i : Nat) {oi : Oper} {v : Value} {fuel : Nat} {listed : Array Bool} {a : Act} {w : World} (hi : nthO ops.toList i = some oi) (hb : takeB ops listed m i = true)
    (hQ : ∀ c a w, Q (.panic c) (a.put oi.dst v) w → Q (.panic c) a w) (hw : Region.wanted oi (yielded ops a.tmps) = true) (hy : ∀ w, S w → (execOp a.eval oi).run P w = .ok (.value v) w) (hS : S w)
    (h : wpL P ops Q S m fuel (listed.setIfInBounds i true) (a.put oi.dst v) w) : wpL P ops Q S m (fuel + 1) listed a w := by
  unfold takeB at hb
  simp only [Bool.and_eq_true] at hb
  obtain ⟨⟨⟨h1, h2⟩, h3⟩, h4⟩ := hb
  exact wpL_first (nthO_at hi) (Region.noSelect_spec h1) hQ h4 fuel listed a w (Region.free_spec (nthO_at hi) h2) (by simpa using h3) (.inl ⟨hw, hy⟩) hS h
/-- only number i can come up -/
theorem wpL_one (i : Nat) {oi : Oper} {fuel : Nat} {listed : Array Bool} {a : Act} {w : World} (hi : nthO ops.toList i = some oi) (hr : Region.ready .any ops listed = [i]) (hw : Region.wanted oi (yielded ops a.tmps) = true)
    (h : ∀ K : Act → World → Prop, Hid (∀ a' w', (i ≠ m → S w') → wpL P ops Q S m fuel (listed.setIfInBounds i true) a' w' → K a' w') → oi.wp P a w K Q) : wpL P ops Q S m (fuel + 1) listed a w := by
  refine ⟨fun h0 => (by rw [hr] at h0; cases h0), fun j hj => ?_⟩
  rw [hr] at hj
  have e : j = i := by simpa using hj
  subst e
  unfold wpOp
  simp only [nthO_at hi, hw, if_true]
  exact .inl (h _ (show ∀ a' w', _ → _ → _ from fun a' w' h1 h2 => ⟨h1, h2⟩))
theorem wpL_done {listed : Array Bool} {a : Act} {w : World} (hr : Region.ready .any ops listed = []) (h : Q .normal a w) : ∀ fuel, wpL P ops Q S m fuel listed a w
  | 0 => ⟨hr, h⟩
  | _ + 1 => ⟨fun _ => h, by rw [hr]; simp⟩
/-- the beginning -/
theorem wp_region_L (S : World → Prop) (m : Nat) {id : Nat} {a : Act} {w : World} (hm : P.follows .mixedOrders = true) (h : wpL P ops (NoPanic Q) S m ops.size (Array.replicate ops.size false) a w.drew) : (Code.region id ops true).wp P Q a w :=
  wp_region_noPanic (wp_region_any hm (wpAny_of_L _ _ _ _ h))
end

end Go.Proofs.YthbjheiogghjnaaGreatDoor
