/- The document's side of counters: New, Shard, Add, Sum; lists held against each other. -/
import Derived.Test.YtammkfilihlmhaaWTal2
namespace Go.Proofs.Ytammkfilihlmhaa
open Go.RowKit
set_option maxRecDepth 100000

/-- 'append(l, x)' -/
theorem wpList_app1 {ops : Array Oper} {rest : List Oper} {o : Oper} {a : Act} {Q : Exit → Act → World → Prop} (w : World) (hgd : o.guard = none) (s x : Operand) (T S : TypeId) (z : Value) (size bytes : Nat)
    (ho : o.op = .call { callee := .builtin .append, args := #[s, x], argTypes := #[S, S] }) (hu : Try.prog.underlying S = some (.slice T))
    (hinfo : (Try.prog.info? T).map (fun i => (i.zero, i.size, i.bytes)) = some (some z, size, bytes)) (hzs : z.cells.size = size) (hsz : 0 < size)
    (B : Nat) (v : Value) (n : Nat) (xs : List Value) (hs : a.eval s = v) (hown : w.ownsRow B T size v n xs)
    (us : List Value) (hus : us.length = size) (hone : ∀ u ∈ us, u.oneCell' = true) (g : Nat) (hx : a.eval x = .slice (some ⟨g, 0, none⟩) 1 1) (hgz : g = w.heap.size)
    (hlen : (n + 1) * bytes ≤ 140737488355328) (hlen2 : n + 1 ≤ 140737488355328) (hbase : B ≤ w.heap.size)
    (h : ∀ v' w', w'.ownsRow B T size v' (n + 1) (xs ++ us) → Below B w w' → (w.alloc (.cells us.toArray T)).grownBy w' v.ownBlock → wpList Try.prog ops Q rest (a.put o.dst v') w') : wpList Try.prog ops Q (o :: rest) a (w.alloc (.cells us.toArray T)) := by
  obtain ⟨i, hi, hz0, hz1, hz2⟩ := info_parts hinfo
  subst hgz
  have hown' := hown.alloc (.cells us.toArray T)
  refine wpList_append_own _ hgd s x S ho B T i z size bytes hu hi hz0 hz1 hz2 hzs hsz v n xs hs hown' ⟨w.heap.size, 0, none⟩ 1 1 us hx (by omega) ?_ hone (by unfold maxLen; omega) hlen (by simp; omega) ?_
  · intro j y hj
    have e : (⟨w.heap.size, 0, none⟩ : Addr).add j = ⟨w.heap.size, j, none⟩ := by unfold Addr.add; split <;> simp_all
    rw [e, World.cell?_alloc_new]
    simpa using hj
  · intro v' w' h1 h2 _
    exact h v' w' h1 (((Below.refl _ _).alloc hbase _).grown h2 (by simp; omega) (fun k hk => (hown'.lt k hk).1)) h2


/-- numbers that are read -/
def RdN (w : World) (B : Nat) (p : Option Addr) (k : IntKind) (L : List Int) : Prop := ∀ i (hi : i < L.length), ∃ b o, p = some ⟨b, o, none⟩ ∧ b < B ∧ w.cell? ⟨b, o + i, none⟩ = some (.int k L[i])
theorem RowN.rd {w : World} {g : Nat} {k : IntKind} {L : List Int} (h : RowN w g k L) : RdN w w.heap.size (some ⟨g, 0, none⟩) k L := fun i hi => ⟨g, 0, rfl, h.1, by rw [Nat.zero_add]; exact (h.2 i hi).1⟩
theorem RdN.keep {w w' : World} {B C : Nat} {p : Option Addr} {k : IntKind} {L : List Int} (h : RdN w B p k L) (hb : Below B w w') (hC : B ≤ C) : RdN w' C p k L := by
  intro i hi
  obtain ⟨b, o, e, hB, hc⟩ := h i hi
  exact ⟨b, o, e, Nat.lt_of_lt_of_le hB hC, (hb.cell (p := ⟨b, o + i, none⟩) hB).trans hc⟩

theorem rnew_any (n : Int) (w : World) : Calls Try.prog 8 #[.int .i64 n] w fun e w' => e = .returned (.int .i64 (if n < 1 ∨ 64 < n then 1 else 0)) ∧ w' = w := by
  by_cases h1 : n < 1
  · rw [if_pos (.inl h1)]
    go_enter Try.func8, Try.ntmps8
    go_wp2
    go_ret
    exact ⟨rfl, rfl⟩
  · by_cases h2 : 64 < n
    · rw [if_pos (.inr h2)]
      go_enter Try.func8, Try.ntmps8
      go_wp2
      go_ret
      exact ⟨rfl, rfl⟩
    · rw [if_neg (by omega)]
      go_enter Try.func8, Try.ntmps8
      go_wp2
      go_ret
      exact ⟨rfl, rfl⟩

set_option maxHeartbeats 2000000 in
theorem rshard_any (s : Int) (n : Nat) (w : World) (hp : 0 < n) (hsm : n ≤ 64) :
    Calls Try.prog 30 #[.int .i64 s, .int .i64 (n : Int)] w fun e w' => e = .returned (.int .i64 (((s % (n : Int)).toNat : Nat) : Int)) ∧ w' = w := by
  obtain ⟨t1, t2, t3, t4⟩ := tmod_facts s n hp
  have hz : ¬ ((n : Int) = 0) := by omega
  have hw : wrap64 (s.tmod ↑n + ↑n) = s.tmod n + n := by unfold wrap64; omega
  have HE : Hid (((s % (n : Int)).toNat : Int) = (s.tmod n + n) % (n : Int)) := by
    have h0 := Int.emod_nonneg s hz
    have e2 : (s.tmod n + n) % (n : Int) = s % (n : Int) := by
      rw [Int.add_emod_right]
      by_cases h : s.tmod n < 0
      · rw [t4 h, ← Int.add_emod_right, Int.emod_eq_of_lt (by omega) (by omega)]
      · rw [t3 (by omega), Int.emod_eq_of_lt (by omega) (by omega)]
    show _ = _
    rw [e2]
    omega
  rw [HE.out]
  clear t3 t4 HE
  go_enter Try.func30, Try.ntmps30
  go_wp2
  go_ret
  exact ⟨rfl, rfl⟩

set_option maxHeartbeats 2000000 in
theorem rsum_any (L : List Int) (p : Option Addr) (c : Nat) (w : World) (hR : RdN w w.heap.size p .i64 L) (hlen : L.length ≤ 64) :
    Calls Try.prog 13 #[.slice p L.length c] w fun e w' => e = .returned (.int .i64 (sumS L)) ∧ w' = w := by
  have HR : Hid (RdN _ _ _ _ _) := hR
  clear hR
  go_enter Try.func13, Try.ntmps13
  go_wp2_with fail
  go_loopw [3, 4] (fun s i wr => ∃ j : Nat, j ≤ L.length ∧ i = .int .i64 (j : Int) ∧ s = .int .i64 (sumS (L.take j)) ∧ wr = w) (fun _ i _ => L.length - (intOf i).toNat)
  case atStart => exact ⟨0, Nat.zero_le _, by go_num, by simp [sumS], rfl⟩
  case round =>
    obtain ⟨j, hj, rfl, rfl, hw⟩ := hrel
    rw [hw]
    clear hw
    by_cases hj0 : j = L.length
    · subst hj0
      rw [List.take_length]
      go_wp2
      go_ret
      exact ⟨rfl, rfl⟩
    · have hj1 : j < L.length := by omega
      obtain ⟨b, o, rfl, hbB, d0⟩ := HR.out j hj1
      have HS : Hid (sumS (L.take (j + 1)) = _) := sumS_take L j hj1
      generalize L[j] = x at *
      go_wp2_with fail
      go_roundw
      case rel => exact ⟨j + 1, hj1, by go_num, by rw [HS.out], trivial⟩
      case measure => simp [intOf]; omega

set_option maxHeartbeats 4000000 in
theorem same_any (L : List Int) (p q : Option Addr) (c d : Nat) (w : World) (hR : RdN w w.heap.size p .i64 L) (hQ : RdN w w.heap.size q .i64 L) (hlen : L.length ≤ 64) :
    Calls Try.prog 14 #[.slice p L.length c, .slice q L.length d] w fun e w' => e = .returned (.bool true) ∧ Below w.heap.size w w' := by
  have HA : Hid (RdN _ _ p _ _) := hR
  have HB : Hid (RdN _ _ q _ _) := hQ
  clear hR hQ
  go_enter Try.func14, Try.ntmps14
  go_wp2_with fail
  go_loopw [5] (fun i wr => ∃ j : Nat, j ≤ L.length ∧ i = .int .i64 (j : Int) ∧ Below w.heap.size w wr) (fun i _ => L.length - (intOf i).toNat)
  case atStart => exact ⟨0, Nat.zero_le _, by go_num, Below.refl _ _⟩
  case round =>
    obtain ⟨j, hj, rfl, hn⟩ := hrel
    by_cases hj0 : j = L.length
    · subst hj0
      go_wp2
      go_ret
      exact ⟨rfl, hn⟩
    · have hj1 : j < L.length := by omega
      obtain ⟨b, o, rfl, hbB, d0⟩ := HA.out j hj1
      obtain ⟨b', o', rfl, hbB', d0'⟩ := HB.out j hj1
      have a0 := (hn.cell (p := ⟨b, o + j, none⟩) hbB).trans d0
      have e0 := (hn.cell (p := ⟨b', o' + j, none⟩) hbB').trans d0'
      clear d0 d0'
      generalize L[j] = x at *
      go_wp2_with fail
      go_quiet (fail)
      go_wp2_with fail
      go_roundw
      case rel => exact ⟨j + 1, hj1, by go_num, below_drewN hn _⟩
      case measure => simp [intOf]; omega

set_option maxHeartbeats 4000000 in
theorem radd_any (L : List Int) (s x : Int) (p : Option Addr) (c : Nat) (w : World) (hR : RdN w w.heap.size p .i64 L) (hp : 0 < L.length) (hlen : L.length ≤ 64) :
    Calls Try.prog 11 #[.slice p L.length c, .int .i64 s, .int .i64 x] w fun e w' => ∃ g cap, e = .returned (.slice (some ⟨g, 0, none⟩) L.length cap) ∧ RowN w' g .i64 (addS L s x) ∧ w.heap.size ≤ g ∧ Below w.heap.size w w' := by
  have HA : Hid (RdN _ _ _ _ _) := hR
  clear hR
  go_enter Try.func11, Try.ntmps11
  go_wp2_with fail
  go_loopw [7, 8] (fun u i wr => ∃ j : Nat, j ≤ L.length ∧ i = .int .i64 (j : Int) ∧ Hid (wr.ownsRow w.heap.size 2 1 u (L.take j).length ((L.take j).map (.int .i64))) ∧ Below w.heap.size w wr) (fun _ i _ => L.length - (intOf i).toNat)
  case atStart => exact ⟨0, Nat.zero_le _, by go_num, World.ownsRow_lit w #[] 0 (Nat.le_refl _) (Nat.zero_le _) rfl, by go_grown⟩
  case round =>
    obtain ⟨j, hj, rfl, hO, hn⟩ := hrel
    by_cases hj0 : j = L.length
    · subst hj0
      rw [List.take_length] at hO
      have C1 : Hid (∀ w1, Calls _ _ _ _ _) := fun w1 => rshard_any s L.length w1 hp hlen
      have hlt := shard_lt s L hp
      rcases hO.out.2 with ⟨_, h2⟩ | ⟨g, cap, cur, rfl, hg, hgg, hcap, hmax, _⟩
      · omega
      have hN := RowN.of_owns hO.out
      obtain ⟨c1, f1⟩ := hN.2 _ hlt
      have HG : Hid (L.getD (s % (L.length : Int)).toNat 0 = L[(s % (L.length : Int)).toNat]) := by simp [hlt, Hid]
      have HP : Hid (RowN _ _ _ _) := hN.set (s % (L.length : Int)).toNat (wrap64 (L[(s % (L.length : Int)).toNat] + x))
      have HB : Hid (Below _ _ _) := hn.setCell (p := ⟨g, (s % (L.length : Int)).toNat, none⟩) hg (.int .i64 (wrap64 (L[(s % (L.length : Int)).toNat] + x)))
      have e : addS L s x = L.set (s % (L.length : Int)).toNat (wrap64 (L[(s % (L.length : Int)).toNat] + x)) := by unfold addS; rw [HG.out]
      have HE : Hid _ := e
      have hlt' : ((s % (L.length : Int)).toNat : Int) < (L.length : Int) := by omega
      clear e HG hN hO hgg
      generalize L[(s % (L.length : Int)).toNat] = y at *
      generalize (s % (L.length : Int)).toNat = k at *
      go_wp2_with fail
      refine (C1.out wr).mono ?_
      rintro e w2 ⟨rfl, hw⟩
      rw [hw]
      clear hw
      go_wp2_with fail
      go_ret
      exact ⟨g, cap, rfl, by rw [HE.out]; exact HP.out, hg, HB.out⟩
    · have hj1 : j < L.length := by omega
      obtain ⟨b, o, rfl, hbB, d0⟩ := HA.out j hj1
      have a0 := (hn.cell (p := ⟨b, o + j, none⟩) hbB).trans d0
      have HS : Hid (L.take (j + 1) = L.take j ++ [L[j]]) := (List.take_append_getElem hj1).symm
      have hul : (L.take j).length ≤ j := by simp; omega
      clear d0
      generalize L.take j = U at *
      generalize L[j] = r at *
      go_wp2_with (first | (at_builtin; go_loud (refine wpList_app1 _ rfl (.tmp 17) _ 2 29 _ 1 8 rfl Try.underlying29 info_i64 rfl (by decide) w.heap.size u7 _ _ (by rfl) hO.out [.int .i64 r] rfl (by intro u hu; have e : u = .int .i64 r := (by simpa using hu); subst e; rfl) _ rfl (by simp) (by omega) (by omega) hn.size ?_); intro v6 w6 h6 h7 h8))
      go_roundw
      case rel => exact ⟨j + 1, hj1, by go_num, (show World.ownsRow _ _ _ _ _ _ _ by rw [HS.out, List.length_append, List.map_append]; exact h6), hn.trans h7⟩
      case measure => simp [intOf]; omega
end Go.Proofs.Ytammkfilihlmhaa
