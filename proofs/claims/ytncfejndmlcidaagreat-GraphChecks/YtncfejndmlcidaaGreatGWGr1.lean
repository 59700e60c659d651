/- Layer 19: histories that are read; tooLong, formed. -/
import Derived.Test.YtncfejndmlcidaaGreatGMStr
import Derived.Test.YtncfejndmlcidaaGreatGWFam
namespace Go.Proofs.YtncfejndmlcidaaGreat
open Go.RowKit
set_option maxRecDepth 100000

def encS (s : Sw) : List Value := [.string s.it, .int .i64 s.fr, .int .i64 s.nt]
def encA (z : Ac × Value) : List Value := [.int .i64 z.1.tx, .int .i64 z.1.kd, .string z.1.it, .int .i64 z.1.fr, .int .i64 z.1.nt, .string z.1.lo, .string z.1.hi, .bool z.1.op, z.2, .int .u64 (z.1.st : Nat)]
abbrev aggA (a : Ac) (v : Value) : Value := .agg #[.int .i64 a.tx, .int .i64 a.kd, .string a.it, .int .i64 a.fr, .int .i64 a.nt, .string a.lo, .string a.hi, .bool a.op, v, .int .u64 (a.st : Nat)]
/-- a history that is read -/
structure RdH (B : Nat) (w : World) (v : Value) (Z : List (Ac × Value)) : Prop where
  sl : SlG encA 10 B w v Z
  sn : ∀ z ∈ Z, SlG encS 3 B w z.2 z.1.sn
  ll : Z.length ≤ 1172812402961
  lsn : ∀ z ∈ Z, z.1.sn.length ≤ 4398046511104
theorem RdH.on {B : Nat} {w w' : World} {v : Value} {Z : List (Ac × Value)} (h : RdH B w v Z) (hb : Below B w w') : RdH B w' v Z := ⟨h.sl.on hb, fun z hz => (h.sn z hz).on hb, h.ll, h.lsn⟩
/-- the cells of an action in a slice -/
theorem RdH.at {B : Nat} {w : World} {p : Option Addr} {n c : Nat} {Z : List (Ac × Value)} (h : RdH B w (.slice p n c) Z) (i : Nat) (hi : i < Z.length) : ∃ (b o : Nat) (q : Option Addr) (d : Nat), p = some ⟨b, o, none⟩ ∧ b < B ∧ Z[i].2 = .slice q Z[i].1.sn.length d ∧ Z[i].1.sn.length ≤ d ∧
    w.cell? ⟨b, o + i * 10, none⟩ = some (.int .i64 Z[i].1.tx) ∧ w.cell? ⟨b, o + i * 10 + 1, none⟩ = some (.int .i64 Z[i].1.kd) ∧ w.cell? ⟨b, o + i * 10 + 2, none⟩ = some (.string Z[i].1.it) ∧ w.cell? ⟨b, o + i * 10 + 3, none⟩ = some (.int .i64 Z[i].1.fr) ∧ w.cell? ⟨b, o + i * 10 + 4, none⟩ = some (.int .i64 Z[i].1.nt) ∧
    w.cell? ⟨b, o + i * 10 + 5, none⟩ = some (.string Z[i].1.lo) ∧ w.cell? ⟨b, o + i * 10 + 6, none⟩ = some (.string Z[i].1.hi) ∧ w.cell? ⟨b, o + i * 10 + 7, none⟩ = some (.bool Z[i].1.op) ∧ w.cell? ⟨b, o + i * 10 + 8, none⟩ = some Z[i].2 ∧ w.cell? ⟨b, o + i * 10 + 9, none⟩ = some (.int .u64 (Z[i].1.st : Nat)) := by
  obtain ⟨p', c', e, _, _, h3⟩ := h.sl.f
  cases e
  obtain ⟨b, o, e, hb, hc⟩ := h3 i hi
  obtain ⟨q, d, e2, hd, _, _⟩ := (h.sn _ (List.getElem_mem hi)).f
  exact ⟨b, o, q, d, e, hb, e2, hd, hc 0 _ rfl, hc 1 _ rfl, hc 2 _ rfl, hc 3 _ rfl, hc 4 _ rfl, hc 5 _ rfl, hc 6 _ rfl, hc 7 _ rfl, hc 8 _ rfl, hc 9 _ rfl⟩

/-- how many versions a history's scans saw -/
def snN (L : List Ac) : Nat := (L.map (fun a => if a.kd = 3 then a.sn.length else 0)).sum
def tlB (L : List Ac) : Bool := decide (4096 < L.length) || decide (4096 < snN L)
theorem snN_take (L : List Ac) (k : Nat) (hk : k < L.length) : snN (L.take (k + 1)) = snN (L.take k) + (if L[k].kd = 3 then L[k].sn.length else 0) := by
  unfold snN
  rw [← List.take_append_getElem hk, List.map_append, List.sum_append]
  simp
theorem snN_le (L : List Ac) (m : Nat) (h : ∀ a ∈ L, a.sn.length ≤ m) : snN L ≤ L.length * m := by
  unfold snN
  induction L with
  | nil => simp
  | cons a L ih =>
    have h1 := ih (fun b hb => h b (List.mem_cons_of_mem _ hb))
    have h2 := h a (List.mem_cons_self ..)
    rw [List.map_cons, List.sum_cons, List.length_cons, Nat.succ_mul]
    have h3 : (if a.kd = 3 then a.sn.length else 0) ≤ m := by split <;> omega
    omega

set_option maxHeartbeats 4000000 in
theorem tooLong_any (B : Nat) (v : Value) (Z : List (Ac × Value)) (w : World) (hB : B ≤ w.heap.size) (h : RdH B w v Z) : Calls Tryz.prog 40 #[v] w fun e w' => e = .returned (.bool (tlB (Z.map (·.1)))) ∧ Below w.heap.size w w' := by
  obtain ⟨p, c, rfl, hpc, hp0, _⟩ := h.sl.f
  have HR : Hid (RdH B w (.slice p Z.length c) Z) := h
  have hll : Z.length ≤ 1172812402961 := h.ll
  have HP : Hid (∀ k, k < Z.length → Z.length ≤ 4096 → snN ((Z.map (·.1)).take k) ≤ 18014398509481984) := fun k hk hz => by
    have h1 := snN_le ((Z.map (·.1)).take k) 4398046511104 (fun a ha => by
      obtain ⟨z, hz, rfl⟩ := List.mem_map.1 (List.mem_of_mem_take ha)
      exact h.lsn z hz)
    have h2 : ((Z.map (·.1)).take k).length ≤ 4096 := by rw [List.length_take, List.length_map]; omega
    have h3 := Nat.mul_le_mul_right 4398046511104 h2
    omega
  clear h
  go_enter Tryz.func40, Tryz.ntmps40
  go_wp2_with fail
  go_loopw [3, 8] (fun a b wr => ∃ (s : Int) (k : Nat), a = .int .i64 s ∧ b = .int .i64 (k : Int) ∧ k ≤ Z.length ∧ Hid (Z.length ≤ 4096 → s = (snN ((Z.map (·.1)).take k) : Int)) ∧ Hid (Below w.heap.size w wr)) (fun _ b _ => Z.length - (intOf b).toNat)
  case atStart => exact ⟨0, 0, rfl, by go_num, Nat.zero_le _, fun _ => rfl, Below.refl _ _⟩
  case round =>
    obtain ⟨s, k, rfl, rfl, hk, HS, HBl⟩ := hrel
    by_cases hk0 : k = Z.length
    · subst hk0
      by_cases hz : 4096 < Z.length
      · have HT : Hid (tlB (Z.map (·.1)) = true) := by
          show _ = _
          unfold tlB
          rw [List.length_map, decide_eq_true hz, Bool.true_or]
        have hz2 : ((Z.length : Nat) : Int) > 4096 := by omega
        clear hz
        go_wp2_with fail
        go_ret
        rw [HT.out]
        exact ⟨by simp, HBl.out⟩
      · have HT : Hid (tlB (Z.map (·.1)) = decide (4096 < s)) := by
          show _ = _
          unfold tlB
          have e := HS.out (by omega)
          rw [List.take_of_length_le (by simp)] at e
          rw [List.length_map, decide_eq_false hz, Bool.false_or, e]
          rw [Bool.eq_iff_iff, decide_eq_true_eq, decide_eq_true_eq]
          omega
        have hz2 : ¬ ((Z.length : Nat) : Int) > 4096 := by omega
        clear hz
        go_wp2_with fail
        go_ret
        rw [HT.out]
        exact ⟨by simp, HBl.out⟩
    · have hk1 : k < Z.length := by omega
      clear hk0
      obtain ⟨b, o, q, d, rfl, hb, e8, hd, k0, k1, k2, k3, k4, k5, k6, k7, k8, k9⟩ := (HR.out.on (HBl.out.mono hB)).at k hk1
      have HL : Hid (Z[k].1.sn.length ≤ 4398046511104 ∧ snN ((Z.map (·.1)).take (k + 1)) = snN ((Z.map (·.1)).take k) + (if Z[k].1.kd = 3 then Z[k].1.sn.length else 0)) := by
        refine ⟨HR.out.lsn _ (List.getElem_mem hk1), ?_⟩
        have h1 := snN_take (Z.map (·.1)) k (by simpa using hk1)
        simpa using h1
      have HP1 := HP.out k hk1
      have hbw : b ≠ wr.heap.size := by have := HBl.out.size; omega
      rw [e8] at k8
      generalize Z[k].1 = a at *
      generalize Z[k].2 = va at *
      have HQ : Hid (Z.length ≤ 4096 → s = (snN ((Z.map (·.1)).take k) : Int) ∧ snN ((Z.map (·.1)).take k) ≤ 18014398509481984) := fun hz => ⟨HS.out hz, HP1 hz⟩
      clear HP1 HS e8 hb
      by_cases hkd : a.kd = 3
      · have HL2 : Hid (a.sn.length ≤ 4398046511104 ∧ snN ((Z.map (·.1)).take (k + 1)) = snN ((Z.map (·.1)).take k) + a.sn.length) := by
          have := HL.out
          rw [if_pos hkd] at this
          exact this
        clear HL
        go_wp2_with fail
        go_roundw
        case rel =>
          refine ⟨_, k + 1, rfl, by go_num, by omega, fun hz => ?_, HBl.out.alloc HBl.out.size _⟩
          obtain ⟨e1, e2⟩ := HQ.out hz
          obtain ⟨e3, e4⟩ := HL2.out
          rw [e4]
          rw [e1]
          simp only [wrap64]
          omega
        case measure => simp [intOf]; omega
      · have HL2 : Hid (snN ((Z.map (·.1)).take (k + 1)) = snN ((Z.map (·.1)).take k)) := by
          have := HL.out.2
          rw [if_neg hkd] at this
          exact this
        clear HL
        go_wp2_with fail
        go_roundw
        case rel =>
          refine ⟨s, k + 1, rfl, by go_num, by omega, fun hz => ?_, HBl.out.alloc HBl.out.size _⟩
          rw [HL2.out]
          exact (HQ.out hz).1
        case measure => simp [intOf]; omega

theorem natbeq (n : Nat) : ((n : Int) == 0) = (n == 0) := by
  rw [Bool.eq_iff_iff, beq_iff_eq, beq_iff_eq]; omega
theorem bytes_eq9 {a b : ByteArray} (h : a.data.toList = b.data.toList) : a = b := by
  cases a; cases b; simp at h; rw [h]
theorem emp_eq (a : ByteArray) : (a.toList == (⟨#[]⟩ : ByteArray).toList) = decide (a = ⟨#[]⟩) := by
  rw [Bool.eq_iff_iff, decide_eq_true_eq, beq_iff_eq]
  refine ⟨fun h => bytes_eq9 (by rw [← Lib.toList_data, ← Lib.toList_data]; exact h), fun h => by rw [h]⟩
theorem str_eq (a b : ByteArray) : (a.toList == b.toList) = decide (a = b) := by
  rw [Bool.eq_iff_iff, decide_eq_true_eq, beq_iff_eq]
  refine ⟨fun h => bytes_eq9 (by rw [← Lib.toList_data, ← Lib.toList_data]; exact h), fun h => by rw [h]⟩
theorem run_eqInR (l h : ByteArray) (o : Bool) (l' h' : ByteArray) (o' : Bool) (w : World) : (Op.equalIn 10000 47 (.agg #[.string l, .string h, .bool o]) (.agg #[.string l', .string h', .bool o'])).run Tryz.prog w = .ok (decide (l = l') && (decide (h = h') && (o == o'))) w := by
  have u9 := Tryz.underlying9
  have a9 := Tryz.isAgg9
  have z9 := Tryz.sizeOf9
  have u4 := Tryz.underlying4
  have a4 := Tryz.isAgg4
  have z4 := Tryz.sizeOf4
  have hS : Tryz.prog.underlying 47 = some (.struct (Tryz.prog.fieldsOf 47)) := by kernel_rfl
  have hp : Tryz.prog.stoodInHeld 47 = false := by kernel_rfl
  rw [← str_eq, ← str_eq, show (10000 : Nat) = 9999 + 1 from rfl, run_equalIn_agg w 9999 47 _ _ hS hp]
  simp only [Program.fieldsOf, Tryz.underlying47]
  go_simp
  cases h1 : (l.toList == l'.toList) <;> cases h2 : (h.toList == h'.toList) <;> cases o <;> cases o' <;> simp_all
theorem run_eqRg (l h : ByteArray) (o : Bool) (l' h' : ByteArray) (o' : Bool) (w : World) : (binOp .eql 47 (.agg #[.string l, .string h, .bool o]) (.agg #[.string l', .string h', .bool o'])).run Tryz.prog w = .ok (.bool (decide (l = l') && (decide (h = h') && (o == o')))) w := by
  rw [run_eql_struct, run_eqInR]
  rfl
theorem run_eqGR (op : BinOp) (a b : Operand) (x y : Array Value) (w : World) : (eqGuard op 47 a b (.agg x) (.agg y)).run Tryz.prog w = .ok () w :=
  run_eqGuard_agg w op 47 a b _ _ (by kernel_rfl)

theorem emp_iff (a : ByteArray) : (a.toList = []) = (a = ⟨#[]⟩) := propext (by
  have h := emp_eq a
  have e : (⟨#[]⟩ : ByteArray).toList = [] := by rw [ByteArray.toList_eq]
  rw [e, Bool.eq_iff_iff, decide_eq_true_eq, beq_iff_eq] at h
  exact h)
set_option maxHeartbeats 4000000 in
theorem formed_any (a : Ac) (q : Option Addr) (d : Nat) (w : World) : Calls Tryz.prog 41 #[aggA a (.slice q a.sn.length d)] w fun e w' => e = .returned (.bool (fmB a)) ∧ Below w.heap.size w w' := by
  have heq := run_eqRg
  have hgd := run_eqGR
  by_cases h1 : a.kd = 1
  · go_enter Tryz.func41, Tryz.ntmps41
    go_wp2_with fail
    all_goals go_ret
    all_goals (refine ⟨?_, by go_grown⟩)
    all_goals unfold fmB
    all_goals clear heq hgd
    all_goals simp_all [natbeq, emp_iff]
    all_goals (intros; omega)
  by_cases h2 : a.kd = 2
  · go_enter Tryz.func41, Tryz.ntmps41
    go_wp2_with fail
    all_goals go_ret
    all_goals (refine ⟨?_, by go_grown⟩)
    all_goals unfold fmB
    all_goals clear heq hgd
    all_goals simp_all [natbeq]
    all_goals (intros; omega)
  by_cases h3 : a.kd = 3
  · go_enter Tryz.func41, Tryz.ntmps41
    go_wp2_with fail
    all_goals go_ret
    all_goals (refine ⟨?_, by go_grown⟩)
    all_goals unfold fmB
    all_goals clear heq hgd
    all_goals simp_all [natbeq, emp_iff]
    all_goals (intros; omega)
  by_cases h4 : a.kd = 4
  · go_enter Tryz.func41, Tryz.ntmps41
    go_wp2_with fail
    all_goals go_ret
    all_goals (refine ⟨?_, by go_grown⟩)
    all_goals unfold fmB
    all_goals clear heq hgd
    all_goals simp_all [natbeq]
    all_goals (intros; omega)
  by_cases h5 : a.kd = 5
  · go_enter Tryz.func41, Tryz.ntmps41
    go_wp2_with fail
    all_goals go_ret
    all_goals (refine ⟨?_, by go_grown⟩)
    all_goals unfold fmB
    all_goals clear heq hgd
    all_goals simp_all [natbeq, emp_iff]
    all_goals (intros; omega)
  by_cases h6 : a.kd = 6
  · go_enter Tryz.func41, Tryz.ntmps41
    go_wp2_with fail
    all_goals go_ret
    all_goals (refine ⟨?_, by go_grown⟩)
    all_goals unfold fmB
    all_goals clear heq hgd
    all_goals simp_all [natbeq, emp_iff]
    all_goals (intros; omega)
  go_enter Tryz.func41, Tryz.ntmps41
  go_wp2_with fail
  all_goals go_ret
  all_goals (refine ⟨?_, by go_grown⟩)
  all_goals unfold fmB
  all_goals clear heq hgd
  all_goals (have hk : (decide (1 ≤ a.kd) && decide (a.kd ≤ 6)) = false := by simp; omega)
  all_goals simp [hk]

end Go.Proofs.YtncfejndmlcidaaGreat
