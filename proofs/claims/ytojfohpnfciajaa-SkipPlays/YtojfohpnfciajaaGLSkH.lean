/- Layer 12: what SkipTurns and SkipLevels share. Layer 12: the document's side: Find, Get. -/
import Derived.Laws.StructEq
import Derived.Test.YtojfohpnfciajaaGMTurn12
namespace Go.Proofs.Ytojfohpnfciajaa
open Go.RowKit
set_option maxRecDepth 100000

theorem sk {P : Program} {ops : Array Oper} {Q : Exit → Act → World → Prop} (i : Nat) {oi : Oper} {fuel : Nat} {listed : Array Bool} {a : Act} {w : World} (hi : nthO ops.toList i = some oi)
    (h : wpAny P .any ops Q fuel (listed.setIfInBounds i true) (a.put oi.dst undef) w)
    (hs : Region.noSelect ops = true := by kernel_rfl) (hf : Region.free .any ops listed i = true := by kernel_rfl) (hr : (Region.ready .any ops listed).contains i = true := by kernel_rfl)
    (hQ : ∀ c a w, Q (.panic c) (a.put oi.dst undef) w → Q (.panic c) a w := by exact fun _ _ _ h => h) (hw : Region.wanted oi (yielded ops a.tmps) = false := by rfl) : wpAny P .any ops Q (fuel + 1) listed a w := anyN_take i hi hs hf hr hQ (Or.inr ⟨hw, rfl⟩) h
theorem lt_ne {a b : ByteArray} (h : ltB a b = true) : (b.toList == a.toList) = false := by
  cases hc : (b.toList == a.toList) with
  | false => rfl
  | true =>
    have e := eq_of_beq hc
    unfold ltB at h
    rw [e] at h
    have h2 := ltB_irrefl a
    unfold ltB at h2
    rw [h2] at h
    cases h
theorem wrap64_nat {n : Nat} (h : n < 9000000000000000000) : IntKind.i64.wrap (n : Int) = (n : Int) := by
  simp [IntKind.wrap, IntKind.bits, IntKind.signed]
  omega
/-- entries that are read -/
def RdE (w : World) (p : Option Addr) (S : List En) : Prop := ∀ i (hi : i < S.length), ∃ g, p = some ⟨g, 0, none⟩ ∧ g < w.heap.size ∧ w.cell? ⟨g, i * 3, none⟩ = some (.string S[i].k) ∧ w.cell? ⟨g, i * 3 + 1, none⟩ = some (.int .i64 S[i].v) ∧ w.cell? ⟨g, i * 3 + 2, none⟩ = some (.int .i64 (S[i].h : Nat))
theorem RdE.on {w w' : World} {p : Option Addr} {S : List En} (h : RdE w p S) (hb : Below w.heap.size w w') : RdE w' p S := by
  intro i hi
  obtain ⟨g, e, hg, c0, c1, c2⟩ := h i hi
  have k : ∀ n v, w.cell? ⟨g, n, none⟩ = some v → w'.cell? ⟨g, n, none⟩ = some v := fun n v hc => (hb.cell (p := ⟨g, n, none⟩) hg).trans hc
  exact ⟨g, e, Nat.lt_of_lt_of_le hg hb.size, k _ _ c0, k _ _ c1, k _ _ c2⟩
theorem own_rd {w : World} {B : Nat} {v : Value} {S : List En} (h : OwnE w B v S) : ∃ p c, v = .slice p S.length c ∧ RdE w p S := by
  obtain ⟨p, c, rfl, -⟩ := owns_len h
  refine ⟨p, c, rfl, fun i hi => ?_⟩
  obtain ⟨g, cap, e, -, hg⟩ := owns_form h (by omega)
  cases e
  have kk : ∀ t, t < 3 → w.cell? ⟨g, i * 3 + t, none⟩ = (enC S[i])[t]? := by
    intro t ht
    have h1 := World.ownsRow.cellAt h (i * 3 + t) (by omega)
    rw [h1, flat_at 3 enC (fun _ => rfl) S i hi t ht]
  exact ⟨g, rfl, hg, kk 0 (by decide), kk 1 (by decide), kk 2 (by decide)⟩
/-- a look in a box, beside a list -/
structure TuS (w wq w1 : World) (lb : Nat) (E : List En) (a : LkR) : Prop where
  l : SkL w1 wq lb E
  x : Blk wq w.heap.size #[.string a.k, .string a.lo, .string a.hi, .bool a.op, .bool a.back, .int .i64 a.most] 38
  b : Below w.heap.size w wq
theorem TuS.on {w wq w1 w' : World} {lb : Nat} {E : List En} {a : LkR} (h : TuS w wq w1 lb E a) (hb : Below wq.heap.size wq w') : TuS w w' w1 lb E a := ⟨h.l.on hb, h.x.on hb, h.b.trans (hb.mono h.b.size)⟩

set_option maxHeartbeats 1000000 in
theorem run_eqE (k : ByteArray) (v h : Int) (w : World) : (Op.equalIn 10000 48 (.agg #[.string k, .int .i64 v, .int .i64 h]) (.agg #[.string k, .int .i64 v, .int .i64 h])).run Try.prog w = .ok true w := by
  have u9 := Try.underlying9
  have a9 := Try.isAgg9
  have z9 := Try.sizeOf9
  have u4 := Try.underlying3
  have a4 := Try.isAgg3
  have z4 := Try.sizeOf3
  have u5 := Try.underlying2
  have a5 := Try.isAgg2
  have z5 := Try.sizeOf2
  have hS : Try.prog.underlying 48 = some (.struct (Try.prog.fieldsOf 48)) := by kernel_rfl
  have hp : Try.prog.stoodInHeld 48 = false := by kernel_rfl
  rw [show (10000 : Nat) = 9999 + 1 from rfl, run_equalIn_agg w 9999 48 _ _ hS hp]
  simp only [Program.fieldsOf, Try.underlying48]
  go_simp
theorem run_eqGE (op : BinOp) (x y : Operand) (xs ys : Array Value) (w : World) : (eqGuard op 48 x y (.agg xs) (.agg ys)).run Try.prog w = .ok () w :=
  run_eqGuard_agg w op 48 x y _ _ (by kernel_rfl)

end Go.Proofs.Ytojfohpnfciajaa

namespace Go.Proofs.Ytojfohpnfciajaa
open Go.RowKit
set_option maxRecDepth 100000

set_option maxHeartbeats 4000000 in
theorem rfind_any (S : List En) (p : Option Addr) (c : Nat) (k : ByteArray) (w : World) (hR : RdE w p S) (hl : S.length < 4000000000000) :
    Calls Try.prog 54 #[.slice p S.length c, .string k] w fun e w' => e = .returned (.int .i64 (fnd S k : Nat)) ∧ w' = w := by
  have HR : Hid (RdE w p S) := hR
  clear hR
  go_enter Try.func54, Try.ntmps54
  go_wp2_with fail
  go_loopw [5] (fun si wq => ∃ i : Nat, i ≤ fnd S k ∧ si = .int .i64 (i : Int) ∧ wq = w) (fun si _ => ((S.length : Int) - intOf si).toNat)
  case atStart => exact ⟨0, by omega, rfl, rfl⟩
  case round =>
    obtain ⟨i, hi, rfl, rfl⟩ := hrel
    have hle := fnd_le S k
    rcases Nat.lt_or_eq_of_le (Nat.le_trans hi hle) with hlt | heq
    · have g1 : decide ((i : Int) < (S.length : Int)) = true := by simp; omega
      obtain ⟨ga, rfl, -, a0, -, -⟩ := HR.out i hlt
      rcases Nat.lt_or_eq_of_le hi with h1 | h1
      · have g2 : Op.bytesLess S[i].k.toList k.toList = true := fnd_lt h1 hlt
        go_wp2_with fail
        go_roundw
        case rel => exact ⟨i + 1, by omega, by go_num, trivial⟩
        case measure => simp [intOf]; omega
      · have hf : fnd S k < S.length := by omega
        have g2 : Op.bytesLess S[i].k.toList k.toList = false := by
          have := fnd_at hf
          subst h1
          exact this
        have HI : Hid (i = fnd S k) := h1
        clear h1 hf hi hle
        go_wp2_with fail
        go_ret
        exact ⟨by rw [← HI.out]; rfl, rfl⟩
    · have g1 : decide ((i : Int) < (S.length : Int)) = false := by simp; omega
      have HI : Hid (fnd S k = S.length) := by
        have : fnd S k = S.length := by omega
        exact this
      clear hi hle
      go_wp2_with fail
      go_ret
      exact ⟨by rw [HI.out]; rfl, rfl⟩

set_option maxHeartbeats 4000000 in
theorem rget_any (S : List En) (p : Option Addr) (c : Nat) (k : ByteArray) (w : World) (hR : RdE w p S) (hl : S.length < 4000000000000) :
    Calls Try.prog 27 #[.slice p S.length c, .string k] w fun e w' => e = .returned (.tuple #[.int .i64 (valO (getE S k)), .bool (getE S k).isSome]) ∧ w' = w := by
  have C1 : Hid (Calls _ _ _ _ _) := rfind_any S p c k w hR hl
  have HR : Hid (RdE w p S) := hR
  clear hR
  go_enter Try.func27, Try.ntmps27
  go_wp2_with fail
  refine C1.out.mono ?_
  rintro e w9 ⟨rfl, hw9⟩
  rw [hw9]
  clear hw9 C1
  have hle := fnd_le S k
  rcases Nat.lt_or_eq_of_le hle with hlt | heq
  · obtain ⟨ga, rfl, -, a0, a1, -⟩ := HR.out _ hlt
    by_cases he : S[fnd S k].k = k
    · have HG : Hid (getE S k = some S[fnd S k]) := by
        unfold getE
        rw [List.getElem?_eq_getElem hlt]
        exact if_pos he
      rw [he] at a0
      generalize S[fnd S k] = e0 at *
      obtain ⟨m, hm⟩ : ∃ m, fnd S k = m := ⟨_, rfl⟩
      rw [hm] at hlt hle a0 a1 ⊢
      clear hm he
      go_wp2_with fail
      go_ret2
      exact ⟨by rw [HG.out]; rfl, rfl⟩
    · have HG : Hid (getE S k = none) := by
        unfold getE
        rw [List.getElem?_eq_getElem hlt]
        exact if_neg he
      have g2 : (S[fnd S k].k.toList == k.toList) = false := by
        cases hc : (S[fnd S k].k.toList == k.toList) with
        | false => rfl
        | true =>
          have e := eq_of_beq hc
          rw [ByteArray.toList_eq, ByteArray.toList_eq] at e
          exact absurd (ByteArray.ext (Array.toList_inj.1 e)) he
      generalize S[fnd S k] = e0 at *
      obtain ⟨m, hm⟩ : ∃ m, fnd S k = m := ⟨_, rfl⟩
      rw [hm] at hlt hle a0 a1 ⊢
      clear hm he
      go_wp2_with fail
      go_ret2
      exact ⟨by rw [HG.out]; rfl, rfl⟩
  · have HG : Hid (getE S k = none) := by
      unfold getE
      rw [List.getElem?_eq_none (by omega)]
      rfl
    rw [heq]
    clear heq hle
    go_wp2_with fail
    go_ret2
    exact ⟨by rw [HG.out]; rfl, rfl⟩

end Go.Proofs.Ytojfohpnfciajaa
