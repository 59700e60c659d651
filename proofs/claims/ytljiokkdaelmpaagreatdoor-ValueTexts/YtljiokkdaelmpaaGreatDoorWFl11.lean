/- The text of digits and an exponent, whatever they are; digits of a number, laid into an array. -/
import Derived.Test.YtljiokkdaelmpaaGreatDoorWFl9
import Derived.Test.YtljiokkdaelmpaaGreatDoorWFl10
namespace Go.Proofs.YtljiokkdaelmpaaGreatDoor
open Go.RowKit
set_option maxRecDepth 100000

theorem fmtE_any (B g : Nat) (neg : Bool) (D : List UInt8) (vb : Value) (bs : List UInt8) (dp : Int) (w : World) (hd1 : -500 ≤ dp) (hd2 : dp ≤ 500) (ho : OwnB w B vb bs) (hB : B ≤ w.heap.size) (hl : bs.length ≤ 1000) (hG : DigM w g D) (hD : D.length ≤ 30) :
    Calls Tryz.prog 93 #[vb, .bool neg, .slice (some ⟨g, 0, none⟩) 32 32, .int .i64 dp, .int .i64 (D.length : Nat), .int .i64 ((D.length - 1 : Nat) : Int), .int .u8 101, .bool true] w fun e w' => ∃ v', e = .returned v' ∧ OwnB w' B v' (bs ++ fmtE neg D dp) ∧ Keep5 B w w' := by
  match D, hG, hD with
  | [], _, _ => exact fmtE_zero B g neg [] _ vb bs dp 0 w rfl (by decide) hd1 hd2 ho hB hl
  | [a], hG, _ => exact fmtE_one B g neg a [a] [] vb bs dp 0 w rfl rfl hd1 hd2 ho hB hl hG rfl
  | a :: b :: r, hG, hD =>
    have h := fmtE_many B g neg a (a :: b :: r) (b :: r) (r.length + 1) vb bs dp ((r.length + 1 : Nat) : Int) w rfl rfl hd1 hd2 ho hB hl hG rfl (by omega) (by simp at hD; omega)
    exact h
/-- how many digits a number has, none for nought -/
def ndN (u : Nat) : Nat := if u = 0 then 0 else Lib.nDigits u
theorem ndN_le (u : Nat) (h : u < 18446744073709551616) : ndN u ≤ 20 ∧ u < 10 ^ ndN u := by
  unfold ndN
  split
  · rename_i h0
    subst h0
    exact ⟨by decide, by decide⟩
  · rename_i h0
    have h1 := Lib.numDigits_eq u (by omega) h
    refine ⟨?_, Lib.lt_pow_nDigits u⟩
    split at h1 <;> omega
/-- a number's digits, without noughts at the end -/
def digL (u : Nat) : List UInt8 := (List.range (trimN (fun t => Lib.dg u (ndN u - 1 - t)) (ndN u))).map (fun t => Lib.dg u (ndN u - 1 - t))
theorem digL_len (u : Nat) : (digL u).length = trimN (fun t => Lib.dg u (ndN u - 1 - t)) (ndN u) := by unfold digL; simp
theorem digL_at (u t : Nat) (ht : t < (digL u).length) : (digL u)[t] = Lib.dg u (ndN u - 1 - t) := by
  have h1 : (digL u)[t]? = some (Lib.dg u (ndN u - 1 - t)) := by
    have h2 := ht
    rw [digL_len] at h2
    unfold digL
    rw [List.getElem?_map, List.getElem?_range h2]
    rfl
  rw [List.getElem?_eq_getElem ht] at h1
  exact Option.some.inj h1
theorem numD_any (u : Nat) (h2 : u < 18446744073709551616) (w : World) (htab : Lib.TabIs Tryz.prog w "internal/strconv.uint64pow10" .u64 Lib.pow10Tab) :
    Calls Tryz.prog 61 #[.int .u64 (u : Nat)] w fun e w' => e = .returned (.int .i64 (ndN u : Nat)) ∧ w' = w := by
  by_cases h0 : u = 0
  · subst h0
    exact numDigits_zero w htab
  · have h := Tryz.internal_strconv_numDigits u (by omega) h2 w htab
    unfold ndN
    rw [if_neg h0]
    exact h
theorem setD_any (u g : Nat) (p : Int) (w : World) (hu64 : u < 18446744073709551616) (hp1 : -400 ≤ p) (hp2 : p ≤ 400) (hH : Row32 w g) (cs : Array Value) (hg : w.heap[g]? = some (.cells cs 109 (0, 0))) :
    Calls Tryz.prog 95 #[.slice (some ⟨g, 0, none⟩) 32 32, .int .u64 (u : Nat), .int .i64 p, .int .i64 (ndN u : Nat)] w fun e w' => e = .returned (.tuple #[.int .i64 ((ndN u : Int) + p), .int .i64 ((digL u).length : Nat)]) ∧ DigM w' g (digL u) ∧ Below g w w' := by
  obtain ⟨h1, h2⟩ := ndN_le u hu64
  refine (setDigits_any u (ndN u) g p w h2 hu64 h1 hp1 hp2 hH cs _ hg).mono ?_
  rintro e w' ⟨rfl, hc, ⟨cs', hk⟩, hb⟩
  refine ⟨by rw [digL_len], ⟨cs', hk, fun t ht => ?_⟩, hb⟩
  have hl := trimN_le (fun t => Lib.dg u (ndN u - 1 - t)) (ndN u)
  have ht' := ht
  rw [digL_len] at ht'
  have h9 := hc t (by omega)
  simp only [World.cell?, hk] at h9
  rw [digL_at u t ht]
  simpa using h9
end Go.Proofs.YtljiokkdaelmpaaGreatDoor
