/- The walk of the function that appends a text to a key. Rows as bytes: varints, zigzag, pairs of bits. -/
import Derived.Test.YteadniomgbhecaaGreatDoorGWEnc
import Derived.Test.YteadniomgbhecaaGreatDoorGMCode
namespace Go.Proofs.YteadniomgbhecaaGreatDoor
open Go.RowKit
set_option maxRecDepth 100000

theorem esc_snoc (s : List UInt8) (c : UInt8) : esc (s ++ [c]) = esc s ++ (if c = 0 then [0, 255] else [c]) := by
  induction s with
  | nil => simp [esc]
  | cons a s ih => simp only [List.cons_append, esc, ih]; split <;> simp
theorem esc_take (s : ByteArray) (j : Nat) (hj : j < s.size) : esc (s.data.toList.take (j + 1)) = esc (s.data.toList.take j) ++ (if s[j] = 0 then [0, 255] else [s[j]]) := by
  rw [← List.take_append_getElem (by simpa using hj), esc_snoc]
  rfl
theorem esc_len (s : List UInt8) : (esc s).length ≤ 2 * s.length := by
  induction s with
  | nil => simp [esc]
  | cons a s ih => simp only [esc]; split <;> simp <;> omega

set_option maxHeartbeats 1000000 in
theorem appendString_any (B : Nat) (v : Value) (bs : List UInt8) (s : ByteArray) (w : World) (hB : B ≤ w.heap.size) (ho : OwnB w B v bs) (hs : s.size ≤ 65536) (hl : bs.length ≤ 1099511627775) :
    Calls Tryz.prog 41 #[v, .string s] w fun e w' => ∃ v', e = .returned v' ∧ OwnB w' B v' (bs ++ ended s.data.toList) ∧ Keep5 B w w' := by
  go_enter Tryz.func41, Tryz.ntmps41
  go_wp2_with fail
  go_loopw [0, 8] (fun v' i wr => ∃ j : Nat, j ≤ s.size ∧ i = .int .i64 (j : Int) ∧ OwnB wr B v' (bs ++ esc (s.data.toList.take j)) ∧ Keep5 B w wr) (fun _ i _ => s.size - (intOf i).toNat)
  case atStart => exact ⟨0, Nat.zero_le _, by go_num, by simpa [esc] using ho, Keep5.refl _ _⟩
  case round =>
    obtain ⟨j, hj, rfl, hown, hkp⟩ := hrel
    have hz := hkp.below.size
    have hlen : (bs ++ esc (s.data.toList.take j)).length ≤ 1099511758847 := by
      have h1 := esc_len (s.data.toList.take j)
      simp only [List.length_take, List.length_append] at h1 ⊢
      omega
    have HO : Hid (OwnB _ B _ (bs ++ esc (s.data.toList.take j)) ∧ Keep5 B w _ ∧ (bs ++ esc (s.data.toList.take j)).length ≤ 1099511758847) := ⟨hown, hkp, hlen⟩
    clear hown hkp hlen ho
    by_cases hj0 : j = s.size
    · subst hj0
      go_wp2_with (at_builtin; refine wpList_app1 _ rfl _ _ rfl B _ _ rfl HO.out.1 0 _ ?zz rfl ?ll ?bb ?_)
      case zz => rfl
      case ll => have := HO.out.2.2; omega
      case bb => omega
      intro v' w1 h1 h2
      have R : Hid (OwnB w1 B v' (bs ++ ended s.data.toList) ∧ Keep5 B w w1) := ⟨by
        have e : s.data.toList.take s.size = s.data.toList := List.take_of_length_le (by simp)
        rw [e] at h1
        simpa [ended] using h1, HO.out.2.1.trans h2⟩
      clear h1 h2
      go_wp2
      go_ret
      exact ⟨_, rfl, R.out.1, R.out.2⟩
    · have hj1 : j < s.size := by omega
      obtain ⟨c, hc⟩ : ∃ c, c = s[j] := ⟨_, rfl⟩
      have HC : Hid (c = s[j]) := hc
      have hch : s[j] = c := hc.symm
      clear hc
      by_cases hc : c = 0
      · subst hc
        have hc0 : (s[j].toNat : Int) = 0 := by rw [hch]; rfl
        go_wp2_with (first | (at_builtin; refine wpList_app1 _ rfl (.tmp 11) _ rfl B _ _ rfl HO.out.1 0 _ ?zz1 rfl ?ll1 ?bb1 ?_))
        case zz1 => rfl
        case ll1 => have := HO.out.2.2; omega
        case bb1 => omega
        intro v1 w1 h1 h2
        have hz1 := h2.below.size
        have R1 : Hid (OwnB w1 B v1 (bs ++ (esc (s.data.toList.take j) ++ [0])) ∧ Keep5 B w w1) := ⟨h1, HO.out.2.1.trans h2⟩
        clear h1 h2
        go_wp2_with (first | (at_builtin; refine wpList_app1 _ rfl (.tmp 21) _ rfl B _ _ rfl R1.out.1 255 _ ?zz2 rfl ?ll2 ?bb2 ?_))
        case zz2 => rfl
        case ll2 => have := HO.out.2.2; simp only [List.length_append, List.length_cons, List.length_nil] at this ⊢; omega
        case bb2 => omega
        intro v2 w2 h1 h2
        have R2 : Hid (OwnB w2 B v2 (bs ++ esc (s.data.toList.take (j + 1))) ∧ Keep5 B w w2) := ⟨by
          rw [esc_take s j hj1, ← HC.out, if_pos rfl]
          simpa using h1, R1.out.2.trans h2⟩
        clear h1 h2
        go_wp2
        go_roundw
        case rel => exact ⟨j + 1, by omega, by go_num, R2.out.1, R2.out.2⟩
        case measure => simp [intOf]; omega
      · have hc0 : 0 < (c.toNat : Int) := by
          rcases Nat.eq_zero_or_pos c.toNat with h | h
          · exact absurd (UInt8.toNat_inj.1 (h.trans rfl)) hc
          · omega
        have HC0 : Hid (¬ c = 0) := hc
        clear hc
        go_wp2_with (first | (at_builtin; refine wpList_app1 _ rfl (.tmp 11) _ rfl B _ _ rfl HO.out.1 c _ ?zz1 rfl ?ll1 ?bb1 ?_))
        case zz1 => first | rfl | rw [HC.out]
        case ll1 => have := HO.out.2.2; omega
        case bb1 => omega
        intro v1 w1 h1 h2
        have hz1 := h2.below.size
        have R2 : Hid (OwnB w1 B v1 (bs ++ esc (s.data.toList.take (j + 1))) ∧ Keep5 B w w1) := ⟨by
          rw [esc_take s j hj1, ← HC.out, if_neg HC0.out]
          simpa using h1, HO.out.2.1.trans h2⟩
        clear h1 h2
        go_wp2
        go_roundw
        case rel => exact ⟨j + 1, by omega, by go_num, R2.out.1, R2.out.2⟩
        case measure => simp [intOf]; omega

end Go.Proofs.YteadniomgbhecaaGreatDoor

namespace Go.Proofs.YteadniomgbhecaaGreatDoor
open Go.RowKit
set_option maxRecDepth 100000

/-- a number's varint, of k + 1 bytes at most -/
def varK : Nat → Nat → List UInt8
  | 0, n => [UInt8.ofNat n]
  | k + 1, n => if n < 128 then [UInt8.ofNat n] else UInt8.ofNat (n % 128 + 128) :: varK k (n / 128)
def varB (n : Nat) : List UInt8 := varK 9 n
theorem varK_small {k n : Nat} (h : n < 128) : varK k n = [UInt8.ofNat n] := by
  cases k with
  | zero => rfl
  | succ k => rw [varK, if_pos h]
theorem varK_big {k n : Nat} (h : ¬ n < 128) : varK (k + 1) n = UInt8.ofNat (n % 128 + 128) :: varK k (n / 128) := by rw [varK, if_neg h]
theorem varK_len : ∀ (k n : Nat), (varK k n).length ≤ k + 1
  | 0, _ => by simp [varK]
  | k + 1, n => by
    rw [varK]
    split
    · simp
    · have := varK_len k (n / 128)
      simp only [List.length_cons]
      omega
theorem varB_len (n : Nat) : (varB n).length ≤ 10 := varK_len 9 n
/-- zigzag of an int -/
def zig (n : Int) : Nat := if 0 ≤ n then (2 * n).toNat else (-2 * n - 1).toNat
theorem zig_lt {n : Int} (h1 : -9223372036854775808 ≤ n) (h2 : n ≤ 9223372036854775807) : zig n < 18446744073709551616 := by unfold zig; split <;> omega
/-- the two bits of a value -/
def pairN (v : Vl) : Nat := if v.k = 0 then 0 else if v.k = 1 ∧ v.n = 1 then 2 else 1
theorem pairN_lt (v : Vl) : pairN v < 3 := by unfold pairN; split <;> (try split) <;> omega
/-- eight bytes, the lowest first -/
def loB (f : Nat) (k : Nat) : List UInt8 := (List.range k).map fun i => UInt8.ofNat (f / 256 ^ i)
theorem loB_succ (f k : Nat) : loB f (k + 1) = loB f k ++ [UInt8.ofNat (f / 256 ^ k)] := by simp [loB, List.range_succ]
theorem loB_len (f k : Nat) : (loB f k).length = k := by simp [loB]
/-- what stands of a value behind the bits -/
def toldB (v : Vl) : List UInt8 := if v.k = 2 then varB (zig v.n) else if v.k = 3 then loB v.f 8 else if v.k = 4 ∨ v.k = 5 then varB v.s.size ++ v.s.data.toList else []
theorem toldB_len (v : Vl) : (toldB v).length ≤ 10 + v.s.size := by
  unfold toldB
  have := varB_len (zig v.n)
  have := varB_len v.s.size
  split
  · omega
  · split
    · rw [loB_len]; omega
    · split
      · simp; omega
      · simp
/-- the bits of the first j values, in n bytes -/
def packK (n : Nat) (l : List Vl) : Nat → List UInt8
  | 0 => List.replicate n 0
  | j + 1 => (packK n l j).modify (j / 4) fun b => match l[j]? with
    | some v => b ||| UInt8.ofNat (pairN v * 4 ^ (j % 4))
    | none => b
theorem packK_len (n : Nat) (l : List Vl) : ∀ j, (packK n l j).length = n
  | 0 => by simp [packK]
  | j + 1 => by simp [packK, packK_len n l j]
/-- a row's bytes -/
def rowB (l : List Vl) : List UInt8 := packK ((l.length + 3) / 4) l l.length ++ l.flatMap toldB
theorem packK_succ {n : Nat} {l : List Vl} {j : Nat} (hj : j < l.length) (hn : j / 4 < n) : packK n l (j + 1) = (packK n l j).set (j / 4) ((packK n l j)[j / 4]'(by rw [packK_len]; exact hn) ||| UInt8.ofNat (pairN l[j] * 4 ^ (j % 4))) := by
  rw [packK, List.getElem?_eq_getElem hj]
  apply List.ext_getElem (by simp)
  intro i h1 h2
  rw [List.getElem_modify, List.getElem_set]
  split
  · rename_i e
    subst e
    rfl
  · rfl

end Go.Proofs.YteadniomgbhecaaGreatDoor
