/- Ranges sorted by their beginnings: slices.SortFunc with the program's function. Plain mathematics: what a key is read as, and that this leads there and back. Plain mathematics: reading a code and writing it lead back to one another. -/
import Derived.Test.YtcjpindbplppgaaDoorGWBoth
import Derived.Test.YtcjpindbplppgaaDoorGWShS
import Derived.Test.YtcjpindbplppgaaDoorGMCode
namespace Go.Proofs
open Go.Shelf Go.RowKit Go.Lib Go.Sort
namespace YtcjpindbplppgaaDoor
set_option maxRecDepth 100000

set_option maxHeartbeats 1000000 in
theorem isNaNs_any (x : ByteArray) (w : World) : Calls Tryd.prog 55 #[.string x] w fun e w' => e = .returned (.bool false) ∧ w' = w := by
  have h : (x.toList != x.toList) = false := by simp [bne]
  go_enter Tryd.func55, Tryd.ntmps55
  go_wp2
  go_ret
  exact ⟨rfl, rfl⟩

set_option maxHeartbeats 1000000 in
theorem compareS_any (x y : ByteArray) (w : World) : Calls Tryd.prog 36 #[.string x, .string y] w fun e w' => e = .returned (.int .i64 (cmpS x y)) ∧ w' = w := by
  unfold cmpS
  cases h1 : Op.bytesLess x.toList y.toList <;> cases h2 : (x.toList == y.toList)
  all_goals
    go_enter Tryd.func36, Tryd.ntmps36
    go_wp2_with (first | (go_at_call 55; refine (isNaNs_any _ _).mono ?_; rintro e w1 ⟨rfl, hww⟩; obtain rfl := hww.symm))
    go_ret
    exact ⟨rfl, rfl⟩

def encR (r : Rg) : List Value := [.string r.lo, .string r.hi, .bool r.op]
def cfR (x y : Rg) : Int := cmpS x.lo y.lo

set_option maxHeartbeats 1000000 in
theorem closureR (x y : Rg) (W : World) : Calls Tryd.prog 35 #[.agg #[.string x.lo, .string x.hi, .bool x.op], .agg #[.string y.lo, .string y.hi, .bool y.op]] W fun e w' => e = .returned (.int .i64 (cfR x y)) ∧ ∃ q os', w' = grow (W.drewN q) os' := by
  have C1 : Hid (∀ w1 : World, Calls _ _ _ _ _) := fun w1 => compareS_any x.lo y.lo w1
  unfold cfR
  generalize cmpS x.lo y.lo = r at *
  go_enter Tryd.func35, Tryd.ntmps35
  go_wp2_with (go_at_call 36; refine (C1.out _).mono ?_; rintro e w' ⟨rfl, rfl⟩)
  go_ret
  exact ⟨rfl, 0, _, by rw [alloc_eq_grow, alloc_eq_grow, grow_grow]; rfl⟩

theorem cmpLaysR [Inhabited Rg] (blk off size : Nat) (w : World) : CmpLays Tryd.prog 35 #[] encR 3 cfR blk off size w := fun _ _ _ _ x y => closureR x y _

theorem ltOf_cf (x y : Rg) : ltOf cfR x y = ltB x.lo y.lo := by
  unfold ltOf cfR cmpS ltB
  cases h1 : Op.bytesLess x.lo.toList y.lo.toList <;> cases h2 : (x.lo.toList == y.lo.toList) <;> rfl
theorem swoR : SWO (ltOf cfR) where
  irrefl x := by rw [ltOf_cf]; exact ltB_irrefl _
  trans x y z h1 h2 := by rw [ltOf_cf] at *; exact lt_trans' h1 h2
  ntrans x y z h1 h2 := by rw [ltOf_cf] at *; exact le_trans' h2 h1

set_option maxHeartbeats 1000000 in
/-- slices.SortFunc, as Union calls it -/
theorem sortR_any [Inhabited Rg] (blk off cap : Nat) (d : Array Rg) (w : World) (hH : HoldsK encR 3 w blk off d) (hblk : blk < w.heap.size) (hsz : d.size < 4611686018427387904) :
    Calls Tryd.prog 34 #[.slice (some ⟨blk, off, none⟩) d.size cap, .func (.func 35) #[] #[]] w fun e w' => e = .returned (.tuple #[]) ∧ ∃ d' n os, PermIn 0 d.size d d' ∧ SortedIn (ltOf cfR) 0 d.size d' ∧ w' = sortWorldK encR 3 w blk off n d' os := by
  have eg : ∀ args w, (callFunc 35 args).run Tryd.prog w = .ok (.enter 35 args) w := enters_of Tryd.func35 (by kernel_rfl) rfl
  have hcon := AnyQ.slices_SortFunc Tryd.sortRg 3 Tryd.isAgg35 Tryd.sizeOf35 encR (fun _ => rfl) (fun x v hv => by simp [encR] at hv; rcases hv with rfl | rfl | rfl <;> rfl) cfR swoR 35 #[] blk off cap d w eg (cmpLaysR blk off d.size w) hH hblk hsz
  change Calls Tryd.prog 34 _ _ _ at hcon
  exact hcon
end YtcjpindbplppgaaDoor

end Go.Proofs

namespace Go.Proofs.YtcjpindbplppgaaDoor
open Ieee
set_option maxRecDepth 100000

def num (l : List UInt8) : Nat := l.foldl (fun n b => n * 256 + b.toNat) 0
theorem num_foldl (l : List UInt8) (a : Nat) : l.foldl (fun n b => n * 256 + b.toNat) a = a * 256 ^ l.length + num l := by
  unfold num
  induction l generalizing a with
  | nil => simp
  | cons c l ih =>
    rw [List.foldl_cons, List.foldl_cons, ih, ih (0 * 256 + c.toNat), List.length_cons, Nat.pow_succ, Nat.add_mul, Nat.mul_assoc, Nat.mul_comm 256, Nat.zero_mul, Nat.zero_add]
    omega
theorem num_cons (c : UInt8) (l : List UInt8) : num (c :: l) = c.toNat * 256 ^ l.length + num l := by
  have := num_foldl l (0 * 256 + c.toNat)
  simp only [Nat.zero_mul, Nat.zero_add] at this
  unfold num
  rw [List.foldl_cons]
  simpa [num] using this
theorem num_snoc (l : List UInt8) (c : UInt8) : num (l ++ [c]) = num l * 256 + c.toNat := by
  unfold num; rw [List.foldl_append]; rfl
theorem num_lt (l : List UInt8) : num l < 256 ^ l.length := by
  induction l with
  | nil => simp [num]
  | cons c l ih =>
    rw [num_cons, List.length_cons, Nat.pow_succ]
    have hc : c.toNat < 256 := c.toNat_lt
    have h1 : (c.toNat + 1) * 256 ^ l.length ≤ 256 * 256 ^ l.length := Nat.mul_le_mul_right _ hc
    rw [Nat.add_mul] at h1
    rw [Nat.mul_comm (256 ^ l.length) 256]
    omega
theorem num_hiB (n : Nat) : ∀ k, num (hiB n k) = n % 256 ^ k
  | 0 => by simp [hiB, num, Nat.mod_one]
  | k + 1 => by
    rw [hiB, num_cons, num_hiB n k, hiB_len, ofNat_toNat8, Nat.pow_succ, Nat.mod_mul, Nat.mul_comm, Nat.add_comm]
theorem hiB_num : ∀ l : List UInt8, hiB (num l) l.length = l
  | [] => rfl
  | c :: l => by
    have hl := num_lt l
    have hc : c.toNat < 256 := c.toNat_lt
    have hp : 0 < 256 ^ l.length := Nat.pow_pos (by decide)
    rw [List.length_cons, hiB, num_cons]
    congr 1
    · apply UInt8.toNat_inj.1
      rw [ofNat_toNat8]
      have : (c.toNat * 256 ^ l.length + num l) / 256 ^ l.length = c.toNat := by
        rw [Nat.mul_comm, Nat.mul_add_div hp, Nat.div_eq_of_lt hl]; rfl
      rw [this, Nat.mod_eq_of_lt hc]
    · rw [← hiB_num l]
      conv => rhs; rw [hiB_num l]
      rw [hiB_len]
      conv => rhs; rw [← hiB_num l]
      apply hiB_mod
      rw [Nat.mul_comm, Nat.mul_add_mod, hiB_num l]

/-- a text, read -/
def rdStr : List UInt8 → Option (List UInt8 × Nat)
  | [] => none
  | c :: r => if c = 0 then (match r with
      | [] => some ([], 1)
      | d :: r' => if d = 255 then (rdStr r').map (fun x => (0 :: x.1, x.2 + 2)) else some ([], 1))
    else (rdStr r).map (fun x => (c :: x.1, x.2 + 1))
theorem rdStr_nz {c : UInt8} {r : List UInt8} (h : c ≠ 0) : rdStr (c :: r) = (rdStr r).map (fun x => (c :: x.1, x.2 + 1)) := by rw [rdStr.eq_def]; simp [h]
theorem rdStr_e : rdStr [0] = some ([], 1) := by rw [rdStr.eq_def]; simp
theorem rdStr_z (d : UInt8) (r : List UInt8) : rdStr (0 :: d :: r) = if d = 255 then (rdStr r).map (fun x => (0 :: x.1, x.2 + 2)) else some ([], 1) := by rw [rdStr.eq_def]; simp
theorem rdStr_n : rdStr [] = none := by rw [rdStr.eq_def]
theorem rdStr_ended : ∀ (s rest : List UInt8), okT rest → rdStr (esc s ++ 0 :: rest) = some (s, (esc s).length + 1)
  | [], rest, h => by
    simp only [esc, List.nil_append]
    cases rest with
    | nil => rw [rdStr_e]; rfl
    | cons d r =>
      have hd := h d r rfl
      have : d ≠ 255 := fun e => by subst e; exact absurd hd (by decide)
      rw [rdStr_z, if_neg this]; rfl
  | c :: s, rest, h => by
    have ih := rdStr_ended s rest h
    by_cases hc : c = 0
    · subst hc
      simp only [esc, if_true, List.cons_append]
      rw [rdStr_z, if_pos rfl, ih]; rfl
    · simp only [esc, hc, if_false, List.cons_append]
      rw [rdStr_nz hc, ih]; rfl
theorem rdStr_back : ∀ (n : Nat) (l t : List UInt8) (m : Nat), l.length ≤ n → rdStr l = some (t, m) → m ≤ l.length ∧ ended t = l.take m ∧ 0 < m
  | 0, l, t, m, hn, h => by
    have : l = [] := List.eq_nil_of_length_eq_zero (by omega)
    subst this
    rw [rdStr_n] at h
    cases h
  | n + 1, [], t, m, hn, h => by rw [rdStr_n] at h; cases h
  | n + 1, c :: r, t, m, hn, h => by
    simp only [List.length_cons] at hn
    by_cases hc : c = 0
    · subst hc
      cases r with
      | nil =>
        rw [rdStr_e] at h
        simp at h
        obtain ⟨rfl, rfl⟩ := h
        simp [ended, esc]
      | cons d r' =>
        rw [rdStr_z] at h
        by_cases hd : d = 255
        · subst hd
          simp only [if_true, Option.map_eq_some_iff] at h
          obtain ⟨⟨t', m'⟩, h1, h2⟩ := h
          simp only [Prod.mk.injEq] at h2
          obtain ⟨rfl, rfl⟩ := h2
          obtain ⟨i1, i2, i3⟩ := rdStr_back n r' t' m' (by simp at hn; omega) h1
          refine ⟨by simp; omega, ?_, by omega⟩
          have : ended (0 :: t') = 0 :: 255 :: ended t' := by simp [ended, esc]
          rw [this, i2]
          rfl
        · simp only [hd, if_false, Option.some.injEq, Prod.mk.injEq] at h
          obtain ⟨rfl, rfl⟩ := h
          simp [ended, esc]
    · rw [rdStr_nz hc] at h
      simp only [Option.map_eq_some_iff] at h
      obtain ⟨⟨t', m'⟩, h1, h2⟩ := h
      simp only [Prod.mk.injEq] at h2
      obtain ⟨rfl, rfl⟩ := h2
      obtain ⟨i1, i2, i3⟩ := rdStr_back n r t' m' (by omega) h1
      refine ⟨by simp; omega, ?_, by omega⟩
      have : ended (c :: t') = c :: ended t' := by simp [ended, esc, hc]
      rw [this, i2]
      rfl

def vNull : Vl := ⟨0, 0, 0, ⟨#[]⟩⟩
def vBool (b : Bool) : Vl := ⟨1, if b then 1 else 0, 0, ⟨#[]⟩⟩
def vInt (n : Int) : Vl := ⟨2, n, 0, ⟨#[]⟩⟩
def vFlo (f : Nat) : Vl := ⟨3, 0, f, ⟨#[]⟩⟩
def vStr (k : Int) (s : List UInt8) : Vl := ⟨k, 0, 0, ⟨s.toArray⟩⟩
/-- an int, read behind its tag -/
def rdInt : List UInt8 → Option (Vl × Nat)
  | [] => none
  | h :: r =>
    if 128 ≤ h.toNat then
      (if 8 < h.toNat - 128 ∨ r.length < h.toNat - 128 then none
       else if 9223372036854775807 < num (r.take (h.toNat - 128)) ∨ sz (num (r.take (h.toNat - 128))) ≠ h.toNat - 128 then none
       else some (vInt (num (r.take (h.toNat - 128))), 1 + (h.toNat - 128)))
    else
      (if 8 < 128 - h.toNat ∨ r.length < 128 - h.toNat then none
       else if 9223372036854775807 < 256 ^ (128 - h.toNat) - 1 - num (r.take (128 - h.toNat)) ∨ max (sz (256 ^ (128 - h.toNat) - 1 - num (r.take (128 - h.toNat)))) 1 ≠ 128 - h.toNat then none
       else some (vInt (-((256 ^ (128 - h.toNat) - 1 - num (r.take (128 - h.toNat)) : Nat) : Int) - 1), 1 + (128 - h.toNat)))
def unG (b : Nat) : Nat := if b < 9223372036854775808 then 18446744073709551615 - b else b - 9223372036854775808
def rdFlo (s : List UInt8) : Option (Vl × Nat) :=
  if s.length < 8 then none else if plainF (unG (num (s.take 8))) = unG (num (s.take 8)) then some (vFlo (unG (num (s.take 8))), 8) else none
def rdTxt (k : Int) (s : List UInt8) : Option (Vl × Nat) :=
  match rdStr s with
  | none => none
  | some x => if (vStr k x.1).chk = 0 then some (vStr k x.1, x.2) else none
def rdBool : List UInt8 → Option (Vl × Nat)
  | [] => none
  | c :: _ => if 1 < c.toNat then none else some (vBool (c == 1), 1)
/-- a value, read behind its tag -/
def rdV (tag : UInt8) (s : List UInt8) : Option (Vl × Nat) :=
  if tag = 1 then some (vNull, 0) else if tag = 2 then rdBool s else if tag = 3 then rdInt s else if tag = 4 then rdFlo s else if tag = 5 then rdTxt 4 s else if tag = 6 then rdTxt 5 s else none

end Go.Proofs.YtcjpindbplppgaaDoor

namespace Go.Proofs.YtcjpindbplppgaaDoor
open Ieee
set_option maxRecDepth 100000

/-- a value as its key tells it -/
def Vl.plain (v : Vl) : Vl := { v with f := pf v.k v.f }
theorem chk_parts {v : Vl} (h : v.chk = 0) : kindB v.k = true ∧ numB v.k v.n = true ∧ floB v.k v.f = true ∧ strB v.k v.s = true ∧ v.s.size ≤ 65536 := by
  unfold Vl.chk chkV at h
  split at h
  · rename_i c
    simp only [Bool.and_eq_true] at c
    obtain ⟨⟨⟨c1, c2⟩, c3⟩, c4⟩ := c
    split at h
    · simp at h
    · exact ⟨c1, c2, c3, c4, by omega⟩
  · simp at h
theorem empty_of {s : ByteArray} (h : s.toList.isEmpty = true) : s = ⟨#[]⟩ := by
  rw [ByteArray.toList_eq] at h
  obtain ⟨⟨l⟩⟩ := s
  simp at h
  rw [h]

theorem gK_unG {b : Nat} (hb : b < 18446744073709551616) : gK (unG b) = b := by
  unfold gK unG; split <;> split <;> omega
theorem unG_gK {b : Nat} (hb : b < 18446744073709551616) : unG (gK b) = b := by
  unfold gK unG; split <;> split <;> omega
theorem unG_lt (b : Nat) (hb : b < 18446744073709551616) : unG b < 18446744073709551616 := by unfold unG; split <;> omega
theorem pow256_8 : (256 : Nat) ^ 8 = 18446744073709551616 := by decide

/-- D1: the code of a value is read as the value, floats as the key tells them -/
theorem rd_code {v : Vl} (ov : v.ok) (hc : v.chk = 0) {rest : List UInt8} (hr : okT rest) : rdV (UInt8.ofNat (v.k + 1).toNat) (v.body ++ rest) = some (v.plain, v.body.length) := by
  obtain ⟨h0, h5, h1⟩ := chk_kind hc
  obtain ⟨_, p2, p3, p4, p5⟩ := chk_parts hc
  obtain ⟨k, n, f, s⟩ := v
  obtain ⟨_, ⟨n1, n2⟩, hf, _⟩ := ov
  dsimp only at *
  have h6 : k = 0 ∨ k = 1 ∨ k = 2 ∨ k = 3 ∨ k = 4 ∨ k = 5 := by omega
  rcases h6 with rfl | rfl | rfl | rfl | rfl | rfl
  · have e1 : n = 0 := by simpa [numB] using p2
    have e2 : f = 0 := by have : (f : Int) = 0 := by simpa [floB] using p3
                          omega
    have e3 := empty_of (by simpa [strB] using p4)
    subst e1 e2 e3
    rfl
  · have e2 : f = 0 := by have : (f : Int) = 0 := by simpa [floB] using p3
                          omega
    have e3 := empty_of (by simpa [strB] using p4)
    subst e2 e3
    rcases h1 rfl with rfl | rfl <;> rfl
  · have e2 : f = 0 := by have : (f : Int) = 0 := by simpa [floB] using p3
                          omega
    have e3 := empty_of (by simpa [strB] using p4)
    subst e2 e3
    have hb : (Vl.body ⟨2, n, 0, ⟨#[]⟩⟩) = wholeC n := rfl
    rw [hb]
    have ht : rdV (UInt8.ofNat ((2 : Int) + 1).toNat) (wholeC n ++ rest) = rdInt (wholeC n ++ rest) := rfl
    rw [ht]
    by_cases hn : 0 ≤ n
    · obtain ⟨m, rfl⟩ : ∃ m : Nat, n = (m : Int) := ⟨n.toNat, by omega⟩
      have h8 := sz_le m
      have hlt := sz_lt (m := m) (by omega)
      have ew : wholeC (m : Int) = UInt8.ofNat (128 + sz m) :: hiB m (sz m) := by unfold wholeC; rw [if_pos hn]; simp
      rw [ew]
      have eh : (UInt8.ofNat (128 + sz m)).toNat = 128 + sz m := by rw [ofNat_toNat8]; omega
      have et : ((hiB m (sz m)) ++ rest).take (sz m) = hiB m (sz m) := by rw [List.take_left' (hiB_len m (sz m))]
      have en : num (hiB m (sz m)) = m := by rw [num_hiB, Nat.mod_eq_of_lt hlt]
      simp only [List.cons_append, rdInt, eh]
      rw [if_pos (by omega), if_neg (by rw [List.length_append, hiB_len]; omega)]
      have e128 : 128 + sz m - 128 = sz m := by omega
      rw [e128, et, en, if_neg (by omega)]
      simp only [vInt, Vl.plain, List.length_cons, hiB_len]
      rw [Nat.add_comm]; rfl
    · obtain ⟨m, rfl⟩ : ∃ m : Nat, n = -(m : Int) - 1 := ⟨(-n - 1).toNat, by omega⟩
      have h8 := sz_le m
      obtain ⟨t, ht⟩ : ∃ t, t = max (sz m) 1 := ⟨_, rfl⟩
      have hlt : m < 256 ^ t := Nat.lt_of_lt_of_le (sz_lt (m := m) (by omega)) (Nat.pow_le_pow_right (by decide) (by omega))
      have ew : wholeC (-(m : Int) - 1) = UInt8.ofNat (128 - t) :: hiB (18446744073709551615 - m) t := by
        unfold wholeC
        rw [if_neg hn]
        have e : (-(-(m : Int) - 1 + 1)).toNat = m := by omega
        rw [e, ← ht]
      rw [ew]
      have eh : (UInt8.ofNat (128 - t)).toNat = 128 - t := by rw [ofNat_toNat8]; omega
      have et : ((hiB (18446744073709551615 - m) t) ++ rest).take t = hiB (18446744073709551615 - m) t := by rw [List.take_left' (hiB_len _ t)]
      have en : num (hiB (18446744073709551615 - m) t) = 256 ^ t - 1 - m := by rw [num_hiB, low_turned (by omega) hlt]
      have e128 : 128 - (128 - t) = t := by omega
      have em : 256 ^ t - 1 - (256 ^ t - 1 - m) = m := by generalize 256 ^ t = q at *; omega
      simp only [List.cons_append, rdInt, eh]
      rw [if_neg (by omega), e128, if_neg (by rw [List.length_append, hiB_len]; omega), et, en, em, if_neg (by omega)]
      simp only [vInt, Vl.plain, List.length_cons, hiB_len]
      rw [Nat.add_comm]; rfl
  · have e1 : n = 0 := by simpa [numB] using p2
    have e3 := empty_of (by simpa [strB] using p4)
    subst e1 e3
    have hb : (Vl.body ⟨3, 0, f, ⟨#[]⟩⟩) = hiB (gK (plainF f)) 8 := rfl
    rw [hb]
    have ht : rdV (UInt8.ofNat ((3 : Int) + 1).toNat) (hiB (gK (plainF f)) 8 ++ rest) = rdFlo (hiB (gK (plainF f)) 8 ++ rest) := rfl
    rw [ht]
    have et : (hiB (gK (plainF f)) 8 ++ rest).take 8 = hiB (gK (plainF f)) 8 := by rw [List.take_left' (hiB_len _ 8)]
    have en : num (hiB (gK (plainF f)) 8) = gK (plainF f) := by rw [num_hiB, pow256_8, Nat.mod_eq_of_lt (gK_lt _)]
    unfold rdFlo
    rw [if_neg (by rw [List.length_append, hiB_len]; omega), et, en, unG_gK (plainF_lt hf), if_pos (plainF_idem f), hiB_len]
    rfl
  · have e1 : n = 0 := by simpa [numB] using p2
    have e2 : f = 0 := by have : (f : Int) = 0 := by simpa [floB] using p3
                          omega
    subst e1 e2
    have hb : (Vl.body ⟨4, 0, 0, s⟩) = esc s.data.toList ++ [0] := rfl
    rw [hb]
    have ht : rdV (UInt8.ofNat ((4 : Int) + 1).toNat) ((esc s.data.toList ++ [0]) ++ rest) = rdTxt 4 ((esc s.data.toList ++ [0]) ++ rest) := rfl
    rw [ht, List.append_assoc, List.singleton_append]
    unfold rdTxt
    rw [rdStr_ended _ _ hr]
    have ev : vStr 4 s.data.toList = ⟨4, 0, 0, s⟩ := by unfold vStr; simp
    dsimp only
    rw [ev, if_pos hc]
    simp [Vl.plain, pf]
  · have e1 : n = 0 := by simpa [numB] using p2
    have e2 : f = 0 := by have : (f : Int) = 0 := by simpa [floB] using p3
                          omega
    subst e1 e2
    have hb : (Vl.body ⟨5, 0, 0, s⟩) = esc s.data.toList ++ [0] := rfl
    rw [hb]
    have ht : rdV (UInt8.ofNat ((5 : Int) + 1).toNat) ((esc s.data.toList ++ [0]) ++ rest) = rdTxt 5 ((esc s.data.toList ++ [0]) ++ rest) := rfl
    rw [ht, List.append_assoc, List.singleton_append]
    unfold rdTxt
    rw [rdStr_ended _ _ hr]
    have ev : vStr 5 s.data.toList = ⟨5, 0, 0, s⟩ := by unfold vStr; simp
    dsimp only
    rw [ev, if_pos hc]
    simp [Vl.plain, pf]

end Go.Proofs.YtcjpindbplppgaaDoor
