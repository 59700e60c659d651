/- The walks of Same of rows, on both sides: rows that may be unlike. The walk of what each statement of layer 4 asks besides: the layer answers; and of the statement on Encode. -/
import Derived.Test.YtinlgaefgedmcaaGreatDoorGWAppZ
import Derived.Test.YtinlgaefgedmcaaGreatDoorGWREnc
namespace Go.Proofs.YtinlgaefgedmcaaGreatDoor
open Go.RowKit
set_option maxRecDepth 100000

/-- two values, bit by bit -/
def sameV (a b : Vl) : Bool := sameB a.k a.n b.k b.n a.f b.f a.s b.s
/-- two rows, bit by bit -/
def sameL : List Vl → List Vl → Bool
  | [], [] => true
  | a :: x, b :: y => sameV a b && sameL x y
  | _, _ => false
theorem sameL_len {x y : List Vl} (h : x.length ≠ y.length) : sameL x y = false := by
  induction x generalizing y with
  | nil => cases y with
    | nil => exact absurd rfl h
    | cons b y => rfl
  | cons a x ih => cases y with
    | nil => rfl
    | cons b y =>
      show (sameV a b && sameL x y) = false
      rw [ih (by simpa using h)]
      simp
theorem sameL_drop {x y : List Vl} {j : Nat} (h1 : j < x.length) (h2 : j < y.length) : sameL (x.drop j) (y.drop j) = (sameV x[j] y[j] && sameL (x.drop (j + 1)) (y.drop (j + 1))) := by
  rw [List.drop_eq_getElem_cons h1, List.drop_eq_getElem_cons h2]
  rfl

set_option maxHeartbeats 2000000 in
theorem rsameRow_any (L M : List Vl) (p q : Option Addr) (c d : Nat) (w : World) (hA : RowV w w.heap.size p L) (hB : RowV w w.heap.size q M) (hlen : L.length ≤ 17592186043904) (_hlen2 : M.length ≤ 17592186043904) :
    Calls Tryz.prog 6 #[.slice p L.length c, .slice q M.length d] w fun e w' => e = .returned (.bool (sameL L M)) ∧ Below w.heap.size w w' := by
  have HA : Hid (RowV w w.heap.size p L ∧ RowV w w.heap.size q M) := ⟨hA, hB⟩
  clear hA hB
  by_cases hl : L.length = M.length
  · have HL : Hid (L.length = M.length ∧ True) := ⟨hl, trivial⟩
    rw [← hl]
    have hE : Hid (sameL (L.drop L.length) (M.drop L.length) = true) := by
      show _ = _
      rw [List.drop_length, hl, List.drop_length]
      rfl
    clear hl
    go_enter Tryz.func6, Tryz.ntmps6
    go_wp2_with fail
    go_loopw [5] (fun i wr => ∃ j : Nat, j ≤ L.length ∧ i = .int .i64 (j : Int) ∧ Hid (sameL (L.drop j) (M.drop j) = sameL L M) ∧ Below w.heap.size w wr) (fun i _ => L.length - (intOf i).toNat)
    case atStart => exact ⟨0, Nat.zero_le _, by go_num, rfl, Below.refl _ _⟩
    case round =>
      obtain ⟨j, hj, rfl, hs, hn⟩ := hrel
      by_cases hj0 : j = L.length
      · subst hj0
        go_wp2
        go_ret
        exact ⟨boolV (hE.out.symm.trans hs.out), hn⟩
      · have hj1 : j < L.length := by omega
        have hj2 : j < M.length := by have := HL.out.1; omega
        obtain ⟨b, o, rfl, hbB, c0, c1, c2, c3⟩ := HA.out.1 j hj1
        obtain ⟨bm, om, rfl, hbm, d0, d1, d2, d3⟩ := HA.out.2 j hj2
        have a0 := (hn.cell (p := ⟨b, o + j * 4, none⟩) hbB).trans c0
        have a1 := (hn.cell (p := ⟨b, o + j * 4 + 1, none⟩) hbB).trans c1
        have a2 := (hn.cell (p := ⟨b, o + j * 4 + 2, none⟩) hbB).trans c2
        have a3 := (hn.cell (p := ⟨b, o + j * 4 + 3, none⟩) hbB).trans c3
        have q0 := (hn.cell (p := ⟨bm, om + j * 4, none⟩) hbm).trans d0
        have q1 := (hn.cell (p := ⟨bm, om + j * 4 + 1, none⟩) hbm).trans d1
        have q2 := (hn.cell (p := ⟨bm, om + j * 4 + 2, none⟩) hbm).trans d2
        have q3 := (hn.cell (p := ⟨bm, om + j * 4 + 3, none⟩) hbm).trans d3
        have HS : Hid ((sameV L[j] M[j] && sameL (L.drop (j + 1)) (M.drop (j + 1))) = sameL L M) := (sameL_drop hj1 hj2).symm.trans hs.out
        have CS : Hid (∀ w1 : World, Calls Tryz.prog 16 #[.agg #[.int .i64 (L[j]).k, .int .i64 (L[j]).n, .float .f64 (L[j]).f, .string (L[j]).s], .agg #[.int .i64 (M[j]).k, .int .i64 (M[j]).n, .float .f64 (M[j]).f, .string (M[j]).s]] w1 fun e w' => e = .returned (.bool (sameV L[j] M[j])) ∧ Below w1.heap.size w1 w') := fun w1 => rsame_any (L[j]).k (L[j]).n (M[j]).k (M[j]).n (L[j]).f (M[j]).f (L[j]).s (M[j]).s w1
        clear c0 c1 c2 c3 d0 d1 d2 d3 hj0 hs
        generalize sameV L[j] M[j] = sv at *
        generalize L[j] = x at *
        generalize M[j] = y at *
        obtain ⟨xk, xn, xf, xs⟩ := x
        obtain ⟨yk, yn, yf, ys⟩ := y
        dsimp only at a0 a1 a2 a3 q0 q1 q2 q3 CS
        cases sv
        · have HE : Hid (sameL L M = false) := HS.out.symm
          clear HS
          go_wp2_with fail
          go_region_with (first | (go_at_call 16; refine (CS.out _).mono ?_; rintro e w5 ⟨rfl, hb5⟩))
          all_goals (try go_wp2)
          all_goals go_ret
          all_goals exact ⟨boolV HE.out.symm, hn.drew.trans (hb5.mono (by simpa using hn.size))⟩
        · have HE : Hid (sameL (L.drop (j + 1)) (M.drop (j + 1)) = sameL L M) := HS.out
          clear HS
          go_wp2_with fail
          go_region_with (first | (go_at_call 16; refine (CS.out _).mono ?_; rintro e w5 ⟨rfl, hb5⟩))
          all_goals (try go_wp2)
          all_goals go_roundw
          all_goals first
            | (exact ⟨j + 1, by omega, by go_num, HE, hn.drew.trans (hb5.mono (by simpa using hn.size))⟩)
            | (simp [intOf]; omega)
  · rw [sameL_len hl]
    have hl' : ((L.length : Int) != (M.length : Int)) = true := by simp; omega
    clear hl HA
    go_enter Tryz.func6, Tryz.ntmps6
    go_wp2
    go_ret
    exact ⟨rfl, Below.refl _ _⟩





end Go.Proofs.YtinlgaefgedmcaaGreatDoor

namespace Go.Proofs.YtinlgaefgedmcaaGreatDoor
open Go.RowKit
set_option maxRecDepth 100000

def c4a : Cl := ⟨⟨#[97]⟩, 2, false, ⟨0, 0, 0, ⟨#[]⟩⟩⟩
def c4b : Cl := ⟨⟨#[98]⟩, 4, true, ⟨0, 0, 0, ⟨#[]⟩⟩⟩
def T4 : Tb := ⟨⟨#[116]⟩, [c4a, c4b], [0], [], []⟩
def v4a : Vl := ⟨2, 5, 0, ⟨#[]⟩⟩
def v4b : Vl := ⟨4, 0, 0, ⟨#[97]⟩⟩
theorem T4_ok : T4.ok := by
  refine ⟨by decide, by decide, ?_, by decide, by decide, (fun _ h => by cases h), by decide, (fun _ h => by cases h)⟩
  intro c hc
  have e : c = c4a ∨ c = c4b := by simpa [T4] using hc
  rcases e with rfl | rfl
  · exact ⟨by decide, ⟨by decide, by decide⟩, ⟨by decide, by decide⟩, by decide, by decide⟩
  · exact ⟨by decide, ⟨by decide, by decide⟩, ⟨by decide, by decide⟩, by decide, by decide⟩
theorem v4_ok : ∀ v ∈ [v4a, v4b], v.ok := by
  intro v hv
  have e : v = v4a ∨ v = v4b := by simpa using hv
  rcases e with rfl | rfl
  · exact ⟨⟨by decide, by decide⟩, ⟨by decide, by decide⟩, by decide, by decide⟩
  · exact ⟨⟨by decide, by decide⟩, ⟨by decide, by decide⟩, by decide, by decide⟩
theorem enc4 : encR T4 [v4a, v4b] = ([5, 10, 1, 97], 0) := by decide +kernel

set_option maxHeartbeats 4000000 in
theorem small4_any (w : World) : Calls Tryz.prog 18 #[] w fun e w' => ∃ a : TabP, e = .returned (a.val T4) ∧ TabV w' w'.heap.size T4 a ∧ Below w.heap.size w w' := by
  have hsf := run_store_float
  go_enter Tryz.func18, Tryz.ntmps18
  go_wp2
  refine bodyPost_ret (v := (⟨some ⟨w.heap.size + 1, 0, none⟩, 2, some ⟨w.heap.size + 1 + 1, 0, none⟩, 1, none, 0, none, 0⟩ : TabP).val T4) (by simp [results, Tryz.results18, go_sem, TabP.val, T4]) rfl ?_
  refine ⟨_, rfl, ⟨?_, ?_, fun _ h => absurd h (by simp [T4]), fun _ h => absurd h (by simp [T4]), Nat.le_refl 2, Nat.le_refl 0⟩, by go_grown⟩
  · intro i hi
    have hi0 : i = 0 ∨ i = 1 := by
      have : i < 2 := by simpa [T4] using hi
      omega
    rcases hi0 with rfl | rfl
    · refine ⟨w.heap.size + 1, 0, rfl, by simp, ?_, ?_, ?_, ?_, ?_, ?_, ?_⟩ <;> simp [go_sem, T4, c4a]
    · refine ⟨w.heap.size + 1, 0, rfl, by simp, ?_, ?_, ?_, ?_, ?_, ?_, ?_⟩ <;> simp [go_sem, T4, c4b]
  · intro i hi
    have hi0 : i = 0 := by simpa [T4] using hi
    subst hi0
    refine ⟨w.heap.size + 1 + 1, 0, rfl, by simp, ?_⟩
    simp [go_sem, T4]

set_option maxHeartbeats 4000000 in
theorem awake4 (w : World) (hE : Env w) : Calls Tryz.prog 7 #[] w fun e w' => e = .returned (.bool true) ∧ Below w.heap.size w w' := by
  have C1 : Hid (∀ w1 : World, Calls Tryz.prog 18 #[] w1 fun e w' => ∃ a : TabP, e = .returned (a.val T4) ∧ TabV w' w'.heap.size T4 a ∧ Below w1.heap.size w1 w') := fun w1 => small4_any w1
  have C2 : Hid (∀ (a : TabP) (p : Option Addr) (c : Nat) (w1 : World), Below w.heap.size w w1 → TabV w1 w1.heap.size T4 a → RowV w1 w1.heap.size p [v4a, v4b] → Calls Tryz.prog 17 #[a.val T4, .slice p 2 c] w1 fun e w' => e = .returned (.tuple #[.string ⟨#[5, 10, 1, 97]⟩, .int .i64 0]) ∧ Below w1.heap.size w1 w') := fun a p c w1 hb h h2 => by
    have h3 := rowEncode_any T4 a [v4a, v4b] p c w1 h T4_ok h2 v4_ok (by decide) (hE.on hb)
    rw [enc4] at h3
    exact h3
  clear hE
  go_enter Tryz.func7, Tryz.ntmps7
  go_wp2_with fail
  refine (C1.out _).mono ?_
  rintro e w1 ⟨a1, rfl, hV1, hb1⟩
  go_wp2_with fail
  have hba : Below w1.heap.size w1 (w1.alloc (.cells #[.int .i64 2, .int .i64 5, .float .f64 0, .string ⟨#[]⟩, .int .i64 4, .int .i64 0, .float .f64 0, .string ⟨#[97]⟩] 39)) := by go_grown
  have h02 : Below w.heap.size w (w1.alloc (.cells #[.int .i64 2, .int .i64 5, .float .f64 0, .string ⟨#[]⟩, .int .i64 4, .int .i64 0, .float .f64 0, .string ⟨#[97]⟩] 39)) := hb1.trans (hba.mono hb1.size)
  refine (C2.out a1 (some ⟨w1.heap.size, 0, none⟩) 2 _ h02 (hV1.on hba) ?_).mono ?_
  · intro i hi
    have hi0 : i = 0 ∨ i = 1 := by
      have : i < 2 := by simpa using hi
      omega
    rcases hi0 with rfl | rfl
    · refine ⟨w1.heap.size, 0, rfl, by simp, ?_, ?_, ?_, ?_⟩ <;> simp [go_sem, v4a]
    · refine ⟨w1.heap.size, 0, rfl, by simp, ?_, ?_, ?_, ?_⟩ <;> simp [go_sem, v4b]
  rintro e w3 ⟨rfl, hb3⟩
  go_wp2
  go_ret
  exact ⟨rfl, h02.trans (hb3.mono h02.size)⟩



end Go.Proofs.YtinlgaefgedmcaaGreatDoor
