/- The walks of Same of rows, on both sides: rows that may be unlike. The walk of wipe. -/
import Derived.Test.YtdogiidgajebiabDoorGWAppZ
import Derived.Test.YtdogiidgajebiabDoorGWOwnV
namespace Go.Proofs.YtdogiidgajebiabDoor
open Go.RowKit
set_option maxRecDepth 100000

/-- two values, bit by bit -/
def sameV (a b : Vl) : Bool := sameB a.k a.n b.k b.n a.f b.f a.s b.s
/-- two rows, bit by bit -/
def sameL : List Vl → List Vl → Bool
  | [], [] => true
  | a :: x, b :: y => sameV a b && sameL x y
  | _, _ => false
theorem sameL_len {x y : List Vl} (h : x.length ≠ y.length) : sameL x y = false := by
  induction x generalizing y with
  | nil => cases y with
    | nil => exact absurd rfl h
    | cons b y => rfl
  | cons a x ih => cases y with
    | nil => rfl
    | cons b y =>
      show (sameV a b && sameL x y) = false
      rw [ih (by simpa using h)]
      simp
theorem sameL_drop {x y : List Vl} {j : Nat} (h1 : j < x.length) (h2 : j < y.length) : sameL (x.drop j) (y.drop j) = (sameV x[j] y[j] && sameL (x.drop (j + 1)) (y.drop (j + 1))) := by
  rw [List.drop_eq_getElem_cons h1, List.drop_eq_getElem_cons h2]
  rfl

set_option maxHeartbeats 2000000 in
theorem rsameRow_any (L M : List Vl) (p q : Option Addr) (c d : Nat) (w : World) (hA : RowV w w.heap.size p L) (hB : RowV w w.heap.size q M) (hlen : L.length ≤ 17592186043904) (_hlen2 : M.length ≤ 17592186043904) :
    Calls Tryd.prog 7 #[.slice p L.length c, .slice q M.length d] w fun e w' => e = .returned (.bool (sameL L M)) ∧ Below w.heap.size w w' := by
  have HA : Hid (RowV w w.heap.size p L ∧ RowV w w.heap.size q M) := ⟨hA, hB⟩
  clear hA hB
  by_cases hl : L.length = M.length
  · have HL : Hid (L.length = M.length ∧ True) := ⟨hl, trivial⟩
    rw [← hl]
    have hE : Hid (sameL (L.drop L.length) (M.drop L.length) = true) := by
      show _ = _
      rw [List.drop_length, hl, List.drop_length]
      rfl
    clear hl
    go_enter Tryd.func7, Tryd.ntmps7
    go_wp2_with fail
    go_loopw [5] (fun i wr => ∃ j : Nat, j ≤ L.length ∧ i = .int .i64 (j : Int) ∧ Hid (sameL (L.drop j) (M.drop j) = sameL L M) ∧ Below w.heap.size w wr) (fun i _ => L.length - (intOf i).toNat)
    case atStart => exact ⟨0, Nat.zero_le _, by go_num, rfl, Below.refl _ _⟩
    case round =>
      obtain ⟨j, hj, rfl, hs, hn⟩ := hrel
      by_cases hj0 : j = L.length
      · subst hj0
        go_wp2
        go_ret
        exact ⟨boolV (hE.out.symm.trans hs.out), hn⟩
      · have hj1 : j < L.length := by omega
        have hj2 : j < M.length := by have := HL.out.1; omega
        obtain ⟨b, o, rfl, hbB, c0, c1, c2, c3⟩ := HA.out.1 j hj1
        obtain ⟨bm, om, rfl, hbm, d0, d1, d2, d3⟩ := HA.out.2 j hj2
        have a0 := (hn.cell (p := ⟨b, o + j * 4, none⟩) hbB).trans c0
        have a1 := (hn.cell (p := ⟨b, o + j * 4 + 1, none⟩) hbB).trans c1
        have a2 := (hn.cell (p := ⟨b, o + j * 4 + 2, none⟩) hbB).trans c2
        have a3 := (hn.cell (p := ⟨b, o + j * 4 + 3, none⟩) hbB).trans c3
        have q0 := (hn.cell (p := ⟨bm, om + j * 4, none⟩) hbm).trans d0
        have q1 := (hn.cell (p := ⟨bm, om + j * 4 + 1, none⟩) hbm).trans d1
        have q2 := (hn.cell (p := ⟨bm, om + j * 4 + 2, none⟩) hbm).trans d2
        have q3 := (hn.cell (p := ⟨bm, om + j * 4 + 3, none⟩) hbm).trans d3
        have HS : Hid ((sameV L[j] M[j] && sameL (L.drop (j + 1)) (M.drop (j + 1))) = sameL L M) := (sameL_drop hj1 hj2).symm.trans hs.out
        have CS : Hid (∀ w1 : World, Calls Tryd.prog 20 #[.agg #[.int .i64 (L[j]).k, .int .i64 (L[j]).n, .float .f64 (L[j]).f, .string (L[j]).s], .agg #[.int .i64 (M[j]).k, .int .i64 (M[j]).n, .float .f64 (M[j]).f, .string (M[j]).s]] w1 fun e w' => e = .returned (.bool (sameV L[j] M[j])) ∧ Below w1.heap.size w1 w') := fun w1 => rsame_any (L[j]).k (L[j]).n (M[j]).k (M[j]).n (L[j]).f (M[j]).f (L[j]).s (M[j]).s w1
        clear c0 c1 c2 c3 d0 d1 d2 d3 hj0 hs
        generalize sameV L[j] M[j] = sv at *
        generalize L[j] = x at *
        generalize M[j] = y at *
        obtain ⟨xk, xn, xf, xs⟩ := x
        obtain ⟨yk, yn, yf, ys⟩ := y
        dsimp only at a0 a1 a2 a3 q0 q1 q2 q3 CS
        cases sv
        · have HE : Hid (sameL L M = false) := HS.out.symm
          clear HS
          go_wp2_with fail
          go_region_with (first | (go_at_call 20; refine (CS.out _).mono ?_; rintro e w5 ⟨rfl, hb5⟩))
          all_goals (try go_wp2)
          all_goals go_ret
          all_goals exact ⟨boolV HE.out.symm, hn.drew.trans (hb5.mono (by simpa using hn.size))⟩
        · have HE : Hid (sameL (L.drop (j + 1)) (M.drop (j + 1)) = sameL L M) := HS.out
          clear HS
          go_wp2_with fail
          go_region_with (first | (go_at_call 20; refine (CS.out _).mono ?_; rintro e w5 ⟨rfl, hb5⟩))
          all_goals (try go_wp2)
          all_goals go_roundw
          all_goals first
            | (exact ⟨j + 1, by omega, by go_num, HE, hn.drew.trans (hb5.mono (by simpa using hn.size))⟩)
            | (simp [intOf]; omega)
  · rw [sameL_len hl]
    have hl' : ((L.length : Int) != (M.length : Int)) = true := by simp; omega
    clear hl HA
    go_enter Tryd.func7, Tryd.ntmps7
    go_wp2
    go_ret
    exact ⟨rfl, Below.refl _ _⟩





end Go.Proofs.YtdogiidgajebiabDoor

namespace Go.Proofs.YtdogiidgajebiabDoor
open Go.RowKit
set_option maxRecDepth 100000

/-- a value that is written over -/
def wV : Vl := ⟨77, 0, 0, ⟨#[]⟩⟩

theorem gset {w w1 : World} {g : Nat} (h : w.grownBy w1 (some g)) (i : Nat) (u : Value) : w.grownBy (w1.setCell ⟨g, i, none⟩ u) (some g) :=
  ⟨h.os, h.tape, h.output, by simpa using h.size, fun k hk hn => (Below.heap_setCell _ _ _ _ (by simpa using hn)).trans (h.block k hk hn)⟩

set_option maxHeartbeats 4000000 in
theorem wipe_any (L : List Vl) (v : Value) (w : World) (B : Nat) (hO : OwnV w B v L) (hlen : L.length ≤ 64) :
    Calls Tryd.prog 12 #[v] w fun e w' => e = .returned (.tuple #[]) ∧ w.grownBy w' v.ownBlock := by
  have hsf := run_store_float
  obtain ⟨p, c, hv, _⟩ := hO.row
  subst hv
  have HO : Hid (OwnV _ _ _ _) := hO
  clear hO
  go_enter Tryd.func12, Tryd.ntmps12
  go_wp2_with fail
  go_loopw [2] (fun i wr => ∃ (j : Nat) (M : List Vl), j ≤ L.length ∧ i = .int .i64 (j : Int) ∧ M.length = L.length ∧ Hid (OwnV wr B (.slice p L.length c) M) ∧ Hid (w.grownBy wr (Value.slice p L.length c).ownBlock)) (fun i _ => L.length - (intOf i).toNat)
  case atStart => exact ⟨0, L, Nat.zero_le _, by go_num, rfl, HO, ⟨rfl, rfl, rfl, Nat.le_refl _, fun _ _ _ => rfl⟩⟩
  case round =>
    obtain ⟨j, M, hj, rfl, hM, hW, hG⟩ := hrel
    by_cases hj0 : j = L.length
    · subst hj0
      go_wp2_with fail
      (try simp only [Exit.inBlock, Exit.then])
      refine bodyPost_end (results_none rfl _ _ _) rfl ?_
      exact ⟨rfl, hG.out⟩
    · have hj1 : j < L.length := by omega
      rcases hW.out.form with ⟨e, _⟩ | ⟨g, cap, e, hg, hg'⟩
      · injection e with _ e2 _; omega
      rw [hM] at e
      cases e
      obtain ⟨⟨x0, x1, x2, x3⟩, f0, f1, f2, f3⟩ := hW.out.at hM j (by omega)
      have HW2 : Hid (OwnV _ _ _ _) := hW.out.set hM j (by omega) wV
      unfold wV at HW2
      clear hW
      go_wp2_with fail
      go_roundw
      case rel => exact ⟨j + 1, _, hj1, by go_num, by rw [List.length_set]; exact hM, HW2, gset (gset (gset (gset hG.out _ _) _ _) _ _) _ _⟩
      case measure => simp [intOf]; omega

end Go.Proofs.YtdogiidgajebiabDoor
