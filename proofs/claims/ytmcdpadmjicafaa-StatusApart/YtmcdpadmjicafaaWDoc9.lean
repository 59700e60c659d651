/- The document's tables in memory; the walks that only read them: Decided, find, State, Open, sameInts. -/
import Derived.Test.YtmcdpadmjicafaaWOpen9
import Derived.Test.YtmcdpadmjicafaaWHeld
namespace Go.Proofs.Ytmcdpadmjicafaa
open Go.RowKit Go.Maps
set_option maxRecDepth 100000

theorem flat_at {A : Type} (size : Nat) (f : A → List Value) (hf : ∀ x, (f x).length = size) (L : List A) (i : Nat) (hi : i < L.length) (t : Nat) (ht : t < size) : (L.flatMap f)[i * size + t]? = (f L[i])[t]? := by
  induction L generalizing i with
  | nil => simp at hi
  | cons v L ih =>
    have hl : (f v).length = size := hf v
    simp only [List.flatMap_cons]
    cases i with
    | zero => rw [Nat.zero_mul, Nat.zero_add, List.getElem?_append_left (by omega)]; rfl
    | succ i =>
      have e : (i + 1) * size + t = size + (i * size + t) := by rw [Nat.succ_mul]; omega
      rw [e, List.getElem?_append_right (by omega), hl, Nat.add_sub_cancel_left]
      exact ih i (by simpa using hi)
theorem owns_base {w : World} {B C e size n : Nat} {v : Value} {xs : List Value} (h : w.ownsRow B e size v n xs) (hc : C ≤ B) : w.ownsRow C e size v n xs := by
  refine ⟨h.1, ?_⟩
  rcases h.2 with h1 | ⟨g, cap, cur, e, hb', r⟩
  · exact .inl h1
  · exact .inr ⟨g, cap, cur, e, Nat.le_trans hc hb', r⟩
theorem owns_kept {w w' : World} {B e size n : Nat} {v : Value} {xs : List Value} (h : w.ownsRow B e size v n xs) (hb : Below w.heap.size w w') : w'.ownsRow B e size v n xs :=
  owns_block h (fun g hg => by obtain ⟨cur, h1⟩ := own_cells h hg; exact hb.block g (Array.getElem?_eq_some_iff.1 h1).1)
/-- a transaction as cells -/
def dcell (d : Dx) : List Value := [.int .i64 d.num, .int .i64 d.st, .int .u64 (d.sp : Nat)]
/-- A TABLE AS THE DOCUMENT HAS IT: its slice. -/
def DocT (w : World) (B : Nat) (v : Value) (D : List Dx) : Prop := w.ownsRow B 86 3 v D.length (D.flatMap dcell)
theorem DocT.rd {w : World} {B : Nat} {v : Value} {D : List Dx} (h : DocT w B v D) : ∃ p c, v = .slice p D.length c ∧ ∀ i (hi : i < D.length), ∃ b, p = some ⟨b, 0, none⟩ ∧ b < w.heap.size ∧ w.cell? ⟨b, i * 3, none⟩ = some (.int .i64 D[i].num) ∧ w.cell? ⟨b, i * 3 + 1, none⟩ = some (.int .i64 D[i].st) ∧ w.cell? ⟨b, i * 3 + 2, none⟩ = some (.int .u64 (D[i].sp : Nat)) := by
  rcases h.2 with ⟨h1, h2⟩ | ⟨g, cap, cur, e, hb, hg, hc, hm, hcs, htk⟩
  · exact ⟨none, 0, by rw [h1, h2], fun i hi => by omega⟩
  · refine ⟨_, cap, e, fun i hi => ⟨g, rfl, (Array.getElem?_eq_some_iff.1 hg).1, ?_⟩⟩
    have kk : ∀ t, t < 3 → w.cell? ⟨g, i * 3 + t, none⟩ = (dcell D[i])[t]? := by
      intro t ht
      have h1 := flat_at 3 dcell (fun _ => rfl) D i hi t ht
      rw [← htk, List.getElem?_take_of_lt (by omega), Array.getElem?_toList] at h1
      rw [← h1]
      simp [World.cell?, hg]
    exact ⟨kk 0 (by decide), kk 1 (by decide), kk 2 (by decide)⟩
/-- a table handed over -/
abbrev tvD (v : Value) (la : Nat) : Value := .agg #[v, .int .i64 (la : Nat)]

theorem rdecided_any (s : Int) (w : World) :
    Calls Try.prog 14 #[.int .i64 s] w fun e w' => e = .returned (.bool (decS s)) ∧ w' = w := by
  go_enter Try.func14, Try.ntmps14
  go_wp2
  all_goals
    go_ret
    exact ⟨by simp [decS, *], rfl⟩

theorem intV {a b : Int} (h : a = b) : Ending.returned (.int .i64 a) = Ending.returned (.int .i64 b) := by rw [h]
def fiI (D : List Dx) (n : Int) : Int := match findD D n with
  | none => -1
  | some j => (j : Int)
set_option maxHeartbeats 2000000 in
theorem find_any (D : List Dx) (v : Value) (la B : Nat) (n : Int) (w : World) (h : DocT w B v D) (hlen : D.length ≤ 17592186043904) :
    Calls Try.prog 47 #[tvD v la, .int .i64 n] w fun e w' => e = .returned (.int .i64 (fiI D n)) ∧ Below w.heap.size w w' := by
  have HN : Hid ((∀ i (hi : i < D.length), ¬ D[i].num = n) → fiI D n = -1) := fun h => by
    unfold fiI
    rw [findD_no (fun i d hd => by obtain ⟨hi, e⟩ := List.getElem?_eq_some_iff.1 hd; rw [← e]; exact h i hi)]
  have HP : Hid (∀ j (hj : j < D.length), (∀ i (hi : i < D.length), i < j → ¬ D[i].num = n) → D[j].num = n → fiI D n = (j : Int)) := fun j hj h1 h2 => by
    unfold fiI
    rw [findD_is (List.getElem?_eq_getElem hj) h2 (fun i hi d hd => by obtain ⟨hi', e⟩ := List.getElem?_eq_some_iff.1 hd; rw [← e]; exact h1 i hi' hi)]
  generalize fiI D n = r at *
  obtain ⟨p, c, rfl, hrd⟩ := h.rd
  have HB : Hid (Below w.heap.size w (w.alloc (.cells #[.slice p D.length c, .int .i64 (la : Nat)] 27))) := (Below.refl _ _).alloc (Nat.le_refl _) _
  have cb : (w.alloc (.cells #[.slice p D.length c, .int .i64 (la : Nat)] 27)).cell? ⟨w.heap.size, 0, none⟩ = some (.slice p D.length c) := by rw [World.cell?_alloc_new]; rfl
  have HR : Hid (∀ i (hi : i < D.length), ∃ b, p = some ⟨b, 0, none⟩ ∧ (w.alloc (.cells #[.slice p D.length c, .int .i64 (la : Nat)] 27)).cell? ⟨b, i * 3, none⟩ = some (.int .i64 D[i].num)) := fun i hi => by
    obtain ⟨b, e, hb, h1, _⟩ := hrd i hi
    exact ⟨b, e, (HB.out.cell (p := ⟨b, i * 3, none⟩) hb).trans h1⟩
  clear h hrd
  go_enter Try.func47, Try.ntmps47
  go_wp2_with fail
  generalize w.alloc (.cells #[.slice p D.length c, .int .i64 (la : Nat)] 27) = w1 at *
  go_loopw [5] (fun i wr => ∃ j : Nat, j ≤ D.length ∧ i = .int .i64 (j : Int) ∧ Hid (∀ i (hi : i < D.length), i < j → ¬ D[i].num = n) ∧ wr = w1) (fun i _ => D.length - (intOf i).toNat)
  case atStart => exact ⟨0, Nat.zero_le _, by go_num, fun i hi h => absurd h (by omega), rfl⟩
  case round =>
    obtain ⟨j, hj, rfl, hs, rfl⟩ := hrel
    by_cases hj0 : j = D.length
    · subst hj0
      have HE := HN.out fun i hi => hs.out i hi hi
      go_wp2
      go_ret
      exact ⟨intV HE.symm, HB.out⟩
    · have hj1 : j < D.length := by omega
      obtain ⟨b, rfl, ca⟩ := HR.out j hj1
      have HE : Hid (D[j].num = n → r = (j : Int)) := HP.out j hj1 hs.out
      have HS : Hid (¬ D[j].num = n → ∀ i (hi : i < D.length), i < j + 1 → ¬ D[i].num = n) := fun h i hi hi2 => by
        rcases Nat.lt_succ_iff_lt_or_eq.1 hi2 with h3 | rfl
        · exact hs.out i hi h3
        · exact h
      clear hj0 hs
      generalize D[j].num = x at *
      by_cases hx : x = n
      · have he := HE.out hx
        subst hx
        go_wp2
        go_ret
        first | exact ⟨rfl, HB.out⟩ | exact ⟨intV he.symm, HB.out⟩
      · go_wp2
        go_roundw
        case rel => exact ⟨j + 1, by omega, by go_num, HS.out hx, by trivial⟩
        case measure => simp [intOf]; omega

set_option maxHeartbeats 1000000 in
theorem rstate_any (D : List Dx) (v : Value) (la B : Nat) (n : Int) (w : World) (h : DocT w B v D) (hlen : D.length ≤ 17592186043904) :
    Calls Try.prog 22 #[tvD v la, .int .i64 n] w fun e w' => e = .returned (.tuple #[.int .i64 (tellD D n).1, .int .u64 ((tellD D n).2.1 : Nat), .int .i64 (tellD D n).2.2]) ∧ Below w.heap.size w w' := by
  obtain ⟨p, c, ev, hrd⟩ := h.rd
  have HB : Hid (Below w.heap.size w (w.alloc (.cells #[.slice p D.length c, .int .i64 (la : Nat)] 27))) := (Below.refl _ _).alloc (Nat.le_refl _) _
  have ca : (w.alloc (.cells #[.slice p D.length c, .int .i64 (la : Nat)] 27)).cell? ⟨w.heap.size, 0, none⟩ = some (.slice p D.length c) := by rw [World.cell?_alloc_new]; rfl
  have cb : (w.alloc (.cells #[.slice p D.length c, .int .i64 (la : Nat)] 27)).cell? ⟨w.heap.size, 1, none⟩ = some (.int .i64 (la : Nat)) := by rw [World.cell?_alloc_new]; rfl
  have H1 : Hid (DocT (w.alloc (.cells #[.slice p D.length c, .int .i64 (la : Nat)] 27)) B (.slice p D.length c) D) := by rw [← ev]; exact owns_kept h (by rw [ev]; exact HB.out)
  have hlt : w.heap.size < (w.alloc (.cells #[.slice p D.length c, .int .i64 (la : Nat)] 27)).heap.size := by simp
  have C1 : Hid (∀ w1, DocT w1 B (.slice p D.length c) D → Calls Try.prog 47 #[tvD (.slice p D.length c) la, .int .i64 n] w1 fun e w' => e = .returned (.int .i64 (fiI D n)) ∧ Below w1.heap.size w1 w') := fun w1 h1 => find_any D _ la B n w1 h1 hlen
  rw [ev]
  unfold tellD
  cases hf : findD D n with
  | none =>
    have e1 : fiI D n = -1 := by unfold fiI; rw [hf]
    rw [e1] at C1
    clear h hrd ev e1 hf
    go_enter Try.func22, Try.ntmps22
    go_wp2_with fail
    generalize w.alloc (.cells #[.slice p D.length c, .int .i64 (la : Nat)] 27) = w1 at *
    refine (C1.out w1 H1.out).mono ?_
    rintro e w2 ⟨rfl, hb2⟩
    have HB2 : Hid (Below _ _ _) := HB.out.trans (hb2.mono HB.out.size)
    clear hb2
    go_wp2_with fail
    refine bodyPost_ret (results_tmp3 rfl _ _ _) rfl ?_
    exact ⟨rfl, HB2.out⟩
  | some j =>
    have e1 : fiI D n = (j : Int) := by unfold fiI; rw [hf]
    rw [e1] at C1
    obtain ⟨⟨d, hd, hdn⟩, _⟩ := findD_some hf
    obtain ⟨hj, hdj⟩ := List.getElem?_eq_some_iff.1 hd
    obtain ⟨b, rfl, hb, x0, x1, x2⟩ := hrd j hj
    rw [hdj] at x0 x1 x2
    simp only [hd]
    have y1 := (HB.out.cell (p := ⟨b, j * 3 + 1, none⟩) hb).trans x1
    have y2 := (HB.out.cell (p := ⟨b, j * 3 + 2, none⟩) hb).trans x2
    have hb1 := Nat.lt_of_lt_of_le hb HB.out.size
    clear h hrd ev e1 hf hdj hd hdn x0 x1 x2 hb
    go_enter Try.func22, Try.ntmps22
    go_wp2_with fail
    generalize w.alloc (.cells #[.slice (some ⟨b, 0, none⟩) D.length c, .int .i64 (la : Nat)] 27) = w1 at *
    refine (C1.out w1 H1.out).mono ?_
    rintro e w2 ⟨rfl, hb2⟩
    have z1 := (hb2.cell (p := ⟨b, j * 3 + 1, none⟩) hb1).trans y1
    have z2 := (hb2.cell (p := ⟨b, j * 3 + 2, none⟩) hb1).trans y2
    have za := (hb2.cell (p := ⟨w.heap.size, 0, none⟩) hlt).trans ca
    have HB2 : Hid (Below _ _ _) := HB.out.trans (hb2.mono HB.out.size)
    clear hb2 y1 y2 ca cb C1
    go_wp2_with fail
    go_quiet (fail)
    go_wp2_with fail
    refine bodyPost_ret (results_tmp3 rfl _ _ _) rfl ?_
    exact ⟨rfl, below_drewN HB2.out _⟩
end Go.Proofs.Ytmcdpadmjicafaa
