/- The document's Open; sameInts. -/
import Derived.Test.YtmcdpadmjicafaaWDoc9
namespace Go.Proofs.Ytmcdpadmjicafaa
open Go.RowKit Go.Maps
set_option maxRecDepth 100000

theorem openD_take : ∀ (D : List Dx) (j : Nat) (hj : j < D.length), openD (D.take (j + 1)) = openD (D.take j) ++ (if decS D[j].st then [] else [D[j].num])
  | [], j, hj => by simp at hj
  | d :: D, 0, _ => by
    simp only [List.take_succ_cons, List.take_zero, openD, List.getElem_cons_zero, List.nil_append]
  | d :: D, j + 1, hj => by
    have ih := openD_take D j (by simpa using hj)
    rw [List.take_succ_cons]
    unfold openD
    rw [ih]
    simp only [List.getElem_cons_succ]
    split
    · simp [List.take_succ_cons, *]
    · simp [List.take_succ_cons, *]
theorem openD_len : ∀ (D : List Dx), (openD D).length ≤ D.length
  | [] => Nat.le_refl _
  | d :: D => by
    have ih := openD_len D
    unfold openD
    split
    · simp; omega
    · simp; omega
theorem int_one (x : Int) : ∀ u ∈ [Value.int .i64 x], u.oneCell' = true := by simp [Value.oneCell']

set_option maxHeartbeats 2000000 in
theorem ropen_any (D : List Dx) (v : Value) (la B : Nat) (w : World) (h : DocT w B v D) (hlen : D.length ≤ 17592186043904) :
    Calls Try.prog 21 #[tvD v la] w fun e w' => (∃ u, e = .returned u ∧ w'.ownsRow w.heap.size 3 1 u (openD D).length ((openD D).map (Value.int .i64))) ∧ Below w.heap.size w w' := by
  obtain ⟨p, c, ev, hrd⟩ := h.rd
  obtain ⟨ti, hi, hz0, hz1, hz2⟩ := info_parts info_int
  have HI : Hid _ := hi
  have HZ : Hid (_ ∧ _ ∧ _) := ⟨hz0, hz1, hz2⟩
  have HB : Hid (Below w.heap.size w (w.alloc (.cells #[.slice p D.length c, .int .i64 (la : Nat)] 27))) := (Below.refl _ _).alloc (Nat.le_refl _) _
  have ca : (w.alloc (.cells #[.slice p D.length c, .int .i64 (la : Nat)] 27)).cell? ⟨w.heap.size, 0, none⟩ = some (.slice p D.length c) := by rw [World.cell?_alloc_new]; rfl
  have HR : Hid (∀ i (hi : i < D.length), ∃ b, p = some ⟨b, 0, none⟩ ∧ b < w.heap.size ∧ (w.alloc (.cells #[.slice p D.length c, .int .i64 (la : Nat)] 27)).cell? ⟨b, i * 3, none⟩ = some (.int .i64 D[i].num) ∧ (w.alloc (.cells #[.slice p D.length c, .int .i64 (la : Nat)] 27)).cell? ⟨b, i * 3 + 1, none⟩ = some (.int .i64 D[i].st)) := fun i hi => by
    obtain ⟨b, e, hb, h1, h2, _⟩ := hrd i hi
    exact ⟨b, e, hb, (HB.out.cell (p := ⟨b, i * 3, none⟩) hb).trans h1, (HB.out.cell (p := ⟨b, i * 3 + 1, none⟩) hb).trans h2⟩
  rw [ev]
  clear h hrd ev hi hz0 hz1 hz2
  go_enter Try.func21, Try.ntmps21
  go_wp2_with fail
  have hlt : w.heap.size + 1 = (w.alloc (.cells #[.slice p D.length c, .int .i64 (la : Nat)] 27)).heap.size := by simp
  generalize w.alloc (.cells #[.slice p D.length c, .int .i64 (la : Nat)] 27) = w1 at *
  have HLT : Hid (w.heap.size + 1 = w1.heap.size) := hlt
  clear hlt
  have HM : Hid ((w1.alloc (.cells #[] 3)).ownsRow (w.heap.size + 1) 3 1 (.slice (some ⟨w.heap.size + 1, 0, none⟩) 0 0) 0 []) := ⟨rfl, .inr ⟨w.heap.size + 1, 0, #[], rfl, Nat.le_refl _, by rw [HLT.out]; exact heap_alloc_new _ _, Nat.le_refl _, Nat.zero_le _, rfl, rfl⟩⟩
  have HB1 : Hid (Below (w.heap.size + 1) w1 (w1.alloc (.cells #[] 3))) := by rw [HLT.out]; exact (Below.refl _ _).alloc (Nat.le_refl _) _
  go_loopw [3, 4] (fun u i wr => ∃ j : Nat, j ≤ D.length ∧ i = .int .i64 (j : Int) ∧ Hid (wr.ownsRow (w.heap.size + 1) 3 1 u (openD (D.take j)).length ((openD (D.take j)).map (Value.int .i64))) ∧ Hid (Below (w.heap.size + 1) w1 wr)) (fun _ i _ => D.length - (intOf i).toNat)
  case atStart =>
    first
    | exact ⟨0, Nat.zero_le _, by go_num, HM, HB1⟩
    | exact ⟨0, Nat.zero_le _, by go_num, by rw [HLT.out] at HM; exact HM, HB1⟩
  case round =>
    obtain ⟨j, hj, rfl, hO, hn⟩ := hrel
    have cs : wr.cell? ⟨w.heap.size, 0, none⟩ = some (.slice p D.length c) := (hn.out.cell (p := ⟨w.heap.size, 0, none⟩) (show w.heap.size < w.heap.size + 1 by omega)).trans ca
    by_cases hj0 : j = D.length
    · subst hj0
      rw [List.take_length] at hO
      have HE : Hid (_ ∧ _) := ⟨owns_base hO.out (Nat.le_succ _), HB.out.trans (hn.out.mono (Nat.le_succ _))⟩
      clear hO hn
      go_wp2_with fail
      go_ret
      exact ⟨⟨_, rfl, HE.out.1⟩, HE.out.2⟩
    · have hj1 : j < D.length := by omega
      obtain ⟨b, rfl, hb, c0, c1⟩ := HR.out j hj1
      have a0 := (hn.out.cell (p := ⟨b, j * 3, none⟩) (show b < w.heap.size + 1 by omega)).trans c0
      have a1 := (hn.out.cell (p := ⟨b, j * 3 + 1, none⟩) (show b < w.heap.size + 1 by omega)).trans c1
      have ht := openD_take D j hj1
      have HL : Hid ((openD (D.take j)).length ≤ j) := Nat.le_trans (openD_len _) (by rw [List.length_take]; omega)
      have C2 : Hid (Calls _ _ _ _ _) := rdecided_any D[j].st wr
      have HS : Hid (w.heap.size + 1 ≤ wr.heap.size) := by have := hn.out.size; rw [HLT.out]; exact this
      clear c0 c1 hj0
      cases hd : decS D[j].st
      · rw [hd] at C2 ht
        rw [if_neg (by simp)] at ht
        have HT : Hid (_ = _) := ht
        clear ht hd
        generalize D[j].st = xs at *
        generalize D[j].num = xn at *
        go_wp2_with fail
        refine C2.out.mono ?_
        rintro e w2 ⟨rfl, hw⟩
        rw [hw]
        clear hw
        go_wp2_with (first | (at_builtin; refine wpList_append_own_at _ rfl (.tmp 21) (.tmp 28) 45 rfl (w.heap.size + 1) 3 ti _ 1 8 Try.underlying45 HI.out HZ.out.1 HZ.out.2.1 HZ.out.2.2 rfl (by decide) _ _ _ rfl (hO.out.alloc _) ⟨wr.heap.size, 0, none⟩ 1 1 [Value.int .i64 xn] rfl rfl (cell_one_new _ _ _) (int_one xn) (by have := HL.out; unfold maxLen; omega) (by have := HL.out; omega) (by have := HS.out; simp; omega) ?_))
        intro u' we ho hgrow hnil hloc
        have HO2 : Hid (we.ownsRow (w.heap.size + 1) 3 1 u' (openD (D.take (j + 1))).length ((openD (D.take (j + 1))).map (Value.int .i64))) := by
          show World.ownsRow _ _ _ _ _ _ _
          rw [HT.out, List.length_append, List.map_append]
          rw [List.length_singleton]
          exact ho
        have HN2 : Hid (Below (w.heap.size + 1) w1 we) := (hn.out.alloc HS.out _).grown hgrow (by have := HS.out; simp; omega) (fun k hk => by
          rcases hO.out.2 with ⟨e, _⟩ | ⟨g, cap, cur, e, hg, _⟩
          · rw [e] at hk; cases hk
          · rw [e] at hk; cases hk; exact hg)
        clear ho hgrow hnil hloc hO hn
        go_wp2_with fail
        go_roundw
        case rel => exact ⟨j + 1, by omega, by go_num, HO2, HN2⟩
        case measure => simp [intOf]; omega
      · rw [hd] at C2 ht
        rw [if_pos rfl, List.append_nil] at ht
        have HO2 : Hid (wr.ownsRow (w.heap.size + 1) 3 1 u3 (openD (D.take (j + 1))).length ((openD (D.take (j + 1))).map (Value.int .i64))) := by rw [ht]; exact hO.out
        clear ht hd hO
        generalize D[j].st = xs at *
        go_wp2_with fail
        refine C2.out.mono ?_
        rintro e w2 ⟨rfl, hw⟩
        rw [hw]
        clear hw
        go_wp2_with fail
        go_roundw
        case rel => exact ⟨j + 1, by omega, by go_num, HO2, hn⟩
        case measure => simp [intOf]; omega

/-- numbers that are read -/
def RdI (w : World) (p : Option Addr) (L : List Int) : Prop := ∀ i (hi : i < L.length), ∃ b, p = some ⟨b, 0, none⟩ ∧ b < w.heap.size ∧ w.cell? ⟨b, i, none⟩ = some (.int .i64 L[i])
theorem RdI.keep {w w' : World} {p : Option Addr} {L : List Int} (h : RdI w p L) (hb : Below w.heap.size w w') : RdI w' p L := fun i hi => by
  obtain ⟨b, e, hl, hc⟩ := h i hi
  exact ⟨b, e, Nat.lt_of_lt_of_le hl hb.size, (hb.cell (p := ⟨b, i, none⟩) hl).trans hc⟩
theorem RowI.rdI {w : World} {g : Nat} {L : List Int} (h : RowI w g L) : RdI w (some ⟨g, 0, none⟩) L := fun i hi => ⟨g, rfl, h.lt, h.cell i hi⟩
theorem own_rdI {w : World} {B : Nat} {u : Value} {L : List Int} (h : w.ownsRow B 3 1 u L.length (L.map (Value.int .i64))) : ∃ p c, u = .slice p L.length c ∧ RdI w p L := by
  rcases h.2 with ⟨h1, h2⟩ | ⟨g, cap, cur, e, hb, hg, hc, hm, hcs, htk⟩
  · exact ⟨none, 0, by rw [h1, h2], fun i hi => by omega⟩
  · refine ⟨_, cap, e, fun i hi => ⟨g, rfl, (Array.getElem?_eq_some_iff.1 hg).1, ?_⟩⟩
    have hx := congrArg (fun l => l[i]?) htk
    simp only [Nat.mul_one] at hx
    rw [List.getElem?_take_of_lt hi, Array.getElem?_toList, List.getElem?_map, List.getElem?_eq_getElem hi] at hx
    simp [World.cell?, hg, hx]
set_option maxHeartbeats 1000000 in
theorem sameInts_any (L : List Int) (p q : Option Addr) (c d : Nat) (w : World) (hp : RdI w p L) (hq : RdI w q L) (hlen : L.length ≤ 17592186043904) :
    Calls Try.prog 20 #[.slice p L.length c, .slice q L.length d] w fun e w' => e = .returned (.bool true) ∧ Below w.heap.size w w' := by
  have HP : Hid (RdI _ _ _) := hp
  have HQ : Hid (RdI _ _ _) := hq
  clear hp hq
  go_enter Try.func20, Try.ntmps20
  go_wp2_with fail
  go_loopw [5] (fun i wr => ∃ j : Nat, j ≤ L.length ∧ i = .int .i64 (j : Int) ∧ Below w.heap.size w wr) (fun i _ => L.length - (intOf i).toNat)
  case atStart => exact ⟨0, Nat.zero_le _, by go_num, Below.refl _ _⟩
  case round =>
    obtain ⟨j, hj, rfl, hn⟩ := hrel
    by_cases hj0 : j = L.length
    · subst hj0
      go_wp2_with fail
      go_ret
      exact ⟨rfl, hn⟩
    · have hj1 : j < L.length := by omega
      obtain ⟨b, rfl, hb, ca⟩ := HP.out j hj1
      obtain ⟨b', rfl, hb', cb⟩ := HQ.out j hj1
      have a0 := (hn.cell (p := ⟨b, j, none⟩) hb).trans ca
      have e0 := (hn.cell (p := ⟨b', j, none⟩) hb').trans cb
      clear ca cb
      generalize L[j] = x at *
      go_wp2_with fail
      go_quiet (fail)
      go_wp2_with fail
      go_roundw
      case rel => exact ⟨j + 1, hj1, by go_num, below_drewN hn _⟩
      case measure => simp [intOf]; omega
end Go.Proofs.Ytmcdpadmjicafaa
