/- The walk of the statement that what is handed in stays: it answers true. -/
import Derived.Test.YtcjpindbplppgaaDoorGLUni
import Derived.Test.YtcjpindbplppgaaDoorGWQuiet
namespace Go.Proofs.YtcjpindbplppgaaDoor
open Go.RowKit Go.Lib
set_option maxRecDepth 100000

set_option maxHeartbeats 2000000 in
theorem sameRow2 (L : List Vl) (p q : Option Addr) (c d : Nat) (w : World) (hA : RowV w w.heap.size p L) (hB : RowV w w.heap.size q L) (hlen : L.length ≤ 3518437208784) :
    Calls Tryd.prog 8 #[.slice p L.length c, .slice q L.length d] w fun e w' => e = .returned (.bool true) ∧ Below w.heap.size w w' := by
  have HA : Hid (RowV _ _ _ _ ∧ RowV _ _ _ _) := ⟨hA, hB⟩
  clear hA hB
  go_enter Tryd.func8, Tryd.ntmps8
  go_wp2_with fail
  go_loopw [5] (fun i wr => ∃ j : Nat, j ≤ L.length ∧ i = .int .i64 (j : Int) ∧ Below w.heap.size w wr) (fun i _ => L.length - (intOf i).toNat)
  case atStart => exact ⟨0, Nat.zero_le _, by go_num, Below.refl _ _⟩
  case round =>
    obtain ⟨j, hj, rfl, hn⟩ := hrel
    by_cases hj0 : j = L.length
    · subst hj0
      go_wp2
      go_ret
      exact ⟨rfl, hn⟩
    · have hj1 : j < L.length := by omega
      obtain ⟨b, o, rfl, hbB, c0, c1, c2, c3⟩ := HA.out.1 j hj1
      obtain ⟨bm, om, rfl, hbm, d0, d1, d2, d3⟩ := HA.out.2 j hj1
      have a0 := (hn.cell (p := ⟨b, o + j * 4, none⟩) hbB).trans c0
      have a1 := (hn.cell (p := ⟨b, o + j * 4 + 1, none⟩) hbB).trans c1
      have a2 := (hn.cell (p := ⟨b, o + j * 4 + 2, none⟩) hbB).trans c2
      have a3 := (hn.cell (p := ⟨b, o + j * 4 + 3, none⟩) hbB).trans c3
      have q0 := (hn.cell (p := ⟨bm, om + j * 4, none⟩) hbm).trans d0
      have q1 := (hn.cell (p := ⟨bm, om + j * 4 + 1, none⟩) hbm).trans d1
      have q2 := (hn.cell (p := ⟨bm, om + j * 4 + 2, none⟩) hbm).trans d2
      have q3 := (hn.cell (p := ⟨bm, om + j * 4 + 3, none⟩) hbm).trans d3
      have CS : Hid (∀ w1 : World, Calls Tryd.prog 18 #[.agg #[.int .i64 (L[j]).k, .int .i64 (L[j]).n, .float .f64 (L[j]).f, .string (L[j]).s], .agg #[.int .i64 (L[j]).k, .int .i64 (L[j]).n, .float .f64 (L[j]).f, .string (L[j]).s]] w1 fun e w' => e = .returned (.bool true) ∧ Below w1.heap.size w1 w') := fun w1 => by
        have h := rsame_any (L[j]).k (L[j]).n (L[j]).k (L[j]).n (L[j]).f (L[j]).f (L[j]).s (L[j]).s w1
        have e : sameB (L[j]).k (L[j]).n (L[j]).k (L[j]).n (L[j]).f (L[j]).f (L[j]).s (L[j]).s = true := by simp [sameB]
        rw [e] at h
        exact h
      clear c0 c1 c2 c3 d0 d1 d2 d3 hj0
      generalize (L[j]).k = k at *
      generalize (L[j]).n = n at *
      generalize (L[j]).f = f at *
      generalize (L[j]).s = t at *
      go_wp2_with fail
      go_region_with (first | (go_at_call 18; refine (CS.out _).mono ?_; rintro e w5 ⟨rfl, hb5⟩))
      all_goals (try go_wp2)
      all_goals go_roundw
      all_goals first
        | (exact ⟨j + 1, by omega, by go_num, hn.drew.trans (hb5.mono (by simpa using hn.size))⟩)
        | (simp [intOf]; omega)

theorem decF_len : ∀ (k : Nat) (l : List UInt8) (M : List Vl), decF k l = some M → M.length ≤ l.length := by
  intro k l M h
  obtain ⟨-, f2, -⟩ := decF_back k l M h
  rw [← f2]
  clear h f2
  induction M with
  | nil => simp [encL]
  | cons v M ih => simp only [encL, List.length_cons, List.length_append, Vl.code]; omega
theorem decS_len (l : List UInt8) : (decS l).1.length ≤ 1024 := by
  unfold decS
  split
  · simp
  · rename_i h
    split
    · simp
    · rename_i M hM
      have := decF_len _ _ _ hM
      dsimp only
      omega

set_option maxHeartbeats 2000000 in
theorem row_any (L : List Vl) (p : Option Addr) (c : Nat) (w : World) (hR : RowV w w.heap.size p L) (hlen : L.length ≤ 3518437208784) :
    Calls Tryd.prog 4 #[.slice p L.length c] w fun e w' => ∃ v, e = .returned v ∧ OwnV w' w.heap.size v L ∧ Below w.heap.size w w' := by
  have HA : Hid (RowV _ _ _ _) := hR
  clear hR
  go_enter Tryd.func4, Tryd.ntmps4
  go_wp2_with fail
  go_loopw [3, 4] (fun u i wr => ∃ j : Nat, j ≤ L.length ∧ i = .int .i64 (j : Int) ∧ Hid (OwnV wr w.heap.size u (L.take j)) ∧ Below w.heap.size w wr) (fun _ i _ => L.length - (intOf i).toNat)
  case atStart => exact ⟨0, Nat.zero_le _, by go_num, World.ownsRow_lit w #[] 0 (Nat.le_refl _) (Nat.zero_le _) rfl, by go_grown⟩
  case round =>
    obtain ⟨j, hj, rfl, hO, hn⟩ := hrel
    by_cases hj0 : j = L.length
    · subst hj0
      rw [List.take_length] at hO
      go_wp2
      go_ret
      exact ⟨_, rfl, hO.out, hn⟩
    · have hj1 : j < L.length := by omega
      obtain ⟨b, o, rfl, hbB, d0, d1, d2, d3⟩ := HA.out j hj1
      have a0 := (hn.cell (p := ⟨b, o + j * 4, none⟩) hbB).trans d0
      have a1 := (hn.cell (p := ⟨b, o + j * 4 + 1, none⟩) hbB).trans d1
      have a2 := (hn.cell (p := ⟨b, o + j * 4 + 2, none⟩) hbB).trans d2
      have a3 := (hn.cell (p := ⟨b, o + j * 4 + 3, none⟩) hbB).trans d3
      have HS : Hid (L.take (j + 1) = L.take j ++ [L[j]]) := (List.take_append_getElem hj1).symm
      have hul : (L.take j).length ≤ j := by simp; omega
      clear d0 d1 d2 d3
      generalize L.take j = U at *
      generalize L[j] = r at *
      obtain ⟨rk, rn, rf, rs⟩ := r
      dsimp only at a0 a1 a2 a3
      go_wp2_with (first | (at_builtin; refine wpList_appV _ rfl (.tmp 12) _ rfl w.heap.size _ _ rfl hO.out ⟨rk, rn, rf, rs⟩ _ rfl (by simp) (by omega) hn.size ?_; intro v6 w6 h6 h7))
      go_roundw
      case rel => exact ⟨j + 1, hj1, by go_num, (show OwnV _ _ _ _ by rw [HS.out]; exact h6), hn.trans h7⟩
      case measure => simp [intOf]; omega

/-- one's own row, told in raw cells -/
theorem own_form {w : World} {B e size n : Nat} {v : Value} {xs : List Value} (h : w.ownsRow B e size v n xs) (hn : 0 < n) : ∃ g cap, v = .slice (some ⟨g, 0, none⟩) n cap ∧ B ≤ g ∧ g < w.heap.size := by
  rcases h.2 with ⟨_, h2⟩ | ⟨g, cap, cur, e, hb, hg, _⟩
  · omega
  · exact ⟨g, cap, e, hb, (Array.getElem?_eq_some_iff.1 hg).1⟩
theorem own_cell {w : World} {B e size n g cap : Nat} {xs : List Value} (h : w.ownsRow B e size (.slice (some ⟨g, 0, none⟩) n cap) n xs) (j : Nat) (hj : j < n * size) : ∃ x, w.cell? ⟨g, j, none⟩ = some x := by
  have h1 := h.cellAt j hj
  have h2 := h.1
  rw [List.getElem?_eq_getElem (by omega)] at h1
  exact ⟨_, h1⟩
theorem own_len {w : World} {B e size n : Nat} {v : Value} {xs : List Value} (h : w.ownsRow B e size v n xs) : ∃ (p : Option Addr) (c : Nat), v = .slice p n c := by
  rcases h.2 with ⟨h1, rfl⟩ | ⟨g, cap, cur, e, _⟩
  · exact ⟨none, 0, h1⟩
  · exact ⟨_, _, e⟩
theorem wpList_appN {ops : Array Oper} {rest : List Oper} {o : Oper} {a : Act} {Q : Exit → Act → World → Prop} (w : World) (hgd : o.guard = none) (s x : Operand)
    (ho : o.op = .call { callee := .builtin .append, args := #[s, x], argTypes := #[23, 23] }) (hs : a.eval s = .slice none 0 0)
    (L : List Rg) (p : Option Addr) (c : Nat) (hx : a.eval x = .slice p L.length c) (hR : RowR w w.heap.size p L) (hlen : L.length ≤ 3518437208784) (hc : L.length ≤ c) (hp : p = none → c = 0)
    (h : ∀ v' w', OwnR w' w.heap.size v' L → Below w.heap.size w w' → wpList Tryd.prog ops Q rest (a.put o.dst v') w') : wpList Tryd.prog ops Q (o :: rest) a w := by
  obtain ⟨i, hi, hz0, hz1, hz2⟩ := info_parts info_rng
  cases p with
  | none =>
    obtain rfl := hp rfl
    obtain rfl : L = [] := List.eq_nil_of_length_eq_zero (by omega)
    exact wpList_append_own_none hgd s x 23 ho w.heap.size 35 i 3 Tryd.underlying23 hi _ 0 [] hs (World.ownsRow_nil w _ _ _) hx (h _ _ (OwnR.nil _ _) (Below.refl _ _))
  | some ad =>
    refine wpList_append_own _ hgd s x 23 ho w.heap.size 35 i (.agg #[.string ⟨#[]⟩, .string ⟨#[]⟩, .bool false]) 3 40 Tryd.underlying23 hi hz0 hz1 hz2 rfl (by decide) _ 0 [] hs (World.ownsRow_nil w _ _ _) ad L.length c (rcells L) hx (rcells_len L) hR.cellsA (rcells_one L) ?mx ?byt ?base ?_
    case mx => unfold maxLen; omega
    case byt => omega
    case base => simp
    intro v1 w1 h1 h2 _
    refine h v1 w1 ?_ ((Below.refl _ _).grown h2 (Nat.le_refl _) (fun k hk => by simp [Value.ownBlock] at hk))
    unfold OwnR
    simpa using h1

set_option maxHeartbeats 4000000 in
theorem lawOwn (L : List Vl) (M : List Rg) (p q : Option Addr) (c d : Nat) (w : World) (hR : RowV w w.heap.size p L) (hQ : RowR w w.heap.size q M) (hok : ∀ v ∈ L, v.ok) (hok2 : (∀ u ∈ M, u.ok) ∧ (q = none → d = 0)) (hlen : L.length ≤ 3518437208784) (hlen2 : M.length ≤ 3518437208784) (hd : M.length ≤ d) (hg : 2 < w.heap.size) (hT : Lib.Utf8Tabs 1 2 w) :
    Calls Tryd.prog 3 #[.slice p L.length c, .slice q M.length d] w fun e w' => e = .returned (.bool true) ∧ Below w.heap.size w w' := by
  have C1 : Hid (Calls _ _ _ _ _) := row_any L p c w hR hlen
  have CE : Hid (∀ (w1 : World) (p' : Option Addr) (c' : Nat), Below w.heap.size w w1 → RowV w1 w1.heap.size p' L → Calls _ _ _ _ _) := fun w1 p' c' hb h => encode_any L p' c' w1 h hok hlen (by have := hb.size; omega) (tabs_keep hb hg hT)
  have CD : Hid (∀ (s : ByteArray) (w1 : World), Below w.heap.size w w1 → s.size ≤ 9223372036854775807 → Calls _ _ _ _ _) := fun s w1 hb hs => decode_any s w1 hs (by have := hb.size; omega) (tabs_keep hb hg hT)
  have CW : Hid (∀ w1 : World, Below w.heap.size w w1 → Calls _ _ _ _ _) := fun w1 hb => awake_any w1 (by have := hb.size; omega) (tabs_keep hb hg hT)
  have HK : Hid (RowV w w.heap.size p L ∧ RowR w w.heap.size q M ∧ (q = none → d = 0)) := ⟨hR, hQ, hok2.2⟩
  have hks : (⟨(encS L).1.toArray⟩ : ByteArray).size ≤ 9223372036854775807 := by
    have : (encS L).1.length ≤ 1024 := by
      unfold encS
      split
      · split
        · assumption
        · simp
      · simp
    simp [ByteArray.size]
    omega
  generalize (⟨(encS L).1.toArray⟩ : ByteArray) = key at *
  generalize (encS L).2 = er at *
  have hdl := decS_len key.data.toList
  clear hR hQ hok hok2 hT
  go_enter Tryd.func3, Tryd.ntmps3
  go_wp2_with fail
  refine C1.out.mono ?_
  rintro e w1 ⟨v1, rfl, hO1, hb1⟩
  have HO1 : Hid (OwnV _ _ _ _) := hO1
  obtain ⟨p1, c1, rfl, hRow1⟩ := hO1.row
  have HR1 : Hid (RowV _ _ _ _) := hRow1
  have C2 : Hid (Calls _ _ _ _ _) := CE.out w1 p1 c1 hb1 hRow1
  have HB1 : Hid (Below _ _ _) := hb1
  clear C1 hO1 hRow1 hb1
  go_wp2_with fail
  refine C2.out.mono ?_
  rintro e w2 ⟨rfl, hb2⟩
  have HB2 : Hid (Below w.heap.size w w2) := HB1.out.trans (hb2.mono HB1.out.size)
  have HR2 : Hid (RowV w2 w2.heap.size p1 L) := (HR1.out.keep hb2).mono hb2.size
  have C3 : Hid (Calls _ _ _ _ _) := CD.out key w2 HB2.out hks
  clear C2 HB1 HR1 HO1 hb2
  go_wp2_with fail
  refine C3.out.mono ?_
  rintro e w3 ⟨v3, rfl, hO3, hb3⟩
  have hO3' : w3.ownsRow w2.heap.size 32 4 v3 (decS key.data.toList).1.length (vcells (decS key.data.toList).1) := hO3
  have HO3 : Hid (∃ xs, w3.ownsRow w2.heap.size 32 4 v3 (decS key.data.toList).1.length xs) := ⟨_, hO3'⟩
  obtain ⟨p3, c3, rfl⟩ := own_len hO3'
  generalize (decS key.data.toList).1.length = n3 at *
  generalize (decS key.data.toList).2 = e3 at *
  clear C3 CD hO3 hO3'
  go_wp2_with fail
  go_loopw [10] (fun i wr => ∃ j : Nat, j ≤ n3 ∧ i = .int .i64 (j : Int) ∧ Hid (∃ xs, wr.ownsRow w2.heap.size 32 4 (.slice p3 n3 c3) n3 xs) ∧ Below w2.heap.size w2 wr) (fun i _ => n3 - (intOf i).toNat)
  case atStart => exact ⟨0, Nat.zero_le _, by go_num, HO3, hb3⟩
  case round =>
    obtain ⟨j, hj, rfl, hO, hn⟩ := hrel
    by_cases hj0 : j = n3
    · subst hj0
      have HB3 : Hid (Below w.heap.size w wr) := HB2.out.trans (hn.mono HB2.out.size)
      have HR3 : Hid (RowV wr wr.heap.size p1 L) := (HR2.out.keep hn).mono hn.size
      have HM3 : Hid (RowR wr wr.heap.size q M) := (HK.out.2.1.keep HB3.out).mono HB3.out.size
      clear hO HO3 HB2 HR2 hb3 hn
      generalize wr = w3' at *
      go_wp2_with (first | (at_builtin; refine wpList_appN _ rfl (.tmp 38) _ rfl rfl M q d rfl HM3.out hlen2 hd HK.out.2.2 ?_; intro v6 w6 h6 h7))
      obtain ⟨p6, c6, rfl, hRow6⟩ := h6.row
      have hc6 : M.length ≤ c6 ∧ (p6 = none → c6 = 0) := by
        rcases h6.2 with ⟨h8, h9⟩ | ⟨g, cap, cur, e, _, _, h10, _⟩
        · injection h8 with h8 _ h10
          exact ⟨by omega, fun _ => h10⟩
        · injection e with e1 _ e3
          subst e1 e3
          exact ⟨h10, fun h => by cases h⟩
      have HB6 : Hid (Below w.heap.size w w6) := HB3.out.trans (h7.mono HB3.out.size)
      have HR6 : Hid (RowV w6 w6.heap.size p1 L) := (HR3.out.keep h7).mono h7.size
      have HM6 : Hid (RowR w6 w6.heap.size p6 M) := hRow6
      have C6 : Hid (Calls _ _ _ _ _) := union_any M p6 c6 w6 hRow6 hlen2 hc6.1 hc6.2
      clear HB3 HR3 HM3 h6 h7 hRow6 hc6
      go_wp2_with fail
      refine C6.out.mono ?_
      rintro e w7 ⟨v7, R, rfl, hO7, _, _, hl7, hb7⟩
      have hul := foldU_len R []
      simp only [List.length_nil, Nat.zero_add] at hul
      have hO7' : w7.ownsRow w6.heap.size 35 3 v7 (R.foldl stepU []).length (rcells (R.foldl stepU [])) := hO7
      have HO7 : Hid (∃ xs, w7.ownsRow w6.heap.size 35 3 v7 (R.foldl stepU []).length xs) := ⟨_, hO7'⟩
      obtain ⟨p7, c7, rfl⟩ := own_len hO7'
      generalize (R.foldl stepU []).length = n7 at *
      clear C6 hO7 hO7'
      go_wp2_with fail
      go_loopw [13] (fun i wr => ∃ j : Nat, j ≤ n7 ∧ i = .int .i64 (j : Int) ∧ Hid (∃ xs, wr.ownsRow w6.heap.size 35 3 (.slice p7 n7 c7) n7 xs) ∧ Below w6.heap.size w6 wr) (fun i _ => n7 - (intOf i).toNat)
      case atStart => exact ⟨0, Nat.zero_le _, by go_num, HO7, hb7⟩
      case round =>
        obtain ⟨j7, hj7, rfl, hO, hn⟩ := hrel
        by_cases hj70 : j7 = n7
        · subst hj70
          have HB8 : Hid (Below w.heap.size w wr) := HB6.out.trans (hn.mono HB6.out.size)
          have HR8 : Hid (RowV wr wr.heap.size p1 L) := (HR6.out.keep hn).mono hn.size
          have HM8 : Hid (RowR wr wr.heap.size p6 M) := (HM6.out.keep hn).mono hn.size
          clear hO HO7 HB6 HR6 HM6 hb7 hn
          generalize wr = w8 at *
          have C8 : Hid (Calls _ _ _ _ _) := CE.out w8 p1 c1 HB8.out HR8.out
          go_wp2_with fail
          refine C8.out.mono ?_
          rintro e w9 ⟨rfl, hb9⟩
          have HB9 : Hid (Below w.heap.size w w9) := HB8.out.trans (hb9.mono HB8.out.size)
          have C9 : Hid (Calls _ _ _ _ _) := sameRow2 L p1 p c1 c w9 ((HR8.out.keep hb9).mono hb9.size) ((HK.out.1.keep HB9.out).mono HB9.out.size) hlen
          have HM9 : Hid (RowR w9 w9.heap.size p6 M) := (HM8.out.keep hb9).mono hb9.size
          clear C8 hb9 CE
          go_wp2_with fail
          refine C9.out.mono ?_
          rintro e w10 ⟨rfl, hb10⟩
          have HB10 : Hid (Below w.heap.size w w10) := HB9.out.trans (hb10.mono HB9.out.size)
          have C10 : Hid (Calls _ _ _ _ _) := rsameR_any M p6 q c6 d w10 ((HM9.out.keep hb10).mono hb10.size) ((HK.out.2.1.keep HB10.out).mono HB10.out.size) hlen2
          clear C9 hb10
          go_wp2_with fail
          refine C10.out.mono ?_
          rintro e w11 ⟨rfl, hb11⟩
          have HB11 : Hid (Below w.heap.size w w11) := HB10.out.trans (hb11.mono HB10.out.size)
          have C11 : Hid (Calls _ _ _ _ _) := CW.out w11 HB11.out
          clear C10 hb11
          go_wp2_with fail
          refine C11.out.mono ?_
          rintro e w12 ⟨rfl, hb12⟩
          go_wp2
          go_ret
          exact ⟨rfl, HB11.out.trans (hb12.mono HB11.out.size)⟩
        · have hj71 : j7 < n7 := by omega
          obtain ⟨xs, hxs⟩ := hO.out
          obtain ⟨g, cap, e, hg1, hg2⟩ := own_form hxs (by omega)
          injection e with e1 e2 e3
          subst e1 e3
          obtain ⟨x0, c0⟩ := own_cell hxs (j7 * 3) (by omega)
          obtain ⟨x1, c1'⟩ := own_cell hxs (j7 * 3 + 1) (by omega)
          obtain ⟨x2, c2⟩ := own_cell hxs (j7 * 3 + 2) (by omega)
          have f0 := hxs.frozenAt (j7 * 3)
          have f1 := hxs.frozenAt (j7 * 3 + 1)
          have f2 := hxs.frozenAt (j7 * 3 + 2)
          have HX : Hid (∃ ys, _) := ⟨_, (((hxs.stored (j7 * 3) (.string ⟨#[115, 112, 111, 105, 108, 116]⟩)).1.stored (j7 * 3 + 1) (.string ⟨#[]⟩)).1.stored (j7 * 3 + 2) (.bool false)).1⟩
          clear hxs hO HO7
          go_wp2_with fail
          go_roundw
          case rel => exact ⟨j7 + 1, hj71, by go_num, HX.out, ((hn.setCell hg1 _).setCell hg1 _).setCell hg1 _⟩
          case measure => simp [intOf]; omega
    · have hj1 : j < n3 := by omega
      obtain ⟨xs, hxs⟩ := hO.out
      obtain ⟨g, cap, e, hg1, hg2⟩ := own_form hxs (by omega)
      injection e with e1 e2 e3
      subst e1 e3
      obtain ⟨x0, c0⟩ := own_cell hxs (j * 4) (by omega)
      obtain ⟨x1, c1'⟩ := own_cell hxs (j * 4 + 1) (by omega)
      obtain ⟨x2, c2⟩ := own_cell hxs (j * 4 + 2) (by omega)
      obtain ⟨x3, c3'⟩ := own_cell hxs (j * 4 + 3) (by omega)
      have f0 := hxs.frozenAt (j * 4)
      have f1 := hxs.frozenAt (j * 4 + 1)
      have f2 := hxs.frozenAt (j * 4 + 2)
      have f3 := hxs.frozenAt (j * 4 + 3)
      have HX : Hid (∃ ys, _) := ⟨_, ((((hxs.stored (j * 4) (.int .i64 77)).1.stored (j * 4 + 1) (.int .i64 0)).1.stored (j * 4 + 2) (.float .f64 0)).1.stored (j * 4 + 3) (.string ⟨#[]⟩)).1⟩
      have hsf := run_store_float
      clear hxs hO HO3
      go_wp2_with fail
      go_roundw
      case rel => exact ⟨j + 1, hj1, by go_num, HX.out, (((hn.setCell hg1 _).setCell hg1 _).setCell hg1 _).setCell hg1 _⟩
      case measure => simp [intOf]; omega

end Go.Proofs.YtcjpindbplppgaaDoor
