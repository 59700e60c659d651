/- The walks of above and below. -/
import Derived.Test.YteddpogjpohacabWOwV8
import Derived.Test.YteddpogjpohacabWSam8
namespace Go.Proofs.Yteddpogjpohacab
open Go.RowKit
set_option maxRecDepth 100000

set_option maxHeartbeats 2000000 in
theorem above_any (L : List Rw) (p : Option Addr) (c : Nat) (s : Int) (w : World) (hR : RdR .i64 w w.heap.size p L) (hlen : L.length ≤ 17592186043904) :
    Calls Try.prog 24 #[.slice p L.length c, .int .i64 s] w fun e w' => e = .returned (.bool (abvL L s)) ∧ Below w.heap.size w w' := by
  have HR : Hid (RdR _ _ _ _ _) := hR
  clear hR
  have HN : Hid ((∀ i (hi : i < L.length), L[i].n ≤ s) → abvL L s = false) := abv_false
  have HP : Hid (∀ j (hj : j < L.length), s < L[j].n → abvL L s = true) := fun j hj h1 => abv_true hj h1
  generalize abvL L s = r at *
  go_enter Try.func24, Try.ntmps24
  go_wp2_with fail
  go_loopw [9] (fun i wr => ∃ j : Nat, j ≤ L.length ∧ i = .int .i64 (j : Int) ∧ Hid (∀ i (hi : i < L.length), i < j → L[i].n ≤ s) ∧ Below w.heap.size w wr) (fun i _ => L.length - (intOf i).toNat)
  case atStart => exact ⟨0, Nat.zero_le _, by go_num, fun i hi h => absurd h (by omega), Below.refl _ _⟩
  case round =>
    obtain ⟨j, hj, rfl, hs, hn⟩ := hrel
    by_cases hj0 : j = L.length
    · subst hj0
      have HE := HN.out fun i hi => hs.out i hi hi
      go_wp2
      go_ret
      exact ⟨boolV HE.symm, hn⟩
    · have hj1 : j < L.length := by omega
      obtain ⟨b, o, q, d, rfl, hbB, c0, c1, c2, _⟩ := HR.out j hj1
      have a0 := (hn.cell (p := ⟨b, o + j * 3, none⟩) hbB).trans c0
      have a1 := (hn.cell (p := ⟨b, o + j * 3 + 1, none⟩) hbB).trans c1
      have a2 := (hn.cell (p := ⟨b, o + j * 3 + 2, none⟩) hbB).trans c2
      have HE : Hid (s < L[j].n → r = true) := HP.out j hj1
      have HS : Hid (L[j].n ≤ s → ∀ i (hi : i < L.length), i < j + 1 → L[i].n ≤ s) := fun h i hi hi2 => by
        rcases Nat.lt_succ_iff_lt_or_eq.1 hi2 with h3 | rfl
        · exact hs.out i hi h3
        · exact h
      clear c0 c1 c2 hj0 hs
      generalize L[j].n = xn at *
      generalize L[j].gn = xg at *
      generalize L[j].row.length = xl at *
      by_cases hx : s < xn
      · have he := HE.out hx
        go_wp2
        go_ret
        have hsz := hn.size
        exact ⟨boolV he.symm, by go_grown⟩
      · have hx' : xn ≤ s := by omega
        clear hx
        go_wp2
        go_roundw
        case rel => have hsz := hn.size; exact ⟨j + 1, by omega, by go_num, HS.out hx', by go_grown⟩
        case measure => simp [intOf]; omega

theorem bel_yes {L : List Rw} {s : Int} {j : Nat} {Z : List (Rw × Value)} (hj : j < L.length) (h : L[j].n < s) (v : Value) (hZ : Z.map Prod.fst = belL (L.take j) s) : (Z ++ [(L[j], v)]).map Prod.fst = belL (L.take (j + 1)) s := by
  rw [bel_take hj, if_pos h, List.map_append, hZ]
  rfl
theorem bel_no {L : List Rw} {s : Int} {j : Nat} {Z : List (Rw × Value)} (hj : j < L.length) (h : ¬ L[j].n < s) (hZ : Z.map Prod.fst = belL (L.take j) s) : Z.map Prod.fst = belL (L.take (j + 1)) s := by
  rw [bel_take hj, if_neg h, hZ]
  simp

set_option maxHeartbeats 4000000 in
theorem below_any (L : List Rw) (p : Option Addr) (c : Nat) (s : Int) (w : World) (hR : RdR .i64 w w.heap.size p L) (hlen : L.length ≤ 3518437208780) (hsh : shortR L) :
    Calls Try.prog 23 #[.slice p L.length c, .int .i64 s] w fun e w' => (∃ v Z, e = .returned v ∧ Z.map Prod.fst = belL L s ∧ OwnRs .i64 40 w' w.heap.size v Z) ∧ Below w.heap.size w w' := by
  have HR : Hid (RdR _ _ _ _ _) := hR
  have HS : Hid (shortR L) := hsh
  clear hR hsh
  go_enter Try.func23, Try.ntmps23
  go_wp2_with fail
  go_loopw [5, 10] (fun v i wr => ∃ (j : Nat) (Z : List (Rw × Value)), j ≤ L.length ∧ i = .int .i64 (j : Int) ∧ Hid (Z.map Prod.fst = belL (L.take j) s) ∧ Hid (OwnRs .i64 40 wr w.heap.size v Z) ∧ Below w.heap.size w wr) (fun _ i _ => L.length - (intOf i).toNat)
  case atStart => exact ⟨0, [], Nat.zero_le _, by go_num, rfl, OwnRs.nil _ _ _ _, Below.refl _ _⟩
  case round =>
    obtain ⟨j, Z, hj, rfl, hZ, hO, hn⟩ := hrel
    have hZl : Z.length ≤ j := by
      have := congrArg List.length hZ.out
      rw [List.length_map] at this
      rw [this]
      exact bel_len _ _ _
    by_cases hj0 : j = L.length
    · subst hj0
      have HZ2 : Hid (Z.map Prod.fst = belL L s) := hZ.out.trans (bel_all L s)
      obtain ⟨pv, cv, rfl, _⟩ := owns_len hO.out.1
      go_wp2
      go_ret
      exact ⟨⟨_, Z, rfl, HZ2.out, hO.out⟩, hn⟩
    · have hj1 : j < L.length := by omega
      obtain ⟨b, o, q, d, rfl, hbB, c0, c1, c2, hr, hq⟩ := HR.out j hj1
      have a0 := (hn.cell (p := ⟨b, o + j * 3, none⟩) hbB).trans c0
      have a1 := (hn.cell (p := ⟨b, o + j * 3 + 1, none⟩) hbB).trans c1
      have a2 := (hn.cell (p := ⟨b, o + j * 3 + 2, none⟩) hbB).trans c2
      have HSl : Hid (SlV w w.heap.size (.slice q L[j].row.length d) L[j].row) := ⟨q, d, rfl, hr, hq⟩
      have hshj := HS.out j hj1
      have HY : Hid (L[j].n < s → ∀ v, (Z ++ [(L[j], v)]).map Prod.fst = belL (L.take (j + 1)) s) := fun h v => bel_yes hj1 h v hZ.out
      have HNo : Hid (¬ L[j].n < s → Z.map Prod.fst = belL (L.take (j + 1)) s) := fun h => bel_no hj1 h hZ.out
      have CV : Hid (∀ w1 : World, Below w.heap.size w w1 → Calls Try.prog 31 #[.agg #[.int .i64 L[j].n, .bool L[j].gn, .slice q L[j].row.length d]] w1 fun e w' => (∃ v', e = .returned (.agg #[.int .i64 L[j].n, .bool L[j].gn, v']) ∧ OwnV w' w1.heap.size v' L[j].row) ∧ Below w1.heap.size w1 w') := fun w1 h => ownWrite_any _ _ _ _ w1 ((HSl.out.keep h).mono h.size) hshj
      have HX : Hid (∀ v, rcell .i64 (L[j], v) = [.int .i64 L[j].n, .bool L[j].gn, v]) := fun v => rfl
      clear c0 c1 c2 hj0 hr hshj hZ
      generalize L[j].n = xn at *
      generalize L[j].gn = xg at *
      generalize L[j].row.length = xl at *
      by_cases hx : xn < s
      · have HY2 : Hid (∀ v, (Z ++ [(L[j], v)]).map Prod.fst = belL (L.take (j + 1)) s) := HY.out hx
        clear HY HNo
        go_wp2_with fail
        have hbx : Below w.heap.size w (wr.alloc (.cells #[.int .i64 xn, .bool xg, .slice q xl d] 40)) := by
          have hsz := hn.size
          go_grown
        refine (CV.out _ hbx).mono ?_
        rintro e w5 ⟨⟨v5, rfl, ho5⟩, hb5⟩
        have HB5 : Hid (Below w.heap.size w w5) := hbx.trans (hb5.mono hbx.size)
        have HO5 : Hid (OwnRs .i64 40 w5 w.heap.size u5 Z) := (hO.out.kept (w' := wr.alloc (.cells #[.int .i64 xn, .bool xg, .slice q xl d] 40)) (by go_grown)).kept hb5
        have HV5 : Hid (OwnV w5 w.heap.size v5 L[j].row) := ho5.base hbx.size
        have hsz5 := HB5.out.size
        clear ho5 hb5 hbx hO
        obtain ⟨pv, cv, rfl, _⟩ := owns_len HO5.out.1
        have h1c := HV5.out.sl.one
        go_wp2_with (first | (at_builtin; go_loud (refine wpList_app1 w5 rfl (.tmp 18) (.tmp 21) 40 34 _ 3 40 rfl Try.underlying34 info_wri rfl (by decide) w.heap.size _ _ _ (by rfl) HO5.out.1 [.int .i64 xn, .bool xg, v5] rfl (by intro u hu; simp only [List.mem_cons, List.not_mem_nil, or_false] at hu; rcases hu with rfl | rfl | rfl; rfl; rfl; exact h1c) _ rfl (by simp) (by omega) (by omega) hsz5 ?_); intro v6 w6 h6 h7 h8))
        have H6 : Hid (OwnRs .i64 40 w6 w.heap.size v6 (Z ++ [(L[j], v5)])) := HO5.out.app (z := (L[j], v5)) HV5.out (by decide) (by rw [HX.out]; exact h6) (by rw [HX.out]; exact h8)
        have HB6 : Hid (Below w.heap.size w w6) := HB5.out.trans h7
        clear h6 h7 h8
        go_roundw
        case rel => exact ⟨j + 1, Z ++ [(L[j], v5)], hj1, by go_num, HY2.out v5, H6, HB6.out⟩
        case measure => simp [intOf]; omega
      · have HN2 : Hid (Z.map Prod.fst = belL (L.take (j + 1)) s) := HNo.out hx
        have hx' : s ≤ xn := by omega
        clear HY HNo hx
        go_wp2_with fail
        go_roundw
        case rel => have hsz := hn.size; exact ⟨j + 1, Z, hj1, by go_num, HN2, hO.out.kept (by go_grown), by go_grown⟩
        case measure => simp [intOf]; omega
end Go.Proofs.Yteddpogjpohacab
