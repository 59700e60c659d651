/- The walks of Prune, on both sides. -/
import Derived.Test.YteddpogjpohacabWOwV8
import Derived.Test.YteddpogjpohacabWSam8
namespace Go.Proofs.Yteddpogjpohacab
open Go.RowKit
set_option maxRecDepth 100000

theorem tup2I {v : Value} {a b : Int} (h : a = b) : Ending.returned (.tuple #[v, .int .i64 a]) = Ending.returned (.tuple #[v, .int .i64 b]) := by rw [h]
theorem at_eq {L : List Rw} {s : Int} {j : Nat} (hj : j < L.length) : ((j : Int) = atI L s) ↔ j = atN L s := by
  unfold atI
  split <;> omega
theorem prn_yes {L : List Rw} {s : Int} {j : Nat} {Z : List (Rw × Value)} (hj : j < L.length) (h : kpR s (atN L s) (L[j], j) = true) (v : Value) (hZ : Z.map Prod.fst = prnJ L s j) : (Z ++ [(L[j], v)]).map Prod.fst = prnJ L s (j + 1) := by
  rw [prnJ_succ hj, h, List.map_append, hZ]
  rfl
theorem prn_no {L : List Rw} {s : Int} {j : Nat} {Z : List (Rw × Value)} (hj : j < L.length) (h : kpR s (atN L s) (L[j], j) = false) (hZ : Z.map Prod.fst = prnJ L s j) : Z.map Prod.fst = prnJ L s (j + 1) := by
  rw [prnJ_succ hj, h, hZ]
  simp

set_option maxHeartbeats 4000000 in
theorem prune_any (L : List Rw) (p : Option Addr) (c : Nat) (s : Int) (w : World) (hR : RdR .u64 w w.heap.size p L) (hlen : L.length ≤ 3518437208790) (hsh : shortR L) :
    Calls Try.prog 19 #[.slice p L.length c, .int .u64 s] w fun e w' => (∃ v Z, e = .returned (.tuple #[v, .int .i64 ((L.length - (prnL L s).length : Nat) : Int)]) ∧ Z.map Prod.fst = prnL L s ∧ OwnRs .u64 31 w' w.heap.size v Z) ∧ Below w.heap.size w w' := by
  have HR : Hid (RdR _ _ _ _ _) := hR
  have HS : Hid (shortR L) := hsh
  have HNL : Hid (prnL L s = prnJ L s L.length) := rfl
  have C1 : Hid (Calls _ _ _ _ _) := at_any L p c s w hR (by omega)
  clear hR hsh
  go_enter Try.func19, Try.ntmps19
  go_wp2_with fail
  refine C1.out.mono ?_
  rintro e w1 ⟨rfl, hb1⟩
  have HB1 : Hid (Below w.heap.size w w1) := hb1
  clear hb1 C1
  go_wp2_with fail
  go_loopw [6, 15] (fun v i wr => ∃ (j : Nat) (Z : List (Rw × Value)), j ≤ L.length ∧ i = .int .i64 (j : Int) ∧ Hid (Z.map Prod.fst = prnJ L s j) ∧ Hid (OwnRs .u64 31 wr w.heap.size v Z) ∧ Below w.heap.size w wr) (fun _ i _ => L.length - (intOf i).toNat)
  case atStart => exact ⟨0, [], Nat.zero_le _, by go_num, rfl, OwnRs.nil _ _ _ _, HB1.out⟩
  case round =>
    obtain ⟨j, Z, hj, rfl, hZ, hO, hn⟩ := hrel
    have hZl : Z.length ≤ j := by
      have := congrArg List.length hZ.out
      rw [List.length_map] at this
      rw [this]
      exact prnJ_len _ _ _
    by_cases hj0 : j = L.length
    · subst hj0
      have HZ2 : Hid (Z.map Prod.fst = prnL L s) := hZ.out.trans HNL.out.symm
      have HL2 : Hid (Z.length = (prnL L s).length) := by
        show _ = _
        rw [← HZ2.out, List.length_map]
      obtain ⟨pv, cv, rfl, _⟩ := owns_len hO.out.1
      go_wp2
      go_ret2
      refine ⟨⟨_, Z, ?_, HZ2.out, hO.out⟩, hn⟩
      rw [← HL2.out]
      exact tup2I (by omega)
    · have hj1 : j < L.length := by omega
      obtain ⟨b, o, q, d, rfl, hbB, c0, c1, c2, hr, hq⟩ := HR.out j hj1
      have a0 := (hn.cell (p := ⟨b, o + j * 3, none⟩) hbB).trans c0
      have a1 := (hn.cell (p := ⟨b, o + j * 3 + 1, none⟩) hbB).trans c1
      have a2 := (hn.cell (p := ⟨b, o + j * 3 + 2, none⟩) hbB).trans c2
      have HSl : Hid (SlV w w.heap.size (.slice q L[j].row.length d) L[j].row) := ⟨q, d, rfl, hr, hq⟩
      have hshj := HS.out j hj1
      have HK : Hid (kpR s (atN L s) (L[j], j) = (decide (s < L[j].n) || (decide (j = atN L s) && !L[j].gn))) := rfl
      have CV : Hid (∀ w1 : World, Below w.heap.size w w1 → Calls Try.prog 30 #[.agg #[.int .u64 L[j].n, .bool L[j].gn, .slice q L[j].row.length d]] w1 fun e w' => (∃ v', e = .returned (.agg #[.int .u64 L[j].n, .bool L[j].gn, v']) ∧ OwnV w' w1.heap.size v' L[j].row) ∧ Below w1.heap.size w1 w') := fun w1 h => ownVersion_any _ _ _ _ w1 ((HSl.out.keep h).mono h.size) hshj
      have HX : Hid (∀ v, rcell .u64 (L[j], v) = [.int .u64 L[j].n, .bool L[j].gn, v]) := fun v => rfl
      clear c0 c1 c2 hj0 hr hshj
      generalize hxn : L[j].n = xn at *
      generalize hxg : L[j].gn = xg at *
      generalize hxl : L[j].row.length = xl at *
      clear hxn hxg hxl
      cases h1 : decide (s < xn) with
      | true =>
        have HK1 : Hid (kpR s (atN L s) (L[j], j) = true) := HK.out.trans (by rw [h1]; rfl)
        clear HK
        go_wp2_with fail
        have hbx : Below w.heap.size w (wr.alloc (.cells #[.int .u64 xn, .bool xg, .slice q xl d] 31)) := by
          have hsz := hn.size
          go_grown
        refine (CV.out _ hbx).mono ?_
        rintro e w5 ⟨⟨v5, rfl, ho5⟩, hb5⟩
        have HB5 : Hid (Below w.heap.size w w5) := hbx.trans (hb5.mono hbx.size)
        have HO5 : Hid (OwnRs .u64 31 w5 w.heap.size u6 Z) := (hO.out.kept (w' := wr.alloc (.cells #[.int .u64 xn, .bool xg, .slice q xl d] 31)) (by go_grown)).kept hb5
        have HV5 : Hid (OwnV w5 w.heap.size v5 L[j].row) := ho5.base hbx.size
        have hsz5 := HB5.out.size
        clear ho5 hb5 hbx hO
        obtain ⟨pv, cv, rfl, _⟩ := owns_len HO5.out.1
        have h1c := HV5.out.sl.one
        go_wp2_with (first | (at_builtin; go_loud (refine wpList_app1 w5 rfl (.tmp 34) (.tmp 37) 31 22 _ 3 40 rfl Try.underlying22 info_ver rfl (by decide) w.heap.size _ _ _ (by rfl) HO5.out.1 [.int .u64 xn, .bool xg, v5] rfl (by intro u hu; simp only [List.mem_cons, List.not_mem_nil, or_false] at hu; rcases hu with rfl | rfl | rfl; rfl; rfl; exact h1c) _ rfl (by simp) (by omega) (by omega) hsz5 ?_); intro v6 w6 h6 h7 h8))
        have H6 : Hid (OwnRs .u64 31 w6 w.heap.size v6 (Z ++ [(L[j], v5)])) := HO5.out.app (z := (L[j], v5)) HV5.out (by decide) (by rw [HX.out]; exact h6) (by rw [HX.out]; exact h8)
        have HB6 : Hid (Below w.heap.size w w6) := HB5.out.trans h7
        clear h6 h7 h8
        go_roundw
        case rel => exact ⟨j + 1, Z ++ [(L[j], v5)], hj1, by go_num, prn_yes hj1 HK1.out v5 hZ.out, H6, HB6.out⟩
        case measure => simp [intOf]; omega
      | false =>
        by_cases h2 : (j : Int) = atI L s
        · cases xg with
          | false =>
            have HK1 : Hid (kpR s (atN L s) (L[j], j) = true) := HK.out.trans (by rw [h1, decide_eq_true ((at_eq hj1).1 h2)]; rfl)
            clear HK
            have h3 : ((j : Int) == atI L s) = true := beq_iff_eq.2 h2
            clear h2
            go_wp2_with fail
            have hbx : Below w.heap.size w (wr.alloc (.cells #[.int .u64 xn, .bool false, .slice q xl d] 31)) := by
              have hsz := hn.size
              go_grown
            refine (CV.out _ hbx).mono ?_
            rintro e w5 ⟨⟨v5, rfl, ho5⟩, hb5⟩
            have HB5 : Hid (Below w.heap.size w w5) := hbx.trans (hb5.mono hbx.size)
            have HO5 : Hid (OwnRs .u64 31 w5 w.heap.size u6 Z) := (hO.out.kept (w' := wr.alloc (.cells #[.int .u64 xn, .bool false, .slice q xl d] 31)) (by go_grown)).kept hb5
            have HV5 : Hid (OwnV w5 w.heap.size v5 L[j].row) := ho5.base hbx.size
            have hsz5 := HB5.out.size
            clear ho5 hb5 hbx hO
            obtain ⟨pv, cv, rfl, _⟩ := owns_len HO5.out.1
            have h1c := HV5.out.sl.one
            go_wp2_with (first | (at_builtin; go_loud (refine wpList_app1 w5 rfl (.tmp 34) (.tmp 37) 31 22 _ 3 40 rfl Try.underlying22 info_ver rfl (by decide) w.heap.size _ _ _ (by rfl) HO5.out.1 [.int .u64 xn, .bool false, v5] rfl (by intro u hu; simp only [List.mem_cons, List.not_mem_nil, or_false] at hu; rcases hu with rfl | rfl | rfl; rfl; rfl; exact h1c) _ rfl (by simp) (by omega) (by omega) hsz5 ?_); intro v6 w6 h6 h7 h8))
            have H6 : Hid (OwnRs .u64 31 w6 w.heap.size v6 (Z ++ [(L[j], v5)])) := HO5.out.app (z := (L[j], v5)) HV5.out (by decide) (by rw [HX.out]; exact h6) (by rw [HX.out]; exact h8)
            have HB6 : Hid (Below w.heap.size w w6) := HB5.out.trans h7
            clear h6 h7 h8
            go_roundw
            case rel => exact ⟨j + 1, Z ++ [(L[j], v5)], hj1, by go_num, prn_yes hj1 HK1.out v5 hZ.out, H6, HB6.out⟩
            case measure => simp [intOf]; omega
          | true =>
            have HK1 : Hid (kpR s (atN L s) (L[j], j) = false) := HK.out.trans (by rw [h1, decide_eq_true ((at_eq hj1).1 h2)]; rfl)
            clear HK
            have h3 : ((j : Int) == atI L s) = true := beq_iff_eq.2 h2
            clear h2
            go_wp2_with fail
            go_roundw
            case rel => have hsz := hn.size; exact ⟨j + 1, Z, hj1, by go_num, prn_no hj1 HK1.out hZ.out, hO.out.kept (by go_grown), by go_grown⟩
            case measure => simp [intOf]; omega
        · have HK1 : Hid (kpR s (atN L s) (L[j], j) = false) := HK.out.trans (by rw [h1, decide_eq_false (fun h => h2 ((at_eq hj1).2 h))]; rfl)
          clear HK
          have h3 : ((j : Int) == atI L s) = false := beq_eq_false_iff_ne.2 h2
          clear h2
          go_wp2_with fail
          go_roundw
          case rel => have hsz := hn.size; exact ⟨j + 1, Z, hj1, by go_num, prn_no hj1 HK1.out hZ.out, hO.out.kept (by go_grown), by go_grown⟩
          case measure => simp [intOf]; omega

