/- The walks of the document's some, columns. -/
import Derived.Test.YtgnedioggpgeeaaDoorWCheck
namespace Go.Proofs.YtgnedioggpgeeaaDoor
open Go.RowKit
set_option maxRecDepth 100000

theorem contains_take {l : List Int} {k : Nat} (hk : k < l.length) (x : Int) : (l.take (k + 1)).contains x = ((l.take k).contains x || (decide (l[k] = x))) := by
  rw [← List.take_append_getElem hk, Bool.eq_iff_iff]
  simp only [List.contains_iff_mem, List.mem_append, List.mem_singleton, Bool.or_eq_true, decide_eq_true_eq]
  constructor
  · rintro (h | h)
    · exact .inl h
    · exact .inr h.symm
  · rintro (h | h)
    · exact .inl h
    · exact .inr h.symm

set_option maxHeartbeats 4000000 in
theorem rsome_any (t : Tb) (a : TabP) (l : List Int) (p : Option Addr) (c : Nat) (w : World) (hR : RowI w w.heap.size p l) (hn : t.cs.length ≤ 64) (hlen : l.length ≤ 17592186043904) :
    Calls Tryd.prog 50 #[a.val t, .slice p l.length c] w fun e w' => e = .returned (.bool (listB t.cs.length l)) ∧ Below w.heap.size w w' := by
  have HA : Hid (RowI _ _ _ _) := hR
  have HL : Hid (listB t.cs.length l = (decide (1 ≤ l.length) && apartB t.cs.length l)) := rfl
  have HT : Hid (∀ j (hj : j < l.length), apartB t.cs.length (l.take (j + 1)) = (apartB t.cs.length (l.take j) && (decide (0 ≤ l[j]) && decide (l[j] < t.cs.length) && !(l.take j).contains l[j]))) := fun j hj => apart_take j hj
  have HN : Hid (∀ j, apartB t.cs.length (l.take j) = false → apartB t.cs.length l = false) := fun j h => apart_no h
  have HLN : Hid (64 < l.length → apartB t.cs.length l = false) := by
    intro h
    cases he : apartB t.cs.length l with
    | false => rfl
    | true => have := apart_len he; omega
  have HCT : Hid (∀ k (hk : k < l.length) (x : Int), (l.take (k + 1)).contains x = ((l.take k).contains x || decide (l[k] = x))) := fun k hk x => contains_take hk x
  have HB : Hid (BoxT _ _ _ _) := BoxT.new w t a
  have hb0 : Below w.heap.size w (w.alloc (.cells #[.string t.nm, .slice a.pc t.cs.length a.cc, .slice a.pk t.key.length a.ck, .slice a.px t.ix.length a.cx, .slice a.pr t.rf.length a.cr] 27)) := by go_grown
  clear hR
  generalize listB t.cs.length l = d at *
  unfold TabP.val at *
  by_cases h0 : l.length = 0
  · rw [h0] at HL
    go_enter Tryd.func50, Tryd.ntmps50
    go_wp2
    go_ret
    exact ⟨boolV (by rw [HL.out]; rfl), by go_grown⟩
  · rw [decide_eq_true (by omega : 1 ≤ l.length), Bool.true_and] at HL
    have h0' : ¬ (l.length : Int) < 1 := by omega
    rcases Nat.lt_or_ge 64 l.length with h64 | h64
    · have hd : Hid (d = false) := by rw [HLN.out h64] at HL; exact HL
      go_enter Tryd.func50, Tryd.ntmps50
      go_wp2
      go_ret
      exact ⟨boolV hd.out.symm, hb0⟩
    · have h64' : ¬ 64 < (l.length : Int) := by omega
      obtain ⟨hz0, e0, e1, e2, e3, e4⟩ := HB.out
      go_enter Tryd.func50, Tryd.ntmps50
      go_wp2_with fail
      generalize hw1 : w.alloc (.cells #[.string t.nm, .slice a.pc t.cs.length a.cc, .slice a.pk t.key.length a.ck, .slice a.px t.ix.length a.cx, .slice a.pr t.rf.length a.cr] 27) = w1 at *
      clear hw1 HB
      go_loopw [5] (fun i wr => ∃ j : Nat, j ≤ l.length ∧ i = .int .i64 (j : Int) ∧ Hid (apartB t.cs.length (l.take j) = true) ∧ Hid (Below w1.heap.size w1 wr)) (fun i _ => l.length - (intOf i).toNat)
      case atStart => exact ⟨0, Nat.zero_le _, by go_num, (show _ = _ by simp [apartB]), Below.refl _ _⟩
      case round =>
        obtain ⟨j, hj, rfl, hap, hn1⟩ := hrel
        have hbw : Below w.heap.size w wr := hb0.trans (hn1.out.mono hb0.size)
        by_cases hj0 : j = l.length
        · subst hj0
          rw [List.take_length] at hap
          go_wp2
          go_ret
          exact ⟨boolV (by rw [HL.out, hap.out]), hbw⟩
        · have hj1 : j < l.length := by omega
          obtain ⟨b, o, rfl, hbB, d0⟩ := HA.out j hj1
          have a0 := (hbw.cell (p := ⟨b, o + j, none⟩) hbB).trans d0
          have f1 := (hn1.out.cell (p := ⟨w.heap.size, 1, none⟩) hz0).trans e1
          have hst := HT.out j hj1
          rw [hap.out, Bool.true_and] at hst
          have hno := HN.out (j + 1)
          obtain ⟨x, hx⟩ : ∃ x, l[j] = x := ⟨_, rfl⟩
          have HX : Hid (l[j] = x ∧ True) := ⟨hx, trivial⟩
          rw [hx] at a0 d0 hst
          clear hx
          have hsz : wr.heap.size = wr.heap.size := rfl
          rcases (by omega : x < 0 ∨ (t.cs.length : Int) ≤ x ∨ (0 ≤ x ∧ x < t.cs.length)) with hx | hx | ⟨hx, hx2⟩
          · have hd : Hid (d = false) := by
              rw [hno (by rw [hst]; simp; omega)] at HL; exact HL
            clear hst hno
            go_wp2_with fail
            go_quiet (fail)
            go_wp2
            go_ret
            exact ⟨boolV hd.out.symm, hbw.trans ((below_drewN _ _).mono hbw.size)⟩
          · have hd : Hid (d = false) := by
              rw [hno (by rw [hst]; simp; omega)] at HL; exact HL
            clear hst hno
            have hx0 : ¬ x < 0 := by omega
            go_wp2_with fail
            go_quiet (fail)
            go_wp2
            go_ret
            exact ⟨boolV hd.out.symm, hbw.trans ((below_drewN _ _).mono hbw.size)⟩
          · have hx0 : ¬ x < 0 := by omega
            have hx3 : ¬ (t.cs.length : Int) ≤ x := by omega
            rw [decide_eq_true hx, decide_eq_true hx2, Bool.true_and, Bool.true_and] at hst
            have HST : Hid (apartB t.cs.length (l.take (j + 1)) = !(l.take j).contains x) := hst
            have HNO : Hid (apartB t.cs.length (l.take (j + 1)) = false → apartB t.cs.length l = false) := hno
            clear hst hno
            go_wp2_with fail
            go_quiet (fail)
            have hbq : Below w.heap.size w (wr.drewN nq) := hbw.trans ((below_drewN _ _).mono hbw.size)
            have hnq : Hid (Below w1.heap.size w1 (wr.drewN nq)) := hn1.out.trans ((below_drewN _ _).mono hn1.out.size)
            generalize wr.drewN nq = w2 at *
            go_wp2_with fail
            go_loopw [6] (fun i wr' => ∃ k : Nat, k ≤ j ∧ i = .int .i64 (k : Int) ∧ Hid ((l.take k).contains x = false) ∧ Hid (Below w2.heap.size w2 wr')) (fun i _ => j - (intOf i).toNat)
            case atStart => exact ⟨0, Nat.zero_le _, by go_num, (show _ = _ by simp), Below.refl _ _⟩
            case round =>
              obtain ⟨k, hk, rfl, hct, hn2⟩ := hrel
              have hb3 : Below w.heap.size w wr := hbq.trans (hn2.out.mono hbq.size)
              have h13 : Hid (Below w1.heap.size w1 wr) := hnq.out.trans (hn2.out.mono hnq.out.size)
              by_cases hk0 : k = j
              · subst hk0
                have hgo : Hid (apartB t.cs.length (l.take (k + 1)) = true) := (show _ = _ by rw [HST.out, hct.out]; rfl)
                go_wp2_with fail
                go_roundw
                case rel => exact ⟨k + 1, hj1, by go_num, hgo, h13⟩
                case measure => simp [intOf]; omega
              · have hk1 : k < j := by omega
                obtain ⟨b', o', eb, _, g0⟩ := HA.out k (by omega)
                injection eb with eb
                injection eb with eb1 eb2
                subst eb1 eb2
                have y0 := (hb3.cell (p := ⟨b, o + k, none⟩) hbB).trans g0
                have x0 := (hb3.cell (p := ⟨b, o + j, none⟩) hbB).trans d0
                have hc2 := HCT.out k (by omega) x
                rw [hct.out, Bool.false_or] at hc2
                have hcs : l[k] = x → (l.take j).contains x = true := by
                  intro h
                  rw [List.contains_iff_mem]
                  rw [List.mem_take_iff_getElem]
                  exact ⟨k, by omega, h⟩
                have k0 : (k : Int) < (l.length : Int) := by omega
                have k1 : (j : Int) < (l.length : Int) := by omega
                generalize l[k] = y at *
                by_cases hyx : y = x
                · subst hyx
                  have hd : Hid (d = false) := by
                    rw [HNO.out (by rw [HST.out, hcs rfl]; rfl)] at HL; exact HL
                  clear hc2 hcs
                  go_wp2_with fail
                  go_quiet (fail)
                  go_wp2
                  go_ret
                  exact ⟨boolV hd.out.symm, hb3.trans ((below_drewN _ _).mono hb3.size)⟩
                · rw [decide_eq_false hyx] at hc2
                  have HC2 : Hid (_ = _) := hc2
                  clear hc2 hcs
                  go_wp2_with fail
                  go_quiet (fail)
                  go_wp2_with fail
                  go_roundw
                  case rel => exact ⟨k + 1, hk1, by go_num, HC2, hn2.out.trans ((below_drewN _ _).mono hn2.out.size)⟩
                  case measure => simp [intOf]; omega
end Go.Proofs.YtgnedioggpgeeaaDoor
