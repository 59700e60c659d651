/- The walks of keys, indexes, references. -/
import Derived.Test.YtgnedioggpgeeaaDoorWCol2
namespace Go.Proofs.YtgnedioggpgeeaaDoor
open Go.RowKit
set_option maxRecDepth 100000

/-- a table's box -/
structure BoxT (w : World) (g : Nat) (t : Tb) (a : TabP) : Prop where
  hg : g < w.heap.size
  c0 : w.cell? ⟨g, 0, none⟩ = some (.string t.nm)
  c1 : w.cell? ⟨g, 1, none⟩ = some (.slice a.pc t.cs.length a.cc)
  c2 : w.cell? ⟨g, 2, none⟩ = some (.slice a.pk t.key.length a.ck)
  c3 : w.cell? ⟨g, 3, none⟩ = some (.slice a.px t.ix.length a.cx)
  c4 : w.cell? ⟨g, 4, none⟩ = some (.slice a.pr t.rf.length a.cr)
theorem BoxT.on {w w' : World} {g : Nat} {t : Tb} {a : TabP} (h : BoxT w g t a) {B : Nat} (hb : Below B w w') (hB : g < B) : BoxT w' g t a := by
  have k : ∀ {o : Nat} {v : Option Value}, w.cell? ⟨g, o, none⟩ = v → w'.cell? ⟨g, o, none⟩ = v := fun {o v} hc => (hb.cell (p := ⟨g, o, none⟩) hB).trans hc
  exact ⟨Nat.lt_of_lt_of_le h.hg hb.size, k h.c0, k h.c1, k h.c2, k h.c3, k h.c4⟩
theorem BoxT.new (w : World) (t : Tb) (a : TabP) : BoxT (w.alloc (.cells #[.string t.nm, .slice a.pc t.cs.length a.cc, .slice a.pk t.key.length a.ck, .slice a.px t.ix.length a.cx, .slice a.pr t.rf.length a.cr] 27)) w.heap.size t a := by
  refine ⟨by simp, ?_, ?_, ?_, ?_, ?_⟩ <;> simp [go_sem]

set_option maxHeartbeats 4000000 in
theorem key_any (t : Tb) (a : TabP) (w : World) (hV : TabV w w.heap.size t a) (hn : t.cs.length ≤ 64) (hk : t.key.length ≤ 17592186043904) :
    Calls Tryd.prog 42 #[a.val t] w fun e w' => e = .returned (.bool (keyB t)) ∧ Below w.heap.size w w' := by
  have HA : Hid (RowI w w.heap.size a.pk t.key ∧ RowC w w.heap.size a.pc t.cs) := ⟨hV.key, hV.cs⟩
  have CA : Hid (∀ w1, Below w.heap.size w w1 → Calls Tryd.prog 63 #[a.val t, .slice a.pk t.key.length a.ck] w1 fun e w' => e = .returned (.bool (apartB t.cs.length t.key)) ∧ Below w1.heap.size w1 w') := fun w1 hb => apart_any t a t.key a.pk a.ck w1 (hV.key.on hb) hn hk
  have HK : Hid (keyB t = (decide (1 ≤ t.key.length) && apartB t.cs.length t.key && t.key.all (firmB t.cs))) := rfl
  have HIN : Hid (apartB t.cs.length t.key = true → ∀ j (hj : j < t.key.length), 0 ≤ t.key[j] ∧ t.key[j] < t.cs.length) := by
    intro h j hj
    unfold apartB at h
    simp only [Bool.and_eq_true, List.all_eq_true, decide_eq_true_eq] at h
    exact h.1 _ (List.getElem_mem hj)
  have HAT : Hid (∀ j (hj : j < t.key.length), (t.key.take j).all (firmB t.cs) = true → (t.key.take (j + 1)).all (firmB t.cs) = firmB t.cs t.key[j]) := fun j hj h => all_takeA hj h
  have HAN : Hid (∀ j (hj : j < t.key.length), firmB t.cs t.key[j] = false → t.key.all (firmB t.cs) = false) := fun j hj h => all_hit hj h
  have HAE : Hid ((t.key.take t.key.length).all (firmB t.cs) = t.key.all (firmB t.cs)) := (show _ = _ by rw [List.take_length])
  have HBN : Hid (BoxT _ _ _ _) := BoxT.new w t a
  have hb0 : Below w.heap.size w (w.alloc (.cells #[.string t.nm, .slice a.pc t.cs.length a.cc, .slice a.pk t.key.length a.ck, .slice a.px t.ix.length a.cx, .slice a.pr t.rf.length a.cr] 27)) := by go_grown
  clear hV
  generalize keyB t = d at *
  unfold TabP.val at *
  by_cases h0 : t.key.length = 0
  · rw [h0] at HK
    go_enter Tryd.func42, Tryd.ntmps42
    go_wp2
    go_ret
    exact ⟨boolV (by rw [HK.out]; rfl), by go_grown⟩
  · rw [decide_eq_true (by omega : 1 ≤ t.key.length), Bool.true_and] at HK
    have h0' : ¬ (t.key.length : Int) = 0 := by omega
    cases hap : apartB t.cs.length t.key
    · rw [hap] at CA HK
      clear hap
      go_enter Tryd.func42, Tryd.ntmps42
      go_wp2_with fail
      refine (CA.out _ hb0).mono ?_
      rintro e w5 ⟨rfl, hb5⟩
      go_wp2
      go_ret
      exact ⟨boolV (by rw [HK.out]; rfl), hb0.trans (hb5.mono hb0.size)⟩
    · have hin := HIN.out hap
      have HIN' : Hid (∀ j (hj : j < t.key.length), 0 ≤ t.key[j] ∧ t.key[j] < t.cs.length) := hin
      rw [hap, Bool.true_and] at HK
      rw [hap] at CA
      clear hap hin HIN
      go_enter Tryd.func42, Tryd.ntmps42
      go_wp2_with fail
      refine (CA.out _ hb0).mono ?_
      rintro e w5 ⟨rfl, hb5⟩
      have hB5 : BoxT w5 w.heap.size t a := HBN.out.on hb5 (by simp)
      have h05 : Below w.heap.size w w5 := hb0.trans (hb5.mono hb0.size)
      obtain ⟨_, c0, c1, c2, c3, c4⟩ := hB5
      clear CA HBN hb5 hb0
      go_wp2_with fail
      go_loopw [19] (fun k wr => ∃ j : Nat, j ≤ t.key.length ∧ k = .int .i64 (j : Int) ∧ Hid ((t.key.take j).all (firmB t.cs) = true) ∧ wr = w5) (fun k _ => t.key.length - (intOf k).toNat)
      case atStart => exact ⟨0, Nat.zero_le _, by go_num, (show _ = _ by simp), rfl⟩
      case round =>
        obtain ⟨j, hj, rfl, hall, rfl⟩ := hrel
        by_cases hj0 : j = t.key.length
        · subst hj0
          go_wp2
          go_ret
          exact ⟨boolV (by rw [HK.out, ← HAE.out, hall.out]), h05⟩
        · have hj1 : j < t.key.length := by omega
          obtain ⟨b, o, eb, hbB, x0⟩ := HA.out.1 j hj1
          have y0 := (h05.cell (p := ⟨b, o + j, none⟩) hbB).trans x0
          have hin := HIN'.out j hj1
          have hat := HAT.out j hj1 hall.out
          have han := HAN.out j hj1
          generalize t.key[j] = x at *
          obtain ⟨k, rfl⟩ : ∃ k : Nat, x = (k : Int) := ⟨x.toNat, by omega⟩
          have hk1 : k < t.cs.length := by omega
          obtain ⟨b', o', eb', hbB', _, _, z2, _⟩ := HA.out.2 k hk1
          have y2 := (h05.cell (p := ⟨b', o' + k * 7 + 2, none⟩) hbB').trans z2
          have hf : firmB t.cs (k : Int) = !(t.cs[k]).nl := by
            unfold firmB
            rw [Int.toNat_natCast, List.getElem?_eq_getElem hk1]
          rw [hf] at hat han
          rw [eb] at c2
          rw [eb'] at c1
          generalize (t.cs[k]).nl = nl at *
          have k0 : (0 : Int) ≤ (k : Int) := by omega
          have k1 : (k : Int) < (t.cs.length : Int) := by omega
          clear HA HAT HAN HAE HIN' x0 z2 hf hin
          simp only [eb]
          cases nl
          · have HX : Hid (_ = _) := hat
            clear hat han
            go_wp2_with fail
            go_roundw
            case rel => exact ⟨j + 1, hj1, by go_num, (show _ = _ by rw [HX.out]; rfl), by first | rfl | trivial⟩
            case measure => simp [intOf]; omega
          · have HX : Hid (_ = _) := han rfl
            clear hat han
            go_wp2
            go_ret
            exact ⟨boolV (by rw [HK.out, HX.out]), h05⟩
end Go.Proofs.YtgnedioggpgeeaaDoor
