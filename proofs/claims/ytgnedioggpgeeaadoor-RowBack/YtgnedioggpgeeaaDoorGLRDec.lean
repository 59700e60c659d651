/- The walk of the statement on Decode: it answers true. -/
import Derived.Test.YtgnedioggpgeeaaDoorGWDcd
import Derived.Test.YtgnedioggpgeeaaDoorGWAppZ
import Derived.Test.YtgnedioggpgeeaaDoorGWREnc
namespace Go.Proofs.YtgnedioggpgeeaaDoor
open Go.RowKit
set_option maxRecDepth 100000

theorem decR_len (t : Tb) (s : ByteArray) : (decR t s).1.length ≤ 64 := by
  unfold decR
  by_cases hc : checkS t = 0
  · rw [if_pos hc]
    by_cases hz : s.size ≤ 65536
    · rw [if_pos hz, decO_K hc hz]
      have h64 := (checkS_counts t hc).2
      unfold rowKR
      rw [List.length_map]
      by_cases h1 : s.size < (t.cs.length + 3) / 4
      · rw [if_pos h1]; simp
      rw [if_neg h1]
      cases h2 : spB s t.cs.length (4 * ((t.cs.length + 3) / 4)) with
      | false => simp
      | true =>
        rw [if_pos rfl]
        cases h3 : rowK s (t.cs.map Cl.kd) 0 ((t.cs.length + 3) / 4) with
        | none => simp
        | some q =>
          have hk := rowK_ok s hz _ _ _ q (fun c hcm => by obtain ⟨c', hc', rfl⟩ := List.mem_map.1 hcm; exact checkS_kd hc c' hc') (by omega) h3
          have hl := hk.2.2
          rw [List.length_map] at hl
          dsimp only
          by_cases h5 : q.2 = s.size ∧ admS t q.1 = 0
          · rw [if_pos h5]
            dsimp only
            omega
          · rw [if_neg h5]
            simp
    · rw [if_neg hz]; simp
  · rw [if_neg hc]; simp
theorem sameL_self : ∀ L : List Vl, sameL L L = true
  | [] => rfl
  | a :: L => by
    unfold sameL
    rw [sameL_self L]
    simp [sameV, sameB]

set_option maxHeartbeats 4000000 in
theorem lawRDec (t : Tb) (a : TabP) (s : ByteArray) (w : World) (hV : TabV w w.heap.size t a) (hok : t.ok) (hs : s.size ≤ 140737488351232) (hE : Env w) :
    Calls Tryd.prog 4 #[a.val t, .string s] w fun e w' => e = .returned (.bool true) ∧ Below w.heap.size w w' := by
  obtain ⟨pc, cc, pk, ck, px, cx, pr, cr⟩ := a
  have hb0 : Below w.heap.size w (w.alloc (.cells #[.string t.nm, .slice pc t.cs.length cc, .slice pk t.key.length ck, .slice px t.ix.length cx, .slice pr t.rf.length cr] 27)) := by go_grown
  have HB : Hid (BoxT _ _ _ _) := BoxT.new w t ⟨pc, cc, pk, ck, px, cx, pr, cr⟩
  have C1 : Hid (∀ w2 : World, Below w.heap.size w w2 → Calls Tryd.prog 10 #[.agg #[.string t.nm, .slice pc t.cs.length cc, .slice pk t.key.length ck, .slice px t.ix.length cx, .slice pr t.rf.length cr], .string s] w2 (DcP (decR t s) w2)) := fun w2 hb => decode_any t ⟨pc, cc, pk, ck, px, cx, pr, cr⟩ s w2 (hV.on hb) hok hs (hE.on hb)
  have C2 : Hid (∀ w2 : World, Below w.heap.size w w2 → Calls Tryd.prog 11 #[.agg #[.string t.nm, .slice pc t.cs.length cc, .slice pk t.key.length ck, .slice px t.ix.length cx, .slice pr t.rf.length cr], .string s] w2 (DcP (decR t s) w2)) := fun w2 hb => rdecode_any t ⟨pc, cc, pk, ck, px, cx, pr, cr⟩ s w2 (hV.on hb) hok hs (hE.on hb)
  have CW : Hid (∀ w2 : World, Below w.heap.size w w2 → Calls Tryd.prog 9 #[] w2 fun e w' => e = .returned (.bool true) ∧ Below w2.heap.size w2 w') := fun w2 hb => awake4 w2 (hE.on hb)
  have hlen := decR_len t s
  clear hV hok hE
  obtain ⟨L, er, hd⟩ : ∃ L er, decR t s = (L, er) := ⟨_, _, rfl⟩
  rw [hd] at C1 C2 hlen
  dsimp only at hlen
  have C4 : Hid (∀ (p q : Option Addr) (c d : Nat) (w1 : World), RowV w1 w1.heap.size p L → RowV w1 w1.heap.size q L → Calls Tryd.prog 12 #[.slice p L.length c, .slice q L.length d] w1 fun e w' => e = .returned (.bool true) ∧ Below w1.heap.size w1 w') := fun p q c d w1 h1 h2 => by
    have h := rsameRow_any L L p q c d w1 h1 h2 (by omega) (by omega)
    rw [sameL_self] at h
    exact h
  clear hd
  unfold TabP.val
  dsimp only
  go_enter Tryd.func4, Tryd.ntmps4
  go_wp2_with fail
  refine (C1.out _ hb0).mono ?_
  rintro e w1 ⟨v1, rfl, hO1, hb1⟩
  have h01 : Below w.heap.size w w1 := hb0.trans (hb1.mono hb0.size)
  have HO1 : Hid (OwnV w1 _ v1 L) := hO1
  have HB1 : Hid (BoxT w1 w.heap.size t ⟨pc, cc, pk, ck, px, cx, pr, cr⟩) := HB.out.on hb1 (by simp)
  obtain ⟨hz1, e0, e1, e2, e3, e4⟩ := HB1.out
  dsimp only at e0 e1 e2 e3 e4
  clear hb0 HB hb1 hO1
  go_wp2_with fail
  refine (C2.out _ h01).mono ?_
  rintro e w2 ⟨v2, rfl, hO2, hb2⟩
  have h02 : Below w.heap.size w w2 := h01.trans (hb2.mono h01.size)
  obtain ⟨p1, c1, rfl, hR1⟩ := (HO1.out.kept hb2).row
  obtain ⟨p2, c2, rfl, hR2⟩ := hO2.row
  have C4' : Hid (Calls _ _ _ _ _) := C4.out p1 p2 c1 c2 w2 hR1 hR2
  clear hR1 hR2 hO2 HO1 hb2 C4
  generalize L.length = n at *
  go_wp2_with fail
  refine C4'.out.mono ?_
  rintro e w3 ⟨rfl, hb3⟩
  have h03 : Below w.heap.size w w3 := h02.trans (hb3.mono h02.size)
  go_wp2_with fail
  refine (CW.out _ h03).mono ?_
  rintro e w4 ⟨rfl, hb4⟩
  go_wp2
  go_ret
  exact ⟨rfl, h03.trans (hb4.mono h03.size)⟩
end Go.Proofs.YtgnedioggpgeeaaDoor
