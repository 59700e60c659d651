/- ChainWrites: the law's walk. -/
import Derived.Test.YteddpogjpohacaaWAwk8
import Derived.Test.YteddpogjpohacaaWSmI8
import Derived.Test.YteddpogjpohacaaWRPt8
import Derived.Test.YteddpogjpohacaaWRFd8
namespace Go.Proofs.Yteddpogjpohacaa
open Go.RowKit
set_option maxRecDepth 100000

theorem box6 {w : World} {g : Nat} {a b c d e f : Value} {T : TypeId} (h : Box w g #[a, b, c, d, e, f] T) : w.cell? ⟨g, 0, none⟩ = some a ∧ w.cell? ⟨g, 1, none⟩ = some b ∧ w.cell? ⟨g, 2, none⟩ = some c ∧ w.cell? ⟨g, 3, none⟩ = some d ∧ w.cell? ⟨g, 4, none⟩ = some e ∧ w.cell? ⟨g, 5, none⟩ = some f := by
  unfold Box at h
  refine ⟨?_, ?_, ?_, ?_, ?_, ?_⟩ <;> simp [World.cell?, h]
theorem bel_sub (L : List Rw) (s : Int) : ∀ r ∈ belL L s, r ∈ L := fun _r hr => (List.mem_filter.1 hr).1
theorem shortR_of {L M : List Rw} (h : shortR L) (hs : ∀ r ∈ M, r ∈ L ∨ r.row.length ≤ 3518437208780) : shortR M := by
  intro i hi
  rcases hs _ (List.getElem_mem hi) with h1 | h1
  · obtain ⟨j, hj, e⟩ := List.getElem_of_mem h1
    rw [← e]
    exact h j hj
  · exact h1
theorem put_short {tx : Int} {W : List Rw} {v : Rw} (h : shortR W) (hv : v.row.length ≤ 3518437208780) : shortR (putL tx W v) ∧ (putL tx W v).length ≤ W.length + 1 := by
  unfold putL
  split
  · exact ⟨fun i hi => absurd hi (by simp), by simp⟩
  · refine ⟨shortR_of h (fun r hr => ?_), by have := belL_len W v.n; simp; omega⟩
    rcases List.mem_append.1 hr with h1 | h1
    · exact Or.inl (bel_sub _ _ r h1)
    · rw [List.mem_singleton] at h1
      exact Or.inr (by rw [h1]; exact hv)
theorem fld_short {W : List Rw} {s : Int} (h : shortR W) : shortR (fldL W s) ∧ (fldL W s).length ≤ W.length + 1 := by
  unfold fldL
  split
  · exact ⟨fun i hi => absurd hi (by simp), by simp⟩
  split
  · cases hW : W[W.length - 1]? with
    | none => exact ⟨fun i hi => absurd hi (by simp), by simp⟩
    | some v =>
      have hv : v ∈ W := List.mem_of_getElem? hW
      refine ⟨shortR_of h (fun r hr => ?_), by have := belL_len W (s - 1); simp; omega⟩
      rcases List.mem_append.1 hr with h1 | h1
      · exact Or.inl (bel_sub _ _ r h1)
      · rw [List.mem_singleton] at h1
        obtain ⟨j, hj, e⟩ := List.getElem_of_mem hv
        refine Or.inr ?_
        rw [h1, ← e]
        exact h j hj
  · exact ⟨shortR_of h (fun r hr => Or.inl (bel_sub _ _ r hr)), by have := belL_len W s; omega⟩

set_option maxHeartbeats 8000000 in
theorem lawWrites (tx : Int) (W : List Rw) (p : Option Addr) (c : Nat) (lv n : Int) (g : Bool) (row : List Vl) (q : Option Addr) (d : Nat) (w : World) (hR : RdR .i64 w w.heap.size p W) (hsh : shortR W) (hlen : W.length ≤ 3518437208780) (_hq : p = none → c = 0) (_hlv : True) (hlw : -9223372036854775808 ≤ lv ∧ lv ≤ 9223372036854775807) (hV : SlV w w.heap.size (.slice q row.length d) row) (hrow : row.length ≤ 3518437208780) (_hn : True) :
    Calls Try.prog 6 #[.agg #[.int .i64 tx, .slice p W.length c, .int .i64 lv, .int .i64 n, .bool g, .slice q row.length d]] w fun e w' => e = .returned (.bool true) ∧ Below w.heap.size w w' := by
  have HR : Hid (∀ w1, Below w.heap.size w w1 → RdR .i64 w1 w1.heap.size p W) := fun w1 h => hR.on h
  have HV : Hid (∀ w1, Below w.heap.size w w1 → SlV w1 w1.heap.size (.slice q row.length d) row) := fun w1 h => (hV.keep h).mono h.size
  have CAw : Hid (∀ w1 : World, Calls Try.prog 12 #[] w1 fun e w' => e = .returned (.bool true) ∧ Below w1.heap.size w1 w') := awake_any
  have CM : Hid (∀ w1, Below w.heap.size w w1 → Calls Try.prog 24 #[.agg #[.int .i64 tx, .slice p W.length c]] w1 fun e w' => e = .returned (.bool (mayI tx W)) ∧ Below w1.heap.size w1 w') := fun w1 h => mayI_any W p c tx w1 (HR.out w1 h) hlen
  have C1 : Hid (∀ w1, Below w.heap.size w w1 → Calls Try.prog 25 #[.agg #[.int .i64 tx, .slice p W.length c], .agg #[.int .i64 n, .bool g, .slice q row.length d]] w1 fun e w' => (∃ v Z, e = .returned (.tuple #[.agg #[.int .i64 (putT tx W ⟨n, g, row⟩), v], .int .i64 (putE tx W ⟨n, g, row⟩)]) ∧ Z.map Prod.fst = putL tx W ⟨n, g, row⟩ ∧ OwnRs .i64 48 w' w1.heap.size v Z) ∧ Below w1.heap.size w1 w') := fun w1 h => put_any W p c tx n g row q d w1 (HR.out w1 h) (HV.out w1 h) hlen hsh hrow
  have C2 : Hid (∀ w1, Below w.heap.size w w1 → Calls Try.prog 26 #[.agg #[.int .i64 tx, .slice p W.length c], .agg #[.int .i64 n, .bool g, .slice q row.length d]] w1 fun e w' => (∃ v Z, e = .returned (.tuple #[.agg #[.int .i64 (putT tx W ⟨n, g, row⟩), v], .int .i64 (putE tx W ⟨n, g, row⟩)]) ∧ Z.map Prod.fst = putL tx W ⟨n, g, row⟩ ∧ HasRb w' w1.heap.size w1.heap.size v Z) ∧ Below w1.heap.size w1 w') := fun w1 h => rput_any W p c tx n g row q d w1 (HR.out w1 h) (HV.out w1 h) hlen
  have C3 : Hid (∀ w1, Below w.heap.size w w1 → Calls Try.prog 28 #[.agg #[.int .i64 tx, .slice p W.length c], .int .i64 lv] w1 fun e w' => (∃ v Z, e = .returned (.tuple #[.agg #[.int .i64 (fldT tx lv), v], .int .i64 (fldE lv)]) ∧ Z.map Prod.fst = fldL W lv ∧ OwnRs .i64 48 w' w1.heap.size v Z) ∧ Below w1.heap.size w1 w') := fun w1 h => fold_any W p c tx lv w1 (HR.out w1 h) hlen hsh hlw.2
  have C4 : Hid (mayI tx W = true → ∀ w1, Below w.heap.size w w1 → Calls Try.prog 29 #[.agg #[.int .i64 tx, .slice p W.length c], .int .i64 lv] w1 fun e w' => (∃ p' c', e = .returned (.tuple #[.agg #[.int .i64 (fldT tx lv), .slice p' (fldL W lv).length c'], .int .i64 (fldE lv)]) ∧ RdR .i64 w' w'.heap.size p' (fldL W lv)) ∧ Below w1.heap.size w1 w') := fun hm w1 h => rfold_any W p c tx lv w1 (HR.out w1 h) hlen hlw.2 hm
  have C5 : Hid (∀ w1, Below w.heap.size w w1 → Calls Try.prog 30 #[.agg #[.int .i64 tx, .slice p W.length c], .int .i64 lv] w1 fun e w' => (∃ v Z, e = .returned (.agg #[.int .i64 (bakT tx W lv), v]) ∧ Z.map Prod.fst = belL W lv ∧ OwnRs .i64 48 w' w1.heap.size v Z) ∧ Below w1.heap.size w1 w') := fun w1 h => back_any W p c tx lv w1 (HR.out w1 h) hlen hsh
  have C6 : Hid (∀ w1, Below w.heap.size w w1 → Calls Try.prog 31 #[.agg #[.int .i64 tx, .slice p W.length c], .int .i64 lv] w1 fun e w' => (∃ v Z, e = .returned (.agg #[.int .i64 (bakT tx W lv), v]) ∧ Z.map Prod.fst = belL W lv ∧ HasRb w' w1.heap.size w1.heap.size v Z) ∧ Below w1.heap.size w1 w') := fun w1 h => rback_any W p c tx lv w1 w1.heap.size (Nat.le_refl _) (HR.out w1 h) hlen
  have HPs : Hid (shortR (putL tx W ⟨n, g, row⟩) ∧ (putL tx W ⟨n, g, row⟩).length ≤ 17592186043904) := ⟨(put_short hsh hrow).1, by have := (put_short (tx := tx) (v := ⟨n, g, row⟩) hsh hrow).2; omega⟩
  have HFs : Hid (shortR (fldL W lv) ∧ (fldL W lv).length ≤ 17592186043904) := ⟨(fld_short hsh).1, by have := (fld_short (s := lv) hsh).2; omega⟩
  have HBs : Hid (shortR (belL W lv) ∧ (belL W lv).length ≤ 17592186043904) := ⟨shortR_of hsh (fun r hr => Or.inl (bel_sub _ _ r hr)), by have := belL_len W lv; omega⟩
  clear hR hV hsh hrow HR HV
  generalize row.length = rl at *
  generalize putT tx W ⟨n, g, row⟩ = pt at *
  generalize putE tx W ⟨n, g, row⟩ = pe at *
  generalize putL tx W ⟨n, g, row⟩ = PL at *
  generalize fldT tx lv = ft at *
  generalize fldE lv = fe at *
  generalize fldL W lv = FL at *
  generalize bakT tx W lv = bt at *
  generalize belL W lv = BL at *
  obtain ⟨wl, hwl⟩ : ∃ wl, W.length = wl := ⟨_, rfl⟩
  have hm0 : mayI tx W = true → 0 < tx → wl = 0 → False := fun h1 h2 h3 => by
    unfold mayI at h1
    rw [hwl, decide_eq_false (show ¬ tx = 0 by omega), decide_eq_true h3] at h1
    simp at h1
  generalize mayI tx W = mb at *
  rw [hwl] at CM C1 C2 C3 C4 C5 C6 ⊢
  clear hwl
  have HX0 : Hid (Box (w.alloc (.cells #[.int .i64 tx, .slice p wl c, .int .i64 lv, .int .i64 n, .bool g, .slice q rl d] 50)) w.heap.size #[.int .i64 tx, .slice p wl c, .int .i64 lv, .int .i64 n, .bool g, .slice q rl d] 50) := Box.new w #[.int .i64 tx, .slice p wl c, .int .i64 lv, .int .i64 n, .bool g, .slice q rl d] 50
  have HB0 : Hid (Below w.heap.size w (w.alloc (.cells #[.int .i64 tx, .slice p wl c, .int .i64 lv, .int .i64 n, .bool g, .slice q rl d] 50))) := by
    show Below _ _ _
    go_grown
  go_enter Try.func6, Try.ntmps6
  obtain ⟨x0, x1, x2, x3, x4, x5⟩ := box6 HX0.out
  go_wp2_with fail
  generalize (w.alloc (.cells #[.int .i64 tx, .slice p wl c, .int .i64 lv, .int .i64 n, .bool g, .slice q rl d] 50)) = w0 at *
  refine (CM.out _ HB0.out).mono ?_
  rintro e w1 ⟨rfl, hb1⟩
  have HB1 : Hid (Below w.heap.size w w1) := HB0.out.trans (hb1.mono HB0.out.size)
  have HX1 : Hid (Box w1 w.heap.size #[.int .i64 tx, .slice p wl c, .int .i64 lv, .int .i64 n, .bool g, .slice q rl d] 50) := HX0.out.on hb1
  clear hb1 HB0 HX0 x0 x1 x2 x3 x4 x5
  obtain ⟨x0, x1, x2, x3, x4, x5⟩ := box6 HX1.out
  by_cases hgo : mb = true ∨ (0 < tx ∧ wl = 0)
  · rcases hgo with rfl | ⟨ht, rfl⟩
    · clear hm0
      go_wp2_with fail
      refine (C1.out _ HB1.out).mono ?_
      rintro e w2 ⟨⟨v2, Z2, rfl, hZ2, hO2⟩, hb2⟩
      obtain ⟨p2, c2, rfl, _, hr2⟩ := hO2.rd hZ2
      have hX2 := HX1.out.on hb2
      have hba : Below w2.heap.size w2 (w2.alloc (.cells #[.int .i64 pt, .slice p2 PL.length c2] 46)) := (Below.refl _ _).alloc (Nat.le_refl _) _
      have HBa : Hid (Below w.heap.size w (w2.alloc (.cells #[.int .i64 pt, .slice p2 PL.length c2] 46))) := (HB1.out.trans (hb2.mono HB1.out.size)).trans (hba.mono (HB1.out.trans (hb2.mono HB1.out.size)).size)
      have HXa : Hid (Box _ w.heap.size #[.int .i64 tx, .slice p wl c, .int .i64 lv, .int .i64 n, .bool g, .slice q rl d] 50 ∧ Box (w2.alloc (.cells #[.int .i64 pt, .slice p2 PL.length c2] 46)) w2.heap.size #[.int .i64 pt, .slice p2 PL.length c2] 46) := ⟨hX2.on hba, Box.new w2 _ _⟩
      have HRa : Hid (RdR .i64 _ _ p2 PL) := hr2.on hba
      clear hb2 hO2 hZ2 hr2 HB1 hX2 hba x0 x1 x2 x3 x4 x5 C1 HX1
      obtain ⟨x0, x1, x2, x3, x4, x5⟩ := box6 HXa.out.1
      go_wp2_with fail
      generalize hwa : w2.alloc (.cells #[.int .i64 pt, .slice p2 PL.length c2] 46) = wa at *
      have hw2 : w2.heap.size < wa.heap.size := by rw [← hwa]; simp [go_sem]
      clear hwa
      refine (C2.out _ HBa.out).mono ?_
      rintro e w3 ⟨⟨v3, Z3, rfl, hZ3, hO3⟩, hb3⟩
      obtain ⟨p3, c3, rfl, _, hr3⟩ := hO3.rd hb3.size hZ3
      have hXa3 := HXa.out.1.on hb3
      have hXb3 := HXa.out.2.on hb3
      have hba : Below w3.heap.size w3 (w3.alloc (.cells #[.int .i64 pt, .slice p3 PL.length c3] 46)) := (Below.refl _ _).alloc (Nat.le_refl _) _
      have HBb : Hid (Below w.heap.size w (w3.alloc (.cells #[.int .i64 pt, .slice p3 PL.length c3] 46))) := (HBa.out.trans (hb3.mono HBa.out.size)).trans (hba.mono (HBa.out.trans (hb3.mono HBa.out.size)).size)
      have HXb : Hid (Box _ w.heap.size #[.int .i64 tx, .slice p wl c, .int .i64 lv, .int .i64 n, .bool g, .slice q rl d] 50 ∧ Box _ w2.heap.size #[.int .i64 pt, .slice p2 PL.length c2] 46 ∧ Box (w3.alloc (.cells #[.int .i64 pt, .slice p3 PL.length c3] 46)) w3.heap.size #[.int .i64 pt, .slice p3 PL.length c3] 46) := ⟨hXa3.on hba, hXb3.on hba, Box.new w3 _ _⟩
      have CS : Hid (Calls _ _ _ _ _) := sameIntent_eq PL p2 p3 c2 c3 pt _ ((HRa.out.on hb3).on hba) (hr3.on hba) HPs.out.2 HPs.out.1
      clear hb3 hO3 hZ3 hr3 HBa HXa hXa3 hXb3 hba x0 x1 x2 x3 x4 x5 C2 HRa
      obtain ⟨x0, x1, x2, x3, x4, x5⟩ := box6 HXb.out.1
      obtain ⟨y0, y1, _⟩ := box2 HXb.out.2.1
      obtain ⟨z0, z1, _⟩ := box2 HXb.out.2.2
      go_wp2_with fail
      generalize w3.alloc (.cells #[.int .i64 pt, .slice p3 PL.length c3] 46) = wb at *
      refine CS.out.mono ?_
      rintro e w4 ⟨rfl, hb4⟩
      have HB4 : Hid (Below w.heap.size w w4) := HBb.out.trans (hb4.mono HBb.out.size)
      have HX4 : Hid (Box w4 w.heap.size #[.int .i64 tx, .slice p wl c, .int .i64 lv, .int .i64 n, .bool g, .slice q rl d] 50) := HXb.out.1.on hb4
      clear hb4 HBb HXb CS x0 x1 x2 x3 x4 x5 y0 y1 z0 z1
      obtain ⟨x0, x1, x2, x3, x4, x5⟩ := box6 HX4.out
      go_wp2_with fail
      refine (CM.out _ HB4.out).mono ?_
      rintro e w5 ⟨rfl, hb5⟩
      have HB5 : Hid (Below w.heap.size w w5) := HB4.out.trans (hb5.mono HB4.out.size)
      have HX5 : Hid (Box w5 w.heap.size #[.int .i64 tx, .slice p wl c, .int .i64 lv, .int .i64 n, .bool g, .slice q rl d] 50) := HX4.out.on hb5
      clear hb5 HB4 HX4 x0 x1 x2 x3 x4 x5
      obtain ⟨x0, x1, x2, x3, x4, x5⟩ := box6 HX5.out
      go_wp2_with fail
      refine (C3.out _ HB5.out).mono ?_
      rintro e w6 ⟨⟨v6, Z6, rfl, hZ6, hO6⟩, hb6⟩
      obtain ⟨p6, c6, rfl, _, hr6⟩ := hO6.rd hZ6
      have hX6 := HX5.out.on hb6
      have hba : Below w6.heap.size w6 (w6.alloc (.cells #[.int .i64 ft, .slice p6 FL.length c6] 46)) := (Below.refl _ _).alloc (Nat.le_refl _) _
      have HBc : Hid (Below w.heap.size w (w6.alloc (.cells #[.int .i64 ft, .slice p6 FL.length c6] 46))) := (HB5.out.trans (hb6.mono HB5.out.size)).trans (hba.mono (HB5.out.trans (hb6.mono HB5.out.size)).size)
      have HXc : Hid (Box _ w.heap.size #[.int .i64 tx, .slice p wl c, .int .i64 lv, .int .i64 n, .bool g, .slice q rl d] 50 ∧ Box (w6.alloc (.cells #[.int .i64 ft, .slice p6 FL.length c6] 46)) w6.heap.size #[.int .i64 ft, .slice p6 FL.length c6] 46) := ⟨hX6.on hba, Box.new w6 _ _⟩
      have HRc : Hid (RdR .i64 _ _ p6 FL) := hr6.on hba
      clear hb6 hO6 hZ6 hr6 HB5 hX6 hba x0 x1 x2 x3 x4 x5 C3 HX5
      obtain ⟨x0, x1, x2, x3, x4, x5⟩ := box6 HXc.out.1
      go_wp2_with fail
      generalize w6.alloc (.cells #[.int .i64 ft, .slice p6 FL.length c6] 46) = wc at *
      refine (C4.out (by simp) _ HBc.out).mono ?_
      rintro e w7 ⟨⟨p7, c7, rfl, hr7⟩, hb7⟩
      have hXc7 := HXc.out.1.on hb7
      have hXd7 := HXc.out.2.on hb7
      have hba : Below w7.heap.size w7 (w7.alloc (.cells #[.int .i64 ft, .slice p7 FL.length c7] 46)) := (Below.refl _ _).alloc (Nat.le_refl _) _
      have HBd : Hid (Below w.heap.size w (w7.alloc (.cells #[.int .i64 ft, .slice p7 FL.length c7] 46))) := (HBc.out.trans (hb7.mono HBc.out.size)).trans (hba.mono (HBc.out.trans (hb7.mono HBc.out.size)).size)
      have HXd : Hid (Box (w7.alloc (.cells #[.int .i64 ft, .slice p7 FL.length c7] 46)) w.heap.size #[.int .i64 tx, .slice p wl c, .int .i64 lv, .int .i64 n, .bool g, .slice q rl d] 50 ∧ Box (w7.alloc (.cells #[.int .i64 ft, .slice p7 FL.length c7] 46)) w6.heap.size #[.int .i64 ft, .slice p6 FL.length c6] 46 ∧ Box (w7.alloc (.cells #[.int .i64 ft, .slice p7 FL.length c7] 46)) w7.heap.size #[.int .i64 ft, .slice p7 FL.length c7] 46) := ⟨hXc7.on hba, hXd7.on hba, Box.new w7 _ _⟩
      have HRd : Hid (RdR .i64 (w7.alloc (.cells #[.int .i64 ft, .slice p7 FL.length c7] 46)) (w7.alloc (.cells #[.int .i64 ft, .slice p7 FL.length c7] 46)).heap.size p6 FL ∧ RdR .i64 (w7.alloc (.cells #[.int .i64 ft, .slice p7 FL.length c7] 46)) (w7.alloc (.cells #[.int .i64 ft, .slice p7 FL.length c7] 46)).heap.size p7 FL) := ⟨(HRc.out.on hb7).on hba, hr7.on hba⟩
      clear hb7 hr7 HBc HXc hXc7 hXd7 hba x0 x1 x2 x3 x4 x5 C4 HRc
      go_wp2_with fail
      generalize w7.alloc (.cells #[.int .i64 ft, .slice p7 FL.length c7] 46) = wd at *
      refine wp_region_L (fun w' => Box w' w.heap.size #[.int .i64 tx, .slice p wl c, .int .i64 lv, .int .i64 n, .bool g, .slice q rl d] 50 ∧ Box w' w6.heap.size #[.int .i64 ft, .slice p6 FL.length c6] 46 ∧ Box w' w7.heap.size #[.int .i64 ft, .slice p7 FL.length c7] 46) 24 (by kernel_rfl) ?_
      have hS0 : Box wd.drew w.heap.size #[.int .i64 tx, .slice p wl c, .int .i64 lv, .int .i64 n, .bool g, .slice q rl d] 50 ∧ Box wd.drew w6.heap.size #[.int .i64 ft, .slice p6 FL.length c6] 46 ∧ Box wd.drew w7.heap.size #[.int .i64 ft, .slice p7 FL.length c7] 46 := HXd.out
      have HBe : Hid (Below w.heap.size w wd.drew) := HBd.out.drew
      have C7 : Hid (Calls Try.prog 27 #[.agg #[.int .i64 ft, .slice p6 FL.length c6], .agg #[.int .i64 ft, .slice p7 FL.length c7]] wd.drew fun e w' => e = .returned (.bool true) ∧ Below wd.drew.heap.size wd.drew w') := sameIntent_eq FL p6 p7 c6 c7 ft wd.drew HRd.out.1 HRd.out.2 HFs.out.2 HFs.out.1
      clear HBd HXd HRd
      refine wpL_take (v := ?_) 0 rfl (by kernel_rfl) (fun _ _ _ h => h) (by rfl) ?_ hS0 ?_
      rotate_left
      focus
        intro w9 hw9
        obtain ⟨x0, x1, x2, x3, x4, x5⟩ := box6 hw9.1
        obtain ⟨y0, y1, _⟩ := box2 hw9.2.1
        obtain ⟨z0, z1, _⟩ := box2 hw9.2.2
        go_simp
        try with_reducible rfl
      try simp only [Act.put, List.setIfInBounds_toArray, List.set_cons_zero, List.set_cons_succ]
      refine wpL_take (v := ?_) 1 rfl (by kernel_rfl) (fun _ _ _ h => h) (by rfl) ?_ hS0 ?_
      rotate_left
      focus
        intro w9 hw9
        obtain ⟨x0, x1, x2, x3, x4, x5⟩ := box6 hw9.1
        obtain ⟨y0, y1, _⟩ := box2 hw9.2.1
        obtain ⟨z0, z1, _⟩ := box2 hw9.2.2
        go_simp
        try with_reducible rfl
      try simp only [Act.put, List.setIfInBounds_toArray, List.set_cons_zero, List.set_cons_succ]
      refine wpL_take (v := ?_) 2 rfl (by kernel_rfl) (fun _ _ _ h => h) (by rfl) ?_ hS0 ?_
      rotate_left
      focus
        intro w9 hw9
        obtain ⟨x0, x1, x2, x3, x4, x5⟩ := box6 hw9.1
        obtain ⟨y0, y1, _⟩ := box2 hw9.2.1
        obtain ⟨z0, z1, _⟩ := box2 hw9.2.2
        go_simp
        try with_reducible rfl
      try simp only [Act.put, List.setIfInBounds_toArray, List.set_cons_zero, List.set_cons_succ]
      refine wpL_take (v := ?_) 3 rfl (by kernel_rfl) (fun _ _ _ h => h) (by rfl) ?_ hS0 ?_
      rotate_left
      focus
        intro w9 hw9
        obtain ⟨x0, x1, x2, x3, x4, x5⟩ := box6 hw9.1
        obtain ⟨y0, y1, _⟩ := box2 hw9.2.1
        obtain ⟨z0, z1, _⟩ := box2 hw9.2.2
        go_simp
        try with_reducible rfl
      try simp only [Act.put, List.setIfInBounds_toArray, List.set_cons_zero, List.set_cons_succ]
      refine wpL_take (v := ?_) 4 rfl (by kernel_rfl) (fun _ _ _ h => h) (by rfl) ?_ hS0 ?_
      rotate_left
      focus
        intro w9 hw9
        obtain ⟨x0, x1, x2, x3, x4, x5⟩ := box6 hw9.1
        obtain ⟨y0, y1, _⟩ := box2 hw9.2.1
        obtain ⟨z0, z1, _⟩ := box2 hw9.2.2
        go_simp
        try with_reducible rfl
      try simp only [Act.put, List.setIfInBounds_toArray, List.set_cons_zero, List.set_cons_succ]
      refine wpL_take (v := ?_) 5 rfl (by kernel_rfl) (fun _ _ _ h => h) (by rfl) ?_ hS0 ?_
      rotate_left
      focus
        intro w9 hw9
        obtain ⟨x0, x1, x2, x3, x4, x5⟩ := box6 hw9.1
        obtain ⟨y0, y1, _⟩ := box2 hw9.2.1
        obtain ⟨z0, z1, _⟩ := box2 hw9.2.2
        go_simp
        try with_reducible rfl
      try simp only [Act.put, List.setIfInBounds_toArray, List.set_cons_zero, List.set_cons_succ]
      refine wpL_one 6 rfl (by kernel_rfl) (by rfl) ?_
      intro K hK
      go_simp
      refine C7.out.mono ?_
      rintro e w8 ⟨rfl, hb8⟩
      dsimp only
      have hS8 : Box w8 w.heap.size #[.int .i64 tx, .slice p wl c, .int .i64 lv, .int .i64 n, .bool g, .slice q rl d] 50 ∧ Box w8 w6.heap.size #[.int .i64 ft, .slice p6 FL.length c6] 46 ∧ Box w8 w7.heap.size #[.int .i64 ft, .slice p7 FL.length c7] 46 := ⟨hS0.1.on hb8, hS0.2.1.on hb8, hS0.2.2.on hb8⟩
      have HB8 : Hid (Below w.heap.size w w8) := HBe.out.trans (hb8.mono HBe.out.size)
      clear hb8 hS0 HBe C7
      refine hK.out _ _ (fun _ => hS8) ?_
      clear hK K
      try simp only [Act.put, List.setIfInBounds_toArray, List.set_cons_zero, List.set_cons_succ]
      refine wpL_take (v := ?_) 7 rfl (by kernel_rfl) (fun _ _ _ h => h) (by rfl) ?_ hS8 ?_
      rotate_left
      focus
        intro w9 hw9
        obtain ⟨x0, x1, x2, x3, x4, x5⟩ := box6 hw9.1
        obtain ⟨y0, y1, _⟩ := box2 hw9.2.1
        obtain ⟨z0, z1, _⟩ := box2 hw9.2.2
        go_simp
        try with_reducible rfl
      try simp only [Act.put, List.setIfInBounds_toArray, List.set_cons_zero, List.set_cons_succ]
      refine wpL_take (v := ?_) 8 rfl (by kernel_rfl) (fun _ _ _ h => h) (by rfl) ?_ hS8 ?_
      rotate_left
      focus
        intro w9 hw9
        obtain ⟨x0, x1, x2, x3, x4, x5⟩ := box6 hw9.1
        obtain ⟨y0, y1, _⟩ := box2 hw9.2.1
        obtain ⟨z0, z1, _⟩ := box2 hw9.2.2
        go_simp
        try with_reducible rfl
      try simp only [Act.put, List.setIfInBounds_toArray, List.set_cons_zero, List.set_cons_succ]
      refine wpL_take (v := ?_) 9 rfl (by kernel_rfl) (fun _ _ _ h => h) (by rfl) ?_ hS8 ?_
      rotate_left
      focus
        intro w9 hw9
        obtain ⟨x0, x1, x2, x3, x4, x5⟩ := box6 hw9.1
        obtain ⟨y0, y1, _⟩ := box2 hw9.2.1
        obtain ⟨z0, z1, _⟩ := box2 hw9.2.2
        go_simp
        try with_reducible rfl
      try simp only [Act.put, List.setIfInBounds_toArray, List.set_cons_zero, List.set_cons_succ]
      refine wpL_take (v := ?_) 10 rfl (by kernel_rfl) (fun _ _ _ h => h) (by rfl) ?_ hS8 ?_
      rotate_left
      focus
        intro w9 hw9
        obtain ⟨x0, x1, x2, x3, x4, x5⟩ := box6 hw9.1
        obtain ⟨y0, y1, _⟩ := box2 hw9.2.1
        obtain ⟨z0, z1, _⟩ := box2 hw9.2.2
        go_simp
        try with_reducible rfl
      try simp only [Act.put, List.setIfInBounds_toArray, List.set_cons_zero, List.set_cons_succ]
      refine wpL_take (v := ?_) 11 rfl (by kernel_rfl) (fun _ _ _ h => h) (by rfl) ?_ hS8 ?_
      rotate_left
      focus
        intro w9 hw9
        obtain ⟨x0, x1, x2, x3, x4, x5⟩ := box6 hw9.1
        obtain ⟨y0, y1, _⟩ := box2 hw9.2.1
        obtain ⟨z0, z1, _⟩ := box2 hw9.2.2
        go_simp
        try with_reducible rfl
      try simp only [Act.put, List.setIfInBounds_toArray, List.set_cons_zero, List.set_cons_succ]
      refine wpL_take (v := ?_) 12 rfl (by kernel_rfl) (fun _ _ _ h => h) (by rfl) ?_ hS8 ?_
      rotate_left
      focus
        intro w9 hw9
        obtain ⟨x0, x1, x2, x3, x4, x5⟩ := box6 hw9.1
        obtain ⟨y0, y1, _⟩ := box2 hw9.2.1
        obtain ⟨z0, z1, _⟩ := box2 hw9.2.2
        go_simp
        try with_reducible rfl
      try simp only [Act.put, List.setIfInBounds_toArray, List.set_cons_zero, List.set_cons_succ]
      refine wpL_take (v := ?_) 14 rfl (by kernel_rfl) (fun _ _ _ h => h) (by rfl) ?_ hS8 ?_
      rotate_left
      focus
        intro w9 hw9
        obtain ⟨x0, x1, x2, x3, x4, x5⟩ := box6 hw9.1
        obtain ⟨y0, y1, _⟩ := box2 hw9.2.1
        obtain ⟨z0, z1, _⟩ := box2 hw9.2.2
        go_simp
        try with_reducible rfl
      try simp only [Act.put, List.setIfInBounds_toArray, List.set_cons_zero, List.set_cons_succ]
      refine wpL_take (v := ?_) 15 rfl (by kernel_rfl) (fun _ _ _ h => h) (by rfl) ?_ hS8 ?_
      rotate_left
      focus
        intro w9 hw9
        obtain ⟨x0, x1, x2, x3, x4, x5⟩ := box6 hw9.1
        obtain ⟨y0, y1, _⟩ := box2 hw9.2.1
        obtain ⟨z0, z1, _⟩ := box2 hw9.2.2
        go_simp
        try with_reducible rfl
      try simp only [Act.put, List.setIfInBounds_toArray, List.set_cons_zero, List.set_cons_succ]
      refine wpL_take (v := ?_) 16 rfl (by kernel_rfl) (fun _ _ _ h => h) (by rfl) ?_ hS8 ?_
      rotate_left
      focus
        intro w9 hw9
        obtain ⟨x0, x1, x2, x3, x4, x5⟩ := box6 hw9.1
        obtain ⟨y0, y1, _⟩ := box2 hw9.2.1
        obtain ⟨z0, z1, _⟩ := box2 hw9.2.2
        go_simp
        try with_reducible rfl
      try simp only [Act.put, List.setIfInBounds_toArray, List.set_cons_zero, List.set_cons_succ]
      refine wpL_take (v := ?_) 17 rfl (by kernel_rfl) (fun _ _ _ h => h) (by rfl) ?_ hS8 ?_
      rotate_left
      focus
        intro w9 hw9
        obtain ⟨x0, x1, x2, x3, x4, x5⟩ := box6 hw9.1
        obtain ⟨y0, y1, _⟩ := box2 hw9.2.1
        obtain ⟨z0, z1, _⟩ := box2 hw9.2.2
        go_simp
        try with_reducible rfl
      try simp only [Act.put, List.setIfInBounds_toArray, List.set_cons_zero, List.set_cons_succ]
      refine wpL_one 13 rfl (by kernel_rfl) (by rfl) ?_
      intro K hK
      go_simp
      refine (C5.out _ HB8.out).mono ?_
      rintro e wA ⟨⟨vA, ZA, rfl, hZA, hOA⟩, hbA⟩
      dsimp only
      obtain ⟨pA, cA, rfl, _, hrA⟩ := hOA.rd hZA
      have hSA : Box wA w.heap.size #[.int .i64 tx, .slice p wl c, .int .i64 lv, .int .i64 n, .bool g, .slice q rl d] 50 ∧ Box wA w6.heap.size #[.int .i64 ft, .slice p6 FL.length c6] 46 ∧ Box wA w7.heap.size #[.int .i64 ft, .slice p7 FL.length c7] 46 := ⟨hS8.1.on hbA, hS8.2.1.on hbA, hS8.2.2.on hbA⟩
      have HBA : Hid (Below w.heap.size w wA) := HB8.out.trans (hbA.mono HB8.out.size)
      have HRA : Hid (RdR .i64 wA wA.heap.size pA BL) := hrA
      clear hbA hS8 HB8 hOA hZA hrA C5
      refine hK.out _ _ (fun _ => hSA) ?_
      clear hK K
      try simp only [Act.put, List.setIfInBounds_toArray, List.set_cons_zero, List.set_cons_succ]
      refine wpL_one 18 rfl (by kernel_rfl) (by rfl) ?_
      intro K hK
      go_simp
      refine (C6.out _ HBA.out).mono ?_
      rintro e wB ⟨⟨vB, ZB, rfl, hZB, hOB⟩, hbB⟩
      dsimp only
      obtain ⟨pB, cB, rfl, _, hrB⟩ := hOB.rd hbB.size hZB
      have hSB : Box wB w.heap.size #[.int .i64 tx, .slice p wl c, .int .i64 lv, .int .i64 n, .bool g, .slice q rl d] 50 ∧ Box wB w6.heap.size #[.int .i64 ft, .slice p6 FL.length c6] 46 ∧ Box wB w7.heap.size #[.int .i64 ft, .slice p7 FL.length c7] 46 := ⟨hSA.1.on hbB, hSA.2.1.on hbB, hSA.2.2.on hbB⟩
      have HBB : Hid (Below w.heap.size w wB) := HBA.out.trans (hbB.mono HBA.out.size)
      have C8 : Hid (Calls _ _ _ _ _) := sameIntent_eq BL pA pB cA cB bt wB (HRA.out.on hbB) hrB HBs.out.2 HBs.out.1
      clear hbB hSA HBA hOB hZB hrB C6 HRA
      refine hK.out _ _ (fun _ => hSB) ?_
      clear hK K
      try simp only [Act.put, List.setIfInBounds_toArray, List.set_cons_zero, List.set_cons_succ]
      refine wpL_one 19 rfl (by kernel_rfl) (by rfl) ?_
      intro K hK
      go_simp
      refine C8.out.mono ?_
      rintro e wC ⟨rfl, hbC⟩
      dsimp only
      have hSC : Box wC w.heap.size #[.int .i64 tx, .slice p wl c, .int .i64 lv, .int .i64 n, .bool g, .slice q rl d] 50 ∧ Box wC w6.heap.size #[.int .i64 ft, .slice p6 FL.length c6] 46 ∧ Box wC w7.heap.size #[.int .i64 ft, .slice p7 FL.length c7] 46 := ⟨hSB.1.on hbC, hSB.2.1.on hbC, hSB.2.2.on hbC⟩
      have HBC : Hid (Below w.heap.size w wC) := HBB.out.trans (hbC.mono HBB.out.size)
      clear hbC hSB HBB C8
      refine hK.out _ _ (fun _ => hSC) ?_
      clear hK K
      try simp only [Act.put, List.setIfInBounds_toArray, List.set_cons_zero, List.set_cons_succ]
      refine wpL_take (v := ?_) 20 rfl (by kernel_rfl) (fun _ _ _ h => h) (by rfl) ?_ hSC ?_
      rotate_left
      focus
        intro w9 hw9
        go_simp
        try with_reducible rfl
      try simp only [Act.put, List.setIfInBounds_toArray, List.set_cons_zero, List.set_cons_succ]
      refine wpL_take (v := ?_) 21 rfl (by kernel_rfl) (fun _ _ _ h => h) (by rfl) ?_ hSC ?_
      rotate_left
      focus
        intro w9 hw9
        go_simp
        try with_reducible rfl
      try simp only [Act.put, List.setIfInBounds_toArray, List.set_cons_zero, List.set_cons_succ]
      refine wpL_one 22 rfl (by kernel_rfl) (by rfl) ?_
      intro K hK
      go_simp
      refine (CAw.out _).mono ?_
      rintro e wD ⟨rfl, hbD⟩
      dsimp only
      have hSD : Box wD w.heap.size #[.int .i64 tx, .slice p wl c, .int .i64 lv, .int .i64 n, .bool g, .slice q rl d] 50 ∧ Box wD w6.heap.size #[.int .i64 ft, .slice p6 FL.length c6] 46 ∧ Box wD w7.heap.size #[.int .i64 ft, .slice p7 FL.length c7] 46 := ⟨hSC.1.on hbD, hSC.2.1.on hbD, hSC.2.2.on hbD⟩
      have HBD : Hid (Below w.heap.size w wD) := HBC.out.trans (hbD.mono HBC.out.size)
      clear hbD hSC HBC
      refine hK.out _ _ (fun _ => hSD) ?_
      clear hK K
      try simp only [Act.put, List.setIfInBounds_toArray, List.set_cons_zero, List.set_cons_succ]
      refine wpL_take (v := ?_) 23 rfl (by kernel_rfl) (fun _ _ _ h => h) (by rfl) ?_ hSD ?_
      rotate_left
      focus
        intro w9 hw9
        go_simp
        try with_reducible rfl
      try simp only [Act.put, List.setIfInBounds_toArray, List.set_cons_zero, List.set_cons_succ]
      refine wpL_one 24 rfl (by kernel_rfl) (by rfl) ?_
      intro K hK
      go_simp
      refine hK.out _ _ (fun h => absurd rfl h) ?_
      clear hK K
      refine wpL_done (by kernel_rfl) ?_ _
      refine NoPanic.normal ?_
      go_wp2_with fail
      go_ret
      exact ⟨rfl, HBD.out⟩
    · cases mb with
      | true => exact absurd (hm0 rfl ht rfl) id
      | false =>
        clear hm0
        go_wp2_with fail
        refine (C1.out _ HB1.out).mono ?_
        rintro e w2 ⟨⟨v2, Z2, rfl, hZ2, hO2⟩, hb2⟩
        obtain ⟨p2, c2, rfl, _, hr2⟩ := hO2.rd hZ2
        have hX2 := HX1.out.on hb2
        have hba : Below w2.heap.size w2 (w2.alloc (.cells #[.int .i64 pt, .slice p2 PL.length c2] 46)) := (Below.refl _ _).alloc (Nat.le_refl _) _
        have HBa : Hid (Below w.heap.size w (w2.alloc (.cells #[.int .i64 pt, .slice p2 PL.length c2] 46))) := (HB1.out.trans (hb2.mono HB1.out.size)).trans (hba.mono (HB1.out.trans (hb2.mono HB1.out.size)).size)
        have HXa : Hid (Box _ w.heap.size #[.int .i64 tx, .slice p 0 c, .int .i64 lv, .int .i64 n, .bool g, .slice q rl d] 50 ∧ Box (w2.alloc (.cells #[.int .i64 pt, .slice p2 PL.length c2] 46)) w2.heap.size #[.int .i64 pt, .slice p2 PL.length c2] 46) := ⟨hX2.on hba, Box.new w2 _ _⟩
        have HRa : Hid (RdR .i64 _ _ p2 PL) := hr2.on hba
        clear hb2 hO2 hZ2 hr2 HB1 hX2 hba x0 x1 x2 x3 x4 x5 C1 HX1
        obtain ⟨x0, x1, x2, x3, x4, x5⟩ := box6 HXa.out.1
        go_wp2_with fail
        generalize hwa : w2.alloc (.cells #[.int .i64 pt, .slice p2 PL.length c2] 46) = wa at *
        have hw2 : w2.heap.size < wa.heap.size := by rw [← hwa]; simp [go_sem]
        clear hwa
        refine (C2.out _ HBa.out).mono ?_
        rintro e w3 ⟨⟨v3, Z3, rfl, hZ3, hO3⟩, hb3⟩
        obtain ⟨p3, c3, rfl, _, hr3⟩ := hO3.rd hb3.size hZ3
        have hXa3 := HXa.out.1.on hb3
        have hXb3 := HXa.out.2.on hb3
        have hba : Below w3.heap.size w3 (w3.alloc (.cells #[.int .i64 pt, .slice p3 PL.length c3] 46)) := (Below.refl _ _).alloc (Nat.le_refl _) _
        have HBb : Hid (Below w.heap.size w (w3.alloc (.cells #[.int .i64 pt, .slice p3 PL.length c3] 46))) := (HBa.out.trans (hb3.mono HBa.out.size)).trans (hba.mono (HBa.out.trans (hb3.mono HBa.out.size)).size)
        have HXb : Hid (Box _ w.heap.size #[.int .i64 tx, .slice p 0 c, .int .i64 lv, .int .i64 n, .bool g, .slice q rl d] 50 ∧ Box _ w2.heap.size #[.int .i64 pt, .slice p2 PL.length c2] 46 ∧ Box (w3.alloc (.cells #[.int .i64 pt, .slice p3 PL.length c3] 46)) w3.heap.size #[.int .i64 pt, .slice p3 PL.length c3] 46) := ⟨hXa3.on hba, hXb3.on hba, Box.new w3 _ _⟩
        have CS : Hid (Calls _ _ _ _ _) := sameIntent_eq PL p2 p3 c2 c3 pt _ ((HRa.out.on hb3).on hba) (hr3.on hba) HPs.out.2 HPs.out.1
        clear hb3 hO3 hZ3 hr3 HBa HXa hXa3 hXb3 hba x0 x1 x2 x3 x4 x5 C2 HRa
        obtain ⟨x0, x1, x2, x3, x4, x5⟩ := box6 HXb.out.1
        obtain ⟨y0, y1, _⟩ := box2 HXb.out.2.1
        obtain ⟨z0, z1, _⟩ := box2 HXb.out.2.2
        go_wp2_with fail
        generalize w3.alloc (.cells #[.int .i64 pt, .slice p3 PL.length c3] 46) = wb at *
        refine CS.out.mono ?_
        rintro e w4 ⟨rfl, hb4⟩
        have HB4 : Hid (Below w.heap.size w w4) := HBb.out.trans (hb4.mono HBb.out.size)
        have HX4 : Hid (Box w4 w.heap.size #[.int .i64 tx, .slice p 0 c, .int .i64 lv, .int .i64 n, .bool g, .slice q rl d] 50) := HXb.out.1.on hb4
        clear hb4 HBb HXb CS x0 x1 x2 x3 x4 x5 y0 y1 z0 z1
        obtain ⟨x0, x1, x2, x3, x4, x5⟩ := box6 HX4.out
        go_wp2_with fail
        refine (CM.out _ HB4.out).mono ?_
        rintro e w5 ⟨rfl, hb5⟩
        have HB5 : Hid (Below w.heap.size w w5) := HB4.out.trans (hb5.mono HB4.out.size)
        have HX5 : Hid (Box w5 w.heap.size #[.int .i64 tx, .slice p 0 c, .int .i64 lv, .int .i64 n, .bool g, .slice q rl d] 50) := HX4.out.on hb5
        clear hb5 HB4 HX4 x0 x1 x2 x3 x4 x5
        go_wp2_with fail
        refine (CAw.out _).mono ?_
        rintro e wz ⟨rfl, hbz⟩
        have HBz : Hid (Below w.heap.size w wz) := HB5.out.trans (hbz.mono HB5.out.size)
        clear hbz
        go_wp2_with fail
        go_ret
        exact ⟨rfl, HBz.out⟩
  · cases mb with
    | true => exact absurd (Or.inl rfl) hgo
    | false =>
      by_cases ht : 0 < tx
      · have hwb : ((wl : Int) == 0) = false := beq_eq_false_iff_ne.2 (fun h => hgo (Or.inr ⟨ht, by omega⟩))
        clear hgo hm0
        go_wp2_with fail
        refine (CAw.out _).mono ?_
        rintro e wz ⟨rfl, hbz⟩
        have HBz : Hid (Below w.heap.size w wz) := HB1.out.trans (hbz.mono HB1.out.size)
        clear hbz
        go_wp2_with fail
        go_ret
        exact ⟨rfl, HBz.out⟩
      · have ht' : tx ≤ 0 := by omega
        clear hgo hm0 ht
        go_wp2_with fail
        refine (CAw.out _).mono ?_
        rintro e wz ⟨rfl, hbz⟩
        have HBz : Hid (Below w.heap.size w wz) := HB1.out.trans (hbz.mono HB1.out.size)
        clear hbz
        go_wp2_with fail
        go_ret
        exact ⟨rfl, HBz.out⟩
end Go.Proofs.Yteddpogjpohacaa
