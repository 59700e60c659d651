/- Layer 12: Get, Seek: what is read. Layer 12: Get, Seek. -/
import Derived.Test.YtojfohpnfciajaaGWSkp25
namespace Go.Proofs.Ytojfohpnfciajaa
open Go.RowKit
set_option maxRecDepth 100000

/-- what is told of an entry, or of none -/
def fndC (x : Option En) : Array Value := match x with
  | some e => #[.string e.k, .int .i64 e.v, .int .i64 (e.h : Nat), .bool true]
  | none => #[.string ⟨#[]⟩, .int .i64 0, .int .i64 0, .bool false]
/-- the first one from a key on, or the last one up to it -/
def seekE (E : List En) (k : ByteArray) (back : Bool) : Option En :=
  if back = false then E[fnd E k]? else match getE E k with
    | some e => some e
    | none => if fnd E k = 0 then none else E[fnd E k - 1]?
theorem getN_cases (N : List Nd) (k : ByteArray) : (getN N (fnd (ensN N) k) k = none ∧ getE (ensN N) k = none) ∨ ∃ i, ∃ hi : i < N.length, getN N (fnd (ensN N) k) k = some N[i].nb ∧ getE (ensN N) k = some N[i].e := by
  cases h : getN N (fnd (ensN N) k) k with
  | none => exact .inl ⟨rfl, get_none h⟩
  | some b =>
    obtain ⟨hm, h1, h2⟩ := getN_some h
    exact .inr ⟨_, hm, by rw [h2], get_some hm h1⟩
theorem at_cases (N : List Nd) (i : Nat) : (N[i]?.map Nd.nb = none ∧ (ensN N)[i]? = none) ∨ ∃ j, ∃ hj : j < N.length, N[i]?.map Nd.nb = some N[j].nb ∧ (ensN N)[i]? = some N[j].e := by
  rcases Nat.lt_or_ge i N.length with h | h
  · exact .inr ⟨i, h, by rw [List.getElem?_eq_getElem h]; rfl, ens_at h⟩
  · exact .inl ⟨by rw [List.getElem?_eq_none h]; rfl, by rw [List.getElem?_eq_none (by rw [ens_len]; exact h)]⟩
theorem seekN_cases (N : List Nd) (k : ByteArray) (back : Bool) : (seekN N (fnd (ensN N) k) k back = none ∧ seekE (ensN N) k back = none) ∨ ∃ i, ∃ hi : i < N.length, seekN N (fnd (ensN N) k) k back = some N[i].nb ∧ seekE (ensN N) k back = some N[i].e := by
  unfold seekN seekE
  by_cases hb : back = false
  · rw [if_pos hb, if_pos hb]
    exact at_cases N _
  · rw [if_neg hb, if_neg hb]
    rcases getN_cases N k with ⟨h1, h2⟩ | ⟨i, hi, h1, h2⟩
    · rw [h1, h2]
      dsimp only
      by_cases h0 : fnd (ensN N) k = 0
      · rw [if_pos h0, if_pos h0]
        exact .inl ⟨rfl, rfl⟩
      · rw [if_neg h0, if_neg h0]
        exact at_cases N _
    · rw [h1, h2]
      exact .inr ⟨i, hi, rfl, rfl⟩

set_option maxHeartbeats 2000000 in
theorem tellF1 (lb hb sb hl cb kb : Nat) (N : List Nd) (rk : ByteArray) (rv rh : Int) (rb : Bool) (w : World) (hq : Skp w lb hb sb hl cb N)
    (HC : ∀ w1, Below w.heap.size w w1 → Calls Try.prog 47 #[.agg #[ptr1 lb, ptr1 sb], ptr1 kb] w1 fun e w2 => e = .returned (.agg #[.string rk, .int .i64 rv, .int .i64 rh, .bool rb]) ∧ Below w1.heap.size w1 w2) :
    Calls Try.prog 39 #[ptr1 lb, .func (.func 47) #[] #[ptr1 kb]] w fun e w' => e = .returned (.agg #[.string rk, .int .i64 rv, .int .i64 rh, .bool rb]) ∧ Below w.heap.size w w' := by
  obtain ⟨aX, aB, aS⟩ := blk_new w #[.func (.func 47) #[] #[ptr1 kb]] 110
  obtain ⟨bX, bB, bS⟩ := blk_new (w.alloc (.cells #[.func (.func 47) #[] #[ptr1 kb]] 110)) #[.string ⟨#[]⟩, .int .i64 0, .int .i64 0, .bool false] 106
  rw [aS] at bX
  have hb2 := aB.trans (bB.mono aB.size)
  have HX1 : Hid (Blk ((w.alloc (.cells #[.func (.func 47) #[] #[ptr1 kb]] 110)).alloc (.cells #[.string ⟨#[]⟩, .int .i64 0, .int .i64 0, .bool false] 106)) w.heap.size #[.func (.func 47) #[] #[ptr1 kb]] 110 ∧ Blk ((w.alloc (.cells #[.func (.func 47) #[] #[ptr1 kb]] 110)).alloc (.cells #[.string ⟨#[]⟩, .int .i64 0, .int .i64 0, .bool false] 106)) (w.heap.size + 1) #[.string ⟨#[]⟩, .int .i64 0, .int .i64 0, .bool false] 106 ∧ Below w.heap.size w ((w.alloc (.cells #[.func (.func 47) #[] #[ptr1 kb]] 110)).alloc (.cells #[.string ⟨#[]⟩, .int .i64 0, .int .i64 0, .bool false] 106))) := ⟨aX.on bB, bX, hb2⟩
  have HC1 : Hid (∀ w1, Below w.heap.size w w1 → Calls Try.prog 47 #[.agg #[ptr1 lb, ptr1 sb], ptr1 kb] w1 fun e w2 => e = .returned (.agg #[.string rk, .int .i64 rv, .int .i64 rh, .bool rb]) ∧ Below w1.heap.size w1 w2) := HC
  have HQ : Hid (Skp ((w.alloc (.cells #[.func (.func 47) #[] #[ptr1 kb]] 110)).alloc (.cells #[.string ⟨#[]⟩, .int .i64 0, .int .i64 0, .bool false] 106)) lb hb sb hl cb N) := hq.on hb2
  clear hq HC aX aB aS bX bB bS hb2
  go_enter Try.func39, Try.ntmps39
  go_wp2_with fail
  generalize ((w.alloc (.cells #[.func (.func 47) #[] #[ptr1 kb]] 110)).alloc (.cells #[.string ⟨#[]⟩, .int .i64 0, .int .i64 0, .bool false] 106)) = w1 at *
  go_loopw [10] (fun sx wq => sx = .int .i64 0 ∧ wq = w1) (fun _ _ => 0)
  case atStart => exact ⟨rfl, rfl⟩
  case round =>
    obtain ⟨rfl, hwr⟩ := hrel
    rw [hwr]
    clear hwr
    have C1 : Hid (Calls _ _ _ _ _) := now_any lb hb sb hl cb N w1 HQ.out
    go_wp2_with fail
    refine C1.out.mono ?_
    rintro e w2 ⟨rfl, hb2⟩
    obtain ⟨cX, cB, cS⟩ := blk_new w2 #[ptr1 lb, ptr1 sb] 102
    have hb3 := hb2.trans (cB.mono hb2.size)
    have hb3w := HX1.out.2.2.trans (hb3.mono HX1.out.2.2.size)
    have HB3 : Hid (Below w1.heap.size w1 (w2.alloc (.cells #[ptr1 lb, ptr1 sb] 102))) := hb3
    have HX3 : Hid (Blk (w2.alloc (.cells #[ptr1 lb, ptr1 sb] 102)) w2.heap.size #[ptr1 lb, ptr1 sb] 102) := cX
    have C2 : Hid (Calls _ _ _ _ _) := HC1.out (w2.alloc (.cells #[ptr1 lb, ptr1 sb] 102)) hb3w
    have y0 := Blk.cell (i := 0) (HX1.out.1.on hb3) rfl
    have v0 := Blk.cell (i := 0) cX rfl
    have v1 := Blk.cell (i := 1) cX rfl
    clear cX cB cS hb2 hb3 hb3w C1
    go_wp2_with fail
    generalize (w2.alloc (.cells #[ptr1 lb, ptr1 sb] 102)) = w3 at *
    generalize w2.heap.size = vb3 at *
    refine C2.out.mono ?_
    rintro e w4 ⟨rfl, hb4⟩
    obtain ⟨dX, dB, dS⟩ := blk_new w4 #[.string rk, .int .i64 rv, .int .i64 rh, .bool rb] 106
    have hb5 := hb4.trans (dB.mono hb4.size)
    have hb15 := HB3.out.trans (hb5.mono HB3.out.size)
    have hq5 := HQ.out.on hb15
    have C3 : Hid (Calls _ _ _ _ _) := holds_any lb hb sb (w4.alloc (.cells #[.string rk, .int .i64 rv, .int .i64 rh, .bool rb] 106)) hq5.l hq5.vw.s
    have HB5 : Hid (Below w1.heap.size w1 (w4.alloc (.cells #[.string rk, .int .i64 rv, .int .i64 rh, .bool rb] 106))) := hb15
    have HD5 : Hid (Blk (w4.alloc (.cells #[.string rk, .int .i64 rv, .int .i64 rh, .bool rb] 106)) w4.heap.size #[.string rk, .int .i64 rv, .int .i64 rh, .bool rb] 106) := dX
    have v0 := Blk.cell (i := 0) (HX3.out.on hb5) rfl
    have v1 := Blk.cell (i := 1) (HX3.out.on hb5) rfl
    clear dX dB dS hb4 hb5 hb15 hq5 C2 y0
    go_wp2_with fail
    generalize (w4.alloc (.cells #[.string rk, .int .i64 rv, .int .i64 rh, .bool rb] 106)) = w5 at *
    generalize w4.heap.size = rb5 at *
    refine C3.out.mono ?_
    rintro e w6 ⟨rfl, hb6⟩
    have hd := HD5.out.on hb6
    have hb16 := HB5.out.trans (hb6.mono HB5.out.size)
    have hz := HX1.out.2.1.on hb16
    have d0 := Blk.cell (i := 0) hd rfl
    have d1 := Blk.cell (i := 1) hd rfl
    have d2 := Blk.cell (i := 2) hd rfl
    have d3 := Blk.cell (i := 3) hd rfl
    have x0 := Blk.cell (i := 0) hz rfl
    have x1 := Blk.cell (i := 1) hz rfl
    have x2 := Blk.cell (i := 2) hz rfl
    have x3 := Blk.cell (i := 3) hz rfl
    have f0 := hz.frozen 0
    have f1 := hz.frozen 1
    have f2 := hz.frozen 2
    have f3 := hz.frozen 3
    have hr10 := (((hz.set 0 (.string rk)).set 1 (.int .i64 rv)).set 2 (.int .i64 rh)).set 3 (.bool rb)
    have q0 := Blk.cell (i := 0) hr10 rfl
    have q1 := Blk.cell (i := 1) hr10 rfl
    have q2 := Blk.cell (i := 2) hr10 rfl
    have q3 := Blk.cell (i := 3) hr10 rfl
    have hbw := HX1.out.2.2.trans (hb16.mono HX1.out.2.2.size)
    have HK : Hid (Below w.heap.size w ((((w6.setCell ⟨w.heap.size + 1, 0, none⟩ (.string rk)).setCell ⟨w.heap.size + 1, 1, none⟩ (.int .i64 rv)).setCell ⟨w.heap.size + 1, 2, none⟩ (.int .i64 rh)).setCell ⟨w.heap.size + 1, 3, none⟩ (.bool rb))) := below_set (below_set (below_set (below_set hbw (by omega) 0 _) (by omega) 1 _) (by omega) 2 _) (by omega) 3 _
    clear hd hz hr10 hbw hb16 hb6 C3
    go_wp2_with fail
    refine bodyPost_ret (v := .agg #[.string rk, .int .i64 rv, .int .i64 rh, .bool rb]) (by simp [results, Try.results39, go_sem, q0, q1, q2, q3]) rfl ?_
    exact ⟨rfl, HK.out⟩

set_option maxHeartbeats 2000000 in
theorem tellF2 (lb hb sb hl cb kb bb : Nat) (N : List Nd) (rk : ByteArray) (rv rh : Int) (rb : Bool) (w : World) (hq : Skp w lb hb sb hl cb N)
    (HC : ∀ w1, Below w.heap.size w w1 → Calls Try.prog 40 #[.agg #[ptr1 lb, ptr1 sb], ptr1 kb, ptr1 bb] w1 fun e w2 => e = .returned (.agg #[.string rk, .int .i64 rv, .int .i64 rh, .bool rb]) ∧ Below w1.heap.size w1 w2) :
    Calls Try.prog 39 #[ptr1 lb, .func (.func 40) #[] #[ptr1 kb, ptr1 bb]] w fun e w' => e = .returned (.agg #[.string rk, .int .i64 rv, .int .i64 rh, .bool rb]) ∧ Below w.heap.size w w' := by
  obtain ⟨aX, aB, aS⟩ := blk_new w #[.func (.func 40) #[] #[ptr1 kb, ptr1 bb]] 110
  obtain ⟨bX, bB, bS⟩ := blk_new (w.alloc (.cells #[.func (.func 40) #[] #[ptr1 kb, ptr1 bb]] 110)) #[.string ⟨#[]⟩, .int .i64 0, .int .i64 0, .bool false] 106
  rw [aS] at bX
  have hb2 := aB.trans (bB.mono aB.size)
  have HX1 : Hid (Blk ((w.alloc (.cells #[.func (.func 40) #[] #[ptr1 kb, ptr1 bb]] 110)).alloc (.cells #[.string ⟨#[]⟩, .int .i64 0, .int .i64 0, .bool false] 106)) w.heap.size #[.func (.func 40) #[] #[ptr1 kb, ptr1 bb]] 110 ∧ Blk ((w.alloc (.cells #[.func (.func 40) #[] #[ptr1 kb, ptr1 bb]] 110)).alloc (.cells #[.string ⟨#[]⟩, .int .i64 0, .int .i64 0, .bool false] 106)) (w.heap.size + 1) #[.string ⟨#[]⟩, .int .i64 0, .int .i64 0, .bool false] 106 ∧ Below w.heap.size w ((w.alloc (.cells #[.func (.func 40) #[] #[ptr1 kb, ptr1 bb]] 110)).alloc (.cells #[.string ⟨#[]⟩, .int .i64 0, .int .i64 0, .bool false] 106))) := ⟨aX.on bB, bX, hb2⟩
  have HC1 : Hid (∀ w1, Below w.heap.size w w1 → Calls Try.prog 40 #[.agg #[ptr1 lb, ptr1 sb], ptr1 kb, ptr1 bb] w1 fun e w2 => e = .returned (.agg #[.string rk, .int .i64 rv, .int .i64 rh, .bool rb]) ∧ Below w1.heap.size w1 w2) := HC
  have HQ : Hid (Skp ((w.alloc (.cells #[.func (.func 40) #[] #[ptr1 kb, ptr1 bb]] 110)).alloc (.cells #[.string ⟨#[]⟩, .int .i64 0, .int .i64 0, .bool false] 106)) lb hb sb hl cb N) := hq.on hb2
  clear hq HC aX aB aS bX bB bS hb2
  go_enter Try.func39, Try.ntmps39
  go_wp2_with fail
  generalize ((w.alloc (.cells #[.func (.func 40) #[] #[ptr1 kb, ptr1 bb]] 110)).alloc (.cells #[.string ⟨#[]⟩, .int .i64 0, .int .i64 0, .bool false] 106)) = w1 at *
  go_loopw [10] (fun sx wq => sx = .int .i64 0 ∧ wq = w1) (fun _ _ => 0)
  case atStart => exact ⟨rfl, rfl⟩
  case round =>
    obtain ⟨rfl, hwr⟩ := hrel
    rw [hwr]
    clear hwr
    have C1 : Hid (Calls _ _ _ _ _) := now_any lb hb sb hl cb N w1 HQ.out
    go_wp2_with fail
    refine C1.out.mono ?_
    rintro e w2 ⟨rfl, hb2⟩
    obtain ⟨cX, cB, cS⟩ := blk_new w2 #[ptr1 lb, ptr1 sb] 102
    have hb3 := hb2.trans (cB.mono hb2.size)
    have hb3w := HX1.out.2.2.trans (hb3.mono HX1.out.2.2.size)
    have HB3 : Hid (Below w1.heap.size w1 (w2.alloc (.cells #[ptr1 lb, ptr1 sb] 102))) := hb3
    have HX3 : Hid (Blk (w2.alloc (.cells #[ptr1 lb, ptr1 sb] 102)) w2.heap.size #[ptr1 lb, ptr1 sb] 102) := cX
    have C2 : Hid (Calls _ _ _ _ _) := HC1.out (w2.alloc (.cells #[ptr1 lb, ptr1 sb] 102)) hb3w
    have y0 := Blk.cell (i := 0) (HX1.out.1.on hb3) rfl
    have v0 := Blk.cell (i := 0) cX rfl
    have v1 := Blk.cell (i := 1) cX rfl
    clear cX cB cS hb2 hb3 hb3w C1
    go_wp2_with fail
    generalize (w2.alloc (.cells #[ptr1 lb, ptr1 sb] 102)) = w3 at *
    generalize w2.heap.size = vb3 at *
    refine C2.out.mono ?_
    rintro e w4 ⟨rfl, hb4⟩
    obtain ⟨dX, dB, dS⟩ := blk_new w4 #[.string rk, .int .i64 rv, .int .i64 rh, .bool rb] 106
    have hb5 := hb4.trans (dB.mono hb4.size)
    have hb15 := HB3.out.trans (hb5.mono HB3.out.size)
    have hq5 := HQ.out.on hb15
    have C3 : Hid (Calls _ _ _ _ _) := holds_any lb hb sb (w4.alloc (.cells #[.string rk, .int .i64 rv, .int .i64 rh, .bool rb] 106)) hq5.l hq5.vw.s
    have HB5 : Hid (Below w1.heap.size w1 (w4.alloc (.cells #[.string rk, .int .i64 rv, .int .i64 rh, .bool rb] 106))) := hb15
    have HD5 : Hid (Blk (w4.alloc (.cells #[.string rk, .int .i64 rv, .int .i64 rh, .bool rb] 106)) w4.heap.size #[.string rk, .int .i64 rv, .int .i64 rh, .bool rb] 106) := dX
    have v0 := Blk.cell (i := 0) (HX3.out.on hb5) rfl
    have v1 := Blk.cell (i := 1) (HX3.out.on hb5) rfl
    clear dX dB dS hb4 hb5 hb15 hq5 C2 y0
    go_wp2_with fail
    generalize (w4.alloc (.cells #[.string rk, .int .i64 rv, .int .i64 rh, .bool rb] 106)) = w5 at *
    generalize w4.heap.size = rb5 at *
    refine C3.out.mono ?_
    rintro e w6 ⟨rfl, hb6⟩
    have hd := HD5.out.on hb6
    have hb16 := HB5.out.trans (hb6.mono HB5.out.size)
    have hz := HX1.out.2.1.on hb16
    have d0 := Blk.cell (i := 0) hd rfl
    have d1 := Blk.cell (i := 1) hd rfl
    have d2 := Blk.cell (i := 2) hd rfl
    have d3 := Blk.cell (i := 3) hd rfl
    have x0 := Blk.cell (i := 0) hz rfl
    have x1 := Blk.cell (i := 1) hz rfl
    have x2 := Blk.cell (i := 2) hz rfl
    have x3 := Blk.cell (i := 3) hz rfl
    have f0 := hz.frozen 0
    have f1 := hz.frozen 1
    have f2 := hz.frozen 2
    have f3 := hz.frozen 3
    have hr10 := (((hz.set 0 (.string rk)).set 1 (.int .i64 rv)).set 2 (.int .i64 rh)).set 3 (.bool rb)
    have q0 := Blk.cell (i := 0) hr10 rfl
    have q1 := Blk.cell (i := 1) hr10 rfl
    have q2 := Blk.cell (i := 2) hr10 rfl
    have q3 := Blk.cell (i := 3) hr10 rfl
    have hbw := HX1.out.2.2.trans (hb16.mono HX1.out.2.2.size)
    have HK : Hid (Below w.heap.size w ((((w6.setCell ⟨w.heap.size + 1, 0, none⟩ (.string rk)).setCell ⟨w.heap.size + 1, 1, none⟩ (.int .i64 rv)).setCell ⟨w.heap.size + 1, 2, none⟩ (.int .i64 rh)).setCell ⟨w.heap.size + 1, 3, none⟩ (.bool rb))) := below_set (below_set (below_set (below_set hbw (by omega) 0 _) (by omega) 1 _) (by omega) 2 _) (by omega) 3 _
    clear hd hz hr10 hbw hb16 hb6 C3
    go_wp2_with fail
    refine bodyPost_ret (v := .agg #[.string rk, .int .i64 rv, .int .i64 rh, .bool rb]) (by simp [results, Try.results39, go_sem, q0, q1, q2, q3]) rfl ?_
    exact ⟨rfl, HK.out⟩

set_option maxHeartbeats 2000000 in
theorem get1_any (lb hb sb hl cb kb : Nat) (N : List Nd) (k : ByteArray) (w : World) (hq : Skp w lb hb sb hl cb N) (k1 : Blk w kb #[.string k] 9) :
    Calls Try.prog 47 #[.agg #[ptr1 lb, ptr1 sb], ptr1 kb] w fun e w' => e = .returned (.agg (fndC (getE (ensN N) k))) ∧ Below w.heap.size w w' := by
  obtain ⟨aX, aB, aS⟩ := blk_new w #[ptr1 lb, ptr1 sb] 102
  obtain ⟨bX, bB, bS⟩ := blk_new (w.alloc (.cells #[ptr1 lb, ptr1 sb] 102)) #[.string ⟨#[]⟩, .int .i64 0, .int .i64 0, .bool false] 106
  rw [aS] at bX
  have hb2 := aB.trans (bB.mono aB.size)
  have HX : Hid (Blk ((w.alloc (.cells #[ptr1 lb, ptr1 sb] 102)).alloc (.cells #[.string ⟨#[]⟩, .int .i64 0, .int .i64 0, .bool false] 106)) w.heap.size #[ptr1 lb, ptr1 sb] 102 ∧ Blk ((w.alloc (.cells #[ptr1 lb, ptr1 sb] 102)).alloc (.cells #[.string ⟨#[]⟩, .int .i64 0, .int .i64 0, .bool false] 106)) (w.heap.size + 1) #[.string ⟨#[]⟩, .int .i64 0, .int .i64 0, .bool false] 106 ∧ Below w.heap.size w ((w.alloc (.cells #[ptr1 lb, ptr1 sb] 102)).alloc (.cells #[.string ⟨#[]⟩, .int .i64 0, .int .i64 0, .bool false] 106))) := ⟨aX.on bB, bX, hb2⟩
  have HQ : Hid (Skp ((w.alloc (.cells #[ptr1 lb, ptr1 sb] 102)).alloc (.cells #[.string ⟨#[]⟩, .int .i64 0, .int .i64 0, .bool false] 106)) lb hb sb hl cb N) := hq.on hb2
  have x0 := Blk.cell (i := 0) (aX.on bB) rfl
  have x1 := Blk.cell (i := 1) (aX.on bB) rfl
  have y0 := Blk.cell (i := 0) (k1.on hb2) rfl
  have C1 : Hid (Calls _ _ _ _ _) := find_any lb hb sb hl (fnd (ensN N) k) N k ((w.alloc (.cells #[ptr1 lb, ptr1 sb] 102)).alloc (.cells #[.string ⟨#[]⟩, .int .i64 0, .int .i64 0, .bool false] 106)) (hq.on hb2).vw (hq.on hb2).n.n (fnd_leN N k) (rise_lt k) (rise_ge hq.r k)
  have HT := getN_cases N k
  clear hq aX aB aS bX bB bS hb2
  go_enter Try.func47, Try.ntmps47
  go_wp2_with fail
  generalize ((w.alloc (.cells #[ptr1 lb, ptr1 sb] 102)).alloc (.cells #[.string ⟨#[]⟩, .int .i64 0, .int .i64 0, .bool false] 106)) = w1 at *
  refine C1.out.mono ?_
  rintro e w2 ⟨rfl, hb2⟩
  have HB2 : Hid (Below w1.heap.size w1 w2) := hb2
  clear C1 hb2 x0 x1
  rcases HT with ⟨e1, e2⟩ | ⟨i, hi, e1, e2⟩
  · obtain ⟨rk, hrk⟩ : ∃ rk : ByteArray, rk = ⟨#[]⟩ := ⟨_, rfl⟩
    obtain ⟨rv, hrv⟩ : ∃ rv : Int, rv = 0 := ⟨_, rfl⟩
    obtain ⟨rh, hrh⟩ : ∃ rh : Int, rh = 0 := ⟨_, rfl⟩
    obtain ⟨rb, hrb⟩ : ∃ rb : Bool, rb = false := ⟨_, rfl⟩
    have HR : Hid (fndC (getE (ensN N) k) = #[.string rk, .int .i64 rv, .int .i64 rh, .bool rb]) := by
      show fndC (getE (ensN N) k) = #[.string rk, .int .i64 rv, .int .i64 rh, .bool rb]
      rw [e2, hrk, hrv, hrh, hrb]
      rfl
    have C2 : Hid (Calls _ _ _ _ _) := entryOf_nil w2
    rw [← hrk, ← hrv, ← hrb] at C2
    rw [e1, show ptrO none = .pointer none from rfl]
    have HRh : Hid (rh = rv) := by show rh = rv; rw [hrh, hrv]
    clear e1 e2 hrk hrv hrb hrh
    go_wp2_with fail
    refine C2.out.mono ?_
    rintro e w3 ⟨rfl, hb3⟩
    have HB3 : Hid (Below w1.heap.size w1 w3) := HB2.out.trans (hb3.mono HB2.out.size)
    obtain rfl := HRh.out
    clear C2 hb3 HB2
    have hx := HX.out.2.1.on HB3.out
    have x0 := Blk.cell (i := 0) hx rfl
    have x1 := Blk.cell (i := 1) hx rfl
    have x2 := Blk.cell (i := 2) hx rfl
    have x3 := Blk.cell (i := 3) hx rfl
    have f0 := hx.frozen 0
    have f1 := hx.frozen 1
    have f2 := hx.frozen 2
    have f3 := hx.frozen 3
    have hr10 := (((hx.set 0 (.string rk)).set 1 (.int .i64 rh)).set 2 (.int .i64 rh)).set 3 (.bool rb)
    have q0 := Blk.cell (i := 0) hr10 rfl
    have q1 := Blk.cell (i := 1) hr10 rfl
    have q2 := Blk.cell (i := 2) hr10 rfl
    have q3 := Blk.cell (i := 3) hr10 rfl
    have hbw := HX.out.2.2.trans (HB3.out.mono HX.out.2.2.size)
    have HK : Hid (Below w.heap.size w ((((w3.setCell ⟨w.heap.size + 1, 0, none⟩ (.string rk)).setCell ⟨w.heap.size + 1, 1, none⟩ (.int .i64 rh)).setCell ⟨w.heap.size + 1, 2, none⟩ (.int .i64 rh)).setCell ⟨w.heap.size + 1, 3, none⟩ (.bool rb))) := below_set (below_set (below_set (below_set hbw (by omega) 0 _) (by omega) 1 _) (by omega) 2 _) (by omega) 3 _
    clear hx hr10 hbw
    go_wp2_with fail
    refine bodyPost_ret (v := .agg #[.string rk, .int .i64 rh, .int .i64 rh, .bool rb]) (by simp [results, Try.results47, go_sem, q0, q1, q2, q3]) rfl ?_
    exact ⟨by rw [HR.out], HK.out⟩
  · have HR : Hid (fndC (getE (ensN N) k) = #[.string N[i].e.k, .int .i64 N[i].e.v, .int .i64 (N[i].e.h : Nat), .bool true]) := by
      show fndC (getE (ensN N) k) = _
      rw [e2]
      rfl
    have C2 : Hid (Calls _ _ _ _ _) := entryOf_at N[i].nb N[i].vb N[i].lb N[i].e.h N[i].e.k N[i].e.v w2 ((HQ.out.n.ndm hi).on HB2.out)
    rw [e1, show ptrO (some N[i].nb) = ptr1 N[i].nb from rfl]
    clear e1 e2
    generalize N[i].nb = nb at *
    obtain ⟨rk, hrk⟩ : ∃ rk, N[i].e.k = rk := ⟨_, rfl⟩
    obtain ⟨rv, hrv⟩ : ∃ rv, N[i].e.v = rv := ⟨_, rfl⟩
    obtain ⟨rh, hrh⟩ : ∃ rh : Int, ((N[i].e.h : Nat) : Int) = rh := ⟨_, rfl⟩
    obtain ⟨rb, hrb⟩ : ∃ rb : Bool, true = rb := ⟨_, rfl⟩
    rw [hrk, hrv, hrh, hrb] at C2 HR
    clear hrk hrv hrh
    go_wp2_with fail
    refine C2.out.mono ?_
    rintro e w3 ⟨rfl, hb3⟩
    have HB3 : Hid (Below w1.heap.size w1 w3) := HB2.out.trans (hb3.mono HB2.out.size)
    clear C2 hb3 HB2 hrb
    have hx := HX.out.2.1.on HB3.out
    have x0 := Blk.cell (i := 0) hx rfl
    have x1 := Blk.cell (i := 1) hx rfl
    have x2 := Blk.cell (i := 2) hx rfl
    have x3 := Blk.cell (i := 3) hx rfl
    have f0 := hx.frozen 0
    have f1 := hx.frozen 1
    have f2 := hx.frozen 2
    have f3 := hx.frozen 3
    have hr10 := (((hx.set 0 (.string rk)).set 1 (.int .i64 rv)).set 2 (.int .i64 rh)).set 3 (.bool rb)
    have q0 := Blk.cell (i := 0) hr10 rfl
    have q1 := Blk.cell (i := 1) hr10 rfl
    have q2 := Blk.cell (i := 2) hr10 rfl
    have q3 := Blk.cell (i := 3) hr10 rfl
    have hbw := HX.out.2.2.trans (HB3.out.mono HX.out.2.2.size)
    have HK : Hid (Below w.heap.size w ((((w3.setCell ⟨w.heap.size + 1, 0, none⟩ (.string rk)).setCell ⟨w.heap.size + 1, 1, none⟩ (.int .i64 rv)).setCell ⟨w.heap.size + 1, 2, none⟩ (.int .i64 rh)).setCell ⟨w.heap.size + 1, 3, none⟩ (.bool rb))) := below_set (below_set (below_set (below_set hbw (by omega) 0 _) (by omega) 1 _) (by omega) 2 _) (by omega) 3 _
    clear hx hr10 hbw
    go_wp2_with fail
    refine bodyPost_ret (v := .agg #[.string rk, .int .i64 rv, .int .i64 rh, .bool rb]) (by simp [results, Try.results47, go_sem, q0, q1, q2, q3]) rfl ?_
    exact ⟨by rw [HR.out], HK.out⟩

set_option maxHeartbeats 2000000 in
theorem seek1_any (lb hb sb hl cb kb bb : Nat) (N : List Nd) (k : ByteArray) (back : Bool) (w : World) (hq : Skp w lb hb sb hl cb N) (k1 : Blk w kb #[.string k] 9) (k2 : Blk w bb #[.bool back] 4) :
    Calls Try.prog 40 #[.agg #[ptr1 lb, ptr1 sb], ptr1 kb, ptr1 bb] w fun e w' => e = .returned (.agg (fndC (seekE (ensN N) k back))) ∧ Below w.heap.size w w' := by
  obtain ⟨aX, aB, aS⟩ := blk_new w #[ptr1 lb, ptr1 sb] 102
  obtain ⟨bX, bB, bS⟩ := blk_new (w.alloc (.cells #[ptr1 lb, ptr1 sb] 102)) #[.string ⟨#[]⟩, .int .i64 0, .int .i64 0, .bool false] 106
  rw [aS] at bX
  have hb2 := aB.trans (bB.mono aB.size)
  have HX : Hid (Blk ((w.alloc (.cells #[ptr1 lb, ptr1 sb] 102)).alloc (.cells #[.string ⟨#[]⟩, .int .i64 0, .int .i64 0, .bool false] 106)) w.heap.size #[ptr1 lb, ptr1 sb] 102 ∧ Blk ((w.alloc (.cells #[ptr1 lb, ptr1 sb] 102)).alloc (.cells #[.string ⟨#[]⟩, .int .i64 0, .int .i64 0, .bool false] 106)) (w.heap.size + 1) #[.string ⟨#[]⟩, .int .i64 0, .int .i64 0, .bool false] 106 ∧ Below w.heap.size w ((w.alloc (.cells #[ptr1 lb, ptr1 sb] 102)).alloc (.cells #[.string ⟨#[]⟩, .int .i64 0, .int .i64 0, .bool false] 106))) := ⟨aX.on bB, bX, hb2⟩
  have HQ : Hid (Skp ((w.alloc (.cells #[ptr1 lb, ptr1 sb] 102)).alloc (.cells #[.string ⟨#[]⟩, .int .i64 0, .int .i64 0, .bool false] 106)) lb hb sb hl cb N) := hq.on hb2
  have x0 := Blk.cell (i := 0) (aX.on bB) rfl
  have x1 := Blk.cell (i := 1) (aX.on bB) rfl
  have y0 := Blk.cell (i := 0) (k1.on hb2) rfl
  have y1 := Blk.cell (i := 0) (k2.on hb2) rfl
  have C1 : Hid (Calls _ _ _ _ _) := seek_any lb hb sb hl (fnd (ensN N) k) N k back ((w.alloc (.cells #[ptr1 lb, ptr1 sb] 102)).alloc (.cells #[.string ⟨#[]⟩, .int .i64 0, .int .i64 0, .bool false] 106)) (hq.on hb2).vw (hq.on hb2).n (fnd_leN N k) (rise_lt k) (rise_ge hq.r k)
  have HT := seekN_cases N k back
  clear hq aX aB aS bX bB bS hb2
  go_enter Try.func40, Try.ntmps40
  go_wp2_with fail
  generalize ((w.alloc (.cells #[ptr1 lb, ptr1 sb] 102)).alloc (.cells #[.string ⟨#[]⟩, .int .i64 0, .int .i64 0, .bool false] 106)) = w1 at *
  refine C1.out.mono ?_
  rintro e w2 ⟨rfl, hb2⟩
  have HB2 : Hid (Below w1.heap.size w1 w2) := hb2
  clear C1 hb2 x0 x1
  rcases HT with ⟨e1, e2⟩ | ⟨i, hi, e1, e2⟩
  · obtain ⟨rk, hrk⟩ : ∃ rk : ByteArray, rk = ⟨#[]⟩ := ⟨_, rfl⟩
    obtain ⟨rv, hrv⟩ : ∃ rv : Int, rv = 0 := ⟨_, rfl⟩
    obtain ⟨rh, hrh⟩ : ∃ rh : Int, rh = 0 := ⟨_, rfl⟩
    obtain ⟨rb, hrb⟩ : ∃ rb : Bool, rb = false := ⟨_, rfl⟩
    have HR : Hid (fndC (seekE (ensN N) k back) = #[.string rk, .int .i64 rv, .int .i64 rh, .bool rb]) := by
      show fndC (seekE (ensN N) k back) = #[.string rk, .int .i64 rv, .int .i64 rh, .bool rb]
      rw [e2, hrk, hrv, hrh, hrb]
      rfl
    have C2 : Hid (Calls _ _ _ _ _) := entryOf_nil w2
    rw [← hrk, ← hrv, ← hrb] at C2
    rw [e1, show ptrO none = .pointer none from rfl]
    have HRh : Hid (rh = rv) := by show rh = rv; rw [hrh, hrv]
    clear e1 e2 hrk hrv hrb hrh
    go_wp2_with fail
    refine C2.out.mono ?_
    rintro e w3 ⟨rfl, hb3⟩
    have HB3 : Hid (Below w1.heap.size w1 w3) := HB2.out.trans (hb3.mono HB2.out.size)
    obtain rfl := HRh.out
    clear C2 hb3 HB2
    have hx := HX.out.2.1.on HB3.out
    have x0 := Blk.cell (i := 0) hx rfl
    have x1 := Blk.cell (i := 1) hx rfl
    have x2 := Blk.cell (i := 2) hx rfl
    have x3 := Blk.cell (i := 3) hx rfl
    have f0 := hx.frozen 0
    have f1 := hx.frozen 1
    have f2 := hx.frozen 2
    have f3 := hx.frozen 3
    have hr10 := (((hx.set 0 (.string rk)).set 1 (.int .i64 rh)).set 2 (.int .i64 rh)).set 3 (.bool rb)
    have q0 := Blk.cell (i := 0) hr10 rfl
    have q1 := Blk.cell (i := 1) hr10 rfl
    have q2 := Blk.cell (i := 2) hr10 rfl
    have q3 := Blk.cell (i := 3) hr10 rfl
    have hbw := HX.out.2.2.trans (HB3.out.mono HX.out.2.2.size)
    have HK : Hid (Below w.heap.size w ((((w3.setCell ⟨w.heap.size + 1, 0, none⟩ (.string rk)).setCell ⟨w.heap.size + 1, 1, none⟩ (.int .i64 rh)).setCell ⟨w.heap.size + 1, 2, none⟩ (.int .i64 rh)).setCell ⟨w.heap.size + 1, 3, none⟩ (.bool rb))) := below_set (below_set (below_set (below_set hbw (by omega) 0 _) (by omega) 1 _) (by omega) 2 _) (by omega) 3 _
    clear hx hr10 hbw
    go_wp2_with fail
    refine bodyPost_ret (v := .agg #[.string rk, .int .i64 rh, .int .i64 rh, .bool rb]) (by simp [results, Try.results40, go_sem, q0, q1, q2, q3]) rfl ?_
    exact ⟨by rw [HR.out], HK.out⟩
  · have HR : Hid (fndC (seekE (ensN N) k back) = #[.string N[i].e.k, .int .i64 N[i].e.v, .int .i64 (N[i].e.h : Nat), .bool true]) := by
      show fndC (seekE (ensN N) k back) = _
      rw [e2]
      rfl
    have C2 : Hid (Calls _ _ _ _ _) := entryOf_at N[i].nb N[i].vb N[i].lb N[i].e.h N[i].e.k N[i].e.v w2 ((HQ.out.n.ndm hi).on HB2.out)
    rw [e1, show ptrO (some N[i].nb) = ptr1 N[i].nb from rfl]
    clear e1 e2
    generalize N[i].nb = nb at *
    obtain ⟨rk, hrk⟩ : ∃ rk, N[i].e.k = rk := ⟨_, rfl⟩
    obtain ⟨rv, hrv⟩ : ∃ rv, N[i].e.v = rv := ⟨_, rfl⟩
    obtain ⟨rh, hrh⟩ : ∃ rh : Int, ((N[i].e.h : Nat) : Int) = rh := ⟨_, rfl⟩
    obtain ⟨rb, hrb⟩ : ∃ rb : Bool, true = rb := ⟨_, rfl⟩
    rw [hrk, hrv, hrh, hrb] at C2 HR
    clear hrk hrv hrh
    go_wp2_with fail
    refine C2.out.mono ?_
    rintro e w3 ⟨rfl, hb3⟩
    have HB3 : Hid (Below w1.heap.size w1 w3) := HB2.out.trans (hb3.mono HB2.out.size)
    clear C2 hb3 HB2 hrb
    have hx := HX.out.2.1.on HB3.out
    have x0 := Blk.cell (i := 0) hx rfl
    have x1 := Blk.cell (i := 1) hx rfl
    have x2 := Blk.cell (i := 2) hx rfl
    have x3 := Blk.cell (i := 3) hx rfl
    have f0 := hx.frozen 0
    have f1 := hx.frozen 1
    have f2 := hx.frozen 2
    have f3 := hx.frozen 3
    have hr10 := (((hx.set 0 (.string rk)).set 1 (.int .i64 rv)).set 2 (.int .i64 rh)).set 3 (.bool rb)
    have q0 := Blk.cell (i := 0) hr10 rfl
    have q1 := Blk.cell (i := 1) hr10 rfl
    have q2 := Blk.cell (i := 2) hr10 rfl
    have q3 := Blk.cell (i := 3) hr10 rfl
    have hbw := HX.out.2.2.trans (HB3.out.mono HX.out.2.2.size)
    have HK : Hid (Below w.heap.size w ((((w3.setCell ⟨w.heap.size + 1, 0, none⟩ (.string rk)).setCell ⟨w.heap.size + 1, 1, none⟩ (.int .i64 rv)).setCell ⟨w.heap.size + 1, 2, none⟩ (.int .i64 rh)).setCell ⟨w.heap.size + 1, 3, none⟩ (.bool rb))) := below_set (below_set (below_set (below_set hbw (by omega) 0 _) (by omega) 1 _) (by omega) 2 _) (by omega) 3 _
    clear hx hr10 hbw
    go_wp2_with fail
    refine bodyPost_ret (v := .agg #[.string rk, .int .i64 rv, .int .i64 rh, .bool rb]) (by simp [results, Try.results40, go_sem, q0, q1, q2, q3]) rfl ?_
    exact ⟨by rw [HR.out], HK.out⟩

end Go.Proofs.Ytojfohpnfciajaa

namespace Go.Proofs.Ytojfohpnfciajaa
open Go.RowKit
set_option maxRecDepth 100000

def valO (x : Option En) : Int := match x with
  | some e => e.v
  | none => 0
def keyO (x : Option En) : ByteArray := match x with
  | some e => e.k
  | none => ⟨#[]⟩
def hgtO (x : Option En) : Int := match x with
  | some e => (e.h : Nat)
  | none => 0
theorem fndC_form (x : Option En) : fndC x = #[.string (keyO x), .int .i64 (valO x), .int .i64 (hgtO x), .bool x.isSome] := by
  cases x <;> rfl

set_option maxHeartbeats 2000000 in
theorem get_any (lb hb sb hl cb : Nat) (N : List Nd) (k : ByteArray) (w : World) (hq : Skp w lb hb sb hl cb N) :
    Calls Try.prog 20 #[ptr1 lb, .string k] w fun e w' => e = .returned (.tuple #[.int .i64 (valO (getE (ensN N) k)), .bool (getE (ensN N) k).isSome]) ∧ Below w.heap.size w w' := by
  obtain ⟨aX, aB, aS⟩ := blk_new w #[.string k] 9
  have CG : Hid (Calls _ _ _ _ _) := given_ok lb hb sb (w.alloc (.cells #[.string k] 9)) (hq.on aB).l
  have CT : Hid (Calls _ _ _ _ _) := tellF1 lb hb sb hl cb w.heap.size N (keyO (getE (ensN N) k)) (valO (getE (ensN N) k)) (hgtO (getE (ensN N) k)) (getE (ensN N) k).isSome (w.alloc (.cells #[.string k] 9)) (hq.on aB) (fun w1 hb1 => by
    have h9 := get1_any lb hb sb hl cb w.heap.size N k w1 ((hq.on aB).on hb1) (aX.on hb1)
    rw [fndC_form] at h9
    exact h9)
  have HB : Hid (Below w.heap.size w (w.alloc (.cells #[.string k] 9))) := aB
  clear hq aX aB aS
  obtain ⟨rk, -⟩ : ∃ rk, keyO (getE (ensN N) k) = rk := ⟨_, rfl⟩
  go_enter Try.func20, Try.ntmps20
  go_wp2_with fail
  refine CG.out.mono ?_
  rintro e w9 ⟨rfl, hw9⟩
  rw [hw9]
  clear hw9 CG
  go_wp2_with fail
  generalize (w.alloc (.cells #[.string k] 9)) = w1 at *
  refine CT.out.mono ?_
  rintro e w2 ⟨rfl, hb2⟩
  generalize keyO (getE (ensN N) k) = rk at *
  generalize hgtO (getE (ensN N) k) = rh at *
  obtain ⟨rb, hbb⟩ : ∃ rb, (getE (ensN N) k).isSome = rb := ⟨_, rfl⟩
  obtain ⟨rv, hww⟩ : ∃ rv, valO (getE (ensN N) k) = rv := ⟨_, rfl⟩
  have HBB : Hid ((getE (ensN N) k).isSome = rb ∧ valO (getE (ensN N) k) = rv) := ⟨hbb, hww⟩
  rw [hbb, hww]
  obtain ⟨cX, cB, cS⟩ := blk_new w2 #[.string rk, .int .i64 rv, .int .i64 rh, .bool rb] 106
  have q1 := Blk.cell (i := 1) cX rfl
  have q3 := Blk.cell (i := 3) cX rfl
  have hb3 := hb2.trans (cB.mono hb2.size)
  have HB3 : Hid (Below w.heap.size w (w2.alloc (.cells #[.string rk, .int .i64 rv, .int .i64 rh, .bool rb] 106))) := HB.out.trans (hb3.mono HB.out.size)
  clear hbb hww cX cB cS hb2 hb3 CT
  go_wp2_with fail
  go_quiet (fail)
  go_wp2_with fail
  go_ret2
  exact ⟨by rw [HBB.out.1, HBB.out.2]; rfl, below_drewN HB3.out _⟩

set_option maxHeartbeats 2000000 in
theorem seekL_any (lb hb sb hl cb : Nat) (N : List Nd) (k : ByteArray) (back : Bool) (w : World) (hq : Skp w lb hb sb hl cb N) :
    Calls Try.prog 17 #[ptr1 lb, .string k, .bool back] w fun e w' => e = .returned (.tuple #[.agg #[.string (keyO (seekE (ensN N) k back)), .int .i64 (valO (seekE (ensN N) k back)), .int .i64 (hgtO (seekE (ensN N) k back))], .bool (seekE (ensN N) k back).isSome]) ∧ Below w.heap.size w w' := by
  obtain ⟨aX, aB, aS⟩ := blk_new w #[.string k] 9
  obtain ⟨bX, bB, bS⟩ := blk_new (w.alloc (.cells #[.string k] 9)) #[.bool back] 4
  obtain ⟨cX, cB, cS⟩ := blk_new ((w.alloc (.cells #[.string k] 9)).alloc (.cells #[.bool back] 4)) #[.string ⟨#[]⟩, .int .i64 0, .int .i64 0] 48
  rw [aS] at bX
  rw [bS, aS] at cX
  have hb2 := aB.trans (bB.mono aB.size)
  have hb3 := hb2.trans (cB.mono hb2.size)
  have CG : Hid (Calls _ _ _ _ _) := given_ok lb hb sb (((w.alloc (.cells #[.string k] 9)).alloc (.cells #[.bool back] 4)).alloc (.cells #[.string ⟨#[]⟩, .int .i64 0, .int .i64 0] 48)) (hq.on hb3).l
  have CT : Hid (Calls _ _ _ _ _) := tellF2 lb hb sb hl cb w.heap.size (w.heap.size + 1) N (keyO (seekE (ensN N) k back)) (valO (seekE (ensN N) k back)) (hgtO (seekE (ensN N) k back)) (seekE (ensN N) k back).isSome (((w.alloc (.cells #[.string k] 9)).alloc (.cells #[.bool back] 4)).alloc (.cells #[.string ⟨#[]⟩, .int .i64 0, .int .i64 0] 48)) (hq.on hb3) (fun w1 hb1 => by
    have h9 := seek1_any lb hb sb hl cb w.heap.size (w.heap.size + 1) N k back w1 ((hq.on hb3).on hb1) (((aX.on bB).on cB).on hb1) ((bX.on cB).on hb1)
    rw [fndC_form] at h9
    exact h9)
  have HB : Hid (Below w.heap.size w (((w.alloc (.cells #[.string k] 9)).alloc (.cells #[.bool back] 4)).alloc (.cells #[.string ⟨#[]⟩, .int .i64 0, .int .i64 0] 48))) := hb3
  have HZ : Hid (Blk (((w.alloc (.cells #[.string k] 9)).alloc (.cells #[.bool back] 4)).alloc (.cells #[.string ⟨#[]⟩, .int .i64 0, .int .i64 0] 48)) (w.heap.size + 1 + 1) #[.string ⟨#[]⟩, .int .i64 0, .int .i64 0] 48) := cX
  clear hq aX aB aS bX bB bS cX cB cS hb2 hb3
  go_enter Try.func17, Try.ntmps17
  go_wp2_with fail
  refine CG.out.mono ?_
  rintro e w9 ⟨rfl, hw9⟩
  rw [hw9]
  clear hw9 CG
  go_wp2_with fail
  generalize (((w.alloc (.cells #[.string k] 9)).alloc (.cells #[.bool back] 4)).alloc (.cells #[.string ⟨#[]⟩, .int .i64 0, .int .i64 0] 48)) = w1 at *
  refine CT.out.mono ?_
  rintro e w2 ⟨rfl, hb2⟩
  obtain ⟨rk, hkk⟩ : ∃ rk, keyO (seekE (ensN N) k back) = rk := ⟨_, rfl⟩
  obtain ⟨rh, hhh⟩ : ∃ rh, hgtO (seekE (ensN N) k back) = rh := ⟨_, rfl⟩
  obtain ⟨rb, hbb⟩ : ∃ rb, (seekE (ensN N) k back).isSome = rb := ⟨_, rfl⟩
  obtain ⟨rv, hww⟩ : ∃ rv, valO (seekE (ensN N) k back) = rv := ⟨_, rfl⟩
  have HBB : Hid (keyO (seekE (ensN N) k back) = rk ∧ hgtO (seekE (ensN N) k back) = rh ∧ (seekE (ensN N) k back).isSome = rb ∧ valO (seekE (ensN N) k back) = rv) := ⟨hkk, hhh, hbb, hww⟩
  rw [hkk, hhh, hbb, hww]
  obtain ⟨cX, cB, cS⟩ := blk_new w2 #[.string rk, .int .i64 rv, .int .i64 rh, .bool rb] 106
  have hb3 := hb2.trans (cB.mono hb2.size)
  have hdr : Below (w2.alloc (.cells #[.string rk, .int .i64 rv, .int .i64 rh, .bool rb] 106)).heap.size (w2.alloc (.cells #[.string rk, .int .i64 rv, .int .i64 rh, .bool rb] 106)) (w2.alloc (.cells #[.string rk, .int .i64 rv, .int .i64 rh, .bool rb] 106)).drew := (Below.refl _ _).drew
  have hb4 := hb3.trans (hdr.mono hb3.size)
  have hz := HZ.out.on hb4
  have HB3 : Hid (Below w.heap.size w (w2.alloc (.cells #[.string rk, .int .i64 rv, .int .i64 rh, .bool rb] 106)).drew) := HB.out.trans (hb4.mono HB.out.size)
  have HD : Hid ((w2.alloc (.cells #[.string rk, .int .i64 rv, .int .i64 rh, .bool rb] 106)).drew.cell? ⟨w2.heap.size, 0, none⟩ = some (.string rk) ∧ (w2.alloc (.cells #[.string rk, .int .i64 rv, .int .i64 rh, .bool rb] 106)).drew.cell? ⟨w2.heap.size, 1, none⟩ = some (.int .i64 rv) ∧ (w2.alloc (.cells #[.string rk, .int .i64 rv, .int .i64 rh, .bool rb] 106)).drew.cell? ⟨w2.heap.size, 2, none⟩ = some (.int .i64 rh) ∧ (w2.alloc (.cells #[.string rk, .int .i64 rv, .int .i64 rh, .bool rb] 106)).drew.cell? ⟨w2.heap.size, 3, none⟩ = some (.bool rb)) := ⟨Blk.cell (i := 0) cX rfl, Blk.cell (i := 1) cX rfl, Blk.cell (i := 2) cX rfl, Blk.cell (i := 3) cX rfl⟩
  have HX : Hid ((w2.alloc (.cells #[.string rk, .int .i64 rv, .int .i64 rh, .bool rb] 106)).drew.cell? ⟨w.heap.size + 1 + 1, 0, none⟩ = some (.string ⟨#[]⟩) ∧ (w2.alloc (.cells #[.string rk, .int .i64 rv, .int .i64 rh, .bool rb] 106)).drew.cell? ⟨w.heap.size + 1 + 1, 1, none⟩ = some (.int .i64 0) ∧ (w2.alloc (.cells #[.string rk, .int .i64 rv, .int .i64 rh, .bool rb] 106)).drew.cell? ⟨w.heap.size + 1 + 1, 2, none⟩ = some (.int .i64 0) ∧ (w2.alloc (.cells #[.string rk, .int .i64 rv, .int .i64 rh, .bool rb] 106)).drew.frozen? ⟨w.heap.size + 1 + 1, 0, none⟩ = false ∧ (w2.alloc (.cells #[.string rk, .int .i64 rv, .int .i64 rh, .bool rb] 106)).drew.frozen? ⟨w.heap.size + 1 + 1, 1, none⟩ = false ∧ (w2.alloc (.cells #[.string rk, .int .i64 rv, .int .i64 rh, .bool rb] 106)).drew.frozen? ⟨w.heap.size + 1 + 1, 2, none⟩ = false) := ⟨Blk.cell (i := 0) hz rfl, Blk.cell (i := 1) hz rfl, Blk.cell (i := 2) hz rfl, hz.frozen 0, hz.frozen 1, hz.frozen 2⟩
  have HZ2 : Hid (Blk (w2.alloc (.cells #[.string rk, .int .i64 rv, .int .i64 rh, .bool rb] 106)).drew (w.heap.size + 1 + 1) #[.string ⟨#[]⟩, .int .i64 0, .int .i64 0] 48) := hz
  have HD6 : Hid (((((w2.alloc (.cells #[.string rk, .int .i64 rv, .int .i64 rh, .bool rb] 106)).drew.setCell ⟨w.heap.size + 1 + 1, 0, none⟩ (.string rk)).setCell ⟨w.heap.size + 1 + 1, 1, none⟩ (.int .i64 rv)).setCell ⟨w.heap.size + 1 + 1, 2, none⟩ (.int .i64 rh)).cell? ⟨w2.heap.size, 3, none⟩ = some (.bool rb)) := by
    have hc := cX.on hdr
    have hne := hc.ne hz (by decide)
    exact Blk.cell (i := 3) (((hc.other hne 0 _).other hne 1 _).other hne 2 _) rfl
  clear hkk hhh hbb hww cX cB cS hb2 hb3 hb4 hz hdr CT
  go_upto_region 4 with fail
  generalize (w2.alloc (.cells #[.string rk, .int .i64 rv, .int .i64 rh, .bool rb] 106)) = w3 at *
  generalize w2.heap.size = fb at *
  refine wp_region_any (by kernel_rfl) ?_
  change wpAny _ _ _ _ _ _ _ (World.drew _)
  generalize w3.drew = wd at *
  refine tk (v := ?_) 0 rfl ?_ ?_
  rotate_left
  focus
    intro w9
    go_simp
    try with_reducible rfl
  try simp only [aP]
  refine tk (v := ?_) 2 rfl ?_ ?_
  rotate_left
  focus
    intro w9
    go_simp
    try with_reducible rfl
  try simp only [aP]
  apply later0
  intro hs1_3_4
  apply later0
  intro hs1_4
  apply later0
  intro hs1_3
  apply later0
  intro hs3
  apply later0
  intro hs1
  · obtain ⟨d0, d1, d2, d3⟩ := HD.out
    obtain ⟨x0, x1, x2, f0, f1, f2⟩ := HX.out
    refine wpAny_ready (rs := [1, 3]) (by kernel_rfl) (by simp) ?_
    refine anyN_cons 1 rfl (by rfl) (fun K hK => ?_) (anyN_cons 3 rfl (by rfl) (fun K hK => ?_) AllReady.nil)
    · go_simp
      refine hK.out _ _ ?_
      clear hK K
      try simp only [aP]
      exact hs1
    · go_simp
      refine hK.out _ _ ?_
      clear hK K
      try simp only [aP]
      exact hs3
  · obtain ⟨d0, d1, d2, d3⟩ := HD.out
    obtain ⟨x0, x1, x2, f0, f1, f2⟩ := HX.out
    refine wpAny_ready (rs := [3, 4]) (by kernel_rfl) (by simp) ?_
    refine anyN_cons 3 rfl (by rfl) (fun K hK => ?_) (anyN_cons 4 rfl (by rfl) (fun K hK => ?_) AllReady.nil)
    · go_simp
      refine hK.out _ _ ?_
      clear hK K
      try simp only [aP]
      exact hs1_3
    · go_simp
      refine hK.out _ _ ?_
      clear hK K
      try simp only [aP]
      exact hs1_4
  · obtain ⟨d0, d1, d2, d3⟩ := HD.out
    obtain ⟨x0, x1, x2, f0, f1, f2⟩ := HX.out
    refine wpAny_ready (rs := [1]) (by kernel_rfl) (by simp) ?_
    refine anyN_cons 1 rfl (by rfl) (fun K hK => ?_) AllReady.nil
    go_simp
    refine hK.out _ _ ?_
    clear hK K
    try simp only [aP]
    exact hs1_3
  · obtain ⟨d0, d1, d2, d3⟩ := HD.out
    obtain ⟨x0, x1, x2, f0, f1, f2⟩ := HX.out
    refine wpAny_ready (rs := [4]) (by kernel_rfl) (by simp) ?_
    refine anyN_cons 4 rfl (by rfl) (fun K hK => ?_) AllReady.nil
    go_simp
    refine hK.out _ _ ?_
    clear hK K
    try simp only [aP]
    exact hs1_3_4
  · have d3 := HD6.out
    refine wpAny_ready (rs := [3]) (by kernel_rfl) (by simp) ?_
    refine anyN_cons 3 rfl (by rfl) (fun K hK => ?_) AllReady.nil
    go_simp
    refine hK.out _ _ ?_
    clear hK K
    try simp only [aP]
    exact hs1_3_4
  · have d3 := HD6.out
    refine wpAny_ready (rs := [5]) (by kernel_rfl) (by simp) ?_
    refine anyN_cons 5 rfl (by rfl) (fun K hK => ?_) AllReady.nil
    go_simp
    refine hK.out _ _ ?_
    clear hK K
    try simp only [aP]
    refine wpAny_done (by kernel_rfl) ?_ _
    have hr10 := ((HZ2.out.set 0 (.string rk)).set 1 (.int .i64 rv)).set 2 (.int .i64 rh)
    have q0 := Blk.cell (i := 0) hr10 rfl
    have q1 := Blk.cell (i := 1) hr10 rfl
    have q2 := Blk.cell (i := 2) hr10 rfl
    have HK : Hid (Below w.heap.size w (((wd.setCell ⟨w.heap.size + 1 + 1, 0, none⟩ (.string rk)).setCell ⟨w.heap.size + 1 + 1, 1, none⟩ (.int .i64 rv)).setCell ⟨w.heap.size + 1 + 1, 2, none⟩ (.int .i64 rh))) := below_set (below_set (below_set HB3.out (by omega) 0 _) (by omega) 1 _) (by omega) 2 _
    clear hr10
    go_wp2_with fail
    refine bodyPost_ret (v := .tuple #[.agg #[.string rk, .int .i64 rv, .int .i64 rh], .bool rb]) (by simp [results, Try.results17, go_sem, q0, q1, q2]) rfl ?_
    exact ⟨by rw [HBB.out.1, HBB.out.2.1, HBB.out.2.2.1, HBB.out.2.2.2], HK.out⟩

end Go.Proofs.Ytojfohpnfciajaa
