/- Layer 13: waitsFor; tellLast, tellBehind. -/
import Derived.Test.YtcdamalpecedcaaGreatWGp17
namespace Go.Proofs.YtcdamalpecedcaaGreat
open Go.RowKit
set_option maxRecDepth 100000

theorem isNaNs_u (x : Nat) (w : World) : Calls Tryz.prog 69 #[.int .u64 (x : Nat)] w fun e w' => e = .returned (.bool false) ∧ w' = w := by
  go_enter Tryz.func69, Tryz.ntmps69
  go_wp2
  go_ret
  exact ⟨by simp, rfl⟩
theorem less_u (x y : Nat) (w : World) : Calls Tryz.prog 68 #[.int .u64 (x : Nat), .int .u64 (y : Nat)] w fun e w' => e = .returned (.bool (decide (x < y))) ∧ w' = w := by
  have C1 : Hid (∀ (x : Nat) w, Calls Tryz.prog 65 #[.int .u64 (x : Nat)] w fun e w' => e = .returned (.bool false) ∧ w' = w) := isNaNu_any
  by_cases h : x < y
  · have g1 : (x : Int) < (y : Int) := by omega
    have HD : Hid (decide (x < y) = true) := by show decide (x < y) = true; simpa using h
    clear h
    go_enter Tryz.func68, Tryz.ntmps68
    go_wp2_with (first | (go_at_call 65; refine (C1.out _ _).mono ?_; rintro e w' ⟨rfl, rfl⟩))
    go_ret
    exact ⟨by rw [HD.out]; simp, rfl⟩
  · have g1 : ¬ (x : Int) < (y : Int) := by omega
    have HD : Hid (decide (x < y) = false) := by show decide (x < y) = false; simpa using h
    clear h
    go_enter Tryz.func68, Tryz.ntmps68
    go_wp2_with (first | (go_at_call 65; refine (C1.out _ _).mono ?_; rintro e w' ⟨rfl, rfl⟩))
    go_ret
    exact ⟨by rw [HD.out]; simp, rfl⟩

set_option maxHeartbeats 4000000 in
theorem bsU_any (A : List Nat) (va : Value) (n : Nat) (w : World) (hA : RwU w.heap.size w va A) (hl : A.length ≤ 256) :
    Calls Tryz.prog 59 #[va, .int .u64 (n : Nat)] w fun e w' => (∃ (i : Nat) (b : Bool), e = .returned (.tuple #[.int .i64 (i : Nat), .bool b])) ∧ w' = w := by
  obtain ⟨pa, ca, rfl, hRA⟩ : ∃ pa ca, va = .slice pa A.length ca ∧ ∀ i (hi : i < A.length), ∃ b, pa = some ⟨b, 0, none⟩ ∧ b < w.heap.size ∧ w.cell? ⟨b, i, none⟩ = some (.int .u64 (A[i] : Nat)) := by
    rcases hA with ⟨rfl, rfl⟩ | ⟨b, cap, rfl, hb, hc⟩
    · exact ⟨none, 0, rfl, fun i hi => absurd hi (by simp)⟩
    · refine ⟨_, cap, rfl, fun i hi => ⟨b, rfl, hb, ?_⟩⟩
      have h1 := hc i hi
      rwa [List.getD_eq_getElem?_getD, List.getElem?_eq_getElem hi] at h1
  have HA : Hid (∀ i (hi : i < A.length), ∃ b, pa = some ⟨b, 0, none⟩ ∧ b < w.heap.size ∧ w.cell? ⟨b, i, none⟩ = some (.int .u64 (A[i] : Nat))) := hRA
  have HL : Hid (∀ (x y : Nat) w, Calls Tryz.prog 68 #[.int .u64 (x : Nat), .int .u64 (y : Nat)] w fun e w' => e = .returned (.bool (decide (x < y))) ∧ w' = w) := less_u
  have HS : Hid (∀ (x : Nat) w, Calls Tryz.prog 69 #[.int .u64 (x : Nat)] w fun e w' => e = .returned (.bool false) ∧ w' = w) := isNaNs_u
  clear hRA hA
  go_enter Tryz.func59, Tryz.ntmps59
  go_wp2_with fail
  go_loopw [7, 8] (fun a b wr => ∃ i j : Nat, a = .int .i64 (i : Int) ∧ b = .int .i64 (j : Int) ∧ i ≤ j ∧ j ≤ A.length ∧ wr = w) (fun a b _ => (intOf b).toNat - (intOf a).toNat)
  case atStart => exact ⟨0, A.length, by go_num, rfl, Nat.zero_le _, Nat.le_refl _, rfl⟩
  case round =>
    obtain ⟨i, j, rfl, rfl, hij, hj, hW⟩ := hrel
    subst hW
    by_cases h0 : i = j
    · subst h0
      clear hij
      by_cases hi : i < A.length
      · obtain ⟨b, rfl, hb, d0⟩ := HA.out i hi
        generalize A[i] = x at *
        have gl : decide ((i : Int) < (A.length : Int)) = true := by simp; omega
        by_cases hx : x = n
        · subst hx
          go_wp2_with fail
          go_ret2
          exact ⟨⟨i, _, rfl⟩, rfl⟩
        · have hx1 : ((x : Int) == (n : Int)) = false := by simp; omega
          clear hx
          go_wp2_with (first | (go_at_call 69; refine (HS.out _ _).mono ?_; rintro e w' ⟨rfl, rfl⟩))
          go_ret2
          exact ⟨⟨i, _, rfl⟩, rfl⟩
      · have gl : decide ((i : Int) < (A.length : Int)) = false := by simp; omega
        go_wp2_with fail
        go_ret2
        exact ⟨⟨i, _, rfl⟩, rfl⟩
    · have hlt : i < j := by omega
      obtain ⟨m, hm⟩ : ∃ m : Nat, m = (i + j) / 2 := ⟨_, rfl⟩
      have hmi : ((i : Int) + (j : Int)) / 2 = ((m : Nat) : Int) := by omega
      have hm1 : m < A.length := by omega
      have HM : Hid (i ≤ m ∧ m < j) := ⟨by omega, by omega⟩
      clear hm
      obtain ⟨b, rfl, hb, d0⟩ := HA.out m hm1
      generalize A[m] = x at *
      have CC : Hid (Calls _ _ _ _ _) := HL.out x n wr
      cases hx : decide (x < n) with
      | true =>
        rw [hx] at CC
        clear hx
        go_wp2_with fail
        refine CC.out.mono ?_
        rintro e w2 ⟨rfl, rfl⟩
        clear CC hmi
        go_wp2_with fail
        go_roundw
        case rel => exact ⟨m + 1, j, by go_num, rfl, by have := HM.out; omega, hj, trivial⟩
        case measure => simp [intOf]; have := HM.out; omega
      | false =>
        rw [hx] at CC
        clear hx
        go_wp2_with fail
        refine CC.out.mono ?_
        rintro e w2 ⟨rfl, rfl⟩
        clear CC hmi
        go_wp2_with fail
        go_roundw
        case rel => exact ⟨i, m, rfl, rfl, HM.out.1, by have := HM.out; omega, trivial⟩
        case measure => simp [intOf]; have := HM.out; omega

set_option maxHeartbeats 4000000 in
theorem waitsFor_any (tb ob tq : Nat) (A : List Nat) (va : Value) (w : World) (h3 : w.cell? ⟨tb, 3, none⟩ = some va) (hA : RwU w.heap.size w va A) (hl : A.length ≤ 256) (ho : w.cell? ⟨ob, 0, none⟩ = some (.int .u64 (tq : Nat))) :
    Calls Tryz.prog 46 #[ptr1 tb, ptr1 ob] w fun e w' => (∃ b, e = .returned (.bool b)) ∧ Below w.heap.size w w' := by
  have hdr : Below w.heap.size w w.drew := (Below.refl _ _).drew
  have x3 : w.drew.cell? ⟨tb, 3, none⟩ = some va := (hdr.cell (p := ⟨tb, 3, none⟩) (World.block_lt_of_cell? w _ h3)).trans h3
  have y0 : w.drew.cell? ⟨ob, 0, none⟩ = some (.int .u64 (tq : Nat)) := (hdr.cell (p := ⟨ob, 0, none⟩) (World.block_lt_of_cell? w _ ho)).trans ho
  have CB : Hid (Calls _ _ _ _ _) := bsU_any A va tq w.drew (hA.below hdr) hl
  have HB : Hid (Below w.heap.size w w.drew) := hdr
  obtain ⟨p1, n1, c1, hva⟩ : ∃ p n c, va = .slice p n c := by
    rcases hA with ⟨rfl, _⟩ | ⟨b, cap, rfl, _⟩
    · exact ⟨_, _, _, rfl⟩
    · exact ⟨_, _, _, rfl⟩
  subst hva
  clear h3 hA ho hdr
  go_enter Tryz.func46, Tryz.ntmps46
  go_upto_region 1 with fail
  refine wp_region_any (by kernel_rfl) ?_
  change wpAny _ _ _ _ _ _ _ (World.drew _)
  generalize w.drew = wd at *
  refine tk (v := ?_) 0 rfl ?_ ?_
  rotate_left
  focus
    intro w9
    go_simp
    try with_reducible rfl
  try simp only [aP]
  refine tk (v := ?_) 1 rfl ?_ ?_
  rotate_left
  focus
    intro w9
    go_simp
    try with_reducible rfl
  try simp only [aP]
  refine tk (v := ?_) 2 rfl ?_ ?_
  rotate_left
  focus
    intro w9
    go_simp
    try with_reducible rfl
  try simp only [aP]
  refine tk (v := ?_) 4 rfl ?_ ?_
  rotate_left
  focus
    intro w9
    go_simp
    try with_reducible rfl
  try simp only [aP]
  refine tk (v := ?_) 5 rfl ?_ ?_
  rotate_left
  focus
    intro w9
    go_simp
    try with_reducible rfl
  try simp only [aP]
  refine tk (v := ?_) 6 rfl ?_ ?_
  rotate_left
  focus
    intro w9
    go_simp
    try with_reducible rfl
  try simp only [aP]
  apply later2 (fun (_ : Nat) (_ : Bool) => True)
  intro hs3_7_8
  apply later0
  intro hs3_7
  apply later0
  intro hs7
  apply later0
  intro hs3
  · refine wpAny_ready (rs := [3, 7]) (by kernel_rfl) (by simp) ?_
    refine anyN_cons 3 rfl (by rfl) (fun K hK => ?_) (anyN_cons 7 rfl (by rfl) (fun K hK => ?_) AllReady.nil)
    · go_simp
      refine hK.out _ _ ?_
      clear hK K
      try simp only [aP]
      exact hs3
    · go_simp
      refine hK.out _ _ ?_
      clear hK K
      try simp only [aP]
      exact hs7
  · refine wpAny_ready (rs := [7]) (by kernel_rfl) (by simp) ?_
    refine anyN_cons 7 rfl (by rfl) (fun K hK => ?_) AllReady.nil
    go_simp
    refine hK.out _ _ ?_
    clear hK K
    try simp only [aP]
    exact hs3_7
  · refine wpAny_ready (rs := [3]) (by kernel_rfl) (by simp) ?_
    refine anyN_cons 3 rfl (by rfl) (fun K hK => ?_) AllReady.nil
    go_simp
    refine hK.out _ _ ?_
    clear hK K
    try simp only [aP]
    exact hs3_7
  · refine wpAny_ready (rs := [8]) (by kernel_rfl) (by simp) ?_
    refine anyN_cons 8 rfl (by rfl) (fun K hK => ?_) AllReady.nil
    go_simp
    refine CB.out.mono ?_
    rintro e w9 ⟨⟨i, b, rfl⟩, hw9⟩
    rw [hw9]
    clear hw9
    dsimp only
    have ht : True := trivial
    refine hK.out _ _ ?_
    clear hK K
    try simp only [aP]
    refine tk (v := ?_) 9 rfl ?_ ?_
    rotate_left
    focus
      intro w9
      go_simp
      try with_reducible rfl
    try simp only [aP]
    refine tk (v := ?_) 10 rfl ?_ ?_
    rotate_left
    focus
      intro w9
      go_simp
      try with_reducible rfl
    try simp only [aP]
    refine tk (v := ?_) 11 rfl ?_ ?_
    rotate_left
    focus
      intro w9
      go_simp
      try with_reducible rfl
    try simp only [aP]
    exact hs3_7_8 i b ht
  · intro i b ht
    refine wpAny_ready (rs := [12]) (by kernel_rfl) (by simp) ?_
    refine anyN_cons 12 rfl (by rfl) (fun K hK => ?_) AllReady.nil
    go_simp
    refine hK.out _ _ ?_
    clear hK K
    try simp only [aP]
    refine wpAny_ready (rs := [13]) (by kernel_rfl) (by simp) ?_
    refine anyN_cons 13 rfl (by rfl) (fun K hK => ?_) AllReady.nil
    go_simp
    refine hK.out _ _ ?_
    clear hK K
    try simp only [aP]
    refine wpAny_done (by kernel_rfl) ?_ _
    go_wp2_with fail
    go_ret
    exact ⟨⟨b, rfl⟩, HB.out⟩
theorem tk_bch {w : World} {b ch b' ch' : Nat} {x x' : Tk} (h : TkM w b ch x) (h' : TkM w b' ch' x') : b ≠ ch' := by
  obtain ⟨va, vo, vh, told, d, sm, cl, k1, _⟩ := h
  obtain ⟨va', vo', vh', told', d', sm', cl', _, _, _, _, _, k6, _⟩ := h'
  intro e
  subst e
  unfold Blk at k1
  unfold ChM at k6
  rw [k1] at k6
  cases k6
theorem inj_nodup {α β : Type} {f : α → β} : ∀ {l : List α}, (l.map f).Nodup → ∀ {a b : α}, a ∈ l → b ∈ l → f a = f b → a = b
  | [], _, _, _, h, _, _ => by cases h
  | x :: l, hn, a, b, ha, hb, e => by
    rw [List.map_cons, List.nodup_cons] at hn
    rcases List.mem_cons.1 ha with h1 | h1
    · rcases List.mem_cons.1 hb with h2 | h2
      · rw [h1, h2]
      · exact absurd (List.mem_map.2 ⟨b, h2, by rw [← e, h1]⟩) hn.1
    · rcases List.mem_cons.1 hb with h2 | h2
      · exact absurd (List.mem_map.2 ⟨a, h1, by rw [e, h2]⟩) hn.1
      · exact inj_nodup hn.2 h1 h2 e
/-- a taker of a line was told: the line is as it was -/
theorem LnP.told {w w' : World} {xb nx c : Nat} {p : Option Addr} {Y : List Tkr} (h : LnP w xb nx p c Y) {y : Tkr} (hy : y ∈ Y) (ht : TkM w' y.b y.ch y.x) (hf : Frm w w' (fun k => k = y.b ∨ k = y.ch)) : LnP w' xb nx p c Y := by
  have hT := h.t y hy
  have hF : OnlyTG w (fun k => k = y.b ∨ k = y.ch) := by
    obtain ⟨va, vo, vh, told, d, sm, cl, k1, _, _, _, _, k6, _⟩ := hT
    exact only_tc k1 k6
  refine ⟨blk_frm h.b hf hF (by decide) (by decide), owns_frm h.o hf hF (by decide) (by decide), fun z hz => ?_, h.nb, h.nc, h.i, h.l, h.a⟩
  by_cases e : z.b = y.b
  · have e2 : z = y := inj_nodup h.nb hz hy e
    rw [e2]
    exact ht
  · by_cases e3 : z.ch = y.ch
    · have e2 : z = y := inj_nodup h.nc hz hy e3
      rw [e2]
      exact ht
    · have hZ := h.t z hz
      refine hZ.frm hf hF (fun h9 => ?_) (fun h9 => ?_)
      · rcases h9 with h9 | h9
        · exact e h9
        · exact tk_bch hZ hT h9
      · rcases h9 with h9 | h9
        · exact tk_bch hT hZ h9.symm
        · exact e3 h9
end Go.Proofs.YtcdamalpecedcaaGreat
