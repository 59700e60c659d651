/- The law of Plays. -/
import Derived.Test.YtckjgnjakkeodaaWClkP
import Derived.Deep.RegionWith
namespace Go.Proofs.Ytckjgnjakkeodaa
open Go.RowKit
set_option maxRecDepth 100000

/-- the box of the document's clock -/
structure Bx (w : World) (g : Nat) (be la : Int) (v : Value) : Prop where
  lt : g < w.heap.size
  c0 : w.cell? ⟨g, 0, none⟩ = some (.int .u64 be)
  c1 : w.cell? ⟨g, 1, none⟩ = some (.int .u64 la)
  c2 : w.cell? ⟨g, 2, none⟩ = some v
  f0 : w.frozen? ⟨g, 0, none⟩ = false
  f1 : w.frozen? ⟨g, 1, none⟩ = false
  f2 : w.frozen? ⟨g, 2, none⟩ = false
theorem Bx.block {w w' : World} {g : Nat} {be la : Int} {v : Value} (h : Bx w g be la v) (hs : w.heap.size ≤ w'.heap.size) (hb : w'.heap[g]? = w.heap[g]?) : Bx w' g be la v := by
  have c : ∀ o, w'.cell? ⟨g, o, none⟩ = w.cell? ⟨g, o, none⟩ := fun o => World.cell?_of_block (a := ⟨g, o, none⟩) hb
  have f : ∀ o, w'.frozen? ⟨g, o, none⟩ = w.frozen? ⟨g, o, none⟩ := fun o => World.frozen?_of_block (a := ⟨g, o, none⟩) hb
  exact ⟨Nat.lt_of_lt_of_le h.lt hs, (c _).trans h.c0, (c _).trans h.c1, (c _).trans h.c2, (f _).trans h.f0, (f _).trans h.f1, (f _).trans h.f2⟩
theorem Bx.grown {w w' : World} {g b : Nat} {be la : Int} {v : Value} (h : Bx w g be la v) (hg : w.grownBy w' (some b)) (hb : b ≠ g) : Bx w' g be la v := h.block hg.size (hg.block g h.lt (by simp; omega))
theorem Bx.new (w : World) (be la : Int) (v : Value) : Bx (w.alloc (.cells #[.int .u64 be, .int .u64 la, v] 29)) w.heap.size be la v := by
  have n1 := new_block w (.cells #[.int .u64 be, .int .u64 la, v] 29)
  have s1 := size_new w (.cells #[.int .u64 be, .int .u64 la, v] 29)
  generalize w.alloc (.cells #[.int .u64 be, .int .u64 la, v] 29) = w1 at *
  have c : ∀ o, w1.cell? ⟨w.heap.size, o, none⟩ = #[Value.int .u64 be, .int .u64 la, v][o]? := fun o => cell_of_block n1 o
  have f : ∀ o, w1.frozen? ⟨w.heap.size, o, none⟩ = false := fun o => frozen_of_block n1 o
  exact ⟨by omega, c 0, c 1, c 2, f 0, f 1, f 2⟩
theorem Bx.put {w : World} {g : Nat} {be la be' la' : Int} {v v' : Value} (h : Bx w g be la v) : Bx (((w.setCell ⟨g, 0, none⟩ (.int .u64 be')).setCell ⟨g, 1, none⟩ (.int .u64 la')).setCell ⟨g, 2, none⟩ v') g be' la' v' := by
  have k1 : (w.setCell ⟨g, 0, none⟩ (.int .u64 be')).cell? ⟨g, 0, none⟩ = some (.int .u64 be') := set_same _ _ _ _ _ h.c0
  have k2 : (w.setCell ⟨g, 0, none⟩ (.int .u64 be')).cell? ⟨g, 1, none⟩ = some (.int .u64 la) := (set_other _ _ _ _ _ (by decide)).trans h.c1
  have k3 : (w.setCell ⟨g, 0, none⟩ (.int .u64 be')).cell? ⟨g, 2, none⟩ = some v := (set_other _ _ _ _ _ (by decide)).trans h.c2
  refine ⟨by rw [set_size, set_size, set_size]; exact h.lt, ?_, ?_, ?_, ?_, ?_, ?_⟩
  · exact (set_other _ _ _ _ _ (by decide)).trans ((set_other _ _ _ _ _ (by decide)).trans k1)
  · exact (set_other _ _ _ _ _ (by decide)).trans (set_same _ _ _ _ _ k2)
  · exact set_same _ _ _ _ _ ((set_other _ _ _ _ _ (by decide)).trans k3)
  · exact (frozen_set _ _ _ _).trans ((frozen_set _ _ _ _).trans ((frozen_set _ _ _ _).trans h.f0))
  · exact (frozen_set _ _ _ _).trans ((frozen_set _ _ _ _).trans ((frozen_set _ _ _ _).trans h.f1))
  · exact (frozen_set _ _ _ _).trans ((frozen_set _ _ _ _).trans ((frozen_set _ _ _ _).trans h.f2))
/-- three cells of a box are written: all other blocks are as they were -/
theorem put_far {w : World} {g k : Nat} {u0 u1 u2 : Value} (h : k ≠ g) : (((w.setCell ⟨g, 0, none⟩ u0).setCell ⟨g, 1, none⟩ u1).setCell ⟨g, 2, none⟩ u2).heap[k]? = w.heap[k]? :=
  (Below.heap_setCell _ _ _ _ h).trans ((Below.heap_setCell _ _ _ _ h).trans (Below.heap_setCell _ _ _ _ h))
theorem put_size {w : World} {g : Nat} {u0 u1 u2 : Value} : (((w.setCell ⟨g, 0, none⟩ u0).setCell ⟨g, 1, none⟩ u1).setCell ⟨g, 2, none⟩ u2).heap.size = w.heap.size := by rw [set_size, set_size, set_size]

/-- what is known ahead of each round -/
structure Pl (w : World) (b g be la : Nat) (O : List Nat) (v : Value) (wr : World) : Prop where
  clk : ClkE wr b la O
  sl : SlU wr (g + 1) v O
  bx : Bx wr g be la v
  bl : Below w.heap.size w wr
theorem Pl.drew {w wr : World} {b g be la : Nat} {O : List Nat} {v : Value} (h : Pl w b g be la O v wr) : Pl w b g be la O v wr.drew :=
  ⟨h.clk.keep (Below.refl _ _).drew h.clk.lt, h.sl.keep (Below.refl wr.heap.size wr).drew (Nat.le_refl _), h.bx.block (Nat.le_refl _) rfl, h.bl.drew⟩
theorem Pl.put {w w4 : World} {b g be la la0 : Nat} {O : List Nat} {v v0 : Value} (hC : ClkE w4 b la O) (hS : SlU w4 (g + 1) v O) (hx : Bx w4 g be la0 v0) (hb : Below w.heap.size w w4) (hbg : b ≠ g) (hg : w.heap.size ≤ g) :
    Pl w b g be la O v (((w4.setCell ⟨g, 0, none⟩ (.int .u64 be)).setCell ⟨g, 1, none⟩ (.int .u64 la)).setCell ⟨g, 2, none⟩ v) := by
  refine ⟨?_, ?_, hx.put, ((hb.setCell (p := ⟨g, 0, none⟩) hg _).setCell (p := ⟨g, 1, none⟩) hg _).setCell (p := ⟨g, 2, none⟩) hg _⟩
  · obtain ⟨fr, D, h1, h2⟩ := hC
    exact ⟨fr, D, h1.of_block (put_far hbg), h2⟩
  · exact hS.far (by rw [put_size]; exact Nat.le_refl _) (fun k h1 h2 => put_far (by omega))
theorem Pl.move {w w4 w5 : World} {b g be la : Nat} {O : List Nat} {v : Value} (h : Pl w b g be la O v w4) (hC : ClkE w5 b la O) (hG : w4.grownBy w5 (some b)) (hbg : b < g) (hb : w.heap.size ≤ b) : Pl w b g be la O v w5 :=
  ⟨hC, h.sl.grown hG (by omega), h.bx.grown hG (by omega), below_own h.bl hG hb⟩

set_option maxHeartbeats 16000000 in
theorem lawPlays (n : Nat) (L : List OpC) (q : Option Addr) (c : Nat) (w : World) (hn : n < 18446744073709551616) (hR : RdOp w w.heap.size q L) (hok : ∀ x ∈ L, x.st < 18446744073709551616) (hlen : L.length ≤ 8796093022208) :
    Calls Try.prog 4 #[.int .u64 (n : Int), .slice q L.length c] w fun e w' => e = .returned (.bool true) ∧ Below w.heap.size w w' := by
  have HR : Hid (RdOp _ _ _ _) := hR
  have HK : Hid (∀ x ∈ L, x.st < 18446744073709551616) := hok
  clear hR hok
  have C9 : Hid (∀ w', Calls _ _ _ _ _) := fun w' => awake_any w'
  by_cases hn2 : n ≤ 4611686018427387904
  · have C1 : Hid (Calls _ _ _ _ _) := newE n w hn2
    go_enter Try.func4, Try.ntmps4
    go_wp2_with fail
    refine C1.out.mono ?_
    rintro e w1 ⟨b, rfl, hC, hb, hB⟩
    have HB : Hid (Below _ _ _) := hB
    have HC : Hid (ClkE _ _ _ _) := hC
    have C2 : Hid (Calls _ _ _ _ _) := rnew_ok n w1 hn2
    clear C1 hC hB
    unfold clkV at C2
    go_wp2_with fail
    refine C2.out.mono ?_
    rintro e w2 ⟨rfl, hB2⟩
    have hbl := HC.out.lt
    have HB2 : Hid (Below w.heap.size w w2) := HB.out.trans (hB2.mono HB.out.size)
    have HC2 : Hid (ClkE w2 b n []) := HC.out.keep hB2 hbl
    have hsz : w1.heap.size ≤ w2.heap.size := hB2.size
    have hsz0 : w.heap.size ≤ w2.heap.size := HB2.out.size
    clear C2 hB2 HC HB
    have HP : Hid (Pl w b w2.heap.size n n [] (.slice none 0 0) (w2.alloc (.cells #[.int .u64 n, .int .u64 n, .slice none 0 0] 29))) :=
      ⟨HC2.out.keep ((Below.refl _ _).alloc (Nat.le_refl _) _) (by omega), .inl ⟨rfl, rfl⟩, Bx.new w2 n n _, HB2.out.alloc hsz0 _⟩
    have hbg : b < w2.heap.size := by omega
    have hwg : w.heap.size ≤ w2.heap.size := hsz0
    clear HC2 HB2 hbl hsz
    go_wp2_with fail
    generalize w2.alloc (.cells #[.int .u64 n, .int .u64 n, .slice none 0 0] 29) = w3 at *
    generalize w2.heap.size = gm at *
    go_loopw [9, 10] (fun v9 v10 wr => ∃ (j la : Nat) (O : List Nat) (v : Value), j ≤ L.length ∧ v10 = .int .i64 (j : Int) ∧ v9 = .bool true ∧ Hid (Pl w b gm n la O v wr)) (fun _ v10 _ => L.length - (intOf v10).toNat)
    case atStart => exact ⟨0, n, [], _, Nat.zero_le _, by go_num, rfl, HP⟩
    case round =>
      obtain ⟨j, la, O, v, hj, rfl, rfl, hP⟩ := hrel
      clear HP
      by_cases hj0 : j = L.length
      · subst hj0
        go_wp2_with fail
        refine (C9.out _).mono ?_
        rintro e w5 ⟨rfl, hB5⟩
        go_wp2_with fail
        go_ret
        exact ⟨rfl, hP.out.bl.trans (hB5.mono hP.out.bl.size)⟩
      · have hj1 : j < L.length := by omega
        obtain ⟨go, oo, rfl, hgo, c0, c1, c2⟩ := HR.out j hj1
        have hst := HK.out _ (List.getElem_mem hj1)
        have HD : Hid (Pl w b gm n la O v wr.drew) := hP.out.drew
        have hlo1 : b < gm + 1 := by omega
        have hlo2 : gm + 1 ≤ wr.drew.heap.size := HD.out.bx.lt
        obtain ⟨p0, d0, hv0, _⟩ := HD.out.sl.rd
        rw [hv0] at HD
        clear hv0
        have C2 : Hid (True → Calls Try.prog 12 #[.pointer (some ⟨b, 0, none⟩), .agg #[.int .u64 n, .int .u64 la, .slice p0 O.length d0], .agg #[.bool L[j].tk, .int .i64 L[j].pk, .int .u64 (L[j].st : Nat)]] wr.drew (PlP wr.drew b n (gm + 1))) := fun _ => play_any b la n (gm + 1) O (.slice p0 O.length d0) L[j] wr.drew HD.out.clk hlo1 hlo2 HD.out.sl hst
        have e0 := (HD.out.bl.cell (p := ⟨go, oo + j * 3, none⟩) hgo).trans c0
        have e1 := (HD.out.bl.cell (p := ⟨go, oo + j * 3 + 1, none⟩) hgo).trans c1
        have e2 := (HD.out.bl.cell (p := ⟨go, oo + j * 3 + 2, none⟩) hgo).trans c2
        have x0 := HD.out.bx.c0
        have x1 := HD.out.bx.c1
        have x2 := HD.out.bx.c2
        clear hj0 hst c0 c1 c2 hP hlo1 hlo2
        generalize L[j].tk = tk at *
        generalize L[j].pk = pk at *
        generalize L[j].st = st at *
        go_wp2_with fail
        go_region_with (first | (go_at_call 12; refine (C2.out trivial).mono ?_; rintro e w4 ⟨la4, O4, v4, rfl, hC4, hS4, hG4⟩; have HC4 : Hid (ClkE _ _ _ _) := hC4; have HS4 : Hid (SlU _ _ _ _) := hS4; obtain ⟨p4, d4, rfl, _⟩ := hS4.rd; have hx4 : Bx w4 gm n la _ := HD.out.bx.grown hG4 (by omega); have HB4 : Hid (Below w.heap.size w w4) := below_own HD.out.bl hG4 hb; have y0 := hx4.c0; have y1 := hx4.c1; have y2 := hx4.c2; have z0 := hx4.f0; have z1 := hx4.f1; have z2 := hx4.f2; have HX4 : Hid (Bx _ _ _ _ _) := hx4; clear hx4 hC4 hS4 hG4; unfold clkV))
        all_goals
          have hpp := Pl.put (be := n) (la := la4) HC4.out HS4.out HX4.out HB4.out (by omega) hwg
          have HPP : Hid (Pl _ _ _ _ _ _ _ _) := hpp
          have C3 : Hid (True → Calls _ _ _ _ _) := fun _ => is_any b la4 n O4 (.slice p4 O4.length d4) _ hpp.clk (hpp.sl.weaken (by omega))
          clear hpp C2 HD HC4 HS4 HX4 HB4
          unfold clkV at C3
          go_wp2_with fail
          refine (C3.out trivial).mono ?_
          rintro e w6 ⟨rfl, hC6, hG6⟩
          have HP6 : Hid (Pl _ _ _ _ _ _ _ _) := HPP.out.move hC6 hG6 hbg hb
          clear hC6 hG6 C3 HPP
          go_wp2_with fail
          go_roundw
          case rel => exact ⟨j + 1, la4, O4, _, hj1, by go_num, rfl, HP6⟩
          case measure => simp [intOf]; omega
  · have C1 : Hid (Calls _ _ _ _ _) := new_bad (n : Int) w (by omega)
    have C2 : Hid (Calls _ _ _ _ _) := rnew_bad n w (by omega)
    unfold clkV at C2
    clear hn2 HR HK
    go_enter Try.func4, Try.ntmps4
    go_wp2_with fail
    refine C1.out.mono ?_
    rintro e w1 ⟨rfl, hw⟩
    rw [hw]
    clear hw
    go_wp2_with fail
    refine C2.out.mono ?_
    rintro e w2 ⟨rfl, hB2⟩
    have HB2 : Hid (Below w.heap.size w (w2.alloc (.cells #[.int .u64 0, .int .u64 0, .slice none 0 0] 29))) := hB2.alloc hB2.size _
    clear hB2
    have hl : L.length = 0 ∨ 0 < (L.length : Int) := by omega
    generalize L.length = ll at *
    go_wp2_with fail
    generalize w2.alloc (.cells #[.int .u64 0, .int .u64 0, .slice none 0 0] 29) = w3 at *
    go_loopw [9, 10] (fun v9 v10 wr => v10 = .int .i64 0 ∧ v9 = .bool true ∧ wr = w3) (fun _ _ _ => 0)
    case atStart => exact ⟨rfl, rfl, rfl⟩
    case round =>
      obtain ⟨rfl, rfl, hw⟩ := hrel
      rw [hw]
      clear hw
      rcases hl with hl | hl
      all_goals
        (try subst hl)
        go_wp2_with fail
        refine (C9.out _).mono ?_
        rintro e w5 ⟨rfl, hB5⟩
        go_wp2_with fail
        go_ret
        exact ⟨rfl, HB2.out.trans (hB5.mono HB2.out.size)⟩
end Go.Proofs.Ytckjgnjakkeodaa
