/- The document's Push and Keep, where they take effect. -/
import Derived.Test.YtofndmiebnhkaaaWCelR
namespace Go.Proofs.Ytofndmiebnhkaaa
open Go.RowKit
set_option maxRecDepth 100000

theorem lit_two (w : World) (v : Value) (n : Nat) (x : Int) : Two (((w.alloc (.cells #[v, .int .u64 (n : Nat)] 28)).alloc (.cells #[.slice none 0 0, .int .u64 0] 28)).alloc (.cells #[.int .i64 x] 2)) w.heap.size v n :=
  (Two.start w v n).below (B := w.heap.size + 2) (by go_grown; all_goals simp) (by omega)

set_option maxHeartbeats 4000000 in
theorem rpush_hit (O : List Int) (v : Value) (n : Nat) (x : Int) (w : World) (hS : SlI w 0 v O) (hm : n + 1 < 18446744073709551616) (hlen : O.length < 17592186044416) :
    Calls Try.prog 24 #[celV v n, .int .u64 (n : Nat), .int .i64 x] w fun e w' => (∃ v', e = .returned (.tuple #[celV v' (n + 1), .bool true]) ∧ SlI w' w.heap.size v' (x :: O)) ∧ Below w.heap.size w w' := by
  obtain ⟨p, c, rfl, hR⟩ := hS.rd
  have HR : Hid (RdI _ _ _ _) := hR
  clear hS hR
  have HT : Hid (Two _ _ _ _) := lit_two w (.slice p O.length c) n x
  have hsz : Hid ((((w.alloc (.cells #[.slice p O.length c, .int .u64 (n : Nat)] 28)).alloc (.cells #[.slice none 0 0, .int .u64 0] 28)).heap.size = w.heap.size + 2)) := by show _ = _; simp
  have HW : Hid (World.ownsRow _ (w.heap.size + 2) 2 1 _ _ _) := World.ownsRow_lit ((w.alloc (.cells #[.slice p O.length c, .int .u64 (n : Nat)] 28)).alloc (.cells #[.slice none 0 0, .int .u64 0] 28)) #[.int .i64 x] 1 (by rw [hsz.out]; exact Nat.le_refl _) (by decide) rfl
  have HB0 : Hid (Below w.heap.size w (((w.alloc (.cells #[.slice p O.length c, .int .u64 (n : Nat)] 28)).alloc (.cells #[.slice none 0 0, .int .u64 0] 28)).alloc (.cells #[.int .i64 x] 2))) := (show Below w.heap.size w _ by go_grown)
  rw [hsz.out] at HW
  unfold celV at *
  go_enter Try.func24, Try.ntmps24
  go_wp2_with fail
  go_loopw [8, 9] (fun u i wr => ∃ j : Nat, j ≤ O.length ∧ i = .int .i64 (j : Int) ∧ Hid (wr.ownsRow (w.heap.size + 2) 2 1 u (j + 1) (cellsX (x :: O.take j))) ∧ Hid (Two wr w.heap.size (.slice p O.length c) n) ∧ Hid (Below w.heap.size w wr)) (fun _ i _ => O.length - (intOf i).toNat)
  case atStart => exact ⟨0, Nat.zero_le _, by go_num, HW, HT, HB0⟩
  case round =>
    obtain ⟨j, hj, rfl, hO, hT, hB⟩ := hrel
    clear HT HB0 hsz HW
    obtain ⟨q0, q1, r0, r1, f0, f1⟩ := hT.out.facts
    have hz4 : w.heap.size + 2 ≤ wr.heap.size := hT.out.sz
    by_cases hj0 : j = O.length
    · subst hj0
      rw [List.take_length] at hO
      have HSl := sl_of_owns (O := x :: O) hO.out
      obtain ⟨p6, c6, hu, _⟩ := HSl.rd
      rw [hu] at HSl
      subst hu
      have HS6 : Hid (SlI _ _ _ _) := HSl
      clear HSl hO
      generalize hk : (x :: O).length = k at *
      go_wp2_with fail
      refine bodyPost_ret (v := .tuple #[celV (.slice p6 k c6) (n + 1), .bool true]) (by simp [results, Try.results24, go_sem, celV, r0, r1]) rfl ?_
      refine ⟨⟨_, rfl, ?_⟩, by go_grown; all_goals exact hB.out⟩
      refine SlI.weaken (lo := w.heap.size + 2) (SlI.far (w := wr) HS6.out ?_ ?_) (by omega)
      · simp
      intro g h1 h2
      exact (Below.heap_setCell _ _ _ _ (by simp; omega)).trans (Below.heap_setCell _ _ _ _ (by simp; omega))
    · have hj1 : j < O.length := by omega
      obtain ⟨g, rfl, _, hgl, d0⟩ := HR.out j hj1
      have e0 := (hB.out.cell (p := ⟨g, j, none⟩) hgl).trans d0
      clear d0
      have HF : Hid (x :: O.take (j + 1) = (x :: O.take j) ++ [O[j]]) := by show _ = _; rw [← List.take_append_getElem hj1, List.cons_append]
      generalize O[j] = y at *
      generalize x :: O.take j = U at *
      go_wp2_with (first | (at_builtin; go_loud (refine wpList_app1 _ rfl (.tmp 24) _ 2 25 _ 1 8 rfl Try.underlying25 info_int64 rfl (by decide) (w.heap.size + 2) u8 _ _ (by rfl) hO.out [.int .i64 y] rfl (by intro u hu; have e : u = .int .i64 y := (by simpa using hu); subst e; rfl) _ rfl (by simp) (by omega) (by omega) hz4 ?_); intro v6 w6 h6 h7 h8))
      have H6 : Hid _ := h6
      have hT6 : Two w6 w.heap.size (.slice (some ⟨g, 0, none⟩) O.length c) n := hT.out.below h7 (by omega)
      have hB6 : Below w.heap.size w w6 := hB.out.trans (h7.mono (by omega))
      go_roundw
      case rel => exact ⟨j + 1, hj1, by go_num, (show World.ownsRow _ _ _ _ _ _ _ by rw [HF.out]; unfold cellsX; rw [List.map_append]; exact H6.out), hT6, hB6⟩
      case measure => simp [intOf]; omega

theorem own_cap {w : World} {B T : Nat} {u : Value} {n : Nat} {xs : List Value} (h : w.ownsRow B T 1 u n xs) : ∀ g c, u = .slice (some ⟨g, 0, none⟩) n c → n ≤ c := by
  intro g c e
  rcases h.2 with ⟨h1, _⟩ | ⟨g', cap, cur, hv, _, _, hc, _⟩
  · rw [h1] at e; cases e
  · rw [hv] at e; cases e; exact hc
/-- how many stay -/
def keepN (m : Int) : Nat := (max m 1).toNat
theorem keepN_eq (m : Int) : max m 1 = (keepN m : Int) := by unfold keepN; omega
theorem SlI.take {w : World} {lo : Nat} {g c k : Nat} {O : List Int} (h : SlI w lo (.slice (some ⟨g, 0, none⟩) O.length c) O) (hk : k ≤ O.length) : SlI w lo (.slice (some ⟨g, 0, none⟩) k c) (O.take k) := by
  rcases h with ⟨h, _⟩ | ⟨g', c', h, h1, h2, h3⟩
  · cases h
  · cases h
    have e : (O.take k).length = k := by simp; omega
    exact .inr ⟨g, c, by rw [e], h1, h2, fun i hi => by rw [h3 i (by omega)]; simp⟩

set_option maxHeartbeats 4000000 in
theorem rkeep_hit (O : List Int) (v : Value) (n : Nat) (m : Int) (w : World) (hS : SlI w 0 v O) (hlen : O.length ≤ 17592186044416) :
    Calls Try.prog 22 #[celV v n, .int .u64 (n : Nat), .int .i64 m] w fun e w' => (∃ v', e = .returned (.tuple #[celV v' n, .bool true]) ∧ SlI w' w.heap.size v' (O.take (keepN m))) ∧ Below w.heap.size w w' := by
  obtain ⟨p, c, rfl, hR⟩ := hS.rd
  have HR : Hid (RdI _ _ _ _) := hR
  clear hR
  have HT : Hid (Two _ _ _ _) := Two.start w (.slice p O.length c) n
  have hsz : Hid ((((w.alloc (.cells #[.slice p O.length c, .int .u64 (n : Nat)] 28)).alloc (.cells #[.slice none 0 0, .int .u64 0] 28)).heap.size = w.heap.size + 2)) := by show _ = _; simp
  have HB0 : Hid (Below w.heap.size w ((w.alloc (.cells #[.slice p O.length c, .int .u64 (n : Nat)] 28)).alloc (.cells #[.slice none 0 0, .int .u64 0] 28))) := (show Below w.heap.size w _ by go_grown)
  have C1 : Hid (Calls _ _ _ _ _) := rcopied_any O p c ((w.alloc (.cells #[.slice p O.length c, .int .u64 (n : Nat)] 28)).alloc (.cells #[.slice none 0 0, .int .u64 0] 28)) (fun i hi => by
    obtain ⟨g, h1, h2, h3, h4⟩ := HR.out i hi
    exact ⟨g, h1, h2, by simp; omega, (HB0.out.cell (p := ⟨g, i, none⟩) h3).trans h4⟩) hlen
  rw [hsz.out] at C1
  have hke := keepN_eq m
  unfold celV at *
  generalize keepN m = k at *
  rcases Int.lt_or_le m 1 with hm | hm
  · rw [Int.max_eq_right (show m ≤ 1 by omega)] at hke
    obtain rfl : k = 1 := by omega
    clear hke
    go_enter Try.func22, Try.ntmps22
    go_wp2_with fail
    refine C1.out.mono ?_
    rintro e w3 ⟨⟨u, rfl, hO⟩, hB3⟩
    have HT3 := HT.out.below hB3 (by omega)
    have HB3 : Hid (Below w.heap.size w w3) := HB0.out.trans (hB3.mono (by omega))
    obtain ⟨q0, q1, r0, r1, f0, f1⟩ := HT3.facts
    have HSl := sl_of_owns hO
    have hs3 := HT3.sz
    have HCap : Hid (∀ g c6, u = .slice (some ⟨g, 0, none⟩) O.length c6 → O.length ≤ c6) := own_cap hO
    clear hB3 HT HB0 hsz hO
    by_cases hkl : 1 < O.length
    · obtain ⟨g, c6, rfl, _⟩ : ∃ g c6, u = .slice (some ⟨g, 0, none⟩) O.length c6 ∧ True := by
        rcases HSl with ⟨_, h⟩ | ⟨g, c6, h, _⟩
        · rw [h] at hkl; simp at hkl
        · exact ⟨g, c6, h, trivial⟩
      have HS6 : Hid (SlI _ _ _ _) := HSl.take (k := 1) (by omega)
      have hcap := HCap.out g c6 rfl
      have a1 : (1 : Int) < (O.length : Int) := by omega
      have a2 : (1 : Int) ≤ (c6 : Int) := by omega
      clear HSl HCap
      go_wp2_with fail
      refine bodyPost_ret (v := .tuple #[celV (.slice (some ⟨g, 0, none⟩) 1 c6) n, .bool true]) (by simp [results, Try.results22, go_sem, celV, r0, r1]) rfl ?_
      refine ⟨⟨_, rfl, ?_⟩, by go_grown; all_goals exact HB3.out⟩
      refine SlI.weaken (lo := w.heap.size + 2) (SlI.far (w := w3) HS6.out ?_ ?_) (by omega)
      · simp
      intro g h1 h2
      exact (Below.heap_setCell _ _ _ _ (by simp; omega)).trans (Below.heap_setCell _ _ _ _ (by simp; omega))
    · obtain ⟨p6, c6, hu, _⟩ := HSl.rd
      rw [hu] at HSl
      subst hu
      have HS6 : Hid (SlI _ _ _ _) := HSl
      have a1 : ¬ ((1 : Int) < (O.length : Int)) := by omega
      have HTk : Hid (O.take 1 = O) := List.take_of_length_le (by omega)
      clear HSl
      go_wp2_with fail
      refine bodyPost_ret (v := .tuple #[celV (.slice p6 O.length c6) n, .bool true]) (by simp [results, Try.results22, go_sem, celV, r0, r1]) rfl ?_
      refine ⟨⟨_, rfl, ?_⟩, by go_grown; all_goals exact HB3.out⟩
      rw [HTk.out]
      refine SlI.weaken (lo := w.heap.size + 2) (SlI.far (w := w3) HS6.out ?_ ?_) (by omega)
      · simp
      intro g h1 h2
      exact (Below.heap_setCell _ _ _ _ (by simp; omega)).trans (Below.heap_setCell _ _ _ _ (by simp; omega))
  · rw [Int.max_eq_left hm] at hke
    subst hke
    go_enter Try.func22, Try.ntmps22
    go_wp2_with fail
    refine C1.out.mono ?_
    rintro e w3 ⟨⟨u, rfl, hO⟩, hB3⟩
    have HT3 := HT.out.below hB3 (by omega)
    have HB3 : Hid (Below w.heap.size w w3) := HB0.out.trans (hB3.mono (by omega))
    obtain ⟨q0, q1, r0, r1, f0, f1⟩ := HT3.facts
    have HSl := sl_of_owns hO
    have hs3 := HT3.sz
    have HCap : Hid (∀ g c6, u = .slice (some ⟨g, 0, none⟩) O.length c6 → O.length ≤ c6) := own_cap hO
    clear hB3 HT HB0 hsz hO
    by_cases hkl : k < O.length
    · obtain ⟨g, c6, rfl, _⟩ : ∃ g c6, u = .slice (some ⟨g, 0, none⟩) O.length c6 ∧ True := by
        rcases HSl with ⟨_, h⟩ | ⟨g, c6, h, _⟩
        · rw [h] at hkl; simp at hkl
        · exact ⟨g, c6, h, trivial⟩
      have HS6 : Hid (SlI _ _ _ _) := HSl.take (k := k) (by omega)
      have hcap := HCap.out g c6 rfl
      have a1 : (k : Int) < (O.length : Int) := by omega
      have a2 : (k : Int) ≤ (c6 : Int) := by omega
      clear HSl HCap
      go_wp2_with fail
      refine bodyPost_ret (v := .tuple #[celV (.slice (some ⟨g, 0, none⟩) k c6) n, .bool true]) (by simp [results, Try.results22, go_sem, celV, r0, r1]) rfl ?_
      refine ⟨⟨_, rfl, ?_⟩, by go_grown; all_goals exact HB3.out⟩
      refine SlI.weaken (lo := w.heap.size + 2) (SlI.far (w := w3) HS6.out ?_ ?_) (by omega)
      · simp
      intro g h1 h2
      exact (Below.heap_setCell _ _ _ _ (by simp; omega)).trans (Below.heap_setCell _ _ _ _ (by simp; omega))
    · obtain ⟨p6, c6, hu, _⟩ := HSl.rd
      rw [hu] at HSl
      subst hu
      have HS6 : Hid (SlI _ _ _ _) := HSl
      have a1 : ¬ ((k : Int) < (O.length : Int)) := by omega
      have HTk : Hid (O.take k = O) := List.take_of_length_le (by omega)
      clear HSl
      go_wp2_with fail
      refine bodyPost_ret (v := .tuple #[celV (.slice p6 O.length c6) n, .bool true]) (by simp [results, Try.results22, go_sem, celV, r0, r1]) rfl ?_
      refine ⟨⟨_, rfl, ?_⟩, by go_grown; all_goals exact HB3.out⟩
      rw [HTk.out]
      refine SlI.weaken (lo := w.heap.size + 2) (SlI.far (w := w3) HS6.out ?_ ?_) (by omega)
      · simp
      intro g h1 h2
      exact (Below.heap_setCell _ _ _ _ (by simp; omega)).trans (Below.heap_setCell _ _ _ _ (by simp; omega))
end Go.Proofs.Ytofndmiebnhkaaa
