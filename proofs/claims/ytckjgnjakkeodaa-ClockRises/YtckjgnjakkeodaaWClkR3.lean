/- The document's Done. -/
import Derived.Test.YtckjgnjakkeodaaWClkR2
namespace Go.Proofs.Ytckjgnjakkeodaa
open Go.RowKit
set_option maxRecDepth 100000

theorem left_take (O : List Nat) (s j : Nat) (hj : j < O.length) : left (O.take (j + 1)) s = if O[j] = s then left (O.take j) s else left (O.take j) s ++ [O[j]] := by
  unfold left
  rw [← List.take_append_getElem hj, List.filter_append]
  split
  · rename_i h; simp [h]
  · rename_i h; simp [h]
theorem left_len (O : List Nat) (s : Nat) : (left O s).length ≤ O.length := List.length_filter_le _ _
theorem left_lt (O : List Nat) (s : Nat) (h : s ∈ O) : (left O s).length < O.length := by
  unfold left
  rw [← Nat.not_le]
  intro hl
  have := List.length_filter_le (fun x => x != s) O
  have e : (O.filter (fun x => x != s)).length = O.length := by omega
  rw [List.length_filter_eq_length_iff] at e
  have := e s h
  simp at this

set_option maxHeartbeats 8000000 in
theorem rdone_any (be la : Nat) (O : List Nat) (s : Nat) (v : Value) (w : World) (hS : SlU w 0 v O) (hlen : O.length ≤ 4096) :
    Calls Try.prog 25 #[clkV be la v, .int .u64 s] w fun e w' => ((¬ s ∈ O ∧ e = .returned (.tuple #[clkV be la v, .int .i64 60])) ∨ (s ∈ O ∧ ∃ v', e = .returned (.tuple #[clkV be la v', .int .i64 0]) ∧ SlU w' w.heap.size v' (left O s))) ∧ Below w.heap.size w w' := by
  have HS : Hid (SlU _ _ _ _) := hS
  obtain ⟨p, c, rfl, hR⟩ := hS.rd
  have HR : Hid (RdU _ _ _ _) := hR
  clear hS hR
  have HL : Hid (O.length ≤ 4096) := hlen
  have hle1 : O.length < 9223372036854775807 := by omega
  clear hlen
  unfold clkV at *
  obtain ⟨HB0, HT0⟩ := box2 w _ _ be la (.slice p O.length c) (Below.refl _ _) rfl (show Below w.heap.size w ((w.alloc (.cells #[.int .u64 be, .int .u64 la, .slice p O.length c] 29)).alloc (.cells #[.int .u64 0, .int .u64 0, .slice none 0 0] 29)) by go_grown)
  have HT : Hid (Two _ _ _ _ _) := HT0
  have hsz : Hid (((w.alloc (.cells #[.int .u64 be, .int .u64 la, .slice p O.length c] 29)).alloc (.cells #[.int .u64 0, .int .u64 0, .slice none 0 0] 29)).heap.size = w.heap.size + 2) := by show _ = _; simp
  clear HT0
  go_enter Try.func25, Try.ntmps25
  go_wp2_with fail
  generalize (w.alloc (.cells #[.int .u64 be, .int .u64 la, .slice p O.length c] 29)).alloc (.cells #[.int .u64 0, .int .u64 0, .slice none 0 0] 29) = w1 at *
  go_loopw [6, 7] (fun u i wr => ∃ j : Nat, j ≤ O.length ∧ i = .int .i64 (j : Int) ∧ Hid (wr.ownsRow (w.heap.size + 2) 22 1 u (left (O.take j) s).length (cellsU (left (O.take j) s))) ∧ Hid (Two wr w.heap.size be la (.slice p O.length c)) ∧ Hid (Below w.heap.size w wr)) (fun _ i _ => O.length - (intOf i).toNat)
  case atStart => exact ⟨0, Nat.zero_le _, by go_num, ⟨rfl, .inl ⟨rfl, rfl⟩⟩, HT, HB0⟩
  case round =>
    obtain ⟨j, hj, rfl, hO, hT, hB⟩ := hrel
    clear HT HB0 hsz
    obtain ⟨hz4, q0, q1, q2, f0, f1, f2, r0, r1, r2, k0, k1, k2⟩ := hT.out
    by_cases hj0 : j = O.length
    · subst hj0
      rw [List.take_length] at hO
      have HSl := sl_of_owns hO.out
      obtain ⟨p6, c6, rfl, _⟩ := HSl.rd
      have HS6 : Hid (SlU _ _ _ _) := HSl
      clear HSl hO
      by_cases hs : s ∈ O
      · have hl := left_lt O s hs
        have a1 : ¬ (((left O s).length : Int) = (O.length : Int)) := by omega
        have a2 : ¬ ((left O s).length = O.length) := by omega
        clear hl
        generalize hLq : left O s = L at *
        have HLq : Hid (left O s = L) := hLq
        clear hLq
        go_wp2_with fail
        refine bodyPost_ret (v := .tuple #[clkV be la (.slice p6 L.length c6), .int .i64 0]) (by simp [results, Try.results25, go_sem, clkV, r0, r1, r2]) rfl ?_
        refine ⟨.inr ⟨hs, _, rfl, ?_⟩, by go_grown; all_goals exact hB.out⟩
        rw [HLq.out]
        refine SlU.weaken (lo := w.heap.size + 2) (SlU.far (w := wr) HS6.out ?_ ?_) (by omega)
        · simp
        intro g h1 h2
        exact (Below.heap_setCell _ _ _ _ (by simp; omega)).trans ((Below.heap_setCell _ _ _ _ (by simp; omega)).trans ((Below.heap_setCell _ _ _ _ (by simp; omega)).trans (Below.heap_setCell _ _ _ _ (by simp; omega))))
      · rw [left_none O s hs] at *
        go_wp2_with fail
        refine bodyPost_ret (v := .tuple #[clkV be la (.slice p O.length c), .int .i64 60]) (by simp [results, Try.results25, go_sem, clkV, r0, r1, r2]) rfl ?_
        exact ⟨.inl ⟨hs, rfl⟩, by go_grown; all_goals exact hB.out⟩
    · have hj1 : j < O.length := by omega
      obtain ⟨g, o, rfl, _, hgl, d0⟩ := HR.out j hj1
      have e0 := (hB.out.cell (p := ⟨g, o + j, none⟩) hgl).trans d0
      clear d0
      have HF : Hid (left (O.take (j + 1)) s = _) := left_take O s j hj1
      have hul : (left (O.take j) s).length ≤ 4096 := Nat.le_trans (left_len _ _) (by have := HL.out; simp; omega)
      by_cases hx : O[j] = s
      · rw [if_pos hx] at HF
        have a1 : ((O[j] : Nat) : Int) = (s : Int) := by omega
        rw [a1] at e0
        clear hx a1
        generalize left (O.take j) s = U at *
        go_wp2_with fail
        go_roundw
        case rel => exact ⟨j + 1, hj1, by go_num, (show World.ownsRow _ _ _ _ _ _ _ by rw [HF.out]; exact hO.out), hT, hB⟩
        case measure => simp [intOf]; omega
      · rw [if_neg hx] at HF
        have a1 : ¬ (((O[j] : Nat) : Int) = (s : Int)) := by omega
        clear hx
        generalize left (O.take j) s = U at *
        generalize O[j] = x at *
        go_wp2_with (first | (at_builtin; go_loud (refine wpList_app1 _ rfl (.tmp 22) _ 22 27 _ 1 8 rfl Try.underlying27 info_u64 rfl (by decide) (w.heap.size + 2) u6 _ _ (by rfl) hO.out [.int .u64 (x : Nat)] rfl (by intro u hu; have e : u = .int .u64 (x : Nat) := (by simpa using hu); subst e; rfl) _ rfl (by simp) (by omega) (by omega) hz4 ?_); intro v6 w6 h6 h7 h8))
        have hT6 : Two w6 w.heap.size be la (.slice (some ⟨g, o, none⟩) O.length c) := hT.out.below h7 (by omega)
        have hB6 : Below w.heap.size w w6 := hB.out.trans (h7.mono (by omega))
        go_roundw
        case rel => exact ⟨j + 1, hj1, by go_num, (show World.ownsRow _ _ _ _ _ _ _ by rw [HF.out, List.length_append]; unfold cellsU; rw [List.map_append]; exact h6), hT6, hB6⟩
        case measure => simp [intOf]; omega
end Go.Proofs.Ytckjgnjakkeodaa
