/- Layer 13: the document's side: holds, takers, find, Tickets. -/
import Derived.Test.YtcdamalpecedcaaGreatWGp21
namespace Go.Proofs.YtcdamalpecedcaaGreat
open Go.RowKit
set_option maxRecDepth 100000

theorem owns_empty (w : World) (B : Nat) (hB : B ≤ w.heap.size) (e : TypeId) (size : Nat) : (w.alloc (.cells #[] e)).ownsRow B e size (.slice (some ⟨w.heap.size, 0, none⟩) 0 0) 0 [] :=
  ⟨by simp, .inr ⟨w.heap.size, 0, #[], rfl, hB, heap_alloc_new w _, Nat.le_refl _, by decide, by simp, by simp⟩⟩
/-- holds that a call owns -/
def hdC (h : Hd) : List Value := [.string h.r.lo, .string h.r.hi, .bool h.r.op, .bool h.al]
theorem info_hd : (Tryz.prog.info? 52).map (fun i => (i.zero, i.size, i.bytes)) = some (some (.agg #[.string ⟨#[]⟩, .string ⟨#[]⟩, .bool false, .bool false]), 4, 48) := by kernel_rfl
abbrev OwnH (w : World) (B : Nat) (v : Value) (H : List Hd) : Prop := w.ownsRow B 52 4 v H.length (H.flatMap hdC)
theorem OwnH.rd {w : World} {B : Nat} {v : Value} {H : List Hd} (h : OwnH w B v H) : ∃ q c, v = .slice q H.length c ∧ RdH w w.heap.size q H := by
  obtain ⟨p, c, rfl, -⟩ := owns_len h
  refine ⟨p, c, rfl, fun i hi => ?_⟩
  obtain ⟨g, cap, e, -, hg⟩ := owns_form h (by omega)
  cases e
  have kk : ∀ t, t < 4 → w.cell? ⟨g, i * 4 + t, none⟩ = (hdC H[i])[t]? := by
    intro t ht
    have h1 := World.ownsRow.cellAt h (i * 4 + t) (by omega)
    rw [h1, flat_at 4 hdC (fun _ => rfl) H i hi t ht]
  refine ⟨g, 0, rfl, hg, ?_, ?_, ?_, ?_⟩
  · rw [Nat.zero_add]; exact kk 0 (by decide)
  · rw [Nat.zero_add]; exact kk 1 (by decide)
  · rw [Nat.zero_add]; exact kk 2 (by decide)
  · rw [Nat.zero_add]; exact kk 3 (by decide)

set_option maxHeartbeats 4000000 in
theorem rholds_any (H : List Hd) (q : Option Addr) (c : Nat) (w : World) (hR : RdH w w.heap.size q H) (hl : H.length ≤ 2932031007317) :
    Calls Tryz.prog 34 #[.slice q H.length c] w fun e w' => ∃ v, e = .returned v ∧ OwnH w' w.heap.size v H ∧ Below w.heap.size w w' := by
  have HR : Hid (RdH w w.heap.size q H) := hR
  have hal : Below w.heap.size w (w.alloc (.cells #[] 52)) := (Below.refl _ _).alloc (Nat.le_refl _) _
  have H0 : Hid (OwnH (w.alloc (.cells #[] 52)) w.heap.size (.slice (some ⟨w.heap.size, 0, none⟩) 0 0) [] ∧ Below w.heap.size w (w.alloc (.cells #[] 52))) := ⟨owns_empty w _ (Nat.le_refl _) _ _, hal⟩
  obtain ⟨n, hn⟩ : ∃ n, H.length = n := ⟨_, rfl⟩
  have HN : Hid (H.length = n) := hn
  rw [hn] at hl ⊢
  clear hR hal hn
  go_enter Tryz.func34, Tryz.ntmps34
  go_upto_region 3 with fail
  generalize w.alloc (.cells #[] 52) = w1 at *
  go_loopw [3, 4] (fun sv si wq => ∃ i : Nat, i ≤ n ∧ si = .int .i64 (i : Int) ∧ Hid (OwnH wq w.heap.size sv (H.take i) ∧ Below w.heap.size w wq)) (fun _ si _ => ((n : Int) - intOf si).toNat)
  case atStart => exact ⟨0, by omega, rfl, by rw [List.take_zero]; exact H0⟩
  case round =>
    clear H0
    obtain ⟨i, hi, rfl, HI⟩ := hrel
    rcases Nat.lt_or_eq_of_le hi with hlt | heq
    · have g1 : decide ((i : Int) < (n : Int)) = true := by simp; omega
      have hiH : i < H.length := by rw [HN.out]; exact hlt
      obtain ⟨b, o, rfl, hb, c0, c1, c2, c3⟩ := HR.out.keep HI.out.2 i hiH
      have HT : Hid (H.take (i + 1) = H.take i ++ [H[i]]) := List.take_succ_eq_append_getElem hiH
      have HLn : Hid ((H.take i).length ≤ i) := List.length_take_le _ _
      have hOw : Hid (World.ownsRow wr w.heap.size 52 4 u3 (H.take i).length ((H.take i).flatMap hdC)) := HI.out.1
      generalize H[i] = e0 at *
      obtain ⟨⟨lo, hh, op⟩, al⟩ := e0
      dsimp only at c0 c1 c2 c3
      clear hb
      go_wp2_with (first | (at_builtin; go_loud (refine wpList_app1 wr rfl (.tmp 12) (.tmp 17) 52 32 _ 4 48 rfl Tryz.underlying32 info_hd rfl (by decide) w.heap.size _ _ _ (by rfl) hOw.out [.string lo, .string hh, .bool op, .bool al] rfl (by intro u hu; simp only [List.mem_cons, List.not_mem_nil, or_false] at hu; rcases hu with rfl | rfl | rfl | rfl <;> rfl) _ rfl (by simp) (by have := HLn.out; omega) (by have := HLn.out; omega) HI.out.2.size ?_); intro v3 w3 h3 h4 h5; refine Hid.out ?_))
      have HI3 : Hid (OwnH w3 w.heap.size v3 (H.take (i + 1)) ∧ Below w.heap.size w w3) := by
        refine ⟨?_, HI.out.2.trans h4⟩
        show World.ownsRow _ _ _ _ _ _ _
        rw [HT.out, List.length_append, List.flatMap_append]
        simpa [hdC] using h3
      clear h3 h4 h5
      unfold Hid
      go_wp2_with fail
      go_roundw
      case rel => exact ⟨i + 1, by omega, by go_num, HI3⟩
      case measure => simp [intOf]; omega
    · have g1 : decide ((i : Int) < (n : Int)) = false := by simp; omega
      have HZ : Hid (OwnH wr w.heap.size u3 H ∧ Below w.heap.size w wr) := by
        have h9 := HI.out
        rw [heq, ← HN.out, List.take_length] at h9
        exact h9
      go_wp2_with fail
      go_ret
      exact ⟨_, rfl, HZ.out⟩

set_option maxHeartbeats 4000000 in
theorem lholds_any (H : List Hd) (q : Option Addr) (c : Nat) (w : World) (hR : RdH w w.heap.size q H) (hl : H.length ≤ 2932031007317) :
    Calls Tryz.prog 15 #[.slice q H.length c] w fun e w' => ∃ v, e = .returned v ∧ OwnH w' w.heap.size v H ∧ Below w.heap.size w w' := by
  have HR : Hid (RdH w w.heap.size q H) := hR
  have hal : Below w.heap.size w (w.alloc (.cells #[] 52)) := (Below.refl _ _).alloc (Nat.le_refl _) _
  have H0 : Hid (OwnH (w.alloc (.cells #[] 52)) w.heap.size (.slice (some ⟨w.heap.size, 0, none⟩) 0 0) [] ∧ Below w.heap.size w (w.alloc (.cells #[] 52))) := ⟨owns_empty w _ (Nat.le_refl _) _ _, hal⟩
  obtain ⟨n, hn⟩ : ∃ n, H.length = n := ⟨_, rfl⟩
  have HN : Hid (H.length = n) := hn
  rw [hn] at hl ⊢
  clear hR hal hn
  go_enter Tryz.func15, Tryz.ntmps15
  go_upto_region 3 with fail
  generalize w.alloc (.cells #[] 52) = w1 at *
  go_loopw [3, 4] (fun sv si wq => ∃ i : Nat, i ≤ n ∧ si = .int .i64 (i : Int) ∧ Hid (OwnH wq w.heap.size sv (H.take i) ∧ Below w.heap.size w wq)) (fun _ si _ => ((n : Int) - intOf si).toNat)
  case atStart => exact ⟨0, by omega, rfl, by rw [List.take_zero]; exact H0⟩
  case round =>
    clear H0
    obtain ⟨i, hi, rfl, HI⟩ := hrel
    rcases Nat.lt_or_eq_of_le hi with hlt | heq
    · have g1 : decide ((i : Int) < (n : Int)) = true := by simp; omega
      have hiH : i < H.length := by rw [HN.out]; exact hlt
      obtain ⟨b, o, rfl, hb, c0, c1, c2, c3⟩ := HR.out.keep HI.out.2 i hiH
      have HT : Hid (H.take (i + 1) = H.take i ++ [H[i]]) := List.take_succ_eq_append_getElem hiH
      have HLn : Hid ((H.take i).length ≤ i) := List.length_take_le _ _
      have hOw : Hid (World.ownsRow wr w.heap.size 52 4 u3 (H.take i).length ((H.take i).flatMap hdC)) := HI.out.1
      generalize H[i] = e0 at *
      obtain ⟨⟨lo, hh, op⟩, al⟩ := e0
      dsimp only at c0 c1 c2 c3
      clear hb
      go_wp2_with (first | (at_builtin; go_loud (refine wpList_app1 wr rfl (.tmp 12) (.tmp 17) 52 32 _ 4 48 rfl Tryz.underlying32 info_hd rfl (by decide) w.heap.size _ _ _ (by rfl) hOw.out [.string lo, .string hh, .bool op, .bool al] rfl (by intro u hu; simp only [List.mem_cons, List.not_mem_nil, or_false] at hu; rcases hu with rfl | rfl | rfl | rfl <;> rfl) _ rfl (by simp) (by have := HLn.out; omega) (by have := HLn.out; omega) HI.out.2.size ?_); intro v3 w3 h3 h4 h5; refine Hid.out ?_))
      have HI3 : Hid (OwnH w3 w.heap.size v3 (H.take (i + 1)) ∧ Below w.heap.size w w3) := by
        refine ⟨?_, HI.out.2.trans h4⟩
        show World.ownsRow _ _ _ _ _ _ _
        rw [HT.out, List.length_append, List.flatMap_append]
        simpa [hdC] using h3
      clear h3 h4 h5
      unfold Hid
      go_wp2_with fail
      go_roundw
      case rel => exact ⟨i + 1, by omega, by go_num, HI3⟩
      case measure => simp [intOf]; omega
    · have g1 : decide ((i : Int) < (n : Int)) = false := by simp; omega
      have HZ : Hid (OwnH wr w.heap.size u3 H ∧ Below w.heap.size w wr) := by
        have h9 := HI.out
        rw [heq, ← HN.out, List.take_length] at h9
        exact h9
      go_wp2_with fail
      go_ret
      exact ⟨_, rfl, HZ.out⟩
end Go.Proofs.YtcdamalpecedcaaGreat
