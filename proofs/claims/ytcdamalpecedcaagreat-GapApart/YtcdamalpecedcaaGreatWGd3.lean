/- Layer 13: the document's takers; find, Tickets. -/
import Derived.Test.YtcdamalpecedcaaGreatWGd2
namespace Go.Proofs.YtcdamalpecedcaaGreat
open Go.RowKit
set_option maxRecDepth 100000

/-- a taker of the document's: its ticket, where its holds lie, its holds -/
structure Dk where
  t : Nat
  v : Value
  H : List Hd
def dkC (d : Dk) : List Value := [.int .u64 (d.t : Nat), d.v]
structure DkL (w : World) (B : Nat) (v : Value) (D : List Dk) : Prop where
  o : w.ownsRow B 42 2 v D.length (D.flatMap dkC)
  h : ∀ d ∈ D, OwnH w 0 d.v d.H ∧ d.H.length ≤ 256
theorem DkL.on {w w' : World} {B : Nat} {v : Value} {D : List Dk} (h : DkL w B v D) (hb : Below w.heap.size w w') : DkL w' B v D := ⟨owns_kept h.o hb, fun d hd => ⟨owns_kept (h.h d hd).1 hb, (h.h d hd).2⟩⟩
theorem DkL.frm {w w' : World} {B : Nat} {v : Value} {D : List Dk} {F : Nat → Prop} (h : DkL w B v D) (hf : Frm w w' F) (hF : OnlyTG w F) : DkL w' B v D := ⟨owns_frm h.o hf hF (by decide) (by decide), fun d hd => ⟨owns_frm (h.h d hd).1 hf hF (by decide) (by decide), (h.h d hd).2⟩⟩
theorem DkL.base {w : World} {B C : Nat} {v : Value} {D : List Dk} (h : DkL w B v D) (hc : C ≤ B) : DkL w C v D := ⟨owns_base h.o hc, h.h⟩
def RdD (w : World) (N : Nat) (q : Option Addr) (D : List Dk) : Prop := ∀ i (hi : i < D.length), ∃ b o, q = some ⟨b, o, none⟩ ∧ b < N ∧ w.cell? ⟨b, o + i * 2, none⟩ = some (.int .u64 (D[i].t : Nat)) ∧ w.cell? ⟨b, o + i * 2 + 1, none⟩ = some D[i].v
theorem RdD.keep {w w' : World} {N : Nat} {q : Option Addr} {D : List Dk} (h : RdD w N q D) (hb : Below N w w') : RdD w' N q D := by
  intro i hi
  obtain ⟨b, o, e, hlt, c0, c1⟩ := h i hi
  have k : ∀ n v, w.cell? ⟨b, n, none⟩ = some v → w'.cell? ⟨b, n, none⟩ = some v := fun n v hc => (hb.cell (p := ⟨b, n, none⟩) hlt).trans hc
  exact ⟨b, o, e, hlt, k _ _ c0, k _ _ c1⟩
theorem DkL.rd {w : World} {B : Nat} {v : Value} {D : List Dk} (h : DkL w B v D) : ∃ q c, v = .slice q D.length c ∧ RdD w w.heap.size q D := by
  obtain ⟨p, c, rfl, -⟩ := owns_len h.o
  refine ⟨p, c, rfl, fun i hi => ?_⟩
  obtain ⟨g, cap, e, -, hg⟩ := owns_form h.o (by omega)
  cases e
  have kk : ∀ t, t < 2 → w.cell? ⟨g, i * 2 + t, none⟩ = (dkC D[i])[t]? := by
    intro t ht
    have h1 := World.ownsRow.cellAt h.o (i * 2 + t) (by omega)
    rw [h1, flat_at 2 dkC (fun _ => rfl) D i hi t ht]
  refine ⟨g, 0, rfl, hg, ?_, ?_⟩
  · rw [Nat.zero_add]; exact kk 0 (by decide)
  · rw [Nat.zero_add]; exact kk 1 (by decide)
/-- what find tells -/
def FndD (D : List Dk) (n : Nat) (k : Int) : Prop := (k = -1 ∧ ∀ d ∈ D, d.t ≠ n) ∨ ∃ i, ∃ hi : i < D.length, k = (i : Int) ∧ D[i].t = n

set_option maxHeartbeats 4000000 in
theorem rfind_any (D : List Dk) (B n ls : Nat) (v : Value) (w : World) (hD : DkL w B v D) (hl : D.length ≤ 256) :
    Calls Tryz.prog 36 #[.agg #[v, .int .u64 (ls : Nat)], .int .u64 (n : Nat)] w fun e w' => ∃ k, e = .returned (.int .i64 k) ∧ FndD D n k ∧ Below w.heap.size w w' := by
  obtain ⟨q, c, rfl, hR⟩ := hD.rd
  have hal : Below w.heap.size w (w.alloc (.cells #[.slice q D.length c, .int .u64 (ls : Nat)] 28)) := (Below.refl _ _).alloc (Nat.le_refl _) _
  have HR : Hid (RdD (w.alloc (.cells #[.slice q D.length c, .int .u64 (ls : Nat)] 28)) w.heap.size q D) := hR.keep hal
  have x1 : (w.alloc (.cells #[.slice q D.length c, .int .u64 (ls : Nat)] 28)).cell? ⟨w.heap.size, 0, none⟩ = some (.slice q D.length c) := by rw [World.cell?_alloc_new]; rfl
  have HB : Hid (Below w.heap.size w (w.alloc (.cells #[.slice q D.length c, .int .u64 (ls : Nat)] 28))) := hal
  clear hD hR hal
  obtain ⟨m, hm⟩ : ∃ m, D.length = m := ⟨_, rfl⟩
  have HN : Hid (D.length = m) := hm
  rw [hm] at hl x1 HR HB ⊢
  clear hm
  go_enter Tryz.func36, Tryz.ntmps36
  go_wp2_with fail
  generalize w.alloc (.cells #[.slice q m c, .int .u64 (ls : Nat)] 28) = w1 at *
  go_loopw [5] (fun si wq => ∃ i : Nat, i ≤ m ∧ si = .int .i64 (i : Int) ∧ wq = w1 ∧ Hid (∀ d ∈ D.take i, d.t ≠ n)) (fun si _ => ((m : Int) - intOf si).toNat)
  case atStart => exact ⟨0, by omega, rfl, rfl, by rw [List.take_zero]; intro d hd; cases hd⟩
  case round =>
    obtain ⟨i, hi, rfl, hwr, HI⟩ := hrel
    rw [hwr]
    clear hwr
    rcases Nat.lt_or_eq_of_le hi with hlt | heq
    · have g1 : decide ((i : Int) < (m : Int)) = true := by simp; omega
      have hiD : i < D.length := by rw [HN.out]; exact hlt
      obtain ⟨b, o, rfl, hb, c0, c1⟩ := HR.out i hiD
      by_cases ht : D[i].t = n
      · have HF : Hid (FndD D n (i : Int)) := .inr ⟨i, hiD, rfl, ht⟩
        rw [ht] at c0
        clear ht hiD hb c1
        go_wp2_with fail
        go_ret
        exact ⟨_, rfl, HF.out, HB.out⟩
      · have HI3 : Hid (∀ d ∈ D.take (i + 1), d.t ≠ n) := by
          intro d hd
          rw [List.take_succ_eq_append_getElem hiD] at hd
          rcases List.mem_append.1 hd with h9 | h9
          · exact HI.out d h9
          · simp only [List.mem_cons, List.not_mem_nil, or_false] at h9
            rw [h9]; exact ht
        have g2 : ¬ ((D[i].t : Nat) : Int) = (n : Int) := by omega
        generalize ((D[i].t : Nat) : Int) = z at *
        clear ht hiD hb c1
        go_wp2_with fail
        go_roundw
        case rel => exact ⟨i + 1, by omega, by go_num, by first | rfl | trivial, HI3⟩
        case measure => simp [intOf]; omega
    · have g1 : decide ((i : Int) < (m : Int)) = false := by simp; omega
      have HF : Hid (FndD D n (-1)) := by
        have h9 := HI.out
        rw [heq, ← HN.out, List.take_length] at h9
        exact .inl ⟨rfl, h9⟩
      go_wp2_with fail
      go_ret
      exact ⟨_, rfl, HF.out, HB.out⟩

set_option maxHeartbeats 4000000 in
theorem rtickets_any (D : List Dk) (B ls : Nat) (v : Value) (w : World) (hD : DkL w B v D) (hl : D.length ≤ 256) :
    Calls Tryz.prog 19 #[.agg #[v, .int .u64 (ls : Nat)]] w fun e w' => ∃ u, e = .returned u ∧ OwnU w' w.heap.size u (D.map Dk.t) ∧ Below w.heap.size w w' := by
  obtain ⟨q, c, rfl, hR⟩ := hD.rd
  have hal : Below w.heap.size w (w.alloc (.cells #[.slice q D.length c, .int .u64 (ls : Nat)] 28)) := (Below.refl _ _).alloc (Nat.le_refl _) _
  have x1 : Blk (w.alloc (.cells #[.slice q D.length c, .int .u64 (ls : Nat)] 28)) w.heap.size #[.slice q D.length c, .int .u64 (ls : Nat)] 28 := (blk_new w _ _).1
  have hsz : (w.alloc (.cells #[.slice q D.length c, .int .u64 (ls : Nat)] 28)).heap.size = w.heap.size + 1 := (blk_new w _ _).2.2
  generalize hW : w.alloc (.cells #[.slice q D.length c, .int .u64 (ls : Nat)] 28) = w1 at *
  have HR : Hid (RdD w1 w.heap.size q D) := hR.keep hal
  have hal2 : Below w1.heap.size w1 (w1.alloc (.cells #[] 26)) := (Below.refl _ _).alloc (Nat.le_refl _) _
  have H0 : Hid (OwnU (w1.alloc (.cells #[] 26)) w1.heap.size (.slice (some ⟨w1.heap.size, 0, none⟩) 0 0) [] ∧ Below w1.heap.size w1 (w1.alloc (.cells #[] 26))) := ⟨owns_empty w1 _ (Nat.le_refl _) _ _, hal2⟩
  have HX : Hid (Blk w1 w.heap.size #[.slice q D.length c, .int .u64 (ls : Nat)] 28) := x1
  have HB : Hid (Below w.heap.size w w1) := hal
  clear hD hR hal hal2 x1
  obtain ⟨m, hm⟩ : ∃ m, D.length = m := ⟨_, rfl⟩
  have HN : Hid (D.length = m) := hm
  rw [hm] at hl HX hW ⊢
  clear hm
  go_enter Tryz.func19, Tryz.ntmps19
  go_upto_region 3 with fail
  try rw [hW]
  have HS : Hid (w1.heap.size = w.heap.size + 1) := hsz
  clear hW hsz
  generalize w1.alloc (.cells #[] 26) = w2 at *
  go_loopw [3, 4] (fun sv si wq => ∃ i : Nat, i ≤ m ∧ si = .int .i64 (i : Int) ∧ Hid (OwnU wq w1.heap.size sv ((D.take i).map Dk.t) ∧ Below w1.heap.size w1 wq)) (fun _ si _ => ((m : Int) - intOf si).toNat)
  case atStart => exact ⟨0, by omega, rfl, by rw [List.take_zero, ← HS.out]; exact H0⟩
  case round =>
    clear H0
    obtain ⟨i, hi, rfl, HI⟩ := hrel
    have x1 := Blk.cell (i := 0) (HX.out.on HI.out.2) rfl
    rcases Nat.lt_or_eq_of_le hi with hlt | heq
    · have g1 : decide ((i : Int) < (m : Int)) = true := by simp; omega
      have hiD : i < D.length := by rw [HN.out]; exact hlt
      obtain ⟨b, o, rfl, hb, c0, c1⟩ := HR.out.keep (HI.out.2.mono HB.out.size) i hiD
      have HT : Hid ((D.take (i + 1)).map Dk.t = (D.take i).map Dk.t ++ [D[i].t]) := by
        show _ = _
        rw [List.take_succ_eq_append_getElem hiD, List.map_append]; rfl
      have HLn : Hid (((D.take i).map Dk.t).length ≤ i) := by
        show _ ≤ _
        rw [List.length_map]; exact List.length_take_le _ _
      have hOw : Hid (World.ownsRow wr w1.heap.size 26 1 u3 ((D.take i).map Dk.t).length (((D.take i).map Dk.t).map tkV)) := HI.out.1
      generalize D[i].t = z at *
      clear hb c1 hiD
      go_wp2_with (first | (at_builtin; go_loud (refine wpList_app1 wr rfl (.tmp 13) (.tmp 20) 26 37 _ 1 8 rfl Tryz.underlying37 info_u64 rfl (by decide) w1.heap.size _ _ _ (by rfl) hOw.out [.int .u64 (z : Nat)] rfl (by intro u hu; simp only [List.mem_cons, List.not_mem_nil, or_false] at hu; rcases hu with rfl; rfl) _ rfl (by simp) (by have := HLn.out; omega) (by have := HLn.out; omega) HI.out.2.size ?_); intro v3 w3 h3 h4 h5; refine Hid.out ?_))
      have HI3 : Hid (OwnU w3 w1.heap.size v3 ((D.take (i + 1)).map Dk.t) ∧ Below w1.heap.size w1 w3) := by
        refine ⟨?_, HI.out.2.trans h4⟩
        show World.ownsRow _ _ _ _ _ _ _
        rw [HT.out, List.length_append, List.map_append]
        simpa [tkV] using h3
      clear h3 h4 h5
      unfold Hid
      go_wp2_with fail
      go_roundw
      case rel => exact ⟨i + 1, by omega, by go_num, HI3⟩
      case measure => simp [intOf]; omega
    · have g1 : decide ((i : Int) < (m : Int)) = false := by simp; omega
      have HZ : Hid (OwnU wr w.heap.size u3 (D.map Dk.t) ∧ Below w.heap.size w wr) := by
        have h9 := HI.out
        rw [heq, ← HN.out, List.take_length] at h9
        exact ⟨owns_base h9.1 HB.out.size, HB.out.trans (h9.2.mono HB.out.size)⟩
      go_wp2_with fail
      go_ret
      exact ⟨_, rfl, HZ.out⟩
end Go.Proofs.YtcdamalpecedcaaGreat
