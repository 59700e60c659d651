/- The walk of sorted: the ranges that are not empty, by their beginnings. Towards the walk of Union. Plain mathematics: one range more is brought to its place among those in order, by swaps. -/
import Derived.Lib.OwnBridge
import Derived.Test.YtcjpindbplppgaaDoorGFrameRs
namespace Go.Proofs.YtcjpindbplppgaaDoor
open Go.Shelf Go.RowKit Go.Lib Go.Sort
set_option maxRecDepth 100000

theorem grow_below {B : Nat} {w0 w : World} (h : RowKit.Below B w0 w) (os : Array Obj) (hB : B ≤ w.heap.size) : RowKit.Below B w0 (grow w os) :=
  ⟨h.os, h.tape, h.output, by have := h.size; simp [grow]; omega, fun k hk => by
    rw [← h.block k hk]
    simp only [grow]
    rw [Array.getElem?_append_left (by omega)]⟩
theorem sw_below [Inhabited Rg] {B : Nat} {w0 w : World} (h : RowKit.Below B w0 w) {g : Nat} (hg : B ≤ g) (hw : g < w.heap.size) (n : Nat) (d : Array Rg) (os : Array Obj) : RowKit.Below B w0 (sortWorldK encR 3 w g 0 n d os) := by
  unfold sortWorldK putRowK
  refine grow_below (below_putRow h hg) os ?_
  simp [putRow, mapBlock, Sort.ahead]
  omega
theorem sw_holds [Inhabited Rg] {w : World} {g n : Nat} {d0 d : Array Rg} (os : Array Obj) (h0 : HoldsK encR 3 w g 0 d0) (hs : d.size = d0.size) (hw : g < w.heap.size) : HoldsK encR 3 (sortWorldK encR 3 w g 0 n d os) g 0 d := by
  unfold sortWorldK
  have h1 : HoldsK encR 3 (Sort.ahead w n) g 0 d0 := h0
  exact holdsK_grow encR 3 _ os g 0 d (by simp [putRowK, putRow, mapBlock, Sort.ahead]; exact hw) (holdsK_putRowK encR 3 (Sort.ahead w n) g 0 d0 d h1 hs)
theorem holds_row [Inhabited Rg] {w : World} {g : Nat} {d : Array Rg} (h : HoldsK encR 3 w g 0 d) (hw : g < w.heap.size) : RowR w w.heap.size (some ⟨g, 0, none⟩) d.toList := by
  intro i hi
  have hi' : i < d.size := by simpa using hi
  have hd : d[i]! = d.toList[i] := by simp [getElem!_pos, hi']
  have hc : ∀ t, t < 3 → w.cell? ⟨g, 0 + (i * 3 + t), none⟩ = some ((encR d[i]!)[t]!) := by
    intro t ht
    have h1 := (h (i * 3 + t) (by rw [size_flatK]; omega)).1
    rw [get_flatK encR 3 d (i * 3 + t) (by omega)] at h1
    have e1 : (i * 3 + t) / 3 = i := by omega
    have e2 : (i * 3 + t) % 3 = t := by omega
    rw [e1, e2] at h1
    exact h1
  have h0 := hc 0 (by decide)
  have h1 := hc 1 (by decide)
  have h2 := hc 2 (by decide)
  rw [hd] at h0 h1 h2
  refine ⟨g, 0, rfl, hw, ?_, ?_, ?_⟩
  · exact h0
  · rw [Nat.add_assoc]; exact h1
  · rw [Nat.add_assoc]; exact h2
theorem sorted_rising [Inhabited Rg] {d : Array Rg} (h : SortedIn (ltOf cfR) 0 d.size d) : Rising d.toList := by
  unfold Rising
  rw [List.pairwise_iff_getElem]
  intro i j hi hj hij
  have hi' : i < d.size := by simpa using hi
  have hj' : j < d.size := by simpa using hj
  have h1 := h i j (Nat.zero_le _) hij hj'
  rw [ltOf_cf] at h1
  have e1 : d[i]! = d.toList[i] := by simp [getElem!_pos, hi']
  have e2 : d[j]! = d.toList[j] := by simp [getElem!_pos, hj']
  rw [e1, e2] at h1
  exact h1
theorem perm_mem [Inhabited Rg] {d d' : Array Rg} (h : PermIn 0 d.size d d') (r : Rg) : r ∈ d'.toList ↔ r ∈ d.toList := by
  have h1 := h.2.2
  have e1 : (d.extract 0 d.size).toList = d.toList := by simp
  have e2 : (d'.extract 0 d.size).toList = d'.toList := by rw [← h.1]; simp
  rw [e1, e2] at h1
  exact h1.mem_iff

set_option maxHeartbeats 2000000 in
theorem sorted_any (L : List Rg) (a : Addr) (c : Nat) (w : World) (hR : RowR w w.heap.size (some a) L) (hlen : L.length ≤ 3518437208784) (hc : L.length ≤ c) :
    Calls Tryd.prog 14 #[.slice (some a) L.length c] w fun e w' => ∃ (p : Option Addr) (c' : Nat) (R : List Rg), e = .returned (.slice p R.length c') ∧ RowR w' w'.heap.size p R ∧ Rising R ∧ (∀ r, r ∈ R ↔ r ∈ keepL L) ∧ R.length ≤ L.length ∧ RowKit.Below w.heap.size w w' := by
  haveI : Inhabited Rg := ⟨⟨⟨#[]⟩, ⟨#[]⟩, false⟩⟩
  have C1 : Hid (Calls _ _ _ _ _) := clone_any L a c w hR hlen hc
  clear hR
  go_enter Tryd.func14, Tryd.ntmps14
  go_wp2_with fail
  refine C1.out.mono ?_
  rintro e w1 ⟨v, rfl, hO, hnn, hb1⟩
  have HB1 : Hid (RowKit.Below _ _ _) := hb1
  have hz1 := hb1.size
  clear hb1 C1
  rcases hO.form with ⟨rfl, rfl⟩ | ⟨g, cap, rfl, hg1, hg2⟩
  · exact absurd rfl hnn
  · clear hnn
    have C2 : Hid (∀ x, x = w1 → Calls _ _ _ _ _) := fun x hx => by subst hx; exact deleteF_any L g cap w.heap.size x hO hlen
    have hkl : (keepL L).length ≤ L.length := by unfold keepL; exact List.length_filter_le _ _
    clear hO
    go_wp2_with fail
    refine (C2.out _ rfl).mono ?_
    rintro e w2 ⟨rfl, hO2, hb2⟩
    have hz2 := hb2.size
    have hg3 : g < w2.heap.size := hO2.cap.2.2.2
    have hs0 : (keepL L).toArray.size = (keepL L).length := by simp
    have C3 : Hid (∀ x, x = w2 → Calls _ _ _ _ _) := fun x hx => by subst hx; exact sortR_any g 0 cap (keepL L).toArray x hO2.holds hg3 (by rw [hs0]; omega)
    rw [hs0] at C3
    have HO2 : Hid (HoldsK encR 3 w2 g 0 (keepL L).toArray ∧ RowKit.Below w.heap.size w w2) := ⟨hO2.holds, HB1.out.trans hb2⟩
    clear hO2 hb2
    go_wp2_with fail
    refine (C3.out _ rfl).mono ?_
    rintro e w3 ⟨rfl, d', n, os, hp, hs, rfl⟩
    have hds : d'.size = (keepL L).length := by rw [hp.1]; simp
    have hdl : d'.toList.length = (keepL L).length := hds
    have hH := sw_holds (n := n) os HO2.out.1 (d := d') (by rw [hds]; simp) hg3
    have hB := sw_below HO2.out.2 hg1 hg3 n d' os
    have hsz : g < (sortWorldK encR 3 w2 g 0 n d' os).heap.size := by simp [sortWorldK, putRowK, putRow, mapBlock, Sort.ahead, grow]; omega
    have FIN : Hid (RowR (sortWorldK encR 3 w2 g 0 n d' os) (sortWorldK encR 3 w2 g 0 n d' os).heap.size (some ⟨g, 0, none⟩) d'.toList ∧ Rising d'.toList ∧ (∀ r, r ∈ d'.toList ↔ r ∈ keepL L) ∧ RowKit.Below w.heap.size w (sortWorldK encR 3 w2 g 0 n d' os)) :=
      ⟨holds_row hH hsz, sorted_rising (by rw [hds]; simpa using hs), fun r => by have h := perm_mem (d := (keepL L).toArray) (d' := d') (by simpa using hp) r; simpa using h, hB⟩
    clear hp hs hH hB
    generalize sortWorldK encR 3 w2 g 0 n d' os = w4 at *
    go_wp2
    go_ret
    exact ⟨some ⟨g, 0, none⟩, cap, d'.toList, by rw [hdl]; rfl, FIN.out.1, FIN.out.2.1, FIN.out.2.2.1, by rw [hdl]; exact hkl, FIN.out.2.2.2⟩

end Go.Proofs.YtcjpindbplppgaaDoor

namespace Go.Proofs.YtcjpindbplppgaaDoor
open Go.RowKit
set_option maxRecDepth 100000

theorem OwnR.mono {w : World} {B C : Nat} {v : Value} {L : List Rg} (h : OwnR w B v L) (hb : C ≤ B) : OwnR w C v L := by
  refine ⟨h.1, ?_⟩
  rcases h.2 with h1 | ⟨g, cap, cur, e, hb', r⟩
  · exact .inl h1
  · exact .inr ⟨g, cap, cur, e, Nat.le_trans hb hb', r⟩
theorem foldU_snoc (R : List Rg) (j : Nat) (hj : j < R.length) : (R.take (j + 1)).foldl stepU [] = stepU ((R.take j).foldl stepU []) R[j] := by
  rw [← List.take_append_getElem hj, List.foldl_append]; rfl
theorem stepU_len (U : List Rg) (r : Rg) : (stepU U r).length ≤ U.length + 1 := by
  rcases List.eq_nil_or_concat U with rfl | ⟨V, a, rfl⟩
  · simp [stepU_nil]
  · simp only [List.concat_eq_append]; rw [stepU_snoc]; split <;> simp
theorem foldU_len : ∀ (R U : List Rg), (R.foldl stepU U).length ≤ U.length + R.length
  | [], U => by simp
  | r :: R, U => by
    have h1 := foldU_len R (stepU U r)
    have h2 := stepU_len U r
    simp only [List.foldl_cons, List.length_cons]
    omega

end Go.Proofs.YtcjpindbplppgaaDoor

namespace Go.Proofs.YtcjpindbplppgaaDoor
set_option maxRecDepth 100000

/-- T is S with x at the place k, and what stands behind x begins behind it -/
def InsAt (S : List Rg) (x : Rg) (k : Nat) (T : List Rg) : Prop := ∃ A C, S = A ++ C ∧ A.length = k ∧ T = A ++ x :: C ∧ ∀ c ∈ C, ltB x.lo c.lo = true
theorem InsAt.start (S : List Rg) (x : Rg) : InsAt S x S.length (S ++ [x]) := ⟨S, [], by simp, rfl, rfl, fun _ h => by cases h⟩
theorem InsAt.len {S : List Rg} {x : Rg} {k : Nat} {T : List Rg} (h : InsAt S x k T) : T.length = S.length + 1 ∧ k ≤ S.length := by
  obtain ⟨A, C, rfl, rfl, rfl, _⟩ := h
  simp; omega
theorem InsAt.at {S : List Rg} {x : Rg} {k : Nat} {T : List Rg} (h : InsAt S x k T) (hk : k < T.length) : T[k] = x := by
  obtain ⟨A, C, rfl, rfl, rfl, _⟩ := h
  simp
theorem InsAt.swap {S : List Rg} {x : Rg} {k : Nat} {T : List Rg} (h : InsAt S x (k + 1) T) (hk : k + 1 < T.length) (hlt : ltB x.lo (T[k]'(by omega)).lo = true) : InsAt S x k ((T.set (k + 1) (T[k]'(by omega))).set k x) := by
  obtain ⟨A, C, rfl, hA, rfl, hC⟩ := h
  rcases List.eq_nil_or_concat A with rfl | ⟨A', a, rfl⟩
  · simp at hA
  · simp only [List.concat_eq_append, List.length_append, List.length_singleton, Nat.add_right_cancel_iff] at *
    subst hA
    have e : (A' ++ [a] ++ x :: C)[A'.length]'(by simp) = a := by simp
    rw [e] at hlt ⊢
    refine ⟨A', a :: C, by simp, rfl, ?_, ?_⟩
    · simp
    · intro c hc
      rcases List.mem_cons.1 hc with rfl | hc
      · exact hlt
      · exact hC c hc
theorem InsAt.done {S : List Rg} {x : Rg} {k : Nat} {T : List Rg} (h : InsAt S x k T) (hS : Rising S) (he : k = 0 ∨ ∃ a, T[k - 1]? = some a ∧ ltB x.lo a.lo = false) : Rising T ∧ ∀ r, r ∈ T ↔ (r ∈ S ∨ r = x) := by
  obtain ⟨A, C, rfl, rfl, rfl, hC⟩ := h
  obtain ⟨hA, hC2, hAC⟩ := List.pairwise_append.1 hS
  refine ⟨?_, fun r => ?_⟩
  · refine List.pairwise_append.2 ⟨hA, List.pairwise_cons.2 ⟨fun c hc => le_of_lt (hC c hc), hC2⟩, ?_⟩
    intro p hp q hq
    rcases List.mem_cons.1 hq with rfl | hq
    · rcases List.eq_nil_or_concat A with rfl | ⟨A', a, rfl⟩
      · cases hp
      · simp only [List.concat_eq_append] at *
        have hle : ltB q.lo a.lo = false := by
          rcases he with he | ⟨b, hb, hlt⟩
          · simp at he
          · have : b = a := by simpa using hb.symm
            rw [this] at hlt; exact hlt
        rcases List.mem_append.1 hp with h1 | h1
        · exact le_trans' ((List.pairwise_append.1 hA).2.2 p h1 a (by simp)) hle
        · rw [List.mem_singleton.1 h1]; exact hle
    · exact hAC p hp q hq
  · simp only [List.mem_append, List.mem_cons]
    constructor
    · rintro (h | h | h)
      · exact .inl (.inl h)
      · exact .inr h
      · exact .inl (.inr h)
    · rintro ((h | h) | h)
      · exact .inl h
      · exact .inr (.inr h)
      · exact .inr (.inl h)
theorem foldV_snoc (R : List Rg) (j : Nat) (hj : j < R.length) : (R.take (j + 1)).foldl stepV [] = stepV ((R.take j).foldl stepV []) R[j] := by
  rw [← List.take_append_getElem hj, List.foldl_append]; rfl
theorem stepV_len (U : List Rg) (r : Rg) : (stepV U r).length ≤ U.length + 1 := by
  have h := stepU_len (U.map Rg.pl) r
  rw [← stepV_pl] at h
  simpa using h
theorem foldV_len (R : List Rg) : (R.foldl stepV []).length ≤ R.length := by
  have h := foldU_len R []
  have e := foldV_pl R []
  simp only [List.map_nil] at e
  rw [← e] at h
  simpa using h
theorem stepV_snoc (U : List Rg) (a r : Rg) : stepV (U ++ [a]) r = if touchB a r then (if r.op || (!a.op && ltB a.hi r.hi) then U ++ [⟨a.lo, r.hi, r.op⟩] else U ++ [a]) else U ++ [a] ++ [r] := by
  unfold stepV
  simp

end Go.Proofs.YtcjpindbplppgaaDoor
