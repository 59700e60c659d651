/- The walk of sorted: the ranges that are not empty, by their beginnings. -/
import Derived.Test.YtjigmijennbolaaDoorWDel2
import Derived.Lib.OwnBridge
namespace Go.Proofs.YtjigmijennbolaaDoor
open Go.Shelf Go.RowKit Go.Lib Go.Sort
set_option maxRecDepth 100000

theorem grow_below {B : Nat} {w0 w : World} (h : RowKit.Below B w0 w) (os : Array Obj) (hB : B ≤ w.heap.size) : RowKit.Below B w0 (grow w os) :=
  ⟨h.os, h.tape, h.output, by have := h.size; simp [grow]; omega, fun k hk => by
    rw [← h.block k hk]
    simp only [grow]
    rw [Array.getElem?_append_left (by omega)]⟩
theorem sw_below [Inhabited Rg] {B : Nat} {w0 w : World} (h : RowKit.Below B w0 w) {g : Nat} (hg : B ≤ g) (hw : g < w.heap.size) (n : Nat) (d : Array Rg) (os : Array Obj) : RowKit.Below B w0 (sortWorldK encR 3 w g 0 n d os) := by
  unfold sortWorldK putRowK
  refine grow_below (below_putRow h hg) os ?_
  simp [putRow, mapBlock, Sort.ahead]
  omega
theorem sw_holds [Inhabited Rg] {w : World} {g n : Nat} {d0 d : Array Rg} (os : Array Obj) (h0 : HoldsK encR 3 w g 0 d0) (hs : d.size = d0.size) (hw : g < w.heap.size) : HoldsK encR 3 (sortWorldK encR 3 w g 0 n d os) g 0 d := by
  unfold sortWorldK
  have h1 : HoldsK encR 3 (Sort.ahead w n) g 0 d0 := h0
  exact holdsK_grow encR 3 _ os g 0 d (by simp [putRowK, putRow, mapBlock, Sort.ahead]; exact hw) (holdsK_putRowK encR 3 (Sort.ahead w n) g 0 d0 d h1 hs)
theorem holds_row [Inhabited Rg] {w : World} {g : Nat} {d : Array Rg} (h : HoldsK encR 3 w g 0 d) (hw : g < w.heap.size) : RowR w w.heap.size (some ⟨g, 0, none⟩) d.toList := by
  intro i hi
  have hi' : i < d.size := by simpa using hi
  have hd : d[i]! = d.toList[i] := by simp [getElem!_pos, hi']
  have hc : ∀ t, t < 3 → w.cell? ⟨g, 0 + (i * 3 + t), none⟩ = some ((encR d[i]!)[t]!) := by
    intro t ht
    have h1 := (h (i * 3 + t) (by rw [size_flatK]; omega)).1
    rw [get_flatK encR 3 d (i * 3 + t) (by omega)] at h1
    have e1 : (i * 3 + t) / 3 = i := by omega
    have e2 : (i * 3 + t) % 3 = t := by omega
    rw [e1, e2] at h1
    exact h1
  have h0 := hc 0 (by decide)
  have h1 := hc 1 (by decide)
  have h2 := hc 2 (by decide)
  rw [hd] at h0 h1 h2
  refine ⟨g, 0, rfl, hw, ?_, ?_, ?_⟩
  · exact h0
  · rw [Nat.add_assoc]; exact h1
  · rw [Nat.add_assoc]; exact h2
theorem sorted_rising [Inhabited Rg] {d : Array Rg} (h : SortedIn (ltOf cfR) 0 d.size d) : Rising d.toList := by
  unfold Rising
  rw [List.pairwise_iff_getElem]
  intro i j hi hj hij
  have hi' : i < d.size := by simpa using hi
  have hj' : j < d.size := by simpa using hj
  have h1 := h i j (Nat.zero_le _) hij hj'
  rw [ltOf_cf] at h1
  have e1 : d[i]! = d.toList[i] := by simp [getElem!_pos, hi']
  have e2 : d[j]! = d.toList[j] := by simp [getElem!_pos, hj']
  rw [e1, e2] at h1
  exact h1
theorem perm_mem [Inhabited Rg] {d d' : Array Rg} (h : PermIn 0 d.size d d') (r : Rg) : r ∈ d'.toList ↔ r ∈ d.toList := by
  have h1 := h.2.2
  have e1 : (d.extract 0 d.size).toList = d.toList := by simp
  have e2 : (d'.extract 0 d.size).toList = d'.toList := by rw [← h.1]; simp
  rw [e1, e2] at h1
  exact h1.mem_iff

set_option maxHeartbeats 2000000 in
theorem sorted_any (L : List Rg) (a : Addr) (c : Nat) (w : World) (hR : RowR w w.heap.size (some a) L) (hlen : L.length ≤ 3518437208784) (hc : L.length ≤ c) :
    Calls Tryd.prog 18 #[.slice (some a) L.length c] w fun e w' => ∃ (p : Option Addr) (c' : Nat) (R : List Rg), e = .returned (.slice p R.length c') ∧ RowR w' w'.heap.size p R ∧ Rising R ∧ (∀ r, r ∈ R ↔ r ∈ keepL L) ∧ R.length ≤ L.length ∧ RowKit.Below w.heap.size w w' := by
  haveI : Inhabited Rg := ⟨⟨⟨#[]⟩, ⟨#[]⟩, false⟩⟩
  have C1 : Hid (Calls _ _ _ _ _) := clone_any L a c w hR hlen hc
  clear hR
  go_enter Tryd.func18, Tryd.ntmps18
  go_wp2_with fail
  refine C1.out.mono ?_
  rintro e w1 ⟨v, rfl, hO, hnn, hb1⟩
  have HB1 : Hid (RowKit.Below _ _ _) := hb1
  have hz1 := hb1.size
  clear hb1 C1
  rcases hO.form with ⟨rfl, rfl⟩ | ⟨g, cap, rfl, hg1, hg2⟩
  · exact absurd rfl hnn
  · clear hnn
    have C2 : Hid (∀ x, x = w1 → Calls _ _ _ _ _) := fun x hx => by subst hx; exact deleteF_any L g cap w.heap.size x hO hlen
    have hkl : (keepL L).length ≤ L.length := by unfold keepL; exact List.length_filter_le _ _
    clear hO
    go_wp2_with fail
    refine (C2.out _ rfl).mono ?_
    rintro e w2 ⟨rfl, hO2, hb2⟩
    have hz2 := hb2.size
    have hg3 : g < w2.heap.size := hO2.cap.2.2.2
    have hs0 : (keepL L).toArray.size = (keepL L).length := by simp
    have C3 : Hid (∀ x, x = w2 → Calls _ _ _ _ _) := fun x hx => by subst hx; exact sortR_any g 0 cap (keepL L).toArray x hO2.holds hg3 (by rw [hs0]; omega)
    rw [hs0] at C3
    have HO2 : Hid (HoldsK encR 3 w2 g 0 (keepL L).toArray ∧ RowKit.Below w.heap.size w w2) := ⟨hO2.holds, HB1.out.trans hb2⟩
    clear hO2 hb2
    go_wp2_with fail
    refine (C3.out _ rfl).mono ?_
    rintro e w3 ⟨rfl, d', n, os, hp, hs, rfl⟩
    have hds : d'.size = (keepL L).length := by rw [hp.1]; simp
    have hdl : d'.toList.length = (keepL L).length := hds
    have hH := sw_holds (n := n) os HO2.out.1 (d := d') (by rw [hds]; simp) hg3
    have hB := sw_below HO2.out.2 hg1 hg3 n d' os
    have hsz : g < (sortWorldK encR 3 w2 g 0 n d' os).heap.size := by simp [sortWorldK, putRowK, putRow, mapBlock, Sort.ahead, grow]; omega
    have FIN : Hid (RowR (sortWorldK encR 3 w2 g 0 n d' os) (sortWorldK encR 3 w2 g 0 n d' os).heap.size (some ⟨g, 0, none⟩) d'.toList ∧ Rising d'.toList ∧ (∀ r, r ∈ d'.toList ↔ r ∈ keepL L) ∧ RowKit.Below w.heap.size w (sortWorldK encR 3 w2 g 0 n d' os)) :=
      ⟨holds_row hH hsz, sorted_rising (by rw [hds]; simpa using hs), fun r => by have h := perm_mem (d := (keepL L).toArray) (d' := d') (by simpa using hp) r; simpa using h, hB⟩
    clear hp hs hH hB
    generalize sortWorldK encR 3 w2 g 0 n d' os = w4 at *
    go_wp2
    go_ret
    exact ⟨some ⟨g, 0, none⟩, cap, d'.toList, by rw [hdl]; rfl, FIN.out.1, FIN.out.2.1, FIN.out.2.2.1, by rw [hdl]; exact hkl, FIN.out.2.2.2⟩
end Go.Proofs.YtjigmijennbolaaDoor
