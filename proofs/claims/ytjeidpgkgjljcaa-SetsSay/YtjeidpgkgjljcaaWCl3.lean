/- A list of points in order, each once: inOrder. -/
import Derived.Test.YtjeidpgkgjljcaaWCp
namespace Go.Proofs.Ytjeidpgkgjljcaa
open Go.Shelf Go.RowKit Go.Lib Go.Sort
set_option maxRecDepth 100000

theorem ddN_len (L : List Pt) : ∀ p, (ddN L p).length ≤ p
  | 0 => Nat.le_refl _
  | p + 1 => by
    have ih := ddN_len L p
    unfold ddN
    split
    · simp; omega
    · omega
theorem swP_below [Inhabited Pt] {B : Nat} {w0 w : World} (h : RowKit.Below B w0 w) {g : Nat} (hg : B ≤ g) (hw : g < w.heap.size) (n : Nat) (d : Array Pt) (os : Array Obj) : RowKit.Below B w0 (sortWorldK encP 3 w g 0 n d os) := by
  unfold sortWorldK putRowK
  refine grow_below (below_putRow h hg) os ?_
  simp [putRow, mapBlock, Sort.ahead]
  omega
theorem perm_memP [Inhabited Pt] {d d' : Array Pt} (h : PermIn 0 d.size d d') (r : Pt) : r ∈ d'.toList ↔ r ∈ d.toList := by
  have h1 := h.2.2
  have e1 : (d.extract 0 d.size).toList = d.toList := by simp
  have e2 : (d'.extract 0 d.size).toList = d'.toList := by rw [← h.1]; simp
  rw [e1, e2] at h1
  exact h1.mem_iff
theorem sorted_upP [Inhabited Pt] {d : Array Pt} (h : SortedIn (ltOf cmpP) 0 d.size d) : UpP d.toList := by
  unfold UpP
  rw [List.pairwise_iff_getElem]
  intro i j hi hj hij
  have hi' : i < d.size := by simpa using hi
  have hj' : j < d.size := by simpa using hj
  have h1 := h i j (Nat.zero_le _) hij hj'
  rw [ltOf_cmp] at h1
  have e1 : d[i]! = d.toList[i] := by simp [getElem!_pos, hi']
  have e2 : d[j]! = d.toList[j] := by simp [getElem!_pos, hj']
  rw [e1, e2] at h1
  exact h1
theorem own_sorted [Inhabited Pt] {w : World} {B g n cap : Nat} {d : Array Pt} {L : List Pt} (os : Array Obj) (h : OwnP w B (.slice (some ⟨g, 0, none⟩) L.length cap) L) (hs : d.size = L.length) : OwnP (sortWorldK encP 3 w g 0 n d os) B (.slice (some ⟨g, 0, none⟩) d.toList.length cap) d.toList := by
  rcases h.2 with ⟨h1, _⟩ | ⟨g', cap', cur, e, hb, hg, hn1, hm, hsz, ht⟩
  · cases h1
  · injection e with e1 e2 e3
    injection e1 with e1
    injection e1 with e1
    subst e1 e3
    have hgl : g < w.heap.size := (Array.getElem?_eq_some_iff.1 hg).1
    have hdl : d.toList.length = d.size := by simp
    have hF : (flatK encP 3 d).size = d.size * 3 := size_flatK encP 3 d
    refine ⟨by rw [pcells_len], .inr ⟨g, cap, putCells id 0 (flatK encP 3 d) cur, rfl, hb, ?_, by rw [hdl, hs]; exact hn1, hm, by simp [putCells]; exact hsz, ?_⟩⟩
    · simp only [sortWorldK, grow, putRowK, putRow, mapBlock, Sort.ahead]
      rw [Array.getElem?_append_left (by simpa using hgl), Array.getElem?_modify, if_pos rfl, hg]
      rfl
    · rw [hdl]
      apply List.ext_getElem?
      intro j
      rw [List.getElem?_take]
      split
      · rename_i hj
        have hjc : j < cur.size := by rw [hsz]; omega
        have hjp : j < (pcells d.toList).length := by rw [pcells_len, hdl]; exact hj
        have h3 := pcells_get d.toList j (by rw [hdl]; exact hj)
        have hd : j / 3 < d.size := by omega
        have hg3 := get_flatK encP 3 d j hj
        have e5 : d[j / 3]! = d.toList[j / 3]'(by rw [hdl]; exact hd) := by simp [getElem!_pos, hd]
        rw [h3, Array.getElem?_toList, putCells, Array.getElem?_mapIdx, Array.getElem?_eq_getElem hjc, Option.map_some, if_pos ⟨Nat.zero_le _, by rw [hF]; omega⟩, Nat.sub_zero, hg3, e5]
        have hm3 : j % 3 < 3 := by omega
        have hl3 : (encP (d.toList[j / 3]'(by rw [hdl]; exact hd))).length = 3 := rfl
        have h9 : j % 3 < (encP (d.toList[j / 3]'(by rw [hdl]; exact hd))).length := by rw [hl3]; exact hm3
        rw [List.getElem?_eq_getElem h9]
        exact congrArg some (getElem!_pos (encP (d.toList[j / 3]'(by rw [hdl]; exact hd))) (j % 3) h9)
      · rename_i hj
        rw [List.getElem?_eq_none (by rw [pcells_len, hdl]; omega)]
theorem RisP.up {L : List Pt} (h : RisP L) : UpP L := List.Pairwise.imp (fun h => ltP_asymm h) h
theorem rowP_len {w : World} {p : Option Addr} {L : List Pt} (h : RowP w w.heap.size p L) (hp : p = none) : L = [] := by
  match L, h with
  | [], _ => rfl
  | x :: L, h =>
    obtain ⟨b, o, e, _⟩ := h 0 (by simp)
    rw [hp] at e
    cases e

set_option maxHeartbeats 4000000 in
/-- inOrder of any list -/
theorem inOrder_some (L : List Pt) (a : Addr) (c : Nat) (w : World) (hR : RowP w w.heap.size (some a) L) (hlen : L.length ≤ 4398046511104) (hc : L.length ≤ c) :
    Calls Try.prog 43 #[.slice (some a) L.length c] w fun e w' => ∃ (v : Value) (R : List Pt), e = .returned v ∧ OwnP w' w.heap.size v R ∧ RisP R ∧ (∀ x, x ∈ R ↔ x ∈ L) ∧ R.length ≤ L.length ∧ RowKit.Below w.heap.size w w' := by
  haveI : Inhabited Pt := ⟨⟨0, 0, ⟨#[]⟩⟩⟩
  have C1 : Hid (Calls _ _ _ _ _) := cloneP_any L a c w hR hlen hc
  clear hR
  go_enter Try.func43, Try.ntmps43
  go_wp2_with fail
  refine C1.out.mono ?_
  rintro e w1 ⟨v, rfl, hO, hnn, hb1⟩
  have HB1 : Hid (RowKit.Below _ _ _) := hb1
  have hz1 := hb1.size
  clear hb1 C1
  rcases hO.form with ⟨rfl, rfl⟩ | ⟨g, cap, rfl, hg1, hg2⟩
  · exact absurd rfl hnn
  · clear hnn
    have hs0 : L.toArray.size = L.length := by simp
    have C3 : Hid (∀ x, x = w1 → Calls _ _ _ _ _) := fun x hx => by subst hx; exact sortP_any g 0 cap L.toArray x hO.holds hg2 (by rw [hs0]; omega)
    rw [hs0] at C3
    have HO : Hid (OwnP w1 w.heap.size (.slice (some ⟨g, 0, none⟩) L.length cap) L) := hO
    clear hO
    go_wp2_with fail
    refine (C3.out _ rfl).mono ?_
    rintro e w3 ⟨rfl, d', n, os, hp, hs, rfl⟩
    have hds : d'.size = L.length := by rw [hp.1]; simp
    have hdl : d'.toList.length = L.length := by simp [hds]
    have hO3 := own_sorted (n := n) os HO.out hds
    have hB := swP_below HB1.out hg1 hg2 n d' os
    have hU : UpP d'.toList := sorted_upP (by rw [hds]; simpa using hs)
    have hMm : ∀ r, r ∈ d'.toList ↔ r ∈ L := fun r => by have h := perm_memP (d := L.toArray) (d' := d') (by simpa using hp) r; simpa using h
    clear hp hs C3
    generalize sortWorldK encP 3 w1 g 0 n d' os = w4 at *
    generalize d'.toList = D at *
    have C4 : Hid (Calls _ _ _ _ _) := compactP_any D g cap w.heap.size w4 hO3 (by omega)
    rw [hdl] at C4
    have hrs := ddN_ris D hU D.length (Nat.le_refl _)
    have hmm := ddN_mem D D.length (Nat.le_refl _)
    have hll : (ddN D D.length).length ≤ L.length := by
      have h9 := ddN_len D D.length
      omega
    rw [hdl] at hrs hmm hll
    have FIN : Hid (RisP (ddN D L.length) ∧ (∀ x, x ∈ ddN D L.length ↔ x ∈ L) ∧ (ddN D L.length).length ≤ L.length ∧ RowKit.Below w.heap.size w w4) := ⟨hrs, fun x => by rw [hmm x, ← hdl, List.take_of_length_le (Nat.le_refl _)]; exact hMm x, hll, hB⟩
    clear hrs hmm hll hB hU hMm hO3 hdl hds HO
    go_wp2_with fail
    refine C4.out.mono ?_
    rintro e w5 ⟨rfl, hO5, hb5⟩
    have HO5 : Hid (OwnP _ _ _ _) := hO5
    have HB5 : Hid (RowKit.Below w.heap.size w w5) := FIN.out.2.2.2.trans hb5
    clear hO5 hb5 C4
    go_wp2_with fail
    go_ret
    exact ⟨_, _, rfl, HO5.out, FIN.out.1, FIN.out.2.1, FIN.out.2.2.1, HB5.out⟩
end Go.Proofs.Ytjeidpgkgjljcaa
