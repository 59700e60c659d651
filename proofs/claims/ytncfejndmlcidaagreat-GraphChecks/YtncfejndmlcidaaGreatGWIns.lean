/- slices.Insert of one text, or one number, into a row of one's own; slices.BinarySearch of texts and numbers that rise. -/
import Derived.Shelf.Spec.SlicesInsertGrow
import Derived.Shelf.Spec.SearchS
import Derived.Test.YtncfejndmlcidaaGreatGWGr2
import Derived.Test.YtncfejndmlcidaaGreatGWShG
namespace Go.Proofs.YtncfejndmlcidaaGreat
open Go.RowKit
set_option maxRecDepth 100000

/-- what cells hold behind a run of stores -/
theorem blk_cells (g : Nat) (T : TypeId) : ∀ (vs : List Value) (o : Nat) (w : World) (cur : Array Value), Blk w g cur T → ∃ cur', Blk (w.setCells g o vs) g cur' T ∧ cur'.size = cur.size ∧ ∀ j, cur'[j]? = if o ≤ j ∧ j < o + vs.length ∧ j < cur.size then vs[j - o]? else cur[j]?
  | [], o, w, cur, h => ⟨cur, h, rfl, fun j => by rw [if_neg (by simp; omega)]⟩
  | v :: vs, o, w, cur, h => by
    obtain ⟨cur', h1, h2, h3⟩ := blk_cells g T vs (o + 1) (w.setCell ⟨g, o, none⟩ v) (cur.setIfInBounds o v) (h.set o v)
    refine ⟨cur', h1, by rw [h2]; simp, fun j => ?_⟩
    rw [h3 j]
    simp only [Array.size_setIfInBounds, List.length_cons, Array.getElem?_setIfInBounds]
    by_cases hj : o + 1 ≤ j ∧ j < o + 1 + vs.length ∧ j < cur.size
    · rw [if_pos hj, if_pos (by omega)]
      rw [show j - o = (j - (o + 1)) + 1 by omega, List.getElem?_cons_succ]
    · rw [if_neg hj]
      by_cases hj2 : o = j
      · subst hj2
        by_cases hs : o < cur.size
        · rw [if_pos rfl, if_pos hs, if_pos (by omega), Nat.sub_self]
          rfl
        · rw [if_pos rfl, if_neg hs, if_neg (by omega), Array.getElem?_eq_none (by omega)]
      · rw [if_neg hj2, if_neg (by omega)]
theorem setCells_frm (g : Nat) (vs : List Value) : ∀ (o : Nat) (w : World), Frm w (w.setCells g o vs) (one1 g) := by
  induction vs with
  | nil => intro o w; exact Frm.refl _ _
  | cons v vs ih =>
    intro o w
    exact Frm.trans (F := one1 g) (frm_set w g o v (F := one1 g) (.inl rfl)) (ih (o + 1) (w.setCell ⟨g, o, none⟩ v)) (fun k hk => .inl hk)
theorem setCells_size (g : Nat) (vs : List Value) : ∀ (o : Nat) (w : World), (w.setCells g o vs).heap.size = w.heap.size := by
  induction vs with
  | nil => intro o w; rfl
  | cons v vs ih => intro o w; show ((w.setCell ⟨g, o, none⟩ v).setCells g (o + 1) vs).heap.size = _; rw [ih, size_set]
section
variable {α : Type} {f : α → Value}
theorem flat_one (L : List α) : L.flatMap (fun x => [f x]) = L.map f := by
  induction L with
  | nil => rfl
  | cons x L ih => rw [List.flatMap_cons, ih]; rfl
theorem own1_of {T : TypeId} {w : World} {B g cap : Nat} {cur : Array Value} {L : List α} (h : Blk w g cur T) (hB : B ≤ g) (hl : L.length ≤ cap) (hc : cap ≤ maxLen) (hs : cur.size = cap) (hj : ∀ j (h : j < L.length), cur[j]? = some (f L[j])) : OwnG (fun x => [f x]) 1 T w B (.slice (some ⟨g, 0, none⟩) L.length cap) L := by
  refine ⟨by rw [flat_one, List.length_map, Nat.mul_one], .inr ⟨g, cap, cur, rfl, hB, h, hl, hc, by omega, ?_⟩⟩
  rw [flat_one, Nat.mul_one]
  apply List.ext_getElem?
  intro j
  by_cases hjl : j < L.length
  · rw [List.getElem?_take_of_lt hjl, Array.getElem?_toList, hj j hjl, List.getElem?_map, List.getElem?_eq_getElem hjl]
    rfl
  · rw [List.getElem?_eq_none (by simp; omega), List.getElem?_eq_none (by simp; omega)]
theorem insL_at (L : List α) (i : Nat) (x : α) (hi : i ≤ L.length) (j : Nat) : (L.take i ++ x :: L.drop i)[j]? = if j < i then L[j]? else if j = i then some x else L[j - 1]? := by
  rw [List.getElem?_append, List.length_take, Nat.min_eq_left hi]
  by_cases h1 : j < i
  · rw [if_pos h1, if_pos h1, List.getElem?_take_of_lt h1]
  · rw [if_neg h1, if_neg h1]
    by_cases h2 : j = i
    · subst h2
      rw [if_pos rfl, Nat.sub_self]
      rfl
    · rw [if_neg h2, show j - i = (j - i - 1) + 1 by omega, List.getElem?_cons_succ, List.getElem?_drop, show i + (j - i - 1) = j - 1 by omega]
theorem own1_at {T : TypeId} {w : World} {B g cap : Nat} {L : List α} (h : OwnG (fun x => [f x]) 1 T w B (.slice (some ⟨g, 0, none⟩) L.length cap) L) : ∃ cur, Blk w g cur T ∧ B ≤ g ∧ L.length ≤ cap ∧ cap ≤ maxLen ∧ cur.size = cap ∧ ∀ j (h : j < L.length), cur[j]? = some (f L[j]) := by
  rcases h.form with ⟨h1, h2⟩ | ⟨g', cap', cur, e, hb, hg, h3, h4, h5, h6⟩
  · cases h1
  · cases e
    refine ⟨cur, hg, hb, h3, h4, by omega, fun j hj => ?_⟩
    have h7 := congrArg (fun l => l[j]?) h6
    rw [Nat.mul_one, List.getElem?_take_of_lt hj, Array.getElem?_toList, flat_one, List.getElem?_map, List.getElem?_eq_getElem hj] at h7
    exact h7
end

theorem Blk.drew {w : World} {g : Nat} {cs : Array Value} {T : TypeId} (h : Blk w g cs T) : Blk w.drew g cs T := h
abbrev natV (n : Nat) : Value := .int .i64 (n : Nat)
def encN (n : Nat) : List Value := [natV n]
theorem zero_size (zs : Array Value) (n : Nat) : (Builtin.zeroCells zs n).size = n * zs.size := by simp [Builtin.zeroCells]
theorem shape_blk {w : World} {g n : Nat} {cs : Array Value} {T : TypeId} (h : Blk w g cs T) (hn : cs.size = n) : w.shape? g = some (T, n) := by
  unfold Blk at h
  simp [World.shape?, h, hn]
set_option maxHeartbeats 4000000 in
theorem insertS_any (B : Nat) (v : Value) (L : List ByteArray) (i : Nat) (x : ByteArray) (vb : Nat) (w : World) (hO : OwnG encX 1 9 w B v L) (hi : i ≤ L.length) (hB : B ≤ w.heap.size) (hl : L.length ≤ 4398046511104) (hv : Blk w vb #[.string x] 9) (hne : v.ownBlock ≠ some vb) :
    Calls Tryz.prog 101 #[v, .int .i64 (i : Nat), .slice (some ⟨vb, 0, none⟩) 1 1] w fun e w' => ∃ v', e = .returned v' ∧ OwnG encX 1 9 w' B v' (L.take i ++ x :: L.drop i) ∧ Frm w w' (fun k => v.ownBlock = some k) ∧ (v'.ownBlock = v.ownBlock ∨ ∃ g, v'.ownBlock = some g ∧ w.heap.size ≤ g) := by
  have hvs : ∀ j u, ([.string x] : List Value)[j]? = some u → w.cell? ⟨vb, 0 + j, none⟩ = some u := fun j u hj => by
    have : j = 0 := by have := (List.getElem?_eq_some_iff.1 hj).1; simp at this; omega
    subst this
    cases hj
    exact hv.cell rfl
  have h1v : ∀ u ∈ ([.string x] : List Value), u.oneCell' = true := fun u hu => by rw [List.mem_singleton] at hu; rw [hu]; rfl
  have hz1 : (.string ⟨#[]⟩ : Value).cells.size = 1 := rfl
  have hlen : (L.take i ++ x :: L.drop i).length = L.length + 1 := by simp; omega
  have hbig0 : L.length + 1 ≤ maxLen := by unfold maxLen; omega
  have hgr : ∀ c : Nat, c < L.length + 1 → L.length + 1 ≤ grownCap w (L.length + 1) c 9 ∧ grownCap w (L.length + 1) c 9 ≤ maxLen := fun c _ => ⟨grownCap_ge _ _ _ _, grownCap_le_maxLen _ _ _ _ hbig0⟩
  rcases hO.form with ⟨rfl, rfl⟩ | ⟨g, cap, cur0, rfl, _⟩
  · have hi0 : i = 0 := by simpa using hi
    subst hi0
    have h := Any2.slices_Insert_string_end_grow Tryz.insS none 0 0 vb 0 1 1 [] [.string x] w (by decide) (Nat.le_refl _) (by decide) (by decide) rfl rfl (fun _ => rfl) (fun a h => by cases h) hvs h1v
    change Calls Tryz.prog 101 _ _ _ at h
    refine h.mono ?_
    rintro e w' ⟨he, hw'⟩
    obtain ⟨h1, h2⟩ := hgr 0 (by omega)
    change 0 + 1 ≤ grownCap w (0 + 1) 0 9 at h1
    change grownCap w (0 + 1) 0 9 ≤ maxLen at h2
    change e = .returned (.slice (some ⟨w.heap.size, 0, none⟩) (0 + 1) (grownCap w (0 + 1) 0 9)) at he
    change w' = w.drew.alloc (.cells ((([] : List Value) ++ [(.string x : Value)]).toArray ++ Builtin.zeroCells (.string ⟨#[]⟩ : Value).cells (grownCap w (0 + 1) 0 9 - (0 + 1))) 9) at hw'
    obtain ⟨G, hG⟩ : ∃ G, grownCap w (0 + 1) 0 9 = G := ⟨_, rfl⟩
    rw [hG] at h1 h2 he hw'
    subst he hw'
    refine ⟨_, rfl, ?_, ?_, .inr ⟨w.heap.size, rfl, Nat.le_refl _⟩⟩
    · refine own1_of (f := fun x : ByteArray => (.string x : Value)) (L := [x]) (cap := G) (Blk.new w.drew _ _) hB h1 h2 ?_ ?_
      · simp only [Array.size_append, List.size_toArray, List.nil_append, List.length_cons, List.length_nil, zero_size, hz1, Nat.mul_one]
        omega
      · intro j hj
        have : j = 0 := by simpa using hj
        subst this
        rw [Array.getElem?_append_left (by simp)]
        rfl
    · exact Frm.of_below ((Below.refl w.heap.size w).drew.alloc (Nat.le_refl _) _)
  · obtain ⟨cur, hg, hBg, hcap, hmx, hsz, hcur⟩ := own1_at (f := fun x : ByteArray => (.string x : Value)) hO
    have hne2 : vb ≠ g := fun e => hne (by rw [e]; rfl)
    have hcs : ∀ j u, (L.map (fun x : ByteArray => (.string x : Value)))[j]? = some u → w.cell? ⟨g, 0 + j, none⟩ = some u := fun j u hj => by
      rw [List.getElem?_map] at hj
      cases hjl : L[j]? with
      | none => rw [hjl] at hj; cases hj
      | some y =>
        rw [hjl] at hj
        cases hj
        obtain ⟨h8, h9⟩ := List.getElem?_eq_some_iff.1 hjl
        rw [Nat.zero_add, ← h9]
        exact hg.cell (hcur j h8)
    have h1c : ∀ u ∈ (L.map (fun x => .string x) : List Value), u.oneCell' = true := fun u hu => by obtain ⟨y, _, rfl⟩ := List.mem_map.1 hu; rfl
    have hmx2 : cap ≤ 9223372036854775807 := by unfold maxLen at hmx; omega
    have hsp : ∀ j, j < cap → (w.cell? ⟨g, 0 + j, none⟩).isSome = true := fun j hj => by
      have : cur[j]? = some (cur[j]'(by omega)) := Array.getElem?_eq_getElem (by omega)
      rw [Nat.zero_add, hg.cell this]; rfl
    have hglt : g < w.heap.size := hg.lt
    by_cases hin : i < L.length
    · by_cases hroom : L.length + 1 ≤ cap
      · have h := Any2.slices_Insert_string_shift Tryz.insS g 0 L.length cap i vb 0 1 1 (L.map (fun x : ByteArray => (.string x : Value))) [.string x] w hin (by decide) hroom hmx2 hne2 (by simp) rfl hcs (fun j hj => hsp j (by omega)) (fun j _ => hg.frozen _) hvs h1c h1v
          9 9 1 cap (shape_blk hv rfl) (shape_blk hg hsz) (by omega) (hv.frozen _) (hv.frozen _)
        change Calls Tryz.prog 101 _ _ _ at h
        refine h.mono ?_
        rintro e w' ⟨rfl, rfl⟩
        obtain ⟨c1, b1, s1, j1⟩ := blk_cells g 9 ((L.map (fun x : ByteArray => (.string x : Value))).drop i) (0 + (i + 1)) w.drew cur hg
        obtain ⟨c2, b2, s2, j2⟩ := blk_cells g 9 [.string x] (0 + i) _ c1 b1
        refine ⟨_, rfl, ?_, ?_, .inl rfl⟩
        · rw [← hlen]
          refine own1_of (f := fun x : ByteArray => (.string x : Value)) b2 hBg (by rw [hlen]; exact hroom) hmx (by omega) (fun j hj => ?_)
          have he := insL_at L i x hi j
          rw [List.getElem?_eq_getElem hj] at he
          rw [j2 j, j1 j]
          simp only [List.length_cons, List.length_nil, Nat.zero_add, List.length_drop, List.length_map]
          rw [hlen] at hj
          by_cases hj1 : j < i
          · rw [if_pos hj1] at he
            rw [if_neg (by omega), if_neg (by omega), hcur j (by omega)]
            rw [List.getElem?_eq_getElem (by omega)] at he
            rw [← Option.some.inj he]
          · rw [if_neg hj1] at he
            by_cases hj2 : j = i
            · subst hj2
              rw [if_pos rfl] at he
              rw [if_pos (by omega), Nat.sub_self, Option.some.inj he]
              rfl
            · rw [if_neg hj2] at he
              rw [if_neg (by omega), if_pos (by omega), List.getElem?_drop, List.getElem?_map, show i + (j - (i + 1)) = j - 1 by omega, ← he]
              rfl
        · have f1 := setCells_frm g ((L.map (fun x : ByteArray => (.string x : Value))).drop i) (0 + (i + 1)) w.drew
          have f2 := setCells_frm g [.string x] (0 + i) (w.drew.setCells g (0 + (i + 1)) ((L.map (fun x : ByteArray => (.string x : Value))).drop i))
          have f3 : Frm w ((w.drew.setCells g (0 + (i + 1)) ((L.map (fun x : ByteArray => (.string x : Value))).drop i)).setCells g (0 + i) [.string x]) (one1 g) := Frm.trans (w1 := w.drew) (Frm.refl w _).drew (f1.trans f2 (fun k hk => .inl hk)) (fun k hk => .inl hk)
          exact f3.mono (fun k hk => .inl (by rw [hk]; rfl))
      · have h := Any2.slices_Insert_string_grow Tryz.insS g 0 L.length cap i vb 0 1 1 (L.map (fun x : ByteArray => (.string x : Value))) [.string x] w hin (by decide) hcap (by omega) (by omega) (by simp) rfl hcs hvs h1c h1v
        change Calls Tryz.prog 101 _ _ _ at h
        obtain ⟨h1, h2⟩ := hgr cap (by omega)
        refine h.mono ?_
        rintro e w' ⟨he, hw'⟩
        obtain ⟨G, hG⟩ : ∃ G, grownCap w (L.length + 1) cap 9 = G := ⟨_, rfl⟩
        change e = .returned (.slice (some ⟨w.heap.size, 0, none⟩) (L.length + 1) (grownCap w (L.length + 1) cap 9)) at he
        change w' = ((((w.alloc (.cells (((L.map (fun x : ByteArray => (.string x : Value))).take i).toArray ++ Builtin.zeroCells (.string ⟨#[]⟩ : Value).cells (L.length + 1 - i) ++ Builtin.zeroCells (.string ⟨#[]⟩ : Value).cells (grownCap w (L.length + 1) cap 9 - (L.length + 1))) 9)).drew.setCells w.heap.size i [.string x]).drew).setCells w.heap.size (i + 1) ((L.map (fun x : ByteArray => (.string x : Value))).drop i)) at hw'
        rw [hG] at h1 h2 he hw'
        subst he hw'
        obtain ⟨c1, b1, s1, j1⟩ := blk_cells w.heap.size 9 [.string x] i _ _ (show Blk (w.alloc (.cells (((L.map (fun x : ByteArray => (.string x : Value))).take i).toArray ++ Builtin.zeroCells (.string ⟨#[]⟩ : Value).cells (L.length + 1 - i) ++ Builtin.zeroCells (.string ⟨#[]⟩ : Value).cells (G - (L.length + 1))) 9)).drew w.heap.size _ 9 from Blk.new w _ _)
        obtain ⟨c2, b2, s2, j2⟩ := blk_cells w.heap.size 9 ((L.map (fun x : ByteArray => (.string x : Value))).drop i) (i + 1) _ c1 b1.drew
        have hcs2 : (((L.map (fun x : ByteArray => (.string x : Value))).take i).toArray ++ Builtin.zeroCells (.string ⟨#[]⟩ : Value).cells (L.length + 1 - i) ++ Builtin.zeroCells (.string ⟨#[]⟩ : Value).cells (G - (L.length + 1))).size = G := by
          simp only [Array.size_append, List.size_toArray, List.length_take, List.length_map, zero_size, hz1, Nat.mul_one]
          change min i L.length + (L.length + 1 - i) + (G - (L.length + 1)) = G
          omega
        refine ⟨_, rfl, ?_, ?_, .inr ⟨w.heap.size, rfl, Nat.le_refl _⟩⟩
        · have e9 : ∀ W, Blk W w.heap.size c2 9 → OwnG encX 1 9 W B (.slice (some ⟨w.heap.size, 0, none⟩) (L.take i ++ x :: L.drop i).length G) (L.take i ++ x :: L.drop i) := fun W bW => by
            refine own1_of (f := fun x : ByteArray => (.string x : Value)) bW hB (by rw [hlen]; exact h1) h2 (by rw [s2, s1, hcs2]) (fun j hj => ?_)
            have he := insL_at L i x hi j
            rw [List.getElem?_eq_getElem hj] at he
            rw [j2 j, j1 j, s1, hcs2]
            simp only [List.length_cons, List.length_nil, Nat.zero_add, List.length_drop, List.length_map]
            rw [hlen] at hj
            by_cases hj1 : j < i
            · rw [if_pos hj1] at he
              rw [if_neg (by omega), if_neg (by omega), Array.append_assoc, Array.getElem?_append_left (by simp; omega), List.getElem?_toArray, List.getElem?_take_of_lt hj1, List.getElem?_map, ← he]
              rfl
            · rw [if_neg hj1] at he
              by_cases hj2 : j = i
              · subst hj2
                rw [if_pos rfl] at he
                rw [if_neg (by omega), if_pos (by omega), Nat.sub_self, Option.some.inj he]
                rfl
              · rw [if_neg hj2] at he
                rw [if_pos (by omega), List.getElem?_drop, List.getElem?_map, show i + (j - (i + 1)) = j - 1 by omega, ← he]
                rfl
          rw [hlen] at e9
          exact e9 _ b2
        · have f0 : Frm w (w.alloc (.cells (((L.map (fun x : ByteArray => (.string x : Value))).take i).toArray ++ Builtin.zeroCells (.string ⟨#[]⟩ : Value).cells (L.length + 1 - i) ++ Builtin.zeroCells (.string ⟨#[]⟩ : Value).cells (G - (L.length + 1))) 9)).drew none1 := (Frm.of_below ((Below.refl w.heap.size w).alloc (Nat.le_refl _) _)).drew
          have f1 := f0.trans (setCells_frm w.heap.size [.string x] i _) (fun k hk => .inr (by rw [show k = w.heap.size from hk]; exact Nat.le_refl _))
          have f2 := f1.drew.trans (setCells_frm w.heap.size ((L.map (fun x : ByteArray => (.string x : Value))).drop i) (i + 1) _) (fun k hk => .inr (by rw [show k = w.heap.size from hk]; exact Nat.le_refl _))
          exact f2.mono (fun k hk => hk.elim)
    · have hin2 : i = L.length := by omega
      subst hin2
      by_cases hroom : L.length + 1 ≤ cap
      · have h := Any2.slices_Insert_string_end_room Tryz.insS g 0 L.length cap vb 0 1 1 [.string x] w (by decide) hroom hmx2 rfl (fun j hj => by rw [Nat.zero_add]; have h9 := hsp (L.length + j) (by omega); rwa [Nat.zero_add] at h9) (fun j _ => hg.frozen _) hvs h1v
        change Calls Tryz.prog 101 _ _ _ at h
        refine h.mono ?_
        rintro e w' ⟨rfl, rfl⟩
        obtain ⟨c2, b2, s2, j2⟩ := blk_cells g 9 [.string x] (0 + L.length) w cur hg
        refine ⟨_, rfl, ?_, ?_, .inl rfl⟩
        · rw [← hlen]
          refine own1_of (f := fun x : ByteArray => (.string x : Value)) b2 hBg (by rw [hlen]; exact hroom) hmx (by omega) (fun j hj => ?_)
          have he := insL_at L L.length x hi j
          rw [List.getElem?_eq_getElem hj] at he
          rw [j2 j]
          simp only [List.length_cons, List.length_nil, Nat.zero_add]
          rw [hlen] at hj
          by_cases hj1 : j < L.length
          · rw [if_pos hj1, List.getElem?_eq_getElem hj1] at he
            rw [if_neg (by omega), hcur j hj1, ← Option.some.inj he]
          · rw [if_neg hj1, if_pos (by omega)] at he
            rw [if_pos (by omega), Option.some.inj he, show j - L.length = 0 by omega]
            rfl
        · exact (setCells_frm g [.string x] (0 + L.length) w).mono (fun k hk => .inl (by rw [show k = g from hk]; rfl))
      · have h := Any2.slices_Insert_string_end_grow Tryz.insS (some ⟨g, 0, none⟩) L.length cap vb 0 1 1 (L.map (fun x : ByteArray => (.string x : Value))) [.string x] w (by decide) hcap (by omega) (by omega) (by simp) rfl (fun h => by cases h) (fun a ha j u hj => by
          cases ha
          have e : (⟨g, 0, none⟩ : Addr).add j = ⟨g, 0 + j, none⟩ := by unfold Addr.add; split <;> simp_all
          rw [e]
          exact hcs j u hj) hvs h1v
        change Calls Tryz.prog 101 _ _ _ at h
        obtain ⟨h1, h2⟩ := hgr cap (by omega)
        refine h.mono ?_
        rintro e w' ⟨he, hw'⟩
        change e = .returned (.slice (some ⟨w.heap.size, 0, none⟩) (L.length + 1) (grownCap w (L.length + 1) cap 9)) at he
        change w' = w.drew.alloc (.cells (((L.map (fun x : ByteArray => (.string x : Value))) ++ [(.string x : Value)]).toArray ++ Builtin.zeroCells (.string ⟨#[]⟩ : Value).cells (grownCap w (L.length + 1) cap 9 - (L.length + 1))) 9) at hw'
        obtain ⟨G, hG⟩ : ∃ G, grownCap w (L.length + 1) cap 9 = G := ⟨_, rfl⟩
        rw [hG] at h1 h2 he hw'
        subst he hw'
        refine ⟨_, rfl, ?_, ?_, .inr ⟨w.heap.size, rfl, Nat.le_refl _⟩⟩
        · have hl2 : L.take L.length ++ x :: L.drop L.length = L ++ [x] := by simp
          rw [hl2]
          have hl3 : (L ++ [x]).length = L.length + 1 := by simp
          have e9 : OwnG encX 1 9 (w.drew.alloc (.cells (((L.map (fun x : ByteArray => (.string x : Value))) ++ [(.string x : Value)]).toArray ++ Builtin.zeroCells (.string ⟨#[]⟩ : Value).cells (G - (L.length + 1))) 9)) B (.slice (some ⟨w.heap.size, 0, none⟩) (L ++ [x]).length G) (L ++ [x]) := by
           refine own1_of (f := fun x : ByteArray => (.string x : Value)) (cap := G) (Blk.new w.drew _ _) hB (by rw [hl3]; exact h1) h2 ?_ ?_
           · simp only [Array.size_append, List.size_toArray, List.length_append, List.length_map, List.length_cons, List.length_nil, zero_size, hz1, Nat.mul_one]
             omega
           · intro j hj
             rw [hl3] at hj
             rw [Array.getElem?_append_left (by simp; omega), List.getElem?_toArray, List.getElem?_append, List.length_map]
             by_cases hj1 : j < L.length
             · rw [if_pos hj1, List.getElem?_map, List.getElem?_eq_getElem hj1, List.getElem_append_left hj1]
               rfl
             · rw [if_neg hj1, List.getElem_append_right (by omega)]
               have : j - L.length = 0 := by omega
               simp [this]
          rw [hl3] at e9
          exact e9
        · exact Frm.of_below ((Below.refl w.heap.size w).drew.alloc (Nat.le_refl _) _)

set_option maxHeartbeats 4000000 in
theorem insertN_any (B : Nat) (v : Value) (L : List Nat) (i : Nat) (x : Nat) (vb : Nat) (w : World) (hO : OwnG encN 1 3 w B v L) (hi : i ≤ L.length) (hB : B ≤ w.heap.size) (hl : L.length ≤ 4398046511104) (hv : Blk w vb #[natV x] 3) (hne : v.ownBlock ≠ some vb) :
    Calls Tryz.prog 96 #[v, .int .i64 (i : Nat), .slice (some ⟨vb, 0, none⟩) 1 1] w fun e w' => ∃ v', e = .returned v' ∧ OwnG encN 1 3 w' B v' (L.take i ++ x :: L.drop i) ∧ Frm w w' (fun k => v.ownBlock = some k) ∧ (v'.ownBlock = v.ownBlock ∨ ∃ g, v'.ownBlock = some g ∧ w.heap.size ≤ g) := by
  have hvs : ∀ j u, ([natV x] : List Value)[j]? = some u → w.cell? ⟨vb, 0 + j, none⟩ = some u := fun j u hj => by
    have : j = 0 := by have := (List.getElem?_eq_some_iff.1 hj).1; simp at this; omega
    subst this
    cases hj
    exact hv.cell rfl
  have h1v : ∀ u ∈ ([natV x] : List Value), u.oneCell' = true := fun u hu => by rw [List.mem_singleton] at hu; rw [hu]; rfl
  have hz1 : (.int .i64 0 : Value).cells.size = 1 := rfl
  have hlen : (L.take i ++ x :: L.drop i).length = L.length + 1 := by simp; omega
  have hbig0 : L.length + 1 ≤ maxLen := by unfold maxLen; omega
  have hgr : ∀ c : Nat, c < L.length + 1 → L.length + 1 ≤ grownCap w (L.length + 1) c 3 ∧ grownCap w (L.length + 1) c 3 ≤ maxLen := fun c _ => ⟨grownCap_ge _ _ _ _, grownCap_le_maxLen _ _ _ _ hbig0⟩
  rcases hO.form with ⟨rfl, rfl⟩ | ⟨g, cap, cur0, rfl, _⟩
  · have hi0 : i = 0 := by simpa using hi
    subst hi0
    have h := Any2.slices_Insert_int_end_grow Tryz.insN none 0 0 vb 0 1 1 [] [natV x] w (by decide) (Nat.le_refl _) (by decide) (by decide) rfl rfl (fun _ => rfl) (fun a h => by cases h) hvs h1v
    change Calls Tryz.prog 96 _ _ _ at h
    refine h.mono ?_
    rintro e w' ⟨he, hw'⟩
    obtain ⟨h1, h2⟩ := hgr 0 (by omega)
    change 0 + 1 ≤ grownCap w (0 + 1) 0 3 at h1
    change grownCap w (0 + 1) 0 3 ≤ maxLen at h2
    change e = .returned (.slice (some ⟨w.heap.size, 0, none⟩) (0 + 1) (grownCap w (0 + 1) 0 3)) at he
    change w' = w.drew.alloc (.cells ((([] : List Value) ++ [(natV x : Value)]).toArray ++ Builtin.zeroCells (.int .i64 0 : Value).cells (grownCap w (0 + 1) 0 3 - (0 + 1))) 3) at hw'
    obtain ⟨G, hG⟩ : ∃ G, grownCap w (0 + 1) 0 3 = G := ⟨_, rfl⟩
    rw [hG] at h1 h2 he hw'
    subst he hw'
    refine ⟨_, rfl, ?_, ?_, .inr ⟨w.heap.size, rfl, Nat.le_refl _⟩⟩
    · refine own1_of (f := fun x : Nat => (natV x : Value)) (L := [x]) (cap := G) (Blk.new w.drew _ _) hB h1 h2 ?_ ?_
      · simp only [Array.size_append, List.size_toArray, List.nil_append, List.length_cons, List.length_nil, zero_size, hz1, Nat.mul_one]
        omega
      · intro j hj
        have : j = 0 := by simpa using hj
        subst this
        rw [Array.getElem?_append_left (by simp)]
        rfl
    · exact Frm.of_below ((Below.refl w.heap.size w).drew.alloc (Nat.le_refl _) _)
  · obtain ⟨cur, hg, hBg, hcap, hmx, hsz, hcur⟩ := own1_at (f := fun x : Nat => (natV x : Value)) hO
    have hne2 : vb ≠ g := fun e => hne (by rw [e]; rfl)
    have hcs : ∀ j u, (L.map (fun x : Nat => (natV x : Value)))[j]? = some u → w.cell? ⟨g, 0 + j, none⟩ = some u := fun j u hj => by
      rw [List.getElem?_map] at hj
      cases hjl : L[j]? with
      | none => rw [hjl] at hj; cases hj
      | some y =>
        rw [hjl] at hj
        cases hj
        obtain ⟨h8, h9⟩ := List.getElem?_eq_some_iff.1 hjl
        rw [Nat.zero_add, ← h9]
        exact hg.cell (hcur j h8)
    have h1c : ∀ u ∈ (L.map (fun x => natV x) : List Value), u.oneCell' = true := fun u hu => by obtain ⟨y, _, rfl⟩ := List.mem_map.1 hu; rfl
    have hmx2 : cap ≤ 9223372036854775807 := by unfold maxLen at hmx; omega
    have hsp : ∀ j, j < cap → (w.cell? ⟨g, 0 + j, none⟩).isSome = true := fun j hj => by
      have : cur[j]? = some (cur[j]'(by omega)) := Array.getElem?_eq_getElem (by omega)
      rw [Nat.zero_add, hg.cell this]; rfl
    have hglt : g < w.heap.size := hg.lt
    by_cases hin : i < L.length
    · by_cases hroom : L.length + 1 ≤ cap
      · have h := Any2.slices_Insert_int_shift Tryz.insN g 0 L.length cap i vb 0 1 1 (L.map (fun x : Nat => (natV x : Value))) [natV x] w hin (by decide) hroom hmx2 hne2 (by simp) rfl hcs (fun j hj => hsp j (by omega)) (fun j _ => hg.frozen _) hvs h1c h1v
          3 3 1 cap (shape_blk hv rfl) (shape_blk hg hsz) (by omega) (hv.frozen _) (hv.frozen _)
        change Calls Tryz.prog 96 _ _ _ at h
        refine h.mono ?_
        rintro e w' ⟨rfl, rfl⟩
        obtain ⟨c1, b1, s1, j1⟩ := blk_cells g 3 ((L.map (fun x : Nat => (natV x : Value))).drop i) (0 + (i + 1)) w.drew cur hg
        obtain ⟨c2, b2, s2, j2⟩ := blk_cells g 3 [natV x] (0 + i) _ c1 b1
        refine ⟨_, rfl, ?_, ?_, .inl rfl⟩
        · rw [← hlen]
          refine own1_of (f := fun x : Nat => (natV x : Value)) b2 hBg (by rw [hlen]; exact hroom) hmx (by omega) (fun j hj => ?_)
          have he := insL_at L i x hi j
          rw [List.getElem?_eq_getElem hj] at he
          rw [j2 j, j1 j]
          simp only [List.length_cons, List.length_nil, Nat.zero_add, List.length_drop, List.length_map]
          rw [hlen] at hj
          by_cases hj1 : j < i
          · rw [if_pos hj1] at he
            rw [if_neg (by omega), if_neg (by omega), hcur j (by omega)]
            rw [List.getElem?_eq_getElem (by omega)] at he
            rw [← Option.some.inj he]
          · rw [if_neg hj1] at he
            by_cases hj2 : j = i
            · subst hj2
              rw [if_pos rfl] at he
              rw [if_pos (by omega), Nat.sub_self, Option.some.inj he]
              rfl
            · rw [if_neg hj2] at he
              rw [if_neg (by omega), if_pos (by omega), List.getElem?_drop, List.getElem?_map, show i + (j - (i + 1)) = j - 1 by omega, ← he]
              rfl
        · have f1 := setCells_frm g ((L.map (fun x : Nat => (natV x : Value))).drop i) (0 + (i + 1)) w.drew
          have f2 := setCells_frm g [natV x] (0 + i) (w.drew.setCells g (0 + (i + 1)) ((L.map (fun x : Nat => (natV x : Value))).drop i))
          have f3 : Frm w ((w.drew.setCells g (0 + (i + 1)) ((L.map (fun x : Nat => (natV x : Value))).drop i)).setCells g (0 + i) [natV x]) (one1 g) := Frm.trans (w1 := w.drew) (Frm.refl w _).drew (f1.trans f2 (fun k hk => .inl hk)) (fun k hk => .inl hk)
          exact f3.mono (fun k hk => .inl (by rw [hk]; rfl))
      · have h := Any2.slices_Insert_int_grow Tryz.insN g 0 L.length cap i vb 0 1 1 (L.map (fun x : Nat => (natV x : Value))) [natV x] w hin (by decide) hcap (by omega) (by omega) (by simp) rfl hcs hvs h1c h1v
        change Calls Tryz.prog 96 _ _ _ at h
        obtain ⟨h1, h2⟩ := hgr cap (by omega)
        refine h.mono ?_
        rintro e w' ⟨he, hw'⟩
        obtain ⟨G, hG⟩ : ∃ G, grownCap w (L.length + 1) cap 3 = G := ⟨_, rfl⟩
        change e = .returned (.slice (some ⟨w.heap.size, 0, none⟩) (L.length + 1) (grownCap w (L.length + 1) cap 3)) at he
        change w' = ((((w.alloc (.cells (((L.map (fun x : Nat => (natV x : Value))).take i).toArray ++ Builtin.zeroCells (.int .i64 0 : Value).cells (L.length + 1 - i) ++ Builtin.zeroCells (.int .i64 0 : Value).cells (grownCap w (L.length + 1) cap 3 - (L.length + 1))) 3)).drew.setCells w.heap.size i [natV x]).drew).setCells w.heap.size (i + 1) ((L.map (fun x : Nat => (natV x : Value))).drop i)) at hw'
        rw [hG] at h1 h2 he hw'
        subst he hw'
        obtain ⟨c1, b1, s1, j1⟩ := blk_cells w.heap.size 3 [natV x] i _ _ (show Blk (w.alloc (.cells (((L.map (fun x : Nat => (natV x : Value))).take i).toArray ++ Builtin.zeroCells (.int .i64 0 : Value).cells (L.length + 1 - i) ++ Builtin.zeroCells (.int .i64 0 : Value).cells (G - (L.length + 1))) 3)).drew w.heap.size _ 3 from Blk.new w _ _)
        obtain ⟨c2, b2, s2, j2⟩ := blk_cells w.heap.size 3 ((L.map (fun x : Nat => (natV x : Value))).drop i) (i + 1) _ c1 b1.drew
        have hcs2 : (((L.map (fun x : Nat => (natV x : Value))).take i).toArray ++ Builtin.zeroCells (.int .i64 0 : Value).cells (L.length + 1 - i) ++ Builtin.zeroCells (.int .i64 0 : Value).cells (G - (L.length + 1))).size = G := by
          simp only [Array.size_append, List.size_toArray, List.length_take, List.length_map, zero_size, hz1, Nat.mul_one]
          change min i L.length + (L.length + 1 - i) + (G - (L.length + 1)) = G
          omega
        refine ⟨_, rfl, ?_, ?_, .inr ⟨w.heap.size, rfl, Nat.le_refl _⟩⟩
        · have e9 : ∀ W, Blk W w.heap.size c2 3 → OwnG encN 1 3 W B (.slice (some ⟨w.heap.size, 0, none⟩) (L.take i ++ x :: L.drop i).length G) (L.take i ++ x :: L.drop i) := fun W bW => by
            refine own1_of (f := fun x : Nat => (natV x : Value)) bW hB (by rw [hlen]; exact h1) h2 (by rw [s2, s1, hcs2]) (fun j hj => ?_)
            have he := insL_at L i x hi j
            rw [List.getElem?_eq_getElem hj] at he
            rw [j2 j, j1 j, s1, hcs2]
            simp only [List.length_cons, List.length_nil, Nat.zero_add, List.length_drop, List.length_map]
            rw [hlen] at hj
            by_cases hj1 : j < i
            · rw [if_pos hj1] at he
              rw [if_neg (by omega), if_neg (by omega), Array.append_assoc, Array.getElem?_append_left (by simp; omega), List.getElem?_toArray, List.getElem?_take_of_lt hj1, List.getElem?_map, ← he]
              rfl
            · rw [if_neg hj1] at he
              by_cases hj2 : j = i
              · subst hj2
                rw [if_pos rfl] at he
                rw [if_neg (by omega), if_pos (by omega), Nat.sub_self, Option.some.inj he]
                rfl
              · rw [if_neg hj2] at he
                rw [if_pos (by omega), List.getElem?_drop, List.getElem?_map, show i + (j - (i + 1)) = j - 1 by omega, ← he]
                rfl
          rw [hlen] at e9
          exact e9 _ b2
        · have f0 : Frm w (w.alloc (.cells (((L.map (fun x : Nat => (natV x : Value))).take i).toArray ++ Builtin.zeroCells (.int .i64 0 : Value).cells (L.length + 1 - i) ++ Builtin.zeroCells (.int .i64 0 : Value).cells (G - (L.length + 1))) 3)).drew none1 := (Frm.of_below ((Below.refl w.heap.size w).alloc (Nat.le_refl _) _)).drew
          have f1 := f0.trans (setCells_frm w.heap.size [natV x] i _) (fun k hk => .inr (by rw [show k = w.heap.size from hk]; exact Nat.le_refl _))
          have f2 := f1.drew.trans (setCells_frm w.heap.size ((L.map (fun x : Nat => (natV x : Value))).drop i) (i + 1) _) (fun k hk => .inr (by rw [show k = w.heap.size from hk]; exact Nat.le_refl _))
          exact f2.mono (fun k hk => hk.elim)
    · have hin2 : i = L.length := by omega
      subst hin2
      by_cases hroom : L.length + 1 ≤ cap
      · have h := Any2.slices_Insert_int_end_room Tryz.insN g 0 L.length cap vb 0 1 1 [natV x] w (by decide) hroom hmx2 rfl (fun j hj => by rw [Nat.zero_add]; have h9 := hsp (L.length + j) (by omega); rwa [Nat.zero_add] at h9) (fun j _ => hg.frozen _) hvs h1v
        change Calls Tryz.prog 96 _ _ _ at h
        refine h.mono ?_
        rintro e w' ⟨rfl, rfl⟩
        obtain ⟨c2, b2, s2, j2⟩ := blk_cells g 3 [natV x] (0 + L.length) w cur hg
        refine ⟨_, rfl, ?_, ?_, .inl rfl⟩
        · rw [← hlen]
          refine own1_of (f := fun x : Nat => (natV x : Value)) b2 hBg (by rw [hlen]; exact hroom) hmx (by omega) (fun j hj => ?_)
          have he := insL_at L L.length x hi j
          rw [List.getElem?_eq_getElem hj] at he
          rw [j2 j]
          simp only [List.length_cons, List.length_nil, Nat.zero_add]
          rw [hlen] at hj
          by_cases hj1 : j < L.length
          · rw [if_pos hj1, List.getElem?_eq_getElem hj1] at he
            rw [if_neg (by omega), hcur j hj1, ← Option.some.inj he]
          · rw [if_neg hj1, if_pos (by omega)] at he
            rw [if_pos (by omega), Option.some.inj he, show j - L.length = 0 by omega]
            rfl
        · exact (setCells_frm g [natV x] (0 + L.length) w).mono (fun k hk => .inl (by rw [show k = g from hk]; rfl))
      · have h := Any2.slices_Insert_int_end_grow Tryz.insN (some ⟨g, 0, none⟩) L.length cap vb 0 1 1 (L.map (fun x : Nat => (natV x : Value))) [natV x] w (by decide) hcap (by omega) (by omega) (by simp) rfl (fun h => by cases h) (fun a ha j u hj => by
          cases ha
          have e : (⟨g, 0, none⟩ : Addr).add j = ⟨g, 0 + j, none⟩ := by unfold Addr.add; split <;> simp_all
          rw [e]
          exact hcs j u hj) hvs h1v
        change Calls Tryz.prog 96 _ _ _ at h
        obtain ⟨h1, h2⟩ := hgr cap (by omega)
        refine h.mono ?_
        rintro e w' ⟨he, hw'⟩
        change e = .returned (.slice (some ⟨w.heap.size, 0, none⟩) (L.length + 1) (grownCap w (L.length + 1) cap 3)) at he
        change w' = w.drew.alloc (.cells (((L.map (fun x : Nat => (natV x : Value))) ++ [(natV x : Value)]).toArray ++ Builtin.zeroCells (.int .i64 0 : Value).cells (grownCap w (L.length + 1) cap 3 - (L.length + 1))) 3) at hw'
        obtain ⟨G, hG⟩ : ∃ G, grownCap w (L.length + 1) cap 3 = G := ⟨_, rfl⟩
        rw [hG] at h1 h2 he hw'
        subst he hw'
        refine ⟨_, rfl, ?_, ?_, .inr ⟨w.heap.size, rfl, Nat.le_refl _⟩⟩
        · have hl2 : L.take L.length ++ x :: L.drop L.length = L ++ [x] := by simp
          rw [hl2]
          have hl3 : (L ++ [x]).length = L.length + 1 := by simp
          have e9 : OwnG encN 1 3 (w.drew.alloc (.cells (((L.map (fun x : Nat => (natV x : Value))) ++ [(natV x : Value)]).toArray ++ Builtin.zeroCells (.int .i64 0 : Value).cells (G - (L.length + 1))) 3)) B (.slice (some ⟨w.heap.size, 0, none⟩) (L ++ [x]).length G) (L ++ [x]) := by
           refine own1_of (f := fun x : Nat => (natV x : Value)) (cap := G) (Blk.new w.drew _ _) hB (by rw [hl3]; exact h1) h2 ?_ ?_
           · simp only [Array.size_append, List.size_toArray, List.length_append, List.length_map, List.length_cons, List.length_nil, zero_size, hz1, Nat.mul_one]
             omega
           · intro j hj
             rw [hl3] at hj
             rw [Array.getElem?_append_left (by simp; omega), List.getElem?_toArray, List.getElem?_append, List.length_map]
             by_cases hj1 : j < L.length
             · rw [if_pos hj1, List.getElem?_map, List.getElem?_eq_getElem hj1, List.getElem_append_left hj1]
               rfl
             · rw [if_neg hj1, List.getElem_append_right (by omega)]
               have : j - L.length = 0 := by omega
               simp [this]
          rw [hl3] at e9
          exact e9
        · exact Frm.of_below ((Below.refl w.heap.size w).drew.alloc (Nat.le_refl _) _)

end Go.Proofs.YtncfejndmlcidaaGreat
