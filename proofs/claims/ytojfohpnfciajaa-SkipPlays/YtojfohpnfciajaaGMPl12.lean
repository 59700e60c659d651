/- Layer 12: plain mathematics for the document's Put, Delete, Scan, Levels. Layer 12: Put and Delete leave rows of entries, and boxes of other types, as they were. -/
import Derived.Test.YtojfohpnfciajaaGMTurn12
import Derived.Test.YtojfohpnfciajaaGWSkp36
namespace Go.Proofs.Ytojfohpnfciajaa
open Go.RowKit
set_option maxRecDepth 100000

theorem putE_some {S : List En} {k : ByteArray} {e : En} (h : getE S k = some e) (v : Int) (ht : Nat) : putE S k v ht = (S.take (fnd S k) ++ [⟨k, v, e.h⟩]) ++ S.drop (fnd S k + 1) := by
  have hl : fnd S k < S.length := by
    have := (getE_some h).1
    exact (List.getElem?_eq_some_iff.1 this).1
  unfold putE
  rw [h]
  show S.set (fnd S k) _ = _
  rw [List.set_eq_take_append_cons_drop, if_pos hl]
  simp
theorem putE_none {S : List En} {k : ByteArray} (h : getE S k = none) (v : Int) (ht : Nat) : putE S k v ht = (S.take (fnd S k) ++ [⟨k, v, ht⟩]) ++ S.drop (fnd S k) := by
  unfold putE
  rw [h]
  show insE _ _ _ = _
  unfold insE
  simp
theorem delE_some {S : List En} {k : ByteArray} {e : En} (h : getE S k = some e) : delE S k = S.take (fnd S k) ++ S.drop (fnd S k + 1) := by
  unfold delE
  rw [h]
  show S.eraseIdx _ = _
  rw [List.eraseIdx_eq_take_drop_succ]
theorem delE_none {S : List En} {k : ByteArray} (h : getE S k = none) : delE S k = S := by
  unfold delE
  rw [h]
theorem getE_lt {S : List En} {k : ByteArray} {e : En} (h : getE S k = some e) : ∃ hl : fnd S k < S.length, S[fnd S k] = e := by
  have := (getE_some h).1
  exact List.getElem?_eq_some_iff.1 this
/-- is a key in a range? -/
def inR (lo hi : ByteArray) (op : Bool) (e : En) : Bool := !ltB e.k lo && !endB hi op e.k
/-- a list, one way or the other -/
def wayE (back : Bool) (S : List En) : List En := if back then S.reverse else S
theorem wayE_len (back : Bool) (S : List En) : (wayE back S).length = S.length := by
  unfold wayE
  cases back <;> simp
/-- what a scan has told behind i entries -/
def toldE (back : Bool) (S : List En) (lo hi : ByteArray) (op : Bool) (i : Nat) : List En := ((wayE back S).take i).filter (inR lo hi op)
theorem toldE_zero (back : Bool) (S : List En) (lo hi : ByteArray) (op : Bool) : toldE back S lo hi op 0 = [] := by
  unfold toldE
  rw [List.take_zero]
  rfl
theorem toldE_le (back : Bool) (S : List En) (lo hi : ByteArray) (op : Bool) (i : Nat) : (toldE back S lo hi op i).length ≤ i := Nat.le_trans (List.length_filter_le _ _) (List.length_take_le _ _)
theorem toldE_on {back : Bool} {S : List En} {lo hi : ByteArray} {op : Bool} {i : Nat} {e : En} (he : (wayE back S)[i]? = some e) (h : inR lo hi op e = true) : toldE back S lo hi op (i + 1) = toldE back S lo hi op i ++ [e] := by
  unfold toldE
  rw [List.take_add_one, he, List.filter_append]
  simp [h]
theorem toldE_off {back : Bool} {S : List En} {lo hi : ByteArray} {op : Bool} {i : Nat} {e : En} (he : (wayE back S)[i]? = some e) (h : inR lo hi op e = false) : toldE back S lo hi op (i + 1) = toldE back S lo hi op i := by
  unfold toldE
  rw [List.take_add_one, he, List.filter_append]
  simp [h]
theorem told_end {S : List En} (hr : RiseE S) {back : Bool} {lo hi : ByteArray} {op : Bool} {most : Int} {i : Nat} (_hi : i ≤ S.length) (hl : (toldE back S lo hi op i).length ≤ most.toNat) (hx : i = S.length ∨ most ≤ (toldE back S lo hi op i).length) : toldE back S lo hi op i = scanM S lo hi op back most := by
  rw [scan_spec hr]
  have h0 : (if back then (selE S lo hi op).reverse else selE S lo hi op) = (wayE back S).filter (inR lo hi op) := by
    unfold wayE selE inR
    cases back <;> simp [List.filter_reverse]
  rw [h0]
  have h1 : (wayE back S).filter (inR lo hi op) = toldE back S lo hi op i ++ ((wayE back S).drop i).filter (inR lo hi op) := by
    unfold toldE
    rw [← List.filter_append, List.take_append_drop]
  rcases hx with e | e
  · have h2 : (wayE back S).drop i = [] := List.drop_eq_nil_of_le (by rw [wayE_len]; omega)
    rw [h1, h2, List.filter_nil, List.append_nil, List.take_of_length_le hl]
  · have h3 : (toldE back S lo hi op i).length = most.toNat := by omega
    rw [h1, List.take_append_of_le_length (by omega), List.take_of_length_le hl]
theorem way_at {back : Bool} {S : List En} {i : Nat} (hi : i < S.length) : (wayE back S)[i]? = some (if back then S[S.length - 1 - i] else S[i]) := by
  unfold wayE
  cases back with
  | false => simp [hi]
  | true => simp [hi]
theorem keyE_up {n m : Nat} {E : List En} (h : n ≤ m) (he : keyE n E = []) : keyE m E = [] := by
  unfold keyE at he ⊢
  rw [List.map_eq_nil_iff, List.filter_eq_nil_iff] at he ⊢
  intro a ha
  have := he a ha
  simp at this ⊢
  omega
theorem topE_none (E : List En) : ∀ l n, topE E l ≤ n → n < l → keyE n E = []
  | 0, n, _, h => by omega
  | l + 1, n, h1, h2 => by
    unfold topE at h1
    split at h1
    · omega
    · rename_i hx
      rcases Nat.lt_or_eq_of_le (Nat.le_of_lt_succ h2) with h3 | h3
      · exact topE_none E l n h1 h3
      · subst h3
        by_cases h4 : topE E n = n
        · exact Classical.byContradiction fun h5 => hx ⟨h4, h5⟩
        · have h6 := topE_le E n
          exact keyE_up h1 (topE_none E n (topE E n) (Nat.le_refl _) (by omega))
theorem lvsE_succ (E : List En) (l : Nat) : lvsE E (l + 1) = lvsE E l ++ [keyE l E] := rfl
/-- the keys of a level, of the first i -/
def keyI (n : Nat) (E : List En) (i : Nat) : List ByteArray := keyE n (E.take i)
theorem keyI_zero (n : Nat) (E : List En) : keyI n E 0 = [] := by
  unfold keyI keyE
  rw [List.take_zero]
  rfl
theorem keyI_on {n : Nat} {E : List En} {i : Nat} (hi : i < E.length) (h : n < E[i].h) : keyI n E (i + 1) = keyI n E i ++ [E[i].k] := by
  unfold keyI keyE
  rw [List.take_add_one, List.getElem?_eq_getElem hi, List.filter_append, List.map_append]
  simp [h]
theorem keyI_off {n : Nat} {E : List En} {i : Nat} (hi : i < E.length) (h : ¬ n < E[i].h) : keyI n E (i + 1) = keyI n E i := by
  unfold keyI keyE
  rw [List.take_add_one, List.getElem?_eq_getElem hi, List.filter_append, List.map_append]
  simp [h]
theorem keyI_all (n : Nat) (E : List En) : keyI n E E.length = keyE n E := by
  unfold keyI
  rw [List.take_length]
theorem keyI_le (n : Nat) (E : List En) (i : Nat) : (keyI n E i).length ≤ i := by
  unfold keyI keyE
  rw [List.length_map]
  exact Nat.le_trans (List.length_filter_le _ _) (List.length_take_le _ _)

end Go.Proofs.Ytojfohpnfciajaa

namespace Go.Proofs.Ytojfohpnfciajaa
open Go.RowKit
set_option maxRecDepth 100000

theorem Skp.ownT {w : World} {lb hb sb hl cb : Nat} {N : List Nd} (h : Skp w lb hb sb hl cb N) {k : Nat} (hk : ownL lb sb hl N k) : ∃ cs T, Blk w k cs T ∧ (T = 62 ∨ T = 82 ∨ T = 125 ∨ T = 129) := by
  rcases hk with rfl | rfl | hk | hk
  · exact ⟨_, _, h.l, .inl rfl⟩
  · obtain ⟨a, c, wk, hs⟩ := h.s
    exact ⟨_, _, hs, .inr (.inl rfl)⟩
  · rcases List.mem_cons.1 hk with rfl | hk
    · obtain ⟨cs, hc, _⟩ := h.n.hlk
      exact ⟨cs, _, hc, .inr (.inr (.inr rfl))⟩
    · obtain ⟨y, hy, rfl⟩ := List.mem_map.1 hk
      obtain ⟨cs, hc, _⟩ := h.n.lks y hy
      exact ⟨cs, _, hc, .inr (.inr (.inr rfl))⟩
  · obtain ⟨y, hy, rfl⟩ := List.mem_map.1 hk
    exact ⟨_, _, h.n.nd y hy, .inr (.inr (.inl rfl))⟩
/-- rows of entries and boxes of an Op or a Look stay -/
structure KeepP (w w' : World) : Prop where
  o : ∀ B v S, OwnE w B v S → OwnE w' B v S
  b : ∀ k cs T, T ≠ 62 → T ≠ 82 → T ≠ 125 → T ≠ 129 → Blk w k cs T → Blk w' k cs T
theorem KeepP.refl (w : World) : KeepP w w := ⟨fun _ _ _ h => h, fun _ _ _ _ _ _ _ h => h⟩
theorem KeepP.of_below {w w' : World} (h : Below w.heap.size w w') : KeepP w w' := ⟨fun _ _ _ ho => owns_kept ho h, fun _ _ _ _ _ _ _ hb => hb.on h⟩
theorem KeepP.trans {w w1 w2 : World} (h : KeepP w w1) (h' : KeepP w1 w2) : KeepP w w2 := ⟨fun B v S ho => h'.o B v S (h.o B v S ho), fun k cs T a b c d hb => h'.b k cs T a b c d (h.b k cs T a b c d hb)⟩
theorem keepP_of {w w' : World} {lb hb sb hl cb : Nat} {N : List Nd} (h : Skp w lb hb sb hl cb N) (hf : Frm w w' (ownL lb sb hl N)) : KeepP w w' := by
  refine ⟨fun B v S ho => ⟨ho.1, ?_⟩, fun k cs T a b c d hb => hb.frm hf (fun hk => ?_)⟩
  · rcases ho.2 with h1 | ⟨g, cap, cur, e, hb', hg, r⟩
    · exact .inl h1
    · refine .inr ⟨g, cap, cur, e, hb', (hf.block g (Array.getElem?_eq_some_iff.1 hg).1 (fun hk => ?_)).trans hg, r⟩
      obtain ⟨cs, T, hB, hT⟩ := h.ownT hk
      unfold Blk at hB
      rw [hB] at hg
      injection hg with hg
      injection hg with _ hg _
      subst hg
      rcases hT with e | e | e | e <;> cases e
  · obtain ⟨cs', T', hB, hT⟩ := h.ownT hk
    unfold Blk at hB hb
    rw [hB] at hb
    injection hb with hb
    injection hb with _ hb _
    subst hb
    rcases hT with e | e | e | e
    · exact a e
    · exact b e
    · exact c e
    · exact d e
theorem put_K (lb h : Nat) (E : List En) (k : ByteArray) (v : Int) (w0 w : World) (q : SkL w0 w lb E) (hk : k.size ≤ 1025) (hh : 1 ≤ h ∧ h ≤ 16) (hN : E.length < 9000000000000000000) :
    Calls Try.prog 18 #[ptr1 lb, .string k, .int .i64 v, .int .i64 (h : Nat)] w fun e w' => e = .returned (.tuple #[.int .i64 (wasV E k), .bool (getE E k).isSome, .int .i64 0]) ∧ SkL w0 w' lb (putE E k v h) ∧ Below w0.heap.size w w' ∧ KeepP w w' := by
  obtain ⟨hb, sb, hl, cb, N, h1, rfl, h3, h4⟩ := q
  refine (put_ok lb hb sb hl cb h N k v w h1 hk hh (by rw [← ens_len]; exact hN)).mono ?_
  rintro e w' ⟨sb', cb', N', e1, hD, e2⟩
  rw [← e2]
  exact ⟨e1, (hD.skl h3 h4).1, (hD.skl h3 h4).2, keepP_of h1 hD.fr⟩
theorem del_K (lb : Nat) (E : List En) (k : ByteArray) (w0 w : World) (q : SkL w0 w lb E) (hN : E.length < 9000000000000000000) :
    Calls Try.prog 19 #[ptr1 lb, .string k] w fun e w' => e = .returned (.tuple #[.int .i64 (wasV E k), .bool (getE E k).isSome]) ∧ SkL w0 w' lb (delE E k) ∧ Below w0.heap.size w w' ∧ KeepP w w' := by
  obtain ⟨hb, sb, hl, cb, N, h1, rfl, h3, h4⟩ := q
  refine (del_ok lb hb sb hl cb N k w h1 (by rw [← ens_len]; exact hN)).mono ?_
  rintro e w' ⟨sb', cb', N', e1, hD, e2⟩
  rw [← e2]
  exact ⟨e1, (hD.skl h3 h4).1, (hD.skl h3 h4).2, keepP_of h1 hD.fr⟩

end Go.Proofs.Ytojfohpnfciajaa
