/- Layer 12: a list, in one word: New, Put, Seek, Len. -/
import Derived.Test.YthpkppfnfbkjoaaDoorGWSkp27
namespace Go.Proofs.YthpkppfnfbkjoaaDoor
open Go.RowKit
set_option maxRecDepth 100000

/-- all blocks that a list writes lie above a bound -/
structure AbvL (B lb sb hl : Nat) (N : List Nd) : Prop where
  l : B ≤ lb
  s : B ≤ sb
  h : B ≤ hl
  n : ∀ x ∈ N, B ≤ x.nb ∧ B ≤ x.lb
theorem AbvL.own {B lb sb hl : Nat} {N : List Nd} (h : AbvL B lb sb hl N) : ∀ k, ownL lb sb hl N k → B ≤ k := by
  rintro k (rfl | rfl | hk | hk)
  · exact h.l
  · exact h.s
  · rcases List.mem_cons.1 hk with rfl | hk
    · exact h.h
    · obtain ⟨y, hy, rfl⟩ := List.mem_map.1 hk
      exact (h.n y hy).2
  · obtain ⟨y, hy, rfl⟩ := List.mem_map.1 hk
    exact (h.n y hy).1
/-- A LIST WITH ENTRIES, begun behind a world. -/
def SkL (w0 w : World) (lb : Nat) (E : List En) : Prop := ∃ hb sb hl cb N, Skp w lb hb sb hl cb N ∧ ensN N = E ∧ AbvL w0.heap.size lb sb hl N ∧ Below w0.heap.size w0 w
theorem SkL.on {w0 w w' : World} {lb : Nat} {E : List En} (h : SkL w0 w lb E) (hb' : Below w.heap.size w w') : SkL w0 w' lb E := by
  obtain ⟨hb, sb, hl, cb, N, h1, h2, h3, h4⟩ := h
  exact ⟨hb, sb, hl, cb, N, h1.on hb', h2, h3, h4.trans (hb'.mono h4.size)⟩
theorem SkL.bel {w0 w : World} {lb : Nat} {E : List En} (h : SkL w0 w lb E) : Below w0.heap.size w0 w := by
  obtain ⟨hb, sb, hl, cb, N, h1, h2, h3, h4⟩ := h
  exact h4
theorem SkL.rise {w0 w : World} {lb : Nat} {E : List En} (h : SkL w0 w lb E) : RiseE E := by
  obtain ⟨hb, sb, hl, cb, N, h1, rfl, h3, h4⟩ := h
  exact h1.r
theorem SkL.hts {w0 w : World} {lb : Nat} {E : List En} (h : SkL w0 w lb E) : ∀ e ∈ E, 1 ≤ e.h ∧ e.h ≤ 16 := by
  obtain ⟨hb, sb, hl, cb, N, h1, rfl, h3, h4⟩ := h
  intro e he
  obtain ⟨x, hx, rfl⟩ := List.mem_map.1 he
  exact h1.n.ht x hx
theorem DoR.skl {w0 w w' : World} {lb hb sb hl sb' cb' : Nat} {N N' : List Nd} (r : DoR w w' lb hb sb hl sb' cb' N N') (h3 : AbvL w0.heap.size lb sb hl N) (h4 : Below w0.heap.size w0 w) : SkL w0 w' lb (ensN N') ∧ Below w0.heap.size w w' := by
  have hb' : Below w0.heap.size w w' := r.fr.below h4.size (fun k hk => h3.own k hk)
  refine ⟨⟨hb, sb', hl, cb', N', r.q, rfl, ⟨h3.l, Nat.le_trans h4.size r.ns, h3.h, fun x hx => ?_⟩, h4.trans hb'⟩, hb'⟩
  rcases r.gr x hx with ⟨y, hy, e1, e2⟩ | ⟨h5, h6⟩
  · rw [e1, e2]
    exact h3.n y hy
  · exact ⟨Nat.le_trans h4.size h5, Nat.le_trans h4.size h6⟩
theorem new_L (w : World) : Calls Tryd.prog 8 #[] w fun e w' => ∃ lb, e = .returned (ptr1 lb) ∧ SkL w w' lb [] := by
  refine (newL_any w).mono ?_
  rintro e w' ⟨lb, hb, sb, hl, cb, h1, h2, h3, h4, h5, h6, h7⟩
  exact ⟨lb, h1, hb, sb, hl, cb, [], h2, rfl, ⟨h3, h5, h6, fun x hx => absurd hx (by simp)⟩, h7⟩
theorem put_L (lb h : Nat) (E : List En) (k : ByteArray) (v : Int) (w0 w : World) (q : SkL w0 w lb E) (hk : k.size ≤ 1025) (hh : 1 ≤ h ∧ h ≤ 16) (hN : E.length < 9000000000000000000) :
    Calls Tryd.prog 9 #[ptr1 lb, .string k, .int .i64 v, .int .i64 (h : Nat)] w fun e w' => e = .returned (.tuple #[.int .i64 (wasV E k), .bool (getE E k).isSome, .int .i64 0]) ∧ SkL w0 w' lb (putE E k v h) ∧ Below w0.heap.size w w' := by
  obtain ⟨hb, sb, hl, cb, N, h1, rfl, h3, h4⟩ := q
  refine (put_ok lb hb sb hl cb h N k v w h1 hk hh (by rw [← ens_len]; exact hN)).mono ?_
  rintro e w' ⟨sb', cb', N', e1, hD, e2⟩
  rw [← e2]
  exact ⟨e1, hD.skl h3 h4⟩
theorem putlong_L (lb : Nat) (E : List En) (k : ByteArray) (v h : Int) (w0 w : World) (q : SkL w0 w lb E) (hk : 1025 < k.size) :
    Calls Tryd.prog 9 #[ptr1 lb, .string k, .int .i64 v, .int .i64 h] w fun e w' => e = .returned (.tuple #[.int .i64 0, .bool false, .int .i64 3]) ∧ w' = w := by
  obtain ⟨hb, sb, hl, cb, N, h1, rfl, h3, h4⟩ := q
  exact put_long lb hb sb hl cb N k v h w h1 hk
theorem puthgt_L (lb : Nat) (E : List En) (k : ByteArray) (v h : Int) (w0 w : World) (q : SkL w0 w lb E) (hk : k.size ≤ 1025) (hh : h < 1 ∨ 16 < h) :
    Calls Tryd.prog 9 #[ptr1 lb, .string k, .int .i64 v, .int .i64 h] w fun e w' => e = .returned (.tuple #[.int .i64 0, .bool false, .int .i64 120]) ∧ w' = w := by
  obtain ⟨hb, sb, hl, cb, N, h1, rfl, h3, h4⟩ := q
  exact put_height lb hb sb hl cb N k v h w h1 hk hh
theorem len_L (lb : Nat) (E : List En) (w0 w : World) (q : SkL w0 w lb E) : Calls Tryd.prog 11 #[ptr1 lb] w fun e w' => e = .returned (.int .i64 (E.length : Nat)) ∧ w' = w := by
  obtain ⟨hb, sb, hl, cb, N, h1, rfl, h3, h4⟩ := q
  rw [ens_len]
  exact len_any lb hb sb hl cb N w h1
theorem seek_L (lb : Nat) (E : List En) (k : ByteArray) (back : Bool) (w0 w : World) (q : SkL w0 w lb E) :
    Calls Tryd.prog 10 #[ptr1 lb, .string k, .bool back] w fun e w' => e = .returned (.tuple #[.agg #[.string (keyO (seekE E k back)), .int .i64 (valO (seekE E k back)), .int .i64 (hgtO (seekE E k back))], .bool (seekE E k back).isSome]) ∧ Below w.heap.size w w' := by
  obtain ⟨hb, sb, hl, cb, N, h1, rfl, h3, h4⟩ := q
  exact seekL_any lb hb sb hl cb N k back w h1
theorem aw1 : putE (putE [] ⟨#[98]⟩ 2 1) ⟨#[97]⟩ 1 3 = [⟨⟨#[97]⟩, 1, 3⟩, ⟨⟨#[98]⟩, 2, 1⟩] := by kernel_rfl
theorem aw2 : seekE [⟨⟨#[97]⟩, 1, 3⟩, ⟨⟨#[98]⟩, 2, 1⟩] ⟨#[]⟩ false = some ⟨⟨#[97]⟩, 1, 3⟩ := by kernel_rfl

set_option maxHeartbeats 2000000 in
theorem awake_any (w : World) : Calls Tryd.prog 6 #[] w fun e w' => e = .returned (.bool true) ∧ Below w.heap.size w w' := by
  have C1 : Hid (Calls _ _ _ _ _) := new_L w
  go_enter Tryd.func6, Tryd.ntmps6
  go_wp2_with fail
  refine C1.out.mono ?_
  rintro e w1 ⟨lb, rfl, q1⟩
  have C2 : Hid (Calls _ _ _ _ _) := put_L lb 1 [] ⟨#[98]⟩ 2 w w1 q1 (by decide) (by decide) (by decide)
  clear C1 q1
  go_wp2_with fail
  refine C2.out.mono ?_
  rintro e w2 ⟨rfl, q2, -⟩
  have C3 : Hid (Calls _ _ _ _ _) := put_L lb 3 _ ⟨#[97]⟩ 1 w w2 q2 (by decide) (by decide) (by decide)
  clear C2 q2
  go_wp2_with fail
  refine C3.out.mono ?_
  rintro e w3 ⟨rfl, q3, -⟩
  rw [aw1] at q3
  have C4 : Hid (Calls _ _ _ _ _) := seek_L lb _ ⟨#[]⟩ false w w3 q3
  rw [aw2] at C4
  have HQ : Hid (SkL w w3 lb [⟨⟨#[97]⟩, 1, 3⟩, ⟨⟨#[98]⟩, 2, 1⟩]) := q3
  clear C3 q3
  go_wp2_with fail
  refine C4.out.mono ?_
  rintro e w4 ⟨rfl, hb4⟩
  obtain ⟨aX, aB, aS⟩ := blk_new w4 #[.string ⟨#[97]⟩, .int .i64 1, .int .i64 3] 34
  have a0 := Blk.cell (i := 0) aX rfl
  have hb5 := hb4.trans (aB.mono hb4.size)
  have q5 := HQ.out.on hb5
  have C5 : Hid (Calls _ _ _ _ _) := len_L lb _ w _ q5
  have HB : Hid (Below w.heap.size w (w4.alloc (.cells #[.string ⟨#[97]⟩, .int .i64 1, .int .i64 3] 34))) := q5.bel
  rw [show keyO (some ⟨⟨#[97]⟩, 1, 3⟩) = ⟨#[97]⟩ from rfl, show valO (some ⟨⟨#[97]⟩, 1, 3⟩) = 1 from rfl, show hgtO (some ⟨⟨#[97]⟩, 1, 3⟩) = 3 from rfl]
  clear C4 hb4 hb5 q5 aX aB aS
  go_wp2_with fail
  refine C5.out.mono ?_
  rintro e w6 ⟨rfl, hw6⟩
  rw [hw6]
  clear hw6 C5
  go_wp2_with fail
  go_ret
  exact ⟨rfl, HB.out⟩

end Go.Proofs.YthpkppfnfbkjoaaDoor
