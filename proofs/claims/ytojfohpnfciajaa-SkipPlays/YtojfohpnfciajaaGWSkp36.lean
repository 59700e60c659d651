/- Layer 12: a list, in one word. Layer 12: a list that New did not give. -/
import Derived.Test.YtojfohpnfciajaaGWSkp35
namespace Go.Proofs.Ytojfohpnfciajaa
open Go.RowKit
set_option maxRecDepth 100000

theorem del_L (lb : Nat) (E : List En) (k : ByteArray) (w0 w : World) (q : SkL w0 w lb E) (hN : E.length < 9000000000000000000) :
    Calls Try.prog 19 #[ptr1 lb, .string k] w fun e w' => e = .returned (.tuple #[.int .i64 (wasV E k), .bool (getE E k).isSome]) ∧ SkL w0 w' lb (delE E k) ∧ Below w0.heap.size w w' := by
  obtain ⟨hb, sb, hl, cb, N, h1, rfl, h3, h4⟩ := q
  refine (del_ok lb hb sb hl cb N k w h1 (by rw [← ens_len]; exact hN)).mono ?_
  rintro e w' ⟨sb', cb', N', e1, hD, e2⟩
  rw [← e2]
  exact ⟨e1, hD.skl h3 h4⟩

theorem get_L (lb : Nat) (E : List En) (k : ByteArray) (w0 w : World) (q : SkL w0 w lb E) :
    Calls Try.prog 20 #[ptr1 lb, .string k] w fun e w' => e = .returned (.tuple #[.int .i64 (valO (getE E k)), .bool (getE E k).isSome]) ∧ Below w.heap.size w w' := by
  obtain ⟨hb, sb, hl, cb, N, h1, rfl, h3, h4⟩ := q
  exact get_any lb hb sb hl cb N k w h1

theorem scan_L (lb : Nat) (E : List En) (lo hi : ByteArray) (op back : Bool) (most : Int) (w0 w : World) (q : SkL w0 w lb E) (hN : E.length < 4000000000000) :
    Calls Try.prog 16 #[ptr1 lb, .agg #[.string lo, .string hi, .bool op], .bool back, .int .i64 most] w fun e w' => ∃ v, e = .returned v ∧ OwnE w' w.heap.size v (scanM E lo hi op back most) ∧ Below w.heap.size w w' := by
  obtain ⟨hb, sb, hl, cb, N, h1, rfl, h3, h4⟩ := q
  exact scanL_any lb hb sb hl cb N lo hi op back most w h1 (by rw [← ens_len]; exact hN)

/-- the keys of a level -/
def keyE (l : Nat) (E : List En) : List ByteArray := (E.filter (fun e => decide (l < e.h))).map En.k
theorem keyL_ens (l : Nat) (N : List Nd) : keyL l N = keyE l (ensN N) := by
  unfold keyL keyE ensN
  rw [List.filter_map, List.map_map]
  rfl
def lvsE (E : List En) : Nat → List (List ByteArray)
  | 0 => []
  | l + 1 => lvsE E l ++ [keyE l E]
def topE (E : List En) : Nat → Nat
  | 0 => 0
  | l + 1 => if topE E l = l ∧ keyE l E ≠ [] then l + 1 else topE E l
theorem topL_ens (N : List Nd) (l : Nat) : topL N l = topE (ensN N) l := by
  induction l with
  | zero => rfl
  | succ l ih => unfold topL topE; rw [ih, keyL_ens]
theorem lvs_ens (N : List Nd) (l : Nat) : lvs N l = lvsE (ensN N) l := by
  induction l with
  | zero => rfl
  | succ l ih => unfold lvs lvsE; rw [ih, keyL_ens]
theorem levels_L (lb : Nat) (E : List En) (w0 w : World) (q : SkL w0 w lb E) (hN : E.length < 4000000000000) :
    Calls Try.prog 12 #[ptr1 lb] w fun e w' => ∃ v, e = .returned v ∧ OwnKs w' w.heap.size v (lvsE E (topE E 16)) ∧ Below w.heap.size w w' := by
  obtain ⟨hb, sb, hl, cb, N, h1, rfl, h3, h4⟩ := q
  refine (levelsP_any lb hb sb hl cb N w h1 (by rw [← ens_len]; exact hN)).mono ?_
  rintro e w' ⟨v, h5, h6, h7⟩
  unfold levE at h6
  rw [topL_ens, lvs_ens] at h6
  exact ⟨v, h5, h6, h7⟩

end Go.Proofs.Ytojfohpnfciajaa

namespace Go.Proofs.Ytojfohpnfciajaa
open Go.RowKit
set_option maxRecDepth 100000

theorem put_no (pv : Option Addr) (k : ByteArray) (v h : Int) (w : World) (HG0 : ∀ w1, Below w.heap.size w w1 → Calls Try.prog 28 #[.pointer pv] w1 fun e w' => e = .returned (.bool false) ∧ w' = w1) :
    Calls Try.prog 18 #[.pointer pv, .string k, .int .i64 v, .int .i64 h] w fun e w' => e = .returned (.tuple #[.int .i64 0, .bool false, .int .i64 1]) ∧ w' = w := by
  have HG : Hid (∀ w1, Below w.heap.size w w1 → Calls Try.prog 28 #[.pointer pv] w1 fun e w' => e = .returned (.bool false) ∧ w' = w1) := HG0
  clear HG0
  have HB : Hid (Below w.heap.size w w) := Below.refl _ _
  go_enter Try.func18, Try.ntmps18
  go_wp2_with fail
  refine (HG.out _ HB.out).mono ?_
  rintro e w9 ⟨rfl, hw9⟩
  rw [hw9]
  clear hw9
  go_wp2_with fail
  go_ret3
  exact ⟨rfl, rfl⟩
theorem del_no (pv : Option Addr) (k : ByteArray) (w : World) (HG0 : ∀ w1, Below w.heap.size w w1 → Calls Try.prog 28 #[.pointer pv] w1 fun e w' => e = .returned (.bool false) ∧ w' = w1) :
    Calls Try.prog 19 #[.pointer pv, .string k] w fun e w' => e = .returned (.tuple #[.int .i64 0, .bool false]) ∧ w' = w := by
  have HG : Hid (∀ w1, Below w.heap.size w w1 → Calls Try.prog 28 #[.pointer pv] w1 fun e w' => e = .returned (.bool false) ∧ w' = w1) := HG0
  clear HG0
  have HB : Hid (Below w.heap.size w w) := Below.refl _ _
  go_enter Try.func19, Try.ntmps19
  go_wp2_with fail
  refine (HG.out _ HB.out).mono ?_
  rintro e w9 ⟨rfl, hw9⟩
  rw [hw9]
  clear hw9
  go_wp2_with fail
  go_ret2
  exact ⟨rfl, rfl⟩
theorem len_no (pv : Option Addr) (w : World) (HG0 : ∀ w1, Below w.heap.size w w1 → Calls Try.prog 28 #[.pointer pv] w1 fun e w' => e = .returned (.bool false) ∧ w' = w1) :
    Calls Try.prog 9 #[.pointer pv] w fun e w' => e = .returned (.int .i64 0) ∧ w' = w := by
  have HG : Hid (∀ w1, Below w.heap.size w w1 → Calls Try.prog 28 #[.pointer pv] w1 fun e w' => e = .returned (.bool false) ∧ w' = w1) := HG0
  clear HG0
  have HB : Hid (Below w.heap.size w w) := Below.refl _ _
  go_enter Try.func9, Try.ntmps9
  go_wp2_with fail
  refine (HG.out _ HB.out).mono ?_
  rintro e w9 ⟨rfl, hw9⟩
  rw [hw9]
  clear hw9
  go_wp2_with fail
  go_ret
  exact ⟨rfl, rfl⟩
theorem levels_no (pv : Option Addr) (w : World) (HG0 : ∀ w1, Below w.heap.size w w1 → Calls Try.prog 28 #[.pointer pv] w1 fun e w' => e = .returned (.bool false) ∧ w' = w1) :
    Calls Try.prog 12 #[.pointer pv] w fun e w' => e = .returned (.slice none 0 0) ∧ w' = w := by
  have HG : Hid (∀ w1, Below w.heap.size w w1 → Calls Try.prog 28 #[.pointer pv] w1 fun e w' => e = .returned (.bool false) ∧ w' = w1) := HG0
  clear HG0
  have HB : Hid (Below w.heap.size w w) := Below.refl _ _
  go_enter Try.func12, Try.ntmps12
  go_wp2_with fail
  refine (HG.out _ HB.out).mono ?_
  rintro e w9 ⟨rfl, hw9⟩
  rw [hw9]
  clear hw9
  go_wp2_with fail
  go_ret
  exact ⟨rfl, rfl⟩
theorem get_no (pv : Option Addr) (k : ByteArray) (w : World) (HG0 : ∀ w1, Below w.heap.size w w1 → Calls Try.prog 28 #[.pointer pv] w1 fun e w' => e = .returned (.bool false) ∧ w' = w1) :
    Calls Try.prog 20 #[.pointer pv, .string k] w fun e w' => e = .returned (.tuple #[.int .i64 0, .bool false]) ∧ Below w.heap.size w w' := by
  have HG : Hid (∀ w1, Below w.heap.size w w1 → Calls Try.prog 28 #[.pointer pv] w1 fun e w' => e = .returned (.bool false) ∧ w' = w1) := HG0
  clear HG0
  have HB : Hid (Below w.heap.size w (w.alloc (.cells #[.string k] 9))) := (Below.refl _ _).alloc (Nat.le_refl _) _
  go_enter Try.func20, Try.ntmps20
  go_wp2_with fail
  refine (HG.out _ HB.out).mono ?_
  rintro e w9 ⟨rfl, hw9⟩
  rw [hw9]
  clear hw9
  go_wp2_with fail
  go_ret2
  exact ⟨rfl, HB.out⟩

theorem seek_no (pv : Option Addr) (k : ByteArray) (back : Bool) (w : World) (HG0 : ∀ w1, Below w.heap.size w w1 → Calls Try.prog 28 #[.pointer pv] w1 fun e w' => e = .returned (.bool false) ∧ w' = w1) :
    Calls Try.prog 17 #[.pointer pv, .string k, .bool back] w fun e w' => e = .returned (.tuple #[.agg #[.string ⟨#[]⟩, .int .i64 0, .int .i64 0], .bool false]) ∧ Below w.heap.size w w' := by
  have HG : Hid (∀ w1, Below w.heap.size w w1 → Calls Try.prog 28 #[.pointer pv] w1 fun e w' => e = .returned (.bool false) ∧ w' = w1) := HG0
  clear HG0
  obtain ⟨aX, aB, aS⟩ := blk_new w #[.string k] 9
  obtain ⟨bX, bB, bS⟩ := blk_new (w.alloc (.cells #[.string k] 9)) #[.bool back] 4
  obtain ⟨cX, cB, cS⟩ := blk_new ((w.alloc (.cells #[.string k] 9)).alloc (.cells #[.bool back] 4)) #[.string ⟨#[]⟩, .int .i64 0, .int .i64 0] 48
  rw [bS, aS] at cX
  have hb2 := aB.trans (bB.mono aB.size)
  have HB : Hid (Below w.heap.size w (((w.alloc (.cells #[.string k] 9)).alloc (.cells #[.bool back] 4)).alloc (.cells #[.string ⟨#[]⟩, .int .i64 0, .int .i64 0] 48))) := hb2.trans (cB.mono hb2.size)
  have q0 := Blk.cell (i := 0) cX rfl
  have q1 := Blk.cell (i := 1) cX rfl
  have q2 := Blk.cell (i := 2) cX rfl
  clear aX aB aS bX bB bS cX cB cS hb2
  go_enter Try.func17, Try.ntmps17
  go_wp2_with fail
  refine (HG.out _ HB.out).mono ?_
  rintro e w9 ⟨rfl, hw9⟩
  rw [hw9]
  clear hw9
  go_wp2_with fail
  refine bodyPost_ret (v := .tuple #[.agg #[.string ⟨#[]⟩, .int .i64 0, .int .i64 0], .bool false]) (by simp [results, Try.results17, go_sem, q0, q1, q2]) rfl ?_
  exact ⟨rfl, HB.out⟩
theorem scan_no (pv : Option Addr) (lo hi : ByteArray) (op back : Bool) (most : Int) (w : World) (HG0 : ∀ w1, Below w.heap.size w w1 → Calls Try.prog 28 #[.pointer pv] w1 fun e w' => e = .returned (.bool false) ∧ w' = w1) :
    Calls Try.prog 16 #[.pointer pv, .agg #[.string lo, .string hi, .bool op], .bool back, .int .i64 most] w fun e w' => e = .returned (.slice none 0 0) ∧ Below w.heap.size w w' := by
  have HG : Hid (∀ w1, Below w.heap.size w w1 → Calls Try.prog 28 #[.pointer pv] w1 fun e w' => e = .returned (.bool false) ∧ w' = w1) := HG0
  clear HG0
  have HB : Hid (Below w.heap.size w (((w.alloc (.cells #[.string lo, .string hi, .bool op] 36)).alloc (.cells #[.bool back] 4)).alloc (.cells #[.int .i64 most] 3))) := (((Below.refl _ _).alloc (Nat.le_refl _) _).alloc (by simp) _).alloc (by simp; omega) _
  go_enter Try.func16, Try.ntmps16
  go_wp2_with fail
  refine (HG.out _ HB.out).mono ?_
  rintro e w9 ⟨rfl, hw9⟩
  rw [hw9]
  clear hw9
  go_wp2_with fail
  go_ret
  exact ⟨rfl, HB.out⟩

end Go.Proofs.Ytojfohpnfciajaa
