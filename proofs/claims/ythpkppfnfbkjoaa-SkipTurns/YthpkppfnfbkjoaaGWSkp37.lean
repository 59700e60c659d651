/- Layer 12: a list that New did not give. Layer 12: calls and looks, as they are read. -/
import Derived.Test.YthpkppfnfbkjoaaGWSkp35
namespace Go.Proofs.Ythpkppfnfbkjoaa
open Go.RowKit
set_option maxRecDepth 100000

theorem put_no (pv : Option Addr) (k : ByteArray) (v h : Int) (w : World) (HG0 : ∀ w1, Below w.heap.size w w1 → Calls Try.prog 28 #[.pointer pv] w1 fun e w' => e = .returned (.bool false) ∧ w' = w1) :
    Calls Try.prog 18 #[.pointer pv, .string k, .int .i64 v, .int .i64 h] w fun e w' => e = .returned (.tuple #[.int .i64 0, .bool false, .int .i64 1]) ∧ w' = w := by
  have HG : Hid (∀ w1, Below w.heap.size w w1 → Calls Try.prog 28 #[.pointer pv] w1 fun e w' => e = .returned (.bool false) ∧ w' = w1) := HG0
  clear HG0
  have HB : Hid (Below w.heap.size w w) := Below.refl _ _
  go_enter Try.func18, Try.ntmps18
  go_wp2_with fail
  refine (HG.out _ HB.out).mono ?_
  rintro e w9 ⟨rfl, hw9⟩
  rw [hw9]
  clear hw9
  go_wp2_with fail
  go_ret3
  exact ⟨rfl, rfl⟩
theorem del_no (pv : Option Addr) (k : ByteArray) (w : World) (HG0 : ∀ w1, Below w.heap.size w w1 → Calls Try.prog 28 #[.pointer pv] w1 fun e w' => e = .returned (.bool false) ∧ w' = w1) :
    Calls Try.prog 19 #[.pointer pv, .string k] w fun e w' => e = .returned (.tuple #[.int .i64 0, .bool false]) ∧ w' = w := by
  have HG : Hid (∀ w1, Below w.heap.size w w1 → Calls Try.prog 28 #[.pointer pv] w1 fun e w' => e = .returned (.bool false) ∧ w' = w1) := HG0
  clear HG0
  have HB : Hid (Below w.heap.size w w) := Below.refl _ _
  go_enter Try.func19, Try.ntmps19
  go_wp2_with fail
  refine (HG.out _ HB.out).mono ?_
  rintro e w9 ⟨rfl, hw9⟩
  rw [hw9]
  clear hw9
  go_wp2_with fail
  go_ret2
  exact ⟨rfl, rfl⟩
theorem len_no (pv : Option Addr) (w : World) (HG0 : ∀ w1, Below w.heap.size w w1 → Calls Try.prog 28 #[.pointer pv] w1 fun e w' => e = .returned (.bool false) ∧ w' = w1) :
    Calls Try.prog 9 #[.pointer pv] w fun e w' => e = .returned (.int .i64 0) ∧ w' = w := by
  have HG : Hid (∀ w1, Below w.heap.size w w1 → Calls Try.prog 28 #[.pointer pv] w1 fun e w' => e = .returned (.bool false) ∧ w' = w1) := HG0
  clear HG0
  have HB : Hid (Below w.heap.size w w) := Below.refl _ _
  go_enter Try.func9, Try.ntmps9
  go_wp2_with fail
  refine (HG.out _ HB.out).mono ?_
  rintro e w9 ⟨rfl, hw9⟩
  rw [hw9]
  clear hw9
  go_wp2_with fail
  go_ret
  exact ⟨rfl, rfl⟩
theorem levels_no (pv : Option Addr) (w : World) (HG0 : ∀ w1, Below w.heap.size w w1 → Calls Try.prog 28 #[.pointer pv] w1 fun e w' => e = .returned (.bool false) ∧ w' = w1) :
    Calls Try.prog 12 #[.pointer pv] w fun e w' => e = .returned (.slice none 0 0) ∧ w' = w := by
  have HG : Hid (∀ w1, Below w.heap.size w w1 → Calls Try.prog 28 #[.pointer pv] w1 fun e w' => e = .returned (.bool false) ∧ w' = w1) := HG0
  clear HG0
  have HB : Hid (Below w.heap.size w w) := Below.refl _ _
  go_enter Try.func12, Try.ntmps12
  go_wp2_with fail
  refine (HG.out _ HB.out).mono ?_
  rintro e w9 ⟨rfl, hw9⟩
  rw [hw9]
  clear hw9
  go_wp2_with fail
  go_ret
  exact ⟨rfl, rfl⟩
theorem get_no (pv : Option Addr) (k : ByteArray) (w : World) (HG0 : ∀ w1, Below w.heap.size w w1 → Calls Try.prog 28 #[.pointer pv] w1 fun e w' => e = .returned (.bool false) ∧ w' = w1) :
    Calls Try.prog 20 #[.pointer pv, .string k] w fun e w' => e = .returned (.tuple #[.int .i64 0, .bool false]) ∧ Below w.heap.size w w' := by
  have HG : Hid (∀ w1, Below w.heap.size w w1 → Calls Try.prog 28 #[.pointer pv] w1 fun e w' => e = .returned (.bool false) ∧ w' = w1) := HG0
  clear HG0
  have HB : Hid (Below w.heap.size w (w.alloc (.cells #[.string k] 9))) := (Below.refl _ _).alloc (Nat.le_refl _) _
  go_enter Try.func20, Try.ntmps20
  go_wp2_with fail
  refine (HG.out _ HB.out).mono ?_
  rintro e w9 ⟨rfl, hw9⟩
  rw [hw9]
  clear hw9
  go_wp2_with fail
  go_ret2
  exact ⟨rfl, HB.out⟩

theorem seek_no (pv : Option Addr) (k : ByteArray) (back : Bool) (w : World) (HG0 : ∀ w1, Below w.heap.size w w1 → Calls Try.prog 28 #[.pointer pv] w1 fun e w' => e = .returned (.bool false) ∧ w' = w1) :
    Calls Try.prog 17 #[.pointer pv, .string k, .bool back] w fun e w' => e = .returned (.tuple #[.agg #[.string ⟨#[]⟩, .int .i64 0, .int .i64 0], .bool false]) ∧ Below w.heap.size w w' := by
  have HG : Hid (∀ w1, Below w.heap.size w w1 → Calls Try.prog 28 #[.pointer pv] w1 fun e w' => e = .returned (.bool false) ∧ w' = w1) := HG0
  clear HG0
  obtain ⟨aX, aB, aS⟩ := blk_new w #[.string k] 9
  obtain ⟨bX, bB, bS⟩ := blk_new (w.alloc (.cells #[.string k] 9)) #[.bool back] 4
  obtain ⟨cX, cB, cS⟩ := blk_new ((w.alloc (.cells #[.string k] 9)).alloc (.cells #[.bool back] 4)) #[.string ⟨#[]⟩, .int .i64 0, .int .i64 0] 48
  rw [bS, aS] at cX
  have hb2 := aB.trans (bB.mono aB.size)
  have HB : Hid (Below w.heap.size w (((w.alloc (.cells #[.string k] 9)).alloc (.cells #[.bool back] 4)).alloc (.cells #[.string ⟨#[]⟩, .int .i64 0, .int .i64 0] 48))) := hb2.trans (cB.mono hb2.size)
  have q0 := Blk.cell (i := 0) cX rfl
  have q1 := Blk.cell (i := 1) cX rfl
  have q2 := Blk.cell (i := 2) cX rfl
  clear aX aB aS bX bB bS cX cB cS hb2
  go_enter Try.func17, Try.ntmps17
  go_wp2_with fail
  refine (HG.out _ HB.out).mono ?_
  rintro e w9 ⟨rfl, hw9⟩
  rw [hw9]
  clear hw9
  go_wp2_with fail
  refine bodyPost_ret (v := .tuple #[.agg #[.string ⟨#[]⟩, .int .i64 0, .int .i64 0], .bool false]) (by simp [results, Try.results17, go_sem, q0, q1, q2]) rfl ?_
  exact ⟨rfl, HB.out⟩
theorem scan_no (pv : Option Addr) (lo hi : ByteArray) (op back : Bool) (most : Int) (w : World) (HG0 : ∀ w1, Below w.heap.size w w1 → Calls Try.prog 28 #[.pointer pv] w1 fun e w' => e = .returned (.bool false) ∧ w' = w1) :
    Calls Try.prog 16 #[.pointer pv, .agg #[.string lo, .string hi, .bool op], .bool back, .int .i64 most] w fun e w' => e = .returned (.slice none 0 0) ∧ Below w.heap.size w w' := by
  have HG : Hid (∀ w1, Below w.heap.size w w1 → Calls Try.prog 28 #[.pointer pv] w1 fun e w' => e = .returned (.bool false) ∧ w' = w1) := HG0
  clear HG0
  have HB : Hid (Below w.heap.size w (((w.alloc (.cells #[.string lo, .string hi, .bool op] 36)).alloc (.cells #[.bool back] 4)).alloc (.cells #[.int .i64 most] 3))) := (((Below.refl _ _).alloc (Nat.le_refl _) _).alloc (by simp) _).alloc (by simp; omega) _
  go_enter Try.func16, Try.ntmps16
  go_wp2_with fail
  refine (HG.out _ HB.out).mono ?_
  rintro e w9 ⟨rfl, hw9⟩
  rw [hw9]
  clear hw9
  go_wp2_with fail
  go_ret
  exact ⟨rfl, HB.out⟩

end Go.Proofs.Ythpkppfnfbkjoaa

namespace Go.Proofs.Ythpkppfnfbkjoaa
open Go.RowKit
set_option maxRecDepth 100000

/-- a call -/
structure OpR where
  kd : Int
  k : ByteArray
  v : Int
  h : Int
/-- a look -/
structure LkR where
  k : ByteArray
  lo : ByteArray
  hi : ByteArray
  op : Bool
  back : Bool
  most : Int
abbrev opC (a : OpR) : Array Value := #[.int .i64 a.kd, .string a.k, .int .i64 a.v, .int .i64 a.h]
abbrev lkC (a : LkR) : Array Value := #[.string a.k, .string a.lo, .string a.hi, .bool a.op, .bool a.back, .int .i64 a.most]
/-- calls in memory -/
def RdO (w : World) (B : Nat) (q : Option Addr) (L : List OpR) : Prop := ∀ i (hi : i < L.length), ∃ b o, q = some ⟨b, o, none⟩ ∧ b < B ∧ w.cell? ⟨b, o + i * 4 + 0, none⟩ = some (.int .i64 L[i].kd) ∧ w.cell? ⟨b, o + i * 4 + 1, none⟩ = some (.string L[i].k) ∧ w.cell? ⟨b, o + i * 4 + 2, none⟩ = some (.int .i64 L[i].v) ∧ w.cell? ⟨b, o + i * 4 + 3, none⟩ = some (.int .i64 L[i].h)
theorem RdO.keep {w w' : World} {B : Nat} {q : Option Addr} {L : List OpR} (h : RdO w B q L) (hb : Below B w w') : RdO w' B q L := by
  intro i hi
  obtain ⟨b, o, e, hlt, c0, c1, c2, c3⟩ := h i hi
  have k : ∀ n v, w.cell? ⟨b, n, none⟩ = some v → w'.cell? ⟨b, n, none⟩ = some v := fun n v hc => (hb.cell (p := ⟨b, n, none⟩) hlt).trans hc
  exact ⟨b, o, e, hlt, k _ _ c0, k _ _ c1, k _ _ c2, k _ _ c3⟩
/-- looks in memory -/
def RdK (w : World) (B : Nat) (q : Option Addr) (L : List LkR) : Prop := ∀ i (hi : i < L.length), ∃ b o, q = some ⟨b, o, none⟩ ∧ b < B ∧ w.cell? ⟨b, o + i * 6 + 0, none⟩ = some (.string L[i].k) ∧ w.cell? ⟨b, o + i * 6 + 1, none⟩ = some (.string L[i].lo) ∧ w.cell? ⟨b, o + i * 6 + 2, none⟩ = some (.string L[i].hi) ∧ w.cell? ⟨b, o + i * 6 + 3, none⟩ = some (.bool L[i].op) ∧ w.cell? ⟨b, o + i * 6 + 4, none⟩ = some (.bool L[i].back) ∧ w.cell? ⟨b, o + i * 6 + 5, none⟩ = some (.int .i64 L[i].most)
theorem RdK.keep {w w' : World} {B : Nat} {q : Option Addr} {L : List LkR} (h : RdK w B q L) (hb : Below B w w') : RdK w' B q L := by
  intro i hi
  obtain ⟨b, o, e, hlt, c0, c1, c2, c3, c4, c5⟩ := h i hi
  have k : ∀ n v, w.cell? ⟨b, n, none⟩ = some v → w'.cell? ⟨b, n, none⟩ = some v := fun n v hc => (hb.cell (p := ⟨b, n, none⟩) hlt).trans hc
  exact ⟨b, o, e, hlt, k _ _ c0, k _ _ c1, k _ _ c2, k _ _ c3, k _ _ c4, k _ _ c5⟩

end Go.Proofs.Ythpkppfnfbkjoaa
