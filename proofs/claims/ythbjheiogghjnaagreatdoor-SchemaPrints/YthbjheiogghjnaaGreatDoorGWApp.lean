/- A key that is appended to: what it owns, what is kept; the walks of the functions that append numbers. Rows as bytes: varints, zigzag, pairs of bits. -/
import Derived.Test.YthbjheiogghjnaaGreatDoorProg
import Derived.WalkKit
import Derived.WalkLawsBesides
import Derived.Laws.AppendOwnNone
import Derived.Handy
import Derived.Test.YthbjheiogghjnaaGreatDoorGMCode
namespace Go.Proofs.YthbjheiogghjnaaGreatDoor
open Go.RowKit
set_option maxRecDepth 100000

theorem info_u8 : (Tryz.prog.info? 5).map (fun i => (i.zero, i.size, i.bytes)) = some (some (.int .u8 0), 1, 1) := by kernel_rfl

/-- bytes as cells -/
def bcells (bs : List UInt8) : List Value := bs.map fun b => Value.int .u8 (b.toNat : Int)
theorem bcells_len (bs : List UInt8) : (bcells bs).length = bs.length := by simp [bcells]
theorem bcells_append (a b : List UInt8) : bcells (a ++ b) = bcells a ++ bcells b := by simp [bcells]
/-- the slice v owns these bytes, in a block of number B or more -/
def OwnB (w : World) (B : Nat) (v : Value) (bs : List UInt8) : Prop := w.ownsRow B 5 1 v bs.length (bcells bs)
/-- all blocks below B, and all that are no rows of bytes, are as they were -/
structure Keep5 (B : Nat) (w w' : World) : Prop where
  below : Below B w w'
  other : ∀ (k : Nat) (o : Obj), w.heap[k]? = some o → (∀ c fr, o ≠ Obj.cells c 5 fr) → w'.heap[k]? = w.heap[k]?

theorem Keep5.refl (B : Nat) (w : World) : Keep5 B w w := ⟨Below.refl _ _, fun _ _ _ _ => rfl⟩
theorem Keep5.trans {B : Nat} {a b c : World} (h : Keep5 B a b) (k : Keep5 B b c) : Keep5 B a c :=
  ⟨h.below.trans k.below, fun j o hj ho => by
    have h1 := h.other j o hj ho
    rw [k.other j o (h1.trans hj) ho, h1]⟩
theorem Keep5.mono {B C : Nat} {a b : World} (h : Keep5 B a b) (hc : C ≤ B) : Keep5 C a b := ⟨h.below.mono hc, h.other⟩
theorem Keep5.of_below {B : Nat} {a b : World} (h : Below a.heap.size a b) (hb : B ≤ a.heap.size) : Keep5 B a b :=
  ⟨h.mono hb, fun j _o hj _ => h.block j (Array.getElem?_eq_some_iff.1 hj).1⟩
theorem Keep5.alloc {B : Nat} (w : World) (o : Obj) (hb : B ≤ w.heap.size) : Keep5 B w (w.alloc o) := Keep5.of_below ((Below.refl _ _).alloc (Nat.le_refl _) o) hb
theorem Keep5.drew {B : Nat} {a w : World} (h : Keep5 B a w) : Keep5 B a w.drew := ⟨h.below.drew, h.other⟩
theorem OwnB.mono {w : World} {B C : Nat} {v : Value} {bs : List UInt8} (h : OwnB w B v bs) (hc : C ≤ B) : OwnB w C v bs := by
  refine ⟨h.1, ?_⟩
  rcases h.2 with h1 | ⟨g, cap, cur, e, hb, r⟩
  · exact .inl h1
  · exact .inr ⟨g, cap, cur, e, Nat.le_trans hc hb, r⟩
theorem OwnB.nil (w : World) (B : Nat) : OwnB w B (.slice none 0 0) [] := World.ownsRow_nil w B _ _
theorem OwnB.kept {w w' : World} {B : Nat} {v : Value} {bs : List UInt8} (h : OwnB w B v bs) (hb : Below w.heap.size w w') : OwnB w' B v bs := by
  refine ⟨h.1, ?_⟩
  rcases h.2 with h1 | ⟨g, cap, cur, e, hb', hg, r⟩
  · exact .inl h1
  · exact .inr ⟨g, cap, cur, e, hb', (hb.block g (Array.getElem?_eq_some_iff.1 hg).1).trans hg, r⟩
theorem OwnB.shape {w : World} {B : Nat} {v : Value} {bs : List UInt8} (h : OwnB w B v bs) : (v = .slice none 0 0 ∧ bs = []) ∨
    ∃ g cap, v = .slice (some ⟨g, 0, none⟩) bs.length cap ∧ B ≤ g ∧ g < w.heap.size ∧ ∀ j (hj : j < bs.length), w.cell? ⟨g, j, none⟩ = some (.int .u8 (bs[j].toNat : Int)) := by
  rcases h.2 with ⟨h1, h2⟩ | ⟨g, cap, cur, e, hb, hg, hr⟩
  · exact .inl ⟨h1, List.eq_nil_of_length_eq_zero h2⟩
  · refine .inr ⟨g, cap, e, hb, (Array.getElem?_eq_some_iff.1 hg).1, fun j hj => ?_⟩
    subst e
    have := World.ownsRow.cellAt (w := w) (e := 5) (size := 1) (g := g) (cap := cap) h j (by omega)
    rw [this]
    simp [bcells, hj]
theorem OwnB.len {w : World} {B : Nat} {v : Value} {bs : List UInt8} (h : OwnB w B v bs) : ∃ p cap, v = .slice p bs.length cap := by
  rcases h.shape with ⟨rfl, rfl⟩ | ⟨g, cap, e, _⟩
  · exact ⟨none, 0, rfl⟩
  · exact ⟨_, cap, e⟩
theorem keep_grown {B : Nat} {w w' : World} {v : Value} {bs : List UInt8} (h : OwnB w B v bs) (hb : B ≤ w.heap.size) (hg : w.grownBy w' v.ownBlock) : Keep5 B w w' := by
  refine ⟨(Below.refl _ _).grown hg hb (fun k hk => (h.lt k hk).1), fun k o hk ho => hg.block k (Array.getElem?_eq_some_iff.1 hk).1 ?_⟩
  intro e
  rcases h.2 with ⟨h1, h2⟩ | ⟨g, cap, cur, e2, _, hg2, _⟩
  · rw [h1] at e; simp [Value.ownBlock] at e
  · rw [e2] at e
    simp only [Value.ownBlock, Option.some.injEq] at e
    rw [e, hg2] at hk
    exact ho cur (0, 0) (Option.some.inj hk).symm

/-- 'append(key, src...)': the law for bytes -/
theorem wpList_app {ops : Array Oper} {rest : List Oper} {o : Oper} {a : Act} {Q : Exit → Act → World → Prop} (w : World) (hgd : o.guard = none) (s x : Operand)
    (ho : o.op = .call { callee := .builtin .append, args := #[s, x], argTypes := #[52, 52] })
    (B : Nat) (v : Value) (bs : List UInt8) (hs : a.eval s = v) (hown : OwnB w B v bs)
    (ad : Addr) (m c : Nat) (news : List UInt8) (hx : a.eval x = .slice (some ad) m c) (hm : news.length = m) (hnews : ∀ j (hj : j < news.length), w.cell? (ad.add j) = some (.int .u8 (news[j].toNat : Int)))
    (hlen : bs.length + news.length ≤ 140737488355328) (hbase : B ≤ w.heap.size)
    (h : ∀ v' w', OwnB w' B v' (bs ++ news) → Keep5 B w w' → wpList Tryz.prog ops Q rest (a.put o.dst v') w') : wpList Tryz.prog ops Q (o :: rest) a w := by
  obtain ⟨i, hi, hz0, hz1, hz2⟩ := info_parts info_u8
  subst hm
  refine wpList_append_own w hgd s x 52 ho B 5 i (.int .u8 0) 1 1 Tryz.underlying52 hi hz0 hz1 hz2 rfl (by decide) v bs.length (bcells bs) hs hown ad news.length c (bcells news) hx (by simp [bcells]) ?_ ?_ (by unfold maxLen; omega) (by omega) hbase ?_
  · intro j u hj
    have hj' : j < news.length := by
      have := (List.getElem?_eq_some_iff.1 hj).1
      simpa [bcells] using this
    rw [hnews j hj']
    simp [bcells, hj'] at hj
    rw [← hj]
  · intro u hu
    simp [bcells] at hu
    obtain ⟨b, _, rfl⟩ := hu
    rfl
  · intro v' w' h1 h2 _
    refine h v' w' ?_ (keep_grown hown hbase h2)
    unfold OwnB
    rw [bcells_append, List.length_append]
    exact h1
/-- 'append(key, x)' -/
theorem wpList_app1 {ops : Array Oper} {rest : List Oper} {o : Oper} {a : Act} {Q : Exit → Act → World → Prop} (w : World) (hgd : o.guard = none) (s x : Operand)
    (ho : o.op = .call { callee := .builtin .append, args := #[s, x], argTypes := #[52, 52] })
    (B : Nat) (v : Value) (bs : List UInt8) (hs : a.eval s = v) (hown : OwnB w B v bs)
    (b : UInt8) (z : Int) (hz : z = (b.toNat : Int)) (hx : a.eval x = .slice (some ⟨w.heap.size, 0, none⟩) 1 1)
    (hlen : bs.length + 1 ≤ 140737488355328) (hbase : B ≤ w.heap.size)
    (h : ∀ v' w', OwnB w' B v' (bs ++ [b]) → Keep5 B w w' → wpList Tryz.prog ops Q rest (a.put o.dst v') w') : wpList Tryz.prog ops Q (o :: rest) a (w.alloc (.cells #[.int .u8 z] 5)) := by
  subst hz
  refine wpList_app _ hgd s x ho B v bs hs (hown.kept ((Below.refl _ _).alloc (Nat.le_refl _) _)) ⟨w.heap.size, 0, none⟩ 1 1 [b] hx rfl ?_ (by simpa using hlen) (by simp; omega) fun v' w' h1 h2 => h v' w' h1 ((Keep5.alloc w _ hbase).trans h2)
  intro j hj
  have : j = 0 := by simp at hj; omega
  subst this
  simp [Addr.add]

theorem hiB_take (n : Nat) : ∀ (k j : Nat), j < k → (hiB n k).take (k - j) = (hiB n k).take (k - (j + 1)) ++ [UInt8.ofNat (n / 256 ^ j)]
  | 0, j, h => by omega
  | k + 1, j, h => by
    by_cases e : j = k
    · subst e
      have e1 : j + 1 - j = 1 := by omega
      have e2 : j + 1 - (j + 1) = 0 := by omega
      rw [e1, e2]
      simp [hiB]
    · have ih := hiB_take n k j (by omega)
      have e1 : k + 1 - j = (k - j) + 1 := by omega
      have e2 : k + 1 - (j + 1) = (k - (j + 1)) + 1 := by omega
      rw [e1, e2]
      simp only [hiB, List.take_succ_cons, List.cons_append, ih]
theorem hiB_take_all (n k : Nat) : (hiB n k).take (k - 0) = hiB n k := by
  rw [List.take_of_length_le]; rw [hiB_len]; omega

theorem byte_shr (n j : Nat) : ((n : Int) / 2 ^ (8 * j) % 256) = ((UInt8.ofNat (n / 256 ^ j)).toNat : Int) := by
  have e : (2 : Int) ^ (8 * j) = ((256 ^ j : Nat) : Int) := by
    rw [show (256 : Nat) = 2 ^ 8 from rfl, ← Nat.pow_mul]; norm_cast
  rw [ofNat_toNat8, e]
  norm_cast

theorem take_len (n k t : Nat) (h : k ≤ 8) : ((hiB n k).take t).length ≤ 8 := by
  rw [List.length_take, hiB_len]; omega



end Go.Proofs.YthbjheiogghjnaaGreatDoor

namespace Go.Proofs.YthbjheiogghjnaaGreatDoor
open Go.RowKit
set_option maxRecDepth 100000

/-- a number's varint, of k + 1 bytes at most -/
def varK : Nat → Nat → List UInt8
  | 0, n => [UInt8.ofNat n]
  | k + 1, n => if n < 128 then [UInt8.ofNat n] else UInt8.ofNat (n % 128 + 128) :: varK k (n / 128)
def varB (n : Nat) : List UInt8 := varK 9 n
theorem varK_small {k n : Nat} (h : n < 128) : varK k n = [UInt8.ofNat n] := by
  cases k with
  | zero => rfl
  | succ k => rw [varK, if_pos h]
theorem varK_big {k n : Nat} (h : ¬ n < 128) : varK (k + 1) n = UInt8.ofNat (n % 128 + 128) :: varK k (n / 128) := by rw [varK, if_neg h]
theorem varK_len : ∀ (k n : Nat), (varK k n).length ≤ k + 1
  | 0, _ => by simp [varK]
  | k + 1, n => by
    rw [varK]
    split
    · simp
    · have := varK_len k (n / 128)
      simp only [List.length_cons]
      omega
theorem varB_len (n : Nat) : (varB n).length ≤ 10 := varK_len 9 n
/-- zigzag of an int -/
def zig (n : Int) : Nat := if 0 ≤ n then (2 * n).toNat else (-2 * n - 1).toNat
theorem zig_lt {n : Int} (h1 : -9223372036854775808 ≤ n) (h2 : n ≤ 9223372036854775807) : zig n < 18446744073709551616 := by unfold zig; split <;> omega
/-- the two bits of a value -/
def pairN (v : Vl) : Nat := if v.k = 0 then 0 else if v.k = 1 ∧ v.n = 1 then 2 else 1
theorem pairN_lt (v : Vl) : pairN v < 3 := by unfold pairN; split <;> (try split) <;> omega
/-- eight bytes, the lowest first -/
def loB (f : Nat) (k : Nat) : List UInt8 := (List.range k).map fun i => UInt8.ofNat (f / 256 ^ i)
theorem loB_succ (f k : Nat) : loB f (k + 1) = loB f k ++ [UInt8.ofNat (f / 256 ^ k)] := by simp [loB, List.range_succ]
theorem loB_len (f k : Nat) : (loB f k).length = k := by simp [loB]
/-- what stands of a value behind the bits -/
def toldB (v : Vl) : List UInt8 := if v.k = 2 then varB (zig v.n) else if v.k = 3 then loB v.f 8 else if v.k = 4 ∨ v.k = 5 then varB v.s.size ++ v.s.data.toList else []
theorem toldB_len (v : Vl) : (toldB v).length ≤ 10 + v.s.size := by
  unfold toldB
  have := varB_len (zig v.n)
  have := varB_len v.s.size
  split
  · omega
  · split
    · rw [loB_len]; omega
    · split
      · simp; omega
      · simp
/-- the bits of the first j values, in n bytes -/
def packK (n : Nat) (l : List Vl) : Nat → List UInt8
  | 0 => List.replicate n 0
  | j + 1 => (packK n l j).modify (j / 4) fun b => match l[j]? with
    | some v => b ||| UInt8.ofNat (pairN v * 4 ^ (j % 4))
    | none => b
theorem packK_len (n : Nat) (l : List Vl) : ∀ j, (packK n l j).length = n
  | 0 => by simp [packK]
  | j + 1 => by simp [packK, packK_len n l j]
/-- a row's bytes -/
def rowB (l : List Vl) : List UInt8 := packK ((l.length + 3) / 4) l l.length ++ l.flatMap toldB
theorem packK_succ {n : Nat} {l : List Vl} {j : Nat} (hj : j < l.length) (hn : j / 4 < n) : packK n l (j + 1) = (packK n l j).set (j / 4) ((packK n l j)[j / 4]'(by rw [packK_len]; exact hn) ||| UInt8.ofNat (pairN l[j] * 4 ^ (j % 4))) := by
  rw [packK, List.getElem?_eq_getElem hj]
  apply List.ext_getElem (by simp)
  intro i h1 h2
  rw [List.getElem_modify, List.getElem_set]
  split
  · rename_i e
    subst e
    rfl
  · rfl

end Go.Proofs.YthbjheiogghjnaaGreatDoor
