/- Feet in the making: the document's both. The document's both: a foot made of two. -/
import Derived.Test.YtcknhjabdjbjiabGreatGWRs2
namespace Go.Proofs.YtcknhjabdjbjiabGreat
open Go.RowKit
set_option maxRecDepth 100000

/-- 'append(l, r)', where the order is drawn -/
theorem wp_appP {o : Oper} {a : Act} {K : Act → World → Prop} {Q : Exit → Act → World → Prop} (w : World) (s x : Operand)
    (ho : o.op = .call { callee := .builtin .append, args := #[s, x], argTypes := #[24, 24] })
    (B : Nat) (v : Value) (L : List Pt) (hs : a.eval s = v) (hown : OwnP w B v L)
    (u : Pt) (g : Nat) (hx : a.eval x = .slice (some ⟨g, 0, none⟩) 1 1) (hgz : g = w.heap.size)
    (hlen : L.length + 1 ≤ 4398046511104) (hbase : B ≤ w.heap.size)
    (h : ∀ v' w', OwnP w' B v' (L ++ [u]) → Below B w w' → K (a.put o.dst v') w') : Oper.wp Tryz.prog o a (w.alloc (.cells #[.int .i64 u.t, .int .i64 u.i, .string u.k] 36)) K Q := by
  obtain ⟨i, hi, hz0, hz1, hz2⟩ := info_parts info_P
  subst hgz
  have hown' : OwnP (w.alloc (.cells #[.int .i64 u.t, .int .i64 u.i, .string u.k] 36)) B v L := hown.kept ((Below.refl _ _).alloc (Nat.le_refl _) _)
  refine wp_append_own _ s x 24 ho B 36 i (.agg #[.int .i64 0, .int .i64 0, .string ⟨#[]⟩]) 3 32 Tryz.underlying24 hi hz0 hz1 hz2 rfl (by decide) v L.length (pcells L) hs hown' ⟨w.heap.size, 0, none⟩ 1 1 (pcells [u]) hx rfl ?_ ?_ (by unfold maxLen; omega) (by omega) (by simp; omega) ?_
  · intro j y hj
    have hj' : j < 3 := by
      have := (List.getElem?_eq_some_iff.1 hj).1
      simpa [pcells, encP] using this
    have e : (⟨w.heap.size, 0, none⟩ : Addr).add j = ⟨w.heap.size, j, none⟩ := by unfold Addr.add; split <;> simp_all
    rw [e]
    have h4 : j = 0 ∨ j = 1 ∨ j = 2 := by omega
    rcases h4 with rfl | rfl | rfl <;> (simp [pcells, encP] at hj; subst hj; simp [go_sem])
  · intro y hy
    simp [pcells, encP] at hy
    rcases hy with rfl | rfl | rfl <;> rfl
  · intro v' w' h1 h2 _
    refine h v' w' ?_ ?_
    · unfold OwnP
      rw [pcells_append, List.length_append]
      exact h1
    · exact ((Below.refl _ _).alloc hbase _).grown h2 (by simp; omega) (fun k hk => (hown'.lt k hk).1)
/-- 'append(l, r)', where the order is drawn -/
theorem wp_appS {o : Oper} {a : Act} {K : Act → World → Prop} {Q : Exit → Act → World → Prop} (w : World) (s x : Operand)
    (ho : o.op = .call { callee := .builtin .append, args := #[s, x], argTypes := #[25, 25] })
    (B : Nat) (v : Value) (L : List Sp) (hs : a.eval s = v) (hown : OwnS w B v L)
    (u : Sp) (g : Nat) (hx : a.eval x = .slice (some ⟨g, 0, none⟩) 1 1) (hgz : g = w.heap.size)
    (hlen : L.length + 1 ≤ 2513169434916) (hbase : B ≤ w.heap.size)
    (h : ∀ v' w', OwnS w' B v' (L ++ [u]) → Below B w w' → K (a.put o.dst v') w') : Oper.wp Tryz.prog o a (w.alloc (.cells #[.int .i64 u.t, .int .i64 u.i, .string u.lo, .string u.hi, .bool u.op] 86)) K Q := by
  obtain ⟨i, hi, hz0, hz1, hz2⟩ := info_parts info_S
  subst hgz
  have hown' : OwnS (w.alloc (.cells #[.int .i64 u.t, .int .i64 u.i, .string u.lo, .string u.hi, .bool u.op] 86)) B v L := hown.kept ((Below.refl _ _).alloc (Nat.le_refl _) _)
  refine wp_append_own _ s x 25 ho B 86 i (.agg #[.int .i64 0, .int .i64 0, .string ⟨#[]⟩, .string ⟨#[]⟩, .bool false]) 5 56 Tryz.underlying25 hi hz0 hz1 hz2 rfl (by decide) v L.length (scells L) hs hown' ⟨w.heap.size, 0, none⟩ 1 1 (scells [u]) hx rfl ?_ ?_ (by unfold maxLen; omega) (by omega) (by simp; omega) ?_
  · intro j y hj
    have hj' : j < 5 := by
      have := (List.getElem?_eq_some_iff.1 hj).1
      simpa [scells, encS] using this
    have e : (⟨w.heap.size, 0, none⟩ : Addr).add j = ⟨w.heap.size, j, none⟩ := by unfold Addr.add; split <;> simp_all
    rw [e]
    have h4 : j = 0 ∨ j = 1 ∨ j = 2 ∨ j = 3 ∨ j = 4 := by omega
    rcases h4 with rfl | rfl | rfl | rfl | rfl <;> (simp [scells, encS] at hj; subst hj; simp [go_sem])
  · intro y hy
    simp [scells, encS] at hy
    rcases hy with rfl | rfl | rfl | rfl | rfl <;> rfl
  · intro v' w' h1 h2 _
    refine h v' w' ?_ ?_
    · unfold OwnS
      rw [scells_append, List.length_append]
      exact h1
    · exact ((Below.refl _ _).alloc hbase _).grown h2 (by simp; omega) (fun k hk => (hown'.lt k hk).1)
/-- what is there while a foot is made of two -/
structure BX (w wr : World) (va0 va1 va2 vb0 vb1 vb2 : Value) : Prop where
  lw : Below w.heap.size w wr
  ba : Blk wr w.heap.size #[va0, va1, va2] 27
  bb : Blk wr (w.heap.size + 1) #[vb0, vb1, vb2] 27
  br : Blk wr (w.heap.size + 1 + 1) #[.slice none 0 0, .slice none 0 0, .slice none 0 0] 27
  sz : w.heap.size + 1 + 1 < wr.heap.size
theorem BX.frm {w wr w' : World} {va0 va1 va2 vb0 vb1 vb2 : Value} (h : BX w wr va0 va1 va2 vb0 vb1 vb2) (hf : Frm wr w' (fun k => k = w.heap.size + 1 + 1 + 1)) : BX w w' va0 va1 va2 vb0 vb1 vb2 :=
  ⟨h.lw.trans (hf.below h.lw.size (fun k hk => by omega)), h.ba.frm hf (by omega), h.bb.frm hf (by omega), h.br.frm hf (by omega), Nat.lt_of_lt_of_le h.sz hf.size⟩
theorem Frm.of_belowB {w w' : World} {B : Nat} (h : Below B w w') (_hB : B ≤ w.heap.size) : Frm w w' (fun k => B ≤ k) := ⟨h.os, h.tape, h.output, h.size, fun k _ hn => h.block k (by omega)⟩

end Go.Proofs.YtcknhjabdjbjiabGreat

namespace Go.Proofs.YtcknhjabdjbjiabGreat
open Go.RowKit
set_option maxRecDepth 100000



end Go.Proofs.YtcknhjabdjbjiabGreat
