/- Acts, as they are read; what the laws know of a table and of the document's. -/
import Derived.Test.YtmcdpadmjicafaaWIs9
import Derived.Test.YtmcdpadmjicafaaMLaw9
namespace Go.Proofs.Ytmcdpadmjicafaa
open Go.RowKit Go.Maps
set_option maxRecDepth 100000

/-- an act -/
structure ActC where
  k : Int
  n : Int
  s : Nat
/-- acts that are read -/
def RdA (w : World) (B : Nat) (q : Option Addr) (L : List ActC) : Prop := ∀ i (hi : i < L.length), ∃ g o, q = some ⟨g, o, none⟩ ∧ g < B ∧ w.cell? ⟨g, o + i * 3, none⟩ = some (.int .i64 L[i].k) ∧ w.cell? ⟨g, o + i * 3 + 1, none⟩ = some (.int .i64 L[i].n) ∧ w.cell? ⟨g, o + i * 3 + 2, none⟩ = some (.int .u64 (L[i].s : Nat)) ∧ -9223372036854775808 ≤ L[i].n ∧ L[i].n < 9223372036854775808
theorem Sta.und {w : World} {F : Nat → Prop} {tb : Nat} {T : List Tx} (h : Sta w F tb T) : uN T ≤ 256 := by
  obtain ⟨mb, ov, B, O, hx⟩ := h
  rw [← uN_undI T 0, ← keepO_is hx.rise hx.inn hx.all]
  exact Nat.le_trans (keepO_len T O) hx.few
theorem Sta.flt {w : World} {F : Nat → Prop} {tb : Nat} {T : List Tx} (h : Sta w F tb T) (k : Nat) (hk : F k) : k < w.heap.size := by
  obtain ⟨mb, ov, B, O, hx⟩ := h
  exact hx.flt k hk
/-- A TABLE (block tb) AND THE DOCUMENT's (in the box bx): both hold T; all of it lies from block lo on. -/
structure PT (lo : Nat) (F : Nat → Prop) (tb bx : Nat) (T : List Tx) (v : Value) (wr : World) : Prop where
  sta : Sta wr F tb T
  doc : DocT wr 0 v (docA 0 T)
  off : ∀ g, v.ownBlock = some g → ¬ F g
  box : BoxT wr bx #[v, .int .i64 (T.length : Nat)] 27
  nbx : ¬ F bx
  vbx : ∀ g, v.ownBlock = some g → g ≠ bx
  lof : ∀ k, F k → lo ≤ k
  lov : ∀ g, v.ownBlock = some g → lo ≤ g
  lox : lo ≤ bx
/-- all blocks of both -/
def ownP (F : Nat → Prop) (bx : Nat) (v : Value) (k : Nat) : Prop := F k ∨ v.ownBlock = some k ∨ k = bx
section
variable {lo tb bx : Nat} {F : Nat → Prop} {T : List Tx} {v : Value} {wr : World}
theorem PT.lt (h : PT lo F tb bx T v wr) (k : Nat) (hk : ownP F bx v k) : k < wr.heap.size := by
  rcases hk with h1 | h1 | h1
  · exact h.sta.flt k h1
  · obtain ⟨cur, h2⟩ := own_cells h.doc h1
    exact (Array.getElem?_eq_some_iff.1 h2).1
  · rw [h1]
    exact h.box.lt
theorem PT.low (h : PT lo F tb bx T v wr) (k : Nat) (hk : ownP F bx v k) : lo ≤ k := by
  rcases hk with h1 | h1 | h1
  · exact h.lof k h1
  · exact h.lov k h1
  · rw [h1]
    exact h.lox
/-- what is beside it turns -/
theorem PT.keep {wr' : World} {G : Nat → Prop} (h : PT lo F tb bx T v wr) (hf : Frm wr wr' G) (hn : ∀ k, ownP F bx v k → ¬ G k) : PT lo F tb bx T v wr' :=
  ⟨h.sta.keep hf (fun k hk => hn k (.inl hk)), h.doc.block (fun g hg => hf.block g (h.lt g (.inr (.inl hg))) (hn g (.inr (.inl hg)))), h.off, (hf.block bx h.box.lt (hn bx (.inr (.inr rfl)))).trans h.box, h.nbx, h.vbx, h.lof, h.lov, h.lox⟩
theorem PT.on {wr' : World} (h : PT lo F tb bx T v wr) (hb : Below wr.heap.size wr wr') : PT lo F tb bx T v wr' := h.keep (Frm.of_below hb (F := fun _ => False)) (fun _ _ hf => hf)
theorem PT.drew (h : PT lo F tb bx T v wr) : PT lo F tb bx T v wr.drew := h.keep (Frm.drew (Frm.refl wr (fun _ => False))) (fun _ _ hf => hf)
/-- the table was asked -/
theorem PT.asked {wr' : World} (h : PT lo F tb bx T v wr) (hs : Sta wr' F tb T) (hf : Frm wr wr' F) : PT lo F tb bx T v wr' :=
  ⟨hs, h.doc.block (fun g hg => hf.block g (h.lt g (.inr (.inl hg))) (h.off g hg)), h.off, (hf.block bx h.box.lt h.nbx).trans h.box, h.nbx, h.vbx, h.lof, h.lov, h.lox⟩
theorem PT.boxOn {wr' : World} (h : PT lo F tb bx T v wr) (hf : Frm wr wr' F) : BoxT wr' bx #[v, .int .i64 (T.length : Nat)] 27 := (hf.block bx h.box.lt h.nbx).trans h.box
/-- an act was done by both -/
theorem PT.set {w2 : World} {F2 : Nat → Prop} {T2 : List Tx} {u : Value} (h : PT lo F tb bx T v wr) (hs : Sta w2 F2 tb T2) (hd : DocT w2 0 u (docA 0 T2)) (ho : ∀ g, u.ownBlock = some g → ¬ F2 g) (hF : ∀ k, F2 k → F k ∨ wr.heap.size ≤ k) (hu : ∀ g, u.ownBlock = some g → v.ownBlock = some g ∨ wr.heap.size ≤ g) (hf : Frm wr w2 F) :
    PT lo F2 tb bx T2 u ((w2.setCell ⟨bx, 0, none⟩ u).setCell ⟨bx, 1, none⟩ (.int .i64 (T2.length : Nat))) ∧ (∀ k, ownP F2 bx u k → ownP F bx v k ∨ wr.heap.size ≤ k) ∧ Frm wr ((w2.setCell ⟨bx, 0, none⟩ u).setCell ⟨bx, 1, none⟩ (.int .i64 (T2.length : Nat))) (ownP F bx v) := by
  have hbl := h.box.lt
  have hlx := h.lox
  have hn2 : ¬ F2 bx := fun hk => (hF bx hk).elim h.nbx (fun h => by omega)
  have hub : ∀ g, u.ownBlock = some g → g ≠ bx := fun g hg e => (hu g hg).elim (fun h1 => h.vbx g h1 e) (fun h1 => by omega)
  have hfz : Frm w2 ((w2.setCell ⟨bx, 0, none⟩ u).setCell ⟨bx, 1, none⟩ (.int .i64 (T2.length : Nat))) (fun k => k = bx) := (frm_set w2 _ 0 _ (F := fun k => k = bx) rfl).trans (frm_set _ _ 1 _ (F := fun k => k = bx) rfl) (fun k hk => .inl hk)
  refine ⟨⟨hs.keep hfz (fun k hk e => hn2 (by rw [← e]; exact hk)), hd.block (fun g hg => hfz.block g (by obtain ⟨cur, h2⟩ := own_cells hd hg; exact (Array.getElem?_eq_some_iff.1 h2).1) (hub g hg)), ho, ((h.boxOn hf).set (i := 0) _).set (i := 1) _, hn2, hub, ?_, ?_, h.lox⟩, ?_, ?_⟩
  · intro k hk
    exact (hF k hk).elim (h.lof k) (fun h => by omega)
  · intro k hk
    exact (hu k hk).elim (h.lov k) (fun h => by omega)
  · rintro k (hk | hk | hk)
    · exact (hF k hk).imp .inl id
    · exact (hu k hk).imp (fun h => .inr (.inl h)) id
    · exact .inl (.inr (.inr hk))
  · exact (hf.mono (fun k hk => .inl hk)).trans hfz (fun k hk => .inl (.inr (.inr hk)))
theorem PT.start {_w w1 : World} {lo tb : Nat} (hs : Sta w1 (fun k => lo ≤ k ∧ k < w1.heap.size) tb []) (hl : lo ≤ w1.heap.size) : PT lo (fun k => lo ≤ k ∧ k < w1.heap.size) tb w1.heap.size [] (.slice none 0 0) (w1.alloc (.cells #[.slice none 0 0, .int .i64 0] 27)) :=
  have hb : Below w1.heap.size w1 (w1.alloc (.cells #[.slice none 0 0, .int .i64 0] 27)) := (Below.refl _ _).alloc (Nat.le_refl _) _
  ⟨hs.keep (Frm.of_below hb (F := fun _ => False)) (fun _ _ h => h), ⟨rfl, .inl ⟨rfl, rfl⟩⟩, (fun g hg => by cases hg), BoxT.new _ _ _, (fun h => by omega), (fun g hg => by cases hg), fun k hk => hk.1, (fun g hg => by cases hg), hl⟩
end
end Go.Proofs.Ytmcdpadmjicafaa
