/- The least of some points. -/
import Derived.Test.YtjeidpgkgjljcaaMPt
namespace Go.Proofs.Ytjeidpgkgjljcaa

/-- o is the least of those of S, if there are any -/
def IsMin (S : Pt → Prop) : Option Pt → Prop
  | none => ∀ x, ¬ S x
  | some m => S m ∧ ∀ x, S x → ltP x m = false
theorem IsMin.uniq {S : Pt → Prop} : ∀ {o o' : Option Pt}, IsMin S o → IsMin S o' → o = o'
  | none, none, _, _ => rfl
  | none, some m, h, h' => absurd h'.1 (h m)
  | some m, none, h, h' => absurd h.1 (h' m)
  | some m, some n, h, h' => by rw [leP_antisymm (h'.2 m h.1) (h.2 n h'.1)]
theorem IsMin.ext {S T : Pt → Prop} : ∀ {o : Option Pt}, IsMin S o → (∀ x, S x ↔ T x) → IsMin T o
  | none, h, e => fun x hx => h x ((e x).2 hx)
  | some m, h, e => ⟨(e m).1 h.1, fun x hx => h.2 x ((e x).2 hx)⟩
def minO : Option Pt → Pt → Option Pt
  | none, p => some p
  | some q, p => if ltP p q then some p else some q
theorem IsMin.add {S : Pt → Prop} : ∀ {o : Option Pt}, IsMin S o → ∀ p, IsMin (fun x => S x ∨ x = p) (minO o p)
  | none, h, p => ⟨.inr rfl, fun x hx => by
    rcases hx with hx | rfl
    · exact absurd hx (h x)
    · exact ltP_irrefl _⟩
  | some q, h, p => by
    have e : minO (some q) p = if ltP p q then some p else some q := rfl
    rw [e]
    cases hc : ltP p q
    · show IsMin _ (some q)
      refine ⟨.inl h.1, fun x hx => ?_⟩
      rcases hx with hx | rfl
      · exact h.2 x hx
      · exact hc
    · show IsMin _ (some p)
      refine ⟨.inr rfl, fun x hx => ?_⟩
      rcases hx with hx | rfl
      · exact leP_trans (ltP_asymm hc) (h.2 x hx)
      · exact ltP_irrefl _
theorem IsMin.more {S T : Pt → Prop} : ∀ {o : Option Pt}, IsMin S o → (∀ x, S x → T x) → (∀ x, T x → ∃ y, S y ∧ ltP x y = false) → IsMin T o
  | none, h, _, h2 => fun x hx => by
    obtain ⟨y, hy, _⟩ := h2 x hx
    exact h y hy
  | some m, h, h1, h2 => ⟨h1 m h.1, fun x hx => by
    obtain ⟨y, hy, hl⟩ := h2 x hx
    exact leP_trans (h.2 y hy) hl⟩
/-- a least, in cells -/
def lC : Option Pt → Array Value
  | none => #[.int .i64 0, .int .i64 0, .string ⟨#[]⟩, .bool false]
  | some p => #[.int .i64 p.t, .int .i64 p.i, .string p.k, .bool true]
/-- what is told of it -/
def lP (o : Option Pt) : Pt := o.getD ⟨0, 0, ⟨#[]⟩⟩
end Go.Proofs.Ytjeidpgkgjljcaa
