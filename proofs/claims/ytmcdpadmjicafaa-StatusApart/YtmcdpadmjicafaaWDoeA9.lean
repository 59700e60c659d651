/- does, of every act. -/
import Derived.Test.YtmcdpadmjicafaaWDoes9
import Derived.Test.YtmcdpadmjicafaaWDoeB9
import Derived.Test.YtmcdpadmjicafaaMAct9
namespace Go.Proofs.Ytmcdpadmjicafaa
open Go.RowKit Go.Maps
set_option maxRecDepth 100000

theorem does_any (k : Int) (F : Nat → Prop) (tb : Nat) (T : List Tx) (v : Value) (n : Int) (s : Nat) (w : World) (ht : Sta w F tb T) (hd : DocT w 0 v (docA 0 T)) (hv : ∀ g, v.ownBlock = some g → ¬ F g) (hlen : T.length < 4000000000000) (hn1 : -9223372036854775808 ≤ n) (hn2 : n < 9223372036854775808) :
    Calls Try.prog 9 #[ptr1 tb, tvD v T.length, .agg #[.int .i64 k, .int .i64 n, .int .u64 (s : Nat)]] w fun e w' => (∃ u F', e = .returned (.tuple #[tvD u (stepT k n s T).length, .bool true]) ∧ Sta w' F' tb (stepT k n s T) ∧ DocT w' 0 u (docA 0 (stepT k n s T)) ∧ (∀ g, u.ownBlock = some g → ¬ F' g) ∧ (∀ k, F' k → F k ∨ w.heap.size ≤ k) ∧ ∀ g, u.ownBlock = some g → v.ownBlock = some g ∨ w.heap.size ≤ g) ∧ Frm w w' F := by
  unfold stepT
  by_cases h0 : k = 0
  · subst h0
    simp only [if_pos]
    exact doesB_any F tb T v n s w ht hd hv hlen hn1 hn2
  · rw [if_neg h0]
    by_cases h1 : k = 1
    · subst h1
      rw [if_pos rfl]
      exact doesP_any F tb T v n s w ht hd hv hlen hn1 hn2
    · rw [if_neg h1]
      by_cases h2 : k = 2
      · subst h2
        rw [if_pos rfl]
        exact doesC_any F tb T v n s w ht hd hv hlen hn1 hn2
      · rw [if_neg h2]
        by_cases h3 : k = 3
        · subst h3
          rw [if_pos rfl]
          exact doesA_any F tb T v n s w ht hd hv hlen hn1 hn2
        · rw [if_neg h3]
          by_cases h4 : k = 4
          · subst h4
            rw [if_pos rfl]
            exact doesF_any F tb T v n s w ht hd hv hlen hn1 hn2
          · rw [if_neg h4]
            exact doesN_any k h0 h1 h2 h3 h4 F tb T v n s w ht hd hv hlen hn1 hn2
end Go.Proofs.Ytmcdpadmjicafaa
