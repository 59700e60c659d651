/- The walk of the statement that counters and histograms know nothing of one another, whatever the number of shards. -/
import Derived.Test.YtammkfilihlmhaaLApb
import Derived.Test.YtammkfilihlmhaaLApc
namespace Go.Proofs.Ytammkfilihlmhaa

theorem lawApart (n : Int) (L : List Ad) (p : Option Addr) (c : Nat) (N : List Int) (q : Option Addr) (d : Nat) (w : World) (hR : RdA w w.heap.size p L) (hQ : RdN w w.heap.size q .u64 N) (hok : ∀ x ∈ N, 0 ≤ x ∧ x < 18446744073709551616) (hlen : L.length ≤ 140737488355328) (hlen2 : N.length ≤ 17592186044416) :
    Calls Try.prog 6 #[.int .i64 n, .slice p L.length c, .slice q N.length d] w fun e w' => e = .returned (.bool true) ∧ RowKit.Below w.heap.size w w' := by
  by_cases h : n < 1
  · exact lawApart_few L p c N q d w hR hQ hok hlen hlen2 n h
  · by_cases h2 : 64 < n
    · exact lawApart_many L p c N q d w hR hQ hok hlen hlen2 n h h2
    · obtain ⟨m, rfl⟩ : ∃ m : Nat, n = m := ⟨n.toNat, by omega⟩
      exact lawApart_good L p c N q d w hR hQ hok hlen hlen2 m (by omega) (by omega)
end Go.Proofs.Ytammkfilihlmhaa
