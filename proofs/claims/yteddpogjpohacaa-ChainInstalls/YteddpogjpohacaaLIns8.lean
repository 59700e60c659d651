/- ChainInstalls: the law's walk. -/
import Derived.Test.YteddpogjpohacaaWAwk8
import Derived.Test.YteddpogjpohacaaWInR8
namespace Go.Proofs.Yteddpogjpohacaa
open Go.RowKit
set_option maxRecDepth 100000

theorem ins_len (L : List Rw) (v : Rw) : (insL L v).length ≤ L.length + 1 := by
  unfold insL
  split <;> simp
theorem ins_short {L : List Rw} {v : Rw} (h : shortR L) (hv : v.row.length ≤ 3518437208780) : shortR (insL L v) := by
  unfold insL
  split
  · intro i hi
    cases i with
    | zero => exact hv
    | succ i => exact h i (by simpa using hi)
  · intro i hi
    simp at hi

set_option maxHeartbeats 4000000 in
theorem lawInstalls (L : List Rw) (p : Option Addr) (c : Nat) (n : Int) (g : Bool) (row : List Vl) (q : Option Addr) (d : Nat) (w : World) (hR : RdR .u64 w w.heap.size p L) (hpc : p = none → c = 0) (hV : SlV w w.heap.size (.slice q row.length d) row) (hlen : L.length ≤ 3518437208780) (hsh : shortR L) (hrow : row.length ≤ 3518437208780) :
    Calls Try.prog 4 #[.slice p L.length c, .agg #[.int .u64 n, .bool g, .slice q row.length d]] w fun e w' => e = .returned (.bool true) ∧ Below w.heap.size w w' := by
  have HR : Hid (∀ w1, Below w.heap.size w w1 → RdR .u64 w1 w1.heap.size p L) := fun w1 h => hR.on h
  have HV : Hid (∀ w1, Below w.heap.size w w1 → SlV w1 w1.heap.size (.slice q row.length d) row) := fun w1 h => (hV.keep h).mono h.size
  have HPL : Hid ((insL L ⟨n, g, row⟩).length ≤ 17592186043904 ∧ shortR (insL L ⟨n, g, row⟩)) := ⟨by have := ins_len L ⟨n, g, row⟩; omega, ins_short hsh hrow⟩
  have C2 : Hid (∀ w1, Below w.heap.size w w1 → Calls Try.prog 19 #[.slice p L.length c, .agg #[.int .u64 n, .bool g, .slice q row.length d]] w1 fun e w' => (∃ v Z, e = .returned (.tuple #[v, .int .i64 (insE L ⟨n, g, row⟩)]) ∧ Z.map Prod.fst = insL L ⟨n, g, row⟩ ∧ OwnRs .u64 36 w' w1.heap.size v Z) ∧ Below w1.heap.size w1 w') := fun w1 h => install_any L p c n g row q d w1 (HR.out w1 h) (HV.out w1 h) hlen hsh hrow
  have C3 : Hid (∀ w1, Below w.heap.size w w1 → Calls Try.prog 20 #[.slice p L.length c, .agg #[.int .u64 n, .bool g, .slice q row.length d]] w1 fun e w' => (∃ v Z, e = .returned (.tuple #[v, .int .i64 (insE L ⟨n, g, row⟩)]) ∧ Z.map Prod.fst = insL L ⟨n, g, row⟩ ∧ HasRs .u64 36 w' w1.heap.size v Z) ∧ Below w1.heap.size w1 w') := fun w1 h => rinstall_any L p c n g row q d w1 (HR.out w1 h) hpc (HV.out w1 h) hlen
  have HX0 : Hid (Box (w.alloc (.cells #[.int .u64 n, .bool g, .slice q row.length d] 36)) w.heap.size _ _) := Box.new w #[.int .u64 n, .bool g, .slice q row.length d] 36
  have HB0 : Hid (Below w.heap.size w (w.alloc (.cells #[.int .u64 n, .bool g, .slice q row.length d] 36))) := by
    show Below _ _ _
    go_grown
  clear hR hsh HR HV hV hpc hrow
  generalize insE L ⟨n, g, row⟩ = er at *
  generalize insL L ⟨n, g, row⟩ = M at *
  generalize row.length = rl at *
  go_enter Try.func4, Try.ntmps4
  go_wp2_with fail
  generalize w.alloc (.cells #[.int .u64 n, .bool g, .slice q rl d] 36) = w1 at *
  refine (C2.out _ HB0.out).mono ?_
  rintro e w2 ⟨⟨v, Z, rfl, hZ, hO⟩, hb2⟩
  obtain ⟨pa, ca, rfl, _, hra⟩ := hO.rd hZ
  have HB2 : Hid (Below w.heap.size w w2) := HB0.out.trans (hb2.mono HB0.out.size)
  have HRa : Hid (RdR .u64 w2 w2.heap.size pa M) := hra
  obtain ⟨⟨x0, x1, x2⟩, _⟩ := box3 (HX0.out.on hb2)
  clear hb2 hO hZ hra HB0 HX0 C2
  go_wp2_with fail
  refine (C3.out _ HB2.out).mono ?_
  rintro e w3 ⟨⟨v, Z, rfl, hZ, hO⟩, hb3⟩
  obtain ⟨pb, cb, rfl, _, hrb⟩ := hO.rd hb3.size hZ
  have HB3 : Hid (Below w.heap.size w w3) := HB2.out.trans (hb3.mono HB2.out.size)
  have CS : Hid (Calls _ _ _ _ _) := sameChain_eq M pa pb ca cb w3 (HRa.out.on hb3) hrb HPL.out.1 HPL.out.2
  clear hb3 hO hZ hrb HB2 C3 HRa x0 x1 x2
  go_wp2_with fail
  refine CS.out.mono ?_
  rintro e w4 ⟨rfl, hb4⟩
  have HB4 : Hid (Below w.heap.size w w4) := HB3.out.trans (hb4.mono HB3.out.size)
  clear hb4 HB3 CS
  go_wp2_with fail
  refine (awake_any _).mono ?_
  rintro e w5 ⟨rfl, hb5⟩
  have HB5 : Hid (Below w.heap.size w w5) := HB4.out.trans (hb5.mono HB4.out.size)
  clear hb5 HB4
  go_wp2_with fail
  go_ret
  exact ⟨rfl, HB5.out⟩
end Go.Proofs.Yteddpogjpohacaa
