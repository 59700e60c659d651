/- The shortest digits of any float: that they hang on the float alone. -/
import Derived.Test.YtljiokkdaelmpaaGreatDoorWFl3
import Derived.Test.YtljiokkdaelmpaaGreatDoorWFl4
import Derived.Test.YtljiokkdaelmpaaGreatDoorWFl5
namespace Go.Proofs.YtljiokkdaelmpaaGreatDoor
open Go.RowKit
set_option maxRecDepth 100000

theorem short_any (T : Nat → Int × Int) (m e : Int) (h1 : -1137 ≤ e) (h2 : e ≤ 960) : ∃ d p : Int, (U64 d ∧ -400 ≤ p ∧ p ≤ 400) ∧ ∀ w : World, 8 < w.heap.size → PT T w →
    Calls Tryz.prog 100 #[.int .u64 m, .int .i64 e] w fun e w' => e = .returned (.tuple #[.int .u64 d, .int .i64 p]) ∧ Below w.heap.size w w' := by
  cases h0 : (m == 9223372036854775808)
  · by_cases h3 : -1085 ≤ e
    · exact short_b T m e h0 h3 h2
    · exact short_c T m e h0 h1 (by omega)
  · by_cases h3 : -1085 < e
    · have hm : m = 9223372036854775808 := by simpa using h0
      subst hm
      exact short_a T e h3 h2
    · by_cases h4 : -1085 ≤ e
      · exact short_b2 T m e h0 h4 (by omega)
      · exact short_c2 T m e h0 h1 (by omega)
end Go.Proofs.YtljiokkdaelmpaaGreatDoor
