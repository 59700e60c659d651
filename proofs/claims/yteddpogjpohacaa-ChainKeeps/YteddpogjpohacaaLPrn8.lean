/- ChainPrunes: the law's walk. -/
import Derived.Test.YteddpogjpohacaaWAwk8
import Derived.Test.YteddpogjpohacaaWMay8
import Derived.Test.YteddpogjpohacaaWPrn8
namespace Go.Proofs.Yteddpogjpohacaa
open Go.RowKit
set_option maxRecDepth 100000

theorem prnJ_sub (L : List Rw) (s : Int) (j : Nat) : ∀ r ∈ prnJ L s j, r ∈ L := by
  intro r hr
  unfold prnJ at hr
  rw [List.mem_map] at hr
  obtain ⟨z, hz, rfl⟩ := hr
  have h1 := (List.mem_filter.1 hz).1
  have h2 := List.fst_mem_of_mem_zipIdx h1
  exact List.mem_of_mem_take h2
theorem shortR_sub {L M : List Rw} (h : shortR L) (hs : ∀ r ∈ M, r ∈ L) : shortR M := by
  intro i hi
  obtain ⟨j, hj, e⟩ := List.getElem_of_mem (hs _ (List.getElem_mem hi))
  rw [← e]
  exact h j hj
theorem shortR_prn {L : List Rw} (h : shortR L) (s : Int) : shortR (prnL L s) := shortR_sub h (prnJ_sub L s _)

set_option maxHeartbeats 4000000 in
theorem lawPrunes (L : List Rw) (p : Option Addr) (c : Nat) (s : Int) (w : World) (hR : RdR .u64 w w.heap.size p L) (hlen : L.length ≤ 3518437208780) (hsh : shortR L) :
    Calls Try.prog 5 #[.slice p L.length c, .int .u64 s] w fun e w' => e = .returned (.bool true) ∧ Below w.heap.size w w' := by
  have HR : Hid (∀ w1, Below w.heap.size w w1 → RdR .u64 w1 w1.heap.size p L) := fun w1 h => hR.on h
  have HPL : Hid ((prnL L s).length ≤ 17592186043904 ∧ shortR (prnL L s)) := ⟨by have := prnL_len L s; omega, shortR_prn hsh s⟩
  have C1 : Hid (Calls _ _ _ _ _) := may_any L p c w hR (by omega)
  have C2 : Hid (∀ w1, Below w.heap.size w w1 → Calls Try.prog 22 #[.slice p L.length c, .int .u64 s] w1 fun e w' => (∃ v Z, e = .returned (.tuple #[v, .int .i64 ((L.length - (prnL L s).length : Nat) : Int)]) ∧ Z.map Prod.fst = prnL L s ∧ OwnRs .u64 36 w' w1.heap.size v Z) ∧ Below w1.heap.size w1 w') := fun w1 h => prune_any L p c s w1 (HR.out w1 h) (by omega) hsh
  have C3 : Hid (∀ w1, Below w.heap.size w w1 → Calls Try.prog 23 #[.slice p L.length c, .int .u64 s] w1 fun e w' => (∃ v Z, e = .returned (.tuple #[v, .int .i64 ((L.length - (prnL L s).length : Nat) : Int)]) ∧ Z.map Prod.fst = prnL L s ∧ HasRs .u64 36 w' w1.heap.size v Z) ∧ Below w1.heap.size w1 w') := fun w1 h => rprune_any L p c s w1 (HR.out w1 h) (by omega) hsh
  clear hR hsh HR
  generalize mayL L = m at *
  generalize (L.length - (prnL L s).length : Nat) = d at *
  cases m
  · go_enter Try.func5, Try.ntmps5
    go_wp2_with fail
    refine C1.out.mono ?_
    rintro e w1 ⟨rfl, hb1⟩
    go_wp2_with fail
    refine (awake_any _).mono ?_
    rintro e w2 ⟨rfl, hb2⟩
    go_wp2_with fail
    go_ret
    exact ⟨rfl, hb1.trans (hb2.mono hb1.size)⟩
  · go_enter Try.func5, Try.ntmps5
    go_wp2_with fail
    refine C1.out.mono ?_
    rintro e w1 ⟨rfl, hb1⟩
    have HB1 : Hid (Below w.heap.size w w1) := hb1
    clear hb1 C1
    go_wp2_with fail
    refine (C2.out _ HB1.out).mono ?_
    rintro e w2 ⟨⟨v, Z, rfl, hZ, hO⟩, hb2⟩
    obtain ⟨pa, ca, rfl, _, hra⟩ := hO.rd hZ
    have HB2 : Hid (Below w.heap.size w w2) := HB1.out.trans (hb2.mono HB1.out.size)
    have HRa : Hid (RdR .u64 w2 w2.heap.size pa (prnL L s)) := hra
    clear hb2 hO hZ hra HB1 C2
    go_wp2_with fail
    refine (C3.out _ HB2.out).mono ?_
    rintro e w3 ⟨⟨v, Z, rfl, hZ, hO⟩, hb3⟩
    obtain ⟨pb, cb, rfl, _, hrb⟩ := hO.rd hb3.size hZ
    have HB3 : Hid (Below w.heap.size w w3) := HB2.out.trans (hb3.mono HB2.out.size)
    have CS : Hid (Calls _ _ _ _ _) := sameChain_eq (prnL L s) pa pb ca cb w3 (HRa.out.on hb3) hrb HPL.out.1 HPL.out.2
    clear hb3 hO hZ hrb HB2 C3 HRa
    go_wp2_with fail
    refine CS.out.mono ?_
    rintro e w4 ⟨rfl, hb4⟩
    have HB4 : Hid (Below w.heap.size w w4) := HB3.out.trans (hb4.mono HB3.out.size)
    clear hb4 HB3 CS
    go_wp2_with fail
    refine (awake_any _).mono ?_
    rintro e w5 ⟨rfl, hb5⟩
    have HB5 : Hid (Below w.heap.size w w5) := HB4.out.trans (hb5.mono HB4.out.size)
    clear hb5 HB4
    go_wp2_with fail
    go_ret
    exact ⟨rfl, HB5.out⟩
end Go.Proofs.Yteddpogjpohacaa
