/- Layer 17 answers. -/
import Derived.Test.YtjeidpgkgjljcaaWRs10
import Derived.Test.YtjeidpgkgjljcaaWCl8
import Derived.Test.YtjeidpgkgjljcaaWCl9
import Derived.Test.YtjeidpgkgjljcaaWCl10
namespace Go.Proofs.Ytjeidpgkgjljcaa
open Go.RowKit
set_option maxRecDepth 100000

def pA : Pt := ⟨0, -1, ⟨#[97]⟩⟩
theorem SlP.one {w : World} {b : Nat} (h : Blk w b #[.int .i64 0, .int .i64 (-1), .string ⟨#[97]⟩] 27) : SlP w (.slice (some ⟨b, 0, none⟩) 1 1) [pA] :=
  ⟨some ⟨b, 0, none⟩, 1, rfl, Nat.le_refl _, (fun h => by cases h), fun i hi => by
    have e : i = 0 := by simp at hi; exact hi
    subst e
    exact ⟨b, 0, rfl, h.lt, h.cell (i := 0) rfl, h.cell (i := 1) rfl, h.cell (i := 2) rfl⟩⟩
theorem SlP.nil (w : World) : SlP w (.slice none 0 0) [] := ⟨none, 0, rfl, Nat.le_refl _, fun _ => rfl, fun i hi => absurd hi (by simp)⟩
theorem SlS.nil (w : World) : SlS w (.slice none 0 0) [] := ⟨none, 0, rfl, Nat.le_refl _, fun _ => rfl, fun i hi => absurd hi (by simp)⟩

set_option maxHeartbeats 4000000 in
theorem awake_any (w : World) : Calls Try.prog 15 #[] w fun e w' => e = .returned (.bool true) ∧ Below w.heap.size w w' := by
  have z1 : (w.alloc (.cells #[.int .i64 0, .int .i64 (-1), .string ⟨#[97]⟩] 27)).heap.size = w.heap.size + 1 := by simp
  have z2 : ((w.alloc (.cells #[.int .i64 0, .int .i64 (-1), .string ⟨#[97]⟩] 27)).alloc (.cells #[.slice (some ⟨w.heap.size, 0, none⟩) 1 1, .slice none 0 0, .slice none 0 0] 25)).heap.size = w.heap.size + 1 + 1 := by simp
  have z3 : (((w.alloc (.cells #[.int .i64 0, .int .i64 (-1), .string ⟨#[97]⟩] 27)).alloc (.cells #[.slice (some ⟨w.heap.size, 0, none⟩) 1 1, .slice none 0 0, .slice none 0 0] 25)).alloc (.cells #[.int .i64 0, .int .i64 (-1), .string ⟨#[97]⟩] 27)).heap.size = w.heap.size + 1 + 1 + 1 := by simp
  have l1 : Below w.heap.size w (w.alloc (.cells #[.int .i64 0, .int .i64 (-1), .string ⟨#[97]⟩] 27)) := (Below.refl _ _).alloc (Nat.le_refl _) _
  have l2 : Below (w.alloc (.cells #[.int .i64 0, .int .i64 (-1), .string ⟨#[97]⟩] 27)).heap.size (w.alloc (.cells #[.int .i64 0, .int .i64 (-1), .string ⟨#[97]⟩] 27)) ((w.alloc (.cells #[.int .i64 0, .int .i64 (-1), .string ⟨#[97]⟩] 27)).alloc (.cells #[.slice (some ⟨w.heap.size, 0, none⟩) 1 1, .slice none 0 0, .slice none 0 0] 25)) := (Below.refl _ _).alloc (Nat.le_refl _) _
  have l3 : Below ((w.alloc (.cells #[.int .i64 0, .int .i64 (-1), .string ⟨#[97]⟩] 27)).alloc (.cells #[.slice (some ⟨w.heap.size, 0, none⟩) 1 1, .slice none 0 0, .slice none 0 0] 25)).heap.size ((w.alloc (.cells #[.int .i64 0, .int .i64 (-1), .string ⟨#[97]⟩] 27)).alloc (.cells #[.slice (some ⟨w.heap.size, 0, none⟩) 1 1, .slice none 0 0, .slice none 0 0] 25)) (((w.alloc (.cells #[.int .i64 0, .int .i64 (-1), .string ⟨#[97]⟩] 27)).alloc (.cells #[.slice (some ⟨w.heap.size, 0, none⟩) 1 1, .slice none 0 0, .slice none 0 0] 25)).alloc (.cells #[.int .i64 0, .int .i64 (-1), .string ⟨#[97]⟩] 27)) := (Below.refl _ _).alloc (Nat.le_refl _) _
  have l4 : Below (((w.alloc (.cells #[.int .i64 0, .int .i64 (-1), .string ⟨#[97]⟩] 27)).alloc (.cells #[.slice (some ⟨w.heap.size, 0, none⟩) 1 1, .slice none 0 0, .slice none 0 0] 25)).alloc (.cells #[.int .i64 0, .int .i64 (-1), .string ⟨#[97]⟩] 27)).heap.size (((w.alloc (.cells #[.int .i64 0, .int .i64 (-1), .string ⟨#[97]⟩] 27)).alloc (.cells #[.slice (some ⟨w.heap.size, 0, none⟩) 1 1, .slice none 0 0, .slice none 0 0] 25)).alloc (.cells #[.int .i64 0, .int .i64 (-1), .string ⟨#[97]⟩] 27)) ((((w.alloc (.cells #[.int .i64 0, .int .i64 (-1), .string ⟨#[97]⟩] 27)).alloc (.cells #[.slice (some ⟨w.heap.size, 0, none⟩) 1 1, .slice none 0 0, .slice none 0 0] 25)).alloc (.cells #[.int .i64 0, .int .i64 (-1), .string ⟨#[97]⟩] 27)).alloc (.cells #[.slice none 0 0, .slice none 0 0, .slice (some ⟨w.heap.size + 1 + 1, 0, none⟩) 1 1] 25)) := (Below.refl _ _).alloc (Nat.le_refl _) _
  have hP1 := (((Blk.new w #[.int .i64 0, .int .i64 (-1), .string ⟨#[97]⟩] 27).on l2).on l3).on l4
  have hF1 := ((Blk.new (w.alloc (.cells #[.int .i64 0, .int .i64 (-1), .string ⟨#[97]⟩] 27)) #[.slice (some ⟨w.heap.size, 0, none⟩) 1 1, .slice none 0 0, .slice none 0 0] 25).on l3).on l4
  have hP2 := (Blk.new ((w.alloc (.cells #[.int .i64 0, .int .i64 (-1), .string ⟨#[97]⟩] 27)).alloc (.cells #[.slice (some ⟨w.heap.size, 0, none⟩) 1 1, .slice none 0 0, .slice none 0 0] 25)) #[.int .i64 0, .int .i64 (-1), .string ⟨#[97]⟩] 27).on l4
  have hF2 := Blk.new (((w.alloc (.cells #[.int .i64 0, .int .i64 (-1), .string ⟨#[97]⟩] 27)).alloc (.cells #[.slice (some ⟨w.heap.size, 0, none⟩) 1 1, .slice none 0 0, .slice none 0 0] 25)).alloc (.cells #[.int .i64 0, .int .i64 (-1), .string ⟨#[97]⟩] 27)) #[.slice none 0 0, .slice none 0 0, .slice (some ⟨w.heap.size + 1 + 1, 0, none⟩) 1 1] 25
  rw [z1] at hF1
  rw [z2] at hP2
  rw [z3] at hF2
  have hal : Below w.heap.size w ((((w.alloc (.cells #[.int .i64 0, .int .i64 (-1), .string ⟨#[97]⟩] 27)).alloc (.cells #[.slice (some ⟨w.heap.size, 0, none⟩) 1 1, .slice none 0 0, .slice none 0 0] 25)).alloc (.cells #[.int .i64 0, .int .i64 (-1), .string ⟨#[97]⟩] 27)).alloc (.cells #[.slice none 0 0, .slice none 0 0, .slice (some ⟨w.heap.size + 1 + 1, 0, none⟩) 1 1] 25)) := ((l1.trans (l2.mono (by omega))).trans (l3.mono (by omega))).trans (l4.mono (by omega))
  have HR : Hid (RdF ((((w.alloc (.cells #[.int .i64 0, .int .i64 (-1), .string ⟨#[97]⟩] 27)).alloc (.cells #[.slice (some ⟨w.heap.size, 0, none⟩) 1 1, .slice none 0 0, .slice none 0 0] 25)).alloc (.cells #[.int .i64 0, .int .i64 (-1), .string ⟨#[97]⟩] 27)).alloc (.cells #[.slice none 0 0, .slice none 0 0, .slice (some ⟨w.heap.size + 1 + 1, 0, none⟩) 1 1] 25)) (.slice (some ⟨w.heap.size, 0, none⟩) 1 1) (.slice none 0 0) (.slice none 0 0) ⟨[pA], [], []⟩ ∧ RdF ((((w.alloc (.cells #[.int .i64 0, .int .i64 (-1), .string ⟨#[97]⟩] 27)).alloc (.cells #[.slice (some ⟨w.heap.size, 0, none⟩) 1 1, .slice none 0 0, .slice none 0 0] 25)).alloc (.cells #[.int .i64 0, .int .i64 (-1), .string ⟨#[97]⟩] 27)).alloc (.cells #[.slice none 0 0, .slice none 0 0, .slice (some ⟨w.heap.size + 1 + 1, 0, none⟩) 1 1] 25)) (.slice none 0 0) (.slice none 0 0) (.slice (some ⟨w.heap.size + 1 + 1, 0, none⟩) 1 1) ⟨[], [], [pA]⟩) :=
    ⟨⟨SlP.one hP1, SlS.nil _, SlP.nil _, by decide, by decide, by decide⟩, ⟨SlP.nil _, SlS.nil _, SlP.one hP2, by decide, by decide, by decide⟩⟩
  have HW : Hid (Below w.heap.size w ((((w.alloc (.cells #[.int .i64 0, .int .i64 (-1), .string ⟨#[97]⟩] 27)).alloc (.cells #[.slice (some ⟨w.heap.size, 0, none⟩) 1 1, .slice none 0 0, .slice none 0 0] 25)).alloc (.cells #[.int .i64 0, .int .i64 (-1), .string ⟨#[97]⟩] 27)).alloc (.cells #[.slice none 0 0, .slice none 0 0, .slice (some ⟨w.heap.size + 1 + 1, 0, none⟩) 1 1] 25)) ∧ Blk ((((w.alloc (.cells #[.int .i64 0, .int .i64 (-1), .string ⟨#[97]⟩] 27)).alloc (.cells #[.slice (some ⟨w.heap.size, 0, none⟩) 1 1, .slice none 0 0, .slice none 0 0] 25)).alloc (.cells #[.int .i64 0, .int .i64 (-1), .string ⟨#[97]⟩] 27)).alloc (.cells #[.slice none 0 0, .slice none 0 0, .slice (some ⟨w.heap.size + 1 + 1, 0, none⟩) 1 1] 25)) (w.heap.size + 1) #[.slice (some ⟨w.heap.size, 0, none⟩) 1 1, .slice none 0 0, .slice none 0 0] 25) := ⟨hal, hF1⟩
  have C1 : Hid (Calls _ _ _ _ _) := clash_any ⟨[pA], [], []⟩ ⟨[], [], [pA]⟩ _ _ _ _ _ _ ((((w.alloc (.cells #[.int .i64 0, .int .i64 (-1), .string ⟨#[97]⟩] 27)).alloc (.cells #[.slice (some ⟨w.heap.size, 0, none⟩) 1 1, .slice none 0 0, .slice none 0 0] 25)).alloc (.cells #[.int .i64 0, .int .i64 (-1), .string ⟨#[97]⟩] 27)).alloc (.cells #[.slice none 0 0, .slice none 0 0, .slice (some ⟨w.heap.size + 1 + 1, 0, none⟩) 1 1] 25)) HR.out.1 HR.out.2
  clear z1 z2 z3 l1 l2 l3 l4 hP1 hF1 hP2 hF2 hal
  go_enter Try.func15, Try.ntmps15
  go_wp2_with fail
  generalize (((w.alloc (.cells #[.int .i64 0, .int .i64 (-1), .string ⟨#[97]⟩] 27)).alloc (.cells #[.slice (some ⟨w.heap.size, 0, none⟩) 1 1, .slice none 0 0, .slice none 0 0] 25)).alloc (.cells #[.int .i64 0, .int .i64 (-1), .string ⟨#[97]⟩] 27)).alloc (.cells #[.slice none 0 0, .slice none 0 0, .slice (some ⟨w.heap.size + 1 + 1, 0, none⟩) 1 1] 25) = w4 at *
  refine C1.out.mono ?_
  rintro e w5 ⟨o, hm, rfl, hb5⟩
  have ho : o = some pA := hm.uniq (show IsMin _ (some pA) from ⟨⟨List.mem_singleton.2 rfl, .inl (List.mem_singleton.2 rfl)⟩, fun z hz => by
    rw [List.mem_singleton.1 hz.1]
    exact ltP_irrefl _⟩)
  subst ho
  have hal5 : Below w5.heap.size w5 (w5.alloc (.cells #[.int .i64 0, .int .i64 (-1), .string ⟨#[97]⟩] 27)) := (Below.refl _ _).alloc (Nat.le_refl _) _
  have HX : Hid (Below w4.heap.size w4 (w5.alloc (.cells #[.int .i64 0, .int .i64 (-1), .string ⟨#[97]⟩] 27))) := hb5.trans (hal5.mono hb5.size)
  have hF := HW.out.2.on HX.out
  have hF5 := HW.out.2.on hb5
  have g0 := hF.cell (i := 0) rfl
  have g1 := hF.cell (i := 1) rfl
  have g2 := hF.cell (i := 2) rfl
  have C2 : Hid (Calls Try.prog 10 #[.agg #[.slice (some ⟨w.heap.size, 0, none⟩) 1 1, .slice none 0 0, .slice none 0 0], .agg #[.int .i64 0, .int .i64 (-1), .string ⟨#[97]⟩]] (w5.alloc (.cells #[.int .i64 0, .int .i64 (-1), .string ⟨#[97]⟩] 27)) fun e w' => e = .returned (.bool true) ∧ Below (w5.alloc (.cells #[.int .i64 0, .int .i64 (-1), .string ⟨#[97]⟩] 27)).heap.size (w5.alloc (.cells #[.int .i64 0, .int .i64 (-1), .string ⟨#[97]⟩] 27)) w') := by
    have h := reads_any ⟨[pA], [], []⟩ pA _ _ _ _ (HR.out.1.on HX.out)
    have e : rdsB ⟨[pA], [], []⟩ pA = true := (rdsB_iff _ _).2 (.inl (List.mem_singleton.2 rfl))
    rw [e] at h
    exact h
  clear hm hb5 hF hF5 hal5 C1
  have e0 : PV (lP (some pA)) = .agg #[.int .i64 0, .int .i64 (-1), .string ⟨#[97]⟩] := rfl
  rw [e0]
  clear e0
  simp only [Option.isSome_some]
  go_wp2_with fail
  refine C2.out.mono ?_
  rintro e w6 ⟨rfl, hb6⟩
  have HE : Hid (Below w.heap.size w w6) := (HW.out.1.trans (HX.out.mono HW.out.1.size)).trans (hb6.mono (Nat.le_trans HW.out.1.size HX.out.size))
  clear hb6 C2 g0 g1 g2
  go_wp2_with fail
  go_ret
  exact ⟨rfl, HE.out⟩
end Go.Proofs.Ytjeidpgkgjljcaa
