/- SnapMakes: the law's walk. -/
import Derived.Test.YtbmgkoifidhfjaaWSnpI
namespace Go.Proofs.Ytbmgkoifidhfjaa
open Go.RowKit
set_option maxRecDepth 100000

set_option maxHeartbeats 2000000 in
theorem lawMakes (fl : Nat) (w : World) :
    Calls Try.prog 3 #[.int .u64 (fl : Nat)] w fun e w' => e = .returned (.bool true) ∧ Below w.heap.size w w' := by
  have C1 : Hid (Calls _ _ _ _ _) := new_any fl w
  go_enter Try.func3, Try.ntmps3
  go_wp2_with fail
  refine C1.out.mono ?_
  rintro e w1 ⟨⟨hf, rfl⟩ | ⟨hf, sb, rfl, hsb, hs1⟩, hb1⟩
  · have C2 : Hid (Calls _ _ _ _ _) := rnew_any fl w1
    have HB1 : Hid (Below w.heap.size w w1) := hb1
    have HF : Hid (4611686018427387904 < fl) := hf
    clear hb1 hf C1
    go_wp2_with fail
    refine C2.out.mono ?_
    rintro e w2 ⟨⟨_, rfl⟩ | ⟨hf2, _⟩, hb2⟩
    · have HB3 : Hid (Below w.heap.size w (w2.alloc (.cells #[.int .u64 0, .slice none 0 0] 29))) := (HB1.out.trans (hb2.mono HB1.out.size)).trans (((Below.refl _ _).alloc (Nat.le_refl _) _).mono (Nat.le_trans HB1.out.size hb2.size))
      have C3 : Hid (Calls _ _ _ _ _) := awake_any (w2.alloc (.cells #[.int .u64 0, .slice none 0 0] 29))
      clear hb2 C2
      go_wp2_with fail
      refine C3.out.mono ?_
      rintro e w4 ⟨rfl, hb4⟩
      have HB4 : Hid (Below w.heap.size w w4) := HB3.out.trans (hb4.mono HB3.out.size)
      clear hb4 C3
      go_wp2_with fail
      go_ret
      exact ⟨rfl, HB4.out⟩
    · exact absurd HF.out (by omega)
  · have C2 : Hid (Calls _ _ _ _ _) := rnew_any fl w1
    have HB1 : Hid (Below w.heap.size w w1) := hb1
    have HF : Hid (fl ≤ 4611686018427387904) := hf
    have HS1 : Hid (Snp w1 sb fl []) := hs1
    clear hb1 hf C1 hs1 hsb
    go_wp2_with fail
    refine C2.out.mono ?_
    rintro e w2 ⟨⟨hf2, _⟩ | ⟨_, rfl⟩, hb2⟩
    · exact absurd HF.out (by omega)
    have L3 : Below w2.heap.size w2 (w2.alloc (.cells #[.int .u64 (fl : Nat), .slice none 0 0] 29)) := (Below.refl _ _).alloc (Nat.le_refl _) _
    have HB3 : Hid (Below w.heap.size w (w2.alloc (.cells #[.int .u64 (fl : Nat), .slice none 0 0] 29))) := (HB1.out.trans (hb2.mono HB1.out.size)).trans (L3.mono (Nat.le_trans HB1.out.size hb2.size))
    have hb := BoxT.new w2 #[.int .u64 (fl : Nat), .slice none 0 0] 29
    have q0 : (w2.alloc (.cells #[.int .u64 (fl : Nat), .slice none 0 0] 29)).cell? ⟨w2.heap.size, 0, none⟩ = some (.int .u64 (fl : Nat)) := hb.cell
    have q1 : (w2.alloc (.cells #[.int .u64 (fl : Nat), .slice none 0 0] 29)).cell? ⟨w2.heap.size, 1, none⟩ = some (.slice none 0 0) := hb.cell
    have C3 : Hid (Calls _ _ _ _ _) := is_any sb fl (.slice none 0 0) [] (w2.alloc (.cells #[.int .u64 (fl : Nat), .slice none 0 0] 29)) ((HS1.out.on hb2).on L3) (OwR.nil _ _)
    clear hb2 C2 L3 hb HS1
    go_wp2_with fail
    refine C3.out.mono ?_
    rintro e w4 ⟨rfl, hb4⟩
    have HB4 : Hid (Below w.heap.size w w4) := HB3.out.trans (hb4.mono HB3.out.size)
    have C4 : Hid (Calls _ _ _ _ _) := awake_any w4
    clear hb4 C3
    go_wp2_with fail
    refine C4.out.mono ?_
    rintro e w5 ⟨rfl, hb5⟩
    have HB5 : Hid (Below w.heap.size w w5) := HB4.out.trans (hb5.mono HB4.out.size)
    clear hb5 C4
    go_wp2_with fail
    go_ret
    exact ⟨rfl, HB5.out⟩
end Go.Proofs.Ytbmgkoifidhfjaa
