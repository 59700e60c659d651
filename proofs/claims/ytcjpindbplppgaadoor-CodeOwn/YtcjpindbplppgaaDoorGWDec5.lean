/- The walk of the function that reads a text. The walk of the function that reads a value behind its tag. The walk of Decode. -/
import Derived.Test.YtcjpindbplppgaaDoorGWDec2
namespace Go.Proofs.YtcjpindbplppgaaDoor
open Go.RowKit
set_option maxRecDepth 100000

/-- a result's box: nothing is in it yet -/
def ZBox (w : World) (g : Nat) : Prop := w.heap[g]? = some (.cells #[.int .i64 0, .int .i64 0, .float .f64 0, .string ⟨#[]⟩] 32 (0, 0))
theorem ZBox.new (w : World) : ZBox (w.alloc (.cells #[.int .i64 0, .int .i64 0, .float .f64 0, .string ⟨#[]⟩] 32)) w.heap.size := heap_alloc_new _ _
theorem ZBox.keep5 {B : Nat} {w w' : World} {g : Nat} (h : ZBox w g) (hk : Keep5 B w w') : ZBox w' g := box_keep (by decide) hk h
theorem ZBox.keep {w w' : World} {g : Nat} (h : ZBox w g) (hb : Below w.heap.size w w') : ZBox w' g := (hb.block g (Array.getElem?_eq_some_iff.1 h).1).trans h
theorem ZBox.cells {w : World} {g : Nat} (h : ZBox w g) : (w.cell? ⟨g, 0, none⟩ = some (.int .i64 0) ∧ w.cell? ⟨g, 1, none⟩ = some (.int .i64 0) ∧ w.cell? ⟨g, 2, none⟩ = some (.float .f64 0) ∧ w.cell? ⟨g, 3, none⟩ = some (.string ⟨#[]⟩)) ∧
    (w.frozen? ⟨g, 0, none⟩ = false ∧ w.frozen? ⟨g, 1, none⟩ = false ∧ w.frozen? ⟨g, 2, none⟩ = false ∧ w.frozen? ⟨g, 3, none⟩ = false) := by
  unfold ZBox at h
  simp [World.cell?, World.frozen?, h]

theorem drop_cons {s : ByteArray} {j : Nat} (h : j < s.size) : s.data.toList.drop j = s[j] :: s.data.toList.drop (j + 1) := List.drop_eq_getElem_cons (by simpa using h)
theorem ok_str {k : Int} (hk : k = 4 ∨ k = 5) {l : List UInt8} (hl : l.length ≤ 1024) : (vStr k l).ok := by
  refine ⟨?_, ⟨by show (-9223372036854775808 : Int) ≤ 0; decide, by show (0 : Int) ≤ 9223372036854775807; decide⟩, by show (0 : Nat) < _; decide, ?_⟩
  · show -9223372036854775808 ≤ k ∧ k ≤ 9223372036854775807
    omega
  · show (ByteArray.mk l.toArray).size ≤ _
    have : (ByteArray.mk l.toArray).size = l.length := by simp [ByteArray.size]
    omega
/-- what a text that ends here is read as -/
def endTxt (k : Int) (acc : List UInt8) (n : Nat) : Option (Vl × Nat) := if (vStr k acc).chk = 0 then some (vStr k acc, n) else none
theorem rdTxt_end {k : Int} {s : List UInt8} {acc : List UInt8} {n : Nat} (h : rdStr s = some (acc, n)) : rdTxt k s = endTxt k acc n := by
  unfold rdTxt endTxt; rw [h]

set_option maxHeartbeats 8000000 in
theorem readString_any (s : ByteArray) (k : Int) (hk : k = 4 ∨ k = 5) (w : World) (hs : s.size ≤ 1024) (hg : 2 < w.heap.size) (hT : Lib.Utf8Tabs 1 2 w) :
    Calls Tryd.prog 30 #[.string s, .int .i64 k] w fun e w' => e = .returned (res3 (rdTxt k s.data.toList)) ∧ Below w.heap.size w w' := by
  have HH : Hid ((k = 4 ∨ k = 5) ∧ Lib.Utf8Tabs 1 2 w) := ⟨hk, hT⟩
  clear hk hT
  have hsf := run_store_float
  obtain ⟨r, hr⟩ : ∃ r, r = res3 (rdTxt k s.data.toList) := ⟨_, rfl⟩
  rw [← hr]
  have HR : Hid (r = _) := hr
  clear hr
  have FIN : Hid (∀ (wr : World) (acc : List UInt8) (j : Nat), acc.length ≤ 1024 → Below w.heap.size w wr → rdTxt k s.data.toList = endTxt k acc (j + 1) → ∃ (v : Vl) (n : Int) (b : Bool), r = .tuple #[v.val, .int .i64 n, .bool b] ∧ ∀ w1 : World, Below w.heap.size w w1 → Calls Tryd.prog 50 #[(vStr k acc).val, .int .i64 (((j + 1 : Nat)) : Int)] w1 fun e w' => e = .returned (.tuple #[v.val, .int .i64 n, .bool b]) ∧ Below w1.heap.size w1 w') := by
    intro wr acc j hl hb he
    obtain ⟨v, n, b, e⟩ := res3_form (endTxt k acc (j + 1))
    refine ⟨v, n, b, by rw [HR.out, he, e], fun w1 h1 => ?_⟩
    have h := checked_any (vStr k acc) (j + 1) w1 (ok_str HH.out.1 hl) (by have := h1.size; omega) (tabs_keep h1 hg HH.out.2)
    rw [← e]
    unfold endTxt
    by_cases hc : (vStr k acc).chk = 0
    · rw [if_pos hc] at h ⊢; exact h
    · rw [if_neg hc] at h ⊢; exact h
  go_enter Tryd.func30, Tryd.ntmps30
  go_wp2_with fail
  go_loopw [7, 8] (fun x i wr => ∃ (j : Nat) (acc : List UInt8), j ≤ s.size ∧ acc.length ≤ j ∧ i = .int .i64 (j : Int) ∧ OwnB wr w.heap.size x acc ∧ Keep5 w.heap.size (w.alloc (.cells #[.int .i64 0, .int .i64 0, .float .f64 0, .string ⟨#[]⟩] 32)) wr ∧ rdStr s.data.toList = (rdStr (s.data.toList.drop j)).map (fun y => (acc ++ y.1, y.2 + j))) (fun _ i _ => s.size - (intOf i).toNat)
  case atStart => exact ⟨0, [], Nat.zero_le _, Nat.le_refl _, by go_num, OwnB.nil _ _, Keep5.refl _ _, by simp⟩
  case round =>
    obtain ⟨j, acc, hj, hal, rfl, hown, hkp, heq⟩ := hrel
    have hbl : Below w.heap.size w wr := ((Below.refl _ _).alloc (Nat.le_refl _) _).trans hkp.below
    have hz := hbl.size
    have hzb := (ZBox.new w).keep5 hkp
    have hcv := hown.conv
    have HE : Hid (OwnB _ _ _ _ ∧ Keep5 _ _ _ ∧ _ = _ ∧ Below _ _ _ ∧ ZBox _ _) := ⟨hown, hkp, heq, hbl, hzb⟩
    clear hown hkp heq hbl hzb
    by_cases hj0 : j = s.size
    · subst hj0
      clear hcv
      obtain ⟨⟨z0, z1, z2, z3⟩, y0, y1, y2, y3⟩ := HE.out.2.2.2.2.cells
      go_wp2
      refine bodyPost_ret (v := res3 none) (by simp [results, Tryd.results30, go_sem, z0, z1, z2, z3, res3, vNull]) rfl ⟨?_, (((HE.out.2.2.2.1.setCell (by simp) _).setCell (by simp) _).setCell (by simp) _).setCell (by simp) _⟩
      have h := HE.out.2.2.1
      rw [List.drop_of_length_le (by simp), rdStr_n] at h
      rw [HR.out]
      unfold rdTxt
      rw [h]
      rfl
    · have hj1 : j < s.size := by omega
      obtain ⟨c, hc⟩ : ∃ c, c = s[j] := ⟨_, rfl⟩
      have HC : Hid (c = s[j]) := hc
      have hch : s[j] = c := hc.symm
      clear hc
      by_cases hc : c = 0
      · subst hc
        have hc0 : (s[j].toNat : Int) = 0 := by rw [hch]; rfl
        by_cases hlast : j + 1 = s.size
        · have h := HE.out.2.2.1
          rw [drop_cons hj1, ← HC.out, List.drop_of_length_le (show s.data.toList.length ≤ j + 1 by simp; omega), rdStr_e] at h
          simp only [Option.map_some, List.append_nil] at h
          rw [Nat.add_comm 1 j] at h
          obtain ⟨v, n, b, hr, hC⟩ := FIN.out wr acc j (by omega) HE.out.2.2.2.1 (rdTxt_end h)
          have C1 : Hid (∀ w1 : World, Below w.heap.size w w1 → Calls _ _ _ _ _) := hC
          subst hr
          have hl' : (j : Int) + 1 = s.size := by omega
          have e : ((j + 1 : Nat) : Int) = (s.size : Int) := by omega
          rw [e] at C1
          clear h hC FIN HR e
          go_wp2_with fail
          refine (C1.out _ (HE.out.2.2.2.1.alloc hz _)).mono ?_
          rintro e w1 ⟨rfl, hb1⟩
          obtain ⟨⟨z0, z1, z2, z3⟩, y0, y1, y2, y3⟩ := ((HE.out.2.2.2.2.keep ((Below.refl _ _).alloc (Nat.le_refl _) _)).keep hb1).cells
          have hE : Below w.heap.size w w1 := (HE.out.2.2.2.1.alloc hz _).trans (hb1.mono (by simp; omega))
          clear hb1
          go_wp2
          refine bodyPost_ret (v := .tuple #[v.val, .int .i64 n, .bool b]) (by simp [results, Tryd.results30, go_sem, z0, z1, z2, z3]) rfl ⟨rfl, (((hE.setCell (by simp) _).setCell (by simp) _).setCell (by simp) _).setCell (by simp) _⟩
        · have hj2 : j + 1 < s.size := by omega
          obtain ⟨d, hd⟩ : ∃ d, d = s[j + 1] := ⟨_, rfl⟩
          have HD : Hid (d = s[j + 1]) := hd
          have hdh : s[j + 1] = d := hd.symm
          clear hd
          by_cases hff : d = 255
          · subst hff
            clear hcv FIN
            go_wp2_with (first | (at_builtin; refine wpList_app1 _ rfl (.tmp 45) _ rfl w.heap.size _ _ rfl HE.out.1 0 _ ?zz1 rfl ?ll1 ?bb1 ?_))
            case zz1 => rfl
            case ll1 => omega
            case bb1 => omega
            intro v1 w1 h1 h2
            have heq2 : rdStr s.data.toList = (rdStr (s.data.toList.drop (j + 2))).map (fun y => ((acc ++ [0]) ++ y.1, y.2 + (j + 2))) := by
              have h := HE.out.2.2.1
              rw [drop_cons hj1, drop_cons hj2, ← HC.out, ← HD.out, rdStr_z, if_pos rfl, Option.map_map] at h
              rw [h]
              congr 1
              funext y
              simp
              omega
            have R2 : Hid (OwnB w1 w.heap.size v1 (acc ++ [0]) ∧ Keep5 w.heap.size (w.alloc (.cells #[.int .i64 0, .int .i64 0, .float .f64 0, .string ⟨#[]⟩] 32)) w1 ∧ rdStr s.data.toList = (rdStr (s.data.toList.drop (j + 2))).map (fun y => ((acc ++ [0]) ++ y.1, y.2 + (j + 2)))) := ⟨h1, HE.out.2.1.trans h2, heq2⟩
            clear h1 h2 heq2
            go_wp2
            go_roundw
            case rel => exact ⟨j + 2, acc ++ [0], by omega, by simp; omega, by go_num, R2.out.1, R2.out.2.1, R2.out.2.2⟩
            case measure => simp [intOf]; omega
          · have h := HE.out.2.2.1
            rw [drop_cons hj1, drop_cons hj2, ← HC.out, ← HD.out, rdStr_z, if_neg hff] at h
            simp only [Option.map_some, List.append_nil] at h
            rw [Nat.add_comm 1 j] at h
            obtain ⟨v, n, b, hr, hC⟩ := FIN.out wr acc j (by omega) HE.out.2.2.2.1 (rdTxt_end h)
            have C1 : Hid (∀ w1 : World, Below w.heap.size w w1 → Calls _ _ _ _ _) := hC
            subst hr
            have hne : ((d.toNat : Int) != 255) = true := by
              have : ¬ d.toNat = 255 := fun e => hff (UInt8.toNat_inj.1 (e.trans rfl))
              simp; omega
            have hl' : (j : Int) + 1 < s.size := by omega
            have e : ((j + 1 : Nat) : Int) = (j : Int) + 1 := by omega
            rw [e] at C1
            clear h hC FIN HR e hff
            go_wp2_with fail
            refine (C1.out _ (HE.out.2.2.2.1.alloc hz _)).mono ?_
            rintro e w1 ⟨rfl, hb1⟩
            obtain ⟨⟨z0, z1, z2, z3⟩, y0, y1, y2, y3⟩ := ((HE.out.2.2.2.2.keep ((Below.refl _ _).alloc (Nat.le_refl _) _)).keep hb1).cells
            have hE : Below w.heap.size w w1 := (HE.out.2.2.2.1.alloc hz _).trans (hb1.mono (by simp; omega))
            clear hb1
            go_wp2
            refine bodyPost_ret (v := .tuple #[v.val, .int .i64 n, .bool b]) (by simp [results, Tryd.results30, go_sem, z0, z1, z2, z3]) rfl ⟨rfl, (((hE.setCell (by simp) _).setCell (by simp) _).setCell (by simp) _).setCell (by simp) _⟩
      · have hc0 : 0 < (c.toNat : Int) := by
          rcases Nat.eq_zero_or_pos c.toNat with h | h
          · exact absurd (UInt8.toNat_inj.1 (h.trans rfl)) hc
          · omega
        have HC0 : Hid (¬ c = 0) := hc
        clear hc hcv FIN
        go_wp2_with (first | (at_builtin; refine wpList_app1 _ rfl (.tmp 48) _ rfl w.heap.size _ _ rfl HE.out.1 c _ ?zz1 rfl ?ll1 ?bb1 ?_))
        case zz1 => first | rfl | rw [HC.out]
        case ll1 => omega
        case bb1 => omega
        intro v1 w1 h1 h2
        have heq2 : rdStr s.data.toList = (rdStr (s.data.toList.drop (j + 1))).map (fun y => ((acc ++ [c]) ++ y.1, y.2 + (j + 1))) := by
          have h := HE.out.2.2.1
          rw [drop_cons hj1, ← HC.out, rdStr_nz HC0.out, Option.map_map] at h
          rw [h]
          congr 1
          funext y
          simp
          omega
        have R2 : Hid (OwnB w1 w.heap.size v1 (acc ++ [c]) ∧ Keep5 w.heap.size (w.alloc (.cells #[.int .i64 0, .int .i64 0, .float .f64 0, .string ⟨#[]⟩] 32)) w1 ∧ rdStr s.data.toList = (rdStr (s.data.toList.drop (j + 1))).map (fun y => ((acc ++ [c]) ++ y.1, y.2 + (j + 1)))) := ⟨h1, HE.out.2.1.trans h2, heq2⟩
        clear h1 h2 heq2
        go_wp2
        go_roundw
        case rel => exact ⟨j + 1, acc ++ [c], by omega, by simp; omega, by go_num, R2.out.1, R2.out.2.1, R2.out.2.2⟩
        case measure => simp [intOf]; omega

end Go.Proofs.YtcjpindbplppgaaDoor

namespace Go.Proofs.YtcjpindbplppgaaDoor
open Go.RowKit
set_option maxRecDepth 100000

set_option maxHeartbeats 1000000 in
theorem readValue_1 (s : ByteArray) (w : World) :
    Calls Tryd.prog 13 #[.int .u8 1, .string s] w fun e w' => e = .returned (res3 (some (vNull, 0))) ∧ Below w.heap.size w w' := by
  have hsf := run_store_float
  go_enter Tryd.func13, Tryd.ntmps13
  go_wp2_with (first | (go_at_call 26; refine (litNull_any _).mono ?_; rintro e w1 ⟨rfl, hb1⟩; obtain ⟨⟨z0, z1, z2, z3⟩, y0, y1, y2, y3⟩ := vz w w1 _ rfl hb1))
  refine bodyPost_ret (v := res3 (some (vNull, 0))) (by simp [results, Tryd.results13, go_sem, z0, z1, z2, z3, res3, vNull]) rfl ⟨rfl, ((((((Below.refl _ _).alloc (Nat.le_refl _) _).trans (hb1.mono (by simp))).setCell (by simp) _).setCell (by simp) _).setCell (by simp) _).setCell (by simp) _⟩

set_option maxHeartbeats 1000000 in
theorem readValue_2 (s : ByteArray) (v : Vl) (n : Int) (b : Bool) (w : World) (hC : ∀ w1, Below w.heap.size w w1 → Calls Tryd.prog 27 #[.string s] w1 fun e w' => e = .returned (.tuple #[v.val, .int .i64 n, .bool b]) ∧ Below w1.heap.size w1 w') :
    Calls Tryd.prog 13 #[.int .u8 2, .string s] w fun e w' => e = .returned (.tuple #[v.val, .int .i64 n, .bool b]) ∧ Below w.heap.size w w' := by
  have C1 : Hid (∀ w1 : World, Below w.heap.size w w1 → Calls _ _ _ _ _) := hC
  have hsf := run_store_float
  clear hC
  go_enter Tryd.func13, Tryd.ntmps13
  go_wp2_with fail
  refine (C1.out _ ((Below.refl _ _).alloc (Nat.le_refl _) _)).mono ?_
  rintro e w1 ⟨rfl, hb1⟩
  obtain ⟨⟨z0, z1, z2, z3⟩, y0, y1, y2, y3⟩ := vz w w1 _ rfl hb1
  go_wp2
  refine bodyPost_ret (v := .tuple #[v.val, .int .i64 n, .bool b]) (by simp [results, Tryd.results13, go_sem, z0, z1, z2, z3]) rfl ⟨rfl, ((((((Below.refl _ _).alloc (Nat.le_refl _) _).trans (hb1.mono (by simp))).setCell (by simp) _).setCell (by simp) _).setCell (by simp) _).setCell (by simp) _⟩

set_option maxHeartbeats 1000000 in
theorem readValue_3 (s : ByteArray) (v : Vl) (n : Int) (b : Bool) (w : World) (hC : ∀ w1, Below w.heap.size w w1 → Calls Tryd.prog 28 #[.string s] w1 fun e w' => e = .returned (.tuple #[v.val, .int .i64 n, .bool b]) ∧ Below w1.heap.size w1 w') :
    Calls Tryd.prog 13 #[.int .u8 3, .string s] w fun e w' => e = .returned (.tuple #[v.val, .int .i64 n, .bool b]) ∧ Below w.heap.size w w' := by
  have C1 : Hid (∀ w1 : World, Below w.heap.size w w1 → Calls _ _ _ _ _) := hC
  have hsf := run_store_float
  clear hC
  go_enter Tryd.func13, Tryd.ntmps13
  go_wp2_with fail
  refine (C1.out _ ((Below.refl _ _).alloc (Nat.le_refl _) _)).mono ?_
  rintro e w1 ⟨rfl, hb1⟩
  obtain ⟨⟨z0, z1, z2, z3⟩, y0, y1, y2, y3⟩ := vz w w1 _ rfl hb1
  go_wp2
  refine bodyPost_ret (v := .tuple #[v.val, .int .i64 n, .bool b]) (by simp [results, Tryd.results13, go_sem, z0, z1, z2, z3]) rfl ⟨rfl, ((((((Below.refl _ _).alloc (Nat.le_refl _) _).trans (hb1.mono (by simp))).setCell (by simp) _).setCell (by simp) _).setCell (by simp) _).setCell (by simp) _⟩

set_option maxHeartbeats 1000000 in
theorem readValue_4 (s : ByteArray) (v : Vl) (n : Int) (b : Bool) (w : World) (hC : ∀ w1, Below w.heap.size w w1 → Calls Tryd.prog 29 #[.string s] w1 fun e w' => e = .returned (.tuple #[v.val, .int .i64 n, .bool b]) ∧ Below w1.heap.size w1 w') :
    Calls Tryd.prog 13 #[.int .u8 4, .string s] w fun e w' => e = .returned (.tuple #[v.val, .int .i64 n, .bool b]) ∧ Below w.heap.size w w' := by
  have C1 : Hid (∀ w1 : World, Below w.heap.size w w1 → Calls _ _ _ _ _) := hC
  have hsf := run_store_float
  clear hC
  go_enter Tryd.func13, Tryd.ntmps13
  go_wp2_with fail
  refine (C1.out _ ((Below.refl _ _).alloc (Nat.le_refl _) _)).mono ?_
  rintro e w1 ⟨rfl, hb1⟩
  obtain ⟨⟨z0, z1, z2, z3⟩, y0, y1, y2, y3⟩ := vz w w1 _ rfl hb1
  go_wp2
  refine bodyPost_ret (v := .tuple #[v.val, .int .i64 n, .bool b]) (by simp [results, Tryd.results13, go_sem, z0, z1, z2, z3]) rfl ⟨rfl, ((((((Below.refl _ _).alloc (Nat.le_refl _) _).trans (hb1.mono (by simp))).setCell (by simp) _).setCell (by simp) _).setCell (by simp) _).setCell (by simp) _⟩

set_option maxHeartbeats 1000000 in
theorem readValue_5 (s : ByteArray) (v : Vl) (n : Int) (b : Bool) (w : World) (hC : ∀ w1, Below w.heap.size w w1 → Calls Tryd.prog 30 #[.string s, .int .i64 4] w1 fun e w' => e = .returned (.tuple #[v.val, .int .i64 n, .bool b]) ∧ Below w1.heap.size w1 w') :
    Calls Tryd.prog 13 #[.int .u8 5, .string s] w fun e w' => e = .returned (.tuple #[v.val, .int .i64 n, .bool b]) ∧ Below w.heap.size w w' := by
  have C1 : Hid (∀ w1 : World, Below w.heap.size w w1 → Calls _ _ _ _ _) := hC
  have hsf := run_store_float
  clear hC
  go_enter Tryd.func13, Tryd.ntmps13
  go_wp2_with fail
  refine (C1.out _ ((Below.refl _ _).alloc (Nat.le_refl _) _)).mono ?_
  rintro e w1 ⟨rfl, hb1⟩
  obtain ⟨⟨z0, z1, z2, z3⟩, y0, y1, y2, y3⟩ := vz w w1 _ rfl hb1
  go_wp2
  refine bodyPost_ret (v := .tuple #[v.val, .int .i64 n, .bool b]) (by simp [results, Tryd.results13, go_sem, z0, z1, z2, z3]) rfl ⟨rfl, ((((((Below.refl _ _).alloc (Nat.le_refl _) _).trans (hb1.mono (by simp))).setCell (by simp) _).setCell (by simp) _).setCell (by simp) _).setCell (by simp) _⟩

set_option maxHeartbeats 1000000 in
theorem readValue_6 (s : ByteArray) (v : Vl) (n : Int) (b : Bool) (w : World) (hC : ∀ w1, Below w.heap.size w w1 → Calls Tryd.prog 30 #[.string s, .int .i64 5] w1 fun e w' => e = .returned (.tuple #[v.val, .int .i64 n, .bool b]) ∧ Below w1.heap.size w1 w') :
    Calls Tryd.prog 13 #[.int .u8 6, .string s] w fun e w' => e = .returned (.tuple #[v.val, .int .i64 n, .bool b]) ∧ Below w.heap.size w w' := by
  have C1 : Hid (∀ w1 : World, Below w.heap.size w w1 → Calls _ _ _ _ _) := hC
  have hsf := run_store_float
  clear hC
  go_enter Tryd.func13, Tryd.ntmps13
  go_wp2_with fail
  refine (C1.out _ ((Below.refl _ _).alloc (Nat.le_refl _) _)).mono ?_
  rintro e w1 ⟨rfl, hb1⟩
  obtain ⟨⟨z0, z1, z2, z3⟩, y0, y1, y2, y3⟩ := vz w w1 _ rfl hb1
  go_wp2
  refine bodyPost_ret (v := .tuple #[v.val, .int .i64 n, .bool b]) (by simp [results, Tryd.results13, go_sem, z0, z1, z2, z3]) rfl ⟨rfl, ((((((Below.refl _ _).alloc (Nat.le_refl _) _).trans (hb1.mono (by simp))).setCell (by simp) _).setCell (by simp) _).setCell (by simp) _).setCell (by simp) _⟩

set_option maxHeartbeats 1000000 in
theorem readValue_x (t : Nat) (s : ByteArray) (w : World) (h1 : ((t : Int) == 1) = false) (h2 : ((t : Int) == 2) = false) (h3 : ((t : Int) == 3) = false) (h4 : ((t : Int) == 4) = false) (h5 : ((t : Int) == 5) = false) (h6 : ((t : Int) == 6) = false) :
    Calls Tryd.prog 13 #[.int .u8 (t : Int), .string s] w fun e w' => e = .returned (res3 none) ∧ Below w.heap.size w w' := by
  have hsf := run_store_float
  go_enter Tryd.func13, Tryd.ntmps13
  go_wp2
  go_returns
  exact ⟨rfl, by go_grown⟩

theorem readValue_any (tag : UInt8) (s : ByteArray) (w : World) (hs : s.size ≤ 1024) (hg : 2 < w.heap.size) (hT : Lib.Utf8Tabs 1 2 w) :
    Calls Tryd.prog 13 #[.int .u8 (tag.toNat : Int), .string s] w fun e w' => e = .returned (res3 (rdV tag s.data.toList)) ∧ Below w.heap.size w w' := by
  unfold rdV
  by_cases h1 : tag = 1
  · subst h1; simp only [if_true]; exact readValue_1 s w
  by_cases h2 : tag = 2
  · subst h2
    rw [if_neg h1, if_pos rfl]
    obtain ⟨v, n, b, e⟩ := res3_form (rdBool s.data.toList)
    rw [e]
    exact readValue_2 s v n b w fun w1 _ => by rw [← e]; exact readBool_any s w1 hs
  by_cases h3 : tag = 3
  · subst h3
    rw [if_neg h1, if_neg h2, if_pos rfl]
    obtain ⟨v, n, b, e⟩ := res3_form (rdInt s.data.toList)
    rw [e]
    exact readValue_3 s v n b w fun w1 _ => by rw [← e]; exact readInt_any s w1 hs
  by_cases h4 : tag = 4
  · subst h4
    rw [if_neg h1, if_neg h2, if_neg h3, if_pos rfl]
    obtain ⟨v, n, b, e⟩ := res3_form (rdFlo s.data.toList)
    rw [e]
    exact readValue_4 s v n b w fun w1 _ => by rw [← e]; exact readFloat_any s w1 hs
  by_cases h5 : tag = 5
  · subst h5
    rw [if_neg h1, if_neg h2, if_neg h3, if_neg h4, if_pos rfl]
    obtain ⟨v, n, b, e⟩ := res3_form (rdTxt 4 s.data.toList)
    rw [e]
    exact readValue_5 s v n b w fun w1 hb => by rw [← e]; exact readString_any s 4 (.inl rfl) w1 hs (by have := hb.size; omega) (tabs_keep hb hg hT)
  by_cases h6 : tag = 6
  · subst h6
    rw [if_neg h1, if_neg h2, if_neg h3, if_neg h4, if_neg h5, if_pos rfl]
    obtain ⟨v, n, b, e⟩ := res3_form (rdTxt 5 s.data.toList)
    rw [e]
    exact readValue_6 s v n b w fun w1 hb => by rw [← e]; exact readString_any s 5 (.inr rfl) w1 hs (by have := hb.size; omega) (tabs_keep hb hg hT)
  rw [if_neg h1, if_neg h2, if_neg h3, if_neg h4, if_neg h5, if_neg h6]
  have ne : ∀ (k : UInt8) (z : Int), (k.toNat : Int) = z → ¬ tag = k → ((tag.toNat : Int) == z) = false := by
    intro k z hz h
    have : ¬ tag.toNat = k.toNat := fun e => h (UInt8.toNat_inj.1 e)
    simp; omega
  exact readValue_x tag.toNat s w (ne 1 1 rfl h1) (ne 2 2 rfl h2) (ne 3 3 rfl h3) (ne 4 4 rfl h4) (ne 5 5 rfl h5) (ne 6 6 rfl h6)

end Go.Proofs.YtcjpindbplppgaaDoor

namespace Go.Proofs.YtcjpindbplppgaaDoor
open Go.RowKit
set_option maxRecDepth 100000

theorem info_val : (Tryd.prog.info? 32).map (fun i => (i.zero, i.size, i.bytes)) = some (some (.agg #[.int .i64 0, .int .i64 0, .float .f64 0, .string ⟨#[]⟩]), 4, 40) := by kernel_rfl
def vcell (v : Vl) : List Value := [.int .i64 v.k, .int .i64 v.n, .float .f64 v.f, .string v.s]
/-- values as cells -/
def vcells (L : List Vl) : List Value := L.flatMap vcell
theorem vcells_len (L : List Vl) : (vcells L).length = L.length * 4 := by
  induction L with
  | nil => rfl
  | cons v L ih => simp only [vcells, List.flatMap_cons, List.length_append, List.length_cons] at ih ⊢; rw [ih]; simp [vcell]; omega
theorem vcells_append (a b : List Vl) : vcells (a ++ b) = vcells a ++ vcells b := by simp [vcells]
/-- the slice v owns these values, in a block of number B or more -/
def OwnV (w : World) (B : Nat) (v : Value) (L : List Vl) : Prop := w.ownsRow B 32 4 v L.length (vcells L)
theorem OwnV.nil (w : World) (B : Nat) : OwnV w B (.slice none 0 0) [] := World.ownsRow_nil w B _ _
theorem OwnV.kept {w w' : World} {B : Nat} {v : Value} {L : List Vl} (h : OwnV w B v L) (hb : Below w.heap.size w w') : OwnV w' B v L := by
  refine ⟨h.1, ?_⟩
  rcases h.2 with h1 | ⟨g, cap, cur, e, hb', hg, r⟩
  · exact .inl h1
  · exact .inr ⟨g, cap, cur, e, hb', (hb.block g (Array.getElem?_eq_some_iff.1 hg).1).trans hg, r⟩
theorem vcell_at (L : List Vl) (i : Nat) (hi : i < L.length) (t : Nat) (ht : t < 4) : (vcells L)[i * 4 + t]? = (vcell L[i])[t]? := by
  induction L generalizing i with
  | nil => simp at hi
  | cons v L ih =>
    have hl : (vcell v).length = 4 := rfl
    simp only [vcells, List.flatMap_cons]
    cases i with
    | zero => rw [Nat.zero_mul, Nat.zero_add, List.getElem?_append_left (by omega)]; rfl
    | succ i =>
      rw [List.getElem?_append_right (by omega)]
      have e : (i + 1) * 4 + t - (vcell v).length = i * 4 + t := by omega
      rw [e]
      exact ih i (by simpa using hi)
/-- what is owned can be read as a list of values -/
theorem OwnV.row {w : World} {B : Nat} {v : Value} {L : List Vl} (h : OwnV w B v L) : ∃ (p : Option Addr) (c : Nat), v = .slice p L.length c ∧ RowV w w.heap.size p L := by
  rcases h.2 with ⟨h1, h2⟩ | ⟨g, cap, cur, e, hb, hg, hr⟩
  · have : L = [] := List.eq_nil_of_length_eq_zero h2
    subst this
    exact ⟨none, 0, h1, fun i hi => absurd hi (by simp)⟩
  · refine ⟨_, cap, e, fun i hi => ?_⟩
    subst e
    have hc : ∀ t, t < 4 → w.cell? ⟨g, i * 4 + t, none⟩ = (vcell L[i])[t]? := by
      intro t ht
      have := World.ownsRow.cellAt (w := w) (e := 32) (size := 4) (g := g) (cap := cap) h (i * 4 + t) (by omega)
      rw [this, vcell_at L i hi t ht]
    have h0 := hc 0 (by decide)
    have h1 := hc 1 (by decide)
    have h2 := hc 2 (by decide)
    have h3 := hc 3 (by decide)
    refine ⟨g, 0, rfl, (Array.getElem?_eq_some_iff.1 hg).1, ?_, ?_, ?_, ?_⟩
    · rw [Nat.zero_add]; exact h0
    · rw [Nat.zero_add]; exact h1
    · rw [Nat.zero_add]; exact h2
    · rw [Nat.zero_add]; exact h3

/-- 'append(l, v)' -/
theorem wpList_appV {ops : Array Oper} {rest : List Oper} {o : Oper} {a : Act} {Q : Exit → Act → World → Prop} (w : World) (hgd : o.guard = none) (s x : Operand)
    (ho : o.op = .call { callee := .builtin .append, args := #[s, x], argTypes := #[22, 22] })
    (B : Nat) (v : Value) (L : List Vl) (hs : a.eval s = v) (hown : OwnV w B v L)
    (u : Vl) (g : Nat) (hx : a.eval x = .slice (some ⟨g, 0, none⟩) 1 1) (hgz : g = w.heap.size)
    (hlen : L.length + 1 ≤ 3518437208883) (hbase : B ≤ w.heap.size)
    (h : ∀ v' w', OwnV w' B v' (L ++ [u]) → Below B w w' → wpList Tryd.prog ops Q rest (a.put o.dst v') w') : wpList Tryd.prog ops Q (o :: rest) a (w.alloc (.cells #[.int .i64 u.k, .int .i64 u.n, .float .f64 u.f, .string u.s] 32)) := by
  obtain ⟨i, hi, hz0, hz1, hz2⟩ := info_parts info_val
  subst hgz
  have hown' : OwnV (w.alloc (.cells #[.int .i64 u.k, .int .i64 u.n, .float .f64 u.f, .string u.s] 32)) B v L := hown.kept ((Below.refl _ _).alloc (Nat.le_refl _) _)
  refine wpList_append_own _ hgd s x 22 ho B 32 i (.agg #[.int .i64 0, .int .i64 0, .float .f64 0, .string ⟨#[]⟩]) 4 40 Tryd.underlying22 hi hz0 hz1 hz2 rfl (by decide) v L.length (vcells L) hs hown' ⟨w.heap.size, 0, none⟩ 1 1 (vcells [u]) hx rfl ?_ ?_ (by unfold maxLen; omega) (by omega) (by simp; omega) ?_
  · intro j y hj
    have hj' : j < 4 := by
      have := (List.getElem?_eq_some_iff.1 hj).1
      simpa [vcells, vcell] using this
    have e : (⟨w.heap.size, 0, none⟩ : Addr).add j = ⟨w.heap.size, j, none⟩ := by unfold Addr.add; split <;> simp_all
    rw [e]
    have h4 : j = 0 ∨ j = 1 ∨ j = 2 ∨ j = 3 := by omega
    rcases h4 with rfl | rfl | rfl | rfl <;> (simp [vcells, vcell] at hj; subst hj; simp [go_sem])
  · intro y hy
    simp [vcells, vcell] at hy
    rcases hy with rfl | rfl | rfl | rfl <;> rfl
  · intro v' w' h1 h2 _
    refine h v' w' ?_ ?_
    · unfold OwnV
      rw [vcells_append, List.length_append]
      exact h1
    · exact ((Below.refl _ _).alloc hbase _).grown h2 (by simp; omega) (fun k hk => (hown'.lt k hk).1)

theorem decF_fuel : ∀ (k : Nat) (l : List UInt8), l.length ≤ k → decF k l = decF l.length l
  | 0, l, h => by
    have : l = [] := List.eq_nil_of_length_eq_zero (by omega)
    subst this; rfl
  | k + 1, [], _ => rfl
  | k + 1, t :: s, h => by
    simp only [List.length_cons] at h ⊢
    simp only [decF]
    cases rdV t s with
    | none => rfl
    | some x =>
      dsimp only
      have hl : (s.drop x.2).length ≤ s.length := by simp
      rw [decF_fuel k (s.drop x.2) (by omega)]
      have e : decF s.length (s.drop x.2) = decF (s.drop x.2).length (s.drop x.2) := by
        by_cases hk : s.length ≤ k
        · rcases Nat.eq_or_lt_of_le hk with h2 | h2
          · rw [h2]; exact decF_fuel k (s.drop x.2) (by omega)
          · have : s.length < k + 1 := by omega
            exact decF_fuel s.length (s.drop x.2) hl
        · omega
      rw [e]

end Go.Proofs.YtcjpindbplppgaaDoor
