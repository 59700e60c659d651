/- The walk of the function that reads a text. -/
import Derived.Test.YtjigmijennbolaaDoorWDec4
namespace Go.Proofs.YtjigmijennbolaaDoor
open Go.RowKit
set_option maxRecDepth 100000

/-- a result's box: nothing is in it yet -/
def ZBox (w : World) (g : Nat) : Prop := w.heap[g]? = some (.cells #[.int .i64 0, .int .i64 0, .float .f64 0, .string ⟨#[]⟩] 43 (0, 0))
theorem ZBox.new (w : World) : ZBox (w.alloc (.cells #[.int .i64 0, .int .i64 0, .float .f64 0, .string ⟨#[]⟩] 43)) w.heap.size := heap_alloc_new _ _
theorem ZBox.keep5 {B : Nat} {w w' : World} {g : Nat} (h : ZBox w g) (hk : Keep5 B w w') : ZBox w' g := box_keep (by decide) hk h
theorem ZBox.keep {w w' : World} {g : Nat} (h : ZBox w g) (hb : Below w.heap.size w w') : ZBox w' g := (hb.block g (Array.getElem?_eq_some_iff.1 h).1).trans h
theorem ZBox.cells {w : World} {g : Nat} (h : ZBox w g) : (w.cell? ⟨g, 0, none⟩ = some (.int .i64 0) ∧ w.cell? ⟨g, 1, none⟩ = some (.int .i64 0) ∧ w.cell? ⟨g, 2, none⟩ = some (.float .f64 0) ∧ w.cell? ⟨g, 3, none⟩ = some (.string ⟨#[]⟩)) ∧
    (w.frozen? ⟨g, 0, none⟩ = false ∧ w.frozen? ⟨g, 1, none⟩ = false ∧ w.frozen? ⟨g, 2, none⟩ = false ∧ w.frozen? ⟨g, 3, none⟩ = false) := by
  unfold ZBox at h
  simp [World.cell?, World.frozen?, h]

theorem drop_cons {s : ByteArray} {j : Nat} (h : j < s.size) : s.data.toList.drop j = s[j] :: s.data.toList.drop (j + 1) := List.drop_eq_getElem_cons (by simpa using h)
theorem ok_str {k : Int} (hk : k = 4 ∨ k = 5) {l : List UInt8} (hl : l.length ≤ 1024) : (vStr k l).ok := by
  refine ⟨?_, ⟨by show (-9223372036854775808 : Int) ≤ 0; decide, by show (0 : Int) ≤ 9223372036854775807; decide⟩, by show (0 : Nat) < _; decide, ?_⟩
  · show -9223372036854775808 ≤ k ∧ k ≤ 9223372036854775807
    omega
  · show (ByteArray.mk l.toArray).size ≤ _
    have : (ByteArray.mk l.toArray).size = l.length := by simp [ByteArray.size]
    omega
/-- what a text that ends here is read as -/
def endTxt (k : Int) (acc : List UInt8) (n : Nat) : Option (Vl × Nat) := if (vStr k acc).chk = 0 then some (vStr k acc, n) else none
theorem rdTxt_end {k : Int} {s : List UInt8} {acc : List UInt8} {n : Nat} (h : rdStr s = some (acc, n)) : rdTxt k s = endTxt k acc n := by
  unfold rdTxt endTxt; rw [h]

set_option maxHeartbeats 8000000 in
theorem readString_any (s : ByteArray) (k : Int) (hk : k = 4 ∨ k = 5) (w : World) (hs : s.size ≤ 1024) (hg : 2 < w.heap.size) (hT : Lib.Utf8Tabs 1 2 w) :
    Calls Tryd.prog 44 #[.string s, .int .i64 k] w fun e w' => e = .returned (res3 (rdTxt k s.data.toList)) ∧ Below w.heap.size w w' := by
  have HH : Hid ((k = 4 ∨ k = 5) ∧ Lib.Utf8Tabs 1 2 w) := ⟨hk, hT⟩
  clear hk hT
  have hsf := run_store_float
  obtain ⟨r, hr⟩ : ∃ r, r = res3 (rdTxt k s.data.toList) := ⟨_, rfl⟩
  rw [← hr]
  have HR : Hid (r = _) := hr
  clear hr
  have FIN : Hid (∀ (wr : World) (acc : List UInt8) (j : Nat), acc.length ≤ 1024 → Below w.heap.size w wr → rdTxt k s.data.toList = endTxt k acc (j + 1) → ∃ (v : Vl) (n : Int) (b : Bool), r = .tuple #[v.val, .int .i64 n, .bool b] ∧ ∀ w1 : World, Below w.heap.size w w1 → Calls Tryd.prog 62 #[(vStr k acc).val, .int .i64 (((j + 1 : Nat)) : Int)] w1 fun e w' => e = .returned (.tuple #[v.val, .int .i64 n, .bool b]) ∧ Below w1.heap.size w1 w') := by
    intro wr acc j hl hb he
    obtain ⟨v, n, b, e⟩ := res3_form (endTxt k acc (j + 1))
    refine ⟨v, n, b, by rw [HR.out, he, e], fun w1 h1 => ?_⟩
    have h := checked_any (vStr k acc) (j + 1) w1 (ok_str HH.out.1 hl) (by have := h1.size; omega) (tabs_keep h1 hg HH.out.2)
    rw [← e]
    unfold endTxt
    by_cases hc : (vStr k acc).chk = 0
    · rw [if_pos hc] at h ⊢; exact h
    · rw [if_neg hc] at h ⊢; exact h
  go_enter Tryd.func44, Tryd.ntmps44
  go_wp2_with fail
  go_loopw [7, 8] (fun x i wr => ∃ (j : Nat) (acc : List UInt8), j ≤ s.size ∧ acc.length ≤ j ∧ i = .int .i64 (j : Int) ∧ OwnB wr w.heap.size x acc ∧ Keep5 w.heap.size (w.alloc (.cells #[.int .i64 0, .int .i64 0, .float .f64 0, .string ⟨#[]⟩] 43)) wr ∧ rdStr s.data.toList = (rdStr (s.data.toList.drop j)).map (fun y => (acc ++ y.1, y.2 + j))) (fun _ i _ => s.size - (intOf i).toNat)
  case atStart => exact ⟨0, [], Nat.zero_le _, Nat.le_refl _, by go_num, OwnB.nil _ _, Keep5.refl _ _, by simp⟩
  case round =>
    obtain ⟨j, acc, hj, hal, rfl, hown, hkp, heq⟩ := hrel
    have hbl : Below w.heap.size w wr := ((Below.refl _ _).alloc (Nat.le_refl _) _).trans hkp.below
    have hz := hbl.size
    have hzb := (ZBox.new w).keep5 hkp
    have hcv := hown.conv
    have HE : Hid (OwnB _ _ _ _ ∧ Keep5 _ _ _ ∧ _ = _ ∧ Below _ _ _ ∧ ZBox _ _) := ⟨hown, hkp, heq, hbl, hzb⟩
    clear hown hkp heq hbl hzb
    by_cases hj0 : j = s.size
    · subst hj0
      clear hcv
      obtain ⟨⟨z0, z1, z2, z3⟩, y0, y1, y2, y3⟩ := HE.out.2.2.2.2.cells
      go_wp2
      refine bodyPost_ret (v := res3 none) (by simp [results, Tryd.results44, go_sem, z0, z1, z2, z3, res3, vNull]) rfl ⟨?_, (((HE.out.2.2.2.1.setCell (by simp) _).setCell (by simp) _).setCell (by simp) _).setCell (by simp) _⟩
      have h := HE.out.2.2.1
      rw [List.drop_of_length_le (by simp), rdStr_n] at h
      rw [HR.out]
      unfold rdTxt
      rw [h]
      rfl
    · have hj1 : j < s.size := by omega
      obtain ⟨c, hc⟩ : ∃ c, c = s[j] := ⟨_, rfl⟩
      have HC : Hid (c = s[j]) := hc
      have hch : s[j] = c := hc.symm
      clear hc
      by_cases hc : c = 0
      · subst hc
        have hc0 : (s[j].toNat : Int) = 0 := by rw [hch]; rfl
        by_cases hlast : j + 1 = s.size
        · have h := HE.out.2.2.1
          rw [drop_cons hj1, ← HC.out, List.drop_of_length_le (show s.data.toList.length ≤ j + 1 by simp; omega), rdStr_e] at h
          simp only [Option.map_some, List.append_nil] at h
          rw [Nat.add_comm 1 j] at h
          obtain ⟨v, n, b, hr, hC⟩ := FIN.out wr acc j (by omega) HE.out.2.2.2.1 (rdTxt_end h)
          have C1 : Hid (∀ w1 : World, Below w.heap.size w w1 → Calls _ _ _ _ _) := hC
          subst hr
          have hl' : (j : Int) + 1 = s.size := by omega
          have e : ((j + 1 : Nat) : Int) = (s.size : Int) := by omega
          rw [e] at C1
          clear h hC FIN HR e
          go_wp2_with fail
          refine (C1.out _ (HE.out.2.2.2.1.alloc hz _)).mono ?_
          rintro e w1 ⟨rfl, hb1⟩
          obtain ⟨⟨z0, z1, z2, z3⟩, y0, y1, y2, y3⟩ := ((HE.out.2.2.2.2.keep ((Below.refl _ _).alloc (Nat.le_refl _) _)).keep hb1).cells
          have hE : Below w.heap.size w w1 := (HE.out.2.2.2.1.alloc hz _).trans (hb1.mono (by simp; omega))
          clear hb1
          go_wp2
          refine bodyPost_ret (v := .tuple #[v.val, .int .i64 n, .bool b]) (by simp [results, Tryd.results44, go_sem, z0, z1, z2, z3]) rfl ⟨rfl, (((hE.setCell (by simp) _).setCell (by simp) _).setCell (by simp) _).setCell (by simp) _⟩
        · have hj2 : j + 1 < s.size := by omega
          obtain ⟨d, hd⟩ : ∃ d, d = s[j + 1] := ⟨_, rfl⟩
          have HD : Hid (d = s[j + 1]) := hd
          have hdh : s[j + 1] = d := hd.symm
          clear hd
          by_cases hff : d = 255
          · subst hff
            clear hcv FIN
            go_wp2_with (first | (at_builtin; refine wpList_app1 _ rfl (.tmp 45) _ rfl w.heap.size _ _ rfl HE.out.1 0 _ ?zz1 rfl ?ll1 ?bb1 ?_))
            case zz1 => rfl
            case ll1 => omega
            case bb1 => omega
            intro v1 w1 h1 h2
            have heq2 : rdStr s.data.toList = (rdStr (s.data.toList.drop (j + 2))).map (fun y => ((acc ++ [0]) ++ y.1, y.2 + (j + 2))) := by
              have h := HE.out.2.2.1
              rw [drop_cons hj1, drop_cons hj2, ← HC.out, ← HD.out, rdStr_z, if_pos rfl, Option.map_map] at h
              rw [h]
              congr 1
              funext y
              simp
              omega
            have R2 : Hid (OwnB w1 w.heap.size v1 (acc ++ [0]) ∧ Keep5 w.heap.size (w.alloc (.cells #[.int .i64 0, .int .i64 0, .float .f64 0, .string ⟨#[]⟩] 43)) w1 ∧ rdStr s.data.toList = (rdStr (s.data.toList.drop (j + 2))).map (fun y => ((acc ++ [0]) ++ y.1, y.2 + (j + 2)))) := ⟨h1, HE.out.2.1.trans h2, heq2⟩
            clear h1 h2 heq2
            go_wp2
            go_roundw
            case rel => exact ⟨j + 2, acc ++ [0], by omega, by simp; omega, by go_num, R2.out.1, R2.out.2.1, R2.out.2.2⟩
            case measure => simp [intOf]; omega
          · have h := HE.out.2.2.1
            rw [drop_cons hj1, drop_cons hj2, ← HC.out, ← HD.out, rdStr_z, if_neg hff] at h
            simp only [Option.map_some, List.append_nil] at h
            rw [Nat.add_comm 1 j] at h
            obtain ⟨v, n, b, hr, hC⟩ := FIN.out wr acc j (by omega) HE.out.2.2.2.1 (rdTxt_end h)
            have C1 : Hid (∀ w1 : World, Below w.heap.size w w1 → Calls _ _ _ _ _) := hC
            subst hr
            have hne : ((d.toNat : Int) != 255) = true := by
              have : ¬ d.toNat = 255 := fun e => hff (UInt8.toNat_inj.1 (e.trans rfl))
              simp; omega
            have hl' : (j : Int) + 1 < s.size := by omega
            have e : ((j + 1 : Nat) : Int) = (j : Int) + 1 := by omega
            rw [e] at C1
            clear h hC FIN HR e hff
            go_wp2_with fail
            refine (C1.out _ (HE.out.2.2.2.1.alloc hz _)).mono ?_
            rintro e w1 ⟨rfl, hb1⟩
            obtain ⟨⟨z0, z1, z2, z3⟩, y0, y1, y2, y3⟩ := ((HE.out.2.2.2.2.keep ((Below.refl _ _).alloc (Nat.le_refl _) _)).keep hb1).cells
            have hE : Below w.heap.size w w1 := (HE.out.2.2.2.1.alloc hz _).trans (hb1.mono (by simp; omega))
            clear hb1
            go_wp2
            refine bodyPost_ret (v := .tuple #[v.val, .int .i64 n, .bool b]) (by simp [results, Tryd.results44, go_sem, z0, z1, z2, z3]) rfl ⟨rfl, (((hE.setCell (by simp) _).setCell (by simp) _).setCell (by simp) _).setCell (by simp) _⟩
      · have hc0 : 0 < (c.toNat : Int) := by
          rcases Nat.eq_zero_or_pos c.toNat with h | h
          · exact absurd (UInt8.toNat_inj.1 (h.trans rfl)) hc
          · omega
        have HC0 : Hid (¬ c = 0) := hc
        clear hc hcv FIN
        go_wp2_with (first | (at_builtin; refine wpList_app1 _ rfl (.tmp 48) _ rfl w.heap.size _ _ rfl HE.out.1 c _ ?zz1 rfl ?ll1 ?bb1 ?_))
        case zz1 => first | rfl | rw [HC.out]
        case ll1 => omega
        case bb1 => omega
        intro v1 w1 h1 h2
        have heq2 : rdStr s.data.toList = (rdStr (s.data.toList.drop (j + 1))).map (fun y => ((acc ++ [c]) ++ y.1, y.2 + (j + 1))) := by
          have h := HE.out.2.2.1
          rw [drop_cons hj1, ← HC.out, rdStr_nz HC0.out, Option.map_map] at h
          rw [h]
          congr 1
          funext y
          simp
          omega
        have R2 : Hid (OwnB w1 w.heap.size v1 (acc ++ [c]) ∧ Keep5 w.heap.size (w.alloc (.cells #[.int .i64 0, .int .i64 0, .float .f64 0, .string ⟨#[]⟩] 43)) w1 ∧ rdStr s.data.toList = (rdStr (s.data.toList.drop (j + 1))).map (fun y => ((acc ++ [c]) ++ y.1, y.2 + (j + 1)))) := ⟨h1, HE.out.2.1.trans h2, heq2⟩
        clear h1 h2 heq2
        go_wp2
        go_roundw
        case rel => exact ⟨j + 1, acc ++ [c], by omega, by simp; omega, by go_num, R2.out.1, R2.out.2.1, R2.out.2.2⟩
        case measure => simp [intOf]; omega
end Go.Proofs.YtjigmijennbolaaDoor
