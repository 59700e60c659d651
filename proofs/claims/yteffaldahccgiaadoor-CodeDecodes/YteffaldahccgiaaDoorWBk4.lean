/- The walk of the document's reading of a text. -/
import Derived.Test.YteffaldahccgiaaDoorWBk
namespace Go.Proofs.YteffaldahccgiaaDoor
open Go.RowKit
set_option maxRecDepth 100000

def KBox (w : World) (g : Nat) (k : Int) : Prop := w.heap[g]? = some (.cells #[.int .i64 k, .int .i64 0, .float .f64 0, .string ⟨#[]⟩] 52 (0, 0))
theorem KBox.new (w : World) (k : Int) : KBox (w.alloc (.cells #[.int .i64 k, .int .i64 0, .float .f64 0, .string ⟨#[]⟩] 52)) w.heap.size k := heap_alloc_new _ _
theorem KBox.keep5 {B : Nat} {w w' : World} {g : Nat} {k : Int} (h : KBox w g k) (hk : Keep5 B w w') : KBox w' g k := box_keep (by decide) hk h
theorem KBox.keep {w w' : World} {g : Nat} {k : Int} (h : KBox w g k) (hb : Below w.heap.size w w') : KBox w' g k := (hb.block g (Array.getElem?_eq_some_iff.1 h).1).trans h
theorem KBox.cells {w : World} {g : Nat} {k : Int} (h : KBox w g k) : (w.cell? ⟨g, 0, none⟩ = some (.int .i64 k) ∧ w.cell? ⟨g, 1, none⟩ = some (.int .i64 0) ∧ w.cell? ⟨g, 2, none⟩ = some (.float .f64 0) ∧ w.cell? ⟨g, 3, none⟩ = some (.string ⟨#[]⟩)) ∧
    (w.frozen? ⟨g, 0, none⟩ = false ∧ w.frozen? ⟨g, 1, none⟩ = false ∧ w.frozen? ⟨g, 2, none⟩ = false ∧ w.frozen? ⟨g, 3, none⟩ = false) := by
  unfold KBox at h
  simp [World.cell?, World.frozen?, h]
def resB (k : Int) : Option (List UInt8 × Nat) → Value
  | none => .tuple #[(⟨k, 0, 0, ⟨#[]⟩⟩ : Vl).val, .int .i64 0]
  | some y => .tuple #[(vStr k y.1).val, .int .i64 (y.2 : Int)]
/-- the text at the beginning of a key, and where it ends -/
def rd1 (l : List UInt8) : Option (List UInt8 × Nat) := (rdStr (l.drop 1)).map (fun y => (y.1, y.2 + 1))

set_option maxHeartbeats 8000000 in
theorem bk_str_4 (s : ByteArray) (w : World) (hs : s.size ≤ 1024) (h0 : 0 < s.size) (ht : s[0] = 5) :
    Calls Tryd.prog 41 #[.string s] w fun e w' => e = .returned (resB 4 (rd1 s.data.toList)) ∧ Below w.heap.size w w' := by
  have hsf := run_store_float
  obtain ⟨R, hr⟩ : ∃ R, R = rd1 s.data.toList := ⟨_, rfl⟩
  rw [← hr]
  have HR : Hid (R = (rdStr (s.data.toList.drop 1)).map (fun y => ([] ++ y.1, y.2 + 1))) := by show R = _; rw [hr]; rfl
  clear hr
  go_enter Tryd.func41, Tryd.ntmps41
  go_wp2_with fail
  go_loopw [9, 10] (fun x i wr => ∃ (j : Nat) (acc : List UInt8), j ≤ s.size ∧ acc.length ≤ j ∧ i = .int .i64 (j : Int) ∧ OwnB wr w.heap.size x acc ∧ Keep5 w.heap.size ((w.alloc (.cells #[.int .i64 0, .int .i64 0, .float .f64 0, .string ⟨#[]⟩] 52)).alloc (.cells #[.int .i64 4, .int .i64 0, .float .f64 0, .string ⟨#[]⟩] 52)) wr ∧ R = (rdStr (s.data.toList.drop j)).map (fun y => (acc ++ y.1, y.2 + j))) (fun _ i _ => s.size - (intOf i).toNat)
  case atStart => exact ⟨1, [], h0, Nat.zero_le _, by go_num, OwnB.nil _ _, Keep5.refl _ _, HR.out⟩
  case round =>
    clear ht
    obtain ⟨j, acc, hj, hal, rfl, hown, hkp, heq⟩ := hrel
    have hbl : Below w.heap.size w wr := (((Below.refl _ _).alloc (Nat.le_refl _) _).alloc (by simp) _).trans hkp.below
    have hz := hbl.size
    have hzb : KBox wr w.heap.size 0 := ((KBox.new w 0).keep ((Below.refl _ _).alloc (Nat.le_refl _) _)).keep5 hkp
    have hkb : KBox wr (w.heap.size + 1) 4 := by
      have h := KBox.new (w.alloc (.cells #[.int .i64 0, .int .i64 0, .float .f64 0, .string ⟨#[]⟩] 52)) 4
      have e : (w.alloc (.cells #[.int .i64 0, .int .i64 0, .float .f64 0, .string ⟨#[]⟩] 52)).heap.size = w.heap.size + 1 := by simp
      rw [e] at h
      exact h.keep5 hkp
    have hcv := hown.conv
    have HE : Hid (OwnB _ _ _ _ ∧ Keep5 _ _ _ ∧ _ = _ ∧ Below _ _ _) := ⟨hown, hkp, heq, hbl⟩
    obtain ⟨⟨z0, z1, z2, z3⟩, y0, y1, y2, y3⟩ := hzb.cells
    obtain ⟨⟨c0, c1, c2, c3⟩, d0, d1, d2, d3⟩ := hkb.cells
    clear hown hkp heq hbl hzb hkb
    by_cases hj0 : j = s.size
    · subst hj0
      clear hcv
      have h9 : R = none := by have h := HE.out.2.2.1; rw [List.drop_of_length_le (by simp), rdStr_n] at h; exact h
      subst h9
      go_wp2
      refine bodyPost_ret (v := resB 4 none) (by simp [results, Tryd.results41, go_sem, z0, z1, z2, z3, resB]) rfl ⟨rfl, (((HE.out.2.2.2.setCell (by simp) _).setCell (by simp) _).setCell (by simp) _).setCell (by simp) _⟩
    · have hj1 : j < s.size := by omega
      obtain ⟨c, hc⟩ : ∃ c, c = s[j] := ⟨_, rfl⟩
      have HC : Hid (c = s[j]) := hc
      have hch : s[j] = c := hc.symm
      clear hc
      by_cases hc : c = 0
      · subst hc
        have hc0 : (s[j].toNat : Int) = 0 := by rw [hch]; rfl
        by_cases hlast : j + 1 = s.size
        · have h := HE.out.2.2.1
          rw [drop_cons hj1, ← HC.out, List.drop_of_length_le (show s.data.toList.length ≤ j + 1 by simp; omega), rdStr_e] at h
          simp only [Option.map_some, List.append_nil] at h
          subst h
          have hl' : (j : Int) + 1 = s.size := by omega
          have hres : resB 4 (some (acc, 1 + j)) = .tuple #[.agg #[.int .i64 4, .int .i64 0, .float .f64 0, .string ⟨acc.toArray⟩], .int .i64 (s.size : Int)] := by
            have e : ((1 + j : Nat) : Int) = (s.size : Int) := by omega
            simp only [resB, e]
            rfl
          have HRES : Hid (_ = _) := hres
          clear hres HR
          go_wp2
          refine bodyPost_ret (v := .tuple #[.agg #[.int .i64 4, .int .i64 0, .float .f64 0, .string ⟨acc.toArray⟩], .int .i64 (s.size : Int)]) (by simp [results, Tryd.results41, go_sem, z0, z1, z2, z3]) rfl ⟨congrArg Ending.returned HRES.out.symm, ((((HE.out.2.2.2.setCell (by simp) _).setCell (by simp) _).setCell (by simp) _).setCell (by simp) _).setCell (by simp) _⟩
        · have hj2 : j + 1 < s.size := by omega
          obtain ⟨d, hd⟩ : ∃ d, d = s[j + 1] := ⟨_, rfl⟩
          have HD : Hid (d = s[j + 1]) := hd
          have hdh : s[j + 1] = d := hd.symm
          clear hd
          by_cases hff : d = 255
          · subst hff
            clear hcv
            go_wp2_with (first | (at_builtin; refine wpList_app1 _ rfl (.tmp 166) _ rfl w.heap.size _ _ rfl HE.out.1 0 _ ?zz1 rfl ?ll1 ?bb1 ?_))
            case zz1 => rfl
            case ll1 => omega
            case bb1 => omega
            intro v1 w1 h1 h2
            have heq2 : R = (rdStr (s.data.toList.drop (j + 2))).map (fun y => ((acc ++ [0]) ++ y.1, y.2 + (j + 2))) := by
              have h := HE.out.2.2.1
              rw [drop_cons hj1, drop_cons hj2, ← HC.out, ← HD.out, rdStr_z, if_pos rfl, Option.map_map] at h
              rw [h]
              congr 1
              funext y
              simp
              omega
            have R2 : Hid (OwnB w1 w.heap.size v1 (acc ++ [0]) ∧ Keep5 w.heap.size ((w.alloc (.cells #[.int .i64 0, .int .i64 0, .float .f64 0, .string ⟨#[]⟩] 52)).alloc (.cells #[.int .i64 4, .int .i64 0, .float .f64 0, .string ⟨#[]⟩] 52)) w1 ∧ R = (rdStr (s.data.toList.drop (j + 2))).map (fun y => ((acc ++ [0]) ++ y.1, y.2 + (j + 2)))) := ⟨h1, HE.out.2.1.trans h2, heq2⟩
            clear h1 h2 heq2
            go_wp2
            go_roundw
            case rel => exact ⟨j + 2, acc ++ [0], by omega, by simp; omega, by go_num, R2.out.1, R2.out.2.1, R2.out.2.2⟩
            case measure => simp [intOf]; omega
          · have h := HE.out.2.2.1
            rw [drop_cons hj1, drop_cons hj2, ← HC.out, ← HD.out, rdStr_z, if_neg hff] at h
            simp only [Option.map_some, List.append_nil] at h
            subst h
            have hne : ((d.toNat : Int) != 255) = true := by
              have : ¬ d.toNat = 255 := fun e => hff (UInt8.toNat_inj.1 (e.trans rfl))
              simp; omega
            have hl' : (j : Int) + 1 < s.size := by omega
            have hres : resB 4 (some (acc, 1 + j)) = .tuple #[.agg #[.int .i64 4, .int .i64 0, .float .f64 0, .string ⟨acc.toArray⟩], .int .i64 ((j : Int) + 1)] := by
              have e : ((1 + j : Nat) : Int) = (j : Int) + 1 := by omega
              simp only [resB, e]
              rfl
            have HRES : Hid (_ = _) := hres
            clear hres HR hff
            go_wp2
            refine bodyPost_ret (v := .tuple #[.agg #[.int .i64 4, .int .i64 0, .float .f64 0, .string ⟨acc.toArray⟩], .int .i64 ((j : Int) + 1)]) (by simp [results, Tryd.results41, go_sem, z0, z1, z2, z3]) rfl ⟨congrArg Ending.returned HRES.out.symm, ((((HE.out.2.2.2.setCell (by simp) _).setCell (by simp) _).setCell (by simp) _).setCell (by simp) _).setCell (by simp) _⟩
      · have hc0 : 0 < (c.toNat : Int) := by
          rcases Nat.eq_zero_or_pos c.toNat with h | h
          · exact absurd (UInt8.toNat_inj.1 (h.trans rfl)) hc
          · omega
        have HC0 : Hid (¬ c = 0) := hc
        clear hc hcv
        go_wp2_with (first | (at_builtin; refine wpList_app1 _ rfl (.tmp 142) _ rfl w.heap.size _ _ rfl HE.out.1 c _ ?zz1 rfl ?ll1 ?bb1 ?_))
        case zz1 => first | rfl | rw [HC.out]
        case ll1 => omega
        case bb1 => omega
        intro v1 w1 h1 h2
        have heq2 : R = (rdStr (s.data.toList.drop (j + 1))).map (fun y => ((acc ++ [c]) ++ y.1, y.2 + (j + 1))) := by
          have h := HE.out.2.2.1
          rw [drop_cons hj1, ← HC.out, rdStr_nz HC0.out, Option.map_map] at h
          rw [h]
          congr 1
          funext y
          simp
          omega
        have R2 : Hid (OwnB w1 w.heap.size v1 (acc ++ [c]) ∧ Keep5 w.heap.size ((w.alloc (.cells #[.int .i64 0, .int .i64 0, .float .f64 0, .string ⟨#[]⟩] 52)).alloc (.cells #[.int .i64 4, .int .i64 0, .float .f64 0, .string ⟨#[]⟩] 52)) w1 ∧ R = (rdStr (s.data.toList.drop (j + 1))).map (fun y => ((acc ++ [c]) ++ y.1, y.2 + (j + 1)))) := ⟨h1, HE.out.2.1.trans h2, heq2⟩
        clear h1 h2 heq2
        go_wp2
        go_roundw
        case rel => exact ⟨j + 1, acc ++ [c], by omega, by simp; omega, by go_num, R2.out.1, R2.out.2.1, R2.out.2.2⟩
        case measure => simp [intOf]; omega

set_option maxHeartbeats 8000000 in
theorem bk_str_5 (s : ByteArray) (w : World) (hs : s.size ≤ 1024) (h0 : 0 < s.size) (ht : s[0] = 6) :
    Calls Tryd.prog 41 #[.string s] w fun e w' => e = .returned (resB 5 (rd1 s.data.toList)) ∧ Below w.heap.size w w' := by
  have hsf := run_store_float
  obtain ⟨R, hr⟩ : ∃ R, R = rd1 s.data.toList := ⟨_, rfl⟩
  rw [← hr]
  have HR : Hid (R = (rdStr (s.data.toList.drop 1)).map (fun y => ([] ++ y.1, y.2 + 1))) := by show R = _; rw [hr]; rfl
  clear hr
  go_enter Tryd.func41, Tryd.ntmps41
  go_wp2_with fail
  go_loopw [9, 10] (fun x i wr => ∃ (j : Nat) (acc : List UInt8), j ≤ s.size ∧ acc.length ≤ j ∧ i = .int .i64 (j : Int) ∧ OwnB wr w.heap.size x acc ∧ Keep5 w.heap.size ((w.alloc (.cells #[.int .i64 0, .int .i64 0, .float .f64 0, .string ⟨#[]⟩] 52)).alloc (.cells #[.int .i64 5, .int .i64 0, .float .f64 0, .string ⟨#[]⟩] 52)) wr ∧ R = (rdStr (s.data.toList.drop j)).map (fun y => (acc ++ y.1, y.2 + j))) (fun _ i _ => s.size - (intOf i).toNat)
  case atStart => exact ⟨1, [], h0, Nat.zero_le _, by go_num, OwnB.nil _ _, Keep5.refl _ _, HR.out⟩
  case round =>
    clear ht
    obtain ⟨j, acc, hj, hal, rfl, hown, hkp, heq⟩ := hrel
    have hbl : Below w.heap.size w wr := (((Below.refl _ _).alloc (Nat.le_refl _) _).alloc (by simp) _).trans hkp.below
    have hz := hbl.size
    have hzb : KBox wr w.heap.size 0 := ((KBox.new w 0).keep ((Below.refl _ _).alloc (Nat.le_refl _) _)).keep5 hkp
    have hkb : KBox wr (w.heap.size + 1) 5 := by
      have h := KBox.new (w.alloc (.cells #[.int .i64 0, .int .i64 0, .float .f64 0, .string ⟨#[]⟩] 52)) 5
      have e : (w.alloc (.cells #[.int .i64 0, .int .i64 0, .float .f64 0, .string ⟨#[]⟩] 52)).heap.size = w.heap.size + 1 := by simp
      rw [e] at h
      exact h.keep5 hkp
    have hcv := hown.conv
    have HE : Hid (OwnB _ _ _ _ ∧ Keep5 _ _ _ ∧ _ = _ ∧ Below _ _ _) := ⟨hown, hkp, heq, hbl⟩
    obtain ⟨⟨z0, z1, z2, z3⟩, y0, y1, y2, y3⟩ := hzb.cells
    obtain ⟨⟨c0, c1, c2, c3⟩, d0, d1, d2, d3⟩ := hkb.cells
    clear hown hkp heq hbl hzb hkb
    by_cases hj0 : j = s.size
    · subst hj0
      clear hcv
      have h9 : R = none := by have h := HE.out.2.2.1; rw [List.drop_of_length_le (by simp), rdStr_n] at h; exact h
      subst h9
      go_wp2
      refine bodyPost_ret (v := resB 5 none) (by simp [results, Tryd.results41, go_sem, z0, z1, z2, z3, resB]) rfl ⟨rfl, (((HE.out.2.2.2.setCell (by simp) _).setCell (by simp) _).setCell (by simp) _).setCell (by simp) _⟩
    · have hj1 : j < s.size := by omega
      obtain ⟨c, hc⟩ : ∃ c, c = s[j] := ⟨_, rfl⟩
      have HC : Hid (c = s[j]) := hc
      have hch : s[j] = c := hc.symm
      clear hc
      by_cases hc : c = 0
      · subst hc
        have hc0 : (s[j].toNat : Int) = 0 := by rw [hch]; rfl
        by_cases hlast : j + 1 = s.size
        · have h := HE.out.2.2.1
          rw [drop_cons hj1, ← HC.out, List.drop_of_length_le (show s.data.toList.length ≤ j + 1 by simp; omega), rdStr_e] at h
          simp only [Option.map_some, List.append_nil] at h
          subst h
          have hl' : (j : Int) + 1 = s.size := by omega
          have hres : resB 5 (some (acc, 1 + j)) = .tuple #[.agg #[.int .i64 5, .int .i64 0, .float .f64 0, .string ⟨acc.toArray⟩], .int .i64 (s.size : Int)] := by
            have e : ((1 + j : Nat) : Int) = (s.size : Int) := by omega
            simp only [resB, e]
            rfl
          have HRES : Hid (_ = _) := hres
          clear hres HR
          go_wp2
          refine bodyPost_ret (v := .tuple #[.agg #[.int .i64 5, .int .i64 0, .float .f64 0, .string ⟨acc.toArray⟩], .int .i64 (s.size : Int)]) (by simp [results, Tryd.results41, go_sem, z0, z1, z2, z3]) rfl ⟨congrArg Ending.returned HRES.out.symm, ((((HE.out.2.2.2.setCell (by simp) _).setCell (by simp) _).setCell (by simp) _).setCell (by simp) _).setCell (by simp) _⟩
        · have hj2 : j + 1 < s.size := by omega
          obtain ⟨d, hd⟩ : ∃ d, d = s[j + 1] := ⟨_, rfl⟩
          have HD : Hid (d = s[j + 1]) := hd
          have hdh : s[j + 1] = d := hd.symm
          clear hd
          by_cases hff : d = 255
          · subst hff
            clear hcv
            go_wp2_with (first | (at_builtin; refine wpList_app1 _ rfl (.tmp 166) _ rfl w.heap.size _ _ rfl HE.out.1 0 _ ?zz1 rfl ?ll1 ?bb1 ?_))
            case zz1 => rfl
            case ll1 => omega
            case bb1 => omega
            intro v1 w1 h1 h2
            have heq2 : R = (rdStr (s.data.toList.drop (j + 2))).map (fun y => ((acc ++ [0]) ++ y.1, y.2 + (j + 2))) := by
              have h := HE.out.2.2.1
              rw [drop_cons hj1, drop_cons hj2, ← HC.out, ← HD.out, rdStr_z, if_pos rfl, Option.map_map] at h
              rw [h]
              congr 1
              funext y
              simp
              omega
            have R2 : Hid (OwnB w1 w.heap.size v1 (acc ++ [0]) ∧ Keep5 w.heap.size ((w.alloc (.cells #[.int .i64 0, .int .i64 0, .float .f64 0, .string ⟨#[]⟩] 52)).alloc (.cells #[.int .i64 5, .int .i64 0, .float .f64 0, .string ⟨#[]⟩] 52)) w1 ∧ R = (rdStr (s.data.toList.drop (j + 2))).map (fun y => ((acc ++ [0]) ++ y.1, y.2 + (j + 2)))) := ⟨h1, HE.out.2.1.trans h2, heq2⟩
            clear h1 h2 heq2
            go_wp2
            go_roundw
            case rel => exact ⟨j + 2, acc ++ [0], by omega, by simp; omega, by go_num, R2.out.1, R2.out.2.1, R2.out.2.2⟩
            case measure => simp [intOf]; omega
          · have h := HE.out.2.2.1
            rw [drop_cons hj1, drop_cons hj2, ← HC.out, ← HD.out, rdStr_z, if_neg hff] at h
            simp only [Option.map_some, List.append_nil] at h
            subst h
            have hne : ((d.toNat : Int) != 255) = true := by
              have : ¬ d.toNat = 255 := fun e => hff (UInt8.toNat_inj.1 (e.trans rfl))
              simp; omega
            have hl' : (j : Int) + 1 < s.size := by omega
            have hres : resB 5 (some (acc, 1 + j)) = .tuple #[.agg #[.int .i64 5, .int .i64 0, .float .f64 0, .string ⟨acc.toArray⟩], .int .i64 ((j : Int) + 1)] := by
              have e : ((1 + j : Nat) : Int) = (j : Int) + 1 := by omega
              simp only [resB, e]
              rfl
            have HRES : Hid (_ = _) := hres
            clear hres HR hff
            go_wp2
            refine bodyPost_ret (v := .tuple #[.agg #[.int .i64 5, .int .i64 0, .float .f64 0, .string ⟨acc.toArray⟩], .int .i64 ((j : Int) + 1)]) (by simp [results, Tryd.results41, go_sem, z0, z1, z2, z3]) rfl ⟨congrArg Ending.returned HRES.out.symm, ((((HE.out.2.2.2.setCell (by simp) _).setCell (by simp) _).setCell (by simp) _).setCell (by simp) _).setCell (by simp) _⟩
      · have hc0 : 0 < (c.toNat : Int) := by
          rcases Nat.eq_zero_or_pos c.toNat with h | h
          · exact absurd (UInt8.toNat_inj.1 (h.trans rfl)) hc
          · omega
        have HC0 : Hid (¬ c = 0) := hc
        clear hc hcv
        go_wp2_with (first | (at_builtin; refine wpList_app1 _ rfl (.tmp 142) _ rfl w.heap.size _ _ rfl HE.out.1 c _ ?zz1 rfl ?ll1 ?bb1 ?_))
        case zz1 => first | rfl | rw [HC.out]
        case ll1 => omega
        case bb1 => omega
        intro v1 w1 h1 h2
        have heq2 : R = (rdStr (s.data.toList.drop (j + 1))).map (fun y => ((acc ++ [c]) ++ y.1, y.2 + (j + 1))) := by
          have h := HE.out.2.2.1
          rw [drop_cons hj1, ← HC.out, rdStr_nz HC0.out, Option.map_map] at h
          rw [h]
          congr 1
          funext y
          simp
          omega
        have R2 : Hid (OwnB w1 w.heap.size v1 (acc ++ [c]) ∧ Keep5 w.heap.size ((w.alloc (.cells #[.int .i64 0, .int .i64 0, .float .f64 0, .string ⟨#[]⟩] 52)).alloc (.cells #[.int .i64 5, .int .i64 0, .float .f64 0, .string ⟨#[]⟩] 52)) w1 ∧ R = (rdStr (s.data.toList.drop (j + 1))).map (fun y => ((acc ++ [c]) ++ y.1, y.2 + (j + 1)))) := ⟨h1, HE.out.2.1.trans h2, heq2⟩
        clear h1 h2 heq2
        go_wp2
        go_roundw
        case rel => exact ⟨j + 1, acc ++ [c], by omega, by simp; omega, by go_num, R2.out.1, R2.out.2.1, R2.out.2.2⟩
        case measure => simp [intOf]; omega
end Go.Proofs.YteffaldahccgiaaDoor
