/- The walk of the statement on Union: it answers true. The walk of Decode, round by round. -/
import Derived.Test.YtcjpindbplppgaaDoorGWSortN
import Derived.Test.YtcjpindbplppgaaDoorGWBoth3
import Derived.Test.YtcjpindbplppgaaDoorGFrameRs
import Derived.Test.YtcjpindbplppgaaDoorGWDec5
namespace Go.Proofs.YtcjpindbplppgaaDoor
open Go.RowKit
set_option maxRecDepth 100000

set_option maxHeartbeats 4000000 in
theorem rsameR_any (L : List Rg) (p q : Option Addr) (c d : Nat) (w : World) (hR : RowR w w.heap.size p L) (hQ : RowR w w.heap.size q L) (hlen : L.length ≤ 3518437208784) :
    Calls Tryd.prog 9 #[.slice p L.length c, .slice q L.length d] w fun e w' => e = .returned (.bool true) ∧ Below w.heap.size w w' := by
  have HA : Hid (RowR w w.heap.size p L) := hR
  have HB : Hid (RowR w w.heap.size q L) := hQ
  have hq := run_eqR
  have hqg := run_eqG
  have hqs := eqR_self
  clear hR hQ
  go_enter Tryd.func9, Tryd.ntmps9
  go_wp2_with fail
  go_loopw [5] (fun i wr => ∃ j : Nat, j ≤ L.length ∧ i = .int .i64 (j : Int) ∧ Below w.heap.size w wr) (fun i _ => L.length - (intOf i).toNat)
  case atStart => exact ⟨0, Nat.zero_le _, by go_num, Below.refl _ _⟩
  case round =>
    obtain ⟨j, hj, rfl, hn⟩ := hrel
    by_cases hj0 : j = L.length
    · subst hj0
      go_wp2
      go_ret
      exact ⟨rfl, hn⟩
    · have hj1 : j < L.length := by omega
      obtain ⟨b, o, rfl, hbB, d0, d1, d2⟩ := HA.out j hj1
      obtain ⟨b', o', rfl, hbB', d0', d1', d2'⟩ := HB.out j hj1
      have a0 := (hn.cell (p := ⟨b, o + j * 3, none⟩) hbB).trans d0
      have a1 := (hn.cell (p := ⟨b, o + j * 3 + 1, none⟩) hbB).trans d1
      have a2 := (hn.cell (p := ⟨b, o + j * 3 + 2, none⟩) hbB).trans d2
      have e0 := (hn.cell (p := ⟨b', o' + j * 3, none⟩) hbB').trans d0'
      have e1 := (hn.cell (p := ⟨b', o' + j * 3 + 1, none⟩) hbB').trans d1'
      have e2 := (hn.cell (p := ⟨b', o' + j * 3 + 2, none⟩) hbB').trans d2'
      clear d0 d1 d2 d0' d1' d2'
      generalize (L[j]).lo = lo at *
      generalize (L[j]).hi = hi at *
      generalize (L[j]).op = op at *
      go_wp2_with fail
      go_quiet (fail)
      go_wp2_with fail
      go_roundw
      case rel => exact ⟨j + 1, hj1, by go_num, hn.trans ((below_drewN _ _).mono hn.size)⟩
      case measure => simp [intOf]; omega

theorem keep_some (L : List Rg) (r : Rg) (h : r ∈ keepL L) : r.some := by
  unfold keepL at h
  have h1 := (List.mem_filter.1 h).2
  rw [some_iff]
  simpa [Rg.emp] using h1



end Go.Proofs.YtcjpindbplppgaaDoor

namespace Go.Proofs.YtcjpindbplppgaaDoor
open Go.RowKit
set_option maxRecDepth 100000

theorem extN (s : ByteArray) (n : Nat) : (s.extract n s.size).data.toList = s.data.toList.drop n := by
  rw [ByteArray.data_extract, Array.toList_extract, List.extract_eq_take_drop, List.take_of_length_le (by simp)]
theorem dec_step (rb : ByteArray) (h0 : 0 < rb.size) : decF rb.data.toList.length rb.data.toList = (match rdV rb[0] (rb.data.toList.drop 1) with
    | none => none
    | some x => (decF ((rb.data.toList.drop 1).drop x.2).length ((rb.data.toList.drop 1).drop x.2)).map (fun l => x.1 :: l)) := by
  have hl : rb.data.toList.length = (rb.data.toList.drop 1).length + 1 := by simp; omega
  conv => lhs; rw [hl, toList_cons h0]
  simp only [decF]
  cases rdV rb[0] (rb.data.toList.drop 1) with
  | none => rfl
  | some x =>
    dsimp only
    rw [decF_fuel _ _ (by simp; omega)]

set_option maxHeartbeats 8000000 in
theorem decode_any (s : ByteArray) (w : World) (hs : s.size ≤ 9223372036854775807) (hg : 2 < w.heap.size) (hT : Lib.Utf8Tabs 1 2 w) :
    Calls Tryd.prog 6 #[.string s] w fun e w' => ∃ v, e = .returned (.tuple #[v, .int .i64 (decS s.data.toList).2]) ∧ OwnV w' w.heap.size v (decS s.data.toList).1 ∧ Below w.heap.size w w' := by
  have hsz : s.data.toList.length = s.size := by simp
  unfold decS
  rw [hsz]
  by_cases hlong : 1024 < s.size
  · rw [if_pos hlong]
    have h' : (1024 : Int) < s.size := by omega
    clear hT hsz hlong
    go_enter Tryd.func6, Tryd.ntmps6
    go_wp2
    go_ret2
    exact ⟨_, rfl, OwnV.nil _ _, Below.refl _ _⟩
  · rw [if_neg hlong]
    have h' : (s.size : Int) ≤ 1024 := by omega
    have hle : s.size ≤ 1024 := by omega
    obtain ⟨r, hr⟩ : ∃ r, r = decF s.size s.data.toList := ⟨_, rfl⟩
    rw [← hr]
    have HR : Hid (r = decF s.data.toList.length s.data.toList) := by rw [hr, hsz]; exact rfl
    have HT : Hid (Lib.Utf8Tabs 1 2 w) := hT
    have hsf := run_store_float
    clear hT hsz hlong hr
    go_enter Tryd.func6, Tryd.ntmps6
    go_wp2_with fail
    go_loopw [4, 5] (fun l x wr => ∃ (rb : ByteArray) (acc : List Vl), x = .string rb ∧ rb.size ≤ 1024 ∧ acc.length + rb.size ≤ 1024 ∧ OwnV wr w.heap.size l acc ∧ Below w.heap.size w wr ∧ r = (decF rb.data.toList.length rb.data.toList).map (fun M => acc ++ M)) (fun _ x _ => match x with | .string b => b.size | _ => 0)
    case atStart => exact ⟨s, [], rfl, hle, by simp; omega, OwnV.nil _ _, Below.refl _ _, by simp; exact HR.out⟩
    case round =>
      obtain ⟨rb, acc, rfl, hrb, hal, hown, hbl, heq⟩ := hrel
      have hz := hbl.size
      have HE : Hid (OwnV _ _ _ _ ∧ Below _ _ _ ∧ _ = _) := ⟨hown, hbl, heq⟩
      clear hown hbl heq
      rcases Nat.eq_zero_or_pos rb.size with h0 | h0
      · have e := is_nil h0
        subst e
        have h9 : r = some acc := by have h := HE.out.2.2; rw [h]; simp [decF]
        subst h9
        go_wp2
        go_ret2
        exact ⟨_, rfl, HE.out.1, HE.out.2.1⟩
      · have hne := not_nil h0
        have hst := dec_step rb h0
        have hx := ext1 rb
        have hxs := ext_size rb
        have C1 : Hid (∀ w1 : World, Below w.heap.size w w1 → Calls Tryd.prog 13 #[.int .u8 (rb[0].toNat : Int), .string (rb.extract 1 rb.size)] w1 fun e w' => e = .returned (res3 (rdV rb[0] (rb.data.toList.drop 1))) ∧ Below w1.heap.size w1 w') := fun w1 hb => by
          have h := readValue_any rb[0] (rb.extract 1 rb.size) w1 (by omega) (by have := hb.size; omega) (tabs_keep hb hg HT.out)
          rw [hx] at h
          exact h
        cases hv : rdV rb[0] (rb.data.toList.drop 1) with
        | none =>
          rw [hv] at C1 hst
          have h := HE.out.2.2
          rw [hst] at h
          have hr : r = none := by simpa using h
          subst hr
          have C2 : Hid (∀ w1 : World, Below w.heap.size w w1 → Calls Tryd.prog 13 #[.int .u8 (rb[0].toNat : Int), .string (rb.extract 1 rb.size)] w1 fun e w' => e = .returned (.tuple #[.agg #[.int .i64 0, .int .i64 0, .float .f64 0, .string ⟨#[]⟩], .int .i64 0, .bool false]) ∧ Below w1.heap.size w1 w') := C1.out
          clear h hst hx hxs hv C1
          go_wp2_with fail
          go_region_with (first | (go_at_call 13; refine (C2.out _ (HE.out.2.1.alloc hz _).drew).mono ?_; rintro e w1 ⟨rfl, hb1⟩; obtain ⟨⟨z0, z1, z2, z3⟩, y0, y1, y2, y3⟩ := vz wr w1 _ rfl ((Below.refl _ _).drew.trans hb1); have hK : Below wr.heap.size wr w1 := ((Below.refl _ _).alloc (Nat.le_refl _) _).drew.trans (hb1.mono (by simp)); have hE : Below w.heap.size w w1 := HE.out.2.1.trans (hK.mono hz)) | (go_at_call 13; refine (C2.out _ HE.out.2.1.drew).mono ?_; rintro e w1 ⟨rfl, hb1⟩; have hK : Below wr.heap.size wr w1 := (Below.refl _ _).drew.trans hb1; have hE : Below w.heap.size w w1 := HE.out.2.1.trans (hK.mono hz)))
          all_goals (try go_wp2)
          all_goals go_ret2
          all_goals first
            | exact ⟨_, rfl, OwnV.nil _ _, (((hE.setCell hz _).setCell hz _).setCell hz _).setCell hz _⟩
            | exact ⟨_, rfl, OwnV.nil _ _, hE.alloc hE.size _⟩
        | some x =>
          obtain ⟨u, n⟩ := x
          rw [hv] at C1 hst
          obtain ⟨bn, bo, bc, _, _⟩ := rd_back hv
          have h := HE.out.2.2
          rw [hst] at h
          dsimp only at h
          have hnr : 1 + n ≤ rb.size := by
            have : (rb.data.toList.drop 1).length = rb.size - 1 := by simp
            omega
          have hxn := extN rb (1 + n)
          have hd : (rb.data.toList.drop 1).drop n = rb.data.toList.drop (1 + n) := by rw [List.drop_drop]
          rw [hd, Option.map_map] at h
          have HX : Hid (r = (decF ((rb.extract (1 + n) rb.size).data.toList).length (rb.extract (1 + n) rb.size).data.toList).map (fun M => (acc ++ [u]) ++ M)) := by
            show r = _
            rw [hxn, h]
            congr 1
            funext M
            simp
          have hxz : (rb.extract (1 + n) rb.size).size = rb.size - (1 + n) := by simp
          have C2 : Hid (∀ w1 : World, Below w.heap.size w w1 → Calls Tryd.prog 13 #[.int .u8 (rb[0].toNat : Int), .string (rb.extract 1 rb.size)] w1 fun e w' => e = .returned (.tuple #[.agg #[.int .i64 u.k, .int .i64 u.n, .float .f64 u.f, .string u.s], .int .i64 (n : Int), .bool true]) ∧ Below w1.heap.size w1 w') := C1.out
          have hn' : (1 : Int) + n ≤ rb.size := by omega
          clear h hst hx hxs hv C1 hd hxn bo bc bn
          go_wp2_with fail
          go_region_with (first | (go_at_call 13; refine (C2.out _ (HE.out.2.1.alloc hz _).drew).mono ?_; rintro e w1 ⟨rfl, hb1⟩; obtain ⟨⟨z0, z1, z2, z3⟩, y0, y1, y2, y3⟩ := vz wr w1 _ rfl ((Below.refl _ _).drew.trans hb1); have hK : Below wr.heap.size wr w1 := ((Below.refl _ _).alloc (Nat.le_refl _) _).drew.trans (hb1.mono (by simp)); have hE : Below w.heap.size w w1 := HE.out.2.1.trans (hK.mono hz)) | (go_at_call 13; refine (C2.out _ HE.out.2.1.drew).mono ?_; rintro e w1 ⟨rfl, hb1⟩; have hK : Below wr.heap.size wr w1 := (Below.refl _ _).drew.trans hb1; have hE : Below w.heap.size w w1 := HE.out.2.1.trans (hK.mono hz)))
          all_goals (go_wp2_with (first | (at_builtin; refine wpList_appV _ rfl (.tmp 26) _ rfl w.heap.size _ _ rfl (by first | exact HE.out.1.kept ((((hK.setCell (Nat.le_refl _) _).setCell (Nat.le_refl _) _).setCell (Nat.le_refl _) _).setCell (Nat.le_refl _) _) | exact HE.out.1.kept (hK.alloc hK.size _)) u _ rfl (by simp) (by omega) (by have := hE.size; simp; omega) ?_; intro v2 w2 h5 h6)))
          all_goals (try go_wp2)
          all_goals go_roundw
          all_goals first
            | (exact ⟨rb.extract (1 + n) rb.size, acc ++ [u], rfl, by omega, by simp; omega, h5, (by first | exact (HE.out.2.1.trans (Below.mono ((((hK.setCell (Nat.le_refl _) _).setCell (Nat.le_refl _) _).setCell (Nat.le_refl _) _).setCell (Nat.le_refl _) _) hz)).trans h6 | exact (HE.out.2.1.trans (Below.mono (hK.alloc hK.size _) hz)).trans h6), HX.out⟩)
            | (simp; omega)

end Go.Proofs.YtcjpindbplppgaaDoor
