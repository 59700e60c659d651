/- Lists of points: searched and cut by a function that is handed in. A statement that draws its order and writes last: what it reads may be taken first, though its last operation writes there. -/
import Derived.Test.YtcknhjabdjbjiabGreatProg
import Derived.WalkKit
import Derived.Deep.RegionHeld3
import Derived.Test.YtcknhjabdjbjiabGreatGWV13
import Derived.Test.YtcknhjabdjbjiabGreatGWPtM
namespace Go.Proofs.YtcknhjabdjbjiabGreat
open Go.RowKit
set_option maxRecDepth 100000

set_option maxHeartbeats 2000000 in
theorem indexFP0_any (fid : FuncId) (t : Pt → Bool) (L : List Pt) (p : Option Addr) (c : Nat) (w : World) (hin : ∀ args w, (callFunc fid args).run Tryz.prog w = .ok (.enter fid args) w) (hR : RowP w w.heap.size p L) (hlen : L.length ≤ 4398046511104)
    (HC : ∀ (x : Pt) (w1 : World), Below w.heap.size w w1 → Calls Tryz.prog fid #[.agg #[.int .i64 x.t, .int .i64 x.i, .string x.k]] w1 fun e w' => e = .returned (.bool (t x)) ∧ Below w1.heap.size w1 w') :
    Calls Tryz.prog 54 #[.slice p L.length c, .func (.func fid) #[] #[]] w fun e w' => e = .returned (.int .i64 (if firstG t L = L.length then -1 else (firstG t L : Int))) ∧ Below w.heap.size w w' := by
  have HA : Hid (RowP _ _ _ _) := hR
  have HF := firstG_le t L
  have HS : Hid (∀ (j : Nat) (hj : j < L.length), j ≤ firstG t L → (t L[j] = true → firstG t L = j) ∧ (t L[j] = false → j + 1 ≤ firstG t L)) := firstG_step t L
  have HHC : Hid (∀ (x : Pt) (w1 : World), Below w.heap.size w w1 → Calls Tryz.prog fid #[.agg #[.int .i64 x.t, .int .i64 x.i, .string x.k]] w1 fun e w' => e = .returned (.bool (t x)) ∧ Below w1.heap.size w1 w') := HC
  clear hR HC
  generalize firstG t L = f at *
  go_enter Tryz.func54, Tryz.ntmps54
  go_wp2_with fail
  go_loopw [8] (fun i wr => ∃ j : Nat, j ≤ f ∧ i = .int .i64 (j : Int) ∧ Below w.heap.size w wr) (fun i _ => L.length - (intOf i).toNat)
  case atStart => exact ⟨0, Nat.zero_le _, by go_num, Below.refl _ _⟩
  case round =>
    obtain ⟨j, hj, rfl, hn⟩ := hrel
    by_cases hj0 : j = L.length
    · have hf : f = L.length := by omega
      subst hj0
      go_wp2
      go_ret
      exact ⟨rfl, hn⟩
    · have hj1 : j < L.length := by omega
      obtain ⟨b, o, rfl, hbB, c0, c1, c2⟩ := HA.out j hj1
      have a0 := (hn.cell (p := ⟨b, o + j * 3, none⟩) hbB).trans c0
      have a1 := (hn.cell (p := ⟨b, o + j * 3 + 1, none⟩) hbB).trans c1
      have a2 := (hn.cell (p := ⟨b, o + j * 3 + 2, none⟩) hbB).trans c2
      have hst := HS.out j hj1 hj
      have HN : Hid (Below w.heap.size w _) := hn
      have CE : Hid (∀ w1 : World, Below w.heap.size w w1 → Calls Tryz.prog fid #[.agg #[.int .i64 (L[j]).t, .int .i64 (L[j]).i, .string (L[j]).k]] w1 fun e w' => e = .returned (.bool (t L[j])) ∧ Below w1.heap.size w1 w') := fun w1 h1 => HHC.out L[j] w1 h1
      clear c0 c1 c2 hj0 HHC
      generalize t L[j] = em at *
      generalize (L[j]).t = x0 at *
      generalize (L[j]).i = x1 at *
      generalize (L[j]).k = x2 at *
      cases em
      · have hlt := hst.2 rfl
        clear hst
        go_wp2_with fail
        refine (CE.out _ HN.out).mono ?_
        rintro e w5 ⟨rfl, hb5⟩
        have hsz := hn.size
        clear a0
        go_wp2
        go_roundw
        case rel => exact ⟨j + 1, hlt, by go_num, hn.trans (hb5.mono hn.size)⟩
        case measure => simp [intOf]; omega
      · have hf := hst.1 rfl
        clear hst
        go_wp2_with fail
        refine (CE.out _ HN.out).mono ?_
        rintro e w5 ⟨rfl, hb5⟩
        go_wp2
        go_ret
        exact ⟨rfl, hn.trans (hb5.mono hn.size)⟩

set_option maxHeartbeats 2000000 in
theorem containsFP0_any (fid : FuncId) (t : Pt → Bool) (L : List Pt) (p : Option Addr) (c : Nat) (w : World) (hin : ∀ args w, (callFunc fid args).run Tryz.prog w = .ok (.enter fid args) w) (hR : RowP w w.heap.size p L) (hlen : L.length ≤ 4398046511104)
    (HC : ∀ (x : Pt) (w1 : World), Below w.heap.size w w1 → Calls Tryz.prog fid #[.agg #[.int .i64 x.t, .int .i64 x.i, .string x.k]] w1 fun e w' => e = .returned (.bool (t x)) ∧ Below w1.heap.size w1 w') :
    Calls Tryz.prog 35 #[.slice p L.length c, .func (.func fid) #[] #[]] w fun e w' => e = .returned (.bool (L.any t)) ∧ Below w.heap.size w w' := by
  have C1 : Hid (Calls _ _ _ _ _) := indexFP0_any fid t L p c w hin hR hlen HC
  have hr : decide (0 ≤ (if firstG t L = L.length then (-1 : Int) else (firstG t L : Int))) = L.any t := firstG_any t L
  have HR : Hid (decide (0 ≤ (if firstG t L = L.length then (-1 : Int) else (firstG t L : Int))) = L.any t) := hr
  clear hR HC hr
  generalize (if firstG t L = L.length then (-1 : Int) else (firstG t L : Int)) = f at *
  go_enter Tryz.func35, Tryz.ntmps35
  go_wp2_with fail
  refine C1.out.mono ?_
  rintro e w1 ⟨rfl, hb1⟩
  go_wp2
  go_ret
  exact ⟨by rw [← HR.out]; rfl, hb1⟩

set_option maxHeartbeats 4000000 in
theorem deleteFP0_any (fid : FuncId) (t : Pt → Bool) (L : List Pt) (g cap B : Nat) (w : World) (hin : ∀ args w, (callFunc fid args).run Tryz.prog w = .ok (.enter fid args) w) (hO : OwnP w B (.slice (some ⟨g, 0, none⟩) L.length cap) L) (hlen : L.length ≤ 4398046511104) 
    (HC : ∀ (x : Pt) (w1 : World), Below B w w1 → Calls Tryz.prog fid #[.agg #[.int .i64 x.t, .int .i64 x.i, .string x.k]] w1 fun e w' => e = .returned (.bool (t x)) ∧ Below w1.heap.size w1 w') :
    Calls Tryz.prog 45 #[.slice (some ⟨g, 0, none⟩) L.length cap, .func (.func fid) #[] #[]] w fun e w' => e = .returned (.slice (some ⟨g, 0, none⟩) (dropG t L).length cap) ∧ OwnP w' B (.slice (some ⟨g, 0, none⟩) (dropG t L).length cap) (dropG t L) ∧ Below B w w' := by
  obtain ⟨hcap, hmx, hBg, hgw⟩ := hO.cap
  have hmx' : cap ≤ 9223372036854775807 := by unfold maxLen at hmx; omega
  obtain ⟨p0, c0', ep, hRow⟩ := hO.row
  injection ep with ep1 _ ep3
  subst ep1 ep3
  have C1 : Hid (Calls _ _ _ _ _) := indexFP0_any fid t L (some ⟨g, 0, none⟩) cap w hin hRow hlen (fun x w1 h1 => HC x w1 (h1.mono (by omega)))
  have HO : Hid (OwnP _ _ _ _) := hO
  have HHC : Hid (∀ (x : Pt) (w1 : World), Below B w w1 → Calls Tryz.prog fid #[.agg #[.int .i64 x.t, .int .i64 x.i, .string x.k]] w1 fun e w' => e = .returned (.bool (t x)) ∧ Below w1.heap.size w1 w') := HC
  have hfl := firstG_le t L
  clear hO hRow hmx HC
  by_cases hall : firstG t L = L.length
  · have hk := firstG_none t L hall
    rw [if_pos hall] at C1
    rw [hk]
    clear hk hall hfl
    go_enter Tryz.func45, Tryz.ntmps45
    go_wp2_with fail
    refine C1.out.mono ?_
    rintro e w1 ⟨rfl, hb1⟩
    go_wp2
    go_ret
    exact ⟨rfl, HO.out.kept hb1, hb1.mono (by omega)⟩
  · have HT : Hid (dropG t (L.take (firstG t L + 1)) = L.take (firstG t L)) := firstG_take t L (by omega)
    rw [if_neg hall] at C1
    have hf1 : firstG t L < L.length := by omega
    clear hall hfl
    generalize firstG t L = f at *
    have hfne : ((f : Int) == -1) = false := by simp
    go_enter Tryz.func45, Tryz.ntmps45
    go_wp2_with fail
    refine C1.out.mono ?_
    rintro e w1 ⟨rfl, hb1⟩
    have HB1 : Hid (Below _ _ _) := hb1
    clear hb1 C1
    go_wp2_with fail
    go_loopw [5, 6] (fun x y wr => ∃ (i j : Nat) (M : List Pt), x = .int .i64 (i : Int) ∧ y = .int .i64 (j : Int) ∧ i < j ∧ j ≤ L.length ∧ M.length = L.length ∧ M.take i = dropG t (L.take j) ∧ M.drop j = L.drop j ∧ OwnP wr B (.slice (some ⟨g, 0, none⟩) L.length cap) M ∧ Below B w wr) (fun _ y _ => L.length - (intOf y).toNat)
    case atStart => exact ⟨f, f + 1, L, by go_num, by go_num, by omega, by omega, rfl, HT.out.symm, rfl, HO.out.kept HB1.out, HB1.out.mono (by omega)⟩
    case round =>
      obtain ⟨i, j, M, rfl, rfl, hij, hj, hM, htk, hdr, hown, hbl⟩ := hrel
      have HE : Hid (M.take i = dropG t (L.take j) ∧ M.drop j = L.drop j ∧ OwnP wr B (.slice (some ⟨g, 0, none⟩) L.length cap) M ∧ Below B w wr) := ⟨htk, hdr, hown, hbl⟩
      have hgr : g < wr.heap.size := (hown.cap).2.2.2
      clear htk hdr hown hbl
      by_cases hj0 : j = L.length
      · subst hj0
        have hi : i < M.length := by omega
        have hk : M.take i = dropG t L := by have h := HE.out.1; rw [List.take_of_length_le (Nat.le_refl L.length)] at h; exact h
        have hkl : (dropG t L).length = i := by rw [← hk, List.length_take]; omega
        have hcl : (Builtin.clear_ #[24] 0 #[.slice (some ⟨g, i * 3, none⟩) (L.length - i) (cap - i)]).run Tryz.prog wr = .ok (.tuple #[]) (wr.setCells g (i * 3) (zeroP (L.length - i))) := by
          have h' : wr.ownsRow B 36 3 (.slice (some ⟨g, 0, none⟩) M.length cap) M.length (pcells M) := by
            have h := HE.out.2.2.1
            rw [← hM] at h
            exact h
          refine run_clearP wr 0 g (i * 3) (L.length - i) (cap - i) (by omega) (fun t ht => ?_) (fun t _ => h'.frozenAt _)
          rw [h'.cellAt (i * 3 + t) (by omega), List.getElem?_eq_getElem (by rw [pcells_len]; omega)]
          rfl
        have HF : Hid ((dropG t L).length = i ∧ M.take i = dropG t L) := ⟨hkl, hk⟩
        clear hk hkl
        go_wp2
        go_ret
        rw [HF.out.1, ← HF.out.2]
        exact ⟨rfl, HE.out.2.2.1.cut hM.symm i (by omega) _, setCells_below hBg _ _ _ _ HE.out.2.2.2⟩
      · have hj1 : j < L.length := by omega
        have hoM : OwnP wr B (.slice (some ⟨g, 0, none⟩) M.length cap) M := by rw [hM]; exact HE.out.2.2.1
        obtain ⟨⟨c0, c1, c2⟩, _⟩ := hoM.at j (by omega)
        obtain ⟨⟨m0, m1, m2⟩, n0, n1, n2⟩ := hoM.at i (by omega)
        have eMj : M[j]'(by omega) = L[j] := by
          have h := congrArg (fun l => l[0]?) HE.out.2.1
          simp only [List.getElem?_drop, Nat.add_zero] at h
          rw [List.getElem?_eq_getElem (by omega), List.getElem?_eq_getElem hj1] at h
          exact Option.some.inj h
        rw [eMj] at c0 c1 c2
        have CE : Hid (∀ w1 : World, Below B w w1 → Calls Tryz.prog fid #[.agg #[.int .i64 (L[j]).t, .int .i64 (L[j]).i, .string (L[j]).k]] w1 fun e w' => e = .returned (.bool (t L[j])) ∧ Below w1.heap.size w1 w') := fun w1 h1 => HHC.out L[j] w1 h1
        have hks := dropG_snoc t L j hj1
        have HK : Hid (dropG t (L.take (j + 1)) = if t L[j] then dropG t (L.take j) else dropG t (L.take j) ++ [L[j]]) := hks
        clear hoM hks
        obtain ⟨x, hx⟩ : ∃ x, x = L[j] := ⟨_, rfl⟩
        rw [← hx] at HK CE c0 c1 c2 eMj
        have HX : Hid (x = L[j]) := hx
        clear hx
        have hBw : B ≤ wr.heap.size := by omega
        have HAL : Hid (∀ o : Obj, Below B w (wr.alloc o)) := fun o => HE.out.2.2.2.trans (((Below.refl _ _).alloc (Nat.le_refl _) o).mono hBw)
        cases hem : t x
        · rw [hem] at CE HK
          rw [if_neg (by simp)] at HK
          have fin : Hid (∀ (o : Obj) (w5 : World), Below (wr.alloc o).heap.size (wr.alloc o) w5 → Below wr.heap.size wr w5 ∧ OwnP w5 B (.slice (some ⟨g, 0, none⟩) M.length cap) M) := by
            intro o w5 hb5
            have hA : Below wr.heap.size wr w5 := ((Below.refl _ _).alloc (Nat.le_refl _) _).trans (hb5.mono (by simp))
            have hoM : OwnP w5 B (.slice (some ⟨g, 0, none⟩) M.length cap) M := by rw [hM]; exact HE.out.2.2.1.kept hA
            exact ⟨hA, hoM⟩
          go_wp2_with fail
          refine (CE.out _ (HAL.out _)).mono ?_
          rintro e w5 ⟨rfl, hb5⟩
          obtain ⟨hx1, hx2⟩ := bcell hb5
          obtain ⟨hA, hoM5⟩ := fin.out _ w5 hb5
          go_wp2
          go_roundw
          case rel =>
            refine ⟨i + 1, j + 1, M.set i x, by go_num, by go_num, by omega, by omega, by rw [List.length_set]; exact hM, ?_, ?_, ?_, ?_⟩
            · rw [HK.out, ← HE.out.1, List.take_set, List.take_add_one, List.getElem?_eq_getElem (by omega : i < M.length)]
              rw [List.set_append]
              have hl : (M.take i).length = i := by rw [List.length_take]; omega
              rw [if_neg (by omega), hl, Nat.sub_self]
              rfl
            · rw [List.drop_set_of_lt (by omega), ← List.drop_drop, ← List.drop_drop, HE.out.2.1]
            · have h := hoM5.set i (by omega) x
              rw [hM] at h
              exact h
            · exact ((((HE.out.2.2.2.trans (hA.mono hBw))).setCell hBg _).setCell hBg _).setCell hBg _
          case measure => simp [intOf]; omega
        · rw [hem] at CE HK
          rw [if_pos rfl] at HK
          go_wp2_with fail
          refine (CE.out _ (HAL.out _)).mono ?_
          rintro e w5 ⟨rfl, hb5⟩
          have hA : Below wr.heap.size wr w5 := ((Below.refl _ _).alloc (Nat.le_refl _) _).trans (hb5.mono (by simp))
          go_wp2
          go_roundw
          case rel => exact ⟨i, j + 1, M, by go_num, by go_num, by omega, by omega, hM, by rw [HK.out]; exact HE.out.1, by rw [← List.drop_drop, ← List.drop_drop, HE.out.2.1], HE.out.2.2.1.kept hA, HE.out.2.2.2.trans (hA.mono hBw)⟩
          case measure => simp [intOf]; omega

set_option maxHeartbeats 2000000 in
theorem indexFP1_any (fid : FuncId) (k1 : Value) (t : Pt → Bool) (L : List Pt) (p : Option Addr) (c : Nat) (w : World) (hin : ∀ args w, (callFunc fid args).run Tryz.prog w = .ok (.enter fid args) w) (hR : RowP w w.heap.size p L) (hlen : L.length ≤ 4398046511104)
    (HC : ∀ (x : Pt) (w1 : World), Below w.heap.size w w1 → Calls Tryz.prog fid #[.agg #[.int .i64 x.t, .int .i64 x.i, .string x.k], k1] w1 fun e w' => e = .returned (.bool (t x)) ∧ Below w1.heap.size w1 w') :
    Calls Tryz.prog 54 #[.slice p L.length c, .func (.func fid) #[] #[k1]] w fun e w' => e = .returned (.int .i64 (if firstG t L = L.length then -1 else (firstG t L : Int))) ∧ Below w.heap.size w w' := by
  have HA : Hid (RowP _ _ _ _) := hR
  have HF := firstG_le t L
  have HS : Hid (∀ (j : Nat) (hj : j < L.length), j ≤ firstG t L → (t L[j] = true → firstG t L = j) ∧ (t L[j] = false → j + 1 ≤ firstG t L)) := firstG_step t L
  have HHC : Hid (∀ (x : Pt) (w1 : World), Below w.heap.size w w1 → Calls Tryz.prog fid #[.agg #[.int .i64 x.t, .int .i64 x.i, .string x.k], k1] w1 fun e w' => e = .returned (.bool (t x)) ∧ Below w1.heap.size w1 w') := HC
  clear hR HC
  generalize firstG t L = f at *
  go_enter Tryz.func54, Tryz.ntmps54
  go_wp2_with fail
  go_loopw [8] (fun i wr => ∃ j : Nat, j ≤ f ∧ i = .int .i64 (j : Int) ∧ Below w.heap.size w wr) (fun i _ => L.length - (intOf i).toNat)
  case atStart => exact ⟨0, Nat.zero_le _, by go_num, Below.refl _ _⟩
  case round =>
    obtain ⟨j, hj, rfl, hn⟩ := hrel
    by_cases hj0 : j = L.length
    · have hf : f = L.length := by omega
      subst hj0
      go_wp2
      go_ret
      exact ⟨rfl, hn⟩
    · have hj1 : j < L.length := by omega
      obtain ⟨b, o, rfl, hbB, c0, c1, c2⟩ := HA.out j hj1
      have a0 := (hn.cell (p := ⟨b, o + j * 3, none⟩) hbB).trans c0
      have a1 := (hn.cell (p := ⟨b, o + j * 3 + 1, none⟩) hbB).trans c1
      have a2 := (hn.cell (p := ⟨b, o + j * 3 + 2, none⟩) hbB).trans c2
      have hst := HS.out j hj1 hj
      have HN : Hid (Below w.heap.size w _) := hn
      have CE : Hid (∀ w1 : World, Below w.heap.size w w1 → Calls Tryz.prog fid #[.agg #[.int .i64 (L[j]).t, .int .i64 (L[j]).i, .string (L[j]).k], k1] w1 fun e w' => e = .returned (.bool (t L[j])) ∧ Below w1.heap.size w1 w') := fun w1 h1 => HHC.out L[j] w1 h1
      clear c0 c1 c2 hj0 HHC
      generalize t L[j] = em at *
      generalize (L[j]).t = x0 at *
      generalize (L[j]).i = x1 at *
      generalize (L[j]).k = x2 at *
      cases em
      · have hlt := hst.2 rfl
        clear hst
        go_wp2_with fail
        refine (CE.out _ HN.out).mono ?_
        rintro e w5 ⟨rfl, hb5⟩
        have hsz := hn.size
        clear a0
        go_wp2
        go_roundw
        case rel => exact ⟨j + 1, hlt, by go_num, hn.trans (hb5.mono hn.size)⟩
        case measure => simp [intOf]; omega
      · have hf := hst.1 rfl
        clear hst
        go_wp2_with fail
        refine (CE.out _ HN.out).mono ?_
        rintro e w5 ⟨rfl, hb5⟩
        go_wp2
        go_ret
        exact ⟨rfl, hn.trans (hb5.mono hn.size)⟩

set_option maxHeartbeats 2000000 in
theorem containsFP1_any (fid : FuncId) (k1 : Value) (t : Pt → Bool) (L : List Pt) (p : Option Addr) (c : Nat) (w : World) (hin : ∀ args w, (callFunc fid args).run Tryz.prog w = .ok (.enter fid args) w) (hR : RowP w w.heap.size p L) (hlen : L.length ≤ 4398046511104)
    (HC : ∀ (x : Pt) (w1 : World), Below w.heap.size w w1 → Calls Tryz.prog fid #[.agg #[.int .i64 x.t, .int .i64 x.i, .string x.k], k1] w1 fun e w' => e = .returned (.bool (t x)) ∧ Below w1.heap.size w1 w') :
    Calls Tryz.prog 35 #[.slice p L.length c, .func (.func fid) #[] #[k1]] w fun e w' => e = .returned (.bool (L.any t)) ∧ Below w.heap.size w w' := by
  have C1 : Hid (Calls _ _ _ _ _) := indexFP1_any fid k1 t L p c w hin hR hlen HC
  have hr : decide (0 ≤ (if firstG t L = L.length then (-1 : Int) else (firstG t L : Int))) = L.any t := firstG_any t L
  have HR : Hid (decide (0 ≤ (if firstG t L = L.length then (-1 : Int) else (firstG t L : Int))) = L.any t) := hr
  clear hR HC hr
  generalize (if firstG t L = L.length then (-1 : Int) else (firstG t L : Int)) = f at *
  go_enter Tryz.func35, Tryz.ntmps35
  go_wp2_with fail
  refine C1.out.mono ?_
  rintro e w1 ⟨rfl, hb1⟩
  go_wp2
  go_ret
  exact ⟨by rw [← HR.out]; rfl, hb1⟩

set_option maxHeartbeats 4000000 in
theorem deleteFP1_any (fid : FuncId) (k1 : Value) (t : Pt → Bool) (L : List Pt) (g cap B : Nat) (w : World) (hin : ∀ args w, (callFunc fid args).run Tryz.prog w = .ok (.enter fid args) w) (hO : OwnP w B (.slice (some ⟨g, 0, none⟩) L.length cap) L) (hlen : L.length ≤ 4398046511104) 
    (HC : ∀ (x : Pt) (w1 : World), Below B w w1 → Calls Tryz.prog fid #[.agg #[.int .i64 x.t, .int .i64 x.i, .string x.k], k1] w1 fun e w' => e = .returned (.bool (t x)) ∧ Below w1.heap.size w1 w') :
    Calls Tryz.prog 45 #[.slice (some ⟨g, 0, none⟩) L.length cap, .func (.func fid) #[] #[k1]] w fun e w' => e = .returned (.slice (some ⟨g, 0, none⟩) (dropG t L).length cap) ∧ OwnP w' B (.slice (some ⟨g, 0, none⟩) (dropG t L).length cap) (dropG t L) ∧ Below B w w' := by
  obtain ⟨hcap, hmx, hBg, hgw⟩ := hO.cap
  have hmx' : cap ≤ 9223372036854775807 := by unfold maxLen at hmx; omega
  obtain ⟨p0, c0', ep, hRow⟩ := hO.row
  injection ep with ep1 _ ep3
  subst ep1 ep3
  have C1 : Hid (Calls _ _ _ _ _) := indexFP1_any fid k1 t L (some ⟨g, 0, none⟩) cap w hin hRow hlen (fun x w1 h1 => HC x w1 (h1.mono (by omega)))
  have HO : Hid (OwnP _ _ _ _) := hO
  have HHC : Hid (∀ (x : Pt) (w1 : World), Below B w w1 → Calls Tryz.prog fid #[.agg #[.int .i64 x.t, .int .i64 x.i, .string x.k], k1] w1 fun e w' => e = .returned (.bool (t x)) ∧ Below w1.heap.size w1 w') := HC
  have hfl := firstG_le t L
  clear hO hRow hmx HC
  by_cases hall : firstG t L = L.length
  · have hk := firstG_none t L hall
    rw [if_pos hall] at C1
    rw [hk]
    clear hk hall hfl
    go_enter Tryz.func45, Tryz.ntmps45
    go_wp2_with fail
    refine C1.out.mono ?_
    rintro e w1 ⟨rfl, hb1⟩
    go_wp2
    go_ret
    exact ⟨rfl, HO.out.kept hb1, hb1.mono (by omega)⟩
  · have HT : Hid (dropG t (L.take (firstG t L + 1)) = L.take (firstG t L)) := firstG_take t L (by omega)
    rw [if_neg hall] at C1
    have hf1 : firstG t L < L.length := by omega
    clear hall hfl
    generalize firstG t L = f at *
    have hfne : ((f : Int) == -1) = false := by simp
    go_enter Tryz.func45, Tryz.ntmps45
    go_wp2_with fail
    refine C1.out.mono ?_
    rintro e w1 ⟨rfl, hb1⟩
    have HB1 : Hid (Below _ _ _) := hb1
    clear hb1 C1
    go_wp2_with fail
    go_loopw [5, 6] (fun x y wr => ∃ (i j : Nat) (M : List Pt), x = .int .i64 (i : Int) ∧ y = .int .i64 (j : Int) ∧ i < j ∧ j ≤ L.length ∧ M.length = L.length ∧ M.take i = dropG t (L.take j) ∧ M.drop j = L.drop j ∧ OwnP wr B (.slice (some ⟨g, 0, none⟩) L.length cap) M ∧ Below B w wr) (fun _ y _ => L.length - (intOf y).toNat)
    case atStart => exact ⟨f, f + 1, L, by go_num, by go_num, by omega, by omega, rfl, HT.out.symm, rfl, HO.out.kept HB1.out, HB1.out.mono (by omega)⟩
    case round =>
      obtain ⟨i, j, M, rfl, rfl, hij, hj, hM, htk, hdr, hown, hbl⟩ := hrel
      have HE : Hid (M.take i = dropG t (L.take j) ∧ M.drop j = L.drop j ∧ OwnP wr B (.slice (some ⟨g, 0, none⟩) L.length cap) M ∧ Below B w wr) := ⟨htk, hdr, hown, hbl⟩
      have hgr : g < wr.heap.size := (hown.cap).2.2.2
      clear htk hdr hown hbl
      by_cases hj0 : j = L.length
      · subst hj0
        have hi : i < M.length := by omega
        have hk : M.take i = dropG t L := by have h := HE.out.1; rw [List.take_of_length_le (Nat.le_refl L.length)] at h; exact h
        have hkl : (dropG t L).length = i := by rw [← hk, List.length_take]; omega
        have hcl : (Builtin.clear_ #[24] 0 #[.slice (some ⟨g, i * 3, none⟩) (L.length - i) (cap - i)]).run Tryz.prog wr = .ok (.tuple #[]) (wr.setCells g (i * 3) (zeroP (L.length - i))) := by
          have h' : wr.ownsRow B 36 3 (.slice (some ⟨g, 0, none⟩) M.length cap) M.length (pcells M) := by
            have h := HE.out.2.2.1
            rw [← hM] at h
            exact h
          refine run_clearP wr 0 g (i * 3) (L.length - i) (cap - i) (by omega) (fun t ht => ?_) (fun t _ => h'.frozenAt _)
          rw [h'.cellAt (i * 3 + t) (by omega), List.getElem?_eq_getElem (by rw [pcells_len]; omega)]
          rfl
        have HF : Hid ((dropG t L).length = i ∧ M.take i = dropG t L) := ⟨hkl, hk⟩
        clear hk hkl
        go_wp2
        go_ret
        rw [HF.out.1, ← HF.out.2]
        exact ⟨rfl, HE.out.2.2.1.cut hM.symm i (by omega) _, setCells_below hBg _ _ _ _ HE.out.2.2.2⟩
      · have hj1 : j < L.length := by omega
        have hoM : OwnP wr B (.slice (some ⟨g, 0, none⟩) M.length cap) M := by rw [hM]; exact HE.out.2.2.1
        obtain ⟨⟨c0, c1, c2⟩, _⟩ := hoM.at j (by omega)
        obtain ⟨⟨m0, m1, m2⟩, n0, n1, n2⟩ := hoM.at i (by omega)
        have eMj : M[j]'(by omega) = L[j] := by
          have h := congrArg (fun l => l[0]?) HE.out.2.1
          simp only [List.getElem?_drop, Nat.add_zero] at h
          rw [List.getElem?_eq_getElem (by omega), List.getElem?_eq_getElem hj1] at h
          exact Option.some.inj h
        rw [eMj] at c0 c1 c2
        have CE : Hid (∀ w1 : World, Below B w w1 → Calls Tryz.prog fid #[.agg #[.int .i64 (L[j]).t, .int .i64 (L[j]).i, .string (L[j]).k], k1] w1 fun e w' => e = .returned (.bool (t L[j])) ∧ Below w1.heap.size w1 w') := fun w1 h1 => HHC.out L[j] w1 h1
        have hks := dropG_snoc t L j hj1
        have HK : Hid (dropG t (L.take (j + 1)) = if t L[j] then dropG t (L.take j) else dropG t (L.take j) ++ [L[j]]) := hks
        clear hoM hks
        obtain ⟨x, hx⟩ : ∃ x, x = L[j] := ⟨_, rfl⟩
        rw [← hx] at HK CE c0 c1 c2 eMj
        have HX : Hid (x = L[j]) := hx
        clear hx
        have hBw : B ≤ wr.heap.size := by omega
        have HAL : Hid (∀ o : Obj, Below B w (wr.alloc o)) := fun o => HE.out.2.2.2.trans (((Below.refl _ _).alloc (Nat.le_refl _) o).mono hBw)
        cases hem : t x
        · rw [hem] at CE HK
          rw [if_neg (by simp)] at HK
          have fin : Hid (∀ (o : Obj) (w5 : World), Below (wr.alloc o).heap.size (wr.alloc o) w5 → Below wr.heap.size wr w5 ∧ OwnP w5 B (.slice (some ⟨g, 0, none⟩) M.length cap) M) := by
            intro o w5 hb5
            have hA : Below wr.heap.size wr w5 := ((Below.refl _ _).alloc (Nat.le_refl _) _).trans (hb5.mono (by simp))
            have hoM : OwnP w5 B (.slice (some ⟨g, 0, none⟩) M.length cap) M := by rw [hM]; exact HE.out.2.2.1.kept hA
            exact ⟨hA, hoM⟩
          go_wp2_with fail
          refine (CE.out _ (HAL.out _)).mono ?_
          rintro e w5 ⟨rfl, hb5⟩
          obtain ⟨hx1, hx2⟩ := bcell hb5
          obtain ⟨hA, hoM5⟩ := fin.out _ w5 hb5
          go_wp2
          go_roundw
          case rel =>
            refine ⟨i + 1, j + 1, M.set i x, by go_num, by go_num, by omega, by omega, by rw [List.length_set]; exact hM, ?_, ?_, ?_, ?_⟩
            · rw [HK.out, ← HE.out.1, List.take_set, List.take_add_one, List.getElem?_eq_getElem (by omega : i < M.length)]
              rw [List.set_append]
              have hl : (M.take i).length = i := by rw [List.length_take]; omega
              rw [if_neg (by omega), hl, Nat.sub_self]
              rfl
            · rw [List.drop_set_of_lt (by omega), ← List.drop_drop, ← List.drop_drop, HE.out.2.1]
            · have h := hoM5.set i (by omega) x
              rw [hM] at h
              exact h
            · exact ((((HE.out.2.2.2.trans (hA.mono hBw))).setCell hBg _).setCell hBg _).setCell hBg _
          case measure => simp [intOf]; omega
        · rw [hem] at CE HK
          rw [if_pos rfl] at HK
          go_wp2_with fail
          refine (CE.out _ (HAL.out _)).mono ?_
          rintro e w5 ⟨rfl, hb5⟩
          have hA : Below wr.heap.size wr w5 := ((Below.refl _ _).alloc (Nat.le_refl _) _).trans (hb5.mono (by simp))
          go_wp2
          go_roundw
          case rel => exact ⟨i, j + 1, M, by go_num, by go_num, by omega, by omega, hM, by rw [HK.out]; exact HE.out.1, by rw [← List.drop_drop, ← List.drop_drop, HE.out.2.1], HE.out.2.2.1.kept hA, HE.out.2.2.2.trans (hA.mono hBw)⟩
          case measure => simp [intOf]; omega

end Go.Proofs.YtcknhjabdjbjiabGreat

namespace Go.Proofs.YtcknhjabdjbjiabGreat
open Go.RowKit
set_option maxRecDepth 100000

/-- the operation at a place -/
def nthO : List Oper → Nat → Option Oper
  | [], _ => none
  | o :: _, 0 => some o
  | _ :: l, i + 1 => nthO l i
theorem nthO_eq : ∀ (l : List Oper) (i : Nat), nthO l i = l[i]?
  | [], _ => rfl
  | _ :: _, 0 => rfl
  | _ :: l, i + 1 => by rw [nthO, nthO_eq l i]; rfl
theorem nthO_at {ops : Array Oper} {i : Nat} {o : Oper} (h : nthO ops.toList i = some o) : ops[i]? = some o := by
  rw [nthO_eq] at h
  simpa using h

section
variable {P : Program} {ops : Array Oper} {Q : Exit → Act → World → Prop} {S : World → Prop} {m : Nat}

/-- whatever order is drawn; S holds behind every operation but number m -/
def wpL (P : Program) (ops : Array Oper) (Q : Exit → Act → World → Prop) (S : World → Prop) (m : Nat) : Nat → Array Bool → Act → World → Prop
  | 0, listed, a, w => Region.ready .any ops listed = [] ∧ Q .normal a w
  | fuel + 1, listed, a, w => (Region.ready .any ops listed = [] → Q .normal a w) ∧
    ∀ i ∈ Region.ready .any ops listed, wpOp P ops Q i (fun a' w' => (i ≠ m → S w') ∧ wpL P ops Q S m fuel (listed.setIfInBounds i true) a' w') a w
theorem wpAny_of_L : ∀ (fuel : Nat) (listed : Array Bool) (a : Act) (w : World), wpL P ops Q S m fuel listed a w → wpAny P .any ops Q fuel listed a w
  | 0, _, _, _, h => h
  | fuel + 1, _, _, _, h => ⟨h.1, fun i hi => wpOp_mono (fun a' w' h' => wpAny_of_L fuel _ a' w' h'.2) (h.2 i hi)⟩
/-- operation m waits for operation i -/
def gateB (ops : Array Oper) (m i : Nat) : Bool := match ops[m]? with
  | some o => o.after.toList.any fun e => Region.binds .any e && e.on == i
  | none => true
theorem gate_no {i j : Nat} {listed : Array Bool} (hg : gateB ops m i = true) (hi : i ∈ Region.ready .any ops listed) (hj : j ∈ Region.ready .any ops listed) : j ≠ m := by
  intro e
  subst e
  obtain ⟨_, o, ho, hall⟩ := mem_ready.1 hj
  unfold gateB at hg
  rw [ho] at hg
  obtain ⟨e, he, hb⟩ := List.any_eq_true.1 hg
  simp only [Bool.and_eq_true, beq_iff_eq] at hb
  have h1 := hall e (by simpa using he) hb.1
  rw [hb.2] at h1
  have h0 := (mem_ready.1 hi).1
  rcases Nat.lt_or_ge i listed.size with h' | h'
  · simp [h'] at h0 h1
    rw [h0] at h1
    cases h1
  · simp [Array.getElem?_eq_none h'] at h1
theorem wpL_first {i : Nat} {oi : Oper} {v : Value} (hi : ops[i]? = some oi) (hsel : ∀ (j : Nat) (o : Oper) cs b, ops[j]? = some o → o.op ≠ .select cs b)
    (hQ : ∀ c a w, Q (.panic c) (a.put oi.dst v) w → Q (.panic c) a w) (hg : gateB ops m i = true) :
    ∀ (fuel : Nat) (listed : Array Bool) (a : Act) (w : World),
      (∀ j oj, ops[j]? = some oj → j ≠ i → listed.getD j true = false → (∀ e ∈ oj.after, Region.binds .any e = true → e.on ≠ i) → oi.apart ops oj = true) →
      i ∈ Region.ready .any ops listed → YieldsIf P ops S oi v a → S w →
      wpL P ops Q S m fuel (listed.setIfInBounds i true) (a.put oi.dst v) w → wpL P ops Q S m (fuel + 1) listed a w := by
  intro fuel
  induction fuel with
  | zero =>
    intro listed a w _ hr hy hS H
    refine ⟨fun h => (by rw [h] at hr; cases hr), fun j hj => ?_⟩
    by_cases hji : j = i
    · subst hji
      exact hy.wpOp hi hS ⟨fun _ => hS, H⟩
    · have := ready_mono hj hji
      rw [H.1] at this
      cases this
  | succ fuel ih =>
    intro listed a w hfree hr hy hS H
    refine ⟨fun h => (by rw [h] at hr; cases hr), fun j hj => ?_⟩
    by_cases hji : j = i
    · subst hji
      exact hy.wpOp hi hS ⟨fun _ => hS, H⟩
    · have hjm := gate_no hg hr hj
      have h1 := H.2 j (ready_mono hj hji)
      obtain ⟨hjun, oj, hoj, hall⟩ := mem_ready.1 hj
      have hnot : ∀ e ∈ oj.after, Region.binds .any e = true → e.on ≠ i := fun e he hb heq => by
        have h1 := hall e he hb
        have h0 := (mem_ready.1 hr).1
        rw [heq] at h1
        rcases Nat.lt_or_ge i listed.size with h' | h'
        · simp [h'] at h0 h1
          rw [h0] at h1
          cases h1
        · simp [Array.getElem?_eq_none h'] at h1
      have h2 := wpOp_putIf hoj (hfree j oj hoj hji hjun hnot) (fun cs b => hsel i oi cs b hi) (fun cs b => hsel j oj cs b hoj) hQ hy h1
      have hfree' : ∀ k ok, ops[k]? = some ok → k ≠ i → (listed.setIfInBounds j true).getD k true = false →
          (∀ e ∈ ok.after, Region.binds .any e = true → e.on ≠ i) → oi.apart ops ok = true := fun k ok hk hki hun hno => by
        refine hfree k ok hk hki ?_ hno
        by_cases hjk : j = k
        · subst hjk
          exact hjun
        · rw [getD_set_ne true hjk] at hun
          exact hun
      refine wpOp_mono (fun a' w' h3 => ⟨fun _ => h3.2.1 hjm, ih (listed.setIfInBounds j true) a' w' hfree' (ready_mono hr (Ne.symm hji)) h3.1 (h3.2.1 hjm) ?_⟩) h2
      rw [Array.setIfInBounds_comm _ _ hji]
      exact h3.2.2
/-- may number i be taken first? -/
def takeB (ops : Array Oper) (listed : Array Bool) (m i : Nat) : Bool := Region.noSelect ops && Region.free .any ops listed i && (Region.ready .any ops listed).contains i && gateB ops m i
/-- it is taken first -/
theorem wpL_take (i : Nat) {oi : Oper} {v : Value} {fuel : Nat} {listed : Array Bool} {a : Act} {w : World} (hi : nthO ops.toList i = some oi) (hb : takeB ops listed m i = true)
    (hQ : ∀ c a w, Q (.panic c) (a.put oi.dst v) w → Q (.panic c) a w) (hw : Region.wanted oi (yielded ops a.tmps) = true) (hy : ∀ w, S w → (execOp a.eval oi).run P w = .ok (.value v) w) (hS : S w)
    (h : wpL P ops Q S m fuel (listed.setIfInBounds i true) (a.put oi.dst v) w) : wpL P ops Q S m (fuel + 1) listed a w := by
  unfold takeB at hb
  simp only [Bool.and_eq_true] at hb
  obtain ⟨⟨⟨h1, h2⟩, h3⟩, h4⟩ := hb
  exact wpL_first (nthO_at hi) (Region.noSelect_spec h1) hQ h4 fuel listed a w (Region.free_spec (nthO_at hi) h2) (by simpa using h3) (.inl ⟨hw, hy⟩) hS h
/-- only number i can come up -/
theorem wpL_one (i : Nat) {oi : Oper} {fuel : Nat} {listed : Array Bool} {a : Act} {w : World} (hi : nthO ops.toList i = some oi) (hr : Region.ready .any ops listed = [i]) (hw : Region.wanted oi (yielded ops a.tmps) = true)
    (h : ∀ K : Act → World → Prop, Hid (∀ a' w', (i ≠ m → S w') → wpL P ops Q S m fuel (listed.setIfInBounds i true) a' w' → K a' w') → oi.wp P a w K Q) : wpL P ops Q S m (fuel + 1) listed a w := by
  refine ⟨fun h0 => (by rw [hr] at h0; cases h0), fun j hj => ?_⟩
  rw [hr] at hj
  have e : j = i := by simpa using hj
  subst e
  unfold wpOp
  simp only [nthO_at hi, hw, if_true]
  exact .inl (h _ (show ∀ a' w', _ → _ → _ from fun a' w' h1 h2 => ⟨h1, h2⟩))
theorem wpL_done {listed : Array Bool} {a : Act} {w : World} (hr : Region.ready .any ops listed = []) (h : Q .normal a w) : ∀ fuel, wpL P ops Q S m fuel listed a w
  | 0 => ⟨hr, h⟩
  | _ + 1 => ⟨fun _ => h, by rw [hr]; simp⟩
/-- the beginning -/
theorem wp_region_L (S : World → Prop) (m : Nat) {id : Nat} {a : Act} {w : World} (hm : P.follows .mixedOrders = true) (h : wpL P ops (NoPanic Q) S m ops.size (Array.replicate ops.size false) a w.drew) : (Code.region id ops true).wp P Q a w :=
  wp_region_noPanic (wp_region_any hm (wpAny_of_L _ _ _ _ h))
end

end Go.Proofs.YtcknhjabdjbjiabGreat
