/- Lists of spans: searched and cut by a function that is handed in. -/
import Derived.Test.YtjeidpgkgjljcaaWSp
import Derived.Test.YtjeidpgkgjljcaaMFir
namespace Go.Proofs.Ytjeidpgkgjljcaa
open Go.RowKit
set_option maxRecDepth 100000

set_option maxHeartbeats 2000000 in
theorem indexFS1_any (fid : FuncId) (k1 : Value) (t : Sp → Bool) (L : List Sp) (p : Option Addr) (c : Nat) (w : World) (hin : ∀ args w, (callFunc fid args).run Try.prog w = .ok (.enter fid args) w) (hR : RowS w w.heap.size p L) (hlen : L.length ≤ 2513169434916)
    (HC : ∀ (x : Sp) (w1 : World), Below w.heap.size w w1 → Calls Try.prog fid #[.agg #[.int .i64 x.t, .int .i64 x.i, .string x.lo, .string x.hi, .bool x.op], k1] w1 fun e w' => e = .returned (.bool (t x)) ∧ Below w1.heap.size w1 w') :
    Calls Try.prog 50 #[.slice p L.length c, .func (.func fid) #[] #[k1]] w fun e w' => e = .returned (.int .i64 (if firstG t L = L.length then -1 else (firstG t L : Int))) ∧ Below w.heap.size w w' := by
  have HA : Hid (RowS _ _ _ _) := hR
  have HF := firstG_le t L
  have HS : Hid (∀ (j : Nat) (hj : j < L.length), j ≤ firstG t L → (t L[j] = true → firstG t L = j) ∧ (t L[j] = false → j + 1 ≤ firstG t L)) := firstG_step t L
  have HHC : Hid (∀ (x : Sp) (w1 : World), Below w.heap.size w w1 → Calls Try.prog fid #[.agg #[.int .i64 x.t, .int .i64 x.i, .string x.lo, .string x.hi, .bool x.op], k1] w1 fun e w' => e = .returned (.bool (t x)) ∧ Below w1.heap.size w1 w') := HC
  clear hR HC
  generalize firstG t L = f at *
  go_enter Try.func50, Try.ntmps50
  go_wp2_with fail
  go_loopw [8] (fun i wr => ∃ j : Nat, j ≤ f ∧ i = .int .i64 (j : Int) ∧ Below w.heap.size w wr) (fun i _ => L.length - (intOf i).toNat)
  case atStart => exact ⟨0, Nat.zero_le _, by go_num, Below.refl _ _⟩
  case round =>
    obtain ⟨j, hj, rfl, hn⟩ := hrel
    by_cases hj0 : j = L.length
    · have hf : f = L.length := by omega
      subst hj0
      go_wp2
      go_ret
      exact ⟨rfl, hn⟩
    · have hj1 : j < L.length := by omega
      obtain ⟨b, o, rfl, hbB, c0, c1, c2, c3, c4⟩ := HA.out j hj1
      have a0 := (hn.cell (p := ⟨b, o + j * 5, none⟩) hbB).trans c0
      have a1 := (hn.cell (p := ⟨b, o + j * 5 + 1, none⟩) hbB).trans c1
      have a2 := (hn.cell (p := ⟨b, o + j * 5 + 2, none⟩) hbB).trans c2
      have a3 := (hn.cell (p := ⟨b, o + j * 5 + 3, none⟩) hbB).trans c3
      have a4 := (hn.cell (p := ⟨b, o + j * 5 + 4, none⟩) hbB).trans c4
      have hst := HS.out j hj1 hj
      have HN : Hid (Below w.heap.size w _) := hn
      have CE : Hid (∀ w1 : World, Below w.heap.size w w1 → Calls Try.prog fid #[.agg #[.int .i64 (L[j]).t, .int .i64 (L[j]).i, .string (L[j]).lo, .string (L[j]).hi, .bool (L[j]).op], k1] w1 fun e w' => e = .returned (.bool (t L[j])) ∧ Below w1.heap.size w1 w') := fun w1 h1 => HHC.out L[j] w1 h1
      clear c0 c1 c2 c3 c4 hj0 HHC
      generalize t L[j] = em at *
      generalize (L[j]).t = x0 at *
      generalize (L[j]).i = x1 at *
      generalize (L[j]).lo = x2 at *
      generalize (L[j]).hi = x3 at *
      generalize (L[j]).op = x4 at *
      cases em
      · have hlt := hst.2 rfl
        clear hst
        go_wp2_with fail
        refine (CE.out _ HN.out).mono ?_
        rintro e w5 ⟨rfl, hb5⟩
        have hsz := hn.size
        clear a0
        go_wp2
        go_roundw
        case rel => exact ⟨j + 1, hlt, by go_num, hn.trans (hb5.mono hn.size)⟩
        case measure => simp [intOf]; omega
      · have hf := hst.1 rfl
        clear hst
        go_wp2_with fail
        refine (CE.out _ HN.out).mono ?_
        rintro e w5 ⟨rfl, hb5⟩
        go_wp2
        go_ret
        exact ⟨rfl, hn.trans (hb5.mono hn.size)⟩

set_option maxHeartbeats 2000000 in
theorem containsFS1_any (fid : FuncId) (k1 : Value) (t : Sp → Bool) (L : List Sp) (p : Option Addr) (c : Nat) (w : World) (hin : ∀ args w, (callFunc fid args).run Try.prog w = .ok (.enter fid args) w) (hR : RowS w w.heap.size p L) (hlen : L.length ≤ 2513169434916)
    (HC : ∀ (x : Sp) (w1 : World), Below w.heap.size w w1 → Calls Try.prog fid #[.agg #[.int .i64 x.t, .int .i64 x.i, .string x.lo, .string x.hi, .bool x.op], k1] w1 fun e w' => e = .returned (.bool (t x)) ∧ Below w1.heap.size w1 w') :
    Calls Try.prog 27 #[.slice p L.length c, .func (.func fid) #[] #[k1]] w fun e w' => e = .returned (.bool (L.any t)) ∧ Below w.heap.size w w' := by
  have C1 : Hid (Calls _ _ _ _ _) := indexFS1_any fid k1 t L p c w hin hR hlen HC
  have hr : decide (0 ≤ (if firstG t L = L.length then (-1 : Int) else (firstG t L : Int))) = L.any t := firstG_any t L
  have HR : Hid (decide (0 ≤ (if firstG t L = L.length then (-1 : Int) else (firstG t L : Int))) = L.any t) := hr
  clear hR HC hr
  generalize (if firstG t L = L.length then (-1 : Int) else (firstG t L : Int)) = f at *
  go_enter Try.func27, Try.ntmps27
  go_wp2_with fail
  refine C1.out.mono ?_
  rintro e w1 ⟨rfl, hb1⟩
  go_wp2
  go_ret
  exact ⟨by rw [← HR.out]; rfl, hb1⟩

set_option maxHeartbeats 4000000 in
theorem deleteFS1_any (fid : FuncId) (k1 : Value) (t : Sp → Bool) (L : List Sp) (g cap B : Nat) (w : World) (hin : ∀ args w, (callFunc fid args).run Try.prog w = .ok (.enter fid args) w) (hO : OwnS w B (.slice (some ⟨g, 0, none⟩) L.length cap) L) (hlen : L.length ≤ 2513169434916) 
    (HC : ∀ (x : Sp) (w1 : World), Below B w w1 → Calls Try.prog fid #[.agg #[.int .i64 x.t, .int .i64 x.i, .string x.lo, .string x.hi, .bool x.op], k1] w1 fun e w' => e = .returned (.bool (t x)) ∧ Below w1.heap.size w1 w') :
    Calls Try.prog 55 #[.slice (some ⟨g, 0, none⟩) L.length cap, .func (.func fid) #[] #[k1]] w fun e w' => e = .returned (.slice (some ⟨g, 0, none⟩) (dropG t L).length cap) ∧ OwnS w' B (.slice (some ⟨g, 0, none⟩) (dropG t L).length cap) (dropG t L) ∧ Below B w w' := by
  obtain ⟨hcap, hmx, hBg, hgw⟩ := hO.cap
  have hmx' : cap ≤ 9223372036854775807 := by unfold maxLen at hmx; omega
  obtain ⟨p0, c0', ep, hRow⟩ := hO.row
  injection ep with ep1 _ ep3
  subst ep1 ep3
  have C1 : Hid (Calls _ _ _ _ _) := indexFS1_any fid k1 t L (some ⟨g, 0, none⟩) cap w hin hRow hlen (fun x w1 h1 => HC x w1 (h1.mono (by omega)))
  have HO : Hid (OwnS _ _ _ _) := hO
  have HHC : Hid (∀ (x : Sp) (w1 : World), Below B w w1 → Calls Try.prog fid #[.agg #[.int .i64 x.t, .int .i64 x.i, .string x.lo, .string x.hi, .bool x.op], k1] w1 fun e w' => e = .returned (.bool (t x)) ∧ Below w1.heap.size w1 w') := HC
  have hfl := firstG_le t L
  clear hO hRow hmx HC
  by_cases hall : firstG t L = L.length
  · have hk := firstG_none t L hall
    rw [if_pos hall] at C1
    rw [hk]
    clear hk hall hfl
    go_enter Try.func55, Try.ntmps55
    go_wp2_with fail
    refine C1.out.mono ?_
    rintro e w1 ⟨rfl, hb1⟩
    go_wp2
    go_ret
    exact ⟨rfl, HO.out.kept hb1, hb1.mono (by omega)⟩
  · have HT : Hid (dropG t (L.take (firstG t L + 1)) = L.take (firstG t L)) := firstG_take t L (by omega)
    rw [if_neg hall] at C1
    have hf1 : firstG t L < L.length := by omega
    clear hall hfl
    generalize firstG t L = f at *
    have hfne : ((f : Int) == -1) = false := by simp
    go_enter Try.func55, Try.ntmps55
    go_wp2_with fail
    refine C1.out.mono ?_
    rintro e w1 ⟨rfl, hb1⟩
    have HB1 : Hid (Below _ _ _) := hb1
    clear hb1 C1
    go_wp2_with fail
    go_loopw [5, 6] (fun x y wr => ∃ (i j : Nat) (M : List Sp), x = .int .i64 (i : Int) ∧ y = .int .i64 (j : Int) ∧ i < j ∧ j ≤ L.length ∧ M.length = L.length ∧ M.take i = dropG t (L.take j) ∧ M.drop j = L.drop j ∧ OwnS wr B (.slice (some ⟨g, 0, none⟩) L.length cap) M ∧ Below B w wr) (fun _ y _ => L.length - (intOf y).toNat)
    case atStart => exact ⟨f, f + 1, L, by go_num, by go_num, by omega, by omega, rfl, HT.out.symm, rfl, HO.out.kept HB1.out, HB1.out.mono (by omega)⟩
    case round =>
      obtain ⟨i, j, M, rfl, rfl, hij, hj, hM, htk, hdr, hown, hbl⟩ := hrel
      have HE : Hid (M.take i = dropG t (L.take j) ∧ M.drop j = L.drop j ∧ OwnS wr B (.slice (some ⟨g, 0, none⟩) L.length cap) M ∧ Below B w wr) := ⟨htk, hdr, hown, hbl⟩
      have hgr : g < wr.heap.size := (hown.cap).2.2.2
      clear htk hdr hown hbl
      by_cases hj0 : j = L.length
      · subst hj0
        have hi : i < M.length := by omega
        have hk : M.take i = dropG t L := by have h := HE.out.1; rw [List.take_of_length_le (Nat.le_refl L.length)] at h; exact h
        have hkl : (dropG t L).length = i := by rw [← hk, List.length_take]; omega
        have hcl : (Builtin.clear_ #[23] 0 #[.slice (some ⟨g, i * 5, none⟩) (L.length - i) (cap - i)]).run Try.prog wr = .ok (.tuple #[]) (wr.setCells g (i * 5) (zeroS (L.length - i))) := by
          have h' : wr.ownsRow B 55 5 (.slice (some ⟨g, 0, none⟩) M.length cap) M.length (scells M) := by
            have h := HE.out.2.2.1
            rw [← hM] at h
            exact h
          refine run_clearS wr 0 g (i * 5) (L.length - i) (cap - i) (by omega) (fun t ht => ?_) (fun t _ => h'.frozenAt _)
          rw [h'.cellAt (i * 5 + t) (by omega), List.getElem?_eq_getElem (by rw [scells_len]; omega)]
          rfl
        have HF : Hid ((dropG t L).length = i ∧ M.take i = dropG t L) := ⟨hkl, hk⟩
        clear hk hkl
        go_wp2
        go_ret
        rw [HF.out.1, ← HF.out.2]
        exact ⟨rfl, HE.out.2.2.1.cut hM.symm i (by omega) _, setCells_below hBg _ _ _ _ HE.out.2.2.2⟩
      · have hj1 : j < L.length := by omega
        have hoM : OwnS wr B (.slice (some ⟨g, 0, none⟩) M.length cap) M := by rw [hM]; exact HE.out.2.2.1
        obtain ⟨⟨c0, c1, c2, c3, c4⟩, _⟩ := hoM.at j (by omega)
        obtain ⟨⟨m0, m1, m2, m3, m4⟩, n0, n1, n2, n3, n4⟩ := hoM.at i (by omega)
        have eMj : M[j]'(by omega) = L[j] := by
          have h := congrArg (fun l => l[0]?) HE.out.2.1
          simp only [List.getElem?_drop, Nat.add_zero] at h
          rw [List.getElem?_eq_getElem (by omega), List.getElem?_eq_getElem hj1] at h
          exact Option.some.inj h
        rw [eMj] at c0 c1 c2 c3 c4
        have CE : Hid (∀ w1 : World, Below B w w1 → Calls Try.prog fid #[.agg #[.int .i64 (L[j]).t, .int .i64 (L[j]).i, .string (L[j]).lo, .string (L[j]).hi, .bool (L[j]).op], k1] w1 fun e w' => e = .returned (.bool (t L[j])) ∧ Below w1.heap.size w1 w') := fun w1 h1 => HHC.out L[j] w1 h1
        have hks := dropG_snoc t L j hj1
        have HK : Hid (dropG t (L.take (j + 1)) = if t L[j] then dropG t (L.take j) else dropG t (L.take j) ++ [L[j]]) := hks
        clear hoM hks
        obtain ⟨x, hx⟩ : ∃ x, x = L[j] := ⟨_, rfl⟩
        rw [← hx] at HK CE c0 c1 c2 c3 c4 eMj
        have HX : Hid (x = L[j]) := hx
        clear hx
        have hBw : B ≤ wr.heap.size := by omega
        have HAL : Hid (∀ o : Obj, Below B w (wr.alloc o)) := fun o => HE.out.2.2.2.trans (((Below.refl _ _).alloc (Nat.le_refl _) o).mono hBw)
        cases hem : t x
        · rw [hem] at CE HK
          rw [if_neg (by simp)] at HK
          have fin : Hid (∀ (o : Obj) (w5 : World), Below (wr.alloc o).heap.size (wr.alloc o) w5 → Below wr.heap.size wr w5 ∧ OwnS w5 B (.slice (some ⟨g, 0, none⟩) M.length cap) M) := by
            intro o w5 hb5
            have hA : Below wr.heap.size wr w5 := ((Below.refl _ _).alloc (Nat.le_refl _) _).trans (hb5.mono (by simp))
            have hoM : OwnS w5 B (.slice (some ⟨g, 0, none⟩) M.length cap) M := by rw [hM]; exact HE.out.2.2.1.kept hA
            exact ⟨hA, hoM⟩
          go_wp2_with fail
          refine (CE.out _ (HAL.out _)).mono ?_
          rintro e w5 ⟨rfl, hb5⟩
          obtain ⟨hx1, hx2⟩ := bcell hb5
          obtain ⟨hA, hoM5⟩ := fin.out _ w5 hb5
          go_wp2
          go_roundw
          case rel =>
            refine ⟨i + 1, j + 1, M.set i x, by go_num, by go_num, by omega, by omega, by rw [List.length_set]; exact hM, ?_, ?_, ?_, ?_⟩
            · rw [HK.out, ← HE.out.1, List.take_set, List.take_add_one, List.getElem?_eq_getElem (by omega : i < M.length)]
              rw [List.set_append]
              have hl : (M.take i).length = i := by rw [List.length_take]; omega
              rw [if_neg (by omega), hl, Nat.sub_self]
              rfl
            · rw [List.drop_set_of_lt (by omega), ← List.drop_drop, ← List.drop_drop, HE.out.2.1]
            · have h := hoM5.set i (by omega) x
              rw [hM] at h
              exact h
            · exact ((((((HE.out.2.2.2.trans (hA.mono hBw))).setCell hBg _).setCell hBg _).setCell hBg _).setCell hBg _).setCell hBg _
          case measure => simp [intOf]; omega
        · rw [hem] at CE HK
          rw [if_pos rfl] at HK
          go_wp2_with fail
          refine (CE.out _ (HAL.out _)).mono ?_
          rintro e w5 ⟨rfl, hb5⟩
          have hA : Below wr.heap.size wr w5 := ((Below.refl _ _).alloc (Nat.le_refl _) _).trans (hb5.mono (by simp))
          go_wp2
          go_roundw
          case rel => exact ⟨i, j + 1, M, by go_num, by go_num, by omega, by omega, hM, by rw [HK.out]; exact HE.out.1, by rw [← List.drop_drop, ← List.drop_drop, HE.out.2.1], HE.out.2.2.1.kept hA, HE.out.2.2.2.trans (hA.mono hBw)⟩
          case measure => simp [intOf]; omega
end Go.Proofs.Ytjeidpgkgjljcaa
