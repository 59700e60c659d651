/- The walk of the document's Decode. -/
import Derived.Test.YteffaldahccgiaaDoorWBk5
import Derived.Test.YteffaldahccgiaaDoorWRef4
import Derived.Test.YteffaldahccgiaaDoorMDecT
namespace Go.Proofs.YteffaldahccgiaaDoor
open Go.RowKit
set_option maxRecDepth 100000

theorem dec_next (s : ByteArray) (a : Nat) (_ha : a < s.size) (h0 : 0 < (s.extract a s.size).size) (M' : List Vl) (h : decF (s.data.toList.drop a).length (s.data.toList.drop a) = some M') :
    ∃ u m M'', rdV (s.extract a s.size)[0] ((s.extract a s.size).data.toList.drop 1) = some (u, m) ∧ M' = u :: M'' ∧ decF (s.data.toList.drop (a + (1 + m))).length (s.data.toList.drop (a + (1 + m))) = some M'' := by
  rw [← extN s a, dec_step (s.extract a s.size) h0] at h
  cases hv : rdV (s.extract a s.size)[0] ((s.extract a s.size).data.toList.drop 1) with
  | none => rw [hv] at h; simp at h
  | some x =>
    rw [hv] at h
    dsimp only at h
    obtain ⟨M'', h1, h2⟩ := Option.map_eq_some_iff.1 h
    refine ⟨x.1, x.2, M'', rfl, h2.symm, ?_⟩
    rw [extN, List.drop_drop, List.drop_drop] at h1
    exact h1
theorem bneB {a b : ByteArray} (h : ¬ a = b) : (a.toList == b.toList) = false := by
  cases hh : (a.toList == b.toList) with
  | false => rfl
  | true =>
    have e := eq_of_beq hh
    rw [ByteArray.toList_eq, ByteArray.toList_eq] at e
    exact absurd (bytes_eqB (by simpa using e)) h

set_option maxHeartbeats 8000000 in
theorem rdecode_any (s : ByteArray) (w : World) (hs : s.size ≤ 9223372036854775807) (hg : 2 < w.heap.size) (hT : Lib.Utf8Tabs 1 2 w) :
    Calls Tryd.prog 13 #[.string s] w fun e w' => ∃ v, e = .returned (.tuple #[v, .int .i64 (decS s.data.toList).2]) ∧ OwnV w' w.heap.size v (decS s.data.toList).1 ∧ Below w.heap.size w w' := by
  have hsz : s.data.toList.length = s.size := by simp
  unfold decS
  rw [hsz]
  by_cases hlong : 1024 < s.size
  · rw [if_pos hlong]
    have h' : (1024 : Int) < s.size := by omega
    clear hT hsz hlong
    go_enter Tryd.func13, Tryd.ntmps13
    go_wp2
    go_ret2
    exact ⟨_, rfl, OwnV.nil _ _, Below.refl _ _⟩
  · rw [if_neg hlong]
    have h' : (s.size : Int) ≤ 1024 := by omega
    have hle : s.size ≤ 1024 := by omega
    obtain ⟨r, hr⟩ : ∃ r, r = decF s.size s.data.toList := ⟨_, rfl⟩
    rw [← hr]
    have HR : Hid (r = decF s.data.toList.length s.data.toList) := by rw [hr, hsz]; exact rfl
    have HT : Hid (Lib.Utf8Tabs 1 2 w) := hT
    have hsf := run_store_float
    clear hT hsz hlong hr
    go_enter Tryd.func13, Tryd.ntmps13
    go_wp2_with fail
    go_loopw [4, 5] (fun l x wr => ∃ (a : Nat) (acc : List Vl), x = .int .i64 (a : Int) ∧ a ≤ s.size ∧ acc.length ≤ a ∧ (∀ v ∈ acc, v.ok) ∧ OwnV wr w.heap.size l acc ∧ Below w.heap.size w wr ∧ (∀ M, r = some M → ∃ M', decF (s.data.toList.drop a).length (s.data.toList.drop a) = some M' ∧ M = acc ++ M')) (fun _ x _ => s.size - (intOf x).toNat)
    case atStart => exact ⟨0, [], by go_num, Nat.zero_le _, Nat.le_refl _, by simp, OwnV.nil _ _, Below.refl _ _, fun M hM => ⟨M, by rw [List.drop_zero, ← HR.out]; exact hM, rfl⟩⟩
    case round =>
      obtain ⟨a, acc, rfl, ha, hal, hok, hown, hbl, heq⟩ := hrel
      have hz := hbl.size
      have HE : Hid (OwnV _ _ _ _ ∧ Below _ _ _ ∧ (∀ v ∈ acc, v.ok) ∧ (∀ M, r = some M → ∃ M', decF (s.data.toList.drop a).length (s.data.toList.drop a) = some M' ∧ M = acc ++ M')) := ⟨hown, hbl, hok, heq⟩
      clear hbl heq hok
      by_cases ha0 : a = s.size
      · subst ha0
        obtain ⟨p, c, rfl, hRow⟩ := hown.row
        have C1 : Hid (∀ x, x = wr → Calls Tryd.prog 10 #[.slice p acc.length c] x fun e w' => e = .returned (.tuple #[.string ⟨(encS acc).1.toArray⟩, .int .i64 (encS acc).2]) ∧ Below x.heap.size x w') := by
          rintro x rfl
          exact rencode_any acc p c x hRow HE.out.2.2.1 (by omega) (by omega) (tabs_keep HE.out.2.1 hg HT.out)
        clear hown hRow
        have hfin : ∀ M, r = some M → M = acc := by
          intro M hM
          obtain ⟨M', h1, h2⟩ := HE.out.2.2.2 M hM
          rw [List.drop_of_length_le (by simp)] at h1
          have : M' = [] := by simpa [decF] using h1.symm
          rw [h2, this, List.append_nil]
        cases hrr : r with
        | some M =>
          have e := hfin M hrr
          subst e
          have h5 := HR.out
          rw [hrr] at h5
          obtain ⟨f1, f2, _⟩ := decF_back _ _ _ h5.symm
          have h4 : ∀ t (ht : t < M.length), M[t].chk = 0 := fun t ht => (f1 _ (List.getElem_mem ht)).2
          have h6 : encS M = (s.data.toList, 0) := by rw [encS_fine h4 (by rw [f2]; simp; omega), f2]
          have h7 : (ByteArray.mk s.data.toList.toArray) = s := bytes_eqB (by simp)
          rw [h6, h7] at C1
          subst hrr
          clear hfin h5 f1 f2 h4 h6 h7 HR
          go_wp2_with fail
          refine (C1.out _ rfl).mono ?_
          rintro e w1 ⟨rfl, hb1⟩
          go_wp2
          go_ret2
          exact ⟨_, rfl, HE.out.1.kept hb1, HE.out.2.1.trans (hb1.mono hz)⟩
        | none =>
          have hne : ¬ ((encS acc).2 = 0 ∧ (ByteArray.mk (encS acc).1.toArray) = s) := by
            rintro ⟨n1, n2⟩
            obtain ⟨e1, fL, hl⟩ := encS_ok2 n1 HE.out.2.2.1
            have e2 : encL acc = s.data.toList := by rw [← e1, ← n2]
            have h5 := HR.out
            rw [hrr, ← e2, decF_enc acc _ fL (Nat.le_refl _)] at h5
            simp at h5
          subst hrr
          clear hfin HR
          by_cases he : (encS acc).2 = 0
          · have hky : ¬ (ByteArray.mk (encS acc).1.toArray) = s := fun h => hne ⟨he, h⟩
            have hkb := bneB hky
            rw [he] at C1
            clear hne hky he
            generalize (ByteArray.mk (encS acc).1.toArray) = ky at *
            have hkb2 : (ky.toList != s.toList) = true := by simp [bne, hkb]
            go_wp2_with fail
            refine (C1.out _ rfl).mono ?_
            rintro e w1 ⟨rfl, hb1⟩
            go_wp2
            go_ret2
            exact ⟨_, rfl, OwnV.nil _ _, HE.out.2.1.trans (hb1.mono hz)⟩
          · have hen := bneT he
            clear hne he
            generalize (ByteArray.mk (encS acc).1.toArray) = ky at *
            generalize (encS acc).2 = er at *
            go_wp2_with fail
            refine (C1.out _ rfl).mono ?_
            rintro e w1 ⟨rfl, hb1⟩
            go_wp2
            go_ret2
            exact ⟨_, rfl, OwnV.nil _ _, HE.out.2.1.trans (hb1.mono hz)⟩
      · have ha1 : a < s.size := by omega
        have hxz : (s.extract a s.size).size = s.size - a := by simp
        obtain ⟨u, n, hC, uok, hn, hrd⟩ := back_any (s.extract a s.size) (by omega) (by omega)
        have C1 : Hid (∀ w1 : World, Calls Tryd.prog 41 #[.string (s.extract a s.size)] w1 fun e w' => e = .returned (.tuple #[.agg #[.int .i64 u.k, .int .i64 u.n, .float .f64 u.f, .string u.s], .int .i64 (n : Int)]) ∧ Below w1.heap.size w1 w') := hC
        have hnx : ∀ M', decF (s.data.toList.drop a).length (s.data.toList.drop a) = some M' → 0 < n ∧ ∃ M'', M' = u :: M'' ∧ decF (s.data.toList.drop (a + n)).length (s.data.toList.drop (a + n)) = some M'' := by
          intro M' h
          obtain ⟨x, m, M'', h1, h2, h3⟩ := dec_next s a ha1 (by omega) M' h
          obtain ⟨rfl, rfl⟩ := hrd x m h1
          exact ⟨by omega, M'', h2, h3⟩
        clear hC hrd hown
        rcases Nat.eq_zero_or_pos n with hn0 | hn0
        · subst hn0
          have hrr : r = none := by
            cases hr : r with
            | none => rfl
            | some M =>
              obtain ⟨M', h1, _⟩ := HE.out.2.2.2 M hr
              exact absurd (hnx M' h1).1 (by omega)
          subst hrr
          clear hnx HR
          go_wp2_with fail
          refine (C1.out _).mono ?_
          rintro e w1 ⟨rfl, hb1⟩
          go_wp2
          go_ret2
          exact ⟨_, rfl, OwnV.nil _ _, (HE.out.2.1.trans (hb1.mono hz)).alloc (Nat.le_trans hz hb1.size) _⟩
        · have R2 : Hid ((∀ v ∈ acc ++ [u], v.ok) ∧ ∀ M, r = some M → ∃ M', decF (s.data.toList.drop (a + n)).length (s.data.toList.drop (a + n)) = some M' ∧ M = (acc ++ [u]) ++ M') := by
            refine ⟨?_, ?_⟩
            · intro v hv
              rcases List.mem_append.1 hv with h | h
              · exact HE.out.2.2.1 v h
              · rw [List.mem_singleton.1 h]; exact uok
            · intro M hM
              obtain ⟨M', h1, h2⟩ := HE.out.2.2.2 M hM
              obtain ⟨_, M'', h3, h4⟩ := hnx M' h1
              exact ⟨M'', h4, by rw [h2, h3]; simp⟩
          have hn1 : 0 < (n : Int) := by omega
          have hn2 : (a : Int) + n ≤ s.size := by omega
          clear hnx HR uok
          go_wp2_with fail
          refine (C1.out _).mono ?_
          rintro e w1 ⟨rfl, hb1⟩
          have hz1 := hb1.size
          go_wp2_with (first | (at_builtin; refine wpList_appV _ rfl (.tmp 26) _ rfl w.heap.size _ _ rfl (HE.out.1.kept (hb1.alloc hb1.size _)) u _ rfl (by simp) (by omega) (by simp; omega) ?_; intro v2 w2 h5 h6))
          go_roundw
          case rel => exact ⟨a + n, acc ++ [u], by go_num, by omega, by simp; omega, R2.out.1, h5, (HE.out.2.1.trans (Below.mono (hb1.alloc hb1.size _) hz)).trans h6, R2.out.2⟩
          case measure => simp [intOf]; omega
end Go.Proofs.YteffaldahccgiaaDoor
