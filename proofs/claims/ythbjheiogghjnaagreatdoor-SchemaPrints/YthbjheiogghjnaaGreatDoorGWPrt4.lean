/- The document's Print of any table. The document's Print of any table. -/
import Derived.Test.YthbjheiogghjnaaGreatDoorGWPrt2
import Derived.Test.YthbjheiogghjnaaGreatDoorGWPrt3
import Derived.Test.YthbjheiogghjnaaGreatDoorGWRIx
namespace Go.Proofs.YthbjheiogghjnaaGreatDoor
open Go.RowKit
set_option maxRecDepth 100000

theorem below_bytesM (w : World) (e : TypeId) (s : ByteArray) : Below w.heap.size w (Lib.bytesWorld w e s) :=
  ⟨rfl, rfl, rfl, by rw [Lib.bytesWorld_size]; omega, fun k hk => Lib.bytesWorld_at_old w e s k hk⟩
theorem rkinds_any (w : World) : Calls Tryz.prog 15 #[] w fun e w' => e = .returned (.slice (some ⟨w.heap.size, 0, none⟩) 6 6) ∧ w' = w.alloc (.cells #[.string ⟨#[110, 117, 108, 108]⟩, .string ⟨#[98, 111, 111, 108]⟩, .string ⟨#[105, 110, 116]⟩, .string ⟨#[102, 108, 111, 97, 116]⟩, .string ⟨#[116, 101, 120, 116]⟩, .string ⟨#[98, 121, 116, 101, 115]⟩] 9) := by
  go_enter Tryz.func15, Tryz.ntmps15
  go_wp2_with fail
  go_ret
  exact ⟨rfl, rfl⟩
theorem kinds_cell (w : World) (k : Nat) (h1 : 1 ≤ k) (h5 : k ≤ 5) : (w.alloc (.cells #[.string ⟨#[110, 117, 108, 108]⟩, .string ⟨#[98, 111, 111, 108]⟩, .string ⟨#[105, 110, 116]⟩, .string ⟨#[102, 108, 111, 97, 116]⟩, .string ⟨#[116, 101, 120, 116]⟩, .string ⟨#[98, 121, 116, 101, 115]⟩] 9)).cell? ⟨w.heap.size, k, none⟩ = some (.string (kwB k)) := by
  have h : k = 1 ∨ k = 2 ∨ k = 3 ∨ k = 4 ∨ k = 5 := by omega
  rcases h with rfl | rfl | rfl | rfl | rfl <;> exact (Blk.new w _ _).cell rfl

set_option maxHeartbeats 8000000 in
theorem rlist_any (t : Tb) (a : TabP) (l : List Int) (p : Option Addr) (c : Nat) (w : World) (hV : TabV w w.heap.size t a) (hT : TOk t) (hR : RowI w w.heap.size p l) (hl : (∀ x ∈ l, 0 ≤ x ∧ x < t.cs.length) ∧ l.length ≤ 64) :
    Calls Tryz.prog 17 #[a.val t, .slice p l.length c] w fun e w' => e = .returned (.string (lstS t l)) ∧ Below w.heap.size w w' := by
  obtain ⟨pc, cc, pk, ck, px, cx, pr, cr⟩ := a
  have hb0 : Below w.heap.size w (w.alloc (.cells #[.string t.nm, .slice pc t.cs.length cc, .slice pk t.key.length ck, .slice px t.ix.length cx, .slice pr t.rf.length cr] 27)) := by go_grown
  have HB : Hid (BoxT _ _ _ _) := BoxT.new w t ⟨pc, cc, pk, ck, px, cx, pr, cr⟩
  have HR : Hid (RowI w w.heap.size p l) := hR
  have HC : Hid (RowC w w.heap.size pc t.cs) := hV.cs
  have HL : Hid ((∀ x ∈ l, 0 ≤ x ∧ x < t.cs.length) ∧ l.length ≤ 64) := hl
  have HT : Hid (TOk t) := hT
  have hln : l.length ≤ 64 := hl.2
  have hcl : t.cs.length ≤ 64 := hT.c2
  clear hV hT hR hl
  obtain ⟨n, hn⟩ : ∃ n, l.length = n := ⟨_, rfl⟩
  obtain ⟨m, hm⟩ : ∃ m, t.cs.length = m := ⟨_, rfl⟩
  have HN : Hid (l.length = n ∧ t.cs.length = m) := ⟨hn, hm⟩
  unfold TabP.val
  dsimp only
  rw [hn] at hln ⊢
  rw [hm] at hcl HB hb0 ⊢
  clear hn hm
  go_enter Tryz.func17, Tryz.ntmps17
  go_wp2_with fail
  have HB0 : Hid (Below w.heap.size w (w.alloc (.cells #[.string t.nm, .slice pc m cc, .slice pk t.key.length ck, .slice px t.ix.length cx, .slice pr t.rf.length cr] 27))) := hb0
  clear hb0
  generalize w.alloc (.cells #[.string t.nm, .slice pc m cc, .slice pk t.key.length ck, .slice px t.ix.length cx, .slice pr t.rf.length cr] 27) = w1 at *
  go_loopw [5, 6] (fun v i wr => ∃ (j : Nat) (s : ByteArray), j ≤ n ∧ v = .string s ∧ i = .int .i64 (j : Int) ∧ Hid (s = ⟨#[40]⟩ ++ jn ⟨#[44, 32]⟩ ((l.take j).map (nmAt t)) ∧ s.size ≤ 1 + j * 66) ∧ Hid (BoxT wr w.heap.size t ⟨pc, cc, pk, ck, px, cx, pr, cr⟩) ∧ Hid (Below w.heap.size w wr)) (fun _ i _ => n - (intOf i).toNat)
  case atStart => exact ⟨0, ⟨#[40]⟩, Nat.zero_le _, rfl, by go_num, ⟨ba_ext (by rw [ba_app]; rfl), by decide⟩, HB.out, HB0.out⟩
  case round =>
    obtain ⟨j, s, hj, rfl, rfl, HS, HBr, HBw⟩ := hrel
    clear HB HB0
    have hss : s.size ≤ 1 + j * 66 := HS.out.2
    by_cases hj0 : j = n
    · subst hj0
      have HE : Hid (s ++ ⟨#[41]⟩ = lstS t l) := by
        have h := HS.out.1
        rw [List.take_of_length_le (by have := HN.out.1; omega)] at h
        show _ = _
        unfold lstS
        rw [h]
      have hs1 : ¬ 9223372036854775807 < s.size + 1 := by omega
      go_wp2_with fail
      go_ret
      exact ⟨congrArg (fun x => Ending.returned (Value.string x)) HE.out, HBw.out⟩
    · have hj1 : j < n := by omega
      have hjl : j < l.length := by have := HN.out.1; omega
      obtain ⟨b, o, rfl, hbB, x0⟩ := HR.out j hjl
      have hx := HL.out.1 l[j] (List.getElem_mem hjl)
      obtain ⟨x, hxn⟩ : ∃ x : Nat, l[j] = (x : Int) := ⟨l[j].toNat, (Int.toNat_of_nonneg hx.1).symm⟩
      rw [hxn] at x0 hx
      have hxm : x < m := by have := HN.out.2; omega
      have hxc : x < t.cs.length := by have := HN.out.2; omega
      obtain ⟨b', o', rfl, hbB', z0, -⟩ := HC.out x hxc
      have HM : Hid ((l.take (j + 1)).map (nmAt t) = (l.take j).map (nmAt t) ++ [t.cs[x].nm]) := by
        show _ = _
        rw [takeS l _ j hjl, hxn, nmAt_in (by simpa using hxc)]
        rfl
      have hnl := (HT.out.cn _ (List.getElem_mem hxc)).1
      obtain ⟨nm, hnm⟩ : ∃ nm, t.cs[x].nm = nm := ⟨_, rfl⟩
      rw [hnm] at z0 HM hnl
      have X0 : Hid (w.cell? ⟨b, o + j, none⟩ = some (.int .i64 (x : Int))) := x0
      have X1 : Hid (w.cell? ⟨b', o' + x * 7, none⟩ = some (.string nm)) := z0
      have HBb : Hid (b < w.heap.size ∧ b' < w.heap.size) := ⟨hbB, hbB'⟩
      have HNm : Hid (nm.size ≤ 63) := hnl
      have hs1 : ¬ 9223372036854775807 < s.size + 2 := by omega
      have hs2 : ¬ 9223372036854775807 < s.size + 2 + nm.size := by omega
      have hs3 : ¬ 9223372036854775807 < s.size + nm.size := by omega
      clear x0 z0 hx hbB hbB' hnm hxn hnl hss hxc
      by_cases hj2 : j = 0
      · subst hj2
        go_upto_region 7 with fail
        refine wp_region_L (fun w9 => BoxT w9 w.heap.size t ⟨some ⟨b', o', none⟩, cc, pk, ck, px, cx, pr, cr⟩ ∧ Below w.heap.size w w9) 12 (by kernel_rfl) ?_
        have HXd : Hid (BoxT wr.drew w.heap.size t ⟨some ⟨b', o', none⟩, cc, pk, ck, px, cx, pr, cr⟩ ∧ Below w.heap.size w wr.drew) := ⟨HBr.out.on ((Below.refl _ _).drew) HBr.out.hg, HBw.out.trans (((Below.refl wr.heap.size _).drew).mono HBw.out.size)⟩
        clear HBr HBw
        generalize wr.drew = wd at *
        refine wpL_take (v := ?_) 0 rfl (by kernel_rfl) (fun _ _ _ h => h) (by rfl) ?_ HXd.out ?_
        rotate_left
        focus
          intro w9 hw9
          obtain ⟨⟨_, c0, c1, c2, c3, c4⟩, hb9⟩ := hw9
          dsimp only at c1
          rw [HN.out.2] at c1
          have y0 := (hb9.cell (p := ⟨b, o, none⟩) HBb.out.1).trans X0.out
          have y1 := (hb9.cell (p := ⟨b', o' + x * 7, none⟩) HBb.out.2).trans X1.out
          go_simp
          try with_reducible rfl
        try simp only [Act.put, List.setIfInBounds_toArray, List.set_cons_zero, List.set_cons_succ]
        refine wpL_take (v := ?_) 1 rfl (by kernel_rfl) (fun _ _ _ h => h) (by rfl) ?_ HXd.out ?_
        rotate_left
        focus
          intro w9 hw9
          obtain ⟨⟨_, c0, c1, c2, c3, c4⟩, hb9⟩ := hw9
          dsimp only at c1
          rw [HN.out.2] at c1
          have y0 := (hb9.cell (p := ⟨b, o, none⟩) HBb.out.1).trans X0.out
          have y1 := (hb9.cell (p := ⟨b', o' + x * 7, none⟩) HBb.out.2).trans X1.out
          go_simp
          try with_reducible rfl
        try simp only [Act.put, List.setIfInBounds_toArray, List.set_cons_zero, List.set_cons_succ]
        refine wpL_take (v := ?_) 2 rfl (by kernel_rfl) (fun _ _ _ h => h) (by rfl) ?_ HXd.out ?_
        rotate_left
        focus
          intro w9 hw9
          obtain ⟨⟨_, c0, c1, c2, c3, c4⟩, hb9⟩ := hw9
          dsimp only at c1
          rw [HN.out.2] at c1
          have y0 := (hb9.cell (p := ⟨b, o, none⟩) HBb.out.1).trans X0.out
          have y1 := (hb9.cell (p := ⟨b', o' + x * 7, none⟩) HBb.out.2).trans X1.out
          go_simp
          try with_reducible rfl
        try simp only [Act.put, List.setIfInBounds_toArray, List.set_cons_zero, List.set_cons_succ]
        refine wpL_take (v := ?_) 3 rfl (by kernel_rfl) (fun _ _ _ h => h) (by rfl) ?_ HXd.out ?_
        rotate_left
        focus
          intro w9 hw9
          obtain ⟨⟨_, c0, c1, c2, c3, c4⟩, hb9⟩ := hw9
          dsimp only at c1
          rw [HN.out.2] at c1
          have y0 := (hb9.cell (p := ⟨b, o, none⟩) HBb.out.1).trans X0.out
          have y1 := (hb9.cell (p := ⟨b', o' + x * 7, none⟩) HBb.out.2).trans X1.out
          go_simp
          try with_reducible rfl
        try simp only [Act.put, List.setIfInBounds_toArray, List.set_cons_zero, List.set_cons_succ]
        refine wpL_take (v := ?_) 4 rfl (by kernel_rfl) (fun _ _ _ h => h) (by rfl) ?_ HXd.out ?_
        rotate_left
        focus
          intro w9 hw9
          obtain ⟨⟨_, c0, c1, c2, c3, c4⟩, hb9⟩ := hw9
          dsimp only at c1
          rw [HN.out.2] at c1
          have y0 := (hb9.cell (p := ⟨b, o, none⟩) HBb.out.1).trans X0.out
          have y1 := (hb9.cell (p := ⟨b', o' + x * 7, none⟩) HBb.out.2).trans X1.out
          go_simp
          try with_reducible rfl
        try simp only [Act.put, List.setIfInBounds_toArray, List.set_cons_zero, List.set_cons_succ]
        refine wpL_take (v := ?_) 5 rfl (by kernel_rfl) (fun _ _ _ h => h) (by rfl) ?_ HXd.out ?_
        rotate_left
        focus
          intro w9 hw9
          obtain ⟨⟨_, c0, c1, c2, c3, c4⟩, hb9⟩ := hw9
          dsimp only at c1
          rw [HN.out.2] at c1
          have y0 := (hb9.cell (p := ⟨b, o, none⟩) HBb.out.1).trans X0.out
          have y1 := (hb9.cell (p := ⟨b', o' + x * 7, none⟩) HBb.out.2).trans X1.out
          go_simp
          try with_reducible rfl
        try simp only [Act.put, List.setIfInBounds_toArray, List.set_cons_zero, List.set_cons_succ]
        refine wpL_take (v := ?_) 6 rfl (by kernel_rfl) (fun _ _ _ h => h) (by rfl) ?_ HXd.out ?_
        rotate_left
        focus
          intro w9 hw9
          obtain ⟨⟨_, c0, c1, c2, c3, c4⟩, hb9⟩ := hw9
          dsimp only at c1
          rw [HN.out.2] at c1
          have y0 := (hb9.cell (p := ⟨b, o, none⟩) HBb.out.1).trans X0.out
          have y1 := (hb9.cell (p := ⟨b', o' + x * 7, none⟩) HBb.out.2).trans X1.out
          go_simp
          try with_reducible rfl
        try simp only [Act.put, List.setIfInBounds_toArray, List.set_cons_zero, List.set_cons_succ]
        refine wpL_take (v := ?_) 7 rfl (by kernel_rfl) (fun _ _ _ h => h) (by rfl) ?_ HXd.out ?_
        rotate_left
        focus
          intro w9 hw9
          obtain ⟨⟨_, c0, c1, c2, c3, c4⟩, hb9⟩ := hw9
          dsimp only at c1
          rw [HN.out.2] at c1
          have y0 := (hb9.cell (p := ⟨b, o, none⟩) HBb.out.1).trans X0.out
          have y1 := (hb9.cell (p := ⟨b', o' + x * 7, none⟩) HBb.out.2).trans X1.out
          go_simp
          try with_reducible rfl
        try simp only [Act.put, List.setIfInBounds_toArray, List.set_cons_zero, List.set_cons_succ]
        refine wpL_take (v := ?_) 8 rfl (by kernel_rfl) (fun _ _ _ h => h) (by rfl) ?_ HXd.out ?_
        rotate_left
        focus
          intro w9 hw9
          obtain ⟨⟨_, c0, c1, c2, c3, c4⟩, hb9⟩ := hw9
          dsimp only at c1
          rw [HN.out.2] at c1
          have y0 := (hb9.cell (p := ⟨b, o, none⟩) HBb.out.1).trans X0.out
          have y1 := (hb9.cell (p := ⟨b', o' + x * 7, none⟩) HBb.out.2).trans X1.out
          go_simp
          try with_reducible rfl
        try simp only [Act.put, List.setIfInBounds_toArray, List.set_cons_zero, List.set_cons_succ]
        refine wpL_take (v := ?_) 9 rfl (by kernel_rfl) (fun _ _ _ h => h) (by rfl) ?_ HXd.out ?_
        rotate_left
        focus
          intro w9 hw9
          obtain ⟨⟨_, c0, c1, c2, c3, c4⟩, hb9⟩ := hw9
          dsimp only at c1
          rw [HN.out.2] at c1
          have y0 := (hb9.cell (p := ⟨b, o, none⟩) HBb.out.1).trans X0.out
          have y1 := (hb9.cell (p := ⟨b', o' + x * 7, none⟩) HBb.out.2).trans X1.out
          go_simp
          try with_reducible rfl
        try simp only [Act.put, List.setIfInBounds_toArray, List.set_cons_zero, List.set_cons_succ]
        refine wpL_take (v := ?_) 10 rfl (by kernel_rfl) (fun _ _ _ h => h) (by rfl) ?_ HXd.out ?_
        rotate_left
        focus
          intro w9 hw9
          obtain ⟨⟨_, c0, c1, c2, c3, c4⟩, hb9⟩ := hw9
          dsimp only at c1
          rw [HN.out.2] at c1
          have y0 := (hb9.cell (p := ⟨b, o, none⟩) HBb.out.1).trans X0.out
          have y1 := (hb9.cell (p := ⟨b', o' + x * 7, none⟩) HBb.out.2).trans X1.out
          go_simp
          try with_reducible rfl
        try simp only [Act.put, List.setIfInBounds_toArray, List.set_cons_zero, List.set_cons_succ]
        refine wpL_take (v := ?_) 11 rfl (by kernel_rfl) (fun _ _ _ h => h) (by rfl) ?_ HXd.out ?_
        rotate_left
        focus
          intro w9 hw9
          obtain ⟨⟨_, c0, c1, c2, c3, c4⟩, hb9⟩ := hw9
          dsimp only at c1
          rw [HN.out.2] at c1
          have y0 := (hb9.cell (p := ⟨b, o, none⟩) HBb.out.1).trans X0.out
          have y1 := (hb9.cell (p := ⟨b', o' + x * 7, none⟩) HBb.out.2).trans X1.out
          go_simp
          try with_reducible rfl
        try simp only [Act.put, List.setIfInBounds_toArray, List.set_cons_zero, List.set_cons_succ]
        refine wpL_done (by kernel_rfl) ?_ _
        try simp only [NoPanic]
        have HS2 : Hid (s ++ nm = ⟨#[40]⟩ ++ jn ⟨#[44, 32]⟩ ((l.take (0 + 1)).map (nmAt t)) ∧ (s ++ nm).size ≤ 1 + (0 + 1) * 66) := ⟨by
          rw [HM.out, HS.out.1]
          have e0 : (l.take 0).map (nmAt t) = [] := rfl
          rw [e0, List.nil_append, jn_one, jn_nil]
          exact congrArg (· ++ nm) (ba_ext (by rw [ba_app]; rfl))
        , by
          have h1 := HS.out.2
          have h2 := HNm.out
          simp only [ByteArray.size_append]
          omega⟩
        generalize s ++ nm = s2 at *
        clear HS HM X0 X1 HBb HNm
        go_wp2_with fail
        go_roundw
        case rel => exact ⟨1, s2, by omega, rfl, by go_num, HS2.out, HXd.out.1, HXd.out.2⟩
        case measure => simp [intOf]; omega
      · have hjp : 0 < j := by omega
        go_upto_region 7 with fail
        refine wp_region_L (fun w9 => BoxT w9 w.heap.size t ⟨some ⟨b', o', none⟩, cc, pk, ck, px, cx, pr, cr⟩ ∧ Below w.heap.size w w9) 12 (by kernel_rfl) ?_
        have HXd : Hid (BoxT wr.drew w.heap.size t ⟨some ⟨b', o', none⟩, cc, pk, ck, px, cx, pr, cr⟩ ∧ Below w.heap.size w wr.drew) := ⟨HBr.out.on ((Below.refl _ _).drew) HBr.out.hg, HBw.out.trans (((Below.refl wr.heap.size _).drew).mono HBw.out.size)⟩
        clear HBr HBw
        generalize wr.drew = wd at *
        refine wpL_take (v := ?_) 0 rfl (by kernel_rfl) (fun _ _ _ h => h) (by rfl) ?_ HXd.out ?_
        rotate_left
        focus
          intro w9 hw9
          obtain ⟨⟨_, c0, c1, c2, c3, c4⟩, hb9⟩ := hw9
          dsimp only at c1
          rw [HN.out.2] at c1
          have y0 := (hb9.cell (p := ⟨b, o + j, none⟩) HBb.out.1).trans X0.out
          have y1 := (hb9.cell (p := ⟨b', o' + x * 7, none⟩) HBb.out.2).trans X1.out
          go_simp
          try with_reducible rfl
        try simp only [Act.put, List.setIfInBounds_toArray, List.set_cons_zero, List.set_cons_succ]
        refine wpL_take (v := ?_) 1 rfl (by kernel_rfl) (fun _ _ _ h => h) (by rfl) ?_ HXd.out ?_
        rotate_left
        focus
          intro w9 hw9
          obtain ⟨⟨_, c0, c1, c2, c3, c4⟩, hb9⟩ := hw9
          dsimp only at c1
          rw [HN.out.2] at c1
          have y0 := (hb9.cell (p := ⟨b, o + j, none⟩) HBb.out.1).trans X0.out
          have y1 := (hb9.cell (p := ⟨b', o' + x * 7, none⟩) HBb.out.2).trans X1.out
          go_simp
          try with_reducible rfl
        try simp only [Act.put, List.setIfInBounds_toArray, List.set_cons_zero, List.set_cons_succ]
        refine wpL_take (v := ?_) 2 rfl (by kernel_rfl) (fun _ _ _ h => h) (by rfl) ?_ HXd.out ?_
        rotate_left
        focus
          intro w9 hw9
          obtain ⟨⟨_, c0, c1, c2, c3, c4⟩, hb9⟩ := hw9
          dsimp only at c1
          rw [HN.out.2] at c1
          have y0 := (hb9.cell (p := ⟨b, o + j, none⟩) HBb.out.1).trans X0.out
          have y1 := (hb9.cell (p := ⟨b', o' + x * 7, none⟩) HBb.out.2).trans X1.out
          go_simp
          try with_reducible rfl
        try simp only [Act.put, List.setIfInBounds_toArray, List.set_cons_zero, List.set_cons_succ]
        refine wpL_take (v := ?_) 3 rfl (by kernel_rfl) (fun _ _ _ h => h) (by rfl) ?_ HXd.out ?_
        rotate_left
        focus
          intro w9 hw9
          obtain ⟨⟨_, c0, c1, c2, c3, c4⟩, hb9⟩ := hw9
          dsimp only at c1
          rw [HN.out.2] at c1
          have y0 := (hb9.cell (p := ⟨b, o + j, none⟩) HBb.out.1).trans X0.out
          have y1 := (hb9.cell (p := ⟨b', o' + x * 7, none⟩) HBb.out.2).trans X1.out
          go_simp
          try with_reducible rfl
        try simp only [Act.put, List.setIfInBounds_toArray, List.set_cons_zero, List.set_cons_succ]
        refine wpL_take (v := ?_) 4 rfl (by kernel_rfl) (fun _ _ _ h => h) (by rfl) ?_ HXd.out ?_
        rotate_left
        focus
          intro w9 hw9
          obtain ⟨⟨_, c0, c1, c2, c3, c4⟩, hb9⟩ := hw9
          dsimp only at c1
          rw [HN.out.2] at c1
          have y0 := (hb9.cell (p := ⟨b, o + j, none⟩) HBb.out.1).trans X0.out
          have y1 := (hb9.cell (p := ⟨b', o' + x * 7, none⟩) HBb.out.2).trans X1.out
          go_simp
          try with_reducible rfl
        try simp only [Act.put, List.setIfInBounds_toArray, List.set_cons_zero, List.set_cons_succ]
        refine wpL_take (v := ?_) 5 rfl (by kernel_rfl) (fun _ _ _ h => h) (by rfl) ?_ HXd.out ?_
        rotate_left
        focus
          intro w9 hw9
          obtain ⟨⟨_, c0, c1, c2, c3, c4⟩, hb9⟩ := hw9
          dsimp only at c1
          rw [HN.out.2] at c1
          have y0 := (hb9.cell (p := ⟨b, o + j, none⟩) HBb.out.1).trans X0.out
          have y1 := (hb9.cell (p := ⟨b', o' + x * 7, none⟩) HBb.out.2).trans X1.out
          go_simp
          try with_reducible rfl
        try simp only [Act.put, List.setIfInBounds_toArray, List.set_cons_zero, List.set_cons_succ]
        refine wpL_take (v := ?_) 6 rfl (by kernel_rfl) (fun _ _ _ h => h) (by rfl) ?_ HXd.out ?_
        rotate_left
        focus
          intro w9 hw9
          obtain ⟨⟨_, c0, c1, c2, c3, c4⟩, hb9⟩ := hw9
          dsimp only at c1
          rw [HN.out.2] at c1
          have y0 := (hb9.cell (p := ⟨b, o + j, none⟩) HBb.out.1).trans X0.out
          have y1 := (hb9.cell (p := ⟨b', o' + x * 7, none⟩) HBb.out.2).trans X1.out
          go_simp
          try with_reducible rfl
        try simp only [Act.put, List.setIfInBounds_toArray, List.set_cons_zero, List.set_cons_succ]
        refine wpL_take (v := ?_) 7 rfl (by kernel_rfl) (fun _ _ _ h => h) (by rfl) ?_ HXd.out ?_
        rotate_left
        focus
          intro w9 hw9
          obtain ⟨⟨_, c0, c1, c2, c3, c4⟩, hb9⟩ := hw9
          dsimp only at c1
          rw [HN.out.2] at c1
          have y0 := (hb9.cell (p := ⟨b, o + j, none⟩) HBb.out.1).trans X0.out
          have y1 := (hb9.cell (p := ⟨b', o' + x * 7, none⟩) HBb.out.2).trans X1.out
          go_simp
          try with_reducible rfl
        try simp only [Act.put, List.setIfInBounds_toArray, List.set_cons_zero, List.set_cons_succ]
        refine wpL_take (v := ?_) 8 rfl (by kernel_rfl) (fun _ _ _ h => h) (by rfl) ?_ HXd.out ?_
        rotate_left
        focus
          intro w9 hw9
          obtain ⟨⟨_, c0, c1, c2, c3, c4⟩, hb9⟩ := hw9
          dsimp only at c1
          rw [HN.out.2] at c1
          have y0 := (hb9.cell (p := ⟨b, o + j, none⟩) HBb.out.1).trans X0.out
          have y1 := (hb9.cell (p := ⟨b', o' + x * 7, none⟩) HBb.out.2).trans X1.out
          go_simp
          try with_reducible rfl
        try simp only [Act.put, List.setIfInBounds_toArray, List.set_cons_zero, List.set_cons_succ]
        refine wpL_take (v := ?_) 9 rfl (by kernel_rfl) (fun _ _ _ h => h) (by rfl) ?_ HXd.out ?_
        rotate_left
        focus
          intro w9 hw9
          obtain ⟨⟨_, c0, c1, c2, c3, c4⟩, hb9⟩ := hw9
          dsimp only at c1
          rw [HN.out.2] at c1
          have y0 := (hb9.cell (p := ⟨b, o + j, none⟩) HBb.out.1).trans X0.out
          have y1 := (hb9.cell (p := ⟨b', o' + x * 7, none⟩) HBb.out.2).trans X1.out
          go_simp
          try with_reducible rfl
        try simp only [Act.put, List.setIfInBounds_toArray, List.set_cons_zero, List.set_cons_succ]
        refine wpL_take (v := ?_) 10 rfl (by kernel_rfl) (fun _ _ _ h => h) (by rfl) ?_ HXd.out ?_
        rotate_left
        focus
          intro w9 hw9
          obtain ⟨⟨_, c0, c1, c2, c3, c4⟩, hb9⟩ := hw9
          dsimp only at c1
          rw [HN.out.2] at c1
          have y0 := (hb9.cell (p := ⟨b, o + j, none⟩) HBb.out.1).trans X0.out
          have y1 := (hb9.cell (p := ⟨b', o' + x * 7, none⟩) HBb.out.2).trans X1.out
          go_simp
          try with_reducible rfl
        try simp only [Act.put, List.setIfInBounds_toArray, List.set_cons_zero, List.set_cons_succ]
        refine wpL_take (v := ?_) 11 rfl (by kernel_rfl) (fun _ _ _ h => h) (by rfl) ?_ HXd.out ?_
        rotate_left
        focus
          intro w9 hw9
          obtain ⟨⟨_, c0, c1, c2, c3, c4⟩, hb9⟩ := hw9
          dsimp only at c1
          rw [HN.out.2] at c1
          have y0 := (hb9.cell (p := ⟨b, o + j, none⟩) HBb.out.1).trans X0.out
          have y1 := (hb9.cell (p := ⟨b', o' + x * 7, none⟩) HBb.out.2).trans X1.out
          go_simp
          try with_reducible rfl
        try simp only [Act.put, List.setIfInBounds_toArray, List.set_cons_zero, List.set_cons_succ]
        refine wpL_done (by kernel_rfl) ?_ _
        try simp only [NoPanic]
        have HS2 : Hid ((s ++ ⟨#[44, 32]⟩) ++ nm = ⟨#[40]⟩ ++ jn ⟨#[44, 32]⟩ ((l.take (j + 1)).map (nmAt t)) ∧ ((s ++ ⟨#[44, 32]⟩) ++ nm).size ≤ 1 + (j + 1) * 66) := ⟨by
          rw [HM.out, HS.out.1]
          rw [jn_snoc _ _ _ (by
            intro h
            have h2 := congrArg List.length h
            rw [List.length_map, List.length_take, List.length_nil] at h2
            have h3 := HN.out.1
            omega)]
          apply ba_ext
          simp only [ba_app, List.append_assoc]
        , by
          have h1 := HS.out.2
          have h2 := HNm.out
          simp only [ByteArray.size_append, show (⟨#[44, 32]⟩ : ByteArray).size = 2 from rfl]
          omega⟩
        generalize (s ++ ⟨#[44, 32]⟩) ++ nm = s2 at *
        clear HS HM X0 X1 HBb HNm
        go_wp2_with fail
        go_roundw
        case rel => exact ⟨j + 1, s2, by omega, rfl, by go_num, HS2.out, HXd.out.1, HXd.out.2⟩
        case measure => simp [intOf]; omega

end Go.Proofs.YthbjheiogghjnaaGreatDoor

namespace Go.Proofs.YthbjheiogghjnaaGreatDoor
open Go.RowKit
set_option maxRecDepth 100000

/-- what the document has laid of the parts, when j of them are laid -/
def rout (Q : List ByteArray) (x : ByteArray) (j : Nat) : List UInt8 := if j ≤ Q.length then (Q.take j).flatMap pcB else Q.flatMap pcB ++ [32, 32] ++ x.data.toList ++ [10]
theorem rout_step {Q : List ByteArray} {x : ByteArray} {j : Nat} (hj : j < Q.length) : rout Q x (j + 1) = rout Q x j ++ ([32, 32] ++ Q[j].data.toList) ++ [44] ++ [10] := by
  unfold rout
  rw [if_pos (by omega), if_pos (by omega), ← List.take_append_getElem hj, List.flatMap_append]
  simp [pcB]
theorem rout_last {Q : List ByteArray} {x : ByteArray} : rout Q x (Q.length + 1) = rout Q x Q.length ++ ([32, 32] ++ x.data.toList) ++ [10] := by
  unfold rout
  rw [if_neg (by omega), if_pos (Nat.le_refl _), List.take_length]
  simp
theorem rout_end {D : Vl → ByteArray} {t : Tb} {Q : List ByteArray} {x : ByteArray} (h : prtL D t = Q ++ [x]) : (((⟨#[99, 114, 101, 97, 116, 101, 32, 116, 97, 98, 108, 101, 32]⟩ : ByteArray) ++ t.nm ++ ⟨#[32, 40, 10]⟩).data.toList ++ rout Q x (Q.length + 1)) ++ [41, 10] = (prtS D t).data.toList := by
  unfold prtS
  rw [h]
  simp only [ba_app]
  have e : ([32, 40, 10, 32, 32] : List UInt8) = [32, 40, 10] ++ [32, 32] := rfl
  have e3 : ([10, 41, 10] : List UInt8) = [10] ++ [41, 10] := rfl
  rw [e, e3]
  have hp := pieces Q x
  have hr : rout Q x (Q.length + 1) = Q.flatMap pcB ++ [32, 32] ++ x.data.toList ++ [10] := by
    unfold rout
    rw [if_neg (by omega)]
  rw [hr, ← hp]
  simp only [List.append_assoc]
theorem snoc_of {L : List ByteArray} (h : 0 < L.length) : ∃ Q x, L = Q ++ [x] := ⟨L.dropLast, L.getLast (by intro e; rw [e] at h; simp at h), (List.dropLast_concat_getLast _).symm⟩

set_option maxHeartbeats 16000000 in
theorem rprint_any (D : Vl → ByteArray) (t : Tb) (a : TabP) (w : World) (hV : TabV w w.heap.size t a) (hok : t.ok) (hE : Env w) (hD : ∀ c ∈ t.cs, (D c.df).size ≤ 200000)
    (hTx : ∀ c ∈ t.cs, ∀ w1, Below w.heap.size w w1 → Calls Tryz.prog 16 #[.agg #[.int .i64 c.df.k, .int .i64 c.df.n, .float .f64 c.df.f, .string c.df.s]] w1 fun e w' => ∃ er : Int, e = .returned (.tuple #[.string (D c.df), .int .i64 er]) ∧ Below w1.heap.size w1 w') :
    Calls Tryz.prog 6 #[a.val t] w fun e w' => e = .returned (.tuple #[.string (prtO D t), .int .i64 (prtE D t)]) ∧ Below w.heap.size w w' := by
  obtain ⟨pc, cc, pk, ck, px, cx, pr, cr⟩ := a
  have CC : Hid (∀ w1, Below w.heap.size w w1 → Calls Tryz.prog 14 #[.agg #[.string t.nm, .slice pc t.cs.length cc, .slice pk t.key.length ck, .slice px t.ix.length cx, .slice pr t.rf.length cr]] w1 fun e w' => e = .returned (.int .i64 (checkS t)) ∧ Below w1.heap.size w1 w') := fun w1 hb => rcheck_anyT t ⟨pc, cc, pk, ck, px, cx, pr, cr⟩ w1 (hV.on hb) hok (hE.on hb)
  have HV : Hid (TabV w w.heap.size t ⟨pc, cc, pk, ck, px, cx, pr, cr⟩) := hV
  have HD : Hid (∀ c ∈ t.cs, (D c.df).size ≤ 200000) := hD
  have HTx : Hid (∀ c ∈ t.cs, ∀ w1, Below w.heap.size w w1 → Calls Tryz.prog 16 #[.agg #[.int .i64 c.df.k, .int .i64 c.df.n, .float .f64 c.df.f, .string c.df.s]] w1 fun e w' => ∃ er : Int, e = .returned (.tuple #[.string (D c.df), .int .i64 er]) ∧ Below w1.heap.size w1 w') := hTx
  have hb0 : Below w.heap.size w (w.alloc (.cells #[.string t.nm, .slice pc t.cs.length cc, .slice pk t.key.length ck, .slice px t.ix.length cx, .slice pr t.rf.length cr] 27)) := by go_grown
  have HB : Hid (BoxT (w.alloc (.cells #[.string t.nm, .slice pc t.cs.length cc, .slice pk t.key.length ck, .slice px t.ix.length cx, .slice pr t.rf.length cr] 27)) w.heap.size t ⟨pc, cc, pk, ck, px, cx, pr, cr⟩) := BoxT.new w t ⟨pc, cc, pk, ck, px, cx, pr, cr⟩
  have hsf := run_store_float
  clear hV hok hE hD hTx
  unfold TabP.val
  dsimp only
  go_enter Tryz.func6, Tryz.ntmps6
  go_wp2_with fail
  refine (CC.out _ hb0).mono ?_
  rintro e w1 ⟨rfl, hb1⟩
  have HBw1 : Hid (Below w.heap.size w w1) := hb0.trans (hb1.mono hb0.size)
  have HB1 : Hid (BoxT w1 w.heap.size t ⟨pc, cc, pk, ck, px, cx, pr, cr⟩) := HB.out.on hb1 HB.out.hg
  clear hb0 hb1 HB CC
  by_cases hc : checkS t = 0
  · have hT := TOk.of hc
    have HT : Hid (TOk t) := hT
    have HPt : Hid (∀ x ∈ prtL D t, x.size ≤ 200200) := prtL_size hT HD.out
    have HNm : Hid (t.nm.size ≤ 63) := hT.nm
    have HLn : Hid (t.cs.length ≤ 64 ∧ t.ix.length ≤ 16 ∧ t.rf.length ≤ 16) := ⟨hT.c2, hT.x2, hT.r2⟩
    clear hT
    have HPO : Hid (prtO D t = if 262144 < (prtS D t).size then ⟨#[]⟩ else prtS D t) := if_pos hc
    have HPE : Hid (prtE D t = if 262144 < (prtS D t).size then 3 else 0) := if_pos hc
    rw [hc]
    clear hc
    have hal : Below w1.heap.size w1 (w1.alloc (.cells #[] 9)) := (Below.refl _ _).alloc (Nat.le_refl _) _
    have HO1 : Hid (OwnS (w1.alloc (.cells #[] 9)) (w.heap.size + 1) (.slice (some ⟨w1.heap.size, 0, none⟩) 0 0) []) := World.ownsRow_lit w1 #[] 0 HB1.out.hg (Nat.zero_le _) rfl
    have HB2 : Hid (BoxT (w1.alloc (.cells #[] 9)) w.heap.size t ⟨pc, cc, pk, ck, px, cx, pr, cr⟩) := HB1.out.on hal HB1.out.hg
    have HBw2 : Hid (Below w.heap.size w (w1.alloc (.cells #[] 9))) := HBw1.out.trans (hal.mono HBw1.out.size)
    clear hal HB1 HBw1
    go_wp2_with fail
    generalize (w1.alloc (.cells #[] 9)) = w2 at *
    generalize w1.heap.size = z1 at *
    go_loopw [5, 6] (fun v i wr => ∃ j : Nat, j ≤ t.cs.length ∧ i = .int .i64 (j : Int) ∧ Hid (OwnS wr (w.heap.size + 1) v ([] ++ (t.cs.take j).map (colS D))) ∧ Hid (BoxT wr w.heap.size t ⟨pc, cc, pk, ck, px, cx, pr, cr⟩) ∧ Hid (Below w.heap.size w wr)) (fun _ i _ => t.cs.length - (intOf i).toNat)
    case atStart => exact ⟨0, Nat.zero_le _, by go_num, HO1.out, HB2.out, HBw2.out⟩
    case round =>
      obtain ⟨j, hj, rfl, HO, HBr, HBw⟩ := hrel
      clear HO1 HB2 HBw2
      have e1 := HBr.out.c1
      dsimp only at e1
      by_cases hj0 : j = t.cs.length
      · subst hj0
        have HO2 : Hid (OwnS wr (w.heap.size + 1) u5 (t.cs.map (colS D))) := by
          have h := HO.out
          rw [List.take_of_length_le (Nat.le_refl _), List.nil_append] at h
          exact h
        clear HO
        generalize wr = w2 at *
        have CL : Hid (Calls Tryz.prog 17 #[.agg #[.string t.nm, .slice pc t.cs.length cc, .slice pk t.key.length ck, .slice px t.ix.length cx, .slice pr t.rf.length cr], .slice pk t.key.length ck] w2 fun e w' => e = .returned (.string (lstS t t.key)) ∧ Below w2.heap.size w2 w') := rlist_any t ⟨pc, cc, pk, ck, px, cx, pr, cr⟩ t.key pk ck w2 (HV.out.on HBw.out) HT.out (HV.out.key.on HBw.out) HT.out.key
        have hls := lstS_size HT.out HT.out.key.2
        have HPk : Hid ((⟨#[112, 114, 105, 109, 97, 114, 121, 32, 107, 101, 121, 32]⟩ : ByteArray) ++ lstS t t.key = pkS t) := rfl
        obtain ⟨r, hr⟩ : ∃ r, lstS t t.key = r := ⟨_, rfl⟩
        rw [hr] at CL hls HPk
        clear hr e1
        have hs0 : ¬ 9223372036854775807 < 12 + r.size := by omega
        clear hls
        have e0 := HBr.out.c0
        have e1 := HBr.out.c1
        have e2 := HBr.out.c2
        have e3 := HBr.out.c3
        have e4 := HBr.out.c4
        dsimp only at e1 e2 e3 e4
        go_wp2_with fail
        refine CL.out.mono ?_
        rintro e w3 ⟨rfl, hb⟩
        have HO3 : Hid (OwnS w3 (w.heap.size + 1) u5 (t.cs.map (colS D))) := HO2.out.kept hb
        have HB3 : Hid (BoxT w3 w.heap.size t ⟨pc, cc, pk, ck, px, cx, pr, cr⟩) := HBr.out.on hb HBr.out.hg
        have HBw3 : Hid (Below w.heap.size w w3) := HBw.out.trans (hb.mono HBw.out.size)
        have hz3 := HB3.out.hg
        clear hb HO2 HBr HBw CL e0 e1 e2 e3 e4
        have hlk : (t.cs.map (colS D)).length + 1 ≤ 8796093022208 := by
          have := HLn.out.1
          rw [List.length_map]
          omega
        go_wp2_with (first | (at_builtin; go_loud (refine wpList_appS w3 rfl (.tmp 66) (.tmp 72) rfl (w.heap.size + 1) u5 _ (by rfl) HO3.out ((⟨#[112, 114, 105, 109, 97, 114, 121, 32, 107, 101, 121, 32]⟩ : ByteArray) ++ r) _ (by rfl) (by first | rfl | simp) hlk (by omega) ?_); intro v4 w4 h6 h7))
        have HO4 : Hid (OwnS w4 (w.heap.size + 1) v4 (t.cs.map (colS D) ++ [pkS t])) := by rw [HPk.out] at h6; exact h6
        have HB4 : Hid (BoxT w4 w.heap.size t ⟨pc, cc, pk, ck, px, cx, pr, cr⟩) := HB3.out.on h7 (by omega)
        have HBw4 : Hid (Below w.heap.size w w4) := HBw3.out.trans (h7.mono (by omega))
        clear h6 h7 HO3 HB3 HBw3 hz3 hlk HPk hs0
        go_wp2_with fail
        go_loopw [5, 11] (fun v i wr => ∃ j : Nat, j ≤ t.ix.length ∧ i = .int .i64 (j : Int) ∧ Hid (OwnS wr (w.heap.size + 1) v ((t.cs.map (colS D) ++ [pkS t]) ++ (t.ix.take j).map (ixS t))) ∧ Hid (BoxT wr w.heap.size t ⟨pc, cc, pk, ck, px, cx, pr, cr⟩) ∧ Hid (Below w.heap.size w wr)) (fun _ i _ => t.ix.length - (intOf i).toNat)
        case atStart => exact ⟨0, Nat.zero_le _, by go_num, by show OwnS _ _ _ ((t.cs.map (colS D) ++ [pkS t]) ++ []); rw [List.append_nil]; exact HO4.out, HB4.out, HBw4.out⟩
        case round =>
          obtain ⟨j2, hj2, rfl, HO, HBr, HBw⟩ := hrel
          clear HO4 HB4 HBw4
          have e3 := HBr.out.c3
          dsimp only at e3
          by_cases hj20 : j2 = t.ix.length
          · subst hj20
            have HO2 : Hid (OwnS wr (w.heap.size + 1) u5 ((t.cs.map (colS D) ++ [pkS t] ++ t.ix.map (ixS t)))) := by
              have h := HO.out
              rw [List.take_of_length_le (Nat.le_refl _)] at h
              exact h
            clear HO
            generalize wr = w5 at *
            go_wp2_with fail
            clear e3
            go_loopw [5, 13] (fun v i wr => ∃ j : Nat, j ≤ t.rf.length ∧ i = .int .i64 (j : Int) ∧ Hid (OwnS wr (w.heap.size + 1) v ((t.cs.map (colS D) ++ [pkS t] ++ t.ix.map (ixS t)) ++ (t.rf.take j).map (rfS t))) ∧ Hid (BoxT wr w.heap.size t ⟨pc, cc, pk, ck, px, cx, pr, cr⟩) ∧ Hid (Below w.heap.size w wr)) (fun _ i _ => t.rf.length - (intOf i).toNat)
            case atStart => exact ⟨0, Nat.zero_le _, by go_num, by show OwnS _ _ _ ((t.cs.map (colS D) ++ [pkS t] ++ t.ix.map (ixS t)) ++ []); rw [List.append_nil]; exact HO2.out, HBr.out, HBw.out⟩
            case round =>
              clear HO2 HBr HBw
              obtain ⟨j3, hj3, rfl, HO, HBr, HBw⟩ := hrel
              have e4 := HBr.out.c4
              dsimp only at e4
              by_cases hj30 : j3 = t.rf.length
              · subst hj30
                have HO2 : Hid (OwnS wr (w.heap.size + 1) u5 (prtL D t)) := by
                  have h := HO.out
                  rw [List.take_of_length_le (Nat.le_refl _)] at h
                  exact h
                clear HO
                generalize wr = w6 at *
                have hpl : (prtL D t).length ≤ 97 := by
                  rw [prtL_len]
                  have := HLn.out
                  omega
                obtain ⟨Q, x, hQ⟩ := snoc_of (show 0 < (prtL D t).length by rw [prtL_len]; omega)
                obtain ⟨nm, hnm⟩ : ∃ nm, t.nm = nm := ⟨_, rfl⟩
                have HEnd : Hid ((((⟨#[99, 114, 101, 97, 116, 101, 32, 116, 97, 98, 108, 101, 32]⟩ : ByteArray) ++ nm ++ ⟨#[32, 40, 10]⟩).data.toList ++ rout Q x (Q.length + 1)) ++ [41, 10] = (prtS D t).data.toList) := by
                  have h := rout_end hQ
                  rw [hnm] at h
                  exact h
                have hnz : nm.size ≤ 63 := by rw [← hnm]; exact HNm.out
                have e0 := HBr.out.c0
                rw [hnm] at e0
                rw [hQ] at HO2 HPt hpl
                obtain ⟨g, cap, ev, _, hg, hcap, hcell⟩ := HO2.out.form (by simp)
                subst ev
                have hNl : (Q ++ [x]).length = Q.length + 1 := by simp
                rw [hNl] at hcap hpl ⊢
                have HCl : Hid (∀ w9, Below w6.heap.size w6 w9 → ∀ (i : Nat) p, (Q ++ [x])[i]? = some p → w9.cell? ⟨g, i, none⟩ = some (.string p) ∧ p.size ≤ 200200) := fun w9 hb i p hp => by
                  have h := hcell i p hp
                  rw [Nat.zero_add] at h
                  exact ⟨(hb.cell (p := ⟨g, i, none⟩) hg).trans h, HPt.out p (List.mem_of_getElem? hp)⟩
                clear hcell hg hQ HO2 HPt hnm HNm
                have hs1 : ¬ 9223372036854775807 < 13 + nm.size := by omega
                have hs2 : ¬ 9223372036854775807 < 13 + nm.size + 3 := by omega
                have hHz : ((⟨#[99, 114, 101, 97, 116, 101, 32, 116, 97, 98, 108, 101, 32]⟩ : ByteArray) ++ nm ++ ⟨#[32, 40, 10]⟩).size = 13 + nm.size + 3 := by
                  rw [ByteArray.size_append, ByteArray.size_append]
                  rfl
                have HM1 : Hid (OwnM (Lib.bytesWorld w6 5 ((⟨#[99, 114, 101, 97, 116, 101, 32, 116, 97, 98, 108, 101, 32]⟩ : ByteArray) ++ nm ++ ⟨#[32, 40, 10]⟩)) w6.heap.size (.slice (some ⟨w6.heap.size, 0, none⟩) (13 + nm.size + 3) (grownCap w6 (13 + nm.size + 3) 0 5)) ((⟨#[99, 114, 101, 97, 116, 101, 32, 116, 97, 98, 108, 101, 32]⟩ : ByteArray) ++ nm ++ ⟨#[32, 40, 10]⟩).data.toList) := by
                  have h := conv_ownM w6 ((⟨#[99, 114, 101, 97, 116, 101, 32, 116, 97, 98, 108, 101, 32]⟩ : ByteArray) ++ nm ++ ⟨#[32, 40, 10]⟩) (by omega)
                  rw [hHz] at h
                  exact h
                have HBb : Hid (Below w6.heap.size w6 (Lib.bytesWorld w6 5 ((⟨#[99, 114, 101, 97, 116, 101, 32, 116, 97, 98, 108, 101, 32]⟩ : ByteArray) ++ nm ++ ⟨#[32, 40, 10]⟩))) := below_bytesM _ _ _
                have HH0 : Hid (((⟨#[99, 114, 101, 97, 116, 101, 32, 116, 97, 98, 108, 101, 32]⟩ : ByteArray) ++ nm ++ ⟨#[32, 40, 10]⟩).data.toList.length ≤ 200) := by
                  rw [show ((⟨#[99, 114, 101, 97, 116, 101, 32, 116, 97, 98, 108, 101, 32]⟩ : ByteArray) ++ nm ++ ⟨#[32, 40, 10]⟩).data.toList.length = ((⟨#[99, 114, 101, 97, 116, 101, 32, 116, 97, 98, 108, 101, 32]⟩ : ByteArray) ++ nm ++ ⟨#[32, 40, 10]⟩).size from size_toList _]
                  show _ ≤ _
                  omega
                have hcv := fun w9 : World => Lib.run_convert_string_bytes (P := Tryz.prog) w9 9 52 5 ((⟨#[99, 114, 101, 97, 116, 101, 32, 116, 97, 98, 108, 101, 32]⟩ : ByteArray) ++ nm ++ ⟨#[32, 40, 10]⟩) Tryz.underlying9 Tryz.underlying52 Tryz.underlying5
                clear hnz hHz
                go_wp2_with fail
                generalize ((⟨#[99, 114, 101, 97, 116, 101, 32, 116, 97, 98, 108, 101, 32]⟩ : ByteArray) ++ nm ++ ⟨#[32, 40, 10]⟩) = h0 at *
                clear hcv e0 e4 hs1 hs2
                obtain ⟨n, hn⟩ : ∃ n, Q.length = n := ⟨_, rfl⟩
                have HQn : Hid (Q.length = n) := hn
                rw [hn] at hcap hpl HEnd ⊢
                clear hn
                generalize Lib.bytesWorld w6 5 h0 = w7 at *
                go_loopw [14, 15] (fun v i wr => ∃ (j : Nat) (bs : List UInt8), j ≤ n + 1 ∧ i = .int .i64 (j : Int) ∧ Hid (OwnM wr w6.heap.size v bs) ∧ Hid (bs = h0.data.toList ++ rout Q x j ∧ bs.length ≤ 200 + j * 200300) ∧ Hid (Below w6.heap.size w6 wr)) (fun _ i _ => n + 1 - (intOf i).toNat)
                case atStart => exact ⟨0, h0.data.toList, Nat.zero_le _, by go_num, HM1.out, ⟨by unfold rout; rw [if_pos (Nat.zero_le _)]; simp, by have := HH0.out; omega⟩, HBb.out⟩
                case round =>
                  clear HM1 HBb HH0
                  obtain ⟨j, bs, hj, rfl, HMr, HE, HBb⟩ := hrel
                  by_cases hj0 : j = n + 1
                  · subst hj0
                    have hbz := HE.out.2
                    have hsz := HBb.out.size
                    have hend : bs ++ [41, 10] = (prtS D t).data.toList := by rw [HE.out.1]; exact HEnd.out
                    have hpsz : (prtS D t).size = bs.length + 2 := by rw [← size_toList, ← hend, List.length_append]; rfl
                    have HFi : Hid (bs ++ [41, 10] = (prtS D t).data.toList ∧ (prtS D t).size = bs.length + 2) := ⟨hend, hpsz⟩
                    have HBw9 : Hid (Below w.heap.size w wr) := HBw.out.trans (HBb.out.mono HBw.out.size)
                    have hB9 : w.heap.size ≤ w6.heap.size := HBw.out.size
                    clear hend hpsz
                    by_cases hbig : 262144 < bs.length + 2
                    · have hbg : (262144 : Int) < (bs.length : Int) + 2 := by omega
                      have HF : Hid (prtO D t = ⟨#[]⟩ ∧ prtE D t = 3) := ⟨by rw [HPO.out, if_pos (by rw [HFi.out.2]; exact hbig)], by rw [HPE.out, if_pos (by rw [HFi.out.2]; exact hbig)]⟩
                      go_wp2_with (first | (at_builtin; go_loud (refine wpList_appMs wr rfl (.tmp 166) _ rfl w6.heap.size u14 bs (by rfl) HMr.out ⟨#[41, 10]⟩ (by rfl) (by have : (⟨#[41, 10]⟩ : ByteArray).size = 2 := rfl; omega) hsz ?_); intro v8 w8 h8 hb8; obtain ⟨g8, cap8, ev8, _⟩ := h8.form; subst ev8; rw [show (bs ++ (⟨#[41, 10]⟩ : ByteArray).data.toList).length = bs.length + 2 by rw [List.length_append]; rfl] at h8 ⊢))
                      have HBf : Hid (Below w.heap.size w w8) := HBw9.out.trans (hb8.mono hB9)
                      go_wp2_with fail
                      refine bodyPost_ret (v := .tuple #[.string ⟨#[]⟩, .int .i64 3]) (by simp [results, Tryz.results6, go_sem]) rfl ?_
                      exact ⟨by rw [HF.out.1, HF.out.2], HBf.out⟩
                    · have hbg : ¬ (262144 : Int) < (bs.length : Int) + 2 := by omega
                      have HF : Hid (prtO D t = prtS D t ∧ prtE D t = 0) := ⟨by rw [HPO.out, if_neg (by rw [HFi.out.2]; exact hbig)], by rw [HPE.out, if_neg (by rw [HFi.out.2]; exact hbig)]⟩
                      go_wp2_with (first | (at_builtin; go_loud (refine wpList_appMs wr rfl (.tmp 166) _ rfl w6.heap.size u14 bs (by rfl) HMr.out ⟨#[41, 10]⟩ (by rfl) (by have : (⟨#[41, 10]⟩ : ByteArray).size = 2 := rfl; omega) hsz ?_); intro v8 w8 h8 hb8; have hback := back_ownM h8; obtain ⟨g8, cap8, ev8, _⟩ := h8.form; subst ev8; rw [show (bs ++ (⟨#[41, 10]⟩ : ByteArray).data.toList).length = bs.length + 2 by rw [List.length_append]; rfl] at h8 hback ⊢))
                      have HBf : Hid (Below w.heap.size w w8) := HBw9.out.trans (hb8.mono hB9)
                      go_wp2_with fail
                      refine bodyPost_ret (v := .tuple #[.string ⟨(bs ++ (⟨#[41, 10]⟩ : ByteArray).data.toList).toArray⟩, .int .i64 0]) (by simp [results, Tryz.results6, go_sem]) rfl ?_
                      refine ⟨?_, HBf.out⟩
                      rw [HF.out.1, HF.out.2, show (⟨(bs ++ (⟨#[41, 10]⟩ : ByteArray).data.toList).toArray⟩ : ByteArray) = prtS D t from ba_ext HFi.out.1]
                  · have hj1 : j < n + 1 := by omega
                    have hbz := HE.out.2
                    obtain ⟨p, hp⟩ : ∃ p, (Q ++ [x])[j]? = some p := ⟨_, List.getElem?_eq_getElem (show j < (Q ++ [x]).length by have := HQn.out; simp; omega)⟩
                    obtain ⟨y0, hpz⟩ := HCl.out wr HBb.out j p hp
                    have hs1 : ¬ 9223372036854775807 < 2 + p.size := by omega
                    have hpp : ((⟨#[32, 32]⟩ : ByteArray) ++ p).size = 2 + p.size := by rw [ByteArray.size_append]; rfl
                    have hsz := HBb.out.size
                    go_upto_region 33 with (first | (at_builtin; go_loud (refine wpList_appMs wr rfl (.tmp 148) (.tmp 153) rfl w6.heap.size u14 bs (by rfl) HMr.out ((⟨#[32, 32]⟩ : ByteArray) ++ p) (by rfl) (by omega) hsz ?_); intro v8 w8 h8 hb8))
                    have HM8 : Hid (OwnM w8 w6.heap.size v8 (bs ++ ([32, 32] ++ p.data.toList))) := by
                      rw [ba_app] at h8
                      exact h8
                    have HB8 : Hid (Below w6.heap.size w6 w8) := HBb.out.trans hb8
                    have hl8 : (bs ++ ([32, 32] ++ p.data.toList)).length = bs.length + (2 + p.size) := by rw [List.length_append, List.length_append, size_toList]; rfl
                    have hsz8 := HB8.out.size
                    clear h8 hb8 HMr HBb y0 hs1
                    by_cases hj2 : j < n
                    · have hpq : ∃ h : j < Q.length, Q[j] = p := by
                        have h := HQn.out
                        rw [List.getElem?_append_left (by omega), List.getElem?_eq_getElem (by omega)] at hp
                        exact ⟨by omega, Option.some.inj hp⟩
                      have HPq : Hid (∃ h : j < Q.length, Q[j] = p) := hpq
                      clear hp hpq
                      go_upto_region 35 with (first | (at_builtin; go_loud (refine wpList_appM1 w8 rfl (.tmp 160) (.tmp 161) rfl w6.heap.size v8 _ (by rfl) HM8.out 44 44 rfl (by first | rfl | simp) (by omega) hsz8 ?_); intro v9 w9 h9 hb9))
                      have hsz9 := (HB8.out.trans hb9).size
                      go_wp2_with (first | (at_builtin; go_loud (refine wpList_appM1 w9 rfl (.tmp 163) (.tmp 164) rfl w6.heap.size v9 _ (by rfl) h9 10 10 rfl (by first | rfl | simp) (by rw [List.length_append, hl8]; simp only [List.length_singleton]; omega) hsz9 ?_); intro v10 w10 h10 hb10))
                      have HMn : Hid (OwnM w10 w6.heap.size v10 (bs ++ ([32, 32] ++ p.data.toList) ++ [44] ++ [10])) := h10
                      have HBn : Hid (Below w6.heap.size w6 w10) := (HB8.out.trans hb9).trans hb10
                      have HEn : Hid (bs ++ ([32, 32] ++ p.data.toList) ++ [44] ++ [10] = h0.data.toList ++ rout Q x (j + 1) ∧ (bs ++ ([32, 32] ++ p.data.toList) ++ [44] ++ [10]).length ≤ 200 + (j + 1) * 200300) := by
                        obtain ⟨hq, rfl⟩ := HPq.out
                        refine ⟨by rw [rout_step hq, HE.out.1]; simp only [List.append_assoc], ?_⟩
                        rw [List.length_append, List.length_append, hl8]
                        simp
                        omega
                      clear h9 hb9 h10 hb10 HM8 HB8
                      go_wp2_with fail
                      go_roundw
                      case rel => exact ⟨j + 1, _, hj1, by go_num, HMn, HEn, HBn⟩
                      case measure => simp [intOf]; omega
                    · have hj3 : j = n := by omega
                      subst hj3
                      have hpx : p = x := by
                        have h := HQn.out
                        rw [List.getElem?_append_right (by omega)] at hp
                        have e : j - Q.length = 0 := by omega
                        rw [e] at hp
                        exact (Option.some.inj hp).symm
                      subst hpx
                      go_wp2_with (first | (at_builtin; go_loud (refine wpList_appM1 w8 rfl (.tmp 163) (.tmp 164) rfl w6.heap.size v8 _ (by rfl) HM8.out 10 10 rfl (by first | rfl | simp) (by omega) hsz8 ?_); intro v10 w10 h10 hb10))
                      have HMn : Hid (OwnM w10 w6.heap.size v10 (bs ++ ([32, 32] ++ p.data.toList) ++ [10])) := h10
                      have HBn : Hid (Below w6.heap.size w6 w10) := HB8.out.trans hb10
                      have HEn : Hid (bs ++ ([32, 32] ++ p.data.toList) ++ [10] = h0.data.toList ++ rout Q p (j + 1) ∧ (bs ++ ([32, 32] ++ p.data.toList) ++ [10]).length ≤ 200 + (j + 1) * 200300) := by
                        refine ⟨?_, ?_⟩
                        · have h := HE.out.1
                          rw [← HQn.out] at h ⊢
                          rw [rout_last, h]
                          simp only [List.append_assoc]
                        · rw [List.length_append, hl8]
                          simp
                          omega
                      clear h10 hb10 HM8 HB8
                      go_wp2_with fail
                      go_roundw
                      case rel => exact ⟨j + 1, _, hj1, by go_num, HMn, HEn, HBn⟩
                      case measure => simp [intOf]
              · have hj31 : j3 < t.rf.length := by omega
                obtain ⟨b, o, rfl, hbB, ⟨q, c, x0, hRx⟩, x1⟩ := HV.out.rf j3 hj31
                have hxm : t.rf[j3] ∈ t.rf := List.getElem_mem hj31
                have hxs := HT.out.rs _ hxm
                have HM : Hid ((t.cs.map (colS D) ++ [pkS t] ++ t.ix.map (ixS t)) ++ (t.rf.take (j3 + 1)).map (rfS t) = (t.cs.map (colS D) ++ [pkS t] ++ t.ix.map (ixS t)) ++ (t.rf.take j3).map (rfS t) ++ [rfS t t.rf[j3]]) := takeC t.rf (rfS t) j3 hj31 _
                obtain ⟨xl, hxl⟩ : ∃ xl, t.rf[j3] = xl := ⟨_, rfl⟩
                rw [hxl] at x0 x1 hRx hxs HM
                clear hxl hxm
                obtain ⟨cs, tb⟩ := xl
                dsimp only at x0 x1 hRx hxs
                have HX : Hid (b < w.heap.size ∧ w.cell? ⟨b, o + j3 * 2, none⟩ = some (.slice q cs.length c) ∧ w.cell? ⟨b, o + j3 * 2 + 1, none⟩ = some (.string tb)) := ⟨hbB, x0, x1⟩
                have HRx : Hid (RowI w w.heap.size q cs) := hRx
                have HL : Hid ((∀ y ∈ cs, 0 ≤ y ∧ y < t.cs.length) ∧ cs.length ≤ 64) := hxs.2
                have hls := lstS_size HT.out hxs.2.2
                have htb := hxs.1
                unfold rfS at HM
                dsimp only at HM
                obtain ⟨r, hr⟩ : ∃ r, lstS t cs = r := ⟨_, rfl⟩
                have HM' : Hid ((t.cs.map (colS D) ++ [pkS t] ++ t.ix.map (ixS t)) ++ (t.rf.take (j3 + 1)).map (rfS t) = (t.cs.map (colS D) ++ [pkS t] ++ t.ix.map (ixS t)) ++ (t.rf.take j3).map (rfS t) ++ [((⟨#[102, 111, 114, 101, 105, 103, 110, 32, 107, 101, 121, 32]⟩ : ByteArray) ++ r ++ ⟨#[32, 114, 101, 102, 101, 114, 101, 110, 99, 101, 115, 32]⟩ ++ tb)]) := by rw [← hr]; exact HM.out
                rw [hr] at hls
                have hs1 : ¬ 9223372036854775807 < 12 + r.size := by omega
                have hs2 : ¬ 9223372036854775807 < 12 + r.size + 12 := by omega
                have hs3 : ¬ 9223372036854775807 < 12 + r.size + 12 + tb.size := by omega
                clear HM hls htb hxs hRx hbB x0 x1
                have hlk : ((t.cs.map (colS D) ++ [pkS t] ++ t.ix.map (ixS t)) ++ (t.rf.take j3).map (rfS t)).length + 1 ≤ 8796093022208 := by
                  have := HLn.out
                  rw [List.length_append, List.length_append, List.length_append, List.length_map, List.length_map, List.length_map, List.length_take, List.length_singleton]
                  omega
                go_upto_region 27 with fail
                clear e4
                refine wp_region_L (fun w9 => BoxT w9 w.heap.size t ⟨pc, cc, pk, ck, px, cx, some ⟨b, o, none⟩, cr⟩ ∧ Below w.heap.size w w9) 21 (by kernel_rfl) ?_
                have HXd : Hid (BoxT wr.drew w.heap.size t ⟨pc, cc, pk, ck, px, cx, some ⟨b, o, none⟩, cr⟩ ∧ Below w.heap.size w wr.drew) := ⟨HBr.out.on ((Below.refl _ _).drew) HBr.out.hg, HBw.out.trans (((Below.refl wr.heap.size _).drew).mono HBw.out.size)⟩
                have HOd : Hid (OwnS wr.drew (w.heap.size + 1) u5 ((t.cs.map (colS D) ++ [pkS t] ++ t.ix.map (ixS t)) ++ (t.rf.take j3).map (rfS t))) := HO.out.kept ((Below.refl _ _).drew)
                clear HBr HBw HO
                generalize wr.drew = wd at *
                refine wpL_take (v := ?_) 0 rfl (by kernel_rfl) (fun _ _ _ h => h) (by rfl) ?_ HXd.out ?_
                rotate_left
                focus
                  intro w9 hw9
                  obtain ⟨⟨_, c0, c1, c2, c3, c4⟩, hb9⟩ := hw9
                  dsimp only at c1 c2 c3 c4
                  have y0 := (hb9.cell (p := ⟨b, o + j3 * 2, none⟩) HX.out.1).trans HX.out.2.1
                  have y1 := (hb9.cell (p := ⟨b, o + j3 * 2 + 1, none⟩) HX.out.1).trans HX.out.2.2
                  go_simp
                  try with_reducible rfl
                try simp only [Act.put, List.setIfInBounds_toArray, List.set_cons_zero, List.set_cons_succ]
                refine wpL_take (v := ?_) 1 rfl (by kernel_rfl) (fun _ _ _ h => h) (by rfl) ?_ HXd.out ?_
                rotate_left
                focus
                  intro w9 hw9
                  obtain ⟨⟨_, c0, c1, c2, c3, c4⟩, hb9⟩ := hw9
                  dsimp only at c1 c2 c3 c4
                  have y0 := (hb9.cell (p := ⟨b, o + j3 * 2, none⟩) HX.out.1).trans HX.out.2.1
                  have y1 := (hb9.cell (p := ⟨b, o + j3 * 2 + 1, none⟩) HX.out.1).trans HX.out.2.2
                  go_simp
                  try with_reducible rfl
                try simp only [Act.put, List.setIfInBounds_toArray, List.set_cons_zero, List.set_cons_succ]
                refine wpL_take (v := ?_) 2 rfl (by kernel_rfl) (fun _ _ _ h => h) (by rfl) ?_ HXd.out ?_
                rotate_left
                focus
                  intro w9 hw9
                  obtain ⟨⟨_, c0, c1, c2, c3, c4⟩, hb9⟩ := hw9
                  dsimp only at c1 c2 c3 c4
                  have y0 := (hb9.cell (p := ⟨b, o + j3 * 2, none⟩) HX.out.1).trans HX.out.2.1
                  have y1 := (hb9.cell (p := ⟨b, o + j3 * 2 + 1, none⟩) HX.out.1).trans HX.out.2.2
                  go_simp
                  try with_reducible rfl
                try simp only [Act.put, List.setIfInBounds_toArray, List.set_cons_zero, List.set_cons_succ]
                refine wpL_take (v := ?_) 3 rfl (by kernel_rfl) (fun _ _ _ h => h) (by rfl) ?_ HXd.out ?_
                rotate_left
                focus
                  intro w9 hw9
                  obtain ⟨⟨_, c0, c1, c2, c3, c4⟩, hb9⟩ := hw9
                  dsimp only at c1 c2 c3 c4
                  have y0 := (hb9.cell (p := ⟨b, o + j3 * 2, none⟩) HX.out.1).trans HX.out.2.1
                  have y1 := (hb9.cell (p := ⟨b, o + j3 * 2 + 1, none⟩) HX.out.1).trans HX.out.2.2
                  go_simp
                  try with_reducible rfl
                try simp only [Act.put, List.setIfInBounds_toArray, List.set_cons_zero, List.set_cons_succ]
                refine wpL_take (v := ?_) 4 rfl (by kernel_rfl) (fun _ _ _ h => h) (by rfl) ?_ HXd.out ?_
                rotate_left
                focus
                  intro w9 hw9
                  obtain ⟨⟨_, c0, c1, c2, c3, c4⟩, hb9⟩ := hw9
                  dsimp only at c1 c2 c3 c4
                  have y0 := (hb9.cell (p := ⟨b, o + j3 * 2, none⟩) HX.out.1).trans HX.out.2.1
                  have y1 := (hb9.cell (p := ⟨b, o + j3 * 2 + 1, none⟩) HX.out.1).trans HX.out.2.2
                  go_simp
                  try with_reducible rfl
                try simp only [Act.put, List.setIfInBounds_toArray, List.set_cons_zero, List.set_cons_succ]
                refine wpL_take (v := ?_) 5 rfl (by kernel_rfl) (fun _ _ _ h => h) (by rfl) ?_ HXd.out ?_
                rotate_left
                focus
                  intro w9 hw9
                  obtain ⟨⟨_, c0, c1, c2, c3, c4⟩, hb9⟩ := hw9
                  dsimp only at c1 c2 c3 c4
                  have y0 := (hb9.cell (p := ⟨b, o + j3 * 2, none⟩) HX.out.1).trans HX.out.2.1
                  have y1 := (hb9.cell (p := ⟨b, o + j3 * 2 + 1, none⟩) HX.out.1).trans HX.out.2.2
                  go_simp
                  try with_reducible rfl
                try simp only [Act.put, List.setIfInBounds_toArray, List.set_cons_zero, List.set_cons_succ]
                refine wpL_take (v := ?_) 6 rfl (by kernel_rfl) (fun _ _ _ h => h) (by rfl) ?_ HXd.out ?_
                rotate_left
                focus
                  intro w9 hw9
                  obtain ⟨⟨_, c0, c1, c2, c3, c4⟩, hb9⟩ := hw9
                  dsimp only at c1 c2 c3 c4
                  have y0 := (hb9.cell (p := ⟨b, o + j3 * 2, none⟩) HX.out.1).trans HX.out.2.1
                  have y1 := (hb9.cell (p := ⟨b, o + j3 * 2 + 1, none⟩) HX.out.1).trans HX.out.2.2
                  go_simp
                  try with_reducible rfl
                try simp only [Act.put, List.setIfInBounds_toArray, List.set_cons_zero, List.set_cons_succ]
                refine wpL_take (v := ?_) 7 rfl (by kernel_rfl) (fun _ _ _ h => h) (by rfl) ?_ HXd.out ?_
                rotate_left
                focus
                  intro w9 hw9
                  obtain ⟨⟨_, c0, c1, c2, c3, c4⟩, hb9⟩ := hw9
                  dsimp only at c1 c2 c3 c4
                  have y0 := (hb9.cell (p := ⟨b, o + j3 * 2, none⟩) HX.out.1).trans HX.out.2.1
                  have y1 := (hb9.cell (p := ⟨b, o + j3 * 2 + 1, none⟩) HX.out.1).trans HX.out.2.2
                  go_simp
                  try with_reducible rfl
                try simp only [Act.put, List.setIfInBounds_toArray, List.set_cons_zero, List.set_cons_succ]
                refine wpL_take (v := ?_) 11 rfl (by kernel_rfl) (fun _ _ _ h => h) (by rfl) ?_ HXd.out ?_
                rotate_left
                focus
                  intro w9 hw9
                  obtain ⟨⟨_, c0, c1, c2, c3, c4⟩, hb9⟩ := hw9
                  dsimp only at c1 c2 c3 c4
                  have y0 := (hb9.cell (p := ⟨b, o + j3 * 2, none⟩) HX.out.1).trans HX.out.2.1
                  have y1 := (hb9.cell (p := ⟨b, o + j3 * 2 + 1, none⟩) HX.out.1).trans HX.out.2.2
                  go_simp
                  try with_reducible rfl
                try simp only [Act.put, List.setIfInBounds_toArray, List.set_cons_zero, List.set_cons_succ]
                refine wpL_take (v := ?_) 12 rfl (by kernel_rfl) (fun _ _ _ h => h) (by rfl) ?_ HXd.out ?_
                rotate_left
                focus
                  intro w9 hw9
                  obtain ⟨⟨_, c0, c1, c2, c3, c4⟩, hb9⟩ := hw9
                  dsimp only at c1 c2 c3 c4
                  have y0 := (hb9.cell (p := ⟨b, o + j3 * 2, none⟩) HX.out.1).trans HX.out.2.1
                  have y1 := (hb9.cell (p := ⟨b, o + j3 * 2 + 1, none⟩) HX.out.1).trans HX.out.2.2
                  go_simp
                  try with_reducible rfl
                try simp only [Act.put, List.setIfInBounds_toArray, List.set_cons_zero, List.set_cons_succ]
                refine wpL_take (v := ?_) 13 rfl (by kernel_rfl) (fun _ _ _ h => h) (by rfl) ?_ HXd.out ?_
                rotate_left
                focus
                  intro w9 hw9
                  obtain ⟨⟨_, c0, c1, c2, c3, c4⟩, hb9⟩ := hw9
                  dsimp only at c1 c2 c3 c4
                  have y0 := (hb9.cell (p := ⟨b, o + j3 * 2, none⟩) HX.out.1).trans HX.out.2.1
                  have y1 := (hb9.cell (p := ⟨b, o + j3 * 2 + 1, none⟩) HX.out.1).trans HX.out.2.2
                  go_simp
                  try with_reducible rfl
                try simp only [Act.put, List.setIfInBounds_toArray, List.set_cons_zero, List.set_cons_succ]
                refine wpL_take (v := ?_) 14 rfl (by kernel_rfl) (fun _ _ _ h => h) (by rfl) ?_ HXd.out ?_
                rotate_left
                focus
                  intro w9 hw9
                  obtain ⟨⟨_, c0, c1, c2, c3, c4⟩, hb9⟩ := hw9
                  dsimp only at c1 c2 c3 c4
                  have y0 := (hb9.cell (p := ⟨b, o + j3 * 2, none⟩) HX.out.1).trans HX.out.2.1
                  have y1 := (hb9.cell (p := ⟨b, o + j3 * 2 + 1, none⟩) HX.out.1).trans HX.out.2.2
                  go_simp
                  try with_reducible rfl
                try simp only [Act.put, List.setIfInBounds_toArray, List.set_cons_zero, List.set_cons_succ]
                refine wpL_take (v := ?_) 15 rfl (by kernel_rfl) (fun _ _ _ h => h) (by rfl) ?_ HXd.out ?_
                rotate_left
                focus
                  intro w9 hw9
                  obtain ⟨⟨_, c0, c1, c2, c3, c4⟩, hb9⟩ := hw9
                  dsimp only at c1 c2 c3 c4
                  have y0 := (hb9.cell (p := ⟨b, o + j3 * 2, none⟩) HX.out.1).trans HX.out.2.1
                  have y1 := (hb9.cell (p := ⟨b, o + j3 * 2 + 1, none⟩) HX.out.1).trans HX.out.2.2
                  go_simp
                  try with_reducible rfl
                try simp only [Act.put, List.setIfInBounds_toArray, List.set_cons_zero, List.set_cons_succ]
                refine wpL_take (v := ?_) 16 rfl (by kernel_rfl) (fun _ _ _ h => h) (by rfl) ?_ HXd.out ?_
                rotate_left
                focus
                  intro w9 hw9
                  obtain ⟨⟨_, c0, c1, c2, c3, c4⟩, hb9⟩ := hw9
                  dsimp only at c1 c2 c3 c4
                  have y0 := (hb9.cell (p := ⟨b, o + j3 * 2, none⟩) HX.out.1).trans HX.out.2.1
                  have y1 := (hb9.cell (p := ⟨b, o + j3 * 2 + 1, none⟩) HX.out.1).trans HX.out.2.2
                  go_simp
                  try with_reducible rfl
                try simp only [Act.put, List.setIfInBounds_toArray, List.set_cons_zero, List.set_cons_succ]
                refine wpL_one 8 rfl (by kernel_rfl) (by rfl) ?_
                intro K2 hK2
                go_simp
                refine (rlist_any t ⟨pc, cc, pk, ck, px, cx, some ⟨b, o, none⟩, cr⟩ cs q c wd (HV.out.on HXd.out.2) HT.out (HRx.out.on HXd.out.2) HL.out).mono ?_
                rintro e w3 ⟨rfl, hb⟩
                have HX3 : Hid (BoxT w3 w.heap.size t ⟨pc, cc, pk, ck, px, cx, some ⟨b, o, none⟩, cr⟩ ∧ Below w.heap.size w w3) := ⟨HXd.out.1.on hb HXd.out.1.hg, HXd.out.2.trans (hb.mono HXd.out.2.size)⟩
                have HO3 : Hid (OwnS w3 (w.heap.size + 1) u5 ((t.cs.map (colS D) ++ [pkS t] ++ t.ix.map (ixS t)) ++ (t.rf.take j3).map (rfS t))) := HOd.out.kept hb
                clear hb HXd HOd
                rw [hr]
                dsimp only
                refine hK2.out _ _ (fun _ => HX3.out) ?_
                clear hK2 K2
                try simp only [Act.put, List.setIfInBounds_toArray, List.set_cons_zero, List.set_cons_succ]
                refine wpL_take (v := ?_) 9 rfl (by kernel_rfl) (fun _ _ _ h => h) (by rfl) ?_ HX3.out ?_
                rotate_left
                focus
                  intro w9 hw9
                  go_simp
                  try with_reducible rfl
                try simp only [Act.put, List.setIfInBounds_toArray, List.set_cons_zero, List.set_cons_succ]
                refine wpL_take (v := ?_) 10 rfl (by kernel_rfl) (fun _ _ _ h => h) (by rfl) ?_ HX3.out ?_
                rotate_left
                focus
                  intro w9 hw9
                  go_simp
                  try with_reducible rfl
                try simp only [Act.put, List.setIfInBounds_toArray, List.set_cons_zero, List.set_cons_succ]
                refine wpL_take (v := ?_) 17 rfl (by kernel_rfl) (fun _ _ _ h => h) (by rfl) ?_ HX3.out ?_
                rotate_left
                focus
                  intro w9 hw9
                  go_simp
                  try with_reducible rfl
                try simp only [Act.put, List.setIfInBounds_toArray, List.set_cons_zero, List.set_cons_succ]
                refine wpL_one 18 rfl (by kernel_rfl) (by rfl) ?_
                intro K2 hK2
                go_simp
                have hal : Below w3.heap.size w3 (w3.alloc (.cells #[.string ((⟨#[102, 111, 114, 101, 105, 103, 110, 32, 107, 101, 121, 32]⟩ : ByteArray) ++ r ++ ⟨#[32, 114, 101, 102, 101, 114, 101, 110, 99, 101, 115, 32]⟩ ++ tb)] 9)) := (Below.refl _ _).alloc (Nat.le_refl _) _
                have HX4 : Hid (BoxT (w3.alloc (.cells #[.string ((⟨#[102, 111, 114, 101, 105, 103, 110, 32, 107, 101, 121, 32]⟩ : ByteArray) ++ r ++ ⟨#[32, 114, 101, 102, 101, 114, 101, 110, 99, 101, 115, 32]⟩ ++ tb)] 9)) w.heap.size t ⟨pc, cc, pk, ck, px, cx, some ⟨b, o, none⟩, cr⟩ ∧ Below w.heap.size w (w3.alloc (.cells #[.string ((⟨#[102, 111, 114, 101, 105, 103, 110, 32, 107, 101, 121, 32]⟩ : ByteArray) ++ r ++ ⟨#[32, 114, 101, 102, 101, 114, 101, 110, 99, 101, 115, 32]⟩ ++ tb)] 9))) := ⟨HX3.out.1.on hal HX3.out.1.hg, HX3.out.2.trans (hal.mono HX3.out.2.size)⟩
                have HO4 : Hid (OwnS (w3.alloc (.cells #[.string ((⟨#[102, 111, 114, 101, 105, 103, 110, 32, 107, 101, 121, 32]⟩ : ByteArray) ++ r ++ ⟨#[32, 114, 101, 102, 101, 114, 101, 110, 99, 101, 115, 32]⟩ ++ tb)] 9)) (w.heap.size + 1) u5 ((t.cs.map (colS D) ++ [pkS t] ++ t.ix.map (ixS t)) ++ (t.rf.take j3).map (rfS t))) := HO3.out.kept hal
                have HG4 : Hid ((w3.alloc (.cells #[.string ((⟨#[102, 111, 114, 101, 105, 103, 110, 32, 107, 101, 121, 32]⟩ : ByteArray) ++ r ++ ⟨#[32, 114, 101, 102, 101, 114, 101, 110, 99, 101, 115, 32]⟩ ++ tb)] 9)).cell? ⟨w3.heap.size, 0, none⟩ = some (.string ((⟨#[102, 111, 114, 101, 105, 103, 110, 32, 107, 101, 121, 32]⟩ : ByteArray) ++ r ++ ⟨#[32, 114, 101, 102, 101, 114, 101, 110, 99, 101, 115, 32]⟩ ++ tb))) := (Blk.new w3 _ _).cell (i := 0) rfl
                clear hal HX3 HO3
                refine hK2.out _ _ (fun _ => HX4.out) ?_
                clear hK2 K2
                try simp only [Act.put, List.setIfInBounds_toArray, List.set_cons_zero, List.set_cons_succ]
                generalize (w3.alloc (.cells #[.string ((⟨#[102, 111, 114, 101, 105, 103, 110, 32, 107, 101, 121, 32]⟩ : ByteArray) ++ r ++ ⟨#[32, 114, 101, 102, 101, 114, 101, 110, 99, 101, 115, 32]⟩ ++ tb)] 9)) = w4 at *
                generalize w3.heap.size = gz at *
                refine wpL_one 19 rfl (by kernel_rfl) (by rfl) ?_
                intro K2 hK2
                refine wp_appS1 w4 (.tmp 117) (.tmp 135) rfl (w.heap.size + 1) u5 _ (by rfl) HO4.out ((⟨#[102, 111, 114, 101, 105, 103, 110, 32, 107, 101, 121, 32]⟩ : ByteArray) ++ r ++ ⟨#[32, 114, 101, 102, 101, 114, 101, 110, 99, 101, 115, 32]⟩ ++ tb) gz (by rfl) HG4.out hlk (by have := HX4.out.1.hg; omega) ?_
                intro v5 w5 h5 hb5 _
                have HO6 : Hid (OwnS w5 (w.heap.size + 1) v5 ((t.cs.map (colS D) ++ [pkS t] ++ t.ix.map (ixS t)) ++ (t.rf.take (j3 + 1)).map (rfS t))) := by rw [HM'.out]; exact h5
                have HX6 : Hid (BoxT w5 w.heap.size t ⟨pc, cc, pk, ck, px, cx, some ⟨b, o, none⟩, cr⟩ ∧ Below w.heap.size w w5) := ⟨HX4.out.1.on hb5 (by omega), HX4.out.2.trans (hb5.mono (by omega))⟩
                clear h5 hb5 HO4 HX4 HG4
                refine hK2.out _ _ (fun _ => HX6.out) ?_
                clear hK2 K2
                try simp only [Act.put, List.setIfInBounds_toArray, List.set_cons_zero, List.set_cons_succ]
                refine wpL_take (v := ?_) 20 rfl (by kernel_rfl) (fun _ _ _ h => h) (by rfl) ?_ HX6.out ?_
                rotate_left
                focus
                  intro w9 hw9
                  go_simp
                  try with_reducible rfl
                try simp only [Act.put, List.setIfInBounds_toArray, List.set_cons_zero, List.set_cons_succ]
                refine wpL_done (by kernel_rfl) ?_ _
                try simp only [NoPanic]
                clear hlk HM' hr hs1 hs2 hs3 HRx HL HX
                obtain ⟨hbd1, hbd2, hbd3⟩ := HLn.out
                go_wp2_with fail
                go_roundw
                case rel => exact ⟨j3 + 1, hj31, by go_num, HO6, HX6.out.1, HX6.out.2⟩
                case measure => simp [intOf]; omega
          · have hj21 : j2 < t.ix.length := by omega
            obtain ⟨b, o, rfl, hbB, x0, ⟨q, c, x1, hRx⟩, x2⟩ := HV.out.ix j2 hj21
            have hxm : t.ix[j2] ∈ t.ix := List.getElem_mem hj21
            have hxs := HT.out.xs _ hxm
            have HM : Hid ((t.cs.map (colS D) ++ [pkS t]) ++ (t.ix.take (j2 + 1)).map (ixS t) = (t.cs.map (colS D) ++ [pkS t]) ++ (t.ix.take j2).map (ixS t) ++ [ixS t t.ix[j2]]) := takeC t.ix (ixS t) j2 hj21 _
            obtain ⟨xl, hxl⟩ : ∃ xl, t.ix[j2] = xl := ⟨_, rfl⟩
            rw [hxl] at x0 x1 x2 hxs HM hRx
            clear hxl hxm
            obtain ⟨nm, cs, un⟩ := xl
            dsimp only at x0 x1 x2 hxs hRx
            have HX : Hid (b < w.heap.size ∧ w.cell? ⟨b, o + j2 * 3, none⟩ = some (.string nm) ∧ w.cell? ⟨b, o + j2 * 3 + 1, none⟩ = some (.slice q cs.length c) ∧ w.cell? ⟨b, o + j2 * 3 + 2, none⟩ = some (.bool un)) := ⟨hbB, x0, x1, x2⟩
            have HRx : Hid (RowI w w.heap.size q cs) := hRx
            have HL : Hid ((∀ y ∈ cs, 0 ≤ y ∧ y < t.cs.length) ∧ cs.length ≤ 64) := hxs.2
            have hls := lstS_size HT.out hxs.2.2
            have hnm := hxs.1
            obtain ⟨r, hr⟩ : ∃ r, lstS t cs = r := ⟨_, rfl⟩
            have HRr : Hid (lstS t cs = r) := hr
            rw [hr] at hls
            clear hr hbB x0 x1 x2 hRx hxs
            have hs1 : ¬ 9223372036854775807 < 6 + nm.size := by omega
            have hs2 : ¬ 9223372036854775807 < 6 + nm.size + 1 := by omega
            have hs3 : ¬ 9223372036854775807 < 6 + nm.size + 1 + r.size := by omega
            have hs4 : ¬ 9223372036854775807 < 7 + (6 + nm.size + 1 + r.size) := by omega
            clear hls hnm
            have hlk : ((t.cs.map (colS D) ++ [pkS t]) ++ (t.ix.take j2).map (ixS t)).length + 1 ≤ 8796093022208 := by
              have := HLn.out
              rw [List.length_append, List.length_append, List.length_map, List.length_map, List.length_take, List.length_singleton]
              omega
            go_upto_region 20 with fail
            clear e3
            refine wp_region_L (fun w9 => BoxT w9 w.heap.size t ⟨pc, cc, pk, ck, some ⟨b, o, none⟩, cx, pr, cr⟩ ∧ Below w.heap.size w w9) 18 (by kernel_rfl) ?_
            have HXd : Hid (BoxT wr.drew w.heap.size t ⟨pc, cc, pk, ck, some ⟨b, o, none⟩, cx, pr, cr⟩ ∧ Below w.heap.size w wr.drew) := ⟨HBr.out.on ((Below.refl _ _).drew) HBr.out.hg, HBw.out.trans (((Below.refl wr.heap.size _).drew).mono HBw.out.size)⟩
            have HOd : Hid (OwnS wr.drew (w.heap.size + 1) u5 ((t.cs.map (colS D) ++ [pkS t]) ++ (t.ix.take j2).map (ixS t))) := HO.out.kept ((Below.refl _ _).drew)
            clear HBr HBw HO
            generalize wr.drew = wd at *
            refine wpL_take (v := ?_) 0 rfl (by kernel_rfl) (fun _ _ _ h => h) (by rfl) ?_ HXd.out ?_
            rotate_left
            focus
              intro w9 hw9
              obtain ⟨⟨_, c0, c1, c2, c3, c4⟩, hb9⟩ := hw9
              dsimp only at c1 c2 c3 c4
              have y0 := (hb9.cell (p := ⟨b, o + j2 * 3, none⟩) HX.out.1).trans HX.out.2.1
              have y1 := (hb9.cell (p := ⟨b, o + j2 * 3 + 1, none⟩) HX.out.1).trans HX.out.2.2.1
              go_simp
              try with_reducible rfl
            try simp only [Act.put, List.setIfInBounds_toArray, List.set_cons_zero, List.set_cons_succ]
            refine wpL_take (v := ?_) 1 rfl (by kernel_rfl) (fun _ _ _ h => h) (by rfl) ?_ HXd.out ?_
            rotate_left
            focus
              intro w9 hw9
              obtain ⟨⟨_, c0, c1, c2, c3, c4⟩, hb9⟩ := hw9
              dsimp only at c1 c2 c3 c4
              have y0 := (hb9.cell (p := ⟨b, o + j2 * 3, none⟩) HX.out.1).trans HX.out.2.1
              have y1 := (hb9.cell (p := ⟨b, o + j2 * 3 + 1, none⟩) HX.out.1).trans HX.out.2.2.1
              go_simp
              try with_reducible rfl
            try simp only [Act.put, List.setIfInBounds_toArray, List.set_cons_zero, List.set_cons_succ]
            refine wpL_take (v := ?_) 2 rfl (by kernel_rfl) (fun _ _ _ h => h) (by rfl) ?_ HXd.out ?_
            rotate_left
            focus
              intro w9 hw9
              obtain ⟨⟨_, c0, c1, c2, c3, c4⟩, hb9⟩ := hw9
              dsimp only at c1 c2 c3 c4
              have y0 := (hb9.cell (p := ⟨b, o + j2 * 3, none⟩) HX.out.1).trans HX.out.2.1
              have y1 := (hb9.cell (p := ⟨b, o + j2 * 3 + 1, none⟩) HX.out.1).trans HX.out.2.2.1
              go_simp
              try with_reducible rfl
            try simp only [Act.put, List.setIfInBounds_toArray, List.set_cons_zero, List.set_cons_succ]
            refine wpL_take (v := ?_) 3 rfl (by kernel_rfl) (fun _ _ _ h => h) (by rfl) ?_ HXd.out ?_
            rotate_left
            focus
              intro w9 hw9
              obtain ⟨⟨_, c0, c1, c2, c3, c4⟩, hb9⟩ := hw9
              dsimp only at c1 c2 c3 c4
              have y0 := (hb9.cell (p := ⟨b, o + j2 * 3, none⟩) HX.out.1).trans HX.out.2.1
              have y1 := (hb9.cell (p := ⟨b, o + j2 * 3 + 1, none⟩) HX.out.1).trans HX.out.2.2.1
              go_simp
              try with_reducible rfl
            try simp only [Act.put, List.setIfInBounds_toArray, List.set_cons_zero, List.set_cons_succ]
            refine wpL_take (v := ?_) 4 rfl (by kernel_rfl) (fun _ _ _ h => h) (by rfl) ?_ HXd.out ?_
            rotate_left
            focus
              intro w9 hw9
              obtain ⟨⟨_, c0, c1, c2, c3, c4⟩, hb9⟩ := hw9
              dsimp only at c1 c2 c3 c4
              have y0 := (hb9.cell (p := ⟨b, o + j2 * 3, none⟩) HX.out.1).trans HX.out.2.1
              have y1 := (hb9.cell (p := ⟨b, o + j2 * 3 + 1, none⟩) HX.out.1).trans HX.out.2.2.1
              go_simp
              try with_reducible rfl
            try simp only [Act.put, List.setIfInBounds_toArray, List.set_cons_zero, List.set_cons_succ]
            refine wpL_take (v := ?_) 5 rfl (by kernel_rfl) (fun _ _ _ h => h) (by rfl) ?_ HXd.out ?_
            rotate_left
            focus
              intro w9 hw9
              obtain ⟨⟨_, c0, c1, c2, c3, c4⟩, hb9⟩ := hw9
              dsimp only at c1 c2 c3 c4
              have y0 := (hb9.cell (p := ⟨b, o + j2 * 3, none⟩) HX.out.1).trans HX.out.2.1
              have y1 := (hb9.cell (p := ⟨b, o + j2 * 3 + 1, none⟩) HX.out.1).trans HX.out.2.2.1
              go_simp
              try with_reducible rfl
            try simp only [Act.put, List.setIfInBounds_toArray, List.set_cons_zero, List.set_cons_succ]
            refine wpL_take (v := ?_) 6 rfl (by kernel_rfl) (fun _ _ _ h => h) (by rfl) ?_ HXd.out ?_
            rotate_left
            focus
              intro w9 hw9
              obtain ⟨⟨_, c0, c1, c2, c3, c4⟩, hb9⟩ := hw9
              dsimp only at c1 c2 c3 c4
              have y0 := (hb9.cell (p := ⟨b, o + j2 * 3, none⟩) HX.out.1).trans HX.out.2.1
              have y1 := (hb9.cell (p := ⟨b, o + j2 * 3 + 1, none⟩) HX.out.1).trans HX.out.2.2.1
              go_simp
              try with_reducible rfl
            try simp only [Act.put, List.setIfInBounds_toArray, List.set_cons_zero, List.set_cons_succ]
            refine wpL_take (v := ?_) 7 rfl (by kernel_rfl) (fun _ _ _ h => h) (by rfl) ?_ HXd.out ?_
            rotate_left
            focus
              intro w9 hw9
              obtain ⟨⟨_, c0, c1, c2, c3, c4⟩, hb9⟩ := hw9
              dsimp only at c1 c2 c3 c4
              have y0 := (hb9.cell (p := ⟨b, o + j2 * 3, none⟩) HX.out.1).trans HX.out.2.1
              have y1 := (hb9.cell (p := ⟨b, o + j2 * 3 + 1, none⟩) HX.out.1).trans HX.out.2.2.1
              go_simp
              try with_reducible rfl
            try simp only [Act.put, List.setIfInBounds_toArray, List.set_cons_zero, List.set_cons_succ]
            refine wpL_take (v := ?_) 8 rfl (by kernel_rfl) (fun _ _ _ h => h) (by rfl) ?_ HXd.out ?_
            rotate_left
            focus
              intro w9 hw9
              obtain ⟨⟨_, c0, c1, c2, c3, c4⟩, hb9⟩ := hw9
              dsimp only at c1 c2 c3 c4
              have y0 := (hb9.cell (p := ⟨b, o + j2 * 3, none⟩) HX.out.1).trans HX.out.2.1
              have y1 := (hb9.cell (p := ⟨b, o + j2 * 3 + 1, none⟩) HX.out.1).trans HX.out.2.2.1
              go_simp
              try with_reducible rfl
            try simp only [Act.put, List.setIfInBounds_toArray, List.set_cons_zero, List.set_cons_succ]
            refine wpL_take (v := ?_) 9 rfl (by kernel_rfl) (fun _ _ _ h => h) (by rfl) ?_ HXd.out ?_
            rotate_left
            focus
              intro w9 hw9
              obtain ⟨⟨_, c0, c1, c2, c3, c4⟩, hb9⟩ := hw9
              dsimp only at c1 c2 c3 c4
              have y0 := (hb9.cell (p := ⟨b, o + j2 * 3, none⟩) HX.out.1).trans HX.out.2.1
              have y1 := (hb9.cell (p := ⟨b, o + j2 * 3 + 1, none⟩) HX.out.1).trans HX.out.2.2.1
              go_simp
              try with_reducible rfl
            try simp only [Act.put, List.setIfInBounds_toArray, List.set_cons_zero, List.set_cons_succ]
            refine wpL_take (v := ?_) 10 rfl (by kernel_rfl) (fun _ _ _ h => h) (by rfl) ?_ HXd.out ?_
            rotate_left
            focus
              intro w9 hw9
              obtain ⟨⟨_, c0, c1, c2, c3, c4⟩, hb9⟩ := hw9
              dsimp only at c1 c2 c3 c4
              have y0 := (hb9.cell (p := ⟨b, o + j2 * 3, none⟩) HX.out.1).trans HX.out.2.1
              have y1 := (hb9.cell (p := ⟨b, o + j2 * 3 + 1, none⟩) HX.out.1).trans HX.out.2.2.1
              go_simp
              try with_reducible rfl
            try simp only [Act.put, List.setIfInBounds_toArray, List.set_cons_zero, List.set_cons_succ]
            refine wpL_take (v := ?_) 11 rfl (by kernel_rfl) (fun _ _ _ h => h) (by rfl) ?_ HXd.out ?_
            rotate_left
            focus
              intro w9 hw9
              obtain ⟨⟨_, c0, c1, c2, c3, c4⟩, hb9⟩ := hw9
              dsimp only at c1 c2 c3 c4
              have y0 := (hb9.cell (p := ⟨b, o + j2 * 3, none⟩) HX.out.1).trans HX.out.2.1
              have y1 := (hb9.cell (p := ⟨b, o + j2 * 3 + 1, none⟩) HX.out.1).trans HX.out.2.2.1
              go_simp
              try with_reducible rfl
            try simp only [Act.put, List.setIfInBounds_toArray, List.set_cons_zero, List.set_cons_succ]
            refine wpL_take (v := ?_) 12 rfl (by kernel_rfl) (fun _ _ _ h => h) (by rfl) ?_ HXd.out ?_
            rotate_left
            focus
              intro w9 hw9
              obtain ⟨⟨_, c0, c1, c2, c3, c4⟩, hb9⟩ := hw9
              dsimp only at c1 c2 c3 c4
              have y0 := (hb9.cell (p := ⟨b, o + j2 * 3, none⟩) HX.out.1).trans HX.out.2.1
              have y1 := (hb9.cell (p := ⟨b, o + j2 * 3 + 1, none⟩) HX.out.1).trans HX.out.2.2.1
              go_simp
              try with_reducible rfl
            try simp only [Act.put, List.setIfInBounds_toArray, List.set_cons_zero, List.set_cons_succ]
            refine wpL_take (v := ?_) 13 rfl (by kernel_rfl) (fun _ _ _ h => h) (by rfl) ?_ HXd.out ?_
            rotate_left
            focus
              intro w9 hw9
              obtain ⟨⟨_, c0, c1, c2, c3, c4⟩, hb9⟩ := hw9
              dsimp only at c1 c2 c3 c4
              have y0 := (hb9.cell (p := ⟨b, o + j2 * 3, none⟩) HX.out.1).trans HX.out.2.1
              have y1 := (hb9.cell (p := ⟨b, o + j2 * 3 + 1, none⟩) HX.out.1).trans HX.out.2.2.1
              go_simp
              try with_reducible rfl
            try simp only [Act.put, List.setIfInBounds_toArray, List.set_cons_zero, List.set_cons_succ]
            refine wpL_take (v := ?_) 14 rfl (by kernel_rfl) (fun _ _ _ h => h) (by rfl) ?_ HXd.out ?_
            rotate_left
            focus
              intro w9 hw9
              obtain ⟨⟨_, c0, c1, c2, c3, c4⟩, hb9⟩ := hw9
              dsimp only at c1 c2 c3 c4
              have y0 := (hb9.cell (p := ⟨b, o + j2 * 3, none⟩) HX.out.1).trans HX.out.2.1
              have y1 := (hb9.cell (p := ⟨b, o + j2 * 3 + 1, none⟩) HX.out.1).trans HX.out.2.2.1
              go_simp
              try with_reducible rfl
            try simp only [Act.put, List.setIfInBounds_toArray, List.set_cons_zero, List.set_cons_succ]
            refine wpL_one 15 rfl (by kernel_rfl) (by rfl) ?_
            intro K2 hK2
            go_simp
            refine (rlist_any t ⟨pc, cc, pk, ck, some ⟨b, o, none⟩, cx, pr, cr⟩ cs q c wd (HV.out.on HXd.out.2) HT.out (HRx.out.on HXd.out.2) HL.out).mono ?_
            rintro e w3 ⟨rfl, hb⟩
            have HX3 : Hid (BoxT w3 w.heap.size t ⟨pc, cc, pk, ck, some ⟨b, o, none⟩, cx, pr, cr⟩ ∧ Below w.heap.size w w3) := ⟨HXd.out.1.on hb HXd.out.1.hg, HXd.out.2.trans (hb.mono HXd.out.2.size)⟩
            have HO3 : Hid (OwnS w3 (w.heap.size + 1) u5 ((t.cs.map (colS D) ++ [pkS t]) ++ (t.ix.take j2).map (ixS t))) := HOd.out.kept hb
            clear hb HXd HOd
            rw [HRr.out]
            dsimp only
            refine hK2.out _ _ (fun _ => HX3.out) ?_
            clear hK2 K2
            try simp only [Act.put, List.setIfInBounds_toArray, List.set_cons_zero, List.set_cons_succ]
            refine wpL_take (v := ?_) 16 rfl (by kernel_rfl) (fun _ _ _ h => h) (by rfl) ?_ HX3.out ?_
            rotate_left
            focus
              intro w9 hw9
              go_simp
              try with_reducible rfl
            try simp only [Act.put, List.setIfInBounds_toArray, List.set_cons_zero, List.set_cons_succ]
            refine wpL_take (v := ?_) 17 rfl (by kernel_rfl) (fun _ _ _ h => h) (by rfl) ?_ HX3.out ?_
            rotate_left
            focus
              intro w9 hw9
              go_simp
              try with_reducible rfl
            try simp only [Act.put, List.setIfInBounds_toArray, List.set_cons_zero, List.set_cons_succ]
            refine wpL_done (by kernel_rfl) ?_ _
            try simp only [NoPanic]
            have e3 := HX3.out.1.c3
            dsimp only at e3
            have y2 := (HX3.out.2.cell (p := ⟨b, o + j2 * 3 + 2, none⟩) HX.out.1).trans HX.out.2.2.2
            obtain ⟨hbd1, hbd2, hbd3⟩ := HLn.out
            have hz2 := HX3.out.1.hg
            cases un
            · have HM2 : Hid ((t.cs.map (colS D) ++ [pkS t]) ++ (t.ix.take (j2 + 1)).map (ixS t) = (t.cs.map (colS D) ++ [pkS t]) ++ (t.ix.take j2).map (ixS t) ++ [(⟨#[105, 110, 100, 101, 120, 32]⟩ : ByteArray) ++ nm ++ (⟨#[32]⟩ : ByteArray) ++ r]) := by
                have h := HM.out
                have e : ixS t ⟨nm, cs, false⟩ = (⟨#[105, 110, 100, 101, 120, 32]⟩ : ByteArray) ++ nm ++ (⟨#[32]⟩ : ByteArray) ++ r := by
                  unfold ixS ixS0
                  dsimp only
                  rw [HRr.out, if_neg (by decide)]
                rw [e] at h
                exact h
              go_wp2_with (first | (at_builtin; go_loud (refine wpList_appS w3 rfl (.tmp 106) (.tmp 108) rfl (w.heap.size + 1) u5 _ (by rfl) HO3.out ((⟨#[105, 110, 100, 101, 120, 32]⟩ : ByteArray) ++ nm ++ (⟨#[32]⟩ : ByteArray) ++ r) _ (by rfl) (by first | rfl | simp) hlk (by omega) ?_); intro v6 w6 h6 h7))
              have HO6 : Hid (OwnS w6 (w.heap.size + 1) v6 ((t.cs.map (colS D) ++ [pkS t]) ++ (t.ix.take (j2 + 1)).map (ixS t))) := by rw [HM2.out]; exact h6
              have HBr6 : Hid (BoxT w6 w.heap.size t ⟨pc, cc, pk, ck, some ⟨b, o, none⟩, cx, pr, cr⟩) := HX3.out.1.on h7 (by omega)
              have HBw6 : Hid (Below w.heap.size w w6) := HX3.out.2.trans (h7.mono (by omega))
              clear h6 h7 HO3 HX3 hz2 hlk HM HM2 e3 y2 HX HRx HL HRr
              go_wp2_with fail
              go_roundw
              case rel => exact ⟨j2 + 1, hj21, by go_num, HO6, HBr6, HBw6⟩
              case measure => simp [intOf]; omega
            · have HM2 : Hid ((t.cs.map (colS D) ++ [pkS t]) ++ (t.ix.take (j2 + 1)).map (ixS t) = (t.cs.map (colS D) ++ [pkS t]) ++ (t.ix.take j2).map (ixS t) ++ [(⟨#[117, 110, 105, 113, 117, 101, 32]⟩ : ByteArray) ++ ((⟨#[105, 110, 100, 101, 120, 32]⟩ : ByteArray) ++ nm ++ (⟨#[32]⟩ : ByteArray) ++ r)]) := by
                have h := HM.out
                have e : ixS t ⟨nm, cs, true⟩ = (⟨#[117, 110, 105, 113, 117, 101, 32]⟩ : ByteArray) ++ ((⟨#[105, 110, 100, 101, 120, 32]⟩ : ByteArray) ++ nm ++ (⟨#[32]⟩ : ByteArray) ++ r) := by
                  unfold ixS ixS0
                  dsimp only
                  rw [HRr.out, if_pos rfl]
                rw [e] at h
                exact h
              go_wp2_with (first | (at_builtin; go_loud (refine wpList_appS w3 rfl (.tmp 106) (.tmp 108) rfl (w.heap.size + 1) u5 _ (by rfl) HO3.out ((⟨#[117, 110, 105, 113, 117, 101, 32]⟩ : ByteArray) ++ ((⟨#[105, 110, 100, 101, 120, 32]⟩ : ByteArray) ++ nm ++ (⟨#[32]⟩ : ByteArray) ++ r)) _ (by rfl) (by first | rfl | simp) hlk (by omega) ?_); intro v6 w6 h6 h7))
              have HO6 : Hid (OwnS w6 (w.heap.size + 1) v6 ((t.cs.map (colS D) ++ [pkS t]) ++ (t.ix.take (j2 + 1)).map (ixS t))) := by rw [HM2.out]; exact h6
              have HBr6 : Hid (BoxT w6 w.heap.size t ⟨pc, cc, pk, ck, some ⟨b, o, none⟩, cx, pr, cr⟩) := HX3.out.1.on h7 (by omega)
              have HBw6 : Hid (Below w.heap.size w w6) := HX3.out.2.trans (h7.mono (by omega))
              clear h6 h7 HO3 HX3 hz2 hlk HM HM2 e3 y2 HX HRx HL HRr
              go_wp2_with fail
              go_roundw
              case rel => exact ⟨j2 + 1, hj21, by go_num, HO6, HBr6, HBw6⟩
              case measure => simp [intOf]; omega
      · have hj1 : j < t.cs.length := by omega
        obtain ⟨b, o, rfl, hbB, x0, x1, x2, x3, x4, x5, x6⟩ := HV.out.cs j hj1
        have hcm : t.cs[j] ∈ t.cs := List.getElem_mem hj1
        have hcn := HT.out.cn _ hcm
        have hdz := HD.out _ hcm
        have CT0 := HTx.out _ hcm
        have HM : Hid ([] ++ (t.cs.take (j + 1)).map (colS D) = [] ++ (t.cs.take j).map (colS D) ++ [colS D t.cs[j]]) := takeC t.cs (colS D) j hj1 []
        obtain ⟨cl, hcl⟩ : ∃ cl, t.cs[j] = cl := ⟨_, rfl⟩
        rw [hcl] at x0 x1 x2 x3 x4 x5 x6 CT0 HM hcn hdz
        clear hcl hcm
        obtain ⟨nm, kd, nl, ⟨k, n, f, s⟩⟩ := cl
        dsimp only at x0 x1 x2 x3 x4 x5 x6 CT0 hcn hdz
        obtain ⟨kn, rfl⟩ : ∃ kn : Nat, kd = (kn : Int) := ⟨kd.toNat, by omega⟩
        have hk1 : 1 ≤ kn ∧ kn ≤ 5 := by omega
        have hk6 : kn < 6 := by omega
        have hk7 : (kn : Int) < 6 := by omega
        have hnm := hcn.1
        have hkz := kwB_size kn
        have CT : Hid (∀ w1, Below w.heap.size w w1 → Calls Tryz.prog 16 #[.agg #[.int .i64 k, .int .i64 n, .float .f64 f, .string s]] w1 fun e w' => ∃ er : Int, e = .returned (.tuple #[.string (D ⟨k, n, f, s⟩), .int .i64 er]) ∧ Below w1.heap.size w1 w') := CT0
        clear CT0 hcn
        obtain ⟨kw, hkw⟩ : ∃ kw, kwB (kn : Int) = kw := ⟨_, rfl⟩
        obtain ⟨d, hd⟩ : ∃ d, D ⟨k, n, f, s⟩ = d := ⟨_, rfl⟩
        have HKW : Hid (kwB (kn : Int) = kw ∧ D ⟨k, n, f, s⟩ = d) := ⟨hkw, hd⟩
        rw [hd] at CT hdz
        rw [hkw] at hkz
        clear hkw hd
        have hs1 : ¬ 9223372036854775807 < nm.size + 1 := by omega
        have hs2 : ¬ 9223372036854775807 < nm.size + 1 + kw.size := by omega
        have hs3 : ¬ 9223372036854775807 < nm.size + 1 + kw.size + 9 := by omega
        have hs4 : ¬ 9223372036854775807 < nm.size + 1 + kw.size + 9 + d.size := by omega
        have hs5 : ¬ 9223372036854775807 < nm.size + 1 + kw.size + 9 + 9 := by omega
        have hs6 : ¬ 9223372036854775807 < nm.size + 1 + kw.size + 9 + 9 + d.size := by omega
        clear hdz hnm hkz
        have y0 := (HBw.out.cell (p := ⟨b, o + j * 7, none⟩) hbB).trans x0
        have y1 := (HBw.out.cell (p := ⟨b, o + j * 7 + 1, none⟩) hbB).trans x1
        have y2 := (HBw.out.cell (p := ⟨b, o + j * 7 + 2, none⟩) hbB).trans x2
        have y3 := (HBw.out.cell (p := ⟨b, o + j * 7 + 3, none⟩) hbB).trans x3
        have y4 := (HBw.out.cell (p := ⟨b, o + j * 7 + 4, none⟩) hbB).trans x4
        have y5 := (HBw.out.cell (p := ⟨b, o + j * 7 + 5, none⟩) hbB).trans x5
        have y6 := (HBw.out.cell (p := ⟨b, o + j * 7 + 6, none⟩) hbB).trans x6
        clear x0 x1 x2 x3 x4 x5 x6 hbB
        have hlk : ([] ++ (t.cs.take j).map (colS D)).length + 1 ≤ 8796093022208 := by
          have := HLn.out.1
          rw [List.nil_append, List.length_map, List.length_take]
          omega
        have hal : Below wr.heap.size wr (wr.alloc (.cells #[.string nm, .int .i64 (kn : Int), .bool nl, .int .i64 k, .int .i64 n, .float .f64 f, .string s] 40)) := (Below.refl _ _).alloc (Nat.le_refl _) _
        have HXa : Hid (Blk (wr.alloc (.cells #[.string nm, .int .i64 (kn : Int), .bool nl, .int .i64 k, .int .i64 n, .float .f64 f, .string s] 40)) wr.heap.size #[.string nm, .int .i64 (kn : Int), .bool nl, .int .i64 k, .int .i64 n, .float .f64 f, .string s] 40) := Blk.new wr _ _
        have HOa : Hid (OwnS (wr.alloc (.cells #[.string nm, .int .i64 (kn : Int), .bool nl, .int .i64 k, .int .i64 n, .float .f64 f, .string s] 40)) (w.heap.size + 1) u5 ([] ++ (t.cs.take j).map (colS D))) := HO.out.kept hal
        have HBa : Hid (BoxT (wr.alloc (.cells #[.string nm, .int .i64 (kn : Int), .bool nl, .int .i64 k, .int .i64 n, .float .f64 f, .string s] 40)) w.heap.size t ⟨some ⟨b, o, none⟩, cc, pk, ck, px, cx, pr, cr⟩ ∧ Below w.heap.size w (wr.alloc (.cells #[.string nm, .int .i64 (kn : Int), .bool nl, .int .i64 k, .int .i64 n, .float .f64 f, .string s] 40))) := ⟨HBr.out.on hal HBr.out.hg, HBw.out.trans (hal.mono HBw.out.size)⟩
        clear hal HO
        go_upto_region 9 with fail
        clear y0 y1 y2 y3 y4 y5 y6 e1 HBr HBw
        generalize wr.alloc (.cells #[.string nm, .int .i64 (kn : Int), .bool nl, .int .i64 k, .int .i64 n, .float .f64 f, .string s] 40) = wa at *
        generalize wr.heap.size = cb at *
        refine wp_region_L (fun w9 => Blk w9 cb #[.string nm, .int .i64 (kn : Int), .bool nl, .int .i64 k, .int .i64 n, .float .f64 f, .string s] 40) 10 (by kernel_rfl) ?_
        have HXd : Hid (Blk wa.drew cb #[.string nm, .int .i64 (kn : Int), .bool nl, .int .i64 k, .int .i64 n, .float .f64 f, .string s] 40) := HXa.out.on ((Below.refl _ _).drew)
        have HOd : Hid (OwnS wa.drew (w.heap.size + 1) u5 ([] ++ (t.cs.take j).map (colS D))) := HOa.out.kept ((Below.refl _ _).drew)
        have HBd : Hid (BoxT wa.drew w.heap.size t ⟨some ⟨b, o, none⟩, cc, pk, ck, px, cx, pr, cr⟩ ∧ Below w.heap.size w wa.drew) := ⟨HBa.out.1.on ((Below.refl _ _).drew) HBa.out.1.hg, HBa.out.2.trans (((Below.refl wa.heap.size _).drew).mono HBa.out.2.size)⟩
        clear HXa HOa HBa
        generalize wa.drew = wd at *
        refine wpL_take (v := ?_) 0 rfl (by kernel_rfl) (fun _ _ _ h => h) (by rfl) ?_ HXd.out ?_
        rotate_left
        focus
          intro w9 hw9
          have i0 := hw9.cell (i := 0) rfl
          have i1 := hw9.cell (i := 1) rfl
          go_simp
          try with_reducible rfl
        try simp only [Act.put, List.setIfInBounds_toArray, List.set_cons_zero, List.set_cons_succ]
        refine wpL_take (v := ?_) 1 rfl (by kernel_rfl) (fun _ _ _ h => h) (by rfl) ?_ HXd.out ?_
        rotate_left
        focus
          intro w9 hw9
          have i0 := hw9.cell (i := 0) rfl
          have i1 := hw9.cell (i := 1) rfl
          go_simp
          try with_reducible rfl
        try simp only [Act.put, List.setIfInBounds_toArray, List.set_cons_zero, List.set_cons_succ]
        refine wpL_take (v := ?_) 2 rfl (by kernel_rfl) (fun _ _ _ h => h) (by rfl) ?_ HXd.out ?_
        rotate_left
        focus
          intro w9 hw9
          have i0 := hw9.cell (i := 0) rfl
          have i1 := hw9.cell (i := 1) rfl
          go_simp
          try with_reducible rfl
        try simp only [Act.put, List.setIfInBounds_toArray, List.set_cons_zero, List.set_cons_succ]
        refine wpL_take (v := ?_) 4 rfl (by kernel_rfl) (fun _ _ _ h => h) (by rfl) ?_ HXd.out ?_
        rotate_left
        focus
          intro w9 hw9
          have i0 := hw9.cell (i := 0) rfl
          have i1 := hw9.cell (i := 1) rfl
          go_simp
          try with_reducible rfl
        try simp only [Act.put, List.setIfInBounds_toArray, List.set_cons_zero, List.set_cons_succ]
        refine wpL_take (v := ?_) 5 rfl (by kernel_rfl) (fun _ _ _ h => h) (by rfl) ?_ HXd.out ?_
        rotate_left
        focus
          intro w9 hw9
          have i0 := hw9.cell (i := 0) rfl
          have i1 := hw9.cell (i := 1) rfl
          go_simp
          try with_reducible rfl
        try simp only [Act.put, List.setIfInBounds_toArray, List.set_cons_zero, List.set_cons_succ]
        refine wpL_one 3 rfl (by kernel_rfl) (by rfl) ?_
        intro K2 hK2
        go_simp
        refine (rkinds_any wd).mono ?_
        rintro e w3 ⟨rfl, hw3⟩
        have hb3 : Below wd.heap.size wd w3 := by rw [hw3]; exact (Below.refl _ _).alloc (Nat.le_refl _) _
        have hkc : w3.cell? ⟨wd.heap.size, kn, none⟩ = some (.string kw) := by rw [hw3, ← HKW.out.1]; exact kinds_cell wd kn hk1.1 hk1.2
        have HKc : Hid (w3.cell? ⟨wd.heap.size, kn, none⟩ = some (.string kw)) := hkc
        have HX3 : Hid (Blk w3 cb #[.string nm, .int .i64 (kn : Int), .bool nl, .int .i64 k, .int .i64 n, .float .f64 f, .string s] 40) := HXd.out.on hb3
        have HO3 : Hid (OwnS w3 (w.heap.size + 1) u5 ([] ++ (t.cs.take j).map (colS D))) := HOd.out.kept hb3
        have HB3 : Hid (BoxT w3 w.heap.size t ⟨some ⟨b, o, none⟩, cc, pk, ck, px, cx, pr, cr⟩ ∧ Below w.heap.size w w3) := ⟨HBd.out.1.on hb3 HBd.out.1.hg, HBd.out.2.trans (hb3.mono HBd.out.2.size)⟩
        clear hw3 hb3 hkc HXd HOd HBd
        dsimp only
        refine hK2.out _ _ (fun _ => HX3.out) ?_
        clear hK2 K2
        try simp only [Act.put, List.setIfInBounds_toArray, List.set_cons_zero, List.set_cons_succ]
        refine wpL_one 6 rfl (by kernel_rfl) (by rfl) ?_
        intro K2 hK2
        go_simp
        refine hK2.out _ _ (fun _ => HX3.out) ?_
        clear hK2 K2
        try simp only [Act.put, List.setIfInBounds_toArray, List.set_cons_zero, List.set_cons_succ]
        refine wpL_one 7 rfl (by kernel_rfl) (by rfl) ?_
        intro K2 hK2
        have hkc := HKc.out
        go_simp
        refine hK2.out _ _ (fun _ => HX3.out) ?_
        clear hK2 K2
        try simp only [Act.put, List.setIfInBounds_toArray, List.set_cons_zero, List.set_cons_succ]
        refine wpL_one 8 rfl (by kernel_rfl) (by rfl) ?_
        intro K2 hK2
        go_simp
        refine hK2.out _ _ (fun _ => HX3.out) ?_
        clear hK2 K2
        try simp only [Act.put, List.setIfInBounds_toArray, List.set_cons_zero, List.set_cons_succ]
        refine wpL_one 9 rfl (by kernel_rfl) (by rfl) ?_
        intro K2 hK2
        go_simp
        refine hK2.out _ _ (fun _ => HX3.out) ?_
        clear hK2 K2
        try simp only [Act.put, List.setIfInBounds_toArray, List.set_cons_zero, List.set_cons_succ]
        refine wpL_done (by kernel_rfl) ?_ _
        try simp only [NoPanic]
        clear HKc
        have i2 := HX3.out.cell (i := 2) rfl
        have i3 := HX3.out.cell (i := 3) rfl
        have i4 := HX3.out.cell (i := 4) rfl
        have i5 := HX3.out.cell (i := 5) rfl
        have i6 := HX3.out.cell (i := 6) rfl
        obtain ⟨hbd1, hbd2, hbd3⟩ := HLn.out
        cases nl
        · by_cases hk0 : k = 0
          · subst hk0
            have hz2 := HB3.out.1.hg
            have HM2 : Hid ([] ++ (t.cs.take (j + 1)).map (colS D) = [] ++ (t.cs.take j).map (colS D) ++ [nm ++ (⟨#[32]⟩ : ByteArray) ++ kw ++ (⟨#[32, 110, 111, 116, 32, 110, 117, 108, 108]⟩ : ByteArray)]) := by
              have h := HM.out
              unfold colS colS0 at h
              dsimp only at h
              rw [HKW.out.1, HKW.out.2, if_pos rfl, if_neg (by decide)] at h
              exact h
            go_wp2_with (first | (at_builtin; go_loud (refine wpList_appS w3 rfl (.tmp 62) (.tmp 64) rfl (w.heap.size + 1) u5 _ (by rfl) HO3.out (nm ++ (⟨#[32]⟩ : ByteArray) ++ kw ++ (⟨#[32, 110, 111, 116, 32, 110, 117, 108, 108]⟩ : ByteArray)) _ (by rfl) (by first | rfl | simp) hlk (by omega) ?_); intro v6 w6 h6 h7))
            have HO6 : Hid (OwnS w6 (w.heap.size + 1) v6 ([] ++ (t.cs.take (j + 1)).map (colS D))) := by rw [HM2.out]; exact h6
            have HBr6 : Hid (BoxT w6 w.heap.size t ⟨some ⟨b, o, none⟩, cc, pk, ck, px, cx, pr, cr⟩) := HB3.out.1.on h7 (by omega)
            have HBw6 : Hid (Below w.heap.size w w6) := HB3.out.2.trans (h7.mono (by omega))
            clear h6 h7 HO3 HB3 hz2 hlk HM HM2 HX3 CT i2 i3 i4 i5 i6
            go_wp2_with fail
            go_roundw
            case rel => exact ⟨j + 1, hj1, by go_num, HO6, HBr6, HBw6⟩
            case measure => simp [intOf]; omega
          · go_wp2_with fail
            refine (CT.out _ HB3.out.2).mono ?_
            rintro e w4 ⟨er, rfl, hb4⟩
            have HO4 : Hid (OwnS w4 (w.heap.size + 1) u5 ([] ++ (t.cs.take j).map (colS D))) := HO3.out.kept hb4
            have HB4 : Hid (BoxT w4 w.heap.size t ⟨some ⟨b, o, none⟩, cc, pk, ck, px, cx, pr, cr⟩ ∧ Below w.heap.size w w4) := ⟨HB3.out.1.on hb4 HB3.out.1.hg, HB3.out.2.trans (hb4.mono HB3.out.2.size)⟩
            clear hb4 HO3 HB3 HX3 CT i2 i3 i4 i5 i6
            have hz2 := HB4.out.1.hg
            have HM2 : Hid ([] ++ (t.cs.take (j + 1)).map (colS D) = [] ++ (t.cs.take j).map (colS D) ++ [nm ++ (⟨#[32]⟩ : ByteArray) ++ kw ++ (⟨#[32, 110, 111, 116, 32, 110, 117, 108, 108]⟩ : ByteArray) ++ (⟨#[32, 100, 101, 102, 97, 117, 108, 116, 32]⟩ : ByteArray) ++ d]) := by
              have h := HM.out
              unfold colS colS0 at h
              dsimp only at h
              rw [HKW.out.1, HKW.out.2, if_neg hk0, if_neg (by decide)] at h
              exact h
            go_wp2_with (first | (at_builtin; go_loud (refine wpList_appS w4 rfl (.tmp 62) (.tmp 64) rfl (w.heap.size + 1) u5 _ (by rfl) HO4.out (nm ++ (⟨#[32]⟩ : ByteArray) ++ kw ++ (⟨#[32, 110, 111, 116, 32, 110, 117, 108, 108]⟩ : ByteArray) ++ (⟨#[32, 100, 101, 102, 97, 117, 108, 116, 32]⟩ : ByteArray) ++ d) _ (by rfl) (by first | rfl | simp) hlk (by omega) ?_); intro v6 w6 h6 h7))
            have HO6 : Hid (OwnS w6 (w.heap.size + 1) v6 ([] ++ (t.cs.take (j + 1)).map (colS D))) := by rw [HM2.out]; exact h6
            have HBr6 : Hid (BoxT w6 w.heap.size t ⟨some ⟨b, o, none⟩, cc, pk, ck, px, cx, pr, cr⟩) := HB4.out.1.on h7 (by omega)
            have HBw6 : Hid (Below w.heap.size w w6) := HB4.out.2.trans (h7.mono (by omega))
            clear h6 h7 HO4 HB4 hz2 hlk HM HM2 
            go_wp2_with fail
            go_roundw
            case rel => exact ⟨j + 1, hj1, by go_num, HO6, HBr6, HBw6⟩
            case measure => simp [intOf]; omega
        · by_cases hk0 : k = 0
          · subst hk0
            have hz2 := HB3.out.1.hg
            have HM2 : Hid ([] ++ (t.cs.take (j + 1)).map (colS D) = [] ++ (t.cs.take j).map (colS D) ++ [nm ++ (⟨#[32]⟩ : ByteArray) ++ kw]) := by
              have h := HM.out
              unfold colS colS0 at h
              dsimp only at h
              rw [HKW.out.1, HKW.out.2, if_pos rfl, if_pos rfl] at h
              exact h
            go_wp2_with (first | (at_builtin; go_loud (refine wpList_appS w3 rfl (.tmp 62) (.tmp 64) rfl (w.heap.size + 1) u5 _ (by rfl) HO3.out (nm ++ (⟨#[32]⟩ : ByteArray) ++ kw) _ (by rfl) (by first | rfl | simp) hlk (by omega) ?_); intro v6 w6 h6 h7))
            have HO6 : Hid (OwnS w6 (w.heap.size + 1) v6 ([] ++ (t.cs.take (j + 1)).map (colS D))) := by rw [HM2.out]; exact h6
            have HBr6 : Hid (BoxT w6 w.heap.size t ⟨some ⟨b, o, none⟩, cc, pk, ck, px, cx, pr, cr⟩) := HB3.out.1.on h7 (by omega)
            have HBw6 : Hid (Below w.heap.size w w6) := HB3.out.2.trans (h7.mono (by omega))
            clear h6 h7 HO3 HB3 hz2 hlk HM HM2 HX3 CT i2 i3 i4 i5 i6
            go_wp2_with fail
            go_roundw
            case rel => exact ⟨j + 1, hj1, by go_num, HO6, HBr6, HBw6⟩
            case measure => simp [intOf]; omega
          · go_wp2_with fail
            refine (CT.out _ HB3.out.2).mono ?_
            rintro e w4 ⟨er, rfl, hb4⟩
            have HO4 : Hid (OwnS w4 (w.heap.size + 1) u5 ([] ++ (t.cs.take j).map (colS D))) := HO3.out.kept hb4
            have HB4 : Hid (BoxT w4 w.heap.size t ⟨some ⟨b, o, none⟩, cc, pk, ck, px, cx, pr, cr⟩ ∧ Below w.heap.size w w4) := ⟨HB3.out.1.on hb4 HB3.out.1.hg, HB3.out.2.trans (hb4.mono HB3.out.2.size)⟩
            clear hb4 HO3 HB3 HX3 CT i2 i3 i4 i5 i6
            have hz2 := HB4.out.1.hg
            have HM2 : Hid ([] ++ (t.cs.take (j + 1)).map (colS D) = [] ++ (t.cs.take j).map (colS D) ++ [nm ++ (⟨#[32]⟩ : ByteArray) ++ kw ++ (⟨#[32, 100, 101, 102, 97, 117, 108, 116, 32]⟩ : ByteArray) ++ d]) := by
              have h := HM.out
              unfold colS colS0 at h
              dsimp only at h
              rw [HKW.out.1, HKW.out.2, if_neg hk0, if_pos rfl] at h
              exact h
            go_wp2_with (first | (at_builtin; go_loud (refine wpList_appS w4 rfl (.tmp 62) (.tmp 64) rfl (w.heap.size + 1) u5 _ (by rfl) HO4.out (nm ++ (⟨#[32]⟩ : ByteArray) ++ kw ++ (⟨#[32, 100, 101, 102, 97, 117, 108, 116, 32]⟩ : ByteArray) ++ d) _ (by rfl) (by first | rfl | simp) hlk (by omega) ?_); intro v6 w6 h6 h7))
            have HO6 : Hid (OwnS w6 (w.heap.size + 1) v6 ([] ++ (t.cs.take (j + 1)).map (colS D))) := by rw [HM2.out]; exact h6
            have HBr6 : Hid (BoxT w6 w.heap.size t ⟨some ⟨b, o, none⟩, cc, pk, ck, px, cx, pr, cr⟩) := HB4.out.1.on h7 (by omega)
            have HBw6 : Hid (Below w.heap.size w w6) := HB4.out.2.trans (h7.mono (by omega))
            clear h6 h7 HO4 HB4 hz2 hlk HM HM2 
            go_wp2_with fail
            go_roundw
            case rel => exact ⟨j + 1, hj1, by go_num, HO6, HBr6, HBw6⟩
            case measure => simp [intOf]; omega
  · have HPO : Hid (prtO D t = ⟨#[]⟩) := if_neg hc
    have HPE : Hid (prtE D t = checkS t) := if_neg hc
    generalize checkS t = d at *
    go_wp2_with fail
    refine bodyPost_ret (v := .tuple #[.string ⟨#[]⟩, .int .i64 d]) (by simp [results, Tryz.results6, go_sem]) rfl ?_
    exact ⟨by rw [HPO.out, HPE.out], HBw1.out⟩

end Go.Proofs.YthbjheiogghjnaaGreatDoor
