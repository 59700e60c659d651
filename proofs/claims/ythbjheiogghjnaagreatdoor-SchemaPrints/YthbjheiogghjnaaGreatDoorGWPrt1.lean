/- Print's parts: columnText, listText, indexText. -/
import Derived.Test.YthbjheiogghjnaaGreatDoorGMPrt
import Derived.Test.YthbjheiogghjnaaGreatDoorGWPrint
import Derived.Test.YthbjheiogghjnaaGreatDoorGWFl7
import Derived.Test.YthbjheiogghjnaaGreatDoorGMPtr
namespace Go.Proofs.YthbjheiogghjnaaGreatDoor
open Go.RowKit
set_option maxRecDepth 100000

/-- the words of the kinds, in the program's table -/
def KWa (w : World) : Prop := (∀ k : Nat, 1 ≤ k → k ≤ 5 → w.cell? ⟨0, k, none⟩ = some (.string (kwB k))) ∧ 0 < w.heap.size
theorem KWa.on {w w' : World} (h : KWa w) (hb : Below w.heap.size w w') : KWa w' := ⟨fun k h1 h2 => (hb.cell (p := ⟨0, k, none⟩) h.2).trans (h.1 k h1 h2), Nat.lt_of_lt_of_le h.2 hb.size⟩
theorem KWa.kw {w : World} (h : KWa w) : KW w := ⟨h.1 2 (by decide) (by decide), h.2⟩

set_option maxHeartbeats 4000000 in
theorem colText_any (D : Vl → ByteArray) (c : Cl) (w : World) (hkd : 1 ≤ c.kd ∧ c.kd ≤ 5) (hK : KWa w) (hnm : c.nm.size ≤ 63) (hD : (D c.df).size ≤ 200000)
    (hT : ∀ w1, Below w.heap.size w w1 → Calls Tryz.prog 27 #[.agg #[.int .i64 c.df.k, .int .i64 c.df.n, .float .f64 c.df.f, .string c.df.s]] w1 fun e w' => ∃ er : Int, e = .returned (.tuple #[.string (D c.df), .int .i64 er]) ∧ Below w1.heap.size w1 w') :
    Calls Tryz.prog 9 #[c.val] w fun e w' => e = .returned (.string (colS D c)) ∧ Below w.heap.size w w' := by
  obtain ⟨nm, kd, nl, k, n, f, s⟩ := c
  dsimp only at hkd hnm hD hT
  obtain ⟨kn, rfl⟩ : ∃ kn : Nat, kd = (kn : Int) := ⟨kd.toNat, by omega⟩
  have CT : Hid (∀ w1, Below w.heap.size w w1 → Calls Tryz.prog 27 #[.agg #[.int .i64 k, .int .i64 n, .float .f64 f, .string s]] w1 fun e w' => ∃ er : Int, e = .returned (.tuple #[.string (D ⟨k, n, f, s⟩), .int .i64 er]) ∧ Below w1.heap.size w1 w') := hT
  have hw := hK.1 kn (by omega) (by omega)
  have hsz := kwB_size kn
  have hk6 : kn < 6 := by omega
  have hgl := hK.2
  unfold colS colS0 Cl.val
  dsimp only
  generalize kwB (kn : Int) = kw at *
  generalize D ⟨k, n, f, s⟩ = d at *
  have hs1 : ¬ 9223372036854775807 < nm.size + 1 := by omega
  have hs2 : ¬ 9223372036854775807 < nm.size + 1 + kw.size := by omega
  have hs3 : ¬ 9223372036854775807 < nm.size + 1 + kw.size + 9 := by omega
  have hs4 : ¬ 9223372036854775807 < 9 + d.size := by omega
  have hs5 : ¬ 9223372036854775807 < nm.size + 1 + kw.size + (9 + d.size) := by omega
  have hs6 : ¬ 9223372036854775807 < nm.size + 1 + kw.size + 9 + (9 + d.size) := by omega
  have hal : Below w.heap.size w (w.alloc (.cells #[.string nm, .int .i64 (kn : Int), .bool nl, .int .i64 k, .int .i64 n, .float .f64 f, .string s] 40)) := (Below.refl _ _).alloc (Nat.le_refl _) _
  have hw2 := (hal.cell (p := ⟨0, kn, none⟩) hgl).trans hw
  have hsf := run_store_float
  have HN : Hid (nm.size ≤ 63 ∧ 1 ≤ kn) := ⟨hnm, by omega⟩
  clear hK hT hkd hD hsz hw hgl hnm
  cases nl
  · by_cases hk0 : k = 0
    · subst hk0
      rw [if_pos rfl, if_neg (by decide)]
      go_enter Tryz.func9, Tryz.ntmps9
      go_wp2_with fail
      go_quiet (fail)
      go_wp2
      go_ret
      exact ⟨rfl, hal.trans ((below_drewN _ _).mono (by simp))⟩
    · rw [if_neg hk0, if_neg (by decide)]
      go_enter Tryz.func9, Tryz.ntmps9
      go_wp2_with fail
      go_quiet (fail)
      go_wp2_with fail
      refine (CT.out _ ?_).mono ?_
      · exact hal.trans ((below_drewN _ _).mono (by simp))
      rintro e w2 ⟨er, rfl, hb2⟩
      have HB : Hid (Below w.heap.size w w2) := (hal.trans ((below_drewN _ _).mono (by simp))).trans (hb2.mono (by simp))
      clear hb2 CT hal hw2
      go_wp2_with fail
      go_ret
      exact ⟨congrArg (fun x => Ending.returned (Value.string x)) (ByteArray.append_assoc ..).symm, HB.out⟩
  · by_cases hk0 : k = 0
    · subst hk0
      rw [if_pos rfl, if_pos rfl]
      go_enter Tryz.func9, Tryz.ntmps9
      go_wp2_with fail
      go_quiet (fail)
      go_wp2
      go_ret
      exact ⟨rfl, hal.trans ((below_drewN _ _).mono (by simp))⟩
    · rw [if_neg hk0, if_pos rfl]
      go_enter Tryz.func9, Tryz.ntmps9
      go_wp2_with fail
      go_quiet (fail)
      go_wp2_with fail
      refine (CT.out _ ?_).mono ?_
      · exact hal.trans ((below_drewN _ _).mono (by simp))
      rintro e w2 ⟨er, rfl, hb2⟩
      have HB : Hid (Below w.heap.size w w2) := (hal.trans ((below_drewN _ _).mono (by simp))).trans (hb2.mono (by simp))
      clear hb2 CT hal hw2
      go_wp2_with fail
      go_ret
      exact ⟨congrArg (fun x => Ending.returned (Value.string x)) (ByteArray.append_assoc ..).symm, HB.out⟩

theorem joinS_any (w : World) (B : Nat) (v : Value) (L : List ByteArray) (sep : ByteArray) (h : OwnS w B v L) (hn : L.length ≤ 8796093022208) (hj : (jn sep L).size ≤ 140737488355328) :
    Calls Tryz.prog 12 #[v, .string sep] w fun e w' => e = .returned (.string (jn sep L)) ∧ Below w.heap.size w w' := by
  by_cases hl : 0 < L.length
  · exact join_any w B v L sep h hl hn (by
      have e : (jn sep L).size = (Lib.join (L.map (·.data.toList)) sep.data.toList).length := List.size_toArray
      omega)
  · have h0 : L = [] := List.eq_nil_of_length_eq_zero (by omega)
    subst h0
    obtain ⟨a, c, rfl⟩ : ∃ a c, v = .slice a 0 c := by
      rcases h.2 with ⟨e, _⟩ | ⟨g, cap, cur, e, _⟩
      · exact ⟨_, _, e⟩
      · exact ⟨_, _, e⟩
    refine (Tryz.strings_Join_none a c sep w).mono fun e w' h => ⟨h.1, ?_⟩
    rw [h.2]
    exact Below.refl _ _
theorem takeS (L : List Int) (f : Int → ByteArray) (j : Nat) (hj : j < L.length) : (L.take (j + 1)).map f = (L.take j).map f ++ [f L[j]] := by
  rw [← List.take_append_getElem hj, List.map_append, List.map_singleton]

set_option maxHeartbeats 4000000 in
theorem listText_any (t : Tb) (a : TabP) (l : List Int) (p : Option Addr) (c : Nat) (w : World) (hV : TabV w w.heap.size t a) (hT : TOk t) (hR : RowI w w.heap.size p l) (hl : (∀ x ∈ l, 0 ≤ x ∧ x < t.cs.length) ∧ l.length ≤ 64) :
    Calls Tryz.prog 10 #[a.val t, .slice p l.length c] w fun e w' => e = .returned (.string (lstS t l)) ∧ Below w.heap.size w w' := by
  obtain ⟨pc, cc, pk, ck, px, cx, pr, cr⟩ := a
  have hb0 : Below w.heap.size w (w.alloc (.cells #[.string t.nm, .slice pc t.cs.length cc, .slice pk t.key.length ck, .slice px t.ix.length cx, .slice pr t.rf.length cr] 27)) := by go_grown
  have HB : Hid (BoxT _ _ _ _) := BoxT.new w t ⟨pc, cc, pk, ck, px, cx, pr, cr⟩
  have HR : Hid (RowI w w.heap.size p l) := hR
  have HC : Hid (RowC w w.heap.size pc t.cs) := hV.cs
  have HL : Hid ((∀ x ∈ l, 0 ≤ x ∧ x < t.cs.length) ∧ l.length ≤ 64) := hl
  have HJ : Hid (∀ (w1 : World) (v : Value), OwnS w1 (w.heap.size + 1) v (l.map (nmAt t)) → Calls Tryz.prog 12 #[v, .string ⟨#[44, 32]⟩] w1 fun e w' => e = .returned (.string (jn ⟨#[44, 32]⟩ (l.map (nmAt t)))) ∧ Below w1.heap.size w1 w') := fun w1 v h => joinS_any w1 _ v _ _ h (by rw [List.length_map]; omega) (by
    have h1 := jn_size ⟨#[44, 32]⟩ 63 (l.map (nmAt t)) (fun x hx => by
      obtain ⟨y, _, rfl⟩ := List.mem_map.1 hx
      exact nmAt_size hT y)
    rw [List.length_map, show (⟨#[44, 32]⟩ : ByteArray).size = 2 from rfl] at h1
    omega)
  have hjs : (jn ⟨#[44, 32]⟩ (l.map (nmAt t))).size ≤ 4200 := by
    have h1 := jn_size ⟨#[44, 32]⟩ 63 (l.map (nmAt t)) (fun x hx => by
      obtain ⟨y, _, rfl⟩ := List.mem_map.1 hx
      exact nmAt_size hT y)
    rw [List.length_map, show (⟨#[44, 32]⟩ : ByteArray).size = 2 from rfl] at h1
    omega
  have hs1 : ¬ 9223372036854775807 < 1 + (jn ⟨#[44, 32]⟩ (l.map (nmAt t))).size := by omega
  have hs2 : ¬ 9223372036854775807 < 1 + (jn ⟨#[44, 32]⟩ (l.map (nmAt t))).size + 1 := by omega
  have hln : l.length ≤ 64 := hl.2
  have hcl : t.cs.length ≤ 64 := hT.c2
  unfold lstS
  obtain ⟨r, hr⟩ : ∃ r, jn ⟨#[44, 32]⟩ (l.map (nmAt t)) = r := ⟨_, rfl⟩
  rw [hr] at HJ hs1 hs2 ⊢
  clear hV hT hR hl hjs hr
  obtain ⟨n, hn⟩ : ∃ n, l.length = n := ⟨_, rfl⟩
  obtain ⟨m, hm⟩ : ∃ m, t.cs.length = m := ⟨_, rfl⟩
  have HN : Hid (l.length = n ∧ t.cs.length = m) := ⟨hn, hm⟩
  unfold TabP.val
  dsimp only
  rw [hn] at hln ⊢
  rw [hm] at hcl HB hb0 ⊢
  clear hn hm
  go_enter Tryz.func10, Tryz.ntmps10
  go_wp2_with fail
  have HB0 : Hid (Below w.heap.size w (w.alloc (.cells #[.string t.nm, .slice pc m cc, .slice pk t.key.length ck, .slice px t.ix.length cx, .slice pr t.rf.length cr] 27))) := hb0
  clear hb0
  generalize w.alloc (.cells #[.string t.nm, .slice pc m cc, .slice pk t.key.length ck, .slice px t.ix.length cx, .slice pr t.rf.length cr] 27) = w1 at *
  go_loopw [5, 10] (fun v i wr => ∃ j : Nat, j ≤ n ∧ i = .int .i64 (j : Int) ∧ Hid (OwnS wr (w.heap.size + 1) v ((l.take j).map (nmAt t))) ∧ Hid (BoxT wr w.heap.size t ⟨pc, cc, pk, ck, px, cx, pr, cr⟩) ∧ Hid (Below w.heap.size w wr)) (fun _ i _ => n - (intOf i).toNat)
  case atStart => exact ⟨0, Nat.zero_le _, by go_num, OwnS.nil _ _, HB.out, HB0.out⟩
  case round =>
    obtain ⟨j, hj, rfl, HO, HBr, HBw⟩ := hrel
    clear HB HB0
    by_cases hj0 : j = n
    · subst hj0
      have HO2 : Hid (OwnS wr (w.heap.size + 1) u5 (l.map (nmAt t))) := by
        have h := HO.out
        rw [List.take_of_length_le (by have := HN.out.1; omega)] at h
        exact h
      clear HO
      have CJ : Hid (Calls _ _ _ _ _) := HJ.out wr u5 HO2.out
      clear HJ
      go_wp2_with fail
      refine CJ.out.mono ?_
      rintro e w2 ⟨rfl, hb⟩
      have HE : Hid (Below w.heap.size w w2) := HBw.out.trans (hb.mono HBw.out.size)
      clear CJ hb
      go_wp2_with fail
      go_ret
      exact ⟨rfl, HE.out⟩
    · have hj1 : j < n := by omega
      have hjl : j < l.length := by have := HN.out.1; omega
      obtain ⟨b, o, rfl, hbB, x0⟩ := HR.out j hjl
      have hx := HL.out.1 l[j] (List.getElem_mem hjl)
      obtain ⟨x, hxn⟩ : ∃ x : Nat, l[j] = (x : Int) := ⟨l[j].toNat, (Int.toNat_of_nonneg hx.1).symm⟩
      rw [hxn] at x0 hx
      have hxm : x < m := by have := HN.out.2; omega
      have hxc : x < t.cs.length := by have := HN.out.2; omega
      obtain ⟨b', o', rfl, hbB', z0, -⟩ := HC.out x hxc
      have y0 := (HBw.out.cell (p := ⟨b, o + j, none⟩) hbB).trans x0
      have y1 := (HBw.out.cell (p := ⟨b', o' + x * 7, none⟩) hbB').trans z0
      have HM : Hid ((l.take (j + 1)).map (nmAt t) = (l.take j).map (nmAt t) ++ [t.cs[x].nm]) := by
        show _ = _
        rw [takeS l _ j hjl, hxn, nmAt_in (by simpa using hxc)]
        rfl
      obtain ⟨nm, hnm⟩ : ∃ nm, t.cs[x].nm = nm := ⟨_, rfl⟩
      rw [hnm] at y1 HM
      have e1 := HBr.out.c1
      have hz := HBr.out.hg
      dsimp only at e1
      rw [HN.out.2] at e1
      have hlk : ((l.take j).map (nmAt t)).length + 1 ≤ 8796093022208 := by rw [List.length_map, List.length_take]; omega
      clear x0 z0 hx hxc hjl hbB hbB' hnm hxn
      go_wp2_with (first | (at_builtin; go_loud (refine wpList_appS wr rfl (.tmp 14) (.tmp 21) rfl (w.heap.size + 1) u5 _ (by rfl) HO.out nm _ (by rfl) (by first | rfl | simp) hlk (by omega) ?_); intro v6 w6 h6 h7))
      have HO6 : Hid (OwnS w6 (w.heap.size + 1) v6 ((l.take (j + 1)).map (nmAt t))) := by rw [HM.out]; exact h6
      have HBr6 : Hid (BoxT w6 w.heap.size t ⟨some ⟨b', o', none⟩, cc, pk, ck, px, cx, pr, cr⟩) := HBr.out.on h7 (by omega)
      have HBw6 : Hid (Below w.heap.size w w6) := HBw.out.trans (h7.mono (by omega))
      clear h6 h7 HO HBr HBw e1 y0 y1 hz hlk HM
      go_wp2_with fail
      go_roundw
      case rel => exact ⟨j + 1, hj1, by go_num, HO6, HBr6, HBw6⟩
      case measure => simp [intOf]; omega

set_option maxHeartbeats 4000000 in
theorem indexText_any (t : Tb) (a : TabP) (x : Ix) (q : Option Addr) (c : Nat) (w : World) (hV : TabV w w.heap.size t a) (hT : TOk t) (hR : RowI w w.heap.size q x.cs) (hx : x.nm.size ≤ 63 ∧ (∀ y ∈ x.cs, 0 ≤ y ∧ y < t.cs.length) ∧ x.cs.length ≤ 64) :
    Calls Tryz.prog 11 #[a.val t, .agg #[.string x.nm, .slice q x.cs.length c, .bool x.un]] w fun e w' => e = .returned (.string (ixS t x)) ∧ Below w.heap.size w w' := by
  obtain ⟨pc, cc, pk, ck, px, cx, pr, cr⟩ := a
  obtain ⟨nm, cs, un⟩ := x
  dsimp only at hR hx ⊢
  have hsz := lstS_size hT hx.2.2
  have HV : Hid (TabV w w.heap.size t ⟨pc, cc, pk, ck, px, cx, pr, cr⟩) := hV
  have HT : Hid (TOk t) := hT
  have HR : Hid (RowI w w.heap.size q cs) := hR
  have HL : Hid ((∀ y ∈ cs, 0 ≤ y ∧ y < t.cs.length) ∧ cs.length ≤ 64) := hx.2
  have hnm := hx.1
  unfold ixS ixS0 TabP.val
  dsimp only
  obtain ⟨r, hr⟩ : ∃ r, lstS t cs = r := ⟨_, rfl⟩
  rw [hr] at hsz ⊢
  have hs1 : ¬ 9223372036854775807 < 6 + nm.size := by omega
  have hs2 : ¬ 9223372036854775807 < 6 + nm.size + 1 := by omega
  have hs3 : ¬ 9223372036854775807 < 6 + nm.size + 1 + r.size := by omega
  have hs4 : ¬ 9223372036854775807 < 7 + (6 + nm.size + 1 + r.size) := by omega
  clear hV hT hR hx hnm hsz
  obtain ⟨w1, hw1⟩ : ∃ w1, w.alloc (.cells #[.string t.nm, .slice pc t.cs.length cc, .slice pk t.key.length ck, .slice px t.ix.length cx, .slice pr t.rf.length cr] 27) = w1 := ⟨_, rfl⟩
  have hb1 : Below w.heap.size w w1 := by rw [← hw1]; exact (Below.refl _ _).alloc (Nat.le_refl _) _
  have hB1 : BoxT w1 w.heap.size t ⟨pc, cc, pk, ck, px, cx, pr, cr⟩ := by rw [← hw1]; exact BoxT.new w t ⟨pc, cc, pk, ck, px, cx, pr, cr⟩
  have hz1 : w1.heap.size = w.heap.size + 1 := by rw [← hw1]; simp
  obtain ⟨w2, hw2⟩ : ∃ w2, w1.alloc (.cells #[.string nm, .slice q cs.length c, .bool un] 44) = w2 := ⟨_, rfl⟩
  have HBw : Hid (Below w.heap.size w w2) := by rw [← hw2]; exact hb1.alloc hb1.size _
  have HB2 : Hid (BoxT w2 w.heap.size t ⟨pc, cc, pk, ck, px, cx, pr, cr⟩) := by rw [← hw2]; exact hB1.on ((Below.refl w1.heap.size _).alloc (Nat.le_refl _) _) hB1.hg
  have HI2 : Hid (Blk w2 (w.heap.size + 1) #[.string nm, .slice q cs.length c, .bool un] 44) := by rw [← hw2, ← hz1]; exact Blk.new w1 _ _
  clear hb1 hB1
  cases un
  · rw [if_neg (by decide)]
    have HX : Hid (BoxT w2 w.heap.size t ⟨pc, cc, pk, ck, px, cx, pr, cr⟩ ∧ Blk w2 (w.heap.size + 1) #[.string nm, .slice q cs.length c, .bool false] 44) := ⟨HB2.out, HI2.out⟩
    go_enter Tryz.func11, Tryz.ntmps11
    go_upto_region 1 with fail
    clear hw1 hw2
    refine wp_region_L (fun w9 => BoxT w9 w.heap.size t ⟨pc, cc, pk, ck, px, cx, pr, cr⟩ ∧ Blk w9 (w.heap.size + 1) #[.string nm, .slice q cs.length c, .bool false] 44) 10 (by kernel_rfl) ?_
    have HXd : Hid (BoxT w2.drew w.heap.size t ⟨pc, cc, pk, ck, px, cx, pr, cr⟩ ∧ Blk w2.drew (w.heap.size + 1) #[.string nm, .slice q cs.length c, .bool false] 44) := ⟨HX.out.1.on ((Below.refl _ _).drew) HX.out.1.hg, HX.out.2.on ((Below.refl _ _).drew)⟩
    have HBd : Hid (Below w.heap.size w w2.drew) := HBw.out.trans (((Below.refl w2.heap.size _).drew).mono HBw.out.size)
    generalize w2.drew = wd at *
    refine wpL_take (v := ?_) 0 rfl (by kernel_rfl) (fun _ _ _ h => h) (by rfl) ?_ HXd.out ?_
    rotate_left
    focus
      intro w9 hw9
      obtain ⟨⟨_, c0, c1, c2, c3, c4⟩, hi⟩ := hw9
      have i0 := hi.cell (i := 0) rfl
      have i1 := hi.cell (i := 1) rfl
      have i2 := hi.cell (i := 2) rfl
      dsimp only at c1 c2 c3 c4
      go_simp
      try with_reducible rfl
    try simp only [Act.put, List.setIfInBounds_toArray, List.set_cons_zero, List.set_cons_succ]
    refine wpL_take (v := ?_) 1 rfl (by kernel_rfl) (fun _ _ _ h => h) (by rfl) ?_ HXd.out ?_
    rotate_left
    focus
      intro w9 hw9
      obtain ⟨⟨_, c0, c1, c2, c3, c4⟩, hi⟩ := hw9
      have i0 := hi.cell (i := 0) rfl
      have i1 := hi.cell (i := 1) rfl
      have i2 := hi.cell (i := 2) rfl
      dsimp only at c1 c2 c3 c4
      go_simp
      try with_reducible rfl
    try simp only [Act.put, List.setIfInBounds_toArray, List.set_cons_zero, List.set_cons_succ]
    refine wpL_take (v := ?_) 2 rfl (by kernel_rfl) (fun _ _ _ h => h) (by rfl) ?_ HXd.out ?_
    rotate_left
    focus
      intro w9 hw9
      obtain ⟨⟨_, c0, c1, c2, c3, c4⟩, hi⟩ := hw9
      have i0 := hi.cell (i := 0) rfl
      have i1 := hi.cell (i := 1) rfl
      have i2 := hi.cell (i := 2) rfl
      dsimp only at c1 c2 c3 c4
      go_simp
      try with_reducible rfl
    try simp only [Act.put, List.setIfInBounds_toArray, List.set_cons_zero, List.set_cons_succ]
    refine wpL_take (v := ?_) 3 rfl (by kernel_rfl) (fun _ _ _ h => h) (by rfl) ?_ HXd.out ?_
    rotate_left
    focus
      intro w9 hw9
      obtain ⟨⟨_, c0, c1, c2, c3, c4⟩, hi⟩ := hw9
      have i0 := hi.cell (i := 0) rfl
      have i1 := hi.cell (i := 1) rfl
      have i2 := hi.cell (i := 2) rfl
      dsimp only at c1 c2 c3 c4
      go_simp
      try with_reducible rfl
    try simp only [Act.put, List.setIfInBounds_toArray, List.set_cons_zero, List.set_cons_succ]
    refine wpL_take (v := ?_) 4 rfl (by kernel_rfl) (fun _ _ _ h => h) (by rfl) ?_ HXd.out ?_
    rotate_left
    focus
      intro w9 hw9
      obtain ⟨⟨_, c0, c1, c2, c3, c4⟩, hi⟩ := hw9
      have i0 := hi.cell (i := 0) rfl
      have i1 := hi.cell (i := 1) rfl
      have i2 := hi.cell (i := 2) rfl
      dsimp only at c1 c2 c3 c4
      go_simp
      try with_reducible rfl
    try simp only [Act.put, List.setIfInBounds_toArray, List.set_cons_zero, List.set_cons_succ]
    refine wpL_take (v := ?_) 5 rfl (by kernel_rfl) (fun _ _ _ h => h) (by rfl) ?_ HXd.out ?_
    rotate_left
    focus
      intro w9 hw9
      obtain ⟨⟨_, c0, c1, c2, c3, c4⟩, hi⟩ := hw9
      have i0 := hi.cell (i := 0) rfl
      have i1 := hi.cell (i := 1) rfl
      have i2 := hi.cell (i := 2) rfl
      dsimp only at c1 c2 c3 c4
      go_simp
      try with_reducible rfl
    try simp only [Act.put, List.setIfInBounds_toArray, List.set_cons_zero, List.set_cons_succ]
    refine wpL_take (v := ?_) 6 rfl (by kernel_rfl) (fun _ _ _ h => h) (by rfl) ?_ HXd.out ?_
    rotate_left
    focus
      intro w9 hw9
      obtain ⟨⟨_, c0, c1, c2, c3, c4⟩, hi⟩ := hw9
      have i0 := hi.cell (i := 0) rfl
      have i1 := hi.cell (i := 1) rfl
      have i2 := hi.cell (i := 2) rfl
      dsimp only at c1 c2 c3 c4
      go_simp
      try with_reducible rfl
    try simp only [Act.put, List.setIfInBounds_toArray, List.set_cons_zero, List.set_cons_succ]
    refine wpL_one 7 rfl (by kernel_rfl) (by rfl) ?_
    intro K2 hK2
    go_simp
    refine (listText_any t ⟨pc, cc, pk, ck, px, cx, pr, cr⟩ cs q c wd (HV.out.on HBd.out) HT.out (HR.out.on HBd.out) HL.out).mono ?_
    rintro e w3 ⟨rfl, hb⟩
    have HX3 : Hid (BoxT w3 w.heap.size t ⟨pc, cc, pk, ck, px, cx, pr, cr⟩ ∧ Blk w3 (w.heap.size + 1) #[.string nm, .slice q cs.length c, .bool false] 44) := ⟨HXd.out.1.on hb HXd.out.1.hg, HXd.out.2.on hb⟩
    have HB3 : Hid (Below w.heap.size w w3) := HBd.out.trans (hb.mono HBd.out.size)
    clear hb HXd HBd
    rw [hr]
    dsimp only
    refine hK2.out _ _ (fun _ => HX3.out) ?_
    clear hK2 K2
    try simp only [Act.put, List.setIfInBounds_toArray, List.set_cons_zero, List.set_cons_succ]
    refine wpL_take (v := ?_) 8 rfl (by kernel_rfl) (fun _ _ _ h => h) (by rfl) ?_ HX3.out ?_
    rotate_left
    focus
      intro w9 hw9
      go_simp
      try with_reducible rfl
    try simp only [Act.put, List.setIfInBounds_toArray, List.set_cons_zero, List.set_cons_succ]
    refine wpL_take (v := ?_) 9 rfl (by kernel_rfl) (fun _ _ _ h => h) (by rfl) ?_ HX3.out ?_
    rotate_left
    focus
      intro w9 hw9
      go_simp
      try with_reducible rfl
    try simp only [Act.put, List.setIfInBounds_toArray, List.set_cons_zero, List.set_cons_succ]
    refine wpL_done (by kernel_rfl) ?_ _
    try simp only [NoPanic]
    obtain ⟨hx3, hi3⟩ := HX3.out
    have i0 := hi3.cell (i := 0) rfl
    have i1 := hi3.cell (i := 1) rfl
    have i2 := hi3.cell (i := 2) rfl
    go_wp2_with fail
    go_ret
    exact ⟨rfl, HB3.out⟩
  · rw [if_pos rfl]
    have HX : Hid (BoxT w2 w.heap.size t ⟨pc, cc, pk, ck, px, cx, pr, cr⟩ ∧ Blk w2 (w.heap.size + 1) #[.string nm, .slice q cs.length c, .bool true] 44) := ⟨HB2.out, HI2.out⟩
    go_enter Tryz.func11, Tryz.ntmps11
    go_upto_region 1 with fail
    clear hw1 hw2
    refine wp_region_L (fun w9 => BoxT w9 w.heap.size t ⟨pc, cc, pk, ck, px, cx, pr, cr⟩ ∧ Blk w9 (w.heap.size + 1) #[.string nm, .slice q cs.length c, .bool true] 44) 10 (by kernel_rfl) ?_
    have HXd : Hid (BoxT w2.drew w.heap.size t ⟨pc, cc, pk, ck, px, cx, pr, cr⟩ ∧ Blk w2.drew (w.heap.size + 1) #[.string nm, .slice q cs.length c, .bool true] 44) := ⟨HX.out.1.on ((Below.refl _ _).drew) HX.out.1.hg, HX.out.2.on ((Below.refl _ _).drew)⟩
    have HBd : Hid (Below w.heap.size w w2.drew) := HBw.out.trans (((Below.refl w2.heap.size _).drew).mono HBw.out.size)
    generalize w2.drew = wd at *
    refine wpL_take (v := ?_) 0 rfl (by kernel_rfl) (fun _ _ _ h => h) (by rfl) ?_ HXd.out ?_
    rotate_left
    focus
      intro w9 hw9
      obtain ⟨⟨_, c0, c1, c2, c3, c4⟩, hi⟩ := hw9
      have i0 := hi.cell (i := 0) rfl
      have i1 := hi.cell (i := 1) rfl
      have i2 := hi.cell (i := 2) rfl
      dsimp only at c1 c2 c3 c4
      go_simp
      try with_reducible rfl
    try simp only [Act.put, List.setIfInBounds_toArray, List.set_cons_zero, List.set_cons_succ]
    refine wpL_take (v := ?_) 1 rfl (by kernel_rfl) (fun _ _ _ h => h) (by rfl) ?_ HXd.out ?_
    rotate_left
    focus
      intro w9 hw9
      obtain ⟨⟨_, c0, c1, c2, c3, c4⟩, hi⟩ := hw9
      have i0 := hi.cell (i := 0) rfl
      have i1 := hi.cell (i := 1) rfl
      have i2 := hi.cell (i := 2) rfl
      dsimp only at c1 c2 c3 c4
      go_simp
      try with_reducible rfl
    try simp only [Act.put, List.setIfInBounds_toArray, List.set_cons_zero, List.set_cons_succ]
    refine wpL_take (v := ?_) 2 rfl (by kernel_rfl) (fun _ _ _ h => h) (by rfl) ?_ HXd.out ?_
    rotate_left
    focus
      intro w9 hw9
      obtain ⟨⟨_, c0, c1, c2, c3, c4⟩, hi⟩ := hw9
      have i0 := hi.cell (i := 0) rfl
      have i1 := hi.cell (i := 1) rfl
      have i2 := hi.cell (i := 2) rfl
      dsimp only at c1 c2 c3 c4
      go_simp
      try with_reducible rfl
    try simp only [Act.put, List.setIfInBounds_toArray, List.set_cons_zero, List.set_cons_succ]
    refine wpL_take (v := ?_) 3 rfl (by kernel_rfl) (fun _ _ _ h => h) (by rfl) ?_ HXd.out ?_
    rotate_left
    focus
      intro w9 hw9
      obtain ⟨⟨_, c0, c1, c2, c3, c4⟩, hi⟩ := hw9
      have i0 := hi.cell (i := 0) rfl
      have i1 := hi.cell (i := 1) rfl
      have i2 := hi.cell (i := 2) rfl
      dsimp only at c1 c2 c3 c4
      go_simp
      try with_reducible rfl
    try simp only [Act.put, List.setIfInBounds_toArray, List.set_cons_zero, List.set_cons_succ]
    refine wpL_take (v := ?_) 4 rfl (by kernel_rfl) (fun _ _ _ h => h) (by rfl) ?_ HXd.out ?_
    rotate_left
    focus
      intro w9 hw9
      obtain ⟨⟨_, c0, c1, c2, c3, c4⟩, hi⟩ := hw9
      have i0 := hi.cell (i := 0) rfl
      have i1 := hi.cell (i := 1) rfl
      have i2 := hi.cell (i := 2) rfl
      dsimp only at c1 c2 c3 c4
      go_simp
      try with_reducible rfl
    try simp only [Act.put, List.setIfInBounds_toArray, List.set_cons_zero, List.set_cons_succ]
    refine wpL_take (v := ?_) 5 rfl (by kernel_rfl) (fun _ _ _ h => h) (by rfl) ?_ HXd.out ?_
    rotate_left
    focus
      intro w9 hw9
      obtain ⟨⟨_, c0, c1, c2, c3, c4⟩, hi⟩ := hw9
      have i0 := hi.cell (i := 0) rfl
      have i1 := hi.cell (i := 1) rfl
      have i2 := hi.cell (i := 2) rfl
      dsimp only at c1 c2 c3 c4
      go_simp
      try with_reducible rfl
    try simp only [Act.put, List.setIfInBounds_toArray, List.set_cons_zero, List.set_cons_succ]
    refine wpL_take (v := ?_) 6 rfl (by kernel_rfl) (fun _ _ _ h => h) (by rfl) ?_ HXd.out ?_
    rotate_left
    focus
      intro w9 hw9
      obtain ⟨⟨_, c0, c1, c2, c3, c4⟩, hi⟩ := hw9
      have i0 := hi.cell (i := 0) rfl
      have i1 := hi.cell (i := 1) rfl
      have i2 := hi.cell (i := 2) rfl
      dsimp only at c1 c2 c3 c4
      go_simp
      try with_reducible rfl
    try simp only [Act.put, List.setIfInBounds_toArray, List.set_cons_zero, List.set_cons_succ]
    refine wpL_one 7 rfl (by kernel_rfl) (by rfl) ?_
    intro K2 hK2
    go_simp
    refine (listText_any t ⟨pc, cc, pk, ck, px, cx, pr, cr⟩ cs q c wd (HV.out.on HBd.out) HT.out (HR.out.on HBd.out) HL.out).mono ?_
    rintro e w3 ⟨rfl, hb⟩
    have HX3 : Hid (BoxT w3 w.heap.size t ⟨pc, cc, pk, ck, px, cx, pr, cr⟩ ∧ Blk w3 (w.heap.size + 1) #[.string nm, .slice q cs.length c, .bool true] 44) := ⟨HXd.out.1.on hb HXd.out.1.hg, HXd.out.2.on hb⟩
    have HB3 : Hid (Below w.heap.size w w3) := HBd.out.trans (hb.mono HBd.out.size)
    clear hb HXd HBd
    rw [hr]
    dsimp only
    refine hK2.out _ _ (fun _ => HX3.out) ?_
    clear hK2 K2
    try simp only [Act.put, List.setIfInBounds_toArray, List.set_cons_zero, List.set_cons_succ]
    refine wpL_take (v := ?_) 8 rfl (by kernel_rfl) (fun _ _ _ h => h) (by rfl) ?_ HX3.out ?_
    rotate_left
    focus
      intro w9 hw9
      go_simp
      try with_reducible rfl
    try simp only [Act.put, List.setIfInBounds_toArray, List.set_cons_zero, List.set_cons_succ]
    refine wpL_take (v := ?_) 9 rfl (by kernel_rfl) (fun _ _ _ h => h) (by rfl) ?_ HX3.out ?_
    rotate_left
    focus
      intro w9 hw9
      go_simp
      try with_reducible rfl
    try simp only [Act.put, List.setIfInBounds_toArray, List.set_cons_zero, List.set_cons_succ]
    refine wpL_done (by kernel_rfl) ?_ _
    try simp only [NoPanic]
    obtain ⟨hx3, hi3⟩ := HX3.out
    have i0 := hi3.cell (i := 0) rfl
    have i1 := hi3.cell (i := 1) rfl
    have i2 := hi3.cell (i := 2) rfl
    go_wp2_with fail
    go_ret
    exact ⟨rfl, HB3.out⟩

end Go.Proofs.YthbjheiogghjnaaGreatDoor
