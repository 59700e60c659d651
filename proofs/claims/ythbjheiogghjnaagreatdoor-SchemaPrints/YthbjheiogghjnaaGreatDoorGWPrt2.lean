/- Print of any table. The walks of admitsValue and admitsValues. -/
import Derived.Maps.AppendAt
import Derived.Test.YthbjheiogghjnaaGreatDoorGWPrt1
import Derived.Test.YthbjheiogghjnaaGreatDoorGWChkX
import Derived.Test.YthbjheiogghjnaaGreatDoorGWRIx
import Derived.Test.YthbjheiogghjnaaGreatDoorGWQuiet
namespace Go.Proofs.YthbjheiogghjnaaGreatDoor
open Go.RowKit
set_option maxRecDepth 100000

def prtE (D : Vl → ByteArray) (t : Tb) : Int := if checkS t = 0 then (if 262144 < (prtS D t).size then 3 else 0) else checkS t
def prtO (D : Vl → ByteArray) (t : Tb) : ByteArray := if checkS t = 0 then (if 262144 < (prtS D t).size then ⟨#[]⟩ else prtS D t) else ⟨#[]⟩
/-- 'append(l, text)' where the order is drawn -/
theorem wp_appS1 {o : Oper} {a : Act} {K : Act → World → Prop} {Q : Exit → Act → World → Prop} (w : World) (s x : Operand)
    (ho : o.op = .call { callee := .builtin .append, args := #[s, x], argTypes := #[35, 35] })
    (B : Nat) (v : Value) (L : List ByteArray) (hs : a.eval s = v) (hown : OwnS w B v L)
    (u : ByteArray) (g : Nat) (hx : a.eval x = .slice (some ⟨g, 0, none⟩) 1 1) (hC : w.cell? ⟨g, 0, none⟩ = some (.string u))
    (hlen : L.length + 1 ≤ 8796093022208) (hbase : B ≤ w.heap.size)
    (h : ∀ v' w', OwnS w' B v' (L ++ [u]) → Below B w w' → (∀ (g : Nat) (cs : Array Value) (T : TypeId), T ≠ 9 → Blk w g cs T → Blk w' g cs T) → K (a.put o.dst v') w') : Oper.wp Tryz.prog o a w K Q := by
  obtain ⟨i, hi, hz0, hz1, hz2⟩ := info_parts1 info_str
  obtain ⟨v', w', hr, h2, h3, h4, h5⟩ := run_append_own_at (P := Tryz.prog) w B 35 o.type 9 i (.string ⟨#[]⟩) 1 16 Tryz.underlying35 hi hz0 hz1 hz2 rfl (by decide) v L.length (L.map Value.string) hown ⟨g, 0, none⟩ 1 1 [.string u] rfl (by
    intro j y hj
    have hj' : j = 0 := by
      have := (List.getElem?_eq_some_iff.1 hj).1
      simpa using this
    subst hj'
    simp at hj
    subst hj
    have e : (⟨g, 0, none⟩ : Addr).add 0 = ⟨g, 0, none⟩ := by unfold Addr.add; split <;> simp_all
    rw [e]
    exact hC) (by
    intro y hy
    simp at hy
    subst hy
    rfl) (by unfold maxLen; omega) (by omega) hbase
  unfold Oper.wp execOp
  simp only [ho, resolve, invoke, builtin, Sem.run_bind, Sem.run_pure, Result.andThen_ok, List.map_toArray, List.map_cons, List.map_nil, hs, hx, hr]
  refine h v' w' ?_ ((Below.refl _ _).grown h3 hbase (fun k hk => (hown.lt k hk).1)) (fun g cs T hT hb => (h3.block g hb.lt (fun e => ?_)).trans hb)
  rotate_left
  · rcases hown.2 with ⟨rfl, _⟩ | ⟨g', cap, cur, rfl, _, hg, _⟩
    · cases e
    · have e2 : g = g' := by simpa [Value.ownBlock] using e
      subst e2
      rw [show w.heap[g]? = some (.cells cs T (0, 0)) from hb] at hg
      cases hg
      exact hT rfl
  unfold OwnS
  rw [List.map_append, List.length_append]
  exact h2
theorem takeC {α : Type} (L : List α) (f : α → ByteArray) (j : Nat) (hj : j < L.length) (M : List ByteArray) : M ++ (L.take (j + 1)).map f = M ++ (L.take j).map f ++ [f L[j]] := by
  rw [← List.take_append_getElem hj, List.map_append, List.map_singleton, List.append_assoc]

set_option maxHeartbeats 16000000 in
theorem print_any (D : Vl → ByteArray) (t : Tb) (a : TabP) (w : World) (hV : TabV w w.heap.size t a) (hok : t.ok) (hE : Env w) (hK : KWa w) (hD : ∀ c ∈ t.cs, (D c.df).size ≤ 200000)
    (hTx : ∀ c ∈ t.cs, ∀ w1, Below w.heap.size w w1 → Calls Tryz.prog 27 #[.agg #[.int .i64 c.df.k, .int .i64 c.df.n, .float .f64 c.df.f, .string c.df.s]] w1 fun e w' => ∃ er : Int, e = .returned (.tuple #[.string (D c.df), .int .i64 er]) ∧ Below w1.heap.size w1 w') :
    Calls Tryz.prog 4 #[a.val t] w fun e w' => e = .returned (.tuple #[.string (prtO D t), .int .i64 (prtE D t)]) ∧ Below w.heap.size w w' := by
  obtain ⟨pc, cc, pk, ck, px, cx, pr, cr⟩ := a
  have CC : Hid (∀ w1, Below w.heap.size w w1 → Calls Tryz.prog 8 #[.agg #[.string t.nm, .slice pc t.cs.length cc, .slice pk t.key.length ck, .slice px t.ix.length cx, .slice pr t.rf.length cr]] w1 fun e w' => e = .returned (.int .i64 (checkS t)) ∧ Below w1.heap.size w1 w') := fun w1 hb => check_anyT t ⟨pc, cc, pk, ck, px, cx, pr, cr⟩ w1 (hV.on hb) hok (hE.on hb)
  have HV : Hid (TabV w w.heap.size t ⟨pc, cc, pk, ck, px, cx, pr, cr⟩) := hV
  have HK : Hid (KWa w) := hK
  have HD : Hid (∀ c ∈ t.cs, (D c.df).size ≤ 200000) := hD
  have HTx : Hid (∀ c ∈ t.cs, ∀ w1, Below w.heap.size w w1 → Calls Tryz.prog 27 #[.agg #[.int .i64 c.df.k, .int .i64 c.df.n, .float .f64 c.df.f, .string c.df.s]] w1 fun e w' => ∃ er : Int, e = .returned (.tuple #[.string (D c.df), .int .i64 er]) ∧ Below w1.heap.size w1 w') := hTx
  have hb0 : Below w.heap.size w (w.alloc (.cells #[.string t.nm, .slice pc t.cs.length cc, .slice pk t.key.length ck, .slice px t.ix.length cx, .slice pr t.rf.length cr] 27)) := by go_grown
  have HB : Hid (BoxT (w.alloc (.cells #[.string t.nm, .slice pc t.cs.length cc, .slice pk t.key.length ck, .slice px t.ix.length cx, .slice pr t.rf.length cr] 27)) w.heap.size t ⟨pc, cc, pk, ck, px, cx, pr, cr⟩) := BoxT.new w t ⟨pc, cc, pk, ck, px, cx, pr, cr⟩
  have hsf := run_store_float
  clear hV hok hE hK hD hTx
  unfold TabP.val
  dsimp only
  go_enter Tryz.func4, Tryz.ntmps4
  go_wp2_with fail
  refine (CC.out _ hb0).mono ?_
  rintro e w1 ⟨rfl, hb1⟩
  have HBw1 : Hid (Below w.heap.size w w1) := hb0.trans (hb1.mono hb0.size)
  have HB1 : Hid (BoxT w1 w.heap.size t ⟨pc, cc, pk, ck, px, cx, pr, cr⟩) := HB.out.on hb1 HB.out.hg
  clear hb0 hb1 HB CC
  by_cases hc : checkS t = 0
  · have hT := TOk.of hc
    have HT : Hid (TOk t) := hT
    have hPs : (jn ⟨#[44, 10, 32, 32]⟩ (prtL D t)).size ≤ 20000000 := by
      have h1 := jn_size ⟨#[44, 10, 32, 32]⟩ 200200 (prtL D t) (prtL_size hT HD.out)
      rw [prtL_len, show (⟨#[44, 10, 32, 32]⟩ : ByteArray).size = 4 from rfl] at h1
      have h2 := hT.c2
      have h3 := hT.x2
      have h4 := hT.r2
      have h5 : (t.cs.length + 1 + t.ix.length + t.rf.length) * (200200 + 4) ≤ 97 * 200204 := Nat.mul_le_mul (by omega) (by omega)
      omega
    have HPs : Hid ((jn ⟨#[44, 10, 32, 32]⟩ (prtL D t)).size ≤ 20000000 ∧ t.nm.size ≤ 63) := ⟨hPs, hT.nm⟩
    have HLn : Hid (t.cs.length ≤ 64 ∧ t.ix.length ≤ 16 ∧ t.rf.length ≤ 16) := ⟨hT.c2, hT.x2, hT.r2⟩
    clear hT hPs
    have HPO : Hid (prtO D t = if 262144 < (prtS D t).size then ⟨#[]⟩ else prtS D t) := if_pos hc
    have HPE : Hid (prtE D t = if 262144 < (prtS D t).size then 3 else 0) := if_pos hc
    rw [hc]
    clear hc
    have e1 := HB1.out.c1
    dsimp only at e1
    go_wp2_with fail
    clear e1
    go_loopw [5, 21] (fun v i wr => ∃ j : Nat, j ≤ t.cs.length ∧ i = .int .i64 (j : Int) ∧ Hid (OwnS wr (w.heap.size + 1) v ([] ++ (t.cs.take j).map (colS D))) ∧ Hid (BoxT wr w.heap.size t ⟨pc, cc, pk, ck, px, cx, pr, cr⟩) ∧ Hid (Below w.heap.size w wr)) (fun _ i _ => t.cs.length - (intOf i).toNat)
    case atStart => exact ⟨0, Nat.zero_le _, by go_num, OwnS.nil _ _, HB1.out, HBw1.out⟩
    case round =>
      obtain ⟨j, hj, rfl, HO, HBr, HBw⟩ := hrel
      clear HB1 HBw1
      by_cases hj0 : j = t.cs.length
      · subst hj0
        have HO2 : Hid (OwnS wr (w.heap.size + 1) u5 (t.cs.map (colS D))) := by
          have h := HO.out
          rw [List.take_of_length_le (Nat.le_refl _), List.nil_append] at h
          exact h
        clear HO
        generalize wr = w2 at *
        have CL : Hid (Calls Tryz.prog 10 #[.agg #[.string t.nm, .slice pc t.cs.length cc, .slice pk t.key.length ck, .slice px t.ix.length cx, .slice pr t.rf.length cr], .slice pk t.key.length ck] w2 fun e w' => e = .returned (.string (lstS t t.key)) ∧ Below w2.heap.size w2 w') := listText_any t ⟨pc, cc, pk, ck, px, cx, pr, cr⟩ t.key pk ck w2 (HV.out.on HBw.out) HT.out (HV.out.key.on HBw.out) HT.out.key
        have hls := lstS_size HT.out HT.out.key.2
        have HPk : Hid ((⟨#[112, 114, 105, 109, 97, 114, 121, 32, 107, 101, 121, 32]⟩ : ByteArray) ++ lstS t t.key = pkS t) := rfl
        obtain ⟨r, hr⟩ : ∃ r, lstS t t.key = r := ⟨_, rfl⟩
        rw [hr] at CL hls HPk
        clear hr
        have hs0 : ¬ 9223372036854775807 < 12 + r.size := by omega
        clear hls
        have e0 := HBr.out.c0
        have e1 := HBr.out.c1
        have e2 := HBr.out.c2
        have e3 := HBr.out.c3
        have e4 := HBr.out.c4
        dsimp only at e1 e2 e3 e4
        go_wp2_with fail
        refine CL.out.mono ?_
        rintro e w3 ⟨rfl, hb⟩
        have HO3 : Hid (OwnS w3 (w.heap.size + 1) u5 (t.cs.map (colS D))) := HO2.out.kept hb
        have HB3 : Hid (BoxT w3 w.heap.size t ⟨pc, cc, pk, ck, px, cx, pr, cr⟩) := HBr.out.on hb HBr.out.hg
        have HBw3 : Hid (Below w.heap.size w w3) := HBw.out.trans (hb.mono HBw.out.size)
        have hz3 := HB3.out.hg
        clear hb HO2 HBr HBw CL e0 e1 e2 e3 e4
        have hlk : (t.cs.map (colS D)).length + 1 ≤ 8796093022208 := by
          have := HLn.out.1
          rw [List.length_map]
          omega
        go_wp2_with (first | (at_builtin; go_loud (refine wpList_appS w3 rfl (.tmp 31) (.tmp 37) rfl (w.heap.size + 1) u5 _ (by rfl) HO3.out ((⟨#[112, 114, 105, 109, 97, 114, 121, 32, 107, 101, 121, 32]⟩ : ByteArray) ++ r) _ (by rfl) (by first | rfl | simp) hlk (by omega) ?_); intro v4 w4 h6 h7; have e3 := (HB3.out.on h7 (Nat.lt_succ_self _)).c3; dsimp only at e3))
        have HO4 : Hid (OwnS w4 (w.heap.size + 1) v4 (t.cs.map (colS D) ++ [pkS t])) := by rw [HPk.out] at h6; exact h6
        have HB4 : Hid (BoxT w4 w.heap.size t ⟨pc, cc, pk, ck, px, cx, pr, cr⟩) := HB3.out.on h7 (by omega)
        have HBw4 : Hid (Below w.heap.size w w4) := HBw3.out.trans (h7.mono (by omega))
        clear h6 h7 HO3 HB3 HBw3 hz3 hlk HPk hs0
        go_wp2_with fail
        clear e3
        go_loopw [5, 42] (fun v i wr => ∃ j : Nat, j ≤ t.ix.length ∧ i = .int .i64 (j : Int) ∧ Hid (OwnS wr (w.heap.size + 1) v ((t.cs.map (colS D) ++ [pkS t]) ++ (t.ix.take j).map (ixS t))) ∧ Hid (BoxT wr w.heap.size t ⟨pc, cc, pk, ck, px, cx, pr, cr⟩) ∧ Hid (Below w.heap.size w wr)) (fun _ i _ => t.ix.length - (intOf i).toNat)
        case atStart => exact ⟨0, Nat.zero_le _, by go_num, by show OwnS _ _ _ ((t.cs.map (colS D) ++ [pkS t]) ++ []); rw [List.append_nil]; exact HO4.out, HB4.out, HBw4.out⟩
        case round =>
          obtain ⟨j2, hj2, rfl, HO, HBr, HBw⟩ := hrel
          clear HO4 HB4 HBw4
          by_cases hj20 : j2 = t.ix.length
          · subst hj20
            have HO2 : Hid (OwnS wr (w.heap.size + 1) u5 ((t.cs.map (colS D) ++ [pkS t] ++ t.ix.map (ixS t)))) := by
              have h := HO.out
              rw [List.take_of_length_le (Nat.le_refl _)] at h
              exact h
            clear HO
            generalize wr = w5 at *
            have e4 := HBr.out.c4
            dsimp only at e4
            go_wp2_with fail
            clear e4
            go_loopw [5, 56] (fun v i wr => ∃ j : Nat, j ≤ t.rf.length ∧ i = .int .i64 (j : Int) ∧ Hid (OwnS wr (w.heap.size + 1) v ((t.cs.map (colS D) ++ [pkS t] ++ t.ix.map (ixS t)) ++ (t.rf.take j).map (rfS t))) ∧ Hid (BoxT wr w.heap.size t ⟨pc, cc, pk, ck, px, cx, pr, cr⟩) ∧ Hid (Below w.heap.size w wr)) (fun _ i _ => t.rf.length - (intOf i).toNat)
            case atStart => exact ⟨0, Nat.zero_le _, by go_num, by show OwnS _ _ _ ((t.cs.map (colS D) ++ [pkS t] ++ t.ix.map (ixS t)) ++ []); rw [List.append_nil]; exact HO2.out, HBr.out, HBw.out⟩
            case round =>
              clear HO2 HBr HBw
              obtain ⟨j3, hj3, rfl, HO, HBr, HBw⟩ := hrel
              by_cases hj30 : j3 = t.rf.length
              · subst hj30
                have HO2 : Hid (OwnS wr (w.heap.size + 1) u5 (prtL D t)) := by
                  have h := HO.out
                  rw [List.take_of_length_le (Nat.le_refl _)] at h
                  exact h
                clear HO
                generalize wr = w6 at *
                have CJ : Hid (∀ w1, OwnS w1 (w.heap.size + 1) u5 (prtL D t) → Calls Tryz.prog 12 #[u5, .string ⟨#[44, 10, 32, 32]⟩] w1 fun e w' => e = .returned (.string (jn ⟨#[44, 10, 32, 32]⟩ (prtL D t))) ∧ Below w1.heap.size w1 w') := fun w1 h => joinS_any w1 _ u5 _ _ h (by rw [prtL_len]; have := HLn.out; omega) (by have := HPs.out.1; omega)
                obtain ⟨r, hr⟩ : ∃ r, jn ⟨#[44, 10, 32, 32]⟩ (prtL D t) = r := ⟨_, rfl⟩
                obtain ⟨nm, hnm⟩ : ∃ nm, t.nm = nm := ⟨_, rfl⟩
                have HPr : Hid (prtS D t = ((⟨#[99, 114, 101, 97, 116, 101, 32, 116, 97, 98, 108, 101, 32]⟩ : ByteArray) ++ nm ++ ⟨#[32, 40, 10, 32, 32]⟩ ++ r ++ ⟨#[10, 41, 10]⟩)) := by
                  show _ = _
                  unfold prtS
                  rw [hr, hnm]
                rw [hr] at CJ HPs
                clear hr
                have HNm : Hid (t.nm = nm) := hnm
                rw [hnm] at HPs
                clear hnm
                obtain ⟨hs9, hs8⟩ := HPs.out
                have hs1 : ¬ 9223372036854775807 < 13 + nm.size := by omega
                have hs2 : ¬ 9223372036854775807 < 13 + nm.size + 5 := by omega
                have hs3 : ¬ 9223372036854775807 < 13 + nm.size + 5 + r.size := by omega
                have hs4 : ¬ 9223372036854775807 < 13 + nm.size + 5 + r.size + 3 := by omega
                clear hs9 hs8
                go_upto_region 21 with fail
                refine wp_region_L (fun w9 => BoxT w9 w.heap.size t ⟨pc, cc, pk, ck, px, cx, pr, cr⟩) 9 (by kernel_rfl) ?_
                have HXd : Hid (BoxT w6.drew w.heap.size t ⟨pc, cc, pk, ck, px, cx, pr, cr⟩) := HBr.out.on ((Below.refl _ _).drew) HBr.out.hg
                have HOd : Hid (OwnS w6.drew (w.heap.size + 1) u5 (prtL D t)) := HO2.out.kept ((Below.refl _ _).drew)
                have HBd : Hid (Below w.heap.size w w6.drew) := HBw.out.trans (((Below.refl w6.heap.size _).drew).mono HBw.out.size)
                clear HBr HO2 HBw
                generalize w6.drew = wd at *
                refine wpL_take (v := ?_) 0 rfl (by kernel_rfl) (fun _ _ _ h => h) (by rfl) ?_ HXd.out ?_
                rotate_left
                focus
                  intro w9 hw9
                  obtain ⟨_, c0, c1, c2, c3, c4⟩ := hw9
                  dsimp only at c1 c2 c3 c4
                  go_simp
                  try with_reducible rfl
                try simp only [Act.put, List.setIfInBounds_toArray, List.set_cons_zero, List.set_cons_succ]
                refine wpL_take (v := ?_) 1 rfl (by kernel_rfl) (fun _ _ _ h => h) (by rfl) ?_ HXd.out ?_
                rotate_left
                focus
                  intro w9 hw9
                  obtain ⟨_, c0, c1, c2, c3, c4⟩ := hw9
                  dsimp only at c1 c2 c3 c4
                  rw [HNm.out] at c0
                  go_simp
                  try with_reducible rfl
                try simp only [Act.put, List.setIfInBounds_toArray, List.set_cons_zero, List.set_cons_succ]
                refine wpL_take (v := ?_) 2 rfl (by kernel_rfl) (fun _ _ _ h => h) (by rfl) ?_ HXd.out ?_
                rotate_left
                focus
                  intro w9 hw9
                  obtain ⟨_, c0, c1, c2, c3, c4⟩ := hw9
                  dsimp only at c1 c2 c3 c4
                  go_simp
                  try with_reducible rfl
                try simp only [Act.put, List.setIfInBounds_toArray, List.set_cons_zero, List.set_cons_succ]
                refine wpL_take (v := ?_) 3 rfl (by kernel_rfl) (fun _ _ _ h => h) (by rfl) ?_ HXd.out ?_
                rotate_left
                focus
                  intro w9 hw9
                  obtain ⟨_, c0, c1, c2, c3, c4⟩ := hw9
                  dsimp only at c1 c2 c3 c4
                  go_simp
                  try with_reducible rfl
                try simp only [Act.put, List.setIfInBounds_toArray, List.set_cons_zero, List.set_cons_succ]
                refine wpL_take (v := ?_) 4 rfl (by kernel_rfl) (fun _ _ _ h => h) (by rfl) ?_ HXd.out ?_
                rotate_left
                focus
                  intro w9 hw9
                  obtain ⟨_, c0, c1, c2, c3, c4⟩ := hw9
                  dsimp only at c1 c2 c3 c4
                  go_simp
                  try with_reducible rfl
                try simp only [Act.put, List.setIfInBounds_toArray, List.set_cons_zero, List.set_cons_succ]
                refine wpL_one 5 rfl (by kernel_rfl) (by rfl) ?_
                intro K2 hK2
                go_simp
                refine (CJ.out wd HOd.out).mono ?_
                rintro e w7 ⟨rfl, hb⟩
                have HX7 : Hid (BoxT w7 w.heap.size t ⟨pc, cc, pk, ck, px, cx, pr, cr⟩) := HXd.out.on hb HXd.out.hg
                have HB7 : Hid (Below w.heap.size w w7) := HBd.out.trans (hb.mono HBd.out.size)
                clear hb HXd HBd HOd CJ
                dsimp only
                refine hK2.out _ _ (fun _ => HX7.out) ?_
                clear hK2 K2
                try simp only [Act.put, List.setIfInBounds_toArray, List.set_cons_zero, List.set_cons_succ]
                refine wpL_take (v := ?_) 6 rfl (by kernel_rfl) (fun _ _ _ h => h) (by rfl) ?_ HX7.out ?_
                rotate_left
                focus
                  intro w9 hw9
                  go_simp
                  try with_reducible rfl
                try simp only [Act.put, List.setIfInBounds_toArray, List.set_cons_zero, List.set_cons_succ]
                refine wpL_take (v := ?_) 7 rfl (by kernel_rfl) (fun _ _ _ h => h) (by rfl) ?_ HX7.out ?_
                rotate_left
                focus
                  intro w9 hw9
                  go_simp
                  try with_reducible rfl
                try simp only [Act.put, List.setIfInBounds_toArray, List.set_cons_zero, List.set_cons_succ]
                refine wpL_take (v := ?_) 8 rfl (by kernel_rfl) (fun _ _ _ h => h) (by rfl) ?_ HX7.out ?_
                rotate_left
                focus
                  intro w9 hw9
                  go_simp
                  try with_reducible rfl
                try simp only [Act.put, List.setIfInBounds_toArray, List.set_cons_zero, List.set_cons_succ]
                refine wpL_done (by kernel_rfl) ?_ _
                try simp only [NoPanic]
                have hsz : ((⟨#[99, 114, 101, 97, 116, 101, 32, 116, 97, 98, 108, 101, 32]⟩ : ByteArray) ++ nm ++ ⟨#[32, 40, 10, 32, 32]⟩ ++ r ++ ⟨#[10, 41, 10]⟩).size = 13 + nm.size + 5 + r.size + 3 := by
                  rw [ByteArray.size_append, ByteArray.size_append, ByteArray.size_append, ByteArray.size_append]
                  rfl
                by_cases hbig : 262144 < ((⟨#[99, 114, 101, 97, 116, 101, 32, 116, 97, 98, 108, 101, 32]⟩ : ByteArray) ++ nm ++ ⟨#[32, 40, 10, 32, 32]⟩ ++ r ++ ⟨#[10, 41, 10]⟩).size
                · have HF : Hid (prtO D t = ⟨#[]⟩ ∧ prtE D t = 3) := ⟨by rw [HPO.out, HPr.out, if_pos hbig], by rw [HPE.out, HPr.out, if_pos hbig]⟩
                  clear HPO HPE HPr hsz
                  generalize ((⟨#[99, 114, 101, 97, 116, 101, 32, 116, 97, 98, 108, 101, 32]⟩ : ByteArray) ++ nm ++ ⟨#[32, 40, 10, 32, 32]⟩ ++ r ++ ⟨#[10, 41, 10]⟩) = x at *
                  go_wp2_with fail
                  refine bodyPost_ret (v := .tuple #[.string ⟨#[]⟩, .int .i64 3]) (by simp [results, Tryz.results4, go_sem]) rfl ?_
                  exact ⟨by rw [HF.out.1, HF.out.2], HB7.out⟩
                · have HF : Hid (prtO D t = ((⟨#[99, 114, 101, 97, 116, 101, 32, 116, 97, 98, 108, 101, 32]⟩ : ByteArray) ++ nm ++ ⟨#[32, 40, 10, 32, 32]⟩ ++ r ++ ⟨#[10, 41, 10]⟩) ∧ prtE D t = 0) := ⟨by rw [HPO.out, HPr.out, if_neg hbig], by rw [HPE.out, HPr.out, if_neg hbig]⟩
                  clear HPO HPE HPr hsz
                  generalize ((⟨#[99, 114, 101, 97, 116, 101, 32, 116, 97, 98, 108, 101, 32]⟩ : ByteArray) ++ nm ++ ⟨#[32, 40, 10, 32, 32]⟩ ++ r ++ ⟨#[10, 41, 10]⟩) = x at *
                  go_wp2_with fail
                  refine bodyPost_ret (v := .tuple #[.string x, .int .i64 0]) (by simp [results, Tryz.results4, go_sem]) rfl ?_
                  exact ⟨by rw [HF.out.1, HF.out.2], HB7.out⟩
              · have hj31 : j3 < t.rf.length := by omega
                obtain ⟨b, o, rfl, hbB, ⟨q, c, x0, hRx⟩, x1⟩ := HV.out.rf j3 hj31
                have hxm : t.rf[j3] ∈ t.rf := List.getElem_mem hj31
                have hxs := HT.out.rs _ hxm
                have HM : Hid ((t.cs.map (colS D) ++ [pkS t] ++ t.ix.map (ixS t)) ++ (t.rf.take (j3 + 1)).map (rfS t) = (t.cs.map (colS D) ++ [pkS t] ++ t.ix.map (ixS t)) ++ (t.rf.take j3).map (rfS t) ++ [rfS t t.rf[j3]]) := takeC t.rf (rfS t) j3 hj31 _
                obtain ⟨xl, hxl⟩ : ∃ xl, t.rf[j3] = xl := ⟨_, rfl⟩
                rw [hxl] at x0 x1 hRx hxs HM
                clear hxl hxm
                obtain ⟨cs, tb⟩ := xl
                dsimp only at x0 x1 hRx hxs
                have HRx : Hid (RowI w w.heap.size q cs) := hRx
                have HL : Hid ((∀ y ∈ cs, 0 ≤ y ∧ y < t.cs.length) ∧ cs.length ≤ 64) := hxs.2
                have hls := lstS_size HT.out hxs.2.2
                have htb := hxs.1
                unfold rfS at HM
                dsimp only at HM
                obtain ⟨r, hr⟩ : ∃ r, lstS t cs = r := ⟨_, rfl⟩
                have HM' : Hid ((t.cs.map (colS D) ++ [pkS t] ++ t.ix.map (ixS t)) ++ (t.rf.take (j3 + 1)).map (rfS t) = (t.cs.map (colS D) ++ [pkS t] ++ t.ix.map (ixS t)) ++ (t.rf.take j3).map (rfS t) ++ [(⟨#[102, 111, 114, 101, 105, 103, 110, 32, 107, 101, 121, 32]⟩ : ByteArray) ++ r ++ ⟨#[32, 114, 101, 102, 101, 114, 101, 110, 99, 101, 115, 32]⟩ ++ tb]) := by rw [← hr]; exact HM.out
                rw [hr] at hls
                have hs1 : ¬ 9223372036854775807 < 12 + r.size := by omega
                have hs2 : ¬ 9223372036854775807 < 12 + r.size + 12 := by omega
                have hs3 : ¬ 9223372036854775807 < 12 + r.size + 12 + tb.size := by omega
                clear HM hls htb hxs hRx
                have y0 := (HBw.out.cell (p := ⟨b, o + j3 * 2, none⟩) hbB).trans x0
                have y1 := (HBw.out.cell (p := ⟨b, o + j3 * 2 + 1, none⟩) hbB).trans x1
                clear x0 x1 hbB
                have hlk : ((t.cs.map (colS D) ++ [pkS t] ++ t.ix.map (ixS t)) ++ (t.rf.take j3).map (rfS t)).length + 1 ≤ 8796093022208 := by
                  have := HLn.out
                  rw [List.length_append, List.length_append, List.length_append, List.length_map, List.length_map, List.length_map, List.length_take, List.length_singleton]
                  omega
                have hal : Below wr.heap.size wr (wr.alloc (.cells #[.slice q cs.length c, .string tb] 47)) := (Below.refl _ _).alloc (Nat.le_refl _) _
                have HXa : Hid (BoxT (wr.alloc (.cells #[.slice q cs.length c, .string tb] 47)) w.heap.size t ⟨pc, cc, pk, ck, px, cx, some ⟨b, o, none⟩, cr⟩ ∧ Blk (wr.alloc (.cells #[.slice q cs.length c, .string tb] 47)) wr.heap.size #[.slice q cs.length c, .string tb] 47) := ⟨HBr.out.on hal HBr.out.hg, Blk.new wr _ _⟩
                have HOa : Hid (OwnS (wr.alloc (.cells #[.slice q cs.length c, .string tb] 47)) (w.heap.size + 1) u5 ((t.cs.map (colS D) ++ [pkS t] ++ t.ix.map (ixS t)) ++ (t.rf.take j3).map (rfS t))) := HO.out.kept hal
                have HBa : Hid (Below w.heap.size w (wr.alloc (.cells #[.slice q cs.length c, .string tb] 47))) := HBw.out.trans (hal.mono HBw.out.size)
                clear hal HO HBr HBw
                go_upto_region 19 with fail
                clear y0 y1
                generalize wr.alloc (.cells #[.slice q cs.length c, .string tb] 47) = wa at *
                generalize wr.heap.size = rb at *
                refine wp_region_L (fun w9 => BoxT w9 w.heap.size t ⟨pc, cc, pk, ck, px, cx, some ⟨b, o, none⟩, cr⟩ ∧ Blk w9 rb #[.slice q cs.length c, .string tb] 47) 13 (by kernel_rfl) ?_
                have HXd : Hid (BoxT wa.drew w.heap.size t ⟨pc, cc, pk, ck, px, cx, some ⟨b, o, none⟩, cr⟩ ∧ Blk wa.drew rb #[.slice q cs.length c, .string tb] 47) := ⟨HXa.out.1.on ((Below.refl _ _).drew) HXa.out.1.hg, HXa.out.2.on ((Below.refl _ _).drew)⟩
                have HOd : Hid (OwnS wa.drew (w.heap.size + 1) u5 ((t.cs.map (colS D) ++ [pkS t] ++ t.ix.map (ixS t)) ++ (t.rf.take j3).map (rfS t))) := HOa.out.kept ((Below.refl _ _).drew)
                have HBd : Hid (Below w.heap.size w wa.drew) := HBa.out.trans (((Below.refl wa.heap.size _).drew).mono HBa.out.size)
                clear HXa HOa HBa
                generalize wa.drew = wd at *
                refine wpL_take (v := ?_) 0 rfl (by kernel_rfl) (fun _ _ _ h => h) (by rfl) ?_ HXd.out ?_
                rotate_left
                focus
                  intro w9 hw9
                  obtain ⟨⟨_, c0, c1, c2, c3, c4⟩, hi⟩ := hw9
                  have i0 := hi.cell (i := 0) rfl
                  have i1 := hi.cell (i := 1) rfl
                  dsimp only at c1 c2 c3 c4
                  go_simp
                  try with_reducible rfl
                try simp only [Act.put, List.setIfInBounds_toArray, List.set_cons_zero, List.set_cons_succ]
                refine wpL_take (v := ?_) 1 rfl (by kernel_rfl) (fun _ _ _ h => h) (by rfl) ?_ HXd.out ?_
                rotate_left
                focus
                  intro w9 hw9
                  obtain ⟨⟨_, c0, c1, c2, c3, c4⟩, hi⟩ := hw9
                  have i0 := hi.cell (i := 0) rfl
                  have i1 := hi.cell (i := 1) rfl
                  dsimp only at c1 c2 c3 c4
                  go_simp
                  try with_reducible rfl
                try simp only [Act.put, List.setIfInBounds_toArray, List.set_cons_zero, List.set_cons_succ]
                refine wpL_take (v := ?_) 2 rfl (by kernel_rfl) (fun _ _ _ h => h) (by rfl) ?_ HXd.out ?_
                rotate_left
                focus
                  intro w9 hw9
                  obtain ⟨⟨_, c0, c1, c2, c3, c4⟩, hi⟩ := hw9
                  have i0 := hi.cell (i := 0) rfl
                  have i1 := hi.cell (i := 1) rfl
                  dsimp only at c1 c2 c3 c4
                  go_simp
                  try with_reducible rfl
                try simp only [Act.put, List.setIfInBounds_toArray, List.set_cons_zero, List.set_cons_succ]
                refine wpL_take (v := ?_) 3 rfl (by kernel_rfl) (fun _ _ _ h => h) (by rfl) ?_ HXd.out ?_
                rotate_left
                focus
                  intro w9 hw9
                  obtain ⟨⟨_, c0, c1, c2, c3, c4⟩, hi⟩ := hw9
                  have i0 := hi.cell (i := 0) rfl
                  have i1 := hi.cell (i := 1) rfl
                  dsimp only at c1 c2 c3 c4
                  go_simp
                  try with_reducible rfl
                try simp only [Act.put, List.setIfInBounds_toArray, List.set_cons_zero, List.set_cons_succ]
                refine wpL_take (v := ?_) 7 rfl (by kernel_rfl) (fun _ _ _ h => h) (by rfl) ?_ HXd.out ?_
                rotate_left
                focus
                  intro w9 hw9
                  obtain ⟨⟨_, c0, c1, c2, c3, c4⟩, hi⟩ := hw9
                  have i0 := hi.cell (i := 0) rfl
                  have i1 := hi.cell (i := 1) rfl
                  dsimp only at c1 c2 c3 c4
                  go_simp
                  try with_reducible rfl
                try simp only [Act.put, List.setIfInBounds_toArray, List.set_cons_zero, List.set_cons_succ]
                refine wpL_take (v := ?_) 8 rfl (by kernel_rfl) (fun _ _ _ h => h) (by rfl) ?_ HXd.out ?_
                rotate_left
                focus
                  intro w9 hw9
                  obtain ⟨⟨_, c0, c1, c2, c3, c4⟩, hi⟩ := hw9
                  have i0 := hi.cell (i := 0) rfl
                  have i1 := hi.cell (i := 1) rfl
                  dsimp only at c1 c2 c3 c4
                  go_simp
                  try with_reducible rfl
                try simp only [Act.put, List.setIfInBounds_toArray, List.set_cons_zero, List.set_cons_succ]
                refine wpL_one 4 rfl (by kernel_rfl) (by rfl) ?_
                intro K2 hK2
                go_simp
                refine (listText_any t ⟨pc, cc, pk, ck, px, cx, some ⟨b, o, none⟩, cr⟩ cs q c wd (HV.out.on HBd.out) HT.out (HRx.out.on HBd.out) HL.out).mono ?_
                rintro e w3 ⟨rfl, hb⟩
                have HX3 : Hid (BoxT w3 w.heap.size t ⟨pc, cc, pk, ck, px, cx, some ⟨b, o, none⟩, cr⟩ ∧ Blk w3 rb #[.slice q cs.length c, .string tb] 47) := ⟨HXd.out.1.on hb HXd.out.1.hg, HXd.out.2.on hb⟩
                have HO3 : Hid (OwnS w3 (w.heap.size + 1) u5 ((t.cs.map (colS D) ++ [pkS t] ++ t.ix.map (ixS t)) ++ (t.rf.take j3).map (rfS t))) := HOd.out.kept hb
                have HB3 : Hid (Below w.heap.size w w3) := HBd.out.trans (hb.mono HBd.out.size)
                clear hb HXd HBd HOd
                rw [hr]
                dsimp only
                refine hK2.out _ _ (fun _ => HX3.out) ?_
                clear hK2 K2
                try simp only [Act.put, List.setIfInBounds_toArray, List.set_cons_zero, List.set_cons_succ]
                refine wpL_take (v := ?_) 5 rfl (by kernel_rfl) (fun _ _ _ h => h) (by rfl) ?_ HX3.out ?_
                rotate_left
                focus
                  intro w9 hw9
                  go_simp
                  try with_reducible rfl
                try simp only [Act.put, List.setIfInBounds_toArray, List.set_cons_zero, List.set_cons_succ]
                refine wpL_take (v := ?_) 6 rfl (by kernel_rfl) (fun _ _ _ h => h) (by rfl) ?_ HX3.out ?_
                rotate_left
                focus
                  intro w9 hw9
                  go_simp
                  try with_reducible rfl
                try simp only [Act.put, List.setIfInBounds_toArray, List.set_cons_zero, List.set_cons_succ]
                refine wpL_take (v := ?_) 9 rfl (by kernel_rfl) (fun _ _ _ h => h) (by rfl) ?_ HX3.out ?_
                rotate_left
                focus
                  intro w9 hw9
                  go_simp
                  try with_reducible rfl
                try simp only [Act.put, List.setIfInBounds_toArray, List.set_cons_zero, List.set_cons_succ]
                refine wpL_one 10 rfl (by kernel_rfl) (by rfl) ?_
                intro K2 hK2
                go_simp
                have hal : Below w3.heap.size w3 (w3.alloc (.cells #[.string ((⟨#[102, 111, 114, 101, 105, 103, 110, 32, 107, 101, 121, 32]⟩ : ByteArray) ++ r ++ ⟨#[32, 114, 101, 102, 101, 114, 101, 110, 99, 101, 115, 32]⟩ ++ tb)] 9)) := (Below.refl _ _).alloc (Nat.le_refl _) _
                have HX4 : Hid (BoxT (w3.alloc (.cells #[.string ((⟨#[102, 111, 114, 101, 105, 103, 110, 32, 107, 101, 121, 32]⟩ : ByteArray) ++ r ++ ⟨#[32, 114, 101, 102, 101, 114, 101, 110, 99, 101, 115, 32]⟩ ++ tb)] 9)) w.heap.size t ⟨pc, cc, pk, ck, px, cx, some ⟨b, o, none⟩, cr⟩ ∧ Blk (w3.alloc (.cells #[.string ((⟨#[102, 111, 114, 101, 105, 103, 110, 32, 107, 101, 121, 32]⟩ : ByteArray) ++ r ++ ⟨#[32, 114, 101, 102, 101, 114, 101, 110, 99, 101, 115, 32]⟩ ++ tb)] 9)) rb #[.slice q cs.length c, .string tb] 47) := ⟨HX3.out.1.on hal HX3.out.1.hg, HX3.out.2.on hal⟩
                have HO4 : Hid (OwnS (w3.alloc (.cells #[.string ((⟨#[102, 111, 114, 101, 105, 103, 110, 32, 107, 101, 121, 32]⟩ : ByteArray) ++ r ++ ⟨#[32, 114, 101, 102, 101, 114, 101, 110, 99, 101, 115, 32]⟩ ++ tb)] 9)) (w.heap.size + 1) u5 ((t.cs.map (colS D) ++ [pkS t] ++ t.ix.map (ixS t)) ++ (t.rf.take j3).map (rfS t))) := HO3.out.kept hal
                have HB4 : Hid (Below w.heap.size w (w3.alloc (.cells #[.string ((⟨#[102, 111, 114, 101, 105, 103, 110, 32, 107, 101, 121, 32]⟩ : ByteArray) ++ r ++ ⟨#[32, 114, 101, 102, 101, 114, 101, 110, 99, 101, 115, 32]⟩ ++ tb)] 9))) := HB3.out.trans (hal.mono HB3.out.size)
                have HG4 : Hid ((w3.alloc (.cells #[.string ((⟨#[102, 111, 114, 101, 105, 103, 110, 32, 107, 101, 121, 32]⟩ : ByteArray) ++ r ++ ⟨#[32, 114, 101, 102, 101, 114, 101, 110, 99, 101, 115, 32]⟩ ++ tb)] 9)).cell? ⟨w3.heap.size, 0, none⟩ = some (.string ((⟨#[102, 111, 114, 101, 105, 103, 110, 32, 107, 101, 121, 32]⟩ : ByteArray) ++ r ++ ⟨#[32, 114, 101, 102, 101, 114, 101, 110, 99, 101, 115, 32]⟩ ++ tb))) := (Blk.new w3 _ _).cell (i := 0) rfl
                clear hal HX3 HO3 HB3
                refine hK2.out _ _ (fun _ => HX4.out) ?_
                clear hK2 K2
                try simp only [Act.put, List.setIfInBounds_toArray, List.set_cons_zero, List.set_cons_succ]
                generalize w3.alloc (.cells #[.string ((⟨#[102, 111, 114, 101, 105, 103, 110, 32, 107, 101, 121, 32]⟩ : ByteArray) ++ r ++ ⟨#[32, 114, 101, 102, 101, 114, 101, 110, 99, 101, 115, 32]⟩ ++ tb)] 9) = w4 at *
                generalize w3.heap.size = gz at *
                refine wpL_one 11 rfl (by kernel_rfl) (by rfl) ?_
                intro K2 hK2
                refine wp_appS1 w4 (.tmp 60) (.tmp 70) rfl (w.heap.size + 1) u5 _ (by rfl) HO4.out ((⟨#[102, 111, 114, 101, 105, 103, 110, 32, 107, 101, 121, 32]⟩ : ByteArray) ++ r ++ ⟨#[32, 114, 101, 102, 101, 114, 101, 110, 99, 101, 115, 32]⟩ ++ tb) gz (by rfl) HG4.out hlk (by have := HX4.out.1.hg; omega) ?_
                intro v5 w5 h5 hb5 hk5
                have HO6 : Hid (OwnS w5 (w.heap.size + 1) v5 ((t.cs.map (colS D) ++ [pkS t] ++ t.ix.map (ixS t)) ++ (t.rf.take (j3 + 1)).map (rfS t))) := by rw [HM'.out]; exact h5
                have HBr6 : Hid (BoxT w5 w.heap.size t ⟨pc, cc, pk, ck, px, cx, some ⟨b, o, none⟩, cr⟩) := HX4.out.1.on hb5 (by omega)
                have HX6 : Hid (BoxT w5 w.heap.size t ⟨pc, cc, pk, ck, px, cx, some ⟨b, o, none⟩, cr⟩ ∧ Blk w5 rb #[.slice q cs.length c, .string tb] 47) := ⟨HBr6.out, hk5 _ _ _ (by decide) HX4.out.2⟩
                have HBw6 : Hid (Below w.heap.size w w5) := HB4.out.trans (hb5.mono (by omega))
                clear h5 hb5 hk5 HO4 HX4 HB4 HG4
                refine hK2.out _ _ (fun _ => HX6.out) ?_
                clear hK2 K2
                try simp only [Act.put, List.setIfInBounds_toArray, List.set_cons_zero, List.set_cons_succ]
                refine wpL_take (v := ?_) 12 rfl (by kernel_rfl) (fun _ _ _ h => h) (by rfl) ?_ HX6.out ?_
                rotate_left
                focus
                  intro w9 hw9
                  go_simp
                  try with_reducible rfl
                try simp only [Act.put, List.setIfInBounds_toArray, List.set_cons_zero, List.set_cons_succ]
                refine wpL_done (by kernel_rfl) ?_ _
                try simp only [NoPanic]
                clear HX6
                clear hlk HM' hr hs1 hs2 hs3 HRx HL
                obtain ⟨hbd1, hbd2, hbd3⟩ := HLn.out
                go_wp2_with fail
                go_roundw
                case rel => exact ⟨j3 + 1, hj31, by go_num, HO6, HBr6, HBw6⟩
                case measure => simp [intOf]; omega
          · have hj21 : j2 < t.ix.length := by omega
            obtain ⟨b, o, rfl, hbB, x0, ⟨q, c, x1, hRx⟩, x2⟩ := HV.out.ix j2 hj21
            have hxm : t.ix[j2] ∈ t.ix := List.getElem_mem hj21
            have hxs := HT.out.xs _ hxm
            have CT0 : ∀ w1, Below w.heap.size w w1 → Calls Tryz.prog 11 #[.agg #[.string t.nm, .slice pc t.cs.length cc, .slice pk t.key.length ck, .slice (some ⟨b, o, none⟩) t.ix.length cx, .slice pr t.rf.length cr], .agg #[.string t.ix[j2].nm, .slice q t.ix[j2].cs.length c, .bool t.ix[j2].un]] w1 fun e w' => e = .returned (.string (ixS t t.ix[j2])) ∧ Below w1.heap.size w1 w' := fun w1 hb => indexText_any t ⟨pc, cc, pk, ck, some ⟨b, o, none⟩, cx, pr, cr⟩ t.ix[j2] q c w1 (HV.out.on hb) HT.out (hRx.on hb) hxs
            have HM : Hid ((t.cs.map (colS D) ++ [pkS t]) ++ (t.ix.take (j2 + 1)).map (ixS t) = (t.cs.map (colS D) ++ [pkS t]) ++ (t.ix.take j2).map (ixS t) ++ [ixS t t.ix[j2]]) := takeC t.ix (ixS t) j2 hj21 _
            obtain ⟨r, hr⟩ : ∃ r, ixS t t.ix[j2] = r := ⟨_, rfl⟩
            rw [hr] at CT0 HM
            obtain ⟨xl, hxl⟩ : ∃ xl, t.ix[j2] = xl := ⟨_, rfl⟩
            rw [hxl] at x0 x1 x2 CT0
            clear hr hxl hxs hxm hRx
            obtain ⟨nm, cs, un⟩ := xl
            dsimp only at x0 x1 x2 CT0
            have CT : Hid (∀ w1, Below w.heap.size w w1 → Calls Tryz.prog 11 #[.agg #[.string t.nm, .slice pc t.cs.length cc, .slice pk t.key.length ck, .slice (some ⟨b, o, none⟩) t.ix.length cx, .slice pr t.rf.length cr], .agg #[.string nm, .slice q cs.length c, .bool un]] w1 fun e w' => e = .returned (.string r) ∧ Below w1.heap.size w1 w') := CT0
            clear CT0
            have y0 := (HBw.out.cell (p := ⟨b, o + j2 * 3, none⟩) hbB).trans x0
            have y1 := (HBw.out.cell (p := ⟨b, o + j2 * 3 + 1, none⟩) hbB).trans x1
            have y2 := (HBw.out.cell (p := ⟨b, o + j2 * 3 + 2, none⟩) hbB).trans x2
            clear x0 x1 x2 hbB
            have hlk : ((t.cs.map (colS D) ++ [pkS t]) ++ (t.ix.take j2).map (ixS t)).length + 1 ≤ 8796093022208 := by
              have := HLn.out
              rw [List.length_append, List.length_append, List.length_map, List.length_map, List.length_take, List.length_singleton]
              omega
            have hal : Below wr.heap.size wr (wr.alloc (.cells #[.string nm, .slice q cs.length c, .bool un] 44)) := (Below.refl _ _).alloc (Nat.le_refl _) _
            have HBa : Hid (BoxT (wr.alloc (.cells #[.string nm, .slice q cs.length c, .bool un] 44)) w.heap.size t ⟨pc, cc, pk, ck, some ⟨b, o, none⟩, cx, pr, cr⟩) := HBr.out.on hal HBr.out.hg
            have e0 := HBa.out.c0
            have e1 := HBa.out.c1
            have e2 := HBa.out.c2
            have e3 := HBa.out.c3
            have e4 := HBa.out.c4
            dsimp only at e1 e2 e3 e4
            go_wp2_with fail
            clear e0 e1 e2 e3 e4
            generalize wr.alloc (.cells #[.string nm, .slice q cs.length c, .bool un] 44) = wa at *
            refine (CT.out _ (HBw.out.trans (hal.mono HBw.out.size))).mono ?_
            rintro e w2 ⟨rfl, hb2⟩
            have hb3 := hal.trans (hb2.mono hal.size)
            have HO2 : Hid (OwnS w2 (w.heap.size + 1) u5 ((t.cs.map (colS D) ++ [pkS t]) ++ (t.ix.take j2).map (ixS t))) := HO.out.kept hb3
            have HBr2 : Hid (BoxT w2 w.heap.size t ⟨pc, cc, pk, ck, some ⟨b, o, none⟩, cx, pr, cr⟩) := HBr.out.on hb3 HBr.out.hg
            have HBw2 : Hid (Below w.heap.size w w2) := HBw.out.trans (hb3.mono HBw.out.size)
            have hz2 := HBr2.out.hg
            clear hb2 hb3 hal HO HBr HBw CT y0 y1 y2 HBa
            obtain ⟨hbd1, hbd2, hbd3⟩ := HLn.out
            go_wp2_with (first | (at_builtin; go_loud (refine wpList_appS w2 rfl (.tmp 46) (.tmp 50) rfl (w.heap.size + 1) u5 _ (by rfl) HO2.out r _ (by rfl) (by first | rfl | simp) hlk (by omega) ?_); intro v6 w6 h6 h7))
            have HO6 : Hid (OwnS w6 (w.heap.size + 1) v6 ((t.cs.map (colS D) ++ [pkS t]) ++ (t.ix.take (j2 + 1)).map (ixS t))) := by rw [HM.out]; exact h6
            have HBr6 : Hid (BoxT w6 w.heap.size t ⟨pc, cc, pk, ck, some ⟨b, o, none⟩, cx, pr, cr⟩) := HBr2.out.on h7 (by omega)
            have HBw6 : Hid (Below w.heap.size w w6) := HBw2.out.trans (h7.mono (by omega))
            clear h6 h7 HO2 HBr2 HBw2 hz2 hlk HM
            go_wp2_with fail
            go_roundw
            case rel => exact ⟨j2 + 1, hj21, by go_num, HO6, HBr6, HBw6⟩
            case measure => simp [intOf]; omega
      · have hj1 : j < t.cs.length := by omega
        obtain ⟨b, o, rfl, hbB, x0, x1, x2, x3, x4, x5, x6⟩ := HV.out.cs j hj1
        have hcm : t.cs[j] ∈ t.cs := List.getElem_mem hj1
        have hcn := HT.out.cn _ hcm
        have CT0 : ∀ w1, Below w.heap.size w w1 → Calls Tryz.prog 9 #[t.cs[j].val] w1 fun e w' => e = .returned (.string (colS D t.cs[j])) ∧ Below w1.heap.size w1 w' := fun w1 hb => colText_any D t.cs[j] w1 hcn.2.1 (HK.out.on hb) hcn.1 (HD.out _ hcm) (fun w2 hb2 => HTx.out _ hcm w2 (hb.trans (hb2.mono hb.size)))
        have HM : Hid ([] ++ (t.cs.take (j + 1)).map (colS D) = [] ++ (t.cs.take j).map (colS D) ++ [colS D t.cs[j]]) := takeC t.cs (colS D) j hj1 []
        unfold Cl.val at CT0
        obtain ⟨r, hr⟩ : ∃ r, colS D t.cs[j] = r := ⟨_, rfl⟩
        rw [hr] at CT0 HM
        obtain ⟨cl, hcl⟩ : ∃ cl, t.cs[j] = cl := ⟨_, rfl⟩
        rw [hcl] at x0 x1 x2 x3 x4 x5 x6 CT0
        clear hr hcl hcn hcm
        obtain ⟨nm, kd, nl, ⟨k, n, f, s⟩⟩ := cl
        dsimp only at x0 x1 x2 x3 x4 x5 x6 CT0
        have CT : Hid (∀ w1, Below w.heap.size w w1 → Calls Tryz.prog 9 #[.agg #[.string nm, .int .i64 kd, .bool nl, .int .i64 k, .int .i64 n, .float .f64 f, .string s]] w1 fun e w' => e = .returned (.string r) ∧ Below w1.heap.size w1 w') := CT0
        clear CT0
        have y0 := (HBw.out.cell (p := ⟨b, o + j * 7, none⟩) hbB).trans x0
        have y1 := (HBw.out.cell (p := ⟨b, o + j * 7 + 1, none⟩) hbB).trans x1
        have y2 := (HBw.out.cell (p := ⟨b, o + j * 7 + 2, none⟩) hbB).trans x2
        have y3 := (HBw.out.cell (p := ⟨b, o + j * 7 + 3, none⟩) hbB).trans x3
        have y4 := (HBw.out.cell (p := ⟨b, o + j * 7 + 4, none⟩) hbB).trans x4
        have y5 := (HBw.out.cell (p := ⟨b, o + j * 7 + 5, none⟩) hbB).trans x5
        have y6 := (HBw.out.cell (p := ⟨b, o + j * 7 + 6, none⟩) hbB).trans x6
        clear x0 x1 x2 x3 x4 x5 x6 hbB
        have hlk : ([] ++ (t.cs.take j).map (colS D)).length + 1 ≤ 8796093022208 := by
          have := HLn.out.1
          rw [List.nil_append, List.length_map, List.length_take]
          omega
        have hal : Below wr.heap.size wr (wr.alloc (.cells #[.string nm, .int .i64 kd, .bool nl, .int .i64 k, .int .i64 n, .float .f64 f, .string s] 40)) := (Below.refl _ _).alloc (Nat.le_refl _) _
        go_wp2_with fail
        generalize wr.alloc (.cells #[.string nm, .int .i64 kd, .bool nl, .int .i64 k, .int .i64 n, .float .f64 f, .string s] 40) = wa at *
        refine (CT.out _ (HBw.out.trans (hal.mono HBw.out.size))).mono ?_
        rintro e w2 ⟨rfl, hb2⟩
        have hb3 := hal.trans (hb2.mono hal.size)
        have HO2 : Hid (OwnS w2 (w.heap.size + 1) u5 ([] ++ (t.cs.take j).map (colS D))) := HO.out.kept hb3
        have HBr2 : Hid (BoxT w2 w.heap.size t ⟨some ⟨b, o, none⟩, cc, pk, ck, px, cx, pr, cr⟩) := HBr.out.on hb3 HBr.out.hg
        have HBw2 : Hid (Below w.heap.size w w2) := HBw.out.trans (hb3.mono HBw.out.size)
        have hz2 := HBr2.out.hg
        clear hb2 hb3 hal HO HBr HBw CT y0 y1 y2 y3 y4 y5 y6
        obtain ⟨hbd1, hbd2, hbd3⟩ := HLn.out
        go_wp2_with (first | (at_builtin; go_loud (refine wpList_appS w2 rfl (.tmp 25) (.tmp 28) rfl (w.heap.size + 1) u5 _ (by rfl) HO2.out r _ (by rfl) (by first | rfl | simp) hlk (by omega) ?_); intro v6 w6 h6 h7))
        have HO6 : Hid (OwnS w6 (w.heap.size + 1) v6 ([] ++ (t.cs.take (j + 1)).map (colS D))) := by rw [HM.out]; exact h6
        have HBr6 : Hid (BoxT w6 w.heap.size t ⟨some ⟨b, o, none⟩, cc, pk, ck, px, cx, pr, cr⟩) := HBr2.out.on h7 (by omega)
        have HBw6 : Hid (Below w.heap.size w w6) := HBw2.out.trans (h7.mono (by omega))
        clear h6 h7 HO2 HBr2 HBw2 hz2 hlk HM
        go_wp2_with fail
        go_roundw
        case rel => exact ⟨j + 1, hj1, by go_num, HO6, HBr6, HBw6⟩
        case measure => simp [intOf]; omega
  · have HPO : Hid (prtO D t = ⟨#[]⟩) := if_neg hc
    have HPE : Hid (prtE D t = checkS t) := if_neg hc
    generalize checkS t = d at *
    go_wp2_with fail
    refine bodyPost_ret (v := .tuple #[.string ⟨#[]⟩, .int .i64 d]) (by simp [results, Tryz.results4, go_sem]) rfl ?_
    exact ⟨by rw [HPO.out, HPE.out], HBw1.out⟩

end Go.Proofs.YthbjheiogghjnaaGreatDoor

namespace Go.Proofs.YthbjheiogghjnaaGreatDoor
open Go.RowKit
set_option maxRecDepth 100000

def admE (c : Cl) (v : Vl) : Int := if v.chk = 0 then (if v.k = 0 then (if c.nl then 0 else 35) else (if v.k = c.kd then 0 else 32)) else v.chk
/-- what is told first of the values -/
def admsE (cs : List Cl) (l : List Vl) (i : Nat) : Int := match cs[i]?, l[i]? with
  | some c, some v => admE c v
  | _, _ => 0
theorem admsE_at {cs : List Cl} {l : List Vl} {i : Nat} (h1 : i < cs.length) (h2 : i < l.length) : admsE cs l i = admE cs[i] l[i] := by
  unfold admsE; rw [List.getElem?_eq_getElem h1, List.getElem?_eq_getElem h2]

set_option maxHeartbeats 4000000 in
theorem admV_any (c : Cl) (v : Vl) (w : World) (hv : v.ok) (hE : Env w) :
    Calls Tryz.prog 56 #[c.val, v.val] w fun e w' => e = .returned (.int .i64 (admE c v)) ∧ Below w.heap.size w w' := by
  have C1 : Hid (∀ w1, Below w.heap.size w w1 → Calls Tryz.prog 43 #[.agg #[.int .i64 v.k, .int .i64 v.n, .float .f64 v.f, .string v.s]] w1 fun e w' => e = .returned (.int .i64 v.chk) ∧ Below w1.heap.size w1 w') := fun w1 hb => check_ok v w1 hv (hE.on hb).hg (hE.on hb).hT
  have HC : Hid (admE c v = if v.chk = 0 then (if v.k = 0 then (if c.nl then 0 else 35) else (if v.k = c.kd then 0 else 32)) else v.chk) := rfl
  generalize admE c v = d at *
  unfold Cl.val Vl.val
  generalize v.chk = ch at *
  obtain ⟨k, n, f, s⟩ := v
  obtain ⟨nm, kd, nl, ⟨dk, dn, df, ds⟩⟩ := c
  dsimp only at C1 HC ⊢
  clear hv hE
  have hb0 : Below w.heap.size w ((w.alloc (.cells #[.string nm, .int .i64 kd, .bool nl, .int .i64 dk, .int .i64 dn, .float .f64 df, .string ds] 40)).alloc (.cells #[.int .i64 k, .int .i64 n, .float .f64 f, .string s] 38)) := by go_grown
  by_cases hch : ch = 0
  · subst hch
    rw [if_pos rfl] at HC
    by_cases hk : k = 0
    · subst hk
      rw [if_pos rfl] at HC
      cases nl
      all_goals
        go_enter Tryz.func56, Tryz.ntmps56
        go_wp2_with fail
        refine (C1.out _ hb0).mono ?_
        rintro e w5 ⟨rfl, hb5⟩
        have x0 := (hb5.cell (p := ⟨w.heap.size + 1, 0, none⟩) (by simp)).trans (show _ = some (.int .i64 0) by simp [go_sem])
        have x1 := (hb5.cell (p := ⟨w.heap.size, 1, none⟩) (by simp; omega)).trans (show _ = some (.int .i64 kd) by simp [go_sem])
        have x2 : w5.cell? ⟨w.heap.size, 2, none⟩ = some (.bool _) := (hb5.cell (p := ⟨w.heap.size, 2, none⟩) (by simp; omega)).trans (by simp [go_sem]; rfl)
        go_wp2
        go_ret
        exact ⟨errV HC.out.symm, hb0.trans (hb5.mono hb0.size)⟩
    · rw [if_neg hk] at HC
      have hk' : (k != 0) = true := by simpa using hk
      by_cases hkd : k = kd
      · subst hkd
        rw [if_pos rfl] at HC
        go_enter Tryz.func56, Tryz.ntmps56
        go_wp2_with fail
        refine (C1.out _ hb0).mono ?_
        rintro e w5 ⟨rfl, hb5⟩
        have x0 := (hb5.cell (p := ⟨w.heap.size + 1, 0, none⟩) (by simp)).trans (show _ = some (.int .i64 k) by simp [go_sem])
        have x1 := (hb5.cell (p := ⟨w.heap.size, 1, none⟩) (by simp; omega)).trans (show _ = some (.int .i64 k) by simp [go_sem])
        go_wp2
        go_ret
        exact ⟨errV HC.out.symm, hb0.trans (hb5.mono hb0.size)⟩
      · rw [if_neg hkd] at HC
        have hkd' : (k != kd) = true := by simpa using hkd
        go_enter Tryz.func56, Tryz.ntmps56
        go_wp2_with fail
        refine (C1.out _ hb0).mono ?_
        rintro e w5 ⟨rfl, hb5⟩
        have x0 := (hb5.cell (p := ⟨w.heap.size + 1, 0, none⟩) (by simp)).trans (show _ = some (.int .i64 k) by simp [go_sem])
        have x1 := (hb5.cell (p := ⟨w.heap.size, 1, none⟩) (by simp; omega)).trans (show _ = some (.int .i64 kd) by simp [go_sem])
        go_wp2
        go_ret
        exact ⟨errV HC.out.symm, hb0.trans (hb5.mono hb0.size)⟩
  · rw [if_neg hch] at HC
    go_enter Tryz.func56, Tryz.ntmps56
    go_wp2_with fail
    refine (C1.out _ hb0).mono ?_
    rintro e w5 ⟨rfl, hb5⟩
    go_wp2
    go_ret
    exact ⟨errV HC.out.symm, hb0.trans (hb5.mono hb0.size)⟩

set_option maxHeartbeats 4000000 in
theorem admVs_any (t : Tb) (a : TabP) (l : List Vl) (p : Option Addr) (cl : Nat) (w : World) (hV : TabV w w.heap.size t a) (hR : RowV w w.heap.size p l) (hn : l.length = t.cs.length) (hlen : t.cs.length ≤ 64) (hok : ∀ v ∈ l, v.ok) (hE : Env w) :
    Calls Tryz.prog 39 #[a.val t, .slice p l.length cl] w fun e w' => e = .returned (.int .i64 (firstE (admsE t.cs l) t.cs.length)) ∧ Below w.heap.size w w' := by
  obtain ⟨pc, cc, pk, ck, px, cx, pr, cr⟩ := a
  have HV : Hid (RowC w w.heap.size pc t.cs) := hV.cs
  have HR : Hid (RowV _ _ _ _) := hR
  have HOK : Hid (∀ v ∈ l, v.ok) := hok
  have HE : Hid (Env w) := hE
  have HB : Hid (BoxT _ _ _ _) := BoxT.new w t ⟨pc, cc, pk, ck, px, cx, pr, cr⟩
  have hb0 : Below w.heap.size w (w.alloc (.cells #[.string t.nm, .slice pc t.cs.length cc, .slice pk t.key.length ck, .slice px t.ix.length cx, .slice pr t.rf.length cr] 27)) := by go_grown
  have hsf := run_store_float
  obtain ⟨hz0, e0, e1, e2, e3, e4⟩ := HB.out
  dsimp only at e0 e1 e2 e3 e4
  clear hV hR hok hE
  unfold TabP.val at *
  go_enter Tryz.func39, Tryz.ntmps39
  go_wp2_with fail
  generalize hw1 : w.alloc (.cells #[.string t.nm, .slice pc t.cs.length cc, .slice pk t.key.length ck, .slice px t.ix.length cx, .slice pr t.rf.length cr] 27) = w1 at *
  clear hw1
  go_loopw [11] (fun k wr => ∃ j : Nat, j ≤ t.cs.length ∧ k = .int .i64 (j : Int) ∧ Hid (firstE (admsE t.cs l) j = 0) ∧ Hid (Below w1.heap.size w1 wr)) (fun k _ => t.cs.length - (intOf k).toNat)
  case atStart => exact ⟨0, Nat.zero_le _, by go_num, rfl, Below.refl _ _⟩
  case round =>
    obtain ⟨i, hi, rfl, hfz, hn1⟩ := hrel
    have hbw : Below w.heap.size w wr := hb0.trans (hn1.out.mono hb0.size)
    by_cases hi0 : i = t.cs.length
    · subst hi0
      go_wp2
      go_ret
      exact ⟨errV hfz.out.symm, hbw⟩
    · have hi1 : i < t.cs.length := by omega
      have hi2 : i < l.length := by omega
      obtain ⟨b, o, rfl, hbB, a0, a1, a2, a3, a4, a5, a6⟩ := HV.out i hi1
      obtain ⟨b', o', rfl, hbB', r0, r1, r2, r3⟩ := HR.out i hi2
      have k : ∀ {o : Nat} {v : Option Value}, w.cell? ⟨b, o, none⟩ = v → wr.cell? ⟨b, o, none⟩ = v := fun {o v} hc => (hbw.cell (p := ⟨b, o, none⟩) hbB).trans hc
      have y0 := k a0
      have y1 := k a1
      have y2 := k a2
      have y3 := k a3
      have y4 := k a4
      have y5 := k a5
      have y6 := k a6
      have CV : Hid (∀ w1, Below w.heap.size w w1 → Calls Tryz.prog 56 #[.agg #[.string t.cs[i].nm, .int .i64 t.cs[i].kd, .bool t.cs[i].nl, .int .i64 t.cs[i].df.k, .int .i64 t.cs[i].df.n, .float .f64 t.cs[i].df.f, .string t.cs[i].df.s], .agg #[.int .i64 l[i].k, .int .i64 l[i].n, .float .f64 l[i].f, .string l[i].s]] w1 fun e w' => e = .returned (.int .i64 (admsE t.cs l i)) ∧ Below w1.heap.size w1 w') := fun w1 hb => by
        rw [admsE_at hi1 hi2]
        exact admV_any t.cs[i] l[i] w1 (HOK.out _ (List.getElem_mem hi2)) (HE.out.on hb)
      have HX' : Hid (firstE (admsE t.cs l) (i + 1) = admsE t.cs l i) := firstE_succ hfz.out
      have HY : Hid (¬ admsE t.cs l i = 0 → firstE (admsE t.cs l) t.cs.length = admsE t.cs l i) := fun h => firstE_end hfz.out hi1 h
      have HBN : Hid (BoxC _ _ _) := BoxC.new wr t.cs[i]
      generalize t.cs[i] = c at *
      obtain ⟨nm, kd, nl, ⟨dk, dn, df, ds⟩⟩ := c
      generalize admsE t.cs l i = ce at *
      generalize l[i] = v at *
      obtain ⟨vk, vn, vf, vs⟩ := v
      dsimp only at y0 y1 y2 y3 y4 y5 y6 CV r0 r1 r2 r3
      have hbx : Below w.heap.size w (wr.alloc (.cells #[.string nm, .int .i64 kd, .bool nl, .int .i64 dk, .int .i64 dn, .float .f64 df, .string ds] 40)) := hbw.alloc hbw.size _
      obtain ⟨hzc, c0, c1, c2, c3, c4, c5, c6⟩ := HBN.out
      dsimp only at c0 c1 c2 c3 c4 c5 c6
      have s0 := (hbx.cell (p := ⟨b', _, none⟩) hbB').trans r0
      have s1 := (hbx.cell (p := ⟨b', _, none⟩) hbB').trans r1
      have s2 := (hbx.cell (p := ⟨b', _, none⟩) hbB').trans r2
      have s3 := (hbx.cell (p := ⟨b', _, none⟩) hbB').trans r3
      clear a0 a1 a2 a3 a4 a5 a6 r0 r1 r2 r3 k HBN hfz
      go_wp2_with fail
      generalize hw2 : wr.alloc (.cells #[.string nm, .int .i64 kd, .bool nl, .int .i64 dk, .int .i64 dn, .float .f64 df, .string ds] 40) = w2 at *
      have hb2w : b' < w2.heap.size := Nat.lt_of_lt_of_le hbB' hbx.size
      have g0 := InB.cell c0 hzc
      have g1 := InB.cell c1 hzc
      have g2 := InB.cell c2 hzc
      have g3 := InB.cell c3 hzc
      have g4 := InB.cell c4 hzc
      have g5 := InB.cell c5 hzc
      have g6 := InB.cell c6 hzc
      have m0 := InB.cell s0 hb2w
      have m1 := InB.cell s1 hb2w
      have m2 := InB.cell s2 hb2w
      have m3 := InB.cell s3 hb2w
      have ne2 := inB_ne w2
      have HCV : Hid (∀ q : InB w2, Below w.heap.size w q.w') := fun q => hbx.trans (q.h.mono hbx.size)
      have hn2 : Hid (Below w1.heap.size w1 w2) := by rw [← hw2]; exact hn1.out.alloc hn1.out.size _
      have i1 : (i : Int) < (l.length : Int) := by omega
      clear c0 c1 c2 c3 c4 c5 c6 s0 s1 s2 s3 y0 y1 y2 y3 y4 y5 y6 hw2
      by_cases hce : ce = 0
      · subst hce
        refine wp_region_inB (by kernel_rfl) (by kernel_rfl) ?_
        repeat (go_big_quiet_step ((go_at_call 56; exact Calls.inB (CV.out _ (HCV.out _)))))
        refine wpQuiet_nil ?_
        rintro _ ⟨⟨w5, hb5⟩, rfl⟩
        go_wp2_with fail
        go_roundw
        case rel => exact ⟨i + 1, hi1, by go_num, HX', hn2.out.trans (hb5.mono hn2.out.size)⟩
        case measure => simp [intOf]; omega
      · have hd : Hid (firstE (admsE t.cs l) t.cs.length = ce) := HY.out hce
        refine wp_region_inB (by kernel_rfl) (by kernel_rfl) ?_
        repeat (go_big_quiet_step ((go_at_call 56; exact Calls.inB (CV.out _ (HCV.out _)))))
        refine wpQuiet_nil ?_
        rintro _ ⟨⟨w5, hb5⟩, rfl⟩
        go_wp2
        go_ret
        exact ⟨errV hd.out.symm, hbx.trans (hb5.mono hbx.size)⟩

end Go.Proofs.YthbjheiogghjnaaGreatDoor
