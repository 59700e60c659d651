/- The walk of the statement on Fill: it answers true. -/
import Derived.Test.YtobgdjjicgiefaaGreatDoorLChecksT
import Derived.Test.YtobgdjjicgiefaaGreatDoorWRFill
namespace Go.Proofs.YtobgdjjicgiefaaGreatDoor
open Go.RowKit
set_option maxRecDepth 100000

/-- 'append([]int{}, l...)' -/
theorem wpList_appIs {ops : Array Oper} {rest : List Oper} {o : Oper} {a : Act} {Q : Exit → Act → World → Prop} (w : World) (hgd : o.guard = none) (s x : Operand)
    (ho : o.op = .call { callee := .builtin .append, args := #[s, x], argTypes := #[25, 25] }) (B : Nat) (v : Value) (hs : a.eval s = v) (hown : w.ownsRow B 3 1 v 0 [])
    (L : List Int) (p : Option Addr) (c : Nat) (hx : a.eval x = .slice p L.length c) (hR : RowI w w.heap.size p L) (hlen : L.length ≤ 17592186043904) (hc : L.length ≤ c) (hp : p = none → c = 0) (hbase : B ≤ w.heap.size)
    (h : ∀ v' w', OwnI w' B v' L → Below B w w' → wpList Tryz.prog ops Q rest (a.put o.dst v') w') : wpList Tryz.prog ops Q (o :: rest) a w := by
  obtain ⟨i, hi, hz0, hz1, hz2⟩ := info_parts1 info_int
  cases p with
  | none =>
    obtain rfl := hp rfl
    obtain rfl : L = [] := List.eq_nil_of_length_eq_zero (by omega)
    exact wpList_append_own_none hgd s x 25 ho B 3 i 1 Tryz.underlying25 hi v 0 [] hs hown hx (h _ _ hown (Below.refl _ _))
  | some ad =>
    refine wpList_append_own _ hgd s x 25 ho B 3 i (.int .i64 0) 1 8 Tryz.underlying25 hi hz0 hz1 hz2 rfl (by decide) v 0 [] hs hown ad L.length c (L.map (.int .i64)) hx (by simp) ?_ ?_ (by unfold maxLen; omega) (by omega) hbase ?_
    · intro j u hj
      have hjl : j < L.length := by
        have := (List.getElem?_eq_some_iff.1 hj).1
        simpa using this
      obtain ⟨b, o, e, _, hcell⟩ := hR j hjl
      injection e with e
      subst e
      have e2 : (⟨b, o, none⟩ : Addr).add j = ⟨b, o + j, none⟩ := by unfold Addr.add; split <;> simp_all
      rw [e2, hcell]
      rw [List.getElem?_map, List.getElem?_eq_getElem hjl] at hj
      simpa using hj
    · intro u hu
      obtain ⟨n, _, rfl⟩ := List.mem_map.1 hu
      rfl
    · intro v1 w1 h1 h2 _
      refine h v1 w1 ?_ ((Below.refl _ _).grown h2 hbase (fun k hk => (hown.lt k hk).1))
      unfold OwnI
      simpa using h1

set_option maxHeartbeats 4000000 in
theorem lawFills (t : Tb) (a : TabP) (cols : List Int) (pi : Option Addr) (ci : Nat) (vals : List Vl) (pv : Option Addr) (cv : Nat) (w : World) (hV : TabV w w.heap.size t a) (hok : t.ok) (hcl : t.cs.length ≤ 1954687338211) (hcl2 : t.ix.length ≤ 2932031007317)
    (hC : RowI w w.heap.size pi cols) (hci : cols.length ≤ ci) (hpi : pi = none → ci = 0) (hl1 : cols.length ≤ 17592186043904) (hR : RowV w w.heap.size pv vals) (hvo : ∀ v ∈ vals, v.ok) (hll : vals.length ≤ 3518437208784) (hE : Env w) (hK : KW w) :
    Calls Tryz.prog 7 #[a.val t, .slice pi cols.length ci, .slice pv vals.length cv] w fun e w' => e = .returned (.bool true) ∧ Below w.heap.size w w' := by
  obtain ⟨pc, cc, pk, ck, px, cx, pr, cr⟩ := a
  have hb0 : Below w.heap.size w (w.alloc (.cells #[.string t.nm, .slice pc t.cs.length cc, .slice pk t.key.length ck, .slice px t.ix.length cx, .slice pr t.rf.length cr] 29)) := by go_grown
  have HB : Hid (BoxT _ _ _ _) := BoxT.new w t ⟨pc, cc, pk, ck, px, cx, pr, cr⟩
  have hl2 : vals.length ≤ 17592186043904 := by omega
  have hfl : (fillO t cols vals).length ≤ 3518437208784 := by
    unfold fillO
    split
    · rw [show (fillR t.cs cols vals).length = t.cs.length from fillK_len _ _ _ _]; omega
    · simp
  have C1 : Hid (∀ w2 : World, Below w.heap.size w w2 → Calls Tryz.prog 13 #[.agg #[.string t.nm, .slice pc t.cs.length cc, .slice pk t.key.length ck, .slice px t.ix.length cx, .slice pr t.rf.length cr]] w2 fun e w' => ∃ a' : TabP, e = .returned (a'.val t) ∧ TabV w' w'.heap.size t a' ∧ Below w2.heap.size w2 w') := fun w2 hb => copy_any t ⟨pc, cc, pk, ck, px, cx, pr, cr⟩ w2 (hV.on hb) hok hcl hcl2
  have CR : Hid (∀ w2 : World, Below w.heap.size w w2 → Calls Tryz.prog 18 #[.slice pv vals.length cv] w2 fun e w' => ∃ v, e = .returned v ∧ OwnV w' w2.heap.size v vals ∧ Below w2.heap.size w2 w') := fun w2 hb => row_any vals pv cv w2 ((hR.keep hb).mono hb.size) hll
  have C2 : Hid (∀ (a' : TabP) (q : Option Addr) (c : Nat) (q2 : Option Addr) (c2 : Nat) (w2 : World), Below w.heap.size w w2 → TabV w2 w2.heap.size t a' → RowI w2 w2.heap.size q cols → RowV w2 w2.heap.size q2 vals → Calls Tryz.prog 20 #[a'.val t, .slice q cols.length c, .slice q2 vals.length c2] w2 fun e w' => ∃ v, e = .returned (.tuple #[v, .int .i64 (fillE t cols vals)]) ∧ OwnV w' w2.heap.size v (fillO t cols vals) ∧ Below w2.heap.size w2 w') := fun a' q c q2 c2 w2 hb h h1 h2 => fill_any t a' cols q c vals q2 c2 w2 h hok h1 h2 hl1 hl2 hvo (hE.on hb)
  have C3 : Hid (∀ w2 : World, Below w.heap.size w w2 → Calls Tryz.prog 21 #[.agg #[.string t.nm, .slice pc t.cs.length cc, .slice pk t.key.length ck, .slice px t.ix.length cx, .slice pr t.rf.length cr], .slice pi cols.length ci, .slice pv vals.length cv] w2 fun e w' => ∃ v, e = .returned (.tuple #[v, .int .i64 (fillE t cols vals)]) ∧ OwnV w' w2.heap.size v (fillO t cols vals) ∧ Below w2.heap.size w2 w') := fun w2 hb => rfill_any t ⟨pc, cc, pk, ck, px, cx, pr, cr⟩ cols pi ci vals pv cv w2 (hV.on hb) hok (hC.on hb) ((hR.keep hb).mono hb.size) hl1 hl2 hvo (hE.on hb)
  have CS : Hid (∀ (p q : Option Addr) (c d : Nat) (w2 : World), RowV w2 w2.heap.size p (fillO t cols vals) → RowV w2 w2.heap.size q (fillO t cols vals) → Calls Tryz.prog 22 #[.slice p (fillO t cols vals).length c, .slice q (fillO t cols vals).length d] w2 fun e w' => e = .returned (.bool true) ∧ Below w2.heap.size w2 w') := fun p q c d w2 h1 h2 => sameRow2 (fillO t cols vals) p q c d w2 h1 h2 hfl
  have CW : Hid (∀ w2 : World, Below w.heap.size w w2 → Calls Tryz.prog 11 #[] w2 fun e w' => e = .returned (.bool true) ∧ Below w2.heap.size w2 w') := fun w2 hb => awake3 w2 (hE.on hb) (hK.on hb)
  have HC : Hid (RowI w w.heap.size pi cols ∧ (pi = none → ci = 0)) := ⟨hC, hpi⟩
  clear hV hok hE hK hcl hcl2 hR hvo hll hl2 hC hpi hfl
  generalize fillO t cols vals = R at *
  generalize fillE t cols vals = d at *
  unfold TabP.val
  go_enter Tryz.func7, Tryz.ntmps7
  go_wp2_with fail
  refine (C1.out _ hb0).mono ?_
  rintro e w1 ⟨a1, rfl, hV1, hb1⟩
  have h01 : Below w.heap.size w w1 := hb0.trans (hb1.mono hb0.size)
  have HB1 : Hid (BoxT w1 w.heap.size t ⟨pc, cc, pk, ck, px, cx, pr, cr⟩) := HB.out.on hb1 (by simp)
  have HV1 : Hid (TabV _ _ _ _) := hV1
  clear hb0 HB hb1 hV1
  have h12 : Below w1.heap.size w1 (w1.alloc (.cells #[] 3)) := by go_grown
  have h02 : Below w.heap.size w (w1.alloc (.cells #[] 3)) := h01.trans (h12.mono h01.size)
  have hO2 : Hid ((w1.alloc (.cells #[] 3)).ownsRow w1.heap.size 3 1 (.slice (some ⟨w1.heap.size, 0, none⟩) 0 0) 0 []) := World.ownsRow_lit w1 #[] 0 (Nat.le_refl _) (Nat.zero_le _) rfl
  go_wp2_with (first | (at_builtin; refine wpList_appIs _ rfl (.tmp 14) (.tmp 15) rfl w1.heap.size (.slice (some ⟨w1.heap.size, 0, none⟩) 0 0) (by rfl) hO2.out cols pi ci (by rfl) (HC.out.1.on h02) hl1 hci HC.out.2 h12.size ?_; intro v3 w3 hO3 hb3; obtain ⟨q3, d3, rfl, hd3⟩ := owns_len hO3))
  have h13 : Below w1.heap.size w1 w3 := h12.trans hb3
  have h03 : Below w.heap.size w w3 := h01.trans (h13.mono h01.size)
  refine (CR.out _ h03).mono ?_
  rintro e w4 ⟨v4, rfl, hO4, hb4⟩
  obtain ⟨q4, d4, rfl, hR4⟩ := hO4.row
  have h14 : Below w1.heap.size w1 w4 := h13.trans (hb4.mono h13.size)
  have h04 : Below w.heap.size w w4 := h01.trans (h14.mono h01.size)
  have hI4 : RowI w4 w4.heap.size q3 cols := by
    obtain ⟨p, c, e, _, hr⟩ := (show OwnI w3 w1.heap.size _ _ from hO3).row
    injection e with e1 _ _
    subst e1
    exact hr.on hb4
  clear hO2 hO3 hb3 h12 h02 h13 h03 hO4 hb4
  go_wp2_with fail
  refine (C2.out a1 _ _ _ _ _ h04 (HV1.out.on h14) hI4 hR4).mono ?_
  rintro e w5 ⟨v5, rfl, hO5, hb5⟩
  obtain ⟨q5, d5, rfl, hR5⟩ := hO5.row
  have h15 : Below w1.heap.size w1 w5 := h14.trans (hb5.mono h14.size)
  have h05 : Below w.heap.size w w5 := h01.trans (h15.mono h01.size)
  have HB5 : Hid (BoxT w5 w.heap.size t ⟨pc, cc, pk, ck, px, cx, pr, cr⟩) := HB1.out.on h15 HB1.out.hg
  obtain ⟨hz5, e0, e1, e2, e3, e4⟩ := HB5.out
  dsimp only at e0 e1 e2 e3 e4
  clear hI4 hR4 hO5 hb5 h14 h04 HB1
  go_wp2_with fail
  refine (C3.out _ h05).mono ?_
  rintro e w6 ⟨v6, rfl, hO6, hb6⟩
  obtain ⟨q6, d6, rfl, hR6⟩ := hO6.row
  have h06 : Below w.heap.size w w6 := h05.trans (hb6.mono h05.size)
  have hR5' : RowV w6 w6.heap.size q5 R := (hR5.keep hb6).mono hb6.size
  clear hO6 hb6 e0 e1 e2 e3 e4
  go_wp2_with fail
  refine (CS.out _ _ _ _ _ hR5' hR6).mono ?_
  rintro e w7 ⟨rfl, hb7⟩
  have h07 : Below w.heap.size w w7 := h06.trans (hb7.mono h06.size)
  go_wp2_with fail
  refine (CW.out _ h07).mono ?_
  rintro e w8 ⟨rfl, hb8⟩
  go_wp2
  go_ret
  exact ⟨rfl, h07.trans (hb8.mono h07.size)⟩
end Go.Proofs.YtobgdjjicgiefaaGreatDoor
