/- The walk of Apply. The walk of Change of rows. RowTurns: the law's walk. -/
import Derived.Test.YtfknmblobcjapaaDoorGMApl2
import Derived.Test.YtfknmblobcjapaaDoorGLRDec
import Derived.Test.YtfknmblobcjapaaDoorGWStp
namespace Go.Proofs.YtfknmblobcjapaaDoor
open Go.RowKit
set_option maxRecDepth 100000

set_option maxHeartbeats 8000000 in
theorem apply_any (t : Tb) (a : TabP) (l : List Vl) (p : Option Addr) (cl : Nat) (s : ByteArray) (w : World) (hV : TabV w w.heap.size t a) (hok : t.ok) (hL : RowV w w.heap.size p l) (hvl : ∀ v ∈ l, v.ok) (hll : l.length ≤ 17592186043904) (hs : s.size ≤ 140737488351232) (hE : Env w) :
    Calls Tryd.prog 5 #[a.val t, .slice p l.length cl, .string s] w (AppP (appR t l s) w) := by
  have hsf := run_store_float
  have HVw : Hid (TabV w w.heap.size t a ∧ Env w ∧ RowV w w.heap.size p l) := ⟨hV, hE, hL⟩
  obtain ⟨pc, cc, pk, ck, px, cx, pr, cr⟩ := a
  have CL : Hid (∀ w1, Below w.heap.size w w1 → Calls Tryd.prog 8 #[.agg #[.string t.nm, .slice pc t.cs.length cc, .slice pk t.key.length ck, .slice px t.ix.length cx, .slice pr t.rf.length cr], .slice p l.length cl] w1 fun e w' => e = .returned (.int .i64 (admS t l)) ∧ Below w1.heap.size w1 w') := fun w1 hb => admits_any t ⟨pc, cc, pk, ck, px, cx, pr, cr⟩ l p cl w1 (hV.on hb) hok ((hL.keep hb).mono hb.size) hvl hll (hE.on hb)
  have HB : Hid (BoxT _ _ _ _) := BoxT.new w t ⟨pc, cc, pk, ck, px, cx, pr, cr⟩
  have hb0 : Below w.heap.size w (w.alloc (.cells #[.string t.nm, .slice pc t.cs.length cc, .slice pk t.key.length ck, .slice px t.ix.length cx, .slice pr t.rf.length cr] 27)) := by go_grown
  have HF : Hid (appR t l s = if admS t l = 0 then (if s.size ≤ 65536 then (match applyA t.cs l s.size l 0 s with
    | none => (none, 41)
    | some m => (some m, 0)) else (none, 3)) else (none, admS t l)) := rfl
  have HOK : Hid (admS t l = 0 → l.length = t.cs.length ∧ 1 ≤ t.cs.length ∧ t.cs.length ≤ 64 ∧ ∀ c ∈ t.cs, 1 ≤ c.kd ∧ c.kd ≤ 5) := fun h => admS_cols h
  generalize appR t l s = d at *
  generalize admS t l = el at *
  have hcc := hV.hc
  clear hV hok hL hvl hE
  unfold TabP.val
  dsimp only at hcc ⊢
  go_enter Tryd.func5, Tryd.ntmps5
  go_wp2_with fail
  refine (CL.out _ hb0).mono ?_
  rintro e w2 ⟨rfl, hb2⟩
  have HBw2 : Hid (Below w.heap.size w w2) := hb0.trans (hb2.mono (by simp))
  by_cases hel : el = 0
  · subst hel
    obtain ⟨hl1, hl2, hl3, hkd⟩ := HOK.out rfl
    have hla := Nat.le_of_eq hl1
    have hlb := Nat.le_of_eq hl1.symm
    clear hl1
    rw [if_pos rfl] at HF
    by_cases hsz : s.size ≤ 65536
    · rw [if_pos hsz] at HF
      have a1 : ¬ (65536 : Int) < (s.size : Int) := by omega
      obtain ⟨b, o, rfl, hbb, _⟩ := HVw.out.2.2 0 (by omega)
      have HBx : Hid (BoxT w2 _ _ _) := HB.out.on hb2 HB.out.hg
      have C3 : Hid (Calls _ _ _ _ _) := clone4_any l b o cl w2 ((HVw.out.2.2.keep HBw2.out).mono HBw2.out.size) (by omega) (by omega)
      have hz2 : w.heap.size + 1 ≤ w2.heap.size := by have := hb2.size; simp at this; omega
      clear hb2 HB CL HOK
      go_wp2_with fail
      refine C3.out.mono ?_
      rintro e w3 ⟨⟨g, cap, rfl, hown⟩, hb3⟩
      have HA : Hid (Ap w t ⟨pc, cc, pk, ck, px, cx, pr, cr⟩ g l.length cap l w3) := ⟨HBw2.out.trans (hb3.mono HBw2.out.size), HBx.out.on hb3 HBx.out.hg, own4_base hown hz2⟩
      have HKD : Hid (∀ c ∈ t.cs, 1 ≤ c.kd ∧ c.kd ≤ 5) := hkd
      clear C3 hown hb3 HBx HBw2 hkd hb0
      go_wp2_with fail
      go_loopw [10, 11] (fun x y wr => ∃ (next : Nat) (rest : ByteArray) (f : Nat) (acc : List Vl), next ≤ t.cs.length ∧ x = .int .i64 (next : Int) ∧ y = .string rest ∧ rest.size ≤ f ∧ f ≤ 65536 ∧ Hid (acc.length = l.length) ∧ Hid (applyA t.cs l s.size l 0 s = applyA t.cs l f acc next rest) ∧ Hid (Ap w t ⟨pc, cc, pk, ck, px, cx, pr, cr⟩ g l.length cap acc wr)) (fun _ y _ => strN y)
      case atStart => exact ⟨0, s, s.size, l, Nat.zero_le _, by go_num, rfl, Nat.le_refl _, hsz, rfl, rfl, HA⟩
      case round =>
        obtain ⟨next, rest, f, acc, hnx, rfl, rfl, hrf, hf, hacc, hAp, hA⟩ := hrel
        clear HA
        by_cases hr0 : rest.size = 0
        · have hre : rest = ⟨#[]⟩ := by
            obtain ⟨⟨q⟩⟩ := rest
            have : q = [] := by simpa [ByteArray.size] using hr0
            rw [this]
          have HY : Hid (d = (some acc, 0)) := by
            have h1 := HF.out
            rw [hAp.out] at h1
            rw [h1]
            cases f <;> simp [applyA, hr0, Hid]
          subst hre
          clear hAp HF
          go_wp2_with fail
          go_ret2
          exact AppP.yes HY.out rfl (own4_base hA.out.own (by omega)) hA.out.bl
        · obtain ⟨f, rfl⟩ : ∃ f', f = f' + 1 := ⟨f - 1, by omega⟩
          have hrn : ¬ rest = ⟨#[]⟩ := fun h => hr0 (by rw [h]; rfl)
          have hn1 : rest.toList.isEmpty = false := by
            rw [ByteArray.toList_eq]
            have h : rest.data.toList ≠ [] := fun h => hr0 (by show rest.data.size = 0; rw [← Array.length_toList, h]; rfl)
            simpa using h
          have C4 : Hid (Calls _ _ _ _ _) := readStep_any t.cs pc cc next rest wr ((HVw.out.1.cs.keep hA.out.bl).mono hA.out.bl.size) hcc hnx hl3 HKD.out (by omega) (HVw.out.2.1.on hA.out.bl)
          obtain ⟨hz1, e0, e1, e2, e3, e4⟩ := hA.out.box
          dsimp only at e0 e1 e2 e3 e4
          have HS : Hid (applyA t.cs l s.size l 0 s = match stepA t.cs next rest with
            | none => none
            | some p => if sameV (l.getD p.1 zV) p.2.1 then none else applyA t.cs l f (acc.set p.1 p.2.1) (p.1 + 1) (rest.extract p.2.2 rest.size)) := by
            show _ = _
            rw [hAp.out, applyA, if_neg hr0]
            rfl
          have HI : Hid (∀ i v k, stepA t.cs next rest = some (i, v, k) → next ≤ i ∧ i < t.cs.length ∧ 1 ≤ k ∧ k ≤ rest.size) := fun i v k h => stepA_some HKD.out (by omega) h
          clear hAp
          go_wp2_with fail
          refine C4.out.mono ?_
          rintro e w4 ⟨i, ⟨vk, vn, vf, vs⟩, k, bb, rfl, hr, hb4⟩
          have HA4 := hA.out.on hb4
          clear C4 hA e0 e1 e2 e3 e4
          have hvb : (w4.alloc (.cells #[.int .i64 vk, .int .i64 vn, .float .f64 vf, .string vs] 44)).drew.heap[w4.heap.size]? = some (.cells #[.int .i64 vk, .int .i64 vn, .float .f64 vf, .string vs] 44) := by show (w4.alloc _).heap[_]? = _; unfold World.alloc; exact Array.getElem?_push_size
          have HAq : Hid (Ap w t ⟨pc, cc, pk, ck, px, cx, pr, cr⟩ g l.length cap acc (w4.alloc (.cells #[.int .i64 vk, .int .i64 vn, .float .f64 vf, .string vs] 44)).drew) := HA4.on (by go_grown)
          have hvbl : w4.heap.size < (w4.alloc (.cells #[.int .i64 vk, .int .i64 vn, .float .f64 vf, .string vs] 44)).drew.heap.size := by simp
          unfold Vl.val
          dsimp only
          rcases hr with ⟨rfl, hst⟩ | ⟨rfl, hst⟩
          · obtain ⟨hi1, hi2, hk1, hk2⟩ := HI.out _ _ _ hst
            rw [hst] at HS
            dsimp only at HS
            have hil : i < l.length := by omega
            obtain ⟨b', o', eb, hbb', d0, d1, d2, d3⟩ := HVw.out.2.2 i hil
            cases eb
            have q0 := (HAq.out.bl.cell (p := ⟨b, o + i * 4, none⟩) hbb).trans d0
            have q1 := (HAq.out.bl.cell (p := ⟨b, o + i * 4 + 1, none⟩) hbb).trans d1
            have q2 := (HAq.out.bl.cell (p := ⟨b, o + i * 4 + 2, none⟩) hbb).trans d2
            have q3 := (HAq.out.bl.cell (p := ⟨b, o + i * 4 + 3, none⟩) hbb).trans d3
            rw [List.getD_eq_getElem?_getD, List.getElem?_eq_getElem hil, Option.getD_some] at HS
            obtain ⟨sv, hsv⟩ : ∃ sv, sameV l[i] ⟨vk, vn, vf, vs⟩ = sv := ⟨_, rfl⟩
            have CS : Hid (∀ w9, Calls Tryd.prog 9 #[.agg #[.int .i64 l[i].k, .int .i64 l[i].n, .float .f64 l[i].f, .string l[i].s], .agg #[.int .i64 vk, .int .i64 vn, .float .f64 vf, .string vs]] w9 fun e w' => e = .returned (.bool sv) ∧ Below w9.heap.size w9 w') := fun w9 => by
              have := same_any l[i].k l[i].n vk vn l[i].f vf l[i].s vs w9
              rw [← hsv]
              exact this
            rw [hsv] at HS
            generalize l[i].k = lk at *
            generalize l[i].n = ln at *
            generalize l[i].f = lf at *
            generalize l[i].s = ls at *
            clear d0 d1 d2 d3 hst HI HA4 hsv
            cases sv with
            | true =>
              have HN : Hid (d = (none, 41)) := by
                have h1 := HF.out
                rw [HS.out] at h1
                exact h1
              clear HS HF
              go_wp2_with fail
              refine wp_region_any (by kernel_rfl) ?_
              change wpAny _ _ _ _ _ _ _ (World.drew _)
              refine anyN_take (v := ?_) 0 rfl (by kernel_rfl) (by kernel_rfl) (by kernel_rfl) (fun _ _ _ h => h) (Or.inl ⟨by rfl, ?_⟩) ?_
              rotate_left
              focus
                intro w9
                go_simp
                try with_reducible rfl
              try simp only [Act.put, List.setIfInBounds_toArray, List.set_cons_zero, List.set_cons_succ]
              refine anyN_take (v := ?_) 1 rfl (by kernel_rfl) (by kernel_rfl) (by kernel_rfl) (fun _ _ _ h => h) (Or.inl ⟨by rfl, ?_⟩) ?_
              rotate_left
              focus
                intro w9
                go_simp
                try with_reducible rfl
              try simp only [Act.put, List.setIfInBounds_toArray, List.set_cons_zero, List.set_cons_succ]
              refine anyN_take (v := ?_) 2 rfl (by kernel_rfl) (by kernel_rfl) (by kernel_rfl) (fun _ _ _ h => h) (Or.inl ⟨by rfl, ?_⟩) ?_
              rotate_left
              focus
                intro w9
                go_simp
                try with_reducible rfl
              try simp only [Act.put, List.setIfInBounds_toArray, List.set_cons_zero, List.set_cons_succ]
              refine anyN_take (v := ?_) 3 rfl (by kernel_rfl) (by kernel_rfl) (by kernel_rfl) (fun _ _ _ h => h) (Or.inl ⟨by rfl, ?_⟩) ?_
              rotate_left
              focus
                intro w9
                go_simp
                try with_reducible rfl
              try simp only [Act.put, List.setIfInBounds_toArray, List.set_cons_zero, List.set_cons_succ]
              refine anyN_take (v := ?_) 4 rfl (by kernel_rfl) (by kernel_rfl) (by kernel_rfl) (fun _ _ _ h => h) (Or.inl ⟨by rfl, ?_⟩) ?_
              rotate_left
              focus
                intro w9
                go_simp
                try with_reducible rfl
              try simp only [Act.put, List.setIfInBounds_toArray, List.set_cons_zero, List.set_cons_succ]
              refine anyN_take (v := ?_) 5 rfl (by kernel_rfl) (by kernel_rfl) (by kernel_rfl) (fun _ _ _ h => h) (Or.inl ⟨by rfl, ?_⟩) ?_
              rotate_left
              focus
                intro w9
                go_simp
                try with_reducible rfl
              try simp only [Act.put, List.setIfInBounds_toArray, List.set_cons_zero, List.set_cons_succ]
              refine wpAny_ready (rs := [6, 7]) (by kernel_rfl) (by simp) ?_
              refine anyN_cons 6 rfl (by rfl) (fun K hK => ?_) (anyN_cons 7 rfl (by rfl) (fun K hK => ?_) AllReady.nil)
              · go_simp
                refine hK.out _ _ ?_
                clear hK K
                try simp only [Act.put, List.setIfInBounds_toArray, List.set_cons_zero, List.set_cons_succ]
                refine wpAny_ready (rs := [7]) (by kernel_rfl) (by simp) ?_
                refine anyN_cons 7 rfl (by rfl) (fun K hK => ?_) AllReady.nil
                go_simp
                refine hK.out _ _ ?_
                clear hK K
                try simp only [Act.put, List.setIfInBounds_toArray, List.set_cons_zero, List.set_cons_succ]
                refine wpAny_ready (rs := [8]) (by kernel_rfl) (by simp) ?_
                refine anyN_cons 8 rfl (by rfl) (fun K hK => ?_) AllReady.nil
                go_simp
                refine (CS.out _).mono ?_
                rintro e w6 ⟨rfl, hb6⟩
                dsimp only
                have HA6 : Hid (Ap _ _ _ _ _ _ _ _) := HAq.out.on hb6
                have hvb6 := (hb6.block _ hvbl).trans hvb
                refine hK.out _ _ ?_
                clear hK K
                try simp only [Act.put, List.setIfInBounds_toArray, List.set_cons_zero, List.set_cons_succ]
                refine anyN_take (v := ?_) 9 rfl (by kernel_rfl) (by kernel_rfl) (by kernel_rfl) (fun _ _ _ h => h) (Or.inl ⟨by rfl, ?_⟩) ?_
                rotate_left
                focus
                  intro w9
                  go_simp
                  try with_reducible rfl
                try simp only [Act.put, List.setIfInBounds_toArray, List.set_cons_zero, List.set_cons_succ]
                refine wpAny_done (by kernel_rfl) ?_ _
                go_wp2_with fail
                go_ret2
                exact AppP.no HN.out rfl HA6.out.bl
              · go_simp
                refine hK.out _ _ ?_
                clear hK K
                try simp only [Act.put, List.setIfInBounds_toArray, List.set_cons_zero, List.set_cons_succ]
                refine wpAny_ready (rs := [6]) (by kernel_rfl) (by simp) ?_
                refine anyN_cons 6 rfl (by rfl) (fun K hK => ?_) AllReady.nil
                go_simp
                refine hK.out _ _ ?_
                clear hK K
                try simp only [Act.put, List.setIfInBounds_toArray, List.set_cons_zero, List.set_cons_succ]
                refine wpAny_ready (rs := [8]) (by kernel_rfl) (by simp) ?_
                refine anyN_cons 8 rfl (by rfl) (fun K hK => ?_) AllReady.nil
                go_simp
                refine (CS.out _).mono ?_
                rintro e w6 ⟨rfl, hb6⟩
                dsimp only
                have HA6 : Hid (Ap _ _ _ _ _ _ _ _) := HAq.out.on hb6
                have hvb6 := (hb6.block _ hvbl).trans hvb
                refine hK.out _ _ ?_
                clear hK K
                try simp only [Act.put, List.setIfInBounds_toArray, List.set_cons_zero, List.set_cons_succ]
                refine anyN_take (v := ?_) 9 rfl (by kernel_rfl) (by kernel_rfl) (by kernel_rfl) (fun _ _ _ h => h) (Or.inl ⟨by rfl, ?_⟩) ?_
                rotate_left
                focus
                  intro w9
                  go_simp
                  try with_reducible rfl
                try simp only [Act.put, List.setIfInBounds_toArray, List.set_cons_zero, List.set_cons_succ]
                refine wpAny_done (by kernel_rfl) ?_ _
                go_wp2_with fail
                go_ret2
                exact AppP.no HN.out rfl HA6.out.bl
            | false =>
              rw [if_neg (by decide)] at HS
              go_wp2_with fail
              refine wp_region_any (by kernel_rfl) ?_
              change wpAny _ _ _ _ _ _ _ (World.drew _)
              refine anyN_take (v := ?_) 0 rfl (by kernel_rfl) (by kernel_rfl) (by kernel_rfl) (fun _ _ _ h => h) (Or.inl ⟨by rfl, ?_⟩) ?_
              rotate_left
              focus
                intro w9
                go_simp
                try with_reducible rfl
              try simp only [Act.put, List.setIfInBounds_toArray, List.set_cons_zero, List.set_cons_succ]
              refine anyN_take (v := ?_) 1 rfl (by kernel_rfl) (by kernel_rfl) (by kernel_rfl) (fun _ _ _ h => h) (Or.inl ⟨by rfl, ?_⟩) ?_
              rotate_left
              focus
                intro w9
                go_simp
                try with_reducible rfl
              try simp only [Act.put, List.setIfInBounds_toArray, List.set_cons_zero, List.set_cons_succ]
              refine anyN_take (v := ?_) 2 rfl (by kernel_rfl) (by kernel_rfl) (by kernel_rfl) (fun _ _ _ h => h) (Or.inl ⟨by rfl, ?_⟩) ?_
              rotate_left
              focus
                intro w9
                go_simp
                try with_reducible rfl
              try simp only [Act.put, List.setIfInBounds_toArray, List.set_cons_zero, List.set_cons_succ]
              refine anyN_take (v := ?_) 3 rfl (by kernel_rfl) (by kernel_rfl) (by kernel_rfl) (fun _ _ _ h => h) (Or.inl ⟨by rfl, ?_⟩) ?_
              rotate_left
              focus
                intro w9
                go_simp
                try with_reducible rfl
              try simp only [Act.put, List.setIfInBounds_toArray, List.set_cons_zero, List.set_cons_succ]
              refine anyN_take (v := ?_) 4 rfl (by kernel_rfl) (by kernel_rfl) (by kernel_rfl) (fun _ _ _ h => h) (Or.inl ⟨by rfl, ?_⟩) ?_
              rotate_left
              focus
                intro w9
                go_simp
                try with_reducible rfl
              try simp only [Act.put, List.setIfInBounds_toArray, List.set_cons_zero, List.set_cons_succ]
              refine anyN_take (v := ?_) 5 rfl (by kernel_rfl) (by kernel_rfl) (by kernel_rfl) (fun _ _ _ h => h) (Or.inl ⟨by rfl, ?_⟩) ?_
              rotate_left
              focus
                intro w9
                go_simp
                try with_reducible rfl
              try simp only [Act.put, List.setIfInBounds_toArray, List.set_cons_zero, List.set_cons_succ]
              refine wpAny_ready (rs := [6, 7]) (by kernel_rfl) (by simp) ?_
              refine anyN_cons 6 rfl (by rfl) (fun K hK => ?_) (anyN_cons 7 rfl (by rfl) (fun K hK => ?_) AllReady.nil)
              · go_simp
                refine hK.out _ _ ?_
                clear hK K
                try simp only [Act.put, List.setIfInBounds_toArray, List.set_cons_zero, List.set_cons_succ]
                refine wpAny_ready (rs := [7]) (by kernel_rfl) (by simp) ?_
                refine anyN_cons 7 rfl (by rfl) (fun K hK => ?_) AllReady.nil
                go_simp
                refine hK.out _ _ ?_
                clear hK K
                try simp only [Act.put, List.setIfInBounds_toArray, List.set_cons_zero, List.set_cons_succ]
                refine wpAny_ready (rs := [8]) (by kernel_rfl) (by simp) ?_
                refine anyN_cons 8 rfl (by rfl) (fun K hK => ?_) AllReady.nil
                go_simp
                refine (CS.out _).mono ?_
                rintro e w6 ⟨rfl, hb6⟩
                dsimp only
                have HA6 : Hid (Ap _ _ _ _ _ _ _ _) := HAq.out.on hb6
                have hvb6 := (hb6.block _ hvbl).trans hvb
                refine hK.out _ _ ?_
                clear hK K
                try simp only [Act.put, List.setIfInBounds_toArray, List.set_cons_zero, List.set_cons_succ]
                refine anyN_take (v := ?_) 9 rfl (by kernel_rfl) (by kernel_rfl) (by kernel_rfl) (fun _ _ _ h => h) (Or.inl ⟨by rfl, ?_⟩) ?_
                rotate_left
                focus
                  intro w9
                  go_simp
                  try with_reducible rfl
                try simp only [Act.put, List.setIfInBounds_toArray, List.set_cons_zero, List.set_cons_succ]
                refine wpAny_done (by kernel_rfl) ?_ _
                obtain ⟨⟨x0, x1, x2, x3⟩, f0, f1, f2, f3⟩ := HA6.out.own.at hacc.out i (by rw [hacc.out]; exact hil)
                obtain ⟨y0, y1, y2, y3⟩ := vbox_cells hvb6
                have HA7 : Hid (Ap _ _ _ _ _ _ _ _) := HA6.out.put hacc.out i (by rw [hacc.out]; exact hil) ⟨vk, vn, vf, vs⟩
                go_wp2_with fail
                go_roundw
                case rel => exact ⟨i + 1, _, f, _, by omega, by go_num, rfl, by rw [ByteArray.size_extract]; omega, by omega, (show _ = _ by rw [List.length_set]; exact hacc.out), HS, HA7⟩
                case measure => simp only [strN]; rw [ByteArray.size_extract]; omega
              · go_simp
                refine hK.out _ _ ?_
                clear hK K
                try simp only [Act.put, List.setIfInBounds_toArray, List.set_cons_zero, List.set_cons_succ]
                refine wpAny_ready (rs := [6]) (by kernel_rfl) (by simp) ?_
                refine anyN_cons 6 rfl (by rfl) (fun K hK => ?_) AllReady.nil
                go_simp
                refine hK.out _ _ ?_
                clear hK K
                try simp only [Act.put, List.setIfInBounds_toArray, List.set_cons_zero, List.set_cons_succ]
                refine wpAny_ready (rs := [8]) (by kernel_rfl) (by simp) ?_
                refine anyN_cons 8 rfl (by rfl) (fun K hK => ?_) AllReady.nil
                go_simp
                refine (CS.out _).mono ?_
                rintro e w6 ⟨rfl, hb6⟩
                dsimp only
                have HA6 : Hid (Ap _ _ _ _ _ _ _ _) := HAq.out.on hb6
                have hvb6 := (hb6.block _ hvbl).trans hvb
                refine hK.out _ _ ?_
                clear hK K
                try simp only [Act.put, List.setIfInBounds_toArray, List.set_cons_zero, List.set_cons_succ]
                refine anyN_take (v := ?_) 9 rfl (by kernel_rfl) (by kernel_rfl) (by kernel_rfl) (fun _ _ _ h => h) (Or.inl ⟨by rfl, ?_⟩) ?_
                rotate_left
                focus
                  intro w9
                  go_simp
                  try with_reducible rfl
                try simp only [Act.put, List.setIfInBounds_toArray, List.set_cons_zero, List.set_cons_succ]
                refine wpAny_done (by kernel_rfl) ?_ _
                obtain ⟨⟨x0, x1, x2, x3⟩, f0, f1, f2, f3⟩ := HA6.out.own.at hacc.out i (by rw [hacc.out]; exact hil)
                obtain ⟨y0, y1, y2, y3⟩ := vbox_cells hvb6
                have HA7 : Hid (Ap _ _ _ _ _ _ _ _) := HA6.out.put hacc.out i (by rw [hacc.out]; exact hil) ⟨vk, vn, vf, vs⟩
                go_wp2_with fail
                go_roundw
                case rel => exact ⟨i + 1, _, f, _, by omega, by go_num, rfl, by rw [ByteArray.size_extract]; omega, by omega, (show _ = _ by rw [List.length_set]; exact hacc.out), HS, HA7⟩
                case measure => simp only [strN]; rw [ByteArray.size_extract]; omega
          · have HN : Hid (d = (none, 41)) := by
              have h1 := HF.out
              rw [HS.out, hst] at h1
              exact h1
            clear HS HF HI hst
            go_wp2_with fail
            go_quiet (fail)
            go_wp2_with fail
            go_ret2
            exact AppP.no HN.out rfl (bl_drewN (HA4.on (show Below w4.heap.size w4 (w4.alloc (.cells #[.int .i64 vk, .int .i64 vn, .float .f64 vf, .string vs] 44)) by go_grown)).bl _)
    · rw [if_neg hsz] at HF
      have a1 : (65536 : Int) < (s.size : Int) := by omega
      go_wp2_with fail
      go_ret2
      exact AppP.no HF.out rfl HBw2.out
  · rw [if_neg hel] at HF
    have hel' : (el != 0) = true := by simpa using hel
    go_wp2_with fail
    go_ret2
    exact AppP.no HF.out rfl HBw2.out

end Go.Proofs.YtfknmblobcjapaaDoor

namespace Go.Proofs.YtfknmblobcjapaaDoor
open Go.RowKit
set_option maxRecDepth 100000

set_option maxHeartbeats 4000000 in
theorem change_any (t : Tb) (a : TabP) (L M : List Vl) (p q : Option Addr) (cl cm : Nat) (w : World) (hV : TabV w w.heap.size t a) (hok : t.ok) (hL : RowV w w.heap.size p L) (hM : RowV w w.heap.size q M) (hvl : ∀ v ∈ L, v.ok) (hvm : ∀ v ∈ M, v.ok) (hll : L.length ≤ 17592186043904) (hlm : M.length ≤ 17592186043904) (hcm : M.length ≤ cm) (hE : Env w) :
    Calls Tryd.prog 4 #[a.val t, .slice p L.length cl, .slice q M.length cm] w fun e w' => e = .returned (.tuple #[.string ⟨(chgR t L M).1.toArray⟩, .int .i64 (chgR t L M).2]) ∧ Below w.heap.size w w' := by
  obtain ⟨pc, cc, pk, ck, px, cx, pr, cr⟩ := a
  have CL : Hid (∀ w1, Below w.heap.size w w1 → Calls Tryd.prog 8 #[.agg #[.string t.nm, .slice pc t.cs.length cc, .slice pk t.key.length ck, .slice px t.ix.length cx, .slice pr t.rf.length cr], .slice p L.length cl] w1 fun e w' => e = .returned (.int .i64 (admS t L)) ∧ Below w1.heap.size w1 w') := fun w1 hb => admits_any t ⟨pc, cc, pk, ck, px, cx, pr, cr⟩ L p cl w1 (hV.on hb) hok ((hL.keep hb).mono hb.size) hvl hll (hE.on hb)
  have CM : Hid (∀ w1, Below w.heap.size w w1 → Calls Tryd.prog 8 #[.agg #[.string t.nm, .slice pc t.cs.length cc, .slice pk t.key.length ck, .slice px t.ix.length cx, .slice pr t.rf.length cr], .slice q M.length cm] w1 fun e w' => e = .returned (.int .i64 (admS t M)) ∧ Below w1.heap.size w1 w') := fun w1 hb => admits_any t ⟨pc, cc, pk, ck, px, cx, pr, cr⟩ M q cm w1 (hV.on hb) hok ((hM.keep hb).mono hb.size) hvm hlm (hE.on hb)
  have HB : Hid (BoxT _ _ _ _) := BoxT.new w t ⟨pc, cc, pk, ck, px, cx, pr, cr⟩
  have hb0 : Below w.heap.size w (w.alloc (.cells #[.string t.nm, .slice pc t.cs.length cc, .slice pk t.key.length ck, .slice px t.ix.length cx, .slice pr t.rf.length cr] 27)) := by go_grown
  have HF : Hid (chgR t L M = if admS t L = 0 then (if admS t M = 0 then (if (chgS L M M.length).1.length ≤ 65536 then ((chgS L M M.length).1, 0) else ([], 3)) else ([], admS t M)) else ([], admS t L)) := rfl
  have HOK : Hid (admS t L = 0 → admS t M = 0 → L.length = M.length ∧ M.length ≤ 64 ∧ ∀ v ∈ M, v.s.size ≤ 65536) := fun h1 h2 => ⟨(admS_len h1).trans (admS_len h2).symm, (admS_ok h2).2.1, (admS_ok h2).2.2⟩
  have HA : Hid (RowV w w.heap.size p L ∧ RowV w w.heap.size q M ∧ ∀ v ∈ M, v.ok) := ⟨hL, hM, hvm⟩
  clear hV hok hL hM hvl hvm hE
  generalize chgR t L M = d at *
  generalize admS t L = el at *
  generalize admS t M = em at *
  unfold TabP.val
  dsimp only
  go_enter Tryd.func4, Tryd.ntmps4
  go_wp2_with fail
  have b1 : Below w.heap.size w ((w.alloc (.cells #[.string t.nm, .slice pc t.cs.length cc, .slice pk t.key.length ck, .slice px t.ix.length cx, .slice pr t.rf.length cr] 27)).alloc (.cells #[.slice p L.length cl, .slice q M.length cm] 28)) := by go_grown
  have b2 : Below (w.alloc (.cells #[.string t.nm, .slice pc t.cs.length cc, .slice pk t.key.length ck, .slice px t.ix.length cx, .slice pr t.rf.length cr] 27)).heap.size (w.alloc (.cells #[.string t.nm, .slice pc t.cs.length cc, .slice pk t.key.length ck, .slice px t.ix.length cx, .slice pr t.rf.length cr] 27)) ((w.alloc (.cells #[.string t.nm, .slice pc t.cs.length cc, .slice pk t.key.length ck, .slice px t.ix.length cx, .slice pr t.rf.length cr] 27)).alloc (.cells #[.slice p L.length cl, .slice q M.length cm] 28)) := by go_grown
  have HB0 : Hid (BoxT ((w.alloc (.cells #[.string t.nm, .slice pc t.cs.length cc, .slice pk t.key.length ck, .slice px t.ix.length cx, .slice pr t.rf.length cr] 27)).alloc (.cells #[.slice p L.length cl, .slice q M.length cm] 28)) w.heap.size t ⟨pc, cc, pk, ck, px, cx, pr, cr⟩) := HB.out.on b2 (by simp)
  have g0 : ((w.alloc (.cells #[.string t.nm, .slice pc t.cs.length cc, .slice pk t.key.length ck, .slice px t.ix.length cx, .slice pr t.rf.length cr] 27)).alloc (.cells #[.slice p L.length cl, .slice q M.length cm] 28)).cell? ⟨w.heap.size + 1, 0, none⟩ = some (.slice p L.length cl) := by simp [go_sem]
  have g1 : ((w.alloc (.cells #[.string t.nm, .slice pc t.cs.length cc, .slice pk t.key.length ck, .slice px t.ix.length cx, .slice pr t.rf.length cr] 27)).alloc (.cells #[.slice p L.length cl, .slice q M.length cm] 28)).cell? ⟨w.heap.size + 1, 1, none⟩ = some (.slice q M.length cm) := by simp [go_sem]
  have hg : w.heap.size + 1 < ((w.alloc (.cells #[.string t.nm, .slice pc t.cs.length cc, .slice pk t.key.length ck, .slice px t.ix.length cx, .slice pr t.rf.length cr] 27)).alloc (.cells #[.slice p L.length cl, .slice q M.length cm] 28)).heap.size := by simp
  clear HB hb0 b2
  generalize (w.alloc (.cells #[.string t.nm, .slice pc t.cs.length cc, .slice pk t.key.length ck, .slice px t.ix.length cx, .slice pr t.rf.length cr] 27)).alloc (.cells #[.slice p L.length cl, .slice q M.length cm] 28) = w0 at *
  have HG : Hid (w0.cell? ⟨w.heap.size + 1, 0, none⟩ = some (.slice p L.length cl) ∧ w0.cell? ⟨w.heap.size + 1, 1, none⟩ = some (.slice q M.length cm) ∧ w.heap.size + 1 < w0.heap.size) := ⟨g0, g1, hg⟩
  clear g0 g1 hg
  go_loopw [18] (fun k wr => ∃ j : Nat, j ≤ 2 ∧ k = .int .i64 (j : Int) ∧ Hid ((1 ≤ j → el = 0) ∧ (2 ≤ j → em = 0)) ∧ Hid (Below w0.heap.size w0 wr)) (fun k _ => 2 - (intOf k).toNat)
  case atStart => exact ⟨0, Nat.zero_le _, by go_num, ⟨fun h => by omega, fun h => by omega⟩, Below.refl _ _⟩
  case round =>
    obtain ⟨j, hj, rfl, hz, hn⟩ := hrel
    have hbw : Below w.heap.size w wr := b1.trans (hn.out.mono b1.size)
    have HBr : Hid (BoxT wr w.heap.size t ⟨pc, cc, pk, ck, px, cx, pr, cr⟩) := HB0.out.on hn.out HB0.out.hg
    obtain ⟨hz1, e0, e1, e2, e3, e4⟩ := HBr.out
    dsimp only at e0 e1 e2 e3 e4
    have k0 := (hn.out.cell (p := ⟨w.heap.size + 1, 0, none⟩) HG.out.2.2).trans HG.out.1
    have k1 := (hn.out.cell (p := ⟨w.heap.size + 1, 1, none⟩) HG.out.2.2).trans HG.out.2.1
    obtain h | h | h : j = 0 ∨ j = 1 ∨ j = 2 := by omega
    · subst h
      clear k1 hz HBr
      by_cases hel : el = 0
      · subst hel
        go_wp2_with fail
        refine (CL.out _ hbw).mono ?_
        rintro e w2 ⟨rfl, hb2⟩
        go_wp2_with fail
        go_roundw
        case rel => exact ⟨1, by omega, by go_num, ⟨by simp, fun h => by omega⟩, hn.out.trans (hb2.mono hn.out.size)⟩
        case measure => simp [intOf]
      · have hel' : (el != 0) = true := by simpa using hel
        have H12 : Hid (d.1 = [] ∧ d.2 = el) := by
          have := HF.out
          rw [if_neg hel] at this
          exact ⟨congrArg Prod.fst this, congrArg Prod.snd this⟩
        go_wp2_with fail
        refine (CL.out _ hbw).mono ?_
        rintro e w2 ⟨rfl, hb2⟩
        go_wp2
        go_ret2
        exact ⟨strE H12.out.1.symm H12.out.2.symm, hbw.trans (hb2.mono hbw.size)⟩
    · subst h
      have hel : el = 0 := hz.out.1 (by omega)
      subst hel
      clear k0 hz HBr
      rw [if_pos rfl] at HF
      by_cases hem : em = 0
      · subst hem
        go_wp2_with fail
        refine (CM.out _ hbw).mono ?_
        rintro e w2 ⟨rfl, hb2⟩
        go_wp2_with fail
        go_roundw
        case rel => exact ⟨2, by omega, by go_num, ⟨by simp, by simp⟩, hn.out.trans (hb2.mono hn.out.size)⟩
        case measure => simp [intOf]
      · have hem' : (em != 0) = true := by simpa using hem
        have H12 : Hid (d.1 = [] ∧ d.2 = em) := by
          have := HF.out
          rw [if_neg hem] at this
          exact ⟨congrArg Prod.fst this, congrArg Prod.snd this⟩
        go_wp2_with fail
        refine (CM.out _ hbw).mono ?_
        rintro e w2 ⟨rfl, hb2⟩
        go_wp2
        go_ret2
        exact ⟨strE H12.out.1.symm H12.out.2.symm, hbw.trans (hb2.mono hbw.size)⟩
    · subst h
      have hel : el = 0 := hz.out.1 (by omega)
      have hem : em = 0 := hz.out.2 (by omega)
      subst hel hem
      obtain ⟨hlen, h64, hsz⟩ := HOK.out rfl rfl
      rw [if_pos rfl, if_pos rfl] at HF
      have HZ : Hid (∀ v ∈ M, v.s.size ≤ 65536) := hsz
      have HLN : Hid (L.length = M.length) := hlen
      clear k0 k1 e0 e1 e2 e3 e4 hz1 hz HBr CL CM HOK HG HB0 b1 hsz hlen
      rw [show ((2 : Nat) : Int) = 2 from rfl]
      go_wp2_with fail
      generalize wr = w3 at *
      go_loopw [11, 12, 31] (fun u x k wr => ∃ j : Nat, j ≤ M.length ∧ k = .int .i64 (j : Int) ∧ x = .int .i64 ((chgS L M j).2 : Int) ∧ Hid (OwnB wr w.heap.size u (chgS L M j).1 ∧ Keep5 w.heap.size w wr)) (fun _ _ k _ => M.length - (intOf k).toNat)
      case atStart => exact ⟨0, Nat.zero_le _, by go_num, by go_num, ⟨OwnB.nil _ _, Keep5.of_below hbw (Nat.le_refl _)⟩⟩
      case round =>
        clear hn hbw
        obtain ⟨j, hj, rfl, rfl, hO⟩ := hrel
        by_cases hj0 : j = M.length
        · subst hj0
          have hbl : (chgS L M M.length).1.length ≤ 1099511627776 := by
            have := chgS_len (L := L) HZ.out M.length
            omega
          have CLm : Hid (∀ w1 : World, OwnB w1 w.heap.size u11 (chgS L M M.length).1 → Calls Tryd.prog 12 #[u11] w1 fun e w' => e = .returned (.tuple #[.string ⟨d.1.toArray⟩, .int .i64 d.2]) ∧ Below w1.heap.size w1 w') := fun w1 h => by
            have h2 := limited_any w.heap.size u11 (chgS L M M.length).1 w1 h hbl
            have e1 : d.1 = if (chgS L M M.length).1.length ≤ 65536 then (chgS L M M.length).1 else [] := by rw [HF.out]; split <;> rfl
            have e2 : d.2 = if (chgS L M M.length).1.length ≤ 65536 then 0 else 3 := by rw [HF.out]; split <;> rfl
            rw [e1, e2]
            exact h2
          clear hbl HF
          obtain ⟨d1, d2⟩ := d
          dsimp only at CLm ⊢
          generalize chgS L M M.length = C at *
          go_wp2_with fail
          refine (CLm.out _ hO.out.1).mono ?_
          rintro e w4 ⟨rfl, hb4⟩
          have h4 := hO.out.2.below
          go_wp2
          go_ret2
          exact ⟨rfl, h4.trans (hb4.mono h4.size)⟩
        · have hj2 : j < M.length := by omega
          have hj1 : j < L.length := by have := HLN.out; omega
          obtain ⟨b, o, rfl, hbB, c0, c1, c2, c3⟩ := HA.out.1 j hj1
          obtain ⟨bm, om, rfl, hbm, d0, d1, d2, d3⟩ := HA.out.2.1 j hj2
          have hkb := hO.out.2.below
          have a0 := (hkb.cell (p := ⟨b, o + j * 4, none⟩) hbB).trans c0
          have a1 := (hkb.cell (p := ⟨b, o + j * 4 + 1, none⟩) hbB).trans c1
          have a2 := (hkb.cell (p := ⟨b, o + j * 4 + 2, none⟩) hbB).trans c2
          have a3 := (hkb.cell (p := ⟨b, o + j * 4 + 3, none⟩) hbB).trans c3
          have q0 := (hkb.cell (p := ⟨bm, om + j * 4, none⟩) hbm).trans d0
          have q1 := (hkb.cell (p := ⟨bm, om + j * 4 + 1, none⟩) hbm).trans d1
          have q2 := (hkb.cell (p := ⟨bm, om + j * 4 + 2, none⟩) hbm).trans d2
          have q3 := (hkb.cell (p := ⟨bm, om + j * 4 + 3, none⟩) hbm).trans d3
          have HS : Hid ((sameV L[j] M[j] = true → chgS L M (j + 1) = chgS L M j) ∧ (sameV L[j] M[j] = false → chgS L M (j + 1) = ((chgS L M j).1 ++ varB (j - (chgS L M j).2) ++ rowB [M[j]], j + 1))) := ⟨chgS_same hj1 hj2, chgS_else hj1 hj2⟩
          have CS : Hid (∀ w1 : World, Calls Tryd.prog 9 #[.agg #[.int .i64 (L[j]).k, .int .i64 (L[j]).n, .float .f64 (L[j]).f, .string (L[j]).s], .agg #[.int .i64 (M[j]).k, .int .i64 (M[j]).n, .float .f64 (M[j]).f, .string (M[j]).s]] w1 fun e w' => e = .returned (.bool (sameV L[j] M[j])) ∧ Below w1.heap.size w1 w') := fun w1 => same_any (L[j]).k (L[j]).n (M[j]).k (M[j]).n (L[j]).f (M[j]).f (L[j]).s (M[j]).s w1
          have HR1 : Hid (∀ w1 : World, Below w.heap.size w w1 → RowV w1 w.heap.size (some ⟨bm, om + j * 4, none⟩) [M[j]]) := fun w1 hb => (HA.out.2.1.keep hb).one j hj2
          have HR2 : Hid (M[j].ok ∧ M[j].s.size ≤ 65536) := ⟨HA.out.2.2 _ (List.getElem_mem hj2), HZ.out _ (List.getElem_mem hj2)⟩
          have hcl := chgS_len (L := L) HZ.out j
          have hcl2 : (chgS L M j).1.length ≤ 5000000 := by omega
          have hcle := chgS_le L M j
          clear c0 c1 c2 c3 d0 d1 d2 d3 hj0 hcl
          generalize sameV L[j] M[j] = sv at *
          generalize hCn : chgS L M (j + 1) = Cn at *
          obtain ⟨C, nx, hCj⟩ : ∃ C nx, chgS L M j = (C, nx) := ⟨_, _, rfl⟩
          rw [hCj] at HS hO hcl2 hcle
          simp only [hCj]
          dsimp only at HS hO hcl2 hcle ⊢
          generalize L[j] = x at *
          generalize M[j] = y at *
          obtain ⟨xk, xn, xf, xs⟩ := x
          have HY : Hid (∃ z : Vl, z = y) := ⟨y, rfl⟩
          generalize hyk : y.k = yk at *
          generalize hyn : y.n = yn at *
          generalize hyf : y.f = yf at *
          generalize hys : y.s = ys at *
          clear hyk hyn hyf
          dsimp only at a0 a1 a2 a3 q0 q1 q2 q3 CS
          cases sv
          · have HE : Hid (Cn = (C ++ varB (j - nx) ++ rowB [y], j + 1)) := HS.out.2 rfl
            clear HS
            have hsl : ∀ w1 : World, (Instr.slice 28 (.slice (some ⟨bm, om, none⟩) M.length cm) (some (.int .i64 (j : Int))) (some (.int .i64 ((j : Int) + 1))) none).run Tryd.prog w1 = .ok (.slice (some ⟨bm, om + j * 4, none⟩) 1 (cm - j)) w1 := fun w1 => slice_one bm om M.length cm j w1 hj2 hcm
            have hvl : (varB (j - nx)).length ≤ 10 := varB_len _
            have CV : Hid (∀ (v : Value) (w1 : World), w.heap.size ≤ w1.heap.size → OwnB w1 w.heap.size v C → Calls Tryd.prog 10 #[v, .int .u64 ((j : Int) - (nx : Int))] w1 fun e w' => ∃ v', e = .returned v' ∧ OwnB w' w.heap.size v' (C ++ varB (j - nx)) ∧ Keep5 w.heap.size w1 w') := fun v w1 h1 h2 => by
              have h3 := appendVarint_any w.heap.size v C (j - nx) w1 h1 h2 (by omega) (by omega)
              rw [show ((j - nx : Nat) : Int) = (j : Int) - (nx : Int) by omega] at h3
              exact h3
            have CRw : Hid (∀ (v : Value) (w1 : World), w.heap.size ≤ w1.heap.size → OwnB w1 w.heap.size v (C ++ varB (j - nx)) → Below w.heap.size w w1 → Calls Tryd.prog 11 #[v, .slice (some ⟨bm, om + j * 4, none⟩) 1 (cm - j)] w1 fun e w' => ∃ v', e = .returned v' ∧ OwnB w' w.heap.size v' (C ++ varB (j - nx) ++ rowB [y]) ∧ Keep5 w.heap.size w1 w') := fun v w1 h1 h2 h3 =>
              appendRow_any w.heap.size v (C ++ varB (j - nx)) [y] _ _ w1 h1 h2 (by rw [List.length_append]; omega) (HR1.out w1 h3) (fun u hu => by rw [List.mem_singleton.1 hu, hys]; exact HR2.out) (by simp) (by simp)
            clear hvl
            go_wp2_with fail
            go_region_with (first | (go_at_call 9; refine (CS.out _).mono ?_; rintro e w5 ⟨rfl, hb5⟩))
            all_goals
              have hk5 : Keep5 w.heap.size w w5 := hO.out.2.drew.trans (Keep5.of_below hb5 (by simpa using hkb.size))
              have HO5 : Hid (OwnB w5 w.heap.size u11 C) := hO.out.1.kept ((Below.refl wr.heap.size wr).drew.trans hb5)
              clear hO hkb hb5 CS
              go_wp2_with fail
              refine (CV.out _ _ (by have := hk5.below.size; omega) HO5.out).mono ?_
              rintro e w6 ⟨v6, rfl, hO6, hk6⟩
              have hk06 := hk5.trans hk6
              go_wp2_with fail
              refine (CRw.out _ _ (by have := hk06.below.size; omega) hO6 hk06.below).mono ?_
              rintro e w7 ⟨v7, rfl, hO7, hk7⟩
              have hk07 := hk06.trans hk7
              have R : Hid (OwnB w7 w.heap.size v7 Cn.1 ∧ Keep5 w.heap.size w w7) := ⟨by rw [HE.out]; exact hO7, hk07⟩
              have HC2 : Cn.2 = j + 1 := by rw [HE.out]
              clear hO6 hk6 hO7 hk7 hk07 hk06 hk5 HO5
              go_wp2_with fail
              go_roundw
              case rel => exact ⟨j + 1, hj2, by go_num, by rw [hCn, HC2]; go_num, by rw [hCn]; exact R⟩
              case measure => simp [intOf]; omega
          · have HE : Hid (Cn = (C, nx)) := HS.out.1 rfl
            clear HS
            go_wp2_with fail
            go_region_with (first | (go_at_call 9; refine (CS.out _).mono ?_; rintro e w5 ⟨rfl, hb5⟩))
            all_goals
              have hk5 : Keep5 w.heap.size w w5 := hO.out.2.drew.trans (Keep5.of_below hb5 (by simpa using hkb.size))
              have HO5 : OwnB w5 w.heap.size u11 C := hO.out.1.kept ((Below.refl wr.heap.size wr).drew.trans hb5)
              have R : Hid (OwnB w5 w.heap.size u11 Cn.1 ∧ Keep5 w.heap.size w w5) := ⟨by rw [HE.out]; exact HO5, hk5⟩
              have HC2 : Cn.2 = nx := by rw [HE.out]
              clear hk5 HO5 hO hkb hb5 CS
              go_wp2_with fail
              go_roundw
              case rel => exact ⟨j + 1, hj2, by go_num, by rw [hCn, HC2], by rw [hCn]; exact R⟩
              case measure => simp [intOf]; omega

end Go.Proofs.YtfknmblobcjapaaDoor

namespace Go.Proofs.YtfknmblobcjapaaDoor
open Go.RowKit
set_option maxRecDepth 100000

theorem OwnV.cap {w : World} {B g n cap : Nat} {L : List Vl} (h : OwnV w B (.slice (some ⟨g, 0, none⟩) n cap) L) : L.length ≤ cap := by
  have h' : w.ownsRow B 44 4 (.slice (some ⟨g, 0, none⟩) n cap) L.length (vcells L) := h
  rcases h'.2 with ⟨e, _⟩ | ⟨g', c', cur, e, _, _, hc, _⟩
  · cases e
  · injection e with _ _ e3
    rw [e3]
    exact hc

set_option maxHeartbeats 8000000 in
theorem lawRTur (t : Tb) (a : TabP) (L M : List Vl) (p q : Option Addr) (cl cm : Nat) (s : ByteArray) (w : World) (hV : TabV w w.heap.size t a) (hok : t.ok) (hL : RowV w w.heap.size p L) (hM : RowV w w.heap.size q M) (hvl : ∀ v ∈ L, v.ok) (hvm : ∀ v ∈ M, v.ok) (hll : L.length ≤ 3518437208784) (hlm : M.length ≤ 3518437208784) (hcl : L.length ≤ cl) (hcm : M.length ≤ cm) (hs : s.size ≤ 140737488351232) (hE : Env w) :
    Calls Tryd.prog 3 #[a.val t, .agg #[.slice p L.length cl, .slice q M.length cm], .string s] w fun e w' => e = .returned (.bool true) ∧ Below w.heap.size w w' := by
  obtain ⟨pc, cc, pk, ck, px, cx, pr, cr⟩ := a
  have hl2 : L.length ≤ 17592186043904 := by omega
  have hm2 : M.length ≤ 17592186043904 := by omega
  have hs1 : (w.alloc (.cells #[.string t.nm, .slice pc t.cs.length cc, .slice pk t.key.length ck, .slice px t.ix.length cx, .slice pr t.rf.length cr] 27)).heap.size = w.heap.size + 1 := by simp
  have b1 : Below w.heap.size w (w.alloc (.cells #[.string t.nm, .slice pc t.cs.length cc, .slice pk t.key.length ck, .slice px t.ix.length cx, .slice pr t.rf.length cr] 27)) := by go_grown
  have b2 : Below (w.alloc (.cells #[.string t.nm, .slice pc t.cs.length cc, .slice pk t.key.length ck, .slice px t.ix.length cx, .slice pr t.rf.length cr] 27)).heap.size (w.alloc (.cells #[.string t.nm, .slice pc t.cs.length cc, .slice pk t.key.length ck, .slice px t.ix.length cx, .slice pr t.rf.length cr] 27)) ((w.alloc (.cells #[.string t.nm, .slice pc t.cs.length cc, .slice pk t.key.length ck, .slice px t.ix.length cx, .slice pr t.rf.length cr] 27)).alloc (.cells #[.slice p L.length cl, .slice q M.length cm] 29)) := (Below.refl _ _).alloc (Nat.le_refl _) _
  have hb0 : Below w.heap.size w ((w.alloc (.cells #[.string t.nm, .slice pc t.cs.length cc, .slice pk t.key.length ck, .slice px t.ix.length cx, .slice pr t.rf.length cr] 27)).alloc (.cells #[.slice p L.length cl, .slice q M.length cm] 29)) := b1.trans (b2.mono (by omega))
  have HB0 : Hid (Below w.heap.size w ((w.alloc (.cells #[.string t.nm, .slice pc t.cs.length cc, .slice pk t.key.length ck, .slice px t.ix.length cx, .slice pr t.rf.length cr] 27)).alloc (.cells #[.slice p L.length cl, .slice q M.length cm] 29))) := hb0
  have hbx : BoxT ((w.alloc (.cells #[.string t.nm, .slice pc t.cs.length cc, .slice pk t.key.length ck, .slice px t.ix.length cx, .slice pr t.rf.length cr] 27)).alloc (.cells #[.slice p L.length cl, .slice q M.length cm] 29)) w.heap.size t ⟨pc, cc, pk, ck, px, cx, pr, cr⟩ := (BoxT.new w t ⟨pc, cc, pk, ck, px, cx, pr, cr⟩).on b2 (by simp)
  have HBX : Hid (∀ x, Below ((w.alloc (.cells #[.string t.nm, .slice pc t.cs.length cc, .slice pk t.key.length ck, .slice px t.ix.length cx, .slice pr t.rf.length cr] 27)).alloc (.cells #[.slice p L.length cl, .slice q M.length cm] 29)).heap.size ((w.alloc (.cells #[.string t.nm, .slice pc t.cs.length cc, .slice pk t.key.length ck, .slice px t.ix.length cx, .slice pr t.rf.length cr] 27)).alloc (.cells #[.slice p L.length cl, .slice q M.length cm] 29)) x → BoxT x w.heap.size t ⟨pc, cc, pk, ck, px, cx, pr, cr⟩) := fun x hx => hbx.on hx hbx.hg
  have hrow : ((w.alloc (.cells #[.string t.nm, .slice pc t.cs.length cc, .slice pk t.key.length ck, .slice px t.ix.length cx, .slice pr t.rf.length cr] 27)).alloc (.cells #[.slice p L.length cl, .slice q M.length cm] 29)).heap[w.heap.size + 1]? = some (.cells #[.slice p L.length cl, .slice q M.length cm] 29 (0, 0)) := by
    rw [← hs1]
    unfold World.alloc
    exact Array.getElem?_push_size
  have HRX : Hid (∀ x, Below ((w.alloc (.cells #[.string t.nm, .slice pc t.cs.length cc, .slice pk t.key.length ck, .slice px t.ix.length cx, .slice pr t.rf.length cr] 27)).alloc (.cells #[.slice p L.length cl, .slice q M.length cm] 29)).heap.size ((w.alloc (.cells #[.string t.nm, .slice pc t.cs.length cc, .slice pk t.key.length ck, .slice px t.ix.length cx, .slice pr t.rf.length cr] 27)).alloc (.cells #[.slice p L.length cl, .slice q M.length cm] 29)) x → x.cell? ⟨w.heap.size + 1, 0, none⟩ = some (.slice p L.length cl) ∧ x.cell? ⟨w.heap.size + 1, 1, none⟩ = some (.slice q M.length cm)) := fun x hx => by
    have h1 := (hx.block _ (Array.getElem?_eq_some_iff.1 hrow).1).trans hrow
    exact ⟨by simp [World.cell?, h1], by simp [World.cell?, h1]⟩
  have up : ∀ x, Below ((w.alloc (.cells #[.string t.nm, .slice pc t.cs.length cc, .slice pk t.key.length ck, .slice px t.ix.length cx, .slice pr t.rf.length cr] 27)).alloc (.cells #[.slice p L.length cl, .slice q M.length cm] 29)).heap.size ((w.alloc (.cells #[.string t.nm, .slice pc t.cs.length cc, .slice pk t.key.length ck, .slice px t.ix.length cx, .slice pr t.rf.length cr] 27)).alloc (.cells #[.slice p L.length cl, .slice q M.length cm] 29)) x → Below w.heap.size w x := fun x hx => hb0.trans (hx.mono hb0.size)
  have CM : Hid (∀ (N : List Vl) (r : Option Addr) (cn : Nat) (x : World), Below ((w.alloc (.cells #[.string t.nm, .slice pc t.cs.length cc, .slice pk t.key.length ck, .slice px t.ix.length cx, .slice pr t.rf.length cr] 27)).alloc (.cells #[.slice p L.length cl, .slice q M.length cm] 29)).heap.size ((w.alloc (.cells #[.string t.nm, .slice pc t.cs.length cc, .slice pk t.key.length ck, .slice px t.ix.length cx, .slice pr t.rf.length cr] 27)).alloc (.cells #[.slice p L.length cl, .slice q M.length cm] 29)) x → RowV x x.heap.size r N → (∀ v ∈ N, v.ok) → N.length ≤ 17592186043904 → N.length ≤ cn → Calls Tryd.prog 4 #[.agg #[.string t.nm, .slice pc t.cs.length cc, .slice pk t.key.length ck, .slice px t.ix.length cx, .slice pr t.rf.length cr], .slice p L.length cl, .slice r N.length cn] x fun e w' => e = .returned (.tuple #[.string ⟨(chgR t L N).1.toArray⟩, .int .i64 (chgR t L N).2]) ∧ Below x.heap.size x w') := fun N r cn x hx hN hvn hln hcn => change_any t ⟨pc, cc, pk, ck, px, cx, pr, cr⟩ L N p r cl cn x ((hV.keep (up x hx)).mono (up x hx).size) hok ((hL.keep (up x hx)).mono (up x hx).size) hN hvl hvn hl2 hln hcn (hE.on (up x hx))
  have CA : Hid (∀ (z : ByteArray), z.size ≤ 140737488351232 → ∀ (x : World), Below ((w.alloc (.cells #[.string t.nm, .slice pc t.cs.length cc, .slice pk t.key.length ck, .slice px t.ix.length cx, .slice pr t.rf.length cr] 27)).alloc (.cells #[.slice p L.length cl, .slice q M.length cm] 29)).heap.size ((w.alloc (.cells #[.string t.nm, .slice pc t.cs.length cc, .slice pk t.key.length ck, .slice px t.ix.length cx, .slice pr t.rf.length cr] 27)).alloc (.cells #[.slice p L.length cl, .slice q M.length cm] 29)) x → Calls Tryd.prog 5 #[.agg #[.string t.nm, .slice pc t.cs.length cc, .slice pk t.key.length ck, .slice px t.ix.length cx, .slice pr t.rf.length cr], .slice p L.length cl, .string z] x (AppP (appR t L z) x)) := fun z hz x hx => apply_any t ⟨pc, cc, pk, ck, px, cx, pr, cr⟩ L p cl z x ((hV.keep (up x hx)).mono (up x hx).size) hok ((hL.keep (up x hx)).mono (up x hx).size) hvl hl2 hz (hE.on (up x hx))
  have CS : Hid (∀ (N : List Vl) (r : Option Addr) (cn : Nat) (x : World), Below ((w.alloc (.cells #[.string t.nm, .slice pc t.cs.length cc, .slice pk t.key.length ck, .slice px t.ix.length cx, .slice pr t.rf.length cr] 27)).alloc (.cells #[.slice p L.length cl, .slice q M.length cm] 29)).heap.size ((w.alloc (.cells #[.string t.nm, .slice pc t.cs.length cc, .slice pk t.key.length ck, .slice px t.ix.length cx, .slice pr t.rf.length cr] 27)).alloc (.cells #[.slice p L.length cl, .slice q M.length cm] 29)) x → RowV x x.heap.size r N → N.length ≤ 17592186043904 → Calls Tryd.prog 6 #[.slice r N.length cn, .slice q M.length cm] x fun e w' => e = .returned (.bool (sameL N M)) ∧ Below x.heap.size x w') := fun N r cn x hx hN hln => rsameRow_any N M r q cn cm x hN ((hM.keep (up x hx)).mono (up x hx).size) hln hm2
  have CW : Hid (∀ w2 : World, Below ((w.alloc (.cells #[.string t.nm, .slice pc t.cs.length cc, .slice pk t.key.length ck, .slice px t.ix.length cx, .slice pr t.rf.length cr] 27)).alloc (.cells #[.slice p L.length cl, .slice q M.length cm] 29)).heap.size ((w.alloc (.cells #[.string t.nm, .slice pc t.cs.length cc, .slice pk t.key.length ck, .slice px t.ix.length cx, .slice pr t.rf.length cr] 27)).alloc (.cells #[.slice p L.length cl, .slice q M.length cm] 29)) w2 → Calls Tryd.prog 7 #[] w2 fun e w' => e = .returned (.bool true) ∧ Below w2.heap.size w2 w') := fun w2 hb => awake4 w2 (hE.on (up w2 hb))
  have HLO : Hid (∀ v ∈ L, v.ok) := hvl
  have HMO : Hid (∀ v ∈ M, v.ok) := hvm
  have HSS : Hid (s.size ≤ 140737488351232) := hs
  have HMR : Hid (∀ x, Below ((w.alloc (.cells #[.string t.nm, .slice pc t.cs.length cc, .slice pk t.key.length ck, .slice px t.ix.length cx, .slice pr t.rf.length cr] 27)).alloc (.cells #[.slice p L.length cl, .slice q M.length cm] 29)).heap.size ((w.alloc (.cells #[.string t.nm, .slice pc t.cs.length cc, .slice pk t.key.length ck, .slice px t.ix.length cx, .slice pr t.rf.length cr] 27)).alloc (.cells #[.slice p L.length cl, .slice q M.length cm] 29)) x → RowV x x.heap.size q M ∧ RowV x x.heap.size p L) := fun x hx => ⟨(hM.keep (up x hx)).mono (up x hx).size, (hL.keep (up x hx)).mono (up x hx).size⟩
  have HNUM : Hid (L.length ≤ 17592186043904 ∧ M.length ≤ 17592186043904 ∧ L.length ≤ cl ∧ M.length ≤ cm) := ⟨hl2, hm2, hcl, hcm⟩
  clear hV hok hL hM hvl hvm hll hlm hE hl2 hm2 hs1 b1 b2 hb0 hbx hrow up hs hcl hcm
  obtain ⟨c, ee, hch⟩ : ∃ c e, chgR t L M = (c, e) := ⟨_, _, rfl⟩
  have C1 : Hid (Calls _ _ _ _ _) := CM.out M q cm ((w.alloc (.cells #[.string t.nm, .slice pc t.cs.length cc, .slice pk t.key.length ck, .slice px t.ix.length cx, .slice pr t.rf.length cr] 27)).alloc (.cells #[.slice p L.length cl, .slice q M.length cm] 29)) (Below.refl _ _) (HMR.out _ (Below.refl _ _)).1 HMO.out HNUM.out.2.1 HNUM.out.2.2.2
  rw [hch] at C1
  have HCH : Hid (chgR t L M = (c, ee)) := hch
  clear hch
  have h0w2 : Below ((w.alloc (.cells #[.string t.nm, .slice pc t.cs.length cc, .slice pk t.key.length ck, .slice px t.ix.length cx, .slice pr t.rf.length cr] 27)).alloc (.cells #[.slice p L.length cl, .slice q M.length cm] 29)).heap.size ((w.alloc (.cells #[.string t.nm, .slice pc t.cs.length cc, .slice pk t.key.length ck, .slice px t.ix.length cx, .slice pr t.rf.length cr] 27)).alloc (.cells #[.slice p L.length cl, .slice q M.length cm] 29)) ((w.alloc (.cells #[.string t.nm, .slice pc t.cs.length cc, .slice pk t.key.length ck, .slice px t.ix.length cx, .slice pr t.rf.length cr] 27)).alloc (.cells #[.slice p L.length cl, .slice q M.length cm] 29)) := Below.refl _ _
  unfold TabP.val
  have HBq0 : Hid (BoxT ((w.alloc (.cells #[.string t.nm, .slice pc t.cs.length cc, .slice pk t.key.length ck, .slice px t.ix.length cx, .slice pr t.rf.length cr] 27)).alloc (.cells #[.slice p L.length cl, .slice q M.length cm] 29)) w.heap.size t ⟨pc, cc, pk, ck, px, cx, pr, cr⟩) := HBX.out ((w.alloc (.cells #[.string t.nm, .slice pc t.cs.length cc, .slice pk t.key.length ck, .slice px t.ix.length cx, .slice pr t.rf.length cr] 27)).alloc (.cells #[.slice p L.length cl, .slice q M.length cm] 29)) h0w2
  obtain ⟨hzq0, e0q0, e1q0, e2q0, e3q0, e4q0⟩ := HBq0.out
  dsimp only at e0q0 e1q0 e2q0 e3q0 e4q0
  have r0q0 : ((w.alloc (.cells #[.string t.nm, .slice pc t.cs.length cc, .slice pk t.key.length ck, .slice px t.ix.length cx, .slice pr t.rf.length cr] 27)).alloc (.cells #[.slice p L.length cl, .slice q M.length cm] 29)).cell? ⟨w.heap.size + 1, 0, none⟩ = some (.slice p L.length cl) := (HRX.out ((w.alloc (.cells #[.string t.nm, .slice pc t.cs.length cc, .slice pk t.key.length ck, .slice px t.ix.length cx, .slice pr t.rf.length cr] 27)).alloc (.cells #[.slice p L.length cl, .slice q M.length cm] 29)) h0w2).1
  have r1q0 : ((w.alloc (.cells #[.string t.nm, .slice pc t.cs.length cc, .slice pk t.key.length ck, .slice px t.ix.length cx, .slice pr t.rf.length cr] 27)).alloc (.cells #[.slice p L.length cl, .slice q M.length cm] 29)).cell? ⟨w.heap.size + 1, 1, none⟩ = some (.slice q M.length cm) := (HRX.out ((w.alloc (.cells #[.string t.nm, .slice pc t.cs.length cc, .slice pk t.key.length ck, .slice px t.ix.length cx, .slice pr t.rf.length cr] 27)).alloc (.cells #[.slice p L.length cl, .slice q M.length cm] 29)) h0w2).2
  clear hzq0
  go_enter Tryd.func3, Tryd.ntmps3
  go_wp2_with fail
  generalize ((w.alloc (.cells #[.string t.nm, .slice pc t.cs.length cc, .slice pk t.key.length ck, .slice px t.ix.length cx, .slice pr t.rf.length cr] 27)).alloc (.cells #[.slice p L.length cl, .slice q M.length cm] 29)) = w0 at *
  refine C1.out.mono ?_
  rintro e x1 ⟨rfl, hb1⟩
  have h0x1 : Hid (Below w0.heap.size w0 x1) := hb1
  clear hb1 C1 h0w2
  clear e0q0 e1q0 e2q0 e3q0 e4q0 r0q0 r1q0 HBq0
  have HBx1 : Hid (BoxT x1 w.heap.size t ⟨pc, cc, pk, ck, px, cx, pr, cr⟩) := HBX.out x1 h0x1.out
  obtain ⟨hzx1, e0x1, e1x1, e2x1, e3x1, e4x1⟩ := HBx1.out
  dsimp only at e0x1 e1x1 e2x1 e3x1 e4x1
  have r0x1 : x1.cell? ⟨w.heap.size + 1, 0, none⟩ = some (.slice p L.length cl) := (HRX.out x1 h0x1.out).1
  have r1x1 : x1.cell? ⟨w.heap.size + 1, 1, none⟩ = some (.slice q M.length cm) := (HRX.out x1 h0x1.out).2
  clear hzx1
  by_cases he : ee = 0
  · subst he
    obtain ⟨M', m1, m2, m3⟩ := app_chg HMO.out HCH.out
    have hcs : (⟨c.toArray⟩ : ByteArray).size ≤ 140737488351232 := by
      have h := HCH.out
      have h3 := chg_small h
      rw [size_mk]
      omega
    have CA1 : Hid (Calls _ _ _ _ _) := CA.out ⟨c.toArray⟩ hcs x1 h0x1.out
    rw [m1] at CA1
    have HM' : Hid (sameL M' M = true ∧ admS t L = 0 ∧ M'.length = L.length) := ⟨m2, m3, by
      have := (chg_app HLO.out m1).2.2.1
      exact this⟩
    clear m1 m2 m3 hcs
    go_wp2_with fail
    refine CA1.out.mono ?_
    rintro e x2 ⟨⟨v1, rfl, hv1⟩, hb2⟩
    have h0x2 : Hid (Below w0.heap.size w0 x2) := h0x1.out.trans (hb2.mono h0x1.out.size)
    have hown : OwnV x2 x1.heap.size v1 M' := by
      rcases hv1 with ⟨L9, e9, h9⟩ | ⟨h9, _⟩
      · injection e9 with e9
        subst e9
        exact h9
      · cases h9
    have hpos : 1 ≤ M'.length := by have h1 := (admS_cols HM'.out.2.1).2.1; have h2 := (admS_cols HM'.out.2.1).1; have h3 := HM'.out.2.2; omega
    rcases hown.form with ⟨_, h⟩ | ⟨g, cap, rfl, hcap, _⟩
    · rw [h] at hpos
      simp at hpos
    have CS1 : Hid (Calls _ _ _ _ _) := CS.out M' (some ⟨g, 0, none⟩) cap x2 h0x2.out hown.rowG (by have h1 := HNUM.out.1; have h3 := HM'.out.2.2; omega)
    rw [HM'.out.1] at CS1
    clear hv1 hown hb2 hpos CA1 hcap
    clear e0x1 e1x1 e2x1 e3x1 e4x1 r0x1 r1x1 HBx1
    have HBx2 : Hid (BoxT x2 w.heap.size t ⟨pc, cc, pk, ck, px, cx, pr, cr⟩) := HBX.out x2 h0x2.out
    obtain ⟨hzx2, e0x2, e1x2, e2x2, e3x2, e4x2⟩ := HBx2.out
    dsimp only at e0x2 e1x2 e2x2 e3x2 e4x2
    have r0x2 : x2.cell? ⟨w.heap.size + 1, 0, none⟩ = some (.slice p L.length cl) := (HRX.out x2 h0x2.out).1
    have r1x2 : x2.cell? ⟨w.heap.size + 1, 1, none⟩ = some (.slice q M.length cm) := (HRX.out x2 h0x2.out).2
    clear hzx2
    go_wp2_with fail
    refine CS1.out.mono ?_
    rintro e x3 ⟨rfl, hb3⟩
    have h0x3 : Hid (Below w0.heap.size w0 x3) := h0x2.out.trans (hb3.mono h0x2.out.size)
    have CO : Hid (Calls _ _ _ _ _) := CM.out L p cl x3 h0x3.out (HMR.out x3 h0x3.out).2 HLO.out HNUM.out.1 HNUM.out.2.2.1
    rw [chg_own HM'.out.2.1] at CO
    clear hb3 CS1
    clear e0x2 e1x2 e2x2 e3x2 e4x2 r0x2 r1x2 HBx2
    have HBx3 : Hid (BoxT x3 w.heap.size t ⟨pc, cc, pk, ck, px, cx, pr, cr⟩) := HBX.out x3 h0x3.out
    obtain ⟨hzx3, e0x3, e1x3, e2x3, e3x3, e4x3⟩ := HBx3.out
    dsimp only at e0x3 e1x3 e2x3 e3x3 e4x3
    have r0x3 : x3.cell? ⟨w.heap.size + 1, 0, none⟩ = some (.slice p L.length cl) := (HRX.out x3 h0x3.out).1
    have r1x3 : x3.cell? ⟨w.heap.size + 1, 1, none⟩ = some (.slice q M.length cm) := (HRX.out x3 h0x3.out).2
    clear hzx3
    go_wp2_with fail
    refine CO.out.mono ?_
    rintro e x4 ⟨rfl, hb4⟩
    have h0x4 : Hid (Below w0.heap.size w0 x4) := h0x3.out.trans (hb4.mono h0x3.out.size)
    clear hb4 CO
    clear e0x3 e1x3 e2x3 e3x3 e4x3 r0x3 r1x3 HBx3
    have HBx4 : Hid (BoxT x4 w.heap.size t ⟨pc, cc, pk, ck, px, cx, pr, cr⟩) := HBX.out x4 h0x4.out
    obtain ⟨hzx4, e0x4, e1x4, e2x4, e3x4, e4x4⟩ := HBx4.out
    dsimp only at e0x4 e1x4 e2x4 e3x4 e4x4
    have r0x4 : x4.cell? ⟨w.heap.size + 1, 0, none⟩ = some (.slice p L.length cl) := (HRX.out x4 h0x4.out).1
    have r1x4 : x4.cell? ⟨w.heap.size + 1, 1, none⟩ = some (.slice q M.length cm) := (HRX.out x4 h0x4.out).2
    clear hzx4
    obtain ⟨o2, ee2, hap2⟩ : ∃ o e, appR t L s = (o, e) := ⟨_, _, rfl⟩
    have HE2 : Hid ((ee2 = 0 → ∃ M, o2 = some M) ∧ (¬ ee2 = 0 → o2 = none)) := app_err hap2
    have CA2 : Hid (Calls _ _ _ _ _) := CA.out s HSS.out x4 h0x4.out
    rw [hap2] at CA2
    have HAP2 : Hid (appR t L s = (o2, ee2)) := hap2
    clear hap2
    go_wp2_with fail
    refine CA2.out.mono ?_
    rintro e y1 ⟨⟨v2, rfl, hv2⟩, hb1⟩
    have h0y1 : Hid (Below w0.heap.size w0 y1) := h0x4.out.trans (hb1.mono h0x4.out.size)
    clear e0x4 e1x4 e2x4 e3x4 e4x4 r0x4 r1x4 HBx4
    by_cases hee : ee2 = 0
    · subst hee
      obtain ⟨M2, rfl⟩ := HE2.out.1 rfl
      obtain ⟨g1, g2, g3, g4⟩ := chg_app HLO.out HAP2.out
      have hown : OwnV y1 x4.heap.size v2 M2 := by
        rcases hv2 with ⟨L9, e9, h9⟩ | ⟨h9, _⟩
        · injection e9 with e9
          subst e9
          exact h9
        · cases h9
      have hpos : 1 ≤ M2.length := by have h1 := app_cols HAP2.out; omega
      rcases hown.form with ⟨_, h⟩ | ⟨g, cap, rfl, hcap, _⟩
      · rw [h] at hpos
        simp at hpos
      have CC2 : Hid (Calls _ _ _ _ _) := CM.out M2 (some ⟨g, 0, none⟩) cap y1 h0y1.out hown.rowG g2 (by omega) hown.cap
      rw [g1] at CC2
      have hstr : (⟨s.data.toList.toArray⟩ : ByteArray) = s := by cases s; simp
      dsimp only at CC2
      rw [hstr] at CC2
      have CW2 : Hid (∀ w2 : World, Below y1.heap.size y1 w2 → Calls Tryd.prog 7 #[] w2 fun e w' => e = .returned (.bool true) ∧ Below w2.heap.size w2 w') := fun w2 hb => CW.out w2 (h0y1.out.trans (hb.mono h0y1.out.size))
      clear hv2 hown hb1 g1 g2 g3 g4 hstr hpos hcap
      have HBy1 : Hid (BoxT y1 w.heap.size t ⟨pc, cc, pk, ck, px, cx, pr, cr⟩) := HBX.out y1 h0y1.out
      obtain ⟨hzy1, e0y1, e1y1, e2y1, e3y1, e4y1⟩ := HBy1.out
      dsimp only at e0y1 e1y1 e2y1 e3y1 e4y1
      have r0y1 : y1.cell? ⟨w.heap.size + 1, 0, none⟩ = some (.slice p L.length cl) := (HRX.out y1 h0y1.out).1
      have r1y1 : y1.cell? ⟨w.heap.size + 1, 1, none⟩ = some (.slice q M.length cm) := (HRX.out y1 h0y1.out).2
      clear hzy1
      go_wp2_with fail
      refine CC2.out.mono ?_
      rintro e y2 ⟨rfl, hb2⟩
      have h0y2 : Hid (Below w0.heap.size w0 y2) := h0y1.out.trans (hb2.mono h0y1.out.size)
      have CW3 : Hid (Calls _ _ _ _ _) := CW.out y2 h0y2.out
      clear hb2 CC2
      go_wp2_with fail
      refine CW3.out.mono ?_
      rintro e y3 ⟨rfl, hb3⟩
      have HBZ : Hid (Below w.heap.size w y3) := HB0.out.trans ((h0y2.out.trans (hb3.mono h0y2.out.size)).mono HB0.out.size)
      clear hb3 CW3
      go_wp2_with fail
      go_ret
      exact ⟨rfl, HBZ.out⟩
    · have hno := HE2.out.2 hee
      subst hno
      have hv0 : v2 = .slice none 0 0 := by
        rcases hv2 with ⟨L9, e9, _⟩ | ⟨_, h9⟩
        · cases e9
        · exact h9
      subst hv0
      have CW3 : Hid (Calls _ _ _ _ _) := CW.out y1 h0y1.out
      clear hv2 hb1 HAP2 HE2
      go_wp2_with fail
      refine CW3.out.mono ?_
      rintro e y3 ⟨rfl, hb3⟩
      have HBZ : Hid (Below w.heap.size w y3) := HB0.out.trans ((h0y1.out.trans (hb3.mono h0y1.out.size)).mono HB0.out.size)
      clear hb3 CW3
      go_wp2_with fail
      go_ret
      exact ⟨rfl, HBZ.out⟩
  · have qe : ¬ ee = 0 := he
    obtain ⟨o2, ee2, hap2⟩ : ∃ o e, appR t L s = (o, e) := ⟨_, _, rfl⟩
    have HE2 : Hid ((ee2 = 0 → ∃ M, o2 = some M) ∧ (¬ ee2 = 0 → o2 = none)) := app_err hap2
    have CA2 : Hid (Calls _ _ _ _ _) := CA.out s HSS.out x1 h0x1.out
    rw [hap2] at CA2
    have HAP2 : Hid (appR t L s = (o2, ee2)) := hap2
    clear hap2
    go_wp2_with fail
    refine CA2.out.mono ?_
    rintro e y1 ⟨⟨v2, rfl, hv2⟩, hb1⟩
    have h0y1 : Hid (Below w0.heap.size w0 y1) := h0x1.out.trans (hb1.mono h0x1.out.size)
    clear e0x1 e1x1 e2x1 e3x1 e4x1 r0x1 r1x1 HBx1
    by_cases hee : ee2 = 0
    · subst hee
      obtain ⟨M2, rfl⟩ := HE2.out.1 rfl
      obtain ⟨g1, g2, g3, g4⟩ := chg_app HLO.out HAP2.out
      have hown : OwnV y1 x1.heap.size v2 M2 := by
        rcases hv2 with ⟨L9, e9, h9⟩ | ⟨h9, _⟩
        · injection e9 with e9
          subst e9
          exact h9
        · cases h9
      have hpos : 1 ≤ M2.length := by have h1 := app_cols HAP2.out; omega
      rcases hown.form with ⟨_, h⟩ | ⟨g, cap, rfl, hcap, _⟩
      · rw [h] at hpos
        simp at hpos
      have CC2 : Hid (Calls _ _ _ _ _) := CM.out M2 (some ⟨g, 0, none⟩) cap y1 h0y1.out hown.rowG g2 (by omega) hown.cap
      rw [g1] at CC2
      have hstr : (⟨s.data.toList.toArray⟩ : ByteArray) = s := by cases s; simp
      dsimp only at CC2
      rw [hstr] at CC2
      have CW2 : Hid (∀ w2 : World, Below y1.heap.size y1 w2 → Calls Tryd.prog 7 #[] w2 fun e w' => e = .returned (.bool true) ∧ Below w2.heap.size w2 w') := fun w2 hb => CW.out w2 (h0y1.out.trans (hb.mono h0y1.out.size))
      clear hv2 hown hb1 g1 g2 g3 g4 hstr hpos hcap
      have HBy1 : Hid (BoxT y1 w.heap.size t ⟨pc, cc, pk, ck, px, cx, pr, cr⟩) := HBX.out y1 h0y1.out
      obtain ⟨hzy1, e0y1, e1y1, e2y1, e3y1, e4y1⟩ := HBy1.out
      dsimp only at e0y1 e1y1 e2y1 e3y1 e4y1
      have r0y1 : y1.cell? ⟨w.heap.size + 1, 0, none⟩ = some (.slice p L.length cl) := (HRX.out y1 h0y1.out).1
      have r1y1 : y1.cell? ⟨w.heap.size + 1, 1, none⟩ = some (.slice q M.length cm) := (HRX.out y1 h0y1.out).2
      clear hzy1
      go_wp2_with fail
      refine CC2.out.mono ?_
      rintro e y2 ⟨rfl, hb2⟩
      have h0y2 : Hid (Below w0.heap.size w0 y2) := h0y1.out.trans (hb2.mono h0y1.out.size)
      have CW3 : Hid (Calls _ _ _ _ _) := CW.out y2 h0y2.out
      clear hb2 CC2
      go_wp2_with fail
      refine CW3.out.mono ?_
      rintro e y3 ⟨rfl, hb3⟩
      have HBZ : Hid (Below w.heap.size w y3) := HB0.out.trans ((h0y2.out.trans (hb3.mono h0y2.out.size)).mono HB0.out.size)
      clear hb3 CW3
      go_wp2_with fail
      go_ret
      exact ⟨rfl, HBZ.out⟩
    · have hno := HE2.out.2 hee
      subst hno
      have hv0 : v2 = .slice none 0 0 := by
        rcases hv2 with ⟨L9, e9, _⟩ | ⟨_, h9⟩
        · cases e9
        · exact h9
      subst hv0
      have CW3 : Hid (Calls _ _ _ _ _) := CW.out y1 h0y1.out
      clear hv2 hb1 HAP2 HE2
      go_wp2_with fail
      refine CW3.out.mono ?_
      rintro e y3 ⟨rfl, hb3⟩
      have HBZ : Hid (Below w.heap.size w y3) := HB0.out.trans ((h0y1.out.trans (hb3.mono h0y1.out.size)).mono HB0.out.size)
      clear hb3 CW3
      go_wp2_with fail
      go_ret
      exact ⟨rfl, HBZ.out⟩

end Go.Proofs.YtfknmblobcjapaaDoor
