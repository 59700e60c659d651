/- Layer 19: addWrite. Layer 19: addCommit. -/
import Derived.Test.YtncfejndmlcidaaGreatGWBsS
namespace Go.Proofs.YtncfejndmlcidaaGreat
open Go.RowKit
set_option maxRecDepth 100000

/-- a write -/
theorem St.write {w w' : World} {B : Nat} {H : List Ac} {s : Hv} {a : Ac} {t : Int} {v : Value} (h : St w B H s) (hB : B ≤ w.heap.size) (ht : kn H t = true) (htx : a.tx = t) (hkd : a.kd = 4) (hen : en H t = false) (hf : Frm w w' (fun k => k = s.pt t ∨ (s.vi t).ownBlock = some k ∨ k = s.mW))
    (hblk : Blk w' (s.pt t) ((s.tcells H t).setIfInBounds 6 v) 101) (ho : OwnG encX 1 9 w' B v (insS a.it (its H t))) (hat : v.ownBlock = (s.vi t).ownBlock ∨ ∃ g, v.ownBlock = some g ∧ w.heap.size ≤ g)
    (hm : MapG kvW w' s.mW (putG s.EW (t, a.it) (.int .i64 ((wr H t a.it + 1 : Nat) : Int)))) :
    St w' B (H ++ [a]) { s with vi := updF s.vi t v, EW := putG s.EW (t, a.it) (.int .i64 ((wr H t a.it + 1 : Nat) : Int)) } ∧ Below B w w' := by
  have hbel : Below B w w' := hf.below hB (fun k hk => by
    rcases hk with rfl | e | rfl
    · exact (h.tn t ht).1
    · exact ((h.fi.own t).blk e).1
    · exact h.mWB)
  have hk1 : a.kd ≠ 1 := by omega
  have hk2 : a.kd ≠ 2 := by omega
  have hk3 : a.kd ≠ 3 := by omega
  have hk5 : a.kd ≠ 5 := by omega
  have hk6 : a.kd ≠ 6 := by omega
  have hr : rds (H ++ [a]) = rds H := by funext u; exact rds_keep _ (.inl hk2)
  have hi : its (H ++ [a]) = updF (its H) t (insS a.it (its H t)) := by
    funext u
    by_cases hu : u = t
    · subst hu
      rw [updF_same, its_snoc, if_pos ⟨htx, hkd⟩]
    · rw [updF_other _ _ hu, its_keep _ (.inr (by rw [htx]; exact Ne.symm hu))]
  have hkn : ∀ u, kn (H ++ [a]) u = kn H u := fun u => kn_keep _ (by rw [htx]; exact ht) u
  have hcm : cms (H ++ [a]) = cms H := cms_keep _ hk5
  have hv : ∀ x, vrs (H ++ [a]) x = vrs H x := fun x => by
    unfold vrs
    rw [hcm]
    refine List.filter_congr (fun u hu => ?_)
    by_cases hu2 : a.tx = u
    · exfalso
      have h1 := cms_en H hu
      rw [← hu2, htx, hen] at h1
      cases h1
    · rw [wr_keep _ (.inr (.inl hu2))]
  have hvv : vvL (H ++ [a]) = vvL H := by
    funext o
    cases o with
    | none => exact hcm
    | some x => exact hv x
  have hmw : ∀ {g : Nat} {cs : Array Value} {T : TypeId}, w.heap[g]? = some (Obj.cells cs T (0, 0)) → g ≠ s.mW := fun {g cs T} hg => h.mw.not_cells hg
  have hff : ∀ {g : Nat} {cs : Array Value} {T : TypeId}, w.heap[g]? = some (Obj.cells cs T (0, 0)) → T ≠ 101 → T ≠ 9 → ¬ (g = s.pt t ∨ (s.vi t).ownBlock = some g ∨ g = s.mW) := fun {g cs T} hg h1 h2 hc => by
    rcases hc with rfl | e | e
    · have h3 : w.heap[s.pt t]? = _ := (h.tn t ht).2
      rw [hg] at h3
      cases h3
      exact h1 rfl
    · obtain ⟨_, cur', h3⟩ := (h.fi.own t).blk e
      rw [hg] at h3
      cases h3
      exact h2 rfl
    · exact hmw hg e
  have hmm : ∀ {K : Type} [DecidableEq K] {kv : K → Value} {mb : Nat} {E : List (K × Value)}, MapG kv w mb E → mb ≠ s.mW → ¬ (mb = s.pt t ∨ (s.vi t).ownBlock = some mb ∨ mb = s.mW) := fun {K _ kv mb E} hm hne hc => by
    rcases hc with rfl | e | e
    · exact hm.not_cells (h.tn t ht).2 rfl
    · obtain ⟨_, cur', h3⟩ := (h.fi.own t).blk e
      exact hm.not_cells h3 rfl
    · exact hne e
  refine ⟨{ blk := h.blk.frm hf (hff h.blk (by decide) (by decide)), hbB := h.hbB, mTB := h.mTB, mWB := h.mWB, mVB := h.mVB, mTW := h.mTW, mTV := h.mTV, mWV := h.mWV, mt := h.mt.frm hf (hmm h.mt h.mTW), mtv := fun u => by rw [hkn]; exact h.mtv u, mw := hm, mwv := fun k => ?_, mv := h.mv.frm hf (hmm h.mv (Ne.symm h.mWV)), mvk := fun x => by rw [hv]; exact h.mvk x, mvn := h.mvn, fv := ?_, tn := ?_, inj := fun u u' h1 h2 e => h.inj u u' (by rw [← hkn]; exact h1) (by rw [← hkn]; exact h2) e, fi := ?_, fr := ?_, fs := ?_, sc := fun u => by rw [scs_keep _ (.inl hk3)]; exact h.sc u, sn := fun u z hz => (h.sn u z hz).on hbel }, hbel⟩
  · rw [getG_put]
    by_cases hk : k = (t, a.it)
    · subst hk
      rw [if_pos rfl]
      have : isW t a.it a = true := by simp [isW, htx, hkd]
      rw [wr_snoc, this]
      rfl
    · rw [if_neg hk, h.mwv k]
      have : wr (H ++ [a]) k.1 k.2 = wr H k.1 k.2 := wr_keep _ (by
        by_cases h1 : a.tx = k.1
        · by_cases h2 : a.it = k.2
          · exfalso
            exact hk (Prod.ext (by rw [← h1, htx]) h2.symm)
          · exact .inr (.inr h2)
        · exact .inr (.inl h1))
      rw [this]
  · rw [hvv]
    exact h.fv.frm hf (fun g cur hg => hff hg (by decide) (by decide))
  · intro u hu
    rw [hkn] at hu
    refine ⟨(h.tn u hu).1, ?_⟩
    have e4 : bg (H ++ [a]) u = bg H u := bg_keep _ (.inl hk1)
    have e5 : en (H ++ [a]) u = en H u := en_keep _ (.inl ⟨hk5, hk6⟩)
    have e6 : snp (H ++ [a]) u = snp H u := st_keep _ (.inl hk1)
    have e7 : cm (H ++ [a]) u = cm H u := st_keep _ (.inl hk5)
    unfold Hv.tcells
    rw [e4, e5, e6, e7]
    by_cases he : u = t
    · subst he
      show Blk w' (s.pt u) #[_, _, _, _, _, _, updF s.vi u v u, _, _] _
      rw [updF_same]
      exact hblk
    · show Blk w' (s.pt u) #[_, _, _, _, _, _, updF s.vi t v u, _, _] _
      rw [updF_other _ _ he]
      refine (h.tn u hu).2.frm hf (fun hc => ?_)
      rcases hc with e | e | e
      · exact he (h.inj u t hu ht e)
      · obtain ⟨_, cur', h3⟩ := (h.fi.own t).blk e
        have h5 : w.heap[s.pt u]? = _ := (h.tn u hu).2
        rw [h5] at h3
        cases h3
      · exact hmw (h.tn u hu).2 e
  · rw [hi]
    refine h.fi.put t ho (fun g hg hne hc => hf.block g hg (fun hc2 => ?_)) (hat.elim .inl (fun ⟨g, e, h1⟩ => .inr (.inr ⟨g, e, h1⟩)))
    obtain ⟨cur, hc⟩ := hc
    rcases hc2 with rfl | e | e
    · have h3 : w.heap[s.pt t]? = _ := (h.tn t ht).2
      rw [hc] at h3
      cases h3
    · exact hne e
    · exact hmw hc e
  · rw [hr]
    exact h.fr.frm hf (fun g cur hg => hff hg (by decide) (by decide))
  · exact h.fs.frm hf (fun g cur hg => hff hg (by decide) (by decide))

/-- operations of maps, where the order is drawn -/
theorem wp_entryG {K : Type} [DecidableEq K] {kv : K → Value} {kt et mt : TypeId} (HK : KeyT K kt kv) (hmt : Tryz.prog.underlying mt = some (.map kt et)) {z : Value} (hz : ∀ w, (zeroValue et).run Tryz.prog w = .ok z w) {o : Oper} {a : Act} {C : Act → World → Prop} {Q : Exit → Act → World → Prop} (w : World) (m k : Operand) (hop : o.op = Op.mapEntry mt m k) (mb : Nat) (E : List (K × Value)) (x : K) (hm : a.eval m = .map (some mb)) (hk : a.eval k = kv x) (h : MapG kv w mb E)
    (hC : ∀ w' i bn, EntG kv w' mb (putG E x (getG z E x)) i bn → (∀ v, (putG E x (getG z E x)).set i (x, v) = putG E x v) → (∃ v, (putG E x (getG z E x))[i]? = some (x, v)) → w.grownBy w' (some mb) → w'.heap.size = w.heap.size → C (a.put o.dst (.tuple #[getG z E x, .int .i64 (bn : Nat)])) w') : Oper.wp Tryz.prog o a w C Q := by
  obtain ⟨w', i, bn, hrun, r1, r2, r3, r4, r5⟩ := h.entry HK hmt hz x
  unfold Oper.wp
  simp [execOp, hop, hm, hk, hrun, Result.andThen]
  exact hC w' i bn r1 r2 r3 r4 r5
theorem wp_estoreG {K : Type} [DecidableEq K] {kv : K → Value} {mt : TypeId} {o : Oper} {a : Act} {C : Act → World → Prop} {Q : Exit → Act → World → Prop} (w : World) (m s x : Operand) (hop : o.op = Op.entryStore mt m s x) (mb : Nat) (E : List (K × Value)) (i bn : Nat) (y : K) (v v1 : Value) (hm : a.eval m = .map (some mb)) (hs : a.eval s = .int .i64 (bn : Nat)) (hx : a.eval x = v) (h : EntG kv w mb E i bn) (hE : E[i]? = some (y, v1))
    (hC : ∀ w', MapG kv w' mb (E.set i (y, v)) → w.grownBy w' (some mb) → w'.heap.size = w.heap.size → C (a.put o.dst undef) w') : Oper.wp Tryz.prog o a w C Q := by
  obtain ⟨w', hrun, r1, r2, r3⟩ := h.store (mt := mt) y v v1 hE
  unfold Oper.wp
  simp [execOp, hop, hm, hs, hx, hrun, Result.andThen]
  exact hC w' r1 r2 r3
theorem wp_updateG {K : Type} [DecidableEq K] {kv : K → Value} {kt et mt : TypeId} (HK : KeyT K kt kv) (hmt : Tryz.prog.underlying mt = some (.map kt et)) {o : Oper} {a : Act} {C : Act → World → Prop} {Q : Exit → Act → World → Prop} (w : World) (m k x : Operand) (hop : o.op = Op.mapUpdate mt m k x) (mb : Nat) (E : List (K × Value)) (y : K) (v : Value) (hm : a.eval m = .map (some mb)) (hk : a.eval k = kv y) (hx : a.eval x = v) (h : MapG kv w mb E)
    (hC : ∀ w', MapG kv w' mb (putG E y v) → w.grownBy w' (some mb) → w'.heap.size = w.heap.size → C (a.put o.dst undef) w') : Oper.wp Tryz.prog o a w C Q := by
  obtain ⟨w', hrun, r1, r2, r3⟩ := h.store HK hmt y v
  unfold Oper.wp
  simp [execOp, hop, hm, hk, hx, hrun, Result.andThen]
  exact hC w' r1 r2 r3
theorem not_its {H : List Ac} {t : Int} {x : ByteArray} (h : wr H t x = 0) : x ∉ its H t := fun hm => by have := (its_mem t x H).1 hm; omega
set_option maxHeartbeats 8000000 in
theorem addWrite_any (B : Nat) (H : List Ac) (s : Hv) (a : Ac) (w : World) (hS : St w B H s) (hB : B ≤ w.heap.size) (ht : kn H a.tx = true) (hkd : a.kd = 4) (hen : en H a.tx = false) (hlen : H.length ≤ 4096) :
    Calls Tryz.prog 66 #[ptr1 s.hb, ptr1 (s.pt a.tx), .string a.it] w fun e w' => e = .returned (.tuple #[]) ∧ Below B w w' ∧ ∃ s' : Hv, St w' B (H ++ [a]) s' ∧ s'.hb = s.hb := by
  obtain ⟨t, et⟩ : ∃ t, a.tx = t := ⟨_, rfl⟩
  obtain ⟨x, ex⟩ : ∃ x, a.it = x := ⟨_, rfl⟩
  rw [et, ex]
  have HT : Hid (kn H t = true) := by rw [← et]; exact ht
  have HS0 : Hid (St w B H s) := hS
  have HA : Hid (a.tx = t ∧ a.it = x ∧ a.kd = 4 ∧ en H t = false ∧ H.length ≤ 4096) := ⟨et, ex, hkd, by rw [← et]; exact hen, hlen⟩
  obtain ⟨n, hn⟩ : ∃ n, wr H t x = n := ⟨_, rfl⟩
  have HN : Hid (wr H t x = n ∧ n ≤ 4096) := ⟨hn, by rw [← hn]; exact Nat.le_trans (wr_le H t x) hlen⟩
  have HG : Hid (getG (.int .i64 0) s.EW (t, x) = .int .i64 (n : Nat)) := by
    show _ = _
    rw [hS.mwv, ← hn]
  obtain ⟨w1, hw1⟩ : ∃ w1, w.alloc (.cells #[.int .i64 t, .string x] 133) = w1 := ⟨_, rfl⟩
  have HB1 : Hid (Below w.heap.size w w1) := by rw [← hw1]; exact (Below.refl _ _).alloc (Nat.le_refl _) _
  have HK1 : Hid (Blk w1 w.heap.size #[.int .i64 t, .string x] 133) := by rw [← hw1]; exact Blk.new w _ _
  have HBw1 : Hid (Below w1.heap.size w1 w1) := Below.refl _ _
  have HF : Hid (∀ w' : World, Below w1.heap.size w1 w' → w'.cell? ⟨s.hb, 1, none⟩ = some (.map (some s.mW)) ∧ w'.cell? ⟨w.heap.size, 0, none⟩ = some (.int .i64 t) ∧ w'.cell? ⟨w.heap.size, 1, none⟩ = some (.string x) ∧ (Instr.lookup 74 (.map (some s.mW)) (.agg #[.int .i64 t, .string x]) false).run Tryz.prog w' = .ok (.int .i64 (n : Nat)) w') := fun w' h => by
    have hS2 := HS0.out.on hB (HB1.out.trans (h.mono HB1.out.size))
    refine ⟨hS2.blk.cell rfl, (HK1.out.on h).cell rfl, (HK1.out.on h).cell rfl, ?_⟩
    have h1 := hS2.mw.look keyW Tryz.underlying74 zeroNn (t, x)
    rw [HG.out] at h1
    exact h1
  have k0 : w.cell? ⟨s.pt t, 0, none⟩ = some (.int .i64 t) := (hS.tn t HT.out).2.cell (i := 0) rfl
  have hlt := (hS.tn t HT.out).2.lt
  clear hS ht hkd hen hlen et ex hn
  dsimp only [ptr1]
  go_enter Tryz.func66, Tryz.ntmps66
  go_upto_region 1 with fail
  clear k0
  haveI := inB_ne w1
  have f0 := fun p : InB w1 => (HF.out p.w' (HBw1.out.trans (p.h.mono HBw1.out.size))).1
  have f1 := fun p : InB w1 => (HF.out p.w' (HBw1.out.trans (p.h.mono HBw1.out.size))).2.1
  have f2 := fun p : InB w1 => (HF.out p.w' (HBw1.out.trans (p.h.mono HBw1.out.size))).2.2.1
  have f3 := fun p : InB w1 => (HF.out p.w' (HBw1.out.trans (p.h.mono HBw1.out.size))).2.2.2
  refine wp_region_inB (by kernel_rfl) (by kernel_rfl) ?_
  repeat (go_big_quiet_step (fail))
  refine wpQuiet_nil ?_
  rintro w2 ⟨⟨w2', hb9⟩, h9⟩
  obtain rfl : w2 = w2' := h9
  have HBw2 : Hid (Below w1.heap.size w1 w2) := HBw1.out.trans (hb9.mono HBw1.out.size)
  clear hb9 f0 f1 f2 f3
  have HB02 : Hid (Below w.heap.size w w2) := HB1.out.trans (HBw2.out.mono HB1.out.size)
  have HK2 : Hid (Blk w2 w.heap.size #[.int .i64 t, .string x] 133) := HK1.out.on HBw2.out
  have HS2 : Hid (St w2 B H s) := HS0.out.on hB HB02.out
  have HAD : Hid (IntKind.i64.wrap ((n : Int) + 1) = ((n + 1 : Nat) : Int)) := by
    have h9 := HN.out.2
    show _ = _
    rw [IntKind.wrap_i64]
    omega
  clear HF HB1 HK1 HBw1 hw1
  by_cases h0 : n = 0
  · have h0' : ((n : Int) == 0) = true := by simp; omega
    have HXN : Hid (x ∉ its H t) := not_its (by rw [HN.out.1]; exact h0)
    clear h0
    have HI : Hid ((its H t).length ≤ 4096) := Nat.le_trans (its_len t H) HA.out.2.2.2.2
    have CB : Hid (Calls _ _ _ _ _) := bsS_any w2.heap.size (s.vi t) (its H t) x w2 ((HS2.out.fi.own t).sl (fun _ => rfl)) (its_ris t H) (by have := HI.out; omega)
    have k6 : w2.cell? ⟨s.pt t, 6, none⟩ = some (s.vi t) := (HS2.out.tn t HT.out).2.cell (i := 6) rfl
    go_wp2_with fail
    clear k6
    refine CB.out.mono ?_
    rintro e w3 ⟨k, b, rfl, -, hk, hk1, hk2, hb3⟩
    have HB23 : Hid (Below w2.heap.size w2 w3) := hb3
    have HB03 : Hid (Below w.heap.size w w3) := HB02.out.trans (hb3.mono HB02.out.size)
    have HKX : Hid (k ≤ (its H t).length ∧ insS x (its H t) = (its H t).take k ++ x :: (its H t).drop k) := ⟨hk, insS_new x _ k (its_ris t H) hk hk1 (fun j hj hkj => lt_of_le_ne (hk2 j hj hkj) (fun e => HXN.out (by rw [e]; exact List.getElem_mem hj)))⟩
    clear CB hb3 hk hk1 hk2
    obtain ⟨w4, hw4⟩ : ∃ w4, w3.alloc (.cells #[.string x] 9) = w4 := ⟨_, rfl⟩
    have HB34 : Hid (Below w3.heap.size w3 w4) := by rw [← hw4]; exact (Below.refl _ _).alloc (Nat.le_refl _) _
    have HV4 : Hid (Blk w4 w3.heap.size #[.string x] 9) := by rw [← hw4]; exact Blk.new w3 _ _
    have HB04 : Hid (Below w.heap.size w w4) := HB03.out.trans (HB34.out.mono HB03.out.size)
    have HS4 : Hid (St w4 B H s) := HS0.out.on hB HB04.out
    have HK4 : Hid (Blk w4 w.heap.size #[.int .i64 t, .string x] 133) := (HK2.out.on HB23.out).on HB34.out
    have CI : Hid (Calls _ _ _ _ _) := insertS_any B (s.vi t) (its H t) k x w3.heap.size w4 (HS4.out.fi.own t) HKX.out.1 (Nat.le_trans hB HB04.out.size) (by have := HI.out; omega) HV4.out (fun e => by have h1 := (HS0.out.fi.own t).lt e; have h2 := HB03.out.size; omega)
    have k6 : w3.cell? ⟨s.pt t, 6, none⟩ = some (s.vi t) := ((HS0.out.on hB HB03.out).tn t HT.out).2.cell (i := 6) rfl
    go_wp2_with fail
    clear k6 hw4
    refine CI.out.mono ?_
    rintro e w5 ⟨v5, rfl, hO5, hf5, hat5⟩
    obtain ⟨q5, m5, d5, rfl⟩ := hO5.slc
    have hP5 : Blk w5 (s.pt t) (s.tcells H t) 101 := (HS4.out.tn t HT.out).2.frm hf5 (fun e => own_ne_blk (HS4.out.fi.own t) (HS4.out.tn t HT.out).2 (by decide) e.symm)
    obtain ⟨w6, hw6⟩ : ∃ w6, w5.setCell ⟨s.pt t, 6, none⟩ (.slice q5 m5 d5) = w6 := ⟨_, rfl⟩
    have f56 : Frm w5 w6 (one1 (s.pt t)) := by rw [← hw6]; exact frm_set w5 (s.pt t) 6 _ (.inl rfl)
    have HF46 : Hid (Frm w4 w6 (fun k => k = s.pt t ∨ (s.vi t).ownBlock = some k)) := (hf5.mono (fun k hk => .inl (.inr hk))).trans f56 (fun k hk => .inl (.inl hk))
    have HP6 : Hid (Blk w6 (s.pt t) ((s.tcells H t).setIfInBounds 6 (.slice q5 m5 d5)) 101) := by rw [← hw6]; exact hP5.set 6 _
    have HO6 : Hid (OwnG encX 1 9 w6 B (.slice q5 m5 d5) (insS x (its H t)) ∧ ((Value.slice q5 m5 d5).ownBlock = (s.vi t).ownBlock ∨ ∃ g, (Value.slice q5 m5 d5).ownBlock = some g ∧ w.heap.size ≤ g)) := by
      refine ⟨?_, hat5.elim .inl (fun ⟨g, h1, h2⟩ => .inr ⟨g, h1, Nat.le_trans HB04.out.size h2⟩)⟩
      rw [HKX.out.2]
      exact hO5.byG (fun g hg => f56.block g (hO5.lt hg) (fun e => own_ne_blk hO5 hP5 (by decide) (by rw [hg, show g = s.pt t from e])))
    have hnt : ∀ {g : Nat} {cs : Array Value} {T : TypeId}, Blk w4 g cs T → T ≠ 101 → T ≠ 9 → ¬ (g = s.pt t ∨ (s.vi t).ownBlock = some g) := fun {g cs T} hg h1 h2 hc => by
      rcases hc with rfl | e
      · have h3 : w4.heap[s.pt t]? = _ := (HS4.out.tn t HT.out).2
        rw [show w4.heap[s.pt t]? = _ from hg] at h3
        cases h3
        exact h1 rfl
      · exact own_ne_blk (HS4.out.fi.own t) hg (Ne.symm h2) e.symm
    have HH : Hid (Blk w6 s.hb #[.map (some s.mT), .map (some s.mW), s.vC, .map (some s.mV), nilS, nilS] 78) := HS4.out.blk.frm HF46.out (hnt HS4.out.blk (by decide) (by decide))
    have HW : Hid (Blk w6 w.heap.size #[.int .i64 t, .string x] 133) := HK4.out.frm HF46.out (hnt HK4.out (by decide) (by decide))
    have HMw : Hid (MapG kvW w6 s.mW s.EW) := HS4.out.mw.frm HF46.out (fun hc => by
      rcases hc with e | e
      · exact HS4.out.mw.not_cells (HS4.out.tn t HT.out).2 e.symm
      · obtain ⟨_, cur, h3⟩ := (HS4.out.fi.own t).blk e
        exact HS4.out.mw.not_cells h3 rfl)
    have HFw : Hid (Frm w w6 (fun k => k = s.pt t ∨ (s.vi t).ownBlock = some k ∨ k = s.mW)) := Frm.trans (w1 := w4) (Frm.of_below HB04.out) HF46.out (fun k hk => .inl (hk.elim .inl (fun h => .inr (.inl h))))
    have z0 : w5.cell? ⟨s.pt t, 6, none⟩ = some (s.vi t) := hP5.cell (i := 6) rfl
    have z1 := hP5.frozen 6
    clear CI hO5 hf5 hat5 hnt hP5 f56 HB34 HV4 HB04 HK4 HKX HB23 HB03
    go_upto_region 4 with fail
    refine wp_region_L (fun w' => Blk w' s.hb #[.map (some s.mT), .map (some s.mW), s.vC, .map (some s.mV), nilS, nilS] 78 ∧ Blk w' w.heap.size #[.int .i64 t, .string x] 133 ∧ (Instr.lookup 74 (.map (some s.mW)) (.agg #[.int .i64 t, .string x]) false).run Tryz.prog w' = .ok (.int .i64 (n : Nat)) w') 9 (by kernel_rfl) ?_
    have HHd : Hid (Blk w6.drew s.hb #[.map (some s.mT), .map (some s.mW), s.vC, .map (some s.mV), nilS, nilS] 78) := HH.out.drew
    have HWd : Hid (Blk w6.drew w.heap.size #[.int .i64 t, .string x] 133) := HW.out.drew
    have HMd : Hid (MapG kvW w6.drew s.mW s.EW) := HMw.out.of_block rfl
    have HFd : Hid (Frm w w6.drew (fun k => k = s.pt t ∨ (s.vi t).ownBlock = some k ∨ k = s.mW)) := HFw.out.drew
    have HLd : Hid ((Instr.lookup 74 (.map (some s.mW)) (.agg #[.int .i64 t, .string x]) false).run Tryz.prog w6.drew = .ok (.int .i64 (n : Nat)) w6.drew) := by
      have h1 := HMd.out.look keyW Tryz.underlying74 zeroNn (t, x)
      rw [HG.out] at h1
      exact h1
    have HPd : Hid (Blk w6.drew (s.pt t) ((s.tcells H t).setIfInBounds 6 (.slice q5 m5 d5)) 101) := HP6.out.drew
    have HOd : Hid (OwnG encX 1 9 w6.drew B (.slice q5 m5 d5) (insS x (its H t))) := HO6.out.1.byG (fun _ _ => rfl)
    clear HK2 HB02 HBw2 HS2 HF46 HP6 z0 z1 hw6 HS4
    clear HH HW HMw HFw
    generalize w6.drew = wd at *
    refine wpL_take (v := ?_) 0 rfl (by kernel_rfl) (fun _ _ _ h => h) (by rfl) ?_ ⟨HHd.out, HWd.out, HLd.out⟩ ?_
    rotate_left
    focus
      intro w9 hw9
      have a1 := hw9.1.cell (i := 1) rfl
      have b0 := hw9.2.1.cell (i := 0) rfl
      have b1 := hw9.2.1.cell (i := 1) rfl
      have lk := hw9.2.2
      go_simp
      try with_reducible rfl
    try simp only [Act.put, List.setIfInBounds_toArray, List.set_cons_zero, List.set_cons_succ]
    refine wpL_take (v := ?_) 1 rfl (by kernel_rfl) (fun _ _ _ h => h) (by rfl) ?_ ⟨HHd.out, HWd.out, HLd.out⟩ ?_
    rotate_left
    focus
      intro w9 hw9
      have a1 := hw9.1.cell (i := 1) rfl
      have b0 := hw9.2.1.cell (i := 0) rfl
      have b1 := hw9.2.1.cell (i := 1) rfl
      have lk := hw9.2.2
      go_simp
      try with_reducible rfl
    try simp only [Act.put, List.setIfInBounds_toArray, List.set_cons_zero, List.set_cons_succ]
    refine wpL_take (v := ?_) 2 rfl (by kernel_rfl) (fun _ _ _ h => h) (by rfl) ?_ ⟨HHd.out, HWd.out, HLd.out⟩ ?_
    rotate_left
    focus
      intro w9 hw9
      have a1 := hw9.1.cell (i := 1) rfl
      have b0 := hw9.2.1.cell (i := 0) rfl
      have b1 := hw9.2.1.cell (i := 1) rfl
      have lk := hw9.2.2
      go_simp
      try with_reducible rfl
    try simp only [Act.put, List.setIfInBounds_toArray, List.set_cons_zero, List.set_cons_succ]
    refine wpL_take (v := ?_) 3 rfl (by kernel_rfl) (fun _ _ _ h => h) (by rfl) ?_ ⟨HHd.out, HWd.out, HLd.out⟩ ?_
    rotate_left
    focus
      intro w9 hw9
      have a1 := hw9.1.cell (i := 1) rfl
      have b0 := hw9.2.1.cell (i := 0) rfl
      have b1 := hw9.2.1.cell (i := 1) rfl
      have lk := hw9.2.2
      go_simp
      try with_reducible rfl
    try simp only [Act.put, List.setIfInBounds_toArray, List.set_cons_zero, List.set_cons_succ]
    refine wpL_take (v := ?_) 4 rfl (by kernel_rfl) (fun _ _ _ h => h) (by rfl) ?_ ⟨HHd.out, HWd.out, HLd.out⟩ ?_
    rotate_left
    focus
      intro w9 hw9
      have a1 := hw9.1.cell (i := 1) rfl
      have b0 := hw9.2.1.cell (i := 0) rfl
      have b1 := hw9.2.1.cell (i := 1) rfl
      have lk := hw9.2.2
      go_simp
      try with_reducible rfl
    try simp only [Act.put, List.setIfInBounds_toArray, List.set_cons_zero, List.set_cons_succ]
    refine wpL_take (v := ?_) 5 rfl (by kernel_rfl) (fun _ _ _ h => h) (by rfl) ?_ ⟨HHd.out, HWd.out, HLd.out⟩ ?_
    rotate_left
    focus
      intro w9 hw9
      have a1 := hw9.1.cell (i := 1) rfl
      have b0 := hw9.2.1.cell (i := 0) rfl
      have b1 := hw9.2.1.cell (i := 1) rfl
      have lk := hw9.2.2
      go_simp
      try with_reducible rfl
    try simp only [Act.put, List.setIfInBounds_toArray, List.set_cons_zero, List.set_cons_succ]
    refine wpL_take (v := ?_) 6 rfl (by kernel_rfl) (fun _ _ _ h => h) (by rfl) ?_ ⟨HHd.out, HWd.out, HLd.out⟩ ?_
    rotate_left
    focus
      intro w9 hw9
      have a1 := hw9.1.cell (i := 1) rfl
      have b0 := hw9.2.1.cell (i := 0) rfl
      have b1 := hw9.2.1.cell (i := 1) rfl
      have lk := hw9.2.2
      go_simp
      try with_reducible rfl
    try simp only [Act.put, List.setIfInBounds_toArray, List.set_cons_zero, List.set_cons_succ]
    refine wpL_one 7 rfl (by kernel_rfl) (by rfl) ?_
    intro K hK
    refine wp_entryG keyW Tryz.underlying74 zeroNn wd (.tmp 45) (.tmp 46) rfl s.mW s.EW (t, x) (by rfl) (by rfl) HMd.out ?_
    intro w7 ei bn he hset hex hg7 hz7
    have HE7 : Hid (EntG kvW w7 s.mW (putG s.EW (t, x) (getG (.int .i64 0) s.EW (t, x))) ei bn ∧ (∀ v, (putG s.EW (t, x) (getG (.int .i64 0) s.EW (t, x))).set ei ((t, x), v) = putG s.EW (t, x) v) ∧ (∃ v, (putG s.EW (t, x) (getG (.int .i64 0) s.EW (t, x)))[ei]? = some ((t, x), v))) := ⟨he, hset, hex⟩
    have HH7 : Hid (Blk w7 s.hb #[.map (some s.mT), .map (some s.mW), s.vC, .map (some s.mV), nilS, nilS] 78) := HHd.out.grown hg7 (fun e => HMd.out.not_cells HHd.out (Option.some.inj e))
    have HW7 : Hid (Blk w7 w.heap.size #[.int .i64 t, .string x] 133) := HWd.out.grown hg7 (fun e => HMd.out.not_cells HWd.out (Option.some.inj e))
    have HL7 : Hid ((Instr.lookup 74 (.map (some s.mW)) (.agg #[.int .i64 t, .string x]) false).run Tryz.prog w7 = .ok (.int .i64 (n : Nat)) w7) := by
      have h1 := he.mapG.look keyW Tryz.underlying74 zeroNn (t, x)
      rw [getG_put, if_pos rfl, HG.out] at h1
      exact h1
    have HG7 : Hid (wd.grownBy w7 (some s.mW)) := hg7
    rw [HG.out]
    clear he hset hex hg7 hz7 HHd HWd HLd
    refine hK.out _ _ (fun _ => ⟨HH7.out, HW7.out, HL7.out⟩) ?_
    clear hK K
    try simp only [Act.put, List.setIfInBounds_toArray, List.set_cons_zero, List.set_cons_succ]
    refine wpL_one 8 rfl (by kernel_rfl) (by rfl) ?_
    intro K hK
    go_simp
    refine hK.out _ _ (fun _ => ⟨HH7.out, HW7.out, HL7.out⟩) ?_
    clear hK K
    try simp only [Act.put, List.setIfInBounds_toArray, List.set_cons_zero, List.set_cons_succ]
    refine wpL_one 9 rfl (by kernel_rfl) (by rfl) ?_
    intro K hK
    obtain ⟨v1, hv1⟩ := HE7.out.2.2
    refine wp_estoreG w7 (.tmp 45) (.tmp 50) (.tmp 48) rfl s.mW _ ei bn (t, x) (.int .i64 ((n + 1 : Nat) : Int)) v1 (by rfl) (by rfl) (by show Value.int .i64 (IntKind.i64.wrap ((n : Int) + 1)) = _; rw [HAD.out]) HE7.out.1 hv1 ?_
    intro w8 hm8 hg8 hz8
    rw [HE7.out.2.1] at hm8
    have HM8 : Hid (MapG kvW w8 s.mW (putG s.EW (t, x) (.int .i64 ((n + 1 : Nat) : Int)))) := hm8
    have HG8 : Hid (w7.grownBy w8 (some s.mW)) := hg8
    clear hm8 hg8 hz8 hv1 HE7 HH7 HW7 HL7
    refine hK.out _ _ (fun h => absurd rfl h) ?_
    clear hK K
    try simp only [Act.put]
    refine wpL_done (by kernel_rfl) ?_ _
    try simp only [NoPanic]
    have HF8 : Hid (Frm w w8 (fun k => k = s.pt t ∨ (s.vi t).ownBlock = some k ∨ k = s.mW)) := (HFd.out.trans (Frm.of_grown (F := fun k => k = s.mW) HG7.out (fun g e => by cases e; exact .inl rfl)) (fun k hk => .inl (.inr (.inr hk)))).trans (Frm.of_grown (F := fun k => k = s.mW) HG8.out (fun g e => by cases e; exact .inl rfl)) (fun k hk => .inl (.inr (.inr hk)))
    have HG9 : Hid (Frm wd w8 (fun k => k = s.mW)) := (Frm.of_grown (F := fun k => k = s.mW) HG7.out (fun g e => by cases e; exact .inl rfl)).trans (Frm.of_grown (F := fun k => k = s.mW) HG8.out (fun g e => by cases e; exact .inl rfl)) (fun k hk => .inl hk)
    clear HFd HG7 HG8
    go_wp2_with fail
    go_returns
    obtain ⟨e1, e2, e3, e4, e5⟩ := HA.out
    have hS8 := HS0.out.write (a := a) (v := .slice q5 m5 d5) hB HT.out e1 e3 e4 HF8.out (HPd.out.frm HG9.out (HMd.out.not_cells HPd.out)) (by rw [e2]; exact (HOd.out.byG (fun g hg => HG9.out.block g (HOd.out.lt hg) (fun e => by obtain ⟨_, cur, h3⟩ := HOd.out.blk hg; exact HMd.out.not_cells h3 e)))) HO6.out.2 (by rw [e2, HN.out.1]; exact HM8.out)
    exact ⟨rfl, hS8.2, _, hS8.1, rfl⟩
  · have h0' : ((n : Int) == 0) = false := by simp; omega
    have HX : Hid (insS x (its H t) = its H t) := insS_old x _ (its_ris t H) ((its_mem t x H).2 (by rw [HN.out.1]; omega))
    clear h0
    have HH : Hid (Blk w2 s.hb #[.map (some s.mT), .map (some s.mW), s.vC, .map (some s.mV), nilS, nilS] 78) := HS2.out.blk
    have HW : Hid (Blk w2 w.heap.size #[.int .i64 t, .string x] 133) := HK2.out
    have HMw : Hid (MapG kvW w2 s.mW s.EW) := HS2.out.mw
    have HFw : Hid (Frm w w2 (fun k => k = s.pt t ∨ (s.vi t).ownBlock = some k ∨ k = s.mW)) := Frm.of_below HB02.out
    go_upto_region 4 with fail
    refine wp_region_L (fun w' => Blk w' s.hb #[.map (some s.mT), .map (some s.mW), s.vC, .map (some s.mV), nilS, nilS] 78 ∧ Blk w' w.heap.size #[.int .i64 t, .string x] 133 ∧ (Instr.lookup 74 (.map (some s.mW)) (.agg #[.int .i64 t, .string x]) false).run Tryz.prog w' = .ok (.int .i64 (n : Nat)) w') 9 (by kernel_rfl) ?_
    have HHd : Hid (Blk w2.drew s.hb #[.map (some s.mT), .map (some s.mW), s.vC, .map (some s.mV), nilS, nilS] 78) := HH.out.drew
    have HWd : Hid (Blk w2.drew w.heap.size #[.int .i64 t, .string x] 133) := HW.out.drew
    have HMd : Hid (MapG kvW w2.drew s.mW s.EW) := HMw.out.of_block rfl
    have HFd : Hid (Frm w w2.drew (fun k => k = s.pt t ∨ (s.vi t).ownBlock = some k ∨ k = s.mW)) := HFw.out.drew
    have HLd : Hid ((Instr.lookup 74 (.map (some s.mW)) (.agg #[.int .i64 t, .string x]) false).run Tryz.prog w2.drew = .ok (.int .i64 (n : Nat)) w2.drew) := by
      have h1 := HMd.out.look keyW Tryz.underlying74 zeroNn (t, x)
      rw [HG.out] at h1
      exact h1
    have HPd : Hid (Blk w2.drew (s.pt t) (s.tcells H t) 101) := (HS2.out.tn t HT.out).2.drew
    have HOd : Hid (OwnG encX 1 9 w2.drew B (s.vi t) (its H t)) := (HS2.out.fi.own t).byG (fun _ _ => rfl)
    clear HK2 HB02 HBw2 HS2
    clear HH HW HMw HFw
    generalize w2.drew = wd at *
    refine wpL_take (v := ?_) 0 rfl (by kernel_rfl) (fun _ _ _ h => h) (by rfl) ?_ ⟨HHd.out, HWd.out, HLd.out⟩ ?_
    rotate_left
    focus
      intro w9 hw9
      have a1 := hw9.1.cell (i := 1) rfl
      have b0 := hw9.2.1.cell (i := 0) rfl
      have b1 := hw9.2.1.cell (i := 1) rfl
      have lk := hw9.2.2
      go_simp
      try with_reducible rfl
    try simp only [Act.put, List.setIfInBounds_toArray, List.set_cons_zero, List.set_cons_succ]
    refine wpL_take (v := ?_) 1 rfl (by kernel_rfl) (fun _ _ _ h => h) (by rfl) ?_ ⟨HHd.out, HWd.out, HLd.out⟩ ?_
    rotate_left
    focus
      intro w9 hw9
      have a1 := hw9.1.cell (i := 1) rfl
      have b0 := hw9.2.1.cell (i := 0) rfl
      have b1 := hw9.2.1.cell (i := 1) rfl
      have lk := hw9.2.2
      go_simp
      try with_reducible rfl
    try simp only [Act.put, List.setIfInBounds_toArray, List.set_cons_zero, List.set_cons_succ]
    refine wpL_take (v := ?_) 2 rfl (by kernel_rfl) (fun _ _ _ h => h) (by rfl) ?_ ⟨HHd.out, HWd.out, HLd.out⟩ ?_
    rotate_left
    focus
      intro w9 hw9
      have a1 := hw9.1.cell (i := 1) rfl
      have b0 := hw9.2.1.cell (i := 0) rfl
      have b1 := hw9.2.1.cell (i := 1) rfl
      have lk := hw9.2.2
      go_simp
      try with_reducible rfl
    try simp only [Act.put, List.setIfInBounds_toArray, List.set_cons_zero, List.set_cons_succ]
    refine wpL_take (v := ?_) 3 rfl (by kernel_rfl) (fun _ _ _ h => h) (by rfl) ?_ ⟨HHd.out, HWd.out, HLd.out⟩ ?_
    rotate_left
    focus
      intro w9 hw9
      have a1 := hw9.1.cell (i := 1) rfl
      have b0 := hw9.2.1.cell (i := 0) rfl
      have b1 := hw9.2.1.cell (i := 1) rfl
      have lk := hw9.2.2
      go_simp
      try with_reducible rfl
    try simp only [Act.put, List.setIfInBounds_toArray, List.set_cons_zero, List.set_cons_succ]
    refine wpL_take (v := ?_) 4 rfl (by kernel_rfl) (fun _ _ _ h => h) (by rfl) ?_ ⟨HHd.out, HWd.out, HLd.out⟩ ?_
    rotate_left
    focus
      intro w9 hw9
      have a1 := hw9.1.cell (i := 1) rfl
      have b0 := hw9.2.1.cell (i := 0) rfl
      have b1 := hw9.2.1.cell (i := 1) rfl
      have lk := hw9.2.2
      go_simp
      try with_reducible rfl
    try simp only [Act.put, List.setIfInBounds_toArray, List.set_cons_zero, List.set_cons_succ]
    refine wpL_take (v := ?_) 5 rfl (by kernel_rfl) (fun _ _ _ h => h) (by rfl) ?_ ⟨HHd.out, HWd.out, HLd.out⟩ ?_
    rotate_left
    focus
      intro w9 hw9
      have a1 := hw9.1.cell (i := 1) rfl
      have b0 := hw9.2.1.cell (i := 0) rfl
      have b1 := hw9.2.1.cell (i := 1) rfl
      have lk := hw9.2.2
      go_simp
      try with_reducible rfl
    try simp only [Act.put, List.setIfInBounds_toArray, List.set_cons_zero, List.set_cons_succ]
    refine wpL_take (v := ?_) 6 rfl (by kernel_rfl) (fun _ _ _ h => h) (by rfl) ?_ ⟨HHd.out, HWd.out, HLd.out⟩ ?_
    rotate_left
    focus
      intro w9 hw9
      have a1 := hw9.1.cell (i := 1) rfl
      have b0 := hw9.2.1.cell (i := 0) rfl
      have b1 := hw9.2.1.cell (i := 1) rfl
      have lk := hw9.2.2
      go_simp
      try with_reducible rfl
    try simp only [Act.put, List.setIfInBounds_toArray, List.set_cons_zero, List.set_cons_succ]
    refine wpL_one 7 rfl (by kernel_rfl) (by rfl) ?_
    intro K hK
    refine wp_entryG keyW Tryz.underlying74 zeroNn wd (.tmp 45) (.tmp 46) rfl s.mW s.EW (t, x) (by rfl) (by rfl) HMd.out ?_
    intro w7 ei bn he hset hex hg7 hz7
    have HE7 : Hid (EntG kvW w7 s.mW (putG s.EW (t, x) (getG (.int .i64 0) s.EW (t, x))) ei bn ∧ (∀ v, (putG s.EW (t, x) (getG (.int .i64 0) s.EW (t, x))).set ei ((t, x), v) = putG s.EW (t, x) v) ∧ (∃ v, (putG s.EW (t, x) (getG (.int .i64 0) s.EW (t, x)))[ei]? = some ((t, x), v))) := ⟨he, hset, hex⟩
    have HH7 : Hid (Blk w7 s.hb #[.map (some s.mT), .map (some s.mW), s.vC, .map (some s.mV), nilS, nilS] 78) := HHd.out.grown hg7 (fun e => HMd.out.not_cells HHd.out (Option.some.inj e))
    have HW7 : Hid (Blk w7 w.heap.size #[.int .i64 t, .string x] 133) := HWd.out.grown hg7 (fun e => HMd.out.not_cells HWd.out (Option.some.inj e))
    have HL7 : Hid ((Instr.lookup 74 (.map (some s.mW)) (.agg #[.int .i64 t, .string x]) false).run Tryz.prog w7 = .ok (.int .i64 (n : Nat)) w7) := by
      have h1 := he.mapG.look keyW Tryz.underlying74 zeroNn (t, x)
      rw [getG_put, if_pos rfl, HG.out] at h1
      exact h1
    have HG7 : Hid (wd.grownBy w7 (some s.mW)) := hg7
    rw [HG.out]
    clear he hset hex hg7 hz7 HHd HWd HLd
    refine hK.out _ _ (fun _ => ⟨HH7.out, HW7.out, HL7.out⟩) ?_
    clear hK K
    try simp only [Act.put, List.setIfInBounds_toArray, List.set_cons_zero, List.set_cons_succ]
    refine wpL_one 8 rfl (by kernel_rfl) (by rfl) ?_
    intro K hK
    go_simp
    refine hK.out _ _ (fun _ => ⟨HH7.out, HW7.out, HL7.out⟩) ?_
    clear hK K
    try simp only [Act.put, List.setIfInBounds_toArray, List.set_cons_zero, List.set_cons_succ]
    refine wpL_one 9 rfl (by kernel_rfl) (by rfl) ?_
    intro K hK
    obtain ⟨v1, hv1⟩ := HE7.out.2.2
    refine wp_estoreG w7 (.tmp 45) (.tmp 50) (.tmp 48) rfl s.mW _ ei bn (t, x) (.int .i64 ((n + 1 : Nat) : Int)) v1 (by rfl) (by rfl) (by show Value.int .i64 (IntKind.i64.wrap ((n : Int) + 1)) = _; rw [HAD.out]) HE7.out.1 hv1 ?_
    intro w8 hm8 hg8 hz8
    rw [HE7.out.2.1] at hm8
    have HM8 : Hid (MapG kvW w8 s.mW (putG s.EW (t, x) (.int .i64 ((n + 1 : Nat) : Int)))) := hm8
    have HG8 : Hid (w7.grownBy w8 (some s.mW)) := hg8
    clear hm8 hg8 hz8 hv1 HE7 HH7 HW7 HL7
    refine hK.out _ _ (fun h => absurd rfl h) ?_
    clear hK K
    try simp only [Act.put]
    refine wpL_done (by kernel_rfl) ?_ _
    try simp only [NoPanic]
    have HF8 : Hid (Frm w w8 (fun k => k = s.pt t ∨ (s.vi t).ownBlock = some k ∨ k = s.mW)) := (HFd.out.trans (Frm.of_grown (F := fun k => k = s.mW) HG7.out (fun g e => by cases e; exact .inl rfl)) (fun k hk => .inl (.inr (.inr hk)))).trans (Frm.of_grown (F := fun k => k = s.mW) HG8.out (fun g e => by cases e; exact .inl rfl)) (fun k hk => .inl (.inr (.inr hk)))
    have HG9 : Hid (Frm wd w8 (fun k => k = s.mW)) := (Frm.of_grown (F := fun k => k = s.mW) HG7.out (fun g e => by cases e; exact .inl rfl)).trans (Frm.of_grown (F := fun k => k = s.mW) HG8.out (fun g e => by cases e; exact .inl rfl)) (fun k hk => .inl hk)
    clear HFd HG7 HG8
    go_wp2_with fail
    go_returns
    obtain ⟨e1, e2, e3, e4, e5⟩ := HA.out
    have hS8 := HS0.out.write (a := a) (v := s.vi t) hB HT.out e1 e3 e4 HF8.out (HPd.out.frm HG9.out (HMd.out.not_cells HPd.out)) (by rw [e2]; exact (by rw [HX.out]; exact HOd.out.byG (fun g hg => HG9.out.block g (HOd.out.lt hg) (fun e => by obtain ⟨_, cur, h3⟩ := HOd.out.blk hg; exact HMd.out.not_cells h3 e)))) (.inl rfl) (by rw [e2, HN.out.1]; exact HM8.out)
    exact ⟨rfl, hS8.2, _, hS8.1, rfl⟩

end Go.Proofs.YtncfejndmlcidaaGreat

namespace Go.Proofs.YtncfejndmlcidaaGreat
open Go.RowKit
set_option maxRecDepth 100000

theorem find_and {α : Type} (p q : α → Bool) : ∀ (L : List α) (a : α), L.find? p = some a → q a = true → L.find? (fun x => q x && p x) = some a
  | [], a, h, _ => by cases h
  | x :: L, a, h, hq => by
    rw [List.find?_cons] at h ⊢
    cases hp : p x
    · rw [hp] at h
      simp only [Bool.and_false]
      exact find_and p q L a h hq
    · rw [hp] at h
      cases h
      rw [hq]
      rfl
theorem getLast?_filter_and {α : Type} (p q : α → Bool) (L : List α) (a : α) (h : (L.filter p).getLast? = some a) (hq : q a = true) : (L.filter (fun x => q x && p x)).getLast? = some a := by
  rw [List.getLast?_eq_head?_reverse, ← List.filter_reverse, List.head?_filter] at h ⊢
  exact find_and p q _ a h hq
/-- does a text stand in a list? -/
def memB (x : ByteArray) (L : List ByteArray) : Bool := L.any (fun y => decide (y = x))
theorem memB_iff (x : ByteArray) (L : List ByteArray) : memB x L = true ↔ x ∈ L := by
  unfold memB
  rw [List.any_eq_true]
  exact ⟨fun ⟨y, h1, h2⟩ => by rw [← of_decide_eq_true h2]; exact h1, fun h => ⟨x, h, by simp⟩⟩
theorem lst_cm {H : List Ac} {u : Int} (h : (cms H).getLast? = some u) : cm H u = lst H ∧ kn H u = true := by
  unfold cms at h
  rw [List.getLast?_map] at h
  cases h1 : (H.filter (fun a => a.kd == 5)).getLast? with
  | none => rw [h1] at h; cases h
  | some a =>
    rw [h1] at h
    cases h
    have h2 := getLast?_filter_and (fun a => a.kd == 5) (fun b => b.tx == a.tx) H a h1 (by simp)
    refine ⟨?_, ?_⟩
    · show stOf 5 H a.tx = lst H
      unfold stOf lst
      rw [h1, h2]
    · have h3 := List.mem_of_getLast? h1
      unfold kn
      rw [List.any_eq_true]
      exact ⟨a, (List.mem_filter.1 h3).1, by simp⟩
theorem lst_nil {H : List Ac} (h : cms H = []) : lst H = 0 := by
  unfold cms at h
  have h1 : H.filter (fun a => a.kd == 5) = [] := by simpa using h
  unfold lst
  rw [h1]
  rfl
theorem OwnG.slcL {α : Type} {enc : α → List Value} {size B : Nat} {T : TypeId} {w : World} {v : Value} {L : List α} (h : OwnG enc size T w B v L) : ∃ q d, v = .slice q L.length d := by
  rcases h.form with ⟨rfl, rfl⟩ | ⟨g, cap, cur, rfl, _⟩
  · exact ⟨_, _, rfl⟩
  · exact ⟨_, _, rfl⟩
/-- the rows of the committed ones while one commits -/
def vvK (H : List Ac) (t : Int) (k : Nat) : Option ByteArray → List Int | none => cms H ++ [t] | some x => vrs H x ++ (if memB x ((its H t).take k) = true then [t] else [])
/-- a commit under way: the first k items are told -/
structure CmI (w w' : World) (B : Nat) (H : List Ac) (s : Hv) (t : Int) (st k : Nat) (vv : Value) (E : List (ByteArray × Value)) : Prop where
  frm : Frm w w' (fun j => B ≤ j ∧ (j = s.pt t ∨ j = s.hb ∨ j = s.mV ∨ w.heap.size ≤ j ∨ ∃ cur, w.heap[j]? = some (Obj.cells cur 102 (0, 0))))
  hb : Blk w' s.hb #[.map (some s.mT), .map (some s.mW), vv, .map (some s.mV), nilS, nilS] 78
  pt : Blk w' (s.pt t) #[.int .i64 t, .int .i64 0, .bool (bg H t), .bool true, .int .u64 (snp H t : Nat), .int .u64 (st : Nat), s.vi t, s.vr t, s.vs t] 101
  mv : MapG kvS w' s.mV E
  mvk : ∀ x, x ∈ E.map (·.1) ↔ vvK H t k (some x) ≠ []
  mvn : (E.map (·.1)).Nodup
  fv : Fam (encT s.pt) 1 102 w' B (Hv.vv { s with vC := vv, EV := E }) (vvK H t k)
  it : OwnG encX 1 9 w' B (s.vi t) (its H t)
theorem vrs_commit (H : List Ac) {a : Ac} {t : Int} (htx : a.tx = t) (hkd : a.kd = 5) (x : ByteArray) : vrs (H ++ [a]) x = vrs H x ++ (if memB x (its H t) = true then [t] else []) := by
  unfold vrs
  have hw : ∀ u, wr (H ++ [a]) u x = wr H u x := fun u => wr_keep _ (.inl (by omega))
  rw [cms_snoc, if_pos hkd, List.filter_append, htx]
  simp only [hw]
  congr 1
  have h9 := its_mem t x H
  rw [← memB_iff] at h9
  by_cases h : memB x (its H t) = true
  · rw [if_pos h]
    simp [h9.1 h]
  · rw [if_neg h]
    have : ¬ 0 < wr H t x := fun h1 => h (h9.2 h1)
    simp [this]
theorem vvK_some (H : List Ac) (t : Int) (k : Nat) (x : ByteArray) : vvK H t k (some x) = vrs H x ++ (if memB x ((its H t).take k) = true then [t] else []) := rfl
/-- a commit begins -/
theorem CmI.start {w w4 w6 : World} {B : Nat} {H : List Ac} {s : Hv} {t : Int} {st : Nat} {v6 : Value} (h : St w B H s) (_hB : B ≤ w.heap.size) (ht : kn H t = true) (hf4 : Frm w w4 (one1 (s.pt t)))
    (hp4 : Blk w4 (s.pt t) #[.int .i64 t, .int .i64 0, .bool (bg H t), .bool true, .int .u64 (snp H t : Nat), .int .u64 (st : Nat), s.vi t, s.vr t, s.vs t] 101)
    (ho : OwnG (encT s.pt) 1 102 w6 B v6 (cms H ++ [t])) (hg : w4.grownBy w6 s.vC.ownBlock) (hat : v6.ownBlock = s.vC.ownBlock ∨ v6.ownBlock = some w4.heap.size) :
    CmI w (w6.setCell ⟨s.hb, 2, none⟩ v6) B H s t st 0 v6 s.EV := by
  have hown : OwnG (encT s.pt) 1 102 w B s.vC (cms H) := h.fv.own none
  have hpb : s.pt t ≠ s.hb := fun e => by
    have h1 : w.heap[s.pt t]? = _ := (h.tn t ht).2
    rw [e, show w.heap[s.hb]? = _ from h.blk] at h1
    cases h1
  have h46 : Frm w4 w6 (fun j => s.vC.ownBlock = some j) := Frm.of_grown hg (fun g e => .inl e)
  have h67 : Frm w6 (w6.setCell ⟨s.hb, 2, none⟩ v6) (one1 s.hb) := frm_set w6 s.hb 2 v6 (.inl rfl)
  have hF : Frm w (w6.setCell ⟨s.hb, 2, none⟩ v6) (fun j => j = s.pt t ∨ j = s.hb ∨ s.vC.ownBlock = some j) :=
    Frm.trans (w1 := w6) (Frm.trans (w1 := w4) (F := fun j => j = s.pt t ∨ j = s.hb ∨ s.vC.ownBlock = some j) (hf4.mono (fun k hk => .inl (.inl hk))) h46 (fun k hk => .inl (.inr (.inr hk)))) h67 (fun k hk => .inl (.inr (.inl hk)))
  have hne : ∀ {g : Nat} {cs : Array Value} {T : TypeId}, w.heap[g]? = some (Obj.cells cs T (0, 0)) → g ≠ s.pt t → g ≠ s.hb → T ≠ 102 → ¬ (g = s.pt t ∨ g = s.hb ∨ s.vC.ownBlock = some g) := fun {g cs T} hg h0 h1 h2 hc => by
    rcases hc with e | e | e
    · exact h0 e
    · exact h1 e
    · obtain ⟨_, cur, h3⟩ := hown.blk e
      rw [hg] at h3
      cases h3
      exact h2 rfl
  have hmn : ∀ {mb : Nat} {E : List (ByteArray × Value)}, MapG kvS w mb E → ¬ (mb = s.pt t ∨ mb = s.hb ∨ s.vC.ownBlock = some mb) := fun {mb E} hm hc => by
    rcases hc with e | e | e
    · exact hm.not_cells (h.tn t ht).2 e.symm
    · exact hm.not_cells h.blk e.symm
    · obtain ⟨_, cur, h3⟩ := hown.blk e
      exact hm.not_cells h3 rfl
  have hb4 : Blk w4 s.hb #[.map (some s.mT), .map (some s.mW), s.vC, .map (some s.mV), nilS, nilS] 78 := h.blk.frm hf4 (fun e => hpb (show s.hb = s.pt t from e).symm)
  have hown4 : OwnG (encT s.pt) 1 102 w4 B s.vC (cms H) := hown.byG (fun g hg => hf4.block g (hown.lt hg) (fun e => by
    obtain ⟨_, cur, h3⟩ := hown.blk hg
    rw [show g = s.pt t from e, show w.heap[s.pt t]? = _ from (h.tn t ht).2] at h3
    cases h3))
  have hb6 := hb4.grown hg (own_ne_blk hown4 hb4 (by decide))
  have hp6 := hp4.grown hg (own_ne_blk hown4 hp4 (by decide))
  refine ⟨hF.mono (fun k hk => .inl ?_), hb6.set 2 v6, hp6.other hpb 2 v6, h.mv.frm hF (hmn h.mv), fun x => ?_, h.mvn, ?_, ?_⟩
  · rcases hk with rfl | rfl | e
    · exact ⟨(h.tn t ht).1, .inl rfl⟩
    · exact ⟨h.hbB, .inr (.inl rfl)⟩
    · obtain ⟨h1, cur, h3⟩ := hown.blk e
      exact ⟨h1, .inr (.inr (.inr (.inr ⟨cur, h3⟩)))⟩
  · rw [h.mvk]
    simp [vvK, memB]
  · have e1 : Hv.vv { s with vC := v6, EV := s.EV } = updF s.vv none v6 := by
      funext o
      cases o <;> rfl
    have e2 : vvK H t 0 = updF (vvL H) none (cms H ++ [t]) := by
      funext o
      cases o with
      | none => rfl
      | some x => simp [vvK, vvL, updF, memB]
    rw [e1, e2]
    refine h.fv.put none (ho.byG (fun g hg => h67.block g (ho.lt hg) (fun e => own_ne_blk ho hb6 (by decide) (by rw [hg, show g = s.hb from e])))) (fun g hgl hne2 hc => hF.block g hgl (fun hc2 => ?_)) (hat.elim .inl (fun e => .inr (.inr ⟨_, e, hf4.size⟩)))
    obtain ⟨cur, hc⟩ := hc
    rcases hc2 with rfl | rfl | e
    · rw [show w.heap[s.pt t]? = _ from (h.tn t ht).2] at hc
      cases hc
    · rw [show w.heap[s.hb]? = _ from h.blk] at hc
      cases hc
    · exact hne2 e
  · exact (h.fi.own t).byG (fun g hg => hF.block g ((h.fi.own t).lt hg) (by
      obtain ⟨_, cur, h3⟩ := (h.fi.own t).blk hg
      refine hne h3 (fun e => ?_) (fun e => ?_) (by decide)
      · rw [e, show w.heap[s.pt t]? = _ from (h.tn t ht).2] at h3
        cases h3
      · rw [e, show w.heap[s.hb]? = _ from h.blk] at h3
        cases h3))
theorem CmI.on {w w' w5 : World} {B : Nat} {H : List Ac} {s : Hv} {t : Int} {st k : Nat} {vv : Value} {E : List (ByteArray × Value)} (h : CmI w w' B H s t st k vv E) (hb : Below w'.heap.size w' w5) : CmI w w5 B H s t st k vv E :=
  ⟨h.frm.trans (Frm.of_below (F := none1) hb) (fun _k hk => hk.elim), h.hb.on hb, h.pt.on hb, h.mv.on hb, h.mvk, h.mvn, h.fv.on hb, h.it.on hb⟩
theorem CmI.sizeB {w w' : World} {B : Nat} {H : List Ac} {s : Hv} {t : Int} {st k : Nat} {vv : Value} {E : List (ByteArray × Value)} (h : CmI w w' B H s t st k vv E) (hB : B ≤ w.heap.size) : B ≤ w'.heap.size := Nat.le_trans hB h.frm.size
/-- one more item is told -/
theorem CmI.step {w w' w5 w6 : World} {B : Nat} {H : List Ac} {s : Hv} {t : Int} {st k : Nat} {vv v5 : Value} {E : List (ByteArray × Value)} {x : ByteArray} (hI : CmI w w' B H s t st k vv E) (h : St w B H s) (_hB : B ≤ w.heap.size) (_ht : kn H t = true) (hk : k < (its H t).length) (hx : (its H t)[k] = x)
    (ho : OwnG (encT s.pt) 1 102 w5 B v5 (vrs H x ++ [t])) (hg : w'.grownBy w5 (getG nilS E x).ownBlock) (hat : v5.ownBlock = (getG nilS E x).ownBlock ∨ v5.ownBlock = some w'.heap.size)
    (hm : MapG kvS w6 s.mV (putG E x v5)) (hg6 : w5.grownBy w6 (some s.mV)) : CmI w w6 B H s t st (k + 1) vv (putG E x v5) := by
  have hris := its_ris t H
  have hnx : memB x ((its H t).take k) = false := by
    cases hm : memB x ((its H t).take k)
    · rfl
    · exfalso
      obtain ⟨j, hj, e⟩ := List.getElem_of_mem ((memB_iff _ _).1 hm)
      rw [List.length_take] at hj
      rw [List.getElem_take] at e
      have h1 := List.pairwise_iff_getElem.1 hris j k (by omega) hk (by omega)
      rw [e, hx, ltB_irrefl] at h1
      cases h1
  have hmem : ∀ y, memB y ((its H t).take (k + 1)) = true ↔ memB y ((its H t).take k) = true ∨ y = x := fun y => by
    rw [memB_iff, memB_iff, ← List.take_append_getElem hk, List.mem_append, List.mem_singleton, hx]
  have hown : OwnG (encT s.pt) 1 102 w' B (getG nilS E x) (vrs H x) := by
    have h1 := hI.fv.own (some x)
    have e : vvK H t k (some x) = vrs H x := by rw [vvK_some, hnx]; simp
    rw [e] at h1
    exact h1
  have h5 : Frm w' w5 (fun j => (getG nilS E x).ownBlock = some j) := Frm.of_grown hg (fun g e => .inl e)
  have h6 : Frm w5 w6 (fun j => j = s.mV) := Frm.of_grown hg6 (fun g e => by cases e; exact .inl rfl)
  have hF : Frm w' w6 (fun j => (getG nilS E x).ownBlock = some j ∨ j = s.mV) := Frm.trans (w1 := w5) (h5.mono (fun k hk => .inl (.inl hk))) h6 (fun k hk => .inl (.inr hk))
  have hne : ∀ {g : Nat} {cs : Array Value} {T : TypeId}, w'.heap[g]? = some (Obj.cells cs T (0, 0)) → T ≠ 102 → ¬ ((getG nilS E x).ownBlock = some g ∨ g = s.mV) := fun {g cs T} hg h2 hc => by
    rcases hc with e | e
    · obtain ⟨_, cur, h3⟩ := hown.blk e
      rw [hg] at h3
      cases h3
      exact h2 rfl
    · exact hI.mv.not_cells hg e
  refine ⟨hI.frm.trans hF (fun j hj => ?_), hI.hb.frm hF (hne hI.hb (by decide)), hI.pt.frm hF (hne hI.pt (by decide)), hm, fun y => ?_, putG_nodup _ _ _ hI.mvn, ?_, ?_⟩
  · rcases hj with e | rfl
    · obtain ⟨h1, cur, h3⟩ := hown.blk e
      by_cases hlt : j < w.heap.size
      · refine .inl ⟨h1, ?_⟩
        by_cases hin : B ≤ j ∧ (j = s.pt t ∨ j = s.hb ∨ j = s.mV ∨ w.heap.size ≤ j ∨ ∃ cur, w.heap[j]? = some (Obj.cells cur 102 (0, 0)))
        · exact hin.2
        · have h4 := hI.frm.block j hlt hin
          rw [h4] at h3
          exact .inr (.inr (.inr (.inr ⟨cur, h3⟩)))
      · exact .inr (by omega)
    · exact .inl ⟨h.mVB, .inr (.inr (.inl rfl))⟩
  · rw [putG_keys, hI.mvk]
    simp only [vvK_some]
    by_cases hy : y = x
    · subst hy
      rw [if_pos ((hmem y).2 (.inr rfl))]
      simp
    · have e : memB y ((its H t).take (k + 1)) = memB y ((its H t).take k) := by
        rw [Bool.eq_iff_iff, hmem]
        exact ⟨fun h => h.elim id (fun e => absurd e hy), .inl⟩
      rw [e]
      exact ⟨fun h => h.elim (fun e => absurd e hy) id, .inr⟩
  · have e1 : Hv.vv { s with vC := vv, EV := putG E x v5 } = updF (Hv.vv { s with vC := vv, EV := E }) (some x) v5 := by
      funext o
      cases o with
      | none => rfl
      | some y =>
        show getG nilS (putG E x v5) y = _
        rw [getG_put]
        by_cases hy : y = x
        · subst hy
          rw [if_pos rfl, updF_same]
        · rw [if_neg hy, updF_other _ _ (fun e => hy (Option.some.inj e))]
          rfl
    have e2 : vvK H t (k + 1) = updF (vvK H t k) (some x) (vrs H x ++ [t]) := by
      funext o
      cases o with
      | none => rfl
      | some y =>
        by_cases hy : y = x
        · subst hy
          rw [updF_same]
          simp only [vvK_some]
          rw [if_pos ((hmem y).2 (.inr rfl))]
        · rw [updF_other _ _ (fun e => hy (Option.some.inj e))]
          simp only [vvK_some]
          have e : memB y ((its H t).take (k + 1)) = memB y ((its H t).take k) := by
            rw [Bool.eq_iff_iff, hmem]
            exact ⟨fun h => h.elim id (fun e => absurd e hy), .inl⟩
          rw [e]
    rw [e1, e2]
    refine hI.fv.put (some x) (ho.byG (fun g hg2 => h6.block g (ho.lt hg2) (fun e => ?_))) (fun g hgl hne2 hc => hF.block g hgl (fun hc2 => ?_)) (hat.elim .inl (fun e => .inr (.inr ⟨_, e, Nat.le_refl _⟩)))
    · obtain ⟨_, cur, h3⟩ := ho.blk hg2
      have hm5 : MapG kvS w5 s.mV E := hI.mv.frm h5 (fun e2 => by
        obtain ⟨_, cur, h4⟩ := hown.blk e2
        exact hI.mv.not_cells h4 rfl)
      exact hm5.not_cells h3 e
    · obtain ⟨cur, hc⟩ := hc
      rcases hc2 with e | e
      · exact hne2 e
      · exact hI.mv.not_cells hc e
  · exact hI.it.byG (fun g hg2 => hF.block g (hI.it.lt hg2) (by
      obtain ⟨_, cur, h3⟩ := hI.it.blk hg2
      exact hne h3 (by decide)))
/-- a commit is through -/
theorem CmI.done {w w' : World} {B : Nat} {H : List Ac} {s : Hv} {a : Ac} {t : Int} {vv : Value} {E : List (ByteArray × Value)} {k : Nat} (h : St w B H s) (hB : B ≤ w.heap.size) (ht : kn H t = true) (htx : a.tx = t) (hkd : a.kd = 5) (hk : k = (its H t).length) (hI : CmI w w' B H s t a.st k vv E) :
    St w' B (H ++ [a]) { s with vC := vv, EV := E } ∧ Below B w w' := by
  have hbel : Below B w w' := hI.frm.below hB (fun j hj => hj.1)
  have hk1 : a.kd ≠ 1 := by omega
  have hk2 : a.kd ≠ 2 := by omega
  have hk3 : a.kd ≠ 3 := by omega
  have hk4 : a.kd ≠ 4 := by omega
  have hr : rds (H ++ [a]) = rds H := by funext u; exact rds_keep _ (.inl hk2)
  have hi : its (H ++ [a]) = its H := by funext u; exact its_keep _ (.inl hk4)
  have hkn : ∀ u, kn (H ++ [a]) u = kn H u := fun u => kn_keep _ (by rw [htx]; exact ht) u
  have hvv : vvL (H ++ [a]) = vvK H t k := by
    funext o
    cases o with
    | none =>
      show cms (H ++ [a]) = cms H ++ [t]
      rw [cms_snoc, if_pos hkd, htx]
    | some x =>
      show vrs (H ++ [a]) x = _
      rw [vrs_commit H htx hkd x]
      unfold vvK
      rw [hk, List.take_of_length_le (Nat.le_refl _)]
  have hff : ∀ {g : Nat} {cs : Array Value} {T : TypeId}, w.heap[g]? = some (Obj.cells cs T (0, 0)) → g ≠ s.pt t → T ≠ 78 → T ≠ 102 → ¬ (B ≤ g ∧ (g = s.pt t ∨ g = s.hb ∨ g = s.mV ∨ w.heap.size ≤ g ∨ ∃ cur, w.heap[g]? = some (Obj.cells cur 102 (0, 0)))) := fun {g cs T} hg h0 h1 h2 hc => by
    rcases hc.2 with e | e | e | e | ⟨cur, e⟩
    · exact h0 e
    · subst e
      have h3 : w.heap[s.hb]? = _ := h.blk
      rw [hg] at h3
      cases h3
      exact h1 rfl
    · exact h.mv.not_cells hg e
    · have := (Array.getElem?_eq_some_iff.1 hg).1
      omega
    · rw [hg] at e
      cases e
      exact h2 rfl
  have hmm : ∀ {K : Type} [DecidableEq K] {kv : K → Value} {mb : Nat} {E : List (K × Value)}, MapG kv w mb E → mb ≠ s.mV → ¬ (B ≤ mb ∧ (mb = s.pt t ∨ mb = s.hb ∨ mb = s.mV ∨ w.heap.size ≤ mb ∨ ∃ cur, w.heap[mb]? = some (Obj.cells cur 102 (0, 0)))) := fun {K _ kv mb E} hm hne hc => by
    rcases hc.2 with e | e | e | e | ⟨cur, e⟩
    · exact hm.not_cells (h.tn t ht).2 e.symm
    · exact hm.not_cells h.blk e.symm
    · exact hne e
    · have := hm.lt
      omega
    · exact hm.not_cells e rfl
  have hfam : ∀ {α : Type} {enc : α → List Value} {size : Nat} {T : TypeId} {vs : Int → Value} {Ls : Int → List α}, Fam enc size T w B vs Ls → T ≠ 101 → T ≠ 78 → T ≠ 102 → Fam enc size T w' B vs Ls := fun {α enc size T vs Ls} hF h0 h1 h2 => hF.frm hI.frm (fun g cur hg => hff hg (fun e => by
    subst e
    have h3 : w.heap[s.pt t]? = _ := (h.tn t ht).2
    rw [hg] at h3
    cases h3
    exact h0 rfl) h1 h2)
  refine ⟨{ blk := hI.hb, hbB := h.hbB, mTB := h.mTB, mWB := h.mWB, mVB := h.mVB, mTW := h.mTW, mTV := h.mTV, mWV := h.mWV, mt := h.mt.frm hI.frm (hmm h.mt h.mTV), mtv := fun u => by rw [hkn]; exact h.mtv u, mw := h.mw.frm hI.frm (hmm h.mw h.mWV), mwv := fun k => by rw [wr_keep _ (.inl hk4)]; exact h.mwv k, mv := hI.mv, mvk := fun x => ?_, mvn := hI.mvn, fv := ?_, tn := ?_, inj := fun u u' h1 h2 e => h.inj u u' (by rw [← hkn]; exact h1) (by rw [← hkn]; exact h2) e, fi := by rw [hi]; exact hfam h.fi (by decide) (by decide) (by decide), fr := by rw [hr]; exact hfam h.fr (by decide) (by decide) (by decide), fs := hfam h.fs (by decide) (by decide) (by decide), sc := fun u => by rw [scs_keep _ (.inl hk3)]; exact h.sc u, sn := fun u z hz => (h.sn u z hz).on hbel }, hbel⟩
  · have h1 := hI.mvk x
    have h2 := congrFun hvv (some x)
    rw [h1, ← h2]
    rfl
  · rw [hvv]
    exact hI.fv
  · intro u hu
    rw [hkn] at hu
    refine ⟨(h.tn u hu).1, ?_⟩
    by_cases he : u = t
    · subst he
      have h1 : en (H ++ [a]) u = true := by rw [en_snoc]; simp [htx, hkd]
      have h2 : cm (H ++ [a]) u = a.st := by show stOf 5 (H ++ [a]) u = _; rw [stOf_snoc, if_pos ⟨htx, hkd⟩]
      have h3 : snp (H ++ [a]) u = snp H u := st_keep _ (.inl hk1)
      unfold Hv.tcells
      rw [h1, h2, h3, bg_keep _ (.inl hk1)]
      exact hI.pt
    · have hne : a.tx ≠ u := by rw [htx]; exact Ne.symm he
      have h3 : snp (H ++ [a]) u = snp H u := st_keep _ (.inl hk1)
      have h4 : cm (H ++ [a]) u = cm H u := st_keep _ (.inr hne)
      unfold Hv.tcells
      rw [bg_keep _ (.inl hk1), en_keep _ (.inr hne), h3, h4]
      exact (h.tn u hu).2.frm hI.frm (hff (h.tn u hu).2 (fun e => he (h.inj u t hu ht e)) (by decide) (by decide))
set_option maxHeartbeats 8000000 in
theorem addCommit_any (B : Nat) (H : List Ac) (s : Hv) (a : Ac) (w : World) (hS : St w B H s) (hB : B ≤ w.heap.size) (ht : kn H a.tx = true) (hkd : a.kd = 5) (hlen : H.length ≤ 4096) :
    Calls Tryz.prog 67 #[ptr1 s.hb, ptr1 (s.pt a.tx), .int .u64 (a.st : Nat)] w fun e w' => e = .returned (.bool (decide (lst H < a.st))) ∧ Below B w w' ∧ (lst H < a.st → ∃ s' : Hv, St w' B (H ++ [a]) s' ∧ s'.hb = s.hb) := by
  obtain ⟨t, et⟩ : ∃ t, a.tx = t := ⟨_, rfl⟩
  obtain ⟨st, est⟩ : ∃ st, a.st = st := ⟨_, rfl⟩
  rw [et, est]
  have HT : Hid (kn H t = true) := by rw [← et]; exact ht
  have HS0 : Hid (St w B H s) := hS
  have HA : Hid (a.tx = t ∧ a.st = st ∧ a.kd = 5 ∧ H.length ≤ 4096) := ⟨et, est, hkd, hlen⟩
  obtain ⟨qc, dc, evc⟩ := (show OwnG (encT s.pt) 1 102 w B s.vC (cms H) from hS.fv.own none).slcL
  obtain ⟨n, hn⟩ : ∃ n, (cms H).length = n := ⟨_, rfl⟩
  obtain ⟨la, hla⟩ : ∃ la, lst H = la := ⟨_, rfl⟩
  have HN : Hid ((cms H).length = n ∧ lst H = la ∧ n ≤ 4096) := ⟨hn, hla, by rw [← hn]; exact Nat.le_trans (cms_len H) hlen⟩
  rw [hn] at evc
  have c2 : w.cell? ⟨s.hb, 2, none⟩ = some (.slice qc n dc) := by rw [← evc]; exact hS.blk.cell rfl
  have HEV : Hid (s.vC = .slice qc n dc) := evc
  rw [hla]
  clear ht hkd hlen et est hn hla evc hS
  dsimp only [ptr1]
  go_enter Tryz.func67, Tryz.ntmps67
  go_upto_if 17 with fail
  go_cut [7] from 18 to 28 (fun v7 wx => v7 = .int .u64 (la : Nat) ∧ wx = w)
  case first =>
    by_cases h0 : n = 0
    · have hpos : ¬ 0 < n := by omega
      have hl : la = 0 := by rw [← HN.out.2.1]; exact lst_nil (List.eq_nil_of_length_eq_zero (by rw [HN.out.1]; exact h0))
      clear h0
      go_wp2_with fail
      go_meet
      exact ⟨by rw [hl]; rfl, rfl⟩
    · have hpos : 0 < n := by omega
      have hsl : SlG (encT s.pt) 1 w.heap.size w s.vC (cms H) := OwnG.sl (T := 102) (B := B) (fun _ => rfl) (HS0.out.fv.own none)
      rw [HEV.out] at hsl
      obtain ⟨p', c', e', h5, _, h7⟩ := hsl.f
      obtain ⟨rfl, -, rfl⟩ := Value.slice.inj e'
      clear e'
      obtain ⟨b, o, rfl, hb, hc⟩ := h7 (n - 1) (by have := HN.out.1; omega)
      have hd := hc 0 _ rfl
      obtain ⟨u, hu⟩ : ∃ u, (cms H)[n - 1]'(by have := HN.out.1; omega) = u := ⟨_, rfl⟩
      rw [hu, Nat.mul_one, Nat.add_zero] at hd
      have hlu := lst_cm (H := H) (u := u) (by rw [List.getLast?_eq_getElem?, HN.out.1, List.getElem?_eq_getElem (by have := HN.out.1; omega), hu])
      have hk5 : w.cell? ⟨s.pt u, 5, none⟩ = some (.int .u64 (la : Nat)) := by
        rw [← HN.out.2.1, ← hlu.1]
        exact (HS0.out.tn u hlu.2).2.cell (i := 5) rfl
      have hsub : wrap64 ((n : Int) - 1) = ((n - 1 : Nat) : Int) := by have := HN.out.2.2; simp only [wrap64]; omega
      have hin : ((n - 1 : Nat) : Int) < (n : Int) := by omega
      clear hc h7 hu hlu hb h5
      go_wp2_with fail
      go_meet
      exact ⟨rfl, rfl⟩
  case rest =>
    obtain ⟨rfl, hwc⟩ := hcut
    rw [hwc]
    clear hwc wc
    by_cases hle : st ≤ la
    · have hd : decide (la < st) = false := by simp; omega
      go_wp2_with fail
      go_ret
      exact ⟨by simp; omega, Below.refl _ _, fun h => absurd h (by omega)⟩
    · have hlt : la < st := by omega
      have HLT : Hid (la < st) := hlt
      clear hlt
      obtain ⟨qi, di, evi⟩ := (HS0.out.fi.own t).slcL
      obtain ⟨m, hm⟩ : ∃ m, (its H t).length = m := ⟨_, rfl⟩
      have HM : Hid ((its H t).length = m ∧ m ≤ 4096) := ⟨hm, by rw [← hm]; exact Nat.le_trans (its_len t H) HA.out.2.2.2⟩
      rw [hm] at evi
      have HEVI : Hid (s.vi t = .slice qi m di) := evi
      clear evi hm
      have hpb : s.pt t ≠ s.hb := fun e => by
        have h1 : w.heap[s.pt t]? = _ := (HS0.out.tn t HT.out).2
        rw [e, show w.heap[s.hb]? = _ from HS0.out.blk] at h1
        cases h1
      have z3 : w.cell? ⟨s.pt t, 3, none⟩ = some (.bool (en H t)) := (HS0.out.tn t HT.out).2.cell (i := 3) rfl
      have z5 : w.cell? ⟨s.pt t, 5, none⟩ = some (.int .u64 (cm H t : Nat)) := (HS0.out.tn t HT.out).2.cell (i := 5) rfl
      have f3 := (HS0.out.tn t HT.out).2.frozen 3
      have f5 := (HS0.out.tn t HT.out).2.frozen 5
      obtain ⟨w3, hw3⟩ : ∃ w3, (w.setCell ⟨s.pt t, 3, none⟩ (.bool true)).setCell ⟨s.pt t, 5, none⟩ (.int .u64 (st : Nat)) = w3 := ⟨_, rfl⟩
      have HP3 : Hid (Blk w3 (s.pt t) #[.int .i64 t, .int .i64 0, .bool (bg H t), .bool true, .int .u64 (snp H t : Nat), .int .u64 (st : Nat), s.vi t, s.vr t, s.vs t] 101) := by rw [← hw3]; exact ((HS0.out.tn t HT.out).2.set 3 _).set 5 _
      have HF3 : Hid (Frm w w3 (one1 (s.pt t))) := by rw [← hw3]; exact (frm_set w (s.pt t) 3 _ (F := one1 (s.pt t)) (.inl rfl)).trans (frm_set _ (s.pt t) 5 _ (F := one1 (s.pt t)) (.inl rfl)) (fun k hk => .inl hk)
      obtain ⟨w4, hw4⟩ : ∃ w4, w3.alloc (.cells #[.pointer (some ⟨s.pt t, 0, none⟩)] 102) = w4 := ⟨_, rfl⟩
      have HF4 : Hid (Frm w w4 (one1 (s.pt t))) := by rw [← hw4]; exact HF3.out.trans (Frm.of_below (F := none1) ((Below.refl _ _).alloc (Nat.le_refl _) _)) (fun k hk => hk.elim)
      have HP4 : Hid (Blk w4 (s.pt t) #[.int .i64 t, .int .i64 0, .bool (bg H t), .bool true, .int .u64 (snp H t : Nat), .int .u64 (st : Nat), s.vi t, s.vr t, s.vs t] 101) := by rw [← hw4]; exact HP3.out.on ((Below.refl _ _).alloc (Nat.le_refl _) _)
      have HB4 : Hid (Blk w4 s.hb #[.map (some s.mT), .map (some s.mW), s.vC, .map (some s.mV), nilS, nilS] 78) := HS0.out.blk.frm HF4.out (fun e => hpb (show s.hb = s.pt t from e).symm)
      have HC4 : Hid (Blk w4 w3.heap.size #[.pointer (some ⟨s.pt t, 0, none⟩)] 102) := by rw [← hw4]; exact Blk.new w3 _ _
      have HO4 : Hid (OwnG (encT s.pt) 1 102 w4 B s.vC (cms H)) := (show OwnG (encT s.pt) 1 102 w B s.vC (cms H) from HS0.out.fv.own none).byG (fun g hg => HF4.out.block g ((show OwnG (encT s.pt) 1 102 w B s.vC (cms H) from HS0.out.fv.own none).lt hg) (fun e => by
        obtain ⟨_, cur, h3⟩ := (show OwnG (encT s.pt) 1 102 w B s.vC (cms H) from HS0.out.fv.own none).blk hg
        rw [show g = s.pt t from e, show w.heap[s.pt t]? = _ from (HS0.out.tn t HT.out).2] at h3
        cases h3))
      have c3 : w3.cell? ⟨s.hb, 2, none⟩ = some (.slice qc n dc) := by rw [← HEV.out]; exact (HS0.out.blk.frm HF3.out (fun e => hpb (show s.hb = s.pt t from e).symm)).cell rfl
      have HOC : Hid (OwnG (encT s.pt) 1 102 w4 B (.slice qc n dc) (cms H)) := by rw [← HEV.out]; exact HO4.out
      have hsz : w4.heap.size = w3.heap.size + 1 := by rw [← hw4]; simp
      have hone : ∀ u ∈ encT s.pt t, u.oneCell' = true := by intro u hu; rw [List.mem_singleton.1 hu]; rfl
      have hcc : ∀ j u, (encT s.pt t)[j]? = some u → w4.cell? ⟨w3.heap.size, j, none⟩ = some u := fun j u hj => by
        have h0 : j = 0 := by have h9 := (List.getElem?_eq_some_iff.1 hj).1; simp [encT] at h9; omega
        subst h0
        cases hj
        exact HC4.out.cell rfl
      have hl1 : ((cms H).length + 1) * 8 ≤ 140737488355328 := by have h9 := HN.out; omega
      have hl2 : (cms H).length + 1 ≤ 140737488355328 := by have h9 := HN.out; omega
      go_upto_region 9 with (first | (at_builtin; go_loud (refine wpList_appG w4 rfl (.tmp 43) (.tmp 45) 102 76 (.pointer none) 8 rfl Tryz.underlying76 info_ptx rfl (by decide) (fun _ => rfl) B (.slice qc n dc) (cms H) t hone (by rfl) HOC.out w3.heap.size (by rfl) hcc hl1 hl2 (Nat.le_trans hB HF4.out.size) ?_; intro v6 w6 h6 h7 h8; obtain ⟨q6, m6, d6, rfl⟩ := h6.slc; have y2 : w6.cell? ⟨s.hb, 2, none⟩ = some (.slice qc n dc) := (by rw [← HEV.out]; exact (HB4.out.grown h7 (own_ne_blk HOC.out HB4.out (by decide))).cell rfl); have y3 := (HB4.out.grown h7 (own_ne_blk HOC.out HB4.out (by decide))).frozen 2)))
      have HI0 : Hid (CmI w (w6.setCell ⟨s.hb, 2, none⟩ (.slice q6 m6 d6)) B H s t st 0 (.slice q6 m6 d6) s.EV) := CmI.start HS0.out hB HT.out HF4.out HP4.out h6 (by rw [HEV.out]; exact h7) (by rw [HEV.out]; exact h8)
      clear y2 y3 h6 h7 h8 hone hcc hl1 hl2 HOC HO4 HC4 HB4 HP4 HF4 HF3 HP3 z3 z5 f3 f5 c2 c3 hw3 hw4 hsz
      generalize w6.setCell ⟨s.hb, 2, none⟩ (.slice q6 m6 d6) = w7 at *
      have k6 : w7.cell? ⟨s.pt t, 6, none⟩ = some (.slice qi m di) := by rw [← HEVI.out]; exact HI0.out.pt.cell rfl
      go_wp2_with fail
      clear k6
      go_loopw [54] (fun ix wr => ∃ (k : Nat) (E : List (ByteArray × Value)), ix = .int .i64 (k : Int) ∧ k ≤ m ∧ Hid (CmI w wr B H s t st k (.slice q6 m6 d6) E)) (fun ix _ => m - (intOf ix).toNat)
      case atStart => exact ⟨0, s.EV, by go_num, Nat.zero_le _, HI0.out⟩
      case round =>
        obtain ⟨k, E, rfl, hk, HI⟩ := hrel
        clear HI0
        by_cases hk0 : k = m
        · subst hk0
          go_wp2_with fail
          go_ret
          obtain ⟨e1, e2, e3, e4⟩ := HA.out
          have hI := HI.out
          rw [← e2] at hI
          have hD := CmI.done HS0.out hB HT.out e1 e3 HM.out.1.symm hI
          exact ⟨by simp [HLT.out], hD.2, fun _ => ⟨_, hD.1, rfl⟩⟩
        · have hk1 : k < m := by omega
          have hkl : k < (its H t).length := by rw [HM.out.1]; exact hk1
          have hsl : SlG encX 1 wr.heap.size wr (s.vi t) (its H t) := OwnG.sl (fun _ => rfl) HI.out.it
          rw [HEVI.out] at hsl
          obtain ⟨-, -, b, o, rfl, hb, hx0⟩ := hsl.cellX k hkl
          obtain ⟨x, hx⟩ : ∃ x, (its H t)[k] = x := ⟨_, rfl⟩
          have HX : Hid (∃ h : k < (its H t).length, (its H t)[k] = x) := ⟨hkl, hx⟩
          rw [hx] at hx0
          have hnx : memB x ((its H t).take k) = false := by
            cases hm : memB x ((its H t).take k)
            · rfl
            · exfalso
              obtain ⟨j, hj, e⟩ := List.getElem_of_mem ((memB_iff _ _).1 hm)
              rw [List.length_take] at hj
              rw [List.getElem_take] at e
              have h1 := List.pairwise_iff_getElem.1 (its_ris t H) j k (by omega) hkl (by omega)
              rw [e, hx, ltB_irrefl] at h1
              cases h1
          have hown : OwnG (encT s.pt) 1 102 wr B (getG nilS E x) (vrs H x) := by
            have h1 := HI.out.fv.own (some x)
            have e : vvK H t k (some x) = vrs H x := by rw [vvK_some, hnx]; simp
            rw [e] at h1
            exact h1
          obtain ⟨q0, d0, ev0⟩ := hown.slcL
          obtain ⟨l0, hl0⟩ : ∃ l0, (vrs H x).length = l0 := ⟨_, rfl⟩
          rw [hl0] at ev0
          have HV0 : Hid (getG nilS E x = .slice q0 l0 d0 ∧ (vrs H x).length = l0 ∧ l0 ≤ 4096) := ⟨ev0, hl0, by rw [← hl0]; exact Nat.le_trans (List.length_filter_le _ _) (Nat.le_trans (cms_len H) HA.out.2.2.2)⟩
          rw [ev0] at hown
          have HOW : Hid (OwnG (encT s.pt) 1 102 wr B (.slice q0 l0 d0) (vrs H x)) := hown
          have HK1 : Hid (k < m) := hk1
          clear hsl hx hnx hown ev0 hl0 hb hkl
          go_upto_region 12 with fail
          clear hx0
          refine wp_region_L (fun w' => Blk w' s.hb #[.map (some s.mT), .map (some s.mW), .slice q6 m6 d6, .map (some s.mV), nilS, nilS] 78 ∧ (Instr.lookup 75 (.map (some s.mV)) (.string x) false).run Tryz.prog w' = .ok (.slice q0 l0 d0) w') 14 (by kernel_rfl) ?_
          have HId : Hid (CmI w wr.drew B H s t st k (.slice q6 m6 d6) E) := HI.out.on (Below.refl wr.heap.size wr).drew
          have HOd : Hid (OwnG (encT s.pt) 1 102 wr.drew B (.slice q0 l0 d0) (vrs H x)) := HOW.out.byG (fun _ _ => rfl)
          clear HI HOW
          generalize wr.drew = wd at *
          have HLk : Hid (∀ w' : World, MapG kvS w' s.mV E → (Instr.lookup 75 (.map (some s.mV)) (.string x) false).run Tryz.prog w' = .ok (.slice q0 l0 d0) w') := fun w' hm => by
            have h1 := hm.look keyS Tryz.underlying75 zeroTs x
            rw [HV0.out.1] at h1
            exact h1
          refine wpL_take (v := ?_) 0 rfl (by kernel_rfl) (fun _ _ _ h => h) (by rfl) ?_ ⟨HId.out.hb, HLk.out wd HId.out.mv⟩ ?_
          rotate_left
          focus
            intro w9 hw9
            have a3 := hw9.1.cell (i := 3) rfl
            have lk := hw9.2
            go_simp
            try with_reducible rfl
          try simp only [Act.put, List.setIfInBounds_toArray, List.set_cons_zero, List.set_cons_succ]
          refine wpL_take (v := ?_) 1 rfl (by kernel_rfl) (fun _ _ _ h => h) (by rfl) ?_ ⟨HId.out.hb, HLk.out wd HId.out.mv⟩ ?_
          rotate_left
          focus
            intro w9 hw9
            have a3 := hw9.1.cell (i := 3) rfl
            have lk := hw9.2
            go_simp
            try with_reducible rfl
          try simp only [Act.put, List.setIfInBounds_toArray, List.set_cons_zero, List.set_cons_succ]
          refine wpL_take (v := ?_) 2 rfl (by kernel_rfl) (fun _ _ _ h => h) (by rfl) ?_ ⟨HId.out.hb, HLk.out wd HId.out.mv⟩ ?_
          rotate_left
          focus
            intro w9 hw9
            have a3 := hw9.1.cell (i := 3) rfl
            have lk := hw9.2
            go_simp
            try with_reducible rfl
          try simp only [Act.put, List.setIfInBounds_toArray, List.set_cons_zero, List.set_cons_succ]
          refine wpL_take (v := ?_) 3 rfl (by kernel_rfl) (fun _ _ _ h => h) (by rfl) ?_ ⟨HId.out.hb, HLk.out wd HId.out.mv⟩ ?_
          rotate_left
          focus
            intro w9 hw9
            have a3 := hw9.1.cell (i := 3) rfl
            have lk := hw9.2
            go_simp
            try with_reducible rfl
          try simp only [Act.put, List.setIfInBounds_toArray, List.set_cons_zero, List.set_cons_succ]
          refine wpL_take (v := ?_) 4 rfl (by kernel_rfl) (fun _ _ _ h => h) (by rfl) ?_ ⟨HId.out.hb, HLk.out wd HId.out.mv⟩ ?_
          rotate_left
          focus
            intro w9 hw9
            have a3 := hw9.1.cell (i := 3) rfl
            have lk := hw9.2
            go_simp
            try with_reducible rfl
          try simp only [Act.put, List.setIfInBounds_toArray, List.set_cons_zero, List.set_cons_succ]
          refine wpL_take (v := ?_) 5 rfl (by kernel_rfl) (fun _ _ _ h => h) (by rfl) ?_ ⟨HId.out.hb, HLk.out wd HId.out.mv⟩ ?_
          rotate_left
          focus
            intro w9 hw9
            have a3 := hw9.1.cell (i := 3) rfl
            have lk := hw9.2
            go_simp
            try with_reducible rfl
          try simp only [Act.put, List.setIfInBounds_toArray, List.set_cons_zero, List.set_cons_succ]
          refine wpL_take (v := ?_) 6 rfl (by kernel_rfl) (fun _ _ _ h => h) (by rfl) ?_ ⟨HId.out.hb, HLk.out wd HId.out.mv⟩ ?_
          rotate_left
          focus
            intro w9 hw9
            have a3 := hw9.1.cell (i := 3) rfl
            have lk := hw9.2
            go_simp
            try with_reducible rfl
          try simp only [Act.put, List.setIfInBounds_toArray, List.set_cons_zero, List.set_cons_succ]
          refine wpL_take (v := ?_) 7 rfl (by kernel_rfl) (fun _ _ _ h => h) (by rfl) ?_ ⟨HId.out.hb, HLk.out wd HId.out.mv⟩ ?_
          rotate_left
          focus
            intro w9 hw9
            have a3 := hw9.1.cell (i := 3) rfl
            have lk := hw9.2
            go_simp
            try with_reducible rfl
          try simp only [Act.put, List.setIfInBounds_toArray, List.set_cons_zero, List.set_cons_succ]
          refine wpL_take (v := ?_) 8 rfl (by kernel_rfl) (fun _ _ _ h => h) (by rfl) ?_ ⟨HId.out.hb, HLk.out wd HId.out.mv⟩ ?_
          rotate_left
          focus
            intro w9 hw9
            have a3 := hw9.1.cell (i := 3) rfl
            have lk := hw9.2
            go_simp
            try with_reducible rfl
          try simp only [Act.put, List.setIfInBounds_toArray, List.set_cons_zero, List.set_cons_succ]
          refine wpL_take (v := ?_) 9 rfl (by kernel_rfl) (fun _ _ _ h => h) (by rfl) ?_ ⟨HId.out.hb, HLk.out wd HId.out.mv⟩ ?_
          rotate_left
          focus
            intro w9 hw9
            have a3 := hw9.1.cell (i := 3) rfl
            have lk := hw9.2
            go_simp
            try with_reducible rfl
          try simp only [Act.put, List.setIfInBounds_toArray, List.set_cons_zero, List.set_cons_succ]
          refine wpL_take (v := ?_) 10 rfl (by kernel_rfl) (fun _ _ _ h => h) (by rfl) ?_ ⟨HId.out.hb, HLk.out wd HId.out.mv⟩ ?_
          rotate_left
          focus
            intro w9 hw9
            have a3 := hw9.1.cell (i := 3) rfl
            have lk := hw9.2
            go_simp
            try with_reducible rfl
          try simp only [Act.put, List.setIfInBounds_toArray, List.set_cons_zero, List.set_cons_succ]
          refine wpL_take (v := ?_) 11 rfl (by kernel_rfl) (fun _ _ _ h => h) (by rfl) ?_ ⟨HId.out.hb, HLk.out wd HId.out.mv⟩ ?_
          rotate_left
          focus
            intro w9 hw9
            have a3 := hw9.1.cell (i := 3) rfl
            have lk := hw9.2
            go_simp
            try with_reducible rfl
          try simp only [Act.put, List.setIfInBounds_toArray, List.set_cons_zero, List.set_cons_succ]
          refine wpL_one 12 rfl (by kernel_rfl) (by rfl) ?_
          intro K hK
          go_simp
          have hal : Below wd.heap.size wd (wd.alloc (.cells #[.pointer (some ⟨s.pt t, 0, none⟩)] 102)) := (Below.refl _ _).alloc (Nat.le_refl _) _
          have HC3 : Hid (Blk (wd.alloc (.cells #[.pointer (some ⟨s.pt t, 0, none⟩)] 102)) wd.heap.size #[.pointer (some ⟨s.pt t, 0, none⟩)] 102) := Blk.new wd _ _
          have HI3 : Hid (CmI w (wd.alloc (.cells #[.pointer (some ⟨s.pt t, 0, none⟩)] 102)) B H s t st k (.slice q6 m6 d6) E) := HId.out.on hal
          have HO3 : Hid (OwnG (encT s.pt) 1 102 (wd.alloc (.cells #[.pointer (some ⟨s.pt t, 0, none⟩)] 102)) B (.slice q0 l0 d0) (vrs H x)) := HOd.out.on hal
          clear hal HId HOd
          refine hK.out _ _ (fun _ => ⟨HI3.out.hb, HLk.out _ HI3.out.mv⟩) ?_
          clear hK K
          try simp only [Act.put, List.setIfInBounds_toArray, List.set_cons_zero, List.set_cons_succ]
          generalize hgz : wd.heap.size = gz at *
          generalize wd.alloc (.cells #[.pointer (some ⟨s.pt t, 0, none⟩)] 102) = w3 at *
          clear hgz
          refine wpL_one 13 rfl (by kernel_rfl) (by rfl) ?_
          intro K hK
          refine wp_appG w3 (.tmp 68) (.tmp 70) 102 76 (.pointer none) 8 rfl Tryz.underlying76 info_ptx rfl (by decide) (fun _ => rfl) B (.slice q0 l0 d0) (vrs H x) t (by intro u hu; rw [List.mem_singleton.1 hu]; rfl) (by rfl) HO3.out gz (by rfl) (fun j u hj => by
            have h0 : j = 0 := by have h9 := (List.getElem?_eq_some_iff.1 hj).1; simp [encT] at h9; omega
            subst h0
            cases hj
            exact HC3.out.cell rfl) (by have h9 := HV0.out.2; omega) (by have h9 := HV0.out.2; omega) (HI3.out.sizeB hB) ?_
          intro v5 w5 ho5 hg5 hat5
          have HH5 : Hid (Blk w5 s.hb #[.map (some s.mT), .map (some s.mW), .slice q6 m6 d6, .map (some s.mV), nilS, nilS] 78) := HI3.out.hb.grown hg5 (own_ne_blk HO3.out HI3.out.hb (by decide))
          have HM5 : Hid (MapG kvS w5 s.mV E) := HI3.out.mv.of_block (hg5.block _ HI3.out.mv.lt (fun e => by
            obtain ⟨_, cur, h3⟩ := HO3.out.blk e.symm
            exact HI3.out.mv.not_cells h3 rfl))
          have HO5 : Hid (OwnG (encT s.pt) 1 102 w5 B v5 (vrs H x ++ [t]) ∧ w3.grownBy w5 (getG nilS E x).ownBlock ∧ (v5.ownBlock = (getG nilS E x).ownBlock ∨ v5.ownBlock = some w3.heap.size)) := ⟨ho5, by rw [HV0.out.1]; exact hg5, by rw [HV0.out.1]; exact hat5⟩
          clear ho5 hg5 hat5
          refine hK.out _ _ (fun _ => ⟨HH5.out, HLk.out _ HM5.out⟩) ?_
          clear hK K
          try simp only [Act.put, List.setIfInBounds_toArray, List.set_cons_zero, List.set_cons_succ]
          refine wpL_one 14 rfl (by kernel_rfl) (by rfl) ?_
          intro K hK
          refine wp_updateG keyS Tryz.underlying75 w5 (.tmp 61) (.tmp 62) (.tmp 71) rfl s.mV E x v5 (by rfl) (by rfl) (by rfl) HM5.out ?_
          intro w6 hm6 hg6 hz6
          have HI9 : Hid (CmI w w6 B H s t st (k + 1) (.slice q6 m6 d6) (putG E x v5)) := by
            obtain ⟨hkl, hxe⟩ := HX.out
            exact HI3.out.step HS0.out hB HT.out hkl hxe HO5.out.1 HO5.out.2.1 HO5.out.2.2 hm6 hg6
          clear hm6 hg6 hz6 HH5 HM5 HO5 HI3 HO3 HC3
          refine hK.out _ _ (fun h => absurd rfl h) ?_
          clear hK K
          try simp only [Act.put]
          refine wpL_done (by kernel_rfl) ?_ _
          try simp only [NoPanic]
          have hm4 : m ≤ 4096 := HM.out.2
          go_wp2_with fail
          go_roundw
          case rel => exact ⟨k + 1, _, by go_num, HK1.out, HI9.out⟩
          case measure => have h9 := HK1.out; simp [intOf]; omega

end Go.Proofs.YtncfejndmlcidaaGreat
