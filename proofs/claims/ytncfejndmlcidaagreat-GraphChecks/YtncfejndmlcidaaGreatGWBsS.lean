/- slices.BinarySearch of texts that rise. Layer 19: what an action makes of a history that is being read. -/
import Derived.Test.YtncfejndmlcidaaGreatGWIns
import Derived.Test.YtncfejndmlcidaaGreatGWGr3
import Derived.Test.YtncfejndmlcidaaGreatGWGd194
namespace Go.Proofs.YtncfejndmlcidaaGreat
open Go.RowKit
set_option maxRecDepth 100000

/-- where a text belongs among others that rise -/
theorem plcS_ex (x : ByteArray) : ∀ (L : List ByteArray), RisS L → ∃ k, k ≤ L.length ∧ (∀ j (hj : j < L.length), j < k → ltB L[j] x = true) ∧ (∀ j (hj : j < L.length), k ≤ j → ltB L[j] x = false) ∧ (x ∈ L ↔ ∃ h : k < L.length, L[k] = x)
  | [], _ => ⟨0, Nat.le_refl _, fun j hj => absurd hj (by simp), fun j hj => absurd hj (by simp), by simp⟩
  | y :: L, h => by
    obtain ⟨h3, h4⟩ := List.pairwise_cons.1 h
    obtain ⟨k, k1, k2, k3, k4⟩ := plcS_ex x L h4
    cases hy : ltB y x
    · refine ⟨0, Nat.zero_le _, fun j hj h0 => absurd h0 (by omega), fun j hj _ => ?_, ?_⟩
      · cases j with
        | zero => exact hy
        | succ j =>
          have h5 := h3 (L[j]'(by simpa using hj)) (List.getElem_mem _)
          show ltB (L[j]'(by simpa using hj)) x = false
          cases h6 : ltB (L[j]'(by simpa using hj)) x
          · rfl
          · rw [ltB_trans h5 h6] at hy
            cases hy
      · refine ⟨fun hx => ⟨by simp, ?_⟩, fun ⟨_, e⟩ => by rw [← e]; exact List.mem_cons_self ..⟩
        rcases List.mem_cons.1 hx with rfl | hx
        · rfl
        · rw [h3 x hx] at hy; cases hy
    · refine ⟨k + 1, by simpa using k1, fun j hj hjk => ?_, fun j hj hjk => ?_, ?_⟩
      · cases j with
        | zero => exact hy
        | succ j => exact k2 j (by simpa using hj) (by omega)
      · cases j with
        | zero => omega
        | succ j => exact k3 j (by simpa using hj) (by omega)
      · rw [List.mem_cons, k4]
        constructor
        · rintro (rfl | ⟨h1, h2⟩)
          · rw [ltB_irrefl] at hy; cases hy
          · exact ⟨by simpa using h1, h2⟩
        · rintro ⟨h1, h2⟩
          exact .inr ⟨by simpa using h1, h2⟩
theorem bsS_any (B : Nat) (v : Value) (L : List ByteArray) (x : ByteArray) (w : World) (hL : SlG encX 1 B w v L) (hR : RisS L) (hl : L.length ≤ 4398046511104) :
    Calls Tryz.prog 100 #[v, .string x] w fun e w' => ∃ (k : Nat) (b : Bool), e = .returned (.tuple #[.int .i64 (k : Nat), .bool b]) ∧ (b = true ↔ x ∈ L) ∧ k ≤ L.length ∧ (∀ j (hj : j < L.length), j < k → ltB L[j] x = true) ∧ (∀ j (hj : j < L.length), k ≤ j → ltB L[j] x = false) ∧ Below w.heap.size w w' := by
  obtain ⟨p, c, rfl, h1, h2, h3⟩ := hL.f
  by_cases h0 : L.length = 0
  · have e0 : L = [] := List.eq_nil_of_length_eq_zero h0
    subst e0
    have h := Any2.slices_BinarySearch_string_empty Tryz.bsS p c x w
    change Calls Tryz.prog 100 _ _ _ at h
    refine h.mono ?_
    rintro e w' ⟨rfl, rfl⟩
    exact ⟨0, false, rfl, by simp, Nat.le_refl _, fun j hj => absurd hj (by simp), fun j hj => absurd hj (by simp), Below.refl _ _⟩
  · obtain ⟨b, o, rfl, hb, _⟩ := h3 0 (by omega)
    obtain ⟨k, k1, k2, k3, k4⟩ := plcS_ex x L hR
    obtain ⟨Sx, hS⟩ : ∃ Sx : Nat → ByteArray, Sx = fun t => L.getD t x := ⟨_, rfl⟩
    have hSl : ∀ t (ht : t < L.length), Sx t = L[t] := fun t ht => by rw [hS]; simp [List.getD, ht]
    have hSg : ∀ t, L.length ≤ t → Sx t = x := fun t ht => by rw [hS]; simp [List.getD, ht]
    have h := Any2.slices_BinarySearch_string Tryz.bsS b o L.length c Sx x w (by omega) (fun j hj => by
      rw [hSl j hj]
      exact (hL.cellX j hj).2.2.elim (fun b' hh => by
        obtain ⟨o', e, _, hc⟩ := hh
        cases e
        exact hc))
    change Calls Tryz.prog 100 _ _ _ at h
    have hk : Lib.bsGo (fun t => Op.bytesLess (Sx t).toList x.toList) L.length 0 L.length = k := Lib.bsGo_spec _ k (fun t ht => by
        have := k2 t (by omega) ht
        rw [← hSl t (by omega)] at this
        exact this) (fun t ht => by
        by_cases hlt : t < L.length
        · have := k3 t hlt ht
          rw [← hSl t hlt] at this
          exact this
        · show Op.bytesLess (Sx t).toList x.toList = false
          rw [hSg t (by omega)]
          exact ltB_irrefl x) _ _ _ (by omega) (Nat.zero_le _) k1
    rw [hk] at h
    refine h.mono ?_
    rintro e w' ⟨rfl, q, rfl⟩
    refine ⟨k, _, rfl, ?_, k1, k2, k3, ⟨rfl, rfl, rfl, Nat.le_refl _, fun _ _ => rfl⟩⟩
    rw [decide_eq_true_eq, k4]
    exact ⟨fun ⟨h1, h2⟩ => ⟨h1, by rw [← hSl k h1]; exact h2⟩, fun ⟨h1, h2⟩ => ⟨h1, by rw [hSl k h1]; exact h2⟩⟩

end Go.Proofs.YtncfejndmlcidaaGreat

namespace Go.Proofs.YtncfejndmlcidaaGreat
open Go.RowKit
set_option maxRecDepth 100000

theorem info_saw : (Tryz.prog.info? 53).map (fun i => (i.zero, i.size, i.bytes)) = some (some (.agg #[.string ⟨#[]⟩, .int .i64 0, .int .i64 0]), 3, 32) := by kernel_rfl
theorem info_act : (Tryz.prog.info? 51).map (fun i => (i.zero, i.size, i.bytes)) = some (some (.agg #[.int .i64 0, .int .i64 0, .string ⟨#[]⟩, .int .i64 0, .int .i64 0, .string ⟨#[]⟩, .string ⟨#[]⟩, .bool false, .slice none 0 0, .int .u64 0]), 10, 120) := by kernel_rfl
theorem info_ptx : (Tryz.prog.info? 102).map (fun i => (i.zero, i.size, i.bytes)) = some (some (.pointer none), 1, 8) := by kernel_rfl
theorem encS_one (x : Sw) : ∀ u ∈ encS x, u.oneCell' = true := by intro u hu; simp [encS] at hu; rcases hu with rfl | rfl | rfl <;> rfl
/-- what a step may change of a transaction's parts -/
structure Tch (w : World) (B pb k : Nat) : Prop where
  f : B ≤ k ∧ (k = pb ∨ ∃ cur T, w.heap[k]? = some (Obj.cells cur T (0, 0)) ∧ (T = 9 ∨ T = 53 ∨ T = 51))
/-- an action that tells of one transaction alone, and writes nothing -/
theorem St.upd {w w' : World} {B : Nat} {H H' : List Ac} {s : Hv} (h : St w B H s) (t : Int) (ht : kn H t = true) (vi vr vs : Int → Value) (Sc : Int → List (Ac × Value)) (hf : Frm w w' (Tch w B (s.pt t)))
    (hblk : Blk w' (s.pt t) #[.int .i64 t, .int .i64 0, .bool (bg H' t), .bool (en H' t), .int .u64 (snp H' t : Nat), .int .u64 (cm H' t : Nat), vi t, vr t, vs t] 101)
    (hfi : Fam encX 1 9 w' B vi (its H')) (hfr : Fam encS 3 53 w' B vr (rds H')) (hfs : Fam encA 10 51 w' B vs Sc)
    (hsc : ∀ t, (Sc t).map (·.1) = scs H' t) (hsn : ∀ t, ∀ z ∈ Sc t, SlG encS 3 B w' z.2 z.1.sn)
    (hoth : ∀ u, u ≠ t → vi u = s.vi u ∧ vr u = s.vr u ∧ vs u = s.vs u ∧ bg H' u = bg H u ∧ en H' u = en H u ∧ snp H' u = snp H u ∧ cm H' u = cm H u)
    (hkn : ∀ u, kn H' u = kn H u) (hwr : ∀ u x, wr H' u x = wr H u x) (hcm : cms H' = cms H) : St w' B H' { s with vi := vi, vr := vr, vs := vs, Sc := Sc } := by
  have hv : ∀ x, vrs H' x = vrs H x := fun x => by
    unfold vrs
    rw [hcm]
    congr 1
    funext u
    rw [hwr]
  have hvv : vvL H' = vvL H := by
    funext o
    cases o with
    | none => exact hcm
    | some x => exact hv x
  have hnt : ∀ {k : Nat} {cur : Array Value} {T : TypeId}, w.heap[k]? = some (Obj.cells cur T (0, 0)) → T ≠ 101 → T ≠ 9 → T ≠ 53 → T ≠ 51 → ¬ Tch w B (s.pt t) k := fun {k cur T} hk h0 h1 h2 h3 ⟨_, hc⟩ => by
    rcases hc with rfl | ⟨cur', T', hk', hT⟩
    · have h5 : w.heap[s.pt t]? = _ := (h.tn t ht).2
      rw [hk] at h5
      cases h5
      exact h0 rfl
    · rw [hk] at hk'
      cases hk'
      rcases hT with rfl | rfl | rfl
      · exact h1 rfl
      · exact h2 rfl
      · exact h3 rfl
  have hnm : ∀ {K : Type} [DecidableEq K] {kv : K → Value} {mb : Nat} {E : List (K × Value)}, MapG kv w mb E → ¬ Tch w B (s.pt t) mb := fun {K _ kv mb E} hm ⟨_, hc⟩ => by
    rcases hc with rfl | ⟨cur', T', hk', hT⟩
    · exact hm.not_cells (h.tn t ht).2 rfl
    · exact hm.not_cells hk' rfl
  refine { blk := h.blk.frm hf (hnt h.blk (by decide) (by decide) (by decide) (by decide)), hbB := h.hbB, mTB := h.mTB, mWB := h.mWB, mVB := h.mVB, mTW := h.mTW, mTV := h.mTV, mWV := h.mWV, mt := h.mt.frm hf (hnm h.mt), mtv := fun u => by rw [hkn]; exact h.mtv u, mw := h.mw.frm hf (hnm h.mw), mwv := fun k => by rw [hwr]; exact h.mwv k, mv := h.mv.frm hf (hnm h.mv), mvk := fun x => by rw [hv]; exact h.mvk x, mvn := h.mvn, fv := ?_, tn := ?_, inj := fun u u' h1 h2 e => h.inj u u' (by rw [← hkn]; exact h1) (by rw [← hkn]; exact h2) e, fi := hfi, fr := hfr, fs := hfs, sc := hsc, sn := hsn }
  · rw [hvv]
    exact h.fv.frm hf (fun g cur hg => hnt hg (by decide) (by decide) (by decide) (by decide))
  · intro u hu
    rw [hkn] at hu
    by_cases he : u = t
    · subst he
      exact ⟨(h.tn u hu).1, hblk⟩
    · refine ⟨(h.tn u hu).1, ?_⟩
      obtain ⟨e1, e2, e3, e4, e5, e6, e7⟩ := hoth u he
      have hb := (h.tn u hu).2.frm hf (fun ⟨_, hc⟩ => by
        rcases hc with e | ⟨cur', T', hk', hT⟩
        · exact he (h.inj u t hu ht e)
        · have h5 : w.heap[s.pt u]? = _ := (h.tn u hu).2
          rw [hk'] at h5
          cases h5
          revert hT
          decide)
      unfold Hv.tcells at hb ⊢
      rw [e4, e5, e6, e7]
      show Blk w' (s.pt u) #[_, _, _, _, _, _, vi u, vr u, vs u] _
      rw [e1, e2, e3]
      exact hb
/-- a block's cells stay where another row grows -/
theorem Blk.grown {w w' : World} {g : Nat} {cs : Array Value} {T : TypeId} {r : Option Nat} (h : Blk w g cs T) (hg : w.grownBy w' r) (hn : some g ≠ r) : Blk w' g cs T := (hg.block g h.lt hn).trans h
theorem own_ne_blk {α : Type} {enc : α → List Value} {size B : Nat} {T T' : TypeId} {w : World} {v : Value} {L : List α} {g : Nat} {cs : Array Value} (h : OwnG enc size T w B v L) (hb : Blk w g cs T') (hT : T ≠ T') : some g ≠ v.ownBlock := fun e => by
  obtain ⟨_, cur, h2⟩ := h.blk e.symm
  have h3 : w.heap[g]? = _ := hb
  rw [h3] at h2
  cases h2
  exact hT rfl
theorem OwnG.slc {α : Type} {enc : α → List Value} {size B : Nat} {T : TypeId} {w : World} {v : Value} {L : List α} (h : OwnG enc size T w B v L) : ∃ q m d, v = .slice q m d := by
  rcases h.form with ⟨rfl, _⟩ | ⟨g, cap, cur, rfl, _⟩
  · exact ⟨_, _, _, rfl⟩
  · exact ⟨_, _, _, rfl⟩
theorem rds_len (H : List Ac) (t : Int) : (rds H t).length ≤ H.length := by unfold rds; rw [List.length_map]; exact List.length_filter_le _ _
theorem scs_len (H : List Ac) (t : Int) : (scs H t).length ≤ H.length := List.length_filter_le _ _
theorem cms_len (H : List Ac) : (cms H).length ≤ H.length := by unfold cms; rw [List.length_map]; exact List.length_filter_le _ _
/-- a row grows, and a cell of another block is set to tell of it -/
theorem grown_set {α : Type} {enc : α → List Value} {size B : Nat} {T T' : TypeId} {w3 w4 : World} {vs : Int → Value} {Ls : Int → List α} {t : Int} {p : Nat} {cs : Array Value} {v4 : Value} {L4 : List α} (_hown : ∀ t, OwnG enc size T w3 B (vs t) (Ls t)) (hP : Blk w4 p cs T') (hO : OwnG enc size T w4 B v4 L4) (hg : w3.grownBy w4 (vs t).ownBlock) (i : Nat) (hT : T ≠ T') :
    Frm w3 (w4.setCell ⟨p, i, none⟩ v4) (fun k => k = p ∨ (vs t).ownBlock = some k) ∧ Blk (w4.setCell ⟨p, i, none⟩ v4) p (cs.setIfInBounds i v4) T' ∧ OwnG enc size T (w4.setCell ⟨p, i, none⟩ v4) B v4 L4 := by
  have f1 : Frm w3 w4 (fun k => k = p ∨ (vs t).ownBlock = some k) := Frm.of_grown hg (fun g e => .inl (.inr e))
  have f2 := frm_set w4 p i v4 (F := one1 p) (.inl rfl)
  refine ⟨f1.trans f2 (fun k hk => .inl (.inl hk)), hP.set i _, hO.byG (fun g hg => f2.block g (hO.lt hg) (fun e => ?_))⟩
  have e' : g = p := e
  subst e'
  exact own_ne_blk hO hP hT hg.symm
theorem Fam.other {α β K : Type} {enc : α → List Value} {size : Nat} {T : TypeId} {w w' : World} {B : Nat} {vs : K → Value} {Ls : K → List α} {enc' : β → List Value} {size' : Nat} {T' Tp : TypeId} {v : Value} {L' : List β} {p : Nat} {cs : Array Value} (h : Fam enc size T w B vs Ls) (hf : Frm w w' (fun k => k = p ∨ v.ownBlock = some k)) (hp : Blk w p cs Tp) (hv : OwnG enc' size' T' w B v L') (h1 : T ≠ Tp) (h2 : T ≠ T') : Fam enc size T w' B vs Ls :=
  h.frm hf (fun g cur hg hc => by
    rcases hc with rfl | e
    · have h3 : w.heap[g]? = _ := hp
      rw [hg] at h3
      cases h3
      exact h1 rfl
    · obtain ⟨_, cur', h3⟩ := hv.blk e
      rw [hg] at h3
      cases h3
      exact h2 rfl)
/-- a read -/
theorem St.rd {w w' : World} {B : Nat} {H : List Ac} {s : Hv} {a : Ac} {t : Int} {v : Value} (h : St w B H s) (hB : B ≤ w.heap.size) (ht : kn H t = true) (htx : a.tx = t) (hkd : a.kd = 2) (hf : Frm w w' (fun k => k = s.pt t ∨ (s.vr t).ownBlock = some k))
    (hblk : Blk w' (s.pt t) ((s.tcells H t).setIfInBounds 7 v) 101) (ho : OwnG encS 3 53 w' B v (rds H t ++ [⟨a.it, a.fr, a.nt⟩])) (hat : v.ownBlock = (s.vr t).ownBlock ∨ v.ownBlock = some w.heap.size) :
    St w' B (H ++ [a]) { s with vr := updF s.vr t v } ∧ Below B w w' := by
  have hT : Frm w w' (Tch w B (s.pt t)) := hf.mono (fun k hk => .inl (by
    rcases hk with rfl | e
    · exact ⟨(h.tn t ht).1, .inl rfl⟩
    · obtain ⟨h1, cur, h2⟩ := (h.fr.own t).blk e
      exact ⟨h1, .inr ⟨cur, _, h2, .inr (.inl rfl)⟩⟩))
  have hbel : Below B w w' := hT.below hB (fun k hk => hk.f.1)
  have hk1 : a.kd ≠ 1 := by omega
  have hk3 : a.kd ≠ 3 := by omega
  have hk4 : a.kd ≠ 4 := by omega
  have hk5 : a.kd ≠ 5 := by omega
  have hk6 : a.kd ≠ 6 := by omega
  have hr : rds (H ++ [a]) = updF (rds H) t (rds H t ++ [⟨a.it, a.fr, a.nt⟩]) := by
    funext u
    by_cases hu : u = t
    · subst hu
      rw [updF_same, rds_snoc, if_pos ⟨htx, hkd⟩]
    · rw [updF_other _ _ hu, rds_keep _ (.inr (by rw [htx]; exact Ne.symm hu))]
  have hi : its (H ++ [a]) = its H := by funext u; exact its_keep _ (.inl hk4)
  refine ⟨h.upd t ht s.vi (updF s.vr t v) s.vs s.Sc hT ?_ ?_ ?_ ?_ ?_ ?_ ?_ ?_ ?_ ?_, hbel⟩
  · rw [bg_keep _ (.inl hk1), en_keep _ (.inl ⟨hk5, hk6⟩), show snp (H ++ [a]) t = snp H t from st_keep _ (.inl hk1), show cm (H ++ [a]) t = cm H t from st_keep _ (.inl hk5), updF_same]
    exact hblk
  · rw [hi]
    exact h.fi.other hf (h.tn t ht).2 (h.fr.own t) (by decide) (by decide)
  · rw [hr]
    refine h.fr.put t ho (fun g hg hne hc => hf.block g hg (fun hc2 => ?_)) (hat.elim .inl (fun e => .inr (.inr ⟨_, e, Nat.le_refl _⟩)))
    rcases hc2 with rfl | e
    · obtain ⟨cur, hc⟩ := hc
      have h3 : w.heap[s.pt t]? = _ := (h.tn t ht).2
      rw [hc] at h3
      cases h3
    · exact hne e
  · exact h.fs.other hf (h.tn t ht).2 (h.fr.own t) (by decide) (by decide)
  · exact fun u => by rw [scs_keep _ (.inl hk3)]; exact h.sc u
  · exact fun u z hz => (h.sn u z hz).on hbel
  · exact fun u hu => ⟨rfl, updF_other _ _ hu, rfl, bg_keep _ (.inl hk1), en_keep _ (.inl ⟨hk5, hk6⟩), st_keep _ (.inl hk1), st_keep _ (.inl hk5)⟩
  · exact fun u => kn_keep _ (by rw [htx]; exact ht) u
  · exact fun u x => wr_keep _ (.inl hk4)
  · exact cms_keep _ hk5
set_option maxHeartbeats 4000000 in
theorem addRead_any (B : Nat) (H : List Ac) (s : Hv) (a : Ac) (w : World) (hS : St w B H s) (hB : B ≤ w.heap.size) (ht : kn H a.tx = true) (hkd : a.kd = 2) (hlen : H.length ≤ 4096) :
    Calls Tryz.prog 64 #[ptr1 s.hb, ptr1 (s.pt a.tx), aggS ⟨a.it, a.fr, a.nt⟩] w fun e w' => e = .returned (.bool (thB H a.tx ⟨a.it, a.fr, a.nt⟩)) ∧ Below B w w' ∧ (thB H a.tx ⟨a.it, a.fr, a.nt⟩ = true → ∃ s' : Hv, St w' B (H ++ [a]) s' ∧ s'.hb = s.hb) := by
  obtain ⟨t, et⟩ : ∃ t, a.tx = t := ⟨_, rfl⟩
  obtain ⟨x, ex⟩ : ∃ x : Sw, (⟨a.it, a.fr, a.nt⟩ : Sw) = x := ⟨_, rfl⟩
  rw [et, ex]
  rw [et] at ht
  have HA : Hid (a.tx = t ∧ (⟨a.it, a.fr, a.nt⟩ : Sw) = x ∧ a.kd = 2 ∧ H.length ≤ 4096) := ⟨et, ex, hkd, hlen⟩
  clear et ex hkd hlen
  have HT : Hid (kn H t = true) := ht
  have HS0 : Hid (St w B H s) := hS
  obtain ⟨R, hR⟩ : ∃ R, thB H t x = R := ⟨_, rfl⟩
  obtain ⟨w1, hw1⟩ : ∃ w1, w.alloc (.cells #[.string x.it, .int .i64 x.fr, .int .i64 x.nt] 53) = w1 := ⟨_, rfl⟩
  have HB1 : Hid (Below w.heap.size w w1) := by rw [← hw1]; exact (Below.refl _ _).alloc (Nat.le_refl _) _
  have HK1 : Hid (Blk w1 w.heap.size #[.string x.it, .int .i64 x.fr, .int .i64 x.nt] 53) := by rw [← hw1]; exact Blk.new w _ _
  have CM : Hid (Calls _ _ _ _ _) := mayRead_any B H s t x w1 (hS.on hB HB1.out) (Nat.le_trans hB HB1.out.size) ht
  rw [hR] at CM ⊢
  have HR : Hid (thB H t x = R) := hR
  have k0 := HK1.out.cell (i := 0) rfl
  have k1 := HK1.out.cell (i := 1) rfl
  have k2 := HK1.out.cell (i := 2) rfl
  clear hS hR ht
  dsimp only [ptr1, aggS] at CM ⊢
  go_enter Tryz.func64, Tryz.ntmps64
  go_wp2_with fail
  refine CM.out.mono ?_
  rintro e w2 ⟨rfl, hb2⟩
  have HBw2 : Hid (Below w.heap.size w w2) := HB1.out.trans (hb2.mono HB1.out.size)
  have HK2 : Hid (Blk w2 w.heap.size #[.string x.it, .int .i64 x.fr, .int .i64 x.nt] 53) := HK1.out.on hb2
  clear CM hb2 hw1 k0 k1 k2
  cases R
  · go_wp2_with fail
    go_ret
    exact ⟨rfl, HBw2.out.mono hB, fun h => by cases h⟩
  · go_upto_region 3 with fail
    refine wp_region_L (fun w' => Blk w' (s.pt t) (s.tcells H t) 101 ∧ (Blk w' w.heap.size #[.string x.it, .int .i64 x.fr, .int .i64 x.nt] 53)) 10 (by kernel_rfl) ?_
    have HKd : Hid (Blk w2.drew w.heap.size #[.string x.it, .int .i64 x.fr, .int .i64 x.nt] 53) := HK2.out.drew
    have HBwd : Hid (Below w.heap.size w w2.drew) := HBw2.out.drew
    generalize w2.drew = wd at *
    have HSd : Hid (St wd B H s) := HS0.out.on hB HBwd.out
    have HPd : Hid (Blk wd (s.pt t) (s.tcells H t) 101) := (HSd.out.tn t HT.out).2
    refine wpL_take (v := ?_) 0 rfl (by kernel_rfl) (fun _ _ _ h => h) (by rfl) ?_ ⟨HPd.out, HKd.out⟩ ?_
    rotate_left
    focus
      intro w9 hw9
      have a0 := hw9.1.cell (i := 7) rfl
      have b0 := hw9.2.cell (i := 0) rfl
      have b1 := hw9.2.cell (i := 1) rfl
      have b2 := hw9.2.cell (i := 2) rfl
      go_simp
      try with_reducible rfl
    try simp only [Act.put, List.setIfInBounds_toArray, List.set_cons_zero, List.set_cons_succ]
    refine wpL_take (v := ?_) 1 rfl (by kernel_rfl) (fun _ _ _ h => h) (by rfl) ?_ ⟨HPd.out, HKd.out⟩ ?_
    rotate_left
    focus
      intro w9 hw9
      have a0 := hw9.1.cell (i := 7) rfl
      have b0 := hw9.2.cell (i := 0) rfl
      have b1 := hw9.2.cell (i := 1) rfl
      have b2 := hw9.2.cell (i := 2) rfl
      go_simp
      try with_reducible rfl
    try simp only [Act.put, List.setIfInBounds_toArray, List.set_cons_zero, List.set_cons_succ]
    refine wpL_take (v := ?_) 2 rfl (by kernel_rfl) (fun _ _ _ h => h) (by rfl) ?_ ⟨HPd.out, HKd.out⟩ ?_
    rotate_left
    focus
      intro w9 hw9
      have a0 := hw9.1.cell (i := 7) rfl
      have b0 := hw9.2.cell (i := 0) rfl
      have b1 := hw9.2.cell (i := 1) rfl
      have b2 := hw9.2.cell (i := 2) rfl
      go_simp
      try with_reducible rfl
    try simp only [Act.put, List.setIfInBounds_toArray, List.set_cons_zero, List.set_cons_succ]
    refine wpL_take (v := ?_) 3 rfl (by kernel_rfl) (fun _ _ _ h => h) (by rfl) ?_ ⟨HPd.out, HKd.out⟩ ?_
    rotate_left
    focus
      intro w9 hw9
      have a0 := hw9.1.cell (i := 7) rfl
      have b0 := hw9.2.cell (i := 0) rfl
      have b1 := hw9.2.cell (i := 1) rfl
      have b2 := hw9.2.cell (i := 2) rfl
      go_simp
      try with_reducible rfl
    try simp only [Act.put, List.setIfInBounds_toArray, List.set_cons_zero, List.set_cons_succ]
    refine wpL_take (v := ?_) 4 rfl (by kernel_rfl) (fun _ _ _ h => h) (by rfl) ?_ ⟨HPd.out, HKd.out⟩ ?_
    rotate_left
    focus
      intro w9 hw9
      have a0 := hw9.1.cell (i := 7) rfl
      have b0 := hw9.2.cell (i := 0) rfl
      have b1 := hw9.2.cell (i := 1) rfl
      have b2 := hw9.2.cell (i := 2) rfl
      go_simp
      try with_reducible rfl
    try simp only [Act.put, List.setIfInBounds_toArray, List.set_cons_zero, List.set_cons_succ]
    refine wpL_take (v := ?_) 5 rfl (by kernel_rfl) (fun _ _ _ h => h) (by rfl) ?_ ⟨HPd.out, HKd.out⟩ ?_
    rotate_left
    focus
      intro w9 hw9
      have a0 := hw9.1.cell (i := 7) rfl
      have b0 := hw9.2.cell (i := 0) rfl
      have b1 := hw9.2.cell (i := 1) rfl
      have b2 := hw9.2.cell (i := 2) rfl
      go_simp
      try with_reducible rfl
    try simp only [Act.put, List.setIfInBounds_toArray, List.set_cons_zero, List.set_cons_succ]
    refine wpL_one 6 rfl (by kernel_rfl) (by rfl) ?_
    intro K hK
    go_simp
    have hal : Below wd.heap.size wd (wd.alloc (.cells #[.string x.it, .int .i64 x.fr, .int .i64 x.nt] 53)) := (Below.refl _ _).alloc (Nat.le_refl _) _
    have HC3 : Hid (Blk (wd.alloc (.cells #[.string x.it, .int .i64 x.fr, .int .i64 x.nt] 53)) wd.heap.size #[.string x.it, .int .i64 x.fr, .int .i64 x.nt] 53) := Blk.new wd _ _
    have HS3 : Hid (St (wd.alloc (.cells #[.string x.it, .int .i64 x.fr, .int .i64 x.nt] 53)) B H s) := HSd.out.on (Nat.le_trans hB HBwd.out.size) hal
    have HP3 : Hid (Blk (wd.alloc (.cells #[.string x.it, .int .i64 x.fr, .int .i64 x.nt] 53)) (s.pt t) (s.tcells H t) 101) := HPd.out.on hal
    have HK3 : Hid (Blk (wd.alloc (.cells #[.string x.it, .int .i64 x.fr, .int .i64 x.nt] 53)) w.heap.size #[.string x.it, .int .i64 x.fr, .int .i64 x.nt] 53) := HKd.out.on hal
    have HB3 : Hid (Below w.heap.size w (wd.alloc (.cells #[.string x.it, .int .i64 x.fr, .int .i64 x.nt] 53))) := HBwd.out.trans (hal.mono HBwd.out.size)
    clear hal HSd HPd HKd HBwd
    refine hK.out _ _ (fun _ => ⟨HP3.out, HK3.out⟩) ?_
    clear hK K
    try simp only [Act.put, List.setIfInBounds_toArray, List.set_cons_zero, List.set_cons_succ]
    generalize hgz : wd.heap.size = gz at *
    generalize wd.alloc (.cells #[.string x.it, .int .i64 x.fr, .int .i64 x.nt] 53) = w3 at *
    clear hgz
    refine wpL_one 7 rfl (by kernel_rfl) (by rfl) ?_
    intro K hK
    refine wp_appG w3 (.tmp 16) (.tmp 18) 53 48 (.agg #[.string ⟨#[]⟩, .int .i64 0, .int .i64 0]) 32 rfl Tryz.underlying48 info_saw rfl (by decide) (fun _ => rfl) B (s.vr t) (rds H t) x (encS_one x) (by rfl) (HS3.out.fr.own t) gz (by rfl) (fun j u hj => by
      have h0 : j = 0 ∨ j = 1 ∨ j = 2 := by have h9 := (List.getElem?_eq_some_iff.1 hj).1; simp [encS] at h9; omega
      rcases h0 with rfl | rfl | rfl <;> (cases hj; exact HC3.out.cell rfl)) (by have h9 := rds_len H t; have h8 := HA.out.2.2.2; omega) (by have h9 := rds_len H t; have h8 := HA.out.2.2.2; omega) (Nat.le_trans hB HB3.out.size) ?_
    intro v4 w4 ho4 hg4 hat4
    have HP4 : Hid (Blk w4 (s.pt t) (s.tcells H t) 101) := HP3.out.grown hg4 (own_ne_blk (HS3.out.fr.own t) HP3.out (by decide))
    have HK4 : Hid (Blk w4 w.heap.size #[.string x.it, .int .i64 x.fr, .int .i64 x.nt] 53) := HK3.out.grown hg4 (fun e => by have := (HS0.out.fr.own t).lt e.symm; omega)
    obtain ⟨q4, m4, d4, ev4⟩ := ho4.slc
    subst ev4
    have HO4 : Hid (OwnG encS 3 53 w4 B (.slice q4 m4 d4) (rds H t ++ [x]) ∧ w3.grownBy w4 (s.vr t).ownBlock ∧ ((Value.slice q4 m4 d4).ownBlock = (s.vr t).ownBlock ∨ (Value.slice q4 m4 d4).ownBlock = some w3.heap.size)) := ⟨ho4, hg4, hat4⟩
    clear ho4 hg4 hat4
    refine hK.out _ _ (fun _ => ⟨HP4.out, HK4.out⟩) ?_
    clear hK K
    try simp only [Act.put, List.setIfInBounds_toArray, List.set_cons_zero, List.set_cons_succ]
    refine wpL_one 8 rfl (by kernel_rfl) (by rfl) ?_
    intro K hK
    go_simp
    refine hK.out _ _ (fun _ => ⟨HP4.out, HK4.out⟩) ?_
    clear hK K
    try simp only [Act.put, List.setIfInBounds_toArray, List.set_cons_zero, List.set_cons_succ]
    refine wpL_one 9 rfl (by kernel_rfl) (by rfl) ?_
    intro K hK
    go_simp
    refine hK.out _ _ (fun _ => ⟨HP4.out, HK4.out⟩) ?_
    clear hK K
    try simp only [Act.put, List.setIfInBounds_toArray, List.set_cons_zero, List.set_cons_succ]
    refine wpL_one 10 rfl (by kernel_rfl) (by rfl) ?_
    intro K hK
    have z0 := HP4.out.cell (i := 7) rfl
    have f0 := HP4.out.frozen 7
    go_simp
    refine hK.out _ _ (fun h => absurd rfl h) ?_
    clear hK K
    try simp only [Act.put, List.setIfInBounds_toArray, List.set_cons_zero, List.set_cons_succ]
    refine wpL_done (by kernel_rfl) ?_ _
    try simp only [NoPanic]
    have HFS : Hid (Frm w3 (w4.setCell ⟨s.pt t, 7, none⟩ (.slice q4 m4 d4)) (fun k => k = s.pt t ∨ (s.vr t).ownBlock = some k) ∧ Blk (w4.setCell ⟨s.pt t, 7, none⟩ (.slice q4 m4 d4)) (s.pt t) ((s.tcells H t).setIfInBounds 7 (.slice q4 m4 d4)) 101 ∧ OwnG encS 3 53 (w4.setCell ⟨s.pt t, 7, none⟩ (.slice q4 m4 d4)) B (.slice q4 m4 d4) (rds H t ++ [x])) :=
      grown_set HS3.out.fr.own HP4.out HO4.out.1 HO4.out.2.1 7 (by decide)
    clear z0 f0 HK4 HP4
    generalize w4.setCell ⟨s.pt t, 7, none⟩ (.slice q4 m4 d4) = w5 at *
    go_wp2_with fail
    go_ret
    obtain ⟨e1, e2, e3, e4⟩ := HA.out
    have hS5 := HS3.out.rd (Nat.le_trans hB HB3.out.size) HT.out e1 e3 HFS.out.1 HFS.out.2.1 (by rw [e2]; exact HFS.out.2.2) HO4.out.2.2
    exact ⟨rfl, (HB3.out.mono hB).trans hS5.2, ⟨_, hS5.1, rfl⟩⟩

end Go.Proofs.YtncfejndmlcidaaGreat
