/- Layer 19: a history that has been read, in memory. Layer 19: finish. -/
import Derived.Test.YtncfejndmlcidaaGreatGWGr9
import Derived.Test.YtncfejndmlcidaaGreatGWSrt
import Derived.Test.YtncfejndmlcidaaGreatGWSrx
import Derived.Test.YtncfejndmlcidaaGreatGMGr4
namespace Go.Proofs.YtncfejndmlcidaaGreat
open Go.RowKit
set_option maxRecDepth 100000

/-- where a history lies that has been read: the committed ones by numbers, who wrote an item first, the items -/
structure Dv where
  s : Hv
  C : List Int
  F : List Int
  I : List ByteArray
  pl : Int → Nat
  vI : Value
  vF : Value
def Dv.tcells (d : Dv) (H : List Ac) (t : Int) : Array Value := #[.int .i64 t, .int .i64 (d.pl t : Nat), .bool (bg H t), .bool (en H t), .int .u64 (snp H t : Nat), .int .u64 (cm H t : Nat), d.s.vi t, d.s.vr t, d.s.vs t]
def Dv.vv (d : Dv) : Option (Option ByteArray) → Value | none => d.vF | some k => d.s.vv k
def Dv.vl (d : Dv) (H : List Ac) : Option (Option ByteArray) → List Int | none => d.F | some none => d.C | some (some x) => vrs H x
def Dv.iv (d : Dv) : Option Int → Value | none => d.vI | some t => d.s.vi t
def Dv.il (d : Dv) (H : List Ac) : Option Int → List ByteArray | none => d.I | some t => its H t
/-- A HISTORY THAT HAS BEEN READ -/
structure Dn (w : World) (B : Nat) (H : List Ac) (d : Dv) : Prop where
  blk : Blk w d.s.hb #[.map (some d.s.mT), .map (some d.s.mW), d.s.vC, .map (some d.s.mV), d.vI, d.vF] 78
  hbB : B ≤ d.s.hb
  mTB : B ≤ d.s.mT
  mWB : B ≤ d.s.mW
  mVB : B ≤ d.s.mV
  mt : MapG kvI w d.s.mT d.s.ET
  mtv : ∀ t, getG nilP d.s.ET t = if kn H t = true then ptr1 (d.s.pt t) else nilP
  mw : MapG kvW w d.s.mW d.s.EW
  mwv : ∀ k, getG (.int .i64 0) d.s.EW k = .int .i64 (wr H k.1 k.2 : Nat)
  mv : MapG kvS w d.s.mV d.s.EV
  mvk : ∀ x, x ∈ d.s.EV.map (·.1) ↔ vrs H x ≠ []
  mvn : (d.s.EV.map (·.1)).Nodup
  fv : Fam (encT d.s.pt) 1 102 w B d.vv (d.vl H)
  tn : ∀ t, kn H t = true → B ≤ d.s.pt t ∧ Blk w (d.s.pt t) (d.tcells H t) 101
  inj : ∀ t t', kn H t = true → kn H t' = true → d.s.pt t = d.s.pt t' → t = t'
  fi : Fam encX 1 9 w B d.iv (d.il H)
  fr : Fam encS 3 53 w B d.s.vr (rds H)
  fs : Fam encA 10 51 w B d.s.vs d.s.Sc
  sc : ∀ t, (d.s.Sc t).map (·.1) = scs H t
  sn : ∀ t, ∀ z ∈ d.s.Sc t, SlG encS 3 B w z.2 z.1.sn
theorem Dn.on {w w' : World} {B : Nat} {H : List Ac} {d : Dv} (h : Dn w B H d) (hB : B ≤ w.heap.size) (hb : Below w.heap.size w w') : Dn w' B H d where
  blk := h.blk.on hb
  hbB := h.hbB
  mTB := h.mTB
  mWB := h.mWB
  mVB := h.mVB
  mt := h.mt.on hb
  mtv := h.mtv
  mw := h.mw.on hb
  mwv := h.mwv
  mv := h.mv.on hb
  mvk := h.mvk
  mvn := h.mvn
  fv := h.fv.on hb
  tn t ht := ⟨(h.tn t ht).1, (h.tn t ht).2.on hb⟩
  inj := h.inj
  fi := h.fi.on hb
  fr := h.fr.on hb
  fs := h.fs.on hb
  sc := h.sc
  sn t z hz := (h.sn t z hz).on (hb.mono hB)
theorem Fam.opt {α K : Type} {enc : α → List Value} {size B : Nat} {T : TypeId} {w : World} {vs : K → Value} {Ls : K → List α} (h : Fam enc size T w B vs Ls) {v1 : Option K → Value} {L1 : Option K → List α} (e1 : ∀ k, v1 (some k) = vs k) (e2 : ∀ k, L1 (some k) = Ls k) (n1 : v1 none = nilS) (n2 : L1 none = []) : Fam enc size T w B v1 L1 where
  own k := by
    cases k with
    | none => rw [n1, n2]; exact OwnG.nil _ _ _ _ _
    | some k => rw [e1, e2]; exact h.own k
  apart k k' hk g hg hg' := by
    cases k with
    | none => rw [n1] at hg; cases hg
    | some k =>
      cases k' with
      | none => rw [n1] at hg'; cases hg'
      | some k' =>
        rw [e1] at hg hg'
        exact h.apart k k' (fun e => hk (by rw [e])) g hg hg'
/-- all is read: nothing is made of it yet -/
theorem St.dn {w : World} {B : Nat} {H : List Ac} {s : Hv} (h : St w B H s) : Dn w B H ⟨s, cms H, [], [], fun _ => 0, nilS, nilS⟩ where
  blk := h.blk
  hbB := h.hbB
  mTB := h.mTB
  mWB := h.mWB
  mVB := h.mVB
  mt := h.mt
  mtv := h.mtv
  mw := h.mw
  mwv := h.mwv
  mv := h.mv
  mvk := h.mvk
  mvn := h.mvn
  fv := h.fv.opt (fun k => rfl) (fun k => by cases k <;> rfl) rfl rfl
  tn := h.tn
  inj := h.inj
  fi := h.fi.opt (fun k => rfl) (fun k => rfl) rfl rfl
  fr := h.fr
  fs := h.fs
  sc := h.sc
  sn := h.sn
/-- some cells of it are turned -/
theorem Dn.turn {w w' : World} {B : Nat} {H : List Ac} {d : Dv} {F : Nat → Prop} (h : Dn w B H d) (hB : B ≤ w.heap.size) (hf : Frm w w' F) (hF : ∀ k, F k → B ≤ k) (hT : ∀ k, F k → ∃ cur T, w.heap[k]? = some (Obj.cells cur T (0, 0)) ∧ T ≠ 53 ∧ T ≠ 51)
    {C' F' : List Int} {I' : List ByteArray} {pl' : Int → Nat} {vI' vF' : Value}
    (hb : Blk w' d.s.hb #[.map (some d.s.mT), .map (some d.s.mW), d.s.vC, .map (some d.s.mV), vI', vF'] 78)
    (hv : Fam (encT d.s.pt) 1 102 w' B (Dv.vv ⟨d.s, C', F', I', pl', vI', vF'⟩) (Dv.vl ⟨d.s, C', F', I', pl', vI', vF'⟩ H))
    (ht : ∀ t, kn H t = true → Blk w' (d.s.pt t) (Dv.tcells ⟨d.s, C', F', I', pl', vI', vF'⟩ H t) 101)
    (hi : Fam encX 1 9 w' B (Dv.iv ⟨d.s, C', F', I', pl', vI', vF'⟩) (Dv.il ⟨d.s, C', F', I', pl', vI', vF'⟩ H)) : Dn w' B H ⟨d.s, C', F', I', pl', vI', vF'⟩ where
  blk := hb
  hbB := h.hbB
  mTB := h.mTB
  mWB := h.mWB
  mVB := h.mVB
  mt := h.mt.frm hf (fun e => by obtain ⟨cur, T, h1, _⟩ := hT _ e; exact h.mt.not_cells h1 rfl)
  mtv := h.mtv
  mw := h.mw.frm hf (fun e => by obtain ⟨cur, T, h1, _⟩ := hT _ e; exact h.mw.not_cells h1 rfl)
  mwv := h.mwv
  mv := h.mv.frm hf (fun e => by obtain ⟨cur, T, h1, _⟩ := hT _ e; exact h.mv.not_cells h1 rfl)
  mvk := h.mvk
  mvn := h.mvn
  fv := hv
  tn t hk := ⟨(h.tn t hk).1, ht t hk⟩
  inj := h.inj
  fi := hi
  fr := h.fr.frm hf (fun g cur hg e => by obtain ⟨cur', T, h1, h2, _⟩ := hT _ e; rw [hg] at h1; cases h1; exact h2 rfl)
  fs := h.fs.frm hf (fun g cur hg e => by obtain ⟨cur', T, h1, _, h2⟩ := hT _ e; rw [hg] at h1; cases h1; exact h2 rfl)
  sc := h.sc
  sn t z hz := (h.sn t z hz).on (hf.below hB hF)
section
variable {w w' : World} {B : Nat} {H : List Ac} {d : Dv}
theorem Dn.own (h : Dn w B H d) : OwnG (encT d.s.pt) 1 102 w B d.s.vC d.C := h.fv.own (some none)
/-- the committed ones are put in another order -/
theorem Dn.sorted (h : Dn w B H d) (hB : B ≤ w.heap.size) {C' : List Int} (ho : OwnG (encT d.s.pt) 1 102 w' B d.s.vC C') (hf : Frm w w' (fun k => d.s.vC.ownBlock = some k)) : Dn w' B H ⟨d.s, C', d.F, d.I, d.pl, d.vI, d.vF⟩ := by
  have hbk : ∀ k, d.s.vC.ownBlock = some k → B ≤ k ∧ ∃ cur, w.heap[k]? = some (Obj.cells cur 102 (0, 0)) := fun k e => h.own.blk e
  have hne : ∀ (g : Nat) (cs : Array Value) (T : TypeId), w.heap[g]? = some (Obj.cells cs T (0, 0)) → T ≠ 102 → ¬ d.s.vC.ownBlock = some g := fun g cs T hg hT e => by
    obtain ⟨_, cur, h1⟩ := hbk g e
    rw [hg] at h1
    cases h1
    exact hT rfl
  refine h.turn hB hf (fun k e => (hbk k e).1) (fun k e => by obtain ⟨_, cur, h1⟩ := hbk k e; exact ⟨cur, _, h1, by decide, by decide⟩) (h.blk.frm hf (hne _ _ _ h.blk (by decide))) ?_ (fun t ht => (h.tn t ht).2.frm hf (hne _ _ _ (h.tn t ht).2 (by decide))) (h.fi.frm hf (fun g cur hg => hne _ _ _ hg (by decide)))
  have e1 : Dv.vv ⟨d.s, C', d.F, d.I, d.pl, d.vI, d.vF⟩ = updF d.vv (some none) d.s.vC := by
    funext o
    rcases o with _ | _ | x <;> rfl
  have e2 : Dv.vl ⟨d.s, C', d.F, d.I, d.pl, d.vI, d.vF⟩ H = updF (d.vl H) (some none) C' := by
    funext o
    rcases o with _ | _ | x <;> rfl
  rw [e1, e2]
  exact h.fv.put (some none) ho (fun g hg hn _ => hf.block g hg hn) (.inl rfl)
/-- a place is told -/
theorem Dn.place (h : Dn w B H d) (hB : B ≤ w.heap.size) (t : Int) (i : Nat) (ht : kn H t = true) : Dn (w.setCell ⟨d.s.pt t, 1, none⟩ (.int .i64 (i : Nat))) B H ⟨d.s, d.C, d.F, d.I, updF d.pl t i, d.vI, d.vF⟩ := by
  have hf := frm_set w (d.s.pt t) 1 (.int .i64 (i : Nat)) (F := one1 (d.s.pt t)) (.inl rfl)
  have hne : ∀ (g : Nat) (cs : Array Value) (T : TypeId), w.heap[g]? = some (Obj.cells cs T (0, 0)) → T ≠ 101 → ¬ one1 (d.s.pt t) g := fun g cs T hg hT e => by
    have h1 : w.heap[d.s.pt t]? = _ := (h.tn t ht).2
    rw [← show g = d.s.pt t from e, hg] at h1
    cases h1
    exact hT rfl
  refine h.turn hB hf (fun k e => by rw [show k = d.s.pt t from e]; exact (h.tn t ht).1) (fun k e => by rw [show k = d.s.pt t from e]; exact ⟨_, _, (h.tn t ht).2, by decide, by decide⟩) (h.blk.frm hf (hne _ _ _ h.blk (by decide))) (h.fv.frm hf (fun g cur hg => hne _ _ _ hg (by decide))) (fun u hu => ?_) (h.fi.frm hf (fun g cur hg => hne _ _ _ hg (by decide)))
  by_cases hut : u = t
  · subst hut
    have h1 := (h.tn u ht).2.set 1 (.int .i64 (i : Nat))
    unfold Dv.tcells
    dsimp only
    rw [updF_same]
    exact h1
  · have h1 := (h.tn u hu).2.other (fun e => hut (h.inj u t hu ht e)) 1 (.int .i64 (i : Nat))
    unfold Dv.tcells
    dsimp only
    rw [updF_other _ _ hut]
    exact h1
/-- the items are told -/
theorem Dn.items (h : Dn w B H d) (hB : B ≤ w.heap.size) {v : Value} {I' : List ByteArray} (hb : Below w.heap.size w w') (ho : OwnG encX 1 9 w' w.heap.size v I') : Dn (w'.setCell ⟨d.s.hb, 4, none⟩ v) B H ⟨d.s, d.C, d.F, I', d.pl, v, d.vF⟩ := by
  have h2 := h.on hB hb
  have hB2 : B ≤ w'.heap.size := Nat.le_trans hB hb.size
  have hf := frm_set w' d.s.hb 4 v (F := one1 d.s.hb) (.inl rfl)
  have hne : ∀ (g : Nat) (cs : Array Value) (T : TypeId), w'.heap[g]? = some (Obj.cells cs T (0, 0)) → T ≠ 78 → ¬ one1 d.s.hb g := fun g cs T hg hT e => by
    have h1 : w'.heap[d.s.hb]? = _ := h2.blk
    rw [← show g = d.s.hb from e, hg] at h1
    cases h1
    exact hT rfl
  refine h2.turn hB2 hf (fun k e => by rw [show k = d.s.hb from e]; exact h.hbB) (fun k e => by rw [show k = d.s.hb from e]; exact ⟨_, _, h2.blk, by decide, by decide⟩) (h2.blk.set 4 v) (h2.fv.frm hf (fun g cur hg => hne _ _ _ hg (by decide))) (fun u hu => (h2.tn u hu).2.frm hf (hne _ _ _ (h2.tn u hu).2 (by decide))) ?_
  have h3 := h2.fi.frm hf (fun g cur hg => hne _ _ _ hg (by decide))
  have e1 : Dv.iv ⟨d.s, d.C, d.F, I', d.pl, v, d.vF⟩ = updF d.iv none v := by
    funext o
    rcases o with _ | x <;> rfl
  have e2 : Dv.il ⟨d.s, d.C, d.F, I', d.pl, v, d.vF⟩ H = updF (d.il H) none I' := by
    funext o
    rcases o with _ | x <;> rfl
  rw [e1, e2]
  have ho2 : OwnG encX 1 9 (w'.setCell ⟨d.s.hb, 4, none⟩ v) w.heap.size v I' := ho.byG (fun g hg => hf.block g (ho.lt hg) (by obtain ⟨_, cur, h1⟩ := ho.blk hg; exact hne _ _ _ h1 (by decide)))
  refine ⟨fun j => ?_, fun j j' hjj g hgj hgj' => ?_⟩
  · by_cases hj : j = none
    · subst hj
      rw [updF_same, updF_same]
      exact ho2.mono hB
    · rw [updF_other _ _ hj, updF_other _ _ hj]
      exact h3.own j
  · have old : ∀ k, k ≠ none → ∀ g, (d.iv k).ownBlock = some g → g < w.heap.size := fun k _ g hg => (h.fi.own k).lt hg
    by_cases hj : j = none
    · subst hj
      have hj' : j' ≠ none := Ne.symm hjj
      rw [updF_same] at hgj
      rw [updF_other _ _ hj'] at hgj'
      have h5 := (ho.blk hgj).1
      have h6 := old j' hj' g hgj'
      omega
    · rw [updF_other _ _ hj] at hgj
      by_cases hj' : j' = none
      · subst hj'
        rw [updF_same] at hgj'
        have h5 := (ho.blk hgj').1
        have h6 := old j hj g hgj
        omega
      · rw [updF_other _ _ hj'] at hgj'
        exact h3.apart j j' hjj g hgj hgj'
/-- one more of the first ones is told -/
theorem Dn.first (h : Dn w B H d) (hB : B ≤ w.heap.size) {v : Value} {t : Int} (ho : OwnG (encT d.s.pt) 1 102 w' B v (d.F ++ [t])) (hg : w.grownBy w' d.vF.ownBlock) (hat : v.ownBlock = d.vF.ownBlock ∨ v.ownBlock = some w.heap.size) : Dn (w'.setCell ⟨d.s.hb, 5, none⟩ v) B H ⟨d.s, d.C, d.F ++ [t], d.I, d.pl, d.vI, v⟩ := by
  have hown : OwnG (encT d.s.pt) 1 102 w B d.vF d.F := h.fv.own none
  have h12 : Frm w w' (fun j => d.vF.ownBlock = some j) := Frm.of_grown hg (fun g e => .inl e)
  have hb2 := h.blk.grown hg (own_ne_blk hown h.blk (by decide))
  have h23 : Frm w' (w'.setCell ⟨d.s.hb, 5, none⟩ v) (one1 d.s.hb) := frm_set w' d.s.hb 5 v (.inl rfl)
  have hf : Frm w (w'.setCell ⟨d.s.hb, 5, none⟩ v) (fun j => j = d.s.hb ∨ d.vF.ownBlock = some j) := Frm.trans (w1 := w') (h12.mono (fun k hk => .inl (.inr hk))) h23 (fun k hk => .inl (.inl hk))
  have hne : ∀ (g : Nat) (cs : Array Value) (T : TypeId), w.heap[g]? = some (Obj.cells cs T (0, 0)) → T ≠ 78 → T ≠ 102 → ¬ (g = d.s.hb ∨ d.vF.ownBlock = some g) := fun g cs T hg hT hT2 e => by
    rcases e with e | e
    · have h1 : w.heap[d.s.hb]? = _ := h.blk
      rw [← e, hg] at h1
      cases h1
      exact hT rfl
    · obtain ⟨_, cur, h1⟩ := hown.blk e
      rw [hg] at h1
      cases h1
      exact hT2 rfl
  refine h.turn hB hf (fun k e => by rcases e with e | e; · rw [e]; exact h.hbB
                                     · exact (hown.blk e).1) (fun k e => by
    rcases e with e | e
    · rw [e]; exact ⟨_, _, h.blk, by decide, by decide⟩
    · obtain ⟨_, cur, h1⟩ := hown.blk e
      exact ⟨cur, _, h1, by decide, by decide⟩) (hb2.set 5 v) ?_ (fun u hu => (h.tn u hu).2.frm hf (hne _ _ _ (h.tn u hu).2 (by decide) (by decide))) (h.fi.frm hf (fun g cur hg => hne _ _ _ hg (by decide) (by decide)))
  have e1 : Dv.vv ⟨d.s, d.C, d.F ++ [t], d.I, d.pl, d.vI, v⟩ = updF d.vv none v := by
    funext o
    rcases o with _ | _ | x <;> rfl
  have e2 : Dv.vl ⟨d.s, d.C, d.F ++ [t], d.I, d.pl, d.vI, v⟩ H = updF (d.vl H) none (d.F ++ [t]) := by
    funext o
    rcases o with _ | _ | x <;> rfl
  rw [e1, e2]
  refine h.fv.put none (ho.byG (fun g hg2 => h23.block g (ho.lt hg2) (fun e => own_ne_blk ho hb2 (by decide) (by rw [hg2, show g = d.s.hb from e])))) (fun g hgl hn hc => hf.block g hgl (fun e => ?_)) (hat.elim .inl (fun e => .inr (.inr ⟨_, e, Nat.le_refl _⟩)))
  obtain ⟨cur, hc⟩ := hc
  rcases e with rfl | e
  · rw [show w.heap[d.s.hb]? = _ from h.blk] at hc
    cases hc
  · exact hn e
end

end Go.Proofs.YtncfejndmlcidaaGreat

namespace Go.Proofs.YtncfejndmlcidaaGreat
open Go.RowKit
set_option maxRecDepth 100000

/-- who wrote an item first -/
def fstV (H : List Ac) (x : ByteArray) : Int := (vrs H x).headD 0
/-- what finish leaves -/
structure Fin (H : List Ac) (s : Hv) (d : Dv) : Prop where
  s : d.s = s
  perm : d.C.Perm (cms H)
  ris : d.C.Pairwise (· < ·)
  pl : ∀ i (h : i < d.C.length), d.pl d.C[i] = i
  isr : RisS d.I
  mem : ∀ x, x ∈ d.I ↔ vrs H x ≠ []
  fst : d.F = d.I.map (fstV H)
theorem Dn.cellC {w : World} {B : Nat} {H : List Ac} {d : Dv} (h : Dn w B H d) {q : Option Addr} {n c : Nat} (e : d.s.vC = .slice q n c) (k : Nat) (hk : k < d.C.length) : n = d.C.length ∧ ∃ b o, q = some ⟨b, o, none⟩ ∧ w.cell? ⟨b, o + k, none⟩ = some (ptr1 (d.s.pt d.C[k])) := by
  have hsl : SlG (encT d.s.pt) 1 w.heap.size w d.s.vC d.C := OwnG.sl (T := 102) (B := B) (fun _ => rfl) h.own
  rw [e] at hsl
  obtain ⟨p', c', e', h5, _, h7⟩ := hsl.f
  obtain ⟨rfl, rfl, rfl⟩ := Value.slice.inj e'
  obtain ⟨b, o, rfl, hb, hc⟩ := h7 k hk
  have hd := hc 0 _ rfl
  rw [Nat.mul_one, Nat.add_zero] at hd
  exact ⟨rfl, b, o, rfl, hd⟩
theorem Dn.cellI {w : World} {B : Nat} {H : List Ac} {d : Dv} (h : Dn w B H d) {q : Option Addr} {n c : Nat} (e : d.vI = .slice q n c) (k : Nat) (hk : k < d.I.length) : n = d.I.length ∧ ∃ b o, q = some ⟨b, o, none⟩ ∧ w.cell? ⟨b, o + k, none⟩ = some (.string d.I[k]) := by
  have hsl : SlG encX 1 w.heap.size w d.vI d.I := OwnG.sl (T := 9) (B := B) (fun _ => rfl) (h.fi.own none)
  rw [e] at hsl
  obtain ⟨h1, -, b, o, h2, -, h3⟩ := hsl.cellX k hk
  exact ⟨h1, b, o, h2, h3⟩
theorem Dn.cellV {w : World} {B : Nat} {H : List Ac} {d : Dv} (h : Dn w B H d) (x : ByteArray) (hx : vrs H x ≠ []) : ∃ b o l c, getG nilS d.s.EV x = .slice (some ⟨b, o, none⟩) l c ∧ 0 < l ∧ w.cell? ⟨b, o, none⟩ = some (ptr1 (d.s.pt (fstV H x))) ∧ b < w.heap.size ∧ some b = (getG nilS d.s.EV x).ownBlock := by
  have hown : OwnG (encT d.s.pt) 1 102 w B (getG nilS d.s.EV x) (vrs H x) := h.fv.own (some (some x))
  have hl : 0 < (vrs H x).length := List.length_pos_iff.2 hx
  have hsl : SlG (encT d.s.pt) 1 w.heap.size w (getG nilS d.s.EV x) (vrs H x) := OwnG.sl (T := 102) (B := B) (fun _ => rfl) hown
  obtain ⟨p', c', e', h5, _, h7⟩ := hsl.f
  obtain ⟨b, o, rfl, hb, hc⟩ := h7 0 hl
  have hd := hc 0 _ rfl
  rw [Nat.zero_mul, Nat.add_zero] at hd
  refine ⟨b, o, _, c', e', hl, ?_, hb, by rw [e']; rfl⟩
  rw [hd]
  have h0 : ∀ (L : List Int) (h : 0 < L.length), L.headD 0 = L[0] := fun L h => by
    cases L with
    | nil => simp at h
    | cons y Y => rfl
  rw [show fstV H x = (vrs H x)[0] from h0 _ hl]
theorem headD_at (I : List ByteArray) (H : List Ac) (k : Nat) (hk : k < I.length) : (I.take (k + 1)).map (fstV H) = (I.take k).map (fstV H) ++ [fstV H I[k]] := by
  rw [List.take_succ_eq_append_getElem hk, List.map_append]
  rfl
set_option maxHeartbeats 4000000 in
theorem finish_any (B : Nat) (H : List Ac) (s : Hv) (w : World) (hS : St w B H s) (hB : B ≤ w.heap.size) (hnd : (cms H).Nodup) (hlen : H.length ≤ 4096) (hsz : ∀ a ∈ H, a.it.size ≤ maxLen) :
    Calls Tryz.prog 43 #[ptr1 s.hb] w fun e w' => e = .returned (.tuple #[]) ∧ Below B w w' ∧ ∃ d : Dv, Dn w' B H d ∧ Fin H s d := by
  obtain ⟨qc, dc, evc⟩ := (show OwnG (encT s.pt) 1 102 w B s.vC (cms H) from hS.fv.own none).slcL
  obtain ⟨n, hn⟩ : ∃ n, (cms H).length = n := ⟨_, rfl⟩
  rw [hn] at evc
  have HN : Hid ((cms H).length = n ∧ n ≤ 4096) := ⟨hn, by rw [← hn]; exact Nat.le_trans (cms_len H) hlen⟩
  have HEV : Hid (s.vC = .slice qc n dc) := evc
  have HA : Hid ((cms H).Nodup ∧ H.length ≤ 4096 ∧ (∀ a ∈ H, a.it.size ≤ maxLen) ∧ B ≤ w.heap.size) := ⟨hnd, hlen, hsz, hB⟩
  have HS0 : Hid (St w B H s) := hS
  have CS : Hid (Calls Tryz.prog 68 #[.slice qc n dc, .func (.func 69) #[] #[]] w fun e w' => e = .returned (.tuple #[]) ∧ ∃ C : List Int, C.Perm (cms H) ∧ C.Pairwise (· < ·) ∧ Dn w' B H ⟨s, C, [], [], fun _ => 0, nilS, nilS⟩ ∧ Below B w w') := by
    rw [← evc]
    refine (sortTx_any B s.pt (cms H) s.vC w (hS.fv.own none) hnd (by have := cms_len H; omega) (fun t ht => ⟨_, (hS.tn t (cms_kn ht)).2, rfl⟩)).mono ?_
    rintro e w' ⟨rfl, C, h1, h2, h3, h4⟩
    exact ⟨rfl, C, h1, h2, hS.dn.sorted hB h3 h4, h4.below hB (fun k hk => (hS.dn.own.blk hk).1)⟩
  have c2 : w.cell? ⟨s.hb, 2, none⟩ = some (.slice qc n dc) := by rw [← evc]; exact hS.blk.cell rfl
  clear hS hnd hlen hsz hB evc hn
  dsimp only [ptr1]
  go_enter Tryz.func43, Tryz.ntmps43
  go_wp2_with (first | (go_at_call 68; refine CS.out.mono ?_; rintro e w1 ⟨rfl, C, hC⟩; have HC : Hid (C.Perm (cms H) ∧ C.Pairwise (· < ·) ∧ Dn w1 B H ⟨s, C, [], [], fun _ => 0, nilS, nilS⟩ ∧ Below B w w1) := hC; have c3 : w1.cell? ⟨s.hb, 2, none⟩ = some (.slice qc n dc) := (by rw [← HEV.out]; exact HC.out.2.2.1.blk.cell rfl); clear hC c2))
  clear c3
  have HCl : Hid (C.length = n) := by rw [← HN.out.1]; exact HC.out.1.length_eq
  have hn4 : n ≤ 4096 := HN.out.2
  go_loopw [16] (fun ix wr => ∃ k : Nat, ix = .int .i64 (k : Int) ∧ k ≤ n ∧ Hid (∃ pl : Int → Nat, Dn wr B H ⟨s, C, [], [], pl, nilS, nilS⟩ ∧ (∀ i (h : i < C.length), i < k → pl C[i] = i) ∧ Below B w wr ∧ B ≤ wr.heap.size)) (fun ix _ => n - (intOf ix).toNat)
  case atStart => exact ⟨0, by go_num, Nat.zero_le _, ⟨fun _ => 0, HC.out.2.2.1, fun i _ h => absurd h (by omega), HC.out.2.2.2, Nat.le_trans HA.out.2.2.2 HC.out.2.2.2.size⟩⟩
  case round =>
    obtain ⟨k, rfl, hk, HI⟩ := hrel
    by_cases hk0 : k = n
    · subst hk0
      obtain ⟨pl, hI⟩ := HI.out
      have HI1 : Hid (Dn wr B H ⟨s, C, [], [], pl, nilS, nilS⟩ ∧ (∀ i (h : i < C.length), pl C[i] = i) ∧ Below B w wr ∧ B ≤ wr.heap.size) := ⟨hI.1, fun i h => hI.2.1 i h (by rw [← HCl.out]; exact h), hI.2.2⟩
      clear hI HI CS
      have a3 : wr.cell? ⟨s.hb, 3, none⟩ = some (.map (some s.mV)) := HI1.out.1.blk.cell rfl
      have hE1 : s.EV.length ≤ 4096 := by
        have h1 : (s.EV.map (·.1)).length ≤ (H.map (·.it)).length := List.Nodup.length_le_of_subset HI1.out.1.mvn (fun x hx => vrs_it ((HI1.out.1.mvk x).1 hx))
        have h2 := HA.out.2.1
        simpa using Nat.le_trans h1 (by simpa using h2)
      have C2 : Hid (∀ W : World, W = wr → Calls Tryz.prog 71 #[.func (.func 107) #[] #[.pointer (some ⟨W.heap.size, 0, none⟩)]] (W.alloc (.cells #[.map (some s.mV)] 75)) fun e w' => ∃ (q : Option Addr) (m d : Nat) (I : List ByteArray), e = .returned (.slice q m d) ∧ Hid (OwnG encX 1 9 w' wr.heap.size (.slice q m d) I ∧ RisS I ∧ (∀ x, x ∈ I ↔ vrs H x ≠ []) ∧ I.length = m ∧ m ≤ 4096 ∧ Below wr.heap.size wr w')) := fun W e => by
        subst e
        refine (sortedK_any s.mV s.EV W HI1.out.1.mv HI1.out.1.mvn (fun x hx => ?_) (by omega)).mono ?_
        · obtain ⟨a, ha, e⟩ := List.mem_map.1 (vrs_it ((HI1.out.1.mvk x).1 hx))
          rw [← e]
          exact HA.out.2.2.1 a ha
        · rintro e w' ⟨v, I, rfl, h1, h2, h3, h4, h5⟩
          obtain ⟨q, d, rfl⟩ := h1.slcL
          exact ⟨q, _, d, I, rfl, h1.mono (Nat.le_succ _), h2, fun x => (h3 x).trans (HI1.out.1.mvk x), rfl, by omega, ((Below.refl _ _).alloc (Nat.le_refl _) _).trans (h5.mono (Nat.le_succ _))⟩
      clear hE1
      go_upto_region 7 with (first | (go_at_call 72; refine (keys_any s.mV wr).mono ?_; rintro e w2 ⟨rfl, rfl⟩) | (go_at_call 71; refine (C2.out wr rfl).mono ?_; rintro e w3 ⟨qi, m, di, I, rfl, HO⟩; have HD3 : Hid (Dn w3 B H ⟨s, C, [], [], pl, nilS, nilS⟩) := HI1.out.1.on HI1.out.2.2.2 HO.out.2.2.2.2.2; have a4 : w3.cell? ⟨s.hb, 4, none⟩ = some nilS := HD3.out.blk.cell rfl; have f4 := HD3.out.blk.frozen 4))
      have HD4 : Hid (Dn (w3.setCell ⟨s.hb, 4, none⟩ (.slice qi m di)) B H ⟨s, C, [], I, pl, .slice qi m di, nilS⟩ ∧ Below B w (w3.setCell ⟨s.hb, 4, none⟩ (.slice qi m di)) ∧ B ≤ (w3.setCell ⟨s.hb, 4, none⟩ (.slice qi m di)).heap.size) :=
        ⟨HI1.out.1.items HI1.out.2.2.2 HO.out.2.2.2.2.2 HO.out.1, HI1.out.2.2.1.trans ((HO.out.2.2.2.2.2.mono HI1.out.2.2.2).trans ((frm_set w3 s.hb 4 _ (F := one1 s.hb) (.inl rfl)).below (Nat.le_trans HI1.out.2.2.2 HO.out.2.2.2.2.2.size) (fun k e => by rw [show k = s.hb from e]; exact HD3.out.hbB))), by rw [size_set]; exact Nat.le_trans HI1.out.2.2.2 HO.out.2.2.2.2.2.size⟩
      have HPL : Hid (∀ i (h : i < C.length), pl C[i] = i) := HI1.out.2.1
      have HI2 : Hid (RisS I ∧ (∀ x, x ∈ I ↔ vrs H x ≠ []) ∧ I.length = m ∧ m ≤ 4096) := ⟨HO.out.2.1, HO.out.2.2.1, HO.out.2.2.2.1, HO.out.2.2.2.2.1⟩
      clear HO HD3 a4 f4 HI1 C2 a3 hk hn4
      generalize w3.setCell ⟨s.hb, 4, none⟩ (.slice qi m di) = w4 at *
      have k4 : w4.cell? ⟨s.hb, 4, none⟩ = some (.slice qi m di) := HD4.out.1.blk.cell rfl
      go_wp2_with fail
      clear k4
      have hm4 : m ≤ 4096 := HI2.out.2.2.2
      go_loopw [40] (fun ix wr => ∃ k : Nat, ix = .int .i64 (k : Int) ∧ k ≤ m ∧ Hid (∃ vF : Value, Dn wr B H ⟨s, C, (I.take k).map (fstV H), I, pl, .slice qi m di, vF⟩ ∧ Below B w wr ∧ B ≤ wr.heap.size)) (fun ix _ => m - (intOf ix).toNat)
      case atStart => exact ⟨0, by go_num, Nat.zero_le _, ⟨nilS, HD4.out⟩⟩
      case round =>
        obtain ⟨k, rfl, hk, HI⟩ := hrel
        clear HD4
        by_cases hk0 : k = m
        · subst hk0
          go_wp2_with fail
          go_end0
          obtain ⟨vF, h1, h2, h3⟩ := HI.out
          have e : I.take I.length = I := List.take_length
          rw [show I.take k = I by rw [← HI2.out.2.2.1]; exact e] at h1
          exact ⟨rfl, h2, _, h1, rfl, HC.out.1, HC.out.2.1, HPL.out, HI2.out.1, HI2.out.2.1, rfl⟩
        · have hk1 : k < m := by omega
          have hki : k < I.length := by rw [HI2.out.2.2.1]; exact hk1
          obtain ⟨vF, hI⟩ := HI.out
          have HI3 : Hid (Dn wr B H ⟨s, C, (I.take k).map (fstV H), I, pl, .slice qi m di, vF⟩ ∧ Below B w wr ∧ B ≤ wr.heap.size) := hI
          obtain ⟨-, b, o, rfl, x0⟩ := hI.1.cellI rfl k hki
          obtain ⟨x, hx⟩ : ∃ x, I[k] = x := ⟨_, rfl⟩
          have HX : Hid (∃ h : k < I.length, I[k] = x) := ⟨hki, hx⟩
          change wr.cell? ⟨b, o + k, none⟩ = some (.string I[k]) at x0
          rw [hx] at x0
          have hxv : vrs H x ≠ [] := (HI2.out.2.1 x).1 (by rw [← hx]; exact List.getElem_mem hki)
          obtain ⟨b0, o0, l0, d0, ev, hl0, y0, hb0, hbo⟩ := hI.1.cellV x hxv
          have HV : Hid (getG nilS s.EV x = .slice (some ⟨b0, o0, none⟩) l0 d0 ∧ b0 < wr.heap.size ∧ some b0 = (getG nilS s.EV x).ownBlock ∧ wr.cell? ⟨b0, o0, none⟩ = some (ptr1 (s.pt (fstV H x)))) := ⟨ev, hb0, hbo, y0⟩
          have HK1 : Hid (k < m) := hk1
          clear hx hxv ev hb0 hbo y0 hI HI
          go_upto_region 10 with fail
          clear x0
          refine wp_region_L (fun w' => Blk w' s.hb #[.map (some s.mT), .map (some s.mW), s.vC, .map (some s.mV), .slice (some ⟨b, o, none⟩) m di, vF] 78 ∧ (Instr.lookup 75 (.map (some s.mV)) (.string x) false).run Tryz.prog w' = .ok (.slice (some ⟨b0, o0, none⟩) l0 d0) w' ∧ w'.cell? ⟨b0, o0, none⟩ = some (.pointer (some ⟨s.pt (fstV H x), 0, none⟩))) 17 (by kernel_rfl) ?_
          have HId : Hid (Dn wr.drew B H ⟨s, C, (I.take k).map (fstV H), I, pl, .slice (some ⟨b, o, none⟩) m di, vF⟩ ∧ Below B w wr.drew ∧ B ≤ wr.drew.heap.size) := ⟨HI3.out.1.on HI3.out.2.2 (Below.refl wr.heap.size wr).drew, HI3.out.2.1.drew, HI3.out.2.2⟩
          have HVd : Hid (getG nilS s.EV x = .slice (some ⟨b0, o0, none⟩) l0 d0 ∧ b0 < wr.drew.heap.size ∧ some b0 = (getG nilS s.EV x).ownBlock ∧ wr.drew.cell? ⟨b0, o0, none⟩ = some (ptr1 (s.pt (fstV H x)))) := HV.out
          clear HI3 HV
          generalize wr.drew = wd at *
          have HLk : Hid (∀ w' : World, MapG kvS w' s.mV s.EV → (Instr.lookup 75 (.map (some s.mV)) (.string x) false).run Tryz.prog w' = .ok (.slice (some ⟨b0, o0, none⟩) l0 d0) w') := fun w' hm => by
            have h1 := hm.look keyS Tryz.underlying75 zeroTs x
            rw [HVd.out.1] at h1
            exact h1
          refine wpL_take (v := ?_) 0 rfl (by kernel_rfl) (fun _ _ _ h => h) (by rfl) ?_ ⟨HId.out.1.blk, HLk.out wd HId.out.1.mv, HVd.out.2.2.2⟩ ?_
          rotate_left
          focus
            intro w9 hw9
            have a3 := hw9.1.cell (i := 3) rfl
            have a5 := hw9.1.cell (i := 5) rfl
            have lk := hw9.2.1
            have x0 := hw9.2.2
            go_simp
            try with_reducible rfl
          try simp only [Act.put, List.setIfInBounds_toArray, List.set_cons_zero, List.set_cons_succ]
          refine wpL_take (v := ?_) 1 rfl (by kernel_rfl) (fun _ _ _ h => h) (by rfl) ?_ ⟨HId.out.1.blk, HLk.out wd HId.out.1.mv, HVd.out.2.2.2⟩ ?_
          rotate_left
          focus
            intro w9 hw9
            have a3 := hw9.1.cell (i := 3) rfl
            have a5 := hw9.1.cell (i := 5) rfl
            have lk := hw9.2.1
            have x0 := hw9.2.2
            go_simp
            try with_reducible rfl
          try simp only [Act.put, List.setIfInBounds_toArray, List.set_cons_zero, List.set_cons_succ]
          refine wpL_take (v := ?_) 2 rfl (by kernel_rfl) (fun _ _ _ h => h) (by rfl) ?_ ⟨HId.out.1.blk, HLk.out wd HId.out.1.mv, HVd.out.2.2.2⟩ ?_
          rotate_left
          focus
            intro w9 hw9
            have a3 := hw9.1.cell (i := 3) rfl
            have a5 := hw9.1.cell (i := 5) rfl
            have lk := hw9.2.1
            have x0 := hw9.2.2
            go_simp
            try with_reducible rfl
          try simp only [Act.put, List.setIfInBounds_toArray, List.set_cons_zero, List.set_cons_succ]
          refine wpL_take (v := ?_) 3 rfl (by kernel_rfl) (fun _ _ _ h => h) (by rfl) ?_ ⟨HId.out.1.blk, HLk.out wd HId.out.1.mv, HVd.out.2.2.2⟩ ?_
          rotate_left
          focus
            intro w9 hw9
            have a3 := hw9.1.cell (i := 3) rfl
            have a5 := hw9.1.cell (i := 5) rfl
            have lk := hw9.2.1
            have x0 := hw9.2.2
            go_simp
            try with_reducible rfl
          try simp only [Act.put, List.setIfInBounds_toArray, List.set_cons_zero, List.set_cons_succ]
          refine wpL_take (v := ?_) 4 rfl (by kernel_rfl) (fun _ _ _ h => h) (by rfl) ?_ ⟨HId.out.1.blk, HLk.out wd HId.out.1.mv, HVd.out.2.2.2⟩ ?_
          rotate_left
          focus
            intro w9 hw9
            have a3 := hw9.1.cell (i := 3) rfl
            have a5 := hw9.1.cell (i := 5) rfl
            have lk := hw9.2.1
            have x0 := hw9.2.2
            go_simp
            try with_reducible rfl
          try simp only [Act.put, List.setIfInBounds_toArray, List.set_cons_zero, List.set_cons_succ]
          refine wpL_take (v := ?_) 5 rfl (by kernel_rfl) (fun _ _ _ h => h) (by rfl) ?_ ⟨HId.out.1.blk, HLk.out wd HId.out.1.mv, HVd.out.2.2.2⟩ ?_
          rotate_left
          focus
            intro w9 hw9
            have a3 := hw9.1.cell (i := 3) rfl
            have a5 := hw9.1.cell (i := 5) rfl
            have lk := hw9.2.1
            have x0 := hw9.2.2
            go_simp
            try with_reducible rfl
          try simp only [Act.put, List.setIfInBounds_toArray, List.set_cons_zero, List.set_cons_succ]
          refine wpL_take (v := ?_) 6 rfl (by kernel_rfl) (fun _ _ _ h => h) (by rfl) ?_ ⟨HId.out.1.blk, HLk.out wd HId.out.1.mv, HVd.out.2.2.2⟩ ?_
          rotate_left
          focus
            intro w9 hw9
            have a3 := hw9.1.cell (i := 3) rfl
            have a5 := hw9.1.cell (i := 5) rfl
            have lk := hw9.2.1
            have x0 := hw9.2.2
            go_simp
            try with_reducible rfl
          try simp only [Act.put, List.setIfInBounds_toArray, List.set_cons_zero, List.set_cons_succ]
          refine wpL_take (v := ?_) 7 rfl (by kernel_rfl) (fun _ _ _ h => h) (by rfl) ?_ ⟨HId.out.1.blk, HLk.out wd HId.out.1.mv, HVd.out.2.2.2⟩ ?_
          rotate_left
          focus
            intro w9 hw9
            have a3 := hw9.1.cell (i := 3) rfl
            have a5 := hw9.1.cell (i := 5) rfl
            have lk := hw9.2.1
            have x0 := hw9.2.2
            go_simp
            try with_reducible rfl
          try simp only [Act.put, List.setIfInBounds_toArray, List.set_cons_zero, List.set_cons_succ]
          refine wpL_take (v := ?_) 8 rfl (by kernel_rfl) (fun _ _ _ h => h) (by rfl) ?_ ⟨HId.out.1.blk, HLk.out wd HId.out.1.mv, HVd.out.2.2.2⟩ ?_
          rotate_left
          focus
            intro w9 hw9
            have a3 := hw9.1.cell (i := 3) rfl
            have a5 := hw9.1.cell (i := 5) rfl
            have lk := hw9.2.1
            have x0 := hw9.2.2
            go_simp
            try with_reducible rfl
          try simp only [Act.put, List.setIfInBounds_toArray, List.set_cons_zero, List.set_cons_succ]
          refine wpL_take (v := ?_) 9 rfl (by kernel_rfl) (fun _ _ _ h => h) (by rfl) ?_ ⟨HId.out.1.blk, HLk.out wd HId.out.1.mv, HVd.out.2.2.2⟩ ?_
          rotate_left
          focus
            intro w9 hw9
            have a3 := hw9.1.cell (i := 3) rfl
            have a5 := hw9.1.cell (i := 5) rfl
            have lk := hw9.2.1
            have x0 := hw9.2.2
            go_simp
            try with_reducible rfl
          try simp only [Act.put, List.setIfInBounds_toArray, List.set_cons_zero, List.set_cons_succ]
          refine wpL_take (v := ?_) 10 rfl (by kernel_rfl) (fun _ _ _ h => h) (by rfl) ?_ ⟨HId.out.1.blk, HLk.out wd HId.out.1.mv, HVd.out.2.2.2⟩ ?_
          rotate_left
          focus
            intro w9 hw9
            have a3 := hw9.1.cell (i := 3) rfl
            have a5 := hw9.1.cell (i := 5) rfl
            have lk := hw9.2.1
            have x0 := hw9.2.2
            go_simp
            try with_reducible rfl
          try simp only [Act.put, List.setIfInBounds_toArray, List.set_cons_zero, List.set_cons_succ]
          refine wpL_take (v := ?_) 11 rfl (by kernel_rfl) (fun _ _ _ h => h) (by rfl) ?_ ⟨HId.out.1.blk, HLk.out wd HId.out.1.mv, HVd.out.2.2.2⟩ ?_
          rotate_left
          focus
            intro w9 hw9
            have a3 := hw9.1.cell (i := 3) rfl
            have a5 := hw9.1.cell (i := 5) rfl
            have lk := hw9.2.1
            have x0 := hw9.2.2
            go_simp
            try with_reducible rfl
          try simp only [Act.put, List.setIfInBounds_toArray, List.set_cons_zero, List.set_cons_succ]
          refine wpL_take (v := ?_) 12 rfl (by kernel_rfl) (fun _ _ _ h => h) (by rfl) ?_ ⟨HId.out.1.blk, HLk.out wd HId.out.1.mv, HVd.out.2.2.2⟩ ?_
          rotate_left
          focus
            intro w9 hw9
            have a3 := hw9.1.cell (i := 3) rfl
            have a5 := hw9.1.cell (i := 5) rfl
            have lk := hw9.2.1
            have x0 := hw9.2.2
            go_simp
            try with_reducible rfl
          try simp only [Act.put, List.setIfInBounds_toArray, List.set_cons_zero, List.set_cons_succ]
          refine wpL_one 13 rfl (by kernel_rfl) (by rfl) ?_
          intro K hK
          go_simp
          have hal : Below wd.heap.size wd (wd.alloc (.cells #[.pointer (some ⟨s.pt (fstV H x), 0, none⟩)] 102)) := (Below.refl _ _).alloc (Nat.le_refl _) _
          have HC3 : Hid (Blk (wd.alloc (.cells #[.pointer (some ⟨s.pt (fstV H x), 0, none⟩)] 102)) wd.heap.size #[.pointer (some ⟨s.pt (fstV H x), 0, none⟩)] 102) := Blk.new wd _ _
          have HI4 : Hid (Dn (wd.alloc (.cells #[.pointer (some ⟨s.pt (fstV H x), 0, none⟩)] 102)) B H ⟨s, C, (I.take k).map (fstV H), I, pl, .slice (some ⟨b, o, none⟩) m di, vF⟩ ∧ Below B w (wd.alloc (.cells #[.pointer (some ⟨s.pt (fstV H x), 0, none⟩)] 102)) ∧ B ≤ (wd.alloc (.cells #[.pointer (some ⟨s.pt (fstV H x), 0, none⟩)] 102)).heap.size) := ⟨HId.out.1.on HId.out.2.2 hal, HId.out.2.1.trans (hal.mono HId.out.2.2), Nat.le_trans HId.out.2.2 hal.size⟩
          have HV4 : Hid ((wd.alloc (.cells #[.pointer (some ⟨s.pt (fstV H x), 0, none⟩)] 102)).cell? ⟨b0, o0, none⟩ = some (.pointer (some ⟨s.pt (fstV H x), 0, none⟩)) ∧ some b0 = (getG nilS s.EV x).ownBlock ∧ b0 < (wd.alloc (.cells #[.pointer (some ⟨s.pt (fstV H x), 0, none⟩)] 102)).heap.size) := ⟨by rw [hal.cell (p := ⟨b0, _, none⟩) HVd.out.2.1]; exact HVd.out.2.2.2, HVd.out.2.2.1, Nat.lt_of_lt_of_le HVd.out.2.1 hal.size⟩
          clear hal HId HVd
          refine hK.out _ _ (fun _ => ⟨HI4.out.1.blk, HLk.out _ HI4.out.1.mv, HV4.out.1⟩) ?_
          clear hK K
          try simp only [Act.put, List.setIfInBounds_toArray, List.set_cons_zero, List.set_cons_succ]
          generalize hgz : wd.heap.size = gz at *
          generalize wd.alloc (.cells #[.pointer (some ⟨s.pt (fstV H x), 0, none⟩)] 102) = w3 at *
          clear hgz
          refine wpL_one 14 rfl (by kernel_rfl) (by rfl) ?_
          intro K hK
          refine wp_appG w3 (.tmp 48) (.tmp 57) 102 76 (.pointer none) 8 rfl Tryz.underlying76 info_ptx rfl (by decide) (fun _ => rfl) B vF ((I.take k).map (fstV H)) (fstV H x) (by intro u hu; rw [List.mem_singleton.1 hu]; rfl) (by rfl) (HI4.out.1.fv.own none) gz (by rfl) (fun j u hj => by
            have h0 : j = 0 := by have h9 := (List.getElem?_eq_some_iff.1 hj).1; simp [encT] at h9; omega
            subst h0
            cases hj
            exact HC3.out.cell rfl) (by have h9 := HI2.out.2.2; simp; omega) (by have h9 := HI2.out.2.2; simp; omega) HI4.out.2.2 ?_
          intro v5 w5 ho5 hg5 hat5
          have HH5 : Hid (Blk w5 s.hb #[.map (some s.mT), .map (some s.mW), s.vC, .map (some s.mV), .slice (some ⟨b, o, none⟩) m di, vF] 78) := HI4.out.1.blk.grown hg5 (own_ne_blk (HI4.out.1.fv.own none) HI4.out.1.blk (by decide))
          have HM5 : Hid (MapG kvS w5 s.mV s.EV) := HI4.out.1.mv.of_block (hg5.block _ HI4.out.1.mv.lt (fun e => by
            obtain ⟨_, cur, h3⟩ := (HI4.out.1.fv.own none).blk e.symm
            exact HI4.out.1.mv.not_cells h3 rfl))
          have HV5 : Hid (w5.cell? ⟨b0, o0, none⟩ = some (.pointer (some ⟨s.pt (fstV H x), 0, none⟩))) := by
            have h1 := hg5.block b0 HV4.out.2.2 (fun e => HI4.out.1.fv.apart none (some (some x)) (by simp) b0 e.symm HV4.out.2.1.symm)
            have h2 := HV4.out.1
            unfold World.cell? at h2 ⊢
            dsimp only at h2 ⊢
            rw [h1]
            exact h2
          obtain ⟨q5, m5, d5, ev5⟩ := ho5.slc
          subst ev5
          have HO5 : Hid (OwnG (encT s.pt) 1 102 w5 B (.slice q5 m5 d5) ((I.take k).map (fstV H) ++ [fstV H x]) ∧ w3.grownBy w5 vF.ownBlock ∧ ((Value.slice q5 m5 d5).ownBlock = vF.ownBlock ∨ (Value.slice q5 m5 d5).ownBlock = some w3.heap.size)) := ⟨ho5, hg5, hat5⟩
          clear ho5 hg5 hat5
          refine hK.out _ _ (fun _ => ⟨HH5.out, HLk.out _ HM5.out, HV5.out⟩) ?_
          clear hK K
          try simp only [Act.put, List.setIfInBounds_toArray, List.set_cons_zero, List.set_cons_succ]
          refine wpL_one 15 rfl (by kernel_rfl) (by rfl) ?_
          intro K hK
          go_simp
          refine hK.out _ _ (fun _ => ⟨HH5.out, HLk.out _ HM5.out, HV5.out⟩) ?_
          clear hK K
          try simp only [Act.put, List.setIfInBounds_toArray, List.set_cons_zero, List.set_cons_succ]
          refine wpL_one 16 rfl (by kernel_rfl) (by rfl) ?_
          intro K hK
          go_simp
          refine hK.out _ _ (fun _ => ⟨HH5.out, HLk.out _ HM5.out, HV5.out⟩) ?_
          clear hK K
          try simp only [Act.put, List.setIfInBounds_toArray, List.set_cons_zero, List.set_cons_succ]
          refine wpL_one 17 rfl (by kernel_rfl) (by rfl) ?_
          intro K hK
          have z0 := HH5.out.cell (i := 5) rfl
          have f0 := HH5.out.frozen 5
          go_simp
          refine hK.out _ _ (fun h => absurd rfl h) ?_
          clear hK K
          try simp only [Act.put, List.setIfInBounds_toArray, List.set_cons_zero, List.set_cons_succ]
          refine wpL_done (by kernel_rfl) ?_ _
          try simp only [NoPanic]
          have HI9 : Hid (∃ vF : Value, Dn (w5.setCell ⟨s.hb, 5, none⟩ (.slice q5 m5 d5)) B H ⟨s, C, (I.take (k + 1)).map (fstV H), I, pl, .slice (some ⟨b, o, none⟩) m di, vF⟩ ∧ Below B w (w5.setCell ⟨s.hb, 5, none⟩ (.slice q5 m5 d5)) ∧ B ≤ (w5.setCell ⟨s.hb, 5, none⟩ (.slice q5 m5 d5)).heap.size) := by
            obtain ⟨hki, hxe⟩ := HX.out
            have h1 := HI4.out.1.first HI4.out.2.2 HO5.out.1 HO5.out.2.1 HO5.out.2.2
            have hB5 : B ≤ w5.heap.size := Nat.le_trans HI4.out.2.2 HO5.out.2.1.size
            refine ⟨.slice q5 m5 d5, ?_, HI4.out.2.1.trans (((Frm.of_grown (F := fun j => vF.ownBlock = some j) HO5.out.2.1 (fun g e => .inl e)).below HI4.out.2.2 (fun j e => ((show OwnG (encT s.pt) 1 102 w3 B vF ((I.take k).map (fstV H)) from HI4.out.1.fv.own none).blk e).1)).trans ((frm_set w5 s.hb 5 _ (F := one1 s.hb) (.inl rfl)).below hB5 (fun j e => by rw [show j = s.hb from e]; exact HI4.out.1.hbB))), by rw [size_set]; exact hB5⟩
            rw [headD_at I H k hki, hxe]
            exact h1
          clear HO5 HV5 HM5 HH5 HV4 HI4 HC3 HLk
          generalize w5.setCell ⟨s.hb, 5, none⟩ (.slice q5 m5 d5) = w6 at *
          go_wp2_with fail
          go_roundw
          case rel => exact ⟨k + 1, by go_num, HK1.out, HI9.out⟩
          case measure => have h9 := HK1.out; simp [intOf]; omega
    · have hk1 : k < n := by omega
      have hkc : k < C.length := by rw [HCl.out]; exact hk1
      obtain ⟨pl, hI⟩ := HI.out
      obtain ⟨-, b, o, rfl, x0⟩ := hI.1.cellC HEV.out k hkc
      obtain ⟨t, ht⟩ : ∃ t, C[k] = t := ⟨_, rfl⟩
      change wr.cell? ⟨b, o + k, none⟩ = some (.pointer (some ⟨s.pt C[k], 0, none⟩)) at x0
      rw [ht] at x0
      have htk : kn H t = true := cms_kn (HC.out.1.mem_iff.1 (by rw [← ht]; exact List.getElem_mem hkc))
      have z1 : wr.cell? ⟨s.pt t, 1, none⟩ = some (.int .i64 (pl t : Nat)) := (hI.1.tn t htk).2.cell rfl
      have f1 := (hI.1.tn t htk).2.frozen 1
      have HI9 : Hid (∃ pl : Int → Nat, Dn (wr.setCell ⟨s.pt t, 1, none⟩ (.int .i64 (k : Nat))) B H ⟨s, C, [], [], pl, nilS, nilS⟩ ∧ (∀ i (h : i < C.length), i < k + 1 → pl C[i] = i) ∧ Below B w (wr.setCell ⟨s.pt t, 1, none⟩ (.int .i64 (k : Nat))) ∧ B ≤ (wr.setCell ⟨s.pt t, 1, none⟩ (.int .i64 (k : Nat))).heap.size) := by
        refine ⟨_, hI.1.place hI.2.2.2 t k htk, fun i hi hik => ?_, hI.2.2.1.trans ((frm_set wr (s.pt t) 1 _ (F := one1 (s.pt t)) (.inl rfl)).below hI.2.2.2 (fun j e => by rw [show j = s.pt t from e]; exact (hI.1.tn t htk).1)), by rw [size_set]; exact hI.2.2.2⟩
        by_cases hik2 : i = k
        · subst hik2
          rw [ht, updF_same]
        · rw [updF_other _ _ (fun e => by
            have h1 := List.pairwise_iff_getElem.1 HC.out.2.1 i k hi hkc (by omega)
            rw [ht] at h1
            omega)]
          exact hI.2.1 i hi (by omega)
      clear ht htk hI HI CS
      go_wp2_with fail
      go_roundw
      case rel => exact ⟨k + 1, by go_num, hk1, HI9.out⟩
      case measure => simp [intOf]; omega

end Go.Proofs.YtncfejndmlcidaaGreat
