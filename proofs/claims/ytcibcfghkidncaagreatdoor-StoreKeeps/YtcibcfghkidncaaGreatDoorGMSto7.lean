/- What a stamp sees stays: plain mathematics. What is kept while a store is read and written: rows that it told. The law StoreKeeps. -/
import Derived.Test.YtcibcfghkidncaaGreatDoorGFSto11
import Derived.Test.YtcibcfghkidncaaGreatDoorGWTb
namespace Go.Proofs.YtcibcfghkidncaaGreatDoor

/-- two rows that a stamp sees alike -/
def Eye (st:Int) (L L':List Rw):Prop := shwB L[atN L st]? = shwB L'[atN L' st]? ∧ shwL L[atN L st]? = shwL L'[atN L' st]?
theorem Eye.refl (st:Int) (L:List Rw):Eye st L L := ⟨rfl,rfl⟩
theorem Eye.trans {st:Int} {L L' L2:List Rw} (h:Eye st L L') (h':Eye st L' L2):Eye st L L2 := ⟨h.1.trans h'.1,h.2.trans h'.2⟩
theorem see_zero (L W:List Rw) (tx st:Int):seeR L W tx 0 st = L[atN L st]? := by
  unfold seeR
  rw [if_neg (fun h => absurd h.1 (by decide))]
theorem eye_cons {st:Int} {v:Rw} (h:st < v.n) (L:List Rw):Eye st (v :: L) L := by
  have e:(v :: L)[atN (v :: L) st]? = L[atN L st]? := by
    rw [at_find,at_find,List.find?_cons_of_neg (by simp; omega)]
  unfold Eye
  rw [e]
  exact ⟨rfl,rfl⟩
theorem eye_prn {L:List Rw} (h:mayL L = true) {s st:Int} (hs:s ≤ st):Eye st (prnL L s) L := by
  have := seen_prn h hs
  rw [see_zero,see_zero] at this
  exact this
theorem eye_set {st s:Int} (h:st < s) (r:Rs):Eye st (setR s r).L r.L := by
  unfold setR
  cases lastW r with
  | none => exact Eye.refl _ _
  | some v =>
    dsimp only
    split
    · exact Eye.refl _ _
    · exact eye_cons h _
theorem eye_atT {st t:Int} {f:Rs → Rs} (hf:∀ r,Eye st (f r).L r.L) (r:Rs):Eye st (atT t f r).L r.L := by
  unfold atT
  split
  · exact hf r
  · exact Eye.refl _ _
theorem eye_map {st:Int} {f:Rs → Rs} {M:List Rs} (hf:∀ r ∈ M,Eye st (f r).L r.L) (x:Nat):Eye st ((M.map f).getD x nilR).L (M.getD x nilR).L := by
  rw [List.getD_eq_getElem?_getD,List.getD_eq_getElem?_getD,List.getElem?_map]
  cases hx:M[x]? with
  | none => exact Eye.refl _ _
  | some r => exact hf r (List.mem_of_getElem? hx)
/-- an act that settles nothing at the stamp or below it and prunes nothing above it -/
theorem eye_step {J most:Nat} {a:AcR} {M:List Rs} (hM:∀ r ∈ M,OkR J r) {st:Int} (h4:a.k = 4 → st < a.st) (h5:a.k = 5 → a.st ≤ st) (x:Nat):Eye st ((stM most a M).getD x nilR).L (M.getD x nilR).L := by
  unfold stM
  by_cases k0:a.k = 0
  · rw [if_pos k0]
    split
    · exact Eye.refl _ _
    · split
      · exact Eye.refl _ _
      · rw [addM_getD (show freeS M ≤ M.length from List.findIdx_le_length)]
        by_cases e:x = freeS M
        · rw [if_pos e]
          have h1 := free_no M
          rw [← e,thrAt_getD] at h1
          rw [thr_L h1]
          exact Eye.refl _ _
        · rw [if_neg e]
          exact Eye.refl _ _
  rw [if_neg k0]
  by_cases k1:a.k = 1
  · rw [if_pos k1]
    unfold wrtM
    split
    · by_cases hx:x = a.sl.toNat ∧ x < M.length
      · obtain ⟨rfl,hl⟩ := hx
        rw [List.getD_eq_getElem?_getD,List.getElem?_set_self hl]
        rename_i he
        have hs:0 ≤ a.sl := by
          by_cases hs:0 ≤ a.sl
          · exact hs
          · exfalso
            rw [getR_out (.inl (by omega))] at he
            simp [wriE,thr,nilR] at he
        have hg:getR M a.sl = M.getD a.sl.toNat nilR := by
          unfold getR
          rw [if_neg (by omega)]
        show Eye st (getR M a.sl).L _
        rw [hg]
        exact Eye.refl _ _
      · have e:(M.set a.sl.toNat (wriR (getR M a.sl) a.tx a.v)).getD x nilR = M.getD x nilR := by
          rw [List.getD_eq_getElem?_getD,List.getD_eq_getElem?_getD]
          by_cases hx2:x = a.sl.toNat
          · have hl:M.length ≤ x := by
              rcases Nat.lt_or_ge x M.length with h | h
              · exact absurd ⟨hx2,h⟩ hx
              · exact h
            rw [List.getElem?_eq_none (by rw [List.length_set]; exact hl),List.getElem?_eq_none hl]
          · rw [List.getElem?_set_ne (fun e => hx2 e.symm)]
        rw [e]
        exact Eye.refl _ _
    · exact Eye.refl _ _
  rw [if_neg k1]
  by_cases k2:a.k = 2
  · rw [if_pos k2]
    exact eye_map (f := atT a.tx (bakR a.lv)) (fun r _ => eye_atT (f := bakR a.lv) (fun _ => Eye.refl _ _) r) x
  rw [if_neg k2]
  by_cases k3:a.k = 3
  · rw [if_pos k3]
    split
    · exact Eye.refl _ _
    · exact eye_map (f := atT a.tx (fldR a.lv)) (fun r _ => eye_atT (f := fldR a.lv) (fun _ => Eye.refl _ _) r) x
  rw [if_neg k3]
  by_cases k4:a.k = 4
  · rw [if_pos k4]
    split
    · exact Eye.refl _ _
    · split
      · exact Eye.refl _ _
      · exact eye_map (f := atT a.tx (setR a.st)) (fun r _ => eye_atT (fun r => eye_set (h4 k4) r) r) x
  rw [if_neg k4]
  by_cases k5:a.k = 5
  · rw [if_pos k5]
    exact eye_map (f := prnR a.st) (fun r hr => eye_prn (hM r hr).may (h5 k5)) x
  rw [if_neg k5]
  exact Eye.refl _ _

end Go.Proofs.YtcibcfghkidncaaGreatDoor

namespace Go.Proofs.YtcibcfghkidncaaGreatDoor
open Go.RowKit Go.Lib
set_option maxRecDepth 100000

theorem own_blK {w w':World} {B:Nat} {T:TypeId} {s:Nat} {v:Value} {n:Nat} {xs:List Value} (h:w.ownsRow B T s v n xs) (hk:∀ g,v.ownBlock = some g → w'.heap[g]? = w.heap[g]?):w'.ownsRow B T s v n xs := by
 refine ⟨h.1,?_⟩
 rcases h.2 with h1 | ⟨g,cap,cur,e,hb,hg,r⟩
 ·exact .inl h1
 ·subst e
  exact .inr ⟨g,cap,cur,rfl,hb,(hk g rfl).trans hg,r⟩
theorem own_nE {w:World} {B B':Nat} {T T':TypeId} {s s':Nat} {v v':Value} {n n':Nat} {xs xs':List Value} (h:w.ownsRow B T s v n xs) (h':w.ownsRow B' T' s' v' n' xs') (hT:T ≠ T') {g:Nat} (e:v.ownBlock = some g):v'.ownBlock ≠ some g := by
 intro e'
 rcases h.2 with ⟨rfl,_⟩ | ⟨g1,cap,cur,rfl,hb,hg,r⟩
 ·cases e
 ·rcases h'.2 with ⟨rfl,_⟩ | ⟨g2,cap2,cur2,rfl,hb2,hg2,r2⟩
  ·cases e'
  ·have e1:g1 = g := Option.some.inj e
   have e2:g2 = g := Option.some.inj e'
   subst e1 e2
   rw [hg] at hg2
   injection hg2 with hg2
   injection hg2 with _ h9
   exact hT h9
theorem own_groW {w w':World} {o:Obj} {B B':Nat} {T T':TypeId} {s s':Nat} {v v':Value} {n n':Nat} {xs xs':List Value} (h:w.ownsRow B T s v n xs) (h':w.ownsRow B' T' s' v' n' xs') (hT:T ≠ T') (hg:(w.alloc o).grownBy w' v'.ownBlock):w'.ownsRow B T s v n xs :=
 own_blK h (fun g e => by
  have hl := (h.lt g e).2
  have h1:(w.alloc o).heap[g]? = w.heap[g]? := (World.grownBy_alloc w o none).block g hl (by simp)
  exact (hg.block g (by simp; omega) (fun e' => own_nE h h' hT e e'.symm)).trans h1)
theorem own_aT {w:World} {B:Nat} {T:TypeId} {v:Value} {n:Nat} {xs:List Value} (h:w.ownsRow B T 1 v n xs) {i:Nat} (hi:i < n) {x:Value} (hx:xs[i]? = some x):∃ g c,v = .slice (some ⟨g,0,none⟩) n c ∧ w.cell? ⟨g,i,none⟩ = some x := by
 obtain ⟨g,cap,e,_,hg⟩ := owns_form h (by omega)
 subst e
 refine ⟨g,cap,rfl,?_⟩
 have := World.ownsRow.cellAt h i (by omega)
 rw [this]
 exact hx
def eyB (M:List Rs) (st s:Int):Bool := shwB (seeR (getR M s).L (getR M s).W (getR M s).tx 0 st)
def eyL (M:List Rs) (st s:Int):List Vl := shwL (seeR (getR M s).L (getR M s).W (getR M s).tx 0 st)
theorem ey_same {M M':List Rs} {st:Int} (h:∀ x,Eye st (M'.getD x nilR).L (M.getD x nilR).L) (j:Nat):eyB M' st (j:Int) = eyB M st (j:Int) ∧ eyL M' st (j:Int) = eyL M st (j:Int) := by
 unfold eyB eyL
 rw [see_zero,see_zero]
 have hg:∀ M,getR M (j:Int) = M.getD j nilR := fun M => by
  unfold getR
  rw [if_neg (by omega)]
  rfl
 rw [hg,hg]
 exact h j
theorem readE_PS {N:Nat → Prop} {w:World} {B sb most:Nat} {M:List Rs} {Kn J:Nat} {v:Value} (h:PS N w B sb most M Kn J v) (hJ:J ≤ 3518437208882) (s st:Int) :
  Calls Tryz.prog 15 #[ptr1 sb,.int .i64 s,.int .i64 0,.int .u64 st] w fun e w' => (∃ p c,e = .returned (.tuple #[.slice p (eyL M st s).length c,.bool (eyB M st s)]) ∧ OwnV w' w.heap.size (.slice p (eyL M st s).length c) (eyL M st s)) ∧ Below w.heap.size w w' := by
 obtain ⟨F,⟨pb,dl,dm,pv,tv,C,T,sv,wo,hX,hd0,hI,hW,hF⟩,hn⟩ := h.sto
 refine (read_any s 0 st w hX (by rw [hX.plc.len]; have h1 := hI.len; have h2 := hI.mst; omega) J hI.ok hJ).mono ?_
 rintro e w1 ⟨⟨v1,rfl,ho⟩,hb⟩
 have hs := ho.sl
 obtain ⟨p,c,rfl,_⟩ := hs
 exact ⟨⟨p,c,rfl,ho⟩,hb⟩
structure K1 (wa wq:World) (v:Value) (M:List Rs) (st:Int) (jw jt:Nat) (vw vt:Value) (xs:List Value):Prop where
 bel:Below wa.heap.size wa wq
 m:Box wq wa.heap.size #[.int .i64 64,v] 29
 ow:wq.ownsRow (wa.heap.size + 1) 36 1 vw jw xs
 ot:wq.ownsRow (wa.heap.size + 1) 4 1 vt jt ((List.range jt).map (fun i => .bool (eyB M st ((i:Nat):Int))))
 rows:∀ i (hi:i < xs.length),OwnV wq (wa.heap.size + 1) xs[i] (eyL M st ((i:Nat):Int))
section
variable {wa wq w' w6:World} {v:Value} {M:List Rs} {st:Int} {jw jt:Nat} {vw vt:Value} {xs:List Value}
theorem K1.on (h:K1 wa wq v M st jw jt vw vt xs) (hb:Below wq.heap.size wq w'):K1 wa w' v M st jw jt vw vt xs :=
 ⟨h.bel.trans (hb.mono h.bel.size),h.m.on hb,own_blK h.ow (fun g e => hb.block g (h.ow.lt g e).2),own_blK h.ot (fun g e => hb.block g (h.ot.lt g e).2),fun i hi => (h.rows i hi).kept hb⟩
theorem K1.appw {vr vw':Value} {o:Obj} (h:K1 wa wq v M st jw jt vw vt xs) (hr:OwnV wq (wa.heap.size + 1) vr (eyL M st (jw:Int))) (h6:w6.ownsRow (wa.heap.size + 1) 36 1 vw' (jw + 1) (xs ++ [vr])) (h7:Below (wa.heap.size + 1) wq w6) (h8:(wq.alloc o).grownBy w6 vw.ownBlock):K1 wa w6 v M st (jw + 1) jt vw' vt (xs ++ [vr]) := by
 have hl:xs.length = jw := by have := h.ow.1; omega
 refine ⟨h.bel.trans (h7.mono (Nat.le_succ _)),h.m.keep h7 (Nat.lt_succ_self _),h6,own_groW h.ot h.ow (by decide) h8,fun i hi => ?_⟩
 by_cases e:i < xs.length
 ·rw [List.getElem_append_left e]
  exact own_groW (h.rows i e) h.ow (by decide) h8
 ·have e1:i = jw := by rw [List.length_append] at hi; simp at hi; omega
  subst e1
  rw [List.getElem_append_right (by omega)]
  simp only [hl,Nat.sub_self,List.getElem_cons_zero]
  exact own_groW hr h.ow (by decide) h8
theorem K1.appt {vt':Value} {o:Obj} (h:K1 wa wq v M st jw jt vw vt xs) (h6:w6.ownsRow (wa.heap.size + 1) 4 1 vt' (jt + 1) ((List.range jt).map (fun i => .bool (eyB M st ((i:Nat):Int))) ++ [.bool (eyB M st (jt:Int))])) (h7:Below (wa.heap.size + 1) wq w6) (h8:(wq.alloc o).grownBy w6 vt.ownBlock):K1 wa w6 v M st jw (jt + 1) vw vt' xs := by
 refine ⟨h.bel.trans (h7.mono (Nat.le_succ _)),h.m.keep h7 (Nat.lt_succ_self _),own_groW h.ow h.ot (by decide) h8,?_,fun i hi => own_groW (h.rows i hi) h.ot (by decide) h8⟩
 rw [List.range_succ,List.map_append]
 exact h6
end
theorem PS.news {N:Nat → Prop} {w w':World} {B sb most:Nat} {M:List Rs} {K J:Nat} {v:Value} (h:PS N w B sb most M K J v) (hb:Below w.heap.size w w'):PS (fun k => w.heap.size ≤ k ∧ k < w'.heap.size) w' B sb most M K J v := by
 obtain ⟨F,hs,hn⟩ := h.sto
 have h' := h.on hb
 exact ⟨⟨F,hs.on hb,fun k hk => ⟨fun hf => by have := (hs.mut hf).2.2; omega,hk.2⟩⟩,h'.doc,h'.tab,h.glo,h'.hB⟩
structure K2 (w wq:World) (ba he b1:Nat) (st:Int) (M0 M:List Rs) (K J:Nat) (v v':Value) (vw vt:Value) (xs:List Value):Prop where
 ps:PS (fun k => ba ≤ k ∧ k < he) wq b1 b1 64 M K J v'
 m:Box wq ba #[.int .i64 64,v] 29
 ow:wq.ownsRow (ba + 1) 36 1 vw 64 xs ∧ ∀ g,vw.ownBlock = some g → g < he
 ot:wq.ownsRow (ba + 1) 4 1 vt 64 ((List.range 64).map (fun i => .bool (eyB M0 st ((i:Nat):Int)))) ∧ ∀ g,vt.ownBlock = some g → g < he
 rows:∀ i (hi:i < xs.length),OwnV wq (ba + 1) xs[i] (eyL M0 st ((i:Nat):Int)) ∧ ∀ g,xs[i].ownBlock = some g → g < he
 eye:∀ x,Eye st (M.getD x nilR).L (M0.getD x nilR).L
 bel:Below w.heap.size w wq
 lo:w.heap.size ≤ b1 ∧ b1 ≤ ba ∧ ba < he
section
variable {w wq w':World} {ba he b1:Nat} {st:Int} {M0 M:List Rs} {K J K' J':Nat} {v v':Value} {vw vt:Value} {xs:List Value}
theorem K1.k2 {wa:World} (h:K1 wa wq v M0 st 64 64 vw vt xs) (hp:PS none1 wa b1 b1 64 M0 K J v) (hb:Below w.heap.size w wa) (hl:w.heap.size ≤ b1):K2 w wq wa.heap.size wq.heap.size b1 st M0 M0 K J v v vw vt xs :=
 ⟨hp.news h.bel,h.m,⟨h.ow,fun g e => (h.ow.lt g e).2⟩,⟨h.ot,fun g e => (h.ot.lt g e).2⟩,fun i hi => ⟨h.rows i hi,fun g e => ((h.rows i hi).lt g e).2⟩,fun _ => Eye.refl _ _,hb.trans (h.bel.mono hb.size),⟨hl,hp.hB,h.m.lt⟩⟩
theorem K2.on (h:K2 w wq ba he b1 st M0 M K J v v' vw vt xs) (hb:Below wq.heap.size wq w'):K2 w w' ba he b1 st M0 M K J v v' vw vt xs :=
 ⟨h.ps.on hb,h.m.on hb,⟨own_blK h.ow.1 (fun g e => hb.block g (h.ow.1.lt g e).2),h.ow.2⟩,⟨own_blK h.ot.1 (fun g e => hb.block g (h.ot.1.lt g e).2),h.ot.2⟩,fun i hi => ⟨(h.rows i hi).1.kept hb,(h.rows i hi).2⟩,h.eye,h.bel.trans (hb.mono h.bel.size),h.lo⟩
theorem K2.mono (h:K2 w wq ba he b1 st M0 M K J v v' vw vt xs) (hk:K ≤ K') (hj:J ≤ J'):K2 w wq ba he b1 st M0 M K' J' v v' vw vt xs :=
 ⟨h.ps.mono hk hj,h.m,h.ow,h.ot,h.rows,h.eye,h.bel,h.lo⟩
theorem K2.does {a:AcR} {qv:Option Addr} {cv:Nat} (h:K2 w wq ba he b1 st M0 M K J v v vw vt xs) (hV:SlV wq wq.heap.size (.slice qv a.v.row.length cv) a.v.row) (ho:a.ok) (hK:K + 65537 ≤ 8000000000000000000) (hJ:J + 1 ≤ 3518437208882) (h4:a.k = 4 → st < a.st) (h5:a.k = 5 → a.st ≤ st) :
  Calls Tryz.prog 12 #[ptr1 b1,.agg #[.int .i64 64,v],.agg #[.int .i64 a.k,.int .i64 a.sl,.int .i64 a.tx,.int .i64 a.v.n,.bool a.v.gn,.slice qv a.v.row.length cv,.int .u64 a.st,.int .i64 a.lv]] wq fun e w' => ∃ v2,e = .returned (.tuple #[.agg #[.int .i64 64,v2],.bool true]) ∧ K2 w w' ba he b1 st M0 (stM 64 a M) (K + 65537) (J + 1) v v2 vw vt xs := by
 refine (does_any _ b1 b1 64 M K J a qv cv v wq h.ps hV ho.row hK hJ ho.t1 ho.t2 ho.lv ho.st).mono ?_
 rintro e w' ⟨⟨v2,rfl,hp⟩,hf⟩
 have hlo := h.lo
 have hkk:∀ g,ba + 1 ≤ g → g < he → g < wq.heap.size → w'.heap[g]? = wq.heap[g]? := fun g h1 h2 h3 => hf.block g h3 (fun hn => hn.2 ⟨by omega,h2⟩)
 exact ⟨v2,rfl,hp,h.m.frm hf (fun hn => hn.2 ⟨Nat.le_refl _,hlo.2.2⟩),⟨own_blK h.ow.1 (fun g e => hkk g (h.ow.1.lt g e).1 (h.ow.2 g e) (h.ow.1.lt g e).2),h.ow.2⟩,⟨own_blK h.ot.1 (fun g e => hkk g (h.ot.1.lt g e).1 (h.ot.2 g e) (h.ot.1.lt g e).2),h.ot.2⟩,fun i hi => ⟨own_blK (h.rows i hi).1 (fun g e => hkk g ((h.rows i hi).1.lt g e).1 ((h.rows i hi).2 g e) ((h.rows i hi).1.lt g e).2),(h.rows i hi).2⟩,fun x => (eye_step h.ps.ok.1 h4 h5 x).trans (h.eye x),h.bel.trans (hf.below h.bel.size (fun k hk => by have := hk.1; omega)),h.lo⟩
theorem K2.lay {p q:Option Addr} {n c m d:Nat} (h:K2 w wq ba he b1 st M0 M K J (.slice p n c) (.slice q m d) vw vt xs):K2 w ((wq.setCell ⟨ba,0,none⟩ (.int .i64 64)).setCell ⟨ba,1,none⟩ (.slice q m d)) ba he b1 st M0 M K J (.slice q m d) (.slice q m d) vw vt xs := by
 have hlo := h.lo
 obtain ⟨hp,hx,hf⟩ := h.ps.lay ⟨Nat.le_refl _,hlo.2.2⟩ hlo.2.1 (q := q) (m := m) (d := d) h.m 64
 have hkk:∀ g,ba + 1 ≤ g → g < wq.heap.size → ((wq.setCell ⟨ba,0,none⟩ (.int .i64 64)).setCell ⟨ba,1,none⟩ (.slice q m d)).heap[g]? = wq.heap[g]? := fun g h1 h3 => hf.block g h3 (fun e => by have e9:g = ba := e; omega)
 exact ⟨hp,hx,⟨own_blK h.ow.1 (fun g e => hkk g (h.ow.1.lt g e).1 (h.ow.1.lt g e).2),h.ow.2⟩,⟨own_blK h.ot.1 (fun g e => hkk g (h.ot.1.lt g e).1 (h.ot.1.lt g e).2),h.ot.2⟩,fun i hi => ⟨own_blK (h.rows i hi).1 (fun g e => hkk g ((h.rows i hi).1.lt g e).1 ((h.rows i hi).1.lt g e).2),(h.rows i hi).2⟩,h.eye,h.bel.trans (hf.below h.bel.size (fun k hk => by have e9:k = ba := hk; omega)),h.lo⟩
end

end Go.Proofs.YtcibcfghkidncaaGreatDoor

namespace Go.Proofs.YtcibcfghkidncaaGreatDoor
open Go.RowKit Go.Lib
set_option maxRecDepth 100000

theorem later9x {P Q:Prop} (h:P) (f:P → Q):Q := f h
theorem info_rv:(Tryz.prog.info? 36).map (fun i => (i.zero,i.size,i.bytes)) = some (some (.slice none 0 0),1,24) := by kernel_rfl
theorem info_bo:(Tryz.prog.info? 4).map (fun i => (i.zero,i.size,i.bytes)) = some (some (.bool false),1,1) := by kernel_rfl
theorem K1.start (w1:World) (p1:Option Addr) (n1 c1:Nat) (M:List Rs) (st:Int):K1 w1 (((w1.alloc (.cells #[.int .i64 64,.slice p1 n1 c1] 29)).alloc (.cells #[] 36)).alloc (.cells #[] 4)) (.slice p1 n1 c1) M st 0 0 (.slice (some ⟨w1.heap.size + 1,0,none⟩) 0 0) (.slice (some ⟨w1.heap.size + 1 + 1,0,none⟩) 0 0) [] := by
 obtain ⟨bX,bB,bS⟩ := one_new w1 #[.int .i64 64,.slice p1 n1 c1] 29
 have h1 := World.ownsRow_made (base := w1.heap.size + 1) (e := 36) (size := 1) (w1.alloc (.cells #[.int .i64 64,.slice p1 n1 c1] 29)) #[] 0 (by rw [bS]; exact Nat.le_refl _) (by decide) rfl
 rw [bS] at h1
 obtain ⟨_,cB,cS⟩ := one_new (w1.alloc (.cells #[.int .i64 64,.slice p1 n1 c1] 29)) #[] 36
 rw [bS] at cS
 have h2 := World.ownsRow_made (base := w1.heap.size + 1) (e := 4) (size := 1) ((w1.alloc (.cells #[.int .i64 64,.slice p1 n1 c1] 29)).alloc (.cells #[] 36)) #[] 0 (by rw [cS]; omega) (by decide) rfl
 rw [cS] at h2
 obtain ⟨_,dB,_⟩ := one_new ((w1.alloc (.cells #[.int .i64 64,.slice p1 n1 c1] 29)).alloc (.cells #[] 36)) #[] 4
 have hb2 := bB.trans (cB.mono bB.size)
 exact ⟨hb2.trans (dB.mono hb2.size),(bX.on cB).on dB,own_blK h1 (fun g e => dB.block g (h1.lt g e).2),h2,fun i hi => absurd hi (by simp)⟩

set_option maxHeartbeats 8000000 in
theorem lawStoKeeps (A:List AcR) (pA:Option Addr) (cA:Nat) (Bm:List AcR) (pB:Option Addr) (cB:Nat) (st:Int) (w:World) (hT:Tab w) (hg : 1 < w.heap.size) (hA:RdA w w.heap.size pA A) (hk:∀ a ∈ A,a.ok) (hl:A.length ≤ 1759218604442) (hBm:RdA w w.heap.size pB Bm) (hkb:∀ a ∈ Bm,a.ok) (hlb:Bm.length ≤ 1759218604442) (hsum:A.length + Bm.length ≤ 3518437208882) :
  Calls Tryz.prog 5 #[.slice pA A.length cA,.slice pB Bm.length cB,.int .u64 st] w fun e w' => e = .returned (.bool true) ∧ Below w.heap.size w w' := by
 have C1:Hid (Calls Tryz.prog 13 #[.int .i64 64,.slice pA A.length cA] w fun e w' => ∃ v,e = .returned (.tuple #[ptr1 (w.heap.size + 1),.agg #[.int .i64 64,v],.bool true]) ∧ PS none1 w' (w.heap.size + 1) (w.heap.size + 1) 64 (runM 64 A) (65537 * A.length) A.length v ∧ Below w.heap.size w w') := made_ok 64 A pA cA w hT hg (by omega) (by omega) hA hk hl
 have HG:Hid (1 < w.heap.size) := hg
 have HBm:Hid (RdA w w.heap.size pB Bm) := hBm
 have HKb:Hid (∀ a ∈ Bm,a.ok) := hkb
 clear hT hg hA hk hBm hkb
 obtain ⟨n,hn⟩:∃ n,A.length = n := ⟨_,rfl⟩
 rw [hn] at hl C1 hsum
 rw [hn]
 clear hn
 obtain ⟨k,hkk⟩:∃ k,Bm.length = k := ⟨_,rfl⟩
 have HKl:Hid (Bm.length = k) := hkk
 rw [hkk] at hlb hsum
 rw [hkk]
 clear hkk
 have HL:Hid (n ≤ 1759218604442 ∧ k ≤ 1759218604442) := ⟨hl,hlb⟩
 have HS:Hid (n + k ≤ 3518437208882) := hsum
 clear hl hlb hsum
 go_enter Tryz.func5,Tryz.ntmps5
 go_wp2_with fail
 refine C1.out.mono ?_
 rintro e w1 ⟨v1,rfl,hp1,hb1⟩
 obtain ⟨p1,n1,c1,e1⟩:∃ p1 n1 c1,v1 = .slice p1 n1 c1 := by obtain ⟨p1,c1,e1,_⟩ := hp1.doc.len; exact ⟨p1,_,c1,e1⟩
 subst e1
 have HP1:Hid (PS none1 w1 (w.heap.size + 1) (w.heap.size + 1) 64 (runM 64 A) (65537 * n) n (.slice p1 n1 c1) ∧ Below w.heap.size w w1) := ⟨hp1,hb1⟩
 have HK0:Hid (K1 w1 (((w1.alloc (.cells #[.int .i64 64,.slice p1 n1 c1] 29)).alloc (.cells #[] 36)).alloc (.cells #[] 4)) (.slice p1 n1 c1) (runM 64 A) st 0 0 (.slice (some ⟨w1.heap.size + 1,0,none⟩) 0 0) (.slice (some ⟨w1.heap.size + 1 + 1,0,none⟩) 0 0) []) := K1.start w1 p1 n1 c1 _ st
 clear hp1 hb1 C1
 go_upto_region 6 with fail
 generalize (((w1.alloc (.cells #[.int .i64 64,.slice p1 n1 c1] 29)).alloc (.cells #[] 36)).alloc (.cells #[] 4)) = w2 at *
 go_wp2_with fail
 go_loopw [10,11,12] (fun sa sb i wq => ∃ (j:Nat) (xs:List Value) (vw vt:Value),j ≤ 64 ∧ vw = sa ∧ vt = sb ∧ i = .int .i64 (j:Int) ∧ Hid (K1 w1 wq (.slice p1 n1 c1) (runM 64 A) st j j vw vt xs)) (fun _ _ i _ => 64 - (intOf i).toNat)
 case atStart => exact ⟨0,[],_,_,Nat.zero_le _,rfl,rfl,by go_num,HK0⟩
 case round =>
  obtain ⟨j,xs,vw,vt,hj,rfl,rfl,rfl,HK⟩ := hrel
  clear HK0
  by_cases hj0:j = 64
  ·subst hj0
   have HK0:Hid (K2 w wr w1.heap.size wr.heap.size (w.heap.size + 1) st (runM 64 A) (runM 64 A) (65537 * n) n (.slice p1 n1 c1) (.slice p1 n1 c1) vw vt xs) := HK.out.k2 HP1.out.1 HP1.out.2 (Nat.le_succ _)
   clear HK
   obtain ⟨gw,cw,ew,-⟩ := own_aT HK0.out.ow.1 (i := 0) (by omega) (List.getElem?_eq_getElem (by have h1 := HK0.out.ow.1.1; omega))
   obtain ⟨gt,ct,et,-⟩ := own_aT HK0.out.ot.1 (i := 0) (by omega) (List.getElem?_eq_getElem (by simp))
   subst ew et
   rw [show ((64:Nat):Int) = 64 from rfl]
   go_wp2_with fail
   generalize wr.heap.size = he at *
   go_loopw [15] (fun i wq => ∃ (j:Nat) (M:List Rs) (p2:Option Addr) (n2 c2:Nat),j ≤ k ∧ i = .int .i64 (j:Int) ∧ Hid (K2 w wq w1.heap.size he (w.heap.size + 1) st (runM 64 A) M (65537 * (n + j)) (n + j) (.slice p2 n2 c2) (.slice p2 n2 c2) (.slice (some ⟨gw,0,none⟩) 64 cw) (.slice (some ⟨gt,0,none⟩) 64 ct) xs)) (fun i _ => k - (intOf i).toNat)
   case atStart => exact ⟨0,_,p1,n1,c1,Nat.zero_le _,by go_num,HK0⟩
   case round =>
    obtain ⟨j,M,p2,n2,c2,hj,rfl,HK⟩ := hrel
    clear HK0
    by_cases hj0:j = k
    ·subst hj0
     have HE:Hid (∀ x:Nat,eyB M st (x:Int) = eyB (runM 64 A) st (x:Int) ∧ eyL M st (x:Int) = eyL (runM 64 A) st (x:Int)) := fun x => ey_same HK.out.eye x
     have HXl:Hid (xs.length = 64) := by have h1 := HK.out.ow.1.1; exact (by omega:xs.length = 64)
     go_wp2_with fail
     go_loopw [17] (fun i wq => ∃ j3:Nat,j3 ≤ 64 ∧ i = .int .i64 (j3:Int) ∧ Hid (K2 w wq w1.heap.size he (w.heap.size + 1) st (runM 64 A) M (65537 * (n + j)) (n + j) (.slice p2 n2 c2) (.slice p2 n2 c2) (.slice (some ⟨gw,0,none⟩) 64 cw) (.slice (some ⟨gt,0,none⟩) 64 ct) xs)) (fun i _ => 64 - (intOf i).toNat)
     case atStart => exact ⟨0,Nat.zero_le _,by go_num,HK⟩
     case round =>
      clear HK
      obtain ⟨j3,hj3,rfl,HK⟩ := hrel
      by_cases hj4:j3 = 64
      ·subst hj4
       have C2:Hid (Calls _ _ _ _ _) := awake11 wr HK.out.ps.tab (Nat.lt_of_lt_of_le HG.out HK.out.bel.size)
       go_wp2_with fail
       refine C2.out.mono ?_
       rintro e w4 ⟨rfl,hb4⟩
       have HB4:Hid (Below w.heap.size w w4) := HK.out.bel.trans (hb4.mono HK.out.bel.size)
       go_wp2_with fail
       go_ret
       exact ⟨rfl,HB4.out⟩
      ·have hj5:j3 < 64 := by omega
       have hj6:j3 < xs.length := by rw [HXl.out]; exact hj5
       have C3:Hid (Calls Tryz.prog 15 #[ptr1 (w.heap.size + 1),.int .i64 (j3:Int),.int .i64 0,.int .u64 st] wr fun e w' => (∃ p c,e = .returned (.tuple #[.slice p (eyL (runM 64 A) st (j3:Int)).length c,.bool (eyB (runM 64 A) st (j3:Int))]) ∧ OwnV w' wr.heap.size (.slice p (eyL (runM 64 A) st (j3:Int)).length c) (eyL (runM 64 A) st (j3:Int))) ∧ Below wr.heap.size wr w') := by
        have h9 := readE_PS HK.out.ps (by have h8 := HS.out; omega) (j3:Int) st
        rw [(HE.out j3).1,(HE.out j3).2] at h9
        exact h9
       have HLe:Hid ((eyL (runM 64 A) st (j3:Int)).length ≤ 3518437208882) := by
        rw [← (HE.out j3).2]
        exact shwL_len (OkR.get HK.out.ps.ok.1 (j3:Int)) 0 st
       go_wp2_with fail
       refine C3.out.mono ?_
       rintro e w3 ⟨⟨p3,c3,rfl,ho3⟩,hb3⟩
       have HK3:Hid (K2 w w3 w1.heap.size he (w.heap.size + 1) st (runM 64 A) M (65537 * (n + j)) (n + j) (.slice p2 n2 c2) (.slice p2 n2 c2) (.slice (some ⟨gw,0,none⟩) 64 cw) (.slice (some ⟨gt,0,none⟩) 64 ct) xs) := HK.out.on hb3
       have a0:w3.cell? ⟨gw,j3,none⟩ = some xs[j3] := (World.ownsRow.cellAt HK3.out.ow.1 j3 (by omega)).trans (List.getElem?_eq_getElem hj6)
       have a1:w3.cell? ⟨gt,j3,none⟩ = some (.bool (eyB (runM 64 A) st (j3:Int))) := (World.ownsRow.cellAt HK3.out.ot.1 j3 (by omega)).trans (by rw [List.getElem?_map,List.getElem?_range hj5]; rfl)
       obtain ⟨p4,c4,e4,hr4⟩ := (HK3.out.rows j3 hj6).1.row
       rw [e4] at a0
       obtain ⟨p5,c5,e5,hr5⟩ := ho3.row
       injection e5 with e6 e7 e8
       subst e6 e8
       have C4:Hid (Calls _ _ _ _ _) := rsameRow_any _ _ p3 p4 c3 c4 w3 hr5 hr4 (by have := HLe.out; omega) (by have := HLe.out; omega)
       rw [sameL_refl] at C4
       clear C3 HLe hr4 hr5 e4 e7 ho3 hb3 hj6
       generalize (eyL (runM 64 A) st (j3:Int)).length = nx at *
       generalize eyB (runM 64 A) st (j3:Int) = bx at *
       have hbb:(bx == bx) = true := by simp
       go_wp2_with fail
       refine C4.out.mono ?_
       rintro e w4 ⟨rfl,hb4⟩
       have HK4:Hid (K2 w w4 w1.heap.size he (w.heap.size + 1) st (runM 64 A) M (65537 * (n + j)) (n + j) (.slice p2 n2 c2) (.slice p2 n2 c2) (.slice (some ⟨gw,0,none⟩) 64 cw) (.slice (some ⟨gt,0,none⟩) 64 ct) xs) := HK3.out.on hb4
       clear hb4 a0 a1
       go_wp2_with fail
       go_roundw
       case rel => exact ⟨j3 + 1,by omega,by go_num,HK4⟩
       case measure => simp [intOf]; omega
    ·have hj1:j < Bm.length := by rw [HKl.out]; omega
     have hjk:j < k := by omega
     obtain ⟨b,o,q5,c5,e,⟨k0,k1,k2,k3,k4,k5,k6,k7⟩,hV⟩ := HBm.out.at HK.out.bel hj1
     subst e
     have hok := HKb.out _ (List.getElem_mem hj1)
     obtain ⟨⟨x0,x1,x2,⟨x3,x4,vr⟩,x6,x7⟩,ev⟩:∃ a,Bm[j] = a := ⟨_,rfl⟩
     rw [ev] at k0 k1 k2 k3 k4 k5 k6 k7 hV hok
     dsimp only at k0 k1 k2 k3 k4 k5 k6 k7 hV
     clear ev hj1
     have CD0:Hid (∀ wz,K2 w wz w1.heap.size he (w.heap.size + 1) st (runM 64 A) M (65537 * (n + j)) (n + j) (.slice p2 n2 c2) (.slice p2 n2 c2) (.slice (some ⟨gw,0,none⟩) 64 cw) (.slice (some ⟨gt,0,none⟩) 64 ct) xs → SlV wz wz.heap.size (.slice q5 vr.length c5) vr → (x0 = 4 → st < x6) → (x0 = 5 → x6 ≤ st) → Calls Tryz.prog 12 #[ptr1 (w.heap.size + 1),.agg #[.int .i64 64,.slice p2 n2 c2],.agg #[.int .i64 x0,.int .i64 x1,.int .i64 x2,.int .i64 x3,.bool x4,.slice q5 vr.length c5,.int .u64 x6,.int .i64 x7]] wz fun e w' => ∃ v2,e = .returned (.tuple #[.agg #[.int .i64 64,v2],.bool true]) ∧ K2 w w' w1.heap.size he (w.heap.size + 1) st (runM 64 A) (stM 64 ⟨x0,x1,x2,⟨x3,x4,vr⟩,x6,x7⟩ M) (65537 * (n + j) + 65537) (n + j + 1) (.slice p2 n2 c2) v2 (.slice (some ⟨gw,0,none⟩) 64 cw) (.slice (some ⟨gt,0,none⟩) 64 ct) xs) := fun wz h hv h4 h5 => h.does (a := ⟨x0,x1,x2,⟨x3,x4,vr⟩,x6,x7⟩) hv hok (by have h8 := HL.out; omega) (by have h8 := HS.out; omega) h4 h5
     clear hok
     generalize hnr:vr.length = nr at *
     clear hnr
     go_upto_region 16 with fail
     obtain ⟨aX,aB,-⟩ := one_new wr #[.int .i64 x0,.int .i64 x1,.int .i64 x2,.int .i64 x3,.bool x4,.slice q5 nr c5,.int .u64 x6,.int .i64 x7] 41
     have HA:Hid (K2 w (wr.alloc (.cells #[.int .i64 x0,.int .i64 x1,.int .i64 x2,.int .i64 x3,.bool x4,.slice q5 nr c5,.int .u64 x6,.int .i64 x7] 41)) w1.heap.size he (w.heap.size + 1) st (runM 64 A) M (65537 * (n + j)) (n + j) (.slice p2 n2 c2) (.slice p2 n2 c2) (.slice (some ⟨gw,0,none⟩) 64 cw) (.slice (some ⟨gt,0,none⟩) 64 ct) xs ∧ Box (wr.alloc (.cells #[.int .i64 x0,.int .i64 x1,.int .i64 x2,.int .i64 x3,.bool x4,.slice q5 nr c5,.int .u64 x6,.int .i64 x7] 41)) wr.heap.size #[.int .i64 x0,.int .i64 x1,.int .i64 x2,.int .i64 x3,.bool x4,.slice q5 nr c5,.int .u64 x6,.int .i64 x7] 41) := ⟨HK.out.on aB,aX⟩
     have HVr:Hid (SlV (wr.alloc (.cells #[.int .i64 x0,.int .i64 x1,.int .i64 x2,.int .i64 x3,.bool x4,.slice q5 nr c5,.int .u64 x6,.int .i64 x7] 41)) (wr.alloc (.cells #[.int .i64 x0,.int .i64 x1,.int .i64 x2,.int .i64 x3,.bool x4,.slice q5 nr c5,.int .u64 x6,.int .i64 x7] 41)).heap.size (.slice q5 nr c5) vr) := hV.imm (Imm.of_below aB)
     clear aX aB hV k0 k1 k2 k3 k4 k5 k6 k7 HK
     generalize (wr.alloc (.cells #[.int .i64 x0,.int .i64 x1,.int .i64 x2,.int .i64 x3,.bool x4,.slice q5 nr c5,.int .u64 x6,.int .i64 x7] 41)) = wz at *
     generalize wr.heap.size = ba at *
     have CD:Hid ((x0 = 4 → st < x6) → (x0 = 5 → x6 ≤ st) → Calls _ _ _ _ _) := CD0.out wz HA.out.1 HVr.out
     clear CD0 HVr
     obtain ⟨a0,a1,a2,a3,a4,a5,a6,a7⟩ := boxA HA.out.2
     by_cases h4:x0 = 4
     ·subst h4
      by_cases hs:x6 ≤ st
      ·clear CD
       have HK4:Hid (K2 w wz w1.heap.size he (w.heap.size + 1) st (runM 64 A) M (65537 * (n + (j + 1))) (n + (j + 1)) (.slice p2 n2 c2) (.slice p2 n2 c2) (.slice (some ⟨gw,0,none⟩) 64 cw) (.slice (some ⟨gt,0,none⟩) 64 ct) xs) := HA.out.1.mono (by omega) (by omega)
       have hkb := HL.out.2
       go_wp2_with fail
       go_roundw
       case rel => exact ⟨j + 1,_,p2,n2,c2,by omega,by go_num,HK4⟩
       case measure => simp [intOf]; omega
      ·have hs2:st < x6 := by omega
       obtain ⟨m0,m1,_,_⟩ := box2 HA.out.1.m
       go_wp2_with fail
       refine (CD.out (by intro; omega) (by intro; omega)).mono ?_
       rintro e w4 ⟨v2,rfl,hk4⟩
       obtain ⟨p4,n4,c4,e4⟩:∃ p4 n4 c4,v2 = .slice p4 n4 c4 := by obtain ⟨p4,c4,e4,_⟩ := hk4.ps.doc.len; exact ⟨p4,_,c4,e4⟩
       subst e4
       have HK4:Hid (K2 w ((w4.setCell ⟨w1.heap.size,0,none⟩ (.int .i64 64)).setCell ⟨w1.heap.size,1,none⟩ (.slice p4 n4 c4)) w1.heap.size he (w.heap.size + 1) st (runM 64 A) (stM 64 ⟨4,x1,x2,⟨x3,x4,vr⟩,x6,x7⟩ M) (65537 * (n + (j + 1))) (n + (j + 1)) (.slice p4 n4 c4) (.slice p4 n4 c4) (.slice (some ⟨gw,0,none⟩) 64 cw) (.slice (some ⟨gt,0,none⟩) 64 ct) xs) := by
        have h9 := hk4.lay
        rw [show 65537 * (n + j) + 65537 = 65537 * (n + (j + 1)) by omega,show n + j + 1 = n + (j + 1) by omega] at h9
        exact h9
       obtain ⟨_,_,g2,g3⟩ := box2 hk4.m
       clear hk4 m0 m1 a0 a1 a2 a3 a4 a5 a6 a7
       have hkb := HL.out.2
       go_wp2_with fail
       go_roundw
       case rel => exact ⟨j + 1,_,p4,n4,c4,by omega,by go_num,HK4⟩
       case measure => simp [intOf]; omega
     ·by_cases h5:x0 = 5
      ·subst h5
       by_cases hs:st < x6
       ·clear CD
        have HK4:Hid (K2 w wz w1.heap.size he (w.heap.size + 1) st (runM 64 A) M (65537 * (n + (j + 1))) (n + (j + 1)) (.slice p2 n2 c2) (.slice p2 n2 c2) (.slice (some ⟨gw,0,none⟩) 64 cw) (.slice (some ⟨gt,0,none⟩) 64 ct) xs) := HA.out.1.mono (by omega) (by omega)
        have hkb := HL.out.2
        go_wp2_with fail
        go_roundw
        case rel => exact ⟨j + 1,_,p2,n2,c2,by omega,by go_num,HK4⟩
        case measure => simp [intOf]; omega
       ·have hs2:x6 ≤ st := by omega
        obtain ⟨m0,m1,_,_⟩ := box2 HA.out.1.m
        go_wp2_with fail
        refine (CD.out (by intro; omega) (by intro; omega)).mono ?_
        rintro e w4 ⟨v2,rfl,hk4⟩
        obtain ⟨p4,n4,c4,e4⟩:∃ p4 n4 c4,v2 = .slice p4 n4 c4 := by obtain ⟨p4,c4,e4,_⟩ := hk4.ps.doc.len; exact ⟨p4,_,c4,e4⟩
        subst e4
        have HK4:Hid (K2 w ((w4.setCell ⟨w1.heap.size,0,none⟩ (.int .i64 64)).setCell ⟨w1.heap.size,1,none⟩ (.slice p4 n4 c4)) w1.heap.size he (w.heap.size + 1) st (runM 64 A) (stM 64 ⟨5,x1,x2,⟨x3,x4,vr⟩,x6,x7⟩ M) (65537 * (n + (j + 1))) (n + (j + 1)) (.slice p4 n4 c4) (.slice p4 n4 c4) (.slice (some ⟨gw,0,none⟩) 64 cw) (.slice (some ⟨gt,0,none⟩) 64 ct) xs) := by
         have h9 := hk4.lay
         rw [show 65537 * (n + j) + 65537 = 65537 * (n + (j + 1)) by omega,show n + j + 1 = n + (j + 1) by omega] at h9
         exact h9
        obtain ⟨_,_,g2,g3⟩ := box2 hk4.m
        clear hk4 m0 m1 a0 a1 a2 a3 a4 a5 a6 a7
        have hkb := HL.out.2
        go_wp2_with fail
        go_roundw
        case rel => exact ⟨j + 1,_,p4,n4,c4,by omega,by go_num,HK4⟩
        case measure => simp [intOf]; omega
      ·obtain ⟨m0,m1,_,_⟩ := box2 HA.out.1.m
       go_wp2_with fail
       refine (CD.out (by intro; omega) (by intro; omega)).mono ?_
       rintro e w4 ⟨v2,rfl,hk4⟩
       obtain ⟨p4,n4,c4,e4⟩:∃ p4 n4 c4,v2 = .slice p4 n4 c4 := by obtain ⟨p4,c4,e4,_⟩ := hk4.ps.doc.len; exact ⟨p4,_,c4,e4⟩
       subst e4
       have HK4:Hid (K2 w ((w4.setCell ⟨w1.heap.size,0,none⟩ (.int .i64 64)).setCell ⟨w1.heap.size,1,none⟩ (.slice p4 n4 c4)) w1.heap.size he (w.heap.size + 1) st (runM 64 A) (stM 64 ⟨x0,x1,x2,⟨x3,x4,vr⟩,x6,x7⟩ M) (65537 * (n + (j + 1))) (n + (j + 1)) (.slice p4 n4 c4) (.slice p4 n4 c4) (.slice (some ⟨gw,0,none⟩) 64 cw) (.slice (some ⟨gt,0,none⟩) 64 ct) xs) := by
        have h9 := hk4.lay
        rw [show 65537 * (n + j) + 65537 = 65537 * (n + (j + 1)) by omega,show n + j + 1 = n + (j + 1) by omega] at h9
        exact h9
       obtain ⟨_,_,g2,g3⟩ := box2 hk4.m
       clear hk4 m0 m1 a0 a1 a2 a3 a4 a5 a6 a7
       have hkb := HL.out.2
       go_wp2_with fail
       go_roundw
       case rel => exact ⟨j + 1,_,p4,n4,c4,by omega,by go_num,HK4⟩
       case measure => simp [intOf]; omega
  ·have hj1:j < 64 := by omega
   have C3:Hid (Calls _ _ _ _ _) := readE_PS (HP1.out.1.on HK.out.bel) (by have h8 := HL.out; omega) (j:Int) st
   have hsz0 := HK.out.m.lt
   go_wp2_with fail
   refine C3.out.mono ?_
   rintro e w3 ⟨⟨p3,c3,rfl,ho3⟩,hb3⟩
   have HK3:Hid (K1 w1 w3 (.slice p1 n1 c1) (runM 64 A) st j j vw vt xs) := HK.out.on hb3
   have HR3:Hid (OwnV w3 (w1.heap.size + 1) (.slice p3 (eyL (runM 64 A) st (j:Int)).length c3) (eyL (runM 64 A) st (j:Int))) := ho3.base (by omega)
   have hsz:w1.heap.size + 1 ≤ w3.heap.size := HK3.out.m.lt
   clear C3 ho3 hb3 hsz0 HK
   generalize hnx:(eyL (runM 64 A) st (j:Int)).length = nx at *
   clear hnx
   go_upto_region 11 with (first | (at_builtin; go_loud (refine wpList_app1 w3 rfl (.tmp 45) (.tmp 47) 36 50 _ 1 24 rfl Tryz.underlying50 info_rv rfl (by decide) (w1.heap.size + 1) _ _ _ (by rfl) HK3.out.ow [.slice p3 nx c3] rfl (by simp [Value.oneCell']) _ rfl (by simp) (by omega) (by omega) hsz ?_); intro v6 w6 h6 h7 h8; refine later9x (HK3.out.appw HR3.out h6 h7 h8) ?_; clear h6 h7 h8; intro hk6))
   have HK6:Hid (K1 w1 w6 (.slice p1 n1 c1) (runM 64 A) st (j + 1) j v6 vt (xs ++ [.slice p3 nx c3])) := hk6
   have hsz6:w1.heap.size + 1 ≤ w6.heap.size := HK6.out.m.lt
   clear hk6 HK3 HR3 hsz
   go_upto_region 8 with (first | (at_builtin; go_loud (refine wpList_app1 w6 rfl (.tmp 49) (.tmp 51) 4 51 _ 1 1 rfl Tryz.underlying51 info_bo rfl (by decide) (w1.heap.size + 1) _ _ _ (by rfl) HK6.out.ot [.bool (eyB (runM 64 A) st (j:Int))] rfl (by simp [Value.oneCell']) _ rfl (by simp) (by omega) (by omega) hsz6 ?_); intro v8 w8 h6 h7 h8; refine later9x (HK6.out.appt h6 h7 h8) ?_; clear h6 h7 h8; intro hk8))
   have HK8:Hid (K1 w1 w8 (.slice p1 n1 c1) (runM 64 A) st (j + 1) (j + 1) v6 v8 (xs ++ [.slice p3 nx c3])) := hk8
   clear hk8 HK6 hsz6
   go_wp2_with fail
   go_roundw
   case rel => exact ⟨j + 1,_,_,_,by omega,rfl,rfl,by go_num,HK8⟩
   case measure => simp [intOf]; omega

end Go.Proofs.YtcibcfghkidncaaGreatDoor
