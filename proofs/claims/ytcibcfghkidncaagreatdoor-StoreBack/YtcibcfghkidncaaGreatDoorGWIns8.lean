/- The walks of Install, on both sides. The walks of See, on both sides. Plain mathematics: what Prune leaves. The walks of above and below. -/
import Derived.Test.YtcibcfghkidncaaGreatDoorGFChn8
import Derived.Test.YtcibcfghkidncaaGreatDoorGWSam8
namespace Go.Proofs.YtcibcfghkidncaaGreatDoor
open Go.RowKit
set_option maxRecDepth 100000

def insE (L:List Rw) (v:Rw):Int := if mayL L && mayL [v] then (match L with | [] => 0 | u :: _ => if v.n ≤ u.n then 81 else 0) else 80
def insL (L:List Rw) (v:Rw):List Rw := if insE L v = 0 then v :: L else []
theorem insE_bad {L:List Rw} {v:Rw} (h:(mayL L && mayL [v]) = false):insE L v = 80 ∧ insL L v = [] := by
 have e:insE L v = 80 := by unfold insE; rw [h]; rfl
 exact ⟨e,by unfold insL; rw [e]; rfl⟩
theorem insE_old {L:List Rw} {v:Rw} (h:(mayL L && mayL [v]) = true) (hl:0 < L.length) (h2:v.n ≤ L[0].n):insE L v = 81 ∧ insL L v = [] := by
 cases L with
 | nil => simp at hl
 | cons u l =>
  have e:insE (u :: l) v = 81 := by unfold insE; rw [h]; exact if_pos h2
  exact ⟨e,by unfold insL; rw [e]; rfl⟩
theorem insE_ok {L:List Rw} {v:Rw} (h:(mayL L && mayL [v]) = true) (h2:∀ hl:0 < L.length,L[0].n < v.n):insE L v = 0 ∧ insL L v = v :: L := by
 have e:insE L v = 0 := by
  unfold insE
  rw [h]
  cases L with
  | nil => rfl
  | cons u l =>
   have := h2 (by simp)
   simp only [List.getElem_cons_zero] at this
   show (if v.n ≤ u.n then (81:Int) else 0) = 0
   exact if_neg (by omega)
 exact ⟨e,by unfold insL; rw [e]; rfl⟩
theorem one_rd {w:World} {b:Nat} {n:Int} {g:Bool} {q:Option Addr} {l c:Nat} {row:List Vl} (hx:Box w b #[.int .u64 n,.bool g,.slice q l c] 81) (hl:row.length = l) (hr:SlV w w.heap.size (.slice q l c) row):RdR .u64 w w.heap.size (some ⟨b,0,none⟩) [⟨n,g,row⟩] := by
 intro i hi
 obtain rfl:i = 0 := by simpa using hi
 obtain ⟨q',c',e,hr1,hr2⟩ := hr
 injection e with e1 e2 e3
 subst e1 e3 hl
 obtain ⟨⟨x0,x1,x2⟩,_⟩ := box3 hx
 exact ⟨b,0,q,c,rfl,hx.lt,x0,x1,x2,hr1,hr2⟩

end Go.Proofs.YtcibcfghkidncaaGreatDoor

namespace Go.Proofs.YtcibcfghkidncaaGreatDoor
open Go.RowKit
set_option maxRecDepth 100000

def seeR (L W:List Rw) (tx txn s:Int):Option Rw := if 0 < txn ∧ txn = tx ∧ 0 < W.length then W[W.length - 1]? else L[atN L s]?
def shwB:Option Rw → Bool
 | none => false
 | some r => !r.gn
def shwL:Option Rw → List Vl
 | none => []
 | some r => if r.gn then [] else r.row
def goneOk (W:List Rw):Prop := ∀ i (hi:i < W.length),W[i].gn = true → W[i].row = []

set_option maxHeartbeats 2000000 in
theorem present_any (g:Bool) (L:List Vl) (v:Value) (w:World) (hR:SlV w w.heap.size v L) (hlen:L.length ≤ 3518437208882) :
  Calls Tryz.prog 110 #[.bool g,v] w fun e w' => (∃ v',e = .returned (.tuple #[v',.bool (!g)]) ∧ OwnV w' w.heap.size v' (if g then [] else L)) ∧ Below w.heap.size w w' := by
 have C1:Hid (Calls _ _ _ _ _) := ownRow_any L v w hR hlen
 clear hR
 cases g
 ·go_enter Tryz.func110,Tryz.ntmps110
  go_wp2_with fail
  refine C1.out.mono ?_
  rintro e w1 ⟨⟨v',rfl,ho⟩,hb1⟩
  go_wp2_with fail
  go_ret2
  exact ⟨⟨_,rfl,ho⟩,hb1⟩
 ·go_enter Tryz.func110,Tryz.ntmps110
  go_wp2_with fail
  go_ret2
  exact ⟨⟨_,rfl,OwnV.nil _ _⟩,Below.refl _ _⟩

theorem at_neg {L:List Rw} {s:Int} (h:¬ atN L s < L.length):atI L s = -1 ∧ L[atN L s]? = none := ⟨if_neg h,List.getElem?_eq_none (by omega)⟩
theorem at_pos {L:List Rw} {s:Int} (h:atN L s < L.length):atI L s = (atN L s:Int) ∧ L[atN L s]? = some L[atN L s] := ⟨if_pos h,List.getElem?_eq_getElem h⟩

set_option maxHeartbeats 4000000 in
theorem see_any (L W:List Rw) (p pi:Option Addr) (c ci:Nat) (tx txn s:Int) (w:World) (hR:RdR .u64 w w.heap.size p L) (hW:RdR .i64 w w.heap.size pi W) (hlen:L.length ≤ 3518437208882) (hlenW:W.length ≤ 3518437208882) (hsh:shortR L) (hsW:shortR W) :
  Calls Tryz.prog 83 #[.slice p L.length c,.agg #[.int .i64 tx,.slice pi W.length ci],.int .i64 txn,.int .u64 s] w fun e w' => (∃ v',e = .returned (.tuple #[v',.bool (shwB (seeR L W tx txn s))]) ∧ OwnV w' w.heap.size v' (shwL (seeR L W tx txn s))) ∧ Below w.heap.size w w' := by
 have HR:Hid (∀ w1,Below w.heap.size w w1 → RdR .u64 w1 w1.heap.size p L) := fun w1 h => hR.on h
 have HW:Hid (∀ w1,Below w.heap.size w w1 → RdR .i64 w1 w1.heap.size pi W) := fun w1 h => hW.on h
 have HS:Hid (shortR L ∧ shortR W) := ⟨hsh,hsW⟩
 have HA:Hid (∀ w1,Below w.heap.size w w1 → Calls Tryz.prog 111 #[.slice p L.length c,.int .u64 s] w1 fun e w' => e = .returned (.int .i64 (atI L s)) ∧ Below w1.heap.size w1 w') := fun w1 h => at_any L p c s w1 (HR.out w1 h) (by omega)
 clear hR hW hsh hsW
 by_cases hc:0 < txn ∧ txn = tx ∧ 0 < W.length
 ·have e1:seeR L W tx txn s = W[W.length - 1]? := if_pos hc
  rw [e1,List.getElem?_eq_getElem (by omega)]
  obtain ⟨h1,rfl,h3⟩ := hc
  clear e1 HR HA
  obtain ⟨m,hm⟩:∃ m,W.length = m + 1 := ⟨W.length - 1,by omega⟩
  obtain ⟨b,o,q,d,hpi,hbB,c0,c1,c2,hr,hq⟩ := HW.out w (Below.refl _ _) m (by omega)
  have HSl:Hid (SlV w w.heap.size (.slice q W[m].row.length d) W[m].row ∧ W[m].row.length ≤ 3518437208882) := ⟨⟨q,d,rfl,hr,hq⟩,HS.out.2 m (by omega)⟩
  have HC:Hid (∀ w1:World,Below w.heap.size w w1 → Calls Tryz.prog 110 #[.bool W[m].gn,.slice q W[m].row.length d] w1 fun e w' => (∃ v',e = .returned (.tuple #[v',.bool (!W[m].gn)]) ∧ OwnV w' w1.heap.size v' (if W[m].gn then [] else W[m].row)) ∧ Below w1.heap.size w1 w') := fun w1 h => present_any _ _ _ w1 ((HSl.out.1.keep h).mono h.size) HSl.out.2
  clear HSl
  have e2:W[W.length - 1] = W[m] := by congr 1; omega
  rw [e2]
  have HF:Hid (shwB (some W[m]) = !W[m].gn ∧ shwL (some W[m]) = if W[m].gn then [] else W[m].row) := ⟨rfl,rfl⟩
  generalize shwB (some W[m]) = rb at *
  generalize shwL (some W[m]) = rl at *
  clear e2 HW hr hq
  rw [hm,hpi]
  clear hpi
  generalize W[m].n = xn at *
  generalize W[m].gn = xg at *
  generalize W[m].row.length = xl at *
  go_enter Tryz.func83,Tryz.ntmps83
  go_wp2_with fail
  have hb1:Below w.heap.size w ((w.alloc (.cells #[.int .i64 txn,.slice (some ⟨b,o,none⟩) (m + 1) ci] 75)).alloc (.cells #[.int .i64 xn,.bool xg,.slice q xl d] 38)) := by go_grown
  refine (HC.out _ hb1).mono ?_
  rintro e w3 ⟨⟨v',rfl,ho⟩,hb3⟩
  have HB3:Hid (Below w.heap.size w w3) := hb1.trans (hb3.mono hb1.size)
  have HO:Hid (OwnV w3 w.heap.size v' rl) := by
   show OwnV _ _ _ _
   rw [HF.out.2]
   exact ho.base hb1.size
  have HF1:Hid (rb = !xg) := HF.out.1
  clear hb1 hb3 ho HF
  go_wp2_with fail
  go_ret2
  exact ⟨⟨v',by rw [HF1.out]; rfl,HO.out⟩,HB3.out⟩
 ·have e1:seeR L W tx txn s = L[atN L s]? := if_neg hc
  rw [e1]
  have hcs:txn ≤ 0 ∨ (0 < txn ∧ (txn == tx) = false) ∨ (0 < txn ∧ txn = tx ∧ W.length = 0) := by
   by_cases h1:0 < txn
   ·by_cases h2:txn = tx
    ·exact Or.inr (Or.inr ⟨h1,h2,by omega⟩)
    ·exact Or.inr (Or.inl ⟨h1,beq_eq_false_iff_ne.2 h2⟩)
   ·exact Or.inl (by omega)
  clear hc e1 HW
  by_cases hat:atN L s < L.length
  ·obtain ⟨e2,e3⟩ := at_pos hat
   rw [e3]
   rw [e2] at HA
   obtain ⟨b,o,q,d,hp,hbB,c0,c1,c2,hr,hq⟩ := HR.out w (Below.refl _ _) _ hat
   have HSl:Hid (SlV w w.heap.size (.slice q L[atN L s].row.length d) L[atN L s].row ∧ L[atN L s].row.length ≤ 3518437208882) := ⟨⟨q,d,rfl,hr,hq⟩,HS.out.1 _ hat⟩
   have HC:Hid (∀ w1:World,Below w.heap.size w w1 → Calls Tryz.prog 110 #[.bool L[atN L s].gn,.slice q L[atN L s].row.length d] w1 fun e w' => (∃ v',e = .returned (.tuple #[v',.bool (!L[atN L s].gn)]) ∧ OwnV w' w1.heap.size v' (if L[atN L s].gn then [] else L[atN L s].row)) ∧ Below w1.heap.size w1 w') := fun w1 h => present_any _ _ _ w1 ((HSl.out.1.keep h).mono h.size) HSl.out.2
   clear HSl
   have HF:Hid (shwB (some L[atN L s]) = !L[atN L s].gn ∧ shwL (some L[atN L s]) = if L[atN L s].gn then [] else L[atN L s].row) := ⟨rfl,rfl⟩
   generalize shwB (some L[atN L s]) = rb at *
   generalize shwL (some L[atN L s]) = rl at *
   clear e2 e3 HR hr hq
   subst hp
   generalize L[atN L s].n = xn at *
   generalize L[atN L s].gn = xg at *
   generalize L[atN L s].row.length = xl at *
   generalize atN L s = m at *
   rcases hcs with h1 | ⟨h1,h2⟩ | ⟨h1,rfl,h3⟩
   all_goals
    try rw [h3]
    go_enter Tryz.func83,Tryz.ntmps83
    go_wp2_with fail
    refine (HA.out _ (by go_grown)).mono ?_
    rintro e w2 ⟨rfl,hb2⟩
    have hB2:Below w.heap.size w w2 := (show Below w.heap.size w _ by go_grown).trans (hb2.mono (by simp))
    have a0 := (hB2.cell (p := ⟨b,o + m * 3,none⟩) hbB).trans c0
    have a1 := (hB2.cell (p := ⟨b,o + m * 3 + 1,none⟩) hbB).trans c1
    have a2 := (hB2.cell (p := ⟨b,o + m * 3 + 2,none⟩) hbB).trans c2
    have HB2:Hid (Below w.heap.size w w2.drew) := hB2.drew
    have CP:Hid (Calls Tryz.prog 110 #[.bool xg,.slice q xl d] w2.drew fun e w' => (∃ v',e = .returned (.tuple #[v',.bool (!xg)]) ∧ OwnV w' w2.drew.heap.size v' (if xg then [] else L[m].row)) ∧ Below w2.drew.heap.size w2.drew w') := HC.out _ HB2.out
    clear hb2 c0 c1 c2 hB2
    go_wp2_with fail
    go_region_with (first | (go_at_call 110; refine CP.out.mono ?_; rintro e w3 ⟨⟨v',rfl,ho⟩,hb3⟩))
    all_goals (try go_wp2)
    all_goals go_ret2
    all_goals exact ⟨⟨v',by rw [HF.out.1]; rfl,by rw [HF.out.2]; exact ho.base HB2.out.size⟩,HB2.out.trans (hb3.mono HB2.out.size)⟩
  ·obtain ⟨e2,e3⟩ := at_neg hat
   rw [e3]
   rw [e2] at HA
   clear e2 e3 HR
   rcases hcs with h1 | ⟨h1,h2⟩ | ⟨h1,rfl,h3⟩
   all_goals
    try rw [h3]
    go_enter Tryz.func83,Tryz.ntmps83
    go_wp2_with fail
    refine (HA.out _ (by go_grown)).mono ?_
    rintro e w2 ⟨rfl,hb2⟩
    have HB2:Hid (Below w.heap.size w w2) := (show Below w.heap.size w _ by go_grown).trans (hb2.mono (by simp))
    clear hb2
    go_wp2_with fail
    go_ret2
    exact ⟨⟨_,rfl,OwnV.nil _ _⟩,HB2.out⟩

end Go.Proofs.YtcibcfghkidncaaGreatDoor

namespace Go.Proofs.YtcibcfghkidncaaGreatDoor

def okR (r:Rw):Bool := !(decide (r.n < (1:Int))) && !(decide ((4611686018427387904:Int) < r.n)) && !(r.gn && decide (0 < r.row.length))
theorem okAt_okR {L:List Rw} {i:Nat} (hi:i < L.length) (h:okAt L i = true):okR L[i] = true := by
 cases i with
 | zero => rw [okAt_zero hi] at h; exact h
 | succ i =>
  rw [okAt_succ hi] at h
  rw [Bool.and_eq_true] at h
  exact h.1
theorem mayL_iff {L:List Rw}:mayL L = true ↔ (∀ r ∈ L,okR r = true) ∧ L.Pairwise (fun u v => v.n < u.n) := by
 constructor
 ·intro h
  refine ⟨fun r hr => ?_,?_⟩
  ·obtain ⟨i,hi,rfl⟩ := List.getElem_of_mem hr
   exact okAt_okR hi (mayL_at h hi)
  ·rw [List.pairwise_iff_getElem]
   have step:∀ i (hi:i + 1 < L.length),L[i + 1].n < (L[i]'(by omega)).n := fun i hi => by
    have := mayL_at h hi
    rw [okAt_succ hi,Bool.and_eq_true] at this
    exact of_decide_eq_true this.2
   intro i j hi hj hij
   obtain ⟨d,rfl⟩:∃ d,j = i + 1 + d := ⟨j - (i + 1),by omega⟩
   induction d with
   | zero => exact step i hj
   | succ d ih => exact Int.lt_trans (step (i + 1 + d) hj) (ih (by omega) (by omega))
 ·rintro ⟨h1,h2⟩
  rw [List.pairwise_iff_getElem] at h2
  refine mayL_true fun i hi => ?_
  cases i with
  | zero => rw [okAt_zero hi]; exact h1 _ (List.getElem_mem hi)
  | succ i =>
   rw [okAt_succ hi,Bool.and_eq_true]
   exact ⟨h1 _ (List.getElem_mem hi),decide_eq_true (h2 i (i + 1) (by omega) hi (by omega))⟩
theorem mayL_sub {L M:List Rw} (h:mayL L = true) (hs:M.Sublist L):mayL M = true := by
 rw [mayL_iff] at h ⊢
 exact ⟨fun r hr => h.1 r (hs.subset hr),h.2.sublist hs⟩

def prD (s:Int):List Rw → List Rw
 | [] => []
 | v :: l => if s < v.n then v :: prD s l else if v.gn then [] else [v]
theorem prD_sub (s:Int):∀ L:List Rw,(prD s L).Sublist L
 | [] => List.Sublist.refl _
 | v :: l => by
  unfold prD
  split
  ·exact (prD_sub s l).cons_cons v
  ·split
   ·exact List.nil_sublist _
   ·exact (List.nil_sublist l).cons_cons v
theorem zip_none {s:Int} {a:Nat}:∀ {l:List Rw} {k:Nat},(∀ r ∈ l,r.n ≤ s) → a < k → ((l.zipIdx k).filter (kpR s a)).map Prod.fst = []
 | [],_,_,_ => rfl
 | v :: l,k,h,hk => by
  have h1:kpR s a (v,k) = false := by
   have := h v (by simp)
   simp only [kpR,Bool.or_eq_false_iff,decide_eq_false_iff_not,Bool.and_eq_false_iff,beq_eq_false_iff_ne]
   exact ⟨by omega,Or.inl (by omega)⟩
  rw [List.zipIdx_cons,List.filter_cons,h1]
  exact zip_none (fun r hr => h r (by simp [hr])) (by omega)
theorem zip_prD {s:Int}:∀ {l:List Rw} {k:Nat},l.Pairwise (fun u v => v.n < u.n) → ((l.zipIdx k).filter (kpR s (k + atN l s))).map Prod.fst = prD s l
 | [],_,_ => rfl
 | v :: l,k,h => by
  rw [List.pairwise_cons] at h
  by_cases hv:s < v.n
  ·have ea:atN (v :: l) s = atN l s + 1 := by
    unfold atN
    rw [List.findIdx_cons,decide_eq_false (by omega)]
    rfl
   have hk:kpR s (k + atN (v :: l) s) (v,k) = true := by simp [kpR,hv]
   rw [List.zipIdx_cons,List.filter_cons,hk,prD,if_pos hv,ea,show k + (atN l s + 1) = k + 1 + atN l s by omega]
   simp only [if_true,List.map_cons]
   rw [zip_prD h.2]
  ·have ea:atN (v :: l) s = 0 := by
    unfold atN
    rw [List.findIdx_cons,decide_eq_true (by omega)]
    rfl
   have hk:kpR s k (v,k) = !v.gn := by simp [kpR,hv]
   rw [List.zipIdx_cons,List.filter_cons,ea,Nat.add_zero,hk,prD,if_neg hv]
   have h0 := zip_none (s := s) (a := k) (l := l) (k := k + 1) (fun r hr => by have := h.1 r hr; omega) (by omega)
   cases v.gn with
   | true => simpa using h0
   | false => simp only [Bool.not_false,if_true,List.map_cons,h0]; rfl
theorem prn_prD {L:List Rw} (h:mayL L = true) (s:Int):prnL L s = prD s L := by
 unfold prnL prnJ
 rw [List.take_length]
 have := zip_prD (s := s) (l := L) (k := 0) (mayL_iff.1 h).2
 rw [Nat.zero_add] at this
 exact this
theorem may_prn {L:List Rw} (h:mayL L = true) (s:Int):mayL (prnL L s) = true := by
 rw [prn_prD h]
 exact mayL_sub h (prD_sub s L)
theorem at_find (L:List Rw) (s:Int):L[atN L s]? = L.find? (fun v => decide (v.n ≤ s)) := by
 induction L with
 | nil => rfl
 | cons v l ih =>
  unfold atN at ih ⊢
  rw [List.findIdx_cons,List.find?_cons]
  cases h:decide (v.n ≤ s) with
  | true => rfl
  | false => simpa using ih
theorem seen_prD {s t:Int} (hst:s ≤ t):∀ L:List Rw,shwB ((prD s L).find? (fun v => decide (v.n ≤ t))) = shwB (L.find? (fun v => decide (v.n ≤ t))) ∧ shwL ((prD s L).find? (fun v => decide (v.n ≤ t))) = shwL (L.find? (fun v => decide (v.n ≤ t)))
 | [] => ⟨rfl,rfl⟩
 | v :: l => by
  by_cases hv:s < v.n
  ·rw [prD,if_pos hv,List.find?_cons,List.find?_cons]
   cases h:decide (v.n ≤ t) with
   | true => exact ⟨rfl,rfl⟩
   | false => exact seen_prD hst l
  ·rw [prD,if_neg hv,List.find?_cons,decide_eq_true (show v.n ≤ t by omega)]
   cases hg:v.gn with
   | true => simp [shwB,shwL,hg]
   | false =>
    have:decide (v.n ≤ t) = true := decide_eq_true (by omega)
    simp [this]
theorem seen_prn {L:List Rw} (h:mayL L = true) {s t:Int} (hst:s ≤ t):shwB (seeR (prnL L s) [] 0 0 t) = shwB (seeR L [] 0 0 t) ∧ shwL (seeR (prnL L s) [] 0 0 t) = shwL (seeR L [] 0 0 t) := by
 have e:∀ M:List Rw,seeR M [] 0 0 t = M.find? (fun v => decide (v.n ≤ t)) := fun M => by
  rw [← at_find]
  exact if_neg (by simp)
 rw [e,e,prn_prD h]
 exact seen_prD hst L

end Go.Proofs.YtcibcfghkidncaaGreatDoor

namespace Go.Proofs.YtcibcfghkidncaaGreatDoor
open Go.RowKit
set_option maxRecDepth 100000

set_option maxHeartbeats 2000000 in
theorem above_any (L:List Rw) (p:Option Addr) (c:Nat) (s:Int) (w:World) (hR:RdR .i64 w w.heap.size p L) (hlen:L.length ≤ 17592186043904) :
  Calls Tryz.prog 92 #[.slice p L.length c,.int .i64 s] w fun e w' => e = .returned (.bool (abvL L s)) ∧ Below w.heap.size w w' := by
 have HR:Hid (RdR _ _ _ _ _) := hR
 clear hR
 have HN:Hid ((∀ i (hi:i < L.length),L[i].n ≤ s) → abvL L s = false) := abv_false
 have HP:Hid (∀ j (hj:j < L.length),s < L[j].n → abvL L s = true) := fun j hj h1 => abv_true hj h1
 generalize abvL L s = r at *
 go_enter Tryz.func92,Tryz.ntmps92
 go_wp2_with fail
 go_loopw [9] (fun i wr => ∃ j:Nat,j ≤ L.length ∧ i = .int .i64 (j:Int) ∧ Hid (∀ i (hi:i < L.length),i < j → L[i].n ≤ s) ∧ Below w.heap.size w wr) (fun i _ => L.length - (intOf i).toNat)
 case atStart => exact ⟨0,Nat.zero_le _,by go_num,fun i hi h => absurd h (by omega),Below.refl _ _⟩
 case round =>
  obtain ⟨j,hj,rfl,hs,hn⟩ := hrel
  by_cases hj0:j = L.length
  ·subst hj0
   have HE := HN.out fun i hi => hs.out i hi hi
   go_wp2
   go_ret
   exact ⟨boolV HE.symm,hn⟩
  ·have hj1:j < L.length := by omega
   obtain ⟨b,o,q,d,rfl,hbB,c0,c1,c2,_⟩ := HR.out j hj1
   have a0 := (hn.cell (p := ⟨b,o + j * 3,none⟩) hbB).trans c0
   have a1 := (hn.cell (p := ⟨b,o + j * 3 + 1,none⟩) hbB).trans c1
   have a2 := (hn.cell (p := ⟨b,o + j * 3 + 2,none⟩) hbB).trans c2
   have HE:Hid (s < L[j].n → r = true) := HP.out j hj1
   have HS:Hid (L[j].n ≤ s → ∀ i (hi:i < L.length),i < j + 1 → L[i].n ≤ s) := fun h i hi hi2 => by
    rcases Nat.lt_succ_iff_lt_or_eq.1 hi2 with h3 | rfl
    ·exact hs.out i hi h3
    ·exact h
   clear c0 c1 c2 hj0 hs
   generalize L[j].n = xn at *
   generalize L[j].gn = xg at *
   generalize L[j].row.length = xl at *
   by_cases hx:s < xn
   ·have he := HE.out hx
    go_wp2
    go_ret
    have hsz := hn.size
    exact ⟨boolV he.symm,by go_grown⟩
   ·have hx':xn ≤ s := by omega
    clear hx
    go_wp2
    go_roundw
    case rel => have hsz := hn.size; exact ⟨j + 1,by omega,by go_num,HS.out hx',by go_grown⟩
    case measure => simp [intOf]; omega

theorem bel_yes {L:List Rw} {s:Int} {j:Nat} {Z:List (Rw × Value)} (hj:j < L.length) (h:L[j].n < s) (v:Value) (hZ:Z.map Prod.fst = belL (L.take j) s):(Z ++ [(L[j],v)]).map Prod.fst = belL (L.take (j + 1)) s := by
 rw [bel_take hj,if_pos h,List.map_append,hZ]
 rfl
theorem bel_no {L:List Rw} {s:Int} {j:Nat} {Z:List (Rw × Value)} (hj:j < L.length) (h:¬ L[j].n < s) (hZ:Z.map Prod.fst = belL (L.take j) s):Z.map Prod.fst = belL (L.take (j + 1)) s := by
 rw [bel_take hj,if_neg h,hZ]
 simp

set_option maxHeartbeats 4000000 in
theorem below_any (L:List Rw) (p:Option Addr) (c:Nat) (s:Int) (w:World) (hR:RdR .i64 w w.heap.size p L) (hlen:L.length ≤ 3518437208882) (hsh:shortR L) :
  Calls Tryz.prog 121 #[.slice p L.length c,.int .i64 s] w fun e w' => (∃ v Z,e = .returned v ∧ Z.map Prod.fst = belL L s ∧ OwnRs .i64 38 w' w.heap.size v Z) ∧ Below w.heap.size w w' := by
 have HR:Hid (RdR _ _ _ _ _) := hR
 have HS:Hid (shortR L) := hsh
 clear hR hsh
 go_enter Tryz.func121,Tryz.ntmps121
 go_wp2_with fail
 go_loopw [5,10] (fun v i wr => ∃ (j:Nat) (Z:List (Rw × Value)),j ≤ L.length ∧ i = .int .i64 (j:Int) ∧ Hid (Z.map Prod.fst = belL (L.take j) s) ∧ Hid (OwnRs .i64 38 wr w.heap.size v Z) ∧ Below w.heap.size w wr) (fun _ i _ => L.length - (intOf i).toNat)
 case atStart => exact ⟨0,[],Nat.zero_le _,by go_num,rfl,OwnRs.nil _ _ _ _,Below.refl _ _⟩
 case round =>
  obtain ⟨j,Z,hj,rfl,hZ,hO,hn⟩ := hrel
  have hZl:Z.length ≤ j := by
   have := congrArg List.length hZ.out
   rw [List.length_map] at this
   rw [this]
   exact bel_len _ _ _
  by_cases hj0:j = L.length
  ·subst hj0
   have HZ2:Hid (Z.map Prod.fst = belL L s) := hZ.out.trans (bel_all L s)
   obtain ⟨pv,cv,rfl,_⟩ := owns_len hO.out.1
   go_wp2
   go_ret
   exact ⟨⟨_,Z,rfl,HZ2.out,hO.out⟩,hn⟩
  ·have hj1:j < L.length := by omega
   obtain ⟨b,o,q,d,rfl,hbB,c0,c1,c2,hr,hq⟩ := HR.out j hj1
   have a0 := (hn.cell (p := ⟨b,o + j * 3,none⟩) hbB).trans c0
   have a1 := (hn.cell (p := ⟨b,o + j * 3 + 1,none⟩) hbB).trans c1
   have a2 := (hn.cell (p := ⟨b,o + j * 3 + 2,none⟩) hbB).trans c2
   have HSl:Hid (SlV w w.heap.size (.slice q L[j].row.length d) L[j].row) := ⟨q,d,rfl,hr,hq⟩
   have hshj := HS.out j hj1
   have HY:Hid (L[j].n < s → ∀ v,(Z ++ [(L[j],v)]).map Prod.fst = belL (L.take (j + 1)) s) := fun h v => bel_yes hj1 h v hZ.out
   have HNo:Hid (¬ L[j].n < s → Z.map Prod.fst = belL (L.take (j + 1)) s) := fun h => bel_no hj1 h hZ.out
   have CV:Hid (∀ w1:World,Below w.heap.size w w1 → Calls Tryz.prog 133 #[.agg #[.int .i64 L[j].n,.bool L[j].gn,.slice q L[j].row.length d]] w1 fun e w' => (∃ v',e = .returned (.agg #[.int .i64 L[j].n,.bool L[j].gn,v']) ∧ OwnV w' w1.heap.size v' L[j].row) ∧ Below w1.heap.size w1 w') := fun w1 h => ownWrite_any _ _ _ _ w1 ((HSl.out.keep h).mono h.size) hshj
   have HX:Hid (∀ v,rcell .i64 (L[j],v) = [.int .i64 L[j].n,.bool L[j].gn,v]) := fun v => rfl
   clear c0 c1 c2 hj0 hr hshj hZ
   generalize L[j].n = xn at *
   generalize L[j].gn = xg at *
   generalize L[j].row.length = xl at *
   by_cases hx:xn < s
   ·have HY2:Hid (∀ v,(Z ++ [(L[j],v)]).map Prod.fst = belL (L.take (j + 1)) s) := HY.out hx
    clear HY HNo
    go_wp2_with fail
    have hbx:Below w.heap.size w (wr.alloc (.cells #[.int .i64 xn,.bool xg,.slice q xl d] 38)) := by
     have hsz := hn.size
     go_grown
    refine (CV.out _ hbx).mono ?_
    rintro e w5 ⟨⟨v5,rfl,ho5⟩,hb5⟩
    have HB5:Hid (Below w.heap.size w w5) := hbx.trans (hb5.mono hbx.size)
    have HO5:Hid (OwnRs .i64 38 w5 w.heap.size u5 Z) := (hO.out.kept (w' := wr.alloc (.cells #[.int .i64 xn,.bool xg,.slice q xl d] 38)) (by go_grown)).kept hb5
    have HV5:Hid (OwnV w5 w.heap.size v5 L[j].row) := ho5.base hbx.size
    have hsz5 := HB5.out.size
    clear ho5 hb5 hbx hO
    obtain ⟨pv,cv,rfl,_⟩ := owns_len HO5.out.1
    have h1c := HV5.out.sl.one
    go_wp2_with (first | (at_builtin; go_loud (refine wpList_app1 w5 rfl (.tmp 18) (.tmp 21) 38 73 _ 3 40 rfl Tryz.underlying73 info_wri rfl (by decide) w.heap.size _ _ _ (by rfl) HO5.out.1 [.int .i64 xn,.bool xg,v5] rfl (by intro u hu; simp only [List.mem_cons,List.not_mem_nil,or_false] at hu; rcases hu with rfl | rfl | rfl; rfl; rfl; exact h1c) _ rfl (by simp) (by omega) (by omega) hsz5 ?_); intro v6 w6 h6 h7 h8))
    have H6:Hid (OwnRs .i64 38 w6 w.heap.size v6 (Z ++ [(L[j],v5)])) := HO5.out.app (z := (L[j],v5)) HV5.out (by decide) (by rw [HX.out]; exact h6) (by rw [HX.out]; exact h8)
    have HB6:Hid (Below w.heap.size w w6) := HB5.out.trans h7
    clear h6 h7 h8
    go_roundw
    case rel => exact ⟨j + 1,Z ++ [(L[j],v5)],hj1,by go_num,HY2.out v5,H6,HB6.out⟩
    case measure => simp [intOf]; omega
   ·have HN2:Hid (Z.map Prod.fst = belL (L.take (j + 1)) s) := HNo.out hx
    have hx':s ≤ xn := by omega
    clear HY HNo hx
    go_wp2_with fail
    go_roundw
    case rel => have hsz := hn.size; exact ⟨j + 1,Z,hj1,by go_num,HN2,hO.out.kept (by go_grown),by go_grown⟩
    case measure => simp [intOf]; omega

end Go.Proofs.YtcibcfghkidncaaGreatDoor
