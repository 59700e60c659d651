/- Copies: own of values, of versions, of writes. A goal that is found by the first way that comes to it. -/
import Derived.Laws.CopyRow
import Derived.OwnWalk
import Derived.Test.YtcibcfghkidncaaGreatDoorGWStt2
import Derived.Test.YtcibcfghkidncaaGreatDoorGWQuiet
import Derived.Test.YtcibcfghkidncaaGreatDoorGMAny9
namespace Go.Proofs.YtcibcfghkidncaaGreatDoor
open Go.RowKit
set_option maxRecDepth 100000

theorem wpList_cpy {P:Program} (w:World) {ops:Array Oper} {rest:List Oper} {o:Oper} {a:Act} {Q:Exit → Act → World → Prop} (hgd:o.guard = none) (d s:Operand) (t t':TypeId)
  (ho:o.op = .call { callee := .builtin .copy,args := #[d,s],argTypes := #[t,t'] }) (v u:Value) (hd:a.eval d = v) (hs:a.eval s = u) {v':Value} {w':World}
  (hr:(Builtin.copy_ #[t,t'] o.type #[v,u]).run P w = .ok v' w') (h:wpList P ops Q rest (a.put o.dst v') w'):wpList P ops Q (o :: rest) a w := by
 refine wpList_plain hgd fun K hK => ?_
 unfold Oper.wp execOp
 simp only [ho,resolve,invoke,builtin,Sem.run_bind,Sem.run_pure,Result.andThen_ok,List.map_toArray,List.map_cons,List.map_nil,hd,hs,hr]
 exact hK _ _ h
theorem run_copyN {P:Program} (w:World) (dT sT ty elem:TypeId) (g n cap c s:Nat) (a:Addr) (cur:Array Value) (t:TypeId) (cs:List Value)
  (hu:P.underlying dT = some (.slice elem)) (hs:(P.info? elem).map (·.size) = some s)
  (hg:w.heap[g]? = some (.cells cur t (0,0))) (hn:cs.length = n * s)
  (hsrc:∀ j v,cs[j]? = some v → w.cell? (a.add j) = some v) (hfit:cs.length = cur.size) (h1:∀ v ∈ cs,v.oneCell' = true) :
  (Builtin.copy_ #[dT,sT] ty #[.slice (some ⟨g,0,none⟩) n cap,.slice (some a) n c]).run P w = .ok (goInt n) (w.setRow g cs.toArray) := by
 have hl := run_loadCells_list (P := P) w a cs hsrc
 have hst := run_storeCells_at P g 0 t cs 0 cur w hg (by simp; omega) h1
 cases hq:P.info? elem with
 | none => simp [hq] at hs
 | some i =>
  have hi:i.size = s := by simpa [hq] using hs
  have e:(cur.toList.take (0 + 0) ++ cs ++ cur.toList.drop (0 + 0 + cs.length)) = cs := by
   rw [hfit]
   simp
  rw [e] at hst
  simp [Builtin.copy_,run_underlying hu,Builtin.lenOf,Builtin.firstCells,sizeOf,typeInfo,hq,hi,← hn,hl,hst]
theorem owns_of_row {w:World} {B e size n g:Nat} {cs:List Value} {cap:Nat} {cur:Array Value} (hg:w.heap[g]? = some (.cells cur e (0,0))) (hB:B ≤ g) (hl:cs.length = n * size) (hcap:cap = n) (hm:n ≤ maxLen) (_hc:cur.size = cap * size):(w.setRow g cs.toArray).ownsRow B e size (.slice (some ⟨g,0,none⟩) n cap) n cs := by
 subst hcap
 refine ⟨hl,.inr ⟨g,cap,cs.toArray,rfl,hB,setRow_heap w g cur _ e _ hg,Nat.le_refl _,hm,by simpa using hl,?_⟩⟩
 rw [← hl]
 simp

theorem copy_fact (w w1:World) (b o n c s:Nat) (dT T:TypeId) (xs:List Value) {ys:List Value} (hu:Tryz.prog.underlying dT = some (.slice T)) (hs:(Tryz.prog.info? T).map (·.size) = some s)
  (h2:w1.ownsRow w.heap.size T s (.slice (some ⟨w.heap.size,0,none⟩) n n) n ys) (hl:xs.length = n * s) (hb:b < w.heap.size) (hb1:Below w.heap.size w w1) (hc:∀ j v,xs[j]? = some v → w.cell? ((⟨b,o,none⟩:Addr).add j) = some v) (h1:∀ v ∈ xs,v.oneCell' = true) (hm:n ≤ maxLen) :
  (∀ ty,(Builtin.copy_ #[dT,dT] ty #[.slice (some ⟨w.heap.size,0,none⟩) n n,.slice (some ⟨b,o,none⟩) n c]).run Tryz.prog w1 = .ok (goInt n) (w1.setRow w.heap.size xs.toArray)) ∧ (w1.setRow w.heap.size xs.toArray).ownsRow w.heap.size T s (.slice (some ⟨w.heap.size,0,none⟩) n n) n xs := by
 rcases h2.2 with ⟨e,_⟩ | ⟨g,cap,cur,e,_,hg,_,_,hcs,_⟩
 ·cases e
 ·injection e with e1 _ e2
  injection e1 with e1
  injection e1 with e1
  subst e1 e2
  have hs1:∀ j v,xs[j]? = some v → w1.cell? ((⟨b,o,none⟩:Addr).add j) = some v := fun j v hj => by
   have := hc j v hj
   have ea:(⟨b,o,none⟩:Addr).add j = ⟨b,o + j,none⟩ := by unfold Addr.add; split <;> simp_all
   rw [ea] at this ⊢
   exact (hb1.cell (p := ⟨b,o + j,none⟩) hb).trans this
  exact ⟨fun ty => run_copyN w1 dT dT ty T w.heap.size n n c s ⟨b,o,none⟩ cur T xs hu hs hg hl hs1 (by rw [hl,hcs]) h1,owns_of_row hg (Nat.le_refl _) hl rfl hm hcs⟩
theorem below_setRow' {g:Nat} {w0 w:World} {cs:Array Value} (hb:Below g w0 w):Below g w0 (w.setRow g cs) :=
 hb.trans ⟨rfl,rfl,rfl,by simp [World.setRow],fun k hk => setRow_other w g k cs (by omega)⟩

set_option maxHeartbeats 2000000 in
theorem own_cells_val (p:Option Addr) (n c:Nat) (xs:List Value) (w:World) (hl:xs.length = n * 4) (h1:∀ v ∈ xs,v.oneCell' = true) (hR:n ≠ 0 → ∃ b o,p = some ⟨b,o,none⟩ ∧ b < w.heap.size ∧ ∀ j v,xs[j]? = some v → w.cell? ((⟨b,o,none⟩:Addr).add j) = some v) (hn:n ≤ 3518437208882) :
  Calls Tryz.prog 101 #[.slice p n c] w fun e w' => (∃ v',e = .returned v' ∧ w'.ownsRow w.heap.size 70 4 v' n xs) ∧ Below w.heap.size w w' := by
 obtain ⟨i,hi,hz0,hz1,hz2⟩ := info_parts info_val
 by_cases h0:n = 0
 ·subst h0
  have hx:xs = [] := List.eq_nil_of_length_eq_zero (by simpa using hl)
  subst hx
  go_enter Tryz.func101,Tryz.ntmps101
  go_wp2
  go_ret
  exact ⟨⟨_,rfl,World.ownsRow_nil _ _ _ _⟩,Below.refl _ _⟩
 ·obtain ⟨b,o,rfl,hb,hc⟩ := hR h0
  have HC:Hid _ := hc
  clear hR hc
  have hn0:((n:Int) == 0) = false := beq_eq_false_iff_ne.2 (by omega)
  go_enter Tryz.func101,Tryz.ntmps101
  go_wp2_with (first | (at_make; refine wpList_make_full _ rfl _ _ 36 rfl w.heap.size 70 i _ 4 Tryz.underlying36 hi hz0 hz1 _ _ _ _ n rfl rfl rfl rfl (by rw [hz2]; omega) (by unfold maxLen; omega) (Nat.le_refl _) ?_; intro w1 h2 h3; have hb1:Below w.heap.size w w1 := (Below.refl _ _).grown h3 (Nat.le_refl _) (fun k hk => by cases hk); have hrc := copy_fact w w1 b o n c 4 36 70 xs Tryz.underlying36 (by rw [hi]; exact congrArg some hz1) h2 hl hb hb1 HC.out h1 (by unfold maxLen; omega)) | (at_builtin; refine wpList_cpy _ rfl _ _ 36 36 rfl _ _ rfl rfl (hrc.1 _) ?_))
  go_ret
  exact ⟨⟨_,rfl,hrc.2⟩,below_setRow' hb1⟩

set_option maxHeartbeats 2000000 in
theorem own_cells_ver (p:Option Addr) (n c:Nat) (xs:List Value) (w:World) (hl:xs.length = n * 3) (h1:∀ v ∈ xs,v.oneCell' = true) (hR:n ≠ 0 → ∃ b o,p = some ⟨b,o,none⟩ ∧ b < w.heap.size ∧ ∀ j v,xs[j]? = some v → w.cell? ((⟨b,o,none⟩:Addr).add j) = some v) (hn:n ≤ 3518437208882) :
  Calls Tryz.prog 100 #[.slice p n c] w fun e w' => (∃ v',e = .returned v' ∧ w'.ownsRow w.heap.size 81 3 v' n xs) ∧ Below w.heap.size w w' := by
 obtain ⟨i,hi,hz0,hz1,hz2⟩ := info_parts info_ver
 by_cases h0:n = 0
 ·subst h0
  have hx:xs = [] := List.eq_nil_of_length_eq_zero (by simpa using hl)
  subst hx
  go_enter Tryz.func100,Tryz.ntmps100
  go_wp2
  go_ret
  exact ⟨⟨_,rfl,World.ownsRow_nil _ _ _ _⟩,Below.refl _ _⟩
 ·obtain ⟨b,o,rfl,hb,hc⟩ := hR h0
  have HC:Hid _ := hc
  clear hR hc
  have hn0:((n:Int) == 0) = false := beq_eq_false_iff_ne.2 (by omega)
  go_enter Tryz.func100,Tryz.ntmps100
  go_wp2_with (first | (at_make; refine wpList_make_full _ rfl _ _ 72 rfl w.heap.size 81 i _ 3 Tryz.underlying72 hi hz0 hz1 _ _ _ _ n rfl rfl rfl rfl (by rw [hz2]; omega) (by unfold maxLen; omega) (Nat.le_refl _) ?_; intro w1 h2 h3; have hb1:Below w.heap.size w w1 := (Below.refl _ _).grown h3 (Nat.le_refl _) (fun k hk => by cases hk); have hrc := copy_fact w w1 b o n c 3 72 81 xs Tryz.underlying72 (by rw [hi]; exact congrArg some hz1) h2 hl hb hb1 HC.out h1 (by unfold maxLen; omega)) | (at_builtin; refine wpList_cpy _ rfl _ _ 72 72 rfl _ _ rfl rfl (hrc.1 _) ?_))
  go_ret
  exact ⟨⟨_,rfl,hrc.2⟩,below_setRow' hb1⟩

set_option maxHeartbeats 2000000 in
theorem own_cells_wri (p:Option Addr) (n c:Nat) (xs:List Value) (w:World) (hl:xs.length = n * 3) (h1:∀ v ∈ xs,v.oneCell' = true) (hR:n ≠ 0 → ∃ b o,p = some ⟨b,o,none⟩ ∧ b < w.heap.size ∧ ∀ j v,xs[j]? = some v → w.cell? ((⟨b,o,none⟩:Addr).add j) = some v) (hn:n ≤ 3518437208882) :
  Calls Tryz.prog 102 #[.slice p n c] w fun e w' => (∃ v',e = .returned v' ∧ w'.ownsRow w.heap.size 38 3 v' n xs) ∧ Below w.heap.size w w' := by
 obtain ⟨i,hi,hz0,hz1,hz2⟩ := info_parts info_wri
 by_cases h0:n = 0
 ·subst h0
  have hx:xs = [] := List.eq_nil_of_length_eq_zero (by simpa using hl)
  subst hx
  go_enter Tryz.func102,Tryz.ntmps102
  go_wp2
  go_ret
  exact ⟨⟨_,rfl,World.ownsRow_nil _ _ _ _⟩,Below.refl _ _⟩
 ·obtain ⟨b,o,rfl,hb,hc⟩ := hR h0
  have HC:Hid _ := hc
  clear hR hc
  have hn0:((n:Int) == 0) = false := beq_eq_false_iff_ne.2 (by omega)
  go_enter Tryz.func102,Tryz.ntmps102
  go_wp2_with (first | (at_make; refine wpList_make_full _ rfl _ _ 73 rfl w.heap.size 38 i _ 3 Tryz.underlying73 hi hz0 hz1 _ _ _ _ n rfl rfl rfl rfl (by rw [hz2]; omega) (by unfold maxLen; omega) (Nat.le_refl _) ?_; intro w1 h2 h3; have hb1:Below w.heap.size w w1 := (Below.refl _ _).grown h3 (Nat.le_refl _) (fun k hk => by cases hk); have hrc := copy_fact w w1 b o n c 3 73 38 xs Tryz.underlying73 (by rw [hi]; exact congrArg some hz1) h2 hl hb hb1 HC.out h1 (by unfold maxLen; omega)) | (at_builtin; refine wpList_cpy _ rfl _ _ 73 73 rfl _ _ rfl rfl (hrc.1 _) ?_))
  go_ret
  exact ⟨⟨_,rfl,hrc.2⟩,below_setRow' hb1⟩

theorem SlV.cells {w:World} {q:Option Addr} {n c:Nat} {L:List Vl} (h:SlV w w.heap.size (.slice q n c) L):n = L.length ∧ (n ≠ 0 → ∃ b o,q = some ⟨b,o,none⟩ ∧ b < w.heap.size ∧ ∀ j v,(vcells L)[j]? = some v → w.cell? ((⟨b,o,none⟩:Addr).add j) = some v) := by
 obtain ⟨q',c',e,hr,hq⟩ := h
 injection e with e1 e2 e3
 subst e1 e2 e3
 refine ⟨rfl,fun h0 => ?_⟩
 obtain ⟨b,o,rfl,hb,_⟩ := hr 0 (by omega)
 exact ⟨b,o,rfl,hb,hr.cells⟩
theorem ownVal_any (L:List Vl) (q:Option Addr) (n c:Nat) (w:World) (hR:SlV w w.heap.size (.slice q n c) L) (hlen:L.length ≤ 3518437208882) :
  Calls Tryz.prog 101 #[.slice q n c] w fun e w' => (∃ v',e = .returned v' ∧ OwnV w' w.heap.size v' L) ∧ Below w.heap.size w w' := by
 obtain ⟨rfl,hc⟩ := hR.cells
 exact own_cells_val q L.length c (vcells L) w (vcells_len L) (vcells_one L) hc hlen

theorem rcells_l {k:IntKind} (Z:List (Rw × Value)):(Z.flatMap (rcell k)).length = Z.length * 3 := by
 induction Z with
 | nil => rfl
 | cons z Z ih => rw [List.flatMap_cons,List.length_append,ih]; simp [rcell]; omega
theorem RdR.zip {k:IntKind} {w:World} {p:Option Addr} {L:List Rw} (h:RdR k w w.heap.size p L):∃ Z:List (Rw × Value),Z.map Prod.fst = L ∧ (∀ z ∈ Z,SlV w w.heap.size z.2 z.1.row) ∧ (L.length ≠ 0 → ∃ b o,p = some ⟨b,o,none⟩ ∧ b < w.heap.size ∧ ∀ j v,(Z.flatMap (rcell k))[j]? = some v → w.cell? ((⟨b,o,none⟩:Addr).add j) = some v) := by
 have hex:∀ i:Fin L.length,∃ v,SlV w w.heap.size v L[i].row ∧ ∀ b o,p = some ⟨b,o,none⟩ → w.cell? ⟨b,o + i.1 * 3 + 2,none⟩ = some v := fun i => by
  obtain ⟨b,o,q,c,rfl,hb,c0,c1,c2,hr,hq⟩ := h i.1 i.2
  exact ⟨_,⟨q,c,rfl,hr,hq⟩,fun b' o' e => by injection e with e; injection e with e1 e2; subst e1 e2; exact c2⟩
 let f:Fin L.length → Value := fun i => Classical.choose (hex i)
 have hf:∀ i:Fin L.length,SlV w w.heap.size (f i) L[i].row ∧ ∀ b o,p = some ⟨b,o,none⟩ → w.cell? ⟨b,o + i.1 * 3 + 2,none⟩ = some (f i) := fun i => Classical.choose_spec (hex i)
 let Z:List (Rw × Value) := List.ofFn fun i:Fin L.length => (L[i],f i)
 have hZl:Z.length = L.length := by simp [Z]
 have hZi:∀ i (hi:i < L.length),Z[i]'(by omega) = (L[i],f ⟨i,hi⟩) := fun i hi => by simp [Z]
 refine ⟨Z,?_,?_,?_⟩
 ·apply List.ext_getElem (by simp [hZl])
  intro i h1 h2
  rw [List.getElem_map,hZi i h2]
 ·intro z hz
  obtain ⟨i,hi,rfl⟩ := List.getElem_of_mem hz
  rw [hZi i (by omega)]
  exact (hf ⟨i,by omega⟩).1
 ·intro h0
  obtain ⟨b,o,q,c,e,hb,_⟩ := h 0 (by omega)
  refine ⟨b,o,e,hb,fun j v hj => ?_⟩
  have hjl:j < Z.length * 3 := by
   have := (List.getElem?_eq_some_iff.1 hj).1
   rwa [rcells_l Z] at this
  have ea:(⟨b,o,none⟩:Addr).add j = ⟨b,o + j,none⟩ := by unfold Addr.add; split <;> simp_all
  have hi:j / 3 < L.length := by omega
  obtain ⟨b',o',q',c',e',_,c0,c1,c2,_⟩ := h (j / 3) hi
  rw [e] at e'
  injection e' with e'
  injection e' with e1 e2
  subst e1 e2
  have h2 := (hf ⟨j / 3,hi⟩).2 b o e
  have hat := flat_at 3 (rcell k) (fun _ => rfl) Z (j / 3) (by omega) (j % 3) (by omega)
  rw [show j / 3 * 3 + j % 3 = j by omega,hj,hZi _ hi] at hat
  rw [ea]
  have h3:j % 3 = 0 ∨ j % 3 = 1 ∨ j % 3 = 2 := by omega
  rcases h3 with e3 | e3 | e3
  ·rw [e3] at hat
   simp only [rcell,List.getElem?_cons_zero] at hat
   rw [show o + j = o + j / 3 * 3 by omega,c0,hat]
  ·rw [e3] at hat
   simp only [rcell,List.getElem?_cons_succ,List.getElem?_cons_zero] at hat
   rw [show o + j = o + j / 3 * 3 + 1 by omega,c1,hat]
  ·rw [e3] at hat
   simp only [rcell,List.getElem?_cons_succ,List.getElem?_cons_zero] at hat
   rw [show o + j = o + j / 3 * 3 + 2 by omega,h2,hat]
theorem rcells_one {k:IntKind} {w:World} {Z:List (Rw × Value)} (h:∀ z ∈ Z,SlV w w.heap.size z.2 z.1.row):∀ u ∈ Z.flatMap (rcell k),u.oneCell' = true := by
 intro u hu
 obtain ⟨z,hz,hu⟩ := List.mem_flatMap.1 hu
 exact rcell_one k z (h z hz).one u hu
theorem rcells_set2 {k:IntKind}:∀ (Z:List (Rw × Value)) (i:Nat) (hi:i < Z.length) (v:Value),(Z.flatMap (rcell k)).set (i * 3 + 2) v = (Z.set i (Z[i].1,v)).flatMap (rcell k)
 | [],i,hi,_ => by simp at hi
 | z :: Z,0,_,v => rfl
 | z :: Z,i + 1,hi,v => by
  have h := rcells_set2 (k := k) Z i (by simpa using hi) v
  rw [List.set_cons_succ,List.flatMap_cons,List.flatMap_cons,List.getElem_cons_succ,← h]
  rw [show (i + 1) * 3 + 2 = i * 3 + 2 + 3 by omega]
  rfl

structure MixV (w wr:World) (v:Value) (L:List Rw) (j:Nat) (Z:List (Rw × Value)):Prop where
 own:wr.ownsRow w.heap.size 81 3 v Z.length (Z.flatMap (rcell .u64))
 fst:Z.map Prod.fst = L
 fore:∀ i (hi:i < Z.length),i < j → OwnV wr w.heap.size Z[i].2 Z[i].1.row
 back:∀ i (hi:i < Z.length),j ≤ i → SlV w w.heap.size Z[i].2 Z[i].1.row
theorem MixV.step {w wr w6:World} {g n cap:Nat} {L:List Rw} {j:Nat} {Z:List (Rw × Value)} {u:Value} (h:MixV w wr (.slice (some ⟨g,0,none⟩) n cap) L j Z) (hj:j < Z.length) (hn:Z.length = n) (hb:Below wr.heap.size wr w6) (hu:OwnV w6 wr.heap.size u (Z[j]'hj).1.row) (hs:w.heap.size ≤ wr.heap.size) :
  MixV w (w6.setCell ⟨g,j * 3 + 2,none⟩ u) (.slice (some ⟨g,0,none⟩) n cap) L (j + 1) (Z.set j ((Z[j]'hj).1,u)) := by
 subst hn
 have hg:g < wr.heap.size := (h.own.lt g rfl).2
 have ho := (owns_kept h.own hb).stored (j * 3 + 2) u
 have off:∀ {x:Value} {M:List Vl},OwnV w6 w.heap.size x M → OwnV (w6.setCell ⟨g,j * 3 + 2,none⟩ u) w.heap.size x M := fun {x M} hx => by
  refine ⟨hx.1,?_⟩
  rcases hx.2 with h1 | ⟨g',cap',cur,e,hb',hg',r⟩
  ·exact .inl h1
  ·refine .inr ⟨g',cap',cur,e,hb',(heap_set_other w6 g _ g' u ?_).trans hg',r⟩
   intro e2
   subst e2
   obtain ⟨cur2,hc2⟩:∃ cur2,w6.heap[g']? = some (.cells cur2 81 (0,0)) := by
    rcases (owns_kept h.own hb).2 with ⟨e3,_⟩ | ⟨g3,_,c3,e3,_,h3,_⟩
    ·cases e3
    ·injection e3 with e3
     injection e3 with e3
     injection e3 with e3
     subst e3
     exact ⟨c3,h3⟩
   rw [hc2] at hg'
   injection hg' with hg'
   injection hg' with _ h9
   exact absurd h9 (by decide)
 refine ⟨?_,?_,?_,?_⟩
 ·rw [List.length_set,← rcells_set2 Z j hj u]
  exact ho.1
 ·rw [← h.fst,List.map_set]
  apply List.ext_getElem (by simp)
  intro i h1 h2
  rw [List.getElem_set]
  split
  ·rename_i e
   subst e
   simp
  ·rfl
 ·intro i hi hij
  rw [List.length_set] at hi
  by_cases e:j = i
  ·subst e
   rw [List.getElem_set_self]
   exact off (hu.base hs)
  ·rw [List.getElem_set_ne e]
   exact off ((h.fore i hi (by omega)).kept hb)
 ·intro i hi hij
  rw [List.length_set] at hi
  rw [List.getElem_set_ne (by omega)]
  exact h.back i hi (by omega)

structure MixW (w wr:World) (v:Value) (L:List Rw) (j:Nat) (Z:List (Rw × Value)):Prop where
 own:wr.ownsRow w.heap.size 38 3 v Z.length (Z.flatMap (rcell .i64))
 fst:Z.map Prod.fst = L
 fore:∀ i (hi:i < Z.length),i < j → OwnV wr w.heap.size Z[i].2 Z[i].1.row
 back:∀ i (hi:i < Z.length),j ≤ i → SlV w w.heap.size Z[i].2 Z[i].1.row
theorem MixW.step {w wr w6:World} {g n cap:Nat} {L:List Rw} {j:Nat} {Z:List (Rw × Value)} {u:Value} (h:MixW w wr (.slice (some ⟨g,0,none⟩) n cap) L j Z) (hj:j < Z.length) (hn:Z.length = n) (hb:Below wr.heap.size wr w6) (hu:OwnV w6 wr.heap.size u (Z[j]'hj).1.row) (hs:w.heap.size ≤ wr.heap.size) :
  MixW w (w6.setCell ⟨g,j * 3 + 2,none⟩ u) (.slice (some ⟨g,0,none⟩) n cap) L (j + 1) (Z.set j ((Z[j]'hj).1,u)) := by
 subst hn
 have hg:g < wr.heap.size := (h.own.lt g rfl).2
 have ho := (owns_kept h.own hb).stored (j * 3 + 2) u
 have off:∀ {x:Value} {M:List Vl},OwnV w6 w.heap.size x M → OwnV (w6.setCell ⟨g,j * 3 + 2,none⟩ u) w.heap.size x M := fun {x M} hx => by
  refine ⟨hx.1,?_⟩
  rcases hx.2 with h1 | ⟨g',cap',cur,e,hb',hg',r⟩
  ·exact .inl h1
  ·refine .inr ⟨g',cap',cur,e,hb',(heap_set_other w6 g _ g' u ?_).trans hg',r⟩
   intro e2
   subst e2
   obtain ⟨cur2,hc2⟩:∃ cur2,w6.heap[g']? = some (.cells cur2 38 (0,0)) := by
    rcases (owns_kept h.own hb).2 with ⟨e3,_⟩ | ⟨g3,_,c3,e3,_,h3,_⟩
    ·cases e3
    ·injection e3 with e3
     injection e3 with e3
     injection e3 with e3
     subst e3
     exact ⟨c3,h3⟩
   rw [hc2] at hg'
   injection hg' with hg'
   injection hg' with _ h9
   exact absurd h9 (by decide)
 refine ⟨?_,?_,?_,?_⟩
 ·rw [List.length_set,← rcells_set2 Z j hj u]
  exact ho.1
 ·rw [← h.fst,List.map_set]
  apply List.ext_getElem (by simp)
  intro i h1 h2
  rw [List.getElem_set]
  split
  ·rename_i e
   subst e
   simp
  ·rfl
 ·intro i hi hij
  rw [List.length_set] at hi
  by_cases e:j = i
  ·subst e
   rw [List.getElem_set_self]
   exact off (hu.base hs)
  ·rw [List.getElem_set_ne e]
   exact off ((h.fore i hi (by omega)).kept hb)
 ·intro i hi hij
  rw [List.length_set] at hi
  rw [List.getElem_set_ne (by omega)]
  exact h.back i hi (by omega)

set_option maxHeartbeats 4000000 in
theorem ownVersions_any (L:List Rw) (q:Option Addr) (c K:Nat) (w:World) (hR:RdR .u64 w w.heap.size q L) (hl:L.length ≤ K) (hK:K ≤ 3518437208882) (hsh:shortR L) :
  Calls Tryz.prog 62 #[.slice q L.length c] w fun e w' => (∃ v Z,e = .returned v ∧ Z.map Prod.fst = L ∧ OwnRs .u64 81 w' w.heap.size v Z) ∧ Below w.heap.size w w' := by
 obtain ⟨Z,hZ,hS,hC⟩ := hR.zip
 have hZl:Z.length = L.length := by rw [← hZ,List.length_map]
 have C1:Hid (Calls _ _ _ _ _) := own_cells_ver q L.length c (Z.flatMap (rcell .u64)) w (by rw [rcells_l,hZl]) (rcells_one hS) hC (by omega)
 have HS:Hid (shortR L) := hsh
 have HZ:Hid (Z.map Prod.fst = L ∧ ∀ z ∈ Z,SlV w w.heap.size z.2 z.1.row) := ⟨hZ,hS⟩
 clear hR hZ hS hC hsh
 obtain ⟨n,hn⟩:∃ n,L.length = n := ⟨_,rfl⟩
 rw [hn] at C1 hZl ⊢
 go_enter Tryz.func62,Tryz.ntmps62
 go_wp2_with fail
 refine C1.out.mono ?_
 rintro e w1 ⟨⟨v1,rfl,ho1⟩,hb1⟩
 obtain ⟨p1,c1,rfl,_⟩ := owns_len ho1
 have HM:Hid (MixV w w1 (.slice p1 n c1) L 0 Z) := ⟨by rw [hZl]; exact ho1,HZ.out.1,fun i hi h0 => absurd h0 (by omega),fun i hi _ => HZ.out.2 _ (List.getElem_mem hi)⟩
 have HB1:Hid (Below w.heap.size w w1) := hb1
 clear ho1 hb1 C1
 go_wp2_with fail
 go_loopw [9] (fun i wr => ∃ (j:Nat) (Y:List (Rw × Value)),j ≤ n ∧ i = .int .i64 (j:Int) ∧ Y.length = n ∧ Hid (MixV w wr (.slice p1 n c1) L j Y) ∧ Hid (Below w.heap.size w wr)) (fun i _ => n - (intOf i).toNat)
 case atStart => exact ⟨0,Z,Nat.zero_le _,by go_num,hZl,HM,HB1⟩
 case round =>
  obtain ⟨j,Y,hj,rfl,hYl,hM,hB⟩ := hrel
  by_cases hj0:j = n
  ·subst hj0
   go_wp2
   go_ret
   exact ⟨⟨_,Y,rfl,hM.out.fst,hM.out.own,fun z hz => by
    obtain ⟨i,hi,rfl⟩ := List.getElem_of_mem hz
    exact hM.out.fore i hi (by omega)⟩,hB.out⟩
  ·have hj1:j < n := by omega
   have hjY:j < Y.length := by omega
   rcases owns_form hM.out.own (by omega) with ⟨g,cap,e,hg1,hg2⟩
   rw [hYl] at e
   injection e with e1 _ e2
   subst e1 e2
   obtain ⟨qj,cj,ej,hrj,hqj⟩ := hM.out.back j hjY (Nat.le_refl _)
   have hfz := World.ownsRow.frozenAt (w := wr) (e := 81) (size := 3) (g := g) (cap := c1) (by have h9 := hM.out.own; rw [hYl] at h9; exact h9) (j * 3 + 2)
   have hcl:wr.cell? ⟨g,j * 3 + 2,none⟩ = some (.slice qj (Y[j]'hjY).1.row.length cj) := by
    have h9 := hM.out.own
    rw [hYl] at h9
    rw [World.ownsRow.cellAt h9 (j * 3 + 2) (by omega),flat_at 3 (rcell .u64) (fun _ => rfl) Y j hjY 2 (by decide),← ej]
    rfl
   have hrl:(Y[j]'hjY).1.row.length ≤ 3518437208882 := by
    have h9:(Y[j]'hjY).1 ∈ L := by
     rw [← hM.out.fst]
     exact List.mem_map_of_mem (List.getElem_mem hjY)
    exact shortR_mem HS.out h9
   have HS2:Hid (SlV wr wr.heap.size (.slice qj (Y[j]'hjY).1.row.length cj) (Y[j]'hjY).1.row) := ((show SlV w w.heap.size _ _ from ⟨qj,cj,rfl,hrj,hqj⟩).keep hB.out).mono hB.out.size
   have C2:Hid (Calls _ _ _ _ _) := ownVal_any _ _ _ _ wr HS2.out hrl
   have HST:Hid (∀ w6 u,Below wr.heap.size wr w6 → OwnV w6 wr.heap.size u (Y[j]'hjY).1.row → MixV w (w6.setCell ⟨g,j * 3 + 2,none⟩ u) (.slice (some ⟨g,0,none⟩) n c1) L (j + 1) (Y.set j ((Y[j]'hjY).1,u))) := fun w6 u h6 hu => hM.out.step hjY hYl h6 hu hB.out.size
   have hYs:Hid (∀ u,(Y.set j ((Y[j]'hjY).1,u)).length = n) := fun u => by rw [List.length_set]; exact hYl
   clear ej hrj hqj hrl HS2 hM hj0
   generalize (Y[j]'hjY).1.row = yr at *
   generalize (Y[j]'hjY).1 = y1 at *
   go_wp2_with fail
   refine C2.out.mono ?_
   rintro e w6 ⟨⟨v6,rfl,hv6⟩,hb6⟩
   have k1 := (hb6.cell (p := ⟨g,j * 3 + 2,none⟩) hg2).trans hcl
   have k2 := (hb6.frozen (p := ⟨g,j * 3 + 2,none⟩) hg2).trans hfz
   have HMM:Hid _ := HST.out w6 v6 hb6 hv6
   obtain ⟨p6,c6,rfl,_⟩ := hv6.row
   have HB6:Hid (Below w.heap.size w w6) := hB.out.trans (hb6.mono hB.out.size)
   clear hv6 hb6 C2 HST hcl hfz
   generalize yr.length = yl at *
   go_wp2_with fail
   go_roundw
   case rel => exact ⟨j + 1,_,hj1,by go_num,hYs.out _,HMM,HB6.out.setCell (p := ⟨g,j * 3 + 2,none⟩) hg1 _⟩
   case measure => simp [intOf]; omega

set_option maxHeartbeats 4000000 in
theorem ownIntent_any (tx:Int) (L:List Rw) (q:Option Addr) (c K:Nat) (w0:World) (hR0:RdR .i64 w0 w0.heap.size q L) (hl:L.length ≤ K) (hK:K ≤ 3518437208882) (hsh:shortR L) :
  Calls Tryz.prog 64 #[.agg #[.int .i64 tx,.slice q L.length c]] w0 fun e w' => (∃ v Z,e = .returned (.agg #[.int .i64 tx,v]) ∧ Z.map Prod.fst = L ∧ OwnRs .i64 38 w' w0.heap.size v Z) ∧ Below w0.heap.size w0 w' := by
 obtain ⟨n,hn⟩:∃ n,L.length = n := ⟨_,rfl⟩
 have H2:Hid (Box ((w0.alloc (.cells #[.int .i64 tx,.slice q n c] 75)).alloc (.cells #[.int .i64 0,.slice none 0 0] 75)) w0.heap.size #[.int .i64 tx,.slice q n c] 75 ∧ Box ((w0.alloc (.cells #[.int .i64 tx,.slice q n c] 75)).alloc (.cells #[.int .i64 0,.slice none 0 0] 75)) (w0.heap.size + 1) #[.int .i64 0,.slice none 0 0] 75 ∧ Below w0.heap.size w0 ((w0.alloc (.cells #[.int .i64 tx,.slice q n c] 75)).alloc (.cells #[.int .i64 0,.slice none 0 0] 75)) ∧ ((w0.alloc (.cells #[.int .i64 tx,.slice q n c] 75)).alloc (.cells #[.int .i64 0,.slice none 0 0] 75)).heap.size = w0.heap.size + 2) := two_new w0 #[.int .i64 tx,.slice q n c] #[.int .i64 0,.slice none 0 0] 75 75
 have hR := hR0.on H2.out.2.2.1
 obtain ⟨x0,x1,x2,x3⟩ := box2 H2.out.1
 rw [hn]
 have HN:Hid (L.length = n) := hn
 clear hR0
 go_enter Tryz.func64,Tryz.ntmps64
 go_wp2_with fail
 generalize ((w0.alloc (.cells #[.int .i64 tx,.slice q n c] 75)).alloc (.cells #[.int .i64 0,.slice none 0 0] 75)) = w at *
 have hwb := H2.out.2.2.2
 obtain ⟨Z,hZ,hS,hC⟩ := hR.zip
 have hZl:Z.length = L.length := by rw [← hZ,List.length_map]
 have C1:Hid (Calls _ _ _ _ _) := own_cells_wri q L.length c (Z.flatMap (rcell .i64)) w (by rw [rcells_l,hZl]) (rcells_one hS) hC (by omega)
 have HS:Hid (shortR L) := hsh
 have HZ:Hid (Z.map Prod.fst = L ∧ ∀ z ∈ Z,SlV w w.heap.size z.2 z.1.row) := ⟨hZ,hS⟩
 clear hR hZ hS hC hsh
 rw [hn] at C1 hZl
 refine C1.out.mono ?_
 rintro e w1 ⟨⟨v1,rfl,ho1⟩,hb1⟩
 obtain ⟨p1,c1,rfl,_⟩ := owns_len ho1
 have HM:Hid (MixW w w1 (.slice p1 n c1) L 0 Z) := ⟨by rw [hZl]; exact ho1,HZ.out.1,fun i hi h0 => absurd h0 (by omega),fun i hi _ => HZ.out.2 _ (List.getElem_mem hi)⟩
 have HB1:Hid (Below w.heap.size w w1) := hb1
 clear ho1 hb1 C1 x0 x1 x2 x3
 go_wp2_with fail
 go_loopw [10] (fun i wr => ∃ (j:Nat) (Y:List (Rw × Value)),j ≤ n ∧ i = .int .i64 (j:Int) ∧ Y.length = n ∧ Hid (MixW w wr (.slice p1 n c1) L j Y) ∧ Hid (Below w.heap.size w wr)) (fun i _ => n - (intOf i).toNat)
 case atStart => exact ⟨0,Z,Nat.zero_le _,by go_num,hZl,HM,HB1⟩
 case round =>
  obtain ⟨j,Y,hj,rfl,hYl,hM,hB⟩ := hrel
  by_cases hj0:j = n
  ·subst hj0
   have hX := H2.out.1.keep hB.out (by omega)
   have hY := H2.out.2.1.keep hB.out (by omega)
   obtain ⟨x0,x1,x2,x3⟩ := box2 hX
   obtain ⟨y0,y1,y2,y3⟩ := box2 hY
   have HY:Hid (Box wr (w0.heap.size + 1) #[.int .i64 0,.slice none 0 0] 75) := hY
   clear hX hY
   go_wp2
   have hO:OwnRs .i64 38 wr w.heap.size (.slice p1 j c1) Y := ⟨hM.out.own,fun z hz => by
    obtain ⟨i,hi,rfl⟩ := List.getElem_of_mem hz
    exact hM.out.fore i hi (by omega)⟩
   have hZ9 := (HY.out.set (i := 0) (.int .i64 tx)).set (i := 1) (.slice p1 j c1)
   have hO9 := (hO.off (i := 0) (.int .i64 tx) (show w0.heap.size + 1 < w.heap.size by omega)).off (i := 1) (.slice p1 j c1) (show w0.heap.size + 1 < w.heap.size by omega)
   have hbb := H2.out.2.2.1.trans (hB.out.mono H2.out.2.2.1.size)
   have hb9 := (hbb.setCell (p := ⟨w0.heap.size + 1,0,none⟩) (Nat.le_succ _) (.int .i64 tx)).setCell (p := ⟨w0.heap.size + 1,1,none⟩) (Nat.le_succ _) (.slice p1 j c1)
   generalize (wr.setCell ⟨w0.heap.size + 1,0,none⟩ (.int .i64 tx)).setCell ⟨w0.heap.size + 1,1,none⟩ (.slice p1 j c1) = w9 at *
   obtain ⟨z0,z1,_⟩ := box2 hZ9
   (try simp only [Exit.inBlock,Exit.then])
   refine bodyPost_ret (v := .agg #[.int .i64 tx,.slice p1 j c1]) (by simp [results,Tryz.results64,go_sem,z0,z1]) rfl ?_
   exact ⟨⟨_,Y,rfl,hM.out.fst,hO9.base (by omega)⟩,hb9⟩
  ·have hj1:j < n := by omega
   have hjY:j < Y.length := by omega
   rcases owns_form hM.out.own (by omega) with ⟨g,cap,e,hg1,hg2⟩
   rw [hYl] at e
   injection e with e1 _ e2
   subst e1 e2
   obtain ⟨qj,cj,ej,hrj,hqj⟩ := hM.out.back j hjY (Nat.le_refl _)
   have hfz := World.ownsRow.frozenAt (w := wr) (e := 38) (size := 3) (g := g) (cap := c1) (by have h9 := hM.out.own; rw [hYl] at h9; exact h9) (j * 3 + 2)
   have hcl:wr.cell? ⟨g,j * 3 + 2,none⟩ = some (.slice qj (Y[j]'hjY).1.row.length cj) := by
    have h9 := hM.out.own
    rw [hYl] at h9
    rw [World.ownsRow.cellAt h9 (j * 3 + 2) (by omega),flat_at 3 (rcell .i64) (fun _ => rfl) Y j hjY 2 (by decide),← ej]
    rfl
   have hrl:(Y[j]'hjY).1.row.length ≤ 3518437208882 := by
    have h9:(Y[j]'hjY).1 ∈ L := by
     rw [← hM.out.fst]
     exact List.mem_map_of_mem (List.getElem_mem hjY)
    exact shortR_mem HS.out h9
   have HS2:Hid (SlV wr wr.heap.size (.slice qj (Y[j]'hjY).1.row.length cj) (Y[j]'hjY).1.row) := ((show SlV w w.heap.size _ _ from ⟨qj,cj,rfl,hrj,hqj⟩).keep hB.out).mono hB.out.size
   have C2:Hid (Calls _ _ _ _ _) := ownVal_any _ _ _ _ wr HS2.out hrl
   have HST:Hid (∀ w6 u,Below wr.heap.size wr w6 → OwnV w6 wr.heap.size u (Y[j]'hjY).1.row → MixW w (w6.setCell ⟨g,j * 3 + 2,none⟩ u) (.slice (some ⟨g,0,none⟩) n c1) L (j + 1) (Y.set j ((Y[j]'hjY).1,u))) := fun w6 u h6 hu => hM.out.step hjY hYl h6 hu hB.out.size
   have hYs:Hid (∀ u,(Y.set j ((Y[j]'hjY).1,u)).length = n) := fun u => by rw [List.length_set]; exact hYl
   clear ej hrj hqj hrl HS2 hM hj0
   generalize (Y[j]'hjY).1.row = yr at *
   generalize (Y[j]'hjY).1 = y1 at *
   go_wp2_with fail
   refine C2.out.mono ?_
   rintro e w6 ⟨⟨v6,rfl,hv6⟩,hb6⟩
   have k1 := (hb6.cell (p := ⟨g,j * 3 + 2,none⟩) hg2).trans hcl
   have k2 := (hb6.frozen (p := ⟨g,j * 3 + 2,none⟩) hg2).trans hfz
   have HMM:Hid _ := HST.out w6 v6 hb6 hv6
   obtain ⟨p6,c6,rfl,_⟩ := hv6.row
   have HB6:Hid (Below w.heap.size w w6) := hB.out.trans (hb6.mono hB.out.size)
   clear hv6 hb6 C2 HST hcl hfz
   generalize yr.length = yl at *
   go_wp2_with fail
   go_roundw
   case rel => exact ⟨j + 1,_,hj1,by go_num,hYs.out _,HMM,HB6.out.setCell (p := ⟨g,j * 3 + 2,none⟩) hg1 _⟩
   case measure => simp [intOf]; omega

end Go.Proofs.YtcibcfghkidncaaGreatDoor

namespace Go.Proofs.YtcibcfghkidncaaGreatDoor

theorem later0 {G R:Prop} (h:G → R) (p:G):R := h p
theorem later1 {α0:Type} (P:α0 → Prop) {G:α0 → Prop} {R:Prop} (h:(∀ x0,P x0 → G x0) → R) (p:∀ x0,P x0 → G x0):R := h p
theorem later2 {α0 α1:Type} (P:α0 → α1 → Prop) {G:α0 → α1 → Prop} {R:Prop} (h:(∀ x0 x1,P x0 x1 → G x0 x1) → R) (p:∀ x0 x1,P x0 x1 → G x0 x1):R := h p
theorem later3 {α0 α1 α2:Type} (P:α0 → α1 → α2 → Prop) {G:α0 → α1 → α2 → Prop} {R:Prop} (h:(∀ x0 x1 x2,P x0 x1 x2 → G x0 x1 x2) → R) (p:∀ x0 x1 x2,P x0 x1 x2 → G x0 x1 x2):R := h p
theorem later4 {α0 α1 α2 α3:Type} (P:α0 → α1 → α2 → α3 → Prop) {G:α0 → α1 → α2 → α3 → Prop} {R:Prop} (h:(∀ x0 x1 x2 x3,P x0 x1 x2 x3 → G x0 x1 x2 x3) → R) (p:∀ x0 x1 x2 x3,P x0 x1 x2 x3 → G x0 x1 x2 x3):R := h p
theorem later5 {α0 α1 α2 α3 α4:Type} (P:α0 → α1 → α2 → α3 → α4 → Prop) {G:α0 → α1 → α2 → α3 → α4 → Prop} {R:Prop} (h:(∀ x0 x1 x2 x3 x4,P x0 x1 x2 x3 x4 → G x0 x1 x2 x3 x4) → R) (p:∀ x0 x1 x2 x3 x4,P x0 x1 x2 x3 x4 → G x0 x1 x2 x3 x4):R := h p
theorem later7 {α0 α1 α2 α3 α4 α5 α6:Type} (P:α0 → α1 → α2 → α3 → α4 → α5 → α6 → Prop) {G:α0 → α1 → α2 → α3 → α4 → α5 → α6 → Prop} {R:Prop} (h:(∀ x0 x1 x2 x3 x4 x5 x6,P x0 x1 x2 x3 x4 x5 x6 → G x0 x1 x2 x3 x4 x5 x6) → R) (p:∀ x0 x1 x2 x3 x4 x5 x6,P x0 x1 x2 x3 x4 x5 x6 → G x0 x1 x2 x3 x4 x5 x6):R := h p
theorem later9 {α0 α1 α2 α3 α4 α5 α6 α7 α8:Type} (P:α0 → α1 → α2 → α3 → α4 → α5 → α6 → α7 → α8 → Prop) {G:α0 → α1 → α2 → α3 → α4 → α5 → α6 → α7 → α8 → Prop} {R:Prop} (h:(∀ x0 x1 x2 x3 x4 x5 x6 x7 x8,P x0 x1 x2 x3 x4 x5 x6 x7 x8 → G x0 x1 x2 x3 x4 x5 x6 x7 x8) → R) (p:∀ x0 x1 x2 x3 x4 x5 x6 x7 x8,P x0 x1 x2 x3 x4 x5 x6 x7 x8 → G x0 x1 x2 x3 x4 x5 x6 x7 x8):R := h p
theorem laterI4 {α0 α1 α2 α3:Type} {P:α0 → α1 → α2 → α3 → Prop} {G:α0 → α1 → α2 → α3 → Prop} {R:Prop} (h:(∀ x0 x1 x2 x3,P x0 x1 x2 x3 → G x0 x1 x2 x3) → R) (p:∀ x0 x1 x2 x3,P x0 x1 x2 x3 → G x0 x1 x2 x3):R := h p
theorem laterI3 {α0 α1 α2:Type} {P:α0 → α1 → α2 → Prop} {G:α0 → α1 → α2 → Prop} {R:Prop} (h:(∀ x0 x1 x2,P x0 x1 x2 → G x0 x1 x2) → R) (p:∀ x0 x1 x2,P x0 x1 x2 → G x0 x1 x2):R := h p

end Go.Proofs.YtcibcfghkidncaaGreatDoor
