/- A store in memory: its block, its places, the words of taken slots, its desks. A store in memory: which blocks are apart; what stays when a part is turned. -/
import Derived.Maps.OwnSet
import Derived.Maps.AppendAt
import Derived.Test.YtcibcfghkidncaaGreatDoorGWCel11
import Derived.Test.YtcibcfghkidncaaGreatDoorGWTkn2
namespace Go.Proofs.YtcibcfghkidncaaGreatDoor
open Go.RowKit Go.Lib Go.Maps
set_option maxRecDepth 100000

abbrev ptr1 (b:Nat):Value := .pointer (some ⟨b,0,none⟩)

structure SBc (cs:Array Value) (most pb:Nat) (ls:Int) (tv:Value) (dl:Nat → Int) (dm:Nat → Option Nat):Prop where
 size:cs.size = 197
 c0:cs[0]? = some (.int .i64 (most:Nat))
 c1:cs[1]? = some (ptr1 pb)
 c2:cs[2]? = some (.int .i32 ls)
 c3:cs[3]? = some (.int .u32 0)
 c4:cs[4]? = some tv
 d0:∀ d,d < 64 → cs[5 + 3 * d]? = some (.int .i32 (dl d))
 d1:∀ d,d < 64 → cs[6 + 3 * d]? = some (.int .u32 0)
 d2:∀ d,d < 64 → cs[7 + 3 * d]? = some (.map (dm d))
 sl:∃ p n c,tv = .slice p n c
def SBk (w:World) (sb most pb:Nat) (ls:Int) (tv:Value) (dl:Nat → Int) (dm:Nat → Option Nat):Prop := ∃ cs,w.heap[sb]? = some (.cells cs 103 (0,0)) ∧ SBc cs most pb ls tv dl dm
section
variable {w w':World} {sb most pb:Nat} {ls:Int} {tv:Value} {dl:Nat → Int} {dm:Nat → Option Nat}
theorem SBk.lt (h:SBk w sb most pb ls tv dl dm):sb < w.heap.size := by
 obtain ⟨cs,h,_⟩ := h
 exact lt_of_block h
theorem SBk.frm {G:Nat → Prop} (h:SBk w sb most pb ls tv dl dm) (hf:Frm w w' G) (hn:¬ G sb):SBk w' sb most pb ls tv dl dm := by
 obtain ⟨cs,h1,h2⟩ := h
 exact ⟨cs,(hf.block sb (lt_of_block h1) hn).trans h1,h2⟩
theorem SBk.cellAt {cs:Array Value} (h1:w.heap[sb]? = some (.cells cs 103 (0,0))) (i:Nat):w.cell? ⟨sb,i,none⟩ = cs[i]? ∧ w.frozen? ⟨sb,i,none⟩ = false := by
 constructor
 ·simp [World.cell?,h1]
 ·simp [World.frozen?,h1]
theorem SBk.cell (h:SBk w sb most pb ls tv dl dm):(w.cell? ⟨sb,0,none⟩ = some (.int .i64 (most:Nat)) ∧ w.cell? ⟨sb,1,none⟩ = some (ptr1 pb) ∧ w.cell? ⟨sb,2,none⟩ = some (.int .i32 ls) ∧ w.cell? ⟨sb,4,none⟩ = some tv) ∧ ∀ i,w.frozen? ⟨sb,i,none⟩ = false := by
 obtain ⟨cs,h1,h2⟩ := h
 exact ⟨⟨(SBk.cellAt h1 0).1.trans h2.c0,(SBk.cellAt h1 1).1.trans h2.c1,(SBk.cellAt h1 2).1.trans h2.c2,(SBk.cellAt h1 4).1.trans h2.c4⟩,fun i => (SBk.cellAt h1 i).2⟩
theorem SBk.desk (h:SBk w sb most pb ls tv dl dm) {d:Nat} (hd:d < 64):w.cell? ⟨sb,5 + 3 * d,none⟩ = some (.int .i32 (dl d)) ∧ w.cell? ⟨sb,7 + 3 * d,none⟩ = some (.map (dm d)) := by
 obtain ⟨cs,h1,h2⟩ := h
 exact ⟨(SBk.cellAt h1 _).1.trans (h2.d0 d hd),(SBk.cellAt h1 _).1.trans (h2.d2 d hd)⟩
theorem SBk.set1 (h:SBk w sb most pb ls tv dl dm) (x:Nat):SBk (w.setCell ⟨sb,1,none⟩ (ptr1 x)) sb most x ls tv dl dm := by
 obtain ⟨cs,h1,h2⟩ := h
 refine ⟨_,heap_set_same w sb 1 _ _ _ _ h1,?_⟩
 obtain ⟨a,b,c,d,e,f,g,i,j,k⟩ := h2
 have o:∀ t,1 ≠ t → (cs.setIfInBounds 1 (ptr1 x))[t]? = cs[t]? := fun t ht => Array.getElem?_setIfInBounds_ne ht
 exact ⟨by simpa using a,(o _ (by omega)).trans b,by rw [Array.getElem?_setIfInBounds_self_of_lt (by omega)],(o _ (by omega)).trans d,(o _ (by omega)).trans e,(o _ (by omega)).trans f,fun t ht => (o _ (by omega)).trans (g t ht),fun t ht => (o _ (by omega)).trans (i t ht),fun t ht => (o _ (by omega)).trans (j t ht),k⟩
theorem SBk.set2 (h:SBk w sb most pb ls tv dl dm) (x:Int):SBk (w.setCell ⟨sb,2,none⟩ (.int .i32 x)) sb most pb x tv dl dm := by
 obtain ⟨cs,h1,h2⟩ := h
 refine ⟨_,heap_set_same w sb 2 _ _ _ _ h1,?_⟩
 obtain ⟨a,b,c,d,e,f,g,i,j,k⟩ := h2
 have o:∀ t,2 ≠ t → (cs.setIfInBounds 2 (.int .i32 x))[t]? = cs[t]? := fun t ht => Array.getElem?_setIfInBounds_ne ht
 exact ⟨by simpa using a,(o _ (by omega)).trans b,(o _ (by omega)).trans c,by rw [Array.getElem?_setIfInBounds_self_of_lt (by omega)],(o _ (by omega)).trans e,(o _ (by omega)).trans f,fun t ht => (o _ (by omega)).trans (g t ht),fun t ht => (o _ (by omega)).trans (i t ht),fun t ht => (o _ (by omega)).trans (j t ht),k⟩
theorem SBk.set4 (h:SBk w sb most pb ls tv dl dm) {x:Value} (hx:∃ p n c,x = .slice p n c):SBk (w.setCell ⟨sb,4,none⟩ x) sb most pb ls x dl dm := by
 obtain ⟨cs,h1,h2⟩ := h
 refine ⟨_,heap_set_same w sb 4 _ _ _ _ h1,?_⟩
 obtain ⟨a,b,c,d,e,f,g,i,j,k⟩ := h2
 have o:∀ t,4 ≠ t → (cs.setIfInBounds 4 x)[t]? = cs[t]? := fun t ht => Array.getElem?_setIfInBounds_ne ht
 exact ⟨by simpa using a,(o _ (by omega)).trans b,(o _ (by omega)).trans c,(o _ (by omega)).trans d,(o _ (by omega)).trans e,by rw [Array.getElem?_setIfInBounds_self_of_lt (by omega)],fun t ht => (o _ (by omega)).trans (g t ht),fun t ht => (o _ (by omega)).trans (i t ht),fun t ht => (o _ (by omega)).trans (j t ht),hx⟩
def updN {α:Type} (f:Nat → α) (d:Nat) (x:α):Nat → α := fun k => if k = d then x else f k
theorem SBk.setL (h:SBk w sb most pb ls tv dl dm) {d:Nat} (hd:d < 64) (x:Int):SBk (w.setCell ⟨sb,5 + 3 * d,none⟩ (.int .i32 x)) sb most pb ls tv (updN dl d x) dm := by
 obtain ⟨cs,h1,h2⟩ := h
 refine ⟨_,heap_set_same w sb _ _ _ _ _ h1,?_⟩
 obtain ⟨a,b,c,e,f,g,i,j,k,l⟩ := h2
 have o:∀ t,5 + 3 * d ≠ t → (cs.setIfInBounds (5 + 3 * d) (.int .i32 x))[t]? = cs[t]? := fun t ht => Array.getElem?_setIfInBounds_ne ht
 refine ⟨by simpa using a,(o _ (by omega)).trans b,(o _ (by omega)).trans c,(o _ (by omega)).trans e,(o _ (by omega)).trans f,(o _ (by omega)).trans g,fun t ht => ?_,fun t ht => (o _ (by omega)).trans (j t ht),fun t ht => (o _ (by omega)).trans (k t ht),l⟩
 unfold updN
 by_cases et:t = d
 ·subst et
  rw [if_pos rfl,Array.getElem?_setIfInBounds_self_of_lt (by omega)]
 ·rw [if_neg et]
  exact (o _ (by omega)).trans (i t ht)
theorem SBk.setM (h:SBk w sb most pb ls tv dl dm) {d:Nat} (hd:d < 64) (x:Option Nat):SBk (w.setCell ⟨sb,7 + 3 * d,none⟩ (.map x)) sb most pb ls tv dl (updN dm d x) := by
 obtain ⟨cs,h1,h2⟩ := h
 refine ⟨_,heap_set_same w sb _ _ _ _ _ h1,?_⟩
 obtain ⟨a,b,c,e,f,g,i,j,k,l⟩ := h2
 have o:∀ t,7 + 3 * d ≠ t → (cs.setIfInBounds (7 + 3 * d) (.map x))[t]? = cs[t]? := fun t ht => Array.getElem?_setIfInBounds_ne ht
 refine ⟨by simpa using a,(o _ (by omega)).trans b,(o _ (by omega)).trans c,(o _ (by omega)).trans e,(o _ (by omega)).trans f,(o _ (by omega)).trans g,fun t ht => (o _ (by omega)).trans (i t ht),fun t ht => (o _ (by omega)).trans (j t ht),fun t ht => ?_,l⟩
 unfold updN
 by_cases et:t = d
 ·subst et
  rw [if_pos rfl,Array.getElem?_setIfInBounds_self_of_lt (by omega)]
 ·rw [if_neg et]
  exact (o _ (by omega)).trans (k t ht)
theorem SBc.only {cs:Array Value} (h:SBc cs most pb ls tv dl dm) {j:Nat} {v:Value} (hj:cs[j]? = some v):(∀ b,v ≠ .bool b) ∧ ∀ q f,v ≠ .float q f := by
 have hl:j < 197 := by
  have := (Array.getElem?_eq_some_iff.1 hj).1
  rw [h.size] at this
  exact this
 obtain ⟨p,n,c,hs⟩ := h.sl
 have key:∃ u,cs[j]? = some u ∧ (∀ b,u ≠ .bool b) ∧ ∀ q f,u ≠ .float q f := by
  by_cases h5:j < 5
  ·have:j = 0 ∨ j = 1 ∨ j = 2 ∨ j = 3 ∨ j = 4 := by omega
   rcases this with rfl | rfl | rfl | rfl | rfl
   ·exact ⟨_,h.c0,by simp,by simp⟩
   ·exact ⟨_,h.c1,by simp,by simp⟩
   ·exact ⟨_,h.c2,by simp,by simp⟩
   ·exact ⟨_,h.c3,by simp,by simp⟩
   ·exact ⟨_,h.c4,by rw [hs]; simp,by rw [hs]; simp⟩
  ·have h3:(j - 5) % 3 = 0 ∨ (j - 5) % 3 = 1 ∨ (j - 5) % 3 = 2 := by omega
   rcases h3 with h3 | h3 | h3
   ·refine ⟨(.int .i32 (dl ((j - 5) / 3))),?_,by simp,by simp⟩
    have e := h.d0 ((j - 5) / 3) (by omega)
    rw [show 5 + 3 * ((j - 5) / 3) = j by omega] at e
    exact e
   ·refine ⟨(.int .u32 0),?_,by simp,by simp⟩
    have e := h.d1 ((j - 5) / 3) (by omega)
    rw [show 6 + 3 * ((j - 5) / 3) = j by omega] at e
    exact e
   ·refine ⟨(.map (dm ((j - 5) / 3))),?_,by simp,by simp⟩
    have e := h.d2 ((j - 5) / 3) (by omega)
    rw [show 7 + 3 * ((j - 5) / 3) = j by omega] at e
    exact e
 obtain ⟨u,h1,h2,h3⟩ := key
 rw [hj] at h1
 cases h1
 exact ⟨h2,h3⟩
theorem SBk.mut (h:SBk w sb most pb ls tv dl dm):MutB w sb := by
 obtain ⟨cs,h1,h2⟩ := h
 intro cs' T z hk
 rw [h1] at hk
 cases hk
 exact ⟨⟨fun j k n b _ h4 => (h2.only h4).1 b rfl,fun j q f h4 => (h2.only h4).2 q f rfl⟩,by decide⟩
end

def PlcN (w:World) (cb n:Nat) (r:Rs):Prop := ∃ g p q c,CelB w cb (some ⟨g,0,none⟩) ∧ w.heap[g]? = some (itO p r.tx q r.W.length c n 1 none) ∧ StR w p q c r
theorem PlcN.frm {w w':World} {cb n:Nat} {r:Rs} {G:Nat → Prop} (h:PlcN w cb n r) (hf:Frm w w' G) (hi:Imm w w') (hn:¬ G cb):PlcN w' cb n r := by
 obtain ⟨g,p,q,c,h1,h2,h3⟩ := h
 exact ⟨g,p,q,c,(hf.block cb h1.lt hn).trans h1,item_imm h2 hi,h3.imm hi⟩
theorem PlcN.is {w:World} {cb n:Nat} {r:Rs} (h:PlcN w cb n r):∃ x,CelB w cb x := by
 obtain ⟨g,p,q,c,h1,_⟩ := h
 exact ⟨_,h1⟩
structure Plc (w:World) (B pb:Nat) (pv:Value) (C:List (Nat × Nat)) (M:List Rs) (K:Nat):Prop where
 box:w.heap[pb]? = some (.cells #[pv] 105 (0,0))
 own:w.ownsRow B 163 1 pv C.length (C.map fun c => ptr1 c.1)
 len:C.length = M.length
 cel:∀ (i cb n:Nat) (r:Rs),C[i]? = some (cb,n) → M[i]? = some r → B ≤ cb ∧ PlcN w cb n r
 num:∀ c ∈ C,c.2 ≤ K
 ne:C.Pairwise (fun a b => a.1 ≠ b.1)
 nbp:NB w pv
theorem own_is {w:World} {B T s n:Nat} {v:Value} {xs:List Value} (h:w.ownsRow B T s v n xs) {g:Nat} (hg:v.ownBlock = some g):∃ cur,w.heap[g]? = some (.cells cur T (0,0)) := by
 rcases h.2 with ⟨rfl,_⟩ | ⟨g',cap,cur,rfl,h1,h2,h3⟩
 ·cases hg
 ·cases hg
  exact ⟨cur,h2⟩
theorem owns_frm {w w':World} {B T s n:Nat} {v:Value} {xs:List Value} {G:Nat → Prop} (h:w.ownsRow B T s v n xs) (hf:Frm w w' G) (hn:∀ g,v.ownBlock = some g → ¬ G g):w'.ownsRow B T s v n xs := by
 refine ⟨h.1,?_⟩
 rcases h.2 with h | ⟨g,cap,cur,rfl,h1,h2,h3⟩
 ·exact .inl h
 ·exact .inr ⟨g,cap,cur,rfl,h1,(hf.block g (lt_of_block h2) (hn g rfl)).trans h2,h3⟩
theorem Plc.frm {w w':World} {B pb:Nat} {pv:Value} {C:List (Nat × Nat)} {M:List Rs} {K:Nat} {G:Nat → Prop} (h:Plc w B pb pv C M K) (hf:Frm w w' G) (hi:Imm w w') (h1:∀ g,pv.ownBlock = some g → ¬ G g) (h2:∀ c ∈ C,¬ G c.1):Plc w' B pb pv C M K := by
 refine ⟨(hi.blk pb _ _ _ h.box (.inr (by decide))).trans h.box,owns_frm h.own hf h1,h.len,fun i cb n r hc hm => ?_,h.num,h.ne,h.nbp.frm hf (fun g hg => ⟨(h.own.lt g hg).2,h1 g hg⟩)⟩
 obtain ⟨hB,hp⟩ := h.cel i cb n r hc hm
 exact ⟨hB,hp.frm hf hi (h2 (cb,n) (List.mem_of_getElem? hc))⟩
theorem Plc.cell {w:World} {B pb:Nat} {pv:Value} {C:List (Nat × Nat)} {M:List Rs} {K:Nat} (h:Plc w B pb pv C M K) {c:Nat × Nat} (hc:c ∈ C):B ≤ c.1 ∧ ∃ x,CelB w c.1 x := by
 obtain ⟨i,hi,rfl⟩ := List.getElem_of_mem hc
 have hm:i < M.length := by rw [← h.len]; exact hi
 obtain ⟨h1,h2⟩ := h.cel i C[i].1 C[i].2 M[i] (List.getElem?_eq_getElem hi) (List.getElem?_eq_getElem hm)
 exact ⟨h1,h2.is⟩

def valE:Value → Option (DataW Value × List MemPlace) := fun v => some (.held v,[])
theorem lawK:Keyed Tryz.prog 3 := int_keyed Tryz.underlying3
theorem zeroS (w:World):(zeroValue 56).run Tryz.prog w = .ok (.slice none 0 0) w := by kernel_rfl
theorem wfI {k:Int} (h1:-9223372036854775808 ≤ k) (h2:k < 9223372036854775808):(Lit.int .i64 k).wf = true := WalkArith.wf_i64 (by omega)
def HasMap (w:World) (mb n:Nat) (f:Int → Option Value):Prop := ∃ D:DataW Value,w.ownsMap Tryz.prog 3 valE mb n D ∧ ∀ k:Int,Maps.has D (.int .i64 k) = (f k).isSome ∧ ∀ b,f k = some b → ∀ z,D.atKey (.int .i64 k) z = .held b
theorem HasMap.of_block {w w':World} {mb n:Nat} {f:Int → Option Value} (h:HasMap w mb n f) (hb:w'.heap[mb]? = w.heap[mb]?):HasMap w' mb n f := by
 obtain ⟨D,⟨es,c,h1,h2⟩,h3⟩ := h
 exact ⟨D,⟨es,c,hb.trans h1,h2⟩,h3⟩
theorem HasMap.lt {w:World} {mb n:Nat} {f:Int → Option Value} (h:HasMap w mb n f):mb < w.heap.size := h.choose_spec.1.lt
theorem HasMap.is {w:World} {mb n:Nat} {f:Int → Option Value} (h:HasMap w mb n f):∃ es c,w.heap[mb]? = some (.map es c) := by
 obtain ⟨D,⟨es,c,h1,h2⟩,h3⟩ := h
 exact ⟨es,c,h1⟩
theorem HasMap.ext {w:World} {mb n:Nat} {f g:Int → Option Value} (h:HasMap w mb n f) (e:∀ k,f k = g k):HasMap w mb n g := by
 have:f = g := funext e
 rw [← this]
 exact h
theorem HasMap.mono {w:World} {mb n m:Nat} {f:Int → Option Value} (h:HasMap w mb n f) (hm:n ≤ m):HasMap w mb m f := by
 obtain ⟨D,⟨es,c,h1,F,hs,e⟩,h3⟩ := h
 exact ⟨D,⟨es,c,h1,F,Nat.le_trans hs hm,e⟩,h3⟩
def slO (o:Option Value):Value := o.getD (.slice none 0 0)
theorem HasMap.look {w:World} {mb n:Nat} {f:Int → Option Value} (h:HasMap w mb n f) (k:Int) (h1:-9223372036854775808 ≤ k) (h2:k < 9223372036854775808) :
  (Instr.lookup 98 (.map (some mb)) (.int .i64 k) false).run Tryz.prog w = .ok (slO (f k)) w := by
 obtain ⟨D,ho,hD⟩ := h
 obtain ⟨v,ps,hr,hv⟩ := ho.lookup lawK Tryz.underlying98 (zeroS w) (zd := .held (.slice none 0 0)) (zp := []) rfl (keyOf_int_mk Tryz.underlying3 (wfI h1 h2))
 rw [hr]
 have inj:∀ {a b:Value} {ps:List MemPlace},valE a = some (.held b,ps) → a = b := fun {a b ps} e => by
  injection e with e
  injection e with e
  injection e
 cases hf:f k with
 | none =>
  have hn := (hD k).1
  rw [hf] at hn
  rw [Maps.atKey_of_not_has hn] at hv
  rw [inj hv]
  rfl
 | some b =>
  rw [(hD k).2 b hf] at hv
  rw [inj hv]
  rfl
theorem HasMap.made (w:World):HasMap (w.alloc (.map #[] 0)) w.heap.size 0 (fun _ => none) :=
 ⟨.map [],World.ownsMap_made _ _ _ _,fun k => ⟨rfl,fun b hb => by cases hb⟩⟩
def updI {α:Type} (f:Int → α) (k:Int) (o:α):Int → α := fun x => if x = k then o else f x
theorem isKey (x:Int):WideAt.IsKeyLit (Lit.int .i64 x) := trivial
theorem keyNe {x k:Int} (h:¬ x = k):Lit.int .i64 x ≠ Lit.int .i64 k := fun e => h (by injection e)
theorem HasMap.store {w:World} {mb n:Nat} {f:Int → Option Value} (h:HasMap w mb n f) (hn:n < maxLen) (k:Int) (v:Value) (h1:-9223372036854775808 ≤ k) (h2:k < 9223372036854775808) :
  ∃ w',(Instr.mapUpdate 98 (.map (some mb)) (.int .i64 k) v).run Tryz.prog w = .ok () w' ∧ HasMap w' mb (n + 1) (updI f k (some v)) ∧ w.mapTurned w' mb := by
 obtain ⟨D,ho,hD⟩ := h
 obtain ⟨w',hr,ho',ht⟩ := ho.store lawK Tryz.underlying98 hn (val := v) (d := .held v) (ps := []) (keyOf_int_mk Tryz.underlying3 (wfI h1 h2)) rfl
 refine ⟨w',hr,⟨_,ho',fun x => ?_⟩,ht⟩
 unfold updI
 by_cases hx:x = k
 ·subst hx
  rw [if_pos rfl]
  exact ⟨Maps.has_put_same ho.isMap (isKey x) _,fun b' hb' z => by cases hb'; exact Maps.atKey_put_same ho.isMap (isKey x) _ _⟩
 ·rw [if_neg hx]
  exact ⟨(Maps.has_put_other (keyNe hx) _).trans (hD x).1,fun b' hb' z => (Maps.atKey_put_other (keyNe hx) _ _).trans ((hD x).2 b' hb' z)⟩
theorem HasMap.drop {w:World} {mb n:Nat} {f:Int → Option Value} (h:HasMap w mb n f) (k:Int) (h1:-9223372036854775808 ≤ k) (h2:k < 9223372036854775808) (ty:TypeId) :
  ∃ w',(Builtin.delete_ #[98,3] ty #[.map (some mb),.int .i64 k]).run Tryz.prog w = .ok (.tuple #[]) w' ∧ HasMap w' mb n (updI f k none) ∧ w.mapTurned w' mb := by
 obtain ⟨D,ho,hD⟩ := h
 obtain ⟨w',hr,ho',ht⟩ := ho.drop lawK Tryz.underlying98 (keyOf_int_mk Tryz.underlying3 (wfI h1 h2)) ty
 refine ⟨w',hr,⟨_,ho',fun x => ?_⟩,ht⟩
 unfold updI
 by_cases hx:x = k
 ·subst hx
  rw [if_pos rfl]
  exact ⟨Maps.has_del_same,fun b' hb' => by cases hb'⟩
 ·rw [if_neg hx]
  exact ⟨(Maps.has_del_other (keyNe hx)).trans (hD x).1,fun b' hb' z => (Maps.atKey_del_other (keyNe hx) _).trans ((hD x).2 b' hb' z)⟩
theorem Frm.of_turned {w w':World} {F:Nat → Prop} {b:Nat} (h:w.mapTurned w' b) (hF:F b ∨ w.heap.size ≤ b):Frm w w' F := Frm.of_grown h.grown (fun g e => by cases e; exact hF)

def dk (t:Int):Nat := (t % 64).toNat
theorem dk_lt (t:Int):dk t < 64 := by unfold dk; omega
def fD (sv:Int → Value) (wr:Int → List Nat) (d:Nat):Int → Option Value := fun t => if dk t = d ∧ wr t ≠ [] then some (sv t) else none
structure Dsk (w:World) (B:Nat) (dm:Nat → Option Nat) (sv:Int → Value) (wr:Int → List Nat) (K:Nat):Prop where
 non:∀ d,dm d = none → ∀ t,dk t = d → wr t = []
 map:∀ d mb,d < 64 → dm d = some mb → B ≤ mb ∧ HasMap w mb K (fD sv wr d)
 own:∀ t,wr t ≠ [] → OwnI w B (sv t) (wr t)
 ne:∀ t t',t ≠ t' → wr t ≠ [] → wr t' ≠ [] → (sv t).ownBlock ≠ (sv t').ownBlock
 nm:∀ d d' a,d < 64 → d' < 64 → d ≠ d' → dm d = some a → dm d' ≠ some a
 nbd:∀ t,wr t ≠ [] → NB w (sv t)
theorem Dsk.frm {w w':World} {B:Nat} {dm:Nat → Option Nat} {sv:Int → Value} {wr:Int → List Nat} {K:Nat} {G:Nat → Prop} (h:Dsk w B dm sv wr K) (hf:Frm w w' G) (h1:∀ d mb,d < 64 → dm d = some mb → ¬ G mb) (h2:∀ t g,wr t ≠ [] → (sv t).ownBlock = some g → ¬ G g):Dsk w' B dm sv wr K := by
 refine ⟨h.non,fun d mb hd hm => ?_,fun t ht => owns_frm (h.own t ht) hf (fun g hg => h2 t g ht hg),h.ne,h.nm,fun t ht => (h.nbd t ht).frm hf (fun g hg => ⟨(World.ownsRow.lt (h.own t ht) g hg).2,h2 t g ht hg⟩)⟩
 obtain ⟨hB,hp⟩ := h.map d mb hd hm
 exact ⟨hB,hp.of_block (hf.block mb hp.lt (h1 d mb hd hm))⟩

structure StX (w:World) (B sb most pb:Nat) (ls:Int) (dl:Nat → Int) (dm:Nat → Option Nat) (pv tv:Value) (C:List (Nat × Nat)) (T:List Nat) (sv:Int → Value) (wr:Int → List Nat) (M:List Rs) (K:Nat):Prop where
 blk:SBk w sb most pb ls tv dl dm
 base:B ≤ sb
 tak:OwnT w B tv T
 plc:Plc w B pb pv C M K
 dsk:Dsk w B dm sv wr K
 tnb:NB w tv
def stF (sb:Nat) (dm:Nat → Option Nat) (pv tv:Value) (C:List (Nat × Nat)) (sv:Int → Value) (wr:Int → List Nat):Nat → Prop := fun k =>
 k = sb ∨ tv.ownBlock = some k ∨ pv.ownBlock = some k ∨ (∃ c ∈ C,c.1 = k) ∨ (∃ d,d < 64 ∧ dm d = some k) ∨ ∃ t,wr t ≠ [] ∧ (sv t).ownBlock = some k

end Go.Proofs.YtcibcfghkidncaaGreatDoor

namespace Go.Proofs.YtcibcfghkidncaaGreatDoor
open Go.RowKit Go.Lib Go.Maps
set_option maxRecDepth 100000

theorem kd_ne {w:World} {a b:Nat} {cs cs':Array Value} {T T':TypeId} {z z':Nat × Nat} (h:w.heap[a]? = some (.cells cs T z)) (h':w.heap[b]? = some (.cells cs' T' z')) (hT:T ≠ T'):a ≠ b := by
 rintro rfl
 rw [h] at h'
 cases h'
 exact hT rfl
theorem kd_map {w:World} {a b:Nat} {cs:Array Value} {T:TypeId} {z:Nat × Nat} {es:Array MapEntry} {c:Nat} (h:w.heap[a]? = some (.cells cs T z)) (h':w.heap[b]? = some (.map es c)):a ≠ b := by
 rintro rfl
 rw [h] at h'
 cases h'
theorem map_mut {w:World} {b:Nat} {es:Array MapEntry} {c:Nat} (h:w.heap[b]? = some (.map es c)):MutB w b := by
 intro cs T z hk
 rw [h] at hk
 cases hk
theorem NB.mut {w:World} {B T s n:Nat} {v:Value} {xs:List Value} (h:NB w v) (ho:w.ownsRow B T s v n xs) {g:Nat} (hg:v.ownBlock = some g) (hT:T ∉ immT):MutB w g := by
 obtain ⟨cur,hc⟩ := own_is ho hg
 intro cs T' z hk
 have := (h g cs T' z hg hk).pln
 rw [hc] at hk
 cases hk
 exact ⟨this,hT⟩
section
variable {w w':World} {B sb most pb:Nat} {ls:Int} {dl:Nat → Int} {dm:Nat → Option Nat} {pv tv:Value} {C:List (Nat × Nat)} {T:List Nat} {sv:Int → Value} {wr:Int → List Nat} {M:List Rs} {K:Nat}
theorem StX.isB (h:StX w B sb most pb ls dl dm pv tv C T sv wr M K):∃ cs,w.heap[sb]? = some (.cells cs 103 (0,0)) := by
 obtain ⟨cs,h1,_⟩ := h.blk
 exact ⟨cs,h1⟩
theorem StX.mut (h:StX w B sb most pb ls dl dm pv tv C T sv wr M K) {k:Nat} (hk:stF sb dm pv tv C sv wr k):MutB w k ∧ B ≤ k ∧ k < w.heap.size := by
 rcases hk with rfl | hk | hk | ⟨c,hc,rfl⟩ | ⟨d,hd,hk⟩ | ⟨t,ht,hk⟩
 ·exact ⟨h.blk.mut,h.base,h.blk.lt⟩
 ·exact ⟨h.tnb.mut h.tak hk (by decide),(World.ownsRow.lt h.tak k hk).1,(World.ownsRow.lt h.tak k hk).2⟩
 ·exact ⟨h.plc.nbp.mut h.plc.own hk (by decide),(h.plc.own.lt k hk).1,(h.plc.own.lt k hk).2⟩
 ·obtain ⟨h1,x,h2⟩ := h.plc.cell hc
  exact ⟨h2.mut,h1,h2.lt⟩
 ·obtain ⟨h1,h2⟩ := h.dsk.map d k hd hk
  obtain ⟨es,c,h3⟩ := h2.is
  exact ⟨map_mut h3,h1,h2.lt⟩
 ·have ho := h.dsk.own t ht
  exact ⟨(h.dsk.nbd t ht).mut ho hk (by decide),(World.ownsRow.lt ho k hk).1,(World.ownsRow.lt ho k hk).2⟩
theorem StX.imm (h:StX w B sb most pb ls dl dm pv tv C T sv wr M K) (hf:Frm w w' (stF sb dm pv tv C sv wr)):Imm w w' := Imm.of_frm hf (fun _ hk => (h.mut hk).1)
theorem StX.sb_tv (h:StX w B sb most pb ls dl dm pv tv C T sv wr M K) {g:Nat} (hg:tv.ownBlock = some g):g ≠ sb := by
 obtain ⟨cs,h1⟩ := h.isB
 obtain ⟨cur,h2⟩ := own_is h.tak hg
 exact kd_ne h2 h1 (by decide)
theorem StX.sb_pv (h:StX w B sb most pb ls dl dm pv tv C T sv wr M K) {g:Nat} (hg:pv.ownBlock = some g):g ≠ sb := by
 obtain ⟨cs,h1⟩ := h.isB
 obtain ⟨cur,h2⟩ := own_is h.plc.own hg
 exact kd_ne h2 h1 (by decide)
theorem StX.sb_cel (h:StX w B sb most pb ls dl dm pv tv C T sv wr M K) {c:Nat × Nat} (hc:c ∈ C):c.1 ≠ sb := by
 obtain ⟨cs,h1⟩ := h.isB
 obtain ⟨_,x,h2⟩ := h.plc.cell hc
 exact kd_ne h2 h1 (by decide)
theorem StX.sb_map (h:StX w B sb most pb ls dl dm pv tv C T sv wr M K) {d mb:Nat} (hd:d < 64) (hm:dm d = some mb):mb ≠ sb := by
 obtain ⟨cs,h1⟩ := h.isB
 obtain ⟨es,c,h3⟩ := (h.dsk.map d mb hd hm).2.is
 exact (kd_map h1 h3).symm
theorem StX.sb_sv (h:StX w B sb most pb ls dl dm pv tv C T sv wr M K) {t:Int} {g:Nat} (ht:wr t ≠ []) (hg:(sv t).ownBlock = some g):g ≠ sb := by
 obtain ⟨cs,h1⟩ := h.isB
 obtain ⟨cur,h2⟩ := own_is (h.dsk.own t ht) hg
 exact kd_ne h2 h1 (by decide)
theorem StX.cel_sv (h:StX w B sb most pb ls dl dm pv tv C T sv wr M K) {c:Nat × Nat} (hc:c ∈ C) {t:Int} {g:Nat} (ht:wr t ≠ []) (hg:(sv t).ownBlock = some g):g ≠ c.1 := by
 obtain ⟨_,x,h1⟩ := h.plc.cell hc
 obtain ⟨cur,h2⟩ := own_is (h.dsk.own t ht) hg
 exact kd_ne h2 h1 (by decide)
theorem StX.cel_tv (h:StX w B sb most pb ls dl dm pv tv C T sv wr M K) {c:Nat × Nat} (hc:c ∈ C) {g:Nat} (hg:tv.ownBlock = some g):g ≠ c.1 := by
 obtain ⟨_,x,h1⟩ := h.plc.cell hc
 obtain ⟨cur,h2⟩ := own_is h.tak hg
 exact kd_ne h2 h1 (by decide)
theorem StX.cel_pv (h:StX w B sb most pb ls dl dm pv tv C T sv wr M K) {c:Nat × Nat} (hc:c ∈ C) {g:Nat} (hg:pv.ownBlock = some g):g ≠ c.1 := by
 obtain ⟨_,x,h1⟩ := h.plc.cell hc
 obtain ⟨cur,h2⟩ := own_is h.plc.own hg
 exact kd_ne h2 h1 (by decide)
theorem StX.cel_map (h:StX w B sb most pb ls dl dm pv tv C T sv wr M K) {c:Nat × Nat} (hc:c ∈ C) {d mb:Nat} (hd:d < 64) (hm:dm d = some mb):mb ≠ c.1 := by
 obtain ⟨_,x,h1⟩ := h.plc.cell hc
 obtain ⟨es,k,h3⟩ := (h.dsk.map d mb hd hm).2.is
 exact (kd_map h1 h3).symm
theorem StX.tv_pv (h:StX w B sb most pb ls dl dm pv tv C T sv wr M K) {g g':Nat} (hg:tv.ownBlock = some g) (hg':pv.ownBlock = some g'):g ≠ g' := by
 obtain ⟨cur,h2⟩ := own_is h.tak hg
 obtain ⟨cur',h3⟩ := own_is h.plc.own hg'
 exact kd_ne h2 h3 (by decide)
theorem StX.tv_sv (h:StX w B sb most pb ls dl dm pv tv C T sv wr M K) {t:Int} {g g':Nat} (hg:tv.ownBlock = some g) (ht:wr t ≠ []) (hg':(sv t).ownBlock = some g'):g ≠ g' := by
 obtain ⟨cur,h2⟩ := own_is h.tak hg
 obtain ⟨cur',h3⟩ := own_is (h.dsk.own t ht) hg'
 exact kd_ne h2 h3 (by decide)
theorem StX.pv_sv (h:StX w B sb most pb ls dl dm pv tv C T sv wr M K) {t:Int} {g g':Nat} (hg:pv.ownBlock = some g) (ht:wr t ≠ []) (hg':(sv t).ownBlock = some g'):g ≠ g' := by
 obtain ⟨cur,h2⟩ := own_is h.plc.own hg
 obtain ⟨cur',h3⟩ := own_is (h.dsk.own t ht) hg'
 exact kd_ne h2 h3 (by decide)
theorem StX.tv_map (h:StX w B sb most pb ls dl dm pv tv C T sv wr M K) {g d mb:Nat} (hg:tv.ownBlock = some g) (hd:d < 64) (hm:dm d = some mb):g ≠ mb := by
 obtain ⟨cur,h2⟩ := own_is h.tak hg
 obtain ⟨es,k,h3⟩ := (h.dsk.map d mb hd hm).2.is
 exact kd_map h2 h3
theorem StX.pv_map (h:StX w B sb most pb ls dl dm pv tv C T sv wr M K) {g d mb:Nat} (hg:pv.ownBlock = some g) (hd:d < 64) (hm:dm d = some mb):g ≠ mb := by
 obtain ⟨cur,h2⟩ := own_is h.plc.own hg
 obtain ⟨es,k,h3⟩ := (h.dsk.map d mb hd hm).2.is
 exact kd_map h2 h3
theorem StX.sv_map (h:StX w B sb most pb ls dl dm pv tv C T sv wr M K) {t:Int} {g d mb:Nat} (ht:wr t ≠ []) (hg:(sv t).ownBlock = some g) (hd:d < 64) (hm:dm d = some mb):g ≠ mb := by
 obtain ⟨cur,h2⟩ := own_is (h.dsk.own t ht) hg
 obtain ⟨es,k,h3⟩ := (h.dsk.map d mb hd hm).2.is
 exact kd_map h2 h3
theorem StX.keep {G:Nat → Prop} (h:StX w B sb most pb ls dl dm pv tv C T sv wr M K) (hf:Frm w w' G) (hi:Imm w w') (hn:∀ k,stF sb dm pv tv C sv wr k → ¬ G k):StX w' B sb most pb ls dl dm pv tv C T sv wr M K :=
 ⟨h.blk.frm hf (hn _ (.inl rfl)),h.base,owns_frm h.tak hf (fun g hg => hn g (.inr (.inl hg))),h.plc.frm hf hi (fun g hg => hn g (.inr (.inr (.inl hg)))) (fun c hc => hn _ (.inr (.inr (.inr (.inl ⟨c,hc,rfl⟩))))),h.dsk.frm hf (fun d _mb hd hm => hn _ (.inr (.inr (.inr (.inr (.inl ⟨d,hd,hm⟩)))))) (fun t _g ht hg => hn _ (.inr (.inr (.inr (.inr (.inr ⟨t,ht,hg⟩)))))),h.tnb.frm hf (fun g hg => ⟨(World.ownsRow.lt h.tak g hg).2,hn g (.inr (.inl hg))⟩)⟩
theorem StX.on (h:StX w B sb most pb ls dl dm pv tv C T sv wr M K) (hb:Below w.heap.size w w'):StX w' B sb most pb ls dl dm pv tv C T sv wr M K := h.keep (G := none1) (Frm.of_below hb) (Imm.of_below hb) (fun _ _ h => h)
theorem StX.own {ls':Int} {dl':Nat → Int} (h:StX w B sb most pb ls dl dm pv tv C T sv wr M K) (hf:Frm w w' (one1 sb)) (hs:SBk w' sb most pb ls' tv dl' dm):StX w' B sb most pb ls' dl' dm pv tv C T sv wr M K := by
 have hi:Imm w w' := Imm.of_frm hf (fun k hk => by rw [hk]; exact h.blk.mut)
 exact ⟨hs,h.base,owns_frm h.tak hf (fun g hg => h.sb_tv hg),h.plc.frm hf hi (fun g hg => h.sb_pv hg) (fun c hc => h.sb_cel hc),h.dsk.frm hf (fun d mb hd hm => h.sb_map hd hm) (fun t g ht hg => h.sb_sv ht hg),h.tnb.frm hf (fun g hg => ⟨(World.ownsRow.lt h.tak g hg).2,h.sb_tv hg⟩)⟩
theorem StX.cel {i cb n:Nat} {r:Rs} (h:StX w B sb most pb ls dl dm pv tv C T sv wr M K) (hc:C[i]? = some (cb,n)) (hf:Frm w w' (one1 cb)) (hp:PlcN w' cb (n + 1) r) (hn:n + 1 ≤ K):StX w' B sb most pb ls dl dm pv tv (C.set i (cb,n + 1)) T sv wr (M.set i r) K := by
 have hm:(cb,n) ∈ C := List.mem_of_getElem? hc
 have hi:Imm w w' := Imm.of_frm hf (fun k hk => by rw [hk]; obtain ⟨_,x,h2⟩ := h.plc.cell hm; exact h2.mut)
 have hil:i < C.length := (List.getElem?_eq_some_iff.1 hc).1
 have hBc := (h.plc.cell hm).1
 refine ⟨h.blk.frm hf (fun e => h.sb_cel hm e.symm),h.base,owns_frm h.tak hf (fun g hg => h.cel_tv hm hg),?_,h.dsk.frm hf (fun d mb hd hmm => h.cel_map hm hd hmm) (fun t g ht hg => h.cel_sv hm ht hg),h.tnb.frm hf (fun g hg => ⟨(World.ownsRow.lt h.tak g hg).2,h.cel_tv hm hg⟩)⟩
 have hp0 := h.plc
 have em:(C.set i (cb,n + 1)).map (fun c => ptr1 c.1) = C.map (fun c => ptr1 c.1) := by
  rw [List.map_set]
  apply List.ext_getElem (by simp)
  intro j h1 h2
  rw [List.getElem_set]
  split
  ·rename_i e
   subst e
   have:C[i] = (cb,n) := by
    have := (List.getElem?_eq_some_iff.1 hc).2
    exact this
   simp [this]
  ·rfl
 refine ⟨(hi.blk pb _ _ _ hp0.box (.inr (by decide))).trans hp0.box,?_,by simp [hp0.len],?_,?_,?_,hp0.nbp.frm hf (fun g hg => ⟨(hp0.own.lt g hg).2,h.cel_pv hm hg⟩)⟩
 ·rw [List.length_set,em]
  exact owns_frm hp0.own hf (fun g hg => h.cel_pv hm hg)
 ·intro j cb' n' r' hcj hmj
  by_cases e:i = j
  ·subst e
   rw [List.getElem?_set_self hil] at hcj
   rw [List.getElem?_set_self (by rw [← hp0.len]; exact hil)] at hmj
   cases hcj
   cases hmj
   exact ⟨hBc,hp⟩
  ·rw [List.getElem?_set_ne e] at hcj hmj
   obtain ⟨h1,h2⟩ := hp0.cel j cb' n' r' hcj hmj
   refine ⟨h1,h2.frm hf hi ?_⟩
   rintro rfl
   have hjl := (List.getElem?_eq_some_iff.1 hcj).1
   have hpw := List.pairwise_iff_getElem.1 hp0.ne
   have ei := (List.getElem?_eq_some_iff.1 hc).2
   have ej := (List.getElem?_eq_some_iff.1 hcj).2
   rcases Nat.lt_or_gt_of_ne e with hlt | hgt
   ·exact hpw i j hil hjl hlt (by rw [ei,ej])
   ·exact hpw j i hjl hil hgt (by rw [ei,ej])
 ·intro c hcm
  rcases List.mem_or_eq_of_mem_set hcm with h1 | rfl
  ·exact hp0.num c h1
  ·exact hn
 ·rw [List.pairwise_iff_getElem]
  have hpw := List.pairwise_iff_getElem.1 hp0.ne
  have ei := (List.getElem?_eq_some_iff.1 hc).2
  have key:∀ j (hj:j < (C.set i (cb,n + 1)).length),(C.set i (cb,n + 1))[j].1 = (C[j]'(by simpa using hj)).1 := fun j hj => by
   rw [List.getElem_set]
   split
   ·rename_i e
    subst e
    rw [ei]
   ·rfl
  intro a b ha hb hab
  rw [key a ha,key b hb]
  exact hpw a b _ _ hab
theorem StX.tkn {T':List Nat} (h:StX w B sb most pb ls dl dm pv tv C T sv wr M K) (hf:Frm w w' (fun k => tv.ownBlock = some k)) (ho:OwnT w' B tv T') (hb:NB w' tv):StX w' B sb most pb ls dl dm pv tv C T' sv wr M K := by
 have hi:Imm w w' := Imm.of_frm hf (fun k hk => (h.mut (.inr (.inl hk))).1)
 exact ⟨h.blk.frm hf (fun e => h.sb_tv e rfl),h.base,ho,h.plc.frm hf hi (fun g hg e => h.tv_pv e hg rfl) (fun c hc e => h.cel_tv hc e rfl),h.dsk.frm hf (fun d mb hd hm e => h.tv_map e hd hm rfl) (fun t g ht hg e => h.tv_sv e ht hg rfl),hb⟩
theorem StX.mono {K':Nat} (h:StX w B sb most pb ls dl dm pv tv C T sv wr M K) (hk:K ≤ K'):StX w B sb most pb ls dl dm pv tv C T sv wr M K' :=
 ⟨h.blk,h.base,h.tak,⟨h.plc.box,h.plc.own,h.plc.len,h.plc.cel,fun c hc => Nat.le_trans (h.plc.num c hc) hk,h.plc.ne,h.plc.nbp⟩,⟨h.dsk.non,fun d mb hd hm => ⟨(h.dsk.map d mb hd hm).1,(h.dsk.map d mb hd hm).2.mono hk⟩,h.dsk.own,h.dsk.ne,h.dsk.nm,h.dsk.nbd⟩,h.tnb⟩
end

end Go.Proofs.YtcibcfghkidncaaGreatDoor
