/- Rows in which neither a truth value nor a float lies, spare room and all. -/
import Derived.Maps.AppendAt
import Derived.Laws.Append
import Derived.Laws.AppendOwn
import Derived.Test.YtcibcfghkidncaaGreatDoorGWImm
namespace Go.Proofs.YtcibcfghkidncaaGreatDoor
open Go.RowKit
set_option maxRecDepth 100000

def nb (v:Value):Prop := (∀ b,v ≠ .bool b) ∧ ∀ q f,v ≠ .float q f
theorem nb_int (k:IntKind) (n:Int):nb (.int k n) := ⟨by simp,by simp⟩
theorem nb_ptr (p:Option Addr):nb (.pointer p) := ⟨by simp,by simp⟩
def nbs (cs:Array Value):Prop := ∀ (j:Nat) v,cs[j]? = some v → nb v
theorem nbs.pln {cs:Array Value} (h:nbs cs):Pln cs := ⟨fun _j _ _ b _ h2 => (h _ _ h2).1 b rfl,fun _j q f h1 => (h _ _ h1).2 q f rfl⟩
def NB (w:World) (v:Value):Prop := ∀ g cs T z,v.ownBlock = some g → w.heap[g]? = some (.cells cs T z) → nbs cs
theorem NB.nil (w:World):NB w (.slice none 0 0) := fun g cs T z h => by cases h
theorem NB.frm {w w':World} {v:Value} {G:Nat → Prop} (h:NB w v) (hf:Frm w w' G) (hl:∀ g,v.ownBlock = some g → g < w.heap.size ∧ ¬ G g):NB w' v := fun g cs T z hg hk => h g cs T z hg (by rw [← hf.block g (hl g hg).1 (hl g hg).2]; exact hk)
theorem NB.set {w:World} {v:Value} {g i:Nat} {x:Value} (h:NB w v) (hg:v.ownBlock = some g) (hx:nb x):NB (w.setCell ⟨g,i,none⟩ x) v := by
 intro g' cs T z hg' hk
 rw [hg] at hg'
 cases hg'
 cases hw:w.heap[g]? with
 | none =>
  have:(w.setCell ⟨g,i,none⟩ x).heap[g]? = none := by
   unfold World.setCell
   show (w.heap.modify g _)[g]? = _
   rw [Array.getElem?_modify,if_pos rfl,hw]
   rfl
  rw [this] at hk
  cases hk
 | some o =>
  cases o with
  | cells cs0 T0 z0 =>
   rw [heap_set_same w g i x cs0 T0 z0 hw] at hk
   cases hk
   intro j v hj
   rw [Array.getElem?_setIfInBounds] at hj
   split at hj
   ·split at hj
    ·cases hj
     exact hx
    ·cases hj
   ·exact h g cs0 _ _ hg hw j v hj
  | _ => simp [World.setCell,Array.getElem?_modify,hw] at hk
theorem nbs_app {a b:Array Value} (ha:nbs a) (hb:nbs b):nbs (a ++ b) := by
 intro j v hj
 rw [Array.getElem?_append] at hj
 split at hj
 ·exact ha j v hj
 ·exact hb _ v hj
theorem nbs_list {l:List Value} (h:∀ v ∈ l,nb v):nbs l.toArray := fun j v hj => h v (by
 rw [List.getElem?_toArray] at hj
 exact List.mem_of_getElem? hj)
theorem nbs_mem {a:Array Value} (h:nbs a):∀ v ∈ a.toList,nb v := fun v hv => by
 obtain ⟨i,hi,e⟩ := List.getElem_of_mem hv
 exact h i v (by rw [Array.getElem?_eq_getElem (by simpa using hi)]; simpa using e)
theorem nbs_zero {z:Value} (hz:nb z) (hc:z.cells = #[z]) (n:Nat):nbs (Builtin.zeroCells z.cells n) := by
 intro j v hj
 unfold Builtin.zeroCells at hj
 rw [hc] at hj
 simp only [Array.getElem?_map,Option.map_eq_some_iff] at hj
 obtain ⟨i,_,hi⟩ := hj
 have:i % (#[z]:Array Value).size = 0 := by
  show i % 1 = 0
  omega
 rw [this] at hi
 have e:(#[z]:Array Value)[0]! = z := rfl
 rw [e] at hi
 rw [← hi]
 exact hz

section
variable {P:Program} (w:World)
theorem append_nb (base:Nat) (t ty e:TypeId) (i:TypeInfo) (z:Value) (bytes:Nat) (ht:P.underlying t = some (.slice e)) (hi:P.info? e = some i) (hz:i.zero = some z)
  (hsize:i.size = 1) (hby:i.bytes = bytes) (hzc:z.cells = #[z]) (hzn:nb z)
  (v:Value) (n:Nat) (xs:List Value) (hown:w.ownsRow base e 1 v n xs) (hN:NB w v)
  (a:Addr) (c:Nat) (x:Value) (hnews:w.cell? (a.add 0) = some x) (h1:x.oneCell' = true) (hx:nb x)
  (h63:n + 1 ≤ maxLen) (hbytes:(n + 1) * bytes ≤ 140737488355328) {v':Value} {w':World} (hr:(Builtin.append_ #[t,t] ty #[v,.slice (some a) 1 c]).run P w = .ok v' w'):NB w' v' := by
 subst hby
 have hsmall:n + 1 ≤ 9223372036854775807 := by simp only [maxLen] at h63; omega
 have hn1:∀ j u,[x][j]? = some u → w.cell? (a.add j) = some u := fun j u hj => by
  have:j = 0 := by
   have := (List.getElem?_eq_some_iff.1 hj).1
   simpa using this
  subst this
  simp at hj
  rw [← hj]
  exact hnews
 have hl1:[x].length = 1 * i.size := by rw [hsize]; rfl
 have hxl:nbs ([x]:List Value).toArray := nbs_list (fun u hu => by rw [List.mem_singleton] at hu; rw [hu]; exact hx)
 have mk:∀ (cs:Array Value) (wd:World) (u:Value),nbs cs → u.ownBlock = some w.heap.size → wd = w.drew.alloc (.cells cs e) → NB wd u := by
  rintro cs wd u hc hu rfl g cs' T z' hg hk
  rw [hu] at hg
  cases hg
  have h9:(w.drew.alloc (.cells cs e)).heap[w.heap.size]? = some (.cells cs e) := heap_alloc_new w.drew _
  rw [h9] at hk
  cases hk
  exact hc
 rcases hown.2 with ⟨rfl,rfl⟩ | ⟨g,cap,cur,rfl,hbg,hg,hnc,hcm,hcs,htake⟩
 ·have hr' := run_append_nil (P := P) w t ty e i z ht hi hz a 1 c [x] hl1 hn1 (by decide) (by decide) (by have hb := hbytes; simp only [Nat.zero_add] at hb; omega)
  rw [hr'] at hr
  cases hr
  exact mk _ _ _ (nbs_app hxl (nbs_zero hzn hzc _)) rfl rfl
 ·by_cases hroom:n + 1 ≤ cap
  ·have hfit:n * i.size + [x].length ≤ cur.size := by rw [hsize,hcs]; simp; omega
   have hr' := run_append_room (P := P) w t ty e i ht hi g n cap cur hg a 1 c [x] hl1 hn1 (fun u hu => by rw [List.mem_singleton] at hu; rw [hu]; exact h1) hroom hfit
   rw [hr'] at hr
   cases hr
   intro g' cs' T z' hg' hk
   cases hg'
   rw [setRow_heap w g cur _ e _ hg] at hk
   cases hk
   have hc:nbs cur := hN g cur e (0,0) rfl hg
   refine nbs_list (fun u hu => ?_)
   rcases List.mem_append.1 hu with hu | hu
   ·rcases List.mem_append.1 hu with hu | hu
    ·exact nbs_mem hc u (List.mem_of_mem_take hu)
    ·rw [List.mem_singleton] at hu
     rw [hu]
     exact hx
   ·exact nbs_mem hc u (List.mem_of_mem_drop hu)
  ·have holds:∀ j u,xs[j]? = some u → w.cell? ((⟨g,0,none⟩:Addr).add j) = some u := hown.cells (g := g) rfl
   have hr' := run_append_grow (P := P) w t ty e i z ht hi hz ⟨g,0,none⟩ n cap xs (by rw [hsize]; exact hown.1) holds a 1 c [x] hl1 hn1 (by omega) (by omega) (growslice_fits (by omega) hbytes)
   rw [hr'] at hr
   cases hr
   have hc:nbs cur := hN g cur e (0,0) rfl hg
   refine mk _ _ _ (nbs_app (nbs_app (nbs_list (fun u hu => ?_)) hxl) (nbs_zero hzn hzc _)) rfl rfl
   rw [← htake] at hu
   exact nbs_mem hc u (List.mem_of_mem_take hu)
end
theorem wpList_app1n {ops:Array Oper} {rest:List Oper} {o:Oper} {a:Act} {Q:Exit → Act → World → Prop} (w:World) (hgd:o.guard = none) (s x:Operand) (T S:TypeId) (z:Value) (bytes:Nat)
  (ho:o.op = .call { callee := .builtin .append,args := #[s,x],argTypes := #[S,S] }) (hu:Tryz.prog.underlying S = some (.slice T))
  (hinfo:(Tryz.prog.info? T).map (fun i => (i.zero,i.size,i.bytes)) = some (some z,1,bytes)) (hzs:z.cells = #[z]) (hzn:nb z)
  (B:Nat) (v:Value) (n:Nat) (xs:List Value) (hs:a.eval s = v) (hown:w.ownsRow B T 1 v n xs) (hN:NB w v)
  (u:Value) (hone:u.oneCell' = true) (hun:nb u) (g:Nat) (hx:a.eval x = .slice (some ⟨g,0,none⟩) 1 1) (hgz:g = w.heap.size)
  (hlen:(n + 1) * bytes ≤ 140737488355328) (hlen2:n + 1 ≤ 140737488355328) (hbase:B ≤ w.heap.size)
  (h:∀ v' w',w'.ownsRow B T 1 v' (n + 1) (xs ++ [u]) → (w.alloc (.cells #[u] T)).grownBy w' v.ownBlock → (v'.ownBlock = v.ownBlock ∨ v'.ownBlock = some (w.heap.size + 1)) → v' ≠ .slice none 0 0 → NB w' v' → wpList Tryz.prog ops Q rest (a.put o.dst v') w'):wpList Tryz.prog ops Q (o :: rest) a (w.alloc (.cells #[u] T)) := by
 obtain ⟨i,hi,hz0,hz1,hz2⟩ := info_parts1 hinfo
 subst hgz
 have hown' := hown.alloc (.cells #[u] T)
 have hN':NB (w.alloc (.cells #[u] T)) v := hN.frm (G := none1) (Frm.of_below ((Below.refl _ _).alloc (Nat.le_refl _) _)) (fun g hg => ⟨(hown.lt g hg).2,fun h => h⟩)
 have hcell:(w.alloc (.cells #[u] T)).cell? ((⟨w.heap.size,0,none⟩:Addr).add 0) = some u := by
  have e:(⟨w.heap.size,0,none⟩:Addr).add 0 = ⟨w.heap.size,0,none⟩ := by unfold Addr.add; split <;> simp_all
  rw [e,World.cell?_alloc_new]
  rfl
 refine wpList_plain hgd fun K hK => ?_
 obtain ⟨v',w',hr,h2,h3,h4,h5⟩ := run_append_own_at (P := Tryz.prog) (w.alloc (.cells #[u] T)) B S o.type T i z 1 bytes hu hi hz0 hz1 hz2 (by rw [hzs]; rfl) (by decide) v n xs hown' ⟨w.heap.size,0,none⟩ 1 1 [u] rfl (fun j y hj => by
  have:j = 0 := by
   have := (List.getElem?_eq_some_iff.1 hj).1
   simpa using this
  subst this
  simp at hj
  rw [← hj]
  exact hcell) (fun y hy => by rw [List.mem_singleton] at hy; rw [hy]; exact hone) (by unfold maxLen; omega) hlen (by simp; omega)
 have hnb := append_nb (P := Tryz.prog) (w.alloc (.cells #[u] T)) B S o.type T i z bytes hu hi hz0 hz1 hz2 hzs hzn v n xs hown' hN' ⟨w.heap.size,0,none⟩ 1 u hcell hone hun (by unfold maxLen; omega) hlen hr
 unfold Oper.wp execOp
 simp only [ho,resolve,invoke,builtin,Sem.run_bind,Sem.run_pure,Result.andThen_ok,List.map_toArray,List.map_cons,List.map_nil,hs,hx,hr]
 refine hK _ _ (h v' w' h2 h3 ?_ (fun e => ?_) hnb)
 ·rcases h5 with h5 | h5
  ·exact .inl h5
  ·exact .inr (h5.trans (by simp))
 ·have := (h4.1 e).2
  cases this

end Go.Proofs.YtcibcfghkidncaaGreatDoor
