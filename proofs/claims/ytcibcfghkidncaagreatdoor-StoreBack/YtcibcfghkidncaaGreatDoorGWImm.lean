/- What nobody writes stays: rows of values, versions, items. A row's state as a value. -/
import Derived.Test.YtcibcfghkidncaaGreatDoorGMPtr
import Derived.Test.YtcibcfghkidncaaGreatDoorGWRFd8
namespace Go.Proofs.YtcibcfghkidncaaGreatDoor
open Go.RowKit
set_option maxRecDepth 100000

def Pln (cs:Array Value):Prop := (∀ (j:Nat) k n b,cs[j]? = some (.int k n) → cs[j + 1]? ≠ some (.bool b)) ∧ ∀ (j:Nat) q f,cs[j]? ≠ some (.float q f)
def immT:List TypeId := [167,196,77,105]
structure Imm (w w':World):Prop where
 size:w.heap.size ≤ w'.heap.size
 blk:∀ (k:Nat) (cs:Array Value) (T:TypeId) (z:Nat × Nat),w.heap[k]? = some (.cells cs T z) → (¬ Pln cs ∨ T ∈ immT) → w'.heap[k]? = w.heap[k]?
theorem Imm.trans {w w1 w2:World} (h:Imm w w1) (h':Imm w1 w2):Imm w w2 :=
 ⟨Nat.le_trans h.size h'.size,fun k cs T z hk hc => (h'.blk k cs T z ((h.blk k cs T z hk hc).trans hk) hc).trans (h.blk k cs T z hk hc)⟩
theorem lt_of_block {w:World} {k:Nat} {o:Obj} (h:w.heap[k]? = some o):k < w.heap.size := (Array.getElem?_eq_some_iff.1 h).1
theorem Imm.of_below {w w':World} (h:Below w.heap.size w w'):Imm w w' := ⟨h.size,fun k _ _ _ hk _ => h.block k (lt_of_block hk)⟩
def MutB (w:World) (k:Nat):Prop := ∀ (cs:Array Value) (T:TypeId) (z:Nat × Nat),w.heap[k]? = some (.cells cs T z) → Pln cs ∧ T ∉ immT
theorem Imm.of_frm {w w':World} {F:Nat → Prop} (h:Frm w w' F) (hm:∀ k,F k → MutB w k):Imm w w' :=
 ⟨h.size,fun k cs T z hk hc => h.block k (lt_of_block hk) (fun hf => hc.elim (fun hn => hn (hm k hf cs T z hk).1) (fun hn => (hm k hf cs T z hk).2 hn))⟩
theorem cell_blk {w:World} {b o:Nat} {v:Value} (h:w.cell? ⟨b,o,none⟩ = some v):∃ cs T z,w.heap[b]? = some (.cells cs T z) ∧ cs[o]? = some v := by
 unfold World.cell? at h
 simp only at h
 split at h
 ·rename_i c T z hb
  exact ⟨c,T,z,hb,by simpa using h⟩
 ·cases h
theorem RowV.imm {w w':World} {p:Option Addr} {L:List Vl} (h:RowV w w.heap.size p L) (hi:Imm w w'):RowV w' w'.heap.size p L := by
 intro i hl
 obtain ⟨b,o,e,hb,c0,c1,c2,c3⟩ := h i hl
 obtain ⟨cs,T,z,hk,hc⟩ := cell_blk c2
 have hs := hi.blk b cs T z hk (.inl fun hp => hp.2 _ _ _ hc)
 have kk:∀ {m:Nat} {v:Option Value},w.cell? ⟨b,m,none⟩ = v → w'.cell? ⟨b,m,none⟩ = v := fun {m v} hc => (World.cell?_of_block (a := ⟨b,m,none⟩) hs).trans hc
 exact ⟨b,o,e,Nat.lt_of_lt_of_le hb hi.size,kk c0,kk c1,kk c2,kk c3⟩
theorem RdR.imm {k:IntKind} {w w':World} {p:Option Addr} {L:List Rw} (h:RdR k w w.heap.size p L) (hi:Imm w w'):RdR k w' w'.heap.size p L := by
 intro i hl
 obtain ⟨b,o,q,c,e,hb,c0,c1,c2,hr,hq⟩ := h i hl
 obtain ⟨cs,T,z,hk,hc⟩ := cell_blk c1
 obtain ⟨cs',T',z',hk',hc'⟩ := cell_blk c0
 rw [hk] at hk'
 cases hk'
 have hs := hi.blk b cs T z hk (.inl fun hp => hp.1 _ _ _ _ hc' hc)
 have kk:∀ {m:Nat} {v:Option Value},w.cell? ⟨b,m,none⟩ = v → w'.cell? ⟨b,m,none⟩ = v := fun {m v} hc => (World.cell?_of_block (a := ⟨b,m,none⟩) hs).trans hc
 exact ⟨b,o,q,c,e,Nat.lt_of_lt_of_le hb hi.size,kk c0,kk c1,kk c2,hr.imm hi,hq⟩
theorem SlV.imm {w w':World} {v:Value} {L:List Vl} (h:SlV w w.heap.size v L) (hi:Imm w w'):SlV w' w'.heap.size v L := by
 obtain ⟨q,c,e,hr,hq⟩ := h
 exact ⟨q,c,e,hr.imm hi,hq⟩

def Pst (w:World):Option Addr → List Rw → Prop
 | p,[] => p = none
 | p,v :: L => ∃ g q c nx,p = some ⟨g,0,none⟩ ∧ w.heap[g]? = some (.cells #[.int .u64 v.n,.bool v.gn,.slice q v.row.length c,.pointer nx] 167 (0,0)) ∧ SlV w w.heap.size (.slice q v.row.length c) v.row ∧ Pst w nx L
theorem past_imm {w w':World} {g:Nat} {cs:Array Value} {z:Nat × Nat} (h:w.heap[g]? = some (.cells cs 167 z)) (hi:Imm w w'):w'.heap[g]? = some (.cells cs 167 z) := (hi.blk g _ _ _ h (.inr (by simp [immT]))).trans h
theorem item_imm {w w':World} {g:Nat} {cs:Array Value} {z:Nat × Nat} (h:w.heap[g]? = some (.cells cs 196 z)) (hi:Imm w w'):w'.heap[g]? = some (.cells cs 196 z) := (hi.blk g _ _ _ h (.inr (by simp [immT]))).trans h
theorem Pst.imm {w w':World} (hi:Imm w w'):∀ {L:List Rw} {p:Option Addr},Pst w p L → Pst w' p L
 | [],_,h => h
 | _ :: _,_,⟨g,q,c,nx,h1,h2,h3,h4⟩ => ⟨g,q,c,nx,h1,past_imm h2 hi,h3.imm hi,Pst.imm hi h4⟩
structure StR (w:World) (p:Option Addr) (q:Option Addr) (c:Nat) (r:Rs):Prop where
 pst:Pst w p r.L
 rd:RdR .i64 w w.heap.size q r.W
 nil:q = none → c = 0
theorem StR.imm {w w':World} {p q:Option Addr} {c:Nat} {r:Rs} (h:StR w p q c r) (hi:Imm w w'):StR w' p q c r := ⟨h.pst.imm hi,h.rd.imm hi,h.nil⟩
abbrev stV (p:Option Addr) (q:Option Addr) (c:Nat) (r:Rs):Value := .agg #[.pointer p,.int .i64 r.tx,.slice q r.W.length c]
def StV (w:World) (v:Value) (r:Rs):Prop := ∃ p q c,v = stV p q c r ∧ StR w p q c r
theorem StV.nil (w:World):StV w (.agg #[.pointer none,.int .i64 0,.slice none 0 0]) nilR := ⟨none,none,0,rfl,rfl,RdR.nil _ _ _,fun _ => rfl⟩
theorem OwnRs.st {T:TypeId} {w:World} {B:Nat} {v:Value} {Z:List (Rw × Value)} {W:List Rw} (h:OwnRs .i64 T w B v Z) (hL:Z.map Prod.fst = W):∃ q c,v = .slice q W.length c ∧ RdR .i64 w w.heap.size q W ∧ (q = none → c = 0) := by
 obtain ⟨p,c,e,hn,hr⟩ := h.rd hL
 exact ⟨p,c,e,hr,hn⟩
theorem Pst.ne {w:World} {p:Option Addr} {L:List Rw} (h:Pst w p L):L.isEmpty = p.isNone := by
 cases L with
 | nil => cases h; rfl
 | cons v L => obtain ⟨g,q,c,nx,rfl,_⟩ := h; rfl

end Go.Proofs.YtcibcfghkidncaaGreatDoor
