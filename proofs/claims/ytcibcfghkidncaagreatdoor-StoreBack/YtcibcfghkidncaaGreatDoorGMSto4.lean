/- The document's rows, turned one by one: plain mathematics. The document's store: rows are made one behind the other. The document's store: Fold. The document's store: Back. -/
import Derived.Test.YtcibcfghkidncaaGreatDoorGWSto19
import Derived.Test.YtcibcfghkidncaaGreatDoorGWDoc12
namespace Go.Proofs.YtcibcfghkidncaaGreatDoor

def atT (t:Int) (f:Rs → Rs) (r:Rs):Rs := if r.tx = t ∧ t ≠ 0 then f r else r
theorem mapT_atT (f:Rs → Rs) (t:Int) (M:List Rs):mapT f t M = M.map (atT t f) := rfl
def outL (g:Rs → Rs) (L:List (Nat × Rs)):List (Nat × Rs) := (L.map (fun p => (p.1,g p.2))).filter (fun p => thr p.2)
def goneL (g:Rs → Rs) (L:List (Nat × Rs)):List Nat := ((L.map (fun p => (p.1,g p.2))).filter (fun p => !thr p.2)).map Prod.fst
theorem outL_in {g:Rs → Rs} {L:List (Nat × Rs)} {j:Nat} (hj:j < L.length) (h:thr (g L[j].2) = true):outL g (L.take (j + 1)) = outL g (L.take j) ++ [(L[j].1,g L[j].2)] := by
 unfold outL
 rw [List.take_add_one,List.getElem?_eq_getElem hj,List.map_append,List.filter_append]
 simp [h]
theorem outL_off {g:Rs → Rs} {L:List (Nat × Rs)} {j:Nat} (hj:j < L.length) (h:thr (g L[j].2) = false):outL g (L.take (j + 1)) = outL g (L.take j) := by
 unfold outL
 rw [List.take_add_one,List.getElem?_eq_getElem hj,List.map_append,List.filter_append]
 simp [h]
theorem goneL_in {g:Rs → Rs} {L:List (Nat × Rs)} {j:Nat} (hj:j < L.length) (h:thr (g L[j].2) = false):goneL g (L.take (j + 1)) = goneL g (L.take j) ++ [L[j].1] := by
 unfold goneL
 rw [List.take_add_one,List.getElem?_eq_getElem hj,List.map_append,List.filter_append]
 simp [h]
theorem goneL_off {g:Rs → Rs} {L:List (Nat × Rs)} {j:Nat} (hj:j < L.length) (h:thr (g L[j].2) = true):goneL g (L.take (j + 1)) = goneL g (L.take j) := by
 unfold goneL
 rw [List.take_add_one,List.getElem?_eq_getElem hj,List.map_append,List.filter_append]
 simp [h]
theorem outL_len (g:Rs → Rs) (L:List (Nat × Rs)) (j:Nat):(outL g (L.take j)).length ≤ L.length := by
 unfold outL
 refine Nat.le_trans (List.length_filter_le _ _) ?_
 rw [List.length_map,List.length_take]
 omega
theorem goneL_len (g:Rs → Rs) (L:List (Nat × Rs)) (j:Nat):(goneL g (L.take j)).length ≤ L.length := by
 unfold goneL
 rw [List.length_map]
 refine Nat.le_trans (List.length_filter_le _ _) ?_
 rw [List.length_map,List.length_take]
 omega
theorem outL_zero (g:Rs → Rs) (L:List (Nat × Rs)):outL g (L.take 0) = [] := by simp [outL]
theorem goneL_zero (g:Rs → Rs) (L:List (Nat × Rs)):goneL g (L.take 0) = [] := by simp [goneL]
theorem thr_tx0 {r:Rs} (h:thr r = false):r.tx = 0 := by
 by_cases e:r.tx = 0
 ·exact e
 ·rw [tx_thr e] at h
  cases h
theorem docL_atT (f:Rs → Rs) (t:Int) (M:List Rs):docL (mapT f t M) = outL (atT t f) (docL M) := by
 refine docL_map (f := atT t f) (fun r _ h => ?_)
 unfold atT
 rw [if_neg (fun hc => hc.2 (by rw [← hc.1]; exact thr_tx0 h))]
 exact h
theorem thr_fld (s:Int) (r:Rs):thr (fldR s r) = thr r := rfl
theorem thr_atT_fld (t s:Int) (r:Rs):thr (atT t (fldR s) r) = thr r := by
 unfold atT
 split
 ·exact thr_fld s r
 ·rfl
theorem docL_mem {M:List Rs} {q:Nat × Rs} (h:q ∈ docL M):q.2 ∈ M ∧ thr q.2 = true := by
 unfold docL at h
 obtain ⟨x,hx,rfl⟩ := List.mem_map.1 h
 obtain ⟨r,hr,ht⟩ := mem_slM.1 hx
 have hd:M.getD x nilR = r := by rw [List.getD_eq_getElem?_getD,hr]; rfl
 exact ⟨by rw [show (x,M.getD x nilR).2 = r from hd]; exact List.mem_of_getElem? hr,by rw [show (x,M.getD x nilR).2 = r from hd]; exact ht⟩
theorem docL_ok {J:Nat} {M:List Rs} (hM:∀ r ∈ M,OkR J r) {q:Nat × Rs} (h:q ∈ docL M):OkR J q.2 := hM _ (docL_mem h).1
theorem thr_doc {J:Nat} {r:Rs} (h:OkR J r):thr r = (decide (0 < r.L.length) || decide (0 < r.W.length)) := by
 unfold thr
 have h1:decide (r.tx ≠ 0) = decide (0 < r.W.length) := by
  rw [decide_eq_decide]
  constructor
  ·intro hn
   rcases Nat.eq_zero_or_pos r.W.length with e | e
   ·exact absurd (h.tx0.2 (List.eq_nil_of_length_eq_zero e)) hn
   ·exact e
  ·intro hp e
   rw [h.tx0.1 e] at hp
   cases hp
 rw [h1]
 cases r.L <;> simp
theorem tx_doc {J:Nat} {r:Rs} (h:OkR J r) {t:Int}:(r.tx = t ∧ t ≠ 0) ↔ (r.tx = t ∧ 0 < r.W.length) := by
 constructor
 ·rintro ⟨h1,h2⟩
  refine ⟨h1,?_⟩
  rcases Nat.eq_zero_or_pos r.W.length with e | e
  ·exact absurd (h1.symm.trans (h.tx0.2 (List.eq_nil_of_length_eq_zero e))) h2
  ·exact e
 ·rintro ⟨h1,h2⟩
  refine ⟨h1,fun e => ?_⟩
  rw [h.tx0.1 (h1.trans e)] at h2
  cases h2
theorem docL_prn {s:Int} {M:List Rs}:docL (M.map (prnR s)) = outL (prnR s) (docL M) := by
 refine docL_map (f := prnR s) (fun r _ h => ?_)
 have h1:r.L = [] := by
  cases e:r.L with
  | nil => rfl
  | cons a l => simp [thr,e] at h
 have h2 := thr_tx0 h
 have h3:prnL r.L s = [] := by
  rw [h1]
  have := prnL_len [] s
  exact List.eq_nil_of_length_eq_zero (Nat.le_zero.1 this)
 unfold thr prnR
 rw [h3]
 simp [h2]
def wntL (s:Int) (L:List (Nat × Rs)):Nat := (L.map (fun p => p.2.L.length - (prnL p.2.L s).length)).sum
theorem wntL_in {s:Int} {L:List (Nat × Rs)} {j:Nat} (hj:j < L.length):wntL s (L.take (j + 1)) = wntL s (L.take j) + (L[j].2.L.length - (prnL L[j].2.L s).length) := by
 unfold wntL
 rw [List.take_add_one,List.getElem?_eq_getElem hj,List.map_append,List.sum_append]
 simp
def cntL (t:Int) (L:List (Nat × Rs)):Nat := (L.filter (fun p => decide (p.2.tx = t ∧ t ≠ 0))).length
theorem cntL_in {t:Int} {L:List (Nat × Rs)} {j:Nat} (hj:j < L.length) (h:L[j].2.tx = t ∧ t ≠ 0):cntL t (L.take (j + 1)) = cntL t (L.take j) + 1 := by
 unfold cntL
 rw [List.take_add_one,List.getElem?_eq_getElem hj,List.filter_append,List.length_append]
 simp [h]
theorem cntL_off {t:Int} {L:List (Nat × Rs)} {j:Nat} (hj:j < L.length) (h:¬ (L[j].2.tx = t ∧ t ≠ 0)):cntL t (L.take (j + 1)) = cntL t (L.take j) := by
 unfold cntL
 rw [List.take_add_one,List.getElem?_eq_getElem hj,List.filter_append,List.length_append]
 simp [h]
theorem wnt_doc (s:Int) (M:List Rs):((slM M).map (wntA s M)).sum = wntL s (docL M) := by
 unfold wntL docL
 rw [List.map_map]
 rfl
theorem gon_doc (s:Int) (M:List Rs):(slM M).filter (gonA s M) = goneL (prnR s) (docL M) := by
 unfold goneL docL
 rw [List.map_map,List.filter_map,List.map_map]
 refine Eq.trans ?_ (List.map_id _).symm
 rfl
theorem cnt_doc {t:Int} {M:List Rs} {L:List Nat} (hn:L.Nodup) (hm:∀ x,x ∈ L ↔ t ≠ 0 ∧ ∃ r,M[x]? = some r ∧ r.tx = t):L.length = cntL t (docL M) := by
 unfold cntL docL
 rw [List.filter_map,List.length_map]
 refine List.Perm.length_eq ((List.perm_ext_iff_of_nodup hn (List.Pairwise.filter _ (slM_nodup M))).2 fun x => ?_)
 rw [hm x,List.mem_filter,mem_slM]
 constructor
 ·rintro ⟨h0,r,hr,ht⟩
  have hd:M.getD x nilR = r := by rw [List.getD_eq_getElem?_getD,hr]; rfl
  refine ⟨⟨r,hr,tx_thr (by rw [ht]; exact h0)⟩,?_⟩
  show decide ((M.getD x nilR).tx = t ∧ t ≠ 0) = true
  rw [hd]
  exact decide_eq_true ⟨ht,h0⟩
 ·rintro ⟨⟨r,hr,_⟩,hg⟩
  have hd:M.getD x nilR = r := by rw [List.getD_eq_getElem?_getD,hr]; rfl
  have hg':decide ((M.getD x nilR).tx = t ∧ t ≠ 0) = true := hg
  rw [hd] at hg'
  have := of_decide_eq_true hg'
  exact ⟨this.2,r,hr,this.1⟩
theorem gone_back {J:Nat} {M:List Rs} (hM:∀ r ∈ M,OkR J r) {t s:Int} {G:List Nat} (hG:G.Pairwise (· < ·)) (hm:∀ x,x ∈ G ↔ t ≠ 0 ∧ ∃ r,M[x]? = some r ∧ r.tx = t ∧ thr (bakR s r) = false):G = goneL (atT t (bakR s)) (docL M) := back_gone hM hG hm

end Go.Proofs.YtcibcfghkidncaaGreatDoor

namespace Go.Proofs.YtcibcfghkidncaaGreatDoor
open Go.RowKit Go.Lib
set_option maxRecDepth 100000

theorem pln4 (a:Int) (p:Option Addr) (n c:Nat) (b:Int) (q:Option Addr) (m d:Nat):Pln #[.int .i64 a,.slice p n c,.int .i64 b,.slice q m d] := by
 refine ⟨fun j k n b h1 h2 => ?_,fun j q f h1 => ?_⟩
 ·rcases j with _ | _ | _ | _ | j <;> simp at h1 h2
 ·rcases j with _ | _ | _ | _ | j <;> simp at h1
theorem box_cell {w:World} {g:Nat} {cs:Array Value} {T:TypeId} (h:Box w g cs T) {i:Nat} {v:Value} (hi:cs[i]? = some v):w.cell? ⟨g,i,none⟩ = some v := by
 unfold Box at h
 simp [World.cell?,h,hi]
theorem box_frz {w:World} {g:Nat} {cs:Array Value} {T:TypeId} (h:Box w g cs T) (i:Nat):w.frozen? ⟨g,i,none⟩ = false := by
 unfold Box at h
 simp [World.frozen?,h]
theorem box4 {w:World} {g:Nat} {a b c d:Value} {T:TypeId} (h:Box w g #[a,b,c,d] T):(w.cell? ⟨g,0,none⟩ = some a ∧ w.cell? ⟨g,1,none⟩ = some b ∧ w.cell? ⟨g,2,none⟩ = some c ∧ w.cell? ⟨g,3,none⟩ = some d) ∧ w.frozen? ⟨g,1,none⟩ = false ∧ w.frozen? ⟨g,2,none⟩ = false ∧ w.frozen? ⟨g,3,none⟩ = false :=
 ⟨⟨box_cell h rfl,box_cell h rfl,box_cell h rfl,box_cell h rfl⟩,box_frz h _,box_frz h _,box_frz h _⟩
theorem DocS.base {w:World} {B C:Nat} {v:Value} {L:List (Nat × Rs)} (h:DocS w B v L) (hc:C ≤ B):DocS w C v L := by
 obtain ⟨Z,e,ho,hz⟩ := h
 exact ⟨Z,e,owns_base ho hc,hz⟩
structure DL (w wq:World) (B most:Nat) (sv u:Value) (A:List (Nat × Rs)) (b0 br bo:Nat):Prop where
 bel:Below w.heap.size w wq
 s:Box wq b0 #[.int .i64 (most:Nat),sv] 29
 r:Box wq br #[.int .i64 0,.slice none 0 0] 29
 o:Box wq bo #[.int .i64 (most:Nat),u] 29
 d:DocN wq B u A
 lt:w.heap.size ≤ b0 ∧ w.heap.size ≤ br ∧ w.heap.size ≤ bo ∧ b0 < B ∧ br < B ∧ bo < B ∧ b0 ≠ bo ∧ br ≠ bo
 hB:B ≤ wq.heap.size
section
variable {w wq:World} {B most:Nat} {sv u:Value} {A:List (Nat × Rs)} {b0 br bo:Nat}
theorem DL.on {w':World} (h:DL w wq B most sv u A b0 br bo) (hb:Below wq.heap.size wq w'):DL w w' B most sv u A b0 br bo :=
 ⟨h.bel.trans (hb.mono h.bel.size),h.s.on hb,h.r.on hb,h.o.on hb,h.d.on hb,h.lt,Nat.le_trans h.hB hb.size⟩
theorem DL.cells (h:DL w wq B most sv u A b0 br bo):wq.cell? ⟨b0,0,none⟩ = some (.int .i64 (most:Nat)) ∧ wq.cell? ⟨b0,1,none⟩ = some sv ∧ wq.cell? ⟨bo,0,none⟩ = some (.int .i64 (most:Nat)) ∧ wq.cell? ⟨bo,1,none⟩ = some u ∧ wq.frozen? ⟨bo,1,none⟩ = false ∧ wq.frozen? ⟨br,0,none⟩ = false ∧ wq.frozen? ⟨br,1,none⟩ = false ∧ wq.cell? ⟨br,0,none⟩ = some (.int .i64 0) ∧ wq.cell? ⟨br,1,none⟩ = some (.slice none 0 0) :=
 ⟨box_cell h.s rfl,box_cell h.s rfl,box_cell h.o rfl,box_cell h.o rfl,box_frz h.o _,box_frz h.r _,box_frz h.r _,box_cell h.r rfl,box_cell h.r rfl⟩
theorem DL.len (h:DL w wq B most sv u A b0 br bo):∃ p c,u = .slice p A.length c ∧ A.length ≤ c := h.d.1.len
theorem DL.frm {w':World} {k:Nat} (h:DL w wq B most sv u A b0 br bo) (hf:Frm wq w' (one1 k)) (hi:ImV wq w') (hk:B ≤ k) (hu:u.ownBlock ≠ some k):DL w w' B most sv u A b0 br bo := by
 have hl := h.lt
 refine ⟨h.bel.trans (hf.below h.bel.size (fun j hj => by rw [show j = k from hj]; omega)),h.s.frm hf (fun e => ?_),h.r.frm hf (fun e => ?_),h.o.frm hf (fun e => ?_),h.d.frm hf hi (fun g hg e => hu (by rw [hg,show g = k from e])),h.lt,Nat.le_trans h.hB hf.size⟩
 ·have:b0 = k := e; omega
 ·have:br = k := e; omega
 ·have:bo = k := e; omega
theorem DL.app {w6:World} {v6:Value} {A':List (Nat × Rs)} (h:DL w wq B most sv u A b0 br bo) (hd:DocN w6 B v6 A') (hf:Frm wq w6 (fun g => u.ownBlock = some g)):DL w (w6.setCell ⟨bo,1,none⟩ v6) B most sv v6 A' b0 br bo := by
 have hl := h.lt
 have hu := h.d.1.lt
 have ng:∀ b,b < B → ¬ (u.ownBlock = some b) := fun b hb e => by have := (hu b e).1; omega
 have hb:Below w.heap.size w w6 := h.bel.trans (hf.below h.bel.size (fun j hj => by have := (hu j hj).1; omega))
 have hs := h.s.frm hf (ng _ hl.2.2.2.1)
 have hr := h.r.frm hf (ng _ hl.2.2.2.2.1)
 have ho := h.o.frm hf (ng _ hl.2.2.2.2.2.1)
 have hF := frm_set w6 bo 1 v6 (F := one1 bo) (.inl rfl)
 obtain ⟨p,c,rfl,_⟩ := h.d.1.len
 refine ⟨hb.trans (hF.below hb.size (fun j hj => by rw [show j = bo from hj]; exact hl.2.2.1)),hs.frm hF hl.2.2.2.2.2.2.1,hr.frm hF hl.2.2.2.2.2.2.2,ho.set (i := 1) v6,hd.frm hF (ImV.set ho (pln2 _ _ _ _ _)) (fun g hg e => ?_),h.lt,Nat.le_trans h.hB (Nat.le_trans hf.size hF.size)⟩
 have h1 := (hd.1.lt g hg).1
 have:g = bo := e
 omega
theorem DL.fin (h:DL w wq B most sv u A b0 br bo) (hw:w.heap.size ≤ B):((wq.setCell ⟨br,0,none⟩ (.int .i64 (most:Nat))).setCell ⟨br,1,none⟩ u).cell? ⟨br,0,none⟩ = some (.int .i64 (most:Nat)) ∧ ((wq.setCell ⟨br,0,none⟩ (.int .i64 (most:Nat))).setCell ⟨br,1,none⟩ u).cell? ⟨br,1,none⟩ = some u ∧ DocS ((wq.setCell ⟨br,0,none⟩ (.int .i64 (most:Nat))).setCell ⟨br,1,none⟩ u) w.heap.size u A ∧ Below w.heap.size w ((wq.setCell ⟨br,0,none⟩ (.int .i64 (most:Nat))).setCell ⟨br,1,none⟩ u) := by
 have hl := h.lt
 have h1 := h.r.set (i := 0) (.int .i64 (most:Nat))
 have h2 := h1.set (i := 1) u
 have hF1 := frm_set wq br 0 (.int .i64 (most:Nat)) (F := one1 br) (.inl rfl)
 have hF2 := frm_set (wq.setCell ⟨br,0,none⟩ (.int .i64 (most:Nat))) br 1 u (F := one1 br) (.inl rfl)
 have hF := hF1.trans hF2 (fun k hk => .inl hk)
 have hI := (ImV.set (i := 0) (x := .int .i64 (most:Nat)) h.r (pln2 _ _ _ _ _)).trans (ImV.set (i := 1) (x := u) h1 (pln2 _ _ _ _ _))
 refine ⟨box_cell h2 rfl,box_cell h2 rfl,((h.d.frm hF hI (fun g hg e => ?_)).1).base hw,h.bel.trans (hF.below h.bel.size (fun j hj => by rw [show j = br from hj]; exact hl.2.1))⟩
 have h3 := (h.d.1.lt g hg).1
 have:g = br := e
 omega
theorem DL.same (h:DL w wq B most sv u A b0 br bo):((wq.setCell ⟨br,0,none⟩ (.int .i64 (most:Nat))).setCell ⟨br,1,none⟩ sv).cell? ⟨br,0,none⟩ = some (.int .i64 (most:Nat)) ∧ ((wq.setCell ⟨br,0,none⟩ (.int .i64 (most:Nat))).setCell ⟨br,1,none⟩ sv).cell? ⟨br,1,none⟩ = some sv ∧ Below w.heap.size w ((wq.setCell ⟨br,0,none⟩ (.int .i64 (most:Nat))).setCell ⟨br,1,none⟩ sv) := by
 have hl := h.lt
 have h1 := h.r.set (i := 0) (.int .i64 (most:Nat))
 have h2 := h1.set (i := 1) sv
 have hF1 := frm_set wq br 0 (.int .i64 (most:Nat)) (F := one1 br) (.inl rfl)
 have hF2 := frm_set (wq.setCell ⟨br,0,none⟩ (.int .i64 (most:Nat))) br 1 sv (F := one1 br) (.inl rfl)
 have hF := hF1.trans hF2 (fun k hk => .inl hk)
 exact ⟨box_cell h2 rfl,box_cell h2 rfl,h.bel.trans (hF.below h.bel.size (fun j hj => by rw [show j = br from hj]; exact hl.2.1))⟩
end
theorem DL.start (w:World) (most:Nat) (sv:Value):DL w (((w.alloc (.cells #[.int .i64 (most:Nat),sv] 29)).alloc (.cells #[.int .i64 0,.slice none 0 0] 29)).alloc (.cells #[.int .i64 (most:Nat),.slice none 0 0] 29)) (w.heap.size + 3) most sv (.slice none 0 0) [] w.heap.size (w.heap.size + 1) (w.heap.size + 1 + 1) := by
 obtain ⟨a1,a2,a3,a4⟩ := two_new w #[.int .i64 (most:Nat),sv] #[.int .i64 0,.slice none 0 0] 29 29
 obtain ⟨b1,b2,b3⟩ := one_new ((w.alloc (.cells #[.int .i64 (most:Nat),sv] 29)).alloc (.cells #[.int .i64 0,.slice none 0 0] 29)) #[.int .i64 (most:Nat),.slice none 0 0] 29
 rw [a4] at b1
 exact ⟨a3.trans (b2.mono a3.size),a1.on b2,a2.on b2,b1,DocN.nil _ _,by omega,by rw [b3,a4]; exact Nat.le_refl _⟩

end Go.Proofs.YtcibcfghkidncaaGreatDoor

namespace Go.Proofs.YtcibcfghkidncaaGreatDoor
open Go.RowKit Go.Lib
set_option maxRecDepth 100000

theorem DL.o6 {w wq w6:World} {B most:Nat} {sv u:Value} {A:List (Nat × Rs)} {b0 br bo:Nat} (h:DL w wq B most sv u A b0 br bo) (hf:Frm wq w6 (fun g => u.ownBlock = some g)):w6.cell? ⟨bo,1,none⟩ = some u ∧ w6.frozen? ⟨bo,1,none⟩ = false := by
 have hl := h.lt
 have ho := h.o.frm hf (fun e => by have := (h.d.1.lt _ e).1; omega)
 exact ⟨box_cell ho rfl,box_frz ho _⟩
theorem SlR.rd {k:IntKind} {w:World} {p:Option Addr} {n c:Nat} {L:List Rw} (h:SlR k w (.slice p n c) L):RdR k w w.heap.size p L := by
 obtain ⟨p',c',e,hr,_⟩ := h
 injection e with e1 _ _
 rw [e1]
 exact hr
theorem SlR.nl {w:World} {p:Option Addr} {n c:Nat} {L:List Rw} (h:SlR .u64 w (.slice p n c) L):p = none → c = 0 := by
 obtain ⟨p',c',e,_,hn⟩ := h
 injection e with e1 _ e3
 rw [e1,e3]
 exact hn rfl
theorem DL.row {w wq:World} {B B0 most n c:Nat} {p:Option Addr} {sv u:Value} {A L:List (Nat × Rs)} {b0 br bo j:Nat} (h:DL w wq B most sv u A b0 br bo) (hD:DocS w B0 (.slice p n c) L) (hj:j < L.length) {k:Nat} {rL rW:List Rw} {tx:Int} (hq:L[j] = (k,⟨rL,tx,rW⟩)):∃ g pl cl pw cw,p = some ⟨g,0,none⟩ ∧ (wq.cell? ⟨g,j * 4,none⟩ = some (.int .i64 (k:Nat)) ∧ wq.cell? ⟨g,j * 4 + 1,none⟩ = some (.slice pl rL.length cl) ∧ wq.cell? ⟨g,j * 4 + 2,none⟩ = some (.int .i64 tx) ∧ wq.cell? ⟨g,j * 4 + 3,none⟩ = some (.slice pw rW.length cw)) ∧ SlR .u64 wq (.slice pl rL.length cl) rL ∧ SlR .i64 wq (.slice pw rW.length cw) rW := by
 obtain ⟨g,c',vl,vw,e,hg,a0,a1,a2,a3,a4,a5⟩ := hD.at hj
 injection e with e1 e2 e3
 have hi := Imm.of_below h.bel
 have kk:∀ (m:Nat) (v:Option Value),w.cell? ⟨g,m,none⟩ = v → wq.cell? ⟨g,m,none⟩ = v := fun m v hc => (h.bel.cell (p := ⟨g,m,none⟩) hg).trans hc
 rw [hq] at a0 a2 a4 a5
 have b4 := a4.imm hi
 have b5 := a5.imm hi
 obtain ⟨pl,cl,rfl,_⟩ := a4
 obtain ⟨pw,cw,rfl,_⟩ := a5
 exact ⟨g,pl,cl,pw,cw,e1,⟨kk _ _ a0,kk _ _ a1,kk _ _ a2,kk _ _ a3⟩,b4,b5⟩
theorem row_int {w:World} {g:Nat} {k tx:Int} {pl pw:Option Addr} {nl cl nw cw:Nat} (h:Box w g #[.int .i64 k,.slice pl nl cl,.int .i64 tx,.slice pw nw cw] 77) (t':Int) (q':Option Addr) (n' c':Nat) :
  Box ((w.setCell ⟨g,2,none⟩ (.int .i64 t')).setCell ⟨g,3,none⟩ (.slice q' n' c')) g #[.int .i64 k,.slice pl nl cl,.int .i64 t',.slice q' n' c'] 77 ∧ ImV w ((w.setCell ⟨g,2,none⟩ (.int .i64 t')).setCell ⟨g,3,none⟩ (.slice q' n' c')) ∧ Frm w ((w.setCell ⟨g,2,none⟩ (.int .i64 t')).setCell ⟨g,3,none⟩ (.slice q' n' c')) (one1 g) := by
 have h1 := h.set (i := 2) (.int .i64 t')
 have h2 := h1.set (i := 3) (.slice q' n' c')
 refine ⟨h2,?_,?_⟩
 ·exact (ImV.set h (pln4 ..)).trans (ImV.set h1 (pln4 k pl nl cl t' pw nw cw))
 ·exact (frm_set w g 2 _ (F := one1 g) (.inl rfl)).trans (frm_set _ g 3 _ (F := one1 g) (.inl rfl)) (fun k hk => .inl hk)

set_option maxHeartbeats 4000000 in
theorem foldD_ok (B0 most J:Nat) (v:Value) (L:List (Nat × Rs)) (t s:Int) (w:World) (h:DocS w B0 v L) (hO:∀ q ∈ L,OkR J q.2 ∧ thr q.2 = true) (hl:L.length ≤ 65536) (hJ:J ≤ 3518437208882) (hs:1 ≤ s) (hs2:s ≤ 9223372036854775807) :
  Calls Tryz.prog 36 #[.agg #[.int .i64 (most:Nat),v],.int .i64 t,.int .i64 s] w fun e w' => (∃ v',e = .returned (.tuple #[.agg #[.int .i64 (most:Nat),v'],.int .i64 0]) ∧ DocS w' w.heap.size v' (outL (atT t (fldR s)) L)) ∧ Below w.heap.size w w' := by
 obtain ⟨p,c,rfl,_⟩ := h.len
 have HD:Hid (DocS w B0 (.slice p L.length c) L) := h
 have H0:Hid (DL w _ _ _ _ _ _ _ _ _) := DL.start w most (.slice p L.length c)
 have HO:Hid (∀ q ∈ L,OkR J q.2 ∧ thr q.2 = true) := hO
 have hs0:¬ s < 1 := by omega
 clear h hO
 obtain ⟨n,hn⟩:∃ n,L.length = n := ⟨_,rfl⟩
 rw [hn] at HD H0 hl
 rw [hn]
 have HN:Hid (L.length = n) := hn
 clear hn
 go_enter Tryz.func36,Tryz.ntmps36
 go_upto_region 4 with fail
 generalize (((w.alloc (.cells #[.int .i64 (most:Nat),.slice p n c] 29)).alloc (.cells #[.int .i64 0,.slice none 0 0] 29)).alloc (.cells #[.int .i64 (most:Nat),.slice none 0 0] 29)) = w0 at *
 go_wp2_with fail
 go_loopw [9] (fun i wq => ∃ (j:Nat) (u:Value),j ≤ n ∧ i = .int .i64 (j:Int) ∧ Hid (DL w wq (w.heap.size + 3) most (.slice p n c) u (outL (atT t (fldR s)) (L.take j)) w.heap.size (w.heap.size + 1) (w.heap.size + 1 + 1))) (fun i _ => n - (intOf i).toNat)
 case atStart => exact ⟨0,_,Nat.zero_le _,by go_num,by rw [outL_zero]; exact H0⟩
 case round =>
  obtain ⟨j,u,hj,rfl,HL⟩ := hrel
  obtain ⟨s0,s1,o0,o1,o2,r0,r1,_,_⟩ := HL.out.cells
  have HA:Hid ((outL (atT t (fldR s)) (L.take j)).length ≤ 65536) := Nat.le_trans (outL_len _ _ _) (by rw [HN.out]; exact hl)
  obtain ⟨pu,nu,cu,e⟩:∃ pu nu cu,u = .slice pu nu cu := by
   obtain ⟨pu,cu,e,_⟩ := HL.out.len
   exact ⟨pu,_,cu,e⟩
  subst e
  by_cases hj0:j = n
  ·subst hj0
   have HL2:Hid (DL w wr (w.heap.size + 3) most (.slice p j c) (.slice pu nu cu) (outL (atT t (fldR s)) L) w.heap.size (w.heap.size + 1) (w.heap.size + 1 + 1)) := by
    have h1 := HL.out
    rw [← HN.out,List.take_length,HN.out] at h1
    exact h1
   clear HL HA
   go_wp2_with fail
   obtain ⟨f0,f1,fd,fb⟩ := HL2.out.fin (by omega)
   generalize (wr.setCell ⟨w.heap.size + 1,0,none⟩ (.int .i64 (most:Nat))).setCell ⟨w.heap.size + 1,1,none⟩ (.slice pu nu cu) = w9 at *
   (try simp only [Exit.inBlock,Exit.then])
   refine bodyPost_ret (v := .tuple #[.agg #[.int .i64 (most:Nat),.slice pu nu cu],.int .i64 0]) (by simp [results,Tryz.results36,go_sem,f0,f1]) rfl ?_
   exact ⟨⟨_,rfl,fd⟩,fb⟩
  ·have hj1:j < L.length := by rw [HN.out]; omega
   have hjn:j < n := by omega
   obtain ⟨⟨k,rL,tx,rW⟩,hq⟩:∃ q,L[j] = q := ⟨_,rfl⟩
   have HR:Hid (OkR J ⟨rL,tx,rW⟩ ∧ thr ⟨rL,tx,rW⟩ = true) := by
    have := HO.out _ (List.getElem_mem hj1)
    rw [hq] at this
    exact this
   have HSt:Hid (outL (atT t (fldR s)) (L.take (j + 1)) = outL (atT t (fldR s)) (L.take j) ++ [(k,(atT t (fldR s)) ⟨rL,tx,rW⟩)]) := by
    have := outL_in (g := (atT t (fldR s))) hj1 (by rw [hq,thr_atT_fld]; exact HR.out.2)
    rw [hq] at this
    exact this
   obtain ⟨g,pl,cl,pw,cw,e,⟨a0,a1,a2,a3⟩,SL,SW⟩ := HL.out.row HD.out hj1 hq
   subst e
   clear hq hj1
   obtain ⟨bX,bB,bS⟩ := one_new wr #[.int .i64 (k:Nat),.slice pl rL.length cl,.int .i64 tx,.slice pw rW.length cw] 77
   have HLx := HL.out.on bB
   have SLx := SL.imm (Imm.of_below bB)
   have SWx := SW.imm (Imm.of_below bB)
   have C1:Hid (Calls _ _ _ _ _) := rfold_any rW pw cw tx s _ SWx.rd (by have h1 := HR.out.1.nW; have h2:rW.length ≤ J := h1; omega) hs2 HR.out.1.mai
   have HX2:Hid (Box _ _ _ _) := bX
   have HL2:Hid (DL w _ _ _ _ _ _ _ _ _) := HLx
   have SL2:Hid (SlR .u64 _ _ _) := SLx
   have SW2:Hid (SlR .i64 _ _ _) := SWx
   have HBx:Hid (wr.heap.size < (wr.alloc (.cells #[.int .i64 (k:Nat),.slice pl rL.length cl,.int .i64 tx,.slice pw rW.length cw] 77)).heap.size ∧ w.heap.size + 3 ≤ wr.heap.size ∧ (Value.slice pu nu cu).ownBlock ≠ some wr.heap.size) := ⟨by rw [bS]; omega,HL.out.hB,fun e => by have := (HL.out.d.1.lt _ e).2; omega⟩
   clear bX bB bS HLx SLx SWx SL SW
   by_cases hit:tx = t ∧ 0 < rW.length
   ·have HG:Hid ((atT t (fldR s)) ⟨rL,tx,rW⟩ = ⟨rL,tx,fldL rW s⟩) := by
     show (atT t (fldR s)) _ = _
     unfold atT
     rw [if_pos ((tx_doc HR.out.1).2 hit)]
     rfl
    obtain ⟨ht,hw0⟩ := hit
    subst ht
    generalize rW.length = nw at *
    generalize rL.length = nl at *
    go_upto_region 8 with fail
    generalize (wr.alloc (.cells #[.int .i64 (k:Nat),.slice pl nl cl,.int .i64 tx,.slice pw nw cw] 77)) = wx at *
    obtain ⟨⟨x0,x1,x2,x3⟩,_⟩ := box4 HX2.out
    go_wp2_with fail
    refine C1.out.mono ?_
    rintro e w1 ⟨⟨p',c',rfl,hr1⟩,hb1⟩
    have hX1 := HX2.out.on hb1
    have hL1 := HL2.out.on hb1
    have sl1 := SL2.out.imm (Imm.of_below hb1)
    obtain ⟨⟨y0,y1,y2,y3⟩,z1,z2,z3⟩ := box4 hX1
    have e1:fldT tx s = tx := by unfold fldT; rw [if_neg (by omega)]
    rw [e1]
    obtain ⟨b1,b2,b3⟩ := row_int hX1 tx p' (fldL rW s).length c'
    have HX3:Hid (Box _ _ _ _) := b1
    have HL3:Hid (DL w _ _ _ _ _ _ _ _ _) := hL1.frm b3 b2 HBx.out.2.1 HBx.out.2.2
    have SL3:Hid (SlR .u64 _ _ _) := sl1.imv b2
    have SW3:Hid (SlR .i64 _ (.slice p' (fldL rW s).length c') (fldL rW s)) := SlR.imv (w := w1) ⟨p',c',rfl,hr1,fun h => by cases h⟩ b2
    clear hX1 hL1 sl1 b1 b2 b3 hr1 C1 HX2 HL2 SL2 SW2
    generalize hnf:(fldL rW s).length = nf at *
    go_upto_region 10 with fail
    generalize (w1.setCell ⟨wr.heap.size,2,none⟩ (.int .i64 tx)).setCell ⟨wr.heap.size,3,none⟩ (.slice p' nf c') = w2 at *
    obtain ⟨⟨x0,x1,x2,x3⟩,_⟩ := box4 HX3.out
    obtain ⟨_,s1,_,o1,o2,_⟩ := HL3.out.cells
    have hb2 := HL3.out.hB
    go_wp2_with (first | (at_builtin; go_loud (refine wpList_doc w2 rfl (.tmp 50) (.tmp 52) rfl (w.heap.size + 3) _ _ (by rfl) HL3.out.d k ⟨rL,tx,fldL rW s⟩ _ _ SL3.out SW3.out _ rfl (by simp) HA.out hb2 ?_); intro v6 w6 d6 g6 f6 i6; obtain ⟨k1,k2⟩ := HL3.out.o6 f6; obtain ⟨p6,n6,c6,e6⟩:∃ p6 n6 c6,v6 = .slice p6 n6 c6 := (by obtain ⟨p6,c6,e6,_⟩ := d6.1.len; exact ⟨p6,_,c6,e6⟩); subst e6; clear g6))
    have HL6 := HL3.out.app d6 f6
    go_roundw
    case rel => exact ⟨j + 1,_,by omega,by go_num,by rw [HSt.out,HG.out]; exact HL6⟩
    case measure => simp [intOf]; omega
   ·have HG:Hid ((atT t (fldR s)) ⟨rL,tx,rW⟩ = ⟨rL,tx,rW⟩) := by
     show (atT t (fldR s)) _ = _
     unfold atT
     rw [if_neg (fun h => hit ((tx_doc HR.out.1).1 h))]
    clear C1
    have hc:tx ≠ t ∨ (tx = t ∧ rW.length = 0) := by omega
    clear hit
    generalize rW.length = nw at *
    generalize rL.length = nl at *
    rcases hc with hc | ⟨hc,hz⟩
    ·have hb:(tx == t) = false := by simp [hc]
     go_upto_region 8 with fail
     generalize (wr.alloc (.cells #[.int .i64 (k:Nat),.slice pl nl cl,.int .i64 tx,.slice pw nw cw] 77)) = wx at *
     obtain ⟨⟨x0,x1,x2,x3⟩,_⟩ := box4 HX2.out
     obtain ⟨_,s1,_,o1,o2,_⟩ := HL2.out.cells
     have hb2 := HL2.out.hB
     go_wp2_with (first | (at_builtin; go_loud (refine wpList_doc wx rfl (.tmp 50) (.tmp 52) rfl (w.heap.size + 3) _ _ (by rfl) HL2.out.d k ⟨rL,tx,rW⟩ _ _ SL2.out SW2.out _ rfl (by simp) HA.out hb2 ?_); intro v6 w6 d6 g6 f6 i6; obtain ⟨k1,k2⟩ := HL2.out.o6 f6; obtain ⟨p6,n6,c6,e6⟩:∃ p6 n6 c6,v6 = .slice p6 n6 c6 := (by obtain ⟨p6,c6,e6,_⟩ := d6.1.len; exact ⟨p6,_,c6,e6⟩); subst e6; clear g6))
     have HL6 := HL2.out.app d6 f6
     go_roundw
     case rel => exact ⟨j + 1,_,by omega,by go_num,by rw [HSt.out,HG.out]; exact HL6⟩
     case measure => simp [intOf]; omega
    ·subst hc hz
     go_upto_region 8 with fail
     generalize (wr.alloc (.cells #[.int .i64 (k:Nat),.slice pl nl cl,.int .i64 tx,.slice pw 0 cw] 77)) = wx at *
     obtain ⟨⟨x0,x1,x2,x3⟩,_⟩ := box4 HX2.out
     obtain ⟨_,s1,_,o1,o2,_⟩ := HL2.out.cells
     have hb2 := HL2.out.hB
     go_wp2_with (first | (at_builtin; go_loud (refine wpList_doc wx rfl (.tmp 50) (.tmp 52) rfl (w.heap.size + 3) _ _ (by rfl) HL2.out.d k ⟨rL,tx,rW⟩ _ _ SL2.out SW2.out _ rfl (by simp) HA.out hb2 ?_); intro v6 w6 d6 g6 f6 i6; obtain ⟨k1,k2⟩ := HL2.out.o6 f6; obtain ⟨p6,n6,c6,e6⟩:∃ p6 n6 c6,v6 = .slice p6 n6 c6 := (by obtain ⟨p6,c6,e6,_⟩ := d6.1.len; exact ⟨p6,_,c6,e6⟩); subst e6; clear g6))
     have HL6 := HL2.out.app d6 f6
     go_roundw
     case rel => exact ⟨j + 1,_,by omega,by go_num,by rw [HSt.out,HG.out]; exact HL6⟩
     case measure => simp [intOf]; omega

end Go.Proofs.YtcibcfghkidncaaGreatDoor

namespace Go.Proofs.YtcibcfghkidncaaGreatDoor
open Go.RowKit Go.Lib
set_option maxRecDepth 100000

theorem own_ne {w:World} {B B' e e' size size' n n':Nat} {v v':Value} {xs xs':List Value} (h:w.ownsRow B e size v n xs) (h':w.ownsRow B' e' size' v' n' xs') (hne:e ≠ e') {g:Nat} (hg:v.ownBlock = some g):¬ (v'.ownBlock = some g) := by
 intro hg'
 rcases h.2 with ⟨rfl,_⟩ | ⟨b,cap,cur,rfl,_,hb,_⟩
 ·cases hg
 ·rcases h'.2 with ⟨rfl,_⟩ | ⟨b',cap',cur',rfl,_,hb',_⟩
  ·cases hg'
  ·cases hg
   cases hg'
   rw [hb] at hb'
   injection hb' with hb'
   injection hb' with _ h2
   exact hne h2
theorem own_box {w:World} {B e size n b:Nat} {v:Value} {xs:List Value} {cs:Array Value} {T:TypeId} (h:w.ownsRow B e size v n xs) (hb:Box w b cs T) (hne:e ≠ T):¬ (v.ownBlock = some b) := by
 intro hg
 rcases h.2 with ⟨rfl,_⟩ | ⟨b',cap,cur,rfl,_,hb',_⟩
 ·cases hg
 ·cases hg
  unfold Box at hb
  rw [hb'] at hb
  injection hb with hb
  injection hb with _ h2
  exact hne h2
theorem DocS.own {w:World} {B:Nat} {v:Value} {L:List (Nat × Rs)} (h:DocS w B v L):∃ xs,w.ownsRow B 77 4 v L.length xs := by
 obtain ⟨Z,rfl,ho,_⟩ := h
 exact ⟨_,by rw [List.length_map]; exact ho⟩
section
variable {w wq:World} {B most:Nat} {sv u:Value} {A:List (Nat × Rs)} {b0 br bo:Nat}
theorem DL.keep {w':World} {F:Nat → Prop} (h:DL w wq B most sv u A b0 br bo) (hf:Frm wq w' F) (hi:ImV wq w') (hF:∀ k,F k → w.heap.size ≤ k ∧ k ≠ b0 ∧ k ≠ br ∧ k ≠ bo) (hu:∀ g,u.ownBlock = some g → ¬ F g):DL w w' B most sv u A b0 br bo :=
 ⟨h.bel.trans (hf.below h.bel.size (fun j hj => (hF j hj).1)),h.s.frm hf (fun e => (hF _ e).2.1 rfl),h.r.frm hf (fun e => (hF _ e).2.2.1 rfl),h.o.frm hf (fun e => (hF _ e).2.2.2 rfl),h.d.frm hf hi hu,h.lt,Nat.le_trans h.hB hf.size⟩
structure GL (wq:World) (b:Nat) (gv:Value) (G:List Nat):Prop where
 own:OwnI wq b gv G
 nb:NB wq gv
 hb:b ≤ wq.heap.size
theorem GL.frm {w':World} {b:Nat} {gv:Value} {G:List Nat} {F:Nat → Prop} (h:GL wq b gv G) (hf:Frm wq w' F) (hn:∀ g,gv.ownBlock = some g → ¬ F g):GL w' b gv G :=
 ⟨owns_frm h.own hf hn,h.nb.frm hf (fun g hg => ⟨(World.ownsRow.lt h.own g hg).2,hn g hg⟩),Nat.le_trans h.hb hf.size⟩
theorem GL.on {w':World} {b:Nat} {gv:Value} {G:List Nat} (h:GL wq b gv G) (hb:Below wq.heap.size wq w'):GL w' b gv G := h.frm (F := none1) (Frm.of_below hb) (fun _ _ h => h)
theorem GL.len {b:Nat} {gv:Value} {G:List Nat} (h:GL wq b gv G):∃ p n c,gv = .slice p n c := by
 obtain ⟨p,c,e,_⟩ := owns_len h.own
 exact ⟨p,_,c,e⟩
theorem GL.row {w6:World} {v6:Value} {b:Nat} {gv:Value} {G:List Nat} (h:GL wq b gv G) (hL:DL w wq B most sv u A b0 br bo) (hf:Frm wq w6 (fun g => u.ownBlock = some g)):GL (w6.setCell ⟨bo,1,none⟩ v6) b gv G := by
 obtain ⟨xs,ho⟩ := hL.d.1.own
 have h1 := h.frm hf (fun g hg hu => own_ne h.own ho (by decide) hg hu)
 have hl := hL.lt
 have hbo := hL.o.frm hf (fun e => by have := (hL.d.1.lt _ e).1; omega)
 exact h1.frm (frm_set w6 bo 1 v6 (F := one1 bo) (.inl rfl)) (fun g hg e => own_box h1.own hbo (by decide) (by rw [hg,show g = bo from e]))
theorem DL.gone {w6:World} {o:Obj} {b:Nat} {gv:Value} {G:List Nat} (hL:DL w wq B most sv u A b0 br bo) (h:GL wq b gv G) (hb:w.heap.size ≤ b) (hg:(wq.alloc o).grownBy w6 gv.ownBlock):DL w w6 B most sv u A b0 br bo := by
 obtain ⟨xs,ho⟩ := hL.d.1.own
 have hf:Frm wq w6 (fun g => gv.ownBlock = some g) := by
  refine ⟨hg.os,hg.tape,hg.output,Nat.le_trans (by simp) hg.size,fun k hk hn => ?_⟩
  rw [hg.block k (by simp; omega) (fun h => hn h.symm)]
  first | exact heap_alloc_old wq _ hk | exact heap_alloc_old wq _ _ hk
 refine hL.keep hf (ImV.grown h.nb hg) (fun k hk => ⟨Nat.le_trans hb (World.ownsRow.lt h.own k hk).1,?_,?_,?_⟩) (fun g h1 h2 => own_ne ho h.own (by decide) h1 h2)
 ·rintro rfl; exact own_box h.own hL.s (by decide) hk
 ·rintro rfl; exact own_box h.own hL.r (by decide) hk
 ·rintro rfl; exact own_box h.own hL.o (by decide) hk
end
theorem DL.start4 (w:World) (most:Nat) (sv:Value):DL w ((((w.alloc (.cells #[.int .i64 (most:Nat),sv] 29)).alloc (.cells #[.int .i64 0,.slice none 0 0] 29)).alloc (.cells #[] 3)).alloc (.cells #[.int .i64 (most:Nat),.slice none 0 0] 29)) (w.heap.size + 4) most sv (.slice none 0 0) [] w.heap.size (w.heap.size + 1) (w.heap.size + 1 + 1 + 1) ∧ GL ((((w.alloc (.cells #[.int .i64 (most:Nat),sv] 29)).alloc (.cells #[.int .i64 0,.slice none 0 0] 29)).alloc (.cells #[] 3)).alloc (.cells #[.int .i64 (most:Nat),.slice none 0 0] 29)) (w.heap.size + 2) (.slice (some ⟨w.heap.size + 1 + 1,0,none⟩) 0 0) [] := by
 obtain ⟨a1,a2,a3,a4⟩ := two_new w #[.int .i64 (most:Nat),sv] #[.int .i64 0,.slice none 0 0] 29 29
 obtain ⟨b1,b4,b2,b3⟩ := two_new ((w.alloc (.cells #[.int .i64 (most:Nat),sv] 29)).alloc (.cells #[.int .i64 0,.slice none 0 0] 29)) #[] #[.int .i64 (most:Nat),.slice none 0 0] 3 29
 rw [a4] at b1 b4
 refine ⟨⟨a3.trans (b2.mono a3.size),a1.on b2,a2.on b2,b4,DocN.nil _ _,by omega,by rw [b3,a4]; exact Nat.le_refl _⟩,⟨OwnI.none_at (Nat.le_refl _) b1,fun g cs T z hg hk => ?_,by rw [b3,a4]; omega⟩⟩
 cases hg
 have b1' := b1
 unfold Box at b1'
 rw [b1'] at hk
 cases hk
 intro j v hj
 simp at hj

set_option maxHeartbeats 4000000 in
theorem backD_any (B0 most J:Nat) (v:Value) (L:List (Nat × Rs)) (t s:Int) (w:World) (h:DocS w B0 v L) (hO:∀ q ∈ L,OkR J q.2) (hl:L.length ≤ 65536) (hJ:J ≤ 3518437208882) :
  Calls Tryz.prog 18 #[.agg #[.int .i64 (most:Nat),v],.int .i64 t,.int .i64 s] w fun e w' => (∃ v' gv,e = .returned (.tuple #[.agg #[.int .i64 (most:Nat),v'],gv]) ∧ DocS w' w.heap.size v' (outL (atT t (bakR s)) L) ∧ OwnI w' w.heap.size gv (goneL (atT t (bakR s)) L)) ∧ Below w.heap.size w w' := by
 obtain ⟨p,c,rfl,_⟩ := h.len
 have HD:Hid (DocS w B0 (.slice p L.length c) L) := h
 have H0:Hid (DL w _ _ _ _ _ _ _ _ _ ∧ GL _ _ _ _) := DL.start4 w most (.slice p L.length c)
 have HO:Hid (∀ q ∈ L,OkR J q.2) := hO
 clear h hO
 obtain ⟨n,hn⟩:∃ n,L.length = n := ⟨_,rfl⟩
 rw [hn] at HD H0 hl
 rw [hn]
 have HN:Hid (L.length = n) := hn
 clear hn
 go_enter Tryz.func18,Tryz.ntmps18
 go_upto_region 2 with fail
 generalize ((((w.alloc (.cells #[.int .i64 (most:Nat),.slice p n c] 29)).alloc (.cells #[.int .i64 0,.slice none 0 0] 29)).alloc (.cells #[] 3)).alloc (.cells #[.int .i64 (most:Nat),.slice none 0 0] 29)) = w0 at *
 go_wp2_with fail
 go_loopw [9,10] (fun gv i wq => ∃ (j:Nat) (u:Value),j ≤ n ∧ i = .int .i64 (j:Int) ∧ Hid (DL w wq (w.heap.size + 4) most (.slice p n c) u (outL (atT t (bakR s)) (L.take j)) w.heap.size (w.heap.size + 1) (w.heap.size + 1 + 1 + 1)) ∧ Hid (GL wq (w.heap.size + 2) gv (goneL (atT t (bakR s)) (L.take j)))) (fun _ i _ => n - (intOf i).toNat)
 case atStart => exact ⟨0,_,Nat.zero_le _,by go_num,by rw [outL_zero]; exact H0.out.1,by rw [goneL_zero]; exact H0.out.2⟩
 case round =>
  obtain ⟨j,u,hj,rfl,HL0,HK0⟩ := hrel
  obtain ⟨s0,s1,o0,o1,o2,r0,r1,_,_⟩ := HL0.out.cells
  have HA:Hid ((outL (atT t (bakR s)) (L.take j)).length ≤ 65536 ∧ (goneL (atT t (bakR s)) (L.take j)).length ≤ 65536) := ⟨Nat.le_trans (outL_len _ _ _) (by rw [HN.out]; exact hl),Nat.le_trans (goneL_len _ _ _) (by rw [HN.out]; exact hl)⟩
  have hA8:((goneL (atT t (bakR s)) (L.take j)).length + 1) * 8 ≤ 140737488355328 := by have := HA.out.2; omega
  have hA9:(goneL (atT t (bakR s)) (L.take j)).length + 1 ≤ 140737488355328 := by have := HA.out.2; omega
  obtain ⟨pu,nu,cu,e⟩:∃ pu nu cu,u = .slice pu nu cu := by
   obtain ⟨pu,cu,e,_⟩ := HL0.out.len
   exact ⟨pu,_,cu,e⟩
  subst e
  obtain ⟨pg,ng,cg,e⟩ := HK0.out.len
  subst e
  by_cases hj0:j = n
  ·subst hj0
   have HL2:Hid (DL w wr (w.heap.size + 4) most (.slice p j c) (.slice pu nu cu) (outL (atT t (bakR s)) L) w.heap.size (w.heap.size + 1) (w.heap.size + 1 + 1 + 1)) := by
    have h1 := HL0.out
    rw [← HN.out,List.take_length,HN.out] at h1
    exact h1
   have HK2:Hid (GL wr (w.heap.size + 2) (.slice pg ng cg) (goneL (atT t (bakR s)) L)) := by
    have h1 := HK0.out
    rw [← HN.out,List.take_length] at h1
    exact h1
   clear HL0 HK0 HA hA8 hA9
   go_wp2_with fail
   obtain ⟨f0,f1,fd,fb⟩ := HL2.out.fin (by omega)
   have hK9 := HK2.out.frm ((frm_set wr (w.heap.size + 1) 0 (.int .i64 (most:Nat)) (F := one1 (w.heap.size + 1)) (.inl rfl)).trans (frm_set (wr.setCell ⟨w.heap.size + 1,0,none⟩ (.int .i64 (most:Nat))) (w.heap.size + 1) 1 (.slice pu nu cu) (F := one1 (w.heap.size + 1)) (.inl rfl)) (fun k hk => .inl hk)) (fun g hg e => by
    have h1 := (World.ownsRow.lt HK2.out.own g hg).1
    have:g = w.heap.size + 1 := e
    omega)
   generalize (wr.setCell ⟨w.heap.size + 1,0,none⟩ (.int .i64 (most:Nat))).setCell ⟨w.heap.size + 1,1,none⟩ (.slice pu nu cu) = w9 at *
   (try simp only [Exit.inBlock,Exit.then])
   refine bodyPost_ret (v := .tuple #[.agg #[.int .i64 (most:Nat),.slice pu nu cu],.slice pg ng cg]) (by simp [results,Tryz.results18,go_sem,f0,f1]) rfl ?_
   exact ⟨⟨_,_,rfl,fd,owns_base hK9.own (by omega)⟩,fb⟩
  ·have hj1:j < L.length := by rw [HN.out]; omega
   have hjn:j < n := by omega
   obtain ⟨⟨k,rL,tx,rW⟩,hq⟩:∃ q,L[j] = q := ⟨_,rfl⟩
   have HR:Hid (OkR J ⟨rL,tx,rW⟩) := by
    have := HO.out _ (List.getElem_mem hj1)
    rw [hq] at this
    exact this
   have HIn0:Hid (∀ r2,(atT t (bakR s)) ⟨rL,tx,rW⟩ = r2 → thr r2 = true → outL (atT t (bakR s)) (L.take (j + 1)) = outL (atT t (bakR s)) (L.take j) ++ [(k,r2)] ∧ goneL (atT t (bakR s)) (L.take (j + 1)) = goneL (atT t (bakR s)) (L.take j)) := by
    intro r2 e2 h9
    have h1 := outL_in (g := (atT t (bakR s))) hj1 (by rw [hq,e2]; exact h9)
    have h2 := goneL_off (g := (atT t (bakR s))) hj1 (by rw [hq,e2]; exact h9)
    rw [hq,e2] at h1
    exact ⟨h1,h2⟩
   have HOff0:Hid (∀ r2,(atT t (bakR s)) ⟨rL,tx,rW⟩ = r2 → thr r2 = false → outL (atT t (bakR s)) (L.take (j + 1)) = outL (atT t (bakR s)) (L.take j) ∧ goneL (atT t (bakR s)) (L.take (j + 1)) = goneL (atT t (bakR s)) (L.take j) ++ [k]) := by
    intro r2 e2 h9
    have h1 := outL_off (g := (atT t (bakR s))) hj1 (by rw [hq,e2]; exact h9)
    have h2 := goneL_in (g := (atT t (bakR s))) hj1 (by rw [hq,e2]; exact h9)
    rw [hq] at h2
    exact ⟨h1,h2⟩
   obtain ⟨g,pl,cl,pw,cw,e,⟨a0,a1,a2,a3⟩,SL0,SW0⟩ := HL0.out.row HD.out hj1 hq
   subst e
   clear hq hj1
   obtain ⟨bX,bB,bS⟩ := one_new wr #[.int .i64 (k:Nat),.slice pl rL.length cl,.int .i64 tx,.slice pw rW.length cw] 77
   have HLx := HL0.out.on bB
   have HKx := HK0.out.on bB
   have SLx := SL0.imm (Imm.of_below bB)
   have SWx := SW0.imm (Imm.of_below bB)
   have C1:Hid (Calls _ _ _ _ _) := rback_any rW pw cw tx s _ _ (Nat.le_refl _) SWx.rd (by have h1 := HR.out.nW; have h2:rW.length ≤ J := h1; omega)
   have HX:Hid (Box _ _ _ _) := bX
   have HL:Hid (DL w _ _ _ _ _ _ _ _ _) := HLx
   have HK:Hid (GL _ _ _ _) := HKx
   have SL:Hid (SlR .u64 _ _ _) := SLx
   have SW:Hid (SlR .i64 _ _ _) := SWx
   have HBx:Hid (wr.heap.size < (wr.alloc (.cells #[.int .i64 (k:Nat),.slice pl rL.length cl,.int .i64 tx,.slice pw rW.length cw] 77)).heap.size ∧ w.heap.size + 4 ≤ wr.heap.size ∧ (Value.slice pu nu cu).ownBlock ≠ some wr.heap.size ∧ (Value.slice pg ng cg).ownBlock ≠ some wr.heap.size) := ⟨by rw [bS]; omega,HL0.out.hB,fun e => by have := (HL0.out.d.1.lt _ e).2; omega,fun e => by have := (World.ownsRow.lt HK0.out.own _ e).2; omega⟩
   clear bX bB bS HLx HKx SLx SWx SL0 SW0 HL0 HK0
   by_cases hit:tx = t ∧ 0 < rW.length
   ·have HG:Hid ((atT t (bakR s)) ⟨rL,tx,rW⟩ = ⟨rL,bakT tx rW s,belL rW s⟩) := by
     show (atT t (bakR s)) _ = _
     unfold atT
     rw [if_pos ((tx_doc HR.out).2 hit)]
     rfl
    have HT:Hid (thr ⟨rL,bakT tx rW s,belL rW s⟩ = (decide (0 < rL.length) || decide (0 < (belL rW s).length))) := thr_doc (HR.out.bak s)
    have HIn:Hid (thr ⟨rL,bakT tx rW s,belL rW s⟩ = true → outL (atT t (bakR s)) (L.take (j + 1)) = outL (atT t (bakR s)) (L.take j) ++ [(k,⟨rL,bakT tx rW s,belL rW s⟩)] ∧ goneL (atT t (bakR s)) (L.take (j + 1)) = goneL (atT t (bakR s)) (L.take j)) := fun h9 => HIn0.out ⟨rL,bakT tx rW s,belL rW s⟩ HG.out h9
    have HOff:Hid (thr ⟨rL,bakT tx rW s,belL rW s⟩ = false → outL (atT t (bakR s)) (L.take (j + 1)) = outL (atT t (bakR s)) (L.take j) ∧ goneL (atT t (bakR s)) (L.take (j + 1)) = goneL (atT t (bakR s)) (L.take j) ++ [k]) := fun h9 => HOff0.out ⟨rL,bakT tx rW s,belL rW s⟩ HG.out h9
    obtain ⟨ht,hw0⟩ := hit
    have hb:(tx == t) = true := by simp [ht]
    clear ht
    clear HIn0 HOff0
    generalize rW.length = nw at *
    generalize rL.length = nl at *
    go_upto_region 6 with fail
    generalize (wr.alloc (.cells #[.int .i64 (k:Nat),.slice pl nl cl,.int .i64 tx,.slice pw nw cw] 77)) = wx at *
    obtain ⟨⟨x0,x1,x2,x3⟩,_⟩ := box4 HX.out
    go_wp2_with fail
    refine C1.out.mono ?_
    rintro e w1 ⟨⟨vb,Zb,rfl,hZb,hHb⟩,hb1⟩
    obtain ⟨p',c',rfl,_,hr1⟩ := hHb.rd hb1.size hZb
    have hX1 := HX.out.on hb1
    have hL1 := HL.out.on hb1
    have hK1 := HK.out.on hb1
    have sl1 := SL.out.imm (Imm.of_below hb1)
    obtain ⟨⟨y0,y1,y2,y3⟩,z1,z2,z3⟩ := box4 hX1
    obtain ⟨b1,b2,b3⟩ := row_int hX1 (bakT tx rW s) p' (belL rW s).length c'
    have HX3:Hid (Box _ _ _ _) := b1
    have HL3:Hid (DL w _ _ _ _ _ _ _ _ _) := hL1.frm b3 b2 HBx.out.2.1 HBx.out.2.2.1
    have HK3:Hid (GL _ _ _ _) := hK1.frm b3 (fun g hg e => HBx.out.2.2.2 (by rw [hg,show g = wr.heap.size from e]))
    have SL3:Hid (SlR .u64 _ _ _) := sl1.imv b2
    have SW3:Hid (SlR .i64 _ (.slice p' (belL rW s).length c') (belL rW s)) := SlR.imv (w := w1) ⟨p',c',rfl,hr1,fun h => by cases h⟩ b2
    clear hX1 hL1 hK1 sl1 b1 b2 b3 hr1 hHb hZb C1 HX HL HK SL SW
    generalize hnf:(belL rW s).length = nf at *
    generalize hxf:bakT tx rW s = tf at *
    clear hnf hxf
    go_upto_region 8 with fail
    generalize (w1.setCell ⟨wr.heap.size,2,none⟩ (.int .i64 tf)).setCell ⟨wr.heap.size,3,none⟩ (.slice p' nf c') = w2 at *
    obtain ⟨⟨x0,x1,x2,x3⟩,_⟩ := box4 HX3.out
    obtain ⟨_,s1,_,o1,o2,_⟩ := HL3.out.cells
    have hb2 := HL3.out.hB
    have hth := HT.out
    rcases Nat.eq_zero_or_pos nl with rfl | hz
    ·rcases Nat.eq_zero_or_pos nf with rfl | hy
     ·have HSt:Hid (outL (atT t (bakR s)) (L.take (j + 1)) = outL (atT t (bakR s)) (L.take j) ∧ goneL (atT t (bakR s)) (L.take (j + 1)) = goneL (atT t (bakR s)) (L.take j) ++ [k]) := HOff.out hth
      go_wp2_with (first | (at_builtin; go_loud (refine wpList_app1n w2 rfl (.tmp 56) (.tmp 59) 3 56 _ 8 rfl Tryz.underlying56 info_int rfl (nb_int _ _) (w.heap.size + 2) _ _ _ (by rfl) HK3.out.own HK3.out.nb (.int .i64 (k:Nat)) rfl (nb_int _ _) _ rfl (by simp) hA8 hA9 HK3.out.hb ?_); intro v6 w6 h6 h7 h8 h9 h10))
      have HL6 := HL3.out.gone HK3.out (by omega) h7
      have HK6:GL w6 (w.heap.size + 2) v6 (goneL (atT t (bakR s)) (L.take j) ++ [k]) := ⟨OwnI.app h6,h10,Nat.le_trans HK3.out.hb (Nat.le_trans (by simp) h7.size)⟩
      go_roundw
      case rel => exact ⟨j + 1,_,by omega,by go_num,by rw [HSt.out.1]; exact HL6,by rw [HSt.out.2]; exact HK6⟩
      case measure => simp [intOf]; omega
     ·rw [decide_eq_true hy] at hth
      have ey:(((nf:Nat):Int) == 0) = false := by simp; omega
      have HSt:Hid (outL (atT t (bakR s)) (L.take (j + 1)) = outL (atT t (bakR s)) (L.take j) ++ [(k,⟨rL,tf,belL rW s⟩)] ∧ goneL (atT t (bakR s)) (L.take (j + 1)) = goneL (atT t (bakR s)) (L.take j)) := HIn.out hth
      go_wp2_with (first | (at_builtin; go_loud (refine wpList_doc w2 rfl (.tmp 62) (.tmp 64) rfl (w.heap.size + 4) _ _ (by rfl) HL3.out.d k ⟨rL,tf,belL rW s⟩ _ _ SL3.out SW3.out _ rfl (by simp) HA.out.1 hb2 ?_); intro v6 w6 d6 g6 f6 i6; obtain ⟨k1,k2⟩ := HL3.out.o6 f6; obtain ⟨p6,n6,c6,e6⟩:∃ p6 n6 c6,v6 = .slice p6 n6 c6 := (by obtain ⟨p6,c6,e6,_⟩ := d6.1.len; exact ⟨p6,_,c6,e6⟩); subst e6; clear g6))
      have HL6 := HL3.out.app d6 f6
      have HK6 := HK3.out.row (v6 := .slice p6 n6 c6) HL3.out f6
      go_roundw
      case rel => exact ⟨j + 1,_,by omega,by go_num,by rw [HSt.out.1]; exact HL6,by rw [HSt.out.2]; exact HK6⟩
      case measure => simp [intOf]; omega
    ·rw [decide_eq_true hz] at hth
     have ez:(((nl:Nat):Int) == 0) = false := by simp; omega
     have HSt:Hid (outL (atT t (bakR s)) (L.take (j + 1)) = outL (atT t (bakR s)) (L.take j) ++ [(k,⟨rL,tf,belL rW s⟩)] ∧ goneL (atT t (bakR s)) (L.take (j + 1)) = goneL (atT t (bakR s)) (L.take j)) := HIn.out hth
     go_wp2_with (first | (at_builtin; go_loud (refine wpList_doc w2 rfl (.tmp 62) (.tmp 64) rfl (w.heap.size + 4) _ _ (by rfl) HL3.out.d k ⟨rL,tf,belL rW s⟩ _ _ SL3.out SW3.out _ rfl (by simp) HA.out.1 hb2 ?_); intro v6 w6 d6 g6 f6 i6; obtain ⟨k1,k2⟩ := HL3.out.o6 f6; obtain ⟨p6,n6,c6,e6⟩:∃ p6 n6 c6,v6 = .slice p6 n6 c6 := (by obtain ⟨p6,c6,e6,_⟩ := d6.1.len; exact ⟨p6,_,c6,e6⟩); subst e6; clear g6))
     have HL6 := HL3.out.app d6 f6
     have HK6 := HK3.out.row (v6 := .slice p6 n6 c6) HL3.out f6
     go_roundw
     case rel => exact ⟨j + 1,_,by omega,by go_num,by rw [HSt.out.1]; exact HL6,by rw [HSt.out.2]; exact HK6⟩
     case measure => simp [intOf]; omega
   ·have HG:Hid ((atT t (bakR s)) ⟨rL,tx,rW⟩ = ⟨rL,tx,rW⟩) := by
     show (atT t (bakR s)) _ = _
     unfold atT
     rw [if_neg (fun h => hit ((tx_doc HR.out).1 h))]
    have HT:Hid (thr ⟨rL,tx,rW⟩ = (decide (0 < rL.length) || decide (0 < rW.length))) := thr_doc HR.out
    have HIn:Hid (thr ⟨rL,tx,rW⟩ = true → outL (atT t (bakR s)) (L.take (j + 1)) = outL (atT t (bakR s)) (L.take j) ++ [(k,⟨rL,tx,rW⟩)] ∧ goneL (atT t (bakR s)) (L.take (j + 1)) = goneL (atT t (bakR s)) (L.take j)) := fun h9 => HIn0.out ⟨rL,tx,rW⟩ HG.out h9
    have HOff:Hid (thr ⟨rL,tx,rW⟩ = false → outL (atT t (bakR s)) (L.take (j + 1)) = outL (atT t (bakR s)) (L.take j) ∧ goneL (atT t (bakR s)) (L.take (j + 1)) = goneL (atT t (bakR s)) (L.take j) ++ [k]) := fun h9 => HOff0.out ⟨rL,tx,rW⟩ HG.out h9
    clear C1 HIn0 HOff0
    have hc:tx ≠ t ∨ (tx = t ∧ rW.length = 0) := by omega
    clear hit
    generalize rW.length = nw at *
    generalize rL.length = nl at *
    rcases hc with hc | ⟨hc,hw0⟩
    ·have hb:(tx == t) = false := by simp [hc]
     go_upto_region 6 with fail
     generalize (wr.alloc (.cells #[.int .i64 (k:Nat),.slice pl nl cl,.int .i64 tx,.slice pw nw cw] 77)) = wx at *
     obtain ⟨⟨x0,x1,x2,x3⟩,_⟩ := box4 HX.out
     obtain ⟨_,s1,_,o1,o2,_⟩ := HL.out.cells
     have hb2 := HL.out.hB
     have hth := HT.out
     rcases Nat.eq_zero_or_pos nl with rfl | hz
     ·rcases Nat.eq_zero_or_pos nw with rfl | hy
      ·have HSt:Hid (outL (atT t (bakR s)) (L.take (j + 1)) = outL (atT t (bakR s)) (L.take j) ∧ goneL (atT t (bakR s)) (L.take (j + 1)) = goneL (atT t (bakR s)) (L.take j) ++ [k]) := HOff.out hth
       go_wp2_with (first | (at_builtin; go_loud (refine wpList_app1n wx rfl (.tmp 56) (.tmp 59) 3 56 _ 8 rfl Tryz.underlying56 info_int rfl (nb_int _ _) (w.heap.size + 2) _ _ _ (by rfl) HK.out.own HK.out.nb (.int .i64 (k:Nat)) rfl (nb_int _ _) _ rfl (by simp) hA8 hA9 HK.out.hb ?_); intro v6 w6 h6 h7 h8 h9 h10))
       have HL6 := HL.out.gone HK.out (by omega) h7
       have HK6:GL w6 (w.heap.size + 2) v6 (goneL (atT t (bakR s)) (L.take j) ++ [k]) := ⟨OwnI.app h6,h10,Nat.le_trans HK.out.hb (Nat.le_trans (by simp) h7.size)⟩
       go_roundw
       case rel => exact ⟨j + 1,_,by omega,by go_num,by rw [HSt.out.1]; exact HL6,by rw [HSt.out.2]; exact HK6⟩
       case measure => simp [intOf]; omega
      ·rw [decide_eq_true hy] at hth
       have ey:(((nw:Nat):Int) == 0) = false := by simp; omega
       have HSt:Hid (outL (atT t (bakR s)) (L.take (j + 1)) = outL (atT t (bakR s)) (L.take j) ++ [(k,⟨rL,tx,rW⟩)] ∧ goneL (atT t (bakR s)) (L.take (j + 1)) = goneL (atT t (bakR s)) (L.take j)) := HIn.out hth
       go_wp2_with (first | (at_builtin; go_loud (refine wpList_doc wx rfl (.tmp 62) (.tmp 64) rfl (w.heap.size + 4) _ _ (by rfl) HL.out.d k ⟨rL,tx,rW⟩ _ _ SL.out SW.out _ rfl (by simp) HA.out.1 hb2 ?_); intro v6 w6 d6 g6 f6 i6; obtain ⟨k1,k2⟩ := HL.out.o6 f6; obtain ⟨p6,n6,c6,e6⟩:∃ p6 n6 c6,v6 = .slice p6 n6 c6 := (by obtain ⟨p6,c6,e6,_⟩ := d6.1.len; exact ⟨p6,_,c6,e6⟩); subst e6; clear g6))
       have HL6 := HL.out.app d6 f6
       have HK6 := HK.out.row (v6 := .slice p6 n6 c6) HL.out f6
       go_roundw
       case rel => exact ⟨j + 1,_,by omega,by go_num,by rw [HSt.out.1]; exact HL6,by rw [HSt.out.2]; exact HK6⟩
       case measure => simp [intOf]; omega
     ·rw [decide_eq_true hz] at hth
      have ez:(((nl:Nat):Int) == 0) = false := by simp; omega
      have HSt:Hid (outL (atT t (bakR s)) (L.take (j + 1)) = outL (atT t (bakR s)) (L.take j) ++ [(k,⟨rL,tx,rW⟩)] ∧ goneL (atT t (bakR s)) (L.take (j + 1)) = goneL (atT t (bakR s)) (L.take j)) := HIn.out hth
      go_wp2_with (first | (at_builtin; go_loud (refine wpList_doc wx rfl (.tmp 62) (.tmp 64) rfl (w.heap.size + 4) _ _ (by rfl) HL.out.d k ⟨rL,tx,rW⟩ _ _ SL.out SW.out _ rfl (by simp) HA.out.1 hb2 ?_); intro v6 w6 d6 g6 f6 i6; obtain ⟨k1,k2⟩ := HL.out.o6 f6; obtain ⟨p6,n6,c6,e6⟩:∃ p6 n6 c6,v6 = .slice p6 n6 c6 := (by obtain ⟨p6,c6,e6,_⟩ := d6.1.len; exact ⟨p6,_,c6,e6⟩); subst e6; clear g6))
      have HL6 := HL.out.app d6 f6
      have HK6 := HK.out.row (v6 := .slice p6 n6 c6) HL.out f6
      go_roundw
      case rel => exact ⟨j + 1,_,by omega,by go_num,by rw [HSt.out.1]; exact HL6,by rw [HSt.out.2]; exact HK6⟩
      case measure => simp [intOf]; omega
    ·have hb:(tx == t) = true := by simp [hc]
     clear hc
     subst hw0
     go_upto_region 6 with fail
     generalize (wr.alloc (.cells #[.int .i64 (k:Nat),.slice pl nl cl,.int .i64 tx,.slice pw 0 cw] 77)) = wx at *
     obtain ⟨⟨x0,x1,x2,x3⟩,_⟩ := box4 HX.out
     obtain ⟨_,s1,_,o1,o2,_⟩ := HL.out.cells
     have hb2 := HL.out.hB
     have hth := HT.out
     rcases Nat.eq_zero_or_pos nl with rfl | hz
     ·have HSt:Hid (outL (atT t (bakR s)) (L.take (j + 1)) = outL (atT t (bakR s)) (L.take j) ∧ goneL (atT t (bakR s)) (L.take (j + 1)) = goneL (atT t (bakR s)) (L.take j) ++ [k]) := HOff.out hth
      go_wp2_with (first | (at_builtin; go_loud (refine wpList_app1n wx rfl (.tmp 56) (.tmp 59) 3 56 _ 8 rfl Tryz.underlying56 info_int rfl (nb_int _ _) (w.heap.size + 2) _ _ _ (by rfl) HK.out.own HK.out.nb (.int .i64 (k:Nat)) rfl (nb_int _ _) _ rfl (by simp) hA8 hA9 HK.out.hb ?_); intro v6 w6 h6 h7 h8 h9 h10))
      have HL6 := HL.out.gone HK.out (by omega) h7
      have HK6:GL w6 (w.heap.size + 2) v6 (goneL (atT t (bakR s)) (L.take j) ++ [k]) := ⟨OwnI.app h6,h10,Nat.le_trans HK.out.hb (Nat.le_trans (by simp) h7.size)⟩
      go_roundw
      case rel => exact ⟨j + 1,_,by omega,by go_num,by rw [HSt.out.1]; exact HL6,by rw [HSt.out.2]; exact HK6⟩
      case measure => simp [intOf]; omega
     ·rw [decide_eq_true hz] at hth
      have ez:(((nl:Nat):Int) == 0) = false := by simp; omega
      have HSt:Hid (outL (atT t (bakR s)) (L.take (j + 1)) = outL (atT t (bakR s)) (L.take j) ++ [(k,⟨rL,tx,rW⟩)] ∧ goneL (atT t (bakR s)) (L.take (j + 1)) = goneL (atT t (bakR s)) (L.take j)) := HIn.out hth
      go_wp2_with (first | (at_builtin; go_loud (refine wpList_doc wx rfl (.tmp 62) (.tmp 64) rfl (w.heap.size + 4) _ _ (by rfl) HL.out.d k ⟨rL,tx,rW⟩ _ _ SL.out SW.out _ rfl (by simp) HA.out.1 hb2 ?_); intro v6 w6 d6 g6 f6 i6; obtain ⟨k1,k2⟩ := HL.out.o6 f6; obtain ⟨p6,n6,c6,e6⟩:∃ p6 n6 c6,v6 = .slice p6 n6 c6 := (by obtain ⟨p6,c6,e6,_⟩ := d6.1.len; exact ⟨p6,_,c6,e6⟩); subst e6; clear g6))
      have HL6 := HL.out.app d6 f6
      have HK6 := HK.out.row (v6 := .slice p6 n6 c6) HL.out f6
      go_roundw
      case rel => exact ⟨j + 1,_,by omega,by go_num,by rw [HSt.out.1]; exact HL6,by rw [HSt.out.2]; exact HK6⟩
      case measure => simp [intOf]; omega

end Go.Proofs.YtcibcfghkidncaaGreatDoor
