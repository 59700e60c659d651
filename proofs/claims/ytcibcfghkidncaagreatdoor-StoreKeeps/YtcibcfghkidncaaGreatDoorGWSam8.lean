/- Rows, versions, intents held against their like. Versions and writes that a call owns. The walks of May, and of the document's Check. A statement that draws its order and writes last: what it reads may be taken first, though its last operation writes there. -/
import Derived.Test.YtcibcfghkidncaaGreatDoorProg
import Derived.WalkKit
import Derived.Deep.RegionHeld3
import Derived.Test.YtcibcfghkidncaaGreatDoorGWVl
import Derived.Test.YtcibcfghkidncaaGreatDoorGWQuiet
namespace Go.Proofs.YtcibcfghkidncaaGreatDoor
open Go.RowKit
set_option maxRecDepth 100000

theorem sameL_refl (L:List Vl):sameL L L = true := by
 induction L with
 | nil => rfl
 | cons a x ih =>
  show (sameV a a && sameL x x) = true
  rw [ih]
  simp [sameV,sameB]

set_option maxHeartbeats 400000 in
theorem sameRow8 (L M:List Vl) (p q:Option Addr) (c d:Nat) (w:World) (hA:RowV w w.heap.size p L) (hB:RowV w w.heap.size q M) (hlen:L.length ≤ 17592186043904) (hlen2:M.length ≤ 17592186043904) :
  Calls Tryz.prog 67 #[.slice p L.length c,.slice q M.length d] w fun e w' => e = .returned (.bool (sameL L M)) ∧ Below w.heap.size w w' := by
 have C1:Hid (Calls _ _ _ _ _) := rsameRow_any L M p q c d w hA hB hlen hlen2
 clear hA hB
 generalize sameL L M = s at *
 go_enter Tryz.func67,Tryz.ntmps67
 go_wp2_with fail
 refine C1.out.mono ?_
 rintro e w1 ⟨rfl,hb1⟩
 go_wp2
 go_ret
 exact ⟨rfl,hb1⟩
theorem sameRow_eq (L:List Vl) (p q:Option Addr) (c d:Nat) (w:World) (hA:RowV w w.heap.size p L) (hB:RowV w w.heap.size q L) (hlen:L.length ≤ 17592186043904) :
  Calls Tryz.prog 67 #[.slice p L.length c,.slice q L.length d] w fun e w' => e = .returned (.bool true) ∧ Below w.heap.size w w' := by
 have h := sameRow8 L L p q c d w hA hB hlen hlen
 rw [sameL_refl] at h
 exact h

def shortR (L:List Rw):Prop := ∀ i (hi:i < L.length),L[i].row.length ≤ 3518437208882

set_option maxHeartbeats 2000000 in
theorem sameChain_eq (L:List Rw) (p q:Option Addr) (c d:Nat) (w:World) (hA:RdR .u64 w w.heap.size p L) (hB:RdR .u64 w w.heap.size q L) (hlen:L.length ≤ 17592186043904) (hsh:shortR L) :
  Calls Tryz.prog 31 #[.slice p L.length c,.slice q L.length d] w fun e w' => e = .returned (.bool true) ∧ Below w.heap.size w w' := by
 have HA:Hid (RdR .u64 w w.heap.size p L) := hA
 have HB:Hid (RdR .u64 w w.heap.size q L) := hB
 have HS:Hid (shortR L) := hsh
 clear hA hB hsh
 go_enter Tryz.func31,Tryz.ntmps31
 go_wp2_with fail
 go_loopw [5] (fun i wr => ∃ j:Nat,j ≤ L.length ∧ i = .int .i64 (j:Int) ∧ Below w.heap.size w wr) (fun i _ => L.length - (intOf i).toNat)
 case atStart => exact ⟨0,Nat.zero_le _,by go_num,Below.refl _ _⟩
 case round =>
  obtain ⟨j,hj,rfl,hn⟩ := hrel
  by_cases hj0:j = L.length
  ·subst hj0
   go_wp2
   go_ret
   exact ⟨rfl,hn⟩
  ·have hj1:j < L.length := by omega
   obtain ⟨b,o,q1,d1,rfl,hbB,c0,c1,c2,hr1,_⟩ := HA.out j hj1
   obtain ⟨b2,o2,q2,d2,rfl,hbB2,e0,e1,e2,hr2,_⟩ := HB.out j hj1
   have hbw:b < wr.heap.size := Nat.lt_of_lt_of_le hbB hn.size
   have hbw2:b2 < wr.heap.size := Nat.lt_of_lt_of_le hbB2 hn.size
   have a0' := InB.cell (w := wr) ((hn.cell (p := ⟨b,o + j * 3,none⟩) hbB).trans c0) hbw
   have a1' := InB.cell (w := wr) ((hn.cell (p := ⟨b,o + j * 3 + 1,none⟩) hbB).trans c1) hbw
   have a2' := InB.cell (w := wr) ((hn.cell (p := ⟨b,o + j * 3 + 2,none⟩) hbB).trans c2) hbw
   have f0' := InB.cell (w := wr) ((hn.cell (p := ⟨b2,o2 + j * 3,none⟩) hbB2).trans e0) hbw2
   have f1' := InB.cell (w := wr) ((hn.cell (p := ⟨b2,o2 + j * 3 + 1,none⟩) hbB2).trans e1) hbw2
   have f2' := InB.cell (w := wr) ((hn.cell (p := ⟨b2,o2 + j * 3 + 2,none⟩) hbB2).trans e2) hbw2
   have CS:Hid (∀ x:InB wr,Calls Tryz.prog 67 #[.slice q1 L[j].row.length d1,.slice q2 L[j].row.length d2] x.w' fun e w' => e = .returned (.bool true) ∧ Below x.w'.heap.size x.w' w') := fun x =>
    sameRow_eq L[j].row q1 q2 d1 d2 x.w' (((hr1.keep hn).mono hn.size).on x.h) (((hr2.keep hn).mono hn.size).on x.h) (by have := HS.out j hj1; omega)
   clear c0 c1 c2 e0 e1 e2 hj0 hr1 hr2
   generalize L[j].n = xn at *
   generalize L[j].gn = xg at *
   generalize L[j].row.length = xl at *
   have ne5 := inB_ne wr
   go_wp2_with fail
   refine wp_region_inB (by kernel_rfl) (by kernel_rfl) ?_
   repeat (go_big_quiet_step ((go_at_call 67; exact Calls.inB (CS.out _))))
   refine wpQuiet_nil ?_
   rintro _ ⟨⟨w6,hb6⟩,rfl⟩
   go_wp2_with fail
   go_roundw
   case rel => exact ⟨j + 1,by omega,by go_num,hn.trans (hb6.mono hn.size)⟩
   case measure => simp [intOf]; omega

end Go.Proofs.YtcibcfghkidncaaGreatDoor

namespace Go.Proofs.YtcibcfghkidncaaGreatDoor
open Go.RowKit
set_option maxRecDepth 100000

theorem info_ver:(Tryz.prog.info? 81).map (fun i => (i.zero,i.size,i.bytes)) = some (some (.agg #[.int .u64 0,.bool false,.slice none 0 0]),3,40) := by kernel_rfl

theorem info_wri:(Tryz.prog.info? 38).map (fun i => (i.zero,i.size,i.bytes)) = some (some (.agg #[.int .i64 0,.bool false,.slice none 0 0]),3,40) := by kernel_rfl

def SlV (w:World) (B:Nat) (v:Value) (L:List Vl):Prop := ∃ q c,v = .slice q L.length c ∧ RowV w B q L ∧ (q = none → c = 0)
theorem SlV.keep {w w':World} {B:Nat} {v:Value} {L:List Vl} (h:SlV w B v L) (hb:Below B w w'):SlV w' B v L := by
 obtain ⟨q,c,e,h1,h2⟩ := h
 exact ⟨q,c,e,h1.keep hb,h2⟩
theorem SlV.mono {w:World} {B C:Nat} {v:Value} {L:List Vl} (h:SlV w B v L) (hb:B ≤ C):SlV w C v L := by
 obtain ⟨q,c,e,h1,h2⟩ := h
 exact ⟨q,c,e,h1.mono hb,h2⟩
theorem OwnV.sl {w:World} {B:Nat} {v:Value} {L:List Vl} (h:OwnV w B v L):SlV w w.heap.size v L := by
 obtain ⟨p,c,e,hr⟩ := h.row
 refine ⟨p,c,e,hr,fun hp => ?_⟩
 rcases h.form with ⟨h1,_⟩ | ⟨g,cap,h1,_⟩
 ·rw [h1] at e; injection e with _ _ e3; exact e3.symm
 ·rw [h1] at e; injection e with e1; rw [hp] at e1; cases e1
theorem OwnV.base {w:World} {B C:Nat} {v:Value} {L:List Vl} (h:OwnV w B v L) (hc:C ≤ B):OwnV w C v L := owns_base h hc

def rcell (k:IntKind) (z:Rw × Value):List Value := [.int k z.1.n,.bool z.1.gn,z.2]
def OwnRs (k:IntKind) (T:TypeId) (w:World) (B:Nat) (v:Value) (Z:List (Rw × Value)):Prop := w.ownsRow B T 3 v Z.length (Z.flatMap (rcell k)) ∧ ∀ z ∈ Z,OwnV w B z.2 z.1.row
def HasRs (k:IntKind) (T:TypeId) (w:World) (B:Nat) (v:Value) (Z:List (Rw × Value)):Prop := w.ownsRow B T 3 v Z.length (Z.flatMap (rcell k)) ∧ ∀ z ∈ Z,SlV w B z.2 z.1.row
theorem rcells_rd {k:IntKind} {T:TypeId} {w:World} {B:Nat} {v:Value} {Z:List (Rw × Value)} {L:List Rw} (h0:w.ownsRow B T 3 v Z.length (Z.flatMap (rcell k))) (hin:∀ z ∈ Z,SlV w w.heap.size z.2 z.1.row) (hL:Z.map Prod.fst = L):∃ (p:Option Addr) (c:Nat),v = .slice p L.length c ∧ (p = none → c = 0) ∧ RdR k w w.heap.size p L := by
 subst hL
 rcases h0.2 with ⟨h1,h2⟩ | ⟨g,cap,cur,e,hb,hg,hc,_⟩
 ·have:Z = [] := List.eq_nil_of_length_eq_zero h2
  subst this
  exact ⟨none,0,h1,fun _ => rfl,fun i hi => absurd hi (by simp)⟩
 ·subst e
  refine ⟨some ⟨g,0,none⟩,cap,by simp,fun h => by simp at h,fun i hi => ?_⟩
  have hi':i < Z.length := by simpa using hi
  have kk:∀ t,t < 3 → w.cell? ⟨g,0 + i * 3 + t,none⟩ = (rcell k Z[i])[t]? := by
   intro t ht
   have h1 := World.ownsRow.cellAt h0 (i * 3 + t) (by omega)
   rw [Nat.zero_add,h1,flat_at 3 (rcell k) (fun _ => rfl) Z i hi' t ht]
  obtain ⟨q,c,ev,hr,hq⟩ := hin _ (List.getElem_mem hi')
  have e1:(Z.map Prod.fst)[i] = Z[i].1 := by simp
  rw [e1]
  have k1 := kk 2 (by decide)
  simp only [rcell,List.getElem?_cons_succ,List.getElem?_cons_zero,ev] at k1
  exact ⟨g,0,q,c,rfl,(Array.getElem?_eq_some_iff.1 hg).1,kk 0 (by decide),kk 1 (by decide),k1,hr,hq⟩
theorem OwnRs.rd {k:IntKind} {T:TypeId} {w:World} {B:Nat} {v:Value} {Z:List (Rw × Value)} {L:List Rw} (h:OwnRs k T w B v Z) (hL:Z.map Prod.fst = L):∃ (p:Option Addr) (c:Nat),v = .slice p L.length c ∧ (p = none → c = 0) ∧ RdR k w w.heap.size p L :=
 rcells_rd h.1 (fun z hz => (h.2 z hz).sl) hL
theorem HasRs.rd {k:IntKind} {T:TypeId} {w:World} {B:Nat} {v:Value} {Z:List (Rw × Value)} {L:List Rw} (h:HasRs k T w B v Z) (hB:B ≤ w.heap.size) (hL:Z.map Prod.fst = L):∃ (p:Option Addr) (c:Nat),v = .slice p L.length c ∧ (p = none → c = 0) ∧ RdR k w w.heap.size p L :=
 rcells_rd h.1 (fun z hz => (h.2 z hz).mono hB) hL
theorem OwnRs.kept {k:IntKind} {T:TypeId} {w w':World} {B:Nat} {v:Value} {Z:List (Rw × Value)} (h:OwnRs k T w B v Z) (hb:Below w.heap.size w w'):OwnRs k T w' B v Z :=
 ⟨owns_kept h.1 hb,fun z hz => (h.2 z hz).kept hb⟩
theorem HasRs.kept {k:IntKind} {T:TypeId} {w w':World} {B:Nat} {v:Value} {Z:List (Rw × Value)} (h:HasRs k T w B v Z) (hb:Below w.heap.size w w') (hB:B ≤ w.heap.size):HasRs k T w' B v Z :=
 ⟨owns_kept h.1 hb,fun z hz => (h.2 z hz).keep (hb.mono hB)⟩
theorem OwnRs.nil (k:IntKind) (T:TypeId) (w:World) (B:Nat):OwnRs k T w B (.slice none 0 0) [] := ⟨World.ownsRow_nil w B _ _,fun z hz => by simp at hz⟩
theorem HasRs.nil (k:IntKind) (T:TypeId) (w:World) (B:Nat):HasRs k T w B (.slice none 0 0) [] := ⟨World.ownsRow_nil w B _ _,fun z hz => by simp at hz⟩
theorem OwnRs.base {k:IntKind} {T:TypeId} {w:World} {B C:Nat} {v:Value} {Z:List (Rw × Value)} (h:OwnRs k T w B v Z) (hc:C ≤ B):OwnRs k T w C v Z := ⟨owns_base h.1 hc,fun z hz => (h.2 z hz).base hc⟩
theorem OwnRs.app {k:IntKind} {T:TypeId} {w w':World} {B:Nat} {v v':Value} {Z:List (Rw × Value)} {z:Rw × Value} (h:OwnRs k T w B v Z) (hz:OwnV w B z.2 z.1.row) (hT : 70 ≠ T)
  (h1:w'.ownsRow B T 3 v' (Z.length + 1) (Z.flatMap (rcell k) ++ rcell k z)) (hg:(w.alloc (.cells (rcell k z).toArray T)).grownBy w' v.ownBlock):OwnRs k T w' B v' (Z ++ [z]) := by
 have hb:Below w.heap.size w (w.alloc (.cells (rcell k z).toArray T)) := (Below.refl _ _).alloc (Nat.le_refl _) _
 have h':OwnRs k T (w.alloc (.cells (rcell k z).toArray T)) B v Z := h.kept hb
 refine ⟨by rw [List.length_append,List.flatMap_append]; simpa using h1,fun y hy => ?_⟩
 have hy':OwnV (w.alloc (.cells (rcell k z).toArray T)) B y.2 y.1.row := by
  rcases List.mem_append.1 hy with hy | hy
  ·exact h'.2 y hy
  ·rw [List.mem_singleton] at hy
   subst hy
   exact hz.kept hb
 exact owns_other hy' h'.1 hT hg
theorem HasRs.app {k:IntKind} {T:TypeId} {w w':World} {B:Nat} {v v':Value} {Z:List (Rw × Value)} {z:Rw × Value} (h:HasRs k T w B v Z) (hz:SlV w B z.2 z.1.row)
  (h1:w'.ownsRow B T 3 v' (Z.length + 1) (Z.flatMap (rcell k) ++ rcell k z)) (hb:Below B w w'):HasRs k T w' B v' (Z ++ [z]) := by
 refine ⟨by rw [List.length_append,List.flatMap_append]; simpa using h1,fun y hy => ?_⟩
 rcases List.mem_append.1 hy with hy | hy
 ·exact (h.2 y hy).keep hb
 ·rw [List.mem_singleton] at hy
  subst hy
  exact hz.keep hb
theorem rcell_one (k:IntKind) (z:Rw × Value) (hz:z.2.oneCell' = true):∀ u ∈ rcell k z,u.oneCell' = true := by
 intro u hu
 simp only [rcell,List.mem_cons,List.not_mem_nil,or_false] at hu
 rcases hu with rfl | rfl | rfl
 ·rfl
 ·rfl
 ·exact hz
theorem SlV.one {w:World} {B:Nat} {v:Value} {L:List Vl} (h:SlV w B v L):v.oneCell' = true := by
 obtain ⟨q,c,rfl,_⟩ := h
 rfl

theorem RowV.cells {w:World} {B b o:Nat} {L:List Vl} (h:RowV w B (some ⟨b,o,none⟩) L):∀ j y,(vcells L)[j]? = some y → w.cell? ((⟨b,o,none⟩:Addr).add j) = some y := by
 intro j y hj
 have hl:j < L.length * 4 := by have := (List.getElem?_eq_some_iff.1 hj).1; rw [vcells_len] at this; exact this
 have e:(⟨b,o,none⟩:Addr).add j = ⟨b,o + j,none⟩ := by unfold Addr.add; split <;> simp_all
 rw [e]
 have hi:j / 4 < L.length := by omega
 obtain ⟨b',o',e',_,c0,c1,c2,c3⟩ := h (j / 4) hi
 injection e' with e'
 injection e' with e1 e2
 subst e1 e2
 have h4:j % 4 = 0 ∨ j % 4 = 1 ∨ j % 4 = 2 ∨ j % 4 = 3 := by omega
 rcases h4 with e | e | e | e
 ·have ej:j = j / 4 * 4 + 0 := by omega
  rw [ej,vcell_at L _ hi 0 (by decide)] at hj
  rw [show o + j = o + j / 4 * 4 by omega,c0]
  exact hj
 ·have ej:j = j / 4 * 4 + 1 := by omega
  rw [ej,vcell_at L _ hi 1 (by decide)] at hj
  rw [show o + j = o + j / 4 * 4 + 1 by omega,c1]
  exact hj
 ·have ej:j = j / 4 * 4 + 2 := by omega
  rw [ej,vcell_at L _ hi 2 (by decide)] at hj
  rw [show o + j = o + j / 4 * 4 + 2 by omega,c2]
  exact hj
 ·have ej:j = j / 4 * 4 + 3 := by omega
  rw [ej,vcell_at L _ hi 3 (by decide)] at hj
  rw [show o + j = o + j / 4 * 4 + 3 by omega,c3]
  exact hj
theorem vcells_one (L:List Vl):∀ y ∈ vcells L,y.oneCell' = true := by
 intro y hy
 simp only [vcells,List.mem_flatMap,vcell] at hy
 obtain ⟨r,_,h⟩ := hy
 simp at h
 rcases h with rfl | rfl | rfl | rfl <;> rfl

set_option maxHeartbeats 2000000 in
theorem ownRow_any (L:List Vl) (v:Value) (w:World) (hR:SlV w w.heap.size v L) (hlen:L.length ≤ 3518437208882) :
  Calls Tryz.prog 138 #[v] w fun e w' => (∃ v',e = .returned v' ∧ OwnV w' w.heap.size v' L) ∧ Below w.heap.size w w' := by
 obtain ⟨p,c,rfl,hR,hpc⟩ := hR
 obtain ⟨i,hi,hz0,hz1,hz2⟩ := info_parts info_val
 cases p with
 | none =>
  obtain rfl := hpc rfl
  have hL:L = [] := by
   cases L with
   | nil => rfl
   | cons a x => obtain ⟨_,_,h,_⟩ := hR 0 (by simp); cases h
  subst hL
  go_enter Tryz.func138,Tryz.ntmps138
  go_wp2_with (first | (at_builtin; refine wpList_append_own_none rfl (.const (.slice none 0 0)) (.tmp 3) 36 rfl w.heap.size 70 i 4 Tryz.underlying36 hi _ 0 [] rfl (World.ownsRow_nil w _ _ _) rfl ?_))
  go_ret
  exact ⟨⟨_,rfl,OwnV.nil _ _⟩,Below.refl _ _⟩
 | some ad =>
  obtain ⟨b,o,sp⟩ := ad
  cases sp with
  | some _ =>
   have hL:L = [] := by
    cases L with
    | nil => rfl
    | cons a x => obtain ⟨_,_,h,_⟩ := hR 0 (by simp); cases h
   subst hL
   go_enter Tryz.func138,Tryz.ntmps138
   go_wp2_with (first | (at_builtin; refine wpList_append_own _ rfl (.const (.slice none 0 0)) (.tmp 3) 36 rfl w.heap.size 70 i (.agg #[.int .i64 0,.int .i64 0,.float .f64 0,.string ⟨#[]⟩]) 4 40 Tryz.underlying36 hi hz0 hz1 hz2 rfl (by decide) _ 0 [] rfl (World.ownsRow_nil w _ _ _) _ 0 c [] rfl rfl (fun j y hj => by simp at hj) (fun y hy => by simp at hy) (by unfold maxLen; omega) (by omega) (Nat.le_refl _) ?_))
   intro v1 w1 h1' h2 h9
   have hown:OwnV w1 w.heap.size v1 [] := by
    unfold OwnV
    simpa [vcells] using h1'
   have hb:Below w.heap.size w w1 := (Below.refl _ _).grown h2 (Nat.le_refl _) (fun k hk => by simp [Value.ownBlock] at hk)
   clear h1' h2 h9
   go_wp2
   go_ret
   exact ⟨⟨_,rfl,hown⟩,hb⟩
  | none =>
   have HR:Hid (RowV _ _ _ _) := hR
   clear hR
   go_enter Tryz.func138,Tryz.ntmps138
   go_wp2_with (first | (at_builtin; refine wpList_append_own _ rfl (.const (.slice none 0 0)) (.tmp 3) 36 rfl w.heap.size 70 i (.agg #[.int .i64 0,.int .i64 0,.float .f64 0,.string ⟨#[]⟩]) 4 40 Tryz.underlying36 hi hz0 hz1 hz2 rfl (by decide) _ 0 [] rfl (World.ownsRow_nil w _ _ _) ⟨b,o,none⟩ L.length c (vcells L) rfl (vcells_len L) HR.out.cells (vcells_one L) (by unfold maxLen; omega) (by omega) (Nat.le_refl _) ?_))
   intro v1 w1 h1' h2 h9
   have hown:OwnV w1 w.heap.size v1 L := by
    unfold OwnV
    simpa using h1'
   have hb:Below w.heap.size w w1 := (Below.refl _ _).grown h2 (Nat.le_refl _) (fun k hk => by simp [Value.ownBlock] at hk)
   clear h1' h2 h9
   go_wp2
   go_ret
   exact ⟨⟨_,rfl,hown⟩,hb⟩

end Go.Proofs.YtcibcfghkidncaaGreatDoor

namespace Go.Proofs.YtcibcfghkidncaaGreatDoor
open Go.RowKit
set_option maxRecDepth 100000

set_option maxHeartbeats 4000000 in
theorem may_any (L:List Rw) (p:Option Addr) (c:Nat) (w:World) (hR:RdR .u64 w w.heap.size p L) (hlen:L.length ≤ 17592186043904) :
  Calls Tryz.prog 105 #[.slice p L.length c] w fun e w' => e = .returned (.bool (mayL L)) ∧ Below w.heap.size w w' := by
 have HR:Hid (RdR _ _ _ _ _) := hR
 clear hR
 have HN:Hid ((∀ i,i < L.length → okAt L i = true) → mayL L = true) := mayL_true
 have HP:Hid (∀ j,j < L.length → okAt L j = false → mayL L = false) := fun j hj h => mayL_false hj h
 generalize mayL L = r at *
 go_enter Tryz.func105,Tryz.ntmps105
 go_wp2_with fail
 go_loopw [3] (fun i wr => ∃ j:Nat,j ≤ L.length ∧ i = .int .i64 (j:Int) ∧ Hid (∀ i,i < j → okAt L i = true) ∧ Below w.heap.size w wr) (fun i _ => L.length - (intOf i).toNat)
 case atStart => exact ⟨0,Nat.zero_le _,by go_num,fun i h => absurd h (by omega),Below.refl _ _⟩
 case round =>
  obtain ⟨j,hj,rfl,hs,hn⟩ := hrel
  by_cases hj0:j = L.length
  ·subst hj0
   have HE := HN.out hs.out
   go_wp2
   go_ret
   exact ⟨boolV HE.symm,hn⟩
  ·have hj1:j < L.length := by omega
   obtain ⟨b,o,q,d,rfl,hbB,c0,c1,c2,_⟩ := HR.out j hj1
   have a0 := (hn.cell (p := ⟨b,o + j * 3,none⟩) hbB).trans c0
   have a1 := (hn.cell (p := ⟨b,o + j * 3 + 1,none⟩) hbB).trans c1
   have a2 := (hn.cell (p := ⟨b,o + j * 3 + 2,none⟩) hbB).trans c2
   have hbw:b < wr.heap.size := Nat.lt_of_lt_of_le hbB hn.size
   have HF:Hid (okAt L j = false → r = false) := HP.out j hj1
   have HT:Hid (okAt L j = true → ∀ i,i < j + 1 → okAt L i = true) := fun h i hi2 => by
    rcases Nat.lt_succ_iff_lt_or_eq.1 hi2 with h3 | rfl
    ·exact hs.out i h3
    ·exact h
   clear c0 c1 c2 hj0 hs
   cases j with
   | zero =>
    rw [show ((0:Nat):Int) = 0 from rfl] at *
    simp only [Nat.zero_mul,Nat.add_zero] at a0 a1 a2
    have HK:Hid (okAt L 0 = (!(decide (L[0].n < 1)) && !(decide ((4611686018427387904:Int) < L[0].n)) && !(L[0].gn && decide (0 < L[0].row.length)))) := okAt_zero hj1
    generalize L[0].n = xn at *
    generalize L[0].gn = xg at *
    generalize L[0].row.length = xl at *
    cases h1:decide (xn < 1) with
    | true =>
     have he:Hid (r = false) := HF.out (by rw [HK.out,h1]; rfl)
     clear HK HF HT
     have H1:Hid (_ ∧ True) := ⟨h1,trivial⟩
     clear h1
     go_wp2_with fail
     have h1 := H1.out.1
     go_quiet (fail)
     go_wp2
     go_ret
     have hsz := hn.size
     exact ⟨boolV he.out.symm,below_drewN (by go_grown) _⟩
    | false =>
     cases h2:decide (4611686018427387904 < xn) with
     | true =>
      have he:Hid (r = false) := HF.out (by rw [HK.out,h1,h2]; rfl)
      clear HK HF HT
      have H1:Hid (_ ∧ True) := ⟨h1,trivial⟩
      clear h1
      have H2:Hid (_ ∧ True) := ⟨h2,trivial⟩
      clear h2
      go_wp2_with fail
      have h1 := H1.out.1
      have h2 := H2.out.1
      go_quiet (fail)
      go_wp2
      go_ret
      have hsz := hn.size
      exact ⟨boolV he.out.symm,below_drewN (by go_grown) _⟩
     | false =>
      cases h3:(xg && decide (0 < xl)) with
      | true =>
       obtain ⟨h4,h5⟩:xg = true ∧ 0 < xl := by simpa using h3
       subst h4
       have he:Hid (r = false) := HF.out (by rw [HK.out,h1,h2,h3]; rfl)
       clear HK HF HT h3
       have H1:Hid (_ ∧ True) := ⟨h1,trivial⟩
       clear h1
       have H2:Hid (_ ∧ True) := ⟨h2,trivial⟩
       clear h2
       go_wp2_with fail
       have h1 := H1.out.1
       have h2 := H2.out.1
       go_quiet (fail)
       go_wp2
       go_ret
       have hsz := hn.size
       exact ⟨boolV he.out.symm,below_drewN (by go_grown) _⟩
      | false =>
       cases xg with
       | false =>
        have HT2:Hid (∀ i,i < 0 + 1 → okAt L i = true) := HT.out (by rw [HK.out,h1,h2,h3]; rfl)
        clear HK HF HT h3
        have H1:Hid (_ ∧ True) := ⟨h1,trivial⟩
        clear h1
        have H2:Hid (_ ∧ True) := ⟨h2,trivial⟩
        clear h2
        go_wp2_with fail
        have h1 := H1.out.1
        have h2 := H2.out.1
        go_quiet (fail)
        go_wp2
        go_roundw
        case rel => have hsz := hn.size; exact ⟨0 + 1,by omega,by go_num,HT2,below_drewN (by go_grown) _⟩
        case measure => simp [intOf]; omega
       | true =>
        have h5:xl = 0 := by simpa using h3
        subst h5
        have HT2:Hid (∀ i,i < 0 + 1 → okAt L i = true) := HT.out (by rw [HK.out,h1,h2,h3]; rfl)
        clear HK HF HT h3
        have H1:Hid (_ ∧ True) := ⟨h1,trivial⟩
        clear h1
        have H2:Hid (_ ∧ True) := ⟨h2,trivial⟩
        clear h2
        go_wp2_with fail
        have h1 := H1.out.1
        have h2 := H2.out.1
        go_quiet (fail)
        go_wp2
        go_roundw
        case rel => have hsz := hn.size; exact ⟨0 + 1,by omega,by go_num,HT2,below_drewN (by go_grown) _⟩
        case measure => simp [intOf]; omega
   | succ j =>
    have HK:Hid (okAt L (j + 1) = (!(decide (L[j + 1].n < 1)) && !(decide (4611686018427387904 < L[j + 1].n)) && !(L[j + 1].gn && decide (0 < L[j + 1].row.length)) && decide (L[j + 1].n < L[j].n))) := okAt_succ hj1
    obtain ⟨b2,o2,q2,d2,e2,_,p0,_⟩ := HR.out j (by omega)
    injection e2 with e2
    injection e2 with e3 e4
    subst e3 e4
    have p0 := (hn.cell (p := ⟨b,o + j * 3,none⟩) hbB).trans p0
    generalize L[j + 1].n = xn at *
    generalize L[j + 1].gn = xg at *
    generalize L[j + 1].row.length = xl at *
    generalize L[j].n = pn at *
    cases h1:decide (xn < 1) with
    | true =>
     have he:Hid (r = false) := HF.out (by rw [HK.out,h1]; rfl)
     clear HK HF HT
     have H1:Hid (_ ∧ True) := ⟨h1,trivial⟩
     clear h1
     go_wp2_with fail
     have h1 := H1.out.1
     go_quiet (fail)
     go_wp2
     go_ret
     have hsz := hn.size
     exact ⟨boolV he.out.symm,below_drewN (by go_grown) _⟩
    | false =>
     cases h2:decide (4611686018427387904 < xn) with
     | true =>
      have he:Hid (r = false) := HF.out (by rw [HK.out,h1,h2]; rfl)
      clear HK HF HT
      have H1:Hid (_ ∧ True) := ⟨h1,trivial⟩
      clear h1
      have H2:Hid (_ ∧ True) := ⟨h2,trivial⟩
      clear h2
      go_wp2_with fail
      have h1 := H1.out.1
      have h2 := H2.out.1
      go_quiet (fail)
      go_wp2
      go_ret
      have hsz := hn.size
      exact ⟨boolV he.out.symm,below_drewN (by go_grown) _⟩
     | false =>
      cases h3:(xg && decide (0 < xl)) with
      | true =>
       obtain ⟨h4,h5⟩:xg = true ∧ 0 < xl := by simpa using h3
       subst h4
       have he:Hid (r = false) := HF.out (by rw [HK.out,h1,h2,h3]; rfl)
       clear HK HF HT h3
       have H1:Hid (_ ∧ True) := ⟨h1,trivial⟩
       clear h1
       have H2:Hid (_ ∧ True) := ⟨h2,trivial⟩
       clear h2
       go_wp2_with fail
       have h1 := H1.out.1
       have h2 := H2.out.1
       go_quiet (fail)
       go_wp2
       go_ret
       have hsz := hn.size
       exact ⟨boolV he.out.symm,below_drewN (by go_grown) _⟩
      | false =>
       cases xg with
       | false =>
        cases h6:decide (xn < pn) with
        | true =>
         have HT2:Hid (∀ i,i < j + 1 + 1 → okAt L i = true) := HT.out (by rw [HK.out,h1,h2,h3,h6]; rfl)
         clear HK HF HT h3
         have H1:Hid (_ ∧ True) := ⟨h1,trivial⟩
         clear h1
         have H2:Hid (_ ∧ True) := ⟨h2,trivial⟩
         clear h2
         have H6:Hid (decide (pn ≤ xn) = false ∧ True) := ⟨by simp at h6 ⊢; omega,trivial⟩
         clear h6
         go_wp2_with fail
         have h1 := H1.out.1
         have h2 := H2.out.1
         have h6 := H6.out.1
         go_quiet (fail)
         go_wp2
         go_roundw
         case rel => have hsz := hn.size; exact ⟨j + 1 + 1,by omega,by go_num,HT2,below_drewN (by go_grown) _⟩
         case measure => simp [intOf]; omega
        | false =>
         have he:Hid (r = false) := HF.out (by rw [HK.out,h1,h2,h3,h6]; rfl)
         clear HK HF HT h3
         have H1:Hid (_ ∧ True) := ⟨h1,trivial⟩
         clear h1
         have H2:Hid (_ ∧ True) := ⟨h2,trivial⟩
         clear h2
         have H6:Hid (decide (pn ≤ xn) = true ∧ True) := ⟨by simp at h6 ⊢; omega,trivial⟩
         clear h6
         go_wp2_with fail
         have h1 := H1.out.1
         have h2 := H2.out.1
         have h6 := H6.out.1
         go_quiet (fail)
         go_wp2
         go_ret
         have hsz := hn.size
         exact ⟨boolV he.out.symm,below_drewN (by go_grown) _⟩
       | true =>
        have h5:xl = 0 := by simpa using h3
        subst h5
        cases h6:decide (xn < pn) with
        | true =>
         have HT2:Hid (∀ i,i < j + 1 + 1 → okAt L i = true) := HT.out (by rw [HK.out,h1,h2,h3,h6]; rfl)
         clear HK HF HT h3
         have H1:Hid (_ ∧ True) := ⟨h1,trivial⟩
         clear h1
         have H2:Hid (_ ∧ True) := ⟨h2,trivial⟩
         clear h2
         have H6:Hid (decide (pn ≤ xn) = false ∧ True) := ⟨by simp at h6 ⊢; omega,trivial⟩
         clear h6
         go_wp2_with fail
         have h1 := H1.out.1
         have h2 := H2.out.1
         have h6 := H6.out.1
         go_quiet (fail)
         go_wp2
         go_roundw
         case rel => have hsz := hn.size; exact ⟨j + 1 + 1,by omega,by go_num,HT2,below_drewN (by go_grown) _⟩
         case measure => simp [intOf]; omega
        | false =>
         have he:Hid (r = false) := HF.out (by rw [HK.out,h1,h2,h3,h6]; rfl)
         clear HK HF HT h3
         have H1:Hid (_ ∧ True) := ⟨h1,trivial⟩
         clear h1
         have H2:Hid (_ ∧ True) := ⟨h2,trivial⟩
         clear h2
         have H6:Hid (decide (pn ≤ xn) = true ∧ True) := ⟨by simp at h6 ⊢; omega,trivial⟩
         clear h6
         go_wp2_with fail
         have h1 := H1.out.1
         have h2 := H2.out.1
         have h6 := H6.out.1
         go_quiet (fail)
         go_wp2
         go_ret
         have hsz := hn.size
         exact ⟨boolV he.out.symm,below_drewN (by go_grown) _⟩

end Go.Proofs.YtcibcfghkidncaaGreatDoor

namespace Go.Proofs.YtcibcfghkidncaaGreatDoor
open Go.RowKit
set_option maxRecDepth 100000

def nthO:List Oper → Nat → Option Oper
 | [],_ => none
 | o :: _,0 => some o
 | _ :: l,i + 1 => nthO l i
theorem nthO_eq:∀ (l:List Oper) (i:Nat),nthO l i = l[i]?
 | [],_ => rfl
 | _ :: _,0 => rfl
 | _ :: l,i + 1 => by rw [nthO,nthO_eq l i]; rfl
theorem nthO_at {ops:Array Oper} {i:Nat} {o:Oper} (h:nthO ops.toList i = some o):ops[i]? = some o := by
 rw [nthO_eq] at h
 simpa using h

section
variable {P:Program} {ops:Array Oper} {Q:Exit → Act → World → Prop} {S:World → Prop} {m:Nat}

def wpL (P:Program) (ops:Array Oper) (Q:Exit → Act → World → Prop) (S:World → Prop) (m:Nat):Nat → Array Bool → Act → World → Prop
 | 0,listed,a,w => Region.ready .any ops listed = [] ∧ Q .normal a w
 | fuel + 1,listed,a,w => (Region.ready .any ops listed = [] → Q .normal a w) ∧
  ∀ i ∈ Region.ready .any ops listed,wpOp P ops Q i (fun a' w' => (i ≠ m → S w') ∧ wpL P ops Q S m fuel (listed.setIfInBounds i true) a' w') a w
theorem wpAny_of_L:∀ (fuel:Nat) (listed:Array Bool) (a:Act) (w:World),wpL P ops Q S m fuel listed a w → wpAny P .any ops Q fuel listed a w
 | 0,_,_,_,h => h
 | fuel + 1,_,_,_,h => ⟨h.1,fun i hi => wpOp_mono (fun a' w' h' => wpAny_of_L fuel _ a' w' h'.2) (h.2 i hi)⟩
def gateB (ops:Array Oper) (m i:Nat):Bool := match ops[m]? with
 | some o => o.after.toList.any fun e => Region.binds .any e && e.on == i
 | none => false
theorem gate_no {i j:Nat} {listed:Array Bool} (hg:gateB ops m i = true) (hi:i ∈ Region.ready .any ops listed) (hj:j ∈ Region.ready .any ops listed):j ≠ m := by
 intro e
 subst e
 obtain ⟨_,o,ho,hall⟩ := mem_ready.1 hj
 unfold gateB at hg
 rw [ho] at hg
 obtain ⟨e,he,hb⟩ := List.any_eq_true.1 hg
 simp only [Bool.and_eq_true,beq_iff_eq] at hb
 have h1 := hall e (by simpa using he) hb.1
 rw [hb.2] at h1
 have h0 := (mem_ready.1 hi).1
 rcases Nat.lt_or_ge i listed.size with h' | h'
 ·simp [h'] at h0 h1
  rw [h0] at h1
  cases h1
 ·simp [Array.getElem?_eq_none h'] at h1
theorem wpL_first {i:Nat} {oi:Oper} {v:Value} (hi:ops[i]? = some oi) (hsel:∀ (j:Nat) (o:Oper) cs b,ops[j]? = some o → o.op ≠ .select cs b)
  (hQ:∀ c a w,Q (.panic c) (a.put oi.dst v) w → Q (.panic c) a w) (hg:gateB ops m i = true) :
  ∀ (fuel:Nat) (listed:Array Bool) (a:Act) (w:World),
   (∀ j oj,ops[j]? = some oj → j ≠ i → listed.getD j true = false → (∀ e ∈ oj.after,Region.binds .any e = true → e.on ≠ i) → oi.apart ops oj = true) →
   i ∈ Region.ready .any ops listed → YieldsIf P ops S oi v a → S w →
   wpL P ops Q S m fuel (listed.setIfInBounds i true) (a.put oi.dst v) w → wpL P ops Q S m (fuel + 1) listed a w := by
 intro fuel
 induction fuel with
 | zero =>
  intro listed a w _ hr hy hS H
  refine ⟨fun h => (by rw [h] at hr; cases hr),fun j hj => ?_⟩
  by_cases hji:j = i
  ·subst hji
   exact hy.wpOp hi hS ⟨fun _ => hS,H⟩
  ·have := ready_mono hj hji
   rw [H.1] at this
   cases this
 | succ fuel ih =>
  intro listed a w hfree hr hy hS H
  refine ⟨fun h => (by rw [h] at hr; cases hr),fun j hj => ?_⟩
  by_cases hji:j = i
  ·subst hji
   exact hy.wpOp hi hS ⟨fun _ => hS,H⟩
  ·have hjm := gate_no hg hr hj
   have h1 := H.2 j (ready_mono hj hji)
   obtain ⟨hjun,oj,hoj,hall⟩ := mem_ready.1 hj
   have hnot:∀ e ∈ oj.after,Region.binds .any e = true → e.on ≠ i := fun e he hb heq => by
    have h1 := hall e he hb
    have h0 := (mem_ready.1 hr).1
    rw [heq] at h1
    rcases Nat.lt_or_ge i listed.size with h' | h'
    ·simp [h'] at h0 h1
     rw [h0] at h1
     cases h1
    ·simp [Array.getElem?_eq_none h'] at h1
   have h2 := wpOp_putIf hoj (hfree j oj hoj hji hjun hnot) (fun cs b => hsel i oi cs b hi) (fun cs b => hsel j oj cs b hoj) hQ hy h1
   have hfree':∀ k ok,ops[k]? = some ok → k ≠ i → (listed.setIfInBounds j true).getD k true = false →
     (∀ e ∈ ok.after,Region.binds .any e = true → e.on ≠ i) → oi.apart ops ok = true := fun k ok hk hki hun hno => by
    refine hfree k ok hk hki ?_ hno
    by_cases hjk:j = k
    ·subst hjk
     exact hjun
    ·rw [getD_set_ne true hjk] at hun
     exact hun
   refine wpOp_mono (fun a' w' h3 => ⟨fun _ => h3.2.1 hjm,ih (listed.setIfInBounds j true) a' w' hfree' (ready_mono hr (Ne.symm hji)) h3.1 (h3.2.1 hjm) ?_⟩) h2
   rw [Array.setIfInBounds_comm _ _ hji]
   exact h3.2.2
def takeB (ops:Array Oper) (listed:Array Bool) (m i:Nat):Bool := Region.noSelect ops && Region.free .any ops listed i && (Region.ready .any ops listed).contains i && gateB ops m i
theorem wpL_take (i:Nat) {oi:Oper} {v:Value} {fuel:Nat} {listed:Array Bool} {a:Act} {w:World} (hi:nthO ops.toList i = some oi) (hb:takeB ops listed m i = true)
  (hQ:∀ c a w,Q (.panic c) (a.put oi.dst v) w → Q (.panic c) a w) (hw:Region.wanted oi (yielded ops a.tmps) = true) (hy:∀ w,S w → (execOp a.eval oi).run P w = .ok (.value v) w) (hS:S w)
  (h:wpL P ops Q S m fuel (listed.setIfInBounds i true) (a.put oi.dst v) w):wpL P ops Q S m (fuel + 1) listed a w := by
 unfold takeB at hb
 simp only [Bool.and_eq_true] at hb
 obtain ⟨⟨⟨h1,h2⟩,h3⟩,h4⟩ := hb
 exact wpL_first (nthO_at hi) (Region.noSelect_spec h1) hQ h4 fuel listed a w (Region.free_spec (nthO_at hi) h2) (by simpa using h3) (.inl ⟨hw,hy⟩) hS h
theorem wpL_one (i:Nat) {oi:Oper} {fuel:Nat} {listed:Array Bool} {a:Act} {w:World} (hi:nthO ops.toList i = some oi) (hr:Region.ready .any ops listed = [i]) (hw:Region.wanted oi (yielded ops a.tmps) = true)
  (h:∀ K:Act → World → Prop,Hid (∀ a' w',(i ≠ m → S w') → wpL P ops Q S m fuel (listed.setIfInBounds i true) a' w' → K a' w') → oi.wp P a w K Q):wpL P ops Q S m (fuel + 1) listed a w := by
 refine ⟨fun h0 => (by rw [hr] at h0; cases h0),fun j hj => ?_⟩
 rw [hr] at hj
 have e:j = i := by simpa using hj
 subst e
 unfold wpOp
 simp only [nthO_at hi,hw,if_true]
 exact .inl (h _ (show ∀ a' w',_ → _ → _ from fun a' w' h1 h2 => ⟨h1,h2⟩))
theorem wpL_done {listed:Array Bool} {a:Act} {w:World} (hr:Region.ready .any ops listed = []) (h:Q .normal a w):∀ fuel,wpL P ops Q S m fuel listed a w
 | 0 => ⟨hr,h⟩
 | _ + 1 => ⟨fun _ => h,by rw [hr]; simp⟩
theorem wp_region_L (S:World → Prop) (m:Nat) {id:Nat} {a:Act} {w:World} (hm:P.follows .mixedOrders = true) (h:wpL P ops (NoPanic Q) S m ops.size (Array.replicate ops.size false) a w.drew):(Code.region id ops true).wp P Q a w :=
 wp_region_noPanic (wp_region_any hm (wpAny_of_L _ _ _ _ h))
end

end Go.Proofs.YtcibcfghkidncaaGreatDoor
