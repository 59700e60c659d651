/- awake: a store of its own keeps a row. Acts in memory; a store behind some acts. -/
import Derived.Test.YtcibcfghkidncaaGreatDoorGWLw18
namespace Go.Proofs.YtcibcfghkidncaaGreatDoor
open Go.RowKit Go.Lib
set_option maxRecDepth 100000

def fiveV:Vl := ⟨2,5,0,⟨#[]⟩⟩
theorem five_row (w:World):SlV (w.alloc (.cells #[.int .i64 2,.int .i64 5,.float .f64 0,.string ⟨#[]⟩] 70)) (w.alloc (.cells #[.int .i64 2,.int .i64 5,.float .f64 0,.string ⟨#[]⟩] 70)).heap.size (.slice (some ⟨w.heap.size,0,none⟩) [fiveV].length 1) [fiveV] := by
 refine ⟨some ⟨w.heap.size,0,none⟩,1,rfl,fun i hi => ?_,fun h => by cases h⟩
 have h0:i = 0 := by
  have:i < 1 := hi
  omega
 subst h0
 have hb := Box.new w #[.int .i64 2,.int .i64 5,.float .f64 0,.string ⟨#[]⟩] 70
 exact ⟨w.heap.size,0,rfl,by simp,box_cell hb rfl,box_cell hb rfl,box_cell hb rfl,box_cell hb rfl⟩
theorem five_put:putB 1 [] ⟨0,false,[fiveV]⟩ = false := by
 simp [putB,abvL]
theorem five_get:getR (addM [] 0 (newR 1 ⟨0,false,[fiveV]⟩)) 0 = ⟨[],1,[⟨0,false,[fiveV]⟩]⟩ := by
 have e:newR 1 ⟨0,false,[fiveV]⟩ = ⟨[],1,[⟨0,false,[fiveV]⟩]⟩ := by
  unfold newR
  rw [(put_ok five_put).2.2]
  rfl
 rw [e]
 rfl

set_option maxHeartbeats 4000000 in
theorem awake11 (w:World) (hT:Tab w) (hg : 1 < w.heap.size):Calls Tryz.prog 10 #[] w fun e w' => e = .returned (.bool true) ∧ Below w.heap.size w w' := by
 have C1:Hid (Calls Tryz.prog 8 #[.int .i64 1] w fun e w' => e = .returned (.tuple #[ptr1 w.heap.size,.int .i64 0]) ∧ (∃ F,Sto w' w.heap.size w.heap.size 1 [] 0 0 F ∧ ∀ k,F k → w.heap.size ≤ k) ∧ Below w.heap.size w w') := newS_ok 1 w (by omega) (by omega)
 have HT:Hid (Tab w) := hT
 have HG:Hid (1 < w.heap.size) := hg
 clear hT hg
 go_enter Tryz.func10,Tryz.ntmps10
 go_wp2_with fail
 refine C1.out.mono ?_
 rintro e w1 ⟨rfl,⟨F,hs1,hF1⟩,hb1⟩
 have HS1:Hid (Sto w1 w.heap.size w.heap.size 1 [] 0 0 F ∧ ∀ k,F k → w.heap.size ≤ k) := ⟨hs1,hF1⟩
 have HB1:Hid (Below w.heap.size w w1) := hb1
 clear hs1 hF1 hb1 C1
 have C2:Hid (Calls _ _ _ _ _) := rint_any 5 w1
 go_wp2_with fail
 refine C2.out.mono ?_
 rintro e w2 ⟨rfl,hb2⟩
 obtain ⟨_,bB,bS⟩ := one_new w2 #[.int .i64 2,.int .i64 5,.float .f64 0,.string ⟨#[]⟩] 70
 have hb3 := hb2.trans (bB.mono hb2.size)
 have C3:Hid (Calls Tryz.prog 19 #[ptr1 w.heap.size,.int .i64 1,.agg #[.int .i64 0,.bool false,.slice (some ⟨w2.heap.size,0,none⟩) 1 1]] _ fun e w' => e = .returned (.tuple #[.int .i64 0,.int .i64 0]) ∧ (∃ F',Sto w' w.heap.size w.heap.size 1 (addM [] 0 (newR 1 ⟨0,false,[fiveV]⟩)) (0 + 2) (0 + 1) F' ∧ ∀ k,F' k → F k ∨ (w2.alloc (.cells #[.int .i64 2,.int .i64 5,.float .f64 0,.string ⟨#[]⟩] 70)).heap.size ≤ k) ∧ Frm (w2.alloc (.cells #[.int .i64 2,.int .i64 5,.float .f64 0,.string ⟨#[]⟩] 70)) w' F) := add_ok w.heap.size w.heap.size 1 0 0 [] F 1 0 false [fiveV] (some ⟨w2.heap.size,0,none⟩) 1 _ (HS1.out.1.on hb3) rfl (five_row w2) (by simp) five_put (by omega) (by omega) ((HT.out.keep HB1.out HG.out).keep hb3 (Nat.lt_of_lt_of_le HG.out HB1.out.size)) HG.out 0 rfl (fun j hj => absurd hj (by omega)) (by omega) (by omega)
 have HB3:Hid (Below w.heap.size w (w2.alloc (.cells #[.int .i64 2,.int .i64 5,.float .f64 0,.string ⟨#[]⟩] 70))) := HB1.out.trans (hb3.mono HB1.out.size)
 clear hb2 bB bS hb3 C2
 go_wp2_with fail
 generalize (w2.alloc (.cells #[.int .i64 2,.int .i64 5,.float .f64 0,.string ⟨#[]⟩] 70)) = w3 at *
 refine C3.out.mono ?_
 rintro e w4 ⟨rfl,⟨F',hs4,_⟩,hf4⟩
 have HB4:Hid (Below w.heap.size w w4) := HB3.out.trans (hf4.below HB3.out.size (fun k hk => HS1.out.2 k hk))
 obtain ⟨pb,dl,dm,pv,tv,C,T,sv,wo,hX,hd0,hI,hW,hF⟩ := hs4
 have C4:Hid (Calls _ _ _ _ _) := read_any 0 1 0 w4 hX (by rw [hX.plc.len]; have h1 := hI.len; have h2 := hI.mst; omega) 1 hI.ok (by omega)
 rw [five_get] at C4
 clear hX hd0 hI hW hF hf4 C3
 go_wp2_with fail
 refine C4.out.mono ?_
 rintro e w5 ⟨⟨v5,rfl,ho⟩,hb5⟩
 have ho':OwnV w5 w4.heap.size v5 [fiveV] := ho
 obtain ⟨q,c,e5,hr,_⟩ := ho'.sl
 obtain ⟨b,o,e,_,_,h2,_⟩ := hr 0 (by simp)
 subst e
 have e6:v5 = .slice (some ⟨b,o,none⟩) 1 c := e5
 subst e6
 have h3:w5.cell? ⟨b,o + 1,none⟩ = some (.int .i64 5) := by simpa [fiveV] using h2
 have HB5:Hid (Below w.heap.size w w5) := HB4.out.trans (hb5.mono HB4.out.size)
 have e7:shwB (seeR [] [⟨0,false,[fiveV]⟩] 1 1 0) = true := rfl
 rw [e7]
 clear hr h2 ho ho' hb5 C4 e5 e7
 go_wp2_with fail
 go_ret
 exact ⟨rfl,HB5.out⟩

end Go.Proofs.YtcibcfghkidncaaGreatDoor

namespace Go.Proofs.YtcibcfghkidncaaGreatDoor
open Go.RowKit Go.Lib
set_option maxRecDepth 100000

def RdA (w:World) (B:Nat) (p:Option Addr) (A:List AcR):Prop := ∀ i (hi:i < A.length),∃ b o q c,p = some ⟨b,o,none⟩ ∧ b < B ∧
 (w.cell? ⟨b,o + i * 8,none⟩ = some (.int .i64 A[i].k) ∧ w.cell? ⟨b,o + i * 8 + 1,none⟩ = some (.int .i64 A[i].sl) ∧ w.cell? ⟨b,o + i * 8 + 2,none⟩ = some (.int .i64 A[i].tx) ∧ w.cell? ⟨b,o + i * 8 + 3,none⟩ = some (.int .i64 A[i].v.n) ∧ w.cell? ⟨b,o + i * 8 + 4,none⟩ = some (.bool A[i].v.gn) ∧ w.cell? ⟨b,o + i * 8 + 5,none⟩ = some (.slice q A[i].v.row.length c) ∧ w.cell? ⟨b,o + i * 8 + 6,none⟩ = some (.int .u64 A[i].st) ∧ w.cell? ⟨b,o + i * 8 + 7,none⟩ = some (.int .i64 A[i].lv)) ∧ RowV w B q A[i].v.row ∧ (q = none → c = 0)
structure AcR.ok (a:AcR):Prop where
 row:a.v.row.length ≤ 3518437208882
 t1:-9223372036854775808 ≤ a.tx
 t2:a.tx < 9223372036854775808
 lv:a.lv ≤ 9223372036854775807
 st:0 ≤ a.st
theorem RdA.keep {w w':World} {B:Nat} {p:Option Addr} {A:List AcR} (h:RdA w B p A) (hb:Below B w w'):RdA w' B p A := by
 intro i hi
 obtain ⟨b,o,q,c,e,hl,⟨c0,c1,c2,c3,c4,c5,c6,c7⟩,hr,hq⟩ := h i hi
 have kk:∀ (m:Nat) (v:Option Value),w.cell? ⟨b,m,none⟩ = v → w'.cell? ⟨b,m,none⟩ = v := fun m v hc => (hb.cell (p := ⟨b,m,none⟩) hl).trans hc
 exact ⟨b,o,q,c,e,hl,⟨kk _ _ c0,kk _ _ c1,kk _ _ c2,kk _ _ c3,kk _ _ c4,kk _ _ c5,kk _ _ c6,kk _ _ c7⟩,hr.keep hb,hq⟩
def runM (most:Nat) (A:List AcR):List Rs := A.foldl (fun M a => stM most a M) []
theorem runM_in (most:Nat) {A:List AcR} {i:Nat} (hi:i < A.length):runM most (A.take (i + 1)) = stM most A[i] (runM most (A.take i)) := by
 unfold runM
 rw [List.take_add_one,List.getElem?_eq_getElem hi,List.foldl_append]
 rfl
theorem PS.lay {N:Nat → Prop} {w:World} {B sb most:Nat} {M:List Rs} {Kn J:Nat} {v:Value} {b:Nat} {a0:Int} {p q:Option Addr} {n c m d:Nat} (h:PS N w B sb most M Kn J v) (hN:N b) (hB:B ≤ b) (hb:Box w b #[.int .i64 a0,.slice p n c] 29) (a:Int):PS N ((w.setCell ⟨b,0,none⟩ (.int .i64 a)).setCell ⟨b,1,none⟩ (.slice q m d)) B sb most M Kn J v ∧ Box ((w.setCell ⟨b,0,none⟩ (.int .i64 a)).setCell ⟨b,1,none⟩ (.slice q m d)) b #[.int .i64 a,.slice q m d] 29 ∧ Frm w ((w.setCell ⟨b,0,none⟩ (.int .i64 a)).setCell ⟨b,1,none⟩ (.slice q m d)) (one1 b) := by
 obtain ⟨h2,hI,hF⟩ := int_int hb a q m d
 obtain ⟨F,hs,hn⟩ := h.sto
 have hM:Imm w ((w.setCell ⟨b,0,none⟩ (.int .i64 a)).setCell ⟨b,1,none⟩ (.slice q m d)) := Imm.of_frm hF (fun k hk => by rw [show k = b from hk]; exact hb.mut (pln2 _ _ _ _ _) (by decide))
 obtain ⟨pb,dl,dm,pv,tv,C,T,sv,wo,hX,hd0,hI9,hW,hFF⟩ := hs
 refine ⟨⟨⟨F,⟨pb,dl,dm,pv,tv,C,T,sv,wo,hX.keep hF hM (fun k hk e => ?_),hd0,hI9,hW,hFF⟩,fun k hk => ⟨(hn k hk).1,Nat.lt_of_lt_of_le (hn k hk).2 hF.size⟩⟩,h.doc.imm hM,h.tab.keep (hF.below h.hB (fun k hk => ?_)) h.glo,h.glo,Nat.le_trans h.hB hF.size⟩,h2,hF⟩
 ·have e9:k = b := e
  subst e9
  exact (hn k hN).1 ((hFF k).2 hk)
 ·rw [show k = b from hk]
  exact hB
structure PL (w wq:World) (most bm i:Nat) (M:List Rs) (v:Value):Prop where
 ps:PS (one1 bm) wq w.heap.size w.heap.size most M (65537 * i) i v
 m:Box wq bm #[.int .i64 (most:Nat),v] 29
 bel:Below w.heap.size w wq
 lo:w.heap.size < bm
section
variable {w wq w':World} {most bm i:Nat} {M:List Rs} {v:Value}
theorem PL.on (h:PL w wq most bm i M v) (hb:Below wq.heap.size wq w'):PL w w' most bm i M v := ⟨h.ps.on hb,h.m.on hb,h.bel.trans (hb.mono h.bel.size),h.lo⟩
theorem PL.cells (h:PL w wq most bm i M v):wq.cell? ⟨bm,0,none⟩ = some (.int .i64 (most:Nat)) ∧ wq.cell? ⟨bm,1,none⟩ = some v ∧ wq.frozen? ⟨bm,0,none⟩ = false ∧ wq.frozen? ⟨bm,1,none⟩ = false := ⟨box_cell h.m rfl,box_cell h.m rfl,box_frz h.m _,box_frz h.m _⟩
theorem PL.is (h:PL w wq most bm i M v) (hp:PS (one1 bm) w' w.heap.size w.heap.size most M (65537 * i) i v) (hf:Frm wq w' (one1 w.heap.size)):PL w w' most bm i M v := ⟨hp,h.m.frm hf (fun e => by have h9:bm = w.heap.size := e; have := h.lo; omega),h.bel.trans (hf.below h.bel.size (fun k hk => by rw [show k = w.heap.size from hk]; exact Nat.le_refl _)),h.lo⟩
structure PM (w wq:World) (most bm i:Nat) (M':List Rs) (v v':Value):Prop where
 ps:PS (one1 bm) wq w.heap.size w.heap.size most M' (65537 * i) i v'
 m:Box wq bm #[.int .i64 (most:Nat),v] 29
 bel:Below w.heap.size w wq
 lo:w.heap.size < bm
theorem PM.cells {v':Value} (h:PM w wq most bm i M v v'):wq.cell? ⟨bm,0,none⟩ = some (.int .i64 (most:Nat)) ∧ wq.cell? ⟨bm,1,none⟩ = some v ∧ wq.frozen? ⟨bm,0,none⟩ = false ∧ wq.frozen? ⟨bm,1,none⟩ = false := ⟨box_cell h.m rfl,box_cell h.m rfl,box_frz h.m _,box_frz h.m _⟩
theorem PM.lay {p q:Option Addr} {n c m d:Nat} (h:PM w wq most bm i M (.slice p n c) (.slice q m d)):PL w ((wq.setCell ⟨bm,0,none⟩ (.int .i64 (most:Nat))).setCell ⟨bm,1,none⟩ (.slice q m d)) most bm i M (.slice q m d) := by
 obtain ⟨h1,h2,h3⟩ := h.ps.lay (q := q) (m := m) (d := d) rfl (Nat.le_of_lt h.lo) h.m (most:Nat)
 exact ⟨h1,h2,h.bel.trans (h3.below h.bel.size (fun k hk => by rw [show k = bm from hk]; exact Nat.le_of_lt h.lo)),h.lo⟩
end
theorem PL.does {w wq:World} {most bm i:Nat} {A:List AcR} {p:Option Addr} {v:Value} (h:PL w wq most bm i (runM most (A.take i)) v) (hA:RdA w w.heap.size p A) (hi:i < A.length) (hk:∀ a ∈ A,a.ok) (hl:A.length ≤ 1759218604442) :
  ∃ b o q c,p = some ⟨b,o,none⟩ ∧ (wq.cell? ⟨b,o + i * 8,none⟩ = some (.int .i64 A[i].k) ∧ wq.cell? ⟨b,o + i * 8 + 1,none⟩ = some (.int .i64 A[i].sl) ∧ wq.cell? ⟨b,o + i * 8 + 2,none⟩ = some (.int .i64 A[i].tx) ∧ wq.cell? ⟨b,o + i * 8 + 3,none⟩ = some (.int .i64 A[i].v.n) ∧ wq.cell? ⟨b,o + i * 8 + 4,none⟩ = some (.bool A[i].v.gn) ∧ wq.cell? ⟨b,o + i * 8 + 5,none⟩ = some (.slice q A[i].v.row.length c) ∧ wq.cell? ⟨b,o + i * 8 + 6,none⟩ = some (.int .u64 A[i].st) ∧ wq.cell? ⟨b,o + i * 8 + 7,none⟩ = some (.int .i64 A[i].lv)) ∧
  Calls Tryz.prog 12 #[ptr1 w.heap.size,.agg #[.int .i64 (most:Nat),v],.agg #[.int .i64 A[i].k,.int .i64 A[i].sl,.int .i64 A[i].tx,.int .i64 A[i].v.n,.bool A[i].v.gn,.slice q A[i].v.row.length c,.int .u64 A[i].st,.int .i64 A[i].lv]] wq fun e w' => ∃ v2,e = .returned (.tuple #[.agg #[.int .i64 (most:Nat),v2],.bool true]) ∧ PM w w' most bm (i + 1) (runM most (A.take (i + 1))) v v2 := by
 obtain ⟨b,o,q,c,e,hlt,⟨c0,c1,c2,c3,c4,c5,c6,c7⟩,hr,hq⟩ := hA i hi
 have ho := hk _ (List.getElem_mem hi)
 have kk:∀ (m:Nat) (v:Option Value),w.cell? ⟨b,m,none⟩ = v → wq.cell? ⟨b,m,none⟩ = v := fun m v hc => (h.bel.cell (p := ⟨b,m,none⟩) hlt).trans hc
 refine ⟨b,o,q,c,e,⟨kk _ _ c0,kk _ _ c1,kk _ _ c2,kk _ _ c3,kk _ _ c4,kk _ _ c5,kk _ _ c6,kk _ _ c7⟩,?_⟩
 have hV:SlV wq wq.heap.size (.slice q A[i].v.row.length c) A[i].v.row := SlV.imm (w := w) ⟨q,c,rfl,hr,hq⟩ (Imm.of_below h.bel)
 refine (does_any (one1 bm) w.heap.size w.heap.size most (runM most (A.take i)) (65537 * i) i A[i] q c v wq h.ps hV ho.row (by omega) (by omega) ho.t1 ho.t2 ho.lv ho.st).mono ?_
 rintro e w' ⟨⟨v2,rfl,h1⟩,h2⟩
 refine ⟨v2,rfl,?_,h.m.frm h2 (fun e => e.2 rfl),h.bel.trans (h2.below h.bel.size (fun k hk => hk.1)),h.lo⟩
 rw [runM_in most hi,show 65537 * (i + 1) = 65537 * i + 65537 by omega]
 exact h1

end Go.Proofs.YtcibcfghkidncaaGreatDoor
