/- The walk of the document's Fold. Intents held against their like. Plain mathematics: writes put behind a savepoint. A row's state in a store: plain mathematics. -/
import Derived.Test.YtcibcfghkidncaaGreatDoorGWTop8
import Derived.Test.YtcibcfghkidncaaGreatDoorGFChn8
import Derived.Test.YtcibcfghkidncaaGreatDoorGWSam8
import Derived.Test.YtcibcfghkidncaaGreatDoorGWIns8
namespace Go.Proofs.YtcibcfghkidncaaGreatDoor
open Go.RowKit
set_option maxRecDepth 100000

theorem mayW_inc {L:List Rw} (h:mayW L = true):∀ (d i:Nat) (hj:i + d < L.length),L[i].n ≤ L[i + d].n
 | 0,_,_ => Int.le_refl _
 | d + 1,i,hj => by
  have hj':i + d + 1 < L.length := hj
  have h1 := mayW_at h (i := i + d + 1) hj'
  rw [okWt_succ hj',Bool.and_eq_true] at h1
  exact Int.le_trans (mayW_inc h d i (by omega)) (Int.le_of_lt (of_decide_eq_true h1.2))
theorem mayI_W {tx:Int} {L:List Rw} (h:mayI tx L = true):mayW L = true := by
 unfold mayI at h
 rw [Bool.and_eq_true] at h
 exact h.2
theorem bel_id {L:List Rw} {s:Int} (h:∀ i (hi:i < L.length),L[i].n < s):belL L s = L := by
 unfold belL
 rw [List.filter_eq_self]
 intro r hr
 obtain ⟨i,hi,rfl⟩ := List.getElem_of_mem hr
 exact decide_eq_true (h i hi)
theorem fld_low {W:List Rw} {s:Int} (h1:1 ≤ s) (h:∀ i (hi:i < W.length),W[i].n < s):fldL W s = W := by
 unfold fldL
 rw [if_neg (by omega),abv_false (fun i hi => by have := h i hi; omega)]
 exact bel_id h
theorem fld_high {W:List Rw} {s:Int} {m:Nat} (h1:1 ≤ s) (hm:W.length = m + 1) (h:s ≤ (W[m]'(by omega)).n):fldL W s = belL W (s - 1) ++ [⟨s - 1,(W[m]'(by omega)).gn,(W[m]'(by omega)).row⟩] := by
 unfold fldL
 rw [if_neg (by omega),abv_true (show m < W.length by omega) (by omega),if_pos rfl]
 have e:W[W.length - 1]? = some (W[m]'(by omega)) := by
  rw [show W.length - 1 = m by omega]
  exact List.getElem?_eq_getElem (by omega)
 rw [e]

theorem Box.grown {w w':World} {g:Nat} {vs:Array Value} {T:TypeId} {r:Option Nat} (h:Box w g vs T) (hg:w.grownBy w' r) (hne:r ≠ some g):Box w' g vs T := (hg.block g h.lt (fun e => hne e.symm)).trans h
theorem HasRb.offN {w:World} {B R j i:Nat} {v:Value} {Z:List (Rw × Value)} (h:HasRb w B R v Z) (x:Value) (hR:R ≤ j) (hj:v.ownBlock ≠ some j):HasRb (w.setCell ⟨j,i,none⟩ x) B R v Z := by
 refine ⟨⟨h.1.1,?_⟩,fun z hz => (h.2 z hz).off x hR⟩
 rcases h.1.2 with h1 | ⟨g,cap,cur,e,hb',hg,r⟩
 ·exact .inl h1
 ·refine .inr ⟨g,cap,cur,e,hb',(heap_setCell_other w _ g x ?_).trans hg,r⟩
  show g ≠ j
  intro e2
  subst e2
  exact hj (by rw [e]; rfl)

theorem HasRb.ne {w:World} {B R g:Nat} {v:Value} {Z:List (Rw × Value)} {vs:Array Value} {T:TypeId} (h:HasRb w B R v Z) (hx:Box w g vs T) (hT:T ≠ 38):v.ownBlock ≠ some g := by
 intro he
 rcases h.1.2 with ⟨rfl,_⟩ | ⟨k,cap,cur,rfl,_,hg,_⟩
 ·simp [Value.ownBlock] at he
 ·simp only [Value.ownBlock,Option.some.injEq] at he
  subst he
  unfold Box at hx
  rw [hx] at hg
  injection hg with h1
  injection h1 with _ h2
  exact hT h2

set_option maxHeartbeats 8000000 in
theorem rfold_any (W:List Rw) (p:Option Addr) (c:Nat) (tx s:Int) (w:World) (hR:RdR .i64 w w.heap.size p W) (hlen:W.length ≤ 3518437208882) (hs:s ≤ 9223372036854775807) (hm:mayI tx W = true) :
  Calls Tryz.prog 70 #[.agg #[.int .i64 tx,.slice p W.length c],.int .i64 s] w fun e w' => (∃ p' c',e = .returned (.tuple #[.agg #[.int .i64 (fldT tx s),.slice p' (fldL W s).length c'],.int .i64 (fldE s)]) ∧ RdR .i64 w' w'.heap.size p' (fldL W s)) ∧ Below w.heap.size w w' := by
 have HR:Hid (∀ w1,Below w.heap.size w w1 → RdR .i64 w1 w1.heap.size p W) := fun w1 h => hR.on h
 have HRw:Hid (RdR .i64 w w.heap.size p W) := hR
 have HI:Hid (∀ (d i:Nat) (hj:i + d < W.length),W[i].n ≤ W[i + d].n) := mayW_inc (mayI_W hm)
 have CB:Hid (∀ w1,Below w.heap.size w w1 → Calls Tryz.prog 55 #[.agg #[.int .i64 tx,.slice p W.length c],.int .i64 (s - 1)] w1 fun e w' => (∃ v Z,e = .returned (.agg #[.int .i64 (bakT tx W (s - 1)),v]) ∧ Z.map Prod.fst = belL W (s - 1) ∧ HasRb w' w1.heap.size w.heap.size v Z) ∧ Below w1.heap.size w1 w') := fun w1 h => rback_any W p c tx (s - 1) w1 w.heap.size h.size (HRw.out.keep h) hlen
 clear hR hm
 have hx1 := (Box.new w #[.int .i64 tx,.slice p W.length c] 75).on ((Below.refl _ _).alloc (Nat.le_refl _) (.cells #[.int .i64 0,.slice none 0 0] 75))
 have hx3 := Box.new (w.alloc (.cells #[.int .i64 tx,.slice p W.length c] 75)) #[.int .i64 0,.slice none 0 0] 75
 have hs1:(w.alloc (.cells #[.int .i64 tx,.slice p W.length c] 75)).heap.size = w.heap.size + 1 := by simp [go_sem]
 have hs3:((w.alloc (.cells #[.int .i64 tx,.slice p W.length c] 75)).alloc (.cells #[.int .i64 0,.slice none 0 0] 75)).heap.size = w.heap.size + 1 + 1 := by simp [go_sem]
 rw [hs1] at hx3
 have HB0:Hid (Below w.heap.size w ((w.alloc (.cells #[.int .i64 tx,.slice p W.length c] 75)).alloc (.cells #[.int .i64 0,.slice none 0 0] 75)) ∧ ((w.alloc (.cells #[.int .i64 tx,.slice p W.length c] 75)).alloc (.cells #[.int .i64 0,.slice none 0 0] 75)).heap.size = w.heap.size + 1 + 1) := ⟨by go_grown,hs3⟩
 have HX0:Hid (Box ((w.alloc (.cells #[.int .i64 tx,.slice p W.length c] 75)).alloc (.cells #[.int .i64 0,.slice none 0 0] 75)) w.heap.size #[.int .i64 tx,.slice p W.length c] 75 ∧ Box ((w.alloc (.cells #[.int .i64 tx,.slice p W.length c] 75)).alloc (.cells #[.int .i64 0,.slice none 0 0] 75)) (w.heap.size + 1) #[.int .i64 0,.slice none 0 0] 75) := ⟨hx1,hx3⟩
 clear hx1 hx3 hs1 hs3
 by_cases h1:s < 1
 ·have HF2:fldL W s = [] := by unfold fldL; exact if_pos h1
  have HE2:fldE s = 1 ∧ fldT tx s = 0 := ⟨if_pos h1,if_pos h1⟩
  rw [HF2,HE2.1,HE2.2]
  clear HF2 HE2
  go_enter Tryz.func70,Tryz.ntmps70
  go_wp2_with fail
  obtain ⟨y0,y1,_⟩ := box2 HX0.out.2
  (try simp only [Exit.inBlock,Exit.then])
  refine bodyPost_ret (v := .tuple #[.agg #[.int .i64 0,.slice none 0 0],.int .i64 1]) (by simp [results,Tryz.results70,go_sem,y0,y1]) rfl ?_
  exact ⟨⟨_,_,rfl,RdR.nil _ _ _⟩,HB0.out.1⟩
 ·have HE2:fldE s = 0 ∧ fldT tx s = tx := ⟨if_neg h1,if_neg h1⟩
  rw [HE2.1,HE2.2]
  have h1':1 ≤ s := by omega
  clear HE2 h1
  by_cases hW0:W.length = 0
  ·have hL:W = [] := List.eq_nil_of_length_eq_zero hW0
   subst hL
   rw [fld_low h1' (fun i hi => absurd hi (by simp))]
   clear hW0 HI CB
   simp only [List.length_nil] at HB0 HX0 ⊢
   go_enter Tryz.func70,Tryz.ntmps70
   go_wp2_with fail
   have hZ := Box.new (w.alloc (.cells #[.int .i64 tx,.slice p 0 c] 75)) #[.int .i64 tx,.slice p 0 c] 75
   rw [show (w.alloc (.cells #[.int .i64 tx,.slice p 0 c] 75)).heap.size = w.heap.size + 1 by simp [go_sem]] at hZ
   have hB:Below w.heap.size w ((w.alloc (.cells #[.int .i64 tx,.slice p 0 c] 75)).alloc (.cells #[.int .i64 tx,.slice p 0 c] 75)) := by go_grown
   generalize (w.alloc (.cells #[.int .i64 tx,.slice p 0 c] 75)).alloc (.cells #[.int .i64 tx,.slice p 0 c] 75) = w9 at *
   obtain ⟨y0,y1,_⟩ := box2 hZ
   (try simp only [Exit.inBlock,Exit.then])
   refine bodyPost_ret (v := .tuple #[.agg #[.int .i64 tx,.slice p 0 c],.int .i64 0]) (by simp [results,Tryz.results70,go_sem,y0,y1]) rfl ?_
   exact ⟨⟨_,_,rfl,fun i hi => absurd hi (by simp)⟩,hB⟩
  ·obtain ⟨m,hm⟩:∃ m,W.length = m + 1 := ⟨W.length - 1,by omega⟩
   have hm1:m < W.length := by omega
   obtain ⟨b,o,q,d,hp,hbB,c0,c1,c2,hr,hq⟩ := HR.out w (Below.refl _ _) m hm1
   subst hp
   have HSl:Hid (∀ w1,Below w.heap.size w w1 → SlV w1 w.heap.size (.slice q W[m].row.length d) W[m].row) := fun w1 h => SlV.keep ⟨q,d,rfl,hr,hq⟩ h
   by_cases hlo:W[m].n < s
   ·rw [fld_low h1' (fun i hi => by
     have := HI.out (m - i) i (by omega)
     have e:W[i + (m - i)] = W[m] := by congr 1; omega
     rw [e] at this
     omega)]
    clear HI CB hr hq HSl hW0
    generalize W[m].n = xn at *
    generalize W[m].gn = xg at *
    generalize W[m].row.length = xl at *
    have Hm:Hid (W.length = m + 1) := hm
    rw [hm] at HX0 HB0 ⊢
    clear hm
    have hmb:(((m:Int) + 1) == 0) = false := beq_eq_false_iff_ne.2 (by omega)
    go_enter Tryz.func70,Tryz.ntmps70
    go_wp2_with fail
    have hZ := Box.new (w.alloc (.cells #[.int .i64 tx,.slice (some ⟨b,o,none⟩) (m + 1) c] 75)) #[.int .i64 tx,.slice (some ⟨b,o,none⟩) (m + 1) c] 75
    rw [show (w.alloc (.cells #[.int .i64 tx,.slice (some ⟨b,o,none⟩) (m + 1) c] 75)).heap.size = w.heap.size + 1 by simp [go_sem]] at hZ
    have hB:Below w.heap.size w ((w.alloc (.cells #[.int .i64 tx,.slice (some ⟨b,o,none⟩) (m + 1) c] 75)).alloc (.cells #[.int .i64 tx,.slice (some ⟨b,o,none⟩) (m + 1) c] 75)) := by go_grown
    generalize (w.alloc (.cells #[.int .i64 tx,.slice (some ⟨b,o,none⟩) (m + 1) c] 75)).alloc (.cells #[.int .i64 tx,.slice (some ⟨b,o,none⟩) (m + 1) c] 75) = w9 at *
    obtain ⟨y0,y1,_⟩ := box2 hZ
    (try simp only [Exit.inBlock,Exit.then])
    refine bodyPost_ret (v := .tuple #[.agg #[.int .i64 tx,.slice (some ⟨b,o,none⟩) (m + 1) c],.int .i64 0]) (by simp [results,Tryz.results70,go_sem,y0,y1]) rfl ?_
    exact ⟨⟨_,_,rfl,HR.out _ hB⟩,hB⟩
   ·have hlo':s ≤ W[m].n := by omega
    have HF:Hid (fldL W s = belL W (s - 1) ++ [⟨s - 1,W[m].gn,W[m].row⟩]) := fld_high h1' hm hlo'
    have HC:Hid (∀ v,rcell .i64 ((⟨s - 1,W[m].gn,W[m].row⟩:Rw),v) = [.int .i64 (s - 1),.bool W[m].gn,v]) := fun v => rfl
    have HBl:Hid ((belL W (s - 1)).length ≤ W.length) := belL_len _ _
    rw [HF.out]
    generalize hM:belL W (s - 1) ++ [⟨s - 1,W[m].gn,W[m].row⟩] = M at *
    clear HI hr hq hW0 hlo HF
    generalize bakT tx W (s - 1) = bt at *
    generalize W[m].n = xn at *
    generalize hxg:W[m].gn = xg at *
    generalize hxl:W[m].row.length = xl at *
    have HM:Hid (belL W (s - 1) ++ [⟨s - 1,xg,W[m].row⟩] = M) := hM
    clear hM hxg hxl
    have Hm:Hid (W.length = m + 1) := hm
    rw [hm] at CB HX0 HB0 HBl hlen ⊢
    clear hm
    have hmb:(((m:Int) + 1) == 0) = false := beq_eq_false_iff_ne.2 (by omega)
    go_enter Tryz.func70,Tryz.ntmps70
    go_wp2_with fail
    have hs9:((w.alloc (.cells #[.int .i64 tx,.slice (some ⟨b,o,none⟩) (m + 1) c] 75)).alloc (.cells #[.int .i64 0,.slice none 0 0] 75)).heap.size = w.heap.size + 1 + 1 := HB0.out.2
    generalize (w.alloc (.cells #[.int .i64 tx,.slice (some ⟨b,o,none⟩) (m + 1) c] 75)).alloc (.cells #[.int .i64 0,.slice none 0 0] 75) = w3 at *
    have hba:Below w3.heap.size w3 (w3.alloc (.cells #[.int .i64 (s - 1),.bool xg,.slice q xl d] 38)) := (Below.refl _ _).alloc (Nat.le_refl _) _
    have hXw := Box.new w3 #[.int .i64 (s - 1),.bool xg,.slice q xl d] 38
    rw [hs9] at hXw
    have hBa := HB0.out.1.trans (hba.mono HB0.out.1.size)
    refine (CB.out _ hBa).mono ?_
    rintro e w4 ⟨⟨v4,Z4,rfl,hZ4,hO4⟩,hb4⟩
    obtain ⟨p4,c4,rfl,_⟩ := owns_len hO4.1
    have hXi4 := (HX0.out.1.on hba).on hb4
    have hXr4 := (HX0.out.2.on hba).on hb4
    have hXw4 := hXw.on hb4
    have hB4 := hBa.trans (hb4.mono hBa.size)
    have hsza:w.heap.size + 1 + 1 + 1 ≤ (w3.alloc (.cells #[.int .i64 (s - 1),.bool xg,.slice q xl d] 38)).heap.size := by simp [go_sem]; omega
    have HO4:Hid (HasRb w4 (w.heap.size + 1 + 1 + 1) w.heap.size (.slice p4 Z4.length c4) Z4 ∧ Z4.map Prod.fst = belL W (s - 1)) := ⟨⟨owns_base hO4.1 hsza,hO4.2⟩,hZ4⟩
    have hZl:Z4.length ≤ m + 1 := by
     have := congrArg List.length hZ4
     rw [List.length_map] at this
     rw [this]
     exact HBl.out
    clear hO4 hZ4 CB
    obtain ⟨x0,x1,_,_⟩ := box2 hXi4
    obtain ⟨⟨u0,u1,u2⟩,_⟩ := box3 hXw4
    have hxl := hXi4.lt
    have hwl := hXw4.lt
    have hbo:Below w4.heap.size w4 (w4.alloc (.cells #[.int .i64 tx,.slice p4 Z4.length c4] 75)) := (Below.refl _ _).alloc (Nat.le_refl _) _
    have hXo := Box.new w4 #[.int .i64 tx,.slice p4 Z4.length c4] 75
    have hXr5 := hXr4.on hbo
    have hO5 := HO4.out.1.kept hbo hB4.size
    have hB5 := hB4.trans (hbo.mono hB4.size)
    have hne:(Value.slice p4 Z4.length c4).ownBlock ≠ some w4.heap.size := fun he => by
     have := (HO4.out.1.1.lt _ he).2
     omega
    have HSd:Hid (SlV (w4.alloc (.cells #[.int .i64 tx,.slice p4 Z4.length c4] 75)) w.heap.size (.slice q xl d) W[m].row) := HSl.out _ hB5
    have hsz5:w.heap.size + 1 + 1 + 1 ≤ (w4.alloc (.cells #[.int .i64 tx,.slice p4 Z4.length c4] 75)).heap.size := Nat.le_trans (Nat.le_trans hsza hb4.size) hbo.size
    have HB5:Hid (Below w.heap.size w (w4.alloc (.cells #[.int .i64 tx,.slice p4 Z4.length c4] 75))) := hB5
    clear hb4 hba hbo hXi4 hXw4 hXr4 hBa hXw hsza hB4 hB5
    have HZm:Hid ((Z4 ++ [((⟨s - 1,xg,W[m].row⟩:Rw),Value.slice q xl d)]).map Prod.fst = M) := by
     show _ = _
     rw [List.map_append,HO4.out.2]
     exact HM.out
    have hZl2:(Z4.length + 1) * 40 ≤ 140737488355328 := by omega
    go_wp2_with (first | (at_builtin; go_loud (refine wpList_app1 (w4.alloc (.cells #[.int .i64 tx,.slice p4 Z4.length c4] 75)) rfl (.tmp 46) (.tmp 48) 38 73 _ 3 40 rfl Tryz.underlying73 info_wri rfl (by decide) (w.heap.size + 1 + 1 + 1) _ _ _ (by rfl) hO5.1 [.int .i64 (s - 1),.bool xg,.slice q xl d] rfl (by simp [Value.oneCell']) _ rfl (by simp) hZl2 (by omega) hsz5 ?_); intro v6 w6 h6 h7 h8; have hXo6:Box w6 w4.heap.size _ _ := (hXo.on ((Below.refl _ _).alloc (Nat.le_refl _) _)).grown h8 hne; have hXr6 := hXr5.keep h7 (show w.heap.size + 1 < w.heap.size + 1 + 1 + 1 by omega); obtain ⟨k0,k1,k2,k3⟩ := box2 hXo6; obtain ⟨m0,m1,m2,m3⟩ := box2 hXr6; obtain ⟨p6,c6,e6,_⟩ := owns_len h6; subst e6))
    have H6:HasRb w6 (w.heap.size + 1 + 1 + 1) w.heap.size (.slice p6 (Z4.length + 1) c6) (Z4 ++ [((⟨s - 1,xg,W[m].row⟩:Rw),Value.slice q xl d)]) := hO5.app (z := ((⟨s - 1,xg,W[m].row⟩:Rw),Value.slice q xl d)) HSd.out (by rw [HC.out]; exact h6) (h7.mono (by omega))
    have hB6:Below w.heap.size w w6 := HB5.out.trans (h7.mono (by omega))
    have hn6 := H6.ne hXo6 (by decide)
    have hN := ((H6.offN (i := 1) (j := w4.heap.size) (.slice p6 (Z4.length + 1) c6) (by omega) hn6).off (i := 0) (j := w.heap.size + 1) (.int .i64 tx) (by omega) (by omega)).off (i := 1) (j := w.heap.size + 1) (.slice p6 (Z4.length + 1) c6) (by omega) (by omega)
    have hB := ((hB6.setCell (p := ⟨w4.heap.size,1,none⟩) (show w.heap.size ≤ w4.heap.size by omega) (.slice p6 (Z4.length + 1) c6)).setCell (p := ⟨w.heap.size + 1,0,none⟩) (Nat.le_succ _) (.int .i64 tx)).setCell (p := ⟨w.heap.size + 1,1,none⟩) (Nat.le_succ _) (.slice p6 (Z4.length + 1) c6)
    have hZZ := ((hXr6.off (i := 1) (j := w4.heap.size) (.slice p6 (Z4.length + 1) c6) (by omega)).set (i := 0) (.int .i64 tx)).set (i := 1) (.slice p6 (Z4.length + 1) c6)
    clear h6 h7 h8 k0 k1 k2 k3 m0 m1 m2 m3 hXo6 hXr6 H6 hB6 hn6 hXo hXr5 hO5 hne HB5 HSd
    generalize ((w6.setCell ⟨w4.heap.size,1,none⟩ (.slice p6 (Z4.length + 1) c6)).setCell ⟨w.heap.size + 1,0,none⟩ (.int .i64 tx)).setCell ⟨w.heap.size + 1,1,none⟩ (.slice p6 (Z4.length + 1) c6) = w9 at *
    obtain ⟨k0,k1,_⟩ := box2 hZZ
    obtain ⟨p7,c7,e7,_,hr7⟩ := hN.rd hB.size HZm.out
    (try simp only [Exit.inBlock,Exit.then])
    refine bodyPost_ret (v := .tuple #[.agg #[.int .i64 tx,.slice p6 (Z4.length + 1) c6],.int .i64 0]) (by simp [results,Tryz.results70,go_sem,k0,k1]) rfl ?_
    exact ⟨⟨p7,c7,by rw [e7],hr7⟩,hB⟩

end Go.Proofs.YtcibcfghkidncaaGreatDoor

namespace Go.Proofs.YtcibcfghkidncaaGreatDoor
open Go.RowKit
set_option maxRecDepth 100000

set_option maxHeartbeats 4000000 in
theorem sameIntent_eq (L:List Rw) (p q:Option Addr) (c d:Nat) (tx:Int) (w:World) (hA:RdR .i64 w w.heap.size p L) (hB:RdR .i64 w w.heap.size q L) (hlen:L.length ≤ 17592186043904) (hsh:shortR L) :
  Calls Tryz.prog 33 #[.agg #[.int .i64 tx,.slice p L.length c],.agg #[.int .i64 tx,.slice q L.length d]] w fun e w' => e = .returned (.bool true) ∧ Below w.heap.size w w' := by
 have HA:Hid (∀ w1,Below w.heap.size w w1 → RdR .i64 w1 w1.heap.size p L) := fun w1 h => hA.on h
 have HB:Hid (∀ w1,Below w.heap.size w w1 → RdR .i64 w1 w1.heap.size q L) := fun w1 h => hB.on h
 have HS:Hid (shortR L) := hsh
 clear hA hB hsh
 have hx1 := (Box.new w #[.int .i64 tx,.slice p L.length c] 75).on ((Below.refl _ _).alloc (Nat.le_refl _) (.cells #[.int .i64 tx,.slice q L.length d] 75))
 have hx2 := Box.new (w.alloc (.cells #[.int .i64 tx,.slice p L.length c] 75)) #[.int .i64 tx,.slice q L.length d] 75
 have hs1:(w.alloc (.cells #[.int .i64 tx,.slice p L.length c] 75)).heap.size = w.heap.size + 1 := by simp [go_sem]
 rw [hs1] at hx2
 have HB0:Hid (Below w.heap.size w ((w.alloc (.cells #[.int .i64 tx,.slice p L.length c] 75)).alloc (.cells #[.int .i64 tx,.slice q L.length d] 75))) := by
  show Below _ _ _
  go_grown
 have HX:Hid (Box _ w.heap.size _ _ ∧ Box _ (w.heap.size + 1) _ _) := ⟨hx1,hx2⟩
 clear hs1 hx1 hx2
 go_enter Tryz.func33,Tryz.ntmps33
 go_wp2_with fail
 generalize (w.alloc (.cells #[.int .i64 tx,.slice p L.length c] 75)).alloc (.cells #[.int .i64 tx,.slice q L.length d] 75) = w0 at *
 go_loopw [5] (fun i wr => ∃ j:Nat,j ≤ L.length ∧ i = .int .i64 (j:Int) ∧ Below w0.heap.size w0 wr) (fun i _ => L.length - (intOf i).toNat)
 case atStart => exact ⟨0,Nat.zero_le _,by go_num,Below.refl _ _⟩
 case round =>
  obtain ⟨j,hj,rfl,hn⟩ := hrel
  obtain ⟨x0,x1,_,_⟩ := box2 (HX.out.1.on hn)
  obtain ⟨y0,y1,_,_⟩ := box2 (HX.out.2.on hn)
  have hxl := (HX.out.1.on hn).lt
  have hyl := (HX.out.2.on hn).lt
  have hB:Below w.heap.size w wr := HB0.out.trans (hn.mono HB0.out.size)
  by_cases hj0:j = L.length
  ·subst hj0
   have HBr:Hid (Below w.heap.size w wr) := hB
   clear hB
   go_wp2
   go_ret
   exact ⟨rfl,HBr.out⟩
  ·have hj1:j < L.length := by omega
   obtain ⟨b,o,q1,d1,rfl,hbB,c0,c1,c2,hr1,_⟩ := HA.out wr hB j hj1
   obtain ⟨b2,o2,q2,d2,rfl,hbB2,e0,e1,e2,hr2,_⟩ := HB.out wr hB j hj1
   have CS:Hid (∀ w1:World,Below wr.heap.size wr w1 → Calls Tryz.prog 67 #[.slice q1 L[j].row.length d1,.slice q2 L[j].row.length d2] w1 fun e w' => e = .returned (.bool true) ∧ Below w1.heap.size w1 w') := fun w1 h =>
    sameRow_eq L[j].row q1 q2 d1 d2 w1 (hr1.on h) (hr2.on h) (by have := HS.out j hj1; omega)
   clear hj0 hr1 hr2 hB
   generalize L[j].n = xn at *
   generalize L[j].gn = xg at *
   generalize L[j].row.length = xl at *
   go_wp2_with fail
   have hbx:Below wr.heap.size wr ((wr.alloc (.cells #[.int .i64 xn,.bool xg,.slice q1 xl d1] 38)).alloc (.cells #[.int .i64 xn,.bool xg,.slice q2 xl d2] 38)) := by go_grown
   refine (CS.out _ hbx).mono ?_
   rintro e w6 ⟨rfl,hb6⟩
   have HB6:Hid (Below w0.heap.size w0 w6) := hn.trans ((hbx.trans (hb6.mono hbx.size)).mono hn.size)
   clear hbx hb6
   go_wp2_with fail
   go_roundw
   case rel => exact ⟨j + 1,by omega,by go_num,HB6.out⟩
   case measure => simp [intOf]; omega

end Go.Proofs.YtcibcfghkidncaaGreatDoor

namespace Go.Proofs.YtcibcfghkidncaaGreatDoor
open Go.RowKit

theorem bel_lt (L:List Rw) (s:Int):∀ r ∈ belL L s,r.n < s := fun _r hr => of_decide_eq_true (List.mem_filter.1 hr).2
theorem bel_in (L:List Rw) (s:Int):∀ r ∈ belL L s,r ∈ L := fun _r hr => (List.mem_filter.1 hr).1
theorem fld_sh {W:List Rw} {s:Int} (h:shortR W):shortR (fldL W s) ∧ (fldL W s).length ≤ W.length + 1 := by
 have key:∀ M:List Rw,(∀ r ∈ M,r ∈ W ∨ r.row.length ≤ 3518437208882) → shortR M := fun M hM i hi => by
  rcases hM _ (List.getElem_mem hi) with h1 | h1
  ·obtain ⟨j,hj,e⟩ := List.getElem_of_mem h1
   rw [← e]
   exact h j hj
  ·exact h1
 unfold fldL
 split
 ·exact ⟨fun i hi => absurd hi (by simp),by simp⟩
 split
 ·cases hW:W[W.length - 1]? with
  | none => exact ⟨fun i hi => absurd hi (by simp),by simp⟩
  | some v =>
   have hv:v ∈ W := List.mem_of_getElem? hW
   refine ⟨key _ (fun r hr => ?_),by have := belL_len W (s - 1); simp; omega⟩
   rcases List.mem_append.1 hr with h1 | h1
   ·exact Or.inl (bel_in _ _ r h1)
   ·rw [List.mem_singleton] at h1
    obtain ⟨j,hj,e⟩ := List.getElem_of_mem hv
    refine Or.inr ?_
    rw [h1,← e]
    exact h j hj
 ·exact ⟨key _ (fun r hr => Or.inl (bel_in _ _ r hr)),by have := belL_len W s; omega⟩

end Go.Proofs.YtcibcfghkidncaaGreatDoor

namespace Go.Proofs.YtcibcfghkidncaaGreatDoor

structure Rs where
 L:List Rw
 tx:Int
 W:List Rw
def nilR:Rs := ⟨[],0,[]⟩
def thr (r:Rs):Bool := !r.L.isEmpty || decide (r.tx ≠ 0)
def okW (r:Rw):Bool := !(decide (r.n < (0:Int))) && !(r.gn && decide (0 < r.row.length))
theorem okWt_okW {L:List Rw} {i:Nat} (hi:i < L.length) (h:okWt L i = true):okW L[i] = true := by
 cases i with
 | zero => rw [okWt_zero hi] at h; exact h
 | succ i =>
  rw [okWt_succ hi] at h
  rw [Bool.and_eq_true] at h
  exact h.1
theorem mayW_iff {L:List Rw}:mayW L = true ↔ (∀ r ∈ L,okW r = true) ∧ L.Pairwise (fun u v => u.n < v.n) := by
 constructor
 ·intro h
  refine ⟨fun r hr => ?_,?_⟩
  ·obtain ⟨i,hi,rfl⟩ := List.getElem_of_mem hr
   exact okWt_okW hi (mayW_at h hi)
  ·rw [List.pairwise_iff_getElem]
   have step:∀ i (hi:i + 1 < L.length),(L[i]'(by omega)).n < L[i + 1].n := fun i hi => by
    have := mayW_at h hi
    rw [okWt_succ hi,Bool.and_eq_true] at this
    exact of_decide_eq_true this.2
   intro i j hi hj hij
   obtain ⟨d,rfl⟩:∃ d,j = i + 1 + d := ⟨j - (i + 1),by omega⟩
   induction d with
   | zero => exact step i hj
   | succ d ih => exact Int.lt_trans (ih (by omega) (by omega)) (step (i + 1 + d) hj)
 ·rintro ⟨h1,h2⟩
  rw [List.pairwise_iff_getElem] at h2
  refine mayW_true fun i hi => ?_
  cases i with
  | zero => rw [okWt_zero hi]; exact h1 _ (List.getElem_mem hi)
  | succ i =>
   rw [okWt_succ hi,Bool.and_eq_true]
   exact ⟨h1 _ (List.getElem_mem hi),decide_eq_true (h2 i (i + 1) (by omega) hi (by omega))⟩
theorem mayI_iff {tx:Int} {W:List Rw}:mayI tx W = true ↔ 0 ≤ tx ∧ (tx = 0 ↔ W = []) ∧ mayW W = true := by
 unfold mayI
 rw [Bool.and_eq_true,Bool.and_eq_true]
 constructor
 ·rintro ⟨⟨h1,h2⟩,h3⟩
  refine ⟨by simpa using h1,?_,h3⟩
  have := eq_of_beq h2
  rw [decide_eq_decide] at this
  rw [this,List.length_eq_zero_iff]
 ·rintro ⟨h1,h2,h3⟩
  refine ⟨⟨by simpa using h1,?_⟩,h3⟩
  rw [beq_iff_eq,decide_eq_decide,List.length_eq_zero_iff]
  exact h2
theorem mayW_sub {L M:List Rw} (h:mayW L = true) (hs:M.Sublist L):mayW M = true := by
 rw [mayW_iff] at h ⊢
 exact ⟨fun r hr => h.1 r (hs.subset hr),h.2.sublist hs⟩
theorem bel_sub (L:List Rw) (s:Int):(belL L s).Sublist L := List.filter_sublist
theorem shortR_sub {L M:List Rw} (h:shortR L) (hs:M.Sublist L):shortR M := by
 intro i hi
 obtain ⟨j,hj,e⟩ := List.getElem_of_mem (hs.subset (List.getElem_mem hi))
 rw [← e]
 exact h j hj
theorem shortR_cons {L:List Rw} {v:Rw} (h:shortR L) (hv:v.row.length ≤ 3518437208882):shortR (v :: L) := by
 intro i hi
 cases i with
 | zero => exact hv
 | succ i => exact h i (by simpa using hi)
theorem shortR_app {L:List Rw} {v:Rw} (h:shortR L) (hv:v.row.length ≤ 3518437208882):shortR (L ++ [v]) := by
 intro i hi
 by_cases h1:i < L.length
 ·rw [List.getElem_append_left h1]
  exact h i h1
 ·have e:i = L.length := by simp at hi; omega
  subst e
  simp only [List.getElem_append_right (Nat.le_refl _),Nat.sub_self,List.getElem_cons_zero]
  exact hv
theorem shortR_mem {L:List Rw} {v:Rw} (h:shortR L) (hv:v ∈ L):v.row.length ≤ 3518437208882 := by
 obtain ⟨i,hi,rfl⟩ := List.getElem_of_mem hv
 exact h i hi

structure OkR (K:Nat) (r:Rs):Prop where
 may:mayL r.L = true
 mai:mayI r.tx r.W = true
 sL:shortR r.L
 sW:shortR r.W
 nL:r.L.length ≤ K
 nW:r.W.length ≤ K
 top:r.tx < 9223372036854775808
theorem OkR.mono {K K':Nat} {r:Rs} (h:OkR K r) (hk:K ≤ K'):OkR K' r := ⟨h.may,h.mai,h.sL,h.sW,Nat.le_trans h.nL hk,Nat.le_trans h.nW hk,h.top⟩
theorem OkR.nil (K:Nat):OkR K nilR := ⟨by decide,by decide,fun i hi => absurd hi (by simp [nilR]),fun i hi => absurd hi (by simp [nilR]),Nat.zero_le _,Nat.zero_le _,by decide⟩
theorem OkR.tx0 {K:Nat} {r:Rs} (h:OkR K r):r.tx = 0 ↔ r.W = [] := (mayI_iff.1 h.mai).2.1
theorem OkR.mw {K:Nat} {r:Rs} (h:OkR K r):mayW r.W = true := (mayI_iff.1 h.mai).2.2
theorem OkR.gone {K:Nat} {r:Rs} (h:OkR K r):goneOk r.W := by
 intro i hi hg
 have := (mayW_iff.1 h.mw).1 _ (List.getElem_mem hi)
 simp only [okW,hg,Bool.true_and,Bool.and_eq_true,Bool.not_eq_true',decide_eq_false_iff_not] at this
 exact List.eq_nil_of_length_eq_zero (by omega)
theorem thr_nil {K:Nat} {r:Rs} (h:OkR K r) (ht:thr r = false):r = nilR := by
 obtain ⟨L,tx,W⟩ := r
 simp only [thr,Bool.or_eq_false_iff,Bool.not_eq_false',List.isEmpty_iff,decide_eq_false_iff_not,Decidable.not_not] at ht
 obtain ⟨rfl,rfl⟩ := ht
 have := h.tx0.1 rfl
 simp only at this
 subst this
 rfl

def bakR (s:Int) (r:Rs):Rs := ⟨r.L,bakT r.tx r.W s,belL r.W s⟩
theorem OkR.bak {K:Nat} {r:Rs} (h:OkR K r) (s:Int):OkR K (bakR s r) := by
 refine ⟨h.may,?_,h.sL,shortR_sub h.sW (bel_sub _ _),h.nL,Nat.le_trans (belL_len _ _) h.nW,?_⟩
 ·obtain ⟨h1,h2,h3⟩ := mayI_iff.1 h.mai
  refine mayI_iff.2 ⟨?_,?_,mayW_sub h3 (bel_sub _ _)⟩
  ·show 0 ≤ bakT _ _ _
   unfold bakT
   split <;> omega
  ·show bakT _ _ _ = 0 ↔ belL _ _ = []
   unfold bakT
   by_cases hb:(belL r.W s).length = 0
   ·rw [if_pos hb]
    simpa using hb
   ·rw [if_neg hb]
    have hb':belL r.W s ≠ [] := fun e => hb (by rw [e]; rfl)
    constructor
    ·intro e
     have := h2.1 e
     rw [this] at hb'
     exact absurd rfl hb'
    ·intro e
     exact absurd e hb'
 ·show bakT _ _ _ < _
  have := h.top
  unfold bakT
  split <;> omega
def lastW (r:Rs):Option Rw := r.W[r.W.length - 1]?
theorem lev_le {W:List Rw} (h:mayW W = true) {v:Rw} (hv:W[W.length - 1]? = some v):∀ u ∈ W,u.n ≤ v.n := by
 intro u hu
 obtain ⟨i,hi,rfl⟩ := List.getElem_of_mem hu
 obtain ⟨hl,rfl⟩ := List.getElem?_eq_some_iff.1 hv
 have := mayW_inc h (W.length - 1 - i) i (by omega)
 simpa [show i + (W.length - 1 - i) = W.length - 1 by omega] using this
theorem bak_same {K:Nat} {r:Rs} (h:OkR K r) {v:Rw} (hv:lastW r = some v) {s:Int} (hs:v.n < s):bakR s r = r := by
 have hb:belL r.W s = r.W := by
  unfold belL
  rw [List.filter_eq_self]
  intro u hu
  have := lev_le h.mw hv u hu
  exact decide_eq_true (by omega)
 unfold bakR bakT
 rw [hb,if_neg (by intro e; unfold lastW at hv; rw [List.eq_nil_of_length_eq_zero e] at hv; simp at hv)]

def fldR (s:Int) (r:Rs):Rs := ⟨r.L,r.tx,fldL r.W s⟩
theorem fld_same {K:Nat} {r:Rs} (h:OkR K r) {v:Rw} (hv:lastW r = some v) {s:Int} (h1:1 ≤ s) (hs:v.n < s):fldR s r = r := by
 unfold fldR
 rw [fld_low h1 (fun i hi => by have := lev_le h.mw hv _ (List.getElem_mem hi); omega)]
theorem OkR.fld {K:Nat} {r:Rs} (h:OkR K r) {s:Int} (h1:1 ≤ s):OkR (K + 1) (fldR s r) := by
 obtain ⟨a1,a2⟩ := fld_sh (s := s) h.sW
 refine ⟨h.may,?_,h.sL,a1,Nat.le_succ_of_le h.nL,?_,h.top⟩
 ·obtain ⟨b1,b2,b3⟩ := mayI_iff.1 h.mai
  show mayI r.tx (fldL r.W s) = true
  rcases Nat.eq_zero_or_pos r.W.length with e | hl
  ·have e' := List.eq_nil_of_length_eq_zero e
   rw [fld_low h1 (fun i hi => by omega)]
   exact h.mai
  ·obtain ⟨m,hm⟩:∃ m,r.W.length = m + 1 := ⟨r.W.length - 1,by omega⟩
   by_cases hs:s ≤ (r.W[m]'(by omega)).n
   ·rw [fld_high h1 hm hs]
    refine mayI_iff.2 ⟨b1,?_,?_⟩
    ·constructor
     ·intro e
      rw [b2.1 e] at hl
      simp at hl
     ·intro e
      simp at e
    ·rw [mayW_iff] at b3 ⊢
     refine ⟨fun u hu => ?_,?_⟩
     ·rcases List.mem_append.1 hu with hu | hu
      ·exact b3.1 u (bel_in _ _ u hu)
      ·rw [List.mem_singleton] at hu
       subst hu
       have := b3.1 _ (List.getElem_mem (show m < r.W.length by omega))
       simp only [okW,Bool.and_eq_true] at this ⊢
       exact ⟨by simp; omega,this.2⟩
     ·rw [List.pairwise_append]
      exact ⟨b3.2.sublist (bel_sub _ _),List.pairwise_singleton _ _,fun u hu v hv => by
       rw [List.mem_singleton] at hv
       subst hv
       exact bel_lt _ _ u hu⟩
   ·rw [fld_low h1 (fun i hi => by
     have := mayW_inc b3 (m - i) i (by omega)
     simp only [show i + (m - i) = m by omega] at this
     omega)]
    exact h.mai
 ·exact Nat.le_trans a2 (Nat.succ_le_succ h.nW)

def newr (r:Rs) (s:Int):Bool := match r.L with | [] => false | v :: _ => decide (s < v.n)
def goneT (r:Rs):Bool := match r.L with | [] => true | v :: _ => v.gn
def setR (s:Int) (r:Rs):Rs := match lastW r with
 | none => r
 | some v => if v.gn && goneT r then ⟨r.L,0,[]⟩ else ⟨⟨s,v.gn,v.row⟩ :: r.L,0,[]⟩
theorem lastW_some {r:Rs} (h:0 < r.W.length):∃ v,lastW r = some v ∧ v ∈ r.W := by
 have:r.W.length - 1 < r.W.length := by omega
 exact ⟨_,List.getElem?_eq_getElem this,List.getElem_mem this⟩
theorem OkR.set {K:Nat} {r:Rs} (h:OkR K r) {s:Int} (h1:1 ≤ s) (h2:s ≤ 4611686018427387904) (hn:newr r (s - 1) = false):OkR (K + 1) (setR s r) := by
 unfold setR
 cases hw:lastW r with
 | none => exact h.mono (Nat.le_succ _)
 | some v =>
  have hv:v ∈ r.W := List.mem_of_getElem? hw
  have ho := (mayW_iff.1 h.mw).1 v hv
  simp only
  split
  ·exact ⟨h.may,by show mayI 0 [] = true; decide,h.sL,fun i hi => absurd hi (by simp),Nat.le_succ_of_le h.nL,Nat.zero_le _,by show (0:Int) < _; decide⟩
  ·refine ⟨?_,by show mayI 0 [] = true; decide,shortR_cons h.sL (show v.row.length ≤ _ from shortR_mem h.sW hv),fun i hi => absurd hi (by simp),by simpa using h.nL,Nat.zero_le _,by show (0:Int) < _; decide⟩
   have hm := mayL_iff.1 h.may
   refine mayL_iff.2 ⟨fun u hu => ?_,?_⟩
   ·rcases List.mem_cons.1 hu with rfl | hu
    ·simp only [okW,Bool.and_eq_true] at ho
     simp only [okR,Bool.and_eq_true]
     exact ⟨⟨by simp; omega,by simp; omega⟩,ho.2⟩
    ·exact hm.1 u hu
   ·rw [List.pairwise_cons]
    refine ⟨fun u hu => ?_,hm.2⟩
    show u.n < s
    cases hL:r.L with
    | nil => rw [hL] at hu; simp at hu
    | cons x l =>
     simp only [newr,hL,decide_eq_false_iff_not] at hn
     rw [hL] at hu hm
     rcases List.mem_cons.1 hu with rfl | hu
     ·omega
     ·have := (List.pairwise_cons.1 hm.2).1 u hu
      omega
def prnR (s:Int) (r:Rs):Rs := ⟨prnL r.L s,r.tx,r.W⟩
theorem prn_sub {L:List Rw} (h:mayL L = true) (s:Int):(prnL L s).Sublist L := by
 rw [prn_prD h]
 exact prD_sub s L
theorem OkR.prn {K:Nat} {r:Rs} (h:OkR K r) (s:Int):OkR K (prnR s r) :=
 ⟨may_prn h.may s,h.mai,shortR_sub h.sL (prn_sub h.may s),h.sW,Nat.le_trans (prnL_len _ _) h.nL,h.nW,h.top⟩
theorem prn_same {K:Nat} {r:Rs} (h:OkR K r) {s:Int} (hs:(prnL r.L s).length = r.L.length):prnR s r = r := by
 unfold prnR
 rw [(prn_sub h.may s).eq_of_length hs]

def wrW (r:Rs) (tx:Int):List Rw := if r.tx = tx then r.W else []
def wriE (r:Rs) (tx:Int) (v:Rw) (sn:Int):Int := if thr r = false then 110 else if putB tx (wrW r tx) v then 1 else if r.tx ≠ 0 ∧ r.tx ≠ tx then 111 else if r.tx = 0 ∧ newr r sn = true then 112 else 0
def wriR (r:Rs) (tx:Int) (v:Rw):Rs := ⟨r.L,tx,putL tx (wrW r tx) v⟩
theorem OkR.wri {K:Nat} {r:Rs} (h:OkR K r) {tx:Int} {v:Rw} (hb:putB tx (wrW r tx) v = false) (ht:tx < 9223372036854775808) (hr:v.row.length ≤ 3518437208882):OkR (K + 1) (wriR r tx v) := by
 have hm:mayW (wrW r tx) = true := by
  unfold wrW
  split
  ·exact h.mw
  ·rfl
 have hs:shortR (wrW r tx) := by
  unfold wrW
  split
  ·exact h.sW
  ·exact fun i hi => absurd hi (by simp)
 have hl:(wrW r tx).length ≤ K := by
  unfold wrW
  split
  ·exact h.nW
  ·exact Nat.zero_le _
 have he := (put_ok hb).2.2
 have hp:1 ≤ tx ∧ 0 ≤ v.n ∧ (v.gn && decide (0 < v.row.length)) = false := by
  simp only [putB,Bool.or_eq_false_iff,decide_eq_false_iff_not] at hb
  exact ⟨by omega,by omega,hb.1.2⟩
 refine ⟨h.may,?_,h.sL,?_,Nat.le_succ_of_le h.nL,?_,ht⟩
 ·show mayI tx (putL tx (wrW r tx) v) = true
  rw [he]
  refine mayI_iff.2 ⟨by omega,⟨fun e => by omega,fun e => by simp at e⟩,?_⟩
  rw [mayW_iff] at hm ⊢
  refine ⟨fun u hu => ?_,?_⟩
  ·rcases List.mem_append.1 hu with hu | hu
   ·exact hm.1 u (bel_in _ _ u hu)
   ·rw [List.mem_singleton] at hu
    subst hu
    simp only [okW,Bool.and_eq_true,hp.2.2]
    exact ⟨by simp; omega,rfl⟩
  ·rw [List.pairwise_append]
   exact ⟨hm.2.sublist (bel_sub _ _),List.pairwise_singleton _ _,fun u hu w hw => by
    rw [List.mem_singleton] at hw
    subst hw
    exact bel_lt _ _ u hu⟩
 ·show shortR (putL _ _ _)
  rw [he]
  exact shortR_app (shortR_sub hs (bel_sub _ _)) hr
 ·show (putL _ _ _).length ≤ _
  rw [he,List.length_append]
  have := belL_len (wrW r tx) v.n
  simp
  omega
theorem see_one (L W:List Rw) (tx txn s:Int):seeR (match L[atN L s]? with | none => [] | some v => [v]) W tx txn s = seeR L W tx txn s := by
 unfold seeR
 split
 ·rfl
 ·cases h:L[atN L s]? with
  | none => rfl
  | some v =>
   have hv:v.n ≤ s := by
    rw [at_find] at h
    have := List.find?_some h
    simpa using this
   have:atN [v] s = 0 := by
    unfold atN
    rw [List.findIdx_cons,decide_eq_true hv]
    rfl
   simp only [this]
   rfl

end Go.Proofs.YtcibcfghkidncaaGreatDoor
