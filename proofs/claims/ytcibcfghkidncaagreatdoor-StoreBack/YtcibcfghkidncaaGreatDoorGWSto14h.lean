/- A store: what Back needs. Walks of a store: what Write hands to turn. A store: turn where no place is. A store: what Write needs. -/
import Derived.Sort.OwnSortedInts
import Derived.Shelf.Sort.Plain
import Derived.Shelf.Slices.In.SortNone
import Derived.Test.YtcibcfghkidncaaGreatDoorGWSto10
import Derived.Test.YtcibcfghkidncaaGreatDoorGWSh11
import Derived.Test.YtcibcfghkidncaaGreatDoorGWSto8
namespace Go.Proofs.YtcibcfghkidncaaGreatDoor
open Go.RowKit Go.Lib Go.Maps
set_option maxRecDepth 100000

def srt (A:List Nat):List Nat := A.mergeSort (fun x y => decide (x ≤ y))
theorem srt_perm (A:List Nat):(srt A).Perm A := List.mergeSort_perm _ _
theorem srt_len (A:List Nat):(srt A).length = A.length := (srt_perm A).length_eq
theorem srt_rise {A:List Nat} (h:A.Nodup):(srt A).Pairwise (· < ·) := by
 have h1:(srt A).Pairwise (fun a b => decide (a ≤ b) = true) := List.pairwise_mergeSort (le := fun x y => decide (x ≤ y)) (fun a b c h1 h2 => by simp only [decide_eq_true_eq] at *; omega) (fun a b => by simp only [Bool.or_eq_true,decide_eq_true_eq]; omega) A
 have h2:(srt A).Pairwise (· ≠ ·) := ((srt_perm A).nodup_iff).2 h
 exact (h1.and h2).imp (fun ⟨a,b⟩ => by simp only [decide_eq_true_eq] at a; omega)
theorem icells_int (A:List Nat):icells A = (A.map (fun x:Nat => (x:Int))).map (Value.int .i64) := by
 unfold icells
 rw [List.map_map]
 rfl
theorem srt_int (A:List Nat):(A.map (fun x:Nat => (x:Int))).mergeSort (fun x y => decide (x ≤ y)) = (srt A).map (fun x:Nat => (x:Int)) := by
 refine (List.map_mergeSort (fun a _ b _ => ?_)).symm
 simp
theorem sort_any (A:List Nat) (v:Value) (b:Nat) (w:World) (h:OwnI w b v A) (hl:A.length ≤ 65536) :
  Calls Tryz.prog 54 #[v] w fun e w' => e = .returned (.tuple #[]) ∧ OwnI w' b v (srt A) ∧ Frm w w' (fun k => v.ownBlock = some k) := by
 unfold OwnI at h
 rcases h.2 with ⟨hv,h0⟩ | ⟨g,cap,cur,hv,hg,hb,h1,h2,h3,h4⟩
 ·have hA:A = [] := List.eq_nil_of_length_eq_zero h0
  subst hA
  rw [hv]
  have hc := Any.slices_Sort_int_none Tryz.lays189 none 0 w
  refine hc.mono ?_
  rintro e w' ⟨rfl,rfl⟩
  refine ⟨rfl,?_,Frm.refl _ _⟩
  have:srt [] = [] := by simp [srt]
  rw [this]
  exact OwnI.nil _ _
 ·rw [hv]
  have h4':cur.toList.take (A.map (fun x:Nat => (x:Int))).length = (A.map (fun x:Nat => (x:Int))).map (Value.int .i64) := by
   rw [← icells_int,List.length_map,← h4]
   simp
  have hH := holds_of_blockI hb h4'
  have hc := Any.slices_Sort_int Tryz.lays189 g 0 cap (A.map (fun x:Nat => (x:Int))) w hH (Array.getElem?_eq_some_iff.1 hb).1 (by rw [List.length_map]; omega)
  rw [List.length_map] at hc
  refine hc.mono ?_
  rintro e w' ⟨rfl,n,os,rfl⟩
  rw [srt_int]
  refine ⟨rfl,?_,Frm.of_grown (grownBy_sortedI _) (fun k hk => by cases hk; exact .inl rfl)⟩
  have := ownsRow_sortedI (n := n) (os := os) (ss := A.map (fun x:Nat => (x:Int))) (ts := (srt A).map (fun x:Nat => (x:Int))) (by rw [List.length_map,List.length_map,srt_len]) hg hb (by rw [List.length_map]; exact h1) h2 h3
  rw [List.length_map,← icells_int] at this
  unfold OwnI
  rw [srt_len]
  exact this
section
variable {B sb most pb:Nat} {ls:Int} {dl:Nat → Int} {dm:Nat → Option Nat} {pv tv:Value} {C:List (Nat × Nat)} {T:List Nat} {sv:Int → Value} {wo:Int → List Nat} {M:List Rs} {K:Nat}
theorem keep_all (t:Int) (v:Value) (L:List Nat) (w:World) (h:StX w B sb most pb ls dl dm pv tv C T sv wo M K) (h1:-9223372036854775808 ≤ t) (h2:t < 9223372036854775808) (hL:L ≠ [] → wo t ≠ []) (hK:K ≤ 9000000000000000000) (hlen:L.length ≤ 65536) (hown:OwnI w B v L) (hnb:NB w v) (hne:∀ k,v.ownBlock = some k → ¬ stF sb dm pv tv C sv wo k) :
  Calls Tryz.prog 53 #[.pointer (some ⟨sb,5 + dk t * 3,none⟩),.int .i64 t,v] w fun e w' => e = .returned (.tuple #[]) ∧ (∃ sv',StX w' B sb most pb ls dl dm pv tv C T sv' (updI wo t L) M (K + 1) ∧ ∀ k,stF sb dm pv tv C sv' (updI wo t L) k → stF sb dm pv tv C sv wo k ∨ v.ownBlock = some k) ∧ Frm w w' (fun k => dm (dk t) = some k) := by
 by_cases e:L = []
 ·subst e
  obtain ⟨p,c,hv,_⟩ := owns_len hown
  rw [hv]
  refine (keep_none t p c w h h1 h2).mono ?_
  rintro e w' ⟨rfl,hs,hf⟩
  exact ⟨rfl,⟨sv,hs,fun k hk => .inl (stF_drop hk)⟩,hf⟩
 ·have hw := hL e
  cases hm:dm (dk t) with
  | none => exact absurd (h.dsk.non _ hm t rfl) hw
  | some mb =>
   refine (keep_some t v L mb w h h1 h2 hm e hK hlen hown hnb hne).mono ?_
   rintro e' w' ⟨rfl,hs,hf⟩
   rw [hm] at hf
   refine ⟨rfl,⟨updI sv t v,hs,fun k hk => ?_⟩,hf⟩
   rcases hk with h | h | h | h | h | ⟨t',h3,h4⟩
   ·exact .inl (.inl h)
   ·exact .inl (.inr (.inl h))
   ·exact .inl (.inr (.inr (.inl h)))
   ·exact .inl (.inr (.inr (.inr (.inl h))))
   ·exact .inl (.inr (.inr (.inr (.inr (.inl h)))))
   ·by_cases e2:t' = t
    ·subst e2
     rw [updI_same] at h4
     exact .inr h4
    ·rw [updI_ne _ _ e2] at h3 h4
     exact .inl (.inr (.inr (.inr (.inr (.inr ⟨t',h3,h4⟩)))))
end
theorem grown_frm {w w6:World} {o:Obj} {r:Option Nat} (h:(w.alloc o).grownBy w6 r):Frm w w6 (fun k => r = some k) := (Frm.of_below ((Below.refl _ _).alloc (Nat.le_refl _) _)).trans (Frm.of_grown h (F := fun k => r = some k) (fun _g hg => .inl hg)) (fun _k hk => .inl hk)
theorem back_enters:∀ args w,(callFunc 50 args).run Tryz.prog w = .ok (.enter 50 args) w := fun args w => Go.MuLone.run_callFunc_enter (P := Tryz.prog) Tryz.func50 (by kernel_rfl) rfl args w
def lefA (s:Int) (t:Int) (M:List Rs) (x:Nat):Bool := decide ((bakR s (M.getD x nilR)).tx = t)
def gonB (s:Int) (M:List Rs) (x:Nat):Bool := !thr (bakR s (M.getD x nilR))
theorem bak_tx (s:Int) (r:Rs):(bakR s r).tx = r.tx ∨ (bakR s r).tx = 0 := by
 show bakT _ _ _ = _ ∨ bakT _ _ _ = _
 unfold bakT
 split
 ·exact .inr rfl
 ·exact .inl rfl
theorem InvW.back {M:List Rs} {wo:Int → List Nat} (h:InvW M wo) (s t:Int):InvW (mapT (bakR s) t M) (updI wo t ((wo t).filter (lefA s t M))) := by
 refine h.to (fun r _ e0 _ => by rcases bak_tx s r with e | e; exact .inl (e.trans e0); exact .inr e) (List.Pairwise.filter _ (h.nod t)) (fun x => ?_)
 rw [List.mem_filter,h.mem t x,mapT_at]
 unfold lefA
 rw [List.getD_eq_getElem?_getD]
 cases em:M[x]? with
 | none => simp
 | some r =>
  simp only [Option.some.injEq,exists_eq_left',Option.getD_some,decide_eq_true_eq,Option.map_some]
  constructor
  ·rintro ⟨⟨h0,h1⟩,h2⟩
   rw [if_pos ⟨h1,h0⟩]
   exact ⟨h0,h2⟩
  ·rintro ⟨h0,h1⟩
   by_cases c:r.tx = t ∧ t ≠ 0
   ·rw [if_pos c] at h1
    exact ⟨⟨h0,c.1⟩,h1⟩
   ·rw [if_neg c] at h1
    exact absurd ⟨h1,h0⟩ c

end Go.Proofs.YtcibcfghkidncaaGreatDoor

namespace Go.Proofs.YtcibcfghkidncaaGreatDoor
open Go.RowKit
set_option maxRecDepth 100000

def two1 (a b:Nat):Nat → Prop := fun k => k = a ∨ k = b

set_option maxHeartbeats 4000000 in
theorem cwrite_any (p q:Option Addr) (c K:Nat) (r:Rs) (txn vn:Int) (vg:Bool) (vr:List Vl) (qv:Option Addr) (cv:Nat) (sn:Int) (f0:Bool) (e0:Int) (tb fb wb nb eb:Nat) (w:World) (h:StR w p q c r) (hk:OkR K r) (hK:K ≤ 3518437208882) (hV:SlV w w.heap.size (.slice qv vr.length cv) vr) (hvr:vr.length ≤ 3518437208882)
  (htb:Box w tb #[.int .i64 txn] 3) (hfb:Box w fb #[.bool f0] 4) (hwb:Box w wb #[.int .i64 vn,.bool vg,.slice qv vr.length cv] 38) (hnb:Box w nb #[.int .u64 sn] 39) (heb:Box w eb #[.int .i64 e0] 24) (hd:tb ≠ fb ∧ wb ≠ fb ∧ nb ≠ fb ∧ eb ≠ fb) :
  Calls Tryz.prog 59 #[stV p q c r,ptr1 tb,ptr1 fb,ptr1 wb,ptr1 nb,ptr1 eb] w fun e w' => (∃ v',e = .returned (.tuple #[v',.bool (wriE r txn ⟨vn,vg,vr⟩ sn == 0)]) ∧ StV w' v' (wriO r txn ⟨vn,vg,vr⟩ sn)) ∧ Frm w w' (two1 fb eb) ∧ Box w' fb #[.bool (r.tx != txn)] 4 ∧ Box w' eb #[.int .i64 (wriE r txn ⟨vn,vg,vr⟩ sn)] 24 := by
 have HX0 := two_new w #[.pointer p,.int .i64 r.tx,.slice q r.W.length c] #[.pointer none,.int .i64 0,.slice none 0 0] 125 125
 have C1:Hid (∀ w3,Imm w w3 → Calls Tryz.prog 60 #[stV p q c r,.int .i64 txn,.agg #[.int .i64 vn,.bool vg,.slice qv vr.length cv],.int .u64 sn] w3 fun e w' => (∃ v',e = .returned (.tuple #[v',.int .i64 (wriE r txn ⟨vn,vg,vr⟩ sn)]) ∧ StV w' v' (wriO r txn ⟨vn,vg,vr⟩ sn)) ∧ Below w3.heap.size w3 w') := fun w3 h3 => write_st p q c K r txn vn vg vr qv cv sn w3 (h.imm h3) hk hK (hV.imm h3) hvr
 have HB:Hid (Box ((w.alloc (.cells #[.pointer p,.int .i64 r.tx,.slice q r.W.length c] 125)).alloc (.cells #[.pointer none,.int .i64 0,.slice none 0 0] 125)) tb #[.int .i64 txn] 3 ∧ Box ((w.alloc (.cells #[.pointer p,.int .i64 r.tx,.slice q r.W.length c] 125)).alloc (.cells #[.pointer none,.int .i64 0,.slice none 0 0] 125)) fb #[.bool f0] 4 ∧ Box ((w.alloc (.cells #[.pointer p,.int .i64 r.tx,.slice q r.W.length c] 125)).alloc (.cells #[.pointer none,.int .i64 0,.slice none 0 0] 125)) wb #[.int .i64 vn,.bool vg,.slice qv vr.length cv] 38 ∧ Box ((w.alloc (.cells #[.pointer p,.int .i64 r.tx,.slice q r.W.length c] 125)).alloc (.cells #[.pointer none,.int .i64 0,.slice none 0 0] 125)) nb #[.int .u64 sn] 39 ∧ Box ((w.alloc (.cells #[.pointer p,.int .i64 r.tx,.slice q r.W.length c] 125)).alloc (.cells #[.pointer none,.int .i64 0,.slice none 0 0] 125)) eb #[.int .i64 e0] 24) := ⟨htb.on HX0.2.2.1,hfb.on HX0.2.2.1,hwb.on HX0.2.2.1,hnb.on HX0.2.2.1,heb.on HX0.2.2.1⟩
 have hfl := hfb.lt
 have hel := heb.lt
 clear h hk hV htb hfb hwb hnb heb
 simp only [stV] at C1 ⊢
 generalize wriO r txn ⟨vn,vg,vr⟩ sn = r3 at *
 generalize wriE r txn ⟨vn,vg,vr⟩ sn = ee at *
 generalize hvl:vr.length = vl at *
 generalize htx:r.tx = tx at *
 generalize hn:r.W.length = n at *
 have HX:Hid (Box ((w.alloc (.cells #[.pointer p,.int .i64 tx,.slice q n c] 125)).alloc (.cells #[.pointer none,.int .i64 0,.slice none 0 0] 125)) w.heap.size #[.pointer p,.int .i64 tx,.slice q n c] 125 ∧ Box ((w.alloc (.cells #[.pointer p,.int .i64 tx,.slice q n c] 125)).alloc (.cells #[.pointer none,.int .i64 0,.slice none 0 0] 125)) (w.heap.size + 1) #[.pointer none,.int .i64 0,.slice none 0 0] 125 ∧ Below w.heap.size w ((w.alloc (.cells #[.pointer p,.int .i64 tx,.slice q n c] 125)).alloc (.cells #[.pointer none,.int .i64 0,.slice none 0 0] 125)) ∧ ((w.alloc (.cells #[.pointer p,.int .i64 tx,.slice q n c] 125)).alloc (.cells #[.pointer none,.int .i64 0,.slice none 0 0] 125)).heap.size = w.heap.size + 2) := HX0
 clear HX0
 go_enter Tryz.func59,Tryz.ntmps59
 go_upto_region 1 with fail
 generalize ((w.alloc (.cells #[.pointer p,.int .i64 tx,.slice q n c] 125)).alloc (.cells #[.pointer none,.int .i64 0,.slice none 0 0] 125)) = w2 at *
 obtain ⟨⟨x0,x1,x2⟩,x3,x4,x5⟩ := box3 HX.out.1
 obtain ⟨g0,g1⟩ := HB.out.2.1.cell0
 have t0 := HB.out.1.cell0.1
 go_upto_region 2 with fail
 have hf2:Frm w2 (w2.setCell ⟨fb,0,none⟩ (.bool (tx != txn))) (one1 fb) := frm_set w2 fb 0 _ (.inl rfl)
 have hI2:Imm w2 (w2.setCell ⟨fb,0,none⟩ (.bool (tx != txn))) := imm_set (i := 0) HB.out.2.1 (pln1 _ (by simp)) (by decide) _
 have hF3 := HB.out.2.1.set (i := 0) (.bool (tx != txn))
 have HX3:Hid (Box (w2.setCell ⟨fb,0,none⟩ (.bool (tx != txn))) w.heap.size #[.pointer p,.int .i64 tx,.slice q n c] 125 ∧ Box (w2.setCell ⟨fb,0,none⟩ (.bool (tx != txn))) (w.heap.size + 1) #[.pointer none,.int .i64 0,.slice none 0 0] 125 ∧ Frm w (w2.setCell ⟨fb,0,none⟩ (.bool (tx != txn))) (one1 fb) ∧ w.heap.size + 2 ≤ (w2.setCell ⟨fb,0,none⟩ (.bool (tx != txn))).heap.size ∧ Imm w (w2.setCell ⟨fb,0,none⟩ (.bool (tx != txn))) ∧ Box (w2.setCell ⟨fb,0,none⟩ (.bool (tx != txn))) fb #[.bool (tx != txn)] 4 ∧ Box (w2.setCell ⟨fb,0,none⟩ (.bool (tx != txn))) eb #[.int .i64 e0] 24) := ⟨HX.out.1.frm hf2 (show ¬ w.heap.size = fb by omega),HX.out.2.1.frm hf2 (show ¬ w.heap.size + 1 = fb by omega),(Frm.of_below (F := one1 fb) HX.out.2.2.1).trans hf2 (fun k hk => .inl hk),by rw [← HX.out.2.2.2]; exact hf2.size,(Imm.of_below HX.out.2.2.1).trans hI2,hF3,HB.out.2.2.2.2.frm hf2 (show ¬ eb = fb from hd.2.2.2)⟩
 have t3 := (HB.out.1.frm hf2 (show ¬ tb = fb from hd.1)).cell0.1
 have n3' := (HB.out.2.2.2.1.frm hf2 (show ¬ nb = fb from hd.2.2.1)).cell0.1
 obtain ⟨⟨v0,v1,v2⟩,_⟩ := box3 (HB.out.2.2.1.frm hf2 (show ¬ wb = fb from hd.2.1))
 clear x0 x1 x2 x3 x4 x5 g0 g1 t0 hf2 hI2 hF3 HX HB
 generalize w2.setCell ⟨fb,0,none⟩ (.bool (tx != txn)) = w3 at *
 obtain ⟨⟨x0,x1,x2⟩,x3,x4,x5⟩ := box3 HX3.out.1
 go_wp2_with fail
 refine (C1.out w3 HX3.out.2.2.2.2.1).mono ?_
 rintro e w4 ⟨⟨v4,rfl,p3,q3,c3,rfl,hs4⟩,hb4⟩
 obtain ⟨tx3,htx3⟩:∃ x,r3.tx = x := ⟨_,rfl⟩
 obtain ⟨n3,hn3⟩:∃ x,r3.W.length = x := ⟨_,rfl⟩
 simp only [stV,htx3,hn3]
 have hX4 := HX3.out.1.on hb4
 have hY4 := HX3.out.2.1.on hb4
 have hF4 := HX3.out.2.2.2.2.2.1.on hb4
 have hE4 := HX3.out.2.2.2.2.2.2.on hb4
 have hfr4:Frm w w4 (one1 fb) := HX3.out.2.2.1.trans (Frm.of_below (F := one1 fb) hb4) (fun k hk => .inl hk)
 obtain ⟨⟨y0,y1,y2⟩,y3,y4,y5⟩ := box3 hX4
 obtain ⟨hZ,hI,hF⟩ := st_store hX4 p3 tx3 q3 n3 c3
 have HQ5:Hid _ := And.intro hZ (And.intro (hY4.frm hF (show ¬ w.heap.size + 1 = w.heap.size by omega)) (And.intro (hF4.frm hF (show ¬ fb = w.heap.size by omega)) (And.intro (hE4.frm hF (show ¬ eb = w.heap.size by omega)) (And.intro (hs4.imm hI) (hfr4.trans hF (fun k hk => .inr (by rw [hk]; exact Nat.le_refl _)))))))
 have e1 := (hE4.frm hF (show ¬ eb = w.heap.size by omega)).cell0
 clear hX4 hY4 hF4 hE4 hfr4 hZ hI hF hb4 hs4 x0 x1 x2 x3 x4 x5 HX3 C1 t3 n3' v0 v1 v2
 go_upto_region 3 with fail
 obtain ⟨hZ,hY,hFb,hEb,hs5,hfr⟩ := HQ5.out
 clear HQ5 e1 y0 y1 y2 y3 y4 y5
 generalize ((w4.setCell ⟨w.heap.size,0,none⟩ (.pointer p3)).setCell ⟨w.heap.size,1,none⟩ (.int .i64 tx3)).setCell ⟨w.heap.size,2,none⟩ (.slice q3 n3 c3) = w5 at *
 have hE6 := hEb.set (i := 0) (.int .i64 ee)
 have hf6:Frm w5 (w5.setCell ⟨eb,0,none⟩ (.int .i64 ee)) (one1 eb) := frm_set w5 eb 0 _ (.inl rfl)
 have hZ6 := hZ.frm hf6 (show ¬ w.heap.size = eb by omega)
 have hY6 := hY.frm hf6 (show ¬ w.heap.size + 1 = eb by omega)
 have hF6 := hFb.frm hf6 (show ¬ fb = eb from fun e => hd.2.2.2 e.symm)
 have hs6 := hs5.imm (imm_set (i := 0) hEb (pln1 _ (by simp)) (by decide) (.int .i64 ee))
 have hfa:Frm w (w5.setCell ⟨eb,0,none⟩ (.int .i64 ee)) (two1 fb eb) := (hfr.mono (G := two1 fb eb) (fun k hk => .inl (.inl hk))).trans hf6 (fun k hk => .inl (.inr hk))
 clear hZ hY hFb hEb hs5 hfr hf6
 generalize w5.setCell ⟨eb,0,none⟩ (.int .i64 ee) = w6 at *
 obtain ⟨⟨x0,x1,x2⟩,x3,x4,x5⟩ := box3 hZ6
 obtain ⟨⟨y0,y1,y2⟩,y3,y4,y5⟩ := box3 hY6
 have e1 := (show Box w6 eb #[.int .i64 ee] 24 from hE6).cell0.1
 have HW:Hid (stB w6 (w.heap.size + 1) none 0 none 0 0 ∧ StR w6 p3 q3 c3 r3 ∧ Frm w w6 (two1 fb eb) ∧ Box w6 fb #[.bool (tx != txn)] 4 ∧ Box w6 eb #[.int .i64 ee] 24) := ⟨hY6,hs6,hfa,hF6,hE6⟩
 clear hZ6 hY6 hs6 hfa hF6 hE6
 go_region
 all_goals
  go_wp2_with fail
  obtain ⟨hZ,hI,hF⟩ := st_store HW.out.1 p3 tx3 q3 n3 c3
  have hg9 := HW.out.2.2.2.1.frm hF (show ¬ fb = w.heap.size + 1 by omega)
  have hg8 := HW.out.2.2.2.2.frm hF (show ¬ eb = w.heap.size + 1 by omega)
  generalize ((w6.setCell ⟨w.heap.size + 1,0,none⟩ (.pointer p3)).setCell ⟨w.heap.size + 1,1,none⟩ (.int .i64 tx3)).setCell ⟨w.heap.size + 1,2,none⟩ (.slice q3 n3 c3) = w9 at *
  obtain ⟨⟨z0,z1,z2⟩,_⟩ := box3 hZ
  (try simp only [Exit.inBlock,Exit.then])
  refine bodyPost_ret (v := .tuple #[.agg #[.pointer p3,.int .i64 tx3,.slice q3 n3 c3],.bool (ee == 0)]) (by simp [results,Tryz.results59,go_sem,z0,z1,z2]) rfl ?_
  exact ⟨⟨_,rfl,p3,q3,c3,by simp only [stV,htx3,hn3],HW.out.2.1.imm (imm_drew hI)⟩,(HW.out.2.2.1.trans hF (fun k hk => .inr (by rw [hk]; exact Nat.le_succ _))).drew,hg9,hg8⟩

end Go.Proofs.YtcibcfghkidncaaGreatDoor

namespace Go.Proofs.YtcibcfghkidncaaGreatDoor
open Go.RowKit Go.Lib Go.Maps
set_option maxRecDepth 100000
section
variable {B sb most pb:Nat} {dl:Nat → Int} {dm:Nat → Option Nat} {pv tv:Value} {C:List (Nat × Nat)} {T:List Nat} {sv:Int → Value} {wo:Int → List Nat} {M:List Rs} {K J:Nat}

set_option maxHeartbeats 4000000 in
theorem turn5_out (fid:FuncId) (k1 k2 k3 k4 k5:Value) (sl:Int) (r2:Rs) (G:Nat → Prop) (Q:World → Prop) (w:World) (h:StX w B sb most pb 0 dl dm pv tv C T sv wo M K) (hs:sl < 0 ∨ (C.length:Int) ≤ sl) (hl:C.length ≤ 65536)
  (hin:∀ args w,(callFunc fid args).run Tryz.prog w = .ok (.enter fid args) w)
  (hG:∀ k,G k → MutB w k ∧ ¬ stF sb dm pv tv C sv wo k ∧ k < w.heap.size) (hQ:∀ wa wb,Q wa → (∀ k,G k → wb.heap[k]? = wa.heap[k]?) → Q wb)
  (HC:∀ w1,Below w.heap.size w w1 → Calls Tryz.prog fid #[stV none none 0 nilR,k1,k2,k3,k4,k5] w1 fun e w2 => (∃ v2,e = .returned (.tuple #[v2,.bool false]) ∧ StV w2 v2 r2) ∧ Frm w1 w2 G ∧ Q w2) :
  Calls Tryz.prog 49 #[ptr1 sb,.int .i64 sl,.func (.func fid) #[] #[k1,k2,k3,k4,k5]] w fun e w' => (∃ v',e = .returned v') ∧ StX w' B sb most pb 0 dl dm pv tv C T sv wo M K ∧ Q w' ∧ Frm w w' G := by
 have HB0:Hid (Below w.heap.size w (w.alloc (.cells #[.pointer none,.int .i64 0,.slice none 0 0] 125))) := (Below.refl _ _).alloc (Nat.le_refl _) _
 have HX0:Hid (stB (w.alloc (.cells #[.pointer none,.int .i64 0,.slice none 0 0] 125)) w.heap.size none 0 none 0 0) := Box.new w _ _
 have C1:Hid (Calls _ _ _ _ _) := place_out sl (w.alloc (.cells #[.pointer none,.int .i64 0,.slice none 0 0] 125)) (h.on HB0.out) hs hl
 have HC3:Hid (∀ w1,Below w.heap.size w w1 → Calls Tryz.prog fid #[.agg #[.pointer none,.int .i64 0,.slice none 0 0],k1,k2,k3,k4,k5] w1 fun e w2 => (∃ v2,e = .returned (.tuple #[v2,.bool false]) ∧ StV w2 v2 r2) ∧ Frm w1 w2 G ∧ Q w2) := HC
 have HSt:Hid (StX w B sb most pb 0 dl dm pv tv C T sv wo M K) := h
 have HG:Hid (∀ k,G k → MutB w k ∧ ¬ stF sb dm pv tv C sv wo k ∧ k < w.heap.size) := hG
 have HQ:Hid (∀ wa wb,Q wa → (∀ k,G k → wb.heap[k]? = wa.heap[k]?) → Q wb) := hQ
 clear h HC hG hQ hs
 go_enter Tryz.func49,Tryz.ntmps49
 go_wp2_with fail
 generalize (w.alloc (.cells #[.pointer none,.int .i64 0,.slice none 0 0] 125)) = w0 at *
 refine C1.out.mono ?_
 rintro e w9 ⟨⟨cb,rfl,_,hc9⟩,hb9⟩
 have C2:Hid (Calls _ _ _ _ _) := load_none cb w9 hc9
 have HX9:Hid (stB w9 w.heap.size none 0 none 0 0) := HX0.out.on hb9
 have HB9:Hid (Below w.heap.size w w9) := HB0.out.trans (hb9.mono HB0.out.size)
 clear hc9 hb9 C1
 go_wp2_with fail
 go_loopw [] (fun wr => wr = w9) (fun _ => 0)
 case atStart => rfl
 case round =>
  rw [hrel]
  clear hrel
  go_wp2_with fail
  refine C2.out.mono ?_
  rintro e w1 ⟨rfl,hb1⟩
  have h8:Below w1.heap.size w1 (w1.alloc (.cells #[.pointer none,.int .i64 0,.slice none 0 0] 125)) := (Below.refl _ _).alloc (Nat.le_refl _) _
  have hb1w:Below w.heap.size w w1 := HB9.out.trans (hb1.mono HB9.out.size)
  have hb8:Below w.heap.size w (w1.alloc (.cells #[.pointer none,.int .i64 0,.slice none 0 0] 125)) := hb1w.trans (h8.mono hb1w.size)
  have HX8:Hid (stB (w1.alloc (.cells #[.pointer none,.int .i64 0,.slice none 0 0] 125)) w.heap.size none 0 none 0 0 ∧ stB (w1.alloc (.cells #[.pointer none,.int .i64 0,.slice none 0 0] 125)) w1.heap.size none 0 none 0 0 ∧ Below w.heap.size w (w1.alloc (.cells #[.pointer none,.int .i64 0,.slice none 0 0] 125)) ∧ w.heap.size < w1.heap.size) := ⟨(HX9.out.on hb1).on h8,Box.new _ _ _,hb8,(HX9.out.on hb1).lt⟩
  obtain ⟨⟨y0,y1,y2⟩,y3,y4,y5⟩ := box3 HX8.out.2.1
  clear hb1 h8 hb1w hb8 C2
  go_upto_region 3 with fail
  generalize (w1.alloc (.cells #[.pointer none,.int .i64 0,.slice none 0 0] 125)) = wa at *
  go_wp2_with fail
  refine (HC3.out wa HX8.out.2.2.1).mono ?_
  rintro e w2 ⟨⟨v2,rfl,p2,q2,c2,rfl,hs2⟩,hf2,hq2⟩
  have hg6:¬ G w.heap.size := fun e => by have := (HG.out _ e).2.2; omega
  have hg8:¬ G w1.heap.size := fun e => by have := (HG.out _ e).2.2; have := HX8.out.2.2.2; omega
  have HI2:Hid (Imm w w2) := (Imm.of_below HX8.out.2.2.1).trans (Imm.of_frm hf2 (fun k hk => by
   intro cs T' z hkk
   rw [HX8.out.2.2.1.block k (HG.out k hk).2.2] at hkk
   exact (HG.out k hk).1 cs T' z hkk))
  have HF2:Hid (Frm w w2 G) := (Frm.of_below HX8.out.2.2.1).trans hf2 (fun k hk => .inl hk)
  have HX2:Hid (stB w2 w.heap.size none 0 none 0 0 ∧ stB w2 w1.heap.size none 0 none 0 0) := ⟨HX8.out.1.frm hf2 hg6,HX8.out.2.1.frm hf2 hg8⟩
  have HS2:Hid (StR w2 p2 q2 c2 r2 ∧ Q w2) := ⟨hs2,hq2⟩
  have h1w:Hid (w.heap.size < w1.heap.size ∧ w1.heap.size < w2.heap.size) := ⟨HX8.out.2.2.2,Nat.lt_of_lt_of_le HX8.out.2.1.lt hf2.size⟩
  obtain ⟨tx2,htx2⟩:∃ x,r2.tx = x := ⟨_,rfl⟩
  obtain ⟨n2,hn2⟩:∃ x,r2.W.length = x := ⟨_,rfl⟩
  simp only [stV,htx2,hn2]
  clear hf2 hq2 hs2 HC3 HX8 y0 y1 y2 y3 y4 y5 hg6 hg8
  have h10:Below w2.heap.size w2 (w2.alloc (.cells #[.pointer p2,.int .i64 tx2,.slice q2 n2 c2] 125)) := (Below.refl _ _).alloc (Nat.le_refl _) _
  have HXA:Hid (stB (w2.alloc (.cells #[.pointer p2,.int .i64 tx2,.slice q2 n2 c2] 125)) w.heap.size none 0 none 0 0 ∧ stB (w2.alloc (.cells #[.pointer p2,.int .i64 tx2,.slice q2 n2 c2] 125)) w1.heap.size none 0 none 0 0 ∧ stB (w2.alloc (.cells #[.pointer p2,.int .i64 tx2,.slice q2 n2 c2] 125)) w2.heap.size p2 tx2 q2 n2 c2 ∧ Below w2.heap.size w2 (w2.alloc (.cells #[.pointer p2,.int .i64 tx2,.slice q2 n2 c2] 125))) := ⟨HX2.out.1.on h10,HX2.out.2.on h10,Box.new _ _ _,h10⟩
  clear h10
  go_upto_region 4 with fail
  generalize (w2.alloc (.cells #[.pointer p2,.int .i64 tx2,.slice q2 n2 c2] 125)) = w3 at *
  have HI3:Hid (Imm w w3) := HI2.out.trans (Imm.of_below HXA.out.2.2.2)
  have HF3:Hid (Frm w w3 G) := HF2.out.trans (Frm.of_below (F := none1) HXA.out.2.2.2) (fun k hk => hk.elim)
  have HQ3:Hid (Q w3) := HQ.out w2 w3 HS2.out.2 (fun k hk => HXA.out.2.2.2.block k (by have := (HG.out k hk).2.2; have := h1w.out; omega))
  have HS3:Hid (StX w3 B sb most pb 0 dl dm pv tv C T sv wo M K) := HSt.out.keep HF3.out HI3.out (fun k hk hg => (HG.out k hg).2.1 hk)
  obtain ⟨⟨x0,x1,x2⟩,x3,x4,x5⟩ := box3 HXA.out.1
  obtain ⟨⟨y0,y1,y2⟩,y3,y4,y5⟩ := box3 HXA.out.2.1
  obtain ⟨⟨z0,z1,z2⟩,z3,z4,z5⟩ := box3 HXA.out.2.2.1
  go_wp2_with fail
  obtain ⟨hZ,hI,hF⟩ := st_store HXA.out.1 none 0 none 0 0
  generalize ((w3.setCell ⟨w.heap.size,0,none⟩ (.pointer none)).setCell ⟨w.heap.size,1,none⟩ (.int .i64 0)).setCell ⟨w.heap.size,2,none⟩ (.slice none 0 0) = w10 at *
  obtain ⟨⟨o0,o1,o2⟩,_⟩ := box3 hZ
  (try simp only [Exit.inBlock,Exit.then])
  refine bodyPost_ret (v := .agg #[.pointer none,.int .i64 0,.slice none 0 0]) (by simp [results,Tryz.results49,go_sem,o0,o1,o2]) rfl ?_
  have hlt := HSt.out.blk.lt
  exact ⟨⟨_,rfl⟩,HS3.out.keep hF hI (fun k hk e => by
   have := (HSt.out.mut hk).2.2
   have e':k = w.heap.size := e
   omega),HQ.out w3 w10 HQ3.out (fun k hk => hF.block k (by have := (HG.out k hk).2.2; have := HF3.out.size; omega) (fun e => by
   have e':k = w.heap.size := e
   have := (HG.out k hk).2.2
   omega)),HF3.out.trans hF (fun k hk => .inr (by rw [hk]; exact Nat.le_refl _))⟩

end

end Go.Proofs.YtcibcfghkidncaaGreatDoor

namespace Go.Proofs.YtcibcfghkidncaaGreatDoor
open Go.RowKit Go.Lib Go.Maps
set_option maxRecDepth 100000

theorem wriE_ok {r:Rs} {tx:Int} {v:Rw} {sn:Int} (h:wriE r tx v sn = 0):thr r = true ∧ putB tx (wrW r tx) v = false ∧ (r.tx = 0 ∨ r.tx = tx) ∧ tx ≠ 0 := by
 unfold wriE at h
 split at h
 ·cases h
 ·rename_i h1
  split at h
  ·cases h
  ·rename_i h2
   split at h
   ·cases h
   ·rename_i h3
    have h2':putB tx (wrW r tx) v = false := by simpa using h2
    refine ⟨by simpa using h1,h2',?_,?_⟩
    ·by_cases e:r.tx = 0
     ·exact .inl e
     ·by_cases e2:r.tx = tx
      ·exact .inr e2
      ·exact absurd ⟨e,e2⟩ h3
    ·simp only [putB,Bool.or_eq_false_iff,decide_eq_false_iff_not] at h2'
     omega
theorem wriE_not {r:Rs} {tx:Int} {v:Rw} {sn:Int} (h:thr r = false):wriE r tx v sn = 110 := if_pos h
def wrtM (M:List Rs) (sl txn:Int) (v:Rw) (sn:Int):List Rs := if wriE (getR M sl) txn v sn = 0 then M.set sl.toNat (wriR (getR M sl) txn v) else M
theorem InvW.same {M:List Rs} {wo:Int → List Nat} (h:InvW M wo) {i:Nat} {r:Rs} (hi:i < M.length) (e:r.tx = M[i].tx):InvW (M.set i r) wo := by
 refine ⟨h.nod,fun t s => ?_⟩
 rw [h.mem t s]
 by_cases es:s = i
 ·subst es
  rw [List.getElem?_set_self hi,List.getElem?_eq_getElem hi]
  simp [e]
 ·rw [List.getElem?_set_ne (fun e => es e.symm)]
theorem InvW.add {M:List Rs} {wo:Int → List Nat} (h:InvW M wo) {i:Nat} {r:Rs} {t:Int} (hi:i < M.length) (h0:M[i].tx ≠ t) (h1:M[i].tx = 0) (ht:r.tx = t) (htn:t ≠ 0):InvW (M.set i r) (updI wo t (wo t ++ [i])) := by
 have hni:i ∉ wo t := fun e => by
  obtain ⟨_,r',hr,e2⟩ := (h.mem t i).1 e
  rw [List.getElem?_eq_getElem hi] at hr
  cases hr
  exact h0 e2
 refine ⟨fun t' => ?_,fun t' s => ?_⟩
 ·by_cases e:t' = t
  ·rw [e,updI_same]
   refine List.nodup_append.2 ⟨h.nod t,by simp,fun a ha b hb e2 => ?_⟩
   rw [List.mem_singleton] at hb
   subst hb e2
   exact hni ha
  ·rw [updI_ne _ _ e]; exact h.nod t'
 ·by_cases e:t' = t
  ·subst e
   rw [updI_same,List.mem_append,List.mem_singleton,h.mem t' s]
   by_cases es:s = i
   ·subst es
    rw [List.getElem?_set_self hi]
    simp [ht,htn]
   ·rw [List.getElem?_set_ne (fun e => es e.symm)]
    simp [es]
  ·rw [updI_ne _ _ e,h.mem t' s]
   by_cases es:s = i
   ·subst es
    rw [List.getElem?_set_self hi,List.getElem?_eq_getElem hi]
    simp only [Option.some.injEq,exists_eq_left']
    constructor
    ·rintro ⟨a,b⟩
     exact absurd (b.symm.trans h1) a
    ·rintro ⟨a,b⟩
     exact absurd (b.symm.trans ht) e
   ·rw [List.getElem?_set_ne (fun e => es e.symm)]
theorem write_enters:∀ args w,(callFunc 59 args).run Tryz.prog w = .ok (.enter 59 args) w := fun args w => Go.MuLone.run_callFunc_enter (P := Tryz.prog) Tryz.func59 (by kernel_rfl) rfl args w
section
variable {B sb most pb:Nat} {dl:Nat → Int} {dm:Nat → Option Nat} {pv tv:Value} {C:List (Nat × Nat)} {T:List Nat} {sv:Int → Value} {wo:Int → List Nat} {M:List Rs} {K J:Nat}
theorem note_all {ls:Int} (t:Int) (s:Nat) (w:World) (h:StX w B sb most pb ls dl dm pv tv C T sv wo M K) (h1:-9223372036854775808 ≤ t) (h2:t < 9223372036854775808) (hK:K ≤ 9000000000000000000) (hlen:(wo t).length ≤ 65536) :
  Calls Tryz.prog 58 #[.pointer (some ⟨sb,5 + dk t * 3,none⟩),.int .i64 t,.int .i64 (s:Nat)] w fun e w' => e = .returned (.tuple #[]) ∧ (∃ dm' sv',StX w' B sb most pb ls dl dm' pv tv C T sv' (updI wo t (wo t ++ [s])) M (K + 1) ∧ ∀ k,stF sb dm' pv tv C sv' (updI wo t (wo t ++ [s])) k → stF sb dm pv tv C sv wo k ∨ w.heap.size ≤ k) ∧ Frm w w' (stF sb dm pv tv C sv wo) := by
 cases hm:dm (dk t) with
 | some mb =>
  refine (note_some t s mb w h h1 h2 hm hK hlen).mono ?_
  rintro e w' ⟨rfl,⟨v,hs,hv⟩,hf⟩
  refine ⟨rfl,⟨dm,updI sv t v,hs,fun k hk => ?_⟩,hf.mono (fun k hk => .inl (hk.elim (fun e => .inr (.inr (.inr (.inr (.inl ⟨dk t,dk_lt t,by rw [e]; exact hm⟩))))) (fun e => .inr (.inr (.inr (.inr (.inr ⟨t,e⟩)))))))⟩
  rcases hk with h | h | h | h | h | ⟨t',h3,h4⟩
  ·exact .inl (.inl h)
  ·exact .inl (.inr (.inl h))
  ·exact .inl (.inr (.inr (.inl h)))
  ·exact .inl (.inr (.inr (.inr (.inl h))))
  ·exact .inl (.inr (.inr (.inr (.inr (.inl h)))))
  ·by_cases e2:t' = t
   ·subst e2
    rw [updI_same] at h4
    exact hv k h4
   ·rw [updI_ne _ _ e2] at h3 h4
    exact .inl (.inr (.inr (.inr (.inr (.inr ⟨t',h3,h4⟩)))))
 | none =>
  refine (note_none t s w h h1 h2 hm hK hlen).mono ?_
  rintro e w' ⟨rfl,⟨v,hs,hv⟩,hf⟩
  refine ⟨rfl,⟨updN dm (dk t) (some w.heap.size),updI sv t v,hs,fun k hk => ?_⟩,hf.mono (fun k hk => .inl (.inl hk))⟩
  rcases hk with h | h | h | h | ⟨d,h3,h4⟩ | ⟨t',h3,h4⟩
  ·exact .inl (.inl h)
  ·exact .inl (.inr (.inl h))
  ·exact .inl (.inr (.inr (.inl h)))
  ·exact .inl (.inr (.inr (.inr (.inl h))))
  ·by_cases e2:d = dk t
   ·subst e2
    have e3:updN dm (dk t) (some w.heap.size) (dk t) = some w.heap.size := if_pos rfl
    rw [e3] at h4
    cases h4
    exact .inr (Nat.le_refl _)
   ·have e3:updN dm (dk t) (some w.heap.size) d = dm d := if_neg e2
    rw [e3] at h4
    exact .inl (.inr (.inr (.inr (.inr (.inl ⟨d,h3,h4⟩)))))
  ·by_cases e2:t' = t
   ·subst e2
    rw [updI_same] at h4
    exact .inr (hv k h4)
   ·rw [updI_ne _ _ e2] at h3 h4
    exact .inl (.inr (.inr (.inr (.inr (.inr ⟨t',h3,h4⟩)))))
theorem turnW (sl txn vn:Int) (vg:Bool) (vr:List Vl) (qv:Option Addr) (cv:Nat) (sn:Int) (f0:Bool) (e0:Int) (tb fb wb nb eb:Nat) (w:World) (h:StX w B sb most pb 0 dl dm pv tv C T sv wo M K) (hI:InvT J most M T) (hK:K + 1 ≤ 9000000000000000000) (hJ:J + 1 ≤ 3518437208882) (hV:SlV w w.heap.size (.slice qv vr.length cv) vr) (hvr:vr.length ≤ 3518437208882) (ht:txn < 9223372036854775808)
  (htb:Box w tb #[.int .i64 txn] 3) (hfb:Box w fb #[.bool f0] 4) (hwb:Box w wb #[.int .i64 vn,.bool vg,.slice qv vr.length cv] 38) (hnb:Box w nb #[.int .u64 sn] 39) (heb:Box w eb #[.int .i64 e0] 24) (hd:tb ≠ fb ∧ wb ≠ fb ∧ nb ≠ fb ∧ eb ≠ fb) (hnf:¬ stF sb dm pv tv C sv wo fb) (hne:¬ stF sb dm pv tv C sv wo eb) :
  Calls Tryz.prog 49 #[ptr1 sb,.int .i64 sl,.func (.func 59) #[] #[ptr1 tb,ptr1 fb,ptr1 wb,ptr1 nb,ptr1 eb]] w fun e w' => (∃ v',e = .returned v') ∧ (∃ C' T',StX w' B sb most pb 0 dl dm pv tv C' T' sv wo (wrtM M sl txn ⟨vn,vg,vr⟩ sn) (K + 1) ∧ InvT (J + 1) most (wrtM M sl txn ⟨vn,vg,vr⟩ sn) T' ∧ C'.map Prod.fst = C.map Prod.fst) ∧ (Box w' fb #[.bool ((getR M sl).tx != txn)] 4 ∧ Box w' eb #[.int .i64 (wriE (getR M sl) txn ⟨vn,vg,vr⟩ sn)] 24) ∧ Frm w w' (fun k => two1 fb eb k ∨ stF sb dm pv tv C sv wo k) := by
 have hG:∀ k,two1 fb eb k → MutB w k ∧ ¬ stF sb dm pv tv C sv wo k ∧ k < w.heap.size := by
  rintro k (rfl | rfl)
  ·exact ⟨hfb.mut (pln1 _ (by simp)) (by decide),hnf,hfb.lt⟩
  ·exact ⟨heb.mut (pln1 _ (by simp)) (by decide),hne,heb.lt⟩
 have hC:∀ (R:Rs),OkR J R → ∀ w1 p q c,Below w.heap.size w w1 → StR w1 p q c R → Calls Tryz.prog 59 #[stV p q c R,ptr1 tb,ptr1 fb,ptr1 wb,ptr1 nb,ptr1 eb] w1 fun e w2 => (∃ v2,e = .returned (.tuple #[v2,.bool (wriE R txn ⟨vn,vg,vr⟩ sn == 0)]) ∧ StV w2 v2 (wriO R txn ⟨vn,vg,vr⟩ sn)) ∧ Frm w1 w2 (two1 fb eb) ∧ (Box w2 fb #[.bool (R.tx != txn)] 4 ∧ Box w2 eb #[.int .i64 (wriE R txn ⟨vn,vg,vr⟩ sn)] 24) := fun R hR w1 p q c hb hs => cwrite_any p q c J R txn vn vg vr qv cv sn f0 e0 tb fb wb nb eb w1 hs hR (by omega) (hV.imm (Imm.of_below hb)) hvr (htb.on hb) (hfb.on hb) (hwb.on hb) (hnb.on hb) (heb.on hb) hd
 have hlen := h.plc.len
 have hl:C.length ≤ 65536 := by rw [hlen]; exact Nat.le_trans hI.len hI.mst
 by_cases hs:sl < 0 ∨ (C.length:Int) ≤ sl
 ·have hg:getR M sl = nilR := getR_out (by rw [← hlen]; exact hs)
  have hE:wriE nilR txn ⟨vn,vg,vr⟩ sn = 110 := wriE_not rfl
  have hM:wrtM M sl txn ⟨vn,vg,vr⟩ sn = M := by
   unfold wrtM
   rw [hg,hE]
   rfl
  rw [hM,hg]
  refine (turn5_out _ _ _ _ _ _ sl (wriO nilR txn ⟨vn,vg,vr⟩ sn) (two1 fb eb) (fun w' => Box w' fb #[.bool (nilR.tx != txn)] 4 ∧ Box w' eb #[.int .i64 (wriE nilR txn ⟨vn,vg,vr⟩ sn)] 24) w (h.mono (Nat.le_succ K)) hs hl write_enters hG (fun wa wb ha hb => ⟨(hb fb (.inl rfl)).trans ha.1,(hb eb (.inr rfl)).trans ha.2⟩) (fun w1 hb => by
   have h9 := hC nilR (OkR.nil J) w1 none none 0 hb ⟨rfl,RdR.nil _ _ _,fun _ => rfl⟩
   rw [show (wriE nilR txn ⟨vn,vg,vr⟩ sn == 0) = false by rw [hE]; rfl] at h9
   exact h9)).mono ?_
  rintro e w' ⟨a1,a2,a3,a4⟩
  exact ⟨a1,⟨C,T,a2,hI.mono (Nat.le_succ J),rfl⟩,a3,a4.mono (fun k hk => .inl (.inl hk))⟩
 ·obtain ⟨i,rfl⟩:∃ i:Nat,sl = (i:Int) := ⟨sl.toNat,by omega⟩
  have hil:i < C.length := by omega
  have him:i < M.length := by omega
  have hg:getR M (i:Int) = M[i] := getR_at (List.getElem?_eq_getElem him)
  have hok := hI.ok M[i] (List.getElem_mem him)
  rw [hg]
  cases hth:thr M[i] with
  | false =>
   have hE:wriE M[i] txn ⟨vn,vg,vr⟩ sn = 110 := wriE_not hth
   have hM:wrtM M (i:Int) txn ⟨vn,vg,vr⟩ sn = M := by
    unfold wrtM
    rw [hg,hE]
    rfl
   rw [hM]
   have hc:C[i]? = some (C[i].1,C[i].2) := List.getElem?_eq_getElem hil
   refine (turn5_no _ _ _ _ _ _ i C[i].1 C[i].2 (wriO M[i] txn ⟨vn,vg,vr⟩ sn) (two1 fb eb) (fun w' => Box w' fb #[.bool (M[i].tx != txn)] 4 ∧ Box w' eb #[.int .i64 (wriE M[i] txn ⟨vn,vg,vr⟩ sn)] 24) w (h.mono (Nat.le_succ K)) hc hK hl him write_enters hG (fun wa wb ha hb => ⟨(hb fb (.inl rfl)).trans ha.1,(hb eb (.inr rfl)).trans ha.2⟩) (fun w1 p q c hb hs => by
    have h9 := hC M[i] hok w1 p q c hb hs
    rw [show (wriE M[i] txn ⟨vn,vg,vr⟩ sn == 0) = false by rw [hE]; rfl] at h9
    exact h9)).mono ?_
   rintro e w' ⟨⟨v',a1,_⟩,a2,a3,a4⟩
   exact ⟨⟨v',a1⟩,⟨C,T,a2,hI.mono (Nat.le_succ J),rfl⟩,a3,a4.mono (fun k hk => .inl (.inl hk))⟩
  | true =>
   have hM:wrtM M (i:Int) txn ⟨vn,vg,vr⟩ sn = M.set i (wriO M[i] txn ⟨vn,vg,vr⟩ sn) := by
    unfold wrtM
    rw [hg]
    by_cases e:wriE M[i] txn ⟨vn,vg,vr⟩ sn = 0
    ·rw [if_pos e,wriO_ok e]
     rfl
    ·rw [if_neg e,wriO_no rfl e,List.set_getElem_self]
   rw [hM]
   refine (turnG5 (J := J + 1) _ _ _ _ _ _ i (wriO M[i] txn ⟨vn,vg,vr⟩ sn) (wriE M[i] txn ⟨vn,vg,vr⟩ sn == 0) (two1 fb eb) (fun w' => Box w' fb #[.bool (M[i].tx != txn)] 4 ∧ Box w' eb #[.int .i64 (wriE M[i] txn ⟨vn,vg,vr⟩ sn)] 24) w h (hI.mono (Nat.le_succ J)) him hth hK (fun hb => wriO_no rfl (by simpa using hb)) ?_ write_enters hG (fun wa wb ha hb => ⟨(hb fb (.inl rfl)).trans ha.1,(hb eb (.inr rfl)).trans ha.2⟩) (fun w1 p q c hb hs => hC M[i] hok w1 p q c hb hs)).mono ?_
   ·by_cases e:wriE M[i] txn ⟨vn,vg,vr⟩ sn = 0
    ·rw [wriO_ok e]
     exact hok.wri (wriE_ok e).2.1 ht hvr
    ·rw [wriO_no rfl e]
     exact hok.mono (Nat.le_succ J)
   ·rintro e w' ⟨⟨v',a1,_⟩,a2,a3,a4⟩
    exact ⟨⟨v',a1⟩,a2,a3,a4⟩
end

end Go.Proofs.YtcibcfghkidncaaGreatDoor
