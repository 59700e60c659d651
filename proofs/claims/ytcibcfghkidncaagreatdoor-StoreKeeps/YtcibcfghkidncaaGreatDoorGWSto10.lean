/- A store, all in one word; Fold. A store: Settle. A store: Prune. A store: New. -/
import Derived.Deep.RegionHeld3
import Derived.Test.YtcibcfghkidncaaGreatDoorGWSto8
import Derived.Test.YtcibcfghkidncaaGreatDoorGWSto7
import Derived.Test.YtcibcfghkidncaaGreatDoorGMAny9
import Derived.Test.YtcibcfghkidncaaGreatDoorGWSto2
namespace Go.Proofs.YtcibcfghkidncaaGreatDoor
open Go.RowKit Go.Lib Go.Maps
set_option maxRecDepth 100000

theorem look_nil (t:Int) (w:World):(Instr.lookup 98 (.map none) (.int .i64 t) false).run Tryz.prog w = .ok (.slice none 0 0) w := by kernel_rfl
structure InvW (M:List Rs) (wo:Int → List Nat):Prop where
 nod:∀ t,(wo t).Nodup
 mem:∀ t s,s ∈ wo t ↔ t ≠ 0 ∧ ∃ r,M[s]? = some r ∧ r.tx = t
theorem InvW.lt {M:List Rs} {wo:Int → List Nat} (h:InvW M wo) {t:Int} {s:Nat} (hs:s ∈ wo t):s < M.length := by
 obtain ⟨_,r,hr,_⟩ := (h.mem t s).1 hs
 exact (List.getElem?_eq_some_iff.1 hr).1
theorem InvW.len {M:List Rs} {wo:Int → List Nat} (h:InvW M wo) (t:Int):(wo t).length ≤ M.length := by
 have h1:(wo t).Nodup := h.nod t
 have h2:∀ s ∈ wo t,s ∈ List.range M.length := fun s hs => by
  rw [List.mem_range]
  exact h.lt hs
 have := h1.length_le_of_subset h2
 simpa using this
theorem InvW.map {M:List Rs} {wo:Int → List Nat} (h:InvW M wo) {f:Rs → Rs} (hf:∀ r,(f r).tx = r.tx) (t:Int):InvW (M.map (fun r => if r.tx = t ∧ t ≠ 0 then f r else r)) wo := by
 refine ⟨h.nod,fun t' s => ?_⟩
 rw [h.mem t' s,List.getElem?_map]
 constructor
 ·rintro ⟨h0,r,hr,ht⟩
  refine ⟨h0,_,by rw [hr]; rfl,?_⟩
  show (if r.tx = t ∧ t ≠ 0 then f r else r).tx = t'
  split
  ·rw [hf,ht]
  ·exact ht
 ·rintro ⟨h0,r,hr,ht⟩
  cases e:M[s]? with
  | none => rw [e] at hr; cases hr
  | some r' =>
   rw [e] at hr
   simp only [Option.map_some,Option.some.injEq] at hr
   refine ⟨h0,r',rfl,?_⟩
   rw [← ht,← hr]
   split
   ·rw [hf]
   ·rfl
theorem take_not {L:List Nat} (hn:L.Nodup) {j:Nat} (hj:j < L.length):L[j] ∉ L.take j := by
 intro hm
 obtain ⟨i,hi,e⟩ := List.getElem_of_mem hm
 rw [List.length_take] at hi
 rw [List.getElem_take] at e
 exact List.pairwise_iff_getElem.1 hn i j (by omega) hj (by omega) e
theorem take_one {L:List Nat} {j:Nat} (hj:j < L.length):L.take (j + 1) = L.take j ++ [L[j]] := by
 rw [List.take_add_one,List.getElem?_eq_getElem hj]
 rfl
def Sto (w:World) (B sb most:Nat) (M:List Rs) (K J:Nat) (F:Nat → Prop):Prop := ∃ pb dl dm pv tv C T sv wo,StX w B sb most pb 0 dl dm pv tv C T sv wo M K ∧ (∀ d,dl d = 0) ∧ InvT J most M T ∧ InvW M wo ∧ ∀ k,F k ↔ stF sb dm pv tv C sv wo k
section
variable {B sb most pb:Nat} {dl:Nat → Int} {dm:Nat → Option Nat} {pv tv:Value} {C:List (Nat × Nat)} {T:List Nat} {sv:Int → Value} {wo:Int → List Nat} {M:List Rs} {K J:Nat}
theorem StX.look {ls:Int} {w:World} (h:StX w B sb most pb ls dl dm pv tv C T sv wo M K) (t:Int) (h1:-9223372036854775808 ≤ t) (h2:t < 9223372036854775808):(Instr.lookup 98 (.map (dm (dk t))) (.int .i64 t) false).run Tryz.prog w = .ok (slO (fD sv wo (dk t) t)) w := by
 cases hm:dm (dk t) with
 | none =>
  rw [look_nil]
  have:fD sv wo (dk t) t = none := if_neg (fun e => e.2 (h.dsk.non _ hm t rfl))
  rw [this]
  rfl
 | some mb => exact (h.dsk.map _ _ (dk_lt t) hm).2.look t h1 h2
theorem StX.wrote {ls:Int} {w:World} (h:StX w B sb most pb ls dl dm pv tv C T sv wo M K) (t:Int) {p:Option Addr} {n c:Nat} (hs:slO (fD sv wo (dk t) t) = .slice p n c) {j:Nat} (hj:j < (wo t).length):∃ g,p = some ⟨g,0,none⟩ ∧ w.cell? ⟨g,j,none⟩ = some (.int .i64 ((wo t)[j]:Nat)) := by
 have hne:wo t ≠ [] := fun e => by rw [e] at hj; simp at hj
 have e:fD sv wo (dk t) t = some (sv t) := if_pos ⟨rfl,hne⟩
 rw [e] at hs
 have hs':sv t = .slice p n c := hs
 have ho := h.dsk.own t hne
 rw [hs'] at ho
 obtain ⟨g,cap,e2,_,_⟩ := owns_form ho (by omega)
 injection e2 with e3 e4 e5
 subst e3 e4 e5
 refine ⟨g,rfl,?_⟩
 rw [World.ownsRow.cellAt ho j (by omega)]
 simp [icells,hj]
theorem updN_zero {f:Nat → Int} (h:∀ d,f d = 0) (d:Nat):updN (updN f d 1) d 0 = f := updN_back (h d)
theorem tx_thr {r:Rs} (h:r.tx ≠ 0):thr r = true := by simp [thr,h]
theorem fold_enters:∀ args w,(callFunc 71 args).run Tryz.prog w = .ok (.enter 71 args) w := fun args w => Go.MuLone.run_callFunc_enter (P := Tryz.prog) Tryz.func71 (by kernel_rfl) rfl args w
end
def mapT (f:Rs → Rs) (t:Int) (M:List Rs):List Rs := M.map (fun r => if r.tx = t ∧ t ≠ 0 then f r else r)

set_option maxHeartbeats 2000000 in
theorem fold_bad (B sb most K J:Nat) (M:List Rs) (F:Nat → Prop) (t s:Int) (w:World) (h:Sto w B sb most M K J F) (hs:s < 1) :
  Calls Tryz.prog 37 #[ptr1 sb,.int .i64 t,.int .i64 s] w fun e w' => e = .returned (.int .i64 1) ∧ Sto w' B sb most M K J F ∧ Frm w w' F := by
 have HB:Hid (Below w.heap.size w (w.alloc (.cells #[.int .i64 s] 3))) := (Below.refl _ _).alloc (Nat.le_refl _) _
 have HS:Hid (Sto w B sb most M K J F) := h
 clear h
 go_enter Tryz.func37,Tryz.ntmps37
 go_wp2_with fail
 go_ret
 obtain ⟨pb,dl,dm,pv,tv,C,T,sv,wo,h1,h2,h3,h4,h5⟩ := HS.out
 exact ⟨rfl,⟨pb,dl,dm,pv,tv,C,T,sv,wo,h1.on HB.out,h2,h3,h4,h5⟩,Frm.of_below HB.out⟩

set_option maxHeartbeats 8000000 in
theorem fold_ok (B sb most K J:Nat) (M:List Rs) (F:Nat → Prop) (t s:Int) (w:World) (h:Sto w B sb most M K J F) (hs:1 ≤ s) (hs2:s ≤ 9223372036854775807) (h1:-9223372036854775808 ≤ t) (h2:t < 9223372036854775808) (hK:K + 65536 ≤ 8000000000000000000) (hJ:J + 1 ≤ 3518437208882) :
  Calls Tryz.prog 37 #[ptr1 sb,.int .i64 t,.int .i64 s] w fun e w' => e = .returned (.int .i64 0) ∧ Sto w' B sb most (mapT (fldR s) t M) (K + 65536) (J + 1) F ∧ Frm w w' F := by
 obtain ⟨pb,dl,dm,pv,tv,C,T,sv,wo,hX,hd0,hI,hW,hF⟩ := h
 obtain ⟨bX,bB,bS⟩ := one_new w #[.int .i64 s] 3
 have HB0:Hid (Below w.heap.size w (w.alloc (.cells #[.int .i64 s] 3))) := bB
 have HX0:Hid (Box (w.alloc (.cells #[.int .i64 s] 3)) w.heap.size #[.int .i64 s] 3) := bX
 have HS0:Hid (StX (w.alloc (.cells #[.int .i64 s] 3)) B sb most pb 0 dl dm pv tv C T sv wo M K) := hX.on bB
 have HF:Hid (∀ k,F k ↔ stF sb dm pv tv C sv wo k) := hF
 have HW:Hid (InvW M wo) := hW
 have HI:Hid (InvT J most M T) := hI
 have HST:Hid (∀ k,stF sb dm pv tv C sv wo k → k < w.heap.size) := fun k hk => (hX.mut hk).2.2
 have C1:Hid (Calls _ _ _ _ _) := desk_any sb t (w.alloc (.cells #[.int .i64 s] 3)) h1 h2
 have C2:Hid (Calls _ _ _ _ _) := lockD (dk t) (dk_lt t) _ HS0.out (hd0 _)
 obtain ⟨x0,_⟩ := (show Box _ _ #[.int .i64 s] 3 from bX).cell0
 have HM:Hid (mapT (fldR s) t M = modL (fldR s) (wo t) M) := (modL_map (hW.nod t) (hW.mem t)).symm
 have HD:Hid (updN (updN dl (dk t) 1) (dk t) 0 = dl ∧ ∀ d,dl d = 0) := ⟨updN_zero hd0 _,hd0⟩
 have hlen:(wo t).length ≤ 65536 := Nat.le_trans (hW.len t) (Nat.le_trans hI.len hI.mst)
 clear hX hI hW hF bX bB bS hd0
 go_enter_defers Tryz.func37,Tryz.ntmps37
 go_wp2_with fail
 generalize (w.alloc (.cells #[.int .i64 s] 3)) = w0 at *
 refine C1.out.mono ?_
 rintro e w9 ⟨rfl,hw⟩
 rw [hw]
 clear hw w9 C1
 go_wp2_with fail
 refine C2.out.mono ?_
 rintro e w1 ⟨rfl,hs1,hf1⟩
 obtain ⟨_,c1,_,_⟩ := hs1.deskc (dk_lt t)
 have l1 := hs1.look t h1 h2
 obtain ⟨p,c,hsl,_⟩ := hs1.slice t
 rw [hsl] at l1
 have HS1:Hid (StX w1 B sb most pb 0 (updN dl (dk t) 1) dm pv tv C T sv wo M K) := hs1
 have HSL:Hid (slO (fD sv wo (dk t) t) = .slice p (wo t).length c) := hsl
 have HF1:Hid (Frm w w1 (stF sb dm pv tv C sv wo)) := (Frm.of_below HB0.out).trans hf1 (fun k hk => .inl (.inl hk))
 have hsbw:sb < w.heap.size := HST.out sb (.inl rfl)
 have HX1:Hid (Box w1 w.heap.size #[.int .i64 s] 3) := HX0.out.frm hf1 (show ¬ w.heap.size = sb by omega)
 clear hs1 hf1 hsl C2 HS0 HX0 x0
 obtain ⟨n,hn⟩:∃ n,(wo t).length = n := ⟨_,rfl⟩
 rw [hn] at l1 HSL hlen
 go_wp2_with fail
 go_loopw [29] (fun i wq => ∃ (j:Nat) (C':List (Nat × Nat)) (T':List Nat),j ≤ n ∧ i = .int .i64 (j:Int) ∧ Hid (StX wq B sb most pb 0 (updN dl (dk t) 1) dm pv tv C' T' sv wo (modL (fldR s) ((wo t).take j) M) (K + j)) ∧ Hid (InvT (J + 1) most (modL (fldR s) ((wo t).take j) M) T') ∧ Hid (C'.map Prod.fst = C.map Prod.fst) ∧ Hid (Frm w wq (stF sb dm pv tv C sv wo)) ∧ Hid (Box wq w.heap.size #[.int .i64 s] 3)) (fun i _ => n - (intOf i).toNat)
 case atStart => exact ⟨0,C,T,Nat.zero_le _,by go_num,HS1,HI.out.mono (Nat.le_succ J),rfl,HF1,HX1⟩
 case round =>
  obtain ⟨j,C',T',hj,rfl,hS,hI,hC,hf,hx⟩ := hrel
  by_cases hj0:j = n
  ·subst hj0
   have HE:Hid (modL (fldR s) ((wo t).take j) M = mapT (fldR s) t M) := by
    show _ = _
    rw [← hn,List.take_length]
    exact HM.out.symm
   go_wp2_with fail
   refine leaves_cons (f := 48) (args := #[.pointer (some ⟨sb,5 + dk t * 3,none⟩)]) (by simp) (by simp [go_sem]) ?_
   refine (unlockD (dk t) (dk_lt t) .returning wr hS.out (if_pos rfl)).mono ?_
   rintro e u' w6 ⟨rfl,rfl,hs6,hf6⟩
   refine ⟨_,results_tmp (t := 6) rfl _ _ _,?_⟩
   rw [HD.out.1,HE.out] at hs6
   have hi6 := hI.out
   rw [HE.out] at hi6
   refine ⟨rfl,⟨pb,dl,dm,pv,tv,C',T',sv,wo,hs6.mono (by omega),HD.out.2,hi6,?_,fun k => ⟨fun hk => stF_fst hC.out.symm ((HF.out k).1 hk),fun hk => (HF.out k).2 (stF_fst hC.out hk)⟩⟩,?_⟩
   ·exact HW.out.map (f := fldR s) (fun _ => rfl) t
   ·exact (hf.out.trans hf6 (fun k hk => .inl (.inl hk))).mono (fun k hk => .inl ((HF.out k).2 hk))
  ·have hj1:j < (wo t).length := by omega
   obtain ⟨g,hpg,a0⟩ := hS.out.wrote t HSL.out hj1
   obtain ⟨h0,r,hr,htx⟩ := (HW.out.mem t (wo t)[j]).1 (List.getElem_mem hj1)
   have hMj:(modL (fldR s) ((wo t).take j) M)[(wo t)[j]]? = some r := (modL_not _ _ _ _ (take_not (HW.out.nod t) hj1)).trans hr
   obtain ⟨hxl,hxe⟩ := List.getElem?_eq_some_iff.1 hMj
   have hok := HI.out.ok r (List.mem_of_getElem? hr)
   have hWl:0 < r.W.length := by
    have:r.W ≠ [] := fun e => h0 (by rw [← htx]; exact hok.tx0.2 e)
    exact List.length_pos_iff.2 this
   obtain ⟨v,hv,_⟩ := lastW_some hWl
   have hxx := hx.out.lt
   have HT:Hid (Calls _ _ _ _ _) := turnG1 (J := J + 1) 71 (ptr1 w.heap.size) (wo t)[j] (fldR s r) (!decide (v.n < s)) none1 (fun _ => True) wr hS.out hI.out hxl (by rw [hxe]; exact tx_thr (by rw [htx]; exact h0)) (by omega) (fun hb => by
    rw [hxe]
    exact fld_same hok hv hs (by simpa using hb)) (hok.fld hs) fold_enters (fun _ h => h.elim) (fun _ _ _ _ => trivial) (fun w2 p2 q2 c2 hb2 hs2' => by
    rw [hxe] at hs2' ⊢
    refine (cfold_any p2 q2 c2 J r v s w.heap.size w2 hs2' hv hok (by omega) hs hs2 ((hb2.cell (p := ⟨w.heap.size,0,none⟩) hxx).trans hx.out.cell0.1) (Nat.lt_of_lt_of_le hxx hb2.size)).mono ?_
    rintro e w3 ⟨h5,h6⟩
    exact ⟨h5,Frm.of_below h6,trivial⟩)
   have HNx:Hid ((modL (fldR s) ((wo t).take j) M).set (wo t)[j] (fldR s r) = modL (fldR s) ((wo t).take (j + 1)) M) := by
    show _ = _
    rw [take_one hj1,modL_app,modify_set hxl,hxe]
   clear hr hMj hxl hxe hok hWl hv
   generalize (wo t)[j] = x at *
   subst hpg
   go_wp2_with fail
   refine HT.out.mono ?_
   rintro e w2 ⟨⟨v2,rfl,-⟩,⟨C2,T2,hS2,hI2,hC2⟩,-,hf2⟩
   have HS2:Hid (StX w2 B sb most pb 0 (updN dl (dk t) 1) dm pv tv C2 T2 sv wo (modL (fldR s) ((wo t).take (j + 1)) M) (K + (j + 1))) := by
    show StX _ _ _ _ _ _ _ _ _ _ _ _ _ _ _ _
    rw [← HNx.out]
    exact hS2
   have HI2:Hid (InvT (J + 1) most (modL (fldR s) ((wo t).take (j + 1)) M) T2) := by
    show InvT _ _ _ _
    rw [← HNx.out]
    exact hI2
   have hf2':Frm wr w2 (stF sb dm pv tv C sv wo) := hf2.mono (fun k hk => .inl (hk.elim (fun h => h.elim) (fun h => stF_fst hC.out h)))
   have HF2:Hid (Frm w w2 (stF sb dm pv tv C sv wo)) := hf.out.trans hf2' (fun k hk => .inl hk)
   have HX2:Hid (Box w2 w.heap.size #[.int .i64 s] 3) := hx.out.frm hf2' (fun e => by have := HST.out _ e; omega)
   have HC2:Hid (C2.map Prod.fst = C.map Prod.fst) := hC2.trans hC.out
   clear hS2 hI2 hC2 hf2 hf2' HT HNx
   go_wp2_with fail
   go_roundw
   case rel => exact ⟨j + 1,C2,T2,by omega,by go_num,HS2,HI2,HC2,HF2,HX2⟩
   case measure => simp [intOf]; omega

end Go.Proofs.YtcibcfghkidncaaGreatDoor

namespace Go.Proofs.YtcibcfghkidncaaGreatDoor
open Go.RowKit Go.Lib Go.Maps
set_option maxRecDepth 100000

theorem mapT_at {f:Rs → Rs} {t:Int} {M:List Rs} {x:Nat}:(mapT f t M)[x]? = M[x]?.map (fun r => if r.tx = t ∧ t ≠ 0 then f r else r) := List.getElem?_map ..
theorem InvW.to {M:List Rs} {wo:Int → List Nat} (h:InvW M wo) {f:Rs → Rs} {t:Int} (hf:∀ r ∈ M,r.tx = t → t ≠ 0 → (f r).tx = t ∨ (f r).tx = 0) {L:List Nat} (hn:L.Nodup) (hL:∀ x,x ∈ L ↔ t ≠ 0 ∧ ∃ r,(mapT f t M)[x]? = some r ∧ r.tx = t):InvW (mapT f t M) (updI wo t L) := by
 refine ⟨fun t' => ?_,fun t' s => ?_⟩
 ·by_cases e:t' = t
  ·rw [e,updI_same]; exact hn
  ·rw [updI_ne _ _ e]; exact h.nod t'
 ·by_cases e:t' = t
  ·rw [e,updI_same]; exact hL s
  ·rw [updI_ne _ _ e,h.mem t' s,mapT_at]
   cases em:M[s]? with
   | none => simp
   | some r =>
    have hr:r ∈ M := List.mem_of_getElem? em
    simp only [Option.map_some,Option.some.injEq]
    by_cases c:r.tx = t ∧ t ≠ 0
    ·simp only [if_pos c,exists_eq_left']
     constructor
     ·rintro ⟨_,h2⟩
      exact absurd (h2.symm.trans c.1) e
     ·rintro ⟨h1,h2⟩
      rcases hf r hr c.1 c.2 with h3 | h3
      ·exact absurd (h2.symm.trans h3) e
      ·exact absurd (h2.symm.trans h3) h1
    ·simp only [if_neg c,exists_eq_left']
theorem InvW.drop {M:List Rs} {wo:Int → List Nat} (h:InvW M wo) {f:Rs → Rs} {t:Int} (hf:∀ r ∈ M,r.tx = t → t ≠ 0 → (f r).tx = 0):InvW (mapT f t M) (updI wo t []) := by
 refine h.to (fun r hr h1 h2 => .inr (hf r hr h1 h2)) List.nodup_nil (fun x => ⟨fun hx => absurd hx (by simp),?_⟩)
 rintro ⟨h0,r,hr,ht⟩
 rw [mapT_at] at hr
 cases em:M[x]? with
 | none => rw [em] at hr; cases hr
 | some r' =>
  rw [em] at hr
  simp only [Option.map_some,Option.some.injEq] at hr
  have hm := List.mem_of_getElem? em
  by_cases c:r'.tx = t ∧ t ≠ 0
  ·rw [if_pos c] at hr
   have := hf r' hm c.1 c.2
   rw [hr,ht] at this
   exact absurd this h0
  ·rw [if_neg c] at hr
   rw [hr] at c
   exact absurd ⟨ht,h0⟩ c
theorem setR_tx {J:Nat} {r:Rs} (h:OkR J r) (h0:r.tx ≠ 0) (s:Int):(setR s r).tx = 0 := by
 have:0 < r.W.length := List.length_pos_iff.2 (fun e => h0 (h.tx0.2 e))
 obtain ⟨v,hv,_⟩ := lastW_some this
 unfold setR
 rw [hv]
 show (if _ then _ else _:Rs).tx = 0
 split <;> rfl
theorem stF_drop {sb:Nat} {dm:Nat → Option Nat} {pv tv:Value} {C:List (Nat × Nat)} {sv:Int → Value} {wo:Int → List Nat} {t:Int} {k:Nat} (h:stF sb dm pv tv C sv (updI wo t []) k):stF sb dm pv tv C sv wo k := by
 rcases h with h | h | h | h | h | ⟨t',h1,h2⟩
 ·exact .inl h
 ·exact .inr (.inl h)
 ·exact .inr (.inr (.inl h))
 ·exact .inr (.inr (.inr (.inl h)))
 ·exact .inr (.inr (.inr (.inr (.inl h))))
 ·refine .inr (.inr (.inr (.inr (.inr ⟨t',?_,h2⟩))))
  by_cases e:t' = t
  ·rw [e,updI_same] at h1; exact absurd rfl h1
  ·rw [updI_ne _ _ e] at h1; exact h1
theorem settle_enters:∀ args w,(callFunc 75 args).run Tryz.prog w = .ok (.enter 75 args) w := fun args w => Go.MuLone.run_callFunc_enter (P := Tryz.prog) Tryz.func75 (by kernel_rfl) rfl args w

set_option maxHeartbeats 2000000 in
theorem settle_bad (B sb most K J:Nat) (M:List Rs) (F:Nat → Prop) (t s:Int) (w:World) (h:Sto w B sb most M K J F) (hs:s < 1 ∨ 4611686018427387904 < s) :
  Calls Tryz.prog 39 #[ptr1 sb,.int .i64 t,.int .u64 s] w fun e w' => e = .returned (.tuple #[.int .i64 0,.int .i64 1]) ∧ Sto w' B sb most M K J F ∧ Frm w w' F := by
 have HB:Hid (Below w.heap.size w (w.alloc (.cells #[.int .u64 s] 39))) := (Below.refl _ _).alloc (Nat.le_refl _) _
 have HS:Hid (Sto w B sb most M K J F) := h
 clear h
 by_cases h1:s < 1
 ·go_enter Tryz.func39,Tryz.ntmps39
  go_wp2_with fail
  go_ret2
  obtain ⟨pb,dl,dm,pv,tv,C,T,sv,wo,h1,h2,h3,h4,h5⟩ := HS.out
  exact ⟨rfl,⟨pb,dl,dm,pv,tv,C,T,sv,wo,h1.on HB.out,h2,h3,h4,h5⟩,Frm.of_below HB.out⟩
 ·have h2:4611686018427387904 < s := by omega
  go_enter Tryz.func39,Tryz.ntmps39
  go_wp2_with fail
  go_ret2
  obtain ⟨pb,dl,dm,pv,tv,C,T,sv,wo,h1,h2,h3,h4,h5⟩ := HS.out
  exact ⟨rfl,⟨pb,dl,dm,pv,tv,C,T,sv,wo,h1.on HB.out,h2,h3,h4,h5⟩,Frm.of_below HB.out⟩

end Go.Proofs.YtcibcfghkidncaaGreatDoor

namespace Go.Proofs.YtcibcfghkidncaaGreatDoor
open Go.RowKit Go.Lib Go.Maps
set_option maxRecDepth 100000

def slM (M:List Rs):List Nat := (List.range M.length).filter (thrAt M)
theorem mem_slM {M:List Rs} {x:Nat}:x ∈ slM M ↔ ∃ r,M[x]? = some r ∧ thr r = true := by
 unfold slM
 rw [List.mem_filter,List.mem_range]
 unfold thrAt
 constructor
 ·rintro ⟨h1,h2⟩
  rw [List.getElem?_eq_getElem h1] at h2
  exact ⟨_,List.getElem?_eq_getElem h1,h2⟩
 ·rintro ⟨r,h1,h2⟩
  refine ⟨(List.getElem?_eq_some_iff.1 h1).1,?_⟩
  rw [h1]
  exact h2
theorem slM_nodup (M:List Rs):(slM M).Nodup := List.Pairwise.filter _ List.nodup_range
theorem slM_len (M:List Rs):(slM M).length ≤ M.length := by
 have := List.length_filter_le (thrAt M) (List.range M.length)
 simpa [slM] using this
theorem slots_out {T:List Nat} {N:Nat} (h:∀ j,N ≤ j → bitT T j = false):∀ d,slotsT T (N + d) = slotsT T N
 | 0 => rfl
 | d + 1 => by
  show slotsT T (N + d + 1) = _
  rw [slots_no (h _ (by omega)),slots_out h d]
theorem InvT.slots {J most:Nat} {M:List Rs} {T:List Nat} (h:InvT J most M T):slotsT T (T.length * 64) = slM M := by
 have h1:M.length ≤ T.length * 64 := by rw [h.tl]; omega
 have h2:T.length * 64 = M.length + (T.length * 64 - M.length) := by omega
 rw [h2,slots_out (fun j hj => by
  rw [h.bit j]
  unfold thrAt
  rw [List.getElem?_eq_none hj])]
 unfold slotsT slM
 congr 1
 funext j
 exact h.bit j
theorem modL_all {f:Rs → Rs} {L:List Nat} {M:List Rs} (hn:L.Nodup) (hL:∀ x,x ∈ L ↔ ∃ r,M[x]? = some r ∧ thr r = true) (hf:∀ r ∈ M,thr r = false → f r = r):modL f L M = M.map f := by
 apply List.ext_getElem?
 intro i
 rw [List.getElem?_map]
 by_cases h:i ∈ L
 ·exact modL_mem f L M i hn h
 ·rw [modL_not f L M i h]
  cases hr:M[i]? with
  | none => rfl
  | some r =>
   have ht:thr r = false := by
    cases e:thr r with
    | false => rfl
    | true => exact absurd ((hL i).2 ⟨r,hr,e⟩) h
   rw [Option.map_some,hf r (List.mem_of_getElem? hr) ht]
def wnt (s:Int) (r:Rs):Nat := r.L.length - (prnL r.L s).length
def wntA (s:Int) (M:List Rs) (x:Nat):Nat := wnt s (M.getD x nilR)
def gonA (s:Int) (M:List Rs) (x:Nat):Bool := !thr (prnR s (M.getD x nilR))
theorem prn_not {J:Nat} {r:Rs} (h:OkR J r) (s:Int) (ht:thr r = false):prnR s r = r := by
 refine prn_same h ?_
 have hl:r.L = [] := by
  cases e:r.L with
  | nil => rfl
  | cons a l => simp [thr,e] at ht
 have := prnL_len r.L s
 rw [hl] at this ⊢
 simp at this
 simp [this]
theorem InvW.all {M:List Rs} {wo:Int → List Nat} (h:InvW M wo) {f:Rs → Rs} (hf:∀ r,(f r).tx = r.tx):InvW (M.map f) wo := by
 refine ⟨h.nod,fun t s => ?_⟩
 rw [h.mem t s,List.getElem?_map]
 cases M[s]? with
 | none => simp
 | some r => simp [hf]
theorem prune_enters:∀ args w,(callFunc 78 args).run Tryz.prog w = .ok (.enter 78 args) w := fun args w => Go.MuLone.run_callFunc_enter (P := Tryz.prog) Tryz.func78 (by kernel_rfl) rfl args w
theorem sum_one (f:Nat → Nat) {L:List Nat} {j:Nat} (hj:j < L.length):((L.take (j + 1)).map f).sum = ((L.take j).map f).sum + f L[j] := by
 rw [take_one hj,List.map_append,List.sum_append]
 simp
theorem filter_one (f:Nat → Bool) {L:List Nat} {j:Nat} (hj:j < L.length):(L.take (j + 1)).filter f = (L.take j).filter f ++ (if f L[j] then [L[j]] else []) := by
 rw [take_one hj,List.filter_append]
 congr 1
 cases h:f L[j] <;> simp [h]
section
variable {B sb most pb:Nat} {ls:Int} {dl:Nat → Int} {dm:Nat → Option Nat} {pv tv:Value} {C:List (Nat × Nat)} {T:List Nat} {sv:Int → Value} {wo:Int → List Nat} {M:List Rs} {K:Nat}
theorem StX.beside {w w6:World} (h:StX w B sb most pb ls dl dm pv tv C T sv wo M K) {b:Nat} {u v6:Value} {A:List Nat} {x:Nat} (ho:OwnI w b u A) (hN:NB w u) (hb:b ≤ w.heap.size) (hs:∀ k,stF sb dm pv tv C sv wo k → k < b)
  (h6:w6.ownsRow b 3 1 v6 (A.length + 1) (icells A ++ [.int .i64 (x:Nat)])) (h7:(w.alloc (.cells #[.int .i64 (x:Nat)] 3)).grownBy w6 u.ownBlock) :
  OwnI w6 b v6 (A ++ [x]) ∧ StX w6 B sb most pb ls dl dm pv tv C T sv wo M K ∧ Below b w w6 ∧ Imm w w6 := by
 have hf:Frm w w6 (fun k => u.ownBlock = some k) := (Frm.of_below ((Below.refl _ _).alloc (Nat.le_refl _) _)).trans (Frm.of_grown h7 (F := fun k => u.ownBlock = some k) (fun g hg => .inl hg)) (fun k hk => .inl hk)
 have hi:Imm w w6 := Imm.of_frm hf (fun k hk => hN.mut ho hk (by decide))
 exact ⟨OwnI.app h6,h.keep hf hi (fun k hk e => by
  have h1 := hs k hk
  have h2 := (World.ownsRow.lt ho k e).1
  omega),hf.below hb (fun k hk => (World.ownsRow.lt ho k hk).1),hi⟩
end

end Go.Proofs.YtcibcfghkidncaaGreatDoor

namespace Go.Proofs.YtcibcfghkidncaaGreatDoor
open Go.RowKit Go.Lib Go.Maps
set_option maxRecDepth 100000

theorem zero_d5 (d:Nat) (hd:d < 64):Tryz.zeroCells103[5 + 3 * d]? = some (.int .i32 0) := by
 rcases (by omega:d = 0 ∨ d = 1 ∨ d = 2 ∨ d = 3 ∨ d = 4 ∨ d = 5 ∨ d = 6 ∨ d = 7 ∨ d = 8 ∨ d = 9 ∨ d = 10 ∨ d = 11 ∨ d = 12 ∨ d = 13 ∨ d = 14 ∨ d = 15 ∨ d = 16 ∨ d = 17 ∨ d = 18 ∨ d = 19 ∨ d = 20 ∨ d = 21 ∨ d = 22 ∨ d = 23 ∨ d = 24 ∨ d = 25 ∨ d = 26 ∨ d = 27 ∨ d = 28 ∨ d = 29 ∨ d = 30 ∨ d = 31 ∨ d = 32 ∨ d = 33 ∨ d = 34 ∨ d = 35 ∨ d = 36 ∨ d = 37 ∨ d = 38 ∨ d = 39 ∨ d = 40 ∨ d = 41 ∨ d = 42 ∨ d = 43 ∨ d = 44 ∨ d = 45 ∨ d = 46 ∨ d = 47 ∨ d = 48 ∨ d = 49 ∨ d = 50 ∨ d = 51 ∨ d = 52 ∨ d = 53 ∨ d = 54 ∨ d = 55 ∨ d = 56 ∨ d = 57 ∨ d = 58 ∨ d = 59 ∨ d = 60 ∨ d = 61 ∨ d = 62 ∨ d = 63) with rfl | rfl | rfl | rfl | rfl | rfl | rfl | rfl | rfl | rfl | rfl | rfl | rfl | rfl | rfl | rfl | rfl | rfl | rfl | rfl | rfl | rfl | rfl | rfl | rfl | rfl | rfl | rfl | rfl | rfl | rfl | rfl | rfl | rfl | rfl | rfl | rfl | rfl | rfl | rfl | rfl | rfl | rfl | rfl | rfl | rfl | rfl | rfl | rfl | rfl | rfl | rfl | rfl | rfl | rfl | rfl | rfl | rfl | rfl | rfl | rfl | rfl | rfl | rfl <;> kernel_rfl
theorem zero_d6 (d:Nat) (hd:d < 64):Tryz.zeroCells103[6 + 3 * d]? = some (.int .u32 0) := by
 rcases (by omega:d = 0 ∨ d = 1 ∨ d = 2 ∨ d = 3 ∨ d = 4 ∨ d = 5 ∨ d = 6 ∨ d = 7 ∨ d = 8 ∨ d = 9 ∨ d = 10 ∨ d = 11 ∨ d = 12 ∨ d = 13 ∨ d = 14 ∨ d = 15 ∨ d = 16 ∨ d = 17 ∨ d = 18 ∨ d = 19 ∨ d = 20 ∨ d = 21 ∨ d = 22 ∨ d = 23 ∨ d = 24 ∨ d = 25 ∨ d = 26 ∨ d = 27 ∨ d = 28 ∨ d = 29 ∨ d = 30 ∨ d = 31 ∨ d = 32 ∨ d = 33 ∨ d = 34 ∨ d = 35 ∨ d = 36 ∨ d = 37 ∨ d = 38 ∨ d = 39 ∨ d = 40 ∨ d = 41 ∨ d = 42 ∨ d = 43 ∨ d = 44 ∨ d = 45 ∨ d = 46 ∨ d = 47 ∨ d = 48 ∨ d = 49 ∨ d = 50 ∨ d = 51 ∨ d = 52 ∨ d = 53 ∨ d = 54 ∨ d = 55 ∨ d = 56 ∨ d = 57 ∨ d = 58 ∨ d = 59 ∨ d = 60 ∨ d = 61 ∨ d = 62 ∨ d = 63) with rfl | rfl | rfl | rfl | rfl | rfl | rfl | rfl | rfl | rfl | rfl | rfl | rfl | rfl | rfl | rfl | rfl | rfl | rfl | rfl | rfl | rfl | rfl | rfl | rfl | rfl | rfl | rfl | rfl | rfl | rfl | rfl | rfl | rfl | rfl | rfl | rfl | rfl | rfl | rfl | rfl | rfl | rfl | rfl | rfl | rfl | rfl | rfl | rfl | rfl | rfl | rfl | rfl | rfl | rfl | rfl | rfl | rfl | rfl | rfl | rfl | rfl | rfl | rfl <;> kernel_rfl
theorem zero_d7 (d:Nat) (hd:d < 64):Tryz.zeroCells103[7 + 3 * d]? = some (.map none) := by
 rcases (by omega:d = 0 ∨ d = 1 ∨ d = 2 ∨ d = 3 ∨ d = 4 ∨ d = 5 ∨ d = 6 ∨ d = 7 ∨ d = 8 ∨ d = 9 ∨ d = 10 ∨ d = 11 ∨ d = 12 ∨ d = 13 ∨ d = 14 ∨ d = 15 ∨ d = 16 ∨ d = 17 ∨ d = 18 ∨ d = 19 ∨ d = 20 ∨ d = 21 ∨ d = 22 ∨ d = 23 ∨ d = 24 ∨ d = 25 ∨ d = 26 ∨ d = 27 ∨ d = 28 ∨ d = 29 ∨ d = 30 ∨ d = 31 ∨ d = 32 ∨ d = 33 ∨ d = 34 ∨ d = 35 ∨ d = 36 ∨ d = 37 ∨ d = 38 ∨ d = 39 ∨ d = 40 ∨ d = 41 ∨ d = 42 ∨ d = 43 ∨ d = 44 ∨ d = 45 ∨ d = 46 ∨ d = 47 ∨ d = 48 ∨ d = 49 ∨ d = 50 ∨ d = 51 ∨ d = 52 ∨ d = 53 ∨ d = 54 ∨ d = 55 ∨ d = 56 ∨ d = 57 ∨ d = 58 ∨ d = 59 ∨ d = 60 ∨ d = 61 ∨ d = 62 ∨ d = 63) with rfl | rfl | rfl | rfl | rfl | rfl | rfl | rfl | rfl | rfl | rfl | rfl | rfl | rfl | rfl | rfl | rfl | rfl | rfl | rfl | rfl | rfl | rfl | rfl | rfl | rfl | rfl | rfl | rfl | rfl | rfl | rfl | rfl | rfl | rfl | rfl | rfl | rfl | rfl | rfl | rfl | rfl | rfl | rfl | rfl | rfl | rfl | rfl | rfl | rfl | rfl | rfl | rfl | rfl | rfl | rfl | rfl | rfl | rfl | rfl | rfl | rfl | rfl | rfl <;> kernel_rfl
theorem zero_sbc (most pb:Nat):SBc ((Tryz.zeroCells103.setIfInBounds 0 (.int .i64 (most:Nat))).setIfInBounds 1 (ptr1 pb)) most pb 0 (.slice none 0 0) (fun _ => 0) (fun _ => none) := by
 have hz:Tryz.zeroCells103.size = 197 := by kernel_rfl
 have hn:∀ i,i ≠ 0 → i ≠ 1 → ((Tryz.zeroCells103.setIfInBounds 0 (.int .i64 (most:Nat))).setIfInBounds 1 (ptr1 pb))[i]? = Tryz.zeroCells103[i]? := fun i h0 h1 => by
  rw [Array.getElem?_setIfInBounds_ne (fun e => h1 e.symm),Array.getElem?_setIfInBounds_ne (fun e => h0 e.symm)]
 refine ⟨by simp [hz],?_,?_,?_,?_,?_,fun d hd => ?_,fun d hd => ?_,fun d hd => ?_,⟨_,_,_,rfl⟩⟩
 ·rw [Array.getElem?_setIfInBounds_ne (by decide),Array.getElem?_setIfInBounds_self_of_lt (by rw [hz]; decide)]
 ·rw [Array.getElem?_setIfInBounds_self_of_lt (by rw [Array.size_setIfInBounds,hz]; decide)]
 ·rw [hn 2 (by decide) (by decide)]; kernel_rfl
 ·rw [hn 3 (by decide) (by decide)]; kernel_rfl
 ·rw [hn 4 (by decide) (by decide)]; kernel_rfl
 ·rw [hn _ (by omega) (by omega)]; exact zero_d5 d hd
 ·rw [hn _ (by omega) (by omega)]; exact zero_d6 d hd
 ·rw [hn _ (by omega) (by omega)]; exact zero_d7 d hd

end Go.Proofs.YtcibcfghkidncaaGreatDoor
