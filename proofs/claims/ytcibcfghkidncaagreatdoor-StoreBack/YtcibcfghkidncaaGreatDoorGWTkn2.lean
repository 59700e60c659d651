/- Which slots are taken: with, without. Which slots are taken: all. -/
import Derived.Laws.BitsAllLaws
import Derived.Maps.AppendAt
import Derived.Test.YtcibcfghkidncaaGreatDoorGWTkn
import Derived.Test.YtcibcfghkidncaaGreatDoorGWNb
namespace Go.Proofs.YtcibcfghkidncaaGreatDoor
open Go.RowKit Go.Lib
set_option maxRecDepth 100000

theorem pow_wrap {b:Nat} (hb:b < 64):IntKind.u64.wrap ((2:Int) ^ b) = ((2 ^ b:Nat):Int) ∧ 2 ^ b < 18446744073709551616 := by
 have hp:(2:Nat) ^ b < 18446744073709551616 := by
  have := Nat.pow_lt_pow_right (a := 2) (by decide) hb
  simpa using this
 refine ⟨?_,hp⟩
 rw [IntKind.wrap_u64]
 have:((2:Int) ^ b) = ((2 ^ b:Nat):Int) := by simp
 rw [this]
 clear this
 generalize (2:Nat) ^ b = y at *
 omega
theorem OwnT.set {w:World} {B g n c i x:Nat} {T:List Nat} (h:OwnT w B (.slice (some ⟨g,0,none⟩) n c) T) (hn:T.length = n) (_hi:i < T.length):OwnT (w.setCell ⟨g,i,none⟩ (.int .u64 (x:Nat))) B (.slice (some ⟨g,0,none⟩) n c) (T.set i x) := by
 subst hn
 have h' := (World.ownsRow.stored h i (.int .u64 (x:Nat))).1
 unfold OwnT
 rw [List.length_set]
 have e:tcells (T.set i x) = (tcells T).set i (.int .u64 (x:Nat)) := by
  unfold tcells
  rw [List.map_set]
 rw [e]
 exact h'
theorem OwnT.drew {w:World} {B:Nat} {v:Value} {T:List Nat} (h:OwnT w B v T):OwnT w.drew B v T := h

set_option maxHeartbeats 2000000 in
theorem without_any (T:List Nat) (v:Value) (B s:Nat) (w:World) (h:OwnT w B v T) (hN:NB w v) (hx:∀ x ∈ T,x < 18446744073709551616) (hs:s / 64 < T.length) (hl:T.length ≤ 1024) :
  Calls Tryz.prog 120 #[v,.int .i64 (s:Nat)] w fun e w' => e = .returned (.tuple #[]) ∧ OwnT w' B v (offT T s) ∧ NB w' v ∧ Frm w w' (fun k => v.ownBlock = some k) := by
 obtain ⟨p,c,rfl,_⟩ := owns_len h
 obtain ⟨g,rfl,hg1,hg2,_,a0,f0⟩ := h.at hs
 have hxj:T[s / 64] < 18446744073709551616 := hx _ (List.getElem_mem hs)
 have HE:Hid (offT T s = T.set (s / 64) (T[s / 64] &&& (18446744073709551615 - 2 ^ (s % 64)))) := by
  show _ = _
  unfold offT
  rw [List.getD_eq_getElem?_getD,List.getElem?_eq_getElem hs]
  rfl
 have HO:Hid (OwnT w B (.slice (some ⟨g,0,none⟩) T.length c) T ∧ s / 64 < T.length) := ⟨h,hs⟩
 have HNB:Hid (NB w (.slice (some ⟨g,0,none⟩) T.length c)) := hN
 have e1:((s:Int)).tdiv 64 = ((s / 64:Nat):Int) := by rw [Int.tdiv_eq_ediv_of_nonneg (by omega)]; rfl
 have e2:((s:Int)).tmod 64 = ((s % 64:Nat):Int) := by rw [Int.tmod_eq_emod_of_nonneg (by omega)]; rfl
 have e3:((s / 64:Nat):Int) < (T.length:Int) := by omega
 obtain ⟨e4,e5⟩ := pow_wrap (show s % 64 < 64 by omega)
 have e8:min (s % 64) 64 = s % 64 := by omega
 have e6 := u64_andNot_nat T[s / 64] (2 ^ (s % 64)) hxj e5
 clear h hx hN
 generalize T[s / 64] = x at *
 generalize s / 64 = i at *
 generalize s % 64 = b at *
 rw [show ((2 ^ b:Nat):Int) = (2:Int) ^ b by simp] at e6 e4
 go_enter Tryz.func120,Tryz.ntmps120
 go_wp2_with fail
 go_region
 all_goals
  go_wp2_with fail
  go_end0
  rw [HE.out]
  refine ⟨rfl,?_,HNB.out.set (v := .slice (some ⟨g,0,none⟩) T.length c) rfl (nb_int _ _),(Frm.of_grown (grownBy_set w g i _) (fun k hk => by cases hk; exact .inl rfl)).drew⟩
  have h9 := (HO.out.1.set (i := i) (x := x &&& (18446744073709551615 - 2 ^ b)) rfl HO.out.2).drew
  first
   | (rw [e6]; exact h9)
   | exact h9

set_option maxHeartbeats 2000000 in
theorem with_old (T:List Nat) (v:Value) (B s:Nat) (w:World) (h:OwnT w B v T) (hN:NB w v) (hx:∀ x ∈ T,x < 18446744073709551616) (hs:s / 64 < T.length) (hl:T.length ≤ 1024) :
  Calls Tryz.prog 96 #[v,.int .i64 (s:Nat)] w fun e w' => e = .returned v ∧ OwnT w' B v (onT T s) ∧ NB w' v ∧ Frm w w' (fun k => v.ownBlock = some k) := by
 obtain ⟨p,c,rfl,_⟩ := owns_len h
 obtain ⟨g,rfl,hg1,hg2,_,a0,f0⟩ := h.at hs
 have hxj:T[s / 64] < 18446744073709551616 := hx _ (List.getElem_mem hs)
 have HE:Hid (onT T s = T.set (s / 64) (T[s / 64] ||| 2 ^ (s % 64))) := by
  show _ = _
  unfold onT
  rw [List.getD_eq_getElem?_getD,List.getElem?_eq_getElem hs]
  rfl
 have HO:Hid (OwnT w B (.slice (some ⟨g,0,none⟩) T.length c) T ∧ s / 64 < T.length) := ⟨h,hs⟩
 have HNB:Hid (NB w (.slice (some ⟨g,0,none⟩) T.length c)) := hN
 have e1:((s:Int)).tdiv 64 = ((s / 64:Nat):Int) := by rw [Int.tdiv_eq_ediv_of_nonneg (by omega)]; rfl
 have e2:((s:Int)).tmod 64 = ((s % 64:Nat):Int) := by rw [Int.tmod_eq_emod_of_nonneg (by omega)]; rfl
 have e3:((s / 64:Nat):Int) < (T.length:Int) := by omega
 have e7:(((s / 64:Nat):Int) == (T.length:Int)) = false := beq_eq_false_iff_ne.2 (by omega)
 obtain ⟨e4,e5⟩ := pow_wrap (show s % 64 < 64 by omega)
 have e8:min (s % 64) 64 = s % 64 := by omega
 have e6 := u64_or_nat T[s / 64] (2 ^ (s % 64)) hxj e5
 clear h hx hN
 generalize T[s / 64] = x at *
 generalize s / 64 = i at *
 generalize s % 64 = b at *
 rw [show ((2 ^ b:Nat):Int) = (2:Int) ^ b by simp] at e6 e4
 go_enter Tryz.func96,Tryz.ntmps96
 go_wp2_with fail
 go_region
 all_goals
  go_wp2_with fail
  go_ret
  rw [HE.out]
  refine ⟨rfl,?_,HNB.out.set (v := .slice (some ⟨g,0,none⟩) T.length c) rfl (nb_int _ _),(Frm.of_grown (grownBy_set w g i _) (fun k hk => by cases hk; exact .inl rfl)).drew⟩
  have h9 := (HO.out.1.set (i := i) (x := x ||| 2 ^ b) rfl HO.out.2).drew
  first
   | (rw [e6]; exact h9)
   | exact h9
theorem info_u64:(Tryz.prog.info? 39).map (fun i => (i.zero,i.size,i.bytes)) = some (some (.int .u64 0),1,8) := by kernel_rfl

theorem wpList_app1a {ops:Array Oper} {rest:List Oper} {o:Oper} {a:Act} {Q:Exit → Act → World → Prop} (w:World) (hgd:o.guard = none) (s x:Operand) (T S:TypeId) (z:Value) (size bytes:Nat)
  (ho:o.op = .call { callee := .builtin .append,args := #[s,x],argTypes := #[S,S] }) (hu:Tryz.prog.underlying S = some (.slice T))
  (hinfo:(Tryz.prog.info? T).map (fun i => (i.zero,i.size,i.bytes)) = some (some z,size,bytes)) (hzs:z.cells.size = size) (hsz:0 < size)
  (B:Nat) (v:Value) (n:Nat) (xs:List Value) (hs:a.eval s = v) (hown:w.ownsRow B T size v n xs)
  (us:List Value) (hus:us.length = size) (hone:∀ u ∈ us,u.oneCell' = true) (g:Nat) (hx:a.eval x = .slice (some ⟨g,0,none⟩) 1 1) (hgz:g = w.heap.size)
  (hlen:(n + 1) * bytes ≤ 140737488355328) (hlen2:n + 1 ≤ 140737488355328) (hbase:B ≤ w.heap.size)
  (h:∀ v' w',w'.ownsRow B T size v' (n + 1) (xs ++ us) → (w.alloc (.cells us.toArray T)).grownBy w' v.ownBlock → (v'.ownBlock = v.ownBlock ∨ v'.ownBlock = some (w.heap.size + 1)) → v' ≠ .slice none 0 0 → wpList Tryz.prog ops Q rest (a.put o.dst v') w'):wpList Tryz.prog ops Q (o :: rest) a (w.alloc (.cells us.toArray T)) := by
 obtain ⟨i,hi,hz0,hz1,hz2⟩ := info_parts1 hinfo
 subst hgz
 have hown' := hown.alloc (.cells us.toArray T)
 refine wpList_append_own_at _ hgd s x S ho B T i z size bytes hu hi hz0 hz1 hz2 hzs hsz v n xs hs hown' ⟨w.heap.size,0,none⟩ 1 1 us hx (by omega) ?_ hone (by unfold maxLen; omega) hlen (by simp; omega) ?_
 ·intro j y hj
  have e:(⟨w.heap.size,0,none⟩:Addr).add j = ⟨w.heap.size,j,none⟩ := by unfold Addr.add; split <;> simp_all
  rw [e,World.cell?_alloc_new]
  simpa using hj
 ·intro v' w' h1 h2 h3 h4
  refine h v' w' h1 h2 ?_ (fun e => ?_)
  ·rcases h4 with h4 | h4
   ·exact .inl h4
   ·refine .inr (h4.trans ?_)
    simp
  ·have := (h3.1 e).2
   cases this

set_option maxHeartbeats 2000000 in
theorem with_new (T:List Nat) (v:Value) (B s:Nat) (w:World) (h:OwnT w B v T) (hN:NB w v) (hs:s / 64 = T.length) (hl:T.length ≤ 1024) (hB:B ≤ w.heap.size) :
  Calls Tryz.prog 96 #[v,.int .i64 (s:Nat)] w fun e w' => (∃ v',e = .returned v' ∧ OwnT w' B v' (onT (T ++ [0]) s) ∧ NB w' v' ∧ (v'.ownBlock = v.ownBlock ∨ ∃ g,v'.ownBlock = some g ∧ w.heap.size ≤ g)) ∧ Frm w w' (fun k => v.ownBlock = some k) := by
 obtain ⟨p,c,rfl,_⟩ := owns_len h
 have HE:Hid (onT (T ++ [0]) s = (T ++ [0]).set T.length (0 ||| 2 ^ (s % 64))) := by
  show _ = _
  unfold onT
  rw [hs,List.getD_eq_getElem?_getD,List.getElem?_append_right (Nat.le_refl _),Nat.sub_self]
  rfl
 have HO:Hid (OwnT w B (.slice p T.length c) T ∧ NB w (.slice p T.length c)) := ⟨h,hN⟩
 have e1:((s:Int)).tdiv 64 = (T.length:Int) := by rw [Int.tdiv_eq_ediv_of_nonneg (by omega)]; omega
 have e2:((s:Int)).tmod 64 = ((s % 64:Nat):Int) := by rw [Int.tmod_eq_emod_of_nonneg (by omega)]; rfl
 obtain ⟨e4,e5⟩ := pow_wrap (show s % 64 < 64 by omega)
 have e8:min (s % 64) 64 = s % 64 := by omega
 have e6 := u64_or_nat 0 (2 ^ (s % 64)) (by decide) e5
 clear h hN
 generalize s % 64 = b at *
 rw [show ((2 ^ b:Nat):Int) = (2:Int) ^ b by simp] at e6 e4
 go_enter Tryz.func96,Tryz.ntmps96
 go_upto_region 3 with (first | (at_builtin; go_loud (refine wpList_app1n w rfl (.tmp 10) (.tmp 11) 39 97 _ 8 rfl Tryz.underlying97 info_u64 rfl (nb_int _ _) B _ _ _ (by rfl) HO.out.1 HO.out.2 (.int .u64 0) rfl (nb_int _ _) _ rfl (by simp) (by omega) (by omega) hB ?_); intro v6 w6 h6 h7 h8 h9 hnb))
 have H6:OwnT w6 B v6 (T ++ [0]) := by
  unfold OwnT tcells
  rw [List.length_append,List.map_append]
  exact h6
 obtain ⟨p6,c6,rfl,_⟩ := owns_len H6
 obtain ⟨g,rfl,hg1,hg2,hn6,a0,f0⟩ := H6.at (i := T.length) (by simp)
 have a1:w6.cell? ⟨g,T.length,none⟩ = some (.int .u64 0) := by rw [a0]; simp
 have HF:Hid (Frm w w6 (fun k => (Value.slice p T.length c).ownBlock = some k)) := (Frm.of_below ((Below.refl _ _).alloc (Nat.le_refl _) _)).trans (Frm.of_grown h7 (fun k hk => .inl hk)) (fun k hk => .inl hk)
 have HV:Hid (some g = (Value.slice p T.length c).ownBlock ∨ some g = some (w.heap.size + 1)) := h8
 have HNB:Hid (NB w6 (.slice (some ⟨g,0,none⟩) (T ++ [0]).length c6)) := hnb
 have H6':Hid (OwnT w6 B (.slice (some ⟨g,0,none⟩) (T ++ [0]).length c6) (T ++ [0])) := H6
 have e9:(T ++ [0]).length = T.length + 1 := by simp
 rw [e9]
 clear H6 h6 h7 h8 h9 a0 hnb
 have e10:((0:Nat):Int) = 0 := rfl
 rw [e10] at e6
 go_region
 all_goals
  go_wp2_with fail
  go_ret
  rw [HE.out]
  have hgw:Frm w (w6.setCell ⟨g,T.length,none⟩ (.int .u64 ((0 ||| 2 ^ b:Nat):Int))).drew (fun k => (Value.slice p T.length c).ownBlock = some k) := (HF.out.trans (frm_set w6 g T.length _ (F := fun k => (Value.slice p T.length c).ownBlock = some k ∨ k = w.heap.size + 1) (.inl (by
   rcases HV.out with h | h
   ·exact .inl h.symm
   ·exact .inr (by injection h)))) (fun k hk => hk.elim .inl (fun e => .inr (by omega)))).drew
  have h9 := (H6'.out.set (i := T.length) (x := 0 ||| 2 ^ b) rfl (by simp)).drew
  have hv:(Value.slice (some ⟨g,0,none⟩) (T.length + 1) c6).ownBlock = (Value.slice p T.length c).ownBlock ∨ ∃ g',(Value.slice (some ⟨g,0,none⟩) (T.length + 1) c6).ownBlock = some g' ∧ w.heap.size ≤ g' := by
   rcases HV.out with h | h
   ·exact .inl h
   ·exact .inr ⟨g,rfl,by injection h with h; omega⟩
  rw [e9] at h9
  rw [show ((0 ||| 2 ^ b:Nat):Int) = (2:Int) ^ b by simp] at h9 hgw
  have hb9 := HNB.out.set (g := g) (i := T.length) rfl (nb_int .u64 ((2:Int) ^ b))
  rw [e9] at hb9
  exact ⟨⟨_,rfl,h9,hb9,hv⟩,hgw⟩

end Go.Proofs.YtcibcfghkidncaaGreatDoor

namespace Go.Proofs.YtcibcfghkidncaaGreatDoor
open Go.RowKit Go.Lib
set_option maxRecDepth 100000

theorem info_int:(Tryz.prog.info? 3).map (fun i => (i.zero,i.size,i.bytes)) = some (some (.int .i64 0),1,8) := by kernel_rfl
def icells (A:List Nat):List Value := A.map fun x => .int .i64 (x:Nat)
def OwnI (w:World) (B:Nat) (v:Value) (A:List Nat):Prop := w.ownsRow B 3 1 v A.length (icells A)
theorem OwnI.nil (w:World) (B:Nat):OwnI w B (.slice none 0 0) [] := World.ownsRow_nil w B _ _
theorem OwnI.app {w:World} {B:Nat} {v:Value} {A:List Nat} {x:Nat} (h:w.ownsRow B 3 1 v (A.length + 1) (icells A ++ [.int .i64 (x:Nat)])):OwnI w B v (A ++ [x]) := by
 unfold OwnI icells
 rw [List.length_append,List.map_append]
 exact h
structure Rem (T:List Nat) (j:Nat) (x c:Nat):Prop where
 lt:x < 18446744073709551616
 le:c ≤ 64
 low:∀ b,b < c → x.testBit b = false
 high:∀ b,c ≤ b → b < 64 → x.testBit b = bitT T (j * 64 + b)
theorem Rem.start {T:List Nat} {j:Nat} (hj:j < T.length) (hx:T[j] < 18446744073709551616):Rem T j T[j] 0 := ⟨hx,Nat.zero_le _,fun b hb => absurd hb (by omega),fun b _ hb => (bitT_at hj hb).symm⟩
theorem Rem.step {T:List Nat} {j x c:Nat} (h:Rem T j x c) (h0:x ≠ 0):Rem T j (x &&& (x - 1)) (ctz 64 x + 1) ∧ ctz 64 x < 64 ∧ slotsT T (j * 64 + (ctz 64 x + 1)) = slotsT T (j * 64 + c) ++ [j * 64 + ctz 64 x] := by
 obtain ⟨h1,h2,h3⟩ := ctz_lt h0 h.lt
 have hc:c ≤ ctz 64 x := by
  rcases Nat.lt_or_ge (ctz 64 x) c with hlt | hge
  ·rw [h.low _ hlt] at h2
   cases h2
  ·exact hge
 refine ⟨⟨Nat.lt_trans (low_lt h0) h.lt,by omega,fun b hb => ?_,fun b hb1 hb2 => ?_⟩,h1,?_⟩
 ·rw [low_off h0 h.lt]
  rcases Nat.lt_succ_iff_lt_or_eq.1 hb with hb | rfl
  ·rw [h3 b hb]
   rfl
  ·simp
 ·rw [low_off h0 h.lt,h.high b (by omega) hb2]
  have:b ≠ ctz 64 x := by omega
  simp [this]
 ·have hb:bitT T (j * 64 + ctz 64 x) = true := by
   rw [← h.high _ hc h1]
   exact h2
  rw [show j * 64 + (ctz 64 x + 1) = j * 64 + ctz 64 x + 1 by omega,slots_one hb]
  obtain ⟨d,hd⟩:∃ d,ctz 64 x = c + d := ⟨ctz 64 x - c,by omega⟩
  have := slots_skip (T := T) (M := j * 64 + c) d (fun b h5 h6 => by
   obtain ⟨e,rfl⟩:∃ e,b = j * 64 + e := ⟨b - j * 64,by omega⟩
   rw [← h.high e (by omega) (by omega)]
   exact h3 e (by omega))
  rw [show j * 64 + ctz 64 x = j * 64 + c + d by omega,this]
theorem Rem.done {T:List Nat} {j c:Nat} (h:Rem T j 0 c):slotsT T ((j + 1) * 64) = slotsT T (j * 64 + c) := by
 have := slots_skip (T := T) (M := j * 64 + c) (64 - c) (fun b h5 h6 => by
  obtain ⟨e,rfl⟩:∃ e,b = j * 64 + e := ⟨b - j * 64,by omega⟩
  rw [← h.high e (by omega) (by have := h.le; omega)]
  simp)
 rw [← this]
 have := h.le
 congr 1
 omega

def natOf:Value → Nat
 | .int _ n => n.toNat
 | _ => 0

set_option maxHeartbeats 4000000 in
theorem all_any (T:List Nat) (v:Value) (B:Nat) (w:World) (h:OwnT w B v T) (hT:Tab w) (hx:∀ x ∈ T,x < 18446744073709551616) (hl:T.length ≤ 1024) (hg : 1 < w.heap.size) :
  Calls Tryz.prog 66 #[v] w fun e w' => (∃ v',e = .returned v' ∧ OwnI w' w.heap.size v' (slotsT T (T.length * 64))) ∧ Below w.heap.size w w' := by
 obtain ⟨p,c,rfl,_⟩ := owns_len h
 have HT:Hid (∀ w1,Below w.heap.size w w1 → Tab w1) := fun w1 h1 => hT.keep h1 hg
 have HO:Hid (∀ w1,Below w.heap.size w w1 → OwnT w1 B (.slice p T.length c) T) := fun w1 h1 => owns_kept h h1
 have HX:Hid (∀ x ∈ T,x < 18446744073709551616) := hx
 clear h hT hx hg
 go_enter Tryz.func66,Tryz.ntmps66
 go_wp2_with fail
 go_loopw [3,8] (fun u i wr => ∃ j:Nat,j ≤ T.length ∧ i = .int .i64 (j:Int) ∧ Hid (OwnI wr w.heap.size u (slotsT T (j * 64))) ∧ Hid (Below w.heap.size w wr)) (fun _ i _ => T.length - (intOf i).toNat)
 case atStart => exact ⟨0,Nat.zero_le _,by go_num,by show OwnI _ _ _ _; rw [Nat.zero_mul]; exact OwnI.nil _ _,Below.refl _ _⟩
 case round =>
  obtain ⟨j,hj,rfl,hO,hB⟩ := hrel
  by_cases hj0:j = T.length
  ·subst hj0
   obtain ⟨pu,cu,rfl,_⟩ := owns_len hO.out
   go_wp2
   go_ret
   exact ⟨⟨_,rfl,hO.out⟩,hB.out⟩
  ·have hj1:j < T.length := by omega
   obtain ⟨g,rfl,_,hgl,_,a0,_⟩ := (HO.out wr hB.out).at hj1
   have HR:Hid (Rem T j T[j] 0) := Rem.start hj1 (HX.out _ (List.getElem_mem hj1))
   have hxj := HR.out.lt
   generalize T[j] = x at *
   have HO0:Hid (OwnI wr w.heap.size u3 (slotsT T (j * 64 + 0))) := hO.out
   go_wp2_with fail
   go_loopw [3,5] (fun u y wq => ∃ (x c:Nat),y = .int .u64 (x:Int) ∧ x < 18446744073709551616 ∧ Hid (Rem T j x c) ∧ Hid (OwnI wq w.heap.size u (slotsT T (j * 64 + c))) ∧ Hid (Below w.heap.size w wq)) (fun _ y _ => natOf y)
   case atStart => exact ⟨x,0,rfl,hxj,HR,HO0,hB⟩
   case round =>
    clear a0 HR HO0 hxj hO hB
    obtain ⟨x,c0,rfl,hx1,hR,hO,hB⟩ := hrel
    by_cases hx0:x = 0
    ·subst hx0
     have HD:Hid (OwnI wr w.heap.size u3 (slotsT T ((j + 1) * 64))) := by
      show OwnI _ _ _ _
      rw [hR.out.done]
      exact hO.out
     go_wp2_with fail
     go_roundw
     case rel => exact ⟨j + 1,hj1,by go_num,HD,hB⟩
     case measure => simp [intOf]; omega
    ·obtain ⟨r1,r2,r3⟩ := hR.out.step hx0
     have hN:(slotsT T (j * 64 + c0)).length ≤ 70000 := by
      have := slots_len T (j * 64 + c0)
      have := hR.out.le
      omega
     have C1:Hid (Calls _ _ _ _ _) := tz_any x hx1 wr (HT.out wr hB.out)
     have HR1:Hid (Rem T j (x &&& (x - 1)) (ctz 64 x + 1)) := r1
     have HL:Hid (x &&& (x - 1) < x) := low_lt hx0
     have HS:Hid (slotsT T (j * 64 + (ctz 64 x + 1)) = slotsT T (j * 64 + c0) ++ [j * 64 + ctz 64 x]) := r3
     have e1:((x:Int) == 0) = false := beq_eq_false_iff_ne.2 (by omega)
     have e2:IntKind.u64.wrap ((x:Int) - 1) = ((x - 1:Nat):Int) := by
      rw [IntKind.wrap_u64]
      omega
     have e3 := u64_and_nat x (x - 1) hx1 (by omega)
     have e5:((x - 1:Nat):Int) = (x:Int) - 1 := by omega
     obtain ⟨pu,cu,rfl,_⟩ := owns_len hO.out
     have hs := hB.out.size
     clear r1 r3 hR
     generalize ctz 64 x = k at *
     generalize hAl:slotsT T (j * 64 + c0) = A at *
     go_wp2_with fail
     refine C1.out.mono ?_
     rintro e w2 ⟨rfl,hw⟩
     rw [hw]
     clear hw C1
     go_wp2_with (first | (at_builtin; go_loud (refine wpList_app1a wr rfl (.tmp 19) (.tmp 25) 3 56 _ 1 8 rfl Tryz.underlying56 info_int rfl (by decide) w.heap.size _ _ _ (by rfl) hO.out [.int .i64 ((j:Int) * 64 + (k:Int))] rfl (by simp [Value.oneCell']) _ rfl (by simp) (by omega) (by omega) hs ?_); intro v6 w6 h6 h7 h8 h9))
     have HO6:Hid (OwnI w6 w.heap.size v6 (slotsT T (j * 64 + (k + 1)))) := by
      show OwnI _ _ _ _
      rw [HS.out]
      refine OwnI.app ?_
      have e9:((j * 64 + k:Nat):Int) = (j:Int) * 64 + (k:Int) := by omega
      rw [e9]
      exact h6
     have HB6:Hid (Below w.heap.size w w6) := hB.out.trans (((Below.refl _ _).alloc hs _).grown h7 (by simp; omega) (fun b hb => (World.ownsRow.lt hO.out b hb).1))
     clear h6 h7 h8 h9
     go_roundw
     case rel => exact ⟨x &&& (x - 1),k + 1,by first | rfl | (rw [← e3]; simp only [e5]) | (rw [← e3,e5]),HR1.out.lt,HR1,HO6,HB6⟩
     case measure =>
      rw [e5] at e3
      rw [e3]
      simp only [natOf,Int.toNat_natCast]
      exact HL.out

end Go.Proofs.YtcibcfghkidncaaGreatDoor
