/- Walks of a store: note. -/
import Derived.Test.YtcibcfghkidncaaGreatDoorGWSto8
import Derived.Test.YtcibcfghkidncaaGreatDoorGMAny9
import Derived.Test.YtcibcfghkidncaaGreatDoorGWCpy
namespace Go.Proofs.YtcibcfghkidncaaGreatDoor
open Go.RowKit Go.Lib Go.Maps
set_option maxRecDepth 100000

theorem wp_app1n {o:Oper} {a:Act} {KK:Act → World → Prop} {Q:Exit → Act → World → Prop} (w:World) (s x:Operand) (T S:TypeId) (z:Value) (bytes:Nat)
  (ho:o.op = .call { callee := .builtin .append,args := #[s,x],argTypes := #[S,S] }) (hu:Tryz.prog.underlying S = some (.slice T))
  (hinfo:(Tryz.prog.info? T).map (fun i => (i.zero,i.size,i.bytes)) = some (some z,1,bytes)) (hzs:z.cells = #[z]) (hzn:nb z)
  (B:Nat) (v:Value) (n:Nat) (xs:List Value) (hs:a.eval s = v) (hown:w.ownsRow B T 1 v n xs) (hN:NB w v)
  (u:Value) (hone:u.oneCell' = true) (hun:nb u) (g:Nat) (hx:a.eval x = .slice (some ⟨g,0,none⟩) 1 1) (hcell:w.cell? ⟨g,0,none⟩ = some u)
  (hlen:(n + 1) * bytes ≤ 140737488355328) (hlen2:n + 1 ≤ 140737488355328) (hbase:B ≤ w.heap.size)
  (h:∀ v' w',w'.ownsRow B T 1 v' (n + 1) (xs ++ [u]) → w.grownBy w' v.ownBlock → (v'.ownBlock = v.ownBlock ∨ v'.ownBlock = some w.heap.size) → NB w' v' → KK (a.put o.dst v') w'):Oper.wp Tryz.prog o a w KK Q := by
 obtain ⟨i,hi,hz0,hz1,hz2⟩ := info_parts1 hinfo
 have hcell':w.cell? ((⟨g,0,none⟩:Addr).add 0) = some u := by
  have e:(⟨g,0,none⟩:Addr).add 0 = ⟨g,0,none⟩ := by unfold Addr.add; split <;> simp_all
  rw [e]
  exact hcell
 obtain ⟨v',w',hr,h2,h3,h4,h5⟩ := run_append_own_at (P := Tryz.prog) w B S o.type T i z 1 bytes hu hi hz0 hz1 hz2 (by rw [hzs]; rfl) (by decide) v n xs hown ⟨g,0,none⟩ 1 1 [u] rfl (fun j y hj => by
  have:j = 0 := by
   have := (List.getElem?_eq_some_iff.1 hj).1
   simpa using this
  subst this
  simp at hj
  rw [← hj]
  exact hcell') (fun y hy => by rw [List.mem_singleton] at hy; rw [hy]; exact hone) (by unfold maxLen; omega) hlen hbase
 have hnb := append_nb (P := Tryz.prog) w B S o.type T i z bytes hu hi hz0 hz1 hz2 hzs hzn v n xs hown hN ⟨g,0,none⟩ 1 u hcell' hone hun (by unfold maxLen; omega) hlen hr
 unfold Oper.wp execOp
 simp only [ho,resolve,invoke,builtin,Sem.run_bind,Sem.run_pure,Result.andThen_ok,List.map_toArray,List.map_cons,List.map_nil,hs,hx,hr]
 exact h v' w' h2 h3 h5 hnb
theorem meq_some (mb:Nat) (w:World):(binOp BinOp.eql 98 (.map (some mb)) (.map none)).run Tryz.prog w = .ok (.bool false) w := by kernel_rfl
theorem meq_none (w:World):(binOp BinOp.eql 98 (.map none) (.map none)).run Tryz.prog w = .ok (.bool true) w := by kernel_rfl
theorem mk_map (w:World):(Instr.makeMap 98 none).run Tryz.prog w = .ok (.map (some w.heap.size)) (w.alloc (.map #[] 0)) := by kernel_rfl
theorem run_store_map (w:World) (a:Addr) (x:Option Nat) (m:Mode):(store a (.map x) m).run Tryz.prog w = stored Tryz.prog w a (.map x) m := run_store Tryz.prog w a _ m rfl
theorem HasMap.drew {w:World} {mb n:Nat} {f:Int → Option Value} (h:HasMap w mb n f):HasMap w.drew mb n f := h.of_block rfl
section
variable {B sb most pb:Nat} {ls:Int} {dl:Nat → Int} {dm:Nat → Option Nat} {pv tv:Value} {C:List (Nat × Nat)} {T:List Nat} {sv:Int → Value} {wo:Int → List Nat} {M:List Rs} {K:Nat}
theorem StX.slice {w:World} (h:StX w B sb most pb ls dl dm pv tv C T sv wo M K) (t:Int):∃ p c,slO (fD sv wo (dk t) t) = .slice p (wo t).length c ∧ OwnI w B (.slice p (wo t).length c) (wo t) ∧ NB w (.slice p (wo t).length c) ∧ ∀ k,(Value.slice p (wo t).length c).ownBlock = some k → wo t ≠ [] ∧ (sv t).ownBlock = some k := by
 by_cases e:wo t = []
 ·refine ⟨none,0,?_,?_,?_,fun k hk => by cases hk⟩
  ·unfold fD
   rw [if_neg (fun h => h.2 e),e]
   rfl
  ·rw [e]
   exact OwnI.nil _ _
  ·rw [e]
   exact NB.nil w
 ·obtain ⟨p,c,hv,_⟩ := owns_len (h.dsk.own t e)
  have h1 := h.dsk.own t e
  have h2 := h.dsk.nbd t e
  refine ⟨p,c,?_,by rw [← hv]; exact h1,by rw [← hv]; exact h2,fun k hk => ⟨e,by rw [hv]; exact hk⟩⟩
  unfold fD
  rw [if_pos ⟨rfl,e⟩,← hv]
  rfl
theorem StX.noted {w1:World} {t:Int} {s mb:Nat} {p:Option Addr} {c:Nat} (h:StX w1 B sb most pb ls dl dm pv tv C T sv wo M K) (h1:-9223372036854775808 ≤ t) (h2:t < 9223372036854775808) (hm:dm (dk t) = some mb) (hK:K ≤ 9000000000000000000) (_hsl:OwnI w1 B (.slice p (wo t).length c) (wo t)) (hob:∀ k,(Value.slice p (wo t).length c).ownBlock = some k → wo t ≠ [] ∧ (sv t).ownBlock = some k)
  (v6:Value) (w6:World) (h6:w6.ownsRow B 3 1 v6 ((wo t).length + 1) (icells (wo t) ++ [.int .i64 (s:Nat)])) (h7:(w1.alloc (.cells #[.int .i64 (s:Nat)] 3)).drew.grownBy w6 (Value.slice p (wo t).length c).ownBlock) (h8:v6.ownBlock = (Value.slice p (wo t).length c).ownBlock ∨ v6.ownBlock = some (w1.alloc (.cells #[.int .i64 (s:Nat)] 3)).drew.heap.size) (h9:NB w6 v6) :
  ∃ w7,(Instr.mapUpdate 98 (.map (some mb)) (.int .i64 t) v6).run Tryz.prog w6 = .ok () w7 ∧ w6.cell? ⟨sb,5 + dk t * 3 + 2,none⟩ = some (.map (some mb)) ∧ StX w7 B sb most pb ls dl dm pv tv C T (updI sv t v6) (updI wo t (wo t ++ [s])) M (K + 1) ∧ Frm w1 w7 (fun k => k = mb ∨ (wo t ≠ [] ∧ (sv t).ownBlock = some k)) := by
 have hb:Below w1.heap.size w1 (w1.alloc (.cells #[.int .i64 (s:Nat)] 3)).drew := ((Below.refl _ _).alloc (Nat.le_refl _) _).drew
 have hs1:(w1.alloc (.cells #[.int .i64 (s:Nat)] 3)).drew.heap.size = w1.heap.size + 1 := by show (w1.alloc _).heap.size = _; simp
 have hf:Frm w1 w6 (fun k => wo t ≠ [] ∧ (sv t).ownBlock = some k) := (Frm.of_below hb).trans (Frm.of_grown h7 (F := fun k => (Value.slice p (wo t).length c).ownBlock = some k) (fun g hg => .inl hg)) (fun k hk => .inl (hob k hk))
 obtain ⟨hBm,hmp⟩ := h.dsk.map _ _ (dk_lt t) hm
 have hmn:¬ (wo t ≠ [] ∧ (sv t).ownBlock = some mb) := fun e => h.sv_map e.1 e.2 (dk_lt t) hm rfl
 have hm6:HasMap w6 mb K (fD sv wo (dk t)) := hmp.of_block (hf.block mb hmp.lt hmn)
 obtain ⟨w7,hr,hm7,ht7⟩ := hm6.store (by unfold maxLen; omega) t v6 h1 h2
 have hsbn:¬ (wo t ≠ [] ∧ (sv t).ownBlock = some sb) := fun e => h.sb_sv e.1 e.2 rfl
 have hcell:w6.cell? ⟨sb,5 + dk t * 3 + 2,none⟩ = some (.map (some mb)) := by
  have := (h.deskc (dk_lt t)).2.1
  rw [hm] at this
  exact (World.cell?_of_block (a := ⟨sb,5 + dk t * 3 + 2,none⟩) (hf.block sb h.blk.lt hsbn)).trans this
 have ho6:OwnI w6 B v6 (wo t ++ [s]) := OwnI.app h6
 have hf7:Frm w6 w7 (fun k => k = mb) := Frm.of_turned ht7 (.inl rfl)
 have hfa:Frm w1 w7 (fun k => k = mb ∨ (wo t ≠ [] ∧ (sv t).ownBlock = some k)) := (hf.mono (fun k hk => .inl (.inr hk))).trans hf7 (fun k hk => .inl (.inl hk))
 have hv6:∀ g,v6.ownBlock = some g → g ≠ mb := fun g hg e => by
  subst e
  rcases h8 with h8 | h8
  ·exact hmn (hob g (h8.symm.trans hg))
  ·rw [h8] at hg
   cases hg
   have := hmp.lt
   omega
 refine ⟨w7,hr,hcell,h.deskT (t := t) (v' := v6) (L' := wo t ++ [s]) hm hfa (fun k hk => hk) (by rw [if_neg (by simp)]; exact hm7) (fun _ => owns_frm ho6 hf7 (fun g hg e => hv6 g hg e)) (fun _ => h9.frm hf7 (fun g hg => ⟨(World.ownsRow.lt ho6 g hg).2,hv6 g hg⟩)) (fun _ t' hne ht' e => ?_),hfa⟩
 rcases h8 with h8 | h8
 ·rw [h8] at e
  rcases (h.dsk.own t' ht').2 with ⟨_,h0⟩ | ⟨g,cap,cur,hv,_⟩
  ·exact ht' (List.eq_nil_of_length_eq_zero h0)
  ·have hg:(sv t').ownBlock = some g := by rw [hv]; rfl
   obtain ⟨a1,a2⟩ := hob g (e.symm.trans hg)
   exact h.dsk.ne t' t hne ht' a1 (hg.trans a2.symm)
 ·rw [h8] at e
  have := (World.ownsRow.lt (h.dsk.own t' ht') _ e).2
  omega

set_option maxHeartbeats 8000000 in
theorem note_some (t:Int) (s mb:Nat) (w1:World) (h:StX w1 B sb most pb ls dl dm pv tv C T sv wo M K) (h1:-9223372036854775808 ≤ t) (h2:t < 9223372036854775808) (hm:dm (dk t) = some mb) (hK:K ≤ 9000000000000000000) (hlen:(wo t).length ≤ 65536) :
  Calls Tryz.prog 58 #[.pointer (some ⟨sb,5 + dk t * 3,none⟩),.int .i64 t,.int .i64 (s:Nat)] w1 fun e w' => e = .returned (.tuple #[]) ∧ (∃ v,StX w' B sb most pb ls dl dm pv tv C T (updI sv t v) (updI wo t (wo t ++ [s])) M (K + 1) ∧ ∀ k,v.ownBlock = some k → stF sb dm pv tv C sv wo k ∨ w1.heap.size ≤ k) ∧ Frm w1 w' (fun k => k = mb ∨ (wo t ≠ [] ∧ (sv t).ownBlock = some k)) := by
 obtain ⟨p,c,hsl,hown,hnb,hob⟩ := h.slice t
 obtain ⟨_,c1,_,f1⟩ := h.deskc (dk_lt t)
 rw [hm] at c1
 have hsb := h.blk.lt
 have hBs:B ≤ (w1.alloc (.cells #[.int .i64 (s:Nat)] 3)).drew.heap.size := by
  show B ≤ (w1.alloc _).heap.size
  have := h.base
  simp
  omega
 obtain ⟨hBm,hmp⟩ := h.dsk.map _ _ (dk_lt t) hm
 have hbA:Below w1.heap.size w1 (w1.alloc (.cells #[.int .i64 (s:Nat)] 3)).drew := ((Below.refl _ _).alloc (Nat.le_refl _) _).drew
 have l0 := hmp.drew.look t h1 h2
 have l1 := (hmp.of_block (hbA.block mb hmp.lt)).look t h1 h2
 rw [hsl] at l0 l1
 have hnew:(w1.alloc (.cells #[.int .i64 (s:Nat)] 3)).drew.cell? ⟨w1.heap.size,0,none⟩ = some (.int .i64 (s:Nat)) := by
  show (w1.alloc _).cell? _ = _
  rw [World.cell?_alloc_new]
  rfl
 have HA:Hid ((w1.alloc (.cells #[.int .i64 (s:Nat)] 3)).drew.ownsRow B 3 1 (.slice p (wo t).length c) (wo t).length (icells (wo t)) ∧ NB (w1.alloc (.cells #[.int .i64 (s:Nat)] 3)).drew (.slice p (wo t).length c)) := ⟨owns_kept hown hbA,hnb.frm (G := none1) (Frm.of_below hbA) (fun g hg => ⟨(World.ownsRow.lt hown g hg).2,fun h => h⟩)⟩
 have HFin:Hid (∀ (v6:Value) (w6:World),w6.ownsRow B 3 1 v6 ((wo t).length + 1) (icells (wo t) ++ [.int .i64 (s:Nat)]) → (w1.alloc (.cells #[.int .i64 (s:Nat)] 3)).drew.grownBy w6 (Value.slice p (wo t).length c).ownBlock → (v6.ownBlock = (Value.slice p (wo t).length c).ownBlock ∨ v6.ownBlock = some (w1.alloc (.cells #[.int .i64 (s:Nat)] 3)).drew.heap.size) → NB w6 v6 →
   ∃ w7,(Instr.mapUpdate 98 (.map (some mb)) (.int .i64 t) v6).run Tryz.prog w6 = .ok () w7 ∧ w6.cell? ⟨sb,5 + dk t * 3 + 2,none⟩ = some (.map (some mb)) ∧ (Ending.returned (.tuple #[]) = Ending.returned (.tuple #[]) ∧ (∃ v,StX w7 B sb most pb ls dl dm pv tv C T (updI sv t v) (updI wo t (wo t ++ [s])) M (K + 1) ∧ ∀ k,v.ownBlock = some k → stF sb dm pv tv C sv wo k ∨ w1.heap.size ≤ k) ∧ Frm w1 w7 (fun k => k = mb ∨ (wo t ≠ [] ∧ (sv t).ownBlock = some k)))) := fun v6 w6 a1 a2 a3 a4 => by
  obtain ⟨w7,b1,b2,b3,b4⟩ := h.noted h1 h2 hm hK hown hob v6 w6 a1 a2 a3 a4
  exact ⟨w7,b1,b2,rfl,⟨v6,b3,fun k hk => by
   rcases a3 with a3 | a3
   ·obtain ⟨x1,x2⟩ := hob k (a3.symm.trans hk)
    exact .inl (.inr (.inr (.inr (.inr (.inr ⟨t,x1,x2⟩)))))
   ·rw [a3] at hk
    cases hk
    refine .inr ?_
    show w1.heap.size ≤ (w1.alloc _).heap.size
    simp⟩,b4⟩
 clear h hsl hown hnb hob hmp hbA hm
 have hmeq := meq_some mb w1
 generalize dk t = d at *
 generalize (wo t).length = n at *
 go_enter Tryz.func58,Tryz.ntmps58
 go_upto_region 2 with fail
 refine wp_region_any (by kernel_rfl) ?_
 change wpAny _ _ _ _ _ _ _ (World.drew _)
 refine tk (v := ?_) 0 rfl ?_ ?_
 rotate_left
 focus
  intro w9
  go_simp
  try with_reducible rfl
 try simp only [aP]
 refine tk (v := ?_) 1 rfl ?_ ?_
 rotate_left
 focus
  intro w9
  go_simp
  try with_reducible rfl
 try simp only [aP]
 refine tk (v := ?_) 2 rfl ?_ ?_
 rotate_left
 focus
  intro w9
  go_simp
  try with_reducible rfl
 try simp only [aP]
 refine tk (v := ?_) 4 rfl ?_ ?_
 rotate_left
 focus
  intro w9
  go_simp
  try with_reducible rfl
 try simp only [aP]
 refine tk (v := ?_) 5 rfl ?_ ?_
 rotate_left
 focus
  intro w9
  go_simp
  try with_reducible rfl
 try simp only [aP]
 refine tk (v := ?_) 6 rfl ?_ ?_
 rotate_left
 focus
  intro w9
  go_simp
  try with_reducible rfl
 try simp only [aP]
 refine tk (v := ?_) 7 rfl ?_ ?_
 rotate_left
 focus
  intro w9
  go_simp
  try with_reducible rfl
 try simp only [aP]
 refine tk (v := ?_) 9 rfl ?_ ?_
 rotate_left
 focus
  intro w9
  go_simp
  try with_reducible rfl
 try simp only [aP]
 refine tk (v := ?_) 11 rfl ?_ ?_
 rotate_left
 focus
  intro w9
  go_simp
  try with_reducible rfl
 try simp only [aP]
 apply laterI3 (α0 := Value) (α1 := World) (α2 := World)
 intro hs3_8_10_12_13
 apply laterI3 (α0 := Value) (α1 := World) (α2 := World)
 intro hs8_10_12_13
 apply later0
 intro hs3_8_10_12
 apply later0
 intro hs8_10_12
 apply later0
 intro hs3_8_12
 apply later0
 intro hs3_8_10
 apply later0
 intro hs8_12
 apply later0
 intro hs8_10
 apply later0
 intro hs3_12
 apply later0
 intro hs3_8
 apply later0
 intro hs12
 apply later0
 intro hs8
 apply later0
 intro hs3
 ·refine wpAny_ready (rs := [3,8,12]) (by kernel_rfl) (by simp) ?_
  refine anyN_cons 3 rfl (by rfl) (fun K hK => ?_) (anyN_cons 8 rfl (by rfl) (fun K hK => ?_) (anyN_cons 12 rfl (by rfl) (fun K hK => ?_) AllReady.nil))
  ·go_simp
   refine hK.out _ _ ?_
   clear hK K
   try simp only [aP]
   exact hs3
  ·go_simp
   refine hK.out _ _ ?_
   clear hK K
   try simp only [aP]
   exact hs8
  ·go_simp
   refine hK.out _ _ ?_
   clear hK K
   try simp only [aP]
   exact hs12
 ·refine wpAny_ready (rs := [8,12]) (by kernel_rfl) (by simp) ?_
  refine anyN_cons 8 rfl (by rfl) (fun K hK => ?_) (anyN_cons 12 rfl (by rfl) (fun K hK => ?_) AllReady.nil)
  ·go_simp
   refine hK.out _ _ ?_
   clear hK K
   try simp only [aP]
   exact hs3_8
  ·go_simp
   refine hK.out _ _ ?_
   clear hK K
   try simp only [aP]
   exact hs3_12
 ·refine wpAny_ready (rs := [3,10,12]) (by kernel_rfl) (by simp) ?_
  refine anyN_cons 3 rfl (by rfl) (fun K hK => ?_) (anyN_cons 10 rfl (by rfl) (fun K hK => ?_) (anyN_cons 12 rfl (by rfl) (fun K hK => ?_) AllReady.nil))
  ·go_simp
   refine hK.out _ _ ?_
   clear hK K
   try simp only [aP]
   exact hs3_8
  ·go_simp
   refine hK.out _ _ ?_
   clear hK K
   try simp only [aP]
   exact hs8_10
  ·go_simp
   refine hK.out _ _ ?_
   clear hK K
   try simp only [aP]
   exact hs8_12
 ·refine wpAny_ready (rs := [3,8]) (by kernel_rfl) (by simp) ?_
  refine anyN_cons 3 rfl (by rfl) (fun K hK => ?_) (anyN_cons 8 rfl (by rfl) (fun K hK => ?_) AllReady.nil)
  ·go_simp
   refine hK.out _ _ ?_
   clear hK K
   try simp only [aP]
   exact hs3_12
  ·go_simp
   refine hK.out _ _ ?_
   clear hK K
   try simp only [aP]
   exact hs8_12
 ·refine wpAny_ready (rs := [10,12]) (by kernel_rfl) (by simp) ?_
  refine anyN_cons 10 rfl (by rfl) (fun K hK => ?_) (anyN_cons 12 rfl (by rfl) (fun K hK => ?_) AllReady.nil)
  ·go_simp
   refine hK.out _ _ ?_
   clear hK K
   try simp only [aP]
   exact hs3_8_10
  ·go_simp
   refine hK.out _ _ ?_
   clear hK K
   try simp only [aP]
   exact hs3_8_12
 ·refine wpAny_ready (rs := [8]) (by kernel_rfl) (by simp) ?_
  refine anyN_cons 8 rfl (by rfl) (fun K hK => ?_) AllReady.nil
  go_simp
  refine hK.out _ _ ?_
  clear hK K
  try simp only [aP]
  exact hs3_8_12
 ·refine wpAny_ready (rs := [3,12]) (by kernel_rfl) (by simp) ?_
  refine anyN_cons 3 rfl (by rfl) (fun K hK => ?_) (anyN_cons 12 rfl (by rfl) (fun K hK => ?_) AllReady.nil)
  ·go_simp
   refine hK.out _ _ ?_
   clear hK K
   try simp only [aP]
   exact hs3_8_10
  ·go_simp
   refine hK.out _ _ ?_
   clear hK K
   try simp only [aP]
   exact hs8_10_12
 ·refine wpAny_ready (rs := [3,10]) (by kernel_rfl) (by simp) ?_
  refine anyN_cons 3 rfl (by rfl) (fun K hK => ?_) (anyN_cons 10 rfl (by rfl) (fun K hK => ?_) AllReady.nil)
  ·go_simp
   refine hK.out _ _ ?_
   clear hK K
   try simp only [aP]
   exact hs3_8_12
  ·go_simp
   refine hK.out _ _ ?_
   clear hK K
   try simp only [aP]
   exact hs8_10_12
 ·refine wpAny_ready (rs := [12]) (by kernel_rfl) (by simp) ?_
  refine anyN_cons 12 rfl (by rfl) (fun K hK => ?_) AllReady.nil
  go_simp
  refine hK.out _ _ ?_
  clear hK K
  try simp only [aP]
  exact hs3_8_10_12
 ·refine wpAny_ready (rs := [10]) (by kernel_rfl) (by simp) ?_
  refine anyN_cons 10 rfl (by rfl) (fun K hK => ?_) AllReady.nil
  go_simp
  refine hK.out _ _ ?_
  clear hK K
  try simp only [aP]
  exact hs3_8_10_12
 ·refine wpAny_ready (rs := [3,13]) (by kernel_rfl) (by simp) ?_
  refine anyN_cons 3 rfl (by rfl) (fun K hK => ?_) (anyN_cons 13 rfl (by rfl) (fun K hK => ?_) AllReady.nil)
  ·go_simp
   refine hK.out _ _ ?_
   clear hK K
   try simp only [aP]
   exact hs3_8_10_12
  ·refine wp_app1n (w1.alloc (.cells #[.int .i64 (s:Nat)] 3)).drew (.tmp 25) (.tmp 27) 3 56 _ 8 rfl Tryz.underlying56 info_int rfl (nb_int _ _) B _ _ _ (by simp only [Act.eval]; rfl) HA.out.1 HA.out.2 (.int .i64 (s:Nat)) rfl (nb_int _ _) w1.heap.size (by simp only [Act.eval]; rfl) hnew (by omega) (by omega) hBs ?_
   intro v6 w6 h6 h7 h8 h9
   obtain ⟨w7,hup,m6,hpost⟩ := HFin.out v6 w6 h6 h7 h8 h9
   clear h6 h7 h8 h9
   have HQ:Hid (_ ∧ _ ∧ _) := ⟨hup,m6,hpost⟩
   clear hup m6 hpost
   refine hK.out _ _ ?_
   clear hK K
   try simp only [aP]
   exact hs8_10_12_13 v6 w6 w7 HQ
 ·refine wpAny_ready (rs := [13]) (by kernel_rfl) (by simp) ?_
  refine anyN_cons 13 rfl (by rfl) (fun K hK => ?_) AllReady.nil
  refine wp_app1n (w1.alloc (.cells #[.int .i64 (s:Nat)] 3)).drew (.tmp 25) (.tmp 27) 3 56 _ 8 rfl Tryz.underlying56 info_int rfl (nb_int _ _) B _ _ _ (by simp only [Act.eval]; rfl) HA.out.1 HA.out.2 (.int .i64 (s:Nat)) rfl (nb_int _ _) w1.heap.size (by simp only [Act.eval]; rfl) hnew (by omega) (by omega) hBs ?_
  intro v6 w6 h6 h7 h8 h9
  obtain ⟨w7,hup,m6,hpost⟩ := HFin.out v6 w6 h6 h7 h8 h9
  clear h6 h7 h8 h9
  have HQ:Hid (_ ∧ _ ∧ _) := ⟨hup,m6,hpost⟩
  clear hup m6 hpost
  refine hK.out _ _ ?_
  clear hK K
  try simp only [aP]
  exact hs3_8_10_12_13 v6 w6 w7 HQ
 ·intro v6 w6 w7 HQ
  obtain ⟨hup,m6,hpost⟩ := HQ.out
  refine wpAny_ready (rs := [3]) (by kernel_rfl) (by simp) ?_
  refine anyN_cons 3 rfl (by rfl) (fun K hK => ?_) AllReady.nil
  go_simp
  refine hK.out _ _ ?_
  clear hK K
  try simp only [aP]
  exact hs3_8_10_12_13 v6 w6 w7 HQ
 ·intro v6 w6 w7 HQ
  obtain ⟨hup,m6,hpost⟩ := HQ.out
  refine wpAny_ready (rs := [14]) (by kernel_rfl) (by simp) ?_
  refine anyN_cons 14 rfl (by rfl) (fun K hK => ?_) AllReady.nil
  go_simp
  refine hK.out _ _ ?_
  clear hK K
  try simp only [aP]
  refine wpAny_done (by kernel_rfl) ?_ _
  go_wp2_with fail
  go_end0
  exact ⟨rfl,hpost.2⟩

set_option maxHeartbeats 8000000 in
theorem note_none (t:Int) (s:Nat) (w:World) (h0:StX w B sb most pb ls dl dm pv tv C T sv wo M K) (h1:-9223372036854775808 ≤ t) (h2:t < 9223372036854775808) (hm0:dm (dk t) = none) (hK:K ≤ 9000000000000000000) (hlen:(wo t).length ≤ 65536) :
  Calls Tryz.prog 58 #[.pointer (some ⟨sb,5 + dk t * 3,none⟩),.int .i64 t,.int .i64 (s:Nat)] w fun e w' => e = .returned (.tuple #[]) ∧ (∃ v,StX w' B sb most pb ls dl (updN dm (dk t) (some w.heap.size)) pv tv C T (updI sv t v) (updI wo t (wo t ++ [s])) M (K + 1) ∧ ∀ k,v.ownBlock = some k → w.heap.size ≤ k) ∧ Frm w w' (one1 sb) := by
 obtain ⟨_,c0,_,f0⟩ := h0.deskc (dk_lt t)
 rw [hm0] at c0
 obtain ⟨h,hfa⟩ := h0.newmap (dk_lt t) hm0
 have hbA0:Below w.heap.size w (w.alloc (.map #[] 0)) := (Below.refl _ _).alloc (Nat.le_refl _) _
 have c00:(w.alloc (.map #[] 0)).cell? ⟨sb,5 + dk t * 3 + 2,none⟩ = some (.map none) := (hbA0.cell (p := ⟨sb,_,none⟩) h0.blk.lt).trans c0
 have f00:(w.alloc (.map #[] 0)).frozen? ⟨sb,5 + dk t * 3 + 2,none⟩ = false := (hbA0.frozen (p := ⟨sb,_,none⟩) h0.blk.lt).trans f0
 have hmeq0 := meq_none w
 have hmk := mk_map w
 have hrs := run_store_map
 have hsb0 := h0.blk.lt
 have HE:Hid (wo t = []) := h0.dsk.non _ hm0 t rfl
 have hm:updN dm (dk t) (some w.heap.size) (dk t) = some w.heap.size := if_pos rfl
 have HW:Hid (StX ((w.alloc (.map #[] 0)).setCell ⟨sb,5 + dk t * 3 + 2,none⟩ (.map (some w.heap.size))) B sb most pb ls dl (updN dm (dk t) (some w.heap.size)) pv tv C T sv wo M K ∧ Frm w ((w.alloc (.map #[] 0)).setCell ⟨sb,5 + dk t * 3 + 2,none⟩ (.map (some w.heap.size))) (one1 sb)) := ⟨h,hfa⟩
 rw [World.setCell_alloc_past _ _ _ _ hsb0] at HW
 have HMM:Hid (updN dm (dk t) (some w.heap.size) (dk t) = some w.heap.size) := hm
 clear h hfa h0 hm0 hm
 go_enter Tryz.func58,Tryz.ntmps58
 go_upto_region 2 with fail
 clear c0 c00 f0 f00 hbA0 hmeq0 hmk hrs
 generalize ((w.setCell ⟨sb,5 + dk t * 3 + 2,none⟩ (.map (some w.heap.size))).alloc (.map #[] 0)) = w1 at *
 have h := HW.out.1
 have hm := HMM.out
 obtain ⟨mb,hmb⟩:∃ mb,mb = w.heap.size := ⟨_,rfl⟩
 rw [← hmb] at hm h
 rw [← hmb] at HW
 have HMB:Hid (mb = w.heap.size) := hmb
 clear hmb HMM
 obtain ⟨p,c,hsl,hown,hnb,hob⟩ := h.slice t
 obtain ⟨_,c1,_,f1⟩ := h.deskc (dk_lt t)
 rw [hm] at c1
 have hsb := h.blk.lt
 have hBs:B ≤ (w1.alloc (.cells #[.int .i64 (s:Nat)] 3)).drew.heap.size := by
  show B ≤ (w1.alloc _).heap.size
  have := h.base
  simp
  omega
 obtain ⟨hBm,hmp⟩ := h.dsk.map _ _ (dk_lt t) hm
 have hbA:Below w1.heap.size w1 (w1.alloc (.cells #[.int .i64 (s:Nat)] 3)).drew := ((Below.refl _ _).alloc (Nat.le_refl _) _).drew
 have l0 := hmp.drew.look t h1 h2
 have l1 := (hmp.of_block (hbA.block mb hmp.lt)).look t h1 h2
 rw [hsl] at l0 l1
 have hnew:(w1.alloc (.cells #[.int .i64 (s:Nat)] 3)).drew.cell? ⟨w1.heap.size,0,none⟩ = some (.int .i64 (s:Nat)) := by
  show (w1.alloc _).cell? _ = _
  rw [World.cell?_alloc_new]
  rfl
 have HA:Hid ((w1.alloc (.cells #[.int .i64 (s:Nat)] 3)).drew.ownsRow B 3 1 (.slice p (wo t).length c) (wo t).length (icells (wo t)) ∧ NB (w1.alloc (.cells #[.int .i64 (s:Nat)] 3)).drew (.slice p (wo t).length c)) := ⟨owns_kept hown hbA,hnb.frm (G := none1) (Frm.of_below hbA) (fun g hg => ⟨(World.ownsRow.lt hown g hg).2,fun h => h⟩)⟩
 have HFin:Hid (∀ (v6:Value) (w6:World),w6.ownsRow B 3 1 v6 ((wo t).length + 1) (icells (wo t) ++ [.int .i64 (s:Nat)]) → (w1.alloc (.cells #[.int .i64 (s:Nat)] 3)).drew.grownBy w6 (Value.slice p (wo t).length c).ownBlock → (v6.ownBlock = (Value.slice p (wo t).length c).ownBlock ∨ v6.ownBlock = some (w1.alloc (.cells #[.int .i64 (s:Nat)] 3)).drew.heap.size) → NB w6 v6 →
   ∃ w7,(Instr.mapUpdate 98 (.map (some mb)) (.int .i64 t) v6).run Tryz.prog w6 = .ok () w7 ∧ w6.cell? ⟨sb,5 + dk t * 3 + 2,none⟩ = some (.map (some mb)) ∧ (True ∧ (∃ v,StX w7 B sb most pb ls dl (updN dm (dk t) (some w.heap.size)) pv tv C T (updI sv t v) (updI wo t (wo t ++ [s])) M (K + 1) ∧ ∀ k,v.ownBlock = some k → w.heap.size ≤ k) ∧ Frm w w7 (one1 sb))) := fun v6 w6 a1 a2 a3 a4 => by
  obtain ⟨w7,b1,b2,b3,b4⟩ := h.noted h1 h2 hm hK hown hob v6 w6 a1 a2 a3 a4
  exact ⟨w7,b1,b2,trivial,⟨v6,by rw [← HMB.out]; exact b3,fun k hk => by
   rcases a3 with a3 | a3
   ·exact absurd HE.out (hob k (a3.symm.trans hk)).1
   ·rw [a3] at hk
    cases hk
    refine Nat.le_trans HW.out.2.size ?_
    show w1.heap.size ≤ (w1.alloc _).heap.size
    simp⟩,HW.out.2.trans b4 (fun k hk => by
   rcases hk with e5 | ⟨h5,_⟩
   ·exact .inr (by rw [e5]; rw [HMB.out]; exact Nat.le_refl _)
   ·exact absurd HE.out h5)⟩
 clear h hsl hown hnb hob hmp hbA hm
 generalize (wo t).length = n at *
 refine wp_region_any (by kernel_rfl) ?_
 change wpAny _ _ _ _ _ _ _ (World.drew _)
 refine tk (v := ?_) 0 rfl ?_ ?_
 rotate_left
 focus
  intro w9
  go_simp
  try with_reducible rfl
 try simp only [aP]
 refine tk (v := ?_) 1 rfl ?_ ?_
 rotate_left
 focus
  intro w9
  go_simp
  try with_reducible rfl
 try simp only [aP]
 refine tk (v := ?_) 2 rfl ?_ ?_
 rotate_left
 focus
  intro w9
  go_simp
  try with_reducible rfl
 try simp only [aP]
 refine tk (v := ?_) 4 rfl ?_ ?_
 rotate_left
 focus
  intro w9
  go_simp
  try with_reducible rfl
 try simp only [aP]
 refine tk (v := ?_) 5 rfl ?_ ?_
 rotate_left
 focus
  intro w9
  go_simp
  try with_reducible rfl
 try simp only [aP]
 refine tk (v := ?_) 6 rfl ?_ ?_
 rotate_left
 focus
  intro w9
  go_simp
  try with_reducible rfl
 try simp only [aP]
 refine tk (v := ?_) 7 rfl ?_ ?_
 rotate_left
 focus
  intro w9
  go_simp
  try with_reducible rfl
 try simp only [aP]
 refine tk (v := ?_) 9 rfl ?_ ?_
 rotate_left
 focus
  intro w9
  go_simp
  try with_reducible rfl
 try simp only [aP]
 refine tk (v := ?_) 11 rfl ?_ ?_
 rotate_left
 focus
  intro w9
  go_simp
  try with_reducible rfl
 try simp only [aP]
 apply laterI3 (α0 := Value) (α1 := World) (α2 := World)
 intro hs3_8_10_12_13
 apply laterI3 (α0 := Value) (α1 := World) (α2 := World)
 intro hs8_10_12_13
 apply later0
 intro hs3_8_10_12
 apply later0
 intro hs8_10_12
 apply later0
 intro hs3_8_12
 apply later0
 intro hs3_8_10
 apply later0
 intro hs8_12
 apply later0
 intro hs8_10
 apply later0
 intro hs3_12
 apply later0
 intro hs3_8
 apply later0
 intro hs12
 apply later0
 intro hs8
 apply later0
 intro hs3
 ·refine wpAny_ready (rs := [3,8,12]) (by kernel_rfl) (by simp) ?_
  refine anyN_cons 3 rfl (by rfl) (fun K hK => ?_) (anyN_cons 8 rfl (by rfl) (fun K hK => ?_) (anyN_cons 12 rfl (by rfl) (fun K hK => ?_) AllReady.nil))
  ·go_simp
   refine hK.out _ _ ?_
   clear hK K
   try simp only [aP]
   exact hs3
  ·go_simp
   refine hK.out _ _ ?_
   clear hK K
   try simp only [aP]
   exact hs8
  ·go_simp
   refine hK.out _ _ ?_
   clear hK K
   try simp only [aP]
   exact hs12
 ·refine wpAny_ready (rs := [8,12]) (by kernel_rfl) (by simp) ?_
  refine anyN_cons 8 rfl (by rfl) (fun K hK => ?_) (anyN_cons 12 rfl (by rfl) (fun K hK => ?_) AllReady.nil)
  ·go_simp
   refine hK.out _ _ ?_
   clear hK K
   try simp only [aP]
   exact hs3_8
  ·go_simp
   refine hK.out _ _ ?_
   clear hK K
   try simp only [aP]
   exact hs3_12
 ·refine wpAny_ready (rs := [3,10,12]) (by kernel_rfl) (by simp) ?_
  refine anyN_cons 3 rfl (by rfl) (fun K hK => ?_) (anyN_cons 10 rfl (by rfl) (fun K hK => ?_) (anyN_cons 12 rfl (by rfl) (fun K hK => ?_) AllReady.nil))
  ·go_simp
   refine hK.out _ _ ?_
   clear hK K
   try simp only [aP]
   exact hs3_8
  ·go_simp
   refine hK.out _ _ ?_
   clear hK K
   try simp only [aP]
   exact hs8_10
  ·go_simp
   refine hK.out _ _ ?_
   clear hK K
   try simp only [aP]
   exact hs8_12
 ·refine wpAny_ready (rs := [3,8]) (by kernel_rfl) (by simp) ?_
  refine anyN_cons 3 rfl (by rfl) (fun K hK => ?_) (anyN_cons 8 rfl (by rfl) (fun K hK => ?_) AllReady.nil)
  ·go_simp
   refine hK.out _ _ ?_
   clear hK K
   try simp only [aP]
   exact hs3_12
  ·go_simp
   refine hK.out _ _ ?_
   clear hK K
   try simp only [aP]
   exact hs8_12
 ·refine wpAny_ready (rs := [10,12]) (by kernel_rfl) (by simp) ?_
  refine anyN_cons 10 rfl (by rfl) (fun K hK => ?_) (anyN_cons 12 rfl (by rfl) (fun K hK => ?_) AllReady.nil)
  ·go_simp
   refine hK.out _ _ ?_
   clear hK K
   try simp only [aP]
   exact hs3_8_10
  ·go_simp
   refine hK.out _ _ ?_
   clear hK K
   try simp only [aP]
   exact hs3_8_12
 ·refine wpAny_ready (rs := [8]) (by kernel_rfl) (by simp) ?_
  refine anyN_cons 8 rfl (by rfl) (fun K hK => ?_) AllReady.nil
  go_simp
  refine hK.out _ _ ?_
  clear hK K
  try simp only [aP]
  exact hs3_8_12
 ·refine wpAny_ready (rs := [3,12]) (by kernel_rfl) (by simp) ?_
  refine anyN_cons 3 rfl (by rfl) (fun K hK => ?_) (anyN_cons 12 rfl (by rfl) (fun K hK => ?_) AllReady.nil)
  ·go_simp
   refine hK.out _ _ ?_
   clear hK K
   try simp only [aP]
   exact hs3_8_10
  ·go_simp
   refine hK.out _ _ ?_
   clear hK K
   try simp only [aP]
   exact hs8_10_12
 ·refine wpAny_ready (rs := [3,10]) (by kernel_rfl) (by simp) ?_
  refine anyN_cons 3 rfl (by rfl) (fun K hK => ?_) (anyN_cons 10 rfl (by rfl) (fun K hK => ?_) AllReady.nil)
  ·go_simp
   refine hK.out _ _ ?_
   clear hK K
   try simp only [aP]
   exact hs3_8_12
  ·go_simp
   refine hK.out _ _ ?_
   clear hK K
   try simp only [aP]
   exact hs8_10_12
 ·refine wpAny_ready (rs := [12]) (by kernel_rfl) (by simp) ?_
  refine anyN_cons 12 rfl (by rfl) (fun K hK => ?_) AllReady.nil
  go_simp
  refine hK.out _ _ ?_
  clear hK K
  try simp only [aP]
  exact hs3_8_10_12
 ·refine wpAny_ready (rs := [10]) (by kernel_rfl) (by simp) ?_
  refine anyN_cons 10 rfl (by rfl) (fun K hK => ?_) AllReady.nil
  go_simp
  refine hK.out _ _ ?_
  clear hK K
  try simp only [aP]
  exact hs3_8_10_12
 ·refine wpAny_ready (rs := [3,13]) (by kernel_rfl) (by simp) ?_
  refine anyN_cons 3 rfl (by rfl) (fun K hK => ?_) (anyN_cons 13 rfl (by rfl) (fun K hK => ?_) AllReady.nil)
  ·go_simp
   refine hK.out _ _ ?_
   clear hK K
   try simp only [aP]
   exact hs3_8_10_12
  ·refine wp_app1n (w1.alloc (.cells #[.int .i64 (s:Nat)] 3)).drew (.tmp 25) (.tmp 27) 3 56 _ 8 rfl Tryz.underlying56 info_int rfl (nb_int _ _) B _ _ _ (by simp only [Act.eval]; rfl) HA.out.1 HA.out.2 (.int .i64 (s:Nat)) rfl (nb_int _ _) w1.heap.size (by simp only [Act.eval]; rfl) hnew (by omega) (by omega) hBs ?_
   intro v6 w6 h6 h7 h8 h9
   obtain ⟨w7,hup,m6,hpost⟩ := HFin.out v6 w6 h6 h7 h8 h9
   clear h6 h7 h8 h9
   have HQ:Hid (_ ∧ _ ∧ _) := ⟨hup,m6,hpost⟩
   clear hup m6 hpost
   refine hK.out _ _ ?_
   clear hK K
   try simp only [aP]
   exact hs8_10_12_13 v6 w6 w7 HQ
 ·refine wpAny_ready (rs := [13]) (by kernel_rfl) (by simp) ?_
  refine anyN_cons 13 rfl (by rfl) (fun K hK => ?_) AllReady.nil
  refine wp_app1n (w1.alloc (.cells #[.int .i64 (s:Nat)] 3)).drew (.tmp 25) (.tmp 27) 3 56 _ 8 rfl Tryz.underlying56 info_int rfl (nb_int _ _) B _ _ _ (by simp only [Act.eval]; rfl) HA.out.1 HA.out.2 (.int .i64 (s:Nat)) rfl (nb_int _ _) w1.heap.size (by simp only [Act.eval]; rfl) hnew (by omega) (by omega) hBs ?_
  intro v6 w6 h6 h7 h8 h9
  obtain ⟨w7,hup,m6,hpost⟩ := HFin.out v6 w6 h6 h7 h8 h9
  clear h6 h7 h8 h9
  have HQ:Hid (_ ∧ _ ∧ _) := ⟨hup,m6,hpost⟩
  clear hup m6 hpost
  refine hK.out _ _ ?_
  clear hK K
  try simp only [aP]
  exact hs3_8_10_12_13 v6 w6 w7 HQ
 ·intro v6 w6 w7 HQ
  obtain ⟨hup,m6,hpost⟩ := HQ.out
  refine wpAny_ready (rs := [3]) (by kernel_rfl) (by simp) ?_
  refine anyN_cons 3 rfl (by rfl) (fun K hK => ?_) AllReady.nil
  go_simp
  refine hK.out _ _ ?_
  clear hK K
  try simp only [aP]
  exact hs3_8_10_12_13 v6 w6 w7 HQ
 ·intro v6 w6 w7 HQ
  obtain ⟨hup,m6,hpost⟩ := HQ.out
  refine wpAny_ready (rs := [14]) (by kernel_rfl) (by simp) ?_
  refine anyN_cons 14 rfl (by rfl) (fun K hK => ?_) AllReady.nil
  go_simp
  refine hK.out _ _ ?_
  clear hK K
  try simp only [aP]
  refine wpAny_done (by kernel_rfl) ?_ _
  go_wp2_with fail
  go_end0
  exact ⟨rfl,hpost.2⟩
end

end Go.Proofs.YtcibcfghkidncaaGreatDoor
