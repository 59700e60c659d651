/- The walk of topped. The walks of Put, Back, Fold. The walks of the document's Back and Put. The walk of MayIntent. -/
import Derived.Test.YtcibcfghkidncaaGreatDoorGWIns8
import Derived.Test.YtcibcfghkidncaaGreatDoorGWSam8
import Derived.Test.YtcibcfghkidncaaGreatDoorGFChn8
namespace Go.Proofs.YtcibcfghkidncaaGreatDoor
open Go.RowKit
set_option maxRecDepth 100000

theorem wp_app8 {o:Oper} {a:Act} {K:Act → World → Prop} {Q:Exit → Act → World → Prop} (W:World) (s x:Operand) (T S:TypeId) (z:Value) (size bytes:Nat)
  (ho:o.op = .call { callee := .builtin .append,args := #[s,x],argTypes := #[S,S] }) (hu:Tryz.prog.underlying S = some (.slice T))
  (hinfo:(Tryz.prog.info? T).map (fun i => (i.zero,i.size,i.bytes)) = some (some z,size,bytes)) (hzs:z.cells.size = size) (hsz:0 < size)
  (B:Nat) (v:Value) (n:Nat) (xs:List Value) (hs:a.eval s = v) (hown:W.ownsRow B T size v n xs)
  (us:List Value) (hus:us.length = size) (hone:∀ u ∈ us,u.oneCell' = true) (g:Nat) (hx:a.eval x = .slice (some ⟨g,0,none⟩) 1 1) (hcell:∀ (j:Nat) u,us[j]? = some u → W.cell? ⟨g,j,none⟩ = some u)
  (hlen:(n + 1) * bytes ≤ 140737488355328) (hlen2:n + 1 ≤ 140737488355328) (hbase:B ≤ W.heap.size)
  (h:∀ v' w',w'.ownsRow B T size v' (n + 1) (xs ++ us) → W.grownBy w' v.ownBlock → K (a.put o.dst v') w'):Oper.wp Tryz.prog o a W K Q := by
 obtain ⟨i,hi,hz0,hz1,hz2⟩ := info_parts1 hinfo
 refine wp_append_own _ s x S ho B T i z size bytes hu hi hz0 hz1 hz2 hzs hsz v n xs hs hown ⟨g,0,none⟩ 1 1 us hx (by omega) ?_ hone (by unfold maxLen; omega) hlen hbase ?_
 ·intro j y hj
  have e:(⟨g,0,none⟩:Addr).add j = ⟨g,j,none⟩ := by unfold Addr.add; split <;> simp_all
  rw [e]
  exact hcell j y hj
 ·intro v' w' h1 h2 _
  exact h v' w' h1 h2
theorem cell_new8 (w:World) (us:List Value) (T:TypeId) (j:Nat) (u:Value) (h:us[j]? = some u):(w.alloc (.cells us.toArray T)).cell? ⟨w.heap.size,j,none⟩ = some u := by
 rw [World.cell?_alloc_new]
 simpa using h
theorem three_one {k:IntKind} {n:Int} {g:Bool} {v:Value} (h:v.oneCell' = true):∀ u ∈ [Value.int k n,.bool g,v],u.oneCell' = true := by
 intro u hu
 simp only [List.mem_cons,List.not_mem_nil,or_false] at hu
 rcases hu with rfl | rfl | rfl
 ·rfl
 ·rfl
 ·exact h
theorem OwnRs.off {k:IntKind} {T:TypeId} {w:World} {B j i:Nat} {v:Value} {Z:List (Rw × Value)} (h:OwnRs k T w B v Z) (x:Value) (hj:j < B):OwnRs k T (w.setCell ⟨j,i,none⟩ x) B v Z := by
 refine ⟨⟨h.1.1,?_⟩,fun z hz => (h.2 z hz).off x hj⟩
 rcases h.1.2 with h1 | ⟨g,cap,cur,e,hb',hg,r⟩
 ·exact .inl h1
 ·exact .inr ⟨g,cap,cur,e,hb',(heap_setCell_other w _ g x (by show g ≠ j; omega)).trans hg,r⟩

set_option maxHeartbeats 8000000 in
theorem topped_any (W:List Rw) (p:Option Addr) (c:Nat) (tx n:Int) (g:Bool) (row:List Vl) (q:Option Addr) (d:Nat) (w:World) (hR:RdR .i64 w w.heap.size p W) (hV:SlV w w.heap.size (.slice q row.length d) row) (hlen:W.length ≤ 3518437208882) (hsh:shortR W) (hrow:row.length ≤ 3518437208882) :
  Calls Tryz.prog 94 #[.agg #[.int .i64 tx,.slice p W.length c],.agg #[.int .i64 n,.bool g,.slice q row.length d]] w fun e w' => (∃ v Z,e = .returned (.agg #[.int .i64 tx,v]) ∧ Z.map Prod.fst = belL W n ++ [⟨n,g,row⟩] ∧ OwnRs .i64 38 w' w.heap.size v Z) ∧ Below w.heap.size w w' := by
 have HR:Hid (∀ w1,Below w.heap.size w w1 → RdR .i64 w1 w1.heap.size p W) := fun w1 h => hR.on h
 have HV:Hid (∀ w1,Below w.heap.size w w1 → SlV w1 w1.heap.size (.slice q row.length d) row) := fun w1 h => (hV.keep h).mono h.size
 have C6:Hid (∀ w1,Below w.heap.size w w1 → Calls Tryz.prog 121 #[.slice p W.length c,.int .i64 n] w1 fun e w' => (∃ v Z,e = .returned v ∧ Z.map Prod.fst = belL W n ∧ OwnRs .i64 38 w' w1.heap.size v Z) ∧ Below w1.heap.size w1 w') := fun w1 h => below_any W p c n w1 (HR.out w1 h) hlen hsh
 have C8:Hid (∀ w1,Below w.heap.size w w1 → Calls Tryz.prog 133 #[.agg #[.int .i64 n,.bool g,.slice q row.length d]] w1 fun e w' => (∃ v',e = .returned (.agg #[.int .i64 n,.bool g,v']) ∧ OwnV w' w1.heap.size v' row) ∧ Below w1.heap.size w1 w') := fun w1 h => ownWrite_any _ _ _ _ w1 (HV.out w1 h) hrow
 have HC:Hid (∀ v,rcell .i64 (⟨n,g,row⟩,v) = [.int .i64 n,.bool g,v]) := fun v => rfl
 have HBl:Hid ((belL W n).length ≤ W.length) := belL_len W n
 clear hR hV hsh hrow HR HV
 generalize row.length = rl at *
 have hx1 := ((Box.new w #[.int .i64 tx,.slice p W.length c] 75).on ((Below.refl _ _).alloc (Nat.le_refl _) (.cells #[.int .i64 n,.bool g,.slice q rl d] 38))).on ((Below.refl _ _).alloc (Nat.le_refl _) (.cells #[.int .i64 0,.slice none 0 0] 75))
 have hx2 := (Box.new (w.alloc (.cells #[.int .i64 tx,.slice p W.length c] 75)) #[.int .i64 n,.bool g,.slice q rl d] 38).on ((Below.refl _ _).alloc (Nat.le_refl _) (.cells #[.int .i64 0,.slice none 0 0] 75))
 have hx3 := Box.new ((w.alloc (.cells #[.int .i64 tx,.slice p W.length c] 75)).alloc (.cells #[.int .i64 n,.bool g,.slice q rl d] 38)) #[.int .i64 0,.slice none 0 0] 75
 have hs1:(w.alloc (.cells #[.int .i64 tx,.slice p W.length c] 75)).heap.size = w.heap.size + 1 := by simp [go_sem]
 have hs2:((w.alloc (.cells #[.int .i64 tx,.slice p W.length c] 75)).alloc (.cells #[.int .i64 n,.bool g,.slice q rl d] 38)).heap.size = w.heap.size + 1 + 1 := by simp [go_sem]
 have hs3:(((w.alloc (.cells #[.int .i64 tx,.slice p W.length c] 75)).alloc (.cells #[.int .i64 n,.bool g,.slice q rl d] 38)).alloc (.cells #[.int .i64 0,.slice none 0 0] 75)).heap.size = w.heap.size + 3 := by simp [go_sem]
 rw [hs1] at hx2
 rw [hs2] at hx3
 have HB0:Hid (Below w.heap.size w (((w.alloc (.cells #[.int .i64 tx,.slice p W.length c] 75)).alloc (.cells #[.int .i64 n,.bool g,.slice q rl d] 38)).alloc (.cells #[.int .i64 0,.slice none 0 0] 75)) ∧ (((w.alloc (.cells #[.int .i64 tx,.slice p W.length c] 75)).alloc (.cells #[.int .i64 n,.bool g,.slice q rl d] 38)).alloc (.cells #[.int .i64 0,.slice none 0 0] 75)).heap.size = w.heap.size + 3) := ⟨by go_grown,hs3⟩
 have HX0:Hid (Box (((w.alloc (.cells #[.int .i64 tx,.slice p W.length c] 75)).alloc (.cells #[.int .i64 n,.bool g,.slice q rl d] 38)).alloc (.cells #[.int .i64 0,.slice none 0 0] 75)) w.heap.size #[.int .i64 tx,.slice p W.length c] 75 ∧ Box (((w.alloc (.cells #[.int .i64 tx,.slice p W.length c] 75)).alloc (.cells #[.int .i64 n,.bool g,.slice q rl d] 38)).alloc (.cells #[.int .i64 0,.slice none 0 0] 75)) (w.heap.size + 1) #[.int .i64 n,.bool g,.slice q rl d] 38 ∧ Box (((w.alloc (.cells #[.int .i64 tx,.slice p W.length c] 75)).alloc (.cells #[.int .i64 n,.bool g,.slice q rl d] 38)).alloc (.cells #[.int .i64 0,.slice none 0 0] 75)) (w.heap.size + 1 + 1) #[.int .i64 0,.slice none 0 0] 75) := ⟨hx1,hx2,hx3⟩
 clear hx1 hx2 hx3 hs1 hs2 hs3
 go_enter Tryz.func94,Tryz.ntmps94
 go_wp2_with fail
 generalize (((w.alloc (.cells #[.int .i64 tx,.slice p W.length c] 75)).alloc (.cells #[.int .i64 n,.bool g,.slice q rl d] 38)).alloc (.cells #[.int .i64 0,.slice none 0 0] 75)) = w3 at *
 refine wp_region_L (fun w' => Box w' w.heap.size #[.int .i64 tx,.slice p W.length c] 75 ∧ Box w' (w.heap.size + 1) #[.int .i64 n,.bool g,.slice q rl d] 38 ∧ Box w' (w.heap.size + 1 + 1) #[.int .i64 0,.slice none 0 0] 75) 12 (by kernel_rfl) ?_
 have hS0:Box w3.drew w.heap.size #[.int .i64 tx,.slice p W.length c] 75 ∧ Box w3.drew (w.heap.size + 1) #[.int .i64 n,.bool g,.slice q rl d] 38 ∧ Box w3.drew (w.heap.size + 1 + 1) #[.int .i64 0,.slice none 0 0] 75 := HX0.out
 have HBd:Hid (Below w.heap.size w w3.drew ∧ w3.drew.heap.size = w.heap.size + 3) := ⟨HB0.out.1.drew,HB0.out.2⟩
 clear HX0 HB0
 refine wpL_take (v := ?_) 0 rfl (by kernel_rfl) (fun _ _ _ h => h) (by rfl) ?_ hS0 ?_
 rotate_left
 focus
  intro w9 hw9
  obtain ⟨a0,a1,_,_⟩ := box2 hw9.1
  obtain ⟨⟨b0,b1,b2⟩,_⟩ := box3 hw9.2.1
  go_simp
  try with_reducible rfl
 try simp only [Act.put,List.setIfInBounds_toArray,List.set_cons_zero,List.set_cons_succ]
 refine wpL_take (v := ?_) 1 rfl (by kernel_rfl) (fun _ _ _ h => h) (by rfl) ?_ hS0 ?_
 rotate_left
 focus
  intro w9 hw9
  obtain ⟨a0,a1,_,_⟩ := box2 hw9.1
  obtain ⟨⟨b0,b1,b2⟩,_⟩ := box3 hw9.2.1
  go_simp
  try with_reducible rfl
 try simp only [Act.put,List.setIfInBounds_toArray,List.set_cons_zero,List.set_cons_succ]
 refine wpL_take (v := ?_) 2 rfl (by kernel_rfl) (fun _ _ _ h => h) (by rfl) ?_ hS0 ?_
 rotate_left
 focus
  intro w9 hw9
  obtain ⟨a0,a1,_,_⟩ := box2 hw9.1
  obtain ⟨⟨b0,b1,b2⟩,_⟩ := box3 hw9.2.1
  go_simp
  try with_reducible rfl
 try simp only [Act.put,List.setIfInBounds_toArray,List.set_cons_zero,List.set_cons_succ]
 refine wpL_take (v := ?_) 3 rfl (by kernel_rfl) (fun _ _ _ h => h) (by rfl) ?_ hS0 ?_
 rotate_left
 focus
  intro w9 hw9
  obtain ⟨a0,a1,_,_⟩ := box2 hw9.1
  obtain ⟨⟨b0,b1,b2⟩,_⟩ := box3 hw9.2.1
  go_simp
  try with_reducible rfl
 try simp only [Act.put,List.setIfInBounds_toArray,List.set_cons_zero,List.set_cons_succ]
 refine wpL_take (v := ?_) 4 rfl (by kernel_rfl) (fun _ _ _ h => h) (by rfl) ?_ hS0 ?_
 rotate_left
 focus
  intro w9 hw9
  obtain ⟨a0,a1,_,_⟩ := box2 hw9.1
  obtain ⟨⟨b0,b1,b2⟩,_⟩ := box3 hw9.2.1
  go_simp
  try with_reducible rfl
 try simp only [Act.put,List.setIfInBounds_toArray,List.set_cons_zero,List.set_cons_succ]
 refine wpL_take (v := ?_) 5 rfl (by kernel_rfl) (fun _ _ _ h => h) (by rfl) ?_ hS0 ?_
 rotate_left
 focus
  intro w9 hw9
  obtain ⟨a0,a1,_,_⟩ := box2 hw9.1
  obtain ⟨⟨b0,b1,b2⟩,_⟩ := box3 hw9.2.1
  go_simp
  try with_reducible rfl
 try simp only [Act.put,List.setIfInBounds_toArray,List.set_cons_zero,List.set_cons_succ]
 refine wpL_take (v := ?_) 7 rfl (by kernel_rfl) (fun _ _ _ h => h) (by rfl) ?_ hS0 ?_
 rotate_left
 focus
  intro w9 hw9
  obtain ⟨a0,a1,_,_⟩ := box2 hw9.1
  obtain ⟨⟨b0,b1,b2⟩,_⟩ := box3 hw9.2.1
  go_simp
  try with_reducible rfl
 try simp only [Act.put,List.setIfInBounds_toArray,List.set_cons_zero,List.set_cons_succ]
 refine wpL_one 6 rfl (by kernel_rfl) (by rfl) ?_
 intro K hK
 go_simp
 refine (C6.out _ HBd.out.1).mono ?_
 rintro e w5 ⟨⟨v5,Z5,rfl,hZ5,hO5⟩,hb5⟩
 dsimp only
 obtain ⟨p5,c5,rfl,_⟩ := owns_len hO5.1
 have hS5:Box w5 w.heap.size #[.int .i64 tx,.slice p W.length c] 75 ∧ Box w5 (w.heap.size + 1) #[.int .i64 n,.bool g,.slice q rl d] 38 ∧ Box w5 (w.heap.size + 1 + 1) #[.int .i64 0,.slice none 0 0] 75 := ⟨hS0.1.on hb5,hS0.2.1.on hb5,hS0.2.2.on hb5⟩
 have HB5:Hid (Below w.heap.size w w5) := HBd.out.1.trans (hb5.mono HBd.out.1.size)
 have HO5:Hid (OwnRs .i64 38 w5 (w.heap.size + 3) (.slice p5 Z5.length c5) Z5 ∧ Z5.map Prod.fst = belL W n) := ⟨hO5.base (by rw [HBd.out.2]; exact Nat.le_refl _),hZ5⟩
 have HS5:Hid (w.heap.size + 3 ≤ w5.heap.size) := by have := hb5.size; rw [HBd.out.2] at this; exact this
 clear hb5 hO5 hZ5 HBd hS0
 refine hK.out _ _ (fun _ => hS5) ?_
 clear hK K
 try simp only [Act.put,List.setIfInBounds_toArray,List.set_cons_zero,List.set_cons_succ]
 refine wpL_one 8 rfl (by kernel_rfl) (by rfl) ?_
 intro K hK
 go_simp
 refine (C8.out _ HB5.out).mono ?_
 rintro e w6 ⟨⟨v6,rfl,ho6⟩,hb6⟩
 dsimp only
 obtain ⟨q6,c6,rfl,_⟩ := ho6.sl
 have hS6:Box w6 w.heap.size #[.int .i64 tx,.slice p W.length c] 75 ∧ Box w6 (w.heap.size + 1) #[.int .i64 n,.bool g,.slice q rl d] 38 ∧ Box w6 (w.heap.size + 1 + 1) #[.int .i64 0,.slice none 0 0] 75 := ⟨hS5.1.on hb6,hS5.2.1.on hb6,hS5.2.2.on hb6⟩
 have HB6:Hid (Below w.heap.size w w6) := HB5.out.trans (hb6.mono HB5.out.size)
 have HO6:Hid (OwnRs .i64 38 w6 (w.heap.size + 3) (.slice p5 Z5.length c5) Z5 ∧ Z5.map Prod.fst = belL W n) := ⟨HO5.out.1.kept hb6,HO5.out.2⟩
 have HV6:Hid (OwnV w6 (w.heap.size + 3) (.slice q6 row.length c6) row) := ho6.base HS5.out
 have HS6:Hid (w.heap.size + 3 ≤ w6.heap.size) := Nat.le_trans HS5.out hb6.size
 clear hb6 ho6 hS5 HB5 HO5 HS5
 refine hK.out _ _ (fun _ => hS6) ?_
 clear hK K
 try simp only [Act.put,List.setIfInBounds_toArray,List.set_cons_zero,List.set_cons_succ]
 refine wpL_one 9 rfl (by kernel_rfl) (by rfl) ?_
 intro K hK
 go_simp
 have hba:Below w6.heap.size w6 (w6.alloc (.cells #[.int .i64 n,.bool g,.slice q6 row.length c6] 38)) := (Below.refl _ _).alloc (Nat.le_refl _) _
 have hS7:Box (w6.alloc (.cells #[.int .i64 n,.bool g,.slice q6 row.length c6] 38)) w.heap.size #[.int .i64 tx,.slice p W.length c] 75 ∧ Box (w6.alloc (.cells #[.int .i64 n,.bool g,.slice q6 row.length c6] 38)) (w.heap.size + 1) #[.int .i64 n,.bool g,.slice q rl d] 38 ∧ Box (w6.alloc (.cells #[.int .i64 n,.bool g,.slice q6 row.length c6] 38)) (w.heap.size + 1 + 1) #[.int .i64 0,.slice none 0 0] 75 := ⟨hS6.1.on hba,hS6.2.1.on hba,hS6.2.2.on hba⟩
 refine hK.out _ _ (fun _ => hS7) ?_
 clear hK K
 try simp only [Act.put,List.setIfInBounds_toArray,List.set_cons_zero,List.set_cons_succ]
 refine wpL_one 10 rfl (by kernel_rfl) (by rfl) ?_
 intro K hK
 have hZl:Z5.length ≤ W.length := by
  have := congrArg List.length HO6.out.2
  rw [List.length_map] at this
  rw [this]
  exact HBl.out
 refine wp_app8 _ (.tmp 11) (.tmp 14) 38 73 _ 3 40 rfl Tryz.underlying73 info_wri rfl (by decide) (w.heap.size + 3) _ Z5.length (Z5.flatMap (rcell .i64)) (by rfl) (HO6.out.1.kept hba).1 [.int .i64 n,.bool g,.slice q6 row.length c6] rfl (three_one rfl) w6.heap.size (by rfl) (cell_new8 w6 _ _) (by omega) (by omega) (Nat.le_trans HS6.out hba.size) ?_
 intro v8 w8 h8 h9
 have hb68:Below (w.heap.size + 3) (w6.alloc (.cells #[.int .i64 n,.bool g,.slice q6 row.length c6] 38)) w8 := (Below.refl _ _).grown h9 (Nat.le_trans HS6.out hba.size) (fun k hk => ((HO6.out.1.kept hba).1.lt k hk).1)
 have HO8:Hid (OwnRs .i64 38 w8 (w.heap.size + 3) v8 (Z5 ++ [(⟨n,g,row⟩,.slice q6 row.length c6)])) := HO6.out.1.app (z := (⟨n,g,row⟩,.slice q6 row.length c6)) HV6.out (by decide) (by rw [HC.out]; exact h8) (by rw [HC.out]; exact h9)
 have hS8:Box w8 w.heap.size #[.int .i64 tx,.slice p W.length c] 75 ∧ Box w8 (w.heap.size + 1) #[.int .i64 n,.bool g,.slice q rl d] 38 ∧ Box w8 (w.heap.size + 1 + 1) #[.int .i64 0,.slice none 0 0] 75 := ⟨hS7.1.keep hb68 (by omega),hS7.2.1.keep hb68 (by omega),hS7.2.2.keep hb68 (by omega)⟩
 have HB8:Hid (Below w.heap.size w w8) := (HB6.out.trans (hba.mono HB6.out.size)).trans (hb68.mono (by omega))
 clear h8 h9 hb68
 obtain ⟨p8,c8,e8,_⟩ := owns_len HO8.out.1
 rw [show (Z5 ++ [((⟨n,g,row⟩:Rw),Value.slice q6 row.length c6)]).length = Z5.length + 1 by simp] at e8
 subst e8
 refine hK.out _ _ (fun _ => hS8) ?_
 clear hK K hba hS7 hS6
 try simp only [Act.put,List.setIfInBounds_toArray,List.set_cons_zero,List.set_cons_succ]
 refine wpL_take (v := ?_) 11 rfl (by kernel_rfl) (fun _ _ _ h => h) (by rfl) ?_ hS8 ?_
 rotate_left
 focus
  intro w9 hw9
  go_simp
  try with_reducible rfl
 try simp only [Act.put,List.setIfInBounds_toArray,List.set_cons_zero,List.set_cons_succ]
 refine wpL_one 12 rfl (by kernel_rfl) (by rfl) ?_
 intro K hK
 obtain ⟨z0,z1,z2,z3⟩ := box2 hS8.2.2
 go_simp
 refine hK.out _ _ (fun h => absurd rfl h) ?_
 clear hK K
 refine wpL_done (by kernel_rfl) ?_ _
 refine NoPanic.normal ?_
 have hZ := (hS8.2.2.set (i := 0) (.int .i64 tx)).set (i := 1) (.slice p8 (Z5.length + 1) c8)
 have hN4 := (HO8.out.off (i := 0) (.int .i64 tx) (show w.heap.size + 1 + 1 < w.heap.size + 3 by omega)).off (i := 1) (.slice p8 (Z5.length + 1) c8) (show w.heap.size + 1 + 1 < w.heap.size + 3 by omega)
 have hB4 := (HB8.out.setCell (p := ⟨w.heap.size + 1 + 1,0,none⟩) (show w.heap.size ≤ w.heap.size + 1 + 1 by omega) (.int .i64 tx)).setCell (p := ⟨w.heap.size + 1 + 1,1,none⟩) (show w.heap.size ≤ w.heap.size + 1 + 1 by omega) (.slice p8 (Z5.length + 1) c8)
 have HZm:Hid ((Z5 ++ [((⟨n,g,row⟩:Rw),Value.slice q6 row.length c6)]).map Prod.fst = belL W n ++ [⟨n,g,row⟩]) := by
  show _ = _
  rw [List.map_append,HO6.out.2]
  rfl
 generalize (Z5 ++ [((⟨n,g,row⟩:Rw),Value.slice q6 row.length c6)]) = Z8 at *
 generalize (w8.setCell ⟨w.heap.size + 1 + 1,0,none⟩ (.int .i64 tx)).setCell ⟨w.heap.size + 1 + 1,1,none⟩ (.slice p8 (Z5.length + 1) c8) = w9 at *
 obtain ⟨y0,y1,_⟩ := box2 hZ
 go_wp2_with fail
 (try simp only [Exit.inBlock,Exit.then])
 refine bodyPost_ret (v := .agg #[.int .i64 tx,.slice p8 (Z5.length + 1) c8]) (by simp [results,Tryz.results94,go_sem,y0,y1]) rfl ?_
 exact ⟨⟨_,Z8,rfl,HZm.out,hN4.base (by omega)⟩,hB4⟩

end Go.Proofs.YtcibcfghkidncaaGreatDoor

namespace Go.Proofs.YtcibcfghkidncaaGreatDoor
open Go.RowKit
set_option maxRecDepth 100000

def putB (tx:Int) (W:List Rw) (v:Rw):Bool := decide (v.n < 0) || abvL W v.n || (v.gn && decide (0 < v.row.length)) || decide (tx < 1)
def putE (tx:Int) (W:List Rw) (v:Rw):Int := if putB tx W v then 1 else 0
def putT (tx:Int) (W:List Rw) (v:Rw):Int := if putB tx W v then 0 else tx
def putL (tx:Int) (W:List Rw) (v:Rw):List Rw := if putB tx W v then [] else belL W v.n ++ [v]
theorem put_bad {tx:Int} {W:List Rw} {v:Rw} (h:putB tx W v = true):putE tx W v = 1 ∧ putT tx W v = 0 ∧ putL tx W v = [] := by
 unfold putE putT putL
 rw [h]
 exact ⟨rfl,rfl,rfl⟩
theorem put_ok {tx:Int} {W:List Rw} {v:Rw} (h:putB tx W v = false):putE tx W v = 0 ∧ putT tx W v = tx ∧ putL tx W v = belL W v.n ++ [v] := by
 unfold putE putT putL
 rw [h]
 exact ⟨rfl,rfl,rfl⟩
def bakT (tx:Int) (W:List Rw) (s:Int):Int := if (belL W s).length = 0 then 0 else tx
def fldE (s:Int):Int := if s < 1 then 1 else 0
def fldT (tx s:Int):Int := if s < 1 then 0 else tx
def fldL (W:List Rw) (s:Int):List Rw := if s < 1 then [] else if abvL W (s - 1) then (match W[W.length - 1]? with | none => [] | some v => belL W (s - 1) ++ [⟨s - 1,v.gn,v.row⟩]) else belL W s
theorem abv_len {W:List Rw} {s:Int} (h:abvL W s = true):0 < W.length := by
 cases W with
 | nil => cases h
 | cons => simp

set_option maxHeartbeats 8000000 in
theorem put_any (W:List Rw) (p:Option Addr) (c:Nat) (tx n:Int) (g:Bool) (row:List Vl) (q:Option Addr) (d:Nat) (w:World) (hR:RdR .i64 w w.heap.size p W) (hV:SlV w w.heap.size (.slice q row.length d) row) (hlen:W.length ≤ 3518437208882) (hsh:shortR W) (hrow:row.length ≤ 3518437208882) :
  Calls Tryz.prog 56 #[.agg #[.int .i64 tx,.slice p W.length c],.agg #[.int .i64 n,.bool g,.slice q row.length d]] w fun e w' => (∃ v Z,e = .returned (.tuple #[.agg #[.int .i64 (putT tx W ⟨n,g,row⟩),v],.int .i64 (putE tx W ⟨n,g,row⟩)]) ∧ Z.map Prod.fst = putL tx W ⟨n,g,row⟩ ∧ OwnRs .i64 38 w' w.heap.size v Z) ∧ Below w.heap.size w w' := by
 have HR:Hid (∀ w1,Below w.heap.size w w1 → RdR .i64 w1 w1.heap.size p W) := fun w1 h => hR.on h
 have HV:Hid (∀ w1,Below w.heap.size w w1 → SlV w1 w1.heap.size (.slice q row.length d) row) := fun w1 h => (hV.keep h).mono h.size
 have CA:Hid (∀ w1,Below w.heap.size w w1 → Calls Tryz.prog 92 #[.slice p W.length c,.int .i64 n] w1 fun e w' => e = .returned (.bool (abvL W n)) ∧ Below w1.heap.size w1 w') := fun w1 h => above_any W p c n w1 (HR.out w1 h) (by omega)
 have CG:Hid (∀ w1:World,Calls Tryz.prog 93 #[.bool g,.slice q row.length d] w1 fun e w' => e = .returned (.bool (g && decide (0 < row.length))) ∧ w' = w1) := fun w1 => gone_any _ _ _ _ w1
 have CT:Hid (∀ w1,Below w.heap.size w w1 → Calls Tryz.prog 94 #[.agg #[.int .i64 tx,.slice p W.length c],.agg #[.int .i64 n,.bool g,.slice q row.length d]] w1 fun e w' => (∃ v Z,e = .returned (.agg #[.int .i64 tx,v]) ∧ Z.map Prod.fst = belL W n ++ [⟨n,g,row⟩] ∧ OwnRs .i64 38 w' w1.heap.size v Z) ∧ Below w1.heap.size w1 w') := fun w1 h => topped_any W p c tx n g row q d w1 (HR.out w1 h) (HV.out w1 h) hlen hsh hrow
 have HPB:Hid (putB tx W ⟨n,g,row⟩ = (decide (n < 0) || abvL W n || (g && decide (0 < row.length)) || decide (tx < 1))) := rfl
 have HBad:Hid (putB tx W ⟨n,g,row⟩ = true → putE tx W ⟨n,g,row⟩ = 1 ∧ putT tx W ⟨n,g,row⟩ = 0 ∧ putL tx W ⟨n,g,row⟩ = []) := put_bad
 have HOk:Hid (putB tx W ⟨n,g,row⟩ = false → putE tx W ⟨n,g,row⟩ = 0 ∧ putT tx W ⟨n,g,row⟩ = tx ∧ putL tx W ⟨n,g,row⟩ = belL W n ++ [⟨n,g,row⟩]) := put_ok
 clear hR hV hsh hrow HR HV
 generalize row.length = rl at *
 generalize abvL W n = ab at *
 generalize putB tx W ⟨n,g,row⟩ = pb at *
 generalize putE tx W ⟨n,g,row⟩ = pe at *
 generalize putT tx W ⟨n,g,row⟩ = pt at *
 generalize putL tx W ⟨n,g,row⟩ = pl at *
 have hx1 := ((Box.new w #[.int .i64 tx,.slice p W.length c] 75).on ((Below.refl _ _).alloc (Nat.le_refl _) (.cells #[.int .i64 n,.bool g,.slice q rl d] 38))).on ((Below.refl _ _).alloc (Nat.le_refl _) (.cells #[.int .i64 0,.slice none 0 0] 75))
 have hx2 := (Box.new (w.alloc (.cells #[.int .i64 tx,.slice p W.length c] 75)) #[.int .i64 n,.bool g,.slice q rl d] 38).on ((Below.refl _ _).alloc (Nat.le_refl _) (.cells #[.int .i64 0,.slice none 0 0] 75))
 have hx3 := Box.new ((w.alloc (.cells #[.int .i64 tx,.slice p W.length c] 75)).alloc (.cells #[.int .i64 n,.bool g,.slice q rl d] 38)) #[.int .i64 0,.slice none 0 0] 75
 have hs1:(w.alloc (.cells #[.int .i64 tx,.slice p W.length c] 75)).heap.size = w.heap.size + 1 := by simp [go_sem]
 have hs2:((w.alloc (.cells #[.int .i64 tx,.slice p W.length c] 75)).alloc (.cells #[.int .i64 n,.bool g,.slice q rl d] 38)).heap.size = w.heap.size + 1 + 1 := by simp [go_sem]
 have hs3:(((w.alloc (.cells #[.int .i64 tx,.slice p W.length c] 75)).alloc (.cells #[.int .i64 n,.bool g,.slice q rl d] 38)).alloc (.cells #[.int .i64 0,.slice none 0 0] 75)).heap.size = w.heap.size + 3 := by simp [go_sem]
 rw [hs1] at hx2
 rw [hs2] at hx3
 have HB0:Hid (Below w.heap.size w (((w.alloc (.cells #[.int .i64 tx,.slice p W.length c] 75)).alloc (.cells #[.int .i64 n,.bool g,.slice q rl d] 38)).alloc (.cells #[.int .i64 0,.slice none 0 0] 75)) ∧ (((w.alloc (.cells #[.int .i64 tx,.slice p W.length c] 75)).alloc (.cells #[.int .i64 n,.bool g,.slice q rl d] 38)).alloc (.cells #[.int .i64 0,.slice none 0 0] 75)).heap.size = w.heap.size + 3) := ⟨by go_grown,hs3⟩
 have HX0:Hid (Box (((w.alloc (.cells #[.int .i64 tx,.slice p W.length c] 75)).alloc (.cells #[.int .i64 n,.bool g,.slice q rl d] 38)).alloc (.cells #[.int .i64 0,.slice none 0 0] 75)) w.heap.size #[.int .i64 tx,.slice p W.length c] 75 ∧ Box (((w.alloc (.cells #[.int .i64 tx,.slice p W.length c] 75)).alloc (.cells #[.int .i64 n,.bool g,.slice q rl d] 38)).alloc (.cells #[.int .i64 0,.slice none 0 0] 75)) (w.heap.size + 1) #[.int .i64 n,.bool g,.slice q rl d] 38 ∧ Box (((w.alloc (.cells #[.int .i64 tx,.slice p W.length c] 75)).alloc (.cells #[.int .i64 n,.bool g,.slice q rl d] 38)).alloc (.cells #[.int .i64 0,.slice none 0 0] 75)) (w.heap.size + 1 + 1) #[.int .i64 0,.slice none 0 0] 75) := ⟨hx1,hx2,hx3⟩
 clear hx1 hx2 hx3 hs1 hs2 hs3
 cases h1:decide (n < 0) with
 | true =>
  have hpb:pb = true := HPB.out.trans (by rw [h1]; rfl)
  subst hpb
  obtain ⟨e1,e2,e3⟩ := HBad.out rfl
  subst e1 e2 e3
  clear HPB HBad HOk
  go_enter Tryz.func56,Tryz.ntmps56
  go_wp2_with fail
  obtain ⟨y0,y1,_⟩ := box2 HX0.out.2.2
  (try simp only [Exit.inBlock,Exit.then])
  refine bodyPost_ret (v := .tuple #[.agg #[.int .i64 0,.slice none 0 0],.int .i64 1]) (by simp [results,Tryz.results56,go_sem,y0,y1]) rfl ?_
  exact ⟨⟨_,[],rfl,rfl,OwnRs.nil _ _ _ _⟩,HB0.out.1⟩
 | false =>
  cases ab with
  | true =>
   have hpb:pb = true := HPB.out.trans (by rw [h1]; rfl)
   subst hpb
   obtain ⟨e1,e2,e3⟩ := HBad.out rfl
   subst e1 e2 e3
   clear HPB HBad HOk
   go_enter Tryz.func56,Tryz.ntmps56
   go_wp2_with fail
   generalize (((w.alloc (.cells #[.int .i64 tx,.slice p W.length c] 75)).alloc (.cells #[.int .i64 n,.bool g,.slice q rl d] 38)).alloc (.cells #[.int .i64 0,.slice none 0 0] 75)) = w3 at *
   refine (CA.out _ HB0.out.1).mono ?_
   rintro e w4 ⟨rfl,hb4⟩
   have HB4:Hid (Below w.heap.size w w4) := HB0.out.1.trans (hb4.mono HB0.out.1.size)
   have HX4:Hid (Box w4 w.heap.size #[.int .i64 tx,.slice p W.length c] 75 ∧ Box w4 (w.heap.size + 1) #[.int .i64 n,.bool g,.slice q rl d] 38 ∧ Box w4 (w.heap.size + 1 + 1) #[.int .i64 0,.slice none 0 0] 75) := ⟨HX0.out.1.on hb4,HX0.out.2.1.on hb4,HX0.out.2.2.on hb4⟩
   have HS4:Hid (w.heap.size + 3 ≤ w4.heap.size) := by have := hb4.size; rw [HB0.out.2] at this; exact this
   obtain ⟨a0,a1,_,_⟩ := box2 HX4.out.1
   obtain ⟨⟨b0,b1,b2⟩,_⟩ := box3 HX4.out.2.1
   obtain ⟨d0,d1,d2,d3⟩ := box2 HX4.out.2.2
   clear hb4 HB0 HX0
   go_wp2_with fail
   have hZ := (HX4.out.2.2.set (i := 0) (.int .i64 0)).set (i := 1) (.slice none 0 0)
   have hB := (HB4.out.setCell (p := ⟨w.heap.size + 1 + 1,0,none⟩) (show w.heap.size ≤ w.heap.size + 1 + 1 by omega) (.int .i64 0)).setCell (p := ⟨w.heap.size + 1 + 1,1,none⟩) (show w.heap.size ≤ w.heap.size + 1 + 1 by omega) (.slice none 0 0)
   generalize (w4.setCell ⟨w.heap.size + 1 + 1,0,none⟩ (.int .i64 0)).setCell ⟨w.heap.size + 1 + 1,1,none⟩ (.slice none 0 0) = w9 at *
   obtain ⟨y0,y1,_⟩ := box2 hZ
   (try simp only [Exit.inBlock,Exit.then])
   refine bodyPost_ret (v := .tuple #[.agg #[.int .i64 0,.slice none 0 0],.int .i64 1]) (by simp [results,Tryz.results56,go_sem,y0,y1]) rfl ?_
   exact ⟨⟨_,[],rfl,rfl,OwnRs.nil _ _ _ _⟩,hB⟩
  | false =>
   cases h3:(g && decide (0 < rl)) with
   | true =>
    have hpb:pb = true := HPB.out.trans (by rw [h1,h3]; rfl)
    subst hpb
    obtain ⟨e1,e2,e3⟩ := HBad.out rfl
    subst e1 e2 e3
    rw [h3] at CG
    clear HPB HBad HOk h3
    go_enter Tryz.func56,Tryz.ntmps56
    go_wp2_with fail
    generalize (((w.alloc (.cells #[.int .i64 tx,.slice p W.length c] 75)).alloc (.cells #[.int .i64 n,.bool g,.slice q rl d] 38)).alloc (.cells #[.int .i64 0,.slice none 0 0] 75)) = w3 at *
    refine (CA.out _ HB0.out.1).mono ?_
    rintro e w4 ⟨rfl,hb4⟩
    have HB4:Hid (Below w.heap.size w w4) := HB0.out.1.trans (hb4.mono HB0.out.1.size)
    have HX4:Hid (Box w4 w.heap.size #[.int .i64 tx,.slice p W.length c] 75 ∧ Box w4 (w.heap.size + 1) #[.int .i64 n,.bool g,.slice q rl d] 38 ∧ Box w4 (w.heap.size + 1 + 1) #[.int .i64 0,.slice none 0 0] 75) := ⟨HX0.out.1.on hb4,HX0.out.2.1.on hb4,HX0.out.2.2.on hb4⟩
    have HS4:Hid (w.heap.size + 3 ≤ w4.heap.size) := by have := hb4.size; rw [HB0.out.2] at this; exact this
    obtain ⟨a0,a1,_,_⟩ := box2 HX4.out.1
    obtain ⟨⟨b0,b1,b2⟩,_⟩ := box3 HX4.out.2.1
    obtain ⟨d0,d1,d2,d3⟩ := box2 HX4.out.2.2
    clear hb4 HB0 HX0
    go_wp2_with fail
    refine (CG.out _).mono ?_
    rintro e w5 ⟨rfl,hw5⟩
    obtain rfl := hw5.symm
    go_wp2_with fail
    have hZ := (HX4.out.2.2.set (i := 0) (.int .i64 0)).set (i := 1) (.slice none 0 0)
    have hB := (HB4.out.setCell (p := ⟨w.heap.size + 1 + 1,0,none⟩) (show w.heap.size ≤ w.heap.size + 1 + 1 by omega) (.int .i64 0)).setCell (p := ⟨w.heap.size + 1 + 1,1,none⟩) (show w.heap.size ≤ w.heap.size + 1 + 1 by omega) (.slice none 0 0)
    generalize (w4.setCell ⟨w.heap.size + 1 + 1,0,none⟩ (.int .i64 0)).setCell ⟨w.heap.size + 1 + 1,1,none⟩ (.slice none 0 0) = w9 at *
    obtain ⟨y0,y1,_⟩ := box2 hZ
    (try simp only [Exit.inBlock,Exit.then])
    refine bodyPost_ret (v := .tuple #[.agg #[.int .i64 0,.slice none 0 0],.int .i64 1]) (by simp [results,Tryz.results56,go_sem,y0,y1]) rfl ?_
    exact ⟨⟨_,[],rfl,rfl,OwnRs.nil _ _ _ _⟩,hB⟩
   | false =>
    rw [h3] at CG
    cases h4:decide (tx < 1) with
    | true =>
     have hpb:pb = true := HPB.out.trans (by rw [h1,h3,h4]; rfl)
     subst hpb
     obtain ⟨e1,e2,e3⟩ := HBad.out rfl
     subst e1 e2 e3
     clear HPB HBad HOk h3
     go_enter Tryz.func56,Tryz.ntmps56
     go_wp2_with fail
     generalize (((w.alloc (.cells #[.int .i64 tx,.slice p W.length c] 75)).alloc (.cells #[.int .i64 n,.bool g,.slice q rl d] 38)).alloc (.cells #[.int .i64 0,.slice none 0 0] 75)) = w3 at *
     refine (CA.out _ HB0.out.1).mono ?_
     rintro e w4 ⟨rfl,hb4⟩
     have HB4:Hid (Below w.heap.size w w4) := HB0.out.1.trans (hb4.mono HB0.out.1.size)
     have HX4:Hid (Box w4 w.heap.size #[.int .i64 tx,.slice p W.length c] 75 ∧ Box w4 (w.heap.size + 1) #[.int .i64 n,.bool g,.slice q rl d] 38 ∧ Box w4 (w.heap.size + 1 + 1) #[.int .i64 0,.slice none 0 0] 75) := ⟨HX0.out.1.on hb4,HX0.out.2.1.on hb4,HX0.out.2.2.on hb4⟩
     have HS4:Hid (w.heap.size + 3 ≤ w4.heap.size) := by have := hb4.size; rw [HB0.out.2] at this; exact this
     obtain ⟨a0,a1,_,_⟩ := box2 HX4.out.1
     obtain ⟨⟨b0,b1,b2⟩,_⟩ := box3 HX4.out.2.1
     obtain ⟨d0,d1,d2,d3⟩ := box2 HX4.out.2.2
     clear hb4 HB0 HX0
     go_wp2_with fail
     refine (CG.out _).mono ?_
     rintro e w5 ⟨rfl,hw5⟩
     obtain rfl := hw5.symm
     go_wp2_with fail
     have hZ := (HX4.out.2.2.set (i := 0) (.int .i64 0)).set (i := 1) (.slice none 0 0)
     have hB := (HB4.out.setCell (p := ⟨w.heap.size + 1 + 1,0,none⟩) (show w.heap.size ≤ w.heap.size + 1 + 1 by omega) (.int .i64 0)).setCell (p := ⟨w.heap.size + 1 + 1,1,none⟩) (show w.heap.size ≤ w.heap.size + 1 + 1 by omega) (.slice none 0 0)
     generalize (w4.setCell ⟨w.heap.size + 1 + 1,0,none⟩ (.int .i64 0)).setCell ⟨w.heap.size + 1 + 1,1,none⟩ (.slice none 0 0) = w9 at *
     obtain ⟨y0,y1,_⟩ := box2 hZ
     (try simp only [Exit.inBlock,Exit.then])
     refine bodyPost_ret (v := .tuple #[.agg #[.int .i64 0,.slice none 0 0],.int .i64 1]) (by simp [results,Tryz.results56,go_sem,y0,y1]) rfl ?_
     exact ⟨⟨_,[],rfl,rfl,OwnRs.nil _ _ _ _⟩,hB⟩
    | false =>
     have hpb:pb = false := HPB.out.trans (by rw [h1,h3,h4]; rfl)
     subst hpb
     obtain ⟨e1,e2,e3⟩ := HOk.out rfl
     rw [e1,e2,e3]
     clear HPB HBad HOk h3 e1 e2 e3
     go_enter Tryz.func56,Tryz.ntmps56
     go_wp2_with fail
     generalize (((w.alloc (.cells #[.int .i64 tx,.slice p W.length c] 75)).alloc (.cells #[.int .i64 n,.bool g,.slice q rl d] 38)).alloc (.cells #[.int .i64 0,.slice none 0 0] 75)) = w3 at *
     refine (CA.out _ HB0.out.1).mono ?_
     rintro e w4 ⟨rfl,hb4⟩
     have HB4:Hid (Below w.heap.size w w4) := HB0.out.1.trans (hb4.mono HB0.out.1.size)
     have HX4:Hid (Box w4 w.heap.size #[.int .i64 tx,.slice p W.length c] 75 ∧ Box w4 (w.heap.size + 1) #[.int .i64 n,.bool g,.slice q rl d] 38 ∧ Box w4 (w.heap.size + 1 + 1) #[.int .i64 0,.slice none 0 0] 75) := ⟨HX0.out.1.on hb4,HX0.out.2.1.on hb4,HX0.out.2.2.on hb4⟩
     have HS4:Hid (w.heap.size + 3 ≤ w4.heap.size) := by have := hb4.size; rw [HB0.out.2] at this; exact this
     obtain ⟨a0,a1,_,_⟩ := box2 HX4.out.1
     obtain ⟨⟨b0,b1,b2⟩,_⟩ := box3 HX4.out.2.1
     obtain ⟨d0,d1,d2,d3⟩ := box2 HX4.out.2.2
     clear hb4 HB0 HX0
     go_wp2_with fail
     refine (CG.out _).mono ?_
     rintro e w5 ⟨rfl,hw5⟩
     obtain rfl := hw5.symm
     go_wp2_with fail
     refine (CT.out _ HB4.out).mono ?_
     rintro e w6 ⟨⟨v6,Z6,rfl,hZ6,hO6⟩,hb6⟩
     obtain ⟨p6,c6,rfl,_⟩ := owns_len hO6.1
     have hX6 := HX4.out.2.2.on hb6
     obtain ⟨z0,z1,z2,z3⟩ := box2 hX6
     have HX6:Hid (Box w6 (w.heap.size + 1 + 1) #[.int .i64 0,.slice none 0 0] 75) := hX6
     have HB6:Hid (Below w.heap.size w w6) := HB4.out.trans (hb6.mono HB4.out.size)
     have HO6:Hid (OwnRs .i64 38 w6 (w.heap.size + 3) (.slice p6 Z6.length c6) Z6 ∧ Z6.map Prod.fst = belL W n ++ [⟨n,g,row⟩]) := ⟨hO6.base HS4.out,hZ6⟩
     clear hb6 hO6 hZ6 hX6
     go_wp2_with fail
     have hZ := (HX6.out.set (i := 0) (.int .i64 tx)).set (i := 1) (.slice p6 Z6.length c6)
     have hN := (HO6.out.1.off (i := 0) (.int .i64 tx) (show w.heap.size + 1 + 1 < w.heap.size + 3 by omega)).off (i := 1) (.slice p6 Z6.length c6) (show w.heap.size + 1 + 1 < w.heap.size + 3 by omega)
     have hB := (HB6.out.setCell (p := ⟨w.heap.size + 1 + 1,0,none⟩) (show w.heap.size ≤ w.heap.size + 1 + 1 by omega) (.int .i64 tx)).setCell (p := ⟨w.heap.size + 1 + 1,1,none⟩) (show w.heap.size ≤ w.heap.size + 1 + 1 by omega) (.slice p6 Z6.length c6)
     generalize (w6.setCell ⟨w.heap.size + 1 + 1,0,none⟩ (.int .i64 tx)).setCell ⟨w.heap.size + 1 + 1,1,none⟩ (.slice p6 Z6.length c6) = w9 at *
     obtain ⟨y0,y1,_⟩ := box2 hZ
     (try simp only [Exit.inBlock,Exit.then])
     refine bodyPost_ret (v := .tuple #[.agg #[.int .i64 tx,.slice p6 Z6.length c6],.int .i64 0]) (by simp [results,Tryz.results56,go_sem,y0,y1]) rfl ?_
     exact ⟨⟨_,Z6,rfl,HO6.out.2,hN.base (by omega)⟩,hB⟩

set_option maxHeartbeats 8000000 in
theorem back_any (W:List Rw) (p:Option Addr) (c:Nat) (tx s:Int) (w:World) (hR:RdR .i64 w w.heap.size p W) (hlen:W.length ≤ 3518437208882) (hsh:shortR W) :
  Calls Tryz.prog 89 #[.agg #[.int .i64 tx,.slice p W.length c],.int .i64 s] w fun e w' => (∃ v Z,e = .returned (.agg #[.int .i64 (bakT tx W s),v]) ∧ Z.map Prod.fst = belL W s ∧ OwnRs .i64 38 w' w.heap.size v Z) ∧ Below w.heap.size w w' := by
 have HR:Hid (∀ w1,Below w.heap.size w w1 → RdR .i64 w1 w1.heap.size p W) := fun w1 h => hR.on h
 have CB:Hid (∀ w1,Below w.heap.size w w1 → Calls Tryz.prog 121 #[.slice p W.length c,.int .i64 s] w1 fun e w' => (∃ v Z,e = .returned v ∧ Z.map Prod.fst = belL W s ∧ OwnRs .i64 38 w' w1.heap.size v Z) ∧ Below w1.heap.size w1 w') := fun w1 h => below_any W p c s w1 (HR.out w1 h) hlen hsh
 have HT:Hid (bakT tx W s = if (belL W s).length = 0 then 0 else tx) := rfl
 clear hR hsh HR
 generalize bakT tx W s = bt at *
 generalize belL W s = M at *
 have hx1 := (Box.new w #[.int .i64 tx,.slice p W.length c] 75).on ((Below.refl _ _).alloc (Nat.le_refl _) (.cells #[.int .i64 0,.slice none 0 0] 75))
 have hx3 := Box.new (w.alloc (.cells #[.int .i64 tx,.slice p W.length c] 75)) #[.int .i64 0,.slice none 0 0] 75
 have hs1:(w.alloc (.cells #[.int .i64 tx,.slice p W.length c] 75)).heap.size = w.heap.size + 1 := by simp [go_sem]
 have hs3:((w.alloc (.cells #[.int .i64 tx,.slice p W.length c] 75)).alloc (.cells #[.int .i64 0,.slice none 0 0] 75)).heap.size = w.heap.size + 1 + 1 := by simp [go_sem]
 rw [hs1] at hx3
 have HB0:Hid (Below w.heap.size w ((w.alloc (.cells #[.int .i64 tx,.slice p W.length c] 75)).alloc (.cells #[.int .i64 0,.slice none 0 0] 75)) ∧ ((w.alloc (.cells #[.int .i64 tx,.slice p W.length c] 75)).alloc (.cells #[.int .i64 0,.slice none 0 0] 75)).heap.size = w.heap.size + 1 + 1) := ⟨by go_grown,hs3⟩
 have HX0:Hid (Box ((w.alloc (.cells #[.int .i64 tx,.slice p W.length c] 75)).alloc (.cells #[.int .i64 0,.slice none 0 0] 75)) w.heap.size #[.int .i64 tx,.slice p W.length c] 75 ∧ Box ((w.alloc (.cells #[.int .i64 tx,.slice p W.length c] 75)).alloc (.cells #[.int .i64 0,.slice none 0 0] 75)) (w.heap.size + 1) #[.int .i64 0,.slice none 0 0] 75) := ⟨hx1,hx3⟩
 clear hx1 hx3 hs1 hs3
 go_enter Tryz.func89,Tryz.ntmps89
 go_wp2_with fail
 generalize ((w.alloc (.cells #[.int .i64 tx,.slice p W.length c] 75)).alloc (.cells #[.int .i64 0,.slice none 0 0] 75)) = w3 at *
 refine (CB.out _ HB0.out.1).mono ?_
 rintro e w4 ⟨⟨v4,Z4,rfl,hZ4,hO4⟩,hb4⟩
 have HB4:Hid (Below w.heap.size w w4) := HB0.out.1.trans (hb4.mono HB0.out.1.size)
 have HX4:Hid (Box w4 w.heap.size #[.int .i64 tx,.slice p W.length c] 75 ∧ Box w4 (w.heap.size + 1) #[.int .i64 0,.slice none 0 0] 75) := ⟨HX0.out.1.on hb4,HX0.out.2.on hb4⟩
 have HO4:Hid (OwnRs .i64 38 w4 (w.heap.size + 1 + 1) v4 Z4 ∧ Z4.map Prod.fst = M) := ⟨hO4.base (by rw [HB0.out.2]; exact Nat.le_refl _),hZ4⟩
 have hZl:Z4.length = M.length := by
  have := congrArg List.length hZ4
  simpa using this
 obtain ⟨p4,c4,rfl,_⟩ := owns_len hO4.1
 obtain ⟨a0,a1,_,_⟩ := box2 HX4.out.1
 obtain ⟨d0,d1,d2,d3⟩ := box2 HX4.out.2
 clear hb4 HB0 HX0 hO4 hZ4
 obtain ⟨m,hm⟩:∃ m,Z4.length = m := ⟨_,rfl⟩
 rw [hm]
 by_cases h0:m = 0
 ·have HT2:Hid (bt = 0) := HT.out.trans (if_pos (by omega))
  have hM0:Hid (M = [] ∧ True) := ⟨List.eq_nil_of_length_eq_zero (by omega),trivial⟩
  subst h0
  go_wp2_with fail
  have hZ := (HX4.out.2.set (i := 0) (.int .i64 0)).set (i := 1) (.slice none 0 0)
  have hB := (HB4.out.setCell (p := ⟨w.heap.size + 1,0,none⟩) (Nat.le_succ _) (.int .i64 0)).setCell (p := ⟨w.heap.size + 1,1,none⟩) (Nat.le_succ _) (.slice none 0 0)
  generalize (w4.setCell ⟨w.heap.size + 1,0,none⟩ (.int .i64 0)).setCell ⟨w.heap.size + 1,1,none⟩ (.slice none 0 0) = w9 at *
  obtain ⟨y0,y1,_⟩ := box2 hZ
  (try simp only [Exit.inBlock,Exit.then])
  refine bodyPost_ret (v := .agg #[.int .i64 0,.slice none 0 0]) (by simp [results,Tryz.results89,go_sem,y0,y1]) rfl ?_
  exact ⟨⟨_,[],by rw [HT2.out],by rw [hM0.out.1]; rfl,OwnRs.nil _ _ _ _⟩,hB⟩
 ·have HT2:Hid (bt = tx) := HT.out.trans (if_neg (by omega))
  have hmb:((m:Int) == 0) = false := beq_eq_false_iff_ne.2 (by omega)
  have Hm:Hid (Z4.length = m) := hm
  rw [hm] at HO4
  clear hm h0 hZl
  go_wp2_with fail
  have hZ := (HX4.out.2.set (i := 0) (.int .i64 tx)).set (i := 1) (.slice p4 m c4)
  have hN := (HO4.out.1.off (i := 0) (.int .i64 tx) (show w.heap.size + 1 < w.heap.size + 1 + 1 by omega)).off (i := 1) (.slice p4 m c4) (show w.heap.size + 1 < w.heap.size + 1 + 1 by omega)
  have hB := (HB4.out.setCell (p := ⟨w.heap.size + 1,0,none⟩) (Nat.le_succ _) (.int .i64 tx)).setCell (p := ⟨w.heap.size + 1,1,none⟩) (Nat.le_succ _) (.slice p4 m c4)
  generalize (w4.setCell ⟨w.heap.size + 1,0,none⟩ (.int .i64 tx)).setCell ⟨w.heap.size + 1,1,none⟩ (.slice p4 m c4) = w9 at *
  obtain ⟨y0,y1,_⟩ := box2 hZ
  (try simp only [Exit.inBlock,Exit.then])
  refine bodyPost_ret (v := .agg #[.int .i64 tx,.slice p4 m c4]) (by simp [results,Tryz.results89,go_sem,y0,y1]) rfl ?_
  exact ⟨⟨_,Z4,by rw [HT2.out],HO4.out.2,hN.base (by omega)⟩,hB⟩

set_option maxHeartbeats 8000000 in
theorem fold_any (W:List Rw) (p:Option Addr) (c:Nat) (tx s:Int) (w:World) (hR:RdR .i64 w w.heap.size p W) (hlen:W.length ≤ 3518437208882) (hsh:shortR W) (hs:s ≤ 9223372036854775807) :
  Calls Tryz.prog 104 #[.agg #[.int .i64 tx,.slice p W.length c],.int .i64 s] w fun e w' => (∃ v Z,e = .returned (.tuple #[.agg #[.int .i64 (fldT tx s),v],.int .i64 (fldE s)]) ∧ Z.map Prod.fst = fldL W s ∧ OwnRs .i64 38 w' w.heap.size v Z) ∧ Below w.heap.size w w' := by
 have HR:Hid (∀ w1,Below w.heap.size w w1 → RdR .i64 w1 w1.heap.size p W) := fun w1 h => hR.on h
 have HS:Hid (shortR W) := hsh
 have CB:Hid (∀ w1,Below w.heap.size w w1 → Calls Tryz.prog 121 #[.slice p W.length c,.int .i64 s] w1 fun e w' => (∃ v Z,e = .returned v ∧ Z.map Prod.fst = belL W s ∧ OwnRs .i64 38 w' w1.heap.size v Z) ∧ Below w1.heap.size w1 w') := fun w1 h => below_any W p c s w1 (HR.out w1 h) hlen hsh
 have CA:Hid (∀ w1,Below w.heap.size w w1 → Calls Tryz.prog 92 #[.slice p W.length c,.int .i64 (s - 1)] w1 fun e w' => e = .returned (.bool (abvL W (s - 1))) ∧ Below w1.heap.size w1 w') := fun w1 h => above_any W p c (s - 1) w1 (HR.out w1 h) (by omega)
 have HF:Hid (fldL W s = if s < 1 then [] else if abvL W (s - 1) then (match W[W.length - 1]? with | none => [] | some v => belL W (s - 1) ++ [⟨s - 1,v.gn,v.row⟩]) else belL W s) := rfl
 clear hR
 have hx1 := (Box.new w #[.int .i64 tx,.slice p W.length c] 75).on ((Below.refl _ _).alloc (Nat.le_refl _) (.cells #[.int .i64 0,.slice none 0 0] 75))
 have hx3 := Box.new (w.alloc (.cells #[.int .i64 tx,.slice p W.length c] 75)) #[.int .i64 0,.slice none 0 0] 75
 have hs1:(w.alloc (.cells #[.int .i64 tx,.slice p W.length c] 75)).heap.size = w.heap.size + 1 := by simp [go_sem]
 have hs3:((w.alloc (.cells #[.int .i64 tx,.slice p W.length c] 75)).alloc (.cells #[.int .i64 0,.slice none 0 0] 75)).heap.size = w.heap.size + 1 + 1 := by simp [go_sem]
 rw [hs1] at hx3
 have HB0:Hid (Below w.heap.size w ((w.alloc (.cells #[.int .i64 tx,.slice p W.length c] 75)).alloc (.cells #[.int .i64 0,.slice none 0 0] 75)) ∧ ((w.alloc (.cells #[.int .i64 tx,.slice p W.length c] 75)).alloc (.cells #[.int .i64 0,.slice none 0 0] 75)).heap.size = w.heap.size + 1 + 1) := ⟨by go_grown,hs3⟩
 have HX0:Hid (Box ((w.alloc (.cells #[.int .i64 tx,.slice p W.length c] 75)).alloc (.cells #[.int .i64 0,.slice none 0 0] 75)) w.heap.size #[.int .i64 tx,.slice p W.length c] 75 ∧ Box ((w.alloc (.cells #[.int .i64 tx,.slice p W.length c] 75)).alloc (.cells #[.int .i64 0,.slice none 0 0] 75)) (w.heap.size + 1) #[.int .i64 0,.slice none 0 0] 75) := ⟨hx1,hx3⟩
 clear hx1 hx3 hs1 hs3
 by_cases h1:s < 1
 ·have HF2:Hid (fldL W s = []) := HF.out.trans (if_pos h1)
  have HE2:Hid (fldE s = 1 ∧ fldT tx s = 0) := ⟨if_pos h1,if_pos h1⟩
  rw [HF2.out,HE2.out.1,HE2.out.2]
  clear HF HF2 HE2
  go_enter Tryz.func104,Tryz.ntmps104
  go_wp2_with fail
  obtain ⟨y0,y1,_⟩ := box2 HX0.out.2
  (try simp only [Exit.inBlock,Exit.then])
  refine bodyPost_ret (v := .tuple #[.agg #[.int .i64 0,.slice none 0 0],.int .i64 1]) (by simp [results,Tryz.results104,go_sem,y0,y1]) rfl ?_
  exact ⟨⟨_,[],rfl,rfl,OwnRs.nil _ _ _ _⟩,HB0.out.1⟩
 ·have HF2 := HF.out.trans (if_neg h1)
  have HE2:Hid (fldE s = 0 ∧ fldT tx s = tx) := ⟨if_neg h1,if_neg h1⟩
  rw [HE2.out.1,HE2.out.2]
  have h1':1 ≤ s := by omega
  clear HF HE2 h1
  cases hab:abvL W (s - 1) with
  | false =>
   rw [hab] at HF2 CA
   rw [show fldL W s = belL W s from HF2]
   clear HF2 hab HS
   generalize belL W s = M at *
   go_enter Tryz.func104,Tryz.ntmps104
   go_wp2_with fail
   generalize ((w.alloc (.cells #[.int .i64 tx,.slice p W.length c] 75)).alloc (.cells #[.int .i64 0,.slice none 0 0] 75)) = w3 at *
   refine (CA.out _ HB0.out.1).mono ?_
   rintro e w4 ⟨rfl,hb4⟩
   have HB4:Hid (Below w.heap.size w w4) := HB0.out.1.trans (hb4.mono HB0.out.1.size)
   have HX4:Hid (Box w4 w.heap.size #[.int .i64 tx,.slice p W.length c] 75 ∧ Box w4 (w.heap.size + 1) #[.int .i64 0,.slice none 0 0] 75) := ⟨HX0.out.1.on hb4,HX0.out.2.on hb4⟩
   have HS4:Hid (w.heap.size + 1 + 1 ≤ w4.heap.size) := by have := hb4.size; rw [HB0.out.2] at this; exact this
   clear hb4 HB0 HX0 CA
   go_wp2_with fail
   refine wp_region_L (fun w' => Box w' w.heap.size #[.int .i64 tx,.slice p W.length c] 75) 8 (by kernel_rfl) ?_
   have hS0:Box w4.drew w.heap.size #[.int .i64 tx,.slice p W.length c] 75 := HX4.out.1
   have HBd:Hid (Below w.heap.size w w4.drew) := HB4.out.drew
   refine wpL_take (v := ?_) 0 rfl (by kernel_rfl) (fun _ _ _ h => h) (by rfl) ?_ hS0 ?_
   rotate_left
   focus
    intro w9 hw9
    obtain ⟨a0,a1,_,_⟩ := box2 hw9
    go_simp
    try with_reducible rfl
   try simp only [Act.put,List.setIfInBounds_toArray,List.set_cons_zero,List.set_cons_succ]
   refine wpL_take (v := ?_) 1 rfl (by kernel_rfl) (fun _ _ _ h => h) (by rfl) ?_ hS0 ?_
   rotate_left
   focus
    intro w9 hw9
    obtain ⟨a0,a1,_,_⟩ := box2 hw9
    go_simp
    try with_reducible rfl
   try simp only [Act.put,List.setIfInBounds_toArray,List.set_cons_zero,List.set_cons_succ]
   refine wpL_take (v := ?_) 2 rfl (by kernel_rfl) (fun _ _ _ h => h) (by rfl) ?_ hS0 ?_
   rotate_left
   focus
    intro w9 hw9
    obtain ⟨a0,a1,_,_⟩ := box2 hw9
    go_simp
    try with_reducible rfl
   try simp only [Act.put,List.setIfInBounds_toArray,List.set_cons_zero,List.set_cons_succ]
   refine wpL_take (v := ?_) 3 rfl (by kernel_rfl) (fun _ _ _ h => h) (by rfl) ?_ hS0 ?_
   rotate_left
   focus
    intro w9 hw9
    obtain ⟨a0,a1,_,_⟩ := box2 hw9
    go_simp
    try with_reducible rfl
   try simp only [Act.put,List.setIfInBounds_toArray,List.set_cons_zero,List.set_cons_succ]
   refine wpL_take (v := ?_) 4 rfl (by kernel_rfl) (fun _ _ _ h => h) (by rfl) ?_ hS0 ?_
   rotate_left
   focus
    intro w9 hw9
    obtain ⟨a0,a1,_,_⟩ := box2 hw9
    go_simp
    try with_reducible rfl
   try simp only [Act.put,List.setIfInBounds_toArray,List.set_cons_zero,List.set_cons_succ]
   refine wpL_one 5 rfl (by kernel_rfl) (by rfl) ?_
   intro K hK
   go_simp
   refine (CB.out _ HBd.out).mono ?_
   rintro e w5 ⟨⟨v5,Z5,rfl,hZ5,hO5⟩,hb5⟩
   dsimp only
   obtain ⟨p5,c5,rfl,_⟩ := owns_len hO5.1
   have hS5:Box w5 w.heap.size #[.int .i64 tx,.slice p W.length c] 75 := hS0.on hb5
   have hY5:Box w5 (w.heap.size + 1) #[.int .i64 0,.slice none 0 0] 75 := Box.on (w := w4.drew) HX4.out.2 hb5
   have HB5:Hid (Below w.heap.size w w5) := HBd.out.trans (hb5.mono HBd.out.size)
   have HO5:Hid (OwnRs .i64 38 w5 (w.heap.size + 1 + 1) (.slice p5 Z5.length c5) Z5 ∧ Z5.map Prod.fst = M) := ⟨hO5.base HS4.out,hZ5⟩
   clear hb5 hO5 hZ5 HBd hS0
   refine hK.out _ _ (fun _ => hS5) ?_
   clear hK K
   try simp only [Act.put,List.setIfInBounds_toArray,List.set_cons_zero,List.set_cons_succ]
   refine wpL_take (v := ?_) 6 rfl (by kernel_rfl) (fun _ _ _ h => h) (by rfl) ?_ hS5 ?_
   rotate_left
   focus
    intro w9 hw9
    go_simp
    try with_reducible rfl
   try simp only [Act.put,List.setIfInBounds_toArray,List.set_cons_zero,List.set_cons_succ]
   refine wpL_one 7 rfl (by kernel_rfl) (by rfl) ?_
   intro K hK
   obtain ⟨z0,z1,z2,z3⟩ := box2 hY5
   go_simp
   refine hK.out _ _ (fun _ => (hS5.off _ (by omega)).off _ (by omega)) ?_
   clear hK K
   try simp only [Act.put,List.setIfInBounds_toArray,List.set_cons_zero,List.set_cons_succ]
   refine wpL_one 8 rfl (by kernel_rfl) (by rfl) ?_
   intro K hK
   go_simp
   refine hK.out _ _ (fun h => absurd rfl h) ?_
   clear hK K
   refine wpL_done (by kernel_rfl) ?_ _
   refine NoPanic.normal ?_
   have hZ := (hY5.set (i := 0) (.int .i64 tx)).set (i := 1) (.slice p5 Z5.length c5)
   have hN := (HO5.out.1.off (i := 0) (.int .i64 tx) (show w.heap.size + 1 < w.heap.size + 1 + 1 by omega)).off (i := 1) (.slice p5 Z5.length c5) (show w.heap.size + 1 < w.heap.size + 1 + 1 by omega)
   have hB := (HB5.out.setCell (p := ⟨w.heap.size + 1,0,none⟩) (Nat.le_succ _) (.int .i64 tx)).setCell (p := ⟨w.heap.size + 1,1,none⟩) (Nat.le_succ _) (.slice p5 Z5.length c5)
   generalize (w5.setCell ⟨w.heap.size + 1,0,none⟩ (.int .i64 tx)).setCell ⟨w.heap.size + 1,1,none⟩ (.slice p5 Z5.length c5) = w9 at *
   obtain ⟨y0,y1,_⟩ := box2 hZ
   go_wp2_with fail
   (try simp only [Exit.inBlock,Exit.then])
   refine bodyPost_ret (v := .tuple #[.agg #[.int .i64 tx,.slice p5 Z5.length c5],.int .i64 0]) (by simp [results,Tryz.results104,go_sem,y0,y1]) rfl ?_
   exact ⟨⟨_,Z5,rfl,HO5.out.2,hN.base (by omega)⟩,hB⟩
  | true =>
   have hW0 := abv_len hab
   obtain ⟨m,hm⟩:∃ m,W.length = m + 1 := ⟨W.length - 1,by omega⟩
   have hm1:m < W.length := by omega
   rw [hab] at HF2 CA
   have HF3:Hid (fldL W s = belL W (s - 1) ++ [⟨s - 1,W[m].gn,W[m].row⟩]) := by
    show _ = _
    refine HF2.trans ?_
    rw [if_pos rfl,hm,Nat.add_sub_cancel,List.getElem?_eq_getElem hm1]
   rw [HF3.out]
   obtain ⟨b,o,q,d,hp,hbB,c0,c1,c2,hr,hq⟩ := HR.out w (Below.refl _ _) m hm1
   have CT:Hid (∀ w1,Below w.heap.size w w1 → Calls Tryz.prog 94 #[.agg #[.int .i64 tx,.slice p W.length c],.agg #[.int .i64 (s - 1),.bool W[m].gn,.slice q W[m].row.length d]] w1 fun e w' => (∃ v Z,e = .returned (.agg #[.int .i64 tx,v]) ∧ Z.map Prod.fst = belL W (s - 1) ++ [⟨s - 1,W[m].gn,W[m].row⟩] ∧ OwnRs .i64 38 w' w1.heap.size v Z) ∧ Below w1.heap.size w1 w') := fun w1 h => topped_any W p c tx (s - 1) W[m].gn W[m].row q d w1 (HR.out w1 h) ((SlV.keep ⟨q,d,rfl,hr,hq⟩ h).mono h.size) hlen hsh (HS.out m hm1)
   clear HF2 HF3 hab hr hq HS HR
   generalize belL W (s - 1) ++ [⟨s - 1,W[m].gn,W[m].row⟩] = M at *
   generalize W[m].n = xn at *
   generalize W[m].gn = xg at *
   generalize W[m].row.length = xl at *
   subst hp
   have Hm:Hid (W.length = m + 1) := hm
   rw [hm] at CA CT HX0 HB0 ⊢
   clear hm CB
   go_enter Tryz.func104,Tryz.ntmps104
   go_wp2_with fail
   generalize ((w.alloc (.cells #[.int .i64 tx,.slice (some ⟨b,o,none⟩) (m + 1) c] 75)).alloc (.cells #[.int .i64 0,.slice none 0 0] 75)) = w3 at *
   refine (CA.out _ HB0.out.1).mono ?_
   rintro e w4 ⟨rfl,hb4⟩
   have HB4:Hid (Below w.heap.size w w4) := HB0.out.1.trans (hb4.mono HB0.out.1.size)
   have HX4:Hid (Box w4 w.heap.size #[.int .i64 tx,.slice (some ⟨b,o,none⟩) (m + 1) c] 75 ∧ Box w4 (w.heap.size + 1) #[.int .i64 0,.slice none 0 0] 75) := ⟨HX0.out.1.on hb4,HX0.out.2.on hb4⟩
   have HS4:Hid (w.heap.size + 1 + 1 ≤ w4.heap.size) := by have := hb4.size; rw [HB0.out.2] at this; exact this
   have a0 := (HB4.out.cell (p := ⟨b,o + m * 3,none⟩) hbB).trans c0
   have a1 := (HB4.out.cell (p := ⟨b,o + m * 3 + 1,none⟩) hbB).trans c1
   have a2 := (HB4.out.cell (p := ⟨b,o + m * 3 + 2,none⟩) hbB).trans c2
   obtain ⟨x0,x1,_,_⟩ := box2 HX4.out.1
   obtain ⟨d0,d1,d2,d3⟩ := box2 HX4.out.2
   have hx1 := HX4.out.1.lt
   have hx2 := HX4.out.2.lt
   clear hb4 HB0 HX0 CA c0 c1 c2
   go_wp2_with fail
   have hba:Below w4.heap.size w4 (w4.alloc (.cells #[.int .i64 (s - 1),.bool xg,.slice q xl d] 38)) := (Below.refl _ _).alloc (Nat.le_refl _) _
   have hBa := HB4.out.trans (hba.mono HB4.out.size)
   refine (CT.out _ hBa).mono ?_
   rintro e w6 ⟨⟨v6,Z6,rfl,hZ6,hO6⟩,hb6⟩
   obtain ⟨p6,c6,rfl,_⟩ := owns_len hO6.1
   have hX6 := (HX4.out.2.on hba).on hb6
   obtain ⟨z0,z1,z2,z3⟩ := box2 hX6
   have HX6:Hid (Box w6 (w.heap.size + 1) #[.int .i64 0,.slice none 0 0] 75) := hX6
   have HB6:Hid (Below w.heap.size w w6) := hBa.trans (hb6.mono hBa.size)
   have HO6:Hid (OwnRs .i64 38 w6 (w.heap.size + 1 + 1) (.slice p6 Z6.length c6) Z6 ∧ Z6.map Prod.fst = M) := ⟨hO6.base (Nat.le_trans HS4.out hba.size),hZ6⟩
   clear hb6 hO6 hZ6 hX6 hba hBa
   go_wp2_with fail
   have hZ := (HX6.out.set (i := 0) (.int .i64 tx)).set (i := 1) (.slice p6 Z6.length c6)
   have hN := (HO6.out.1.off (i := 0) (.int .i64 tx) (show w.heap.size + 1 < w.heap.size + 1 + 1 by omega)).off (i := 1) (.slice p6 Z6.length c6) (show w.heap.size + 1 < w.heap.size + 1 + 1 by omega)
   have hB := (HB6.out.setCell (p := ⟨w.heap.size + 1,0,none⟩) (Nat.le_succ _) (.int .i64 tx)).setCell (p := ⟨w.heap.size + 1,1,none⟩) (Nat.le_succ _) (.slice p6 Z6.length c6)
   generalize (w6.setCell ⟨w.heap.size + 1,0,none⟩ (.int .i64 tx)).setCell ⟨w.heap.size + 1,1,none⟩ (.slice p6 Z6.length c6) = w9 at *
   obtain ⟨y0,y1,_⟩ := box2 hZ
   (try simp only [Exit.inBlock,Exit.then])
   refine bodyPost_ret (v := .tuple #[.agg #[.int .i64 tx,.slice p6 Z6.length c6],.int .i64 0]) (by simp [results,Tryz.results104,go_sem,y0,y1]) rfl ?_
   exact ⟨⟨_,Z6,rfl,HO6.out.2,hN.base (by omega)⟩,hB⟩

end Go.Proofs.YtcibcfghkidncaaGreatDoor

namespace Go.Proofs.YtcibcfghkidncaaGreatDoor
open Go.RowKit
set_option maxRecDepth 100000

def HasRb (w:World) (B R:Nat) (v:Value) (Z:List (Rw × Value)):Prop := w.ownsRow B 38 3 v Z.length (Z.flatMap (rcell .i64)) ∧ ∀ z ∈ Z,SlV w R z.2 z.1.row
theorem HasRb.rd {w:World} {B R:Nat} {v:Value} {Z:List (Rw × Value)} {L:List Rw} (h:HasRb w B R v Z) (hR:R ≤ w.heap.size) (hL:Z.map Prod.fst = L):∃ (p:Option Addr) (c:Nat),v = .slice p L.length c ∧ (p = none → c = 0) ∧ RdR .i64 w w.heap.size p L :=
 rcells_rd h.1 (fun z hz => (h.2 z hz).mono hR) hL
theorem HasRb.nil (w:World) (B R:Nat):HasRb w B R (.slice none 0 0) [] := ⟨World.ownsRow_nil w B _ _,fun z hz => by simp at hz⟩
theorem HasRb.kept {w w':World} {B R:Nat} {v:Value} {Z:List (Rw × Value)} (h:HasRb w B R v Z) (hb:Below w.heap.size w w') (hR:R ≤ w.heap.size):HasRb w' B R v Z := ⟨owns_kept h.1 hb,fun z hz => (h.2 z hz).keep (hb.mono hR)⟩
theorem SlV.off {w:World} {R j i:Nat} {v:Value} {L:List Vl} (h:SlV w R v L) (x:Value) (hj:R ≤ j):SlV (w.setCell ⟨j,i,none⟩ x) R v L := h.keep ((Below.refl _ _).setCell hj _)
theorem HasRb.off {w:World} {B R j i:Nat} {v:Value} {Z:List (Rw × Value)} (h:HasRb w B R v Z) (x:Value) (hR:R ≤ j) (hj:j < B):HasRb (w.setCell ⟨j,i,none⟩ x) B R v Z := by
 refine ⟨⟨h.1.1,?_⟩,fun z hz => (h.2 z hz).off x hR⟩
 rcases h.1.2 with h1 | ⟨g,cap,cur,e,hb',hg,r⟩
 ·exact .inl h1
 ·exact .inr ⟨g,cap,cur,e,hb',(heap_setCell_other w _ g x (by show g ≠ j; omega)).trans hg,r⟩
theorem HasRb.app {w w':World} {B R:Nat} {v v':Value} {Z:List (Rw × Value)} {z:Rw × Value} (h:HasRb w B R v Z) (hz:SlV w R z.2 z.1.row)
  (h1:w'.ownsRow B 38 3 v' (Z.length + 1) (Z.flatMap (rcell .i64) ++ rcell .i64 z)) (hb:Below R w w'):HasRb w' B R v' (Z ++ [z]) := by
 refine ⟨by rw [List.length_append,List.flatMap_append]; simpa using h1,fun y hy => ?_⟩
 rcases List.mem_append.1 hy with hy | hy
 ·exact (h.2 y hy).keep hb
 ·rw [List.mem_singleton] at hy
  subst hy
  exact hz.keep hb

set_option maxHeartbeats 8000000 in
theorem rback_any (W:List Rw) (p:Option Addr) (c:Nat) (tx s:Int) (w:World) (R:Nat) (hRR:R ≤ w.heap.size) (hR:RdR .i64 w R p W) (hlen:W.length ≤ 3518437208882) :
  Calls Tryz.prog 55 #[.agg #[.int .i64 tx,.slice p W.length c],.int .i64 s] w fun e w' => (∃ v Z,e = .returned (.agg #[.int .i64 (bakT tx W s),v]) ∧ Z.map Prod.fst = belL W s ∧ HasRb w' w.heap.size R v Z) ∧ Below w.heap.size w w' := by
 have HR:Hid (RdR .i64 w R p W) := hR
 have HT:Hid (bakT tx W s = if (belL W s).length = 0 then 0 else tx) := rfl
 clear hR
 generalize bakT tx W s = bt at *
 have hx1 := ((Box.new w #[.int .i64 tx,.slice p W.length c] 75).on ((Below.refl _ _).alloc (Nat.le_refl _) (.cells #[.int .i64 0,.slice none 0 0] 75))).on ((Below.refl _ _).alloc (Nat.le_refl _) (.cells #[.int .i64 tx,.slice none 0 0] 75))
 have hx2 := (Box.new (w.alloc (.cells #[.int .i64 tx,.slice p W.length c] 75)) #[.int .i64 0,.slice none 0 0] 75).on ((Below.refl _ _).alloc (Nat.le_refl _) (.cells #[.int .i64 tx,.slice none 0 0] 75))
 have hx3 := Box.new ((w.alloc (.cells #[.int .i64 tx,.slice p W.length c] 75)).alloc (.cells #[.int .i64 0,.slice none 0 0] 75)) #[.int .i64 tx,.slice none 0 0] 75
 have hs1:(w.alloc (.cells #[.int .i64 tx,.slice p W.length c] 75)).heap.size = w.heap.size + 1 := by simp [go_sem]
 have hs2:((w.alloc (.cells #[.int .i64 tx,.slice p W.length c] 75)).alloc (.cells #[.int .i64 0,.slice none 0 0] 75)).heap.size = w.heap.size + 1 + 1 := by simp [go_sem]
 have hs3:(((w.alloc (.cells #[.int .i64 tx,.slice p W.length c] 75)).alloc (.cells #[.int .i64 0,.slice none 0 0] 75)).alloc (.cells #[.int .i64 tx,.slice none 0 0] 75)).heap.size = w.heap.size + 3 := by simp [go_sem]
 rw [hs1] at hx2
 rw [hs2] at hx3
 have HB0:Hid (Below w.heap.size w (((w.alloc (.cells #[.int .i64 tx,.slice p W.length c] 75)).alloc (.cells #[.int .i64 0,.slice none 0 0] 75)).alloc (.cells #[.int .i64 tx,.slice none 0 0] 75)) ∧ w.heap.size + 3 ≤ (((w.alloc (.cells #[.int .i64 tx,.slice p W.length c] 75)).alloc (.cells #[.int .i64 0,.slice none 0 0] 75)).alloc (.cells #[.int .i64 tx,.slice none 0 0] 75)).heap.size) := ⟨by go_grown,by rw [hs3]; exact Nat.le_refl _⟩
 have HX0:Hid (Box (((w.alloc (.cells #[.int .i64 tx,.slice p W.length c] 75)).alloc (.cells #[.int .i64 0,.slice none 0 0] 75)).alloc (.cells #[.int .i64 tx,.slice none 0 0] 75)) w.heap.size #[.int .i64 tx,.slice p W.length c] 75 ∧ Box (((w.alloc (.cells #[.int .i64 tx,.slice p W.length c] 75)).alloc (.cells #[.int .i64 0,.slice none 0 0] 75)).alloc (.cells #[.int .i64 tx,.slice none 0 0] 75)) (w.heap.size + 1) #[.int .i64 0,.slice none 0 0] 75 ∧ Box (((w.alloc (.cells #[.int .i64 tx,.slice p W.length c] 75)).alloc (.cells #[.int .i64 0,.slice none 0 0] 75)).alloc (.cells #[.int .i64 tx,.slice none 0 0] 75)) (w.heap.size + 1 + 1) #[.int .i64 tx,.slice none 0 0] 75) := ⟨hx1,hx2,hx3⟩
 clear hx1 hx2 hx3 hs1 hs2 hs3
 go_enter Tryz.func55,Tryz.ntmps55
 go_wp2_with fail
 generalize (((w.alloc (.cells #[.int .i64 tx,.slice p W.length c] 75)).alloc (.cells #[.int .i64 0,.slice none 0 0] 75)).alloc (.cells #[.int .i64 tx,.slice none 0 0] 75)) = w3 at *
 go_loopw [6] (fun i wr => ∃ (j:Nat) (Z:List (Rw × Value)) (v:Value),j ≤ W.length ∧ i = .int .i64 (j:Int) ∧ Hid (Z.map Prod.fst = belL (W.take j) s) ∧ Hid (HasRb wr (w.heap.size + 3) R v Z) ∧ Hid (Box wr w.heap.size #[.int .i64 tx,.slice p W.length c] 75 ∧ Box wr (w.heap.size + 1) #[.int .i64 0,.slice none 0 0] 75 ∧ Box wr (w.heap.size + 1 + 1) #[.int .i64 tx,v] 75) ∧ Hid (w.heap.size + 3 ≤ wr.heap.size) ∧ Below w.heap.size w wr) (fun i _ => W.length - (intOf i).toNat)
 case atStart => exact ⟨0,[],_,Nat.zero_le _,by go_num,rfl,HasRb.nil _ _ _,HX0,HB0.out.2,HB0.out.1⟩
 case round =>
  obtain ⟨j,Z,v,hj,rfl,hZ,hO,HX,HSz,hn⟩ := hrel
  clear HX0 HB0
  have hZl:Z.length ≤ j := by
   have := congrArg List.length hZ.out
   rw [List.length_map] at this
   rw [this]
   exact bel_len _ _ _
  obtain ⟨pv,cv,rfl,_⟩ := owns_len hO.out.1
  obtain ⟨x0,x1,x2,x3⟩ := box2 HX.out.1
  obtain ⟨r0,r1,r2,r3⟩ := box2 HX.out.2.1
  obtain ⟨y0,y1,y2,y3⟩ := box2 HX.out.2.2
  by_cases hj0:j = W.length
  ·subst hj0
   have HZ2:Hid (Z.map Prod.fst = belL W s) := hZ.out.trans (bel_all W s)
   have hZn:(belL W s).length = Z.length := by rw [← HZ2.out,List.length_map]
   rw [hZn] at HT
   clear hZn
   obtain ⟨m,hm⟩:∃ m,Z.length = m := ⟨_,rfl⟩
   rw [hm] at HT hO HX y1
   by_cases h0:m = 0
   ·subst h0
    have hZ0:Z = [] := List.eq_nil_of_length_eq_zero hm
    have HT2:Hid (bt = 0) := HT.out
    have HZ3:Hid ([] = belL W s) := by
     show [] = belL W s
     rw [← HZ2.out,hZ0]
     rfl
    clear hm hZ0
    go_wp2_with fail
    have hZZ := (HX.out.2.1.set (i := 0) (.int .i64 0)).set (i := 1) (.slice none 0 0)
    have hB := (hn.setCell (p := ⟨w.heap.size + 1,0,none⟩) (Nat.le_succ _) (.int .i64 0)).setCell (p := ⟨w.heap.size + 1,1,none⟩) (Nat.le_succ _) (.slice none 0 0)
    generalize (wr.setCell ⟨w.heap.size + 1,0,none⟩ (.int .i64 0)).setCell ⟨w.heap.size + 1,1,none⟩ (.slice none 0 0) = w9 at *
    obtain ⟨k0,k1,_⟩ := box2 hZZ
    (try simp only [Exit.inBlock,Exit.then])
    refine bodyPost_ret (v := .agg #[.int .i64 0,.slice none 0 0]) (by simp [results,Tryz.results55,go_sem,k0,k1]) rfl ?_
    exact ⟨⟨_,by rw [HT2.out],[],HZ3.out,HasRb.nil _ _ _⟩,hB⟩
   ·have HT2:Hid (bt = tx) := HT.out.trans (if_neg h0)
    have hmb:((m:Int) == 0) = false := beq_eq_false_iff_ne.2 (by omega)
    have Hm:Hid (Z.length = m) := hm
    clear hm h0 hZl
    go_wp2_with fail
    have hZZ := (HX.out.2.1.set (i := 0) (.int .i64 tx)).set (i := 1) (.slice pv m cv)
    have hN := (hO.out.off (i := 0) (j := w.heap.size + 1) (.int .i64 tx) (by omega) (by omega)).off (i := 1) (j := w.heap.size + 1) (.slice pv m cv) (by omega) (by omega)
    have hB := (hn.setCell (p := ⟨w.heap.size + 1,0,none⟩) (Nat.le_succ _) (.int .i64 tx)).setCell (p := ⟨w.heap.size + 1,1,none⟩) (Nat.le_succ _) (.slice pv m cv)
    generalize (wr.setCell ⟨w.heap.size + 1,0,none⟩ (.int .i64 tx)).setCell ⟨w.heap.size + 1,1,none⟩ (.slice pv m cv) = w9 at *
    obtain ⟨k0,k1,_⟩ := box2 hZZ
    (try simp only [Exit.inBlock,Exit.then])
    refine bodyPost_ret (v := .agg #[.int .i64 tx,.slice pv m cv]) (by simp [results,Tryz.results55,go_sem,k0,k1]) rfl ?_
    exact ⟨⟨_,Z,by rw [HT2.out],HZ2.out,⟨owns_base hN.1 (by omega),hN.2⟩⟩,hB⟩
  ·have hj1:j < W.length := by omega
   obtain ⟨b,o,q1,d1,rfl,hbB',c0,c1,c2,hr,hq⟩ := HR.out j hj1
   have hbB := Nat.lt_of_lt_of_le hbB' hRR
   have a0 := (hn.cell (p := ⟨b,o + j * 3,none⟩) hbB).trans c0
   have a1 := (hn.cell (p := ⟨b,o + j * 3 + 1,none⟩) hbB).trans c1
   have a2 := (hn.cell (p := ⟨b,o + j * 3 + 2,none⟩) hbB).trans c2
   have hbw:b < wr.drew.heap.size := Nat.lt_of_lt_of_le hbB hn.size
   have HSl:Hid (SlV w R (.slice q1 W[j].row.length d1) W[j].row) := ⟨q1,d1,rfl,hr,hq⟩
   have HC:Hid (∀ v,rcell .i64 (W[j],v) = [.int .i64 W[j].n,.bool W[j].gn,v]) := fun v => rfl
   have HY:Hid (W[j].n < s → ∀ v,(Z ++ [(W[j],v)]).map Prod.fst = belL (W.take (j + 1)) s) := fun h v => bel_yes hj1 h v hZ.out
   have HNo:Hid (¬ W[j].n < s → Z.map Prod.fst = belL (W.take (j + 1)) s) := fun h => bel_no hj1 h hZ.out
   clear c0 c1 c2 hj0 hr hq hZ
   generalize W[j].n = xn at *
   generalize W[j].gn = xg at *
   generalize W[j].row.length = xl at *
   by_cases hx:xn < s
   ·have HY2:Hid (∀ v,(Z ++ [(W[j],v)]).map Prod.fst = belL (W.take (j + 1)) s) := HY.out hx
    clear HY HNo
    go_wp2_with fail
    refine wp_region_L (fun w' => Box w' w.heap.size #[.int .i64 tx,.slice (some ⟨b,o,none⟩) W.length c] 75 ∧ Box w' (w.heap.size + 1 + 1) #[.int .i64 tx,(.slice pv Z.length cv)] 75 ∧ w'.cell? ⟨b,o + j * 3,none⟩ = some (.int .i64 xn) ∧ w'.cell? ⟨b,o + j * 3 + 1,none⟩ = some (.bool xg) ∧ w'.cell? ⟨b,o + j * 3 + 2,none⟩ = some (.slice q1 xl d1)) 10 (by kernel_rfl) ?_
    have hS0:Box wr.drew w.heap.size #[.int .i64 tx,.slice (some ⟨b,o,none⟩) W.length c] 75 ∧ Box wr.drew (w.heap.size + 1 + 1) #[.int .i64 tx,(.slice pv Z.length cv)] 75 ∧ wr.drew.cell? ⟨b,o + j * 3,none⟩ = some (.int .i64 xn) ∧ wr.drew.cell? ⟨b,o + j * 3 + 1,none⟩ = some (.bool xg) ∧ wr.drew.cell? ⟨b,o + j * 3 + 2,none⟩ = some (.slice q1 xl d1) := ⟨HX.out.1,HX.out.2.2,a0,a1,a2⟩
    have hO0:HasRb wr.drew (w.heap.size + 3) R (.slice pv Z.length cv) Z := hO.out
    have hBd:Below w.heap.size w wr.drew := hn.drew
    clear hO
    refine wpL_take (v := ?_) 0 rfl (by kernel_rfl) (fun _ _ _ h => h) (by rfl) ?_ hS0 ?_
    rotate_left
    focus
     intro w9 hw9
     obtain ⟨a0,a1,_,_⟩ := box2 hw9.1
     obtain ⟨e0,e1,_,_⟩ := box2 hw9.2.1
     obtain ⟨f0,f1,f2⟩ := hw9.2.2
     go_simp
     try with_reducible rfl
    try simp only [Act.put,List.setIfInBounds_toArray,List.set_cons_zero,List.set_cons_succ]
    refine wpL_take (v := ?_) 1 rfl (by kernel_rfl) (fun _ _ _ h => h) (by rfl) ?_ hS0 ?_
    rotate_left
    focus
     intro w9 hw9
     obtain ⟨a0,a1,_,_⟩ := box2 hw9.1
     obtain ⟨e0,e1,_,_⟩ := box2 hw9.2.1
     obtain ⟨f0,f1,f2⟩ := hw9.2.2
     go_simp
     try with_reducible rfl
    try simp only [Act.put,List.setIfInBounds_toArray,List.set_cons_zero,List.set_cons_succ]
    refine wpL_take (v := ?_) 2 rfl (by kernel_rfl) (fun _ _ _ h => h) (by rfl) ?_ hS0 ?_
    rotate_left
    focus
     intro w9 hw9
     obtain ⟨a0,a1,_,_⟩ := box2 hw9.1
     obtain ⟨e0,e1,_,_⟩ := box2 hw9.2.1
     obtain ⟨f0,f1,f2⟩ := hw9.2.2
     go_simp
     try with_reducible rfl
    try simp only [Act.put,List.setIfInBounds_toArray,List.set_cons_zero,List.set_cons_succ]
    refine wpL_take (v := ?_) 3 rfl (by kernel_rfl) (fun _ _ _ h => h) (by rfl) ?_ hS0 ?_
    rotate_left
    focus
     intro w9 hw9
     obtain ⟨a0,a1,_,_⟩ := box2 hw9.1
     obtain ⟨e0,e1,_,_⟩ := box2 hw9.2.1
     obtain ⟨f0,f1,f2⟩ := hw9.2.2
     go_simp
     try with_reducible rfl
    try simp only [Act.put,List.setIfInBounds_toArray,List.set_cons_zero,List.set_cons_succ]
    refine wpL_take (v := ?_) 4 rfl (by kernel_rfl) (fun _ _ _ h => h) (by rfl) ?_ hS0 ?_
    rotate_left
    focus
     intro w9 hw9
     obtain ⟨a0,a1,_,_⟩ := box2 hw9.1
     obtain ⟨e0,e1,_,_⟩ := box2 hw9.2.1
     obtain ⟨f0,f1,f2⟩ := hw9.2.2
     go_simp
     try with_reducible rfl
    try simp only [Act.put,List.setIfInBounds_toArray,List.set_cons_zero,List.set_cons_succ]
    refine wpL_take (v := ?_) 5 rfl (by kernel_rfl) (fun _ _ _ h => h) (by rfl) ?_ hS0 ?_
    rotate_left
    focus
     intro w9 hw9
     obtain ⟨a0,a1,_,_⟩ := box2 hw9.1
     obtain ⟨e0,e1,_,_⟩ := box2 hw9.2.1
     obtain ⟨f0,f1,f2⟩ := hw9.2.2
     go_simp
     try with_reducible rfl
    try simp only [Act.put,List.setIfInBounds_toArray,List.set_cons_zero,List.set_cons_succ]
    refine wpL_take (v := ?_) 6 rfl (by kernel_rfl) (fun _ _ _ h => h) (by rfl) ?_ hS0 ?_
    rotate_left
    focus
     intro w9 hw9
     obtain ⟨a0,a1,_,_⟩ := box2 hw9.1
     obtain ⟨e0,e1,_,_⟩ := box2 hw9.2.1
     obtain ⟨f0,f1,f2⟩ := hw9.2.2
     go_simp
     try with_reducible rfl
    try simp only [Act.put,List.setIfInBounds_toArray,List.set_cons_zero,List.set_cons_succ]
    refine wpL_one 7 rfl (by kernel_rfl) (by rfl) ?_
    intro K hK
    go_simp
    have hba:Below wr.drew.heap.size wr.drew (wr.drew.alloc (.cells #[.int .i64 xn,.bool xg,.slice q1 xl d1] 38)) := (Below.refl _ _).alloc (Nat.le_refl _) _
    have kp:∀ {k:Nat} {u:Option Value},wr.drew.cell? ⟨b,k,none⟩ = u → (wr.drew.alloc (.cells #[.int .i64 xn,.bool xg,.slice q1 xl d1] 38)).cell? ⟨b,k,none⟩ = u := fun {k u} h => (hba.cell (p := ⟨b,k,none⟩) hbw).trans h
    have hS7:Box (wr.drew.alloc (.cells #[.int .i64 xn,.bool xg,.slice q1 xl d1] 38)) w.heap.size #[.int .i64 tx,.slice (some ⟨b,o,none⟩) W.length c] 75 ∧ Box (wr.drew.alloc (.cells #[.int .i64 xn,.bool xg,.slice q1 xl d1] 38)) (w.heap.size + 1 + 1) #[.int .i64 tx,(.slice pv Z.length cv)] 75 ∧ (wr.drew.alloc (.cells #[.int .i64 xn,.bool xg,.slice q1 xl d1] 38)).cell? ⟨b,o + j * 3,none⟩ = some (.int .i64 xn) ∧ (wr.drew.alloc (.cells #[.int .i64 xn,.bool xg,.slice q1 xl d1] 38)).cell? ⟨b,o + j * 3 + 1,none⟩ = some (.bool xg) ∧ (wr.drew.alloc (.cells #[.int .i64 xn,.bool xg,.slice q1 xl d1] 38)).cell? ⟨b,o + j * 3 + 2,none⟩ = some (.slice q1 xl d1) := ⟨hS0.1.on hba,hS0.2.1.on hba,kp hS0.2.2.1,kp hS0.2.2.2.1,kp hS0.2.2.2.2⟩
    refine hK.out _ _ (fun _ => hS7) ?_
    clear hK K kp
    try simp only [Act.put,List.setIfInBounds_toArray,List.set_cons_zero,List.set_cons_succ]
    refine wpL_one 8 rfl (by kernel_rfl) (by rfl) ?_
    intro K hK
    refine wp_app8 _ (.tmp 26) (.tmp 32) 38 73 _ 3 40 rfl Tryz.underlying73 info_wri rfl (by decide) (w.heap.size + 3) _ Z.length (Z.flatMap (rcell .i64)) (by rfl) (hO0.kept hba (Nat.le_trans hRR hBd.size)).1 [.int .i64 xn,.bool xg,.slice q1 xl d1] rfl (three_one rfl) wr.drew.heap.size (by rfl) (cell_new8 wr.drew _ _) (by omega) (by omega) (Nat.le_trans HSz.out hba.size) ?_
    intro v8 w8 h8 h9
    have hb78:Below (w.heap.size + 3) (wr.drew.alloc (.cells #[.int .i64 xn,.bool xg,.slice q1 xl d1] 38)) w8 := (Below.refl _ _).grown h9 (Nat.le_trans HSz.out hba.size) (fun k hk => ((hO0.kept hba (Nat.le_trans hRR hBd.size)).1.lt k hk).1)
    have hbw8:Below w.heap.size wr.drew w8 := (hba.mono hBd.size).trans (hb78.mono (by omega))
    have HO8:Hid (HasRb w8 (w.heap.size + 3) R v8 (Z ++ [(W[j],.slice q1 xl d1)])) := hO0.app (z := (W[j],.slice q1 xl d1)) (HSl.out.keep (hBd.mono hRR)) (by rw [HC.out]; exact h8) (hbw8.mono hRR)
    have kp:∀ {k:Nat} {u:Option Value},wr.drew.cell? ⟨b,k,none⟩ = u → w8.cell? ⟨b,k,none⟩ = u := fun {k u} h => (hbw8.cell (p := ⟨b,k,none⟩) hbB).trans h
    have hS8:Box w8 w.heap.size #[.int .i64 tx,.slice (some ⟨b,o,none⟩) W.length c] 75 ∧ Box w8 (w.heap.size + 1 + 1) #[.int .i64 tx,(.slice pv Z.length cv)] 75 ∧ w8.cell? ⟨b,o + j * 3,none⟩ = some (.int .i64 xn) ∧ w8.cell? ⟨b,o + j * 3 + 1,none⟩ = some (.bool xg) ∧ w8.cell? ⟨b,o + j * 3 + 2,none⟩ = some (.slice q1 xl d1) := ⟨hS7.1.keep hb78 (by omega),hS7.2.1.keep hb78 (by omega),kp hS0.2.2.1,kp hS0.2.2.2.1,kp hS0.2.2.2.2⟩
    have HXr:Hid (Box w8 (w.heap.size + 1) _ _) := (Box.on (w := wr.drew) HX.out.2.1 hba).keep hb78 (by omega)
    have HB8:Hid (Below w.heap.size w w8) := hBd.trans hbw8
    have HSz8:Hid ((w.heap.size + 3) ≤ w8.heap.size) := Nat.le_trans (Nat.le_trans HSz.out hba.size) hb78.size
    clear h8 h9 hb78 hbw8 kp
    obtain ⟨p8,c8,e8,_⟩ := owns_len HO8.out.1
    rw [show (Z ++ [(W[j],Value.slice q1 xl d1)]).length = Z.length + 1 by simp] at e8
    subst e8
    refine hK.out _ _ (fun _ => hS8) ?_
    clear hK K hba hS7 hS0
    try simp only [Act.put,List.setIfInBounds_toArray,List.set_cons_zero,List.set_cons_succ]
    refine wpL_take (v := ?_) 9 rfl (by kernel_rfl) (fun _ _ _ h => h) (by rfl) ?_ hS8 ?_
    rotate_left
    focus
     intro w9 hw9
     go_simp
     try with_reducible rfl
    try simp only [Act.put,List.setIfInBounds_toArray,List.set_cons_zero,List.set_cons_succ]
    refine wpL_one 10 rfl (by kernel_rfl) (by rfl) ?_
    intro K hK
    obtain ⟨z0,z1,z2,z3⟩ := box2 hS8.2.1
    go_simp
    refine hK.out _ _ (fun h => absurd rfl h) ?_
    clear hK K
    refine wpL_done (by kernel_rfl) ?_ _
    refine NoPanic.normal ?_
    have hZ := hS8.2.1.set (i := 1) (.slice p8 (Z.length + 1) c8)
    have hN := HO8.out.off (i := 1) (j := (w.heap.size + 1 + 1)) (.slice p8 (Z.length + 1) c8) (by omega) (by omega)
    have hB := HB8.out.setCell (p := ⟨(w.heap.size + 1 + 1),1,none⟩) (show w.heap.size ≤ (w.heap.size + 1 + 1) by omega) (.slice p8 (Z.length + 1) c8)
    have hXr := HXr.out.off (i := 1) (j := (w.heap.size + 1 + 1)) (.slice p8 (Z.length + 1) c8) (by omega)
    have hXi := hS8.1.off (i := 1) (j := (w.heap.size + 1 + 1)) (.slice p8 (Z.length + 1) c8) (by omega)
    have hSz9:w.heap.size + 3 ≤ (w8.setCell ⟨(w.heap.size + 1 + 1),1,none⟩ (.slice p8 (Z.length + 1) c8)).heap.size := by simpa [World.setCell] using HSz8.out
    generalize w8.setCell ⟨(w.heap.size + 1 + 1),1,none⟩ (.slice p8 (Z.length + 1) c8) = w9 at *
    go_wp2_with fail
    go_roundw
    case rel => exact ⟨j + 1,Z ++ [(W[j],Value.slice q1 xl d1)],.slice p8 (Z.length + 1) c8,hj1,by go_num,HY2.out _,hN,⟨hXi,hXr,hZ⟩,hSz9,hB⟩
    case measure => simp [intOf]; omega
   ·have HN2:Hid (Z.map Prod.fst = belL (W.take (j + 1)) s) := HNo.out hx
    have hx':s ≤ xn := by omega
    clear HY HNo hx
    go_wp2_with fail
    go_roundw
    case rel => exact ⟨j + 1,Z,_,hj1,by go_num,HN2,hO,HX,HSz,hn⟩
    case measure => simp [intOf]; omega

end Go.Proofs.YtcibcfghkidncaaGreatDoor

namespace Go.Proofs.YtcibcfghkidncaaGreatDoor
open Go.RowKit
set_option maxRecDepth 100000

def okWt (L:List Rw) (i:Nat):Bool := match L[i]? with
 | none => true
 | some v => !(decide (v.n < 0)) && !(v.gn && decide (0 < v.row.length)) && (match i with
  | 0 => true
  | j + 1 => match L[j]? with
   | none => true
   | some u => decide (u.n < v.n))
def mayW (L:List Rw):Bool := (List.range L.length).all (okWt L)
def mayI (tx:Int) (L:List Rw):Bool := !(decide (tx < 0)) && (decide (tx = 0) == decide (L.length = 0)) && mayW L
theorem okWt_zero {L:List Rw} (h:0 < L.length):okWt L 0 = (!(decide (L[0].n < (0:Int))) && !(L[0].gn && decide (0 < L[0].row.length))) := by
 unfold okWt
 rw [List.getElem?_eq_getElem h]
 simp
theorem okWt_succ {L:List Rw} {j:Nat} (h:j + 1 < L.length):okWt L (j + 1) = (!(decide (L[j + 1].n < (0:Int))) && !(L[j + 1].gn && decide (0 < L[j + 1].row.length)) && decide ((L[j]'(by omega)).n < L[j + 1].n)) := by
 unfold okWt
 rw [List.getElem?_eq_getElem h]
 simp only [List.getElem?_eq_getElem (show j < L.length by omega)]
theorem mayW_true {L:List Rw} (h:∀ i,i < L.length → okWt L i = true):mayW L = true := by
 unfold mayW
 rw [List.all_eq_true]
 intro i hi
 exact h i (by simpa using hi)
theorem mayW_at {L:List Rw} (h:mayW L = true) {i:Nat} (hi:i < L.length):okWt L i = true := by
 unfold mayW at h
 rw [List.all_eq_true] at h
 exact h i (by simpa using hi)

end Go.Proofs.YtcibcfghkidncaaGreatDoor
