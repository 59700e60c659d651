/- does: Add. does: Write. does: no kind. does: any act. -/
import Derived.Test.YtcibcfghkidncaaGreatDoorGWDoc26
import Derived.Test.YtcibcfghkidncaaGreatDoorGWLw14
namespace Go.Proofs.YtcibcfghkidncaaGreatDoor
open Go.RowKit Go.Lib
set_option maxRecDepth 100000

set_option maxHeartbeats 8000000 in
theorem does_add (N:Nat → Prop) (B sb most:Nat) (M M2:List Rs) (Kn J K2 J2:Nat) (sl tx vn:Int) (vg:Bool) (qv:Option Addr) (nv cv:Nat) (st lv:Int) (p:Option Addr) (n c:Nat) (w:World) (h:PS N w B sb most M Kn J (.slice p n c)) (vr:List Vl) (nn er:Int) (hV:SlV w w.heap.size (.slice qv nv cv) vr)
  (co:∀ w1,SlV w1 w1.heap.size (.slice qv nv cv) vr → Calls Tryz.prog 20 #[.agg #[.int .i64 vn,.bool vg,.slice qv nv cv]] w1 fun e w' => (∃ q3 c3,e = .returned (.agg #[.int .i64 vn,.bool vg,.slice q3 nv c3]) ∧ SlV w' w'.heap.size (.slice q3 nv c3) vr) ∧ Below w1.heap.size w1 w')
  (cd:∀ w1,DB N w w1 B sb most M Kn J (.slice p n c) #[.int .i64 0,.int .i64 sl,.int .i64 tx,.int .i64 vn,.bool vg,.slice qv nv cv,.int .u64 st,.int .i64 lv] → Calls Tryz.prog 23 #[.agg #[.int .i64 (most:Nat),.slice p n c],.int .i64 tx,.agg #[.int .i64 vn,.bool vg,.slice qv nv cv]] w1 fun e w' => (∃ v1,e = .returned (.tuple #[.agg #[.int .i64 (most:Nat),v1],.int .i64 nn,.int .i64 er]) ∧ DocS w' B v1 (docL M2)) ∧ Below w1.heap.size w1 w')
  (cs:∀ w1 v1 bo q3 c3,DC N w w1 B sb most M M2 Kn J (.slice p n c) v1 #[.int .i64 0,.int .i64 sl,.int .i64 tx,.int .i64 vn,.bool vg,.slice qv nv cv,.int .u64 st,.int .i64 lv] bo → SlV w1 w1.heap.size (.slice q3 nv c3) vr → Calls Tryz.prog 19 #[ptr1 sb,.int .i64 tx,.agg #[.int .i64 vn,.bool vg,.slice q3 nv c3]] w1 fun e w' => e = .returned (.tuple #[.int .i64 nn,.int .i64 er]) ∧ DE N w w' B sb most M2 K2 J2 v1 bo) :
  Calls Tryz.prog 12 #[ptr1 sb,.agg #[.int .i64 (most:Nat),.slice p n c],.agg #[.int .i64 0,.int .i64 sl,.int .i64 tx,.int .i64 vn,.bool vg,.slice qv nv cv,.int .u64 st,.int .i64 lv]] w fun e w' => (∃ v2,e = .returned (.tuple #[.agg #[.int .i64 (most:Nat),v2],.bool true]) ∧ PS N w' B sb most M2 K2 J2 v2) ∧ Frm w w' (frN B N) := by
 have CO:Hid (∀ w1,SlV w1 w1.heap.size (.slice qv nv cv) vr → Calls Tryz.prog 20 #[.agg #[.int .i64 vn,.bool vg,.slice qv nv cv]] w1 fun e w' => (∃ q3 c3,e = .returned (.agg #[.int .i64 vn,.bool vg,.slice q3 nv c3]) ∧ SlV w' w'.heap.size (.slice q3 nv c3) vr) ∧ Below w1.heap.size w1 w') := co
 have CD:Hid (∀ w1,DB N w w1 B sb most M Kn J (.slice p n c) #[.int .i64 0,.int .i64 sl,.int .i64 tx,.int .i64 vn,.bool vg,.slice qv nv cv,.int .u64 st,.int .i64 lv] → Calls Tryz.prog 23 #[.agg #[.int .i64 (most:Nat),.slice p n c],.int .i64 tx,.agg #[.int .i64 vn,.bool vg,.slice qv nv cv]] w1 fun e w' => (∃ v1,e = .returned (.tuple #[.agg #[.int .i64 (most:Nat),v1],.int .i64 nn,.int .i64 er]) ∧ DocS w' B v1 (docL M2)) ∧ Below w1.heap.size w1 w') := cd
 have CS:Hid (∀ w1 v1 bo q3 c3,DC N w w1 B sb most M M2 Kn J (.slice p n c) v1 #[.int .i64 0,.int .i64 sl,.int .i64 tx,.int .i64 vn,.bool vg,.slice qv nv cv,.int .u64 st,.int .i64 lv] bo → SlV w1 w1.heap.size (.slice q3 nv c3) vr → Calls Tryz.prog 19 #[ptr1 sb,.int .i64 tx,.agg #[.int .i64 vn,.bool vg,.slice q3 nv c3]] w1 fun e w' => e = .returned (.tuple #[.int .i64 nn,.int .i64 er]) ∧ DE N w w' B sb most M2 K2 J2 v1 bo) := cs
 have HVr:Hid (SlV w w.heap.size (.slice qv nv cv) vr) := hV
 clear cd cs co hV
 have HB0:Hid (DB N w _ B sb most M Kn J (.slice p n c) #[.int .i64 0,.int .i64 sl,.int .i64 tx,.int .i64 vn,.bool vg,.slice qv nv cv,.int .u64 st,.int .i64 lv]) := DB.start h _
 clear h
 go_enter Tryz.func12,Tryz.ntmps12
 go_upto_region 1 with fail
 generalize (((w.alloc (.cells #[.int .i64 (most:Nat),.slice p n c] 29)).alloc (.cells #[.int .i64 0,.int .i64 sl,.int .i64 tx,.int .i64 vn,.bool vg,.slice qv nv cv,.int .u64 st,.int .i64 lv] 41)).alloc (.cells #[.int .i64 0,.slice none 0 0] 29)) = w0 at *
 obtain ⟨⟨m0,m1⟩,a0,a1,a2,a3,a4,a5,a6,a7,_⟩ := HB0.out.cells
 go_wp2_with fail
 refine (CD.out _ HB0.out).mono ?_
 rintro e w1 ⟨⟨v1,rfl,hd⟩,hb1⟩
 obtain ⟨p1,n1,c1,e1⟩:∃ p1 n1 c1,v1 = .slice p1 n1 c1 := by obtain ⟨p1,c1,e1,_⟩ := hd.len; exact ⟨p1,_,c1,e1⟩
 subst e1
 have HC:Hid (DC N w _ B sb most M M2 Kn J (.slice p n c) (.slice p1 n1 c1) #[.int .i64 0,.int .i64 sl,.int .i64 tx,.int .i64 vn,.bool vg,.slice qv nv cv,.int .u64 st,.int .i64 lv] w1.heap.size) := HB0.out.told hb1 hd
 clear hd hb1 m0 m1 a0 a1 a2 a3 a4 a5 a6 a7 CD
 go_upto_region 4 with fail
 generalize (w1.alloc (.cells #[.int .i64 (most:Nat),.slice p1 n1 c1] 29)) = w2 at *
 refine wp_region_any (by kernel_rfl) ?_
 change wpAny _ _ _ _ _ _ _ (World.drew _)
 refine tk (v := ?_) 0 rfl ?_ ?_
 rotate_left
 focus
  intro w9
  go_simp
  try with_reducible rfl
 try simp only [aP]
 refine tk (v := ?_) 1 rfl ?_ ?_
 rotate_left
 focus
  intro w9
  go_simp
  try with_reducible rfl
 try simp only [aP]
 refine tk (v := ?_) 3 rfl ?_ ?_
 rotate_left
 focus
  intro w9
  go_simp
  try with_reducible rfl
 try simp only [aP]
 apply later3 (fun (w4:World) (_:Option Addr) (_:Nat) => Hid (DE N w w4 B sb most M2 K2 J2 (.slice p1 n1 c1) w1.heap.size))
 intro hs2_4_5_6
 apply later3 (fun (w3:World) (q3:Option Addr) (c3:Nat) => Hid (DC N w w3 B sb most M M2 Kn J (.slice p n c) (.slice p1 n1 c1) #[.int .i64 0,.int .i64 sl,.int .i64 tx,.int .i64 vn,.bool vg,.slice qv nv cv,.int .u64 st,.int .i64 lv] w1.heap.size ∧ SlV w3 w3.heap.size (.slice q3 nv c3) vr))
 intro hs2_4_5
 apply later3 (fun (w3:World) (q3:Option Addr) (c3:Nat) => Hid (DC N w w3 B sb most M M2 Kn J (.slice p n c) (.slice p1 n1 c1) #[.int .i64 0,.int .i64 sl,.int .i64 tx,.int .i64 vn,.bool vg,.slice qv nv cv,.int .u64 st,.int .i64 lv] w1.heap.size ∧ SlV w3 w3.heap.size (.slice q3 nv c3) vr))
 intro hs4_5
 apply later0
 intro hs2_4
 apply later0
 intro hs4
 apply later0
 intro hs2
 ·obtain ⟨⟨m0,m1⟩,a0,a1,a2,a3,a4,a5,a6,a7,_⟩ := HC.out.db.cells
  have o0 := box_cell (i := 0) HC.out.o rfl
  have o1 := box_cell (i := 1) HC.out.o rfl
  refine wpAny_ready (rs := [2,4]) (by kernel_rfl) (by simp) ?_
  refine anyN_cons 2 rfl (by rfl) (fun K hK => ?_) (anyN_cons 4 rfl (by rfl) (fun K hK => ?_) AllReady.nil)
  ·go_simp
   refine hK.out _ _ ?_
   clear hK K
   try simp only [aP]
   exact hs2
  ·go_simp
   refine hK.out _ _ ?_
   clear hK K
   try simp only [aP]
   exact hs4
 ·obtain ⟨⟨m0,m1⟩,a0,a1,a2,a3,a4,a5,a6,a7,_⟩ := HC.out.db.cells
  have o0 := box_cell (i := 0) HC.out.o rfl
  have o1 := box_cell (i := 1) HC.out.o rfl
  refine wpAny_ready (rs := [4]) (by kernel_rfl) (by simp) ?_
  refine anyN_cons 4 rfl (by rfl) (fun K hK => ?_) AllReady.nil
  go_simp
  refine hK.out _ _ ?_
  clear hK K
  try simp only [aP]
  exact hs2_4
 ·obtain ⟨⟨m0,m1⟩,a0,a1,a2,a3,a4,a5,a6,a7,_⟩ := HC.out.db.cells
  have o0 := box_cell (i := 0) HC.out.o rfl
  have o1 := box_cell (i := 1) HC.out.o rfl
  refine wpAny_ready (rs := [2,5]) (by kernel_rfl) (by simp) ?_
  refine anyN_cons 2 rfl (by rfl) (fun K hK => ?_) (anyN_cons 5 rfl (by rfl) (fun K hK => ?_) AllReady.nil)
  ·go_simp
   refine hK.out _ _ ?_
   clear hK K
   try simp only [aP]
   exact hs2_4
  ·go_simp
   refine (CO.out _ (HVr.out.imm (Imm.of_below ((HC.out.on ((Below.refl _ _).drew)).db.bel)))).mono ?_
   rintro e w3 ⟨⟨q3,c3,rfl,hq3⟩,hb3⟩
   dsimp only
   have HO:Hid (DC N w w3 B sb most M M2 Kn J (.slice p n c) (.slice p1 n1 c1) #[.int .i64 0,.int .i64 sl,.int .i64 tx,.int .i64 vn,.bool vg,.slice qv nv cv,.int .u64 st,.int .i64 lv] w1.heap.size ∧ SlV w3 w3.heap.size (.slice q3 nv c3) vr) := ⟨(HC.out.on ((Below.refl _ _).drew)).on hb3,hq3⟩
   clear hq3 hb3
   refine hK.out _ _ ?_
   clear hK K
   try simp only [aP]
   exact hs4_5 w3 q3 c3 HO
 ·obtain ⟨⟨m0,m1⟩,a0,a1,a2,a3,a4,a5,a6,a7,_⟩ := HC.out.db.cells
  have o0 := box_cell (i := 0) HC.out.o rfl
  have o1 := box_cell (i := 1) HC.out.o rfl
  refine wpAny_ready (rs := [5]) (by kernel_rfl) (by simp) ?_
  refine anyN_cons 5 rfl (by rfl) (fun K hK => ?_) AllReady.nil
  go_simp
  refine (CO.out _ (HVr.out.imm (Imm.of_below ((HC.out.on ((Below.refl _ _).drew)).db.bel)))).mono ?_
  rintro e w3 ⟨⟨q3,c3,rfl,hq3⟩,hb3⟩
  dsimp only
  have HO:Hid (DC N w w3 B sb most M M2 Kn J (.slice p n c) (.slice p1 n1 c1) #[.int .i64 0,.int .i64 sl,.int .i64 tx,.int .i64 vn,.bool vg,.slice qv nv cv,.int .u64 st,.int .i64 lv] w1.heap.size ∧ SlV w3 w3.heap.size (.slice q3 nv c3) vr) := ⟨(HC.out.on ((Below.refl _ _).drew)).on hb3,hq3⟩
  clear hq3 hb3
  refine hK.out _ _ ?_
  clear hK K
  try simp only [aP]
  exact hs2_4_5 w3 q3 c3 HO
 ·intro w3 q3 c3 HO
  obtain ⟨⟨m0,m1⟩,a0,a1,a2,a3,a4,a5,a6,a7,_⟩ := HO.out.1.db.cells
  have o0 := box_cell (i := 0) HO.out.1.o rfl
  have o1 := box_cell (i := 1) HO.out.1.o rfl
  refine wpAny_ready (rs := [2]) (by kernel_rfl) (by simp) ?_
  refine anyN_cons 2 rfl (by rfl) (fun K hK => ?_) AllReady.nil
  go_simp
  refine hK.out _ _ ?_
  clear hK K
  try simp only [aP]
  exact hs2_4_5 w3 q3 c3 HO
 ·intro w3 q3 c3 HO
  obtain ⟨⟨m0,m1⟩,a0,a1,a2,a3,a4,a5,a6,a7,_⟩ := HO.out.1.db.cells
  have o0 := box_cell (i := 0) HO.out.1.o rfl
  have o1 := box_cell (i := 1) HO.out.1.o rfl
  refine wpAny_ready (rs := [6]) (by kernel_rfl) (by simp) ?_
  refine anyN_cons 6 rfl (by rfl) (fun K hK => ?_) AllReady.nil
  go_simp
  refine (CS.out _ (.slice p1 n1 c1) w1.heap.size q3 c3 HO.out.1 HO.out.2).mono ?_
  rintro e w4 ⟨rfl,he⟩
  dsimp only
  have HE:Hid (DE N w w4 B sb most M2 K2 J2 (.slice p1 n1 c1) w1.heap.size) := he
  clear he
  refine hK.out _ _ ?_
  clear hK K
  try simp only [aP]
  refine tk (v := ?_) 7 rfl ?_ ?_
  rotate_left
  focus
   intro w9
   go_simp
   try with_reducible rfl
  try simp only [aP]
  refine tk (v := ?_) 8 rfl ?_ ?_
  rotate_left
  focus
   intro w9
   go_simp
   try with_reducible rfl
  try simp only [aP]
  refine tk (v := ?_) 9 rfl ?_ ?_
  rotate_left
  focus
   intro w9
   go_simp
   try with_reducible rfl
  try simp only [aP]
  refine tk (v := ?_) 10 rfl ?_ ?_
  rotate_left
  focus
   intro w9
   go_simp
   try with_reducible rfl
  try simp only [aP]
  refine tk (v := ?_) 11 rfl ?_ ?_
  rotate_left
  focus
   intro w9
   go_simp
   try with_reducible rfl
  try simp only [aP]
  exact hs2_4_5_6 w4 q3 c3 HE
 ·intro w4 q3 c3 HE
  obtain ⟨o0,o1,r0,r1,r2,r3⟩ := HE.out.cells
  refine wpAny_done (by kernel_rfl) ?_ _
  go_wp2_with fail
  obtain ⟨f0,f1,fp,ff⟩ := HE.out.fin
  generalize (w4.setCell ⟨w.heap.size + 1 + 1,0,none⟩ (.int .i64 (most:Nat))).setCell ⟨w.heap.size + 1 + 1,1,none⟩ (.slice p1 n1 c1) = w9 at *
  (try simp only [Exit.inBlock,Exit.then])
  refine bodyPost_ret (v := .tuple #[.agg #[.int .i64 (most:Nat),.slice p1 n1 c1],.bool true]) (by simp [results,Tryz.results12,go_sem,f0,f1]) rfl ?_
  exact ⟨⟨_,rfl,fp⟩,ff⟩

end Go.Proofs.YtcibcfghkidncaaGreatDoor

namespace Go.Proofs.YtcibcfghkidncaaGreatDoor
open Go.RowKit Go.Lib
set_option maxRecDepth 100000

set_option maxHeartbeats 8000000 in
theorem does_write (N:Nat → Prop) (B sb most:Nat) (M M2:List Rs) (Kn J K2 J2:Nat) (sl tx vn:Int) (vg:Bool) (qv:Option Addr) (nv cv:Nat) (st lv:Int) (p:Option Addr) (n c:Nat) (w:World) (h:PS N w B sb most M Kn J (.slice p n c)) (vr:List Vl) (er:Int) (hV:SlV w w.heap.size (.slice qv nv cv) vr)
  (co:∀ w1,SlV w1 w1.heap.size (.slice qv nv cv) vr → Calls Tryz.prog 20 #[.agg #[.int .i64 vn,.bool vg,.slice qv nv cv]] w1 fun e w' => (∃ q3 c3,e = .returned (.agg #[.int .i64 vn,.bool vg,.slice q3 nv c3]) ∧ SlV w' w'.heap.size (.slice q3 nv c3) vr) ∧ Below w1.heap.size w1 w')
  (cd:∀ w1,DB N w w1 B sb most M Kn J (.slice p n c) #[.int .i64 1,.int .i64 sl,.int .i64 tx,.int .i64 vn,.bool vg,.slice qv nv cv,.int .u64 st,.int .i64 lv] → Calls Tryz.prog 35 #[.agg #[.int .i64 (most:Nat),.slice p n c],.int .i64 sl,.int .i64 tx,.agg #[.int .i64 vn,.bool vg,.slice qv nv cv],.int .u64 st] w1 fun e w' => (∃ v1,e = .returned (.tuple #[.agg #[.int .i64 (most:Nat),v1],.int .i64 er]) ∧ DocS w' B v1 (docL M2)) ∧ Below w1.heap.size w1 w')
  (cs:∀ w1 v1 bo q3 c3,DC N w w1 B sb most M M2 Kn J (.slice p n c) v1 #[.int .i64 1,.int .i64 sl,.int .i64 tx,.int .i64 vn,.bool vg,.slice qv nv cv,.int .u64 st,.int .i64 lv] bo → SlV w1 w1.heap.size (.slice q3 nv c3) vr → Calls Tryz.prog 21 #[ptr1 sb,.int .i64 sl,.int .i64 tx,.agg #[.int .i64 vn,.bool vg,.slice q3 nv c3],.int .u64 st] w1 fun e w' => e = .returned (.int .i64 er) ∧ DE N w w' B sb most M2 K2 J2 v1 bo) :
  Calls Tryz.prog 12 #[ptr1 sb,.agg #[.int .i64 (most:Nat),.slice p n c],.agg #[.int .i64 1,.int .i64 sl,.int .i64 tx,.int .i64 vn,.bool vg,.slice qv nv cv,.int .u64 st,.int .i64 lv]] w fun e w' => (∃ v2,e = .returned (.tuple #[.agg #[.int .i64 (most:Nat),v2],.bool true]) ∧ PS N w' B sb most M2 K2 J2 v2) ∧ Frm w w' (frN B N) := by
 have CO:Hid (∀ w1,SlV w1 w1.heap.size (.slice qv nv cv) vr → Calls Tryz.prog 20 #[.agg #[.int .i64 vn,.bool vg,.slice qv nv cv]] w1 fun e w' => (∃ q3 c3,e = .returned (.agg #[.int .i64 vn,.bool vg,.slice q3 nv c3]) ∧ SlV w' w'.heap.size (.slice q3 nv c3) vr) ∧ Below w1.heap.size w1 w') := co
 have CD:Hid (∀ w1,DB N w w1 B sb most M Kn J (.slice p n c) #[.int .i64 1,.int .i64 sl,.int .i64 tx,.int .i64 vn,.bool vg,.slice qv nv cv,.int .u64 st,.int .i64 lv] → Calls Tryz.prog 35 #[.agg #[.int .i64 (most:Nat),.slice p n c],.int .i64 sl,.int .i64 tx,.agg #[.int .i64 vn,.bool vg,.slice qv nv cv],.int .u64 st] w1 fun e w' => (∃ v1,e = .returned (.tuple #[.agg #[.int .i64 (most:Nat),v1],.int .i64 er]) ∧ DocS w' B v1 (docL M2)) ∧ Below w1.heap.size w1 w') := cd
 have CS:Hid (∀ w1 v1 bo q3 c3,DC N w w1 B sb most M M2 Kn J (.slice p n c) v1 #[.int .i64 1,.int .i64 sl,.int .i64 tx,.int .i64 vn,.bool vg,.slice qv nv cv,.int .u64 st,.int .i64 lv] bo → SlV w1 w1.heap.size (.slice q3 nv c3) vr → Calls Tryz.prog 21 #[ptr1 sb,.int .i64 sl,.int .i64 tx,.agg #[.int .i64 vn,.bool vg,.slice q3 nv c3],.int .u64 st] w1 fun e w' => e = .returned (.int .i64 er) ∧ DE N w w' B sb most M2 K2 J2 v1 bo) := cs
 have HVr:Hid (SlV w w.heap.size (.slice qv nv cv) vr) := hV
 clear cd cs co hV
 have HB0:Hid (DB N w _ B sb most M Kn J (.slice p n c) #[.int .i64 1,.int .i64 sl,.int .i64 tx,.int .i64 vn,.bool vg,.slice qv nv cv,.int .u64 st,.int .i64 lv]) := DB.start h _
 clear h
 go_enter Tryz.func12,Tryz.ntmps12
 go_upto_region 1 with fail
 generalize (((w.alloc (.cells #[.int .i64 (most:Nat),.slice p n c] 29)).alloc (.cells #[.int .i64 1,.int .i64 sl,.int .i64 tx,.int .i64 vn,.bool vg,.slice qv nv cv,.int .u64 st,.int .i64 lv] 41)).alloc (.cells #[.int .i64 0,.slice none 0 0] 29)) = w0 at *
 obtain ⟨⟨m0,m1⟩,a0,a1,a2,a3,a4,a5,a6,a7,_⟩ := HB0.out.cells
 go_wp2_with fail
 refine (CD.out _ HB0.out).mono ?_
 rintro e w1 ⟨⟨v1,rfl,hd⟩,hb1⟩
 obtain ⟨p1,n1,c1,e1⟩:∃ p1 n1 c1,v1 = .slice p1 n1 c1 := by obtain ⟨p1,c1,e1,_⟩ := hd.len; exact ⟨p1,_,c1,e1⟩
 subst e1
 have HC:Hid (DC N w _ B sb most M M2 Kn J (.slice p n c) (.slice p1 n1 c1) #[.int .i64 1,.int .i64 sl,.int .i64 tx,.int .i64 vn,.bool vg,.slice qv nv cv,.int .u64 st,.int .i64 lv] w1.heap.size) := HB0.out.told hb1 hd
 clear hd hb1 m0 m1 a0 a1 a2 a3 a4 a5 a6 a7 CD
 go_upto_region 8 with fail
 generalize (w1.alloc (.cells #[.int .i64 (most:Nat),.slice p1 n1 c1] 29)) = w2 at *
 refine wp_region_any (by kernel_rfl) ?_
 change wpAny _ _ _ _ _ _ _ (World.drew _)
 refine tk (v := ?_) 1 rfl ?_ ?_
 rotate_left
 focus
  intro w9
  go_simp
  try with_reducible rfl
 try simp only [aP]
 refine tk (v := ?_) 2 rfl ?_ ?_
 rotate_left
 focus
  intro w9
  go_simp
  try with_reducible rfl
 try simp only [aP]
 refine tk (v := ?_) 4 rfl ?_ ?_
 rotate_left
 focus
  intro w9
  go_simp
  try with_reducible rfl
 try simp only [aP]
 refine tk (v := ?_) 6 rfl ?_ ?_
 rotate_left
 focus
  intro w9
  go_simp
  try with_reducible rfl
 try simp only [aP]
 refine tk (v := ?_) 9 rfl ?_ ?_
 rotate_left
 focus
  intro w9
  go_simp
  try with_reducible rfl
 try simp only [aP]
 refine tk (v := ?_) 12 rfl ?_ ?_
 rotate_left
 focus
  intro w9
  go_simp
  try with_reducible rfl
 try simp only [aP]
 apply later3 (fun (w4:World) (_:Option Addr) (_:Nat) => Hid (DE N w w4 B sb most M2 K2 J2 (.slice p1 n1 c1) w1.heap.size))
 intro hs0_3_5_7_8_10_11
 apply later3 (fun (w4:World) (_:Option Addr) (_:Nat) => Hid (DE N w w4 B sb most M2 K2 J2 (.slice p1 n1 c1) w1.heap.size))
 intro hs3_5_7_8_10_11
 apply later3 (fun (w3:World) (q3:Option Addr) (c3:Nat) => Hid (DC N w w3 B sb most M M2 Kn J (.slice p n c) (.slice p1 n1 c1) #[.int .i64 1,.int .i64 sl,.int .i64 tx,.int .i64 vn,.bool vg,.slice qv nv cv,.int .u64 st,.int .i64 lv] w1.heap.size ∧ SlV w3 w3.heap.size (.slice q3 nv c3) vr))
 intro hs0_3_5_7_8_10
 apply later3 (fun (w3:World) (q3:Option Addr) (c3:Nat) => Hid (DC N w w3 B sb most M M2 Kn J (.slice p n c) (.slice p1 n1 c1) #[.int .i64 1,.int .i64 sl,.int .i64 tx,.int .i64 vn,.bool vg,.slice qv nv cv,.int .u64 st,.int .i64 lv] w1.heap.size ∧ SlV w3 w3.heap.size (.slice q3 nv c3) vr))
 intro hs3_5_7_8_10
 apply later3 (fun (w3:World) (q3:Option Addr) (c3:Nat) => Hid (DC N w w3 B sb most M M2 Kn J (.slice p n c) (.slice p1 n1 c1) #[.int .i64 1,.int .i64 sl,.int .i64 tx,.int .i64 vn,.bool vg,.slice qv nv cv,.int .u64 st,.int .i64 lv] w1.heap.size ∧ SlV w3 w3.heap.size (.slice q3 nv c3) vr))
 intro hs0_5_7_8_10
 apply later3 (fun (w3:World) (q3:Option Addr) (c3:Nat) => Hid (DC N w w3 B sb most M M2 Kn J (.slice p n c) (.slice p1 n1 c1) #[.int .i64 1,.int .i64 sl,.int .i64 tx,.int .i64 vn,.bool vg,.slice qv nv cv,.int .u64 st,.int .i64 lv] w1.heap.size ∧ SlV w3 w3.heap.size (.slice q3 nv c3) vr))
 intro hs0_3_7_8_10
 apply later0
 intro hs0_3_5_7_10
 apply later3 (fun (w3:World) (q3:Option Addr) (c3:Nat) => Hid (DC N w w3 B sb most M M2 Kn J (.slice p n c) (.slice p1 n1 c1) #[.int .i64 1,.int .i64 sl,.int .i64 tx,.int .i64 vn,.bool vg,.slice qv nv cv,.int .u64 st,.int .i64 lv] w1.heap.size ∧ SlV w3 w3.heap.size (.slice q3 nv c3) vr))
 intro hs0_3_5_7_8
 apply later3 (fun (w3:World) (q3:Option Addr) (c3:Nat) => Hid (DC N w w3 B sb most M M2 Kn J (.slice p n c) (.slice p1 n1 c1) #[.int .i64 1,.int .i64 sl,.int .i64 tx,.int .i64 vn,.bool vg,.slice qv nv cv,.int .u64 st,.int .i64 lv] w1.heap.size ∧ SlV w3 w3.heap.size (.slice q3 nv c3) vr))
 intro hs5_7_8_10
 apply later3 (fun (w3:World) (q3:Option Addr) (c3:Nat) => Hid (DC N w w3 B sb most M M2 Kn J (.slice p n c) (.slice p1 n1 c1) #[.int .i64 1,.int .i64 sl,.int .i64 tx,.int .i64 vn,.bool vg,.slice qv nv cv,.int .u64 st,.int .i64 lv] w1.heap.size ∧ SlV w3 w3.heap.size (.slice q3 nv c3) vr))
 intro hs3_7_8_10
 apply later0
 intro hs3_5_7_10
 apply later3 (fun (w3:World) (q3:Option Addr) (c3:Nat) => Hid (DC N w w3 B sb most M M2 Kn J (.slice p n c) (.slice p1 n1 c1) #[.int .i64 1,.int .i64 sl,.int .i64 tx,.int .i64 vn,.bool vg,.slice qv nv cv,.int .u64 st,.int .i64 lv] w1.heap.size ∧ SlV w3 w3.heap.size (.slice q3 nv c3) vr))
 intro hs3_5_7_8
 apply later3 (fun (w3:World) (q3:Option Addr) (c3:Nat) => Hid (DC N w w3 B sb most M M2 Kn J (.slice p n c) (.slice p1 n1 c1) #[.int .i64 1,.int .i64 sl,.int .i64 tx,.int .i64 vn,.bool vg,.slice qv nv cv,.int .u64 st,.int .i64 lv] w1.heap.size ∧ SlV w3 w3.heap.size (.slice q3 nv c3) vr))
 intro hs0_7_8_10
 apply later0
 intro hs0_5_7_10
 apply later3 (fun (w3:World) (q3:Option Addr) (c3:Nat) => Hid (DC N w w3 B sb most M M2 Kn J (.slice p n c) (.slice p1 n1 c1) #[.int .i64 1,.int .i64 sl,.int .i64 tx,.int .i64 vn,.bool vg,.slice qv nv cv,.int .u64 st,.int .i64 lv] w1.heap.size ∧ SlV w3 w3.heap.size (.slice q3 nv c3) vr))
 intro hs0_5_7_8
 apply later0
 intro hs0_3_7_10
 apply later3 (fun (w3:World) (q3:Option Addr) (c3:Nat) => Hid (DC N w w3 B sb most M M2 Kn J (.slice p n c) (.slice p1 n1 c1) #[.int .i64 1,.int .i64 sl,.int .i64 tx,.int .i64 vn,.bool vg,.slice qv nv cv,.int .u64 st,.int .i64 lv] w1.heap.size ∧ SlV w3 w3.heap.size (.slice q3 nv c3) vr))
 intro hs0_3_7_8
 apply later0
 intro hs0_3_5_10
 apply later0
 intro hs0_3_5_7
 apply later3 (fun (w3:World) (q3:Option Addr) (c3:Nat) => Hid (DC N w w3 B sb most M M2 Kn J (.slice p n c) (.slice p1 n1 c1) #[.int .i64 1,.int .i64 sl,.int .i64 tx,.int .i64 vn,.bool vg,.slice qv nv cv,.int .u64 st,.int .i64 lv] w1.heap.size ∧ SlV w3 w3.heap.size (.slice q3 nv c3) vr))
 intro hs7_8_10
 apply later0
 intro hs5_7_10
 apply later3 (fun (w3:World) (q3:Option Addr) (c3:Nat) => Hid (DC N w w3 B sb most M M2 Kn J (.slice p n c) (.slice p1 n1 c1) #[.int .i64 1,.int .i64 sl,.int .i64 tx,.int .i64 vn,.bool vg,.slice qv nv cv,.int .u64 st,.int .i64 lv] w1.heap.size ∧ SlV w3 w3.heap.size (.slice q3 nv c3) vr))
 intro hs5_7_8
 apply later0
 intro hs3_7_10
 apply later3 (fun (w3:World) (q3:Option Addr) (c3:Nat) => Hid (DC N w w3 B sb most M M2 Kn J (.slice p n c) (.slice p1 n1 c1) #[.int .i64 1,.int .i64 sl,.int .i64 tx,.int .i64 vn,.bool vg,.slice qv nv cv,.int .u64 st,.int .i64 lv] w1.heap.size ∧ SlV w3 w3.heap.size (.slice q3 nv c3) vr))
 intro hs3_7_8
 apply later0
 intro hs3_5_10
 apply later0
 intro hs3_5_7
 apply later0
 intro hs0_7_10
 apply later3 (fun (w3:World) (q3:Option Addr) (c3:Nat) => Hid (DC N w w3 B sb most M M2 Kn J (.slice p n c) (.slice p1 n1 c1) #[.int .i64 1,.int .i64 sl,.int .i64 tx,.int .i64 vn,.bool vg,.slice qv nv cv,.int .u64 st,.int .i64 lv] w1.heap.size ∧ SlV w3 w3.heap.size (.slice q3 nv c3) vr))
 intro hs0_7_8
 apply later0
 intro hs0_5_10
 apply later0
 intro hs0_5_7
 apply later0
 intro hs0_3_10
 apply later0
 intro hs0_3_7
 apply later0
 intro hs0_3_5
 apply later0
 intro hs7_10
 apply later3 (fun (w3:World) (q3:Option Addr) (c3:Nat) => Hid (DC N w w3 B sb most M M2 Kn J (.slice p n c) (.slice p1 n1 c1) #[.int .i64 1,.int .i64 sl,.int .i64 tx,.int .i64 vn,.bool vg,.slice qv nv cv,.int .u64 st,.int .i64 lv] w1.heap.size ∧ SlV w3 w3.heap.size (.slice q3 nv c3) vr))
 intro hs7_8
 apply later0
 intro hs5_10
 apply later0
 intro hs5_7
 apply later0
 intro hs3_10
 apply later0
 intro hs3_7
 apply later0
 intro hs3_5
 apply later0
 intro hs0_10
 apply later0
 intro hs0_7
 apply later0
 intro hs0_5
 apply later0
 intro hs0_3
 apply later0
 intro hs10
 apply later0
 intro hs7
 apply later0
 intro hs5
 apply later0
 intro hs3
 apply later0
 intro hs0
 ·obtain ⟨⟨m0,m1⟩,a0,a1,a2,a3,a4,a5,a6,a7,_⟩ := HC.out.db.cells
  have o0 := box_cell (i := 0) HC.out.o rfl
  have o1 := box_cell (i := 1) HC.out.o rfl
  refine wpAny_ready (rs := [0,3,5,7,10]) (by kernel_rfl) (by simp) ?_
  refine anyN_cons 0 rfl (by rfl) (fun K hK => ?_) (anyN_cons 3 rfl (by rfl) (fun K hK => ?_) (anyN_cons 5 rfl (by rfl) (fun K hK => ?_) (anyN_cons 7 rfl (by rfl) (fun K hK => ?_) (anyN_cons 10 rfl (by rfl) (fun K hK => ?_) AllReady.nil))))
  ·go_simp
   refine hK.out _ _ ?_
   clear hK K
   try simp only [aP]
   exact hs0
  ·go_simp
   refine hK.out _ _ ?_
   clear hK K
   try simp only [aP]
   exact hs3
  ·go_simp
   refine hK.out _ _ ?_
   clear hK K
   try simp only [aP]
   exact hs5
  ·go_simp
   refine hK.out _ _ ?_
   clear hK K
   try simp only [aP]
   exact hs7
  ·go_simp
   refine hK.out _ _ ?_
   clear hK K
   try simp only [aP]
   exact hs10
 ·obtain ⟨⟨m0,m1⟩,a0,a1,a2,a3,a4,a5,a6,a7,_⟩ := HC.out.db.cells
  have o0 := box_cell (i := 0) HC.out.o rfl
  have o1 := box_cell (i := 1) HC.out.o rfl
  refine wpAny_ready (rs := [3,5,7,10]) (by kernel_rfl) (by simp) ?_
  refine anyN_cons 3 rfl (by rfl) (fun K hK => ?_) (anyN_cons 5 rfl (by rfl) (fun K hK => ?_) (anyN_cons 7 rfl (by rfl) (fun K hK => ?_) (anyN_cons 10 rfl (by rfl) (fun K hK => ?_) AllReady.nil)))
  ·go_simp
   refine hK.out _ _ ?_
   clear hK K
   try simp only [aP]
   exact hs0_3
  ·go_simp
   refine hK.out _ _ ?_
   clear hK K
   try simp only [aP]
   exact hs0_5
  ·go_simp
   refine hK.out _ _ ?_
   clear hK K
   try simp only [aP]
   exact hs0_7
  ·go_simp
   refine hK.out _ _ ?_
   clear hK K
   try simp only [aP]
   exact hs0_10
 ·obtain ⟨⟨m0,m1⟩,a0,a1,a2,a3,a4,a5,a6,a7,_⟩ := HC.out.db.cells
  have o0 := box_cell (i := 0) HC.out.o rfl
  have o1 := box_cell (i := 1) HC.out.o rfl
  refine wpAny_ready (rs := [0,5,7,10]) (by kernel_rfl) (by simp) ?_
  refine anyN_cons 0 rfl (by rfl) (fun K hK => ?_) (anyN_cons 5 rfl (by rfl) (fun K hK => ?_) (anyN_cons 7 rfl (by rfl) (fun K hK => ?_) (anyN_cons 10 rfl (by rfl) (fun K hK => ?_) AllReady.nil)))
  ·go_simp
   refine hK.out _ _ ?_
   clear hK K
   try simp only [aP]
   exact hs0_3
  ·go_simp
   refine hK.out _ _ ?_
   clear hK K
   try simp only [aP]
   exact hs3_5
  ·go_simp
   refine hK.out _ _ ?_
   clear hK K
   try simp only [aP]
   exact hs3_7
  ·go_simp
   refine hK.out _ _ ?_
   clear hK K
   try simp only [aP]
   exact hs3_10
 ·obtain ⟨⟨m0,m1⟩,a0,a1,a2,a3,a4,a5,a6,a7,_⟩ := HC.out.db.cells
  have o0 := box_cell (i := 0) HC.out.o rfl
  have o1 := box_cell (i := 1) HC.out.o rfl
  refine wpAny_ready (rs := [0,3,7,10]) (by kernel_rfl) (by simp) ?_
  refine anyN_cons 0 rfl (by rfl) (fun K hK => ?_) (anyN_cons 3 rfl (by rfl) (fun K hK => ?_) (anyN_cons 7 rfl (by rfl) (fun K hK => ?_) (anyN_cons 10 rfl (by rfl) (fun K hK => ?_) AllReady.nil)))
  ·go_simp
   refine hK.out _ _ ?_
   clear hK K
   try simp only [aP]
   exact hs0_5
  ·go_simp
   refine hK.out _ _ ?_
   clear hK K
   try simp only [aP]
   exact hs3_5
  ·go_simp
   refine hK.out _ _ ?_
   clear hK K
   try simp only [aP]
   exact hs5_7
  ·go_simp
   refine hK.out _ _ ?_
   clear hK K
   try simp only [aP]
   exact hs5_10
 ·obtain ⟨⟨m0,m1⟩,a0,a1,a2,a3,a4,a5,a6,a7,_⟩ := HC.out.db.cells
  have o0 := box_cell (i := 0) HC.out.o rfl
  have o1 := box_cell (i := 1) HC.out.o rfl
  refine wpAny_ready (rs := [0,3,5,8,10]) (by kernel_rfl) (by simp) ?_
  refine anyN_cons 0 rfl (by rfl) (fun K hK => ?_) (anyN_cons 3 rfl (by rfl) (fun K hK => ?_) (anyN_cons 5 rfl (by rfl) (fun K hK => ?_) (anyN_cons 8 rfl (by rfl) (fun K hK => ?_) (anyN_cons 10 rfl (by rfl) (fun K hK => ?_) AllReady.nil))))
  ·go_simp
   refine hK.out _ _ ?_
   clear hK K
   try simp only [aP]
   exact hs0_7
  ·go_simp
   refine hK.out _ _ ?_
   clear hK K
   try simp only [aP]
   exact hs3_7
  ·go_simp
   refine hK.out _ _ ?_
   clear hK K
   try simp only [aP]
   exact hs5_7
  ·go_simp
   refine (CO.out _ (HVr.out.imm (Imm.of_below ((HC.out.on ((Below.refl _ _).drew)).db.bel)))).mono ?_
   rintro e w3 ⟨⟨q3,c3,rfl,hq3⟩,hb3⟩
   dsimp only
   have HO:Hid (DC N w w3 B sb most M M2 Kn J (.slice p n c) (.slice p1 n1 c1) #[.int .i64 1,.int .i64 sl,.int .i64 tx,.int .i64 vn,.bool vg,.slice qv nv cv,.int .u64 st,.int .i64 lv] w1.heap.size ∧ SlV w3 w3.heap.size (.slice q3 nv c3) vr) := ⟨(HC.out.on ((Below.refl _ _).drew)).on hb3,hq3⟩
   clear hq3 hb3
   refine hK.out _ _ ?_
   clear hK K
   try simp only [aP]
   exact hs7_8 w3 q3 c3 HO
  ·go_simp
   refine hK.out _ _ ?_
   clear hK K
   try simp only [aP]
   exact hs7_10
 ·obtain ⟨⟨m0,m1⟩,a0,a1,a2,a3,a4,a5,a6,a7,_⟩ := HC.out.db.cells
  have o0 := box_cell (i := 0) HC.out.o rfl
  have o1 := box_cell (i := 1) HC.out.o rfl
  refine wpAny_ready (rs := [0,3,5,7]) (by kernel_rfl) (by simp) ?_
  refine anyN_cons 0 rfl (by rfl) (fun K hK => ?_) (anyN_cons 3 rfl (by rfl) (fun K hK => ?_) (anyN_cons 5 rfl (by rfl) (fun K hK => ?_) (anyN_cons 7 rfl (by rfl) (fun K hK => ?_) AllReady.nil)))
  ·go_simp
   refine hK.out _ _ ?_
   clear hK K
   try simp only [aP]
   exact hs0_10
  ·go_simp
   refine hK.out _ _ ?_
   clear hK K
   try simp only [aP]
   exact hs3_10
  ·go_simp
   refine hK.out _ _ ?_
   clear hK K
   try simp only [aP]
   exact hs5_10
  ·go_simp
   refine hK.out _ _ ?_
   clear hK K
   try simp only [aP]
   exact hs7_10
 ·obtain ⟨⟨m0,m1⟩,a0,a1,a2,a3,a4,a5,a6,a7,_⟩ := HC.out.db.cells
  have o0 := box_cell (i := 0) HC.out.o rfl
  have o1 := box_cell (i := 1) HC.out.o rfl
  refine wpAny_ready (rs := [5,7,10]) (by kernel_rfl) (by simp) ?_
  refine anyN_cons 5 rfl (by rfl) (fun K hK => ?_) (anyN_cons 7 rfl (by rfl) (fun K hK => ?_) (anyN_cons 10 rfl (by rfl) (fun K hK => ?_) AllReady.nil))
  ·go_simp
   refine hK.out _ _ ?_
   clear hK K
   try simp only [aP]
   exact hs0_3_5
  ·go_simp
   refine hK.out _ _ ?_
   clear hK K
   try simp only [aP]
   exact hs0_3_7
  ·go_simp
   refine hK.out _ _ ?_
   clear hK K
   try simp only [aP]
   exact hs0_3_10
 ·obtain ⟨⟨m0,m1⟩,a0,a1,a2,a3,a4,a5,a6,a7,_⟩ := HC.out.db.cells
  have o0 := box_cell (i := 0) HC.out.o rfl
  have o1 := box_cell (i := 1) HC.out.o rfl
  refine wpAny_ready (rs := [3,7,10]) (by kernel_rfl) (by simp) ?_
  refine anyN_cons 3 rfl (by rfl) (fun K hK => ?_) (anyN_cons 7 rfl (by rfl) (fun K hK => ?_) (anyN_cons 10 rfl (by rfl) (fun K hK => ?_) AllReady.nil))
  ·go_simp
   refine hK.out _ _ ?_
   clear hK K
   try simp only [aP]
   exact hs0_3_5
  ·go_simp
   refine hK.out _ _ ?_
   clear hK K
   try simp only [aP]
   exact hs0_5_7
  ·go_simp
   refine hK.out _ _ ?_
   clear hK K
   try simp only [aP]
   exact hs0_5_10
 ·obtain ⟨⟨m0,m1⟩,a0,a1,a2,a3,a4,a5,a6,a7,_⟩ := HC.out.db.cells
  have o0 := box_cell (i := 0) HC.out.o rfl
  have o1 := box_cell (i := 1) HC.out.o rfl
  refine wpAny_ready (rs := [3,5,8,10]) (by kernel_rfl) (by simp) ?_
  refine anyN_cons 3 rfl (by rfl) (fun K hK => ?_) (anyN_cons 5 rfl (by rfl) (fun K hK => ?_) (anyN_cons 8 rfl (by rfl) (fun K hK => ?_) (anyN_cons 10 rfl (by rfl) (fun K hK => ?_) AllReady.nil)))
  ·go_simp
   refine hK.out _ _ ?_
   clear hK K
   try simp only [aP]
   exact hs0_3_7
  ·go_simp
   refine hK.out _ _ ?_
   clear hK K
   try simp only [aP]
   exact hs0_5_7
  ·go_simp
   refine (CO.out _ (HVr.out.imm (Imm.of_below ((HC.out.on ((Below.refl _ _).drew)).db.bel)))).mono ?_
   rintro e w3 ⟨⟨q3,c3,rfl,hq3⟩,hb3⟩
   dsimp only
   have HO:Hid (DC N w w3 B sb most M M2 Kn J (.slice p n c) (.slice p1 n1 c1) #[.int .i64 1,.int .i64 sl,.int .i64 tx,.int .i64 vn,.bool vg,.slice qv nv cv,.int .u64 st,.int .i64 lv] w1.heap.size ∧ SlV w3 w3.heap.size (.slice q3 nv c3) vr) := ⟨(HC.out.on ((Below.refl _ _).drew)).on hb3,hq3⟩
   clear hq3 hb3
   refine hK.out _ _ ?_
   clear hK K
   try simp only [aP]
   exact hs0_7_8 w3 q3 c3 HO
  ·go_simp
   refine hK.out _ _ ?_
   clear hK K
   try simp only [aP]
   exact hs0_7_10
 ·obtain ⟨⟨m0,m1⟩,a0,a1,a2,a3,a4,a5,a6,a7,_⟩ := HC.out.db.cells
  have o0 := box_cell (i := 0) HC.out.o rfl
  have o1 := box_cell (i := 1) HC.out.o rfl
  refine wpAny_ready (rs := [3,5,7]) (by kernel_rfl) (by simp) ?_
  refine anyN_cons 3 rfl (by rfl) (fun K hK => ?_) (anyN_cons 5 rfl (by rfl) (fun K hK => ?_) (anyN_cons 7 rfl (by rfl) (fun K hK => ?_) AllReady.nil))
  ·go_simp
   refine hK.out _ _ ?_
   clear hK K
   try simp only [aP]
   exact hs0_3_10
  ·go_simp
   refine hK.out _ _ ?_
   clear hK K
   try simp only [aP]
   exact hs0_5_10
  ·go_simp
   refine hK.out _ _ ?_
   clear hK K
   try simp only [aP]
   exact hs0_7_10
 ·obtain ⟨⟨m0,m1⟩,a0,a1,a2,a3,a4,a5,a6,a7,_⟩ := HC.out.db.cells
  have o0 := box_cell (i := 0) HC.out.o rfl
  have o1 := box_cell (i := 1) HC.out.o rfl
  refine wpAny_ready (rs := [0,7,10]) (by kernel_rfl) (by simp) ?_
  refine anyN_cons 0 rfl (by rfl) (fun K hK => ?_) (anyN_cons 7 rfl (by rfl) (fun K hK => ?_) (anyN_cons 10 rfl (by rfl) (fun K hK => ?_) AllReady.nil))
  ·go_simp
   refine hK.out _ _ ?_
   clear hK K
   try simp only [aP]
   exact hs0_3_5
  ·go_simp
   refine hK.out _ _ ?_
   clear hK K
   try simp only [aP]
   exact hs3_5_7
  ·go_simp
   refine hK.out _ _ ?_
   clear hK K
   try simp only [aP]
   exact hs3_5_10
 ·obtain ⟨⟨m0,m1⟩,a0,a1,a2,a3,a4,a5,a6,a7,_⟩ := HC.out.db.cells
  have o0 := box_cell (i := 0) HC.out.o rfl
  have o1 := box_cell (i := 1) HC.out.o rfl
  refine wpAny_ready (rs := [0,5,8,10]) (by kernel_rfl) (by simp) ?_
  refine anyN_cons 0 rfl (by rfl) (fun K hK => ?_) (anyN_cons 5 rfl (by rfl) (fun K hK => ?_) (anyN_cons 8 rfl (by rfl) (fun K hK => ?_) (anyN_cons 10 rfl (by rfl) (fun K hK => ?_) AllReady.nil)))
  ·go_simp
   refine hK.out _ _ ?_
   clear hK K
   try simp only [aP]
   exact hs0_3_7
  ·go_simp
   refine hK.out _ _ ?_
   clear hK K
   try simp only [aP]
   exact hs3_5_7
  ·go_simp
   refine (CO.out _ (HVr.out.imm (Imm.of_below ((HC.out.on ((Below.refl _ _).drew)).db.bel)))).mono ?_
   rintro e w3 ⟨⟨q3,c3,rfl,hq3⟩,hb3⟩
   dsimp only
   have HO:Hid (DC N w w3 B sb most M M2 Kn J (.slice p n c) (.slice p1 n1 c1) #[.int .i64 1,.int .i64 sl,.int .i64 tx,.int .i64 vn,.bool vg,.slice qv nv cv,.int .u64 st,.int .i64 lv] w1.heap.size ∧ SlV w3 w3.heap.size (.slice q3 nv c3) vr) := ⟨(HC.out.on ((Below.refl _ _).drew)).on hb3,hq3⟩
   clear hq3 hb3
   refine hK.out _ _ ?_
   clear hK K
   try simp only [aP]
   exact hs3_7_8 w3 q3 c3 HO
  ·go_simp
   refine hK.out _ _ ?_
   clear hK K
   try simp only [aP]
   exact hs3_7_10
 ·obtain ⟨⟨m0,m1⟩,a0,a1,a2,a3,a4,a5,a6,a7,_⟩ := HC.out.db.cells
  have o0 := box_cell (i := 0) HC.out.o rfl
  have o1 := box_cell (i := 1) HC.out.o rfl
  refine wpAny_ready (rs := [0,5,7]) (by kernel_rfl) (by simp) ?_
  refine anyN_cons 0 rfl (by rfl) (fun K hK => ?_) (anyN_cons 5 rfl (by rfl) (fun K hK => ?_) (anyN_cons 7 rfl (by rfl) (fun K hK => ?_) AllReady.nil))
  ·go_simp
   refine hK.out _ _ ?_
   clear hK K
   try simp only [aP]
   exact hs0_3_10
  ·go_simp
   refine hK.out _ _ ?_
   clear hK K
   try simp only [aP]
   exact hs3_5_10
  ·go_simp
   refine hK.out _ _ ?_
   clear hK K
   try simp only [aP]
   exact hs3_7_10
 ·obtain ⟨⟨m0,m1⟩,a0,a1,a2,a3,a4,a5,a6,a7,_⟩ := HC.out.db.cells
  have o0 := box_cell (i := 0) HC.out.o rfl
  have o1 := box_cell (i := 1) HC.out.o rfl
  refine wpAny_ready (rs := [0,3,8,10]) (by kernel_rfl) (by simp) ?_
  refine anyN_cons 0 rfl (by rfl) (fun K hK => ?_) (anyN_cons 3 rfl (by rfl) (fun K hK => ?_) (anyN_cons 8 rfl (by rfl) (fun K hK => ?_) (anyN_cons 10 rfl (by rfl) (fun K hK => ?_) AllReady.nil)))
  ·go_simp
   refine hK.out _ _ ?_
   clear hK K
   try simp only [aP]
   exact hs0_5_7
  ·go_simp
   refine hK.out _ _ ?_
   clear hK K
   try simp only [aP]
   exact hs3_5_7
  ·go_simp
   refine (CO.out _ (HVr.out.imm (Imm.of_below ((HC.out.on ((Below.refl _ _).drew)).db.bel)))).mono ?_
   rintro e w3 ⟨⟨q3,c3,rfl,hq3⟩,hb3⟩
   dsimp only
   have HO:Hid (DC N w w3 B sb most M M2 Kn J (.slice p n c) (.slice p1 n1 c1) #[.int .i64 1,.int .i64 sl,.int .i64 tx,.int .i64 vn,.bool vg,.slice qv nv cv,.int .u64 st,.int .i64 lv] w1.heap.size ∧ SlV w3 w3.heap.size (.slice q3 nv c3) vr) := ⟨(HC.out.on ((Below.refl _ _).drew)).on hb3,hq3⟩
   clear hq3 hb3
   refine hK.out _ _ ?_
   clear hK K
   try simp only [aP]
   exact hs5_7_8 w3 q3 c3 HO
  ·go_simp
   refine hK.out _ _ ?_
   clear hK K
   try simp only [aP]
   exact hs5_7_10
 ·obtain ⟨⟨m0,m1⟩,a0,a1,a2,a3,a4,a5,a6,a7,_⟩ := HC.out.db.cells
  have o0 := box_cell (i := 0) HC.out.o rfl
  have o1 := box_cell (i := 1) HC.out.o rfl
  refine wpAny_ready (rs := [0,3,7]) (by kernel_rfl) (by simp) ?_
  refine anyN_cons 0 rfl (by rfl) (fun K hK => ?_) (anyN_cons 3 rfl (by rfl) (fun K hK => ?_) (anyN_cons 7 rfl (by rfl) (fun K hK => ?_) AllReady.nil))
  ·go_simp
   refine hK.out _ _ ?_
   clear hK K
   try simp only [aP]
   exact hs0_5_10
  ·go_simp
   refine hK.out _ _ ?_
   clear hK K
   try simp only [aP]
   exact hs3_5_10
  ·go_simp
   refine hK.out _ _ ?_
   clear hK K
   try simp only [aP]
   exact hs5_7_10
 ·intro w3 q3 c3 HO
  obtain ⟨⟨m0,m1⟩,a0,a1,a2,a3,a4,a5,a6,a7,_⟩ := HO.out.1.db.cells
  have o0 := box_cell (i := 0) HO.out.1.o rfl
  have o1 := box_cell (i := 1) HO.out.1.o rfl
  refine wpAny_ready (rs := [0,3,5,10]) (by kernel_rfl) (by simp) ?_
  refine anyN_cons 0 rfl (by rfl) (fun K hK => ?_) (anyN_cons 3 rfl (by rfl) (fun K hK => ?_) (anyN_cons 5 rfl (by rfl) (fun K hK => ?_) (anyN_cons 10 rfl (by rfl) (fun K hK => ?_) AllReady.nil)))
  ·go_simp
   refine hK.out _ _ ?_
   clear hK K
   try simp only [aP]
   exact hs0_7_8 w3 q3 c3 HO
  ·go_simp
   refine hK.out _ _ ?_
   clear hK K
   try simp only [aP]
   exact hs3_7_8 w3 q3 c3 HO
  ·go_simp
   refine hK.out _ _ ?_
   clear hK K
   try simp only [aP]
   exact hs5_7_8 w3 q3 c3 HO
  ·go_simp
   refine hK.out _ _ ?_
   clear hK K
   try simp only [aP]
   exact hs7_8_10 w3 q3 c3 HO
 ·obtain ⟨⟨m0,m1⟩,a0,a1,a2,a3,a4,a5,a6,a7,_⟩ := HC.out.db.cells
  have o0 := box_cell (i := 0) HC.out.o rfl
  have o1 := box_cell (i := 1) HC.out.o rfl
  refine wpAny_ready (rs := [0,3,5,8]) (by kernel_rfl) (by simp) ?_
  refine anyN_cons 0 rfl (by rfl) (fun K hK => ?_) (anyN_cons 3 rfl (by rfl) (fun K hK => ?_) (anyN_cons 5 rfl (by rfl) (fun K hK => ?_) (anyN_cons 8 rfl (by rfl) (fun K hK => ?_) AllReady.nil)))
  ·go_simp
   refine hK.out _ _ ?_
   clear hK K
   try simp only [aP]
   exact hs0_7_10
  ·go_simp
   refine hK.out _ _ ?_
   clear hK K
   try simp only [aP]
   exact hs3_7_10
  ·go_simp
   refine hK.out _ _ ?_
   clear hK K
   try simp only [aP]
   exact hs5_7_10
  ·go_simp
   refine (CO.out _ (HVr.out.imm (Imm.of_below ((HC.out.on ((Below.refl _ _).drew)).db.bel)))).mono ?_
   rintro e w3 ⟨⟨q3,c3,rfl,hq3⟩,hb3⟩
   dsimp only
   have HO:Hid (DC N w w3 B sb most M M2 Kn J (.slice p n c) (.slice p1 n1 c1) #[.int .i64 1,.int .i64 sl,.int .i64 tx,.int .i64 vn,.bool vg,.slice qv nv cv,.int .u64 st,.int .i64 lv] w1.heap.size ∧ SlV w3 w3.heap.size (.slice q3 nv c3) vr) := ⟨(HC.out.on ((Below.refl _ _).drew)).on hb3,hq3⟩
   clear hq3 hb3
   refine hK.out _ _ ?_
   clear hK K
   try simp only [aP]
   exact hs7_8_10 w3 q3 c3 HO
 ·obtain ⟨⟨m0,m1⟩,a0,a1,a2,a3,a4,a5,a6,a7,_⟩ := HC.out.db.cells
  have o0 := box_cell (i := 0) HC.out.o rfl
  have o1 := box_cell (i := 1) HC.out.o rfl
  refine wpAny_ready (rs := [7,10]) (by kernel_rfl) (by simp) ?_
  refine anyN_cons 7 rfl (by rfl) (fun K hK => ?_) (anyN_cons 10 rfl (by rfl) (fun K hK => ?_) AllReady.nil)
  ·go_simp
   refine hK.out _ _ ?_
   clear hK K
   try simp only [aP]
   exact hs0_3_5_7
  ·go_simp
   refine hK.out _ _ ?_
   clear hK K
   try simp only [aP]
   exact hs0_3_5_10
 ·obtain ⟨⟨m0,m1⟩,a0,a1,a2,a3,a4,a5,a6,a7,_⟩ := HC.out.db.cells
  have o0 := box_cell (i := 0) HC.out.o rfl
  have o1 := box_cell (i := 1) HC.out.o rfl
  refine wpAny_ready (rs := [5,8,10]) (by kernel_rfl) (by simp) ?_
  refine anyN_cons 5 rfl (by rfl) (fun K hK => ?_) (anyN_cons 8 rfl (by rfl) (fun K hK => ?_) (anyN_cons 10 rfl (by rfl) (fun K hK => ?_) AllReady.nil))
  ·go_simp
   refine hK.out _ _ ?_
   clear hK K
   try simp only [aP]
   exact hs0_3_5_7
  ·go_simp
   refine (CO.out _ (HVr.out.imm (Imm.of_below ((HC.out.on ((Below.refl _ _).drew)).db.bel)))).mono ?_
   rintro e w3 ⟨⟨q3,c3,rfl,hq3⟩,hb3⟩
   dsimp only
   have HO:Hid (DC N w w3 B sb most M M2 Kn J (.slice p n c) (.slice p1 n1 c1) #[.int .i64 1,.int .i64 sl,.int .i64 tx,.int .i64 vn,.bool vg,.slice qv nv cv,.int .u64 st,.int .i64 lv] w1.heap.size ∧ SlV w3 w3.heap.size (.slice q3 nv c3) vr) := ⟨(HC.out.on ((Below.refl _ _).drew)).on hb3,hq3⟩
   clear hq3 hb3
   refine hK.out _ _ ?_
   clear hK K
   try simp only [aP]
   exact hs0_3_7_8 w3 q3 c3 HO
  ·go_simp
   refine hK.out _ _ ?_
   clear hK K
   try simp only [aP]
   exact hs0_3_7_10
 ·obtain ⟨⟨m0,m1⟩,a0,a1,a2,a3,a4,a5,a6,a7,_⟩ := HC.out.db.cells
  have o0 := box_cell (i := 0) HC.out.o rfl
  have o1 := box_cell (i := 1) HC.out.o rfl
  refine wpAny_ready (rs := [5,7]) (by kernel_rfl) (by simp) ?_
  refine anyN_cons 5 rfl (by rfl) (fun K hK => ?_) (anyN_cons 7 rfl (by rfl) (fun K hK => ?_) AllReady.nil)
  ·go_simp
   refine hK.out _ _ ?_
   clear hK K
   try simp only [aP]
   exact hs0_3_5_10
  ·go_simp
   refine hK.out _ _ ?_
   clear hK K
   try simp only [aP]
   exact hs0_3_7_10
 ·obtain ⟨⟨m0,m1⟩,a0,a1,a2,a3,a4,a5,a6,a7,_⟩ := HC.out.db.cells
  have o0 := box_cell (i := 0) HC.out.o rfl
  have o1 := box_cell (i := 1) HC.out.o rfl
  refine wpAny_ready (rs := [3,8,10]) (by kernel_rfl) (by simp) ?_
  refine anyN_cons 3 rfl (by rfl) (fun K hK => ?_) (anyN_cons 8 rfl (by rfl) (fun K hK => ?_) (anyN_cons 10 rfl (by rfl) (fun K hK => ?_) AllReady.nil))
  ·go_simp
   refine hK.out _ _ ?_
   clear hK K
   try simp only [aP]
   exact hs0_3_5_7
  ·go_simp
   refine (CO.out _ (HVr.out.imm (Imm.of_below ((HC.out.on ((Below.refl _ _).drew)).db.bel)))).mono ?_
   rintro e w3 ⟨⟨q3,c3,rfl,hq3⟩,hb3⟩
   dsimp only
   have HO:Hid (DC N w w3 B sb most M M2 Kn J (.slice p n c) (.slice p1 n1 c1) #[.int .i64 1,.int .i64 sl,.int .i64 tx,.int .i64 vn,.bool vg,.slice qv nv cv,.int .u64 st,.int .i64 lv] w1.heap.size ∧ SlV w3 w3.heap.size (.slice q3 nv c3) vr) := ⟨(HC.out.on ((Below.refl _ _).drew)).on hb3,hq3⟩
   clear hq3 hb3
   refine hK.out _ _ ?_
   clear hK K
   try simp only [aP]
   exact hs0_5_7_8 w3 q3 c3 HO
  ·go_simp
   refine hK.out _ _ ?_
   clear hK K
   try simp only [aP]
   exact hs0_5_7_10
 ·obtain ⟨⟨m0,m1⟩,a0,a1,a2,a3,a4,a5,a6,a7,_⟩ := HC.out.db.cells
  have o0 := box_cell (i := 0) HC.out.o rfl
  have o1 := box_cell (i := 1) HC.out.o rfl
  refine wpAny_ready (rs := [3,7]) (by kernel_rfl) (by simp) ?_
  refine anyN_cons 3 rfl (by rfl) (fun K hK => ?_) (anyN_cons 7 rfl (by rfl) (fun K hK => ?_) AllReady.nil)
  ·go_simp
   refine hK.out _ _ ?_
   clear hK K
   try simp only [aP]
   exact hs0_3_5_10
  ·go_simp
   refine hK.out _ _ ?_
   clear hK K
   try simp only [aP]
   exact hs0_5_7_10
 ·intro w3 q3 c3 HO
  obtain ⟨⟨m0,m1⟩,a0,a1,a2,a3,a4,a5,a6,a7,_⟩ := HO.out.1.db.cells
  have o0 := box_cell (i := 0) HO.out.1.o rfl
  have o1 := box_cell (i := 1) HO.out.1.o rfl
  refine wpAny_ready (rs := [3,5,10]) (by kernel_rfl) (by simp) ?_
  refine anyN_cons 3 rfl (by rfl) (fun K hK => ?_) (anyN_cons 5 rfl (by rfl) (fun K hK => ?_) (anyN_cons 10 rfl (by rfl) (fun K hK => ?_) AllReady.nil))
  ·go_simp
   refine hK.out _ _ ?_
   clear hK K
   try simp only [aP]
   exact hs0_3_7_8 w3 q3 c3 HO
  ·go_simp
   refine hK.out _ _ ?_
   clear hK K
   try simp only [aP]
   exact hs0_5_7_8 w3 q3 c3 HO
  ·go_simp
   refine hK.out _ _ ?_
   clear hK K
   try simp only [aP]
   exact hs0_7_8_10 w3 q3 c3 HO
 ·obtain ⟨⟨m0,m1⟩,a0,a1,a2,a3,a4,a5,a6,a7,_⟩ := HC.out.db.cells
  have o0 := box_cell (i := 0) HC.out.o rfl
  have o1 := box_cell (i := 1) HC.out.o rfl
  refine wpAny_ready (rs := [3,5,8]) (by kernel_rfl) (by simp) ?_
  refine anyN_cons 3 rfl (by rfl) (fun K hK => ?_) (anyN_cons 5 rfl (by rfl) (fun K hK => ?_) (anyN_cons 8 rfl (by rfl) (fun K hK => ?_) AllReady.nil))
  ·go_simp
   refine hK.out _ _ ?_
   clear hK K
   try simp only [aP]
   exact hs0_3_7_10
  ·go_simp
   refine hK.out _ _ ?_
   clear hK K
   try simp only [aP]
   exact hs0_5_7_10
  ·go_simp
   refine (CO.out _ (HVr.out.imm (Imm.of_below ((HC.out.on ((Below.refl _ _).drew)).db.bel)))).mono ?_
   rintro e w3 ⟨⟨q3,c3,rfl,hq3⟩,hb3⟩
   dsimp only
   have HO:Hid (DC N w w3 B sb most M M2 Kn J (.slice p n c) (.slice p1 n1 c1) #[.int .i64 1,.int .i64 sl,.int .i64 tx,.int .i64 vn,.bool vg,.slice qv nv cv,.int .u64 st,.int .i64 lv] w1.heap.size ∧ SlV w3 w3.heap.size (.slice q3 nv c3) vr) := ⟨(HC.out.on ((Below.refl _ _).drew)).on hb3,hq3⟩
   clear hq3 hb3
   refine hK.out _ _ ?_
   clear hK K
   try simp only [aP]
   exact hs0_7_8_10 w3 q3 c3 HO
 ·obtain ⟨⟨m0,m1⟩,a0,a1,a2,a3,a4,a5,a6,a7,_⟩ := HC.out.db.cells
  have o0 := box_cell (i := 0) HC.out.o rfl
  have o1 := box_cell (i := 1) HC.out.o rfl
  refine wpAny_ready (rs := [0,8,10]) (by kernel_rfl) (by simp) ?_
  refine anyN_cons 0 rfl (by rfl) (fun K hK => ?_) (anyN_cons 8 rfl (by rfl) (fun K hK => ?_) (anyN_cons 10 rfl (by rfl) (fun K hK => ?_) AllReady.nil))
  ·go_simp
   refine hK.out _ _ ?_
   clear hK K
   try simp only [aP]
   exact hs0_3_5_7
  ·go_simp
   refine (CO.out _ (HVr.out.imm (Imm.of_below ((HC.out.on ((Below.refl _ _).drew)).db.bel)))).mono ?_
   rintro e w3 ⟨⟨q3,c3,rfl,hq3⟩,hb3⟩
   dsimp only
   have HO:Hid (DC N w w3 B sb most M M2 Kn J (.slice p n c) (.slice p1 n1 c1) #[.int .i64 1,.int .i64 sl,.int .i64 tx,.int .i64 vn,.bool vg,.slice qv nv cv,.int .u64 st,.int .i64 lv] w1.heap.size ∧ SlV w3 w3.heap.size (.slice q3 nv c3) vr) := ⟨(HC.out.on ((Below.refl _ _).drew)).on hb3,hq3⟩
   clear hq3 hb3
   refine hK.out _ _ ?_
   clear hK K
   try simp only [aP]
   exact hs3_5_7_8 w3 q3 c3 HO
  ·go_simp
   refine hK.out _ _ ?_
   clear hK K
   try simp only [aP]
   exact hs3_5_7_10
 ·obtain ⟨⟨m0,m1⟩,a0,a1,a2,a3,a4,a5,a6,a7,_⟩ := HC.out.db.cells
  have o0 := box_cell (i := 0) HC.out.o rfl
  have o1 := box_cell (i := 1) HC.out.o rfl
  refine wpAny_ready (rs := [0,7]) (by kernel_rfl) (by simp) ?_
  refine anyN_cons 0 rfl (by rfl) (fun K hK => ?_) (anyN_cons 7 rfl (by rfl) (fun K hK => ?_) AllReady.nil)
  ·go_simp
   refine hK.out _ _ ?_
   clear hK K
   try simp only [aP]
   exact hs0_3_5_10
  ·go_simp
   refine hK.out _ _ ?_
   clear hK K
   try simp only [aP]
   exact hs3_5_7_10
 ·intro w3 q3 c3 HO
  obtain ⟨⟨m0,m1⟩,a0,a1,a2,a3,a4,a5,a6,a7,_⟩ := HO.out.1.db.cells
  have o0 := box_cell (i := 0) HO.out.1.o rfl
  have o1 := box_cell (i := 1) HO.out.1.o rfl
  refine wpAny_ready (rs := [0,5,10]) (by kernel_rfl) (by simp) ?_
  refine anyN_cons 0 rfl (by rfl) (fun K hK => ?_) (anyN_cons 5 rfl (by rfl) (fun K hK => ?_) (anyN_cons 10 rfl (by rfl) (fun K hK => ?_) AllReady.nil))
  ·go_simp
   refine hK.out _ _ ?_
   clear hK K
   try simp only [aP]
   exact hs0_3_7_8 w3 q3 c3 HO
  ·go_simp
   refine hK.out _ _ ?_
   clear hK K
   try simp only [aP]
   exact hs3_5_7_8 w3 q3 c3 HO
  ·go_simp
   refine hK.out _ _ ?_
   clear hK K
   try simp only [aP]
   exact hs3_7_8_10 w3 q3 c3 HO
 ·obtain ⟨⟨m0,m1⟩,a0,a1,a2,a3,a4,a5,a6,a7,_⟩ := HC.out.db.cells
  have o0 := box_cell (i := 0) HC.out.o rfl
  have o1 := box_cell (i := 1) HC.out.o rfl
  refine wpAny_ready (rs := [0,5,8]) (by kernel_rfl) (by simp) ?_
  refine anyN_cons 0 rfl (by rfl) (fun K hK => ?_) (anyN_cons 5 rfl (by rfl) (fun K hK => ?_) (anyN_cons 8 rfl (by rfl) (fun K hK => ?_) AllReady.nil))
  ·go_simp
   refine hK.out _ _ ?_
   clear hK K
   try simp only [aP]
   exact hs0_3_7_10
  ·go_simp
   refine hK.out _ _ ?_
   clear hK K
   try simp only [aP]
   exact hs3_5_7_10
  ·go_simp
   refine (CO.out _ (HVr.out.imm (Imm.of_below ((HC.out.on ((Below.refl _ _).drew)).db.bel)))).mono ?_
   rintro e w3 ⟨⟨q3,c3,rfl,hq3⟩,hb3⟩
   dsimp only
   have HO:Hid (DC N w w3 B sb most M M2 Kn J (.slice p n c) (.slice p1 n1 c1) #[.int .i64 1,.int .i64 sl,.int .i64 tx,.int .i64 vn,.bool vg,.slice qv nv cv,.int .u64 st,.int .i64 lv] w1.heap.size ∧ SlV w3 w3.heap.size (.slice q3 nv c3) vr) := ⟨(HC.out.on ((Below.refl _ _).drew)).on hb3,hq3⟩
   clear hq3 hb3
   refine hK.out _ _ ?_
   clear hK K
   try simp only [aP]
   exact hs3_7_8_10 w3 q3 c3 HO
 ·intro w3 q3 c3 HO
  obtain ⟨⟨m0,m1⟩,a0,a1,a2,a3,a4,a5,a6,a7,_⟩ := HO.out.1.db.cells
  have o0 := box_cell (i := 0) HO.out.1.o rfl
  have o1 := box_cell (i := 1) HO.out.1.o rfl
  refine wpAny_ready (rs := [0,3,10]) (by kernel_rfl) (by simp) ?_
  refine anyN_cons 0 rfl (by rfl) (fun K hK => ?_) (anyN_cons 3 rfl (by rfl) (fun K hK => ?_) (anyN_cons 10 rfl (by rfl) (fun K hK => ?_) AllReady.nil))
  ·go_simp
   refine hK.out _ _ ?_
   clear hK K
   try simp only [aP]
   exact hs0_5_7_8 w3 q3 c3 HO
  ·go_simp
   refine hK.out _ _ ?_
   clear hK K
   try simp only [aP]
   exact hs3_5_7_8 w3 q3 c3 HO
  ·go_simp
   refine hK.out _ _ ?_
   clear hK K
   try simp only [aP]
   exact hs5_7_8_10 w3 q3 c3 HO
 ·obtain ⟨⟨m0,m1⟩,a0,a1,a2,a3,a4,a5,a6,a7,_⟩ := HC.out.db.cells
  have o0 := box_cell (i := 0) HC.out.o rfl
  have o1 := box_cell (i := 1) HC.out.o rfl
  refine wpAny_ready (rs := [0,3,8]) (by kernel_rfl) (by simp) ?_
  refine anyN_cons 0 rfl (by rfl) (fun K hK => ?_) (anyN_cons 3 rfl (by rfl) (fun K hK => ?_) (anyN_cons 8 rfl (by rfl) (fun K hK => ?_) AllReady.nil))
  ·go_simp
   refine hK.out _ _ ?_
   clear hK K
   try simp only [aP]
   exact hs0_5_7_10
  ·go_simp
   refine hK.out _ _ ?_
   clear hK K
   try simp only [aP]
   exact hs3_5_7_10
  ·go_simp
   refine (CO.out _ (HVr.out.imm (Imm.of_below ((HC.out.on ((Below.refl _ _).drew)).db.bel)))).mono ?_
   rintro e w3 ⟨⟨q3,c3,rfl,hq3⟩,hb3⟩
   dsimp only
   have HO:Hid (DC N w w3 B sb most M M2 Kn J (.slice p n c) (.slice p1 n1 c1) #[.int .i64 1,.int .i64 sl,.int .i64 tx,.int .i64 vn,.bool vg,.slice qv nv cv,.int .u64 st,.int .i64 lv] w1.heap.size ∧ SlV w3 w3.heap.size (.slice q3 nv c3) vr) := ⟨(HC.out.on ((Below.refl _ _).drew)).on hb3,hq3⟩
   clear hq3 hb3
   refine hK.out _ _ ?_
   clear hK K
   try simp only [aP]
   exact hs5_7_8_10 w3 q3 c3 HO
 ·intro w3 q3 c3 HO
  obtain ⟨⟨m0,m1⟩,a0,a1,a2,a3,a4,a5,a6,a7,_⟩ := HO.out.1.db.cells
  have o0 := box_cell (i := 0) HO.out.1.o rfl
  have o1 := box_cell (i := 1) HO.out.1.o rfl
  refine wpAny_ready (rs := [0,3,5]) (by kernel_rfl) (by simp) ?_
  refine anyN_cons 0 rfl (by rfl) (fun K hK => ?_) (anyN_cons 3 rfl (by rfl) (fun K hK => ?_) (anyN_cons 5 rfl (by rfl) (fun K hK => ?_) AllReady.nil))
  ·go_simp
   refine hK.out _ _ ?_
   clear hK K
   try simp only [aP]
   exact hs0_7_8_10 w3 q3 c3 HO
  ·go_simp
   refine hK.out _ _ ?_
   clear hK K
   try simp only [aP]
   exact hs3_7_8_10 w3 q3 c3 HO
  ·go_simp
   refine hK.out _ _ ?_
   clear hK K
   try simp only [aP]
   exact hs5_7_8_10 w3 q3 c3 HO
 ·obtain ⟨⟨m0,m1⟩,a0,a1,a2,a3,a4,a5,a6,a7,_⟩ := HC.out.db.cells
  have o0 := box_cell (i := 0) HC.out.o rfl
  have o1 := box_cell (i := 1) HC.out.o rfl
  refine wpAny_ready (rs := [8,10]) (by kernel_rfl) (by simp) ?_
  refine anyN_cons 8 rfl (by rfl) (fun K hK => ?_) (anyN_cons 10 rfl (by rfl) (fun K hK => ?_) AllReady.nil)
  ·go_simp
   refine (CO.out _ (HVr.out.imm (Imm.of_below ((HC.out.on ((Below.refl _ _).drew)).db.bel)))).mono ?_
   rintro e w3 ⟨⟨q3,c3,rfl,hq3⟩,hb3⟩
   dsimp only
   have HO:Hid (DC N w w3 B sb most M M2 Kn J (.slice p n c) (.slice p1 n1 c1) #[.int .i64 1,.int .i64 sl,.int .i64 tx,.int .i64 vn,.bool vg,.slice qv nv cv,.int .u64 st,.int .i64 lv] w1.heap.size ∧ SlV w3 w3.heap.size (.slice q3 nv c3) vr) := ⟨(HC.out.on ((Below.refl _ _).drew)).on hb3,hq3⟩
   clear hq3 hb3
   refine hK.out _ _ ?_
   clear hK K
   try simp only [aP]
   exact hs0_3_5_7_8 w3 q3 c3 HO
  ·go_simp
   refine hK.out _ _ ?_
   clear hK K
   try simp only [aP]
   exact hs0_3_5_7_10
 ·obtain ⟨⟨m0,m1⟩,a0,a1,a2,a3,a4,a5,a6,a7,_⟩ := HC.out.db.cells
  have o0 := box_cell (i := 0) HC.out.o rfl
  have o1 := box_cell (i := 1) HC.out.o rfl
  refine wpAny_ready (rs := [7]) (by kernel_rfl) (by simp) ?_
  refine anyN_cons 7 rfl (by rfl) (fun K hK => ?_) AllReady.nil
  go_simp
  refine hK.out _ _ ?_
  clear hK K
  try simp only [aP]
  exact hs0_3_5_7_10
 ·intro w3 q3 c3 HO
  obtain ⟨⟨m0,m1⟩,a0,a1,a2,a3,a4,a5,a6,a7,_⟩ := HO.out.1.db.cells
  have o0 := box_cell (i := 0) HO.out.1.o rfl
  have o1 := box_cell (i := 1) HO.out.1.o rfl
  refine wpAny_ready (rs := [5,10]) (by kernel_rfl) (by simp) ?_
  refine anyN_cons 5 rfl (by rfl) (fun K hK => ?_) (anyN_cons 10 rfl (by rfl) (fun K hK => ?_) AllReady.nil)
  ·go_simp
   refine hK.out _ _ ?_
   clear hK K
   try simp only [aP]
   exact hs0_3_5_7_8 w3 q3 c3 HO
  ·go_simp
   refine hK.out _ _ ?_
   clear hK K
   try simp only [aP]
   exact hs0_3_7_8_10 w3 q3 c3 HO
 ·obtain ⟨⟨m0,m1⟩,a0,a1,a2,a3,a4,a5,a6,a7,_⟩ := HC.out.db.cells
  have o0 := box_cell (i := 0) HC.out.o rfl
  have o1 := box_cell (i := 1) HC.out.o rfl
  refine wpAny_ready (rs := [5,8]) (by kernel_rfl) (by simp) ?_
  refine anyN_cons 5 rfl (by rfl) (fun K hK => ?_) (anyN_cons 8 rfl (by rfl) (fun K hK => ?_) AllReady.nil)
  ·go_simp
   refine hK.out _ _ ?_
   clear hK K
   try simp only [aP]
   exact hs0_3_5_7_10
  ·go_simp
   refine (CO.out _ (HVr.out.imm (Imm.of_below ((HC.out.on ((Below.refl _ _).drew)).db.bel)))).mono ?_
   rintro e w3 ⟨⟨q3,c3,rfl,hq3⟩,hb3⟩
   dsimp only
   have HO:Hid (DC N w w3 B sb most M M2 Kn J (.slice p n c) (.slice p1 n1 c1) #[.int .i64 1,.int .i64 sl,.int .i64 tx,.int .i64 vn,.bool vg,.slice qv nv cv,.int .u64 st,.int .i64 lv] w1.heap.size ∧ SlV w3 w3.heap.size (.slice q3 nv c3) vr) := ⟨(HC.out.on ((Below.refl _ _).drew)).on hb3,hq3⟩
   clear hq3 hb3
   refine hK.out _ _ ?_
   clear hK K
   try simp only [aP]
   exact hs0_3_7_8_10 w3 q3 c3 HO
 ·intro w3 q3 c3 HO
  obtain ⟨⟨m0,m1⟩,a0,a1,a2,a3,a4,a5,a6,a7,_⟩ := HO.out.1.db.cells
  have o0 := box_cell (i := 0) HO.out.1.o rfl
  have o1 := box_cell (i := 1) HO.out.1.o rfl
  refine wpAny_ready (rs := [3,10]) (by kernel_rfl) (by simp) ?_
  refine anyN_cons 3 rfl (by rfl) (fun K hK => ?_) (anyN_cons 10 rfl (by rfl) (fun K hK => ?_) AllReady.nil)
  ·go_simp
   refine hK.out _ _ ?_
   clear hK K
   try simp only [aP]
   exact hs0_3_5_7_8 w3 q3 c3 HO
  ·go_simp
   refine hK.out _ _ ?_
   clear hK K
   try simp only [aP]
   exact hs0_5_7_8_10 w3 q3 c3 HO
 ·obtain ⟨⟨m0,m1⟩,a0,a1,a2,a3,a4,a5,a6,a7,_⟩ := HC.out.db.cells
  have o0 := box_cell (i := 0) HC.out.o rfl
  have o1 := box_cell (i := 1) HC.out.o rfl
  refine wpAny_ready (rs := [3,8]) (by kernel_rfl) (by simp) ?_
  refine anyN_cons 3 rfl (by rfl) (fun K hK => ?_) (anyN_cons 8 rfl (by rfl) (fun K hK => ?_) AllReady.nil)
  ·go_simp
   refine hK.out _ _ ?_
   clear hK K
   try simp only [aP]
   exact hs0_3_5_7_10
  ·go_simp
   refine (CO.out _ (HVr.out.imm (Imm.of_below ((HC.out.on ((Below.refl _ _).drew)).db.bel)))).mono ?_
   rintro e w3 ⟨⟨q3,c3,rfl,hq3⟩,hb3⟩
   dsimp only
   have HO:Hid (DC N w w3 B sb most M M2 Kn J (.slice p n c) (.slice p1 n1 c1) #[.int .i64 1,.int .i64 sl,.int .i64 tx,.int .i64 vn,.bool vg,.slice qv nv cv,.int .u64 st,.int .i64 lv] w1.heap.size ∧ SlV w3 w3.heap.size (.slice q3 nv c3) vr) := ⟨(HC.out.on ((Below.refl _ _).drew)).on hb3,hq3⟩
   clear hq3 hb3
   refine hK.out _ _ ?_
   clear hK K
   try simp only [aP]
   exact hs0_5_7_8_10 w3 q3 c3 HO
 ·intro w3 q3 c3 HO
  obtain ⟨⟨m0,m1⟩,a0,a1,a2,a3,a4,a5,a6,a7,_⟩ := HO.out.1.db.cells
  have o0 := box_cell (i := 0) HO.out.1.o rfl
  have o1 := box_cell (i := 1) HO.out.1.o rfl
  refine wpAny_ready (rs := [3,5]) (by kernel_rfl) (by simp) ?_
  refine anyN_cons 3 rfl (by rfl) (fun K hK => ?_) (anyN_cons 5 rfl (by rfl) (fun K hK => ?_) AllReady.nil)
  ·go_simp
   refine hK.out _ _ ?_
   clear hK K
   try simp only [aP]
   exact hs0_3_7_8_10 w3 q3 c3 HO
  ·go_simp
   refine hK.out _ _ ?_
   clear hK K
   try simp only [aP]
   exact hs0_5_7_8_10 w3 q3 c3 HO
 ·intro w3 q3 c3 HO
  obtain ⟨⟨m0,m1⟩,a0,a1,a2,a3,a4,a5,a6,a7,_⟩ := HO.out.1.db.cells
  have o0 := box_cell (i := 0) HO.out.1.o rfl
  have o1 := box_cell (i := 1) HO.out.1.o rfl
  refine wpAny_ready (rs := [0,10]) (by kernel_rfl) (by simp) ?_
  refine anyN_cons 0 rfl (by rfl) (fun K hK => ?_) (anyN_cons 10 rfl (by rfl) (fun K hK => ?_) AllReady.nil)
  ·go_simp
   refine hK.out _ _ ?_
   clear hK K
   try simp only [aP]
   exact hs0_3_5_7_8 w3 q3 c3 HO
  ·go_simp
   refine hK.out _ _ ?_
   clear hK K
   try simp only [aP]
   exact hs3_5_7_8_10 w3 q3 c3 HO
 ·obtain ⟨⟨m0,m1⟩,a0,a1,a2,a3,a4,a5,a6,a7,_⟩ := HC.out.db.cells
  have o0 := box_cell (i := 0) HC.out.o rfl
  have o1 := box_cell (i := 1) HC.out.o rfl
  refine wpAny_ready (rs := [0,8]) (by kernel_rfl) (by simp) ?_
  refine anyN_cons 0 rfl (by rfl) (fun K hK => ?_) (anyN_cons 8 rfl (by rfl) (fun K hK => ?_) AllReady.nil)
  ·go_simp
   refine hK.out _ _ ?_
   clear hK K
   try simp only [aP]
   exact hs0_3_5_7_10
  ·go_simp
   refine (CO.out _ (HVr.out.imm (Imm.of_below ((HC.out.on ((Below.refl _ _).drew)).db.bel)))).mono ?_
   rintro e w3 ⟨⟨q3,c3,rfl,hq3⟩,hb3⟩
   dsimp only
   have HO:Hid (DC N w w3 B sb most M M2 Kn J (.slice p n c) (.slice p1 n1 c1) #[.int .i64 1,.int .i64 sl,.int .i64 tx,.int .i64 vn,.bool vg,.slice qv nv cv,.int .u64 st,.int .i64 lv] w1.heap.size ∧ SlV w3 w3.heap.size (.slice q3 nv c3) vr) := ⟨(HC.out.on ((Below.refl _ _).drew)).on hb3,hq3⟩
   clear hq3 hb3
   refine hK.out _ _ ?_
   clear hK K
   try simp only [aP]
   exact hs3_5_7_8_10 w3 q3 c3 HO
 ·intro w3 q3 c3 HO
  obtain ⟨⟨m0,m1⟩,a0,a1,a2,a3,a4,a5,a6,a7,_⟩ := HO.out.1.db.cells
  have o0 := box_cell (i := 0) HO.out.1.o rfl
  have o1 := box_cell (i := 1) HO.out.1.o rfl
  refine wpAny_ready (rs := [0,5]) (by kernel_rfl) (by simp) ?_
  refine anyN_cons 0 rfl (by rfl) (fun K hK => ?_) (anyN_cons 5 rfl (by rfl) (fun K hK => ?_) AllReady.nil)
  ·go_simp
   refine hK.out _ _ ?_
   clear hK K
   try simp only [aP]
   exact hs0_3_7_8_10 w3 q3 c3 HO
  ·go_simp
   refine hK.out _ _ ?_
   clear hK K
   try simp only [aP]
   exact hs3_5_7_8_10 w3 q3 c3 HO
 ·intro w3 q3 c3 HO
  obtain ⟨⟨m0,m1⟩,a0,a1,a2,a3,a4,a5,a6,a7,_⟩ := HO.out.1.db.cells
  have o0 := box_cell (i := 0) HO.out.1.o rfl
  have o1 := box_cell (i := 1) HO.out.1.o rfl
  refine wpAny_ready (rs := [0,3]) (by kernel_rfl) (by simp) ?_
  refine anyN_cons 0 rfl (by rfl) (fun K hK => ?_) (anyN_cons 3 rfl (by rfl) (fun K hK => ?_) AllReady.nil)
  ·go_simp
   refine hK.out _ _ ?_
   clear hK K
   try simp only [aP]
   exact hs0_5_7_8_10 w3 q3 c3 HO
  ·go_simp
   refine hK.out _ _ ?_
   clear hK K
   try simp only [aP]
   exact hs3_5_7_8_10 w3 q3 c3 HO
 ·intro w3 q3 c3 HO
  obtain ⟨⟨m0,m1⟩,a0,a1,a2,a3,a4,a5,a6,a7,_⟩ := HO.out.1.db.cells
  have o0 := box_cell (i := 0) HO.out.1.o rfl
  have o1 := box_cell (i := 1) HO.out.1.o rfl
  refine wpAny_ready (rs := [10]) (by kernel_rfl) (by simp) ?_
  refine anyN_cons 10 rfl (by rfl) (fun K hK => ?_) AllReady.nil
  go_simp
  refine hK.out _ _ ?_
  clear hK K
  try simp only [aP]
  exact hs0_3_5_7_8_10 w3 q3 c3 HO
 ·obtain ⟨⟨m0,m1⟩,a0,a1,a2,a3,a4,a5,a6,a7,_⟩ := HC.out.db.cells
  have o0 := box_cell (i := 0) HC.out.o rfl
  have o1 := box_cell (i := 1) HC.out.o rfl
  refine wpAny_ready (rs := [8]) (by kernel_rfl) (by simp) ?_
  refine anyN_cons 8 rfl (by rfl) (fun K hK => ?_) AllReady.nil
  go_simp
  refine (CO.out _ (HVr.out.imm (Imm.of_below ((HC.out.on ((Below.refl _ _).drew)).db.bel)))).mono ?_
  rintro e w3 ⟨⟨q3,c3,rfl,hq3⟩,hb3⟩
  dsimp only
  have HO:Hid (DC N w w3 B sb most M M2 Kn J (.slice p n c) (.slice p1 n1 c1) #[.int .i64 1,.int .i64 sl,.int .i64 tx,.int .i64 vn,.bool vg,.slice qv nv cv,.int .u64 st,.int .i64 lv] w1.heap.size ∧ SlV w3 w3.heap.size (.slice q3 nv c3) vr) := ⟨(HC.out.on ((Below.refl _ _).drew)).on hb3,hq3⟩
  clear hq3 hb3
  refine hK.out _ _ ?_
  clear hK K
  try simp only [aP]
  exact hs0_3_5_7_8_10 w3 q3 c3 HO
 ·intro w3 q3 c3 HO
  obtain ⟨⟨m0,m1⟩,a0,a1,a2,a3,a4,a5,a6,a7,_⟩ := HO.out.1.db.cells
  have o0 := box_cell (i := 0) HO.out.1.o rfl
  have o1 := box_cell (i := 1) HO.out.1.o rfl
  refine wpAny_ready (rs := [5]) (by kernel_rfl) (by simp) ?_
  refine anyN_cons 5 rfl (by rfl) (fun K hK => ?_) AllReady.nil
  go_simp
  refine hK.out _ _ ?_
  clear hK K
  try simp only [aP]
  exact hs0_3_5_7_8_10 w3 q3 c3 HO
 ·intro w3 q3 c3 HO
  obtain ⟨⟨m0,m1⟩,a0,a1,a2,a3,a4,a5,a6,a7,_⟩ := HO.out.1.db.cells
  have o0 := box_cell (i := 0) HO.out.1.o rfl
  have o1 := box_cell (i := 1) HO.out.1.o rfl
  refine wpAny_ready (rs := [3]) (by kernel_rfl) (by simp) ?_
  refine anyN_cons 3 rfl (by rfl) (fun K hK => ?_) AllReady.nil
  go_simp
  refine hK.out _ _ ?_
  clear hK K
  try simp only [aP]
  exact hs0_3_5_7_8_10 w3 q3 c3 HO
 ·intro w3 q3 c3 HO
  obtain ⟨⟨m0,m1⟩,a0,a1,a2,a3,a4,a5,a6,a7,_⟩ := HO.out.1.db.cells
  have o0 := box_cell (i := 0) HO.out.1.o rfl
  have o1 := box_cell (i := 1) HO.out.1.o rfl
  refine wpAny_ready (rs := [0,11]) (by kernel_rfl) (by simp) ?_
  refine anyN_cons 0 rfl (by rfl) (fun K hK => ?_) (anyN_cons 11 rfl (by rfl) (fun K hK => ?_) AllReady.nil)
  ·go_simp
   refine hK.out _ _ ?_
   clear hK K
   try simp only [aP]
   exact hs0_3_5_7_8_10 w3 q3 c3 HO
  ·go_simp
   refine (CS.out _ (.slice p1 n1 c1) w1.heap.size q3 c3 HO.out.1 HO.out.2).mono ?_
   rintro e w4 ⟨rfl,he⟩
   dsimp only
   have HE:Hid (DE N w w4 B sb most M2 K2 J2 (.slice p1 n1 c1) w1.heap.size) := he
   clear he
   refine hK.out _ _ ?_
   clear hK K
   try simp only [aP]
   refine tk (v := ?_) 13 rfl ?_ ?_
   rotate_left
   focus
    intro w9
    go_simp
    try with_reducible rfl
   try simp only [aP]
   exact hs3_5_7_8_10_11 w4 q3 c3 HE
 ·intro w3 q3 c3 HO
  obtain ⟨⟨m0,m1⟩,a0,a1,a2,a3,a4,a5,a6,a7,_⟩ := HO.out.1.db.cells
  have o0 := box_cell (i := 0) HO.out.1.o rfl
  have o1 := box_cell (i := 1) HO.out.1.o rfl
  refine wpAny_ready (rs := [11]) (by kernel_rfl) (by simp) ?_
  refine anyN_cons 11 rfl (by rfl) (fun K hK => ?_) AllReady.nil
  go_simp
  refine (CS.out _ (.slice p1 n1 c1) w1.heap.size q3 c3 HO.out.1 HO.out.2).mono ?_
  rintro e w4 ⟨rfl,he⟩
  dsimp only
  have HE:Hid (DE N w w4 B sb most M2 K2 J2 (.slice p1 n1 c1) w1.heap.size) := he
  clear he
  refine hK.out _ _ ?_
  clear hK K
  try simp only [aP]
  refine tk (v := ?_) 13 rfl ?_ ?_
  rotate_left
  focus
   intro w9
   go_simp
   try with_reducible rfl
  try simp only [aP]
  exact hs0_3_5_7_8_10_11 w4 q3 c3 HE
 ·intro w4 q3 c3 HE
  obtain ⟨o0,o1,r0,r1,r2,r3⟩ := HE.out.cells
  refine wpAny_ready (rs := [0]) (by kernel_rfl) (by simp) ?_
  refine anyN_cons 0 rfl (by rfl) (fun K hK => ?_) AllReady.nil
  go_simp
  refine hK.out _ _ ?_
  clear hK K
  try simp only [aP]
  exact hs0_3_5_7_8_10_11 w4 q3 c3 HE
 ·intro w4 q3 c3 HE
  obtain ⟨o0,o1,r0,r1,r2,r3⟩ := HE.out.cells
  refine wpAny_ready (rs := [14]) (by kernel_rfl) (by simp) ?_
  refine anyN_cons 14 rfl (by rfl) (fun K hK => ?_) AllReady.nil
  go_simp
  refine hK.out _ _ ?_
  clear hK K
  try simp only [aP]
  refine wpAny_ready (rs := [15]) (by kernel_rfl) (by simp) ?_
  refine anyN_cons 15 rfl (by rfl) (fun K hK => ?_) AllReady.nil
  go_simp
  refine hK.out _ _ ?_
  clear hK K
  try simp only [aP]
  refine wpAny_done (by kernel_rfl) ?_ _
  go_wp2_with fail
  obtain ⟨f0,f1,fp,ff⟩ := HE.out.fin
  generalize (w4.setCell ⟨w.heap.size + 1 + 1,0,none⟩ (.int .i64 (most:Nat))).setCell ⟨w.heap.size + 1 + 1,1,none⟩ (.slice p1 n1 c1) = w9 at *
  (try simp only [Exit.inBlock,Exit.then])
  refine bodyPost_ret (v := .tuple #[.agg #[.int .i64 (most:Nat),.slice p1 n1 c1],.bool true]) (by simp [results,Tryz.results12,go_sem,f0,f1]) rfl ?_
  exact ⟨⟨_,rfl,fp⟩,ff⟩

end Go.Proofs.YtcibcfghkidncaaGreatDoor

namespace Go.Proofs.YtcibcfghkidncaaGreatDoor
open Go.RowKit Go.Lib
set_option maxRecDepth 100000

set_option maxHeartbeats 8000000 in
theorem does_none (N:Nat → Prop) (B sb most:Nat) (M:List Rs) (Kn J:Nat) (kd sl tx vn:Int) (vg:Bool) (qv:Option Addr) (nv cv:Nat) (st lv:Int) (p:Option Addr) (n c:Nat) (w:World) (h:PS N w B sb most M Kn J (.slice p n c)) (hk:kd < 0 ∨ 5 < kd) :
  Calls Tryz.prog 12 #[ptr1 sb,.agg #[.int .i64 (most:Nat),.slice p n c],.agg #[.int .i64 kd,.int .i64 sl,.int .i64 tx,.int .i64 vn,.bool vg,.slice qv nv cv,.int .u64 st,.int .i64 lv]] w fun e w' => (∃ v2,e = .returned (.tuple #[.agg #[.int .i64 (most:Nat),v2],.bool true]) ∧ PS N w' B sb most M Kn J v2) ∧ Frm w w' (frN B N) := by
 have g0:(kd == 0) = false := by simp; omega
 have g1:(kd == 1) = false := by simp; omega
 have g2:(kd == 2) = false := by simp; omega
 have g3:(kd == 3) = false := by simp; omega
 have g4:(kd == 4) = false := by simp; omega
 have g5:(kd == 5) = false := by simp; omega
 clear hk
 have HB0:Hid (DB N w _ B sb most M Kn J (.slice p n c) #[.int .i64 kd,.int .i64 sl,.int .i64 tx,.int .i64 vn,.bool vg,.slice qv nv cv,.int .u64 st,.int .i64 lv]) := DB.start h _
 clear h
 go_enter Tryz.func12,Tryz.ntmps12
 go_upto_region 1 with fail
 generalize (((w.alloc (.cells #[.int .i64 (most:Nat),.slice p n c] 29)).alloc (.cells #[.int .i64 kd,.int .i64 sl,.int .i64 tx,.int .i64 vn,.bool vg,.slice qv nv cv,.int .u64 st,.int .i64 lv] 41)).alloc (.cells #[.int .i64 0,.slice none 0 0] 29)) = w0 at *
 obtain ⟨⟨m0,m1⟩,a0,a1,a2,a3,a4,a5,a6,a7,_⟩ := HB0.out.cells
 obtain ⟨_,_,_,_,_,_,_,_,_,r0,r1,r2,r3⟩ := HB0.out.cells
 go_wp2_with fail
 have HE:Hid (DE N w w0 B sb most M Kn J (.slice p n c) w.heap.size) := ⟨⟨by
  obtain ⟨F,hs,hn,hl⟩ := HB0.out.pw.sto
  refine ⟨F,hs,fun k hk => ?_⟩
  have h3 := HB0.out.bel.size
  have h4 := HB0.out.hB
  rcases hk with hk | rfl
  ·exact ⟨(hn k hk).1,Nat.lt_of_lt_of_le (hn k hk).2 h3⟩
  ·exact ⟨fun hk => by have := hl _ hk; omega,by omega⟩,HB0.out.pw.doc,HB0.out.pw.tab,HB0.out.pw.glo,Nat.le_trans HB0.out.pw.hB HB0.out.bel.size⟩,Frm.of_below HB0.out.bel,HB0.out.m,HB0.out.r,HB0.out.pw.hB⟩
 obtain ⟨f0,f1,fp,ff⟩ := HE.out.fin
 generalize (w0.setCell ⟨w.heap.size + 1 + 1,0,none⟩ (.int .i64 (most:Nat))).setCell ⟨w.heap.size + 1 + 1,1,none⟩ (.slice p n c) = w9 at *
 (try simp only [Exit.inBlock,Exit.then])
 refine bodyPost_ret (v := .tuple #[.agg #[.int .i64 (most:Nat),.slice p n c],.bool true]) (by simp [results,Tryz.results12,go_sem,f0,f1]) rfl ?_
 exact ⟨⟨_,rfl,fp⟩,ff⟩

end Go.Proofs.YtcibcfghkidncaaGreatDoor

namespace Go.Proofs.YtcibcfghkidncaaGreatDoor
open Go.RowKit Go.Lib
set_option maxRecDepth 100000

structure AcR where
 k:Int
 sl:Int
 tx:Int
 v:Rw
 st:Int
 lv:Int
def newB (t s:Int) (L:List (Nat × Rs)):Bool := L.any (fun q => decide (q.2.tx = t ∧ t ≠ 0) && newr q.2 (s - 1))
def stM (most:Nat) (a:AcR) (M:List Rs):List Rs :=
 if a.k = 0 then (if a.v.gn || putB a.tx [] a.v then M else if most ≤ (docL M).length then M else addM M (freeS M) (newR a.tx a.v))
 else if a.k = 1 then wrtM M a.sl a.tx a.v a.st
 else if a.k = 2 then mapT (bakR a.lv) a.tx M
 else if a.k = 3 then (if a.lv < 1 then M else mapT (fldR a.lv) a.tx M)
 else if a.k = 4 then (if a.st < 1 ∨ 4611686018427387904 < a.st then M else if newB a.tx a.st (docL M) then M else mapT (setR a.st) a.tx M)
 else if a.k = 5 then M.map (prnR a.st) else M
theorem newB_some {t s:Int} {L:List (Nat × Rs)} (h:SomeNew t s L):newB t s L = true := by
 obtain ⟨q,hq,h1,h2,h3⟩ := h
 unfold newB
 rw [List.any_eq_true]
 exact ⟨q,hq,by simp [h1,h2,h3]⟩
theorem newB_no {t s:Int} {L:List (Nat × Rs)} (h:NoNew t s L):newB t s L = false := by
 unfold newB
 rw [List.any_eq_false]
 intro q hq
 by_cases h1:q.2.tx = t ∧ t ≠ 0
 ·simp [h1,h q hq h1.1 h1.2]
 ·simp [h1]
theorem new_some {t s:Int} {M:List Rs}:SomeNew t s (docL M) ↔ ∃ r ∈ M,r.tx = t ∧ t ≠ 0 ∧ newr r (s - 1) = true := by
 constructor
 ·rintro ⟨q,hq,h1,h2,h3⟩
  exact ⟨q.2,(docL_mem hq).1,h1,h2,h3⟩
 ·rintro ⟨r,hr,h1,h2,h3⟩
  obtain ⟨x,hx⟩ := List.getElem?_of_mem hr
  have hm:x ∈ slM M := mem_slM.2 ⟨r,hx,tx_thr (by rw [h1]; exact h2)⟩
  have hd:M.getD x nilR = r := by rw [List.getD_eq_getElem?_getD,hx]; rfl
  refine ⟨(x,M.getD x nilR),List.mem_map_of_mem hm,?_⟩
  show (M.getD x nilR).tx = t ∧ t ≠ 0 ∧ newr (M.getD x nilR) (s - 1) = true
  rw [hd]
  exact ⟨h1,h2,h3⟩
theorem new_no {t s:Int} {M:List Rs} (h:NoNew t s (docL M)):∀ r ∈ M,r.tx = t → t ≠ 0 → newr r (s - 1) = false := by
 intro r hr h1 h2
 cases e:newr r (s - 1) with
 | false => rfl
 | true =>
  obtain ⟨q,hq,a1,a2,a3⟩ := new_some.2 ⟨r,hr,h1,h2,e⟩
  rw [h q hq a1 a2] at a3
  cases a3
section
variable {N:Nat → Prop} {w wq:World} {B sb most:Nat} {M M':List Rs} {Kn J:Nat} {v v':Value} {A:Array Value} {bo:Nat}
theorem DC.noth {F:Nat → Prop} {w':World} (h:DC N w wq B sb most M M Kn J v v' A bo) (hs:Sto wq B sb most M Kn J F) (hn:∀ k,N k → ¬ F k ∧ k < w.heap.size) (hl:∀ k,F k → k < w.heap.size) (hs':Sto w' B sb most M Kn J F) (hf:Frm wq w' F):DE N w w' B sb most M (Kn + 65537) (J + 1) v' bo := h.step hs hn hl (hs'.mono (by omega) (by omega)) (fun k hk => .inl hk) hf
theorem DB.size (h:DB N w wq B sb most M Kn J v A):B ≤ wq.heap.size := Nat.le_trans h.pw.hB h.pw.sz
theorem DB.ok (h:DB N w wq B sb most M Kn J v A):(∀ r ∈ M,OkR J r) ∧ M.length ≤ most ∧ most ≤ 65536 := by
 have := h.pw.ps.ok
 exact ⟨this.1,this.2.1,this.2.2.1⟩
theorem OwnI.past {F:Nat → Prop} {w':World} {b:Nat} {gv:Value} {G:List Nat} (h:OwnI wq b gv G) (hb:w.heap.size ≤ b) (hl:∀ k,F k → k < w.heap.size) (hf:Frm wq w' F):OwnI w' b gv G := owns_frm h hf (fun g hg hF => by have h1 := (World.ownsRow.lt h g hg).1; have h2 := hl g hF; omega)
end

set_option maxHeartbeats 4000000 in
theorem does_any (N:Nat → Prop) (B sb most:Nat) (M:List Rs) (Kn J:Nat) (a:AcR) (qv:Option Addr) (cv:Nat) (v:Value) (w:World) (h:PS N w B sb most M Kn J v) (hV:SlV w w.heap.size (.slice qv a.v.row.length cv) a.v.row) (hvr:a.v.row.length ≤ 3518437208882) (hK:Kn + 65537 ≤ 8000000000000000000) (hJ:J + 1 ≤ 3518437208882) (ht1:-9223372036854775808 ≤ a.tx) (ht2:a.tx < 9223372036854775808) (hlv:a.lv ≤ 9223372036854775807) (hst:0 ≤ a.st) :
  Calls Tryz.prog 12 #[ptr1 sb,.agg #[.int .i64 (most:Nat),v],.agg #[.int .i64 a.k,.int .i64 a.sl,.int .i64 a.tx,.int .i64 a.v.n,.bool a.v.gn,.slice qv a.v.row.length cv,.int .u64 a.st,.int .i64 a.lv]] w fun e w' => (∃ v2,e = .returned (.tuple #[.agg #[.int .i64 (most:Nat),v2],.bool true]) ∧ PS N w' B sb most (stM most a M) (Kn + 65537) (J + 1) v2) ∧ Frm w w' (frN B N) := by
 obtain ⟨k,sl,tx,⟨vn,vg,vr⟩,st,lv⟩ := a
 dsimp only at *
 obtain ⟨p,c,rfl,_⟩ := h.doc.len
 have hB:B ≤ w.heap.size := h.hB
 have hlen := h.len
 by_cases k3:k = 3
 ·subst k3
  by_cases hl1:lv < 1
  ·have e:stM most ⟨3,sl,tx,⟨vn,vg,vr⟩,st,lv⟩ M = M := by simp [stM,hl1]
   rw [e]
   refine does_fold N B sb most M M Kn J (Kn + 65537) (J + 1) sl tx vn vg qv vr.length cv st lv p _ c w h 1 (fun w1 hb => ?_) (fun w1 v1 bo hc => ?_)
   ·exact (foldD_bad B most _ (docL M) tx lv w1 hb.pw.doc hl1).mono fun e w' ⟨h1,h2,h3⟩ => ⟨⟨_,h1,h2⟩,h3⟩
   ·obtain ⟨F,hs,hn,hl⟩ := hc.db.pw.sto
    exact (fold_bad B sb most Kn J M F tx lv w1 hs hl1).mono fun e w' ⟨h1,h2,h3⟩ => ⟨h1,hc.noth hs hn hl h2 h3⟩
  ·have e:stM most ⟨3,sl,tx,⟨vn,vg,vr⟩,st,lv⟩ M = mapT (fldR lv) tx M := by simp [stM,hl1]
   rw [e]
   refine does_fold N B sb most M _ Kn J (Kn + 65537) (J + 1) sl tx vn vg qv vr.length cv st lv p _ c w h 0 (fun w1 hb => ?_) (fun w1 v1 bo hc => ?_)
   ·refine (foldD_ok B most J _ (docL M) tx lv w1 hb.pw.doc hb.pw.ps.okL hlen (by omega) (by omega) hlv).mono fun e w' ⟨⟨v1,h1,h2⟩,h3⟩ => ⟨⟨_,h1,?_⟩,h3⟩
    rw [docL_atT]
    exact h2.base hb.size
   ·obtain ⟨F,hs,hn,hl⟩ := hc.db.pw.sto
    exact (fold_ok B sb most Kn J M F tx lv w1 hs (by omega) hlv ht1 ht2 (by omega) (by omega)).mono fun e w' ⟨h1,h2,h3⟩ => ⟨h1,hc.step hs hn hl (h2.mono (by omega) (Nat.le_refl _)) (fun k hk => .inl hk) h3⟩
 by_cases k4:k = 4
 ·subst k4
  by_cases hs1:st < 1 ∨ 4611686018427387904 < st
  ·have e:stM most ⟨4,sl,tx,⟨vn,vg,vr⟩,st,lv⟩ M = M := by simp only [stM]; rw [if_neg (by omega),if_neg (by omega),if_neg (by omega),if_neg (by omega),if_pos trivial,if_pos hs1]
   rw [e]
   refine does_settle N B sb most M M Kn J (Kn + 65537) (J + 1) sl tx vn vg qv vr.length cv st lv p _ c w h 0 1 (fun w1 hb => ?_) (fun w1 v1 bo hc => ?_)
   ·exact (settleD_bad B most _ (docL M) tx st w1 hb.pw.doc hs1 hst).mono fun e w' ⟨h1,h2,h3⟩ => ⟨⟨_,h1,h2⟩,h3⟩
   ·obtain ⟨F,hs,hn,hl⟩ := hc.db.pw.sto
    exact (settle_bad B sb most Kn J M F tx st w1 hs hs1).mono fun e w' ⟨h1,h2,h3⟩ => ⟨h1,hc.noth hs hn hl h2 h3⟩
  ·have hs2:1 ≤ st ∧ st ≤ 4611686018427387904 := by omega
   cases hnb:newB tx st (docL M) with
   | true =>
    have hsn:SomeNew tx st (docL M) := by
     unfold newB at hnb
     rw [List.any_eq_true] at hnb
     obtain ⟨q,hq,h1⟩ := hnb
     rw [Bool.and_eq_true] at h1
     have h2 := of_decide_eq_true h1.1
     exact ⟨q,hq,h2.1,h2.2,h1.2⟩
    have e:stM most ⟨4,sl,tx,⟨vn,vg,vr⟩,st,lv⟩ M = M := by simp only [stM]; rw [if_neg (by omega),if_neg (by omega),if_neg (by omega),if_neg (by omega),if_pos trivial,if_neg hs1,hnb,if_pos rfl]
    rw [e]
    refine does_settle N B sb most M M Kn J (Kn + 65537) (J + 1) sl tx vn vg qv vr.length cv st lv p _ c w h 0 81 (fun w1 hb => ?_) (fun w1 v1 bo hc => ?_)
    ·refine (settleD_any B most J _ (docL M) tx st w1 hb.pw.doc hb.pw.ps.okL hlen (by omega) hs2.1 hs2.2).mono fun e w' ⟨h1,h3⟩ => ⟨?_,h3⟩
     rcases h1 with ⟨_,h1,h2⟩ | ⟨h1,_⟩
     ·exact ⟨_,h1,h2⟩
     ·rw [newB_no h1] at hnb
      cases hnb
    ·obtain ⟨F,hs,hn,hl⟩ := hc.db.pw.sto
     exact (settle_old B sb most Kn J M F tx st w1 hs hs2.1 hs2.2 ht1 ht2 (new_some.1 hsn)).mono fun e w' ⟨h1,h2,h3⟩ => ⟨h1,hc.noth hs hn hl h2 h3⟩
   | false =>
    have e:stM most ⟨4,sl,tx,⟨vn,vg,vr⟩,st,lv⟩ M = mapT (setR st) tx M := by simp only [stM]; rw [if_neg (by omega),if_neg (by omega),if_neg (by omega),if_neg (by omega),if_pos trivial,if_neg hs1,hnb,if_neg (by decide)]
    rw [e]
    have hno:NoNew tx st (docL M) := by
     intro q hq h1 h2
     unfold newB at hnb
     rw [List.any_eq_false] at hnb
     have := hnb q hq
     simpa [h1,h2] using this
    refine does_settle N B sb most M _ Kn J (Kn + 65537) (J + 1) sl tx vn vg qv vr.length cv st lv p _ c w h (cntL tx (docL M):Nat) 0 (fun w1 hb => ?_) (fun w1 v1 bo hc => ?_)
    ·refine (settleD_any B most J _ (docL M) tx st w1 hb.pw.doc hb.pw.ps.okL hlen (by omega) hs2.1 hs2.2).mono fun e w' ⟨h1,h3⟩ => ⟨?_,h3⟩
     rcases h1 with ⟨h1,_⟩ | ⟨_,v1,h1,h2⟩
     ·rw [newB_some h1] at hnb
      cases hnb
     ·refine ⟨_,h1,?_⟩
      rw [docL_atT]
      exact h2.base hb.size
    ·obtain ⟨F,hs,hn,hl⟩ := hc.db.pw.sto
     refine (settle_ok B sb most Kn J M F tx st w1 hs hs2.1 hs2.2 ht1 ht2 (by omega) (by omega) (new_no hno)).mono fun e w' ⟨⟨L9,h1,h4,h5⟩,⟨F',h2,h6⟩,h3⟩ => ⟨?_,hc.step hs hn hl h2 (fun k hk => .inl (h6 k hk)) h3⟩
     rw [h1,cnt_doc h4 h5]
 by_cases k2:k = 2
 ·subst k2
  have e:stM most ⟨2,sl,tx,⟨vn,vg,vr⟩,st,lv⟩ M = mapT (bakR lv) tx M := by simp [stM]
  rw [e]
  refine does_back N B sb most M _ Kn J (Kn + 65537) (J + 1) sl tx vn vg qv vr.length cv st lv p _ c w h (goneL (atT tx (bakR lv)) (docL M)) ?_ (fun w1 hb => ?_) (fun w1 v1 bo gv b hc hbb hg => ?_)
  ·have h8 := goneL_len (atT tx (bakR lv)) (docL M) (docL M).length
   rw [List.take_length] at h8
   omega
  ·refine (backD_any B most J _ (docL M) tx lv w1 hb.pw.doc (fun q hq => (hb.pw.ps.okL q hq).1) hlen (by omega)).mono fun e w' ⟨⟨v1,gv,h1,h2,h4⟩,h3⟩ => ⟨⟨_,_,h1,?_,h4⟩,h3⟩
   rw [docL_atT]
   exact h2.base hb.size
  ·obtain ⟨F,hs,hn,hl⟩ := hc.db.pw.sto
   refine (backS_any B sb most Kn J M F tx lv w1 hs ht1 ht2 (by omega) (by omega)).mono fun e w' ⟨vb,G,F',h1,h2,h3,h4,h5,h6,_,h7⟩ => ⟨vb,h1,hc.step hs hn hl (h5.mono (Nat.le_refl _) (by omega)) h6 h7,?_,hg.past hbb hl h7⟩
   rw [← gone_back hc.db.ok.1 h3 h4]
   exact h2
 by_cases k5:k = 5
 ·subst k5
  have e:stM most ⟨5,sl,tx,⟨vn,vg,vr⟩,st,lv⟩ M = M.map (prnR st) := by simp [stM]
  rw [e]
  refine does_prune N B sb most M _ Kn J (Kn + 65537) (J + 1) sl tx vn vg qv vr.length cv st lv p _ c w h (wntL st (docL M):Nat) (goneL (prnR st) (docL M)) ?_ (fun w1 hb => ?_) (fun w1 v1 bo gv b hc hbb hg => ?_)
  ·have h8 := goneL_len (prnR st) (docL M) (docL M).length
   rw [List.take_length] at h8
   omega
  ·refine (pruneD_any B most J _ (docL M) st w1 hb.pw.doc (fun q hq => (hb.pw.ps.okL q hq).1) hlen (by omega)).mono fun e w' ⟨⟨v1,gv,h1,h2,h4⟩,h3⟩ => ⟨⟨_,_,h1,?_,h4⟩,h3⟩
   rw [docL_prn]
   exact h2.base hb.size
  ·obtain ⟨F,hs,hn,hl⟩ := hc.db.pw.sto
   refine (pruneS_any B sb most Kn J M F st w1 hs (by omega) (by omega) hc.db.pw.tab hc.db.pw.glo).mono fun e w' ⟨⟨vb,h1,h2⟩,h5,h7⟩ => ⟨vb,?_,hc.step hs hn hl (h5.mono (by omega) (by omega)) (fun k hk => .inl hk) h7,?_,hg.past hbb hl h7⟩
   ·rw [h1,wnt_doc]
   ·rw [← gon_doc]
    exact h2
 have co:∀ w1,SlV w1 w1.heap.size (.slice qv vr.length cv) vr → Calls Tryz.prog 20 #[.agg #[.int .i64 vn,.bool vg,.slice qv vr.length cv]] w1 fun e w' => (∃ q3 c3,e = .returned (.agg #[.int .i64 vn,.bool vg,.slice q3 vr.length c3]) ∧ SlV w' w'.heap.size (.slice q3 vr.length c3) vr) ∧ Below w1.heap.size w1 w' := fun w1 h1 => own_any vn vg vr qv cv w1 h1 hvr
 by_cases k1:k = 1
 ·subst k1
  have e:stM most ⟨1,sl,tx,⟨vn,vg,vr⟩,st,lv⟩ M = wrtM M sl tx ⟨vn,vg,vr⟩ st := by simp [stM]
  rw [e]
  refine does_write N B sb most M _ Kn J (Kn + 65537) (J + 1) sl tx vn vg qv vr.length cv st lv p _ c w h vr (wriE (getR M sl) tx ⟨vn,vg,vr⟩ st) hV co (fun w1 hb => ?_) (fun w1 v1 bo q3 c3 hc hv3 => ?_)
  ·exact writeD_any B most J _ M sl tx vn vg vr qv cv st w1 hb.pw.doc hb.size hb.ok.1 hlen hJ (hV.imm (Imm.of_below hb.bel))
  ·obtain ⟨F,hs,hn,hl⟩ := hc.db.pw.sto
   exact (writeS_any B sb most Kn J M F sl tx vn vg vr q3 c3 st w1 hs ht1 ht2 (by omega) hJ hv3 hvr).mono fun e w' ⟨h1,⟨F',h2,h6⟩,h3⟩ => ⟨h1,hc.step hs hn hl (h2.mono (by omega) (Nat.le_refl _)) h6 h3⟩
 by_cases k0:k = 0
 ·subst k0
  by_cases hbad:(vg || putB tx [] ⟨vn,vg,vr⟩) = true
  ·have e:stM most ⟨0,sl,tx,⟨vn,vg,vr⟩,st,lv⟩ M = M := by simp only [stM]; rw [if_pos trivial,if_pos hbad]
   rw [e]
   refine does_add N B sb most M M Kn J (Kn + 65537) (J + 1) sl tx vn vg qv vr.length cv st lv p _ c w h vr 0 1 hV co (fun w1 hb => ?_) (fun w1 v1 bo q3 c3 hc hv3 => ?_)
   ·refine (addD_bad B most _ (docL M) tx vn vg vr qv cv w1 hb.pw.doc (hV.imm (Imm.of_below hb.bel)) ?_).mono fun e w' ⟨h1,h2,h3⟩ => ⟨⟨_,h1,h2⟩,h3⟩
    rcases Bool.or_eq_true _ _ |>.mp hbad with h1 | h1
    ·exact .inr h1
    ·exact .inl h1
   ·obtain ⟨F,hs,hn,hl⟩ := hc.db.pw.sto
    cases vg with
    | true => exact (add_gone B sb most Kn J M F tx vn true vr q3 c3 w1 hs rfl).mono fun e w' ⟨h1,h2,h3⟩ => ⟨h1,hc.noth hs hn hl h2 h3⟩
    | false => exact (add_bad B sb most Kn J M F tx vn false vr q3 c3 w1 hs rfl hv3 hvr (by simpa using hbad)).mono fun e w' ⟨h1,h2,h3⟩ => ⟨h1,hc.noth hs hn hl h2 h3⟩
  ·obtain ⟨hg,hp⟩:vg = false ∧ putB tx [] ⟨vn,vg,vr⟩ = false := by simpa using hbad
   by_cases hful:most ≤ (docL M).length
   ·have e:stM most ⟨0,sl,tx,⟨vn,vg,vr⟩,st,lv⟩ M = M := by simp only [stM]; rw [if_pos trivial,if_neg hbad,if_pos hful]
    rw [e]
    refine does_add N B sb most M M Kn J (Kn + 65537) (J + 1) sl tx vn vg qv vr.length cv st lv p _ c w h vr 0 2 hV co (fun w1 hb => ?_) (fun w1 v1 bo q3 c3 hc hv3 => ?_)
    ·exact (addD_full B most _ (docL M) tx vn vg vr qv cv w1 hb.pw.doc (hV.imm (Imm.of_below hb.bel)) hp hg hlen hful).mono fun e w' ⟨h1,h2,h3⟩ => ⟨⟨_,h1,h2⟩,h3⟩
    ·obtain ⟨F,hs,hn,hl⟩ := hc.db.pw.sto
     obtain ⟨f1,f2⟩ := docL_full hc.db.ok.2.1 hful
     exact (add_full B sb most Kn J M F tx vn vg vr q3 c3 w1 hs hg hv3 hvr (by have h9 := hp; rw [hg] at h9; exact h9) ht1 ht2 hc.db.pw.tab hc.db.pw.glo (freeS M) (free_no M) (fun j hj => free_lt hj) f1).mono fun e w' ⟨h1,h2,h3⟩ => ⟨h1,hc.noth hs hn hl h2 h3⟩
   ·have e:stM most ⟨0,sl,tx,⟨vn,vg,vr⟩,st,lv⟩ M = addM M (freeS M) (newR tx ⟨vn,vg,vr⟩) := by simp only [stM]; rw [if_pos trivial,if_neg hbad,if_neg hful]
    rw [e]
    have htn:thr (newR tx ⟨vn,vg,vr⟩) = true := tx_thr (show tx ≠ 0 by
     simp only [putB,Bool.or_eq_false_iff,decide_eq_false_iff_not] at hp
     omega)
    refine does_add N B sb most M _ Kn J (Kn + 65537) (J + 1) sl tx vn vg qv vr.length cv st lv p _ c w h vr (freeS M:Nat) 0 hV co (fun w1 hb => ?_) (fun w1 v1 bo q3 c3 hc hv3 => ?_)
    ·refine (addD_ok B most _ (docL M) tx vn vg vr qv cv w1 hb.pw.doc (hV.imm (Imm.of_below hb.bel)) hp hg hlen (by omega) hb.size).mono fun e w' ⟨⟨v1,s,h1,h2,h4⟩,h3⟩ => ⟨⟨v1,?_,?_⟩,h3⟩
     ·rw [h1,h2.free.1]
     ·rw [← h2.free.1,docL_add h2 htn]
      exact h4
    ·obtain ⟨F,hs,hn,hl⟩ := hc.db.pw.sto
     exact (add_ok B sb most Kn J M F tx vn vg vr q3 c3 w1 hs hg hv3 hvr (by have h9 := hp; rw [hg] at h9; exact h9) ht1 ht2 hc.db.pw.tab hc.db.pw.glo (freeS M) (free_no M) (fun j hj => free_lt hj) (docL_room hc.db.ok.2.1 (by omega)) (by omega)).mono fun e w' ⟨h1,⟨F',h2,h6⟩,h3⟩ => ⟨h1,hc.step hs hn hl (h2.mono (by omega) (Nat.le_refl _)) h6 h3⟩
 ·have e:stM most ⟨k,sl,tx,⟨vn,vg,vr⟩,st,lv⟩ M = M := by simp only [stM]; rw [if_neg k0,if_neg k1,if_neg k2,if_neg k3,if_neg k4,if_neg k5]
  rw [e]
  refine (does_none N B sb most M Kn J k sl tx vn vg qv vr.length cv st lv p _ c w h (by omega)).mono fun e w' ⟨⟨v2,h1,h2⟩,h3⟩ => ⟨⟨v2,h1,h2.mono (by omega) (by omega)⟩,h3⟩

end Go.Proofs.YtcibcfghkidncaaGreatDoor
