/- does: Fold. does: Back. does: Prune. does: Settle. -/
import Derived.Test.YtcibcfghkidncaaGreatDoorGWDoc26
namespace Go.Proofs.YtcibcfghkidncaaGreatDoor
open Go.RowKit Go.Lib
set_option maxRecDepth 100000

set_option maxHeartbeats 8000000 in
theorem does_fold (N:Nat → Prop) (B sb most:Nat) (M M2:List Rs) (Kn J K2 J2:Nat) (sl tx vn:Int) (vg:Bool) (qv:Option Addr) (nv cv:Nat) (st lv:Int) (p:Option Addr) (n c:Nat) (w:World) (h:PS N w B sb most M Kn J (.slice p n c)) (er:Int)
  (cd:∀ w1,DB N w w1 B sb most M Kn J (.slice p n c) #[.int .i64 3,.int .i64 sl,.int .i64 tx,.int .i64 vn,.bool vg,.slice qv nv cv,.int .u64 st,.int .i64 lv] → Calls Tryz.prog 36 #[.agg #[.int .i64 (most:Nat),.slice p n c],.int .i64 tx,.int .i64 lv] w1 fun e w' => (∃ v1,e = .returned (.tuple #[.agg #[.int .i64 (most:Nat),v1],.int .i64 er]) ∧ DocS w' B v1 (docL M2)) ∧ Below w1.heap.size w1 w')
  (cs:∀ w1 v1 bo,DC N w w1 B sb most M M2 Kn J (.slice p n c) v1 #[.int .i64 3,.int .i64 sl,.int .i64 tx,.int .i64 vn,.bool vg,.slice qv nv cv,.int .u64 st,.int .i64 lv] bo → Calls Tryz.prog 37 #[ptr1 sb,.int .i64 tx,.int .i64 lv] w1 fun e w' => e = .returned (.int .i64 er) ∧ DE N w w' B sb most M2 K2 J2 v1 bo) :
  Calls Tryz.prog 12 #[ptr1 sb,.agg #[.int .i64 (most:Nat),.slice p n c],.agg #[.int .i64 3,.int .i64 sl,.int .i64 tx,.int .i64 vn,.bool vg,.slice qv nv cv,.int .u64 st,.int .i64 lv]] w fun e w' => (∃ v2,e = .returned (.tuple #[.agg #[.int .i64 (most:Nat),v2],.bool true]) ∧ PS N w' B sb most M2 K2 J2 v2) ∧ Frm w w' (frN B N) := by
 have CD:Hid (∀ w1,DB N w w1 B sb most M Kn J (.slice p n c) #[.int .i64 3,.int .i64 sl,.int .i64 tx,.int .i64 vn,.bool vg,.slice qv nv cv,.int .u64 st,.int .i64 lv] → Calls Tryz.prog 36 #[.agg #[.int .i64 (most:Nat),.slice p n c],.int .i64 tx,.int .i64 lv] w1 fun e w' => (∃ v1,e = .returned (.tuple #[.agg #[.int .i64 (most:Nat),v1],.int .i64 er]) ∧ DocS w' B v1 (docL M2)) ∧ Below w1.heap.size w1 w') := cd
 have CS:Hid (∀ w1 v1 bo,DC N w w1 B sb most M M2 Kn J (.slice p n c) v1 #[.int .i64 3,.int .i64 sl,.int .i64 tx,.int .i64 vn,.bool vg,.slice qv nv cv,.int .u64 st,.int .i64 lv] bo → Calls Tryz.prog 37 #[ptr1 sb,.int .i64 tx,.int .i64 lv] w1 fun e w' => e = .returned (.int .i64 er) ∧ DE N w w' B sb most M2 K2 J2 v1 bo) := cs
 clear cd cs
 have HB0:Hid (DB N w _ B sb most M Kn J (.slice p n c) #[.int .i64 3,.int .i64 sl,.int .i64 tx,.int .i64 vn,.bool vg,.slice qv nv cv,.int .u64 st,.int .i64 lv]) := DB.start h _
 clear h
 go_enter Tryz.func12,Tryz.ntmps12
 go_upto_region 1 with fail
 generalize (((w.alloc (.cells #[.int .i64 (most:Nat),.slice p n c] 29)).alloc (.cells #[.int .i64 3,.int .i64 sl,.int .i64 tx,.int .i64 vn,.bool vg,.slice qv nv cv,.int .u64 st,.int .i64 lv] 41)).alloc (.cells #[.int .i64 0,.slice none 0 0] 29)) = w0 at *
 obtain ⟨⟨m0,m1⟩,a0,a1,a2,a3,a4,a5,a6,a7,_⟩ := HB0.out.cells
 go_wp2_with fail
 refine (CD.out _ HB0.out).mono ?_
 rintro e w1 ⟨⟨v1,rfl,hd⟩,hb1⟩
 obtain ⟨p1,n1,c1,e1⟩:∃ p1 n1 c1,v1 = .slice p1 n1 c1 := by obtain ⟨p1,c1,e1,_⟩ := hd.len; exact ⟨p1,_,c1,e1⟩
 subst e1
 have HC:Hid (DC N w _ B sb most M M2 Kn J (.slice p n c) (.slice p1 n1 c1) #[.int .i64 3,.int .i64 sl,.int .i64 tx,.int .i64 vn,.bool vg,.slice qv nv cv,.int .u64 st,.int .i64 lv] w1.heap.size) := HB0.out.told hb1 hd
 clear hd hb1 m0 m1 a0 a1 a2 a3 a4 a5 a6 a7 CD
 go_upto_region 14 with fail
 generalize (w1.alloc (.cells #[.int .i64 (most:Nat),.slice p1 n1 c1] 29)) = w2 at *
 refine wp_region_any (by kernel_rfl) ?_
 change wpAny _ _ _ _ _ _ _ (World.drew _)
 refine tk (v := ?_) 1 rfl ?_ ?_
 rotate_left
 focus
  intro w9
  go_simp
  try with_reducible rfl
 try simp only [aP]
 refine tk (v := ?_) 2 rfl ?_ ?_
 rotate_left
 focus
  intro w9
  go_simp
  try with_reducible rfl
 try simp only [aP]
 refine tk (v := ?_) 4 rfl ?_ ?_
 rotate_left
 focus
  intro w9
  go_simp
  try with_reducible rfl
 try simp only [aP]
 refine tk (v := ?_) 7 rfl ?_ ?_
 rotate_left
 focus
  intro w9
  go_simp
  try with_reducible rfl
 try simp only [aP]
 apply later1 (fun (w3:World) => Hid (DE N w w3 B sb most M2 K2 J2 (.slice p1 n1 c1) w1.heap.size))
 intro hs0_3_5_6
 apply later1 (fun (w3:World) => Hid (DE N w w3 B sb most M2 K2 J2 (.slice p1 n1 c1) w1.heap.size))
 intro hs3_5_6
 apply later0
 intro hs0_3_5
 apply later0
 intro hs3_5
 apply later0
 intro hs0_5
 apply later0
 intro hs0_3
 apply later0
 intro hs5
 apply later0
 intro hs3
 apply later0
 intro hs0
 ·obtain ⟨⟨m0,m1⟩,a0,a1,a2,a3,a4,a5,a6,a7,_⟩ := HC.out.db.cells
  have o0 := box_cell (i := 0) HC.out.o rfl
  have o1 := box_cell (i := 1) HC.out.o rfl
  refine wpAny_ready (rs := [0,3,5]) (by kernel_rfl) (by simp) ?_
  refine anyN_cons 0 rfl (by rfl) (fun K hK => ?_) (anyN_cons 3 rfl (by rfl) (fun K hK => ?_) (anyN_cons 5 rfl (by rfl) (fun K hK => ?_) AllReady.nil))
  ·go_simp
   refine hK.out _ _ ?_
   clear hK K
   try simp only [aP]
   exact hs0
  ·go_simp
   refine hK.out _ _ ?_
   clear hK K
   try simp only [aP]
   exact hs3
  ·go_simp
   refine hK.out _ _ ?_
   clear hK K
   try simp only [aP]
   exact hs5
 ·obtain ⟨⟨m0,m1⟩,a0,a1,a2,a3,a4,a5,a6,a7,_⟩ := HC.out.db.cells
  have o0 := box_cell (i := 0) HC.out.o rfl
  have o1 := box_cell (i := 1) HC.out.o rfl
  refine wpAny_ready (rs := [3,5]) (by kernel_rfl) (by simp) ?_
  refine anyN_cons 3 rfl (by rfl) (fun K hK => ?_) (anyN_cons 5 rfl (by rfl) (fun K hK => ?_) AllReady.nil)
  ·go_simp
   refine hK.out _ _ ?_
   clear hK K
   try simp only [aP]
   exact hs0_3
  ·go_simp
   refine hK.out _ _ ?_
   clear hK K
   try simp only [aP]
   exact hs0_5
 ·obtain ⟨⟨m0,m1⟩,a0,a1,a2,a3,a4,a5,a6,a7,_⟩ := HC.out.db.cells
  have o0 := box_cell (i := 0) HC.out.o rfl
  have o1 := box_cell (i := 1) HC.out.o rfl
  refine wpAny_ready (rs := [0,5]) (by kernel_rfl) (by simp) ?_
  refine anyN_cons 0 rfl (by rfl) (fun K hK => ?_) (anyN_cons 5 rfl (by rfl) (fun K hK => ?_) AllReady.nil)
  ·go_simp
   refine hK.out _ _ ?_
   clear hK K
   try simp only [aP]
   exact hs0_3
  ·go_simp
   refine hK.out _ _ ?_
   clear hK K
   try simp only [aP]
   exact hs3_5
 ·obtain ⟨⟨m0,m1⟩,a0,a1,a2,a3,a4,a5,a6,a7,_⟩ := HC.out.db.cells
  have o0 := box_cell (i := 0) HC.out.o rfl
  have o1 := box_cell (i := 1) HC.out.o rfl
  refine wpAny_ready (rs := [0,3]) (by kernel_rfl) (by simp) ?_
  refine anyN_cons 0 rfl (by rfl) (fun K hK => ?_) (anyN_cons 3 rfl (by rfl) (fun K hK => ?_) AllReady.nil)
  ·go_simp
   refine hK.out _ _ ?_
   clear hK K
   try simp only [aP]
   exact hs0_5
  ·go_simp
   refine hK.out _ _ ?_
   clear hK K
   try simp only [aP]
   exact hs3_5
 ·obtain ⟨⟨m0,m1⟩,a0,a1,a2,a3,a4,a5,a6,a7,_⟩ := HC.out.db.cells
  have o0 := box_cell (i := 0) HC.out.o rfl
  have o1 := box_cell (i := 1) HC.out.o rfl
  refine wpAny_ready (rs := [5]) (by kernel_rfl) (by simp) ?_
  refine anyN_cons 5 rfl (by rfl) (fun K hK => ?_) AllReady.nil
  go_simp
  refine hK.out _ _ ?_
  clear hK K
  try simp only [aP]
  exact hs0_3_5
 ·obtain ⟨⟨m0,m1⟩,a0,a1,a2,a3,a4,a5,a6,a7,_⟩ := HC.out.db.cells
  have o0 := box_cell (i := 0) HC.out.o rfl
  have o1 := box_cell (i := 1) HC.out.o rfl
  refine wpAny_ready (rs := [3]) (by kernel_rfl) (by simp) ?_
  refine anyN_cons 3 rfl (by rfl) (fun K hK => ?_) AllReady.nil
  go_simp
  refine hK.out _ _ ?_
  clear hK K
  try simp only [aP]
  exact hs0_3_5
 ·obtain ⟨⟨m0,m1⟩,a0,a1,a2,a3,a4,a5,a6,a7,_⟩ := HC.out.db.cells
  have o0 := box_cell (i := 0) HC.out.o rfl
  have o1 := box_cell (i := 1) HC.out.o rfl
  refine wpAny_ready (rs := [0,6]) (by kernel_rfl) (by simp) ?_
  refine anyN_cons 0 rfl (by rfl) (fun K hK => ?_) (anyN_cons 6 rfl (by rfl) (fun K hK => ?_) AllReady.nil)
  ·go_simp
   refine hK.out _ _ ?_
   clear hK K
   try simp only [aP]
   exact hs0_3_5
  ·go_simp
   refine (CS.out _ (.slice p1 n1 c1) w1.heap.size (HC.out.on ((Below.refl _ _).drew))).mono ?_
   rintro e w3 ⟨rfl,he⟩
   dsimp only
   have HE:Hid (DE N w w3 B sb most M2 K2 J2 (.slice p1 n1 c1) w1.heap.size) := he
   clear he
   refine hK.out _ _ ?_
   clear hK K
   try simp only [aP]
   refine tk (v := ?_) 8 rfl ?_ ?_
   rotate_left
   focus
    intro w9
    go_simp
    try with_reducible rfl
   try simp only [aP]
   exact hs3_5_6 w3 HE
 ·obtain ⟨⟨m0,m1⟩,a0,a1,a2,a3,a4,a5,a6,a7,_⟩ := HC.out.db.cells
  have o0 := box_cell (i := 0) HC.out.o rfl
  have o1 := box_cell (i := 1) HC.out.o rfl
  refine wpAny_ready (rs := [6]) (by kernel_rfl) (by simp) ?_
  refine anyN_cons 6 rfl (by rfl) (fun K hK => ?_) AllReady.nil
  go_simp
  refine (CS.out _ (.slice p1 n1 c1) w1.heap.size (HC.out.on ((Below.refl _ _).drew))).mono ?_
  rintro e w3 ⟨rfl,he⟩
  dsimp only
  have HE:Hid (DE N w w3 B sb most M2 K2 J2 (.slice p1 n1 c1) w1.heap.size) := he
  clear he
  refine hK.out _ _ ?_
  clear hK K
  try simp only [aP]
  refine tk (v := ?_) 8 rfl ?_ ?_
  rotate_left
  focus
   intro w9
   go_simp
   try with_reducible rfl
  try simp only [aP]
  exact hs0_3_5_6 w3 HE
 ·intro w3 HE
  obtain ⟨o0,o1,r0,r1,r2,r3⟩ := HE.out.cells
  refine wpAny_ready (rs := [0]) (by kernel_rfl) (by simp) ?_
  refine anyN_cons 0 rfl (by rfl) (fun K hK => ?_) AllReady.nil
  go_simp
  refine hK.out _ _ ?_
  clear hK K
  try simp only [aP]
  exact hs0_3_5_6 w3 HE
 ·intro w3 HE
  obtain ⟨o0,o1,r0,r1,r2,r3⟩ := HE.out.cells
  refine wpAny_ready (rs := [9]) (by kernel_rfl) (by simp) ?_
  refine anyN_cons 9 rfl (by rfl) (fun K hK => ?_) AllReady.nil
  go_simp
  refine hK.out _ _ ?_
  clear hK K
  try simp only [aP]
  refine wpAny_ready (rs := [10]) (by kernel_rfl) (by simp) ?_
  refine anyN_cons 10 rfl (by rfl) (fun K hK => ?_) AllReady.nil
  go_simp
  refine hK.out _ _ ?_
  clear hK K
  try simp only [aP]
  refine wpAny_done (by kernel_rfl) ?_ _
  go_wp2_with fail
  obtain ⟨f0,f1,fp,ff⟩ := HE.out.fin
  generalize (w3.setCell ⟨w.heap.size + 1 + 1,0,none⟩ (.int .i64 (most:Nat))).setCell ⟨w.heap.size + 1 + 1,1,none⟩ (.slice p1 n1 c1) = w9 at *
  (try simp only [Exit.inBlock,Exit.then])
  refine bodyPost_ret (v := .tuple #[.agg #[.int .i64 (most:Nat),.slice p1 n1 c1],.bool true]) (by simp [results,Tryz.results12,go_sem,f0,f1]) rfl ?_
  exact ⟨⟨_,rfl,fp⟩,ff⟩

end Go.Proofs.YtcibcfghkidncaaGreatDoor

namespace Go.Proofs.YtcibcfghkidncaaGreatDoor
open Go.RowKit Go.Lib
set_option maxRecDepth 100000

set_option maxHeartbeats 8000000 in
theorem does_back (N:Nat → Prop) (B sb most:Nat) (M M2:List Rs) (Kn J K2 J2:Nat) (sl tx vn:Int) (vg:Bool) (qv:Option Addr) (nv cv:Nat) (st lv:Int) (p:Option Addr) (n c:Nat) (w:World) (h:PS N w B sb most M Kn J (.slice p n c)) (G:List Nat) (hGl:G.length ≤ 65536)
  (cd:∀ w1,DB N w w1 B sb most M Kn J (.slice p n c) #[.int .i64 2,.int .i64 sl,.int .i64 tx,.int .i64 vn,.bool vg,.slice qv nv cv,.int .u64 st,.int .i64 lv] → Calls Tryz.prog 18 #[.agg #[.int .i64 (most:Nat),.slice p n c],.int .i64 tx,.int .i64 lv] w1 fun e w' => (∃ v1 gv,e = .returned (.tuple #[.agg #[.int .i64 (most:Nat),v1],gv]) ∧ DocS w' B v1 (docL M2) ∧ OwnI w' w1.heap.size gv G) ∧ Below w1.heap.size w1 w')
  (cs:∀ w1 v1 bo gv b,DC N w w1 B sb most M M2 Kn J (.slice p n c) v1 #[.int .i64 2,.int .i64 sl,.int .i64 tx,.int .i64 vn,.bool vg,.slice qv nv cv,.int .u64 st,.int .i64 lv] bo → w.heap.size ≤ b → OwnI w1 b gv G → Calls Tryz.prog 17 #[ptr1 sb,.int .i64 tx,.int .i64 lv] w1 fun e w' => ∃ vb,e = .returned vb ∧ DE N w w' B sb most M2 K2 J2 v1 bo ∧ OwnI w' w1.heap.size vb G ∧ OwnI w' b gv G) :
  Calls Tryz.prog 12 #[ptr1 sb,.agg #[.int .i64 (most:Nat),.slice p n c],.agg #[.int .i64 2,.int .i64 sl,.int .i64 tx,.int .i64 vn,.bool vg,.slice qv nv cv,.int .u64 st,.int .i64 lv]] w fun e w' => (∃ v2,e = .returned (.tuple #[.agg #[.int .i64 (most:Nat),v2],.bool true]) ∧ PS N w' B sb most M2 K2 J2 v2) ∧ Frm w w' (frN B N) := by
 have CD:Hid (∀ w1,DB N w w1 B sb most M Kn J (.slice p n c) #[.int .i64 2,.int .i64 sl,.int .i64 tx,.int .i64 vn,.bool vg,.slice qv nv cv,.int .u64 st,.int .i64 lv] → Calls Tryz.prog 18 #[.agg #[.int .i64 (most:Nat),.slice p n c],.int .i64 tx,.int .i64 lv] w1 fun e w' => (∃ v1 gv,e = .returned (.tuple #[.agg #[.int .i64 (most:Nat),v1],gv]) ∧ DocS w' B v1 (docL M2) ∧ OwnI w' w1.heap.size gv G) ∧ Below w1.heap.size w1 w') := cd
 have CS:Hid (∀ w1 v1 bo gv b,DC N w w1 B sb most M M2 Kn J (.slice p n c) v1 #[.int .i64 2,.int .i64 sl,.int .i64 tx,.int .i64 vn,.bool vg,.slice qv nv cv,.int .u64 st,.int .i64 lv] bo → w.heap.size ≤ b → OwnI w1 b gv G → Calls Tryz.prog 17 #[ptr1 sb,.int .i64 tx,.int .i64 lv] w1 fun e w' => ∃ vb,e = .returned vb ∧ DE N w w' B sb most M2 K2 J2 v1 bo ∧ OwnI w' w1.heap.size vb G ∧ OwnI w' b gv G) := cs
 clear cd cs
 have HB0:Hid (DB N w _ B sb most M Kn J (.slice p n c) #[.int .i64 2,.int .i64 sl,.int .i64 tx,.int .i64 vn,.bool vg,.slice qv nv cv,.int .u64 st,.int .i64 lv]) := DB.start h _
 clear h
 go_enter Tryz.func12,Tryz.ntmps12
 go_upto_region 1 with fail
 generalize (((w.alloc (.cells #[.int .i64 (most:Nat),.slice p n c] 29)).alloc (.cells #[.int .i64 2,.int .i64 sl,.int .i64 tx,.int .i64 vn,.bool vg,.slice qv nv cv,.int .u64 st,.int .i64 lv] 41)).alloc (.cells #[.int .i64 0,.slice none 0 0] 29)) = w0 at *
 obtain ⟨⟨m0,m1⟩,a0,a1,a2,a3,a4,a5,a6,a7,_⟩ := HB0.out.cells
 have HSz:Hid (w.heap.size ≤ w0.heap.size) := HB0.out.bel.size
 go_wp2_with fail
 refine (CD.out _ HB0.out).mono ?_
 rintro e w1 ⟨⟨v1,gv,rfl,hd,hgv⟩,hb1⟩
 obtain ⟨p1,n1,c1,e1⟩:∃ p1 n1 c1,v1 = .slice p1 n1 c1 := by obtain ⟨p1,c1,e1,_⟩ := hd.len; exact ⟨p1,_,c1,e1⟩
 subst e1
 have HC:Hid (DC N w _ B sb most M M2 Kn J (.slice p n c) (.slice p1 n1 c1) #[.int .i64 2,.int .i64 sl,.int .i64 tx,.int .i64 vn,.bool vg,.slice qv nv cv,.int .u64 st,.int .i64 lv] w1.heap.size) := HB0.out.told hb1 hd
 have HGv:Hid (w.heap.size ≤ w0.heap.size ∧ OwnI _ w0.heap.size gv G) := ⟨HSz.out,owns_kept hgv (one_new w1 #[.int .i64 (most:Nat),.slice p1 n1 c1] 29).2.1⟩
 clear hgv hd hb1 m0 m1 a0 a1 a2 a3 a4 a5 a6 a7 CD
 go_upto_region 11 with fail
 generalize (w1.alloc (.cells #[.int .i64 (most:Nat),.slice p1 n1 c1] 29)) = w2 at *
 refine wp_region_any (by kernel_rfl) ?_
 change wpAny _ _ _ _ _ _ _ (World.drew _)
 refine tk (v := ?_) 1 rfl ?_ ?_
 rotate_left
 focus
  intro w9
  go_simp
  try with_reducible rfl
 try simp only [aP]
 refine tk (v := ?_) 2 rfl ?_ ?_
 rotate_left
 focus
  intro w9
  go_simp
  try with_reducible rfl
 try simp only [aP]
 refine tk (v := ?_) 4 rfl ?_ ?_
 rotate_left
 focus
  intro w9
  go_simp
  try with_reducible rfl
 try simp only [aP]
 refine tk (v := ?_) 7 rfl ?_ ?_
 rotate_left
 focus
  intro w9
  go_simp
  try with_reducible rfl
 try simp only [aP]
 apply later2 (fun (w4:World) (_:Value) => Hid (DE N w w4 B sb most M2 K2 J2 (.slice p1 n1 c1) w1.heap.size))
 intro hs0_3_5_6_8
 apply later2 (fun (w4:World) (_:Value) => Hid (DE N w w4 B sb most M2 K2 J2 (.slice p1 n1 c1) w1.heap.size))
 intro hs3_5_6_8
 apply later2 (fun (w3:World) (vb:Value) => Hid (DE N w w3 B sb most M2 K2 J2 (.slice p1 n1 c1) w1.heap.size ∧ (∃ b,OwnI w3 b vb G) ∧ ∃ b,OwnI w3 b gv G))
 intro hs0_3_5_6
 apply later2 (fun (w3:World) (vb:Value) => Hid (DE N w w3 B sb most M2 K2 J2 (.slice p1 n1 c1) w1.heap.size ∧ (∃ b,OwnI w3 b vb G) ∧ ∃ b,OwnI w3 b gv G))
 intro hs3_5_6
 apply later0
 intro hs0_3_5
 apply later0
 intro hs3_5
 apply later0
 intro hs0_5
 apply later0
 intro hs0_3
 apply later0
 intro hs5
 apply later0
 intro hs3
 apply later0
 intro hs0
 ·obtain ⟨⟨m0,m1⟩,a0,a1,a2,a3,a4,a5,a6,a7,_⟩ := HC.out.db.cells
  have o0 := box_cell (i := 0) HC.out.o rfl
  have o1 := box_cell (i := 1) HC.out.o rfl
  refine wpAny_ready (rs := [0,3,5]) (by kernel_rfl) (by simp) ?_
  refine anyN_cons 0 rfl (by rfl) (fun K hK => ?_) (anyN_cons 3 rfl (by rfl) (fun K hK => ?_) (anyN_cons 5 rfl (by rfl) (fun K hK => ?_) AllReady.nil))
  ·go_simp
   refine hK.out _ _ ?_
   clear hK K
   try simp only [aP]
   exact hs0
  ·go_simp
   refine hK.out _ _ ?_
   clear hK K
   try simp only [aP]
   exact hs3
  ·go_simp
   refine hK.out _ _ ?_
   clear hK K
   try simp only [aP]
   exact hs5
 ·obtain ⟨⟨m0,m1⟩,a0,a1,a2,a3,a4,a5,a6,a7,_⟩ := HC.out.db.cells
  have o0 := box_cell (i := 0) HC.out.o rfl
  have o1 := box_cell (i := 1) HC.out.o rfl
  refine wpAny_ready (rs := [3,5]) (by kernel_rfl) (by simp) ?_
  refine anyN_cons 3 rfl (by rfl) (fun K hK => ?_) (anyN_cons 5 rfl (by rfl) (fun K hK => ?_) AllReady.nil)
  ·go_simp
   refine hK.out _ _ ?_
   clear hK K
   try simp only [aP]
   exact hs0_3
  ·go_simp
   refine hK.out _ _ ?_
   clear hK K
   try simp only [aP]
   exact hs0_5
 ·obtain ⟨⟨m0,m1⟩,a0,a1,a2,a3,a4,a5,a6,a7,_⟩ := HC.out.db.cells
  have o0 := box_cell (i := 0) HC.out.o rfl
  have o1 := box_cell (i := 1) HC.out.o rfl
  refine wpAny_ready (rs := [0,5]) (by kernel_rfl) (by simp) ?_
  refine anyN_cons 0 rfl (by rfl) (fun K hK => ?_) (anyN_cons 5 rfl (by rfl) (fun K hK => ?_) AllReady.nil)
  ·go_simp
   refine hK.out _ _ ?_
   clear hK K
   try simp only [aP]
   exact hs0_3
  ·go_simp
   refine hK.out _ _ ?_
   clear hK K
   try simp only [aP]
   exact hs3_5
 ·obtain ⟨⟨m0,m1⟩,a0,a1,a2,a3,a4,a5,a6,a7,_⟩ := HC.out.db.cells
  have o0 := box_cell (i := 0) HC.out.o rfl
  have o1 := box_cell (i := 1) HC.out.o rfl
  refine wpAny_ready (rs := [0,3]) (by kernel_rfl) (by simp) ?_
  refine anyN_cons 0 rfl (by rfl) (fun K hK => ?_) (anyN_cons 3 rfl (by rfl) (fun K hK => ?_) AllReady.nil)
  ·go_simp
   refine hK.out _ _ ?_
   clear hK K
   try simp only [aP]
   exact hs0_5
  ·go_simp
   refine hK.out _ _ ?_
   clear hK K
   try simp only [aP]
   exact hs3_5
 ·obtain ⟨⟨m0,m1⟩,a0,a1,a2,a3,a4,a5,a6,a7,_⟩ := HC.out.db.cells
  have o0 := box_cell (i := 0) HC.out.o rfl
  have o1 := box_cell (i := 1) HC.out.o rfl
  refine wpAny_ready (rs := [5]) (by kernel_rfl) (by simp) ?_
  refine anyN_cons 5 rfl (by rfl) (fun K hK => ?_) AllReady.nil
  go_simp
  refine hK.out _ _ ?_
  clear hK K
  try simp only [aP]
  exact hs0_3_5
 ·obtain ⟨⟨m0,m1⟩,a0,a1,a2,a3,a4,a5,a6,a7,_⟩ := HC.out.db.cells
  have o0 := box_cell (i := 0) HC.out.o rfl
  have o1 := box_cell (i := 1) HC.out.o rfl
  refine wpAny_ready (rs := [3]) (by kernel_rfl) (by simp) ?_
  refine anyN_cons 3 rfl (by rfl) (fun K hK => ?_) AllReady.nil
  go_simp
  refine hK.out _ _ ?_
  clear hK K
  try simp only [aP]
  exact hs0_3_5
 ·obtain ⟨⟨m0,m1⟩,a0,a1,a2,a3,a4,a5,a6,a7,_⟩ := HC.out.db.cells
  have o0 := box_cell (i := 0) HC.out.o rfl
  have o1 := box_cell (i := 1) HC.out.o rfl
  refine wpAny_ready (rs := [0,6]) (by kernel_rfl) (by simp) ?_
  refine anyN_cons 0 rfl (by rfl) (fun K hK => ?_) (anyN_cons 6 rfl (by rfl) (fun K hK => ?_) AllReady.nil)
  ·go_simp
   refine hK.out _ _ ?_
   clear hK K
   try simp only [aP]
   exact hs0_3_5
  ·go_simp
   refine (CS.out _ (.slice p1 n1 c1) w1.heap.size gv _ (HC.out.on ((Below.refl _ _).drew)) HGv.out.1 (owns_kept HGv.out.2 ((Below.refl _ _).drew))).mono ?_
   rintro e w3 ⟨vb,rfl,he,hg1,hg2⟩
   dsimp only
   have HG:Hid (DE N w w3 B sb most M2 K2 J2 (.slice p1 n1 c1) w1.heap.size ∧ (∃ b,OwnI w3 b vb G) ∧ ∃ b,OwnI w3 b gv G) := ⟨he,⟨_,hg1⟩,⟨_,hg2⟩⟩
   clear he hg1 hg2
   refine hK.out _ _ ?_
   clear hK K
   try simp only [aP]
   exact hs3_5_6 w3 vb HG
 ·obtain ⟨⟨m0,m1⟩,a0,a1,a2,a3,a4,a5,a6,a7,_⟩ := HC.out.db.cells
  have o0 := box_cell (i := 0) HC.out.o rfl
  have o1 := box_cell (i := 1) HC.out.o rfl
  refine wpAny_ready (rs := [6]) (by kernel_rfl) (by simp) ?_
  refine anyN_cons 6 rfl (by rfl) (fun K hK => ?_) AllReady.nil
  go_simp
  refine (CS.out _ (.slice p1 n1 c1) w1.heap.size gv _ (HC.out.on ((Below.refl _ _).drew)) HGv.out.1 (owns_kept HGv.out.2 ((Below.refl _ _).drew))).mono ?_
  rintro e w3 ⟨vb,rfl,he,hg1,hg2⟩
  dsimp only
  have HG:Hid (DE N w w3 B sb most M2 K2 J2 (.slice p1 n1 c1) w1.heap.size ∧ (∃ b,OwnI w3 b vb G) ∧ ∃ b,OwnI w3 b gv G) := ⟨he,⟨_,hg1⟩,⟨_,hg2⟩⟩
  clear he hg1 hg2
  refine hK.out _ _ ?_
  clear hK K
  try simp only [aP]
  exact hs0_3_5_6 w3 vb HG
 ·intro w3 vb HG
  obtain ⟨o0,o1,r0,r1,r2,r3⟩ := HG.out.1.cells
  refine wpAny_ready (rs := [0,8]) (by kernel_rfl) (by simp) ?_
  refine anyN_cons 0 rfl (by rfl) (fun K hK => ?_) (anyN_cons 8 rfl (by rfl) (fun K hK => ?_) AllReady.nil)
  ·go_simp
   refine hK.out _ _ ?_
   clear hK K
   try simp only [aP]
   exact hs0_3_5_6 w3 vb HG
  ·go_simp
   obtain ⟨hg0,⟨b1,hg1⟩,⟨b2,hg2⟩⟩ := HG.out
   refine (ints_eq G _ _ vb gv _ hg1 hg2 hGl).mono ?_
   rintro e w4 ⟨rfl,hb4⟩
   dsimp only
   have HE:Hid (DE N w w4 B sb most M2 K2 J2 (.slice p1 n1 c1) w1.heap.size) := hg0.on hb4
   clear hb4 hg0 hg1 hg2
   refine hK.out _ _ ?_
   clear hK K
   try simp only [aP]
   exact hs3_5_6_8 w4 vb HE
 ·intro w3 vb HG
  obtain ⟨o0,o1,r0,r1,r2,r3⟩ := HG.out.1.cells
  refine wpAny_ready (rs := [8]) (by kernel_rfl) (by simp) ?_
  refine anyN_cons 8 rfl (by rfl) (fun K hK => ?_) AllReady.nil
  go_simp
  obtain ⟨hg0,⟨b1,hg1⟩,⟨b2,hg2⟩⟩ := HG.out
  refine (ints_eq G _ _ vb gv _ hg1 hg2 hGl).mono ?_
  rintro e w4 ⟨rfl,hb4⟩
  dsimp only
  have HE:Hid (DE N w w4 B sb most M2 K2 J2 (.slice p1 n1 c1) w1.heap.size) := hg0.on hb4
  clear hb4 hg0 hg1 hg2
  refine hK.out _ _ ?_
  clear hK K
  try simp only [aP]
  exact hs0_3_5_6_8 w4 vb HE
 ·intro w4 vb HE
  obtain ⟨o0,o1,r0,r1,r2,r3⟩ := HE.out.cells
  refine wpAny_ready (rs := [0]) (by kernel_rfl) (by simp) ?_
  refine anyN_cons 0 rfl (by rfl) (fun K hK => ?_) AllReady.nil
  go_simp
  refine hK.out _ _ ?_
  clear hK K
  try simp only [aP]
  exact hs0_3_5_6_8 w4 vb HE
 ·intro w4 vb HE
  obtain ⟨o0,o1,r0,r1,r2,r3⟩ := HE.out.cells
  refine wpAny_ready (rs := [9]) (by kernel_rfl) (by simp) ?_
  refine anyN_cons 9 rfl (by rfl) (fun K hK => ?_) AllReady.nil
  go_simp
  refine hK.out _ _ ?_
  clear hK K
  try simp only [aP]
  refine wpAny_ready (rs := [10]) (by kernel_rfl) (by simp) ?_
  refine anyN_cons 10 rfl (by rfl) (fun K hK => ?_) AllReady.nil
  go_simp
  refine hK.out _ _ ?_
  clear hK K
  try simp only [aP]
  refine wpAny_done (by kernel_rfl) ?_ _
  go_wp2_with fail
  obtain ⟨f0,f1,fp,ff⟩ := HE.out.fin
  generalize (w4.setCell ⟨w.heap.size + 1 + 1,0,none⟩ (.int .i64 (most:Nat))).setCell ⟨w.heap.size + 1 + 1,1,none⟩ (.slice p1 n1 c1) = w9 at *
  (try simp only [Exit.inBlock,Exit.then])
  refine bodyPost_ret (v := .tuple #[.agg #[.int .i64 (most:Nat),.slice p1 n1 c1],.bool true]) (by simp [results,Tryz.results12,go_sem,f0,f1]) rfl ?_
  exact ⟨⟨_,rfl,fp⟩,ff⟩

end Go.Proofs.YtcibcfghkidncaaGreatDoor

namespace Go.Proofs.YtcibcfghkidncaaGreatDoor
open Go.RowKit Go.Lib
set_option maxRecDepth 100000

set_option maxHeartbeats 8000000 in
theorem does_prune (N:Nat → Prop) (B sb most:Nat) (M M2:List Rs) (Kn J K2 J2:Nat) (sl tx vn:Int) (vg:Bool) (qv:Option Addr) (nv cv:Nat) (st lv:Int) (p:Option Addr) (n c:Nat) (w:World) (h:PS N w B sb most M Kn J (.slice p n c)) (nn:Int) (G:List Nat) (hGl:G.length ≤ 65536)
  (cd:∀ w1,DB N w w1 B sb most M Kn J (.slice p n c) #[.int .i64 5,.int .i64 sl,.int .i64 tx,.int .i64 vn,.bool vg,.slice qv nv cv,.int .u64 st,.int .i64 lv] → Calls Tryz.prog 40 #[.agg #[.int .i64 (most:Nat),.slice p n c],.int .u64 st] w1 fun e w' => (∃ v1 gv,e = .returned (.tuple #[.agg #[.int .i64 (most:Nat),v1],.int .i64 nn,gv]) ∧ DocS w' B v1 (docL M2) ∧ OwnI w' w1.heap.size gv G) ∧ Below w1.heap.size w1 w')
  (cs:∀ w1 v1 bo gv b,DC N w w1 B sb most M M2 Kn J (.slice p n c) v1 #[.int .i64 5,.int .i64 sl,.int .i64 tx,.int .i64 vn,.bool vg,.slice qv nv cv,.int .u64 st,.int .i64 lv] bo → w.heap.size ≤ b → OwnI w1 b gv G → Calls Tryz.prog 41 #[ptr1 sb,.int .u64 st] w1 fun e w' => ∃ vb,e = .returned (.tuple #[.int .i64 nn,vb]) ∧ DE N w w' B sb most M2 K2 J2 v1 bo ∧ OwnI w' w1.heap.size vb G ∧ OwnI w' b gv G) :
  Calls Tryz.prog 12 #[ptr1 sb,.agg #[.int .i64 (most:Nat),.slice p n c],.agg #[.int .i64 5,.int .i64 sl,.int .i64 tx,.int .i64 vn,.bool vg,.slice qv nv cv,.int .u64 st,.int .i64 lv]] w fun e w' => (∃ v2,e = .returned (.tuple #[.agg #[.int .i64 (most:Nat),v2],.bool true]) ∧ PS N w' B sb most M2 K2 J2 v2) ∧ Frm w w' (frN B N) := by
 have CD:Hid (∀ w1,DB N w w1 B sb most M Kn J (.slice p n c) #[.int .i64 5,.int .i64 sl,.int .i64 tx,.int .i64 vn,.bool vg,.slice qv nv cv,.int .u64 st,.int .i64 lv] → Calls Tryz.prog 40 #[.agg #[.int .i64 (most:Nat),.slice p n c],.int .u64 st] w1 fun e w' => (∃ v1 gv,e = .returned (.tuple #[.agg #[.int .i64 (most:Nat),v1],.int .i64 nn,gv]) ∧ DocS w' B v1 (docL M2) ∧ OwnI w' w1.heap.size gv G) ∧ Below w1.heap.size w1 w') := cd
 have CS:Hid (∀ w1 v1 bo gv b,DC N w w1 B sb most M M2 Kn J (.slice p n c) v1 #[.int .i64 5,.int .i64 sl,.int .i64 tx,.int .i64 vn,.bool vg,.slice qv nv cv,.int .u64 st,.int .i64 lv] bo → w.heap.size ≤ b → OwnI w1 b gv G → Calls Tryz.prog 41 #[ptr1 sb,.int .u64 st] w1 fun e w' => ∃ vb,e = .returned (.tuple #[.int .i64 nn,vb]) ∧ DE N w w' B sb most M2 K2 J2 v1 bo ∧ OwnI w' w1.heap.size vb G ∧ OwnI w' b gv G) := cs
 clear cd cs
 have HB0:Hid (DB N w _ B sb most M Kn J (.slice p n c) #[.int .i64 5,.int .i64 sl,.int .i64 tx,.int .i64 vn,.bool vg,.slice qv nv cv,.int .u64 st,.int .i64 lv]) := DB.start h _
 clear h
 go_enter Tryz.func12,Tryz.ntmps12
 go_upto_region 1 with fail
 generalize (((w.alloc (.cells #[.int .i64 (most:Nat),.slice p n c] 29)).alloc (.cells #[.int .i64 5,.int .i64 sl,.int .i64 tx,.int .i64 vn,.bool vg,.slice qv nv cv,.int .u64 st,.int .i64 lv] 41)).alloc (.cells #[.int .i64 0,.slice none 0 0] 29)) = w0 at *
 obtain ⟨⟨m0,m1⟩,a0,a1,a2,a3,a4,a5,a6,a7,_⟩ := HB0.out.cells
 have HSz:Hid (w.heap.size ≤ w0.heap.size) := HB0.out.bel.size
 go_wp2_with fail
 refine (CD.out _ HB0.out).mono ?_
 rintro e w1 ⟨⟨v1,gv,rfl,hd,hgv⟩,hb1⟩
 obtain ⟨p1,n1,c1,e1⟩:∃ p1 n1 c1,v1 = .slice p1 n1 c1 := by obtain ⟨p1,c1,e1,_⟩ := hd.len; exact ⟨p1,_,c1,e1⟩
 subst e1
 have HC:Hid (DC N w _ B sb most M M2 Kn J (.slice p n c) (.slice p1 n1 c1) #[.int .i64 5,.int .i64 sl,.int .i64 tx,.int .i64 vn,.bool vg,.slice qv nv cv,.int .u64 st,.int .i64 lv] w1.heap.size) := HB0.out.told hb1 hd
 have HGv:Hid (w.heap.size ≤ w0.heap.size ∧ OwnI _ w0.heap.size gv G) := ⟨HSz.out,owns_kept hgv (one_new w1 #[.int .i64 (most:Nat),.slice p1 n1 c1] 29).2.1⟩
 clear hgv hd hb1 m0 m1 a0 a1 a2 a3 a4 a5 a6 a7 CD
 go_upto_region 21 with fail
 generalize (w1.alloc (.cells #[.int .i64 (most:Nat),.slice p1 n1 c1] 29)) = w2 at *
 obtain ⟨⟨m0,m1⟩,a0,a1,a2,a3,a4,a5,a6,a7,_⟩ := HC.out.db.cells
 go_wp2_with fail
 refine (CS.out _ (.slice p1 n1 c1) w1.heap.size gv _ HC.out HGv.out.1 HGv.out.2).mono ?_
 rintro e w3 ⟨vb,rfl,he,hg1,hg2⟩
 have HG:Hid (DE N w w3 B sb most M2 K2 J2 (.slice p1 n1 c1) w1.heap.size ∧ (∃ b,OwnI w3 b vb G) ∧ ∃ b,OwnI w3 b gv G) := ⟨he,⟨_,hg1⟩,⟨_,hg2⟩⟩
 clear he hg1 hg2 HC m0 m1 a0 a1 a2 a3 a4 a5 a6 a7
 go_upto_region 22 with fail
 refine wp_region_any (by kernel_rfl) ?_
 change wpAny _ _ _ _ _ _ _ (World.drew _)
 refine tk (v := ?_) 1 rfl ?_ ?_
 rotate_left
 focus
  intro w9
  go_simp
  try with_reducible rfl
 try simp only [aP]
 refine tk (v := ?_) 2 rfl ?_ ?_
 rotate_left
 focus
  intro w9
  go_simp
  try with_reducible rfl
 try simp only [aP]
 refine tk (v := ?_) 3 rfl ?_ ?_
 rotate_left
 focus
  intro w9
  go_simp
  try with_reducible rfl
 try simp only [aP]
 refine tk (v := ?_) 4 rfl ?_ ?_
 rotate_left
 focus
  intro w9
  go_simp
  try with_reducible rfl
 try simp only [aP]
 refine tk (v := ?_) 5 rfl ?_ ?_
 rotate_left
 focus
  intro w9
  go_simp
  try with_reducible rfl
 try simp only [aP]
 refine tk (v := ?_) 6 rfl ?_ ?_
 rotate_left
 focus
  intro w9
  go_simp
  try with_reducible rfl
 try simp only [aP]
 apply later1 (fun (w4:World) => Hid (DE N w w4 B sb most M2 K2 J2 (.slice p1 n1 c1) w1.heap.size))
 intro hs0_7
 apply later1 (fun (w4:World) => Hid (DE N w w4 B sb most M2 K2 J2 (.slice p1 n1 c1) w1.heap.size))
 intro hs7
 apply later0
 intro hs0
 ·obtain ⟨o0,o1,r0,r1,r2,r3⟩ := HG.out.1.cells
  refine wpAny_ready (rs := [0,7]) (by kernel_rfl) (by simp) ?_
  refine anyN_cons 0 rfl (by rfl) (fun K hK => ?_) (anyN_cons 7 rfl (by rfl) (fun K hK => ?_) AllReady.nil)
  ·go_simp
   refine hK.out _ _ ?_
   clear hK K
   try simp only [aP]
   exact hs0
  ·go_simp
   obtain ⟨hg0,⟨b1,hg1⟩,⟨b2,hg2⟩⟩ := HG.out
   refine (ints_eq G _ _ vb gv w3.drew (owns_kept hg1 ((Below.refl _ _).drew)) (owns_kept hg2 ((Below.refl _ _).drew)) hGl).mono ?_
   rintro e w4 ⟨rfl,hb4⟩
   dsimp only
   have HE:Hid (DE N w w4 B sb most M2 K2 J2 (.slice p1 n1 c1) w1.heap.size) := (hg0.on ((Below.refl _ _).drew)).on hb4
   clear hb4 hg0 hg1 hg2
   refine hK.out _ _ ?_
   clear hK K
   try simp only [aP]
   refine tk (v := ?_) 8 rfl ?_ ?_
   rotate_left
   focus
    intro w9
    go_simp
    try with_reducible rfl
   try simp only [aP]
   exact hs7 w4 HE
 ·obtain ⟨o0,o1,r0,r1,r2,r3⟩ := HG.out.1.cells
  refine wpAny_ready (rs := [7]) (by kernel_rfl) (by simp) ?_
  refine anyN_cons 7 rfl (by rfl) (fun K hK => ?_) AllReady.nil
  go_simp
  obtain ⟨hg0,⟨b1,hg1⟩,⟨b2,hg2⟩⟩ := HG.out
  refine (ints_eq G _ _ vb gv w3.drew (owns_kept hg1 ((Below.refl _ _).drew)) (owns_kept hg2 ((Below.refl _ _).drew)) hGl).mono ?_
  rintro e w4 ⟨rfl,hb4⟩
  dsimp only
  have HE:Hid (DE N w w4 B sb most M2 K2 J2 (.slice p1 n1 c1) w1.heap.size) := (hg0.on ((Below.refl _ _).drew)).on hb4
  clear hb4 hg0 hg1 hg2
  refine hK.out _ _ ?_
  clear hK K
  try simp only [aP]
  refine tk (v := ?_) 8 rfl ?_ ?_
  rotate_left
  focus
   intro w9
   go_simp
   try with_reducible rfl
  try simp only [aP]
  exact hs0_7 w4 HE
 ·intro w4 HE
  obtain ⟨o0,o1,r0,r1,r2,r3⟩ := HE.out.cells
  refine wpAny_ready (rs := [0]) (by kernel_rfl) (by simp) ?_
  refine anyN_cons 0 rfl (by rfl) (fun K hK => ?_) AllReady.nil
  go_simp
  refine hK.out _ _ ?_
  clear hK K
  try simp only [aP]
  exact hs0_7 w4 HE
 ·intro w4 HE
  obtain ⟨o0,o1,r0,r1,r2,r3⟩ := HE.out.cells
  refine wpAny_ready (rs := [9]) (by kernel_rfl) (by simp) ?_
  refine anyN_cons 9 rfl (by rfl) (fun K hK => ?_) AllReady.nil
  go_simp
  refine hK.out _ _ ?_
  clear hK K
  try simp only [aP]
  refine wpAny_ready (rs := [10]) (by kernel_rfl) (by simp) ?_
  refine anyN_cons 10 rfl (by rfl) (fun K hK => ?_) AllReady.nil
  go_simp
  refine hK.out _ _ ?_
  clear hK K
  try simp only [aP]
  refine wpAny_done (by kernel_rfl) ?_ _
  go_wp2_with fail
  obtain ⟨f0,f1,fp,ff⟩ := HE.out.fin
  generalize (w4.setCell ⟨w.heap.size + 1 + 1,0,none⟩ (.int .i64 (most:Nat))).setCell ⟨w.heap.size + 1 + 1,1,none⟩ (.slice p1 n1 c1) = w9 at *
  (try simp only [Exit.inBlock,Exit.then])
  refine bodyPost_ret (v := .tuple #[.agg #[.int .i64 (most:Nat),.slice p1 n1 c1],.bool true]) (by simp [results,Tryz.results12,go_sem,f0,f1]) rfl ?_
  exact ⟨⟨_,rfl,fp⟩,ff⟩

end Go.Proofs.YtcibcfghkidncaaGreatDoor

namespace Go.Proofs.YtcibcfghkidncaaGreatDoor
open Go.RowKit Go.Lib
set_option maxRecDepth 100000

set_option maxHeartbeats 8000000 in
theorem does_settle (N:Nat → Prop) (B sb most:Nat) (M M2:List Rs) (Kn J K2 J2:Nat) (sl tx vn:Int) (vg:Bool) (qv:Option Addr) (nv cv:Nat) (st lv:Int) (p:Option Addr) (n c:Nat) (w:World) (h:PS N w B sb most M Kn J (.slice p n c)) (nn er:Int)
  (cd:∀ w1,DB N w w1 B sb most M Kn J (.slice p n c) #[.int .i64 4,.int .i64 sl,.int .i64 tx,.int .i64 vn,.bool vg,.slice qv nv cv,.int .u64 st,.int .i64 lv] → Calls Tryz.prog 38 #[.agg #[.int .i64 (most:Nat),.slice p n c],.int .i64 tx,.int .u64 st] w1 fun e w' => (∃ v1,e = .returned (.tuple #[.agg #[.int .i64 (most:Nat),v1],.int .i64 nn,.int .i64 er]) ∧ DocS w' B v1 (docL M2)) ∧ Below w1.heap.size w1 w')
  (cs:∀ w1 v1 bo,DC N w w1 B sb most M M2 Kn J (.slice p n c) v1 #[.int .i64 4,.int .i64 sl,.int .i64 tx,.int .i64 vn,.bool vg,.slice qv nv cv,.int .u64 st,.int .i64 lv] bo → Calls Tryz.prog 39 #[ptr1 sb,.int .i64 tx,.int .u64 st] w1 fun e w' => e = .returned (.tuple #[.int .i64 nn,.int .i64 er]) ∧ DE N w w' B sb most M2 K2 J2 v1 bo) :
  Calls Tryz.prog 12 #[ptr1 sb,.agg #[.int .i64 (most:Nat),.slice p n c],.agg #[.int .i64 4,.int .i64 sl,.int .i64 tx,.int .i64 vn,.bool vg,.slice qv nv cv,.int .u64 st,.int .i64 lv]] w fun e w' => (∃ v2,e = .returned (.tuple #[.agg #[.int .i64 (most:Nat),v2],.bool true]) ∧ PS N w' B sb most M2 K2 J2 v2) ∧ Frm w w' (frN B N) := by
 have CD:Hid (∀ w1,DB N w w1 B sb most M Kn J (.slice p n c) #[.int .i64 4,.int .i64 sl,.int .i64 tx,.int .i64 vn,.bool vg,.slice qv nv cv,.int .u64 st,.int .i64 lv] → Calls Tryz.prog 38 #[.agg #[.int .i64 (most:Nat),.slice p n c],.int .i64 tx,.int .u64 st] w1 fun e w' => (∃ v1,e = .returned (.tuple #[.agg #[.int .i64 (most:Nat),v1],.int .i64 nn,.int .i64 er]) ∧ DocS w' B v1 (docL M2)) ∧ Below w1.heap.size w1 w') := cd
 have CS:Hid (∀ w1 v1 bo,DC N w w1 B sb most M M2 Kn J (.slice p n c) v1 #[.int .i64 4,.int .i64 sl,.int .i64 tx,.int .i64 vn,.bool vg,.slice qv nv cv,.int .u64 st,.int .i64 lv] bo → Calls Tryz.prog 39 #[ptr1 sb,.int .i64 tx,.int .u64 st] w1 fun e w' => e = .returned (.tuple #[.int .i64 nn,.int .i64 er]) ∧ DE N w w' B sb most M2 K2 J2 v1 bo) := cs
 clear cd cs
 have HB0:Hid (DB N w _ B sb most M Kn J (.slice p n c) #[.int .i64 4,.int .i64 sl,.int .i64 tx,.int .i64 vn,.bool vg,.slice qv nv cv,.int .u64 st,.int .i64 lv]) := DB.start h _
 clear h
 go_enter Tryz.func12,Tryz.ntmps12
 go_upto_region 1 with fail
 generalize (((w.alloc (.cells #[.int .i64 (most:Nat),.slice p n c] 29)).alloc (.cells #[.int .i64 4,.int .i64 sl,.int .i64 tx,.int .i64 vn,.bool vg,.slice qv nv cv,.int .u64 st,.int .i64 lv] 41)).alloc (.cells #[.int .i64 0,.slice none 0 0] 29)) = w0 at *
 obtain ⟨⟨m0,m1⟩,a0,a1,a2,a3,a4,a5,a6,a7,_⟩ := HB0.out.cells
 go_wp2_with fail
 refine (CD.out _ HB0.out).mono ?_
 rintro e w1 ⟨⟨v1,rfl,hd⟩,hb1⟩
 obtain ⟨p1,n1,c1,e1⟩:∃ p1 n1 c1,v1 = .slice p1 n1 c1 := by obtain ⟨p1,c1,e1,_⟩ := hd.len; exact ⟨p1,_,c1,e1⟩
 subst e1
 have HC:Hid (DC N w _ B sb most M M2 Kn J (.slice p n c) (.slice p1 n1 c1) #[.int .i64 4,.int .i64 sl,.int .i64 tx,.int .i64 vn,.bool vg,.slice qv nv cv,.int .u64 st,.int .i64 lv] w1.heap.size) := HB0.out.told hb1 hd
 clear hd hb1 m0 m1 a0 a1 a2 a3 a4 a5 a6 a7 CD
 go_upto_region 17 with fail
 generalize (w1.alloc (.cells #[.int .i64 (most:Nat),.slice p1 n1 c1] 29)) = w2 at *
 obtain ⟨⟨m0,m1⟩,a0,a1,a2,a3,a4,a5,a6,a7,_⟩ := HC.out.db.cells
 go_wp2_with fail
 refine (CS.out _ (.slice p1 n1 c1) w1.heap.size HC.out).mono ?_
 rintro e w3 ⟨rfl,he⟩
 have HE:Hid (DE N w w3 B sb most M2 K2 J2 (.slice p1 n1 c1) w1.heap.size) := he
 clear he HC m0 m1 a0 a1 a2 a3 a4 a5 a6 a7
 obtain ⟨o0,o1,r0,r1,r2,r3⟩ := HE.out.cells
 go_wp2_with fail
 obtain ⟨f0,f1,fp,ff⟩ := HE.out.fin
 generalize (w3.setCell ⟨w.heap.size + 1 + 1,0,none⟩ (.int .i64 (most:Nat))).setCell ⟨w.heap.size + 1 + 1,1,none⟩ (.slice p1 n1 c1) = w9 at *
 (try simp only [Exit.inBlock,Exit.then])
 refine bodyPost_ret (v := .tuple #[.agg #[.int .i64 (most:Nat),.slice p1 n1 c1],.bool true]) (by simp [results,Tryz.results12,go_sem,f0,f1]) rfl ?_
 exact ⟨⟨_,rfl,fp⟩,ff⟩

end Go.Proofs.YtcibcfghkidncaaGreatDoor
