/- The document's store: New, Add. The walk of the document's Install. The document's store: Settle. A store: take. -/
import Derived.Test.YtcibcfghkidncaaGreatDoorGWDoc21h
import Derived.Test.YtcibcfghkidncaaGreatDoorGWIns8
import Derived.Test.YtcibcfghkidncaaGreatDoorGWSto19
import Derived.Test.YtcibcfghkidncaaGreatDoorGWSto10
namespace Go.Proofs.YtcibcfghkidncaaGreatDoor
open Go.RowKit Go.Lib
set_option maxRecDepth 100000

theorem DL.imv {w wq w6:World} {B most:Nat} {sv u v6:Value} {A:List (Nat × Rs)} {b0 br bo:Nat} (h:DL w wq B most sv u A b0 br bo) (hf:Frm wq w6 (fun g => u.ownBlock = some g)):ImV wq (w6.setCell ⟨bo,1,none⟩ v6) := by
 have hl := h.lt
 have h1:ImV wq w6 := ⟨hf.size,fun k cs T z hk hc => hf.block k (lt_of_block hk) (fun e => hc (h.d.2 k cs T z e hk).pln)⟩
 have ho := h.o.frm hf (fun e => by have := (h.d.1.lt _ e).1; omega)
 obtain ⟨p,c,rfl,_⟩ := h.d.1.len
 exact h1.trans (ImV.set ho (pln2 _ _ _ _ _))
theorem DL.box {w wq w6:World} {B most:Nat} {sv u v6:Value} {A:List (Nat × Rs)} {b0 br bo bi:Nat} {cs:Array Value} {T:TypeId} (h:DL w wq B most sv u A b0 br bo) (hf:Frm wq w6 (fun g => u.ownBlock = some g)) (hb:Box wq bi cs T) (hi:bi < B) (hn:bi ≠ bo):Box (w6.setCell ⟨bo,1,none⟩ v6) bi cs T :=
 (hb.frm hf (fun e => by have := (h.d.1.lt _ e).1; omega)).off (i := 1) v6 hn

set_option maxHeartbeats 2000000 in
theorem newD_ok (most:Nat) (w:World) (hm:1 ≤ most) (hm2:most ≤ 65536) :
  Calls Tryz.prog 9 #[.int .i64 (most:Nat)] w fun e w' => e = .returned (.tuple #[.agg #[.int .i64 (most:Nat),.slice none 0 0],.int .i64 0]) ∧ Below w.heap.size w w' := by
 obtain ⟨bX,bB,bS⟩ := one_new w #[.int .i64 (most:Nat),.slice none 0 0] 29
 obtain ⟨k0,k1,_,_⟩ := box2 bX
 have HB:Hid (Below _ _ _) := bB
 clear bX bB bS
 have h1:¬ ((most:Int) < 1) := by omega
 have h2:¬ (65536 < (most:Int)) := by omega
 go_enter Tryz.func9,Tryz.ntmps9
 go_wp2_with fail
 (try simp only [Exit.inBlock,Exit.then])
 refine bodyPost_ret (v := .tuple #[.agg #[.int .i64 (most:Nat),.slice none 0 0],.int .i64 0]) (by simp [results,Tryz.results9,go_sem,k0,k1]) rfl ?_
 exact ⟨rfl,HB.out⟩

set_option maxHeartbeats 4000000 in
theorem addD_bad (B most:Nat) (v:Value) (L:List (Nat × Rs)) (txn vn:Int) (vg:Bool) (vr:List Vl) (qv:Option Addr) (cv:Nat) (w:World) (h:DocS w B v L) (hV:SlV w w.heap.size (.slice qv vr.length cv) vr) (hb:putB txn [] ⟨vn,vg,vr⟩ = true ∨ vg = true) :
  Calls Tryz.prog 23 #[.agg #[.int .i64 (most:Nat),v],.int .i64 txn,.agg #[.int .i64 vn,.bool vg,.slice qv vr.length cv]] w fun e w' => e = .returned (.tuple #[.agg #[.int .i64 (most:Nat),v],.int .i64 0,.int .i64 1]) ∧ DocS w' B v L ∧ Below w.heap.size w w' := by
 obtain ⟨p,c,rfl,_⟩ := h.len
 have HV:Hid (SlV w w.heap.size (.slice qv vr.length cv) vr) := hV
 have H0 := WB.start w most (.slice p L.length c) vn vg qv vr.length cv
 have C1:Hid (Calls _ _ _ _ _) := rput_any [] none 0 txn vn vg vr qv cv _ (RdR.nil _ _ _) (hV.imm (Imm.of_below H0.bel)) (by simp)
 have HB0:Hid (WB _ _ _ _ _ _ _ _ _) := H0
 have HD:Hid (DocS w B (.slice p L.length c) L) := h
 clear h hV H0
 obtain ⟨n,hn⟩:∃ n,L.length = n := ⟨_,rfl⟩
 rw [hn] at HD HB0 C1
 rw [hn]
 have HN:Hid (L.length = n) := hn
 clear hn
 obtain ⟨nv,hnv⟩:∃ nv,vr.length = nv := ⟨_,rfl⟩
 rw [hnv] at HB0 C1
 rw [hnv]
 have HNv:Hid (vr.length = nv) := hnv
 clear hnv
 go_enter Tryz.func23,Tryz.ntmps23
 go_upto_region 1 with fail
 generalize (((w.alloc (.cells #[.int .i64 (most:Nat),.slice p n c] 29)).alloc (.cells #[.int .i64 vn,.bool vg,.slice qv nv cv] 38)).alloc (.cells #[.int .i64 0,.slice none 0 0] 29)) = w0 at *
 obtain ⟨q0,q1,⟨q2,q3,q4⟩,_⟩ := HB0.out.cells
 go_wp2_with fail
 refine C1.out.mono ?_
 rintro e w1 ⟨⟨vz,Zz,rfl,hZ,hH⟩,hb1⟩
 obtain ⟨pz,cz,rfl,_,hrz⟩ := hH.rd hb1.size hZ
 have HB1 := HB0.out.on hb1
 obtain ⟨bN,bB,bS⟩ := one_new w1 #[.int .i64 (putT txn [] ⟨vn,vg,vr⟩),.slice pz (putL txn [] ⟨vn,vg,vr⟩).length cz] 75
 have HB2:Hid (WB _ _ _ _ _ _ _ _ _) := HB1.on bB
 have HN2:Hid (Box _ _ _ _) := bN
 have SZ2:Hid (SlR .i64 _ (.slice pz (putL txn [] ⟨vn,vg,vr⟩).length cz) (putL txn [] ⟨vn,vg,vr⟩)) := SlR.imm (w := w1) ⟨pz,cz,rfl,hrz,fun h => by cases h⟩ (Imm.of_below bB)
 have HS2:Hid ((w1.alloc (.cells #[.int .i64 (putT txn [] ⟨vn,vg,vr⟩),.slice pz (putL txn [] ⟨vn,vg,vr⟩).length cz] 75)).heap.size = w1.heap.size + 1 ∧ w.heap.size + 3 ≤ w1.heap.size) := ⟨bS,HB1.hB⟩
 clear q0 q1 q2 q3 q4 C1 hZ hH hb1 bN bB bS HB1 hrz HB0
 cases hp:putB txn [] ⟨vn,vg,vr⟩ with
 | true =>
  obtain ⟨e1,e2,e3⟩ := put_bad hp
  rw [e1,e2]
  rw [e2] at HB2
  clear HN2 SZ2 HS2 hb
  generalize (putL txn [] ⟨vn,vg,vr⟩).length = nz at *
  clear e1 e2 e3 hp
  go_upto_region 2 with fail
  generalize (w1.alloc (.cells #[.int .i64 0,.slice pz nz cz] 75)) = w2 at *
  obtain ⟨q0,q1,⟨q2,q3,q4⟩,q5,q6,q7,q8⟩ := HB2.out.cells
  go_wp2_with fail
  obtain ⟨f0,f1,fb,_⟩ := ret2 HB2.out.bel HB2.out.r (by omega) (most:Nat) (.slice p n c)
  generalize (w2.setCell ⟨w.heap.size + 1 + 1,0,none⟩ (.int .i64 (most:Nat))).setCell ⟨w.heap.size + 1 + 1,1,none⟩ (.slice p n c) = w9 at *
  (try simp only [Exit.inBlock,Exit.then])
  refine bodyPost_ret (v := .tuple #[.agg #[.int .i64 (most:Nat),(.slice p n c)],.int .i64 0,.int .i64 1]) (by simp [results,Tryz.results23,go_sem,f0,f1]) rfl ?_
  exact ⟨rfl,HD.out.on fb,fb⟩
 | false =>
  have hg:vg = true := hb.elim (fun h => by rw [hp] at h; cases h) id
  subst hg
  obtain ⟨e1,e2,e3⟩ := put_ok hp
  rw [e1,e2]
  rw [e2] at HB2
  clear HN2 SZ2 HS2 hb
  generalize (putL txn [] ⟨vn,true,vr⟩).length = nz at *
  clear e1 e2 e3 hp
  go_upto_region 2 with fail
  generalize (w1.alloc (.cells #[.int .i64 txn,.slice pz nz cz] 75)) = w2 at *
  obtain ⟨q0,q1,⟨q2,q3,q4⟩,q5,q6,q7,q8⟩ := HB2.out.cells
  go_wp2_with fail
  obtain ⟨f0,f1,fb,_⟩ := ret2 HB2.out.bel HB2.out.r (by omega) (most:Nat) (.slice p n c)
  generalize (w2.setCell ⟨w.heap.size + 1 + 1,0,none⟩ (.int .i64 (most:Nat))).setCell ⟨w.heap.size + 1 + 1,1,none⟩ (.slice p n c) = w9 at *
  (try simp only [Exit.inBlock,Exit.then])
  refine bodyPost_ret (v := .tuple #[.agg #[.int .i64 (most:Nat),(.slice p n c)],.int .i64 0,.int .i64 1]) (by simp [results,Tryz.results23,go_sem,f0,f1]) rfl ?_
  exact ⟨rfl,HD.out.on fb,fb⟩
set_option maxHeartbeats 4000000 in
theorem addD_full (B most:Nat) (v:Value) (L:List (Nat × Rs)) (txn vn:Int) (vg:Bool) (vr:List Vl) (qv:Option Addr) (cv:Nat) (w:World) (h:DocS w B v L) (hV:SlV w w.heap.size (.slice qv vr.length cv) vr) (hp:putB txn [] ⟨vn,vg,vr⟩ = false) (hg:vg = false) (_hl:L.length ≤ 65536) (hm:most ≤ L.length) :
  Calls Tryz.prog 23 #[.agg #[.int .i64 (most:Nat),v],.int .i64 txn,.agg #[.int .i64 vn,.bool vg,.slice qv vr.length cv]] w fun e w' => e = .returned (.tuple #[.agg #[.int .i64 (most:Nat),v],.int .i64 0,.int .i64 2]) ∧ DocS w' B v L ∧ Below w.heap.size w w' := by
 subst hg
 obtain ⟨p,c,rfl,_⟩ := h.len
 have HV:Hid (SlV w w.heap.size (.slice qv vr.length cv) vr) := hV
 have H0 := WB.start w most (.slice p L.length c) vn false qv vr.length cv
 have C1:Hid (Calls _ _ _ _ _) := rput_any [] none 0 txn vn false vr qv cv _ (RdR.nil _ _ _) (hV.imm (Imm.of_below H0.bel)) (by simp)
 have HB0:Hid (WB _ _ _ _ _ _ _ _ _) := H0
 have HD:Hid (DocS w B (.slice p L.length c) L) := h
 clear h hV H0
 obtain ⟨n,hn⟩:∃ n,L.length = n := ⟨_,rfl⟩
 rw [hn] at HD HB0 C1 hm
 rw [hn]
 have HN:Hid (L.length = n) := hn
 clear hn
 obtain ⟨nv,hnv⟩:∃ nv,vr.length = nv := ⟨_,rfl⟩
 rw [hnv] at HB0 C1
 rw [hnv]
 have HNv:Hid (vr.length = nv) := hnv
 clear hnv
 go_enter Tryz.func23,Tryz.ntmps23
 go_upto_region 1 with fail
 generalize (((w.alloc (.cells #[.int .i64 (most:Nat),.slice p n c] 29)).alloc (.cells #[.int .i64 vn,.bool false,.slice qv nv cv] 38)).alloc (.cells #[.int .i64 0,.slice none 0 0] 29)) = w0 at *
 obtain ⟨q0,q1,⟨q2,q3,q4⟩,_⟩ := HB0.out.cells
 go_wp2_with fail
 refine C1.out.mono ?_
 rintro e w1 ⟨⟨vz,Zz,rfl,hZ,hH⟩,hb1⟩
 obtain ⟨pz,cz,rfl,_,hrz⟩ := hH.rd hb1.size hZ
 have HB1 := HB0.out.on hb1
 obtain ⟨bN,bB,bS⟩ := one_new w1 #[.int .i64 (putT txn [] ⟨vn,false,vr⟩),.slice pz (putL txn [] ⟨vn,false,vr⟩).length cz] 75
 have HB2:Hid (WB _ _ _ _ _ _ _ _ _) := HB1.on bB
 have HN2:Hid (Box _ _ _ _) := bN
 have SZ2:Hid (SlR .i64 _ (.slice pz (putL txn [] ⟨vn,false,vr⟩).length cz) (putL txn [] ⟨vn,false,vr⟩)) := SlR.imm (w := w1) ⟨pz,cz,rfl,hrz,fun h => by cases h⟩ (Imm.of_below bB)
 have HS2:Hid ((w1.alloc (.cells #[.int .i64 (putT txn [] ⟨vn,false,vr⟩),.slice pz (putL txn [] ⟨vn,false,vr⟩).length cz] 75)).heap.size = w1.heap.size + 1 ∧ w.heap.size + 3 ≤ w1.heap.size) := ⟨bS,HB1.hB⟩
 clear q0 q1 q2 q3 q4 C1 hZ hH hb1 bN bB bS HB1 hrz HB0
 obtain ⟨e1,e2,e3⟩ := put_ok hp
 rw [e1,e2]
 rw [e2] at HB2 HN2 SZ2 HS2
 obtain ⟨nz,hnz⟩:∃ nz,(putL txn [] ⟨vn,false,vr⟩).length = nz := ⟨_,rfl⟩
 rw [hnz] at HB2 HN2 SZ2 HS2
 rw [hnz]
 clear hnz e1 e2 e3 hp
 go_upto_region 2 with fail
 generalize (w1.alloc (.cells #[.int .i64 txn,.slice pz nz cz] 75)) = w2 at *
 have hm2:((most:Nat):Int) ≤ ((n:Nat):Int) := by omega
 obtain ⟨q0,q1,⟨q2,q3,q4⟩,q5,q6,q7,q8⟩ := HB2.out.cells
 go_wp2_with fail
 obtain ⟨f0,f1,fb,_⟩ := ret2 HB2.out.bel HB2.out.r (by omega) (most:Nat) (.slice p n c)
 generalize (w2.setCell ⟨w.heap.size + 1 + 1,0,none⟩ (.int .i64 (most:Nat))).setCell ⟨w.heap.size + 1 + 1,1,none⟩ (.slice p n c) = w9 at *
 (try simp only [Exit.inBlock,Exit.then])
 refine bodyPost_ret (v := .tuple #[.agg #[.int .i64 (most:Nat),(.slice p n c)],.int .i64 0,.int .i64 2]) (by simp [results,Tryz.results23,go_sem,f0,f1]) rfl ?_
 exact ⟨rfl,HD.out.on fb,fb⟩

end Go.Proofs.YtcibcfghkidncaaGreatDoor

namespace Go.Proofs.YtcibcfghkidncaaGreatDoor
open Go.RowKit
set_option maxRecDepth 100000

theorem rd_cells {k:IntKind} {w:World} {B:Nat}:∀ {b o:Nat} {L:List Rw},RdR k w B (some ⟨b,o,none⟩) L → ∃ Z:List (Rw × Value),Z.map Prod.fst = L ∧ (∀ z ∈ Z,SlV w B z.2 z.1.row) ∧ ∀ j u,(Z.flatMap (rcell k))[j]? = some u → w.cell? ((⟨b,o,none⟩:Addr).add j) = some u
 | _,_,[],_ => ⟨[],rfl,fun z hz => by simp at hz,fun j u h => by simp at h⟩
 | b,o,r :: L,h => by
  have ht:RdR k w B (some ⟨b,o + 3,none⟩) L := by
   intro i hi
   obtain ⟨b',o',q,c,e,hb,c0,c1,c2,hr⟩ := h (i + 1) (by simpa using hi)
   injection e with e
   injection e with e1 e2
   subst e1 e2
   have e3:o + (i + 1) * 3 = o + 3 + i * 3 := by omega
   rw [e3] at c0 c1 c2
   exact ⟨b,o + 3,q,c,rfl,hb,c0,c1,c2,hr⟩
  obtain ⟨Z,hZ,hs,hc⟩ := rd_cells ht
  obtain ⟨b',o',q,c,e,hb,c0,c1,c2,hr,hq⟩ := h 0 (by simp)
  injection e with e
  injection e with e1 e2
  subst e1 e2
  refine ⟨(r,.slice q r.row.length c) :: Z,by rw [List.map_cons,hZ],?_,?_⟩
  ·intro z hz
   rcases List.mem_cons.1 hz with rfl | hz
   ·exact ⟨q,c,rfl,hr,hq⟩
   ·exact hs z hz
  ·intro j u hj
   have ea:∀ n,(⟨b,o,none⟩:Addr).add n = ⟨b,o + n,none⟩ := fun n => by unfold Addr.add; split <;> simp_all
   have eb:∀ n,(⟨b,o + 3,none⟩:Addr).add n = ⟨b,o + 3 + n,none⟩ := fun n => by unfold Addr.add; split <;> simp_all
   rw [ea]
   rw [List.flatMap_cons] at hj
   match j,hj with
   | 0,hj => simp [rcell] at hj; subst hj; simpa using c0
   | 1,hj => simp [rcell] at hj; subst hj; simpa using c1
   | 2,hj => simp [rcell] at hj; subst hj; simpa using c2
   | j + 3,hj =>
    have := hc j u (by simpa [rcell] using hj)
    rw [eb] at this
    rw [show o + (j + 3) = o + 3 + j by omega]
    exact this
theorem rcells_oneI {k:IntKind} {w:World} {B:Nat} {Z:List (Rw × Value)} (h:∀ z ∈ Z,SlV w B z.2 z.1.row):∀ u ∈ Z.flatMap (rcell k),u.oneCell' = true := by
 intro u hu
 obtain ⟨z,hz,hu⟩ := List.mem_flatMap.1 hu
 exact rcell_one k z (h z hz).one u hu
theorem rcells_len {k:IntKind} (Z:List (Rw × Value)):(Z.flatMap (rcell k)).length = Z.length * 3 := by
 induction Z with
 | nil => rfl
 | cons z Z ih => rw [List.flatMap_cons,List.length_append,ih]; simp [rcell]; omega

set_option maxHeartbeats 4000000 in
theorem rinstall_any (L:List Rw) (p:Option Addr) (c:Nat) (n:Int) (g:Bool) (row:List Vl) (q:Option Addr) (d:Nat) (w:World) (hR:RdR .u64 w w.heap.size p L) (hpc:p = none → c = 0) (hV:SlV w w.heap.size (.slice q row.length d) row) (hlen:L.length ≤ 3518437208882) :
  Calls Tryz.prog 73 #[.slice p L.length c,.agg #[.int .u64 n,.bool g,.slice q row.length d]] w fun e w' => (∃ v Z,e = .returned (.tuple #[v,.int .i64 (insE L ⟨n,g,row⟩)]) ∧ Z.map Prod.fst = insL L ⟨n,g,row⟩ ∧ HasRs .u64 81 w' w.heap.size v Z) ∧ Below w.heap.size w w' := by
 have HR:Hid (∀ w1,Below w.heap.size w w1 → RdR .u64 w1 w1.heap.size p L) := fun w1 h => hR.on h
 have HRw:Hid (RdR .u64 w w.heap.size p L ∧ (p = none → c = 0)) := ⟨hR,hpc⟩
 have HVw:Hid (SlV w w.heap.size (.slice q row.length d) row) := hV
 have C1:Hid (∀ w1,Below w.heap.size w w1 → Calls Tryz.prog 105 #[.slice p L.length c] w1 fun e w' => e = .returned (.bool (mayL L)) ∧ Below w1.heap.size w1 w') := fun w1 h => may_any L p c w1 (HR.out w1 h) (by omega)
 have C2:Hid (∀ w1 v1,HasRs .u64 81 w1 w.heap.size v1 [(⟨n,g,row⟩,.slice q row.length d)] → w.heap.size ≤ w1.heap.size → Calls Tryz.prog 105 #[v1] w1 fun e w' => e = .returned (.bool (mayL [⟨n,g,row⟩])) ∧ Below w1.heap.size w1 w') := fun w1 v1 h hB => by
  obtain ⟨pa,ca,rfl,_,hr⟩ := h.rd hB rfl
  exact may_any [⟨n,g,row⟩] pa ca w1 hr (by simp)
 have HX0:Hid (Box (w.alloc (.cells #[.int .u64 n,.bool g,.slice q row.length d] 81)) w.heap.size _ _) := Box.new w #[.int .u64 n,.bool g,.slice q row.length d] 81
 have HB0:Hid (Below w.heap.size w (w.alloc (.cells #[.int .u64 n,.bool g,.slice q row.length d] 81))) := by
  show Below _ _ _
  go_grown
 have HBad:Hid ((mayL L && mayL [⟨n,g,row⟩]) = false → insE L ⟨n,g,row⟩ = 80 ∧ insL L ⟨n,g,row⟩ = []) := insE_bad
 have HOld:Hid ((mayL L && mayL [⟨n,g,row⟩]) = true → ∀ hl:0 < L.length,n ≤ L[0].n → insE L ⟨n,g,row⟩ = 81 ∧ insL L ⟨n,g,row⟩ = []) := insE_old
 have HOk:Hid ((mayL L && mayL [⟨n,g,row⟩]) = true → (∀ hl:0 < L.length,L[0].n < n) → insE L ⟨n,g,row⟩ = 0 ∧ insL L ⟨n,g,row⟩ = ⟨n,g,row⟩ :: L) := insE_ok
 have HC:Hid (∀ v,rcell .u64 (⟨n,g,row⟩,v) = [.int .u64 n,.bool g,v]) := fun v => rfl
 clear hR hV hpc
 generalize hll:row.length = rl at *
 clear hll
 generalize mayL L = m1 at *
 generalize mayL [⟨n,g,row⟩] = m2 at *
 obtain ⟨i,hi,hz0,hz1,hz2⟩ := info_parts info_ver
 obtain ⟨⟨x0,x1,x2⟩,_⟩ := box3 HX0.out
 have hsz0 := HB0.out.size
 go_enter Tryz.func73,Tryz.ntmps73
 go_wp2_with (first | (at_builtin; go_loud (refine wpList_app1 (w.alloc (.cells #[.int .u64 n,.bool g,.slice q rl d] 81)) rfl (.tmp 7) (.tmp 9) 81 72 _ 3 40 rfl Tryz.underlying72 info_ver rfl (by decide) w.heap.size _ _ _ (by rfl) (World.ownsRow_nil _ w.heap.size _ _) [.int .u64 n,.bool g,.slice q rl d] rfl (by simp [Value.oneCell']) _ rfl (by simp) (by simp) (by simp) hsz0 ?_); intro v1 w1 h6 h7 h8))
 have HO1:Hid (HasRs .u64 81 w1 w.heap.size v1 [(⟨n,g,row⟩,.slice q rl d)]) := (HasRs.nil .u64 81 (w.alloc (.cells #[.int .u64 n,.bool g,.slice q rl d] 81)) w.heap.size).app (z := (⟨n,g,row⟩,.slice q rl d)) (HVw.out.keep HB0.out) (by rw [HC.out]; exact h6) h7
 have HB1:Hid (Below w.heap.size w w1) := HB0.out.trans h7
 have HX1:Hid (Box w1 w.heap.size _ _) := HX0.out.keep (((Below.refl _ _).alloc (Nat.le_refl _) _).grown h8 (by simp) (fun k hk => by simp [Value.ownBlock] at hk)) HX0.out.lt
 clear h6 h7 h8 HB0 HX0 x0 x1 x2 hsz0
 refine (C1.out _ HB1.out).mono ?_
 rintro e w2 ⟨rfl,hb2⟩
 have HB2:Hid (Below w.heap.size w w2) := HB1.out.trans (hb2.mono HB1.out.size)
 have HX2:Hid (Box w2 w.heap.size _ _) := HX1.out.on hb2
 have HO2:Hid (HasRs .u64 81 w2 w.heap.size v1 [(⟨n,g,row⟩,.slice q rl d)]) := HO1.out.kept hb2 HB1.out.size
 clear hb2 HB1 HX1 HO1
 cases m1 with
 | false =>
  obtain ⟨e1,e2⟩ := HBad.out rfl
  have HE:Hid (insE L ⟨n,g,row⟩ = _ ∧ insL L ⟨n,g,row⟩ = _) := ⟨e1,e2⟩
  clear e1 e2
  go_wp2_with fail
  go_ret2
  exact ⟨⟨_,[],by rw [HE.out.1]; rfl,HE.out.2.symm,HasRs.nil _ _ _ _⟩,HB2.out⟩
 | true =>
  go_wp2_with fail
  refine (C2.out _ _ HO2.out HB2.out.size).mono ?_
  rintro e w3 ⟨rfl,hb3⟩
  have HB3:Hid (Below w.heap.size w w3) := HB2.out.trans (hb3.mono HB2.out.size)
  have HX3:Hid (Box w3 w.heap.size _ _) := HX2.out.on hb3
  have HO3:Hid (HasRs .u64 81 w3 w.heap.size v1 [(⟨n,g,row⟩,.slice q rl d)]) := HO2.out.kept hb3 HB2.out.size
  clear hb3 HB2 HX2 HO2
  cases m2 with
  | false =>
   obtain ⟨e1,e2⟩ := HBad.out rfl
   have HE:Hid (insE L ⟨n,g,row⟩ = _ ∧ insL L ⟨n,g,row⟩ = _) := ⟨e1,e2⟩
   clear e1 e2
   go_wp2_with fail
   go_ret2
   exact ⟨⟨_,[],by rw [HE.out.1]; rfl,HE.out.2.symm,HasRs.nil _ _ _ _⟩,HB3.out⟩
  | true =>
   have HOld2 := HOld.out rfl
   have HOk2 := HOk.out rfl
   clear HBad HOld HOk C1 C2
   obtain ⟨⟨x0,x1,x2⟩,_⟩ := box3 HX3.out
   obtain ⟨p1,c1,rfl,_⟩ := owns_len HO3.out.1
   by_cases hl:0 < L.length
   ·obtain ⟨b,o,q1,d1,hp,hbB,c0,c1',c2,_⟩ := HRw.out.1 0 hl
    subst hp
    simp only [Nat.zero_mul,Nat.add_zero] at c0
    have a0 := (HB3.out.cell (p := ⟨b,o,none⟩) hbB).trans c0
    by_cases hnl:n ≤ L[0].n
    ·obtain ⟨e1,e2⟩ := HOld2 hl hnl
     have HE:Hid (insE L ⟨n,g,row⟩ = _ ∧ insL L ⟨n,g,row⟩ = _) := ⟨e1,e2⟩
     clear e1 e2 HOld2 HOk2
     generalize L[0].n = xn at *
     obtain ⟨m,hm⟩:∃ m,L.length = m + 1 := ⟨L.length - 1,by omega⟩
     clear HR HRw
     rw [hm]
     go_wp2_with fail
     go_quiet (fail)
     go_wp2_with fail
     go_ret2
     exact ⟨⟨_,[],by rw [HE.out.1]; rfl,HE.out.2.symm,HasRs.nil _ _ _ _⟩,below_drewN HB3.out _⟩
    ·obtain ⟨e1,e2⟩ := HOk2 (fun _ => Int.not_le.1 hnl)
     have HE:Hid (insE L ⟨n,g,row⟩ = _ ∧ insL L ⟨n,g,row⟩ = _) := ⟨e1,e2⟩
     obtain ⟨Z,hZ,hZs,hZc⟩ := rd_cells HRw.out.1
     have HZ:Hid (Z.map Prod.fst = L ∧ Z.length = L.length) := ⟨hZ,by have := congrArg List.length hZ; simpa using this⟩
     have HZs:Hid (∀ w1,Below w.heap.size w w1 → ∀ z ∈ Z,SlV w1 w.heap.size z.2 z.1.row) := fun w1 h z hz => (hZs z hz).keep h
     have HZc:Hid (∀ w1,Below w.heap.size w w1 → ∀ j u,(Z.flatMap (rcell .u64))[j]? = some u → w1.cell? ((⟨b,o,none⟩:Addr).add j) = some u) := fun w1 h j u hj => by
      have h1 := hZc j u hj
      have ea:∀ n,(⟨b,o,none⟩:Addr).add n = ⟨b,o + n,none⟩ := fun n => by unfold Addr.add; split <;> simp_all
      rw [ea] at h1 ⊢
      exact (h.cell (p := ⟨b,o + j,none⟩) hbB).trans h1
     have hxn:L[0].n < n := Int.not_le.1 hnl
     clear e1 e2 HOld2 HOk2 hnl hZ hZs hZc
     generalize L[0].n = xn at *
     have HLm:Hid (L.length = L.length ∧ True) := ⟨rfl,trivial⟩
     go_wp2_with fail
     have hl':decide ((0:Int) < (L.length:Int)) = true := decide_eq_true (by omega)
     go_quiet (fail)
     have HB4:Hid (Below w.heap.size w (w3.drewN nq)) := below_drewN HB3.out _
     have HO4:Hid (HasRs .u64 81 (w3.drewN nq) w.heap.size (.slice p1 1 c1) [(⟨n,g,row⟩,.slice q rl d)]) := HO3.out.kept (below_drewN (Below.refl _ _) _) HB3.out.size
     clear HB3 HO3 HX3 x0 x1 x2
     generalize w3.drewN nq = wd at *
     have hszd := HB4.out.size
     go_wp2_with (first | (at_builtin; go_loud (refine wpList_append_own _ rfl (.tmp 31) (.tmp 32) 72 rfl w.heap.size 81 i _ 3 40 Tryz.underlying72 hi hz0 hz1 hz2 rfl (by decide) _ 1 _ rfl HO4.out.1 ⟨b,o,none⟩ L.length c (Z.flatMap (rcell .u64)) rfl (by rw [rcells_len,HZ.out.2]) (HZc.out wd HB4.out) (rcells_oneI (HZs.out wd HB4.out)) (by unfold maxLen; omega) (by omega) hszd ?_); intro v6 w6 h6 h7 h8))
     have HB6:Hid (Below w.heap.size w w6) := HB4.out.grown h7 hszd (fun k hk => (HO4.out.1.lt k hk).1)
     have HB46:Hid (Below w.heap.size wd w6) := (Below.refl _ _).grown h7 hszd (fun k hk => (HO4.out.1.lt k hk).1)
     have H6:Hid (HasRs .u64 81 w6 w.heap.size v6 ((⟨n,g,row⟩,.slice q rl d) :: Z)) := by
      refine ⟨?_,?_⟩
      ·rw [List.length_cons,HZ.out.2,Nat.add_comm,List.flatMap_cons]
       simpa using h6
      ·intro z hz
       rcases List.mem_cons.1 hz with rfl | hz
       ·exact (HO4.out.2 _ (by simp)).keep HB46.out
       ·exact HZs.out w6 HB6.out z hz
     clear h6 h7 h8
     go_ret2
     exact ⟨⟨_,(⟨n,g,row⟩,.slice q rl d) :: Z,by rw [HE.out.1]; rfl,by rw [HE.out.2,List.map_cons,HZ.out.1],H6.out⟩,HB6.out⟩
   ·have hl0:L = [] := List.eq_nil_of_length_eq_zero (by omega)
    subst hl0
    obtain ⟨e1,e2⟩ := HOk2 (fun h => absurd h (by simp))
    have HE:Hid (insE [] ⟨n,g,row⟩ = _ ∧ insL [] ⟨n,g,row⟩ = _) := ⟨e1,e2⟩
    clear e1 e2 HOld2 HOk2 hl HR
    have hc0 := HRw.out.2
    clear HRw
    simp only [List.length_nil]
    go_wp2_with fail
    go_quiet (fail)
    have HB4:Hid (Below w.heap.size w (w3.drewN nq)) := below_drewN HB3.out _
    have HO4:Hid (HasRs .u64 81 (w3.drewN nq) w.heap.size (.slice p1 1 c1) [(⟨n,g,row⟩,.slice q rl d)]) := HO3.out.kept (below_drewN (Below.refl _ _) _) HB3.out.size
    clear HB3 HO3 HX3 x0 x1 x2
    generalize w3.drewN nq = wd at *
    have hszd := HB4.out.size
    cases p with
    | none =>
     obtain rfl := hc0 rfl
     go_wp2_with (first | (at_builtin; go_loud (refine wpList_append_own_none rfl (.tmp 31) (.tmp 32) 72 rfl w.heap.size 81 i 3 Tryz.underlying72 hi _ 1 _ rfl HO4.out.1 rfl ?_)))
     go_ret2
     exact ⟨⟨_,by rw [HE.out.1]; rfl,([(⟨n,g,row⟩,.slice q rl d)]:List (Rw × Value)),by rw [HE.out.2]; rfl,HO4.out⟩,HB4.out⟩
    | some ad =>
     clear hc0
     go_wp2_with (first | (at_builtin; go_loud (refine wpList_append_own _ rfl (.tmp 31) (.tmp 32) 72 rfl w.heap.size 81 i _ 3 40 Tryz.underlying72 hi hz0 hz1 hz2 rfl (by decide) _ 1 _ rfl HO4.out.1 ad 0 c [] rfl rfl (fun j y hj => by simp at hj) (fun y hy => by simp at hy) (by unfold maxLen; omega) (by omega) hszd ?_); intro v6 w6 h6 h7 h8))
     have HB6:Hid (Below w.heap.size w w6) := HB4.out.grown h7 hszd (fun k hk => (HO4.out.1.lt k hk).1)
     have HB46:Hid (Below w.heap.size wd w6) := (Below.refl _ _).grown h7 hszd (fun k hk => (HO4.out.1.lt k hk).1)
     have H6:Hid (HasRs .u64 81 w6 w.heap.size v6 [(⟨n,g,row⟩,.slice q rl d)]) := ⟨by simpa using h6,fun z hz => (HO4.out.2 z hz).keep HB46.out⟩
     clear h6 h7 h8
     go_ret2
     exact ⟨⟨_,by rw [HE.out.1]; rfl,([(⟨n,g,row⟩,.slice q rl d)]:List (Rw × Value)),by rw [HE.out.2]; rfl,H6.out⟩,HB6.out⟩

end Go.Proofs.YtcibcfghkidncaaGreatDoor

namespace Go.Proofs.YtcibcfghkidncaaGreatDoor
open Go.RowKit Go.Lib
set_option maxRecDepth 100000

theorem may_one {v:Rw} {L:List Rw} (h:mayL (v :: L) = true):mayL L = true ∧ mayL [v] = true ∧ ∀ u l,L = u :: l → u.n < v.n := by
 obtain ⟨h1,h2⟩ := mayL_iff.1 h
 refine ⟨mayL_iff.2 ⟨fun r hr => h1 r (List.mem_cons_of_mem _ hr),(List.pairwise_cons.1 h2).2⟩,mayL_iff.2 ⟨fun r hr => ?_,List.pairwise_singleton _ _⟩,fun u l e => ?_⟩
 ·rw [List.mem_singleton] at hr
  subst hr
  exact h1 _ List.mem_cons_self
 ·subst e
  exact (List.pairwise_cons.1 h2).1 u List.mem_cons_self
theorem ins_set {J:Nat} {rL rW:List Rw} {tx s:Int} (h:OkR J ⟨rL,tx,rW⟩) {v:Rw} (hv:lastW ⟨rL,tx,rW⟩ = some v) (h1:1 ≤ s) (h2:s ≤ 4611686018427387904) (hn:newr ⟨rL,tx,rW⟩ (s - 1) = false) (hg:(v.gn && goneT ⟨rL,tx,rW⟩) = false):insE rL ⟨s,v.gn,v.row⟩ = 0 ∧ insL rL ⟨s,v.gn,v.row⟩ = ⟨s,v.gn,v.row⟩ :: rL ∧ setR s ⟨rL,tx,rW⟩ = ⟨⟨s,v.gn,v.row⟩ :: rL,0,[]⟩ := by
 have e:setR s ⟨rL,tx,rW⟩ = ⟨⟨s,v.gn,v.row⟩ :: rL,0,[]⟩ := by
  unfold setR
  rw [hv]
  simp only [hg,Bool.false_eq_true,if_false]
 have hm := (h.set h1 h2 hn).may
 rw [e] at hm
 obtain ⟨a1,a2,a3⟩ := may_one hm
 have e0:insE rL ⟨s,v.gn,v.row⟩ = 0 := by
  unfold insE
  rw [a1,a2]
  cases rL with
  | nil => rfl
  | cons u l =>
   have h9 := a3 u l rfl
   have h8:u.n < s := h9
   simp only [Bool.and_self,if_true]
   rw [if_neg (by show ¬ s ≤ u.n; omega)]
 exact ⟨e0,by unfold insL; rw [if_pos e0],e⟩
theorem set_gone {rL rW:List Rw} {tx s:Int} {v:Rw} (hv:lastW ⟨rL,tx,rW⟩ = some v) (hg:(v.gn && goneT ⟨rL,tx,rW⟩) = true):setR s ⟨rL,tx,rW⟩ = ⟨rL,0,[]⟩ := by
 unfold setR
 rw [hv]
 simp only [hg,if_true]
theorem goneT_at {rL rW:List Rw} {tx:Int} (h:0 < rL.length):goneT ⟨rL,tx,rW⟩ = rL[0].gn := by
 cases rL with
 | nil => simp at h
 | cons a l => rfl
theorem goneT_zero {rL rW:List Rw} {tx:Int} (h:rL.length = 0):goneT ⟨rL,tx,rW⟩ = true := by
 rw [List.eq_nil_of_length_eq_zero h]
 rfl
def NoNew (t s:Int) (L:List (Nat × Rs)):Prop := ∀ q ∈ L,q.2.tx = t → t ≠ 0 → newr q.2 (s - 1) = false
def SomeNew (t s:Int) (L:List (Nat × Rs)):Prop := ∃ q ∈ L,q.2.tx = t ∧ t ≠ 0 ∧ newr q.2 (s - 1) = true
theorem thr_cons (v:Rw) (L W:List Rw) (t:Int):thr ⟨v :: L,t,W⟩ = true := by simp [thr]
theorem thr_pos {L W:List Rw} {t:Int} (h:0 < L.length):thr ⟨L,t,W⟩ = true := by
 cases L with
 | nil => simp at h
 | cons a l => exact thr_cons a l W t

set_option maxHeartbeats 2000000 in
theorem settleD_bad (B0 most:Nat) (v:Value) (L:List (Nat × Rs)) (t s:Int) (w:World) (h:DocS w B0 v L) (hs:s < 1 ∨ 4611686018427387904 < s) (h0:0 ≤ s) :
  Calls Tryz.prog 38 #[.agg #[.int .i64 (most:Nat),v],.int .i64 t,.int .u64 s] w fun e w' => e = .returned (.tuple #[.agg #[.int .i64 (most:Nat),v],.int .i64 0,.int .i64 1]) ∧ DocS w' B0 v L ∧ Below w.heap.size w w' := by
 obtain ⟨p,c,rfl,_⟩ := h.len
 obtain ⟨a1,a2,a3,a4⟩ := two_new w #[.int .i64 (most:Nat),.slice p L.length c] #[.int .i64 0,.slice none 0 0] 29 29
 have HS:Hid (Box _ _ _ _) := a1
 have HR:Hid (Box _ _ _ _) := a2
 have HB:Hid (Below _ _ _) := a3
 have HD:Hid (DocS w B0 (.slice p L.length c) L) := h
 clear h a1 a2 a3 a4
 generalize L.length = n at *
 have hc:s = 0 ∨ ((s == 0) = false ∧ 4611686018427387904 < s) := by
  rcases hs with h1 | h1
  ·exact .inl (by omega)
  ·exact .inr ⟨by simp; omega,h1⟩
 clear hs
 rcases hc with rfl | ⟨h1,h2⟩
 ·go_enter Tryz.func38,Tryz.ntmps38
  go_upto_region 1 with fail
  generalize ((w.alloc (.cells #[.int .i64 (most:Nat),.slice p n c] 29)).alloc (.cells #[.int .i64 0,.slice none 0 0] 29)) = w0 at *
  obtain ⟨q0,q1,_,_⟩ := box2 HS.out
  obtain ⟨r0,r1,r2,r3⟩ := box2 HR.out
  go_wp2_with fail
  obtain ⟨f0,f1,fb,_⟩ := ret2 HB.out HR.out (by omega) (most:Nat) (.slice p n c)
  generalize (w0.setCell ⟨w.heap.size + 1,0,none⟩ (.int .i64 (most:Nat))).setCell ⟨w.heap.size + 1,1,none⟩ (.slice p n c) = w9 at *
  (try simp only [Exit.inBlock,Exit.then])
  refine bodyPost_ret (v := .tuple #[.agg #[.int .i64 (most:Nat),.slice p n c],.int .i64 0,.int .i64 1]) (by simp [results,Tryz.results38,go_sem,f0,f1]) rfl ?_
  exact ⟨rfl,HD.out.on fb,fb⟩
 ·go_enter Tryz.func38,Tryz.ntmps38
  go_upto_region 1 with fail
  generalize ((w.alloc (.cells #[.int .i64 (most:Nat),.slice p n c] 29)).alloc (.cells #[.int .i64 0,.slice none 0 0] 29)) = w0 at *
  obtain ⟨q0,q1,_,_⟩ := box2 HS.out
  obtain ⟨r0,r1,r2,r3⟩ := box2 HR.out
  go_wp2_with fail
  obtain ⟨f0,f1,fb,_⟩ := ret2 HB.out HR.out (by omega) (most:Nat) (.slice p n c)
  generalize (w0.setCell ⟨w.heap.size + 1,0,none⟩ (.int .i64 (most:Nat))).setCell ⟨w.heap.size + 1,1,none⟩ (.slice p n c) = w9 at *
  (try simp only [Exit.inBlock,Exit.then])
  refine bodyPost_ret (v := .tuple #[.agg #[.int .i64 (most:Nat),.slice p n c],.int .i64 0,.int .i64 1]) (by simp [results,Tryz.results38,go_sem,f0,f1]) rfl ?_
  exact ⟨rfl,HD.out.on fb,fb⟩

set_option maxHeartbeats 16000000 in
theorem settleD_any (B0 most J:Nat) (v:Value) (L:List (Nat × Rs)) (t s:Int) (w:World) (h:DocS w B0 v L) (hO:∀ q ∈ L,OkR J q.2 ∧ thr q.2 = true) (hl:L.length ≤ 65536) (hJ:J ≤ 3518437208882) (hs1:1 ≤ s) (hs2:s ≤ 4611686018427387904) :
  Calls Tryz.prog 38 #[.agg #[.int .i64 (most:Nat),v],.int .i64 t,.int .u64 s] w fun e w' => ((SomeNew t s L ∧ e = .returned (.tuple #[.agg #[.int .i64 (most:Nat),v],.int .i64 0,.int .i64 81]) ∧ DocS w' B0 v L) ∨ (NoNew t s L ∧ ∃ v',e = .returned (.tuple #[.agg #[.int .i64 (most:Nat),v'],.int .i64 (cntL t L:Nat),.int .i64 0]) ∧ DocS w' w.heap.size v' (outL (atT t (setR s)) L))) ∧ Below w.heap.size w w' := by
 obtain ⟨p,c,rfl,_⟩ := h.len
 have HD:Hid (DocS w B0 (.slice p L.length c) L) := h
 have H0:Hid (DL w _ _ _ _ _ _ _ _ _) := DL.start w most (.slice p L.length c)
 have HO:Hid (∀ q ∈ L,OkR J q.2 ∧ thr q.2 = true) := hO
 have hsa:(s == 0) = false := by simp; omega
 have hsb:¬ (4611686018427387904 < s) := by omega
 clear h hO
 obtain ⟨n,hn⟩:∃ n,L.length = n := ⟨_,rfl⟩
 rw [hn] at HD H0 hl
 rw [hn]
 have HN:Hid (L.length = n) := hn
 clear hn
 go_enter Tryz.func38,Tryz.ntmps38
 go_upto_region 4 with fail
 generalize (((w.alloc (.cells #[.int .i64 (most:Nat),.slice p n c] 29)).alloc (.cells #[.int .i64 0,.slice none 0 0] 29)).alloc (.cells #[.int .i64 (most:Nat),.slice none 0 0] 29)) = w0 at *
 go_wp2_with fail
 go_loopw [10,11] (fun a i wq => ∃ (j:Nat) (u:Value),j ≤ n ∧ i = .int .i64 (j:Int) ∧ a = .int .i64 ((cntL t (L.take j):Nat):Int) ∧ Hid (DL w wq (w.heap.size + 3) most (.slice p n c) u (outL (atT t (setR s)) (L.take j)) w.heap.size (w.heap.size + 1) (w.heap.size + 1 + 1)) ∧ Hid (∀ q ∈ L.take j,q.2.tx = t → t ≠ 0 → newr q.2 (s - 1) = false)) (fun _ i _ => n - (intOf i).toNat)
 case atStart => exact ⟨0,_,Nat.zero_le _,by go_num,by simp [cntL],by rw [outL_zero]; exact H0,fun q hq => by simp at hq⟩
 case round =>
  obtain ⟨j,u,hj,rfl,rfl,HL,HNj⟩ := hrel
  obtain ⟨s0,s1,o0,o1,o2,r0,r1,_,_⟩ := HL.out.cells
  have HA:Hid ((outL (atT t (setR s)) (L.take j)).length ≤ 65536) := Nat.le_trans (outL_len _ _ _) (by rw [HN.out]; exact hl)
  have HCm:Hid (cntL t (L.take j) ≤ 65536) := by
   show _ ≤ _
   unfold cntL
   refine Nat.le_trans (List.length_filter_le _ _) ?_
   rw [List.length_take,HN.out]
   omega
  obtain ⟨pu,nu,cu,e⟩:∃ pu nu cu,u = .slice pu nu cu := by
   obtain ⟨pu,cu,e,_⟩ := HL.out.len
   exact ⟨pu,_,cu,e⟩
  subst e
  by_cases hj0:j = n
  ·have HL2:Hid (DL w wr (w.heap.size + 3) most (.slice p n c) (.slice pu nu cu) (outL (atT t (setR s)) L) w.heap.size (w.heap.size + 1) (w.heap.size + 1 + 1)) := by
    have h1 := HL.out
    rw [hj0,← HN.out,List.take_length,HN.out] at h1
    exact h1
   have HN2:Hid (∀ q ∈ L,q.2.tx = t → t ≠ 0 → newr q.2 (s - 1) = false) := by
    have h1 := HNj.out
    rw [hj0,← HN.out,List.take_length] at h1
    exact h1
   have HC2:Hid (cntL t (L.take j) = cntL t L) := by
    show _ = _
    rw [hj0,← HN.out,List.take_length]
   have hjn:¬ ((j:Nat):Int) < ((n:Nat):Int) := by omega
   clear HL HA HNj hj0
   generalize hcw:cntL t (L.take j) = cw0 at *
   clear hcw
   go_wp2_with fail
   obtain ⟨f0,f1,fd,fb⟩ := HL2.out.fin (by omega)
   generalize (wr.setCell ⟨w.heap.size + 1,0,none⟩ (.int .i64 (most:Nat))).setCell ⟨w.heap.size + 1,1,none⟩ (.slice pu nu cu) = w9 at *
   (try simp only [Exit.inBlock,Exit.then])
   refine bodyPost_ret (v := .tuple #[.agg #[.int .i64 (most:Nat),.slice pu nu cu],.int .i64 (cw0:Nat),.int .i64 0]) (by simp [results,Tryz.results38,go_sem,f0,f1]) rfl ?_
   exact ⟨.inr ⟨HN2.out,_,by rw [HC2.out],fd⟩,fb⟩
  ·have hj1:j < L.length := by rw [HN.out]; omega
   have hjn:j < n := by omega
   obtain ⟨⟨k,rL,tx,rW⟩,hq⟩:∃ q,L[j] = q := ⟨_,rfl⟩
   have HR:Hid (OkR J ⟨rL,tx,rW⟩ ∧ thr ⟨rL,tx,rW⟩ = true) := by
    have := HO.out _ (List.getElem_mem hj1)
    rw [hq] at this
    exact this
   have HIn0:Hid (∀ r2,(atT t (setR s)) ⟨rL,tx,rW⟩ = r2 → thr r2 = true → outL (atT t (setR s)) (L.take (j + 1)) = outL (atT t (setR s)) (L.take j) ++ [(k,r2)]) := by
    intro r2 e2 h9
    have h1 := outL_in (g := (atT t (setR s))) hj1 (by rw [hq,e2]; exact h9)
    rw [hq,e2] at h1
    exact h1
   have HOff0:Hid (∀ r2,(atT t (setR s)) ⟨rL,tx,rW⟩ = r2 → thr r2 = false → outL (atT t (setR s)) (L.take (j + 1)) = outL (atT t (setR s)) (L.take j)) := by
    intro r2 e2 h9
    exact outL_off (g := (atT t (setR s))) hj1 (by rw [hq,e2]; exact h9)
   have HC0:Hid ((tx = t ∧ t ≠ 0 → cntL t (L.take (j + 1)) = cntL t (L.take j) + 1) ∧ (¬ (tx = t ∧ t ≠ 0) → cntL t (L.take (j + 1)) = cntL t (L.take j))) := ⟨fun h => cntL_in hj1 (by rw [hq]; exact h),fun h => cntL_off hj1 (by rw [hq]; exact h)⟩
   have HN0:Hid ((tx = t → t ≠ 0 → newr ⟨rL,tx,rW⟩ (s - 1) = false) → ∀ q ∈ L.take (j + 1),q.2.tx = t → t ≠ 0 → newr q.2 (s - 1) = false) := by
    intro h9 q hqm
    rw [List.take_add_one,List.getElem?_eq_getElem hj1,hq] at hqm
    rcases List.mem_append.1 hqm with hqm | hqm
    ·exact HNj.out q hqm
    ·simp at hqm
     subst hqm
     exact h9
   have HQm:Hid (tx = t → t ≠ 0 → newr ⟨rL,tx,rW⟩ (s - 1) = true → ∃ q ∈ L,q.2.tx = t ∧ t ≠ 0 ∧ newr q.2 (s - 1) = true) := by
    intro h1 h2 h3
    refine ⟨L[j],List.getElem_mem hj1,?_⟩
    rw [hq]
    exact ⟨h1,h2,h3⟩
   obtain ⟨g,pl,cl,pw,cw,e,⟨a0,a1,a2,a3⟩,SL,SW⟩ := HL.out.row HD.out hj1 hq
   subst e
   clear hq hj1
   obtain ⟨bX,bB,bS⟩ := one_new wr #[.int .i64 (k:Nat),.slice pl rL.length cl,.int .i64 tx,.slice pw rW.length cw] 77
   have HX2:Hid (Box _ _ _ _) := bX
   have HL2:Hid (DL w _ _ _ _ _ _ _ _ _) := HL.out.on bB
   have SL2:Hid (SlR .u64 _ _ _) := SL.imm (Imm.of_below bB)
   have SW2:Hid (SlR .i64 _ _ _) := SW.imm (Imm.of_below bB)
   have HBx:Hid (wr.heap.size < (wr.alloc (.cells #[.int .i64 (k:Nat),.slice pl rL.length cl,.int .i64 tx,.slice pw rW.length cw] 77)).heap.size) := by show _ < _; rw [bS]; omega
   clear bX bB bS SL SW HL HNj
   by_cases hit:tx = t ∧ 0 < rW.length
   ·obtain ⟨ht,hw0⟩ := hit
    have ht2 := ht.symm
    clear ht
    subst ht2
    have HG0:Hid ((atT t (setR s)) ⟨rL,t,rW⟩ = setR s ⟨rL,t,rW⟩) := by
     show (atT t (setR s)) _ = _
     unfold atT
     rw [if_pos ((tx_doc HR.out.1).2 ⟨rfl,hw0⟩)]
    obtain ⟨m,hm⟩:∃ m,rW.length = m + 1 := ⟨rW.length - 1,by omega⟩
    obtain ⟨⟨vlev,gv,vrow⟩,hvr⟩:∃ q,rW[m]'(by omega) = q := ⟨_,rfl⟩
    have HLw:Hid (lastW ⟨rL,t,rW⟩ = some ⟨vlev,gv,vrow⟩) := by
     show rW[rW.length - 1]? = _
     rw [show rW.length - 1 = m by omega,List.getElem?_eq_getElem (by omega),hvr]
    have HCn:Hid (cntL t (L.take (j + 1)) = cntL t (L.take j) + 1) := HC0.out.1 ((tx_doc HR.out.1).2 ⟨rfl,hw0⟩)
    have hcl:cntL t (L.take j) ≤ 65536 := HCm.out
    obtain ⟨bw,ow,qv,dv,ew,hbw,m0,m1,m2,hrow,hqv⟩ := SW2.out.rd m (by omega)
    rw [hvr] at m0 m1 m2 hrow
    have HVr:Hid (SlV _ _ (.slice qv vrow.length dv) vrow) := ⟨qv,dv,rfl,hrow,hqv⟩
    subst ew
    have HTt:Hid (t = t ∧ t ≠ 0) := (tx_doc HR.out.1).2 ⟨rfl,hw0⟩
    rw [hm] at HX2 SW2 SL2 HL2 a3 HBx m0 m1 m2 HVr
    have hmb:m < 4000000000000 := by have h8 := HR.out.1.nW; have h9:rW.length ≤ J := h8; omega
    have hk0:(((m:Nat):Int) + 1 == 0) = false := by simp; omega
    clear hw0 hvr hrow hqv hbw
    obtain ⟨nl,hnl0⟩:∃ nl,rL.length = nl := ⟨_,rfl⟩
    obtain ⟨nv,hnv0⟩:∃ nv,vrow.length = nv := ⟨_,rfl⟩
    have HNl:Hid (rL.length = nl) := hnl0
    have HNv:Hid (vrow.length = nv) := hnv0
    rw [hnl0] at HX2 SW2 SL2 HL2 a1 HBx m0 m1 m2 HVr
    have m2' := m2
    rw [hnv0] at m2'
    clear m2
    have m2 := m2'
    clear m2' hnl0 hnv0 hm
    generalize hcw:cntL t (L.take j) = cw0 at *
    clear hcw
    go_upto_region 8 with fail
    generalize (wr.alloc (.cells #[.int .i64 (k:Nat),.slice pl nl cl,.int .i64 t,.slice (some ⟨bw,ow,none⟩) (m + 1) cw] 77)) = wx at *
    obtain ⟨⟨x0,x1,x2,x3⟩,_⟩ := box4 HX2.out
    obtain ⟨s0,s1,_,o1,o2,r0,r1,r2,r3⟩ := HL2.out.cells
    have hb2 := HL2.out.hB
    rcases Nat.eq_zero_or_pos nl with hz | hnl
    ·subst hz
     have HNr:Hid (newr ⟨rL,t,rW⟩ (s - 1) = false) := by
      show newr _ _ = _
      rw [List.eq_nil_of_length_eq_zero HNl.out]
      rfl
     have HNw:Hid (∀ q ∈ L.take (j + 1),q.2.tx = t → t ≠ 0 → newr q.2 (s - 1) = false) := HN0.out (fun _ _ => HNr.out)
     go_upto_region 15 with fail
     obtain ⟨bN,bB,bS⟩ := one_new wx #[.int .i64 vlev,.bool gv,.slice qv nv dv] 38
     have HLw2:Hid (DL w _ _ _ _ _ _ _ _ _) := HL2.out.on bB
     have HXw:Hid (Box _ _ _ _) := HX2.out.on bB
     have HWw:Hid (Box _ _ _ _) := bN
     have SLw:Hid (SlR .u64 _ (.slice pl 0 cl) rL ∧ SlV _ _ (.slice qv vrow.length dv) vrow) := ⟨SL2.out.imm (Imm.of_below bB),HVr.out.imm (Imm.of_below bB)⟩
     clear bN bB bS x0 x1 x2 x3 s1 o1 o2 hb2 m0 m1 m2 HL2 HX2 SL2 SW2
     generalize (wx.alloc (.cells #[.int .i64 vlev,.bool gv,.slice qv nv dv] 38)) = ww at *
     obtain ⟨⟨x0,x1,x2,x3⟩,_⟩ := box4 HXw.out
     obtain ⟨_,s1,_,o1,o2,_⟩ := HLw2.out.cells
     obtain ⟨⟨u0,u1,u2⟩,_⟩ := box3 HWw.out
     have hb2 := HLw2.out.hB
     cases gv with
     | true =>
      have hgn:((⟨vlev,true,vrow⟩:Rw).gn && goneT ⟨rL,t,rW⟩) = true := by rw [goneT_zero HNl.out]; rfl
      have HSt:Hid (outL (atT t (setR s)) (L.take (j + 1)) = outL (atT t (setR s)) (L.take j)) := HOff0.out _ (HG0.out.trans (set_gone HLw.out hgn)) (by rw [List.eq_nil_of_length_eq_zero HNl.out]; rfl)
      go_wp2_with fail
      go_roundw
      case rel => exact ⟨j + 1,_,by omega,by go_num,by rw [HCn.out]; go_num,by rw [HSt.out]; exact HLw2,HNw.out⟩
      case measure => simp [intOf]; omega
     | false =>
      have HI:Hid (insE rL ⟨s,false,vrow⟩ = 0 ∧ insL rL ⟨s,false,vrow⟩ = ⟨s,false,vrow⟩ :: rL ∧ setR s ⟨rL,t,rW⟩ = ⟨⟨s,false,vrow⟩ :: rL,0,[]⟩) := ins_set HR.out.1 HLw.out hs1 hs2 HNr.out rfl
      have HSt:Hid (outL (atT t (setR s)) (L.take (j + 1)) = outL (atT t (setR s)) (L.take j) ++ [(k,⟨⟨s,false,vrow⟩ :: rL,0,[]⟩)]) := HIn0.out _ (HG0.out.trans HI.out.2.2) (thr_cons _ _ _ _)
      have C2:Hid (Calls _ _ _ _ _) := rinstall_any rL pl cl s false vrow qv dv ww SLw.out.1.rd SLw.out.1.nl SLw.out.2 (by have h8 := HR.out.1.nL; have h9:rL.length ≤ J := h8; omega)
      rw [HI.out.1,HI.out.2.1,HNl.out,HNv.out] at C2
      go_wp2_with fail
      refine C2.out.mono ?_
      rintro e w1 ⟨⟨vb,Zb,rfl,hZb,hHb⟩,hb1⟩
      obtain ⟨p',c',rfl,hn1,hr1⟩ := hHb.rd hb1.size hZb
      have HL2:Hid (DL w _ _ _ _ _ _ _ _ _) := HLw2.out.on hb1
      have hX1 := HXw.out.on hb1
      have SL2:Hid (SlR .u64 w1 (.slice p' (⟨s,false,vrow⟩ :: rL:List Rw).length c') (⟨s,false,vrow⟩ :: rL)) := ⟨p',c',rfl,hr1,fun _ => hn1⟩
      have SW2:Hid (SlR .i64 w1 (.slice none 0 0) []) := SlR.nil _ _
      clear C2 hZb hHb hb1 hr1 hn1 x0 x1 x2 x3 s1 o1 o2 u0 u1 u2 hb2
      obtain ⟨⟨x0,x1,x2,x3⟩,_⟩ := box4 hX1
      obtain ⟨_,s1,_,o1,o2,_⟩ := HL2.out.cells
      have hb2 := HL2.out.hB
      obtain ⟨ni,hni⟩:∃ ni,(⟨s,false,vrow⟩ :: rL:List Rw).length = ni := ⟨_,rfl⟩
      rw [hni] at SL2
      rw [hni]
      clear hni
      go_wp2_with (first | (at_builtin; go_loud (refine wpList_doc w1 rfl (.tmp 123) (.tmp 128) rfl (w.heap.size + 3) _ _ (by rfl) HL2.out.d k ⟨⟨s,false,vrow⟩ :: rL,0,[]⟩ _ _ SL2.out SW2.out _ rfl (by simp) HA.out hb2 ?_); intro v6 w6 d6 g6 f6 i6; obtain ⟨k1,k2⟩ := HL2.out.o6 f6; obtain ⟨p6,n6,c6,e6⟩:∃ p6 n6 c6,v6 = .slice p6 n6 c6 := (by obtain ⟨p6,c6,e6,_⟩ := d6.1.len; exact ⟨p6,_,c6,e6⟩); subst e6; clear g6))
      have HL6 := HL2.out.app d6 f6
      go_roundw
      case rel => exact ⟨j + 1,_,by omega,by go_num,by first | (rw [HCn.out]; done) | (rw [HCn.out]; go_num),by rw [HSt.out]; exact HL6,HNw.out⟩
      case measure => simp [intOf]; omega
    ·obtain ⟨bl,ol,ql,dl0,el,hbl,l0,l1,l2,_,_⟩ := SL2.out.rd 0 (by rw [HNl.out]; exact hnl)
     subst el
     have l0':wx.cell? ⟨bl,ol,none⟩ = some (.int .u64 (rL[0]'(by rw [HNl.out]; exact hnl)).n) := by simpa using l0
     have l1':wx.cell? ⟨bl,ol + 1,none⟩ = some (.bool (rL[0]'(by rw [HNl.out]; exact hnl)).gn) := by simpa using l1
     have hnr:newr ⟨rL,t,rW⟩ (s - 1) = decide (s - 1 < (rL[0]'(by rw [HNl.out]; exact hnl)).n) := newr_at (by rw [HNl.out]; exact hnl)
     have HGT:Hid (goneT ⟨rL,t,rW⟩ = (rL[0]'(by rw [HNl.out]; exact hnl)).gn) := goneT_at (by rw [HNl.out]; exact hnl)
     generalize (rL[0]'(by rw [HNl.out]; exact hnl)).n = st0 at *
     generalize (rL[0]'(by rw [HNl.out]; exact hnl)).gn = gt0 at *
     clear l0 l1 l2
     by_cases hst:s ≤ st0
     ·have HOld:Hid (∃ q ∈ L,q.2.tx = t ∧ t ≠ 0 ∧ newr q.2 (s - 1) = true) := HQm.out (HTt.out.1) HTt.out.2 (by rw [hnr]; exact decide_eq_true (by omega))
      clear hnr
      go_wp2_with fail
      obtain ⟨f0,f1,fb⟩ := HL2.out.same
      generalize (wx.setCell ⟨w.heap.size + 1,0,none⟩ (.int .i64 (most:Nat))).setCell ⟨w.heap.size + 1,1,none⟩ (.slice (some ⟨g,0,none⟩) n c) = w9 at *
      (try simp only [Exit.inBlock,Exit.then])
      refine bodyPost_ret (v := .tuple #[.agg #[.int .i64 (most:Nat),(.slice (some ⟨g,0,none⟩) n c)],.int .i64 0,.int .i64 81]) (by simp [results,Tryz.results38,go_sem,f0,f1]) rfl ?_
      exact ⟨.inl ⟨HOld.out,rfl,HD.out.on fb⟩,fb⟩
     ·have HNr:Hid (newr ⟨rL,t,rW⟩ (s - 1) = false) := by
       show newr _ _ = _
       rw [hnr]
       exact decide_eq_false (by omega)
      have HNw:Hid (∀ q ∈ L.take (j + 1),q.2.tx = t → t ≠ 0 → newr q.2 (s - 1) = false) := HN0.out (fun _ _ => HNr.out)
      clear hnr
      go_upto_region 15 with fail
      obtain ⟨bN,bB,bS⟩ := one_new wx #[.int .i64 vlev,.bool gv,.slice qv nv dv] 38
      have HLw2:Hid (DL w _ _ _ _ _ _ _ _ _) := HL2.out.on bB
      have HXw:Hid (Box _ _ _ _) := HX2.out.on bB
      have HWw:Hid (Box _ _ _ _) := bN
      have SLw:Hid (SlR .u64 _ (.slice (some ⟨bl,ol,none⟩) nl cl) rL ∧ SlV _ _ (.slice qv vrow.length dv) vrow) := ⟨SL2.out.imm (Imm.of_below bB),HVr.out.imm (Imm.of_below bB)⟩
      have l2:(wx.alloc (.cells #[.int .i64 vlev,.bool gv,.slice qv nv dv] 38)).cell? ⟨bl,ol + 1,none⟩ = some (.bool gt0) := (bB.cell (p := ⟨bl,ol + 1,none⟩) hbl).trans l1'
      clear l0' l1' hbl
      clear bN bB bS x0 x1 x2 x3 s1 o1 o2 hb2 m0 m1 m2 HL2 HX2 SL2 SW2
      generalize (wx.alloc (.cells #[.int .i64 vlev,.bool gv,.slice qv nv dv] 38)) = ww at *
      obtain ⟨⟨x0,x1,x2,x3⟩,_⟩ := box4 HXw.out
      obtain ⟨_,s1,_,o1,o2,_⟩ := HLw2.out.cells
      obtain ⟨⟨u0,u1,u2⟩,_⟩ := box3 HWw.out
      have hb2 := HLw2.out.hB
      cases gv with
      | true =>
       cases gt0 with
       | true =>
        have hgn:((⟨vlev,true,vrow⟩:Rw).gn && goneT ⟨rL,t,rW⟩) = true := by rw [HGT.out]; rfl
        have HSt:Hid (outL (atT t (setR s)) (L.take (j + 1)) = outL (atT t (setR s)) (L.take j) ++ [(k,⟨rL,0,[]⟩)]) := HIn0.out _ (HG0.out.trans (set_gone HLw.out hgn)) (thr_pos (by rw [HNl.out]; exact hnl))
        have SL2:Hid (SlR .u64 ww (.slice (some ⟨bl,ol,none⟩) nl cl) rL) := SLw.out.1
        have SW2:Hid (SlR .i64 ww (.slice none 0 0) []) := SlR.nil _ _
        go_wp2_with (first | (at_builtin; go_loud (refine wpList_doc ww rfl (.tmp 101) (.tmp 107) rfl (w.heap.size + 3) _ _ (by rfl) HLw2.out.d k ⟨rL,0,[]⟩ _ _ SL2.out SW2.out _ rfl (by simp) HA.out hb2 ?_); intro v6 w6 d6 g6 f6 i6; obtain ⟨k1,k2⟩ := HLw2.out.o6 f6; obtain ⟨p6,n6,c6,e6⟩:∃ p6 n6 c6,v6 = .slice p6 n6 c6 := (by obtain ⟨p6,c6,e6,_⟩ := d6.1.len; exact ⟨p6,_,c6,e6⟩); subst e6; clear g6))
        have HL6 := HLw2.out.app d6 f6
        go_roundw
        case rel => exact ⟨j + 1,_,by omega,by go_num,by first | (rw [HCn.out]; done) | (rw [HCn.out]; go_num),by rw [HSt.out]; exact HL6,HNw.out⟩
        case measure => simp [intOf]; omega
       | false =>
        have HI:Hid (insE rL ⟨s,true,vrow⟩ = 0 ∧ insL rL ⟨s,true,vrow⟩ = ⟨s,true,vrow⟩ :: rL ∧ setR s ⟨rL,t,rW⟩ = ⟨⟨s,true,vrow⟩ :: rL,0,[]⟩) := ins_set HR.out.1 HLw.out hs1 hs2 HNr.out (by rw [HGT.out]; rfl)
        have HSt:Hid (outL (atT t (setR s)) (L.take (j + 1)) = outL (atT t (setR s)) (L.take j) ++ [(k,⟨⟨s,true,vrow⟩ :: rL,0,[]⟩)]) := HIn0.out _ (HG0.out.trans HI.out.2.2) (thr_cons _ _ _ _)
        have C2:Hid (Calls _ _ _ _ _) := rinstall_any rL (some ⟨bl,ol,none⟩) cl s true vrow qv dv ww SLw.out.1.rd SLw.out.1.nl SLw.out.2 (by have h8 := HR.out.1.nL; have h9:rL.length ≤ J := h8; omega)
        rw [HI.out.1,HI.out.2.1,HNl.out,HNv.out] at C2
        go_wp2_with fail
        refine C2.out.mono ?_
        rintro e w1 ⟨⟨vb,Zb,rfl,hZb,hHb⟩,hb1⟩
        obtain ⟨p',c',rfl,hn1,hr1⟩ := hHb.rd hb1.size hZb
        have HL2:Hid (DL w _ _ _ _ _ _ _ _ _) := HLw2.out.on hb1
        have hX1 := HXw.out.on hb1
        have SL2:Hid (SlR .u64 w1 (.slice p' (⟨s,true,vrow⟩ :: rL:List Rw).length c') (⟨s,true,vrow⟩ :: rL)) := ⟨p',c',rfl,hr1,fun _ => hn1⟩
        have SW2:Hid (SlR .i64 w1 (.slice none 0 0) []) := SlR.nil _ _
        clear C2 hZb hHb hb1 hr1 hn1 x0 x1 x2 x3 s1 o1 o2 u0 u1 u2 hb2
        obtain ⟨⟨x0,x1,x2,x3⟩,_⟩ := box4 hX1
        obtain ⟨_,s1,_,o1,o2,_⟩ := HL2.out.cells
        have hb2 := HL2.out.hB
        obtain ⟨ni,hni⟩:∃ ni,(⟨s,true,vrow⟩ :: rL:List Rw).length = ni := ⟨_,rfl⟩
        rw [hni] at SL2
        rw [hni]
        clear hni
        go_wp2_with (first | (at_builtin; go_loud (refine wpList_doc w1 rfl (.tmp 123) (.tmp 128) rfl (w.heap.size + 3) _ _ (by rfl) HL2.out.d k ⟨⟨s,true,vrow⟩ :: rL,0,[]⟩ _ _ SL2.out SW2.out _ rfl (by simp) HA.out hb2 ?_); intro v6 w6 d6 g6 f6 i6; obtain ⟨k1,k2⟩ := HL2.out.o6 f6; obtain ⟨p6,n6,c6,e6⟩:∃ p6 n6 c6,v6 = .slice p6 n6 c6 := (by obtain ⟨p6,c6,e6,_⟩ := d6.1.len; exact ⟨p6,_,c6,e6⟩); subst e6; clear g6))
        have HL6 := HL2.out.app d6 f6
        go_roundw
        case rel => exact ⟨j + 1,_,by omega,by go_num,by first | (rw [HCn.out]; done) | (rw [HCn.out]; go_num),by rw [HSt.out]; exact HL6,HNw.out⟩
        case measure => simp [intOf]; omega
      | false =>
       have HI:Hid (insE rL ⟨s,false,vrow⟩ = 0 ∧ insL rL ⟨s,false,vrow⟩ = ⟨s,false,vrow⟩ :: rL ∧ setR s ⟨rL,t,rW⟩ = ⟨⟨s,false,vrow⟩ :: rL,0,[]⟩) := ins_set HR.out.1 HLw.out hs1 hs2 HNr.out rfl
       have HSt:Hid (outL (atT t (setR s)) (L.take (j + 1)) = outL (atT t (setR s)) (L.take j) ++ [(k,⟨⟨s,false,vrow⟩ :: rL,0,[]⟩)]) := HIn0.out _ (HG0.out.trans HI.out.2.2) (thr_cons _ _ _ _)
       have C2:Hid (Calls _ _ _ _ _) := rinstall_any rL (some ⟨bl,ol,none⟩) cl s false vrow qv dv ww SLw.out.1.rd SLw.out.1.nl SLw.out.2 (by have h8 := HR.out.1.nL; have h9:rL.length ≤ J := h8; omega)
       rw [HI.out.1,HI.out.2.1,HNl.out,HNv.out] at C2
       go_wp2_with fail
       refine C2.out.mono ?_
       rintro e w1 ⟨⟨vb,Zb,rfl,hZb,hHb⟩,hb1⟩
       obtain ⟨p',c',rfl,hn1,hr1⟩ := hHb.rd hb1.size hZb
       have HL2:Hid (DL w _ _ _ _ _ _ _ _ _) := HLw2.out.on hb1
       have hX1 := HXw.out.on hb1
       have SL2:Hid (SlR .u64 w1 (.slice p' (⟨s,false,vrow⟩ :: rL:List Rw).length c') (⟨s,false,vrow⟩ :: rL)) := ⟨p',c',rfl,hr1,fun _ => hn1⟩
       have SW2:Hid (SlR .i64 w1 (.slice none 0 0) []) := SlR.nil _ _
       clear C2 hZb hHb hb1 hr1 hn1 x0 x1 x2 x3 s1 o1 o2 u0 u1 u2 hb2
       obtain ⟨⟨x0,x1,x2,x3⟩,_⟩ := box4 hX1
       obtain ⟨_,s1,_,o1,o2,_⟩ := HL2.out.cells
       have hb2 := HL2.out.hB
       obtain ⟨ni,hni⟩:∃ ni,(⟨s,false,vrow⟩ :: rL:List Rw).length = ni := ⟨_,rfl⟩
       rw [hni] at SL2
       rw [hni]
       clear hni
       go_wp2_with (first | (at_builtin; go_loud (refine wpList_doc w1 rfl (.tmp 123) (.tmp 128) rfl (w.heap.size + 3) _ _ (by rfl) HL2.out.d k ⟨⟨s,false,vrow⟩ :: rL,0,[]⟩ _ _ SL2.out SW2.out _ rfl (by simp) HA.out hb2 ?_); intro v6 w6 d6 g6 f6 i6; obtain ⟨k1,k2⟩ := HL2.out.o6 f6; obtain ⟨p6,n6,c6,e6⟩:∃ p6 n6 c6,v6 = .slice p6 n6 c6 := (by obtain ⟨p6,c6,e6,_⟩ := d6.1.len; exact ⟨p6,_,c6,e6⟩); subst e6; clear g6))
       have HL6 := HL2.out.app d6 f6
       go_roundw
       case rel => exact ⟨j + 1,_,by omega,by go_num,by first | (rw [HCn.out]; done) | (rw [HCn.out]; go_num),by rw [HSt.out]; exact HL6,HNw.out⟩
       case measure => simp [intOf]; omega
   ·clear HBx
    have HG:Hid ((atT t (setR s)) ⟨rL,tx,rW⟩ = ⟨rL,tx,rW⟩) := by
     show (atT t (setR s)) _ = _
     unfold atT
     rw [if_neg (fun h => hit ((tx_doc HR.out.1).1 h))]
    have HSt:Hid (outL (atT t (setR s)) (L.take (j + 1)) = outL (atT t (setR s)) (L.take j) ++ [(k,⟨rL,tx,rW⟩)]) := HIn0.out _ HG.out HR.out.2
    have HCn:Hid (cntL t (L.take (j + 1)) = cntL t (L.take j)) := HC0.out.2 (fun h => hit ((tx_doc HR.out.1).1 h))
    have HNw:Hid (∀ q ∈ L.take (j + 1),q.2.tx = t → t ≠ 0 → newr q.2 (s - 1) = false) := HN0.out (fun h1 h2 => absurd ((tx_doc HR.out.1).1 ⟨h1,h2⟩) hit)
    have hc:tx ≠ t ∨ (tx = t ∧ rW.length = 0) := by omega
    clear hit
    generalize rW.length = nw at *
    generalize rL.length = nl at *
    generalize hcw:cntL t (L.take j) = cw0 at *
    clear hcw
    rcases hc with hc | ⟨hc,hw0⟩
    ·have hb:(tx == t) = false := by simp [hc]
     go_upto_region 8 with fail
     generalize (wr.alloc (.cells #[.int .i64 (k:Nat),.slice pl nl cl,.int .i64 tx,.slice pw nw cw] 77)) = wx at *
     obtain ⟨⟨x0,x1,x2,x3⟩,_⟩ := box4 HX2.out
     obtain ⟨_,s1,_,o1,o2,_⟩ := HL2.out.cells
     have hb2 := HL2.out.hB
     go_wp2_with (first | (at_builtin; go_loud (refine wpList_doc wx rfl (.tmp 53) (.tmp 55) rfl (w.heap.size + 3) _ _ (by rfl) HL2.out.d k ⟨rL,tx,rW⟩ _ _ SL2.out SW2.out _ rfl (by simp) HA.out hb2 ?_); intro v6 w6 d6 g6 f6 i6; obtain ⟨k1,k2⟩ := HL2.out.o6 f6; obtain ⟨p6,n6,c6,e6⟩:∃ p6 n6 c6,v6 = .slice p6 n6 c6 := (by obtain ⟨p6,c6,e6,_⟩ := d6.1.len; exact ⟨p6,_,c6,e6⟩); subst e6; clear g6))
     have HL6 := HL2.out.app d6 f6
     go_roundw
     case rel => exact ⟨j + 1,_,by omega,by go_num,by first | (rw [HCn.out]; done) | (rw [HCn.out]; go_num),by rw [HSt.out]; exact HL6,HNw.out⟩
     case measure => simp [intOf]; omega
    ·have hc2 := hc.symm
     clear hc
     subst hc2
     subst hw0
     go_upto_region 8 with fail
     generalize (wr.alloc (.cells #[.int .i64 (k:Nat),.slice pl nl cl,.int .i64 t,.slice pw 0 cw] 77)) = wx at *
     obtain ⟨⟨x0,x1,x2,x3⟩,_⟩ := box4 HX2.out
     obtain ⟨_,s1,_,o1,o2,_⟩ := HL2.out.cells
     have hb2 := HL2.out.hB
     go_wp2_with (first | (at_builtin; go_loud (refine wpList_doc wx rfl (.tmp 53) (.tmp 55) rfl (w.heap.size + 3) _ _ (by rfl) HL2.out.d k ⟨rL,t,rW⟩ _ _ SL2.out SW2.out _ rfl (by simp) HA.out hb2 ?_); intro v6 w6 d6 g6 f6 i6; obtain ⟨k1,k2⟩ := HL2.out.o6 f6; obtain ⟨p6,n6,c6,e6⟩:∃ p6 n6 c6,v6 = .slice p6 n6 c6 := (by obtain ⟨p6,c6,e6,_⟩ := d6.1.len; exact ⟨p6,_,c6,e6⟩); subst e6; clear g6))
     have HL6 := HL2.out.app d6 f6
     go_roundw
     case rel => exact ⟨j + 1,_,by omega,by go_num,by first | (rw [HCn.out]; done) | (rw [HCn.out]; go_num),by rw [HSt.out]; exact HL6,HNw.out⟩
     case measure => simp [intOf]; omega

end Go.Proofs.YtcibcfghkidncaaGreatDoor

namespace Go.Proofs.YtcibcfghkidncaaGreatDoor
open Go.RowKit Go.Lib Go.Maps
set_option maxRecDepth 100000
section
variable {B sb most pb:Nat} {dl:Nat → Int} {dm:Nat → Option Nat} {pv tv:Value} {C:List (Nat × Nat)} {T:List Nat} {sv:Int → Value} {wo:Int → List Nat} {M:List Rs} {K J:Nat}

set_option maxHeartbeats 4000000 in
theorem take_full (p q:Option Addr) (c s:Nat) (r:Rs) (w:World) (h:StX w B sb most pb 0 dl dm pv tv C T sv wo M K) (hI:InvT J most M T) (hT:Tab w) (hg : 1 < B) (hs:StR w p q c r) (hs1:thrAt M s = false) (hs2:∀ j,j < s → thrAt M j = true) (hm:s = most) :
  Calls Tryz.prog 57 #[ptr1 sb,stV p q c r] w fun e w' => e = .returned (.tuple #[.int .i64 0,.int .i64 2]) ∧ StX w' B sb most pb 0 dl dm pv tv C T sv wo M K ∧ Frm w w' (one1 sb) := by
 obtain ⟨tx,htx⟩:∃ x,r.tx = x := ⟨_,rfl⟩
 obtain ⟨n,hn⟩:∃ x,r.W.length = x := ⟨_,rfl⟩
 simp only [stV,htx,hn]
 obtain ⟨bX,bB,bS⟩ := one_new w #[.pointer p,.int .i64 tx,.slice q n c] 125
 have HX0:Hid (stB (w.alloc (.cells #[.pointer p,.int .i64 tx,.slice q n c] 125)) w.heap.size p tx q n c ∧ Below w.heap.size w (w.alloc (.cells #[.pointer p,.int .i64 tx,.slice q n c] 125))) := ⟨bX,bB⟩
 have HS:Hid (StX w B sb most pb 0 dl dm pv tv C T sv wo M K) := h
 have HS0:Hid (StX (w.alloc (.cells #[.pointer p,.int .i64 tx,.slice q n c] 125)) B sb most pb 0 dl dm pv tv C T sv wo M K) := h.on bB
 have HR:Hid (StR w p q c r ∧ r.tx = tx ∧ r.W.length = n) := ⟨hs,htx,hn⟩
 have HI:Hid (InvT J most M T) := hI
 have HT:Hid (Tab w) := hT
 have HL:Hid (thrAt M s = false ∧ ∀ j,j < s → thrAt M j = true) := ⟨hs1,hs2⟩
 have HB:Hid (B ≤ sb ∧ sb < w.heap.size) := ⟨h.base,h.blk.lt⟩
 clear h hs bX bB bS htx hn hI hT hs1 hs2
 go_enter_defers Tryz.func57,Tryz.ntmps57
 go_upto_region 1 with fail
 generalize (w.alloc (.cells #[.pointer p,.int .i64 tx,.slice q n c] 125)) = w0 at *
 have C1:Hid (Calls _ _ _ _ _) := lockS w0 HS0.out
 go_wp2_with fail
 refine C1.out.mono ?_
 rintro e w1 ⟨rfl,hsx1,hf1⟩
 have hf1w:Frm w w1 (one1 sb) := (Frm.of_below (F := one1 sb) HX0.out.2).trans hf1 (fun k hk => .inl hk)
 have hbw1:Below B w w1 := hf1w.below (Nat.le_trans HB.out.1 (Nat.le_of_lt HB.out.2)) (fun k hk => by rw [hk]; exact HB.out.1)
 have C2:Hid (Calls _ _ _ _ _) := least_any T tv B w1 hsx1.tak (HT.out.keep hbw1 hg) HI.out.tw HI.out.tlen
 have HS1:Hid (StX w1 B sb most pb 1 dl dm pv tv C T sv wo M K) := hsx1
 have HF1:Hid (Frm w w1 (one1 sb)) := hf1w
 have HX1:Hid (stB w1 w.heap.size p tx q n c) := HX0.out.1.frm hf1 (show ¬ w.heap.size = sb by have := HB.out.2; omega)
 have c4 := hsx1.blk.cell.1.2.2.2
 have c0 := hsx1.blk.cell.1.1
 obtain ⟨pt,ct,rfl,_⟩ := owns_len hsx1.tak
 clear hsx1 hf1 hf1w hbw1 C1 HS0 HX0
 go_wp2_with fail
 refine C2.out.mono ?_
 rintro e w9 ⟨⟨s',rfl,hb1,hb2⟩,hw⟩
 rw [hw]
 have hss:s' = s := by
  have e1 := HI.out.bit s'
  have e2 := HI.out.bit s
  rw [hb1] at e1
  rw [HL.out.1] at e2
  rcases Nat.lt_trichotomy s' s with h | h | h
  ·rw [HL.out.2 s' h] at e1; cases e1
  ·exact h
  ·rw [hb2 s h] at e2; cases e2
 subst hss
 clear hw w9 C2 hb1 hb2
 have heq:((s':Int) == (most:Int)) = true := by simp [hm]
 clear hm
 go_wp2_with fail
 refine leaves_cons (f := 48) (args := #[.pointer (some ⟨sb,2,none⟩)]) (by simp) (by simp [go_sem]) ?_
 refine (unlockS .returning w1 HS1.out).mono ?_
 rintro e u' w3 ⟨rfl,rfl,hs3,hf3⟩
 refine ⟨_,results_tmp2 (t := 4) (u := 5) rfl _ _ _,?_⟩
 exact ⟨rfl,hs3,HF1.out.trans hf3 (fun k hk => .inl hk)⟩

set_option maxHeartbeats 8000000 in
theorem take_new (p q:Option Addr) (c s:Nat) (r:Rs) (w:World) (h:StX w B sb most pb 0 dl dm pv tv C T sv wo M K) (hI:InvT J most M T) (hT:Tab w) (hg : 1 < B) (hs:StR w p q c r) (hs1:thrAt M s = false) (hs2:∀ j,j < s → thrAt M j = true) (hm:s < most) (hsM:s = M.length) :
  Calls Tryz.prog 57 #[ptr1 sb,stV p q c r] w fun e w' => e = .returned (.tuple #[.int .i64 (s:Nat),.int .i64 0]) ∧ (∃ pb' pv' tv' C',StX w' B sb most pb' 0 dl dm pv' tv' C' (onX T s) sv wo (addM M s r) (K + 1) ∧ ∀ k,stF sb dm pv' tv' C' sv wo k → stF sb dm pv tv C sv wo k ∨ w.heap.size ≤ k) ∧ Frm w w' (stF sb dm pv tv C sv wo) := by
 have HsM:Hid (s = M.length) := hsM
 clear hsM
 obtain ⟨tx,htx⟩:∃ x,r.tx = x := ⟨_,rfl⟩
 obtain ⟨n,hn⟩:∃ x,r.W.length = x := ⟨_,rfl⟩
 simp only [stV,htx,hn]
 obtain ⟨bX,bB,bS⟩ := one_new w #[.pointer p,.int .i64 tx,.slice q n c] 125
 have HX0:Hid (stB (w.alloc (.cells #[.pointer p,.int .i64 tx,.slice q n c] 125)) w.heap.size p tx q n c ∧ Below w.heap.size w (w.alloc (.cells #[.pointer p,.int .i64 tx,.slice q n c] 125))) := ⟨bX,bB⟩
 have HS:Hid (StX w B sb most pb 0 dl dm pv tv C T sv wo M K) := h
 have HS0:Hid (StX (w.alloc (.cells #[.pointer p,.int .i64 tx,.slice q n c] 125)) B sb most pb 0 dl dm pv tv C T sv wo M K) := h.on bB
 have HR:Hid (StR w p q c r ∧ r.tx = tx ∧ r.W.length = n) := ⟨hs,htx,hn⟩
 have HI:Hid (InvT J most M T) := hI
 have HT:Hid (Tab w) := hT
 have HL:Hid (thrAt M s = false ∧ ∀ j,j < s → thrAt M j = true) := ⟨hs1,hs2⟩
 have HB:Hid (B ≤ sb ∧ sb < w.heap.size) := ⟨h.base,h.blk.lt⟩
 clear h hs bX bB bS htx hn hI hT hs1 hs2
 go_enter_defers Tryz.func57,Tryz.ntmps57
 go_upto_region 1 with fail
 generalize (w.alloc (.cells #[.pointer p,.int .i64 tx,.slice q n c] 125)) = w0 at *
 have C1:Hid (Calls _ _ _ _ _) := lockS w0 HS0.out
 go_wp2_with fail
 refine C1.out.mono ?_
 rintro e w1 ⟨rfl,hsx1,hf1⟩
 have hf1w:Frm w w1 (one1 sb) := (Frm.of_below (F := one1 sb) HX0.out.2).trans hf1 (fun k hk => .inl hk)
 have hbw1:Below B w w1 := hf1w.below (Nat.le_trans HB.out.1 (Nat.le_of_lt HB.out.2)) (fun k hk => by rw [hk]; exact HB.out.1)
 have C2:Hid (Calls _ _ _ _ _) := least_any T tv B w1 hsx1.tak (HT.out.keep hbw1 hg) HI.out.tw HI.out.tlen
 have HS1:Hid (StX w1 B sb most pb 1 dl dm pv tv C T sv wo M K) := hsx1
 have HF1:Hid (Frm w w1 (one1 sb)) := hf1w
 have HX1:Hid (stB w1 w.heap.size p tx q n c) := HX0.out.1.frm hf1 (show ¬ w.heap.size = sb by have := HB.out.2; omega)
 have c4 := hsx1.blk.cell.1.2.2.2
 have c0 := hsx1.blk.cell.1.1
 obtain ⟨pt,ct,rfl,_⟩ := owns_len hsx1.tak
 clear hsx1 hf1 hf1w hbw1 C1 HS0 HX0
 go_wp2_with fail
 refine C2.out.mono ?_
 rintro e w9 ⟨⟨s',rfl,hb1,hb2⟩,hw⟩
 rw [hw]
 have hss:s' = s := by
  have e1 := HI.out.bit s'
  have e2 := HI.out.bit s
  rw [hb1] at e1
  rw [HL.out.1] at e2
  rcases Nat.lt_trichotomy s' s with h | h | h
  ·rw [HL.out.2 s' h] at e1; cases e1
  ·exact h
  ·rw [hb2 s h] at e2; cases e2
 subst hss
 clear hw w9 C2 hb1 hb2
 have heq:((s':Int) == (most:Int)) = false := by
  rw [beq_eq_false_iff_ne]
  omega
 have hsT:s' / 64 ≤ T.length := by rw [HI.out.tl]; have := HsM.out; omega
 have C3:Hid (Calls _ _ _ _ _) := with_all T (.slice pt T.length ct) B s' w1 HS1.out.tak HS1.out.tnb HI.out.tw hsT HI.out.tlen (Nat.le_trans HS1.out.base (Nat.le_of_lt HS1.out.blk.lt))
 go_wp2_with fail
 refine C3.out.mono ?_
 rintro e w2 ⟨⟨v2,rfl,ho2,hn2,hv2⟩,hf2⟩
 obtain ⟨p2,c2,rfl,_⟩ := owns_len ho2
 have hk2 := HS1.out.blk.frm hf2 (fun e => HS1.out.sb_tv e rfl)
 have d4 := hk2.cell.1.2.2.2
 have z4 := hk2.cell.2 4
 have HK2:Hid (SBk w2 sb most pb 1 (.slice pt T.length ct) dl dm ∧ Frm w1 w2 (fun k => (Value.slice pt T.length ct).ownBlock = some k) ∧ OwnT w2 B (.slice p2 (onX T s').length c2) (onX T s') ∧ NB w2 (.slice p2 (onX T s').length c2) ∧ ((Value.slice p2 (onX T s').length c2).ownBlock = (Value.slice pt T.length ct).ownBlock ∨ ∃ g,(Value.slice p2 (onX T s').length c2).ownBlock = some g ∧ w1.heap.size ≤ g)) := ⟨hk2,hf2,ho2,hn2,hv2⟩
 clear ho2 hn2 hv2 hf2 hk2 C3 c4 c0
 go_upto_region 7 with fail
 have hf3:Frm w2 (w2.setCell ⟨sb,4,none⟩ (.slice p2 (onX T s').length c2)) (one1 sb) := frm_set w2 sb 4 _ (.inl rfl)
 have hf13:Frm w1 (w2.setCell ⟨sb,4,none⟩ (.slice p2 (onX T s').length c2)) (fun k => k = sb ∨ (Value.slice pt T.length ct).ownBlock = some k) := (HK2.out.2.1.mono (fun k hk => .inl (.inr hk))).trans hf3 (fun k hk => .inl (.inl hk))
 have hnb:∀ g,(Value.slice p2 (onX T s').length c2).ownBlock = some g → ¬ one1 sb g := fun g hg e => by
  have e':g = sb := e
  rcases HK2.out.2.2.2.2 with h | ⟨g',h,h'⟩
  ·exact HS1.out.sb_tv (h.symm.trans hg) e'
  ·have := HS1.out.blk.lt
   rw [h] at hg
   cases hg
   omega
 have hS3:StX (w2.setCell ⟨sb,4,none⟩ (.slice p2 (onX T s').length c2)) B sb most pb 1 dl dm pv (.slice p2 (onX T s').length c2) C (onX T s') sv wo M K := HS1.out.tkn2 hf13 (HK2.out.1.set4 ⟨_,_,_,rfl⟩) (owns_frm HK2.out.2.2.1 hf3 hnb) (HK2.out.2.2.2.1.frm hf3 (fun g hg => ⟨(World.ownsRow.lt HK2.out.2.2.1 g hg).2,hnb g hg⟩))
 have hst:∀ k,(k = sb ∨ (Value.slice pt T.length ct).ownBlock = some k) → stF sb dm pv (.slice pt T.length ct) C sv wo k := fun k hk => hk.elim .inl (fun e => .inr (.inl e))
 have HS3:Hid (StX (w2.setCell ⟨sb,4,none⟩ (.slice p2 (onX T s').length c2)) B sb most pb 1 dl dm pv (.slice p2 (onX T s').length c2) C (onX T s') sv wo M K) := hS3
 have HF3:Hid (Frm w (w2.setCell ⟨sb,4,none⟩ (.slice p2 (onX T s').length c2)) (stF sb dm pv (.slice pt T.length ct) C sv wo)) := (HF1.out.mono (fun k hk => .inl (.inl hk))).trans hf13 (fun k hk => .inl (hst k hk))
 have HI3:Hid (Imm w (w2.setCell ⟨sb,4,none⟩ (.slice p2 (onX T s').length c2))) := HS.out.imm HF3.out
 have HX3:Hid (stB (w2.setCell ⟨sb,4,none⟩ (.slice p2 (onX T s').length c2)) w.heap.size p tx q n c) := HX1.out.frm hf13 (fun e => by have := (HS.out.mut (hst _ e)).2.2; omega)
 have HU3:Hid (∀ k,stF sb dm pv (.slice p2 (onX T s').length c2) C sv wo k → stF sb dm pv (.slice pt T.length ct) C sv wo k ∨ w.heap.size ≤ k) := fun k hk => by
  rcases hk with h | h | h | h | h | h
  ·exact .inl (.inl h)
  ·rcases HK2.out.2.2.2.2 with h1 | ⟨g',h1,h'⟩
   ·exact .inl (.inr (.inl (h1.symm.trans h)))
   ·rw [h1] at h
    cases h
    exact .inr (Nat.le_trans HF1.out.size h')
  ·exact .inl (.inr (.inr (.inl h)))
  ·exact .inl (.inr (.inr (.inr (.inl h))))
  ·exact .inl (.inr (.inr (.inr (.inr (.inl h)))))
  ·exact .inl (.inr (.inr (.inr (.inr (.inr h)))))
 clear hf3 hf13 hnb hS3 hst HK2 HS1 HF1 HX1 d4 z4
 generalize w2.setCell ⟨sb,4,none⟩ (.slice p2 (onX T s').length c2) = w3 at *
 have C4:Hid (Calls _ _ _ _ _) := sload_any sb pb pv w3 HS3.out.blk.cell.1.2.1 HS3.out.plc.box
 have p0 := (show Box w3 pb #[pv] 105 from HS3.out.plc.box).cell0.1
 obtain ⟨pp,cc,hpv,_⟩ := owns_len HS3.out.plc.own
 subst hpv
 go_wp2_with fail
 refine C4.out.mono ?_
 rintro e w9 ⟨rfl,hw⟩
 rw [hw]
 clear hw w9 C4
 have hCl := HS3.out.plc.len
 have hsM := HsM.out
 have hsC:s' = C.length := by omega
 have hl:C.length ≤ 65536 := by rw [hCl]; exact Nat.le_trans HI.out.len HI.out.mst
 have HsC:Hid (s' = C.length ∧ addM M s' r = M ++ [r]) := ⟨hsC,if_neg (by omega)⟩
 obtain ⟨⟨x0,x1,x2⟩,_⟩ := box3 HX3.out
 have CG:Hid (Calls _ _ _ _ _) := grow_any p q c r w3 (HS3.out.mono (Nat.le_succ K)) (HR.out.1.imm HI3.out) (by omega) hl
 simp only [stV,HR.out.2.1,HR.out.2.2] at CG
 have hnl:¬ ((s':Int) < (C.length:Int)) := by omega
 clear hsC hsM hCl
 go_wp2_with fail
 refine CG.out.mono ?_
 rintro e w5 ⟨rfl,⟨pb',pv',cb,hs5,hu5⟩,hf5⟩
 go_wp2_with fail
 refine leaves_cons (f := 48) (args := #[.pointer (some ⟨sb,2,none⟩)]) (by simp) (by simp [go_sem]) ?_
 refine (unlockS .returning w5 hs5).mono ?_
 rintro e u' w6 ⟨rfl,rfl,hs6,hf6⟩
 refine ⟨_,results_tmp2 (t := 4) (u := 5) rfl _ _ _,?_⟩
 rw [HsC.out.2]
 have hsz := HF3.out.size
 refine ⟨rfl,⟨pb',pv',_,_,hs6,fun k hk => ?_⟩,(HF3.out.trans hf5 (fun k hk => HU3.out k hk)).trans hf6 (fun k hk => .inl (.inl hk))⟩
 rcases hu5 k hk with h | h
 ·exact HU3.out k h
 ·exact .inr (by omega)

end

end Go.Proofs.YtcibcfghkidncaaGreatDoor
