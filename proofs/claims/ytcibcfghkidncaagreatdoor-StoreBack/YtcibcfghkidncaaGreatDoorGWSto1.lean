/- Walks of a store: desk, place, state, locks. Walks over a row's state: see. -/
import Derived.Test.YtcibcfghkidncaaGreatDoorGWSx
import Derived.Test.YtcibcfghkidncaaGreatDoorGWMu
import Derived.Test.YtcibcfghkidncaaGreatDoorGWStt2
import Derived.Test.YtcibcfghkidncaaGreatDoorGWIns8
namespace Go.Proofs.YtcibcfghkidncaaGreatDoor
open Go.RowKit Go.Lib Go.Maps
set_option maxRecDepth 100000

theorem desk_any (sb:Nat) (t:Int) (w:World) (_h1:-9223372036854775808 ≤ t) (_h2:t < 9223372036854775808) :
  Calls Tryz.prog 46 #[ptr1 sb,.int .i64 t] w fun e w' => e = .returned (.pointer (some ⟨sb,5 + dk t * 3,none⟩)) ∧ w' = w := by
 have hd := dk_lt t
 have e1:(IntKind.u64.wrap t) % 64 = ((dk t:Nat):Int) := by
  rw [IntKind.wrap_u64]
  unfold dk
  omega
 have e2:(IntKind.u64.wrap t).tmod 64 = ((dk t:Nat):Int) := by
  rw [← e1,Int.tmod_eq_emod_of_nonneg]
  rw [IntKind.wrap_u64]
  omega
 generalize dk t = d at *
 go_enter Tryz.func46,Tryz.ntmps46
 go_wp2
 go_ret
 exact ⟨rfl,rfl⟩
theorem info_pb:∃ j,Tryz.prog.info? 105 = some j ∧ j.size ≠ 0 := by
 have h:((Tryz.prog.info? 105).map (fun i => decide (i.size ≠ 0))) = some true := by kernel_rfl
 obtain ⟨j,hj,h2⟩ := Option.map_eq_some_iff.1 h
 exact ⟨j,hj,by simpa using h2⟩
theorem lies_pb:liesAt Tryz.prog Tryz.prog.depth 105 (1 / Tryz.prog.cellsOf 105) 0 105 1 = true := by kernel_rfl
abbrev PBox (w:World) (pb:Nat) (pv:Value):Prop := w.heap[pb]? = some (.cells #[pv] 105 (0,0))
theorem pb_from {w:World} {pb:Nat} {pv:Value} (h:PBox w pb pv):(convert 87 83 (ptr1 pb)).run Tryz.prog w = .ok (ptr1 pb) w := by
 obtain ⟨j,hj,_⟩ := info_pb
 exact from_raw ⟨pb,0,none⟩ Tryz.underlying87 Tryz.underlying83 hj (e := 105) (cells := 1) (by simp [World.shape?,h]) lies_pb
theorem pb_to {w:World} {pb:Nat} {pv:Value} (h:PBox w pb pv):(convert 83 87 (ptr1 pb)).run Tryz.prog w = .ok (ptr1 pb) w := by
 obtain ⟨j,hj,hs⟩ := info_pb
 exact to_raw ⟨pb,0,none⟩ Tryz.underlying83 Tryz.underlying87 hj hs (e := 105) (cells := 1) (by simp [World.shape?,h]) (show 0 < 1 by decide)
theorem sload_any (sb pb:Nat) (pv:Value) (w:World) (hc:w.cell? ⟨sb,1,none⟩ = some (ptr1 pb)) (hb:PBox w pb pv) :
  Calls Tryz.prog 97 #[.pointer (some ⟨sb,1,none⟩)] w fun e w' => e = .returned (ptr1 pb) ∧ w' = w := by
 have hl := run_call_loadp (P := Tryz.prog) Tryz.func134 (by kernel_rfl) (by kernel_rfl) (by kernel_rfl) (by kernel_rfl) hc
 have hx := pb_from hb
 clear hb hc
 go_enter Tryz.func97,Tryz.ntmps97
 go_wp2
 go_ret
 exact ⟨rfl,rfl⟩
theorem sstore_any (sb pb:Nat) (p:Option Addr) (pv:Value) (w:World) (hc:w.cell? ⟨sb,1,none⟩ = some (.pointer p)) (hz:w.frozen? ⟨sb,1,none⟩ = false) (hb:PBox w pb pv) :
  Calls Tryz.prog 27 #[.pointer (some ⟨sb,1,none⟩),ptr1 pb] w fun e w' => e = .returned (.tuple #[]) ∧ w' = w.setCell ⟨sb,1,none⟩ (ptr1 pb) := by
 have hl := run_call_storep (P := Tryz.prog) Tryz.func65 (by kernel_rfl) (by kernel_rfl) (by kernel_rfl) (by kernel_rfl) (q := some ⟨pb,0,none⟩) hc hz
 have hx := pb_to hb
 clear hb hc
 go_enter Tryz.func27,Tryz.ntmps27
 go_wp2
 go_end0
 exact ⟨rfl,rfl⟩
section
variable {B sb most pb:Nat} {ls:Int} {dl:Nat → Int} {dm:Nat → Option Nat} {pv tv:Value} {C:List (Nat × Nat)} {T:List Nat} {sv:Int → Value} {wr:Int → List Nat} {M:List Rs} {K:Nat}
theorem Plc.ptr {w:World} {p:Option Addr} {n c:Nat} (h:Plc w B pb (.slice p n c) C M K) {i:Nat} (hi:i < C.length):∃ g,p = some ⟨g,0,none⟩ ∧ n = C.length ∧ g < w.heap.size ∧ w.cell? ⟨g,i,none⟩ = some (ptr1 C[i].1) := by
 obtain ⟨g,cap,e,hg1,hg2⟩ := owns_form h.own (by omega)
 injection e with e1 e2 e3
 subst e1 e2 e3
 refine ⟨g,rfl,rfl,hg2,?_⟩
 rw [World.ownsRow.cellAt h.own i (by omega)]
 simp [hi]

set_option maxHeartbeats 1000000 in
theorem place_ok (i:Nat) (w:World) (h:StX w B sb most pb ls dl dm pv tv C T sv wr M K) (hi:i < C.length) (_hl:C.length ≤ 65536) :
  Calls Tryz.prog 81 #[ptr1 sb,.int .i64 (i:Nat)] w fun e w' => e = .returned (ptr1 C[i].1) ∧ w' = w := by
 obtain ⟨p,c,rfl,_⟩ := owns_len h.plc.own
 obtain ⟨g,rfl,_,_,a0⟩ := h.plc.ptr hi
 have C1:Hid (Calls _ _ _ _ _) := sload_any sb pb _ w h.blk.cell.1.2.1 h.plc.box
 have a1:w.cell? ⟨pb,0,none⟩ = some (.slice (some ⟨g,0,none⟩) C.length c) := by
  have := h.plc.box
  simp [World.cell?,this]
 clear h
 generalize C[i].1 = cb at *
 generalize C.length = n at *
 go_enter Tryz.func81,Tryz.ntmps81
 go_wp2_with fail
 refine C1.out.mono ?_
 rintro e w2 ⟨rfl,hw⟩
 rw [hw]
 clear hw
 go_wp2_with fail
 go_ret
 exact ⟨rfl,rfl⟩

set_option maxHeartbeats 1000000 in
theorem place_out (s:Int) (w:World) (h:StX w B sb most pb ls dl dm pv tv C T sv wr M K) (hs:s < 0 ∨ (C.length:Int) ≤ s) (hl:C.length ≤ 65536) :
  Calls Tryz.prog 81 #[ptr1 sb,.int .i64 s] w fun e w' => (∃ cb,e = .returned (ptr1 cb) ∧ w.heap.size ≤ cb ∧ CelB w' cb none) ∧ Below w.heap.size w w' := by
 obtain ⟨p,c,rfl,_⟩ := owns_len h.plc.own
 have C1:Hid (Calls _ _ _ _ _) := sload_any sb pb _ w h.blk.cell.1.2.1 h.plc.box
 have C2:Hid (Calls _ _ _ _ _) := new_any w
 have a1:w.cell? ⟨pb,0,none⟩ = some (.slice p C.length c) := by
  have := h.plc.box
  simp [World.cell?,this]
 clear h
 generalize C.length = n at *
 rcases hs with hs | hs
 all_goals
  go_enter Tryz.func81,Tryz.ntmps81
  go_wp2_with fail
  refine C1.out.mono ?_
  rintro e w2 ⟨rfl,hw⟩
  rw [hw]
  clear hw
  go_wp2_with fail
  refine C2.out.mono ?_
  rintro e w3 ⟨rfl,h1,h2,h3⟩
  go_wp2_with fail
  go_ret
  exact ⟨⟨_,rfl,Nat.le_refl _,h1⟩,h3⟩
def getR (M:List Rs) (s:Int):Rs := if s < 0 then nilR else M.getD s.toNat nilR
theorem getR_at {M:List Rs} {i:Nat} {r:Rs} (h:M[i]? = some r):getR M (i:Int) = r := by
 unfold getR
 rw [if_neg (by omega),Int.toNat_natCast,List.getD_eq_getElem?_getD,h]
 rfl
theorem getR_out {M:List Rs} {s:Int} (h:s < 0 ∨ (M.length:Int) ≤ s):getR M s = nilR := by
 unfold getR
 rcases h with h | h
 ·rw [if_pos h]
 ·rw [if_neg (by omega),List.getD_eq_getElem?_getD,List.getElem?_eq_none (by omega)]
  rfl

set_option maxHeartbeats 2000000 in
theorem state_any (s:Int) (w:World) (h:StX w B sb most pb ls dl dm pv tv C T sv wr M K) (hl:C.length ≤ 65536) :
  Calls Tryz.prog 43 #[ptr1 sb,.int .i64 s] w fun e w' => (∃ v,e = .returned v ∧ StV w' v (getR M s)) ∧ Below w.heap.size w w' := by
 have HX1:Hid (stB (w.alloc (.cells #[.pointer none,.int .i64 0,.slice none 0 0] 125)) w.heap.size none 0 none 0 0) := Box.new w _ _
 have HB1:Hid (Below w.heap.size w (w.alloc (.cells #[.pointer none,.int .i64 0,.slice none 0 0] 125))) := (Below.refl _ _).alloc (Nat.le_refl _) _
 by_cases hs:s < 0 ∨ (C.length:Int) ≤ s
 ·have HG:Hid (getR M s = nilR) := getR_out (by rw [← h.plc.len]; exact hs)
  have C1:Hid (Calls _ _ _ _ _) := place_out s (w.alloc (.cells #[.pointer none,.int .i64 0,.slice none 0 0] 125)) (h.on HB1.out) hs hl
  clear h hs
  go_enter Tryz.func43,Tryz.ntmps43
  go_wp2_with fail
  generalize (w.alloc (.cells #[.pointer none,.int .i64 0,.slice none 0 0] 125)) = w1 at *
  refine C1.out.mono ?_
  rintro e w2 ⟨⟨cb,rfl,_,hc2⟩,hb2⟩
  have C2:Hid (Calls _ _ _ _ _) := load_none cb w2 hc2
  have HX2:Hid (stB w2 w.heap.size none 0 none 0 0) := HX1.out.on hb2
  have HB2:Hid (Below w.heap.size w w2) := HB1.out.trans (hb2.mono HB1.out.size)
  clear hc2 hb2 C1
  go_wp2_with fail
  refine C2.out.mono ?_
  rintro e w3 ⟨rfl,hb3⟩
  have hb3w:Below w.heap.size w w3 := HB2.out.trans (hb3.mono HB2.out.size)
  have hX3 := HX2.out.on hb3
  have hb4:Below w3.heap.size w3 (w3.alloc (.cells #[.pointer none,.int .i64 0,.slice none 0 0] 125)) := (Below.refl _ _).alloc (Nat.le_refl _) _
  have HX4:Hid (stB (w3.alloc (.cells #[.pointer none,.int .i64 0,.slice none 0 0] 125)) w.heap.size none 0 none 0 0 ∧ stB (w3.alloc (.cells #[.pointer none,.int .i64 0,.slice none 0 0] 125)) w3.heap.size none 0 none 0 0 ∧ Below w.heap.size w (w3.alloc (.cells #[.pointer none,.int .i64 0,.slice none 0 0] 125)) ∧ Imm w (w3.alloc (.cells #[.pointer none,.int .i64 0,.slice none 0 0] 125))) := ⟨hX3.on hb4,Box.new _ _ _,hb3w.trans (hb4.mono hb3w.size),Imm.of_below (hb3w.trans (hb4.mono hb3w.size))⟩
  obtain ⟨⟨x0,x1,x2⟩,x3,x4,x5⟩ := box3 HX4.out.1
  obtain ⟨⟨y0,y1,y2⟩,y3,y4,y5⟩ := box3 HX4.out.2.1
  clear hb3w hX3 hb4 hb3
  go_wp2_with fail
  generalize (w3.alloc (.cells #[.pointer none,.int .i64 0,.slice none 0 0] 125)) = w4 at *
  obtain ⟨hZ,hI,hF⟩ := st_store HX4.out.1 none 0 none 0 0
  generalize ((w4.setCell ⟨w.heap.size,0,none⟩ (.pointer none)).setCell ⟨w.heap.size,1,none⟩ (.int .i64 0)).setCell ⟨w.heap.size,2,none⟩ (.slice none 0 0) = w9 at *
  obtain ⟨⟨z0,z1,z2⟩,_⟩ := box3 hZ
  (try simp only [Exit.inBlock,Exit.then])
  refine bodyPost_ret (v := .agg #[.pointer none,.int .i64 0,.slice none 0 0]) (by simp [results,Tryz.results43,go_sem,z0,z1,z2]) rfl ?_
  exact ⟨⟨_,rfl,by rw [HG.out]; exact StV.nil _⟩,HX4.out.2.2.1.trans (hF.below HX4.out.2.2.1.size (fun k hk => by rw [hk]; exact Nat.le_refl _))⟩
 ·obtain ⟨i,rfl⟩:∃ i:Nat,s = (i:Int) := ⟨s.toNat,by omega⟩
  have hi:i < C.length := by omega
  have him:i < M.length := by rw [← h.plc.len]; exact hi
  have HG:Hid (getR M (i:Int) = M[i]) := getR_at (List.getElem?_eq_getElem him)
  obtain ⟨-,hp⟩ := h.plc.cel i C[i].1 C[i].2 M[i] (List.getElem?_eq_getElem hi) (List.getElem?_eq_getElem him)
  obtain ⟨g,p,q,c,hc1,hg1,hs1⟩ := hp
  have C1:Hid (Calls _ _ _ _ _) := place_ok i (w.alloc (.cells #[.pointer none,.int .i64 0,.slice none 0 0] 125)) (h.on HB1.out) hi hl
  have C2:Hid (Calls _ _ _ _ _) := load_any C[i].1 g C[i].2 1 p M[i].tx q M[i].W.length c none (w.alloc (.cells #[.pointer none,.int .i64 0,.slice none 0 0] 125)) (hc1.on HB1.out) ((HB1.out.block g (lt_of_block hg1)).trans hg1)
  have HS:Hid (StR w p q c M[i]) := hs1
  clear h hs hc1 hg1 hs1
  generalize C[i].1 = cb at *
  generalize C[i].2 = nn at *
  generalize M[i] = r at *
  obtain ⟨tx,htx⟩:∃ x,r.tx = x := ⟨_,rfl⟩
  obtain ⟨n,hn⟩:∃ x,r.W.length = x := ⟨_,rfl⟩
  rw [htx,hn] at C2
  go_enter Tryz.func43,Tryz.ntmps43
  go_wp2_with fail
  generalize (w.alloc (.cells #[.pointer none,.int .i64 0,.slice none 0 0] 125)) = w2 at *
  refine C1.out.mono ?_
  rintro e w9 ⟨rfl,hw⟩
  rw [hw]
  clear hw w9
  have HX2:Hid (stB w2 w.heap.size none 0 none 0 0) := HX1.out
  have HB2:Hid (Below w.heap.size w w2) := HB1.out
  clear C1
  go_wp2_with fail
  refine C2.out.mono ?_
  rintro e w3 ⟨rfl,hb3⟩
  have hb3w:Below w.heap.size w w3 := HB2.out.trans (hb3.mono HB2.out.size)
  have hX3 := HX2.out.on hb3
  have hb4:Below w3.heap.size w3 (w3.alloc (.cells #[.pointer p,.int .i64 tx,.slice q n c] 125)) := (Below.refl _ _).alloc (Nat.le_refl _) _
  have HX4:Hid (stB (w3.alloc (.cells #[.pointer p,.int .i64 tx,.slice q n c] 125)) w.heap.size none 0 none 0 0 ∧ stB (w3.alloc (.cells #[.pointer p,.int .i64 tx,.slice q n c] 125)) w3.heap.size p tx q n c ∧ Below w.heap.size w (w3.alloc (.cells #[.pointer p,.int .i64 tx,.slice q n c] 125)) ∧ Imm w (w3.alloc (.cells #[.pointer p,.int .i64 tx,.slice q n c] 125))) := ⟨hX3.on hb4,Box.new _ _ _,hb3w.trans (hb4.mono hb3w.size),Imm.of_below (hb3w.trans (hb4.mono hb3w.size))⟩
  obtain ⟨⟨x0,x1,x2⟩,x3,x4,x5⟩ := box3 HX4.out.1
  obtain ⟨⟨y0,y1,y2⟩,y3,y4,y5⟩ := box3 HX4.out.2.1
  clear hb3w hX3 hb4 hb3
  go_wp2_with fail
  generalize (w3.alloc (.cells #[.pointer p,.int .i64 tx,.slice q n c] 125)) = w4 at *
  obtain ⟨hZ,hI,hF⟩ := st_store HX4.out.1 p tx q n c
  generalize ((w4.setCell ⟨w.heap.size,0,none⟩ (.pointer p)).setCell ⟨w.heap.size,1,none⟩ (.int .i64 tx)).setCell ⟨w.heap.size,2,none⟩ (.slice q n c) = w9 at *
  obtain ⟨⟨z0,z1,z2⟩,_⟩ := box3 hZ
  (try simp only [Exit.inBlock,Exit.then])
  refine bodyPost_ret (v := .agg #[.pointer p,.int .i64 tx,.slice q n c]) (by simp [results,Tryz.results43,go_sem,z0,z1,z2]) rfl ?_
  exact ⟨⟨_,rfl,by rw [HG.out]; exact ⟨p,q,c,by simp only [stV,htx,hn],HS.out.imm (HX4.out.2.2.2.trans hI)⟩⟩,HX4.out.2.2.1.trans (hF.below HX4.out.2.2.1.size (fun k hk => by rw [hk]; exact Nat.le_refl _))⟩

theorem lockS (w:World) (h:StX w B sb most pb 0 dl dm pv tv C T sv wr M K) :
  Calls Tryz.prog 47 #[.pointer (some ⟨sb,2,none⟩)] w fun e w' => e = .returned (.tuple #[]) ∧ StX w' B sb most pb 1 dl dm pv tv C T sv wr M K ∧ Frm w w' (one1 sb) := by
 refine (Go.MuLone.lock_free muLib ⟨sb,2,none⟩ w h.blk.cell.1.2.2.1 (h.blk.cell.2 2)).mono ?_
 rintro e w' ⟨rfl,rfl⟩
 exact ⟨rfl,h.own (frm_set w sb 2 _ (.inl rfl)) (h.blk.set2 1),frm_set w sb 2 _ (.inl rfl)⟩
theorem unlockS (u:FrameMode) (w:World) (h:StX w B sb most pb 1 dl dm pv tv C T sv wr M K) :
  CallsD Tryz.prog 48 #[.pointer (some ⟨sb,2,none⟩)] u w fun e u' w' => u' = u ∧ e = .returned (.tuple #[]) ∧ StX w' B sb most pb 0 dl dm pv tv C T sv wr M K ∧ Frm w w' (one1 sb) := by
 refine (Go.MuLone.unlock_deferred muLib ⟨sb,2,none⟩ u w h.blk.cell.1.2.2.1 (h.blk.cell.2 2)).mono ?_
 rintro e u' w' ⟨rfl,rfl,rfl⟩
 exact ⟨rfl,rfl,h.own (frm_set w sb 2 _ (.inl rfl)) (h.blk.set2 0),frm_set w sb 2 _ (.inl rfl)⟩
theorem StX.deskc {w:World} (h:StX w B sb most pb ls dl dm pv tv C T sv wr M K) {d:Nat} (hd:d < 64):w.cell? ⟨sb,5 + d * 3,none⟩ = some (.int .i32 (dl d)) ∧ w.cell? ⟨sb,5 + d * 3 + 2,none⟩ = some (.map (dm d)) ∧ w.frozen? ⟨sb,5 + d * 3,none⟩ = false ∧ w.frozen? ⟨sb,5 + d * 3 + 2,none⟩ = false := by
 obtain ⟨h1,h2⟩ := h.blk.desk hd
 rw [show 5 + 3 * d = 5 + d * 3 by omega] at h1
 rw [show 7 + 3 * d = 5 + d * 3 + 2 by omega] at h2
 exact ⟨h1,h2,h.blk.cell.2 _,h.blk.cell.2 _⟩
theorem lockD (d:Nat) (hd:d < 64) (w:World) (h:StX w B sb most pb ls dl dm pv tv C T sv wr M K) (h0:dl d = 0) :
  Calls Tryz.prog 47 #[.pointer (some ⟨sb,5 + d * 3,none⟩)] w fun e w' => e = .returned (.tuple #[]) ∧ StX w' B sb most pb ls (updN dl d 1) dm pv tv C T sv wr M K ∧ Frm w w' (one1 sb) := by
 obtain ⟨h1,_,h3,_⟩ := h.deskc hd
 rw [h0] at h1
 refine (Go.MuLone.lock_free muLib ⟨sb,5 + d * 3,none⟩ w h1 h3).mono ?_
 rintro e w' ⟨rfl,rfl⟩
 have h9 := h.blk.setL hd 1
 rw [show 5 + 3 * d = 5 + d * 3 by omega] at h9
 exact ⟨rfl,h.own (frm_set w sb _ _ (.inl rfl)) h9,frm_set w sb _ _ (.inl rfl)⟩
theorem unlockD (d:Nat) (hd:d < 64) (u:FrameMode) (w:World) (h:StX w B sb most pb ls dl dm pv tv C T sv wr M K) (h0:dl d = 1) :
  CallsD Tryz.prog 48 #[.pointer (some ⟨sb,5 + d * 3,none⟩)] u w fun e u' w' => u' = u ∧ e = .returned (.tuple #[]) ∧ StX w' B sb most pb ls (updN dl d 0) dm pv tv C T sv wr M K ∧ Frm w w' (one1 sb) := by
 obtain ⟨h1,_,h3,_⟩ := h.deskc hd
 rw [h0] at h1
 refine (Go.MuLone.unlock_deferred muLib ⟨sb,5 + d * 3,none⟩ u w h1 h3).mono ?_
 rintro e u' w' ⟨rfl,rfl,rfl⟩
 have h9 := h.blk.setL hd 0
 rw [show 5 + 3 * d = 5 + d * 3 by omega] at h9
 exact ⟨rfl,rfl,h.own (frm_set w sb _ _ (.inl rfl)) h9,frm_set w sb _ _ (.inl rfl)⟩
theorem updN_back {f:Nat → Int} {d:Nat} {x:Int} (h:f d = 0):updN (updN f d x) d 0 = f := by
 funext k
 unfold updN
 by_cases e:k = d
 ·rw [if_pos e,e,h]
 ·rw [if_neg e,if_neg e]
end

end Go.Proofs.YtcibcfghkidncaaGreatDoor

namespace Go.Proofs.YtcibcfghkidncaaGreatDoor
open Go.RowKit
set_option maxRecDepth 100000

theorem at_drop {L:List Rw} {s:Int} {j:Nat} (hj:j < L.length) (hb:∀ i (hi:i < L.length),i < j → s < L[i].n) (h:L[j].n ≤ s):L[atN L s]? = some L[j] := by
 rw [atN_at hj hb h,List.getElem?_eq_getElem hj]
theorem at_end {L:List Rw} {s:Int} (hb:∀ i (hi:i < L.length),s < L[i].n):L[atN L s]? = none := by
 rw [atN_none hb,List.getElem?_eq_none (Nat.le_refl _)]
theorem see_of {L W:List Rw} {tx txn s:Int} {o:Option Rw} (h:L[atN L s]? = o):seeR o.toList W tx txn s = seeR L W tx txn s := by
 have e := see_one L W tx txn s
 rw [h] at e
 cases o <;> exact e
theorem shortR_one {v:Rw} (h:v.row.length ≤ 3518437208882):shortR [v] := shortR_cons (fun i hi => absurd hi (by simp)) h

def ptrP:Value → Option Addr
 | .pointer p => p
 | _ => none
theorem Pst.uniq {w:World}:∀ {L M:List Rw} {p:Option Addr},Pst w p L → Pst w p M → L.length = M.length
 | [],[],_,_,_ => rfl
 | [],_ :: _,_,h,h' => by
  obtain ⟨g,q,c,nx,e,_⟩ := h'
  cases h
  cases e
 | _ :: _,[],_,h,h' => by
  obtain ⟨g,q,c,nx,e,_⟩ := h
  cases h'
  cases e
 | v :: L,u :: M,_,h,h' => by
  obtain ⟨g,q,c,nx,rfl,h1,_,h2⟩ := h
  obtain ⟨g',q',c',nx',e,h1',_,h2'⟩ := h'
  injection e with e
  injection e with e
  subst e
  rw [h1] at h1'
  injection h1' with e1
  injection e1 with e1
  have e2 := congrArg (fun a => a[3]?) e1
  simp at e2
  subst e2
  have := h2.uniq h2'
  simp [this]
open Classical in
noncomputable def pstN (w:World) (p:Option Addr):Nat := if h:∃ L,Pst w p L then (Classical.choose h).length else 0
theorem pstN_eq {w:World} {p:Option Addr} {L:List Rw} (h:Pst w p L):pstN w p = L.length := by
 have hex:∃ L,Pst w p L := ⟨L,h⟩
 unfold pstN
 rw [dif_pos hex]
 exact (Classical.choose_spec hex).uniq h
theorem rd_one {w:World} {b:Nat} {n:Int} {g:Bool} {q:Option Addr} {l c:Nat} {row:List Vl} (hx:Box w b #[.int .u64 n,.bool g,.slice q l c] 81) (hl:row.length = l) (hr:SlV w w.heap.size (.slice q l c) row):RdR .u64 w w.heap.size (some ⟨b,0,none⟩) [⟨n,g,row⟩] := one_rd hx hl hr

set_option maxHeartbeats 4000000 in
theorem see_st (p q:Option Addr) (c K:Nat) (r:Rs) (txn s:Int) (w:World) (h:StR w p q c r) (hk:OkR K r) (hK:K ≤ 3518437208882) :
  Calls Tryz.prog 44 #[stV p q c r,.int .i64 txn,.int .u64 s] w fun e w' => (∃ v',e = .returned (.tuple #[v',.bool (shwB (seeR r.L r.W r.tx txn s))]) ∧ OwnV w' w.heap.size v' (shwL (seeR r.L r.W r.tx txn s))) ∧ Below w.heap.size w w' := by
 obtain ⟨L,tx,W⟩ := r
 have HP:Hid (Pst w p L) := h.pst
 have HR:Hid (∀ w1,Imm w w1 → RdR .i64 w1 w1.heap.size q W) := fun w1 h1 => h.rd.imm h1
 have HL:Hid (L.length ≤ K ∧ shortR L) := ⟨hk.nL,hk.sL⟩
 have HW:Hid (W.length ≤ K ∧ shortR W) := ⟨hk.nW,hk.sW⟩
 have C0:Hid (∀ w1,Imm w w1 → Calls Tryz.prog 83 #[.slice none 0 0,.agg #[.int .i64 tx,.slice q W.length c],.int .i64 txn,.int .u64 s] w1 fun e w' => (∃ v',e = .returned (.tuple #[v',.bool (shwB (seeR [] W tx txn s))]) ∧ OwnV w' w1.heap.size v' (shwL (seeR [] W tx txn s))) ∧ Below w1.heap.size w1 w') := fun w1 h1 => see_any [] W none q 0 c tx txn s w1 (RdR.nil _ _ _) (HR.out w1 h1) (by simp) (by have := HW.out.1; omega) (fun i hi => absurd hi (by simp)) HW.out.2
 have C1:Hid (∀ w1 v b,Imm w w1 → RdR .u64 w1 w1.heap.size (some ⟨b,0,none⟩) [v] → v.row.length ≤ 3518437208882 → Calls Tryz.prog 83 #[.slice (some ⟨b,0,none⟩) 1 1,.agg #[.int .i64 tx,.slice q W.length c],.int .i64 txn,.int .u64 s] w1 fun e w' => (∃ v',e = .returned (.tuple #[v',.bool (shwB (seeR [v] W tx txn s))]) ∧ OwnV w' w1.heap.size v' (shwL (seeR [v] W tx txn s))) ∧ Below w1.heap.size w1 w') := fun w1 v b h1 h2 h3 => see_any [v] W (some ⟨b,0,none⟩) q 1 c tx txn s w1 h2 (HR.out w1 h1) (by simp) (by have := HW.out.1; omega) (shortR_one h3) HW.out.2
 clear h hk
 simp only [stV] at *
 generalize hn:W.length = n at *
 obtain ⟨HX,HB,HS⟩ := one_new w #[.pointer p,.int .i64 tx,.slice q n c] 125
 have HX1:Hid (Box (w.alloc (.cells #[.pointer p,.int .i64 tx,.slice q n c] 125)) w.heap.size #[.pointer p,.int .i64 tx,.slice q n c] 125) := HX
 have HB1:Hid (Below w.heap.size w (w.alloc (.cells #[.pointer p,.int .i64 tx,.slice q n c] 125))) := HB
 have hs1:w.heap.size < (w.alloc (.cells #[.pointer p,.int .i64 tx,.slice q n c] 125)).heap.size := by rw [HS]; omega
 obtain ⟨⟨x0,x1,x2⟩,x3,x4,x5⟩ := box3 HX
 clear HX HB HS
 have HSE:Hid (∀ o:Option Rw,L[atN L s]? = o → seeR o.toList W tx txn s = seeR L W tx txn s) := fun o ho => see_of ho
 go_enter Tryz.func44,Tryz.ntmps44
 go_wp2_with fail
 generalize (w.alloc (.cells #[.pointer p,.int .i64 tx,.slice q n c] 125)) = w1 at *
 go_loopw [8] (fun i wr => wr = w1 ∧ ∃ (j:Nat) (px:Option Addr),j ≤ L.length ∧ i = .pointer px ∧ Hid (Pst w1 px (L.drop j)) ∧ Hid (∀ i (hi:i < L.length),i < j → s < L[i].n)) (fun i _ => pstN w1 (ptrP i))
 case atStart => exact ⟨rfl,0,p,Nat.zero_le _,rfl,HP.out.imm (Imm.of_below HB1.out),fun i hi h0 => absurd h0 (by omega)⟩
 case round =>
  obtain ⟨hww,j,px,hj,rfl,hP,hA⟩ := hrel
  rw [hww]
  clear hww
  have HIw:Hid (Imm w w1) := Imm.of_below HB1.out
  by_cases hj0:j = L.length
  ·have hP' := hP.out
   rw [hj0,List.drop_length] at hP'
   cases hP'
   have HE:Hid (seeR [] W tx txn s = seeR L W tx txn s) := HSE.out none (at_end (fun i hi => hA.out i hi (by omega)))
   clear hP hA HSE
   go_wp2_with fail
   refine (C0.out _ HIw.out).mono ?_
   rintro e w3 ⟨⟨v3,rfl,hv3⟩,hb3⟩
   go_wp2_with fail
   go_ret2
   rw [← HE.out]
   exact ⟨⟨_,rfl,hv3.base HB1.out.size⟩,HB1.out.trans (hb3.mono HB1.out.size)⟩
  ·have hj1:j < L.length := by omega
   have hP' := hP.out
   have hpn:Hid (pstN w1 px = (L.drop j).length) := pstN_eq hP.out
   rw [List.drop_eq_getElem_cons hj1] at hP'
   obtain ⟨g,q1,d1,nx,rfl,hg,hs3,hP2⟩ := hP'
   have HP2:Hid (Pst w1 nx (L.drop (j + 1))) := hP2
   have hgl := lt_of_block hg
   have a0:w1.cell? ⟨g,0,none⟩ = some (.int .u64 L[j].n) := by simp [World.cell?,hg]
   have a1:w1.cell? ⟨g,1,none⟩ = some (.bool L[j].gn) := by simp [World.cell?,hg]
   have a2:w1.cell? ⟨g,2,none⟩ = some (.slice q1 L[j].row.length d1) := by simp [World.cell?,hg]
   have a3:w1.cell? ⟨g,3,none⟩ = some (.pointer nx) := by simp [World.cell?,hg]
   by_cases hlt:s < L[j].n
   ·have HA2:Hid (∀ i (hi:i < L.length),i < j + 1 → s < L[i].n) := fun i hi h0 => by
     rcases Nat.lt_succ_iff_lt_or_eq.1 h0 with h1 | rfl
     ·exact hA.out i hi h1
     ·exact hlt
    have hm2:Hid (pstN w1 nx = (L.drop (j + 1)).length) := pstN_eq HP2.out
    clear hP hA hg hs3 hP2 hj0 HSE
    generalize L[j].n = yn at *
    generalize L[j].gn = yg at *
    generalize L[j].row.length = yl at *
    go_wp2_with fail
    go_roundw
    case rel => exact ⟨trivial,j + 1,nx,hj1,rfl,HP2,HA2⟩
    case measure => simp only [ptrP]; rw [hm2.out,hpn.out]; simp; omega
   ·have HE:Hid (seeR [L[j]] W tx txn s = seeR L W tx txn s) := HSE.out (some L[j]) (at_drop hj1 (fun i hi h0 => hA.out i hi h0) (by omega))
    have HS:Hid (SlV w1 w1.heap.size (.slice q1 L[j].row.length d1) L[j].row) := hs3
    have HSh:Hid (L[j].row.length ≤ 3518437208882) := HL.out.2 j hj1
    have hlt':L[j].n ≤ s := by omega
    clear hP hA hg hs3 hP2 hj0 HSE hlt hpn HP2 C0
    generalize L[j] = y at *
    obtain ⟨yn,yg,yr⟩ := y
    obtain ⟨yl,hyl⟩:∃ x,yr.length = x := ⟨_,rfl⟩
    simp only [hyl] at a0 a1 a2 HS HSh hlt'
    have WV:∀ w2,w2 = (w1.alloc (.cells #[.int .u64 yn,.bool yg,.slice q1 yl d1] 81)).drew → Imm w w2 ∧ RdR .u64 w2 w2.heap.size (some ⟨w1.heap.size,0,none⟩) [⟨yn,yg,yr⟩] := by
     rintro w2 rfl
     have hb:Below w1.heap.size w1 (w1.alloc (.cells #[.int .u64 yn,.bool yg,.slice q1 yl d1] 81)).drew := by go_grown
     exact ⟨HIw.out.trans (Imm.of_below hb),rd_one (Box.new w1 _ _) hyl (HS.out.imm (Imm.of_below hb))⟩
    have HWV:Hid _ := WV
    clear WV
    go_wp2_with fail
    have HBd:Hid (Below w.heap.size w (w1.alloc (.cells #[.int .u64 yn,.bool yg,.slice q1 yl d1] 81)).drew) := by
     show Below _ _ _
     have := HB1.out
     have h9 := HB1.out.size
     go_grown
    go_region_with (first | (go_at_call 83; refine (C1.out _ ⟨yn,yg,yr⟩ _ (HWV.out _ rfl).1 (HWV.out _ rfl).2 (by show yr.length ≤ _; rw [hyl]; exact HSh.out)).mono ?_; rintro e w3 ⟨⟨v3,rfl,hv3⟩,hb3⟩))
    all_goals
     go_wp2_with fail
     go_ret2
     rw [← HE.out]
     exact ⟨⟨_,rfl,hv3.base HBd.out.size⟩,HBd.out.trans (hb3.mono HBd.out.size)⟩

end Go.Proofs.YtcibcfghkidncaaGreatDoor
