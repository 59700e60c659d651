/- A place of a row's states: Load, Push, Keep, put. A place of a row's states: Push, Keep, put. Boxes of states: what is stored, what stays. Walks over a row's state: there, newer, last. -/
import Derived.Test.YtcibcfghkidncaaGreatDoorGWImm
import Derived.Test.YtcibcfghkidncaaGreatDoorGMAny9
import Derived.Test.YtcibcfghkidncaaGreatDoorGWQuiet
import Derived.Test.YtcibcfghkidncaaGreatDoorGFChn8
namespace Go.Proofs.YtcibcfghkidncaaGreatDoor
open Go.RowKit
set_option maxRecDepth 100000

abbrev itO (a:Option Addr) (tx:Int) (q:Option Addr) (n c:Nat) (m k:Nat) (nx:Option Addr):Obj := .cells #[.pointer a,.int .i64 tx,.slice q n c,.int .u64 (m:Nat),.int .i64 (k:Nat),.pointer nx] 196 (0,0)
def Top (w:World) (x:Option Addr) (m k:Nat):Prop := (x = none ∧ m = 0 ∧ k = 0) ∨ ∃ g a tx q n c nx,x = some ⟨g,0,none⟩ ∧ w.heap[g]? = some (itO a tx q n c m k nx)
theorem Top.imm {w w':World} {x:Option Addr} {m k:Nat} (h:Top w x m k) (hi:Imm w w'):Top w' x m k := by
 rcases h with h | ⟨g,a,tx,q,n,c,nx,e,h⟩
 ·exact .inl h
 ·exact .inr ⟨g,a,tx,q,n,c,nx,e,item_imm h hi⟩
theorem Top.some {w:World} {g:Nat} {a:Option Addr} {tx:Int} {q:Option Addr} {n c m k:Nat} {nx:Option Addr} (h:w.heap[g]? = some (itO a tx q n c m k nx)):Top w (some ⟨g,0,none⟩) m k := .inr ⟨g,a,tx,q,n,c,nx,rfl,h⟩
def CelB (w:World) (cb:Nat) (x:Option Addr):Prop := w.heap[cb]? = some (.cells #[.pointer x] 193 (0,0))
theorem CelB.cell {w:World} {cb:Nat} {x:Option Addr} (h:CelB w cb x):w.cell? ⟨cb,0,none⟩ = some (.pointer x) := by
 unfold CelB at h
 simp [World.cell?,h]
theorem CelB.frozen {w:World} {cb:Nat} {x:Option Addr} (h:CelB w cb x):w.frozen? ⟨cb,0,none⟩ = false := by
 unfold CelB at h
 simp [World.frozen?,h]
theorem CelB.lt {w:World} {cb:Nat} {x:Option Addr} (h:CelB w cb x):cb < w.heap.size := lt_of_block h
theorem CelB.on {w w':World} {cb:Nat} {x:Option Addr} (h:CelB w cb x) (hb:Below w.heap.size w w'):CelB w' cb x := (hb.block cb h.lt).trans h
theorem CelB.set {w:World} {cb:Nat} {x:Option Addr} (h:CelB w cb x) (y:Option Addr):CelB (w.setCell ⟨cb,0,none⟩ (.pointer y)) cb y := by
 unfold CelB at *
 rw [heap_set_same w cb 0 _ _ _ _ h]
 rfl
theorem CelB.mut {w:World} {cb:Nat} {x:Option Addr} (h:CelB w cb x):MutB w cb := by
 intro cs T z hk
 unfold CelB at h
 rw [h] at hk
 cases hk
 refine ⟨⟨fun j k n b h1 h2 => ?_,fun j q f h1 => ?_⟩,by decide⟩
 ·rcases j with _ | j <;> simp at h1
 ·rcases j with _ | j <;> simp at h1

theorem info_it:∃ j,Tryz.prog.info? 196 = some j ∧ j.size ≠ 0 := by
 have h:((Tryz.prog.info? 196).map (fun i => decide (i.size ≠ 0))) = some true := by kernel_rfl
 obtain ⟨j,hj,h2⟩ := Option.map_eq_some_iff.1 h
 exact ⟨j,hj,by simpa using h2⟩
theorem lies_it:liesAt Tryz.prog Tryz.prog.depth 196 (6 / Tryz.prog.cellsOf 196) 0 196 1 = true := by kernel_rfl
theorem Top.from {w:World} {x:Option Addr} {m k:Nat} (h:Top w x m k):(convert 87 188 (.pointer x)).run Tryz.prog w = .ok (.pointer x) w := by
 rcases h with ⟨rfl,_,_⟩ | ⟨g,a,tx,q,n,c,nx,rfl,h3⟩
 ·exact from_raw_none Tryz.underlying87 Tryz.underlying188
 ·obtain ⟨j,hj,_⟩ := info_it
  exact from_raw ⟨g,0,none⟩ Tryz.underlying87 Tryz.underlying188 hj (e := 196) (cells := 6) (by simp [World.shape?,h3]) lies_it
theorem Top.to {w:World} {x:Option Addr} {m k:Nat} (h:Top w x m k):(convert 188 87 (.pointer x)).run Tryz.prog w = .ok (.pointer x) w := by
 rcases h with ⟨rfl,_,_⟩ | ⟨g,a,tx,q,n,c,nx,rfl,h3⟩
 ·exact to_raw_none Tryz.underlying188 Tryz.underlying87
 ·obtain ⟨j,hj,hs⟩ := info_it
  exact to_raw ⟨g,0,none⟩ Tryz.underlying188 Tryz.underlying87 hj hs (e := 196) (cells := 6) (by simp [World.shape?,h3]) (show 0 < 6 by decide)

theorem pload_any (cb m k:Nat) (x:Option Addr) (w:World) (h:CelB w cb x) (ht:Top w x m k) :
  Calls Tryz.prog 109 #[.pointer (some ⟨cb,0,none⟩)] w fun e w' => e = .returned (.pointer x) ∧ w' = w := by
 have hl := run_call_loadp (P := Tryz.prog) Tryz.func134 (by kernel_rfl) (by kernel_rfl) (by kernel_rfl) (by kernel_rfl) h.cell
 have hc := ht.from
 clear h ht
 go_enter Tryz.func109,Tryz.ntmps109
 go_wp2
 go_ret
 exact ⟨rfl,rfl⟩
theorem pcas_any (cb m k m' k':Nat) (x y:Option Addr) (w:World) (h:CelB w cb x) (ht:Top w x m k) (hy:Top w y m' k') :
  Calls Tryz.prog 153 #[.pointer (some ⟨cb,0,none⟩),.pointer x,.pointer y] w fun e w' => e = .returned (.bool true) ∧ w' = w.setCell ⟨cb,0,none⟩ (.pointer y) := by
 have hl := run_call_casp_hit (P := Tryz.prog) Tryz.func158 (by kernel_rfl) (by kernel_rfl) (by kernel_rfl) (by kernel_rfl) (q := y) h.cell h.frozen
 have hc := ht.to
 have hd := hy.to
 clear h ht hy
 go_enter Tryz.func153,Tryz.ntmps153
 go_wp2
 go_ret
 exact ⟨rfl,rfl⟩
theorem place_any (m k:Nat) (x:Option Addr) (w:World) (h:Top w x m k) :
  Calls Tryz.prog 152 #[.pointer x] w fun e w' => e = .returned (.int .u64 (m:Nat)) ∧ w' = w := by
 rcases h with ⟨rfl,rfl,rfl⟩ | ⟨g,a,tx,q,n,c,nx,rfl,h3⟩
 ·go_enter Tryz.func152,Tryz.ntmps152
  go_wp2
  go_ret
  exact ⟨rfl,rfl⟩
 ·have h1:w.cell? ⟨g,3,none⟩ = some (.int .u64 (m:Nat)) := by simp [World.cell?,h3]
  clear h3
  go_enter Tryz.func152,Tryz.ntmps152
  go_wp2
  go_ret
  exact ⟨rfl,rfl⟩
theorem kept_any (m k:Nat) (x:Option Addr) (w:World) (h:Top w x m k) :
  Calls Tryz.prog 155 #[.pointer x] w fun e w' => e = .returned (.int .i64 (k:Nat)) ∧ w' = w := by
 rcases h with ⟨rfl,rfl,rfl⟩ | ⟨g,a,tx,q,n,c,nx,rfl,h3⟩
 ·go_enter Tryz.func155,Tryz.ntmps155
  go_wp2
  go_ret
  exact ⟨rfl,rfl⟩
 ·have h1:w.cell? ⟨g,4,none⟩ = some (.int .i64 (k:Nat)) := by simp [World.cell?,h3]
  clear h3
  go_enter Tryz.func155,Tryz.ntmps155
  go_wp2
  go_ret
  exact ⟨rfl,rfl⟩

theorem new_any (w:World) :
  Calls Tryz.prog 108 #[] w fun e w' => e = .returned (.pointer (some ⟨w.heap.size,0,none⟩)) ∧ CelB w' w.heap.size none ∧ w'.heap.size = w.heap.size + 1 ∧ Below w.heap.size w w' := by
 go_enter Tryz.func108,Tryz.ntmps108
 go_wp2_with fail
 go_ret
 exact ⟨rfl,heap_alloc_new _ _,by simp,by go_grown⟩

set_option maxHeartbeats 1000000 in
theorem load_none (cb:Nat) (w:World) (h:CelB w cb none) :
  Calls Tryz.prog 82 #[.pointer (some ⟨cb,0,none⟩)] w fun e w' => e = .returned (.tuple #[.agg #[.pointer none,.int .i64 0,.slice none 0 0],.int .u64 0]) ∧ Below w.heap.size w w' := by
 have HC:Hid (∀ w1,Below w.heap.size w w1 → Calls Tryz.prog 109 #[.pointer (some ⟨cb,0,none⟩)] w1 fun e w' => e = .returned (.pointer none) ∧ w' = w1) := fun w1 hb => pload_any cb 0 0 none w1 (h.on hb) (.inl ⟨rfl,rfl,rfl⟩)
 clear h
 go_enter Tryz.func82,Tryz.ntmps82
 go_wp2_with fail
 refine (HC.out _ (by go_grown)).mono ?_
 rintro e w2 ⟨rfl,hw⟩
 rw [hw]
 clear hw
 go_wp2_with fail
 refine bodyPost_ret (v := .tuple #[.agg #[.pointer none,.int .i64 0,.slice none 0 0],.int .u64 0]) (by simp [results,Tryz.results82,go_sem]) rfl ?_
 exact ⟨rfl,by go_grown⟩

set_option maxHeartbeats 2000000 in
theorem load_any (cb g m k:Nat) (a:Option Addr) (tx:Int) (q:Option Addr) (n c:Nat) (nx:Option Addr) (w:World) (h:CelB w cb (some ⟨g,0,none⟩)) (hg:w.heap[g]? = some (itO a tx q n c m k nx)) :
  Calls Tryz.prog 82 #[.pointer (some ⟨cb,0,none⟩)] w fun e w' => e = .returned (.tuple #[(.agg #[.pointer a,.int .i64 tx,.slice q n c]),.int .u64 (m:Nat)]) ∧ Below w.heap.size w w' := by
 have HC:Hid (∀ w1,Below w.heap.size w w1 → Calls Tryz.prog 109 #[.pointer (some ⟨cb,0,none⟩)] w1 fun e w' => e = .returned (.pointer (some ⟨g,0,none⟩)) ∧ w' = w1) := fun w1 hb => pload_any cb m k _ w1 (h.on hb) (Top.some ((hb.block g (lt_of_block hg)).trans hg))
 have hgl := lt_of_block hg
 have c0:w.cell? ⟨g,0,none⟩ = some (.pointer a) := by simp [World.cell?,hg]
 have c1:w.cell? ⟨g,1,none⟩ = some (.int .i64 tx) := by simp [World.cell?,hg]
 have c2:w.cell? ⟨g,2,none⟩ = some (.slice q n c) := by simp [World.cell?,hg]
 have c3:w.cell? ⟨g,3,none⟩ = some (.int .u64 (m:Nat)) := by simp [World.cell?,hg]
 clear h hg
 go_enter Tryz.func82,Tryz.ntmps82
 go_wp2_with fail
 refine (HC.out _ (by go_grown)).mono ?_
 rintro e w2 ⟨rfl,hw⟩
 rw [hw]
 clear hw
 go_wp2_with fail
 go_region
 all_goals
  go_wp2_with fail
  refine bodyPost_ret (v := .tuple #[(.agg #[.pointer a,.int .i64 tx,.slice q n c]),.int .u64 (m:Nat)]) (by simp [results,Tryz.results82,go_sem]) rfl ?_
  exact ⟨rfl,by go_grown⟩

end Go.Proofs.YtcibcfghkidncaaGreatDoor

namespace Go.Proofs.YtcibcfghkidncaaGreatDoor
open Go.RowKit
set_option maxRecDepth 100000

set_option maxHeartbeats 2000000 in
theorem with_any (m k:Nat) (x:Option Addr) (a:Option Addr) (tx:Int) (q:Option Addr) (n c:Nat) (w:World) (h:Top w x m k) (hm:m + 1 < 18446744073709551616) (hk:k + 1 < 9223372036854775808) :
  Calls Tryz.prog 154 #[.pointer x,(.agg #[.pointer a,.int .i64 tx,.slice q n c])] w fun e w' => (∃ g,e = .returned (.pointer (some ⟨g,0,none⟩)) ∧ w.heap.size ≤ g ∧ w'.heap[g]? = some (itO a tx q n c (m + 1) (k + 1) x)) ∧ Below w.heap.size w w' := by
 have L1:Below w.heap.size w (w.alloc (.cells #[.pointer a,.int .i64 tx,.slice q n c] 125)) := (Below.refl _ _).alloc (Nat.le_refl _) _
 have c0:(w.alloc (.cells #[.pointer a,.int .i64 tx,.slice q n c] 125)).cell? ⟨w.heap.size,0,none⟩ = some (.pointer a) := by simp [go_sem]
 have c1:(w.alloc (.cells #[.pointer a,.int .i64 tx,.slice q n c] 125)).cell? ⟨w.heap.size,1,none⟩ = some (.int .i64 tx) := by simp [go_sem]
 have c2:(w.alloc (.cells #[.pointer a,.int .i64 tx,.slice q n c] 125)).cell? ⟨w.heap.size,2,none⟩ = some (.slice q n c) := by simp [go_sem]
 have HT:Hid (∀ d,Top ((w.alloc (.cells #[.pointer a,.int .i64 tx,.slice q n c] 125)).drewN d) x m k) := fun d => h.imm (Imm.of_below (below_drewN L1 d))
 have C1:Hid (∀ d,Calls Tryz.prog 152 #[.pointer x] ((w.alloc (.cells #[.pointer a,.int .i64 tx,.slice q n c] 125)).drewN d) fun e w' => e = .returned (.int .u64 (m:Nat)) ∧ w' = (w.alloc (.cells #[.pointer a,.int .i64 tx,.slice q n c] 125)).drewN d) := fun d => place_any m k x _ (HT.out d)
 have C2:Hid (∀ d,Calls Tryz.prog 155 #[.pointer x] ((w.alloc (.cells #[.pointer a,.int .i64 tx,.slice q n c] 125)).drewN d) fun e w' => e = .returned (.int .i64 (k:Nat)) ∧ w' = (w.alloc (.cells #[.pointer a,.int .i64 tx,.slice q n c] 125)).drewN d) := fun d => kept_any m k x _ (HT.out d)
 have HL:Hid (Below w.heap.size w (w.alloc (.cells #[.pointer a,.int .i64 tx,.slice q n c] 125))) := L1
 clear h L1 HT
 have e1:((m + 1:Nat):Int) = (m:Int) + 1 := by omega
 have e2:((k + 1:Nat):Int) = (k:Int) + 1 := by omega
 unfold itO
 rw [e1,e2]
 clear e1 e2
 have W1:IntKind.u64.wrap ((m:Int) + 1) = (m:Int) + 1 := by simp [IntKind.wrap,IntKind.signed,IntKind.bits]; omega
 have W2:IntKind.i64.wrap ((k:Int) + 1) = (k:Int) + 1 := by simp [IntKind.wrap,IntKind.signed,IntKind.bits]; omega
 go_enter Tryz.func154,Tryz.ntmps154
 go_wp2_with fail
 generalize (w.alloc (.cells #[.pointer a,.int .i64 tx,.slice q n c] 125)) = w1 at *
 go_region_with (first | (go_at_call 152; refine (C1.out 1).mono ?_; rintro e w2 ⟨rfl,hw⟩; rw [hw]; clear hw) | (go_at_call 155; refine (C2.out 1).mono ?_; rintro e w2 ⟨rfl,hw⟩; rw [hw]; clear hw))
 all_goals
  go_wp2_with fail
  go_ret
  try rw [W1,W2]
  exact ⟨⟨_,rfl,HL.out.size,heap_alloc_new (w1.drewN 1) _⟩,(below_drewN HL.out 1).alloc HL.out.size _⟩

set_option maxHeartbeats 2000000 in
theorem cut_one (g m k:Nat) (a:Option Addr) (tx:Int) (q:Option Addr) (n c:Nat) (nx:Option Addr) (w:World) (hg:w.heap[g]? = some (itO a tx q n c m k nx)) :
  Calls Tryz.prog 156 #[.pointer (some ⟨g,0,none⟩),.int .i64 1] w fun e w' => (∃ g',e = .returned (.pointer (some ⟨g',0,none⟩)) ∧ w.heap.size ≤ g' ∧ w'.heap[g']? = some (itO a tx q n c m 1 none)) ∧ Below w.heap.size w w' := by
 have c0:w.cell? ⟨g,0,none⟩ = some (.pointer a) := by simp [World.cell?,hg]
 have c1:w.cell? ⟨g,1,none⟩ = some (.int .i64 tx) := by simp [World.cell?,hg]
 have c2:w.cell? ⟨g,2,none⟩ = some (.slice q n c) := by simp [World.cell?,hg]
 have c3:w.cell? ⟨g,3,none⟩ = some (.int .u64 (m:Nat)) := by simp [World.cell?,hg]
 have hgl := lt_of_block hg
 clear hg
 go_enter Tryz.func156,Tryz.ntmps156
 go_wp2_with fail
 go_region
 all_goals
  go_wp2_with fail
  go_loopw [6] (fun l wr => l = .pointer (some ⟨w.heap.size,0,none⟩) ∧ wr = (w.alloc (.cells #[.pointer a,.int .i64 tx,.slice q n c,.int .u64 (m:Nat),.int .i64 1,.pointer none] 196)).drew) (fun _ _ => 0)
  case atStart => exact ⟨rfl,rfl⟩
  case round =>
   obtain ⟨rfl,hrel⟩ := hrel
   rw [hrel]
   clear hrel
   go_wp2
   go_ret
   exact ⟨⟨_,rfl,Nat.le_refl _,heap_alloc_new _ _⟩,by go_grown⟩

set_option maxHeartbeats 4000000 in
theorem push_hit (cb m k:Nat) (x:Option Addr) (a:Option Addr) (tx:Int) (q:Option Addr) (n c:Nat) (w:World) (h:CelB w cb x) (ht:Top w x m k) (hm:m + 1 < 18446744073709551616) (hk:k + 1 < 9223372036854775808) :
  Calls Tryz.prog 135 #[.pointer (some ⟨cb,0,none⟩),.int .u64 (m:Nat),(.agg #[.pointer a,.int .i64 tx,.slice q n c])] w fun e w' => e = .returned (.bool true) ∧ (∃ g,w.heap.size ≤ g ∧ CelB w' cb (some ⟨g,0,none⟩) ∧ w'.heap[g]? = some (itO a tx q n c (m + 1) (k + 1) x)) ∧ Frm w w' (one1 cb) := by
 have L1:Below w.heap.size w (w.alloc (.cells #[.pointer a,.int .i64 tx,.slice q n c] 125)) := (Below.refl _ _).alloc (Nat.le_refl _) _
 have c0:(w.alloc (.cells #[.pointer a,.int .i64 tx,.slice q n c] 125)).cell? ⟨w.heap.size,0,none⟩ = some (.pointer a) := by simp [go_sem]
 have c1:(w.alloc (.cells #[.pointer a,.int .i64 tx,.slice q n c] 125)).cell? ⟨w.heap.size,1,none⟩ = some (.int .i64 tx) := by simp [go_sem]
 have c2:(w.alloc (.cells #[.pointer a,.int .i64 tx,.slice q n c] 125)).cell? ⟨w.heap.size,2,none⟩ = some (.slice q n c) := by simp [go_sem]
 have HB:Hid (∀ w1,Below w.heap.size w w1 → CelB w1 cb x) := fun w1 hb => h.on hb
 have HT:Hid (∀ w1,Below w.heap.size w w1 → Top w1 x m k) := fun w1 hb => ht.imm (Imm.of_below hb)
 have C1:Hid (∀ w1,Below w.heap.size w w1 → Calls Tryz.prog 109 #[.pointer (some ⟨cb,0,none⟩)] w1 fun e w' => e = .returned (.pointer x) ∧ w' = w1) := fun w1 hb => pload_any cb m k x w1 (HB.out w1 hb) (HT.out w1 hb)
 have C2:Hid (∀ w1,Below w.heap.size w w1 → Calls Tryz.prog 152 #[.pointer x] w1 fun e w' => e = .returned (.int .u64 (m:Nat)) ∧ w' = w1) := fun w1 hb => place_any m k x w1 (HT.out w1 hb)
 have C3:Hid (∀ w1,Below w.heap.size w w1 → Calls Tryz.prog 154 #[.pointer x,(.agg #[.pointer a,.int .i64 tx,.slice q n c])] w1 fun e w' => (∃ g,e = .returned (.pointer (some ⟨g,0,none⟩)) ∧ w1.heap.size ≤ g ∧ w'.heap[g]? = some (itO a tx q n c (m + 1) (k + 1) x)) ∧ Below w1.heap.size w1 w') := fun w1 hb => with_any m k x a tx q n c w1 (HT.out w1 hb) hm hk
 have C4:Hid (∀ w1 g,Below w.heap.size w w1 → w1.heap[g]? = some (itO a tx q n c (m + 1) (k + 1) x) → Calls Tryz.prog 153 #[.pointer (some ⟨cb,0,none⟩),.pointer x,.pointer (some ⟨g,0,none⟩)] w1 fun e w' => e = .returned (.bool true) ∧ w' = w1.setCell ⟨cb,0,none⟩ (.pointer (some ⟨g,0,none⟩))) := fun w1 g hb hg => pcas_any cb m k (m + 1) (k + 1) x _ w1 (HB.out w1 hb) (HT.out w1 hb) (Top.some hg)
 have HL:Hid (Below w.heap.size w (w.alloc (.cells #[.pointer a,.int .i64 tx,.slice q n c] 125))) := L1
 clear h ht L1 HT
 go_enter Tryz.func135,Tryz.ntmps135
 go_wp2_with fail
 generalize (w.alloc (.cells #[.pointer a,.int .i64 tx,.slice q n c] 125)) = w1 at *
 go_loopw [] (fun wr => wr = w1) (fun _ => 0)
 case atStart => rfl
 case round =>
  rw [hrel]
  clear hrel
  go_wp2_with fail
  refine (C1.out _ HL.out).mono ?_
  rintro e w2 ⟨rfl,hw⟩
  rw [hw]
  clear hw
  go_wp2_with fail
  refine (C2.out _ HL.out).mono ?_
  rintro e w2 ⟨rfl,hw⟩
  rw [hw]
  clear hw
  go_wp2_with fail
  refine wp_region_any (by kernel_rfl) ?_
  change wpAny _ _ _ _ _ _ _ (World.drew _)
  refine tk (v := ?_) 0 rfl ?_ ?_
  rotate_left
  focus
   intro w9
   go_simp
   try with_reducible rfl
  try simp only [aP]
  refine tk (v := ?_) 1 rfl ?_ ?_
  rotate_left
  focus
   intro w9
   go_simp
   try with_reducible rfl
  try simp only [aP]
  refine tk (v := ?_) 2 rfl ?_ ?_
  rotate_left
  focus
   intro w9
   go_simp
   try with_reducible rfl
  try simp only [aP]
  refine tk (v := ?_) 3 rfl ?_ ?_
  rotate_left
  focus
   intro w9
   go_simp
   try with_reducible rfl
  try simp only [aP]
  refine tk (v := ?_) 4 rfl ?_ ?_
  rotate_left
  focus
   intro w9
   go_simp
   try with_reducible rfl
  try simp only [aP]
  refine wpAny_ready (rs := [5]) (by kernel_rfl) (by simp) ?_
  refine anyN_cons 5 rfl (by rfl) (fun K hK => ?_) AllReady.nil
  go_simp
  refine hK.out _ _ ?_
  clear hK K
  try simp only [aP]
  refine wpAny_ready (rs := [6]) (by kernel_rfl) (by simp) ?_
  refine anyN_cons 6 rfl (by rfl) (fun K hK => ?_) AllReady.nil
  go_simp
  refine (C3.out _ (below_drewN HL.out 1)).mono ?_
  rintro e w3 ⟨⟨g,rfl,hg1,hg2⟩,hb3⟩
  dsimp only
  have hb4:Below w.heap.size w w3 := (below_drewN HL.out 1).trans (hb3.mono HL.out.size)
  refine hK.out _ _ ?_
  clear hK K
  try simp only [aP]
  refine wpAny_ready (rs := [7]) (by kernel_rfl) (by simp) ?_
  refine anyN_cons 7 rfl (by rfl) (fun K hK => ?_) AllReady.nil
  go_simp
  refine (C4.out _ g hb4 hg2).mono ?_
  rintro e w4 ⟨rfl,hw⟩
  dsimp only
  rw [hw]
  clear hw
  refine hK.out _ _ ?_
  clear hK K
  try simp only [aP]
  refine wpAny_done (by kernel_rfl) ?_ _
  go_wp2_with fail
  go_ret
  have hgs:w.heap.size ≤ g := Nat.le_trans HL.out.size hg1
  have hcb := (HB.out _ hb4)
  have hne:g ≠ cb := by
   intro e
   rw [e] at hg2
   unfold CelB at hcb
   rw [hcb] at hg2
   cases hg2
  exact ⟨rfl,⟨g,hgs,hcb.set _,(heap_set_other _ _ _ _ _ hne).trans hg2⟩,(Frm.of_below hb4).trans (frm_set _ _ _ _ (F := one1 cb) (.inl rfl)) (fun k hk => .inl hk)⟩

set_option maxHeartbeats 2000000 in
theorem keep_one (cb m:Nat) (x:Option Addr) (w:World) (h:CelB w cb x) (ht:Top w x m 1) :
  Calls Tryz.prog 136 #[.pointer (some ⟨cb,0,none⟩),.int .u64 (m:Nat),.int .i64 1] w fun e w' => e = .returned (.bool true) ∧ Below w.heap.size w w' := by
 have C1:Hid (Calls _ _ _ _ _) := pload_any cb m 1 x w h ht
 have C2:Hid (Calls _ _ _ _ _) := place_any m 1 x w ht
 have C3:Hid (∀ n,Calls Tryz.prog 155 #[.pointer x] (w.drewN n) fun e w' => e = .returned (.int .i64 ((1:Nat):Int)) ∧ w' = w.drewN n) := fun n => kept_any m 1 x _ (ht.imm (Imm.of_below (below_drewN (Below.refl _ _) n)))
 clear h ht
 go_enter Tryz.func136,Tryz.ntmps136
 go_wp2_with fail
 go_loopw [] (fun wr => wr = w) (fun _ => 0)
 case atStart => rfl
 case round =>
  rw [hrel]
  clear hrel
  go_wp2_with fail
  refine C1.out.mono ?_
  rintro e w2 ⟨rfl,hw⟩
  rw [hw]
  clear hw
  go_wp2_with fail
  refine C2.out.mono ?_
  rintro e w2 ⟨rfl,hw⟩
  rw [hw]
  clear hw
  go_wp2_with fail
  go_quiet (first | (go_at_call 155; exact Calls.quiet_of_same (C3.out _)))
  go_wp2_with fail
  go_ret
  exact ⟨rfl,below_drewN (Below.refl _ _) _⟩

set_option maxHeartbeats 4000000 in
theorem keep_cut (cb g m:Nat) (a:Option Addr) (tx:Int) (q:Option Addr) (n c:Nat) (nx:Option Addr) (w:World) (h:CelB w cb (some ⟨g,0,none⟩)) (hg:w.heap[g]? = some (itO a tx q n c m 2 nx)) :
  Calls Tryz.prog 136 #[.pointer (some ⟨cb,0,none⟩),.int .u64 (m:Nat),.int .i64 1] w fun e w' => e = .returned (.bool true) ∧ (∃ g',w.heap.size ≤ g' ∧ CelB w' cb (some ⟨g',0,none⟩) ∧ w'.heap[g']? = some (itO a tx q n c m 1 none)) ∧ Frm w w' (one1 cb) := by
 have ht:Top w (some ⟨g,0,none⟩) m 2 := Top.some hg
 have C1:Hid (Calls _ _ _ _ _) := pload_any cb m 2 _ w h ht
 have C2:Hid (Calls _ _ _ _ _) := place_any m 2 _ w ht
 have hd:Below w.heap.size w w.drew := by go_grown
 have C3:Hid (Calls _ _ _ _ _) := kept_any m 2 _ w.drew (ht.imm (Imm.of_below hd))
 have C4:Hid (Calls _ _ _ _ _) := cut_one g m 2 a tx q n c nx w.drew ((hd.block g (lt_of_block hg)).trans hg)
 have HB:Hid (∀ w1,Below w.heap.size w w1 → CelB w1 cb (some ⟨g,0,none⟩)) := fun w1 hb => h.on hb
 have C5:Hid (∀ w1 g',Below w.heap.size w w1 → w1.heap[g']? = some (itO a tx q n c m 1 none) → Calls Tryz.prog 153 #[.pointer (some ⟨cb,0,none⟩),.pointer (some ⟨g,0,none⟩),.pointer (some ⟨g',0,none⟩)] w1 fun e w' => e = .returned (.bool true) ∧ w' = w1.setCell ⟨cb,0,none⟩ (.pointer (some ⟨g',0,none⟩))) := fun w1 g' hb hg' => pcas_any cb m 2 m 1 _ _ w1 (h.on hb) (ht.imm (Imm.of_below hb)) (Top.some hg')
 have HD:Hid (Below w.heap.size w w.drew) := hd
 clear h ht hg hd
 go_enter Tryz.func136,Tryz.ntmps136
 go_wp2_with fail
 go_loopw [] (fun wr => wr = w) (fun _ => 0)
 case atStart => rfl
 case round =>
  rw [hrel]
  clear hrel
  go_wp2_with fail
  refine C1.out.mono ?_
  rintro e w2 ⟨rfl,hw⟩
  rw [hw]
  clear hw
  go_wp2_with fail
  refine C2.out.mono ?_
  rintro e w2 ⟨rfl,hw⟩
  rw [hw]
  clear hw
  go_wp2_with fail
  refine wp_region_any (by kernel_rfl) ?_
  change wpAny _ _ _ _ _ _ _ (World.drew _)
  refine tk (v := ?_) 0 rfl ?_ ?_
  rotate_left
  focus
   intro w9
   go_simp
   try with_reducible rfl
  try simp only [aP]
  refine tk (v := ?_) 2 rfl ?_ ?_
  rotate_left
  focus
   intro w9
   go_simp
   try with_reducible rfl
  try simp only [aP]
  refine wpAny_ready (rs := [1]) (by kernel_rfl) (by simp) ?_
  refine anyN_cons 1 rfl (by rfl) (fun K hK => ?_) AllReady.nil
  go_simp
  refine C3.out.mono ?_
  rintro e w3 ⟨rfl,hw⟩
  dsimp only
  rw [hw]
  clear hw
  refine hK.out _ _ ?_
  clear hK K
  try simp only [aP]
  refine tk (v := ?_) 3 rfl ?_ ?_
  rotate_left
  focus
   intro w9
   go_simp
   try with_reducible rfl
  try simp only [aP]
  refine tk (v := ?_) 4 rfl ?_ ?_
  rotate_left
  focus
   intro w9
   go_simp
   try with_reducible rfl
  try simp only [aP]
  refine tk (v := ?_) 5 rfl ?_ ?_
  rotate_left
  focus
   intro w9
   go_simp
   try with_reducible rfl
  try simp only [aP]
  refine tk (v := ?_) 6 rfl ?_ ?_
  rotate_left
  focus
   intro w9
   go_simp
   try with_reducible rfl
  try simp only [aP]
  refine tk (v := ?_) 7 rfl ?_ ?_
  rotate_left
  focus
   intro w9
   go_simp
   try with_reducible rfl
  try simp only [aP]
  refine tk (v := ?_) 8 rfl ?_ ?_
  rotate_left
  focus
   intro w9
   go_simp
   try with_reducible rfl
  try simp only [aP]
  refine tk (v := ?_) 9 rfl ?_ ?_
  rotate_left
  focus
   intro w9
   go_simp
   try with_reducible rfl
  try simp only [aP]
  refine tk (v := ?_) 10 rfl ?_ ?_
  rotate_left
  focus
   intro w9
   go_simp
   try with_reducible rfl
  try simp only [aP]
  refine wpAny_ready (rs := [11]) (by kernel_rfl) (by simp) ?_
  refine anyN_cons 11 rfl (by rfl) (fun K hK => ?_) AllReady.nil
  go_simp
  refine C4.out.mono ?_
  rintro e w3 ⟨⟨g',rfl,hg1,hg2⟩,hb3⟩
  dsimp only
  have hb4:Below w.heap.size w w3 := HD.out.trans (hb3.mono (Nat.le_refl _))
  refine hK.out _ _ ?_
  clear hK K
  try simp only [aP]
  refine wpAny_ready (rs := [12]) (by kernel_rfl) (by simp) ?_
  refine anyN_cons 12 rfl (by rfl) (fun K hK => ?_) AllReady.nil
  go_simp
  refine (C5.out _ g' hb4 hg2).mono ?_
  rintro e w4 ⟨rfl,hw⟩
  dsimp only
  rw [hw]
  clear hw
  refine hK.out _ _ ?_
  clear hK K
  try simp only [aP]
  refine tk (v := ?_) 13 rfl ?_ ?_
  rotate_left
  focus
   intro w9
   go_simp
   try with_reducible rfl
  try simp only [aP]
  refine wpAny_done (by kernel_rfl) ?_ _
  go_wp2_with fail
  go_ret
  have hcb := (HB.out _ hb4)
  have hne:g' ≠ cb := by
   intro e
   rw [e] at hg2
   unfold CelB at hcb
   rw [hcb] at hg2
   cases hg2
  exact ⟨rfl,⟨g',hg1,hcb.set _,(heap_set_other _ _ _ _ _ hne).trans hg2⟩,(Frm.of_below hb4).trans (frm_set _ _ _ _ (F := one1 cb) (.inl rfl)) (fun k hk => .inl hk)⟩

set_option maxHeartbeats 2000000 in
theorem cput_none (cb:Nat) (a:Option Addr) (tx:Int) (q:Option Addr) (n c:Nat) (w:World) (h:CelB w cb none) :
  Calls Tryz.prog 98 #[.pointer (some ⟨cb,0,none⟩),.int .u64 0,(.agg #[.pointer a,.int .i64 tx,.slice q n c])] w fun e w' => e = .returned (.bool true) ∧ (∃ g,w.heap.size ≤ g ∧ CelB w' cb (some ⟨g,0,none⟩) ∧ w'.heap[g]? = some (itO a tx q n c 1 1 none)) ∧ Frm w w' (one1 cb) := by
 have L1:Below w.heap.size w (w.alloc (.cells #[.pointer a,.int .i64 tx,.slice q n c] 125)) := (Below.refl _ _).alloc (Nat.le_refl _) _
 have c0:(w.alloc (.cells #[.pointer a,.int .i64 tx,.slice q n c] 125)).cell? ⟨w.heap.size,0,none⟩ = some (.pointer a) := by simp [go_sem]
 have c1:(w.alloc (.cells #[.pointer a,.int .i64 tx,.slice q n c] 125)).cell? ⟨w.heap.size,1,none⟩ = some (.int .i64 tx) := by simp [go_sem]
 have c2:(w.alloc (.cells #[.pointer a,.int .i64 tx,.slice q n c] 125)).cell? ⟨w.heap.size,2,none⟩ = some (.slice q n c) := by simp [go_sem]
 have C1:Hid (Calls _ _ _ _ _) := push_hit cb 0 0 none a tx q n c (w.alloc (.cells #[.pointer a,.int .i64 tx,.slice q n c] 125)) (h.on L1) (.inl ⟨rfl,rfl,rfl⟩) (by decide) (by decide)
 have HL:Hid (Below w.heap.size w (w.alloc (.cells #[.pointer a,.int .i64 tx,.slice q n c] 125))) := L1
 clear h L1
 go_enter Tryz.func98,Tryz.ntmps98
 go_wp2_with fail
 generalize (w.alloc (.cells #[.pointer a,.int .i64 tx,.slice q n c] 125)) = w1 at *
 refine C1.out.mono ?_
 rintro e w2 ⟨rfl,⟨g,hg1,hg2,hg3⟩,hf2⟩
 have C2:Hid (Calls _ _ _ _ _) := keep_one cb 1 _ w2 hg2 (Top.some hg3)
 have HF:Hid (Frm w w2 (one1 cb)) := (Frm.of_below HL.out).trans hf2 (fun k hk => .inl hk)
 have HG:Hid (w.heap.size ≤ g ∧ CelB w2 cb (some ⟨g,0,none⟩) ∧ w2.heap[g]? = some (itO a tx q n c 1 1 none)) := ⟨Nat.le_trans HL.out.size hg1,hg2,hg3⟩
 clear hg1 hg2 hg3 hf2 C1 c0 c1 c2
 go_wp2_with fail
 refine C2.out.mono ?_
 rintro e w3 ⟨rfl,hb3⟩
 go_wp2_with fail
 go_ret
 obtain ⟨h1,h2,h3⟩ := HG.out
 exact ⟨rfl,⟨g,h1,h2.on hb3,(hb3.block g (lt_of_block h3)).trans h3⟩,HF.out.trans (Frm.of_below (F := one1 cb) hb3) (fun k hk => .inl hk)⟩

set_option maxHeartbeats 2000000 in
theorem cput_any (cb g0 m:Nat) (a0:Option Addr) (tx0:Int) (q0:Option Addr) (n0 d0:Nat) (nx:Option Addr) (a:Option Addr) (tx:Int) (q:Option Addr) (n c:Nat) (w:World) (h:CelB w cb (some ⟨g0,0,none⟩)) (hg0:w.heap[g0]? = some (itO a0 tx0 q0 n0 d0 m 1 nx)) (hm:m + 2 < 18446744073709551616) :
  Calls Tryz.prog 98 #[.pointer (some ⟨cb,0,none⟩),.int .u64 (m:Nat),(.agg #[.pointer a,.int .i64 tx,.slice q n c])] w fun e w' => e = .returned (.bool true) ∧ (∃ g,w.heap.size ≤ g ∧ CelB w' cb (some ⟨g,0,none⟩) ∧ w'.heap[g]? = some (itO a tx q n c (m + 1) 1 none)) ∧ Frm w w' (one1 cb) := by
 have L1:Below w.heap.size w (w.alloc (.cells #[.pointer a,.int .i64 tx,.slice q n c] 125)) := (Below.refl _ _).alloc (Nat.le_refl _) _
 have c0:(w.alloc (.cells #[.pointer a,.int .i64 tx,.slice q n c] 125)).cell? ⟨w.heap.size,0,none⟩ = some (.pointer a) := by simp [go_sem]
 have c1:(w.alloc (.cells #[.pointer a,.int .i64 tx,.slice q n c] 125)).cell? ⟨w.heap.size,1,none⟩ = some (.int .i64 tx) := by simp [go_sem]
 have c2:(w.alloc (.cells #[.pointer a,.int .i64 tx,.slice q n c] 125)).cell? ⟨w.heap.size,2,none⟩ = some (.slice q n c) := by simp [go_sem]
 have C1:Hid (Calls _ _ _ _ _) := push_hit cb m 1 _ a tx q n c (w.alloc (.cells #[.pointer a,.int .i64 tx,.slice q n c] 125)) (h.on L1) ((Top.some hg0).imm (Imm.of_below L1)) (by omega) (by decide)
 have HL:Hid (Below w.heap.size w (w.alloc (.cells #[.pointer a,.int .i64 tx,.slice q n c] 125))) := L1
 clear h L1 hg0
 go_enter Tryz.func98,Tryz.ntmps98
 go_wp2_with fail
 generalize (w.alloc (.cells #[.pointer a,.int .i64 tx,.slice q n c] 125)) = w1 at *
 refine C1.out.mono ?_
 rintro e w2 ⟨rfl,⟨g,hg1,hg2,hg3⟩,hf2⟩
 have C2:Hid (Calls _ _ _ _ _) := keep_cut cb g (m + 1) a tx q n c _ w2 hg2 hg3
 have HF:Hid (Frm w w2 (one1 cb)) := (Frm.of_below HL.out).trans hf2 (fun k hk => .inl hk)
 have e1:((m + 1:Nat):Int) = (m:Int) + 1 := by omega
 rw [e1] at C2
 clear hg1 hg2 hg3 hf2 C1 c0 c1 c2 e1
 go_wp2_with fail
 refine C2.out.mono ?_
 rintro e w3 ⟨rfl,⟨g',k1,k2,k3⟩,hf3⟩
 go_wp2_with fail
 go_ret
 exact ⟨rfl,⟨g',Nat.le_trans HF.out.size k1,k2,k3⟩,HF.out.trans hf3 (fun k hk => .inl hk)⟩

end Go.Proofs.YtcibcfghkidncaaGreatDoor

namespace Go.Proofs.YtcibcfghkidncaaGreatDoor
open Go.RowKit
set_option maxRecDepth 100000

theorem Box.frm {w w':World} {g:Nat} {vs:Array Value} {T:TypeId} {F:Nat → Prop} (h:Box w g vs T) (hf:Frm w w' F) (hn:¬ F g):Box w' g vs T := (hf.block g h.lt hn).trans h
theorem Box.mut {w:World} {g:Nat} {vs:Array Value} {T:TypeId} (h:Box w g vs T) (hp:Pln vs) (hT:T ∉ immT):MutB w g := by
 intro cs T' z hk
 unfold Box at h
 rw [h] at hk
 cases hk
 exact ⟨hp,hT⟩
theorem pln1 (a:Value) (h:∀ q f,a ≠ .float q f):Pln #[a] := by
 refine ⟨fun j k n b h1 h2 => ?_,fun j q f h1 => ?_⟩
 ·rcases j with _ | j <;> simp at h2
 ·rcases j with _ | j
  ·simp at h1; exact h q f h1
  ·simp at h1
theorem pln2 (k:IntKind) (n:Int) (p:Option Addr) (l c:Nat):Pln #[.int k n,.slice p l c] := by
 refine ⟨fun j k n b h1 h2 => ?_,fun j q f h1 => ?_⟩
 ·rcases j with _ | _ | j <;> simp at h1 h2
 ·rcases j with _ | _ | j <;> simp at h1
theorem pln3 (x:Option Addr) (t:Int) (q:Option Addr) (n c:Nat):Pln #[.pointer x,.int .i64 t,.slice q n c] := by
 refine ⟨fun j k n b h1 h2 => ?_,fun j q f h1 => ?_⟩
 ·rcases j with _ | _ | _ | j <;> simp at h1 h2
 ·rcases j with _ | _ | _ | j <;> simp at h1
abbrev stB (w:World) (g:Nat) (x:Option Addr) (t:Int) (q:Option Addr) (n c:Nat):Prop := Box w g #[.pointer x,.int .i64 t,.slice q n c] 125
theorem imm_set {w:World} {g i:Nat} {vs:Array Value} {T:TypeId} (h:Box w g vs T) (hp:Pln vs) (hT:T ∉ immT) (x:Value):Imm w (w.setCell ⟨g,i,none⟩ x) :=
 Imm.of_frm (frm_set w g i x (F := one1 g) (.inl rfl)) (fun k hk => by rw [hk]; exact h.mut hp hT)
theorem stT : 125 ∉ immT := by decide
theorem st_store {w:World} {g:Nat} {x:Option Addr} {t:Int} {q:Option Addr} {n c:Nat} (h:stB w g x t q n c) (x':Option Addr) (t':Int) (q':Option Addr) (n' c':Nat) :
  stB (((w.setCell ⟨g,0,none⟩ (.pointer x')).setCell ⟨g,1,none⟩ (.int .i64 t')).setCell ⟨g,2,none⟩ (.slice q' n' c')) g x' t' q' n' c' ∧ Imm w (((w.setCell ⟨g,0,none⟩ (.pointer x')).setCell ⟨g,1,none⟩ (.int .i64 t')).setCell ⟨g,2,none⟩ (.slice q' n' c')) ∧ Frm w (((w.setCell ⟨g,0,none⟩ (.pointer x')).setCell ⟨g,1,none⟩ (.int .i64 t')).setCell ⟨g,2,none⟩ (.slice q' n' c')) (one1 g) := by
 have h1 := h.set (i := 0) (.pointer x')
 have h2 := h1.set (i := 1) (.int .i64 t')
 have h3 := h2.set (i := 2) (.slice q' n' c')
 refine ⟨h3,?_,?_⟩
 ·exact ((imm_set h (pln3 ..) stT _).trans (imm_set h1 (pln3 x' t q n c) stT _)).trans (imm_set h2 (pln3 x' t' q n c) stT _)
 ·exact ((frm_set w g 0 _ (F := one1 g) (.inl rfl)).trans (frm_set _ g 1 _ (F := one1 g) (.inl rfl)) (fun k hk => .inl hk)).trans (frm_set _ g 2 _ (F := one1 g) (.inl rfl)) (fun k hk => .inl hk)
theorem st_int {w:World} {g:Nat} {x:Option Addr} {t:Int} {q:Option Addr} {n c:Nat} (h:stB w g x t q n c) (t':Int) (q':Option Addr) (n' c':Nat) :
  stB ((w.setCell ⟨g,1,none⟩ (.int .i64 t')).setCell ⟨g,2,none⟩ (.slice q' n' c')) g x t' q' n' c' ∧ Imm w ((w.setCell ⟨g,1,none⟩ (.int .i64 t')).setCell ⟨g,2,none⟩ (.slice q' n' c')) ∧ Frm w ((w.setCell ⟨g,1,none⟩ (.int .i64 t')).setCell ⟨g,2,none⟩ (.slice q' n' c')) (one1 g) := by
 have h1 := h.set (i := 1) (.int .i64 t')
 have h2 := h1.set (i := 2) (.slice q' n' c')
 refine ⟨h2,?_,?_⟩
 ·exact (imm_set h (pln3 ..) stT _).trans (imm_set h1 (pln3 x t' q n c) stT _)
 ·exact (frm_set w g 1 _ (F := one1 g) (.inl rfl)).trans (frm_set _ g 2 _ (F := one1 g) (.inl rfl)) (fun k hk => .inl hk)
theorem st_ptr {w:World} {g:Nat} {x:Option Addr} {t:Int} {q:Option Addr} {n c:Nat} (h:stB w g x t q n c) (x':Option Addr) :
  stB (w.setCell ⟨g,0,none⟩ (.pointer x')) g x' t q n c ∧ Imm w (w.setCell ⟨g,0,none⟩ (.pointer x')) ∧ Frm w (w.setCell ⟨g,0,none⟩ (.pointer x')) (one1 g) :=
 ⟨h.set (i := 0) (.pointer x'),imm_set h (pln3 ..) stT _,frm_set w g 0 _ (.inl rfl)⟩
theorem two_new (w:World) (vs us:Array Value) (T U:TypeId):Box ((w.alloc (.cells vs T)).alloc (.cells us U)) w.heap.size vs T ∧ Box ((w.alloc (.cells vs T)).alloc (.cells us U)) (w.heap.size + 1) us U ∧ Below w.heap.size w ((w.alloc (.cells vs T)).alloc (.cells us U)) ∧ ((w.alloc (.cells vs T)).alloc (.cells us U)).heap.size = w.heap.size + 2 := by
 have hs:(w.alloc (.cells vs T)).heap.size = w.heap.size + 1 := by simp
 refine ⟨(Box.new w vs T).on ((Below.refl _ _).alloc (Nat.le_refl _) _),?_,by go_grown,by simp⟩
 have := Box.new (w.alloc (.cells vs T)) us U
 rw [hs] at this
 exact this
theorem one_new (w:World) (vs:Array Value) (T:TypeId):Box (w.alloc (.cells vs T)) w.heap.size vs T ∧ Below w.heap.size w (w.alloc (.cells vs T)) ∧ (w.alloc (.cells vs T)).heap.size = w.heap.size + 1 := ⟨Box.new w vs T,by go_grown,by simp⟩

end Go.Proofs.YtcibcfghkidncaaGreatDoor

namespace Go.Proofs.YtcibcfghkidncaaGreatDoor
open Go.RowKit
set_option maxRecDepth 100000

set_option maxHeartbeats 1000000 in
theorem there_any (p q:Option Addr) (c:Nat) (r:Rs) (w:World) (h:Pst w p r.L) :
  Calls Tryz.prog 52 #[stV p q c r] w fun e w' => e = .returned (.bool (thr r)) ∧ Below w.heap.size w w' := by
 have hn:thr r = (!p.isNone || decide (r.tx ≠ 0)) := by unfold thr; rw [h.ne]
 rw [hn]
 clear hn h
 unfold stV
 generalize r.tx = tx
 generalize r.W.length = n
 cases p with
 | none =>
  go_enter Tryz.func52,Tryz.ntmps52
  go_wp2
  go_ret
  exact ⟨by by_cases h0:tx = 0 <;> simp [h0,bne],by go_grown⟩
 | some a =>
  go_enter Tryz.func52,Tryz.ntmps52
  go_wp2
  go_ret
  exact ⟨by simp,by go_grown⟩

set_option maxHeartbeats 1000000 in
theorem newer_any (p q:Option Addr) (c:Nat) (r:Rs) (s:Int) (w:World) (h:Pst w p r.L) :
  Calls Tryz.prog 74 #[stV p q c r,.int .u64 s] w fun e w' => e = .returned (.bool (newr r s)) ∧ Below w.heap.size w w' := by
 obtain ⟨L,tx,W⟩ := r
 obtain ⟨n,hW⟩:∃ n,W.length = n := ⟨_,rfl⟩
 cases L with
 | nil =>
  cases h
  show Calls _ _ _ _ fun e w' => e = .returned (.bool false) ∧ _
  simp only [stV,hW]
  go_enter Tryz.func74,Tryz.ntmps74
  go_wp2
  go_ret
  exact ⟨by simp,by go_grown⟩
 | cons v L =>
  obtain ⟨g,q1,c1,nx,rfl,hg,_⟩ := h
  show Calls _ _ _ _ fun e w' => e = .returned (.bool (decide (s < v.n))) ∧ _
  simp only [stV,hW]
  have hgl := lt_of_block hg
  have c0:w.cell? ⟨g,0,none⟩ = some (.int .u64 v.n) := by simp [World.cell?,hg]
  clear hg
  generalize v.n = m at *
  go_enter Tryz.func74,Tryz.ntmps74
  go_wp2
  go_ret
  exact ⟨by simp,by go_grown⟩

set_option maxHeartbeats 2000000 in
theorem last_any (p q:Option Addr) (c:Nat) (r:Rs) (v:Rw) (w:World) (h:RdR .i64 w w.heap.size q r.W) (hv:lastW r = some v) (hl:r.W.length ≤ 17592186043904) :
  Calls Tryz.prog 88 #[stV p q c r] w fun e w' => (∃ qv cv,e = .returned (.agg #[.int .i64 v.n,.bool v.gn,.slice qv v.row.length cv]) ∧ SlV w w.heap.size (.slice qv v.row.length cv) v.row) ∧ Below w.heap.size w w' := by
 obtain ⟨L,tx,W⟩ := r
 obtain ⟨hi,rfl⟩ := List.getElem?_eq_some_iff.1 hv
 obtain ⟨m,hm⟩:∃ m,W.length = m + 1 := ⟨W.length - 1,by have:W.length - 1 < W.length := hi; omega⟩
 obtain ⟨b,o,qv,cv,rfl,hb,c0,c1,c2,hr,hq⟩ := h (W.length - 1) hi
 have HS:Hid (SlV w w.heap.size (.slice qv (W[W.length - 1]'hi).row.length cv) (W[W.length - 1]'hi).row) := ⟨qv,cv,rfl,hr,hq⟩
 have e1:W.length - 1 = m := by omega
 have hl':m + 1 ≤ 17592186043904 := by have:W.length ≤ 17592186043904 := hl; omega
 simp only [e1] at c0 c1 c2 HS ⊢
 simp only [stV,hm]
 clear h hv hl hr hq
 generalize (W[m]'(by omega)).n = vn at *
 generalize (W[m]'(by omega)).gn = vg at *
 generalize (W[m]'(by omega)).row = vr at *
 have e2:((m + 1:Nat):Int) - 1 = (m:Int) := by omega
 go_enter Tryz.func88,Tryz.ntmps88
 go_wp2
 refine bodyPost_ret (v := .agg #[.int .i64 vn,.bool vg,.slice qv vr.length cv]) (by simp [results,Tryz.results88,go_sem]) rfl ?_
 exact ⟨⟨_,_,rfl,HS.out⟩,by go_grown⟩

end Go.Proofs.YtcibcfghkidncaaGreatDoor
