/- Layer 13: tell: once for all, what became of a taker. -/
import Derived.Test.YtcdamalpecedcaaGreatWGp14
import Derived.Test.YtcdamalpecedcaaGreatWMu
import Derived.Conc.EventLaws
import Derived.Defers
import Derived.RegionCalls
import Derived.Laws.LoneSync
namespace Go.Proofs.YtcdamalpecedcaaGreat
open Go.RowKit
set_option maxRecDepth 100000

/-- a taker's cells, its lock too -/
abbrev tkL (t : Nat) (va vo vh : Value) (ch : Nat) (told : Int) (d : Nat) (l : Int) (sm : Nat) : Array Value := #[.int .u64 (t : Nat), va, vo, vh, .chan (some ch), .int .i64 told, .int .u32 (d : Nat), .int .i32 l, .int .u32 (sm : Nat)]
/-- a channel that is closed in its place -/
def clsW (w : World) (ch : Nat) : World := { w with heap := w.heap.setIfInBounds ch (.chan 0 #[] true 0 0 false) }
theorem cls_ch {w : World} {ch : Nat} (h : ChM w ch false) : ChM (clsW w ch) ch true := by
  unfold ChM clsW
  simp [h.lt]
theorem cls_frm (w : World) (ch : Nat) : Frm w (clsW w ch) (fun k => k = ch) := by
  refine ⟨rfl, rfl, rfl, by simp [clsW], fun k hk hn => ?_⟩
  unfold clsW
  rw [Array.getElem?_setIfInBounds, if_neg (fun e => hn e.symm)]
theorem cls_blk {w : World} {ch b : Nat} {cs : Array Value} {T : TypeId} (h : Blk w b cs T) (hn : b ≠ ch) : Blk (clsW w ch) b cs T := h.frm (cls_frm w ch) hn

set_option maxHeartbeats 4000000 in
theorem tellf_any (op tp tb ch t d sm : Nat) (l told0 told : Int) (va vo vh : Value) (w : World) (ho : w.cell? ⟨op, 0, none⟩ = some (.int .i64 told)) (ht : w.cell? ⟨tp, 0, none⟩ = some (ptr1 tb)) (hB : Blk w tb (tkL t va vo vh ch told0 d l sm) 97) (hC : ChM w ch false) (hn : tp ≠ tb) :
    Calls Tryz.prog 58 #[.pointer (some ⟨op, 0, none⟩), .pointer (some ⟨tp, 0, none⟩)] w fun e w' => e = .returned (.tuple #[]) ∧ w' = clsW (w.setCell ⟨tb, 5, none⟩ (.int .i64 told)) ch := by
  have b5 := Blk.cell (i := 5) hB rfl
  have f5 := hB.frozen 5
  have hB2 := hB.set 5 (.int .i64 told)
  have c4 := Blk.cell (i := 4) hB2 rfl
  have ht2 : (w.setCell ⟨tb, 5, none⟩ (.int .i64 told)).cell? ⟨tp, 0, none⟩ = some (ptr1 tb) := (World.cell?_setCell_other _ ⟨tb, 5, none⟩ ⟨tp, 0, none⟩ _ (fun h => hn (by injection h with h1; exact h1.symm))).trans ht
  have hC2 : ChM (w.setCell ⟨tb, 5, none⟩ (.int .i64 told)) ch false := by
    refine (heap_set_other w tb 5 ch _ (fun e => ?_)).trans hC
    subst e
    unfold Blk at hB
    unfold ChM at hC
    rw [hB] at hC
    cases hC
  have hcl : ∀ ats ty, (Builtin.close_ ats ty #[.chan (some ch)]).run Tryz.prog (w.setCell ⟨tb, 5, none⟩ (.int .i64 told)) = .ok (.tuple #[]) (clsW (w.setCell ⟨tb, 5, none⟩ (.int .i64 told)) ch) := fun ats ty => run_close_open ats ty hC2
  clear hB hC hB2 hC2
  go_enter Tryz.func58, Tryz.ntmps58
  go_wp2_with fail
  go_end0
  exact ⟨rfl, rfl⟩

theorem store_d (a : Addr) (x : Value) (u : FrameMode) (w : World) (hc : w.cell? a = some x) (hz : w.frozen? a = false) :
    CallsD Tryz.prog 80 #[.pointer (some a), .bool true] u w fun e u' w' => u' = u ∧ (e = .returned (.tuple #[]) ∧ w' = w.drew.setCell a (.int .u32 1)) := by
  have hc' : w.drew.cell? a = some x := by go_simp
  have hz' : w.drew.frozen? a = false := by go_simp
  have hst := run_call_store (P := Tryz.prog) Tryz.func88 (by kernel_rfl) (by kernel_rfl) (by kernel_rfl) (by kernel_rfl) (k := .u32) (y := 1) hc' hz'
  go_enter_d Tryz.func80, Tryz.ntmps80
  go_wp2
  go_region_calls
  all_goals (go_end0; exact ⟨rfl, rfl⟩)

theorem bload_any (b i : Nat) (d : Nat) (w : World) (h : w.cell? ⟨b, i, none⟩ = some (.int .u32 (d : Nat))) :
    Calls Tryz.prog 66 #[.pointer (some ⟨b, i, none⟩)] w fun e w' => e = .returned (.bool (decide (d ≠ 0))) ∧ w' = w := by
  have hl := run_call_load (P := Tryz.prog) Tryz.func77 (by kernel_rfl) (by kernel_rfl) (by kernel_rfl) .u32 (by kernel_rfl) h
  clear h
  go_enter Tryz.func66, Tryz.ntmps66
  go_wp2
  go_ret
  refine ⟨?_, rfl⟩
  cases d with
  | zero => rfl
  | succ d => simp; omega

set_option maxHeartbeats 8000000 in
theorem slow_any (op tp tb ch t sm : Nat) (told0 told : Int) (va vo vh : Value) (w : World) (ho : w.cell? ⟨op, 0, none⟩ = some (.int .i64 told)) (ht : w.cell? ⟨tp, 0, none⟩ = some (ptr1 tb)) (hB : Blk w tb (tkL t va vo vh ch told0 0 0 sm) 97) (hC : ChM w ch false) (hn : tp ≠ tb) (hn2 : op ≠ tb) :
    Calls Tryz.prog 67 #[.pointer (some ⟨tb, 6, none⟩), .func (.func 58) #[] #[.pointer (some ⟨op, 0, none⟩), .pointer (some ⟨tp, 0, none⟩)]] w fun e w' => e = .returned (.tuple #[]) ∧ Blk w' tb (tkL t va vo vh ch told 1 0 sm) 97 ∧ ChM w' ch true ∧ Frm w w' (fun k => k = tb ∨ k = ch) := by
  have hne : tb ≠ ch := by
    intro e
    subst e
    unfold Blk at hB
    unfold ChM at hC
    rw [hB] at hC
    cases hC
  have hB1 := hB.set 7 (.int .i32 1)
  have C1 : Hid (Calls _ _ _ _ _) := Go.MuLone.lock_free muLib ⟨tb, 7, none⟩ w (Blk.cell (i := 7) hB rfl) (hB.frozen 7)
  have C2 : Hid (Calls _ _ _ _ _) := bload_any tb 6 0 (w.setCell ⟨tb, 7, none⟩ (.int .i32 1)) (Blk.cell (i := 6) hB1 rfl)
  have oc : ∀ (b : Nat), b ≠ tb → (w.setCell ⟨tb, 7, none⟩ (.int .i32 1)).cell? ⟨b, 0, none⟩ = w.cell? ⟨b, 0, none⟩ := fun b hb => World.cell?_setCell_other _ ⟨tb, 7, none⟩ ⟨b, 0, none⟩ _ (fun h => hb (by injection h with h1; exact h1.symm))
  have hC1 : ChM (w.setCell ⟨tb, 7, none⟩ (.int .i32 1)) ch false := (heap_set_other w tb 7 ch _ (fun e => hne e.symm)).trans hC
  have C3 : Hid (Calls _ _ _ _ _) := tellf_any op tp tb ch t 0 sm 1 told0 told va vo vh (w.setCell ⟨tb, 7, none⟩ (.int .i32 1)) ((oc op hn2).trans ho) ((oc tp hn).trans ht) hB1 hC1 hn
  have hB2 : Blk (clsW ((w.setCell ⟨tb, 7, none⟩ (.int .i32 1)).setCell ⟨tb, 5, none⟩ (.int .i64 told)) ch) tb (tkL t va vo vh ch told 0 1 sm) 97 := cls_blk (hB1.set 5 (.int .i64 told)) hne
  have hC2 : ChM (clsW ((w.setCell ⟨tb, 7, none⟩ (.int .i32 1)).setCell ⟨tb, 5, none⟩ (.int .i64 told)) ch) ch true := cls_ch ((heap_set_other _ tb 5 ch _ (fun e => hne e.symm)).trans hC1)
  have hF2 : Frm w (clsW ((w.setCell ⟨tb, 7, none⟩ (.int .i32 1)).setCell ⟨tb, 5, none⟩ (.int .i64 told)) ch) (fun k => k = tb ∨ k = ch) := ((frm_set w tb 7 _ (F := fun k => k = tb ∨ k = ch) (.inl (.inl rfl))).trans (frm_set _ tb 5 _ (F := fun k => k = tb ∨ k = ch) (.inl (.inl rfl))) (fun k hk => .inl hk)).trans (cls_frm _ ch) (fun k hk => .inl (.inr hk))
  have HZ : Hid (Blk (clsW ((w.setCell ⟨tb, 7, none⟩ (.int .i32 1)).setCell ⟨tb, 5, none⟩ (.int .i64 told)) ch) tb (tkL t va vo vh ch told 0 1 sm) 97 ∧ ChM (clsW ((w.setCell ⟨tb, 7, none⟩ (.int .i32 1)).setCell ⟨tb, 5, none⟩ (.int .i64 told)) ch) ch true ∧ Frm w (clsW ((w.setCell ⟨tb, 7, none⟩ (.int .i32 1)).setCell ⟨tb, 5, none⟩ (.int .i64 told)) ch) (fun k => k = tb ∨ k = ch)) := ⟨hB2, hC2, hF2⟩
  clear hB hC hB1 oc hC1 hB2 hC2 hF2 ho ht
  go_enter_defers Tryz.func67, Tryz.ntmps67
  go_wp2_with fail
  refine C1.out.mono ?_
  rintro e w2 ⟨rfl, rfl⟩
  go_wp2_with fail
  refine C2.out.mono ?_
  rintro e w2 ⟨rfl, rfl⟩
  go_wp2_with fail
  refine C3.out.mono ?_
  rintro e w3 ⟨rfl, rfl⟩
  generalize clsW ((w.setCell ⟨tb, 7, none⟩ (.int .i32 1)).setCell ⟨tb, 5, none⟩ (.int .i64 told)) ch = w3 at *
  go_wp2_with fail
  have hB3 := HZ.out.1
  refine leaves_cons (f := 80) (args := #[.pointer (some ⟨tb, 6, none⟩), .bool true]) (by simp) (by simp [go_sem]) ?_
  refine (store_d ⟨tb, 6, none⟩ _ .returning w3 (Blk.cell (i := 6) hB3 rfl) (hB3.frozen 6)).mono ?_
  rintro e u' w4 ⟨rfl, rfl, rfl⟩
  have hdr : Below w3.heap.size w3 w3.drew := (Below.refl _ _).drew
  have hB4 := (hB3.on hdr).set 6 (.int .u32 1)
  refine leaves_cons (f := 79) (args := #[.pointer (some ⟨tb, 7, none⟩)]) (by simp [settle]) (by simp [go_sem]) ?_
  refine (Go.MuLone.unlock_deferred muLib ⟨tb, 7, none⟩ _ _ (Blk.cell (i := 7) hB4 rfl) (hB4.frozen 7)).mono ?_
  rintro e u' w5 ⟨rfl, rfl, rfl⟩
  have hB5 := hB4.set 7 (.int .i32 0)
  have hC5 : ChM ((w3.drew.setCell ⟨tb, 6, none⟩ (.int .u32 1)).setCell ⟨tb, 7, none⟩ (.int .i32 0)) ch true := (heap_set_other _ tb 7 ch _ (fun e => hne e.symm)).trans ((heap_set_other _ tb 6 ch _ (fun e => hne e.symm)).trans (HZ.out.2.1.on hdr))
  have hF5 : Frm w ((w3.drew.setCell ⟨tb, 6, none⟩ (.int .u32 1)).setCell ⟨tb, 7, none⟩ (.int .i32 0)) (fun k => k = tb ∨ k = ch) := ((HZ.out.2.2.trans (Frm.of_below (F := fun k => k = tb ∨ k = ch) hdr) (fun k hk => .inl hk)).trans (frm_set _ tb 6 _ (F := fun k => k = tb ∨ k = ch) (.inl (.inl rfl))) (fun k hk => .inl hk)).trans (frm_set _ tb 7 _ (F := fun k => k = tb ∨ k = ch) (.inl (.inl rfl))) (fun k hk => .inl hk)
  simp only [Leaves, settle]
  exact ⟨.tuple #[], results_none rfl _ _ _, rfl, hB5, hC5, hF5⟩

set_option maxHeartbeats 4000000 in
theorem do_first (op tp tb ch t sm : Nat) (told0 told : Int) (va vo vh : Value) (w : World) (ho : w.cell? ⟨op, 0, none⟩ = some (.int .i64 told)) (ht : w.cell? ⟨tp, 0, none⟩ = some (ptr1 tb)) (hB : Blk w tb (tkL t va vo vh ch told0 0 0 sm) 97) (hC : ChM w ch false) (hn : tp ≠ tb) (hn2 : op ≠ tb) :
    Calls Tryz.prog 57 #[.pointer (some ⟨tb, 6, none⟩), .func (.func 58) #[] #[.pointer (some ⟨op, 0, none⟩), .pointer (some ⟨tp, 0, none⟩)]] w fun e w' => e = .returned (.tuple #[]) ∧ Blk w' tb (tkL t va vo vh ch told 1 0 sm) 97 ∧ ChM w' ch true ∧ Frm w w' (fun k => k = tb ∨ k = ch) := by
  have C1 : Hid (Calls _ _ _ _ _) := bload_any tb 6 0 w (Blk.cell (i := 6) hB rfl)
  have C2 : Hid (Calls _ _ _ _ _) := slow_any op tp tb ch t sm told0 told va vo vh w ho ht hB hC hn hn2
  clear ho ht hB hC hn hn2
  go_enter Tryz.func57, Tryz.ntmps57
  go_wp2_with fail
  refine C1.out.mono ?_
  rintro e w2 ⟨rfl, rfl⟩
  go_wp2_with fail
  refine C2.out.mono ?_
  rintro e w3 ⟨rfl, h1, h2, h3⟩
  have HZ : Hid (Blk w3 tb (tkL t va vo vh ch told 1 0 sm) 97 ∧ ChM w3 ch true ∧ Frm w2 w3 (fun k => k = tb ∨ k = ch)) := ⟨h1, h2, h3⟩
  clear h1 h2 h3 C1 C2
  go_wp2_with fail
  go_end0
  exact ⟨rfl, HZ.out⟩

set_option maxHeartbeats 4000000 in
theorem do_done (tb : Nat) (fv : Value) (w : World) (h : w.cell? ⟨tb, 6, none⟩ = some (.int .u32 ((1 : Nat) : Int))) :
    Calls Tryz.prog 57 #[.pointer (some ⟨tb, 6, none⟩), fv] w fun e w' => e = .returned (.tuple #[]) ∧ w' = w := by
  have C1 : Hid (Calls _ _ _ _ _) := bload_any tb 6 1 w h
  clear h
  go_enter Tryz.func57, Tryz.ntmps57
  go_wp2_with fail
  refine C1.out.mono ?_
  rintro e w2 ⟨rfl, rfl⟩
  go_wp2_with fail
  go_end0
  exact ⟨rfl, rfl⟩

theorem only_tc {w : World} {b ch : Nat} {cs : Array Value} {c : Bool} (h : Blk w b cs 97) (hc : ChM w ch c) : OnlyTG w (fun k => k = b ∨ k = ch) := by
  intro g cs' T z hg e
  rcases e with e | e
  · exact only_one h g cs' T z hg e
  · subst e
    unfold ChM at hc
    rw [hc] at hg
    cases hg

set_option maxHeartbeats 4000000 in
theorem tell_any (tb ch : Nat) (x : Tk) (told : Int) (w : World) (h : TkM w tb ch x) :
    Calls Tryz.prog 44 #[ptr1 tb, .int .i64 told] w fun e w' => e = .returned (.tuple #[]) ∧ TkM w' tb ch x ∧ Frm w w' (fun k => k = tb ∨ k = ch) := by
  obtain ⟨va, vo, vh, told0, d, sm, cl, k1, k2, k3, k4, k5, k6, k7⟩ := h
  obtain ⟨aX, aB, aS⟩ := blk_new w #[ptr1 tb] 77
  obtain ⟨bX, bB, bS⟩ := blk_new (w.alloc (.cells #[ptr1 tb] 77)) #[.int .i64 told] 38
  rw [aS] at bX
  have hB2 : Below w.heap.size w ((w.alloc (.cells #[ptr1 tb] 77)).alloc (.cells #[.int .i64 told] 38)) := aB.trans (bB.mono aB.size)
  have j1 := k1.on hB2
  have j6 := k6.on hB2
  have hlt := k1.lt
  have aX2 := aX.on bB
  have hmf : ∀ (fn : Fn) (first cap : Array Value) (w : World), (Instr.makeFunc fn first cap).run Tryz.prog w = .ok (.func fn first cap) w := fun _ _ _ _ => rfl
  have HK : Hid (ClOf cl x.H ∧ OwnR w 0 va cl.all ∧ OwnR w 0 vo cl.alo ∧ OwnU w 0 vh x.A ∧ Blk w tb (tkC x.t va vo vh ch told0 d sm) 97) := ⟨k2, k3, k4, k5, k1⟩
  have t0 := Blk.cell (i := 0) aX2 rfl
  have HOn : Hid (OnlyTG w (fun k => k = tb ∨ k = ch)) := only_tc k1 k6
  have HB2 : Hid (Below w.heap.size w ((w.alloc (.cells #[ptr1 tb] 77)).alloc (.cells #[.int .i64 told] 38))) := hB2
  have hd : d = 0 ∨ d = 1 := by omega
  rcases hd with rfl | rfl
  · have C1 : Hid (Calls _ _ _ _ _) := do_first (w.heap.size + 1) w.heap.size tb ch x.t sm told0 told va vo vh _ (Blk.cell (i := 0) bX rfl) t0 j1 j6 (by omega) (by omega)
    clear k1 k2 k3 k4 k5 k6 k7 aX aB aS bX bB bS hB2 j1 j6 hlt aX2
    go_enter Tryz.func44, Tryz.ntmps44
    go_wp2_with fail
    refine C1.out.mono ?_
    rintro e w3 ⟨rfl, h1, h2, h3⟩
    have HF : Hid (Frm w w3 (fun k => k = tb ∨ k = ch)) := (Frm.of_below (F := fun k => k = tb ∨ k = ch) HB2.out).trans h3 (fun k hk => .inl hk)
    have HZ : Hid (Blk w3 tb (tkL x.t va vo vh ch told 1 0 sm) 97 ∧ ChM w3 ch true) := ⟨h1, h2⟩
    have hoT := HOn.out
    have HT3 : Hid (TkM w3 tb ch x) := ⟨va, vo, vh, told, 1, sm, cl, h1, HK.out.1, owns_frm HK.out.2.1 HF.out hoT (by decide) (by decide), owns_frm HK.out.2.2.1 HF.out hoT (by decide) (by decide), owns_frm HK.out.2.2.2.1 HF.out hoT (by decide) (by decide), h2, Nat.le_refl _⟩
    clear h1 h2 h3 C1 hoT
    go_wp2_with fail
    go_end0
    exact ⟨rfl, HT3.out, HF.out⟩
  · have C1 : Hid (∀ fv, Calls _ _ _ _ _) := fun fv => do_done tb fv _ (Blk.cell (i := 6) j1 rfl)
    have HT3 : Hid (TkM ((w.alloc (.cells #[ptr1 tb] 77)).alloc (.cells #[.int .i64 told] 38)) tb ch x) := TkM.on ⟨va, vo, vh, told0, 1, sm, cl, k1, k2, k3, k4, k5, k6, k7⟩ hB2
    clear k1 k2 k3 k4 k5 k6 k7 aX aB aS bX bB bS hB2 j1 j6 hlt aX2
    go_enter Tryz.func44, Tryz.ntmps44
    go_wp2_with fail
    refine (C1.out _).mono ?_
    rintro e w3 ⟨rfl, hw3⟩
    rw [hw3]
    clear hw3 C1
    go_wp2_with fail
    go_end0
    exact ⟨rfl, HT3.out, Frm.of_below (F := fun k => k = tb ∨ k = ch) HB2.out⟩
end Go.Proofs.YtcdamalpecedcaaGreat
