/- Layer 13: newTaker. -/
import Derived.Test.YtcdamalpecedcaaGreatWGp9
namespace Go.Proofs.YtcdamalpecedcaaGreat
open Go.RowKit
set_option maxRecDepth 100000

/-- a taker's cells -/
abbrev tkC (t : Nat) (va vo vh : Value) (ch : Nat) (told : Int) (d sm : Nat) : Array Value := #[.int .u64 (t : Nat), va, vo, vh, .chan (some ch), .int .i64 told, .int .u32 (d : Nat), .int .i32 0, .int .u32 (sm : Nat)]
/-- a channel, open or closed -/
def ChM (w : World) (ch : Nat) (cl : Bool) : Prop := w.heap[ch]? = some (.chan 0 #[] cl 0 0 false)
theorem ChM.lt {w : World} {ch : Nat} {cl : Bool} (h : ChM w ch cl) : ch < w.heap.size := (Array.getElem?_eq_some_iff.1 h).1
theorem ChM.keep {w w' : World} {B ch : Nat} {cl : Bool} (h : ChM w ch cl) (hb : Below B w w') (hg : ch < B) : ChM w' ch cl := (hb.block ch hg).trans h
theorem ChM.on {w w' : World} {ch : Nat} {cl : Bool} (h : ChM w ch cl) (hb : Below w.heap.size w w') : ChM w' ch cl := h.keep hb h.lt

set_option maxHeartbeats 4000000 in
theorem newTaker_any (p q : Option Addr) (n m c d : Nat) (w : World) :
    Calls Tryz.prog 47 #[.agg #[.slice p n c, .slice q m d]] w fun e w' => ∃ ch tb, e = .returned (ptr1 tb) ∧ Blk w' tb (tkC 0 (.slice p n c) (.slice q m d) (.slice none 0 0) ch 0 0 0) 97 ∧ ChM w' ch false ∧ w.heap.size ≤ ch ∧ w.heap.size ≤ tb ∧ ch ≠ tb ∧ Below w.heap.size w w' := by
  obtain ⟨aX, aB, aS⟩ := blk_new w #[.slice p n c, .slice q m d] 84
  obtain ⟨ie, hie, hib⟩ : ∃ i, Tryz.prog.info? 58 = some i ∧ i.bytes = 0 := by
    have h : ((Tryz.prog.info? 58).map (fun i => i.bytes)) = some 0 := by kernel_rfl
    obtain ⟨j, hj, h2⟩ := Option.map_eq_some_iff.1 h
    exact ⟨j, hj, h2⟩
  have hmk : ∀ w9 : World, (Instr.makeChan 85 (.int .i64 0)).run Tryz.prog w9 = .ok (.chan (some w9.heap.size)) (w9.alloc (.chan 0 #[] false 0 0 false)) := fun w9 => Go.Conc.run_makeChan (w := w9) Tryz.underlying85 hie .i64 0 (by decide) (by rw [hib]; decide)
  go_enter Tryz.func47, Tryz.ntmps47
  go_upto_region 1 with fail
  have hdr : Below (w.alloc (.cells #[.slice p n c, .slice q m d] 84)).heap.size (w.alloc (.cells #[.slice p n c, .slice q m d] 84)) (w.alloc (.cells #[.slice p n c, .slice q m d] 84)).drew := (Below.refl _ _).drew
  have HX : Hid (Blk (w.alloc (.cells #[.slice p n c, .slice q m d] 84)).drew w.heap.size #[.slice p n c, .slice q m d] 84 ∧ Below w.heap.size w (w.alloc (.cells #[.slice p n c, .slice q m d] 84)).drew ∧ (w.alloc (.cells #[.slice p n c, .slice q m d] 84)).drew.heap.size = w.heap.size + 1) := ⟨aX.on hdr, aB.trans (hdr.mono aB.size), aS⟩
  clear aX aB aS hdr
  refine wp_region_any (by kernel_rfl) ?_
  change wpAny _ _ _ _ _ _ _ (World.drew _)
  generalize (w.alloc (.cells #[.slice p n c, .slice q m d] 84)).drew = wd at *
  have hal : Below wd.heap.size wd (wd.alloc (.chan 0 #[] false 0 0 false)) := (Below.refl _ _).alloc (Nat.le_refl _) _
  have HK : Hid (wd.cell? ⟨w.heap.size, 0, none⟩ = some (.slice p n c) ∧ wd.cell? ⟨w.heap.size, 1, none⟩ = some (.slice q m d)) := ⟨Blk.cell (i := 0) HX.out.1 rfl, Blk.cell (i := 1) HX.out.1 rfl⟩
  have HK2 : Hid ((wd.alloc (.chan 0 #[] false 0 0 false)).cell? ⟨w.heap.size, 0, none⟩ = some (.slice p n c) ∧ (wd.alloc (.chan 0 #[] false 0 0 false)).cell? ⟨w.heap.size, 1, none⟩ = some (.slice q m d)) := ⟨Blk.cell (i := 0) (HX.out.1.on hal) rfl, Blk.cell (i := 1) (HX.out.1.on hal) rfl⟩
  have HZ : Hid (∃ ch tb, Ending.returned (.pointer (some ⟨wd.heap.size + 1, 0, none⟩)) = .returned (ptr1 tb) ∧ Blk ((wd.alloc (.chan 0 #[] false 0 0 false)).alloc (.cells (tkC 0 (.slice p n c) (.slice q m d) (.slice none 0 0) wd.heap.size 0 0 0) 97)) tb (tkC 0 (.slice p n c) (.slice q m d) (.slice none 0 0) ch 0 0 0) 97 ∧ ChM ((wd.alloc (.chan 0 #[] false 0 0 false)).alloc (.cells (tkC 0 (.slice p n c) (.slice q m d) (.slice none 0 0) wd.heap.size 0 0 0) 97)) ch false ∧ w.heap.size ≤ ch ∧ w.heap.size ≤ tb ∧ ch ≠ tb ∧ Below w.heap.size w ((wd.alloc (.chan 0 #[] false 0 0 false)).alloc (.cells (tkC 0 (.slice p n c) (.slice q m d) (.slice none 0 0) wd.heap.size 0 0 0) 97))) := by
    obtain ⟨bX, bB, bS⟩ := blk_new (wd.alloc (.chan 0 #[] false 0 0 false)) (tkC 0 (.slice p n c) (.slice q m d) (.slice none 0 0) wd.heap.size 0 0 0) 97
    have hs : (wd.alloc (.chan 0 #[] false 0 0 false)).heap.size = wd.heap.size + 1 := by simp
    have hw := HX.out.2.1.size
    rw [hs] at bX
    refine ⟨wd.heap.size, wd.heap.size + 1, rfl, bX, ?_, hw, by omega, by omega, (HX.out.2.1.trans (hal.mono hw)).trans (bB.mono (by omega))⟩
    exact ChM.on (heap_alloc_new wd _) bB
  clear hal HX
  apply later0
  intro hs0_1_2_3
  apply later0
  intro hs0_1_2
  apply later0
  intro hs0_1
  apply later0
  intro hs1
  apply later0
  intro hs0
  · have k0 := HK.out.1
    have k1 := HK.out.2
    refine wpAny_ready (rs := [0, 1]) (by kernel_rfl) (by simp) ?_
    refine anyN_cons 0 rfl (by rfl) (fun K hK => ?_) (anyN_cons 1 rfl (by rfl) (fun K hK => ?_) AllReady.nil)
    · go_simp
      refine hK.out _ _ ?_
      clear hK K
      try simp only [aP]
      exact hs0
    · go_simp
      try simp only [hmk]
      try go_simp
      refine hK.out _ _ ?_
      clear hK K
      try simp only [aP]
      exact hs1
  · have k0 := HK.out.1
    have k1 := HK.out.2
    refine wpAny_ready (rs := [1]) (by kernel_rfl) (by simp) ?_
    refine anyN_cons 1 rfl (by rfl) (fun K hK => ?_) AllReady.nil
    go_simp
    try simp only [hmk]
    try go_simp
    refine hK.out _ _ ?_
    clear hK K
    try simp only [aP]
    exact hs0_1
  · have k0 := HK2.out.1
    have k1 := HK2.out.2
    refine wpAny_ready (rs := [0]) (by kernel_rfl) (by simp) ?_
    refine anyN_cons 0 rfl (by rfl) (fun K hK => ?_) AllReady.nil
    go_simp
    refine hK.out _ _ ?_
    clear hK K
    try simp only [aP]
    exact hs0_1
  · have k0 := HK2.out.1
    have k1 := HK2.out.2
    refine wpAny_ready (rs := [2]) (by kernel_rfl) (by simp) ?_
    refine anyN_cons 2 rfl (by rfl) (fun K hK => ?_) AllReady.nil
    go_simp
    refine hK.out _ _ ?_
    clear hK K
    try simp only [aP]
    exact hs0_1_2
  · refine wpAny_ready (rs := [3]) (by kernel_rfl) (by simp) ?_
    refine anyN_cons 3 rfl (by rfl) (fun K hK => ?_) AllReady.nil
    go_simp
    refine hK.out _ _ ?_
    clear hK K
    try simp only [aP]
    exact hs0_1_2_3
  · refine wpAny_ready (rs := [4]) (by kernel_rfl) (by simp) ?_
    refine anyN_cons 4 rfl (by rfl) (fun K hK => ?_) AllReady.nil
    go_simp
    refine hK.out _ _ ?_
    clear hK K
    try simp only [aP]
    refine wpAny_done (by kernel_rfl) ?_ _
    go_wp2_with fail
    go_ret
    exact HZ.out
end Go.Proofs.YtcdamalpecedcaaGreat
