/- Layer 13: the document's Take refused. -/
import Derived.Test.YtcdamalpecedcaaGreatWGd4
import Derived.Test.YtcdamalpecedcaaGreatWHeld
namespace Go.Proofs.YtcdamalpecedcaaGreat
open Go.RowKit
set_option maxRecDepth 100000

theorem info_dk : (Tryz.prog.info? 42).map (fun i => (i.zero, i.size, i.bytes)) = some (some (.agg #[.int .u64 0, .slice none 0 0]), 2, 32) := by kernel_rfl
theorem owns_other2 {w w' : World} {B e size n : Nat} {v : Value} {xs : List Value} (h : w.ownsRow B e size v n xs) (hb : ∀ g, v.ownBlock = some g → w'.heap[g]? = w.heap[g]?) : w'.ownsRow B e size v n xs := by
  refine ⟨h.1, ?_⟩
  rcases h.2 with h1 | ⟨g, cap, cur, e, hb', hg, r⟩
  · exact .inl h1
  · exact .inr ⟨g, cap, cur, e, hb', (hb g (by rw [e]; rfl)).trans hg, r⟩
theorem DkL.sl {w : World} {B : Nat} {v : Value} {D : List Dk} (h : DkL w B v D) (j : Nat) (hj : j < D.length) : ∃ q l c, D[j].v = .slice q l c := by
  obtain ⟨q, c, e, _⟩ := OwnH.rd (h.h _ (List.getElem_mem hj)).1
  exact ⟨_, _, _, e⟩

set_option maxHeartbeats 4000000 in
theorem rtake_long (D : List Dk) (B ls n hc : Nat) (hq : Option Addr) (v : Value) (w : World) (hD : DkL w B v D) (hn : 256 < n) :
    Calls Tryz.prog 17 #[.agg #[v, .int .u64 (ls : Nat)], .slice hq n hc] w fun e w' => e = .returned (.tuple #[.agg #[v, .int .u64 (ls : Nat)], .int .u64 0, .int .i64 2]) ∧ Below w.heap.size w w' := by
  obtain ⟨q, c, rfl, -⟩ := hD.rd
  clear hD
  have g1 : (256 : Int) < (n : Int) := by omega
  clear hn
  obtain ⟨aX, aB, aS⟩ := blk_new w #[.slice q D.length c, .int .u64 (ls : Nat)] 28
  obtain ⟨bX, bB, bS⟩ := blk_new (w.alloc (.cells #[.slice q D.length c, .int .u64 (ls : Nat)] 28)) #[.slice q D.length c, .int .u64 (ls : Nat)] 28
  rw [aS] at bX
  have HB : Hid (Below w.heap.size w ((w.alloc (.cells #[.slice q D.length c, .int .u64 (ls : Nat)] 28)).alloc (.cells #[.slice q D.length c, .int .u64 (ls : Nat)] 28))) := aB.trans (bB.mono aB.size)
  have q0 := bX.cell (i := 0) rfl
  have q1 := bX.cell (i := 1) rfl
  clear aX aB aS bX bB bS
  go_enter Tryz.func17, Tryz.ntmps17
  go_wp2_with fail
  refine bodyPost_ret (v := .tuple #[.agg #[.slice q D.length c, .int .u64 (ls : Nat)], .int .u64 0, .int .i64 2]) (by simp [results, Tryz.results17, go_sem, q0, q1]) rfl ?_
  exact ⟨rfl, HB.out⟩

set_option maxHeartbeats 4000000 in
theorem rtake_full (D : List Dk) (B ls n hc : Nat) (hq : Option Addr) (v : Value) (w : World) (hD : DkL w B v D) (hn : n ≤ 256) (hf : D.length = 256) :
    Calls Tryz.prog 17 #[.agg #[v, .int .u64 (ls : Nat)], .slice hq n hc] w fun e w' => e = .returned (.tuple #[.agg #[v, .int .u64 (ls : Nat)], .int .u64 0, .int .i64 2]) ∧ Below w.heap.size w w' := by
  obtain ⟨q, c, rfl, -⟩ := hD.rd
  clear hD
  have g1 : ¬ (256 : Int) < (n : Int) := by omega
  have g2 : (256 : Int) ≤ (D.length : Int) := by omega
  clear hn hf
  obtain ⟨aX, aB, aS⟩ := blk_new w #[.slice q D.length c, .int .u64 (ls : Nat)] 28
  obtain ⟨bX, bB, bS⟩ := blk_new (w.alloc (.cells #[.slice q D.length c, .int .u64 (ls : Nat)] 28)) #[.slice q D.length c, .int .u64 (ls : Nat)] 28
  rw [aS] at bX
  have HB : Hid (Below w.heap.size w ((w.alloc (.cells #[.slice q D.length c, .int .u64 (ls : Nat)] 28)).alloc (.cells #[.slice q D.length c, .int .u64 (ls : Nat)] 28))) := aB.trans (bB.mono aB.size)
  have q0 := bX.cell (i := 0) rfl
  have q1 := bX.cell (i := 1) rfl
  clear aX aB aS bX bB bS
  go_enter Tryz.func17, Tryz.ntmps17
  go_wp2_with fail
  refine bodyPost_ret (v := .tuple #[.agg #[.slice q D.length c, .int .u64 (ls : Nat)], .int .u64 0, .int .i64 2]) (by simp [results, Tryz.results17, go_sem, q0, q1]) rfl ?_
  exact ⟨rfl, HB.out⟩
end Go.Proofs.YtcdamalpecedcaaGreat
