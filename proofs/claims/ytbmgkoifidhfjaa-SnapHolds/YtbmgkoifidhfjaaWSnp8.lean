/- leave of a state. -/
import Derived.Test.YtbmgkoifidhfjaaWSnp6
import Derived.Test.YtbmgkoifidhfjaaWSnp7
namespace Go.Proofs.Ytbmgkoifidhfjaa
open Go.RowKit
set_option maxRecDepth 100000

set_option maxHeartbeats 4000000 in
theorem leave_any (at' fl B : Nat) (n : Int) (v : Value) (R : List Rd) (w : World) (h : OwR w B v R) (hI : InvR R) :
    Calls Try.prog 45 #[.agg #[.int .u64 (at' : Nat), .int .u64 (fl : Nat), v], .int .i64 n] w fun e w' => (∃ v', e = .returned (.tuple #[.agg #[.int .u64 (at' : Nat), .int .u64 (fl : Nat), v'], .int .u64 0, .int .i64 (leaE R n)]) ∧ OwR w' 0 v' (goR R n)) ∧ Below w.heap.size w w' := by
  have hlen := hI.len
  obtain ⟨p, c, ev, hle, -⟩ := h.rd
  obtain ⟨rl, hrl⟩ : ∃ rl, rl = R.length := ⟨_, rfl⟩
  rw [← hrl] at ev
  subst ev
  have hs1 : (w.alloc (.cells #[.int .u64 (at' : Nat), .int .u64 (fl : Nat), .slice p rl c] 77)).heap.size = w.heap.size + 1 := by simp
  have L1 : Below w.heap.size w (w.alloc (.cells #[.int .u64 (at' : Nat), .int .u64 (fl : Nat), .slice p rl c] 77)) := (Below.refl _ _).alloc (Nat.le_refl _) _
  have L2 : Below (w.alloc (.cells #[.int .u64 (at' : Nat), .int .u64 (fl : Nat), .slice p rl c] 77)).heap.size (w.alloc (.cells #[.int .u64 (at' : Nat), .int .u64 (fl : Nat), .slice p rl c] 77)) ((w.alloc (.cells #[.int .u64 (at' : Nat), .int .u64 (fl : Nat), .slice p rl c] 77)).alloc (.cells #[.int .u64 0, .int .u64 0, .slice none 0 0] 77)) := (Below.refl _ _).alloc (Nat.le_refl _) _
  have X1 : BoxT (w.alloc (.cells #[.int .u64 (at' : Nat), .int .u64 (fl : Nat), .slice p rl c] 77)) w.heap.size #[.int .u64 (at' : Nat), .int .u64 (fl : Nat), .slice p rl c] 77 := BoxT.new _ _ _
  have X2 : BoxT ((w.alloc (.cells #[.int .u64 (at' : Nat), .int .u64 (fl : Nat), .slice p rl c] 77)).alloc (.cells #[.int .u64 0, .int .u64 0, .slice none 0 0] 77)) (w.heap.size + 1) #[.int .u64 0, .int .u64 0, .slice none 0 0] 77 := by rw [← hs1]; exact BoxT.new _ _ _
  have HX1 : Hid (BoxT _ _ _ _) := X1.on L2
  have HX2 : Hid (BoxT _ _ _ _) := X2
  have HL : Hid (Below w.heap.size w ((w.alloc (.cells #[.int .u64 (at' : Nat), .int .u64 (fl : Nat), .slice p rl c] 77)).alloc (.cells #[.int .u64 0, .int .u64 0, .slice none 0 0] 77))) := L1.trans (L2.mono (by omega))
  have H2 : Hid (OwR ((w.alloc (.cells #[.int .u64 (at' : Nat), .int .u64 (fl : Nat), .slice p rl c] 77)).alloc (.cells #[.int .u64 0, .int .u64 0, .slice none 0 0] 77)) B (.slice p rl c) R) := h.on HL.out
  have C1 : Hid (Calls Try.prog 72 #[.slice p rl c, .int .i64 n, .func (.func 73) #[] #[]] ((w.alloc (.cells #[.int .u64 (at' : Nat), .int .u64 (fl : Nat), .slice p rl c] 77)).alloc (.cells #[.int .u64 0, .int .u64 0, .slice none 0 0] 77)) fun e w' => (∃ i : Nat, e = .returned (.tuple #[.int .i64 (i : Nat), .bool (hasR R n)]) ∧ (hasR R n = true → ∃ hi : i < R.length, (R[i].sl : Int) = n)) ∧ Below ((w.alloc (.cells #[.int .u64 (at' : Nat), .int .u64 (fl : Nat), .slice p rl c] 77)).alloc (.cells #[.int .u64 0, .int .u64 0, .slice none 0 0] 77)).heap.size ((w.alloc (.cells #[.int .u64 (at' : Nat), .int .u64 (fl : Nat), .slice p rl c] 77)).alloc (.cells #[.int .u64 0, .int .u64 0, .slice none 0 0] 77)) w') := by
    subst hrl
    exact bsearch_any R p c n _ H2.out.addr.2.2.1 hI
  have HRL : Hid (rl = R.length ∧ R.length ≤ 256 ∧ R.length ≤ c) := ⟨hrl, hlen, hle⟩
  have HI : Hid (InvR R) := hI
  have b2 : ((w.alloc (.cells #[.int .u64 (at' : Nat), .int .u64 (fl : Nat), .slice p rl c] 77)).alloc (.cells #[.int .u64 0, .int .u64 0, .slice none 0 0] 77)).cell? ⟨w.heap.size, 2, none⟩ = some (.slice p rl c) := HX1.out.cell
  clear hs1 L1 L2 X1 X2 h hI hrl hlen hle
  go_enter Try.func45, Try.ntmps45
  go_wp2_with fail
  generalize ((w.alloc (.cells #[.int .u64 (at' : Nat), .int .u64 (fl : Nat), .slice p rl c] 77)).alloc (.cells #[.int .u64 0, .int .u64 0, .slice none 0 0] 77)) = w2 at *
  refine C1.out.mono ?_
  rintro e w3 ⟨⟨i, rfl, hi⟩, hb3⟩
  have HX13 : Hid (BoxT w3 w.heap.size #[.int .u64 (at' : Nat), .int .u64 (fl : Nat), .slice p rl c] 77) := HX1.out.on hb3
  have HX23 : Hid (BoxT w3 (w.heap.size + 1) #[.int .u64 0, .int .u64 0, .slice none 0 0] 77) := HX2.out.on hb3
  have HL3 : Hid (Below w.heap.size w w3) := HL.out.trans (hb3.mono HL.out.size)
  have H3 : Hid (OwR w3 B (.slice p rl c) R) := H2.out.on hb3
  have HHI : Hid (hasR R n = true → ∃ hi : i < R.length, (R[i].sl : Int) = n) := hi
  clear hb3 C1 HX1 HX2 HL H2 hi b2
  have n0 : w3.cell? ⟨w.heap.size, 0, none⟩ = some (.int .u64 (at' : Nat)) := HX13.out.cell
  have n1 : w3.cell? ⟨w.heap.size, 1, none⟩ = some (.int .u64 (fl : Nat)) := HX13.out.cell
  have n2 : w3.cell? ⟨w.heap.size, 2, none⟩ = some (.slice p rl c) := HX13.out.cell
  cases hh : hasR R n with
  | false =>
    have HE : Hid (leaE R n = 100 ∧ goR R n = R) := ⟨by unfold leaE; rw [hh]; rfl, go_no hh⟩
    clear HHI
    have g0 : w3.cell? ⟨w.heap.size + 1, 0, none⟩ = some (.int .u64 0) := HX23.out.cell
    have g1 : w3.cell? ⟨w.heap.size + 1, 1, none⟩ = some (.int .u64 0) := HX23.out.cell
    have g2 : w3.cell? ⟨w.heap.size + 1, 2, none⟩ = some (.slice none 0 0) := HX23.out.cell
    have y0 : w3.frozen? ⟨w.heap.size + 1, 0, none⟩ = false := HX23.out.frozen
    have y1 : w3.frozen? ⟨w.heap.size + 1, 1, none⟩ = false := HX23.out.frozen
    have y2 : w3.frozen? ⟨w.heap.size + 1, 2, none⟩ = false := HX23.out.frozen
    have hfz : Frm w3 (((w3.setCell ⟨w.heap.size + 1, 0, none⟩ (.int .u64 (at' : Nat))).setCell ⟨w.heap.size + 1, 1, none⟩ (.int .u64 (fl : Nat))).setCell ⟨w.heap.size + 1, 2, none⟩ (.slice p rl c)) (fun k => k = w.heap.size + 1) := ((frm_set w3 _ 0 _ (F := fun k => k = w.heap.size + 1) rfl).trans (frm_set _ _ 1 _ (F := fun k => k = w.heap.size + 1) rfl)).trans (frm_set _ _ 2 _ (F := fun k => k = w.heap.size + 1) rfl)
    have HBE : Hid (Below w.heap.size w (((w3.setCell ⟨w.heap.size + 1, 0, none⟩ (.int .u64 (at' : Nat))).setCell ⟨w.heap.size + 1, 1, none⟩ (.int .u64 (fl : Nat))).setCell ⟨w.heap.size + 1, 2, none⟩ (.slice p rl c))) := HL3.out.trans (hfz.below HL3.out.size (fun k hk => by omega))
    have HVE : Hid (OwR (((w3.setCell ⟨w.heap.size + 1, 0, none⟩ (.int .u64 (at' : Nat))).setCell ⟨w.heap.size + 1, 1, none⟩ (.int .u64 (fl : Nat))).setCell ⟨w.heap.size + 1, 2, none⟩ (.slice p rl c)) 0 (.slice p rl c) R) := owns_base (H3.out.frm HX23.out (by decide) hfz) (Nat.zero_le _)
    have hbe : BoxT (((w3.setCell ⟨w.heap.size + 1, 0, none⟩ (.int .u64 (at' : Nat))).setCell ⟨w.heap.size + 1, 1, none⟩ (.int .u64 (fl : Nat))).setCell ⟨w.heap.size + 1, 2, none⟩ (.slice p rl c)) (w.heap.size + 1) #[.int .u64 (at' : Nat), .int .u64 (fl : Nat), .slice p rl c] 77 := ((HX23.out.set (i := 0) _).set (i := 1) _).set (i := 2) _
    have q0 := hbe.cell (i := 0)
    have q1 := hbe.cell (i := 1)
    have q2 := hbe.cell (i := 2)
    clear hfz hbe HX13 HX23 H3
    go_wp2_with fail
    refine bodyPost_ret (v := .tuple #[.agg #[.int .u64 (at' : Nat), .int .u64 (fl : Nat), .slice p rl c], .int .u64 0, .int .i64 100]) (by simp [results, Try.results45, go_sem, q0, q1, q2]) rfl ?_
    exact ⟨⟨_, by rw [HE.out.1], by rw [HE.out.2]; exact HVE.out⟩, HBE.out⟩
  | true =>
    obtain ⟨hi, hsl⟩ := HHI.out hh
    obtain ⟨m, hm⟩ : ∃ m, m = i + 1 := ⟨_, rfl⟩
    have hmi : (i : Int) + 1 = ((m : Nat) : Int) := by omega
    have HE : Hid (leaE R n = 0 ∧ [R.take i, R.drop m].flatten = goR R n) := ⟨by unfold leaE; rw [hh]; rfl, by
      have h1 := go_at HI.out hi
      rw [hsl] at h1
      rw [h1, hm]
      simp⟩
    clear HHI hsl
    have hrl := HRL.out
    have hic : i ≤ c := by omega
    have hmr : m ≤ rl := by omega
    have hmc : rl ≤ c := by omega
    have hmc2 : m ≤ c := by omega
    have hm256 : m ≤ 256 := by omega
    have hwm : IntKind.i64.wrap (m : Int) = (m : Int) := by rw [IntKind.wrap_i64]; omega
    have HT : Hid ((R.take i).length = i ∧ (R.drop m).length = rl - m) := ⟨by rw [List.length_take]; omega, by rw [List.length_drop]; omega⟩
    obtain ⟨g1, g2, g3, g4, g5⟩ := H3.out.addr
    cases p with
    | none =>
      have := (g1 rfl).1
      rw [this] at hi
      simp at hi
    | some ad =>
      obtain ⟨b, o, rfl⟩ := g2 ad rfl
      have HV0 : Hid (SlR w3 (.slice (some ⟨b, o, none⟩) i c) (R.take i)) := ⟨_, c, by rw [HT.out.1], (fun h => by cases h), (fun a ha => by cases ha; exact ⟨_, _, rfl⟩), g3.take i⟩
      have HV2 : Hid (SlR w3 (.slice (if c = m then some ⟨b, o, none⟩ else some ⟨b, o + m * 2, none⟩) (rl - m) (c - m)) (R.drop m)) := ⟨_, c - m, by rw [HT.out.2], (fun h => by split at h <;> cases h), (fun a ha => by split at ha <;> cases ha <;> exact ⟨_, _, rfl⟩), by
        split
        · intro i hi
          rw [HT.out.2] at hi
          omega
        · exact g3.drop m⟩
      have HS0 : Hid (w3.drew.cell? ⟨w.heap.size, 2, none⟩ = some (.slice (some ⟨b, o, none⟩) rl c)) := HX13.out.cell
      clear g1 g2 g3 g4 g5 hm hrl hi
      go_wp2_with fail
      refine wp_region_L (fun w' => w'.cell? ⟨w.heap.size, 2, none⟩ = some (.slice (some ⟨b, o, none⟩) rl c)) 12 (by kernel_rfl) ?_
      refine wpL_take (v := ?_) 0 rfl (by kernel_rfl) (fun _ _ _ h => h) (by rfl) ?_ HS0.out ?_
      rotate_left
      focus
        intro w9 hw9
        go_simp
        try with_reducible rfl
      try simp only [Act.put, List.setIfInBounds_toArray, List.set_cons_zero, List.set_cons_succ]
      refine wpL_take (v := ?_) 2 rfl (by kernel_rfl) (fun _ _ _ h => h) (by rfl) ?_ HS0.out ?_
      rotate_left
      focus
        intro w9 hw9
        go_simp
        try with_reducible rfl
      try simp only [Act.put, List.setIfInBounds_toArray, List.set_cons_zero, List.set_cons_succ]
      refine wpL_take (v := ?_) 4 rfl (by kernel_rfl) (fun _ _ _ h => h) (by rfl) ?_ HS0.out ?_
      rotate_left
      focus
        intro w9 hw9
        go_simp
        try with_reducible rfl
      try simp only [Act.put, List.setIfInBounds_toArray, List.set_cons_zero, List.set_cons_succ]
      refine wpL_take (v := ?_) 6 rfl (by kernel_rfl) (fun _ _ _ h => h) (by rfl) ?_ HS0.out ?_
      rotate_left
      focus
        intro w9 hw9
        go_simp
        try with_reducible rfl
      try simp only [Act.put, List.setIfInBounds_toArray, List.set_cons_zero, List.set_cons_succ]
      refine wpL_take (v := ?_) 7 rfl (by kernel_rfl) (fun _ _ _ h => h) (by rfl) ?_ HS0.out ?_
      rotate_left
      focus
        intro w9 hw9
        go_simp
        try with_reducible rfl
      try simp only [Act.put, List.setIfInBounds_toArray, List.set_cons_zero, List.set_cons_succ]
      refine wpL_take (v := ?_) 1 rfl (by kernel_rfl) (fun _ _ _ h => h) (by rfl) ?_ HS0.out ?_
      rotate_left
      focus
        intro w9 hw9
        go_simp
        try with_reducible rfl
      try simp only [Act.put, List.setIfInBounds_toArray, List.set_cons_zero, List.set_cons_succ]
      refine wpL_take (v := ?_) 5 rfl (by kernel_rfl) (fun _ _ _ h => h) (by rfl) ?_ HS0.out ?_
      rotate_left
      focus
        intro w9 hw9
        go_simp
        try with_reducible rfl
      try simp only [Act.put, List.setIfInBounds_toArray, List.set_cons_zero, List.set_cons_succ]
      refine wpL_take (v := ?_) 3 rfl (by kernel_rfl) (fun _ _ _ h => h) (by rfl) ?_ HS0.out ?_
      rotate_left
      focus
        intro w9 hw9
        go_simp
        try with_reducible rfl
      try simp only [Act.put, List.setIfInBounds_toArray, List.set_cons_zero, List.set_cons_succ]
      refine wpL_take (v := ?_) 8 rfl (by kernel_rfl) (fun _ _ _ h => h) (by rfl) ?_ HS0.out ?_
      rotate_left
      focus
        intro w9 hw9
        go_simp
        try with_reducible rfl
      try simp only [Act.put, List.setIfInBounds_toArray, List.set_cons_zero, List.set_cons_succ]
      generalize (if c = m then some ⟨b, o, none⟩ else some ⟨b, o + m * 2, none⟩ : Option Addr) = p2 at *
      have L5 : Below w3.heap.size w3 (w3.alloc (.cells #[.slice (some ⟨b, o, none⟩) i c, .slice p2 (rl - m) (c - m)] 27)) := (Below.refl _ _).alloc (Nat.le_refl _) _
      have X5 : BoxT (w3.alloc (.cells #[.slice (some ⟨b, o, none⟩) i c, .slice p2 (rl - m) (c - m)] 27)) w3.heap.size #[.slice (some ⟨b, o, none⟩) i c, .slice p2 (rl - m) (c - m)] 27 := BoxT.new _ _ _
      have HS5 : Hid ((w3.alloc (.cells #[.slice (some ⟨b, o, none⟩) i c, .slice p2 (rl - m) (c - m)] 27)).drew.cell? ⟨w.heap.size, 2, none⟩ = some (.slice (some ⟨b, o, none⟩) rl c)) := (HX13.out.on L5).cell
      have C2 : Hid (Calls Try.prog 71 #[.slice (some ⟨w3.heap.size, 0, none⟩) 2 2] (w3.alloc (.cells #[.slice (some ⟨b, o, none⟩) i c, .slice p2 (rl - m) (c - m)] 27)).drew fun e w' => (∃ v, e = .returned v ∧ OwR w' (w3.alloc (.cells #[.slice (some ⟨b, o, none⟩) i c, .slice p2 (rl - m) (c - m)] 27)).drew.heap.size v (goR R n)) ∧ Below (w3.alloc (.cells #[.slice (some ⟨b, o, none⟩) i c, .slice p2 (rl - m) (c - m)] 27)).drew.heap.size (w3.alloc (.cells #[.slice (some ⟨b, o, none⟩) i c, .slice p2 (rl - m) (c - m)] 27)).drew w') := by
        have h := concat_any [R.take i, R.drop m] w3.heap.size (w3.alloc (.cells #[.slice (some ⟨b, o, none⟩) i c, .slice p2 (rl - m) (c - m)] 27)).drew X5.lt (fun ii hii => by
          match ii, hii with
          | 0, _ => exact ⟨_, X5.cell, (show SlR (w3.alloc (.cells #[.slice (some ⟨b, o, none⟩) i c, .slice p2 (rl - m) (c - m)] 27)) _ _ from HV0.out.on L5)⟩
          | 1, _ => exact ⟨_, X5.cell, (show SlR (w3.alloc (.cells #[.slice (some ⟨b, o, none⟩) i c, .slice p2 (rl - m) (c - m)] 27)) _ _ from HV2.out.on L5)⟩) (by simp) (fun L hL => by
            have h1 := HT.out
            have h2 := HRL.out
            simp only [List.mem_cons, List.not_mem_nil, or_false] at hL
            rcases hL with e | e
            · rw [e, h1.1]; omega
            · rw [e, h1.2]; omega)
        rw [HE.out.2] at h
        exact h
      have HZ : Hid (w.heap.size + 1 < w3.heap.size) := HX23.out.lt
      have HX15 : Hid (BoxT (w3.alloc (.cells #[.slice (some ⟨b, o, none⟩) i c, .slice p2 (rl - m) (c - m)] 27)) w.heap.size #[.int .u64 (at' : Nat), .int .u64 (fl : Nat), (.slice (some ⟨b, o, none⟩) rl c)] 77) := HX13.out.on L5
      have HX25 : Hid (BoxT (w3.alloc (.cells #[.slice (some ⟨b, o, none⟩) i c, .slice p2 (rl - m) (c - m)] 27)) (w.heap.size + 1) #[.int .u64 0, .int .u64 0, .slice none 0 0] 77) := HX23.out.on L5
      have HLW : Hid (Below w.heap.size w (w3.alloc (.cells #[.slice (some ⟨b, o, none⟩) i c, .slice p2 (rl - m) (c - m)] 27))) := HL3.out.trans (L5.mono HL3.out.size)
      have HSZ : Hid (w3.heap.size ≤ (w3.alloc (.cells #[.slice (some ⟨b, o, none⟩) i c, .slice p2 (rl - m) (c - m)] 27)).heap.size) := L5.size
      clear L5 X5 n0 n1 n2
      refine wpL_one 9 rfl (by kernel_rfl) (by rfl) ?_
      intro K hK
      go_simp
      refine hK.out _ _ (fun _ => HS5.out) ?_
      clear hK K
      try simp only [Act.put, List.setIfInBounds_toArray, List.set_cons_zero, List.set_cons_succ]
      generalize (w3.alloc (.cells #[.slice (some ⟨b, o, none⟩) i c, .slice p2 (rl - m) (c - m)] 27)) = w5 at *
      refine wpL_one 10 rfl (by kernel_rfl) (by rfl) ?_
      intro K hK
      go_simp
      refine C2.out.mono ?_
      rintro e w6 ⟨⟨v6, rfl, hv6⟩, hb6⟩
      dsimp only
      obtain ⟨p6, c6, e6, -⟩ := hv6.rd
      obtain ⟨l6, hl6⟩ : ∃ l, l = (goR R n).length := ⟨_, rfl⟩
      rw [← hl6] at e6
      subst e6
      have HX16 : Hid (BoxT w6 w.heap.size #[.int .u64 (at' : Nat), .int .u64 (fl : Nat), (.slice (some ⟨b, o, none⟩) rl c)] 77) := BoxT.on (w := w5.drew) HX15.out hb6
      have HX26 : Hid (BoxT w6 (w.heap.size + 1) #[.int .u64 0, .int .u64 0, .slice none 0 0] 77) := BoxT.on (w := w5.drew) HX25.out hb6
      have HV6 : Hid (OwR w6 w5.heap.size (.slice p6 l6 c6) (goR R n)) := hv6
      have HL6 : Hid (Below w.heap.size w w6) := Below.trans (b := w5.drew) ⟨HLW.out.os, HLW.out.tape, HLW.out.output, HLW.out.size, HLW.out.block⟩ (hb6.mono HLW.out.size)
      have HS6 : Hid (w6.cell? ⟨w.heap.size, 2, none⟩ = some (.slice (some ⟨b, o, none⟩) rl c)) := HX16.out.cell
      clear hv6 hb6 hl6
      refine hK.out _ _ (fun _ => HS6.out) ?_
      clear hK K
      try simp only [Act.put, List.setIfInBounds_toArray, List.set_cons_zero, List.set_cons_succ]
      refine wpL_one 11 rfl (by kernel_rfl) (by rfl) ?_
      intro K hK
      go_simp
      refine hK.out _ _ (fun _ => HS6.out) ?_
      clear hK K
      try simp only [Act.put, List.setIfInBounds_toArray, List.set_cons_zero, List.set_cons_succ]
      have o2 : w6.frozen? ⟨w.heap.size, 2, none⟩ = false := HX16.out.frozen
      have o3 : w6.cell? ⟨w.heap.size, 2, none⟩ = some (.slice (some ⟨b, o, none⟩) rl c) := HX16.out.cell
      refine wpL_one 12 rfl (by kernel_rfl) (by rfl) ?_
      intro K hK
      go_simp
      refine hK.out _ _ (fun h => absurd rfl h) ?_
      clear hK K
      refine wpL_done (by kernel_rfl) ?_ _
      try simp only [NoPanic]
      have n0 : w6.cell? ⟨w.heap.size, 0, none⟩ = some (.int .u64 (at' : Nat)) := HX16.out.cell
      have n1 : w6.cell? ⟨w.heap.size, 1, none⟩ = some (.int .u64 (fl : Nat)) := HX16.out.cell
      have g0 : w6.cell? ⟨w.heap.size + 1, 0, none⟩ = some (.int .u64 0) := HX26.out.cell
      have g1 : w6.cell? ⟨w.heap.size + 1, 1, none⟩ = some (.int .u64 0) := HX26.out.cell
      have g2 : w6.cell? ⟨w.heap.size + 1, 2, none⟩ = some (.slice none 0 0) := HX26.out.cell
      have y0 : w6.frozen? ⟨w.heap.size + 1, 0, none⟩ = false := HX26.out.frozen
      have y1 : w6.frozen? ⟨w.heap.size + 1, 1, none⟩ = false := HX26.out.frozen
      have y2 : w6.frozen? ⟨w.heap.size + 1, 2, none⟩ = false := HX26.out.frozen
      have hfz : Frm w6 ((((w6.setCell ⟨w.heap.size, 2, none⟩ (.slice p6 l6 c6)).setCell ⟨w.heap.size + 1, 0, none⟩ (.int .u64 (at' : Nat))).setCell ⟨w.heap.size + 1, 1, none⟩ (.int .u64 (fl : Nat))).setCell ⟨w.heap.size + 1, 2, none⟩ (.slice p6 l6 c6)) (fun k => k = w.heap.size ∨ k = w.heap.size + 1) := (((frm_set w6 _ 2 _ (F := fun k => k = w.heap.size ∨ k = w.heap.size + 1) (.inl rfl)).trans (frm_set _ _ 0 _ (F := fun k => k = w.heap.size ∨ k = w.heap.size + 1) (.inr rfl))).trans (frm_set _ _ 1 _ (F := fun k => k = w.heap.size ∨ k = w.heap.size + 1) (.inr rfl))).trans (frm_set _ _ 2 _ (F := fun k => k = w.heap.size ∨ k = w.heap.size + 1) (.inr rfl))
      have HBE : Hid (Below w.heap.size w ((((w6.setCell ⟨w.heap.size, 2, none⟩ (.slice p6 l6 c6)).setCell ⟨w.heap.size + 1, 0, none⟩ (.int .u64 (at' : Nat))).setCell ⟨w.heap.size + 1, 1, none⟩ (.int .u64 (fl : Nat))).setCell ⟨w.heap.size + 1, 2, none⟩ (.slice p6 l6 c6))) := HL6.out.trans (hfz.below HL6.out.size (fun k hk => by omega))
      have HVE : Hid (OwR ((((w6.setCell ⟨w.heap.size, 2, none⟩ (.slice p6 l6 c6)).setCell ⟨w.heap.size + 1, 0, none⟩ (.int .u64 (at' : Nat))).setCell ⟨w.heap.size + 1, 1, none⟩ (.int .u64 (fl : Nat))).setCell ⟨w.heap.size + 1, 2, none⟩ (.slice p6 l6 c6)) 0 (.slice p6 l6 c6) (goR R n)) := owns_base (owns_block HV6.out (fun g hg => by
        obtain ⟨cur, h1⟩ := own_cells HV6.out hg
        refine hfz.block g (Array.getElem?_eq_some_iff.1 h1).1 (fun e => ?_)
        have h2 : w5.heap.size ≤ g := by
          rcases HV6.out.2 with ⟨e, _⟩ | ⟨g', cap, cur, e, hge, _⟩
          · rw [e] at hg; cases hg
          · rw [e] at hg; cases hg; exact hge
        have h3 := HZ.out
        have h4 := HSZ.out
        omega)) (Nat.zero_le _)
      have hbe : BoxT ((((w6.setCell ⟨w.heap.size, 2, none⟩ (.slice p6 l6 c6)).setCell ⟨w.heap.size + 1, 0, none⟩ (.int .u64 (at' : Nat))).setCell ⟨w.heap.size + 1, 1, none⟩ (.int .u64 (fl : Nat))).setCell ⟨w.heap.size + 1, 2, none⟩ (.slice p6 l6 c6)) (w.heap.size + 1) #[.int .u64 (at' : Nat), .int .u64 (fl : Nat), .slice p6 l6 c6] 77 := (((HX26.out.off (i := 2) _ (by omega)).set (i := 0) _).set (i := 1) _).set (i := 2) _
      have q0 := hbe.cell (i := 0)
      have q1 := hbe.cell (i := 1)
      have q2 := hbe.cell (i := 2)
      clear hfz hbe C2 HS0 HS5 HS6 HX13 HX23 HX15 HX25 HX16 HX26 HV6 HL6 HLW HV0 HV2
      go_wp2_with fail
      refine bodyPost_ret (v := .tuple #[.agg #[.int .u64 (at' : Nat), .int .u64 (fl : Nat), .slice p6 l6 c6], .int .u64 0, .int .i64 0]) (by simp [results, Try.results45, go_sem, q0, q1, q2]) rfl ?_
      exact ⟨⟨_, by rw [HE.out.1], HVE.out⟩, HBE.out⟩
end Go.Proofs.Ytbmgkoifidhfjaa
