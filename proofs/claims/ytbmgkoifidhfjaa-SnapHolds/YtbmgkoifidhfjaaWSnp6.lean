/- enter of a state. -/
import Derived.Test.YtbmgkoifidhfjaaWSnp4
import Derived.Test.YtbmgkoifidhfjaaWSnp5
import Derived.Test.YtbmgkoifidhfjaaWHeld
namespace Go.Proofs.Ytbmgkoifidhfjaa
open Go.RowKit
set_option maxRecDepth 100000

theorem RdR.take {w : World} {p : Option Addr} {R : List Rd} (h : RdR w p R) (k : Nat) : RdR w p (R.take k) := fun i hi => by
  have h1 : i < R.length := by rw [List.length_take] at hi; omega
  obtain ⟨b, o, e, hl, c0, c1⟩ := h i h1
  exact ⟨b, o, e, hl, by rw [List.getElem_take]; exact c0, by rw [List.getElem_take]; exact c1⟩
theorem RdR.drop {w : World} {b o : Nat} {R : List Rd} (h : RdR w (some ⟨b, o, none⟩) R) (k : Nat) : RdR w (some ⟨b, o + k * 2, none⟩) (R.drop k) := fun i hi => by
  have h1 : k + i < R.length := by rw [List.length_drop] at hi; omega
  obtain ⟨b', o', e, hl, c0, c1⟩ := h (k + i) h1
  injection e with e
  injection e with e1 e2
  subst e1 e2
  refine ⟨b, o + k * 2, rfl, hl, ?_, ?_⟩
  · rw [List.getElem_drop, show o + k * 2 + i * 2 = o + (k + i) * 2 by omega]; exact c0
  · rw [List.getElem_drop, show o + k * 2 + i * 2 + 1 = o + (k + i) * 2 + 1 by omega]; exact c1
theorem ent_flat (R : List Rd) (s : Nat) : [R.take (freeN R), [⟨freeN R, s⟩], R.drop (freeN R)].flatten = entR R s := by simp [entR]
theorem SlR.one (w : World) (k s : Nat) (w' : World) (hw : w' = w.alloc (.cells #[.int .i64 (k : Nat), .int .u64 (s : Nat)] 49)) : SlR w' (.slice (some ⟨w.heap.size, 0, none⟩) 1 1) [⟨k, s⟩] := by
  subst hw
  have hB := BoxT.new w #[.int .i64 (k : Nat), .int .u64 (s : Nat)] 49
  refine ⟨_, _, rfl, (fun h => by cases h), (fun a ha => by cases ha; exact ⟨_, _, rfl⟩), fun i hi => ?_⟩
  have e : i = 0 := by simp at hi; omega
  subst e
  exact ⟨w.heap.size, 0, rfl, hB.lt, hB.cell, hB.cell⟩

set_option maxHeartbeats 4000000 in
theorem enter1 (at' fl B s : Nat) (v : Value) (R : List Rd) (w : World) (h : OwR w B v R) (hI : InvR R) (hs : 4611686018427387904 < s) :
    Calls Try.prog 43 #[.agg #[.int .u64 (at' : Nat), .int .u64 (fl : Nat), v], .int .u64 (s : Nat)] w fun e w' => (∃ v', e = .returned (.tuple #[.agg #[.int .u64 (at' : Nat), .int .u64 (fl : Nat), v'], .int .u64 (entN fl R s : Nat), .int .i64 (entE fl R s)]) ∧ OwR w' 0 v' (entL fl R s)) ∧ Below w.heap.size w w' := by
  have H0 : Hid (OwR w B v R) := h
  have hlen := hI.len
  obtain ⟨p, c, ev, hle, -⟩ := h.rd
  obtain ⟨rl, hrl⟩ : ∃ rl, rl = R.length := ⟨_, rfl⟩
  rw [← hrl] at ev
  subst ev
  have hE : entE fl R s = 1 := by
    unfold entE
    rw [if_pos hs]
  have hL : entL fl R s = R := by unfold entL; rw [hE, if_neg (by decide)]
  have hN : entN fl R s = 0 := by unfold entN; rw [hE, if_neg (by decide)]
  rw [hE, hL, hN]
  have q : (4611686018427387904 : Int) < (s : Int) := by omega
  clear hs hle hlen hrl
  have HB : Hid (Below w.heap.size w ((w.alloc (.cells #[.int .u64 (at' : Nat), .int .u64 (fl : Nat), .slice p rl c] 77)).alloc (.cells #[.int .u64 (at' : Nat), .int .u64 (fl : Nat), .slice p rl c] 77))) := by
    show Below _ _ _
    go_grown
  have hbe : BoxT ((w.alloc (.cells #[.int .u64 (at' : Nat), .int .u64 (fl : Nat), .slice p rl c] 77)).alloc (.cells #[.int .u64 (at' : Nat), .int .u64 (fl : Nat), .slice p rl c] 77)) (w.heap.size + 1) #[.int .u64 (at' : Nat), .int .u64 (fl : Nat), .slice p rl c] 77 := by
    have h := BoxT.new (w.alloc (.cells #[.int .u64 (at' : Nat), .int .u64 (fl : Nat), .slice p rl c] 77)) #[.int .u64 (at' : Nat), .int .u64 (fl : Nat), .slice p rl c] 77
    have e : (w.alloc (.cells #[.int .u64 (at' : Nat), .int .u64 (fl : Nat), .slice p rl c] 77)).heap.size = w.heap.size + 1 := by simp
    rw [e] at h
    exact h
  have q0 := hbe.cell (i := 0)
  have q1 := hbe.cell (i := 1)
  have q2 := hbe.cell (i := 2)
  clear hbe hE hL hN h hI
  go_enter Try.func43, Try.ntmps43
  go_wp2_with fail
  refine bodyPost_ret (v := .tuple #[.agg #[.int .u64 (at' : Nat), .int .u64 (fl : Nat), .slice p rl c], .int .u64 0, .int .i64 1]) (by simp [results, Try.results43, go_sem, q0, q1, q2]) rfl ?_
  exact ⟨⟨_, rfl, owns_base (H0.out.on HB.out) (Nat.zero_le _)⟩, HB.out⟩

set_option maxHeartbeats 4000000 in
theorem enter2 (at' fl B s : Nat) (v : Value) (R : List Rd) (w : World) (h : OwR w B v R) (hI : InvR R) (hs : ¬ 4611686018427387904 < s) (hs2 : s < fl) :
    Calls Try.prog 43 #[.agg #[.int .u64 (at' : Nat), .int .u64 (fl : Nat), v], .int .u64 (s : Nat)] w fun e w' => (∃ v', e = .returned (.tuple #[.agg #[.int .u64 (at' : Nat), .int .u64 (fl : Nat), v'], .int .u64 (entN fl R s : Nat), .int .i64 (entE fl R s)]) ∧ OwR w' 0 v' (entL fl R s)) ∧ Below w.heap.size w w' := by
  have H0 : Hid (OwR w B v R) := h
  have hlen := hI.len
  obtain ⟨p, c, ev, hle, -⟩ := h.rd
  obtain ⟨rl, hrl⟩ : ∃ rl, rl = R.length := ⟨_, rfl⟩
  rw [← hrl] at ev
  subst ev
  have hE : entE fl R s = 101 := by
    unfold entE
    rw [if_neg hs, if_pos hs2]
  have hL : entL fl R s = R := by unfold entL; rw [hE, if_neg (by decide)]
  have hN : entN fl R s = 0 := by unfold entN; rw [hE, if_neg (by decide)]
  rw [hE, hL, hN]
  have q : ¬ (4611686018427387904 : Int) < (s : Int) := by omega
  have q' : (s : Int) < (fl : Int) := by omega
  clear hs hs2 hle hlen hrl
  have HB : Hid (Below w.heap.size w ((w.alloc (.cells #[.int .u64 (at' : Nat), .int .u64 (fl : Nat), .slice p rl c] 77)).alloc (.cells #[.int .u64 (at' : Nat), .int .u64 (fl : Nat), .slice p rl c] 77))) := by
    show Below _ _ _
    go_grown
  have hbe : BoxT ((w.alloc (.cells #[.int .u64 (at' : Nat), .int .u64 (fl : Nat), .slice p rl c] 77)).alloc (.cells #[.int .u64 (at' : Nat), .int .u64 (fl : Nat), .slice p rl c] 77)) (w.heap.size + 1) #[.int .u64 (at' : Nat), .int .u64 (fl : Nat), .slice p rl c] 77 := by
    have h := BoxT.new (w.alloc (.cells #[.int .u64 (at' : Nat), .int .u64 (fl : Nat), .slice p rl c] 77)) #[.int .u64 (at' : Nat), .int .u64 (fl : Nat), .slice p rl c] 77
    have e : (w.alloc (.cells #[.int .u64 (at' : Nat), .int .u64 (fl : Nat), .slice p rl c] 77)).heap.size = w.heap.size + 1 := by simp
    rw [e] at h
    exact h
  have q0 := hbe.cell (i := 0)
  have q1 := hbe.cell (i := 1)
  have q2 := hbe.cell (i := 2)
  clear hbe hE hL hN h hI
  go_enter Try.func43, Try.ntmps43
  go_wp2_with fail
  refine bodyPost_ret (v := .tuple #[.agg #[.int .u64 (at' : Nat), .int .u64 (fl : Nat), .slice p rl c], .int .u64 0, .int .i64 101]) (by simp [results, Try.results43, go_sem, q0, q1, q2]) rfl ?_
  exact ⟨⟨_, rfl, owns_base (H0.out.on HB.out) (Nat.zero_le _)⟩, HB.out⟩

set_option maxHeartbeats 4000000 in
theorem enter3 (at' fl B s : Nat) (v : Value) (R : List Rd) (w : World) (h : OwR w B v R) (hI : InvR R) (hs : ¬ 4611686018427387904 < s) (hs2 : ¬ s < fl) (hs3 : R.length = 256) :
    Calls Try.prog 43 #[.agg #[.int .u64 (at' : Nat), .int .u64 (fl : Nat), v], .int .u64 (s : Nat)] w fun e w' => (∃ v', e = .returned (.tuple #[.agg #[.int .u64 (at' : Nat), .int .u64 (fl : Nat), v'], .int .u64 (entN fl R s : Nat), .int .i64 (entE fl R s)]) ∧ OwR w' 0 v' (entL fl R s)) ∧ Below w.heap.size w w' := by
  have H0 : Hid (OwR w B v R) := h
  have hlen := hI.len
  obtain ⟨p, c, ev, hle, -⟩ := h.rd
  obtain ⟨rl, hrl⟩ : ∃ rl, rl = R.length := ⟨_, rfl⟩
  rw [← hrl] at ev
  subst ev
  have hE : entE fl R s = 2 := by
    unfold entE
    rw [if_neg hs, if_neg hs2, if_pos hs3]
  have hL : entL fl R s = R := by unfold entL; rw [hE, if_neg (by decide)]
  have hN : entN fl R s = 0 := by unfold entN; rw [hE, if_neg (by decide)]
  rw [hE, hL, hN]
  have q : ¬ (4611686018427387904 : Int) < (s : Int) := by omega
  have q' : ¬ (s : Int) < (fl : Int) := by omega
  have q3 : (rl : Int) = 256 := by omega
  clear hs hs2 hs3 hle hlen hrl
  have HB : Hid (Below w.heap.size w ((w.alloc (.cells #[.int .u64 (at' : Nat), .int .u64 (fl : Nat), .slice p rl c] 77)).alloc (.cells #[.int .u64 (at' : Nat), .int .u64 (fl : Nat), .slice p rl c] 77))) := by
    show Below _ _ _
    go_grown
  have hbe : BoxT ((w.alloc (.cells #[.int .u64 (at' : Nat), .int .u64 (fl : Nat), .slice p rl c] 77)).alloc (.cells #[.int .u64 (at' : Nat), .int .u64 (fl : Nat), .slice p rl c] 77)) (w.heap.size + 1) #[.int .u64 (at' : Nat), .int .u64 (fl : Nat), .slice p rl c] 77 := by
    have h := BoxT.new (w.alloc (.cells #[.int .u64 (at' : Nat), .int .u64 (fl : Nat), .slice p rl c] 77)) #[.int .u64 (at' : Nat), .int .u64 (fl : Nat), .slice p rl c] 77
    have e : (w.alloc (.cells #[.int .u64 (at' : Nat), .int .u64 (fl : Nat), .slice p rl c] 77)).heap.size = w.heap.size + 1 := by simp
    rw [e] at h
    exact h
  have q0 := hbe.cell (i := 0)
  have q1 := hbe.cell (i := 1)
  have q2 := hbe.cell (i := 2)
  clear hbe hE hL hN h hI
  go_enter Try.func43, Try.ntmps43
  go_wp2_with fail
  refine bodyPost_ret (v := .tuple #[.agg #[.int .u64 (at' : Nat), .int .u64 (fl : Nat), .slice p rl c], .int .u64 0, .int .i64 2]) (by simp [results, Try.results43, go_sem, q0, q1, q2]) rfl ?_
  exact ⟨⟨_, rfl, owns_base (H0.out.on HB.out) (Nat.zero_le _)⟩, HB.out⟩

set_option maxHeartbeats 4000000 in
theorem enter4 (at' fl B s : Nat) (v : Value) (R : List Rd) (w : World) (h : OwR w B v R) (hI : InvR R) (hs : ¬ 4611686018427387904 < s) (hs2 : ¬ s < fl) (hs3 : ¬ R.length = 256) :
    Calls Try.prog 43 #[.agg #[.int .u64 (at' : Nat), .int .u64 (fl : Nat), v], .int .u64 (s : Nat)] w fun e w' => (∃ v', e = .returned (.tuple #[.agg #[.int .u64 (at' : Nat), .int .u64 (fl : Nat), v'], .int .u64 (entN fl R s : Nat), .int .i64 (entE fl R s)]) ∧ OwR w' 0 v' (entL fl R s)) ∧ Below w.heap.size w w' := by
  have H0 : Hid (OwR w B v R) := h
  have hlen := hI.len
  obtain ⟨p, c, ev, hle, -⟩ := h.rd
  obtain ⟨rl, hrl⟩ : ∃ rl, rl = R.length := ⟨_, rfl⟩
  rw [← hrl] at ev
  subst ev
  have hE : entE fl R s = 0 := by
    unfold entE
    rw [if_neg hs, if_neg hs2, if_neg hs3]
  have hL : entL fl R s = entR R s := by unfold entL; rw [hE, if_pos rfl]
  have hN : entN fl R s = freeN R := by unfold entN; rw [hE, if_pos rfl]
  rw [hE, hL, hN]
  have q : ¬ (4611686018427387904 : Int) < (s : Int) := by omega
  have q' : ¬ (s : Int) < (fl : Int) := by omega
  have q3 : ¬ (rl : Int) = 256 := by omega
  have hs1 : (w.alloc (.cells #[.int .u64 (at' : Nat), .int .u64 (fl : Nat), .slice p rl c] 77)).heap.size = w.heap.size + 1 := by simp
  have L1 : Below w.heap.size w (w.alloc (.cells #[.int .u64 (at' : Nat), .int .u64 (fl : Nat), .slice p rl c] 77)) := (Below.refl _ _).alloc (Nat.le_refl _) _
  have L2 : Below (w.alloc (.cells #[.int .u64 (at' : Nat), .int .u64 (fl : Nat), .slice p rl c] 77)).heap.size (w.alloc (.cells #[.int .u64 (at' : Nat), .int .u64 (fl : Nat), .slice p rl c] 77)) ((w.alloc (.cells #[.int .u64 (at' : Nat), .int .u64 (fl : Nat), .slice p rl c] 77)).alloc (.cells #[.int .u64 0, .int .u64 0, .slice none 0 0] 77)) := (Below.refl _ _).alloc (Nat.le_refl _) _
  have X1 : BoxT (w.alloc (.cells #[.int .u64 (at' : Nat), .int .u64 (fl : Nat), .slice p rl c] 77)) w.heap.size #[.int .u64 (at' : Nat), .int .u64 (fl : Nat), .slice p rl c] 77 := BoxT.new _ _ _
  have X2 : BoxT ((w.alloc (.cells #[.int .u64 (at' : Nat), .int .u64 (fl : Nat), .slice p rl c] 77)).alloc (.cells #[.int .u64 0, .int .u64 0, .slice none 0 0] 77)) (w.heap.size + 1) #[.int .u64 0, .int .u64 0, .slice none 0 0] 77 := by rw [← hs1]; exact BoxT.new _ _ _
  have HX1 : Hid (BoxT _ _ _ _) := X1.on L2
  have HX2 : Hid (BoxT _ _ _ _) := X2
  have HL : Hid (Below w.heap.size w ((w.alloc (.cells #[.int .u64 (at' : Nat), .int .u64 (fl : Nat), .slice p rl c] 77)).alloc (.cells #[.int .u64 0, .int .u64 0, .slice none 0 0] 77))) := L1.trans (L2.mono (by omega))
  have H2 : Hid (OwR ((w.alloc (.cells #[.int .u64 (at' : Nat), .int .u64 (fl : Nat), .slice p rl c] 77)).alloc (.cells #[.int .u64 0, .int .u64 0, .slice none 0 0] 77)) B (.slice p rl c) R) := H0.out.on HL.out
  have C1 : Hid (Calls _ _ _ _ _) := free_any at' fl B (.slice p rl c) R ((w.alloc (.cells #[.int .u64 (at' : Nat), .int .u64 (fl : Nat), .slice p rl c] 77)).alloc (.cells #[.int .u64 0, .int .u64 0, .slice none 0 0] 77)) H2.out hI
  have HF : Hid (freeN R ≤ R.length) := (free_is hI).1
  have HRL : Hid (rl = R.length ∧ R.length ≤ 256 ∧ R.length ≤ c) := ⟨hrl, hlen, hle⟩
  clear hE hL hN hs1 L1 L2 X1 X2 h hI hs hs2 hs3 hrl hlen hle H0
  go_enter Try.func43, Try.ntmps43
  go_wp2_with fail
  generalize ((w.alloc (.cells #[.int .u64 (at' : Nat), .int .u64 (fl : Nat), .slice p rl c] 77)).alloc (.cells #[.int .u64 0, .int .u64 0, .slice none 0 0] 77)) = w2 at *
  refine C1.out.mono ?_
  rintro e w3 ⟨rfl, hb3⟩
  have HX13 : Hid (BoxT w3 w.heap.size #[.int .u64 (at' : Nat), .int .u64 (fl : Nat), .slice p rl c] 77) := HX1.out.on hb3
  have HX23 : Hid (BoxT w3 (w.heap.size + 1) #[.int .u64 0, .int .u64 0, .slice none 0 0] 77) := HX2.out.on hb3
  have HL3 : Hid (Below w.heap.size w w3) := HL.out.trans (hb3.mono HL.out.size)
  have H3 : Hid (OwR w3 B (.slice p rl c) R) := H2.out.on hb3
  clear hb3 C1 HX1 HX2 HL H2 q q' q3
  have hk := HF.out
  have hrl := HRL.out
  obtain ⟨k, hkk⟩ : ∃ k, k = freeN R := ⟨_, rfl⟩
  have HFL : Hid ([R.take k, [⟨k, s⟩], R.drop k].flatten = entR R s) := by rw [hkk]; exact ent_flat R s
  have HKK : Hid (k = freeN R) := hkk
  rw [← hkk] at hk ⊢
  clear hkk
  have hkr : k ≤ rl := by omega
  have hkc : rl ≤ c := by omega
  have HT : Hid ((R.take k).length = k ∧ (R.drop k).length = rl - k) := ⟨by rw [List.length_take]; omega, by rw [List.length_drop]; omega⟩
  obtain ⟨g1, g2, g3, g4, g5⟩ := H3.out.addr
  obtain ⟨-, -, -, -, -, g6, -⟩ := H3.out.rd
  clear hk hrl HF
  have HS0 : Hid (w3.drew.cell? ⟨w.heap.size, 2, none⟩ = some (.slice p rl c)) := HX13.out.cell
  cases p with
  | none =>
    obtain ⟨hr0, hc0⟩ := g1 rfl
    have hrl0 : rl = 0 := by rw [g4, hr0]; rfl
    subst hc0 hrl0
    have hk0 : k = 0 := by omega
    subst hk0
    have HV0 : Hid (SlR w3 (.slice none 0 0) (R.take 0)) := ⟨none, 0, by simp, fun _ => ⟨by simp, rfl⟩, (fun a ha => by cases ha), fun i hi => absurd hi (by simp)⟩
    have HV2 : Hid (SlR w3 (.slice none 0 0) (R.drop 0)) := ⟨none, 0, by simp [hr0], fun _ => ⟨by simp [hr0], rfl⟩, (fun a ha => by cases ha), fun i hi => by simp [hr0] at hi⟩
    clear g1 g2 g3 g4 g5 hkr hkc hr0
    go_wp2_with fail
    refine wp_region_L (fun w' => w'.cell? ⟨w.heap.size, 2, none⟩ = some (.slice none 0 0)) 15 (by kernel_rfl) ?_
    refine wpL_take (v := ?_) 0 rfl (by kernel_rfl) (fun _ _ _ h => h) (by rfl) ?_ HS0.out ?_
    rotate_left
    focus
      intro w9 hw9
      go_simp
      try with_reducible rfl
    try simp only [Act.put, List.setIfInBounds_toArray, List.set_cons_zero, List.set_cons_succ]
    refine wpL_take (v := ?_) 2 rfl (by kernel_rfl) (fun _ _ _ h => h) (by rfl) ?_ HS0.out ?_
    rotate_left
    focus
      intro w9 hw9
      go_simp
      try with_reducible rfl
    try simp only [Act.put, List.setIfInBounds_toArray, List.set_cons_zero, List.set_cons_succ]
    refine wpL_take (v := ?_) 4 rfl (by kernel_rfl) (fun _ _ _ h => h) (by rfl) ?_ HS0.out ?_
    rotate_left
    focus
      intro w9 hw9
      go_simp
      try with_reducible rfl
    try simp only [Act.put, List.setIfInBounds_toArray, List.set_cons_zero, List.set_cons_succ]
    refine wpL_take (v := ?_) 5 rfl (by kernel_rfl) (fun _ _ _ h => h) (by rfl) ?_ HS0.out ?_
    rotate_left
    focus
      intro w9 hw9
      go_simp
      try with_reducible rfl
    try simp only [Act.put, List.setIfInBounds_toArray, List.set_cons_zero, List.set_cons_succ]
    refine wpL_take (v := ?_) 6 rfl (by kernel_rfl) (fun _ _ _ h => h) (by rfl) ?_ HS0.out ?_
    rotate_left
    focus
      intro w9 hw9
      go_simp
      try with_reducible rfl
    try simp only [Act.put, List.setIfInBounds_toArray, List.set_cons_zero, List.set_cons_succ]
    refine wpL_take (v := ?_) 8 rfl (by kernel_rfl) (fun _ _ _ h => h) (by rfl) ?_ HS0.out ?_
    rotate_left
    focus
      intro w9 hw9
      go_simp
      try with_reducible rfl
    try simp only [Act.put, List.setIfInBounds_toArray, List.set_cons_zero, List.set_cons_succ]
    refine wpL_take (v := ?_) 10 rfl (by kernel_rfl) (fun _ _ _ h => h) (by rfl) ?_ HS0.out ?_
    rotate_left
    focus
      intro w9 hw9
      go_simp
      try with_reducible rfl
    try simp only [Act.put, List.setIfInBounds_toArray, List.set_cons_zero, List.set_cons_succ]
    refine wpL_take (v := ?_) 1 rfl (by kernel_rfl) (fun _ _ _ h => h) (by rfl) ?_ HS0.out ?_
    rotate_left
    focus
      intro w9 hw9
      go_simp
      try with_reducible rfl
    try simp only [Act.put, List.setIfInBounds_toArray, List.set_cons_zero, List.set_cons_succ]
    refine wpL_take (v := ?_) 9 rfl (by kernel_rfl) (fun _ _ _ h => h) (by rfl) ?_ HS0.out ?_
    rotate_left
    focus
      intro w9 hw9
      go_simp
      try with_reducible rfl
    try simp only [Act.put, List.setIfInBounds_toArray, List.set_cons_zero, List.set_cons_succ]
    refine wpL_take (v := ?_) 3 rfl (by kernel_rfl) (fun _ _ _ h => h) (by rfl) ?_ HS0.out ?_
    rotate_left
    focus
      intro w9 hw9
      go_simp
      try with_reducible rfl
    try simp only [Act.put, List.setIfInBounds_toArray, List.set_cons_zero, List.set_cons_succ]
    refine wpL_take (v := ?_) 11 rfl (by kernel_rfl) (fun _ _ _ h => h) (by rfl) ?_ HS0.out ?_
    rotate_left
    focus
      intro w9 hw9
      go_simp
      try with_reducible rfl
    try simp only [Act.put, List.setIfInBounds_toArray, List.set_cons_zero, List.set_cons_succ]
    have hs4 : (w3.alloc (.cells #[.int .i64 0, .int .u64 (s : Nat)] 49)).heap.size = w3.heap.size + 1 := by simp
    have L4 : Below w3.heap.size w3 (w3.alloc (.cells #[.int .i64 0, .int .u64 (s : Nat)] 49)) := (Below.refl _ _).alloc (Nat.le_refl _) _
    have L5 : Below (w3.alloc (.cells #[.int .i64 0, .int .u64 (s : Nat)] 49)).heap.size (w3.alloc (.cells #[.int .i64 0, .int .u64 (s : Nat)] 49)) ((w3.alloc (.cells #[.int .i64 0, .int .u64 (s : Nat)] 49)).alloc (.cells #[.slice none 0 0, .slice (some ⟨w3.heap.size, 0, none⟩) 1 1, .slice none 0 0] 27)) := (Below.refl _ _).alloc (Nat.le_refl _) _
    have X5 : BoxT ((w3.alloc (.cells #[.int .i64 0, .int .u64 (s : Nat)] 49)).alloc (.cells #[.slice none 0 0, .slice (some ⟨w3.heap.size, 0, none⟩) 1 1, .slice none 0 0] 27)) (w3.heap.size + 1) #[.slice none 0 0, .slice (some ⟨w3.heap.size, 0, none⟩) 1 1, .slice none 0 0] 27 := by rw [← hs4]; exact BoxT.new _ _ _
    have HL5 : Hid (Below w3.heap.size w3 ((w3.alloc (.cells #[.int .i64 0, .int .u64 (s : Nat)] 49)).alloc (.cells #[.slice none 0 0, .slice (some ⟨w3.heap.size, 0, none⟩) 1 1, .slice none 0 0] 27))) := L4.trans (L5.mono (by omega))
    have HS4 : Hid ((w3.alloc (.cells #[.int .i64 0, .int .u64 (s : Nat)] 49)).drew.cell? ⟨w.heap.size, 2, none⟩ = some (.slice none 0 0)) := (HX13.out.on L4).cell
    have HS5 : Hid (((w3.alloc (.cells #[.int .i64 0, .int .u64 (s : Nat)] 49)).alloc (.cells #[.slice none 0 0, .slice (some ⟨w3.heap.size, 0, none⟩) 1 1, .slice none 0 0] 27)).drew.cell? ⟨w.heap.size, 2, none⟩ = some (.slice none 0 0)) := (HX13.out.on HL5.out).cell
    have C2 : Hid (Calls Try.prog 71 #[.slice (some ⟨w3.heap.size + 1, 0, none⟩) 3 3] ((w3.alloc (.cells #[.int .i64 0, .int .u64 (s : Nat)] 49)).alloc (.cells #[.slice none 0 0, .slice (some ⟨w3.heap.size, 0, none⟩) 1 1, .slice none 0 0] 27)).drew fun e w' => (∃ v, e = .returned v ∧ OwR w' ((w3.alloc (.cells #[.int .i64 0, .int .u64 (s : Nat)] 49)).alloc (.cells #[.slice none 0 0, .slice (some ⟨w3.heap.size, 0, none⟩) 1 1, .slice none 0 0] 27)).drew.heap.size v (entR R s)) ∧ Below ((w3.alloc (.cells #[.int .i64 0, .int .u64 (s : Nat)] 49)).alloc (.cells #[.slice none 0 0, .slice (some ⟨w3.heap.size, 0, none⟩) 1 1, .slice none 0 0] 27)).drew.heap.size ((w3.alloc (.cells #[.int .i64 0, .int .u64 (s : Nat)] 49)).alloc (.cells #[.slice none 0 0, .slice (some ⟨w3.heap.size, 0, none⟩) 1 1, .slice none 0 0] 27)).drew w') := by
      have h := concat_any [R.take 0, [⟨0, s⟩], R.drop 0] (w3.heap.size + 1) ((w3.alloc (.cells #[.int .i64 0, .int .u64 (s : Nat)] 49)).alloc (.cells #[.slice none 0 0, .slice (some ⟨w3.heap.size, 0, none⟩) 1 1, .slice none 0 0] 27)).drew X5.lt (fun i hi => by
        match i, hi with
        | 0, _ => exact ⟨_, X5.cell, (show SlR ((w3.alloc (.cells #[.int .i64 0, .int .u64 (s : Nat)] 49)).alloc (.cells #[.slice none 0 0, .slice (some ⟨w3.heap.size, 0, none⟩) 1 1, .slice none 0 0] 27)) _ _ from HV0.out.on HL5.out)⟩
        | 1, _ => exact ⟨_, X5.cell, (show SlR ((w3.alloc (.cells #[.int .i64 0, .int .u64 (s : Nat)] 49)).alloc (.cells #[.slice none 0 0, .slice (some ⟨w3.heap.size, 0, none⟩) 1 1, .slice none 0 0] 27)) _ _ from (SlR.one w3 0 s _ rfl).on L5)⟩
        | 2, _ => exact ⟨_, X5.cell, (show SlR ((w3.alloc (.cells #[.int .i64 0, .int .u64 (s : Nat)] 49)).alloc (.cells #[.slice none 0 0, .slice (some ⟨w3.heap.size, 0, none⟩) 1 1, .slice none 0 0] 27)) _ _ from HV2.out.on HL5.out)⟩) (by simp) (fun L hL => by
          have h1 := HT.out
          have h2 := HRL.out
          simp only [List.mem_cons, List.not_mem_nil, or_false] at hL
          rcases hL with e | e | e
          · rw [e, h1.1]; omega
          · rw [e]; simp
          · rw [e, h1.2]; omega)
      rw [HFL.out] at h
      exact h
    have HZ : Hid (w.heap.size + 1 < w3.heap.size) := HX23.out.lt
    have HX15 : Hid (BoxT ((w3.alloc (.cells #[.int .i64 0, .int .u64 (s : Nat)] 49)).alloc (.cells #[.slice none 0 0, .slice (some ⟨w3.heap.size, 0, none⟩) 1 1, .slice none 0 0] 27)) w.heap.size #[.int .u64 (at' : Nat), .int .u64 (fl : Nat), (.slice none 0 0)] 77) := HX13.out.on HL5.out
    have HX25 : Hid (BoxT ((w3.alloc (.cells #[.int .i64 0, .int .u64 (s : Nat)] 49)).alloc (.cells #[.slice none 0 0, .slice (some ⟨w3.heap.size, 0, none⟩) 1 1, .slice none 0 0] 27)) (w.heap.size + 1) #[.int .u64 0, .int .u64 0, .slice none 0 0] 77) := HX23.out.on HL5.out
    have HLW : Hid (Below w.heap.size w ((w3.alloc (.cells #[.int .i64 0, .int .u64 (s : Nat)] 49)).alloc (.cells #[.slice none 0 0, .slice (some ⟨w3.heap.size, 0, none⟩) 1 1, .slice none 0 0] 27))) := HL3.out.trans (HL5.out.mono HL3.out.size)
    have HSZ : Hid (w3.heap.size ≤ ((w3.alloc (.cells #[.int .i64 0, .int .u64 (s : Nat)] 49)).alloc (.cells #[.slice none 0 0, .slice (some ⟨w3.heap.size, 0, none⟩) 1 1, .slice none 0 0] 27)).heap.size) := HL5.out.size
    clear hs4 L4 L5 X5 HL5
    refine wpL_one 7 rfl (by kernel_rfl) (by rfl) ?_
    intro K hK
    go_simp
    refine hK.out _ _ (fun _ => HS4.out) ?_
    clear hK K
    try simp only [Act.put, List.setIfInBounds_toArray, List.set_cons_zero, List.set_cons_succ]
    refine wpL_one 12 rfl (by kernel_rfl) (by rfl) ?_
    intro K hK
    go_simp
    refine hK.out _ _ (fun _ => HS5.out) ?_
    clear hK K
    try simp only [Act.put, List.setIfInBounds_toArray, List.set_cons_zero, List.set_cons_succ]
    generalize ((w3.alloc (.cells #[.int .i64 0, .int .u64 (s : Nat)] 49)).alloc (.cells #[.slice none 0 0, .slice (some ⟨w3.heap.size, 0, none⟩) 1 1, .slice none 0 0] 27)) = w5 at *
    refine wpL_one 13 rfl (by kernel_rfl) (by rfl) ?_
    intro K hK
    go_simp
    refine C2.out.mono ?_
    rintro e w6 ⟨⟨v6, rfl, hv6⟩, hb6⟩
    dsimp only
    obtain ⟨p6, c6, e6, -⟩ := hv6.rd
    obtain ⟨l6, hl6⟩ : ∃ l, l = (entR R s).length := ⟨_, rfl⟩
    rw [← hl6] at e6
    subst e6
    have HX16 : Hid (BoxT w6 w.heap.size #[.int .u64 (at' : Nat), .int .u64 (fl : Nat), (.slice none 0 0)] 77) := BoxT.on (w := w5.drew) HX15.out hb6
    have HX26 : Hid (BoxT w6 (w.heap.size + 1) #[.int .u64 0, .int .u64 0, .slice none 0 0] 77) := BoxT.on (w := w5.drew) HX25.out hb6
    have HV6 : Hid (OwR w6 w5.heap.size (.slice p6 l6 c6) (entR R s)) := hv6
    have HL6 : Hid (Below w.heap.size w w6) := Below.trans (b := w5.drew) ⟨HLW.out.os, HLW.out.tape, HLW.out.output, HLW.out.size, HLW.out.block⟩ (hb6.mono HLW.out.size)
    have HS6 : Hid (w6.cell? ⟨w.heap.size, 2, none⟩ = some (.slice none 0 0)) := HX16.out.cell
    clear hv6 hb6 hl6
    refine hK.out _ _ (fun _ => HS6.out) ?_
    clear hK K
    try simp only [Act.put, List.setIfInBounds_toArray, List.set_cons_zero, List.set_cons_succ]
    refine wpL_one 14 rfl (by kernel_rfl) (by rfl) ?_
    intro K hK
    go_simp
    refine hK.out _ _ (fun _ => HS6.out) ?_
    clear hK K
    try simp only [Act.put, List.setIfInBounds_toArray, List.set_cons_zero, List.set_cons_succ]
    have o2 : w6.frozen? ⟨w.heap.size, 2, none⟩ = false := HX16.out.frozen
    have o3 : w6.cell? ⟨w.heap.size, 2, none⟩ = some (.slice none 0 0) := HX16.out.cell
    refine wpL_one 15 rfl (by kernel_rfl) (by rfl) ?_
    intro K hK
    go_simp
    refine hK.out _ _ (fun h => absurd rfl h) ?_
    clear hK K
    refine wpL_done (by kernel_rfl) ?_ _
    try simp only [NoPanic]
    have n0 : w6.cell? ⟨w.heap.size, 0, none⟩ = some (.int .u64 (at' : Nat)) := HX16.out.cell
    have n1 : w6.cell? ⟨w.heap.size, 1, none⟩ = some (.int .u64 (fl : Nat)) := HX16.out.cell
    have g0 : w6.cell? ⟨w.heap.size + 1, 0, none⟩ = some (.int .u64 0) := HX26.out.cell
    have g1 : w6.cell? ⟨w.heap.size + 1, 1, none⟩ = some (.int .u64 0) := HX26.out.cell
    have g2 : w6.cell? ⟨w.heap.size + 1, 2, none⟩ = some (.slice none 0 0) := HX26.out.cell
    have y0 : w6.frozen? ⟨w.heap.size + 1, 0, none⟩ = false := HX26.out.frozen
    have y1 : w6.frozen? ⟨w.heap.size + 1, 1, none⟩ = false := HX26.out.frozen
    have y2 : w6.frozen? ⟨w.heap.size + 1, 2, none⟩ = false := HX26.out.frozen
    have hfz : Frm w6 ((((w6.setCell ⟨w.heap.size, 2, none⟩ (.slice p6 l6 c6)).setCell ⟨w.heap.size + 1, 0, none⟩ (.int .u64 (at' : Nat))).setCell ⟨w.heap.size + 1, 1, none⟩ (.int .u64 (fl : Nat))).setCell ⟨w.heap.size + 1, 2, none⟩ (.slice p6 l6 c6)) (fun k => k = w.heap.size ∨ k = w.heap.size + 1) := (((frm_set w6 _ 2 _ (F := fun k => k = w.heap.size ∨ k = w.heap.size + 1) (.inl rfl)).trans (frm_set _ _ 0 _ (F := fun k => k = w.heap.size ∨ k = w.heap.size + 1) (.inr rfl))).trans (frm_set _ _ 1 _ (F := fun k => k = w.heap.size ∨ k = w.heap.size + 1) (.inr rfl))).trans (frm_set _ _ 2 _ (F := fun k => k = w.heap.size ∨ k = w.heap.size + 1) (.inr rfl))
    have HBE : Hid (Below w.heap.size w ((((w6.setCell ⟨w.heap.size, 2, none⟩ (.slice p6 l6 c6)).setCell ⟨w.heap.size + 1, 0, none⟩ (.int .u64 (at' : Nat))).setCell ⟨w.heap.size + 1, 1, none⟩ (.int .u64 (fl : Nat))).setCell ⟨w.heap.size + 1, 2, none⟩ (.slice p6 l6 c6))) := HL6.out.trans (hfz.below HL6.out.size (fun k hk => by omega))
    have HVE : Hid (OwR ((((w6.setCell ⟨w.heap.size, 2, none⟩ (.slice p6 l6 c6)).setCell ⟨w.heap.size + 1, 0, none⟩ (.int .u64 (at' : Nat))).setCell ⟨w.heap.size + 1, 1, none⟩ (.int .u64 (fl : Nat))).setCell ⟨w.heap.size + 1, 2, none⟩ (.slice p6 l6 c6)) 0 (.slice p6 l6 c6) (entR R s)) := owns_base (owns_block HV6.out (fun g hg => by
      obtain ⟨cur, h1⟩ := own_cells HV6.out hg
      refine hfz.block g (Array.getElem?_eq_some_iff.1 h1).1 (fun e => ?_)
      have h2 : w5.heap.size ≤ g := by
        rcases HV6.out.2 with ⟨e, _⟩ | ⟨g', cap, cur, e, hge, _⟩
        · rw [e] at hg; cases hg
        · rw [e] at hg; cases hg; exact hge
      have h3 := HZ.out
      have h4 := HSZ.out
      omega)) (Nat.zero_le _)
    have hbe : BoxT ((((w6.setCell ⟨w.heap.size, 2, none⟩ (.slice p6 l6 c6)).setCell ⟨w.heap.size + 1, 0, none⟩ (.int .u64 (at' : Nat))).setCell ⟨w.heap.size + 1, 1, none⟩ (.int .u64 (fl : Nat))).setCell ⟨w.heap.size + 1, 2, none⟩ (.slice p6 l6 c6)) (w.heap.size + 1) #[.int .u64 (at' : Nat), .int .u64 (fl : Nat), .slice p6 l6 c6] 77 := (((HX26.out.off (i := 2) _ (by omega)).set (i := 0) _).set (i := 1) _).set (i := 2) _
    have q0 := hbe.cell (i := 0)
    have q1 := hbe.cell (i := 1)
    have q2 := hbe.cell (i := 2)
    clear hfz hbe C2 HS0 HS4 HS5 HS6 HX13 HX23 HX15 HX25 HX16 HX26 HV6 HL6 HLW HV0 HV2
    go_wp2_with fail
    refine bodyPost_ret (v := .tuple #[.agg #[.int .u64 (at' : Nat), .int .u64 (fl : Nat), .slice p6 l6 c6], .int .u64 0, .int .i64 0]) (by simp [results, Try.results43, go_sem, q0, q1, q2]) rfl ?_
    exact ⟨⟨_, by rw [← HKK.out]; rfl, HVE.out⟩, HBE.out⟩
  | some ad =>
    obtain ⟨b, o, rfl⟩ := g2 ad rfl
    have HRD : Hid (RdR w3 (some ⟨b, o, none⟩) R) := g3
    have hkc2 : k ≤ c := by omega
    have HV0 : Hid (SlR w3 (.slice (some ⟨b, o, none⟩) k c) (R.take k)) := ⟨_, c, by rw [HT.out.1], (fun h => by cases h), (fun a ha => by cases ha; exact ⟨_, _, rfl⟩), g3.take k⟩
    have HV2 : Hid (SlR w3 (.slice (if c = k then some ⟨b, o, none⟩ else some ⟨b, o + k * 2, none⟩) (rl - k) (c - k)) (R.drop k)) := ⟨_, c - k, by rw [HT.out.2], (fun h => by split at h <;> cases h), (fun a ha => by split at ha <;> cases ha <;> exact ⟨_, _, rfl⟩), by
      split
      · intro i hi
        rw [HT.out.2] at hi
        omega
      · exact g3.drop k⟩
    clear g1 g2 g3 g4 g5
    go_wp2_with fail
    refine wp_region_L (fun w' => w'.cell? ⟨w.heap.size, 2, none⟩ = some (.slice (some ⟨b, o, none⟩) rl c)) 15 (by kernel_rfl) ?_
    refine wpL_take (v := ?_) 0 rfl (by kernel_rfl) (fun _ _ _ h => h) (by rfl) ?_ HS0.out ?_
    rotate_left
    focus
      intro w9 hw9
      go_simp
      try with_reducible rfl
    try simp only [Act.put, List.setIfInBounds_toArray, List.set_cons_zero, List.set_cons_succ]
    refine wpL_take (v := ?_) 2 rfl (by kernel_rfl) (fun _ _ _ h => h) (by rfl) ?_ HS0.out ?_
    rotate_left
    focus
      intro w9 hw9
      go_simp
      try with_reducible rfl
    try simp only [Act.put, List.setIfInBounds_toArray, List.set_cons_zero, List.set_cons_succ]
    refine wpL_take (v := ?_) 4 rfl (by kernel_rfl) (fun _ _ _ h => h) (by rfl) ?_ HS0.out ?_
    rotate_left
    focus
      intro w9 hw9
      go_simp
      try with_reducible rfl
    try simp only [Act.put, List.setIfInBounds_toArray, List.set_cons_zero, List.set_cons_succ]
    refine wpL_take (v := ?_) 5 rfl (by kernel_rfl) (fun _ _ _ h => h) (by rfl) ?_ HS0.out ?_
    rotate_left
    focus
      intro w9 hw9
      go_simp
      try with_reducible rfl
    try simp only [Act.put, List.setIfInBounds_toArray, List.set_cons_zero, List.set_cons_succ]
    refine wpL_take (v := ?_) 6 rfl (by kernel_rfl) (fun _ _ _ h => h) (by rfl) ?_ HS0.out ?_
    rotate_left
    focus
      intro w9 hw9
      go_simp
      try with_reducible rfl
    try simp only [Act.put, List.setIfInBounds_toArray, List.set_cons_zero, List.set_cons_succ]
    refine wpL_take (v := ?_) 8 rfl (by kernel_rfl) (fun _ _ _ h => h) (by rfl) ?_ HS0.out ?_
    rotate_left
    focus
      intro w9 hw9
      go_simp
      try with_reducible rfl
    try simp only [Act.put, List.setIfInBounds_toArray, List.set_cons_zero, List.set_cons_succ]
    refine wpL_take (v := ?_) 10 rfl (by kernel_rfl) (fun _ _ _ h => h) (by rfl) ?_ HS0.out ?_
    rotate_left
    focus
      intro w9 hw9
      go_simp
      try with_reducible rfl
    try simp only [Act.put, List.setIfInBounds_toArray, List.set_cons_zero, List.set_cons_succ]
    refine wpL_take (v := ?_) 1 rfl (by kernel_rfl) (fun _ _ _ h => h) (by rfl) ?_ HS0.out ?_
    rotate_left
    focus
      intro w9 hw9
      go_simp
      try with_reducible rfl
    try simp only [Act.put, List.setIfInBounds_toArray, List.set_cons_zero, List.set_cons_succ]
    refine wpL_take (v := ?_) 9 rfl (by kernel_rfl) (fun _ _ _ h => h) (by rfl) ?_ HS0.out ?_
    rotate_left
    focus
      intro w9 hw9
      go_simp
      try with_reducible rfl
    try simp only [Act.put, List.setIfInBounds_toArray, List.set_cons_zero, List.set_cons_succ]
    refine wpL_take (v := ?_) 3 rfl (by kernel_rfl) (fun _ _ _ h => h) (by rfl) ?_ HS0.out ?_
    rotate_left
    focus
      intro w9 hw9
      go_simp
      try with_reducible rfl
    try simp only [Act.put, List.setIfInBounds_toArray, List.set_cons_zero, List.set_cons_succ]
    refine wpL_take (v := ?_) 11 rfl (by kernel_rfl) (fun _ _ _ h => h) (by rfl) ?_ HS0.out ?_
    rotate_left
    focus
      intro w9 hw9
      go_simp
      try with_reducible rfl
    try simp only [Act.put, List.setIfInBounds_toArray, List.set_cons_zero, List.set_cons_succ]
    generalize (if c = k then some ⟨b, o, none⟩ else some ⟨b, o + k * 2, none⟩ : Option Addr) = p2 at *
    have hs4 : (w3.alloc (.cells #[.int .i64 (k : Nat), .int .u64 (s : Nat)] 49)).heap.size = w3.heap.size + 1 := by simp
    have L4 : Below w3.heap.size w3 (w3.alloc (.cells #[.int .i64 (k : Nat), .int .u64 (s : Nat)] 49)) := (Below.refl _ _).alloc (Nat.le_refl _) _
    have L5 : Below (w3.alloc (.cells #[.int .i64 (k : Nat), .int .u64 (s : Nat)] 49)).heap.size (w3.alloc (.cells #[.int .i64 (k : Nat), .int .u64 (s : Nat)] 49)) ((w3.alloc (.cells #[.int .i64 (k : Nat), .int .u64 (s : Nat)] 49)).alloc (.cells #[.slice (some ⟨b, o, none⟩) k c, .slice (some ⟨w3.heap.size, 0, none⟩) 1 1, .slice p2 (rl - k) (c - k)] 27)) := (Below.refl _ _).alloc (Nat.le_refl _) _
    have X5 : BoxT ((w3.alloc (.cells #[.int .i64 (k : Nat), .int .u64 (s : Nat)] 49)).alloc (.cells #[.slice (some ⟨b, o, none⟩) k c, .slice (some ⟨w3.heap.size, 0, none⟩) 1 1, .slice p2 (rl - k) (c - k)] 27)) (w3.heap.size + 1) #[.slice (some ⟨b, o, none⟩) k c, .slice (some ⟨w3.heap.size, 0, none⟩) 1 1, .slice p2 (rl - k) (c - k)] 27 := by rw [← hs4]; exact BoxT.new _ _ _
    have HL5 : Hid (Below w3.heap.size w3 ((w3.alloc (.cells #[.int .i64 (k : Nat), .int .u64 (s : Nat)] 49)).alloc (.cells #[.slice (some ⟨b, o, none⟩) k c, .slice (some ⟨w3.heap.size, 0, none⟩) 1 1, .slice p2 (rl - k) (c - k)] 27))) := L4.trans (L5.mono (by omega))
    have HS4 : Hid ((w3.alloc (.cells #[.int .i64 (k : Nat), .int .u64 (s : Nat)] 49)).drew.cell? ⟨w.heap.size, 2, none⟩ = some (.slice (some ⟨b, o, none⟩) rl c)) := (HX13.out.on L4).cell
    have HS5 : Hid (((w3.alloc (.cells #[.int .i64 (k : Nat), .int .u64 (s : Nat)] 49)).alloc (.cells #[.slice (some ⟨b, o, none⟩) k c, .slice (some ⟨w3.heap.size, 0, none⟩) 1 1, .slice p2 (rl - k) (c - k)] 27)).drew.cell? ⟨w.heap.size, 2, none⟩ = some (.slice (some ⟨b, o, none⟩) rl c)) := (HX13.out.on HL5.out).cell
    have C2 : Hid (Calls Try.prog 71 #[.slice (some ⟨w3.heap.size + 1, 0, none⟩) 3 3] ((w3.alloc (.cells #[.int .i64 (k : Nat), .int .u64 (s : Nat)] 49)).alloc (.cells #[.slice (some ⟨b, o, none⟩) k c, .slice (some ⟨w3.heap.size, 0, none⟩) 1 1, .slice p2 (rl - k) (c - k)] 27)).drew fun e w' => (∃ v, e = .returned v ∧ OwR w' ((w3.alloc (.cells #[.int .i64 (k : Nat), .int .u64 (s : Nat)] 49)).alloc (.cells #[.slice (some ⟨b, o, none⟩) k c, .slice (some ⟨w3.heap.size, 0, none⟩) 1 1, .slice p2 (rl - k) (c - k)] 27)).drew.heap.size v (entR R s)) ∧ Below ((w3.alloc (.cells #[.int .i64 (k : Nat), .int .u64 (s : Nat)] 49)).alloc (.cells #[.slice (some ⟨b, o, none⟩) k c, .slice (some ⟨w3.heap.size, 0, none⟩) 1 1, .slice p2 (rl - k) (c - k)] 27)).drew.heap.size ((w3.alloc (.cells #[.int .i64 (k : Nat), .int .u64 (s : Nat)] 49)).alloc (.cells #[.slice (some ⟨b, o, none⟩) k c, .slice (some ⟨w3.heap.size, 0, none⟩) 1 1, .slice p2 (rl - k) (c - k)] 27)).drew w') := by
      have h := concat_any [R.take k, [⟨k, s⟩], R.drop k] (w3.heap.size + 1) ((w3.alloc (.cells #[.int .i64 (k : Nat), .int .u64 (s : Nat)] 49)).alloc (.cells #[.slice (some ⟨b, o, none⟩) k c, .slice (some ⟨w3.heap.size, 0, none⟩) 1 1, .slice p2 (rl - k) (c - k)] 27)).drew X5.lt (fun i hi => by
        match i, hi with
        | 0, _ => exact ⟨_, X5.cell, (show SlR ((w3.alloc (.cells #[.int .i64 (k : Nat), .int .u64 (s : Nat)] 49)).alloc (.cells #[.slice (some ⟨b, o, none⟩) k c, .slice (some ⟨w3.heap.size, 0, none⟩) 1 1, .slice p2 (rl - k) (c - k)] 27)) _ _ from HV0.out.on HL5.out)⟩
        | 1, _ => exact ⟨_, X5.cell, (show SlR ((w3.alloc (.cells #[.int .i64 (k : Nat), .int .u64 (s : Nat)] 49)).alloc (.cells #[.slice (some ⟨b, o, none⟩) k c, .slice (some ⟨w3.heap.size, 0, none⟩) 1 1, .slice p2 (rl - k) (c - k)] 27)) _ _ from (SlR.one w3 k s _ rfl).on L5)⟩
        | 2, _ => exact ⟨_, X5.cell, (show SlR ((w3.alloc (.cells #[.int .i64 (k : Nat), .int .u64 (s : Nat)] 49)).alloc (.cells #[.slice (some ⟨b, o, none⟩) k c, .slice (some ⟨w3.heap.size, 0, none⟩) 1 1, .slice p2 (rl - k) (c - k)] 27)) _ _ from HV2.out.on HL5.out)⟩) (by simp) (fun L hL => by
          have h1 := HT.out
          have h2 := HRL.out
          simp only [List.mem_cons, List.not_mem_nil, or_false] at hL
          rcases hL with e | e | e
          · rw [e, h1.1]; omega
          · rw [e]; simp
          · rw [e, h1.2]; omega)
      rw [HFL.out] at h
      exact h
    have HZ : Hid (w.heap.size + 1 < w3.heap.size) := HX23.out.lt
    have HX15 : Hid (BoxT ((w3.alloc (.cells #[.int .i64 (k : Nat), .int .u64 (s : Nat)] 49)).alloc (.cells #[.slice (some ⟨b, o, none⟩) k c, .slice (some ⟨w3.heap.size, 0, none⟩) 1 1, .slice p2 (rl - k) (c - k)] 27)) w.heap.size #[.int .u64 (at' : Nat), .int .u64 (fl : Nat), (.slice (some ⟨b, o, none⟩) rl c)] 77) := HX13.out.on HL5.out
    have HX25 : Hid (BoxT ((w3.alloc (.cells #[.int .i64 (k : Nat), .int .u64 (s : Nat)] 49)).alloc (.cells #[.slice (some ⟨b, o, none⟩) k c, .slice (some ⟨w3.heap.size, 0, none⟩) 1 1, .slice p2 (rl - k) (c - k)] 27)) (w.heap.size + 1) #[.int .u64 0, .int .u64 0, .slice none 0 0] 77) := HX23.out.on HL5.out
    have HLW : Hid (Below w.heap.size w ((w3.alloc (.cells #[.int .i64 (k : Nat), .int .u64 (s : Nat)] 49)).alloc (.cells #[.slice (some ⟨b, o, none⟩) k c, .slice (some ⟨w3.heap.size, 0, none⟩) 1 1, .slice p2 (rl - k) (c - k)] 27))) := HL3.out.trans (HL5.out.mono HL3.out.size)
    have HSZ : Hid (w3.heap.size ≤ ((w3.alloc (.cells #[.int .i64 (k : Nat), .int .u64 (s : Nat)] 49)).alloc (.cells #[.slice (some ⟨b, o, none⟩) k c, .slice (some ⟨w3.heap.size, 0, none⟩) 1 1, .slice p2 (rl - k) (c - k)] 27)).heap.size) := HL5.out.size
    clear hs4 L4 L5 X5 HL5
    refine wpL_one 7 rfl (by kernel_rfl) (by rfl) ?_
    intro K hK
    go_simp
    refine hK.out _ _ (fun _ => HS4.out) ?_
    clear hK K
    try simp only [Act.put, List.setIfInBounds_toArray, List.set_cons_zero, List.set_cons_succ]
    refine wpL_one 12 rfl (by kernel_rfl) (by rfl) ?_
    intro K hK
    go_simp
    refine hK.out _ _ (fun _ => HS5.out) ?_
    clear hK K
    try simp only [Act.put, List.setIfInBounds_toArray, List.set_cons_zero, List.set_cons_succ]
    generalize ((w3.alloc (.cells #[.int .i64 (k : Nat), .int .u64 (s : Nat)] 49)).alloc (.cells #[.slice (some ⟨b, o, none⟩) k c, .slice (some ⟨w3.heap.size, 0, none⟩) 1 1, .slice p2 (rl - k) (c - k)] 27)) = w5 at *
    refine wpL_one 13 rfl (by kernel_rfl) (by rfl) ?_
    intro K hK
    go_simp
    refine C2.out.mono ?_
    rintro e w6 ⟨⟨v6, rfl, hv6⟩, hb6⟩
    dsimp only
    obtain ⟨p6, c6, e6, -⟩ := hv6.rd
    obtain ⟨l6, hl6⟩ : ∃ l, l = (entR R s).length := ⟨_, rfl⟩
    rw [← hl6] at e6
    subst e6
    have HX16 : Hid (BoxT w6 w.heap.size #[.int .u64 (at' : Nat), .int .u64 (fl : Nat), (.slice (some ⟨b, o, none⟩) rl c)] 77) := BoxT.on (w := w5.drew) HX15.out hb6
    have HX26 : Hid (BoxT w6 (w.heap.size + 1) #[.int .u64 0, .int .u64 0, .slice none 0 0] 77) := BoxT.on (w := w5.drew) HX25.out hb6
    have HV6 : Hid (OwR w6 w5.heap.size (.slice p6 l6 c6) (entR R s)) := hv6
    have HL6 : Hid (Below w.heap.size w w6) := Below.trans (b := w5.drew) ⟨HLW.out.os, HLW.out.tape, HLW.out.output, HLW.out.size, HLW.out.block⟩ (hb6.mono HLW.out.size)
    have HS6 : Hid (w6.cell? ⟨w.heap.size, 2, none⟩ = some (.slice (some ⟨b, o, none⟩) rl c)) := HX16.out.cell
    clear hv6 hb6 hl6
    refine hK.out _ _ (fun _ => HS6.out) ?_
    clear hK K
    try simp only [Act.put, List.setIfInBounds_toArray, List.set_cons_zero, List.set_cons_succ]
    refine wpL_one 14 rfl (by kernel_rfl) (by rfl) ?_
    intro K hK
    go_simp
    refine hK.out _ _ (fun _ => HS6.out) ?_
    clear hK K
    try simp only [Act.put, List.setIfInBounds_toArray, List.set_cons_zero, List.set_cons_succ]
    have o2 : w6.frozen? ⟨w.heap.size, 2, none⟩ = false := HX16.out.frozen
    have o3 : w6.cell? ⟨w.heap.size, 2, none⟩ = some (.slice (some ⟨b, o, none⟩) rl c) := HX16.out.cell
    refine wpL_one 15 rfl (by kernel_rfl) (by rfl) ?_
    intro K hK
    go_simp
    refine hK.out _ _ (fun h => absurd rfl h) ?_
    clear hK K
    refine wpL_done (by kernel_rfl) ?_ _
    try simp only [NoPanic]
    have n0 : w6.cell? ⟨w.heap.size, 0, none⟩ = some (.int .u64 (at' : Nat)) := HX16.out.cell
    have n1 : w6.cell? ⟨w.heap.size, 1, none⟩ = some (.int .u64 (fl : Nat)) := HX16.out.cell
    have g0 : w6.cell? ⟨w.heap.size + 1, 0, none⟩ = some (.int .u64 0) := HX26.out.cell
    have g1 : w6.cell? ⟨w.heap.size + 1, 1, none⟩ = some (.int .u64 0) := HX26.out.cell
    have g2 : w6.cell? ⟨w.heap.size + 1, 2, none⟩ = some (.slice none 0 0) := HX26.out.cell
    have y0 : w6.frozen? ⟨w.heap.size + 1, 0, none⟩ = false := HX26.out.frozen
    have y1 : w6.frozen? ⟨w.heap.size + 1, 1, none⟩ = false := HX26.out.frozen
    have y2 : w6.frozen? ⟨w.heap.size + 1, 2, none⟩ = false := HX26.out.frozen
    have hfz : Frm w6 ((((w6.setCell ⟨w.heap.size, 2, none⟩ (.slice p6 l6 c6)).setCell ⟨w.heap.size + 1, 0, none⟩ (.int .u64 (at' : Nat))).setCell ⟨w.heap.size + 1, 1, none⟩ (.int .u64 (fl : Nat))).setCell ⟨w.heap.size + 1, 2, none⟩ (.slice p6 l6 c6)) (fun k => k = w.heap.size ∨ k = w.heap.size + 1) := (((frm_set w6 _ 2 _ (F := fun k => k = w.heap.size ∨ k = w.heap.size + 1) (.inl rfl)).trans (frm_set _ _ 0 _ (F := fun k => k = w.heap.size ∨ k = w.heap.size + 1) (.inr rfl))).trans (frm_set _ _ 1 _ (F := fun k => k = w.heap.size ∨ k = w.heap.size + 1) (.inr rfl))).trans (frm_set _ _ 2 _ (F := fun k => k = w.heap.size ∨ k = w.heap.size + 1) (.inr rfl))
    have HBE : Hid (Below w.heap.size w ((((w6.setCell ⟨w.heap.size, 2, none⟩ (.slice p6 l6 c6)).setCell ⟨w.heap.size + 1, 0, none⟩ (.int .u64 (at' : Nat))).setCell ⟨w.heap.size + 1, 1, none⟩ (.int .u64 (fl : Nat))).setCell ⟨w.heap.size + 1, 2, none⟩ (.slice p6 l6 c6))) := HL6.out.trans (hfz.below HL6.out.size (fun k hk => by omega))
    have HVE : Hid (OwR ((((w6.setCell ⟨w.heap.size, 2, none⟩ (.slice p6 l6 c6)).setCell ⟨w.heap.size + 1, 0, none⟩ (.int .u64 (at' : Nat))).setCell ⟨w.heap.size + 1, 1, none⟩ (.int .u64 (fl : Nat))).setCell ⟨w.heap.size + 1, 2, none⟩ (.slice p6 l6 c6)) 0 (.slice p6 l6 c6) (entR R s)) := owns_base (owns_block HV6.out (fun g hg => by
      obtain ⟨cur, h1⟩ := own_cells HV6.out hg
      refine hfz.block g (Array.getElem?_eq_some_iff.1 h1).1 (fun e => ?_)
      have h2 : w5.heap.size ≤ g := by
        rcases HV6.out.2 with ⟨e, _⟩ | ⟨g', cap, cur, e, hge, _⟩
        · rw [e] at hg; cases hg
        · rw [e] at hg; cases hg; exact hge
      have h3 := HZ.out
      have h4 := HSZ.out
      omega)) (Nat.zero_le _)
    have hbe : BoxT ((((w6.setCell ⟨w.heap.size, 2, none⟩ (.slice p6 l6 c6)).setCell ⟨w.heap.size + 1, 0, none⟩ (.int .u64 (at' : Nat))).setCell ⟨w.heap.size + 1, 1, none⟩ (.int .u64 (fl : Nat))).setCell ⟨w.heap.size + 1, 2, none⟩ (.slice p6 l6 c6)) (w.heap.size + 1) #[.int .u64 (at' : Nat), .int .u64 (fl : Nat), .slice p6 l6 c6] 77 := (((HX26.out.off (i := 2) _ (by omega)).set (i := 0) _).set (i := 1) _).set (i := 2) _
    have q0 := hbe.cell (i := 0)
    have q1 := hbe.cell (i := 1)
    have q2 := hbe.cell (i := 2)
    clear hfz hbe C2 HS0 HS4 HS5 HS6 HX13 HX23 HX15 HX25 HX16 HX26 HV6 HL6 HLW HV0 HV2
    have hkz : k < 18446744073709551616 := by have := HRL.out; omega
    go_wp2_with fail
    refine bodyPost_ret (v := .tuple #[.agg #[.int .u64 (at' : Nat), .int .u64 (fl : Nat), .slice p6 l6 c6], .int .u64 (k : Nat), .int .i64 0]) (by simp [results, Try.results43, go_sem, q0, q1, q2]) rfl ?_
    exact ⟨⟨_, by rw [HKK.out], HVE.out⟩, HBE.out⟩

theorem enter_any (at' fl B s : Nat) (v : Value) (R : List Rd) (w : World) (h : OwR w B v R) (hI : InvR R) :
    Calls Try.prog 43 #[.agg #[.int .u64 (at' : Nat), .int .u64 (fl : Nat), v], .int .u64 (s : Nat)] w fun e w' => (∃ v', e = .returned (.tuple #[.agg #[.int .u64 (at' : Nat), .int .u64 (fl : Nat), v'], .int .u64 (entN fl R s : Nat), .int .i64 (entE fl R s)]) ∧ OwR w' 0 v' (entL fl R s)) ∧ Below w.heap.size w w' := by
  by_cases h1 : 4611686018427387904 < s
  · exact enter1 at' fl B s v R w h hI h1
  · by_cases h2 : s < fl
    · exact enter2 at' fl B s v R w h hI h1 h2
    · by_cases h3 : R.length = 256
      · exact enter3 at' fl B s v R w h hI h1 h2 h3
      · exact enter4 at' fl B s v R w h hI h1 h2 h3
end Go.Proofs.Ytbmgkoifidhfjaa
