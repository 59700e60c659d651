/- The document's Enter. -/
import Derived.Test.YtbmgkoifidhfjaaWSnp6
import Derived.Test.YtbmgkoifidhfjaaWSnpR
namespace Go.Proofs.Ytbmgkoifidhfjaa
open Go.RowKit
set_option maxRecDepth 100000

theorem OwR.low {w : World} {B : Nat} {v : Value} {R : List Rd} (h : OwR w B v R) {g : Nat} (hg : v.ownBlock = some g) : B ≤ g := by
  rcases h.2 with ⟨e, _⟩ | ⟨g', cap, cur, e, hge, _⟩
  · rw [e] at hg; cases hg
  · rw [e] at hg; cases hg; exact hge
theorem OwR.grow {w0 w w' : World} {B : Nat} {v : Value} {R : List Rd} (h : OwR w B v R) (hb : Below B w0 w) (hB : B ≤ w.heap.size) (hg : w.grownBy w' v.ownBlock) : Below B w0 w' := hb.grown hg hB (fun _k hk => h.low hk)

set_option maxHeartbeats 4000000 in
theorem renter1 (fl B s : Nat) (v : Value) (R : List Rd) (w : World) (h : OwR w B v R) (hI : InvR R) (hs : 4611686018427387904 < s) :
    Calls Try.prog 25 #[.agg #[.int .u64 (fl : Nat), v], .int .u64 (s : Nat)] w fun e w' => (∃ v', e = .returned (.tuple #[.agg #[.int .u64 (fl : Nat), v'], .int .i64 (entN fl R s : Nat), .int .i64 (entE fl R s)]) ∧ OwR w' 0 v' (entL fl R s)) ∧ Below w.heap.size w w' := by
  have H0 : Hid (OwR w B v R) := h
  have hlen := hI.len
  obtain ⟨p, c, ev, hle, -⟩ := h.rd
  obtain ⟨rl, hrl⟩ : ∃ rl, rl = R.length := ⟨_, rfl⟩
  rw [← hrl] at ev
  subst ev
  have hE : entE fl R s = 1 := by
    unfold entE
    rw [if_pos hs]
  have hL : entL fl R s = R := by unfold entL; rw [hE, if_neg (by decide)]
  have hN : entN fl R s = 0 := by unfold entN; rw [hE, if_neg (by decide)]
  rw [hE, hL, hN]
  have q : (4611686018427387904 : Int) < (s : Int) := by omega
  clear hs hle hlen hrl
  have HB : Hid (Below w.heap.size w ((w.alloc (.cells #[.int .u64 (fl : Nat), .slice p rl c] 29)).alloc (.cells #[.int .u64 (fl : Nat), .slice p rl c] 29))) := by
    show Below _ _ _
    go_grown
  have hbe : BoxT ((w.alloc (.cells #[.int .u64 (fl : Nat), .slice p rl c] 29)).alloc (.cells #[.int .u64 (fl : Nat), .slice p rl c] 29)) (w.heap.size + 1) #[.int .u64 (fl : Nat), .slice p rl c] 29 := by
    have h := BoxT.new (w.alloc (.cells #[.int .u64 (fl : Nat), .slice p rl c] 29)) #[.int .u64 (fl : Nat), .slice p rl c] 29
    have e : (w.alloc (.cells #[.int .u64 (fl : Nat), .slice p rl c] 29)).heap.size = w.heap.size + 1 := by simp
    rw [e] at h
    exact h
  have q0 := hbe.cell (i := 0)
  have q1 := hbe.cell (i := 1)
  clear hbe hE hL hN h hI
  go_enter Try.func25, Try.ntmps25
  go_wp2_with fail
  refine bodyPost_ret (v := .tuple #[.agg #[.int .u64 (fl : Nat), .slice p rl c], .int .i64 0, .int .i64 1]) (by simp [results, Try.results25, go_sem, q0, q1]) rfl ?_
  exact ⟨⟨_, rfl, owns_base (H0.out.on HB.out) (Nat.zero_le _)⟩, HB.out⟩

set_option maxHeartbeats 4000000 in
theorem renter2 (fl B s : Nat) (v : Value) (R : List Rd) (w : World) (h : OwR w B v R) (hI : InvR R) (hs : ¬ 4611686018427387904 < s) (hs2 : s < fl) :
    Calls Try.prog 25 #[.agg #[.int .u64 (fl : Nat), v], .int .u64 (s : Nat)] w fun e w' => (∃ v', e = .returned (.tuple #[.agg #[.int .u64 (fl : Nat), v'], .int .i64 (entN fl R s : Nat), .int .i64 (entE fl R s)]) ∧ OwR w' 0 v' (entL fl R s)) ∧ Below w.heap.size w w' := by
  have H0 : Hid (OwR w B v R) := h
  have hlen := hI.len
  obtain ⟨p, c, ev, hle, -⟩ := h.rd
  obtain ⟨rl, hrl⟩ : ∃ rl, rl = R.length := ⟨_, rfl⟩
  rw [← hrl] at ev
  subst ev
  have hE : entE fl R s = 101 := by
    unfold entE
    rw [if_neg hs, if_pos hs2]
  have hL : entL fl R s = R := by unfold entL; rw [hE, if_neg (by decide)]
  have hN : entN fl R s = 0 := by unfold entN; rw [hE, if_neg (by decide)]
  rw [hE, hL, hN]
  have q : ¬ (4611686018427387904 : Int) < (s : Int) := by omega
  have q' : (s : Int) < (fl : Int) := by omega
  clear hs hs2 hle hlen hrl
  have HB : Hid (Below w.heap.size w ((w.alloc (.cells #[.int .u64 (fl : Nat), .slice p rl c] 29)).alloc (.cells #[.int .u64 (fl : Nat), .slice p rl c] 29))) := by
    show Below _ _ _
    go_grown
  have hbe : BoxT ((w.alloc (.cells #[.int .u64 (fl : Nat), .slice p rl c] 29)).alloc (.cells #[.int .u64 (fl : Nat), .slice p rl c] 29)) (w.heap.size + 1) #[.int .u64 (fl : Nat), .slice p rl c] 29 := by
    have h := BoxT.new (w.alloc (.cells #[.int .u64 (fl : Nat), .slice p rl c] 29)) #[.int .u64 (fl : Nat), .slice p rl c] 29
    have e : (w.alloc (.cells #[.int .u64 (fl : Nat), .slice p rl c] 29)).heap.size = w.heap.size + 1 := by simp
    rw [e] at h
    exact h
  have q0 := hbe.cell (i := 0)
  have q1 := hbe.cell (i := 1)
  clear hbe hE hL hN h hI
  go_enter Try.func25, Try.ntmps25
  go_wp2_with fail
  refine bodyPost_ret (v := .tuple #[.agg #[.int .u64 (fl : Nat), .slice p rl c], .int .i64 0, .int .i64 101]) (by simp [results, Try.results25, go_sem, q0, q1]) rfl ?_
  exact ⟨⟨_, rfl, owns_base (H0.out.on HB.out) (Nat.zero_le _)⟩, HB.out⟩

set_option maxHeartbeats 4000000 in
theorem renter3 (fl B s : Nat) (v : Value) (R : List Rd) (w : World) (h : OwR w B v R) (hI : InvR R) (hs : ¬ 4611686018427387904 < s) (hs2 : ¬ s < fl) (hs3 : R.length = 256) :
    Calls Try.prog 25 #[.agg #[.int .u64 (fl : Nat), v], .int .u64 (s : Nat)] w fun e w' => (∃ v', e = .returned (.tuple #[.agg #[.int .u64 (fl : Nat), v'], .int .i64 (entN fl R s : Nat), .int .i64 (entE fl R s)]) ∧ OwR w' 0 v' (entL fl R s)) ∧ Below w.heap.size w w' := by
  have H0 : Hid (OwR w B v R) := h
  have hlen := hI.len
  obtain ⟨p, c, ev, hle, -⟩ := h.rd
  obtain ⟨rl, hrl⟩ : ∃ rl, rl = R.length := ⟨_, rfl⟩
  rw [← hrl] at ev
  subst ev
  have hE : entE fl R s = 2 := by
    unfold entE
    rw [if_neg hs, if_neg hs2, if_pos hs3]
  have hL : entL fl R s = R := by unfold entL; rw [hE, if_neg (by decide)]
  have hN : entN fl R s = 0 := by unfold entN; rw [hE, if_neg (by decide)]
  rw [hE, hL, hN]
  have q : ¬ (4611686018427387904 : Int) < (s : Int) := by omega
  have q' : ¬ (s : Int) < (fl : Int) := by omega
  have q3 : (256 : Int) ≤ (rl : Int) := by omega
  clear hs hs2 hs3 hle hlen hrl
  have HB : Hid (Below w.heap.size w ((w.alloc (.cells #[.int .u64 (fl : Nat), .slice p rl c] 29)).alloc (.cells #[.int .u64 (fl : Nat), .slice p rl c] 29))) := by
    show Below _ _ _
    go_grown
  have hbe : BoxT ((w.alloc (.cells #[.int .u64 (fl : Nat), .slice p rl c] 29)).alloc (.cells #[.int .u64 (fl : Nat), .slice p rl c] 29)) (w.heap.size + 1) #[.int .u64 (fl : Nat), .slice p rl c] 29 := by
    have h := BoxT.new (w.alloc (.cells #[.int .u64 (fl : Nat), .slice p rl c] 29)) #[.int .u64 (fl : Nat), .slice p rl c] 29
    have e : (w.alloc (.cells #[.int .u64 (fl : Nat), .slice p rl c] 29)).heap.size = w.heap.size + 1 := by simp
    rw [e] at h
    exact h
  have q0 := hbe.cell (i := 0)
  have q1 := hbe.cell (i := 1)
  clear hbe hE hL hN h hI
  go_enter Try.func25, Try.ntmps25
  go_wp2_with fail
  refine bodyPost_ret (v := .tuple #[.agg #[.int .u64 (fl : Nat), .slice p rl c], .int .i64 0, .int .i64 2]) (by simp [results, Try.results25, go_sem, q0, q1]) rfl ?_
  exact ⟨⟨_, rfl, owns_base (H0.out.on HB.out) (Nat.zero_le _)⟩, HB.out⟩

set_option maxHeartbeats 4000000 in
theorem renter4 (fl B s : Nat) (v : Value) (R : List Rd) (w : World) (h : OwR w B v R) (hI : InvR R) (hs : ¬ 4611686018427387904 < s) (hs2 : ¬ s < fl) (hs3 : ¬ R.length = 256) :
    Calls Try.prog 25 #[.agg #[.int .u64 (fl : Nat), v], .int .u64 (s : Nat)] w fun e w' => (∃ v', e = .returned (.tuple #[.agg #[.int .u64 (fl : Nat), v'], .int .i64 (entN fl R s : Nat), .int .i64 (entE fl R s)]) ∧ OwR w' 0 v' (entL fl R s)) ∧ Below w.heap.size w w' := by
  have H0 : Hid (OwR w B v R) := h
  have hlen := hI.len
  obtain ⟨p, c, ev, hle, -⟩ := h.rd
  obtain ⟨rl, hrl⟩ : ∃ rl, rl = R.length := ⟨_, rfl⟩
  rw [← hrl] at ev
  subst ev
  have hE : entE fl R s = 0 := by
    unfold entE
    rw [if_neg hs, if_neg hs2, if_neg hs3]
  have hL : entL fl R s = entR R s := by unfold entL; rw [hE, if_pos rfl]
  have hN : entN fl R s = freeN R := by unfold entN; rw [hE, if_pos rfl]
  rw [hE, hL, hN]
  have q : ¬ (4611686018427387904 : Int) < (s : Int) := by omega
  have q' : ¬ (s : Int) < (fl : Int) := by omega
  have q3 : ¬ (256 : Int) ≤ (rl : Int) := by omega
  have hs1 : (w.alloc (.cells #[.int .u64 (fl : Nat), .slice p rl c] 29)).heap.size = w.heap.size + 1 := by simp
  have L1 : Below w.heap.size w (w.alloc (.cells #[.int .u64 (fl : Nat), .slice p rl c] 29)) := (Below.refl _ _).alloc (Nat.le_refl _) _
  have L2 : Below (w.alloc (.cells #[.int .u64 (fl : Nat), .slice p rl c] 29)).heap.size (w.alloc (.cells #[.int .u64 (fl : Nat), .slice p rl c] 29)) ((w.alloc (.cells #[.int .u64 (fl : Nat), .slice p rl c] 29)).alloc (.cells #[.int .u64 0, .slice none 0 0] 29)) := (Below.refl _ _).alloc (Nat.le_refl _) _
  have X1 : BoxT (w.alloc (.cells #[.int .u64 (fl : Nat), .slice p rl c] 29)) w.heap.size #[.int .u64 (fl : Nat), .slice p rl c] 29 := BoxT.new _ _ _
  have X2 : BoxT ((w.alloc (.cells #[.int .u64 (fl : Nat), .slice p rl c] 29)).alloc (.cells #[.int .u64 0, .slice none 0 0] 29)) (w.heap.size + 1) #[.int .u64 0, .slice none 0 0] 29 := by rw [← hs1]; exact BoxT.new _ _ _
  have HX1 : Hid (BoxT ((w.alloc (.cells #[.int .u64 (fl : Nat), .slice p rl c] 29)).alloc (.cells #[.int .u64 0, .slice none 0 0] 29)) w.heap.size #[.int .u64 (fl : Nat), .slice p rl c] 29) := X1.on L2
  have HX2 : Hid (BoxT ((w.alloc (.cells #[.int .u64 (fl : Nat), .slice p rl c] 29)).alloc (.cells #[.int .u64 0, .slice none 0 0] 29)) (w.heap.size + 1) #[.int .u64 0, .slice none 0 0] 29) := X2
  have HL : Hid (Below w.heap.size w ((w.alloc (.cells #[.int .u64 (fl : Nat), .slice p rl c] 29)).alloc (.cells #[.int .u64 0, .slice none 0 0] 29))) := L1.trans (L2.mono (by omega))
  have H2 : Hid (OwR ((w.alloc (.cells #[.int .u64 (fl : Nat), .slice p rl c] 29)).alloc (.cells #[.int .u64 0, .slice none 0 0] 29)) B (.slice p rl c) R) := H0.out.on HL.out
  have HI : Hid (InvR R) := hI
  have HRL : Hid (rl = R.length ∧ R.length ≤ 256 ∧ R.length ≤ c) := ⟨hrl, hlen, hle⟩
  have a0 : ((w.alloc (.cells #[.int .u64 (fl : Nat), .slice p rl c] 29)).alloc (.cells #[.int .u64 0, .slice none 0 0] 29)).cell? ⟨w.heap.size, 0, none⟩ = some (.int .u64 (fl : Nat)) := HX1.out.cell
  have a1 : ((w.alloc (.cells #[.int .u64 (fl : Nat), .slice p rl c] 29)).alloc (.cells #[.int .u64 0, .slice none 0 0] 29)).cell? ⟨w.heap.size, 1, none⟩ = some (.slice p rl c) := HX1.out.cell
  have hr256 : rl ≤ 256 := by omega
  clear hE hL hN hs1 L1 L2 X1 X2 h hI hs hs2 hs3 hrl hlen hle H0
  go_enter Try.func25, Try.ntmps25
  go_wp2_with fail
  generalize ((w.alloc (.cells #[.int .u64 (fl : Nat), .slice p rl c] 29)).alloc (.cells #[.int .u64 0, .slice none 0 0] 29)) = w2 at *
  clear q q' q3
  go_loopw [7] (fun i wr => ∃ j : Nat, j ≤ rl ∧ i = .int .i64 (j : Int) ∧ Hid (∀ k (hk : k < R.length), k < j → R[k].sl = k) ∧ wr = w2) (fun i _ => rl - (intOf i).toNat)
  case atStart => exact ⟨0, Nat.zero_le _, by go_num, fun k _ h => absurd h (by omega), rfl⟩
  case round =>
    obtain ⟨j, hj, rfl, hA, hwr⟩ := hrel
    rw [hwr]
    clear hwr
    have hrl := HRL.out
    have K : (j = rl ∨ ∃ hj1 : j < R.length, R[j].sl ≠ j) → j = freeN R := fun hx => by
      refine Free.uniq (R := R) ⟨by omega, hA.out, fun i hi hji => ?_⟩ (free_is HI.out)
      rcases hx with hx | ⟨hj1, hx⟩
      · omega
      · have h1 := HI.out.ge j hj1
        exact HI.out.gap hji hi (by omega)
    obtain ⟨g1, g2, g3, g4, g5⟩ := H2.out.addr
    by_cases hj0 : j = rl
    · have HK : Hid (j = freeN R) := K (.inl hj0)
      subst hj0
      cases p with
      | none =>
        obtain ⟨hr0, hc0⟩ := g1 rfl
        have hj00 : j = 0 := by rw [g4, hr0]; rfl
        subst hc0
        subst hj00
        have HR0 : Hid (R = []) := hr0
        have HT : Hid (([] : List Rd).length = 0 ∧ ([] : List Rd).length = 0) := ⟨rfl, rfl⟩
        have HT2 : Hid ((([] : List Rd)).length ≤ 1000 ∧ (([] : List Rd)).length ≤ 1000) := ⟨by rw [HT.out.1]; omega, by rw [HT.out.2]; omega⟩
        have HV2 : Hid (SlR w2 (.slice none 0 0) (([] : List Rd))) := ⟨_, 0, by rw [HT.out.2], (fun _ => ⟨rfl, rfl⟩), (fun a ha => by cases ha), (fun i hi => absurd hi (by simp))⟩
        have HS0 : Hid (((none : Option Addr) = none → ([] : List Rd) = [] ∧ 0 = 0) ∧ (∀ a, (none : Option Addr) = some a → ∃ b o, a = ⟨b, o, none⟩) ∧ RdR w2 none (([] : List Rd))) := ⟨fun _ => ⟨rfl, rfl⟩, (fun a ha => by cases ha), fun i hi => absurd hi (by simp)⟩
        clear hA K g1 g2 g3 g4 g5 hrl hj
        go_wp2_with (at_builtin; refine wpList_appR _ rfl (.tmp 39) (.tmp 43) rfl w2.heap.size _ [] (([] : List Rd)) (none : Option Addr) 0 rfl (OwR.nil _ _) (rfl) HS0.out.1 HS0.out.2.1 HS0.out.2.2 (by simp) HT2.out.1 (Nat.le_refl _) ?_)
        intro v3 w3 hv3 hg3
        have HL3 : Hid (Below w2.heap.size w2 w3) := (OwR.nil w2 w2.heap.size).grow (Below.refl _ _) (Nat.le_refl _) hg3
        have HV3 : Hid (OwR w3 w2.heap.size v3 (([] : List Rd))) := hv3
        obtain ⟨p3, l3, c3, rfl⟩ : ∃ p l c, v3 = .slice p l c := by
          obtain ⟨p, c, e, -⟩ := hv3.rd
          exact ⟨_, _, _, e⟩
        clear hv3 hg3
        have L4 : Below w3.heap.size w3 (w3.alloc (.cells #[.int .i64 0, .int .u64 (s : Nat)] 49)) := (Below.refl _ _).alloc (Nat.le_refl _) _
        have HL4 : Hid (Below w2.heap.size w2 (w3.alloc (.cells #[.int .i64 0, .int .u64 (s : Nat)] 49))) := HL3.out.trans (L4.mono HL3.out.size)
        have HV4 : Hid (OwR (w3.alloc (.cells #[.int .i64 0, .int .u64 (s : Nat)] 49)) w2.heap.size (.slice p3 l3 c3) (([] : List Rd))) := HV3.out.on L4
        have HO4 : Hid (SlR (w3.alloc (.cells #[.int .i64 0, .int .u64 (s : Nat)] 49)) (.slice (some ⟨w3.heap.size, 0, none⟩) 1 1) [⟨0, s⟩]) := SlR.one w3 0 s _ rfl
        have HO5 : Hid (RdR (w3.alloc (.cells #[.int .i64 0, .int .u64 (s : Nat)] 49)) (some ⟨w3.heap.size, 0, none⟩) [⟨0, s⟩]) := by
          obtain ⟨p9, c9, e9, _, _, h9⟩ := HO4.out
          cases e9
          exact h9
        have n1 : (w3.alloc (.cells #[.int .i64 0, .int .u64 (s : Nat)] 49)).cell? ⟨w.heap.size, 1, none⟩ = some (.slice none 0 0) := (HX1.out.on (w' := (w3.alloc (.cells #[.int .i64 0, .int .u64 (s : Nat)] 49))) HL4.out).cell
        clear L4
        go_wp2_with (at_builtin; refine wpList_appR _ rfl (.tmp 45) (.tmp 49) rfl w2.heap.size _ (([] : List Rd)) [(⟨0, s⟩ : Rd)] (some (⟨w3.heap.size, 0, none⟩ : Addr)) 1 rfl HV4.out rfl (fun h => by cases h) (fun a ha => by cases ha; exact ⟨_, _, rfl⟩) HO5.out HT2.out.1 (by simp) HL4.out.size ?_)
        intro v5 w5 hv5 hg5
        have HL5 : Hid (Below w2.heap.size w2 w5) := HV4.out.grow HL4.out HL4.out.size hg5
        have HV5 : Hid (OwR w5 w2.heap.size v5 (([] : List Rd) ++ [⟨0, s⟩])) := hv5
        obtain ⟨p5, l5, c5, rfl⟩ : ∃ p l c, v5 = .slice p l c := by
          obtain ⟨p, c, e, -⟩ := hv5.rd
          exact ⟨_, _, _, e⟩
        have HV25 : Hid (SlR w5 (.slice none 0 0) (([] : List Rd))) := HV2.out.on HL5.out
        have n2 : w5.cell? ⟨w.heap.size, 1, none⟩ = some (.slice none 0 0) := (HX1.out.on HL5.out).cell
        clear hv5 hg5 n1 HO4 HO5 HV4 HL4 HV3 HL3
        have HS5 : Hid (((none : Option Addr) = none → ([] : List Rd) = [] ∧ 0 = 0) ∧ (∀ a, (none : Option Addr) = some a → ∃ b o, a = ⟨b, o, none⟩) ∧ RdR w5 (none : Option Addr) (([] : List Rd))) := by
          obtain ⟨p9, c9, e9, h7, h8, h9⟩ := HV25.out
          injection e9 with e1 e2 e3
          subst e1 e3
          exact ⟨h7, h8, h9⟩
        go_wp2_with (at_builtin; refine wpList_appR _ rfl (.tmp 51) (.tmp 55) rfl w2.heap.size _ (([] : List Rd) ++ [(⟨0, s⟩ : Rd)]) (([] : List Rd)) (none : Option Addr) 0 rfl HV5.out (rfl) HS5.out.1 HS5.out.2.1 HS5.out.2.2 (by rw [List.length_append]; have := HT2.out; have := HT.out; simp <;> omega) HT2.out.2 HL5.out.size ?_)
        intro v6 w6 hv6 hg6
        have HL6 : Hid (Below w2.heap.size w2 w6) := HV5.out.grow HL5.out HL5.out.size hg6
        have HV6 : Hid (OwR w6 w2.heap.size v6 (entR R s)) := show OwR _ _ _ _ by
          have h := hv6
          unfold entR
          rw [← HK.out, HR0.out]
          simpa using h
        obtain ⟨p6, l6, c6, rfl⟩ : ∃ p l c, v6 = .slice p l c := by
          obtain ⟨p, c, e, -⟩ := HV6.out.rd
          exact ⟨_, _, _, e⟩
        have HX16 : Hid (BoxT w6 w.heap.size #[.int .u64 (fl : Nat), .slice none 0 0] 29) := HX1.out.on HL6.out
        have HX26 : Hid (BoxT w6 (w.heap.size + 1) #[.int .u64 0, .slice none 0 0] 29) := HX2.out.on HL6.out
        have HLW : Hid (Below w.heap.size w w6) := HL.out.trans (HL6.out.mono HL.out.size)
        have HZ : Hid (w.heap.size + 1 < w2.heap.size) := HX2.out.lt
        clear hv6 hg6 n2 HV5 HL5
        have o2 : w6.frozen? ⟨w.heap.size, 1, none⟩ = false := HX16.out.frozen
        have o3 : w6.cell? ⟨w.heap.size, 1, none⟩ = some (.slice none 0 0) := HX16.out.cell
        have n0 : w6.cell? ⟨w.heap.size, 0, none⟩ = some (.int .u64 (fl : Nat)) := HX16.out.cell
        have g0' : w6.cell? ⟨w.heap.size + 1, 0, none⟩ = some (.int .u64 0) := HX26.out.cell
        have g1' : w6.cell? ⟨w.heap.size + 1, 1, none⟩ = some (.slice none 0 0) := HX26.out.cell
        have y0 : w6.frozen? ⟨w.heap.size + 1, 0, none⟩ = false := HX26.out.frozen
        have y1 : w6.frozen? ⟨w.heap.size + 1, 1, none⟩ = false := HX26.out.frozen
        have hfz : Frm w6 (((w6.setCell ⟨w.heap.size, 1, none⟩ (.slice p6 l6 c6)).setCell ⟨w.heap.size + 1, 0, none⟩ (.int .u64 (fl : Nat))).setCell ⟨w.heap.size + 1, 1, none⟩ (.slice p6 l6 c6)) (fun k => k = w.heap.size ∨ k = w.heap.size + 1) := ((frm_set w6 _ 1 _ (F := fun k => k = w.heap.size ∨ k = w.heap.size + 1) (.inl rfl)).trans (frm_set _ _ 0 _ (F := fun k => k = w.heap.size ∨ k = w.heap.size + 1) (.inr rfl))).trans (frm_set _ _ 1 _ (F := fun k => k = w.heap.size ∨ k = w.heap.size + 1) (.inr rfl))
        have HBE : Hid (Below w.heap.size w (((w6.setCell ⟨w.heap.size, 1, none⟩ (.slice p6 l6 c6)).setCell ⟨w.heap.size + 1, 0, none⟩ (.int .u64 (fl : Nat))).setCell ⟨w.heap.size + 1, 1, none⟩ (.slice p6 l6 c6))) := HLW.out.trans (hfz.below HLW.out.size (fun k hk => by omega))
        have HVE : Hid (OwR (((w6.setCell ⟨w.heap.size, 1, none⟩ (.slice p6 l6 c6)).setCell ⟨w.heap.size + 1, 0, none⟩ (.int .u64 (fl : Nat))).setCell ⟨w.heap.size + 1, 1, none⟩ (.slice p6 l6 c6)) 0 (.slice p6 l6 c6) (entR R s)) := owns_base (owns_block HV6.out (fun g hg => by
          obtain ⟨cur, h1⟩ := own_cells HV6.out hg
          refine hfz.block g (Array.getElem?_eq_some_iff.1 h1).1 (fun e => ?_)
          have h2 := HV6.out.low hg
          have h3 := HZ.out
          omega)) (Nat.zero_le _)
        have hbe : BoxT (((w6.setCell ⟨w.heap.size, 1, none⟩ (.slice p6 l6 c6)).setCell ⟨w.heap.size + 1, 0, none⟩ (.int .u64 (fl : Nat))).setCell ⟨w.heap.size + 1, 1, none⟩ (.slice p6 l6 c6)) (w.heap.size + 1) #[.int .u64 (fl : Nat), .slice p6 l6 c6] 29 := ((HX26.out.off (i := 1) _ (by omega)).set (i := 0) _).set (i := 1) _
        have q0 := hbe.cell (i := 0)
        have q1 := hbe.cell (i := 1)
        clear hfz hbe HX16 HX26 HV6 HL6 HLW HX1 HX2
        go_wp2_with fail
        refine bodyPost_ret (v := .tuple #[.agg #[.int .u64 (fl : Nat), .slice p6 l6 c6], .int .i64 0, .int .i64 0]) (by simp [results, Try.results25, go_sem, q0, q1]) rfl ?_
        exact ⟨⟨_, by rw [← HK.out]; rfl, HVE.out⟩, HBE.out⟩
      | some ad =>
        obtain ⟨b, o, rfl⟩ := g2 ad rfl
        by_cases hcj : c = j
        · subst hcj
          have HT : Hid ((R.take c).length = c ∧ (R.drop c).length = 0) := ⟨by rw [List.length_take]; omega, by rw [List.length_drop]; omega⟩
          have HT2 : Hid ((R.take c).length ≤ 1000 ∧ (R.drop c).length ≤ 1000) := ⟨by rw [HT.out.1]; omega, by rw [HT.out.2]; omega⟩
          have HV2 : Hid (SlR w2 (.slice (some ⟨b, o, none⟩) 0 0) (R.drop c)) := ⟨_, 0, by rw [HT.out.2], (fun h => by cases h), (fun a ha => by cases ha; exact ⟨_, _, rfl⟩), (fun i hi => absurd hi (by rw [HT.out.2]; omega))⟩
          have HS0 : Hid ((((some ⟨b, o, none⟩) : Option Addr) = none → R.take c = [] ∧ c = 0) ∧ (∀ a, ((some ⟨b, o, none⟩) : Option Addr) = some a → ∃ b o, a = ⟨b, o, none⟩) ∧ RdR w2 (some ⟨b, o, none⟩) (R.take c)) := ⟨(fun h => by cases h), (fun a ha => by cases ha; exact ⟨_, _, rfl⟩), g3.take c⟩
          clear hA K g1 g2 g3 g4 g5 hrl hj
          go_wp2_with (at_builtin; refine wpList_appR _ rfl (.tmp 39) (.tmp 43) rfl w2.heap.size _ [] (R.take c) ((some ⟨b, o, none⟩) : Option Addr) c rfl (OwR.nil _ _) (by rw [HT.out.1]; rfl) HS0.out.1 HS0.out.2.1 HS0.out.2.2 (by simp) HT2.out.1 (Nat.le_refl _) ?_)
          intro v3 w3 hv3 hg3
          have HL3 : Hid (Below w2.heap.size w2 w3) := (OwR.nil w2 w2.heap.size).grow (Below.refl _ _) (Nat.le_refl _) hg3
          have HV3 : Hid (OwR w3 w2.heap.size v3 (R.take c)) := hv3
          obtain ⟨p3, l3, c3, rfl⟩ : ∃ p l c, v3 = .slice p l c := by
            obtain ⟨p, c, e, -⟩ := hv3.rd
            exact ⟨_, _, _, e⟩
          clear hv3 hg3
          have L4 : Below w3.heap.size w3 (w3.alloc (.cells #[.int .i64 (c : Nat), .int .u64 (s : Nat)] 49)) := (Below.refl _ _).alloc (Nat.le_refl _) _
          have HL4 : Hid (Below w2.heap.size w2 (w3.alloc (.cells #[.int .i64 (c : Nat), .int .u64 (s : Nat)] 49))) := HL3.out.trans (L4.mono HL3.out.size)
          have HV4 : Hid (OwR (w3.alloc (.cells #[.int .i64 (c : Nat), .int .u64 (s : Nat)] 49)) w2.heap.size (.slice p3 l3 c3) (R.take c)) := HV3.out.on L4
          have HO4 : Hid (SlR (w3.alloc (.cells #[.int .i64 (c : Nat), .int .u64 (s : Nat)] 49)) (.slice (some ⟨w3.heap.size, 0, none⟩) 1 1) [⟨c, s⟩]) := SlR.one w3 c s _ rfl
          have HO5 : Hid (RdR (w3.alloc (.cells #[.int .i64 (c : Nat), .int .u64 (s : Nat)] 49)) (some ⟨w3.heap.size, 0, none⟩) [⟨c, s⟩]) := by
            obtain ⟨p9, c9, e9, _, _, h9⟩ := HO4.out
            cases e9
            exact h9
          have n1 : (w3.alloc (.cells #[.int .i64 (c : Nat), .int .u64 (s : Nat)] 49)).cell? ⟨w.heap.size, 1, none⟩ = some (.slice (some ⟨b, o, none⟩) c c) := (HX1.out.on (w' := (w3.alloc (.cells #[.int .i64 (c : Nat), .int .u64 (s : Nat)] 49))) HL4.out).cell
          clear L4
          go_wp2_with (at_builtin; refine wpList_appR _ rfl (.tmp 45) (.tmp 49) rfl w2.heap.size _ (R.take c) [(⟨c, s⟩ : Rd)] (some (⟨w3.heap.size, 0, none⟩ : Addr)) 1 rfl HV4.out rfl (fun h => by cases h) (fun a ha => by cases ha; exact ⟨_, _, rfl⟩) HO5.out HT2.out.1 (by simp) HL4.out.size ?_)
          intro v5 w5 hv5 hg5
          have HL5 : Hid (Below w2.heap.size w2 w5) := HV4.out.grow HL4.out HL4.out.size hg5
          have HV5 : Hid (OwR w5 w2.heap.size v5 (R.take c ++ [⟨c, s⟩])) := hv5
          obtain ⟨p5, l5, c5, rfl⟩ : ∃ p l c, v5 = .slice p l c := by
            obtain ⟨p, c, e, -⟩ := hv5.rd
            exact ⟨_, _, _, e⟩
          have HV25 : Hid (SlR w5 (.slice (some ⟨b, o, none⟩) 0 0) (R.drop c)) := HV2.out.on HL5.out
          have n2 : w5.cell? ⟨w.heap.size, 1, none⟩ = some (.slice (some ⟨b, o, none⟩) c c) := (HX1.out.on HL5.out).cell
          clear hv5 hg5 n1 HO4 HO5 HV4 HL4 HV3 HL3
          have HS5 : Hid ((((some ⟨b, o, none⟩) : Option Addr) = none → R.drop c = [] ∧ 0 = 0) ∧ (∀ a, ((some ⟨b, o, none⟩) : Option Addr) = some a → ∃ b o, a = ⟨b, o, none⟩) ∧ RdR w5 ((some ⟨b, o, none⟩) : Option Addr) (R.drop c)) := by
            obtain ⟨p9, c9, e9, h7, h8, h9⟩ := HV25.out
            injection e9 with e1 e2 e3
            subst e1 e3
            exact ⟨h7, h8, h9⟩
          go_wp2_with (at_builtin; refine wpList_appR _ rfl (.tmp 51) (.tmp 55) rfl w2.heap.size _ (R.take c ++ [(⟨c, s⟩ : Rd)]) (R.drop c) ((some ⟨b, o, none⟩) : Option Addr) 0 rfl HV5.out (by rw [HT.out.2]; rfl) HS5.out.1 HS5.out.2.1 HS5.out.2.2 (by rw [List.length_append]; have := HT2.out; have := HT.out; simp <;> omega) HT2.out.2 HL5.out.size ?_)
          intro v6 w6 hv6 hg6
          have HL6 : Hid (Below w2.heap.size w2 w6) := HV5.out.grow HL5.out HL5.out.size hg6
          have HV6 : Hid (OwR w6 w2.heap.size v6 (entR R s)) := show OwR _ _ _ _ by
            have h := hv6
            unfold entR
            rw [← HK.out]
            simpa using h
          obtain ⟨p6, l6, c6, rfl⟩ : ∃ p l c, v6 = .slice p l c := by
            obtain ⟨p, c, e, -⟩ := HV6.out.rd
            exact ⟨_, _, _, e⟩
          have HX16 : Hid (BoxT w6 w.heap.size #[.int .u64 (fl : Nat), .slice (some ⟨b, o, none⟩) c c] 29) := HX1.out.on HL6.out
          have HX26 : Hid (BoxT w6 (w.heap.size + 1) #[.int .u64 0, .slice none 0 0] 29) := HX2.out.on HL6.out
          have HLW : Hid (Below w.heap.size w w6) := HL.out.trans (HL6.out.mono HL.out.size)
          have HZ : Hid (w.heap.size + 1 < w2.heap.size) := HX2.out.lt
          clear hv6 hg6 n2 HV5 HL5
          have o2 : w6.frozen? ⟨w.heap.size, 1, none⟩ = false := HX16.out.frozen
          have o3 : w6.cell? ⟨w.heap.size, 1, none⟩ = some (.slice (some ⟨b, o, none⟩) c c) := HX16.out.cell
          have n0 : w6.cell? ⟨w.heap.size, 0, none⟩ = some (.int .u64 (fl : Nat)) := HX16.out.cell
          have g0' : w6.cell? ⟨w.heap.size + 1, 0, none⟩ = some (.int .u64 0) := HX26.out.cell
          have g1' : w6.cell? ⟨w.heap.size + 1, 1, none⟩ = some (.slice none 0 0) := HX26.out.cell
          have y0 : w6.frozen? ⟨w.heap.size + 1, 0, none⟩ = false := HX26.out.frozen
          have y1 : w6.frozen? ⟨w.heap.size + 1, 1, none⟩ = false := HX26.out.frozen
          have hfz : Frm w6 (((w6.setCell ⟨w.heap.size, 1, none⟩ (.slice p6 l6 c6)).setCell ⟨w.heap.size + 1, 0, none⟩ (.int .u64 (fl : Nat))).setCell ⟨w.heap.size + 1, 1, none⟩ (.slice p6 l6 c6)) (fun k => k = w.heap.size ∨ k = w.heap.size + 1) := ((frm_set w6 _ 1 _ (F := fun k => k = w.heap.size ∨ k = w.heap.size + 1) (.inl rfl)).trans (frm_set _ _ 0 _ (F := fun k => k = w.heap.size ∨ k = w.heap.size + 1) (.inr rfl))).trans (frm_set _ _ 1 _ (F := fun k => k = w.heap.size ∨ k = w.heap.size + 1) (.inr rfl))
          have HBE : Hid (Below w.heap.size w (((w6.setCell ⟨w.heap.size, 1, none⟩ (.slice p6 l6 c6)).setCell ⟨w.heap.size + 1, 0, none⟩ (.int .u64 (fl : Nat))).setCell ⟨w.heap.size + 1, 1, none⟩ (.slice p6 l6 c6))) := HLW.out.trans (hfz.below HLW.out.size (fun k hk => by omega))
          have HVE : Hid (OwR (((w6.setCell ⟨w.heap.size, 1, none⟩ (.slice p6 l6 c6)).setCell ⟨w.heap.size + 1, 0, none⟩ (.int .u64 (fl : Nat))).setCell ⟨w.heap.size + 1, 1, none⟩ (.slice p6 l6 c6)) 0 (.slice p6 l6 c6) (entR R s)) := owns_base (owns_block HV6.out (fun g hg => by
            obtain ⟨cur, h1⟩ := own_cells HV6.out hg
            refine hfz.block g (Array.getElem?_eq_some_iff.1 h1).1 (fun e => ?_)
            have h2 := HV6.out.low hg
            have h3 := HZ.out
            omega)) (Nat.zero_le _)
          have hbe : BoxT (((w6.setCell ⟨w.heap.size, 1, none⟩ (.slice p6 l6 c6)).setCell ⟨w.heap.size + 1, 0, none⟩ (.int .u64 (fl : Nat))).setCell ⟨w.heap.size + 1, 1, none⟩ (.slice p6 l6 c6)) (w.heap.size + 1) #[.int .u64 (fl : Nat), .slice p6 l6 c6] 29 := ((HX26.out.off (i := 1) _ (by omega)).set (i := 0) _).set (i := 1) _
          have q0 := hbe.cell (i := 0)
          have q1 := hbe.cell (i := 1)
          clear hfz hbe HX16 HX26 HV6 HL6 HLW HX1 HX2
          go_wp2_with fail
          refine bodyPost_ret (v := .tuple #[.agg #[.int .u64 (fl : Nat), .slice p6 l6 c6], .int .i64 (c : Nat), .int .i64 0]) (by simp [results, Try.results25, go_sem, q0, q1]) rfl ?_
          exact ⟨⟨_, by rw [HK.out], HVE.out⟩, HBE.out⟩
        · have hjc : j < c := by omega
          clear hcj
          have HT : Hid ((R.take j).length = j ∧ (R.drop j).length = 0) := ⟨by rw [List.length_take]; omega, by rw [List.length_drop]; omega⟩
          have HT2 : Hid ((R.take j).length ≤ 1000 ∧ (R.drop j).length ≤ 1000) := ⟨by rw [HT.out.1]; omega, by rw [HT.out.2]; omega⟩
          have HV2 : Hid (SlR w2 (.slice (some ⟨b, o + j * 2, none⟩) 0 (c - j)) (R.drop j)) := ⟨_, (c - j), by rw [HT.out.2], (fun h => by cases h), (fun a ha => by cases ha; exact ⟨_, _, rfl⟩), (fun i hi => absurd hi (by rw [HT.out.2]; omega))⟩
          have HS0 : Hid ((((some ⟨b, o, none⟩) : Option Addr) = none → R.take j = [] ∧ c = 0) ∧ (∀ a, ((some ⟨b, o, none⟩) : Option Addr) = some a → ∃ b o, a = ⟨b, o, none⟩) ∧ RdR w2 (some ⟨b, o, none⟩) (R.take j)) := ⟨(fun h => by cases h), (fun a ha => by cases ha; exact ⟨_, _, rfl⟩), g3.take j⟩
          clear hA K g1 g2 g3 g4 g5 hrl hj
          go_wp2_with (at_builtin; refine wpList_appR _ rfl (.tmp 39) (.tmp 43) rfl w2.heap.size _ [] (R.take j) ((some ⟨b, o, none⟩) : Option Addr) c rfl (OwR.nil _ _) (by rw [HT.out.1]; rfl) HS0.out.1 HS0.out.2.1 HS0.out.2.2 (by simp) HT2.out.1 (Nat.le_refl _) ?_)
          intro v3 w3 hv3 hg3
          have HL3 : Hid (Below w2.heap.size w2 w3) := (OwR.nil w2 w2.heap.size).grow (Below.refl _ _) (Nat.le_refl _) hg3
          have HV3 : Hid (OwR w3 w2.heap.size v3 (R.take j)) := hv3
          obtain ⟨p3, l3, c3, rfl⟩ : ∃ p l c, v3 = .slice p l c := by
            obtain ⟨p, c, e, -⟩ := hv3.rd
            exact ⟨_, _, _, e⟩
          clear hv3 hg3
          have L4 : Below w3.heap.size w3 (w3.alloc (.cells #[.int .i64 (j : Nat), .int .u64 (s : Nat)] 49)) := (Below.refl _ _).alloc (Nat.le_refl _) _
          have HL4 : Hid (Below w2.heap.size w2 (w3.alloc (.cells #[.int .i64 (j : Nat), .int .u64 (s : Nat)] 49))) := HL3.out.trans (L4.mono HL3.out.size)
          have HV4 : Hid (OwR (w3.alloc (.cells #[.int .i64 (j : Nat), .int .u64 (s : Nat)] 49)) w2.heap.size (.slice p3 l3 c3) (R.take j)) := HV3.out.on L4
          have HO4 : Hid (SlR (w3.alloc (.cells #[.int .i64 (j : Nat), .int .u64 (s : Nat)] 49)) (.slice (some ⟨w3.heap.size, 0, none⟩) 1 1) [⟨j, s⟩]) := SlR.one w3 j s _ rfl
          have HO5 : Hid (RdR (w3.alloc (.cells #[.int .i64 (j : Nat), .int .u64 (s : Nat)] 49)) (some ⟨w3.heap.size, 0, none⟩) [⟨j, s⟩]) := by
            obtain ⟨p9, c9, e9, _, _, h9⟩ := HO4.out
            cases e9
            exact h9
          have n1 : (w3.alloc (.cells #[.int .i64 (j : Nat), .int .u64 (s : Nat)] 49)).cell? ⟨w.heap.size, 1, none⟩ = some (.slice (some ⟨b, o, none⟩) j c) := (HX1.out.on (w' := (w3.alloc (.cells #[.int .i64 (j : Nat), .int .u64 (s : Nat)] 49))) HL4.out).cell
          clear L4
          go_wp2_with (at_builtin; refine wpList_appR _ rfl (.tmp 45) (.tmp 49) rfl w2.heap.size _ (R.take j) [(⟨j, s⟩ : Rd)] (some (⟨w3.heap.size, 0, none⟩ : Addr)) 1 rfl HV4.out rfl (fun h => by cases h) (fun a ha => by cases ha; exact ⟨_, _, rfl⟩) HO5.out HT2.out.1 (by simp) HL4.out.size ?_)
          intro v5 w5 hv5 hg5
          have HL5 : Hid (Below w2.heap.size w2 w5) := HV4.out.grow HL4.out HL4.out.size hg5
          have HV5 : Hid (OwR w5 w2.heap.size v5 (R.take j ++ [⟨j, s⟩])) := hv5
          obtain ⟨p5, l5, c5, rfl⟩ : ∃ p l c, v5 = .slice p l c := by
            obtain ⟨p, c, e, -⟩ := hv5.rd
            exact ⟨_, _, _, e⟩
          have HV25 : Hid (SlR w5 (.slice (some ⟨b, o + j * 2, none⟩) 0 (c - j)) (R.drop j)) := HV2.out.on HL5.out
          have n2 : w5.cell? ⟨w.heap.size, 1, none⟩ = some (.slice (some ⟨b, o, none⟩) j c) := (HX1.out.on HL5.out).cell
          clear hv5 hg5 n1 HO4 HO5 HV4 HL4 HV3 HL3
          have HS5 : Hid ((((some ⟨b, o + j * 2, none⟩) : Option Addr) = none → R.drop j = [] ∧ (c - j) = 0) ∧ (∀ a, ((some ⟨b, o + j * 2, none⟩) : Option Addr) = some a → ∃ b o, a = ⟨b, o, none⟩) ∧ RdR w5 ((some ⟨b, o + j * 2, none⟩) : Option Addr) (R.drop j)) := by
            obtain ⟨p9, c9, e9, h7, h8, h9⟩ := HV25.out
            injection e9 with e1 e2 e3
            subst e1 e3
            exact ⟨h7, h8, h9⟩
          go_wp2_with (at_builtin; refine wpList_appR _ rfl (.tmp 51) (.tmp 55) rfl w2.heap.size _ (R.take j ++ [(⟨j, s⟩ : Rd)]) (R.drop j) ((some ⟨b, o + j * 2, none⟩) : Option Addr) (c - j) rfl HV5.out (by rw [HT.out.2]; rfl) HS5.out.1 HS5.out.2.1 HS5.out.2.2 (by rw [List.length_append]; have := HT2.out; have := HT.out; simp <;> omega) HT2.out.2 HL5.out.size ?_)
          intro v6 w6 hv6 hg6
          have HL6 : Hid (Below w2.heap.size w2 w6) := HV5.out.grow HL5.out HL5.out.size hg6
          have HV6 : Hid (OwR w6 w2.heap.size v6 (entR R s)) := show OwR _ _ _ _ by
            have h := hv6
            unfold entR
            rw [← HK.out]
            simpa using h
          obtain ⟨p6, l6, c6, rfl⟩ : ∃ p l c, v6 = .slice p l c := by
            obtain ⟨p, c, e, -⟩ := HV6.out.rd
            exact ⟨_, _, _, e⟩
          have HX16 : Hid (BoxT w6 w.heap.size #[.int .u64 (fl : Nat), .slice (some ⟨b, o, none⟩) j c] 29) := HX1.out.on HL6.out
          have HX26 : Hid (BoxT w6 (w.heap.size + 1) #[.int .u64 0, .slice none 0 0] 29) := HX2.out.on HL6.out
          have HLW : Hid (Below w.heap.size w w6) := HL.out.trans (HL6.out.mono HL.out.size)
          have HZ : Hid (w.heap.size + 1 < w2.heap.size) := HX2.out.lt
          clear hv6 hg6 n2 HV5 HL5
          have o2 : w6.frozen? ⟨w.heap.size, 1, none⟩ = false := HX16.out.frozen
          have o3 : w6.cell? ⟨w.heap.size, 1, none⟩ = some (.slice (some ⟨b, o, none⟩) j c) := HX16.out.cell
          have n0 : w6.cell? ⟨w.heap.size, 0, none⟩ = some (.int .u64 (fl : Nat)) := HX16.out.cell
          have g0' : w6.cell? ⟨w.heap.size + 1, 0, none⟩ = some (.int .u64 0) := HX26.out.cell
          have g1' : w6.cell? ⟨w.heap.size + 1, 1, none⟩ = some (.slice none 0 0) := HX26.out.cell
          have y0 : w6.frozen? ⟨w.heap.size + 1, 0, none⟩ = false := HX26.out.frozen
          have y1 : w6.frozen? ⟨w.heap.size + 1, 1, none⟩ = false := HX26.out.frozen
          have hfz : Frm w6 (((w6.setCell ⟨w.heap.size, 1, none⟩ (.slice p6 l6 c6)).setCell ⟨w.heap.size + 1, 0, none⟩ (.int .u64 (fl : Nat))).setCell ⟨w.heap.size + 1, 1, none⟩ (.slice p6 l6 c6)) (fun k => k = w.heap.size ∨ k = w.heap.size + 1) := ((frm_set w6 _ 1 _ (F := fun k => k = w.heap.size ∨ k = w.heap.size + 1) (.inl rfl)).trans (frm_set _ _ 0 _ (F := fun k => k = w.heap.size ∨ k = w.heap.size + 1) (.inr rfl))).trans (frm_set _ _ 1 _ (F := fun k => k = w.heap.size ∨ k = w.heap.size + 1) (.inr rfl))
          have HBE : Hid (Below w.heap.size w (((w6.setCell ⟨w.heap.size, 1, none⟩ (.slice p6 l6 c6)).setCell ⟨w.heap.size + 1, 0, none⟩ (.int .u64 (fl : Nat))).setCell ⟨w.heap.size + 1, 1, none⟩ (.slice p6 l6 c6))) := HLW.out.trans (hfz.below HLW.out.size (fun k hk => by omega))
          have HVE : Hid (OwR (((w6.setCell ⟨w.heap.size, 1, none⟩ (.slice p6 l6 c6)).setCell ⟨w.heap.size + 1, 0, none⟩ (.int .u64 (fl : Nat))).setCell ⟨w.heap.size + 1, 1, none⟩ (.slice p6 l6 c6)) 0 (.slice p6 l6 c6) (entR R s)) := owns_base (owns_block HV6.out (fun g hg => by
            obtain ⟨cur, h1⟩ := own_cells HV6.out hg
            refine hfz.block g (Array.getElem?_eq_some_iff.1 h1).1 (fun e => ?_)
            have h2 := HV6.out.low hg
            have h3 := HZ.out
            omega)) (Nat.zero_le _)
          have hbe : BoxT (((w6.setCell ⟨w.heap.size, 1, none⟩ (.slice p6 l6 c6)).setCell ⟨w.heap.size + 1, 0, none⟩ (.int .u64 (fl : Nat))).setCell ⟨w.heap.size + 1, 1, none⟩ (.slice p6 l6 c6)) (w.heap.size + 1) #[.int .u64 (fl : Nat), .slice p6 l6 c6] 29 := ((HX26.out.off (i := 1) _ (by omega)).set (i := 0) _).set (i := 1) _
          have q0 := hbe.cell (i := 0)
          have q1 := hbe.cell (i := 1)
          clear hfz hbe HX16 HX26 HV6 HL6 HLW HX1 HX2
          go_wp2_with fail
          refine bodyPost_ret (v := .tuple #[.agg #[.int .u64 (fl : Nat), .slice p6 l6 c6], .int .i64 (j : Nat), .int .i64 0]) (by simp [results, Try.results25, go_sem, q0, q1]) rfl ?_
          exact ⟨⟨_, by rw [HK.out], HVE.out⟩, HBE.out⟩
    · have hj1 : j < R.length := by omega
      obtain ⟨b, o, rfl, hb, d0, d1⟩ := g3 j hj1
      by_cases hx : R[j].sl = j
      · have HA2 : Hid (∀ k (hk : k < R.length), k < j + 1 → R[k].sl = k) := fun k hk hkj => by
          rcases Nat.lt_or_eq_of_le (Nat.lt_succ_iff.1 hkj) with h | h
          · exact hA.out k hk h
          · subst h; exact hx
        rw [hx] at d0
        have hj2 : j < rl := by omega
        clear hx hA K g1 g2 g3 g4 g5 hb d1 hrl hj0 hj1
        go_wp2_with fail
        go_roundw
        case rel => exact ⟨j + 1, by omega, by go_num, HA2, by trivial⟩
        case measure => simp [intOf]; omega
      · have HK : Hid (j = freeN R) := K (.inr ⟨hj1, hx⟩)
        have hxx : ¬ R[j].sl = j := hx
        have hj2 : j < rl := by omega
        have hjc : j ≤ c := by omega
        have hjr : j ≤ rl := by omega
        have hrc : rl ≤ c := by omega
        have HT : Hid ((R.take j).length = j ∧ (R.drop j).length = (rl - j)) := ⟨by rw [List.length_take]; omega, by rw [List.length_drop]; omega⟩
        have HT2 : Hid ((R.take j).length ≤ 1000 ∧ (R.drop j).length ≤ 1000) := ⟨by rw [HT.out.1]; omega, by rw [HT.out.2]; omega⟩
        have HV2 : Hid (SlR w2 (.slice (some ⟨b, o + j * 2, none⟩) (rl - j) (c - j)) (R.drop j)) := ⟨_, (c - j), by rw [HT.out.2], (fun h => by cases h), (fun a ha => by cases ha; exact ⟨_, _, rfl⟩), g3.drop j⟩
        have HS0 : Hid ((((some ⟨b, o, none⟩) : Option Addr) = none → R.take j = [] ∧ c = 0) ∧ (∀ a, ((some ⟨b, o, none⟩) : Option Addr) = some a → ∃ b o, a = ⟨b, o, none⟩) ∧ RdR w2 (some ⟨b, o, none⟩) (R.take j)) := ⟨(fun h => by cases h), (fun a ha => by cases ha; exact ⟨_, _, rfl⟩), g3.take j⟩
        have qx : ¬ (R[j].sl : Int) = (j : Int) := by omega
        clear hx hxx K
        generalize R[j].sl = xs at *
        clear hA g1 g2 g3 g4 g5 hb d1 hrl hj0 hj1
        go_wp2_with (at_builtin; refine wpList_appR _ rfl (.tmp 39) (.tmp 43) rfl w2.heap.size _ [] (R.take j) ((some ⟨b, o, none⟩) : Option Addr) c rfl (OwR.nil _ _) (by rw [HT.out.1]; rfl) HS0.out.1 HS0.out.2.1 HS0.out.2.2 (by simp) HT2.out.1 (Nat.le_refl _) ?_)
        intro v3 w3 hv3 hg3
        have HL3 : Hid (Below w2.heap.size w2 w3) := (OwR.nil w2 w2.heap.size).grow (Below.refl _ _) (Nat.le_refl _) hg3
        have HV3 : Hid (OwR w3 w2.heap.size v3 (R.take j)) := hv3
        obtain ⟨p3, l3, c3, rfl⟩ : ∃ p l c, v3 = .slice p l c := by
          obtain ⟨p, c, e, -⟩ := hv3.rd
          exact ⟨_, _, _, e⟩
        clear hv3 hg3
        have L4 : Below w3.heap.size w3 (w3.alloc (.cells #[.int .i64 (j : Nat), .int .u64 (s : Nat)] 49)) := (Below.refl _ _).alloc (Nat.le_refl _) _
        have HL4 : Hid (Below w2.heap.size w2 (w3.alloc (.cells #[.int .i64 (j : Nat), .int .u64 (s : Nat)] 49))) := HL3.out.trans (L4.mono HL3.out.size)
        have HV4 : Hid (OwR (w3.alloc (.cells #[.int .i64 (j : Nat), .int .u64 (s : Nat)] 49)) w2.heap.size (.slice p3 l3 c3) (R.take j)) := HV3.out.on L4
        have HO4 : Hid (SlR (w3.alloc (.cells #[.int .i64 (j : Nat), .int .u64 (s : Nat)] 49)) (.slice (some ⟨w3.heap.size, 0, none⟩) 1 1) [⟨j, s⟩]) := SlR.one w3 j s _ rfl
        have HO5 : Hid (RdR (w3.alloc (.cells #[.int .i64 (j : Nat), .int .u64 (s : Nat)] 49)) (some ⟨w3.heap.size, 0, none⟩) [⟨j, s⟩]) := by
          obtain ⟨p9, c9, e9, _, _, h9⟩ := HO4.out
          cases e9
          exact h9
        have n1 : (w3.alloc (.cells #[.int .i64 (j : Nat), .int .u64 (s : Nat)] 49)).cell? ⟨w.heap.size, 1, none⟩ = some (.slice (some ⟨b, o, none⟩) rl c) := (HX1.out.on (w' := (w3.alloc (.cells #[.int .i64 (j : Nat), .int .u64 (s : Nat)] 49))) HL4.out).cell
        clear L4
        go_wp2_with (at_builtin; refine wpList_appR _ rfl (.tmp 45) (.tmp 49) rfl w2.heap.size _ (R.take j) [(⟨j, s⟩ : Rd)] (some (⟨w3.heap.size, 0, none⟩ : Addr)) 1 rfl HV4.out rfl (fun h => by cases h) (fun a ha => by cases ha; exact ⟨_, _, rfl⟩) HO5.out HT2.out.1 (by simp) HL4.out.size ?_)
        intro v5 w5 hv5 hg5
        have HL5 : Hid (Below w2.heap.size w2 w5) := HV4.out.grow HL4.out HL4.out.size hg5
        have HV5 : Hid (OwR w5 w2.heap.size v5 (R.take j ++ [⟨j, s⟩])) := hv5
        obtain ⟨p5, l5, c5, rfl⟩ : ∃ p l c, v5 = .slice p l c := by
          obtain ⟨p, c, e, -⟩ := hv5.rd
          exact ⟨_, _, _, e⟩
        have HV25 : Hid (SlR w5 (.slice (some ⟨b, o + j * 2, none⟩) (rl - j) (c - j)) (R.drop j)) := HV2.out.on HL5.out
        have n2 : w5.cell? ⟨w.heap.size, 1, none⟩ = some (.slice (some ⟨b, o, none⟩) rl c) := (HX1.out.on HL5.out).cell
        clear hv5 hg5 n1 HO4 HO5 HV4 HL4 HV3 HL3
        have HS5 : Hid ((((some ⟨b, o + j * 2, none⟩) : Option Addr) = none → R.drop j = [] ∧ (c - j) = 0) ∧ (∀ a, ((some ⟨b, o + j * 2, none⟩) : Option Addr) = some a → ∃ b o, a = ⟨b, o, none⟩) ∧ RdR w5 ((some ⟨b, o + j * 2, none⟩) : Option Addr) (R.drop j)) := by
          obtain ⟨p9, c9, e9, h7, h8, h9⟩ := HV25.out
          injection e9 with e1 e2 e3
          subst e1 e3
          exact ⟨h7, h8, h9⟩
        go_wp2_with (at_builtin; refine wpList_appR _ rfl (.tmp 51) (.tmp 55) rfl w2.heap.size _ (R.take j ++ [(⟨j, s⟩ : Rd)]) (R.drop j) ((some ⟨b, o + j * 2, none⟩) : Option Addr) (c - j) rfl HV5.out (by rw [HT.out.2]; rfl) HS5.out.1 HS5.out.2.1 HS5.out.2.2 (by rw [List.length_append]; have := HT2.out; have := HT.out; simp <;> omega) HT2.out.2 HL5.out.size ?_)
        intro v6 w6 hv6 hg6
        have HL6 : Hid (Below w2.heap.size w2 w6) := HV5.out.grow HL5.out HL5.out.size hg6
        have HV6 : Hid (OwR w6 w2.heap.size v6 (entR R s)) := show OwR _ _ _ _ by
          have h := hv6
          unfold entR
          rw [← HK.out]
          simpa using h
        obtain ⟨p6, l6, c6, rfl⟩ : ∃ p l c, v6 = .slice p l c := by
          obtain ⟨p, c, e, -⟩ := HV6.out.rd
          exact ⟨_, _, _, e⟩
        have HX16 : Hid (BoxT w6 w.heap.size #[.int .u64 (fl : Nat), .slice (some ⟨b, o, none⟩) rl c] 29) := HX1.out.on HL6.out
        have HX26 : Hid (BoxT w6 (w.heap.size + 1) #[.int .u64 0, .slice none 0 0] 29) := HX2.out.on HL6.out
        have HLW : Hid (Below w.heap.size w w6) := HL.out.trans (HL6.out.mono HL.out.size)
        have HZ : Hid (w.heap.size + 1 < w2.heap.size) := HX2.out.lt
        clear hv6 hg6 n2 HV5 HL5
        have o2 : w6.frozen? ⟨w.heap.size, 1, none⟩ = false := HX16.out.frozen
        have o3 : w6.cell? ⟨w.heap.size, 1, none⟩ = some (.slice (some ⟨b, o, none⟩) rl c) := HX16.out.cell
        have n0 : w6.cell? ⟨w.heap.size, 0, none⟩ = some (.int .u64 (fl : Nat)) := HX16.out.cell
        have g0' : w6.cell? ⟨w.heap.size + 1, 0, none⟩ = some (.int .u64 0) := HX26.out.cell
        have g1' : w6.cell? ⟨w.heap.size + 1, 1, none⟩ = some (.slice none 0 0) := HX26.out.cell
        have y0 : w6.frozen? ⟨w.heap.size + 1, 0, none⟩ = false := HX26.out.frozen
        have y1 : w6.frozen? ⟨w.heap.size + 1, 1, none⟩ = false := HX26.out.frozen
        have hfz : Frm w6 (((w6.setCell ⟨w.heap.size, 1, none⟩ (.slice p6 l6 c6)).setCell ⟨w.heap.size + 1, 0, none⟩ (.int .u64 (fl : Nat))).setCell ⟨w.heap.size + 1, 1, none⟩ (.slice p6 l6 c6)) (fun k => k = w.heap.size ∨ k = w.heap.size + 1) := ((frm_set w6 _ 1 _ (F := fun k => k = w.heap.size ∨ k = w.heap.size + 1) (.inl rfl)).trans (frm_set _ _ 0 _ (F := fun k => k = w.heap.size ∨ k = w.heap.size + 1) (.inr rfl))).trans (frm_set _ _ 1 _ (F := fun k => k = w.heap.size ∨ k = w.heap.size + 1) (.inr rfl))
        have HBE : Hid (Below w.heap.size w (((w6.setCell ⟨w.heap.size, 1, none⟩ (.slice p6 l6 c6)).setCell ⟨w.heap.size + 1, 0, none⟩ (.int .u64 (fl : Nat))).setCell ⟨w.heap.size + 1, 1, none⟩ (.slice p6 l6 c6))) := HLW.out.trans (hfz.below HLW.out.size (fun k hk => by omega))
        have HVE : Hid (OwR (((w6.setCell ⟨w.heap.size, 1, none⟩ (.slice p6 l6 c6)).setCell ⟨w.heap.size + 1, 0, none⟩ (.int .u64 (fl : Nat))).setCell ⟨w.heap.size + 1, 1, none⟩ (.slice p6 l6 c6)) 0 (.slice p6 l6 c6) (entR R s)) := owns_base (owns_block HV6.out (fun g hg => by
          obtain ⟨cur, h1⟩ := own_cells HV6.out hg
          refine hfz.block g (Array.getElem?_eq_some_iff.1 h1).1 (fun e => ?_)
          have h2 := HV6.out.low hg
          have h3 := HZ.out
          omega)) (Nat.zero_le _)
        have hbe : BoxT (((w6.setCell ⟨w.heap.size, 1, none⟩ (.slice p6 l6 c6)).setCell ⟨w.heap.size + 1, 0, none⟩ (.int .u64 (fl : Nat))).setCell ⟨w.heap.size + 1, 1, none⟩ (.slice p6 l6 c6)) (w.heap.size + 1) #[.int .u64 (fl : Nat), .slice p6 l6 c6] 29 := ((HX26.out.off (i := 1) _ (by omega)).set (i := 0) _).set (i := 1) _
        have q0 := hbe.cell (i := 0)
        have q1 := hbe.cell (i := 1)
        clear hfz hbe HX16 HX26 HV6 HL6 HLW HX1 HX2
        go_wp2_with fail
        refine bodyPost_ret (v := .tuple #[.agg #[.int .u64 (fl : Nat), .slice p6 l6 c6], .int .i64 (j : Nat), .int .i64 0]) (by simp [results, Try.results25, go_sem, q0, q1]) rfl ?_
        exact ⟨⟨_, by rw [HK.out], HVE.out⟩, HBE.out⟩

theorem renter_any (fl B s : Nat) (v : Value) (R : List Rd) (w : World) (h : OwR w B v R) (hI : InvR R) :
    Calls Try.prog 25 #[.agg #[.int .u64 (fl : Nat), v], .int .u64 (s : Nat)] w fun e w' => (∃ v', e = .returned (.tuple #[.agg #[.int .u64 (fl : Nat), v'], .int .i64 (entN fl R s : Nat), .int .i64 (entE fl R s)]) ∧ OwR w' 0 v' (entL fl R s)) ∧ Below w.heap.size w w' := by
  by_cases h1 : 4611686018427387904 < s
  · exact renter1 fl B s v R w h hI h1
  · by_cases h2 : s < fl
    · exact renter2 fl B s v R w h hI h1 h2
    · by_cases h3 : R.length = 256
      · exact renter3 fl B s v R w h hI h1 h2 h3
      · exact renter4 fl B s v R w h hI h1 h2 h3
end Go.Proofs.Ytbmgkoifidhfjaa
