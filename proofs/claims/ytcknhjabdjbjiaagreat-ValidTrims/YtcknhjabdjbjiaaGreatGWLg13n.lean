/- Note: what a commit wrote is kept, each point once. noted: the document's commits are told by what was handed in; a Log's points stand there once. -/
import Derived.Test.YtcknhjabdjbjiaaGreatGWLg11
import Derived.Test.YtcknhjabdjbjiaaGreatGF18b
import Derived.Test.YtcknhjabdjbjiaaGreatGWLg15
namespace Go.Proofs.YtcknhjabdjbjiaaGreat
open Go.RowKit
set_option maxRecDepth 100000

set_option maxHeartbeats 8000000 in
theorem note_anyN (a : Ft) (va0 va1 va2 : Value) (B lb s : Nat) (vC : Value) (mb : Nat) (E : List (Pt × Value × List Nat)) (L : List Cm) (w : World) (hX : LogO w B lb vC mb E L) (ha : RdF w va0 va1 va2 a) (hs : s < 18446744073709551616) :
    Calls Tryz.prog 26 #[ptr1 lb, .int .u64 (s : Nat), .agg #[va0, va1, va2]] w fun e w' => e = .returned (.int .i64 (noteE a s (lastC L) L.length)) ∧ ∃ vC' E' L', LogO w' B lb vC' mb E' L' ∧ NtL a s L L' ∧ (∀ c ∈ L', c ∈ L ∨ c.W.Nodup) ∧ Frm w w' (FB B w) := by
  obtain ⟨p0, c0, e0, -⟩ := ha.p.f
  obtain ⟨p1, c1, e1, -⟩ := ha.s.f
  obtain ⟨p2, c2, e2, -⟩ := ha.w.f
  obtain ⟨n0, hn0⟩ : ∃ n, a.P.length = n := ⟨_, rfl⟩
  obtain ⟨n1, hn1⟩ : ∃ n, a.S.length = n := ⟨_, rfl⟩
  obtain ⟨n2, hn2⟩ : ∃ n, a.W.length = n := ⟨_, rfl⟩
  rw [hn0] at e0
  rw [hn1] at e1
  rw [hn2] at e2
  subst e0 e1 e2
  clear hn0 hn1 hn2
  obtain ⟨w1, hw1⟩ : ∃ w1, w.alloc (.cells #[.slice p0 n0 c0, .slice p1 n1 c1, .slice p2 n2 c2] 37) = w1 := ⟨_, rfl⟩
  have HB1 : Hid (Below w.heap.size w w1) := by rw [← hw1]; exact (Below.refl _ _).alloc (Nat.le_refl _) _
  have HKA : Hid (Blk w1 w.heap.size #[.slice p0 n0 c0, .slice p1 n1 c1, .slice p2 n2 c2] 37) := by rw [← hw1]; exact Blk.new w _ _
  have HX1 : Hid (LogO w1 B lb vC mb E L) := hX.on HB1.out
  have HA1 : Hid (RdF w1 _ _ _ a) := ha.on HB1.out
  have CG : Hid (Calls _ _ _ _ _) := given_any lb _ _ w1 HX1.out.blk
  have CC : Hid (Calls _ _ _ _ _) := check_any a _ _ _ w1 HA1.out
  have k0 := HKA.out.cell (i := 0) rfl
  have k1 := HKA.out.cell (i := 1) rfl
  have k2 := HKA.out.cell (i := 2) rfl
  clear hX ha
  by_cases hca : chkF a = 0
  · rw [hca] at CC
    by_cases h1 : s = 0 ∨ 4611686018427387904 < s
    · have HN : Hid (noteE a s (lastC L) L.length = 1) := note1 hca h1
      rcases h1 with h1 | h1
      · subst h1
        go_enter Tryz.func26, Tryz.ntmps26
        go_wp2_with fail
        refine CG.out.mono ?_
        rintro e w3 ⟨rfl, hw3⟩
        obtain rfl := hw3.symm
        clear CG
        go_wp2_with fail
        refine CC.out.mono ?_
        rintro e w2 ⟨rfl, hb2⟩
        clear CC k0 k1 k2 hw1
        have HB2 : Hid (Below w.heap.size w w2) := HB1.out.trans (hb2.mono HB1.out.size)
        have HX2 : Hid (LogO w2 B lb vC mb E L) := HX1.out.on hb2
        have HA2 : Hid (RdF w2 _ _ _ a) := HA1.out.on hb2
        have HKA2 : Hid (Blk w2 w.heap.size #[.slice p0 n0 c0, .slice p1 n1 c1, .slice p2 n2 c2] 37) := HKA.out.on hb2
        clear hb2 HB1 HX1 HA1 HKA
        go_wp2_with fail
        go_ret
        exact ⟨congrArg (fun x => Ending.returned (.int .i64 x)) HN.out.symm, _, _, _, HX2.out, NtL.refl (by rw [HN.out]; decide), fun _ h => .inl h, FB.of_below HB2.out⟩
      · have d1 : decide ((s : Int) = 0) = false := decide_eq_false (by omega)
        have d2 : ((s : Int) == 0) = false := by simp; omega
        have d3 : decide ((4611686018427387904 : Int) < (s : Int)) = true := decide_eq_true (by omega)
        clear hca h1
        go_enter Tryz.func26, Tryz.ntmps26
        go_wp2_with fail
        refine CG.out.mono ?_
        rintro e w3 ⟨rfl, hw3⟩
        obtain rfl := hw3.symm
        clear CG
        go_wp2_with fail
        refine CC.out.mono ?_
        rintro e w2 ⟨rfl, hb2⟩
        clear CC k0 k1 k2 hw1
        have HB2 : Hid (Below w.heap.size w w2) := HB1.out.trans (hb2.mono HB1.out.size)
        have HX2 : Hid (LogO w2 B lb vC mb E L) := HX1.out.on hb2
        have HA2 : Hid (RdF w2 _ _ _ a) := HA1.out.on hb2
        have HKA2 : Hid (Blk w2 w.heap.size #[.slice p0 n0 c0, .slice p1 n1 c1, .slice p2 n2 c2] 37) := HKA.out.on hb2
        clear hb2 HB1 HX1 HA1 HKA
        go_wp2_with fail
        go_ret
        exact ⟨congrArg (fun x => Ending.returned (.int .i64 x)) HN.out.symm, _, _, _, HX2.out, NtL.refl (by rw [HN.out]; decide), fun _ h => .inl h, FB.of_below HB2.out⟩
    · by_cases h2 : s ≤ lastC L
      · have HN : Hid (noteE a s (lastC L) L.length = 81) := note2 hca h1 h2
        have d1 : decide ((s : Int) = 0) = false := decide_eq_false (by omega)
        have d2 : ((s : Int) == 0) = false := by simp; omega
        have d3 : decide ((4611686018427387904 : Int) < (s : Int)) = false := decide_eq_false (by omega)
        obtain ⟨la, hla⟩ : ∃ la, lastC L = la := ⟨_, rfl⟩
        have d4 : s ≤ la := by omega
        have HLA : Hid (lastC L = la) := hla
        clear hca h1 h2 hla
        go_enter Tryz.func26, Tryz.ntmps26
        go_wp2_with fail
        refine CG.out.mono ?_
        rintro e w3 ⟨rfl, hw3⟩
        obtain rfl := hw3.symm
        clear CG
        go_wp2_with fail
        refine CC.out.mono ?_
        rintro e w2 ⟨rfl, hb2⟩
        clear CC k0 k1 k2 hw1
        have HB2 : Hid (Below w.heap.size w w2) := HB1.out.trans (hb2.mono HB1.out.size)
        have HX2 : Hid (LogO w2 B lb vC mb E L) := HX1.out.on hb2
        have HA2 : Hid (RdF w2 _ _ _ a) := HA1.out.on hb2
        have HKA2 : Hid (Blk w2 w.heap.size #[.slice p0 n0 c0, .slice p1 n1 c1, .slice p2 n2 c2] 37) := HKA.out.on hb2
        clear hb2 HB1 HX1 HA1 HKA
        have CL : Hid (Calls _ _ _ _ _) := last_any lb _ _ L w2 HX2.out.blk HX2.out.x.com HX2.out.inv.len
        go_wp2_with fail
        refine CL.out.mono ?_
        rw [HLA.out]
        rintro e w3 ⟨rfl, hb3⟩
        have HB3 : Hid (Below w.heap.size w w3) := HB2.out.trans (hb3.mono HB2.out.size)
        have HX3 : Hid (LogO w3 B lb vC mb E L) := HX2.out.on hb3
        have HA3 : Hid (RdF w3 _ _ _ a) := HA2.out.on hb3
        have HKA3 : Hid (Blk w3 w.heap.size #[.slice p0 n0 c0, .slice p1 n1 c1, .slice p2 n2 c2] 37) := HKA2.out.on hb3
        clear CL hb3 HB2 HX2 HA2 HKA2
        go_wp2_with fail
        go_ret
        exact ⟨congrArg (fun x => Ending.returned (.int .i64 x)) HN.out.symm, _, _, _, HX3.out, NtL.refl (by rw [HN.out]; decide), fun _ h => .inl h, FB.of_below HB3.out⟩
      · by_cases h3 : 4096 ≤ L.length
        · have HN : Hid (noteE a s (lastC L) L.length = 2) := note3 hca h1 h2 h3
          obtain ⟨pc, cc, rfl, -⟩ := HX1.out.com.row
          have hl4 : L.length = 4096 := by have := HX1.out.inv.len; omega
          rw [hl4] at HX1
          have d1 : decide ((s : Int) = 0) = false := decide_eq_false (by omega)
          have d2 : ((s : Int) == 0) = false := by simp; omega
          have d3 : decide ((4611686018427387904 : Int) < (s : Int)) = false := decide_eq_false (by omega)
          obtain ⟨la, hla⟩ : ∃ la, lastC L = la := ⟨_, rfl⟩
          have d4 : la < s := by omega
          have HLA : Hid (lastC L = la) := hla
          clear hca h1 h2 h3 hla hl4
          go_enter Tryz.func26, Tryz.ntmps26
          go_wp2_with fail
          refine CG.out.mono ?_
          rintro e w3 ⟨rfl, hw3⟩
          obtain rfl := hw3.symm
          clear CG
          go_wp2_with fail
          refine CC.out.mono ?_
          rintro e w2 ⟨rfl, hb2⟩
          clear CC k0 k1 k2 hw1
          have HB2 : Hid (Below w.heap.size w w2) := HB1.out.trans (hb2.mono HB1.out.size)
          have HX2 : Hid (LogO w2 B lb (.slice pc 4096 cc) mb E L) := HX1.out.on hb2
          have HA2 : Hid (RdF w2 _ _ _ a) := HA1.out.on hb2
          have HKA2 : Hid (Blk w2 w.heap.size #[.slice p0 n0 c0, .slice p1 n1 c1, .slice p2 n2 c2] 37) := HKA.out.on hb2
          clear hb2 HB1 HX1 HA1 HKA
          have CL : Hid (Calls _ _ _ _ _) := last_any lb _ _ L w2 HX2.out.blk HX2.out.x.com HX2.out.inv.len
          go_wp2_with fail
          refine CL.out.mono ?_
          rw [HLA.out]
          rintro e w3 ⟨rfl, hb3⟩
          have HB3 : Hid (Below w.heap.size w w3) := HB2.out.trans (hb3.mono HB2.out.size)
          have HX3 : Hid (LogO w3 B lb (.slice pc 4096 cc) mb E L) := HX2.out.on hb3
          have HA3 : Hid (RdF w3 _ _ _ a) := HA2.out.on hb3
          have HKA3 : Hid (Blk w3 w.heap.size #[.slice p0 n0 c0, .slice p1 n1 c1, .slice p2 n2 c2] 37) := HKA2.out.on hb3
          clear CL hb3 HB2 HX2 HA2 HKA2
          have g1 := HX3.out.blk.cell (i := 1) rfl
          go_wp2_with fail
          go_ret
          exact ⟨congrArg (fun x => Ending.returned (.int .i64 x)) HN.out.symm, _, _, _, HX3.out, NtL.refl (by rw [HN.out]; decide), fun _ h => .inl h, FB.of_below HB3.out⟩
        · have HN : Hid (noteE a s (lastC L) L.length = 0) := note4 hca h1 h2 h3
          have HK : Hid (1 ≤ s ∧ s ≤ 4611686018427387904 ∧ lastC L < s ∧ L.length < 4096 ∧ chkF ⟨[], [], a.W⟩ = 0) := ⟨by omega, by omega, by omega, by omega, chk_partW hca⟩
          obtain ⟨pc, cc, rfl, -⟩ := HX1.out.com.row
          obtain ⟨n, hn⟩ : ∃ n, L.length = n := ⟨_, rfl⟩
          rw [hn] at HX1
          have d1 : decide ((s : Int) = 0) = false := decide_eq_false (by omega)
          have d2 : ((s : Int) == 0) = false := by simp; omega
          have d3 : decide ((4611686018427387904 : Int) < (s : Int)) = false := decide_eq_false (by omega)
          obtain ⟨la, hla⟩ : ∃ la, lastC L = la := ⟨_, rfl⟩
          have d4 : la < s := by omega
          have d5 : decide ((4096 : Int) ≤ (n : Int)) = false := decide_eq_false (by omega)
          have HLA : Hid (lastC L = la) := hla
          clear hca h1 h2 h3 hla hn
          go_enter Tryz.func26, Tryz.ntmps26
          go_wp2_with fail
          refine CG.out.mono ?_
          rintro e w3 ⟨rfl, hw3⟩
          obtain rfl := hw3.symm
          clear CG
          go_wp2_with fail
          refine CC.out.mono ?_
          rintro e w2 ⟨rfl, hb2⟩
          clear CC k0 k1 k2 hw1
          have HB2 : Hid (Below w.heap.size w w2) := HB1.out.trans (hb2.mono HB1.out.size)
          have HX2 : Hid (LogO w2 B lb (.slice pc n cc) mb E L) := HX1.out.on hb2
          have HA2 : Hid (RdF w2 _ _ _ a) := HA1.out.on hb2
          have HKA2 : Hid (Blk w2 w.heap.size #[.slice p0 n0 c0, .slice p1 n1 c1, .slice p2 n2 c2] 37) := HKA.out.on hb2
          clear hb2 HB1 HX1 HA1 HKA
          have CL : Hid (Calls _ _ _ _ _) := last_any lb _ _ L w2 HX2.out.blk HX2.out.x.com HX2.out.inv.len
          go_wp2_with fail
          refine CL.out.mono ?_
          rw [HLA.out]
          rintro e w3 ⟨rfl, hb3⟩
          have HB3 : Hid (Below w.heap.size w w3) := HB2.out.trans (hb3.mono HB2.out.size)
          have HX3 : Hid (LogO w3 B lb (.slice pc n cc) mb E L) := HX2.out.on hb3
          have HA3 : Hid (RdF w3 _ _ _ a) := HA2.out.on hb3
          have HKA3 : Hid (Blk w3 w.heap.size #[.slice p0 n0 c0, .slice p1 n1 c1, .slice p2 n2 c2] 37) := HKA2.out.on hb3
          clear CL hb3 HB2 HX2 HA2 HKA2
          have g1 := HX3.out.blk.cell (i := 1) rfl
          have g2 := HKA3.out.cell (i := 2) rfl
          have CK : Hid (Calls _ _ _ _ _) := keep_anyN B lb s _ mb E L a.W _ w3 HX3.out HA3.out.w HK.out.2.2.2.2 HK.out.1 HK.out.2.1 HK.out.2.2.1 HK.out.2.2.2.1
          go_wp2_with fail
          clear g1 g2
          refine CK.out.mono ?_
          rintro e w4 ⟨vC', E', c, rfl, hc1, hc2, hc3, hX4, hF4⟩
          have HR : Hid (LogO w4 B lb vC' mb E' (L ++ [c]) ∧ NtL a s L (L ++ [c]) ∧ (∀ d ∈ L ++ [c], d ∈ L ∨ d.W.Nodup) ∧ Frm w w4 (FB B w)) := ⟨hX4, ⟨fun h => absurd HN.out h, fun _ => ⟨c, rfl, hc1, hc2⟩⟩, fun d hd => by
            rcases List.mem_append.1 hd with hd | hd
            · exact .inl hd
            · rw [List.mem_singleton] at hd; subst hd; exact .inr hc3, FB.trans (FB.of_below HB3.out) hF4⟩
          clear CK hX4 hF4 hc1 hc2 hc3
          go_wp2_with fail
          go_ret
          exact ⟨congrArg (fun x => Ending.returned (.int .i64 x)) HN.out.symm, _, _, _, HR.out⟩
  · have HC : Hid (chkF a ≠ 0) := hca
    have HN : Hid (noteE a s (lastC L) L.length = chkF a) := note0 hca
    go_enter Tryz.func26, Tryz.ntmps26
    go_wp2_with fail
    refine CG.out.mono ?_
    rintro e w3 ⟨rfl, hw3⟩
    obtain rfl := hw3.symm
    clear CG
    go_wp2_with fail
    refine CC.out.mono ?_
    rintro e w2 ⟨rfl, hb2⟩
    clear CC k0 k1 k2 hw1
    have HB2 : Hid (Below w.heap.size w w2) := HB1.out.trans (hb2.mono HB1.out.size)
    have HX2 : Hid (LogO w2 B lb vC mb E L) := HX1.out.on hb2
    have HA2 : Hid (RdF w2 _ _ _ a) := HA1.out.on hb2
    have HKA2 : Hid (Blk w2 w.heap.size #[.slice p0 n0 c0, .slice p1 n1 c1, .slice p2 n2 c2] 37) := HKA.out.on hb2
    clear hb2 HB1 HX1 HA1 HKA
    go_wp2_with fail
    go_ret
    exact ⟨congrArg (fun x => Ending.returned (.int .i64 x)) HN.out.symm, _, _, _, HX2.out, NtL.refl (by rw [HN.out]; exact HC.out), fun _ h => .inl h, FB.of_below HB2.out⟩

end Go.Proofs.YtcknhjabdjbjiaaGreat

namespace Go.Proofs.YtcknhjabdjbjiaaGreat
open Go.RowKit
set_option maxRecDepth 100000

def lastP (l : List (Nat × List Pt)) : Nat := match l.getLast? with | some c => c.1 | none => 0
def stpN (l : List (Nat × List Pt)) (k : Lc) : List (Nat × List Pt) := if noteE k.a k.s (lastP l) l.length = 0 then l ++ [(k.s, k.a.W)] else l
/-- the document's commits behind what was handed in -/
structure DetM (K : List Lc) (M : List Cm) : Prop where
  map : M.map (fun c => (c.s, c.W)) = K.foldl stpN []
  frm : ∀ c ∈ M, ∃ k ∈ K, c.v2 = k.v2 ∧ c.W = k.a.W
theorem lastP_map (M : List Cm) : lastP (M.map (fun c => (c.s, c.W))) = lastC M := by
  unfold lastP lastC
  rw [List.getLast?_map]
  cases M.getLast? <;> rfl
theorem DetM.snoc {K : List Lc} {M M' : List Cm} {j : Nat} (h : DetM (K.take j) M) (hj : j < K.length) (hn : NtD K[j].a K[j].s K[j].v2 M M') : DetM (K.take (j + 1)) M' := by
  have hfr : ∀ c ∈ M', ∃ k ∈ K.take (j + 1), c.v2 = k.v2 ∧ c.W = k.a.W := by
    have hold : ∀ c ∈ M, ∃ k ∈ K.take (j + 1), c.v2 = k.v2 ∧ c.W = k.a.W := fun c hc => by
      obtain ⟨k, hk, e⟩ := h.frm c hc
      exact ⟨k, by rw [take_snoc K j hj]; exact List.mem_append_left _ hk, e⟩
    by_cases he : noteE K[j].a K[j].s (lastC M) M.length = 0
    · rw [hn.2 he]
      intro c hc
      rcases List.mem_append.1 hc with hc | hc
      · exact hold c hc
      · rw [List.mem_singleton] at hc
        subst hc
        exact ⟨K[j], by rw [take_snoc K j hj]; exact List.mem_append_right _ (List.mem_singleton.2 rfl), rfl, rfl⟩
    · rw [hn.1 he]
      exact hold
  refine ⟨?_, hfr⟩
  rw [take_snoc K j hj, List.foldl_append, ← h.map]
  show _ = stpN _ _
  unfold stpN
  rw [lastP_map, List.length_map]
  by_cases he : noteE K[j].a K[j].s (lastC M) M.length = 0
  · rw [if_pos he, hn.2 he, List.map_append]
    rfl
  · rw [if_neg he, hn.1 he]
theorem DetM.sam {K K' : List Lc} {M N : List Cm} (h : DetM K M) (h' : DetM K' N) (hk : K'.map (fun k => (k.s, k.a)) = K.map (fun k => (k.s, k.a))) : SamC M N := by
  have hf : ∀ (A B : List Lc) (l : List (Nat × List Pt)), B.map (fun k => (k.s, k.a)) = A.map (fun k => (k.s, k.a)) → B.foldl stpN l = A.foldl stpN l := by
    intro A
    induction A with
    | nil => intro B l hb; rw [List.map_nil, List.map_eq_nil_iff] at hb; rw [hb]
    | cons x A ih =>
      intro B l hb
      cases B with
      | nil => simp at hb
      | cons y B =>
        simp only [List.map_cons, List.cons.injEq, Prod.mk.injEq] at hb
        have e : stpN l y = stpN l x := by unfold stpN; rw [hb.1.1, hb.1.2]
        rw [List.foldl_cons, List.foldl_cons, e]
        exact ih B _ hb.2
  have e : M.map (fun c => (c.s, c.W)) = N.map (fun c => (c.s, c.W)) := by rw [h.map, h'.map, hf K K' [] hk]
  have hl : M.length = N.length := by have := congrArg List.length e; simpa using this
  refine ⟨hl, fun i hi hi' => ?_⟩
  have := congrArg (fun l => l[i]?) e
  simp only [List.getElem?_map, List.getElem?_eq_getElem hi, List.getElem?_eq_getElem hi', Option.map_some, Option.some.injEq, Prod.mk.injEq] at this
  exact ⟨this.1, fun x => by rw [this.2]⟩
theorem SamC.trans {L M N : List Cm} (h : SamC L M) (h' : SamC M N) : SamC L N := ⟨h.len.trans h'.len, fun i hi hi' => by
  have hm : i < M.length := by rw [← h.len]; exact hi
  exact ⟨(h.at' i hi hm).1.trans (h'.at' i hm hi').1, fun x => ((h.at' i hi hm).2 x).trans ((h'.at' i hm hi').2 x)⟩⟩
theorem SamC.symm {L M : List Cm} (h : SamC L M) : SamC M L := ⟨h.len.symm, fun i hi hi' => ⟨(h.at' i hi' hi).1.symm, fun x => ((h.at' i hi' hi).2 x).symm⟩⟩
set_option maxHeartbeats 8000000 in
theorem noted_any2 (v : Value) (K : List Lc) (w : World) (hK : RdLc w v K) :
    Calls Tryz.prog 9 #[v] w fun e w' => ∃ lb mb vC E L vm M, e = .returned (.tuple #[ptr1 lb, vm, .bool true]) ∧ NtP w w' lb mb vC E L vm M ∧ DetM K M ∧ ∀ c ∈ L, c.W.Nodup := by
  obtain ⟨p, c, rfl, hlc, hln, hrow⟩ := hK.f
  obtain ⟨n, hn⟩ : ∃ n, K.length = n := ⟨_, rfl⟩
  rw [hn] at hlc hln ⊢
  have HKl : Hid (K.length = n) := hn
  have HRow : Hid (∀ i (hi : i < K.length), ∃ b o, p = some ⟨b, o, none⟩ ∧ b < w.heap.size ∧ w.cell? ⟨b, o + i * 4, none⟩ = some (.int .u64 (K[i].s : Nat)) ∧ w.cell? ⟨b, o + i * 4 + 1, none⟩ = some K[i].v0 ∧ w.cell? ⟨b, o + i * 4 + 2, none⟩ = some K[i].v1 ∧ w.cell? ⟨b, o + i * 4 + 3, none⟩ = some K[i].v2) := hrow
  have HFt : Hid (∀ c ∈ K, RdF w c.v0 c.v1 c.v2 c.a ∧ c.s < 18446744073709551616) := hK.ft
  clear hK hrow hn
  have CN : Hid (Calls _ _ _ _ _) := newLog_any w
  go_enter Tryz.func9, Tryz.ntmps9
  go_wp2_with fail
  refine CN.out.mono ?_
  rintro e w1 ⟨lb, vC, mb, E, rfl, hX1, hb1⟩
  clear CN
  have HP1 : Hid (NtP w w1 lb mb vC E [] (.slice none 0 0) []) := ⟨hX1, ⟨OwnD.nil _ _, by simp⟩, SamC.nil, ⟨fun i j hi => absurd hi (by simp), by simp, by simp, by simp, by simp⟩, hb1⟩
  clear hX1 hb1
  go_wp2_with fail
  go_loopw [6, 7] (fun m i wr => ∃ (j : Nat) (vC : Value) (E : List (Pt × Value × List Nat)) (L : List Cm) (M : List Cm), j ≤ n ∧ i = .int .i64 (j : Int) ∧ Hid (NtP w wr lb mb vC E L m M) ∧ Hid (DetM (K.take j) M ∧ ∀ c ∈ L, c.W.Nodup)) (fun _ i _ => n - (intOf i).toNat)
  case atStart => exact ⟨0, vC, E, [], [], Nat.zero_le _, by go_num, HP1, ⟨rfl, by simp⟩, by simp⟩
  case round =>
    obtain ⟨j, vC', E', L, M, hj, rfl, HP, HDt⟩ := hrel
    clear HP1
    by_cases hj0 : j = n
    · subst hj0
      go_wp2_with fail
      refine bodyPost_ret (v := .tuple #[ptr1 lb, u6, .bool true]) (by simp [results, Tryz.results9, go_sem]) rfl ?_
      exact ⟨lb, mb, vC', E', L, u6, M, rfl, HP.out, by have h := HDt.out.1; rw [List.take_of_length_le (by have := HKl.out; omega)] at h; exact h, HDt.out.2⟩
    · have hj1 : j < n := by omega
      have hjK : j < K.length := by have := HKl.out; omega
      obtain ⟨b, o, rfl, hbl, d0, d1, d2, d3⟩ := HRow.out j hjK
      have hft := HFt.out K[j] (List.getElem_mem hjK)
      obtain ⟨k, hk⟩ : ∃ k, K[j] = k := ⟨_, rfl⟩
      rw [hk] at d0 d1 d2 d3 hft
      have HKj : Hid (∃ h : j < K.length, K[j] = k) := ⟨hjK, hk⟩
      clear hk hjK
      obtain ⟨s, ka, v0, v1, v2⟩ := k
      dsimp only at d0 d1 d2 d3 hft
      obtain ⟨⟨p0, n0, c0, e0⟩, ⟨p1, n1, c1, e1⟩, ⟨p2, n2, c2, e2⟩⟩ : (∃ p n c, v0 = .slice p n c) ∧ (∃ p n c, v1 = .slice p n c) ∧ (∃ p n c, v2 = .slice p n c) := by
        obtain ⟨p0, c0, e0, _⟩ := hft.1.p.f
        obtain ⟨p1, c1, e1, _⟩ := hft.1.s.f
        obtain ⟨p2, c2, e2, _⟩ := hft.1.w.f
        exact ⟨⟨_, _, _, e0⟩, ⟨_, _, _, e1⟩, ⟨_, _, _, e2⟩⟩
      subst e0 e1 e2
      have HR : Hid (RdF w (.slice p0 n0 c0) (.slice p1 n1 c1) (.slice p2 n2 c2) ka ∧ s < 18446744073709551616) := hft
      have HD : Hid (∀ w9, Below w.heap.size w w9 → w9.cell? ⟨b, o + j * 4, none⟩ = some (.int .u64 (s : Nat)) ∧ w9.cell? ⟨b, o + j * 4 + 1, none⟩ = some (.slice p0 n0 c0) ∧ w9.cell? ⟨b, o + j * 4 + 2, none⟩ = some (.slice p1 n1 c1) ∧ w9.cell? ⟨b, o + j * 4 + 3, none⟩ = some (.slice p2 n2 c2)) := fun w9 h9 => ⟨(h9.cell (p := ⟨b, o + j * 4, none⟩) hbl).trans d0, (h9.cell (p := ⟨b, o + j * 4 + 1, none⟩) hbl).trans d1, (h9.cell (p := ⟨b, o + j * 4 + 2, none⟩) hbl).trans d2, (h9.cell (p := ⟨b, o + j * 4 + 3, none⟩) hbl).trans d3⟩
      clear hft d0 d1 d2 d3 hbl
      go_upto_region 8 with fail
      refine wp_region_L (fun w' => Below w.heap.size w w') 13 (by kernel_rfl) ?_
      have HPd : Hid (NtP w wr.drew lb mb vC' E' L u6 M) := HP.out.on ((Below.refl _ _).drew)
      generalize wr.drew = wd at *
      have HBd : Hid (Below w.heap.size w wd) := HPd.out.bel
      refine wpL_take (v := ?_) 0 rfl (by kernel_rfl) (fun _ _ _ h => h) (by rfl) ?_ HBd.out ?_
      rotate_left
      focus
        intro w9 hw9
        obtain ⟨a0, a1, a2, a3⟩ := HD.out w9 hw9
        go_simp
        try with_reducible rfl
      try simp only [Act.put, List.setIfInBounds_toArray, List.set_cons_zero, List.set_cons_succ]
      refine wpL_take (v := ?_) 1 rfl (by kernel_rfl) (fun _ _ _ h => h) (by rfl) ?_ HBd.out ?_
      rotate_left
      focus
        intro w9 hw9
        obtain ⟨a0, a1, a2, a3⟩ := HD.out w9 hw9
        go_simp
        try with_reducible rfl
      try simp only [Act.put, List.setIfInBounds_toArray, List.set_cons_zero, List.set_cons_succ]
      refine wpL_take (v := ?_) 2 rfl (by kernel_rfl) (fun _ _ _ h => h) (by rfl) ?_ HBd.out ?_
      rotate_left
      focus
        intro w9 hw9
        obtain ⟨a0, a1, a2, a3⟩ := HD.out w9 hw9
        go_simp
        try with_reducible rfl
      try simp only [Act.put, List.setIfInBounds_toArray, List.set_cons_zero, List.set_cons_succ]
      refine wpL_take (v := ?_) 3 rfl (by kernel_rfl) (fun _ _ _ h => h) (by rfl) ?_ HBd.out ?_
      rotate_left
      focus
        intro w9 hw9
        obtain ⟨a0, a1, a2, a3⟩ := HD.out w9 hw9
        go_simp
        try with_reducible rfl
      try simp only [Act.put, List.setIfInBounds_toArray, List.set_cons_zero, List.set_cons_succ]
      refine wpL_take (v := ?_) 4 rfl (by kernel_rfl) (fun _ _ _ h => h) (by rfl) ?_ HBd.out ?_
      rotate_left
      focus
        intro w9 hw9
        obtain ⟨a0, a1, a2, a3⟩ := HD.out w9 hw9
        go_simp
        try with_reducible rfl
      try simp only [Act.put, List.setIfInBounds_toArray, List.set_cons_zero, List.set_cons_succ]
      refine wpL_take (v := ?_) 5 rfl (by kernel_rfl) (fun _ _ _ h => h) (by rfl) ?_ HBd.out ?_
      rotate_left
      focus
        intro w9 hw9
        obtain ⟨a0, a1, a2, a3⟩ := HD.out w9 hw9
        go_simp
        try with_reducible rfl
      try simp only [Act.put, List.setIfInBounds_toArray, List.set_cons_zero, List.set_cons_succ]
      refine wpL_take (v := ?_) 6 rfl (by kernel_rfl) (fun _ _ _ h => h) (by rfl) ?_ HBd.out ?_
      rotate_left
      focus
        intro w9 hw9
        obtain ⟨a0, a1, a2, a3⟩ := HD.out w9 hw9
        go_simp
        try with_reducible rfl
      try simp only [Act.put, List.setIfInBounds_toArray, List.set_cons_zero, List.set_cons_succ]
      refine wpL_take (v := ?_) 7 rfl (by kernel_rfl) (fun _ _ _ h => h) (by rfl) ?_ HBd.out ?_
      rotate_left
      focus
        intro w9 hw9
        obtain ⟨a0, a1, a2, a3⟩ := HD.out w9 hw9
        go_simp
        try with_reducible rfl
      try simp only [Act.put, List.setIfInBounds_toArray, List.set_cons_zero, List.set_cons_succ]
      refine wpL_take (v := ?_) 8 rfl (by kernel_rfl) (fun _ _ _ h => h) (by rfl) ?_ HBd.out ?_
      rotate_left
      focus
        intro w9 hw9
        obtain ⟨a0, a1, a2, a3⟩ := HD.out w9 hw9
        go_simp
        try with_reducible rfl
      try simp only [Act.put, List.setIfInBounds_toArray, List.set_cons_zero, List.set_cons_succ]
      refine wpL_take (v := ?_) 9 rfl (by kernel_rfl) (fun _ _ _ h => h) (by rfl) ?_ HBd.out ?_
      rotate_left
      focus
        intro w9 hw9
        obtain ⟨a0, a1, a2, a3⟩ := HD.out w9 hw9
        go_simp
        try with_reducible rfl
      try simp only [Act.put, List.setIfInBounds_toArray, List.set_cons_zero, List.set_cons_succ]
      refine wpL_take (v := ?_) 10 rfl (by kernel_rfl) (fun _ _ _ h => h) (by rfl) ?_ HBd.out ?_
      rotate_left
      focus
        intro w9 hw9
        obtain ⟨a0, a1, a2, a3⟩ := HD.out w9 hw9
        go_simp
        try with_reducible rfl
      try simp only [Act.put, List.setIfInBounds_toArray, List.set_cons_zero, List.set_cons_succ]
      refine wpL_one 11 rfl (by kernel_rfl) (by rfl) ?_
      intro K2 hK2
      go_simp
      refine (note_anyN ka _ _ _ w.heap.size lb s vC' mb E' L wd HPd.out.log (HR.out.1.on HBd.out) HR.out.2).mono ?_
      rintro e w4 ⟨rfl, vC4, E4, L4, hX4, hN4, hd4, hF4⟩
      have HNd : Hid (∀ c ∈ L4, c.W.Nodup) := fun c hc => (hd4 c hc).elim (fun h => HDt.out.2 c h) id
      clear hd4
      have HH : Hid (NtH w w4 lb mb vC4 E4 L L4 u6 M ⟨s, ka, .slice p0 n0 c0, .slice p1 n1 c1, .slice p2 n2 c2⟩) := HPd.out.half hX4 hN4 hF4
      have HBd4 : Hid (Below w.heap.size w w4) := HH.out.bel
      clear hX4 hN4 hF4 HPd HBd HP
      dsimp only
      refine hK2.out _ _ (fun _ => HBd4.out) ?_
      clear hK2 K2
      try simp only [Act.put, List.setIfInBounds_toArray, List.set_cons_zero, List.set_cons_succ]
      refine wpL_take (v := ?_) 12 rfl (by kernel_rfl) (fun _ _ _ h => h) (by rfl) ?_ HBd4.out ?_
      rotate_left
      focus
        intro w9 hw9

        go_simp
        try with_reducible rfl
      try simp only [Act.put, List.setIfInBounds_toArray, List.set_cons_zero, List.set_cons_succ]
      refine wpL_done (by kernel_rfl) ?_ _
      try simp only [NoPanic]
      obtain ⟨en, hen⟩ : ∃ en, noteE ka s (lastC L) L.length = en := ⟨_, rfl⟩
      rw [hen]
      have HEn : Hid (noteE ka s (lastC M) M.length = en) := by
        have h := HH.out.sam
        rw [h.last, h.len] at hen
        exact hen
      clear hen
      go_upto_region 9 with fail
      refine wp_region_L (fun w' => Below w.heap.size w w') 17 (by kernel_rfl) ?_
      have HHd : Hid (NtH w w4.drew lb mb vC4 E4 L L4 u6 M ⟨s, ka, .slice p0 n0 c0, .slice p1 n1 c1, .slice p2 n2 c2⟩) := HH.out.on ((Below.refl _ _).drew)
      clear HH HBd4
      generalize w4.drew = wd4 at *
      have HBd : Hid (Below w.heap.size w wd4) := HHd.out.bel
      refine wpL_take (v := ?_) 0 rfl (by kernel_rfl) (fun _ _ _ h => h) (by rfl) ?_ HBd.out ?_
      rotate_left
      focus
        intro w9 hw9
        obtain ⟨a0, a1, a2, a3⟩ := HD.out w9 hw9
        go_simp
        try with_reducible rfl
      try simp only [Act.put, List.setIfInBounds_toArray, List.set_cons_zero, List.set_cons_succ]
      refine wpL_take (v := ?_) 1 rfl (by kernel_rfl) (fun _ _ _ h => h) (by rfl) ?_ HBd.out ?_
      rotate_left
      focus
        intro w9 hw9
        obtain ⟨a0, a1, a2, a3⟩ := HD.out w9 hw9
        go_simp
        try with_reducible rfl
      try simp only [Act.put, List.setIfInBounds_toArray, List.set_cons_zero, List.set_cons_succ]
      refine wpL_take (v := ?_) 2 rfl (by kernel_rfl) (fun _ _ _ h => h) (by rfl) ?_ HBd.out ?_
      rotate_left
      focus
        intro w9 hw9
        obtain ⟨a0, a1, a2, a3⟩ := HD.out w9 hw9
        go_simp
        try with_reducible rfl
      try simp only [Act.put, List.setIfInBounds_toArray, List.set_cons_zero, List.set_cons_succ]
      refine wpL_take (v := ?_) 3 rfl (by kernel_rfl) (fun _ _ _ h => h) (by rfl) ?_ HBd.out ?_
      rotate_left
      focus
        intro w9 hw9
        obtain ⟨a0, a1, a2, a3⟩ := HD.out w9 hw9
        go_simp
        try with_reducible rfl
      try simp only [Act.put, List.setIfInBounds_toArray, List.set_cons_zero, List.set_cons_succ]
      refine wpL_take (v := ?_) 4 rfl (by kernel_rfl) (fun _ _ _ h => h) (by rfl) ?_ HBd.out ?_
      rotate_left
      focus
        intro w9 hw9
        obtain ⟨a0, a1, a2, a3⟩ := HD.out w9 hw9
        go_simp
        try with_reducible rfl
      try simp only [Act.put, List.setIfInBounds_toArray, List.set_cons_zero, List.set_cons_succ]
      refine wpL_take (v := ?_) 5 rfl (by kernel_rfl) (fun _ _ _ h => h) (by rfl) ?_ HBd.out ?_
      rotate_left
      focus
        intro w9 hw9
        obtain ⟨a0, a1, a2, a3⟩ := HD.out w9 hw9
        go_simp
        try with_reducible rfl
      try simp only [Act.put, List.setIfInBounds_toArray, List.set_cons_zero, List.set_cons_succ]
      refine wpL_take (v := ?_) 6 rfl (by kernel_rfl) (fun _ _ _ h => h) (by rfl) ?_ HBd.out ?_
      rotate_left
      focus
        intro w9 hw9
        obtain ⟨a0, a1, a2, a3⟩ := HD.out w9 hw9
        go_simp
        try with_reducible rfl
      try simp only [Act.put, List.setIfInBounds_toArray, List.set_cons_zero, List.set_cons_succ]
      refine wpL_take (v := ?_) 7 rfl (by kernel_rfl) (fun _ _ _ h => h) (by rfl) ?_ HBd.out ?_
      rotate_left
      focus
        intro w9 hw9
        obtain ⟨a0, a1, a2, a3⟩ := HD.out w9 hw9
        go_simp
        try with_reducible rfl
      try simp only [Act.put, List.setIfInBounds_toArray, List.set_cons_zero, List.set_cons_succ]
      refine wpL_take (v := ?_) 8 rfl (by kernel_rfl) (fun _ _ _ h => h) (by rfl) ?_ HBd.out ?_
      rotate_left
      focus
        intro w9 hw9
        obtain ⟨a0, a1, a2, a3⟩ := HD.out w9 hw9
        go_simp
        try with_reducible rfl
      try simp only [Act.put, List.setIfInBounds_toArray, List.set_cons_zero, List.set_cons_succ]
      refine wpL_take (v := ?_) 9 rfl (by kernel_rfl) (fun _ _ _ h => h) (by rfl) ?_ HBd.out ?_
      rotate_left
      focus
        intro w9 hw9
        obtain ⟨a0, a1, a2, a3⟩ := HD.out w9 hw9
        go_simp
        try with_reducible rfl
      try simp only [Act.put, List.setIfInBounds_toArray, List.set_cons_zero, List.set_cons_succ]
      refine wpL_take (v := ?_) 10 rfl (by kernel_rfl) (fun _ _ _ h => h) (by rfl) ?_ HBd.out ?_
      rotate_left
      focus
        intro w9 hw9
        obtain ⟨a0, a1, a2, a3⟩ := HD.out w9 hw9
        go_simp
        try with_reducible rfl
      try simp only [Act.put, List.setIfInBounds_toArray, List.set_cons_zero, List.set_cons_succ]
      refine wpL_one 11 rfl (by kernel_rfl) (by rfl) ?_
      intro K2 hK2
      go_simp
      refine (rnote_any ka _ _ _ w.heap.size s _ M wd4 (HHd.out.doc.doc HBd.out) HHd.out.inv.len (HR.out.1.on HBd.out) HR.out.2 HBd.out.size).mono ?_
      rintro e w5 ⟨v5, M5, rfl, hD5, hN5, hb5⟩
      have HP5 : Hid (NtP w w5 lb mb vC4 E4 L4 v5 M5) := HHd.out.full HR.out.1 hD5 hN5 hb5
      have HDn : Hid (DetM (K.take (j + 1)) M5) := by
        obtain ⟨hjK, hk⟩ := HKj.out
        exact HDt.out.1.snoc hjK (by rw [hk]; exact hN5)
      have HBd5 : Hid (Below w.heap.size w w5) := HP5.out.bel
      rw [HEn.out]
      clear hD5 hN5 hb5 HHd HBd
      dsimp only
      refine hK2.out _ _ (fun _ => HBd5.out) ?_
      clear hK2 K2
      try simp only [Act.put, List.setIfInBounds_toArray, List.set_cons_zero, List.set_cons_succ]
      refine wpL_take (v := ?_) 12 rfl (by kernel_rfl) (fun _ _ _ h => h) (by rfl) ?_ HBd5.out ?_
      rotate_left
      focus
        intro w9 hw9

        go_simp
        try with_reducible rfl
      try simp only [Act.put, List.setIfInBounds_toArray, List.set_cons_zero, List.set_cons_succ]
      refine wpL_take (v := ?_) 13 rfl (by kernel_rfl) (fun _ _ _ h => h) (by rfl) ?_ HBd5.out ?_
      rotate_left
      focus
        intro w9 hw9

        go_simp
        try with_reducible rfl
      try simp only [Act.put, List.setIfInBounds_toArray, List.set_cons_zero, List.set_cons_succ]
      refine wpL_take (v := ?_) 14 rfl (by kernel_rfl) (fun _ _ _ h => h) (by rfl) ?_ HBd5.out ?_
      rotate_left
      focus
        intro w9 hw9

        go_simp
        try with_reducible rfl
      try simp only [Act.put, List.setIfInBounds_toArray, List.set_cons_zero, List.set_cons_succ]
      refine wpL_take (v := ?_) 15 rfl (by kernel_rfl) (fun _ _ _ h => h) (by rfl) ?_ HBd5.out ?_
      rotate_left
      focus
        intro w9 hw9

        go_simp
        try with_reducible rfl
      try simp only [Act.put, List.setIfInBounds_toArray, List.set_cons_zero, List.set_cons_succ]
      refine wpL_take (v := ?_) 16 rfl (by kernel_rfl) (fun _ _ _ h => h) (by rfl) ?_ HBd5.out ?_
      rotate_left
      focus
        intro w9 hw9

        go_simp
        try with_reducible rfl
      try simp only [Act.put, List.setIfInBounds_toArray, List.set_cons_zero, List.set_cons_succ]
      refine wpL_done (by kernel_rfl) ?_ _
      try simp only [NoPanic]
      clear HBd5 HEn HR HD
      go_wp2_with fail
      go_roundw
      case rel => exact ⟨j + 1, vC4, E4, L4, M5, hj1, by go_num, HP5, HDn.out, HNd.out⟩
      case measure => simp [intOf]; omega

end Go.Proofs.YtcknhjabdjbjiaaGreat
