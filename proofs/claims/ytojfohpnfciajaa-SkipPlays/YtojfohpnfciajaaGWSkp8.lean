/- Layer 12: seek. Layer 12: new nodes. -/
import Derived.Test.YtojfohpnfciajaaGWSkp6
namespace Go.Proofs.Ytojfohpnfciajaa
open Go.RowKit
set_option maxRecDepth 100000

/-- the first one from a key on, or the last one up to it -/
def seekN (N : List Nd) (m : Nat) (k : ByteArray) (back : Bool) : Option Nat :=
  if back = false then N[m]?.map Nd.nb else match getN N m k with
    | some b => some b
    | none => if m = 0 then none else N[m - 1]?.map Nd.nb
theorem idx0 {A : Array Value} {b : Nat} (hs : A.size = 16) (h : A[0]? = some (ptr1 b)) (w : World) : (Instr.index 177 (.agg A) (.int .i64 0)).run Try.prog w = .ok (ptr1 b) w := by
  obtain ⟨L⟩ := A
  cases L with
  | nil => simp at h
  | cons a L =>
    simp at h
    subst h
    simp [Instr.index, run_underlying Try.underlying177, asIntOf, go_sem]
theorem infoNd : ∃ j, Try.prog.info? 125 = some j ∧ j.size ≠ 0 := by
  have h : ((Try.prog.info? 125).map (fun i => decide (i.size ≠ 0))) = some true := by kernel_rfl
  obtain ⟨j, hj, h2⟩ := Option.map_eq_some_iff.1 h
  exact ⟨j, hj, by simpa using h2⟩
theorem nd_ne {w : World} {a b : Nat} {ca cb : Array Value} {T S : TypeId} (ha : Blk w a ca T) (hb : Blk w b cb S) (hne : a ≠ b) : (binOp .eql 53 (ptr1 a) (ptr1 b)).run Try.prog w = .ok (.bool false) w := by
  obtain ⟨jn, hjn, hjs⟩ := infoNd
  exact run_eql_ptr_other (P := Try.prog) w Try.underlying53 hjn hjs (by intro e; injection e with e; exact hne e) ha hb
theorem nd_eq (w : World) (a : Nat) : (binOp .eql 53 (ptr1 a) (ptr1 a)).run Try.prog w = .ok (.bool true) w := by
  obtain ⟨jn, hjn, hjs⟩ := infoNd
  exact run_eql_ptr_same (P := Try.prog) w ⟨a, 0, none⟩ Try.underlying53 hjn

set_option maxHeartbeats 2000000 in
theorem seek_any (lb hb sb hl m : Nat) (N : List Nd) (k : ByteArray) (back : Bool) (w : World) (hv : Vw w lb hb sb) (hf : SkF w hb hl N (ldF N)) (hm : m ≤ N.length) (h1 : ∀ i (hi : i < N.length), i < m → ltB N[i].e.k k = true) (h2 : ∀ i (hi : i < N.length), m ≤ i → ltB N[i].e.k k = false) :
    Calls Try.prog 42 #[.agg #[ptr1 lb, ptr1 sb], .string k, .bool back] w fun e w' => e = .returned (ptrO (seekN N m k back)) ∧ Below w.heap.size w w' := by
  have hn := hf.n
  obtain ⟨aX, aB, aS⟩ := blk_new w #[ptr1 lb, ptr1 sb] 102
  have HF : Hid (SkF (w.alloc (.cells #[ptr1 lb, ptr1 sb] 102)) hb hl N (ldF N)) := hf.on aB
  have HX : Hid (Blk (w.alloc (.cells #[ptr1 lb, ptr1 sb] 102)) w.heap.size #[ptr1 lb, ptr1 sb] 102) := aX
  have HB : Hid (Below w.heap.size w (w.alloc (.cells #[ptr1 lb, ptr1 sb] 102))) := aB
  have HV : Hid (Vw (w.alloc (.cells #[ptr1 lb, ptr1 sb] 102)) lb hb sb) := hv.on aB
  have HN : Hid (SkN (w.alloc (.cells #[ptr1 lb, ptr1 sb] 102)) hb hl N) := hn.on aB
  have C1 : Hid (Calls _ _ _ _ _) := path_walk lb hb sb hl m N k _ HV.out HN.out hm h1 h2
  have HM : Hid (m ≤ N.length) := hm
  clear hv hn hf aB aS hm h1 h2
  have x0 := Blk.cell (i := 0) aX rfl
  have x1 := Blk.cell (i := 1) aX rfl
  clear aX
  go_enter Try.func42, Try.ntmps42
  go_wp2_with fail
  generalize (w.alloc (.cells #[ptr1 lb, ptr1 sb] 102)) = w0 at *
  refine C1.out.mono ?_
  rintro e w1 ⟨A, rfl, hA, hb1⟩
  have x0 := Blk.cell (i := 0) (HX.out.on hb1) rfl
  have x1 := Blk.cell (i := 1) (HX.out.on hb1) rfl
  obtain ⟨kb, n, q1, q2, q3, q4⟩ := (HN.out.on hb1).at (l := 0) (by decide) (onL0 HN.out HM.out)
  rw [tgt0 HN.out m] at q4
  have C2 : Hid (Calls _ _ _ _ _) := behind_any lb hb sb (posB hb N m) kb n 0 _ _ (HV.out.on hb1) q1 q2 q3 q4
  have a0 := hA.zero HN.out HM.out
  have hi := idx0 hA.sz a0 w1
  have HB1 : Hid (Below w0.heap.size w0 w1) := hb1
  clear C1 hA hb1 q1 q2 q3 q4 a0
  go_wp2_with fail
  refine C2.out.mono ?_
  rintro e w2 ⟨rfl, hb2⟩
  have HB2 : Hid (Below w0.heap.size w0 w2) := HB1.out.trans (hb2.mono HB1.out.size)
  have HB3 : Hid (Below w.heap.size w w2) := HB.out.trans (HB2.out.mono HB.out.size)
  clear C2 hb2 HB1 x0 x1 hi
  cases back with
  | false =>
    generalize hp : Option.map Nd.nb N[m]? = px at *
    go_wp2_with fail
    go_ret
    exact ⟨by rw [seekN, if_pos rfl, hp]; rfl, HB3.out⟩
  | true =>
    have x0 := Blk.cell (i := 0) (HX.out.on HB2.out) rfl
    obtain ⟨l0, l1, l2⟩ := (HV.out.on HB2.out).l.cells
    have HE : Hid (∀ b, getN N m k = some b → seekN N m k true = some b) := fun b hb => by
      show seekN N m k true = some b
      rw [seekN, if_neg (by decide), hb]
    have HT : getN N m k = none → (m = 0 ∧ seekN N m k true = none) ∨ (∃ i, ∃ (hi : i < N.length), m = i + 1 ∧ seekN N m k true = some N[i].nb) := by
      intro hg
      rcases Nat.eq_zero_or_pos m with h0 | h0
      · exact .inl ⟨h0, by rw [seekN, if_neg (by decide), hg]; exact if_pos h0⟩
      · have hm := HM.out
        refine .inr ⟨m - 1, by omega, by omega, ?_⟩
        rw [seekN, if_neg (by decide), hg]
        show (if m = 0 then none else N[m - 1]?.map Nd.nb) = _
        rw [if_neg (by omega), List.getElem?_eq_getElem (by omega)]
        rfl
    rcases Nat.lt_or_ge m N.length with h1 | h1
    · have hg : N[m]? = some N[m] := List.getElem?_eq_getElem h1
      have y0 := (HN.out.on HB2.out).nd m h1 |>.1
      have HG : Hid (getN N m k = if N[m].e.k = k then some N[m].nb else none) := by
        show getN N m k = _
        unfold getN
        rw [hg]
      rw [hg, show ptrO (Option.map Nd.nb (some N[m])) = ptr1 N[m].nb from rfl]
      clear hg
      generalize N[m].nb = nb at *
      generalize N[m].e.k = kk at *
      by_cases e : kk = k
      · rw [if_pos e] at HG
        have HS : Hid (seekN N m k true = some nb) := HE.out nb HG.out
        clear HT
        go_wp2_with fail
        go_ret
        exact ⟨by rw [HS.out]; rfl, HB3.out⟩
      · rw [if_neg e] at HG
        have hne := neL e
        rcases HT HG.out with ⟨rfl, hs⟩ | ⟨i, hi, rfl, hs⟩
        · have HS : Hid (seekN N 0 k true = none) := hs
          have hq := nd_eq w2 hb
          clear HT hs
          rw [show posB hb N 0 = hb from rfl]
          go_wp2_with fail
          go_ret
          exact ⟨by rw [HS.out]; rfl, HB3.out⟩
        · have HS : Hid (seekN N (i + 1) k true = some N[i].nb) := hs
          obtain ⟨hv9, hd9⟩ := (HF.out.on HB2.out).hd
          have hq := nd_ne ((HF.out.on HB2.out).nd _ (List.getElem_mem hi)) hd9 (HN.out.nhd i hi)
          clear HT hs hd9
          rw [posB_at hb hi]
          generalize N[i].nb = nc at *
          go_wp2_with fail
          go_ret
          exact ⟨by rw [HS.out]; rfl, HB3.out⟩
    · have hg : N[m]? = none := List.getElem?_eq_none h1
      have HG : Hid (getN N m k = none) := by
        show getN N m k = _
        unfold getN
        rw [hg]
      rw [hg, show ptrO (Option.map Nd.nb (none : Option Nd)) = .pointer none from rfl]
      clear hg
      rcases HT HG.out with ⟨rfl, hs⟩ | ⟨i, hi, rfl, hs⟩
      · have HS : Hid (seekN N 0 k true = none) := hs
        have hq := nd_eq w2 hb
        clear HT hs
        rw [show posB hb N 0 = hb from rfl]
        go_wp2_with fail
        go_ret
        exact ⟨by rw [HS.out]; rfl, HB3.out⟩
      · have HS : Hid (seekN N (i + 1) k true = some N[i].nb) := hs
        obtain ⟨hv9, hd9⟩ := (HF.out.on HB2.out).hd
        have hq := nd_ne ((HF.out.on HB2.out).nd _ (List.getElem_mem hi)) hd9 (HN.out.nhd i hi)
        clear HT hs hd9
        rw [posB_at hb hi]
        generalize N[i].nb = nc at *
        go_wp2_with fail
        go_ret
        exact ⟨by rw [HS.out]; rfl, HB3.out⟩

end Go.Proofs.Ytojfohpnfciajaa

namespace Go.Proofs.Ytojfohpnfciajaa
open Go.RowKit
set_option maxRecDepth 100000

/-- a node that nobody knows of yet -/
structure NewN (w w' : World) (nb vb lb : Nat) (k : ByteArray) (v : Int) (h : Nat) : Prop where
  n : Blk w' nb #[.string k, ptr1 vb, .slice (some ⟨lb, 0, none⟩) h h] 125
  l : Blk w' lb (Array.replicate h (.pointer none)) 129
  v : Blk w' vb #[.int .i64 v] 2
  nn : w.heap.size ≤ nb
  nl : w.heap.size ≤ lb
  nv : w.heap.size ≤ vb
  bel : Below w.heap.size w w'

theorem info_apl : (Try.prog.info? 129).map (fun i => (i.zero, i.size, i.bytes)) = some (some (.agg #[.pointer none]), 1, 8) := by kernel_rfl
theorem made_rep (h : Nat) : madeCells (Value.agg #[.pointer none]).cells (h * 1) = Array.replicate h (.pointer none) := by
  unfold madeCells
  rw [Nat.mul_one]
  apply Array.ext
  · simp
  · intro i h1 h2
    have e : i % 1 = 0 := Nat.mod_one i
    simp [Value.cells, e]
theorem make_ap (h : Nat) (hh : h ≤ 16) (w : World) : (Instr.makeSlice 123 (.int .i64 (h : Nat)) (.int .i64 (h : Nat))).run Try.prog w = .ok (.slice (some ⟨w.heap.size, 0, none⟩) h h) (w.alloc (.cells (Array.replicate h (.pointer none)) 129)) := by
  have hi := info_apl
  cases hq : Try.prog.info? 129 with
  | none => rw [hq] at hi; cases hi
  | some i =>
    rw [hq] at hi
    injection hi with hi
    injection hi with h1 h2
    injection h2 with h2 h3
    have := run_make (P := Try.prog) w 123 _ i _ Try.underlying123 hq h1 .i64 .i64 h h (by omega) (by omega) (by rw [h3]; omega) (by omega)
    rw [h2, Int.toNat_natCast, made_rep] at this
    exact this

set_option maxHeartbeats 2000000 in
theorem newNode_any (k : ByteArray) (v : Int) (h : Nat) (hh : h ≤ 16) (w : World) :
    Calls Try.prog 49 #[.string k, .int .i64 v, .int .i64 (h : Nat)] w fun e w' => ∃ nb vb lb, e = .returned (ptr1 nb) ∧ NewN w w' nb vb lb k v h := by
  have hm := make_ap h hh (w.alloc (.cells #[.int .i64 v] 2))
  obtain ⟨aX, aB, aS⟩ := blk_new w #[.int .i64 v] 2
  obtain ⟨bX, bB, bS⟩ := blk_new (w.alloc (.cells #[.int .i64 v] 2)) (Array.replicate h (.pointer none)) 129
  have HA : Hid (Blk (w.alloc (.cells #[.int .i64 v] 2)) w.heap.size #[.int .i64 v] 2 ∧ Below w.heap.size w (w.alloc (.cells #[.int .i64 v] 2)) ∧ (w.alloc (.cells #[.int .i64 v] 2)).heap.size = w.heap.size + 1) := ⟨aX, aB, aS⟩
  rw [aS] at bX
  have HR : Hid (∃ R, Array.replicate h (Value.pointer none) = R) := ⟨_, rfl⟩
  obtain ⟨R, hR⟩ := HR.out
  rw [hR] at bX bB bS hm
  have HE : Hid (Array.replicate h (Value.pointer none) = R) := hR
  obtain ⟨cX, cB, cS⟩ := blk_new ((w.alloc (.cells #[.int .i64 v] 2)).alloc (.cells R 129)) #[.string k, .pointer none, .slice (some ⟨w.heap.size + 1, 0, none⟩) h h] 125
  rw [bS, aS] at cX
  have hb2 := aB.trans (bB.mono aB.size)
  have HB : Hid (Below w.heap.size w (((w.alloc (.cells #[.int .i64 v] 2)).alloc (.cells R 129)).alloc (.cells #[.string k, .pointer none, .slice (some ⟨w.heap.size + 1, 0, none⟩) h h] 125))) := hb2.trans (cB.mono hb2.size)
  have HV : Hid (Blk (((w.alloc (.cells #[.int .i64 v] 2)).alloc (.cells R 129)).alloc (.cells #[.string k, .pointer none, .slice (some ⟨w.heap.size + 1, 0, none⟩) h h] 125)) w.heap.size #[.int .i64 v] 2) := (aX.on bB).on cB
  have HL : Hid (Blk (((w.alloc (.cells #[.int .i64 v] 2)).alloc (.cells R 129)).alloc (.cells #[.string k, .pointer none, .slice (some ⟨w.heap.size + 1, 0, none⟩) h h] 125)) (w.heap.size + 1) R 129) := bX.on cB
  have HN : Hid (Blk (((w.alloc (.cells #[.int .i64 v] 2)).alloc (.cells R 129)).alloc (.cells #[.string k, .pointer none, .slice (some ⟨w.heap.size + 1, 0, none⟩) h h] 125)) (w.heap.size + 1 + 1) #[.string k, .pointer none, .slice (some ⟨w.heap.size + 1, 0, none⟩) h h] 125) := cX
  clear aX aB aS bX bB bS cX cB cS hb2 hR HR HA
  go_enter Try.func49, Try.ntmps49
  go_wp2_with fail
  clear hm
  generalize (((w.alloc (.cells #[.int .i64 v] 2)).alloc (.cells R 129)).alloc (.cells #[.string k, .pointer none, .slice (some ⟨w.heap.size + 1, 0, none⟩) h h] 125)) = w3 at *
  refine (storeIv (w.heap.size + 1 + 1) 1 none (some ⟨w.heap.size, 0, none⟩) w3 (Blk.cell (i := 1) HN.out rfl) (HN.out.frozen 1) (PtT.blk HV.out rfl)).mono ?_
  rintro e w4 ⟨rfl, hw4⟩
  have HK : Hid (NewN w w4 (w.heap.size + 1 + 1) w.heap.size (w.heap.size + 1) k v h) := by
    show NewN _ _ _ _ _ _ _ _
    subst hw4
    refine ⟨HN.out.set 1 _, ?_, HV.out.other (by omega) 1 _, by omega, by omega, Nat.le_refl _, below_set HB.out (by omega) 1 _⟩
    rw [HE.out]
    exact HL.out.other (by omega) 1 _
  clear hw4 HN HV HL HB
  go_wp2_with fail
  go_ret
  exact ⟨_, _, _, rfl, HK.out⟩

end Go.Proofs.Ytojfohpnfciajaa
