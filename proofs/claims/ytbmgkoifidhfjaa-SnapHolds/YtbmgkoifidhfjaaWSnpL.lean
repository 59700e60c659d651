/- The document's Leave. -/
import Derived.Test.YtbmgkoifidhfjaaWSnpE
namespace Go.Proofs.Ytbmgkoifidhfjaa
open Go.RowKit
set_option maxRecDepth 100000

theorem go_take (R : List Rd) (n : Int) (j : Nat) (hj : j < R.length) : goR (R.take (j + 1)) n = goR (R.take j) n ++ (if (R[j].sl : Int) = n then [] else [R[j]]) := by
  unfold goR
  rw [List.take_succ_eq_append_getElem hj, List.filter_append]
  congr 1
  by_cases h : (R[j].sl : Int) = n
  · rw [if_pos h]
    simp [h]
  · rw [if_neg h]
    simp [h]
theorem go_le (R : List Rd) (n : Int) : (goR R n).length ≤ R.length := List.length_filter_le _ _

set_option maxHeartbeats 4000000 in
theorem rleave_any (fl B : Nat) (n : Int) (v : Value) (R : List Rd) (w : World) (h : OwR w B v R) (hI : InvR R) :
    Calls Try.prog 26 #[.agg #[.int .u64 (fl : Nat), v], .int .i64 n] w fun e w' => (∃ v', e = .returned (.tuple #[.agg #[.int .u64 (fl : Nat), v'], .int .i64 (leaE R n)]) ∧ OwR w' 0 v' (goR R n)) ∧ Below w.heap.size w w' := by
  have hlen := hI.len
  obtain ⟨p, c, ev, hle, -⟩ := h.rd
  obtain ⟨rl, hrl⟩ : ∃ rl, rl = R.length := ⟨_, rfl⟩
  rw [← hrl] at ev
  subst ev
  have hs1 : (w.alloc (.cells #[.int .u64 (fl : Nat), .slice p rl c] 29)).heap.size = w.heap.size + 1 := by simp
  have L1 : Below w.heap.size w (w.alloc (.cells #[.int .u64 (fl : Nat), .slice p rl c] 29)) := (Below.refl _ _).alloc (Nat.le_refl _) _
  have L2 : Below (w.alloc (.cells #[.int .u64 (fl : Nat), .slice p rl c] 29)).heap.size (w.alloc (.cells #[.int .u64 (fl : Nat), .slice p rl c] 29)) ((w.alloc (.cells #[.int .u64 (fl : Nat), .slice p rl c] 29)).alloc (.cells #[.int .u64 0, .slice none 0 0] 29)) := (Below.refl _ _).alloc (Nat.le_refl _) _
  have X1 : BoxT (w.alloc (.cells #[.int .u64 (fl : Nat), .slice p rl c] 29)) w.heap.size #[.int .u64 (fl : Nat), .slice p rl c] 29 := BoxT.new _ _ _
  have X2 : BoxT ((w.alloc (.cells #[.int .u64 (fl : Nat), .slice p rl c] 29)).alloc (.cells #[.int .u64 0, .slice none 0 0] 29)) (w.heap.size + 1) #[.int .u64 0, .slice none 0 0] 29 := by rw [← hs1]; exact BoxT.new _ _ _
  have HX1 : Hid (BoxT ((w.alloc (.cells #[.int .u64 (fl : Nat), .slice p rl c] 29)).alloc (.cells #[.int .u64 0, .slice none 0 0] 29)) w.heap.size #[.int .u64 (fl : Nat), .slice p rl c] 29) := X1.on L2
  have HX2 : Hid (BoxT ((w.alloc (.cells #[.int .u64 (fl : Nat), .slice p rl c] 29)).alloc (.cells #[.int .u64 0, .slice none 0 0] 29)) (w.heap.size + 1) #[.int .u64 0, .slice none 0 0] 29) := X2
  have HL : Hid (Below w.heap.size w ((w.alloc (.cells #[.int .u64 (fl : Nat), .slice p rl c] 29)).alloc (.cells #[.int .u64 0, .slice none 0 0] 29))) := L1.trans (L2.mono (by omega))
  have H2 : Hid (OwR ((w.alloc (.cells #[.int .u64 (fl : Nat), .slice p rl c] 29)).alloc (.cells #[.int .u64 0, .slice none 0 0] 29)) B (.slice p rl c) R) := h.on HL.out
  have HRL : Hid (rl = R.length ∧ R.length ≤ 256 ∧ R.length ≤ c) := ⟨hrl, hlen, hle⟩
  have hr256 : rl ≤ 256 := by omega
  clear hs1 L1 L2 X1 X2 h hI hrl hlen hle
  go_enter Try.func26, Try.ntmps26
  go_wp2_with fail
  generalize ((w.alloc (.cells #[.int .u64 (fl : Nat), .slice p rl c] 29)).alloc (.cells #[.int .u64 0, .slice none 0 0] 29)) = w2 at *
  go_loopw [6, 7] (fun u i wr => ∃ j : Nat, j ≤ rl ∧ i = .int .i64 (j : Int) ∧ Hid (OwR wr w2.heap.size u (goR (R.take j) n)) ∧ Hid (Below w2.heap.size w2 wr)) (fun _ i _ => rl - (intOf i).toNat)
  case atStart => exact ⟨0, Nat.zero_le _, by go_num, OwR.nil _ _, Below.refl _ _⟩
  case round =>
    obtain ⟨j, hj, rfl, hV, hB⟩ := hrel
    have hrl := HRL.out
    obtain ⟨pu, lu, cu, eu⟩ : ∃ p l c, u6 = .slice p l c := by
      obtain ⟨p, c, e, -⟩ := hV.out.rd
      exact ⟨_, _, _, e⟩
    subst eu
    have a0 : wr.cell? ⟨w.heap.size, 0, none⟩ = some (.int .u64 (fl : Nat)) := (HX1.out.on hB.out).cell
    have a1 : wr.cell? ⟨w.heap.size, 1, none⟩ = some (.slice p rl c) := (HX1.out.on hB.out).cell
    by_cases hj0 : j = rl
    · subst hj0
      have e0 : R.take j = R := by rw [hrl.1]; exact List.take_length
      rw [e0] at hV
      have HLU : Hid (lu = (goR R n).length) := hV.out.addr.2.2.2.1
      have HX16 : Hid (BoxT wr w.heap.size #[.int .u64 (fl : Nat), .slice p j c] 29) := HX1.out.on hB.out
      have HX26 : Hid (BoxT wr (w.heap.size + 1) #[.int .u64 0, .slice none 0 0] 29) := HX2.out.on hB.out
      have HLW : Hid (Below w.heap.size w wr) := HL.out.trans (hB.out.mono HL.out.size)
      have HZ : Hid (w.heap.size + 1 < w2.heap.size) := HX2.out.lt
      have g0' : wr.cell? ⟨w.heap.size + 1, 0, none⟩ = some (.int .u64 0) := HX26.out.cell
      have g1' : wr.cell? ⟨w.heap.size + 1, 1, none⟩ = some (.slice none 0 0) := HX26.out.cell
      have y0 : wr.frozen? ⟨w.heap.size + 1, 0, none⟩ = false := HX26.out.frozen
      have y1 : wr.frozen? ⟨w.heap.size + 1, 1, none⟩ = false := HX26.out.frozen
      cases hh : hasR R n with
      | false =>
        have HE : Hid (leaE R n = 100 ∧ goR R n = R) := ⟨by unfold leaE; rw [hh]; rfl, go_no hh⟩
        have hlu : lu = j := by rw [HLU.out, HE.out.2]; exact hrl.1.symm
        subst hlu
        have hfz : Frm wr ((wr.setCell ⟨w.heap.size + 1, 0, none⟩ (.int .u64 (fl : Nat))).setCell ⟨w.heap.size + 1, 1, none⟩ (.slice p lu c)) (fun k => k = w.heap.size + 1) := (frm_set wr _ 0 _ (F := fun k => k = w.heap.size + 1) rfl).trans (frm_set _ _ 1 _ (F := fun k => k = w.heap.size + 1) rfl)
        have HBE : Hid (Below w.heap.size w ((wr.setCell ⟨w.heap.size + 1, 0, none⟩ (.int .u64 (fl : Nat))).setCell ⟨w.heap.size + 1, 1, none⟩ (.slice p lu c))) := HLW.out.trans (hfz.below HLW.out.size (fun k hk => by omega))
        have HVE : Hid (OwR ((wr.setCell ⟨w.heap.size + 1, 0, none⟩ (.int .u64 (fl : Nat))).setCell ⟨w.heap.size + 1, 1, none⟩ (.slice p lu c)) 0 (.slice p lu c) R) := owns_base ((H2.out.on hB.out).frm HX26.out (by decide) hfz) (Nat.zero_le _)
        have hbe : BoxT ((wr.setCell ⟨w.heap.size + 1, 0, none⟩ (.int .u64 (fl : Nat))).setCell ⟨w.heap.size + 1, 1, none⟩ (.slice p lu c)) (w.heap.size + 1) #[.int .u64 (fl : Nat), .slice p lu c] 29 := (HX26.out.set (i := 0) _).set (i := 1) _
        have q0 := hbe.cell (i := 0)
        have q1 := hbe.cell (i := 1)
        clear hfz hbe HX16 HX26 HX1 HX2 hV hB H2 e0 hrl hj
        go_wp2_with fail
        refine bodyPost_ret (v := .tuple #[.agg #[.int .u64 (fl : Nat), .slice p lu c], .int .i64 100]) (by simp [results, Try.results26, go_sem, q0, q1]) rfl ?_
        exact ⟨⟨_, by rw [HE.out.1], by rw [HE.out.2]; exact HVE.out⟩, HBE.out⟩
      | true =>
        have HE : Hid (leaE R n = 0) := by unfold leaE; rw [hh]; rfl
        have hlu : ¬ lu = j := fun e => by
          have h1 : (goR R n).length = R.length := by rw [← HLU.out, e]; exact hrl.1
          rw [go_len.1 h1] at hh
          cases hh
        have hlu2 : lu ≤ 256 := by rw [HLU.out]; have := go_le R n; omega
        have hlu3 : ¬ (lu : Int) = (j : Int) := by omega
        clear hlu
        have o2 : wr.frozen? ⟨w.heap.size, 1, none⟩ = false := HX16.out.frozen
        have hfz : Frm wr (((wr.setCell ⟨w.heap.size, 1, none⟩ (.slice pu lu cu)).setCell ⟨w.heap.size + 1, 0, none⟩ (.int .u64 (fl : Nat))).setCell ⟨w.heap.size + 1, 1, none⟩ (.slice pu lu cu)) (fun k => k = w.heap.size ∨ k = w.heap.size + 1) := ((frm_set wr _ 1 _ (F := fun k => k = w.heap.size ∨ k = w.heap.size + 1) (.inl rfl)).trans (frm_set _ _ 0 _ (F := fun k => k = w.heap.size ∨ k = w.heap.size + 1) (.inr rfl))).trans (frm_set _ _ 1 _ (F := fun k => k = w.heap.size ∨ k = w.heap.size + 1) (.inr rfl))
        have HBE : Hid (Below w.heap.size w (((wr.setCell ⟨w.heap.size, 1, none⟩ (.slice pu lu cu)).setCell ⟨w.heap.size + 1, 0, none⟩ (.int .u64 (fl : Nat))).setCell ⟨w.heap.size + 1, 1, none⟩ (.slice pu lu cu))) := HLW.out.trans (hfz.below HLW.out.size (fun k hk => by omega))
        have HVE : Hid (OwR (((wr.setCell ⟨w.heap.size, 1, none⟩ (.slice pu lu cu)).setCell ⟨w.heap.size + 1, 0, none⟩ (.int .u64 (fl : Nat))).setCell ⟨w.heap.size + 1, 1, none⟩ (.slice pu lu cu)) 0 (.slice pu lu cu) (goR R n)) := owns_base (owns_block hV.out (fun g hg => by
          obtain ⟨cur, h1⟩ := own_cells hV.out hg
          refine hfz.block g (Array.getElem?_eq_some_iff.1 h1).1 (fun e => ?_)
          have h2 := hV.out.low hg
          have h3 := HZ.out
          omega)) (Nat.zero_le _)
        have hbe : BoxT (((wr.setCell ⟨w.heap.size, 1, none⟩ (.slice pu lu cu)).setCell ⟨w.heap.size + 1, 0, none⟩ (.int .u64 (fl : Nat))).setCell ⟨w.heap.size + 1, 1, none⟩ (.slice pu lu cu)) (w.heap.size + 1) #[.int .u64 (fl : Nat), .slice pu lu cu] 29 := ((HX26.out.off (i := 1) _ (by omega)).set (i := 0) _).set (i := 1) _
        have q0 := hbe.cell (i := 0)
        have q1 := hbe.cell (i := 1)
        clear hfz hbe HX16 HX26 HX1 HX2 hV hB H2 e0 hrl hj
        go_wp2_with fail
        refine bodyPost_ret (v := .tuple #[.agg #[.int .u64 (fl : Nat), .slice pu lu cu], .int .i64 0]) (by simp [results, Try.results26, go_sem, q0, q1]) rfl ?_
        exact ⟨⟨_, by rw [HE.out], HVE.out⟩, HBE.out⟩
    · have hj1 : j < R.length := by omega
      have hj2 : j < rl := by omega
      have hrd := H2.out.addr.2.2.1
      obtain ⟨b, o, rfl, hb, d0, d1⟩ := hrd j hj1
      have e0 := (hB.out.cell (p := ⟨b, o + j * 2, none⟩) hb).trans d0
      have e1 := (hB.out.cell (p := ⟨b, o + j * 2 + 1, none⟩) hb).trans d1
      have HG := go_take R n j hj1
      have HLG : Hid ((goR (R.take j) n).length ≤ 1000) := show _ ≤ _ by
        have h1 := go_le (R.take j) n
        rw [List.length_take] at h1
        omega
      by_cases hx : (R[j].sl : Int) = n
      · rw [if_pos hx, List.append_nil] at HG
        have HV2 : Hid (OwR wr w2.heap.size (.slice pu lu cu) (goR (R.take (j + 1)) n)) := show OwR _ _ _ _ by rw [HG]; exact hV.out
        rw [hx] at e0
        clear hx HG hV d0 d1 e1 hb hrd hrl hj0 H2
        clear hj1
        go_wp2_with fail
        go_roundw
        case rel => exact ⟨j + 1, by omega, by go_num, HV2, hB⟩
        case measure => simp [intOf]; omega
      · rw [if_neg hx] at HG
        have HGG : Hid (goR (R.take (j + 1)) n = goR (R.take j) n ++ [⟨R[j].sl, R[j].st⟩]) := HG
        clear HG d0 d1 hb hrd hj0
        generalize R[j].sl = xs at *
        generalize R[j].st = ys at *
        clear hj1 hrl H2
        have L4 : Below wr.heap.size wr (wr.alloc (.cells #[.int .i64 (xs : Nat), .int .u64 (ys : Nat)] 49)) := (Below.refl _ _).alloc (Nat.le_refl _) _
        have HL4 : Hid (Below w2.heap.size w2 (wr.alloc (.cells #[.int .i64 (xs : Nat), .int .u64 (ys : Nat)] 49))) := hB.out.trans (L4.mono hB.out.size)
        have HV4 : Hid (OwR (wr.alloc (.cells #[.int .i64 (xs : Nat), .int .u64 (ys : Nat)] 49)) w2.heap.size (.slice pu lu cu) (goR (R.take j) n)) := hV.out.on L4
        have HO5 : Hid (RdR (wr.alloc (.cells #[.int .i64 (xs : Nat), .int .u64 (ys : Nat)] 49)) (some ⟨wr.heap.size, 0, none⟩) [⟨xs, ys⟩]) := by
          obtain ⟨p9, c9, e9, _, _, h9⟩ := SlR.one wr xs ys _ rfl
          cases e9
          exact h9
        clear L4 hV hB
        go_wp2_with (at_builtin; refine wpList_appR _ rfl (.tmp 23) (.tmp 29) rfl w2.heap.size _ (goR (R.take j) n) [(⟨xs, ys⟩ : Rd)] (some (⟨wr.heap.size, 0, none⟩ : Addr)) 1 rfl HV4.out rfl (fun h => by cases h) (fun a ha => by cases ha; exact ⟨_, _, rfl⟩) HO5.out HLG.out (by simp) HL4.out.size ?_)
        intro v5 w5 hv5 hg5
        have HL5 : Hid (Below w2.heap.size w2 w5) := HV4.out.grow HL4.out HL4.out.size hg5
        have HV5 : Hid (OwR w5 w2.heap.size v5 (goR (R.take (j + 1)) n)) := show OwR _ _ _ _ by rw [HGG.out]; exact hv5
        clear hv5 hg5 HV4 HL4 HO5 HGG
        go_wp2_with fail
        go_roundw
        case rel => exact ⟨j + 1, by omega, by go_num, HV5, HL5⟩
        case measure => simp [intOf]; omega
end Go.Proofs.Ytbmgkoifidhfjaa
