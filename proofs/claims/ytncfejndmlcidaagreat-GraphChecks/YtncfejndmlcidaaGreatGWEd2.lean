/- Layer 19: a history that has been read, from then on; stampOf, addOverwrites. Layer 19: a scan may be, as the document says it: it is the same. -/
import Derived.Test.YtncfejndmlcidaaGreatGWRw
import Derived.Test.YtncfejndmlcidaaGreatGWGr10
import Derived.Test.YtncfejndmlcidaaGreatGMGr5
namespace Go.Proofs.YtncfejndmlcidaaGreat
open Go.RowKit
set_option maxRecDepth 100000

/-- a history was read into what lies below N -/
structure RdD (w : World) (N B : Nat) (H : List Ac) (d : Dv) : Prop where
  f : ∃ w0, Dn w0 B H d ∧ B ≤ w0.heap.size ∧ w0.heap.size = N ∧ Below N w0 w
theorem RdD.dn {w : World} {N B : Nat} {H : List Ac} {d : Dv} (h : RdD w N B H d) : Dn w B H d := by
  obtain ⟨w0, h1, h2, rfl, h4⟩ := h.f
  exact h1.on h2 h4
theorem RdD.on {w w' : World} {N B : Nat} {H : List Ac} {d : Dv} (h : RdD w N B H d) (hb : Below N w w') : RdD w' N B H d := by
  obtain ⟨w0, h1, h2, h3, h4⟩ := h.f
  exact ⟨w0, h1, h2, h3, h4.trans hb⟩
theorem RdD.size {w : World} {N B : Nat} {H : List Ac} {d : Dv} (h : RdD w N B H d) : N ≤ w.heap.size := by
  obtain ⟨w0, h1, h2, rfl, h4⟩ := h.f
  exact h4.size
theorem Fin.plc {H : List Ac} {s : Hv} {d : Dv} (h : Fin H s d) {t : Int} (ht : t ∈ cms H) : ∃ h : d.pl t < d.C.length, d.C[d.pl t] = t := by
  obtain ⟨i, hi, rfl⟩ := List.getElem_of_mem (h.perm.mem_iff.2 ht)
  rw [h.pl i hi]
  exact ⟨hi, rfl⟩
theorem Fin.same {w : World} {B : Nat} {H : List Ac} {s : Hv} {d : Dv} (h : Fin H s d) (hD : Dn w B H d) {t u : Int} (ht : t ∈ cms H) (hu : u ∈ cms H) : d.s.pt t = d.s.pt u ↔ d.pl t = d.pl u := by
  constructor
  · intro e
    rw [hD.inj t u (cms_kn ht) (cms_kn hu) e]
  · intro e
    obtain ⟨h1, h2⟩ := h.plc ht
    obtain ⟨h3, h4⟩ := h.plc hu
    have : t = u := by rw [← h2, ← h4]; congr 1
    rw [this]
/-- lead, between two that are committed -/
theorem leadD_any {N B C ob : Nat} {vs : Nat → Value} {LL : List (List Ed)} {n : Nat} {H : List Ac} {d : Dv} {w : World} (hR : RdD w N B H d) (hF : Fin H d.s d) (hO : OutE w C ob vs LL) (hn : LL.length = n) (hC : C ≤ w.heap.size) (hd : d.C.length = n) (hn4 : n ≤ 4096)
    {t u : Int} (ht : t ∈ cms H) (hu : u ∈ cms H) (kd im : Nat) (hl : RowsLe LL 1099511627776) :
    Calls Tryz.prog 108 #[.slice (some ⟨ob, 0, none⟩) n n, .pointer (some ⟨d.s.pt t, 0, none⟩), .pointer (some ⟨d.s.pt u, 0, none⟩), .int .i64 (kd : Int), .int .i64 (im : Int)] w fun e w' => e = .returned (.tuple #[]) ∧ EdF w w' C ∧ ∃ vs', OutE w' C ob vs' (leadM LL (d.pl t) (d.pl u) kd im) := by
  have hD := hR.dn
  exact lead_any C ob vs LL n (d.s.pt t) (d.s.pt u) _ _ (d.pl t) (d.pl u) kd im w hO hn hC (hD.tn t (cms_kn ht)).2 rfl (hD.tn u (cms_kn hu)).2 rfl (by rw [← hd]; exact (hF.plc ht).1) hn4 (hF.same hD ht hu) hl
/-- the cells of an item's versions -/
theorem RdD.vcell {N B : Nat} {H : List Ac} {d : Dv} {w : World} (hR : RdD w N B H d) {x : ByteArray} {p : Option Addr} {l c : Nat} (e : getG nilS d.s.EV x = .slice p l c) : (vrs H x).length = l ∧ l ≤ c ∧ (p = none → c = 0) ∧ ∀ j (hj : j < (vrs H x).length), ∃ b o, p = some ⟨b, o, none⟩ ∧ w.cell? ⟨b, o + j, none⟩ = some (.pointer (some ⟨d.s.pt (vrs H x)[j], 0, none⟩)) := by
  have hown : OwnG (encT d.s.pt) 1 102 w B (getG nilS d.s.EV x) (vrs H x) := hR.dn.fv.own (some (some x))
  have hsl : SlG (encT d.s.pt) 1 w.heap.size w (getG nilS d.s.EV x) (vrs H x) := OwnG.sl (T := 102) (B := B) (fun _ => rfl) hown
  obtain ⟨p', c', e', h5, h6, h7⟩ := hsl.f
  rw [e] at e'
  obtain ⟨rfl, rfl, rfl⟩ := Value.slice.inj e'
  refine ⟨rfl, h5, h6, fun j hj => ?_⟩
  obtain ⟨b, o, rfl, hb, hc⟩ := h7 j hj
  have hd := hc 0 _ rfl
  rw [Nat.mul_one, Nat.add_zero] at hd
  exact ⟨b, o, rfl, hd⟩
theorem vrs_cms {H : List Ac} {x : ByteArray} {t : Int} (h : t ∈ vrs H x) : t ∈ cms H := (List.mem_filter.1 h).1
set_option maxHeartbeats 4000000 in
theorem stampOf_any (N B : Nat) (H : List Ac) (d : Dv) (fr : Int) (w : World) (hR : RdD w N B H d) (hk : fr = 0 ∨ kn H fr = true) :
    Calls Tryz.prog 89 #[.pointer (some ⟨d.s.hb, 0, none⟩), .int .i64 fr] w fun e w' => e = .returned (.tuple #[.int .u64 (cm0 H fr : Nat), .bool (fr == 0 || decide (0 < cm H fr))]) ∧ w' = w := by
  by_cases h0 : fr = 0
  · have e1 : cm0 H fr = 0 := if_pos h0
    rw [e1]
    subst h0
    clear hR hk e1
    go_enter Tryz.func89, Tryz.ntmps89
    go_wp2_with fail
    go_ret2
    exact ⟨rfl, rfl⟩
  · have hkn : kn H fr = true := hk.resolve_left h0
    have hD := hR.dn
    have e1 : cm0 H fr = cm H fr := if_neg h0
    have HE : Hid ((fr == 0 || decide (0 < cm H fr)) = decide (0 < cm H fr)) := by
      show _ = _
      rw [beq_eq_false_iff_ne.2 h0, Bool.false_or]
    have hlk : (Instr.lookup 73 (.map (some d.s.mT)) (.int .i64 fr) false).run Tryz.prog w = .ok (ptr1 (d.s.pt fr)) w := by
      have h1 := hD.mt.look keyI Tryz.underlying73 zeroTx fr
      rw [hD.mtv, if_pos hkn] at h1
      exact h1
    have c0 : w.cell? ⟨d.s.hb, 0, none⟩ = some (.map (some d.s.mT)) := hD.blk.cell rfl
    have c5 : w.cell? ⟨d.s.pt fr, 5, none⟩ = some (.int .u64 (cm H fr : Nat)) := (hD.tn fr hkn).2.cell rfl
    rw [e1, HE.out]
    clear hR hk e1 hD
    dsimp only [ptr1] at hlk
    generalize cm H fr = m at *
    go_enter Tryz.func89, Tryz.ntmps89
    go_wp2_with fail
    go_ret2
    exact ⟨by simp, rfl⟩
set_option maxHeartbeats 8000000 in
theorem addOver_any (N B C ob : Nat) (vs : Nat → Value) (LL : List (List Ed)) (n M : Nat) (H : List Ac) (d : Dv) (w : World) (hR : RdD w N B H d) (hN : N ≤ C) (hC : C ≤ w.heap.size) (hF : Fin H d.s d) (hH : H.length ≤ 4096) (hO : OutE w C ob vs LL) (hn : LL.length = n) (hd : d.C.length = n) (hI : d.I.length ≤ 4096) (hl : RowsLe LL M) (hM : M ≤ 549755813888) :
    Calls Tryz.prog 73 #[.pointer (some ⟨d.s.hb, 0, none⟩), .slice (some ⟨ob, 0, none⟩) n n] w fun e w' => e = .returned (.tuple #[]) ∧ EdF w w' C ∧ ∃ vs', OutE w' C ob vs' (ovM d.pl H d.I LL d.I.length) := by
  have hn4 : n ≤ 4096 := by rw [← hd, hF.perm.length_eq]; exact Nat.le_trans (cms_len H) hH
  have HA : Hid (N ≤ C ∧ C ≤ w.heap.size ∧ Fin H d.s d ∧ H.length ≤ 4096 ∧ LL.length = n ∧ d.C.length = n ∧ n ≤ 4096 ∧ d.I.length ≤ 4096 ∧ RowsLe LL M ∧ M ≤ 549755813888) := ⟨hN, hC, hF, hH, hn, hd, hn4, hI, hl, hM⟩
  have HR : Hid (RdD w N B H d) := hR
  have HO : Hid (OutE w C ob vs LL) := hO
  obtain ⟨qi, di, evi⟩ := (show OwnG encX 1 9 w B d.vI d.I from hR.dn.fi.own none).slcL
  have c4 : w.cell? ⟨d.s.hb, 4, none⟩ = some d.vI := hR.dn.blk.cell rfl
  rw [evi] at c4
  obtain ⟨m, hm⟩ : ∃ m, d.I.length = m := ⟨_, rfl⟩
  rw [hm] at c4
  have HEI : Hid (d.vI = .slice qi m di ∧ d.I.length = m) := ⟨by rw [← hm]; exact evi, hm⟩
  have hm4 : m ≤ 4096 := by rw [← hm]; exact hI
  rw [hm]
  clear hR hN hC hF hH hO hn hd hI hl hM evi hm
  go_enter Tryz.func73, Tryz.ntmps73
  go_wp2_with fail
  clear c4
  go_loopw [14] (fun ix wr => ∃ k : Nat, ix = .int .i64 (k : Int) ∧ k ≤ m ∧ Hid (EdF w wr C ∧ ∃ vs', OutE wr C ob vs' (ovM d.pl H d.I LL k))) (fun ix _ => m - (intOf ix).toNat)
  case atStart => exact ⟨0, by go_num, Nat.zero_le _, Frm.refl _ _, vs, HO.out⟩
  case round =>
    obtain ⟨k, rfl, hk, HI⟩ := hrel
    by_cases hk0 : k = m
    · subst hk0
      go_wp2_with fail
      go_end0
      exact ⟨rfl, HI.out⟩
    · have hk1 : k < m := by omega
      have HRr : Hid (RdD wr N B H d) := HR.out.on ((HI.out.1.below' HA.out.2.1).mono HA.out.1)
      have hki : k < d.I.length := by rw [HEI.out.2]; exact hk1
      obtain ⟨-, b, o, rfl, x0⟩ := HRr.out.dn.cellI HEI.out.1 k hki
      obtain ⟨x, hx⟩ : ∃ x, d.I[k] = x := ⟨_, rfl⟩
      rw [hx] at x0
      have HX : Hid (d.I.getD k ⟨#[]⟩ = x) := by
        show _ = _
        rw [← hx]
        simp [List.getD_eq_getElem?_getD, hki]
      have a3 : wr.cell? ⟨d.s.hb, 3, none⟩ = some (.map (some d.s.mV)) := HRr.out.dn.blk.cell rfl
      have hlk : (Instr.lookup 75 (.map (some d.s.mV)) (.string x) false).run Tryz.prog wr = .ok (getG nilS d.s.EV x) wr := HRr.out.dn.mv.look keyS Tryz.underlying75 zeroTs x
      have hvx : vrs H x ≠ [] := (HA.out.2.2.1.mem x).1 (by rw [← hx]; exact List.getElem_mem hki)
      obtain ⟨b0, o0, l0, d0, ev, hl0, -⟩ := HRr.out.dn.cellV x hvx
      have HEV : Hid (getG nilS d.s.EV x = .slice (some ⟨b0, o0, none⟩) l0 d0) := ev
      obtain ⟨hvl, hvc, -⟩ := HRr.out.vcell ev
      have HVL : Hid ((vrs H x).length = l0 ∧ ∀ j (hj : j < (vrs H x).length) (wr2 : World), RdD wr2 N B H d → wr2.cell? ⟨b0, o0 + j, none⟩ = some (.pointer (some ⟨d.s.pt (vrs H x)[j], 0, none⟩))) := ⟨hvl, fun j hj wr2 h2 => by
        obtain ⟨b1, o1, e1, h3⟩ := (h2.vcell ev).2.2.2 j hj
        cases e1
        exact h3⟩
      have hl4 : l0 ≤ 4096 := by
        have h1 := vrs_len H x
        have h2 := HA.out.2.2.2.1
        omega
      rw [ev] at hlk
      clear hx hvx ev hvl hki hk0
      have HK1 : Hid (k < m) := hk1
      obtain ⟨LLk, hLLk⟩ : ∃ LLk, ovM d.pl H d.I LL k = LLk := ⟨_, rfl⟩
      have HLk : Hid (ovM d.pl H d.I LL (k + 1) = ovI d.pl (vrs H x) k LLk (l0 - 1) ∧ LLk.length = n ∧ RowsLe LLk (M + k * 4096)) := by
        refine ⟨?_, ?_, ?_⟩
        · unfold ovM
          rw [HX.out, hLLk, HVL.out.1]
        · rw [← hLLk, ovM_len]
          exact HA.out.2.2.2.2.1
        · rw [← hLLk]
          exact ovM_le d.pl H d.I HA.out.2.2.2.2.2.2.2.2.1 HA.out.2.2.2.1 k
      have HI2 : Hid (EdF w wr C ∧ ∃ vs', OutE wr C ob vs' LLk) := ⟨HI.out.1, by rw [← hLLk]; exact HI.out.2⟩
      clear HI hLLk
      obtain ⟨l1, rfl⟩ : ∃ l1, l0 = l1 + 1 := ⟨l0 - 1, by omega⟩
      rename World => wo
      by_cases hc1 : d0 = 1
      · subst hc1
        obtain rfl : l1 = 0 := by omega
        go_wp2_with fail
        go_loopw [28] (fun ix wr => ix = .int .i64 0 ∧ Hid (EdF w wr C ∧ ∃ vs', OutE wr C ob vs' LLk)) (fun ix _ => 0)
        case atStart => exact ⟨rfl, HI2.out⟩
        case round =>
          obtain ⟨rfl, HJ⟩ := hrel
          go_wp2_with fail
          go_roundw
          case rel => exact ⟨k + 1, by go_num, HK1.out, HJ.out.1, by rw [HLk.out.1]; exact HJ.out.2⟩
          case measure => have h9 := HK1.out; simp [intOf]; omega
      · skip
        go_wp2_with fail
        go_loopw [28] (fun ix wr => ∃ j : Nat, ix = .int .i64 (j : Int) ∧ j ≤ l1 ∧ Hid (EdF w wr C ∧ ∃ vs', OutE wr C ob vs' (ovI d.pl (vrs H x) k LLk j))) (fun ix _ => l1 - (intOf ix).toNat)
        case atStart => exact ⟨0, by go_num, Nat.zero_le _, HI2.out⟩
        case round =>
          obtain ⟨j, rfl, hj, HJ⟩ := hrel
          by_cases hj0 : j = l1
          · subst hj0
            go_wp2_with fail
            go_roundw
            case rel => exact ⟨k + 1, by go_num, HK1.out, HJ.out.1, by rw [HLk.out.1]; exact HJ.out.2⟩
            case measure => have h9 := HK1.out; simp [intOf]; omega
          · have hj1 : j < l1 := by omega
            clear hj0
            have HR2 : Hid (RdD wr N B H d) := HR.out.on ((HJ.out.1.below' HA.out.2.1).mono HA.out.1)
            have hv1 : j < (vrs H x).length := by rw [HVL.out.1]; omega
            have hv2 : j + 1 < (vrs H x).length := by rw [HVL.out.1]; omega
            have g1 := HVL.out.2 j hv1 wr HR2.out
            have g2 := HVL.out.2 (j + 1) hv2 wr HR2.out
            rw [show o0 + (j + 1) = o0 + 1 + j by omega] at g2
            obtain ⟨t, ht⟩ : ∃ t, (vrs H x)[j] = t := ⟨_, rfl⟩
            obtain ⟨u, hu⟩ : ∃ u, (vrs H x)[j + 1] = u := ⟨_, rfl⟩
            rw [ht] at g1
            rw [hu] at g2
            obtain ⟨vs1, hO1⟩ := HJ.out.2
            have CL : Hid (Calls Tryz.prog 108 #[.slice (some ⟨ob, 0, none⟩) n n, .pointer (some ⟨d.s.pt t, 0, none⟩), .pointer (some ⟨d.s.pt u, 0, none⟩), .int .i64 1, .int .i64 (k : Int)] wr fun e w' => e = .returned (.tuple #[]) ∧ EdF w w' C ∧ ∃ vs', OutE w' C ob vs' (ovI d.pl (vrs H x) k LLk (j + 1))) := by
              have e1 : ovI d.pl (vrs H x) k LLk (j + 1) = leadM (ovI d.pl (vrs H x) k LLk j) (d.pl t) (d.pl u) 1 k := by
                rw [← ht, ← hu]
                show leadM _ (d.pl ((vrs H x).getD j 0)) (d.pl ((vrs H x).getD (j + 1) 0)) 1 k = _
                simp only [List.getD_eq_getElem?_getD, List.getElem?_eq_getElem hv1, List.getElem?_eq_getElem hv2, Option.getD_some]
              have hle : RowsLe (ovI d.pl (vrs H x) k LLk j) 1099511627776 := (ovI_le d.pl (vrs H x) k HLk.out.2.2 j).mono (by have h1 := HA.out.2.2.2.2.2.2.2.2.2; have h2 := HK1.out; omega)
              rw [e1]
              refine (leadD_any HR2.out HA.out.2.2.1 hO1 (by rw [ovI_len]; exact HLk.out.2.1) (Nat.le_trans HA.out.2.1 HJ.out.1.size) HA.out.2.2.2.2.2.1 HA.out.2.2.2.2.2.2.1 (vrs_cms (x := x) (by rw [← ht]; exact List.getElem_mem hv1)) (vrs_cms (x := x) (by rw [← hu]; exact List.getElem_mem hv2)) 1 k hle).mono ?_
              rintro e w2 ⟨he, h1, h2⟩
              exact ⟨he, HJ.out.1.trans' h1, h2⟩
            clear ht hu hv1 hv2 hO1
            go_wp2_with (first | (go_at_call 108; refine CL.out.mono ?_; rintro e w2 ⟨rfl, hw2⟩; have HW2 : Hid (EdF w w2 C ∧ ∃ vs', OutE w2 C ob vs' (ovI d.pl (vrs H x) k LLk (j + 1))) := hw2; clear hw2))
            go_roundw
            case rel => exact ⟨j + 1, by go_num, hj1, HW2.out⟩
            case measure => simp [intOf]; omega

end Go.Proofs.YtncfejndmlcidaaGreat

namespace Go.Proofs.YtncfejndmlcidaaGreat
set_option maxRecDepth 100000

theorem ris_nodup {L : List ByteArray} (h : RisS L) : L.Nodup := h.imp (fun {a b} hab e => by rw [e, ltB_irrefl] at hab; cases hab)
theorem sub_of_len {α : Type} [DecidableEq α] {S T : List α} (hS : S.Nodup) (hsub : ∀ x ∈ S, x ∈ T) (hl : T.length ≤ S.length) : ∀ x ∈ T, x ∈ S := fun x hx => Decidable.byContradiction (fun hn => by
  have h1 : (x :: S).Nodup := List.nodup_cons.2 ⟨hn, hS⟩
  have h2 := List.Nodup.length_le_of_subset h1 (fun y hy => by
    rcases List.mem_cons.1 hy with rfl | hy
    · exact hx
    · exact hsub y hy)
  rw [List.length_cons] at h2
  omega)
theorem scB_scD1 {H : List Ac} (hH : ∀ b ∈ H, 1 ≤ b.tx) {a : Ac} (ht : 1 ≤ a.tx) (k : Nat) : scB H a k = scD1 H a k := by
  unfold scB scD1
  congr 1
  funext i
  rw [thD_eq hH ht]
  cases (i == 0 || ltB (a.sn.getD (i - 1) ⟨⟨#[]⟩, 0, 0⟩).it (a.sn.getD i ⟨⟨#[]⟩, 0, 0⟩).it) <;> cases inR a (a.sn.getD i ⟨⟨#[]⟩, 0, 0⟩).it <;> rfl
theorem ris_of_next (L : List ByteArray) (h : ∀ i (h : i + 1 < L.length), ltB (L[i]'(by omega)) L[i + 1] = true) : RisS L := by
  unfold RisS
  rw [List.pairwise_iff_getElem]
  intro i j hi hj hij
  induction j with
  | zero => omega
  | succ j ih =>
    by_cases e : i = j
    · subst e; exact h i hj
    · exact ltB_trans (ih (by omega) (by omega)) (h j hj)
/-- what a scan that may be tells -/
theorem scD1_of {H : List Ac} {a : Ac} (h : scD1 H a a.sn.length = true) : RisS (a.sn.map (·.it)) ∧ ∀ s ∈ a.sn, inR a s.it = true ∧ thD H a.tx s.fr s.nt s.it = true := by
  unfold scD1 at h
  rw [List.all_eq_true] at h
  have hg : ∀ i (h : i < a.sn.length), a.sn.getD i ⟨⟨#[]⟩, 0, 0⟩ = a.sn[i] := fun i h => by simp [List.getD, h]
  have h1 : ∀ i (hi : i < a.sn.length), (inR a a.sn[i].it = true ∧ (i == 0 || ltB (a.sn.getD (i - 1) ⟨⟨#[]⟩, 0, 0⟩).it a.sn[i].it) = true) ∧ thD H a.tx a.sn[i].fr a.sn[i].nt a.sn[i].it = true := fun i hi => by
    have h2 := h i (List.mem_range.2 hi)
    rw [hg i hi] at h2
    simpa only [Bool.and_eq_true] using h2
  refine ⟨ris_of_next _ (fun i hi => ?_), fun s hs => ?_⟩
  · rw [List.length_map] at hi
    have h2 := (h1 (i + 1) hi).1.2
    rw [show i + 1 - 1 = i by omega, hg i (by omega)] at h2
    simpa using h2
  · obtain ⟨i, hi, rfl⟩ := List.getElem_of_mem hs
    exact ⟨(h1 i hi).1.1, (h1 i hi).2⟩
theorem wr_iff (H : List Ac) (t : Int) (x : ByteArray) : 0 < wr H t x ↔ ∃ b ∈ H, b.kd = 4 ∧ b.tx = t ∧ b.it = x := by
  unfold wr isW
  rw [List.countP_pos_iff]
  simp only [Bool.and_eq_true, beq_iff_eq, decide_eq_true_eq, and_assoc]
theorem scan_eq {H : List Ac} (hH : ∀ b ∈ H, 1 ≤ b.tx) {a : Ac} (ht : 1 ≤ a.tx) : (scB H a a.sn.length && decide (((its H a.tx).filter (inR a)).length ≤ a.sn.countP (fun s => s.fr == a.tx))) = scD H a := by
  unfold scD
  rw [scB_scD1 hH ht]
  cases h0 : scD1 H a a.sn.length
  · rfl
  · rw [Bool.true_and, Bool.true_and]
    obtain ⟨hr, hs⟩ := scD1_of h0
    obtain ⟨S, hS⟩ : ∃ S, (a.sn.filter (fun s => s.fr == a.tx)).map (·.it) = S := ⟨_, rfl⟩
    obtain ⟨T, hT⟩ : ∃ T, (its H a.tx).filter (inR a) = T := ⟨_, rfl⟩
    have hl : a.sn.countP (fun s => s.fr == a.tx) = S.length := by rw [← hS, List.length_map, List.countP_eq_length_filter]
    have hth : ∀ s ∈ a.sn, (s.fr = a.tx ↔ 0 < wr H a.tx s.it) := fun s hm => by
      have h1 := (hs s hm).2
      rw [thD_eq hH ht] at h1
      unfold thB at h1
      dsimp only at h1
      by_cases h2 : 0 < wr H a.tx s.it
      · rw [if_pos h2] at h1
        simp only [Bool.and_eq_true, beq_iff_eq] at h1
        exact ⟨fun _ => h2, fun _ => h1.1⟩
      · rw [if_neg h2] at h1
        refine ⟨fun e => ?_, fun h => absurd h h2⟩
        rw [if_neg (by omega), e] at h1
        simp only [Bool.and_eq_true, decide_eq_true_eq] at h1
        omega
    have hSs : ∀ x ∈ S, x ∈ T := fun x hx => by
      rw [← hS] at hx
      obtain ⟨s, hm, rfl⟩ := List.mem_map.1 hx
      obtain ⟨hm, hf⟩ := List.mem_filter.1 hm
      rw [← hT]
      exact List.mem_filter.2 ⟨(its_mem a.tx s.it H).2 ((hth s hm).1 (by simpa using hf)), (hs s hm).1⟩
    have hSn : S.Nodup := by
      rw [← hS]
      exact ris_nodup (List.Pairwise.sublist (List.Sublist.map _ List.filter_sublist) hr)
    have hTn : T.Nodup := by
      rw [← hT]
      exact ris_nodup (List.Pairwise.sublist List.filter_sublist (its_ris a.tx H))
    have hD : scD2 H a = true ↔ ∀ x ∈ T, x ∈ S := by
      unfold scD2
      rw [List.all_eq_true]
      constructor
      · intro h x hx
        rw [← hT] at hx
        obtain ⟨h1, h2⟩ := List.mem_filter.1 hx
        have h3 := (its_mem a.tx x H).1 h1
        obtain ⟨b, hb, e1, e2, e3⟩ := (wr_iff H a.tx x).1 h3
        have h4 := h b hb
        rw [e1, e2, e3, h2] at h4
        simp only [beq_self_eq_true, Bool.and_self, Bool.not_true, Bool.false_or] at h4
        obtain ⟨s, hm, e⟩ := List.any_eq_true.1 h4
        have e5 : s.it = x := of_decide_eq_true e
        rw [← hS]
        refine List.mem_map.2 ⟨s, List.mem_filter.2 ⟨hm, ?_⟩, e5⟩
        have := (hth s hm).2 (by rw [e5]; exact h3)
        simpa using this
      · intro h b hb
        cases hc : (b.kd == 4 && b.tx == a.tx && inR a b.it)
        · rfl
        · rw [Bool.not_true, Bool.false_or]
          simp only [Bool.and_eq_true, beq_iff_eq] at hc
          have hx : b.it ∈ T := by
            rw [← hT]
            exact List.mem_filter.2 ⟨(its_mem a.tx b.it H).2 ((wr_iff H a.tx b.it).2 ⟨b, hb, hc.1.1, hc.1.2, rfl⟩), hc.2⟩
          have h1 := h _ hx
          rw [← hS] at h1
          obtain ⟨s, hm, e⟩ := List.mem_map.1 h1
          exact List.any_eq_true.2 ⟨s, (List.mem_filter.1 hm).1, by simpa using e⟩
    rw [Bool.eq_iff_iff, hD, decide_eq_true_eq, hT, hl]
    constructor
    · intro h
      exact sub_of_len hSn hSs h
    · intro h
      exact List.Nodup.length_le_of_subset hTn h
/-- may an action be: the document's answer is the program's -/
theorem fineD_eq {L : List Ac} {k : Nat} (hk : k ≤ L.length) (h : okH L k) (a : Ac) : fineD (L.take k) a = okA (L.take k) a := by
  have hH := okH_tx h
  have hS := all_stamps hk h a.st
  unfold fineD okA ahD
  cases hf : fmB a
  · rfl
  · have ht : 1 ≤ a.tx := by
      unfold fmB at hf
      simp only [Bool.and_eq_true, decide_eq_true_eq] at hf
      exact hf.1.1.1.1.2
    rw [all_and, all_ends, Bool.true_and, Bool.true_and, scan_eq hH ht]
    by_cases h2 : a.kd = 2
    · have e : (List.take k L).all (fun b => !(a.kd == 5 && b.kd == 5 && decide (a.st ≤ b.st))) = true := by simp [h2]
      rw [e, if_pos h2, thD_eq hH ht, h2]
      simp
    · rw [if_neg h2]
      have q2 : (a.kd == 2) = false := by simpa using h2
      rw [q2]
      by_cases h3 : a.kd = 3
      · have e : (List.take k L).all (fun b => !(a.kd == 5 && b.kd == 5 && decide (a.st ≤ b.st))) = true := by simp [h3]
        rw [e, if_pos h3, h3]
        simp
      · rw [if_neg h3]
        have q3 : (a.kd == 3) = false := by simpa using h3
        rw [q3]
        by_cases h5 : a.kd = 5
        · rw [if_pos h5, h5]
          have e : (List.take k L).all (fun b => !((5 : Int) == 5 && b.kd == 5 && decide (a.st ≤ b.st))) = (List.take k L).all (fun b => !(b.kd == 5 && decide (a.st ≤ b.st))) := by simp
          rw [e, ← hS]
          cases en (L.take k) a.tx <;> cases kn (L.take k) a.tx <;> simp
        · rw [if_neg h5]
          have q5 : (a.kd == 5) = false := by simpa using h5
          rw [q5]
          simp

end Go.Proofs.YtncfejndmlcidaaGreat
