/- stamps: a Log keeps just the document's commits. The law of ValidNotes. -/
import Derived.Test.YtcknhjabdjbjiaaGreatGWTr6
import Derived.Test.YtcknhjabdjbjiaaGreatGWTr5
namespace Go.Proofs.YtcknhjabdjbjiaaGreat
open Go.RowKit
set_option maxRecDepth 100000

theorem BkU.cell {w : World} {g : Nat} {L : List Nat} (h : BkU w g L) (i : Nat) (hi : i < L.length) : w.cell? ⟨g, i, none⟩ = some (.int .u64 (L[i] : Nat)) := by
  obtain ⟨cs, h1, _, h3⟩ := h
  exact h1.cell (h3 i hi)
set_option maxHeartbeats 4000000 in
theorem stampsE_any (lb : Nat) (vC : Value) (mb : Nat) (E : List (Pt × Value)) (L M : List Cm) (B : Nat) (vm : Value) (w : World) (hX : LogX w lb vC mb E L) (hD : DocC w B vm M) (hs : SamC L M) :
    Calls Tryz.prog 10 #[ptr1 lb, vm] w fun e w' => e = .returned (.bool true) ∧ Below w.heap.size w w' := by
  have CS : Hid (Calls _ _ _ _ _) := stampsL_any lb vC mb E L w hX
  obtain ⟨pm, cm, rfl, hrow⟩ := hD.drop
  obtain ⟨n, hn⟩ : ∃ n, M.length = n := ⟨_, rfl⟩
  rw [hs.len, hn] at CS
  rw [hn]
  have hn4 : n ≤ 4096 := by have := hX.inv.len; have := hs.len; omega
  have HRow : Hid (RowD w pm M) := hrow
  have HLn : Hid (M.length = n ∧ L.length = n) := ⟨hn, by rw [hs.len]; exact hn⟩
  have HSm : Hid (SamC L M) := hs
  clear hX hD hs hrow hn
  go_enter Tryz.func10, Tryz.ntmps10
  go_wp2_with fail
  refine CS.out.mono ?_
  rintro e w1 ⟨rfl, hU, hb1⟩
  clear CS
  have HU : Hid (BkU w1 w.heap.size (L.map (·.s))) := hU
  have HB1 : Hid (Below w.heap.size w w1) := hb1
  have HRw : Hid (RowD w1 pm M) := HRow.out.on hb1
  clear hU hb1 HRow
  go_wp2_with fail
  go_loopw [6] (fun i wr => ∃ j : Nat, j ≤ n ∧ i = .int .i64 (j : Int) ∧ Hid (Below w1.heap.size w1 wr)) (fun i _ => n - (intOf i).toNat)
  case atStart => exact ⟨0, Nat.zero_le _, by go_num, Below.refl _ _⟩
  case round =>
    obtain ⟨j, hj, rfl, HB⟩ := hrel
    by_cases hj0 : j = n
    · subst hj0
      go_wp2_with fail
      go_ret
      exact ⟨rfl, HB1.out.trans (HB.out.mono HB1.out.size)⟩
    · have hj1 : j < n := by omega
      have hjM : j < M.length := by have := HLn.out.1; omega
      have hjL : j < L.length := by have := HLn.out.2; omega
      obtain ⟨b, o, rfl, hbl, d0, -⟩ := (HRw.out.on HB.out) j hjM
      have y0 := (HU.out.on HB.out).cell j (by simpa using hjL)
      have es : (L.map (·.s))[j]'(by simpa using hjL) = M[j].s := by
        rw [List.getElem_map]
        exact (HSm.out.at' j hjL hjM).1
      rw [es] at y0
      generalize M[j].s = s at *
      clear hjM hjL hbl es
      go_wp2_with fail
      go_quiet (fail)
      have HBn : Hid (Below w1.heap.size w1 (wr.drewN 1)) := HB.out.trans ((drew_below wr 1).mono HB.out.size)
      go_wp2_with fail
      go_roundw
      case rel => exact ⟨j + 1, hj1, by go_num, by first | exact HBn | exact HB.out.trans ((drew_below wr _).mono HB.out.size)⟩
      case measure => simp [intOf]; omega

end Go.Proofs.YtcknhjabdjbjiaaGreat

namespace Go.Proofs.YtcknhjabdjbjiaaGreat
open Go.RowKit
set_option maxRecDepth 100000

set_option maxHeartbeats 8000000 in
theorem lawVNotes (v : Value) (K : List Lc) (fl : Nat) (w : World) (hK : RdLc w v K) :
    Calls Tryz.prog 3 #[v, .int .u64 (fl : Nat)] w fun e w' => e = .returned (.bool true) ∧ Below w.heap.size w w' := by
  have CN : Hid (Calls _ _ _ _ _) := noted_any2 v K w hK
  clear hK
  go_enter Tryz.func3, Tryz.ntmps3
  go_wp2_with fail
  refine CN.out.mono ?_
  rintro e w2 ⟨lb, mb, vC, E, L, vm, M, rfl, hP, -, hN⟩
  clear CN
  have HP2 : Hid (NtP w w2 lb mb vC E L vm M) := hP
  have HN : Hid (∀ c ∈ L, c.W.Nodup) := hN
  clear hP hN
  have CS : Hid (Calls _ _ _ _ _) := stampsE_any lb vC mb _ L M _ vm w2 HP2.out.log.x (HP2.out.doc.doc HP2.out.bel) HP2.out.sam
  go_wp2_with fail
  refine CS.out.mono ?_
  rintro e w3 ⟨rfl, hb3⟩
  have HP3 : Hid (NtP w w3 lb mb vC E L vm M) := HP2.out.on hb3
  clear CS hb3 HP2
  have CT : Hid (Calls _ _ _ _ _) := trim_any w.heap.size lb fl vC mb E L w3 HP3.out.log HN.out
  go_wp2_with fail
  refine CT.out.mono ?_
  rintro e w4 ⟨r, vC4, E4, rfl, hr, hX4, hF4⟩
  clear CT
  have hB4 : Below w.heap.size w w4 := HP3.out.bel.trans (hF4.lowB HP3.out.bel.size)
  have HD4 : Hid (DocC w4 w.heap.size vm M) := DocB.doc (w := w) ⟨HP3.out.doc.own.fb hF4, HP3.out.doc.ft⟩ hB4
  have HX4 : Hid (LogX w4 lb vC4 mb E4 (L.drop r)) := hX4
  have HR : Hid (IsBeh M fl r) := IsBeh.sam HP3.out.sam hr
  have HSa : Hid (SamC L M ∧ InvC M) := ⟨HP3.out.sam, HP3.out.inv⟩
  have HB4 : Hid (Below w.heap.size w w4) := hB4
  clear hB4 hr hX4 hF4 HP3 HN
  have CR : Hid (Calls _ _ _ _ _) := rtrim_any w.heap.size fl r vm M w4 HD4.out HSa.out.2 HR.out
  go_wp2_with fail
  refine CR.out.mono ?_
  rintro e w5 ⟨v5, rfl, hD5, hb5⟩
  clear CR
  have HD5 : Hid (DocC w5 w4.heap.size v5 (M.drop r)) := hD5
  have HX5 : Hid (LogX w5 lb vC4 mb E4 (L.drop r)) := HX4.out.on hb5
  have HB5 : Hid (Below w.heap.size w w5) := HB4.out.trans (hb5.mono HB4.out.size)
  clear hD5 hb5 HD4 HX4 HB4
  have CS : Hid (Calls _ _ _ _ _) := stampsE_any lb vC4 mb _ (L.drop r) (M.drop r) _ v5 w5 HX5.out HD5.out (HSa.out.1.drop r)
  go_wp2_with fail
  refine CS.out.mono ?_
  rintro e w6 ⟨rfl, hb6⟩
  have HB6 : Hid (Below w.heap.size w w6) := HB5.out.trans (hb6.mono HB5.out.size)
  clear CS hb6
  have CW : Hid (Calls _ _ _ _ _) := awake18_any w6
  go_wp2_with fail
  refine CW.out.mono ?_
  rintro e w7 ⟨rfl, hb⟩
  have HE : Hid (Below w.heap.size w w7) := HB6.out.trans (hb.mono HB6.out.size)
  clear CW hb
  go_wp2_with fail
  go_ret
  exact ⟨rfl, HE.out⟩

end Go.Proofs.YtcknhjabdjbjiaaGreat
