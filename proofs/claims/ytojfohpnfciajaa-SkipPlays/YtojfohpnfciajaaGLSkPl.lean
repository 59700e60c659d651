/- Layer 12: the law SkipPlays. -/
import Derived.Test.YtojfohpnfciajaaGWPl2
import Derived.Test.YtojfohpnfciajaaGLSkLe
import Derived.Test.YtojfohpnfciajaaGWPl7
import Derived.Test.YtojfohpnfciajaaGWRefM
namespace Go.Proofs.Ytojfohpnfciajaa
open Go.RowKit
set_option maxRecDepth 100000

/-- what calls make -/
def playM (L : List OpR) : List En := L.foldl stepP []
theorem playM_take (L : List OpR) {i : Nat} (hi : i < L.length) : playM (L.take (i + 1)) = stepP (playM (L.take i)) L[i] := by
  unfold playM
  rw [List.take_succ_eq_append_getElem hi, List.foldl_append]
  rfl
theorem playM_len (L : List OpR) : ∀ i, i ≤ L.length → (playM (L.take i)).length ≤ i
  | 0, _ => by
    unfold playM
    simp
  | i + 1, h => by
    rw [playM_take L (by omega)]
    exact Nat.le_trans (stepP_len _ _) (Nat.succ_le_succ (playM_len L i (by omega)))

set_option maxHeartbeats 16000000 in
theorem lawPlays (L : List OpR) (K : List LkR) (q q' : Option Addr) (c c' : Nat) (w : World) (hR : RdO w w.heap.size q L) (hR' : RdK w w.heap.size q' K) (hlen : L.length ≤ 3518437208883) (hlen' : K.length ≤ 1954687338269) (hs : ∀ i (hi : i < L.length), L[i].k.size ≤ 140737488351232) :
    Calls Try.prog 3 #[.slice q L.length c, .slice q' K.length c'] w fun e w' => e = .returned (.bool true) ∧ Below w.heap.size w w' := by
  have C1 : Hid (Calls _ _ _ _ _) := new_L w
  have HR : Hid (RdO w w.heap.size q L) := hR
  have HR' : Hid (RdK w w.heap.size q' K) := hR'
  have HS : Hid (∀ i (hi : i < L.length), L[i].k.size ≤ 140737488351232) := hs
  have HLn : Hid (L.length ≤ 3518437208883) := hlen
  have HKn : Hid (K.length ≤ 1954687338269) := hlen'
  clear hR hR' hs hlen hlen'
  obtain ⟨n, hn⟩ : ∃ n, L.length = n := ⟨_, rfl⟩
  obtain ⟨n', hn'⟩ : ∃ n', K.length = n' := ⟨_, rfl⟩
  have HN : Hid (L.length = n) := hn
  have HN' : Hid (K.length = n') := hn'
  rw [hn] at HLn ⊢
  rw [hn'] at HKn ⊢
  clear hn hn'
  go_enter Try.func3, Try.ntmps3
  go_wp2_with fail
  refine C1.out.mono ?_
  rintro e w1 ⟨lb, rfl, q1⟩
  have HI0 : Hid (SkL w w1 lb (playM (L.take 0)) ∧ ∃ C, OwnE w1 C (.slice none 0 0) (playM (L.take 0))) := ⟨q1, ⟨0, World.ownsRow_nil _ _ _ _⟩⟩
  clear C1 q1
  go_wp2_with fail
  go_loopw [6, 7, 8] (fun sm so si wq => ∃ i : Nat, i ≤ n ∧ si = .int .i64 (i : Int) ∧ so = .bool true ∧ Hid (SkL w wq lb (playM (L.take i)) ∧ ∃ C, OwnE wq C sm (playM (L.take i)))) (fun _ _ si _ => ((n : Int) - intOf si).toNat)
  case atStart => exact ⟨0, by omega, rfl, rfl, HI0⟩
  case round =>
    clear HI0
    obtain ⟨i, hi, rfl, rfl, HI⟩ := hrel
    have HEl : Hid ((playM (L.take i)).length ≤ i) := playM_len L i (by rw [HN.out]; exact hi)
    rcases Nat.lt_or_eq_of_le hi with hlt | heq
    · have g1 : decide ((i : Int) < (n : Int)) = true := by simp; omega
      have hltL : i < L.length := by rw [HN.out]; exact hlt
      obtain ⟨b, o, rfl, hb, c0, c1, c2, c3⟩ := (HR.out.keep HI.out.1.bel) i hltL
      rw [Nat.add_zero] at c0
      have HT : Hid (playM (L.take (i + 1)) = stepP (playM (L.take i)) L[i]) := playM_take L hltL
      have HE2 : Hid ((playM (L.take (i + 1))).length ≤ i + 1) := playM_len L (i + 1) (by omega)
      have HSi : Hid (L[i].k.size ≤ 140737488351232) := HS.out i hltL
      have HE4 : Hid ((playM (L.take i)).length < 4000000000000 ∧ (playM (L.take (i + 1))).length < 4000000000000) := by
        have h1 := HEl.out
        have h2 := HLn.out
        have h3 := HE2.out
        exact ⟨by omega, by omega⟩
      obtain ⟨C, hO⟩ := HI.out.2
      have C2 : Hid (Calls _ _ _ _ _) := play_any lb C (playM (L.take i)) u6 L[i] w wr HI.out.1 hO HSi.out HE4.out.1
      rw [← HT.out] at C2
      generalize L[i] = a at *
      clear hO hltL hb
      go_wp2_with fail
      refine C2.out.mono ?_
      rintro e w2 ⟨v2, rfl, q2, ⟨C', ho2⟩, hb2⟩
      have HI2 : Hid (SkL w w2 lb (playM (L.take (i + 1))) ∧ OwnE w2 C' v2 (playM (L.take (i + 1)))) := ⟨q2, ho2⟩
      obtain ⟨p2, c2', hv2, -⟩ := owns_len ho2
      subst hv2
      have C3 : Hid (Calls _ _ _ _ _) := len_L lb _ w w2 HI2.out.1
      clear C2 q2 ho2 hb2 HI HT HSi HEl HE2 c0 c1 c2 c3
      obtain ⟨E, hE⟩ : ∃ E, playM (L.take (i + 1)) = E := ⟨_, rfl⟩
      have HEq : Hid (playM (L.take (i + 1)) = E) := hE
      rw [hE] at HE4 HI2 C3 ⊢
      clear hE
      obtain ⟨m, hm⟩ : ∃ m, E.length = m := ⟨_, rfl⟩
      have HEm : Hid (E.length = m) := hm
      rw [hm] at C3 HI2 ⊢
      clear hm
      go_wp2_with fail
      refine C3.out.mono ?_
      rintro e w9 ⟨rfl, hw9⟩
      rw [hw9]
      clear hw9 C3
      by_cases hx : i < n'
      · have hltK : i < K.length := by rw [HN'.out]; exact hx
        have hx' : (i : Int) < (n' : Int) := by omega
        obtain ⟨b', o', rfl, hb', d0, d1, d2, d3, d4, d5⟩ := (HR'.out.keep HI2.out.1.bel) i hltK
        rw [Nat.add_zero] at d0
        have C4 : Hid (Calls _ _ _ _ _) := asked_any lb C' E (.slice p2 m c2') K[i] w w2 HI2.out.1 HI2.out.2 HE4.out.2
        generalize K[i] = ak at *
        clear hx hb' hltK
        have hin : i < n' := by omega
        go_wp2_with fail
        refine C4.out.mono ?_
        rintro e w3 ⟨rfl, hb3⟩
        have HM : Hid (SkL w w3 lb E ∧ ∃ C, OwnE w3 C (.slice p2 m c2') E) := ⟨HI2.out.1.on hb3, ⟨C', owns_kept HI2.out.2 hb3⟩⟩
        clear C4 hb3 HI2 d0 d1 d2 d3 d4 d5
        have hl9 := HLn.out
        go_wp2_with fail
        go_roundw
        case rel => exact ⟨i + 1, by omega, by go_num, rfl, by rw [HEq.out]; exact HM⟩
        case measure => simp [intOf]; omega
      · have hx' : (n' : Int) ≤ (i : Int) := by omega
        have HM : Hid (SkL w w2 lb E ∧ ∃ C, OwnE w2 C (.slice p2 m c2') E) := ⟨HI2.out.1, ⟨C', HI2.out.2⟩⟩
        clear HI2
        have hl9 := HLn.out
        go_wp2_with fail
        go_roundw
        case rel => exact ⟨i + 1, by omega, by go_num, rfl, by rw [HEq.out]; exact HM⟩
        case measure => simp [intOf]; omega
    · have g1 : decide ((i : Int) < (n : Int)) = false := by simp; omega
      obtain ⟨C, hO⟩ := HI.out.2
      have HI2 : Hid (SkL w wr lb (playM (L.take i)) ∧ OwnE wr C u6 (playM (L.take i))) := ⟨HI.out.1, hO⟩
      have HE4 : Hid ((playM (L.take i)).length < 4000000000000) := by
        have h1 := HEl.out
        have h2 := HLn.out
        have : (playM (L.take i)).length < 4000000000000 := by omega
        exact this
      obtain ⟨p2, c2', hv2, -⟩ := owns_len hO
      subst hv2
      clear HI hO HEl
      generalize playM (L.take i) = E at *
      obtain ⟨m, hm⟩ : ∃ m, E.length = m := ⟨_, rfl⟩
      have HEm : Hid (E.length = m) := hm
      rw [hm] at HI2 ⊢
      clear hm
      have C2 : Hid (Calls _ _ _ _ _) := levels_L lb E w wr HI2.out.1 HE4.out
      go_wp2_with fail
      refine C2.out.mono ?_
      rintro e w2 ⟨v4, rfl, ho4, hb4⟩
      have HI4 : Hid (SkL w w2 lb E ∧ OwnE w2 C (.slice p2 m c2') E ∧ OwnKs w2 wr.heap.size v4 (lvsE E (topE E 16))) := ⟨HI2.out.1.on hb4, owns_kept HI2.out.2 hb4, ho4⟩
      have C3 : Hid (Calls _ _ _ _ _) := rlevels_any E C (.slice p2 m c2') w2 HI4.out.2.1 HE4.out
      clear C2 ho4 hb4 HI2
      go_wp2_with fail
      refine C3.out.mono ?_
      rintro e w3 ⟨v5, rfl, ho5, hb5⟩
      obtain ⟨pa, ca, hva, hRa⟩ := own_rdk (HI4.out.2.2.kept hb5)
      obtain ⟨pb, cb, hvb, hRb⟩ := own_rdk ho5
      have HB3 : Hid (Below w.heap.size w w3) := HI4.out.1.bel.trans (hb5.mono HI4.out.1.bel.size)
      have C4 : Hid (Calls _ _ _ _ _) := rsamelv_any (lvsE E (topE E 16)) pa pb ca cb w3 hRa hRb (by rw [lvsE_len]; have := topE_le E 16; omega) (fun n hn => by
        rw [lvsE_at]
        have h1 : (keyE n E).length ≤ E.length := by
          unfold keyE
          rw [List.length_map]
          exact List.length_filter_le _ _
        exact Nat.lt_of_le_of_lt h1 HE4.out)
      rw [← hva, ← hvb] at C4
      clear C3 ho5 hb5 HI4 hRa hRb hva hvb
      go_wp2_with fail
      refine C4.out.mono ?_
      rintro e w4 ⟨rfl, hb4⟩
      have HB4 : Hid (Below w.heap.size w w4) := HB3.out.trans (hb4.mono HB3.out.size)
      have C5 : Hid (Calls _ _ _ _ _) := awake_any w4
      clear C4 hb4 HB3
      go_wp2_with fail
      refine C5.out.mono ?_
      rintro e w9 ⟨rfl, hb9⟩
      have HB9 : Hid (Below w.heap.size w w9) := HB4.out.trans (hb9.mono HB4.out.size)
      clear hb9 C5
      go_wp2_with fail
      go_ret
      exact ⟨rfl, HB9.out⟩

end Go.Proofs.Ytojfohpnfciajaa
