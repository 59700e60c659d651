/- slices.Grow and slices.Concat of readers. -/
import Derived.Test.YtbmgkoifidhfjaaWSnp3
namespace Go.Proofs.Ytbmgkoifidhfjaa
open Go.RowKit
set_option maxRecDepth 100000

theorem zsize (n : Nat) : (Builtin.zeroCells #[Value.int .i64 0, .int .u64 0] n).size = n * 2 := by rw [size_zeroCells]; rfl
set_option maxHeartbeats 1000000 in
theorem grow_any (n : Nat) (w : World) (hn : n ≤ 1000) :
    Calls Try.prog 86 #[.slice none 0 0, .int .i64 (n : Nat)] w fun e w' => (∃ v, e = .returned v ∧ OwR w' w.heap.size v []) ∧ Below w.heap.size w w' := by
  by_cases h0 : n = 0
  · subst h0
    go_enter Try.func86, Try.ntmps86
    go_wp2_with fail
    go_ret
    exact ⟨⟨_, rfl, OwR.nil _ _⟩, Below.refl _ _⟩
  · have h1 : 0 < n := by omega
    obtain ⟨i, hi, hz0, hz1, hz2⟩ := info_parts info_rd
    have hr := fun ty => Lib.run_append_nil_zeros (P := Try.prog) w 27 3 ty 49 i _ .i64 .i64 Try.underlying27 Try.underlying3 hi hz0 n h1 (by rw [hz1]; decide) (by omega) (by rw [hz2]; omega)
    have hk : n ≤ grownCap w n 0 49 := grownCap_ge _ _ _ _
    have hk2 : grownCap w n 0 49 ≤ maxLen := grownCap_le_maxLen _ _ _ _ (by unfold maxLen; omega)
    clear h0 hi hz0 hz1 hz2
    generalize grownCap w n 0 49 = cp at *
    go_enter Try.func86, Try.ntmps86
    go_wp2_with (at_builtin; refine Lib.wpList_append_run _ rfl _ _ _ _ rfl _ _ rfl rfl _ _ (hr _) ?_)
    go_ret
    have hb : Below w.heap.size w (w.alloc (.cells (Builtin.zeroCells #[.int .i64 0, .int .u64 0] n ++ Builtin.zeroCells #[.int .i64 0, .int .u64 0] (cp - n)) 49)) := (Below.refl _ _).alloc (Nat.le_refl _) _
    refine ⟨⟨_, rfl, ⟨rfl, .inr ⟨w.heap.size, cp, _, rfl, Nat.le_refl _, heap_alloc_new w _, Nat.zero_le _, hk2, ?_, rfl⟩⟩⟩, ⟨hb.os, hb.tape, hb.output, hb.size, hb.block⟩⟩
    rw [Array.size_append, zsize, zsize]
    omega

/-- a slice of readers, wherever it lies -/
def SlR (w : World) (v : Value) (R : List Rd) : Prop := ∃ p c, v = .slice p R.length c ∧ (p = none → R = [] ∧ c = 0) ∧ (∀ a, p = some a → ∃ b o, a = ⟨b, o, none⟩) ∧ RdR w p R
theorem SlR.on {w w' : World} {v : Value} {R : List Rd} (h : SlR w v R) (hb : Below w.heap.size w w') : SlR w' v R := by
  obtain ⟨p, c, e, h1, h2, h3⟩ := h
  exact ⟨p, c, e, h1, h2, h3.on hb⟩
theorem flat_take (Ls : List (List Rd)) (j : Nat) (hj : j < Ls.length) : (Ls.take (j + 1)).flatten = (Ls.take j).flatten ++ Ls[j] := by
  rw [List.take_succ_eq_append_getElem hj, List.flatten_append]
  simp
theorem flat_len (Ls : List (List Rd)) (h : ∀ L ∈ Ls, L.length ≤ 256) : Ls.flatten.length ≤ Ls.length * 256 := by
  induction Ls with
  | nil => simp
  | cons L t ih =>
    have h1 := ih (fun M hM => h M (List.mem_cons_of_mem _ hM))
    have h2 := h L List.mem_cons_self
    simp
    simp at h1
    omega
theorem flat_tlen (Ls : List (List Rd)) (h : ∀ L ∈ Ls, L.length ≤ 256) (hk : Ls.length ≤ 3) (j : Nat) : (Ls.take j).flatten.length ≤ 768 := by
  have h1 := flat_len (Ls.take j) (fun L hL => h L (List.mem_of_mem_take hL))
  have h2 : (Ls.take j).length ≤ 3 := by rw [List.length_take]; omega
  omega
set_option maxHeartbeats 2000000 in
theorem concat_any (Ls : List (List Rd)) (g : Nat) (w : World) (hg : g < w.heap.size) (hc : ∀ i (hi : i < Ls.length), ∃ v, w.cell? ⟨g, i, none⟩ = some v ∧ SlR w v Ls[i]) (hk : Ls.length ≤ 3) (hlen : ∀ L ∈ Ls, L.length ≤ 256) :
    Calls Try.prog 71 #[.slice (some ⟨g, 0, none⟩) Ls.length Ls.length] w fun e w' => (∃ v, e = .returned v ∧ OwR w' w.heap.size v Ls.flatten) ∧ Below w.heap.size w w' := by
  have HC : Hid (∀ i (hi : i < Ls.length), ∃ v, w.cell? ⟨g, i, none⟩ = some v ∧ SlR w v Ls[i]) := hc
  have HT : Hid (∀ j, (Ls.take j).flatten.length ≤ 768) := flat_tlen Ls hlen hk
  have HLN : Hid (∀ L ∈ Ls, L.length ≤ 256) := hlen
  have HG : Hid (g < w.heap.size) := hg
  clear hc hlen hg
  go_enter Try.func71, Try.ntmps71
  go_wp2_with fail
  go_loopw [3, 11] (fun s i wr => ∃ j : Nat, j ≤ Ls.length ∧ i = .int .i64 (j : Int) ∧ s = .int .i64 (((Ls.take j).flatten.length : Nat) : Int) ∧ wr = w) (fun _ i _ => Ls.length - (intOf i).toNat)
  case atStart => exact ⟨0, Nat.zero_le _, by go_num, rfl, rfl⟩
  case round =>
    obtain ⟨j, hj, rfl, rfl, hwr⟩ := hrel
    rw [hwr]
    clear hwr
    by_cases hj0 : j = Ls.length
    · subst hj0
      have C1 : Hid (Calls _ _ _ _ _) := grow_any (Ls.take Ls.length).flatten.length w (Nat.le_trans (HT.out _) (by decide))
      generalize (Ls.take Ls.length).flatten.length = sz at *
      go_wp2_with fail
      refine C1.out.mono ?_
      rintro e w2 ⟨⟨v, rfl, hv⟩, hb2⟩
      have HV : Hid (OwR w2 w.heap.size v []) := hv
      have HB : Hid (Below w.heap.size w w2) := hb2
      clear hv hb2 C1
      go_wp2_with fail
      go_loopw [6, 27] (fun v i wx => ∃ j : Nat, j ≤ Ls.length ∧ i = .int .i64 (j : Int) ∧ Hid (OwR wx w.heap.size v (Ls.take j).flatten) ∧ Hid (Below w.heap.size w wx)) (fun _ i _ => Ls.length - (intOf i).toNat)
      case atStart => exact ⟨0, Nat.zero_le _, by go_num, HV, HB⟩
      case round =>
        clear HV HB
        obtain ⟨j, hj, rfl, hV, hB⟩ := hrel
        by_cases hj0 : j = Ls.length
        · subst hj0
          rw [List.take_length] at hV
          go_wp2_with fail
          go_ret
          exact ⟨⟨_, rfl, hV.out⟩, hB.out⟩
        · have hj1 : j < Ls.length := by omega
          obtain ⟨v', cv, p, c, rfl, hp1, hp2, hp3⟩ := HC.out j hj1
          have cv2 := (hB.out.cell (p := ⟨g, j, none⟩) HG.out).trans cv
          have HP3 : Hid ((p = none → Ls[j] = [] ∧ c = 0) ∧ (∀ a, p = some a → ∃ b o, a = ⟨b, o, none⟩) ∧ RdR wr p Ls[j]) := ⟨hp1, hp2, fun i hi => by
            obtain ⟨b, o, e, hl, c0, c1⟩ := hp3 i hi
            exact ⟨b, o, e, Nat.lt_of_lt_of_le hl hB.out.size, (hB.out.cell (p := ⟨b, o + i * 2, none⟩) hl).trans c0, (hB.out.cell (p := ⟨b, o + i * 2 + 1, none⟩) hl).trans c1⟩⟩
          have HFT : Hid ((Ls.take (j + 1)).flatten = (Ls.take j).flatten ++ Ls[j]) := flat_take Ls j hj1
          have h1 := HT.out j
          have h2 := HLN.out _ (List.getElem_mem hj1)
          have h3 := hB.out.size
          have HL1 : Hid ((Ls.take j).flatten.length ≤ 1000 ∧ Ls[j].length ≤ 1000 ∧ w.heap.size ≤ wr.heap.size) := ⟨by omega, by omega, h3⟩
          clear hp1 hp2 hp3 cv hj0 h1 h2 h3
          go_wp2_with (at_builtin; refine wpList_appR _ rfl (.tmp 31) (.tmp 32) rfl w.heap.size _ (Ls.take j).flatten Ls[j] p c rfl hV.out rfl HP3.out.1 HP3.out.2.1 HP3.out.2.2 HL1.out.1 HL1.out.2.1 HL1.out.2.2 ?_)
          intro v2 w3 g1 g2
          have HV2 : Hid (OwR w3 w.heap.size v2 (Ls.take (j + 1)).flatten) := show OwR _ _ _ _ by rw [HFT.out]; exact g1
          have HB2 : Hid (Below w.heap.size w w3) := hB.out.grown g2 hB.out.size (fun k hk => by
            rcases hV.out.2 with ⟨e, _⟩ | ⟨g', cap, cur, e, hge, _⟩
            · rw [e] at hk; cases hk
            · rw [e] at hk; cases hk; exact hge)
          clear g1 g2 hV hB
          go_wp2_with fail
          go_roundw
          case rel => exact ⟨j + 1, by omega, by go_num, HV2, HB2⟩
          case measure => simp [intOf]; omega
    · have hj1 : j < Ls.length := by omega
      obtain ⟨v, cv, p, c, rfl, -⟩ := HC.out j hj1
      have HE : Hid ((((Ls.take (j + 1)).flatten.length : Nat) : Int) = ((Ls.take j).flatten.length : Nat) + (Ls[j].length : Nat)) := show _ = _ by rw [flat_take Ls j hj1, List.length_append]; omega
      have h1 := HT.out j
      have h2 := HLN.out _ (List.getElem_mem hj1)
      clear hj0
      generalize (Ls.take j).flatten.length = sz at *
      generalize Ls[j].length = ll at *
      go_wp2_with fail
      go_roundw
      case rel => exact ⟨j + 1, by omega, by go_num, intV HE.out.symm, by trivial⟩
      case measure => simp [intOf]; omega
end Go.Proofs.Ytbmgkoifidhfjaa
