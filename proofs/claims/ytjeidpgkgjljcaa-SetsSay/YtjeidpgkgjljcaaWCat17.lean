/- slices.Grow and slices.Concat of points and of spans. -/
import Derived.Test.YtjeidpgkgjljcaaWNc
import Derived.Lib.AppendZeros
namespace Go.Proofs.Ytjeidpgkgjljcaa
open Go.RowKit
set_option maxRecDepth 100000

theorem intV17 {k : IntKind} {x y : Int} (h : x = y) : Value.int k x = Value.int k y := by rw [h]
theorem flat17_take {α : Type} (Ls : List (List α)) (j : Nat) (hj : j < Ls.length) : (Ls.take (j + 1)).flatten = (Ls.take j).flatten ++ Ls[j] := by
  rw [take_snoc Ls j hj, List.flatten_append]
  simp
theorem flat17_tlen {α : Type} (Ls : List (List α)) (h : ∀ L ∈ Ls, L.length ≤ 65536) (hk : Ls.length ≤ 2) (j : Nat) : (Ls.take j).flatten.length ≤ 131072 := by
  match Ls, h, hk with
  | [], _, _ => simp
  | [a], h, _ =>
    have := h a (by simp)
    match j with
    | 0 => simp
    | j + 1 => simp; omega
  | [a, b], h, _ =>
    have h1 := h a (by simp)
    have h2 := h b (by simp)
    match j with
    | 0 => simp
    | 1 => simp; omega
    | j + 2 => simp; omega

theorem zsizeP (n : Nat) : (Builtin.zeroCells #[Value.int .i64 0, .int .i64 0, .string ⟨#[]⟩] n).size = n * 3 := by rw [size_zeroCells]; rfl

set_option maxHeartbeats 1000000 in
theorem growP_any (n : Nat) (w : World) (hn : n ≤ 200000) :
    Calls Try.prog 62 #[.slice none 0 0, .int .i64 (n : Nat)] w fun e w' => (∃ v, e = .returned v ∧ OwnP w' w.heap.size v []) ∧ Below w.heap.size w w' := by
  by_cases h0 : n = 0
  · subst h0
    go_enter Try.func62, Try.ntmps62
    go_wp2_with fail
    go_ret
    exact ⟨⟨_, rfl, World.ownsRow_nil _ _ _ _⟩, Below.refl _ _⟩
  · have h1 : 0 < n := by omega
    obtain ⟨i, hi, hz0, hz1, hz2⟩ := info_parts info_P
    have hr := fun ty => Lib.run_append_nil_zeros (P := Try.prog) w 22 3 ty 27 i _ .i64 .i64 Try.underlying22 Try.underlying3 hi hz0 n h1 (by rw [hz1]; decide) (by omega) (by rw [hz2]; omega)
    have hk : n ≤ grownCap w n 0 27 := grownCap_ge _ _ _ _
    have hk2 : grownCap w n 0 27 ≤ maxLen := grownCap_le_maxLen _ _ _ _ (by unfold maxLen; omega)
    clear h0 hi hz0 hz1 hz2
    generalize grownCap w n 0 27 = cp at *
    go_enter Try.func62, Try.ntmps62
    go_wp2_with (at_builtin; refine Lib.wpList_append_run _ rfl _ _ _ _ rfl _ _ rfl rfl _ _ (hr _) ?_)
    go_ret
    have hb : Below w.heap.size w (w.alloc (.cells (Builtin.zeroCells #[Value.int .i64 0, .int .i64 0, .string ⟨#[]⟩] n ++ Builtin.zeroCells #[Value.int .i64 0, .int .i64 0, .string ⟨#[]⟩] (cp - n)) 27)) := (Below.refl _ _).alloc (Nat.le_refl _) _
    refine ⟨⟨_, rfl, ⟨rfl, .inr ⟨w.heap.size, cp, _, rfl, Nat.le_refl _, heap_alloc_new w _, Nat.zero_le _, hk2, ?_, rfl⟩⟩⟩, ⟨hb.os, hb.tape, hb.output, hb.size, hb.block⟩⟩
    rw [Array.size_append, zsizeP, zsizeP]
    omega

/-- 'append(l, R...)' -/
theorem wpList_appLP {ops : Array Oper} {rest : List Oper} {o : Oper} {a : Act} {Q : Exit → Act → World → Prop} (w : World) (hgd : o.guard = none) (s x : Operand)
    (ho : o.op = .call { callee := .builtin .append, args := #[s, x], argTypes := #[22, 22] })
    (B : Nat) (v : Value) (A R : List Pt) (p : Option Addr) (c : Nat) (hs : a.eval s = v) (hown : OwnP w B v A) (hx : a.eval x = .slice p R.length c) (hn : p = none → R = [] ∧ c = 0) (hR : RowP w w.heap.size p R)
    (hl1 : A.length ≤ 200000) (hl2 : R.length ≤ 200000) (hbase : B ≤ w.heap.size)
    (h : ∀ v' w', OwnP w' B v' (A ++ R) → Below B w w' → wpList Try.prog ops Q rest (a.put o.dst v') w') : wpList Try.prog ops Q (o :: rest) a w := by
  obtain ⟨i, hi, hz0, hz1, hz2⟩ := info_parts info_P
  cases p with
  | none =>
    obtain ⟨rfl, rfl⟩ := hn rfl
    refine wpList_append_own_none hgd s x _ ho B 27 i 3 Try.underlying22 hi v _ _ hs hown hx (h v w (by rw [List.append_nil]; exact hown) (Below.refl _ _))
  | some ad =>
    refine wpList_append_own _ hgd s x 22 ho B 27 i (.agg #[.int .i64 0, .int .i64 0, .string ⟨#[]⟩]) 3 32 Try.underlying22 hi hz0 hz1 hz2 rfl (by decide) v A.length _ hs hown ad R.length c (pcells R) hx (by rw [pcells_len]) hR.cellsA (pcells_one R) (by unfold maxLen; omega) (by omega) hbase ?_
    intro v' w' h1 h2 _
    refine h v' w' ?_ ((Below.refl _ _).grown h2 hbase (fun k hk => (hown.lt k hk).1))
    unfold OwnP
    rw [pcells_append, List.length_append]
    exact h1

set_option maxHeartbeats 4000000 in
theorem concatP_any (Ls : List (List Pt)) (g : Nat) (w : World) (hg : g < w.heap.size) (hc : ∀ i (hi : i < Ls.length), ∃ v, w.cell? ⟨g, i, none⟩ = some v ∧ SlP w v Ls[i]) (hk : Ls.length ≤ 2) (hlen : ∀ L ∈ Ls, L.length ≤ 65536) :
    Calls Try.prog 40 #[.slice (some ⟨g, 0, none⟩) Ls.length Ls.length] w fun e w' => (∃ v, e = .returned v ∧ OwnP w' w.heap.size v Ls.flatten) ∧ Below w.heap.size w w' := by
  have HC : Hid (∀ i (hi : i < Ls.length), ∃ v, w.cell? ⟨g, i, none⟩ = some v ∧ SlP w v Ls[i]) := hc
  have HT : Hid (∀ j, (Ls.take j).flatten.length ≤ 131072) := flat17_tlen Ls hlen hk
  have HLN : Hid (∀ L ∈ Ls, L.length ≤ 65536) := hlen
  have HG : Hid (g < w.heap.size) := hg
  clear hc hlen hg
  go_enter Try.func40, Try.ntmps40
  go_wp2_with fail
  go_loopw [3, 11] (fun s i wr => ∃ j : Nat, j ≤ Ls.length ∧ i = .int .i64 (j : Int) ∧ s = .int .i64 (((Ls.take j).flatten.length : Nat) : Int) ∧ wr = w) (fun _ i _ => Ls.length - (intOf i).toNat)
  case atStart => exact ⟨0, Nat.zero_le _, by go_num, rfl, rfl⟩
  case round =>
    obtain ⟨j, hj, rfl, rfl, hwr⟩ := hrel
    rw [hwr]
    clear hwr
    by_cases hj0 : j = Ls.length
    · subst hj0
      have C1 : Hid (Calls _ _ _ _ _) := growP_any (Ls.take Ls.length).flatten.length w (Nat.le_trans (HT.out _) (by decide))
      have hT0 := HT.out Ls.length
      generalize (Ls.take Ls.length).flatten.length = sz at *
      go_wp2_with fail
      refine C1.out.mono ?_
      rintro e w2 ⟨⟨v, rfl, hv⟩, hb2⟩
      have HV : Hid (OwnP w2 w.heap.size v []) := hv
      have HB : Hid (Below w.heap.size w w2) := hb2
      clear hv hb2 C1 hT0
      go_wp2_with fail
      go_loopw [6, 27] (fun v i wx => ∃ j : Nat, j ≤ Ls.length ∧ i = .int .i64 (j : Int) ∧ Hid (OwnP wx w.heap.size v (Ls.take j).flatten) ∧ Hid (Below w.heap.size w wx)) (fun _ i _ => Ls.length - (intOf i).toNat)
      case atStart => exact ⟨0, Nat.zero_le _, by go_num, HV, HB⟩
      case round =>
        clear HV HB
        obtain ⟨j, hj, rfl, hV, hB⟩ := hrel
        by_cases hj0 : j = Ls.length
        · subst hj0
          rw [List.take_length] at hV
          go_wp2_with fail
          go_ret
          exact ⟨⟨_, rfl, hV.out⟩, hB.out⟩
        · have hj1 : j < Ls.length := by omega
          obtain ⟨v', cv, hs9⟩ := HC.out j hj1
          obtain ⟨p, c, rfl, hp1, hp2, hp3⟩ := hs9.f
          have cv2 := (hB.out.cell (p := ⟨g, j, none⟩) HG.out).trans cv
          have HP3 : Hid ((p = none → Ls[j] = [] ∧ c = 0) ∧ RowP wr wr.heap.size p Ls[j]) := ⟨fun e => ⟨rowP_len hp3 e, hp2 e⟩, (hp3.keep hB.out).mono hB.out.size⟩
          have HFT : Hid ((Ls.take (j + 1)).flatten = (Ls.take j).flatten ++ Ls[j]) := flat17_take Ls j hj1
          have h1 := HT.out j
          have h2 := HLN.out _ (List.getElem_mem hj1)
          have h3 := hB.out.size
          have HL1 : Hid ((Ls.take j).flatten.length ≤ 200000 ∧ Ls[j].length ≤ 200000 ∧ w.heap.size ≤ wr.heap.size) := ⟨by omega, by omega, h3⟩
          clear hp1 hp2 hp3 cv hj0 h1 h2 h3 hs9
          go_wp2_with (at_builtin; refine wpList_appLP _ rfl (.tmp 31) (.tmp 32) rfl w.heap.size _ (Ls.take j).flatten Ls[j] p c rfl hV.out rfl HP3.out.1 HP3.out.2 HL1.out.1 HL1.out.2.1 HL1.out.2.2 ?_)
          intro v2 w3 g1 g2
          have HV2 : Hid (OwnP w3 w.heap.size v2 (Ls.take (j + 1)).flatten) := show OwnP _ _ _ _ by rw [HFT.out]; exact g1
          have HB2 : Hid (Below w.heap.size w w3) := hB.out.trans g2
          clear g1 g2 hV hB
          go_wp2_with fail
          go_roundw
          case rel => exact ⟨j + 1, by omega, by go_num, HV2, HB2⟩
          case measure => simp [intOf]; omega
    · have hj1 : j < Ls.length := by omega
      obtain ⟨v, cv, hs9⟩ := HC.out j hj1
      obtain ⟨p, c, rfl, -⟩ := hs9.f
      have HE : Hid ((((Ls.take (j + 1)).flatten.length : Nat) : Int) = ((Ls.take j).flatten.length : Nat) + (Ls[j].length : Nat)) := show _ = _ by rw [flat17_take Ls j hj1, List.length_append]; omega
      have h1 := HT.out j
      have h2 := HLN.out _ (List.getElem_mem hj1)
      clear hj0 hs9
      generalize (Ls.take j).flatten.length = sz at *
      generalize Ls[j].length = ll at *
      go_wp2_with fail
      go_roundw
      case rel => exact ⟨j + 1, by omega, by go_num, intV17 HE.out.symm, by trivial⟩
      case measure => simp [intOf]; omega

theorem zsizeS (n : Nat) : (Builtin.zeroCells #[Value.int .i64 0, .int .i64 0, .string ⟨#[]⟩, .string ⟨#[]⟩, .bool false] n).size = n * 5 := by rw [size_zeroCells]; rfl

set_option maxHeartbeats 1000000 in
theorem growS_any (n : Nat) (w : World) (hn : n ≤ 200000) :
    Calls Try.prog 63 #[.slice none 0 0, .int .i64 (n : Nat)] w fun e w' => (∃ v, e = .returned v ∧ OwnS w' w.heap.size v []) ∧ Below w.heap.size w w' := by
  by_cases h0 : n = 0
  · subst h0
    go_enter Try.func63, Try.ntmps63
    go_wp2_with fail
    go_ret
    exact ⟨⟨_, rfl, World.ownsRow_nil _ _ _ _⟩, Below.refl _ _⟩
  · have h1 : 0 < n := by omega
    obtain ⟨i, hi, hz0, hz1, hz2⟩ := info_parts info_S
    have hr := fun ty => Lib.run_append_nil_zeros (P := Try.prog) w 23 3 ty 55 i _ .i64 .i64 Try.underlying23 Try.underlying3 hi hz0 n h1 (by rw [hz1]; decide) (by omega) (by rw [hz2]; omega)
    have hk : n ≤ grownCap w n 0 55 := grownCap_ge _ _ _ _
    have hk2 : grownCap w n 0 55 ≤ maxLen := grownCap_le_maxLen _ _ _ _ (by unfold maxLen; omega)
    clear h0 hi hz0 hz1 hz2
    generalize grownCap w n 0 55 = cp at *
    go_enter Try.func63, Try.ntmps63
    go_wp2_with (at_builtin; refine Lib.wpList_append_run _ rfl _ _ _ _ rfl _ _ rfl rfl _ _ (hr _) ?_)
    go_ret
    have hb : Below w.heap.size w (w.alloc (.cells (Builtin.zeroCells #[Value.int .i64 0, .int .i64 0, .string ⟨#[]⟩, .string ⟨#[]⟩, .bool false] n ++ Builtin.zeroCells #[Value.int .i64 0, .int .i64 0, .string ⟨#[]⟩, .string ⟨#[]⟩, .bool false] (cp - n)) 55)) := (Below.refl _ _).alloc (Nat.le_refl _) _
    refine ⟨⟨_, rfl, ⟨rfl, .inr ⟨w.heap.size, cp, _, rfl, Nat.le_refl _, heap_alloc_new w _, Nat.zero_le _, hk2, ?_, rfl⟩⟩⟩, ⟨hb.os, hb.tape, hb.output, hb.size, hb.block⟩⟩
    rw [Array.size_append, zsizeS, zsizeS]
    omega

/-- 'append(l, R...)' -/
theorem wpList_appLS {ops : Array Oper} {rest : List Oper} {o : Oper} {a : Act} {Q : Exit → Act → World → Prop} (w : World) (hgd : o.guard = none) (s x : Operand)
    (ho : o.op = .call { callee := .builtin .append, args := #[s, x], argTypes := #[23, 23] })
    (B : Nat) (v : Value) (A R : List Sp) (p : Option Addr) (c : Nat) (hs : a.eval s = v) (hown : OwnS w B v A) (hx : a.eval x = .slice p R.length c) (hn : p = none → R = [] ∧ c = 0) (hR : RowS w w.heap.size p R)
    (hl1 : A.length ≤ 200000) (hl2 : R.length ≤ 200000) (hbase : B ≤ w.heap.size)
    (h : ∀ v' w', OwnS w' B v' (A ++ R) → Below B w w' → wpList Try.prog ops Q rest (a.put o.dst v') w') : wpList Try.prog ops Q (o :: rest) a w := by
  obtain ⟨i, hi, hz0, hz1, hz2⟩ := info_parts info_S
  cases p with
  | none =>
    obtain ⟨rfl, rfl⟩ := hn rfl
    refine wpList_append_own_none hgd s x _ ho B 55 i 5 Try.underlying23 hi v _ _ hs hown hx (h v w (by rw [List.append_nil]; exact hown) (Below.refl _ _))
  | some ad =>
    refine wpList_append_own _ hgd s x 23 ho B 55 i (.agg #[.int .i64 0, .int .i64 0, .string ⟨#[]⟩, .string ⟨#[]⟩, .bool false]) 5 56 Try.underlying23 hi hz0 hz1 hz2 rfl (by decide) v A.length _ hs hown ad R.length c (scells R) hx (by rw [scells_len]) hR.cellsA (scells_one R) (by unfold maxLen; omega) (by omega) hbase ?_
    intro v' w' h1 h2 _
    refine h v' w' ?_ ((Below.refl _ _).grown h2 hbase (fun k hk => (hown.lt k hk).1))
    unfold OwnS
    rw [scells_append, List.length_append]
    exact h1

set_option maxHeartbeats 4000000 in
theorem concatS_any (Ls : List (List Sp)) (g : Nat) (w : World) (hg : g < w.heap.size) (hc : ∀ i (hi : i < Ls.length), ∃ v, w.cell? ⟨g, i, none⟩ = some v ∧ SlS w v Ls[i]) (hk : Ls.length ≤ 2) (hlen : ∀ L ∈ Ls, L.length ≤ 65536) :
    Calls Try.prog 41 #[.slice (some ⟨g, 0, none⟩) Ls.length Ls.length] w fun e w' => (∃ v, e = .returned v ∧ OwnS w' w.heap.size v Ls.flatten) ∧ Below w.heap.size w w' := by
  have HC : Hid (∀ i (hi : i < Ls.length), ∃ v, w.cell? ⟨g, i, none⟩ = some v ∧ SlS w v Ls[i]) := hc
  have HT : Hid (∀ j, (Ls.take j).flatten.length ≤ 131072) := flat17_tlen Ls hlen hk
  have HLN : Hid (∀ L ∈ Ls, L.length ≤ 65536) := hlen
  have HG : Hid (g < w.heap.size) := hg
  clear hc hlen hg
  go_enter Try.func41, Try.ntmps41
  go_wp2_with fail
  go_loopw [3, 11] (fun s i wr => ∃ j : Nat, j ≤ Ls.length ∧ i = .int .i64 (j : Int) ∧ s = .int .i64 (((Ls.take j).flatten.length : Nat) : Int) ∧ wr = w) (fun _ i _ => Ls.length - (intOf i).toNat)
  case atStart => exact ⟨0, Nat.zero_le _, by go_num, rfl, rfl⟩
  case round =>
    obtain ⟨j, hj, rfl, rfl, hwr⟩ := hrel
    rw [hwr]
    clear hwr
    by_cases hj0 : j = Ls.length
    · subst hj0
      have C1 : Hid (Calls _ _ _ _ _) := growS_any (Ls.take Ls.length).flatten.length w (Nat.le_trans (HT.out _) (by decide))
      have hT0 := HT.out Ls.length
      generalize (Ls.take Ls.length).flatten.length = sz at *
      go_wp2_with fail
      refine C1.out.mono ?_
      rintro e w2 ⟨⟨v, rfl, hv⟩, hb2⟩
      have HV : Hid (OwnS w2 w.heap.size v []) := hv
      have HB : Hid (Below w.heap.size w w2) := hb2
      clear hv hb2 C1 hT0
      go_wp2_with fail
      go_loopw [6, 27] (fun v i wx => ∃ j : Nat, j ≤ Ls.length ∧ i = .int .i64 (j : Int) ∧ Hid (OwnS wx w.heap.size v (Ls.take j).flatten) ∧ Hid (Below w.heap.size w wx)) (fun _ i _ => Ls.length - (intOf i).toNat)
      case atStart => exact ⟨0, Nat.zero_le _, by go_num, HV, HB⟩
      case round =>
        clear HV HB
        obtain ⟨j, hj, rfl, hV, hB⟩ := hrel
        by_cases hj0 : j = Ls.length
        · subst hj0
          rw [List.take_length] at hV
          go_wp2_with fail
          go_ret
          exact ⟨⟨_, rfl, hV.out⟩, hB.out⟩
        · have hj1 : j < Ls.length := by omega
          obtain ⟨v', cv, hs9⟩ := HC.out j hj1
          obtain ⟨p, c, rfl, hp1, hp2, hp3⟩ := hs9.f
          have cv2 := (hB.out.cell (p := ⟨g, j, none⟩) HG.out).trans cv
          have HP3 : Hid ((p = none → Ls[j] = [] ∧ c = 0) ∧ RowS wr wr.heap.size p Ls[j]) := ⟨fun e => ⟨rowS_len hp3 e, hp2 e⟩, (hp3.keep hB.out).mono hB.out.size⟩
          have HFT : Hid ((Ls.take (j + 1)).flatten = (Ls.take j).flatten ++ Ls[j]) := flat17_take Ls j hj1
          have h1 := HT.out j
          have h2 := HLN.out _ (List.getElem_mem hj1)
          have h3 := hB.out.size
          have HL1 : Hid ((Ls.take j).flatten.length ≤ 200000 ∧ Ls[j].length ≤ 200000 ∧ w.heap.size ≤ wr.heap.size) := ⟨by omega, by omega, h3⟩
          clear hp1 hp2 hp3 cv hj0 h1 h2 h3 hs9
          go_wp2_with (at_builtin; refine wpList_appLS _ rfl (.tmp 31) (.tmp 32) rfl w.heap.size _ (Ls.take j).flatten Ls[j] p c rfl hV.out rfl HP3.out.1 HP3.out.2 HL1.out.1 HL1.out.2.1 HL1.out.2.2 ?_)
          intro v2 w3 g1 g2
          have HV2 : Hid (OwnS w3 w.heap.size v2 (Ls.take (j + 1)).flatten) := show OwnS _ _ _ _ by rw [HFT.out]; exact g1
          have HB2 : Hid (Below w.heap.size w w3) := hB.out.trans g2
          clear g1 g2 hV hB
          go_wp2_with fail
          go_roundw
          case rel => exact ⟨j + 1, by omega, by go_num, HV2, HB2⟩
          case measure => simp [intOf]; omega
    · have hj1 : j < Ls.length := by omega
      obtain ⟨v, cv, hs9⟩ := HC.out j hj1
      obtain ⟨p, c, rfl, -⟩ := hs9.f
      have HE : Hid ((((Ls.take (j + 1)).flatten.length : Nat) : Int) = ((Ls.take j).flatten.length : Nat) + (Ls[j].length : Nat)) := show _ = _ by rw [flat17_take Ls j hj1, List.length_append]; omega
      have h1 := HT.out j
      have h2 := HLN.out _ (List.getElem_mem hj1)
      clear hj0 hs9
      generalize (Ls.take j).flatten.length = sz at *
      generalize Ls[j].length = ll at *
      go_wp2_with fail
      go_roundw
      case rel => exact ⟨j + 1, by omega, by go_num, intV17 HE.out.symm, by trivial⟩
      case measure => simp [intOf]; omega
end Go.Proofs.Ytjeidpgkgjljcaa
