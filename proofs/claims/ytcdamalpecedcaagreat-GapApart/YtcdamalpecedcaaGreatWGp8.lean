/- Layer 13: slices.Grow and slices.Concat of takers. -/
import Derived.Test.YtcdamalpecedcaaGreatWGp1
import Derived.Lib.AppendZeros
namespace Go.Proofs.YtcdamalpecedcaaGreat
open Go.RowKit
set_option maxRecDepth 100000

theorem intVP {k : IntKind} {x y : Int} (h : x = y) : Value.int k x = Value.int k y := by rw [h]
theorem zsizeP (n : Nat) : (Builtin.zeroCells #[Value.pointer none] n).size = n * 1 := by rw [size_zeroCells]; rfl
set_option maxHeartbeats 1000000 in
theorem growP_any (n : Nat) (w : World) (hn : n ≤ 1000) :
    Calls Tryz.prog 56 #[.slice none 0 0, .int .i64 (n : Nat)] w fun e w' => (∃ v, e = .returned v ∧ OwnT w' w.heap.size v []) ∧ Below w.heap.size w w' := by
  by_cases h0 : n = 0
  · subst h0
    go_enter Tryz.func56, Tryz.ntmps56
    go_wp2_with fail
    go_ret
    exact ⟨⟨_, rfl, World.ownsRow_nil _ _ _ _⟩, Below.refl _ _⟩
  · have h1 : 0 < n := by omega
    obtain ⟨i, hi, hz0, hz1, hz2⟩ := info_parts1 info_ptk
    have hr := fun ty => Lib.run_append_nil_zeros (P := Tryz.prog) w 66 3 ty 77 i _ .i64 .i64 Tryz.underlying66 Tryz.underlying3 hi hz0 n h1 (by rw [hz1]; decide) (by omega) (by rw [hz2]; omega)
    have hk : n ≤ grownCap w n 0 77 := grownCap_ge _ _ _ _
    have hk2 : grownCap w n 0 77 ≤ maxLen := grownCap_le_maxLen _ _ _ _ (by unfold maxLen; omega)
    clear h0 hi hz0 hz1 hz2
    generalize grownCap w n 0 77 = cp at *
    go_enter Tryz.func56, Tryz.ntmps56
    go_wp2_with (at_builtin; refine Lib.wpList_append_run _ rfl _ _ _ _ rfl _ _ rfl rfl _ _ (hr _) ?_)
    go_ret
    have hb : Below w.heap.size w (w.alloc (.cells (Builtin.zeroCells #[.pointer none] n ++ Builtin.zeroCells #[.pointer none] (cp - n)) 77)) := (Below.refl _ _).alloc (Nat.le_refl _) _
    refine ⟨⟨_, rfl, ⟨rfl, .inr ⟨w.heap.size, cp, _, rfl, Nat.le_refl _, heap_alloc_new w _, Nat.zero_le _, hk2, ?_, rfl⟩⟩⟩, ⟨hb.os, hb.tape, hb.output, hb.size, hb.block⟩⟩
    rw [Array.size_append, zsizeP, zsizeP]
    omega


/-- pointers that are read -/
def RdP (w : World) (p : Option Addr) (P : List Nat) : Prop := ∀ i (hi : i < P.length), ∃ b o, p = some ⟨b, o, none⟩ ∧ b < w.heap.size ∧ w.cell? ⟨b, o + i, none⟩ = some (ptr1 P[i])
theorem RdP.on {w w' : World} {p : Option Addr} {P : List Nat} (h : RdP w p P) (hb : Below w.heap.size w w') : RdP w' p P := by
  intro i hi
  obtain ⟨b, o, e, hl, c0⟩ := h i hi
  exact ⟨b, o, e, Nat.lt_of_lt_of_le hl hb.size, (hb.cell (p := ⟨b, o + i, none⟩) hl).trans c0⟩
/-- a slice of pointers, wherever it lies -/
def SlP (w : World) (v : Value) (P : List Nat) : Prop := ∃ p c, v = .slice p P.length c ∧ (p = none → P = [] ∧ c = 0) ∧ (∀ a, p = some a → ∃ b o, a = ⟨b, o, none⟩) ∧ RdP w p P
theorem SlP.on {w w' : World} {v : Value} {P : List Nat} (h : SlP w v P) (hb : Below w.heap.size w w') : SlP w' v P := by
  obtain ⟨p, c, e, h1, h2, h3⟩ := h
  exact ⟨p, c, e, h1, h2, h3.on hb⟩
theorem ptr_one (P : List Nat) : ∀ u ∈ P.map ptr1, u.oneCell' = true := by
  intro u hu
  obtain ⟨x, _, rfl⟩ := List.mem_map.1 hu
  rfl
/-- 'append(l, P...)' -/
theorem wpList_appP {ops : Array Oper} {rest : List Oper} {o : Oper} {a : Act} {Q : Exit → Act → World → Prop} (w : World) (hgd : o.guard = none) (s x : Operand)
    (ho : o.op = .call { callee := .builtin .append, args := #[s, x], argTypes := #[66, 66] })
    (B : Nat) (v : Value) (A R : List Nat) (p : Option Addr) (c : Nat) (hs : a.eval s = v) (hown : OwnT w B v A) (hx : a.eval x = .slice p R.length c) (hn : p = none → R = [] ∧ c = 0) (ha : ∀ a, p = some a → ∃ b o, a = ⟨b, o, none⟩) (hR : RdP w p R)
    (hl1 : A.length ≤ 1000) (hl2 : R.length ≤ 1000) (hbase : B ≤ w.heap.size)
    (h : ∀ v' w', OwnT w' B v' (A ++ R) → w.grownBy w' v.ownBlock → wpList Tryz.prog ops Q rest (a.put o.dst v') w') : wpList Tryz.prog ops Q (o :: rest) a w := by
  obtain ⟨i, hi, hz0, hz1, hz2⟩ := info_parts1 info_ptk
  cases p with
  | none =>
    obtain ⟨rfl, rfl⟩ := hn rfl
    refine wpList_append_own_none hgd s x _ ho B 77 i 1 Tryz.underlying66 hi v _ _ hs hown hx (h v w (by rw [List.append_nil]; exact hown) ⟨rfl, rfl, rfl, Nat.le_refl _, fun _ _ _ => rfl⟩)
  | some ad =>
    obtain ⟨b, o', rfl⟩ := ha ad rfl
    refine wpList_append_own _ hgd s x 66 ho B 77 i _ 1 8 Tryz.underlying66 hi hz0 hz1 hz2 rfl (by decide) v A.length _ hs hown ⟨b, o', none⟩ R.length c (R.map ptr1) hx (by rw [List.length_map]; omega) (fun j y hj => ?_) (ptr_one R) (by unfold maxLen; omega) (by omega) hbase ?_
    · have e : (⟨b, o', none⟩ : Addr).add j = ⟨b, o' + j, none⟩ := by unfold Addr.add; split <;> simp_all
      rw [e]
      have hj1 : j < R.length := by
        have := (List.getElem?_eq_some_iff.1 hj).1
        rwa [List.length_map] at this
      rw [List.getElem?_map, List.getElem?_eq_getElem hj1] at hj
      obtain ⟨b', o'', e', _, c0⟩ := hR j hj1
      injection e' with e'
      injection e' with e1 e2
      subst e1 e2
      rw [c0]
      exact hj
    · intro v' w' h1 h2 _
      refine h v' w' ?_ h2
      show World.ownsRow _ _ _ _ _ _ _
      rw [List.map_append, List.length_append]
      exact h1
theorem flatP_take (Ls : List (List Nat)) (j : Nat) (hj : j < Ls.length) : (Ls.take (j + 1)).flatten = (Ls.take j).flatten ++ Ls[j] := by
  rw [List.take_succ_eq_append_getElem hj, List.flatten_append]
  simp
theorem flatP_len (Ls : List (List Nat)) (h : ∀ L ∈ Ls, L.length ≤ 256) : Ls.flatten.length ≤ Ls.length * 256 := by
  induction Ls with
  | nil => simp
  | cons L t ih =>
    have h1 := ih (fun M hM => h M (List.mem_cons_of_mem _ hM))
    have h2 := h L List.mem_cons_self
    simp
    simp at h1
    omega
theorem flatP_tlen (Ls : List (List Nat)) (h : ∀ L ∈ Ls, L.length ≤ 256) (hk : Ls.length ≤ 3) (j : Nat) : (Ls.take j).flatten.length ≤ 768 := by
  have h1 := flatP_len (Ls.take j) (fun L hL => h L (List.mem_of_mem_take hL))
  have h2 : (Ls.take j).length ≤ 3 := by rw [List.length_take]; omega
  omega
set_option maxHeartbeats 2000000 in
theorem concatP_any (Ls : List (List Nat)) (g : Nat) (w : World) (hg : g < w.heap.size) (hc : ∀ i (hi : i < Ls.length), ∃ v, w.cell? ⟨g, i, none⟩ = some v ∧ SlP w v Ls[i]) (hk : Ls.length ≤ 3) (hlen : ∀ L ∈ Ls, L.length ≤ 256) :
    Calls Tryz.prog 42 #[.slice (some ⟨g, 0, none⟩) Ls.length Ls.length] w fun e w' => (∃ v, e = .returned v ∧ OwnT w' w.heap.size v Ls.flatten) ∧ Below w.heap.size w w' := by
  have HC : Hid (∀ i (hi : i < Ls.length), ∃ v, w.cell? ⟨g, i, none⟩ = some v ∧ SlP w v Ls[i]) := hc
  have HT : Hid (∀ j, (Ls.take j).flatten.length ≤ 768) := flatP_tlen Ls hlen hk
  have HLN : Hid (∀ L ∈ Ls, L.length ≤ 256) := hlen
  have HG : Hid (g < w.heap.size) := hg
  clear hc hlen hg
  go_enter Tryz.func42, Tryz.ntmps42
  go_wp2_with fail
  go_loopw [3, 11] (fun s i wr => ∃ j : Nat, j ≤ Ls.length ∧ i = .int .i64 (j : Int) ∧ s = .int .i64 (((Ls.take j).flatten.length : Nat) : Int) ∧ wr = w) (fun _ i _ => Ls.length - (intOf i).toNat)
  case atStart => exact ⟨0, Nat.zero_le _, by go_num, rfl, rfl⟩
  case round =>
    obtain ⟨j, hj, rfl, rfl, hwr⟩ := hrel
    rw [hwr]
    clear hwr
    by_cases hj0 : j = Ls.length
    · subst hj0
      have C1 : Hid (Calls _ _ _ _ _) := growP_any (Ls.take Ls.length).flatten.length w (Nat.le_trans (HT.out _) (by decide))
      generalize (Ls.take Ls.length).flatten.length = sz at *
      go_wp2_with fail
      refine C1.out.mono ?_
      rintro e w2 ⟨⟨v, rfl, hv⟩, hb2⟩
      have HV : Hid (OwnT w2 w.heap.size v []) := hv
      have HB : Hid (Below w.heap.size w w2) := hb2
      clear hv hb2 C1
      go_wp2_with fail
      go_loopw [6, 27] (fun v i wx => ∃ j : Nat, j ≤ Ls.length ∧ i = .int .i64 (j : Int) ∧ Hid (OwnT wx w.heap.size v (Ls.take j).flatten) ∧ Hid (Below w.heap.size w wx)) (fun _ i _ => Ls.length - (intOf i).toNat)
      case atStart => exact ⟨0, Nat.zero_le _, by go_num, HV, HB⟩
      case round =>
        clear HV HB
        obtain ⟨j, hj, rfl, hV, hB⟩ := hrel
        by_cases hj0 : j = Ls.length
        · subst hj0
          rw [List.take_length] at hV
          go_wp2_with fail
          go_ret
          exact ⟨⟨_, rfl, hV.out⟩, hB.out⟩
        · have hj1 : j < Ls.length := by omega
          obtain ⟨v', cv, p, c, rfl, hp1, hp2, hp3⟩ := HC.out j hj1
          have cv2 := (hB.out.cell (p := ⟨g, j, none⟩) HG.out).trans cv
          have HP3 : Hid ((p = none → Ls[j] = [] ∧ c = 0) ∧ (∀ a, p = some a → ∃ b o, a = ⟨b, o, none⟩) ∧ RdP wr p Ls[j]) := ⟨hp1, hp2, fun i hi => by
            obtain ⟨b, o, e, hl, c0⟩ := hp3 i hi
            exact ⟨b, o, e, Nat.lt_of_lt_of_le hl hB.out.size, (hB.out.cell (p := ⟨b, o + i, none⟩) hl).trans c0⟩⟩
          have HFT : Hid ((Ls.take (j + 1)).flatten = (Ls.take j).flatten ++ Ls[j]) := flatP_take Ls j hj1
          have h1 := HT.out j
          have h2 := HLN.out _ (List.getElem_mem hj1)
          have h3 := hB.out.size
          have HL1 : Hid ((Ls.take j).flatten.length ≤ 1000 ∧ Ls[j].length ≤ 1000 ∧ w.heap.size ≤ wr.heap.size) := ⟨by omega, by omega, h3⟩
          clear hp1 hp2 hp3 cv hj0 h1 h2 h3
          go_wp2_with (at_builtin; refine wpList_appP _ rfl (.tmp 31) (.tmp 32) rfl w.heap.size _ (Ls.take j).flatten Ls[j] p c rfl hV.out rfl HP3.out.1 HP3.out.2.1 HP3.out.2.2 HL1.out.1 HL1.out.2.1 HL1.out.2.2 ?_)
          intro v2 w3 g1 g2
          have HV2 : Hid (OwnT w3 w.heap.size v2 (Ls.take (j + 1)).flatten) := show OwnT _ _ _ _ by rw [HFT.out]; exact g1
          have HB2 : Hid (Below w.heap.size w w3) := hB.out.grown g2 hB.out.size (fun k hk => by
            rcases hV.out.2 with ⟨e, _⟩ | ⟨g', cap, cur, e, hge, _⟩
            · rw [e] at hk; cases hk
            · rw [e] at hk; cases hk; exact hge)
          clear g1 g2 hV hB
          go_wp2_with fail
          go_roundw
          case rel => exact ⟨j + 1, by omega, by go_num, HV2, HB2⟩
          case measure => simp [intOf]; omega
    · have hj1 : j < Ls.length := by omega
      obtain ⟨v, cv, p, c, rfl, -⟩ := HC.out j hj1
      have HE : Hid ((((Ls.take (j + 1)).flatten.length : Nat) : Int) = ((Ls.take j).flatten.length : Nat) + (Ls[j].length : Nat)) := show _ = _ by rw [flatP_take Ls j hj1, List.length_append]; omega
      have h1 := HT.out j
      have h2 := HLN.out _ (List.getElem_mem hj1)
      clear hj0
      generalize (Ls.take j).flatten.length = sz at *
      generalize Ls[j].length = ll at *
      go_wp2_with fail
      go_roundw
      case rel => exact ⟨j + 1, by omega, by go_num, intVP HE.out.symm, by trivial⟩
      case measure => simp [intOf]; omega
end Go.Proofs.YtcdamalpecedcaaGreat
