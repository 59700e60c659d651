/- slices.Grow and slices.Concat of numbers. A key that is appended to: what it owns, what is kept; the walks of the functions that append numbers. -/
import Derived.Laws.AppendOwnNone
import Derived.Lib.AppendZeros
import Derived.Test.YteadniomgbhecaaGreatDoorProg
import Derived.WalkKit
import Derived.WalkLawsBesides
import Derived.Handy
import Derived.Test.YteadniomgbhecaaGreatDoorGMKey
import Derived.Test.YteadniomgbhecaaGreatDoorGMCode
namespace Go.Proofs.YteadniomgbhecaaGreatDoor
open Go.RowKit
set_option maxRecDepth 100000

theorem info_in : (Tryz.prog.info? 3).map (fun i => (i.zero, i.size, i.bytes)) = some (some (.int .i64 0), 1, 8) := by kernel_rfl
/-- a row of numbers that a call owns -/
abbrev OwnN (w : World) (B : Nat) (v : Value) (A : List Int) : Prop := w.ownsRow B 3 1 v A.length (A.map (Value.int .i64))
theorem intVK {k : IntKind} {x y : Int} (h : x = y) : Value.int k x = Value.int k y := by rw [h]
theorem zsizeK (n : Nat) : (Builtin.zeroCells #[Value.int .i64 0] n).size = n * 1 := by rw [size_zeroCells]; rfl
set_option maxHeartbeats 1000000 in
theorem growK_any (n : Nat) (w : World) (hn : n ≤ 1000) :
    Calls Tryz.prog 25 #[.slice none 0 0, .int .i64 (n : Nat)] w fun e w' => (∃ v, e = .returned v ∧ OwnN w' w.heap.size v []) ∧ Below w.heap.size w w' := by
  by_cases h0 : n = 0
  · subst h0
    go_enter Tryz.func25, Tryz.ntmps25
    go_wp2_with fail
    go_ret
    exact ⟨⟨_, rfl, World.ownsRow_nil _ _ _ _⟩, Below.refl _ _⟩
  · have h1 : 0 < n := by omega
    obtain ⟨i, hi, hz0, hz1, hz2⟩ := info_parts info_in
    have hr := fun ty => Lib.run_append_nil_zeros (P := Tryz.prog) w 23 3 ty 3 i _ .i64 .i64 Tryz.underlying23 Tryz.underlying3 hi hz0 n h1 (by rw [hz1]; decide) (by omega) (by rw [hz2]; omega)
    have hk : n ≤ grownCap w n 0 3 := grownCap_ge _ _ _ _
    have hk2 : grownCap w n 0 3 ≤ maxLen := grownCap_le_maxLen _ _ _ _ (by unfold maxLen; omega)
    clear h0 hi hz0 hz1 hz2
    generalize grownCap w n 0 3 = cp at *
    go_enter Tryz.func25, Tryz.ntmps25
    go_wp2_with (at_builtin; refine Lib.wpList_append_run _ rfl _ _ _ _ rfl _ _ rfl rfl _ _ (hr _) ?_)
    go_ret
    have hb : Below w.heap.size w (w.alloc (.cells (Builtin.zeroCells #[.int .i64 0] n ++ Builtin.zeroCells #[.int .i64 0] (cp - n)) 3)) := (Below.refl _ _).alloc (Nat.le_refl _) _
    refine ⟨⟨_, rfl, ⟨rfl, .inr ⟨w.heap.size, cp, _, rfl, Nat.le_refl _, heap_alloc_new w _, Nat.zero_le _, hk2, ?_, rfl⟩⟩⟩, ⟨hb.os, hb.tape, hb.output, hb.size, hb.block⟩⟩
    rw [Array.size_append, zsizeK, zsizeK]
    omega


/-- pointers that are read -/
def RdK (w : World) (p : Option Addr) (P : List Int) : Prop := ∀ i (hi : i < P.length), ∃ b o, p = some ⟨b, o, none⟩ ∧ b < w.heap.size ∧ w.cell? ⟨b, o + i, none⟩ = some (.int .i64 P[i])
theorem RdK.on {w w' : World} {p : Option Addr} {P : List Int} (h : RdK w p P) (hb : Below w.heap.size w w') : RdK w' p P := by
  intro i hi
  obtain ⟨b, o, e, hl, c0⟩ := h i hi
  exact ⟨b, o, e, Nat.lt_of_lt_of_le hl hb.size, (hb.cell (p := ⟨b, o + i, none⟩) hl).trans c0⟩
/-- a slice of pointers, wherever it lies -/
def SlK (w : World) (v : Value) (P : List Int) : Prop := ∃ p c, v = .slice p P.length c ∧ (p = none → P = [] ∧ c = 0) ∧ (∀ a, p = some a → ∃ b o, a = ⟨b, o, none⟩) ∧ RdK w p P
theorem SlK.on {w w' : World} {v : Value} {P : List Int} (h : SlK w v P) (hb : Below w.heap.size w w') : SlK w' v P := by
  obtain ⟨p, c, e, h1, h2, h3⟩ := h
  exact ⟨p, c, e, h1, h2, h3.on hb⟩
theorem int_one (P : List Int) : ∀ u ∈ P.map (Value.int .i64), u.oneCell' = true := by
  intro u hu
  obtain ⟨x, _, rfl⟩ := List.mem_map.1 hu
  rfl
/-- 'append(l, P...)' -/
theorem wpList_appK {ops : Array Oper} {rest : List Oper} {o : Oper} {a : Act} {Q : Exit → Act → World → Prop} (w : World) (hgd : o.guard = none) (s x : Operand)
    (ho : o.op = .call { callee := .builtin .append, args := #[s, x], argTypes := #[23, 23] })
    (B : Nat) (v : Value) (A R : List Int) (p : Option Addr) (c : Nat) (hs : a.eval s = v) (hown : OwnN w B v A) (hx : a.eval x = .slice p R.length c) (hn : p = none → R = [] ∧ c = 0) (ha : ∀ a, p = some a → ∃ b o, a = ⟨b, o, none⟩) (hR : RdK w p R)
    (hl1 : A.length ≤ 1000) (hl2 : R.length ≤ 1000) (hbase : B ≤ w.heap.size)
    (h : ∀ v' w', OwnN w' B v' (A ++ R) → w.grownBy w' v.ownBlock → wpList Tryz.prog ops Q rest (a.put o.dst v') w') : wpList Tryz.prog ops Q (o :: rest) a w := by
  obtain ⟨i, hi, hz0, hz1, hz2⟩ := info_parts info_in
  cases p with
  | none =>
    obtain ⟨rfl, rfl⟩ := hn rfl
    refine wpList_append_own_none hgd s x _ ho B 3 i 1 Tryz.underlying23 hi v _ _ hs hown hx (h v w (by rw [List.append_nil]; exact hown) ⟨rfl, rfl, rfl, Nat.le_refl _, fun _ _ _ => rfl⟩)
  | some ad =>
    obtain ⟨b, o', rfl⟩ := ha ad rfl
    refine wpList_append_own _ hgd s x 23 ho B 3 i _ 1 8 Tryz.underlying23 hi hz0 hz1 hz2 rfl (by decide) v A.length _ hs hown ⟨b, o', none⟩ R.length c (R.map (Value.int .i64)) hx (by rw [List.length_map]; omega) (fun j y hj => ?_) (int_one R) (by unfold maxLen; omega) (by omega) hbase ?_
    · have e : (⟨b, o', none⟩ : Addr).add j = ⟨b, o' + j, none⟩ := by unfold Addr.add; split <;> simp_all
      rw [e]
      have hj1 : j < R.length := by
        have := (List.getElem?_eq_some_iff.1 hj).1
        rwa [List.length_map] at this
      rw [List.getElem?_map, List.getElem?_eq_getElem hj1] at hj
      obtain ⟨b', o'', e', _, c0⟩ := hR j hj1
      injection e' with e'
      injection e' with e1 e2
      subst e1 e2
      rw [c0]
      exact hj
    · intro v' w' h1 h2 _
      refine h v' w' ?_ h2
      show World.ownsRow _ _ _ _ _ _ _
      rw [List.map_append, List.length_append]
      exact h1
theorem flatK_take (Ls : List (List Int)) (j : Nat) (hj : j < Ls.length) : (Ls.take (j + 1)).flatten = (Ls.take j).flatten ++ Ls[j] := by
  rw [List.take_succ_eq_append_getElem hj, List.flatten_append]
  simp
theorem flatK_len (Ls : List (List Int)) (h : ∀ L ∈ Ls, L.length ≤ 256) : Ls.flatten.length ≤ Ls.length * 256 := by
  induction Ls with
  | nil => simp
  | cons L t ih =>
    have h1 := ih (fun M hM => h M (List.mem_cons_of_mem _ hM))
    have h2 := h L List.mem_cons_self
    simp
    simp at h1
    omega
theorem flatK_tlen (Ls : List (List Int)) (h : ∀ L ∈ Ls, L.length ≤ 256) (hk : Ls.length ≤ 3) (j : Nat) : (Ls.take j).flatten.length ≤ 768 := by
  have h1 := flatK_len (Ls.take j) (fun L hL => h L (List.mem_of_mem_take hL))
  have h2 : (Ls.take j).length ≤ 3 := by rw [List.length_take]; omega
  omega
set_option maxHeartbeats 2000000 in
theorem concatK_any (Ls : List (List Int)) (g : Nat) (w : World) (hg : g < w.heap.size) (hc : ∀ i (hi : i < Ls.length), ∃ v, w.cell? ⟨g, i, none⟩ = some v ∧ SlK w v Ls[i]) (hk : Ls.length ≤ 3) (hlen : ∀ L ∈ Ls, L.length ≤ 256) :
    Calls Tryz.prog 15 #[.slice (some ⟨g, 0, none⟩) Ls.length Ls.length] w fun e w' => (∃ v, e = .returned v ∧ OwnN w' w.heap.size v Ls.flatten) ∧ Below w.heap.size w w' := by
  have HC : Hid (∀ i (hi : i < Ls.length), ∃ v, w.cell? ⟨g, i, none⟩ = some v ∧ SlK w v Ls[i]) := hc
  have HT : Hid (∀ j, (Ls.take j).flatten.length ≤ 768) := flatK_tlen Ls hlen hk
  have HLN : Hid (∀ L ∈ Ls, L.length ≤ 256) := hlen
  have HG : Hid (g < w.heap.size) := hg
  clear hc hlen hg
  go_enter Tryz.func15, Tryz.ntmps15
  go_wp2_with fail
  go_loopw [3, 11] (fun s i wr => ∃ j : Nat, j ≤ Ls.length ∧ i = .int .i64 (j : Int) ∧ s = .int .i64 (((Ls.take j).flatten.length : Nat) : Int) ∧ wr = w) (fun _ i _ => Ls.length - (intOf i).toNat)
  case atStart => exact ⟨0, Nat.zero_le _, by go_num, rfl, rfl⟩
  case round =>
    obtain ⟨j, hj, rfl, rfl, hwr⟩ := hrel
    rw [hwr]
    clear hwr
    by_cases hj0 : j = Ls.length
    · subst hj0
      have C1 : Hid (Calls _ _ _ _ _) := growK_any (Ls.take Ls.length).flatten.length w (Nat.le_trans (HT.out _) (by decide))
      generalize (Ls.take Ls.length).flatten.length = sz at *
      go_wp2_with fail
      refine C1.out.mono ?_
      rintro e w2 ⟨⟨v, rfl, hv⟩, hb2⟩
      have HV : Hid (OwnN w2 w.heap.size v []) := hv
      have HB : Hid (Below w.heap.size w w2) := hb2
      clear hv hb2 C1
      go_wp2_with fail
      go_loopw [6, 27] (fun v i wx => ∃ j : Nat, j ≤ Ls.length ∧ i = .int .i64 (j : Int) ∧ Hid (OwnN wx w.heap.size v (Ls.take j).flatten) ∧ Hid (Below w.heap.size w wx)) (fun _ i _ => Ls.length - (intOf i).toNat)
      case atStart => exact ⟨0, Nat.zero_le _, by go_num, HV, HB⟩
      case round =>
        clear HV HB
        obtain ⟨j, hj, rfl, hV, hB⟩ := hrel
        by_cases hj0 : j = Ls.length
        · subst hj0
          rw [List.take_length] at hV
          go_wp2_with fail
          go_ret
          exact ⟨⟨_, rfl, hV.out⟩, hB.out⟩
        · have hj1 : j < Ls.length := by omega
          obtain ⟨v', cv, p, c, rfl, hp1, hp2, hp3⟩ := HC.out j hj1
          have cv2 := (hB.out.cell (p := ⟨g, j, none⟩) HG.out).trans cv
          have HP3 : Hid ((p = none → Ls[j] = [] ∧ c = 0) ∧ (∀ a, p = some a → ∃ b o, a = ⟨b, o, none⟩) ∧ RdK wr p Ls[j]) := ⟨hp1, hp2, fun i hi => by
            obtain ⟨b, o, e, hl, c0⟩ := hp3 i hi
            exact ⟨b, o, e, Nat.lt_of_lt_of_le hl hB.out.size, (hB.out.cell (p := ⟨b, o + i, none⟩) hl).trans c0⟩⟩
          have HFT : Hid ((Ls.take (j + 1)).flatten = (Ls.take j).flatten ++ Ls[j]) := flatK_take Ls j hj1
          have h1 := HT.out j
          have h2 := HLN.out _ (List.getElem_mem hj1)
          have h3 := hB.out.size
          have HL1 : Hid ((Ls.take j).flatten.length ≤ 1000 ∧ Ls[j].length ≤ 1000 ∧ w.heap.size ≤ wr.heap.size) := ⟨by omega, by omega, h3⟩
          clear hp1 hp2 hp3 cv hj0 h1 h2 h3
          go_wp2_with (at_builtin; refine wpList_appK _ rfl (.tmp 31) (.tmp 32) rfl w.heap.size _ (Ls.take j).flatten Ls[j] p c rfl hV.out rfl HP3.out.1 HP3.out.2.1 HP3.out.2.2 HL1.out.1 HL1.out.2.1 HL1.out.2.2 ?_)
          intro v2 w3 g1 g2
          have HV2 : Hid (OwnN w3 w.heap.size v2 (Ls.take (j + 1)).flatten) := show OwnN _ _ _ _ by rw [HFT.out]; exact g1
          have HB2 : Hid (Below w.heap.size w w3) := hB.out.grown g2 hB.out.size (fun k hk => by
            rcases hV.out.2 with ⟨e, _⟩ | ⟨g', cap, cur, e, hge, _⟩
            · rw [e] at hk; cases hk
            · rw [e] at hk; cases hk; exact hge)
          clear g1 g2 hV hB
          go_wp2_with fail
          go_roundw
          case rel => exact ⟨j + 1, by omega, by go_num, HV2, HB2⟩
          case measure => simp [intOf]; omega
    · have hj1 : j < Ls.length := by omega
      obtain ⟨v, cv, p, c, rfl, -⟩ := HC.out j hj1
      have HE : Hid ((((Ls.take (j + 1)).flatten.length : Nat) : Int) = ((Ls.take j).flatten.length : Nat) + (Ls[j].length : Nat)) := show _ = _ by rw [flatK_take Ls j hj1, List.length_append]; omega
      have h1 := HT.out j
      have h2 := HLN.out _ (List.getElem_mem hj1)
      clear hj0
      generalize (Ls.take j).flatten.length = sz at *
      generalize Ls[j].length = ll at *
      go_wp2_with fail
      go_roundw
      case rel => exact ⟨j + 1, by omega, by go_num, intVK HE.out.symm, by trivial⟩
      case measure => simp [intOf]; omega

end Go.Proofs.YteadniomgbhecaaGreatDoor

namespace Go.Proofs.YteadniomgbhecaaGreatDoor
open Go.RowKit
set_option maxRecDepth 100000

theorem info_u8 : (Tryz.prog.info? 5).map (fun i => (i.zero, i.size, i.bytes)) = some (some (.int .u8 0), 1, 1) := by kernel_rfl

/-- bytes as cells -/
def bcells (bs : List UInt8) : List Value := bs.map fun b => Value.int .u8 (b.toNat : Int)
theorem bcells_len (bs : List UInt8) : (bcells bs).length = bs.length := by simp [bcells]
theorem bcells_append (a b : List UInt8) : bcells (a ++ b) = bcells a ++ bcells b := by simp [bcells]
/-- the slice v owns these bytes, in a block of number B or more -/
def OwnB (w : World) (B : Nat) (v : Value) (bs : List UInt8) : Prop := w.ownsRow B 5 1 v bs.length (bcells bs)
/-- all blocks below B, and all that are no rows of bytes, are as they were -/
structure Keep5 (B : Nat) (w w' : World) : Prop where
  below : Below B w w'
  other : ∀ (k : Nat) (o : Obj), w.heap[k]? = some o → (∀ c fr, o ≠ Obj.cells c 5 fr) → w'.heap[k]? = w.heap[k]?

theorem Keep5.refl (B : Nat) (w : World) : Keep5 B w w := ⟨Below.refl _ _, fun _ _ _ _ => rfl⟩
theorem Keep5.trans {B : Nat} {a b c : World} (h : Keep5 B a b) (k : Keep5 B b c) : Keep5 B a c :=
  ⟨h.below.trans k.below, fun j o hj ho => by
    have h1 := h.other j o hj ho
    rw [k.other j o (h1.trans hj) ho, h1]⟩
theorem Keep5.mono {B C : Nat} {a b : World} (h : Keep5 B a b) (hc : C ≤ B) : Keep5 C a b := ⟨h.below.mono hc, h.other⟩
theorem Keep5.of_below {B : Nat} {a b : World} (h : Below a.heap.size a b) (hb : B ≤ a.heap.size) : Keep5 B a b :=
  ⟨h.mono hb, fun j _o hj _ => h.block j (Array.getElem?_eq_some_iff.1 hj).1⟩
theorem Keep5.alloc {B : Nat} (w : World) (o : Obj) (hb : B ≤ w.heap.size) : Keep5 B w (w.alloc o) := Keep5.of_below ((Below.refl _ _).alloc (Nat.le_refl _) o) hb
theorem Keep5.drew {B : Nat} {a w : World} (h : Keep5 B a w) : Keep5 B a w.drew := ⟨h.below.drew, h.other⟩
theorem OwnB.mono {w : World} {B C : Nat} {v : Value} {bs : List UInt8} (h : OwnB w B v bs) (hc : C ≤ B) : OwnB w C v bs := by
  refine ⟨h.1, ?_⟩
  rcases h.2 with h1 | ⟨g, cap, cur, e, hb, r⟩
  · exact .inl h1
  · exact .inr ⟨g, cap, cur, e, Nat.le_trans hc hb, r⟩
theorem OwnB.nil (w : World) (B : Nat) : OwnB w B (.slice none 0 0) [] := World.ownsRow_nil w B _ _
theorem OwnB.kept {w w' : World} {B : Nat} {v : Value} {bs : List UInt8} (h : OwnB w B v bs) (hb : Below w.heap.size w w') : OwnB w' B v bs := by
  refine ⟨h.1, ?_⟩
  rcases h.2 with h1 | ⟨g, cap, cur, e, hb', hg, r⟩
  · exact .inl h1
  · exact .inr ⟨g, cap, cur, e, hb', (hb.block g (Array.getElem?_eq_some_iff.1 hg).1).trans hg, r⟩
theorem OwnB.shape {w : World} {B : Nat} {v : Value} {bs : List UInt8} (h : OwnB w B v bs) : (v = .slice none 0 0 ∧ bs = []) ∨
    ∃ g cap, v = .slice (some ⟨g, 0, none⟩) bs.length cap ∧ B ≤ g ∧ g < w.heap.size ∧ ∀ j (hj : j < bs.length), w.cell? ⟨g, j, none⟩ = some (.int .u8 (bs[j].toNat : Int)) := by
  rcases h.2 with ⟨h1, h2⟩ | ⟨g, cap, cur, e, hb, hg, hr⟩
  · exact .inl ⟨h1, List.eq_nil_of_length_eq_zero h2⟩
  · refine .inr ⟨g, cap, e, hb, (Array.getElem?_eq_some_iff.1 hg).1, fun j hj => ?_⟩
    subst e
    have := World.ownsRow.cellAt (w := w) (e := 5) (size := 1) (g := g) (cap := cap) h j (by omega)
    rw [this]
    simp [bcells, hj]
theorem OwnB.len {w : World} {B : Nat} {v : Value} {bs : List UInt8} (h : OwnB w B v bs) : ∃ p cap, v = .slice p bs.length cap := by
  rcases h.shape with ⟨rfl, rfl⟩ | ⟨g, cap, e, _⟩
  · exact ⟨none, 0, rfl⟩
  · exact ⟨_, cap, e⟩
theorem keep_grown {B : Nat} {w w' : World} {v : Value} {bs : List UInt8} (h : OwnB w B v bs) (hb : B ≤ w.heap.size) (hg : w.grownBy w' v.ownBlock) : Keep5 B w w' := by
  refine ⟨(Below.refl _ _).grown hg hb (fun k hk => (h.lt k hk).1), fun k o hk ho => hg.block k (Array.getElem?_eq_some_iff.1 hk).1 ?_⟩
  intro e
  rcases h.2 with ⟨h1, h2⟩ | ⟨g, cap, cur, e2, _, hg2, _⟩
  · rw [h1] at e; simp [Value.ownBlock] at e
  · rw [e2] at e
    simp only [Value.ownBlock, Option.some.injEq] at e
    rw [e, hg2] at hk
    exact ho cur (0, 0) (Option.some.inj hk).symm

/-- 'append(key, src...)': the law for bytes -/
theorem wpList_app {ops : Array Oper} {rest : List Oper} {o : Oper} {a : Act} {Q : Exit → Act → World → Prop} (w : World) (hgd : o.guard = none) (s x : Operand)
    (ho : o.op = .call { callee := .builtin .append, args := #[s, x], argTypes := #[48, 48] })
    (B : Nat) (v : Value) (bs : List UInt8) (hs : a.eval s = v) (hown : OwnB w B v bs)
    (ad : Addr) (m c : Nat) (news : List UInt8) (hx : a.eval x = .slice (some ad) m c) (hm : news.length = m) (hnews : ∀ j (hj : j < news.length), w.cell? (ad.add j) = some (.int .u8 (news[j].toNat : Int)))
    (hlen : bs.length + news.length ≤ 140737488355328) (hbase : B ≤ w.heap.size)
    (h : ∀ v' w', OwnB w' B v' (bs ++ news) → Keep5 B w w' → wpList Tryz.prog ops Q rest (a.put o.dst v') w') : wpList Tryz.prog ops Q (o :: rest) a w := by
  obtain ⟨i, hi, hz0, hz1, hz2⟩ := info_parts info_u8
  subst hm
  refine wpList_append_own w hgd s x 48 ho B 5 i (.int .u8 0) 1 1 Tryz.underlying48 hi hz0 hz1 hz2 rfl (by decide) v bs.length (bcells bs) hs hown ad news.length c (bcells news) hx (by simp [bcells]) ?_ ?_ (by unfold maxLen; omega) (by omega) hbase ?_
  · intro j u hj
    have hj' : j < news.length := by
      have := (List.getElem?_eq_some_iff.1 hj).1
      simpa [bcells] using this
    rw [hnews j hj']
    simp [bcells, hj'] at hj
    rw [← hj]
  · intro u hu
    simp [bcells] at hu
    obtain ⟨b, _, rfl⟩ := hu
    rfl
  · intro v' w' h1 h2 _
    refine h v' w' ?_ (keep_grown hown hbase h2)
    unfold OwnB
    rw [bcells_append, List.length_append]
    exact h1
/-- 'append(key, x)' -/
theorem wpList_app1 {ops : Array Oper} {rest : List Oper} {o : Oper} {a : Act} {Q : Exit → Act → World → Prop} (w : World) (hgd : o.guard = none) (s x : Operand)
    (ho : o.op = .call { callee := .builtin .append, args := #[s, x], argTypes := #[48, 48] })
    (B : Nat) (v : Value) (bs : List UInt8) (hs : a.eval s = v) (hown : OwnB w B v bs)
    (b : UInt8) (z : Int) (hz : z = (b.toNat : Int)) (hx : a.eval x = .slice (some ⟨w.heap.size, 0, none⟩) 1 1)
    (hlen : bs.length + 1 ≤ 140737488355328) (hbase : B ≤ w.heap.size)
    (h : ∀ v' w', OwnB w' B v' (bs ++ [b]) → Keep5 B w w' → wpList Tryz.prog ops Q rest (a.put o.dst v') w') : wpList Tryz.prog ops Q (o :: rest) a (w.alloc (.cells #[.int .u8 z] 5)) := by
  subst hz
  refine wpList_app _ hgd s x ho B v bs hs (hown.kept ((Below.refl _ _).alloc (Nat.le_refl _) _)) ⟨w.heap.size, 0, none⟩ 1 1 [b] hx rfl ?_ (by simpa using hlen) (by simp; omega) fun v' w' h1 h2 => h v' w' h1 ((Keep5.alloc w _ hbase).trans h2)
  intro j hj
  have : j = 0 := by simp at hj; omega
  subst this
  simp [Addr.add]

theorem hiB_take (n : Nat) : ∀ (k j : Nat), j < k → (hiB n k).take (k - j) = (hiB n k).take (k - (j + 1)) ++ [UInt8.ofNat (n / 256 ^ j)]
  | 0, j, h => by omega
  | k + 1, j, h => by
    by_cases e : j = k
    · subst e
      have e1 : j + 1 - j = 1 := by omega
      have e2 : j + 1 - (j + 1) = 0 := by omega
      rw [e1, e2]
      simp [hiB]
    · have ih := hiB_take n k j (by omega)
      have e1 : k + 1 - j = (k - j) + 1 := by omega
      have e2 : k + 1 - (j + 1) = (k - (j + 1)) + 1 := by omega
      rw [e1, e2]
      simp only [hiB, List.take_succ_cons, List.cons_append, ih]
theorem hiB_take_all (n k : Nat) : (hiB n k).take (k - 0) = hiB n k := by
  rw [List.take_of_length_le]; rw [hiB_len]; omega

theorem byte_shr (n j : Nat) : ((n : Int) / 2 ^ (8 * j) % 256) = ((UInt8.ofNat (n / 256 ^ j)).toNat : Int) := by
  have e : (2 : Int) ^ (8 * j) = ((256 ^ j : Nat) : Int) := by
    rw [show (256 : Nat) = 2 ^ 8 from rfl, ← Nat.pow_mul]; norm_cast
  rw [ofNat_toNat8, e]
  norm_cast

theorem take_len (n k t : Nat) (h : k ≤ 8) : ((hiB n k).take t).length ≤ 8 := by
  rw [List.length_take, hiB_len]; omega

set_option maxHeartbeats 1000000 in
theorem appendHigh_any (B : Nat) (v : Value) (bs : List UInt8) (n k : Nat) (w : World) (hB : B ≤ w.heap.size) (ho : OwnB w B v bs) (hk : k ≤ 8) (_hn : n < 18446744073709551616) (hl : bs.length ≤ 1099511627776) :
    Calls Tryz.prog 61 #[v, .int .u64 (n : Int), .int .i64 (k : Int)] w fun e w' => ∃ v', e = .returned v' ∧ OwnB w' B v' (bs ++ hiB n k) ∧ Keep5 B w w' := by
  go_enter Tryz.func61, Tryz.ntmps61
  go_wp2_with fail
  go_loopw [0, 7] (fun v' i wr => ∃ j : Nat, j ≤ k ∧ i = .int .i64 ((j : Int) - 1) ∧ OwnB wr B v' (bs ++ (hiB n k).take (k - j)) ∧ Keep5 B w wr) (fun _ i _ => (intOf i + 1).toNat)
  case atStart => exact ⟨k, Nat.le_refl _, by go_num, by simpa using ho, Keep5.refl _ _⟩
  case round =>
    obtain ⟨j, hj, rfl, hown, hkp⟩ := hrel
    have hz := hkp.below.size
    have HO : Hid (OwnB _ B _ _ ∧ Keep5 B w _) := ⟨hown, hkp⟩
    clear hown hkp
    by_cases hj0 : j = 0
    · subst hj0
      go_wp2
      go_ret
      have h1 := HO.out.1
      rw [hiB_take_all] at h1
      exact ⟨_, rfl, h1, HO.out.2⟩
    · obtain ⟨i, rfl⟩ : ∃ i, j = i + 1 := ⟨j - 1, by omega⟩
      go_wp2_with (at_builtin; refine wpList_app1 _ rfl _ _ rfl B _ _ rfl HO.out.1 (UInt8.ofNat (n / 256 ^ i)) _ ?zz rfl ?ll ?bb ?_)
      case zz => exact byte_shr n i
      case ll => have := take_len n k (k - (i + 1)) hk; rw [List.length_append]; omega
      case bb => omega
      intro v' w1 h1 h2
      have R : Hid (OwnB w1 B v' (bs ++ (hiB n k).take (k - i)) ∧ Keep5 B w w1) := ⟨by rw [hiB_take n k i (by omega)]; exact h1, HO.out.2.trans h2⟩
      clear h1 h2
      go_wp2
      go_roundw
      case rel => exact ⟨i, by omega, by go_num, R.out.1, R.out.2⟩
      case measure => simp [intOf]

end Go.Proofs.YteadniomgbhecaaGreatDoor
