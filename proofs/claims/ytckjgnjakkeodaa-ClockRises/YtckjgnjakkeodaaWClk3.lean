/- The walks of areOpen, openUpTo, Open. -/
import Derived.Test.YtckjgnjakkeodaaWClk2
namespace Go.Proofs.Ytckjgnjakkeodaa
open Go.RowKit
set_option maxRecDepth 100000

/-- 'append(l, x)' -/
theorem wpList_app1 {ops : Array Oper} {rest : List Oper} {o : Oper} {a : Act} {Q : Exit → Act → World → Prop} (w : World) (hgd : o.guard = none) (s x : Operand) (T S : TypeId) (z : Value) (size bytes : Nat)
    (ho : o.op = .call { callee := .builtin .append, args := #[s, x], argTypes := #[S, S] }) (hu : Try.prog.underlying S = some (.slice T))
    (hinfo : (Try.prog.info? T).map (fun i => (i.zero, i.size, i.bytes)) = some (some z, size, bytes)) (hzs : z.cells.size = size) (hsz : 0 < size)
    (B : Nat) (v : Value) (n : Nat) (xs : List Value) (hs : a.eval s = v) (hown : w.ownsRow B T size v n xs)
    (us : List Value) (hus : us.length = size) (hone : ∀ u ∈ us, u.oneCell' = true) (g : Nat) (hx : a.eval x = .slice (some ⟨g, 0, none⟩) 1 1) (hgz : g = w.heap.size)
    (hlen : (n + 1) * bytes ≤ 140737488355328) (hlen2 : n + 1 ≤ 140737488355328) (hbase : B ≤ w.heap.size)
    (h : ∀ v' w', w'.ownsRow B T size v' (n + 1) (xs ++ us) → Below B w w' → (w.alloc (.cells us.toArray T)).grownBy w' v.ownBlock → wpList Try.prog ops Q rest (a.put o.dst v') w') : wpList Try.prog ops Q (o :: rest) a (w.alloc (.cells us.toArray T)) := by
  obtain ⟨i, hi, hz0, hz1, hz2⟩ := info_parts hinfo
  subst hgz
  have hown' := hown.alloc (.cells us.toArray T)
  refine wpList_append_own _ hgd s x S ho B T i z size bytes hu hi hz0 hz1 hz2 hzs hsz v n xs hs hown' ⟨w.heap.size, 0, none⟩ 1 1 us hx (by omega) ?_ hone (by unfold maxLen; omega) hlen (by simp; omega) ?_
  · intro j y hj
    have e : (⟨w.heap.size, 0, none⟩ : Addr).add j = ⟨w.heap.size, j, none⟩ := by unfold Addr.add; split <;> simp_all
    rw [e, World.cell?_alloc_new]
    simpa using hj
  · intro v' w' h1 h2 _
    exact h v' w' h1 (((Below.refl _ _).alloc hbase _).grown h2 (by simp; omega) (fun k hk => (hown'.lt k hk).1)) h2

/-- stamps that are read: they lie in a block from lo on -/
def RdU (w : World) (lo : Nat) (p : Option Addr) (O : List Nat) : Prop := ∀ i (hi : i < O.length), ∃ g o, p = some ⟨g, o, none⟩ ∧ lo ≤ g ∧ g < w.heap.size ∧ w.cell? ⟨g, o + i, none⟩ = some (.int .u64 (O[i] : Nat))
theorem RdU.grown {w w' : World} {lo b : Nat} {p : Option Addr} {O : List Nat} (h : RdU w lo p O) (hg : w.grownBy w' (some b)) (hb : b < lo) : RdU w' lo p O := by
  intro i hi
  obtain ⟨g, o, e, h1, h2, h3⟩ := h i hi
  exact ⟨g, o, e, h1, Nat.lt_of_lt_of_le h2 hg.size, hg.cell h3 (by simp; omega)⟩
theorem RdU.keep {w w' : World} {lo B : Nat} {p : Option Addr} {O : List Nat} (h : RdU w lo p O) (hb : Below B w w') (hB : w.heap.size ≤ B) : RdU w' lo p O := by
  intro i hi
  obtain ⟨g, o, e, h1, h2, h3⟩ := h i hi
  exact ⟨g, o, e, h1, Nat.lt_of_lt_of_le h2 hb.size, (hb.cell (p := ⟨g, o + i, none⟩) (Nat.lt_of_lt_of_le h2 hB)).trans h3⟩
theorem RdU.weaken {w : World} {lo lo' : Nat} {p : Option Addr} {O : List Nat} (h : RdU w lo p O) (hl : lo' ≤ lo) : RdU w lo' p O := by
  intro i hi
  obtain ⟨g, o, e, h1, h2, h3⟩ := h i hi
  exact ⟨g, o, e, Nat.le_trans hl h1, h2, h3⟩
/-- the cells of stamps -/
def cellsU (O : List Nat) : List Value := O.map (fun s => .int .u64 (s : Nat))
theorem rd_of_owns {w : World} {B T : Nat} {v : Value} {O : List Nat} (h : w.ownsRow B T 1 v O.length (cellsU O)) : ∃ p c, v = .slice p O.length c ∧ RdU w B p O := by
  rcases h.2 with ⟨h1, h2⟩ | ⟨g, cap, cur, hv, hg, hgg, _⟩
  · refine ⟨none, 0, by rw [h1, h2], fun i hi => ?_⟩
    omega
  · refine ⟨_, cap, hv, fun i hi => ⟨g, 0, rfl, hg, ?_, ?_⟩⟩
    · exact (Array.getElem?_eq_some_iff.1 hgg).1
    · subst hv
      have := World.ownsRow.cellAt h i (by simp; exact hi)
      rw [Nat.zero_add, this]
      unfold cellsU
      rw [List.getElem?_map, List.getElem?_eq_getElem hi]
      rfl
theorem info_u64 : (Try.prog.info? 22).map (fun i => (i.zero, i.size, i.bytes)) = some (some (.int .u64 0), 1, 8) := by kernel_rfl

set_option maxHeartbeats 2000000 in
theorem areOpen_any (b la fr : Nat) (D : Nat → Nat) (O : List Nat) (p : Option Addr) (c : Nat) (w : World) (h : Clk w b la fr D) (hR : RdU w 0 p O) (hD : ∀ s ∈ O, D (s % 4096) < s) (hlen : O.length ≤ 4096) :
    Calls Try.prog 31 #[.pointer (some ⟨b, 0, none⟩), .slice p O.length c] w fun e w' => e = .returned (.bool true) ∧ w' = w := by
  have HR : Hid (RdU _ _ _ _) := hR
  have C1 : Hid (∀ j (hj : j < O.length), Calls Try.prog 41 #[.pointer (some ⟨b, 0, none⟩), .int .u64 (O[j] : Nat)] w fun e w' => e = .returned (.bool true) ∧ w' = w) := by
    intro j hj
    have := isOpen_any b la fr D O[j] w h
    rw [decide_eq_true (hD _ (List.getElem_mem hj))] at this
    exact this
  clear hR hD h
  go_enter Try.func31, Try.ntmps31
  go_wp2_with fail
  go_loopw [6, 9] (fun _ i wr => ∃ j : Nat, j ≤ O.length ∧ i = .int .i64 (j : Int) ∧ wr = w) (fun _ i _ => O.length - (intOf i).toNat)
  case atStart => exact ⟨0, Nat.zero_le _, by go_num, rfl⟩
  case round =>
    obtain ⟨j, hj, rfl, hw⟩ := hrel
    rw [hw]
    clear hw
    by_cases hj0 : j = O.length
    · subst hj0
      go_wp2
      go_ret
      exact ⟨rfl, rfl⟩
    · have hj1 : j < O.length := by omega
      obtain ⟨g, o, rfl, _, _, d0⟩ := HR.out j hj1
      have C1' : Hid (Calls _ _ _ _ _) := C1.out j hj1
      generalize O[j] = x at *
      go_wp2_with fail
      refine C1'.out.mono ?_
      rintro e w2 ⟨rfl, hw⟩
      rw [hw]
      clear hw
      go_wp2_with fail
      go_roundw
      case rel => exact ⟨j + 1, hj1, by go_num, trivial⟩
      case measure => simp [intOf]; omega

set_option maxHeartbeats 4000000 in
theorem openUpTo_any (b la fr : Nat) (D : Nat → Nat) (O : List Nat) (w : World) (h : Clk w b la fr D) (hO : ClkO la fr D O) :
    Calls Try.prog 30 #[.pointer (some ⟨b, 0, none⟩), .int .u64 la] w fun e w' => ∃ v, e = .returned v ∧ w'.ownsRow w.heap.size 22 1 v O.length (cellsU O) ∧ Clk w' b la (frO la O) D ∧ w.grownBy w' (some b) := by
  have C0 : Hid (True → Calls _ _ _ _ _) := fun _ => front_any b la fr D O w h hO
  have HO : Hid (opn D (frO la O) (la - frO la O) = O) := hO.opn_eq
  have hle := hO.le
  have htop := hO.top
  have hring := hO.ring
  have hbl := h.lt
  clear h hO
  generalize frO la O = F at *
  go_enter Try.func30, Try.ntmps30
  go_wp2_with fail
  refine (C0.out trivial).mono ?_
  rintro e w1 ⟨rfl, hC, hG⟩
  have HC : Hid (Clk _ _ _ _ _) := hC
  have HG : Hid (World.grownBy _ _ _) := hG
  have hsz := hG.size
  clear hC hG C0
  go_wp2_with fail
  go_loopw [5, 6] (fun u i wr => ∃ j : Nat, j ≤ la - F ∧ i = .int .u64 ((F + 1 + j : Nat) : Int) ∧ Hid (wr.ownsRow w.heap.size 22 1 u (opn D F j).length (cellsU (opn D F j))) ∧ Hid (Clk wr b la F D) ∧ Hid (w.grownBy wr (some b))) (fun _ i _ => la + 1 - (intOf i).toNat)
  case atStart => exact ⟨0, Nat.zero_le _, by simp, ⟨rfl, .inl ⟨rfl, rfl⟩⟩, HC, HG⟩
  case round =>
    obtain ⟨j, hj, rfl, hO, hC, hG⟩ := hrel
    by_cases hj0 : j = la - F
    · have a1 : ¬ (((F + 1 + j : Nat) : Int) ≤ (la : Int)) := by omega
      subst hj0
      rw [HO.out] at hO
      go_wp2
      go_ret
      exact ⟨_, rfl, hO.out, hC.out, hG.out⟩
    · have hj1 : j < la - F := by omega
      have a1 : ((F + 1 + j : Nat) : Int) ≤ (la : Int) := by omega
      have C1 : Hid (Calls _ _ _ _ _) := isOpen_any b la F D (F + 1 + j) wr hC.out
      have HS : Hid (opn D F (j + 1) = _) := opn_succ D F j
      have hul : (opn D F j).length ≤ 4096 := Nat.le_trans (opn_len D F j) (by omega)
      have hwb : w.heap.size ≤ wr.heap.size := hG.out.size
      have a2 : (intOf (.int .u64 ((F + 1 + j : Nat) : Int))).toNat = F + 1 + j := by simp [intOf]; omega
      have A2 : Hid _ := a2
      have e3 : ((F + 1 + (j + 1) : Nat) : Int) = ((F + 1 + j : Nat) : Int) + 1 := by omega
      have E3 : Hid _ := e3
      have b1 : F + 1 + j ≤ 4611686018427387904 := by omega
      clear a2 e3
      by_cases hd : D ((F + 1 + j) % 4096) < F + 1 + j
      · rw [if_pos hd] at HS
        rw [decide_eq_true hd] at C1
        clear hd
        have hm : F + 1 + j ≤ la := by omega
        generalize opn D F j = U at *
        generalize hs : F + 1 + j = s at *
        have Hs : Hid _ := hs
        clear hs
        go_wp2_with fail
        refine C1.out.mono ?_
        rintro e w2 ⟨rfl, hw⟩
        rw [hw]
        clear hw
        go_wp2_with (first | (at_builtin; go_loud (refine wpList_app1 _ rfl (.tmp 18) _ 22 27 _ 1 8 rfl Try.underlying27 info_u64 rfl (by decide) w.heap.size u5 _ _ (by rfl) hO.out [.int .u64 (s : Nat)] rfl (by intro u hu; have e : u = .int .u64 (s : Nat) := (by simpa using hu); subst e; rfl) _ rfl (by simp) (by omega) (by omega) hwb ?_); intro v6 w6 h6 h7 h8))
        have hC6 : Clk w6 b la F D := hC.out.keep h7 hbl
        have hG6 : w.grownBy w6 (some b) := ⟨h7.os.trans hG.out.os, h7.tape.trans hG.out.tape, h7.output.trans hG.out.output, Nat.le_trans hwb h7.size, fun k hk hn => (h7.block k hk).trans (hG.out.block k hk hn)⟩
        go_roundw
        case rel => exact ⟨j + 1, by omega, by rw [E3.out], (show World.ownsRow _ _ _ _ _ _ _ by rw [HS.out, List.length_append]; unfold cellsU; rw [List.map_append]; exact h6), hC6, hG6⟩
        case measure => simp [intOf]; omega
      · rw [if_neg hd] at HS
        rw [decide_eq_false hd] at C1
        clear hd
        have hm : F + 1 + j ≤ la := by omega
        generalize opn D F j = U at *
        generalize hs : F + 1 + j = s at *
        have Hs : Hid _ := hs
        clear hs
        go_wp2_with fail
        refine C1.out.mono ?_
        rintro e w2 ⟨rfl, hw⟩
        rw [hw]
        clear hw
        go_wp2_with fail
        go_roundw
        case rel => exact ⟨j + 1, by omega, by rw [E3.out], (show World.ownsRow _ _ _ _ _ _ _ by rw [HS.out]; exact hO.out), hC, hG⟩
        case measure => simp [intOf]; omega

set_option maxHeartbeats 4000000 in
theorem open_any (b la fr : Nat) (D : Nat → Nat) (O : List Nat) (w : World) (h : Clk w b la fr D) (hO : ClkO la fr D O) :
    Calls Try.prog 16 #[.pointer (some ⟨b, 0, none⟩)] w fun e w' => ∃ p c, e = .returned (.slice p O.length c) ∧ RdU w' w.heap.size p O ∧ Clk w' b la (frO la O) D ∧ w.grownBy w' (some b) := by
  have C1 : Hid (Calls _ _ _ _ _) := given_any b la fr D w h
  have C2 : Hid (Calls _ _ _ _ _) := load_any b 1 la w h.last.1
  have C3 : Hid (True → Calls _ _ _ _ _) := fun _ => openUpTo_any b la fr D O w h hO
  have HD : Hid (∀ s ∈ O, D (s % 4096) < s) := fun s hs => (hO.is_open s hs).2.2
  have hlen := hO.len
  clear h hO
  generalize frO la O = F at *
  go_enter Try.func16, Try.ntmps16
  go_wp2_with fail
  refine C1.out.mono ?_
  rintro e w2 ⟨rfl, hw⟩
  rw [hw]
  clear hw
  go_wp2_with fail
  go_loopw [] (fun wr => wr = w) (fun _ => 0)
  case atStart => rfl
  case round =>
    rw [hrel]
    clear hrel
    go_wp2_with fail
    refine C2.out.mono ?_
    rintro e w2 ⟨rfl, hw⟩
    rw [hw]
    clear hw
    go_wp2_with fail
    refine (C3.out trivial).mono ?_
    rintro e w2 ⟨v, rfl, hown, hC, hG⟩
    obtain ⟨p, c, rfl, hR⟩ := rd_of_owns hown
    have HR : Hid (RdU _ _ _ _) := hR
    have HC : Hid (Clk _ _ _ _ _) := hC
    have HG : Hid (World.grownBy _ _ _) := hG
    have C4 : Hid (Calls _ _ _ _ _) := areOpen_any b la F D O p c w2 hC (hR.weaken (Nat.zero_le _)) HD.out hlen
    have C5 : Hid (Calls _ _ _ _ _) := load_any b 1 la w2 hC.last.1
    clear hown hC hG hR C1 C2 C3
    go_wp2_with fail
    refine C4.out.mono ?_
    rintro e w3 ⟨rfl, hw⟩
    rw [hw]
    clear hw
    go_wp2_with fail
    refine C5.out.mono ?_
    rintro e w3 ⟨rfl, hw⟩
    rw [hw]
    clear hw
    go_wp2_with fail
    go_ret
    exact ⟨_, _, rfl, HR.out, HC.out, HG.out⟩
end Go.Proofs.Ytckjgnjakkeodaa
