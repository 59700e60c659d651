/- The walk of Print at the small table. -/
import Derived.Laws.AppendOwnNone
import Derived.Test.YthbjheiogghjnaaGreatDoorGWSmall
namespace Go.Proofs.YthbjheiogghjnaaGreatDoor
open Go.RowKit Go.Shelf Go.Lib
set_option maxRecDepth 100000

/-- the word of ints, in the program's table of kinds -/
def KW (w : World) : Prop := w.cell? ⟨0, 2, none⟩ = some (.string ⟨#[105, 110, 116]⟩) ∧ 0 < w.heap.size
theorem KW.on {w w' : World} (h : KW w) (hb : Below w.heap.size w w') : KW w' := ⟨(hb.cell (p := ⟨0, 2, none⟩) h.2).trans h.1, Nat.lt_of_lt_of_le h.2 hb.size⟩
theorem info_str : (Tryz.prog.info? 9).map (fun i => (i.zero, i.size, i.bytes)) = some (some (.string ⟨#[]⟩), 1, 16) := by kernel_rfl
theorem info_parts1 {T : TypeId} {z : Value} {s b : Nat} (h : (Tryz.prog.info? T).map (fun i => (i.zero, i.size, i.bytes)) = some (some z, s, b)) : ∃ i, Tryz.prog.info? T = some i ∧ i.zero = some z ∧ i.size = s ∧ i.bytes = b := by
  cases hi : Tryz.prog.info? T with
  | none => rw [hi] at h; cases h
  | some i =>
    rw [hi] at h
    simp only [Option.map_some, Option.some.injEq, Prod.mk.injEq] at h
    exact ⟨i, rfl, h.1, h.2.1, h.2.2⟩
/-- a slice of texts that the call owns -/
def OwnS (w : World) (B : Nat) (v : Value) (L : List ByteArray) : Prop := w.ownsRow B 9 1 v L.length (L.map Value.string)
theorem OwnS.nil (w : World) (B : Nat) : OwnS w B (.slice none 0 0) [] := World.ownsRow_nil w B _ _
theorem OwnS.kept {w w' : World} {B : Nat} {v : Value} {L : List ByteArray} (h : OwnS w B v L) (hb : Below w.heap.size w w') : OwnS w' B v L := by
  refine ⟨h.1, ?_⟩
  rcases h.2 with h1 | ⟨g, cap, cur, e, hb', hg, r⟩
  · exact .inl h1
  · exact .inr ⟨g, cap, cur, e, hb', (hb.block g (Array.getElem?_eq_some_iff.1 hg).1).trans hg, r⟩
theorem OwnS.form {w : World} {B : Nat} {v : Value} {L : List ByteArray} (h : OwnS w B v L) (hl : 0 < L.length) : ∃ g cap, v = .slice (some ⟨g, 0, none⟩) L.length cap ∧ B ≤ g ∧ g < w.heap.size ∧ L.length ≤ cap ∧ ∀ (j : Nat) x, L[j]? = some x → w.cell? ⟨g, 0 + j, none⟩ = some (.string x) := by
  have h0 := h
  rcases h.2 with ⟨_, h2⟩ | ⟨g, cap, cur, e, hb, hg, hc, _⟩
  · omega
  · subst e
    refine ⟨g, cap, rfl, hb, (Array.getElem?_eq_some_iff.1 hg).1, hc, fun j x hx => ?_⟩
    have hj : j < L.length := (List.getElem?_eq_some_iff.1 hx).1
    rw [Nat.zero_add]
    have h1 := World.ownsRow.cellAt h0 j (by omega)
    rw [h1, List.getElem?_map, hx]
    rfl
theorem wpList_appS {ops : Array Oper} {rest : List Oper} {o : Oper} {a : Act} {Q : Exit → Act → World → Prop} (w : World) (hgd : o.guard = none) (s x : Operand)
    (ho : o.op = .call { callee := .builtin .append, args := #[s, x], argTypes := #[35, 35] })
    (B : Nat) (v : Value) (L : List ByteArray) (hs : a.eval s = v) (hown : OwnS w B v L)
    (u : ByteArray) (g : Nat) (hx : a.eval x = .slice (some ⟨g, 0, none⟩) 1 1) (hgz : g = w.heap.size)
    (hlen : L.length + 1 ≤ 8796093022208) (hbase : B ≤ w.heap.size)
    (h : ∀ v' w', OwnS w' B v' (L ++ [u]) → Below B w w' → wpList Tryz.prog ops Q rest (a.put o.dst v') w') : wpList Tryz.prog ops Q (o :: rest) a (w.alloc (.cells #[.string u] 9)) := by
  obtain ⟨i, hi, hz0, hz1, hz2⟩ := info_parts1 info_str
  subst hgz
  have hown' : OwnS (w.alloc (.cells #[.string u] 9)) B v L := hown.kept ((Below.refl _ _).alloc (Nat.le_refl _) _)
  refine wpList_append_own _ hgd s x 35 ho B 9 i (.string ⟨#[]⟩) 1 16 Tryz.underlying35 hi hz0 hz1 hz2 rfl (by decide) v L.length (L.map Value.string) hs hown' ⟨w.heap.size, 0, none⟩ 1 1 [.string u] hx rfl ?_ ?_ (by unfold maxLen; omega) (by omega) (by simp; omega) ?_
  · intro j y hj
    have hj' : j = 0 := by
      have := (List.getElem?_eq_some_iff.1 hj).1
      simpa using this
    subst hj'
    simp at hj
    subst hj
    simp [go_sem, Addr.add]
  · intro y hy
    simp at hy
    subst hy
    rfl
  · intro v' w' h1 h2 _
    refine h v' w' ?_ ?_
    · unfold OwnS
      rw [List.map_append, List.length_append]
      exact h1
    · exact ((Below.refl _ _).alloc hbase _).grown h2 (by simp; omega) (fun k hk => (hown'.lt k hk).1)
theorem join_any (w : World) (B : Nat) (v : Value) (L : List ByteArray) (sep : ByteArray) (h : OwnS w B v L) (hl : 0 < L.length) (hn : L.length ≤ 8796093022208) (hj : (Lib.join (L.map (·.data.toList)) sep.data.toList).length ≤ 140737488355328) :
    Calls Tryz.prog 12 #[v, .string sep] w fun e w' => e = .returned (.string ⟨(Lib.join (L.map (·.data.toList)) sep.data.toList).toArray⟩) ∧ Below w.heap.size w w' := by
  obtain ⟨g, cap, rfl, _, hg, hc, hcell⟩ := h.form hl
  exact Tryz.strings_Join g 0 cap L sep w hcell hg (by omega) hc hj

set_option maxHeartbeats 4000000 in
theorem colText_small (w : World) (hK : KW w) : Calls Tryz.prog 9 #[smallC.val] w fun e w' => e = .returned (.string ⟨#[97, 32, 105, 110, 116, 32, 110, 111, 116, 32, 110, 117, 108, 108]⟩) ∧ Below w.heap.size w w' := by
  unfold Cl.val smallC
  dsimp only
  obtain ⟨k1, k2⟩ := hK
  go_enter Tryz.func9, Tryz.ntmps9
  go_wp2_with fail
  go_quiet (fail)
  go_wp2
  go_ret
  exact ⟨by kernel_rfl, ((Below.refl _ _).alloc (Nat.le_refl _) _).trans ((below_drewN _ _).mono (by simp))⟩

set_option maxHeartbeats 4000000 in
theorem listText_small (a : TabP) (w : World) (hV : TabV w w.heap.size smallT a) : Calls Tryz.prog 10 #[a.val smallT, .slice a.pk 1 a.ck] w fun e w' => e = .returned (.string ⟨#[40, 97, 41]⟩) ∧ Below w.heap.size w w' := by
  obtain ⟨b, o, epk, hbB, x0⟩ := hV.key 0 (by decide)
  obtain ⟨b', o', epc, hbB', z0, _⟩ := hV.cs 0 (by decide)
  have hb0 : Below w.heap.size w (w.alloc (.cells #[.string smallT.nm, .slice a.pc smallT.cs.length a.cc, .slice a.pk smallT.key.length a.ck, .slice a.px smallT.ix.length a.cx, .slice a.pr smallT.rf.length a.cr] 27)) := by go_grown
  have CJ : Hid (∀ (w1 : World) (B : Nat) (v : Value), OwnS w1 B v [⟨#[97]⟩] → Calls Tryz.prog 12 #[v, .string ⟨#[44, 32]⟩] w1 fun e w' => e = .returned (.string ⟨#[97]⟩) ∧ Below w1.heap.size w1 w') := fun w1 B v h => join_any w1 B v [⟨#[97]⟩] ⟨#[44, 32]⟩ h (by decide) (by decide) (by decide)
  unfold TabP.val
  have e1 : smallT.nm = ⟨#[116]⟩ := rfl
  have e2 : smallT.cs.length = 1 := rfl
  have e3 : smallT.key.length = 1 := rfl
  have e4 : smallT.ix.length = 0 := rfl
  have e5 : smallT.rf.length = 0 := rfl
  have e6 : smallT.key[0] = 0 := rfl
  have e7 : smallT.cs[0].nm = ⟨#[97]⟩ := rfl
  rw [e6] at x0
  rw [e7] at z0
  simp only [e1, e2, e3, e4, e5] at hb0 ⊢
  clear e1 e2 e3 e4 e5 e6 e7 hV
  rw [epk, epc] at hb0 ⊢
  clear epk epc
  simp only [Nat.add_zero, Nat.zero_mul] at x0 z0
  have y0 := (hb0.cell (p := ⟨b, o, none⟩) hbB).trans x0
  have u0 := (hb0.cell (p := ⟨b', o', none⟩) hbB').trans z0
  go_enter Tryz.func10, Tryz.ntmps10
  go_wp2_with fail
  refine wp_loop_rounds 2 ?_
  rw [rounds_succ]
  go_wp2_with (first | (at_builtin; refine wpList_appS _ rfl (.tmp 14) _ rfl w.heap.size _ _ rfl (OwnS.nil _ _) ⟨#[97]⟩ _ rfl (by simp) (by decide) (by simp) ?_; intro v6 w6 h6 h7))
  have HO : Hid (OwnS w6 w.heap.size v6 [⟨#[97]⟩]) := h6
  have HB : Hid (Below w.heap.size w w6) := hb0.trans h7
  clear h6 h7 hb0 y0 u0
  go_wp2_with fail
  rw [rounds_succ]
  go_wp2_with fail
  refine (CJ.out _ _ _ HO.out).mono ?_
  rintro e w7 ⟨rfl, hb7⟩
  go_wp2
  go_ret
  exact ⟨by kernel_rfl, HB.out.trans (hb7.mono HB.out.size)⟩

end Go.Proofs.YthbjheiogghjnaaGreatDoor
