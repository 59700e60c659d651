/- The walks of copied and of Copy: a table of its own. The walk of Copy. -/
import Derived.Test.YthbjheiogghjnaaGreatDoorGWOwnV
import Derived.Test.YthbjheiogghjnaaGreatDoorGWCol2
import Derived.Test.YthbjheiogghjnaaGreatDoorGWFl7
namespace Go.Proofs.YthbjheiogghjnaaGreatDoor
open Go.RowKit
set_option maxRecDepth 100000

set_option maxHeartbeats 2000000 in
theorem copied_any (L : List Int) (p : Option Addr) (c : Nat) (w : World) (hR : RowI w w.heap.size p L) (hlen : L.length ≤ 17592186043904) :
    Calls Tryz.prog 13 #[.slice p L.length c] w fun e w' => ∃ v, e = .returned v ∧ OwnI w' w.heap.size v L ∧ Below w.heap.size w w' := by
  have HA : Hid (RowI _ _ _ _) := hR
  clear hR
  go_enter Tryz.func13, Tryz.ntmps13
  go_wp2_with fail
  go_loopw [3, 4] (fun u i wr => ∃ j : Nat, j ≤ L.length ∧ i = .int .i64 (j : Int) ∧ Hid (OwnI wr w.heap.size u (L.take j)) ∧ Below w.heap.size w wr) (fun _ i _ => L.length - (intOf i).toNat)
  case atStart => exact ⟨0, Nat.zero_le _, by go_num, World.ownsRow_lit w #[] 0 (Nat.le_refl _) (Nat.zero_le _) rfl, by go_grown⟩
  case round =>
    obtain ⟨j, hj, rfl, hO, hn⟩ := hrel
    by_cases hj0 : j = L.length
    · subst hj0
      rw [List.take_length] at hO
      go_wp2
      go_ret
      exact ⟨_, rfl, hO.out, hn⟩
    · have hj1 : j < L.length := by omega
      obtain ⟨b, o, rfl, hbB, d0⟩ := HA.out j hj1
      have a0 := (hn.cell (p := ⟨b, o + j, none⟩) hbB).trans d0
      have HS : Hid (L.take (j + 1) = L.take j ++ [L[j]]) := (List.take_append_getElem hj1).symm
      have hul : (L.take j).length ≤ j := by simp; omega
      clear d0
      generalize L.take j = U at *
      generalize L[j] = r at *
      go_wp2_with (first | (at_builtin; go_loud (refine wpList_appX1 _ rfl (.tmp 12) _ 3 23 _ 1 8 rfl Tryz.underlying23 info_int rfl (by decide) w.heap.size u3 _ _ (by rfl) hO.out [.int .i64 r] rfl (by intro u hu; have e : u = .int .i64 r := (by simpa using hu); subst e; rfl) _ rfl (by simp) (by omega) (by omega) hn.size ?_); intro v6 w6 h6 h7 h8))
      go_roundw
      case rel => exact ⟨j + 1, hj1, by go_num, (show OwnI _ _ _ _ by rw [HS.out]; unfold OwnI; rw [List.length_append, List.map_append]; exact h6), hn.trans h7⟩
      case measure => simp [intOf]; omega

/-- two blocks are as they were -/
structure Fix (w0 : World) (x y : Nat) (w' : World) : Prop where
  hs : w0.heap.size ≤ w'.heap.size
  hx : w'.heap[x]? = w0.heap[x]?
  hy : w'.heap[y]? = w0.heap[y]?
theorem Fix.refl (w0 : World) (x y : Nat) : Fix w0 x y w0 := ⟨Nat.le_refl _, rfl, rfl⟩
theorem Fix.drew {w0 w' : World} {x y : Nat} (h : Fix w0 x y w') : Fix w0 x y w'.drew := ⟨h.hs, h.hx, h.hy⟩
theorem Fix.below {w0 w' w'' : World} {x y : Nat} (hb : Below w'.heap.size w' w'') (h : Fix w0 x y w') (h1 : x < w0.heap.size) (h2 : y < w0.heap.size) : Fix w0 x y w'' :=
  ⟨Nat.le_trans h.hs hb.size, (hb.block x (Nat.lt_of_lt_of_le h1 h.hs)).trans h.hx, (hb.block y (Nat.lt_of_lt_of_le h2 h.hs)).trans h.hy⟩
theorem Fix.alloc {w0 w' : World} {x y : Nat} {o : Obj} (h : Fix w0 x y w') (h1 : x < w0.heap.size) (h2 : y < w0.heap.size) : Fix w0 x y (w'.alloc o) := Fix.below ((Below.refl _ _).alloc (Nat.le_refl _) _) h h1 h2
theorem Fix.grown {w0 w' w'' : World} {x y : Nat} {r : Option Nat} (hg : w'.grownBy w'' r) (h : Fix w0 x y w') (h1 : x < w0.heap.size) (h2 : y < w0.heap.size) (n1 : some x ≠ r) (n2 : some y ≠ r) : Fix w0 x y w'' :=
  ⟨Nat.le_trans h.hs hg.size, (hg.block x (Nat.lt_of_lt_of_le h1 h.hs) n1).trans h.hx, (hg.block y (Nat.lt_of_lt_of_le h2 h.hs) n2).trans h.hy⟩
theorem Fix.set {w0 w' : World} {x y g o : Nat} {v : Value} (h : Fix w0 x y w') (n1 : x ≠ g) (n2 : y ≠ g) : Fix w0 x y (w'.setCell ⟨g, o, none⟩ v) :=
  ⟨by simpa using h.hs, (heap_setCell_other w' ⟨g, o, none⟩ x v (by simpa using n1)).trans h.hx, (heap_setCell_other w' ⟨g, o, none⟩ y v (by simpa using n2)).trans h.hy⟩
theorem Fix.cx {w0 w1 w2 : World} {x y o : Nat} {v : Option Value} (h1 : Fix w0 x y w1) (h2 : Fix w0 x y w2) (h : w1.cell? ⟨x, o, none⟩ = v) : w2.cell? ⟨x, o, none⟩ = v :=
  (World.cell?_of_block (a := ⟨x, o, none⟩) (h2.hx.trans h1.hx.symm)).trans h
theorem Fix.cy {w0 w1 w2 : World} {x y o : Nat} {v : Option Value} (h1 : Fix w0 x y w1) (h2 : Fix w0 x y w2) (h : w1.cell? ⟨y, o, none⟩ = v) : w2.cell? ⟨y, o, none⟩ = v :=
  (World.cell?_of_block (a := ⟨y, o, none⟩) (h2.hy.trans h1.hy.symm)).trans h
/-- what a round that copies a column reads -/
abbrev SC (w0 : World) (x b o n cc : Nat) (p : Option Addr) (c : Cl) (w' : World) : Prop := Fix w0 x b w' ∧ w'.cell? ⟨x, 1, none⟩ = some (.slice p n cc) ∧
  w'.cell? ⟨b, o, none⟩ = some (.string c.nm) ∧ w'.cell? ⟨b, o + 1, none⟩ = some (.int .i64 c.kd) ∧ w'.cell? ⟨b, o + 2, none⟩ = some (.bool c.nl) ∧
  w'.cell? ⟨b, o + 3, none⟩ = some (.int .i64 c.df.k) ∧ w'.cell? ⟨b, o + 4, none⟩ = some (.int .i64 c.df.n) ∧ w'.cell? ⟨b, o + 5, none⟩ = some (.float .f64 c.df.f) ∧ w'.cell? ⟨b, o + 6, none⟩ = some (.string c.df.s)
theorem SC.to {w0 : World} {x b o n cc : Nat} {p : Option Addr} {c : Cl} {w1 w2 : World} (h : SC w0 x b o n cc p c w1) (hf : Fix w0 x b w2) : SC w0 x b o n cc p c w2 := by
  obtain ⟨f, h0, h1, h2, h3, h4, h5, h6, h7⟩ := h
  exact ⟨hf, f.cx hf h0, f.cy hf h1, f.cy hf h2, f.cy hf h3, f.cy hf h4, f.cy hf h5, f.cy hf h6, f.cy hf h7⟩
/-- .. an index -/
abbrev SX (w0 : World) (x b o n cc m mc : Nat) (p q : Option Addr) (nm : ByteArray) (un : Bool) (w' : World) : Prop := Fix w0 x b w' ∧ w'.cell? ⟨x, 3, none⟩ = some (.slice p n cc) ∧
  w'.cell? ⟨b, o, none⟩ = some (.string nm) ∧ w'.cell? ⟨b, o + 1, none⟩ = some (.slice q m mc) ∧ w'.cell? ⟨b, o + 2, none⟩ = some (.bool un)
theorem SX.to {w0 : World} {x b o n cc m mc : Nat} {p q : Option Addr} {nm : ByteArray} {un : Bool} {w1 w2 : World} (h : SX w0 x b o n cc m mc p q nm un w1) (hf : Fix w0 x b w2) : SX w0 x b o n cc m mc p q nm un w2 := by
  obtain ⟨f, h0, h1, h2, h3⟩ := h
  exact ⟨hf, f.cx hf h0, f.cy hf h1, f.cy hf h2, f.cy hf h3⟩
/-- .. a reference -/
abbrev SF (w0 : World) (x b o n cc m mc : Nat) (p q : Option Addr) (tb : ByteArray) (w' : World) : Prop := Fix w0 x b w' ∧ w'.cell? ⟨x, 4, none⟩ = some (.slice p n cc) ∧
  w'.cell? ⟨b, o, none⟩ = some (.slice q m mc) ∧ w'.cell? ⟨b, o + 1, none⟩ = some (.string tb)
theorem SF.to {w0 : World} {x b o n cc m mc : Nat} {p q : Option Addr} {tb : ByteArray} {w1 w2 : World} (h : SF w0 x b o n cc m mc p q tb w1) (hf : Fix w0 x b w2) : SF w0 x b o n cc m mc p q tb w2 := by
  obtain ⟨f, h0, h1, h2⟩ := h
  exact ⟨hf, f.cx hf h0, f.cy hf h1, f.cy hf h2⟩
/-- a table in a block of the call's own -/
def OwnT (w : World) (B g : Nat) (xs : List Value) : Prop := w.ownsRow B 27 5 (.slice (some ⟨g, 0, none⟩) 1 1) 1 xs
theorem OwnT.new (w : World) (B : Nat) (hb : B ≤ w.heap.size) (cs : Array Value) (hs : cs.size = 5) : OwnT (w.alloc (.cells cs 27)) B w.heap.size cs.toList :=
  World.ownsRow_lit w cs 1 hb (by unfold maxLen; omega) (by omega)
theorem OwnT.lt {w : World} {B g : Nat} {xs : List Value} (h : OwnT w B g xs) : B ≤ g ∧ g < w.heap.size := World.ownsRow.lt h g rfl
theorem OwnT.cell {w : World} {B g : Nat} {xs : List Value} (h : OwnT w B g xs) (j : Nat) (hj : j < 5) : w.cell? ⟨g, j, none⟩ = xs[j]? := World.ownsRow.cellAt h j (by omega)
theorem OwnT.frozen {w : World} {B g : Nat} {xs : List Value} (h : OwnT w B g xs) (j : Nat) : w.frozen? ⟨g, j, none⟩ = false := World.ownsRow.frozenAt h j
theorem OwnT.kept {w w' : World} {B g : Nat} {xs : List Value} (h : OwnT w B g xs) (hb : Below w.heap.size w w') : OwnT w' B g xs := owns_kept h hb
theorem OwnT.grown {w w' : World} {B B' g e' size' n' : Nat} {v' : Value} {xs xs' : List Value} (h : OwnT w B g xs) (h' : w.ownsRow B' e' size' v' n' xs') (hne : 27 ≠ e') (hg : w.grownBy w' v'.ownBlock) : OwnT w' B g xs := owns_other h h' hne hg
theorem OwnT.set {w : World} {B g : Nat} {xs : List Value} (h : OwnT w B g xs) (j : Nat) (u : Value) : OwnT (w.setCell ⟨g, j, none⟩ u) B g (xs.set j u) := (World.ownsRow.stored h j u).1
/-- another row stays where a table is written -/
theorem owns_set {w : World} {B e size n g o : Nat} {v u : Value} {xs : List Value} (h : w.ownsRow B e size v n xs) (hne : v.ownBlock ≠ some g) : (w.setCell ⟨g, o, none⟩ u).ownsRow B e size v n xs := by
  refine h.kept (row := some g) ⟨rfl, rfl, rfl, by simp, fun k _ hk => heap_setCell_other w ⟨g, o, none⟩ k u (fun e => hk (by simp [e]))⟩ ?_
  exact .inr hne
theorem owns_apart {w : World} {B e size n g B' : Nat} {v : Value} {xs xs' : List Value} (h : w.ownsRow B e size v n xs) (h' : OwnT w B' g xs') (hne : e ≠ 27) : v.ownBlock ≠ some g := by
  intro he
  rcases h.2 with ⟨rfl, _⟩ | ⟨g1, cap, cur, rfl, _, hgc, _⟩
  · simp [Value.ownBlock] at he
  · simp only [Value.ownBlock, Option.some.injEq] at he
    subst he
    rcases h'.2 with ⟨h0, _⟩ | ⟨g', cap', cur', e', _, hgc', _⟩
    · cases h0
    · injection e' with e1 _ _
      injection e1 with e2
      injection e2 with e3 _ _
      subst e3
      rw [hgc] at hgc'
      injection hgc' with h1
      injection h1 with _ h2
      exact hne h2
theorem OwnT.drew {w : World} {B g : Nat} {xs : List Value} (h : OwnT w B g xs) : OwnT w.drew B g xs := h
theorem owns_drew {w : World} {B e size n : Nat} {v : Value} {xs : List Value} (h : w.ownsRow B e size v n xs) : w.drew.ownsRow B e size v n xs := h

/-- 'append(l, x)', as an operation -/
theorem wp_appW {o : Oper} {a : Act} {K : Act → World → Prop} {Q : Exit → Act → World → Prop} (W : World) (s x : Operand) (T S : TypeId) (z : Value) (size bytes : Nat)
    (ho : o.op = .call { callee := .builtin .append, args := #[s, x], argTypes := #[S, S] }) (hu : Tryz.prog.underlying S = some (.slice T))
    (hinfo : (Tryz.prog.info? T).map (fun i => (i.zero, i.size, i.bytes)) = some (some z, size, bytes)) (hzs : z.cells.size = size) (hsz : 0 < size)
    (B : Nat) (v : Value) (n : Nat) (xs : List Value) (hs : a.eval s = v) (hown : W.ownsRow B T size v n xs)
    (us : List Value) (hus : us.length = size) (hone : ∀ u ∈ us, u.oneCell' = true) (g : Nat) (hx : a.eval x = .slice (some ⟨g, 0, none⟩) 1 1) (hcell : ∀ (j : Nat) u, us[j]? = some u → W.cell? ⟨g, j, none⟩ = some u)
    (hlen : (n + 1) * bytes ≤ 140737488355328) (hlen2 : n + 1 ≤ 140737488355328) (hbase : B ≤ W.heap.size)
    (h : ∀ v' w', w'.ownsRow B T size v' (n + 1) (xs ++ us) → W.grownBy w' v.ownBlock → K (a.put o.dst v') w') : Oper.wp Tryz.prog o a W K Q := by
  obtain ⟨i, hi, hz0, hz1, hz2⟩ := info_parts1 hinfo
  refine wp_append_own _ s x S ho B T i z size bytes hu hi hz0 hz1 hz2 hzs hsz v n xs hs hown ⟨g, 0, none⟩ 1 1 us hx (by omega) ?_ hone (by unfold maxLen; omega) hlen hbase ?_
  · intro j y hj
    have e : (⟨g, 0, none⟩ : Addr).add j = ⟨g, j, none⟩ := by unfold Addr.add; split <;> simp_all
    rw [e]
    exact hcell j y hj
  · intro v' w' h1 h2 _
    exact h v' w' h1 h2
theorem cell_new (w : World) (us : List Value) (T : TypeId) (j : Nat) (u : Value) (h : us[j]? = some u) : (w.alloc (.cells us.toArray T)).cell? ⟨w.heap.size, j, none⟩ = some u := by
  rw [World.cell?_alloc_new]
  simpa using h
theorem cell_newD (w : World) (us : List Value) (T : TypeId) (j : Nat) (u : Value) (h : us[j]? = some u) : (w.alloc (.cells us.toArray T)).drew.cell? ⟨w.heap.size, j, none⟩ = some u := cell_new w us T j u h

theorem cell_al {w : World} {o : Obj} {g k : Nat} {v : Value} (h : w.cell? ⟨g, k, none⟩ = some v) : (w.alloc o).cell? ⟨g, k, none⟩ = some v :=
  (((Below.refl w.heap.size w).alloc (Nat.le_refl _) o).cell (p := ⟨g, k, none⟩) (World.block_lt_of_cell? w _ h)).trans h
/-- how far a copy is -/
structure CpS (w0 w : World) (g : Nat) (t : Tb) (a : TabP) (vC vK vX vR : Value) : Prop where
  bx : OwnT w w0.heap.size w0.heap.size [.string t.nm, .slice a.pc t.cs.length a.cc, .slice a.pk t.key.length a.ck, .slice a.px t.ix.length a.cx, .slice a.pr t.rf.length a.cr]
  rs : OwnT w w0.heap.size (w0.heap.size + 1) [.string ⟨#[]⟩, .slice none 0 0, .slice none 0 0, .slice none 0 0, .slice none 0 0]
  ou : OwnT w w0.heap.size g [.string t.nm, vC, vK, vX, vR]
  lo : w0.heap.size + 1 < g
  kK : OwnI w w0.heap.size vK t.key
  bl : Below w0.heap.size w0 w
theorem CpS.on {w0 w w' : World} {g : Nat} {t : Tb} {a : TabP} {vC vK vX vR : Value} (h : CpS w0 w g t a vC vK vX vR) (hb : Below w.heap.size w w') : CpS w0 w' g t a vC vK vX vR :=
  ⟨h.bx.kept hb, h.rs.kept hb, h.ou.kept hb, h.lo, owns_kept h.kK hb, h.bl.trans (hb.mono h.bl.size)⟩
theorem CpS.grown {w0 w w' : World} {g : Nat} {t : Tb} {a : TabP} {vC vK vX vR : Value} {e size n : Nat} {v : Value} {xs : List Value} (h : CpS w0 w g t a vC vK vX vR) (ho : w.ownsRow w0.heap.size e size v n xs) (h1 : 27 ≠ e) (h2 : 3 ≠ e) (hg : w.grownBy w' v.ownBlock) : CpS w0 w' g t a vC vK vX vR :=
  ⟨h.bx.grown ho h1 hg, h.rs.grown ho h1 hg, h.ou.grown ho h1 hg, h.lo, owns_other h.kK ho h2 hg, h.bl.grown hg h.bl.size (fun k hk => (ho.lt k hk).1)⟩
theorem CpS.set {w0 w : World} {g : Nat} {t : Tb} {a : TabP} {vC vK vX vR : Value} (h : CpS w0 w g t a vC vK vX vR) (j : Nat) (u vC' vX' vR' : Value) (he : ([.string t.nm, vC, vK, vX, vR] : List Value).set j u = [.string t.nm, vC', vK, vX', vR']) : CpS w0 (w.setCell ⟨g, j, none⟩ u) g t a vC' vK vX' vR' := by
  have hl := h.lo
  refine ⟨owns_set h.bx (by simp [Value.ownBlock]; omega), owns_set h.rs (by simp [Value.ownBlock]; omega), ?_, h.lo, owns_set h.kK (owns_apart h.kK h.ou (by decide)), h.bl.setCell (by simp; omega) _⟩
  rw [← he]
  exact h.ou.set j u
theorem CpS.drew {w0 w : World} {g : Nat} {t : Tb} {a : TabP} {vC vK vX vR : Value} (h : CpS w0 w g t a vC vK vX vR) : CpS w0 w.drew g t a vC vK vX vR := ⟨h.bx, h.rs, h.ou, h.lo, h.kK, h.bl.drew⟩
theorem al (w : World) (o : Obj) : Below w.heap.size w (w.alloc o) := (Below.refl _ _).alloc (Nat.le_refl _) _
theorem OwnC.snoc {w : World} {B : Nat} {v : Value} {U : List Cl} {c : Cl} (h : w.ownsRow B 40 7 v (U.length + 1) (U.flatMap ccell ++ ccell c)) : OwnC w B v (U ++ [c]) := by
  unfold OwnC
  rw [List.length_append, List.flatMap_append, List.flatMap_singleton]
  exact h
theorem OwnX.snoc {w : World} {B : Nat} {v : Value} {U : List (Ix × Value)} {c : Ix × Value} (h : w.ownsRow B 44 3 v (U.length + 1) (U.flatMap xcell ++ xcell c)) : w.ownsRow B 44 3 v (U ++ [c]).length ((U ++ [c]).flatMap xcell) := by
  rw [List.length_append, List.flatMap_append, List.flatMap_singleton]
  exact h
theorem OwnF.snoc {w : World} {B : Nat} {v : Value} {U : List (Rf × Value)} {c : Rf × Value} (h : w.ownsRow B 47 2 v (U.length + 1) (U.flatMap fcell ++ fcell c)) : w.ownsRow B 47 2 v (U ++ [c]).length ((U ++ [c]).flatMap fcell) := by
  rw [List.length_append, List.flatMap_append, List.flatMap_singleton]
  exact h
theorem OwnC.rowS {w : World} {B n d : Nat} {q : Option Addr} {L : List Cl} (h : OwnC w B (.slice q n d) L) : L.length ≤ d ∧ RowC w w.heap.size q L := by
  obtain ⟨p, c, e, hc, hr⟩ := h.row
  injection e with e1 e2 e3
  subst e1 e2 e3
  exact ⟨hc, hr⟩
theorem OwnI.rowS {w : World} {B n d : Nat} {q : Option Addr} {L : List Int} (h : OwnI w B (.slice q n d) L) : L.length ≤ d ∧ RowI w w.heap.size q L := by
  obtain ⟨p, c, e, hc, hr⟩ := h.row
  injection e with e1 e2 e3
  subst e1 e2 e3
  exact ⟨hc, hr⟩
theorem OwnX.rowS {w : World} {B n d : Nat} {q : Option Addr} {Z : List (Ix × Value)} {L : List Ix} (h : OwnX w B (.slice q n d) Z) (hL : Z.map Prod.fst = L) : L.length ≤ d ∧ RowX w w.heap.size q L := by
  obtain ⟨p, c, e, hc, hr⟩ := h.row hL
  injection e with e1 e2 e3
  subst e1 e2 e3
  exact ⟨hc, hr⟩
theorem OwnF.rowS {w : World} {B n d : Nat} {q : Option Addr} {Z : List (Rf × Value)} {L : List Rf} (h : OwnF w B (.slice q n d) Z) (hL : Z.map Prod.fst = L) : L.length ≤ d ∧ RowF w w.heap.size q L := by
  obtain ⟨p, c, e, hc, hr⟩ := h.row hL
  injection e with e1 e2 e3
  subst e1 e2 e3
  exact ⟨hc, hr⟩

end Go.Proofs.YthbjheiogghjnaaGreatDoor

namespace Go.Proofs.YthbjheiogghjnaaGreatDoor
open Go.RowKit
set_option maxRecDepth 100000

/-- what the first statement reads -/
abbrev S1 (w0 : World) (x y n c : Nat) (p : Option Addr) (nm : ByteArray) (w' : World) : Prop := Fix w0 x y w' ∧ w'.cell? ⟨x, 0, none⟩ = some (.string nm) ∧ w'.cell? ⟨x, 2, none⟩ = some (.slice p n c)
theorem S1.to {w0 : World} {x y n c : Nat} {p : Option Addr} {nm : ByteArray} {w1 w2 : World} (h : S1 w0 x y n c p nm w1) (hf : Fix w0 x y w2) : S1 w0 x y n c p nm w2 := by
  obtain ⟨f, h0, h1⟩ := h
  exact ⟨hf, f.cx hf h0, f.cx hf h1⟩
theorem S1.fix {w0 : World} {x y n c : Nat} {p : Option Addr} {nm : ByteArray} {w1 : World} (h : S1 w0 x y n c p nm w1) : Fix w0 x y w1 := h.1

set_option maxHeartbeats 8000000 in
theorem copy_any (t : Tb) (a : TabP) (w : World) (hV : TabV w w.heap.size t a) (hok : t.ok) (hcl : t.cs.length ≤ 1954687338211) (hcl2 : t.ix.length ≤ 2932031007317) :
    Calls Tryz.prog 5 #[a.val t] w fun e w' => ∃ a' : TabP, e = .returned (a'.val t) ∧ TabV w' w'.heap.size t a' ∧ Below w.heap.size w w' := by
  obtain ⟨pc, cc, pk, ck, px, cx, pr, cr⟩ := a
  have HV : Hid (TabV w w.heap.size t ⟨pc, cc, pk, ck, px, cx, pr, cr⟩ ∧ t.ok) := ⟨hV, hok⟩
  have CK : Hid (∀ w1 : World, Below w.heap.size w w1 → Calls Tryz.prog 13 #[.slice pk t.key.length ck] w1 fun e w' => ∃ v, e = .returned v ∧ OwnI w' w1.heap.size v t.key ∧ Below w1.heap.size w1 w') := fun w1 hb => copied_any t.key pk ck w1 (hV.key.on hb) hok.key
  have hb1 : Below w.heap.size w (w.alloc (.cells #[.string t.nm, .slice pc t.cs.length cc, .slice pk t.key.length ck, .slice px t.ix.length cx, .slice pr t.rf.length cr] 27)) := by go_grown
  have HT0 : Hid (OwnT _ _ _ _) := OwnT.new w w.heap.size (Nat.le_refl _) #[.string t.nm, .slice pc t.cs.length cc, .slice pk t.key.length ck, .slice px t.ix.length cx, .slice pr t.rf.length cr] rfl
  have hz1 : (w.alloc (.cells #[.string t.nm, .slice pc t.cs.length cc, .slice pk t.key.length ck, .slice px t.ix.length cx, .slice pr t.rf.length cr] 27)).heap.size = w.heap.size + 1 := by simp
  clear hV hok
  unfold TabP.val
  go_enter Tryz.func5, Tryz.ntmps5
  go_wp2_with fail
  generalize hw1 : w.alloc (.cells #[.string t.nm, .slice pc t.cs.length cc, .slice pk t.key.length ck, .slice px t.ix.length cx, .slice pr t.rf.length cr] 27) = w1 at *
  have hb2 : Below w1.heap.size w1 (w1.alloc (.cells #[.string ⟨#[]⟩, .slice none 0 0, .slice none 0 0, .slice none 0 0, .slice none 0 0] 27)) := by go_grown
  have HT1 : Hid (OwnT _ _ _ _) := OwnT.new w1 w.heap.size (by omega) #[.string ⟨#[]⟩, .slice none 0 0, .slice none 0 0, .slice none 0 0, .slice none 0 0] rfl
  rw [hz1] at HT1
  have hz2 : (w1.alloc (.cells #[.string ⟨#[]⟩, .slice none 0 0, .slice none 0 0, .slice none 0 0, .slice none 0 0] 27)).heap.size = w.heap.size + 2 := by simp [hz1]
  have HT0' : Hid (OwnT _ _ _ _) := HT0.out.kept hb2
  have h02 : Below w.heap.size w (w1.alloc (.cells #[.string ⟨#[]⟩, .slice none 0 0, .slice none 0 0, .slice none 0 0, .slice none 0 0] 27)) := hb1.trans (hb2.mono hb1.size)
  generalize hw2 : w1.alloc (.cells #[.string ⟨#[]⟩, .slice none 0 0, .slice none 0 0, .slice none 0 0, .slice none 0 0] 27) = w2 at *
  clear hw1 hw2 hb1 hb2 HT0 hz1
  have hsf := run_store_float
  have hx0 : w.heap.size < w2.heap.size := by omega
  have hy0 : w.heap.size + 1 < w2.heap.size := by omega
  clear hz2
  have HS : Hid (S1 w2 w.heap.size (w.heap.size + 1) t.key.length ck pk t.nm w2) := ⟨Fix.refl _ _ _, HT0'.out.cell 0 (by decide), HT0'.out.cell 2 (by decide)⟩
  go_region_held3 (fun w' => S1 w2 w.heap.size (w.heap.size + 1) t.key.length ck pk t.nm w') ((refine S1.to HS.out ?_; repeat' (first | with_reducible exact Fix.refl _ _ _ | with_reducible refine Fix.drew ?_ | with_reducible refine Fix.alloc ?_ hx0 hy0 | with_reducible refine Fix.set ?_ (by omega) (by omega) | with_reducible refine Fix.below (by assumption) ?_ hx0 hy0))) (first | (go_at_call 13; refine (CK.out _ ?_).mono ?_; (first | exact h02 | exact h02.drew | exact h02.trans (by go_grown)); rintro e w5 ⟨v5, rfl, hO5, hb5⟩; obtain ⟨q5, d5, rfl, hq5⟩ := owns_len hO5; (first | (have HZ : OwnT w5 w.heap.size w2.heap.size [.string ⟨#[]⟩, .slice none 0 0, .slice none 0 0, .slice none 0 0, .slice none 0 0] := OwnT.kept (OwnT.drew (OwnT.new w2 w.heap.size (by omega) #[.string ⟨#[]⟩, .slice none 0 0, .slice none 0 0, .slice none 0 0, .slice none 0 0] rfl)) hb5; have z0 : w5.cell? ⟨w2.heap.size, 0, none⟩ = some (.string ⟨#[]⟩) := HZ.cell 0 (by decide); have z1 : w5.cell? ⟨w2.heap.size, 1, none⟩ = some (.slice none 0 0) := HZ.cell 1 (by decide); have z2 : w5.cell? ⟨w2.heap.size, 2, none⟩ = some (.slice none 0 0) := HZ.cell 2 (by decide); have z3 : w5.cell? ⟨w2.heap.size, 3, none⟩ = some (.slice none 0 0) := HZ.cell 3 (by decide); have z4 : w5.cell? ⟨w2.heap.size, 4, none⟩ = some (.slice none 0 0) := HZ.cell 4 (by decide); have y0 := HZ.frozen 0; have y1 := HZ.frozen 1; have y2 := HZ.frozen 2; have y3 := HZ.frozen 3; have y4 := HZ.frozen 4) | skip)))
  focus
    have hb25 : Below w2.heap.size w2 w5 := ((Below.refl w2.heap.size w2).drew).trans (hb5.mono (show w2.heap.size ≤ _ by simp))
    have hb56 : Below w5.heap.size w5 (w5.alloc (.cells #[.string t.nm, .slice none 0 0, .slice q5 t.key.length d5, .slice none 0 0, .slice none 0 0] 27)) := by go_grown
    have hb26 : Below w2.heap.size w2 (w5.alloc (.cells #[.string t.nm, .slice none 0 0, .slice q5 t.key.length d5, .slice none 0 0, .slice none 0 0] 27)) := hb25.trans (hb56.mono hb25.size)
    have hz5 := hb25.size
    have H4 : Hid (CpS w (w5.alloc (.cells #[.string t.nm, .slice none 0 0, .slice q5 t.key.length d5, .slice none 0 0, .slice none 0 0] 27)) w5.heap.size t ⟨pc, cc, pk, ck, px, cx, pr, cr⟩ (.slice none 0 0) (.slice q5 t.key.length d5) (.slice none 0 0) (.slice none 0 0)) :=
      ⟨HT0'.out.kept hb26, HT1.out.kept hb26, OwnT.new w5 w.heap.size (by omega) #[.string t.nm, .slice none 0 0, .slice q5 t.key.length d5, .slice none 0 0, .slice none 0 0] rfl, by omega,
        owns_base (owns_kept hO5 hb56) (by simp; omega), h02.trans (hb26.mono h02.size)⟩
    clear HS HT0' HT1 CK hb5 hO5 hb25 hb26 hb56
    generalize w5.alloc (.cells #[.string t.nm, .slice none 0 0, .slice q5 t.key.length d5, .slice none 0 0, .slice none 0 0] 27) = w4 at *
    generalize w5.heap.size = g3 at *
  rotate_left
  focus
    have hb25 : Below w2.heap.size w2 w5 := (((Below.refl w2.heap.size w2).alloc (Nat.le_refl _) _).drew).trans (hb5.mono (show w2.heap.size ≤ _ by simp))
    have nK : (Value.slice q5 t.key.length d5).ownBlock ≠ some w2.heap.size := owns_apart hO5 HZ (by decide)
    have n0 : (Value.slice (some ⟨w.heap.size, 0, none⟩) 1 1).ownBlock ≠ some w2.heap.size := by simp [Value.ownBlock]; omega
    have n1 : (Value.slice (some ⟨w.heap.size + 1, 0, none⟩) 1 1).ownBlock ≠ some w2.heap.size := by simp [Value.ownBlock]; omega
    have H4 : Hid (CpS w (((((w5.setCell ⟨w2.heap.size, 0, none⟩ (.string t.nm)).setCell ⟨w2.heap.size, 1, none⟩ (.slice none 0 0)).setCell ⟨w2.heap.size, 2, none⟩ (.slice q5 t.key.length d5)).setCell ⟨w2.heap.size, 3, none⟩ (.slice none 0 0)).setCell ⟨w2.heap.size, 4, none⟩ (.slice none 0 0)) w2.heap.size t ⟨pc, cc, pk, ck, px, cx, pr, cr⟩ (.slice none 0 0) (.slice q5 t.key.length d5) (.slice none 0 0) (.slice none 0 0)) :=
      ⟨owns_set (owns_set (owns_set (owns_set (owns_set (HT0'.out.kept hb25) n0) n0) n0) n0) n0, owns_set (owns_set (owns_set (owns_set (owns_set (HT1.out.kept hb25) n1) n1) n1) n1) n1,
        ((((HZ.set 0 (.string t.nm)).set 1 (.slice none 0 0)).set 2 (.slice q5 t.key.length d5)).set 3 (.slice none 0 0)).set 4 (.slice none 0 0), hy0,
        owns_base (owns_set (owns_set (owns_set (owns_set (owns_set hO5 nK) nK) nK) nK) nK) (by simp; omega),
        ((((h02.trans (hb25.mono h02.size)).setCell (by simp; omega) _).setCell (by simp; omega) _).setCell (by simp; omega) _).setCell (by simp; omega) _ |>.setCell (by simp; omega) _⟩
    clear HS HT0' HT1 CK hb5 hO5 HZ z0 z1 z2 z3 z4 y0 y1 y2 y3 y4 nK n0 n1 hb25
    generalize ((((w5.setCell ⟨w2.heap.size, 0, none⟩ (.string t.nm)).setCell ⟨w2.heap.size, 1, none⟩ (.slice none 0 0)).setCell ⟨w2.heap.size, 2, none⟩ (.slice q5 t.key.length d5)).setCell ⟨w2.heap.size, 3, none⟩ (.slice none 0 0)).setCell ⟨w2.heap.size, 4, none⟩ (.slice none 0 0) = w4 at *
    generalize w2.heap.size = g3 at *
  all_goals
    clear h02 hx0 hy0
    go_wp2_with fail
    go_loopw [4] (fun k wr => ∃ (j : Nat) (vC : Value), j ≤ t.cs.length ∧ k = .int .i64 (j : Int) ∧ Hid (CpS w wr g3 t ⟨pc, cc, pk, ck, px, cx, pr, cr⟩ vC (.slice q5 t.key.length d5) (.slice none 0 0) (.slice none 0 0) ∧ OwnC wr w.heap.size vC (t.cs.take j))) (fun k _ => t.cs.length - (intOf k).toNat)
    case atStart => exact ⟨0, _, Nat.zero_le _, by go_num, H4.out, World.ownsRow_nil _ _ _ _⟩
    case round =>
      clear H4
      obtain ⟨j, vC, hj, rfl, hS⟩ := hrel
      obtain ⟨qC, dC, rfl, hdC⟩ := owns_len hS.out.2
      have x1 : wr.cell? ⟨w.heap.size, 1, none⟩ = some (.slice pc t.cs.length cc) := hS.out.1.bx.cell 1 (by decide)
      by_cases hj0 : j = t.cs.length
      · subst hj0
        rw [List.take_length] at hS
        generalize hvC : (Value.slice qC t.cs.length dC) = vC at *
        have HvC : Hid ((Value.slice qC t.cs.length dC) = vC) := hvC
        clear hvC
        generalize wr = w6 at *
        go_wp2_with fail
        go_loopw [5] (fun k wr => ∃ (j : Nat) (vZ : Value) (Z : List (Ix × Value)), j ≤ t.ix.length ∧ k = .int .i64 (j : Int) ∧ Hid (CpS w wr g3 t ⟨pc, cc, pk, ck, px, cx, pr, cr⟩ vC (.slice q5 t.key.length d5) vZ (.slice none 0 0) ∧ OwnC wr w.heap.size vC t.cs ∧ OwnX wr w.heap.size vZ Z ∧ Z.map Prod.fst = t.ix.take j)) (fun k _ => t.ix.length - (intOf k).toNat)
        case atStart => exact ⟨0, _, [], Nat.zero_le _, by go_num, ⟨hS.out.1, hS.out.2, ⟨World.ownsRow_nil _ _ _ _, (fun _ h => by cases h)⟩, rfl⟩⟩
        case round =>
          clear hS
          obtain ⟨j, vZ, Z, hj, rfl, hS⟩ := hrel
          obtain ⟨qZ, dZ, rfl, hdZ⟩ := owns_len hS.out.2.2.1.1
          have x1 : wr.cell? ⟨w.heap.size, 3, none⟩ = some (.slice px t.ix.length cx) := hS.out.1.bx.cell 3 (by decide)
          have hcl3 := HV.out.2.rf
          by_cases hj0 : j = t.ix.length
          · subst hj0
            rw [List.take_length] at hS
            generalize hvX : (Value.slice qZ Z.length dZ) = vX at *
            have HvX : Hid ((Value.slice qZ Z.length dZ) = vX) := hvX
            clear hvX
            generalize Z = Y at *
            generalize qZ = qY at *
            generalize dZ = dY at *
            generalize wr = w6 at *
            go_wp2_with fail
            go_loopw [6] (fun k wr => ∃ (j : Nat) (vZ : Value) (Z : List (Rf × Value)), j ≤ t.rf.length ∧ k = .int .i64 (j : Int) ∧ Hid (CpS w wr g3 t ⟨pc, cc, pk, ck, px, cx, pr, cr⟩ vC (.slice q5 t.key.length d5) vX vZ ∧ (OwnC wr w.heap.size vC t.cs ∧ OwnX wr w.heap.size vX Y ∧ Y.map Prod.fst = t.ix) ∧ OwnF wr w.heap.size vZ Z ∧ Z.map Prod.fst = t.rf.take j)) (fun k _ => t.rf.length - (intOf k).toNat)
            case atStart => exact ⟨0, _, [], Nat.zero_le _, by go_num, ⟨hS.out.1, ⟨hS.out.2.1, hS.out.2.2.1, hS.out.2.2.2⟩, ⟨World.ownsRow_nil _ _ _ _, (fun _ h => by cases h)⟩, rfl⟩⟩
            case round =>
              clear hS
              obtain ⟨j, vZ, Z, hj, rfl, hS⟩ := hrel
              obtain ⟨qZ, dZ, rfl, hdZ⟩ := owns_len hS.out.2.2.1.1
              have x1 : wr.cell? ⟨w.heap.size, 4, none⟩ = some (.slice pr t.rf.length cr) := hS.out.1.bx.cell 4 (by decide)
              have hcl3 := HV.out.2.rf
              by_cases hj0 : j = t.rf.length
              · subst hj0
                rw [List.take_length] at hS
                obtain rfl := HvC.out
                obtain rfl := HvX.out
                have hZl : Z.length = t.rf.length := by have h := congrArg List.length hS.out.2.2.2; simpa using h
                have hYl : Y.length = t.ix.length := by have h := congrArg List.length hS.out.2.1.2.2; simpa using h
                rw [hZl, hYl] at hS
                have HR : Hid (Y.map Prod.fst = t.ix ∧ Z.map Prod.fst = t.rf) := ⟨hS.out.2.1.2.2, hS.out.2.2.2⟩
                have HO : Hid (OwnC wr w.heap.size (.slice qC t.cs.length dC) t.cs ∧ OwnX wr w.heap.size (.slice qY t.ix.length dY) Y ∧ OwnF wr w.heap.size (.slice qZ t.rf.length dZ) Z) := ⟨hS.out.2.1.1, hS.out.2.1.2.1, hS.out.2.2.1⟩
                clear HvC HvX hZl hYl
                have i0 : wr.cell? ⟨g3, 0, none⟩ = some (.string t.nm) := hS.out.1.ou.cell 0 (by decide)
                have i1 : wr.cell? ⟨g3, 1, none⟩ = some (.slice qC t.cs.length dC) := hS.out.1.ou.cell 1 (by decide)
                have i2 : wr.cell? ⟨g3, 2, none⟩ = some (.slice q5 t.key.length d5) := hS.out.1.ou.cell 2 (by decide)
                have i3 : wr.cell? ⟨g3, 3, none⟩ = some (.slice qY t.ix.length dY) := hS.out.1.ou.cell 3 (by decide)
                have i4 : wr.cell? ⟨g3, 4, none⟩ = some (.slice qZ t.rf.length dZ) := hS.out.1.ou.cell 4 (by decide)
                have j0 : wr.cell? ⟨w.heap.size + 1, 0, none⟩ = some (.string ⟨#[]⟩) := hS.out.1.rs.cell 0 (by decide)
                have l0 := hS.out.1.rs.frozen 0
                have j1 : wr.cell? ⟨w.heap.size + 1, 1, none⟩ = some (.slice none 0 0) := hS.out.1.rs.cell 1 (by decide)
                have l1 := hS.out.1.rs.frozen 1
                have j2 : wr.cell? ⟨w.heap.size + 1, 2, none⟩ = some (.slice none 0 0) := hS.out.1.rs.cell 2 (by decide)
                have l2 := hS.out.1.rs.frozen 2
                have j3 : wr.cell? ⟨w.heap.size + 1, 3, none⟩ = some (.slice none 0 0) := hS.out.1.rs.cell 3 (by decide)
                have l3 := hS.out.1.rs.frozen 3
                have j4 : wr.cell? ⟨w.heap.size + 1, 4, none⟩ = some (.slice none 0 0) := hS.out.1.rs.cell 4 (by decide)
                have l4 := hS.out.1.rs.frozen 4
                have HW : Hid (OwnT (((((wr.setCell ⟨w.heap.size + 1, 0, none⟩ (.string t.nm)).setCell ⟨w.heap.size + 1, 1, none⟩ (.slice qC t.cs.length dC)).setCell ⟨w.heap.size + 1, 2, none⟩ (.slice q5 t.key.length d5)).setCell ⟨w.heap.size + 1, 3, none⟩ (.slice qY t.ix.length dY)).setCell ⟨w.heap.size + 1, 4, none⟩ (.slice qZ t.rf.length dZ)) w.heap.size (w.heap.size + 1) [.string t.nm, .slice qC t.cs.length dC, .slice q5 t.key.length d5, .slice qY t.ix.length dY, .slice qZ t.rf.length dZ]) := ((((hS.out.1.rs.set 0 (.string t.nm)).set 1 (.slice qC t.cs.length dC)).set 2 (.slice q5 t.key.length d5)).set 3 (.slice qY t.ix.length dY)).set 4 (.slice qZ t.rf.length dZ)
                have KS : Hid (∀ (B e size n : Nat) (v : Value) (xs : List Value), e ≠ 27 → wr.ownsRow B e size v n xs → (((((wr.setCell ⟨w.heap.size + 1, 0, none⟩ (.string t.nm)).setCell ⟨w.heap.size + 1, 1, none⟩ (.slice qC t.cs.length dC)).setCell ⟨w.heap.size + 1, 2, none⟩ (.slice q5 t.key.length d5)).setCell ⟨w.heap.size + 1, 3, none⟩ (.slice qY t.ix.length dY)).setCell ⟨w.heap.size + 1, 4, none⟩ (.slice qZ t.rf.length dZ)).ownsRow B e size v n xs) := fun B e size n v xs h1 h => by
                  have hn := owns_apart h hS.out.1.rs h1
                  exact owns_set (owns_set (owns_set (owns_set (owns_set h hn) hn) hn) hn) hn
                have hbF : Below w.heap.size w (((((wr.setCell ⟨w.heap.size + 1, 0, none⟩ (.string t.nm)).setCell ⟨w.heap.size + 1, 1, none⟩ (.slice qC t.cs.length dC)).setCell ⟨w.heap.size + 1, 2, none⟩ (.slice q5 t.key.length d5)).setCell ⟨w.heap.size + 1, 3, none⟩ (.slice qY t.ix.length dY)).setCell ⟨w.heap.size + 1, 4, none⟩ (.slice qZ t.rf.length dZ)) := ((((hS.out.1.bl.setCell (by simp) _).setCell (by simp) _).setCell (by simp) _).setCell (by simp) _).setCell (by simp) _
                have hOK : Hid (OwnI wr w.heap.size (.slice q5 t.key.length d5) t.key) := hS.out.1.kK
                clear hS
                go_wp2
                generalize ((((wr.setCell ⟨w.heap.size + 1, 0, none⟩ (.string t.nm)).setCell ⟨w.heap.size + 1, 1, none⟩ (.slice qC t.cs.length dC)).setCell ⟨w.heap.size + 1, 2, none⟩ (.slice q5 t.key.length d5)).setCell ⟨w.heap.size + 1, 3, none⟩ (.slice qY t.ix.length dY)).setCell ⟨w.heap.size + 1, 4, none⟩ (.slice qZ t.rf.length dZ) = w9 at *
                have c0 : w9.cell? ⟨w.heap.size + 1, 0, none⟩ = some (.string t.nm) := HW.out.cell 0 (by decide)
                have c1 : w9.cell? ⟨w.heap.size + 1, 1, none⟩ = some (.slice qC t.cs.length dC) := HW.out.cell 1 (by decide)
                have c2 : w9.cell? ⟨w.heap.size + 1, 2, none⟩ = some (.slice q5 t.key.length d5) := HW.out.cell 2 (by decide)
                have c3 : w9.cell? ⟨w.heap.size + 1, 3, none⟩ = some (.slice qY t.ix.length dY) := HW.out.cell 3 (by decide)
                have c4 : w9.cell? ⟨w.heap.size + 1, 4, none⟩ = some (.slice qZ t.rf.length dZ) := HW.out.cell 4 (by decide)
                refine bodyPost_ret (v := (⟨qC, dC, q5, d5, qY, dY, qZ, dZ⟩ : TabP).val t) (by simp [results, Tryz.results5, go_sem, TabP.val, c0, c1, c2, c3, c4]) rfl ?_
                have f1 := OwnC.rowS (show OwnC w9 w.heap.size _ _ from KS.out _ _ _ _ _ _ (by decide) HO.out.1)
                have f2 := OwnI.rowS (show OwnI w9 w.heap.size _ _ from KS.out _ _ _ _ _ _ (by decide) hOK.out)
                have f3 := OwnX.rowS (show OwnX w9 w.heap.size _ _ from ⟨KS.out _ _ _ _ _ _ (by decide) HO.out.2.1.1, fun z hz => KS.out _ _ _ _ _ _ (by decide) (HO.out.2.1.2 z hz)⟩) HR.out.1
                have f4 := OwnF.rowS (show OwnF w9 w.heap.size _ _ from ⟨KS.out _ _ _ _ _ _ (by decide) HO.out.2.2.1, fun z hz => KS.out _ _ _ _ _ _ (by decide) (HO.out.2.2.2 z hz)⟩) HR.out.2
                exact ⟨_, rfl, ⟨f1.2, f2.2, f3.2, f4.2, f1.1, f3.1⟩, hbF⟩
              · have hj1 : j < t.rf.length := by omega
                have hok2 := HV.out.2.rn _ (List.getElem_mem hj1)
                obtain ⟨b, o, rfl, hbB, ⟨q, mc, a0, hRI⟩, a1⟩ := HV.out.1.rf j hj1
                have k : ∀ {o : Nat} {v : Option Value}, w.cell? ⟨b, o, none⟩ = v → wr.cell? ⟨b, o, none⟩ = v := fun {o v} hc => (hS.out.1.bl.cell (p := ⟨b, o, none⟩) hbB).trans hc
                have HT : Hid (t.rf.take (j + 1) = t.rf.take j ++ [t.rf[j]]) := (List.take_append_getElem hj1).symm
                have hZj : Hid (Z.length = j ∧ True) := ⟨by have h := congrArg List.length hS.out.2.2.2; simp at h; omega, trivial⟩
                have hjl : (j : Int) < (t.rf.length : Int) := by omega
                generalize t.rf[j] = x at *
                obtain ⟨xcs, xtb⟩ := x
                dsimp only at a0 a1 hRI hok2
                have HSC : Hid (SF wr w.heap.size b (o + j * 2) t.rf.length cr xcs.length mc (some ⟨b, o, none⟩) q xtb wr) := ⟨Fix.refl _ _ _, x1, k a0, k a1⟩
                have CX : Hid (∀ w1 : World, Below w.heap.size w w1 → Calls Tryz.prog 13 #[.slice q xcs.length mc] w1 fun e w' => ∃ v, e = .returned v ∧ OwnI w' w1.heap.size v xcs ∧ Below w1.heap.size w1 w') := fun w1 hb => copied_any xcs q mc w1 (hRI.on hb) hok2.2
                have o1 : wr.cell? ⟨g3, 4, none⟩ = some (.slice qZ Z.length dZ) := hS.out.1.ou.cell 4 (by decide)
                have hz := hS.out.1.bl.size
                have hx1 : w.heap.size < wr.heap.size := hS.out.1.bx.lt.2
                have hy1 : b < wr.heap.size := by omega
                have hlo := hS.out.1.lo
                have hs1 : w.heap.size ≠ g3 := by omega
                have hs2 : b ≠ g3 := by omega
                have nA : some w.heap.size ≠ (Value.slice qZ Z.length dZ).ownBlock := (owns_apart hS.out.2.2.1.1 hS.out.1.bx (by decide)).symm
                have nB : some b ≠ (Value.slice qZ Z.length dZ).ownBlock := by
                  intro h
                  have := (World.ownsRow.lt hS.out.2.2.1.1 b h.symm).1
                  omega
                have hbd : Below w.heap.size w wr.drew := hS.out.1.bl.drew
                have hzl : Z.length ≤ j := by have := hZj.out.1; omega
                clear a0 a1 k hRI
                obtain ⟨m, hm⟩ : ∃ m, xcs.length = m := ⟨_, rfl⟩
                rw [hm] at HSC CX
                have HM : Hid (xcs.length = m ∧ True) := ⟨hm, trivial⟩
                clear hm hZj
                go_wp2_with fail
                refine wp_region_L (fun w' => SF wr w.heap.size b (o + j * 2) t.rf.length cr m mc (some ⟨b, o, none⟩) q xtb w' ∧ w'.cell? ⟨g3, 4, none⟩ = some (.slice qZ Z.length dZ)) 19 (by kernel_rfl) ?_
                have hS0 : SF wr w.heap.size b (o + j * 2) t.rf.length cr m mc (some ⟨b, o, none⟩) q xtb wr.drew ∧ wr.drew.cell? ⟨g3, 4, none⟩ = some (.slice qZ Z.length dZ) := ⟨SF.to HSC.out (by repeat' (first | with_reducible exact Fix.refl _ _ _ | with_reducible refine Fix.drew ?_ | with_reducible refine Fix.alloc ?_ hx1 hy1 | with_reducible refine Fix.set ?_ hs1 hs2 | with_reducible refine Fix.below (by assumption) ?_ hx1 hy1 | with_reducible refine Fix.grown (by assumption) ?_ hx1 hy1 nA nB)), o1⟩
                refine wpL_take (v := ?_) 0 rfl (by kernel_rfl) (fun _ _ _ h => h) (by rfl) ?_ hS0 ?_
                rotate_left
                focus
                  intro w9 hw9
                  go_simp
                  try with_reducible rfl
                try simp only [Act.put, List.setIfInBounds_toArray, List.set_cons_zero, List.set_cons_succ]
                refine wpL_take (v := ?_) 1 rfl (by kernel_rfl) (fun _ _ _ h => h) (by rfl) ?_ hS0 ?_
                rotate_left
                focus
                  intro w9 hw9
                  go_simp
                  try with_reducible rfl
                try simp only [Act.put, List.setIfInBounds_toArray, List.set_cons_zero, List.set_cons_succ]
                refine wpL_take (v := ?_) 2 rfl (by kernel_rfl) (fun _ _ _ h => h) (by rfl) ?_ hS0 ?_
                rotate_left
                focus
                  intro w9 hw9
                  go_simp
                  try with_reducible rfl
                try simp only [Act.put, List.setIfInBounds_toArray, List.set_cons_zero, List.set_cons_succ]
                refine wpL_take (v := ?_) 3 rfl (by kernel_rfl) (fun _ _ _ h => h) (by rfl) ?_ hS0 ?_
                rotate_left
                focus
                  intro w9 hw9
                  go_simp
                  try with_reducible rfl
                try simp only [Act.put, List.setIfInBounds_toArray, List.set_cons_zero, List.set_cons_succ]
                refine wpL_take (v := ?_) 4 rfl (by kernel_rfl) (fun _ _ _ h => h) (by rfl) ?_ hS0 ?_
                rotate_left
                focus
                  intro w9 hw9
                  go_simp
                  try with_reducible rfl
                try simp only [Act.put, List.setIfInBounds_toArray, List.set_cons_zero, List.set_cons_succ]
                refine wpL_take (v := ?_) 5 rfl (by kernel_rfl) (fun _ _ _ h => h) (by rfl) ?_ hS0 ?_
                rotate_left
                focus
                  intro w9 hw9
                  go_simp
                  try with_reducible rfl
                try simp only [Act.put, List.setIfInBounds_toArray, List.set_cons_zero, List.set_cons_succ]
                refine wpL_take (v := ?_) 6 rfl (by kernel_rfl) (fun _ _ _ h => h) (by rfl) ?_ hS0 ?_
                rotate_left
                focus
                  intro w9 hw9
                  go_simp
                  try with_reducible rfl
                try simp only [Act.put, List.setIfInBounds_toArray, List.set_cons_zero, List.set_cons_succ]
                refine wpL_take (v := ?_) 7 rfl (by kernel_rfl) (fun _ _ _ h => h) (by rfl) ?_ hS0 ?_
                rotate_left
                focus
                  intro w9 hw9
                  go_simp
                  try with_reducible rfl
                try simp only [Act.put, List.setIfInBounds_toArray, List.set_cons_zero, List.set_cons_succ]
                refine wpL_take (v := ?_) 9 rfl (by kernel_rfl) (fun _ _ _ h => h) (by rfl) ?_ hS0 ?_
                rotate_left
                focus
                  intro w9 hw9
                  go_simp
                  try with_reducible rfl
                try simp only [Act.put, List.setIfInBounds_toArray, List.set_cons_zero, List.set_cons_succ]
                refine wpL_take (v := ?_) 10 rfl (by kernel_rfl) (fun _ _ _ h => h) (by rfl) ?_ hS0 ?_
                rotate_left
                focus
                  intro w9 hw9
                  go_simp
                  try with_reducible rfl
                try simp only [Act.put, List.setIfInBounds_toArray, List.set_cons_zero, List.set_cons_succ]
                refine wpL_take (v := ?_) 11 rfl (by kernel_rfl) (fun _ _ _ h => h) (by rfl) ?_ hS0 ?_
                rotate_left
                focus
                  intro w9 hw9
                  go_simp
                  try with_reducible rfl
                try simp only [Act.put, List.setIfInBounds_toArray, List.set_cons_zero, List.set_cons_succ]
                refine wpL_take (v := ?_) 12 rfl (by kernel_rfl) (fun _ _ _ h => h) (by rfl) ?_ hS0 ?_
                rotate_left
                focus
                  intro w9 hw9
                  go_simp
                  try with_reducible rfl
                try simp only [Act.put, List.setIfInBounds_toArray, List.set_cons_zero, List.set_cons_succ]
                refine wpL_take (v := ?_) 13 rfl (by kernel_rfl) (fun _ _ _ h => h) (by rfl) ?_ hS0 ?_
                rotate_left
                focus
                  intro w9 hw9
                  go_simp
                  try with_reducible rfl
                try simp only [Act.put, List.setIfInBounds_toArray, List.set_cons_zero, List.set_cons_succ]
                refine wpL_take (v := ?_) 14 rfl (by kernel_rfl) (fun _ _ _ h => h) (by rfl) ?_ hS0 ?_
                rotate_left
                focus
                  intro w9 hw9
                  go_simp
                  try with_reducible rfl
                try simp only [Act.put, List.setIfInBounds_toArray, List.set_cons_zero, List.set_cons_succ]
                refine wpL_one 8 rfl (by kernel_rfl) (by rfl) ?_
                intro K hK
                go_simp
                refine (CX.out _ hbd).mono ?_
                rintro e w5 ⟨v5, rfl, hO5, hb5⟩
                obtain ⟨q6, d6, rfl, hd5⟩ := owns_len hO5
                rw [HM.out.1]
                dsimp only
                have hC5 : Hid (CpS w w5 g3 t ⟨pc, cc, pk, ck, px, cx, some ⟨b, o, none⟩, cr⟩ vC (.slice q5 t.key.length d5) vX (.slice qZ Z.length dZ)) := (CpS.drew hS.out.1).on hb5
                have hR5 : Hid (w5.ownsRow w.heap.size 47 2 (.slice qZ Z.length dZ) Z.length (Z.flatMap fcell)) := owns_kept (owns_drew hS.out.2.2.1.1) hb5
                have o5 : w5.cell? ⟨g3, 4, none⟩ = some (.slice qZ Z.length dZ) := hC5.out.ou.cell 4 (by decide)
                have hS5 : SF wr w.heap.size b (o + j * 2) t.rf.length cr m mc (some ⟨b, o, none⟩) q xtb w5 ∧ w5.cell? ⟨g3, 4, none⟩ = some (.slice qZ Z.length dZ) := ⟨SF.to HSC.out (by repeat' (first | with_reducible exact Fix.refl _ _ _ | with_reducible refine Fix.drew ?_ | with_reducible refine Fix.alloc ?_ hx1 hy1 | with_reducible refine Fix.set ?_ hs1 hs2 | with_reducible refine Fix.below (by assumption) ?_ hx1 hy1 | with_reducible refine Fix.grown (by assumption) ?_ hx1 hy1 nA nB)), o5⟩
                have hz5 := hC5.out.bl.size
                refine hK.out _ _ (fun _ => hS5) ?_
                try simp only [Act.put, List.setIfInBounds_toArray, List.set_cons_zero, List.set_cons_succ]
                refine wpL_take (v := ?_) 15 rfl (by kernel_rfl) (fun _ _ _ h => h) (by rfl) ?_ hS5 ?_
                rotate_left
                focus
                  intro w9 hw9
                  go_simp
                  try with_reducible rfl
                try simp only [Act.put, List.setIfInBounds_toArray, List.set_cons_zero, List.set_cons_succ]
                refine wpL_one 16 rfl (by kernel_rfl) (by rfl) ?_
                intro K hK
                go_simp
                refine hK.out _ _ (fun _ => ⟨SF.to HSC.out (by repeat' (first | with_reducible exact Fix.refl _ _ _ | with_reducible refine Fix.drew ?_ | with_reducible refine Fix.alloc ?_ hx1 hy1 | with_reducible refine Fix.set ?_ hs1 hs2 | with_reducible refine Fix.below (by assumption) ?_ hx1 hy1 | with_reducible refine Fix.grown (by assumption) ?_ hx1 hy1 nA nB)), cell_al o5⟩) ?_
                try simp only [Act.put, List.setIfInBounds_toArray, List.set_cons_zero, List.set_cons_succ]
                refine wpL_one 17 rfl (by kernel_rfl) (by rfl) ?_
                intro K hK
                refine wp_appW _ (.tmp 70) (.tmp 85) 47 25 _ 2 40 rfl Tryz.underlying25 info_rf rfl (by decide) w.heap.size (.slice qZ Z.length dZ) _ _ (by rfl) (hR5.out.alloc _) [.slice q6 m d6, .string xtb] rfl (by simp [Value.oneCell']) w5.heap.size (by rfl) (cell_new w5 _ _) (by omega) (by omega) (by simp; omega) ?_
                intro v7 w7 h7 h8
                obtain ⟨q7, d7, rfl, hd7⟩ := owns_len h7
                have hC7 : Hid (CpS w w7 g3 t ⟨pc, cc, pk, ck, px, cx, some ⟨b, o, none⟩, cr⟩ vC (.slice q5 t.key.length d5) vX (.slice qZ Z.length dZ)) := CpS.grown (hC5.out.on (al w5 _)) (hR5.out.alloc _) (by decide) (by decide) h8
                have o7 : w7.cell? ⟨g3, 4, none⟩ = some (.slice qZ Z.length dZ) := hC7.out.ou.cell 4 (by decide)
                have f7 := hC7.out.ou.frozen 4
                have hS7 : SF wr w.heap.size b (o + j * 2) t.rf.length cr m mc (some ⟨b, o, none⟩) q xtb w7 ∧ w7.cell? ⟨g3, 4, none⟩ = some (.slice qZ Z.length dZ) := ⟨SF.to HSC.out (by repeat' (first | with_reducible exact Fix.refl _ _ _ | with_reducible refine Fix.drew ?_ | with_reducible refine Fix.alloc ?_ hx1 hy1 | with_reducible refine Fix.set ?_ hs1 hs2 | with_reducible refine Fix.below (by assumption) ?_ hx1 hy1 | with_reducible refine Fix.grown (by assumption) ?_ hx1 hy1 nA nB)), o7⟩
                have KP : Hid (∀ (B e size n : Nat) (v : Value) (xs : List Value), e ≠ 47 → e ≠ 27 → w5.ownsRow B e size v n xs → (w7.setCell ⟨g3, 4, none⟩ (.slice q7 (Z.length + 1) d7)).ownsRow B e size v n xs) := fun B e size n v xs h1 h2 h => owns_set (owns_other (h.alloc _) (hR5.out.alloc _) h1 h8) (owns_apart (owns_other (h.alloc _) (hR5.out.alloc _) h1 h8) hC7.out.ou h2)
                have KQ : Hid (∀ (B e size n : Nat) (v : Value) (xs : List Value), wr.ownsRow B e size v n xs → w5.ownsRow B e size v n xs) := fun B e size n v xs h => owns_kept (owns_drew h) hb5
                have KN : Hid (OwnI w5 w.heap.size (.slice q6 m d6) xcs) := by
                  have h := owns_base hO5 (show w.heap.size ≤ _ by simpa using hz)
                  rw [HM.out.1] at h
                  show World.ownsRow _ _ _ _ _ _ _
                  rw [HM.out.1]
                  exact h
                refine hK.out _ _ (fun _ => hS7) ?_
                try simp only [Act.put, List.setIfInBounds_toArray, List.set_cons_zero, List.set_cons_succ]
                refine wpL_take (v := ?_) 18 rfl (by kernel_rfl) (fun _ _ _ h => h) (by rfl) ?_ hS7 ?_
                rotate_left
                focus
                  intro w9 hw9
                  go_simp
                  try with_reducible rfl
                try simp only [Act.put, List.setIfInBounds_toArray, List.set_cons_zero, List.set_cons_succ]
                refine wpL_one 19 rfl (by kernel_rfl) (by rfl) ?_
                intro K hK
                go_simp
                refine hK.out _ _ (fun h => absurd rfl h) ?_
                refine wpL_done (by kernel_rfl) ?_ _
                refine NoPanic.normal ?_
                go_wp2_with fail
                go_roundw
                case rel => exact ⟨j + 1, .slice q7 (Z.length + 1) d7, Z ++ [((⟨xcs, xtb⟩ : Rf), .slice q6 m d6)], hj1, by go_num, ⟨hC7.out.set 4 _ _ _ _ rfl, ⟨KP.out _ _ _ _ _ _ (by decide) (by decide) (KQ.out _ _ _ _ _ _ hS.out.2.1.1), ⟨KP.out _ _ _ _ _ _ (by decide) (by decide) (KQ.out _ _ _ _ _ _ hS.out.2.1.2.1.1), fun z hz => KP.out _ _ _ _ _ _ (by decide) (by decide) (KQ.out _ _ _ _ _ _ (hS.out.2.1.2.1.2 z hz))⟩, hS.out.2.1.2.2⟩, ⟨owns_set (OwnF.snoc (c := ((⟨xcs, xtb⟩ : Rf), .slice q6 m d6)) h7) (owns_apart h7 hC7.out.ou (by decide)), fun z hz => by
                  rcases List.mem_append.1 hz with h | h
                  · exact KP.out _ _ _ _ _ _ (by decide) (by decide) (KQ.out _ _ _ _ _ _ (hS.out.2.2.1.2 z h))
                  · rw [List.mem_singleton.1 h]
                    exact KP.out _ _ _ _ _ _ (by decide) (by decide) KN.out⟩, by rw [HT.out, ← hS.out.2.2.2]; simp⟩⟩
                case measure => simp [intOf]; omega

          · have hj1 : j < t.ix.length := by omega
            have hok2 := HV.out.2.xn _ (List.getElem_mem hj1)
            obtain ⟨b, o, rfl, hbB, a0, ⟨q, mc, a1, hRI⟩, a2⟩ := HV.out.1.ix j hj1
            have k : ∀ {o : Nat} {v : Option Value}, w.cell? ⟨b, o, none⟩ = v → wr.cell? ⟨b, o, none⟩ = v := fun {o v} hc => (hS.out.1.bl.cell (p := ⟨b, o, none⟩) hbB).trans hc
            have HT : Hid (t.ix.take (j + 1) = t.ix.take j ++ [t.ix[j]]) := (List.take_append_getElem hj1).symm
            have hZj : Hid (Z.length = j ∧ True) := ⟨by have h := congrArg List.length hS.out.2.2.2; simp at h; omega, trivial⟩
            have hjl : (j : Int) < (t.ix.length : Int) := by omega
            generalize t.ix[j] = x at *
            obtain ⟨xnm, xcs, un⟩ := x
            dsimp only at a0 a1 a2 hRI hok2
            have HSC : Hid (SX wr w.heap.size b (o + j * 3) t.ix.length cx xcs.length mc (some ⟨b, o, none⟩) q xnm un wr) := ⟨Fix.refl _ _ _, x1, k a0, k a1, k a2⟩
            have CX : Hid (∀ w1 : World, Below w.heap.size w w1 → Calls Tryz.prog 13 #[.slice q xcs.length mc] w1 fun e w' => ∃ v, e = .returned v ∧ OwnI w' w1.heap.size v xcs ∧ Below w1.heap.size w1 w') := fun w1 hb => copied_any xcs q mc w1 (hRI.on hb) hok2.2
            have o1 : wr.cell? ⟨g3, 3, none⟩ = some (.slice qZ Z.length dZ) := hS.out.1.ou.cell 3 (by decide)
            have hz := hS.out.1.bl.size
            have hx1 : w.heap.size < wr.heap.size := hS.out.1.bx.lt.2
            have hy1 : b < wr.heap.size := by omega
            have hlo := hS.out.1.lo
            have hs1 : w.heap.size ≠ g3 := by omega
            have hs2 : b ≠ g3 := by omega
            have nA : some w.heap.size ≠ (Value.slice qZ Z.length dZ).ownBlock := (owns_apart hS.out.2.2.1.1 hS.out.1.bx (by decide)).symm
            have nB : some b ≠ (Value.slice qZ Z.length dZ).ownBlock := by
              intro h
              have := (World.ownsRow.lt hS.out.2.2.1.1 b h.symm).1
              omega
            have hbd : Below w.heap.size w wr.drew := hS.out.1.bl.drew
            have hzl : Z.length ≤ j := by have := hZj.out.1; omega
            clear a0 a1 a2 k hRI
            obtain ⟨m, hm⟩ : ∃ m, xcs.length = m := ⟨_, rfl⟩
            rw [hm] at HSC CX
            have HM : Hid (xcs.length = m ∧ True) := ⟨hm, trivial⟩
            clear hm hZj
            go_wp2_with fail
            refine wp_region_L (fun w' => SX wr w.heap.size b (o + j * 3) t.ix.length cx m mc (some ⟨b, o, none⟩) q xnm un w' ∧ w'.cell? ⟨g3, 3, none⟩ = some (.slice qZ Z.length dZ)) 25 (by kernel_rfl) ?_
            have hS0 : SX wr w.heap.size b (o + j * 3) t.ix.length cx m mc (some ⟨b, o, none⟩) q xnm un wr.drew ∧ wr.drew.cell? ⟨g3, 3, none⟩ = some (.slice qZ Z.length dZ) := ⟨SX.to HSC.out (by repeat' (first | with_reducible exact Fix.refl _ _ _ | with_reducible refine Fix.drew ?_ | with_reducible refine Fix.alloc ?_ hx1 hy1 | with_reducible refine Fix.set ?_ hs1 hs2 | with_reducible refine Fix.below (by assumption) ?_ hx1 hy1 | with_reducible refine Fix.grown (by assumption) ?_ hx1 hy1 nA nB)), o1⟩
            refine wpL_take (v := ?_) 0 rfl (by kernel_rfl) (fun _ _ _ h => h) (by rfl) ?_ hS0 ?_
            rotate_left
            focus
              intro w9 hw9
              go_simp
              try with_reducible rfl
            try simp only [Act.put, List.setIfInBounds_toArray, List.set_cons_zero, List.set_cons_succ]
            refine wpL_take (v := ?_) 1 rfl (by kernel_rfl) (fun _ _ _ h => h) (by rfl) ?_ hS0 ?_
            rotate_left
            focus
              intro w9 hw9
              go_simp
              try with_reducible rfl
            try simp only [Act.put, List.setIfInBounds_toArray, List.set_cons_zero, List.set_cons_succ]
            refine wpL_take (v := ?_) 2 rfl (by kernel_rfl) (fun _ _ _ h => h) (by rfl) ?_ hS0 ?_
            rotate_left
            focus
              intro w9 hw9
              go_simp
              try with_reducible rfl
            try simp only [Act.put, List.setIfInBounds_toArray, List.set_cons_zero, List.set_cons_succ]
            refine wpL_take (v := ?_) 3 rfl (by kernel_rfl) (fun _ _ _ h => h) (by rfl) ?_ hS0 ?_
            rotate_left
            focus
              intro w9 hw9
              go_simp
              try with_reducible rfl
            try simp only [Act.put, List.setIfInBounds_toArray, List.set_cons_zero, List.set_cons_succ]
            refine wpL_take (v := ?_) 4 rfl (by kernel_rfl) (fun _ _ _ h => h) (by rfl) ?_ hS0 ?_
            rotate_left
            focus
              intro w9 hw9
              go_simp
              try with_reducible rfl
            try simp only [Act.put, List.setIfInBounds_toArray, List.set_cons_zero, List.set_cons_succ]
            refine wpL_take (v := ?_) 5 rfl (by kernel_rfl) (fun _ _ _ h => h) (by rfl) ?_ hS0 ?_
            rotate_left
            focus
              intro w9 hw9
              go_simp
              try with_reducible rfl
            try simp only [Act.put, List.setIfInBounds_toArray, List.set_cons_zero, List.set_cons_succ]
            refine wpL_take (v := ?_) 6 rfl (by kernel_rfl) (fun _ _ _ h => h) (by rfl) ?_ hS0 ?_
            rotate_left
            focus
              intro w9 hw9
              go_simp
              try with_reducible rfl
            try simp only [Act.put, List.setIfInBounds_toArray, List.set_cons_zero, List.set_cons_succ]
            refine wpL_take (v := ?_) 7 rfl (by kernel_rfl) (fun _ _ _ h => h) (by rfl) ?_ hS0 ?_
            rotate_left
            focus
              intro w9 hw9
              go_simp
              try with_reducible rfl
            try simp only [Act.put, List.setIfInBounds_toArray, List.set_cons_zero, List.set_cons_succ]
            refine wpL_take (v := ?_) 8 rfl (by kernel_rfl) (fun _ _ _ h => h) (by rfl) ?_ hS0 ?_
            rotate_left
            focus
              intro w9 hw9
              go_simp
              try with_reducible rfl
            try simp only [Act.put, List.setIfInBounds_toArray, List.set_cons_zero, List.set_cons_succ]
            refine wpL_take (v := ?_) 9 rfl (by kernel_rfl) (fun _ _ _ h => h) (by rfl) ?_ hS0 ?_
            rotate_left
            focus
              intro w9 hw9
              go_simp
              try with_reducible rfl
            try simp only [Act.put, List.setIfInBounds_toArray, List.set_cons_zero, List.set_cons_succ]
            refine wpL_take (v := ?_) 10 rfl (by kernel_rfl) (fun _ _ _ h => h) (by rfl) ?_ hS0 ?_
            rotate_left
            focus
              intro w9 hw9
              go_simp
              try with_reducible rfl
            try simp only [Act.put, List.setIfInBounds_toArray, List.set_cons_zero, List.set_cons_succ]
            refine wpL_take (v := ?_) 11 rfl (by kernel_rfl) (fun _ _ _ h => h) (by rfl) ?_ hS0 ?_
            rotate_left
            focus
              intro w9 hw9
              go_simp
              try with_reducible rfl
            try simp only [Act.put, List.setIfInBounds_toArray, List.set_cons_zero, List.set_cons_succ]
            refine wpL_take (v := ?_) 12 rfl (by kernel_rfl) (fun _ _ _ h => h) (by rfl) ?_ hS0 ?_
            rotate_left
            focus
              intro w9 hw9
              go_simp
              try with_reducible rfl
            try simp only [Act.put, List.setIfInBounds_toArray, List.set_cons_zero, List.set_cons_succ]
            refine wpL_take (v := ?_) 13 rfl (by kernel_rfl) (fun _ _ _ h => h) (by rfl) ?_ hS0 ?_
            rotate_left
            focus
              intro w9 hw9
              go_simp
              try with_reducible rfl
            try simp only [Act.put, List.setIfInBounds_toArray, List.set_cons_zero, List.set_cons_succ]
            refine wpL_take (v := ?_) 15 rfl (by kernel_rfl) (fun _ _ _ h => h) (by rfl) ?_ hS0 ?_
            rotate_left
            focus
              intro w9 hw9
              go_simp
              try with_reducible rfl
            try simp only [Act.put, List.setIfInBounds_toArray, List.set_cons_zero, List.set_cons_succ]
            refine wpL_take (v := ?_) 16 rfl (by kernel_rfl) (fun _ _ _ h => h) (by rfl) ?_ hS0 ?_
            rotate_left
            focus
              intro w9 hw9
              go_simp
              try with_reducible rfl
            try simp only [Act.put, List.setIfInBounds_toArray, List.set_cons_zero, List.set_cons_succ]
            refine wpL_take (v := ?_) 17 rfl (by kernel_rfl) (fun _ _ _ h => h) (by rfl) ?_ hS0 ?_
            rotate_left
            focus
              intro w9 hw9
              go_simp
              try with_reducible rfl
            try simp only [Act.put, List.setIfInBounds_toArray, List.set_cons_zero, List.set_cons_succ]
            refine wpL_take (v := ?_) 18 rfl (by kernel_rfl) (fun _ _ _ h => h) (by rfl) ?_ hS0 ?_
            rotate_left
            focus
              intro w9 hw9
              go_simp
              try with_reducible rfl
            try simp only [Act.put, List.setIfInBounds_toArray, List.set_cons_zero, List.set_cons_succ]
            refine wpL_take (v := ?_) 19 rfl (by kernel_rfl) (fun _ _ _ h => h) (by rfl) ?_ hS0 ?_
            rotate_left
            focus
              intro w9 hw9
              go_simp
              try with_reducible rfl
            try simp only [Act.put, List.setIfInBounds_toArray, List.set_cons_zero, List.set_cons_succ]
            refine wpL_take (v := ?_) 20 rfl (by kernel_rfl) (fun _ _ _ h => h) (by rfl) ?_ hS0 ?_
            rotate_left
            focus
              intro w9 hw9
              go_simp
              try with_reducible rfl
            try simp only [Act.put, List.setIfInBounds_toArray, List.set_cons_zero, List.set_cons_succ]
            refine wpL_one 14 rfl (by kernel_rfl) (by rfl) ?_
            intro K hK
            go_simp
            refine (CX.out _ hbd).mono ?_
            rintro e w5 ⟨v5, rfl, hO5, hb5⟩
            obtain ⟨q6, d6, rfl, hd5⟩ := owns_len hO5
            rw [HM.out.1]
            dsimp only
            have hC5 : Hid (CpS w w5 g3 t ⟨pc, cc, pk, ck, some ⟨b, o, none⟩, cx, pr, cr⟩ vC (.slice q5 t.key.length d5) (.slice qZ Z.length dZ) (.slice none 0 0)) := (CpS.drew hS.out.1).on hb5
            have hR5 : Hid (w5.ownsRow w.heap.size 44 3 (.slice qZ Z.length dZ) Z.length (Z.flatMap xcell)) := owns_kept (owns_drew hS.out.2.2.1.1) hb5
            have o5 : w5.cell? ⟨g3, 3, none⟩ = some (.slice qZ Z.length dZ) := hC5.out.ou.cell 3 (by decide)
            have hS5 : SX wr w.heap.size b (o + j * 3) t.ix.length cx m mc (some ⟨b, o, none⟩) q xnm un w5 ∧ w5.cell? ⟨g3, 3, none⟩ = some (.slice qZ Z.length dZ) := ⟨SX.to HSC.out (by repeat' (first | with_reducible exact Fix.refl _ _ _ | with_reducible refine Fix.drew ?_ | with_reducible refine Fix.alloc ?_ hx1 hy1 | with_reducible refine Fix.set ?_ hs1 hs2 | with_reducible refine Fix.below (by assumption) ?_ hx1 hy1 | with_reducible refine Fix.grown (by assumption) ?_ hx1 hy1 nA nB)), o5⟩
            have hz5 := hC5.out.bl.size
            refine hK.out _ _ (fun _ => hS5) ?_
            try simp only [Act.put, List.setIfInBounds_toArray, List.set_cons_zero, List.set_cons_succ]
            refine wpL_take (v := ?_) 21 rfl (by kernel_rfl) (fun _ _ _ h => h) (by rfl) ?_ hS5 ?_
            rotate_left
            focus
              intro w9 hw9
              go_simp
              try with_reducible rfl
            try simp only [Act.put, List.setIfInBounds_toArray, List.set_cons_zero, List.set_cons_succ]
            refine wpL_one 22 rfl (by kernel_rfl) (by rfl) ?_
            intro K hK
            go_simp
            refine hK.out _ _ (fun _ => ⟨SX.to HSC.out (by repeat' (first | with_reducible exact Fix.refl _ _ _ | with_reducible refine Fix.drew ?_ | with_reducible refine Fix.alloc ?_ hx1 hy1 | with_reducible refine Fix.set ?_ hs1 hs2 | with_reducible refine Fix.below (by assumption) ?_ hx1 hy1 | with_reducible refine Fix.grown (by assumption) ?_ hx1 hy1 nA nB)), cell_al o5⟩) ?_
            try simp only [Act.put, List.setIfInBounds_toArray, List.set_cons_zero, List.set_cons_succ]
            refine wpL_one 23 rfl (by kernel_rfl) (by rfl) ?_
            intro K hK
            refine wp_appW _ (.tmp 38) (.tmp 59) 44 24 _ 3 48 rfl Tryz.underlying24 info_ix rfl (by decide) w.heap.size (.slice qZ Z.length dZ) _ _ (by rfl) (hR5.out.alloc _) [.string xnm, .slice q6 m d6, .bool un] rfl (by simp [Value.oneCell']) w5.heap.size (by rfl) (cell_new w5 _ _) (by omega) (by omega) (by simp; omega) ?_
            intro v7 w7 h7 h8
            obtain ⟨q7, d7, rfl, hd7⟩ := owns_len h7
            have hC7 : Hid (CpS w w7 g3 t ⟨pc, cc, pk, ck, some ⟨b, o, none⟩, cx, pr, cr⟩ vC (.slice q5 t.key.length d5) (.slice qZ Z.length dZ) (.slice none 0 0)) := CpS.grown (hC5.out.on (al w5 _)) (hR5.out.alloc _) (by decide) (by decide) h8
            have o7 : w7.cell? ⟨g3, 3, none⟩ = some (.slice qZ Z.length dZ) := hC7.out.ou.cell 3 (by decide)
            have f7 := hC7.out.ou.frozen 3
            have hS7 : SX wr w.heap.size b (o + j * 3) t.ix.length cx m mc (some ⟨b, o, none⟩) q xnm un w7 ∧ w7.cell? ⟨g3, 3, none⟩ = some (.slice qZ Z.length dZ) := ⟨SX.to HSC.out (by repeat' (first | with_reducible exact Fix.refl _ _ _ | with_reducible refine Fix.drew ?_ | with_reducible refine Fix.alloc ?_ hx1 hy1 | with_reducible refine Fix.set ?_ hs1 hs2 | with_reducible refine Fix.below (by assumption) ?_ hx1 hy1 | with_reducible refine Fix.grown (by assumption) ?_ hx1 hy1 nA nB)), o7⟩
            have KP : Hid (∀ (B e size n : Nat) (v : Value) (xs : List Value), e ≠ 44 → e ≠ 27 → w5.ownsRow B e size v n xs → (w7.setCell ⟨g3, 3, none⟩ (.slice q7 (Z.length + 1) d7)).ownsRow B e size v n xs) := fun B e size n v xs h1 h2 h => owns_set (owns_other (h.alloc _) (hR5.out.alloc _) h1 h8) (owns_apart (owns_other (h.alloc _) (hR5.out.alloc _) h1 h8) hC7.out.ou h2)
            have KQ : Hid (∀ (B e size n : Nat) (v : Value) (xs : List Value), wr.ownsRow B e size v n xs → w5.ownsRow B e size v n xs) := fun B e size n v xs h => owns_kept (owns_drew h) hb5
            have KN : Hid (OwnI w5 w.heap.size (.slice q6 m d6) xcs) := by
              have h := owns_base hO5 (show w.heap.size ≤ _ by simpa using hz)
              rw [HM.out.1] at h
              show World.ownsRow _ _ _ _ _ _ _
              rw [HM.out.1]
              exact h
            refine hK.out _ _ (fun _ => hS7) ?_
            try simp only [Act.put, List.setIfInBounds_toArray, List.set_cons_zero, List.set_cons_succ]
            refine wpL_take (v := ?_) 24 rfl (by kernel_rfl) (fun _ _ _ h => h) (by rfl) ?_ hS7 ?_
            rotate_left
            focus
              intro w9 hw9
              go_simp
              try with_reducible rfl
            try simp only [Act.put, List.setIfInBounds_toArray, List.set_cons_zero, List.set_cons_succ]
            refine wpL_one 25 rfl (by kernel_rfl) (by rfl) ?_
            intro K hK
            go_simp
            refine hK.out _ _ (fun h => absurd rfl h) ?_
            refine wpL_done (by kernel_rfl) ?_ _
            refine NoPanic.normal ?_
            go_wp2_with fail
            go_roundw
            case rel => exact ⟨j + 1, .slice q7 (Z.length + 1) d7, Z ++ [((⟨xnm, xcs, un⟩ : Ix), .slice q6 m d6)], hj1, by go_num, ⟨hC7.out.set 3 _ _ _ _ rfl, KP.out _ _ _ _ _ _ (by decide) (by decide) (KQ.out _ _ _ _ _ _ hS.out.2.1), ⟨owns_set (OwnX.snoc (c := ((⟨xnm, xcs, un⟩ : Ix), .slice q6 m d6)) h7) (owns_apart h7 hC7.out.ou (by decide)), fun z hz => by
              rcases List.mem_append.1 hz with h | h
              · exact KP.out _ _ _ _ _ _ (by decide) (by decide) (KQ.out _ _ _ _ _ _ (hS.out.2.2.1.2 z h))
              · rw [List.mem_singleton.1 h]
                exact KP.out _ _ _ _ _ _ (by decide) (by decide) KN.out⟩, by rw [HT.out, ← hS.out.2.2.2]; simp⟩⟩
            case measure => simp [intOf]; omega

      · have hj1 : j < t.cs.length := by omega
        obtain ⟨b, o, rfl, hbB, a0, a1, a2, a3, a4, a5, a6⟩ := HV.out.1.cs j hj1
        have k : ∀ {o : Nat} {v : Option Value}, w.cell? ⟨b, o, none⟩ = v → wr.cell? ⟨b, o, none⟩ = v := fun {o v} hc => (hS.out.1.bl.cell (p := ⟨b, o, none⟩) hbB).trans hc
        have HSC : Hid (SC wr w.heap.size b (o + j * 7) t.cs.length cc (some ⟨b, o, none⟩) t.cs[j] wr) := ⟨Fix.refl _ _ _, x1, k a0, k a1, k a2, k a3, k a4, k a5, k a6⟩
        have o1 : wr.cell? ⟨g3, 1, none⟩ = some (.slice qC (t.cs.take j).length dC) := hS.out.1.ou.cell 1 (by decide)
        have HT : Hid (t.cs.take (j + 1) = t.cs.take j ++ [t.cs[j]]) := (List.take_append_getElem hj1).symm
        have hz := hS.out.1.bl.size
        have hx1 : w.heap.size < wr.heap.size := hS.out.1.bx.lt.2
        have hy1 : b < wr.heap.size := by omega
        have hlo := hS.out.1.lo
        have hs1 : w.heap.size ≠ g3 := by omega
        have hs2 : b ≠ g3 := by omega
        have nA : some w.heap.size ≠ (Value.slice qC (t.cs.take j).length dC).ownBlock := (owns_apart hS.out.2 hS.out.1.bx (by decide)).symm
        have nB : some b ≠ (Value.slice qC (t.cs.take j).length dC).ownBlock := by
          intro h
          have := (World.ownsRow.lt hS.out.2 b h.symm).1
          omega
        have hul : (t.cs.take j).length ≤ j := by simp; omega
        have hjl : (j : Int) < (t.cs.length : Int) := by omega
        clear a0 a1 a2 a3 a4 a5 a6 k
        generalize t.cs[j] = c at *
        generalize t.cs.take j = U at *
        obtain ⟨cnm, kd, nl, ⟨dk, dn, df, ds⟩⟩ := c
        go_wp2_with fail
        refine wp_region_L (fun w' => SC wr w.heap.size b (o + j * 7) t.cs.length cc (some ⟨b, o, none⟩) ⟨cnm, kd, nl, ⟨dk, dn, df, ds⟩⟩ w' ∧ w'.cell? ⟨g3, 1, none⟩ = some (.slice qC U.length dC)) 10 (by kernel_rfl) ?_
        have hS0 : SC wr w.heap.size b (o + j * 7) t.cs.length cc (some ⟨b, o, none⟩) ⟨cnm, kd, nl, ⟨dk, dn, df, ds⟩⟩ wr.drew ∧ wr.drew.cell? ⟨g3, 1, none⟩ = some (.slice qC U.length dC) := ⟨SC.to HSC.out (by repeat' (first | with_reducible exact Fix.refl _ _ _ | with_reducible refine Fix.drew ?_ | with_reducible refine Fix.alloc ?_ hx1 hy1 | with_reducible refine Fix.set ?_ hs1 hs2 | with_reducible refine Fix.below (by assumption) ?_ hx1 hy1 | with_reducible refine Fix.grown (by assumption) ?_ hx1 hy1 nA nB)), o1⟩
        refine wpL_take (v := ?_) 0 rfl (by kernel_rfl) (fun _ _ _ h => h) (by rfl) ?_ hS0 ?_
        rotate_left
        focus
          intro w9 hw9
          go_simp
          try with_reducible rfl
        try simp only [Act.put, List.setIfInBounds_toArray, List.set_cons_zero, List.set_cons_succ]
        refine wpL_take (v := ?_) 1 rfl (by kernel_rfl) (fun _ _ _ h => h) (by rfl) ?_ hS0 ?_
        rotate_left
        focus
          intro w9 hw9
          go_simp
          try with_reducible rfl
        try simp only [Act.put, List.setIfInBounds_toArray, List.set_cons_zero, List.set_cons_succ]
        refine wpL_take (v := ?_) 2 rfl (by kernel_rfl) (fun _ _ _ h => h) (by rfl) ?_ hS0 ?_
        rotate_left
        focus
          intro w9 hw9
          go_simp
          try with_reducible rfl
        try simp only [Act.put, List.setIfInBounds_toArray, List.set_cons_zero, List.set_cons_succ]
        refine wpL_take (v := ?_) 3 rfl (by kernel_rfl) (fun _ _ _ h => h) (by rfl) ?_ hS0 ?_
        rotate_left
        focus
          intro w9 hw9
          go_simp
          try with_reducible rfl
        try simp only [Act.put, List.setIfInBounds_toArray, List.set_cons_zero, List.set_cons_succ]
        refine wpL_take (v := ?_) 4 rfl (by kernel_rfl) (fun _ _ _ h => h) (by rfl) ?_ hS0 ?_
        rotate_left
        focus
          intro w9 hw9
          go_simp
          try with_reducible rfl
        try simp only [Act.put, List.setIfInBounds_toArray, List.set_cons_zero, List.set_cons_succ]
        refine wpL_take (v := ?_) 5 rfl (by kernel_rfl) (fun _ _ _ h => h) (by rfl) ?_ hS0 ?_
        rotate_left
        focus
          intro w9 hw9
          go_simp
          try with_reducible rfl
        try simp only [Act.put, List.setIfInBounds_toArray, List.set_cons_zero, List.set_cons_succ]
        refine wpL_take (v := ?_) 6 rfl (by kernel_rfl) (fun _ _ _ h => h) (by rfl) ?_ hS0 ?_
        rotate_left
        focus
          intro w9 hw9
          go_simp
          try with_reducible rfl
        try simp only [Act.put, List.setIfInBounds_toArray, List.set_cons_zero, List.set_cons_succ]
        refine wpL_one 7 rfl (by kernel_rfl) (by rfl) ?_
        intro K hK
        go_simp
        refine hK.out _ _ (fun _ => ⟨SC.to HSC.out (by repeat' (first | with_reducible exact Fix.refl _ _ _ | with_reducible refine Fix.drew ?_ | with_reducible refine Fix.alloc ?_ hx1 hy1 | with_reducible refine Fix.set ?_ hs1 hs2 | with_reducible refine Fix.below (by assumption) ?_ hx1 hy1 | with_reducible refine Fix.grown (by assumption) ?_ hx1 hy1 nA nB)), cell_al o1⟩) ?_
        try simp only [Act.put, List.setIfInBounds_toArray, List.set_cons_zero, List.set_cons_succ]
        refine wpL_one 8 rfl (by kernel_rfl) (by rfl) ?_
        intro K hK
        refine wp_appW _ (.tmp 21) (.tmp 27) 40 22 _ 7 72 rfl Tryz.underlying22 info_col rfl (by decide) w.heap.size (.slice qC U.length dC) _ _ (by rfl) (owns_drew (hS.out.2.alloc _)) [.string cnm, .int .i64 kd, .bool nl, .int .i64 dk, .int .i64 dn, .float .f64 df, .string ds] rfl (by simp [Value.oneCell']) wr.heap.size (by rfl) (cell_newD wr _ _) (by omega) (by omega) (by simp; omega) ?_
        intro v6 w6 h6 h8
        obtain ⟨q6, d6, rfl, hd6⟩ := owns_len h6
        have hC6 : Hid (CpS w w6 g3 t ⟨some ⟨b, o, none⟩, cc, pk, ck, px, cx, pr, cr⟩ (.slice qC U.length dC) (.slice q5 t.key.length d5) (.slice none 0 0) (.slice none 0 0)) := CpS.grown (CpS.drew (hS.out.1.on (al wr _))) (owns_drew (hS.out.2.alloc _)) (by decide) (by decide) h8
        have o6 : w6.cell? ⟨g3, 1, none⟩ = some (.slice qC U.length dC) := hC6.out.ou.cell 1 (by decide)
        have f6 := hC6.out.ou.frozen 1
        have hS6 : SC wr w.heap.size b (o + j * 7) t.cs.length cc (some ⟨b, o, none⟩) ⟨cnm, kd, nl, ⟨dk, dn, df, ds⟩⟩ w6 ∧ w6.cell? ⟨g3, 1, none⟩ = some (.slice qC U.length dC) := ⟨SC.to HSC.out (by repeat' (first | with_reducible exact Fix.refl _ _ _ | with_reducible refine Fix.drew ?_ | with_reducible refine Fix.alloc ?_ hx1 hy1 | with_reducible refine Fix.set ?_ hs1 hs2 | with_reducible refine Fix.below (by assumption) ?_ hx1 hy1 | with_reducible refine Fix.grown (by assumption) ?_ hx1 hy1 nA nB)), o6⟩
        refine hK.out _ _ (fun _ => hS6) ?_
        try simp only [Act.put, List.setIfInBounds_toArray, List.set_cons_zero, List.set_cons_succ]
        refine wpL_take (v := ?_) 9 rfl (by kernel_rfl) (fun _ _ _ h => h) (by rfl) ?_ hS6 ?_
        rotate_left
        focus
          intro w9 hw9
          go_simp
          try with_reducible rfl
        try simp only [Act.put, List.setIfInBounds_toArray, List.set_cons_zero, List.set_cons_succ]
        refine wpL_one 10 rfl (by kernel_rfl) (by rfl) ?_
        intro K hK
        go_simp
        refine hK.out _ _ (fun h => absurd rfl h) ?_
        refine wpL_done (by kernel_rfl) ?_ _
        refine NoPanic.normal ?_
        go_wp2_with fail
        go_roundw
        case rel => exact ⟨j + 1, .slice q6 (U.length + 1) d6, hj1, by go_num, hC6.out.set 1 _ _ _ _ rfl, by rw [HT.out]; exact owns_set (OwnC.snoc h6) (owns_apart h6 hC6.out.ou (by decide))⟩
        case measure => simp [intOf]; omega

end Go.Proofs.YthbjheiogghjnaaGreatDoor
