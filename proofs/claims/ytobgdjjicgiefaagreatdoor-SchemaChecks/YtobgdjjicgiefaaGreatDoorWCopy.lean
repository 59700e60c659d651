/- The walks of copied and of Copy: a table of its own. -/
import Derived.Test.YtobgdjjicgiefaaGreatDoorWOwn1
import Derived.Test.YtobgdjjicgiefaaGreatDoorWChkT
import Derived.Test.YtobgdjjicgiefaaGreatDoorWHeld
namespace Go.Proofs.YtobgdjjicgiefaaGreatDoor
open Go.RowKit
set_option maxRecDepth 100000

set_option maxHeartbeats 2000000 in
theorem copied_any (L : List Int) (p : Option Addr) (c : Nat) (w : World) (hR : RowI w w.heap.size p L) (hlen : L.length ≤ 17592186043904) :
    Calls Tryz.prog 38 #[.slice p L.length c] w fun e w' => ∃ v, e = .returned v ∧ OwnI w' w.heap.size v L ∧ Below w.heap.size w w' := by
  have HA : Hid (RowI _ _ _ _) := hR
  clear hR
  go_enter Tryz.func38, Tryz.ntmps38
  go_wp2_with fail
  go_loopw [3, 4] (fun u i wr => ∃ j : Nat, j ≤ L.length ∧ i = .int .i64 (j : Int) ∧ Hid (OwnI wr w.heap.size u (L.take j)) ∧ Below w.heap.size w wr) (fun _ i _ => L.length - (intOf i).toNat)
  case atStart => exact ⟨0, Nat.zero_le _, by go_num, World.ownsRow_lit w #[] 0 (Nat.le_refl _) (Nat.zero_le _) rfl, by go_grown⟩
  case round =>
    obtain ⟨j, hj, rfl, hO, hn⟩ := hrel
    by_cases hj0 : j = L.length
    · subst hj0
      rw [List.take_length] at hO
      go_wp2
      go_ret
      exact ⟨_, rfl, hO.out, hn⟩
    · have hj1 : j < L.length := by omega
      obtain ⟨b, o, rfl, hbB, d0⟩ := HA.out j hj1
      have a0 := (hn.cell (p := ⟨b, o + j, none⟩) hbB).trans d0
      have HS : Hid (L.take (j + 1) = L.take j ++ [L[j]]) := (List.take_append_getElem hj1).symm
      have hul : (L.take j).length ≤ j := by simp; omega
      clear d0
      generalize L.take j = U at *
      generalize L[j] = r at *
      go_wp2_with (first | (at_builtin; go_loud (refine wpList_app1 _ rfl (.tmp 12) _ 3 25 _ 1 8 rfl Tryz.underlying25 info_int rfl (by decide) w.heap.size u3 _ _ (by rfl) hO.out [.int .i64 r] rfl (by intro u hu; have e : u = .int .i64 r := (by simpa using hu); subst e; rfl) _ rfl (by simp) (by omega) (by omega) hn.size ?_); intro v6 w6 h6 h7 h8))
      go_roundw
      case rel => exact ⟨j + 1, hj1, by go_num, (show OwnI _ _ _ _ by rw [HS.out]; unfold OwnI; rw [List.length_append, List.map_append]; exact h6), hn.trans h7⟩
      case measure => simp [intOf]; omega

/-- two blocks are as they were -/
structure Fix (w0 : World) (x y : Nat) (w' : World) : Prop where
  hs : w0.heap.size ≤ w'.heap.size
  hx : w'.heap[x]? = w0.heap[x]?
  hy : w'.heap[y]? = w0.heap[y]?
theorem Fix.refl (w0 : World) (x y : Nat) : Fix w0 x y w0 := ⟨Nat.le_refl _, rfl, rfl⟩
theorem Fix.drew {w0 w' : World} {x y : Nat} (h : Fix w0 x y w') : Fix w0 x y w'.drew := ⟨h.hs, h.hx, h.hy⟩
theorem Fix.below {w0 w' w'' : World} {x y : Nat} (hb : Below w'.heap.size w' w'') (h : Fix w0 x y w') (h1 : x < w0.heap.size) (h2 : y < w0.heap.size) : Fix w0 x y w'' :=
  ⟨Nat.le_trans h.hs hb.size, (hb.block x (Nat.lt_of_lt_of_le h1 h.hs)).trans h.hx, (hb.block y (Nat.lt_of_lt_of_le h2 h.hs)).trans h.hy⟩
theorem Fix.alloc {w0 w' : World} {x y : Nat} {o : Obj} (h : Fix w0 x y w') (h1 : x < w0.heap.size) (h2 : y < w0.heap.size) : Fix w0 x y (w'.alloc o) := Fix.below ((Below.refl _ _).alloc (Nat.le_refl _) _) h h1 h2
theorem Fix.grown {w0 w' w'' : World} {x y : Nat} {r : Option Nat} (hg : w'.grownBy w'' r) (h : Fix w0 x y w') (h1 : x < w0.heap.size) (h2 : y < w0.heap.size) (n1 : some x ≠ r) (n2 : some y ≠ r) : Fix w0 x y w'' :=
  ⟨Nat.le_trans h.hs hg.size, (hg.block x (Nat.lt_of_lt_of_le h1 h.hs) n1).trans h.hx, (hg.block y (Nat.lt_of_lt_of_le h2 h.hs) n2).trans h.hy⟩
theorem Fix.set {w0 w' : World} {x y g o : Nat} {v : Value} (h : Fix w0 x y w') (n1 : x ≠ g) (n2 : y ≠ g) : Fix w0 x y (w'.setCell ⟨g, o, none⟩ v) :=
  ⟨by simpa using h.hs, (heap_setCell_other w' ⟨g, o, none⟩ x v (by simpa using n1)).trans h.hx, (heap_setCell_other w' ⟨g, o, none⟩ y v (by simpa using n2)).trans h.hy⟩
theorem Fix.cx {w0 w1 w2 : World} {x y o : Nat} {v : Option Value} (h1 : Fix w0 x y w1) (h2 : Fix w0 x y w2) (h : w1.cell? ⟨x, o, none⟩ = v) : w2.cell? ⟨x, o, none⟩ = v :=
  (World.cell?_of_block (a := ⟨x, o, none⟩) (h2.hx.trans h1.hx.symm)).trans h
theorem Fix.cy {w0 w1 w2 : World} {x y o : Nat} {v : Option Value} (h1 : Fix w0 x y w1) (h2 : Fix w0 x y w2) (h : w1.cell? ⟨y, o, none⟩ = v) : w2.cell? ⟨y, o, none⟩ = v :=
  (World.cell?_of_block (a := ⟨y, o, none⟩) (h2.hy.trans h1.hy.symm)).trans h
/-- what a round that copies a column reads -/
abbrev SC (w0 : World) (x b o n cc : Nat) (p : Option Addr) (c : Cl) (w' : World) : Prop := Fix w0 x b w' ∧ w'.cell? ⟨x, 1, none⟩ = some (.slice p n cc) ∧
  w'.cell? ⟨b, o, none⟩ = some (.string c.nm) ∧ w'.cell? ⟨b, o + 1, none⟩ = some (.int .i64 c.kd) ∧ w'.cell? ⟨b, o + 2, none⟩ = some (.bool c.nl) ∧
  w'.cell? ⟨b, o + 3, none⟩ = some (.int .i64 c.df.k) ∧ w'.cell? ⟨b, o + 4, none⟩ = some (.int .i64 c.df.n) ∧ w'.cell? ⟨b, o + 5, none⟩ = some (.float .f64 c.df.f) ∧ w'.cell? ⟨b, o + 6, none⟩ = some (.string c.df.s)
theorem SC.to {w0 : World} {x b o n cc : Nat} {p : Option Addr} {c : Cl} {w1 w2 : World} (h : SC w0 x b o n cc p c w1) (hf : Fix w0 x b w2) : SC w0 x b o n cc p c w2 := by
  obtain ⟨f, h0, h1, h2, h3, h4, h5, h6, h7⟩ := h
  exact ⟨hf, f.cx hf h0, f.cy hf h1, f.cy hf h2, f.cy hf h3, f.cy hf h4, f.cy hf h5, f.cy hf h6, f.cy hf h7⟩
/-- .. an index -/
abbrev SX (w0 : World) (x b o n cc m mc : Nat) (p q : Option Addr) (nm : ByteArray) (un : Bool) (w' : World) : Prop := Fix w0 x b w' ∧ w'.cell? ⟨x, 3, none⟩ = some (.slice p n cc) ∧
  w'.cell? ⟨b, o, none⟩ = some (.string nm) ∧ w'.cell? ⟨b, o + 1, none⟩ = some (.slice q m mc) ∧ w'.cell? ⟨b, o + 2, none⟩ = some (.bool un)
theorem SX.to {w0 : World} {x b o n cc m mc : Nat} {p q : Option Addr} {nm : ByteArray} {un : Bool} {w1 w2 : World} (h : SX w0 x b o n cc m mc p q nm un w1) (hf : Fix w0 x b w2) : SX w0 x b o n cc m mc p q nm un w2 := by
  obtain ⟨f, h0, h1, h2, h3⟩ := h
  exact ⟨hf, f.cx hf h0, f.cy hf h1, f.cy hf h2, f.cy hf h3⟩
/-- .. a reference -/
abbrev SF (w0 : World) (x b o n cc m mc : Nat) (p q : Option Addr) (tb : ByteArray) (w' : World) : Prop := Fix w0 x b w' ∧ w'.cell? ⟨x, 4, none⟩ = some (.slice p n cc) ∧
  w'.cell? ⟨b, o, none⟩ = some (.slice q m mc) ∧ w'.cell? ⟨b, o + 1, none⟩ = some (.string tb)
theorem SF.to {w0 : World} {x b o n cc m mc : Nat} {p q : Option Addr} {tb : ByteArray} {w1 w2 : World} (h : SF w0 x b o n cc m mc p q tb w1) (hf : Fix w0 x b w2) : SF w0 x b o n cc m mc p q tb w2 := by
  obtain ⟨f, h0, h1, h2⟩ := h
  exact ⟨hf, f.cx hf h0, f.cy hf h1, f.cy hf h2⟩
/-- a table in a block of the call's own -/
def OwnT (w : World) (B g : Nat) (xs : List Value) : Prop := w.ownsRow B 29 5 (.slice (some ⟨g, 0, none⟩) 1 1) 1 xs
theorem OwnT.new (w : World) (B : Nat) (hb : B ≤ w.heap.size) (cs : Array Value) (hs : cs.size = 5) : OwnT (w.alloc (.cells cs 29)) B w.heap.size cs.toList :=
  World.ownsRow_lit w cs 1 hb (by unfold maxLen; omega) (by omega)
theorem OwnT.lt {w : World} {B g : Nat} {xs : List Value} (h : OwnT w B g xs) : B ≤ g ∧ g < w.heap.size := World.ownsRow.lt h g rfl
theorem OwnT.cell {w : World} {B g : Nat} {xs : List Value} (h : OwnT w B g xs) (j : Nat) (hj : j < 5) : w.cell? ⟨g, j, none⟩ = xs[j]? := World.ownsRow.cellAt h j (by omega)
theorem OwnT.frozen {w : World} {B g : Nat} {xs : List Value} (h : OwnT w B g xs) (j : Nat) : w.frozen? ⟨g, j, none⟩ = false := World.ownsRow.frozenAt h j
theorem OwnT.kept {w w' : World} {B g : Nat} {xs : List Value} (h : OwnT w B g xs) (hb : Below w.heap.size w w') : OwnT w' B g xs := owns_kept h hb
theorem OwnT.grown {w w' : World} {B B' g e' size' n' : Nat} {v' : Value} {xs xs' : List Value} (h : OwnT w B g xs) (h' : w.ownsRow B' e' size' v' n' xs') (hne : 29 ≠ e') (hg : w.grownBy w' v'.ownBlock) : OwnT w' B g xs := owns_other h h' hne hg
theorem OwnT.set {w : World} {B g : Nat} {xs : List Value} (h : OwnT w B g xs) (j : Nat) (u : Value) : OwnT (w.setCell ⟨g, j, none⟩ u) B g (xs.set j u) := (World.ownsRow.stored h j u).1
/-- another row stays where a table is written -/
theorem owns_set {w : World} {B e size n g o : Nat} {v u : Value} {xs : List Value} (h : w.ownsRow B e size v n xs) (hne : v.ownBlock ≠ some g) : (w.setCell ⟨g, o, none⟩ u).ownsRow B e size v n xs := by
  refine h.kept (row := some g) ⟨rfl, rfl, rfl, by simp, fun k _ hk => heap_setCell_other w ⟨g, o, none⟩ k u (fun e => hk (by simp [e]))⟩ ?_
  exact .inr hne
theorem owns_apart {w : World} {B e size n g B' : Nat} {v : Value} {xs xs' : List Value} (h : w.ownsRow B e size v n xs) (h' : OwnT w B' g xs') (hne : e ≠ 29) : v.ownBlock ≠ some g := by
  intro he
  rcases h.2 with ⟨rfl, _⟩ | ⟨g1, cap, cur, rfl, _, hgc, _⟩
  · simp [Value.ownBlock] at he
  · simp only [Value.ownBlock, Option.some.injEq] at he
    subst he
    rcases h'.2 with ⟨h0, _⟩ | ⟨g', cap', cur', e', _, hgc', _⟩
    · cases h0
    · injection e' with e1 _ _
      injection e1 with e2
      injection e2 with e3 _ _
      subst e3
      rw [hgc] at hgc'
      injection hgc' with h1
      injection h1 with _ h2
      exact hne h2
theorem OwnT.drew {w : World} {B g : Nat} {xs : List Value} (h : OwnT w B g xs) : OwnT w.drew B g xs := h
theorem owns_drew {w : World} {B e size n : Nat} {v : Value} {xs : List Value} (h : w.ownsRow B e size v n xs) : w.drew.ownsRow B e size v n xs := h

/-- 'append(l, x)', as an operation -/
theorem wp_appW {o : Oper} {a : Act} {K : Act → World → Prop} {Q : Exit → Act → World → Prop} (W : World) (s x : Operand) (T S : TypeId) (z : Value) (size bytes : Nat)
    (ho : o.op = .call { callee := .builtin .append, args := #[s, x], argTypes := #[S, S] }) (hu : Tryz.prog.underlying S = some (.slice T))
    (hinfo : (Tryz.prog.info? T).map (fun i => (i.zero, i.size, i.bytes)) = some (some z, size, bytes)) (hzs : z.cells.size = size) (hsz : 0 < size)
    (B : Nat) (v : Value) (n : Nat) (xs : List Value) (hs : a.eval s = v) (hown : W.ownsRow B T size v n xs)
    (us : List Value) (hus : us.length = size) (hone : ∀ u ∈ us, u.oneCell' = true) (g : Nat) (hx : a.eval x = .slice (some ⟨g, 0, none⟩) 1 1) (hcell : ∀ (j : Nat) u, us[j]? = some u → W.cell? ⟨g, j, none⟩ = some u)
    (hlen : (n + 1) * bytes ≤ 140737488355328) (hlen2 : n + 1 ≤ 140737488355328) (hbase : B ≤ W.heap.size)
    (h : ∀ v' w', w'.ownsRow B T size v' (n + 1) (xs ++ us) → W.grownBy w' v.ownBlock → K (a.put o.dst v') w') : Oper.wp Tryz.prog o a W K Q := by
  obtain ⟨i, hi, hz0, hz1, hz2⟩ := info_parts1 hinfo
  refine wp_append_own _ s x S ho B T i z size bytes hu hi hz0 hz1 hz2 hzs hsz v n xs hs hown ⟨g, 0, none⟩ 1 1 us hx (by omega) ?_ hone (by unfold maxLen; omega) hlen hbase ?_
  · intro j y hj
    have e : (⟨g, 0, none⟩ : Addr).add j = ⟨g, j, none⟩ := by unfold Addr.add; split <;> simp_all
    rw [e]
    exact hcell j y hj
  · intro v' w' h1 h2 _
    exact h v' w' h1 h2
theorem cell_new (w : World) (us : List Value) (T : TypeId) (j : Nat) (u : Value) (h : us[j]? = some u) : (w.alloc (.cells us.toArray T)).cell? ⟨w.heap.size, j, none⟩ = some u := by
  rw [World.cell?_alloc_new]
  simpa using h
theorem cell_newD (w : World) (us : List Value) (T : TypeId) (j : Nat) (u : Value) (h : us[j]? = some u) : (w.alloc (.cells us.toArray T)).drew.cell? ⟨w.heap.size, j, none⟩ = some u := cell_new w us T j u h

theorem cell_al {w : World} {o : Obj} {g k : Nat} {v : Value} (h : w.cell? ⟨g, k, none⟩ = some v) : (w.alloc o).cell? ⟨g, k, none⟩ = some v :=
  (((Below.refl w.heap.size w).alloc (Nat.le_refl _) o).cell (p := ⟨g, k, none⟩) (World.block_lt_of_cell? w _ h)).trans h
/-- how far a copy is -/
structure CpS (w0 w : World) (g : Nat) (t : Tb) (a : TabP) (vC vK vX vR : Value) : Prop where
  bx : OwnT w w0.heap.size w0.heap.size [.string t.nm, .slice a.pc t.cs.length a.cc, .slice a.pk t.key.length a.ck, .slice a.px t.ix.length a.cx, .slice a.pr t.rf.length a.cr]
  rs : OwnT w w0.heap.size (w0.heap.size + 1) [.string ⟨#[]⟩, .slice none 0 0, .slice none 0 0, .slice none 0 0, .slice none 0 0]
  ou : OwnT w w0.heap.size g [.string t.nm, vC, vK, vX, vR]
  lo : w0.heap.size + 1 < g
  kK : OwnI w w0.heap.size vK t.key
  bl : Below w0.heap.size w0 w
theorem CpS.on {w0 w w' : World} {g : Nat} {t : Tb} {a : TabP} {vC vK vX vR : Value} (h : CpS w0 w g t a vC vK vX vR) (hb : Below w.heap.size w w') : CpS w0 w' g t a vC vK vX vR :=
  ⟨h.bx.kept hb, h.rs.kept hb, h.ou.kept hb, h.lo, owns_kept h.kK hb, h.bl.trans (hb.mono h.bl.size)⟩
theorem CpS.grown {w0 w w' : World} {g : Nat} {t : Tb} {a : TabP} {vC vK vX vR : Value} {e size n : Nat} {v : Value} {xs : List Value} (h : CpS w0 w g t a vC vK vX vR) (ho : w.ownsRow w0.heap.size e size v n xs) (h1 : 29 ≠ e) (h2 : 3 ≠ e) (hg : w.grownBy w' v.ownBlock) : CpS w0 w' g t a vC vK vX vR :=
  ⟨h.bx.grown ho h1 hg, h.rs.grown ho h1 hg, h.ou.grown ho h1 hg, h.lo, owns_other h.kK ho h2 hg, h.bl.grown hg h.bl.size (fun k hk => (ho.lt k hk).1)⟩
theorem CpS.set {w0 w : World} {g : Nat} {t : Tb} {a : TabP} {vC vK vX vR : Value} (h : CpS w0 w g t a vC vK vX vR) (j : Nat) (u vC' vX' vR' : Value) (he : ([.string t.nm, vC, vK, vX, vR] : List Value).set j u = [.string t.nm, vC', vK, vX', vR']) : CpS w0 (w.setCell ⟨g, j, none⟩ u) g t a vC' vK vX' vR' := by
  have hl := h.lo
  refine ⟨owns_set h.bx (by simp [Value.ownBlock]; omega), owns_set h.rs (by simp [Value.ownBlock]; omega), ?_, h.lo, owns_set h.kK (owns_apart h.kK h.ou (by decide)), h.bl.setCell (by simp; omega) _⟩
  rw [← he]
  exact h.ou.set j u
theorem CpS.drew {w0 w : World} {g : Nat} {t : Tb} {a : TabP} {vC vK vX vR : Value} (h : CpS w0 w g t a vC vK vX vR) : CpS w0 w.drew g t a vC vK vX vR := ⟨h.bx, h.rs, h.ou, h.lo, h.kK, h.bl.drew⟩
theorem al (w : World) (o : Obj) : Below w.heap.size w (w.alloc o) := (Below.refl _ _).alloc (Nat.le_refl _) _
theorem OwnC.snoc {w : World} {B : Nat} {v : Value} {U : List Cl} {c : Cl} (h : w.ownsRow B 64 7 v (U.length + 1) (U.flatMap ccell ++ ccell c)) : OwnC w B v (U ++ [c]) := by
  unfold OwnC
  rw [List.length_append, List.flatMap_append, List.flatMap_singleton]
  exact h
theorem OwnX.snoc {w : World} {B : Nat} {v : Value} {U : List (Ix × Value)} {c : Ix × Value} (h : w.ownsRow B 66 3 v (U.length + 1) (U.flatMap xcell ++ xcell c)) : w.ownsRow B 66 3 v (U ++ [c]).length ((U ++ [c]).flatMap xcell) := by
  rw [List.length_append, List.flatMap_append, List.flatMap_singleton]
  exact h
theorem OwnF.snoc {w : World} {B : Nat} {v : Value} {U : List (Rf × Value)} {c : Rf × Value} (h : w.ownsRow B 60 2 v (U.length + 1) (U.flatMap fcell ++ fcell c)) : w.ownsRow B 60 2 v (U ++ [c]).length ((U ++ [c]).flatMap fcell) := by
  rw [List.length_append, List.flatMap_append, List.flatMap_singleton]
  exact h
theorem OwnC.rowS {w : World} {B n d : Nat} {q : Option Addr} {L : List Cl} (h : OwnC w B (.slice q n d) L) : L.length ≤ d ∧ RowC w w.heap.size q L := by
  obtain ⟨p, c, e, hc, hr⟩ := h.row
  injection e with e1 e2 e3
  subst e1 e2 e3
  exact ⟨hc, hr⟩
theorem OwnI.rowS {w : World} {B n d : Nat} {q : Option Addr} {L : List Int} (h : OwnI w B (.slice q n d) L) : L.length ≤ d ∧ RowI w w.heap.size q L := by
  obtain ⟨p, c, e, hc, hr⟩ := h.row
  injection e with e1 e2 e3
  subst e1 e2 e3
  exact ⟨hc, hr⟩
theorem OwnX.rowS {w : World} {B n d : Nat} {q : Option Addr} {Z : List (Ix × Value)} {L : List Ix} (h : OwnX w B (.slice q n d) Z) (hL : Z.map Prod.fst = L) : L.length ≤ d ∧ RowX w w.heap.size q L := by
  obtain ⟨p, c, e, hc, hr⟩ := h.row hL
  injection e with e1 e2 e3
  subst e1 e2 e3
  exact ⟨hc, hr⟩
theorem OwnF.rowS {w : World} {B n d : Nat} {q : Option Addr} {Z : List (Rf × Value)} {L : List Rf} (h : OwnF w B (.slice q n d) Z) (hL : Z.map Prod.fst = L) : L.length ≤ d ∧ RowF w w.heap.size q L := by
  obtain ⟨p, c, e, hc, hr⟩ := h.row hL
  injection e with e1 e2 e3
  subst e1 e2 e3
  exact ⟨hc, hr⟩
end Go.Proofs.YtobgdjjicgiefaaGreatDoor
