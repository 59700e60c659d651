/- Lists of ranges opened. slices.DeleteFunc at ranges: those that are not empty stay. The walk of slices.DeleteFunc at ranges. -/
import Derived.Test.YtcjpindbplppgaaDoorGFrameR
import Derived.Test.YtcjpindbplppgaaDoorGWClone
namespace Go.Proofs.YtcjpindbplppgaaDoor
open Go.ChangeShapes Go.WideShapes Go.ChangeAt Go.RowKit Go.Joins Go.Shelf Go.Lib Go.Deep
set_option maxRecDepth 100000

/-- its texts are no longer than texts may be -/
def Rg.ok (r : Rg) : Prop := r.lo.size ≤ maxLen ∧ r.hi.size ≤ maxLen
/-- one range among cells -/
theorem openCellsR {H : Type} {enc : TypeId × Value → H} {W : World} {base : Nat} {spare : Nat → Bool} {held : Bool} {fuel : Nat} {cs : List Value} {x : DataW H × List MemPlace}
    (h : DataW.trod enc Tryd.prog W base spare held fuel 35 cs = some x) : ∃ v : Rg, cs = [.string v.lo, .string v.hi, .bool v.op] ∧ v.ok := by
  obtain ⟨y0, y1, y2, n, _, hl, h0, h1, h2⟩ := trod_struct3 Tryd.underlying35 h
  rw [cellsR] at hl
  match cs, hl with
  | [c0, c1, c2], _ =>
    obtain ⟨lo, e0, _, w0⟩ := DataW.trod_string Tryd.underlying9 h0
    obtain ⟨hi, e1, _, w1⟩ := DataW.trod_string Tryd.underlying9 h1
    obtain ⟨op, e2, _⟩ := DataW.trod_bool Tryd.underlying4 h2
    have z1 : Tryd.prog.cellsOf 9 = 1 := by kernel_rfl
    have z2 : Tryd.prog.cellsOf 4 = 1 := by kernel_rfl
    simp [z1, z2] at e0 e1 e2
    subst e0 e1 e2
    exact ⟨⟨lo, hi, op⟩, rfl, w0, w1⟩

/-- A LIST OF RANGES, OPENED. -/
theorem openRs {H : Type} {enc : TypeId × Value → H} {W : World} {b0 : Nat} {v : Value} {d : DataW H} {p : List MemPlace}
    (hv : Value.okWide Tryd.prog W .any b0 23 v) (h : DataW.Trod enc Tryd.prog W 0 (fun _ => true) true 23 v d p) :
    ∃ (L : List Rg) (q : Option Addr) (c : Nat), v = .slice q L.length c ∧ RowR W W.heap.size q L ∧ ((∀ u ∈ L, u.ok) ∧ (q = none → c = 0)) ∧ L.length ≤ c ∧ (d = .nil ∧ L = [] ∨ ∃ elems spare, d = .slice elems spare ∧ elems.length = L.length) := by
  obtain ⟨a0, len, cap, rfl⟩ := okWide_slice Tryd.underlying23 hv
  obtain ⟨fuel, hf⟩ := h
  rcases open_slice Tryd.underlying23 hf with ⟨hcs, hx⟩ | ⟨a, len', cap', m, n, D, Pl, hcs, _, hl, hm, hmm, hx, hel⟩
  · simp [Value.cells] at hcs
    obtain ⟨rfl, rfl, rfl⟩ := hcs
    simp only [Prod.mk.injEq] at hx
    exact ⟨[], none, 0, rfl, fun i hi => absurd hi (by simp), ⟨(fun u hu => by cases hu), fun _ => rfl⟩, Nat.le_refl _, .inl ⟨hx.1, rfl⟩⟩
  · simp [Value.cells] at hcs
    obtain ⟨rfl, rfl, rfl⟩ := hcs
    simp only [Prod.mk.injEq, if_true] at hx hmm
    have hlm : len ≤ m := by omega
    have each : ∀ i, i < len → ∃ u : Rg, u.ok ∧ W.cells? 0 (a.add (i * 3)) 3 = some [.string u.lo, .string u.hi, .bool u.op] := by
      intro i hi
      obtain ⟨cs', h1, h2⟩ := hel i (by omega)
      rw [cellsR] at h1
      obtain ⟨u, rfl, hu⟩ := openCellsR h2
      exact ⟨u, hu, h1⟩
    obtain ⟨U, hU⟩ : ∃ U : Nat → Rg, ∀ i, i < len → (U i).ok ∧ W.cells? 0 (a.add (i * 3)) 3 = some [.string (U i).lo, .string (U i).hi, .bool (U i).op] := by
      refine ⟨fun i => if hi : i < len then (each i hi).choose else ⟨⟨#[]⟩, ⟨#[]⟩, false⟩, fun i hi => ?_⟩
      simp only [hi, dif_pos]
      exact (each i hi).choose_spec
    refine ⟨(List.range len).map U, some a, cap, by simp, ?_, ⟨?_, fun h => by cases h⟩, by simpa using hl, .inr ⟨_, _, hx.1, by simp⟩⟩
    · intro i hi
      have hi' : i < len := by simpa using hi
      obtain ⟨_, hc⟩ := hU i hi'
      obtain ⟨_, _, hcell⟩ := World.cells?_some hc
      obtain ⟨_, _, hcell0⟩ := World.cells?_some (hU 0 (by omega)).2
      have h00 := hcell0 0 (by decide)
      have hsp : a.spot = none := by
        have e : (a.add (0 * 3)).add 0 = a := by simp [Addr.add]
        rw [e] at h00
        exact World.cell?_spot (v := .string (U 0).lo) h00
      obtain ⟨b, o, sp⟩ := a
      dsimp only at hsp
      subst hsp
      have c0 := hcell 0 (by decide)
      have c1 := hcell 1 (by decide)
      have c2 := hcell 2 (by decide)
      rw [add_at, add_at] at c0 c1 c2
      have e : ((List.range len).map U)[i] = U i := by simp
      rw [e]
      refine ⟨b, o, rfl, World.block_lt_of_cell? W _ c0, c0, c1, c2⟩
    · intro u hu
      obtain ⟨i, hi, rfl⟩ := List.mem_map.1 hu
      exact (hU i (by simpa using hi)).1

end Go.Proofs.YtcjpindbplppgaaDoor

namespace Go.Proofs.YtcjpindbplppgaaDoor
open Go.RowKit
set_option maxRecDepth 100000

theorem setCells_row (g : Nat) (t : TypeId) : ∀ (vs : List Value) (o : Nat) (w : World) (cur : Array Value), w.heap[g]? = some (.cells cur t (0, 0)) →
    ∃ cur', (w.setCells g o vs).heap[g]? = some (.cells cur' t (0, 0)) ∧ cur'.size = cur.size ∧ ∀ j, j < o → cur'[j]? = cur[j]?
  | [], _, w, cur, h => ⟨cur, h, rfl, fun _ _ => rfl⟩
  | v :: vs, o, w, cur, h => by
    have h1 := heap_setCell_same w g o cur t v h
    obtain ⟨cur', h2, h3, h4⟩ := setCells_row g t vs (o + 1) (w.setCell ⟨g, o, none⟩ v) (cur.setIfInBounds o v) h1
    refine ⟨cur', h2, by rw [h3]; simp, fun j hj => ?_⟩
    rw [h4 j (by omega), Array.getElem?_setIfInBounds_ne (by omega)]
theorem setCells_below {B g : Nat} (hg : B ≤ g) : ∀ (vs : List Value) (o : Nat) (w w1 : World), Below B w w1 → Below B w (w1.setCells g o vs)
  | [], _, _, _, h => h
  | v :: vs, o, w, w1, h => setCells_below hg vs (o + 1) w (w1.setCell ⟨g, o, none⟩ v) (h.setCell hg _)
theorem rcells_take (L : List Rg) (k : Nat) : rcells (L.take k) = (rcells L).take (k * 3) := by
  induction L generalizing k with
  | nil => simp [rcells]
  | cons r L ih =>
    cases k with
    | zero => simp [rcells]
    | succ k =>
      have e : (k + 1) * 3 = k * 3 + 1 + 1 + 1 := by omega
      rw [List.take_succ_cons, rcells_cons, rcells_cons, e, List.take_succ_cons, List.take_succ_cons, List.take_succ_cons, ih]
/-- the row cut to its first ranges, whatever is laid behind them -/
theorem OwnR.cut {w : World} {B g cap n : Nat} {M : List Rg} (h : OwnR w B (.slice (some ⟨g, 0, none⟩) n cap) M) (hn : n = M.length) (k : Nat) (hk : k ≤ n) (vs : List Value) :
    OwnR (w.setCells g (k * 3) vs) B (.slice (some ⟨g, 0, none⟩) k cap) (M.take k) := by
  have hl : (M.take k).length = k := by rw [List.length_take]; omega
  rcases h.2 with ⟨h1, _⟩ | ⟨g', cap', cur, e, hb, hg, hn1, hm, hs, ht⟩
  · cases h1
  · injection e with e1 e2 e3
    injection e1 with e1
    injection e1 with e1
    subst e1 e3
    obtain ⟨cur', c1, c2, c3⟩ := setCells_row g 35 vs (k * 3) w cur hg
    refine ⟨by rw [rcells_len], .inr ⟨g, cap, cur', by rw [hl], hb, c1, by omega, hm, by rw [c2]; exact hs, ?_⟩⟩
    rw [hl, rcells_take, ← ht, List.take_take]
    have hmin : min (k * 3) (M.length * 3) = k * 3 := by omega
    rw [hmin]
    apply List.ext_getElem?
    intro j
    rw [List.getElem?_take, List.getElem?_take]
    split
    · rename_i hj
      rw [Array.getElem?_toList, Array.getElem?_toList, c3 j hj]
    · rfl

def zeroR (n : Nat) : List Value := (Builtin.zeroCells #[.string ⟨#[]⟩, .string ⟨#[]⟩, .bool false] n).toList
theorem zeroR_len (n : Nat) : (zeroR n).length = n * 3 := by simp [zeroR, Builtin.zeroCells]
theorem zeroR_one (n : Nat) : ∀ v ∈ zeroR n, v.oneCell' = true := by
  intro v hv
  simp [zeroR, Builtin.zeroCells] at hv
  obtain ⟨j, _, rfl⟩ := hv
  have h3 : j % 3 = 0 ∨ j % 3 = 1 ∨ j % 3 = 2 := by omega
  rcases h3 with e | e | e <;> simp [e] <;> rfl
theorem zeroV_rng (w : World) : (zeroValue 35).run Tryd.prog w = .ok (.agg #[.string ⟨#[]⟩, .string ⟨#[]⟩, .bool false]) w := by
  obtain ⟨i, hi, hz0, hz1, hz2⟩ := info_parts info_rng
  simp [zeroValue, typeInfo, hi, hz0]
theorem run_clearR (w : World) (ty : TypeId) (b o n c : Nat) (hn : 0 < n) (hc : ∀ j, j < n * 3 → (w.cell? ⟨b, o + j, none⟩).isSome = true) (hf : ∀ j, j < n * 3 → w.frozen? ⟨b, o + j, none⟩ = false) :
    (Builtin.clear_ #[23] ty #[.slice (some ⟨b, o, none⟩) n c]).run Tryd.prog w = .ok (.tuple #[]) (w.setCells b o (zeroR n)) := by
  have hst := run_storeCells_cells (P := Tryd.prog) b o (zeroR n) 0 w (by rw [zeroR_len]; simpa using hc) (by rw [zeroR_len]; simpa using hf) (zeroR_one n)
  simp only [Nat.add_zero] at hst
  obtain ⟨m, rfl⟩ : ∃ m, n = m + 1 := ⟨n - 1, by omega⟩
  have hz : (Value.agg #[.string ⟨#[]⟩, .string ⟨#[]⟩, .bool false]).cells = #[.string ⟨#[]⟩, .string ⟨#[]⟩, .bool false] := rfl
  unfold zeroR at hst ⊢
  simp [Builtin.clear_, run_underlying Tryd.underlying23, hz, hst]

end Go.Proofs.YtcjpindbplppgaaDoor

namespace Go.Proofs.YtcjpindbplppgaaDoor
open Go.RowKit
set_option maxRecDepth 100000

/-- those that are not empty -/
def keepL (L : List Rg) : List Rg := L.filter (fun r => !r.emp)
theorem keepL_snoc (L : List Rg) (j : Nat) (hj : j < L.length) : keepL (L.take (j + 1)) = if L[j].emp then keepL (L.take j) else keepL (L.take j) ++ [L[j]] := by
  unfold keepL
  rw [← List.take_append_getElem hj, List.filter_append]
  cases h : L[j].emp <;> simp [h]
theorem first_take : ∀ (L : List Rg), firstI Rg.emp L < L.length → keepL (L.take (firstI Rg.emp L + 1)) = L.take (firstI Rg.emp L)
  | [], h => by simp at h
  | r :: L, h => by
    unfold firstI at h ⊢
    by_cases hr : r.emp = true
    · rw [if_pos hr]
      simp [keepL, hr]
    · rw [if_neg hr] at h ⊢
      have ih := first_take L (by simpa using h)
      rw [List.take_succ_cons, List.take_succ_cons]
      unfold keepL at ih ⊢
      rw [List.filter_cons, ih]
      simp at hr
      simp [hr]
theorem first_none : ∀ (L : List Rg), firstI Rg.emp L = L.length → keepL L = L
  | [], _ => rfl
  | r :: L, h => by
    unfold firstI at h
    by_cases hr : r.emp = true
    · rw [if_pos hr] at h; simp at h
    · rw [if_neg hr] at h
      have ih := first_none L (by simpa using h)
      unfold keepL at ih ⊢
      rw [List.filter_cons, ih]
      simp at hr
      simp [hr]
theorem OwnR.cap {w : World} {B g cap n : Nat} {L : List Rg} (h : OwnR w B (.slice (some ⟨g, 0, none⟩) n cap) L) : L.length ≤ cap ∧ cap ≤ maxLen ∧ B ≤ g ∧ g < w.heap.size := by
  rcases h.2 with ⟨h1, _⟩ | ⟨g', cap', cur, e, hb, hg, hn1, hm, hs, ht⟩
  · cases h1
  · injection e with e1 e2 e3
    injection e1 with e1
    injection e1 with e1
    subst e1 e3
    exact ⟨hn1, hm, hb, (Array.getElem?_eq_some_iff.1 hg).1⟩

set_option maxHeartbeats 4000000 in
theorem deleteF_any (L : List Rg) (g cap B : Nat) (w : World) (hO : OwnR w B (.slice (some ⟨g, 0, none⟩) L.length cap) L) (hlen : L.length ≤ 3518437208784) :
    Calls Tryd.prog 31 #[.slice (some ⟨g, 0, none⟩) L.length cap, .func (.func 33) #[] #[]] w fun e w' => e = .returned (.slice (some ⟨g, 0, none⟩) (keepL L).length cap) ∧ OwnR w' B (.slice (some ⟨g, 0, none⟩) (keepL L).length cap) (keepL L) ∧ Below B w w' := by
  obtain ⟨hcap, hmx, hBg, hgw⟩ := hO.cap
  have hmx' : cap ≤ 9223372036854775807 := by unfold maxLen at hmx; omega
  obtain ⟨p0, c0', ep, hRow⟩ := hO.row
  injection ep with ep1 _ ep3
  subst ep1 ep3
  have C1 : Hid (Calls _ _ _ _ _) := indexF_any L (some ⟨g, 0, none⟩) cap w hRow hlen
  have HO : Hid (OwnR _ _ _ _) := hO
  have hfl := firstI_le Rg.emp L
  clear hO hRow hmx
  by_cases hall : firstI Rg.emp L = L.length
  · have hk := first_none L hall
    rw [if_pos hall] at C1
    rw [hk]
    clear hk hall hfl
    go_enter Tryd.func31, Tryd.ntmps31
    go_wp2_with fail
    refine C1.out.mono ?_
    rintro e w1 ⟨rfl, hb1⟩
    go_wp2
    go_ret
    exact ⟨rfl, HO.out.kept hb1, hb1.mono (by omega)⟩
  · have HT : Hid (keepL (L.take (firstI Rg.emp L + 1)) = L.take (firstI Rg.emp L)) := first_take L (by omega)
    rw [if_neg hall] at C1
    have hf1 : firstI Rg.emp L < L.length := by omega
    clear hall hfl
    generalize firstI Rg.emp L = f at *
    have hfne : ((f : Int) == -1) = false := by simp
    go_enter Tryd.func31, Tryd.ntmps31
    go_wp2_with fail
    refine C1.out.mono ?_
    rintro e w1 ⟨rfl, hb1⟩
    have HB1 : Hid (Below _ _ _) := hb1
    clear hb1 C1
    go_wp2_with fail
    go_loopw [5, 6] (fun x y wr => ∃ (i j : Nat) (M : List Rg), x = .int .i64 (i : Int) ∧ y = .int .i64 (j : Int) ∧ i < j ∧ j ≤ L.length ∧ M.length = L.length ∧ M.take i = keepL (L.take j) ∧ M.drop j = L.drop j ∧ OwnR wr B (.slice (some ⟨g, 0, none⟩) L.length cap) M ∧ Below B w wr) (fun _ y _ => L.length - (intOf y).toNat)
    case atStart => exact ⟨f, f + 1, L, by go_num, by go_num, by omega, by omega, rfl, HT.out.symm, rfl, HO.out.kept HB1.out, HB1.out.mono (by omega)⟩
    case round =>
      obtain ⟨i, j, M, rfl, rfl, hij, hj, hM, htk, hdr, hown, hbl⟩ := hrel
      have HE : Hid (M.take i = keepL (L.take j) ∧ M.drop j = L.drop j ∧ OwnR wr B (.slice (some ⟨g, 0, none⟩) L.length cap) M ∧ Below B w wr) := ⟨htk, hdr, hown, hbl⟩
      have hgr : g < wr.heap.size := (hown.cap).2.2.2
      clear htk hdr hown hbl
      by_cases hj0 : j = L.length
      · subst hj0
        have hi : i < M.length := by omega
        have hk : M.take i = keepL L := by have h := HE.out.1; rw [List.take_of_length_le (Nat.le_refl L.length)] at h; exact h
        have hkl : (keepL L).length = i := by rw [← hk, List.length_take]; omega
        have hcl : (Builtin.clear_ #[23] 0 #[.slice (some ⟨g, i * 3, none⟩) (L.length - i) (cap - i)]).run Tryd.prog wr = .ok (.tuple #[]) (wr.setCells g (i * 3) (zeroR (L.length - i))) := by
          have h' : wr.ownsRow B 35 3 (.slice (some ⟨g, 0, none⟩) M.length cap) M.length (rcells M) := by
            have h := HE.out.2.2.1
            rw [← hM] at h
            exact h
          refine run_clearR wr 0 g (i * 3) (L.length - i) (cap - i) (by omega) (fun t ht => ?_) (fun t _ => h'.frozenAt _)
          rw [h'.cellAt (i * 3 + t) (by omega), List.getElem?_eq_getElem (by rw [rcells_len]; omega)]
          rfl
        have HF : Hid ((keepL L).length = i ∧ M.take i = keepL L) := ⟨hkl, hk⟩
        clear hk hkl
        go_wp2
        go_ret
        rw [HF.out.1, ← HF.out.2]
        exact ⟨rfl, HE.out.2.2.1.cut hM.symm i (by omega) _, setCells_below hBg _ _ _ _ HE.out.2.2.2⟩
      · have hj1 : j < L.length := by omega
        have hoM : OwnR wr B (.slice (some ⟨g, 0, none⟩) M.length cap) M := by rw [hM]; exact HE.out.2.2.1
        obtain ⟨⟨c0, c1, c2⟩, _⟩ := hoM.at j (by omega)
        obtain ⟨⟨m0, m1, m2⟩, n0, n1, n2⟩ := hoM.at i (by omega)
        have eMj : M[j]'(by omega) = L[j] := by
          have h := congrArg (fun l => l[0]?) HE.out.2.1
          simp only [List.getElem?_drop, Nat.add_zero] at h
          rw [List.getElem?_eq_getElem (by omega), List.getElem?_eq_getElem hj1] at h
          exact Option.some.inj h
        rw [eMj] at c0 c1 c2
        have CE : Hid (∀ w1 : World, Calls Tryd.prog 33 #[.agg #[.string (L[j]).lo, .string (L[j]).hi, .bool (L[j]).op]] w1 fun e w' => e = .returned (.bool (Rg.emp L[j])) ∧ Below w1.heap.size w1 w') := fun w1 => empty_any (L[j]).lo (L[j]).hi (L[j]).op w1
        have hks := keepL_snoc L j hj1
        have HK : Hid (keepL (L.take (j + 1)) = if L[j].emp then keepL (L.take j) else keepL (L.take j) ++ [L[j]]) := hks
        clear hoM hks
        obtain ⟨x, hx⟩ : ∃ x, x = L[j] := ⟨_, rfl⟩
        rw [← hx] at HK CE c0 c1 c2 eMj
        have HX : Hid (x = L[j]) := hx
        clear hx
        cases hem : x.emp
        · rw [hem] at CE HK
          rw [if_neg (by simp)] at HK
          have hBw : B ≤ wr.heap.size := by omega
          have fin : Hid (∀ (o : Obj) (w5 : World), Below (wr.alloc o).heap.size (wr.alloc o) w5 → Below wr.heap.size wr w5 ∧ OwnR w5 B (.slice (some ⟨g, 0, none⟩) M.length cap) M) := by
            intro o w5 hb5
            have hA : Below wr.heap.size wr w5 := ((Below.refl _ _).alloc (Nat.le_refl _) _).trans (hb5.mono (by simp))
            have hoM : OwnR w5 B (.slice (some ⟨g, 0, none⟩) M.length cap) M := by rw [hM]; exact HE.out.2.2.1.kept hA
            exact ⟨hA, hoM⟩
          go_wp2_with (first | (go_at_call 33; refine (CE.out _).mono ?_; rintro e w5 ⟨rfl, hb5⟩; obtain ⟨hx1, hx2⟩ := bcell hb5; obtain ⟨hA, hoM5⟩ := fin.out _ w5 hb5))
          go_roundw
          case rel =>
            refine ⟨i + 1, j + 1, M.set i x, by go_num, by go_num, by omega, by omega, by rw [List.length_set]; exact hM, ?_, ?_, ?_, ?_⟩
            · rw [HK.out, ← HE.out.1, List.take_set, List.take_add_one, List.getElem?_eq_getElem (by omega : i < M.length)]
              rw [List.set_append]
              have hl : (M.take i).length = i := by rw [List.length_take]; omega
              rw [if_neg (by omega), hl, Nat.sub_self]
              rfl
            · rw [List.drop_set_of_lt (by omega), ← List.drop_drop, ← List.drop_drop, HE.out.2.1]
            · have h := hoM5.set i (by omega) x
              rw [hM] at h
              exact h
            · exact ((HE.out.2.2.2.trans (hA.mono hBw)).setCell hBg _).setCell hBg _ |>.setCell hBg _
          case measure => simp [intOf]; omega
        · rw [hem] at CE HK
          rw [if_pos rfl] at HK
          go_wp2_with (first | (go_at_call 33; refine (CE.out _).mono ?_; rintro e w5 ⟨rfl, hb5⟩))
          have hA : Below wr.heap.size wr w5 := ((Below.refl _ _).alloc (Nat.le_refl _) _).trans (hb5.mono (by simp))
          have hBw : B ≤ wr.heap.size := by omega
          go_roundw
          case rel => exact ⟨i, j + 1, M, by go_num, by go_num, by omega, by omega, hM, by rw [HK.out]; exact HE.out.1, by rw [← List.drop_drop, ← List.drop_drop, HE.out.2.1], HE.out.2.2.1.kept hA, HE.out.2.2.2.trans (hA.mono hBw)⟩
          case measure => simp [intOf]; omega

end Go.Proofs.YtcjpindbplppgaaDoor
