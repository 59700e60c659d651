/- Bytes that came of a text, written on: a row that may be marked behind its end. -/
import Derived.Lib.ConvBytes
import Derived.Lib.AppendStr
import Derived.Laws.CopyRow
import Derived.Test.YthbjheiogghjnaaGreatDoorGMPrt
import Derived.Test.YthbjheiogghjnaaGreatDoorGWTold
namespace Go.Proofs.YthbjheiogghjnaaGreatDoor
open Go.RowKit
set_option maxRecDepth 100000

/-- bytes of one's own, in a row that may be marked behind its end -/
def OwnM (w : World) (B : Nat) (v : Value) (bs : List UInt8) : Prop := ∃ g cap cur fz, v = .slice (some ⟨g, 0, none⟩) bs.length cap ∧ B ≤ g ∧ w.heap[g]? = some (.cells cur 5 fz) ∧ (fz = (0, 0) ∨ cur.size ≤ fz.1) ∧ bs.length ≤ cap ∧ cap ≤ maxLen ∧ cur.size = cap ∧ cur.toList.take bs.length = bcells bs
theorem OwnM.on {w w' : World} {B : Nat} {v : Value} {bs : List UInt8} (h : OwnM w B v bs) (hb : Below w.heap.size w w') : OwnM w' B v bs := by
  obtain ⟨g, cap, cur, fz, e, h1, h2, r⟩ := h
  exact ⟨g, cap, cur, fz, e, h1, (hb.block g (Array.getElem?_eq_some_iff.1 h2).1).trans h2, r⟩
theorem OwnM.form {w : World} {B : Nat} {v : Value} {bs : List UInt8} (h : OwnM w B v bs) : ∃ g cap, v = .slice (some ⟨g, 0, none⟩) bs.length cap ∧ B ≤ g ∧ g < w.heap.size ∧ ∀ j (hj : j < bs.length), w.cell? ⟨g, j, none⟩ = some (.int .u8 (bs[j].toNat : Int)) := by
  obtain ⟨g, cap, cur, fz, e, h1, h2, _, h3, _, h4, h5⟩ := h
  refine ⟨g, cap, e, h1, (Array.getElem?_eq_some_iff.1 h2).1, fun j hj => ?_⟩
  have h6 : (bcells bs)[j]? = some (.int .u8 (bs[j].toNat : Int)) := by simp [bcells, hj]
  rw [← h5, List.getElem?_take_of_lt hj, Array.getElem?_toList] at h6
  simp only [World.cell?, h2]
  exact h6
theorem setCell_rowM (w : World) (g i : Nat) (cs : Array Value) (t : TypeId) (fz : Nat × Nat) (v : Value) (hg : w.heap[g]? = some (.cells cs t fz)) :
    (w.setCell ⟨g, i, none⟩ v).heap[g]? = some (.cells (cs.setIfInBounds i v) t fz) := by
  rw [setCell_eq_setRow w g i cs t fz v hg]
  exact setRow_heap w g cs _ t _ hg
theorem setCells_rowM (g : Nat) (t : TypeId) (fz : Nat × Nat) : ∀ (vs : List Value) (o : Nat) (w : World) (cur : Array Value), w.heap[g]? = some (.cells cur t fz) → o + vs.length ≤ cur.size →
    ∃ cur' : Array Value, (w.setCells g o vs).heap[g]? = some (.cells cur' t fz) ∧ cur'.size = cur.size ∧ cur'.toList.take (o + vs.length) = cur.toList.take o ++ vs
  | [], o, w, cur, h, _ => ⟨cur, h, rfl, by simp⟩
  | v :: vs, o, w, cur, h, hl => by
    simp only [List.length_cons] at hl
    obtain ⟨cur', h1, h2, h3⟩ := setCells_rowM g t fz vs (o + 1) (w.setCell ⟨g, o, none⟩ v) (cur.setIfInBounds o v) (setCell_rowM w g o cur t fz v h) (by simp; omega)
    refine ⟨cur', h1, by rw [h2]; simp, ?_⟩
    have e : o + (v :: vs).length = o + 1 + vs.length := by simp; omega
    rw [e, h3]
    have e2 : (cur.setIfInBounds o v).toList.take (o + 1) = cur.toList.take o ++ [v] := by
      rw [Array.toList_setIfInBounds]
      apply List.ext_getElem?
      intro j
      rw [List.getElem?_take, List.getElem?_append, List.length_take, Array.length_toList, List.getElem?_take, List.getElem?_set]
      rcases Nat.lt_trichotomy j o with hj | hj | hj
      · rw [if_pos (by omega), if_neg (by omega), if_pos (by omega), if_pos hj]
      · subst hj
        rw [if_pos (by omega), if_pos rfl, if_pos (by simp; omega), if_neg (by omega)]
        simp [Nat.min_eq_left (show j ≤ cur.size by omega)]
      · rw [if_neg (by omega), if_neg (by omega)]
        have : j - min o cur.size = (j - min o cur.size - 1) + 1 := by omega
        rw [this]
        rfl
    rw [e2, List.append_assoc]
    rfl
theorem setCells_belowM {B g : Nat} (hg : B ≤ g) : ∀ (vs : List Value) (o : Nat) (w w1 : World), Below B w w1 → Below B w (w1.setCells g o vs)
  | [], _, _, _, h => h
  | v :: vs, o, w, _w1, h => setCells_belowM hg vs (o + 1) w _ (h.setCell (p := ⟨g, o, none⟩) hg v)
theorem storeM (w : World) (g o : Nat) (cur : Array Value) (t : TypeId) (fz : Nat × Nat) (hg : w.heap[g]? = some (.cells cur t fz)) (hf : fz = (0, 0) ∨ cur.size ≤ fz.1) (vs : List Value) (hl : o + vs.length ≤ cur.size) (h1 : ∀ v ∈ vs, v.oneCell' = true) :
    (storeCells ⟨g, o, none⟩ vs).run Tryz.prog w = .ok () (w.setCells g o vs) := by
  have h := run_storeCells_cells (P := Tryz.prog) g o vs 0 w (fun j hj => by
    have hlt : o + 0 + j < cur.size := by omega
    simp only [World.cell?, hg]
    rw [Array.getElem?_eq_getElem hlt]
    rfl) (fun j hj => by
    simp only [World.frozen?, hg]
    obtain ⟨lo, hi⟩ := fz
    rcases hf with hf | hf
    · cases hf
      simp
    · simp only at hf
      simp only [Nat.add_zero, Bool.and_eq_false_iff, decide_eq_false_iff_not]
      left
      omega) h1
  simpa using h
theorem appM_str (w : World) (B : Nat) (v : Value) (bs : List UInt8) (ty : TypeId) (s : ByteArray) (h : OwnM w B v bs) (hlen : bs.length + s.size ≤ 140737488355328) (hbase : B ≤ w.heap.size) :
    ∃ v' w', (Builtin.append_ #[52, 9] ty #[v, .string s]).run Tryz.prog w = .ok v' w' ∧ OwnM w' B v' (bs ++ s.data.toList) ∧ Below B w w' := by
  obtain ⟨i, hi, hz0, hz1, hz2⟩ := info_parts info_u8
  obtain ⟨g, cap, cur, fz, rfl, hB, hg, hf, h3, h4, h5, h6⟩ := h
  have e : Lib.strCells s = bcells s.data.toList := by
    apply List.ext_getElem?
    intro j
    simp [Lib.strCells, bcells]
  have hsl : s.data.toList.length = s.size := size_toList s
  have hbl : (bcells s.data.toList).length = s.size := by simp [bcells]
  by_cases hroom : bs.length + s.size ≤ cap
  · have hf2 := Lib.run_firstCells_string (P := Tryz.prog) w 1 s
    have hst := storeM w g bs.length cur _ fz hg hf (Lib.strCells s) (by rw [e, hbl]; omega) (Lib.strCells_oneCell s)
    obtain ⟨cur', k1, k2, k3⟩ := setCells_rowM g _ fz (Lib.strCells s) bs.length w cur hg (by rw [e, hbl]; omega)
    refine ⟨.slice (some ⟨g, 0, none⟩) (bs.length + s.size) cap, w.setCells g bs.length (Lib.strCells s), ?_, ⟨g, cap, cur', fz, by rw [List.length_append, hsl], hB, k1, by rw [k2]; exact hf, by rw [List.length_append, hsl]; exact hroom, h4, by rw [k2, h5], ?_⟩, setCells_belowM hB _ _ _ _ (Below.refl _ _)⟩
    · simp [Builtin.append_, run_underlying Tryz.underlying52, run_underlying Tryz.underlying9, sizeOf, typeInfo, hi, hz1, Builtin.lenOf, hroom, hf2, Addr.add_lit, hst]
    · rw [e, hbl] at k3
      rw [List.length_append, hsl, k3, h6, bcells_append]
  · have holds : ∀ j u, (bcells bs)[j]? = some u → w.cell? ((⟨g, 0, none⟩ : Addr).add j) = some u := fun j u hj => by
      have hjl : j < bs.length := by
        have := (List.getElem?_eq_some_iff.1 hj).1
        simpa [bcells] using this
      have ea : (⟨g, 0, none⟩ : Addr).add j = ⟨g, j, none⟩ := by unfold Addr.add; split <;> simp_all
      rw [ea]
      simp only [World.cell?, hg]
      rw [← h6, List.getElem?_take_of_lt hjl, Array.getElem?_toList] at hj
      exact hj
    have hr := Lib.run_append_grow_string (P := Tryz.prog) w 52 9 ty 5 i (.int .u8 0) Tryz.underlying52 Tryz.underlying9 hi hz0 ⟨g, 0, none⟩ bs.length cap (bcells bs) (by rw [hz1]; simp [bcells]) holds s (by omega) (by omega) (by rw [hz2]; exact growslice_fits (by omega) (by omega))
    have hge := grownCap_ge w (bs.length + s.size) cap 5
    have hcm := grownCap_le_maxLen w (bs.length + s.size) cap 5 (by unfold maxLen; omega)
    refine ⟨_, _, hr, ⟨w.heap.size, _, _, (0, 0), by rw [List.length_append, hsl], hbase, heap_alloc_new w.drew _, .inl rfl, by rw [List.length_append, hsl]; exact hge, hcm, ?_, ?_⟩, ((Below.refl B w).drew).alloc hbase _⟩
    · have hz : (Value.int IntKind.u8 0).cells.size = 1 := rfl
      simp only [Array.size_append, List.size_toArray, size_zeroCells, hz, e, hbl]
      simp [bcells]
      omega
    · simp only [Array.toList_append, List.append_assoc]
      rw [← List.append_assoc, e, ← bcells_append]
      have hl : (bcells (bs ++ s.data.toList)).length = (bs ++ s.data.toList).length := by simp [bcells]
      rw [← hl]
      exact List.take_left
theorem appM_one (w : World) (B : Nat) (v : Value) (bs : List UInt8) (ty : TypeId) (b : UInt8) (z : Nat) (hz : w.cell? ⟨z, 0, none⟩ = some (.int .u8 (b.toNat : Int))) (h : OwnM w B v bs) (hlen : bs.length + 1 ≤ 140737488355328) (hbase : B ≤ w.heap.size) :
    ∃ v' w', (Builtin.append_ #[52, 52] ty #[v, .slice (some ⟨z, 0, none⟩) 1 1]).run Tryz.prog w = .ok v' w' ∧ OwnM w' B v' (bs ++ [b]) ∧ Below B w w' := by
  obtain ⟨i, hi, hz0, hz1, hz2⟩ := info_parts info_u8
  obtain ⟨g, cap, cur, fz, rfl, hB, hg, hf, h3, h4, h5, h6⟩ := h
  have hnews : ∀ j u, [Value.int .u8 (b.toNat : Int)][j]? = some u → w.cell? ((⟨z, 0, none⟩ : Addr).add j) = some u := fun j u hj => by
    have hj0 : j = 0 := by
      have := (List.getElem?_eq_some_iff.1 hj).1
      simpa using this
    subst hj0
    have ea : (⟨z, 0, none⟩ : Addr).add 0 = ⟨z, 0, none⟩ := by unfold Addr.add; split <;> simp_all
    rw [ea, hz]
    simpa using hj
  by_cases hroom : bs.length + 1 ≤ cap
  · have hf2 := run_firstCells_some (P := Tryz.prog) w 1 1 ⟨z, 0, none⟩ 1 1 [Value.int .u8 (b.toNat : Int)] rfl hnews
    have hst := storeM w g bs.length cur _ fz hg hf [Value.int .u8 (b.toNat : Int)] (by simp; omega) (fun u hu => by simp at hu; subst hu; rfl)
    obtain ⟨cur', k1, k2, k3⟩ := setCells_rowM g _ fz [Value.int .u8 (b.toNat : Int)] bs.length w cur hg (by simp; omega)
    refine ⟨.slice (some ⟨g, 0, none⟩) (bs.length + 1) cap, w.setCells g bs.length [Value.int .u8 (b.toNat : Int)], ?_, ⟨g, cap, cur', fz, by simp, hB, k1, by rw [k2]; exact hf, by simpa using hroom, h4, by rw [k2, h5], ?_⟩, setCells_belowM hB _ _ _ _ (Below.refl _ _)⟩
    · simp [Builtin.append_, run_underlying Tryz.underlying52, sizeOf, typeInfo, hi, hz1, Builtin.lenOf, hroom, hf2, Addr.add_lit, hst]
    · rw [bcells_append, List.length_append, List.length_singleton, ← h6]
      exact k3
  · have holds : ∀ j u, (bcells bs)[j]? = some u → w.cell? ((⟨g, 0, none⟩ : Addr).add j) = some u := fun j u hj => by
      have hjl : j < bs.length := by
        have := (List.getElem?_eq_some_iff.1 hj).1
        simpa [bcells] using this
      have ea : (⟨g, 0, none⟩ : Addr).add j = ⟨g, j, none⟩ := by unfold Addr.add; split <;> simp_all
      rw [ea]
      simp only [World.cell?, hg]
      rw [← h6, List.getElem?_take_of_lt hjl, Array.getElem?_toList] at hj
      exact hj
    have hr := run_append_grow (P := Tryz.prog) w 52 ty 5 i (.int .u8 0) Tryz.underlying52 hi hz0 ⟨g, 0, none⟩ bs.length cap (bcells bs) (by rw [hz1]; simp [bcells]) holds ⟨z, 0, none⟩ 1 1 [Value.int .u8 (b.toNat : Int)] (by rw [hz1]; rfl) hnews (by omega) (by omega) (by rw [hz2]; exact growslice_fits (by omega) (by omega))
    have hge := grownCap_ge w (bs.length + 1) cap 5
    have hcm := grownCap_le_maxLen w (bs.length + 1) cap 5 (by unfold maxLen; omega)
    refine ⟨_, _, hr, ⟨w.heap.size, _, _, (0, 0), by simp, hbase, heap_alloc_new w.drew _, .inl rfl, by simpa using hge, hcm, ?_, ?_⟩, ((Below.refl B w).drew).alloc hbase _⟩
    · have hz : (Value.int IntKind.u8 0).cells.size = 1 := rfl
      simp only [Array.size_append, List.size_toArray, size_zeroCells, hz]
      simp [bcells]
      omega
    · simp only [Array.toList_append, List.append_assoc]
      have e2 : bcells [b] = [Value.int .u8 (b.toNat : Int)] := rfl
      rw [← List.append_assoc, ← e2, ← bcells_append]
      have hl : (bcells (bs ++ [b])).length = (bs ++ [b]).length := by simp [bcells]
      rw [← hl]
      exact List.take_left
/-- 'append(out, text...)' -/
theorem wpList_appMs {ops : Array Oper} {rest : List Oper} {o : Oper} {a : Act} {Q : Exit → Act → World → Prop} (w : World) (hgd : o.guard = none) (sl x : Operand)
    (ho : o.op = .call { callee := .builtin .append, args := #[sl, x], argTypes := #[52, 9] })
    (B : Nat) (v : Value) (bs : List UInt8) (hs : a.eval sl = v) (hown : OwnM w B v bs) (s : ByteArray) (hx : a.eval x = .string s) (hlen : bs.length + s.size ≤ 140737488355328) (hbase : B ≤ w.heap.size)
    (h : ∀ v' w', OwnM w' B v' (bs ++ s.data.toList) → Below B w w' → wpList Tryz.prog ops Q rest (a.put o.dst v') w') : wpList Tryz.prog ops Q (o :: rest) a w := by
  refine wpList_plain hgd fun K hK => ?_
  obtain ⟨v', w', hr, h2, h3⟩ := appM_str w B v bs o.type s hown hlen hbase
  unfold Oper.wp execOp
  simp only [ho, resolve, invoke, builtin, Sem.run_bind, Sem.run_pure, Result.andThen_ok, List.map_toArray, List.map_cons, List.map_nil, hs, hx, hr]
  exact hK _ _ (h v' w' h2 h3)
/-- 'append(out, byte)' -/
theorem wpList_appM1 {ops : Array Oper} {rest : List Oper} {o : Oper} {a : Act} {Q : Exit → Act → World → Prop} (w : World) (hgd : o.guard = none) (sl x : Operand)
    (ho : o.op = .call { callee := .builtin .append, args := #[sl, x], argTypes := #[52, 52] })
    (B : Nat) (v : Value) (bs : List UInt8) (hs : a.eval sl = v) (hown : OwnM w B v bs) (b : UInt8) (z : Int) (hzb : z = (b.toNat : Int)) (hx : a.eval x = .slice (some ⟨w.heap.size, 0, none⟩) 1 1) (hlen : bs.length + 1 ≤ 140737488355328) (hbase : B ≤ w.heap.size)
    (h : ∀ v' w', OwnM w' B v' (bs ++ [b]) → Below B w w' → wpList Tryz.prog ops Q rest (a.put o.dst v') w') : wpList Tryz.prog ops Q (o :: rest) a (w.alloc (.cells #[.int .u8 z] 5)) := by
  subst hzb
  refine wpList_plain hgd fun K hK => ?_
  have hal : Below w.heap.size w (w.alloc (.cells #[.int .u8 (b.toNat : Int)] 5)) := (Below.refl _ _).alloc (Nat.le_refl _) _
  obtain ⟨v', w', hr, h2, h3⟩ := appM_one (w.alloc (.cells #[.int .u8 (b.toNat : Int)] 5)) B v bs o.type b w.heap.size (by simp [go_sem]) (hown.on hal) hlen (by simp; omega)
  unfold Oper.wp execOp
  simp only [ho, resolve, invoke, builtin, Sem.run_bind, Sem.run_pure, Result.andThen_ok, List.map_toArray, List.map_cons, List.map_nil, hs, hx, hr]
  exact hK _ _ (h v' w' h2 ((hal.mono hbase).trans h3))
/-- bytes out of a text -/
theorem conv_ownM (w : World) (s : ByteArray) (hs : s.size ≤ 140737488355328) : OwnM (Lib.bytesWorld w 5 s) w.heap.size (.slice (some ⟨w.heap.size, 0, none⟩) s.size (grownCap w s.size 0 5)) s.data.toList := by
  have hge := grownCap_ge w s.size 0 5
  have hcm := grownCap_le_maxLen w s.size 0 5 (by unfold maxLen; omega)
  have hsz : (Lib.bytesCells w 5 s).size = grownCap w s.size 0 5 := by
    unfold Lib.bytesCells
    have : s.data.size = s.size := rfl
    simp
    omega
  refine ⟨w.heap.size, _, _, _, by rw [size_toList], Nat.le_refl _, Lib.bytesWorld_at_new w 5 s, .inr (Nat.le_refl _), by rw [size_toList]; exact hge, hcm, hsz, ?_⟩
  rw [size_toList]
  unfold Lib.bytesCells bcells
  rw [Array.toList_append, List.take_append_of_le_length (by simp), Array.toList_map, List.take_of_length_le (by simp)]
/-- the text of bytes -/
theorem back_ownM {w : World} {B : Nat} {v : Value} {bs : List UInt8} (h : OwnM w B v bs) : (convert 52 9 v).run Tryz.prog w = .ok (.string ⟨bs.toArray⟩) w := by
  obtain ⟨g, cap, rfl, _, _, hc⟩ := h.form
  refine run_convert_bytes_back w 52 9 5 ⟨g, 0, none⟩ cap bs Tryz.underlying52 Tryz.underlying5 Tryz.underlying9 ?_
  intro j hj
  have e : (⟨g, 0, none⟩ : Addr).add j = ⟨g, j, none⟩ := by unfold Addr.add; split <;> simp_all
  rw [e]
  exact hc j hj

end Go.Proofs.YthbjheiogghjnaaGreatDoor
