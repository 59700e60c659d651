/- 'append(b, make([]byte, k)...)' onto bytes that a call owns. -/
import Derived.Test.YtgnedioggpgeeaaDoorWREnc
import Derived.Lib.AppendZerosOnto
namespace Go.Proofs.YtgnedioggpgeeaaDoor
open Go.RowKit
set_option maxRecDepth 100000

theorem zeros_list (k : Nat) : (Builtin.zeroCells #[.int .u8 0] k).toList = bcells (List.replicate k 0) := by
  apply List.ext_getElem?
  intro j
  by_cases hj : j < k
  · simp [bcells, hj, Builtin.zeroCells, Nat.mod_one]
  · rw [List.getElem?_eq_none (by simp [Builtin.zeroCells]; omega), List.getElem?_eq_none (by simp [bcells]; omega)]
theorem own_appZ (w : World) (B : Nat) (v : Value) (bs : List UInt8) (k : Nat) (hown : OwnB w B v bs) (h0 : 1 ≤ k) (hk : k ≤ 1024) (hl : bs.length ≤ 1099511627776) (hbase : B ≤ w.heap.size) :
    ∃ v' w', (Builtin.append_ #[43, 3] 43 #[v, .int .i64 (k : Int)]).run Tryd.prog w = .ok v' w' ∧ OwnB w' B v' (bs ++ List.replicate k 0) ∧ w.grownBy w' v.ownBlock := by
  obtain ⟨i, hi, hz0, hz1, hz2⟩ := info_parts info_u8
  have hlen : (bs ++ List.replicate k (0 : UInt8)).length = bs.length + k := by simp
  have hbc : bcells (bs ++ List.replicate k 0) = bcells bs ++ bcells (List.replicate k 0) := bcells_append _ _
  rcases hown.2 with ⟨rfl, h00⟩ | ⟨g, cap, cur, rfl, hbg, hg, hnc, hcm, hcs, htake⟩
  · have : bs = [] := List.eq_nil_of_length_eq_zero h00
    subst this
    have hr := Lib.run_append_nil_zeros w 43 3 43 5 i (.int .u8 0) .i64 .i64 Tryd.underlying43 Tryd.underlying3 hi hz0 k (by omega) (by rw [hz1]; decide) (by omega) (by rw [hz2]; omega)
    exact ⟨_, _, hr, own_zeros w B k hbase (by omega), ⟨rfl, rfl, rfl, by simp, fun j hj _ => heap_alloc_old w.drew _ hj⟩⟩
  · have hcs' : cur.size = cap := by simpa using hcs
    by_cases hroom : bs.length + k ≤ cap
    · have hw : IntKind.i64.wrap (k : Int) = k := by rw [IntKind.wrap_i64]; omega
      have hkl : (bcells (List.replicate k 0)).length = k := by simp [bcells]
      have hst := run_storeCells_at Tryd.prog g bs.length 5 (bcells (List.replicate k 0)) 0 cur w hg (by rw [hkl]; omega) (by intro u hu; simp [bcells] at hu; obtain ⟨_, rfl⟩ := hu; rfl)
      simp only [Nat.add_zero, hkl] at hst
      have hneg : ¬ ((k : Int) < 0) := by omega
      have h48i : ¬ (281474976710656 < (k : Int) * (i.bytes : Int)) := by rw [hz2]; omega
      have hk0 : k ≠ 0 := by omega
      have hzl := zeros_list k
      have hr : (Builtin.append_ #[43, 3] 43 #[.slice (some ⟨g, 0, none⟩) bs.length cap, .int .i64 (k : Int)]).run Tryd.prog w = .ok (.slice (some ⟨g, 0, none⟩) (bs.length + k) cap) (w.setRow g (cur.toList.take bs.length ++ bcells (List.replicate k 0) ++ cur.toList.drop (bs.length + k)).toArray) := by
        simp [Builtin.append_, run_underlying Tryd.underlying43, run_underlying Tryd.underlying3, sizeOf, typeInfo, zeroValue, hi, hz0, hz1, asInt, asIntOf, hw, hneg, h48i, hk0, hroom, Addr.add_lit, Value.cells, hzl, hst]
      refine ⟨_, _, hr, ⟨by rw [hbc]; simp [bcells], .inr ⟨g, cap, _, by rw [hlen], hbg, setRow_heap w g cur _ 5 _ hg, by rw [hlen]; exact hroom, hcm, ?_, ?_⟩⟩, ⟨rfl, rfl, rfl, by simp, fun j _ hk => setRow_other w g j _ (fun e => hk (by simp [Value.ownBlock, e]))⟩⟩
      · simp only [List.size_toArray, List.length_append, List.length_take, List.length_drop, Array.length_toList, hkl]
        omega
      · have ht' : cur.toList.take bs.length = bcells bs := by simpa using htake
        have hl2 : (bcells bs ++ bcells (List.replicate k 0)).length = (bs ++ List.replicate k (0 : UInt8)).length * 1 := by simp [bcells]
        rw [ht', hbc, ← hl2]
        exact List.take_left
    · have holds : ∀ j u, (bcells bs)[j]? = some u → w.cell? ((⟨g, 0, none⟩ : Addr).add j) = some u := World.ownsRow.cells hown (g := g) rfl
      have hfo := run_firstCells_some (P := Tryd.prog) w.drew i.size bs.length ⟨g, 0, none⟩ bs.length cap (bcells bs) (by rw [hz1]; simp [bcells]) (by simpa using holds)
      have hr := Lib.run_append_grow_zeros (P := Tryd.prog) w 43 3 43 5 i (.int .u8 0) .i64 .i64 Tryd.underlying43 Tryd.underlying3 hi hz0 (some ⟨g, 0, none⟩) bs.length cap (bcells bs) hfo k (by omega) (by rw [hz1]; decide) (by omega) (by omega) (by rw [hz2]; omega) (by rw [hz2]; exact growslice_fits (by omega) (by omega))
      have hge := grownCap_ge w (bs.length + k) cap 5
      refine ⟨_, _, hr, ⟨by rw [hbc]; simp [bcells], .inr ⟨w.heap.size, grownCap w (bs.length + k) cap 5, _, by rw [hlen], hbase, heap_alloc_new w.drew _, by rw [hlen]; exact hge, grownCap_le_maxLen w _ cap _ (by unfold maxLen; omega), ?_, ?_⟩⟩, ⟨rfl, rfl, rfl, by simp, fun j hj _ => heap_alloc_old w.drew _ hj⟩⟩
      · simp [size_zeroCells, Value.cells, bcells]
        omega
      · have e1 : (Value.int IntKind.u8 0).cells = #[.int .u8 0] := rfl
        have hl2 : (bcells bs ++ bcells (List.replicate k 0)).length = (bs ++ List.replicate k (0 : UInt8)).length * 1 := by simp [bcells]
        rw [e1]
        simp only [Array.toList_append, zeros_list, hbc]
        rw [← hl2]
        exact List.take_left
/-- 'append(b, make([]byte, k)...)' -/
theorem wpList_appZ {ops : Array Oper} {rest : List Oper} {o : Oper} {a : Act} {Q : Exit → Act → World → Prop} (w : World) (hgd : o.guard = none) (s x : Operand)
    (ho : o.op = .call { callee := .builtin .append, args := #[s, x], argTypes := #[43, 3] }) (hty : o.type = 43)
    (B : Nat) (v : Value) (bs : List UInt8) (hs : a.eval s = v) (hown : OwnB w B v bs) (k : Nat) (hx : a.eval x = .int .i64 (k : Int)) (h0 : 1 ≤ k) (hk : k ≤ 1024) (hl : bs.length ≤ 1099511627776) (hbase : B ≤ w.heap.size)
    (h : ∀ v' w', OwnB w' B v' (bs ++ List.replicate k 0) → Keep5 B w w' → wpList Tryd.prog ops Q rest (a.put o.dst v') w') : wpList Tryd.prog ops Q (o :: rest) a w := by
  obtain ⟨v', w', hr, h1, h2⟩ := own_appZ w B v bs k hown h0 hk hl hbase
  exact Lib.wpList_append_run w hgd s x _ _ ho v _ hs hx v' w' (by rw [hty]; exact hr) (h v' w' h1 (keep_grown hown hbase h2))
end Go.Proofs.YtgnedioggpgeeaaDoor
