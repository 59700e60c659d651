/- The walk of the document's values of a row. A row read: what Decode answers, told in two ways. -/
import Derived.Deep.Cut
import Derived.RegionTactic
import Derived.Deep.CutRange
import Derived.Test.YtinlgaefgedmcaaGreatDoorGWRdR
import Derived.Test.YtinlgaefgedmcaaGreatDoorGMRowA
import Derived.Test.YtinlgaefgedmcaaGreatDoorGWLit
namespace Go.Proofs.YtinlgaefgedmcaaGreatDoor
open Go.RowKit
set_option maxRecDepth 100000

/-- what values tells -/
def rowKR (K : List Int) (s : ByteArray) : Option (List Vl × Nat) := if s.size < (K.length + 3) / 4 then none else if spB s K.length (4 * ((K.length + 3) / 4)) then rowK s K 0 ((K.length + 3) / 4) else none
def RvsP (r : Option (List Vl × Nat)) (w : World) (e : Ending) (w' : World) : Prop := ∃ (v : Value) (n : Int), e = .returned (.tuple #[v, .int .i64 n]) ∧ ((∃ L k, r = some (L, k) ∧ n = ((k : Nat) : Int) ∧ OwnV w' w.heap.size v L) ∨ (r = none ∧ n = -1 ∧ v = .slice none 0 0)) ∧ Below w.heap.size w w'
theorem RvsP.yes {r : Option (List Vl × Nat)} {w w' : World} {e : Ending} (v : Value) (k : Nat) (L : List Vl) (he : e = .returned (.tuple #[v, .int .i64 (k : Int)])) (h : r = some (L, k)) (ho : OwnV w' w.heap.size v L) (hw : Below w.heap.size w w') : RvsP r w e w' := ⟨v, k, he, .inl ⟨L, k, h, rfl, ho⟩, hw⟩
theorem RvsP.no {r : Option (List Vl × Nat)} {w w' : World} {e : Ending} (he : e = .returned (.tuple #[.slice none 0 0, .int .i64 (-1)])) (h : r = none) (hw : Below w.heap.size w w') : RvsP r w e w' := ⟨_, -1, he, .inr ⟨h, rfl, rfl⟩, hw⟩

theorem pair_and (ch t4 : Nat) (h : ch < 256) : bits BinOp.and IntKind.u8 ((ch : Int) / 2 ^ (t4 * 2)) 3 = ((ch / 2 ^ (2 * t4) % 4 : Nat) : Int) := by
  have e : (ch : Int) / 2 ^ (t4 * 2) = ((ch / 2 ^ (2 * t4) : Nat) : Int) := by rw [Nat.mul_comm]; norm_cast
  have hlt : ch / 2 ^ (2 * t4) < 256 := Nat.lt_of_le_of_lt (Nat.div_le_self _ _) h
  have h1 := u8_and_nat (ch / 2 ^ (2 * t4)) 3 hlt (by decide)
  rw [show ((3 : Nat) : Int) = 3 from rfl] at h1
  rw [e, h1]
  congr 1
  exact Nat.and_two_pow_sub_one_eq_mod (ch / 2 ^ (2 * t4)) 2
/-- what is known while a value is read: the row that grows, a cell of the kinds -/
structure Kv (w : World) (u : Value) (V : List Vl) (X : World) : Prop where
  bl : Below w.heap.size w X
  own : OwnV X w.heap.size u V
theorem Kv.on {w X Y : World} {u : Value} {V : List Vl} (k : Kv w u V X) (hb : Below X.heap.size X Y) : Kv w u V Y := ⟨k.bl.trans (hb.mono k.bl.size), k.own.kept hb⟩
theorem Kv.drew {w X : World} {u : Value} {V : List Vl} (k : Kv w u V X) : Kv w u V X.drew := k.on (Below.refl _ _).drew
theorem Kv.alloc {w X : World} {u : Value} {V : List Vl} (k : Kv w u V X) (o : Obj) : Kv w u V (X.alloc o) := k.on ((Below.refl _ _).alloc (Nat.le_refl _) _)
theorem Kv.put {w X : World} {u : Value} {V : List Vl} (k : Kv w u V X) (B o : Nat) (v : Value) (hB : w.heap.size ≤ B) (hne : u.ownBlock ≠ some B) : Kv w u V (X.setCell ⟨B, o, none⟩ v) := by
  refine ⟨k.bl.setCell hB _, ?_⟩
  have hgr : X.grownBy (X.setCell ⟨B, o, none⟩ v) (some B) := ⟨rfl, rfl, rfl, by simp [World.setCell], fun k _ hk => Below.heap_setCell _ _ _ _ (by simpa using hk)⟩
  exact World.ownsRow.kept k.own hgr (.inr hne)
theorem Kv.put4 {w X : World} {u : Value} {V : List Vl} (k : Kv w u V X) (B : Nat) (v0 v1 v2 v3 : Value) (hB : w.heap.size ≤ B) (hne : u.ownBlock ≠ some B) : Kv w u V ((((X.setCell ⟨B, 0, none⟩ v0).setCell ⟨B, 1, none⟩ v1).setCell ⟨B, 2, none⟩ v2).setCell ⟨B, 3, none⟩ v3) :=
  (((k.put B 0 v0 hB hne).put B 1 v1 hB hne).put B 2 v2 hB hne).put B 3 v3 hB hne
theorem put4_cellsV {X : World} {B : Nat} {a0 a1 a2 a3 v0 v1 v2 v3 : Value} (h0 : X.cell? ⟨B, 0, none⟩ = some a0) (h1 : X.cell? ⟨B, 1, none⟩ = some a1) (h2 : X.cell? ⟨B, 2, none⟩ = some a2) (h3 : X.cell? ⟨B, 3, none⟩ = some a3) :
    ((((X.setCell ⟨B, 0, none⟩ v0).setCell ⟨B, 1, none⟩ v1).setCell ⟨B, 2, none⟩ v2).setCell ⟨B, 3, none⟩ v3).cell? ⟨B, 0, none⟩ = some v0 ∧ ((((X.setCell ⟨B, 0, none⟩ v0).setCell ⟨B, 1, none⟩ v1).setCell ⟨B, 2, none⟩ v2).setCell ⟨B, 3, none⟩ v3).cell? ⟨B, 1, none⟩ = some v1 ∧
    ((((X.setCell ⟨B, 0, none⟩ v0).setCell ⟨B, 1, none⟩ v1).setCell ⟨B, 2, none⟩ v2).setCell ⟨B, 3, none⟩ v3).cell? ⟨B, 2, none⟩ = some v2 ∧ ((((X.setCell ⟨B, 0, none⟩ v0).setCell ⟨B, 1, none⟩ v1).setCell ⟨B, 2, none⟩ v2).setCell ⟨B, 3, none⟩ v3).cell? ⟨B, 3, none⟩ = some v3 := by
  refine ⟨?_, ?_, ?_, ?_⟩ <;> simp [go_sem, h0, h1, h2, h3]
theorem alloc4_cellsV (X : World) (v0 v1 v2 v3 : Value) (t : TypeId) :
    (X.alloc (.cells #[v0, v1, v2, v3] t)).cell? ⟨X.heap.size, 0, none⟩ = some v0 ∧ (X.alloc (.cells #[v0, v1, v2, v3] t)).cell? ⟨X.heap.size, 1, none⟩ = some v1 ∧ (X.alloc (.cells #[v0, v1, v2, v3] t)).cell? ⟨X.heap.size, 2, none⟩ = some v2 ∧ (X.alloc (.cells #[v0, v1, v2, v3] t)).cell? ⟨X.heap.size, 3, none⟩ = some v3 := by
  refine ⟨?_, ?_, ?_, ?_⟩ <;> simp [go_sem]
/-- what stands behind the reading of one value -/
def CutV (w : World) (u : Value) (V : List Vl) (da : Option (Vl × Nat)) (v10 v11 : Value) (wx : World) : Prop :=
  ∃ (B : Nat) (v : Vl) (nn : Int), v10 = .pointer (some ⟨B, 0, none⟩) ∧ v11 = .int .i64 nn ∧ ((∃ k : Nat, da = some (v, k) ∧ nn = (k : Int)) ∨ (da = none ∧ nn = -1)) ∧ Kv w u V wx ∧
    wx.cell? ⟨B, 0, none⟩ = some (.int .i64 v.k) ∧ wx.cell? ⟨B, 1, none⟩ = some (.int .i64 v.n) ∧ wx.cell? ⟨B, 2, none⟩ = some (.float .f64 v.f) ∧ wx.cell? ⟨B, 3, none⟩ = some (.string v.s)
theorem CutV.mk {w wx : World} {u : Value} {V : List Vl} {da : Option (Vl × Nat)} (B : Nat) (v : Vl) (nn : Int) (hr : (∃ k : Nat, da = some (v, k) ∧ nn = (k : Int)) ∨ (da = none ∧ nn = -1)) (ho : Kv w u V wx)
    (hc : wx.cell? ⟨B, 0, none⟩ = some (.int .i64 v.k) ∧ wx.cell? ⟨B, 1, none⟩ = some (.int .i64 v.n) ∧ wx.cell? ⟨B, 2, none⟩ = some (.float .f64 v.f) ∧ wx.cell? ⟨B, 3, none⟩ = some (.string v.s)) :
    CutV w u V da (.pointer (some ⟨B, 0, none⟩)) (.int .i64 nn) wx := ⟨B, v, nn, rfl, rfl, hr, ho, hc⟩
theorem OwnV.on {w w' : World} {B : Nat} {v : Value} {L : List Vl} (h : OwnV w B v L) (hb : Below w.heap.size w w') : OwnV w' B v L := h.kept hb

section
variable {P : Program} {ops : Array Oper} {Q : Exit → Act → World → Prop}
theorem anyN_take (i : Nat) {oi : Oper} {v : Value} {fuel : Nat} {listed : Array Bool} {a : Act} {w : World} (hi : nthO ops.toList i = some oi)
    (hs : Region.noSelect ops = true) (hf : Region.free .any ops listed i = true) (hr : (Region.ready .any ops listed).contains i = true)
    (hQ : ∀ c a w, Q (.panic c) (a.put oi.dst v) w → Q (.panic c) a w) (hy : Yields P ops oi v a)
    (h : wpAny P .any ops Q fuel (listed.setIfInBounds i true) (a.put oi.dst v) w) : wpAny P .any ops Q (fuel + 1) listed a w := wpAny_take (nthO_at hi) hs hf hr hQ hy h
theorem anyN_cons (i : Nat) {fuel : Nat} {listed : Array Bool} {a : Act} {w : World} {o : Oper} {rs : List Nat} (ho : nthO ops.toList i = some o) (hw : Region.wanted o (yielded ops a.tmps) = true)
    (h : ∀ K' : Act → World → Prop, Hid (∀ a w, wpAny P .any ops Q fuel (listed.setIfInBounds i true) a w → K' a w) → Oper.wp P o a w K' Q)
    (hs : AllReady P .any ops Q fuel listed a w rs) : AllReady P .any ops Q fuel listed a w (i :: rs) :=
  AllReady.cons (nthO_at ho) (fun K hK => by rw [if_pos hw]; exact h K hK) hs
end

set_option maxHeartbeats 8000000 in
theorem rvalues_any (K : List Int) (p : Option Addr) (c : Nat) (s : ByteArray) (w : World) (hR : RowI w w.heap.size p K) (hn : K.length ≤ 64) (hkd : ∀ c ∈ K, 1 ≤ c ∧ c ≤ 5) (hs : s.size ≤ 65536) :
    Calls Tryz.prog 15 #[.slice p K.length c, .string s] w (RvsP (rowKR K s) w) := by
  have hsf := run_store_float
  obtain ⟨m, hm⟩ : ∃ m, m = (K.length + 3) / 4 := ⟨_, rfl⟩
  have hm16 : m ≤ 16 := by omega
  have hmn : K.length ≤ 4 * m := by omega
  have hmi : ((K.length : Int) + 3) / 4 = (m : Int) := by omega
  have HA : Hid (RowI _ _ _ _) := hR
  have HK : Hid _ := hkd
  have HF : Hid (rowKR K s = if s.size < m then none else if spB s K.length (4 * m) then rowK s K 0 m else none) := by show _ = _; unfold rowKR; rw [← hm]
  have HY : Hid ((∀ i, K.length ≤ i → i < 4 * m → pairB s i = 0) → spB s K.length (4 * m) = true) := spB_yes
  have HN : Hid (∀ i, K.length ≤ i → i < 4 * m → pairB s i ≠ 0 → spB s K.length (4 * m) = false) := fun i h1 h2 h3 => spB_no h1 h2 h3
  generalize rowKR K s = r at *
  generalize spB s K.length (4 * m) = sp at *
  clear hR hkd hm
  by_cases hsz : s.size < m
  · rw [if_pos hsz] at HF
    have hsz' : (s.size : Int) < (m : Int) := by omega
    go_enter Tryz.func15, Tryz.ntmps15
    go_wp2_with fail
    go_ret2
    exact RvsP.no rfl HF.out (Below.refl _ _)
  rw [if_neg hsz] at HF
  have hsz' : ¬ (s.size : Int) < (m : Int) := by omega
  go_enter Tryz.func15, Tryz.ntmps15
  go_wp2_with fail
  go_loopw [7] (fun i wr => ∃ j : Nat, K.length ≤ j ∧ j ≤ 4 * m ∧ i = .int .i64 (j : Int) ∧ Hid (∀ i, K.length ≤ i → i < j → pairB s i = 0) ∧ wr = w) (fun i _ => 4 * m - (intOf i).toNat)
  case atStart => exact ⟨K.length, Nat.le_refl _, hmn, rfl, (fun i h1 h2 => by omega), rfl⟩
  case round =>
    obtain ⟨j, hj1, hj2, rfl, hI, hw⟩ := hrel
    rw [hw]
    clear hw
    by_cases hj0 : j = 4 * m
    · have hd := HY.out (fun i h1 h2 => hI.out i h1 (by omega))
      rw [hd, if_pos rfl] at HF
      have hlt : ¬ ((j : Int) < 4 * (m : Int)) := by omega
      clear HY HN hI
      go_wp2_with fail
      have HF0 : Hid (r = ahd [] (rowK s (K.drop 0) 0 m)) := by show _ = _; rw [ahd_nil]; exact HF.out
      clear HF hd
      go_loopw [8, 6, 9] (fun u z i wr => ∃ (x k : Nat) (V : List Vl), x ≤ K.length ∧ i = .int .i64 (x : Int) ∧ z = .int .i64 (k : Int) ∧ V.length = x ∧ k ≤ s.size ∧ Hid (r = ahd V (rowK s (K.drop x) x k)) ∧ Hid (OwnV wr w.heap.size u V) ∧ Hid (Below w.heap.size w wr)) (fun _ _ i _ => K.length - (intOf i).toNat)
      case atStart => exact ⟨0, m, [], Nat.zero_le _, by go_num, rfl, rfl, by omega, HF0, OwnV.nil _ _, Below.refl _ _⟩
      case round =>
        clear HF0
        obtain ⟨x, k, V, hx, rfl, rfl, hV, hk, hF, hO, hB⟩ := hrel
        by_cases hx0 : x = K.length
        · have hF2 : Hid (r = some (V, k)) := by
            have := hF.out
            rw [hx0, List.drop_length] at this
            rw [this]
            simp [rowK, ahd, Hid]
          have hlt2 : ¬ ((x : Int) < (K.length : Int)) := by omega
          clear hF
          go_wp2_with fail
          go_ret2
          exact RvsP.yes _ k V rfl hF2.out hO.out hB.out
        · have hx1 : x < K.length := by omega
          have hlt2 : ((x : Int) < (K.length : Int)) := by omega
          obtain ⟨b, o, rfl, hbB, d0⟩ := HA.out x hx1
          have a0 := (hB.out.cell (p := ⟨b, o + x, none⟩) hbB).trans d0
          have hbr : b < wr.heap.size := Nat.lt_of_lt_of_le hbB hB.out.size
          have hkj := HK.out K[x] (List.getElem_mem hx1)
          have hst2 := slice_from s k hk
          have hxx : (s.extract k s.size).size = s.size - k := by rw [ByteArray.size_extract]; omega
          have hxs : (s.extract k s.size).size ≤ 65536 := by rw [hxx]; omega
          have hpl := pairB_le s x
          have C4 : Hid (∀ w1, Calls Tryz.prog 26 #[.int .i64 K[x], .int .u8 ((pairB s x : Nat) : Int), .string (s.extract k s.size)] w1 (RvP (decV K[x] (pairB s x) (s.extract k s.size)) w1)) := fun w1 => rvalue_any K[x] (pairB s x) (s.extract k s.size) w1 hxs hpl hkj.1 hkj.2
          have HAt : Hid _ := rowK_at (s := s) (cs := K) (k := k) (V := V) hx1
          have HLe : Hid (∀ v q, decV K[x] (pairB s x) (s.extract k s.size) = some (v, q) → q ≤ s.size - k) := fun v q h => by
            have := (decV_ok h hkj.1 hkj.2 hxs hpl).2
            rw [hxx] at this
            exact this
          have hq : x / 4 < s.size := by omega
          have hix : ∀ w1 : World, (Instr.index 9 (.string s) (.int .i64 ((x / 4 : Nat) : Int))).run Tryz.prog w1 = .ok (.int .u8 (s[x / 4].toNat : Int)) w1 := fun w1 => idx_at s (x / 4) hq w1
          have htd : (x : Int) / 4 = ((x / 4 : Nat) : Int) := rfl
          have hrm : (x : Int) % 4 = ((x % 4 : Nat) : Int) := rfl
          have hcl : s[x / 4].toNat < 256 := s[x / 4].toNat_lt
          have hpa := pair_and s[x / 4].toNat (x % 4) hcl
          rw [← pairB_at s x hq] at hpa
          have hq16 : x / 4 < 16 := by omega
          have ht4 : x % 4 < 4 := by omega
          have hwq : IntKind.i64.wrap ((x / 4 : Nat) : Int) = ((x / 4 : Nat) : Int) := by rw [IntKind.wrap_i64]; omega
          have hw4 : IntKind.i64.wrap (((x % 4 : Nat) : Int) * 2) = ((x % 4 : Nat) : Int) * 2 := by rw [IntKind.wrap_i64]; omega
          have hw5 : IntKind.u64.wrap (((x % 4 : Nat) : Int) * 2) = ((x % 4 : Nat) : Int) * 2 := by rw [IntKind.wrap_u64]; omega
          have hw6 : (((x % 4 : Nat) : Int) * 2).toNat = x % 4 * 2 := by omega
          have HBt : Hid (bits BinOp.and IntKind.u8 ((s[x / 4].toNat : Int) / 2 ^ min (IntKind.u64.wrap (IntKind.i64.wrap ((x : Int).tmod 4 * 2))).toNat 8) 3 = ((pairB s x : Nat) : Int)) := by
            show _ = _
            have e : (x : Int).tmod 4 = ((x % 4 : Nat) : Int) := rfl
            rw [e, hw4, hw5, hw6, Nat.min_eq_left (by omega)]
            exact hpa
          clear d0 hkj hxx hxs hpl hpa hw4 hw5 hw6 hrm
          generalize decV K[x] (pairB s x) (s.extract k s.size) = da at *
          generalize pairB s x = bt at *
          generalize s.extract k s.size = y at *
          generalize K[x] = kd at *
          generalize s[x / 4].toNat = ch at *
          generalize x / 4 = qq at *
          generalize x % 4 = t4 at *
          have HKv : Hid (Kv w u8 V wr) := ⟨hB.out, hO.out⟩
          have hwn : u8.ownBlock ≠ some wr.heap.size := fun h => by have := World.ownsRow.lt hO.out _ h; omega
          have hww : w.heap.size ≤ wr.heap.size := hB.out.size
          clear hO hB hbB HK HA
          go_wp2_with fail
          go_cut [10, 11] from 39 to 74 (fun p10 n11 wx => Hid (CutV w u8 V da p10 n11 wx))
          case first =>
            refine wp_region_any (by kernel_rfl) ?_
            change wpAny _ _ _ _ _ _ _ (World.drew _)
            refine anyN_take (v := ?_) 0 rfl (by kernel_rfl) (by kernel_rfl) (by kernel_rfl) (fun _ _ _ h => h) (Or.inl ⟨by rfl, ?_⟩) ?_
            rotate_left
            focus
              intro w9
              go_simp
              try with_reducible rfl
            try simp only [Act.put, List.setIfInBounds_toArray, List.set_cons_zero, List.set_cons_succ]
            refine anyN_take (v := ?_) 1 rfl (by kernel_rfl) (by kernel_rfl) (by kernel_rfl) (fun _ _ _ h => h) (Or.inl ⟨by rfl, ?_⟩) ?_
            rotate_left
            focus
              intro w9
              go_simp
              try with_reducible rfl
            try simp only [Act.put, List.setIfInBounds_toArray, List.set_cons_zero, List.set_cons_succ]
            refine anyN_take (v := ?_) 2 rfl (by kernel_rfl) (by kernel_rfl) (by kernel_rfl) (fun _ _ _ h => h) (Or.inl ⟨by rfl, ?_⟩) ?_
            rotate_left
            focus
              intro w9
              go_simp
              try with_reducible rfl
            try simp only [Act.put, List.setIfInBounds_toArray, List.set_cons_zero, List.set_cons_succ]
            refine anyN_take (v := ?_) 4 rfl (by kernel_rfl) (by kernel_rfl) (by kernel_rfl) (fun _ _ _ h => h) (Or.inl ⟨by rfl, ?_⟩) ?_
            rotate_left
            focus
              intro w9
              go_simp
              try with_reducible rfl
            try simp only [Act.put, List.setIfInBounds_toArray, List.set_cons_zero, List.set_cons_succ]
            refine anyN_take (v := ?_) 5 rfl (by kernel_rfl) (by kernel_rfl) (by kernel_rfl) (fun _ _ _ h => h) (Or.inl ⟨by rfl, ?_⟩) ?_
            rotate_left
            focus
              intro w9
              go_simp
              try with_reducible rfl
            try simp only [Act.put, List.setIfInBounds_toArray, List.set_cons_zero, List.set_cons_succ]
            refine anyN_take (v := ?_) 6 rfl (by kernel_rfl) (by kernel_rfl) (by kernel_rfl) (fun _ _ _ h => h) (Or.inl ⟨by rfl, ?_⟩) ?_
            rotate_left
            focus
              intro w9
              go_simp
              try with_reducible rfl
            try simp only [Act.put, List.setIfInBounds_toArray, List.set_cons_zero, List.set_cons_succ]
            refine anyN_take (v := ?_) 7 rfl (by kernel_rfl) (by kernel_rfl) (by kernel_rfl) (fun _ _ _ h => h) (Or.inl ⟨by rfl, ?_⟩) ?_
            rotate_left
            focus
              intro w9
              go_simp
              try with_reducible rfl
            try simp only [Act.put, List.setIfInBounds_toArray, List.set_cons_zero, List.set_cons_succ]
            refine anyN_take (v := ?_) 8 rfl (by kernel_rfl) (by kernel_rfl) (by kernel_rfl) (fun _ _ _ h => h) (Or.inl ⟨by rfl, ?_⟩) ?_
            rotate_left
            focus
              intro w9
              go_simp
              try with_reducible rfl
            try simp only [Act.put, List.setIfInBounds_toArray, List.set_cons_zero, List.set_cons_succ]
            refine anyN_take (v := ?_) 9 rfl (by kernel_rfl) (by kernel_rfl) (by kernel_rfl) (fun _ _ _ h => h) (Or.inl ⟨by rfl, ?_⟩) ?_
            rotate_left
            focus
              intro w9
              go_simp
              try with_reducible rfl
            try simp only [Act.put, List.setIfInBounds_toArray, List.set_cons_zero, List.set_cons_succ]
            refine anyN_take (v := ?_) 10 rfl (by kernel_rfl) (by kernel_rfl) (by kernel_rfl) (fun _ _ _ h => h) (Or.inl ⟨by rfl, ?_⟩) ?_
            rotate_left
            focus
              intro w9
              go_simp
              try with_reducible rfl
            try simp only [Act.put, List.setIfInBounds_toArray, List.set_cons_zero, List.set_cons_succ]
            refine anyN_take (v := ?_) 11 rfl (by kernel_rfl) (by kernel_rfl) (by kernel_rfl) (fun _ _ _ h => h) (Or.inl ⟨by rfl, ?_⟩) ?_
            rotate_left
            focus
              intro w9
              go_simp
              try with_reducible rfl
            try simp only [Act.put, List.setIfInBounds_toArray, List.set_cons_zero, List.set_cons_succ]
            refine anyN_take (v := ?_) 12 rfl (by kernel_rfl) (by kernel_rfl) (by kernel_rfl) (fun _ _ _ h => h) (Or.inl ⟨by rfl, ?_⟩) ?_
            rotate_left
            focus
              intro w9
              go_simp
              try with_reducible rfl
            try simp only [Act.put, List.setIfInBounds_toArray, List.set_cons_zero, List.set_cons_succ]
            refine anyN_take (v := ?_) 13 rfl (by kernel_rfl) (by kernel_rfl) (by kernel_rfl) (fun _ _ _ h => h) (Or.inl ⟨by rfl, ?_⟩) ?_
            rotate_left
            focus
              intro w9
              go_simp
              try with_reducible rfl
            try simp only [Act.put, List.setIfInBounds_toArray, List.set_cons_zero, List.set_cons_succ]
            refine anyN_take (v := ?_) 14 rfl (by kernel_rfl) (by kernel_rfl) (by kernel_rfl) (fun _ _ _ h => h) (Or.inl ⟨by rfl, ?_⟩) ?_
            rotate_left
            focus
              intro w9
              go_simp
              try with_reducible rfl
            try simp only [Act.put, List.setIfInBounds_toArray, List.set_cons_zero, List.set_cons_succ]
            refine anyN_take (v := ?_) 15 rfl (by kernel_rfl) (by kernel_rfl) (by kernel_rfl) (fun _ _ _ h => h) (Or.inl ⟨by rfl, ?_⟩) ?_
            rotate_left
            focus
              intro w9
              go_simp
              try with_reducible rfl
            try simp only [Act.put, List.setIfInBounds_toArray, List.set_cons_zero, List.set_cons_succ]
            refine anyN_take (v := ?_) 16 rfl (by kernel_rfl) (by kernel_rfl) (by kernel_rfl) (fun _ _ _ h => h) (Or.inl ⟨by rfl, ?_⟩) ?_
            rotate_left
            focus
              intro w9
              go_simp
              try with_reducible rfl
            try simp only [Act.put, List.setIfInBounds_toArray, List.set_cons_zero, List.set_cons_succ]
            refine wpAny_ready (rs := [3, 21]) (by kernel_rfl) (by simp) ?_
            refine anyN_cons 3 rfl (by rfl) (fun K hK => ?_) (anyN_cons 21 rfl (by rfl) (fun K hK => ?_) AllReady.nil)
            · go_simp
              refine hK.out _ _ ?_
              clear hK K
              try simp only [Act.put, List.setIfInBounds_toArray, List.set_cons_zero, List.set_cons_succ]
              refine wpAny_ready (rs := [17, 21]) (by kernel_rfl) (by simp) ?_
              refine anyN_cons 17 rfl (by rfl) (fun K hK => ?_) (anyN_cons 21 rfl (by rfl) (fun K hK => ?_) AllReady.nil)
              · go_simp
                rw [HBt.out]
                refine (C4.out _).mono ?_
                rintro e w5 ⟨⟨vk, vn, vf, vs⟩, nn, rfl, hr, hb5⟩
                dsimp only
                have HK5 : Hid (Kv w u8 V w5) := HKv.out.drew.on hb5
                have HR : Hid _ := hr
                clear hr hb5
                refine hK.out _ _ ?_
                clear hK K
                try simp only [Act.put, List.setIfInBounds_toArray, List.set_cons_zero, List.set_cons_succ]
                refine anyN_take (v := ?_) 18 rfl (by kernel_rfl) (by kernel_rfl) (by kernel_rfl) (fun _ _ _ h => h) (Or.inl ⟨by rfl, ?_⟩) ?_
                rotate_left
                focus
                  intro w9
                  go_simp
                  try with_reducible rfl
                try simp only [Act.put, List.setIfInBounds_toArray, List.set_cons_zero, List.set_cons_succ]
                refine anyN_take (v := ?_) 19 rfl (by kernel_rfl) (by kernel_rfl) (by kernel_rfl) (fun _ _ _ h => h) (Or.inl ⟨by rfl, ?_⟩) ?_
                rotate_left
                focus
                  intro w9
                  go_simp
                  try with_reducible rfl
                try simp only [Act.put, List.setIfInBounds_toArray, List.set_cons_zero, List.set_cons_succ]
                refine anyN_take (v := ?_) 20 rfl (by kernel_rfl) (by kernel_rfl) (by kernel_rfl) (fun _ _ _ h => h) (Or.inl ⟨by rfl, ?_⟩) ?_
                rotate_left
                focus
                  intro w9
                  go_simp
                  try with_reducible rfl
                try simp only [Act.put, List.setIfInBounds_toArray, List.set_cons_zero, List.set_cons_succ]
                refine wpAny_ready (rs := [21]) (by kernel_rfl) (by simp) ?_
                refine anyN_cons 21 rfl (by rfl) (fun K hK => ?_) AllReady.nil
                go_simp
                refine hK.out _ _ ?_
                clear hK K
                try simp only [Act.put, List.setIfInBounds_toArray, List.set_cons_zero, List.set_cons_succ]
                refine wpAny_ready (rs := [22]) (by kernel_rfl) (by simp) ?_
                refine anyN_cons 22 rfl (by rfl) (fun K hK => ?_) AllReady.nil
                go_simp
                refine hK.out _ _ ?_
                clear hK K
                try simp only [Act.put, List.setIfInBounds_toArray, List.set_cons_zero, List.set_cons_succ]
                refine wpAny_ready (rs := [23]) (by kernel_rfl) (by simp) ?_
                refine anyN_cons 23 rfl (by rfl) (fun K hK => ?_) AllReady.nil
                go_simp
                refine hK.out _ _ ?_
                clear hK K
                try simp only [Act.put, List.setIfInBounds_toArray, List.set_cons_zero, List.set_cons_succ]
                refine wpAny_done (by kernel_rfl) ?_ _
                try go_wp2_with fail
                go_meet
                exact CutV.mk _ ⟨vk, vn, vf, vs⟩ nn HR.out (HK5.out.alloc _) (alloc4_cellsV _ _ _ _ _ _)
              · go_simp
                refine hK.out _ _ ?_
                clear hK K
                try simp only [Act.put, List.setIfInBounds_toArray, List.set_cons_zero, List.set_cons_succ]
                refine wpAny_ready (rs := [17]) (by kernel_rfl) (by simp) ?_
                refine anyN_cons 17 rfl (by rfl) (fun K hK => ?_) AllReady.nil
                go_simp
                rw [HBt.out]
                refine (C4.out _).mono ?_
                rintro e w5 ⟨⟨vk, vn, vf, vs⟩, nn, rfl, hr, hb5⟩
                dsimp only
                have HK5 : Hid (Kv w u8 V w5) := (HKv.out.drew.alloc _).on hb5
                have HR : Hid _ := hr
                obtain ⟨⟨z0, z1, z2, z3⟩, ⟨y0, y1, y2, y3⟩, hzl⟩ := vzD wr w5 _ rfl hb5
                clear hr hb5
                refine hK.out _ _ ?_
                clear hK K
                try simp only [Act.put, List.setIfInBounds_toArray, List.set_cons_zero, List.set_cons_succ]
                refine anyN_take (v := ?_) 18 rfl (by kernel_rfl) (by kernel_rfl) (by kernel_rfl) (fun _ _ _ h => h) (Or.inl ⟨by rfl, ?_⟩) ?_
                rotate_left
                focus
                  intro w9
                  go_simp
                  try with_reducible rfl
                try simp only [Act.put, List.setIfInBounds_toArray, List.set_cons_zero, List.set_cons_succ]
                refine anyN_take (v := ?_) 19 rfl (by kernel_rfl) (by kernel_rfl) (by kernel_rfl) (fun _ _ _ h => h) (Or.inl ⟨by rfl, ?_⟩) ?_
                rotate_left
                focus
                  intro w9
                  go_simp
                  try with_reducible rfl
                try simp only [Act.put, List.setIfInBounds_toArray, List.set_cons_zero, List.set_cons_succ]
                refine anyN_take (v := ?_) 20 rfl (by kernel_rfl) (by kernel_rfl) (by kernel_rfl) (fun _ _ _ h => h) (Or.inl ⟨by rfl, ?_⟩) ?_
                rotate_left
                focus
                  intro w9
                  go_simp
                  try with_reducible rfl
                try simp only [Act.put, List.setIfInBounds_toArray, List.set_cons_zero, List.set_cons_succ]
                refine wpAny_ready (rs := [22]) (by kernel_rfl) (by simp) ?_
                refine anyN_cons 22 rfl (by rfl) (fun K hK => ?_) AllReady.nil
                go_simp
                refine hK.out _ _ ?_
                clear hK K
                try simp only [Act.put, List.setIfInBounds_toArray, List.set_cons_zero, List.set_cons_succ]
                refine wpAny_ready (rs := [23]) (by kernel_rfl) (by simp) ?_
                refine anyN_cons 23 rfl (by rfl) (fun K hK => ?_) AllReady.nil
                go_simp
                refine hK.out _ _ ?_
                clear hK K
                try simp only [Act.put, List.setIfInBounds_toArray, List.set_cons_zero, List.set_cons_succ]
                refine wpAny_done (by kernel_rfl) ?_ _
                try go_wp2_with fail
                go_meet
                exact CutV.mk _ ⟨vk, vn, vf, vs⟩ nn HR.out (HK5.out.put4 _ _ _ _ _ hww hwn) (put4_cellsV z0 z1 z2 z3)
            · go_simp
              refine hK.out _ _ ?_
              clear hK K
              try simp only [Act.put, List.setIfInBounds_toArray, List.set_cons_zero, List.set_cons_succ]
              refine wpAny_ready (rs := [3]) (by kernel_rfl) (by simp) ?_
              refine anyN_cons 3 rfl (by rfl) (fun K hK => ?_) AllReady.nil
              go_simp
              refine hK.out _ _ ?_
              clear hK K
              try simp only [Act.put, List.setIfInBounds_toArray, List.set_cons_zero, List.set_cons_succ]
              refine wpAny_ready (rs := [17]) (by kernel_rfl) (by simp) ?_
              refine anyN_cons 17 rfl (by rfl) (fun K hK => ?_) AllReady.nil
              go_simp
              rw [HBt.out]
              refine (C4.out _).mono ?_
              rintro e w5 ⟨⟨vk, vn, vf, vs⟩, nn, rfl, hr, hb5⟩
              dsimp only
              have HK5 : Hid (Kv w u8 V w5) := (HKv.out.drew.alloc _).on hb5
              have HR : Hid _ := hr
              obtain ⟨⟨z0, z1, z2, z3⟩, ⟨y0, y1, y2, y3⟩, hzl⟩ := vzD wr w5 _ rfl hb5
              clear hr hb5
              refine hK.out _ _ ?_
              clear hK K
              try simp only [Act.put, List.setIfInBounds_toArray, List.set_cons_zero, List.set_cons_succ]
              refine anyN_take (v := ?_) 18 rfl (by kernel_rfl) (by kernel_rfl) (by kernel_rfl) (fun _ _ _ h => h) (Or.inl ⟨by rfl, ?_⟩) ?_
              rotate_left
              focus
                intro w9
                go_simp
                try with_reducible rfl
              try simp only [Act.put, List.setIfInBounds_toArray, List.set_cons_zero, List.set_cons_succ]
              refine anyN_take (v := ?_) 19 rfl (by kernel_rfl) (by kernel_rfl) (by kernel_rfl) (fun _ _ _ h => h) (Or.inl ⟨by rfl, ?_⟩) ?_
              rotate_left
              focus
                intro w9
                go_simp
                try with_reducible rfl
              try simp only [Act.put, List.setIfInBounds_toArray, List.set_cons_zero, List.set_cons_succ]
              refine anyN_take (v := ?_) 20 rfl (by kernel_rfl) (by kernel_rfl) (by kernel_rfl) (fun _ _ _ h => h) (Or.inl ⟨by rfl, ?_⟩) ?_
              rotate_left
              focus
                intro w9
                go_simp
                try with_reducible rfl
              try simp only [Act.put, List.setIfInBounds_toArray, List.set_cons_zero, List.set_cons_succ]
              refine wpAny_ready (rs := [22]) (by kernel_rfl) (by simp) ?_
              refine anyN_cons 22 rfl (by rfl) (fun K hK => ?_) AllReady.nil
              go_simp
              refine hK.out _ _ ?_
              clear hK K
              try simp only [Act.put, List.setIfInBounds_toArray, List.set_cons_zero, List.set_cons_succ]
              refine wpAny_ready (rs := [23]) (by kernel_rfl) (by simp) ?_
              refine anyN_cons 23 rfl (by rfl) (fun K hK => ?_) AllReady.nil
              go_simp
              refine hK.out _ _ ?_
              clear hK K
              try simp only [Act.put, List.setIfInBounds_toArray, List.set_cons_zero, List.set_cons_succ]
              refine wpAny_done (by kernel_rfl) ?_ _
              try go_wp2_with fail
              go_meet
              exact CutV.mk _ ⟨vk, vn, vf, vs⟩ nn HR.out (HK5.out.put4 _ _ _ _ _ hww hwn) (put4_cellsV z0 z1 z2 z3)
          case rest =>
            obtain ⟨B, ⟨vk, vn, vf, vs⟩, nn, rfl, rfl, hr, hK6, s0, s1, s2, s3⟩ := hcut.out
            dsimp only at s0 s1 s2 s3
            have HK6 : Hid (Kv _ _ _ _) := hK6
            clear hcut hK6 HKv C4
            rcases hr with ⟨q, hda, rfl⟩ | ⟨hda, rfl⟩
            · have HF2 : Hid (r = ahd (V ++ [⟨vk, vn, vf, vs⟩]) (rowK s (K.drop (x + 1)) (x + 1) (k + q))) := by
                have h1 := hF.out
                rw [HAt.out, hda] at h1
                exact h1
              have hq2 := HLe.out _ _ hda
              have hq0 : ¬ ((q : Int) < 0) := by omega
              have hVl : V.length + 1 ≤ 3518437208883 := by omega
              clear hda HAt HLe hF
              go_wp2_with (first | (at_builtin; go_loud (refine wpList_appV _ rfl (.tmp 68) _ rfl w.heap.size u8 V (by rfl) HK6.out.own ⟨vk, vn, vf, vs⟩ _ rfl (by simp) hVl HK6.out.bl.size ?_); intro v6 w6 h6 h7))
              go_roundw
              case rel => exact ⟨x + 1, k + q, V ++ [⟨vk, vn, vf, vs⟩], by omega, by go_num, by go_num, by simp; omega, by omega, HF2, (show OwnV _ _ _ _ from h6), HK6.out.bl.trans h7⟩
              case measure => simp [intOf]; omega
            · have HF2 : Hid (r = none) := by
                have h1 := hF.out
                rw [HAt.out, hda] at h1
                exact h1
              clear hda HAt HLe hF
              go_wp2_with fail
              go_ret2
              exact RvsP.no rfl HF2.out HK6.out.bl
    · have hlt : ((j : Int) < 4 * (m : Int)) := by omega
      have hq : j / 4 < s.size := by omega
      have hix : ∀ w1 : World, (Instr.index 9 (.string s) (.int .i64 ((j / 4 : Nat) : Int))).run Tryz.prog w1 = .ok (.int .u8 (s[j / 4].toNat : Int)) w1 := fun w1 => idx_at s (j / 4) hq w1
      have htd : (j : Int) / 4 = ((j / 4 : Nat) : Int) := rfl
      have hrm : (j : Int) % 4 = ((j % 4 : Nat) : Int) := rfl
      have hpa : Hid _ := pairB_at s j hq
      have hcl : s[j / 4].toNat < 256 := s[j / 4].toNat_lt
      have hq16 : j / 4 < 16 := by omega
      have ht4 : j % 4 < 4 := by omega
      generalize s[j / 4].toNat = ch at *
      generalize j / 4 = q at *
      generalize j % 4 = t4 at *
      have hand := pair_and ch t4 hcl
      rw [← hpa.out] at hand
      by_cases hp : pairB s j = 0
      · rw [hp] at hand
        have hI2 : Hid (∀ i, K.length ≤ i → i < j + 1 → pairB s i = 0) := fun i h1 h2 => by
          rcases Nat.lt_or_ge i j with h3 | h3
          · exact hI.out i h1 h3
          · have : i = j := by omega
            rw [this]
            exact hp
        clear hp
        go_wp2_with fail
        go_roundw
        case rel => exact ⟨j + 1, by omega, by omega, by go_num, hI2, trivial⟩
        case measure => simp [intOf]; omega
      · have hd := HN.out j hj1 (by omega) hp
        rw [hd, if_neg (by simp)] at HF
        have hpb : ((pairB s j : Int) != 0) = true := by simp; omega
        generalize pairB s j = pb at *
        go_wp2_with fail
        go_ret2
        exact RvsP.no rfl HF.out (Below.refl _ _)

end Go.Proofs.YtinlgaefgedmcaaGreatDoor

namespace Go.Proofs.YtinlgaefgedmcaaGreatDoor
open Go.RowKit
set_option maxRecDepth 100000

/-- does each column admit its value? -/
def adAll : List Cl → List Vl → Bool
  | [], _ => true
  | _ :: _, [] => false
  | c :: cs, v :: l => decide (admE c v = 0) && adAll cs l
theorem rowA_K (s : ByteArray) : ∀ (cs : List Cl) (i k : Nat), rowA s cs i k = match rowK s (cs.map Cl.kd) i k with
    | none => none
    | some q => if adAll cs q.1 then some q else none
  | [], i, k => by simp [rowA, rowK, adAll]
  | c :: cs, i, k => by
    unfold rowA
    rw [List.map_cons]
    unfold rowK decA
    cases hd : decV c.kd (pairB s i) (s.extract k s.size) with
    | none => rfl
    | some p =>
      dsimp only
      have ih := rowA_K s cs (i + 1) (k + p.2)
      cases hk : rowK s (cs.map Cl.kd) (i + 1) (k + p.2) with
      | none =>
        rw [hk] at ih
        dsimp only at ih
        by_cases ha : admE c p.1 = 0
        · rw [if_pos ha]
          dsimp only
          rw [ih]
        · rw [if_neg ha]
      | some q =>
        rw [hk] at ih
        dsimp only at ih
        by_cases ha : admE c p.1 = 0
        · rw [if_pos ha]
          dsimp only
          rw [ih]
          cases hq : adAll cs q.1 <;> simp [adAll, ha, hq]
        · rw [if_neg ha]
          simp [adAll, ha]
theorem rowK_ok (s : ByteArray) (hs : s.size ≤ 65536) : ∀ (K : List Int) (i k : Nat) (q : List Vl × Nat), (∀ c ∈ K, 1 ≤ c ∧ c ≤ 5) → k ≤ s.size → rowK s K i k = some q → (∀ v ∈ q.1, v.ok) ∧ q.2 ≤ s.size ∧ q.1.length = K.length
  | [], i, k, q, _, hk, h => by
    unfold rowK at h
    injection h with h
    subst h
    exact ⟨(fun v hv => by cases hv), hk, rfl⟩
  | c :: K, i, k, q, hc, hk, h => by
    unfold rowK at h
    have hxx : (s.extract k s.size).size = s.size - k := by rw [ByteArray.size_extract]; omega
    cases hd : decV c (pairB s i) (s.extract k s.size) with
    | none => rw [hd] at h; cases h
    | some p =>
      rw [hd] at h
      dsimp only at h
      obtain ⟨pv, pk⟩ := p
      have hkc := hc c List.mem_cons_self
      have h1 := decV_ok hd hkc.1 hkc.2 (by rw [hxx]; omega) (pairB_le s i)
      rw [hxx] at h1
      cases hr : rowK s K (i + 1) (k + pk) with
      | none => rw [hr] at h; cases h
      | some q' =>
        rw [hr] at h
        injection h with h
        subst h
        have ih := rowK_ok s hs K (i + 1) (k + pk) q' (fun c hc' => hc c (List.mem_cons_of_mem _ hc')) (by omega) hr
        refine ⟨fun v hv => ?_, ih.2.1, by simp [ih.2.2]⟩
        rcases List.mem_cons.1 hv with rfl | hv
        · exact h1.1
        · exact ih.1 v hv
theorem adAll_iff : ∀ (cs : List Cl) (l : List Vl), l.length = cs.length → (adAll cs l = true ↔ ∀ i, i < cs.length → admsE cs l i = 0)
  | [], l, _ => by simp [adAll]
  | c :: cs, [], h => by simp at h
  | c :: cs, v :: l, h => by
    have ih := adAll_iff cs l (by simpa using h)
    simp only [adAll, Bool.and_eq_true, decide_eq_true_eq, ih]
    constructor
    · rintro ⟨h1, h2⟩ i hi
      cases i with
      | zero => exact h1
      | succ i => exact h2 i (by simpa using hi)
    · intro h2
      exact ⟨h2 0 (by simp), fun i hi => h2 (i + 1) (by simpa using hi)⟩
theorem adm_iff {t : Tb} {l : List Vl} (hc : checkS t = 0) (hl : l.length = t.cs.length) : admS t l = 0 ↔ adAll t.cs l = true := by
  rw [adAll_iff t.cs l hl]
  unfold admS
  rw [if_pos hc, if_pos hl]
  exact ⟨firstE_all, fun h => firstE_zero h⟩
theorem checkS_kd {t : Tb} (h : checkS t = 0) : ∀ c ∈ t.cs, 1 ≤ c.kd ∧ c.kd ≤ 5 := by
  unfold checkS at h
  by_cases h1 : nameB t.nm.data.toList = true
  · rw [if_pos h1] at h
    by_cases h2 : countsB t = true
    · rw [if_pos h2] at h
      by_cases h3 : firstE (colE t.cs) t.cs.length = 0
      · intro c hcm
        obtain ⟨i, hi, rfl⟩ := List.getElem_of_mem hcm
        have h4 := firstE_all h3 i hi
        unfold colE at h4
        rw [List.getElem?_eq_getElem hi] at h4
        dsimp only at h4
        unfold colE1 at h4
        split at h4
        · split at h4
          · omega
          · split at h4
            · rename_i h5
              simp only [Bool.and_eq_true, decide_eq_true_eq] at h5
              exact h5.1
            · omega
        · omega
      · rw [if_neg h3] at h
        exact absurd h h3
    · rw [if_neg h2] at h
      omega
  · rw [if_neg h1] at h
    omega

/-- what Decode answers -/
def decO (t : Tb) (s : ByteArray) : Option (List Vl) := match rowR t.cs s with
  | none => none
  | some q => if q.2 = s.size then some q.1 else none
def decR (t : Tb) (s : ByteArray) : List Vl × Int := if checkS t = 0 then (if s.size ≤ 65536 then (match decO t s with
  | none => ([], 41)
  | some l => (l, 0)) else ([], 3)) else ([], checkS t)
/-- the same, as the document has it -/
theorem decO_K {t : Tb} {s : ByteArray} (hc : checkS t = 0) (hs : s.size ≤ 65536) : decO t s = match rowKR (t.cs.map Cl.kd) s with
    | none => none
    | some q => if q.2 = s.size ∧ admS t q.1 = 0 then some q.1 else none := by
  unfold decO rowR rowKR
  rw [List.length_map]
  by_cases h1 : s.size < (t.cs.length + 3) / 4
  · rw [if_pos h1, if_pos h1]
  rw [if_neg h1, if_neg h1]
  cases h2 : spB s t.cs.length (4 * ((t.cs.length + 3) / 4))
  · rfl
  rw [if_pos rfl, if_pos rfl, rowA_K]
  cases h3 : rowK s (t.cs.map Cl.kd) 0 ((t.cs.length + 3) / 4) with
  | none => rfl
  | some q =>
    have hk := rowK_ok s hs _ _ _ q (fun c hcm => by obtain ⟨c', hc', rfl⟩ := List.mem_map.1 hcm; exact checkS_kd hc c' hc') (by omega) h3
    have hl : q.1.length = t.cs.length := by rw [hk.2.2, List.length_map]
    have hi := adm_iff hc hl
    dsimp only
    cases h4 : adAll t.cs q.1
    · rw [h4] at hi
      have hn : ¬ admS t q.1 = 0 := fun h => by simpa using hi.1 h
      simp [hn]
    · rw [h4] at hi
      have hy : admS t q.1 = 0 := hi.2 rfl
      simp [hy]

end Go.Proofs.YtinlgaefgedmcaaGreatDoor
