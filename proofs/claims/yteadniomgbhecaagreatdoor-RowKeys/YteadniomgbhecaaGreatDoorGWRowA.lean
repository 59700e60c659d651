/- The walk of appendRow onto nothing. -/
import Derived.Lib.AppendZeros
import Derived.Laws.OwnMore
import Derived.Test.YteadniomgbhecaaGreatDoorGWAppV
namespace Go.Proofs.YteadniomgbhecaaGreatDoor
open Go.RowKit
set_option maxRecDepth 100000

theorem i64V {a b : Int} (h : a = b) : Ending.returned (.int .i64 a) = Ending.returned (.int .i64 b) := by rw [h]
set_option maxHeartbeats 2000000 in
theorem pairBytes_any (n : Nat) (w : World) (hn : n ≤ 3518437208784) : Calls Tryz.prog 51 #[.int .i64 (n : Int)] w fun e w' => e = .returned (.int .i64 (((n + 3) / 4 : Nat) : Int)) ∧ w' = w := by
  have HQ : Hid ((((n + 3) / 4 : Nat) : Int) = ((n : Int) + 3) / 4) := (show _ = _ by omega)
  rw [HQ.out]
  go_enter Tryz.func51, Tryz.ntmps51
  go_wp2
  go_ret
  exact ⟨i64V (by omega), rfl⟩
set_option maxHeartbeats 2000000 in
theorem shift_any (n : Nat) (w : World) (hn : n ≤ 3518437208784) : Calls Tryz.prog 53 #[.int .i64 (n : Int)] w fun e w' => e = .returned (.int .i64 ((2 * (n % 4) : Nat) : Int)) ∧ w' = w := by
  have HQ : Hid (((2 * (n % 4) : Nat) : Int) = 2 * ((n : Int) % 4)) := (show _ = _ by omega)
  rw [HQ.out]
  go_enter Tryz.func53, Tryz.ntmps53
  go_wp2
  go_ret
  exact ⟨i64V (by omega), rfl⟩

theorem OwnB.set {w : World} {B g n cap : Nat} {bs : List UInt8} (h : OwnB w B (.slice (some ⟨g, 0, none⟩) n cap) bs) (hn : bs.length = n) (i : Nat) (b : UInt8) : OwnB (w.setCell ⟨g, i, none⟩ (.int .u8 (b.toNat : Int))) B (.slice (some ⟨g, 0, none⟩) n cap) (bs.set i b) := by
  subst hn
  have h' : w.ownsRow B 5 1 (.slice (some ⟨g, 0, none⟩) bs.length cap) bs.length (bcells bs) := h
  have h1 := (h'.stored i (.int .u8 (b.toNat : Int))).1
  unfold OwnB
  rw [List.length_set]
  have e : bcells (bs.set i b) = (bcells bs).set i (.int .u8 (b.toNat : Int)) := by simp [bcells, List.map_set]
  rw [e]
  exact h1
theorem OwnB.at {w : World} {B g n cap : Nat} {bs : List UInt8} (h : OwnB w B (.slice (some ⟨g, 0, none⟩) n cap) bs) (hn : bs.length = n) (i : Nat) (hi : i < bs.length) : w.cell? ⟨g, i, none⟩ = some (.int .u8 (bs[i].toNat : Int)) ∧ w.frozen? ⟨g, i, none⟩ = false ∧ B ≤ g ∧ g < w.heap.size := by
  subst hn
  have h' : w.ownsRow B 5 1 (.slice (some ⟨g, 0, none⟩) bs.length cap) bs.length (bcells bs) := h
  refine ⟨(h'.cellAt i (by omega)).trans ?_, h'.frozenAt i, World.ownsRow.lt h' g rfl⟩
  simp [bcells, hi]
theorem own_zeros (w : World) (B n : Nat) (hB : B ≤ w.heap.size) (hn : n ≤ 3518437208784) : OwnB (w.alloc (.cells (Builtin.zeroCells #[.int .u8 0] n ++ Builtin.zeroCells #[.int .u8 0] (grownCap w n 0 5 - n)) 5)).drew B (.slice (some ⟨w.heap.size, 0, none⟩) n (grownCap w n 0 5)) (List.replicate n 0) := by
  have hge := grownCap_ge w n 0 5
  refine ⟨by simp [bcells], .inr ⟨w.heap.size, grownCap w n 0 5, _, by simp, hB, heap_alloc_new w _, by simpa using hge, grownCap_le_maxLen w n 0 _ (by unfold maxLen; omega), ?_, ?_⟩⟩
  · simp [size_zeroCells]
    omega
  · apply List.ext_getElem?
    intro j
    by_cases hj : j < n
    · simp [bcells, hj, Builtin.zeroCells, Nat.mod_one]
    · rw [List.getElem?_eq_none (by simp; omega), List.getElem?_eq_none (by simp [bcells]; omega)]

theorem flat_len : ∀ (l : List Vl), (∀ v ∈ l, v.s.size ≤ 65536) → (l.flatMap toldB).length ≤ l.length * 65546
  | [], _ => by simp
  | v :: l, h => by
    have h1 := flat_len l (fun u hu => h u (List.mem_cons_of_mem _ hu))
    have h2 := toldB_len v
    have h3 := h v List.mem_cons_self
    simp only [List.flatMap_cons, List.length_append, List.length_cons]
    omega
/-- what a round that sets a pair reads -/
abbrev SP (g q h : Nat) (b : Int) (vk vn : Int) (vf : Nat) (vs : ByteArray) (w' : World) : Prop := w'.cell? ⟨g, q, none⟩ = some (.int .u8 b) ∧ w'.cell? ⟨h, 0, none⟩ = some (.int .i64 vk) ∧ w'.cell? ⟨h, 1, none⟩ = some (.int .i64 vn) ∧ w'.cell? ⟨h, 2, none⟩ = some (.float .f64 vf) ∧ w'.cell? ⟨h, 3, none⟩ = some (.string vs)
theorem SP.on {g q h : Nat} {b vk vn : Int} {vf : Nat} {vs : ByteArray} {w1 w2 : World} (hs : SP g q h b vk vn vf vs w1) (hb : Below w1.heap.size w1 w2) : SP g q h b vk vn vf vs w2 := by
  obtain ⟨c0, c1, c2, c3, c4⟩ := hs
  have k : ∀ {b o : Nat} {v : Value}, w1.cell? ⟨b, o, none⟩ = some v → w2.cell? ⟨b, o, none⟩ = some v := fun {b o v} hc => (hb.cell (p := ⟨b, o, none⟩) (World.block_lt_of_cell? w1 _ hc)).trans hc
  exact ⟨k c0, k c1, k c2, k c3, k c4⟩

set_option maxHeartbeats 4000000 in
theorem appendRow_nil (l : List Vl) (p : Option Addr) (c : Nat) (w : World) (hR : RowV w w.heap.size p l) (hok : ∀ v ∈ l, v.ok ∧ v.s.size ≤ 65536) (h1 : 1 ≤ l.length) (h64 : l.length ≤ 64) :
    Calls Tryz.prog 27 #[.slice none 0 0, .slice p l.length c] w fun e w' => ∃ v', e = .returned v' ∧ OwnB w' w.heap.size v' (rowB l) ∧ Below w.heap.size w w' := by
  have HA : Hid (RowV w w.heap.size p l ∧ (∀ v ∈ l, v.ok ∧ v.s.size ≤ 65536)) := ⟨hR, hok⟩
  have CB : Hid (∀ w1 : World, Calls Tryz.prog 51 #[.int .i64 (l.length : Int)] w1 fun e w' => e = .returned (.int .i64 (((l.length + 3) / 4 : Nat) : Int)) ∧ w' = w1) := fun w1 => pairBytes_any l.length w1 (by omega)
  have HRB : Hid (rowB l = packK ((l.length + 3) / 4) l l.length ++ l.flatMap toldB) := rfl
  have hsf := run_store_float
  obtain ⟨n, hn⟩ : ∃ n, (l.length + 3) / 4 = n := ⟨_, rfl⟩
  rw [hn] at CB HRB
  have hn1 : 1 ≤ n := by omega
  have hn2 : n ≤ 16 := by omega
  have HN : Hid (∀ j, j < l.length → j / 4 < n) := fun j hj => by omega
  clear hR hok hn
  generalize rowB l = R at *
  go_enter Tryz.func27, Tryz.ntmps27
  go_wp2_with fail
  refine (CB.out _).mono ?_
  rintro e w1 ⟨rfl, rfl⟩
  obtain ⟨i0, hi, hz0, hz1, hz2⟩ := info_parts info_u8
  have hrun : (Builtin.append_ #[48, 3] 48 #[.slice none 0 0, .int .i64 (n : Int)]).run Tryz.prog w1 = .ok (.slice (some ⟨w1.heap.size, 0, none⟩) n (grownCap w1 n 0 5)) (w1.drew.alloc (.cells (Builtin.zeroCells (Value.int .u8 0).cells n ++ Builtin.zeroCells (Value.int .u8 0).cells (grownCap w1 n 0 5 - n)) 5)) :=
    Lib.run_append_nil_zeros w1 48 3 48 5 i0 (.int .u8 0) .i64 .i64 Tryz.underlying48 Tryz.underlying3 hi hz0 n (by omega) (by rw [hz1]; decide) (by omega) (by rw [hz2]; omega)
  have HZ : Hid (OwnB _ _ _ _) := own_zeros w1 w1.heap.size n (Nat.le_refl _) (by omega)
  have hbz : Below w1.heap.size w1 (w1.alloc (.cells (Builtin.zeroCells #[.int .u8 0] n ++ Builtin.zeroCells #[.int .u8 0] (grownCap w1 n 0 5 - n)) 5)).drew := ((Below.refl _ _).alloc (Nat.le_refl _) _).drew
  obtain ⟨cap, hcap⟩ : ∃ cap, grownCap w1 n 0 5 = cap := ⟨_, rfl⟩
  rw [hcap] at hrun HZ hbz
  go_wp2_with (first | (at_builtin; refine Lib.wpList_append_run _ rfl _ _ _ _ rfl _ _ rfl rfl _ _ hrun ?_))
  clear hrun hcap hi hz0 hz1 hz2
  generalize hw2 : (w1.alloc (.cells (Builtin.zeroCells #[.int .u8 0] n ++ Builtin.zeroCells #[.int .u8 0] (cap - n)) 5)).drew = w2 at *
  clear hw2
  obtain ⟨g, hg⟩ : ∃ g, w1.heap.size = g := ⟨_, rfl⟩
  have HG : Hid (w1.heap.size = g) := hg
  rw [hg] at HZ ⊢
  clear hg
  go_loopw [19] (fun k wr => ∃ j : Nat, j ≤ l.length ∧ k = .int .i64 (j : Int) ∧ Hid (OwnB wr g (.slice (some ⟨g, 0, none⟩) n cap) (packK n l j) ∧ Below w1.heap.size w1 wr)) (fun k _ => l.length - (intOf k).toNat)
  case atStart => exact ⟨0, Nat.zero_le _, by go_num, ⟨HZ.out, hbz⟩⟩
  case round =>
    clear HZ hbz
    obtain ⟨j, hj, rfl, hO⟩ := hrel
    by_cases hj0 : j = l.length
    · subst hj0
      go_wp2_with fail
      have hPl := packK_len n l l.length
      generalize packK n l l.length = PK at *
      generalize wr = w3 at *
      go_loopw [0, 41] (fun u k wr => ∃ j : Nat, j ≤ l.length ∧ k = .int .i64 (j : Int) ∧ Hid (OwnB wr g u (PK ++ (l.take j).flatMap toldB) ∧ Below w1.heap.size w1 wr)) (fun _ k _ => l.length - (intOf k).toNat)
      case atStart => exact ⟨0, Nat.zero_le _, by go_num, ⟨by simpa using hO.out.1, hO.out.2⟩⟩
      case round =>
        clear hO
        obtain ⟨j, hj, rfl, hO⟩ := hrel
        by_cases hj0 : j = l.length
        · subst hj0
          rw [List.take_length] at hO
          go_wp2
          go_ret
          exact ⟨_, rfl, by rw [HRB.out, HG.out]; exact hO.out.1, hO.out.2⟩
        · have hj1 : j < l.length := by omega
          obtain ⟨b, o, rfl, hbB, r0, r1, r2, r3⟩ := HA.out.1 j hj1
          have y0 := (hO.out.2.cell (p := ⟨b, _, none⟩) hbB).trans r0
          have y1 := (hO.out.2.cell (p := ⟨b, _, none⟩) hbB).trans r1
          have y2 := (hO.out.2.cell (p := ⟨b, _, none⟩) hbB).trans r2
          have y3 := (hO.out.2.cell (p := ⟨b, _, none⟩) hbB).trans r3
          have hvo := HA.out.2 l[j] (List.getElem_mem hj1)
          have hfl := flat_len (l.take j) (fun v hv => (HA.out.2 v (List.mem_of_mem_take hv)).2)
          have htl : (l.take j).length ≤ 64 := by simp; omega
          have HT : Hid (PK ++ (l.take (j + 1)).flatMap toldB = PK ++ (l.take j).flatMap toldB ++ toldB l[j]) := by
            show _ = _
            rw [← List.take_append_getElem hj1, List.flatMap_append, List.append_assoc]
            simp
          have hbl : (PK ++ (l.take j).flatMap toldB).length ≤ 1099511627776 - 65600 := by
            rw [List.length_append, hPl]
            omega
          have hzw := hO.out.2.size
          have CA : Hid (∀ w4 : World, g ≤ w4.heap.size → OwnB w4 g u0 (PK ++ (l.take j).flatMap toldB) → Calls Tryz.prog 54 #[u0, .agg #[.int .i64 l[j].k, .int .i64 l[j].n, .float .f64 l[j].f, .string l[j].s]] w4 fun e w' => ∃ v', e = .returned v' ∧ OwnB w' g v' (PK ++ (l.take j).flatMap toldB ++ toldB l[j]) ∧ Keep5 g w4 w') := fun w4 h1 h2 => appendValue_any g u0 _ l[j] w4 h1 h2 hvo.1 hvo.2 hbl
          generalize PK ++ (l.take j).flatMap toldB = U at *
          generalize toldB l[j] = tb at *
          generalize l[j] = v at *
          obtain ⟨vk, vn, vf, vs⟩ := v
          dsimp only at y0 y1 y2 y3 CA
          clear r0 r1 r2 r3 hvo
          have hba : Below wr.heap.size wr (wr.alloc (.cells #[.int .i64 vk, .int .i64 vn, .float .f64 vf, .string vs] 45)) := by go_grown
          go_wp2_with fail
          refine (CA.out _ (by have := HG.out; have := hba.size; omega) (hO.out.1.kept hba)).mono ?_
          rintro e w5 ⟨v5, rfl, hO5, hk5⟩
          have R : Hid (OwnB w5 g v5 (U ++ tb) ∧ Below w1.heap.size w1 w5) := ⟨hO5, (hO.out.2.trans (hba.mono hzw)).trans (by rw [HG.out]; exact hk5.below)⟩
          clear hO5 hk5 hba
          go_wp2_with fail
          go_roundw
          case rel => exact ⟨j + 1, hj1, by go_num, ⟨by rw [HT.out]; exact R.out.1, R.out.2⟩⟩
          case measure => simp [intOf]; omega
    · have hj1 : j < l.length := by omega
      obtain ⟨b, o, rfl, hbB, r0, r1, r2, r3⟩ := HA.out.1 j hj1
      have y0 := (hO.out.2.cell (p := ⟨b, _, none⟩) hbB).trans r0
      have y1 := (hO.out.2.cell (p := ⟨b, _, none⟩) hbB).trans r1
      have y2 := (hO.out.2.cell (p := ⟨b, _, none⟩) hbB).trans r2
      have y3 := (hO.out.2.cell (p := ⟨b, _, none⟩) hbB).trans r3
      have hq := HN.out j hj1
      obtain ⟨q, hqe⟩ : ∃ q, j / 4 = q := ⟨_, rfl⟩
      have hlp := packK_len n l j
      have HP : Hid (packK n l (j + 1) = (packK n l j).set (j / 4) ((packK n l j)[j / 4]'(by rw [hlp]; exact hq) ||| UInt8.ofNat (pairN l[j] * 4 ^ (j % 4)))) := packK_succ hj1 hq
      obtain ⟨m0, m1, m2, m3⟩ := hO.out.1.at hlp (j / 4) (by rw [hlp]; exact hq)
      generalize (packK n l j)[j / 4]'(by rw [hlp]; exact hq) = x at *
      rw [hqe] at m0 m1 HP hq
      have CP : Hid (∀ w1 : World, Calls Tryz.prog 52 #[.agg #[.int .i64 l[j].k, .int .i64 l[j].n, .float .f64 l[j].f, .string l[j].s]] w1 fun e w' => e = .returned (.int .u8 (pairN l[j] : Int)) ∧ Below w1.heap.size w1 w') := fun w1 => pairOf_any l[j] w1
      have CH : Hid (∀ w1 : World, Calls Tryz.prog 53 #[.int .i64 (j : Int)] w1 fun e w' => e = .returned (.int .i64 ((2 * (j % 4) : Nat) : Int)) ∧ w' = w1) := fun w1 => shift_any j w1 (by omega)
      have hpl := pairN_lt l[j]
      generalize pairN l[j] = pn at *
      have hor := or_pack x pn (j % 4) hpl (Nat.mod_lt _ (by decide))
      have hsh : IntKind.u8.wrap ((pn : Int) * 2 ^ (2 * ((j : Int) % 4)).toNat) = ((pn * 4 ^ (j % 4) : Nat) : Int) := by
        have h4 := pow4 (j % 4) (Nat.mod_lt _ (by decide))
        have e : (2 * ((j : Int) % 4)).toNat = 2 * (j % 4) := by omega
        have hz : pn * 4 ^ (j % 4) ≤ 128 := by
          have : pn * 4 ^ (j % 4) ≤ 2 * 64 := Nat.mul_le_mul (by omega) h4
          omega
        have e2 : (pn : Int) * 2 ^ (2 * (j % 4)) = ((pn * 4 ^ (j % 4) : Nat) : Int) := by
          rw [show (4 : Nat) = 2 ^ 2 from rfl, ← Nat.pow_mul]
          norm_cast
        rw [e, e2]
        generalize pn * 4 ^ (j % 4) = zz at hz ⊢
        simp [IntKind.wrap, IntKind.bits, IntKind.signed]
        omega
      generalize pn * 4 ^ (j % 4) = z at *
      obtain ⟨y, hy⟩ : ∃ y, x ||| UInt8.ofNat z = y := ⟨_, rfl⟩
      rw [hy] at hor HP
      clear hy
      generalize l[j] = v at *
      obtain ⟨vk, vn, vf, vs⟩ := v
      dsimp only at y0 y1 y2 y3 CP
      have hqi : (j : Int) / 4 = (q : Int) := by omega
      have hqn : (q : Int) < (n : Int) := by omega
      have hqw : IntKind.i64.wrap (q : Int) = (q : Int) := by rw [IntKind.wrap_i64]; omega
      clear r0 r1 r2 r3
      go_wp2_with fail
      have b0 : (wr.alloc (.cells #[.int .i64 vk, .int .i64 vn, .float .f64 vf, .string vs] 45)).cell? ⟨wr.heap.size, 0, none⟩ = some (.int .i64 vk) := by simp [go_sem]
      have b1 : (wr.alloc (.cells #[.int .i64 vk, .int .i64 vn, .float .f64 vf, .string vs] 45)).cell? ⟨wr.heap.size, 1, none⟩ = some (.int .i64 vn) := by simp [go_sem]
      have b2 : (wr.alloc (.cells #[.int .i64 vk, .int .i64 vn, .float .f64 vf, .string vs] 45)).cell? ⟨wr.heap.size, 2, none⟩ = some (.float .f64 vf) := by simp [go_sem]
      have b3 : (wr.alloc (.cells #[.int .i64 vk, .int .i64 vn, .float .f64 vf, .string vs] 45)).cell? ⟨wr.heap.size, 3, none⟩ = some (.string vs) := by simp [go_sem]
      have hba : Below wr.heap.size wr (wr.alloc (.cells #[.int .i64 vk, .int .i64 vn, .float .f64 vf, .string vs] 45)) := by go_grown
      have m0' := (hba.cell (p := ⟨g, q, none⟩) m3).trans m0
      have HO4 : Hid (OwnB (wr.alloc (.cells #[.int .i64 vk, .int .i64 vn, .float .f64 vf, .string vs] 45)) g (.slice (some ⟨g, 0, none⟩) n cap) (packK n l j) ∧ Below w1.heap.size w1 (wr.alloc (.cells #[.int .i64 vk, .int .i64 vn, .float .f64 vf, .string vs] 45))) := ⟨hO.out.1.kept hba, hO.out.2.trans (hba.mono hO.out.2.size)⟩
      have hgh : g < wr.heap.size := m3
      clear hO m0 m1 m2 m3 y0 y1 y2 y3 hba
      generalize wr.alloc (.cells #[.int .i64 vk, .int .i64 vn, .float .f64 vf, .string vs] 45) = w4 at *
      generalize wr.heap.size = h at *
      refine wp_region_L (fun w' => SP g q h (x.toNat : Int) vk vn vf vs w') 14 (by kernel_rfl) ?_
      have hS0 : SP g q h (x.toNat : Int) vk vn vf vs w4.drew := ⟨m0', b0, b1, b2, b3⟩
      refine wpL_take (v := ?_) 0 rfl (by kernel_rfl) (fun _ _ _ h => h) (by rfl) ?_ hS0 ?_
      rotate_left
      focus
        intro w9 hw9
        go_simp
        try with_reducible rfl
      try simp only [Act.put, List.setIfInBounds_toArray, List.set_cons_zero, List.set_cons_succ]
      refine wpL_take (v := ?_) 1 rfl (by kernel_rfl) (fun _ _ _ h => h) (by rfl) ?_ hS0 ?_
      rotate_left
      focus
        intro w9 hw9
        go_simp
        try with_reducible rfl
      try simp only [Act.put, List.setIfInBounds_toArray, List.set_cons_zero, List.set_cons_succ]
      refine wpL_take (v := ?_) 2 rfl (by kernel_rfl) (fun _ _ _ h => h) (by rfl) ?_ hS0 ?_
      rotate_left
      focus
        intro w9 hw9
        go_simp
        try with_reducible rfl
      try simp only [Act.put, List.setIfInBounds_toArray, List.set_cons_zero, List.set_cons_succ]
      refine wpL_take (v := ?_) 3 rfl (by kernel_rfl) (fun _ _ _ h => h) (by rfl) ?_ hS0 ?_
      rotate_left
      focus
        intro w9 hw9
        go_simp
        try with_reducible rfl
      try simp only [Act.put, List.setIfInBounds_toArray, List.set_cons_zero, List.set_cons_succ]
      refine wpL_take (v := ?_) 4 rfl (by kernel_rfl) (fun _ _ _ h => h) (by rfl) ?_ hS0 ?_
      rotate_left
      focus
        intro w9 hw9
        go_simp
        try with_reducible rfl
      try simp only [Act.put, List.setIfInBounds_toArray, List.set_cons_zero, List.set_cons_succ]
      refine wpL_take (v := ?_) 5 rfl (by kernel_rfl) (fun _ _ _ h => h) (by rfl) ?_ hS0 ?_
      rotate_left
      focus
        intro w9 hw9
        go_simp
        try with_reducible rfl
      try simp only [Act.put, List.setIfInBounds_toArray, List.set_cons_zero, List.set_cons_succ]
      refine wpL_take (v := ?_) 6 rfl (by kernel_rfl) (fun _ _ _ h => h) (by rfl) ?_ hS0 ?_
      rotate_left
      focus
        intro w9 hw9
        go_simp
        try with_reducible rfl
      try simp only [Act.put, List.setIfInBounds_toArray, List.set_cons_zero, List.set_cons_succ]
      refine wpL_take (v := ?_) 7 rfl (by kernel_rfl) (fun _ _ _ h => h) (by rfl) ?_ hS0 ?_
      rotate_left
      focus
        intro w9 hw9
        go_simp
        try with_reducible rfl
      try simp only [Act.put, List.setIfInBounds_toArray, List.set_cons_zero, List.set_cons_succ]
      refine wpL_take (v := ?_) 9 rfl (by kernel_rfl) (fun _ _ _ h => h) (by rfl) ?_ hS0 ?_
      rotate_left
      focus
        intro w9 hw9
        go_simp
        try with_reducible rfl
      try simp only [Act.put, List.setIfInBounds_toArray, List.set_cons_zero, List.set_cons_succ]
      refine wpL_one 8 rfl (by kernel_rfl) (by rfl) ?_
      intro K hK
      go_simp
      refine (CP.out _).mono ?_
      rintro e w5 ⟨rfl, hb5⟩
      dsimp only
      have hS5 : SP g q h (x.toNat : Int) vk vn vf vs w5 := hS0.on hb5
      have hb45 : Below w4.heap.size w4 w5 := (Below.refl w4.heap.size w4).drew.trans hb5
      have HO5 : Hid (OwnB w5 g (.slice (some ⟨g, 0, none⟩) n cap) (packK n l j) ∧ Below w1.heap.size w1 w5) := ⟨HO4.out.1.kept hb45, HO4.out.2.trans (hb45.mono HO4.out.2.size)⟩
      clear hb5 hb45
      refine hK.out _ _ (fun _ => hS5) ?_
      try simp only [Act.put, List.setIfInBounds_toArray, List.set_cons_zero, List.set_cons_succ]
      refine wpL_one 10 rfl (by kernel_rfl) (by rfl) ?_
      intro K hK
      go_simp
      refine (CH.out _).mono ?_
      rintro e w6 ⟨rfl, hw6⟩
      obtain rfl := hw6.symm
      dsimp only
      refine hK.out _ _ (fun _ => hS5) ?_
      try simp only [Act.put, List.setIfInBounds_toArray, List.set_cons_zero, List.set_cons_succ]
      have f5 := (HO5.out.1.at hlp q (by rw [hlp]; exact hq)).2.1
      have c5 := hS5.1
      refine wpL_take (v := ?_) 11 rfl (by kernel_rfl) (fun _ _ _ h => h) (by rfl) ?_ hS5 ?_
      rotate_left
      focus
        intro w9 hw9
        go_simp
        try with_reducible rfl
      try simp only [Act.put, List.setIfInBounds_toArray, List.set_cons_zero, List.set_cons_succ]
      refine wpL_take (v := ?_) 12 rfl (by kernel_rfl) (fun _ _ _ h => h) (by rfl) ?_ hS5 ?_
      rotate_left
      focus
        intro w9 hw9
        go_simp
        try with_reducible rfl
      try simp only [Act.put, List.setIfInBounds_toArray, List.set_cons_zero, List.set_cons_succ]
      refine wpL_take (v := ?_) 13 rfl (by kernel_rfl) (fun _ _ _ h => h) (by rfl) ?_ hS5 ?_
      rotate_left
      focus
        intro w9 hw9
        go_simp
        try with_reducible rfl
      try simp only [Act.put, List.setIfInBounds_toArray, List.set_cons_zero, List.set_cons_succ]
      refine wpL_one 14 rfl (by kernel_rfl) (by rfl) ?_
      intro K hK
      go_simp
      refine hK.out _ _ (fun h => absurd rfl h) ?_
      try simp only [Act.put, List.setIfInBounds_toArray, List.set_cons_zero, List.set_cons_succ]
      refine wpL_done (by kernel_rfl) ?_ _
      refine NoPanic.normal ?_
      go_wp2_with fail
      go_roundw
      case rel => exact ⟨j + 1, hj1, by go_num, ⟨by rw [HP.out]; exact HO5.out.1.set hlp q y, HO5.out.2.setCell (by have := HG.out; simp; omega) _⟩⟩
      case measure => simp [intOf]; omega

end Go.Proofs.YteadniomgbhecaaGreatDoor
