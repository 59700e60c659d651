/- The walk of the document's bytesOf. -/
import Derived.Laws.MakeOwn
import Derived.Test.YtgnedioggpgeeaaDoorGWRowA
namespace Go.Proofs.YtgnedioggpgeeaaDoor
open Go.RowKit
set_option maxRecDepth 100000

/-- what a round that sets a pair reads -/
abbrev SQ (g q h o : Nat) (b : Int) (vk vn : Int) (vf : Nat) (vs : ByteArray) (w' : World) : Prop := w'.cell? ⟨g, q, none⟩ = some (.int .u8 b) ∧ w'.cell? ⟨h, o, none⟩ = some (.int .i64 vk) ∧ w'.cell? ⟨h, o + 1, none⟩ = some (.int .i64 vn) ∧ w'.cell? ⟨h, o + 2, none⟩ = some (.float .f64 vf) ∧ w'.cell? ⟨h, o + 3, none⟩ = some (.string vs)
theorem SQ.on {g q h o : Nat} {b vk vn : Int} {vf : Nat} {vs : ByteArray} {w1 w2 : World} (hs : SQ g q h o b vk vn vf vs w1) (hb : Below w1.heap.size w1 w2) : SQ g q h o b vk vn vf vs w2 := by
  obtain ⟨c0, c1, c2, c3, c4⟩ := hs
  have k : ∀ {b o : Nat} {v : Value}, w1.cell? ⟨b, o, none⟩ = some v → w2.cell? ⟨b, o, none⟩ = some v := fun {b o v} hc => (hb.cell (p := ⟨b, o, none⟩) (World.block_lt_of_cell? w1 _ hc)).trans hc
  exact ⟨k c0, k c1, k c2, k c3, k c4⟩
theorem own_made (w : World) (B n : Nat) (hB : B ≤ w.heap.size) (hn : n ≤ 3518437208784) : OwnB (w.alloc (.cells (madeCells #[.int .u8 0] n) 5)) B (.slice (some ⟨w.heap.size, 0, none⟩) n n) (List.replicate n 0) := by
  have h := World.ownsRow_lit (base := B) (e := 5) (size := 1) w (madeCells #[.int .u8 0] n) n hB (by unfold maxLen; omega) (by rw [size_madeCells]; omega)
  rw [toList_madeCells_one] at h
  unfold OwnB
  have e : bcells (List.replicate n 0) = List.replicate n (.int .u8 0) := by simp [bcells]
  rw [e, List.length_replicate]
  exact h

set_option maxHeartbeats 4000000 in
theorem bytesOf_any (l : List Vl) (p : Option Addr) (c : Nat) (w1 : World) (hR : RowV w1 w1.heap.size p l) (hok : ∀ v ∈ l, v.ok ∧ v.s.size ≤ 65536) (h1 : 1 ≤ l.length) (h64 : l.length ≤ 64) :
    Calls Tryd.prog 20 #[.slice p l.length c] w1 fun e w' => ∃ v', e = .returned v' ∧ OwnB w' w1.heap.size v' (rowB l) ∧ Below w1.heap.size w1 w' := by
  have HA : Hid (RowV w1 w1.heap.size p l ∧ (∀ v ∈ l, v.ok ∧ v.s.size ≤ 65536)) := ⟨hR, hok⟩
  have HRB : Hid (rowB l = packK ((l.length + 3) / 4) l l.length ++ l.flatMap toldB) := rfl
  obtain ⟨n, hn⟩ : ∃ n, (l.length + 3) / 4 = n := ⟨_, rfl⟩
  rw [hn] at HRB
  have hn1 : 1 ≤ n := by omega
  have hn2 : n ≤ 16 := by omega
  have HN : Hid (∀ j, j < l.length → j / 4 < n) := fun j hj => by omega
  have hni : ((l.length : Int) + 3) / 4 = (n : Int) := by omega
  have hmk : ∀ w3 : World, (Instr.makeSlice 43 (.int .i64 (n : Int)) (.int .i64 (n : Int))).run Tryd.prog w3 = .ok (.slice (some ⟨w3.heap.size, 0, none⟩) n n) (w3.alloc (.cells (madeCells #[.int .u8 0] n) 5)) := by
    intro w3
    obtain ⟨i, hi, q0, q1, q2⟩ := info_parts info_u8
    have := run_make (P := Tryd.prog) w3 43 5 i _ Tryd.underlying43 hi q0 .i64 .i64 (n : Int) (n : Int) (by omega) (Int.le_refl _) (by rw [q2]; omega) (by omega)
    rw [this, q1]
    simp [Value.cells]
  have HZ : Hid (OwnB _ _ _ _) := own_made w1 w1.heap.size n (Nat.le_refl _) (by omega)
  have hbz : Below w1.heap.size w1 (w1.alloc (.cells (madeCells #[.int .u8 0] n) 5)) := by go_grown
  clear hR hok hn
  generalize rowB l = R at *
  go_enter Tryd.func20, Tryd.ntmps20
  go_wp2_with fail
  clear hmk hni
  generalize hw2 : w1.alloc (.cells (madeCells #[.int .u8 0] n) 5) = w2 at *
  clear hw2
  obtain ⟨g, hg⟩ : ∃ g, w1.heap.size = g := ⟨_, rfl⟩
  have HG : Hid (w1.heap.size = g) := hg
  rw [hg] at HZ ⊢
  clear hg
  go_loopw [4] (fun k wr => ∃ j : Nat, j ≤ l.length ∧ k = .int .i64 (j : Int) ∧ Hid (OwnB wr g (.slice (some ⟨g, 0, none⟩) n n) (packK n l j) ∧ Below w1.heap.size w1 wr)) (fun k _ => l.length - (intOf k).toNat)
  case atStart => exact ⟨0, Nat.zero_le _, by go_num, ⟨HZ.out, hbz⟩⟩
  case round =>
    clear HZ hbz
    obtain ⟨j, hj, rfl, hO⟩ := hrel
    by_cases hj0 : j = l.length
    · subst hj0
      go_wp2_with fail
      have hPl := packK_len n l l.length
      generalize packK n l l.length = PK at *
      generalize wr = w3 at *
      go_loopw [3, 5] (fun u k wr => ∃ j : Nat, j ≤ l.length ∧ k = .int .i64 (j : Int) ∧ Hid (OwnB wr g u (PK ++ (l.take j).flatMap toldB) ∧ Below w1.heap.size w1 wr)) (fun _ k _ => l.length - (intOf k).toNat)
      case atStart => exact ⟨0, Nat.zero_le _, by go_num, ⟨by simpa using hO.out.1, hO.out.2⟩⟩
      case round =>
        clear hO
        obtain ⟨j, hj, rfl, hO⟩ := hrel
        by_cases hj0 : j = l.length
        · subst hj0
          rw [List.take_length] at hO
          go_wp2
          go_ret
          exact ⟨_, rfl, by rw [HRB.out, HG.out]; exact hO.out.1, hO.out.2⟩
        · have hj1 : j < l.length := by omega
          obtain ⟨b, o, rfl, hbB, r0, r1, r2, r3⟩ := HA.out.1 j hj1
          have y0 := (hO.out.2.cell (p := ⟨b, _, none⟩) hbB).trans r0
          have y1 := (hO.out.2.cell (p := ⟨b, _, none⟩) hbB).trans r1
          have y2 := (hO.out.2.cell (p := ⟨b, _, none⟩) hbB).trans r2
          have y3 := (hO.out.2.cell (p := ⟨b, _, none⟩) hbB).trans r3
          have hvo := HA.out.2 l[j] (List.getElem_mem hj1)
          have hfl := flat_len (l.take j) (fun v hv => (HA.out.2 v (List.mem_of_mem_take hv)).2)
          have htl : (l.take j).length ≤ 64 := by simp; omega
          have HT : Hid (PK ++ (l.take (j + 1)).flatMap toldB = PK ++ (l.take j).flatMap toldB ++ toldB l[j]) := by
            show _ = _
            rw [← List.take_append_getElem hj1, List.flatMap_append, List.append_assoc]
            simp
          have hbl : (PK ++ (l.take j).flatMap toldB).length ≤ 1099511627776 - 65600 := by
            rw [List.length_append, hPl]
            omega
          have htb := toldB_len l[j]
          have hvs := hvo.2
          have hzw := hO.out.2.size
          have CA : Hid (∀ w4 : World, Calls Tryd.prog 38 #[.agg #[.int .i64 l[j].k, .int .i64 l[j].n, .float .f64 l[j].f, .string l[j].s]] w4 fun e w' => ∃ v', e = .returned v' ∧ OwnB w' w4.heap.size v' (toldB l[j]) ∧ Below w4.heap.size w4 w') := fun w4 => told_any l[j] w4 hvo.1 hvo.2
          generalize PK ++ (l.take j).flatMap toldB = U at *
          generalize toldB l[j] = tb at *
          generalize l[j] = v at *
          obtain ⟨vk, vn, vf, vs⟩ := v
          dsimp only at y0 y1 y2 y3 CA htb hvs
          clear r0 r1 r2 r3 hvo
          go_wp2_with fail
          refine (CA.out _).mono ?_
          rintro e w5 ⟨v5, rfl, hO5, hb5⟩
          have hzg := HG.out
          have hz5 := hb5.size
          rcases hO5.shape with ⟨rfl, hnil⟩ | ⟨g5, cap5, rfl, hg5, hg6, hc5⟩
          · obtain ⟨i0, hi, hz0, hz1, hz2⟩ := info_parts info_u8
            go_wp2_with (first | (at_builtin; refine wpList_append_own_none rfl (.tmp 43) (.tmp 48) 43 rfl g 5 i0 1 Tryd.underlying43 hi u3 _ _ (by rfl) (hO.out.1.kept hb5) (by rfl) ?_))
            go_roundw
            case rel => exact ⟨j + 1, hj1, by go_num, ⟨by rw [HT.out, hnil, List.append_nil]; exact hO.out.1.kept hb5, hO.out.2.trans (hb5.mono hzw)⟩⟩
            case measure => simp [intOf]; omega
          · go_wp2_with (first | (at_builtin; refine wpList_app _ rfl (.tmp 43) (.tmp 48) rfl g u3 U (by rfl) (hO.out.1.kept hb5) ⟨g5, 0, none⟩ tb.length cap5 tb (by rfl) rfl (fun k hk => by rw [show (⟨g5, 0, none⟩ : Addr).add k = ⟨g5, k, none⟩ by unfold Addr.add; split <;> simp_all]; exact hc5 k hk) (by omega) (by omega) ?_; intro v6 w6 h6 h7))
            go_roundw
            case rel => exact ⟨j + 1, hj1, by go_num, ⟨by rw [HT.out]; exact h6, (hO.out.2.trans (hb5.mono hzw)).trans (by rw [HG.out]; exact h7.below)⟩⟩
            case measure => simp [intOf]; omega
    · have hj1 : j < l.length := by omega
      obtain ⟨b, o, rfl, hbB, r0, r1, r2, r3⟩ := HA.out.1 j hj1
      have y0 := (hO.out.2.cell (p := ⟨b, _, none⟩) hbB).trans r0
      have y1 := (hO.out.2.cell (p := ⟨b, _, none⟩) hbB).trans r1
      have y2 := (hO.out.2.cell (p := ⟨b, _, none⟩) hbB).trans r2
      have y3 := (hO.out.2.cell (p := ⟨b, _, none⟩) hbB).trans r3
      have hq := HN.out j hj1
      obtain ⟨q, hqe⟩ : ∃ q, j / 4 = q := ⟨_, rfl⟩
      have hlp := packK_len n l j
      have HP : Hid (packK n l (j + 1) = (packK n l j).set (j / 4) ((packK n l j)[j / 4]'(by rw [hlp]; exact hq) ||| UInt8.ofNat (pairN l[j] * 4 ^ (j % 4)))) := packK_succ hj1 hq
      obtain ⟨m0, m1, m2, m3⟩ := hO.out.1.at hlp (j / 4) (by rw [hlp]; exact hq)
      generalize (packK n l j)[j / 4]'(by rw [hlp]; exact hq) = x at *
      rw [hqe] at m0 m1 HP hq
      have CP : Hid (∀ w1 : World, Calls Tryd.prog 37 #[.agg #[.int .i64 l[j].k, .int .i64 l[j].n, .float .f64 l[j].f, .string l[j].s]] w1 fun e w' => e = .returned (.int .u8 (pairN l[j] : Int)) ∧ Below w1.heap.size w1 w') := fun w1 => rpair_any l[j] w1
      have hpl := pairN_lt l[j]
      generalize pairN l[j] = pn at *
      have hor := or_pack x pn (j % 4) hpl (Nat.mod_lt _ (by decide))
      have hsh : ∀ e : Nat, e = 2 * (j % 4) → IntKind.u8.wrap ((pn : Int) * 2 ^ e) = ((pn * 4 ^ (j % 4) : Nat) : Int) := by
        intro e he
        subst he
        have h4 := pow4 (j % 4) (Nat.mod_lt _ (by decide))
        have hz : pn * 4 ^ (j % 4) ≤ 128 := by
          have : pn * 4 ^ (j % 4) ≤ 2 * 64 := Nat.mul_le_mul (by omega) h4
          omega
        have e2 : (pn : Int) * 2 ^ (2 * (j % 4)) = ((pn * 4 ^ (j % 4) : Nat) : Int) := by
          rw [show (4 : Nat) = 2 ^ 2 from rfl, ← Nat.pow_mul]
          norm_cast
        rw [e2]
        generalize pn * 4 ^ (j % 4) = zz at hz ⊢
        simp [IntKind.wrap, IntKind.bits, IntKind.signed]
        omega
      generalize pn * 4 ^ (j % 4) = z at *
      obtain ⟨y, hy⟩ : ∃ y, x ||| UInt8.ofNat z = y := ⟨_, rfl⟩
      rw [hy] at hor HP
      clear hy
      obtain ⟨r2, hr2⟩ : ∃ r2, 2 * (j % 4) = r2 := ⟨_, rfl⟩
      have hshB := hsh r2 hr2.symm
      have hcnt : IntKind.u64.wrap (IntKind.i64.wrap ((j : Int).tmod 4 * 2)) = (r2 : Int) := by
        have e1 : (j : Int).tmod 4 * 2 = ((r2 : Nat) : Int) := by
          rw [← hr2, Int.tmod_eq_emod_of_nonneg (by omega)]
          omega
        rw [e1, show IntKind.i64.wrap (r2 : Int) = (r2 : Int) by rw [IntKind.wrap_i64]; omega, wrapU r2 (by omega)]
      have hr8 : r2 < 8 := by omega
      clear hr2
      clear hsh
      generalize l[j] = v at *
      obtain ⟨vk, vn, vf, vs⟩ := v
      dsimp only at y0 y1 y2 y3 CP
      have hqi : (j : Int) / 4 = (q : Int) := by omega
      have hqn : (q : Int) < (n : Int) := by omega
      have hjl : (j : Int) < (l.length : Int) := by omega
      have hqw : IntKind.i64.wrap (q : Int) = (q : Int) := by rw [IntKind.wrap_i64]; omega
      clear r0 r1 r2 r3
      go_wp2_with fail
      refine wp_region_L (fun w' => SQ g q b (o + j * 4) (x.toNat : Int) vk vn vf vs w') 20 (by kernel_rfl) ?_
      have hS0 : SQ g q b (o + j * 4) (x.toNat : Int) vk vn vf vs wr.drew := ⟨m0, y0, y1, y2, y3⟩
      refine wpL_take (v := ?_) 0 rfl (by kernel_rfl) (fun _ _ _ h => h) (by rfl) ?_ hS0 ?_
      rotate_left
      focus
        intro w9 hw9
        go_simp
        try with_reducible rfl
      try simp only [Act.put, List.setIfInBounds_toArray, List.set_cons_zero, List.set_cons_succ]
      refine wpL_take (v := ?_) 1 rfl (by kernel_rfl) (fun _ _ _ h => h) (by rfl) ?_ hS0 ?_
      rotate_left
      focus
        intro w9 hw9
        go_simp
        try with_reducible rfl
      try simp only [Act.put, List.setIfInBounds_toArray, List.set_cons_zero, List.set_cons_succ]
      refine wpL_take (v := ?_) 2 rfl (by kernel_rfl) (fun _ _ _ h => h) (by rfl) ?_ hS0 ?_
      rotate_left
      focus
        intro w9 hw9
        go_simp
        try with_reducible rfl
      try simp only [Act.put, List.setIfInBounds_toArray, List.set_cons_zero, List.set_cons_succ]
      refine wpL_take (v := ?_) 3 rfl (by kernel_rfl) (fun _ _ _ h => h) (by rfl) ?_ hS0 ?_
      rotate_left
      focus
        intro w9 hw9
        go_simp
        try with_reducible rfl
      try simp only [Act.put, List.setIfInBounds_toArray, List.set_cons_zero, List.set_cons_succ]
      refine wpL_take (v := ?_) 4 rfl (by kernel_rfl) (fun _ _ _ h => h) (by rfl) ?_ hS0 ?_
      rotate_left
      focus
        intro w9 hw9
        go_simp
        try with_reducible rfl
      try simp only [Act.put, List.setIfInBounds_toArray, List.set_cons_zero, List.set_cons_succ]
      refine wpL_take (v := ?_) 5 rfl (by kernel_rfl) (fun _ _ _ h => h) (by rfl) ?_ hS0 ?_
      rotate_left
      focus
        intro w9 hw9
        go_simp
        try with_reducible rfl
      try simp only [Act.put, List.setIfInBounds_toArray, List.set_cons_zero, List.set_cons_succ]
      refine wpL_take (v := ?_) 6 rfl (by kernel_rfl) (fun _ _ _ h => h) (by rfl) ?_ hS0 ?_
      rotate_left
      focus
        intro w9 hw9
        go_simp
        try with_reducible rfl
      try simp only [Act.put, List.setIfInBounds_toArray, List.set_cons_zero, List.set_cons_succ]
      refine wpL_take (v := ?_) 7 rfl (by kernel_rfl) (fun _ _ _ h => h) (by rfl) ?_ hS0 ?_
      rotate_left
      focus
        intro w9 hw9
        go_simp
        try with_reducible rfl
      try simp only [Act.put, List.setIfInBounds_toArray, List.set_cons_zero, List.set_cons_succ]
      refine wpL_take (v := ?_) 8 rfl (by kernel_rfl) (fun _ _ _ h => h) (by rfl) ?_ hS0 ?_
      rotate_left
      focus
        intro w9 hw9
        go_simp
        try with_reducible rfl
      try simp only [Act.put, List.setIfInBounds_toArray, List.set_cons_zero, List.set_cons_succ]
      refine wpL_take (v := ?_) 9 rfl (by kernel_rfl) (fun _ _ _ h => h) (by rfl) ?_ hS0 ?_
      rotate_left
      focus
        intro w9 hw9
        go_simp
        try with_reducible rfl
      try simp only [Act.put, List.setIfInBounds_toArray, List.set_cons_zero, List.set_cons_succ]
      refine wpL_take (v := ?_) 10 rfl (by kernel_rfl) (fun _ _ _ h => h) (by rfl) ?_ hS0 ?_
      rotate_left
      focus
        intro w9 hw9
        go_simp
        try with_reducible rfl
      try simp only [Act.put, List.setIfInBounds_toArray, List.set_cons_zero, List.set_cons_succ]
      refine wpL_take (v := ?_) 11 rfl (by kernel_rfl) (fun _ _ _ h => h) (by rfl) ?_ hS0 ?_
      rotate_left
      focus
        intro w9 hw9
        go_simp
        try with_reducible rfl
      try simp only [Act.put, List.setIfInBounds_toArray, List.set_cons_zero, List.set_cons_succ]
      refine wpL_take (v := ?_) 13 rfl (by kernel_rfl) (fun _ _ _ h => h) (by rfl) ?_ hS0 ?_
      rotate_left
      focus
        intro w9 hw9
        go_simp
        try with_reducible rfl
      try simp only [Act.put, List.setIfInBounds_toArray, List.set_cons_zero, List.set_cons_succ]
      refine wpL_take (v := ?_) 14 rfl (by kernel_rfl) (fun _ _ _ h => h) (by rfl) ?_ hS0 ?_
      rotate_left
      focus
        intro w9 hw9
        go_simp
        try with_reducible rfl
      try simp only [Act.put, List.setIfInBounds_toArray, List.set_cons_zero, List.set_cons_succ]
      refine wpL_take (v := ?_) 15 rfl (by kernel_rfl) (fun _ _ _ h => h) (by rfl) ?_ hS0 ?_
      rotate_left
      focus
        intro w9 hw9
        go_simp
        try with_reducible rfl
      try simp only [Act.put, List.setIfInBounds_toArray, List.set_cons_zero, List.set_cons_succ]
      refine wpL_take (v := ?_) 16 rfl (by kernel_rfl) (fun _ _ _ h => h) (by rfl) ?_ hS0 ?_
      rotate_left
      focus
        intro w9 hw9
        go_simp
        try with_reducible rfl
      try simp only [Act.put, List.setIfInBounds_toArray, List.set_cons_zero, List.set_cons_succ]
      refine wpL_one 12 rfl (by kernel_rfl) (by rfl) ?_
      intro K hK
      go_simp
      refine (CP.out _).mono ?_
      rintro e w5 ⟨rfl, hb5⟩
      dsimp only
      have hS5 : SQ g q b (o + j * 4) (x.toNat : Int) vk vn vf vs w5 := hS0.on hb5
      have hb45 : Below wr.heap.size wr w5 := (Below.refl wr.heap.size wr).drew.trans hb5
      have HO5 : Hid (OwnB w5 g (.slice (some ⟨g, 0, none⟩) n n) (packK n l j) ∧ Below w1.heap.size w1 w5) := ⟨hO.out.1.kept hb45, hO.out.2.trans (hb45.mono hO.out.2.size)⟩
      have f5 := (HO5.out.1.at hlp q (by rw [hlp]; exact hq)).2.1
      have c5 := hS5.1
      clear hb5 hb45
      refine hK.out _ _ (fun _ => hS5) ?_
      try simp only [Act.put, List.setIfInBounds_toArray, List.set_cons_zero, List.set_cons_succ]
      refine wpL_take (v := ?_) 17 rfl (by kernel_rfl) (fun _ _ _ h => h) (by rfl) ?_ hS5 ?_
      rotate_left
      focus
        intro w9 hw9
        go_simp
        try with_reducible rfl
      try simp only [Act.put, List.setIfInBounds_toArray, List.set_cons_zero, List.set_cons_succ]
      refine wpL_take (v := ?_) 18 rfl (by kernel_rfl) (fun _ _ _ h => h) (by rfl) ?_ hS5 ?_
      rotate_left
      focus
        intro w9 hw9
        go_simp
        try with_reducible rfl
      try simp only [Act.put, List.setIfInBounds_toArray, List.set_cons_zero, List.set_cons_succ]
      refine wpL_take (v := ?_) 19 rfl (by kernel_rfl) (fun _ _ _ h => h) (by rfl) ?_ hS5 ?_
      rotate_left
      focus
        intro w9 hw9
        go_simp
        try with_reducible rfl
      try simp only [Act.put, List.setIfInBounds_toArray, List.set_cons_zero, List.set_cons_succ]
      refine wpL_one 20 rfl (by kernel_rfl) (by rfl) ?_
      intro K hK
      go_simp
      refine hK.out _ _ (fun h => absurd rfl h) ?_
      try simp only [Act.put, List.setIfInBounds_toArray, List.set_cons_zero, List.set_cons_succ]
      refine wpL_done (by kernel_rfl) ?_ _
      refine NoPanic.normal ?_
      go_wp2_with fail
      go_roundw
      case rel => exact ⟨j + 1, hj1, by go_num, ⟨by rw [HP.out]; exact HO5.out.1.set hlp q y, HO5.out.2.setCell (by have := HG.out; simp; omega) _⟩⟩
      case measure => simp [intOf]; omega
end Go.Proofs.YtgnedioggpgeeaaDoor
