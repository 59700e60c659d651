/- 'append(b, make([]byte, k)...)' onto bytes that a call owns. The walk of appendRow onto bytes that are there. The walks of Same of rows, on both sides: rows that may be unlike. -/
import Derived.Lib.AppendZerosOnto
import Derived.Test.YtfknmblobcjapaaDoorGWREnc
namespace Go.Proofs.YtfknmblobcjapaaDoor
open Go.RowKit
set_option maxRecDepth 100000

theorem zeros_list (k : Nat) : (Builtin.zeroCells #[.int .u8 0] k).toList = bcells (List.replicate k 0) := by
  apply List.ext_getElem?
  intro j
  by_cases hj : j < k
  · simp [bcells, hj, Builtin.zeroCells, Nat.mod_one]
  · rw [List.getElem?_eq_none (by simp [Builtin.zeroCells]; omega), List.getElem?_eq_none (by simp [bcells]; omega)]
theorem own_appZ (w : World) (B : Nat) (v : Value) (bs : List UInt8) (k : Nat) (hown : OwnB w B v bs) (h0 : 1 ≤ k) (hk : k ≤ 1024) (hl : bs.length ≤ 1099511627776) (hbase : B ≤ w.heap.size) :
    ∃ v' w', (Builtin.append_ #[40, 3] 40 #[v, .int .i64 (k : Int)]).run Tryd.prog w = .ok v' w' ∧ OwnB w' B v' (bs ++ List.replicate k 0) ∧ w.grownBy w' v.ownBlock := by
  obtain ⟨i, hi, hz0, hz1, hz2⟩ := info_parts info_u8
  have hlen : (bs ++ List.replicate k (0 : UInt8)).length = bs.length + k := by simp
  have hbc : bcells (bs ++ List.replicate k 0) = bcells bs ++ bcells (List.replicate k 0) := bcells_append _ _
  rcases hown.2 with ⟨rfl, h00⟩ | ⟨g, cap, cur, rfl, hbg, hg, hnc, hcm, hcs, htake⟩
  · have : bs = [] := List.eq_nil_of_length_eq_zero h00
    subst this
    have hr := Lib.run_append_nil_zeros w 40 3 40 5 i (.int .u8 0) .i64 .i64 Tryd.underlying40 Tryd.underlying3 hi hz0 k (by omega) (by rw [hz1]; decide) (by omega) (by rw [hz2]; omega)
    exact ⟨_, _, hr, own_zeros w B k hbase (by omega), ⟨rfl, rfl, rfl, by simp, fun j hj _ => heap_alloc_old w.drew _ hj⟩⟩
  · have hcs' : cur.size = cap := by simpa using hcs
    by_cases hroom : bs.length + k ≤ cap
    · have hw : IntKind.i64.wrap (k : Int) = k := by rw [IntKind.wrap_i64]; omega
      have hkl : (bcells (List.replicate k 0)).length = k := by simp [bcells]
      have hst := run_storeCells_at Tryd.prog g bs.length 5 (bcells (List.replicate k 0)) 0 cur w hg (by rw [hkl]; omega) (by intro u hu; simp [bcells] at hu; obtain ⟨_, rfl⟩ := hu; rfl)
      simp only [Nat.add_zero, hkl] at hst
      have hneg : ¬ ((k : Int) < 0) := by omega
      have h48i : ¬ (281474976710656 < (k : Int) * (i.bytes : Int)) := by rw [hz2]; omega
      have hk0 : k ≠ 0 := by omega
      have hzl := zeros_list k
      have hr : (Builtin.append_ #[40, 3] 40 #[.slice (some ⟨g, 0, none⟩) bs.length cap, .int .i64 (k : Int)]).run Tryd.prog w = .ok (.slice (some ⟨g, 0, none⟩) (bs.length + k) cap) (w.setRow g (cur.toList.take bs.length ++ bcells (List.replicate k 0) ++ cur.toList.drop (bs.length + k)).toArray) := by
        simp [Builtin.append_, run_underlying Tryd.underlying40, run_underlying Tryd.underlying3, sizeOf, typeInfo, zeroValue, hi, hz0, hz1, asInt, asIntOf, hw, hneg, h48i, hk0, hroom, Addr.add_lit, Value.cells, hzl, hst]
      refine ⟨_, _, hr, ⟨by rw [hbc]; simp [bcells], .inr ⟨g, cap, _, by rw [hlen], hbg, setRow_heap w g cur _ 5 _ hg, by rw [hlen]; exact hroom, hcm, ?_, ?_⟩⟩, ⟨rfl, rfl, rfl, by simp, fun j _ hk => setRow_other w g j _ (fun e => hk (by simp [Value.ownBlock, e]))⟩⟩
      · simp only [List.size_toArray, List.length_append, List.length_take, List.length_drop, Array.length_toList, hkl]
        omega
      · have ht' : cur.toList.take bs.length = bcells bs := by simpa using htake
        have hl2 : (bcells bs ++ bcells (List.replicate k 0)).length = (bs ++ List.replicate k (0 : UInt8)).length * 1 := by simp [bcells]
        rw [ht', hbc, ← hl2]
        exact List.take_left
    · have holds : ∀ j u, (bcells bs)[j]? = some u → w.cell? ((⟨g, 0, none⟩ : Addr).add j) = some u := World.ownsRow.cells hown (g := g) rfl
      have hfo := run_firstCells_some (P := Tryd.prog) w.drew i.size bs.length ⟨g, 0, none⟩ bs.length cap (bcells bs) (by rw [hz1]; simp [bcells]) (by simpa using holds)
      have hr := Lib.run_append_grow_zeros (P := Tryd.prog) w 40 3 40 5 i (.int .u8 0) .i64 .i64 Tryd.underlying40 Tryd.underlying3 hi hz0 (some ⟨g, 0, none⟩) bs.length cap (bcells bs) hfo k (by omega) (by rw [hz1]; decide) (by omega) (by omega) (by rw [hz2]; omega) (by rw [hz2]; exact growslice_fits (by omega) (by omega))
      have hge := grownCap_ge w (bs.length + k) cap 5
      refine ⟨_, _, hr, ⟨by rw [hbc]; simp [bcells], .inr ⟨w.heap.size, grownCap w (bs.length + k) cap 5, _, by rw [hlen], hbase, heap_alloc_new w.drew _, by rw [hlen]; exact hge, grownCap_le_maxLen w _ cap _ (by unfold maxLen; omega), ?_, ?_⟩⟩, ⟨rfl, rfl, rfl, by simp, fun j hj _ => heap_alloc_old w.drew _ hj⟩⟩
      · simp [size_zeroCells, Value.cells, bcells]
        omega
      · have e1 : (Value.int IntKind.u8 0).cells = #[.int .u8 0] := rfl
        have hl2 : (bcells bs ++ bcells (List.replicate k 0)).length = (bs ++ List.replicate k (0 : UInt8)).length * 1 := by simp [bcells]
        rw [e1]
        simp only [Array.toList_append, zeros_list, hbc]
        rw [← hl2]
        exact List.take_left
/-- 'append(b, make([]byte, k)...)' -/
theorem wpList_appZ {ops : Array Oper} {rest : List Oper} {o : Oper} {a : Act} {Q : Exit → Act → World → Prop} (w : World) (hgd : o.guard = none) (s x : Operand)
    (ho : o.op = .call { callee := .builtin .append, args := #[s, x], argTypes := #[40, 3] }) (hty : o.type = 40)
    (B : Nat) (v : Value) (bs : List UInt8) (hs : a.eval s = v) (hown : OwnB w B v bs) (k : Nat) (hx : a.eval x = .int .i64 (k : Int)) (h0 : 1 ≤ k) (hk : k ≤ 1024) (hl : bs.length ≤ 1099511627776) (hbase : B ≤ w.heap.size)
    (h : ∀ v' w', OwnB w' B v' (bs ++ List.replicate k 0) → Keep5 B w w' → wpList Tryd.prog ops Q rest (a.put o.dst v') w') : wpList Tryd.prog ops Q (o :: rest) a w := by
  obtain ⟨v', w', hr, h1, h2⟩ := own_appZ w B v bs k hown h0 hk hl hbase
  exact Lib.wpList_append_run w hgd s x _ _ ho v _ hs hx v' w' (by rw [hty]; exact hr) (h v' w' h1 (keep_grown hown hbase h2))

end Go.Proofs.YtfknmblobcjapaaDoor

namespace Go.Proofs.YtfknmblobcjapaaDoor
open Go.RowKit
set_option maxRecDepth 100000

/-- a byte is set in a row of bytes that a call owns -/
theorem keep5_set {w w' : World} {B g n cap : Nat} {bs : List UInt8} (h : OwnB w' B (.slice (some ⟨g, 0, none⟩) n cap) bs) (hk : Keep5 B w w') (i : Nat) (u : Value) : Keep5 B w (w'.setCell ⟨g, i, none⟩ u) := by
  have hlt := World.ownsRow.lt h g rfl
  refine hk.trans ⟨(Below.refl _ _).setCell hlt.1 _, fun k o hk ho => heap_setCell_other w' ⟨g, i, none⟩ k u ?_⟩
  intro e
  rcases h.2 with ⟨h1, _⟩ | ⟨g1, cap1, cur, e2, _, hg2, _⟩
  · cases h1
  · injection e2 with e3 _ _
    injection e3 with e4
    injection e4 with e5 _ _
    have e' : k = g1 := by rw [← e5]; simpa using e
    rw [e', hg2] at hk
    exact ho cur (0, 0) (Option.some.inj hk).symm

set_option maxHeartbeats 4000000 in
theorem appendRow_any (B : Nat) (vb : Value) (bs : List UInt8) (l : List Vl) (p : Option Addr) (c : Nat) (w : World) (hB : B ≤ w.heap.size) (ho : OwnB w B vb bs) (hbs : bs.length ≤ 549755813888) (hR : RowV w B p l) (hok : ∀ v ∈ l, v.ok ∧ v.s.size ≤ 65536) (h1 : 1 ≤ l.length) (h64 : l.length ≤ 64) :
    Calls Tryd.prog 11 #[vb, .slice p l.length c] w fun e w' => ∃ v', e = .returned v' ∧ OwnB w' B v' (bs ++ rowB l) ∧ Keep5 B w w' := by
  have HA : Hid (RowV w B p l ∧ (∀ v ∈ l, v.ok ∧ v.s.size ≤ 65536)) := ⟨hR, hok⟩
  have HOb : Hid (OwnB w B vb bs) := ho
  obtain ⟨pb, cb, rfl⟩ := ho.len
  clear ho
  have CB : Hid (∀ w1 : World, Calls Tryd.prog 21 #[.int .i64 (l.length : Int)] w1 fun e w' => e = .returned (.int .i64 (((l.length + 3) / 4 : Nat) : Int)) ∧ w' = w1) := fun w1 => pairBytes_any l.length w1 (by omega)
  have HRB : Hid (rowB l = packK ((l.length + 3) / 4) l l.length ++ l.flatMap toldB) := rfl
  have hsf := run_store_float
  obtain ⟨n, hn⟩ : ∃ n, (l.length + 3) / 4 = n := ⟨_, rfl⟩
  rw [hn] at CB HRB
  have hn1 : 1 ≤ n := by omega
  have hn2 : n ≤ 16 := by omega
  have HN : Hid (∀ j, j < l.length → j / 4 < n) := fun j hj => by omega
  clear hR hok hn
  generalize rowB l = R at *
  go_enter Tryd.func11, Tryd.ntmps11
  go_wp2_with fail
  refine (CB.out _).mono ?_
  rintro e w1 ⟨rfl, hw1⟩
  obtain rfl := hw1.symm
  go_wp2_with (first | (at_builtin; refine wpList_appZ _ rfl (.tmp 12) (.tmp 15) rfl rfl B (.slice pb bs.length cb) bs (by rfl) HOb.out n (by rfl) hn1 (by omega) (by omega) hB ?_; intro v2 w2 h2 h3))
  have hl2 : (bs ++ List.replicate n (0 : UInt8)).length = bs.length + n := by simp
  rcases h2.shape with ⟨_, h00⟩ | ⟨g, cap, rfl, hg1, hg2, _⟩
  · have := congrArg List.length h00
    rw [hl2] at this
    simp at this
    omega
  rw [hl2] at h2 ⊢
  have HZ : Hid (OwnB w2 B (.slice (some ⟨g, 0, none⟩) (bs.length + n) cap) (bs ++ packK n l 0)) := h2
  have hbz : Keep5 B w w2 := h3
  obtain ⟨N, hN⟩ : ∃ N, bs.length + n = N := ⟨_, rfl⟩
  rw [hN] at HZ ⊢
  have HNN : Hid (bs.length + n = N ∧ True) := ⟨hN, trivial⟩
  have hNb : N ≤ 549755813888 + 16 := by omega
  clear h2 h3 hl2 HOb hN
  go_loopw [19] (fun k wr => ∃ j : Nat, j ≤ l.length ∧ k = .int .i64 (j : Int) ∧ Hid (OwnB wr B (.slice (some ⟨g, 0, none⟩) N cap) (bs ++ packK n l j) ∧ Keep5 B w wr)) (fun k _ => l.length - (intOf k).toNat)
  case atStart => exact ⟨0, Nat.zero_le _, by go_num, ⟨HZ.out, hbz⟩⟩
  case round =>
    clear HZ hbz
    obtain ⟨j, hj, rfl, hO⟩ := hrel
    by_cases hj0 : j = l.length
    · subst hj0
      go_wp2_with fail
      have hPl := packK_len n l l.length
      generalize packK n l l.length = PK at *
      generalize wr = w3 at *
      go_loopw [0, 41] (fun u k wr => ∃ j : Nat, j ≤ l.length ∧ k = .int .i64 (j : Int) ∧ Hid (OwnB wr B u (bs ++ (PK ++ (l.take j).flatMap toldB)) ∧ Keep5 B w wr)) (fun _ k _ => l.length - (intOf k).toNat)
      case atStart => exact ⟨0, Nat.zero_le _, by go_num, ⟨by simpa using hO.out.1, hO.out.2⟩⟩
      case round =>
        clear hO
        obtain ⟨j, hj, rfl, hO⟩ := hrel
        by_cases hj0 : j = l.length
        · subst hj0
          rw [List.take_length] at hO
          go_wp2
          go_ret
          exact ⟨_, rfl, by rw [HRB.out]; exact hO.out.1, hO.out.2⟩
        · have hj1 : j < l.length := by omega
          obtain ⟨b, o, rfl, hbB, r0, r1, r2, r3⟩ := HA.out.1 j hj1
          have y0 := (hO.out.2.below.cell (p := ⟨b, _, none⟩) hbB).trans r0
          have y1 := (hO.out.2.below.cell (p := ⟨b, _, none⟩) hbB).trans r1
          have y2 := (hO.out.2.below.cell (p := ⟨b, _, none⟩) hbB).trans r2
          have y3 := (hO.out.2.below.cell (p := ⟨b, _, none⟩) hbB).trans r3
          have hvo := HA.out.2 l[j] (List.getElem_mem hj1)
          have hfl := flat_len (l.take j) (fun v hv => (HA.out.2 v (List.mem_of_mem_take hv)).2)
          have htl : (l.take j).length ≤ 64 := by simp; omega
          have HT : Hid (PK ++ (l.take (j + 1)).flatMap toldB = PK ++ (l.take j).flatMap toldB ++ toldB l[j]) := by
            show _ = _
            rw [← List.take_append_getElem hj1, List.flatMap_append, List.append_assoc]
            simp
          have hbl : (PK ++ (l.take j).flatMap toldB).length ≤ 1099511627776 - 65600 := by
            rw [List.length_append, hPl]
            omega
          have hzw := hO.out.2.below.size
          have hbl2 : (bs ++ (PK ++ (l.take j).flatMap toldB)).length ≤ 1099511627776 - 65600 := by
            rw [List.length_append, List.length_append, hPl]
            omega
          have CA : Hid (∀ w4 : World, B ≤ w4.heap.size → OwnB w4 B u0 (bs ++ (PK ++ (l.take j).flatMap toldB)) → Calls Tryd.prog 24 #[u0, .agg #[.int .i64 l[j].k, .int .i64 l[j].n, .float .f64 l[j].f, .string l[j].s]] w4 fun e w' => ∃ v', e = .returned v' ∧ OwnB w' B v' (bs ++ (PK ++ (l.take j).flatMap toldB) ++ toldB l[j]) ∧ Keep5 B w4 w') := fun w4 h1 h2 => appendValue_any B u0 _ l[j] w4 h1 h2 hvo.1 hvo.2 hbl2
          generalize PK ++ (l.take j).flatMap toldB = U at *
          generalize toldB l[j] = tb at *
          generalize l[j] = v at *
          obtain ⟨vk, vn, vf, vs⟩ := v
          dsimp only at y0 y1 y2 y3 CA
          clear r0 r1 r2 r3 hvo
          have hba : Below wr.heap.size wr (wr.alloc (.cells #[.int .i64 vk, .int .i64 vn, .float .f64 vf, .string vs] 44)) := by go_grown
          go_wp2_with fail
          refine (CA.out _ (by have := hba.size; omega) (hO.out.1.kept hba)).mono ?_
          rintro e w5 ⟨v5, rfl, hO5, hk5⟩
          have R : Hid (OwnB w5 B v5 (bs ++ (U ++ tb)) ∧ Keep5 B w w5) := ⟨by rw [← List.append_assoc]; exact hO5, (hO.out.2.trans (Keep5.of_below hba (by omega))).trans hk5⟩
          clear hO5 hk5 hba
          go_wp2_with fail
          go_roundw
          case rel => exact ⟨j + 1, hj1, by go_num, ⟨by rw [HT.out]; exact R.out.1, R.out.2⟩⟩
          case measure => simp [intOf]; omega
    · have hj1 : j < l.length := by omega
      obtain ⟨b, o, rfl, hbB, r0, r1, r2, r3⟩ := HA.out.1 j hj1
      have y0 := (hO.out.2.below.cell (p := ⟨b, _, none⟩) hbB).trans r0
      have y1 := (hO.out.2.below.cell (p := ⟨b, _, none⟩) hbB).trans r1
      have y2 := (hO.out.2.below.cell (p := ⟨b, _, none⟩) hbB).trans r2
      have y3 := (hO.out.2.below.cell (p := ⟨b, _, none⟩) hbB).trans r3
      have hq := HN.out j hj1
      obtain ⟨q, hqe⟩ : ∃ q, j / 4 = q := ⟨_, rfl⟩
      have hlp := packK_len n l j
      have HP : Hid (packK n l (j + 1) = (packK n l j).set (j / 4) ((packK n l j)[j / 4]'(by rw [hlp]; exact hq) ||| UInt8.ofNat (pairN l[j] * 4 ^ (j % 4)))) := packK_succ hj1 hq
      have hlN : (bs ++ packK n l j).length = N := by rw [List.length_append, hlp]; exact HNN.out.1
      obtain ⟨m0, m1, m2, m3⟩ := hO.out.1.at hlN (bs.length + j / 4) (by rw [List.length_append, hlp]; omega)
      rw [List.getElem_append_right (by omega)] at m0
      simp only [Nat.add_sub_cancel_left] at m0
      generalize (packK n l j)[j / 4]'(by rw [hlp]; exact hq) = x at *
      rw [hqe] at m0 m1 HP hq
      obtain ⟨m, hm⟩ : ∃ m, bs.length + q = m := ⟨_, rfl⟩
      rw [hm] at m0 m1
      have hmw : IntKind.i64.wrap ((bs.length : Int) + (q : Int)) = (m : Int) := by rw [IntKind.wrap_i64]; omega
      have hmN : (m : Int) < (N : Int) := by have := HNN.out.1; omega
      have HSE : Hid (∀ y : UInt8, (bs ++ packK n l j).set m y = bs ++ (packK n l j).set q y) := fun y => by rw [← hm, List.set_append_right _ _ (by omega)]; simp
      have HMN : Hid (m < N) := (show m < N by have := HNN.out.1; omega)
      clear hm
      have CP : Hid (∀ w1 : World, Calls Tryd.prog 22 #[.agg #[.int .i64 l[j].k, .int .i64 l[j].n, .float .f64 l[j].f, .string l[j].s]] w1 fun e w' => e = .returned (.int .u8 (pairN l[j] : Int)) ∧ Below w1.heap.size w1 w') := fun w1 => pairOf_any l[j] w1
      have CH : Hid (∀ w1 : World, Calls Tryd.prog 23 #[.int .i64 (j : Int)] w1 fun e w' => e = .returned (.int .i64 ((2 * (j % 4) : Nat) : Int)) ∧ w' = w1) := fun w1 => shift_any j w1 (by omega)
      have hpl := pairN_lt l[j]
      generalize pairN l[j] = pn at *
      have hor := or_pack x pn (j % 4) hpl (Nat.mod_lt _ (by decide))
      have hsh : IntKind.u8.wrap ((pn : Int) * 2 ^ (2 * ((j : Int) % 4)).toNat) = ((pn * 4 ^ (j % 4) : Nat) : Int) := by
        have h4 := pow4 (j % 4) (Nat.mod_lt _ (by decide))
        have e : (2 * ((j : Int) % 4)).toNat = 2 * (j % 4) := by omega
        have hz : pn * 4 ^ (j % 4) ≤ 128 := by
          have : pn * 4 ^ (j % 4) ≤ 2 * 64 := Nat.mul_le_mul (by omega) h4
          omega
        have e2 : (pn : Int) * 2 ^ (2 * (j % 4)) = ((pn * 4 ^ (j % 4) : Nat) : Int) := by
          rw [show (4 : Nat) = 2 ^ 2 from rfl, ← Nat.pow_mul]
          norm_cast
        rw [e, e2]
        generalize pn * 4 ^ (j % 4) = zz at hz ⊢
        simp [IntKind.wrap, IntKind.bits, IntKind.signed]
        omega
      generalize pn * 4 ^ (j % 4) = z at *
      obtain ⟨y, hy⟩ : ∃ y, x ||| UInt8.ofNat z = y := ⟨_, rfl⟩
      rw [hy] at hor HP
      clear hy
      generalize l[j] = v at *
      obtain ⟨vk, vn, vf, vs⟩ := v
      dsimp only at y0 y1 y2 y3 CP
      have hqi : (j : Int) / 4 = (q : Int) := by omega
      have hqn : (q : Int) < (n : Int) := by omega
      have hqw : IntKind.i64.wrap (q : Int) = (q : Int) := by rw [IntKind.wrap_i64]; omega
      clear r0 r1 r2 r3
      go_wp2_with fail
      have b0 : (wr.alloc (.cells #[.int .i64 vk, .int .i64 vn, .float .f64 vf, .string vs] 44)).cell? ⟨wr.heap.size, 0, none⟩ = some (.int .i64 vk) := by simp [go_sem]
      have b1 : (wr.alloc (.cells #[.int .i64 vk, .int .i64 vn, .float .f64 vf, .string vs] 44)).cell? ⟨wr.heap.size, 1, none⟩ = some (.int .i64 vn) := by simp [go_sem]
      have b2 : (wr.alloc (.cells #[.int .i64 vk, .int .i64 vn, .float .f64 vf, .string vs] 44)).cell? ⟨wr.heap.size, 2, none⟩ = some (.float .f64 vf) := by simp [go_sem]
      have b3 : (wr.alloc (.cells #[.int .i64 vk, .int .i64 vn, .float .f64 vf, .string vs] 44)).cell? ⟨wr.heap.size, 3, none⟩ = some (.string vs) := by simp [go_sem]
      have hba : Below wr.heap.size wr (wr.alloc (.cells #[.int .i64 vk, .int .i64 vn, .float .f64 vf, .string vs] 44)) := by go_grown
      have m0' := (hba.cell (p := ⟨g, m, none⟩) m3).trans m0
      have HO4 : Hid (OwnB (wr.alloc (.cells #[.int .i64 vk, .int .i64 vn, .float .f64 vf, .string vs] 44)) B (.slice (some ⟨g, 0, none⟩) N cap) (bs ++ packK n l j) ∧ Keep5 B w (wr.alloc (.cells #[.int .i64 vk, .int .i64 vn, .float .f64 vf, .string vs] 44))) := ⟨hO.out.1.kept hba, hO.out.2.trans (Keep5.of_below hba (by have := hO.out.2.below.size; omega))⟩
      have hzB : B ≤ (wr.alloc (.cells #[.int .i64 vk, .int .i64 vn, .float .f64 vf, .string vs] 44)).heap.size := by have := HO4.out.2.below.size; omega
      have hgh : g < wr.heap.size := m3
      clear hO m0 m1 m2 m3 y0 y1 y2 y3 hba
      generalize wr.alloc (.cells #[.int .i64 vk, .int .i64 vn, .float .f64 vf, .string vs] 44) = w4 at *
      generalize wr.heap.size = h at *
      refine wp_region_L (fun w' => SP g m h (x.toNat : Int) vk vn vf vs w') 14 (by kernel_rfl) ?_
      have hS0 : SP g m h (x.toNat : Int) vk vn vf vs w4.drew := ⟨m0', b0, b1, b2, b3⟩
      refine wpL_take (v := ?_) 0 rfl (by kernel_rfl) (fun _ _ _ h => h) (by rfl) ?_ hS0 ?_
      rotate_left
      focus
        intro w9 hw9
        go_simp
        try with_reducible rfl
      try simp only [Act.put, List.setIfInBounds_toArray, List.set_cons_zero, List.set_cons_succ]
      refine wpL_take (v := ?_) 1 rfl (by kernel_rfl) (fun _ _ _ h => h) (by rfl) ?_ hS0 ?_
      rotate_left
      focus
        intro w9 hw9
        go_simp
        try with_reducible rfl
      try simp only [Act.put, List.setIfInBounds_toArray, List.set_cons_zero, List.set_cons_succ]
      refine wpL_take (v := ?_) 2 rfl (by kernel_rfl) (fun _ _ _ h => h) (by rfl) ?_ hS0 ?_
      rotate_left
      focus
        intro w9 hw9
        go_simp
        try with_reducible rfl
      try simp only [Act.put, List.setIfInBounds_toArray, List.set_cons_zero, List.set_cons_succ]
      refine wpL_take (v := ?_) 3 rfl (by kernel_rfl) (fun _ _ _ h => h) (by rfl) ?_ hS0 ?_
      rotate_left
      focus
        intro w9 hw9
        go_simp
        try with_reducible rfl
      try simp only [Act.put, List.setIfInBounds_toArray, List.set_cons_zero, List.set_cons_succ]
      refine wpL_take (v := ?_) 4 rfl (by kernel_rfl) (fun _ _ _ h => h) (by rfl) ?_ hS0 ?_
      rotate_left
      focus
        intro w9 hw9
        go_simp
        try with_reducible rfl
      try simp only [Act.put, List.setIfInBounds_toArray, List.set_cons_zero, List.set_cons_succ]
      refine wpL_take (v := ?_) 5 rfl (by kernel_rfl) (fun _ _ _ h => h) (by rfl) ?_ hS0 ?_
      rotate_left
      focus
        intro w9 hw9
        go_simp
        try with_reducible rfl
      try simp only [Act.put, List.setIfInBounds_toArray, List.set_cons_zero, List.set_cons_succ]
      refine wpL_take (v := ?_) 6 rfl (by kernel_rfl) (fun _ _ _ h => h) (by rfl) ?_ hS0 ?_
      rotate_left
      focus
        intro w9 hw9
        go_simp
        try with_reducible rfl
      try simp only [Act.put, List.setIfInBounds_toArray, List.set_cons_zero, List.set_cons_succ]
      refine wpL_take (v := ?_) 7 rfl (by kernel_rfl) (fun _ _ _ h => h) (by rfl) ?_ hS0 ?_
      rotate_left
      focus
        intro w9 hw9
        go_simp
        try with_reducible rfl
      try simp only [Act.put, List.setIfInBounds_toArray, List.set_cons_zero, List.set_cons_succ]
      refine wpL_take (v := ?_) 9 rfl (by kernel_rfl) (fun _ _ _ h => h) (by rfl) ?_ hS0 ?_
      rotate_left
      focus
        intro w9 hw9
        go_simp
        try with_reducible rfl
      try simp only [Act.put, List.setIfInBounds_toArray, List.set_cons_zero, List.set_cons_succ]
      refine wpL_one 8 rfl (by kernel_rfl) (by rfl) ?_
      intro K hK
      go_simp
      refine (CP.out _).mono ?_
      rintro e w5 ⟨rfl, hb5⟩
      dsimp only
      have hS5 : SP g m h (x.toNat : Int) vk vn vf vs w5 := hS0.on hb5
      have hb45 : Below w4.heap.size w4 w5 := (Below.refl w4.heap.size w4).drew.trans hb5
      have HO5 : Hid (OwnB w5 B (.slice (some ⟨g, 0, none⟩) N cap) (bs ++ packK n l j) ∧ Keep5 B w w5) := ⟨HO4.out.1.kept hb45, HO4.out.2.trans (Keep5.of_below hb45 hzB)⟩
      clear hb5 hb45
      refine hK.out _ _ (fun _ => hS5) ?_
      try simp only [Act.put, List.setIfInBounds_toArray, List.set_cons_zero, List.set_cons_succ]
      refine wpL_one 10 rfl (by kernel_rfl) (by rfl) ?_
      intro K hK
      go_simp
      refine (CH.out _).mono ?_
      rintro e w6 ⟨rfl, hw6⟩
      obtain rfl := hw6.symm
      dsimp only
      refine hK.out _ _ (fun _ => hS5) ?_
      try simp only [Act.put, List.setIfInBounds_toArray, List.set_cons_zero, List.set_cons_succ]
      have f5 := (HO5.out.1.at hlN m (by rw [hlN]; exact HMN.out)).2.1
      have c5 := hS5.1
      refine wpL_take (v := ?_) 11 rfl (by kernel_rfl) (fun _ _ _ h => h) (by rfl) ?_ hS5 ?_
      rotate_left
      focus
        intro w9 hw9
        go_simp
        try with_reducible rfl
      try simp only [Act.put, List.setIfInBounds_toArray, List.set_cons_zero, List.set_cons_succ]
      refine wpL_take (v := ?_) 12 rfl (by kernel_rfl) (fun _ _ _ h => h) (by rfl) ?_ hS5 ?_
      rotate_left
      focus
        intro w9 hw9
        go_simp
        try with_reducible rfl
      try simp only [Act.put, List.setIfInBounds_toArray, List.set_cons_zero, List.set_cons_succ]
      refine wpL_take (v := ?_) 13 rfl (by kernel_rfl) (fun _ _ _ h => h) (by rfl) ?_ hS5 ?_
      rotate_left
      focus
        intro w9 hw9
        go_simp
        try with_reducible rfl
      try simp only [Act.put, List.setIfInBounds_toArray, List.set_cons_zero, List.set_cons_succ]
      refine wpL_one 14 rfl (by kernel_rfl) (by rfl) ?_
      intro K hK
      go_simp
      refine hK.out _ _ (fun h => absurd rfl h) ?_
      try simp only [Act.put, List.setIfInBounds_toArray, List.set_cons_zero, List.set_cons_succ]
      refine wpL_done (by kernel_rfl) ?_ _
      refine NoPanic.normal ?_
      go_wp2_with fail
      go_roundw
      case rel => exact ⟨j + 1, hj1, by go_num, ⟨by rw [HP.out, ← HSE.out]; exact HO5.out.1.set hlN m y, keep5_set HO5.out.1 HO5.out.2 m _⟩⟩
      case measure => simp [intOf]; omega

end Go.Proofs.YtfknmblobcjapaaDoor

namespace Go.Proofs.YtfknmblobcjapaaDoor
open Go.RowKit
set_option maxRecDepth 100000

/-- two values, bit by bit -/
def sameV (a b : Vl) : Bool := sameB a.k a.n b.k b.n a.f b.f a.s b.s
/-- two rows, bit by bit -/
def sameL : List Vl → List Vl → Bool
  | [], [] => true
  | a :: x, b :: y => sameV a b && sameL x y
  | _, _ => false
theorem sameL_len {x y : List Vl} (h : x.length ≠ y.length) : sameL x y = false := by
  induction x generalizing y with
  | nil => cases y with
    | nil => exact absurd rfl h
    | cons b y => rfl
  | cons a x ih => cases y with
    | nil => rfl
    | cons b y =>
      show (sameV a b && sameL x y) = false
      rw [ih (by simpa using h)]
      simp
theorem sameL_drop {x y : List Vl} {j : Nat} (h1 : j < x.length) (h2 : j < y.length) : sameL (x.drop j) (y.drop j) = (sameV x[j] y[j] && sameL (x.drop (j + 1)) (y.drop (j + 1))) := by
  rw [List.drop_eq_getElem_cons h1, List.drop_eq_getElem_cons h2]
  rfl

set_option maxHeartbeats 2000000 in
theorem rsameRow_any (L M : List Vl) (p q : Option Addr) (c d : Nat) (w : World) (hA : RowV w w.heap.size p L) (hB : RowV w w.heap.size q M) (hlen : L.length ≤ 17592186043904) (_hlen2 : M.length ≤ 17592186043904) :
    Calls Tryd.prog 6 #[.slice p L.length c, .slice q M.length d] w fun e w' => e = .returned (.bool (sameL L M)) ∧ Below w.heap.size w w' := by
  have HA : Hid (RowV w w.heap.size p L ∧ RowV w w.heap.size q M) := ⟨hA, hB⟩
  clear hA hB
  by_cases hl : L.length = M.length
  · have HL : Hid (L.length = M.length ∧ True) := ⟨hl, trivial⟩
    rw [← hl]
    have hE : Hid (sameL (L.drop L.length) (M.drop L.length) = true) := by
      show _ = _
      rw [List.drop_length, hl, List.drop_length]
      rfl
    clear hl
    go_enter Tryd.func6, Tryd.ntmps6
    go_wp2_with fail
    go_loopw [5] (fun i wr => ∃ j : Nat, j ≤ L.length ∧ i = .int .i64 (j : Int) ∧ Hid (sameL (L.drop j) (M.drop j) = sameL L M) ∧ Below w.heap.size w wr) (fun i _ => L.length - (intOf i).toNat)
    case atStart => exact ⟨0, Nat.zero_le _, by go_num, rfl, Below.refl _ _⟩
    case round =>
      obtain ⟨j, hj, rfl, hs, hn⟩ := hrel
      by_cases hj0 : j = L.length
      · subst hj0
        go_wp2
        go_ret
        exact ⟨boolV (hE.out.symm.trans hs.out), hn⟩
      · have hj1 : j < L.length := by omega
        have hj2 : j < M.length := by have := HL.out.1; omega
        obtain ⟨b, o, rfl, hbB, c0, c1, c2, c3⟩ := HA.out.1 j hj1
        obtain ⟨bm, om, rfl, hbm, d0, d1, d2, d3⟩ := HA.out.2 j hj2
        have a0 := (hn.cell (p := ⟨b, o + j * 4, none⟩) hbB).trans c0
        have a1 := (hn.cell (p := ⟨b, o + j * 4 + 1, none⟩) hbB).trans c1
        have a2 := (hn.cell (p := ⟨b, o + j * 4 + 2, none⟩) hbB).trans c2
        have a3 := (hn.cell (p := ⟨b, o + j * 4 + 3, none⟩) hbB).trans c3
        have q0 := (hn.cell (p := ⟨bm, om + j * 4, none⟩) hbm).trans d0
        have q1 := (hn.cell (p := ⟨bm, om + j * 4 + 1, none⟩) hbm).trans d1
        have q2 := (hn.cell (p := ⟨bm, om + j * 4 + 2, none⟩) hbm).trans d2
        have q3 := (hn.cell (p := ⟨bm, om + j * 4 + 3, none⟩) hbm).trans d3
        have HS : Hid ((sameV L[j] M[j] && sameL (L.drop (j + 1)) (M.drop (j + 1))) = sameL L M) := (sameL_drop hj1 hj2).symm.trans hs.out
        have CS : Hid (∀ w1 : World, Calls Tryd.prog 15 #[.agg #[.int .i64 (L[j]).k, .int .i64 (L[j]).n, .float .f64 (L[j]).f, .string (L[j]).s], .agg #[.int .i64 (M[j]).k, .int .i64 (M[j]).n, .float .f64 (M[j]).f, .string (M[j]).s]] w1 fun e w' => e = .returned (.bool (sameV L[j] M[j])) ∧ Below w1.heap.size w1 w') := fun w1 => rsame_any (L[j]).k (L[j]).n (M[j]).k (M[j]).n (L[j]).f (M[j]).f (L[j]).s (M[j]).s w1
        clear c0 c1 c2 c3 d0 d1 d2 d3 hj0 hs
        generalize sameV L[j] M[j] = sv at *
        generalize L[j] = x at *
        generalize M[j] = y at *
        obtain ⟨xk, xn, xf, xs⟩ := x
        obtain ⟨yk, yn, yf, ys⟩ := y
        dsimp only at a0 a1 a2 a3 q0 q1 q2 q3 CS
        cases sv
        · have HE : Hid (sameL L M = false) := HS.out.symm
          clear HS
          go_wp2_with fail
          go_region_with (first | (go_at_call 15; refine (CS.out _).mono ?_; rintro e w5 ⟨rfl, hb5⟩))
          all_goals (try go_wp2)
          all_goals go_ret
          all_goals exact ⟨boolV HE.out.symm, hn.drew.trans (hb5.mono (by simpa using hn.size))⟩
        · have HE : Hid (sameL (L.drop (j + 1)) (M.drop (j + 1)) = sameL L M) := HS.out
          clear HS
          go_wp2_with fail
          go_region_with (first | (go_at_call 15; refine (CS.out _).mono ?_; rintro e w5 ⟨rfl, hb5⟩))
          all_goals (try go_wp2)
          all_goals go_roundw
          all_goals first
            | (exact ⟨j + 1, by omega, by go_num, HE, hn.drew.trans (hb5.mono (by simpa using hn.size))⟩)
            | (simp [intOf]; omega)
  · rw [sameL_len hl]
    have hl' : ((L.length : Int) != (M.length : Int)) = true := by simp; omega
    clear hl HA
    go_enter Tryd.func6, Tryd.ntmps6
    go_wp2
    go_ret
    exact ⟨rfl, Below.refl _ _⟩





end Go.Proofs.YtfknmblobcjapaaDoor
