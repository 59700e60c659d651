/- Plain mathematics: a row's keys. Some of a row's values: row's pick, the document's some. -/
import Derived.Test.YteadniomgbhecaaGreatDoorGWColm
import Derived.Test.YteadniomgbhecaaGreatDoorGWOwnV
namespace Go.Proofs.YteadniomgbhecaaGreatDoor
open Go.RowKit
set_option maxRecDepth 100000

theorem firstE_each {f : Nat → Int} : ∀ {n : Nat}, firstE f n = 0 → ∀ i, i < n → f i = 0
  | 0, _, i, hi => by omega
  | n + 1, h, i, hi => by
    unfold firstE at h
    split at h
    · rename_i h1
      by_cases e : i = n
      · rw [e]; exact h
      · exact firstE_each h1 i (by omega)
    · exact absurd h (by assumption)
def InL (n : Nat) (K : List Int) : Prop := (∀ x ∈ K, 0 ≤ x ∧ x < n) ∧ K.length ≤ n ∧ 1 ≤ K.length
theorem apart_inK {n : Nat} {K : List Int} (h : apartB n K = true) (h1 : 1 ≤ K.length) : InL n K := by
  unfold apartB at h
  simp only [Bool.and_eq_true, List.all_eq_true, decide_eq_true_eq] at h
  exact ⟨fun x hx => h.1 x hx, nodup_len n K (fun x hx => h.1 x hx) h.2, h1⟩
theorem adm_key {t : Tb} {l : List Vl} (h : admS t l = 0) : l.length = t.cs.length ∧ t.cs.length ≤ 64 ∧ InL t.cs.length t.key ∧ ∀ i (hi : i < t.ix.length), InL t.cs.length t.ix[i].cs := by
  unfold admS at h
  split at h
  · rename_i hc
    split at h
    · rename_i hl
      refine ⟨hl, (checkS_counts t hc).2, ?_⟩
      unfold checkS at hc
      split at hc
      · split at hc
        · split at hc
          · split at hc
            · rename_i hk
              split at hc
              · rename_i hx
                refine ⟨?_, fun i hi => ?_⟩
                · unfold keyB at hk
                  simp only [Bool.and_eq_true, decide_eq_true_eq] at hk
                  exact apart_inK hk.1.2 hk.1.1
                · have h1 := firstE_each hx i hi
                  rw [ixE_at hi] at h1
                  unfold ixE1 at h1
                  split at h1
                  · split at h1
                    · omega
                    · split at h1
                      · rename_i h2
                        unfold listB at h2
                        simp only [Bool.and_eq_true, decide_eq_true_eq] at h2
                        exact apart_inK h2.2 h2.1
                      · omega
                  · omega
              · exact absurd hc (by assumption)
            · omega
          · exact absurd hc (by assumption)
        · omega
      · omega
    · omega
  · exact absurd h (by assumption)
def pickL (l : List Vl) (K : List Int) : List Vl := K.map (fun x => l.getD x.toNat ⟨0, 0, 0, ⟨#[]⟩⟩)
theorem pickL_len (l : List Vl) (K : List Int) : (pickL l K).length = K.length := by unfold pickL; simp
theorem pickL_app (l : List Vl) (K M : List Int) : pickL l (K ++ M) = pickL l K ++ pickL l M := by unfold pickL; simp
theorem pickL_ok {l : List Vl} {K : List Int} (hl : ∀ v ∈ l, v.ok) (hK : ∀ x ∈ K, 0 ≤ x ∧ x < l.length) : ∀ v ∈ pickL l K, v.ok := by
  intro v hv
  unfold pickL at hv
  obtain ⟨x, hx, rfl⟩ := List.mem_map.1 hv
  have h1 := hK x hx
  have h2 : x.toNat < l.length := by omega
  rw [List.getD_eq_getElem?_getD, List.getElem?_eq_getElem h2]
  exact hl _ (List.getElem_mem h2)
theorem pickL_at {l : List Vl} {K : List Int} {i : Nat} (hi : i < K.length) (hx : K[i].toNat < l.length) : (pickL l K)[i]? = some l[K[i].toNat] := by
  unfold pickL
  rw [List.getElem?_map, List.getElem?_eq_getElem hi, Option.map_some, List.getD_eq_getElem?_getD, List.getElem?_eq_getElem hx]
  rfl

end Go.Proofs.YteadniomgbhecaaGreatDoor

namespace Go.Proofs.YteadniomgbhecaaGreatDoor
open Go.RowKit
set_option maxRecDepth 100000

def zK : Vl := ⟨0, 0, 0, ⟨#[]⟩⟩
theorem made_k (n : Nat) : (madeCells #[.int .i64 0, .int .i64 0, .float .f64 0, .string ⟨#[]⟩] (n * 4)).toList = vcells (List.replicate n zK) := by
  apply List.ext_getElem?
  intro j
  by_cases hj : j < n * 4
  · have e := vcell_at (List.replicate n zK) (j / 4) (by simp; omega) (j % 4) (Nat.mod_lt _ (by decide))
    have e2 : j / 4 * 4 + j % 4 = j := by omega
    rw [e2] at e
    rw [e]
    have h4 : j % 4 = 0 ∨ j % 4 = 1 ∨ j % 4 = 2 ∨ j % 4 = 3 := by omega
    rcases h4 with h | h | h | h <;> simp [madeCells, hj, h, vcell, zK]
  · rw [List.getElem?_eq_none (by simp [madeCells]; omega), List.getElem?_eq_none (by rw [vcells_len]; simp; omega)]
theorem put_setK (V : List Vl) (m : Nat) (v : Vl) : (V ++ List.replicate (m + 1) zK).set V.length v = (V ++ [v]) ++ List.replicate m zK := by
  rw [List.set_append_right _ _ (Nat.le_refl _), Nat.sub_self, List.replicate_succ, List.set_cons_zero, List.append_assoc]
  rfl
/-- picked so far -/
def PkS (w : World) (n : Nat) (V : List Vl) (j g : Nat) (wr : World) : Prop := g < wr.heap.size ∧ w.heap.size ≤ g ∧ OwnV wr w.heap.size (.slice (some ⟨g, 0, none⟩) n n) (V.take j ++ List.replicate (n - j) zK) ∧ Below w.heap.size w wr
theorem PkS.put {w : World} {n : Nat} {V : List Vl} {j g : Nat} {wr : World} (h : PkS w n V j g wr) (hV : V.length = n) (hj : j < n) (v : Vl) (hv : V[j]? = some v) :
    PkS w n V (j + 1) g ((((wr.setCell ⟨g, j * 4, none⟩ (.int .i64 v.k)).setCell ⟨g, j * 4 + 1, none⟩ (.int .i64 v.n)).setCell ⟨g, j * 4 + 2, none⟩ (.float .f64 v.f)).setCell ⟨g, j * 4 + 3, none⟩ (.string v.s)) := by
  obtain ⟨h1, h2, h3, h4⟩ := h
  refine ⟨by simpa [World.setCell] using h1, h2, ?_, (((h4.setCell h2 _).setCell h2 _).setCell h2 _).setCell h2 _⟩
  have hl : (V.take j).length = j := by rw [List.length_take]; omega
  obtain ⟨m, hm⟩ : ∃ m, n - j = m + 1 := ⟨n - j - 1, by omega⟩
  rw [hm] at h3
  have h5 := h3.set (by simp; omega) j (by simp; omega) v
  have e : (V.take j ++ List.replicate (m + 1) zK).set j v = (V.take j ++ [v]) ++ List.replicate m zK := by
    have := put_setK (V.take j) m v
    rw [hl] at this
    exact this
  rw [e] at h5
  have e2 : V.take (j + 1) = V.take j ++ [v] := by
    have hj' : j < V.length := by omega
    rw [List.take_succ_eq_append_getElem hj']
    rw [List.getElem?_eq_getElem hj'] at hv
    injection hv with hv
    rw [hv]
  have e3 : n - (j + 1) = m := by omega
  rw [e2, e3]
  exact h5

set_option maxHeartbeats 4000000 in
theorem pick_any (l : List Vl) (K : List Int) (p q : Option Addr) (cl ck : Nat) (w : World) (hR : RowV w w.heap.size p l) (hK : RowI w w.heap.size q K) (hin : ∀ x ∈ K, 0 ≤ x ∧ x < l.length) (_hl : l.length ≤ 64) (hk : K.length ≤ 128) :
    Calls Tryz.prog 11 #[.slice p l.length cl, .slice q K.length ck] w fun e w' => ∃ v, e = .returned v ∧ OwnV w' w.heap.size v (pickL l K) ∧ Below w.heap.size w w' := by
  have hsf := run_store_float
  have HR : Hid (RowV w w.heap.size p l) := hR
  have HK : Hid (RowI w w.heap.size q K) := hK
  have HI : Hid (∀ x ∈ K, 0 ≤ x ∧ x < l.length) := hin
  have HP : Hid (∀ i (hi : i < K.length), ∃ x : Nat, K[i] = (x : Int) ∧ ∃ hx : x < l.length, (pickL l K)[i]? = some l[x]) := by
    intro i hi
    have h1 := hin _ (List.getElem_mem hi)
    have hx : K[i].toNat < l.length := by omega
    exact ⟨K[i].toNat, by omega, hx, pickL_at hi hx⟩
  have HPl : Hid ((pickL l K).length = K.length) := pickL_len l K
  generalize pickL l K = V at *
  clear hR hK hin
  obtain ⟨n, hn⟩ : ∃ n, K.length = n := ⟨_, rfl⟩
  have HN : Hid (K.length = n) := hn
  obtain ⟨m, hm⟩ : ∃ m, l.length = m := ⟨_, rfl⟩
  have HM : Hid (l.length = m) := hm
  rw [hn] at hk HPl ⊢
  rw [hm]
  clear hn hm
  have hmk : ∀ w3 : World, (Instr.makeSlice 28 (.int .i64 (n : Int)) (.int .i64 (n : Int))).run Tryz.prog w3 = .ok (.slice (some ⟨w3.heap.size, 0, none⟩) n n) (w3.alloc (.cells (madeCells #[.int .i64 0, .int .i64 0, .float .f64 0, .string ⟨#[]⟩] (n * 4)) 45)) := by
    intro w3
    obtain ⟨i, hi, q0, q1, q2⟩ := info_parts info_val
    have := run_make (P := Tryz.prog) w3 28 45 i _ Tryz.underlying28 hi q0 .i64 .i64 (n : Int) (n : Int) (by omega) (Int.le_refl _) (by rw [q2]; omega) (by omega)
    rw [this, q1]
    simp [Value.cells]
  have H0 : Hid (PkS w n V 0 w.heap.size (w.alloc (.cells (madeCells #[.int .i64 0, .int .i64 0, .float .f64 0, .string ⟨#[]⟩] (n * 4)) 45))) := by
    refine ⟨by simp, Nat.le_refl _, ?_, (Below.refl _ _).alloc (Nat.le_refl _) _⟩
    show World.ownsRow _ _ _ _ _ _ _
    rw [List.take_zero, List.nil_append, Nat.sub_zero, ← made_k, List.length_replicate]
    exact World.ownsRow_lit w _ _ (Nat.le_refl _) (by unfold maxLen; omega) (size_madeCells _ _)
  go_enter Tryz.func11, Tryz.ntmps11
  go_wp2_with fail
  generalize w.alloc (.cells (madeCells #[.int .i64 0, .int .i64 0, .float .f64 0, .string ⟨#[]⟩] (n * 4)) 45) = w1 at *
  obtain ⟨g, hg⟩ : ∃ g, w.heap.size = g := ⟨_, rfl⟩
  have HG : Hid (PkS w n V 0 g w1) := by rw [← hg]; exact H0
  rw [hg]
  clear hg H0 hmk
  go_loopw [13] (fun si wq => ∃ j : Nat, j ≤ n ∧ si = .int .i64 (j : Int) ∧ Hid (PkS w n V j g wq)) (fun si _ => ((n : Int) - intOf si).toNat)
  case atStart => exact ⟨0, by omega, rfl, HG⟩
  case round =>
    clear HG
    obtain ⟨j, hj, rfl, HJ⟩ := hrel
    rcases Nat.lt_or_eq_of_le hj with hlt | heq
    · have g1 : decide ((j : Int) < (n : Int)) = true := by simp; omega
      have gj : (j : Int) < (n : Int) := by omega
      have hjK : j < K.length := by rw [HN.out]; exact hlt
      obtain ⟨x, hx, hxl, hv⟩ := HP.out j hjK
      obtain ⟨b, o, hq, hb, c0⟩ := HK.out.keep HJ.out.2.2.2 j hjK
      obtain ⟨b2, o2, hp2, hb2, d0, d1, d2, d3⟩ := HR.out.keep HJ.out.2.2.2 x hxl
      subst hq hp2
      rw [hx] at c0
      have gx : (x : Int) < (m : Int) := by have := HM.out; omega
      have HJ3 := HJ.out.put HPl.out hlt l[x] hv
      have hln : (V.take j ++ List.replicate (n - j) zK).length = n := by
        have := HPl.out
        rw [List.length_append, List.length_take, List.length_replicate]; omega
      obtain ⟨⟨t0, t1, t2, t3⟩, z0, z1, z2, z3⟩ := HJ.out.2.2.1.at hln j (by rw [hln]; exact hlt)
      generalize (V.take j ++ List.replicate (n - j) zK)[j]'(by rw [hln]; exact hlt) = old at *
      generalize l[x] = lx at *
      obtain ⟨lk, ln, lf, ls⟩ := lx
      obtain ⟨ok, on, of, os⟩ := old
      dsimp only at d0 d1 d2 d3 t0 t1 t2 t3 HJ3
      have HJ4 : Hid (PkS w n V (j + 1) g ((((wr.setCell ⟨g, j * 4, none⟩ (.int .i64 lk)).setCell ⟨g, j * 4 + 1, none⟩ (.int .i64 ln)).setCell ⟨g, j * 4 + 2, none⟩ (.float .f64 lf)).setCell ⟨g, j * 4 + 3, none⟩ (.string ls))) := HJ3
      clear HJ3 hln hv hx hxl hb hb2 hjK HJ
      go_wp2_with fail
      go_roundw
      case rel => exact ⟨j + 1, by omega, by go_num, HJ4⟩
      case measure => simp [intOf]; omega
    · have g1 : decide ((j : Int) < (n : Int)) = false := by simp; omega
      have HZ : Hid (OwnV wr w.heap.size (.slice (some ⟨g, 0, none⟩) n n) V ∧ Below w.heap.size w wr) := by
        obtain ⟨-, -, h3, h4⟩ := HJ.out
        rw [heq, Nat.sub_self, List.replicate_zero, List.append_nil, ← HPl.out, List.take_length, HPl.out] at h3
        exact ⟨h3, h4⟩
      clear HJ
      go_wp2_with fail
      go_ret
      exact ⟨_, rfl, HZ.out⟩
set_option maxHeartbeats 4000000 in
theorem rpicks_any (l : List Vl) (K : List Int) (p q : Option Addr) (cl ck : Nat) (w : World) (hR : RowV w w.heap.size p l) (hK : RowI w w.heap.size q K) (hin : ∀ x ∈ K, 0 ≤ x ∧ x < l.length) (_hl : l.length ≤ 64) (hk : K.length ≤ 128) :
    Calls Tryz.prog 14 #[.slice q K.length ck, .slice p l.length cl] w fun e w' => ∃ v, e = .returned v ∧ OwnV w' w.heap.size v (pickL l K) ∧ Below w.heap.size w w' := by
  have HR : Hid (RowV w w.heap.size p l) := hR
  have HK : Hid (RowI w w.heap.size q K) := hK
  have HP : Hid (∀ i (hi : i < K.length), ∃ x : Nat, K[i] = (x : Int) ∧ ∃ hx : x < l.length, (pickL l K)[i]? = some l[x]) := by
    intro i hi
    have h1 := hin _ (List.getElem_mem hi)
    have hx : K[i].toNat < l.length := by omega
    exact ⟨K[i].toNat, by omega, hx, pickL_at hi hx⟩
  have HPl : Hid ((pickL l K).length = K.length) := pickL_len l K
  generalize pickL l K = V at *
  clear hR hK hin
  obtain ⟨n, hn⟩ : ∃ n, K.length = n := ⟨_, rfl⟩
  have HN : Hid (K.length = n) := hn
  obtain ⟨m, hm⟩ : ∃ m, l.length = m := ⟨_, rfl⟩
  have HM : Hid (l.length = m) := hm
  rw [hn] at hk HPl ⊢
  rw [hm]
  clear hn hm
  go_enter Tryz.func14, Tryz.ntmps14
  go_wp2_with fail
  go_loopw [5, 6] (fun sv si wq => ∃ j : Nat, j ≤ n ∧ si = .int .i64 (j : Int) ∧ Hid (OwnV wq w.heap.size sv (V.take j) ∧ Below w.heap.size w wq)) (fun _ si _ => ((n : Int) - intOf si).toNat)
  case atStart => exact ⟨0, by omega, rfl, by rw [List.take_zero]; exact OwnV.nil _ _, Below.refl _ _⟩
  case round =>
    obtain ⟨j, hj, rfl, HJ⟩ := hrel
    rcases Nat.lt_or_eq_of_le hj with hlt | heq
    · have g1 : decide ((j : Int) < (n : Int)) = true := by simp; omega
      have gj : (j : Int) < (n : Int) := by omega
      have hjK : j < K.length := by rw [HN.out]; exact hlt
      obtain ⟨x, hx, hxl, hv⟩ := HP.out j hjK
      obtain ⟨b, o, hq, hb, c0⟩ := HK.out.keep HJ.out.2 j hjK
      obtain ⟨b2, o2, hp2, hb2, d0, d1, d2, d3⟩ := HR.out.keep HJ.out.2 x hxl
      subst hq hp2
      rw [hx] at c0
      have gx : (x : Int) < (m : Int) := by have := HM.out; omega
      have HS : Hid (V.take (j + 1) = V.take j ++ [l[x]]) := by
        have hj' : j < V.length := by rw [HPl.out]; exact hlt
        show _ = _
        rw [List.take_succ_eq_append_getElem hj']
        rw [List.getElem?_eq_getElem hj'] at hv
        injection hv with hv
        rw [hv]
      have HO : Hid (OwnV wr w.heap.size u5 (V.take j)) := HJ.out.1
      have HL : Hid ((V.take j).length ≤ 128) := by show _ ≤ _; rw [List.length_take]; omega
      generalize l[x] = lx at *
      obtain ⟨lk, ln, lf, ls⟩ := lx
      dsimp only at d0 d1 d2 d3
      clear hv hx hxl hb hb2 hjK
      go_wp2_with (first | (at_builtin; refine wpList_appV _ rfl (.tmp 13) _ rfl w.heap.size _ _ rfl HO.out ⟨lk, ln, lf, ls⟩ _ rfl (by simp) (by have := HL.out; omega) HJ.out.2.size ?_; intro v6 w6 h6 h7))
      go_roundw
      case rel => exact ⟨j + 1, by omega, by go_num, (show OwnV _ _ _ _ by rw [HS.out]; exact h6), HJ.out.2.trans h7⟩
      case measure => simp [intOf]; omega
    · have g1 : decide ((j : Int) < (n : Int)) = false := by simp; omega
      have HZ : Hid (OwnV wr w.heap.size u5 V ∧ Below w.heap.size w wr) := by
        have h3 := HJ.out
        rw [heq, ← HPl.out, List.take_length] at h3
        exact h3
      clear HJ
      go_wp2_with fail
      go_ret
      exact ⟨_, rfl, HZ.out⟩

end Go.Proofs.YteadniomgbhecaaGreatDoor
