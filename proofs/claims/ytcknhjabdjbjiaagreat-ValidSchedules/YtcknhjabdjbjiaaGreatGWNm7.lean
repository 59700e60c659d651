/- unions: the normal spans of spans. covers: whether a point is in one of the normal spans. The document's side: how points stand, what a foot reads. -/
import Derived.Test.YtcknhjabdjbjiaaGreatGWNa
import Derived.Test.YtcknhjabdjbjiaaGreatGFSets
import Derived.Test.YtcknhjabdjbjiaaGreatGWCl10
namespace Go.Proofs.YtcknhjabdjbjiaaGreat
open Go.RowKit
set_option maxRecDepth 100000

theorem take_snoc {α : Type} (L : List α) (j : Nat) (hj : j < L.length) : L.take (j + 1) = L.take j ++ [L[j]] := by
  rw [List.take_add_one, List.getElem?_eq_getElem hj]
  rfl
theorem below_by {B : Nat} {w w1 w2 : World} (h : Below B w w1) {row : Option Nat} (hg : w1.grownBy w2 row) (hz : B ≤ w1.heap.size) (hr : ∀ k, row = some k → B ≤ k) : Below B w w2 := h.grown hg hz hr
theorem ownS_ne {w : World} {B : Nat} {v : Value} {L : List Sp} (h : OwnS w B v L) {g : Nat} {cs : Array Value} {T : TypeId} (hb : w.heap[g]? = some (.cells cs T (0, 0))) (hT : T ≠ 103) : some g ≠ v.ownBlock := by
  rcases (show w.ownsRow B 103 5 v L.length (scells L) from h).2 with ⟨rfl, _⟩ | ⟨g', cap, cur, rfl, _, hgb, _⟩
  · intro e; cases e
  · intro e
    cases e
    rw [hgb] at hb
    cases hb
    exact hT rfl
theorem wpList_appSg {ops : Array Oper} {rest : List Oper} {o : Oper} {a : Act} {Q : Exit → Act → World → Prop} (w : World) (hgd : o.guard = none) (s x : Operand)
    (ho : o.op = .call { callee := .builtin .append, args := #[s, x], argTypes := #[35, 35] })
    (B : Nat) (v : Value) (L : List Sp) (hs : a.eval s = v) (hown : OwnS w B v L)
    (u : Sp) (g : Nat) (hx : a.eval x = .slice (some ⟨g, 0, none⟩) 1 1) (hgz : g = w.heap.size)
    (hlen : L.length + 1 ≤ 2513169434916) (hbase : B ≤ w.heap.size)
    (h : ∀ v' w', OwnS w' B v' (L ++ [u]) → Below B w w' → (∀ k, k < w.heap.size → some k ≠ v.ownBlock → w'.heap[k]? = w.heap[k]?) → w.heap.size ≤ w'.heap.size → wpList Tryz.prog ops Q rest (a.put o.dst v') w') : wpList Tryz.prog ops Q (o :: rest) a (w.alloc (.cells #[.int .i64 u.t, .int .i64 u.i, .string u.lo, .string u.hi, .bool u.op] 103)) := by
  obtain ⟨i, hi, hz0, hz1, hz2⟩ := info_parts info_S
  subst hgz
  have hown' : OwnS (w.alloc (.cells #[.int .i64 u.t, .int .i64 u.i, .string u.lo, .string u.hi, .bool u.op] 103)) B v L := hown.kept ((Below.refl _ _).alloc (Nat.le_refl _) _)
  refine wpList_append_own _ hgd s x 35 ho B 103 i (.agg #[.int .i64 0, .int .i64 0, .string ⟨#[]⟩, .string ⟨#[]⟩, .bool false]) 5 56 Tryz.underlying35 hi hz0 hz1 hz2 rfl (by decide) v L.length (scells L) hs hown' ⟨w.heap.size, 0, none⟩ 1 1 (scells [u]) hx rfl ?_ ?_ (by unfold maxLen; omega) (by omega) (by simp; omega) ?_
  · intro j y hj
    have hj' : j < 5 := by
      have := (List.getElem?_eq_some_iff.1 hj).1
      simpa [scells, encS] using this
    have e : (⟨w.heap.size, 0, none⟩ : Addr).add j = ⟨w.heap.size, j, none⟩ := by unfold Addr.add; split <;> simp_all
    rw [e]
    have h4 : j = 0 ∨ j = 1 ∨ j = 2 ∨ j = 3 ∨ j = 4 := by omega
    rcases h4 with rfl | rfl | rfl | rfl | rfl <;> (simp [scells, encS] at hj; subst hj; simp [go_sem])
  · intro y hy
    simp [scells, encS] at hy
    rcases hy with rfl | rfl | rfl | rfl | rfl <;> rfl
  · intro v' w' h1 h2 _
    refine h v' w' ?_ ?_ ?_ ?_
    · unfold OwnS
      rw [scells_append, List.length_append]
      exact h1
    · exact ((Below.refl _ _).alloc hbase _).grown h2 (by simp; omega) (fun k hk => (hown'.lt k hk).1)
    · intro k hk hne
      exact (h2.block k (by simp; omega) hne).trans (Below.heap_alloc _ _ k hk)
    · have := h2.size; simp at this; omega
theorem run_makeM (w : World) : (Instr.makeMap 136 none).run Tryz.prog w = .ok (.map (some w.heap.size)) (w.alloc (.map #[] 0)) := by
  unfold Instr.makeMap
  simp [go_sem]

set_option maxHeartbeats 16000000 in
theorem unions_any (L : List Sp) (v : Value) (w : World) (h : SlS w v L) (hlen : L.length ≤ 65536) :
    Calls Tryz.prog 85 #[v] w fun e w' => ∃ (v' : Value) (U : List Sp), e = .returned v' ∧ OwnS w' w.heap.size v' U ∧ SepS U ∧ (∀ x, anyS U x = anyS L x) ∧ U.length ≤ L.length ∧ Below w.heap.size w w' := by
  obtain ⟨p, c, rfl, hc1, hc2, hR⟩ := h.f
  have HR : Hid (RowS w w.heap.size p L) := hR
  clear hR h
  have hmk := run_makeM
  go_enter Tryz.func85, Tryz.ntmps85
  go_wp2_with fail
  have HM0 : Hid (RgM (w.alloc (.map #[] 0)) w.heap.size w.heap.size []) := RgM.made w _
  have HB0 : Hid (Below w.heap.size w (w.alloc (.map #[] 0))) := (Below.refl _ _).alloc (Nat.le_refl _) _
  clear hmk
  generalize (w.alloc (.map #[] 0)) = w0 at *
  go_loopw [15] (fun i wr => ∃ (j : Nat) (E : List (Pt × Value × List Rg)), j ≤ L.length ∧ i = .int .i64 (j : Int) ∧ Hid (RgM wr w.heap.size w.heap.size E) ∧ Hid (HoldsM (L.take j) E) ∧ E.length ≤ j ∧ Hid (Below w.heap.size w wr)) (fun i _ => L.length - (intOf i).toNat)
  case atStart => exact ⟨0, [], Nat.zero_le _, by go_num, HM0.out, HoldsM.nil, Nat.zero_le _, HB0.out⟩
  case round =>
    obtain ⟨j, E, hj, rfl, HM, HH, hEl, HB⟩ := hrel
    clear HM0 HB0
    by_cases hj0 : j = L.length
    · subst hj0
      have HH' : Hid (HoldsM L E) := by have h := HH.out; rw [List.take_of_length_le (Nat.le_refl _)] at h; exact h
      clear HH HR
      rename World => w1
      have HK : Hid (Calls _ _ _ _ _) := keys_any (some w.heap.size) w1
      have HS : Hid (∀ wx, wx = w1.alloc (.cells #[.map (some w.heap.size)] 136) → Calls _ _ _ wx _) := fun wx hx =>
        sortedF_any w1.heap.size w.heap.size (E.map kvE) (by have := HM.out.nodup; rw [List.map_map]; exact this) (by simp; omega) wx (by rw [hx]; simp) (by rw [hx]; exact (Boxed.new w1 _ _).cell) (HM.out.map.on (by rw [hx]; exact (Below.refl _ _).alloc (Nat.le_refl _) _))
      go_wp2_with fail
      refine HK.out.mono ?_
      rintro e w2 ⟨rfl, hw2⟩
      have HB2 : Hid (Below w1.heap.size w1 w2) := by rw [hw2]; exact (Below.refl _ _).alloc (Nat.le_refl _) _
      have HS2 : Hid (Calls _ _ _ _ _) := HS.out w2 hw2
      clear HK HS hw2
      go_wp2_with fail
      refine HS2.out.mono ?_
      rintro e w3 ⟨vR, R, rfl, hO3, hRis, hRm, hRl, hb3⟩
      clear HS2
      have HB3 : Hid (Below w1.heap.size w1 w3) := HB2.out.trans (hb3.mono HB2.out.size)
      have HM3 : Hid (RgM w3 w.heap.size w.heap.size E) := HM.out.on HB3.out
      have HBW : Hid (Below w.heap.size w w3) := HB.out.trans (HB3.out.mono HB.out.size)
      obtain ⟨pR, cR, rfl, hRow⟩ := hO3.row
      have HRw : Hid (RowP w3 w3.heap.size pR R) := hRow
      have HRm : Hid (∀ x, x ∈ R ↔ x ∈ E.map (·.1)) := fun x => by rw [hRm x, List.map_map]; rfl
      have HRis : Hid (RisP R) := hRis
      clear hO3 hRow hRm hRis hb3 HB2 HB3 HM HB
      rw [List.length_map] at hRl
      have hRl2 : R.length ≤ 65536 := by omega
      have HSum : Hid (∀ Ms : List (Pt × List Rg), (∃ n, Ms.map (·.1) = R.take n) → (∀ x ∈ Ms, x.2.length ≤ (rngsAt L x.1).length) → (layU Ms).length ≤ L.length) := fun Ms hM1 hM2 => by
        obtain ⟨n, hn⟩ := hM1
        have h1 := layU_len L Ms hM2
        have h2 := sum_rngs (Ms.map (·.1)) (by rw [hn]; exact List.Pairwise.sublist (List.take_sublist _ _) HRis.out.nodup) L
        omega
      go_wp2_with fail
      go_loopw [7, 38] (fun u i wr => ∃ (j : Nat) (Ms : List (Pt × List Rg)), j ≤ R.length ∧ i = .int .i64 (j : Int) ∧ Hid (Ms.map (·.1) = R.take j) ∧ Hid (∀ x ∈ Ms, UnOf (rngsAt L x.1) x.2 ∧ x.2.length ≤ (rngsAt L x.1).length) ∧ Hid (OwnS wr w3.heap.size u (layU Ms)) ∧ Hid (Below w3.heap.size w3 wr)) (fun _ i _ => R.length - (intOf i).toNat)
      case atStart => exact ⟨0, [], Nat.zero_le _, by go_num, (show ([] : List (Pt × List Rg)).map (·.1) = R.take 0 by simp), (show ∀ x ∈ ([] : List (Pt × List Rg)), _ by simp), OwnS.nil _ _, Below.refl _ _⟩
      case round =>
        obtain ⟨j, Ms, hj, rfl, HMs, HUn, HOw, HBl⟩ := hrel
        by_cases hj0 : j = R.length
        · subst hj0
          go_wp2
          go_ret
          have hMs := HMs.out
          rw [List.take_of_length_le (Nat.le_refl _)] at hMs
          have hk : ∀ x ∈ Ms, x.1.k = ⟨#[]⟩ := fun x hx => by
            have h1 : x.1 ∈ R := by rw [← hMs]; exact List.mem_map.2 ⟨x, hx, rfl⟩
            obtain ⟨e, he, he2⟩ := List.mem_map.1 ((HRm.out x.1).1 h1)
            rw [← he2]
            exact (HH'.out.rngs e he).1
          refine ⟨_, layU Ms, rfl, HOw.out.mono HBW.out.size, layU_sep Ms (by rw [hMs]; exact HRis.out) hk (fun x hx => (HUn.out x hx).1.1), layU_any Ms L (fun x hx => ⟨hk x hx, (HUn.out x hx).1.2⟩) (fun s hs => ?_), HSum.out Ms ⟨R.length, HMs.out⟩ (fun x hx => (HUn.out x hx).2), HBW.out.trans (HBl.out.mono HBW.out.size)⟩
          rw [hMs]
          exact (HRm.out _).2 (HH'.out.all s hs)
        · have hj1 : j < R.length := by omega
          generalize wr = wq at *
          obtain ⟨b, o, hp, hb, d0, d1, d2⟩ := (HRw.out.on HBl.out) j hj1
          subst hp
          have HMx : Hid (RgM wq w.heap.size w.heap.size E) := HM3.out.on HBl.out
          obtain ⟨x, hx⟩ : ∃ x, R[j] = x := ⟨_, rfl⟩
          have HTk : Hid (R.take (j + 1) = R.take j ++ [x]) := by rw [← hx]; exact take_snoc R j hj1
          rw [hx] at d0 d1 d2
          clear hx
          obtain ⟨v0, hv0⟩ : ∃ v0, getV (E.map kvE) x = v0 := ⟨_, rfl⟩
          obtain ⟨wA, hwA⟩ : ∃ wA, wq.alloc (.cells #[.int .i64 x.t, .int .i64 x.i, .string x.k] 39) = wA := ⟨_, rfl⟩
          have HBA : Hid (Below wq.heap.size wq wA) := by rw [← hwA]; exact (Below.refl _ _).alloc (Nat.le_refl _) _
          have HKA : Hid (Blk wA wq.heap.size #[.int .i64 x.t, .int .i64 x.i, .string x.k] 39) := by rw [← hwA]; exact Blk.new wq _ _
          have HMA : Hid (RgM wA w.heap.size w.heap.size E) := HMx.out.on HBA.out
          have HG : Hid (OwnR wA w.heap.size v0 (rngsAt L x)) := by rw [← hv0]; exact HMA.out.get HH'.out x
          have HLn : Hid ((rngsAt L x).length ≤ 65536) := by
            unfold rngsAt
            rw [List.length_map]
            exact Nat.le_trans (List.length_filter_le _ _) hlen
          have HUc : Hid (Calls _ _ _ _ _) := unionV_any v0 (rngsAt L x) wA HG.out (by have := HLn.out; omega)
          have q0 := HKA.out.cell (i := 0) rfl
          have q1 := HKA.out.cell (i := 1) rfl
          have q2 := HKA.out.cell (i := 2) rfl
          have hlk : (Instr.lookup 136 (.map (some w.heap.size)) (.agg #[.int .i64 x.t, .int .i64 x.i, .string x.k]) false).run Tryz.prog wA = .ok v0 wA := by rw [← hv0]; exact HMA.out.map.look x
          go_wp2_with fail
          refine HUc.out.mono ?_
          rintro e w5 ⟨vU, U, rfl, hOU, hUU, hUl, hb5⟩
          clear HUc d0 d1 d2 q0 q1 q2 hv0 HG hwA hlk
          have HB5 : Hid (Below wq.heap.size wq w5) := HBA.out.trans (hb5.mono HBA.out.size)
          have HK5 : Hid (Blk w5 wq.heap.size #[.int .i64 x.t, .int .i64 x.i, .string x.k] 39) := HKA.out.on hb5
          obtain ⟨pU, cU, rfl, _⟩ := hOU.row
          have HRU : Hid (OwnR w5 wA.heap.size (.slice pU U.length cU) U) := hOU
          have HUU : Hid (UnOf (rngsAt L x) U ∧ U.length ≤ (rngsAt L x).length) := ⟨hUU, hUl⟩
          have hUl2 : U.length ≤ 65536 := by have := HLn.out; omega
          have HO5 : Hid (OwnS w5 w3.heap.size _ (layU Ms)) := HOw.out.kept HB5.out
          have hLl := HSum.out Ms ⟨j, HMs.out⟩ (fun x hx => (HUn.out x hx).2)
          clear hOU hUU hUl HOw HMx HMA HKA HBA hb5 HLn
          have HBx : Hid (Below w3.heap.size w3 w5) := HBl.out.trans (HB5.out.mono HBl.out.size)
          have HLt : Hid (wq.heap.size < w5.heap.size) := HK5.out.lt
          clear HBl HB5
          go_wp2_with fail
          go_loopw [7, 47] (fun u i wr => ∃ (k : Nat), k ≤ U.length ∧ i = .int .i64 (k : Int) ∧ Hid (OwnS wr w3.heap.size u (layU Ms ++ (U.take k).map (spOf x))) ∧ Hid (Blk wr wq.heap.size #[.int .i64 x.t, .int .i64 x.i, .string x.k] 39) ∧ Hid (OwnR wr wA.heap.size (.slice pU U.length cU) U) ∧ Hid (Below w3.heap.size w5 wr) ∧ w5.heap.size ≤ wr.heap.size) (fun _ i _ => U.length - (intOf i).toNat)
          case atStart => exact ⟨0, Nat.zero_le _, by go_num, (show OwnS _ _ _ _ by simpa using HO5.out), HK5.out, HRU.out, Below.refl _ _, Nat.le_refl _⟩
          case round =>
            obtain ⟨k, hk, rfl, HOk, HKy, HRy, HBk, hzz⟩ := hrel
            by_cases hk0 : k = U.length
            · subst hk0
              go_wp2_with fail
              go_roundw
              case rel =>
                refine ⟨j + 1, Ms ++ [(x, U)], hj1, by go_num, ?_, ?_, ?_, HBx.out.trans HBk.out⟩
                · refine (show _ = _ from ?_); rw [List.map_append, HMs.out, HTk.out]; rfl
                · refine (show ∀ y ∈ Ms ++ [(x, U)], _ from ?_)
                  intro y hy
                  rcases List.mem_append.1 hy with hy | hy
                  · exact HUn.out y hy
                  · rw [List.mem_singleton] at hy; subst hy; exact HUU.out
                · refine (show OwnS _ _ _ _ from ?_); rw [layU_snoc]; have h := HOk.out; rw [List.take_of_length_le (Nat.le_refl _)] at h; exact h
              case measure => simp [intOf]; omega
            · have hk1 : k < U.length := by omega
              obtain ⟨p2, c9, e9, hr9⟩ := HRy.out.row
              obtain ⟨rfl, -, rfl⟩ := Value.slice.inj e9
              clear e9
              obtain ⟨b2, o2, hp2, hb2, c0, c1, c2⟩ := hr9 k hk1
              subst hp2
              clear hr9
              have HTU : Hid ((U.take (k + 1)).map (spOf x) = (U.take k).map (spOf x) ++ [spOf x U[k]]) := by rw [take_snoc U k hk1, List.map_append]; rfl
              have hl9 : (layU Ms ++ (U.take k).map (spOf x)).length + 1 ≤ 2513169434916 := by
                rw [List.length_append, List.length_map, List.length_take]
                omega
              generalize U[k] = r at *
              obtain ⟨rl, rh, ro⟩ := r
              dsimp only at c0 c1 c2
              have q0 := HKy.out.cell (i := 0) rfl
              have q1 := HKy.out.cell (i := 1) rfl
              obtain ⟨wB, hwB⟩ : ∃ wB, wr.alloc (.cells #[.string rl, .string rh, .bool ro] 101) = wB := ⟨_, rfl⟩
              have HBB : Hid (Below wr.heap.size wr wB) := by rw [← hwB]; exact (Below.refl _ _).alloc (Nat.le_refl _) _
              have HKR : Hid (Blk wB wr.heap.size #[.string rl, .string rh, .bool ro] 101) := by rw [← hwB]; exact Blk.new wr _ _
              have HKz : Hid (Blk wB wq.heap.size #[.int .i64 x.t, .int .i64 x.i, .string x.k] 39) := HKy.out.on HBB.out
              have q3 := HKz.out.cell (i := 0) rfl
              have q4 := HKz.out.cell (i := 1) rfl
              have q5 := HKR.out.cell (i := 0) rfl
              have q6 := HKR.out.cell (i := 1) rfl
              have q7 := HKR.out.cell (i := 2) rfl
              have hzx := HBx.out.size
              have hzb := HBB.out.size
              rcases HOk.out.form with ⟨rfl, hnil⟩ | ⟨g, cap, rfl, hg1, hg2⟩
              · skip
                have HOB : Hid (OwnS wB w3.heap.size (.slice none 0 0) (layU Ms ++ (U.take k).map (spOf x))) := HOk.out.kept HBB.out
                have HRB : Hid (OwnR wB wA.heap.size (.slice (some ⟨b2, o2, none⟩) U.length cU) U) := HRy.out.kept HBB.out
                go_wp2_with (first | (at_builtin; refine wpList_appSg _ rfl _ _ rfl w3.heap.size _ _ rfl HOB.out (spOf x ⟨rl, rh, ro⟩) _ rfl rfl hl9 (by omega) ?_; intro v6 w6 h6 h7 h8 h9))
                go_roundw
                case rel =>
                  refine ⟨k + 1, hk1, by go_num, (show OwnS _ _ _ _ by rw [HTU.out, ← List.append_assoc]; exact h6), ?_, ?_, HBk.out.trans ((HBB.out.mono (by omega)).trans h7), by omega⟩
                  · exact (h8 _ HKz.out.lt (ownS_ne HOB.out HKz.out (by decide))).trans HKz.out
                  · refine (show OwnR _ _ _ _ from ?_)
                    refine HRB.out.by (fun g9 hg9 => ?_)
                    obtain ⟨cur, hcur⟩ := own_blk HRB.out hg9
                    exact h8 g9 (own_lt HRB.out hg9) (ownS_ne HOB.out hcur (by decide))
                case measure => simp [intOf]; omega
              · skip
                have HOB : Hid (OwnS wB w3.heap.size (.slice (some ⟨g, 0, none⟩) (layU Ms ++ (U.take k).map (spOf x)).length cap) (layU Ms ++ (U.take k).map (spOf x))) := HOk.out.kept HBB.out
                have HRB : Hid (OwnR wB wA.heap.size (.slice (some ⟨b2, o2, none⟩) U.length cU) U) := HRy.out.kept HBB.out
                go_wp2_with (first | (at_builtin; refine wpList_appSg _ rfl _ _ rfl w3.heap.size _ _ rfl HOB.out (spOf x ⟨rl, rh, ro⟩) _ rfl rfl hl9 (by omega) ?_; intro v6 w6 h6 h7 h8 h9))
                go_roundw
                case rel =>
                  refine ⟨k + 1, hk1, by go_num, (show OwnS _ _ _ _ by rw [HTU.out, ← List.append_assoc]; exact h6), ?_, ?_, HBk.out.trans ((HBB.out.mono (by omega)).trans h7), by omega⟩
                  · exact (h8 _ HKz.out.lt (ownS_ne HOB.out HKz.out (by decide))).trans HKz.out
                  · refine (show OwnR _ _ _ _ from ?_)
                    refine HRB.out.by (fun g9 hg9 => ?_)
                    obtain ⟨cur, hcur⟩ := own_blk HRB.out hg9
                    exact h8 g9 (own_lt HRB.out hg9) (ownS_ne HOB.out hcur (by decide))
                case measure => simp [intOf]; omega
    · have hj1 : j < L.length := by omega
      obtain ⟨b, o, hp, hb, d0, d1, d2, d3, d4⟩ := (HR.out.on HB.out) j hj1
      subst hp
      have HTk : Hid (L.take (j + 1) = L.take j ++ [L[j]]) := take_snoc L j hj1
      generalize L[j] = s at *
      obtain ⟨st, si, slo, shi, sop⟩ := s
      dsimp only at d0 d1 d2 d3 d4
      have hzw := HB.out.size
      have hmlt := HM.out.map.lt
      obtain ⟨wA, hwA⟩ : ∃ wA, wr.alloc (.cells #[.int .i64 st, .int .i64 si, .string slo, .string shi, .bool sop] 103) = wA := ⟨_, rfl⟩
      have hzA : wA.heap.size = wr.heap.size + 1 := by rw [← hwA]; simp
      have HBA : Hid (Below wr.heap.size wr wA) := by rw [← hwA]; exact (Below.refl _ _).alloc (Nat.le_refl _) _
      have HKA : Hid (Blk wA wr.heap.size #[.int .i64 st, .int .i64 si, .string slo, .string shi, .bool sop] 103) := by rw [← hwA]; exact Blk.new wr _ _
      have hzB : (wA.alloc (.cells #[.int .i64 st, .int .i64 si, .string ⟨#[]⟩] 39)).heap.size = wr.heap.size + 2 := by simp [hzA]
      have HBB : Hid (Below wA.heap.size wA (wA.alloc (.cells #[.int .i64 st, .int .i64 si, .string ⟨#[]⟩] 39))) := (Below.refl _ _).alloc (Nat.le_refl _) _
      have HKB : Hid (Blk (wA.alloc (.cells #[.int .i64 st, .int .i64 si, .string ⟨#[]⟩] 39)) (wr.heap.size + 1) #[.int .i64 st, .int .i64 si, .string ⟨#[]⟩] 39) := by rw [← hzA]; exact Blk.new wA _ _
      have HKA2 : Hid (Blk (wA.alloc (.cells #[.int .i64 st, .int .i64 si, .string ⟨#[]⟩] 39)) wr.heap.size #[.int .i64 st, .int .i64 si, .string slo, .string shi, .bool sop] 103) := HKA.out.on HBB.out
      obtain ⟨wC, hwC⟩ : ∃ wC, (wA.alloc (.cells #[.int .i64 st, .int .i64 si, .string ⟨#[]⟩] 39)).alloc (.cells #[.string slo, .string shi, .bool sop] 101) = wC := ⟨_, rfl⟩
      have hzC : wC.heap.size = wr.heap.size + 3 := by rw [← hwC, World.size_alloc, hzB]
      have HBC : Hid (Below wr.heap.size wr wC) := by
        have h1 : Below (wA.alloc (.cells #[.int .i64 st, .int .i64 si, .string ⟨#[]⟩] 39)).heap.size (wA.alloc (.cells #[.int .i64 st, .int .i64 si, .string ⟨#[]⟩] 39)) wC := by rw [← hwC]; exact (Below.refl _ _).alloc (Nat.le_refl _) _
        exact (HBA.out.trans (HBB.out.mono (by omega))).trans (h1.mono (by omega))
      have HKC : Hid (Blk wC (wr.heap.size + 2) #[.string slo, .string shi, .bool sop] 101) := by rw [← hwC, ← hzB]; exact Blk.new (wA.alloc (.cells #[.int .i64 st, .int .i64 si, .string ⟨#[]⟩] 39)) _ _
      have HMC : Hid (RgM wC w.heap.size w.heap.size E) := HM.out.on HBC.out
      have a0 := HKA.out.cell (i := 0) rfl
      have a1 := HKA.out.cell (i := 1) rfl
      have e0 := HKB.out.cell (i := 0) rfl
      have e1 := HKB.out.cell (i := 1) rfl
      have e2 := HKB.out.cell (i := 2) rfl
      have a2 := HKA2.out.cell (i := 2) rfl
      have a3 := HKA2.out.cell (i := 3) rfl
      have a4 := HKA2.out.cell (i := 4) rfl
      obtain ⟨v0, hv0⟩ : ∃ v0, getV (E.map kvE) ⟨st, si, ⟨#[]⟩⟩ = v0 := ⟨_, rfl⟩
      have HOv : Hid (OwnR wC w.heap.size v0 (rngsAt (L.take j) ⟨st, si, ⟨#[]⟩⟩)) := by rw [← hv0]; exact HMC.out.get HH.out _
      have HLn : Hid ((rngsAt (L.take j) ⟨st, si, ⟨#[]⟩⟩).length ≤ 65536) := by
        unfold rngsAt
        rw [List.length_map]
        refine Nat.le_trans (List.length_filter_le _ _) ?_
        rw [List.length_take]
        omega
      have HBw : Hid (Below w.heap.size w wC) := HB.out.trans (HBC.out.mono hzw)
      go_wp2_with (first
        | (refine wpList_entryM _ rfl _ _ rfl w.heap.size (E.map kvE) ⟨st, si, ⟨#[]⟩⟩ v0 hv0 rfl rfl HMC.out.map ?_
           intro w4 ei bn hEn hset hex hg4 hz4
           have HE4 : Hid (EntM w4 w.heap.size (putV (E.map kvE) ⟨st, si, ⟨#[]⟩⟩ v0) ei bn) := hEn
           have HS4 : Hid (∀ v, (putV (E.map kvE) ⟨st, si, ⟨#[]⟩⟩ v0).set ei (⟨st, si, ⟨#[]⟩⟩, v) = putV (E.map kvE) ⟨st, si, ⟨#[]⟩⟩ v) := hset
           have HX4 : Hid (∃ v, (putV (E.map kvE) ⟨st, si, ⟨#[]⟩⟩ v0)[ei]? = some (⟨st, si, ⟨#[]⟩⟩, v)) := hex
           have HG4 : Hid (wC.grownBy w4 (some w.heap.size)) := hg4
           have HO4 : Hid (OwnR w4 w.heap.size v0 (rngsAt (L.take j) ⟨st, si, ⟨#[]⟩⟩)) := HOv.out.by (fun g hg => hg4.block g (own_lt HOv.out hg) (fun e => own_not_map HOv.out HMC.out.map (by rw [hg]; exact e)))
           have HK4 : Hid (Blk w4 (wr.heap.size + 2) #[.string slo, .string shi, .bool sop] 101) := (hg4.block _ HKC.out.lt (fun e => by have := Option.some.inj e; omega)).trans HKC.out
           clear hEn hset hex hg4)
        | (at_builtin
           refine wpList_appM w4 rfl _ _ rfl w.heap.size v0 (rngsAt (L.take j) ⟨st, si, ⟨#[]⟩⟩) rfl HO4.out ⟨slo, shi, sop⟩ _ rfl HK4.out (by have := HLn.out; omega) (by omega) ?_
           intro v5 w5 h5 hg5 hat5
           have HE5 : Hid (EntM w5 w.heap.size (putV (E.map kvE) ⟨st, si, ⟨#[]⟩⟩ v0) ei bn) := HE4.out.of_block (hg5.block _ HE4.out.mapV.lt (fun e => own_not_map HO4.out HE4.out.mapV e.symm))
           have H5 : Hid (OwnR w5 w.heap.size v5 (rngsAt (L.take j) ⟨st, si, ⟨#[]⟩⟩ ++ [⟨slo, shi, sop⟩]) ∧ w4.grownBy w5 v0.ownBlock ∧ (v5.ownBlock = v0.ownBlock ∨ v5.ownBlock = some w4.heap.size)) := ⟨h5, hg5, hat5⟩
           clear h5 hg5 hat5)
        | (refine wpList_storeM w5 rfl _ _ _ rfl w.heap.size (putV (E.map kvE) ⟨st, si, ⟨#[]⟩⟩ v0) ei bn ⟨st, si, ⟨#[]⟩⟩ v5 HX4.out.choose rfl rfl rfl HE5.out HX4.out.choose_spec ?_
           intro w6 hm6 hg6 hz6
           have H6 : Hid (MapV w6 w.heap.size (putV (E.map kvE) ⟨st, si, ⟨#[]⟩⟩ v5) ∧ w5.grownBy w6 (some w.heap.size) ∧ w6.heap.size = w5.heap.size) := ⟨by rw [← HS4.out v5]; exact hm6, hg6, hz6⟩
           clear hm6 hg6 hz6))
      go_roundw
      case rel =>
        obtain ⟨h5, hg5, hat5⟩ := H5.out
        obtain ⟨hm6, hg6, hz6⟩ := H6.out
        have hg4 := HG4.out
        have hm5 := HE5.out.mapV
        have hfr : ∀ k, k < wC.heap.size → k ≠ w.heap.size → some k ≠ (getV (E.map kvE) (plcS ⟨st, si, slo, shi, sop⟩)).ownBlock → w6.heap[k]? = wC.heap[k]? := fun k hk hkm hkv => by
          have hkv' : some k ≠ v0.ownBlock := by rw [← hv0]; exact hkv
          rw [hg6.block k (by have := hg5.size; omega) (fun e => hkm (Option.some.inj e)), hg5.block k (by omega) hkv', hg4.block k hk (fun e => hkm (Option.some.inj e))]
        have hww : v5.ownBlock = (getV (E.map kvE) (plcS ⟨st, si, slo, shi, sop⟩)).ownBlock ∨ ∃ g, v5.ownBlock = some g ∧ wC.heap.size ≤ g := by
          show v5.ownBlock = (getV (E.map kvE) ⟨st, si, ⟨#[]⟩⟩).ownBlock ∨ _
          rw [hv0]
          rcases hat5 with h | h
          · exact .inl h
          · exact .inr ⟨_, h, by omega⟩
        obtain ⟨E', hR', hH', hl'⟩ := RgM.put (w := wC) (w2 := w6) HMC.out HH.out ⟨st, si, slo, shi, sop⟩ v5 hm6 (h5.by (fun g hg => hg6.block g (own_lt h5 hg) (fun e => own_not_map h5 hm5 (by rw [hg]; exact e)))) hfr hww
        refine ⟨j + 1, E', hj1, by go_num, hR', (show HoldsM _ _ by rw [HTk.out]; exact hH'), by omega, ?_⟩
        have hb4 : Below w.heap.size w w4 := HBw.out.grown hg4 (by omega) (fun k e => by have := Option.some.inj e; omega)
        have hb5 : Below w.heap.size w w5 := hb4.grown hg5 hb4.size (fun k e => (World.ownsRow.lt HO4.out k e).1)
        exact hb5.grown hg6 hb5.size (fun k e => by have := Option.some.inj e; omega)
      case measure => simp [intOf]; omega

end Go.Proofs.YtcknhjabdjbjiaaGreat

namespace Go.Proofs.YtcknhjabdjbjiaaGreat
open Go.RowKit
set_option maxRecDepth 100000

/-- a span's value -/
abbrev SV (s : Sp) : Value := .agg #[.int .i64 s.t, .int .i64 s.i, .string s.lo, .string s.hi, .bool s.op]
theorem SepS.lt {L : List Sp} (h : SepS L) {i j : Nat} (hij : i < j) (hj : j < L.length) : ltP (bgn (L[i]'(by omega))) (bgn L[j]) = true := apS_lt (List.pairwise_iff_getElem.1 h.2 i j (by omega) hj hij) (h.1 _ (List.getElem_mem _))

set_option maxHeartbeats 4000000 in
theorem covers1_any (s : Sp) (t : Pt) (w : World) : Calls Tryz.prog 101 #[SV s, PV t] w fun e w' => e = .returned (.int .i64 (cmpP (bgn s) t)) ∧ Below w.heap.size w w' := by
  have CB : Hid (∀ w1 : World, Calls Tryz.prog 52 #[SV s] w1 fun e w' => e = .returned (PV (bgn s)) ∧ Below w1.heap.size w1 w') := fun w1 => begin_any s w1
  have CC : Hid (∀ w1 : World, Calls Tryz.prog 69 #[PV (bgn s), PV t] w1 fun e w' => e = .returned (.int .i64 (cmpP (bgn s) t)) ∧ Below w1.heap.size w1 w') := fun w1 => compareB_any (bgn s) t w1
  generalize cmpP (bgn s) t = cm at *
  generalize bgn s = b0 at *
  obtain ⟨wA, hwA⟩ : ∃ wA, w.alloc (.cells #[.int .i64 s.t, .int .i64 s.i, .string s.lo, .string s.hi, .bool s.op] 103) = wA := ⟨_, rfl⟩
  have hzA : wA.heap.size = w.heap.size + 1 := by rw [← hwA]; simp
  have HBA : Below w.heap.size w wA := by rw [← hwA]; exact (Below.refl _ _).alloc (Nat.le_refl _) _
  have HKA : Blk wA w.heap.size #[.int .i64 s.t, .int .i64 s.i, .string s.lo, .string s.hi, .bool s.op] 103 := by rw [← hwA]; exact Blk.new w _ _
  obtain ⟨wB, hwB⟩ : ∃ wB, wA.alloc (.cells #[.int .i64 t.t, .int .i64 t.i, .string t.k] 39) = wB := ⟨_, rfl⟩
  have hzB : wB.heap.size = w.heap.size + 2 := by rw [← hwB]; simp [hzA]
  have HBB : Below wA.heap.size wA wB := by rw [← hwB]; exact (Below.refl _ _).alloc (Nat.le_refl _) _
  have HKB : Blk wB (w.heap.size + 1) #[.int .i64 t.t, .int .i64 t.i, .string t.k] 39 := by rw [← hwB, ← hzA]; exact Blk.new wA _ _
  have HKS := HKA.on HBB
  have b0 := InB.cell (w := wB) (HKS.cell (i := 0) rfl) HKS.lt
  have b1 := InB.cell (w := wB) (HKS.cell (i := 1) rfl) HKS.lt
  have b2 := InB.cell (w := wB) (HKS.cell (i := 2) rfl) HKS.lt
  have b3 := InB.cell (w := wB) (HKS.cell (i := 3) rfl) HKS.lt
  have b4 := InB.cell (w := wB) (HKS.cell (i := 4) rfl) HKS.lt
  have t0 := InB.cell (w := wB) (HKB.cell (i := 0) rfl) HKB.lt
  have t1 := InB.cell (w := wB) (HKB.cell (i := 1) rfl) HKB.lt
  have t2 := InB.cell (w := wB) (HKB.cell (i := 2) rfl) HKB.lt
  have HBW : Hid (Below w.heap.size w wB) := HBA.trans (HBB.mono HBA.size)
  clear HKS HKB HKA HBA HBB hzB
  have ne1 := inB_ne wB
  go_enter Tryz.func101, Tryz.ntmps101
  go_wp2_with fail
  try rw [hwA]
  try rw [hwB]
  refine wp_region_inB (by kernel_rfl) (by kernel_rfl) ?_
  repeat (go_big_quiet_step (first
    | (go_at_call 52; exact Calls.inB (CB.out _)) | (go_at_call 69; exact Calls.inB (CC.out _))))
  refine wpQuiet_nil ?_
  rintro w2 ⟨⟨w3, hb2⟩, h9⟩
  obtain rfl : w2 = w3 := h9
  go_wp2_with fail
  go_ret
  exact ⟨rfl, HBW.out.trans (hb2.mono HBW.out.size)⟩

set_option maxHeartbeats 8000000 in
theorem bsS_any (L : List Sp) (p : Option Addr) (c : Nat) (t : Pt) (w : World) (hR0 : RowS w w.heap.size p L) (hI0 : SepS L) (hlen : L.length ≤ 2513169434916) :
    Calls Tryz.prog 100 #[.slice p L.length c, PV t, .func (.func 101) #[] #[]] w fun e w' => ∃ (i : Nat) (b : Bool), e = .returned (.tuple #[.int .i64 (i : Nat), .bool b]) ∧ i ≤ L.length ∧ (b = true ↔ ∃ h : i < L.length, bgn L[i] = t) ∧ (∀ k (hk : k < L.length), k < i → ltP (bgn L[k]) t = true) ∧ (∀ k (hk : k < L.length), i ≤ k → ltP (bgn L[k]) t = false) ∧ Below w.heap.size w w' := by
  have hal : Below w.heap.size w (w.alloc (.cells #[.int .i64 t.t, .int .i64 t.i, .string t.k] 39)) := (Below.refl _ _).alloc (Nat.le_refl _) _
  have hz : (w.alloc (.cells #[.int .i64 t.t, .int .i64 t.i, .string t.k] 39)).heap.size = w.heap.size + 1 := by simp
  have HT : Hid (Blk (w.alloc (.cells #[.int .i64 t.t, .int .i64 t.i, .string t.k] 39)) w.heap.size #[.int .i64 t.t, .int .i64 t.i, .string t.k] 39 ∧ (w.alloc (.cells #[.int .i64 t.t, .int .i64 t.i, .string t.k] 39)).heap.size = w.heap.size + 1) := ⟨Blk.new w _ _, hz⟩
  have HR : Hid (RowS (w.alloc (.cells #[.int .i64 t.t, .int .i64 t.i, .string t.k] 39)) (w.alloc (.cells #[.int .i64 t.t, .int .i64 t.i, .string t.k] 39)).heap.size p L) := hR0.on hal
  have HI : Hid (SepS L) := hI0
  have HW : Hid (Below w.heap.size w (w.alloc (.cells #[.int .i64 t.t, .int .i64 t.i, .string t.k] 39))) := hal
  have HCM : Hid (∀ (x : Sp) (w1 : World), Calls Tryz.prog 101 #[SV x, PV t] w1 fun e w' => e = .returned (.int .i64 (cmpP (bgn x) t)) ∧ Below w1.heap.size w1 w') := fun x w1 => covers1_any x t w1
  clear hR0 hI0 hal hz
  go_enter Tryz.func100, Tryz.ntmps100
  go_wp2_with fail
  generalize (w.alloc (.cells #[.int .i64 t.t, .int .i64 t.i, .string t.k] 39)) = wA at *
  go_loopw [9, 10] (fun a b wr => ∃ i j : Nat, a = .int .i64 (i : Int) ∧ b = .int .i64 (j : Int) ∧ i ≤ j ∧ j ≤ L.length ∧ Hid (∀ k (hk : k < L.length), k < i → ltP (bgn L[k]) t = true) ∧ Hid (∀ k (hk : k < L.length), j ≤ k → ltP (bgn L[k]) t = false) ∧ Hid (Below wA.heap.size wA wr)) (fun a b _ => (intOf b).toNat - (intOf a).toNat)
  case atStart => exact ⟨0, L.length, by go_num, rfl, Nat.zero_le _, Nat.le_refl _, fun k _ h => absurd h (by omega), fun k hk h => absurd h (by omega), Below.refl _ _⟩
  case round =>
    obtain ⟨i, j, rfl, rfl, hij, hj, hA, hB, HBl⟩ := hrel
    by_cases h0 : i = j
    · subst h0
      clear hij
      by_cases hm1 : i < L.length
      · obtain ⟨b, o, hp, hb, d0, d1, d2, d3, d4⟩ := (HR.out.on HBl.out) i hm1
        subst hp
        have b0 := InB.cell (w := wr) d0 hb
        have b1 := InB.cell (w := wr) d1 hb
        have b2 := InB.cell (w := wr) d2 hb
        have b3 := InB.cell (w := wr) d3 hb
        have b4 := InB.cell (w := wr) d4 hb
        have t0 := InB.cell (w := wr) ((HBl.out.cell (p := ⟨w.heap.size, 0, none⟩) (by have := HT.out.2; show w.heap.size < _; omega)).trans (HT.out.1.cell (i := 0) rfl)) (by have := HT.out.2; have := HBl.out.size; omega)
        have t1 := InB.cell (w := wr) ((HBl.out.cell (p := ⟨w.heap.size, 1, none⟩) (by have := HT.out.2; show w.heap.size < _; omega)).trans (HT.out.1.cell (i := 1) rfl)) (by have := HT.out.2; have := HBl.out.size; omega)
        have t2 := InB.cell (w := wr) ((HBl.out.cell (p := ⟨w.heap.size, 2, none⟩) (by have := HT.out.2; show w.heap.size < _; omega)).trans (HT.out.1.cell (i := 2) rfl)) (by have := HT.out.2; have := HBl.out.size; omega)
        have ne1 := inB_ne wr
        have CC : Hid (∀ w1 : World, Calls Tryz.prog 101 #[SV L[i], PV t] w1 fun e w' => e = .returned (.int .i64 (cmpP (bgn L[i]) t)) ∧ Below w1.heap.size w1 w') := fun w1 => HCM.out L[i] w1
        clear d0 d1 d2 d3 d4 hb
        obtain ⟨cm, hcm⟩ : ∃ cm, cmpP (bgn L[i]) t = cm := ⟨_, rfl⟩
        rw [hcm] at CC
        have HCc : Hid (cmpP (bgn L[i]) t = cm) := hcm
        clear hcm
        generalize L[i] = x at b0 b1 b2 b3 b4 CC
        have gl : decide ((i : Int) < (L.length : Int)) = true := by simp; omega
        go_wp2_with fail
        refine wp_region_inB (by kernel_rfl) (by kernel_rfl) ?_
        repeat (go_big_quiet_step (first
          | (go_at_call 101; exact Calls.inB (CC.out _))))
        refine wpQuiet_nil ?_
        rintro w2 ⟨⟨w3, hb2⟩, h9⟩
        obtain rfl : w2 = w3 := h9
        clear b0 b1 b2 b3 b4 t0 t1 t2 ne1 CC
        go_wp2_with fail
        refine bodyPost_ret (results_tmp2 rfl _ _ _) rfl ?_
        refine ⟨i, _, rfl, hj, ?_, hA.out, hB.out, HW.out.trans ((HBl.out.trans (hb2.mono HBl.out.size)).mono HW.out.size)⟩
        rw [← HCc.out, beq_iff_eq, cmpP_eq]
        constructor
        · intro h; exact ⟨hm1, h⟩
        · rintro ⟨_, h⟩; exact h
      · have hi2 : i = L.length := by omega
        have gl : decide ((i : Int) < (L.length : Int)) = false := by simp; omega
        have ne1 := inB_ne wr
        go_wp2_with fail
        refine wp_region_inB (by kernel_rfl) (by kernel_rfl) ?_
        repeat (go_big_quiet_step (first
          | (go_at_call 101; fail)))
        refine wpQuiet_nil ?_
        rintro w2 ⟨⟨w3, hb2⟩, h9⟩
        obtain rfl : w2 = w3 := h9
        clear ne1
        go_wp2_with fail
        refine bodyPost_ret (results_tmp2 rfl _ _ _) rfl ?_
        refine ⟨i, _, rfl, hj, ?_, hA.out, hB.out, HW.out.trans ((HBl.out.trans (hb2.mono HBl.out.size)).mono HW.out.size)⟩
        constructor
        · intro h; cases h
        · rintro ⟨h, _⟩; exact absurd h hm1
    · have hl : i < j := by omega
      obtain ⟨m, hm⟩ : ∃ m : Nat, m = (i + j) / 2 := ⟨_, rfl⟩
      have hmi : ((i : Int) + (j : Int)) / 2 = ((m : Nat) : Int) := by omega
      have hm1 : m < L.length := by omega
      have HM : Hid (i ≤ m ∧ m < j) := ⟨by omega, by omega⟩
      clear hm
      obtain ⟨b, o, hp, hb, d0, d1, d2, d3, d4⟩ := (HR.out.on HBl.out) m hm1
      subst hp
      have b0 := InB.cell (w := wr) d0 hb
      have b1 := InB.cell (w := wr) d1 hb
      have b2 := InB.cell (w := wr) d2 hb
      have b3 := InB.cell (w := wr) d3 hb
      have b4 := InB.cell (w := wr) d4 hb
      have t0 := InB.cell (w := wr) ((HBl.out.cell (p := ⟨w.heap.size, 0, none⟩) (by have := HT.out.2; show w.heap.size < _; omega)).trans (HT.out.1.cell (i := 0) rfl)) (by have := HT.out.2; have := HBl.out.size; omega)
      have t1 := InB.cell (w := wr) ((HBl.out.cell (p := ⟨w.heap.size, 1, none⟩) (by have := HT.out.2; show w.heap.size < _; omega)).trans (HT.out.1.cell (i := 1) rfl)) (by have := HT.out.2; have := HBl.out.size; omega)
      have t2 := InB.cell (w := wr) ((HBl.out.cell (p := ⟨w.heap.size, 2, none⟩) (by have := HT.out.2; show w.heap.size < _; omega)).trans (HT.out.1.cell (i := 2) rfl)) (by have := HT.out.2; have := HBl.out.size; omega)
      have ne1 := inB_ne wr
      have CC : Hid (∀ w1 : World, Calls Tryz.prog 101 #[SV L[m], PV t] w1 fun e w' => e = .returned (.int .i64 (cmpP (bgn L[m]) t)) ∧ Below w1.heap.size w1 w') := fun w1 => HCM.out L[m] w1
      clear d0 d1 d2 d3 d4 hb
      by_cases hx : ltP (bgn L[m]) t = true
      · have HA2 : Hid (∀ k (hk : k < L.length), k < m + 1 → ltP (bgn L[k]) t = true) := fun k hk hkm => by
          rcases Nat.lt_or_eq_of_le (Nat.lt_succ_iff.1 hkm) with h | h
          · exact ltP_trans (HI.out.lt h hm1) hx
          · subst h; exact hx
        have hc : decide (cmpP (bgn L[m]) t < 0) = true := hx
        clear hx hA
        generalize cmpP (bgn L[m]) t = cm at *
        generalize L[m] = x at b0 b1 b2 b3 b4 CC
        go_wp2_with fail
        refine wp_region_inB (by kernel_rfl) (by kernel_rfl) ?_
        repeat (go_big_quiet_step (first
          | (go_at_call 101; exact Calls.inB (CC.out _))))
        refine wpQuiet_nil ?_
        rintro w2 ⟨⟨w3, hb2⟩, h9⟩
        obtain rfl : w2 = w3 := h9
        clear b0 b1 b2 b3 b4 t0 t1 t2 ne1 CC hmi
        go_wp2_with fail
        go_roundw
        case rel => exact ⟨m + 1, j, by go_num, rfl, by have := HM.out; omega, hj, HA2, hB, HBl.out.trans (hb2.mono HBl.out.size)⟩
        case measure => simp [intOf]; have := HM.out; omega
      · have hx' : ltP (bgn L[m]) t = false := by cases h : ltP (bgn L[m]) t; rfl; exact absurd h hx
        have HB3 : Hid (∀ k (hk : k < L.length), m ≤ k → ltP (bgn L[k]) t = false) := fun k hk hkm => by
          rcases Nat.lt_or_eq_of_le hkm with h | h
          · exact leP_trans hx' (ltP_asymm (HI.out.lt h hk))
          · subst h; exact hx'
        have hc : decide (cmpP (bgn L[m]) t < 0) = false := hx'
        clear hx hx' hB
        generalize cmpP (bgn L[m]) t = cm at *
        generalize L[m] = x at b0 b1 b2 b3 b4 CC
        go_wp2_with fail
        refine wp_region_inB (by kernel_rfl) (by kernel_rfl) ?_
        repeat (go_big_quiet_step (first
          | (go_at_call 101; exact Calls.inB (CC.out _))))
        refine wpQuiet_nil ?_
        rintro w2 ⟨⟨w3, hb2⟩, h9⟩
        obtain rfl : w2 = w3 := h9
        clear b0 b1 b2 b3 b4 t0 t1 t2 ne1 CC hmi
        go_wp2_with fail
        go_roundw
        case rel => exact ⟨i, m, rfl, rfl, HM.out.1, by have := HM.out; omega, hA, HB3, HBl.out.trans (hb2.mono HBl.out.size)⟩
        case measure => simp [intOf]; have := HM.out; omega

set_option maxHeartbeats 4000000 in
theorem covers_any (U : List Sp) (v : Value) (x : Pt) (w : World) (h : SlS w v U) (hS : SepS U) (hlen : U.length ≤ 2513169434916) :
    Calls Tryz.prog 87 #[v, PV x] w fun e w' => e = .returned (.bool (anyS U x)) ∧ Below w.heap.size w w' := by
  obtain ⟨p, c, rfl, hc1, hc2, hR⟩ := h.f
  clear h
  obtain ⟨wA, hwA⟩ : ∃ wA, w.alloc (.cells #[.int .i64 x.t, .int .i64 x.i, .string x.k] 39) = wA := ⟨_, rfl⟩
  have HBA : Hid (Below w.heap.size w wA) := by rw [← hwA]; exact (Below.refl _ _).alloc (Nat.le_refl _) _
  have HKA : Hid (Blk wA w.heap.size #[.int .i64 x.t, .int .i64 x.i, .string x.k] 39) := by rw [← hwA]; exact Blk.new w _ _
  have CB : Hid (Calls _ _ _ _ _) := bsS_any U p c x wA (hR.on HBA.out) hS hlen
  have q0 := HKA.out.cell (i := 0) rfl
  have q1 := HKA.out.cell (i := 1) rfl
  have q2 := HKA.out.cell (i := 2) rfl
  go_enter Tryz.func87, Tryz.ntmps87
  go_wp2_with fail
  try rw [hwA]
  try (go_wp2_with fail)
  refine CB.out.mono ?_
  rintro e w2 ⟨i, b, rfl, hi, hb, h1, h2, hb2⟩
  have hL := hS.look x i hi h1 h2
  clear h1 h2 CB hwA q0 q1 q2
  have HBW : Hid (Below w.heap.size w w2) := HBA.out.trans (hb2.mono HBA.out.size)
  have hbd : decide (∃ h : i < U.length, bgn U[i] = x) = b := by cases b <;> simp_all
  rw [hbd] at hL
  have HK2 := HKA.out.on hb2
  have t0 := InB.cell (w := w2) (HK2.cell (i := 0) rfl) HK2.lt
  have t1 := InB.cell (w := w2) (HK2.cell (i := 1) rfl) HK2.lt
  have t2 := InB.cell (w := w2) (HK2.cell (i := 2) rfl) HK2.lt
  have ne1 := inB_ne w2
  have HRx : Hid (RowS w2 w2.heap.size p U) := (hR.on HBA.out).on hb2
  clear hbd hb hR HK2 HKA hb2 HBA
  cases b with
  | true =>
    rw [Bool.true_or] at hL
    have HL : Hid (anyS U x = true) := hL
    clear hL HRx
    go_wp2_with fail
    refine wp_region_inB (by kernel_rfl) (by kernel_rfl) ?_
    repeat (go_big_quiet_step (first | (go_at_call 70; fail)))
    refine wpQuiet_nil ?_
    rintro w3 ⟨⟨w4, hb4⟩, h9⟩
    obtain rfl : w3 = w4 := h9
    go_wp2_with fail
    go_ret
    exact ⟨by rw [HL.out]; rfl, HBW.out.trans (hb4.mono HBW.out.size)⟩
  | false =>
    rw [Bool.false_or] at hL
    cases i with
    | zero =>
      dsimp only at hL
      have HL : Hid (anyS U x = false) := hL
      clear hL HRx
      go_wp2_with fail
      refine wp_region_inB (by kernel_rfl) (by kernel_rfl) ?_
      repeat (go_big_quiet_step (first | (go_at_call 70; fail)))
      refine wpQuiet_nil ?_
      rintro w3 ⟨⟨w4, hb4⟩, h9⟩
      obtain rfl : w3 = w4 := h9
      go_wp2_with fail
      go_ret
      exact ⟨by rw [HL.out]; rfl, HBW.out.trans (hb4.mono HBW.out.size)⟩
    | succ j =>
      have hj : j < U.length := by omega
      simp only [hj, dif_pos] at hL
      obtain ⟨b, o, hp, hb, d0, d1, d2, d3, d4⟩ := HRx.out j hj
      subst hp
      have b0 := InB.cell (w := w2) d0 hb
      have b1 := InB.cell (w := w2) d1 hb
      have b2 := InB.cell (w := w2) d2 hb
      have b3 := InB.cell (w := w2) d3 hb
      have b4 := InB.cell (w := w2) d4 hb
      have CI : Hid (∀ w5 : World, Calls Tryz.prog 70 #[PV x, SV U[j]] w5 fun e w' => e = .returned (.bool (inS x U[j])) ∧ Below w5.heap.size w5 w') := fun w5 => isIn_any x U[j] w5
      have hji : ((j + 1 : Nat) : Int) - 1 = (j : Int) := by omega
      have HL : Hid (anyS U x = inS x U[j]) := hL
      clear d0 d1 d2 d3 d4 hb HRx hL
      generalize inS x U[j] = bi at *
      generalize U[j] = s at *
      have gl : decide (((j + 1 : Nat) : Int) > 0) = true := decide_eq_true (by omega)
      go_wp2_with fail
      refine wp_region_inB (by kernel_rfl) (by kernel_rfl) ?_
      repeat (go_big_quiet_step (first | (go_at_call 70; exact Calls.inB (CI.out _))))
      refine wpQuiet_nil ?_
      rintro w3 ⟨⟨w4, hb4⟩, h9⟩
      obtain rfl : w3 = w4 := h9
      go_wp2_with fail
      go_ret
      exact ⟨by rw [HL.out]; rfl, HBW.out.trans (hb4.mono HBW.out.size)⟩

end Go.Proofs.YtcknhjabdjbjiaaGreat

namespace Go.Proofs.YtcknhjabdjbjiaaGreat
open Go.RowKit
set_option maxRecDepth 100000

theorem cmpS_cb (a b : ByteArray) : cmpS a b = Lib.compareBytes a.data.toList b.data.toList := by
  unfold cmpS
  rw [ByteArray.toList_eq, ByteArray.toList_eq, less_cb, eq_cb]
  rcases cb_range a.data.toList b.data.toList with h | h | h <;> simp [h]

set_option maxHeartbeats 1000000 in
theorem rstr_any (a b : ByteArray) (w : World) : Calls Tryz.prog 79 #[.string a, .string b] w fun e w' => e = .returned (.int .i64 (Lib.compareBytes a.data.toList b.data.toList)) ∧ w' = w := by
  rw [← cmpS_cb]
  unfold cmpS
  cases h1 : Op.bytesLess a.toList b.toList <;> cases h2 : (a.toList == b.toList)
  all_goals
    go_enter Tryz.func79, Tryz.ntmps79
    go_wp2
    go_ret
    exact ⟨rfl, rfl⟩

set_option maxHeartbeats 1000000 in
theorem rhas_any (lo hi : ByteArray) (op : Bool) (k : ByteArray) (w : World) :
    Calls Tryz.prog 92 #[rngV lo hi op, .string k] w fun e w' => e = .returned (.bool (hasB lo hi op k)) ∧ Below w.heap.size w w' := by
  unfold hasB ltB
  cases h1 : Op.bytesLess k.toList lo.toList <;> cases op <;> cases h2 : Op.bytesLess k.toList hi.toList
  all_goals
    go_enter Tryz.func92, Tryz.ntmps92
    go_wp2
    go_ret
    exact ⟨rfl, by go_grown⟩

set_option maxHeartbeats 2000000 in
theorem rcmp_any (x y : Pt) (w : World) : Calls Tryz.prog 65 #[PV x, PV y] w fun e w' => e = .returned (.int .i64 (cmpP x y)) ∧ Below w.heap.size w w' := by
  have C3 : Hid (∀ w1 : World, Calls _ _ _ _ _) := fun w1 => rstr_any x.k y.k w1
  unfold cmpP
  generalize Lib.compareBytes x.k.data.toList y.k.data.toList = r3 at *
  rcases cmpI_cases x.t y.t with ⟨h, e⟩ | ⟨h, e⟩ | ⟨h, e⟩
  · have h1 : (x.t != y.t) = true := by simp; omega
    rw [e]
    go_enter Tryz.func65, Tryz.ntmps65
    go_wp2_with fail
    go_ret
    exact ⟨rfl, by go_grown⟩
  · have h1 : (x.t != y.t) = false := by simp [h]
    rw [e]
    rcases cmpI_cases x.i y.i with ⟨h2, e2⟩ | ⟨h2, e2⟩ | ⟨h2, e2⟩
    · have h3 : (x.i != y.i) = true := by simp; omega
      rw [e2]
      clear h
      go_enter Tryz.func65, Tryz.ntmps65
      go_wp2_with fail
      go_ret
      exact ⟨rfl, by go_grown⟩
    · have h3 : (x.i != y.i) = false := by simp [h2]
      rw [e2]
      clear h h2
      go_enter Tryz.func65, Tryz.ntmps65
      go_wp2_with fail
      refine (C3.out _).mono ?_
      rintro e w1 ⟨rfl, hw1⟩
      rw [hw1]
      clear hw1
      go_wp2_with fail
      go_ret
      exact ⟨rfl, by go_grown⟩
    · have h3 : (x.i != y.i) = true := by simp; omega
      have h4 : decide (x.i < y.i) = false := by simp; omega
      rw [e2]
      clear h h2
      go_enter Tryz.func65, Tryz.ntmps65
      go_wp2_with fail
      go_ret
      exact ⟨rfl, by go_grown⟩
  · have h1 : (x.t != y.t) = true := by simp; omega
    have h4 : decide (x.t < y.t) = false := by simp; omega
    rw [e]
    clear h
    go_enter Tryz.func65, Tryz.ntmps65
    go_wp2_with fail
    go_ret
    exact ⟨rfl, by go_grown⟩

set_option maxHeartbeats 4000000 in
theorem rspanned_any (x : Pt) (L : List Sp) (p : Option Addr) (c : Nat) (w : World) (hR : RowS w w.heap.size p L) (hlen : L.length ≤ 2513169434916) :
    Calls Tryz.prog 78 #[.slice p L.length c, PV x] w fun e w' => e = .returned (.bool (L.any (fun s => inS x s))) ∧ Below w.heap.size w w' := by
  have hal : Below w.heap.size w (w.alloc (.cells #[.int .i64 x.t, .int .i64 x.i, .string x.k] 39)) := (Below.refl _ _).alloc (Nat.le_refl _) _
  have HW : Hid (Blk (w.alloc (.cells #[.int .i64 x.t, .int .i64 x.i, .string x.k] 39)) w.heap.size #[.int .i64 x.t, .int .i64 x.i, .string x.k] 39 ∧ RowS (w.alloc (.cells #[.int .i64 x.t, .int .i64 x.i, .string x.k] 39)) (w.alloc (.cells #[.int .i64 x.t, .int .i64 x.i, .string x.k] 39)).heap.size p L ∧ Below w.heap.size w (w.alloc (.cells #[.int .i64 x.t, .int .i64 x.i, .string x.k] 39))) := ⟨Blk.new w _ _, hR.on hal, hal⟩
  have HST : Hid (∀ (j : Nat) (hj : j < L.length), j ≤ firstG (fun s => inS x s) L → (inS x L[j] = true → firstG (fun s => inS x s) L = j) ∧ (inS x L[j] = false → j + 1 ≤ firstG (fun s => inS x s) L)) := firstG_step (fun s => inS x s) L
  have HIF : Hid (firstG (fun s => inS x s) L = L.length ↔ L.any (fun s => inS x s) = false) := firstG_iff (fun s => inS x s) L
  have HFL := firstG_le (fun s => inS x s) L
  clear hR hal
  generalize firstG (fun s => inS x s) L = f at *
  generalize L.any (fun s => inS x s) = an at *
  go_enter Tryz.func78, Tryz.ntmps78
  go_wp2_with fail
  generalize (w.alloc (.cells #[.int .i64 x.t, .int .i64 x.i, .string x.k] 39)) = wA at *
  go_loopw [5] (fun i wr => ∃ j : Nat, j ≤ f ∧ i = .int .i64 (j : Int) ∧ Hid (Below wA.heap.size wA wr)) (fun i _ => L.length - (intOf i).toNat)
  case atStart => exact ⟨0, Nat.zero_le _, by go_num, Below.refl _ _⟩
  case round =>
    obtain ⟨j, hj, rfl, HN⟩ := hrel
    have HE : Hid (Below w.heap.size w wr) := HW.out.2.2.trans (HN.out.mono HW.out.2.2.size)
    by_cases hj0 : j = L.length
    · have han : an = false := HIF.out.1 (by omega)
      subst hj0 han
      go_wp2_with fail
      go_ret
      exact ⟨rfl, HE.out⟩
    · have hj1 : j < L.length := by omega
      obtain ⟨b, o, hp, hbB, c0, c1, c2, c3, c4⟩ := (HW.out.2.1.on HN.out) j hj1
      have s0 := InB.cell (w := wr) c0 hbB
      have s1 := InB.cell (w := wr) c1 hbB
      have s2 := InB.cell (w := wr) c2 hbB
      have s3 := InB.cell (w := wr) c3 hbB
      have s4 := InB.cell (w := wr) c4 hbB
      have hX := HW.out.1.on HN.out
      have a0 := InB.cell (w := wr) (hX.cell (i := 0) rfl) hX.lt
      have a1 := InB.cell (w := wr) (hX.cell (i := 1) rfl) hX.lt
      have a2 := InB.cell (w := wr) (hX.cell (i := 2) rfl) hX.lt
      have ne1 := inB_ne wr
      have hst := HST.out j hj1 hj
      subst hp
      clear hj0 c0 c1 c2 c3 c4 hX hbB
      generalize L[j] = s at *
      have CH : Hid (∀ w1 : World, Calls Tryz.prog 92 #[rngV s.lo s.hi s.op, .string x.k] w1 fun e w' => e = .returned (.bool (hasB s.lo s.hi s.op x.k)) ∧ Below w1.heap.size w1 w') := fun w1 => rhas_any s.lo s.hi s.op x.k w1
      have hin : inS x s = ((s.t == x.t) && ((s.i == x.i) && hasB s.lo s.hi s.op x.k)) := by
        unfold inS
        rw [show (x.t == s.t) = (s.t == x.t) from by rw [Bool.eq_iff_iff, beq_iff_eq, beq_iff_eq]; exact ⟨Eq.symm, Eq.symm⟩, show (x.i == s.i) = (s.i == x.i) from by rw [Bool.eq_iff_iff, beq_iff_eq, beq_iff_eq]; exact ⟨Eq.symm, Eq.symm⟩]
      rw [hin] at hst
      clear hin
      generalize hasB s.lo s.hi s.op x.k = hb at *
      cases h1 : (s.t == x.t) <;> cases h2 : (s.i == x.i) <;> cases hb
      all_goals
        rw [h1, h2] at hst
        simp only [Bool.and_true, Bool.and_false, Bool.and_self, Bool.false_eq_true, false_implies, true_and, forall_const] at hst
        go_wp2_with fail
        refine wp_region_inB (by kernel_rfl) (by kernel_rfl) ?_
        repeat (go_big_quiet_step (first
          | (go_at_call 92; exact Calls.inB (CH.out _))))
        refine wpQuiet_nil ?_
        rintro w7 ⟨⟨w8, hb7⟩, h9⟩
        obtain rfl : w7 = w8 := h9
        clear s0 s1 s2 s3 s4 a0 a1 a2 ne1 CH
        go_wp2_with fail
      all_goals first
        | (go_roundw
           case rel => exact ⟨j + 1, by omega, by go_num, HN.out.trans (hb7.mono HN.out.size)⟩
           case measure => simp [intOf]; omega)
        | (go_ret
           have han : an = true := by
             cases h : an
             · have := HIF.out.2 h; omega
             · rfl
           exact ⟨by rw [han]; rfl, HE.out.trans (hb7.mono HE.out.size)⟩)

end Go.Proofs.YtcknhjabdjbjiaaGreat
