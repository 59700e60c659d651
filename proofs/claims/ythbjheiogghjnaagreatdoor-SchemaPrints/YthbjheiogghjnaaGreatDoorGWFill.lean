/- The walk of Fill. The walk of what each statement of layer 3 asks besides: the layer answers. -/
import Derived.Laws.MakeOwn
import Derived.Test.YthbjheiogghjnaaGreatDoorGWAdmits
namespace Go.Proofs.YthbjheiogghjnaaGreatDoor
open Go.RowKit
set_option maxRecDepth 100000

def zV : Vl := ⟨0, 0, 0, ⟨#[]⟩⟩
/-- the row of some values at some columns and of defaults: the first k values -/
def fillK (cs : List Cl) (cols : List Int) (vals : List Vl) (k : Nat) : List Vl := ((cols.zip vals).take k).foldl (fun r p => r.set p.1.toNat p.2) (cs.map Cl.df)
def fillR (cs : List Cl) (cols : List Int) (vals : List Vl) : List Vl := fillK cs cols vals cols.length
/-- the first k defaults -/
def defK (cs : List Cl) (k : Nat) : List Vl := (List.range cs.length).map fun i => if i < k then (cs.map Cl.df).getD i zV else zV
def fillE (t : Tb) (cols : List Int) (vals : List Vl) : Int := if checkS t = 0 then (if cols.length = vals.length ∧ apartB t.cs.length cols = true then firstE (admsE t.cs (fillR t.cs cols vals)) t.cs.length else 1) else checkS t

def fillO (t : Tb) (cols : List Int) (vals : List Vl) : List Vl := if fillE t cols vals = 0 then fillR t.cs cols vals else []

theorem foldl_set_len : ∀ (l : List (Int × Vl)) (r : List Vl), (l.foldl (fun r p => r.set p.1.toNat p.2) r).length = r.length
  | [], _ => rfl
  | p :: l, r => by rw [List.foldl_cons, foldl_set_len l, List.length_set]
theorem fillK_len (cs : List Cl) (cols : List Int) (vals : List Vl) (k : Nat) : (fillK cs cols vals k).length = cs.length := by
  unfold fillK; rw [foldl_set_len, List.length_map]
theorem fillK_succ {cs : List Cl} {cols : List Int} {vals : List Vl} {k : Nat} (h1 : k < cols.length) (h2 : k < vals.length) : fillK cs cols vals (k + 1) = (fillK cs cols vals k).set cols[k].toNat vals[k] := by
  unfold fillK
  have hk : k < (cols.zip vals).length := by simp; omega
  rw [← List.take_append_getElem hk, List.foldl_append]
  simp
theorem fillK_zero (cs : List Cl) (cols : List Int) (vals : List Vl) : fillK cs cols vals 0 = cs.map Cl.df := rfl
theorem defK_len (cs : List Cl) (k : Nat) : (defK cs k).length = cs.length := by simp [defK]
theorem defK_zero (cs : List Cl) : defK cs 0 = List.replicate cs.length zV := by
  apply List.ext_getElem (by simp [defK])
  intro i h1 h2
  simp [defK]
theorem defK_all (cs : List Cl) : defK cs cs.length = cs.map Cl.df := by
  apply List.ext_getElem (by simp [defK])
  intro i h1 h2
  have hi : i < cs.length := by simpa [defK] using h1
  simp [defK, hi]
theorem defK_succ {cs : List Cl} {k : Nat} (hk : k < cs.length) : defK cs (k + 1) = (defK cs k).set k cs[k].df := by
  apply List.ext_getElem (by simp [defK])
  intro i h1 h2
  have hi : i < cs.length := by simpa [defK] using h1
  rw [List.getElem_set]
  by_cases e : k = i
  · subst e
    simp [defK, hi]
  · rw [if_neg e]
    have e2 : i < k + 1 ↔ i < k := by omega
    simp [defK, e2]
theorem foldl_set_ok : ∀ (l : List (Int × Vl)) (r : List Vl), (∀ v ∈ r, v.ok) → (∀ p ∈ l, p.2.ok) → ∀ v ∈ l.foldl (fun r p => r.set p.1.toNat p.2) r, v.ok
  | [], _, hr, _ => hr
  | p :: l, r, hr, hl => by
    rw [List.foldl_cons]
    refine foldl_set_ok l _ (fun v hv => ?_) (fun q hq => hl q (List.mem_cons_of_mem _ hq))
    rcases List.mem_or_eq_of_mem_set hv with h | h
    · exact hr v h
    · subst h
      exact hl p List.mem_cons_self
theorem fillR_ok {cs : List Cl} {cols : List Int} {vals : List Vl} (h1 : ∀ c ∈ cs, c.df.ok) (h2 : ∀ v ∈ vals, v.ok) : ∀ v ∈ fillR cs cols vals, v.ok := by
  refine foldl_set_ok _ _ (fun v hv => ?_) (fun p hp => ?_)
  · obtain ⟨c, hc, rfl⟩ := List.mem_map.1 hv
    exact h1 c hc
  · exact h2 _ (List.of_mem_zip (List.mem_of_mem_take hp)).2
theorem made_cells (n : Nat) : (madeCells #[.int .i64 0, .int .i64 0, .float .f64 0, .string ⟨#[]⟩] (n * 4)).toList = vcells (List.replicate n zV) := by
  apply List.ext_getElem?
  intro j
  by_cases hj : j < n * 4
  · have e := vcell_at (List.replicate n zV) (j / 4) (by simp; omega) (j % 4) (Nat.mod_lt _ (by decide))
    have e2 : j / 4 * 4 + j % 4 = j := by omega
    rw [e2] at e
    rw [e]
    have h4 : j % 4 = 0 ∨ j % 4 = 1 ∨ j % 4 = 2 ∨ j % 4 = 3 := by omega
    rcases h4 with h | h | h | h <;> simp [madeCells, hj, h, vcell, zV]
  · rw [List.getElem?_eq_none (by simp [madeCells]; omega), List.getElem?_eq_none (by rw [vcells_len]; simp; omega)]
theorem OwnV.rowG {w : World} {B g n cap : Nat} {L : List Vl} (h : OwnV w B (.slice (some ⟨g, 0, none⟩) n cap) L) : RowV w w.heap.size (some ⟨g, 0, none⟩) L := by
  obtain ⟨p, c, e, hr⟩ := h.row
  injection e with e1 _ _
  rw [e1]
  exact hr
theorem apart_in {n : Nat} {l : List Int} (h : apartB n l = true) {j : Nat} (hj : j < l.length) : 0 ≤ l[j] ∧ l[j] < n := by
  unfold apartB at h
  rw [Bool.and_eq_true] at h
  have := List.all_eq_true.1 h.1 _ (List.getElem_mem hj)
  simpa using this
theorem BoxT.set {w : World} {b g o : Nat} {t : Tb} {a : TabP} {v : Value} (h : BoxT w b t a) (hne : b ≠ g) : BoxT (w.setCell ⟨g, o, none⟩ v) b t a := by
  have k : ∀ {j : Nat} {u : Option Value}, w.cell? ⟨b, j, none⟩ = u → (w.setCell ⟨g, o, none⟩ v).cell? ⟨b, j, none⟩ = u := fun {j u} hc => (World.cell?_setCell_other _ _ _ _ (by intro h; injection h with h _; exact hne h.symm)).trans hc
  exact ⟨by simpa using h.hg, k h.c0, k h.c1, k h.c2, k h.c3, k h.c4⟩
theorem tupOwn {v : Value} {a b : Int} (h : a = b) : Ending.returned (.tuple #[v, .int .i64 a]) = Ending.returned (.tuple #[v, .int .i64 b]) := by rw [h]

set_option maxHeartbeats 8000000 in
theorem fill_any (t : Tb) (a : TabP) (cols : List Int) (pc' : Option Addr) (cc' : Nat) (vals : List Vl) (pv : Option Addr) (cv : Nat) (w : World) (hV : TabV w w.heap.size t a) (hok : t.ok) (hC : RowI w w.heap.size pc' cols) (hW : RowV w w.heap.size pv vals) (hcl : cols.length ≤ 17592186043904) (_hvl : vals.length ≤ 17592186043904) (hvo : ∀ v ∈ vals, v.ok) (hE : Env w) :
    Calls Tryz.prog 19 #[a.val t, .slice pc' cols.length cc', .slice pv vals.length cv] w fun e w' => ∃ v, e = .returned (.tuple #[v, .int .i64 (fillE t cols vals)]) ∧ OwnV w' w.heap.size v (fillO t cols vals) ∧ Below w.heap.size w w' := by
  obtain ⟨pc, cc, pk, ck, px, cx, pr, cr⟩ := a
  have CC : Hid (∀ w1, Below w.heap.size w w1 → Calls Tryz.prog 8 #[.agg #[.string t.nm, .slice pc t.cs.length cc, .slice pk t.key.length ck, .slice px t.ix.length cx, .slice pr t.rf.length cr]] w1 fun e w' => e = .returned (.int .i64 (checkS t)) ∧ Below w1.heap.size w1 w') := fun w1 hb => check_anyT t ⟨pc, cc, pk, ck, px, cx, pr, cr⟩ w1 (hV.on hb) hok (hE.on hb)
  have HB : Hid (BoxT _ _ _ _) := BoxT.new w t ⟨pc, cc, pk, ck, px, cx, pr, cr⟩
  have hb0 : Below w.heap.size w (w.alloc (.cells #[.string t.nm, .slice pc t.cs.length cc, .slice pk t.key.length ck, .slice px t.ix.length cx, .slice pr t.rf.length cr] 27)) := by go_grown
  have HF : Hid (fillE t cols vals = if checkS t = 0 then (if cols.length = vals.length ∧ apartB t.cs.length cols = true then firstE (admsE t.cs (fillR t.cs cols vals)) t.cs.length else 1) else checkS t) := rfl
  have HV : Hid (TabV w w.heap.size t ⟨pc, cc, pk, ck, px, cx, pr, cr⟩ ∧ t.ok ∧ RowI w w.heap.size pc' cols ∧ RowV w w.heap.size pv vals ∧ (∀ v ∈ vals, v.ok) ∧ Env w) := ⟨hV, hok, hC, hW, hvo, hE⟩
  have HCN : Hid (checkS t = 0 → 1 ≤ t.cs.length ∧ t.cs.length ≤ 64) := checkS_counts t
  clear hV hok hC hW hvo hE
  have HO : Hid (fillO t cols vals = if fillE t cols vals = 0 then fillR t.cs cols vals else []) := rfl
  generalize fillO t cols vals = R at *
  generalize fillE t cols vals = d at *
  unfold TabP.val
  dsimp only
  by_cases hch : checkS t = 0
  · have hcn := HCN.out hch
    rw [hch] at CC HF
    rw [if_pos rfl] at HF
    clear hch HCN
    have CA : Hid (∀ w1, Below w.heap.size w w1 → Calls Tryz.prog 38 #[.agg #[.string t.nm, .slice pc t.cs.length cc, .slice pk t.key.length ck, .slice px t.ix.length cx, .slice pr t.rf.length cr], .slice pc' cols.length cc'] w1 fun e w' => e = .returned (.bool (apartB t.cs.length cols)) ∧ Below w1.heap.size w1 w') := fun w1 hb => apart_any t ⟨pc, cc, pk, ck, px, cx, pr, cr⟩ cols pc' cc' w1 (HV.out.2.2.1.on hb) hcn.2 hcl
    go_enter Tryz.func19, Tryz.ntmps19
    go_wp2_with fail
    refine (CC.out _ hb0).mono ?_
    rintro e w1 ⟨rfl, hb1⟩
    have h01 : Below w.heap.size w w1 := hb0.trans (hb1.mono hb0.size)
    have HB1 : Hid (BoxT w1 w.heap.size t ⟨pc, cc, pk, ck, px, cx, pr, cr⟩) := HB.out.on hb1 (by simp)
    obtain ⟨hz1, e0, e1, e2, e3, e4⟩ := HB1.out
    dsimp only at e0 e1 e2 e3 e4
    clear CC hb1 hb0 HB
    by_cases hl : cols.length = vals.length
    · have hl' : ((cols.length : Int) != (vals.length : Int)) = false := by rw [hl]; simp
      cases hap : apartB t.cs.length cols
      · rw [hap] at CA HF
        have hd : Hid (d = 1 ∧ R = []) := by
          rw [if_neg (by simp)] at HF
          exact ⟨HF.out, by rw [HO.out, HF.out]; rfl⟩
        have HL : Hid (cols.length = vals.length ∧ True) := ⟨hl, trivial⟩
        clear HF hl HO
        go_wp2_with fail
        refine (CA.out _ h01).mono ?_
        rintro e w2 ⟨rfl, hb2⟩
        go_wp2
        go_ret2
        exact ⟨_, tupOwn hd.out.1.symm, by rw [hd.out.2]; exact OwnV.nil _ _, h01.trans (hb2.mono h01.size)⟩
      · rw [hap] at CA HF
        rw [if_pos ⟨hl, rfl⟩] at HF
        have HL : Hid (cols.length = vals.length ∧ apartB t.cs.length cols = true) := ⟨hl, hap⟩
        clear hl hap
        go_wp2_with fail
        refine (CA.out _ h01).mono ?_
        rintro e w2 ⟨rfl, hb2⟩
        have h02 : Below w.heap.size w w2 := h01.trans (hb2.mono h01.size)
        have HB2 : Hid (BoxT w2 w.heap.size t ⟨pc, cc, pk, ck, px, cx, pr, cr⟩) := HB1.out.on hb2 hz1
        clear e0 e1 e2 e3 e4
        obtain ⟨hz2, e0, e1, e2, e3, e4⟩ := HB2.out
        dsimp only at e0 e1 e2 e3 e4
        clear hb2 CA HB1 h01
        have hmk : ∀ w3 : World, (Instr.makeSlice 54 (.int .i64 (t.cs.length : Int)) (.int .i64 (t.cs.length : Int))).run Tryz.prog w3 = .ok (.slice (some ⟨w3.heap.size, 0, none⟩) t.cs.length t.cs.length) (w3.alloc (.cells (madeCells #[.int .i64 0, .int .i64 0, .float .f64 0, .string ⟨#[]⟩] (t.cs.length * 4)) 38)) := by
          intro w3
          obtain ⟨i, hi, q0, q1, q2⟩ := info_parts1 info_val
          have := run_make (P := Tryz.prog) w3 54 38 i _ Tryz.underlying54 hi q0 .i64 .i64 (t.cs.length : Int) (t.cs.length : Int) (by omega) (Int.le_refl _) (by rw [q2]; omega) (by omega)
          rw [this, q1]
          simp [Value.cells]
        go_wp2_with fail
        have hO3 : Hid (OwnV (w2.alloc (.cells (madeCells #[.int .i64 0, .int .i64 0, .float .f64 0, .string ⟨#[]⟩] (t.cs.length * 4)) 38)) w.heap.size (.slice (some ⟨w2.heap.size, 0, none⟩) t.cs.length t.cs.length) (defK t.cs 0)) := by
          show World.ownsRow _ _ _ _ _ _ _
          rw [defK_zero, ← made_cells, List.length_replicate]
          exact World.ownsRow_lit w2 _ _ h02.size (by unfold maxLen; omega) (size_madeCells _ _)
        have h23 : Below w2.heap.size w2 (w2.alloc (.cells (madeCells #[.int .i64 0, .int .i64 0, .float .f64 0, .string ⟨#[]⟩] (t.cs.length * 4)) 38)) := by go_grown
        have h03 : Below w.heap.size w (w2.alloc (.cells (madeCells #[.int .i64 0, .int .i64 0, .float .f64 0, .string ⟨#[]⟩] (t.cs.length * 4)) 38)) := h02.trans (h23.mono h02.size)
        have HB3 : Hid (BoxT (w2.alloc (.cells (madeCells #[.int .i64 0, .int .i64 0, .float .f64 0, .string ⟨#[]⟩] (t.cs.length * 4)) 38)) w.heap.size t ⟨pc, cc, pk, ck, px, cx, pr, cr⟩) := HB2.out.on h23 hz2
        obtain ⟨g, hg⟩ : ∃ g, w2.heap.size = g := ⟨_, rfl⟩
        rw [hg] at hO3 ⊢
        have hgw : w.heap.size < g := by rw [← hg]; exact hz2
        generalize w2.alloc (.cells (madeCells #[.int .i64 0, .int .i64 0, .float .f64 0, .string ⟨#[]⟩] (t.cs.length * 4)) 38) = w3 at *
        clear HB2 h02 h23 hmk hg e0 e1 e2 e3 e4
        have hsf := run_store_float
        go_loopw [38] (fun k wr => ∃ j : Nat, j ≤ t.cs.length ∧ k = .int .i64 (j : Int) ∧ Hid (OwnV wr w.heap.size (.slice (some ⟨g, 0, none⟩) t.cs.length t.cs.length) (defK t.cs j)) ∧ Hid (BoxT wr w.heap.size t ⟨pc, cc, pk, ck, px, cx, pr, cr⟩) ∧ Hid (Below w.heap.size w wr)) (fun k _ => t.cs.length - (intOf k).toNat)
        case atStart => exact ⟨0, Nat.zero_le _, by go_num, hO3, HB3, h03⟩
        case round =>
          obtain ⟨j, hj, rfl, hO, hBr, hbw⟩ := hrel
          by_cases hj0 : j = t.cs.length
          · subst hj0
            rw [defK_all, ← fillK_zero t.cs cols vals] at hO
            go_wp2_with fail
            generalize wr = w4 at *
            clear hO3 HB3 h03
            go_loopw [51] (fun k wr => ∃ j : Nat, j ≤ cols.length ∧ k = .int .i64 (j : Int) ∧ Hid (OwnV wr w.heap.size (.slice (some ⟨g, 0, none⟩) t.cs.length t.cs.length) (fillK t.cs cols vals j)) ∧ Hid (BoxT wr w.heap.size t ⟨pc, cc, pk, ck, px, cx, pr, cr⟩) ∧ Hid (Below w.heap.size w wr)) (fun k _ => cols.length - (intOf k).toNat)
            case atStart => exact ⟨0, Nat.zero_le _, by go_num, hO, hBr, hbw⟩
            case round =>
              clear hO hBr hbw
              obtain ⟨j, hj, rfl, hO, hBr, hbw⟩ := hrel
              by_cases hj0 : j = cols.length
              · subst hj0
                have CV : Hid (Calls Tryz.prog 39 #[.agg #[.string t.nm, .slice pc t.cs.length cc, .slice pk t.key.length ck, .slice px t.ix.length cx, .slice pr t.rf.length cr], .slice (some ⟨g, 0, none⟩) t.cs.length t.cs.length] wr fun e w' => e = .returned (.int .i64 (firstE (admsE t.cs (fillR t.cs cols vals)) t.cs.length)) ∧ Below wr.heap.size wr w') := by
                  have h := admVs_any t ⟨pc, cc, pk, ck, px, cx, pr, cr⟩ (fillR t.cs cols vals) (some ⟨g, 0, none⟩) t.cs.length wr (HV.out.1.on hbw.out) hO.out.rowG (fillK_len _ _ _ _) hcn.2 (fillR_ok (fun c hc => (HV.out.2.1.cn c hc).2) HV.out.2.2.2.2.1) (HV.out.2.2.2.2.2.on hbw.out)
                  rw [show (fillR t.cs cols vals).length = t.cs.length from fillK_len _ _ _ _] at h
                  exact h
                obtain ⟨hz3, e0, e1, e2, e3, e4⟩ := hBr.out
                dsimp only at e0 e1 e2 e3 e4
                rw [← HF.out] at CV
                go_wp2_with fail
                refine CV.out.mono ?_
                rintro e w5 ⟨rfl, hb5⟩
                have h05 : Below w.heap.size w w5 := hbw.out.trans (hb5.mono hbw.out.size)
                have HO5 : Hid (OwnV w5 w.heap.size (.slice (some ⟨g, 0, none⟩) t.cs.length t.cs.length) (fillR t.cs cols vals)) := hO.out.kept hb5
                by_cases hd : d = 0
                · have hR : Hid (R = fillR t.cs cols vals) := by show R = _; rw [HO.out, if_pos hd]
                  clear HF HO
                  subst hd
                  go_wp2
                  go_ret2
                  exact ⟨_, rfl, by rw [hR.out]; exact HO5.out, h05⟩
                · have hR : Hid (R = []) := by show R = _; rw [HO.out, if_neg hd]
                  have hd' : (d != 0) = true := by simpa using hd
                  clear HF HO hd
                  go_wp2
                  go_ret2
                  exact ⟨_, rfl, by rw [hR.out]; exact OwnV.nil _ _, h05⟩
              · have hj1 : j < cols.length := by omega
                have hj2 : j < vals.length := by have := HL.out.1; omega
                obtain ⟨b, o, rfl, hbB, a0⟩ := HV.out.2.2.1 j hj1
                obtain ⟨b', o', rfl, hbB', r0, r1, r2, r3⟩ := HV.out.2.2.2.1 j hj2
                have y0 := (hbw.out.cell (p := ⟨b, _, none⟩) hbB).trans a0
                have s0 := (hbw.out.cell (p := ⟨b', _, none⟩) hbB').trans r0
                have s1 := (hbw.out.cell (p := ⟨b', _, none⟩) hbB').trans r1
                have s2 := (hbw.out.cell (p := ⟨b', _, none⟩) hbB').trans r2
                have s3 := (hbw.out.cell (p := ⟨b', _, none⟩) hbB').trans r3
                have HD : Hid (fillK t.cs cols vals (j + 1) = (fillK t.cs cols vals j).set cols[j].toNat vals[j]) := fillK_succ hj1 hj2
                obtain ⟨x0, x1⟩ := apart_in HL.out.2 hj1
                have jv : (j : Int) < (vals.length : Int) := by omega
                clear a0 r0 r1 r2 r3
                generalize cols[j] = x at *
                generalize vals[j] = v at *
                obtain ⟨k, rfl⟩ : ∃ k : Nat, x = (k : Int) := ⟨x.toNat, by omega⟩
                rw [Int.toNat_natCast] at HD
                have hk : k < t.cs.length := by omega
                obtain ⟨⟨m0, m1, m2, m3⟩, f0, f1, f2, f3⟩ := hO.out.at (fillK_len _ _ _ _) k (by rw [fillK_len]; exact hk)
                generalize (fillK t.cs cols vals j)[k]'(by rw [fillK_len]; exact hk) = old at *
                obtain ⟨vk, vn, vf, vs⟩ := v
                obtain ⟨ok, on, of, os⟩ := old
                dsimp only at y0 s0 s1 s2 s3 m0 m1 m2 m3 HD
                have HU : Hid (OwnV _ _ _ _) := hO.out.set (fillK_len _ _ _ _) k (by rw [fillK_len]; exact hk) ⟨vk, vn, vf, vs⟩
                go_wp2_with fail
                go_roundw
                case rel => exact ⟨j + 1, hj1, by go_num, (show OwnV _ _ _ _ by rw [HD.out]; exact HU.out), (((hBr.out.set (by omega)).set (by omega)).set (by omega)).set (by omega), (((hbw.out.setCell (by simp; omega) _).setCell (by simp; omega) _).setCell (by simp; omega) _).setCell (by simp; omega) _⟩
                case measure => simp [intOf]; omega
          · have hj1 : j < t.cs.length := by omega
            obtain ⟨b, o, rfl, hbB, a0, a1, a2, a3, a4, a5, a6⟩ := HV.out.1.cs j hj1
            have k : ∀ {o : Nat} {v : Option Value}, w.cell? ⟨b, o, none⟩ = v → wr.cell? ⟨b, o, none⟩ = v := fun {o v} hc => (hbw.out.cell (p := ⟨b, o, none⟩) hbB).trans hc
            have y0 := k a0
            have y1 := k a1
            have y2 := k a2
            have y3 := k a3
            have y4 := k a4
            have y5 := k a5
            have y6 := k a6
            have HD : Hid (defK t.cs (j + 1) = (defK t.cs j).set j t.cs[j].df) := defK_succ hj1
            obtain ⟨⟨m0, m1, m2, m3⟩, f0, f1, f2, f3⟩ := hO.out.at (defK_len _ _) j (by rw [defK_len]; exact hj1)
            generalize (defK t.cs j)[j]'(by rw [defK_len]; exact hj1) = old at *
            clear a0 a1 a2 a3 a4 a5 a6 k
            generalize t.cs[j] = c at *
            obtain ⟨cnm, kd, nl, ⟨dk, dn, df, ds⟩⟩ := c
            obtain ⟨ok, on, of, os⟩ := old
            dsimp only at y0 y1 y2 y3 y4 y5 y6 m0 m1 m2 m3 HD
            have hgl : g < wr.heap.size := (World.ownsRow.lt hO.out g rfl).2
            have n1 : ¬ g = wr.heap.size := by omega
            have n2 : ¬ wr.heap.size = g := by omega
            have n3 : ∀ k : Nat, ¬ (⟨g, k, none⟩ : Addr).block = wr.heap.size := fun k => n1
            have HU : Hid (OwnV _ _ _ _) := hO.out.set (defK_len _ _) j (by rw [defK_len]; exact hj1) ⟨dk, dn, df, ds⟩
            go_wp2_with fail
            go_roundw
            case rel =>
              have hB1 := (((hBr.out.set (g := g) (o := j * 4) (v := .int .i64 dk) (by omega)).set (g := g) (o := j * 4 + 1) (v := .int .i64 dn) (by omega)).set (g := g) (o := j * 4 + 2) (v := .float .f64 df) (by omega)).set (g := g) (o := j * 4 + 3) (v := .string ds) (by omega)
              exact ⟨j + 1, hj1, by go_num, (show OwnV _ _ _ _ by rw [HD.out]; exact HU.out.kept ((Below.refl _ _).alloc (Nat.le_refl _) _)), hB1.on ((Below.refl _ _).alloc (Nat.le_refl _) _) hB1.hg, ((((hbw.out.setCell (by simp; omega) _).setCell (by simp; omega) _).setCell (by simp; omega) _).setCell (by simp; omega) _).alloc (by simpa using hbw.out.size) _⟩
            case measure => simp [intOf]; omega
    · have hd : Hid (d = 1 ∧ R = []) := by
        rw [if_neg (fun h => hl h.1)] at HF
        exact ⟨HF.out, by rw [HO.out, HF.out]; rfl⟩
      have hl' : ((cols.length : Int) != (vals.length : Int)) = true := by simp; omega
      clear HF hl HO
      go_wp2
      go_ret2
      exact ⟨_, tupOwn hd.out.1.symm, by rw [hd.out.2]; exact OwnV.nil _ _, h01⟩
  · rw [if_neg hch] at HF
    generalize checkS t = ch at *
    have hch' : (ch != 0) = true := by simpa using hch
    have hR : Hid (R = []) := by show R = []; rw [HO.out, HF.out, if_neg hch]
    clear HO
    go_enter Tryz.func19, Tryz.ntmps19
    go_wp2_with fail
    refine (CC.out _ hb0).mono ?_
    rintro e w1 ⟨rfl, hb1⟩
    go_wp2
    go_ret2
    exact ⟨_, tupOwn HF.out.symm, by rw [hR.out]; exact OwnV.nil _ _, hb0.trans (hb1.mono hb0.size)⟩

end Go.Proofs.YthbjheiogghjnaaGreatDoor

namespace Go.Proofs.YthbjheiogghjnaaGreatDoor
open Go.RowKit
set_option maxRecDepth 100000

def fourV : Vl := ⟨2, 4, 0, ⟨#[]⟩⟩
theorem four_ok : fourV.ok := ⟨⟨by decide, by decide⟩, ⟨by decide, by decide⟩, by decide, by decide⟩
theorem four_fill : fillR smallT.cs [0] [fourV] = [fourV] := rfl
theorem four_err : fillE smallT [0] [fourV] = 0 := by
  unfold fillE
  rw [if_pos smallT_check]
  decide +kernel
theorem four_fillO : fillO smallT [0] [fourV] = [fourV] := by
  unfold fillO
  rw [if_pos four_err]
  rfl

set_option maxHeartbeats 2000000 in
theorem rint_any (n : Int) (w : World) : Calls Tryz.prog 20 #[.int .i64 n] w fun e w' => e = .returned (.agg #[.int .i64 2, .int .i64 n, .float .f64 0, .string ⟨#[]⟩]) ∧ Below w.heap.size w w' := by
  have hsf := run_store_float
  go_enter Tryz.func20, Tryz.ntmps20
  go_wp2
  refine bodyPost_ret (v := .agg #[.int .i64 2, .int .i64 n, .float .f64 0, .string ⟨#[]⟩]) (by simp [results, Tryz.results20, go_sem]) rfl ?_
  exact ⟨rfl, by go_grown⟩

set_option maxHeartbeats 4000000 in
theorem awake3 (w : World) (hE : Env w) (hK : KW w) : Calls Tryz.prog 7 #[] w fun e w' => e = .returned (.bool true) ∧ Below w.heap.size w w' := by
  have C1 : Hid (∀ w1 : World, Calls Tryz.prog 18 #[] w1 fun e w' => ∃ a : TabP, e = .returned (a.val smallT) ∧ TabV w' w'.heap.size smallT a ∧ Below w1.heap.size w1 w') := fun w1 => small_any w1
  have C2 : Hid (∀ (a : TabP) (w1 : World), Below w.heap.size w w1 → TabV w1 w1.heap.size smallT a → Calls Tryz.prog 4 #[a.val smallT] w1 fun e w' => e = .returned (.tuple #[.string smallS, .int .i64 0]) ∧ Below w1.heap.size w1 w') := fun a w1 hb h => print_small a w1 h (hE.on hb) (hK.on hb)
  have C3 : Hid (∀ w1 : World, Calls Tryz.prog 20 #[.int .i64 4] w1 fun e w' => e = .returned (.agg #[.int .i64 2, .int .i64 4, .float .f64 0, .string ⟨#[]⟩]) ∧ Below w1.heap.size w1 w') := fun w1 => rint_any 4 w1
  have C4 : Hid (∀ (a : TabP) (pc : Option Addr) (cc : Nat) (pv : Option Addr) (cv : Nat) (w1 : World), Below w.heap.size w w1 → TabV w1 w1.heap.size smallT a → RowI w1 w1.heap.size pc [0] → RowV w1 w1.heap.size pv [fourV] → Calls Tryz.prog 19 #[a.val smallT, .slice pc 1 cc, .slice pv 1 cv] w1 fun e w' => ∃ v, e = .returned (.tuple #[v, .int .i64 0]) ∧ OwnV w' w1.heap.size v [fourV] ∧ Below w1.heap.size w1 w') := fun a pc cc pv cv w1 hb h1 h2 h3 => by
    have h := fill_any smallT a [0] pc cc [fourV] pv cv w1 h1 smallT_ok h2 h3 (by decide) (by decide) (fun v hv => by rw [List.mem_singleton.1 hv]; exact four_ok) (hE.on hb)
    rw [four_err, four_fillO] at h
    exact h
  have C5 : Hid (∀ w1 : World, Below w.heap.size w w1 → Calls Tryz.prog 8 #[.agg #[.string ⟨#[]⟩, .slice none 0 0, .slice none 0 0, .slice none 0 0, .slice none 0 0]] w1 fun e w' => e = .returned (.int .i64 30) ∧ Below w1.heap.size w1 w') := fun w1 hb => by
    have h := check_anyT noT noP w1 (noT_val _ _) noT_ok (hE.on hb)
    rw [noT_check] at h
    exact h
  have hS : (smallS.toList == ([99, 114, 101, 97, 116, 101, 32, 116, 97, 98, 108, 101, 32, 116, 32, 40, 10, 32, 32, 97, 32, 105, 110, 116, 32, 110, 111, 116, 32, 110, 117, 108, 108, 44, 10, 32, 32, 112, 114, 105, 109, 97, 114, 121, 32, 107, 101, 121, 32, 40, 97, 41, 10, 41, 10] : List UInt8)) = true := by decide +kernel
  clear hE hK
  generalize smallS = sS at *
  go_enter Tryz.func7, Tryz.ntmps7
  go_wp2_with fail
  refine (C1.out _).mono ?_
  rintro e w1 ⟨a1, rfl, hV1, hb1⟩
  go_wp2_with fail
  refine (C2.out a1 _ hb1 hV1).mono ?_
  rintro e w2 ⟨rfl, hb2⟩
  have h02 : Below w.heap.size w w2 := hb1.trans (hb2.mono hb1.size)
  clear hV1 hb1 hb2 C2
  go_wp2_with fail
  refine (C1.out _).mono ?_
  rintro e w3 ⟨a3, rfl, hV3, hb3⟩
  have h03 : Below w.heap.size w w3 := h02.trans (hb3.mono h02.size)
  clear hb3 h02 C1
  go_wp2_with fail
  have h34 : Below w3.heap.size w3 (w3.alloc (.cells #[.int .i64 0] 3)) := by go_grown
  refine (C3.out _).mono ?_
  rintro e w4 ⟨rfl, hb4⟩
  have h35 : Below w3.heap.size w3 w4 := h34.trans (hb4.mono h34.size)
  have x0 : w4.cell? ⟨w3.heap.size, 0, none⟩ = some (.int .i64 0) := (hb4.cell (p := ⟨w3.heap.size, 0, none⟩) (by simp)).trans (by simp [go_sem])
  have hz4 : w3.heap.size + 1 ≤ w4.heap.size := by simpa using hb4.size
  clear hb4 h34 C3
  go_wp2_with fail
  have h45 : Below w4.heap.size w4 (w4.alloc (.cells #[.int .i64 2, .int .i64 4, .float .f64 0, .string ⟨#[]⟩] 38)) := by go_grown
  have h3w : Below w3.heap.size w3 (w4.alloc (.cells #[.int .i64 2, .int .i64 4, .float .f64 0, .string ⟨#[]⟩] 38)) := h35.trans (h45.mono h35.size)
  have h0w : Below w.heap.size w (w4.alloc (.cells #[.int .i64 2, .int .i64 4, .float .f64 0, .string ⟨#[]⟩] 38)) := h03.trans (h3w.mono h03.size)
  refine (C4.out a3 (some ⟨w3.heap.size, 0, none⟩) 1 (some ⟨w4.heap.size, 0, none⟩) 1 _ h0w (hV3.on h3w) ?_ ?_).mono ?_
  · intro i hi
    have hi0 : i = 0 := by simpa using hi
    subst hi0
    exact ⟨w3.heap.size, 0, rfl, by simp; omega, (h45.cell (p := ⟨w3.heap.size, 0, none⟩) (by show w3.heap.size < _; omega)).trans x0⟩
  · intro i hi
    have hi0 : i = 0 := by simpa using hi
    subst hi0
    refine ⟨w4.heap.size, 0, rfl, by simp, ?_, ?_, ?_, ?_⟩ <;> simp [go_sem, fourV]
  rintro e w5 ⟨v5, rfl, hO5, hb5⟩
  have h05 : Below w.heap.size w w5 := h0w.trans (hb5.mono h0w.size)
  rcases hO5.form with ⟨_, h0⟩ | ⟨g, cap, rfl, hg1, hg2⟩
  · simp at h0
  have hc := ((hO5.at rfl 0 (by decide)).1).2.1
  have y0 : w5.cell? ⟨g, 1, none⟩ = some (.int .i64 4) := hc
  clear hc hO5 hb5 h0w h3w h45 h35 h03 hV3 C4
  go_wp2_with fail
  refine (C5.out _ h05).mono ?_
  rintro e w6 ⟨rfl, hb6⟩
  go_wp2
  go_ret
  exact ⟨rfl, h05.trans (hb6.mono h05.size)⟩

end Go.Proofs.YthbjheiogghjnaaGreatDoor
