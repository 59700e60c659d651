/- The walk of the document's Check. The walks of admitsValue and admitsValues. -/
import Derived.Test.YtfknmblobcjapaaDoorGWRSome
import Derived.Test.YtfknmblobcjapaaDoorGWQuiet
namespace Go.Proofs.YtfknmblobcjapaaDoor
open Go.RowKit
set_option maxRecDepth 100000



end Go.Proofs.YtfknmblobcjapaaDoor

namespace Go.Proofs.YtfknmblobcjapaaDoor
open Go.RowKit
set_option maxRecDepth 100000

def admE (c : Cl) (v : Vl) : Int := if v.chk = 0 then (if v.k = 0 then (if c.nl then 0 else 35) else (if v.k = c.kd then 0 else 32)) else v.chk
/-- what is told first of the values -/
def admsE (cs : List Cl) (l : List Vl) (i : Nat) : Int := match cs[i]?, l[i]? with
  | some c, some v => admE c v
  | _, _ => 0
theorem admsE_at {cs : List Cl} {l : List Vl} {i : Nat} (h1 : i < cs.length) (h2 : i < l.length) : admsE cs l i = admE cs[i] l[i] := by
  unfold admsE; rw [List.getElem?_eq_getElem h1, List.getElem?_eq_getElem h2]

set_option maxHeartbeats 4000000 in
theorem admV_any (c : Cl) (v : Vl) (w : World) (hv : v.ok) (hE : Env w) :
    Calls Tryd.prog 34 #[c.val, v.val] w fun e w' => e = .returned (.int .i64 (admE c v)) ∧ Below w.heap.size w w' := by
  have C1 : Hid (∀ w1, Below w.heap.size w w1 → Calls Tryd.prog 44 #[.agg #[.int .i64 v.k, .int .i64 v.n, .float .f64 v.f, .string v.s]] w1 fun e w' => e = .returned (.int .i64 v.chk) ∧ Below w1.heap.size w1 w') := fun w1 hb => check_ok v w1 hv (hE.on hb).hg (hE.on hb).hT
  have HC : Hid (admE c v = if v.chk = 0 then (if v.k = 0 then (if c.nl then 0 else 35) else (if v.k = c.kd then 0 else 32)) else v.chk) := rfl
  generalize admE c v = d at *
  unfold Cl.val Vl.val
  generalize v.chk = ch at *
  obtain ⟨k, n, f, s⟩ := v
  obtain ⟨nm, kd, nl, ⟨dk, dn, df, ds⟩⟩ := c
  dsimp only at C1 HC ⊢
  clear hv hE
  have hb0 : Below w.heap.size w ((w.alloc (.cells #[.string nm, .int .i64 kd, .bool nl, .int .i64 dk, .int .i64 dn, .float .f64 df, .string ds] 66)).alloc (.cells #[.int .i64 k, .int .i64 n, .float .f64 f, .string s] 44)) := by go_grown
  by_cases hch : ch = 0
  · subst hch
    rw [if_pos rfl] at HC
    by_cases hk : k = 0
    · subst hk
      rw [if_pos rfl] at HC
      cases nl
      all_goals
        go_enter Tryd.func34, Tryd.ntmps34
        go_wp2_with fail
        refine (C1.out _ hb0).mono ?_
        rintro e w5 ⟨rfl, hb5⟩
        have x0 := (hb5.cell (p := ⟨w.heap.size + 1, 0, none⟩) (by simp)).trans (show _ = some (.int .i64 0) by simp [go_sem])
        have x1 := (hb5.cell (p := ⟨w.heap.size, 1, none⟩) (by simp; omega)).trans (show _ = some (.int .i64 kd) by simp [go_sem])
        have x2 : w5.cell? ⟨w.heap.size, 2, none⟩ = some (.bool _) := (hb5.cell (p := ⟨w.heap.size, 2, none⟩) (by simp; omega)).trans (by simp [go_sem]; rfl)
        go_wp2
        go_ret
        exact ⟨errV HC.out.symm, hb0.trans (hb5.mono hb0.size)⟩
    · rw [if_neg hk] at HC
      have hk' : (k != 0) = true := by simpa using hk
      by_cases hkd : k = kd
      · subst hkd
        rw [if_pos rfl] at HC
        go_enter Tryd.func34, Tryd.ntmps34
        go_wp2_with fail
        refine (C1.out _ hb0).mono ?_
        rintro e w5 ⟨rfl, hb5⟩
        have x0 := (hb5.cell (p := ⟨w.heap.size + 1, 0, none⟩) (by simp)).trans (show _ = some (.int .i64 k) by simp [go_sem])
        have x1 := (hb5.cell (p := ⟨w.heap.size, 1, none⟩) (by simp; omega)).trans (show _ = some (.int .i64 k) by simp [go_sem])
        go_wp2
        go_ret
        exact ⟨errV HC.out.symm, hb0.trans (hb5.mono hb0.size)⟩
      · rw [if_neg hkd] at HC
        have hkd' : (k != kd) = true := by simpa using hkd
        go_enter Tryd.func34, Tryd.ntmps34
        go_wp2_with fail
        refine (C1.out _ hb0).mono ?_
        rintro e w5 ⟨rfl, hb5⟩
        have x0 := (hb5.cell (p := ⟨w.heap.size + 1, 0, none⟩) (by simp)).trans (show _ = some (.int .i64 k) by simp [go_sem])
        have x1 := (hb5.cell (p := ⟨w.heap.size, 1, none⟩) (by simp; omega)).trans (show _ = some (.int .i64 kd) by simp [go_sem])
        go_wp2
        go_ret
        exact ⟨errV HC.out.symm, hb0.trans (hb5.mono hb0.size)⟩
  · rw [if_neg hch] at HC
    go_enter Tryd.func34, Tryd.ntmps34
    go_wp2_with fail
    refine (C1.out _ hb0).mono ?_
    rintro e w5 ⟨rfl, hb5⟩
    go_wp2
    go_ret
    exact ⟨errV HC.out.symm, hb0.trans (hb5.mono hb0.size)⟩

set_option maxHeartbeats 4000000 in
theorem admVs_any (t : Tb) (a : TabP) (l : List Vl) (p : Option Addr) (cl : Nat) (w : World) (hV : TabV w w.heap.size t a) (hR : RowV w w.heap.size p l) (hn : l.length = t.cs.length) (hlen : t.cs.length ≤ 64) (hok : ∀ v ∈ l, v.ok) (hE : Env w) :
    Calls Tryd.prog 19 #[a.val t, .slice p l.length cl] w fun e w' => e = .returned (.int .i64 (firstE (admsE t.cs l) t.cs.length)) ∧ Below w.heap.size w w' := by
  obtain ⟨pc, cc, pk, ck, px, cx, pr, cr⟩ := a
  have HV : Hid (RowC w w.heap.size pc t.cs) := hV.cs
  have HR : Hid (RowV _ _ _ _) := hR
  have HOK : Hid (∀ v ∈ l, v.ok) := hok
  have HE : Hid (Env w) := hE
  have HB : Hid (BoxT _ _ _ _) := BoxT.new w t ⟨pc, cc, pk, ck, px, cx, pr, cr⟩
  have hb0 : Below w.heap.size w (w.alloc (.cells #[.string t.nm, .slice pc t.cs.length cc, .slice pk t.key.length ck, .slice px t.ix.length cx, .slice pr t.rf.length cr] 27)) := by go_grown
  have hsf := run_store_float
  obtain ⟨hz0, e0, e1, e2, e3, e4⟩ := HB.out
  dsimp only at e0 e1 e2 e3 e4
  clear hV hR hok hE
  unfold TabP.val at *
  go_enter Tryd.func19, Tryd.ntmps19
  go_wp2_with fail
  generalize hw1 : w.alloc (.cells #[.string t.nm, .slice pc t.cs.length cc, .slice pk t.key.length ck, .slice px t.ix.length cx, .slice pr t.rf.length cr] 27) = w1 at *
  clear hw1
  go_loopw [11] (fun k wr => ∃ j : Nat, j ≤ t.cs.length ∧ k = .int .i64 (j : Int) ∧ Hid (firstE (admsE t.cs l) j = 0) ∧ Hid (Below w1.heap.size w1 wr)) (fun k _ => t.cs.length - (intOf k).toNat)
  case atStart => exact ⟨0, Nat.zero_le _, by go_num, rfl, Below.refl _ _⟩
  case round =>
    obtain ⟨i, hi, rfl, hfz, hn1⟩ := hrel
    have hbw : Below w.heap.size w wr := hb0.trans (hn1.out.mono hb0.size)
    by_cases hi0 : i = t.cs.length
    · subst hi0
      go_wp2
      go_ret
      exact ⟨errV hfz.out.symm, hbw⟩
    · have hi1 : i < t.cs.length := by omega
      have hi2 : i < l.length := by omega
      obtain ⟨b, o, rfl, hbB, a0, a1, a2, a3, a4, a5, a6⟩ := HV.out i hi1
      obtain ⟨b', o', rfl, hbB', r0, r1, r2, r3⟩ := HR.out i hi2
      have k : ∀ {o : Nat} {v : Option Value}, w.cell? ⟨b, o, none⟩ = v → wr.cell? ⟨b, o, none⟩ = v := fun {o v} hc => (hbw.cell (p := ⟨b, o, none⟩) hbB).trans hc
      have y0 := k a0
      have y1 := k a1
      have y2 := k a2
      have y3 := k a3
      have y4 := k a4
      have y5 := k a5
      have y6 := k a6
      have CV : Hid (∀ w1, Below w.heap.size w w1 → Calls Tryd.prog 34 #[.agg #[.string t.cs[i].nm, .int .i64 t.cs[i].kd, .bool t.cs[i].nl, .int .i64 t.cs[i].df.k, .int .i64 t.cs[i].df.n, .float .f64 t.cs[i].df.f, .string t.cs[i].df.s], .agg #[.int .i64 l[i].k, .int .i64 l[i].n, .float .f64 l[i].f, .string l[i].s]] w1 fun e w' => e = .returned (.int .i64 (admsE t.cs l i)) ∧ Below w1.heap.size w1 w') := fun w1 hb => by
        rw [admsE_at hi1 hi2]
        exact admV_any t.cs[i] l[i] w1 (HOK.out _ (List.getElem_mem hi2)) (HE.out.on hb)
      have HX' : Hid (firstE (admsE t.cs l) (i + 1) = admsE t.cs l i) := firstE_succ hfz.out
      have HY : Hid (¬ admsE t.cs l i = 0 → firstE (admsE t.cs l) t.cs.length = admsE t.cs l i) := fun h => firstE_end hfz.out hi1 h
      have HBN : Hid (BoxC _ _ _) := BoxC.new wr t.cs[i]
      generalize t.cs[i] = c at *
      obtain ⟨nm, kd, nl, ⟨dk, dn, df, ds⟩⟩ := c
      generalize admsE t.cs l i = ce at *
      generalize l[i] = v at *
      obtain ⟨vk, vn, vf, vs⟩ := v
      dsimp only at y0 y1 y2 y3 y4 y5 y6 CV r0 r1 r2 r3
      have hbx : Below w.heap.size w (wr.alloc (.cells #[.string nm, .int .i64 kd, .bool nl, .int .i64 dk, .int .i64 dn, .float .f64 df, .string ds] 66)) := hbw.alloc hbw.size _
      obtain ⟨hzc, c0, c1, c2, c3, c4, c5, c6⟩ := HBN.out
      dsimp only at c0 c1 c2 c3 c4 c5 c6
      have s0 := (hbx.cell (p := ⟨b', _, none⟩) hbB').trans r0
      have s1 := (hbx.cell (p := ⟨b', _, none⟩) hbB').trans r1
      have s2 := (hbx.cell (p := ⟨b', _, none⟩) hbB').trans r2
      have s3 := (hbx.cell (p := ⟨b', _, none⟩) hbB').trans r3
      clear a0 a1 a2 a3 a4 a5 a6 r0 r1 r2 r3 k HBN hfz
      go_wp2_with fail
      generalize hw2 : wr.alloc (.cells #[.string nm, .int .i64 kd, .bool nl, .int .i64 dk, .int .i64 dn, .float .f64 df, .string ds] 66) = w2 at *
      have hb2w : b' < w2.heap.size := Nat.lt_of_lt_of_le hbB' hbx.size
      have g0 := InB.cell c0 hzc
      have g1 := InB.cell c1 hzc
      have g2 := InB.cell c2 hzc
      have g3 := InB.cell c3 hzc
      have g4 := InB.cell c4 hzc
      have g5 := InB.cell c5 hzc
      have g6 := InB.cell c6 hzc
      have m0 := InB.cell s0 hb2w
      have m1 := InB.cell s1 hb2w
      have m2 := InB.cell s2 hb2w
      have m3 := InB.cell s3 hb2w
      have ne2 := inB_ne w2
      have HCV : Hid (∀ q : InB w2, Below w.heap.size w q.w') := fun q => hbx.trans (q.h.mono hbx.size)
      have hn2 : Hid (Below w1.heap.size w1 w2) := by rw [← hw2]; exact hn1.out.alloc hn1.out.size _
      have i1 : (i : Int) < (l.length : Int) := by omega
      clear c0 c1 c2 c3 c4 c5 c6 s0 s1 s2 s3 y0 y1 y2 y3 y4 y5 y6 hw2
      by_cases hce : ce = 0
      · subst hce
        refine wp_region_inB (by kernel_rfl) (by kernel_rfl) ?_
        repeat (go_big_quiet_step ((go_at_call 34; exact Calls.inB (CV.out _ (HCV.out _)))))
        refine wpQuiet_nil ?_
        rintro _ ⟨⟨w5, hb5⟩, rfl⟩
        go_wp2_with fail
        go_roundw
        case rel => exact ⟨i + 1, hi1, by go_num, HX', hn2.out.trans (hb5.mono hn2.out.size)⟩
        case measure => simp [intOf]; omega
      · have hd : Hid (firstE (admsE t.cs l) t.cs.length = ce) := HY.out hce
        refine wp_region_inB (by kernel_rfl) (by kernel_rfl) ?_
        repeat (go_big_quiet_step ((go_at_call 34; exact Calls.inB (CV.out _ (HCV.out _)))))
        refine wpQuiet_nil ?_
        rintro _ ⟨⟨w5, hb5⟩, rfl⟩
        go_wp2
        go_ret
        exact ⟨errV hd.out.symm, hbx.trans (hb5.mono hbx.size)⟩

end Go.Proofs.YtfknmblobcjapaaDoor
