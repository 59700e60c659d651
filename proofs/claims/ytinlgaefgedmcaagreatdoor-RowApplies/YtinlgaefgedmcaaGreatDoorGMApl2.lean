/- What Apply answers. The walk of Apply. -/
import Derived.Test.YtinlgaefgedmcaaGreatDoorGMApl
import Derived.Test.YtinlgaefgedmcaaGreatDoorGWREnc
import Derived.Test.YtinlgaefgedmcaaGreatDoorGWSameR
import Derived.Test.YtinlgaefgedmcaaGreatDoorGWRvs
namespace Go.Proofs.YtinlgaefgedmcaaGreatDoor
open Go.RowKit
set_option maxRecDepth 100000

/-- A ROW TURNED BY A CHANGE, one column behind the other. -/
def applyA (cs : List Cl) (l : List Vl) : Nat → List Vl → Nat → ByteArray → Option (List Vl)
  | 0, acc, _, s => if s.size = 0 then some acc else none
  | f + 1, acc, next, s => if s.size = 0 then some acc else match stepA cs next s with
    | none => none
    | some p => if sameV (l.getD p.1 zV) p.2.1 then none else applyA cs l f (acc.set p.1 p.2.1) (p.1 + 1) (s.extract p.2.2 s.size)
/-- what Apply tells: a row, and why not -/
def appR (t : Tb) (l : List Vl) (s : ByteArray) : Option (List Vl) × Int := if admS t l = 0 then (if s.size ≤ 65536 then (match applyA t.cs l s.size l 0 s with
    | none => (none, 41)
    | some m => (some m, 0)) else (none, 3)) else (none, admS t l)
theorem stepA_some {cs : List Cl} {next : Nat} {s : ByteArray} {i : Nat} {v : Vl} {k : Nat} (hkd : ∀ c ∈ cs, 1 ≤ c.kd ∧ c.kd ≤ 5) (hs : s.size ≤ 65536) (h : stepA cs next s = some (i, v, k)) : next ≤ i ∧ i < cs.length ∧ 1 ≤ k ∧ k ≤ s.size := by
  unfold stepA at h
  have hle := rdV_le s
  split at h
  · cases h
  · rename_i h1
    have h1' : ¬ (rdV s).2 = 0 ∧ ¬ cs.length - next ≤ (rdV s).1 := by omega
    split at h
    · cases h
    · rename_i p hp
      injection h with h
      injection h with e1 h
      injection h with e2 e3
      have hc : next + (rdV s).1 < cs.length := by omega
      obtain ⟨_, _, h3⟩ := rowR_one (L := p.1) (k := p.2) (by rw [List.getD_eq_getElem?_getD, List.getElem?_eq_getElem hc]; exact hkd _ (List.getElem_mem _)) (by rw [ByteArray.size_extract]; omega) hp
      rw [ByteArray.size_extract] at h3
      omega
theorem admS_cols {t : Tb} {l : List Vl} (h : admS t l = 0) : l.length = t.cs.length ∧ 1 ≤ t.cs.length ∧ t.cs.length ≤ 64 ∧ ∀ c ∈ t.cs, 1 ≤ c.kd ∧ c.kd ≤ 5 := by
  unfold admS at h
  split at h
  · rename_i hc
    split at h
    · rename_i hl
      exact ⟨hl, (checkS_counts t hc).1, (checkS_counts t hc).2, checkS_kd hc⟩
    · cases h
  · rename_i hc
    exact absurd h hc
theorem own4_base {w : World} {B B' : Nat} {v : Value} {L : List Vl} (h : OwnV w B v L) (hB : B' ≤ B) : OwnV w B' v L := by
  have h' : w.ownsRow B 39 4 v L.length (vcells L) := h
  refine (show w.ownsRow B' 39 4 v L.length (vcells L) from ⟨h'.1, ?_⟩)
  rcases h'.2 with h | ⟨g, cap, cur, h1, h2, h3⟩
  · exact .inl h
  · exact .inr ⟨g, cap, cur, h1, Nat.le_trans hB h2, h3⟩
/-- a text's length -/
def strN : Value → Nat
  | .string s => s.size
  | _ => 0
/-- how Apply ends -/
def AppP (r : Option (List Vl) × Int) (w : World) (e : Ending) (w' : World) : Prop := (∃ (v : Value), e = .returned (.tuple #[v, .int .i64 r.2]) ∧ ((∃ L, r.1 = some L ∧ OwnV w' w.heap.size v L) ∨ (r.1 = none ∧ v = .slice none 0 0))) ∧ Below w.heap.size w w'
theorem AppP.no {r : Option (List Vl) × Int} {w w' : World} {e : Ending} {x : Int} (h : r = (none, x)) (he : e = .returned (.tuple #[.slice none 0 0, .int .i64 x])) (hw : Below w.heap.size w w') : AppP r w e w' := by
  subst h
  exact ⟨⟨_, he, .inr ⟨rfl, rfl⟩⟩, hw⟩
theorem AppP.yes {r : Option (List Vl) × Int} {w w' : World} {e : Ending} {L : List Vl} {v : Value} (h : r = (some L, 0)) (he : e = .returned (.tuple #[v, .int .i64 0])) (ho : OwnV w' w.heap.size v L) (hw : Below w.heap.size w w') : AppP r w e w' := by
  subst h
  exact ⟨⟨_, he, .inl ⟨L, rfl, ho⟩⟩, hw⟩
theorem bl_drewN {B : Nat} {w X : World} (h : Below B w X) (n : Nat) : Below B w (X.drewN n) := ⟨h.os, h.tape, h.output, h.size, h.block⟩
theorem vbox_cells {X : World} {g : Nat} {v0 v1 v2 v3 : Value} {T : TypeId} (h : X.heap[g]? = some (.cells #[v0, v1, v2, v3] T)) : X.cell? ⟨g, 0, none⟩ = some v0 ∧ X.cell? ⟨g, 1, none⟩ = some v1 ∧ X.cell? ⟨g, 2, none⟩ = some v2 ∧ X.cell? ⟨g, 3, none⟩ = some v3 := by
  refine ⟨?_, ?_, ?_, ?_⟩ <;> simp [World.cell?, h]
theorem BoxT.put {w : World} {b g o : Nat} {t : Tb} {a : TabP} {v : Value} (h : BoxT w b t a) (hne : b ≠ g) : BoxT (w.setCell ⟨g, o, none⟩ v) b t a := by
  have k : ∀ {j : Nat} {u : Option Value}, w.cell? ⟨b, j, none⟩ = u → (w.setCell ⟨g, o, none⟩ v).cell? ⟨b, j, none⟩ = u := fun {j u} hc => (World.cell?_setCell_other _ _ _ _ (by intro h; injection h with h _; exact hne h.symm)).trans hc
  exact ⟨by simpa using h.hg, k h.c0, k h.c1, k h.c2, k h.c3, k h.c4⟩
/-- what is known while Apply runs -/
structure Ap (w : World) (t : Tb) (a : TabP) (g n cap : Nat) (acc : List Vl) (X : World) : Prop where
  bl : Below w.heap.size w X
  box : BoxT X w.heap.size t a
  own : OwnV X (w.heap.size + 1) (.slice (some ⟨g, 0, none⟩) n cap) acc
theorem Ap.on {w X Y : World} {t : Tb} {a : TabP} {g n cap : Nat} {acc : List Vl} (h : Ap w t a g n cap acc X) (hb : Below X.heap.size X Y) : Ap w t a g n cap acc Y := ⟨h.bl.trans (hb.mono h.bl.size), h.box.on hb h.box.hg, h.own.kept hb⟩
theorem Ap.put {w X : World} {t : Tb} {a : TabP} {g n cap : Nat} {acc : List Vl} (h : Ap w t a g n cap acc X) (hn : acc.length = n) (i : Nat) (hi : i < acc.length) (r : Vl) :
    Ap w t a g n cap (acc.set i r) ((((X.setCell ⟨g, i * 4, none⟩ (.int .i64 r.k)).setCell ⟨g, i * 4 + 1, none⟩ (.int .i64 r.n)).setCell ⟨g, i * 4 + 2, none⟩ (.float .f64 r.f)).setCell ⟨g, i * 4 + 3, none⟩ (.string r.s)) := by
  have hg : w.heap.size + 1 ≤ g := by
    have := World.ownsRow.lt h.own g rfl
    exact this.1
  have hB : w.heap.size ≤ g := by omega
  refine ⟨(((h.bl.setCell hB _).setCell hB _).setCell hB _).setCell hB _, ?_, h.own.set hn i hi r⟩
  exact (((h.box.put (by omega)).put (by omega)).put (by omega)).put (by omega)

end Go.Proofs.YtinlgaefgedmcaaGreatDoor

namespace Go.Proofs.YtinlgaefgedmcaaGreatDoor
open Go.RowKit
set_option maxRecDepth 100000

set_option maxHeartbeats 8000000 in
theorem apply_any (t : Tb) (a : TabP) (l : List Vl) (p : Option Addr) (cl : Nat) (s : ByteArray) (w : World) (hV : TabV w w.heap.size t a) (hok : t.ok) (hL : RowV w w.heap.size p l) (hvl : ∀ v ∈ l, v.ok) (hll : l.length ≤ 17592186043904) (hs : s.size ≤ 140737488351232) (hE : Env w) :
    Calls Tryz.prog 4 #[a.val t, .slice p l.length cl, .string s] w (AppP (appR t l s) w) := by
  have hsf := run_store_float
  have HVw : Hid (TabV w w.heap.size t a ∧ Env w ∧ RowV w w.heap.size p l) := ⟨hV, hE, hL⟩
  obtain ⟨pc, cc, pk, ck, px, cx, pr, cr⟩ := a
  have CL : Hid (∀ w1, Below w.heap.size w w1 → Calls Tryz.prog 8 #[.agg #[.string t.nm, .slice pc t.cs.length cc, .slice pk t.key.length ck, .slice px t.ix.length cx, .slice pr t.rf.length cr], .slice p l.length cl] w1 fun e w' => e = .returned (.int .i64 (admS t l)) ∧ Below w1.heap.size w1 w') := fun w1 hb => admits_any t ⟨pc, cc, pk, ck, px, cx, pr, cr⟩ l p cl w1 (hV.on hb) hok ((hL.keep hb).mono hb.size) hvl hll (hE.on hb)
  have HB : Hid (BoxT _ _ _ _) := BoxT.new w t ⟨pc, cc, pk, ck, px, cx, pr, cr⟩
  have hb0 : Below w.heap.size w (w.alloc (.cells #[.string t.nm, .slice pc t.cs.length cc, .slice pk t.key.length ck, .slice px t.ix.length cx, .slice pr t.rf.length cr] 27)) := by go_grown
  have HF : Hid (appR t l s = if admS t l = 0 then (if s.size ≤ 65536 then (match applyA t.cs l s.size l 0 s with
    | none => (none, 41)
    | some m => (some m, 0)) else (none, 3)) else (none, admS t l)) := rfl
  have HOK : Hid (admS t l = 0 → l.length = t.cs.length ∧ 1 ≤ t.cs.length ∧ t.cs.length ≤ 64 ∧ ∀ c ∈ t.cs, 1 ≤ c.kd ∧ c.kd ≤ 5) := fun h => admS_cols h
  generalize appR t l s = d at *
  generalize admS t l = el at *
  have hcc := hV.hc
  clear hV hok hL hvl hE
  unfold TabP.val
  dsimp only at hcc ⊢
  go_enter Tryz.func4, Tryz.ntmps4
  go_wp2_with fail
  refine (CL.out _ hb0).mono ?_
  rintro e w2 ⟨rfl, hb2⟩
  have HBw2 : Hid (Below w.heap.size w w2) := hb0.trans (hb2.mono (by simp))
  by_cases hel : el = 0
  · subst hel
    obtain ⟨hl1, hl2, hl3, hkd⟩ := HOK.out rfl
    have hla := Nat.le_of_eq hl1
    have hlb := Nat.le_of_eq hl1.symm
    clear hl1
    rw [if_pos rfl] at HF
    by_cases hsz : s.size ≤ 65536
    · rw [if_pos hsz] at HF
      have a1 : ¬ (65536 : Int) < (s.size : Int) := by omega
      obtain ⟨b, o, rfl, hbb, _⟩ := HVw.out.2.2 0 (by omega)
      have HBx : Hid (BoxT w2 _ _ _) := HB.out.on hb2 HB.out.hg
      have C3 : Hid (Calls _ _ _ _ _) := clone4_any l b o cl w2 ((HVw.out.2.2.keep HBw2.out).mono HBw2.out.size) (by omega) (by omega)
      have hz2 : w.heap.size + 1 ≤ w2.heap.size := by have := hb2.size; simp at this; omega
      clear hb2 HB CL HOK
      go_wp2_with fail
      refine C3.out.mono ?_
      rintro e w3 ⟨⟨g, cap, rfl, hown⟩, hb3⟩
      have HA : Hid (Ap w t ⟨pc, cc, pk, ck, px, cx, pr, cr⟩ g l.length cap l w3) := ⟨HBw2.out.trans (hb3.mono HBw2.out.size), HBx.out.on hb3 HBx.out.hg, own4_base hown hz2⟩
      have HKD : Hid (∀ c ∈ t.cs, 1 ≤ c.kd ∧ c.kd ≤ 5) := hkd
      clear C3 hown hb3 HBx HBw2 hkd hb0
      go_wp2_with fail
      go_loopw [10, 11] (fun x y wr => ∃ (next : Nat) (rest : ByteArray) (f : Nat) (acc : List Vl), next ≤ t.cs.length ∧ x = .int .i64 (next : Int) ∧ y = .string rest ∧ rest.size ≤ f ∧ f ≤ 65536 ∧ Hid (acc.length = l.length) ∧ Hid (applyA t.cs l s.size l 0 s = applyA t.cs l f acc next rest) ∧ Hid (Ap w t ⟨pc, cc, pk, ck, px, cx, pr, cr⟩ g l.length cap acc wr)) (fun _ y _ => strN y)
      case atStart => exact ⟨0, s, s.size, l, Nat.zero_le _, by go_num, rfl, Nat.le_refl _, hsz, rfl, rfl, HA⟩
      case round =>
        obtain ⟨next, rest, f, acc, hnx, rfl, rfl, hrf, hf, hacc, hAp, hA⟩ := hrel
        clear HA
        by_cases hr0 : rest.size = 0
        · have hre : rest = ⟨#[]⟩ := by
            obtain ⟨⟨q⟩⟩ := rest
            have : q = [] := by simpa [ByteArray.size] using hr0
            rw [this]
          have HY : Hid (d = (some acc, 0)) := by
            have h1 := HF.out
            rw [hAp.out] at h1
            rw [h1]
            cases f <;> simp [applyA, hr0, Hid]
          subst hre
          clear hAp HF
          go_wp2_with fail
          go_ret2
          exact AppP.yes HY.out rfl (own4_base hA.out.own (by omega)) hA.out.bl
        · obtain ⟨f, rfl⟩ : ∃ f', f = f' + 1 := ⟨f - 1, by omega⟩
          have hrn : ¬ rest = ⟨#[]⟩ := fun h => hr0 (by rw [h]; rfl)
          have hn1 : rest.toList.isEmpty = false := by
            rw [ByteArray.toList_eq]
            have h : rest.data.toList ≠ [] := fun h => hr0 (by show rest.data.size = 0; rw [← Array.length_toList, h]; rfl)
            simpa using h
          have C4 : Hid (Calls _ _ _ _ _) := readStep_any t.cs pc cc next rest wr ((HVw.out.1.cs.keep hA.out.bl).mono hA.out.bl.size) hcc hnx hl3 HKD.out (by omega) (HVw.out.2.1.on hA.out.bl)
          obtain ⟨hz1, e0, e1, e2, e3, e4⟩ := hA.out.box
          dsimp only at e0 e1 e2 e3 e4
          have HS : Hid (applyA t.cs l s.size l 0 s = match stepA t.cs next rest with
            | none => none
            | some p => if sameV (l.getD p.1 zV) p.2.1 then none else applyA t.cs l f (acc.set p.1 p.2.1) (p.1 + 1) (rest.extract p.2.2 rest.size)) := by
            show _ = _
            rw [hAp.out, applyA, if_neg hr0]
          have HI : Hid (∀ i v k, stepA t.cs next rest = some (i, v, k) → next ≤ i ∧ i < t.cs.length ∧ 1 ≤ k ∧ k ≤ rest.size) := fun i v k h => stepA_some HKD.out (by omega) h
          clear hAp
          go_wp2_with fail
          refine C4.out.mono ?_
          rintro e w4 ⟨i, ⟨vk, vn, vf, vs⟩, k, bb, rfl, hr, hb4⟩
          have HA4 := hA.out.on hb4
          clear C4 hA e0 e1 e2 e3 e4
          have hvb : (w4.alloc (.cells #[.int .i64 vk, .int .i64 vn, .float .f64 vf, .string vs] 39)).drew.heap[w4.heap.size]? = some (.cells #[.int .i64 vk, .int .i64 vn, .float .f64 vf, .string vs] 39) := by show (w4.alloc _).heap[_]? = _; unfold World.alloc; exact Array.getElem?_push_size
          have HAq : Hid (Ap w t ⟨pc, cc, pk, ck, px, cx, pr, cr⟩ g l.length cap acc (w4.alloc (.cells #[.int .i64 vk, .int .i64 vn, .float .f64 vf, .string vs] 39)).drew) := HA4.on (by go_grown)
          have hvbl : w4.heap.size < (w4.alloc (.cells #[.int .i64 vk, .int .i64 vn, .float .f64 vf, .string vs] 39)).drew.heap.size := by simp
          unfold Vl.val
          dsimp only
          rcases hr with ⟨rfl, hst⟩ | ⟨rfl, hst⟩
          · obtain ⟨hi1, hi2, hk1, hk2⟩ := HI.out _ _ _ hst
            rw [hst] at HS
            dsimp only at HS
            have hil : i < l.length := by omega
            obtain ⟨b', o', eb, hbb', d0, d1, d2, d3⟩ := HVw.out.2.2 i hil
            cases eb
            have q0 := (HAq.out.bl.cell (p := ⟨b, o + i * 4, none⟩) hbb).trans d0
            have q1 := (HAq.out.bl.cell (p := ⟨b, o + i * 4 + 1, none⟩) hbb).trans d1
            have q2 := (HAq.out.bl.cell (p := ⟨b, o + i * 4 + 2, none⟩) hbb).trans d2
            have q3 := (HAq.out.bl.cell (p := ⟨b, o + i * 4 + 3, none⟩) hbb).trans d3
            rw [List.getD_eq_getElem?_getD, List.getElem?_eq_getElem hil, Option.getD_some] at HS
            obtain ⟨sv, hsv⟩ : ∃ sv, sameV l[i] ⟨vk, vn, vf, vs⟩ = sv := ⟨_, rfl⟩
            have CS : Hid (∀ w9, Calls Tryz.prog 11 #[.agg #[.int .i64 l[i].k, .int .i64 l[i].n, .float .f64 l[i].f, .string l[i].s], .agg #[.int .i64 vk, .int .i64 vn, .float .f64 vf, .string vs]] w9 fun e w' => e = .returned (.bool sv) ∧ Below w9.heap.size w9 w') := fun w9 => by
              have := same_any l[i].k l[i].n vk vn l[i].f vf l[i].s vs w9
              rw [← hsv]
              exact this
            rw [hsv] at HS
            generalize l[i].k = lk at *
            generalize l[i].n = ln at *
            generalize l[i].f = lf at *
            generalize l[i].s = ls at *
            clear d0 d1 d2 d3 hst HI HA4 hsv
            cases sv with
            | true =>
              have HN : Hid (d = (none, 41)) := by
                have h1 := HF.out
                rw [HS.out] at h1
                exact h1
              clear HS HF
              go_wp2_with fail
              refine wp_region_any (by kernel_rfl) ?_
              change wpAny _ _ _ _ _ _ _ (World.drew _)
              refine anyN_take (v := ?_) 0 rfl (by kernel_rfl) (by kernel_rfl) (by kernel_rfl) (fun _ _ _ h => h) (Or.inl ⟨by rfl, ?_⟩) ?_
              rotate_left
              focus
                intro w9
                go_simp
                try with_reducible rfl
              try simp only [Act.put, List.setIfInBounds_toArray, List.set_cons_zero, List.set_cons_succ]
              refine anyN_take (v := ?_) 1 rfl (by kernel_rfl) (by kernel_rfl) (by kernel_rfl) (fun _ _ _ h => h) (Or.inl ⟨by rfl, ?_⟩) ?_
              rotate_left
              focus
                intro w9
                go_simp
                try with_reducible rfl
              try simp only [Act.put, List.setIfInBounds_toArray, List.set_cons_zero, List.set_cons_succ]
              refine anyN_take (v := ?_) 2 rfl (by kernel_rfl) (by kernel_rfl) (by kernel_rfl) (fun _ _ _ h => h) (Or.inl ⟨by rfl, ?_⟩) ?_
              rotate_left
              focus
                intro w9
                go_simp
                try with_reducible rfl
              try simp only [Act.put, List.setIfInBounds_toArray, List.set_cons_zero, List.set_cons_succ]
              refine anyN_take (v := ?_) 3 rfl (by kernel_rfl) (by kernel_rfl) (by kernel_rfl) (fun _ _ _ h => h) (Or.inl ⟨by rfl, ?_⟩) ?_
              rotate_left
              focus
                intro w9
                go_simp
                try with_reducible rfl
              try simp only [Act.put, List.setIfInBounds_toArray, List.set_cons_zero, List.set_cons_succ]
              refine anyN_take (v := ?_) 4 rfl (by kernel_rfl) (by kernel_rfl) (by kernel_rfl) (fun _ _ _ h => h) (Or.inl ⟨by rfl, ?_⟩) ?_
              rotate_left
              focus
                intro w9
                go_simp
                try with_reducible rfl
              try simp only [Act.put, List.setIfInBounds_toArray, List.set_cons_zero, List.set_cons_succ]
              refine anyN_take (v := ?_) 5 rfl (by kernel_rfl) (by kernel_rfl) (by kernel_rfl) (fun _ _ _ h => h) (Or.inl ⟨by rfl, ?_⟩) ?_
              rotate_left
              focus
                intro w9
                go_simp
                try with_reducible rfl
              try simp only [Act.put, List.setIfInBounds_toArray, List.set_cons_zero, List.set_cons_succ]
              refine wpAny_ready (rs := [6, 7]) (by kernel_rfl) (by simp) ?_
              refine anyN_cons 6 rfl (by rfl) (fun K hK => ?_) (anyN_cons 7 rfl (by rfl) (fun K hK => ?_) AllReady.nil)
              · go_simp
                refine hK.out _ _ ?_
                clear hK K
                try simp only [Act.put, List.setIfInBounds_toArray, List.set_cons_zero, List.set_cons_succ]
                refine wpAny_ready (rs := [7]) (by kernel_rfl) (by simp) ?_
                refine anyN_cons 7 rfl (by rfl) (fun K hK => ?_) AllReady.nil
                go_simp
                refine hK.out _ _ ?_
                clear hK K
                try simp only [Act.put, List.setIfInBounds_toArray, List.set_cons_zero, List.set_cons_succ]
                refine wpAny_ready (rs := [8]) (by kernel_rfl) (by simp) ?_
                refine anyN_cons 8 rfl (by rfl) (fun K hK => ?_) AllReady.nil
                go_simp
                refine (CS.out _).mono ?_
                rintro e w6 ⟨rfl, hb6⟩
                dsimp only
                have HA6 : Hid (Ap _ _ _ _ _ _ _ _) := HAq.out.on hb6
                have hvb6 := (hb6.block _ hvbl).trans hvb
                refine hK.out _ _ ?_
                clear hK K
                try simp only [Act.put, List.setIfInBounds_toArray, List.set_cons_zero, List.set_cons_succ]
                refine anyN_take (v := ?_) 9 rfl (by kernel_rfl) (by kernel_rfl) (by kernel_rfl) (fun _ _ _ h => h) (Or.inl ⟨by rfl, ?_⟩) ?_
                rotate_left
                focus
                  intro w9
                  go_simp
                  try with_reducible rfl
                try simp only [Act.put, List.setIfInBounds_toArray, List.set_cons_zero, List.set_cons_succ]
                refine wpAny_done (by kernel_rfl) ?_ _
                go_wp2_with fail
                go_ret2
                exact AppP.no HN.out rfl HA6.out.bl
              · go_simp
                refine hK.out _ _ ?_
                clear hK K
                try simp only [Act.put, List.setIfInBounds_toArray, List.set_cons_zero, List.set_cons_succ]
                refine wpAny_ready (rs := [6]) (by kernel_rfl) (by simp) ?_
                refine anyN_cons 6 rfl (by rfl) (fun K hK => ?_) AllReady.nil
                go_simp
                refine hK.out _ _ ?_
                clear hK K
                try simp only [Act.put, List.setIfInBounds_toArray, List.set_cons_zero, List.set_cons_succ]
                refine wpAny_ready (rs := [8]) (by kernel_rfl) (by simp) ?_
                refine anyN_cons 8 rfl (by rfl) (fun K hK => ?_) AllReady.nil
                go_simp
                refine (CS.out _).mono ?_
                rintro e w6 ⟨rfl, hb6⟩
                dsimp only
                have HA6 : Hid (Ap _ _ _ _ _ _ _ _) := HAq.out.on hb6
                have hvb6 := (hb6.block _ hvbl).trans hvb
                refine hK.out _ _ ?_
                clear hK K
                try simp only [Act.put, List.setIfInBounds_toArray, List.set_cons_zero, List.set_cons_succ]
                refine anyN_take (v := ?_) 9 rfl (by kernel_rfl) (by kernel_rfl) (by kernel_rfl) (fun _ _ _ h => h) (Or.inl ⟨by rfl, ?_⟩) ?_
                rotate_left
                focus
                  intro w9
                  go_simp
                  try with_reducible rfl
                try simp only [Act.put, List.setIfInBounds_toArray, List.set_cons_zero, List.set_cons_succ]
                refine wpAny_done (by kernel_rfl) ?_ _
                go_wp2_with fail
                go_ret2
                exact AppP.no HN.out rfl HA6.out.bl
            | false =>
              rw [if_neg (by decide)] at HS
              go_wp2_with fail
              refine wp_region_any (by kernel_rfl) ?_
              change wpAny _ _ _ _ _ _ _ (World.drew _)
              refine anyN_take (v := ?_) 0 rfl (by kernel_rfl) (by kernel_rfl) (by kernel_rfl) (fun _ _ _ h => h) (Or.inl ⟨by rfl, ?_⟩) ?_
              rotate_left
              focus
                intro w9
                go_simp
                try with_reducible rfl
              try simp only [Act.put, List.setIfInBounds_toArray, List.set_cons_zero, List.set_cons_succ]
              refine anyN_take (v := ?_) 1 rfl (by kernel_rfl) (by kernel_rfl) (by kernel_rfl) (fun _ _ _ h => h) (Or.inl ⟨by rfl, ?_⟩) ?_
              rotate_left
              focus
                intro w9
                go_simp
                try with_reducible rfl
              try simp only [Act.put, List.setIfInBounds_toArray, List.set_cons_zero, List.set_cons_succ]
              refine anyN_take (v := ?_) 2 rfl (by kernel_rfl) (by kernel_rfl) (by kernel_rfl) (fun _ _ _ h => h) (Or.inl ⟨by rfl, ?_⟩) ?_
              rotate_left
              focus
                intro w9
                go_simp
                try with_reducible rfl
              try simp only [Act.put, List.setIfInBounds_toArray, List.set_cons_zero, List.set_cons_succ]
              refine anyN_take (v := ?_) 3 rfl (by kernel_rfl) (by kernel_rfl) (by kernel_rfl) (fun _ _ _ h => h) (Or.inl ⟨by rfl, ?_⟩) ?_
              rotate_left
              focus
                intro w9
                go_simp
                try with_reducible rfl
              try simp only [Act.put, List.setIfInBounds_toArray, List.set_cons_zero, List.set_cons_succ]
              refine anyN_take (v := ?_) 4 rfl (by kernel_rfl) (by kernel_rfl) (by kernel_rfl) (fun _ _ _ h => h) (Or.inl ⟨by rfl, ?_⟩) ?_
              rotate_left
              focus
                intro w9
                go_simp
                try with_reducible rfl
              try simp only [Act.put, List.setIfInBounds_toArray, List.set_cons_zero, List.set_cons_succ]
              refine anyN_take (v := ?_) 5 rfl (by kernel_rfl) (by kernel_rfl) (by kernel_rfl) (fun _ _ _ h => h) (Or.inl ⟨by rfl, ?_⟩) ?_
              rotate_left
              focus
                intro w9
                go_simp
                try with_reducible rfl
              try simp only [Act.put, List.setIfInBounds_toArray, List.set_cons_zero, List.set_cons_succ]
              refine wpAny_ready (rs := [6, 7]) (by kernel_rfl) (by simp) ?_
              refine anyN_cons 6 rfl (by rfl) (fun K hK => ?_) (anyN_cons 7 rfl (by rfl) (fun K hK => ?_) AllReady.nil)
              · go_simp
                refine hK.out _ _ ?_
                clear hK K
                try simp only [Act.put, List.setIfInBounds_toArray, List.set_cons_zero, List.set_cons_succ]
                refine wpAny_ready (rs := [7]) (by kernel_rfl) (by simp) ?_
                refine anyN_cons 7 rfl (by rfl) (fun K hK => ?_) AllReady.nil
                go_simp
                refine hK.out _ _ ?_
                clear hK K
                try simp only [Act.put, List.setIfInBounds_toArray, List.set_cons_zero, List.set_cons_succ]
                refine wpAny_ready (rs := [8]) (by kernel_rfl) (by simp) ?_
                refine anyN_cons 8 rfl (by rfl) (fun K hK => ?_) AllReady.nil
                go_simp
                refine (CS.out _).mono ?_
                rintro e w6 ⟨rfl, hb6⟩
                dsimp only
                have HA6 : Hid (Ap _ _ _ _ _ _ _ _) := HAq.out.on hb6
                have hvb6 := (hb6.block _ hvbl).trans hvb
                refine hK.out _ _ ?_
                clear hK K
                try simp only [Act.put, List.setIfInBounds_toArray, List.set_cons_zero, List.set_cons_succ]
                refine anyN_take (v := ?_) 9 rfl (by kernel_rfl) (by kernel_rfl) (by kernel_rfl) (fun _ _ _ h => h) (Or.inl ⟨by rfl, ?_⟩) ?_
                rotate_left
                focus
                  intro w9
                  go_simp
                  try with_reducible rfl
                try simp only [Act.put, List.setIfInBounds_toArray, List.set_cons_zero, List.set_cons_succ]
                refine wpAny_done (by kernel_rfl) ?_ _
                obtain ⟨⟨x0, x1, x2, x3⟩, f0, f1, f2, f3⟩ := HA6.out.own.at hacc.out i (by rw [hacc.out]; exact hil)
                obtain ⟨y0, y1, y2, y3⟩ := vbox_cells hvb6
                have HA7 : Hid (Ap _ _ _ _ _ _ _ _) := HA6.out.put hacc.out i (by rw [hacc.out]; exact hil) ⟨vk, vn, vf, vs⟩
                go_wp2_with fail
                go_roundw
                case rel => exact ⟨i + 1, _, f, _, by omega, by go_num, rfl, by rw [ByteArray.size_extract]; omega, by omega, (show _ = _ by rw [List.length_set]; exact hacc.out), HS, HA7⟩
                case measure => simp only [strN]; rw [ByteArray.size_extract]; omega
              · go_simp
                refine hK.out _ _ ?_
                clear hK K
                try simp only [Act.put, List.setIfInBounds_toArray, List.set_cons_zero, List.set_cons_succ]
                refine wpAny_ready (rs := [6]) (by kernel_rfl) (by simp) ?_
                refine anyN_cons 6 rfl (by rfl) (fun K hK => ?_) AllReady.nil
                go_simp
                refine hK.out _ _ ?_
                clear hK K
                try simp only [Act.put, List.setIfInBounds_toArray, List.set_cons_zero, List.set_cons_succ]
                refine wpAny_ready (rs := [8]) (by kernel_rfl) (by simp) ?_
                refine anyN_cons 8 rfl (by rfl) (fun K hK => ?_) AllReady.nil
                go_simp
                refine (CS.out _).mono ?_
                rintro e w6 ⟨rfl, hb6⟩
                dsimp only
                have HA6 : Hid (Ap _ _ _ _ _ _ _ _) := HAq.out.on hb6
                have hvb6 := (hb6.block _ hvbl).trans hvb
                refine hK.out _ _ ?_
                clear hK K
                try simp only [Act.put, List.setIfInBounds_toArray, List.set_cons_zero, List.set_cons_succ]
                refine anyN_take (v := ?_) 9 rfl (by kernel_rfl) (by kernel_rfl) (by kernel_rfl) (fun _ _ _ h => h) (Or.inl ⟨by rfl, ?_⟩) ?_
                rotate_left
                focus
                  intro w9
                  go_simp
                  try with_reducible rfl
                try simp only [Act.put, List.setIfInBounds_toArray, List.set_cons_zero, List.set_cons_succ]
                refine wpAny_done (by kernel_rfl) ?_ _
                obtain ⟨⟨x0, x1, x2, x3⟩, f0, f1, f2, f3⟩ := HA6.out.own.at hacc.out i (by rw [hacc.out]; exact hil)
                obtain ⟨y0, y1, y2, y3⟩ := vbox_cells hvb6
                have HA7 : Hid (Ap _ _ _ _ _ _ _ _) := HA6.out.put hacc.out i (by rw [hacc.out]; exact hil) ⟨vk, vn, vf, vs⟩
                go_wp2_with fail
                go_roundw
                case rel => exact ⟨i + 1, _, f, _, by omega, by go_num, rfl, by rw [ByteArray.size_extract]; omega, by omega, (show _ = _ by rw [List.length_set]; exact hacc.out), HS, HA7⟩
                case measure => simp only [strN]; rw [ByteArray.size_extract]; omega
          · have HN : Hid (d = (none, 41)) := by
              have h1 := HF.out
              rw [HS.out, hst] at h1
              exact h1
            clear HS HF HI hst
            go_wp2_with fail
            go_quiet (fail)
            go_wp2_with fail
            go_ret2
            exact AppP.no HN.out rfl (bl_drewN (HA4.on (show Below w4.heap.size w4 (w4.alloc (.cells #[.int .i64 vk, .int .i64 vn, .float .f64 vf, .string vs] 39)) by go_grown)).bl _)
    · rw [if_neg hsz] at HF
      have a1 : (65536 : Int) < (s.size : Int) := by omega
      go_wp2_with fail
      go_ret2
      exact AppP.no HF.out rfl HBw2.out
  · rw [if_neg hel] at HF
    have hel' : (el != 0) = true := by simpa using hel
    go_wp2_with fail
    go_ret2
    exact AppP.no HF.out rfl HBw2.out

end Go.Proofs.YtinlgaefgedmcaaGreatDoor
