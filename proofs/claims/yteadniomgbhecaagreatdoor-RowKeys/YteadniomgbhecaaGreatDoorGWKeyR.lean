/- A row's key, on both sides. The walk of what each statement of layer 4 asks besides: the layer answers; and of the statement on Encode. -/
import Derived.Test.YteadniomgbhecaaGreatDoorGWCat
import Derived.Test.YteadniomgbhecaaGreatDoorGKRef3
import Derived.Test.YteadniomgbhecaaGreatDoorGWREnc
namespace Go.Proofs.YteadniomgbhecaaGreatDoor
open Go.RowKit
set_option maxRecDepth 100000

/-- what Key answers -/
def keyS (t : Tb) (l : List Vl) : List UInt8 × Int := if admS t l = 0 then encS (pickL l t.key) else ([], admS t l)
/-- what Entry answers -/
def entS (t : Tb) (i : Int) (l : List Vl) : List UInt8 × Int := if (keyS t l).2 = 0 then (if 0 ≤ i ∧ i < t.ix.length then encS (pickL l ((t.ix.getD i.toNat ⟨⟨#[]⟩, [], false⟩).cs ++ t.key)) else ([], 5)) else ([], (keyS t l).2)
theorem keyS_ok {t : Tb} {l : List Vl} (h : (keyS t l).2 = 0) : admS t l = 0 := by
  by_cases had : admS t l = 0
  · exact had
  · unfold keyS at h
    rw [if_neg had] at h
    exact absurd h had

set_option maxHeartbeats 4000000 in
theorem rowKey_any (t : Tb) (a : TabP) (l : List Vl) (p : Option Addr) (cl : Nat) (w : World) (hV : TabV w w.heap.size t a) (hok : t.ok) (hR : RowV w w.heap.size p l) (hvo : ∀ v ∈ l, v.ok) (hll : l.length ≤ 17592186043904) (hE : Env w) :
    Calls Tryz.prog 4 #[a.val t, .slice p l.length cl] w fun e w' => e = .returned (.tuple #[.string ⟨(keyS t l).1.toArray⟩, .int .i64 (keyS t l).2]) ∧ Below w.heap.size w w' := by
  obtain ⟨pc, cc, pk, ck, px, cx, pr, cr⟩ := a
  have CA : Hid (∀ w1, Below w.heap.size w w1 → Calls Tryz.prog 9 #[.agg #[.string t.nm, .slice pc t.cs.length cc, .slice pk t.key.length ck, .slice px t.ix.length cx, .slice pr t.rf.length cr], .slice p l.length cl] w1 fun e w' => e = .returned (.int .i64 (admS t l)) ∧ Below w1.heap.size w1 w') := fun w1 hb => admits_any t ⟨pc, cc, pk, ck, px, cx, pr, cr⟩ l p cl w1 (hV.on hb) hok ((hR.keep hb).mono hb.size) hvo hll (hE.on hb)
  have HB : Hid (BoxT _ _ _ _) := BoxT.new w t ⟨pc, cc, pk, ck, px, cx, pr, cr⟩
  have hb0 : Below w.heap.size w (w.alloc (.cells #[.string t.nm, .slice pc t.cs.length cc, .slice pk t.key.length ck, .slice px t.ix.length cx, .slice pr t.rf.length cr] 27)) := by go_grown
  by_cases had : admS t l = 0
  · have HF : Hid (keyS t l = encS (pickL l t.key)) := by show _ = _; unfold keyS; rw [if_pos had]
    obtain ⟨k1, k2, k3, k4⟩ := adm_key had
    have CP : Hid (∀ w1, Below w.heap.size w w1 → Calls Tryz.prog 11 #[.slice p l.length cl, .slice pk t.key.length ck] w1 fun e w' => ∃ v, e = .returned v ∧ OwnV w' w1.heap.size v (pickL l t.key) ∧ Below w1.heap.size w1 w') := fun w1 hb => pick_any l t.key p pk cl ck w1 ((hR.keep hb).mono hb.size) ((hV.on hb).key) (by rw [k1]; exact k3.1) (by omega) (by have := k3.2.1; omega)
    have CE : Hid (∀ v w1 B, Below w.heap.size w w1 → OwnV w1 B v (pickL l t.key) → Calls Tryz.prog 10 #[v] w1 fun e w' => e = .returned (.tuple #[.string ⟨(encS (pickL l t.key)).1.toArray⟩, .int .i64 (encS (pickL l t.key)).2]) ∧ Below w1.heap.size w1 w') := by
      intro v w1 B hb ho
      obtain ⟨p1, c1, rfl, hr1⟩ := ho.row
      exact encode_any _ p1 c1 w1 hr1 (pickL_ok hvo (by rw [k1]; exact k3.1)) (by rw [pickL_len]; have := k3.2.1; omega) (hE.on hb).hg (hE.on hb).hT
    rw [had] at CA
    clear hV hok hR hvo hll hE had k1 k2 k3 k4
    rw [HF.out]
    clear HF
    generalize encS (pickL l t.key) = r at *
    generalize pickL l t.key = V at *
    unfold TabP.val
    dsimp only
    go_enter Tryz.func4, Tryz.ntmps4
    go_wp2_with fail
    refine (CA.out _ hb0).mono ?_
    rintro e w1 ⟨rfl, hb1⟩
    have h01 : Below w.heap.size w w1 := hb0.trans (hb1.mono hb0.size)
    have HB1 : Hid (BoxT w1 w.heap.size t ⟨pc, cc, pk, ck, px, cx, pr, cr⟩) := HB.out.on hb1 (by simp)
    obtain ⟨hz1, e0, e1, e2, e3, e4⟩ := HB1.out
    dsimp only at e0 e1 e2 e3 e4
    have H01 : Hid (Below w.heap.size w w1) := h01
    clear CA hb1 hb0 HB h01 hz1
    go_wp2_with fail
    refine (CP.out _ H01.out).mono ?_
    rintro e w2 ⟨v2, rfl, ho2, hb2⟩
    dsimp only
    have HO2 : Hid (OwnV w2 w1.heap.size v2 V) := ho2
    have H02 : Hid (Below w.heap.size w w2) := H01.out.trans (hb2.mono H01.out.size)
    clear ho2 hb2 CP e0 e1 e2 e3 e4 HB1
    go_wp2_with fail
    refine (CE.out v2 w2 _ H02.out HO2.out).mono ?_
    rintro e w3 ⟨rfl, hb3⟩
    dsimp only
    have H03 : Hid (Below w.heap.size w w3) := H02.out.trans (hb3.mono H02.out.size)
    clear hb3 CE HO2
    go_wp2_with fail
    go_ret2
    exact ⟨rfl, H03.out⟩
  · have HF : Hid (keyS t l = ([], admS t l)) := by show _ = _; unfold keyS; rw [if_neg had]
    rw [HF.out]
    clear hV hok hR hvo hll hE HF
    generalize admS t l = d at *
    unfold TabP.val
    dsimp only
    go_enter Tryz.func4, Tryz.ntmps4
    go_wp2_with fail
    refine (CA.out _ hb0).mono ?_
    rintro e w1 ⟨rfl, hb1⟩
    have H01 : Hid (Below w.heap.size w w1) := hb0.trans (hb1.mono hb0.size)
    clear hb1 hb0 CA HB
    go_wp2_with fail
    go_ret2
    exact ⟨rfl, H01.out⟩

set_option maxHeartbeats 4000000 in
theorem refKey_any (t : Tb) (a : TabP) (l : List Vl) (p : Option Addr) (cl : Nat) (w : World) (hV : TabV w w.heap.size t a) (hok : t.ok) (hR : RowV w w.heap.size p l) (hvo : ∀ v ∈ l, v.ok) (hll : l.length ≤ 17592186043904) (hE : Env w) :
    Calls Tryz.prog 5 #[a.val t, .slice p l.length cl] w fun e w' => e = .returned (.tuple #[.string ⟨(keyS t l).1.toArray⟩, .int .i64 (keyS t l).2]) ∧ Below w.heap.size w w' := by
  obtain ⟨pc, cc, pk, ck, px, cx, pr, cr⟩ := a
  have CA : Hid (∀ w1, Below w.heap.size w w1 → Calls Tryz.prog 12 #[.agg #[.string t.nm, .slice pc t.cs.length cc, .slice pk t.key.length ck, .slice px t.ix.length cx, .slice pr t.rf.length cr], .slice p l.length cl] w1 fun e w' => e = .returned (.int .i64 (admS t l)) ∧ Below w1.heap.size w1 w') := fun w1 hb => radmits_any t ⟨pc, cc, pk, ck, px, cx, pr, cr⟩ l p cl w1 (hV.on hb) hok ((hR.keep hb).mono hb.size) hvo hll (hE.on hb)
  have HB : Hid (BoxT _ _ _ _) := BoxT.new w t ⟨pc, cc, pk, ck, px, cx, pr, cr⟩
  have hb0 : Below w.heap.size w (w.alloc (.cells #[.string t.nm, .slice pc t.cs.length cc, .slice pk t.key.length ck, .slice px t.ix.length cx, .slice pr t.rf.length cr] 27)) := by go_grown
  by_cases had : admS t l = 0
  · have HF : Hid (keyS t l = encS (pickL l t.key)) := by show _ = _; unfold keyS; rw [if_pos had]
    obtain ⟨k1, k2, k3, k4⟩ := adm_key had
    have CP : Hid (∀ w1, Below w.heap.size w w1 → Calls Tryz.prog 14 #[.slice pk t.key.length ck, .slice p l.length cl] w1 fun e w' => ∃ v, e = .returned v ∧ OwnV w' w1.heap.size v (pickL l t.key) ∧ Below w1.heap.size w1 w') := fun w1 hb => rpicks_any l t.key p pk cl ck w1 ((hR.keep hb).mono hb.size) ((hV.on hb).key) (by rw [k1]; exact k3.1) (by omega) (by have := k3.2.1; omega)
    have CE : Hid (∀ v w1 B, Below w.heap.size w w1 → OwnV w1 B v (pickL l t.key) → Calls Tryz.prog 13 #[v] w1 fun e w' => e = .returned (.tuple #[.string ⟨(encS (pickL l t.key)).1.toArray⟩, .int .i64 (encS (pickL l t.key)).2]) ∧ Below w1.heap.size w1 w') := by
      intro v w1 B hb ho
      obtain ⟨p1, c1, rfl, hr1⟩ := ho.row
      exact rencode_any _ p1 c1 w1 hr1 (pickL_ok hvo (by rw [k1]; exact k3.1)) (by rw [pickL_len]; have := k3.2.1; omega) (hE.on hb).hg (hE.on hb).hT
    rw [had] at CA
    clear hV hok hR hvo hll hE had k1 k2 k3 k4
    rw [HF.out]
    clear HF
    generalize encS (pickL l t.key) = r at *
    generalize pickL l t.key = V at *
    unfold TabP.val
    dsimp only
    go_enter Tryz.func5, Tryz.ntmps5
    go_wp2_with fail
    refine (CA.out _ hb0).mono ?_
    rintro e w1 ⟨rfl, hb1⟩
    have h01 : Below w.heap.size w w1 := hb0.trans (hb1.mono hb0.size)
    have HB1 : Hid (BoxT w1 w.heap.size t ⟨pc, cc, pk, ck, px, cx, pr, cr⟩) := HB.out.on hb1 (by simp)
    obtain ⟨hz1, e0, e1, e2, e3, e4⟩ := HB1.out
    dsimp only at e0 e1 e2 e3 e4
    have H01 : Hid (Below w.heap.size w w1) := h01
    clear CA hb1 hb0 HB h01 hz1
    go_wp2_with fail
    refine (CP.out _ H01.out).mono ?_
    rintro e w2 ⟨v2, rfl, ho2, hb2⟩
    dsimp only
    have HO2 : Hid (OwnV w2 w1.heap.size v2 V) := ho2
    have H02 : Hid (Below w.heap.size w w2) := H01.out.trans (hb2.mono H01.out.size)
    clear ho2 hb2 CP e0 e1 e2 e3 e4 HB1
    go_wp2_with fail
    refine (CE.out v2 w2 _ H02.out HO2.out).mono ?_
    rintro e w3 ⟨rfl, hb3⟩
    dsimp only
    have H03 : Hid (Below w.heap.size w w3) := H02.out.trans (hb3.mono H02.out.size)
    clear hb3 CE HO2
    go_wp2_with fail
    go_ret2
    exact ⟨rfl, H03.out⟩
  · have HF : Hid (keyS t l = ([], admS t l)) := by show _ = _; unfold keyS; rw [if_neg had]
    rw [HF.out]
    clear hV hok hR hvo hll hE HF
    generalize admS t l = d at *
    unfold TabP.val
    dsimp only
    go_enter Tryz.func5, Tryz.ntmps5
    go_wp2_with fail
    refine (CA.out _ hb0).mono ?_
    rintro e w1 ⟨rfl, hb1⟩
    have H01 : Hid (Below w.heap.size w w1) := hb0.trans (hb1.mono hb0.size)
    clear hb1 hb0 CA HB
    go_wp2_with fail
    go_ret2
    exact ⟨rfl, H01.out⟩

end Go.Proofs.YteadniomgbhecaaGreatDoor

namespace Go.Proofs.YteadniomgbhecaaGreatDoor
open Go.RowKit
set_option maxRecDepth 100000

def c4a : Cl := ⟨⟨#[97]⟩, 2, false, ⟨0, 0, 0, ⟨#[]⟩⟩⟩
def c4b : Cl := ⟨⟨#[98]⟩, 4, true, ⟨0, 0, 0, ⟨#[]⟩⟩⟩
def T4 : Tb := ⟨⟨#[116]⟩, [c4a, c4b], [0], [], []⟩
def v4a : Vl := ⟨2, 5, 0, ⟨#[]⟩⟩
def v4b : Vl := ⟨4, 0, 0, ⟨#[97]⟩⟩
theorem T4_ok : T4.ok := by
  refine ⟨by decide, by decide, ?_, by decide, by decide, (fun _ h => by cases h), by decide, (fun _ h => by cases h)⟩
  intro c hc
  have e : c = c4a ∨ c = c4b := by simpa [T4] using hc
  rcases e with rfl | rfl
  · exact ⟨by decide, ⟨by decide, by decide⟩, ⟨by decide, by decide⟩, by decide, by decide⟩
  · exact ⟨by decide, ⟨by decide, by decide⟩, ⟨by decide, by decide⟩, by decide, by decide⟩
theorem v4_ok : ∀ v ∈ [v4a, v4b], v.ok := by
  intro v hv
  have e : v = v4a ∨ v = v4b := by simpa using hv
  rcases e with rfl | rfl
  · exact ⟨⟨by decide, by decide⟩, ⟨by decide, by decide⟩, by decide, by decide⟩
  · exact ⟨⟨by decide, by decide⟩, ⟨by decide, by decide⟩, by decide, by decide⟩
theorem enc4 : encR T4 [v4a, v4b] = ([5, 10, 1, 97], 0) := by decide +kernel

set_option maxHeartbeats 4000000 in
theorem small4_any (w : World) : Calls Tryz.prog 17 #[] w fun e w' => ∃ a : TabP, e = .returned (a.val T4) ∧ TabV w' w'.heap.size T4 a ∧ Below w.heap.size w w' := by
  have hsf := run_store_float
  go_enter Tryz.func17, Tryz.ntmps17
  go_wp2
  refine bodyPost_ret (v := (⟨some ⟨w.heap.size + 1, 0, none⟩, 2, some ⟨w.heap.size + 1 + 1, 0, none⟩, 1, none, 0, none, 0⟩ : TabP).val T4) (by simp [results, Tryz.results17, go_sem, TabP.val, T4]) rfl ?_
  refine ⟨_, rfl, ⟨?_, ?_, fun _ h => absurd h (by simp [T4]), fun _ h => absurd h (by simp [T4]), Nat.le_refl 2, Nat.le_refl 0⟩, by go_grown⟩
  · intro i hi
    have hi0 : i = 0 ∨ i = 1 := by
      have : i < 2 := by simpa [T4] using hi
      omega
    rcases hi0 with rfl | rfl
    · refine ⟨w.heap.size + 1, 0, rfl, by simp, ?_, ?_, ?_, ?_, ?_, ?_, ?_⟩ <;> simp [go_sem, T4, c4a]
    · refine ⟨w.heap.size + 1, 0, rfl, by simp, ?_, ?_, ?_, ?_, ?_, ?_, ?_⟩ <;> simp [go_sem, T4, c4b]
  · intro i hi
    have hi0 : i = 0 := by simpa [T4] using hi
    subst hi0
    refine ⟨w.heap.size + 1 + 1, 0, rfl, by simp, ?_⟩
    simp [go_sem, T4]

set_option maxHeartbeats 4000000 in
theorem awake4 (w : World) (hE : Env w) : Calls Tryz.prog 8 #[] w fun e w' => e = .returned (.bool true) ∧ Below w.heap.size w w' := by
  have C1 : Hid (∀ w1 : World, Calls Tryz.prog 17 #[] w1 fun e w' => ∃ a : TabP, e = .returned (a.val T4) ∧ TabV w' w'.heap.size T4 a ∧ Below w1.heap.size w1 w') := fun w1 => small4_any w1
  have C2 : Hid (∀ (a : TabP) (p : Option Addr) (c : Nat) (w1 : World), Below w.heap.size w w1 → TabV w1 w1.heap.size T4 a → RowV w1 w1.heap.size p [v4a, v4b] → Calls Tryz.prog 16 #[a.val T4, .slice p 2 c] w1 fun e w' => e = .returned (.tuple #[.string ⟨#[5, 10, 1, 97]⟩, .int .i64 0]) ∧ Below w1.heap.size w1 w') := fun a p c w1 hb h h2 => by
    have h3 := rowEncode_any T4 a [v4a, v4b] p c w1 h T4_ok h2 v4_ok (by decide) (hE.on hb)
    rw [enc4] at h3
    exact h3
  clear hE
  go_enter Tryz.func8, Tryz.ntmps8
  go_wp2_with fail
  refine (C1.out _).mono ?_
  rintro e w1 ⟨a1, rfl, hV1, hb1⟩
  go_wp2_with fail
  have hba : Below w1.heap.size w1 (w1.alloc (.cells #[.int .i64 2, .int .i64 5, .float .f64 0, .string ⟨#[]⟩, .int .i64 4, .int .i64 0, .float .f64 0, .string ⟨#[97]⟩] 45)) := by go_grown
  have h02 : Below w.heap.size w (w1.alloc (.cells #[.int .i64 2, .int .i64 5, .float .f64 0, .string ⟨#[]⟩, .int .i64 4, .int .i64 0, .float .f64 0, .string ⟨#[97]⟩] 45)) := hb1.trans (hba.mono hb1.size)
  refine (C2.out a1 (some ⟨w1.heap.size, 0, none⟩) 2 _ h02 (hV1.on hba) ?_).mono ?_
  · intro i hi
    have hi0 : i = 0 ∨ i = 1 := by
      have : i < 2 := by simpa using hi
      omega
    rcases hi0 with rfl | rfl
    · refine ⟨w1.heap.size, 0, rfl, by simp, ?_, ?_, ?_, ?_⟩ <;> simp [go_sem, v4a]
    · refine ⟨w1.heap.size, 0, rfl, by simp, ?_, ?_, ?_, ?_⟩ <;> simp [go_sem, v4b]
  rintro e w3 ⟨rfl, hb3⟩
  go_wp2
  go_ret
  exact ⟨rfl, h02.trans (hb3.mono h02.size)⟩



end Go.Proofs.YteadniomgbhecaaGreatDoor
