/- Layer 19: slices that are made; addUnseen where there is no scan. -/
import Derived.Test.YtncfejndmlcidaaGreatGWEd3
namespace Go.Proofs.YtncfejndmlcidaaGreat
open Go.RowKit
set_option maxRecDepth 100000

theorem made1 (z : Value) (n : Nat) : madeCells #[z] n = (Array.replicate n z) := by
  apply Array.ext
  · simp [madeCells]
  · intro i h1 h2
    simp [madeCells, Nat.mod_one]
theorem run_mk1 (TS T : TypeId) (z : Value) (bytes : Nat) (hinfo : (Tryz.prog.info? T).map (fun i => (i.zero, i.size, i.bytes)) = some (some z, 1, bytes)) (hz : z.cells = #[z]) (hu : Tryz.prog.underlying TS = some (.slice T)) (hb : bytes ≤ 24) (n : Nat) (hn : n ≤ 4096) (w : World) :
    (Instr.makeSlice TS (.int .i64 (n : Int)) (.int .i64 (n : Int))).run Tryz.prog w = .ok (.slice (some ⟨w.heap.size, 0, none⟩) n n) (w.alloc (.cells (Array.replicate n z) T)) := by
  obtain ⟨i, hi, h0, h1, h2⟩ : ∃ i, Tryz.prog.info? T = some i ∧ i.zero = some z ∧ i.size = 1 ∧ i.bytes = bytes := by
    cases hi : Tryz.prog.info? T with
    | none => rw [hi] at hinfo; cases hinfo
    | some i =>
      rw [hi] at hinfo
      simp only [Option.map_some, Option.some.injEq, Prod.mk.injEq] at hinfo
      exact ⟨i, rfl, hinfo.1, hinfo.2.1, hinfo.2.2⟩
  have hbn : (i.bytes : Int) * (n : Int) ≤ 281474976710656 := by
    have h3 : i.bytes * n ≤ 24 * 4096 := Nat.mul_le_mul (by omega) hn
    have h4 : ((i.bytes * n : Nat) : Int) ≤ 281474976710656 := by omega
    rwa [Int.natCast_mul] at h4
  have h := run_make (P := Tryz.prog) w TS T i z hu hi h0 .i64 .i64 (n : Int) (n : Int) (by omega) (Int.le_refl _) hbn (by omega)
  rw [h, h1, hz, ← made1]
  simp
theorem info_esl : (Tryz.prog.info? 83).map (fun i => (i.zero, i.size, i.bytes)) = some (some nilS, 1, 24) := by kernel_rfl
theorem info_isl : (Tryz.prog.info? 38).map (fun i => (i.zero, i.size, i.bytes)) = some (some nilS, 1, 24) := by kernel_rfl
theorem info_int9 : (Tryz.prog.info? 3).map (fun i => (i.zero, i.size, i.bytes)) = some (some (.int .i64 0), 1, 8) := by kernel_rfl
theorem info_bool9 : (Tryz.prog.info? 4).map (fun i => (i.zero, i.size, i.bytes)) = some (some (.bool false), 1, 1) := by kernel_rfl
/-- what a transaction's unseen items add -/
structure UnsF (H : List Ac) (d : Dv) (uns : Int → List (List Ed) → List (List Ed)) : Prop where
  len : ∀ t LL, (uns t LL).length = LL.length
  le : ∀ t LL N, RowsLe LL N → RowsLe (uns t LL) (N + 4096)
  call : ∀ (N B C ob : Nat) (vs : Nat → Value) (LL : List (List Ed)) (n : Nat) (t : Int) (w : World), RdD w N B H d → N ≤ C → C ≤ w.heap.size → Fin H d.s d → OkF H → OutE w C ob vs LL → LL.length = n → d.C.length = n → d.I.length ≤ 4096 → RowsLe LL 549755813888 → t ∈ cms H →
    Calls Tryz.prog 75 #[.pointer (some ⟨d.s.hb, 0, none⟩), .slice (some ⟨ob, 0, none⟩) n n, .pointer (some ⟨d.s.pt t, 0, none⟩)] w fun e w' => e = .returned (.tuple #[]) ∧ EdF w w' C ∧ ∃ vs', OutE w' C ob vs' (uns t LL)
set_option maxHeartbeats 4000000 in
theorem unsF_none (H : List Ac) (d : Dv) (hs : ∀ t, scs H t = []) : UnsF H d (fun _ LL => LL) where
  len _ _ := rfl
  le _ _ _ h := h.mono (by omega)
  call N B C ob vs LL n t w hR hN hC hF hH hO hn hd hI hl ht := by
    obtain ⟨qi, di, evi⟩ := (show OwnG encX 1 9 w B d.vI d.I from hR.dn.fi.own none).slcL
    obtain ⟨mi, hmi⟩ : ∃ m, d.I.length = m := ⟨_, rfl⟩
    rw [hmi] at evi hI
    obtain ⟨qs, ds, evs⟩ := (hR.dn.fs.own t).slcL
    have h0 : (d.s.Sc t).length = 0 := by
      have h1 := hR.dn.sc t
      rw [hs t] at h1
      simpa using h1
    rw [h0] at evs
    have c4 : w.cell? ⟨d.s.hb, 4, none⟩ = some (.slice qi mi di) := by rw [← evi]; exact hR.dn.blk.cell rfl
    have HC8 : Hid (∀ w', Below w.heap.size w w' → w'.cell? ⟨d.s.pt t, 8, none⟩ = some (.slice qs 0 ds)) := fun w' h => by rw [← evs]; exact ((hR.on (h.mono hR.size)).dn.tn t (cms_kn ht)).2.cell rfl
    have HO : Hid (OutE w C ob vs LL) := hO
    have hmk := run_mk1 61 4 (.bool false) 1 info_bool9 rfl Tryz.underlying61 (by omega) mi hI
    clear hR hN hC hF hH hO hn hd hI hl ht evi evs h0 hs hmi
    go_enter Tryz.func75, Tryz.ntmps75
    go_upto_region 1 with fail
    obtain ⟨w1, hw1⟩ : ∃ w1, w.alloc (.cells (Array.replicate mi (Value.bool false)) 4) = w1 := ⟨_, rfl⟩
    have HB1 : Hid (Below w.heap.size w w1) := by rw [← hw1]; exact (Below.refl _ _).alloc (Nat.le_refl _) _
    rw [hw1]
    clear hw1 c4 hmk
    have c8 := HC8.out w1 HB1.out
    go_wp2_with fail
    go_loopw [23] (fun ix wr => ix = .int .i64 0 ∧ Hid (wr = w1)) (fun ix _ => 0)
    case atStart => exact ⟨rfl, rfl⟩
    case round =>
      obtain ⟨rfl, HW⟩ := hrel
      go_wp2_with fail
      go_end0
      have e := HW.out
      subst e
      exact ⟨rfl, EdF.of HB1.out, vs, HO.out.on HB1.out⟩

end Go.Proofs.YtncfejndmlcidaaGreat
