/- Layer 19: a history that is being read, in memory; mayRead. -/
import Derived.Test.YtncfejndmlcidaaGreatGWGr1
import Derived.Test.YtncfejndmlcidaaGreatGWGm
import Derived.Test.YtncfejndmlcidaaGreatGWQuiet
import Derived.Test.YtncfejndmlcidaaGreatGMAny9
namespace Go.Proofs.YtncfejndmlcidaaGreat
open Go.RowKit
set_option maxRecDepth 100000

abbrev kvI (x : Int) : Value := .int .i64 x
abbrev kvS (x : ByteArray) : Value := .string x
abbrev kvW (k : Int × ByteArray) : Value := .agg #[.int .i64 k.1, .string k.2]
theorem run_eqInW (x y : Int × ByteArray) (w : World) : (Op.equalIn 10000 133 (kvW x) (kvW y)).run Tryz.prog w = .ok (decide (x = y)) w := by
  have u9 := Tryz.underlying9
  have a9 := Tryz.isAgg9
  have z9 := Tryz.sizeOf9
  have u4 := Tryz.underlying3
  have a4 := Tryz.isAgg3
  have z4 := Tryz.sizeOf3
  have hS : Tryz.prog.underlying 133 = some (.struct (Tryz.prog.fieldsOf 133)) := by kernel_rfl
  have hp : Tryz.prog.stoodInHeld 133 = false := by kernel_rfl
  have he : decide (x = y) = ((x.1 == y.1) && (x.2.toList == y.2.toList)) := by
    rw [str_eq, Bool.eq_iff_iff, decide_eq_true_eq, Bool.and_eq_true, beq_iff_eq, decide_eq_true_eq]
    exact ⟨fun h => by rw [h]; exact ⟨rfl, rfl⟩, fun h => Prod.ext h.1 h.2⟩
  rw [he, show (10000 : Nat) = 9999 + 1 from rfl, run_equalIn_agg w 9999 133 _ _ hS hp]
  simp only [Program.fieldsOf, Tryz.underlying133]
  go_simp
  cases h1 : (x.1 == y.1) <;> cases h2 : (x.2.toList == y.2.toList) <;> simp_all
theorem keyW : KeyT (Int × ByteArray) 133 kvW where
  fnd x w es E h := by
    unfold Instr.findKey
    simp only [Sem.run_bind, run_underlying Tryz.underlying133, Result.andThen_ok]
    match es, E, h with
    | [], [], _ => rfl
    | [], k :: K, h => simp at h
    | e :: es, [], h => simp at h
    | e :: es, k :: K, h =>
      have h9 := askG_run (kt := 133) (kv := kvW) (fun x y w => run_eqInW x y w) x w (e :: es) (k :: K) 0 h
      rw [map_add0] at h9
      simp only [Instr.findNow, Instr.sameNow]
      exact h9
  chk e x w := by cases e <;> kernel_rfl
  bits x := by
    show Instr.sameBits (9999 + 1) _ _ = true
    have h : (x.2 == x.2) = true := by
      show (x.2.data == x.2.data) = true
      simp
    simp [Instr.sameBits, h]
abbrev nilP : Value := .pointer none
abbrev nilS : Value := .slice none 0 0
theorem zeroTx (w : World) : (zeroValue 102).run Tryz.prog w = .ok nilP w := by kernel_rfl
theorem zeroNn (w : World) : (zeroValue 3).run Tryz.prog w = .ok (.int .i64 0) w := by kernel_rfl
theorem zeroTs (w : World) : (zeroValue 76).run Tryz.prog w = .ok nilS w := by kernel_rfl

/-- where a history that is being read lies -/
structure Hv where
  hb : Nat
  mT : Nat
  mW : Nat
  mV : Nat
  ET : List (Int × Value)
  EW : List ((Int × ByteArray) × Value)
  EV : List (ByteArray × Value)
  vC : Value
  pt : Int → Nat
  vi : Int → Value
  vr : Int → Value
  vs : Int → Value
  Sc : Int → List (Ac × Value)
def encT (pt : Int → Nat) (t : Int) : List Value := [ptr1 (pt t)]
def encX (x : ByteArray) : List Value := [.string x]
/-- the rows of the committed ones: all of them, and those that wrote an item -/
def Hv.vv (s : Hv) : Option ByteArray → Value | none => s.vC | some x => getG nilS s.EV x
def vvL (H : List Ac) : Option ByteArray → List Int | none => cms H | some x => vrs H x
def Hv.tcells (s : Hv) (H : List Ac) (t : Int) : Array Value := #[.int .i64 t, .int .i64 0, .bool (bg H t), .bool (en H t), .int .u64 (snp H t : Nat), .int .u64 (cm H t : Nat), s.vi t, s.vr t, s.vs t]
/-- A HISTORY THAT IS BEING READ: H is what was read. -/
structure St (w : World) (B : Nat) (H : List Ac) (s : Hv) : Prop where
  blk : Blk w s.hb #[.map (some s.mT), .map (some s.mW), s.vC, .map (some s.mV), nilS, nilS] 78
  hbB : B ≤ s.hb
  mTB : B ≤ s.mT
  mWB : B ≤ s.mW
  mVB : B ≤ s.mV
  mTW : s.mT ≠ s.mW
  mTV : s.mT ≠ s.mV
  mWV : s.mW ≠ s.mV
  mt : MapG kvI w s.mT s.ET
  mtv : ∀ t, getG nilP s.ET t = if kn H t = true then ptr1 (s.pt t) else nilP
  mw : MapG kvW w s.mW s.EW
  mwv : ∀ k, getG (.int .i64 0) s.EW k = .int .i64 (wr H k.1 k.2 : Nat)
  mv : MapG kvS w s.mV s.EV
  mvk : ∀ x, x ∈ s.EV.map (·.1) ↔ vrs H x ≠ []
  mvn : (s.EV.map (·.1)).Nodup
  fv : Fam (encT s.pt) 1 102 w B s.vv (vvL H)
  tn : ∀ t, kn H t = true → B ≤ s.pt t ∧ Blk w (s.pt t) (s.tcells H t) 101
  inj : ∀ t t', kn H t = true → kn H t' = true → s.pt t = s.pt t' → t = t'
  fi : Fam encX 1 9 w B s.vi (its H)
  fr : Fam encS 3 53 w B s.vr (rds H)
  fs : Fam encA 10 51 w B s.vs s.Sc
  sc : ∀ t, (s.Sc t).map (·.1) = scs H t
  sn : ∀ t, ∀ z ∈ s.Sc t, SlG encS 3 B w z.2 z.1.sn
theorem St.on {w w' : World} {B : Nat} {H : List Ac} {s : Hv} (h : St w B H s) (hB : B ≤ w.heap.size) (hb : Below w.heap.size w w') : St w' B H s where
  blk := h.blk.on hb
  hbB := h.hbB
  mTB := h.mTB
  mWB := h.mWB
  mVB := h.mVB
  mTW := h.mTW
  mTV := h.mTV
  mWV := h.mWV
  mt := h.mt.on hb
  mtv := h.mtv
  mw := h.mw.on hb
  mwv := h.mwv
  mv := h.mv.on hb
  mvk := h.mvk
  mvn := h.mvn
  fv := h.fv.on hb
  tn t ht := ⟨(h.tn t ht).1, (h.tn t ht).2.on hb⟩
  inj := h.inj
  fi := h.fi.on hb
  fr := h.fr.on hb
  fs := h.fs.on hb
  sc := h.sc
  sn t z hz := (h.sn t z hz).on (hb.mono hB)

abbrev aggS (s : Sw) : Value := .agg #[.string s.it, .int .i64 s.fr, .int .i64 s.nt]
set_option maxHeartbeats 4000000 in
theorem mayRead_any (B : Nat) (H : List Ac) (s : Hv) (t : Int) (x : Sw) (w : World) (hS : St w B H s) (hB : B ≤ w.heap.size) (ht : kn H t = true) : Calls Tryz.prog 97 #[ptr1 s.hb, ptr1 (s.pt t), aggS x] w fun e w' => e = .returned (.bool (thB H t x)) ∧ Below w.heap.size w w' := by
  have HS0 : Hid (St w B H s) := hS
  have hlt1 := hS.blk.lt
  have hlt2 := (hS.tn t ht).2.lt
  obtain ⟨w1, hw1⟩ : ∃ w1, w.alloc (.cells #[.string x.it, .int .i64 x.fr, .int .i64 x.nt] 53) = w1 := ⟨_, rfl⟩
  have HBw1 : Hid (Below w1.heap.size w1 w1) := Below.refl _ _
  have HB1 : Hid (Below w.heap.size w w1) := by rw [← hw1]; exact (Below.refl _ _).alloc (Nat.le_refl _) _
  have HK1 : Hid (Blk w1 w.heap.size #[.string x.it, .int .i64 x.fr, .int .i64 x.nt] 53) := by rw [← hw1]; exact Blk.new w _ _
  have HF : Hid (∀ w' : World, Below w1.heap.size w1 w' → w'.cell? ⟨s.hb, 1, none⟩ = some (.map (some s.mW)) ∧ w'.cell? ⟨s.pt t, 0, none⟩ = some (.int .i64 t) ∧ w'.cell? ⟨w.heap.size, 0, none⟩ = some (.string x.it) ∧ w'.cell? ⟨w.heap.size, 1, none⟩ = some (.int .i64 x.fr) ∧ w'.cell? ⟨w.heap.size, 2, none⟩ = some (.int .i64 x.nt) ∧
      (∀ k : Int × ByteArray, (Instr.lookup 74 (.map (some s.mW)) (.agg #[.int .i64 k.1, .string k.2]) false).run Tryz.prog w' = .ok (.int .i64 (wr H k.1 k.2 : Nat)) w')) := fun w' hb => by
    have hb1 : Below w.heap.size w w' := HB1.out.trans (hb.mono HB1.out.size)
    have hS2 := HS0.out.on hB hb1
    have hk := HK1.out.on hb
    refine ⟨hS2.blk.cell rfl, (hS2.tn t ht).2.cell rfl, hk.cell rfl, hk.cell rfl, hk.cell rfl, fun k => ?_⟩
    have h1 := hS2.mw.look keyW Tryz.underlying74 zeroNn k
    rw [hS2.mwv] at h1
    exact h1
  clear hS ht
  dsimp only [ptr1, aggS]
  obtain ⟨R, hR⟩ : ∃ R, thB H t x = R := ⟨_, rfl⟩
  have HR : Hid (thB H t x = R) := hR
  rw [hR]
  clear hR
  obtain ⟨n, hn⟩ : ∃ n, wr H t x.it = n := ⟨_, rfl⟩
  obtain ⟨m, hm⟩ : ∃ m, wr H x.fr x.it = m := ⟨_, rfl⟩
  have HN : Hid (wr H t x.it = n) := hn
  have HM : Hid (wr H x.fr x.it = m) := hm
  clear hn hm
  go_enter Tryz.func97, Tryz.ntmps97
  go_upto_region 1 with fail
  have f9 := fun p : InB w1 => (HF.out p.w' (HBw1.out.trans (p.h.mono HBw1.out.size))).2.2.2.2.2 (t, x.it)
  rw [HN.out] at f9
  haveI := inB_ne w1
  have f0 := fun p : InB w1 => (HF.out p.w' (HBw1.out.trans (p.h.mono HBw1.out.size))).1
  have f1 := fun p : InB w1 => (HF.out p.w' (HBw1.out.trans (p.h.mono HBw1.out.size))).2.1
  have f2 := fun p : InB w1 => (HF.out p.w' (HBw1.out.trans (p.h.mono HBw1.out.size))).2.2.1
  refine wp_region_inB (by kernel_rfl) (by kernel_rfl) ?_
  repeat (go_big_quiet_step (fail))
  refine wpQuiet_nil ?_
  rintro w2 ⟨⟨w2', hb9⟩, h9⟩
  obtain rfl : w2 = w2' := h9
  have HBw2 : Hid (Below w1.heap.size w1 w2) := HBw1.out.trans (hb9.mono HBw1.out.size)
  clear hb9 f0 f1 f2
  clear f9 hw1
  by_cases h0 : 0 < n
  · have h0' : (n : Int) > 0 := by omega
    by_cases h1 : x.fr = t
    · have h1' : (x.fr == t) = true := by simpa using h1
      by_cases h2 : x.nt = (n : Int)
      · have h2' : (x.nt == (n : Int)) = true := by simpa using h2
        obtain rfl : R = true := by rw [← HR.out]; unfold thB; rw [HN.out, HM.out]; simp [h0, h1, h2]
        clear h0 h1 h2
        go_upto_region 3 with fail
        haveI := inB_ne w2
        have f1 := fun p : InB w2 => (HF.out p.w' (HBw2.out.trans (p.h.mono HBw2.out.size))).2.1
        have f3 := fun p : InB w2 => (HF.out p.w' (HBw2.out.trans (p.h.mono HBw2.out.size))).2.2.2.1
        have f4 := fun p : InB w2 => (HF.out p.w' (HBw2.out.trans (p.h.mono HBw2.out.size))).2.2.2.2.1
        refine wp_region_inB (by kernel_rfl) (by kernel_rfl) ?_
        repeat (go_big_quiet_step (fail))
        refine wpQuiet_nil ?_
        rintro w3 ⟨⟨w3', hb9⟩, h9⟩
        obtain rfl : w3 = w3' := h9
        have HBw3 : Hid (Below w1.heap.size w1 w3) := HBw2.out.trans (hb9.mono HBw2.out.size)
        clear hb9 f1 f3 f4
        go_wp2_with fail
        go_ret
        exact ⟨rfl, HB1.out.trans (HBw3.out.mono HB1.out.size)⟩
      · have h2' : (x.nt == (n : Int)) = false := by simpa using h2
        obtain rfl : R = false := by rw [← HR.out]; unfold thB; rw [HN.out, HM.out]; simp [h0, h2]
        clear h0 h1 h2
        go_upto_region 3 with fail
        haveI := inB_ne w2
        have f1 := fun p : InB w2 => (HF.out p.w' (HBw2.out.trans (p.h.mono HBw2.out.size))).2.1
        have f3 := fun p : InB w2 => (HF.out p.w' (HBw2.out.trans (p.h.mono HBw2.out.size))).2.2.2.1
        have f4 := fun p : InB w2 => (HF.out p.w' (HBw2.out.trans (p.h.mono HBw2.out.size))).2.2.2.2.1
        refine wp_region_inB (by kernel_rfl) (by kernel_rfl) ?_
        repeat (go_big_quiet_step (fail))
        refine wpQuiet_nil ?_
        rintro w3 ⟨⟨w3', hb9⟩, h9⟩
        obtain rfl : w3 = w3' := h9
        have HBw3 : Hid (Below w1.heap.size w1 w3) := HBw2.out.trans (hb9.mono HBw2.out.size)
        clear hb9 f1 f3 f4
        go_wp2_with fail
        go_ret
        exact ⟨rfl, HB1.out.trans (HBw3.out.mono HB1.out.size)⟩
    · have h1' : (x.fr == t) = false := by simpa using h1
      obtain rfl : R = false := by rw [← HR.out]; unfold thB; rw [HN.out, HM.out]; simp [h0, h1]
      clear h0 h1
      go_upto_region 3 with fail
      haveI := inB_ne w2
      have f1 := fun p : InB w2 => (HF.out p.w' (HBw2.out.trans (p.h.mono HBw2.out.size))).2.1
      have f3 := fun p : InB w2 => (HF.out p.w' (HBw2.out.trans (p.h.mono HBw2.out.size))).2.2.2.1
      have f4 := fun p : InB w2 => (HF.out p.w' (HBw2.out.trans (p.h.mono HBw2.out.size))).2.2.2.2.1
      refine wp_region_inB (by kernel_rfl) (by kernel_rfl) ?_
      repeat (go_big_quiet_step (fail))
      refine wpQuiet_nil ?_
      rintro w3 ⟨⟨w3', hb9⟩, h9⟩
      obtain rfl : w3 = w3' := h9
      have HBw3 : Hid (Below w1.heap.size w1 w3) := HBw2.out.trans (hb9.mono HBw2.out.size)
      clear hb9 f1 f3 f4
      go_wp2_with fail
      go_ret
      exact ⟨rfl, HB1.out.trans (HBw3.out.mono HB1.out.size)⟩
  · have h0' : ¬ (n : Int) > 0 := by omega
    have k3 := (HF.out w2 HBw2.out).2.2.2.1
    have k4 := (HF.out w2 HBw2.out).2.2.2.2.1
    by_cases h1 : x.fr = 0
    · obtain rfl : R = (x.nt == 0) := by rw [← HR.out]; unfold thB; rw [HN.out, HM.out]; simp [h0, h1]
      rw [h1] at k3
      clear h0 h1
      go_wp2_with fail
      go_ret
      exact ⟨rfl, HB1.out.trans (HBw2.out.mono HB1.out.size)⟩
    · by_cases h2 : 1 ≤ x.nt
      · have hge : x.nt ≥ 1 := h2
        by_cases h3 : x.nt ≤ (m : Int)
        · obtain rfl : R = true := by rw [← HR.out]; unfold thB; rw [HN.out, HM.out]; simp [h0, h1, h2, h3]
          go_upto_region 6 with fail
          clear k3 k4
          have f9 := fun p : InB w2 => (HF.out p.w' (HBw2.out.trans (p.h.mono HBw2.out.size))).2.2.2.2.2 (x.fr, x.it)
          rw [HM.out] at f9
          haveI := inB_ne w2
          have f0 := fun p : InB w2 => (HF.out p.w' (HBw2.out.trans (p.h.mono HBw2.out.size))).1
          have f2 := fun p : InB w2 => (HF.out p.w' (HBw2.out.trans (p.h.mono HBw2.out.size))).2.2.1
          have f3 := fun p : InB w2 => (HF.out p.w' (HBw2.out.trans (p.h.mono HBw2.out.size))).2.2.2.1
          have f4 := fun p : InB w2 => (HF.out p.w' (HBw2.out.trans (p.h.mono HBw2.out.size))).2.2.2.2.1
          refine wp_region_inB (by kernel_rfl) (by kernel_rfl) ?_
          repeat (go_big_quiet_step (fail))
          refine wpQuiet_nil ?_
          rintro w3 ⟨⟨w3', hb9⟩, h9⟩
          obtain rfl : w3 = w3' := h9
          have HBw3 : Hid (Below w1.heap.size w1 w3) := HBw2.out.trans (hb9.mono HBw2.out.size)
          clear hb9 f0 f2 f3 f4
          go_wp2_with fail
          go_ret
          exact ⟨rfl, HB1.out.trans (HBw3.out.mono HB1.out.size)⟩
        · obtain rfl : R = false := by rw [← HR.out]; unfold thB; rw [HN.out, HM.out]; simp [h0, h1, h3]
          go_upto_region 6 with fail
          clear k3 k4
          have f9 := fun p : InB w2 => (HF.out p.w' (HBw2.out.trans (p.h.mono HBw2.out.size))).2.2.2.2.2 (x.fr, x.it)
          rw [HM.out] at f9
          haveI := inB_ne w2
          have f0 := fun p : InB w2 => (HF.out p.w' (HBw2.out.trans (p.h.mono HBw2.out.size))).1
          have f2 := fun p : InB w2 => (HF.out p.w' (HBw2.out.trans (p.h.mono HBw2.out.size))).2.2.1
          have f3 := fun p : InB w2 => (HF.out p.w' (HBw2.out.trans (p.h.mono HBw2.out.size))).2.2.2.1
          have f4 := fun p : InB w2 => (HF.out p.w' (HBw2.out.trans (p.h.mono HBw2.out.size))).2.2.2.2.1
          refine wp_region_inB (by kernel_rfl) (by kernel_rfl) ?_
          repeat (go_big_quiet_step (fail))
          refine wpQuiet_nil ?_
          rintro w3 ⟨⟨w3', hb9⟩, h9⟩
          obtain rfl : w3 = w3' := h9
          have HBw3 : Hid (Below w1.heap.size w1 w3) := HBw2.out.trans (hb9.mono HBw2.out.size)
          clear hb9 f0 f2 f3 f4
          go_wp2_with fail
          go_ret
          exact ⟨rfl, HB1.out.trans (HBw3.out.mono HB1.out.size)⟩
      · have hge : ¬ x.nt ≥ 1 := h2
        obtain rfl : R = false := by rw [← HR.out]; unfold thB; rw [HN.out, HM.out]; simp [h0, h1, h2]
        go_upto_region 6 with fail
        clear k3 k4
        haveI := inB_ne w2
        have f0 := fun p : InB w2 => (HF.out p.w' (HBw2.out.trans (p.h.mono HBw2.out.size))).1
        have f2 := fun p : InB w2 => (HF.out p.w' (HBw2.out.trans (p.h.mono HBw2.out.size))).2.2.1
        have f3 := fun p : InB w2 => (HF.out p.w' (HBw2.out.trans (p.h.mono HBw2.out.size))).2.2.2.1
        have f4 := fun p : InB w2 => (HF.out p.w' (HBw2.out.trans (p.h.mono HBw2.out.size))).2.2.2.2.1
        refine wp_region_inB (by kernel_rfl) (by kernel_rfl) ?_
        repeat (go_big_quiet_step (fail))
        refine wpQuiet_nil ?_
        rintro w3 ⟨⟨w3', hb9⟩, h9⟩
        obtain rfl : w3 = w3' := h9
        have HBw3 : Hid (Below w1.heap.size w1 w3) := HBw2.out.trans (hb9.mono HBw2.out.size)
        clear hb9 f0 f2 f3 f4
        go_wp2_with fail
        go_ret
        exact ⟨rfl, HB1.out.trans (HBw3.out.mono HB1.out.size)⟩

end Go.Proofs.YtncfejndmlcidaaGreat
