/- The text of a finite float: that it hangs on the float alone. The text of a float below the normal ones, and of nought. -/
import Derived.Test.YthbjheiogghjnaaGreatDoorGWFl10
import Derived.Test.YthbjheiogghjnaaGreatDoorGMAny9
namespace Go.Proofs.YthbjheiogghjnaaGreatDoor
open Go.RowKit
set_option maxRecDepth 100000

theorem run_f64bits (f : Nat) (w : World) : (callFunc 107 #[.float .f64 f]).run Tryz.prog w = .ok (.value (.int .u64 f)) w := by
  rw [run_callFunc_extern (fn := Tryz.f107) (e := Extern.MathFloatBits.float64bits) Tryz.func107 (by kernel_rfl) (by kernel_rfl) (by kernel_rfl) (by kernel_rfl)]
  rfl
/-- the tables that the texts of floats read -/
structure FlE (T : Nat → Int × Int) (w : World) : Prop where
  hg : 10 < w.heap.size
  pt : PT T w
  hu : 5 < w.heap.size
  tab : Lib.TabIs Tryz.prog w "internal/strconv.uint64pow10" .u64 Lib.pow10Tab
theorem FlE.on {T : Nat → Int × Int} {w w' : World} (h : FlE T w) (hb : Below w.heap.size w w') : FlE T w' := by
  refine ⟨Nat.lt_of_lt_of_le h.hg hb.size, fun i hi => ?_, Nat.lt_of_lt_of_le h.hu hb.size, ?_⟩
  · have k : ∀ o v, w.cell? ⟨10, o, none⟩ = some v → w'.cell? ⟨10, o, none⟩ = some v := fun o v hc => (hb.cell (p := ⟨10, o, none⟩) h.hg).trans hc
    exact ⟨k _ _ (h.pt i hi).1, k _ _ (h.pt i hi).2⟩
  · have e : w'.var? Tryz.prog "internal/strconv.uint64pow10" = w.var? Tryz.prog "internal/strconv.uint64pow10" := by
      have hn : Tryz.prog.globalNamed "internal/strconv.uint64pow10" = some 5 := by kernel_rfl
      unfold World.var?
      rw [hn]
      show (match w'.heap[5]? with | some (Obj.cells cs _ _) => some cs | _ => none) = _
      rw [hb.block _ h.hu]
      rfl
    exact e.trans h.tab
theorem bitLen_bd (x : Nat) (h0 : x ≠ 0) (h : x < 9007199254740992) : 1 ≤ Lib.bitLen x ∧ Lib.bitLen x ≤ 53 := by
  obtain ⟨a, b, c⟩ := Lib.bitLenAux_bounds 64 x (by omega) h0
  refine ⟨a, ?_⟩
  unfold Lib.bitLen
  rcases Nat.lt_or_ge 53 (Lib.bitLenAux 64 x) with h9 | h9
  · have h1 : 2 ^ 53 ≤ 2 ^ (Lib.bitLenAux 64 x - 1) := Nat.pow_le_pow_right (by decide) (by omega)
    omega
  · exact h9
theorem row32_new (w : World) (T : TypeId) : Row32 (w.alloc (.cells #[.int .u8 0, .int .u8 0, .int .u8 0, .int .u8 0, .int .u8 0, .int .u8 0, .int .u8 0, .int .u8 0, .int .u8 0, .int .u8 0, .int .u8 0, .int .u8 0, .int .u8 0, .int .u8 0, .int .u8 0, .int .u8 0, .int .u8 0, .int .u8 0, .int .u8 0, .int .u8 0, .int .u8 0, .int .u8 0, .int .u8 0, .int .u8 0, .int .u8 0, .int .u8 0, .int .u8 0, .int .u8 0, .int .u8 0, .int .u8 0, .int .u8 0, .int .u8 0] T)) w.heap.size := by
  intro j hj
  refine ⟨?_, by simp [go_sem]⟩
  rw [World.cell?_alloc_new]
  show (#[.int .u8 0, .int .u8 0, .int .u8 0, .int .u8 0, .int .u8 0, .int .u8 0, .int .u8 0, .int .u8 0, .int .u8 0, .int .u8 0, .int .u8 0, .int .u8 0, .int .u8 0, .int .u8 0, .int .u8 0, .int .u8 0, .int .u8 0, .int .u8 0, .int .u8 0, .int .u8 0, .int .u8 0, .int .u8 0, .int .u8 0, .int .u8 0, .int .u8 0, .int .u8 0, .int .u8 0, .int .u8 0, .int .u8 0, .int .u8 0, .int .u8 0, .int .u8 0] : Array Value)[j]? = _
  rw [show (#[.int .u8 0, .int .u8 0, .int .u8 0, .int .u8 0, .int .u8 0, .int .u8 0, .int .u8 0, .int .u8 0, .int .u8 0, .int .u8 0, .int .u8 0, .int .u8 0, .int .u8 0, .int .u8 0, .int .u8 0, .int .u8 0, .int .u8 0, .int .u8 0, .int .u8 0, .int .u8 0, .int .u8 0, .int .u8 0, .int .u8 0, .int .u8 0, .int .u8 0, .int .u8 0, .int .u8 0, .int .u8 0, .int .u8 0, .int .u8 0, .int .u8 0, .int .u8 0] : Array Value) = Array.replicate 32 (.int .u8 0) from rfl, Array.getElem?_replicate, if_pos hj]

set_option maxHeartbeats 16000000 in
theorem ftoa_norm (T : Nat → Int × Int) (fb : Nat) (neg : Bool) (e0 m0 m1 : Int) (hn : ((fb : Int) / 9223372036854775808 != 0) = neg) (h1 : bits .and .i64 (wrap64 ((fb : Int) / 4503599627370496)) 2047 = e0) (h2 : bits .and .u64 (fb : Int) 4503599627370495 = m0) (h3 : ¬ e0 = 2047) (h4 : ¬ e0 = 0) (h5 : 0 ≤ e0) (h6 : e0 ≤ 2047) (_h7 : 0 ≤ m0) (_h8 : m0 < 4503599627370496) (h9 : bits .or .u64 m0 4503599627370496 = m1) (h10 : 4503599627370496 ≤ m1) (h11 : m1 < 9007199254740992) :
    ∃ t : List UInt8, t.length ≤ 40 ∧ ∀ (w : World) (B : Nat) (vb : Value) (bs : List UInt8), FlE T w → OwnB w B vb bs → B ≤ w.heap.size → bs.length ≤ 900 →
      Calls Tryz.prog 97 #[vb, .float .f64 fb, .int .u8 101, .int .i64 (-1)] w fun e w' => ∃ v', e = .returned v' ∧ OwnB w' B v' (bs ++ t) ∧ Keep5 B w w' := by
  obtain ⟨L, hL⟩ : ∃ L, Lib.bitLen m1.toNat = L := ⟨_, rfl⟩
  have hLb := bitLen_bd m1.toNat (by omega) (by omega)
  rw [hL] at hLb
  obtain ⟨hL1, hL2⟩ := hLb
  obtain ⟨d, p, ⟨hU, hp1, hp2⟩, hS⟩ := short_any T (IntKind.u64.wrap (m1 * 2 ^ (64 - L))) (e0 + -1023 - (64 - (L : Int)) - 52) (by omega) (by omega)
  obtain ⟨u, rfl⟩ := Int.eq_ofNat_of_zero_le hU.1
  have hu64 : u < 18446744073709551616 := by have := hU.2; omega
  refine ⟨fmtE neg (digL u) ((ndN u : Int) + p), Nat.le_trans (fmtE_len _ _ _) (by rw [digL_len]; have h1 := trimN_le (fun t => Lib.dg u (ndN u - 1 - t)) (ndN u); have h2 := (ndN_le u hu64).1; omega), ?_⟩
  intro w B vb bs hF ho hB hl
  have HS : Hid _ := hS
  have HF : Hid (FlE T w) := hF
  have HO : Hid (OwnB w B vb bs) := ho
  have HBz : Hid (B ≤ w.heap.size) := hB
  have HL : Hid (bs.length ≤ 900) := hl
  have HU : Hid (u < 18446744073709551616) := hu64
  obtain ⟨dl, hdl⟩ : ∃ dl, (digL u).length = dl := ⟨_, rfl⟩
  have HDl : Hid ((digL u).length = dl) := hdl
  obtain ⟨nn, hnn⟩ : ∃ nn, ndN u = nn := ⟨_, rfl⟩
  have HNn : Hid (ndN u = nn) := hnn
  have hn20 : nn ≤ 20 := by rw [← hnn]; exact (ndN_le u hu64).1
  have hdl20 : dl ≤ nn := by rw [← hdl, ← hnn, digL_len]; exact trimN_le _ _
  have HPb : Hid (-400 ≤ p ∧ p ≤ 400 ∧ nn ≤ 20 ∧ dl ≤ nn) := ⟨hp1, hp2, hn20, hdl20⟩
  rw [hnn]
  have HMX : Hid (max (wrap64 ((dl : Int) - 1)) 0 = ((dl - 1 : Nat) : Int)) := by
    show _ = _
    rw [show wrap64 ((dl : Int) - 1) = (dl : Int) - 1 from by unfold wrap64; omega]
    omega
  have hsl : ∀ g W, (Instr.sliceAt 139 (.pointer (some ⟨g, 0, none⟩)) none none none).run Tryz.prog W = .ok (.slice (some ⟨g, 0, none⟩) 32 32) W := by
    intro g W
    simp [go_sem]
  have hb := run_f64bits
  clear hS hF ho hB hl hU hdl hnn hdl20 hn20 hu64
  go_enter Tryz.func97, Tryz.ntmps97
  go_wp2_with fail
  go_quiet (fail)
  go_wp2_with fail
  refine (Tryz.bits_Len64 m1 _ (by omega) (by omega)).mono ?_
  rintro e w1 ⟨rfl, hw1⟩
  rw [hw1, hL]
  clear hw1
  go_wp2_with fail
  have hbd : Below w.heap.size w (w.drewN nq) := below_drewN (Below.refl _ _) nq
  have hal := (Below.refl (w.drewN nq).heap.size (w.drewN nq)).alloc (Nat.le_refl _) (.cells #[.int .u8 0, .int .u8 0, .int .u8 0, .int .u8 0, .int .u8 0, .int .u8 0, .int .u8 0, .int .u8 0, .int .u8 0, .int .u8 0, .int .u8 0, .int .u8 0, .int .u8 0, .int .u8 0, .int .u8 0, .int .u8 0, .int .u8 0, .int .u8 0, .int .u8 0, .int .u8 0, .int .u8 0, .int .u8 0, .int .u8 0, .int .u8 0, .int .u8 0, .int .u8 0, .int .u8 0, .int .u8 0, .int .u8 0, .int .u8 0, .int .u8 0, .int .u8 0] 139)
  have hba := hbd.trans (hal.mono hbd.size)
  have HE1 : Hid (FlE T ((w.drewN nq).alloc (.cells #[.int .u8 0, .int .u8 0, .int .u8 0, .int .u8 0, .int .u8 0, .int .u8 0, .int .u8 0, .int .u8 0, .int .u8 0, .int .u8 0, .int .u8 0, .int .u8 0, .int .u8 0, .int .u8 0, .int .u8 0, .int .u8 0, .int .u8 0, .int .u8 0, .int .u8 0, .int .u8 0, .int .u8 0, .int .u8 0, .int .u8 0, .int .u8 0, .int .u8 0, .int .u8 0, .int .u8 0, .int .u8 0, .int .u8 0, .int .u8 0, .int .u8 0, .int .u8 0] 139))) := HF.out.on hba
  have HR1 : Hid (Row32 ((w.drewN nq).alloc (.cells #[.int .u8 0, .int .u8 0, .int .u8 0, .int .u8 0, .int .u8 0, .int .u8 0, .int .u8 0, .int .u8 0, .int .u8 0, .int .u8 0, .int .u8 0, .int .u8 0, .int .u8 0, .int .u8 0, .int .u8 0, .int .u8 0, .int .u8 0, .int .u8 0, .int .u8 0, .int .u8 0, .int .u8 0, .int .u8 0, .int .u8 0, .int .u8 0, .int .u8 0, .int .u8 0, .int .u8 0, .int .u8 0, .int .u8 0, .int .u8 0, .int .u8 0, .int .u8 0] 139)) (w.drewN nq).heap.size) := row32_new _ _
  have HX1 : Hid (((w.drewN nq).alloc (.cells #[.int .u8 0, .int .u8 0, .int .u8 0, .int .u8 0, .int .u8 0, .int .u8 0, .int .u8 0, .int .u8 0, .int .u8 0, .int .u8 0, .int .u8 0, .int .u8 0, .int .u8 0, .int .u8 0, .int .u8 0, .int .u8 0, .int .u8 0, .int .u8 0, .int .u8 0, .int .u8 0, .int .u8 0, .int .u8 0, .int .u8 0, .int .u8 0, .int .u8 0, .int .u8 0, .int .u8 0, .int .u8 0, .int .u8 0, .int .u8 0, .int .u8 0, .int .u8 0] 139)).heap[(w.drewN nq).heap.size]? = some (.cells #[.int .u8 0, .int .u8 0, .int .u8 0, .int .u8 0, .int .u8 0, .int .u8 0, .int .u8 0, .int .u8 0, .int .u8 0, .int .u8 0, .int .u8 0, .int .u8 0, .int .u8 0, .int .u8 0, .int .u8 0, .int .u8 0, .int .u8 0, .int .u8 0, .int .u8 0, .int .u8 0, .int .u8 0, .int .u8 0, .int .u8 0, .int .u8 0, .int .u8 0, .int .u8 0, .int .u8 0, .int .u8 0, .int .u8 0, .int .u8 0, .int .u8 0, .int .u8 0] 139 (0, 0))) := heap_alloc_new _ _
  have HA1 : Hid (Below w.heap.size w ((w.drewN nq).alloc (.cells #[.int .u8 0, .int .u8 0, .int .u8 0, .int .u8 0, .int .u8 0, .int .u8 0, .int .u8 0, .int .u8 0, .int .u8 0, .int .u8 0, .int .u8 0, .int .u8 0, .int .u8 0, .int .u8 0, .int .u8 0, .int .u8 0, .int .u8 0, .int .u8 0, .int .u8 0, .int .u8 0, .int .u8 0, .int .u8 0, .int .u8 0, .int .u8 0, .int .u8 0, .int .u8 0, .int .u8 0, .int .u8 0, .int .u8 0, .int .u8 0, .int .u8 0, .int .u8 0] 139))) := hba
  clear hbd hal hba hb
  have hgs : (w.drewN nq).heap.size = w.heap.size := rfl
  rw [hgs] at HR1 HX1
  clear hgs
  generalize (w.drewN nq).alloc (.cells #[.int .u8 0, .int .u8 0, .int .u8 0, .int .u8 0, .int .u8 0, .int .u8 0, .int .u8 0, .int .u8 0, .int .u8 0, .int .u8 0, .int .u8 0, .int .u8 0, .int .u8 0, .int .u8 0, .int .u8 0, .int .u8 0, .int .u8 0, .int .u8 0, .int .u8 0, .int .u8 0, .int .u8 0, .int .u8 0, .int .u8 0, .int .u8 0, .int .u8 0, .int .u8 0, .int .u8 0, .int .u8 0, .int .u8 0, .int .u8 0, .int .u8 0, .int .u8 0] 139) = w1 at *
  refine (HS.out w1 HE1.out.hg HE1.out.pt).mono ?_
  rintro e w2 ⟨rfl, hb2⟩
  dsimp only
  have hdr : Below w2.heap.size w2 w2.drew := (Below.refl _ _).drew
  have h12 := hb2.trans (hdr.mono hb2.size)
  obtain ⟨g, hgg⟩ : ∃ g, w.heap.size = g := ⟨_, rfl⟩
  have HG2 : Hid (w.heap.size ≤ g) := by rw [← hgg]; exact Nat.le_refl _
  rw [hgg] at HR1 HX1 ⊢
  have hglt : g < w1.heap.size := (Array.getElem?_eq_some_iff.1 HX1.out).1
  have HB2 : Hid (Below w.heap.size w w2.drew) := HA1.out.trans (h12.mono HA1.out.size)
  have CN : Hid (Calls Tryz.prog 75 #[.int .u64 (u : Nat)] w2.drew fun e w' => e = .returned (.int .i64 (nn : Nat)) ∧ w' = w2.drew) := by
    rw [← HNn.out]
    exact numD_any u HU.out w2.drew (HE1.out.on h12).tab
  have CS : Hid (Calls Tryz.prog 112 #[.slice (some ⟨g, 0, none⟩) 32 32, .int .u64 (u : Nat), .int .i64 p, .int .i64 (nn : Nat)] w2.drew fun e w' => e = .returned (.tuple #[.int .i64 ((nn : Int) + p), .int .i64 (dl : Nat)]) ∧ DigM w' g (digL u) ∧ Below g w2.drew w') := by
    rw [← HNn.out, ← HDl.out]
    refine setD_any u g p w2.drew HU.out HPb.out.1 HPb.out.2.1 (fun j hj => ?_) #[.int .u8 0, .int .u8 0, .int .u8 0, .int .u8 0, .int .u8 0, .int .u8 0, .int .u8 0, .int .u8 0, .int .u8 0, .int .u8 0, .int .u8 0, .int .u8 0, .int .u8 0, .int .u8 0, .int .u8 0, .int .u8 0, .int .u8 0, .int .u8 0, .int .u8 0, .int .u8 0, .int .u8 0, .int .u8 0, .int .u8 0, .int .u8 0, .int .u8 0, .int .u8 0, .int .u8 0, .int .u8 0, .int .u8 0, .int .u8 0, .int .u8 0, .int .u8 0] ?_
    · exact ⟨(h12.cell (p := ⟨g, j, none⟩) hglt).trans (HR1.out j hj).1, (h12.frozen (p := ⟨g, j, none⟩) hglt).trans (HR1.out j hj).2⟩
    · exact (h12.block g hglt).trans HX1.out
  clear hb2 hdr h12 hglt HS hgg
  go_upto_region 38 with fail
  refine wp_region_any (by kernel_rfl) ?_
  change wpAny _ _ _ _ _ _ _ (World.drew _)
  generalize w2.drew = w3 at *
  refine tk (v := ?_) 0 rfl ?_ ?_
  rotate_left
  focus
    intro w9
    go_simp
    try with_reducible rfl
  try simp only [aP]
  refine tk (v := ?_) 1 rfl ?_ ?_
  rotate_left
  focus
    intro w9
    go_simp
    try with_reducible rfl
  try simp only [aP]
  refine tk (v := ?_) 2 rfl ?_ ?_
  rotate_left
  focus
    intro w9
    go_simp
    try with_reducible rfl
  try simp only [aP]
  refine tk (v := ?_) 3 rfl ?_ ?_
  rotate_left
  focus
    intro w9
    go_simp
    try with_reducible rfl
  try simp only [aP]
  apply later1 (fun (w5 : World) => Hid (DigM w5 g (digL u) ∧ Below g w3 w5))
  intro hs4_5
  apply later0
  intro hs4
  · refine wpAny_ready (rs := [4]) (by kernel_rfl) (by simp) ?_
    refine anyN_cons 4 rfl (by rfl) (fun K hK => ?_) AllReady.nil
    go_simp
    refine CN.out.mono ?_
    rintro e w4 ⟨rfl, hw4⟩
    dsimp only
    rw [hw4]
    clear hw4
    refine hK.out _ _ ?_
    clear hK K
    try simp only [aP]
    exact hs4
  · refine wpAny_ready (rs := [5]) (by kernel_rfl) (by simp) ?_
    refine anyN_cons 5 rfl (by rfl) (fun K hK => ?_) AllReady.nil
    go_simp
    refine CS.out.mono ?_
    rintro e w5 ⟨rfl, hd5, hb5⟩
    dsimp only
    have H5 : Hid (DigM w5 g (digL u) ∧ Below g w3 w5) := ⟨hd5, hb5⟩
    clear hd5 hb5
    refine hK.out _ _ ?_
    clear hK K
    try simp only [aP]
    refine tk (v := ?_) 6 rfl ?_ ?_
    rotate_left
    focus
      intro w9
      go_simp
      try with_reducible rfl
    try simp only [aP]
    refine tk (v := ?_) 7 rfl ?_ ?_
    rotate_left
    focus
      intro w9
      go_simp
      try with_reducible rfl
    try simp only [aP]
    refine tk (v := ?_) 8 rfl ?_ ?_
    rotate_left
    focus
      intro w9
      go_simp
      try with_reducible rfl
    try simp only [aP]
    exact hs4_5 w5 H5
  · intro w5 H5
    refine tk (v := ?_) 9 rfl ?_ ?_
    rotate_left
    focus
      intro w9
      go_simp
      try with_reducible rfl
    try simp only [aP]
    refine tk (v := ?_) 10 rfl ?_ ?_
    rotate_left
    focus
      intro w9
      go_simp
      try with_reducible rfl
    try simp only [aP]
    refine wpAny_done (by kernel_rfl) ?_ _
    have HK5 : Hid (Keep5 B w w5) := Keep5.of_below (HB2.out.trans (H5.out.2.mono HG2.out)) HBz.out
    have HO5 : Hid (OwnB w5 B vb bs) := HO.out.kept (HB2.out.trans (H5.out.2.mono HG2.out))
    have CE : Hid (Calls Tryz.prog 110 #[vb, .bool neg, .slice (some ⟨g, 0, none⟩) 32 32, .int .i64 ((nn : Int) + p), .int .i64 (dl : Nat), .int .i64 ((dl - 1 : Nat) : Int), .int .u8 101, .bool true] w5 fun e w' => ∃ v', e = .returned v' ∧ OwnB w' B v' (bs ++ fmtE neg (digL u) ((nn : Int) + p)) ∧ Keep5 B w5 w') := by
      rw [← HDl.out]
      exact fmtE_any B g neg (digL u) vb bs _ w5 (by have := HPb.out; omega) (by have := HPb.out; omega) HO5.out (Nat.le_trans HBz.out HK5.out.below.size) (by have := HL.out; omega) H5.out.1 (by rw [HDl.out]; have := HPb.out; omega)
    clear H5 HO5
    go_wp2_with fail
    rw [HMX.out]
    refine CE.out.mono ?_
    rintro e w6 ⟨v6, rfl, h61, h62⟩
    dsimp only
    have H6 : Hid (OwnB w6 B v6 (bs ++ fmtE neg (digL u) ((nn : Int) + p)) ∧ Keep5 B w w6) := ⟨h61, HK5.out.trans h62⟩
    clear h61 h62 CE
    go_wp2_with fail
    go_ret
    exact ⟨_, rfl, H6.out⟩

end Go.Proofs.YthbjheiogghjnaaGreatDoor

namespace Go.Proofs.YthbjheiogghjnaaGreatDoor
open Go.RowKit
set_option maxRecDepth 100000

set_option maxHeartbeats 16000000 in
theorem ftoa_sub (T : Nat → Int × Int) (fb : Nat) (neg : Bool) (m0 : Int) (hn : ((fb : Int) / 9223372036854775808 != 0) = neg) (h1 : bits .and .i64 (wrap64 ((fb : Int) / 4503599627370496)) 2047 = 0) (h2 : bits .and .u64 (fb : Int) 4503599627370495 = m0) (h7 : 1 ≤ m0) (h8 : m0 < 4503599627370496) :
    ∃ t : List UInt8, t.length ≤ 40 ∧ ∀ (w : World) (B : Nat) (vb : Value) (bs : List UInt8), FlE T w → OwnB w B vb bs → B ≤ w.heap.size → bs.length ≤ 900 →
      Calls Tryz.prog 97 #[vb, .float .f64 fb, .int .u8 101, .int .i64 (-1)] w fun e w' => ∃ v', e = .returned v' ∧ OwnB w' B v' (bs ++ t) ∧ Keep5 B w w' := by
  obtain ⟨L, hL⟩ : ∃ L, Lib.bitLen m0.toNat = L := ⟨_, rfl⟩
  have hLb := bitLen_bd m0.toNat (by omega) (by omega)
  rw [hL] at hLb
  obtain ⟨hL1, hL2⟩ := hLb
  obtain ⟨d, p, ⟨hU, hp1, hp2⟩, hS⟩ := short_any T (IntKind.u64.wrap (m0 * 2 ^ (64 - L))) ((-1022) - (64 - (L : Int)) - 52) (by omega) (by omega)
  obtain ⟨u, rfl⟩ := Int.eq_ofNat_of_zero_le hU.1
  have hu64 : u < 18446744073709551616 := by have := hU.2; omega
  refine ⟨fmtE neg (digL u) ((ndN u : Int) + p), Nat.le_trans (fmtE_len _ _ _) (by rw [digL_len]; have h1 := trimN_le (fun t => Lib.dg u (ndN u - 1 - t)) (ndN u); have h2 := (ndN_le u hu64).1; omega), ?_⟩
  intro w B vb bs hF ho hB hl
  have HS : Hid _ := hS
  have HF : Hid (FlE T w) := hF
  have HO : Hid (OwnB w B vb bs) := ho
  have HBz : Hid (B ≤ w.heap.size) := hB
  have HL : Hid (bs.length ≤ 900) := hl
  have HU : Hid (u < 18446744073709551616) := hu64
  obtain ⟨dl, hdl⟩ : ∃ dl, (digL u).length = dl := ⟨_, rfl⟩
  have HDl : Hid ((digL u).length = dl) := hdl
  obtain ⟨nn, hnn⟩ : ∃ nn, ndN u = nn := ⟨_, rfl⟩
  have HNn : Hid (ndN u = nn) := hnn
  have hn20 : nn ≤ 20 := by rw [← hnn]; exact (ndN_le u hu64).1
  have hdl20 : dl ≤ nn := by rw [← hdl, ← hnn, digL_len]; exact trimN_le _ _
  have HPb : Hid (-400 ≤ p ∧ p ≤ 400 ∧ nn ≤ 20 ∧ dl ≤ nn) := ⟨hp1, hp2, hn20, hdl20⟩
  rw [hnn]
  have HMX : Hid (max (wrap64 ((dl : Int) - 1)) 0 = ((dl - 1 : Nat) : Int)) := by
    show _ = _
    rw [show wrap64 ((dl : Int) - 1) = (dl : Int) - 1 from by unfold wrap64; omega]
    omega
  have hsl : ∀ g W, (Instr.sliceAt 139 (.pointer (some ⟨g, 0, none⟩)) none none none).run Tryz.prog W = .ok (.slice (some ⟨g, 0, none⟩) 32 32) W := by
    intro g W
    simp [go_sem]
  have hb := run_f64bits
  clear hS hF ho hB hl hU hdl hnn hdl20 hn20 hu64
  go_enter Tryz.func97, Tryz.ntmps97
  go_wp2_with fail
  go_quiet (fail)
  go_wp2_with fail
  refine (Tryz.bits_Len64 m0 _ (by omega) (by omega)).mono ?_
  rintro e w1 ⟨rfl, hw1⟩
  rw [hw1, hL]
  clear hw1
  go_wp2_with fail
  have hbd : Below w.heap.size w (w.drewN nq) := below_drewN (Below.refl _ _) nq
  have hal := (Below.refl (w.drewN nq).heap.size (w.drewN nq)).alloc (Nat.le_refl _) (.cells #[.int .u8 0, .int .u8 0, .int .u8 0, .int .u8 0, .int .u8 0, .int .u8 0, .int .u8 0, .int .u8 0, .int .u8 0, .int .u8 0, .int .u8 0, .int .u8 0, .int .u8 0, .int .u8 0, .int .u8 0, .int .u8 0, .int .u8 0, .int .u8 0, .int .u8 0, .int .u8 0, .int .u8 0, .int .u8 0, .int .u8 0, .int .u8 0, .int .u8 0, .int .u8 0, .int .u8 0, .int .u8 0, .int .u8 0, .int .u8 0, .int .u8 0, .int .u8 0] 139)
  have hba := hbd.trans (hal.mono hbd.size)
  have HE1 : Hid (FlE T ((w.drewN nq).alloc (.cells #[.int .u8 0, .int .u8 0, .int .u8 0, .int .u8 0, .int .u8 0, .int .u8 0, .int .u8 0, .int .u8 0, .int .u8 0, .int .u8 0, .int .u8 0, .int .u8 0, .int .u8 0, .int .u8 0, .int .u8 0, .int .u8 0, .int .u8 0, .int .u8 0, .int .u8 0, .int .u8 0, .int .u8 0, .int .u8 0, .int .u8 0, .int .u8 0, .int .u8 0, .int .u8 0, .int .u8 0, .int .u8 0, .int .u8 0, .int .u8 0, .int .u8 0, .int .u8 0] 139))) := HF.out.on hba
  have HR1 : Hid (Row32 ((w.drewN nq).alloc (.cells #[.int .u8 0, .int .u8 0, .int .u8 0, .int .u8 0, .int .u8 0, .int .u8 0, .int .u8 0, .int .u8 0, .int .u8 0, .int .u8 0, .int .u8 0, .int .u8 0, .int .u8 0, .int .u8 0, .int .u8 0, .int .u8 0, .int .u8 0, .int .u8 0, .int .u8 0, .int .u8 0, .int .u8 0, .int .u8 0, .int .u8 0, .int .u8 0, .int .u8 0, .int .u8 0, .int .u8 0, .int .u8 0, .int .u8 0, .int .u8 0, .int .u8 0, .int .u8 0] 139)) (w.drewN nq).heap.size) := row32_new _ _
  have HX1 : Hid (((w.drewN nq).alloc (.cells #[.int .u8 0, .int .u8 0, .int .u8 0, .int .u8 0, .int .u8 0, .int .u8 0, .int .u8 0, .int .u8 0, .int .u8 0, .int .u8 0, .int .u8 0, .int .u8 0, .int .u8 0, .int .u8 0, .int .u8 0, .int .u8 0, .int .u8 0, .int .u8 0, .int .u8 0, .int .u8 0, .int .u8 0, .int .u8 0, .int .u8 0, .int .u8 0, .int .u8 0, .int .u8 0, .int .u8 0, .int .u8 0, .int .u8 0, .int .u8 0, .int .u8 0, .int .u8 0] 139)).heap[(w.drewN nq).heap.size]? = some (.cells #[.int .u8 0, .int .u8 0, .int .u8 0, .int .u8 0, .int .u8 0, .int .u8 0, .int .u8 0, .int .u8 0, .int .u8 0, .int .u8 0, .int .u8 0, .int .u8 0, .int .u8 0, .int .u8 0, .int .u8 0, .int .u8 0, .int .u8 0, .int .u8 0, .int .u8 0, .int .u8 0, .int .u8 0, .int .u8 0, .int .u8 0, .int .u8 0, .int .u8 0, .int .u8 0, .int .u8 0, .int .u8 0, .int .u8 0, .int .u8 0, .int .u8 0, .int .u8 0] 139 (0, 0))) := heap_alloc_new _ _
  have HA1 : Hid (Below w.heap.size w ((w.drewN nq).alloc (.cells #[.int .u8 0, .int .u8 0, .int .u8 0, .int .u8 0, .int .u8 0, .int .u8 0, .int .u8 0, .int .u8 0, .int .u8 0, .int .u8 0, .int .u8 0, .int .u8 0, .int .u8 0, .int .u8 0, .int .u8 0, .int .u8 0, .int .u8 0, .int .u8 0, .int .u8 0, .int .u8 0, .int .u8 0, .int .u8 0, .int .u8 0, .int .u8 0, .int .u8 0, .int .u8 0, .int .u8 0, .int .u8 0, .int .u8 0, .int .u8 0, .int .u8 0, .int .u8 0] 139))) := hba
  clear hbd hal hba hb
  have hgs : (w.drewN nq).heap.size = w.heap.size := rfl
  rw [hgs] at HR1 HX1
  clear hgs
  generalize (w.drewN nq).alloc (.cells #[.int .u8 0, .int .u8 0, .int .u8 0, .int .u8 0, .int .u8 0, .int .u8 0, .int .u8 0, .int .u8 0, .int .u8 0, .int .u8 0, .int .u8 0, .int .u8 0, .int .u8 0, .int .u8 0, .int .u8 0, .int .u8 0, .int .u8 0, .int .u8 0, .int .u8 0, .int .u8 0, .int .u8 0, .int .u8 0, .int .u8 0, .int .u8 0, .int .u8 0, .int .u8 0, .int .u8 0, .int .u8 0, .int .u8 0, .int .u8 0, .int .u8 0, .int .u8 0] 139) = w1 at *
  refine (HS.out w1 HE1.out.hg HE1.out.pt).mono ?_
  rintro e w2 ⟨rfl, hb2⟩
  dsimp only
  have hdr : Below w2.heap.size w2 w2.drew := (Below.refl _ _).drew
  have h12 := hb2.trans (hdr.mono hb2.size)
  obtain ⟨g, hgg⟩ : ∃ g, w.heap.size = g := ⟨_, rfl⟩
  have HG2 : Hid (w.heap.size ≤ g) := by rw [← hgg]; exact Nat.le_refl _
  rw [hgg] at HR1 HX1 ⊢
  have hglt : g < w1.heap.size := (Array.getElem?_eq_some_iff.1 HX1.out).1
  have HB2 : Hid (Below w.heap.size w w2.drew) := HA1.out.trans (h12.mono HA1.out.size)
  have CN : Hid (Calls Tryz.prog 75 #[.int .u64 (u : Nat)] w2.drew fun e w' => e = .returned (.int .i64 (nn : Nat)) ∧ w' = w2.drew) := by
    rw [← HNn.out]
    exact numD_any u HU.out w2.drew (HE1.out.on h12).tab
  have CS : Hid (Calls Tryz.prog 112 #[.slice (some ⟨g, 0, none⟩) 32 32, .int .u64 (u : Nat), .int .i64 p, .int .i64 (nn : Nat)] w2.drew fun e w' => e = .returned (.tuple #[.int .i64 ((nn : Int) + p), .int .i64 (dl : Nat)]) ∧ DigM w' g (digL u) ∧ Below g w2.drew w') := by
    rw [← HNn.out, ← HDl.out]
    refine setD_any u g p w2.drew HU.out HPb.out.1 HPb.out.2.1 (fun j hj => ?_) #[.int .u8 0, .int .u8 0, .int .u8 0, .int .u8 0, .int .u8 0, .int .u8 0, .int .u8 0, .int .u8 0, .int .u8 0, .int .u8 0, .int .u8 0, .int .u8 0, .int .u8 0, .int .u8 0, .int .u8 0, .int .u8 0, .int .u8 0, .int .u8 0, .int .u8 0, .int .u8 0, .int .u8 0, .int .u8 0, .int .u8 0, .int .u8 0, .int .u8 0, .int .u8 0, .int .u8 0, .int .u8 0, .int .u8 0, .int .u8 0, .int .u8 0, .int .u8 0] ?_
    · exact ⟨(h12.cell (p := ⟨g, j, none⟩) hglt).trans (HR1.out j hj).1, (h12.frozen (p := ⟨g, j, none⟩) hglt).trans (HR1.out j hj).2⟩
    · exact (h12.block g hglt).trans HX1.out
  clear hb2 hdr h12 hglt HS hgg
  go_upto_region 38 with fail
  refine wp_region_any (by kernel_rfl) ?_
  change wpAny _ _ _ _ _ _ _ (World.drew _)
  generalize w2.drew = w3 at *
  refine tk (v := ?_) 0 rfl ?_ ?_
  rotate_left
  focus
    intro w9
    go_simp
    try with_reducible rfl
  try simp only [aP]
  refine tk (v := ?_) 1 rfl ?_ ?_
  rotate_left
  focus
    intro w9
    go_simp
    try with_reducible rfl
  try simp only [aP]
  refine tk (v := ?_) 2 rfl ?_ ?_
  rotate_left
  focus
    intro w9
    go_simp
    try with_reducible rfl
  try simp only [aP]
  refine tk (v := ?_) 3 rfl ?_ ?_
  rotate_left
  focus
    intro w9
    go_simp
    try with_reducible rfl
  try simp only [aP]
  apply later1 (fun (w5 : World) => Hid (DigM w5 g (digL u) ∧ Below g w3 w5))
  intro hs4_5
  apply later0
  intro hs4
  · refine wpAny_ready (rs := [4]) (by kernel_rfl) (by simp) ?_
    refine anyN_cons 4 rfl (by rfl) (fun K hK => ?_) AllReady.nil
    go_simp
    refine CN.out.mono ?_
    rintro e w4 ⟨rfl, hw4⟩
    dsimp only
    rw [hw4]
    clear hw4
    refine hK.out _ _ ?_
    clear hK K
    try simp only [aP]
    exact hs4
  · refine wpAny_ready (rs := [5]) (by kernel_rfl) (by simp) ?_
    refine anyN_cons 5 rfl (by rfl) (fun K hK => ?_) AllReady.nil
    go_simp
    refine CS.out.mono ?_
    rintro e w5 ⟨rfl, hd5, hb5⟩
    dsimp only
    have H5 : Hid (DigM w5 g (digL u) ∧ Below g w3 w5) := ⟨hd5, hb5⟩
    clear hd5 hb5
    refine hK.out _ _ ?_
    clear hK K
    try simp only [aP]
    refine tk (v := ?_) 6 rfl ?_ ?_
    rotate_left
    focus
      intro w9
      go_simp
      try with_reducible rfl
    try simp only [aP]
    refine tk (v := ?_) 7 rfl ?_ ?_
    rotate_left
    focus
      intro w9
      go_simp
      try with_reducible rfl
    try simp only [aP]
    refine tk (v := ?_) 8 rfl ?_ ?_
    rotate_left
    focus
      intro w9
      go_simp
      try with_reducible rfl
    try simp only [aP]
    exact hs4_5 w5 H5
  · intro w5 H5
    refine tk (v := ?_) 9 rfl ?_ ?_
    rotate_left
    focus
      intro w9
      go_simp
      try with_reducible rfl
    try simp only [aP]
    refine tk (v := ?_) 10 rfl ?_ ?_
    rotate_left
    focus
      intro w9
      go_simp
      try with_reducible rfl
    try simp only [aP]
    refine wpAny_done (by kernel_rfl) ?_ _
    have HK5 : Hid (Keep5 B w w5) := Keep5.of_below (HB2.out.trans (H5.out.2.mono HG2.out)) HBz.out
    have HO5 : Hid (OwnB w5 B vb bs) := HO.out.kept (HB2.out.trans (H5.out.2.mono HG2.out))
    have CE : Hid (Calls Tryz.prog 110 #[vb, .bool neg, .slice (some ⟨g, 0, none⟩) 32 32, .int .i64 ((nn : Int) + p), .int .i64 (dl : Nat), .int .i64 ((dl - 1 : Nat) : Int), .int .u8 101, .bool true] w5 fun e w' => ∃ v', e = .returned v' ∧ OwnB w' B v' (bs ++ fmtE neg (digL u) ((nn : Int) + p)) ∧ Keep5 B w5 w') := by
      rw [← HDl.out]
      exact fmtE_any B g neg (digL u) vb bs _ w5 (by have := HPb.out; omega) (by have := HPb.out; omega) HO5.out (Nat.le_trans HBz.out HK5.out.below.size) (by have := HL.out; omega) H5.out.1 (by rw [HDl.out]; have := HPb.out; omega)
    clear H5 HO5
    go_wp2_with fail
    rw [HMX.out]
    refine CE.out.mono ?_
    rintro e w6 ⟨v6, rfl, h61, h62⟩
    dsimp only
    have H6 : Hid (OwnB w6 B v6 (bs ++ fmtE neg (digL u) ((nn : Int) + p)) ∧ Keep5 B w w6) := ⟨h61, HK5.out.trans h62⟩
    clear h61 h62 CE
    go_wp2_with fail
    go_ret
    exact ⟨_, rfl, H6.out⟩

set_option maxHeartbeats 16000000 in
theorem ftoa_nought (T : Nat → Int × Int) (fb : Nat) (neg : Bool) (m0 : Int) (hn : ((fb : Int) / 9223372036854775808 != 0) = neg) (h1 : bits .and .i64 (wrap64 ((fb : Int) / 4503599627370496)) 2047 = 0) (h2 : bits .and .u64 (fb : Int) 4503599627370495 = m0) (h7 : m0 = 0) :
    ∃ t : List UInt8, t.length ≤ 40 ∧ ∀ (w : World) (B : Nat) (vb : Value) (bs : List UInt8), FlE T w → OwnB w B vb bs → B ≤ w.heap.size → bs.length ≤ 900 →
      Calls Tryz.prog 97 #[vb, .float .f64 fb, .int .u8 101, .int .i64 (-1)] w fun e w' => ∃ v', e = .returned v' ∧ OwnB w' B v' (bs ++ t) ∧ Keep5 B w w' := by
  subst h7
  refine ⟨fmtE neg [] 0, Nat.le_trans (fmtE_len _ _ _) (by simp), ?_⟩
  intro w B vb bs hF ho hB hl
  have CE : Hid (∀ w', Below w.heap.size w w' → Calls Tryz.prog 110 #[vb, .bool neg, .slice none 0 0, .int .i64 0, .int .i64 0, .int .i64 (-1), .int .u8 101, .bool true] w' fun e w'' => ∃ v', e = .returned v' ∧ OwnB w'' B v' (bs ++ fmtE neg [] 0) ∧ Keep5 B w' w'') := fun w' hb => fmtE_zero B 0 neg [] _ vb bs 0 (-1) w' rfl (by decide) (by decide) (by decide) (ho.kept hb) (Nat.le_trans hB hb.size) (by omega)
  have HBz : Hid (B ≤ w.heap.size) := hB
  have hb := run_f64bits
  clear hF ho hB hl
  go_enter Tryz.func97, Tryz.ntmps97
  go_wp2_with fail
  go_quiet (fail)
  go_wp2_with fail
  have hbd : Below w.heap.size w (w.drewN nq) := below_drewN (Below.refl _ _) nq
  refine (CE.out _ hbd).mono ?_
  rintro e w6 ⟨v6, rfl, h61, h62⟩
  dsimp only
  have H6 : Hid (OwnB w6 B v6 (bs ++ fmtE neg [] 0) ∧ Keep5 B w w6) := ⟨h61, (Keep5.of_below hbd HBz.out).trans h62⟩
  clear h61 h62 CE hbd
  go_wp2_with fail
  go_ret
  exact ⟨_, rfl, H6.out⟩

end Go.Proofs.YthbjheiogghjnaaGreatDoor
