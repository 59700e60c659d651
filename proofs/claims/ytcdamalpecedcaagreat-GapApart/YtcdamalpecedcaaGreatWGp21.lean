/- Layer 13: Tickets; Take. -/
import Derived.Test.YtcdamalpecedcaaGreatWGp20
namespace Go.Proofs.YtcdamalpecedcaaGreat
open Go.RowKit
set_option maxRecDepth 100000

/-- tickets in the making: the first i are there -/
def tkI (Y : List Tkr) (i : Nat) : List Value := (Y.take i).map (fun y => tkV y.x.t) ++ List.replicate (Y.length - i) (.int .u64 0)
theorem tkI_zero (Y : List Tkr) : tkI Y 0 = List.replicate Y.length (.int .u64 0) := by
  unfold tkI
  simp
theorem tkI_set {Y : List Tkr} {i : Nat} (hi : i < Y.length) : (tkI Y i).set i (tkV Y[i].x.t) = tkI Y (i + 1) := by
  unfold tkI
  have hl : ((Y.take i).map (fun y => tkV y.x.t)).length = i := by rw [List.length_map, List.length_take]; omega
  rw [List.set_append_right _ _ (by omega), hl, Nat.sub_self]
  have e : Y.length - i = (Y.length - (i + 1)) + 1 := by omega
  rw [e, List.replicate_succ, List.set_cons_zero, List.take_succ_eq_append_getElem hi, List.map_append, List.append_assoc]
  rfl
theorem tkI_all (Y : List Tkr) : tkI Y Y.length = (Y.map (fun y => y.x.t)).map tkV := by
  unfold tkI
  rw [List.take_length, Nat.sub_self, List.replicate_zero, List.append_nil, List.map_map]
  rfl
theorem made_u (n : Nat) : (madeCells #[Value.int .u64 0] n).toList = List.replicate n (.int .u64 0) := by
  apply List.ext_getElem?
  intro j
  rcases Nat.lt_or_ge j n with h | h
  · simp [madeCells, h, Nat.mod_one]
  · simp [madeCells, h]

set_option maxHeartbeats 8000000 in
theorem tickets_any (gb nx : Nat) (Y : List Tkr) (w : World) (hG : Gp w gb nx Y) :
    Calls Tryz.prog 12 #[ptr1 gb] w fun e w' => ∃ v, e = .returned v ∧ OwnU w' w.heap.size v (Y.map (fun y => y.x.t)) ∧ Below w.heap.size w w' := by
  obtain ⟨xb, p, c, hg, hL⟩ := hG
  have C1 : Hid (Calls _ _ _ _ _) := loadLn gb 0 (some ⟨xb, 0, none⟩) w (Blk.cell (i := 0) hg rfl) (PtT.blk hL.b rfl)
  have HL : Hid (LnP w xb nx p c Y) := hL
  have x1 := Blk.cell (i := 1) hL.b rfl
  have hll := hL.l
  obtain ⟨ie, hie, hz0, hz1, hz2⟩ := info_parts1 info_u64
  have HIe : Hid (Tryz.prog.info? 26 = some ie) := hie
  have HZe : Hid (ie.zero = some (.int .u64 0) ∧ ie.size = 1 ∧ ie.bytes = 8) := ⟨hz0, hz1, hz2⟩
  clear hg hL hie hz0 hz1 hz2
  obtain ⟨n, hn⟩ : ∃ n, Y.length = n := ⟨_, rfl⟩
  have HN : Hid (Y.length = n) := hn
  rw [hn] at x1 hll
  clear hn
  go_enter Tryz.func12, Tryz.ntmps12
  go_wp2_with fail
  refine C1.out.mono ?_
  rintro e w2 ⟨rfl, hw2⟩
  rw [hw2]
  clear hw2 C1
  go_wp2_with (at_make; refine wpList_make_full _ rfl _ _ 37 rfl w.heap.size 26 ie _ 1 Tryz.underlying37 HIe.out HZe.out.1 HZe.out.2.1 .i64 .i64 (n : Int) (n : Int) n rfl rfl rfl rfl (by rw [HZe.out.2.2]; omega) (by unfold maxLen; omega) (Nat.le_refl _) ?_)
  intro w3 h3 h4
  have HB3 : Hid (Below w.heap.size w w3) := (Below.refl _ _).grown h4 (Nat.le_refl _) (fun k hk => by cases hk)
  have HO3 : Hid (World.ownsRow w3 w.heap.size 26 1 (.slice (some ⟨w.heap.size, 0, none⟩) n n) n (tkI Y 0)) := by
    rw [made_u, ← HN.out, ← tkI_zero, HN.out] at h3
    exact h3
  clear h3 h4
  have x1' := Blk.cell (i := 1) (HL.out.b.on HB3.out) rfl
  rw [HN.out] at x1'
  go_wp2_with fail
  go_loopw [22] (fun si wq => ∃ i : Nat, i ≤ n ∧ si = .int .i64 (i : Int) ∧ Hid (World.ownsRow wq w.heap.size 26 1 (.slice (some ⟨w.heap.size, 0, none⟩) n n) n (tkI Y i) ∧ Below w.heap.size w wq)) (fun si _ => ((n : Int) - intOf si).toNat)
  case atStart => exact ⟨0, by omega, rfl, HO3.out, HB3.out⟩
  case round =>
    clear HO3 HB3 x1'
    obtain ⟨i, hi, rfl, HI⟩ := hrel
    rcases Nat.lt_or_eq_of_le hi with hlt | heq
    · have g1 : decide ((i : Int) < (n : Int)) = true := by simp; omega
      have hiY : i < Y.length := by rw [HN.out]; exact hlt
      have hLr := HL.out.on HI.out.2
      obtain ⟨g, o, hp, hg, d0, -, d1⟩ := hLr.z.1.r i (by rw [List.length_map]; exact hiY)
      subst hp
      have hzi : (zs Y)[i]'(by rw [List.length_map]; exact hiY) = (Y[i].b, Y[i].x.t) := List.getElem_map _
      rw [hzi] at d0 d1
      have hcv := World.ownsRow.cellAt HI.out.1 i (by omega)
      have hfz : wr.frozen? ⟨w.heap.size, i, none⟩ = false := by
        rcases HI.out.1.2 with ⟨e9, _⟩ | ⟨g9, cap9, cur9, e9, _, hg9, _⟩
        · cases e9
        · injection e9 with e8
          injection e8 with e8
          injection e8 with e8
          subst e8
          simp [World.frozen?, hg9]
      obtain ⟨uv, huv⟩ : ∃ uv, (tkI Y i)[i]? = some uv := by
        refine ⟨_, List.getElem?_eq_getElem ?_⟩
        unfold tkI
        rw [List.length_append, List.length_map, List.length_take, List.length_replicate]
        omega
      rw [huv] at hcv
      have HS : Hid (World.ownsRow (wr.setCell ⟨w.heap.size, i, none⟩ (.int .u64 (Y[i].x.t : Nat))) w.heap.size 26 1 (.slice (some ⟨w.heap.size, 0, none⟩) n n) n (tkI Y (i + 1)) ∧ Below w.heap.size w (wr.setCell ⟨w.heap.size, i, none⟩ (.int .u64 (Y[i].x.t : Nat)))) := by
        obtain ⟨k1, k2⟩ := World.ownsRow.stored HI.out.1 i (.int .u64 (Y[i].x.t : Nat))
        refine ⟨?_, HI.out.2.grown k2 HI.out.2.size (fun k hk => by cases hk; exact Nat.le_refl _)⟩
        rw [← tkI_set hiY]
        exact k1
      generalize Y[i].b = ob at *
      generalize Y[i].x.t = tq at *
      clear hLr hzi huv hg
      go_wp2_with fail
      go_roundw
      case rel => exact ⟨i + 1, by omega, by go_num, HS⟩
      case measure => simp [intOf]; omega
    · have g1 : decide ((i : Int) < (n : Int)) = false := by simp; omega
      have HZ : Hid (OwnU wr w.heap.size (.slice (some ⟨w.heap.size, 0, none⟩) n n) (Y.map (fun y => y.x.t)) ∧ Below w.heap.size w wr) := by
        refine ⟨?_, HI.out.2⟩
        have h9 := HI.out.1
        rw [heq, ← HN.out, tkI_all] at h9
        rw [← HN.out]
        show World.ownsRow _ _ _ _ _ _ _
        rw [List.length_map]
        exact h9
      go_wp2_with fail
      go_ret
      exact ⟨_, rfl, HZ.out⟩

set_option maxHeartbeats 4000000 in
theorem Take_long (gb c n : Nat) (q : Option Addr) (w : World) (hl : 256 < n) :
    Calls Tryz.prog 16 #[ptr1 gb, .slice q n c] w fun e w' => e = .returned (.tuple #[.int .u64 0, .int .i64 2]) ∧ w' = w := by
  have g1 : (256 : Int) < (n : Int) := by omega
  clear hl
  go_enter Tryz.func16, Tryz.ntmps16
  go_wp2_with fail
  go_ret2
  exact ⟨rfl, rfl⟩

set_option maxHeartbeats 4000000 in
theorem Take_full (gb nx c : Nat) (q : Option Addr) (H : List Hd) (Y : List Tkr) (w : World) (hG : Gp w gb nx Y) (hR : RdH w w.heap.size q H) (hl : H.length ≤ 256) (hf : Y.length = 256) :
    Calls Tryz.prog 16 #[ptr1 gb, .slice q H.length c] w fun e w' => e = .returned (.tuple #[.int .u64 0, .int .i64 2]) ∧ Below w.heap.size w w' := by
  have C1 : Hid (Calls _ _ _ _ _) := claimOf_any H q c w hR hl
  have HG : Hid (Gp w gb nx Y) := hG
  have g1 : (H.length : Int) ≤ 256 := by omega
  clear hG hR
  generalize H.length = n at *
  go_enter Tryz.func16, Tryz.ntmps16
  go_wp2_with fail
  refine C1.out.mono ?_
  rintro e w2 ⟨va, vo, cl, rfl, hcl, ho1, ho2, hb2⟩
  obtain ⟨p1, c1, rfl, -⟩ := ho1.len
  obtain ⟨p2, c2, rfl, -⟩ := ho2.len
  have C2 : Hid (Calls _ _ _ _ _) := gtake_full gb nx c1 c2 cl.all.length cl.alo.length p1 p2 Y w2 (HG.out.on hb2) hf
  have HB : Hid (Below w.heap.size w w2) := hb2
  clear C1 hcl ho1 ho2 hb2
  go_wp2_with fail
  refine C2.out.mono ?_
  rintro e w3 ⟨rfl, hb3⟩
  have HB3 : Hid (Below w.heap.size w w3) := HB.out.trans (hb3.mono HB.out.size)
  clear C2 hb3
  go_wp2_with fail
  go_ret2
  exact ⟨rfl, HB3.out⟩

set_option maxHeartbeats 4000000 in
theorem Take_ok (gb nx c : Nat) (q : Option Addr) (H : List Hd) (Y : List Tkr) (w : World) (hG : Gp w gb nx Y) (hR : RdH w w.heap.size q H) (hl : H.length ≤ 256) (hf : Y.length < 256) (hnx : nx < 9000000000000000000) :
    Calls Tryz.prog 16 #[ptr1 gb, .slice q H.length c] w fun e w' => ∃ tb ch, e = .returned (.tuple #[.int .u64 (nx : Nat), .int .i64 0]) ∧ Gp w' gb (nx + 1) (Y ++ [⟨tb, ch, newT H nx (Y.map Tkr.x)⟩]) ∧ Frm w w' (fun k => k = gb) ∧ w.heap.size ≤ tb ∧ w.heap.size ≤ ch := by
  have C1 : Hid (Calls _ _ _ _ _) := claimOf_any H q c w hR hl
  have HG : Hid (Gp w gb nx Y) := hG
  have g1 : (H.length : Int) ≤ 256 := by omega
  clear hG hR
  generalize H.length = n at *
  go_enter Tryz.func16, Tryz.ntmps16
  go_wp2_with fail
  refine C1.out.mono ?_
  rintro e w2 ⟨va, vo, cl, rfl, hcl, ho1, ho2, hb2⟩
  obtain ⟨p1, c1, rfl, -⟩ := ho1.len
  obtain ⟨p2, c2, rfl, -⟩ := ho2.len
  have C2 : Hid (Calls _ _ _ _ _) := gtake_ok gb nx c1 c2 cl.all.length cl.alo.length p1 p2 cl H Y w2 (HG.out.on hb2) hf hcl (ho1.mono (Nat.zero_le _)) (ho2.mono (Nat.zero_le _)) hnx
  have HB : Hid (Below w.heap.size w w2) := hb2
  clear C1 hcl ho1 ho2 hb2
  go_wp2_with fail
  refine C2.out.mono ?_
  rintro e w3 ⟨tb, ch, rfl, h1, h2, h3, h4⟩
  have HZ : Hid (Gp w3 gb (nx + 1) (Y ++ [⟨tb, ch, newT H nx (Y.map Tkr.x)⟩]) ∧ Frm w w3 (fun k => k = gb) ∧ w.heap.size ≤ tb ∧ w.heap.size ≤ ch) := ⟨h1, (Frm.of_below (F := fun k => k = gb) HB.out).trans h2 (fun k hk => .inl hk), Nat.le_trans HB.out.size h3, Nat.le_trans HB.out.size h4⟩
  clear C2 h1 h2 h3 h4
  go_wp2_with fail
  go_ret2
  exact ⟨tb, ch, rfl, HZ.out⟩
end Go.Proofs.YtcdamalpecedcaaGreat
