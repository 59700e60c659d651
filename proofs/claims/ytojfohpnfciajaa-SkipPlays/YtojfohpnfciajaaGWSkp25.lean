/- Layer 12: Put, Delete. Layer 12: entries, as they are told. -/
import Derived.Test.YtojfohpnfciajaaGWSkp23
namespace Go.Proofs.Ytojfohpnfciajaa
open Go.RowKit
set_option maxRecDepth 100000

theorem tooLong_any (k : ByteArray) (w : World) : Calls Try.prog 43 #[.string k] w fun e w' => e = .returned (.bool (decide (1025 < (k.size : Int)))) ∧ w' = w := by
  go_enter Try.func43, Try.ntmps43
  go_wp2_with fail
  go_ret
  exact ⟨rfl, rfl⟩
theorem puttingF (k : ByteArray) (v : Int) (h : Nat) (w : World) : Calls Try.prog 45 #[.string k, .int .i64 v, .int .i64 (h : Nat)] w fun e w' => e = .returned (.func (.func 80) #[] #[ptr1 w.heap.size, ptr1 (w.heap.size + 1), ptr1 (w.heap.size + 1 + 1)]) ∧ w' = (((w.alloc (.cells #[.string k] 9)).alloc (.cells #[.int .i64 v] 2)).alloc (.cells #[.int .i64 (h : Nat)] 3)) := by
  go_enter Try.func45, Try.ntmps45
  go_wp2_with fail
  go_ret
  exact ⟨rfl, rfl⟩

theorem deletingF (k : ByteArray) (w : World) : Calls Try.prog 46 #[.string k] w fun e w' => e = .returned (.func (.func 85) #[] #[ptr1 w.heap.size]) ∧ w' = (w.alloc (.cells #[.string k] 9)) := by
  go_enter Try.func46, Try.ntmps46
  go_wp2_with fail
  go_ret
  exact ⟨rfl, rfl⟩

theorem three_new (k : ByteArray) (v : Int) (h : Nat) (w : World) : Blk (((w.alloc (.cells #[.string k] 9)).alloc (.cells #[.int .i64 v] 2)).alloc (.cells #[.int .i64 (h : Nat)] 3)) w.heap.size #[.string k] 9 ∧ Blk (((w.alloc (.cells #[.string k] 9)).alloc (.cells #[.int .i64 v] 2)).alloc (.cells #[.int .i64 (h : Nat)] 3)) (w.heap.size + 1) #[.int .i64 v] 2 ∧ Blk (((w.alloc (.cells #[.string k] 9)).alloc (.cells #[.int .i64 v] 2)).alloc (.cells #[.int .i64 (h : Nat)] 3)) (w.heap.size + 1 + 1) #[.int .i64 (h : Nat)] 3 ∧ Below w.heap.size w (((w.alloc (.cells #[.string k] 9)).alloc (.cells #[.int .i64 v] 2)).alloc (.cells #[.int .i64 (h : Nat)] 3)) := by
  obtain ⟨aX, aB, aS⟩ := blk_new w #[.string k] 9
  obtain ⟨bX, bB, bS⟩ := blk_new (w.alloc (.cells #[.string k] 9)) #[.int .i64 v] 2
  obtain ⟨cX, cB, cS⟩ := blk_new ((w.alloc (.cells #[.string k] 9)).alloc (.cells #[.int .i64 v] 2)) #[.int .i64 (h : Nat)] 3
  have h2 := aB.trans (bB.mono aB.size)
  rw [aS] at bX
  rw [bS, aS] at cX
  exact ⟨(aX.on bB).on cB, bX.on cB, cX, h2.trans (cB.mono h2.size)⟩

theorem put_long (lb hb sb hl cb : Nat) (N : List Nd) (k : ByteArray) (v h : Int) (w : World) (hq : Skp w lb hb sb hl cb N) (hk : 1025 < k.size) :
    Calls Try.prog 18 #[ptr1 lb, .string k, .int .i64 v, .int .i64 h] w fun e w' => e = .returned (.tuple #[.int .i64 0, .bool false, .int .i64 3]) ∧ w' = w := by
  have CG : Hid (Calls _ _ _ _ _) := given_ok lb hb sb w hq.l
  have CL : Hid (Calls _ _ _ _ _) := tooLong_any k w
  rw [show decide (1025 < (k.size : Int)) = true from decide_eq_true (by omega)] at CL
  clear hq hk
  go_enter Try.func18, Try.ntmps18
  go_wp2_with fail
  refine CG.out.mono ?_
  rintro e w9 ⟨rfl, hw9⟩
  rw [hw9]
  clear hw9 CG
  go_wp2_with fail
  refine CL.out.mono ?_
  rintro e w9 ⟨rfl, hw9⟩
  rw [hw9]
  clear hw9 CL
  go_wp2_with fail
  go_ret3
  exact ⟨rfl, rfl⟩
theorem put_height (lb hb sb hl cb : Nat) (N : List Nd) (k : ByteArray) (v h : Int) (w : World) (hq : Skp w lb hb sb hl cb N) (hk : k.size ≤ 1025) (hh : h < 1 ∨ 16 < h) :
    Calls Try.prog 18 #[ptr1 lb, .string k, .int .i64 v, .int .i64 h] w fun e w' => e = .returned (.tuple #[.int .i64 0, .bool false, .int .i64 120]) ∧ w' = w := by
  have CG : Hid (Calls _ _ _ _ _) := given_ok lb hb sb w hq.l
  have CL : Hid (Calls _ _ _ _ _) := tooLong_any k w
  rw [show decide (1025 < (k.size : Int)) = false from decide_eq_false (by omega)] at CL
  clear hq hk
  rcases Int.lt_or_le h 1 with h1 | h1
  · clear hh
    go_enter Try.func18, Try.ntmps18
    go_wp2_with fail
    refine CG.out.mono ?_
    rintro e w9 ⟨rfl, hw9⟩
    rw [hw9]
    clear hw9 CG
    go_wp2_with fail
    refine CL.out.mono ?_
    rintro e w9 ⟨rfl, hw9⟩
    rw [hw9]
    clear hw9 CL
    go_wp2_with fail
    go_ret3
    exact ⟨rfl, rfl⟩
  · have h2 : 16 < h := by omega
    have h3 : ¬ h < 1 := by omega
    clear hh h1
    go_enter Try.func18, Try.ntmps18
    go_wp2_with fail
    refine CG.out.mono ?_
    rintro e w9 ⟨rfl, hw9⟩
    rw [hw9]
    clear hw9 CG
    go_wp2_with fail
    refine CL.out.mono ?_
    rintro e w9 ⟨rfl, hw9⟩
    rw [hw9]
    clear hw9 CL
    go_wp2_with fail
    go_ret3
    exact ⟨rfl, rfl⟩

set_option maxHeartbeats 2000000 in
theorem put_ok (lb hb sb hl cb h : Nat) (N : List Nd) (k : ByteArray) (v : Int) (w : World) (hq : Skp w lb hb sb hl cb N) (hk : k.size ≤ 1025) (hh : 1 ≤ h ∧ h ≤ 16) (hN : N.length < 9000000000000000000) :
    Calls Try.prog 18 #[ptr1 lb, .string k, .int .i64 v, .int .i64 (h : Nat)] w fun e w' => ∃ sb' cb' N', e = .returned (.tuple #[.int .i64 (wasV (ensN N) k), .bool (getE (ensN N) k).isSome, .int .i64 0]) ∧ DoR w w' lb hb sb hl sb' cb' N N' ∧ ensN N' = putE (ensN N) k v h := by
  have CG : Hid (Calls _ _ _ _ _) := given_ok lb hb sb w hq.l
  have CL : Hid (Calls _ _ _ _ _) := tooLong_any k w
  rw [show decide (1025 < (k.size : Int)) = false from decide_eq_false (by omega)] at CL
  have CP : Hid (Calls _ _ _ _ _) := puttingF k v h w
  obtain ⟨k1, k2, k3, kB⟩ := three_new k v h w
  have CD : Hid (Calls _ _ _ _ _) := do_put lb hb sb hl cb w.heap.size (w.heap.size + 1) (w.heap.size + 1 + 1) h v N k (((w.alloc (.cells #[.string k] 9)).alloc (.cells #[.int .i64 v] 2)).alloc (.cells #[.int .i64 (h : Nat)] 3)) (hq.on kB) hN k1 k2 k3 hh
  have HB : Hid (Below w.heap.size w (((w.alloc (.cells #[.string k] 9)).alloc (.cells #[.int .i64 v] 2)).alloc (.cells #[.int .i64 (h : Nat)] 3))) := kB
  have h1 : ¬ (h : Int) < 1 := by omega
  have h2 : (h : Int) ≤ 16 := by omega
  clear hq hk hh k1 k2 k3 kB hN
  go_enter Try.func18, Try.ntmps18
  go_wp2_with fail
  refine CG.out.mono ?_
  rintro e w9 ⟨rfl, hw9⟩
  rw [hw9]
  clear hw9 CG
  go_wp2_with fail
  refine CL.out.mono ?_
  rintro e w9 ⟨rfl, hw9⟩
  rw [hw9]
  clear hw9 CL
  go_wp2_with fail
  refine CP.out.mono ?_
  rintro e w9 ⟨rfl, hw9⟩
  rw [hw9]
  clear hw9 CP
  go_wp2_with fail
  generalize (((w.alloc (.cells #[.string k] 9)).alloc (.cells #[.int .i64 v] 2)).alloc (.cells #[.int .i64 (h : Nat)] 3)) = w3 at *
  refine CD.out.mono ?_
  rintro e w4 ⟨a, sb', cb', N', rfl, hD, hE⟩
  have HE : Hid (_ = _) := hE
  obtain ⟨bb, hbb⟩ : ∃ bb, (getE (ensN N) k).isSome = bb := ⟨_, rfl⟩
  obtain ⟨ww, hww⟩ : ∃ ww, wasV (ensN N) k = ww := ⟨_, rfl⟩
  have HBB : Hid ((getE (ensN N) k).isSome = bb ∧ wasV (ensN N) k = ww) := ⟨hbb, hww⟩
  rw [hbb, hww]
  obtain ⟨aX, aB, aS⟩ := blk_new w4 #[.int .u64 (a : Nat), .bool bb, .int .i64 ww] 113
  have q1 := Blk.cell (i := 1) aX rfl
  have q2 := Blk.cell (i := 2) aX rfl
  have HAB : Hid (Below w4.heap.size w4 (w4.alloc (.cells #[.int .u64 (a : Nat), .bool bb, .int .i64 ww] 113))) := aB
  have HK : Hid (∀ w7, Below w4.heap.size w4 w7 → DoR w w7 lb hb sb hl sb' cb' N N') := by
    intro w7 hd
    refine ⟨hD.q.on hd, Nat.le_trans HB.out.size hD.ns, ((Frm.of_below (F := ownL lb sb hl N) HB.out).trans hD.fr (fun k hk => .inl hk)).trans (Frm.of_below (F := none1) hd) (fun k hk => hk.elim), fun x hx => ?_⟩
    rcases hD.gr x hx with h9 | ⟨h9, h8⟩
    · exact .inl h9
    · exact .inr ⟨Nat.le_trans HB.out.size h9, Nat.le_trans HB.out.size h8⟩
  clear hD hE hbb hww aX aB aS CD HB
  go_wp2_with fail
  go_quiet (fail)
  go_wp2_with fail
  go_ret3
  exact ⟨sb', cb', N', by rw [HBB.out.1, HBB.out.2]; rfl, HK.out _ (below_drewN HAB.out _), HE.out⟩

set_option maxHeartbeats 2000000 in
theorem del_ok (lb hb sb hl cb : Nat) (N : List Nd) (k : ByteArray) (w : World) (hq : Skp w lb hb sb hl cb N) (hN : N.length < 9000000000000000000) :
    Calls Try.prog 19 #[ptr1 lb, .string k] w fun e w' => ∃ sb' cb' N', e = .returned (.tuple #[.int .i64 (wasV (ensN N) k), .bool (getE (ensN N) k).isSome]) ∧ DoR w w' lb hb sb hl sb' cb' N N' ∧ ensN N' = delE (ensN N) k := by
  have CG : Hid (Calls _ _ _ _ _) := given_ok lb hb sb w hq.l
  have CP : Hid (Calls _ _ _ _ _) := deletingF k w
  obtain ⟨k1, kB, kS⟩ := blk_new w #[.string k] 9
  have CD : Hid (Calls _ _ _ _ _) := do_del lb hb sb hl cb w.heap.size N k (w.alloc (.cells #[.string k] 9)) (hq.on kB) hN k1
  have HB : Hid (Below w.heap.size w (w.alloc (.cells #[.string k] 9))) := kB
  clear hq k1 kB kS hN
  go_enter Try.func19, Try.ntmps19
  go_wp2_with fail
  refine CG.out.mono ?_
  rintro e w9 ⟨rfl, hw9⟩
  rw [hw9]
  clear hw9 CG
  go_wp2_with fail
  refine CP.out.mono ?_
  rintro e w9 ⟨rfl, hw9⟩
  rw [hw9]
  clear hw9 CP
  go_wp2_with fail
  generalize (w.alloc (.cells #[.string k] 9)) = w3 at *
  refine CD.out.mono ?_
  rintro e w4 ⟨a, sb', cb', N', rfl, hD, hE⟩
  have HE : Hid (_ = _) := hE
  obtain ⟨bb, hbb⟩ : ∃ bb, (getE (ensN N) k).isSome = bb := ⟨_, rfl⟩
  obtain ⟨ww, hww⟩ : ∃ ww, wasV (ensN N) k = ww := ⟨_, rfl⟩
  have HBB : Hid ((getE (ensN N) k).isSome = bb ∧ wasV (ensN N) k = ww) := ⟨hbb, hww⟩
  rw [hbb, hww]
  obtain ⟨aX, aB, aS⟩ := blk_new w4 #[.int .u64 (a : Nat), .bool bb, .int .i64 ww] 113
  have q1 := Blk.cell (i := 1) aX rfl
  have q2 := Blk.cell (i := 2) aX rfl
  have HAB : Hid (Below w4.heap.size w4 (w4.alloc (.cells #[.int .u64 (a : Nat), .bool bb, .int .i64 ww] 113))) := aB
  have HK : Hid (∀ w7, Below w4.heap.size w4 w7 → DoR w w7 lb hb sb hl sb' cb' N N') := by
    intro w7 hd
    refine ⟨hD.q.on hd, Nat.le_trans HB.out.size hD.ns, ((Frm.of_below (F := ownL lb sb hl N) HB.out).trans hD.fr (fun k hk => .inl hk)).trans (Frm.of_below (F := none1) hd) (fun k hk => hk.elim), fun x hx => ?_⟩
    rcases hD.gr x hx with h9 | ⟨h9, h8⟩
    · exact .inl h9
    · exact .inr ⟨Nat.le_trans HB.out.size h9, Nat.le_trans HB.out.size h8⟩
  clear hD hE hbb hww aX aB aS CD HB
  go_wp2_with fail
  go_quiet (fail)
  go_wp2_with fail
  go_ret2
  exact ⟨sb', cb', N', by rw [HBB.out.1, HBB.out.2]; rfl, HK.out _ (below_drewN HAB.out _), HE.out⟩

end Go.Proofs.Ytojfohpnfciajaa

namespace Go.Proofs.Ytojfohpnfciajaa
open Go.RowKit
set_option maxRecDepth 100000

/-- a node's cells and its value -/
structure NdM (w : World) (nb vb lb : Nat) (k : ByteArray) (v : Int) (h : Nat) : Prop where
  n : Blk w nb #[.string k, ptr1 vb, .slice (some ⟨lb, 0, none⟩) h h] 125
  v : Blk w vb #[.int .i64 v] 2
theorem NdM.on {w w' : World} {nb vb lb : Nat} {k : ByteArray} {v : Int} {h : Nat} (q : NdM w nb vb lb k v h) (hb : Below w.heap.size w w') : NdM w' nb vb lb k v h := ⟨q.n.on hb, q.v.on hb⟩
theorem SkF.ndm {w : World} {hb hl : Nat} {N : List Nd} {f : Nat → Nat → Option Nat} (h : SkF w hb hl N f) {i : Nat} (hi : i < N.length) : NdM w N[i].nb N[i].vb N[i].lb N[i].e.k N[i].e.v N[i].e.h := ⟨h.nd _ (List.getElem_mem hi), h.val _ (List.getElem_mem hi)⟩

set_option maxHeartbeats 2000000 in
theorem entry_any (nb vb lb h : Nat) (k : ByteArray) (v : Int) (w : World) (q : NdM w nb vb lb k v h) :
    Calls Try.prog 77 #[ptr1 nb] w fun e w' => e = .returned (.agg #[.string k, .int .i64 v, .int .i64 (h : Nat)]) ∧ Below w.heap.size w w' := by
  obtain ⟨aX, aB, aS⟩ := blk_new w #[.string ⟨#[]⟩, .int .i64 0, .int .i64 0] 48
  have hdr : Below (w.alloc (.cells #[.string ⟨#[]⟩, .int .i64 0, .int .i64 0] 48)).heap.size (w.alloc (.cells #[.string ⟨#[]⟩, .int .i64 0, .int .i64 0] 48)) (w.alloc (.cells #[.string ⟨#[]⟩, .int .i64 0, .int .i64 0] 48)).drew := (Below.refl _ _).drew
  have hbd := aB.trans (hdr.mono aB.size)
  have q1 := q.on hbd
  have HA : Hid ((w.alloc (.cells #[.string ⟨#[]⟩, .int .i64 0, .int .i64 0] 48)).drew.cell? ⟨nb, 0, none⟩ = some (.string k) ∧ (w.alloc (.cells #[.string ⟨#[]⟩, .int .i64 0, .int .i64 0] 48)).drew.cell? ⟨nb, 2, none⟩ = some (.slice (some ⟨lb, 0, none⟩) h h) ∧ (w.alloc (.cells #[.string ⟨#[]⟩, .int .i64 0, .int .i64 0] 48)).drew.cell? ⟨vb, 0, none⟩ = some (.int .i64 v)) := ⟨Blk.cell (i := 0) q1.n rfl, Blk.cell (i := 2) q1.n rfl, Blk.cell (i := 0) q1.v rfl⟩
  have HCV : Hid (Calls Try.prog 84 #[.pointer (some ⟨nb, 1, none⟩)] (w.alloc (.cells #[.string ⟨#[]⟩, .int .i64 0, .int .i64 0] 48)).drew fun e w' => e = .returned (ptr1 vb) ∧ w' = (w.alloc (.cells #[.string ⟨#[]⟩, .int .i64 0, .int .i64 0] 48)).drew) := loadIv nb 1 (some ⟨vb, 0, none⟩) _ (Blk.cell (i := 1) q1.n rfl) (PtT.blk q1.v rfl)
  have HR : Hid (Blk (w.alloc (.cells #[.string ⟨#[]⟩, .int .i64 0, .int .i64 0] 48)).drew w.heap.size #[.string ⟨#[]⟩, .int .i64 0, .int .i64 0] 48) := aX.on hdr
  have HB : Hid (Below w.heap.size w (w.alloc (.cells #[.string ⟨#[]⟩, .int .i64 0, .int .i64 0] 48)).drew) := hbd
  clear q q1 aX aB aS hdr hbd
  go_enter Try.func77, Try.ntmps77
  go_upto_region 1 with fail
  refine wp_region_any (by kernel_rfl) ?_
  change wpAny _ _ _ _ _ _ _ (World.drew _)
  generalize (w.alloc (.cells #[.string ⟨#[]⟩, .int .i64 0, .int .i64 0] 48)).drew = wd at *
  refine tk (v := ?_) 0 rfl ?_ ?_
  rotate_left
  focus
    intro w9
    go_simp
    try with_reducible rfl
  try simp only [aP]
  refine tk (v := ?_) 1 rfl ?_ ?_
  rotate_left
  focus
    intro w9
    go_simp
    try with_reducible rfl
  try simp only [aP]
  refine tk (v := ?_) 2 rfl ?_ ?_
  rotate_left
  focus
    intro w9
    go_simp
    try with_reducible rfl
  try simp only [aP]
  refine tk (v := ?_) 4 rfl ?_ ?_
  rotate_left
  focus
    intro w9
    go_simp
    try with_reducible rfl
  try simp only [aP]
  refine tk (v := ?_) 5 rfl ?_ ?_
  rotate_left
  focus
    intro w9
    go_simp
    try with_reducible rfl
  try simp only [aP]
  refine tk (v := ?_) 6 rfl ?_ ?_
  rotate_left
  focus
    intro w9
    go_simp
    try with_reducible rfl
  try simp only [aP]
  refine tk (v := ?_) 10 rfl ?_ ?_
  rotate_left
  focus
    intro w9
    go_simp
    try with_reducible rfl
  try simp only [aP]
  refine tk (v := ?_) 11 rfl ?_ ?_
  rotate_left
  focus
    intro w9
    go_simp
    try with_reducible rfl
  try simp only [aP]
  refine tk (v := ?_) 12 rfl ?_ ?_
  rotate_left
  focus
    intro w9
    go_simp
    try with_reducible rfl
  try simp only [aP]
  apply later0
  intro hs3_7_9_13
  apply later0
  intro hs7_9_13
  apply later0
  intro hs3_7_13
  apply later0
  intro hs3_7_9
  apply later0
  intro hs7_13
  apply later0
  intro hs7_9
  apply later0
  intro hs3_13
  apply later0
  intro hs3_7
  apply later0
  intro hs13
  apply later0
  intro hs7
  apply later0
  intro hs3
  · obtain ⟨n0, n2, v0⟩ := HA.out
    have CV := HCV.out
    refine wpAny_ready (rs := [3, 7, 13]) (by kernel_rfl) (by simp) ?_
    refine anyN_cons 3 rfl (by rfl) (fun K hK => ?_) (anyN_cons 7 rfl (by rfl) (fun K hK => ?_) (anyN_cons 13 rfl (by rfl) (fun K hK => ?_) AllReady.nil))
    · go_simp
      refine hK.out _ _ ?_
      clear hK K
      try simp only [aP]
      exact hs3
    · go_simp
      refine CV.mono ?_
      rintro e w9 ⟨rfl, hw9⟩
      dsimp only
      rw [hw9]
      clear hw9
      refine hK.out _ _ ?_
      clear hK K
      try simp only [aP]
      refine tk (v := ?_) 8 rfl ?_ ?_
      rotate_left
      focus
        intro w9
        go_simp
        try with_reducible rfl
      try simp only [aP]
      exact hs7
    · go_simp
      refine hK.out _ _ ?_
      clear hK K
      try simp only [aP]
      refine tk (v := ?_) 14 rfl ?_ ?_
      rotate_left
      focus
        intro w9
        go_simp
        try with_reducible rfl
      try simp only [aP]
      exact hs13
  · obtain ⟨n0, n2, v0⟩ := HA.out
    have CV := HCV.out
    refine wpAny_ready (rs := [7, 13]) (by kernel_rfl) (by simp) ?_
    refine anyN_cons 7 rfl (by rfl) (fun K hK => ?_) (anyN_cons 13 rfl (by rfl) (fun K hK => ?_) AllReady.nil)
    · go_simp
      refine CV.mono ?_
      rintro e w9 ⟨rfl, hw9⟩
      dsimp only
      rw [hw9]
      clear hw9
      refine hK.out _ _ ?_
      clear hK K
      try simp only [aP]
      refine tk (v := ?_) 8 rfl ?_ ?_
      rotate_left
      focus
        intro w9
        go_simp
        try with_reducible rfl
      try simp only [aP]
      exact hs3_7
    · go_simp
      refine hK.out _ _ ?_
      clear hK K
      try simp only [aP]
      refine tk (v := ?_) 14 rfl ?_ ?_
      rotate_left
      focus
        intro w9
        go_simp
        try with_reducible rfl
      try simp only [aP]
      exact hs3_13
  · obtain ⟨n0, n2, v0⟩ := HA.out
    have CV := HCV.out
    refine wpAny_ready (rs := [3, 9, 13]) (by kernel_rfl) (by simp) ?_
    refine anyN_cons 3 rfl (by rfl) (fun K hK => ?_) (anyN_cons 9 rfl (by rfl) (fun K hK => ?_) (anyN_cons 13 rfl (by rfl) (fun K hK => ?_) AllReady.nil))
    · go_simp
      refine hK.out _ _ ?_
      clear hK K
      try simp only [aP]
      exact hs3_7
    · go_simp
      refine hK.out _ _ ?_
      clear hK K
      try simp only [aP]
      exact hs7_9
    · go_simp
      refine hK.out _ _ ?_
      clear hK K
      try simp only [aP]
      refine tk (v := ?_) 14 rfl ?_ ?_
      rotate_left
      focus
        intro w9
        go_simp
        try with_reducible rfl
      try simp only [aP]
      exact hs7_13
  · obtain ⟨n0, n2, v0⟩ := HA.out
    have CV := HCV.out
    refine wpAny_ready (rs := [3, 7]) (by kernel_rfl) (by simp) ?_
    refine anyN_cons 3 rfl (by rfl) (fun K hK => ?_) (anyN_cons 7 rfl (by rfl) (fun K hK => ?_) AllReady.nil)
    · go_simp
      refine hK.out _ _ ?_
      clear hK K
      try simp only [aP]
      exact hs3_13
    · go_simp
      refine CV.mono ?_
      rintro e w9 ⟨rfl, hw9⟩
      dsimp only
      rw [hw9]
      clear hw9
      refine hK.out _ _ ?_
      clear hK K
      try simp only [aP]
      refine tk (v := ?_) 8 rfl ?_ ?_
      rotate_left
      focus
        intro w9
        go_simp
        try with_reducible rfl
      try simp only [aP]
      exact hs7_13
  · obtain ⟨n0, n2, v0⟩ := HA.out
    have CV := HCV.out
    refine wpAny_ready (rs := [9, 13]) (by kernel_rfl) (by simp) ?_
    refine anyN_cons 9 rfl (by rfl) (fun K hK => ?_) (anyN_cons 13 rfl (by rfl) (fun K hK => ?_) AllReady.nil)
    · go_simp
      refine hK.out _ _ ?_
      clear hK K
      try simp only [aP]
      exact hs3_7_9
    · go_simp
      refine hK.out _ _ ?_
      clear hK K
      try simp only [aP]
      refine tk (v := ?_) 14 rfl ?_ ?_
      rotate_left
      focus
        intro w9
        go_simp
        try with_reducible rfl
      try simp only [aP]
      exact hs3_7_13
  · obtain ⟨n0, n2, v0⟩ := HA.out
    have CV := HCV.out
    refine wpAny_ready (rs := [7]) (by kernel_rfl) (by simp) ?_
    refine anyN_cons 7 rfl (by rfl) (fun K hK => ?_) AllReady.nil
    go_simp
    refine CV.mono ?_
    rintro e w9 ⟨rfl, hw9⟩
    dsimp only
    rw [hw9]
    clear hw9
    refine hK.out _ _ ?_
    clear hK K
    try simp only [aP]
    refine tk (v := ?_) 8 rfl ?_ ?_
    rotate_left
    focus
      intro w9
      go_simp
      try with_reducible rfl
    try simp only [aP]
    exact hs3_7_13
  · obtain ⟨n0, n2, v0⟩ := HA.out
    have CV := HCV.out
    refine wpAny_ready (rs := [3, 13]) (by kernel_rfl) (by simp) ?_
    refine anyN_cons 3 rfl (by rfl) (fun K hK => ?_) (anyN_cons 13 rfl (by rfl) (fun K hK => ?_) AllReady.nil)
    · go_simp
      refine hK.out _ _ ?_
      clear hK K
      try simp only [aP]
      exact hs3_7_9
    · go_simp
      refine hK.out _ _ ?_
      clear hK K
      try simp only [aP]
      refine tk (v := ?_) 14 rfl ?_ ?_
      rotate_left
      focus
        intro w9
        go_simp
        try with_reducible rfl
      try simp only [aP]
      exact hs7_9_13
  · obtain ⟨n0, n2, v0⟩ := HA.out
    have CV := HCV.out
    refine wpAny_ready (rs := [3, 9]) (by kernel_rfl) (by simp) ?_
    refine anyN_cons 3 rfl (by rfl) (fun K hK => ?_) (anyN_cons 9 rfl (by rfl) (fun K hK => ?_) AllReady.nil)
    · go_simp
      refine hK.out _ _ ?_
      clear hK K
      try simp only [aP]
      exact hs3_7_13
    · go_simp
      refine hK.out _ _ ?_
      clear hK K
      try simp only [aP]
      exact hs7_9_13
  · obtain ⟨n0, n2, v0⟩ := HA.out
    have CV := HCV.out
    refine wpAny_ready (rs := [13]) (by kernel_rfl) (by simp) ?_
    refine anyN_cons 13 rfl (by rfl) (fun K hK => ?_) AllReady.nil
    go_simp
    refine hK.out _ _ ?_
    clear hK K
    try simp only [aP]
    refine tk (v := ?_) 14 rfl ?_ ?_
    rotate_left
    focus
      intro w9
      go_simp
      try with_reducible rfl
    try simp only [aP]
    exact hs3_7_9_13
  · obtain ⟨n0, n2, v0⟩ := HA.out
    have CV := HCV.out
    refine wpAny_ready (rs := [9]) (by kernel_rfl) (by simp) ?_
    refine anyN_cons 9 rfl (by rfl) (fun K hK => ?_) AllReady.nil
    go_simp
    refine hK.out _ _ ?_
    clear hK K
    try simp only [aP]
    exact hs3_7_9_13
  · obtain ⟨n0, n2, v0⟩ := HA.out
    have CV := HCV.out
    refine wpAny_ready (rs := [3]) (by kernel_rfl) (by simp) ?_
    refine anyN_cons 3 rfl (by rfl) (fun K hK => ?_) AllReady.nil
    go_simp
    refine hK.out _ _ ?_
    clear hK K
    try simp only [aP]
    exact hs3_7_9_13
  · obtain ⟨n0, n2, v0⟩ := HA.out
    have CV := HCV.out
    refine tk (v := ?_) 15 rfl ?_ ?_
    rotate_left
    focus
      intro w9
      go_simp
      try with_reducible rfl
    try simp only [aP]
    have hr9 := HR.out
    have x0 := Blk.cell (i := 0) hr9 rfl
    have x1 := Blk.cell (i := 1) hr9 rfl
    have x2 := Blk.cell (i := 2) hr9 rfl
    have f0 := hr9.frozen 0
    have f1 := hr9.frozen 1
    have f2 := hr9.frozen 2
    have hr10 := ((hr9.set 0 (.string k)).set 1 (.int .i64 v)).set 2 (.int .i64 (h : Nat))
    have q0 := Blk.cell (i := 0) hr10 rfl
    have q1 := Blk.cell (i := 1) hr10 rfl
    have q2 := Blk.cell (i := 2) hr10 rfl
    have HK : Hid (Below w.heap.size w (((wd.setCell ⟨w.heap.size, 0, none⟩ (.string k)).setCell ⟨w.heap.size, 1, none⟩ (.int .i64 v)).setCell ⟨w.heap.size, 2, none⟩ (.int .i64 (h : Nat)))) := below_set (below_set (below_set HB.out (Nat.le_refl _) 0 _) (Nat.le_refl _) 1 _) (Nat.le_refl _) 2 _
    clear hr9 hr10
    refine wpAny_ready (rs := [16]) (by kernel_rfl) (by simp) ?_
    refine anyN_cons 16 rfl (by rfl) (fun K hK => ?_) AllReady.nil
    go_simp
    refine hK.out _ _ ?_
    clear hK K
    try simp only [aP]
    refine wpAny_done (by kernel_rfl) ?_ _
    go_wp2_with fail
    refine bodyPost_ret (v := .agg #[.string k, .int .i64 v, .int .i64 (h : Nat)]) (by simp [results, Try.results77, go_sem, q0, q1, q2]) rfl ?_
    exact ⟨rfl, HK.out⟩
theorem entryOf_nil (w : World) :
    Calls Try.prog 41 #[.pointer none] w fun e w' => e = .returned (.agg #[.string ⟨#[]⟩, .int .i64 0, .int .i64 0, .bool false]) ∧ Below w.heap.size w w' := by
  obtain ⟨aX, aB, aS⟩ := blk_new w #[.string ⟨#[]⟩, .int .i64 0, .int .i64 0, .bool false] 106
  have q0 := Blk.cell (i := 0) aX rfl
  have q1 := Blk.cell (i := 1) aX rfl
  have q2 := Blk.cell (i := 2) aX rfl
  have q3 := Blk.cell (i := 3) aX rfl
  have HB : Hid (Below w.heap.size w (w.alloc (.cells #[.string ⟨#[]⟩, .int .i64 0, .int .i64 0, .bool false] 106))) := aB
  clear aX aB aS
  go_enter Try.func41, Try.ntmps41
  go_wp2_with fail
  refine bodyPost_ret (v := .agg #[.string ⟨#[]⟩, .int .i64 0, .int .i64 0, .bool false]) (by simp [results, Try.results41, go_sem, q0, q1, q2, q3]) rfl ?_
  exact ⟨rfl, HB.out⟩

set_option maxHeartbeats 2000000 in
theorem entryOf_at (nb vb lb h : Nat) (k : ByteArray) (v : Int) (w : World) (q : NdM w nb vb lb k v h) :
    Calls Try.prog 41 #[ptr1 nb] w fun e w' => e = .returned (.agg #[.string k, .int .i64 v, .int .i64 (h : Nat), .bool true]) ∧ Below w.heap.size w w' := by
  obtain ⟨aX, aB, aS⟩ := blk_new w #[.string ⟨#[]⟩, .int .i64 0, .int .i64 0, .bool false] 106
  have C1 : Hid (Calls _ _ _ _ _) := entry_any nb vb lb h k v (w.alloc (.cells #[.string ⟨#[]⟩, .int .i64 0, .int .i64 0, .bool false] 106)) (q.on aB)
  have HX : Hid (Blk (w.alloc (.cells #[.string ⟨#[]⟩, .int .i64 0, .int .i64 0, .bool false] 106)) w.heap.size #[.string ⟨#[]⟩, .int .i64 0, .int .i64 0, .bool false] 106) := aX
  have HB : Hid (Below w.heap.size w (w.alloc (.cells #[.string ⟨#[]⟩, .int .i64 0, .int .i64 0, .bool false] 106))) := aB
  clear aX aB aS q
  go_enter Try.func41, Try.ntmps41
  go_wp2_with fail
  generalize (w.alloc (.cells #[.string ⟨#[]⟩, .int .i64 0, .int .i64 0, .bool false] 106)) = w0 at *
  refine C1.out.mono ?_
  rintro e w1 ⟨rfl, hb1⟩
  have hx := HX.out.on hb1
  have x0 := Blk.cell (i := 0) hx rfl
  have x1 := Blk.cell (i := 1) hx rfl
  have x2 := Blk.cell (i := 2) hx rfl
  have x3 := Blk.cell (i := 3) hx rfl
  have f0 := hx.frozen 0
  have f1 := hx.frozen 1
  have f2 := hx.frozen 2
  have f3 := hx.frozen 3
  have hr10 := (((hx.set 0 (.string k)).set 1 (.int .i64 v)).set 2 (.int .i64 (h : Nat))).set 3 (.bool true)
  have q0 := Blk.cell (i := 0) hr10 rfl
  have q1 := Blk.cell (i := 1) hr10 rfl
  have q2 := Blk.cell (i := 2) hr10 rfl
  have q3 := Blk.cell (i := 3) hr10 rfl
  have hbw := HB.out.trans (hb1.mono HB.out.size)
  have HK : Hid (Below w.heap.size w ((((w1.setCell ⟨w.heap.size, 0, none⟩ (.string k)).setCell ⟨w.heap.size, 1, none⟩ (.int .i64 v)).setCell ⟨w.heap.size, 2, none⟩ (.int .i64 (h : Nat))).setCell ⟨w.heap.size, 3, none⟩ (.bool true))) := below_set (below_set (below_set (below_set hbw (Nat.le_refl _) 0 _) (Nat.le_refl _) 1 _) (Nat.le_refl _) 2 _) (Nat.le_refl _) 3 _
  clear hx hr10 hbw hb1 C1 HX HB
  go_wp2_with fail
  refine bodyPost_ret (v := .agg #[.string k, .int .i64 v, .int .i64 (h : Nat), .bool true]) (by simp [results, Try.results41, go_sem, q0, q1, q2, q3]) rfl ?_
  exact ⟨rfl, HK.out⟩

end Go.Proofs.Ytojfohpnfciajaa
