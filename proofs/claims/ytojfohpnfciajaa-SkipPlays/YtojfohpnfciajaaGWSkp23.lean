/- Layer 12: take. Layer 12: do. -/
import Derived.Test.YtojfohpnfciajaaGWSkp21
namespace Go.Proofs.Ytojfohpnfciajaa
open Go.RowKit
set_option maxRecDepth 100000

theorem finF_off {w : World} {sb hb hl : Nat} {N : List Nd} {f : Nat → Nat → Option Nat} (hS : SkF w hb hl N f) {cs ds : Array Value} {b : Nat} {T : TypeId} (hs : Blk w sb cs 82) (hb' : Blk w b ds T) (h1 : T ≠ 82) (h2 : T ≠ 129) (h3 : T ≠ 125) : ¬ finF sb hl N b := by
  rintro (e | e | e)
  · exact hb'.ne hs h1 e
  · rcases List.mem_cons.1 e with rfl | e
    · obtain ⟨es, e1, _⟩ := hS.hlk
      exact hb'.ne e1 h2 rfl
    · obtain ⟨y, hy, rfl⟩ := List.mem_map.1 e
      obtain ⟨es, e1, _⟩ := hS.lks y hy
      exact hb'.ne e1 h2 rfl
  · obtain ⟨y, hy, rfl⟩ := List.mem_map.1 e
    exact hb'.ne (hS.nd y hy) h3 rfl
/-- a step was taken -/
structure TkR (w w' : World) (lb hb sb hl sb' cb' : Nat) (N N' : List Nd) (was : Int) (there : Bool) : Prop where
  q : Skp w' lb hb sb' hl cb' N'
  c : ∃ n ls vs, Blk w' cb' (chC was there n ls vs) 93
  ns : w.heap.size ≤ sb'
  fr : Frm w w' (ownL lb sb hl N)
  gr : Grw w.heap.size N N'

set_option maxHeartbeats 4000000 in
theorem take_put (lb hb sb hl cb kb vb ib h : Nat) (v : Int) (N : List Nd) (k : ByteArray) (w : World) (hq : Skp w lb hb sb hl cb N) (hN : N.length < 9000000000000000000) (k1 : Blk w kb #[.string k] 9) (k2 : Blk w vb #[.int .i64 v] 2) (k3 : Blk w ib #[.int .i64 (h : Nat)] 3) (hh : 1 ≤ h ∧ h ≤ 16) :
    Calls Try.prog 63 #[ptr1 lb, .func (.func 80) #[] #[ptr1 kb, ptr1 vb, ptr1 ib]] w fun e w' => ∃ sb' cb' N', e = .returned (.tuple #[ptr1 sb', ptr1 cb']) ∧ TkR w w' lb hb sb hl sb' cb' N N' (wasV (ensN N) k) (getE (ensN N) k).isSome ∧ ensN N' = putE (ensN N) k v h := by
  obtain ⟨aX, aB, aS⟩ := blk_new w #[.int .u64 0, .int .i64 0, .func (.func 80) #[] #[ptr1 kb, ptr1 vb, ptr1 ib], .pointer none, .int .u32 0] 82
  obtain ⟨a, c, wk, hs⟩ := hq.s
  obtain ⟨xx, yy, lls, vvs, hc⟩ := hq.c
  obtain ⟨a2, ha2⟩ : ∃ a2 : Nat, IntKind.u64.wrap ((a : Int) + 1) = (a2 : Int) := ⟨(IntKind.u64.wrap ((a : Int) + 1)).toNat, by
    have : 0 ≤ IntKind.u64.wrap ((a : Int) + 1) := by rw [IntKind.wrap_u64]; omega
    omega⟩
  have hdr : Below (w.alloc (.cells #[.int .u64 0, .int .i64 0, .func (.func 80) #[] #[ptr1 kb, ptr1 vb, ptr1 ib], .pointer none, .int .u32 0] 82)).heap.size (w.alloc (.cells #[.int .u64 0, .int .i64 0, .func (.func 80) #[] #[ptr1 kb, ptr1 vb, ptr1 ib], .pointer none, .int .u32 0] 82)) (w.alloc (.cells #[.int .u64 0, .int .i64 0, .func (.func 80) #[] #[ptr1 kb, ptr1 vb, ptr1 ib], .pointer none, .int .u32 0] 82)).drew := (Below.refl _ _).drew
  have hbd := aB.trans (hdr.mono aB.size)
  have HXd : Hid (Blk (w.alloc (.cells #[.int .u64 0, .int .i64 0, .func (.func 80) #[] #[ptr1 kb, ptr1 vb, ptr1 ib], .pointer none, .int .u32 0] 82)).drew w.heap.size #[.int .u64 0, .int .i64 0, .func (.func 80) #[] #[ptr1 kb, ptr1 vb, ptr1 ib], .pointer none, .int .u32 0] 82) := aX.on hdr
  have HBd : Hid (Below w.heap.size w (w.alloc (.cells #[.int .u64 0, .int .i64 0, .func (.func 80) #[] #[ptr1 kb, ptr1 vb, ptr1 ib], .pointer none, .int .u32 0] 82)).drew) := hbd
  have HQ : Hid (Skp w lb hb sb hl cb N) := hq
  have HQ1 := hq.on aB
  have HA : Hid ((w.alloc (.cells #[.int .u64 0, .int .i64 0, .func (.func 80) #[] #[ptr1 kb, ptr1 vb, ptr1 ib], .pointer none, .int .u32 0] 82)).drew.cell? ⟨sb, 0, none⟩ = some (.int .u64 (a : Nat)) ∧ (w.alloc (.cells #[.int .u64 0, .int .i64 0, .func (.func 80) #[] #[ptr1 kb, ptr1 vb, ptr1 ib], .pointer none, .int .u32 0] 82)).drew.cell? ⟨cb, 2, none⟩ = some (.int .i64 (N.length : Nat))) := ⟨Blk.cell (i := 0) (hs.on hbd) rfl, Blk.cell (i := 2) (hc.on hbd) rfl⟩
  have HCF : Hid (Calls Try.prog 29 #[ptr1 lb, ptr1 sb] (w.alloc (.cells #[.int .u64 0, .int .i64 0, .func (.func 80) #[] #[ptr1 kb, ptr1 vb, ptr1 ib], .pointer none, .int .u32 0] 82)).drew fun e w' => e = .returned (ptr1 cb) ∧ w' = (w.alloc (.cells #[.int .u64 0, .int .i64 0, .func (.func 80) #[] #[ptr1 kb, ptr1 vb, ptr1 ib], .pointer none, .int .u32 0] 82)).drew) := finish_done lb sb cb _ ⟨a, c, wk, hs.on hbd⟩ ⟨xx, yy, _, lls, vvs, hc.on hbd⟩
  have C1 : Hid (Calls _ _ _ _ _) := loadSt lb 2 (some ⟨sb, 0, none⟩) (w.alloc (.cells #[.int .u64 0, .int .i64 0, .func (.func 80) #[] #[ptr1 kb, ptr1 vb, ptr1 ib], .pointer none, .int .u32 0] 82)) (Blk.cell (i := 2) HQ1.l rfl) HQ1.vw.s
  have HP : Hid (N.length < 9000000000000000000) := hN
  clear hq hs hc aX aB aS hdr hbd HQ1 hN
  go_enter Try.func63, Try.ntmps63
  go_wp2_with fail
  generalize (w.alloc (.cells #[.int .u64 0, .int .i64 0, .func (.func 80) #[] #[ptr1 kb, ptr1 vb, ptr1 ib], .pointer none, .int .u32 0] 82)) = w0 at *
  go_loopw [] (fun wr => wr = w0) (fun _ => 0)
  case atStart => rfl
  case round =>
    rw [hrel]
    clear hrel
    go_wp2_with fail
    refine C1.out.mono ?_
    rintro e w9 ⟨rfl, hw9⟩
    rw [hw9]
    clear hw9 C1
    go_upto_region 3 with fail
    refine wp_region_any (by kernel_rfl) ?_
    change wpAny _ _ _ _ _ _ _ (World.drew _)
    generalize w0.drew = wd at *
    refine tk (v := ?_) 0 rfl ?_ ?_
    rotate_left
    focus
      intro w9
      go_simp
      try with_reducible rfl
    try simp only [aP]
    refine tk (v := ?_) 1 rfl ?_ ?_
    rotate_left
    focus
      intro w9
      go_simp
      try with_reducible rfl
    try simp only [aP]
    refine tk (v := ?_) 2 rfl ?_ ?_
    rotate_left
    focus
      intro w9
      go_simp
      try with_reducible rfl
    try simp only [aP]
    refine tk (v := ?_) 3 rfl ?_ ?_
    rotate_left
    focus
      intro w9
      go_simp
      try with_reducible rfl
    try simp only [aP]
    refine tk (v := ?_) 4 rfl ?_ ?_
    rotate_left
    focus
      intro w9
      go_simp
      try with_reducible rfl
    try simp only [aP]
    refine tk (v := ?_) 7 rfl ?_ ?_
    rotate_left
    focus
      intro w9
      go_simp
      try with_reducible rfl
    try simp only [aP]
    refine tk (v := ?_) 8 rfl ?_ ?_
    rotate_left
    focus
      intro w9
      go_simp
      try with_reducible rfl
    try simp only [aP]
    apply later0
    intro hs5_9_12
    apply later0
    intro hs9_12
    apply later0
    intro hs5_9
    apply later0
    intro hs9
    apply later0
    intro hs5
    · obtain ⟨a0, c2⟩ := HA.out
      have CF := HCF.out
      refine wpAny_ready (rs := [5, 9]) (by kernel_rfl) (by simp) ?_
      refine anyN_cons 5 rfl (by rfl) (fun K hK => ?_) (anyN_cons 9 rfl (by rfl) (fun K hK => ?_) AllReady.nil)
      · go_simp
        refine hK.out _ _ ?_
        clear hK K
        try simp only [aP]
        refine tk (v := ?_) 6 rfl ?_ ?_
        rotate_left
        focus
          intro w9
          go_simp
          try with_reducible rfl
        try simp only [aP]
        exact hs5
      · go_simp
        refine CF.mono ?_
        rintro e w9 ⟨rfl, hw9⟩
        dsimp only
        rw [hw9]
        clear hw9
        refine hK.out _ _ ?_
        clear hK K
        try simp only [aP]
        refine tk (v := ?_) 10 rfl ?_ ?_
        rotate_left
        focus
          intro w9
          go_simp
          try with_reducible rfl
        try simp only [aP]
        refine tk (v := ?_) 11 rfl ?_ ?_
        rotate_left
        focus
          intro w9
          go_simp
          try with_reducible rfl
        try simp only [aP]
        exact hs9
    · obtain ⟨a0, c2⟩ := HA.out
      have CF := HCF.out
      refine wpAny_ready (rs := [9]) (by kernel_rfl) (by simp) ?_
      refine anyN_cons 9 rfl (by rfl) (fun K hK => ?_) AllReady.nil
      go_simp
      refine CF.mono ?_
      rintro e w9 ⟨rfl, hw9⟩
      dsimp only
      rw [hw9]
      clear hw9
      refine hK.out _ _ ?_
      clear hK K
      try simp only [aP]
      refine tk (v := ?_) 10 rfl ?_ ?_
      rotate_left
      focus
        intro w9
        go_simp
        try with_reducible rfl
      try simp only [aP]
      refine tk (v := ?_) 11 rfl ?_ ?_
      rotate_left
      focus
        intro w9
        go_simp
        try with_reducible rfl
      try simp only [aP]
      exact hs5_9
    · obtain ⟨a0, c2⟩ := HA.out
      have CF := HCF.out
      refine wpAny_ready (rs := [5, 12]) (by kernel_rfl) (by simp) ?_
      refine anyN_cons 5 rfl (by rfl) (fun K hK => ?_) (anyN_cons 12 rfl (by rfl) (fun K hK => ?_) AllReady.nil)
      · go_simp
        refine hK.out _ _ ?_
        clear hK K
        try simp only [aP]
        refine tk (v := ?_) 6 rfl ?_ ?_
        rotate_left
        focus
          intro w9
          go_simp
          try with_reducible rfl
        try simp only [aP]
        exact hs5_9
      · go_simp
        refine hK.out _ _ ?_
        clear hK K
        try simp only [aP]
        exact hs9_12
    · obtain ⟨a0, c2⟩ := HA.out
      have CF := HCF.out
      refine wpAny_ready (rs := [12]) (by kernel_rfl) (by simp) ?_
      refine anyN_cons 12 rfl (by rfl) (fun K hK => ?_) AllReady.nil
      go_simp
      refine hK.out _ _ ?_
      clear hK K
      try simp only [aP]
      exact hs5_9_12
    · obtain ⟨a0, c2⟩ := HA.out
      have CF := HCF.out
      refine wpAny_ready (rs := [5]) (by kernel_rfl) (by simp) ?_
      refine anyN_cons 5 rfl (by rfl) (fun K hK => ?_) AllReady.nil
      go_simp
      refine hK.out _ _ ?_
      clear hK K
      try simp only [aP]
      refine tk (v := ?_) 6 rfl ?_ ?_
      rotate_left
      focus
        intro w9
        go_simp
        try with_reducible rfl
      try simp only [aP]
      exact hs5_9_12
    · obtain ⟨a0, c2⟩ := HA.out
      have CF := HCF.out
      refine tk (v := ?_) 13 rfl ?_ ?_
      rotate_left
      focus
        intro w9
        go_simp
        try with_reducible rfl
      try simp only [aP]
      refine tk (v := ?_) 14 rfl ?_ ?_
      rotate_left
      focus
        intro w9
        go_simp
        try with_reducible rfl
      try simp only [aP]
      have x0 := Blk.cell (i := 0) HXd.out rfl
      have x1 := HXd.out.frozen 0
      refine wpAny_ready (rs := [15]) (by kernel_rfl) (by simp) ?_
      refine anyN_cons 15 rfl (by rfl) (fun K hK => ?_) AllReady.nil
      go_simp
      refine hK.out _ _ ?_
      clear hK K
      try simp only [aP]
      clear x0 x1
      have hx9 := HXd.out.set 0 (.int .u64 (a2 : Nat))
      have x0 := Blk.cell (i := 1) hx9 rfl
      have x1 := hx9.frozen 1
      clear hx9
      refine tk (v := ?_) 16 rfl ?_ ?_
      rotate_left
      focus
        intro w9
        go_simp
        try with_reducible rfl
      try simp only [aP]
      refine tk (v := ?_) 17 rfl ?_ ?_
      rotate_left
      focus
        intro w9
        go_simp
        try with_reducible rfl
      try simp only [aP]
      refine wpAny_ready (rs := [18]) (by kernel_rfl) (by simp) ?_
      refine anyN_cons 18 rfl (by rfl) (fun K hK => ?_) AllReady.nil
      go_simp
      refine hK.out _ _ ?_
      clear hK K
      try simp only [aP]
      clear x0 x1
      refine wpAny_done (by kernel_rfl) ?_ _
      have HX3 : Hid (Blk ((wd.setCell ⟨w.heap.size, 0, none⟩ (.int .u64 (a2 : Nat))).setCell ⟨w.heap.size, 1, none⟩ (.int .i64 (N.length : Nat))) w.heap.size #[.int .u64 (a2 : Nat), .int .i64 (N.length : Nat), .func (.func 80) #[] #[ptr1 kb, ptr1 vb, ptr1 ib], .pointer none, .int .u32 0] 82) := (HXd.out.set 0 _).set 1 _
      have HF3 : Hid (Frm w ((wd.setCell ⟨w.heap.size, 0, none⟩ (.int .u64 (a2 : Nat))).setCell ⟨w.heap.size, 1, none⟩ (.int .i64 (N.length : Nat))) none1) := by
        refine ((Frm.of_below (F := none1) HBd.out).trans (frm_set _ _ _ _ (F := one1 w.heap.size) (.inl rfl)) (fun k hk => .inr (Nat.le_of_eq hk.symm))).trans (frm_set _ _ _ _ (F := one1 w.heap.size) (.inl rfl)) (fun k hk => .inr (Nat.le_of_eq hk.symm))
      have HQ3 : Hid (Skp ((wd.setCell ⟨w.heap.size, 0, none⟩ (.int .u64 (a2 : Nat))).setCell ⟨w.heap.size, 1, none⟩ (.int .i64 (N.length : Nat))) lb hb sb hl cb N) := HQ.out.on HF3.out.none
      clear HXd HBd
      generalize ((wd.setCell ⟨w.heap.size, 0, none⟩ (.int .u64 (a2 : Nat))).setCell ⟨w.heap.size, 1, none⟩ (.int .i64 (N.length : Nat))) = w3 at *
      have C4 : Hid (Calls _ _ _ _ _) := casSt lb 2 (some ⟨sb, 0, none⟩) (some ⟨w.heap.size, 0, none⟩) w3 (Blk.cell (i := 2) HQ3.out.l rfl) (Blk.frozen HQ3.out.l 2) HQ3.out.vw.s (PtT.blk HX3.out rfl)
      go_wp2_with fail
      refine C4.out.mono ?_
      rintro e w4 ⟨rfl, hw4⟩
      have HX4 : Hid (Blk w4 w.heap.size #[.int .u64 (a2 : Nat), .int .i64 (N.length : Nat), .func (.func 80) #[] #[ptr1 kb, ptr1 vb, ptr1 ib], .pointer none, .int .u32 0] 82 ∧ LstB w4 lb hb w.heap.size ∧ SkF w4 hb hl N (ldF N) ∧ Frm w3 w4 (one1 lb)) := by
        show Blk _ _ _ _ ∧ _
        rw [hw4]
        refine ⟨HX3.out.other (HX3.out.ne HQ3.out.l (by decide)) 2 _, Blk.set HQ3.out.l 2 _, HQ3.out.n.frm (frm_set _ _ _ _ (F := one1 lb) (.inl rfl)) (OffS.one HQ3.out.l (by decide)), frm_set _ _ _ _ (.inl rfl)⟩
      have hf34 : Frm w w4 (one1 lb) := (HF3.out.mono (G := one1 lb) (fun k hk => hk.elim)).trans HX4.out.2.2.2 (fun k hk => .inl hk)
      have HF4 : Hid (Frm w w4 (one1 lb)) := hf34
      have C5 : Hid (Calls _ _ _ _ _) := finish_put lb hb w.heap.size hl (fnd (ensN N) k) kb vb ib h a2 N k (N.length : Nat) v w4 HX4.out.2.1 HX4.out.1 (by omega) (by have := HP.out; omega) HX4.out.2.2.1 (fnd_leN N k) (rise_lt k) (rise_ge HQ.out.r k) (k1.frm hf34 (fun e => k1.ne HQ.out.l (by decide) e)) (k2.frm hf34 (fun e => k2.ne HQ.out.l (by decide) e)) (k3.frm hf34 (fun e => k3.ne HQ.out.l (by decide) e)) hh
      clear hw4 C4 hf34 HX3 HQ3 HF3
      go_wp2_with fail
      refine C5.out.mono ?_
      rintro e w5 ⟨g, rfl, hR⟩
      obtain ⟨N', ls, vs, r1, r2, r3, r4, r5, r6, r7⟩ := hR.upd HQ.out.r rfl
      have HK : Hid (TkR w w5 lb hb sb hl w.heap.size g N N' (wasV (ensN N) k) (getE (ensN N) k).isSome ∧ ensN N' = putE (ensN N) k v h) := by
        have hoff : ¬ finF w.heap.size hl N lb := finF_off HX4.out.2.2.1 HX4.out.1 HX4.out.2.1 (by decide) (by decide) (by decide)
        refine ⟨⟨⟨(Blk.frm HX4.out.2.1 r4 hoff), ⟨a2, _, _, r2⟩, ⟨_, _, _, _, r1⟩, r3, r6⟩, ⟨_, ls, vs, r1⟩, Nat.le_refl _, ?_, fun x hx => ?_⟩, r5⟩
        · refine (HF4.out.mono (G := ownL lb sb hl N) (fun k hk => .inl (.inl hk))).trans r4 (fun k hk => ?_)
          rcases hk with rfl | hk | hk
          · exact .inr (Nat.le_refl _)
          · exact .inl (.inr (.inr (.inl hk)))
          · exact .inl (.inr (.inr (.inr hk)))
        · rcases r7 x hx with h9 | ⟨h9, h8⟩
          · exact .inl h9
          · exact .inr ⟨Nat.le_trans HF4.out.size h9, Nat.le_trans HF4.out.size h8⟩
      clear r1 r2 r3 r4 r5 r6 r7 hR C5
      go_wp2_with fail
      go_ret2
      exact ⟨_, _, N', rfl, HK.out.1, HK.out.2⟩

set_option maxHeartbeats 4000000 in
theorem take_del (lb hb sb hl cb kb : Nat) (N : List Nd) (k : ByteArray) (w : World) (hq : Skp w lb hb sb hl cb N) (hN : N.length < 9000000000000000000) (k1 : Blk w kb #[.string k] 9) :
    Calls Try.prog 63 #[ptr1 lb, .func (.func 85) #[] #[ptr1 kb]] w fun e w' => ∃ sb' cb' N', e = .returned (.tuple #[ptr1 sb', ptr1 cb']) ∧ TkR w w' lb hb sb hl sb' cb' N N' (wasV (ensN N) k) (getE (ensN N) k).isSome ∧ ensN N' = delE (ensN N) k := by
  obtain ⟨aX, aB, aS⟩ := blk_new w #[.int .u64 0, .int .i64 0, .func (.func 85) #[] #[ptr1 kb], .pointer none, .int .u32 0] 82
  obtain ⟨a, c, wk, hs⟩ := hq.s
  obtain ⟨xx, yy, lls, vvs, hc⟩ := hq.c
  obtain ⟨a2, ha2⟩ : ∃ a2 : Nat, IntKind.u64.wrap ((a : Int) + 1) = (a2 : Int) := ⟨(IntKind.u64.wrap ((a : Int) + 1)).toNat, by
    have : 0 ≤ IntKind.u64.wrap ((a : Int) + 1) := by rw [IntKind.wrap_u64]; omega
    omega⟩
  have hdr : Below (w.alloc (.cells #[.int .u64 0, .int .i64 0, .func (.func 85) #[] #[ptr1 kb], .pointer none, .int .u32 0] 82)).heap.size (w.alloc (.cells #[.int .u64 0, .int .i64 0, .func (.func 85) #[] #[ptr1 kb], .pointer none, .int .u32 0] 82)) (w.alloc (.cells #[.int .u64 0, .int .i64 0, .func (.func 85) #[] #[ptr1 kb], .pointer none, .int .u32 0] 82)).drew := (Below.refl _ _).drew
  have hbd := aB.trans (hdr.mono aB.size)
  have HXd : Hid (Blk (w.alloc (.cells #[.int .u64 0, .int .i64 0, .func (.func 85) #[] #[ptr1 kb], .pointer none, .int .u32 0] 82)).drew w.heap.size #[.int .u64 0, .int .i64 0, .func (.func 85) #[] #[ptr1 kb], .pointer none, .int .u32 0] 82) := aX.on hdr
  have HBd : Hid (Below w.heap.size w (w.alloc (.cells #[.int .u64 0, .int .i64 0, .func (.func 85) #[] #[ptr1 kb], .pointer none, .int .u32 0] 82)).drew) := hbd
  have HQ : Hid (Skp w lb hb sb hl cb N) := hq
  have HQ1 := hq.on aB
  have HA : Hid ((w.alloc (.cells #[.int .u64 0, .int .i64 0, .func (.func 85) #[] #[ptr1 kb], .pointer none, .int .u32 0] 82)).drew.cell? ⟨sb, 0, none⟩ = some (.int .u64 (a : Nat)) ∧ (w.alloc (.cells #[.int .u64 0, .int .i64 0, .func (.func 85) #[] #[ptr1 kb], .pointer none, .int .u32 0] 82)).drew.cell? ⟨cb, 2, none⟩ = some (.int .i64 (N.length : Nat))) := ⟨Blk.cell (i := 0) (hs.on hbd) rfl, Blk.cell (i := 2) (hc.on hbd) rfl⟩
  have HCF : Hid (Calls Try.prog 29 #[ptr1 lb, ptr1 sb] (w.alloc (.cells #[.int .u64 0, .int .i64 0, .func (.func 85) #[] #[ptr1 kb], .pointer none, .int .u32 0] 82)).drew fun e w' => e = .returned (ptr1 cb) ∧ w' = (w.alloc (.cells #[.int .u64 0, .int .i64 0, .func (.func 85) #[] #[ptr1 kb], .pointer none, .int .u32 0] 82)).drew) := finish_done lb sb cb _ ⟨a, c, wk, hs.on hbd⟩ ⟨xx, yy, _, lls, vvs, hc.on hbd⟩
  have C1 : Hid (Calls _ _ _ _ _) := loadSt lb 2 (some ⟨sb, 0, none⟩) (w.alloc (.cells #[.int .u64 0, .int .i64 0, .func (.func 85) #[] #[ptr1 kb], .pointer none, .int .u32 0] 82)) (Blk.cell (i := 2) HQ1.l rfl) HQ1.vw.s
  have HP : Hid (N.length < 9000000000000000000) := hN
  clear hq hs hc aX aB aS hdr hbd HQ1 hN
  go_enter Try.func63, Try.ntmps63
  go_wp2_with fail
  generalize (w.alloc (.cells #[.int .u64 0, .int .i64 0, .func (.func 85) #[] #[ptr1 kb], .pointer none, .int .u32 0] 82)) = w0 at *
  go_loopw [] (fun wr => wr = w0) (fun _ => 0)
  case atStart => rfl
  case round =>
    rw [hrel]
    clear hrel
    go_wp2_with fail
    refine C1.out.mono ?_
    rintro e w9 ⟨rfl, hw9⟩
    rw [hw9]
    clear hw9 C1
    go_upto_region 3 with fail
    refine wp_region_any (by kernel_rfl) ?_
    change wpAny _ _ _ _ _ _ _ (World.drew _)
    generalize w0.drew = wd at *
    refine tk (v := ?_) 0 rfl ?_ ?_
    rotate_left
    focus
      intro w9
      go_simp
      try with_reducible rfl
    try simp only [aP]
    refine tk (v := ?_) 1 rfl ?_ ?_
    rotate_left
    focus
      intro w9
      go_simp
      try with_reducible rfl
    try simp only [aP]
    refine tk (v := ?_) 2 rfl ?_ ?_
    rotate_left
    focus
      intro w9
      go_simp
      try with_reducible rfl
    try simp only [aP]
    refine tk (v := ?_) 3 rfl ?_ ?_
    rotate_left
    focus
      intro w9
      go_simp
      try with_reducible rfl
    try simp only [aP]
    refine tk (v := ?_) 4 rfl ?_ ?_
    rotate_left
    focus
      intro w9
      go_simp
      try with_reducible rfl
    try simp only [aP]
    refine tk (v := ?_) 7 rfl ?_ ?_
    rotate_left
    focus
      intro w9
      go_simp
      try with_reducible rfl
    try simp only [aP]
    refine tk (v := ?_) 8 rfl ?_ ?_
    rotate_left
    focus
      intro w9
      go_simp
      try with_reducible rfl
    try simp only [aP]
    apply later0
    intro hs5_9_12
    apply later0
    intro hs9_12
    apply later0
    intro hs5_9
    apply later0
    intro hs9
    apply later0
    intro hs5
    · obtain ⟨a0, c2⟩ := HA.out
      have CF := HCF.out
      refine wpAny_ready (rs := [5, 9]) (by kernel_rfl) (by simp) ?_
      refine anyN_cons 5 rfl (by rfl) (fun K hK => ?_) (anyN_cons 9 rfl (by rfl) (fun K hK => ?_) AllReady.nil)
      · go_simp
        refine hK.out _ _ ?_
        clear hK K
        try simp only [aP]
        refine tk (v := ?_) 6 rfl ?_ ?_
        rotate_left
        focus
          intro w9
          go_simp
          try with_reducible rfl
        try simp only [aP]
        exact hs5
      · go_simp
        refine CF.mono ?_
        rintro e w9 ⟨rfl, hw9⟩
        dsimp only
        rw [hw9]
        clear hw9
        refine hK.out _ _ ?_
        clear hK K
        try simp only [aP]
        refine tk (v := ?_) 10 rfl ?_ ?_
        rotate_left
        focus
          intro w9
          go_simp
          try with_reducible rfl
        try simp only [aP]
        refine tk (v := ?_) 11 rfl ?_ ?_
        rotate_left
        focus
          intro w9
          go_simp
          try with_reducible rfl
        try simp only [aP]
        exact hs9
    · obtain ⟨a0, c2⟩ := HA.out
      have CF := HCF.out
      refine wpAny_ready (rs := [9]) (by kernel_rfl) (by simp) ?_
      refine anyN_cons 9 rfl (by rfl) (fun K hK => ?_) AllReady.nil
      go_simp
      refine CF.mono ?_
      rintro e w9 ⟨rfl, hw9⟩
      dsimp only
      rw [hw9]
      clear hw9
      refine hK.out _ _ ?_
      clear hK K
      try simp only [aP]
      refine tk (v := ?_) 10 rfl ?_ ?_
      rotate_left
      focus
        intro w9
        go_simp
        try with_reducible rfl
      try simp only [aP]
      refine tk (v := ?_) 11 rfl ?_ ?_
      rotate_left
      focus
        intro w9
        go_simp
        try with_reducible rfl
      try simp only [aP]
      exact hs5_9
    · obtain ⟨a0, c2⟩ := HA.out
      have CF := HCF.out
      refine wpAny_ready (rs := [5, 12]) (by kernel_rfl) (by simp) ?_
      refine anyN_cons 5 rfl (by rfl) (fun K hK => ?_) (anyN_cons 12 rfl (by rfl) (fun K hK => ?_) AllReady.nil)
      · go_simp
        refine hK.out _ _ ?_
        clear hK K
        try simp only [aP]
        refine tk (v := ?_) 6 rfl ?_ ?_
        rotate_left
        focus
          intro w9
          go_simp
          try with_reducible rfl
        try simp only [aP]
        exact hs5_9
      · go_simp
        refine hK.out _ _ ?_
        clear hK K
        try simp only [aP]
        exact hs9_12
    · obtain ⟨a0, c2⟩ := HA.out
      have CF := HCF.out
      refine wpAny_ready (rs := [12]) (by kernel_rfl) (by simp) ?_
      refine anyN_cons 12 rfl (by rfl) (fun K hK => ?_) AllReady.nil
      go_simp
      refine hK.out _ _ ?_
      clear hK K
      try simp only [aP]
      exact hs5_9_12
    · obtain ⟨a0, c2⟩ := HA.out
      have CF := HCF.out
      refine wpAny_ready (rs := [5]) (by kernel_rfl) (by simp) ?_
      refine anyN_cons 5 rfl (by rfl) (fun K hK => ?_) AllReady.nil
      go_simp
      refine hK.out _ _ ?_
      clear hK K
      try simp only [aP]
      refine tk (v := ?_) 6 rfl ?_ ?_
      rotate_left
      focus
        intro w9
        go_simp
        try with_reducible rfl
      try simp only [aP]
      exact hs5_9_12
    · obtain ⟨a0, c2⟩ := HA.out
      have CF := HCF.out
      refine tk (v := ?_) 13 rfl ?_ ?_
      rotate_left
      focus
        intro w9
        go_simp
        try with_reducible rfl
      try simp only [aP]
      refine tk (v := ?_) 14 rfl ?_ ?_
      rotate_left
      focus
        intro w9
        go_simp
        try with_reducible rfl
      try simp only [aP]
      have x0 := Blk.cell (i := 0) HXd.out rfl
      have x1 := HXd.out.frozen 0
      refine wpAny_ready (rs := [15]) (by kernel_rfl) (by simp) ?_
      refine anyN_cons 15 rfl (by rfl) (fun K hK => ?_) AllReady.nil
      go_simp
      refine hK.out _ _ ?_
      clear hK K
      try simp only [aP]
      clear x0 x1
      have hx9 := HXd.out.set 0 (.int .u64 (a2 : Nat))
      have x0 := Blk.cell (i := 1) hx9 rfl
      have x1 := hx9.frozen 1
      clear hx9
      refine tk (v := ?_) 16 rfl ?_ ?_
      rotate_left
      focus
        intro w9
        go_simp
        try with_reducible rfl
      try simp only [aP]
      refine tk (v := ?_) 17 rfl ?_ ?_
      rotate_left
      focus
        intro w9
        go_simp
        try with_reducible rfl
      try simp only [aP]
      refine wpAny_ready (rs := [18]) (by kernel_rfl) (by simp) ?_
      refine anyN_cons 18 rfl (by rfl) (fun K hK => ?_) AllReady.nil
      go_simp
      refine hK.out _ _ ?_
      clear hK K
      try simp only [aP]
      clear x0 x1
      refine wpAny_done (by kernel_rfl) ?_ _
      have HX3 : Hid (Blk ((wd.setCell ⟨w.heap.size, 0, none⟩ (.int .u64 (a2 : Nat))).setCell ⟨w.heap.size, 1, none⟩ (.int .i64 (N.length : Nat))) w.heap.size #[.int .u64 (a2 : Nat), .int .i64 (N.length : Nat), .func (.func 85) #[] #[ptr1 kb], .pointer none, .int .u32 0] 82) := (HXd.out.set 0 _).set 1 _
      have HF3 : Hid (Frm w ((wd.setCell ⟨w.heap.size, 0, none⟩ (.int .u64 (a2 : Nat))).setCell ⟨w.heap.size, 1, none⟩ (.int .i64 (N.length : Nat))) none1) := by
        refine ((Frm.of_below (F := none1) HBd.out).trans (frm_set _ _ _ _ (F := one1 w.heap.size) (.inl rfl)) (fun k hk => .inr (Nat.le_of_eq hk.symm))).trans (frm_set _ _ _ _ (F := one1 w.heap.size) (.inl rfl)) (fun k hk => .inr (Nat.le_of_eq hk.symm))
      have HQ3 : Hid (Skp ((wd.setCell ⟨w.heap.size, 0, none⟩ (.int .u64 (a2 : Nat))).setCell ⟨w.heap.size, 1, none⟩ (.int .i64 (N.length : Nat))) lb hb sb hl cb N) := HQ.out.on HF3.out.none
      clear HXd HBd
      generalize ((wd.setCell ⟨w.heap.size, 0, none⟩ (.int .u64 (a2 : Nat))).setCell ⟨w.heap.size, 1, none⟩ (.int .i64 (N.length : Nat))) = w3 at *
      have C4 : Hid (Calls _ _ _ _ _) := casSt lb 2 (some ⟨sb, 0, none⟩) (some ⟨w.heap.size, 0, none⟩) w3 (Blk.cell (i := 2) HQ3.out.l rfl) (Blk.frozen HQ3.out.l 2) HQ3.out.vw.s (PtT.blk HX3.out rfl)
      go_wp2_with fail
      refine C4.out.mono ?_
      rintro e w4 ⟨rfl, hw4⟩
      have HX4 : Hid (Blk w4 w.heap.size #[.int .u64 (a2 : Nat), .int .i64 (N.length : Nat), .func (.func 85) #[] #[ptr1 kb], .pointer none, .int .u32 0] 82 ∧ LstB w4 lb hb w.heap.size ∧ SkF w4 hb hl N (ldF N) ∧ Frm w3 w4 (one1 lb)) := by
        show Blk _ _ _ _ ∧ _
        rw [hw4]
        refine ⟨HX3.out.other (HX3.out.ne HQ3.out.l (by decide)) 2 _, Blk.set HQ3.out.l 2 _, HQ3.out.n.frm (frm_set _ _ _ _ (F := one1 lb) (.inl rfl)) (OffS.one HQ3.out.l (by decide)), frm_set _ _ _ _ (.inl rfl)⟩
      have hf34 : Frm w w4 (one1 lb) := (HF3.out.mono (G := one1 lb) (fun k hk => hk.elim)).trans HX4.out.2.2.2 (fun k hk => .inl hk)
      have HF4 : Hid (Frm w w4 (one1 lb)) := hf34
      have C5 : Hid (Calls _ _ _ _ _) := finish_del lb hb w.heap.size hl (fnd (ensN N) k) kb a2 N k (N.length : Nat) w4 HX4.out.2.1 HX4.out.1 (by omega) (by have := HP.out; omega) HX4.out.2.2.1 (fnd_leN N k) (rise_lt k) (rise_ge HQ.out.r k) (k1.frm hf34 (fun e => k1.ne HQ.out.l (by decide) e))
      clear hw4 C4 hf34 HX3 HQ3 HF3
      go_wp2_with fail
      refine C5.out.mono ?_
      rintro e w5 ⟨g, rfl, hR⟩
      obtain ⟨N', ls, vs, r1, r2, r3, r4, r5, r6, r7⟩ := hR.upd HQ.out.r rfl
      have HK : Hid (TkR w w5 lb hb sb hl w.heap.size g N N' (wasV (ensN N) k) (getE (ensN N) k).isSome ∧ ensN N' = delE (ensN N) k) := by
        have hoff : ¬ finF w.heap.size hl N lb := finF_off HX4.out.2.2.1 HX4.out.1 HX4.out.2.1 (by decide) (by decide) (by decide)
        refine ⟨⟨⟨(Blk.frm HX4.out.2.1 r4 hoff), ⟨a2, _, _, r2⟩, ⟨_, _, _, _, r1⟩, r3, r6⟩, ⟨_, ls, vs, r1⟩, Nat.le_refl _, ?_, fun x hx => ?_⟩, r5⟩
        · refine (HF4.out.mono (G := ownL lb sb hl N) (fun k hk => .inl (.inl hk))).trans r4 (fun k hk => ?_)
          rcases hk with rfl | hk | hk
          · exact .inr (Nat.le_refl _)
          · exact .inl (.inr (.inr (.inl hk)))
          · exact .inl (.inr (.inr (.inr hk)))
        · rcases r7 x hx with h9 | ⟨h9, h8⟩
          · exact .inl h9
          · exact .inr ⟨Nat.le_trans HF4.out.size h9, Nat.le_trans HF4.out.size h8⟩
      clear r1 r2 r3 r4 r5 r6 r7 hR C5
      go_wp2_with fail
      go_ret2
      exact ⟨_, _, N', rfl, HK.out.1, HK.out.2⟩

end Go.Proofs.Ytojfohpnfciajaa

namespace Go.Proofs.Ytojfohpnfciajaa
open Go.RowKit
set_option maxRecDepth 100000

/-- types of a list's blocks -/
abbrev OffT (T : TypeId) : Prop := T ≠ 125 ∧ T ≠ 129 ∧ T ≠ 132 ∧ T ≠ 2 ∧ T ≠ 62 ∧ T ≠ 82 ∧ T ≠ 93
theorem Skp.frm1 {w w' : World} {lb hb sb hl cb : Nat} {N : List Nd} (h : Skp w lb hb sb hl cb N) {b : Nat} {cs : Array Value} {T : TypeId} (hb' : Blk w b cs T) (hf : Frm w w' (one1 b)) (hT : OffT T) : Skp w' lb hb sb hl cb N := by
  obtain ⟨a, c, wk, hs⟩ := h.s
  obtain ⟨x, y, ls, vs, hc⟩ := h.c
  obtain ⟨t1, t2, t3, t4, t5, t6, t7⟩ := hT
  exact ⟨Blk.frm h.l hf (fun e => hb'.ne h.l t5 e.symm), ⟨a, c, wk, hs.frm hf (fun e => hb'.ne hs t6 e.symm)⟩, ⟨x, y, ls, vs, hc.frm hf (fun e => hb'.ne hc t7 e.symm)⟩, h.n.frm hf (OffS.one hb' ⟨t1, t2, t3, t4⟩), h.r⟩
theorem ownL_off {w : World} {lb hb sb hl cb : Nat} {N : List Nd} (h : Skp w lb hb sb hl cb N) {b : Nat} {cs : Array Value} {T : TypeId} (hb' : Blk w b cs T) (hT : OffT T) : ¬ ownL lb sb hl N b := by
  obtain ⟨a, c, wk, hs⟩ := h.s
  obtain ⟨t1, t2, t3, t4, t5, t6, t7⟩ := hT
  rintro (e | e | e | e)
  · exact hb'.ne h.l t5 e
  · exact hb'.ne hs t6 e
  · rcases List.mem_cons.1 e with rfl | e
    · obtain ⟨es, e1, _⟩ := h.n.hlk
      exact hb'.ne e1 t2 rfl
    · obtain ⟨y, hy, rfl⟩ := List.mem_map.1 e
      obtain ⟨es, e1, _⟩ := h.n.lks y hy
      exact hb'.ne e1 t2 rfl
  · obtain ⟨y, hy, rfl⟩ := List.mem_map.1 e
    exact hb'.ne (h.n.nd y hy) t1 rfl
/-- A CALL THAT CHANGES A LIST. -/
structure DoR (w w' : World) (lb hb sb hl sb' cb' : Nat) (N N' : List Nd) : Prop where
  q : Skp w' lb hb sb' hl cb' N'
  ns : w.heap.size ≤ sb'
  fr : Frm w w' (ownL lb sb hl N)
  gr : Grw w.heap.size N N'

set_option maxHeartbeats 4000000 in
theorem do_put (lb hb sb hl cb kb vb ib h : Nat) (v : Int) (N : List Nd) (k : ByteArray) (w : World) (hq : Skp w lb hb sb hl cb N) (hN : N.length < 9000000000000000000) (k1 : Blk w kb #[.string k] 9) (k2 : Blk w vb #[.int .i64 v] 2) (k3 : Blk w ib #[.int .i64 (h : Nat)] 3) (hh : 1 ≤ h ∧ h ≤ 16) :
    Calls Try.prog 44 #[ptr1 lb, .func (.func 80) #[] #[ptr1 kb, ptr1 vb, ptr1 ib]] w fun e w' => ∃ (a sb' cb' : Nat) (N' : List Nd), e = .returned (.agg #[.int .u64 (a : Nat), .bool (getE (ensN N) k).isSome, .int .i64 (wasV (ensN N) k)]) ∧ DoR w w' lb hb sb hl sb' cb' N N' ∧ ensN N' = putE (ensN N) k v h := by
  obtain ⟨aX, aB, aS⟩ := blk_new w #[.int .u64 0, .bool false, .int .i64 0] 113
  have C1 : Hid (Calls _ _ _ _ _) := take_put lb hb sb hl cb kb vb ib h v N k (w.alloc (.cells #[.int .u64 0, .bool false, .int .i64 0] 113)) (hq.on aB) hN (k1.on aB) (k2.on aB) (k3.on aB) hh
  have HX : Hid (Blk (w.alloc (.cells #[.int .u64 0, .bool false, .int .i64 0] 113)) w.heap.size #[.int .u64 0, .bool false, .int .i64 0] 113 ∧ Below w.heap.size w (w.alloc (.cells #[.int .u64 0, .bool false, .int .i64 0] 113))) := ⟨aX, aB⟩
  have HQ : Hid (Skp (w.alloc (.cells #[.int .u64 0, .bool false, .int .i64 0] 113)) lb hb sb hl cb N) := hq.on aB
  clear hq aX aB aS hN
  go_enter Try.func44, Try.ntmps44
  go_wp2_with fail
  generalize (w.alloc (.cells #[.int .u64 0, .bool false, .int .i64 0] 113)) = w0 at *
  refine C1.out.mono ?_
  rintro e w5 ⟨sb', cb', N', rfl, hT, hE⟩
  obtain ⟨a, c, wk, hs⟩ := hT.q.s
  obtain ⟨n, ls, vs, hc⟩ := hT.c
  have hdr : Below w5.heap.size w5 w5.drew := (Below.refl _ _).drew
  have HE : Hid (ensN N' = putE (ensN N) k v h) := hE
  have HA : Hid (w5.drew.cell? ⟨sb', 0, none⟩ = some (.int .u64 (a : Nat)) ∧ w5.drew.cell? ⟨cb', 1, none⟩ = some (.bool (getE (ensN N) k).isSome) ∧ w5.drew.cell? ⟨cb', 0, none⟩ = some (.int .i64 (wasV (ensN N) k))) := ⟨Blk.cell (i := 0) hs rfl, Blk.cell (i := 1) hc rfl, Blk.cell (i := 0) hc rfl⟩
  have HR : Hid (Blk w5.drew w.heap.size #[.int .u64 0, .bool false, .int .i64 0] 113) := (HX.out.1.frm hT.fr (ownL_off HQ.out HX.out.1 (by decide))).on hdr
  have HT : Hid (Skp w5.drew lb hb sb' hl cb' N' ∧ w.heap.size ≤ sb' ∧ Frm w w5.drew (ownL lb sb hl N) ∧ Grw w.heap.size N N') := by
    refine ⟨hT.q.on hdr, Nat.le_trans HX.out.2.size hT.ns, ((Frm.of_below (F := ownL lb sb hl N) HX.out.2).trans hT.fr (fun k hk => .inl hk)).drew, fun x hx => ?_⟩
    rcases hT.gr x hx with h9 | ⟨h9, h8⟩
    · exact .inl h9
    · exact .inr ⟨Nat.le_trans HX.out.2.size h9, Nat.le_trans HX.out.2.size h8⟩
  clear hT hs hc hdr hE C1 HX HQ
  obtain ⟨bb, hbb⟩ : ∃ bb, (getE (ensN N) k).isSome = bb := ⟨_, rfl⟩
  obtain ⟨ww, hww⟩ : ∃ ww, wasV (ensN N) k = ww := ⟨_, rfl⟩
  rw [hbb, hww] at HA
  have HBB : Hid ((getE (ensN N) k).isSome = bb ∧ wasV (ensN N) k = ww) := ⟨hbb, hww⟩
  clear hbb hww
  go_upto_region 2 with fail
  refine wp_region_any (by kernel_rfl) ?_
  change wpAny _ _ _ _ _ _ _ (World.drew _)
  generalize w5.drew = wd at *
  refine tk (v := ?_) 0 rfl ?_ ?_
  rotate_left
  focus
    intro w9
    go_simp
    try with_reducible rfl
  try simp only [aP]
  refine tk (v := ?_) 1 rfl ?_ ?_
  rotate_left
  focus
    intro w9
    go_simp
    try with_reducible rfl
  try simp only [aP]
  refine tk (v := ?_) 2 rfl ?_ ?_
  rotate_left
  focus
    intro w9
    go_simp
    try with_reducible rfl
  try simp only [aP]
  refine tk (v := ?_) 4 rfl ?_ ?_
  rotate_left
  focus
    intro w9
    go_simp
    try with_reducible rfl
  try simp only [aP]
  refine tk (v := ?_) 5 rfl ?_ ?_
  rotate_left
  focus
    intro w9
    go_simp
    try with_reducible rfl
  try simp only [aP]
  refine tk (v := ?_) 6 rfl ?_ ?_
  rotate_left
  focus
    intro w9
    go_simp
    try with_reducible rfl
  try simp only [aP]
  refine tk (v := ?_) 8 rfl ?_ ?_
  rotate_left
  focus
    intro w9
    go_simp
    try with_reducible rfl
  try simp only [aP]
  refine tk (v := ?_) 9 rfl ?_ ?_
  rotate_left
  focus
    intro w9
    go_simp
    try with_reducible rfl
  try simp only [aP]
  refine tk (v := ?_) 10 rfl ?_ ?_
  rotate_left
  focus
    intro w9
    go_simp
    try with_reducible rfl
  try simp only [aP]
  apply later0
  intro hs3_7_11
  apply later0
  intro hs7_11
  apply later0
  intro hs3_11
  apply later0
  intro hs3_7
  apply later0
  intro hs11
  apply later0
  intro hs7
  apply later0
  intro hs3
  · obtain ⟨s0, c1, c0⟩ := HA.out
    refine wpAny_ready (rs := [3, 7, 11]) (by kernel_rfl) (by simp) ?_
    refine anyN_cons 3 rfl (by rfl) (fun K hK => ?_) (anyN_cons 7 rfl (by rfl) (fun K hK => ?_) (anyN_cons 11 rfl (by rfl) (fun K hK => ?_) AllReady.nil))
    · go_simp
      refine hK.out _ _ ?_
      clear hK K
      try simp only [aP]
      exact hs3
    · go_simp
      refine hK.out _ _ ?_
      clear hK K
      try simp only [aP]
      exact hs7
    · go_simp
      refine hK.out _ _ ?_
      clear hK K
      try simp only [aP]
      exact hs11
  · obtain ⟨s0, c1, c0⟩ := HA.out
    refine wpAny_ready (rs := [7, 11]) (by kernel_rfl) (by simp) ?_
    refine anyN_cons 7 rfl (by rfl) (fun K hK => ?_) (anyN_cons 11 rfl (by rfl) (fun K hK => ?_) AllReady.nil)
    · go_simp
      refine hK.out _ _ ?_
      clear hK K
      try simp only [aP]
      exact hs3_7
    · go_simp
      refine hK.out _ _ ?_
      clear hK K
      try simp only [aP]
      exact hs3_11
  · obtain ⟨s0, c1, c0⟩ := HA.out
    refine wpAny_ready (rs := [3, 11]) (by kernel_rfl) (by simp) ?_
    refine anyN_cons 3 rfl (by rfl) (fun K hK => ?_) (anyN_cons 11 rfl (by rfl) (fun K hK => ?_) AllReady.nil)
    · go_simp
      refine hK.out _ _ ?_
      clear hK K
      try simp only [aP]
      exact hs3_7
    · go_simp
      refine hK.out _ _ ?_
      clear hK K
      try simp only [aP]
      exact hs7_11
  · obtain ⟨s0, c1, c0⟩ := HA.out
    refine wpAny_ready (rs := [3, 7]) (by kernel_rfl) (by simp) ?_
    refine anyN_cons 3 rfl (by rfl) (fun K hK => ?_) (anyN_cons 7 rfl (by rfl) (fun K hK => ?_) AllReady.nil)
    · go_simp
      refine hK.out _ _ ?_
      clear hK K
      try simp only [aP]
      exact hs3_11
    · go_simp
      refine hK.out _ _ ?_
      clear hK K
      try simp only [aP]
      exact hs7_11
  · obtain ⟨s0, c1, c0⟩ := HA.out
    refine wpAny_ready (rs := [11]) (by kernel_rfl) (by simp) ?_
    refine anyN_cons 11 rfl (by rfl) (fun K hK => ?_) AllReady.nil
    go_simp
    refine hK.out _ _ ?_
    clear hK K
    try simp only [aP]
    exact hs3_7_11
  · obtain ⟨s0, c1, c0⟩ := HA.out
    refine wpAny_ready (rs := [7]) (by kernel_rfl) (by simp) ?_
    refine anyN_cons 7 rfl (by rfl) (fun K hK => ?_) AllReady.nil
    go_simp
    refine hK.out _ _ ?_
    clear hK K
    try simp only [aP]
    exact hs3_7_11
  · obtain ⟨s0, c1, c0⟩ := HA.out
    refine wpAny_ready (rs := [3]) (by kernel_rfl) (by simp) ?_
    refine anyN_cons 3 rfl (by rfl) (fun K hK => ?_) AllReady.nil
    go_simp
    refine hK.out _ _ ?_
    clear hK K
    try simp only [aP]
    exact hs3_7_11
  · obtain ⟨s0, c1, c0⟩ := HA.out
    refine tk (v := ?_) 12 rfl ?_ ?_
    rotate_left
    focus
      intro w9
      go_simp
      try with_reducible rfl
    try simp only [aP]
    have hr9 := HR.out
    have x0 := Blk.cell (i := 0) hr9 rfl
    have x1 := Blk.cell (i := 1) hr9 rfl
    have x2 := Blk.cell (i := 2) hr9 rfl
    have f0 := hr9.frozen 0
    have f1 := hr9.frozen 1
    have f2 := hr9.frozen 2
    have hr10 := ((hr9.set 0 (.int .u64 (a : Nat))).set 1 (.bool bb)).set 2 (.int .i64 ww)
    have q0 := Blk.cell (i := 0) hr10 rfl
    have q1 := Blk.cell (i := 1) hr10 rfl
    have q2 := Blk.cell (i := 2) hr10 rfl
    have hf6 : Frm wd (((wd.setCell ⟨w.heap.size, 0, none⟩ (.int .u64 (a : Nat))).setCell ⟨w.heap.size, 1, none⟩ (.bool bb)).setCell ⟨w.heap.size, 2, none⟩ (.int .i64 ww)) (one1 w.heap.size) := ((frm_set wd _ 0 _ (F := one1 w.heap.size) (.inl rfl)).trans (frm_set _ _ 1 _ (F := one1 w.heap.size) (.inl rfl)) (fun k hk => .inl hk)).trans (frm_set _ _ 2 _ (F := one1 w.heap.size) (.inl rfl)) (fun k hk => .inl hk)
    have HK : Hid (DoR w (((wd.setCell ⟨w.heap.size, 0, none⟩ (.int .u64 (a : Nat))).setCell ⟨w.heap.size, 1, none⟩ (.bool bb)).setCell ⟨w.heap.size, 2, none⟩ (.int .i64 ww)) lb hb sb hl sb' cb' N N') := ⟨HT.out.1.frm1 hr9 hf6 (by decide), HT.out.2.1, (HT.out.2.2.1).trans hf6 (fun k hk => .inr (Nat.le_of_eq hk.symm)), HT.out.2.2.2⟩
    clear hr9 hr10 hf6
    refine wpAny_ready (rs := [13]) (by kernel_rfl) (by simp) ?_
    refine anyN_cons 13 rfl (by rfl) (fun K hK => ?_) AllReady.nil
    go_simp
    refine hK.out _ _ ?_
    clear hK K
    try simp only [aP]
    refine wpAny_done (by kernel_rfl) ?_ _
    go_wp2_with fail
    refine bodyPost_ret (v := .agg #[.int .u64 (a : Nat), .bool bb, .int .i64 ww]) (by simp [results, Try.results44, go_sem, q0, q1, q2]) rfl ?_
    exact ⟨a, sb', cb', N', by rw [HBB.out.1, HBB.out.2], HK.out, HE.out⟩

set_option maxHeartbeats 4000000 in
theorem do_del (lb hb sb hl cb kb : Nat) (N : List Nd) (k : ByteArray) (w : World) (hq : Skp w lb hb sb hl cb N) (hN : N.length < 9000000000000000000) (k1 : Blk w kb #[.string k] 9) :
    Calls Try.prog 44 #[ptr1 lb, .func (.func 85) #[] #[ptr1 kb]] w fun e w' => ∃ (a sb' cb' : Nat) (N' : List Nd), e = .returned (.agg #[.int .u64 (a : Nat), .bool (getE (ensN N) k).isSome, .int .i64 (wasV (ensN N) k)]) ∧ DoR w w' lb hb sb hl sb' cb' N N' ∧ ensN N' = delE (ensN N) k := by
  obtain ⟨aX, aB, aS⟩ := blk_new w #[.int .u64 0, .bool false, .int .i64 0] 113
  have C1 : Hid (Calls _ _ _ _ _) := take_del lb hb sb hl cb kb N k (w.alloc (.cells #[.int .u64 0, .bool false, .int .i64 0] 113)) (hq.on aB) hN (k1.on aB)
  have HX : Hid (Blk (w.alloc (.cells #[.int .u64 0, .bool false, .int .i64 0] 113)) w.heap.size #[.int .u64 0, .bool false, .int .i64 0] 113 ∧ Below w.heap.size w (w.alloc (.cells #[.int .u64 0, .bool false, .int .i64 0] 113))) := ⟨aX, aB⟩
  have HQ : Hid (Skp (w.alloc (.cells #[.int .u64 0, .bool false, .int .i64 0] 113)) lb hb sb hl cb N) := hq.on aB
  clear hq aX aB aS hN
  go_enter Try.func44, Try.ntmps44
  go_wp2_with fail
  generalize (w.alloc (.cells #[.int .u64 0, .bool false, .int .i64 0] 113)) = w0 at *
  refine C1.out.mono ?_
  rintro e w5 ⟨sb', cb', N', rfl, hT, hE⟩
  obtain ⟨a, c, wk, hs⟩ := hT.q.s
  obtain ⟨n, ls, vs, hc⟩ := hT.c
  have hdr : Below w5.heap.size w5 w5.drew := (Below.refl _ _).drew
  have HE : Hid (ensN N' = delE (ensN N) k) := hE
  have HA : Hid (w5.drew.cell? ⟨sb', 0, none⟩ = some (.int .u64 (a : Nat)) ∧ w5.drew.cell? ⟨cb', 1, none⟩ = some (.bool (getE (ensN N) k).isSome) ∧ w5.drew.cell? ⟨cb', 0, none⟩ = some (.int .i64 (wasV (ensN N) k))) := ⟨Blk.cell (i := 0) hs rfl, Blk.cell (i := 1) hc rfl, Blk.cell (i := 0) hc rfl⟩
  have HR : Hid (Blk w5.drew w.heap.size #[.int .u64 0, .bool false, .int .i64 0] 113) := (HX.out.1.frm hT.fr (ownL_off HQ.out HX.out.1 (by decide))).on hdr
  have HT : Hid (Skp w5.drew lb hb sb' hl cb' N' ∧ w.heap.size ≤ sb' ∧ Frm w w5.drew (ownL lb sb hl N) ∧ Grw w.heap.size N N') := by
    refine ⟨hT.q.on hdr, Nat.le_trans HX.out.2.size hT.ns, ((Frm.of_below (F := ownL lb sb hl N) HX.out.2).trans hT.fr (fun k hk => .inl hk)).drew, fun x hx => ?_⟩
    rcases hT.gr x hx with h9 | ⟨h9, h8⟩
    · exact .inl h9
    · exact .inr ⟨Nat.le_trans HX.out.2.size h9, Nat.le_trans HX.out.2.size h8⟩
  clear hT hs hc hdr hE C1 HX HQ
  obtain ⟨bb, hbb⟩ : ∃ bb, (getE (ensN N) k).isSome = bb := ⟨_, rfl⟩
  obtain ⟨ww, hww⟩ : ∃ ww, wasV (ensN N) k = ww := ⟨_, rfl⟩
  rw [hbb, hww] at HA
  have HBB : Hid ((getE (ensN N) k).isSome = bb ∧ wasV (ensN N) k = ww) := ⟨hbb, hww⟩
  clear hbb hww
  go_upto_region 2 with fail
  refine wp_region_any (by kernel_rfl) ?_
  change wpAny _ _ _ _ _ _ _ (World.drew _)
  generalize w5.drew = wd at *
  refine tk (v := ?_) 0 rfl ?_ ?_
  rotate_left
  focus
    intro w9
    go_simp
    try with_reducible rfl
  try simp only [aP]
  refine tk (v := ?_) 1 rfl ?_ ?_
  rotate_left
  focus
    intro w9
    go_simp
    try with_reducible rfl
  try simp only [aP]
  refine tk (v := ?_) 2 rfl ?_ ?_
  rotate_left
  focus
    intro w9
    go_simp
    try with_reducible rfl
  try simp only [aP]
  refine tk (v := ?_) 4 rfl ?_ ?_
  rotate_left
  focus
    intro w9
    go_simp
    try with_reducible rfl
  try simp only [aP]
  refine tk (v := ?_) 5 rfl ?_ ?_
  rotate_left
  focus
    intro w9
    go_simp
    try with_reducible rfl
  try simp only [aP]
  refine tk (v := ?_) 6 rfl ?_ ?_
  rotate_left
  focus
    intro w9
    go_simp
    try with_reducible rfl
  try simp only [aP]
  refine tk (v := ?_) 8 rfl ?_ ?_
  rotate_left
  focus
    intro w9
    go_simp
    try with_reducible rfl
  try simp only [aP]
  refine tk (v := ?_) 9 rfl ?_ ?_
  rotate_left
  focus
    intro w9
    go_simp
    try with_reducible rfl
  try simp only [aP]
  refine tk (v := ?_) 10 rfl ?_ ?_
  rotate_left
  focus
    intro w9
    go_simp
    try with_reducible rfl
  try simp only [aP]
  apply later0
  intro hs3_7_11
  apply later0
  intro hs7_11
  apply later0
  intro hs3_11
  apply later0
  intro hs3_7
  apply later0
  intro hs11
  apply later0
  intro hs7
  apply later0
  intro hs3
  · obtain ⟨s0, c1, c0⟩ := HA.out
    refine wpAny_ready (rs := [3, 7, 11]) (by kernel_rfl) (by simp) ?_
    refine anyN_cons 3 rfl (by rfl) (fun K hK => ?_) (anyN_cons 7 rfl (by rfl) (fun K hK => ?_) (anyN_cons 11 rfl (by rfl) (fun K hK => ?_) AllReady.nil))
    · go_simp
      refine hK.out _ _ ?_
      clear hK K
      try simp only [aP]
      exact hs3
    · go_simp
      refine hK.out _ _ ?_
      clear hK K
      try simp only [aP]
      exact hs7
    · go_simp
      refine hK.out _ _ ?_
      clear hK K
      try simp only [aP]
      exact hs11
  · obtain ⟨s0, c1, c0⟩ := HA.out
    refine wpAny_ready (rs := [7, 11]) (by kernel_rfl) (by simp) ?_
    refine anyN_cons 7 rfl (by rfl) (fun K hK => ?_) (anyN_cons 11 rfl (by rfl) (fun K hK => ?_) AllReady.nil)
    · go_simp
      refine hK.out _ _ ?_
      clear hK K
      try simp only [aP]
      exact hs3_7
    · go_simp
      refine hK.out _ _ ?_
      clear hK K
      try simp only [aP]
      exact hs3_11
  · obtain ⟨s0, c1, c0⟩ := HA.out
    refine wpAny_ready (rs := [3, 11]) (by kernel_rfl) (by simp) ?_
    refine anyN_cons 3 rfl (by rfl) (fun K hK => ?_) (anyN_cons 11 rfl (by rfl) (fun K hK => ?_) AllReady.nil)
    · go_simp
      refine hK.out _ _ ?_
      clear hK K
      try simp only [aP]
      exact hs3_7
    · go_simp
      refine hK.out _ _ ?_
      clear hK K
      try simp only [aP]
      exact hs7_11
  · obtain ⟨s0, c1, c0⟩ := HA.out
    refine wpAny_ready (rs := [3, 7]) (by kernel_rfl) (by simp) ?_
    refine anyN_cons 3 rfl (by rfl) (fun K hK => ?_) (anyN_cons 7 rfl (by rfl) (fun K hK => ?_) AllReady.nil)
    · go_simp
      refine hK.out _ _ ?_
      clear hK K
      try simp only [aP]
      exact hs3_11
    · go_simp
      refine hK.out _ _ ?_
      clear hK K
      try simp only [aP]
      exact hs7_11
  · obtain ⟨s0, c1, c0⟩ := HA.out
    refine wpAny_ready (rs := [11]) (by kernel_rfl) (by simp) ?_
    refine anyN_cons 11 rfl (by rfl) (fun K hK => ?_) AllReady.nil
    go_simp
    refine hK.out _ _ ?_
    clear hK K
    try simp only [aP]
    exact hs3_7_11
  · obtain ⟨s0, c1, c0⟩ := HA.out
    refine wpAny_ready (rs := [7]) (by kernel_rfl) (by simp) ?_
    refine anyN_cons 7 rfl (by rfl) (fun K hK => ?_) AllReady.nil
    go_simp
    refine hK.out _ _ ?_
    clear hK K
    try simp only [aP]
    exact hs3_7_11
  · obtain ⟨s0, c1, c0⟩ := HA.out
    refine wpAny_ready (rs := [3]) (by kernel_rfl) (by simp) ?_
    refine anyN_cons 3 rfl (by rfl) (fun K hK => ?_) AllReady.nil
    go_simp
    refine hK.out _ _ ?_
    clear hK K
    try simp only [aP]
    exact hs3_7_11
  · obtain ⟨s0, c1, c0⟩ := HA.out
    refine tk (v := ?_) 12 rfl ?_ ?_
    rotate_left
    focus
      intro w9
      go_simp
      try with_reducible rfl
    try simp only [aP]
    have hr9 := HR.out
    have x0 := Blk.cell (i := 0) hr9 rfl
    have x1 := Blk.cell (i := 1) hr9 rfl
    have x2 := Blk.cell (i := 2) hr9 rfl
    have f0 := hr9.frozen 0
    have f1 := hr9.frozen 1
    have f2 := hr9.frozen 2
    have hr10 := ((hr9.set 0 (.int .u64 (a : Nat))).set 1 (.bool bb)).set 2 (.int .i64 ww)
    have q0 := Blk.cell (i := 0) hr10 rfl
    have q1 := Blk.cell (i := 1) hr10 rfl
    have q2 := Blk.cell (i := 2) hr10 rfl
    have hf6 : Frm wd (((wd.setCell ⟨w.heap.size, 0, none⟩ (.int .u64 (a : Nat))).setCell ⟨w.heap.size, 1, none⟩ (.bool bb)).setCell ⟨w.heap.size, 2, none⟩ (.int .i64 ww)) (one1 w.heap.size) := ((frm_set wd _ 0 _ (F := one1 w.heap.size) (.inl rfl)).trans (frm_set _ _ 1 _ (F := one1 w.heap.size) (.inl rfl)) (fun k hk => .inl hk)).trans (frm_set _ _ 2 _ (F := one1 w.heap.size) (.inl rfl)) (fun k hk => .inl hk)
    have HK : Hid (DoR w (((wd.setCell ⟨w.heap.size, 0, none⟩ (.int .u64 (a : Nat))).setCell ⟨w.heap.size, 1, none⟩ (.bool bb)).setCell ⟨w.heap.size, 2, none⟩ (.int .i64 ww)) lb hb sb hl sb' cb' N N') := ⟨HT.out.1.frm1 hr9 hf6 (by decide), HT.out.2.1, (HT.out.2.2.1).trans hf6 (fun k hk => .inr (Nat.le_of_eq hk.symm)), HT.out.2.2.2⟩
    clear hr9 hr10 hf6
    refine wpAny_ready (rs := [13]) (by kernel_rfl) (by simp) ?_
    refine anyN_cons 13 rfl (by rfl) (fun K hK => ?_) AllReady.nil
    go_simp
    refine hK.out _ _ ?_
    clear hK K
    try simp only [aP]
    refine wpAny_done (by kernel_rfl) ?_ _
    go_wp2_with fail
    refine bodyPost_ret (v := .agg #[.int .u64 (a : Nat), .bool bb, .int .i64 ww]) (by simp [results, Try.results44, go_sem, q0, q1, q2]) rfl ?_
    exact ⟨a, sb', cb', N', by rw [HBB.out.1, HBB.out.2], HK.out, HE.out⟩

end Go.Proofs.Ytojfohpnfciajaa
