/- Layer 12: a Delete is done. Layer 12: what a Put and a Delete make of a list. -/
import Derived.Test.YtojfohpnfciajaaGWSkp19
namespace Go.Proofs.Ytojfohpnfciajaa
open Go.RowKit
set_option maxRecDepth 100000

/-- A DELETE IS DONE. -/
def DelF (w w' : World) (hb sb hl m a : Nat) (wk : Value) (N : List Nd) (k : ByteArray) (c : Int) (g : Nat) : Prop :=
  ∃ N' was there n ls vs, Blk w' g (chC was there n ls vs) 93 ∧ Blk w' sb #[.int .u64 (a : Nat), .int .i64 c, wk, ptr1 g, .int .u32 1] 82 ∧ SkF w' hb hl N' (ldF N') ∧ Frm w w' (finF sb hl N) ∧
    ((getN N m k = none ∧ was = 0 ∧ there = false ∧ n = c ∧ N' = N) ∨
     (∃ hm : m < N.length, N[m].e.k = k ∧ was = N[m].e.v ∧ there = true ∧ n = c - 1 ∧ N' = N.eraseIdx m))

set_option maxHeartbeats 4000000 in
theorem finish_del (lb hb sb hl m kb a : Nat) (N : List Nd) (k : ByteArray) (c : Int) (w : World) (hv : LstB w lb hb sb) (hs : Blk w sb #[.int .u64 (a : Nat), .int .i64 c, .func (.func 85) #[] #[ptr1 kb], .pointer none, .int .u32 0] 82) (hc0 : 0 ≤ c) (hc1 : c < 9000000000000000000) (hf : SkF w hb hl N (ldF N)) (hm : m ≤ N.length) (h1 : ∀ i (hi : i < N.length), i < m → ltB N[i].e.k k = true) (h2 : ∀ i (hi : i < N.length), m ≤ i → ltB N[i].e.k k = false)
    (k1 : Blk w kb #[.string k] 9) :
    Calls Try.prog 29 #[ptr1 lb, ptr1 sb] w fun e w' => ∃ g, e = .returned (ptr1 g) ∧ DelF w w' hb sb hl m a (.func (.func 85) #[] #[ptr1 kb]) N k c g := by
  have C1 : Hid (Calls _ _ _ _ _) := loadCh sb 3 none w (Blk.cell (i := 3) hs rfl) (PtT.nil _ _ _)
  have hdr : Below w.heap.size w w.drew := (Below.refl _ _).drew
  have HS : Hid (Blk w.drew sb #[.int .u64 (a : Nat), .int .i64 c, .func (.func 85) #[] #[ptr1 kb], .pointer none, .int .u32 0] 82) := hs.on hdr
  have HF : Hid (SkF w.drew hb hl N (ldF N)) := hf.on hdr
  have C2 : Hid (Calls Try.prog 85 #[.agg #[ptr1 lb, ptr1 sb], ptr1 kb] w.drew fun e w' => ∃ g, e = .returned (ptr1 g) ∧ DelR w.drew w' hl m N k c g) := deleting_any lb hb sb hl m kb N k c w.drew ⟨Blk.on hv hdr, PtT.blk (hs.on hdr) rfl⟩ (Blk.cell (i := 1) hs rfl) hc0 hc1 (hf.on hdr) hm h1 h2 (k1.on hdr)
  have HM : Hid (m ≤ N.length) := hm
  have HD : Hid (Frm w w.drew none1 ∧ w.drew.heap.size = w.heap.size) := ⟨Frm.of_below hdr, rfl⟩
  clear hv hs hf h1 h2 k1 hm hdr hc0 hc1
  go_enter Try.func29, Try.ntmps29
  go_wp2_with fail
  refine C1.out.mono ?_
  rintro e w9 ⟨rfl, hw9⟩
  rw [hw9]
  clear hw9 C1
  go_upto_region 3 with fail
  refine wp_region_any (by kernel_rfl) ?_
  change wpAny _ _ _ _ _ _ _ (World.drew _)
  generalize w.drew = wd at *
  refine tk (v := ?_) 0 rfl ?_ ?_
  rotate_left
  focus
    intro w9
    go_simp
    try with_reducible rfl
  try simp only [aP]
  refine tk (v := ?_) 1 rfl ?_ ?_
  rotate_left
  focus
    intro w9
    go_simp
    try with_reducible rfl
  try simp only [aP]
  refine tk (v := ?_) 2 rfl ?_ ?_
  rotate_left
  focus
    intro w9
    go_simp
    try with_reducible rfl
  try simp only [aP]
  refine tk (v := ?_) 3 rfl ?_ ?_
  rotate_left
  focus
    intro w9
    go_simp
    try with_reducible rfl
  try simp only [aP]
  refine tk (v := ?_) 4 rfl ?_ ?_
  rotate_left
  focus
    intro w9
    go_simp
    try with_reducible rfl
  try simp only [aP]
  refine tk (v := ?_) 5 rfl ?_ ?_
  rotate_left
  focus
    intro w9
    go_simp
    try with_reducible rfl
  try simp only [aP]
  refine tk (v := ?_) 7 rfl ?_ ?_
  rotate_left
  focus
    intro w9
    go_simp
    try with_reducible rfl
  try simp only [aP]
  refine tk (v := ?_) 8 rfl ?_ ?_
  rotate_left
  focus
    intro w9
    go_simp
    try with_reducible rfl
  try simp only [aP]
  refine tk (v := ?_) 9 rfl ?_ ?_
  rotate_left
  focus
    intro w9
    go_simp
    try with_reducible rfl
  try simp only [aP]
  have s2 := Blk.cell (i := 2) HS.out rfl
  refine wpAny_ready (rs := [6]) (by kernel_rfl) (by simp) ?_
  refine anyN_cons 6 rfl (by rfl) (fun K hK => ?_) AllReady.nil
  go_simp
  refine hK.out _ _ ?_
  clear hK K
  try simp only [aP]
  clear s2
  refine wpAny_ready (rs := [10]) (by kernel_rfl) (by simp) ?_
  refine anyN_cons 10 rfl (by rfl) (fun K hK => ?_) AllReady.nil
  go_simp
  refine C2.out.mono ?_
  rintro e w1 ⟨g, rfl, hR⟩
  dsimp only
  have HR : Hid (DelR wd w1 hl m N k c g) := hR
  clear hR
  refine hK.out _ _ ?_
  clear hK K
  try simp only [aP]
  refine wpAny_ready (rs := [11]) (by kernel_rfl) (by simp) ?_
  refine anyN_cons 11 rfl (by rfl) (fun K hK => ?_) AllReady.nil
  go_simp
  refine (casCh sb 3 none (some ⟨g, 0, none⟩) w1 (Blk.cell (i := 3) (HS.out.on HR.out.bel) rfl) ((HS.out.on HR.out.bel).frozen 3) (PtT.nil _ _ _) HR.out.ptt).mono ?_
  rintro e w2 ⟨rfl, hw2⟩
  dsimp only
  have HW2 : Hid (w2 = w1.setCell ⟨sb, 3, none⟩ (ptr1 g)) := hw2
  clear hw2
  refine hK.out _ _ ?_
  clear hK K
  try simp only [aP]
  refine wpAny_done (by kernel_rfl) ?_ _
  rcases HR.out with ⟨hn8, hg8, hg9, hb8⟩ | ⟨hm8, ls, S, hk8, hg8, ho8, hw8, hS8, hn8, hb8⟩
  · have hoff : OffS w1 (one1 sb) := OffS.one (HS.out.on hb8) (by decide)
    have hst1 := HS.out.on hb8
    have HF2 : Hid (SkF w2 hb hl N (ldF N) ∧ Frm wd w2 (one1 sb)) := by
      show SkF _ _ _ _ _ ∧ _
      rw [HW2.out]
      exact ⟨(HF.out.on hb8).frm (frm_set _ _ _ _ (F := one1 sb) (.inl rfl)) hoff, (Frm.of_below (F := one1 sb) hb8).trans (frm_set _ _ _ _ (F := one1 sb) (.inl rfl)) (fun k hk => .inl hk)⟩
    have HS2 : Hid (Blk w2 sb #[.int .u64 (a : Nat), .int .i64 c, .func (.func 85) #[] #[ptr1 kb], ptr1 g, .int .u32 0] 82) := by
      show Blk _ _ _ _
      rw [HW2.out]
      exact hst1.set 3 _
    have HC2 : Hid (Blk w2 g (chC 0 false c (.slice none 0 0) (.slice none 0 0)) 93) := by
      show Blk _ _ _ _
      rw [HW2.out]
      exact hg8.other (hg8.ne hst1 (by decide)) 3 _
    have HG8 : Hid (getN N m k = none) := hn8
    clear hoff hst1 hg8 hn8 hg9 hb8 HS HF HW2
    have C4 : Hid (Calls _ _ _ _ _) := loadCh sb 3 (some ⟨g, 0, none⟩) w2 (Blk.cell (i := 3) HS2.out rfl) (PtT.blk HC2.out rfl)
    have C5 : Hid (Calls _ _ _ _ _) := loadBo sb 4 0 w2 (Blk.cell (i := 4) HS2.out rfl)
    have c3 := Blk.cell (i := 3) HC2.out rfl
    go_wp2_with fail
    refine C4.out.mono ?_
    rintro e w9 ⟨rfl, hw9⟩
    rw [hw9]
    clear hw9 C4
    go_wp2_with fail
    refine C5.out.mono ?_
    rintro e w9 ⟨rfl, hw9⟩
    rw [hw9, show ((0 : Int) != 0) = false from rfl]
    clear hw9 C5
    go_wp2_with fail
    clear c3
    go_loopw [42] (fun sx wq => sx = .int .i64 0 ∧ wq = w2) (fun _ _ => 0)
    case atStart => exact ⟨rfl, rfl⟩
    case round =>
      obtain ⟨rfl, hwr⟩ := hrel
      rw [hwr]
      clear hwr
      have c4 := Blk.cell (i := 4) HC2.out rfl
      go_wp2_with fail
      clear c4
      go_loopw [54] (fun sx wq => sx = .int .i64 0 ∧ wq = w2) (fun _ _ => 0)
      case atStart => exact ⟨rfl, rfl⟩
      case round =>
        obtain ⟨rfl, hwr⟩ := hrel
        rw [hwr]
        clear hwr
        go_wp2_with fail
        refine (storeBo sb 4 0 w2 (Blk.cell (i := 4) HS2.out rfl) (HS2.out.frozen 4)).mono ?_
        rintro e w8 ⟨rfl, hw8⟩
        have hdr : Below w2.heap.size w2 w2.drew := (Below.refl _ _).drew
        have HK : Hid (DelF w w8 hb sb hl m a (.func (.func 85) #[] #[ptr1 kb]) N k c g) := by
          show DelF _ _ _ _ _ _ _ _ _ _ _ _
          have hst := HS2.out.on hdr
          refine ⟨N, 0, false, c, .slice none 0 0, .slice none 0 0, ?_, ?_, ?_, ?_, .inl ⟨HG8.out, rfl, rfl, rfl, rfl⟩⟩
          · rw [hw8]
            exact (HC2.out.on hdr).other ((HC2.out.on hdr).ne hst (by decide)) 4 _
          · rw [hw8]
            exact hst.set 4 _
          · rw [hw8]
            exact (HF2.out.1.on hdr).frm (frm_set _ _ _ _ (F := one1 sb) (.inl rfl)) (OffS.one hst (by decide))
          · have hf1 : Frm w w2 (finF sb hl N) := (HD.out.1.mono (G := finF sb hl N) (fun k hk => hk.elim)).trans HF2.out.2 (fun k hk => .inl (.inl hk))
            have hf2 : Frm w w2.drew (finF sb hl N) := hf1.drew
            rw [hw8]
            exact hf2.trans (frm_set _ _ _ _ (F := one1 sb) (.inl rfl)) (fun k hk => .inl (.inl hk))
        clear hw8 hdr
        go_wp2_with fail
        go_ret
        exact ⟨_, rfl, HK.out⟩
  · have hhp : 1 ≤ N[m].e.h ∧ N[m].e.h ≤ 16 := HF.out.ht _ (List.getElem_mem hm8)
    obtain ⟨gg, cap, rfl, -, -⟩ := owns_form ho8 (by omega)
    obtain ⟨ov, hov⟩ : ∃ ov, ov = N[m].e.v := ⟨_, rfl⟩
    obtain ⟨n, hn⟩ : ∃ n, n = N[m].e.h := ⟨_, rfl⟩
    have HMM : Hid (∃ hm : m < N.length, N[m].e.k = k ∧ ov = N[m].e.v ∧ n = N[m].e.h) := ⟨hm8, hk8, hov, hn⟩
    rw [← hov] at hg8
    rw [← hn] at hS8 hhp
    have hoff : OffS w1 (one1 sb) := OffS.one (HS.out.on hb8) (by decide)
    have hst1 := HS.out.on hb8
    have HF2 : Hid (SkF w2 hb hl N (ldF N) ∧ Frm wd w2 (one1 sb)) := by
      show SkF _ _ _ _ _ ∧ _
      rw [HW2.out]
      exact ⟨(HF.out.on hb8).frm (frm_set _ _ _ _ (F := one1 sb) (.inl rfl)) hoff, (Frm.of_below (F := one1 sb) hb8).trans (frm_set _ _ _ _ (F := one1 sb) (.inl rfl)) (fun k hk => .inl hk)⟩
    have HS2 : Hid (Blk w2 sb #[.int .u64 (a : Nat), .int .i64 c, .func (.func 85) #[] #[ptr1 kb], ptr1 g, .int .u32 0] 82) := by
      show Blk _ _ _ _
      rw [HW2.out]
      exact hst1.set 3 _
    have HC2 : Hid (Blk w2 g (chC ov true (c - 1) (.slice (some ⟨gg, 0, none⟩) S.length cap) (.slice none 0 0)) 93) := by
      show Blk _ _ _ _
      rw [HW2.out]
      exact hg8.other (hg8.ne hst1 (by decide)) 3 _
    have HSn : Hid (S.length = n ∧ S.length ≤ 16) := ⟨hS8, by omega⟩
    have HQ0 : Hid (FinS w2 w2 hb sb hl g N m (fun l => tgt l (N.drop (m + 1))) #[.int .u64 (a : Nat), .int .i64 c, .func (.func 85) #[] #[ptr1 kb], ptr1 g, .int .u32 0] (chC ov true (c - 1) (.slice (some ⟨gg, 0, none⟩) S.length cap) (.slice none 0 0)) wd.heap.size (.slice (some ⟨gg, 0, none⟩) S.length cap) S 0) := by
      refine ⟨HS2.out, HC2.out, ?_, ⟨_, HF2.out.1, fun p l _ h9 => absurd h9 (by omega), fun p l _ _ => rfl⟩, fun i _ hi => ?_, Frm.refl _ _⟩
      · show World.ownsRow _ _ _ _ _ _ _
        rw [HW2.out]
        exact World.ownsRow.kept ho8 (grownBy_set w1 sb 3 _) (owns_ne ho8 hst1 (by decide))
      · rw [HW2.out]
        refine (hw8 i hi).set hst1 (by decide) (.inl fun p hp e => ?_)
        obtain ⟨ds, g5, _⟩ := (HF.out.on hb8).lb (by have := HSn.out.2; omega) hp
        exact g5.ne hst1 (by decide) e
    clear hoff hst1 hk8 hg8 ho8 hw8 hn8 hb8 HS HF HW2 hhp hov hn hm8
    rw [hS8] at HC2
    clear hS8
    have C4 : Hid (Calls _ _ _ _ _) := loadCh sb 3 (some ⟨g, 0, none⟩) w2 (Blk.cell (i := 3) HS2.out rfl) (PtT.blk HC2.out rfl)
    have C5 : Hid (Calls _ _ _ _ _) := loadBo sb 4 0 w2 (Blk.cell (i := 4) HS2.out rfl)
    have c3 := Blk.cell (i := 3) HC2.out rfl
    go_wp2_with fail
    refine C4.out.mono ?_
    rintro e w9 ⟨rfl, hw9⟩
    rw [hw9]
    clear hw9 C4
    go_wp2_with fail
    refine C5.out.mono ?_
    rintro e w9 ⟨rfl, hw9⟩
    rw [hw9, show ((0 : Int) != 0) = false from rfl]
    clear hw9 C5
    go_wp2_with fail
    clear c3
    go_loopw [42] (fun sx wq => ∃ j : Nat, j ≤ n ∧ sx = .int .i64 (j : Int) ∧ Hid (FinS w2 wq hb sb hl g N m (fun l => tgt l (N.drop (m + 1))) #[.int .u64 (a : Nat), .int .i64 c, .func (.func 85) #[] #[ptr1 kb], ptr1 g, .int .u32 0] (chC ov true (c - 1) (.slice (some ⟨gg, 0, none⟩) S.length cap) (.slice none 0 0)) wd.heap.size (.slice (some ⟨gg, 0, none⟩) S.length cap) S j)) (fun sx _ => ((n : Int) - intOf sx).toNat)
    case atStart => exact ⟨0, Nat.zero_le _, rfl, HQ0⟩
    case round =>
      obtain ⟨j, hj, rfl, HQ⟩ := hrel
      clear HQ0
      rcases Nat.lt_or_ge j n with h1 | h1
      · have hjS : j < S.length := by have := HSn.out.1; omega
        have hj16 : j < 16 := by have := HSn.out.1; have := HSn.out.2; omega
        obtain ⟨q0, q1, q2⟩ := own_cells HQ.out.ow hjS
        obtain ⟨p, f, t, e, hL, hO, hcl, ⟨x9, hfb⟩, htb⟩ := HQ.out.sw j (Nat.le_refl _) hjS
        rw [e] at q0 q1 q2
        have HP : Hid (LastL j m (ensN N) p ∧ OnL j N p ∧ Blk wr t #[ptrO ((fun l => tgt l (N.drop (m + 1))) j)] 132 ∧ j < 16) := ⟨hL, hO, htb, hj16⟩
        have hlb : ∃ ds, Blk wr (lbOf hl N p) ds 129 := by
          obtain ⟨f9, s9, _⟩ := HQ.out.sk
          obtain ⟨ds, d1, _⟩ := s9.lb hj16 hO
          exact ⟨ds, d1⟩
        obtain ⟨ds, d1⟩ := hlb
        obtain ⟨aX, aB, aS⟩ := blk_new wr #[.pointer (some ⟨lbOf hl N p, j, none⟩), ptr1 f, ptr1 t] 144
        have C6 : Hid (Calls _ _ _ _ _) := doLk (lbOf hl N p) j f t _ (cell_on hcl aB) ((d1.on aB).frozen j) (PtT.blk (hfb.on aB) rfl) (PtT.blk (htb.on aB) rfl)
        have HQa : Hid (FinS w2 (wr.alloc (.cells #[.pointer (some ⟨lbOf hl N p, j, none⟩), ptr1 f, ptr1 t] 144)) hb sb hl g N m (fun l => tgt l (N.drop (m + 1))) #[.int .u64 (a : Nat), .int .i64 c, .func (.func 85) #[] #[ptr1 kb], ptr1 g, .int .u32 0] (chC ov true (c - 1) (.slice (some ⟨gg, 0, none⟩) S.length cap) (.slice none 0 0)) wd.heap.size (.slice (some ⟨gg, 0, none⟩) S.length cap) S j) := HQ.out.keep aB
        have HTb : Hid (Blk (wr.alloc (.cells #[.pointer (some ⟨lbOf hl N p, j, none⟩), ptr1 f, ptr1 t] 144)) t #[ptrO ((fun l => tgt l (N.drop (m + 1))) j)] 132) := htb.on aB
        have z1 : (j : Int) < n := by omega
        have z4 : (j : Int) < 16 := by omega
        dsimp only at q0 q1 q2
        clear hL hO hcl hfb htb d1 aX aB aS e hjS hj16 HQ
        have HLb : Hid (∃ lp, lbOf hl N p = lp) := ⟨_, rfl⟩
        go_wp2_with fail
        refine C6.out.mono ?_
        rintro e w7 ⟨rfl, hw7⟩
        obtain ⟨bX, bB, bS⟩ := blk_new (wr.alloc (.cells #[.pointer (some ⟨lbOf hl N p, j, none⟩), ptr1 f, ptr1 t] 144)) #[.pointer (some ⟨lbOf hl N p, j, none⟩), ptr1 f, ptr1 t] 144
        have HQn : Hid (FinS w2 w7 hb sb hl g N m (fun l => tgt l (N.drop (m + 1))) #[.int .u64 (a : Nat), .int .i64 c, .func (.func 85) #[] #[ptr1 kb], ptr1 g, .int .u32 0] (chC ov true (c - 1) (.slice (some ⟨gg, 0, none⟩) S.length cap) (.slice none 0 0)) wd.heap.size (.slice (some ⟨gg, 0, none⟩) S.length cap) S (j + 1)) := by
          show FinS _ _ _ _ _ _ _ _ _ _ _ _ _ _ _
          rw [hw7]
          exact (HQa.out.keep bB).step HM.out (_f := f) HP.out.2.2.2 HP.out.1 HP.out.2.1 (HTb.out.on bB)
        clear hw7 bX bB bS HQa HTb C6 q0 q1 q2
        go_wp2_with fail
        go_roundw
        case rel => exact ⟨j + 1, by omega, by go_num, HQn⟩
        case measure => simp [intOf]; omega
      · obtain rfl : n = j := by omega
        have z1 : ¬ (n : Int) < n := by omega
        obtain ⟨wz, hwz⟩ : ∃ wz, wz = wr := ⟨_, rfl⟩
        subst hwz
        have c4 := Blk.cell (i := 4) HQ.out.ch rfl
        go_wp2_with fail
        clear c4
        go_loopw [54] (fun sx wq => sx = .int .i64 0 ∧ wq = wz) (fun _ _ => 0)
        case atStart => exact ⟨rfl, rfl⟩
        case round =>
          obtain ⟨rfl, hwr⟩ := hrel
          rw [hwr]
          clear hwr
          go_wp2_with fail
          refine (storeBo sb 4 0 wz (Blk.cell (i := 4) HQ.out.st rfl) (HQ.out.st.frozen 4)).mono ?_
          rintro e w8 ⟨rfl, hw8⟩
          have hdr : Below wz.heap.size wz wz.drew := (Below.refl _ _).drew
          have HK : Hid (DelF w w8 hb sb hl m a (.func (.func 85) #[] #[ptr1 kb]) N k c g) := by
            show DelF _ _ _ _ _ _ _ _ _ _ _ _
            obtain ⟨f, s1, s2, s3⟩ := HQ.out.sk
            have hst := HQ.out.st.on hdr
            obtain ⟨hm8, hk8, hov, hhh⟩ := HMM.out
            have hsf : SkF w8 hb hl N f := by
              rw [hw8]
              exact (s1.on hdr).frm (frm_set _ _ _ _ (F := one1 sb) (.inl rfl)) (OffS.one hst (by decide))
            refine ⟨N.eraseIdx m, ov, true, c - 1, .slice (some ⟨gg, 0, none⟩) S.length cap, .slice none 0 0, ?_, ?_, ?_, ?_, .inr ⟨hm8, hk8, hov, rfl, rfl, rfl⟩⟩
            · rw [hw8]
              exact (HQ.out.ch.on hdr).other ((HQ.out.ch.on hdr).ne hst (by decide)) 4 _
            · rw [hw8]
              exact hst.set 4 _
            · exact hsf.del hm8 (fun p l ho h8 hL => s2 p l ho (by rw [hhh]; exact h8) hL) (fun p l ho hn => s3 p l ho (by rw [hhh]; exact hn))
            · have hf1 : Frm w w2 (finF sb hl N) := (HD.out.1.mono (G := finF sb hl N) (fun k hk => hk.elim)).trans HF2.out.2 (fun k hk => .inl (.inl hk))
              have hf2 : Frm w wz.drew (finF sb hl N) := hf1.trans HQ.out.fr.drew (fun k hk => .inl (.inr (.inl hk)))
              rw [hw8]
              exact hf2.trans (frm_set _ _ _ _ (F := one1 sb) (.inl rfl)) (fun k hk => .inl (.inl hk))
          clear hw8 hdr
          go_wp2_with fail
          go_ret
          exact ⟨_, rfl, HK.out⟩

end Go.Proofs.Ytojfohpnfciajaa

namespace Go.Proofs.Ytojfohpnfciajaa
open Go.RowKit
set_option maxRecDepth 100000

theorem ens_ins (N : List Nd) (m : Nat) (X : Nd) : ensN (insN N m X) = insE (ensN N) m X.e := by
  unfold ensN insN insE
  rw [List.map_append, List.map_cons, List.map_take, List.map_drop]
theorem ens_set (N : List Nd) (m : Nat) (X : Nd) : ensN (N.set m X) = (ensN N).set m X.e := by
  unfold ensN
  rw [List.map_set]
theorem ens_erase (N : List Nd) (m : Nat) : ensN (N.eraseIdx m) = (ensN N).eraseIdx m := by
  unfold ensN
  rw [List.eraseIdx_eq_take_drop_succ, List.eraseIdx_eq_take_drop_succ, List.map_append, List.map_take, List.map_drop]
theorem ens_len (N : List Nd) : (ensN N).length = N.length := by simp [ensN]
theorem get_none {N : List Nd} {k : ByteArray} (h : getN N (fnd (ensN N) k) k = none) : getE (ensN N) k = none := by
  unfold getE
  unfold getN at h
  cases e : (ensN N)[fnd (ensN N) k]? with
  | none => rfl
  | some x =>
    rw [ensN, List.getElem?_map] at e
    obtain ⟨y, hy, rfl⟩ := Option.map_eq_some_iff.1 e
    rw [hy] at h
    dsimp only at h ⊢
    by_cases hk : y.e.k = k
    · rw [if_pos hk] at h
      cases h
    · rw [if_neg hk]
theorem get_some {N : List Nd} {k : ByteArray} (hm : fnd (ensN N) k < N.length) (h : N[fnd (ensN N) k].e.k = k) : getE (ensN N) k = some N[fnd (ensN N) k].e := by
  unfold getE
  rw [ens_at hm]
  dsimp only
  rw [if_pos h]
theorem get_at {N : List Nd} {k : ByteArray} {e : En} (h : getE (ensN N) k = some e) : ∃ hm : fnd (ensN N) k < N.length, N[fnd (ensN N) k].e = e ∧ e.k = k := by
  obtain ⟨h1, h2⟩ := getE_some h
  rw [ensN, List.getElem?_map] at h1
  obtain ⟨y, hy, rfl⟩ := Option.map_eq_some_iff.1 h1
  obtain ⟨hm, e9⟩ := List.getElem?_eq_some_iff.1 hy
  have h3 : N[fnd (ensN N) k].e = y.e := by
    have : N[fnd (List.map Nd.e N) k] = y := e9
    exact congrArg Nd.e this
  exact ⟨hm, h3, h2⟩
theorem rise_lt {N : List Nd} (k : ByteArray) : ∀ i (hi : i < N.length), i < fnd (ensN N) k → ltB N[i].e.k k = true := by
  intro i hi h
  have := fnd_lt h (by rw [ens_len]; exact hi)
  simpa [ensN] using this
theorem rise_ge {N : List Nd} (hr : RiseE (ensN N)) (k : ByteArray) : ∀ i (hi : i < N.length), fnd (ensN N) k ≤ i → ltB N[i].e.k k = false := by
  intro i hi h
  have := fnd_ge hr h (by rw [ens_len]; exact hi)
  simpa [ensN] using this
theorem fnd_leN (N : List Nd) (k : ByteArray) : fnd (ensN N) k ≤ N.length := by
  have := fnd_le (ensN N) k
  rw [ens_len] at this
  exact this
/-- the blocks that a list writes -/
def ownL (lb sb hl : Nat) (N : List Nd) : Nat → Prop := fun k => k = lb ∨ k = sb ∨ k ∈ hl :: N.map Nd.lb ∨ k ∈ N.map Nd.nb
/-- each node is an earlier one, or new -/
def Grw (B : Nat) (N N' : List Nd) : Prop := ∀ x ∈ N', (∃ y ∈ N, x.nb = y.nb ∧ x.lb = y.lb) ∨ (B ≤ x.nb ∧ B ≤ x.lb)
/-- what a key had -/
def wasV (E : List En) (k : ByteArray) : Int := match getE E k with
  | some e => e.v
  | none => 0
/-- A PUT, all in all. -/
theorem PutF.upd {w w' : World} {hb sb hl h a : Nat} {wk : Value} {N : List Nd} {k : ByteArray} {c v : Int} {g : Nat} (r : PutF w w' hb sb hl (fnd (ensN N) k) h a wk N k c v g) (hr : RiseE (ensN N)) (hc : c = (N.length : Nat)) :
    ∃ N' ls vs, Blk w' g (chC (wasV (ensN N) k) (getE (ensN N) k).isSome (N'.length : Nat) ls vs) 93 ∧ Blk w' sb #[.int .u64 (a : Nat), .int .i64 c, wk, ptr1 g, .int .u32 1] 82 ∧ SkF w' hb hl N' (ldF N') ∧ Frm w w' (finF sb hl N) ∧ ensN N' = putE (ensN N) k v h ∧ RiseE (ensN N') ∧ Grw w.heap.size N N' := by
  obtain ⟨N', was, there, n, ls, vs, h1, h2, h3, h4, ⟨h5, rfl, rfl, rfl, xn, xv, xl, rfl, h6, h7⟩ | ⟨hm, h5, rfl, rfl, rfl, vb', rfl⟩⟩ := r
  · have hg := get_none h5
    have he : ensN (insN N (fnd (ensN N) k) ⟨⟨k, v, h⟩, xn, xv, xl⟩) = putE (ensN N) k v h := by
      rw [ens_ins, putE, hg]
    refine ⟨_, ls, vs, ?_, h2, h3, h4, he, by rw [he]; exact rise_put hr k v h, fun x hx => ?_⟩
    · have e1 : wasV (ensN N) k = 0 := by unfold wasV; rw [hg]
      have e2 : (((insN N (fnd (ensN N) k) ⟨⟨k, v, h⟩, xn, xv, xl⟩).length : Nat) : Int) = c + 1 := by rw [insN_len (fnd_leN N k), hc]; omega
      rw [e1, hg, e2]
      exact h1
    · rcases mem_ins hx with rfl | hx
      · exact .inr ⟨h6, h7⟩
      · exact .inl ⟨x, hx, rfl, rfl⟩
  · have hg := get_some hm h5
    have he : ensN (N.set (fnd (ensN N) k) (valN N[fnd (ensN N) k] v vb')) = putE (ensN N) k v h := by
      rw [ens_set, putE, hg]
      dsimp only
      rw [h5]
    refine ⟨_, ls, vs, ?_, h2, h3, h4, he, by rw [he]; exact rise_put hr k v h, fun x hx => ?_⟩
    · have e1 : wasV (ensN N) k = N[fnd (ensN N) k].e.v := by unfold wasV; rw [hg]
      rw [e1, hg, List.length_set, ← hc]
      exact h1
    · rcases List.mem_or_eq_of_mem_set hx with hx | rfl
      · exact .inl ⟨x, hx, rfl, rfl⟩
      · exact .inl ⟨N[fnd (ensN N) k], List.getElem_mem hm, rfl, rfl⟩
/-- A DELETE, all in all. -/
theorem DelF.upd {w w' : World} {hb sb hl a : Nat} {wk : Value} {N : List Nd} {k : ByteArray} {c : Int} {g : Nat} (r : DelF w w' hb sb hl (fnd (ensN N) k) a wk N k c g) (hr : RiseE (ensN N)) (hc : c = (N.length : Nat)) :
    ∃ N' ls vs, Blk w' g (chC (wasV (ensN N) k) (getE (ensN N) k).isSome (N'.length : Nat) ls vs) 93 ∧ Blk w' sb #[.int .u64 (a : Nat), .int .i64 c, wk, ptr1 g, .int .u32 1] 82 ∧ SkF w' hb hl N' (ldF N') ∧ Frm w w' (finF sb hl N) ∧ ensN N' = delE (ensN N) k ∧ RiseE (ensN N') ∧ Grw w.heap.size N N' := by
  obtain ⟨N', was, there, n, ls, vs, h1, h2, h3, h4, ⟨h5, rfl, rfl, rfl, rfl⟩ | ⟨hm, h5, rfl, rfl, rfl, rfl⟩⟩ := r
  · have hg := get_none h5
    refine ⟨_, ls, vs, ?_, h2, h3, h4, by rw [delE, hg], hr, fun x hx => .inl ⟨x, hx, rfl, rfl⟩⟩
    have e1 : wasV (ensN N') k = 0 := by unfold wasV; rw [hg]
    rw [e1, hg, ← hc]
    exact h1
  · have hg := get_some hm h5
    have he : ensN (N.eraseIdx (fnd (ensN N) k)) = delE (ensN N) k := by rw [ens_erase, delE, hg]
    refine ⟨_, ls, vs, ?_, h2, h3, h4, he, by rw [he]; exact rise_del hr k, fun x hx => .inl ⟨x, (List.eraseIdx_sublist _ _).subset hx, rfl, rfl⟩⟩
    have e1 : wasV (ensN N) k = N[fnd (ensN N) k].e.v := by unfold wasV; rw [hg]
    have e2 : (((N.eraseIdx (fnd (ensN N) k)).length : Nat) : Int) = c - 1 := by rw [List.length_eraseIdx_of_lt hm, hc]; omega
    rw [e1, hg, e2]
    exact h1

end Go.Proofs.Ytojfohpnfciajaa
