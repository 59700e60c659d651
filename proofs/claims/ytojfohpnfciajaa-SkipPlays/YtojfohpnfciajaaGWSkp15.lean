/- Layer 12: adds. Layer 12: without. -/
import Derived.Test.YtojfohpnfciajaaGMOwn12
namespace Go.Proofs.Ytojfohpnfciajaa
open Go.RowKit
set_option maxRecDepth 100000

/-- the place's links, and where they lead -/
theorem SkF.place {w : World} {hb hl : Nat} {N : List Nd} (h : SkF w hb hl N (ldF N)) {l p m : Nat} (hl' : l < 16) (hm : m ≤ N.length) (hL : LastL l m (ensN N) p) :
    ∃ n f, OnL l N p ∧ w.cell? ⟨posB hb N p, 2, none⟩ = some (.slice (some ⟨lbOf hl N p, 0, none⟩) n n) ∧ l < n ∧ n ≤ 16 ∧ w.cell? ⟨lbOf hl N p, l, none⟩ = some (ptr1 f) ∧ Blk w f #[ptrO (tgt l (N.drop m))] 132 := by
  have ho : OnL l N p := by
    rw [onL_iff]
    rcases hL.top with e | ⟨e, he, h1⟩
    · exact .inl e
    · rw [ensN, List.getElem?_map] at he
      obtain ⟨x, hx, hxe⟩ := Option.map_eq_some_iff.1 he
      exact .inr ⟨x, hx, by rw [hxe]; exact h1⟩
  obtain ⟨f, h1, h2⟩ := h.lk p l hl' ho
  have h3 : ldF N p l = tgt l (N.drop m) := by
    unfold ldF
    rw [drop_split hL.le hm, tgt_app, last_none hL, Option.none_or]
  rw [h3] at h2
  cases p with
  | zero =>
    obtain ⟨hv, hd⟩ := h.hd
    exact ⟨16, f, ho, Blk.cell (i := 2) hd rfl, hl', Nat.le_refl _, h1, h2⟩
  | succ i =>
    have hi : i < N.length := ho.le
    have hx := List.getElem_mem hi
    have hlh : l < N[i].e.h := by
      rcases ho with e | ⟨_, h9⟩
      · omega
      · exact h9
    refine ⟨N[i].e.h, f, ho, ?_, hlh, (h.ht _ hx).2, h1, h2⟩
    rw [posB_at hb hi, lbOf_at hl hi]
    exact Blk.cell (i := 2) (h.nd _ hx) rfl
theorem AddS.skf {w wq : World} {hb hl : Nat} {N : List Nd} {m xn xl h g : Nat} {c : Int} {A : Array Value} {ls : Value} {S : List Sw} {i : Nat} {f : Nat → Nat → Option Nat} (q : AddS w wq hl N m xn xl h g c A ls S i) {cs : Array Value} (hx : Blk w xl cs 129) (hf : SkF w hb hl N f) : SkF wq hb hl N f := by
  refine hf.frm' q.fr (fun k ds T hk hb' => ?_) (fun k hk => ?_)
  · have e : k = xl := hk
    subst e
    unfold Blk at hx hb'
    rw [hx] at hb'
    injection hb' with hb'
    injection hb' with _ hb'
    subst hb'
    decide
  · have e : k = xl := hk
    rw [e]
    exact q.xo
theorem AddS.gcell {w wq w' : World} {hl : Nat} {N : List Nd} {m xn xl h g : Nat} {c : Int} {A : Array Value} {ls : Value} {S : List Sw} {i : Nat} (q : AddS w wq hl N m xn xl h g c A ls S i) {us : List Value} (h2 : (wq.alloc (.cells us.toArray 144)).grownBy w' ls.ownBlock) : w'.cell? ⟨g, 3, none⟩ = some ls ∧ w'.frozen? ⟨g, 3, none⟩ = false := by
  obtain ⟨aX, aB, aS⟩ := blk_new wq us.toArray 144
  have q1 := q.keep aB
  have hg := q1.gb.grow h2 (fun e => by
    rcases owns_ne q1.ow q1.gb (by decide) with h9 | h9
    · rw [h9] at e; cases e
    · exact h9 e)
  exact ⟨Blk.cell (i := 3) hg rfl, hg.frozen 3⟩

set_option maxHeartbeats 4000000 in
theorem adds_any (lb hb sb hl m xn xv xl h : Nat) (N : List Nd) (A : Array Value) (k : ByteArray) (c v : Int) (w0 w : World) (hs : w.cell? ⟨sb, 1, none⟩ = some (.int .i64 c)) (hc0 : 0 ≤ c) (hc1 : c < 9000000000000000000) (hf : SkF w hb hl N (ldF N)) (hm : m ≤ N.length) (hA : PthA hb N m 0 A) (hX : NewN w0 w xn xv xl k v h) (hh : 1 ≤ h ∧ h ≤ 16) (hxo : xl ∉ hl :: N.map Nd.lb) :
    Calls Try.prog 82 #[.agg #[ptr1 lb, ptr1 sb], .agg A, ptr1 xn] w fun e w' => ∃ g ls S, e = .returned (ptr1 g) ∧ AddS w w' hl N m xn xl h g (c + 1) A ls S h ∧ S.length = h := by
  obtain ⟨aX, aB, aS⟩ := blk_new w #[ptr1 lb, ptr1 sb] 102
  obtain ⟨bX, bB, bS⟩ := blk_new (w.alloc (.cells #[ptr1 lb, ptr1 sb] 102)) A 177
  rw [aS] at bX
  have hb2 := aB.trans (bB.mono aB.size)
  have x1 := Blk.cell (i := 1) (aX.on bB) rfl
  have s1 := cell_on hs hb2
  have hbS : ((w.alloc (.cells #[ptr1 lb, ptr1 sb] 102)).alloc (.cells A 177)).heap.size = w.heap.size + 1 + 1 := by rw [bS, aS]
  have HBX : Hid (Blk ((w.alloc (.cells #[ptr1 lb, ptr1 sb] 102)).alloc (.cells A 177)) (w.heap.size + 1) A 177 ∧ Below w.heap.size w ((w.alloc (.cells #[ptr1 lb, ptr1 sb] 102)).alloc (.cells A 177)) ∧ ((w.alloc (.cells #[ptr1 lb, ptr1 sb] 102)).alloc (.cells A 177)).heap.size = w.heap.size + 1 + 1) := ⟨bX, hb2, hbS⟩
  have HF : Hid (SkF w hb hl N (ldF N)) := hf
  have HA : Hid (PthA hb N m 0 A) := hA
  have HX : Hid (NewN w0 w xn xv xl k v h) := hX
  have HH : Hid (1 ≤ h ∧ h ≤ 16 ∧ m ≤ N.length ∧ xl ∉ hl :: N.map Nd.lb) := ⟨hh.1, hh.2, hm, hxo⟩
  have HC : Hid (0 ≤ c ∧ c < 9000000000000000000) := ⟨hc0, hc1⟩
  have n2 := Blk.cell (i := 2) (hX.n.on hb2) rfl
  have hwr : IntKind.i64.wrap (c + 1) = c + 1 := by rw [IntKind.wrap_i64]; omega
  clear hf hA hX hh hm hxo aX aB aS bX bB bS hb2 hs hbS hc0 hc1
  go_enter Try.func82, Try.ntmps82
  go_upto_region 2 with fail
  obtain ⟨cX, cB, cS⟩ := blk_new ((w.alloc (.cells #[ptr1 lb, ptr1 sb] 102)).alloc (.cells A 177)) (chC 0 false (c + 1) (.slice none 0 0) (.slice none 0 0)) 93
  rw [HBX.out.2.2] at cX
  have hb3 := HBX.out.2.1.trans (cB.mono HBX.out.2.1.size)
  have HQ0 : Hid (AddS w (((w.alloc (.cells #[ptr1 lb, ptr1 sb] 102)).alloc (.cells A 177)).alloc (.cells (chC 0 false (c + 1) (.slice none 0 0) (.slice none 0 0)) 93)) hl N m xn xl h (w.heap.size + 1 + 1) (c + 1) A (.slice none 0 0) [] 0) := ⟨Frm.of_below hb3, HBX.out.1.on cB, ⟨_, HX.out.l.on hb3, by simp, fun l hl' => by omega, fun l _ hl' => by simp [hl']⟩, cX, by omega, World.ownsRow_nil _ _ _ _, fun j hj => absurd hj (by simp), HH.out.2.2.2, HX.out.l.lt⟩
  have n2 := Blk.cell (i := 2) (HX.out.n.on hb3) rfl
  clear cX cB cS hb3 x1 s1 hwr
  generalize (((w.alloc (.cells #[ptr1 lb, ptr1 sb] 102)).alloc (.cells A 177)).alloc (.cells (chC 0 false (c + 1) (.slice none 0 0) (.slice none 0 0)) 93)) = w3 at *
  go_wp2_with fail
  clear n2
  go_loopw [24] (fun sx wq => ∃ (i : Nat) (ls : Value) (S : List Sw), i ≤ h ∧ Hid (S.length = i) ∧ sx = .int .i64 (i : Int) ∧ Hid (AddS w wq hl N m xn xl h (w.heap.size + 1 + 1) (c + 1) A ls S i)) (fun sx _ => ((h : Int) - intOf sx).toNat)
  case atStart => exact ⟨0, _, [], Nat.zero_le _, rfl, rfl, HQ0⟩
  case round =>
    obtain ⟨i, ls, S, hi, hS, rfl, HQ⟩ := hrel
    clear HQ0
    rcases Nat.lt_or_ge i h with h1 | h1
    · have hfw := HQ.out.skf HX.out.l HF.out
      obtain ⟨p, hp1, hp2⟩ := HA.out.at' i (Nat.zero_le _) (by have := HH.out.2.1; omega)
      obtain ⟨n, f, ho, q1, q2, q3, q4, q5⟩ := hfw.place (by have := HH.out.2.1; omega) HH.out.2.2.1 hp2
      have a0 := HQ.out.pb.cell hp1
      have HP : Hid (LastL i m (ensN N) p ∧ OnL i N p ∧ wr.cell? ⟨lbOf hl N p, i, none⟩ = some (ptr1 f) ∧ Blk wr f #[ptrO (tgt i (N.drop m))] 132) := ⟨hp2, ho, q4, q5⟩
      have HFw : Hid (SkF wr hb hl N (ldF N)) := hfw
      have C1 : Hid (Calls _ _ _ _ _) := loadLk (lbOf hl N p) i (some ⟨f, 0, none⟩) wr q4 (PtT.blk q5 rfl)
      have z1 : (i : Int) < h := by omega
      have z2 : (i : Int) < n := by omega
      have z3 : (i : Int) < 16 := by have := HH.out.2.1; omega
      have HN2 : Hid (Blk wr xn #[.string k, ptr1 xv, .slice (some ⟨xl, 0, none⟩) h h] 125) := HX.out.n.frm HQ.out.fr (fun e => HX.out.n.ne HX.out.l (by decide) e)
      clear hfw hp1 hp2 ho q2 q3 q4 q5
      generalize posB hb N p = pb at *
      generalize hlp : lbOf hl N p = lp at *
      have HLP : Hid (lbOf hl N p = lp) := hlp
      clear hlp
      go_wp2_with fail
      refine C1.out.mono ?_
      rintro e w5 ⟨rfl, hw5⟩
      rw [hw5]
      clear hw5 C1 a0 q1
      go_upto_region 7 with fail
      obtain ⟨tt, htt⟩ : ∃ tt, tgt i (N.drop m) = tt := ⟨_, rfl⟩
      have HTT : Hid (tgt i (N.drop m) = tt) := htt
      rw [htt] at HP
      clear htt
      have HC0 : Hid (wr.drew.cell? ⟨xn, 2, none⟩ = some (.slice (some ⟨xl, 0, none⟩) h h) ∧ wr.drew.cell? ⟨f, 0, none⟩ = some (ptrO tt)) := ⟨Blk.cell (i := 2) HN2.out rfl, Blk.cell (i := 0) HP.out.2.2.2 rfl⟩
      have HB7 : Hid (Below wr.heap.size wr (wr.drew.alloc (.cells #[ptrO tt] 132))) := ((Below.refl _ _).drew).alloc (Nat.le_refl _) _
      have HK7 : Hid (Blk (wr.drew.alloc (.cells #[ptrO tt] 132)) wr.drew.heap.size #[ptrO tt] 132) := Blk.new wr.drew _ _
      have HC1 : Hid ((wr.drew.alloc (.cells #[ptrO tt] 132)).cell? ⟨xn, 2, none⟩ = some (.slice (some ⟨xl, 0, none⟩) h h) ∧ (wr.drew.alloc (.cells #[ptrO tt] 132)).cell? ⟨xl, i, none⟩ = some (.pointer none) ∧ (wr.drew.alloc (.cells #[ptrO tt] 132)).frozen? ⟨xl, i, none⟩ = false ∧ PtT 132 1 (wr.drew.alloc (.cells #[ptrO tt] 132)) (some ⟨wr.drew.heap.size, 0, none⟩)) := by
        obtain ⟨cs, l1, l2, l3, l4⟩ := HQ.out.xc
        exact ⟨Blk.cell (i := 2) (HN2.out.on HB7.out) rfl, (l1.on HB7.out).cell (l4 i (Nat.le_refl _) h1), (l1.on HB7.out).frozen i, PtT.blk HK7.out rfl⟩
      refine wp_region_any (by kernel_rfl) ?_
      change wpAny _ _ _ _ _ _ _ (World.drew _)
      generalize wr.drew = wd at *
      refine tk (v := ?_) 0 rfl ?_ ?_
      rotate_left
      focus
        intro w9
        go_simp
        try with_reducible rfl
      try simp only [aP]
      refine tk (v := ?_) 1 rfl ?_ ?_
      rotate_left
      focus
        intro w9
        go_simp
        try with_reducible rfl
      try simp only [aP]
      refine tk (v := ?_) 2 rfl ?_ ?_
      rotate_left
      focus
        intro w9
        go_simp
        try with_reducible rfl
      try simp only [aP]
      refine tk (v := ?_) 4 rfl ?_ ?_
      rotate_left
      focus
        intro w9
        go_simp
        try with_reducible rfl
      try simp only [aP]
      refine tk (v := ?_) 6 rfl ?_ ?_
      rotate_left
      focus
        intro w9
        go_simp
        try with_reducible rfl
      try simp only [aP]
      refine tk (v := ?_) 7 rfl ?_ ?_
      rotate_left
      focus
        intro w9
        go_simp
        try with_reducible rfl
      try simp only [aP]
      refine tk (v := ?_) 8 rfl ?_ ?_
      rotate_left
      focus
        intro w9
        go_simp
        try with_reducible rfl
      try simp only [aP]
      apply later1 (fun (w8 : World) => Hid (w8 = (wd.alloc (.cells #[ptrO tt] 132)).setCell ⟨xl, i, none⟩ (ptr1 wd.heap.size)))
      intro hs3_9_11_12
      apply later0
      intro hs3_9_11
      apply later0
      intro hs9_11
      apply later0
      intro hs3_9
      apply later0
      intro hs9
      apply later0
      intro hs3
      · obtain ⟨n2, f0⟩ := HC0.out
        refine wpAny_ready (rs := [3, 9]) (by kernel_rfl) (by simp) ?_
        refine anyN_cons 3 rfl (by rfl) (fun K hK => ?_) (anyN_cons 9 rfl (by rfl) (fun K hK => ?_) AllReady.nil)
        · go_simp
          refine hK.out _ _ ?_
          clear hK K
          try simp only [aP]
          refine tk (v := ?_) 5 rfl ?_ ?_
          rotate_left
          focus
            intro w9
            go_simp
            try with_reducible rfl
          try simp only [aP]
          exact hs3
        · go_simp
          refine hK.out _ _ ?_
          clear hK K
          try simp only [aP]
          refine tk (v := ?_) 10 rfl ?_ ?_
          rotate_left
          focus
            intro w9
            go_simp
            try with_reducible rfl
          try simp only [aP]
          exact hs9
      · obtain ⟨n2, f0⟩ := HC0.out
        refine wpAny_ready (rs := [9]) (by kernel_rfl) (by simp) ?_
        refine anyN_cons 9 rfl (by rfl) (fun K hK => ?_) AllReady.nil
        go_simp
        refine hK.out _ _ ?_
        clear hK K
        try simp only [aP]
        refine tk (v := ?_) 10 rfl ?_ ?_
        rotate_left
        focus
          intro w9
          go_simp
          try with_reducible rfl
        try simp only [aP]
        exact hs3_9
      · obtain ⟨n2, f0⟩ := HC0.out
        refine wpAny_ready (rs := [3, 11]) (by kernel_rfl) (by simp) ?_
        refine anyN_cons 3 rfl (by rfl) (fun K hK => ?_) (anyN_cons 11 rfl (by rfl) (fun K hK => ?_) AllReady.nil)
        · go_simp
          refine hK.out _ _ ?_
          clear hK K
          try simp only [aP]
          refine tk (v := ?_) 5 rfl ?_ ?_
          rotate_left
          focus
            intro w9
            go_simp
            try with_reducible rfl
          try simp only [aP]
          exact hs3_9
        · go_simp
          refine hK.out _ _ ?_
          clear hK K
          try simp only [aP]
          exact hs9_11
      · obtain ⟨n2, f0⟩ := HC0.out
        refine wpAny_ready (rs := [11]) (by kernel_rfl) (by simp) ?_
        refine anyN_cons 11 rfl (by rfl) (fun K hK => ?_) AllReady.nil
        go_simp
        refine hK.out _ _ ?_
        clear hK K
        try simp only [aP]
        exact hs3_9_11
      · obtain ⟨y0, y1, y2, y3⟩ := HC1.out
        refine wpAny_ready (rs := [3]) (by kernel_rfl) (by simp) ?_
        refine anyN_cons 3 rfl (by rfl) (fun K hK => ?_) AllReady.nil
        go_simp
        refine hK.out _ _ ?_
        clear hK K
        try simp only [aP]
        refine tk (v := ?_) 5 rfl ?_ ?_
        rotate_left
        focus
          intro w9
          go_simp
          try with_reducible rfl
        try simp only [aP]
        exact hs3_9_11
      · obtain ⟨y0, y1, y2, y3⟩ := HC1.out
        refine wpAny_ready (rs := [12]) (by kernel_rfl) (by simp) ?_
        refine anyN_cons 12 rfl (by rfl) (fun K hK => ?_) AllReady.nil
        go_simp
        refine (storeLk xl i none (some ⟨wd.heap.size, 0, none⟩) (wd.alloc (.cells #[ptrO tt] 132)) y1 y2 y3).mono ?_
        rintro e w8 ⟨rfl, hw8⟩
        dsimp only
        have H8 : Hid (w8 = (wd.alloc (.cells #[ptrO tt] 132)).setCell ⟨xl, i, none⟩ (ptr1 wd.heap.size)) := hw8
        clear hw8
        refine hK.out _ _ ?_
        clear hK K
        try simp only [aP]
        exact hs3_9_11_12 w8 H8
      · intro w8 H8
        refine wpAny_done (by kernel_rfl) ?_ _
        have HQ8 : Hid (AddS w w8 hl N m xn xl h (w.heap.size + 1 + 1) (c + 1) A ls S (i + 1)) := by
          show AddS _ _ _ _ _ _ _ _ _ _ _ _ _ _
          rw [H8.out]
          exact (HQ.out.keep HB7.out).own h1 (by rw [HTT.out]; exact HK7.out)
        have HF8 : Hid (SkF w8 hb hl N (ldF N)) := HQ8.out.skf HX.out.l HF.out
        have HS8 : Hid (∃ (f9 : Nat), wr.cell? ⟨lp, i, none⟩ = some (ptr1 f9) ∧ f9 = f) := ⟨f, HP.out.2.2.1, rfl⟩
        clear HS8
        have g3 := Blk.cell (i := 3) HQ8.out.gb rfl
        obtain ⟨bX, bB, bS⟩ := blk_new w8 #[ptr1 xn] 132
        have HQ9 : Hid (AddS w (w8.alloc (.cells #[ptr1 xn] 132)) hl N m xn xl h (w.heap.size + 1 + 1) (c + 1) A ls S (i + 1)) := HQ8.out.keep bB
        have HK9 : Hid (Blk (w8.alloc (.cells #[ptr1 xn] 132)) w8.heap.size #[ptr1 xn] 132 ∧ Below w8.heap.size w8 (w8.alloc (.cells #[ptr1 xn] 132))) := ⟨bX, bB⟩
        have hz9 : (w8.alloc (.cells #[ptr1 xn] 132)).heap.size = w8.heap.size + 1 := bS
        have hzz : w.heap.size ≤ (w8.alloc (.cells #[ptr1 xn] 132)).heap.size := by have := HQ9.out.fr.size; exact this
        have HLn : Hid (S.length ≤ 15) := by have := HH.out.2.1; have := hS.out; show S.length ≤ 15; omega
        clear bX bB bS
        go_wp2_with (first | (at_builtin; go_loud (refine wpList_app1 (w8.alloc (.cells #[ptr1 xn] 132)) rfl (.tmp 54) (.tmp 61) 144 90 _ 3 24 rfl Try.underlying90 info_sw rfl (by decide) w.heap.size _ _ _ (by rfl) HQ9.out.ow [.pointer (some ⟨lp, i, none⟩), ptr1 f, ptr1 w8.heap.size] rfl (by intro u hu; simp only [List.mem_cons, List.not_mem_nil, or_false] at hu; rcases hu with rfl | rfl | rfl <;> rfl) _ rfl (by simp) (by have := HLn.out; omega) (by have := HLn.out; omega) hzz ?_); intro v6 w6 h6 h7 h8; obtain ⟨g6, y6⟩ := HQ9.out.gcell h8; obtain ⟨pv, cv, rfl, -⟩ := owns_len h6))
        have HQ10 : Hid (AddS w (w6.setCell ⟨w.heap.size + 1 + 1, 3, none⟩ (.slice pv (S.length + 1) cv)) hl N m xn xl h (w.heap.size + 1 + 1) (c + 1) A (.slice pv (S.length + 1) cv) (S ++ [(lp, i, f, w8.heap.size)]) (i + 1)) := by
          refine HQ9.out.next (hb := hb) (z := (lp, i, f, w8.heap.size)) (HF8.out.on HK9.out.2) (by have := HLn.out; omega) ?_ h6 h8
          have hlp : lbOf hl N p = lp := HLP.out
          have hob : Frm wr w8 (one1 xl) := by
            rw [H8.out]
            exact (Frm.of_below HB7.out).trans (frm_set _ xl i _ (F := one1 xl) (.inl rfl)) (fun k hk => .inl hk)
          have hfb : Blk w8 f #[ptrO tt] 132 := HP.out.2.2.2.frm hob (fun e => by
            obtain ⟨cs, l1, l2, l3, l4⟩ := HQ.out.xc
            exact HP.out.2.2.2.ne l1 (by decide) e)
          obtain ⟨ds, g5, g6⟩ := HFw.out.lb (by have := HH.out.2.1; omega) HP.out.2.1
          have g7 := g5.frm hob (fun e => by
            have e2 : lbOf hl N p = xl := e
            exact HQ.out.xo (e2 ▸ lbOf_mem HP.out.2.1.le))
          have h7' : ds[i]? = some (ptr1 f) := by
            have h8' : wr.cell? ⟨lbOf hl N p, i, none⟩ = some ds[i] := g5.cell (Array.getElem?_eq_getElem g6)
            rw [hlp, HP.out.2.2.1] at h8'
            injection h8' with h8'
            rw [h8']
            exact Array.getElem?_eq_getElem g6
          rw [hS.out]
          exact ⟨p, f, w8.heap.size, by rw [hlp], HP.out.1, HP.out.2.1, (g7.on HK9.out.2).cell h7', ⟨_, hfb.on HK9.out.2⟩, HK9.out.1⟩
        clear h6 h7 h8 g6 y6 g3 hz9 hzz
        go_wp2_with fail
        go_roundw
        case rel => exact ⟨i + 1, _, _, by omega, (by show (S ++ [(lp, i, f, w8.heap.size)]).length = i + 1; rw [List.length_append, hS.out]; rfl), by go_num, HQ10⟩
        case measure => simp [intOf]; omega
    · obtain rfl : i = h := by omega
      have z1 : ¬ (i : Int) < i := by omega
      go_wp2_with fail
      go_ret
      exact ⟨_, rfl, ls, S, HQ.out, hS.out⟩

end Go.Proofs.Ytojfohpnfciajaa

namespace Go.Proofs.Ytojfohpnfciajaa
open Go.RowKit
set_option maxRecDepth 100000

/-- swings past a node, in the making -/
structure WoS (w wq : World) (hl : Nat) (N : List Nd) (m : Nat) (A : Array Value) (ls : Value) (S : List Sw) : Prop where
  bel : Below w.heap.size w wq
  pb : Blk wq w.heap.size A 177
  ow : OwnS wq w.heap.size ls S
  sw : ∀ j (hj : j < S.length), SwAt wq hl N m (fun l => tgt l (N.drop (m + 1))) j S[j]
theorem WoS.keep {w wq w' : World} {hl : Nat} {N : List Nd} {m : Nat} {A : Array Value} {ls : Value} {S : List Sw} (q : WoS w wq hl N m A ls S) (hb : Below wq.heap.size wq w') : WoS w w' hl N m A ls S :=
  ⟨q.bel.trans (hb.mono q.bel.size), q.pb.on hb, owns_kept q.ow hb, fun j hj => (q.sw j hj).on hb⟩
theorem WoS.next {w wq w' : World} {hl : Nat} {N : List Nd} {m : Nat} {A : Array Value} {ls ls' : Value} {S : List Sw} {z : Sw} {hb : Nat} {f : Nat → Nat → Option Nat} (q : WoS w wq hl N m A ls S) (hs : SkF wq hb hl N f) (hi : S.length < 16) (hz : SwAt wq hl N m (fun l => tgt l (N.drop (m + 1))) S.length z)
    (h1 : w'.ownsRow w.heap.size 144 3 ls' (S.length + 1) (S.flatMap swC ++ swC z)) (h2 : (wq.alloc (.cells (swC z).toArray 144)).grownBy w' ls.ownBlock) :
    WoS w w' hl N m A ls' (S ++ [z]) := by
  obtain ⟨aX, aB, aS⟩ := blk_new wq (swC z).toArray 144
  have q1 := q.keep aB
  have hs1 := hs.on aB
  have hz1 := hz.on aB
  generalize (wq.alloc (.cells (swC z).toArray 144)) = w1 at *
  have hr : ∀ b cs T, T ≠ 144 → Blk w1 b cs T → ls.ownBlock ≠ some b := by
    intro b cs T hT hx e
    rcases owns_ne q1.ow hx (Ne.symm hT) with h9 | h9
    · rw [h9] at e; cases e
    · exact h9 e
  have hlw : ∀ j (hj : j < (S ++ [z]).length), SwAt w' hl N m (fun l => tgt l (N.drop (m + 1))) j (S ++ [z])[j] := by
    intro j hj
    rw [List.length_append, List.length_singleton] at hj
    rcases Nat.lt_or_ge j S.length with h9 | h9
    · rw [List.getElem_append_left h9]
      exact (q1.sw j h9).grow h2 hr hs1 (by omega)
    · have e : j = S.length := by omega
      subst e
      rw [List.getElem_append_right (Nat.le_refl _)]
      simp only [Nat.sub_self, List.getElem_singleton]
      exact hz1.grow h2 hr hs1 hi
  refine ⟨?_, q1.pb.grow h2 (hr _ _ _ (by decide) q1.pb), ?_, hlw⟩
  · refine q1.bel.trans ((Frm.of_grown (F := fun k => ls.ownBlock = some k) h2 (fun k e => .inl e)).below q1.bel.size (fun k e => ?_))
    rcases q1.ow.2 with ⟨e1, _⟩ | ⟨g', cap, cur, e1, hB, _⟩
    · rw [e1] at e; cases e
    · rw [e1] at e
      simp only [Value.ownBlock, Option.some.injEq] at e
      omega
  · show World.ownsRow _ _ _ _ _ _ _
    rw [show (S ++ [z]).length = S.length + 1 by simp, show (S ++ [z]).flatMap swC = S.flatMap swC ++ swC z by simp]
    exact h1

set_option maxHeartbeats 4000000 in
theorem without_any (hb hl m : Nat) (N : List Nd) (A : Array Value) (w : World) (hf : SkF w hb hl N (ldF N)) (hm : m < N.length) (hA : PthA hb N m 0 A) :
    Calls Try.prog 86 #[.agg A, ptr1 N[m].nb] w fun e w' => ∃ ls S, e = .returned ls ∧ WoS w w' hl N m A ls S ∧ S.length = N[m].e.h := by
  obtain ⟨bX, bB, bS⟩ := blk_new w A 177
  have HQ0 : Hid (WoS w (w.alloc (.cells A 177)) hl N m A (.slice none 0 0) []) := ⟨bB, bX, World.ownsRow_nil _ _ _ _, fun j hj => absurd hj (by simp)⟩
  have HF : Hid (SkF w hb hl N (ldF N)) := hf
  have HA : Hid (PthA hb N m 0 A) := hA
  have hx := List.getElem_mem hm
  have n2 : (w.alloc (.cells A 177)).cell? ⟨N[m].nb, 2, none⟩ = some (.slice (some ⟨N[m].lb, 0, none⟩) N[m].e.h N[m].e.h) := Blk.cell (i := 2) ((hf.nd _ hx).on bB) rfl
  have HH : Hid (1 ≤ N[m].e.h ∧ N[m].e.h ≤ 16 ∧ m < N.length) := ⟨(hf.ht _ hx).1, (hf.ht _ hx).2, hm⟩
  have HNd : Hid (Blk w N[m].nb (ndC N[m]) 125) := hf.nd _ hx
  have HLk : Hid (∀ l, l < N[m].e.h → Lnk w N[m].lb l (tgt l (N.drop (m + 1)))) := fun l hl' => by
    have h9 := hf.lk (m + 1) l (by have := (hf.ht _ hx).2; omega) (.inr ⟨hm, hl'⟩)
    rw [lbOf_at hl hm] at h9
    exact h9
  clear hf hA bX bB bS hx
  simp only [ndC] at HNd
  generalize N[m].nb = xn at *
  generalize N[m].lb = xl at *
  generalize N[m].vb = xv at *
  generalize N[m].e.k = xk at *
  generalize N[m].e.h = h at *
  clear hm
  go_enter Try.func86, Try.ntmps86
  go_upto_region 2 with fail
  generalize (w.alloc (.cells A 177)) = w3 at *
  go_wp2_with fail
  clear n2
  go_loopw [5, 13] (fun sv sx wq => ∃ (i : Nat) (S : List Sw), i ≤ h ∧ Hid (S.length = i) ∧ sx = .int .i64 (i : Int) ∧ Hid (WoS w wq hl N m A sv S)) (fun _ sx _ => ((h : Int) - intOf sx).toNat)
  case atStart => exact ⟨0, [], Nat.zero_le _, rfl, rfl, HQ0⟩
  case round =>
    obtain ⟨i, S, hi, hS, rfl, HQ⟩ := hrel
    clear HQ0
    rcases Nat.lt_or_ge i h with h1 | h1
    · have hfw := HF.out.on HQ.out.bel
      obtain ⟨p, hp1, hp2⟩ := HA.out.at' i (Nat.zero_le _) (by have := HH.out.2.1; omega)
      obtain ⟨n, f, ho, q1, q2, q3, q4, q5⟩ := hfw.place (by have := HH.out.2.1; omega) (Nat.le_of_lt HH.out.2.2) hp2
      have a0 := HQ.out.pb.cell hp1
      have HFw : Hid (SkF wr hb hl N (ldF N)) := hfw
      have z1 : (i : Int) < h := by omega
      have z2 : (i : Int) < n := by omega
      have z3 : (i : Int) < 16 := by have := HH.out.2.1; omega
      have HN2 : Hid (Blk wr xn #[.string xk, ptr1 xv, .slice (some ⟨xl, 0, none⟩) h h] 125) := HNd.out.on HQ.out.bel
      obtain ⟨k2, q7, q8⟩ := (HLk.out i h1).on HQ.out.bel
      generalize posB hb N p = pb at *
      obtain ⟨lp, hlp⟩ : ∃ lp, lbOf hl N p = lp := ⟨_, rfl⟩
      have HLP : Hid (lbOf hl N p = lp) := hlp
      rw [hlp] at q1 q4
      have HP : Hid (LastL i m (ensN N) p ∧ OnL i N p ∧ wr.cell? ⟨lp, i, none⟩ = some (ptr1 f) ∧ Blk wr f #[ptrO (tgt i (N.drop m))] 132) := ⟨hp2, ho, q4, q5⟩
      clear hlp hfw hp1 hp2 ho q2 q3 q4 q5
      go_upto_region 6 with fail
      clear a0 q1
      have HB7 : Hid (Below wr.heap.size wr wr.drew) := (Below.refl _ _).drew
      obtain ⟨tt, htt⟩ : ∃ tt, tgt i (N.drop (m + 1)) = tt := ⟨_, rfl⟩
      have HTT : Hid (tgt i (N.drop (m + 1)) = tt) := htt
      rw [htt] at q8
      clear htt
      have HC0 : Hid (wr.drew.cell? ⟨xn, 2, none⟩ = some (.slice (some ⟨xl, 0, none⟩) h h) ∧ wr.drew.cell? ⟨k2, 0, none⟩ = some (ptrO tt)) := ⟨Blk.cell (i := 2) HN2.out rfl, Blk.cell (i := 0) q8 rfl⟩
      have C1 : Hid (Calls Try.prog 96 #[.pointer (some ⟨lp, i, none⟩)] wr.drew fun e w' => e = .returned (ptr1 f) ∧ w' = wr.drew) := loadLk lp i (some ⟨f, 0, none⟩) wr.drew HP.out.2.2.1 (PtT.blk HP.out.2.2.2 rfl)
      have C2 : Hid (Calls Try.prog 96 #[.pointer (some ⟨xl, i, none⟩)] wr.drew fun e w' => e = .returned (ptr1 k2) ∧ w' = wr.drew) := loadLk xl i (some ⟨k2, 0, none⟩) wr.drew q7 (PtT.blk q8 rfl)
      have HLn : Hid (S.length ≤ 15) := by have := HH.out.2.1; have := hS.out; show S.length ≤ 15; omega
      have hb3 : Below wr.heap.size wr (wr.drew.alloc (.cells #[ptrO tt] 132)) := ((Below.refl _ _).drew).alloc (Nat.le_refl _) _
      have hk3 : Blk (wr.drew.alloc (.cells #[ptrO tt] 132)) wr.drew.heap.size #[ptrO tt] 132 := Blk.new wr.drew _ _
      have HCl : Hid (∀ (j : Nat) u, [.pointer (some ⟨lp, i, none⟩), ptr1 f, ptr1 wr.drew.heap.size][j]? = some u → ((wr.drew.alloc (.cells #[ptrO tt] 132)).alloc (.cells #[.pointer (some ⟨lp, i, none⟩), ptr1 f, ptr1 wr.drew.heap.size] 144)).cell? ⟨wr.drew.heap.size + 1, j, none⟩ = some u) := fun j u hj => by
        have h9 := Blk.new (wr.drew.alloc (.cells #[ptrO tt] 132)) #[.pointer (some ⟨lp, i, none⟩), ptr1 f, ptr1 wr.drew.heap.size] 144
        rw [show (wr.drew.alloc (.cells #[ptrO tt] 132)).heap.size = wr.drew.heap.size + 1 by simp] at h9
        refine Blk.cell h9 ?_
        simpa using hj
      have hb4 : Below (wr.drew.alloc (.cells #[ptrO tt] 132)).heap.size (wr.drew.alloc (.cells #[ptrO tt] 132)) ((wr.drew.alloc (.cells #[ptrO tt] 132)).alloc (.cells #[.pointer (some ⟨lp, i, none⟩), ptr1 f, ptr1 wr.drew.heap.size] 144)) := (Below.refl _ _).alloc (Nat.le_refl _) _
      have HO4 : Hid (World.ownsRow ((wr.drew.alloc (.cells #[ptrO tt] 132)).alloc (.cells #[.pointer (some ⟨lp, i, none⟩), ptr1 f, ptr1 wr.drew.heap.size] 144)) w.heap.size 144 3 u5 S.length (S.flatMap swC)) := owns_kept (owns_kept HQ.out.ow hb3) hb4
      have hzz : w.heap.size ≤ ((wr.drew.alloc (.cells #[ptrO tt] 132)).alloc (.cells #[.pointer (some ⟨lp, i, none⟩), ptr1 f, ptr1 wr.drew.heap.size] 144)).heap.size := Nat.le_trans (Nat.le_trans HQ.out.bel.size hb3.size) hb4.size
      have HNx : Hid (∀ v6 w6, World.ownsRow w6 w.heap.size 144 3 v6 (S.length + 1) (S.flatMap swC ++ swC (lp, i, f, wr.drew.heap.size)) → ((wr.drew.alloc (.cells #[ptrO tt] 132)).alloc (.cells #[.pointer (some ⟨lp, i, none⟩), ptr1 f, ptr1 wr.drew.heap.size] 144)).grownBy w6 u5.ownBlock → WoS w w6 hl N m A v6 (S ++ [(lp, i, f, wr.drew.heap.size)])) := by
        intro v6 w6 h6 h8
        refine (HQ.out.keep hb3).next (hb := hb) (HFw.out.on hb3) (by have := HLn.out; omega) ?_ h6 h8
        rw [hS.out]
        refine ⟨p, f, _, by rw [HLP.out], HP.out.1, HP.out.2.1, ?_, ⟨_, HP.out.2.2.2.on hb3⟩, (by show Blk _ _ #[ptrO (tgt i (N.drop (m + 1)))] _; rw [HTT.out]; exact hk3)⟩
        rw [HLP.out]
        exact cell_on HP.out.2.2.1 hb3
      clear hb3 hb4 hk3 q7 q8
      refine wp_region_any (by kernel_rfl) ?_
      change wpAny _ _ _ _ _ _ _ (World.drew _)
      generalize wr.drew = wd at *
      refine tk (v := ?_) 0 rfl ?_ ?_
      rotate_left
      focus
        intro w9
        go_simp
        try with_reducible rfl
      try simp only [aP]
      refine tk (v := ?_) 1 rfl ?_ ?_
      rotate_left
      focus
        intro w9
        go_simp
        try with_reducible rfl
      try simp only [aP]
      refine tk (v := ?_) 2 rfl ?_ ?_
      rotate_left
      focus
        intro w9
        go_simp
        try with_reducible rfl
      try simp only [aP]
      refine tk (v := ?_) 4 rfl ?_ ?_
      rotate_left
      focus
        intro w9
        go_simp
        try with_reducible rfl
      try simp only [aP]
      refine tk (v := ?_) 5 rfl ?_ ?_
      rotate_left
      focus
        intro w9
        go_simp
        try with_reducible rfl
      try simp only [aP]
      refine tk (v := ?_) 6 rfl ?_ ?_
      rotate_left
      focus
        intro w9
        go_simp
        try with_reducible rfl
      try simp only [aP]
      refine tk (v := ?_) 8 rfl ?_ ?_
      rotate_left
      focus
        intro w9
        go_simp
        try with_reducible rfl
      try simp only [aP]
      apply later2 (fun (v6 : Value) (w6 : World) => Hid (w6.ownsRow w.heap.size 144 3 v6 (S.length + 1) (S.flatMap swC ++ swC (lp, i, f, wd.heap.size)) ∧ ((wd.alloc (.cells #[ptrO tt] 132)).alloc (.cells #[.pointer (some ⟨lp, i, none⟩), ptr1 f, ptr1 wd.heap.size] 144)).grownBy w6 u5.ownBlock))
      intro hs3_7_10_13_15_17_18
      apply later0
      intro hs3_7_10_13_15_17
      apply later0
      intro hs3_7_10_13_15
      apply later0
      intro hs3_7_10_13
      apply later0
      intro hs3_7_10
      apply later0
      intro hs3_7
      apply later0
      intro hs7
      apply later0
      intro hs3
      · obtain ⟨n2, f0⟩ := HC0.out
        refine wpAny_ready (rs := [3, 7]) (by kernel_rfl) (by simp) ?_
        refine anyN_cons 3 rfl (by rfl) (fun K hK => ?_) (anyN_cons 7 rfl (by rfl) (fun K hK => ?_) AllReady.nil)
        · go_simp
          refine C1.out.mono ?_
          rintro e w8 ⟨rfl, hw8⟩
          dsimp only
          rw [hw8]
          clear hw8
          refine hK.out _ _ ?_
          clear hK K
          try simp only [aP]
          exact hs3
        · go_simp
          refine hK.out _ _ ?_
          clear hK K
          try simp only [aP]
          refine tk (v := ?_) 9 rfl ?_ ?_
          rotate_left
          focus
            intro w9
            go_simp
            try with_reducible rfl
          try simp only [aP]
          exact hs7
      · obtain ⟨n2, f0⟩ := HC0.out
        refine wpAny_ready (rs := [7]) (by kernel_rfl) (by simp) ?_
        refine anyN_cons 7 rfl (by rfl) (fun K hK => ?_) AllReady.nil
        go_simp
        refine hK.out _ _ ?_
        clear hK K
        try simp only [aP]
        refine tk (v := ?_) 9 rfl ?_ ?_
        rotate_left
        focus
          intro w9
          go_simp
          try with_reducible rfl
        try simp only [aP]
        exact hs3_7
      · obtain ⟨n2, f0⟩ := HC0.out
        refine wpAny_ready (rs := [3]) (by kernel_rfl) (by simp) ?_
        refine anyN_cons 3 rfl (by rfl) (fun K hK => ?_) AllReady.nil
        go_simp
        refine C1.out.mono ?_
        rintro e w8 ⟨rfl, hw8⟩
        dsimp only
        rw [hw8]
        clear hw8
        refine hK.out _ _ ?_
        clear hK K
        try simp only [aP]
        exact hs3_7
      · obtain ⟨n2, f0⟩ := HC0.out
        refine wpAny_ready (rs := [10]) (by kernel_rfl) (by simp) ?_
        refine anyN_cons 10 rfl (by rfl) (fun K hK => ?_) AllReady.nil
        go_simp
        refine C2.out.mono ?_
        rintro e w8 ⟨rfl, hw8⟩
        dsimp only
        rw [hw8]
        clear hw8
        refine hK.out _ _ ?_
        clear hK K
        try simp only [aP]
        refine tk (v := ?_) 11 rfl ?_ ?_
        rotate_left
        focus
          intro w9
          go_simp
          try with_reducible rfl
        try simp only [aP]
        refine tk (v := ?_) 12 rfl ?_ ?_
        rotate_left
        focus
          intro w9
          go_simp
          try with_reducible rfl
        try simp only [aP]
        exact hs3_7_10
      · obtain ⟨n2, f0⟩ := HC0.out
        refine wpAny_ready (rs := [13]) (by kernel_rfl) (by simp) ?_
        refine anyN_cons 13 rfl (by rfl) (fun K hK => ?_) AllReady.nil
        go_simp
        refine hK.out _ _ ?_
        clear hK K
        try simp only [aP]
        refine tk (v := ?_) 14 rfl ?_ ?_
        rotate_left
        focus
          intro w9
          go_simp
          try with_reducible rfl
        try simp only [aP]
        exact hs3_7_10_13
      · obtain ⟨n2, f0⟩ := HC0.out
        refine wpAny_ready (rs := [15]) (by kernel_rfl) (by simp) ?_
        refine anyN_cons 15 rfl (by rfl) (fun K hK => ?_) AllReady.nil
        go_simp
        refine hK.out _ _ ?_
        clear hK K
        try simp only [aP]
        refine tk (v := ?_) 16 rfl ?_ ?_
        rotate_left
        focus
          intro w9
          go_simp
          try with_reducible rfl
        try simp only [aP]
        exact hs3_7_10_13_15
      · refine wpAny_ready (rs := [17]) (by kernel_rfl) (by simp) ?_
        refine anyN_cons 17 rfl (by rfl) (fun K hK => ?_) AllReady.nil
        go_simp
        refine hK.out _ _ ?_
        clear hK K
        try simp only [aP]
        exact hs3_7_10_13_15_17
      · refine wpAny_ready (rs := [18]) (by kernel_rfl) (by simp) ?_
        refine anyN_cons 18 rfl (by rfl) (fun K hK => ?_) AllReady.nil
        refine wp_appW ((wd.alloc (.cells #[ptrO tt] 132)).alloc (.cells #[.pointer (some ⟨lp, i, none⟩), ptr1 f, ptr1 wd.heap.size] 144)) (.tmp 24) (.tmp 41) 144 90 _ 3 24 rfl Try.underlying90 info_sw rfl (by decide) w.heap.size _ _ _ (by rfl) HO4.out [.pointer (some ⟨lp, i, none⟩), ptr1 f, ptr1 wd.heap.size] rfl (by intro u hu; simp only [List.mem_cons, List.not_mem_nil, or_false] at hu; rcases hu with rfl | rfl | rfl <;> rfl) (wd.heap.size + 1) (by rfl) ?_ (by have := HLn.out; omega) (by have := HLn.out; omega) hzz ?_
        · exact HCl.out
        intro v6 w6 h6 h8
        have H6 : Hid (w6.ownsRow w.heap.size 144 3 v6 (S.length + 1) (S.flatMap swC ++ swC (lp, i, f, wd.heap.size)) ∧ ((wd.alloc (.cells #[ptrO tt] 132)).alloc (.cells #[.pointer (some ⟨lp, i, none⟩), ptr1 f, ptr1 wd.heap.size] 144)).grownBy w6 u5.ownBlock) := ⟨h6, h8⟩
        clear h6 h8
        refine hK.out _ _ ?_
        clear hK K
        try simp only [aP]
        exact hs3_7_10_13_15_17_18 v6 w6 H6
      · intro v6 w6 H6
        refine wpAny_ready (rs := [19]) (by kernel_rfl) (by simp) ?_
        refine anyN_cons 19 rfl (by rfl) (fun K hK => ?_) AllReady.nil
        go_simp
        refine hK.out _ _ ?_
        clear hK K
        try simp only [aP]
        refine wpAny_done (by kernel_rfl) ?_ _
        have HQ10 : Hid (WoS w w6 hl N m A v6 (S ++ [(lp, i, f, wd.heap.size)])) := HNx.out v6 w6 H6.out.1 H6.out.2
        have HW6 : Hid (∃ pv cv, v6 = .slice pv (S.length + 1) cv) := by
          obtain ⟨pv, cv, e, -⟩ := owns_len H6.out.1
          exact ⟨pv, cv, e⟩
        clear H6
        go_wp2_with fail
        go_roundw
        case rel => exact ⟨i + 1, _, by omega, (by show (S ++ [(lp, i, f, wd.heap.size)]).length = i + 1; rw [List.length_append, hS.out]; rfl), by go_num, HQ10⟩
        case measure => simp [intOf]; omega
    · obtain rfl : i = h := by omega
      have z1 : ¬ (i : Int) < i := by omega
      go_wp2_with fail
      go_ret
      exact ⟨_, rfl, S, HQ.out, hS.out⟩

end Go.Proofs.Ytojfohpnfciajaa
