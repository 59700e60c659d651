/- StatusApart: the law's walk. -/
import Derived.Test.YtmcdpadmjicafaaMAp9
namespace Go.Proofs.Ytmcdpadmjicafaa
open Go.RowKit Go.Maps
set_option maxRecDepth 100000

theorem P2.und {w wr : World} {ta xa tb xb : Nat} {A B : List Tx} (h : P2 w ta xa tb xb A B wr) : uN A ≤ 256 := by
  obtain ⟨⟨F, v, G, u, h1, h2, h3⟩, h4⟩ := h
  exact h1.sta.und
theorem P2.start {w w1 w2 : World} {ta tb : Nat} (ha : Sta w1 (fun k => w.heap.size ≤ k ∧ k < w1.heap.size) ta []) (b1 : Below w.heap.size w w1) (hb : Sta w2 (fun k => w1.heap.size ≤ k ∧ k < w2.heap.size) tb []) (b2 : Below w1.heap.size w1 w2) :
    P2 w ta w2.heap.size tb (w2.heap.size + 1) [] [] ((w2.alloc (.cells #[.slice none 0 0, .int .i64 0] 27)).alloc (.cells #[.slice none 0 0, .int .i64 0] 27)) := by
  have g1 := b1.size
  have g2 := b2.size
  have hs3 : (w2.alloc (.cells #[.slice none 0 0, .int .i64 0] 27)).heap.size = w2.heap.size + 1 := by simp
  have b3 : Below w2.heap.size w2 (w2.alloc (.cells #[.slice none 0 0, .int .i64 0] 27)) := (Below.refl _ _).alloc (Nat.le_refl _) _
  have b4 : Below (w2.alloc (.cells #[.slice none 0 0, .int .i64 0] 27)).heap.size (w2.alloc (.cells #[.slice none 0 0, .int .i64 0] 27)) ((w2.alloc (.cells #[.slice none 0 0, .int .i64 0] 27)).alloc (.cells #[.slice none 0 0, .int .i64 0] 27)) := (Below.refl _ _).alloc (Nat.le_refl _) _
  have x3 : BoxT (w2.alloc (.cells #[.slice none 0 0, .int .i64 0] 27)) w2.heap.size #[.slice none 0 0, .int .i64 0] 27 := BoxT.new _ _ _
  have x4 : BoxT ((w2.alloc (.cells #[.slice none 0 0, .int .i64 0] 27)).alloc (.cells #[.slice none 0 0, .int .i64 0] 27)) (w2.heap.size + 1) #[.slice none 0 0, .int .i64 0] 27 := by rw [← hs3]; exact BoxT.new _ _ _
  have k : ∀ {v v' : World} {F : Nat → Prop} {t : Nat}, Sta v F t [] → Below v.heap.size v v' → Sta v' F t [] := fun h b => h.keep (Frm.of_below b (F := fun _ => False)) (fun _ _ h => h)
  refine ⟨⟨_, .slice none 0 0, _, .slice none 0 0, ⟨k (k (k ha b2) b3) b4, ⟨rfl, .inl ⟨rfl, rfl⟩⟩, (fun g hg => by cases hg), x3.on b4, (fun h => by omega), (fun g hg => by cases hg), fun k hk => hk.1, (fun g hg => by cases hg), by omega⟩, ⟨k (k hb b3) b4, ⟨rfl, .inl ⟨rfl, rfl⟩⟩, (fun g hg => by cases hg), x4, (fun h => by omega), (fun g hg => by cases hg), fun k hk => by omega, (fun g hg => by cases hg), by omega⟩, ?_⟩, ((b1.trans (b2.mono g1)).trans (b3.mono (by omega))).trans (b4.mono (by omega))⟩
  rintro k (h1 | h1 | h1) (h2 | h2 | h2)
  · omega
  · cases h2
  · omega
  · cases h1
  · cases h1
  · cases h1
  · omega
  · cases h2
  · omega

set_option maxHeartbeats 16000000 in
theorem lawApart (L M : List ActC) (q q' : Option Addr) (c c' : Nat) (w : World) (hR : RdA w w.heap.size q L) (hR2 : RdA w w.heap.size q' M) (hlen : L.length ≤ 5870000000000) (hlen2 : M.length ≤ 5870000000000) :
    Calls Try.prog 6 #[.slice q L.length c, .slice q' M.length c'] w fun e w' => e = .returned (.bool true) ∧ Below w.heap.size w w' := by
  have HR1 : Hid (RdA _ _ _ _) := hR
  have HR2 : Hid (RdA _ _ _ _) := hR2
  clear hR hR2
  have C0 : Hid (Calls _ _ _ _ _) := new_any w
  go_enter Try.func6, Try.ntmps6
  go_wp2_with fail
  refine C0.out.mono ?_
  rintro e w1 ⟨ta, rfl, hta, hs1, hb1⟩
  have HS1 : Hid (_ ∧ _) := ⟨hs1, hb1⟩
  have C1 : Hid (Calls _ _ _ _ _) := new_any w1
  clear hs1 hb1 C0 hta
  go_wp2_with fail
  refine C1.out.mono ?_
  rintro e w2 ⟨tb, rfl, htb, hs2, hb2⟩
  have HP : Hid (P2 _ _ _ _ _ _ _ _) := P2.start HS1.out.1 HS1.out.2 hs2 hb2
  obtain ⟨xa, hxa⟩ : ∃ bx, bx = w2.heap.size := ⟨_, rfl⟩
  obtain ⟨xb, hxb⟩ : ∃ bx, bx = xa + 1 := ⟨_, rfl⟩
  rw [← hxa, ← hxb] at HP
  clear hs2 hb2 C1 htb HS1
  go_wp2_with fail
  rw [← hxa, ← hxb]
  generalize ((w2.alloc (.cells #[.slice none 0 0, .int .i64 0] 27)).alloc (.cells #[.slice none 0 0, .int .i64 0] 27)) = w3 at *
  clear hxa hxb
  go_loopw [9] (fun i wr => ∃ (j : Nat) (A B : List Tx), j ≤ max L.length M.length ∧ i = .int .i64 (j : Int) ∧ Hid (P2 w ta xa tb xb A B wr) ∧ Hid (2 * A.length ≤ j + uN A) ∧ Hid (2 * B.length ≤ j + uN B)) (fun i _ => max L.length M.length - (intOf i).toNat)
  case atStart => exact ⟨0, [], [], Nat.zero_le _, by go_num, HP, Nat.le_refl _, Nat.le_refl _⟩
  case round =>
    obtain ⟨j, A, B, hj, rfl, hP, HUA, HUB⟩ := hrel
    clear HP
    have hj9 : j ≤ 5870000000000 := by omega
    have HTa : Hid (A.length < 4000000000000) := show _ < _ by
      have h1 := hP.out.und
      have h2 := HUA.out
      omega
    have HTb : Hid (B.length < 4000000000000) := show _ < _ by
      have h1 := hP.out.swap.und
      have h2 := HUB.out
      omega
    by_cases hja : j < L.length
    · by_cases hjb : j < M.length
      · obtain ⟨ga, oa, rfl, hgBa, d0, d1, d2, hn1, hn2⟩ := HR1.out j hja
        have e0 := (hP.out.bl.cell (p := ⟨ga, oa + j * 3, none⟩) hgBa).trans d0
        have e1 := (hP.out.bl.cell (p := ⟨ga, oa + j * 3 + 1, none⟩) hgBa).trans d1
        have e2 := (hP.out.bl.cell (p := ⟨ga, oa + j * 3 + 2, none⟩) hgBa).trans d2
        clear d0 d1 d2
        obtain ⟨pa, la, ca, hbx, C1⟩ := hP.out.drew.act HTa.out L[j].k L[j].n L[j].s hn1 hn2
        have hbx' : BoxT wr xa #[.slice pa la ca, .int .i64 (A.length : Nat)] 27 := hbx
        have y0 : wr.cell? ⟨xa, 0, none⟩ = some (.slice pa la ca) := hbx'.cell
        have y1 : wr.cell? ⟨xa, 1, none⟩ = some (.int .i64 (A.length : Nat)) := hbx'.cell
        have CH : Hid (True → Calls _ _ _ _ _) := fun _ => C1
        have HUa2 : Hid (2 * (stepT L[j].k L[j].n L[j].s A).length ≤ j + 1 + uN (stepT L[j].k L[j].n L[j].s A)) := step_len _ _ _ _ _ HUA.out
        generalize stepT L[j].k L[j].n L[j].s A = A2 at *
        generalize L[j].k = ak at *
        generalize L[j].n = an at *
        generalize L[j].s = ax at *
        clear hbx hbx' C1 hn1 hn2 hP HUA HTa
        go_wp2_with fail
        refine wp_region_any (by kernel_rfl) ?_
        change wpAny _ _ _ _ _ _ _ (World.drew _)
        refine anyN_take (v := ?_) 0 rfl (by kernel_rfl) (by kernel_rfl) (by kernel_rfl) (fun _ _ _ h => h) (Or.inl ⟨by rfl, ?_⟩) ?_
        rotate_left
        focus
          intro w9
          go_simp
          try with_reducible rfl
        try simp only [Act.put, List.setIfInBounds_toArray, List.set_cons_zero, List.set_cons_succ]
        refine anyN_take (v := ?_) 2 rfl (by kernel_rfl) (by kernel_rfl) (by kernel_rfl) (fun _ _ _ h => h) (Or.inl ⟨by rfl, ?_⟩) ?_
        rotate_left
        focus
          intro w9
          go_simp
          try with_reducible rfl
        try simp only [Act.put, List.setIfInBounds_toArray, List.set_cons_zero, List.set_cons_succ]
        refine anyN_take (v := ?_) 3 rfl (by kernel_rfl) (by kernel_rfl) (by kernel_rfl) (fun _ _ _ h => h) (Or.inl ⟨by rfl, ?_⟩) ?_
        rotate_left
        focus
          intro w9
          go_simp
          try with_reducible rfl
        try simp only [Act.put, List.setIfInBounds_toArray, List.set_cons_zero, List.set_cons_succ]
        refine anyN_take (v := ?_) 4 rfl (by kernel_rfl) (by kernel_rfl) (by kernel_rfl) (fun _ _ _ h => h) (Or.inl ⟨by rfl, ?_⟩) ?_
        rotate_left
        focus
          intro w9
          go_simp
          try with_reducible rfl
        try simp only [Act.put, List.setIfInBounds_toArray, List.set_cons_zero, List.set_cons_succ]
        refine wpAny_ready (rs := [1, 5]) (by kernel_rfl) (by simp) ?_
        refine anyN_cons 1 rfl (by rfl) (fun K hK => ?_) (anyN_cons 5 rfl (by rfl) (fun K hK => ?_) AllReady.nil)
        · go_simp
          refine hK.out _ _ ?_
          clear hK K
          try simp only [Act.put, List.setIfInBounds_toArray, List.set_cons_zero, List.set_cons_succ]
          refine wpAny_ready (rs := [5]) (by kernel_rfl) (by simp) ?_
          refine anyN_cons 5 rfl (by rfl) (fun K hK => ?_) AllReady.nil
          go_simp
          refine hK.out _ _ ?_
          clear hK K
          try simp only [Act.put, List.setIfInBounds_toArray, List.set_cons_zero, List.set_cons_succ]
          refine wpAny_ready (rs := [6]) (by kernel_rfl) (by simp) ?_
          refine anyN_cons 6 rfl (by rfl) (fun K hK => ?_) AllReady.nil
          go_simp
          refine (CH.out trivial).mono ?_
          rintro e w2 ⟨q2, l2, d2, rfl, hb2, hP2⟩
          dsimp only
          have HP2 : Hid (P2 _ _ _ _ _ _ _ _) := hP2
          have z0 : w2.cell? ⟨xa, 0, none⟩ = some (.slice pa la ca) := hb2.cell
          have z1 : w2.cell? ⟨xa, 1, none⟩ = some (.int .i64 (A.length : Nat)) := hb2.cell
          have z2 : w2.frozen? ⟨xa, 0, none⟩ = false := hb2.frozen
          have z3 : w2.frozen? ⟨xa, 1, none⟩ = false := hb2.frozen
          clear hb2 hP2
          refine hK.out _ _ ?_
          clear hK K
          try simp only [Act.put, List.setIfInBounds_toArray, List.set_cons_zero, List.set_cons_succ]
          refine anyN_take (v := ?_) 7 rfl (by kernel_rfl) (by kernel_rfl) (by kernel_rfl) (fun _ _ _ h => h) (Or.inl ⟨by rfl, ?_⟩) ?_
          rotate_left
          focus
            intro w9
            go_simp
            try with_reducible rfl
          try simp only [Act.put, List.setIfInBounds_toArray, List.set_cons_zero, List.set_cons_succ]
          refine anyN_take (v := ?_) 8 rfl (by kernel_rfl) (by kernel_rfl) (by kernel_rfl) (fun _ _ _ h => h) (Or.inl ⟨by rfl, ?_⟩) ?_
          rotate_left
          focus
            intro w9
            go_simp
            try with_reducible rfl
          try simp only [Act.put, List.setIfInBounds_toArray, List.set_cons_zero, List.set_cons_succ]
          refine anyN_take (v := ?_) 9 rfl (by kernel_rfl) (by kernel_rfl) (by kernel_rfl) (fun _ _ _ h => h) (Or.inl ⟨by rfl, ?_⟩) ?_
          rotate_left
          focus
            intro w9
            go_simp
            try with_reducible rfl
          try simp only [Act.put, List.setIfInBounds_toArray, List.set_cons_zero, List.set_cons_succ]
          refine wpAny_ready (rs := [10]) (by kernel_rfl) (by simp) ?_
          refine anyN_cons 10 rfl (by rfl) (fun K hK => ?_) AllReady.nil
          go_simp
          refine hK.out _ _ ?_
          clear hK K
          try simp only [Act.put, List.setIfInBounds_toArray, List.set_cons_zero, List.set_cons_succ]
          refine wpAny_done (by kernel_rfl) ?_ _
          have HPa : Hid (P2 w ta xa tb xb A2 B ((w2.setCell ⟨xa, 0, none⟩ (.slice q2 l2 d2)).setCell ⟨xa, 1, none⟩ (.int .i64 (A2.length : Nat)))) := HP2.out
          go_wp2_with fail
          generalize ((w2.setCell ⟨xa, 0, none⟩ (.slice q2 l2 d2)).setCell ⟨xa, 1, none⟩ (.int .i64 (A2.length : Nat))) = wq at *
          clear HP2 z0 z1 z2 z3 e0 e1 e2 y0 y1 CH
          obtain ⟨gb, ob, rfl, hgBb, d0, d1, d2, hn1, hn2⟩ := HR2.out j hjb
          have e0 := (HPa.out.bl.cell (p := ⟨gb, ob + j * 3, none⟩) hgBb).trans d0
          have e1 := (HPa.out.bl.cell (p := ⟨gb, ob + j * 3 + 1, none⟩) hgBb).trans d1
          have e2 := (HPa.out.bl.cell (p := ⟨gb, ob + j * 3 + 2, none⟩) hgBb).trans d2
          clear d0 d1 d2
          obtain ⟨pb, lb, cb, hbx, C1⟩ := HPa.out.drew.swap.act HTb.out M[j].k M[j].n M[j].s hn1 hn2
          have hbx' : BoxT wq xb #[.slice pb lb cb, .int .i64 (B.length : Nat)] 27 := hbx
          have y0 : wq.cell? ⟨xb, 0, none⟩ = some (.slice pb lb cb) := hbx'.cell
          have y1 : wq.cell? ⟨xb, 1, none⟩ = some (.int .i64 (B.length : Nat)) := hbx'.cell
          have CH : Hid (True → Calls _ _ _ _ _) := fun _ => C1
          have HUb2 : Hid (2 * (stepT M[j].k M[j].n M[j].s B).length ≤ j + 1 + uN (stepT M[j].k M[j].n M[j].s B)) := step_len _ _ _ _ _ HUB.out
          generalize stepT M[j].k M[j].n M[j].s B = B2 at *
          generalize M[j].k = ak at *
          generalize M[j].n = an at *
          generalize M[j].s = ax at *
          clear hbx hbx' C1 hn1 hn2 HPa HUB HTb
          go_wp2_with fail
          refine wp_region_any (by kernel_rfl) ?_
          change wpAny _ _ _ _ _ _ _ (World.drew _)
          refine anyN_take (v := ?_) 0 rfl (by kernel_rfl) (by kernel_rfl) (by kernel_rfl) (fun _ _ _ h => h) (Or.inl ⟨by rfl, ?_⟩) ?_
          rotate_left
          focus
            intro w9
            go_simp
            try with_reducible rfl
          try simp only [Act.put, List.setIfInBounds_toArray, List.set_cons_zero, List.set_cons_succ]
          refine anyN_take (v := ?_) 2 rfl (by kernel_rfl) (by kernel_rfl) (by kernel_rfl) (fun _ _ _ h => h) (Or.inl ⟨by rfl, ?_⟩) ?_
          rotate_left
          focus
            intro w9
            go_simp
            try with_reducible rfl
          try simp only [Act.put, List.setIfInBounds_toArray, List.set_cons_zero, List.set_cons_succ]
          refine anyN_take (v := ?_) 3 rfl (by kernel_rfl) (by kernel_rfl) (by kernel_rfl) (fun _ _ _ h => h) (Or.inl ⟨by rfl, ?_⟩) ?_
          rotate_left
          focus
            intro w9
            go_simp
            try with_reducible rfl
          try simp only [Act.put, List.setIfInBounds_toArray, List.set_cons_zero, List.set_cons_succ]
          refine anyN_take (v := ?_) 4 rfl (by kernel_rfl) (by kernel_rfl) (by kernel_rfl) (fun _ _ _ h => h) (Or.inl ⟨by rfl, ?_⟩) ?_
          rotate_left
          focus
            intro w9
            go_simp
            try with_reducible rfl
          try simp only [Act.put, List.setIfInBounds_toArray, List.set_cons_zero, List.set_cons_succ]
          refine wpAny_ready (rs := [1, 5]) (by kernel_rfl) (by simp) ?_
          refine anyN_cons 1 rfl (by rfl) (fun K hK => ?_) (anyN_cons 5 rfl (by rfl) (fun K hK => ?_) AllReady.nil)
          · go_simp
            refine hK.out _ _ ?_
            clear hK K
            try simp only [Act.put, List.setIfInBounds_toArray, List.set_cons_zero, List.set_cons_succ]
            refine wpAny_ready (rs := [5]) (by kernel_rfl) (by simp) ?_
            refine anyN_cons 5 rfl (by rfl) (fun K hK => ?_) AllReady.nil
            go_simp
            refine hK.out _ _ ?_
            clear hK K
            try simp only [Act.put, List.setIfInBounds_toArray, List.set_cons_zero, List.set_cons_succ]
            refine wpAny_ready (rs := [6]) (by kernel_rfl) (by simp) ?_
            refine anyN_cons 6 rfl (by rfl) (fun K hK => ?_) AllReady.nil
            go_simp
            refine (CH.out trivial).mono ?_
            rintro e w2 ⟨q2, l2, d2, rfl, hb2, hP2⟩
            dsimp only
            have HP2 : Hid (P2 _ _ _ _ _ _ _ _) := hP2
            have z0 : w2.cell? ⟨xb, 0, none⟩ = some (.slice pb lb cb) := hb2.cell
            have z1 : w2.cell? ⟨xb, 1, none⟩ = some (.int .i64 (B.length : Nat)) := hb2.cell
            have z2 : w2.frozen? ⟨xb, 0, none⟩ = false := hb2.frozen
            have z3 : w2.frozen? ⟨xb, 1, none⟩ = false := hb2.frozen
            clear hb2 hP2
            refine hK.out _ _ ?_
            clear hK K
            try simp only [Act.put, List.setIfInBounds_toArray, List.set_cons_zero, List.set_cons_succ]
            refine anyN_take (v := ?_) 7 rfl (by kernel_rfl) (by kernel_rfl) (by kernel_rfl) (fun _ _ _ h => h) (Or.inl ⟨by rfl, ?_⟩) ?_
            rotate_left
            focus
              intro w9
              go_simp
              try with_reducible rfl
            try simp only [Act.put, List.setIfInBounds_toArray, List.set_cons_zero, List.set_cons_succ]
            refine anyN_take (v := ?_) 8 rfl (by kernel_rfl) (by kernel_rfl) (by kernel_rfl) (fun _ _ _ h => h) (Or.inl ⟨by rfl, ?_⟩) ?_
            rotate_left
            focus
              intro w9
              go_simp
              try with_reducible rfl
            try simp only [Act.put, List.setIfInBounds_toArray, List.set_cons_zero, List.set_cons_succ]
            refine anyN_take (v := ?_) 9 rfl (by kernel_rfl) (by kernel_rfl) (by kernel_rfl) (fun _ _ _ h => h) (Or.inl ⟨by rfl, ?_⟩) ?_
            rotate_left
            focus
              intro w9
              go_simp
              try with_reducible rfl
            try simp only [Act.put, List.setIfInBounds_toArray, List.set_cons_zero, List.set_cons_succ]
            refine wpAny_ready (rs := [10]) (by kernel_rfl) (by simp) ?_
            refine anyN_cons 10 rfl (by rfl) (fun K hK => ?_) AllReady.nil
            go_simp
            refine hK.out _ _ ?_
            clear hK K
            try simp only [Act.put, List.setIfInBounds_toArray, List.set_cons_zero, List.set_cons_succ]
            refine wpAny_done (by kernel_rfl) ?_ _
            have HPb : Hid (P2 w ta xa tb xb A2 B2 ((w2.setCell ⟨xb, 0, none⟩ (.slice q2 l2 d2)).setCell ⟨xb, 1, none⟩ (.int .i64 (B2.length : Nat)))) := HP2.out.swap
            go_wp2_with fail
            generalize ((w2.setCell ⟨xb, 0, none⟩ (.slice q2 l2 d2)).setCell ⟨xb, 1, none⟩ (.int .i64 (B2.length : Nat))) = wz at *
            clear HP2 z0 z1 z2 z3 e0 e1 e2 y0 y1 CH
            have C7 : Hid (Calls _ _ _ _ _) := HPb.out.told
            have hnn : (openA 0 A2).length ≤ 256 := by rw [openA_len, uN_undI]; exact HPb.out.und
            generalize (openA 0 A2).length = nn at *
            clear HPb
            go_wp2_with fail
            refine C7.out.mono ?_
            rintro e w7 ⟨gt, rfl, ht⟩
            have HT7 : Hid (Told _ _ _ _ _ _ _ _ _ _) := ht
            clear ht C7
            go_wp2_with fail
            go_loopw [11] (fun i wr => ∃ t : Nat, t ≤ nn ∧ i = .int .i64 (t : Int) ∧ Hid (Told w ta xa tb xb A2 B2 gt nn wr)) (fun i _ => nn - (intOf i).toNat)
            case atStart => exact ⟨0, Nat.zero_le _, by go_num, HT7⟩
            case round =>
              clear HT7
              obtain ⟨t, ht, rfl, hT⟩ := hrel
              by_cases ht0 : t = nn
              · subst ht0
                have HP9 : Hid (P2 _ _ _ _ _ _ _ _) := hT.out.over
                clear hT
                go_wp2_with fail
                go_roundw
                case rel => exact ⟨j + 1, _, _, by omega, by go_num, HP9, HUa2, HUb2⟩
                case measure => simp [intOf]; omega
              · have ht1 : t < nn := by omega
                obtain ⟨⟨y, cy⟩, fy⟩ := hT.out.cell ht1
                have HT9 : Hid (Told _ _ _ _ _ _ _ _ _ _) := hT.out.set t (-7)
                clear hT
                go_wp2_with fail
                go_roundw
                case rel => exact ⟨t + 1, by omega, by go_num, HT9⟩
                case measure => simp [intOf]; omega
          · go_simp
            refine hK.out _ _ ?_
            clear hK K
            try simp only [Act.put, List.setIfInBounds_toArray, List.set_cons_zero, List.set_cons_succ]
            refine wpAny_ready (rs := [1]) (by kernel_rfl) (by simp) ?_
            refine anyN_cons 1 rfl (by rfl) (fun K hK => ?_) AllReady.nil
            go_simp
            refine hK.out _ _ ?_
            clear hK K
            try simp only [Act.put, List.setIfInBounds_toArray, List.set_cons_zero, List.set_cons_succ]
            refine wpAny_ready (rs := [6]) (by kernel_rfl) (by simp) ?_
            refine anyN_cons 6 rfl (by rfl) (fun K hK => ?_) AllReady.nil
            go_simp
            refine (CH.out trivial).mono ?_
            rintro e w2 ⟨q2, l2, d2, rfl, hb2, hP2⟩
            dsimp only
            have HP2 : Hid (P2 _ _ _ _ _ _ _ _) := hP2
            have z0 : w2.cell? ⟨xb, 0, none⟩ = some (.slice pb lb cb) := hb2.cell
            have z1 : w2.cell? ⟨xb, 1, none⟩ = some (.int .i64 (B.length : Nat)) := hb2.cell
            have z2 : w2.frozen? ⟨xb, 0, none⟩ = false := hb2.frozen
            have z3 : w2.frozen? ⟨xb, 1, none⟩ = false := hb2.frozen
            clear hb2 hP2
            refine hK.out _ _ ?_
            clear hK K
            try simp only [Act.put, List.setIfInBounds_toArray, List.set_cons_zero, List.set_cons_succ]
            refine anyN_take (v := ?_) 7 rfl (by kernel_rfl) (by kernel_rfl) (by kernel_rfl) (fun _ _ _ h => h) (Or.inl ⟨by rfl, ?_⟩) ?_
            rotate_left
            focus
              intro w9
              go_simp
              try with_reducible rfl
            try simp only [Act.put, List.setIfInBounds_toArray, List.set_cons_zero, List.set_cons_succ]
            refine anyN_take (v := ?_) 8 rfl (by kernel_rfl) (by kernel_rfl) (by kernel_rfl) (fun _ _ _ h => h) (Or.inl ⟨by rfl, ?_⟩) ?_
            rotate_left
            focus
              intro w9
              go_simp
              try with_reducible rfl
            try simp only [Act.put, List.setIfInBounds_toArray, List.set_cons_zero, List.set_cons_succ]
            refine anyN_take (v := ?_) 9 rfl (by kernel_rfl) (by kernel_rfl) (by kernel_rfl) (fun _ _ _ h => h) (Or.inl ⟨by rfl, ?_⟩) ?_
            rotate_left
            focus
              intro w9
              go_simp
              try with_reducible rfl
            try simp only [Act.put, List.setIfInBounds_toArray, List.set_cons_zero, List.set_cons_succ]
            refine wpAny_ready (rs := [10]) (by kernel_rfl) (by simp) ?_
            refine anyN_cons 10 rfl (by rfl) (fun K hK => ?_) AllReady.nil
            go_simp
            refine hK.out _ _ ?_
            clear hK K
            try simp only [Act.put, List.setIfInBounds_toArray, List.set_cons_zero, List.set_cons_succ]
            refine wpAny_done (by kernel_rfl) ?_ _
            have HPb : Hid (P2 w ta xa tb xb A2 B2 ((w2.setCell ⟨xb, 0, none⟩ (.slice q2 l2 d2)).setCell ⟨xb, 1, none⟩ (.int .i64 (B2.length : Nat)))) := HP2.out.swap
            go_wp2_with fail
            generalize ((w2.setCell ⟨xb, 0, none⟩ (.slice q2 l2 d2)).setCell ⟨xb, 1, none⟩ (.int .i64 (B2.length : Nat))) = wz at *
            clear HP2 z0 z1 z2 z3 e0 e1 e2 y0 y1 CH
            have C7 : Hid (Calls _ _ _ _ _) := HPb.out.told
            have hnn : (openA 0 A2).length ≤ 256 := by rw [openA_len, uN_undI]; exact HPb.out.und
            generalize (openA 0 A2).length = nn at *
            clear HPb
            go_wp2_with fail
            refine C7.out.mono ?_
            rintro e w7 ⟨gt, rfl, ht⟩
            have HT7 : Hid (Told _ _ _ _ _ _ _ _ _ _) := ht
            clear ht C7
            go_wp2_with fail
            go_loopw [11] (fun i wr => ∃ t : Nat, t ≤ nn ∧ i = .int .i64 (t : Int) ∧ Hid (Told w ta xa tb xb A2 B2 gt nn wr)) (fun i _ => nn - (intOf i).toNat)
            case atStart => exact ⟨0, Nat.zero_le _, by go_num, HT7⟩
            case round =>
              clear HT7
              obtain ⟨t, ht, rfl, hT⟩ := hrel
              by_cases ht0 : t = nn
              · subst ht0
                have HP9 : Hid (P2 _ _ _ _ _ _ _ _) := hT.out.over
                clear hT
                go_wp2_with fail
                go_roundw
                case rel => exact ⟨j + 1, _, _, by omega, by go_num, HP9, HUa2, HUb2⟩
                case measure => simp [intOf]; omega
              · have ht1 : t < nn := by omega
                obtain ⟨⟨y, cy⟩, fy⟩ := hT.out.cell ht1
                have HT9 : Hid (Told _ _ _ _ _ _ _ _ _ _) := hT.out.set t (-7)
                clear hT
                go_wp2_with fail
                go_roundw
                case rel => exact ⟨t + 1, by omega, by go_num, HT9⟩
                case measure => simp [intOf]; omega
        · go_simp
          refine hK.out _ _ ?_
          clear hK K
          try simp only [Act.put, List.setIfInBounds_toArray, List.set_cons_zero, List.set_cons_succ]
          refine wpAny_ready (rs := [1]) (by kernel_rfl) (by simp) ?_
          refine anyN_cons 1 rfl (by rfl) (fun K hK => ?_) AllReady.nil
          go_simp
          refine hK.out _ _ ?_
          clear hK K
          try simp only [Act.put, List.setIfInBounds_toArray, List.set_cons_zero, List.set_cons_succ]
          refine wpAny_ready (rs := [6]) (by kernel_rfl) (by simp) ?_
          refine anyN_cons 6 rfl (by rfl) (fun K hK => ?_) AllReady.nil
          go_simp
          refine (CH.out trivial).mono ?_
          rintro e w2 ⟨q2, l2, d2, rfl, hb2, hP2⟩
          dsimp only
          have HP2 : Hid (P2 _ _ _ _ _ _ _ _) := hP2
          have z0 : w2.cell? ⟨xa, 0, none⟩ = some (.slice pa la ca) := hb2.cell
          have z1 : w2.cell? ⟨xa, 1, none⟩ = some (.int .i64 (A.length : Nat)) := hb2.cell
          have z2 : w2.frozen? ⟨xa, 0, none⟩ = false := hb2.frozen
          have z3 : w2.frozen? ⟨xa, 1, none⟩ = false := hb2.frozen
          clear hb2 hP2
          refine hK.out _ _ ?_
          clear hK K
          try simp only [Act.put, List.setIfInBounds_toArray, List.set_cons_zero, List.set_cons_succ]
          refine anyN_take (v := ?_) 7 rfl (by kernel_rfl) (by kernel_rfl) (by kernel_rfl) (fun _ _ _ h => h) (Or.inl ⟨by rfl, ?_⟩) ?_
          rotate_left
          focus
            intro w9
            go_simp
            try with_reducible rfl
          try simp only [Act.put, List.setIfInBounds_toArray, List.set_cons_zero, List.set_cons_succ]
          refine anyN_take (v := ?_) 8 rfl (by kernel_rfl) (by kernel_rfl) (by kernel_rfl) (fun _ _ _ h => h) (Or.inl ⟨by rfl, ?_⟩) ?_
          rotate_left
          focus
            intro w9
            go_simp
            try with_reducible rfl
          try simp only [Act.put, List.setIfInBounds_toArray, List.set_cons_zero, List.set_cons_succ]
          refine anyN_take (v := ?_) 9 rfl (by kernel_rfl) (by kernel_rfl) (by kernel_rfl) (fun _ _ _ h => h) (Or.inl ⟨by rfl, ?_⟩) ?_
          rotate_left
          focus
            intro w9
            go_simp
            try with_reducible rfl
          try simp only [Act.put, List.setIfInBounds_toArray, List.set_cons_zero, List.set_cons_succ]
          refine wpAny_ready (rs := [10]) (by kernel_rfl) (by simp) ?_
          refine anyN_cons 10 rfl (by rfl) (fun K hK => ?_) AllReady.nil
          go_simp
          refine hK.out _ _ ?_
          clear hK K
          try simp only [Act.put, List.setIfInBounds_toArray, List.set_cons_zero, List.set_cons_succ]
          refine wpAny_done (by kernel_rfl) ?_ _
          have HPa : Hid (P2 w ta xa tb xb A2 B ((w2.setCell ⟨xa, 0, none⟩ (.slice q2 l2 d2)).setCell ⟨xa, 1, none⟩ (.int .i64 (A2.length : Nat)))) := HP2.out
          go_wp2_with fail
          generalize ((w2.setCell ⟨xa, 0, none⟩ (.slice q2 l2 d2)).setCell ⟨xa, 1, none⟩ (.int .i64 (A2.length : Nat))) = wq at *
          clear HP2 z0 z1 z2 z3 e0 e1 e2 y0 y1 CH
          obtain ⟨gb, ob, rfl, hgBb, d0, d1, d2, hn1, hn2⟩ := HR2.out j hjb
          have e0 := (HPa.out.bl.cell (p := ⟨gb, ob + j * 3, none⟩) hgBb).trans d0
          have e1 := (HPa.out.bl.cell (p := ⟨gb, ob + j * 3 + 1, none⟩) hgBb).trans d1
          have e2 := (HPa.out.bl.cell (p := ⟨gb, ob + j * 3 + 2, none⟩) hgBb).trans d2
          clear d0 d1 d2
          obtain ⟨pb, lb, cb, hbx, C1⟩ := HPa.out.drew.swap.act HTb.out M[j].k M[j].n M[j].s hn1 hn2
          have hbx' : BoxT wq xb #[.slice pb lb cb, .int .i64 (B.length : Nat)] 27 := hbx
          have y0 : wq.cell? ⟨xb, 0, none⟩ = some (.slice pb lb cb) := hbx'.cell
          have y1 : wq.cell? ⟨xb, 1, none⟩ = some (.int .i64 (B.length : Nat)) := hbx'.cell
          have CH : Hid (True → Calls _ _ _ _ _) := fun _ => C1
          have HUb2 : Hid (2 * (stepT M[j].k M[j].n M[j].s B).length ≤ j + 1 + uN (stepT M[j].k M[j].n M[j].s B)) := step_len _ _ _ _ _ HUB.out
          generalize stepT M[j].k M[j].n M[j].s B = B2 at *
          generalize M[j].k = ak at *
          generalize M[j].n = an at *
          generalize M[j].s = ax at *
          clear hbx hbx' C1 hn1 hn2 HPa HUB HTb
          go_wp2_with fail
          refine wp_region_any (by kernel_rfl) ?_
          change wpAny _ _ _ _ _ _ _ (World.drew _)
          refine anyN_take (v := ?_) 0 rfl (by kernel_rfl) (by kernel_rfl) (by kernel_rfl) (fun _ _ _ h => h) (Or.inl ⟨by rfl, ?_⟩) ?_
          rotate_left
          focus
            intro w9
            go_simp
            try with_reducible rfl
          try simp only [Act.put, List.setIfInBounds_toArray, List.set_cons_zero, List.set_cons_succ]
          refine anyN_take (v := ?_) 2 rfl (by kernel_rfl) (by kernel_rfl) (by kernel_rfl) (fun _ _ _ h => h) (Or.inl ⟨by rfl, ?_⟩) ?_
          rotate_left
          focus
            intro w9
            go_simp
            try with_reducible rfl
          try simp only [Act.put, List.setIfInBounds_toArray, List.set_cons_zero, List.set_cons_succ]
          refine anyN_take (v := ?_) 3 rfl (by kernel_rfl) (by kernel_rfl) (by kernel_rfl) (fun _ _ _ h => h) (Or.inl ⟨by rfl, ?_⟩) ?_
          rotate_left
          focus
            intro w9
            go_simp
            try with_reducible rfl
          try simp only [Act.put, List.setIfInBounds_toArray, List.set_cons_zero, List.set_cons_succ]
          refine anyN_take (v := ?_) 4 rfl (by kernel_rfl) (by kernel_rfl) (by kernel_rfl) (fun _ _ _ h => h) (Or.inl ⟨by rfl, ?_⟩) ?_
          rotate_left
          focus
            intro w9
            go_simp
            try with_reducible rfl
          try simp only [Act.put, List.setIfInBounds_toArray, List.set_cons_zero, List.set_cons_succ]
          refine wpAny_ready (rs := [1, 5]) (by kernel_rfl) (by simp) ?_
          refine anyN_cons 1 rfl (by rfl) (fun K hK => ?_) (anyN_cons 5 rfl (by rfl) (fun K hK => ?_) AllReady.nil)
          · go_simp
            refine hK.out _ _ ?_
            clear hK K
            try simp only [Act.put, List.setIfInBounds_toArray, List.set_cons_zero, List.set_cons_succ]
            refine wpAny_ready (rs := [5]) (by kernel_rfl) (by simp) ?_
            refine anyN_cons 5 rfl (by rfl) (fun K hK => ?_) AllReady.nil
            go_simp
            refine hK.out _ _ ?_
            clear hK K
            try simp only [Act.put, List.setIfInBounds_toArray, List.set_cons_zero, List.set_cons_succ]
            refine wpAny_ready (rs := [6]) (by kernel_rfl) (by simp) ?_
            refine anyN_cons 6 rfl (by rfl) (fun K hK => ?_) AllReady.nil
            go_simp
            refine (CH.out trivial).mono ?_
            rintro e w2 ⟨q2, l2, d2, rfl, hb2, hP2⟩
            dsimp only
            have HP2 : Hid (P2 _ _ _ _ _ _ _ _) := hP2
            have z0 : w2.cell? ⟨xb, 0, none⟩ = some (.slice pb lb cb) := hb2.cell
            have z1 : w2.cell? ⟨xb, 1, none⟩ = some (.int .i64 (B.length : Nat)) := hb2.cell
            have z2 : w2.frozen? ⟨xb, 0, none⟩ = false := hb2.frozen
            have z3 : w2.frozen? ⟨xb, 1, none⟩ = false := hb2.frozen
            clear hb2 hP2
            refine hK.out _ _ ?_
            clear hK K
            try simp only [Act.put, List.setIfInBounds_toArray, List.set_cons_zero, List.set_cons_succ]
            refine anyN_take (v := ?_) 7 rfl (by kernel_rfl) (by kernel_rfl) (by kernel_rfl) (fun _ _ _ h => h) (Or.inl ⟨by rfl, ?_⟩) ?_
            rotate_left
            focus
              intro w9
              go_simp
              try with_reducible rfl
            try simp only [Act.put, List.setIfInBounds_toArray, List.set_cons_zero, List.set_cons_succ]
            refine anyN_take (v := ?_) 8 rfl (by kernel_rfl) (by kernel_rfl) (by kernel_rfl) (fun _ _ _ h => h) (Or.inl ⟨by rfl, ?_⟩) ?_
            rotate_left
            focus
              intro w9
              go_simp
              try with_reducible rfl
            try simp only [Act.put, List.setIfInBounds_toArray, List.set_cons_zero, List.set_cons_succ]
            refine anyN_take (v := ?_) 9 rfl (by kernel_rfl) (by kernel_rfl) (by kernel_rfl) (fun _ _ _ h => h) (Or.inl ⟨by rfl, ?_⟩) ?_
            rotate_left
            focus
              intro w9
              go_simp
              try with_reducible rfl
            try simp only [Act.put, List.setIfInBounds_toArray, List.set_cons_zero, List.set_cons_succ]
            refine wpAny_ready (rs := [10]) (by kernel_rfl) (by simp) ?_
            refine anyN_cons 10 rfl (by rfl) (fun K hK => ?_) AllReady.nil
            go_simp
            refine hK.out _ _ ?_
            clear hK K
            try simp only [Act.put, List.setIfInBounds_toArray, List.set_cons_zero, List.set_cons_succ]
            refine wpAny_done (by kernel_rfl) ?_ _
            have HPb : Hid (P2 w ta xa tb xb A2 B2 ((w2.setCell ⟨xb, 0, none⟩ (.slice q2 l2 d2)).setCell ⟨xb, 1, none⟩ (.int .i64 (B2.length : Nat)))) := HP2.out.swap
            go_wp2_with fail
            generalize ((w2.setCell ⟨xb, 0, none⟩ (.slice q2 l2 d2)).setCell ⟨xb, 1, none⟩ (.int .i64 (B2.length : Nat))) = wz at *
            clear HP2 z0 z1 z2 z3 e0 e1 e2 y0 y1 CH
            have C7 : Hid (Calls _ _ _ _ _) := HPb.out.told
            have hnn : (openA 0 A2).length ≤ 256 := by rw [openA_len, uN_undI]; exact HPb.out.und
            generalize (openA 0 A2).length = nn at *
            clear HPb
            go_wp2_with fail
            refine C7.out.mono ?_
            rintro e w7 ⟨gt, rfl, ht⟩
            have HT7 : Hid (Told _ _ _ _ _ _ _ _ _ _) := ht
            clear ht C7
            go_wp2_with fail
            go_loopw [11] (fun i wr => ∃ t : Nat, t ≤ nn ∧ i = .int .i64 (t : Int) ∧ Hid (Told w ta xa tb xb A2 B2 gt nn wr)) (fun i _ => nn - (intOf i).toNat)
            case atStart => exact ⟨0, Nat.zero_le _, by go_num, HT7⟩
            case round =>
              clear HT7
              obtain ⟨t, ht, rfl, hT⟩ := hrel
              by_cases ht0 : t = nn
              · subst ht0
                have HP9 : Hid (P2 _ _ _ _ _ _ _ _) := hT.out.over
                clear hT
                go_wp2_with fail
                go_roundw
                case rel => exact ⟨j + 1, _, _, by omega, by go_num, HP9, HUa2, HUb2⟩
                case measure => simp [intOf]; omega
              · have ht1 : t < nn := by omega
                obtain ⟨⟨y, cy⟩, fy⟩ := hT.out.cell ht1
                have HT9 : Hid (Told _ _ _ _ _ _ _ _ _ _) := hT.out.set t (-7)
                clear hT
                go_wp2_with fail
                go_roundw
                case rel => exact ⟨t + 1, by omega, by go_num, HT9⟩
                case measure => simp [intOf]; omega
          · go_simp
            refine hK.out _ _ ?_
            clear hK K
            try simp only [Act.put, List.setIfInBounds_toArray, List.set_cons_zero, List.set_cons_succ]
            refine wpAny_ready (rs := [1]) (by kernel_rfl) (by simp) ?_
            refine anyN_cons 1 rfl (by rfl) (fun K hK => ?_) AllReady.nil
            go_simp
            refine hK.out _ _ ?_
            clear hK K
            try simp only [Act.put, List.setIfInBounds_toArray, List.set_cons_zero, List.set_cons_succ]
            refine wpAny_ready (rs := [6]) (by kernel_rfl) (by simp) ?_
            refine anyN_cons 6 rfl (by rfl) (fun K hK => ?_) AllReady.nil
            go_simp
            refine (CH.out trivial).mono ?_
            rintro e w2 ⟨q2, l2, d2, rfl, hb2, hP2⟩
            dsimp only
            have HP2 : Hid (P2 _ _ _ _ _ _ _ _) := hP2
            have z0 : w2.cell? ⟨xb, 0, none⟩ = some (.slice pb lb cb) := hb2.cell
            have z1 : w2.cell? ⟨xb, 1, none⟩ = some (.int .i64 (B.length : Nat)) := hb2.cell
            have z2 : w2.frozen? ⟨xb, 0, none⟩ = false := hb2.frozen
            have z3 : w2.frozen? ⟨xb, 1, none⟩ = false := hb2.frozen
            clear hb2 hP2
            refine hK.out _ _ ?_
            clear hK K
            try simp only [Act.put, List.setIfInBounds_toArray, List.set_cons_zero, List.set_cons_succ]
            refine anyN_take (v := ?_) 7 rfl (by kernel_rfl) (by kernel_rfl) (by kernel_rfl) (fun _ _ _ h => h) (Or.inl ⟨by rfl, ?_⟩) ?_
            rotate_left
            focus
              intro w9
              go_simp
              try with_reducible rfl
            try simp only [Act.put, List.setIfInBounds_toArray, List.set_cons_zero, List.set_cons_succ]
            refine anyN_take (v := ?_) 8 rfl (by kernel_rfl) (by kernel_rfl) (by kernel_rfl) (fun _ _ _ h => h) (Or.inl ⟨by rfl, ?_⟩) ?_
            rotate_left
            focus
              intro w9
              go_simp
              try with_reducible rfl
            try simp only [Act.put, List.setIfInBounds_toArray, List.set_cons_zero, List.set_cons_succ]
            refine anyN_take (v := ?_) 9 rfl (by kernel_rfl) (by kernel_rfl) (by kernel_rfl) (fun _ _ _ h => h) (Or.inl ⟨by rfl, ?_⟩) ?_
            rotate_left
            focus
              intro w9
              go_simp
              try with_reducible rfl
            try simp only [Act.put, List.setIfInBounds_toArray, List.set_cons_zero, List.set_cons_succ]
            refine wpAny_ready (rs := [10]) (by kernel_rfl) (by simp) ?_
            refine anyN_cons 10 rfl (by rfl) (fun K hK => ?_) AllReady.nil
            go_simp
            refine hK.out _ _ ?_
            clear hK K
            try simp only [Act.put, List.setIfInBounds_toArray, List.set_cons_zero, List.set_cons_succ]
            refine wpAny_done (by kernel_rfl) ?_ _
            have HPb : Hid (P2 w ta xa tb xb A2 B2 ((w2.setCell ⟨xb, 0, none⟩ (.slice q2 l2 d2)).setCell ⟨xb, 1, none⟩ (.int .i64 (B2.length : Nat)))) := HP2.out.swap
            go_wp2_with fail
            generalize ((w2.setCell ⟨xb, 0, none⟩ (.slice q2 l2 d2)).setCell ⟨xb, 1, none⟩ (.int .i64 (B2.length : Nat))) = wz at *
            clear HP2 z0 z1 z2 z3 e0 e1 e2 y0 y1 CH
            have C7 : Hid (Calls _ _ _ _ _) := HPb.out.told
            have hnn : (openA 0 A2).length ≤ 256 := by rw [openA_len, uN_undI]; exact HPb.out.und
            generalize (openA 0 A2).length = nn at *
            clear HPb
            go_wp2_with fail
            refine C7.out.mono ?_
            rintro e w7 ⟨gt, rfl, ht⟩
            have HT7 : Hid (Told _ _ _ _ _ _ _ _ _ _) := ht
            clear ht C7
            go_wp2_with fail
            go_loopw [11] (fun i wr => ∃ t : Nat, t ≤ nn ∧ i = .int .i64 (t : Int) ∧ Hid (Told w ta xa tb xb A2 B2 gt nn wr)) (fun i _ => nn - (intOf i).toNat)
            case atStart => exact ⟨0, Nat.zero_le _, by go_num, HT7⟩
            case round =>
              clear HT7
              obtain ⟨t, ht, rfl, hT⟩ := hrel
              by_cases ht0 : t = nn
              · subst ht0
                have HP9 : Hid (P2 _ _ _ _ _ _ _ _) := hT.out.over
                clear hT
                go_wp2_with fail
                go_roundw
                case rel => exact ⟨j + 1, _, _, by omega, by go_num, HP9, HUa2, HUb2⟩
                case measure => simp [intOf]; omega
              · have ht1 : t < nn := by omega
                obtain ⟨⟨y, cy⟩, fy⟩ := hT.out.cell ht1
                have HT9 : Hid (Told _ _ _ _ _ _ _ _ _ _) := hT.out.set t (-7)
                clear hT
                go_wp2_with fail
                go_roundw
                case rel => exact ⟨t + 1, by omega, by go_num, HT9⟩
                case measure => simp [intOf]; omega
      · obtain ⟨ga, oa, rfl, hgBa, d0, d1, d2, hn1, hn2⟩ := HR1.out j hja
        have e0 := (hP.out.bl.cell (p := ⟨ga, oa + j * 3, none⟩) hgBa).trans d0
        have e1 := (hP.out.bl.cell (p := ⟨ga, oa + j * 3 + 1, none⟩) hgBa).trans d1
        have e2 := (hP.out.bl.cell (p := ⟨ga, oa + j * 3 + 2, none⟩) hgBa).trans d2
        clear d0 d1 d2
        obtain ⟨pa, la, ca, hbx, C1⟩ := hP.out.drew.act HTa.out L[j].k L[j].n L[j].s hn1 hn2
        have hbx' : BoxT wr xa #[.slice pa la ca, .int .i64 (A.length : Nat)] 27 := hbx
        have y0 : wr.cell? ⟨xa, 0, none⟩ = some (.slice pa la ca) := hbx'.cell
        have y1 : wr.cell? ⟨xa, 1, none⟩ = some (.int .i64 (A.length : Nat)) := hbx'.cell
        have CH : Hid (True → Calls _ _ _ _ _) := fun _ => C1
        have HUa2 : Hid (2 * (stepT L[j].k L[j].n L[j].s A).length ≤ j + 1 + uN (stepT L[j].k L[j].n L[j].s A)) := step_len _ _ _ _ _ HUA.out
        generalize stepT L[j].k L[j].n L[j].s A = A2 at *
        generalize L[j].k = ak at *
        generalize L[j].n = an at *
        generalize L[j].s = ax at *
        clear hbx hbx' C1 hn1 hn2 hP HUA HTa
        go_wp2_with fail
        refine wp_region_any (by kernel_rfl) ?_
        change wpAny _ _ _ _ _ _ _ (World.drew _)
        refine anyN_take (v := ?_) 0 rfl (by kernel_rfl) (by kernel_rfl) (by kernel_rfl) (fun _ _ _ h => h) (Or.inl ⟨by rfl, ?_⟩) ?_
        rotate_left
        focus
          intro w9
          go_simp
          try with_reducible rfl
        try simp only [Act.put, List.setIfInBounds_toArray, List.set_cons_zero, List.set_cons_succ]
        refine anyN_take (v := ?_) 2 rfl (by kernel_rfl) (by kernel_rfl) (by kernel_rfl) (fun _ _ _ h => h) (Or.inl ⟨by rfl, ?_⟩) ?_
        rotate_left
        focus
          intro w9
          go_simp
          try with_reducible rfl
        try simp only [Act.put, List.setIfInBounds_toArray, List.set_cons_zero, List.set_cons_succ]
        refine anyN_take (v := ?_) 3 rfl (by kernel_rfl) (by kernel_rfl) (by kernel_rfl) (fun _ _ _ h => h) (Or.inl ⟨by rfl, ?_⟩) ?_
        rotate_left
        focus
          intro w9
          go_simp
          try with_reducible rfl
        try simp only [Act.put, List.setIfInBounds_toArray, List.set_cons_zero, List.set_cons_succ]
        refine anyN_take (v := ?_) 4 rfl (by kernel_rfl) (by kernel_rfl) (by kernel_rfl) (fun _ _ _ h => h) (Or.inl ⟨by rfl, ?_⟩) ?_
        rotate_left
        focus
          intro w9
          go_simp
          try with_reducible rfl
        try simp only [Act.put, List.setIfInBounds_toArray, List.set_cons_zero, List.set_cons_succ]
        refine wpAny_ready (rs := [1, 5]) (by kernel_rfl) (by simp) ?_
        refine anyN_cons 1 rfl (by rfl) (fun K hK => ?_) (anyN_cons 5 rfl (by rfl) (fun K hK => ?_) AllReady.nil)
        · go_simp
          refine hK.out _ _ ?_
          clear hK K
          try simp only [Act.put, List.setIfInBounds_toArray, List.set_cons_zero, List.set_cons_succ]
          refine wpAny_ready (rs := [5]) (by kernel_rfl) (by simp) ?_
          refine anyN_cons 5 rfl (by rfl) (fun K hK => ?_) AllReady.nil
          go_simp
          refine hK.out _ _ ?_
          clear hK K
          try simp only [Act.put, List.setIfInBounds_toArray, List.set_cons_zero, List.set_cons_succ]
          refine wpAny_ready (rs := [6]) (by kernel_rfl) (by simp) ?_
          refine anyN_cons 6 rfl (by rfl) (fun K hK => ?_) AllReady.nil
          go_simp
          refine (CH.out trivial).mono ?_
          rintro e w2 ⟨q2, l2, d2, rfl, hb2, hP2⟩
          dsimp only
          have HP2 : Hid (P2 _ _ _ _ _ _ _ _) := hP2
          have z0 : w2.cell? ⟨xa, 0, none⟩ = some (.slice pa la ca) := hb2.cell
          have z1 : w2.cell? ⟨xa, 1, none⟩ = some (.int .i64 (A.length : Nat)) := hb2.cell
          have z2 : w2.frozen? ⟨xa, 0, none⟩ = false := hb2.frozen
          have z3 : w2.frozen? ⟨xa, 1, none⟩ = false := hb2.frozen
          clear hb2 hP2
          refine hK.out _ _ ?_
          clear hK K
          try simp only [Act.put, List.setIfInBounds_toArray, List.set_cons_zero, List.set_cons_succ]
          refine anyN_take (v := ?_) 7 rfl (by kernel_rfl) (by kernel_rfl) (by kernel_rfl) (fun _ _ _ h => h) (Or.inl ⟨by rfl, ?_⟩) ?_
          rotate_left
          focus
            intro w9
            go_simp
            try with_reducible rfl
          try simp only [Act.put, List.setIfInBounds_toArray, List.set_cons_zero, List.set_cons_succ]
          refine anyN_take (v := ?_) 8 rfl (by kernel_rfl) (by kernel_rfl) (by kernel_rfl) (fun _ _ _ h => h) (Or.inl ⟨by rfl, ?_⟩) ?_
          rotate_left
          focus
            intro w9
            go_simp
            try with_reducible rfl
          try simp only [Act.put, List.setIfInBounds_toArray, List.set_cons_zero, List.set_cons_succ]
          refine anyN_take (v := ?_) 9 rfl (by kernel_rfl) (by kernel_rfl) (by kernel_rfl) (fun _ _ _ h => h) (Or.inl ⟨by rfl, ?_⟩) ?_
          rotate_left
          focus
            intro w9
            go_simp
            try with_reducible rfl
          try simp only [Act.put, List.setIfInBounds_toArray, List.set_cons_zero, List.set_cons_succ]
          refine wpAny_ready (rs := [10]) (by kernel_rfl) (by simp) ?_
          refine anyN_cons 10 rfl (by rfl) (fun K hK => ?_) AllReady.nil
          go_simp
          refine hK.out _ _ ?_
          clear hK K
          try simp only [Act.put, List.setIfInBounds_toArray, List.set_cons_zero, List.set_cons_succ]
          refine wpAny_done (by kernel_rfl) ?_ _
          have HPa : Hid (P2 w ta xa tb xb A2 B ((w2.setCell ⟨xa, 0, none⟩ (.slice q2 l2 d2)).setCell ⟨xa, 1, none⟩ (.int .i64 (A2.length : Nat)))) := HP2.out
          go_wp2_with fail
          generalize ((w2.setCell ⟨xa, 0, none⟩ (.slice q2 l2 d2)).setCell ⟨xa, 1, none⟩ (.int .i64 (A2.length : Nat))) = wq at *
          clear HP2 z0 z1 z2 z3 e0 e1 e2 y0 y1 CH
          have C7 : Hid (Calls _ _ _ _ _) := HPa.out.told
          have hnn : (openA 0 A2).length ≤ 256 := by rw [openA_len, uN_undI]; exact HPa.out.und
          generalize (openA 0 A2).length = nn at *
          clear HPa
          go_wp2_with fail
          refine C7.out.mono ?_
          rintro e w7 ⟨gt, rfl, ht⟩
          have HT7 : Hid (Told _ _ _ _ _ _ _ _ _ _) := ht
          clear ht C7
          go_wp2_with fail
          go_loopw [11] (fun i wr => ∃ t : Nat, t ≤ nn ∧ i = .int .i64 (t : Int) ∧ Hid (Told w ta xa tb xb A2 B gt nn wr)) (fun i _ => nn - (intOf i).toNat)
          case atStart => exact ⟨0, Nat.zero_le _, by go_num, HT7⟩
          case round =>
            clear HT7
            obtain ⟨t, ht, rfl, hT⟩ := hrel
            by_cases ht0 : t = nn
            · subst ht0
              have HP9 : Hid (P2 _ _ _ _ _ _ _ _) := hT.out.over
              clear hT
              go_wp2_with fail
              go_roundw
              case rel => exact ⟨j + 1, _, _, by omega, by go_num, HP9, HUa2, (show 2 * _ ≤ j + 1 + uN _ by have := HUB.out; omega)⟩
              case measure => simp [intOf]; omega
            · have ht1 : t < nn := by omega
              obtain ⟨⟨y, cy⟩, fy⟩ := hT.out.cell ht1
              have HT9 : Hid (Told _ _ _ _ _ _ _ _ _ _) := hT.out.set t (-7)
              clear hT
              go_wp2_with fail
              go_roundw
              case rel => exact ⟨t + 1, by omega, by go_num, HT9⟩
              case measure => simp [intOf]; omega
        · go_simp
          refine hK.out _ _ ?_
          clear hK K
          try simp only [Act.put, List.setIfInBounds_toArray, List.set_cons_zero, List.set_cons_succ]
          refine wpAny_ready (rs := [1]) (by kernel_rfl) (by simp) ?_
          refine anyN_cons 1 rfl (by rfl) (fun K hK => ?_) AllReady.nil
          go_simp
          refine hK.out _ _ ?_
          clear hK K
          try simp only [Act.put, List.setIfInBounds_toArray, List.set_cons_zero, List.set_cons_succ]
          refine wpAny_ready (rs := [6]) (by kernel_rfl) (by simp) ?_
          refine anyN_cons 6 rfl (by rfl) (fun K hK => ?_) AllReady.nil
          go_simp
          refine (CH.out trivial).mono ?_
          rintro e w2 ⟨q2, l2, d2, rfl, hb2, hP2⟩
          dsimp only
          have HP2 : Hid (P2 _ _ _ _ _ _ _ _) := hP2
          have z0 : w2.cell? ⟨xa, 0, none⟩ = some (.slice pa la ca) := hb2.cell
          have z1 : w2.cell? ⟨xa, 1, none⟩ = some (.int .i64 (A.length : Nat)) := hb2.cell
          have z2 : w2.frozen? ⟨xa, 0, none⟩ = false := hb2.frozen
          have z3 : w2.frozen? ⟨xa, 1, none⟩ = false := hb2.frozen
          clear hb2 hP2
          refine hK.out _ _ ?_
          clear hK K
          try simp only [Act.put, List.setIfInBounds_toArray, List.set_cons_zero, List.set_cons_succ]
          refine anyN_take (v := ?_) 7 rfl (by kernel_rfl) (by kernel_rfl) (by kernel_rfl) (fun _ _ _ h => h) (Or.inl ⟨by rfl, ?_⟩) ?_
          rotate_left
          focus
            intro w9
            go_simp
            try with_reducible rfl
          try simp only [Act.put, List.setIfInBounds_toArray, List.set_cons_zero, List.set_cons_succ]
          refine anyN_take (v := ?_) 8 rfl (by kernel_rfl) (by kernel_rfl) (by kernel_rfl) (fun _ _ _ h => h) (Or.inl ⟨by rfl, ?_⟩) ?_
          rotate_left
          focus
            intro w9
            go_simp
            try with_reducible rfl
          try simp only [Act.put, List.setIfInBounds_toArray, List.set_cons_zero, List.set_cons_succ]
          refine anyN_take (v := ?_) 9 rfl (by kernel_rfl) (by kernel_rfl) (by kernel_rfl) (fun _ _ _ h => h) (Or.inl ⟨by rfl, ?_⟩) ?_
          rotate_left
          focus
            intro w9
            go_simp
            try with_reducible rfl
          try simp only [Act.put, List.setIfInBounds_toArray, List.set_cons_zero, List.set_cons_succ]
          refine wpAny_ready (rs := [10]) (by kernel_rfl) (by simp) ?_
          refine anyN_cons 10 rfl (by rfl) (fun K hK => ?_) AllReady.nil
          go_simp
          refine hK.out _ _ ?_
          clear hK K
          try simp only [Act.put, List.setIfInBounds_toArray, List.set_cons_zero, List.set_cons_succ]
          refine wpAny_done (by kernel_rfl) ?_ _
          have HPa : Hid (P2 w ta xa tb xb A2 B ((w2.setCell ⟨xa, 0, none⟩ (.slice q2 l2 d2)).setCell ⟨xa, 1, none⟩ (.int .i64 (A2.length : Nat)))) := HP2.out
          go_wp2_with fail
          generalize ((w2.setCell ⟨xa, 0, none⟩ (.slice q2 l2 d2)).setCell ⟨xa, 1, none⟩ (.int .i64 (A2.length : Nat))) = wq at *
          clear HP2 z0 z1 z2 z3 e0 e1 e2 y0 y1 CH
          have C7 : Hid (Calls _ _ _ _ _) := HPa.out.told
          have hnn : (openA 0 A2).length ≤ 256 := by rw [openA_len, uN_undI]; exact HPa.out.und
          generalize (openA 0 A2).length = nn at *
          clear HPa
          go_wp2_with fail
          refine C7.out.mono ?_
          rintro e w7 ⟨gt, rfl, ht⟩
          have HT7 : Hid (Told _ _ _ _ _ _ _ _ _ _) := ht
          clear ht C7
          go_wp2_with fail
          go_loopw [11] (fun i wr => ∃ t : Nat, t ≤ nn ∧ i = .int .i64 (t : Int) ∧ Hid (Told w ta xa tb xb A2 B gt nn wr)) (fun i _ => nn - (intOf i).toNat)
          case atStart => exact ⟨0, Nat.zero_le _, by go_num, HT7⟩
          case round =>
            clear HT7
            obtain ⟨t, ht, rfl, hT⟩ := hrel
            by_cases ht0 : t = nn
            · subst ht0
              have HP9 : Hid (P2 _ _ _ _ _ _ _ _) := hT.out.over
              clear hT
              go_wp2_with fail
              go_roundw
              case rel => exact ⟨j + 1, _, _, by omega, by go_num, HP9, HUa2, (show 2 * _ ≤ j + 1 + uN _ by have := HUB.out; omega)⟩
              case measure => simp [intOf]; omega
            · have ht1 : t < nn := by omega
              obtain ⟨⟨y, cy⟩, fy⟩ := hT.out.cell ht1
              have HT9 : Hid (Told _ _ _ _ _ _ _ _ _ _) := hT.out.set t (-7)
              clear hT
              go_wp2_with fail
              go_roundw
              case rel => exact ⟨t + 1, by omega, by go_num, HT9⟩
              case measure => simp [intOf]; omega
    · by_cases hjb : j < M.length
      · obtain ⟨gb, ob, rfl, hgBb, d0, d1, d2, hn1, hn2⟩ := HR2.out j hjb
        have e0 := (hP.out.bl.cell (p := ⟨gb, ob + j * 3, none⟩) hgBb).trans d0
        have e1 := (hP.out.bl.cell (p := ⟨gb, ob + j * 3 + 1, none⟩) hgBb).trans d1
        have e2 := (hP.out.bl.cell (p := ⟨gb, ob + j * 3 + 2, none⟩) hgBb).trans d2
        clear d0 d1 d2
        obtain ⟨pb, lb, cb, hbx, C1⟩ := hP.out.drew.swap.act HTb.out M[j].k M[j].n M[j].s hn1 hn2
        have hbx' : BoxT wr xb #[.slice pb lb cb, .int .i64 (B.length : Nat)] 27 := hbx
        have y0 : wr.cell? ⟨xb, 0, none⟩ = some (.slice pb lb cb) := hbx'.cell
        have y1 : wr.cell? ⟨xb, 1, none⟩ = some (.int .i64 (B.length : Nat)) := hbx'.cell
        have CH : Hid (True → Calls _ _ _ _ _) := fun _ => C1
        have HUb2 : Hid (2 * (stepT M[j].k M[j].n M[j].s B).length ≤ j + 1 + uN (stepT M[j].k M[j].n M[j].s B)) := step_len _ _ _ _ _ HUB.out
        generalize stepT M[j].k M[j].n M[j].s B = B2 at *
        generalize M[j].k = ak at *
        generalize M[j].n = an at *
        generalize M[j].s = ax at *
        clear hbx hbx' C1 hn1 hn2 hP HUB HTb
        go_wp2_with fail
        refine wp_region_any (by kernel_rfl) ?_
        change wpAny _ _ _ _ _ _ _ (World.drew _)
        refine anyN_take (v := ?_) 0 rfl (by kernel_rfl) (by kernel_rfl) (by kernel_rfl) (fun _ _ _ h => h) (Or.inl ⟨by rfl, ?_⟩) ?_
        rotate_left
        focus
          intro w9
          go_simp
          try with_reducible rfl
        try simp only [Act.put, List.setIfInBounds_toArray, List.set_cons_zero, List.set_cons_succ]
        refine anyN_take (v := ?_) 2 rfl (by kernel_rfl) (by kernel_rfl) (by kernel_rfl) (fun _ _ _ h => h) (Or.inl ⟨by rfl, ?_⟩) ?_
        rotate_left
        focus
          intro w9
          go_simp
          try with_reducible rfl
        try simp only [Act.put, List.setIfInBounds_toArray, List.set_cons_zero, List.set_cons_succ]
        refine anyN_take (v := ?_) 3 rfl (by kernel_rfl) (by kernel_rfl) (by kernel_rfl) (fun _ _ _ h => h) (Or.inl ⟨by rfl, ?_⟩) ?_
        rotate_left
        focus
          intro w9
          go_simp
          try with_reducible rfl
        try simp only [Act.put, List.setIfInBounds_toArray, List.set_cons_zero, List.set_cons_succ]
        refine anyN_take (v := ?_) 4 rfl (by kernel_rfl) (by kernel_rfl) (by kernel_rfl) (fun _ _ _ h => h) (Or.inl ⟨by rfl, ?_⟩) ?_
        rotate_left
        focus
          intro w9
          go_simp
          try with_reducible rfl
        try simp only [Act.put, List.setIfInBounds_toArray, List.set_cons_zero, List.set_cons_succ]
        refine wpAny_ready (rs := [1, 5]) (by kernel_rfl) (by simp) ?_
        refine anyN_cons 1 rfl (by rfl) (fun K hK => ?_) (anyN_cons 5 rfl (by rfl) (fun K hK => ?_) AllReady.nil)
        · go_simp
          refine hK.out _ _ ?_
          clear hK K
          try simp only [Act.put, List.setIfInBounds_toArray, List.set_cons_zero, List.set_cons_succ]
          refine wpAny_ready (rs := [5]) (by kernel_rfl) (by simp) ?_
          refine anyN_cons 5 rfl (by rfl) (fun K hK => ?_) AllReady.nil
          go_simp
          refine hK.out _ _ ?_
          clear hK K
          try simp only [Act.put, List.setIfInBounds_toArray, List.set_cons_zero, List.set_cons_succ]
          refine wpAny_ready (rs := [6]) (by kernel_rfl) (by simp) ?_
          refine anyN_cons 6 rfl (by rfl) (fun K hK => ?_) AllReady.nil
          go_simp
          refine (CH.out trivial).mono ?_
          rintro e w2 ⟨q2, l2, d2, rfl, hb2, hP2⟩
          dsimp only
          have HP2 : Hid (P2 _ _ _ _ _ _ _ _) := hP2
          have z0 : w2.cell? ⟨xb, 0, none⟩ = some (.slice pb lb cb) := hb2.cell
          have z1 : w2.cell? ⟨xb, 1, none⟩ = some (.int .i64 (B.length : Nat)) := hb2.cell
          have z2 : w2.frozen? ⟨xb, 0, none⟩ = false := hb2.frozen
          have z3 : w2.frozen? ⟨xb, 1, none⟩ = false := hb2.frozen
          clear hb2 hP2
          refine hK.out _ _ ?_
          clear hK K
          try simp only [Act.put, List.setIfInBounds_toArray, List.set_cons_zero, List.set_cons_succ]
          refine anyN_take (v := ?_) 7 rfl (by kernel_rfl) (by kernel_rfl) (by kernel_rfl) (fun _ _ _ h => h) (Or.inl ⟨by rfl, ?_⟩) ?_
          rotate_left
          focus
            intro w9
            go_simp
            try with_reducible rfl
          try simp only [Act.put, List.setIfInBounds_toArray, List.set_cons_zero, List.set_cons_succ]
          refine anyN_take (v := ?_) 8 rfl (by kernel_rfl) (by kernel_rfl) (by kernel_rfl) (fun _ _ _ h => h) (Or.inl ⟨by rfl, ?_⟩) ?_
          rotate_left
          focus
            intro w9
            go_simp
            try with_reducible rfl
          try simp only [Act.put, List.setIfInBounds_toArray, List.set_cons_zero, List.set_cons_succ]
          refine anyN_take (v := ?_) 9 rfl (by kernel_rfl) (by kernel_rfl) (by kernel_rfl) (fun _ _ _ h => h) (Or.inl ⟨by rfl, ?_⟩) ?_
          rotate_left
          focus
            intro w9
            go_simp
            try with_reducible rfl
          try simp only [Act.put, List.setIfInBounds_toArray, List.set_cons_zero, List.set_cons_succ]
          refine wpAny_ready (rs := [10]) (by kernel_rfl) (by simp) ?_
          refine anyN_cons 10 rfl (by rfl) (fun K hK => ?_) AllReady.nil
          go_simp
          refine hK.out _ _ ?_
          clear hK K
          try simp only [Act.put, List.setIfInBounds_toArray, List.set_cons_zero, List.set_cons_succ]
          refine wpAny_done (by kernel_rfl) ?_ _
          have HPb : Hid (P2 w ta xa tb xb A B2 ((w2.setCell ⟨xb, 0, none⟩ (.slice q2 l2 d2)).setCell ⟨xb, 1, none⟩ (.int .i64 (B2.length : Nat)))) := HP2.out.swap
          go_wp2_with fail
          generalize ((w2.setCell ⟨xb, 0, none⟩ (.slice q2 l2 d2)).setCell ⟨xb, 1, none⟩ (.int .i64 (B2.length : Nat))) = wz at *
          clear HP2 z0 z1 z2 z3 e0 e1 e2 y0 y1 CH
          have C7 : Hid (Calls _ _ _ _ _) := HPb.out.told
          have hnn : (openA 0 A).length ≤ 256 := by rw [openA_len, uN_undI]; exact HPb.out.und
          generalize (openA 0 A).length = nn at *
          clear HPb
          go_wp2_with fail
          refine C7.out.mono ?_
          rintro e w7 ⟨gt, rfl, ht⟩
          have HT7 : Hid (Told _ _ _ _ _ _ _ _ _ _) := ht
          clear ht C7
          go_wp2_with fail
          go_loopw [11] (fun i wr => ∃ t : Nat, t ≤ nn ∧ i = .int .i64 (t : Int) ∧ Hid (Told w ta xa tb xb A B2 gt nn wr)) (fun i _ => nn - (intOf i).toNat)
          case atStart => exact ⟨0, Nat.zero_le _, by go_num, HT7⟩
          case round =>
            clear HT7
            obtain ⟨t, ht, rfl, hT⟩ := hrel
            by_cases ht0 : t = nn
            · subst ht0
              have HP9 : Hid (P2 _ _ _ _ _ _ _ _) := hT.out.over
              clear hT
              go_wp2_with fail
              go_roundw
              case rel => exact ⟨j + 1, _, _, by omega, by go_num, HP9, (show 2 * _ ≤ j + 1 + uN _ by have := HUA.out; omega), HUb2⟩
              case measure => simp [intOf]; omega
            · have ht1 : t < nn := by omega
              obtain ⟨⟨y, cy⟩, fy⟩ := hT.out.cell ht1
              have HT9 : Hid (Told _ _ _ _ _ _ _ _ _ _) := hT.out.set t (-7)
              clear hT
              go_wp2_with fail
              go_roundw
              case rel => exact ⟨t + 1, by omega, by go_num, HT9⟩
              case measure => simp [intOf]; omega
        · go_simp
          refine hK.out _ _ ?_
          clear hK K
          try simp only [Act.put, List.setIfInBounds_toArray, List.set_cons_zero, List.set_cons_succ]
          refine wpAny_ready (rs := [1]) (by kernel_rfl) (by simp) ?_
          refine anyN_cons 1 rfl (by rfl) (fun K hK => ?_) AllReady.nil
          go_simp
          refine hK.out _ _ ?_
          clear hK K
          try simp only [Act.put, List.setIfInBounds_toArray, List.set_cons_zero, List.set_cons_succ]
          refine wpAny_ready (rs := [6]) (by kernel_rfl) (by simp) ?_
          refine anyN_cons 6 rfl (by rfl) (fun K hK => ?_) AllReady.nil
          go_simp
          refine (CH.out trivial).mono ?_
          rintro e w2 ⟨q2, l2, d2, rfl, hb2, hP2⟩
          dsimp only
          have HP2 : Hid (P2 _ _ _ _ _ _ _ _) := hP2
          have z0 : w2.cell? ⟨xb, 0, none⟩ = some (.slice pb lb cb) := hb2.cell
          have z1 : w2.cell? ⟨xb, 1, none⟩ = some (.int .i64 (B.length : Nat)) := hb2.cell
          have z2 : w2.frozen? ⟨xb, 0, none⟩ = false := hb2.frozen
          have z3 : w2.frozen? ⟨xb, 1, none⟩ = false := hb2.frozen
          clear hb2 hP2
          refine hK.out _ _ ?_
          clear hK K
          try simp only [Act.put, List.setIfInBounds_toArray, List.set_cons_zero, List.set_cons_succ]
          refine anyN_take (v := ?_) 7 rfl (by kernel_rfl) (by kernel_rfl) (by kernel_rfl) (fun _ _ _ h => h) (Or.inl ⟨by rfl, ?_⟩) ?_
          rotate_left
          focus
            intro w9
            go_simp
            try with_reducible rfl
          try simp only [Act.put, List.setIfInBounds_toArray, List.set_cons_zero, List.set_cons_succ]
          refine anyN_take (v := ?_) 8 rfl (by kernel_rfl) (by kernel_rfl) (by kernel_rfl) (fun _ _ _ h => h) (Or.inl ⟨by rfl, ?_⟩) ?_
          rotate_left
          focus
            intro w9
            go_simp
            try with_reducible rfl
          try simp only [Act.put, List.setIfInBounds_toArray, List.set_cons_zero, List.set_cons_succ]
          refine anyN_take (v := ?_) 9 rfl (by kernel_rfl) (by kernel_rfl) (by kernel_rfl) (fun _ _ _ h => h) (Or.inl ⟨by rfl, ?_⟩) ?_
          rotate_left
          focus
            intro w9
            go_simp
            try with_reducible rfl
          try simp only [Act.put, List.setIfInBounds_toArray, List.set_cons_zero, List.set_cons_succ]
          refine wpAny_ready (rs := [10]) (by kernel_rfl) (by simp) ?_
          refine anyN_cons 10 rfl (by rfl) (fun K hK => ?_) AllReady.nil
          go_simp
          refine hK.out _ _ ?_
          clear hK K
          try simp only [Act.put, List.setIfInBounds_toArray, List.set_cons_zero, List.set_cons_succ]
          refine wpAny_done (by kernel_rfl) ?_ _
          have HPb : Hid (P2 w ta xa tb xb A B2 ((w2.setCell ⟨xb, 0, none⟩ (.slice q2 l2 d2)).setCell ⟨xb, 1, none⟩ (.int .i64 (B2.length : Nat)))) := HP2.out.swap
          go_wp2_with fail
          generalize ((w2.setCell ⟨xb, 0, none⟩ (.slice q2 l2 d2)).setCell ⟨xb, 1, none⟩ (.int .i64 (B2.length : Nat))) = wz at *
          clear HP2 z0 z1 z2 z3 e0 e1 e2 y0 y1 CH
          have C7 : Hid (Calls _ _ _ _ _) := HPb.out.told
          have hnn : (openA 0 A).length ≤ 256 := by rw [openA_len, uN_undI]; exact HPb.out.und
          generalize (openA 0 A).length = nn at *
          clear HPb
          go_wp2_with fail
          refine C7.out.mono ?_
          rintro e w7 ⟨gt, rfl, ht⟩
          have HT7 : Hid (Told _ _ _ _ _ _ _ _ _ _) := ht
          clear ht C7
          go_wp2_with fail
          go_loopw [11] (fun i wr => ∃ t : Nat, t ≤ nn ∧ i = .int .i64 (t : Int) ∧ Hid (Told w ta xa tb xb A B2 gt nn wr)) (fun i _ => nn - (intOf i).toNat)
          case atStart => exact ⟨0, Nat.zero_le _, by go_num, HT7⟩
          case round =>
            clear HT7
            obtain ⟨t, ht, rfl, hT⟩ := hrel
            by_cases ht0 : t = nn
            · subst ht0
              have HP9 : Hid (P2 _ _ _ _ _ _ _ _) := hT.out.over
              clear hT
              go_wp2_with fail
              go_roundw
              case rel => exact ⟨j + 1, _, _, by omega, by go_num, HP9, (show 2 * _ ≤ j + 1 + uN _ by have := HUA.out; omega), HUb2⟩
              case measure => simp [intOf]; omega
            · have ht1 : t < nn := by omega
              obtain ⟨⟨y, cy⟩, fy⟩ := hT.out.cell ht1
              have HT9 : Hid (Told _ _ _ _ _ _ _ _ _ _) := hT.out.set t (-7)
              clear hT
              go_wp2_with fail
              go_roundw
              case rel => exact ⟨t + 1, by omega, by go_num, HT9⟩
              case measure => simp [intOf]; omega
      · obtain ⟨p, l, c1, hbx, C2⟩ := hP.out.ask HTa.out
        have y0 : wr.cell? ⟨xa, 0, none⟩ = some (.slice p l c1) := hbx.cell
        have y1 : wr.cell? ⟨xa, 1, none⟩ = some (.int .i64 (A.length : Nat)) := hbx.cell
        have CH : Hid (Calls _ _ _ _ _) := C2
        clear C2 hbx
        go_wp2_with fail
        refine CH.out.mono ?_
        rintro e w4 ⟨rfl, hP4⟩
        have HP4 : Hid (P2 _ _ _ _ _ _ _ _) := hP4
        obtain ⟨p, l, c1, hbx, C2⟩ := hP4.swap.ask HTb.out
        have y2 : w4.cell? ⟨xb, 0, none⟩ = some (.slice p l c1) := hbx.cell
        have y3 : w4.cell? ⟨xb, 1, none⟩ = some (.int .i64 (B.length : Nat)) := hbx.cell
        have CH2 : Hid (Calls _ _ _ _ _) := C2
        clear C2 hbx hP4 CH y0 y1
        go_wp2_with fail
        refine CH2.out.mono ?_
        rintro e w5 ⟨rfl, hP5⟩
        have HB5 : Hid (Below w.heap.size w w5) := hP5.bl
        have C6 : Hid (Calls _ _ _ _ _) := awake_any w5
        clear hP5 CH2 y2 y3
        go_wp2_with fail
        refine C6.out.mono ?_
        rintro e w6 ⟨rfl, hb6⟩
        have HB6 : Hid (Below w.heap.size w w6) := HB5.out.trans (hb6.mono HB5.out.size)
        clear hb6 C6
        go_wp2_with fail
        go_ret
        exact ⟨rfl, HB6.out⟩
end Go.Proofs.Ytmcdpadmjicafaa
