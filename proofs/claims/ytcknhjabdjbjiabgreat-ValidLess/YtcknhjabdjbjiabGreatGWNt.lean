/- noted: a Log behind some commits, and the document's beside it. -/
import Derived.Test.YtcknhjabdjbjiabGreatGWLg13
import Derived.Test.YtcknhjabdjbjiabGreatGWLg12
namespace Go.Proofs.YtcknhjabdjbjiabGreat
open Go.RowKit
set_option maxRecDepth 100000

/-- a commit that is handed in -/
structure Lc where
  s : Nat
  a : Ft
  v0 : Value
  v1 : Value
  v2 : Value
/-- commits that are handed in -/
structure RdLc (w : World) (v : Value) (K : List Lc) : Prop where
  f : ∃ p c, v = .slice p K.length c ∧ K.length ≤ c ∧ K.length ≤ 4398046511104 ∧ ∀ i (hi : i < K.length), ∃ b o, p = some ⟨b, o, none⟩ ∧ b < w.heap.size ∧ w.cell? ⟨b, o + i * 4, none⟩ = some (.int .u64 (K[i].s : Nat)) ∧ w.cell? ⟨b, o + i * 4 + 1, none⟩ = some K[i].v0 ∧ w.cell? ⟨b, o + i * 4 + 2, none⟩ = some K[i].v1 ∧ w.cell? ⟨b, o + i * 4 + 3, none⟩ = some K[i].v2
  ft : ∀ c ∈ K, RdF w c.v0 c.v1 c.v2 c.a ∧ c.s < 18446744073709551616
theorem RdLc.on {w w' : World} {v : Value} {K : List Lc} (h : RdLc w v K) (hb : Below w.heap.size w w') : RdLc w' v K := by
  obtain ⟨p, c, e, h1, h2, h3⟩ := h.f
  refine ⟨⟨p, c, e, h1, h2, fun i hi => ?_⟩, fun c hc => ⟨(h.ft c hc).1.on hb, (h.ft c hc).2⟩⟩
  obtain ⟨b, o, e, hbB, c0, c1, c2, c3⟩ := h3 i hi
  have k : ∀ {o : Nat} {v : Option Value}, w.cell? ⟨b, o, none⟩ = v → w'.cell? ⟨b, o, none⟩ = v := fun {o v} hc => (hb.cell (p := ⟨b, o, none⟩) hbB).trans hc
  exact ⟨b, o, e, Nat.lt_of_lt_of_le hbB hb.size, k c0, k c1, k c2, k c3⟩
/-- two lists of commits tell the same -/
structure SamC (L M : List Cm) : Prop where
  len : L.length = M.length
  at' : ∀ i (hi : i < L.length) (hi' : i < M.length), L[i].s = M[i].s ∧ ∀ x, x ∈ L[i].W ↔ x ∈ M[i].W
theorem SamC.nil : SamC [] [] := ⟨rfl, fun i hi => absurd hi (by simp)⟩
theorem SamC.snoc {L M : List Cm} (h : SamC L M) (c d : Cm) (hs : c.s = d.s) (hw : ∀ x, x ∈ c.W ↔ x ∈ d.W) : SamC (L ++ [c]) (M ++ [d]) := by
  refine ⟨by simp [h.len], fun i hi hi' => ?_⟩
  rcases Nat.lt_or_ge i L.length with h1 | h1
  · have h2 : i < M.length := by rw [← h.len]; exact h1
    rw [List.getElem_append_left h1, List.getElem_append_left h2]
    exact h.at' i h1 h2
  · have h2 : M.length ≤ i := by rw [← h.len]; exact h1
    rw [List.getElem_append_right h1, List.getElem_append_right h2]
    simp [hs, hw]
theorem SamC.last {L M : List Cm} (h : SamC L M) : lastC L = lastC M := by
  unfold lastC
  rw [List.getLast?_eq_getElem?, List.getLast?_eq_getElem?]
  by_cases h0 : L.length = 0
  · have h1 : M.length = 0 := by rw [← h.len]; exact h0
    rw [List.getElem?_eq_none (by omega), List.getElem?_eq_none (by omega)]
  · have h1 : L.length - 1 < L.length := by omega
    have h2 : M.length - 1 < M.length := by have := h.len; omega
    rw [List.getElem?_eq_getElem h1, List.getElem?_eq_getElem h2]
    have := h.at' (L.length - 1) h1 (by have := h.len; omega)
    simp only [h.len] at this ⊢
    exact this.1
theorem SamC.fst {L M : List Cm} (h : SamC L M) {fr : Nat} {P : Pt → Prop} : ∀ {q : Option (Nat × Pt)}, FstO L fr P q → FstO M fr P q
  | none, hq => fun c hc hf x hx => by
    obtain ⟨i, hi, rfl⟩ := List.getElem_of_mem hc
    have hi' : i < L.length := by rw [h.len]; exact hi
    obtain ⟨e, hw⟩ := h.at' i hi' hi
    exact hq L[i] (List.getElem_mem hi') (by omega) x ((hw x).2 hx)
  | some q, hq => by
    obtain ⟨c, hc, e, hf, hm, hl⟩ := hq
    obtain ⟨i, hi, rfl⟩ := List.getElem_of_mem hc
    have hi' : i < M.length := by rw [← h.len]; exact hi
    obtain ⟨e2, hw⟩ := h.at' i hi hi'
    refine ⟨M[i], List.getElem_mem hi', by omega, hf, hm.ext (fun x => by rw [hw x]), fun c' hc' hf' hlt x hx => ?_⟩
    obtain ⟨k, hk, rfl⟩ := List.getElem_of_mem hc'
    have hk' : k < L.length := by rw [h.len]; exact hk
    obtain ⟨e3, hw3⟩ := h.at' k hk' hk
    exact hl L[k] (List.getElem_mem hk') (by omega) (by omega) x ((hw3 x).2 hx)
/-- the document's commits; what they wrote lies in the first world -/
structure DocB (w wr : World) (B : Nat) (v : Value) (M : List Cm) : Prop where
  own : OwnD wr B v M
  ft : ∀ c ∈ M, (SlP w c.v2 c.W ∧ c.W.length ≤ 4398046511104) ∧ c.v0 = .slice none 0 0 ∧ c.v1 = .slice none 0 0
theorem DocB.doc {w wr : World} {B : Nat} {v : Value} {M : List Cm} (h : DocB w wr B v M) (hb : Below w.heap.size w wr) : DocC wr B v M := ⟨h.own, fun c hc => ⟨⟨(h.ft c hc).1.1.on hb, (h.ft c hc).1.2⟩, (h.ft c hc).2⟩⟩
theorem chk_lw {a : Ft} (h : chkF a = 0) : a.W.length ≤ 65536 := by
  unfold chkF at h
  by_cases h9 : 65536 < a.size
  · rw [if_pos h9] at h; cases h
  · unfold Ft.size at h9; omega
theorem note_ok {a : Ft} {s la n : Nat} (h : noteE a s la n = 0) : chkF a = 0 ∧ 1 ≤ s ∧ s ≤ 4611686018427387904 ∧ la < s ∧ n < 4096 := by
  by_cases h0 : chkF a = 0
  · by_cases h1 : s = 0 ∨ 4611686018427387904 < s
    · rw [note1 h0 h1] at h; cases h
    · by_cases h2 : s ≤ la
      · rw [note2 h0 h1 h2] at h; cases h
      · by_cases h3 : 4096 ≤ n
        · rw [note3 h0 h1 h2 h3] at h; cases h
        · exact ⟨h0, by omega, by omega, by omega, by omega⟩
  · rw [note0 h0] at h; exact absurd h h0
/-- a Log and the document's commits beside it; w: the world ahead of it -/
structure NtP (w wr : World) (lb mb : Nat) (vC : Value) (E : List (Pt × Value × List Nat)) (L : List Cm) (vm : Value) (M : List Cm) : Prop where
  log : LogO wr w.heap.size lb vC mb E L
  doc : DocB w wr w.heap.size vm M
  sam : SamC L M
  inv : InvC M
  bel : Below w.heap.size w wr
theorem NtP.on {w wr w' : World} {lb mb : Nat} {vC : Value} {E : List (Pt × Value × List Nat)} {L : List Cm} {vm : Value} {M : List Cm} (h : NtP w wr lb mb vC E L vm M) (hb : Below wr.heap.size wr w') : NtP w w' lb mb vC E L vm M :=
  ⟨h.log.on hb, ⟨h.doc.own.on hb, h.doc.ft⟩, h.sam, h.inv, h.bel.trans (hb.mono h.bel.size)⟩
/-- a Log has noted; the document's has not yet -/
structure NtH (w wr : World) (lb mb : Nat) (vC : Value) (E : List (Pt × Value × List Nat)) (L L' : List Cm) (vm : Value) (M : List Cm) (k : Lc) : Prop where
  log : LogO wr w.heap.size lb vC mb E L'
  doc : DocB w wr w.heap.size vm M
  sam : SamC L M
  inv : InvC M
  bel : Below w.heap.size w wr
  nt : NtL k.a k.s L L'
theorem NtP.half {w wr w' : World} {lb mb : Nat} {vC vC' : Value} {E E' : List (Pt × Value × List Nat)} {L L' : List Cm} {vm : Value} {M : List Cm} {k : Lc} (h : NtP w wr lb mb vC E L vm M) (hl : LogO w' w.heap.size lb vC' mb E' L') (hn : NtL k.a k.s L L') (hf : Frm wr w' (FB w.heap.size wr)) : NtH w w' lb mb vC' E' L L' vm M k :=
  ⟨hl, ⟨h.doc.own.fb hf, h.doc.ft⟩, h.sam, h.inv, h.bel.trans (hf.lowB h.bel.size), hn⟩
theorem NtH.on {w wr w' : World} {lb mb : Nat} {vC : Value} {E : List (Pt × Value × List Nat)} {L L' : List Cm} {vm : Value} {M : List Cm} {k : Lc} (h : NtH w wr lb mb vC E L L' vm M k) (hb : Below wr.heap.size wr w') : NtH w w' lb mb vC E L L' vm M k :=
  ⟨h.log.on hb, ⟨h.doc.own.on hb, h.doc.ft⟩, h.sam, h.inv, h.bel.trans (hb.mono h.bel.size), h.nt⟩
theorem NtH.full {w wr w' : World} {lb mb : Nat} {vC : Value} {E : List (Pt × Value × List Nat)} {L L' : List Cm} {vm vm' : Value} {M M' : List Cm} {k : Lc} (h : NtH w wr lb mb vC E L L' vm M k) (hr : RdF w k.v0 k.v1 k.v2 k.a) (hd : DocC w' w.heap.size vm' M') (hn : NtD k.a k.s k.v2 M M') (hb : Below wr.heap.size wr w') : NtP w w' lb mb vC E L' vm' M' := by
  have hbel := h.bel.trans (hb.mono h.bel.size)
  by_cases he : noteE k.a k.s (lastC M) M.length = 0
  · have he2 : noteE k.a k.s (lastC L) L.length = 0 := by rw [h.sam.last, h.sam.len]; exact he
    obtain ⟨c, rfl, h1, h2⟩ := h.nt.2 he2
    have := hn.2 he
    subst this
    obtain ⟨k0, k1, k2, k3, k4⟩ := note_ok he
    refine ⟨h.log.on hb, ⟨hd.own, fun d hdm => ?_⟩, h.sam.snoc c _ h1 h2, h.inv.snoc _ k1 k2 k3 k4 (chk_lw k0), hbel⟩
    rcases List.mem_append.1 hdm with hdm | hdm
    · exact h.doc.ft d hdm
    · rw [List.mem_singleton] at hdm
      subst hdm
      exact ⟨⟨hr.w, hr.lw⟩, rfl, rfl⟩
  · have he2 : noteE k.a k.s (lastC L) L.length ≠ 0 := by rw [h.sam.last, h.sam.len]; exact he
    have e1 := h.nt.1 he2
    have e2 := hn.1 he
    subst e1 e2
    exact ⟨h.log.on hb, ⟨hd.own, h.doc.ft⟩, h.sam, h.inv, hbel⟩
set_option maxHeartbeats 8000000 in
theorem noted_any (v : Value) (K : List Lc) (w : World) (hK : RdLc w v K) :
    Calls Tryz.prog 6 #[v] w fun e w' => ∃ lb mb vC E L vm M, e = .returned (.tuple #[ptr1 lb, vm, .bool true]) ∧ NtP w w' lb mb vC E L vm M := by
  obtain ⟨p, c, rfl, hlc, hln, hrow⟩ := hK.f
  obtain ⟨n, hn⟩ : ∃ n, K.length = n := ⟨_, rfl⟩
  rw [hn] at hlc hln ⊢
  have HKl : Hid (K.length = n) := hn
  have HRow : Hid (∀ i (hi : i < K.length), ∃ b o, p = some ⟨b, o, none⟩ ∧ b < w.heap.size ∧ w.cell? ⟨b, o + i * 4, none⟩ = some (.int .u64 (K[i].s : Nat)) ∧ w.cell? ⟨b, o + i * 4 + 1, none⟩ = some K[i].v0 ∧ w.cell? ⟨b, o + i * 4 + 2, none⟩ = some K[i].v1 ∧ w.cell? ⟨b, o + i * 4 + 3, none⟩ = some K[i].v2) := hrow
  have HFt : Hid (∀ c ∈ K, RdF w c.v0 c.v1 c.v2 c.a ∧ c.s < 18446744073709551616) := hK.ft
  clear hK hrow hn
  have CN : Hid (Calls _ _ _ _ _) := newLog_any w
  go_enter Tryz.func6, Tryz.ntmps6
  go_wp2_with fail
  refine CN.out.mono ?_
  rintro e w1 ⟨lb, vC, mb, E, rfl, hX1, hb1⟩
  clear CN
  have HP1 : Hid (NtP w w1 lb mb vC E [] (.slice none 0 0) []) := ⟨hX1, ⟨OwnD.nil _ _, by simp⟩, SamC.nil, ⟨fun i j hi => absurd hi (by simp), by simp, by simp, by simp, by simp⟩, hb1⟩
  clear hX1 hb1
  go_wp2_with fail
  go_loopw [6, 7] (fun m i wr => ∃ (j : Nat) (vC : Value) (E : List (Pt × Value × List Nat)) (L : List Cm) (M : List Cm), j ≤ n ∧ i = .int .i64 (j : Int) ∧ Hid (NtP w wr lb mb vC E L m M)) (fun _ i _ => n - (intOf i).toNat)
  case atStart => exact ⟨0, vC, E, [], [], Nat.zero_le _, by go_num, HP1⟩
  case round =>
    obtain ⟨j, vC', E', L, M, hj, rfl, HP⟩ := hrel
    clear HP1
    by_cases hj0 : j = n
    · subst hj0
      go_wp2_with fail
      refine bodyPost_ret (v := .tuple #[ptr1 lb, u6, .bool true]) (by simp [results, Tryz.results6, go_sem]) rfl ?_
      exact ⟨lb, mb, vC', E', L, u6, M, rfl, HP.out⟩
    · have hj1 : j < n := by omega
      have hjK : j < K.length := by have := HKl.out; omega
      obtain ⟨b, o, rfl, hbl, d0, d1, d2, d3⟩ := HRow.out j hjK
      have hft := HFt.out K[j] (List.getElem_mem hjK)
      obtain ⟨k, hk⟩ : ∃ k, K[j] = k := ⟨_, rfl⟩
      rw [hk] at d0 d1 d2 d3 hft
      clear hk hjK
      obtain ⟨s, ka, v0, v1, v2⟩ := k
      dsimp only at d0 d1 d2 d3 hft
      obtain ⟨⟨p0, n0, c0, e0⟩, ⟨p1, n1, c1, e1⟩, ⟨p2, n2, c2, e2⟩⟩ : (∃ p n c, v0 = .slice p n c) ∧ (∃ p n c, v1 = .slice p n c) ∧ (∃ p n c, v2 = .slice p n c) := by
        obtain ⟨p0, c0, e0, _⟩ := hft.1.p.f
        obtain ⟨p1, c1, e1, _⟩ := hft.1.s.f
        obtain ⟨p2, c2, e2, _⟩ := hft.1.w.f
        exact ⟨⟨_, _, _, e0⟩, ⟨_, _, _, e1⟩, ⟨_, _, _, e2⟩⟩
      subst e0 e1 e2
      have HR : Hid (RdF w (.slice p0 n0 c0) (.slice p1 n1 c1) (.slice p2 n2 c2) ka ∧ s < 18446744073709551616) := hft
      have HD : Hid (∀ w9, Below w.heap.size w w9 → w9.cell? ⟨b, o + j * 4, none⟩ = some (.int .u64 (s : Nat)) ∧ w9.cell? ⟨b, o + j * 4 + 1, none⟩ = some (.slice p0 n0 c0) ∧ w9.cell? ⟨b, o + j * 4 + 2, none⟩ = some (.slice p1 n1 c1) ∧ w9.cell? ⟨b, o + j * 4 + 3, none⟩ = some (.slice p2 n2 c2)) := fun w9 h9 => ⟨(h9.cell (p := ⟨b, o + j * 4, none⟩) hbl).trans d0, (h9.cell (p := ⟨b, o + j * 4 + 1, none⟩) hbl).trans d1, (h9.cell (p := ⟨b, o + j * 4 + 2, none⟩) hbl).trans d2, (h9.cell (p := ⟨b, o + j * 4 + 3, none⟩) hbl).trans d3⟩
      clear hft d0 d1 d2 d3 hbl
      go_upto_region 8 with fail
      refine wp_region_L (fun w' => Below w.heap.size w w') 13 (by kernel_rfl) ?_
      have HPd : Hid (NtP w wr.drew lb mb vC' E' L u6 M) := HP.out.on ((Below.refl _ _).drew)
      generalize wr.drew = wd at *
      have HBd : Hid (Below w.heap.size w wd) := HPd.out.bel
      refine wpL_take (v := ?_) 0 rfl (by kernel_rfl) (fun _ _ _ h => h) (by rfl) ?_ HBd.out ?_
      rotate_left
      focus
        intro w9 hw9
        obtain ⟨a0, a1, a2, a3⟩ := HD.out w9 hw9
        go_simp
        try with_reducible rfl
      try simp only [Act.put, List.setIfInBounds_toArray, List.set_cons_zero, List.set_cons_succ]
      refine wpL_take (v := ?_) 1 rfl (by kernel_rfl) (fun _ _ _ h => h) (by rfl) ?_ HBd.out ?_
      rotate_left
      focus
        intro w9 hw9
        obtain ⟨a0, a1, a2, a3⟩ := HD.out w9 hw9
        go_simp
        try with_reducible rfl
      try simp only [Act.put, List.setIfInBounds_toArray, List.set_cons_zero, List.set_cons_succ]
      refine wpL_take (v := ?_) 2 rfl (by kernel_rfl) (fun _ _ _ h => h) (by rfl) ?_ HBd.out ?_
      rotate_left
      focus
        intro w9 hw9
        obtain ⟨a0, a1, a2, a3⟩ := HD.out w9 hw9
        go_simp
        try with_reducible rfl
      try simp only [Act.put, List.setIfInBounds_toArray, List.set_cons_zero, List.set_cons_succ]
      refine wpL_take (v := ?_) 3 rfl (by kernel_rfl) (fun _ _ _ h => h) (by rfl) ?_ HBd.out ?_
      rotate_left
      focus
        intro w9 hw9
        obtain ⟨a0, a1, a2, a3⟩ := HD.out w9 hw9
        go_simp
        try with_reducible rfl
      try simp only [Act.put, List.setIfInBounds_toArray, List.set_cons_zero, List.set_cons_succ]
      refine wpL_take (v := ?_) 4 rfl (by kernel_rfl) (fun _ _ _ h => h) (by rfl) ?_ HBd.out ?_
      rotate_left
      focus
        intro w9 hw9
        obtain ⟨a0, a1, a2, a3⟩ := HD.out w9 hw9
        go_simp
        try with_reducible rfl
      try simp only [Act.put, List.setIfInBounds_toArray, List.set_cons_zero, List.set_cons_succ]
      refine wpL_take (v := ?_) 5 rfl (by kernel_rfl) (fun _ _ _ h => h) (by rfl) ?_ HBd.out ?_
      rotate_left
      focus
        intro w9 hw9
        obtain ⟨a0, a1, a2, a3⟩ := HD.out w9 hw9
        go_simp
        try with_reducible rfl
      try simp only [Act.put, List.setIfInBounds_toArray, List.set_cons_zero, List.set_cons_succ]
      refine wpL_take (v := ?_) 6 rfl (by kernel_rfl) (fun _ _ _ h => h) (by rfl) ?_ HBd.out ?_
      rotate_left
      focus
        intro w9 hw9
        obtain ⟨a0, a1, a2, a3⟩ := HD.out w9 hw9
        go_simp
        try with_reducible rfl
      try simp only [Act.put, List.setIfInBounds_toArray, List.set_cons_zero, List.set_cons_succ]
      refine wpL_take (v := ?_) 7 rfl (by kernel_rfl) (fun _ _ _ h => h) (by rfl) ?_ HBd.out ?_
      rotate_left
      focus
        intro w9 hw9
        obtain ⟨a0, a1, a2, a3⟩ := HD.out w9 hw9
        go_simp
        try with_reducible rfl
      try simp only [Act.put, List.setIfInBounds_toArray, List.set_cons_zero, List.set_cons_succ]
      refine wpL_take (v := ?_) 8 rfl (by kernel_rfl) (fun _ _ _ h => h) (by rfl) ?_ HBd.out ?_
      rotate_left
      focus
        intro w9 hw9
        obtain ⟨a0, a1, a2, a3⟩ := HD.out w9 hw9
        go_simp
        try with_reducible rfl
      try simp only [Act.put, List.setIfInBounds_toArray, List.set_cons_zero, List.set_cons_succ]
      refine wpL_take (v := ?_) 9 rfl (by kernel_rfl) (fun _ _ _ h => h) (by rfl) ?_ HBd.out ?_
      rotate_left
      focus
        intro w9 hw9
        obtain ⟨a0, a1, a2, a3⟩ := HD.out w9 hw9
        go_simp
        try with_reducible rfl
      try simp only [Act.put, List.setIfInBounds_toArray, List.set_cons_zero, List.set_cons_succ]
      refine wpL_take (v := ?_) 10 rfl (by kernel_rfl) (fun _ _ _ h => h) (by rfl) ?_ HBd.out ?_
      rotate_left
      focus
        intro w9 hw9
        obtain ⟨a0, a1, a2, a3⟩ := HD.out w9 hw9
        go_simp
        try with_reducible rfl
      try simp only [Act.put, List.setIfInBounds_toArray, List.set_cons_zero, List.set_cons_succ]
      refine wpL_one 11 rfl (by kernel_rfl) (by rfl) ?_
      intro K2 hK2
      go_simp
      refine (note_any ka _ _ _ w.heap.size lb s vC' mb E' L wd HPd.out.log (HR.out.1.on HBd.out) HR.out.2).mono ?_
      rintro e w4 ⟨rfl, vC4, E4, L4, hX4, hN4, hF4⟩
      have HH : Hid (NtH w w4 lb mb vC4 E4 L L4 u6 M ⟨s, ka, .slice p0 n0 c0, .slice p1 n1 c1, .slice p2 n2 c2⟩) := HPd.out.half hX4 hN4 hF4
      have HBd4 : Hid (Below w.heap.size w w4) := HH.out.bel
      clear hX4 hN4 hF4 HPd HBd HP
      dsimp only
      refine hK2.out _ _ (fun _ => HBd4.out) ?_
      clear hK2 K2
      try simp only [Act.put, List.setIfInBounds_toArray, List.set_cons_zero, List.set_cons_succ]
      refine wpL_take (v := ?_) 12 rfl (by kernel_rfl) (fun _ _ _ h => h) (by rfl) ?_ HBd4.out ?_
      rotate_left
      focus
        intro w9 hw9

        go_simp
        try with_reducible rfl
      try simp only [Act.put, List.setIfInBounds_toArray, List.set_cons_zero, List.set_cons_succ]
      refine wpL_done (by kernel_rfl) ?_ _
      try simp only [NoPanic]
      obtain ⟨en, hen⟩ : ∃ en, noteE ka s (lastC L) L.length = en := ⟨_, rfl⟩
      rw [hen]
      have HEn : Hid (noteE ka s (lastC M) M.length = en) := by
        have h := HH.out.sam
        rw [h.last, h.len] at hen
        exact hen
      clear hen
      go_upto_region 9 with fail
      refine wp_region_L (fun w' => Below w.heap.size w w') 17 (by kernel_rfl) ?_
      have HHd : Hid (NtH w w4.drew lb mb vC4 E4 L L4 u6 M ⟨s, ka, .slice p0 n0 c0, .slice p1 n1 c1, .slice p2 n2 c2⟩) := HH.out.on ((Below.refl _ _).drew)
      clear HH HBd4
      generalize w4.drew = wd4 at *
      have HBd : Hid (Below w.heap.size w wd4) := HHd.out.bel
      refine wpL_take (v := ?_) 0 rfl (by kernel_rfl) (fun _ _ _ h => h) (by rfl) ?_ HBd.out ?_
      rotate_left
      focus
        intro w9 hw9
        obtain ⟨a0, a1, a2, a3⟩ := HD.out w9 hw9
        go_simp
        try with_reducible rfl
      try simp only [Act.put, List.setIfInBounds_toArray, List.set_cons_zero, List.set_cons_succ]
      refine wpL_take (v := ?_) 1 rfl (by kernel_rfl) (fun _ _ _ h => h) (by rfl) ?_ HBd.out ?_
      rotate_left
      focus
        intro w9 hw9
        obtain ⟨a0, a1, a2, a3⟩ := HD.out w9 hw9
        go_simp
        try with_reducible rfl
      try simp only [Act.put, List.setIfInBounds_toArray, List.set_cons_zero, List.set_cons_succ]
      refine wpL_take (v := ?_) 2 rfl (by kernel_rfl) (fun _ _ _ h => h) (by rfl) ?_ HBd.out ?_
      rotate_left
      focus
        intro w9 hw9
        obtain ⟨a0, a1, a2, a3⟩ := HD.out w9 hw9
        go_simp
        try with_reducible rfl
      try simp only [Act.put, List.setIfInBounds_toArray, List.set_cons_zero, List.set_cons_succ]
      refine wpL_take (v := ?_) 3 rfl (by kernel_rfl) (fun _ _ _ h => h) (by rfl) ?_ HBd.out ?_
      rotate_left
      focus
        intro w9 hw9
        obtain ⟨a0, a1, a2, a3⟩ := HD.out w9 hw9
        go_simp
        try with_reducible rfl
      try simp only [Act.put, List.setIfInBounds_toArray, List.set_cons_zero, List.set_cons_succ]
      refine wpL_take (v := ?_) 4 rfl (by kernel_rfl) (fun _ _ _ h => h) (by rfl) ?_ HBd.out ?_
      rotate_left
      focus
        intro w9 hw9
        obtain ⟨a0, a1, a2, a3⟩ := HD.out w9 hw9
        go_simp
        try with_reducible rfl
      try simp only [Act.put, List.setIfInBounds_toArray, List.set_cons_zero, List.set_cons_succ]
      refine wpL_take (v := ?_) 5 rfl (by kernel_rfl) (fun _ _ _ h => h) (by rfl) ?_ HBd.out ?_
      rotate_left
      focus
        intro w9 hw9
        obtain ⟨a0, a1, a2, a3⟩ := HD.out w9 hw9
        go_simp
        try with_reducible rfl
      try simp only [Act.put, List.setIfInBounds_toArray, List.set_cons_zero, List.set_cons_succ]
      refine wpL_take (v := ?_) 6 rfl (by kernel_rfl) (fun _ _ _ h => h) (by rfl) ?_ HBd.out ?_
      rotate_left
      focus
        intro w9 hw9
        obtain ⟨a0, a1, a2, a3⟩ := HD.out w9 hw9
        go_simp
        try with_reducible rfl
      try simp only [Act.put, List.setIfInBounds_toArray, List.set_cons_zero, List.set_cons_succ]
      refine wpL_take (v := ?_) 7 rfl (by kernel_rfl) (fun _ _ _ h => h) (by rfl) ?_ HBd.out ?_
      rotate_left
      focus
        intro w9 hw9
        obtain ⟨a0, a1, a2, a3⟩ := HD.out w9 hw9
        go_simp
        try with_reducible rfl
      try simp only [Act.put, List.setIfInBounds_toArray, List.set_cons_zero, List.set_cons_succ]
      refine wpL_take (v := ?_) 8 rfl (by kernel_rfl) (fun _ _ _ h => h) (by rfl) ?_ HBd.out ?_
      rotate_left
      focus
        intro w9 hw9
        obtain ⟨a0, a1, a2, a3⟩ := HD.out w9 hw9
        go_simp
        try with_reducible rfl
      try simp only [Act.put, List.setIfInBounds_toArray, List.set_cons_zero, List.set_cons_succ]
      refine wpL_take (v := ?_) 9 rfl (by kernel_rfl) (fun _ _ _ h => h) (by rfl) ?_ HBd.out ?_
      rotate_left
      focus
        intro w9 hw9
        obtain ⟨a0, a1, a2, a3⟩ := HD.out w9 hw9
        go_simp
        try with_reducible rfl
      try simp only [Act.put, List.setIfInBounds_toArray, List.set_cons_zero, List.set_cons_succ]
      refine wpL_take (v := ?_) 10 rfl (by kernel_rfl) (fun _ _ _ h => h) (by rfl) ?_ HBd.out ?_
      rotate_left
      focus
        intro w9 hw9
        obtain ⟨a0, a1, a2, a3⟩ := HD.out w9 hw9
        go_simp
        try with_reducible rfl
      try simp only [Act.put, List.setIfInBounds_toArray, List.set_cons_zero, List.set_cons_succ]
      refine wpL_one 11 rfl (by kernel_rfl) (by rfl) ?_
      intro K2 hK2
      go_simp
      refine (rnote_any ka _ _ _ w.heap.size s _ M wd4 (HHd.out.doc.doc HBd.out) HHd.out.inv.len (HR.out.1.on HBd.out) HR.out.2 HBd.out.size).mono ?_
      rintro e w5 ⟨v5, M5, rfl, hD5, hN5, hb5⟩
      have HP5 : Hid (NtP w w5 lb mb vC4 E4 L4 v5 M5) := HHd.out.full HR.out.1 hD5 hN5 hb5
      have HBd5 : Hid (Below w.heap.size w w5) := HP5.out.bel
      rw [HEn.out]
      clear hD5 hN5 hb5 HHd HBd
      dsimp only
      refine hK2.out _ _ (fun _ => HBd5.out) ?_
      clear hK2 K2
      try simp only [Act.put, List.setIfInBounds_toArray, List.set_cons_zero, List.set_cons_succ]
      refine wpL_take (v := ?_) 12 rfl (by kernel_rfl) (fun _ _ _ h => h) (by rfl) ?_ HBd5.out ?_
      rotate_left
      focus
        intro w9 hw9

        go_simp
        try with_reducible rfl
      try simp only [Act.put, List.setIfInBounds_toArray, List.set_cons_zero, List.set_cons_succ]
      refine wpL_take (v := ?_) 13 rfl (by kernel_rfl) (fun _ _ _ h => h) (by rfl) ?_ HBd5.out ?_
      rotate_left
      focus
        intro w9 hw9

        go_simp
        try with_reducible rfl
      try simp only [Act.put, List.setIfInBounds_toArray, List.set_cons_zero, List.set_cons_succ]
      refine wpL_take (v := ?_) 14 rfl (by kernel_rfl) (fun _ _ _ h => h) (by rfl) ?_ HBd5.out ?_
      rotate_left
      focus
        intro w9 hw9

        go_simp
        try with_reducible rfl
      try simp only [Act.put, List.setIfInBounds_toArray, List.set_cons_zero, List.set_cons_succ]
      refine wpL_take (v := ?_) 15 rfl (by kernel_rfl) (fun _ _ _ h => h) (by rfl) ?_ HBd5.out ?_
      rotate_left
      focus
        intro w9 hw9

        go_simp
        try with_reducible rfl
      try simp only [Act.put, List.setIfInBounds_toArray, List.set_cons_zero, List.set_cons_succ]
      refine wpL_take (v := ?_) 16 rfl (by kernel_rfl) (fun _ _ _ h => h) (by rfl) ?_ HBd5.out ?_
      rotate_left
      focus
        intro w9 hw9

        go_simp
        try with_reducible rfl
      try simp only [Act.put, List.setIfInBounds_toArray, List.set_cons_zero, List.set_cons_succ]
      refine wpL_done (by kernel_rfl) ?_ _
      try simp only [NoPanic]
      clear HBd5 HEn HR HD
      go_wp2_with fail
      go_roundw
      case rel => exact ⟨j + 1, vC4, E4, L4, M5, hj1, by go_num, HP5⟩
      case measure => simp [intOf]; omega

end Go.Proofs.YtcknhjabdjbjiabGreat
