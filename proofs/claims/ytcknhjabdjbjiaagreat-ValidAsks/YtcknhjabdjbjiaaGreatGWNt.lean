/- noted: a Log behind some commits, and the document's beside it. What both sides tell is the same. The document's Read. -/
import Derived.Test.YtcknhjabdjbjiaaGreatGWLg13
import Derived.Test.YtcknhjabdjbjiaaGreatGWLg12
import Derived.Test.YtcknhjabdjbjiaaGreatGWRs2
import Derived.Test.YtcknhjabdjbjiaaGreatGWRs8
namespace Go.Proofs.YtcknhjabdjbjiaaGreat
open Go.RowKit
set_option maxRecDepth 100000

/-- a commit that is handed in -/
structure Lc where
  s : Nat
  a : Ft
  v0 : Value
  v1 : Value
  v2 : Value
/-- commits that are handed in -/
structure RdLc (w : World) (v : Value) (K : List Lc) : Prop where
  f : ∃ p c, v = .slice p K.length c ∧ K.length ≤ c ∧ K.length ≤ 4398046511104 ∧ ∀ i (hi : i < K.length), ∃ b o, p = some ⟨b, o, none⟩ ∧ b < w.heap.size ∧ w.cell? ⟨b, o + i * 4, none⟩ = some (.int .u64 (K[i].s : Nat)) ∧ w.cell? ⟨b, o + i * 4 + 1, none⟩ = some K[i].v0 ∧ w.cell? ⟨b, o + i * 4 + 2, none⟩ = some K[i].v1 ∧ w.cell? ⟨b, o + i * 4 + 3, none⟩ = some K[i].v2
  ft : ∀ c ∈ K, RdF w c.v0 c.v1 c.v2 c.a ∧ c.s < 18446744073709551616
theorem RdLc.on {w w' : World} {v : Value} {K : List Lc} (h : RdLc w v K) (hb : Below w.heap.size w w') : RdLc w' v K := by
  obtain ⟨p, c, e, h1, h2, h3⟩ := h.f
  refine ⟨⟨p, c, e, h1, h2, fun i hi => ?_⟩, fun c hc => ⟨(h.ft c hc).1.on hb, (h.ft c hc).2⟩⟩
  obtain ⟨b, o, e, hbB, c0, c1, c2, c3⟩ := h3 i hi
  have k : ∀ {o : Nat} {v : Option Value}, w.cell? ⟨b, o, none⟩ = v → w'.cell? ⟨b, o, none⟩ = v := fun {o v} hc => (hb.cell (p := ⟨b, o, none⟩) hbB).trans hc
  exact ⟨b, o, e, Nat.lt_of_lt_of_le hbB hb.size, k c0, k c1, k c2, k c3⟩
/-- two lists of commits tell the same -/
structure SamC (L M : List Cm) : Prop where
  len : L.length = M.length
  at' : ∀ i (hi : i < L.length) (hi' : i < M.length), L[i].s = M[i].s ∧ ∀ x, x ∈ L[i].W ↔ x ∈ M[i].W
theorem SamC.nil : SamC [] [] := ⟨rfl, fun i hi => absurd hi (by simp)⟩
theorem SamC.snoc {L M : List Cm} (h : SamC L M) (c d : Cm) (hs : c.s = d.s) (hw : ∀ x, x ∈ c.W ↔ x ∈ d.W) : SamC (L ++ [c]) (M ++ [d]) := by
  refine ⟨by simp [h.len], fun i hi hi' => ?_⟩
  rcases Nat.lt_or_ge i L.length with h1 | h1
  · have h2 : i < M.length := by rw [← h.len]; exact h1
    rw [List.getElem_append_left h1, List.getElem_append_left h2]
    exact h.at' i h1 h2
  · have h2 : M.length ≤ i := by rw [← h.len]; exact h1
    rw [List.getElem_append_right h1, List.getElem_append_right h2]
    simp [hs, hw]
theorem SamC.last {L M : List Cm} (h : SamC L M) : lastC L = lastC M := by
  unfold lastC
  rw [List.getLast?_eq_getElem?, List.getLast?_eq_getElem?]
  by_cases h0 : L.length = 0
  · have h1 : M.length = 0 := by rw [← h.len]; exact h0
    rw [List.getElem?_eq_none (by omega), List.getElem?_eq_none (by omega)]
  · have h1 : L.length - 1 < L.length := by omega
    have h2 : M.length - 1 < M.length := by have := h.len; omega
    rw [List.getElem?_eq_getElem h1, List.getElem?_eq_getElem h2]
    have := h.at' (L.length - 1) h1 (by have := h.len; omega)
    simp only [h.len] at this ⊢
    exact this.1
theorem SamC.fst {L M : List Cm} (h : SamC L M) {fr : Nat} {P : Pt → Prop} : ∀ {q : Option (Nat × Pt)}, FstO L fr P q → FstO M fr P q
  | none, hq => fun c hc hf x hx => by
    obtain ⟨i, hi, rfl⟩ := List.getElem_of_mem hc
    have hi' : i < L.length := by rw [h.len]; exact hi
    obtain ⟨e, hw⟩ := h.at' i hi' hi
    exact hq L[i] (List.getElem_mem hi') (by omega) x ((hw x).2 hx)
  | some q, hq => by
    obtain ⟨c, hc, e, hf, hm, hl⟩ := hq
    obtain ⟨i, hi, rfl⟩ := List.getElem_of_mem hc
    have hi' : i < M.length := by rw [← h.len]; exact hi
    obtain ⟨e2, hw⟩ := h.at' i hi hi'
    refine ⟨M[i], List.getElem_mem hi', by omega, hf, hm.ext (fun x => by rw [hw x]), fun c' hc' hf' hlt x hx => ?_⟩
    obtain ⟨k, hk, rfl⟩ := List.getElem_of_mem hc'
    have hk' : k < L.length := by rw [h.len]; exact hk
    obtain ⟨e3, hw3⟩ := h.at' k hk' hk
    exact hl L[k] (List.getElem_mem hk') (by omega) (by omega) x ((hw3 x).2 hx)
/-- the document's commits; what they wrote lies in the first world -/
structure DocB (w wr : World) (B : Nat) (v : Value) (M : List Cm) : Prop where
  own : OwnD wr B v M
  ft : ∀ c ∈ M, (SlP w c.v2 c.W ∧ c.W.length ≤ 4398046511104) ∧ c.v0 = .slice none 0 0 ∧ c.v1 = .slice none 0 0
theorem DocB.doc {w wr : World} {B : Nat} {v : Value} {M : List Cm} (h : DocB w wr B v M) (hb : Below w.heap.size w wr) : DocC wr B v M := ⟨h.own, fun c hc => ⟨⟨(h.ft c hc).1.1.on hb, (h.ft c hc).1.2⟩, (h.ft c hc).2⟩⟩
theorem chk_lw {a : Ft} (h : chkF a = 0) : a.W.length ≤ 65536 := by
  unfold chkF at h
  by_cases h9 : 65536 < a.size
  · rw [if_pos h9] at h; cases h
  · unfold Ft.size at h9; omega
theorem note_ok {a : Ft} {s la n : Nat} (h : noteE a s la n = 0) : chkF a = 0 ∧ 1 ≤ s ∧ s ≤ 4611686018427387904 ∧ la < s ∧ n < 4096 := by
  by_cases h0 : chkF a = 0
  · by_cases h1 : s = 0 ∨ 4611686018427387904 < s
    · rw [note1 h0 h1] at h; cases h
    · by_cases h2 : s ≤ la
      · rw [note2 h0 h1 h2] at h; cases h
      · by_cases h3 : 4096 ≤ n
        · rw [note3 h0 h1 h2 h3] at h; cases h
        · exact ⟨h0, by omega, by omega, by omega, by omega⟩
  · rw [note0 h0] at h; exact absurd h h0
/-- a Log and the document's commits beside it; w: the world ahead of it -/
structure NtP (w wr : World) (lb mb : Nat) (vC : Value) (E : List (Pt × Value × List Nat)) (L : List Cm) (vm : Value) (M : List Cm) : Prop where
  log : LogO wr w.heap.size lb vC mb E L
  doc : DocB w wr w.heap.size vm M
  sam : SamC L M
  inv : InvC M
  bel : Below w.heap.size w wr
theorem NtP.on {w wr w' : World} {lb mb : Nat} {vC : Value} {E : List (Pt × Value × List Nat)} {L : List Cm} {vm : Value} {M : List Cm} (h : NtP w wr lb mb vC E L vm M) (hb : Below wr.heap.size wr w') : NtP w w' lb mb vC E L vm M :=
  ⟨h.log.on hb, ⟨h.doc.own.on hb, h.doc.ft⟩, h.sam, h.inv, h.bel.trans (hb.mono h.bel.size)⟩
/-- a Log has noted; the document's has not yet -/
structure NtH (w wr : World) (lb mb : Nat) (vC : Value) (E : List (Pt × Value × List Nat)) (L L' : List Cm) (vm : Value) (M : List Cm) (k : Lc) : Prop where
  log : LogO wr w.heap.size lb vC mb E L'
  doc : DocB w wr w.heap.size vm M
  sam : SamC L M
  inv : InvC M
  bel : Below w.heap.size w wr
  nt : NtL k.a k.s L L'
theorem NtP.half {w wr w' : World} {lb mb : Nat} {vC vC' : Value} {E E' : List (Pt × Value × List Nat)} {L L' : List Cm} {vm : Value} {M : List Cm} {k : Lc} (h : NtP w wr lb mb vC E L vm M) (hl : LogO w' w.heap.size lb vC' mb E' L') (hn : NtL k.a k.s L L') (hf : Frm wr w' (FB w.heap.size wr)) : NtH w w' lb mb vC' E' L L' vm M k :=
  ⟨hl, ⟨h.doc.own.fb hf, h.doc.ft⟩, h.sam, h.inv, h.bel.trans (hf.lowB h.bel.size), hn⟩
theorem NtH.on {w wr w' : World} {lb mb : Nat} {vC : Value} {E : List (Pt × Value × List Nat)} {L L' : List Cm} {vm : Value} {M : List Cm} {k : Lc} (h : NtH w wr lb mb vC E L L' vm M k) (hb : Below wr.heap.size wr w') : NtH w w' lb mb vC E L L' vm M k :=
  ⟨h.log.on hb, ⟨h.doc.own.on hb, h.doc.ft⟩, h.sam, h.inv, h.bel.trans (hb.mono h.bel.size), h.nt⟩
theorem NtH.full {w wr w' : World} {lb mb : Nat} {vC : Value} {E : List (Pt × Value × List Nat)} {L L' : List Cm} {vm vm' : Value} {M M' : List Cm} {k : Lc} (h : NtH w wr lb mb vC E L L' vm M k) (hr : RdF w k.v0 k.v1 k.v2 k.a) (hd : DocC w' w.heap.size vm' M') (hn : NtD k.a k.s k.v2 M M') (hb : Below wr.heap.size wr w') : NtP w w' lb mb vC E L' vm' M' := by
  have hbel := h.bel.trans (hb.mono h.bel.size)
  by_cases he : noteE k.a k.s (lastC M) M.length = 0
  · have he2 : noteE k.a k.s (lastC L) L.length = 0 := by rw [h.sam.last, h.sam.len]; exact he
    obtain ⟨c, rfl, h1, h2⟩ := h.nt.2 he2
    have := hn.2 he
    subst this
    obtain ⟨k0, k1, k2, k3, k4⟩ := note_ok he
    refine ⟨h.log.on hb, ⟨hd.own, fun d hdm => ?_⟩, h.sam.snoc c _ h1 h2, h.inv.snoc _ k1 k2 k3 k4 (chk_lw k0), hbel⟩
    rcases List.mem_append.1 hdm with hdm | hdm
    · exact h.doc.ft d hdm
    · rw [List.mem_singleton] at hdm
      subst hdm
      exact ⟨⟨hr.w, hr.lw⟩, rfl, rfl⟩
  · have he2 : noteE k.a k.s (lastC L) L.length ≠ 0 := by rw [h.sam.last, h.sam.len]; exact he
    have e1 := h.nt.1 he2
    have e2 := hn.1 he
    subst e1 e2
    exact ⟨h.log.on hb, ⟨hd.own, h.doc.ft⟩, h.sam, h.inv, hbel⟩
set_option maxHeartbeats 8000000 in
theorem noted_any (v : Value) (K : List Lc) (w : World) (hK : RdLc w v K) :
    Calls Tryz.prog 9 #[v] w fun e w' => ∃ lb mb vC E L vm M, e = .returned (.tuple #[ptr1 lb, vm, .bool true]) ∧ NtP w w' lb mb vC E L vm M := by
  obtain ⟨p, c, rfl, hlc, hln, hrow⟩ := hK.f
  obtain ⟨n, hn⟩ : ∃ n, K.length = n := ⟨_, rfl⟩
  rw [hn] at hlc hln ⊢
  have HKl : Hid (K.length = n) := hn
  have HRow : Hid (∀ i (hi : i < K.length), ∃ b o, p = some ⟨b, o, none⟩ ∧ b < w.heap.size ∧ w.cell? ⟨b, o + i * 4, none⟩ = some (.int .u64 (K[i].s : Nat)) ∧ w.cell? ⟨b, o + i * 4 + 1, none⟩ = some K[i].v0 ∧ w.cell? ⟨b, o + i * 4 + 2, none⟩ = some K[i].v1 ∧ w.cell? ⟨b, o + i * 4 + 3, none⟩ = some K[i].v2) := hrow
  have HFt : Hid (∀ c ∈ K, RdF w c.v0 c.v1 c.v2 c.a ∧ c.s < 18446744073709551616) := hK.ft
  clear hK hrow hn
  have CN : Hid (Calls _ _ _ _ _) := newLog_any w
  go_enter Tryz.func9, Tryz.ntmps9
  go_wp2_with fail
  refine CN.out.mono ?_
  rintro e w1 ⟨lb, vC, mb, E, rfl, hX1, hb1⟩
  clear CN
  have HP1 : Hid (NtP w w1 lb mb vC E [] (.slice none 0 0) []) := ⟨hX1, ⟨OwnD.nil _ _, by simp⟩, SamC.nil, ⟨fun i j hi => absurd hi (by simp), by simp, by simp, by simp, by simp⟩, hb1⟩
  clear hX1 hb1
  go_wp2_with fail
  go_loopw [6, 7] (fun m i wr => ∃ (j : Nat) (vC : Value) (E : List (Pt × Value × List Nat)) (L : List Cm) (M : List Cm), j ≤ n ∧ i = .int .i64 (j : Int) ∧ Hid (NtP w wr lb mb vC E L m M)) (fun _ i _ => n - (intOf i).toNat)
  case atStart => exact ⟨0, vC, E, [], [], Nat.zero_le _, by go_num, HP1⟩
  case round =>
    obtain ⟨j, vC', E', L, M, hj, rfl, HP⟩ := hrel
    clear HP1
    by_cases hj0 : j = n
    · subst hj0
      go_wp2_with fail
      refine bodyPost_ret (v := .tuple #[ptr1 lb, u6, .bool true]) (by simp [results, Tryz.results9, go_sem]) rfl ?_
      exact ⟨lb, mb, vC', E', L, u6, M, rfl, HP.out⟩
    · have hj1 : j < n := by omega
      have hjK : j < K.length := by have := HKl.out; omega
      obtain ⟨b, o, rfl, hbl, d0, d1, d2, d3⟩ := HRow.out j hjK
      have hft := HFt.out K[j] (List.getElem_mem hjK)
      obtain ⟨k, hk⟩ : ∃ k, K[j] = k := ⟨_, rfl⟩
      rw [hk] at d0 d1 d2 d3 hft
      clear hk hjK
      obtain ⟨s, ka, v0, v1, v2⟩ := k
      dsimp only at d0 d1 d2 d3 hft
      obtain ⟨⟨p0, n0, c0, e0⟩, ⟨p1, n1, c1, e1⟩, ⟨p2, n2, c2, e2⟩⟩ : (∃ p n c, v0 = .slice p n c) ∧ (∃ p n c, v1 = .slice p n c) ∧ (∃ p n c, v2 = .slice p n c) := by
        obtain ⟨p0, c0, e0, _⟩ := hft.1.p.f
        obtain ⟨p1, c1, e1, _⟩ := hft.1.s.f
        obtain ⟨p2, c2, e2, _⟩ := hft.1.w.f
        exact ⟨⟨_, _, _, e0⟩, ⟨_, _, _, e1⟩, ⟨_, _, _, e2⟩⟩
      subst e0 e1 e2
      have HR : Hid (RdF w (.slice p0 n0 c0) (.slice p1 n1 c1) (.slice p2 n2 c2) ka ∧ s < 18446744073709551616) := hft
      have HD : Hid (∀ w9, Below w.heap.size w w9 → w9.cell? ⟨b, o + j * 4, none⟩ = some (.int .u64 (s : Nat)) ∧ w9.cell? ⟨b, o + j * 4 + 1, none⟩ = some (.slice p0 n0 c0) ∧ w9.cell? ⟨b, o + j * 4 + 2, none⟩ = some (.slice p1 n1 c1) ∧ w9.cell? ⟨b, o + j * 4 + 3, none⟩ = some (.slice p2 n2 c2)) := fun w9 h9 => ⟨(h9.cell (p := ⟨b, o + j * 4, none⟩) hbl).trans d0, (h9.cell (p := ⟨b, o + j * 4 + 1, none⟩) hbl).trans d1, (h9.cell (p := ⟨b, o + j * 4 + 2, none⟩) hbl).trans d2, (h9.cell (p := ⟨b, o + j * 4 + 3, none⟩) hbl).trans d3⟩
      clear hft d0 d1 d2 d3 hbl
      go_upto_region 8 with fail
      refine wp_region_L (fun w' => Below w.heap.size w w') 13 (by kernel_rfl) ?_
      have HPd : Hid (NtP w wr.drew lb mb vC' E' L u6 M) := HP.out.on ((Below.refl _ _).drew)
      generalize wr.drew = wd at *
      have HBd : Hid (Below w.heap.size w wd) := HPd.out.bel
      refine wpL_take (v := ?_) 0 rfl (by kernel_rfl) (fun _ _ _ h => h) (by rfl) ?_ HBd.out ?_
      rotate_left
      focus
        intro w9 hw9
        obtain ⟨a0, a1, a2, a3⟩ := HD.out w9 hw9
        go_simp
        try with_reducible rfl
      try simp only [Act.put, List.setIfInBounds_toArray, List.set_cons_zero, List.set_cons_succ]
      refine wpL_take (v := ?_) 1 rfl (by kernel_rfl) (fun _ _ _ h => h) (by rfl) ?_ HBd.out ?_
      rotate_left
      focus
        intro w9 hw9
        obtain ⟨a0, a1, a2, a3⟩ := HD.out w9 hw9
        go_simp
        try with_reducible rfl
      try simp only [Act.put, List.setIfInBounds_toArray, List.set_cons_zero, List.set_cons_succ]
      refine wpL_take (v := ?_) 2 rfl (by kernel_rfl) (fun _ _ _ h => h) (by rfl) ?_ HBd.out ?_
      rotate_left
      focus
        intro w9 hw9
        obtain ⟨a0, a1, a2, a3⟩ := HD.out w9 hw9
        go_simp
        try with_reducible rfl
      try simp only [Act.put, List.setIfInBounds_toArray, List.set_cons_zero, List.set_cons_succ]
      refine wpL_take (v := ?_) 3 rfl (by kernel_rfl) (fun _ _ _ h => h) (by rfl) ?_ HBd.out ?_
      rotate_left
      focus
        intro w9 hw9
        obtain ⟨a0, a1, a2, a3⟩ := HD.out w9 hw9
        go_simp
        try with_reducible rfl
      try simp only [Act.put, List.setIfInBounds_toArray, List.set_cons_zero, List.set_cons_succ]
      refine wpL_take (v := ?_) 4 rfl (by kernel_rfl) (fun _ _ _ h => h) (by rfl) ?_ HBd.out ?_
      rotate_left
      focus
        intro w9 hw9
        obtain ⟨a0, a1, a2, a3⟩ := HD.out w9 hw9
        go_simp
        try with_reducible rfl
      try simp only [Act.put, List.setIfInBounds_toArray, List.set_cons_zero, List.set_cons_succ]
      refine wpL_take (v := ?_) 5 rfl (by kernel_rfl) (fun _ _ _ h => h) (by rfl) ?_ HBd.out ?_
      rotate_left
      focus
        intro w9 hw9
        obtain ⟨a0, a1, a2, a3⟩ := HD.out w9 hw9
        go_simp
        try with_reducible rfl
      try simp only [Act.put, List.setIfInBounds_toArray, List.set_cons_zero, List.set_cons_succ]
      refine wpL_take (v := ?_) 6 rfl (by kernel_rfl) (fun _ _ _ h => h) (by rfl) ?_ HBd.out ?_
      rotate_left
      focus
        intro w9 hw9
        obtain ⟨a0, a1, a2, a3⟩ := HD.out w9 hw9
        go_simp
        try with_reducible rfl
      try simp only [Act.put, List.setIfInBounds_toArray, List.set_cons_zero, List.set_cons_succ]
      refine wpL_take (v := ?_) 7 rfl (by kernel_rfl) (fun _ _ _ h => h) (by rfl) ?_ HBd.out ?_
      rotate_left
      focus
        intro w9 hw9
        obtain ⟨a0, a1, a2, a3⟩ := HD.out w9 hw9
        go_simp
        try with_reducible rfl
      try simp only [Act.put, List.setIfInBounds_toArray, List.set_cons_zero, List.set_cons_succ]
      refine wpL_take (v := ?_) 8 rfl (by kernel_rfl) (fun _ _ _ h => h) (by rfl) ?_ HBd.out ?_
      rotate_left
      focus
        intro w9 hw9
        obtain ⟨a0, a1, a2, a3⟩ := HD.out w9 hw9
        go_simp
        try with_reducible rfl
      try simp only [Act.put, List.setIfInBounds_toArray, List.set_cons_zero, List.set_cons_succ]
      refine wpL_take (v := ?_) 9 rfl (by kernel_rfl) (fun _ _ _ h => h) (by rfl) ?_ HBd.out ?_
      rotate_left
      focus
        intro w9 hw9
        obtain ⟨a0, a1, a2, a3⟩ := HD.out w9 hw9
        go_simp
        try with_reducible rfl
      try simp only [Act.put, List.setIfInBounds_toArray, List.set_cons_zero, List.set_cons_succ]
      refine wpL_take (v := ?_) 10 rfl (by kernel_rfl) (fun _ _ _ h => h) (by rfl) ?_ HBd.out ?_
      rotate_left
      focus
        intro w9 hw9
        obtain ⟨a0, a1, a2, a3⟩ := HD.out w9 hw9
        go_simp
        try with_reducible rfl
      try simp only [Act.put, List.setIfInBounds_toArray, List.set_cons_zero, List.set_cons_succ]
      refine wpL_one 11 rfl (by kernel_rfl) (by rfl) ?_
      intro K2 hK2
      go_simp
      refine (note_any ka _ _ _ w.heap.size lb s vC' mb E' L wd HPd.out.log (HR.out.1.on HBd.out) HR.out.2).mono ?_
      rintro e w4 ⟨rfl, vC4, E4, L4, hX4, hN4, hF4⟩
      have HH : Hid (NtH w w4 lb mb vC4 E4 L L4 u6 M ⟨s, ka, .slice p0 n0 c0, .slice p1 n1 c1, .slice p2 n2 c2⟩) := HPd.out.half hX4 hN4 hF4
      have HBd4 : Hid (Below w.heap.size w w4) := HH.out.bel
      clear hX4 hN4 hF4 HPd HBd HP
      dsimp only
      refine hK2.out _ _ (fun _ => HBd4.out) ?_
      clear hK2 K2
      try simp only [Act.put, List.setIfInBounds_toArray, List.set_cons_zero, List.set_cons_succ]
      refine wpL_take (v := ?_) 12 rfl (by kernel_rfl) (fun _ _ _ h => h) (by rfl) ?_ HBd4.out ?_
      rotate_left
      focus
        intro w9 hw9

        go_simp
        try with_reducible rfl
      try simp only [Act.put, List.setIfInBounds_toArray, List.set_cons_zero, List.set_cons_succ]
      refine wpL_done (by kernel_rfl) ?_ _
      try simp only [NoPanic]
      obtain ⟨en, hen⟩ : ∃ en, noteE ka s (lastC L) L.length = en := ⟨_, rfl⟩
      rw [hen]
      have HEn : Hid (noteE ka s (lastC M) M.length = en) := by
        have h := HH.out.sam
        rw [h.last, h.len] at hen
        exact hen
      clear hen
      go_upto_region 9 with fail
      refine wp_region_L (fun w' => Below w.heap.size w w') 17 (by kernel_rfl) ?_
      have HHd : Hid (NtH w w4.drew lb mb vC4 E4 L L4 u6 M ⟨s, ka, .slice p0 n0 c0, .slice p1 n1 c1, .slice p2 n2 c2⟩) := HH.out.on ((Below.refl _ _).drew)
      clear HH HBd4
      generalize w4.drew = wd4 at *
      have HBd : Hid (Below w.heap.size w wd4) := HHd.out.bel
      refine wpL_take (v := ?_) 0 rfl (by kernel_rfl) (fun _ _ _ h => h) (by rfl) ?_ HBd.out ?_
      rotate_left
      focus
        intro w9 hw9
        obtain ⟨a0, a1, a2, a3⟩ := HD.out w9 hw9
        go_simp
        try with_reducible rfl
      try simp only [Act.put, List.setIfInBounds_toArray, List.set_cons_zero, List.set_cons_succ]
      refine wpL_take (v := ?_) 1 rfl (by kernel_rfl) (fun _ _ _ h => h) (by rfl) ?_ HBd.out ?_
      rotate_left
      focus
        intro w9 hw9
        obtain ⟨a0, a1, a2, a3⟩ := HD.out w9 hw9
        go_simp
        try with_reducible rfl
      try simp only [Act.put, List.setIfInBounds_toArray, List.set_cons_zero, List.set_cons_succ]
      refine wpL_take (v := ?_) 2 rfl (by kernel_rfl) (fun _ _ _ h => h) (by rfl) ?_ HBd.out ?_
      rotate_left
      focus
        intro w9 hw9
        obtain ⟨a0, a1, a2, a3⟩ := HD.out w9 hw9
        go_simp
        try with_reducible rfl
      try simp only [Act.put, List.setIfInBounds_toArray, List.set_cons_zero, List.set_cons_succ]
      refine wpL_take (v := ?_) 3 rfl (by kernel_rfl) (fun _ _ _ h => h) (by rfl) ?_ HBd.out ?_
      rotate_left
      focus
        intro w9 hw9
        obtain ⟨a0, a1, a2, a3⟩ := HD.out w9 hw9
        go_simp
        try with_reducible rfl
      try simp only [Act.put, List.setIfInBounds_toArray, List.set_cons_zero, List.set_cons_succ]
      refine wpL_take (v := ?_) 4 rfl (by kernel_rfl) (fun _ _ _ h => h) (by rfl) ?_ HBd.out ?_
      rotate_left
      focus
        intro w9 hw9
        obtain ⟨a0, a1, a2, a3⟩ := HD.out w9 hw9
        go_simp
        try with_reducible rfl
      try simp only [Act.put, List.setIfInBounds_toArray, List.set_cons_zero, List.set_cons_succ]
      refine wpL_take (v := ?_) 5 rfl (by kernel_rfl) (fun _ _ _ h => h) (by rfl) ?_ HBd.out ?_
      rotate_left
      focus
        intro w9 hw9
        obtain ⟨a0, a1, a2, a3⟩ := HD.out w9 hw9
        go_simp
        try with_reducible rfl
      try simp only [Act.put, List.setIfInBounds_toArray, List.set_cons_zero, List.set_cons_succ]
      refine wpL_take (v := ?_) 6 rfl (by kernel_rfl) (fun _ _ _ h => h) (by rfl) ?_ HBd.out ?_
      rotate_left
      focus
        intro w9 hw9
        obtain ⟨a0, a1, a2, a3⟩ := HD.out w9 hw9
        go_simp
        try with_reducible rfl
      try simp only [Act.put, List.setIfInBounds_toArray, List.set_cons_zero, List.set_cons_succ]
      refine wpL_take (v := ?_) 7 rfl (by kernel_rfl) (fun _ _ _ h => h) (by rfl) ?_ HBd.out ?_
      rotate_left
      focus
        intro w9 hw9
        obtain ⟨a0, a1, a2, a3⟩ := HD.out w9 hw9
        go_simp
        try with_reducible rfl
      try simp only [Act.put, List.setIfInBounds_toArray, List.set_cons_zero, List.set_cons_succ]
      refine wpL_take (v := ?_) 8 rfl (by kernel_rfl) (fun _ _ _ h => h) (by rfl) ?_ HBd.out ?_
      rotate_left
      focus
        intro w9 hw9
        obtain ⟨a0, a1, a2, a3⟩ := HD.out w9 hw9
        go_simp
        try with_reducible rfl
      try simp only [Act.put, List.setIfInBounds_toArray, List.set_cons_zero, List.set_cons_succ]
      refine wpL_take (v := ?_) 9 rfl (by kernel_rfl) (fun _ _ _ h => h) (by rfl) ?_ HBd.out ?_
      rotate_left
      focus
        intro w9 hw9
        obtain ⟨a0, a1, a2, a3⟩ := HD.out w9 hw9
        go_simp
        try with_reducible rfl
      try simp only [Act.put, List.setIfInBounds_toArray, List.set_cons_zero, List.set_cons_succ]
      refine wpL_take (v := ?_) 10 rfl (by kernel_rfl) (fun _ _ _ h => h) (by rfl) ?_ HBd.out ?_
      rotate_left
      focus
        intro w9 hw9
        obtain ⟨a0, a1, a2, a3⟩ := HD.out w9 hw9
        go_simp
        try with_reducible rfl
      try simp only [Act.put, List.setIfInBounds_toArray, List.set_cons_zero, List.set_cons_succ]
      refine wpL_one 11 rfl (by kernel_rfl) (by rfl) ?_
      intro K2 hK2
      go_simp
      refine (rnote_any ka _ _ _ w.heap.size s _ M wd4 (HHd.out.doc.doc HBd.out) HHd.out.inv.len (HR.out.1.on HBd.out) HR.out.2 HBd.out.size).mono ?_
      rintro e w5 ⟨v5, M5, rfl, hD5, hN5, hb5⟩
      have HP5 : Hid (NtP w w5 lb mb vC4 E4 L4 v5 M5) := HHd.out.full HR.out.1 hD5 hN5 hb5
      have HBd5 : Hid (Below w.heap.size w w5) := HP5.out.bel
      rw [HEn.out]
      clear hD5 hN5 hb5 HHd HBd
      dsimp only
      refine hK2.out _ _ (fun _ => HBd5.out) ?_
      clear hK2 K2
      try simp only [Act.put, List.setIfInBounds_toArray, List.set_cons_zero, List.set_cons_succ]
      refine wpL_take (v := ?_) 12 rfl (by kernel_rfl) (fun _ _ _ h => h) (by rfl) ?_ HBd5.out ?_
      rotate_left
      focus
        intro w9 hw9

        go_simp
        try with_reducible rfl
      try simp only [Act.put, List.setIfInBounds_toArray, List.set_cons_zero, List.set_cons_succ]
      refine wpL_take (v := ?_) 13 rfl (by kernel_rfl) (fun _ _ _ h => h) (by rfl) ?_ HBd5.out ?_
      rotate_left
      focus
        intro w9 hw9

        go_simp
        try with_reducible rfl
      try simp only [Act.put, List.setIfInBounds_toArray, List.set_cons_zero, List.set_cons_succ]
      refine wpL_take (v := ?_) 14 rfl (by kernel_rfl) (fun _ _ _ h => h) (by rfl) ?_ HBd5.out ?_
      rotate_left
      focus
        intro w9 hw9

        go_simp
        try with_reducible rfl
      try simp only [Act.put, List.setIfInBounds_toArray, List.set_cons_zero, List.set_cons_succ]
      refine wpL_take (v := ?_) 15 rfl (by kernel_rfl) (fun _ _ _ h => h) (by rfl) ?_ HBd5.out ?_
      rotate_left
      focus
        intro w9 hw9

        go_simp
        try with_reducible rfl
      try simp only [Act.put, List.setIfInBounds_toArray, List.set_cons_zero, List.set_cons_succ]
      refine wpL_take (v := ?_) 16 rfl (by kernel_rfl) (fun _ _ _ h => h) (by rfl) ?_ HBd5.out ?_
      rotate_left
      focus
        intro w9 hw9

        go_simp
        try with_reducible rfl
      try simp only [Act.put, List.setIfInBounds_toArray, List.set_cons_zero, List.set_cons_succ]
      refine wpL_done (by kernel_rfl) ?_ _
      try simp only [NoPanic]
      clear HBd5 HEn HR HD
      go_wp2_with fail
      go_roundw
      case rel => exact ⟨j + 1, vC4, E4, L4, M5, hj1, by go_num, HP5⟩
      case measure => simp [intOf]; omega

end Go.Proofs.YtcknhjabdjbjiaaGreat

namespace Go.Proofs.YtcknhjabdjbjiaaGreat
open Go.RowKit
set_option maxRecDepth 100000

/-- a clash in its parts -/
def clC (q : Option (Nat × Pt)) : Nat × Pt := q.getD (0, ⟨0, 0, ⟨#[]⟩⟩)
theorem clA_eq (q : Option (Nat × Pt)) : clA q = .agg #[.int .u64 ((clC q).1 : Nat), .int .i64 (clC q).2.t, .int .i64 (clC q).2.i, .string (clC q).2.k] := by cases q <;> rfl
theorem clV_eq (q : Option (Nat × Pt)) : clV q = .tuple #[.agg #[.int .u64 ((clC q).1 : Nat), .int .i64 (clC q).2.t, .int .i64 (clC q).2.i, .string (clC q).2.k], .bool q.isSome] := by cases q <;> rfl
theorem FstO.uniq {M : List Cm} {fr : Nat} {P : Pt → Prop} (hI : InvC M) : ∀ {q q' : Option (Nat × Pt)}, FstO M fr P q → FstO M fr P q' → q = q'
  | none, none, _, _ => rfl
  | none, some q', h, h' => by
    obtain ⟨c, hc, e, hf, hm, _⟩ := h'
    exact absurd hm.1.2 (h c hc (by omega) _ hm.1.1)
  | some q, none, h, h' => by
    obtain ⟨c, hc, e, hf, hm, _⟩ := h
    exact absurd hm.1.2 (h' c hc (by omega) _ hm.1.1)
  | some (m, x), some (m', x'), h, h' => by
    obtain ⟨c, hc, e, hf, hm, hl⟩ := h
    obtain ⟨c', hc', e', hf', hm', hl'⟩ := h'
    dsimp only at e e' hf hf' hl hl' hm hm'
    have h1 : ¬ m < m' := fun hlt => hl' c hc (by omega) (by omega) x hm.1.1 hm.1.2
    have h2 : ¬ m' < m := fun hlt => hl c' hc' (by omega) (by omega) x' hm'.1.1 hm'.1.2
    have h3 : m = m' := by omega
    obtain ⟨i, hi, rfl⟩ := List.getElem_of_mem hc
    obtain ⟨j, hj, rfl⟩ := List.getElem_of_mem hc'
    have hij : i = j := by
      rcases Nat.lt_trichotomy i j with h | h | h
      · have := hI.ris i j hi hj h; omega
      · exact h
      · have := hI.ris j i hj hi h; omega
    subst hij
    have := Option.some.inj (hm.uniq hm')
    rw [h3, this]
theorem RdQ.same {a : Ft} {L M : List Cm} {fr : Nat} {q q' : Option (Nat × Pt)} (hs : SamC L M) (hI : InvC M) (h : RdQ a L fr q) (h' : RdQ a M fr q') : q' = q := by
  by_cases hc : chkF a = 0
  · exact FstO.uniq hI (h'.ok hc) (hs.fst (h.ok hc))
  · rw [h.bad hc, h'.bad hc]
theorem WrQ.same {a : Ft} {L M : List Cm} {fr : Nat} {q q' : Option (Nat × Pt)} (hs : SamC L M) (hI : InvC M) (h : WrQ a L fr q) (h' : WrQ a M fr q') : q' = q := by
  by_cases hc : chkF a = 0
  · exact FstO.uniq hI (h'.ok hc) (hs.fst (h.ok hc))
  · rw [h.bad hc, h'.bad hc]
theorem TryQ.sam {a : Ft} {fr : Nat} {lv : Int} {L M : List Cm} {q : Option (Nat × Pt)} {er : Int} (hs : SamC L M) (h : TryQ a fr lv L q er) : TryQ a fr lv M q er := by
  rcases h with h | h | ⟨h1, h2, h3, h4, h5⟩ | ⟨h1, h2, h3, h4, h5, h6⟩ | ⟨h1, h2, h3, h4, h5⟩
  · exact .inl h
  · exact .inr (.inl h)
  · exact .inr (.inr (.inl ⟨h1, h2, h3, hs.fst h4, h5⟩))
  · exact .inr (.inr (.inr (.inl ⟨h1, h2, hs.fst h3, h4, hs.fst h5, h6⟩)))
  · exact .inr (.inr (.inr (.inr ⟨h1, h2, fun h => hs.fst (h3 h), fun h => hs.fst (h4 h), h5⟩)))
theorem TryQ.uniq {a : Ft} {fr : Nat} {lv : Int} {M : List Cm} {q q' : Option (Nat × Pt)} {er er' : Int} (hI : InvC M) (h : TryQ a fr lv M q er) (h' : TryQ a fr lv M q' er') : q' = q ∧ er' = er := by
  rcases h with ⟨h1, h2, h3⟩ | ⟨h1, h2, h3, h4⟩ | ⟨h1, h2, ⟨p, h3⟩, h4, h5⟩ | ⟨h1, h2, h3, ⟨p, h4⟩, h5, h6⟩ | ⟨h1, h2, h3, h4, h5, h6⟩ <;>
  rcases h' with ⟨k1, k2, k3⟩ | ⟨k1, k2, k3, k4⟩ | ⟨k1, k2, ⟨p', k3⟩, k4, k5⟩ | ⟨k1, k2, k3, ⟨p', k4⟩, k5, k6⟩ | ⟨k1, k2, k3, k4, k5, k6⟩
  all_goals first
    | exact absurd k1 h1
    | exact absurd h1 k1
    | exact ⟨by rw [h2, k2], by rw [h3, k3]⟩
    | exact ⟨by rw [h3, k3], by rw [h4, k4]⟩
    | (exfalso; omega)
    | exact ⟨FstO.uniq hI k4 h4, by rw [h5, k5]⟩
    | exact ⟨FstO.uniq hI k5 h5, by rw [h6, k6]⟩
    | exact ⟨by rw [h5, k5], by rw [h6, k6]⟩
    | (exfalso; have h7 := FstO.uniq hI h4 k3; rw [h3] at h7; cases h7)
    | (exfalso; have h7 := FstO.uniq hI k4 h3; rw [k3] at h7; cases h7)
    | (exfalso; have h7 := FstO.uniq hI h4 (k3 (by omega)); rw [h3] at h7; cases h7)
    | (exfalso; have h7 := FstO.uniq hI k4 (h3 (by omega)); rw [k3] at h7; cases h7)
    | (exfalso; have h7 := FstO.uniq hI h5 (k4 (by omega)); rw [h4] at h7; cases h7)
    | (exfalso; have h7 := FstO.uniq hI k5 (h4 (by omega)); rw [k4] at h7; cases h7)
set_option maxHeartbeats 2000000 in
theorem sameClash_any (m : Nat) (t i : Int) (k : ByteArray) (w : World) : Calls Tryz.prog 18 #[.agg #[.int .u64 (m : Nat), .int .i64 t, .int .i64 i, .string k], .agg #[.int .u64 (m : Nat), .int .i64 t, .int .i64 i, .string k]] w fun e w' => e = .returned (.bool true) ∧ Below w.heap.size w w' := by
  obtain ⟨w2, hw2⟩ : ∃ w2, ((w.alloc (.cells #[.int .u64 (m : Nat), .int .i64 t, .int .i64 i, .string k] 41)).alloc (.cells #[.int .u64 (m : Nat), .int .i64 t, .int .i64 i, .string k] 41)) = w2 := ⟨_, rfl⟩
  have HB2 : Hid (Below w.heap.size w w2) := by rw [← hw2]; exact ((Below.refl _ _).alloc (Nat.le_refl _) _).alloc (by simp) _
  have HKA : Hid (Blk w2 w.heap.size #[.int .u64 (m : Nat), .int .i64 t, .int .i64 i, .string k] 41) := by rw [← hw2]; exact (Blk.new w _ _).keep (B := w.heap.size + 1) ((Below.refl _ _).alloc (by simp) _) (by omega)
  have HKB : Hid (Blk w2 (w.heap.size + 1) #[.int .u64 (m : Nat), .int .i64 t, .int .i64 i, .string k] 41) := by
    rw [← hw2]
    have h := Blk.new (w.alloc (.cells #[.int .u64 (m : Nat), .int .i64 t, .int .i64 i, .string k] 41)) #[.int .u64 (m : Nat), .int .i64 t, .int .i64 i, .string k] 41
    rw [World.size_alloc] at h
    exact h
  have a0 := HKA.out.cell (i := 0) rfl
  have a1 := HKA.out.cell (i := 1) rfl
  have a2 := HKA.out.cell (i := 2) rfl
  have a3 := HKA.out.cell (i := 3) rfl
  have b0 := HKB.out.cell (i := 0) rfl
  have b1 := HKB.out.cell (i := 1) rfl
  have b2 := HKB.out.cell (i := 2) rfl
  have b3 := HKB.out.cell (i := 3) rfl
  go_enter Tryz.func18, Tryz.ntmps18
  go_wp2_with fail
  go_ret
  exact ⟨by simp, HB2.out⟩

end Go.Proofs.YtcknhjabdjbjiaaGreat

namespace Go.Proofs.YtcknhjabdjbjiaaGreat
open Go.RowKit
set_option maxRecDepth 100000

set_option maxHeartbeats 8000000 in
theorem rread_any (a : Ft) (va0 va1 va2 : Value) (B fr : Nat) (v : Value) (M : List Cm) (w : World) (hX : DocC w B v M) (hI : InvC M) (ha : RdF w va0 va1 va2 a) :
    Calls Tryz.prog 15 #[v, .agg #[va0, va1, va2], .int .u64 (fr : Nat)] w fun e w' => ∃ q, e = .returned (clV q) ∧ RdQ a M fr q ∧ Below w.heap.size w w' := by
  obtain ⟨p0, c0, e0, -⟩ := ha.p.f
  obtain ⟨p1, c1, e1, -⟩ := ha.s.f
  obtain ⟨p2, c2, e2, -⟩ := ha.w.f
  obtain ⟨n0, hn0⟩ : ∃ n, a.P.length = n := ⟨_, rfl⟩
  obtain ⟨n1, hn1⟩ : ∃ n, a.S.length = n := ⟨_, rfl⟩
  obtain ⟨n2, hn2⟩ : ∃ n, a.W.length = n := ⟨_, rfl⟩
  rw [hn0] at e0
  rw [hn1] at e1
  rw [hn2] at e2
  subst e0 e1 e2
  clear hn0 hn1 hn2
  obtain ⟨pm, cm, rfl, hrow⟩ := hX.drop
  obtain ⟨n, hn⟩ : ∃ n, M.length = n := ⟨_, rfl⟩
  rw [hn] at hX ⊢
  have HRw : Hid (RowD w pm M) := hrow
  have HXw : Hid (DocC w B (.slice pm n cm) M) := hX
  have HI : Hid (InvC M) := hI
  have HLn : Hid (M.length = n) := hn
  have hn4 : n ≤ 4096 := by have := hI.len; omega
  obtain ⟨w2, hw2⟩ : ∃ w2, ((w.alloc (.cells #[.slice p0 n0 c0, .slice p1 n1 c1, .slice p2 n2 c2] 37)).alloc (.cells #[.int .u64 0, .int .i64 0, .int .i64 0, .string ⟨#[]⟩] 41)) = w2 := ⟨_, rfl⟩
  have HB2 : Hid (Below w.heap.size w w2) := by rw [← hw2]; exact ((Below.refl _ _).alloc (Nat.le_refl _) _).alloc (by simp) _
  have HKA : Hid (Blk w2 w.heap.size #[.slice p0 n0 c0, .slice p1 n1 c1, .slice p2 n2 c2] 37) := by rw [← hw2]; exact (Blk.new w _ _).keep (B := w.heap.size + 1) ((Below.refl _ _).alloc (by simp) _) (by omega)
  have HKB : Hid (Blk w2 (w.heap.size + 1) #[.int .u64 0, .int .i64 0, .int .i64 0, .string ⟨#[]⟩] 41) := by
    rw [← hw2]
    have h := Blk.new (w.alloc (.cells #[.slice p0 n0 c0, .slice p1 n1 c1, .slice p2 n2 c2] 37)) #[.int .u64 0, .int .i64 0, .int .i64 0, .string ⟨#[]⟩] 41
    rw [World.size_alloc] at h
    exact h
  have HA2 : Hid (RdF w2 _ _ _ a) := ha.on HB2.out
  have CC : Hid (Calls _ _ _ _ _) := rcheck_any a _ _ _ w2 HA2.out
  have k0 := HKA.out.cell (i := 0) rfl
  have k1 := HKA.out.cell (i := 1) rfl
  have k2 := HKA.out.cell (i := 2) rfl
  clear hX ha hI hrow hn
  go_enter Tryz.func15, Tryz.ntmps15
  go_wp2_with fail
  refine CC.out.mono ?_
  rintro e w3 ⟨rfl, hb3⟩
  clear CC k0 k1 k2 hw2
  have HB3 : Hid (Below w.heap.size w w3) := HB2.out.trans (hb3.mono HB2.out.size)
  have HA3 : Hid (RdF w3 _ _ _ a) := HA2.out.on hb3
  have HK3 : Hid (Blk w3 w.heap.size #[.slice p0 n0 c0, .slice p1 n1 c1, .slice p2 n2 c2] 37) := HKA.out.on hb3
  have HZ3 : Hid (Blk w3 (w.heap.size + 1) #[.int .u64 0, .int .i64 0, .int .i64 0, .string ⟨#[]⟩] 41) := HKB.out.on hb3
  clear hb3 HB2 HA2 HKA HKB
  by_cases hca : chkF a = 0
  · have HCA : Hid (chkF a = 0) := hca
    rw [hca]
    clear hca
    go_wp2_with fail
    go_loopw [8] (fun i wr => ∃ j : Nat, j ≤ n ∧ i = .int .i64 (j : Int) ∧ Hid (Below w3.heap.size w3 wr) ∧ Hid (∀ k (hk : k < M.length), k < j → fr < M[k].s → ∀ x ∈ M[k].W, ¬ a.rds x)) (fun i _ => n - (intOf i).toNat)
    case atStart => exact ⟨0, Nat.zero_le _, by go_num, Below.refl _ _, fun k _ hk => absurd hk (by omega)⟩
    case round =>
      obtain ⟨j, hj, rfl, HB, HNo⟩ := hrel
      have HBr : Hid (Below w.heap.size w wr) := HB3.out.trans (HB.out.mono HB3.out.size)
      have HKr : Hid (Blk wr w.heap.size #[.slice p0 n0 c0, .slice p1 n1 c1, .slice p2 n2 c2] 37) := HK3.out.on HB.out
      have HZr : Hid (Blk wr (w.heap.size + 1) #[.int .u64 0, .int .i64 0, .int .i64 0, .string ⟨#[]⟩] 41) := HZ3.out.on HB.out
      have HAr : Hid (RdF wr _ _ _ a) := HA3.out.on HB.out
      have HRr : Hid (RowD wr pm M) := HRw.out.on HBr.out
      have HXr : Hid (DocC wr B (.slice pm n cm) M) := HXw.out.on HBr.out
      clear HB3 HK3 HZ3 HA3
      by_cases hj0 : j = n
      · subst hj0
        have HQ : Hid (RdQ a M fr none) := ⟨fun _ c hc hf x hx => by
          obtain ⟨k, hk, rfl⟩ := List.getElem_of_mem hc
          exact HNo.out k hk (by have := HLn.out; omega) hf x hx, fun h => absurd HCA.out h⟩
        have z0 := HZr.out.cell (i := 0) rfl
        have f0 := HZr.out.frozen 0
        have z1 := HZr.out.cell (i := 1) rfl
        have f1 := HZr.out.frozen 1
        have z2 := HZr.out.cell (i := 2) rfl
        have f2 := HZr.out.frozen 2
        have z3 := HZr.out.cell (i := 3) rfl
        have f3 := HZr.out.frozen 3
        have H4 : Hid (Blk ((((wr.setCell ⟨w.heap.size + 1, 0, none⟩ (.int .u64 0)).setCell ⟨w.heap.size + 1, 1, none⟩ (.int .i64 0)).setCell ⟨w.heap.size + 1, 2, none⟩ (.int .i64 0)).setCell ⟨w.heap.size + 1, 3, none⟩ (.string ⟨#[]⟩)) (w.heap.size + 1) #[(.int .u64 0), (.int .i64 0), (.int .i64 0), (.string ⟨#[]⟩)] 41 ∧ Frm wr ((((wr.setCell ⟨w.heap.size + 1, 0, none⟩ (.int .u64 0)).setCell ⟨w.heap.size + 1, 1, none⟩ (.int .i64 0)).setCell ⟨w.heap.size + 1, 2, none⟩ (.int .i64 0)).setCell ⟨w.heap.size + 1, 3, none⟩ (.string ⟨#[]⟩)) (fun k => k = w.heap.size + 1)) := set4 HZr.out
        have HE4 : Hid (Below w.heap.size w ((((wr.setCell ⟨w.heap.size + 1, 0, none⟩ (.int .u64 0)).setCell ⟨w.heap.size + 1, 1, none⟩ (.int .i64 0)).setCell ⟨w.heap.size + 1, 2, none⟩ (.int .i64 0)).setCell ⟨w.heap.size + 1, 3, none⟩ (.string ⟨#[]⟩))) := HBr.out.trans (H4.out.2.below HBr.out.size (fun k hk => by omega))
        go_wp2_with fail
        clear z0 z1 z2 z3 f0 f1 f2 f3
        generalize (((wr.setCell ⟨w.heap.size + 1, 0, none⟩ (.int .u64 0)).setCell ⟨w.heap.size + 1, 1, none⟩ (.int .i64 0)).setCell ⟨w.heap.size + 1, 2, none⟩ (.int .i64 0)).setCell ⟨w.heap.size + 1, 3, none⟩ (.string ⟨#[]⟩) = wz at *
        have r0 := H4.out.1.cell (i := 0) rfl
        have r1 := H4.out.1.cell (i := 1) rfl
        have r2 := H4.out.1.cell (i := 2) rfl
        have r3 := H4.out.1.cell (i := 3) rfl
        refine bodyPost_ret (v := clV none) (by simp [clV, results, Tryz.results15, go_sem, r0, r1, r2, r3]) rfl ?_
        exact ⟨_, rfl, HQ.out, HE4.out⟩
      · have hj1 : j < n := by omega
        have hjM : j < M.length := by have := HLn.out; omega
        obtain ⟨b, o, rfl, hbl, d0, d1⟩ := HRr.out j hjM
        obtain ⟨s, hs⟩ : ∃ s, M[j].s = s := ⟨_, rfl⟩
        obtain ⟨v2, hv2⟩ : ∃ v2, M[j].v2 = v2 := ⟨_, rfl⟩
        rw [hs] at d0
        rw [hv2] at d1
        have HS : Hid (M[j].s = s) := hs
        by_cases hsf : s ≤ fr
        · have HNo2 : Hid (∀ k (hk : k < M.length), k < j + 1 → fr < M[k].s → ∀ x ∈ M[k].W, ¬ a.rds x) := fun k hk hkj hf => by
            by_cases hk2 : k = j
            · subst hk2
              have := HS.out
              omega
            · exact HNo.out k hk (by omega) hf
          clear hs hv2 d1 HS hjM
          go_wp2_with fail
          go_roundw
          case rel => exact ⟨j + 1, hj1, by go_num, HB, HNo2⟩
          case measure => simp [intOf]; omega
        · have hsf2 : fr < s := by omega
          have hftj := HXr.out.ft M[j] (List.getElem_mem hjM)
          rw [hv2] at hftj
          have CQ : Hid (∀ w7 : World, Below wr.heap.size wr w7 → Calls Tryz.prog 38 #[.agg #[.slice p0 n0 c0, .slice p1 n1 c1, .slice p2 n2 c2], .agg #[.slice none 0 0, .slice none 0 0, v2]] w7 fun e w' => ∃ oo : Option Pt, IsMin (fun x => x ∈ M[j].W ∧ a.rds x) oo ∧ e = .returned (.tuple #[.agg #[.int .i64 (lP oo).t, .int .i64 (lP oo).i, .string (lP oo).k], .bool oo.isSome]) ∧ Below w7.heap.size w7 w') := fun w7 hb => by
            refine (rclash_any a ⟨[], [], M[j].W⟩ _ _ _ _ _ _ w7 (HAr.out.on hb) ⟨SlP.nil18 _, SlS.nil18 _, hftj.1.1.on hb, by simp, by simp, hftj.1.2⟩).mono ?_
            rintro e w' ⟨oo, ho, rfl, hb'⟩
            exact ⟨oo, ho, rfl, hb'⟩
          obtain ⟨q2, l2, k2, ev2⟩ : ∃ p n c, v2 = .slice p n c := by obtain ⟨p, c, e, _⟩ := hftj.1.1.f; exact ⟨_, _, _, e⟩
          subst ev2
          clear hs hv2 hftj
          have hsd : decide ((s : Int) ≤ (fr : Int)) = false := decide_eq_false (by omega)
          go_upto_region 7 with fail
          clear hsd
          have HD : Hid (∀ w9, Below wr.heap.size wr w9 → w9.cell? ⟨b, o + j * 2, none⟩ = some (.int .u64 (s : Nat)) ∧ w9.cell? ⟨b, o + j * 2 + 1, none⟩ = some (.slice q2 l2 k2)) := fun w9 h9 => ⟨(h9.cell (p := ⟨b, o + j * 2, none⟩) hbl).trans d0, (h9.cell (p := ⟨b, o + j * 2 + 1, none⟩) hbl).trans d1⟩
          have HLb : Hid (b < wr.heap.size) := hbl
          clear d0 d1 hbl
          refine wp_region_L (fun w' => Below wr.heap.size wr w') 14 (by kernel_rfl) ?_
          have HBwd : Hid (Below wr.heap.size wr wr.drew) := (Below.refl _ _).drew
          generalize wr.drew = wd at *
          refine wpL_take (v := ?_) 0 rfl (by kernel_rfl) (fun _ _ _ h => h) (by rfl) ?_ HBwd.out ?_
          rotate_left
          focus
            intro w9 hw9
            have a0 := (HKr.out.on hw9).cell (i := 0) rfl
            have a1 := (HKr.out.on hw9).cell (i := 1) rfl
            have a2 := (HKr.out.on hw9).cell (i := 2) rfl
            have a3 := (HD.out w9 hw9).1
            have a4 := (HD.out w9 hw9).2
            go_simp
            try with_reducible rfl
          try simp only [Act.put, List.setIfInBounds_toArray, List.set_cons_zero, List.set_cons_succ]
          refine wpL_take (v := ?_) 1 rfl (by kernel_rfl) (fun _ _ _ h => h) (by rfl) ?_ HBwd.out ?_
          rotate_left
          focus
            intro w9 hw9
            have a0 := (HKr.out.on hw9).cell (i := 0) rfl
            have a1 := (HKr.out.on hw9).cell (i := 1) rfl
            have a2 := (HKr.out.on hw9).cell (i := 2) rfl
            have a3 := (HD.out w9 hw9).1
            have a4 := (HD.out w9 hw9).2
            go_simp
            try with_reducible rfl
          try simp only [Act.put, List.setIfInBounds_toArray, List.set_cons_zero, List.set_cons_succ]
          refine wpL_take (v := ?_) 2 rfl (by kernel_rfl) (fun _ _ _ h => h) (by rfl) ?_ HBwd.out ?_
          rotate_left
          focus
            intro w9 hw9
            have a0 := (HKr.out.on hw9).cell (i := 0) rfl
            have a1 := (HKr.out.on hw9).cell (i := 1) rfl
            have a2 := (HKr.out.on hw9).cell (i := 2) rfl
            have a3 := (HD.out w9 hw9).1
            have a4 := (HD.out w9 hw9).2
            go_simp
            try with_reducible rfl
          try simp only [Act.put, List.setIfInBounds_toArray, List.set_cons_zero, List.set_cons_succ]
          refine wpL_take (v := ?_) 3 rfl (by kernel_rfl) (fun _ _ _ h => h) (by rfl) ?_ HBwd.out ?_
          rotate_left
          focus
            intro w9 hw9
            have a0 := (HKr.out.on hw9).cell (i := 0) rfl
            have a1 := (HKr.out.on hw9).cell (i := 1) rfl
            have a2 := (HKr.out.on hw9).cell (i := 2) rfl
            have a3 := (HD.out w9 hw9).1
            have a4 := (HD.out w9 hw9).2
            go_simp
            try with_reducible rfl
          try simp only [Act.put, List.setIfInBounds_toArray, List.set_cons_zero, List.set_cons_succ]
          refine wpL_take (v := ?_) 4 rfl (by kernel_rfl) (fun _ _ _ h => h) (by rfl) ?_ HBwd.out ?_
          rotate_left
          focus
            intro w9 hw9
            have a0 := (HKr.out.on hw9).cell (i := 0) rfl
            have a1 := (HKr.out.on hw9).cell (i := 1) rfl
            have a2 := (HKr.out.on hw9).cell (i := 2) rfl
            have a3 := (HD.out w9 hw9).1
            have a4 := (HD.out w9 hw9).2
            go_simp
            try with_reducible rfl
          try simp only [Act.put, List.setIfInBounds_toArray, List.set_cons_zero, List.set_cons_succ]
          refine wpL_take (v := ?_) 5 rfl (by kernel_rfl) (fun _ _ _ h => h) (by rfl) ?_ HBwd.out ?_
          rotate_left
          focus
            intro w9 hw9
            have a0 := (HKr.out.on hw9).cell (i := 0) rfl
            have a1 := (HKr.out.on hw9).cell (i := 1) rfl
            have a2 := (HKr.out.on hw9).cell (i := 2) rfl
            have a3 := (HD.out w9 hw9).1
            have a4 := (HD.out w9 hw9).2
            go_simp
            try with_reducible rfl
          try simp only [Act.put, List.setIfInBounds_toArray, List.set_cons_zero, List.set_cons_succ]
          refine wpL_take (v := ?_) 6 rfl (by kernel_rfl) (fun _ _ _ h => h) (by rfl) ?_ HBwd.out ?_
          rotate_left
          focus
            intro w9 hw9
            have a0 := (HKr.out.on hw9).cell (i := 0) rfl
            have a1 := (HKr.out.on hw9).cell (i := 1) rfl
            have a2 := (HKr.out.on hw9).cell (i := 2) rfl
            have a3 := (HD.out w9 hw9).1
            have a4 := (HD.out w9 hw9).2
            go_simp
            try with_reducible rfl
          try simp only [Act.put, List.setIfInBounds_toArray, List.set_cons_zero, List.set_cons_succ]
          refine wpL_two18 7 11 rfl rfl (by kernel_rfl) (by rfl) (by rfl) ?_ ?_
          · intro K hK
            go_simp
            refine (CQ.out wd HBwd.out).mono ?_
            rintro e wu1 ⟨oo, hoo, rfl, hbwu1⟩
            have HMn : Hid (IsMin (fun x => x ∈ M[j].W ∧ a.rds x) oo) := hoo
            clear hoo
            dsimp only
            have HBwu1 : Hid (Below wr.heap.size wr wu1) := HBwd.out.trans (hbwu1.mono HBwd.out.size)
            clear hbwu1
            generalize hlp : lP oo = x at *
            generalize hio : oo.isSome = bo at *
            have HLp : Hid (lP oo = x ∧ oo.isSome = bo) := ⟨hlp, hio⟩
            clear hlp hio
            refine hK.out _ _ (fun _ => HBwu1.out) ?_
            clear hK K
            try simp only [Act.put, List.setIfInBounds_toArray, List.set_cons_zero, List.set_cons_succ]
            refine wpL_take (v := ?_) 8 rfl (by kernel_rfl) (fun _ _ _ h => h) (by rfl) ?_ HBwu1.out ?_
            rotate_left
            focus
              intro w9 hw9

              go_simp
              try with_reducible rfl
            try simp only [Act.put, List.setIfInBounds_toArray, List.set_cons_zero, List.set_cons_succ]
            refine wpL_take (v := ?_) 9 rfl (by kernel_rfl) (fun _ _ _ h => h) (by rfl) ?_ HBwu1.out ?_
            rotate_left
            focus
              intro w9 hw9

              go_simp
              try with_reducible rfl
            try simp only [Act.put, List.setIfInBounds_toArray, List.set_cons_zero, List.set_cons_succ]
            refine wpL_take (v := ?_) 10 rfl (by kernel_rfl) (fun _ _ _ h => h) (by rfl) ?_ HBwu1.out ?_
            rotate_left
            focus
              intro w9 hw9

              go_simp
              try with_reducible rfl
            try simp only [Act.put, List.setIfInBounds_toArray, List.set_cons_zero, List.set_cons_succ]
            refine wpL_one 11 rfl (by kernel_rfl) (by rfl) ?_
            intro K hK
            go_simp
            have hal : Below wu1.heap.size wu1 (wu1.alloc (.cells #[.int .i64 0, .int .i64 0, .string ⟨#[]⟩] 39)) := (Below.refl _ _).alloc (Nat.le_refl _) _
            have HZwu2 : Hid (Blk (wu1.alloc (.cells #[.int .i64 0, .int .i64 0, .string ⟨#[]⟩] 39)) wu1.heap.size #[.int .i64 0, .int .i64 0, .string ⟨#[]⟩] 39) := Blk.new wu1 _ _
            have HBwu2 : Hid (Below wr.heap.size wr (wu1.alloc (.cells #[.int .i64 0, .int .i64 0, .string ⟨#[]⟩] 39))) := HBwu1.out.trans (hal.mono HBwu1.out.size)
            have HLe : Hid (wr.heap.size ≤ wu1.heap.size) := HBwu1.out.size
            clear hal
            generalize (wu1.alloc (.cells #[.int .i64 0, .int .i64 0, .string ⟨#[]⟩] 39)) = wu2 at *
            refine hK.out _ _ (fun _ => HBwu2.out) ?_
            clear hK K
            try simp only [Act.put, List.setIfInBounds_toArray, List.set_cons_zero, List.set_cons_succ]
            have q0 := HZwu2.out.cell (i := 0) rfl
            have q1 := HZwu2.out.cell (i := 1) rfl
            have q2' := HZwu2.out.cell (i := 2) rfl
            have g0 := HZwu2.out.frozen 0
            have g1 := HZwu2.out.frozen 1
            have g2 := HZwu2.out.frozen 2
            have H3 : Hid (Blk (((wu2.setCell ⟨wu1.heap.size, 0, none⟩ (.int .i64 x.t)).setCell ⟨wu1.heap.size, 1, none⟩ (.int .i64 x.i)).setCell ⟨wu1.heap.size, 2, none⟩ (.string x.k)) wu1.heap.size #[.int .i64 x.t, .int .i64 x.i, .string x.k] 39 ∧ Frm wu2 (((wu2.setCell ⟨wu1.heap.size, 0, none⟩ (.int .i64 x.t)).setCell ⟨wu1.heap.size, 1, none⟩ (.int .i64 x.i)).setCell ⟨wu1.heap.size, 2, none⟩ (.string x.k)) (fun k => k = wu1.heap.size)) := set3 HZwu2.out
            have HBs : Hid (Below wr.heap.size wr (((wu2.setCell ⟨wu1.heap.size, 0, none⟩ (.int .i64 x.t)).setCell ⟨wu1.heap.size, 1, none⟩ (.int .i64 x.i)).setCell ⟨wu1.heap.size, 2, none⟩ (.string x.k))) := HBwu2.out.trans (H3.out.2.below HBwu2.out.size (fun k hk => by have := HLe.out; omega))
            refine wpL_one 12 rfl (by kernel_rfl) (by rfl) ?_
            intro K hK
            go_simp
            refine hK.out _ _ (fun _ => HBs.out) ?_
            clear hK K q0 q1 q2' g0 g1 g2
            generalize ((wu2.setCell ⟨wu1.heap.size, 0, none⟩ (.int .i64 x.t)).setCell ⟨wu1.heap.size, 1, none⟩ (.int .i64 x.i)).setCell ⟨wu1.heap.size, 2, none⟩ (.string x.k) = ws at *
            try simp only [Act.put, List.setIfInBounds_toArray, List.set_cons_zero, List.set_cons_succ]
            refine wpL_take (v := ?_) 13 rfl (by kernel_rfl) (fun _ _ _ h => h) (by rfl) ?_ HBs.out ?_
            rotate_left
            focus
              intro w9 hw9

              go_simp
              try with_reducible rfl
            try simp only [Act.put, List.setIfInBounds_toArray, List.set_cons_zero, List.set_cons_succ]
            refine wpL_done (by kernel_rfl) ?_ _
            try simp only [NoPanic]
            have HPs : Hid (Blk ws wu1.heap.size #[.int .i64 x.t, .int .i64 x.i, .string x.k] 39) := H3.out.1
            have HLe2 : Hid (wr.heap.size ≤ wu1.heap.size) := HLe.out
            clear H3 HBwu2 HZwu2 HLe
            generalize wu1.heap.size = pb at *
            cases bo with
            | false =>
              have HNo2 : Hid (∀ k (hk : k < M.length), k < j + 1 → fr < M[k].s → ∀ x ∈ M[k].W, ¬ a.rds x) := fun k hk hkj hf y hy hm => by
                by_cases hk2 : k = j
                · subst hk2
                  have h9 := HMn.out
                  cases oo with
                  | none => exact h9 y ⟨hy, hm⟩
                  | some z => exact absurd HLp.out.2 (by simp)
                · exact HNo.out k hk (by omega) hf y hy hm
              have HBn : Hid (Below w3.heap.size w3 ws) := HB.out.trans (HBs.out.mono HB.out.size)
              clear HPs HLe2 HMn HLp HD HNo HB CQ HS hjM
              go_wp2_with fail
              go_roundw
              case rel => exact ⟨j + 1, hj1, by go_num, HBn, HNo2⟩
              case measure => simp [intOf]; omega
            | true =>
              have HFx : Hid (RdQ a M fr (some (s, x))) := ⟨fun _ => by
                have h9 := HMn.out
                cases oo with
                | none => exact absurd HLp.out.2 (by simp)
                | some z =>
                  have hz : z = x := HLp.out.1
                  subst hz
                  refine ⟨M[j], List.getElem_mem hjM, HS.out, hsf2, h9, fun c' hc' hf hlt y hy hm => ?_⟩
                  obtain ⟨k, hk, rfl⟩ := List.getElem_of_mem hc'
                  have hlt' : M[k].s < s := hlt
                  have hkj : k < j := by
                    rcases Nat.lt_trichotomy k j with h | h | h
                    · exact h
                    · subst h
                      have := HS.out
                      omega
                    · have := HI.out.ris j k hjM hk h
                      have := HS.out
                      omega
                  exact HNo.out k hk hkj hf y hy hm, fun h => absurd HCA.out h⟩
              go_upto_region 9 with fail
              have HZs : Hid (Blk ws (w.heap.size + 1) #[.int .u64 0, .int .i64 0, .int .i64 0, .string ⟨#[]⟩] 41) := HZr.out.on HBs.out
              have HLz : Hid (w.heap.size + 1 < wr.heap.size) := HZr.out.lt
              have hds := (HD.out ws HBs.out).1
              have HBe : Hid (Below w.heap.size w ws) := HBr.out.trans (HBs.out.mono HBr.out.size)
              have HBd : Hid (¬ b = w.heap.size + 1) := by
                obtain ⟨b', o', e', hb', _⟩ := HRw.out j hjM
                cases e'
                show ¬ b = w.heap.size + 1
                omega
              clear HMn HLp HD HNo HB HBs HZr HRr HXr HAr HKr HBr CQ HS hjM
              refine wp_region_L (fun w' => w'.cell? ⟨b, o + j * 2, none⟩ = some (.int .u64 (s : Nat)) ∧ Blk w' pb #[.int .i64 x.t, .int .i64 x.i, .string x.k] 39) 9 (by kernel_rfl) ?_
              have HSd : Hid (ws.drew.cell? ⟨b, o + j * 2, none⟩ = some (.int .u64 (s : Nat)) ∧ Blk ws.drew pb #[.int .i64 x.t, .int .i64 x.i, .string x.k] 39) := ⟨hds, HPs.out⟩
              have HZd : Hid (Blk ws.drew (w.heap.size + 1) #[.int .u64 0, .int .i64 0, .int .i64 0, .string ⟨#[]⟩] 41) := HZs.out
              have HEd : Hid (Below w.heap.size w ws.drew) := HBe.out.drew
              clear hds HPs HZs HBe
              generalize ws.drew = wd9 at *
              refine wpL_take (v := ?_) 0 rfl (by kernel_rfl) (fun _ _ _ h => h) (by rfl) ?_ HSd.out ?_
              rotate_left
              focus
                intro w9 hw9
                have a0 := hw9.1
                have b0 := hw9.2.cell (i := 0) rfl
                have b1 := hw9.2.cell (i := 1) rfl
                have b2 := hw9.2.cell (i := 2) rfl
                go_simp
                try with_reducible rfl
              try simp only [Act.put, List.setIfInBounds_toArray, List.set_cons_zero, List.set_cons_succ]
              refine wpL_take (v := ?_) 1 rfl (by kernel_rfl) (fun _ _ _ h => h) (by rfl) ?_ HSd.out ?_
              rotate_left
              focus
                intro w9 hw9
                have a0 := hw9.1
                have b0 := hw9.2.cell (i := 0) rfl
                have b1 := hw9.2.cell (i := 1) rfl
                have b2 := hw9.2.cell (i := 2) rfl
                go_simp
                try with_reducible rfl
              try simp only [Act.put, List.setIfInBounds_toArray, List.set_cons_zero, List.set_cons_succ]
              refine wpL_take (v := ?_) 2 rfl (by kernel_rfl) (fun _ _ _ h => h) (by rfl) ?_ HSd.out ?_
              rotate_left
              focus
                intro w9 hw9
                have a0 := hw9.1
                have b0 := hw9.2.cell (i := 0) rfl
                have b1 := hw9.2.cell (i := 1) rfl
                have b2 := hw9.2.cell (i := 2) rfl
                go_simp
                try with_reducible rfl
              try simp only [Act.put, List.setIfInBounds_toArray, List.set_cons_zero, List.set_cons_succ]
              refine wpL_take (v := ?_) 3 rfl (by kernel_rfl) (fun _ _ _ h => h) (by rfl) ?_ HSd.out ?_
              rotate_left
              focus
                intro w9 hw9
                have a0 := hw9.1
                have b0 := hw9.2.cell (i := 0) rfl
                have b1 := hw9.2.cell (i := 1) rfl
                have b2 := hw9.2.cell (i := 2) rfl
                go_simp
                try with_reducible rfl
              try simp only [Act.put, List.setIfInBounds_toArray, List.set_cons_zero, List.set_cons_succ]
              refine wpL_take (v := ?_) 4 rfl (by kernel_rfl) (fun _ _ _ h => h) (by rfl) ?_ HSd.out ?_
              rotate_left
              focus
                intro w9 hw9
                have a0 := hw9.1
                have b0 := hw9.2.cell (i := 0) rfl
                have b1 := hw9.2.cell (i := 1) rfl
                have b2 := hw9.2.cell (i := 2) rfl
                go_simp
                try with_reducible rfl
              try simp only [Act.put, List.setIfInBounds_toArray, List.set_cons_zero, List.set_cons_succ]
              refine wpL_take (v := ?_) 5 rfl (by kernel_rfl) (fun _ _ _ h => h) (by rfl) ?_ HSd.out ?_
              rotate_left
              focus
                intro w9 hw9
                have a0 := hw9.1
                have b0 := hw9.2.cell (i := 0) rfl
                have b1 := hw9.2.cell (i := 1) rfl
                have b2 := hw9.2.cell (i := 2) rfl
                go_simp
                try with_reducible rfl
              try simp only [Act.put, List.setIfInBounds_toArray, List.set_cons_zero, List.set_cons_succ]
              refine wpL_take (v := ?_) 6 rfl (by kernel_rfl) (fun _ _ _ h => h) (by rfl) ?_ HSd.out ?_
              rotate_left
              focus
                intro w9 hw9
                have a0 := hw9.1
                have b0 := hw9.2.cell (i := 0) rfl
                have b1 := hw9.2.cell (i := 1) rfl
                have b2 := hw9.2.cell (i := 2) rfl
                go_simp
                try with_reducible rfl
              try simp only [Act.put, List.setIfInBounds_toArray, List.set_cons_zero, List.set_cons_succ]
              refine wpL_one 7 rfl (by kernel_rfl) (by rfl) ?_
              intro K hK
              have z0 := HZd.out.cell (i := 0) rfl
              have f0 := HZd.out.frozen 0
              have z1 := HZd.out.cell (i := 1) rfl
              have f1 := HZd.out.frozen 1
              have z2 := HZd.out.cell (i := 2) rfl
              have f2 := HZd.out.frozen 2
              have z3 := HZd.out.cell (i := 3) rfl
              have f3 := HZd.out.frozen 3
              have H4 : Hid (Blk ((((wd9.setCell ⟨w.heap.size + 1, 0, none⟩ (.int .u64 (s : Nat))).setCell ⟨w.heap.size + 1, 1, none⟩ (.int .i64 x.t)).setCell ⟨w.heap.size + 1, 2, none⟩ (.int .i64 x.i)).setCell ⟨w.heap.size + 1, 3, none⟩ (.string x.k)) (w.heap.size + 1) #[(.int .u64 (s : Nat)), (.int .i64 x.t), (.int .i64 x.i), (.string x.k)] 41 ∧ Frm wd9 ((((wd9.setCell ⟨w.heap.size + 1, 0, none⟩ (.int .u64 (s : Nat))).setCell ⟨w.heap.size + 1, 1, none⟩ (.int .i64 x.t)).setCell ⟨w.heap.size + 1, 2, none⟩ (.int .i64 x.i)).setCell ⟨w.heap.size + 1, 3, none⟩ (.string x.k)) (fun k => k = w.heap.size + 1)) := set4 HZd.out
              have HE4 : Hid (Below w.heap.size w ((((wd9.setCell ⟨w.heap.size + 1, 0, none⟩ (.int .u64 (s : Nat))).setCell ⟨w.heap.size + 1, 1, none⟩ (.int .i64 x.t)).setCell ⟨w.heap.size + 1, 2, none⟩ (.int .i64 x.i)).setCell ⟨w.heap.size + 1, 3, none⟩ (.string x.k))) := HEd.out.trans (H4.out.2.below HEd.out.size (fun k hk => by omega))
              have HSe : Hid (((((wd9.setCell ⟨w.heap.size + 1, 0, none⟩ (.int .u64 (s : Nat))).setCell ⟨w.heap.size + 1, 1, none⟩ (.int .i64 x.t)).setCell ⟨w.heap.size + 1, 2, none⟩ (.int .i64 x.i)).setCell ⟨w.heap.size + 1, 3, none⟩ (.string x.k)).cell? ⟨b, o + j * 2, none⟩ = some (.int .u64 (s : Nat)) ∧ Blk ((((wd9.setCell ⟨w.heap.size + 1, 0, none⟩ (.int .u64 (s : Nat))).setCell ⟨w.heap.size + 1, 1, none⟩ (.int .i64 x.t)).setCell ⟨w.heap.size + 1, 2, none⟩ (.int .i64 x.i)).setCell ⟨w.heap.size + 1, 3, none⟩ (.string x.k)) pb #[.int .i64 x.t, .int .i64 x.i, .string x.k] 39) := by
                have hf := H4.out.2
                refine ⟨?_, ?_⟩
                · have h8 := HSd.out.1
                  unfold World.cell? at h8 ⊢
                  have hbk : ((((wd9.setCell ⟨w.heap.size + 1, 0, none⟩ (.int .u64 (s : Nat))).setCell ⟨w.heap.size + 1, 1, none⟩ (.int .i64 x.t)).setCell ⟨w.heap.size + 1, 2, none⟩ (.int .i64 x.i)).setCell ⟨w.heap.size + 1, 3, none⟩ (.string x.k)).heap[b]? = wd9.heap[b]? := by
                    rcases Nat.lt_or_ge b wd9.heap.size with hlt | hge
                    · exact hf.block b hlt HBd.out
                    · simp [Array.getElem?_eq_none hge] at h8
                  simp only [hbk]
                  exact h8
                · exact (hf.block pb HSd.out.2.lt (by have h1 := HLe2.out; have h2 := HLz.out; omega)).trans HSd.out.2
              go_simp
              refine hK.out _ _ (fun _ => HSe.out) ?_
              clear hK K
              clear z0 z1 z2 z3 f0 f1 f2 f3
              generalize (((wd9.setCell ⟨w.heap.size + 1, 0, none⟩ (.int .u64 (s : Nat))).setCell ⟨w.heap.size + 1, 1, none⟩ (.int .i64 x.t)).setCell ⟨w.heap.size + 1, 2, none⟩ (.int .i64 x.i)).setCell ⟨w.heap.size + 1, 3, none⟩ (.string x.k) = wz at *
              try simp only [Act.put, List.setIfInBounds_toArray, List.set_cons_zero, List.set_cons_succ]
              refine wpL_take (v := ?_) 8 rfl (by kernel_rfl) (fun _ _ _ h => h) (by rfl) ?_ HSe.out ?_
              rotate_left
              focus
                intro w9 hw9

                go_simp
                try with_reducible rfl
              try simp only [Act.put, List.setIfInBounds_toArray, List.set_cons_zero, List.set_cons_succ]
              refine wpL_done (by kernel_rfl) ?_ _
              try simp only [NoPanic]
              have HQ := HFx
              go_wp2_with fail
              have r0 := H4.out.1.cell (i := 0) rfl
              have r1 := H4.out.1.cell (i := 1) rfl
              have r2 := H4.out.1.cell (i := 2) rfl
              have r3 := H4.out.1.cell (i := 3) rfl
              refine bodyPost_ret (v := clV (some (s, x))) (by simp [clV, results, Tryz.results15, go_sem, r0, r1, r2, r3]) rfl ?_
              exact ⟨_, rfl, HQ.out, HE4.out⟩
          · intro K hK
            go_simp
            have hal : Below wd.heap.size wd (wd.alloc (.cells #[.int .i64 0, .int .i64 0, .string ⟨#[]⟩] 39)) := (Below.refl _ _).alloc (Nat.le_refl _) _
            have HZwu3 : Hid (Blk (wd.alloc (.cells #[.int .i64 0, .int .i64 0, .string ⟨#[]⟩] 39)) wd.heap.size #[.int .i64 0, .int .i64 0, .string ⟨#[]⟩] 39) := Blk.new wd _ _
            have HBwu3 : Hid (Below wr.heap.size wr (wd.alloc (.cells #[.int .i64 0, .int .i64 0, .string ⟨#[]⟩] 39))) := HBwd.out.trans (hal.mono HBwd.out.size)
            have HLe : Hid (wr.heap.size ≤ wd.heap.size) := HBwd.out.size
            clear hal
            generalize (wd.alloc (.cells #[.int .i64 0, .int .i64 0, .string ⟨#[]⟩] 39)) = wu3 at *
            refine hK.out _ _ (fun _ => HBwu3.out) ?_
            clear hK K
            try simp only [Act.put, List.setIfInBounds_toArray, List.set_cons_zero, List.set_cons_succ]
            refine wpL_one 7 rfl (by kernel_rfl) (by rfl) ?_
            intro K hK
            go_simp
            refine (CQ.out wu3 HBwu3.out).mono ?_
            rintro e wu4 ⟨oo, hoo, rfl, hbwu4⟩
            have HMn : Hid (IsMin (fun x => x ∈ M[j].W ∧ a.rds x) oo) := hoo
            clear hoo
            dsimp only
            have HBwu4 : Hid (Below wr.heap.size wr wu4) := HBwu3.out.trans (hbwu4.mono HBwu3.out.size)
            have HZwu4 : Hid (Blk wu4 wd.heap.size #[.int .i64 0, .int .i64 0, .string ⟨#[]⟩] 39) := HZwu3.out.on hbwu4
            clear hbwu4
            generalize hlp : lP oo = x at *
            generalize hio : oo.isSome = bo at *
            have HLp : Hid (lP oo = x ∧ oo.isSome = bo) := ⟨hlp, hio⟩
            clear hlp hio
            refine hK.out _ _ (fun _ => HBwu4.out) ?_
            clear hK K
            try simp only [Act.put, List.setIfInBounds_toArray, List.set_cons_zero, List.set_cons_succ]
            refine wpL_take (v := ?_) 8 rfl (by kernel_rfl) (fun _ _ _ h => h) (by rfl) ?_ HBwu4.out ?_
            rotate_left
            focus
              intro w9 hw9

              go_simp
              try with_reducible rfl
            try simp only [Act.put, List.setIfInBounds_toArray, List.set_cons_zero, List.set_cons_succ]
            refine wpL_take (v := ?_) 9 rfl (by kernel_rfl) (fun _ _ _ h => h) (by rfl) ?_ HBwu4.out ?_
            rotate_left
            focus
              intro w9 hw9

              go_simp
              try with_reducible rfl
            try simp only [Act.put, List.setIfInBounds_toArray, List.set_cons_zero, List.set_cons_succ]
            refine wpL_take (v := ?_) 10 rfl (by kernel_rfl) (fun _ _ _ h => h) (by rfl) ?_ HBwu4.out ?_
            rotate_left
            focus
              intro w9 hw9

              go_simp
              try with_reducible rfl
            try simp only [Act.put, List.setIfInBounds_toArray, List.set_cons_zero, List.set_cons_succ]
            have q0 := HZwu4.out.cell (i := 0) rfl
            have q1 := HZwu4.out.cell (i := 1) rfl
            have q2' := HZwu4.out.cell (i := 2) rfl
            have g0 := HZwu4.out.frozen 0
            have g1 := HZwu4.out.frozen 1
            have g2 := HZwu4.out.frozen 2
            have H3 : Hid (Blk (((wu4.setCell ⟨wd.heap.size, 0, none⟩ (.int .i64 x.t)).setCell ⟨wd.heap.size, 1, none⟩ (.int .i64 x.i)).setCell ⟨wd.heap.size, 2, none⟩ (.string x.k)) wd.heap.size #[.int .i64 x.t, .int .i64 x.i, .string x.k] 39 ∧ Frm wu4 (((wu4.setCell ⟨wd.heap.size, 0, none⟩ (.int .i64 x.t)).setCell ⟨wd.heap.size, 1, none⟩ (.int .i64 x.i)).setCell ⟨wd.heap.size, 2, none⟩ (.string x.k)) (fun k => k = wd.heap.size)) := set3 HZwu4.out
            have HBs : Hid (Below wr.heap.size wr (((wu4.setCell ⟨wd.heap.size, 0, none⟩ (.int .i64 x.t)).setCell ⟨wd.heap.size, 1, none⟩ (.int .i64 x.i)).setCell ⟨wd.heap.size, 2, none⟩ (.string x.k))) := HBwu4.out.trans (H3.out.2.below HBwu4.out.size (fun k hk => by have := HLe.out; omega))
            refine wpL_one 12 rfl (by kernel_rfl) (by rfl) ?_
            intro K hK
            go_simp
            refine hK.out _ _ (fun _ => HBs.out) ?_
            clear hK K q0 q1 q2' g0 g1 g2
            generalize ((wu4.setCell ⟨wd.heap.size, 0, none⟩ (.int .i64 x.t)).setCell ⟨wd.heap.size, 1, none⟩ (.int .i64 x.i)).setCell ⟨wd.heap.size, 2, none⟩ (.string x.k) = ws at *
            try simp only [Act.put, List.setIfInBounds_toArray, List.set_cons_zero, List.set_cons_succ]
            refine wpL_take (v := ?_) 13 rfl (by kernel_rfl) (fun _ _ _ h => h) (by rfl) ?_ HBs.out ?_
            rotate_left
            focus
              intro w9 hw9

              go_simp
              try with_reducible rfl
            try simp only [Act.put, List.setIfInBounds_toArray, List.set_cons_zero, List.set_cons_succ]
            refine wpL_done (by kernel_rfl) ?_ _
            try simp only [NoPanic]
            have HPs : Hid (Blk ws wd.heap.size #[.int .i64 x.t, .int .i64 x.i, .string x.k] 39) := H3.out.1
            have HLe2 : Hid (wr.heap.size ≤ wd.heap.size) := HLe.out
            clear H3 HBwu4 HZwu4 HLe
            generalize wd.heap.size = pb at *
            cases bo with
            | false =>
              have HNo2 : Hid (∀ k (hk : k < M.length), k < j + 1 → fr < M[k].s → ∀ x ∈ M[k].W, ¬ a.rds x) := fun k hk hkj hf y hy hm => by
                by_cases hk2 : k = j
                · subst hk2
                  have h9 := HMn.out
                  cases oo with
                  | none => exact h9 y ⟨hy, hm⟩
                  | some z => exact absurd HLp.out.2 (by simp)
                · exact HNo.out k hk (by omega) hf y hy hm
              have HBn : Hid (Below w3.heap.size w3 ws) := HB.out.trans (HBs.out.mono HB.out.size)
              clear HPs HLe2 HMn HLp HD HNo HB CQ HS hjM
              go_wp2_with fail
              go_roundw
              case rel => exact ⟨j + 1, hj1, by go_num, HBn, HNo2⟩
              case measure => simp [intOf]; omega
            | true =>
              have HFx : Hid (RdQ a M fr (some (s, x))) := ⟨fun _ => by
                have h9 := HMn.out
                cases oo with
                | none => exact absurd HLp.out.2 (by simp)
                | some z =>
                  have hz : z = x := HLp.out.1
                  subst hz
                  refine ⟨M[j], List.getElem_mem hjM, HS.out, hsf2, h9, fun c' hc' hf hlt y hy hm => ?_⟩
                  obtain ⟨k, hk, rfl⟩ := List.getElem_of_mem hc'
                  have hlt' : M[k].s < s := hlt
                  have hkj : k < j := by
                    rcases Nat.lt_trichotomy k j with h | h | h
                    · exact h
                    · subst h
                      have := HS.out
                      omega
                    · have := HI.out.ris j k hjM hk h
                      have := HS.out
                      omega
                  exact HNo.out k hk hkj hf y hy hm, fun h => absurd HCA.out h⟩
              go_upto_region 9 with fail
              have HZs : Hid (Blk ws (w.heap.size + 1) #[.int .u64 0, .int .i64 0, .int .i64 0, .string ⟨#[]⟩] 41) := HZr.out.on HBs.out
              have HLz : Hid (w.heap.size + 1 < wr.heap.size) := HZr.out.lt
              have hds := (HD.out ws HBs.out).1
              have HBe : Hid (Below w.heap.size w ws) := HBr.out.trans (HBs.out.mono HBr.out.size)
              have HBd : Hid (¬ b = w.heap.size + 1) := by
                obtain ⟨b', o', e', hb', _⟩ := HRw.out j hjM
                cases e'
                show ¬ b = w.heap.size + 1
                omega
              clear HMn HLp HD HNo HB HBs HZr HRr HXr HAr HKr HBr CQ HS hjM
              refine wp_region_L (fun w' => w'.cell? ⟨b, o + j * 2, none⟩ = some (.int .u64 (s : Nat)) ∧ Blk w' pb #[.int .i64 x.t, .int .i64 x.i, .string x.k] 39) 9 (by kernel_rfl) ?_
              have HSd : Hid (ws.drew.cell? ⟨b, o + j * 2, none⟩ = some (.int .u64 (s : Nat)) ∧ Blk ws.drew pb #[.int .i64 x.t, .int .i64 x.i, .string x.k] 39) := ⟨hds, HPs.out⟩
              have HZd : Hid (Blk ws.drew (w.heap.size + 1) #[.int .u64 0, .int .i64 0, .int .i64 0, .string ⟨#[]⟩] 41) := HZs.out
              have HEd : Hid (Below w.heap.size w ws.drew) := HBe.out.drew
              clear hds HPs HZs HBe
              generalize ws.drew = wd9 at *
              refine wpL_take (v := ?_) 0 rfl (by kernel_rfl) (fun _ _ _ h => h) (by rfl) ?_ HSd.out ?_
              rotate_left
              focus
                intro w9 hw9
                have a0 := hw9.1
                have b0 := hw9.2.cell (i := 0) rfl
                have b1 := hw9.2.cell (i := 1) rfl
                have b2 := hw9.2.cell (i := 2) rfl
                go_simp
                try with_reducible rfl
              try simp only [Act.put, List.setIfInBounds_toArray, List.set_cons_zero, List.set_cons_succ]
              refine wpL_take (v := ?_) 1 rfl (by kernel_rfl) (fun _ _ _ h => h) (by rfl) ?_ HSd.out ?_
              rotate_left
              focus
                intro w9 hw9
                have a0 := hw9.1
                have b0 := hw9.2.cell (i := 0) rfl
                have b1 := hw9.2.cell (i := 1) rfl
                have b2 := hw9.2.cell (i := 2) rfl
                go_simp
                try with_reducible rfl
              try simp only [Act.put, List.setIfInBounds_toArray, List.set_cons_zero, List.set_cons_succ]
              refine wpL_take (v := ?_) 2 rfl (by kernel_rfl) (fun _ _ _ h => h) (by rfl) ?_ HSd.out ?_
              rotate_left
              focus
                intro w9 hw9
                have a0 := hw9.1
                have b0 := hw9.2.cell (i := 0) rfl
                have b1 := hw9.2.cell (i := 1) rfl
                have b2 := hw9.2.cell (i := 2) rfl
                go_simp
                try with_reducible rfl
              try simp only [Act.put, List.setIfInBounds_toArray, List.set_cons_zero, List.set_cons_succ]
              refine wpL_take (v := ?_) 3 rfl (by kernel_rfl) (fun _ _ _ h => h) (by rfl) ?_ HSd.out ?_
              rotate_left
              focus
                intro w9 hw9
                have a0 := hw9.1
                have b0 := hw9.2.cell (i := 0) rfl
                have b1 := hw9.2.cell (i := 1) rfl
                have b2 := hw9.2.cell (i := 2) rfl
                go_simp
                try with_reducible rfl
              try simp only [Act.put, List.setIfInBounds_toArray, List.set_cons_zero, List.set_cons_succ]
              refine wpL_take (v := ?_) 4 rfl (by kernel_rfl) (fun _ _ _ h => h) (by rfl) ?_ HSd.out ?_
              rotate_left
              focus
                intro w9 hw9
                have a0 := hw9.1
                have b0 := hw9.2.cell (i := 0) rfl
                have b1 := hw9.2.cell (i := 1) rfl
                have b2 := hw9.2.cell (i := 2) rfl
                go_simp
                try with_reducible rfl
              try simp only [Act.put, List.setIfInBounds_toArray, List.set_cons_zero, List.set_cons_succ]
              refine wpL_take (v := ?_) 5 rfl (by kernel_rfl) (fun _ _ _ h => h) (by rfl) ?_ HSd.out ?_
              rotate_left
              focus
                intro w9 hw9
                have a0 := hw9.1
                have b0 := hw9.2.cell (i := 0) rfl
                have b1 := hw9.2.cell (i := 1) rfl
                have b2 := hw9.2.cell (i := 2) rfl
                go_simp
                try with_reducible rfl
              try simp only [Act.put, List.setIfInBounds_toArray, List.set_cons_zero, List.set_cons_succ]
              refine wpL_take (v := ?_) 6 rfl (by kernel_rfl) (fun _ _ _ h => h) (by rfl) ?_ HSd.out ?_
              rotate_left
              focus
                intro w9 hw9
                have a0 := hw9.1
                have b0 := hw9.2.cell (i := 0) rfl
                have b1 := hw9.2.cell (i := 1) rfl
                have b2 := hw9.2.cell (i := 2) rfl
                go_simp
                try with_reducible rfl
              try simp only [Act.put, List.setIfInBounds_toArray, List.set_cons_zero, List.set_cons_succ]
              refine wpL_one 7 rfl (by kernel_rfl) (by rfl) ?_
              intro K hK
              have z0 := HZd.out.cell (i := 0) rfl
              have f0 := HZd.out.frozen 0
              have z1 := HZd.out.cell (i := 1) rfl
              have f1 := HZd.out.frozen 1
              have z2 := HZd.out.cell (i := 2) rfl
              have f2 := HZd.out.frozen 2
              have z3 := HZd.out.cell (i := 3) rfl
              have f3 := HZd.out.frozen 3
              have H4 : Hid (Blk ((((wd9.setCell ⟨w.heap.size + 1, 0, none⟩ (.int .u64 (s : Nat))).setCell ⟨w.heap.size + 1, 1, none⟩ (.int .i64 x.t)).setCell ⟨w.heap.size + 1, 2, none⟩ (.int .i64 x.i)).setCell ⟨w.heap.size + 1, 3, none⟩ (.string x.k)) (w.heap.size + 1) #[(.int .u64 (s : Nat)), (.int .i64 x.t), (.int .i64 x.i), (.string x.k)] 41 ∧ Frm wd9 ((((wd9.setCell ⟨w.heap.size + 1, 0, none⟩ (.int .u64 (s : Nat))).setCell ⟨w.heap.size + 1, 1, none⟩ (.int .i64 x.t)).setCell ⟨w.heap.size + 1, 2, none⟩ (.int .i64 x.i)).setCell ⟨w.heap.size + 1, 3, none⟩ (.string x.k)) (fun k => k = w.heap.size + 1)) := set4 HZd.out
              have HE4 : Hid (Below w.heap.size w ((((wd9.setCell ⟨w.heap.size + 1, 0, none⟩ (.int .u64 (s : Nat))).setCell ⟨w.heap.size + 1, 1, none⟩ (.int .i64 x.t)).setCell ⟨w.heap.size + 1, 2, none⟩ (.int .i64 x.i)).setCell ⟨w.heap.size + 1, 3, none⟩ (.string x.k))) := HEd.out.trans (H4.out.2.below HEd.out.size (fun k hk => by omega))
              have HSe : Hid (((((wd9.setCell ⟨w.heap.size + 1, 0, none⟩ (.int .u64 (s : Nat))).setCell ⟨w.heap.size + 1, 1, none⟩ (.int .i64 x.t)).setCell ⟨w.heap.size + 1, 2, none⟩ (.int .i64 x.i)).setCell ⟨w.heap.size + 1, 3, none⟩ (.string x.k)).cell? ⟨b, o + j * 2, none⟩ = some (.int .u64 (s : Nat)) ∧ Blk ((((wd9.setCell ⟨w.heap.size + 1, 0, none⟩ (.int .u64 (s : Nat))).setCell ⟨w.heap.size + 1, 1, none⟩ (.int .i64 x.t)).setCell ⟨w.heap.size + 1, 2, none⟩ (.int .i64 x.i)).setCell ⟨w.heap.size + 1, 3, none⟩ (.string x.k)) pb #[.int .i64 x.t, .int .i64 x.i, .string x.k] 39) := by
                have hf := H4.out.2
                refine ⟨?_, ?_⟩
                · have h8 := HSd.out.1
                  unfold World.cell? at h8 ⊢
                  have hbk : ((((wd9.setCell ⟨w.heap.size + 1, 0, none⟩ (.int .u64 (s : Nat))).setCell ⟨w.heap.size + 1, 1, none⟩ (.int .i64 x.t)).setCell ⟨w.heap.size + 1, 2, none⟩ (.int .i64 x.i)).setCell ⟨w.heap.size + 1, 3, none⟩ (.string x.k)).heap[b]? = wd9.heap[b]? := by
                    rcases Nat.lt_or_ge b wd9.heap.size with hlt | hge
                    · exact hf.block b hlt HBd.out
                    · simp [Array.getElem?_eq_none hge] at h8
                  simp only [hbk]
                  exact h8
                · exact (hf.block pb HSd.out.2.lt (by have h1 := HLe2.out; have h2 := HLz.out; omega)).trans HSd.out.2
              go_simp
              refine hK.out _ _ (fun _ => HSe.out) ?_
              clear hK K
              clear z0 z1 z2 z3 f0 f1 f2 f3
              generalize (((wd9.setCell ⟨w.heap.size + 1, 0, none⟩ (.int .u64 (s : Nat))).setCell ⟨w.heap.size + 1, 1, none⟩ (.int .i64 x.t)).setCell ⟨w.heap.size + 1, 2, none⟩ (.int .i64 x.i)).setCell ⟨w.heap.size + 1, 3, none⟩ (.string x.k) = wz at *
              try simp only [Act.put, List.setIfInBounds_toArray, List.set_cons_zero, List.set_cons_succ]
              refine wpL_take (v := ?_) 8 rfl (by kernel_rfl) (fun _ _ _ h => h) (by rfl) ?_ HSe.out ?_
              rotate_left
              focus
                intro w9 hw9

                go_simp
                try with_reducible rfl
              try simp only [Act.put, List.setIfInBounds_toArray, List.set_cons_zero, List.set_cons_succ]
              refine wpL_done (by kernel_rfl) ?_ _
              try simp only [NoPanic]
              have HQ := HFx
              go_wp2_with fail
              have r0 := H4.out.1.cell (i := 0) rfl
              have r1 := H4.out.1.cell (i := 1) rfl
              have r2 := H4.out.1.cell (i := 2) rfl
              have r3 := H4.out.1.cell (i := 3) rfl
              refine bodyPost_ret (v := clV (some (s, x))) (by simp [clV, results, Tryz.results15, go_sem, r0, r1, r2, r3]) rfl ?_
              exact ⟨_, rfl, HQ.out, HE4.out⟩
  · have HQ : Hid (RdQ a M fr none) := ⟨fun h => absurd h hca, fun _ => rfl⟩
    have z0 := HZ3.out.cell (i := 0) rfl
    have f0 := HZ3.out.frozen 0
    have z1 := HZ3.out.cell (i := 1) rfl
    have f1 := HZ3.out.frozen 1
    have z2 := HZ3.out.cell (i := 2) rfl
    have f2 := HZ3.out.frozen 2
    have z3 := HZ3.out.cell (i := 3) rfl
    have f3 := HZ3.out.frozen 3
    have H4 : Hid (Blk ((((w3.setCell ⟨w.heap.size + 1, 0, none⟩ (.int .u64 0)).setCell ⟨w.heap.size + 1, 1, none⟩ (.int .i64 0)).setCell ⟨w.heap.size + 1, 2, none⟩ (.int .i64 0)).setCell ⟨w.heap.size + 1, 3, none⟩ (.string ⟨#[]⟩)) (w.heap.size + 1) #[(.int .u64 0), (.int .i64 0), (.int .i64 0), (.string ⟨#[]⟩)] 41 ∧ Frm w3 ((((w3.setCell ⟨w.heap.size + 1, 0, none⟩ (.int .u64 0)).setCell ⟨w.heap.size + 1, 1, none⟩ (.int .i64 0)).setCell ⟨w.heap.size + 1, 2, none⟩ (.int .i64 0)).setCell ⟨w.heap.size + 1, 3, none⟩ (.string ⟨#[]⟩)) (fun k => k = w.heap.size + 1)) := set4 HZ3.out
    have HE4 : Hid (Below w.heap.size w ((((w3.setCell ⟨w.heap.size + 1, 0, none⟩ (.int .u64 0)).setCell ⟨w.heap.size + 1, 1, none⟩ (.int .i64 0)).setCell ⟨w.heap.size + 1, 2, none⟩ (.int .i64 0)).setCell ⟨w.heap.size + 1, 3, none⟩ (.string ⟨#[]⟩))) := HB3.out.trans (H4.out.2.below HB3.out.size (fun k hk => by omega))
    go_wp2_with fail
    clear z0 z1 z2 z3 f0 f1 f2 f3
    generalize (((w3.setCell ⟨w.heap.size + 1, 0, none⟩ (.int .u64 0)).setCell ⟨w.heap.size + 1, 1, none⟩ (.int .i64 0)).setCell ⟨w.heap.size + 1, 2, none⟩ (.int .i64 0)).setCell ⟨w.heap.size + 1, 3, none⟩ (.string ⟨#[]⟩) = wz at *
    have r0 := H4.out.1.cell (i := 0) rfl
    have r1 := H4.out.1.cell (i := 1) rfl
    have r2 := H4.out.1.cell (i := 2) rfl
    have r3 := H4.out.1.cell (i := 3) rfl
    refine bodyPost_ret (v := clV none) (by simp [clV, results, Tryz.results15, go_sem, r0, r1, r2, r3]) rfl ?_
    exact ⟨_, rfl, HQ.out, HE4.out⟩

end Go.Proofs.YtcknhjabdjbjiaaGreat
