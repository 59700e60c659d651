/- noted: the document's commits are told by what was handed in; a Log's points stand there once. Copies of commits that are handed in; what they wrote may be spoilt. -/
import Derived.Laws.AppendOwnNone
import Derived.Test.YtcknhjabdjbjiabGreatGWLg15
import Derived.Test.YtcknhjabdjbjiabGreatGWLg11n
namespace Go.Proofs.YtcknhjabdjbjiabGreat
open Go.RowKit
set_option maxRecDepth 100000

def lastP (l : List (Nat × List Pt)) : Nat := match l.getLast? with | some c => c.1 | none => 0
def stpN (l : List (Nat × List Pt)) (k : Lc) : List (Nat × List Pt) := if noteE k.a k.s (lastP l) l.length = 0 then l ++ [(k.s, k.a.W)] else l
/-- the document's commits behind what was handed in -/
structure DetM (K : List Lc) (M : List Cm) : Prop where
  map : M.map (fun c => (c.s, c.W)) = K.foldl stpN []
  frm : ∀ c ∈ M, ∃ k ∈ K, c.v2 = k.v2 ∧ c.W = k.a.W
theorem lastP_map (M : List Cm) : lastP (M.map (fun c => (c.s, c.W))) = lastC M := by
  unfold lastP lastC
  rw [List.getLast?_map]
  cases M.getLast? <;> rfl
theorem DetM.snoc {K : List Lc} {M M' : List Cm} {j : Nat} (h : DetM (K.take j) M) (hj : j < K.length) (hn : NtD K[j].a K[j].s K[j].v2 M M') : DetM (K.take (j + 1)) M' := by
  have hfr : ∀ c ∈ M', ∃ k ∈ K.take (j + 1), c.v2 = k.v2 ∧ c.W = k.a.W := by
    have hold : ∀ c ∈ M, ∃ k ∈ K.take (j + 1), c.v2 = k.v2 ∧ c.W = k.a.W := fun c hc => by
      obtain ⟨k, hk, e⟩ := h.frm c hc
      exact ⟨k, by rw [take_snoc K j hj]; exact List.mem_append_left _ hk, e⟩
    by_cases he : noteE K[j].a K[j].s (lastC M) M.length = 0
    · rw [hn.2 he]
      intro c hc
      rcases List.mem_append.1 hc with hc | hc
      · exact hold c hc
      · rw [List.mem_singleton] at hc
        subst hc
        exact ⟨K[j], by rw [take_snoc K j hj]; exact List.mem_append_right _ (List.mem_singleton.2 rfl), rfl, rfl⟩
    · rw [hn.1 he]
      exact hold
  refine ⟨?_, hfr⟩
  rw [take_snoc K j hj, List.foldl_append, ← h.map]
  show _ = stpN _ _
  unfold stpN
  rw [lastP_map, List.length_map]
  by_cases he : noteE K[j].a K[j].s (lastC M) M.length = 0
  · rw [if_pos he, hn.2 he, List.map_append]
    rfl
  · rw [if_neg he, hn.1 he]
theorem DetM.sam {K K' : List Lc} {M N : List Cm} (h : DetM K M) (h' : DetM K' N) (hk : K'.map (fun k => (k.s, k.a)) = K.map (fun k => (k.s, k.a))) : SamC M N := by
  have hf : ∀ (A B : List Lc) (l : List (Nat × List Pt)), B.map (fun k => (k.s, k.a)) = A.map (fun k => (k.s, k.a)) → B.foldl stpN l = A.foldl stpN l := by
    intro A
    induction A with
    | nil => intro B l hb; rw [List.map_nil, List.map_eq_nil_iff] at hb; rw [hb]
    | cons x A ih =>
      intro B l hb
      cases B with
      | nil => simp at hb
      | cons y B =>
        simp only [List.map_cons, List.cons.injEq, Prod.mk.injEq] at hb
        have e : stpN l y = stpN l x := by unfold stpN; rw [hb.1.1, hb.1.2]
        rw [List.foldl_cons, List.foldl_cons, e]
        exact ih B _ hb.2
  have e : M.map (fun c => (c.s, c.W)) = N.map (fun c => (c.s, c.W)) := by rw [h.map, h'.map, hf K K' [] hk]
  have hl : M.length = N.length := by have := congrArg List.length e; simpa using this
  refine ⟨hl, fun i hi hi' => ?_⟩
  have := congrArg (fun l => l[i]?) e
  simp only [List.getElem?_map, List.getElem?_eq_getElem hi, List.getElem?_eq_getElem hi', Option.map_some, Option.some.injEq, Prod.mk.injEq] at this
  exact ⟨this.1, fun x => by rw [this.2]⟩
theorem SamC.trans {L M N : List Cm} (h : SamC L M) (h' : SamC M N) : SamC L N := ⟨h.len.trans h'.len, fun i hi hi' => by
  have hm : i < M.length := by rw [← h.len]; exact hi
  exact ⟨(h.at' i hi hm).1.trans (h'.at' i hm hi').1, fun x => ((h.at' i hi hm).2 x).trans ((h'.at' i hm hi').2 x)⟩⟩
theorem SamC.symm {L M : List Cm} (h : SamC L M) : SamC M L := ⟨h.len.symm, fun i hi hi' => ⟨(h.at' i hi' hi).1.symm, fun x => ((h.at' i hi' hi).2 x).symm⟩⟩
set_option maxHeartbeats 8000000 in
theorem noted_any2 (v : Value) (K : List Lc) (w : World) (hK : RdLc w v K) :
    Calls Tryz.prog 6 #[v] w fun e w' => ∃ lb mb vC E L vm M, e = .returned (.tuple #[ptr1 lb, vm, .bool true]) ∧ NtP w w' lb mb vC E L vm M ∧ DetM K M ∧ ∀ c ∈ L, c.W.Nodup := by
  obtain ⟨p, c, rfl, hlc, hln, hrow⟩ := hK.f
  obtain ⟨n, hn⟩ : ∃ n, K.length = n := ⟨_, rfl⟩
  rw [hn] at hlc hln ⊢
  have HKl : Hid (K.length = n) := hn
  have HRow : Hid (∀ i (hi : i < K.length), ∃ b o, p = some ⟨b, o, none⟩ ∧ b < w.heap.size ∧ w.cell? ⟨b, o + i * 4, none⟩ = some (.int .u64 (K[i].s : Nat)) ∧ w.cell? ⟨b, o + i * 4 + 1, none⟩ = some K[i].v0 ∧ w.cell? ⟨b, o + i * 4 + 2, none⟩ = some K[i].v1 ∧ w.cell? ⟨b, o + i * 4 + 3, none⟩ = some K[i].v2) := hrow
  have HFt : Hid (∀ c ∈ K, RdF w c.v0 c.v1 c.v2 c.a ∧ c.s < 18446744073709551616) := hK.ft
  clear hK hrow hn
  have CN : Hid (Calls _ _ _ _ _) := newLog_any w
  go_enter Tryz.func6, Tryz.ntmps6
  go_wp2_with fail
  refine CN.out.mono ?_
  rintro e w1 ⟨lb, vC, mb, E, rfl, hX1, hb1⟩
  clear CN
  have HP1 : Hid (NtP w w1 lb mb vC E [] (.slice none 0 0) []) := ⟨hX1, ⟨OwnD.nil _ _, by simp⟩, SamC.nil, ⟨fun i j hi => absurd hi (by simp), by simp, by simp, by simp, by simp⟩, hb1⟩
  clear hX1 hb1
  go_wp2_with fail
  go_loopw [6, 7] (fun m i wr => ∃ (j : Nat) (vC : Value) (E : List (Pt × Value × List Nat)) (L : List Cm) (M : List Cm), j ≤ n ∧ i = .int .i64 (j : Int) ∧ Hid (NtP w wr lb mb vC E L m M) ∧ Hid (DetM (K.take j) M ∧ ∀ c ∈ L, c.W.Nodup)) (fun _ i _ => n - (intOf i).toNat)
  case atStart => exact ⟨0, vC, E, [], [], Nat.zero_le _, by go_num, HP1, ⟨rfl, by simp⟩, by simp⟩
  case round =>
    obtain ⟨j, vC', E', L, M, hj, rfl, HP, HDt⟩ := hrel
    clear HP1
    by_cases hj0 : j = n
    · subst hj0
      go_wp2_with fail
      refine bodyPost_ret (v := .tuple #[ptr1 lb, u6, .bool true]) (by simp [results, Tryz.results6, go_sem]) rfl ?_
      exact ⟨lb, mb, vC', E', L, u6, M, rfl, HP.out, by have h := HDt.out.1; rw [List.take_of_length_le (by have := HKl.out; omega)] at h; exact h, HDt.out.2⟩
    · have hj1 : j < n := by omega
      have hjK : j < K.length := by have := HKl.out; omega
      obtain ⟨b, o, rfl, hbl, d0, d1, d2, d3⟩ := HRow.out j hjK
      have hft := HFt.out K[j] (List.getElem_mem hjK)
      obtain ⟨k, hk⟩ : ∃ k, K[j] = k := ⟨_, rfl⟩
      rw [hk] at d0 d1 d2 d3 hft
      have HKj : Hid (∃ h : j < K.length, K[j] = k) := ⟨hjK, hk⟩
      clear hk hjK
      obtain ⟨s, ka, v0, v1, v2⟩ := k
      dsimp only at d0 d1 d2 d3 hft
      obtain ⟨⟨p0, n0, c0, e0⟩, ⟨p1, n1, c1, e1⟩, ⟨p2, n2, c2, e2⟩⟩ : (∃ p n c, v0 = .slice p n c) ∧ (∃ p n c, v1 = .slice p n c) ∧ (∃ p n c, v2 = .slice p n c) := by
        obtain ⟨p0, c0, e0, _⟩ := hft.1.p.f
        obtain ⟨p1, c1, e1, _⟩ := hft.1.s.f
        obtain ⟨p2, c2, e2, _⟩ := hft.1.w.f
        exact ⟨⟨_, _, _, e0⟩, ⟨_, _, _, e1⟩, ⟨_, _, _, e2⟩⟩
      subst e0 e1 e2
      have HR : Hid (RdF w (.slice p0 n0 c0) (.slice p1 n1 c1) (.slice p2 n2 c2) ka ∧ s < 18446744073709551616) := hft
      have HD : Hid (∀ w9, Below w.heap.size w w9 → w9.cell? ⟨b, o + j * 4, none⟩ = some (.int .u64 (s : Nat)) ∧ w9.cell? ⟨b, o + j * 4 + 1, none⟩ = some (.slice p0 n0 c0) ∧ w9.cell? ⟨b, o + j * 4 + 2, none⟩ = some (.slice p1 n1 c1) ∧ w9.cell? ⟨b, o + j * 4 + 3, none⟩ = some (.slice p2 n2 c2)) := fun w9 h9 => ⟨(h9.cell (p := ⟨b, o + j * 4, none⟩) hbl).trans d0, (h9.cell (p := ⟨b, o + j * 4 + 1, none⟩) hbl).trans d1, (h9.cell (p := ⟨b, o + j * 4 + 2, none⟩) hbl).trans d2, (h9.cell (p := ⟨b, o + j * 4 + 3, none⟩) hbl).trans d3⟩
      clear hft d0 d1 d2 d3 hbl
      go_upto_region 8 with fail
      refine wp_region_L (fun w' => Below w.heap.size w w') 13 (by kernel_rfl) ?_
      have HPd : Hid (NtP w wr.drew lb mb vC' E' L u6 M) := HP.out.on ((Below.refl _ _).drew)
      generalize wr.drew = wd at *
      have HBd : Hid (Below w.heap.size w wd) := HPd.out.bel
      refine wpL_take (v := ?_) 0 rfl (by kernel_rfl) (fun _ _ _ h => h) (by rfl) ?_ HBd.out ?_
      rotate_left
      focus
        intro w9 hw9
        obtain ⟨a0, a1, a2, a3⟩ := HD.out w9 hw9
        go_simp
        try with_reducible rfl
      try simp only [Act.put, List.setIfInBounds_toArray, List.set_cons_zero, List.set_cons_succ]
      refine wpL_take (v := ?_) 1 rfl (by kernel_rfl) (fun _ _ _ h => h) (by rfl) ?_ HBd.out ?_
      rotate_left
      focus
        intro w9 hw9
        obtain ⟨a0, a1, a2, a3⟩ := HD.out w9 hw9
        go_simp
        try with_reducible rfl
      try simp only [Act.put, List.setIfInBounds_toArray, List.set_cons_zero, List.set_cons_succ]
      refine wpL_take (v := ?_) 2 rfl (by kernel_rfl) (fun _ _ _ h => h) (by rfl) ?_ HBd.out ?_
      rotate_left
      focus
        intro w9 hw9
        obtain ⟨a0, a1, a2, a3⟩ := HD.out w9 hw9
        go_simp
        try with_reducible rfl
      try simp only [Act.put, List.setIfInBounds_toArray, List.set_cons_zero, List.set_cons_succ]
      refine wpL_take (v := ?_) 3 rfl (by kernel_rfl) (fun _ _ _ h => h) (by rfl) ?_ HBd.out ?_
      rotate_left
      focus
        intro w9 hw9
        obtain ⟨a0, a1, a2, a3⟩ := HD.out w9 hw9
        go_simp
        try with_reducible rfl
      try simp only [Act.put, List.setIfInBounds_toArray, List.set_cons_zero, List.set_cons_succ]
      refine wpL_take (v := ?_) 4 rfl (by kernel_rfl) (fun _ _ _ h => h) (by rfl) ?_ HBd.out ?_
      rotate_left
      focus
        intro w9 hw9
        obtain ⟨a0, a1, a2, a3⟩ := HD.out w9 hw9
        go_simp
        try with_reducible rfl
      try simp only [Act.put, List.setIfInBounds_toArray, List.set_cons_zero, List.set_cons_succ]
      refine wpL_take (v := ?_) 5 rfl (by kernel_rfl) (fun _ _ _ h => h) (by rfl) ?_ HBd.out ?_
      rotate_left
      focus
        intro w9 hw9
        obtain ⟨a0, a1, a2, a3⟩ := HD.out w9 hw9
        go_simp
        try with_reducible rfl
      try simp only [Act.put, List.setIfInBounds_toArray, List.set_cons_zero, List.set_cons_succ]
      refine wpL_take (v := ?_) 6 rfl (by kernel_rfl) (fun _ _ _ h => h) (by rfl) ?_ HBd.out ?_
      rotate_left
      focus
        intro w9 hw9
        obtain ⟨a0, a1, a2, a3⟩ := HD.out w9 hw9
        go_simp
        try with_reducible rfl
      try simp only [Act.put, List.setIfInBounds_toArray, List.set_cons_zero, List.set_cons_succ]
      refine wpL_take (v := ?_) 7 rfl (by kernel_rfl) (fun _ _ _ h => h) (by rfl) ?_ HBd.out ?_
      rotate_left
      focus
        intro w9 hw9
        obtain ⟨a0, a1, a2, a3⟩ := HD.out w9 hw9
        go_simp
        try with_reducible rfl
      try simp only [Act.put, List.setIfInBounds_toArray, List.set_cons_zero, List.set_cons_succ]
      refine wpL_take (v := ?_) 8 rfl (by kernel_rfl) (fun _ _ _ h => h) (by rfl) ?_ HBd.out ?_
      rotate_left
      focus
        intro w9 hw9
        obtain ⟨a0, a1, a2, a3⟩ := HD.out w9 hw9
        go_simp
        try with_reducible rfl
      try simp only [Act.put, List.setIfInBounds_toArray, List.set_cons_zero, List.set_cons_succ]
      refine wpL_take (v := ?_) 9 rfl (by kernel_rfl) (fun _ _ _ h => h) (by rfl) ?_ HBd.out ?_
      rotate_left
      focus
        intro w9 hw9
        obtain ⟨a0, a1, a2, a3⟩ := HD.out w9 hw9
        go_simp
        try with_reducible rfl
      try simp only [Act.put, List.setIfInBounds_toArray, List.set_cons_zero, List.set_cons_succ]
      refine wpL_take (v := ?_) 10 rfl (by kernel_rfl) (fun _ _ _ h => h) (by rfl) ?_ HBd.out ?_
      rotate_left
      focus
        intro w9 hw9
        obtain ⟨a0, a1, a2, a3⟩ := HD.out w9 hw9
        go_simp
        try with_reducible rfl
      try simp only [Act.put, List.setIfInBounds_toArray, List.set_cons_zero, List.set_cons_succ]
      refine wpL_one 11 rfl (by kernel_rfl) (by rfl) ?_
      intro K2 hK2
      go_simp
      refine (note_anyN ka _ _ _ w.heap.size lb s vC' mb E' L wd HPd.out.log (HR.out.1.on HBd.out) HR.out.2).mono ?_
      rintro e w4 ⟨rfl, vC4, E4, L4, hX4, hN4, hd4, hF4⟩
      have HNd : Hid (∀ c ∈ L4, c.W.Nodup) := fun c hc => (hd4 c hc).elim (fun h => HDt.out.2 c h) id
      clear hd4
      have HH : Hid (NtH w w4 lb mb vC4 E4 L L4 u6 M ⟨s, ka, .slice p0 n0 c0, .slice p1 n1 c1, .slice p2 n2 c2⟩) := HPd.out.half hX4 hN4 hF4
      have HBd4 : Hid (Below w.heap.size w w4) := HH.out.bel
      clear hX4 hN4 hF4 HPd HBd HP
      dsimp only
      refine hK2.out _ _ (fun _ => HBd4.out) ?_
      clear hK2 K2
      try simp only [Act.put, List.setIfInBounds_toArray, List.set_cons_zero, List.set_cons_succ]
      refine wpL_take (v := ?_) 12 rfl (by kernel_rfl) (fun _ _ _ h => h) (by rfl) ?_ HBd4.out ?_
      rotate_left
      focus
        intro w9 hw9

        go_simp
        try with_reducible rfl
      try simp only [Act.put, List.setIfInBounds_toArray, List.set_cons_zero, List.set_cons_succ]
      refine wpL_done (by kernel_rfl) ?_ _
      try simp only [NoPanic]
      obtain ⟨en, hen⟩ : ∃ en, noteE ka s (lastC L) L.length = en := ⟨_, rfl⟩
      rw [hen]
      have HEn : Hid (noteE ka s (lastC M) M.length = en) := by
        have h := HH.out.sam
        rw [h.last, h.len] at hen
        exact hen
      clear hen
      go_upto_region 9 with fail
      refine wp_region_L (fun w' => Below w.heap.size w w') 17 (by kernel_rfl) ?_
      have HHd : Hid (NtH w w4.drew lb mb vC4 E4 L L4 u6 M ⟨s, ka, .slice p0 n0 c0, .slice p1 n1 c1, .slice p2 n2 c2⟩) := HH.out.on ((Below.refl _ _).drew)
      clear HH HBd4
      generalize w4.drew = wd4 at *
      have HBd : Hid (Below w.heap.size w wd4) := HHd.out.bel
      refine wpL_take (v := ?_) 0 rfl (by kernel_rfl) (fun _ _ _ h => h) (by rfl) ?_ HBd.out ?_
      rotate_left
      focus
        intro w9 hw9
        obtain ⟨a0, a1, a2, a3⟩ := HD.out w9 hw9
        go_simp
        try with_reducible rfl
      try simp only [Act.put, List.setIfInBounds_toArray, List.set_cons_zero, List.set_cons_succ]
      refine wpL_take (v := ?_) 1 rfl (by kernel_rfl) (fun _ _ _ h => h) (by rfl) ?_ HBd.out ?_
      rotate_left
      focus
        intro w9 hw9
        obtain ⟨a0, a1, a2, a3⟩ := HD.out w9 hw9
        go_simp
        try with_reducible rfl
      try simp only [Act.put, List.setIfInBounds_toArray, List.set_cons_zero, List.set_cons_succ]
      refine wpL_take (v := ?_) 2 rfl (by kernel_rfl) (fun _ _ _ h => h) (by rfl) ?_ HBd.out ?_
      rotate_left
      focus
        intro w9 hw9
        obtain ⟨a0, a1, a2, a3⟩ := HD.out w9 hw9
        go_simp
        try with_reducible rfl
      try simp only [Act.put, List.setIfInBounds_toArray, List.set_cons_zero, List.set_cons_succ]
      refine wpL_take (v := ?_) 3 rfl (by kernel_rfl) (fun _ _ _ h => h) (by rfl) ?_ HBd.out ?_
      rotate_left
      focus
        intro w9 hw9
        obtain ⟨a0, a1, a2, a3⟩ := HD.out w9 hw9
        go_simp
        try with_reducible rfl
      try simp only [Act.put, List.setIfInBounds_toArray, List.set_cons_zero, List.set_cons_succ]
      refine wpL_take (v := ?_) 4 rfl (by kernel_rfl) (fun _ _ _ h => h) (by rfl) ?_ HBd.out ?_
      rotate_left
      focus
        intro w9 hw9
        obtain ⟨a0, a1, a2, a3⟩ := HD.out w9 hw9
        go_simp
        try with_reducible rfl
      try simp only [Act.put, List.setIfInBounds_toArray, List.set_cons_zero, List.set_cons_succ]
      refine wpL_take (v := ?_) 5 rfl (by kernel_rfl) (fun _ _ _ h => h) (by rfl) ?_ HBd.out ?_
      rotate_left
      focus
        intro w9 hw9
        obtain ⟨a0, a1, a2, a3⟩ := HD.out w9 hw9
        go_simp
        try with_reducible rfl
      try simp only [Act.put, List.setIfInBounds_toArray, List.set_cons_zero, List.set_cons_succ]
      refine wpL_take (v := ?_) 6 rfl (by kernel_rfl) (fun _ _ _ h => h) (by rfl) ?_ HBd.out ?_
      rotate_left
      focus
        intro w9 hw9
        obtain ⟨a0, a1, a2, a3⟩ := HD.out w9 hw9
        go_simp
        try with_reducible rfl
      try simp only [Act.put, List.setIfInBounds_toArray, List.set_cons_zero, List.set_cons_succ]
      refine wpL_take (v := ?_) 7 rfl (by kernel_rfl) (fun _ _ _ h => h) (by rfl) ?_ HBd.out ?_
      rotate_left
      focus
        intro w9 hw9
        obtain ⟨a0, a1, a2, a3⟩ := HD.out w9 hw9
        go_simp
        try with_reducible rfl
      try simp only [Act.put, List.setIfInBounds_toArray, List.set_cons_zero, List.set_cons_succ]
      refine wpL_take (v := ?_) 8 rfl (by kernel_rfl) (fun _ _ _ h => h) (by rfl) ?_ HBd.out ?_
      rotate_left
      focus
        intro w9 hw9
        obtain ⟨a0, a1, a2, a3⟩ := HD.out w9 hw9
        go_simp
        try with_reducible rfl
      try simp only [Act.put, List.setIfInBounds_toArray, List.set_cons_zero, List.set_cons_succ]
      refine wpL_take (v := ?_) 9 rfl (by kernel_rfl) (fun _ _ _ h => h) (by rfl) ?_ HBd.out ?_
      rotate_left
      focus
        intro w9 hw9
        obtain ⟨a0, a1, a2, a3⟩ := HD.out w9 hw9
        go_simp
        try with_reducible rfl
      try simp only [Act.put, List.setIfInBounds_toArray, List.set_cons_zero, List.set_cons_succ]
      refine wpL_take (v := ?_) 10 rfl (by kernel_rfl) (fun _ _ _ h => h) (by rfl) ?_ HBd.out ?_
      rotate_left
      focus
        intro w9 hw9
        obtain ⟨a0, a1, a2, a3⟩ := HD.out w9 hw9
        go_simp
        try with_reducible rfl
      try simp only [Act.put, List.setIfInBounds_toArray, List.set_cons_zero, List.set_cons_succ]
      refine wpL_one 11 rfl (by kernel_rfl) (by rfl) ?_
      intro K2 hK2
      go_simp
      refine (rnote_any ka _ _ _ w.heap.size s _ M wd4 (HHd.out.doc.doc HBd.out) HHd.out.inv.len (HR.out.1.on HBd.out) HR.out.2 HBd.out.size).mono ?_
      rintro e w5 ⟨v5, M5, rfl, hD5, hN5, hb5⟩
      have HP5 : Hid (NtP w w5 lb mb vC4 E4 L4 v5 M5) := HHd.out.full HR.out.1 hD5 hN5 hb5
      have HDn : Hid (DetM (K.take (j + 1)) M5) := by
        obtain ⟨hjK, hk⟩ := HKj.out
        exact HDt.out.1.snoc hjK (by rw [hk]; exact hN5)
      have HBd5 : Hid (Below w.heap.size w w5) := HP5.out.bel
      rw [HEn.out]
      clear hD5 hN5 hb5 HHd HBd
      dsimp only
      refine hK2.out _ _ (fun _ => HBd5.out) ?_
      clear hK2 K2
      try simp only [Act.put, List.setIfInBounds_toArray, List.set_cons_zero, List.set_cons_succ]
      refine wpL_take (v := ?_) 12 rfl (by kernel_rfl) (fun _ _ _ h => h) (by rfl) ?_ HBd5.out ?_
      rotate_left
      focus
        intro w9 hw9

        go_simp
        try with_reducible rfl
      try simp only [Act.put, List.setIfInBounds_toArray, List.set_cons_zero, List.set_cons_succ]
      refine wpL_take (v := ?_) 13 rfl (by kernel_rfl) (fun _ _ _ h => h) (by rfl) ?_ HBd5.out ?_
      rotate_left
      focus
        intro w9 hw9

        go_simp
        try with_reducible rfl
      try simp only [Act.put, List.setIfInBounds_toArray, List.set_cons_zero, List.set_cons_succ]
      refine wpL_take (v := ?_) 14 rfl (by kernel_rfl) (fun _ _ _ h => h) (by rfl) ?_ HBd5.out ?_
      rotate_left
      focus
        intro w9 hw9

        go_simp
        try with_reducible rfl
      try simp only [Act.put, List.setIfInBounds_toArray, List.set_cons_zero, List.set_cons_succ]
      refine wpL_take (v := ?_) 15 rfl (by kernel_rfl) (fun _ _ _ h => h) (by rfl) ?_ HBd5.out ?_
      rotate_left
      focus
        intro w9 hw9

        go_simp
        try with_reducible rfl
      try simp only [Act.put, List.setIfInBounds_toArray, List.set_cons_zero, List.set_cons_succ]
      refine wpL_take (v := ?_) 16 rfl (by kernel_rfl) (fun _ _ _ h => h) (by rfl) ?_ HBd5.out ?_
      rotate_left
      focus
        intro w9 hw9

        go_simp
        try with_reducible rfl
      try simp only [Act.put, List.setIfInBounds_toArray, List.set_cons_zero, List.set_cons_succ]
      refine wpL_done (by kernel_rfl) ?_ _
      try simp only [NoPanic]
      clear HBd5 HEn HR HD
      go_wp2_with fail
      go_roundw
      case rel => exact ⟨j + 1, vC4, E4, L4, M5, hj1, by go_num, HP5, HDn.out, HNd.out⟩
      case measure => simp [intOf]; omega

end Go.Proofs.YtcknhjabdjbjiabGreat

namespace Go.Proofs.YtcknhjabdjbjiabGreat
open Go.RowKit
set_option maxRecDepth 100000

theorem info_L : (Tryz.prog.info? 45).map (fun i => (i.zero, i.size, i.bytes)) = some (some (.agg #[.int .u64 0, .slice none 0 0, .slice none 0 0, .slice none 0 0]), 4, 80) := by kernel_rfl
def lcells (L : List Lc) : List Value := L.flatMap (fun c => [.int .u64 (c.s : Nat), c.v0, c.v1, c.v2])
/-- copies of commits, in a row of one's own -/
def OwnL (w : World) (B : Nat) (v : Value) (L : List Lc) : Prop := w.ownsRow B 45 4 v L.length (lcells L)
theorem OwnL.nil (w : World) (B : Nat) : OwnL w B (.slice none 0 0) [] := World.ownsRow_nil w B _ _
theorem lcells_append (L M : List Lc) : lcells (L ++ M) = lcells L ++ lcells M := by unfold lcells; exact List.flatMap_append
theorem lcells_at {L : List Lc} : ∀ {i : Nat} (hi : i < L.length), (lcells L)[i * 4]? = some (.int .u64 (L[i].s : Nat)) ∧ (lcells L)[i * 4 + 1]? = some L[i].v0 ∧ (lcells L)[i * 4 + 2]? = some L[i].v1 ∧ (lcells L)[i * 4 + 3]? = some L[i].v2 := by
  induction L with
  | nil => intro i hi; simp at hi
  | cons c L ih =>
    intro i hi
    cases i with
    | zero => exact ⟨rfl, rfl, rfl, rfl⟩
    | succ i =>
      have e : (i + 1) * 4 = i * 4 + 1 + 1 + 1 + 1 := by omega
      have hc : lcells (c :: L) = .int .u64 (c.s : Nat) :: c.v0 :: c.v1 :: c.v2 :: lcells L := rfl
      rw [e, hc]
      simp only [List.getElem?_cons_succ, List.getElem_cons_succ]
      exact ih (by simpa using hi)
theorem ownsRow_on {w w' : World} {B n sz : Nat} {T : TypeId} {v : Value} {xs : List Value} (h : w.ownsRow B T sz v n xs) (hb : Below w.heap.size w w') : w'.ownsRow B T sz v n xs := ownsRow_by h (fun _ _ _ hg => hb.block _ (Array.getElem?_eq_some_iff.1 hg).1)
theorem OwnL.on {w w' : World} {B : Nat} {v : Value} {L : List Lc} (h : OwnL w B v L) (hb : Below w.heap.size w w') : OwnL w' B v L := ownsRow_by h (fun _ _ _ hg => hb.block _ (Array.getElem?_eq_some_iff.1 hg).1)
/-- where the copies lie -/
def RowLc (w : World) (lo hi : Nat) (p : Option Addr) (L : List Lc) : Prop := ∀ i (h : i < L.length), ∃ b, p = some ⟨b, 0, none⟩ ∧ lo ≤ b ∧ b < hi ∧ (∃ cur, w.heap[b]? = some (.cells cur 45 (0, 0))) ∧ w.cell? ⟨b, 0 + i * 4, none⟩ = some (.int .u64 (L[i].s : Nat)) ∧ w.cell? ⟨b, 0 + i * 4 + 1, none⟩ = some L[i].v0 ∧ w.cell? ⟨b, 0 + i * 4 + 2, none⟩ = some L[i].v1 ∧ w.cell? ⟨b, 0 + i * 4 + 3, none⟩ = some L[i].v2
theorem OwnL.row {w : World} {B : Nat} {v : Value} {L : List Lc} (h : OwnL w B v L) : ∃ p c, v = .slice p L.length c ∧ L.length ≤ c ∧ RowLc w B w.heap.size p L := by
  rcases (show w.ownsRow B 45 4 v L.length (lcells L) from h).2 with ⟨rfl, h0⟩ | ⟨g, cap, cur, rfl, hB, hgb, hc, _, hsz, htk⟩
  · have : L = [] := List.eq_nil_of_length_eq_zero h0
    subst this
    exact ⟨none, 0, rfl, Nat.le_refl _, fun i hi => absurd hi (by simp)⟩
  · refine ⟨some ⟨g, 0, none⟩, cap, rfl, hc, fun i hi => ⟨g, rfl, hB, (Array.getElem?_eq_some_iff.1 hgb).1, ⟨cur, hgb⟩, ?_⟩⟩
    obtain ⟨k0, k1, k2, k3⟩ := lcells_at hi
    have hk : ∀ (j : Nat) (y : Value), j < L.length * 4 → (lcells L)[j]? = some y → w.cell? ⟨g, 0 + j, none⟩ = some y := fun j y hj hy => by
      rw [← htk, List.getElem?_take_of_lt hj, Array.getElem?_toList] at hy
      rw [Nat.zero_add]
      exact (show Blk w g cur 45 from hgb).cell hy
    exact ⟨hk _ _ (by omega) k0, hk _ _ (by omega) k1, hk _ _ (by omega) k2, hk _ _ (by omega) k3⟩
/-- copies, their feet in memory of their own -/
structure CpL (w : World) (B : Nat) (v : Value) (L : List Lc) : Prop where
  own : OwnL w B v L
  ft : ∀ c ∈ L, OwnP w B c.v0 c.a.P ∧ OwnS w B c.v1 c.a.S ∧ OwnP w B c.v2 c.a.W ∧ c.a.P.length ≤ 4398046511104 ∧ c.a.S.length ≤ 2513169434916 ∧ c.a.W.length ≤ 4398046511104 ∧ c.s < 18446744073709551616
theorem CpL.on {w w' : World} {B : Nat} {v : Value} {L : List Lc} (h : CpL w B v L) (hb : Below w.heap.size w w') : CpL w' B v L :=
  ⟨h.own.on hb, fun c hc => ⟨ownsRow_on (h.ft c hc).1 hb, ownsRow_on (h.ft c hc).2.1 hb, ownsRow_on (h.ft c hc).2.2.1 hb, (h.ft c hc).2.2.2⟩⟩
theorem CpL.read {w : World} {B : Nat} {v : Value} {L : List Lc} (h : CpL w B v L) (hl : L.length ≤ 4398046511104) : RdLc w v L := by
  obtain ⟨p, c, e, h1, h2⟩ := h.own.row
  refine ⟨⟨p, c, e, h1, hl, fun i hi => ?_⟩, fun c hc => ?_⟩
  · obtain ⟨b, e, _, h4, _, h5⟩ := h2 i hi
    exact ⟨b, 0, e, h4, h5⟩
  · obtain ⟨q0, q1, q2, l0, l1, l2, hs⟩ := h.ft c hc
    exact ⟨⟨q0.sl, q1.sl, q2.sl, l0, l1, l2⟩, hs⟩
/-- 'append(nil, L...)' of what is read, where the order is drawn -/
theorem wp_appPs {o : Oper} {a : Act} {K : Act → World → Prop} {Q : Exit → Act → World → Prop} (w : World) (s x : Operand)
    (ho : o.op = .call { callee := .builtin .append, args := #[s, x], argTypes := #[24, 24] })
    (B : Nat) (v : Value) (R : List Pt) (hs : a.eval s = .slice none 0 0) (hx : a.eval x = v) (hR : SlP w v R)
    (hl2 : R.length ≤ 4398046511104) (hbase : B ≤ w.heap.size)
    (h : ∀ v' w', OwnP w' B v' R → Below w.heap.size w w' → K (a.put o.dst v') w') : Oper.wp Tryz.prog o a w K Q := by
  obtain ⟨i, hi, hz0, hz1, hz2⟩ := info_parts info_P
  obtain ⟨p, c, rfl, h1, h2, h3⟩ := hR.f
  cases p with
  | none =>
    have h4 := h2 rfl
    subst h4
    have h5 : R = [] := List.eq_nil_of_length_eq_zero (by omega)
    subst h5
    have hr := run_append_owned_none (P := Tryz.prog) (w := w) B 24 o.type 36 i 3 Tryz.underlying24 hi _ _ _ (World.ownsRow_nil w B 36 3)
    unfold Oper.wp
    simp [execOp, ho, resolve, invoke, builtin, hs, hx, hr, Result.andThen]
    exact h _ w (World.ownsRow_nil w B _ _) (Below.refl _ _)
  | some ad =>
    obtain ⟨v', w', hr, h4, h5, h6, h7⟩ := run_append_own_at (P := Tryz.prog) w B 24 o.type 36 i (.agg #[.int .i64 0, .int .i64 0, .string ⟨#[]⟩]) 3 32 Tryz.underlying24 hi hz0 hz1 hz2 rfl (by decide) _ 0 [] (World.ownsRow_nil w B _ _) ad R.length c (pcells R) (pcells_len R) h3.cellsA (pcells_one R) (by unfold maxLen; omega) (by omega) hbase
    unfold Oper.wp execOp
    simp only [ho, resolve, invoke, builtin, Sem.run_bind, Sem.run_pure, Result.andThen_ok, List.map_toArray, List.map_cons, List.map_nil, hs, hx, hr]
    refine h v' w' ?_ ((Below.refl _ _).grown h5 (Nat.le_refl _) (fun k hk => by cases hk))
    unfold OwnP
    rw [List.nil_append, Nat.zero_add] at h4
    exact h4
/-- 'append(nil, L...)' of what is read, where the order is drawn -/
theorem wp_appSs {o : Oper} {a : Act} {K : Act → World → Prop} {Q : Exit → Act → World → Prop} (w : World) (s x : Operand)
    (ho : o.op = .call { callee := .builtin .append, args := #[s, x], argTypes := #[25, 25] })
    (B : Nat) (v : Value) (R : List Sp) (hs : a.eval s = .slice none 0 0) (hx : a.eval x = v) (hR : SlS w v R)
    (hl2 : R.length ≤ 2513169434916) (hbase : B ≤ w.heap.size)
    (h : ∀ v' w', OwnS w' B v' R → Below w.heap.size w w' → K (a.put o.dst v') w') : Oper.wp Tryz.prog o a w K Q := by
  obtain ⟨i, hi, hz0, hz1, hz2⟩ := info_parts info_S
  obtain ⟨p, c, rfl, h1, h2, h3⟩ := hR.f
  cases p with
  | none =>
    have h4 := h2 rfl
    subst h4
    have h5 : R = [] := List.eq_nil_of_length_eq_zero (by omega)
    subst h5
    have hr := run_append_owned_none (P := Tryz.prog) (w := w) B 25 o.type 86 i 5 Tryz.underlying25 hi _ _ _ (World.ownsRow_nil w B 86 5)
    unfold Oper.wp
    simp [execOp, ho, resolve, invoke, builtin, hs, hx, hr, Result.andThen]
    exact h _ w (World.ownsRow_nil w B _ _) (Below.refl _ _)
  | some ad =>
    obtain ⟨v', w', hr, h4, h5, h6, h7⟩ := run_append_own_at (P := Tryz.prog) w B 25 o.type 86 i (.agg #[.int .i64 0, .int .i64 0, .string ⟨#[]⟩, .string ⟨#[]⟩, .bool false]) 5 56 Tryz.underlying25 hi hz0 hz1 hz2 rfl (by decide) _ 0 [] (World.ownsRow_nil w B _ _) ad R.length c (scells R) (scells_len R) h3.cellsA (scells_one R) (by unfold maxLen; omega) (by omega) hbase
    unfold Oper.wp execOp
    simp only [ho, resolve, invoke, builtin, Sem.run_bind, Sem.run_pure, Result.andThen_ok, List.map_toArray, List.map_cons, List.map_nil, hs, hx, hr]
    refine h v' w' ?_ ((Below.refl _ _).grown h5 (Nat.le_refl _) (fun k hk => by cases hk))
    unfold OwnS
    rw [List.nil_append, Nat.zero_add] at h4
    exact h4
/-- 'append(own, c)' -/
theorem wpList_appL1 {ops : Array Oper} {rest : List Oper} {o : Oper} {a : Act} {Q : Exit → Act → World → Prop} (w : World) (hgd : o.guard = none) (s x : Operand)
    (ho : o.op = .call { callee := .builtin .append, args := #[s, x], argTypes := #[22, 22] })
    (B : Nat) (v : Value) (L : List Lc) (hs : a.eval s = v) (hown : OwnL w B v L)
    (u : Lc) (hu : u.v0.oneCell' = true ∧ u.v1.oneCell' = true ∧ u.v2.oneCell' = true) (g : Nat) (hx : a.eval x = .slice (some ⟨g, 0, none⟩) 1 1) (hC : Blk w g #[.int .u64 (u.s : Nat), u.v0, u.v1, u.v2] 45)
    (hlen : L.length + 1 ≤ 1759218604441) (hbase : B ≤ w.heap.size)
    (h : ∀ v' w', OwnL w' B v' (L ++ [u]) → w.grownBy w' v.ownBlock → Below B w w' → wpList Tryz.prog ops Q rest (a.put o.dst v') w') : wpList Tryz.prog ops Q (o :: rest) a w := by
  obtain ⟨i, hi, hz0, hz1, hz2⟩ := info_parts info_L
  refine wpList_append_own _ hgd s x 22 ho B 45 i (.agg #[.int .u64 0, .slice none 0 0, .slice none 0 0, .slice none 0 0]) 4 80 Tryz.underlying22 hi hz0 hz1 hz2 rfl (by decide) v L.length (lcells L) hs hown ⟨g, 0, none⟩ 1 1 (lcells [u]) hx rfl ?_ ?_ (by unfold maxLen; omega) (by omega) hbase ?_
  · intro j y hj
    have hj' : j < 4 := by
      have := (List.getElem?_eq_some_iff.1 hj).1
      simpa [lcells] using this
    have e : (⟨g, 0, none⟩ : Addr).add j = ⟨g, j, none⟩ := by unfold Addr.add; split <;> simp_all
    rw [e]
    have h4 : j = 0 ∨ j = 1 ∨ j = 2 ∨ j = 3 := by omega
    rcases h4 with rfl | rfl | rfl | rfl <;> (simp [lcells] at hj; subst hj; exact hC.cell rfl)
  · intro y hy
    simp [lcells] at hy
    rcases hy with rfl | rfl | rfl | rfl
    · rfl
    · exact hu.1
    · exact hu.2.1
    · exact hu.2.2
  · intro v' w' h1 h2 _
    refine h v' w' ?_ h2 ((Below.refl _ _).grown h2 hbase (fun k hk => (World.ownsRow.lt hown k hk).1))
    unfold OwnL
    rw [lcells_append, List.length_append]
    exact h1
theorem CpL.snoc {w w' : World} {B : Nat} {v v' : Value} {L : List Lc} {c : Lc} (h : CpL w B v L) (ho : OwnL w' B v' (L ++ [c])) (hg : w.grownBy w' v.ownBlock)
    (hc : OwnP w B c.v0 c.a.P ∧ OwnS w B c.v1 c.a.S ∧ OwnP w B c.v2 c.a.W ∧ c.a.P.length ≤ 4398046511104 ∧ c.a.S.length ≤ 2513169434916 ∧ c.a.W.length ≤ 4398046511104 ∧ c.s < 18446744073709551616) : CpL w' B v' (L ++ [c]) := by
  have hk : ∀ (g : Nat) (cur : Array Value) (T : TypeId), T ≠ 45 → w.heap[g]? = some (.cells cur T (0, 0)) → w'.heap[g]? = w.heap[g]? := fun g cur T hT hb => by
    refine hg.block g (Array.getElem?_eq_some_iff.1 hb).1 (fun e => ?_)
    obtain ⟨_, cur', h2⟩ : B ≤ g ∧ ∃ cur, w.heap[g]? = some (.cells cur 45 (0, 0)) := by
      rcases (show w.ownsRow B 45 4 v L.length (lcells L) from h.own).2 with ⟨rfl, _⟩ | ⟨g', cap, cur, rfl, hB, hgb, _⟩
      · cases e
      · cases e
        exact ⟨hB, cur, hgb⟩
    rw [h2] at hb
    cases hb
    exact hT rfl
  refine ⟨ho, fun x hx => ?_⟩
  have hf : OwnP w B x.v0 x.a.P ∧ OwnS w B x.v1 x.a.S ∧ OwnP w B x.v2 x.a.W ∧ x.a.P.length ≤ 4398046511104 ∧ x.a.S.length ≤ 2513169434916 ∧ x.a.W.length ≤ 4398046511104 ∧ x.s < 18446744073709551616 := by
    rcases List.mem_append.1 hx with hx | hx
    · exact h.ft x hx
    · rw [List.mem_singleton] at hx
      subst hx
      exact hc
  exact ⟨ownsRow_by hf.1 (fun g cur _ hb => hk g cur _ (by decide) hb), ownsRow_by hf.2.1 (fun g cur _ hb => hk g cur _ (by decide) hb), ownsRow_by hf.2.2.1 (fun g cur _ hb => hk g cur _ (by decide) hb), hf.2.2.2⟩
/-- points that may be written over, between two bounds -/
def Wip (w : World) (lo hi : Nat) (v : Value) : Prop := ∃ p n c, v = .slice p n c ∧ n ≤ 4398046511104 ∧ (n = 0 ∨ ∃ g cur, p = some ⟨g, 0, none⟩ ∧ lo ≤ g ∧ g < hi ∧ w.heap[g]? = some (.cells cur 36 (0, 0)) ∧ n * 3 ≤ cur.size)
theorem OwnP.wip {w : World} {B : Nat} {v : Value} {L : List Pt} (h : OwnP w B v L) (hl : L.length ≤ 4398046511104) : Wip w B w.heap.size v := by
  rcases (show w.ownsRow B 36 3 v L.length (pcells L) from h).2 with ⟨rfl, h0⟩ | ⟨g, cap, cur, rfl, hB, hgb, hc, _, hsz, htk⟩
  · exact ⟨none, 0, 0, rfl, by omega, .inl rfl⟩
  · exact ⟨some ⟨g, 0, none⟩, L.length, cap, rfl, hl, .inr ⟨g, cur, rfl, hB, (Array.getElem?_eq_some_iff.1 hgb).1, hgb, by have := congrArg List.length htk; rw [List.length_take, pcells_len, Array.length_toList] at this; omega⟩⟩
/-- copies whose points are being written over: w3: the world ahead of it -/
structure SpX (w3 w : World) (lo hi : Nat) (p : Option Addr) (L : List Lc) : Prop where
  row : RowLc w lo hi p L
  ft : ∀ c ∈ L, Wip w lo hi c.v2
  frm : Frm w3 w (fun k => lo ≤ k ∧ k < hi)
theorem SpX.of {w1 w3 : World} {lo : Nat} {v : Value} {L : List Lc} (h : CpL w1 lo v L) (hb : Below w1.heap.size w1 w3) : ∃ p c, v = .slice p L.length c ∧ SpX w3 w3 lo w1.heap.size p L := by
  obtain ⟨p, c, e, h1, h2⟩ := h.own.row
  refine ⟨p, c, e, fun i hi => ?_, fun c hc => ?_, Frm.of_below (Below.refl _ _)⟩
  · obtain ⟨b, e, h3, h4, ⟨cur, h5⟩, k0, k1, k2, k3⟩ := h2 i hi
    have k : ∀ {o : Nat} {v : Option Value}, w1.cell? ⟨b, o, none⟩ = v → w3.cell? ⟨b, o, none⟩ = v := fun {o v} hc => (hb.cell (p := ⟨b, o, none⟩) h4).trans hc
    exact ⟨b, e, h3, h4, ⟨cur, (hb.block b h4).trans h5⟩, k k0, k k1, k k2, k k3⟩
  · obtain ⟨p, n, c, e, hn, h⟩ := (h.ft c hc).2.2.1.wip (h.ft c hc).2.2.2.2.2.1
    refine ⟨p, n, c, e, hn, h.imp id ?_⟩
    rintro ⟨g, cur, e, h1, h2, h3, h4⟩
    exact ⟨g, cur, e, h1, h2, (hb.block g h2).trans h3, h4⟩
theorem SpX.set {w3 w : World} {lo hi : Nat} {p : Option Addr} {L : List Lc} (h : SpX w3 w lo hi p L) {g : Nat} {cur : Array Value} (hg : w.heap[g]? = some (.cells cur 36 (0, 0))) (h1 : lo ≤ g) (h2 : g < hi) (o : Nat) (u : Value) : SpX w3 (w.setCell ⟨g, o, none⟩ u) lo hi p L := by
  have hf : Frm w (w.setCell ⟨g, o, none⟩ u) (fun k => k = g) := frm_set _ _ _ _ (F := fun k => k = g) (.inl rfl)
  have hz : (w.setCell ⟨g, o, none⟩ u).heap.size = w.heap.size := by simp
  have hG : Blk w g cur 36 := hg
  refine ⟨fun i hi => ?_, fun c hc => ?_, h.frm.trans hf (fun k hk => by subst hk; exact .inl ⟨h1, h2⟩)⟩
  · obtain ⟨b, e, h3, h4, ⟨cu, h5⟩, k0, k1, k2, k3⟩ := h.row i hi
    have hne : b ≠ g := fun e => by
      subst e
      rw [h5] at hg
      cases hg
    have hblk := hf.block b (Array.getElem?_eq_some_iff.1 h5).1 hne
    have k : ∀ {o' : Nat} {v : Option Value}, w.cell? ⟨b, o', none⟩ = v → (w.setCell ⟨g, o, none⟩ u).cell? ⟨b, o', none⟩ = v := fun {o' v} hc => by
      rw [← hc]
      exact World.cell?_of_block hblk
    exact ⟨b, e, h3, h4, ⟨cu, hblk.trans h5⟩, k k0, k k1, k k2, k k3⟩
  · obtain ⟨p, n, c, e, hn, h⟩ := h.ft c hc
    refine ⟨p, n, c, e, hn, h.imp id ?_⟩
    rintro ⟨g', cu, e, h3, h4, h5, h6⟩
    by_cases hgg : g' = g
    · subst hgg
      rw [h5] at hg
      cases hg
      exact ⟨g', _, e, h3, h4, hG.set o u, by simpa using h6⟩
    · exact ⟨g', cu, e, h3, h4, (hf.block g' (Array.getElem?_eq_some_iff.1 h5).1 hgg).trans h5, h6⟩
theorem ownsRow_set {w : World} {g B n sz : Nat} {cs : Array Value} {T T' : TypeId} {v : Value} {xs : List Value} (hg : Blk w g cs T) (h : w.ownsRow B T' sz v n xs) (hT : T' ≠ T) (i : Nat) (u : Value) : (w.setCell ⟨g, i, none⟩ u).ownsRow B T' sz v n xs :=
  ownsRow_by h (fun k cur _ hk => (frm_set w g i u (F := fun k => k = g) (.inl rfl)).block k (Array.getElem?_eq_some_iff.1 hk).1 (fun e => by
    subst e
    rw [show w.heap[k]? = some (.cells cs T (0, 0)) from hg] at hk
    cases hk
    exact hT rfl))
theorem below_set {w w' : World} {B g i : Nat} {u : Value} (h : Below B w w') (hB : B ≤ w'.heap.size) (hg : B ≤ g) : Below B w (w'.setCell ⟨g, i, none⟩ u) :=
  h.trans ((frm_set w' g i u (F := fun k => k = g) (.inl rfl)).below hB (fun k hk => by omega))
theorem ownsRow_low {w w' : World} {B n sz : Nat} {T : TypeId} {v : Value} {xs : List Value} (h : w.ownsRow B T sz v n xs) (hb : ∀ g, B ≤ g → g < w.heap.size → w'.heap[g]? = w.heap[g]?) : w'.ownsRow B T sz v n xs := by
  refine ⟨h.1, ?_⟩
  rcases h.2 with hn | ⟨g, cap, cur, rfl, h1, hgg, rest⟩
  · exact .inl hn
  · exact .inr ⟨g, cap, cur, rfl, h1, (hb g h1 (Array.getElem?_eq_some_iff.1 hgg).1).trans hgg, rest⟩
/-- a Log stays whatever is written below it -/
theorem LogO.low {w w' : World} {B lb : Nat} {vC : Value} {mb : Nat} {E : List (Pt × Value × List Nat)} {L : List Cm} (h : LogO w B lb vC mb E L) (hf : Frm w w' (fun k => k < B)) : LogO w' B lb vC mb E L := by
  have hk : ∀ k, B ≤ k → k < w.heap.size → w'.heap[k]? = w.heap[k]? := fun k h1 h2 => hf.block k h2 (by omega)
  have hm : w'.heap[mb]? = w.heap[mb]? := by
    obtain ⟨es, c, h3, _⟩ := h.sts.map.f
    exact hk mb h.mbB (Array.getElem?_eq_some_iff.1 h3).1
  exact ⟨(hk lb h.lbB h.blk.lt).trans h.blk, h.lbB, h.mbB, ownsRow_low h.com hk, fun c hc => ⟨ownsRow_low (h.ft c hc).p hk, ownsRow_low (h.ft c hc).s hk, ownsRow_low (h.ft c hc).w hk⟩, ⟨h.sts.map.of_block hm, fun e he => ownsRow_low (h.sts.own e he) hk, h.sts.apart, h.sts.nodup, h.sts.val, h.sts.all⟩, h.inv⟩
/-- the document's commits, what they wrote in what was handed in, stay too -/
theorem DocB.low {wa w w' w0 : World} {K : List Lc} {B : Nat} {v : Value} {M : List Cm} (h : DocB wa w B v M) (hd : DetM K M) (hK : ∀ c ∈ K, RdF w0 c.v0 c.v1 c.v2 c.a ∧ c.s < 18446744073709551616) (h0 : Below w0.heap.size w0 w') (hf : Frm w w' (fun k => k < B)) : DocC w' B v M := by
  refine ⟨ownsRow_low h.own (fun k h1 h2 => hf.block k h2 (by omega)), fun c hc => ?_⟩
  obtain ⟨k, hk, e1, e2⟩ := hd.frm c hc
  refine ⟨⟨?_, (h.ft c hc).1.2⟩, (h.ft c hc).2⟩
  rw [e1, e2]
  exact (hK k hk).1.w.on h0

end Go.Proofs.YtcknhjabdjbjiabGreat
