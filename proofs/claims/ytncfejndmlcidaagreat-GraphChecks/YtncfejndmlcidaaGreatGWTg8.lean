/- Layer 19: turns. Layer 19: Clone; way and single where nothing leads on. -/
import Derived.Test.YtncfejndmlcidaaGreatGWTg6
namespace Go.Proofs.YtncfejndmlcidaaGreat
open Go.RowKit
set_option maxRecDepth 100000

set_option maxHeartbeats 4000000 in
theorem turns1_any (P : List Int) (n qb pb fb fr tq : Nat) (w : World) (hP : P.length = n) (hq : Blk w qb (ints9 P) 3) (hp : Blk w pb #[.slice (some ⟨qb, 0, none⟩) n n] 38) (hf : Blk w fb #[.int .i64 (fr : Int)] 3) (hfr : fr < n) (hto : tq < n) (_hn : n ≤ 4096) :
    Calls Tryz.prog 86 #[.int .i64 (tq : Int), .pointer (some ⟨pb, 0, none⟩), .pointer (some ⟨fb, 0, none⟩)] w fun e w' => e = .returned (.bool (P.getD tq 0 == P.getD fr 0)) ∧ Below w.heap.size w w' := by
  have c0 : w.cell? ⟨pb, 0, none⟩ = some (.slice (some ⟨qb, 0, none⟩) n n) := hp.cell rfl
  have c1 : w.cell? ⟨fb, 0, none⟩ = some (.int .i64 (fr : Int)) := hf.cell rfl
  have c2 : w.cell? ⟨qb, tq, none⟩ = some (.int .i64 (P.getD tq 0)) := hq.cell (ints9_get P tq (by omega))
  have c3 : w.cell? ⟨qb, fr, none⟩ = some (.int .i64 (P.getD fr 0)) := hq.cell (ints9_get P fr (by omega))
  generalize P.getD tq 0 = a at *
  generalize P.getD fr 0 = b at *
  obtain ⟨R, hR⟩ : ∃ R, (a == b) = R := ⟨_, rfl⟩
  have HR : Hid ((a == b) = R) := hR
  clear hP hq hp hf
  rw [hR]
  go_enter Tryz.func86, Tryz.ntmps86
  go_upto_region 1 with fail
  go_quiet (fail)
  go_wp2_with fail
  go_ret
  exact ⟨rfl, ⟨rfl, rfl, rfl, Nat.le_refl _, fun _ _ => rfl⟩⟩
theorem turnsM_at {LL : List (List Ed)} {P : List Int} {ks : List Nat} {i : Nat} (hi : i < LL.length) (h : (tgL ks (LL.getD i [])).any (fun q => P.getD q 0 == P.getD i 0) = true) : turnsM LL P ks = true := List.any_eq_true.2 ⟨i, List.mem_range.2 hi, h⟩
theorem tgs_getD (ks : List Nat) (LL : List (List Ed)) (i : Nat) (hi : i < LL.length) : (tgs ks LL).getD i [] = tgL ks (LL.getD i []) := by
  simp [tgs, hi]
theorem tgL_mem (ks : List Nat) : ∀ (l : List Ed) (s : Int × List Nat) (q : Nat), q ∈ (l.foldl (tgF ks) s).2 → q ∈ s.2 ∨ ∃ e ∈ l, e.to = q
  | [], s, q, h => .inl h
  | e :: l, s, q, h => by
    rw [List.foldl_cons] at h
    rcases tgL_mem ks l _ q h with h1 | ⟨e', h1, h2⟩
    · unfold tgF at h1
      split at h1
      · rcases List.mem_append.1 h1 with h1 | h1
        · exact .inl h1
        · exact .inr ⟨e, List.mem_cons_self .., (List.mem_singleton.1 h1).symm⟩
      · exact .inl h1
    · exact .inr ⟨e', List.mem_cons_of_mem _ h1, h2⟩
/-- edges lead to places -/
def EdLt (n : Nat) (LL : List (List Ed)) : Prop := ∀ l ∈ LL, ∀ e ∈ l, e.to < n
theorem EdLt.tg {n : Nat} {LL : List (List Ed)} (h : EdLt n LL) (ks : List Nat) (p : Nat) : ∀ q ∈ (tgs ks LL).getD p [], q < n := fun q hq => by
  by_cases hp : p < LL.length
  · rw [tgs_getD ks LL p hp] at hq
    rcases tgL_mem ks _ _ q hq with h1 | ⟨e, h1, rfl⟩
    · simp at h1
    · refine h _ ?_ e h1
      rw [List.getD_eq_getElem?_getD, List.getElem?_eq_getElem hp]
      exact List.getElem_mem hp
  · simp [tgs, hp] at hq
theorem tgs_rl {LL : List (List Ed)} (h : ∀ l ∈ LL, l.length ≤ 1099511627776) (ks : List Nat) (p : Nat) : ((tgs ks LL).getD p []).length ≤ 1099511627776 := by
  by_cases hp : p < LL.length
  · rw [tgs_getD ks LL p hp]
    have h1 := tgF_len ks (LL.getD p []) (-1, [])
    have h2 := h (LL.getD p []) (by rw [List.getD_eq_getElem?_getD, List.getElem?_eq_getElem hp]; exact List.getElem_mem hp)
    unfold tgL
    simp only [List.length_nil, Nat.zero_add] at h1
    omega
  · simp [tgs, hp]
set_option maxHeartbeats 8000000 in
theorem turns_any (C ob : Nat) (vs : Nat → Value) (LL : List (List Ed)) (n : Nat) (P : List Int) (qb : Nat) (kv : Value) (ks : List Nat) (w : World) (hO : OutE w C ob vs LL) (hn : LL.length = n) (hn4 : n ≤ 4096) (hl : ∀ l ∈ LL, l.length ≤ 1099511627776) (hE : EdLt n LL) (hK : SlG encN 1 w.heap.size w kv ks) (hk8 : ks.length ≤ 8) (hP : P.length = n) (hq : Blk w qb (ints9 P) 3) :
    Calls Tryz.prog 56 #[.slice (some ⟨ob, 0, none⟩) n n, .slice (some ⟨qb, 0, none⟩) n n, kv] w fun e w' => e = .returned (.bool (turnsM LL P ks)) ∧ Below w.heap.size w w' := by
  obtain ⟨w1, hw1⟩ : ∃ w1, w.alloc (.cells #[.slice (some ⟨qb, 0, none⟩) n n] 38) = w1 := ⟨_, rfl⟩
  have HB1 : Hid (Below w.heap.size w w1) := by rw [← hw1]; exact (Below.refl _ _).alloc (Nat.le_refl _) _
  have HK1 : Hid (Blk w1 w.heap.size #[.slice (some ⟨qb, 0, none⟩) n n] 38 ∧ Blk w1 qb (ints9 P) 3) := by rw [← hw1]; exact ⟨Blk.new w _ _, hq.on ((Below.refl _ _).alloc (Nat.le_refl _) _)⟩
  have HA : Hid (LL.length = n ∧ n ≤ 4096 ∧ (∀ l ∈ LL, l.length ≤ 1099511627776) ∧ EdLt n LL ∧ P.length = n) := ⟨hn, hn4, hl, hE, hP⟩
  have CT : Hid (Calls Tryz.prog 54 #[.slice (some ⟨ob, 0, none⟩) n n, kv] w1 fun e w' => ∃ tb ts, e = .returned (.slice (some ⟨tb, 0, none⟩) n n) ∧ OutN w' w1.heap.size tb ts (tgs ks LL) ∧ Below w1.heap.size w1 w') := targets_any C ob vs LL n kv ks w1 (hO.on HB1.out) hn hn4 hl ((hK.on HB1.out).mono HB1.out.size) hk8
  clear hO hn hl hE hK hk8 hP hq
  go_enter Tryz.func56, Tryz.ntmps56
  go_wp2_with (first | (go_at_call 54; refine CT.out.mono ?_; rintro e w2 ⟨tb, ts, rfl, hw2⟩; have HW2 : Hid (OutN w2 w1.heap.size tb ts (tgs ks LL) ∧ Below w1.heap.size w1 w2) := hw2; clear hw2))
  have HD : Hid (Below w.heap.size w w2) := HB1.out.trans (HW2.out.2.mono HB1.out.size)
  go_loopw [13] (fun ix wr => ∃ i : Nat, ix = .int .i64 (i : Int) ∧ i ≤ n ∧ Hid ((List.range i).any (fun i => (tgL ks (LL.getD i [])).any (fun q => P.getD q 0 == P.getD i 0)) = false) ∧ Hid (Below w2.heap.size w2 wr)) (fun ix _ => n - (intOf ix).toNat)
  case atStart => exact ⟨0, by go_num, Nat.zero_le _, rfl, Below.refl _ _⟩
  case round =>
    obtain ⟨i, rfl, hi, HF, HB⟩ := hrel
    by_cases hi0 : i = n
    · subst hi0
      have HE : Hid (turnsM LL P ks = false) := by
        show _ = _
        unfold turnsM
        rw [HA.out.1]
        exact HF.out
      go_wp2_with fail
      go_ret
      rw [HE.out]
      exact ⟨rfl, HD.out.trans (HB.out.mono HD.out.size)⟩
    · have hi1 : i < n := by omega
      clear hi0
      have HI1 : Hid (i < n) := hi1
      have hil : i < LL.length := by rw [HA.out.1]; exact hi1
      have hO := HW2.out.1.on HB.out
      obtain ⟨q, dd, ev⟩ := hO.slr i
      rw [tgs_getD ks LL i hil] at ev
      have hrow := hO.row i
      rw [tgs_getD ks LL i hil, ev] at hrow
      have x0 : wr.cell? ⟨tb, i, none⟩ = some (.slice q (tgL ks (LL.getD i [])).length dd) := by rw [← ev]; exact hO.cell i (by rw [tgs, List.length_map]; exact hil)
      have HRow : Hid (∀ w', Below wr.heap.size wr w' → SlG encN 1 w'.heap.size w' (.slice q (tgL ks (LL.getD i [])).length dd) (tgL ks (LL.getD i []))) := fun w' h => (OwnG.on hrow h).slN
      have HLe : Hid ((tgL ks (LL.getD i [])).length ≤ 4398046511104 ∧ ∀ q ∈ tgL ks (LL.getD i []), q < n) := by
        have h1 := tgs_rl HA.out.2.2.1 ks i
        rw [tgs_getD ks LL i hil] at h1
        refine ⟨by omega, fun q hq => ?_⟩
        have h2 := HA.out.2.2.2.1.tg ks i q
        rw [tgs_getD ks LL i hil] at h2
        exact h2 hq
      have HT : Hid ((tgL ks (LL.getD i [])).any (fun q => P.getD q 0 == P.getD i 0) = true → turnsM LL P ks = true) := turnsM_at hil
      have HN : Hid ((List.range (i + 1)).any (fun i => (tgL ks (LL.getD i [])).any (fun q => P.getD q 0 == P.getD i 0)) = (tgL ks (LL.getD i [])).any (fun q => P.getD q 0 == P.getD i 0)) := by
        show _ = _
        rw [List.range_succ, List.any_append, HF.out, List.any_cons, List.any_nil, Bool.or_false, Bool.false_or]
      generalize tgL ks (LL.getD i []) = row at *
      generalize row.length = rl at *
      clear hO ev hrow hil
      rename World => wo
      obtain ⟨w3, hw3⟩ : ∃ w3, wo.alloc (.cells #[.int .i64 (i : Int)] 3) = w3 := ⟨_, rfl⟩
      have HB3 : Hid (Below wo.heap.size wo w3) := by rw [← hw3]; exact (Below.refl _ _).alloc (Nat.le_refl _) _
      have HK3 : Hid (Blk w3 wo.heap.size #[.int .i64 (i : Int)] 3) := by rw [← hw3]; exact Blk.new wo _ _
      have HB13 : Hid (Below w1.heap.size w1 w3) := (HW2.out.2.trans (HB.out.mono HW2.out.2.size)).trans (HB3.out.mono (Nat.le_trans HW2.out.2.size HB.out.size))
      have CF : Hid (Calls Tryz.prog 85 #[.slice q rl dd, .func (.func 86) #[] #[.pointer (some ⟨w.heap.size, 0, none⟩), .pointer (some ⟨wo.heap.size, 0, none⟩)]] w3 fun e w' => e = .returned (.bool (row.any (fun q => P.getD q 0 == P.getD i 0))) ∧ Below w3.heap.size w3 w') := by
        refine containsFN_any 86 _ _ (fun q => P.getD q 0 == P.getD i 0) _ row w3 (enters_of Tryz.func86 (by kernel_rfl) rfl) (HRow.out w3 HB3.out) ?_ (fun x w4 hx hb => ?_)
        · have h1 := HLe.out.1
          obtain ⟨p', c', e', _, _, _⟩ := (HRow.out w3 HB3.out).f
          obtain ⟨-, h2, -⟩ := Value.slice.inj e'
          omega
        · exact turns1_any P n qb w.heap.size wo.heap.size i x w4 HA.out.2.2.2.2 ((HK1.out.2.on HB13.out).on hb) ((HK1.out.1.on HB13.out).on hb) (HK3.out.on hb) HI1.out (HLe.out.2 x hx) HA.out.2.1
      have HB23 : Hid (Below w2.heap.size w2 w3) := HB.out.trans (HB3.out.mono HB.out.size)
      generalize row.any (fun q => P.getD q 0 == P.getD i 0) = R at *
      clear HRow HLe
      go_upto_region 4 with fail
      clear hw3
      cases R
      · go_wp2_with (first | (go_at_call 85; refine CF.out.mono ?_; rintro e w5 ⟨rfl, hb5⟩; have HB5 : Hid (Below w2.heap.size w2 w5) := HB23.out.trans (hb5.mono HB23.out.size); clear hb5))
        go_roundw
        case rel => exact ⟨i + 1, by go_num, HI1.out, HN.out, HB5.out⟩
        case measure => have h9 := HI1.out; simp [intOf]; omega
      · go_wp2_with (first | (go_at_call 85; refine CF.out.mono ?_; rintro e w5 ⟨rfl, hb5⟩; have HB5 : Hid (Below w2.heap.size w2 w5) := HB23.out.trans (hb5.mono HB23.out.size); clear hb5))
        go_ret
        rw [HT.out trivial]
        exact ⟨rfl, HD.out.trans (HB5.out.mono HD.out.size)⟩

end Go.Proofs.YtncfejndmlcidaaGreat

namespace Go.Proofs.YtncfejndmlcidaaGreat
open Go.RowKit
set_option maxRecDepth 100000

theorem SlG.flat {α : Type} {enc : α → List Value} {size B b o n c : Nat} {w : World} {L : List α} (hf : ∀ x, (enc x).length = size) (hs : 0 < size) (h : SlG enc size B w (.slice (some ⟨b, o, none⟩) n c) L) : ∀ j u, (L.flatMap enc)[j]? = some u → w.cell? ((⟨b, o, none⟩ : Addr).add j) = some u := by
  intro j u hj
  have hl : j < L.length * size := by have := (List.getElem?_eq_some_iff.1 hj).1; rw [flat_len hf] at this; exact this
  have e : (⟨b, o, none⟩ : Addr).add j = ⟨b, o + j, none⟩ := by unfold Addr.add; split <;> simp_all
  rw [e]
  obtain ⟨p', c', e', _, _, h3⟩ := h.f
  cases e'
  have hq : j / size < L.length := by rw [Nat.div_lt_iff_lt_mul hs]; exact hl
  obtain ⟨b', o', e2, hb, hc⟩ := h3 (j / size) hq
  cases e2
  have hm : j % size < size := Nat.mod_lt _ hs
  have hd : j / size * size + j % size = j := Nat.div_add_mod' j size
  have h4 := flat_at hf L (j / size) hq (j % size) hm
  rw [hd, hj] at h4
  have h5 := hc (j % size) u h4.symm
  rw [show o + j / size * size + j % size = o + j by omega] at h5
  exact h5
set_option maxHeartbeats 2000000 in
theorem cloneN_any (v : Value) (L : List Nat) (w : World) (hL : SlG encN 1 w.heap.size w v L) (hl : L.length ≤ 1099511627776) :
    Calls Tryz.prog 93 #[v] w fun e w' => ∃ v', e = .returned v' ∧ OwnG encN 1 3 w' w.heap.size v' L ∧ Below w.heap.size w w' := by
  obtain ⟨p, c, rfl, hpc, hp0, _⟩ := hL.f
  cases p with
  | none =>
    obtain rfl : c = 0 := hp0 rfl
    have hz : L.length = 0 := by omega
    have e0 : L = [] := List.eq_nil_of_length_eq_zero hz
    subst e0
    have hnil := fun w1 : World => Lib.run_eql_slice_nil (P := Tryz.prog) w1 38 3 none 0 0 0 0 Tryz.underlying38
    simp only [Option.isNone_none] at hnil
    clear hL hp0 hpc hl hz
    dsimp only [List.length_nil]
    go_enter Tryz.func93, Tryz.ntmps93
    go_wp2
    go_ret
    exact ⟨_, rfl, OwnG.nil _ _ _ _ _, Below.refl _ _⟩
  | some a =>
    have HC : Hid (∀ w', Below w.heap.size w w' → ∀ j u, (L.flatMap encN)[j]? = some u → w'.cell? (a.add j) = some u) := fun w' hb j u hj => by
      have h9 := hL.on hb
      obtain ⟨p', c', e', _, _, h3⟩ := h9.f
      cases e'
      have hl0 : 0 < L.length := by
        have := (List.getElem?_eq_some_iff.1 hj).1
        rw [flat_len (enc := encN) (size := 1) (fun _ => rfl)] at this
        omega
      obtain ⟨b, o, e, _, _⟩ := h3 0 hl0
      cases e
      exact h9.flat (size := 1) (fun _ => rfl) (by decide) j u hj
    clear hL
    go_enter Tryz.func93, Tryz.ntmps93
    have hnil := fun w1 : World => Lib.run_eql_slice_nil (P := Tryz.prog) w1 38 3 (some a) L.length c 0 0 Tryz.underlying38
    simp only [Option.isNone_some] at hnil
    obtain ⟨i, hi, hz0, hz1, hz2⟩ : ∃ i, Tryz.prog.info? 3 = some i ∧ i.zero = some (.int .i64 0) ∧ i.size = 1 ∧ i.bytes = 8 := by
      have hinfo := info_int9
      cases hi : Tryz.prog.info? 3 with
      | none => rw [hi] at hinfo; cases hinfo
      | some i =>
        rw [hi] at hinfo
        simp only [Option.map_some, Option.some.injEq, Prod.mk.injEq] at hinfo
        exact ⟨i, rfl, hinfo.1, hinfo.2.1, hinfo.2.2⟩
    go_wp2_with (first | (at_builtin; refine wpList_append_own _ rfl (.tmp 5) (.tmp 6) 38 rfl w.heap.size 3 i (.int .i64 0) 1 8 Tryz.underlying38 hi hz0 hz1 hz2 rfl (by decide) _ 0 [] rfl ?own a L.length c (L.flatMap encN) rfl (flat_len (enc := encN) (size := 1) (fun _ => rfl) L) ?cells ?one ?mx ?byt ?base ?_))
    case own => exact World.ownsRow_lit w #[] 0 (Nat.le_refl _) (Nat.zero_le _) rfl
    case cells => exact HC.out _ ((Below.refl _ _).alloc (Nat.le_refl _) _)
    case one => intro u hu; obtain ⟨x, _, hx⟩ := List.mem_flatMap.1 hu; exact encN_one x u hx
    case mx => unfold maxLen; omega
    case byt => omega
    case base => simp
    intro v1 w1 h1 h2 h9
    have hown : OwnG encN 1 3 w1 w.heap.size v1 L := by
      unfold OwnG
      simpa using h1
    have hb : Below w.heap.size w w1 := ((Below.refl _ _).alloc (Nat.le_refl _) _).grown h2 (by simp) (fun k hk => by simp [Value.ownBlock] at hk; omega)
    clear h1 h2 h9
    go_wp2
    go_ret
    exact ⟨_, rfl, hown, hb⟩
set_option maxHeartbeats 2000000 in
theorem cloneS_any (v : Value) (L : List Sw) (w : World) (hL : SlG encS 3 w.heap.size w v L) (hl : L.length ≤ 1099511627776) :
    Calls Tryz.prog 158 #[v] w fun e w' => ∃ v', e = .returned v' ∧ OwnG encS 3 53 w' w.heap.size v' L ∧ Below w.heap.size w w' := by
  obtain ⟨p, c, rfl, hpc, hp0, _⟩ := hL.f
  cases p with
  | none =>
    obtain rfl : c = 0 := hp0 rfl
    have hz : L.length = 0 := by omega
    have e0 : L = [] := List.eq_nil_of_length_eq_zero hz
    subst e0
    have hnil := fun w1 : World => Lib.run_eql_slice_nil (P := Tryz.prog) w1 48 53 none 0 0 0 0 Tryz.underlying48
    simp only [Option.isNone_none] at hnil
    clear hL hp0 hpc hl hz
    dsimp only [List.length_nil]
    go_enter Tryz.func158, Tryz.ntmps158
    go_wp2
    go_ret
    exact ⟨_, rfl, OwnG.nil _ _ _ _ _, Below.refl _ _⟩
  | some a =>
    have HC : Hid (∀ w', Below w.heap.size w w' → ∀ j u, (L.flatMap encS)[j]? = some u → w'.cell? (a.add j) = some u) := fun w' hb j u hj => by
      have h9 := hL.on hb
      obtain ⟨p', c', e', _, _, h3⟩ := h9.f
      cases e'
      have hl0 : 0 < L.length := by
        have := (List.getElem?_eq_some_iff.1 hj).1
        rw [flat_len (enc := encS) (size := 3) (fun _ => rfl)] at this
        omega
      obtain ⟨b, o, e, _, _⟩ := h3 0 hl0
      cases e
      exact h9.flat (size := 3) (fun _ => rfl) (by decide) j u hj
    clear hL
    go_enter Tryz.func158, Tryz.ntmps158
    have hnil := fun w1 : World => Lib.run_eql_slice_nil (P := Tryz.prog) w1 48 53 (some a) L.length c 0 0 Tryz.underlying48
    simp only [Option.isNone_some] at hnil
    obtain ⟨i, hi, hz0, hz1, hz2⟩ : ∃ i, Tryz.prog.info? 53 = some i ∧ i.zero = some (.agg #[.string ⟨#[]⟩, .int .i64 0, .int .i64 0]) ∧ i.size = 3 ∧ i.bytes = 32 := by
      have hinfo := info_saw
      cases hi : Tryz.prog.info? 53 with
      | none => rw [hi] at hinfo; cases hinfo
      | some i =>
        rw [hi] at hinfo
        simp only [Option.map_some, Option.some.injEq, Prod.mk.injEq] at hinfo
        exact ⟨i, rfl, hinfo.1, hinfo.2.1, hinfo.2.2⟩
    go_wp2_with (first | (at_builtin; refine wpList_append_own _ rfl (.tmp 5) (.tmp 6) 48 rfl w.heap.size 53 i (.agg #[.string ⟨#[]⟩, .int .i64 0, .int .i64 0]) 3 32 Tryz.underlying48 hi hz0 hz1 hz2 rfl (by decide) _ 0 [] rfl ?own a L.length c (L.flatMap encS) rfl (flat_len (enc := encS) (size := 3) (fun _ => rfl) L) ?cells ?one ?mx ?byt ?base ?_))
    case own => exact World.ownsRow_lit w #[] 0 (Nat.le_refl _) (Nat.zero_le _) rfl
    case cells => exact HC.out _ ((Below.refl _ _).alloc (Nat.le_refl _) _)
    case one => intro u hu; obtain ⟨x, _, hx⟩ := List.mem_flatMap.1 hu; exact encS_one x u hx
    case mx => unfold maxLen; omega
    case byt => omega
    case base => simp
    intro v1 w1 h1 h2 h9
    have hown : OwnG encS 3 53 w1 w.heap.size v1 L := by
      unfold OwnG
      simpa using h1
    have hb : Below w.heap.size w w1 := ((Below.refl _ _).alloc (Nat.le_refl _) _).grown h2 (by simp) (fun k hk => by simp [Value.ownBlock] at hk; omega)
    clear h1 h2 h9
    go_wp2
    go_ret
    exact ⟨_, rfl, hown, hb⟩
set_option maxHeartbeats 8000000 in
theorem way0_any (Cn nb : Nat) (ns : Nat → Value) (NN : List (List Nat)) (n x tq : Nat) (v : Value) (w : World) (hN : OutN w Cn nb ns NN) (hnl : NN.length = n) (hn4 : n ≤ 4096) (hnn : ∀ p, NN.getD p [] = []) (hL : SlG encN 1 w.heap.size w v [x]) (hx : x < n) (ht : tq < n) (hne : x ≠ tq) :
    Calls Tryz.prog 62 #[.slice (some ⟨nb, 0, none⟩) n n, v, .int .i64 (tq : Int)] w fun e w' => e = .returned (.slice none 0 0) ∧ Below w.heap.size w w' := by
  obtain ⟨p, c, ev, hpc, hp0, _⟩ := hL.f
  have hL2 : SlG encN 1 w.heap.size w (.slice p 1 c) [x] := by
    have h := hL
    rw [ev] at h
    exact h
  obtain ⟨b, o, rfl, hb, x0⟩ := hL2.cellN 0 (by simp)
  have ev2 : v = .slice (some ⟨b, o, none⟩) 1 c := ev
  subst ev2
  have x0 : w.cell? ⟨b, o + 0, none⟩ = some (.int .i64 (x : Int)) := x0
  rw [Nat.add_zero] at x0
  have HA : Hid (OutN w Cn nb ns NN ∧ NN.length = n ∧ n ≤ 4096 ∧ (∀ p, NN.getD p [] = []) ∧ b < w.heap.size ∧ w.cell? ⟨b, o, none⟩ = some (.int .i64 (x : Int)) ∧ SlG encN 1 w.heap.size w (.slice (some ⟨b, o, none⟩) 1 c) [x] ∧ x ≠ tq) := ⟨hN, hnl, hn4, hnn, hb, x0, hL, hne⟩
  obtain ⟨w1, hw1⟩ : ∃ w1, w.alloc (.cells #[.int .i64 (-2)] 3) = w1 := ⟨_, rfl⟩
  have HB1 : Hid (Below w.heap.size w w1) := by rw [← hw1]; exact (Below.refl _ _).alloc (Nat.le_refl _) _
  have HK1 : Hid (Blk w1 w.heap.size #[.int .i64 (-2)] 3) := by rw [← hw1]; exact Blk.new w _ _
  have CR : Hid (Calls Tryz.prog 82 #[.slice (some ⟨w.heap.size, 0, none⟩) 1 1, .int .i64 (n : Int)] w1 fun e w' => ∃ rb, e = .returned (.slice (some ⟨rb, 0, none⟩) n n) ∧ w1.heap.size ≤ rb ∧ Blk w' rb (Array.replicate n (.int .i64 (-2))) 3 ∧ Below w1.heap.size w1 w') := repeat1_any (-2) n w.heap.size hn4 w1 (HK1.out.cell rfl) HK1.out.lt
  clear hN hnl hnn hL hL2 hpc hp0 hb hne
  go_enter Tryz.func62, Tryz.ntmps62
  go_upto_region 4 with (first | (go_at_call 82; refine CR.out.mono ?_; rintro e w2 ⟨ab, rfl, hw2⟩; have HW2 : Hid (w1.heap.size ≤ ab ∧ Blk w2 ab (Array.replicate n (.int .i64 (-2))) 3 ∧ Below w1.heap.size w1 w2) := hw2; clear hw2))
  clear hw1
  have HD2 : Hid (Below w.heap.size w w2 ∧ w.heap.size ≤ ab ∧ Blk w2 ab (ints9 (List.replicate n (-2))) 3) := by
    have e : ints9 (List.replicate n (-2)) = Array.replicate n (.int .i64 (-2)) := by simp [ints9]
    rw [e]
    exact ⟨HB1.out.trans (HW2.out.2.2.mono HB1.out.size), Nat.le_trans HB1.out.size HW2.out.1, HW2.out.2.1⟩
  clear HW2 CR HK1 HB1 x0
  go_wp2_with fail
  go_loopw [24] (fun ix wr => ∃ k : Nat, ix = .int .i64 (k : Int) ∧ k ≤ 1 ∧ Hid (Below w.heap.size w wr ∧ Blk wr ab (ints9 (if k = 0 then List.replicate n (-2) else (List.replicate n (-2)).set x (-1))) 3)) (fun ix _ => 1 - (intOf ix).toNat)
  case atStart => exact ⟨0, by go_num, Nat.zero_le _, HD2.out.1, HD2.out.2.2⟩
  case round =>
    obtain ⟨k, rfl, hk, HI⟩ := hrel
    by_cases hk0 : k = 0
    · subst hk0
      have x0 : wr.cell? ⟨b, o, none⟩ = some (.int .i64 (x : Int)) := by
        rw [HI.out.1.cell (p := ⟨b, o, none⟩) HA.out.2.2.2.2.1]
        exact HA.out.2.2.2.2.2.1
      have hI : Blk wr ab (ints9 (List.replicate n (-2))) 3 := HI.out.2
      have z0 : wr.cell? ⟨ab, x, none⟩ = some (.int .i64 (-2)) := hI.cell (by simp [ints9, hx])
      have f0 := hI.frozen x
      have HI2 : Hid (Blk wr ab (ints9 (List.replicate n (-2))) 3) := hI
      clear hI
      go_wp2_with fail
      go_roundw
      case rel =>
        refine ⟨1, by go_num, Nat.le_refl _, HI.out.1.trans ((frm_set wr ab x _ (F := one1 ab) (.inl rfl)).below HI.out.1.size (fun k hk => by rw [show k = ab from hk]; exact HD2.out.2.1)), ?_⟩
        rw [if_neg (by omega), ← ints9_set]
        exact HI2.out.set x _
      case measure => simp [intOf]
    · obtain rfl : k = 1 := by omega
      rename World => w3
      have HI3 : Hid (Below w.heap.size w w3 ∧ Blk w3 ab (ints9 ((List.replicate n (-2)).set x (-1))) 3) := by
        have h1 := HI.out
        rw [if_neg (by omega)] at h1
        exact h1
      clear HI hk0
      have CC : Hid (Calls Tryz.prog 93 #[.slice (some ⟨b, o, none⟩) 1 c] w3 fun e w' => ∃ g cp, e = .returned (.slice (some ⟨g, 0, none⟩) 1 cp) ∧ 1 ≤ cp ∧ cp ≤ maxLen ∧ SlG encN 1 w'.heap.size w' (.slice (some ⟨g, 0, none⟩) 1 cp) [x] ∧ Below w3.heap.size w3 w') := by
        refine (cloneN_any _ [x] w3 ((HA.out.2.2.2.2.2.2.1.on HI3.out.1).mono HI3.out.1.size) (by simp)).mono ?_
        rintro e w' ⟨v', rfl, h1, h2⟩
        rcases h1.form with ⟨_, e⟩ | ⟨g, cap, cur, rfl, hB, hg, h3, h4, h5, h6⟩
        · cases e
        · exact ⟨g, cap, rfl, h3, h4, h1.slN, h2⟩
      have hx2 : ((List.replicate n (-2 : Int)).set x (-1)).length = n := by simp
      have htq : ((List.replicate n (-2 : Int)).set x (-1)).getD tq 0 = -2 := by
        rw [getD_set_ne9 _ _ _ (Ne.symm HA.out.2.2.2.2.2.2.2)]
        simp [List.getD_eq_getElem?_getD, ht]
      have HQ : Hid (∀ w', Below w3.heap.size w3 w' → w'.cell? ⟨ab, tq, none⟩ = some (.int .i64 (-2))) := fun w' hb => by
        have h1 := (HI3.out.2.on hb).cell (ints9_get _ tq (by rw [hx2]; exact ht))
        rw [htq] at h1
        exact h1
      clear hx2 htq
      go_wp2_with (first | (go_at_call 93; refine CC.out.mono ?_; rintro e w4 ⟨g, cp, rfl, h1, h2, hw4⟩; have HW4 : Hid (1 ≤ cp ∧ cp ≤ maxLen ∧ SlG encN 1 w4.heap.size w4 (.slice (some ⟨g, 0, none⟩) 1 cp) [x] ∧ Below w3.heap.size w3 w4) := ⟨h1, h2, hw4⟩; clear h1 h2 hw4))
      have hcp : 1 ≤ cp ∧ cp ≤ 9223372036854775807 := ⟨HW4.out.1, by have := HW4.out.2.1; unfold maxLen at this; omega⟩
      go_loopw [10] (fun lv wr => ∃ (l : Nat) (p : Option Addr) (cl : Nat), lv = .slice p l cl ∧ l ≤ 1 ∧ Hid (l = 1 → p = some ⟨g, 0, none⟩ ∧ cl = cp) ∧ Hid (wr = w4)) (fun lv _ => match lv with | .slice _ l _ => l | _ => 0)
      case atStart => exact ⟨1, _, cp, rfl, Nat.le_refl _, fun _ => ⟨rfl, rfl⟩, rfl⟩
      case round =>
        obtain ⟨l, p, cl, rfl, hl, HL, HW⟩ := hrel
        obtain rfl := HW.out
        have q0 := HQ.out wr HW4.out.2.2.2
        by_cases hl0 : l = 0
        · subst hl0
          go_wp2_with fail
          go_returns
          exact ⟨rfl, HI3.out.1.trans (HW4.out.2.2.2.mono HI3.out.1.size)⟩
        · obtain rfl : l = 1 := by omega
          obtain ⟨rfl, rfl⟩ := HL.out rfl
          clear hl0 HL
          obtain ⟨b', o', e, _, y0⟩ := HW4.out.2.2.1.cellN 0 (by simp)
          cases e
          have y0 : wr.cell? ⟨g, 0, none⟩ = some (.int .i64 (x : Int)) := y0
          have hOr := HA.out.1.on (HI3.out.1.trans (HW4.out.2.2.2.mono HI3.out.1.size))
          obtain ⟨qr, dr, evr⟩ := hOr.slr x
          rw [HA.out.2.2.2.1] at evr
          have k1 : wr.cell? ⟨nb, x, none⟩ = some (.slice qr 0 dr) := by
            have h1 := hOr.cell x (by rw [HA.out.2.1]; exact hx)
            rw [evr] at h1
            exact h1
          clear hOr evr
          rename World => wo
          by_cases hc1 : cl = 1
          · subst hc1
            go_wp2_with fail
            go_loopw [10, 53] (fun lv ix wr => lv = .slice (some ⟨g, 0, none⟩) 1 1 ∧ ix = .int .i64 0 ∧ Hid (wr = wo)) (fun _ ix _ => 0)
            case atStart => exact ⟨rfl, rfl, rfl⟩
            case round =>
              obtain ⟨rfl, rfl, HWo⟩ := hrel
              obtain rfl := HWo.out
              go_wp2_with fail
              go_roundw
              case rel => exact ⟨0, _, _, rfl, Nat.zero_le _, by show (0 = 1 → _); intro h; omega, by first | rfl | exact trivial⟩
              case measure => simp
          · have hc2 : ¬ cl = 1 := hc1
            go_wp2_with fail
            go_loopw [10, 53] (fun lv ix wr => lv = .slice (some ⟨g, 0, none⟩) 1 cl ∧ ix = .int .i64 0 ∧ Hid (wr = wo)) (fun _ ix _ => 0)
            case atStart => exact ⟨rfl, rfl, rfl⟩
            case round =>
              obtain ⟨rfl, rfl, HWo⟩ := hrel
              obtain rfl := HWo.out
              go_wp2_with fail
              go_roundw
              case rel => exact ⟨0, _, _, rfl, Nat.zero_le _, by show (0 = 1 → _); intro h; omega, by first | rfl | exact trivial⟩
              case measure => simp

end Go.Proofs.YtncfejndmlcidaaGreat
