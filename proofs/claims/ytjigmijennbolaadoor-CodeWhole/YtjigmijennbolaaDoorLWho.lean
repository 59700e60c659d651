/- The walk of the statement on what Both and Union hold: it answers true. -/
import Derived.Test.YtjigmijennbolaaDoorWUni3
import Derived.Test.YtjigmijennbolaaDoorWBoth3
import Derived.Test.YtjigmijennbolaaDoorFrameRs
import Derived.Test.YtjigmijennbolaaDoorWQuiet
namespace Go.Proofs.YtjigmijennbolaaDoor
open Go.RowKit
set_option maxRecDepth 100000

def Rg.hasB' (r : Rg) (k : ByteArray) : Bool := hasB r.lo r.hi r.op k
theorem ltB_mx (k a b : ByteArray) : (!ltB k (mxB a b)) = ((!ltB k a) && (!ltB k b)) := by
  unfold mxB
  cases h : ltB a b with
  | true =>
    rw [if_pos rfl]
    cases h1 : ltB k b with
    | true => simp
    | false => rw [le_trans' (le_of_lt h) h1]; rfl
  | false =>
    rw [if_neg (by simp)]
    cases h1 : ltB k a with
    | true => simp
    | false => rw [le_trans' h h1]; rfl
theorem ltB_mn (k a b : ByteArray) : ltB k (mnB a b) = (ltB k a && ltB k b) := by
  unfold mnB
  cases h : ltB b a with
  | true =>
    rw [if_pos rfl]
    cases h1 : ltB k b with
    | true => rw [lt_trans' h1 h]; rfl
    | false => simp
  | false =>
    rw [if_neg (by simp)]
    cases h1 : ltB k a with
    | true => rw [lt_of_lt_of_le' h1 h]; rfl
    | false => simp
theorem empty_has {lo hi : ByteArray} {op : Bool} (h : emptyB lo hi op = true) (k : ByteArray) : hasB lo hi op k = false := by
  unfold emptyB at h
  unfold hasB
  simp at h
  rw [h.1]
  cases h1 : ltB k lo with
  | true => rfl
  | false =>
    cases h2 : ltB k hi with
    | false => rfl
    | true => have := lt_of_le_of_lt' h1 h2; rw [h.2] at this; cases this
theorem nil_has (k : ByteArray) : hasB ⟨#[]⟩ ⟨#[]⟩ false k = false := empty_has (by unfold emptyB; rw [ltB_irrefl]; rfl) k
theorem both_has (lo hi : ByteArray) (op : Bool) (lo' hi' : ByteArray) (op' : Bool) (k : ByteArray) :
    hasB (bothR lo hi op lo' hi' op').1 (bothR lo hi op lo' hi' op').2.1 (bothR lo hi op lo' hi' op').2.2 k = (hasB lo hi op k && hasB lo' hi' op' k) := by
  have key : ∀ b : Bool, (bothH hi op hi' op' = bothH hi op hi' op') → (op && op') = false → hasB (mxB lo lo') (bothH hi op hi' op') false k = (hasB lo hi op k && hasB lo' hi' op' k) := by
    intro _ _ h
    unfold hasB
    rw [ltB_mx]
    unfold bothH
    cases op <;> cases op' <;> simp only [if_true, Bool.false_eq_true, if_false]
    · simp only [ltB_mn, Bool.false_or]
      cases ltB k lo <;> cases ltB k lo' <;> cases ltB k hi <;> cases ltB k hi' <;> rfl
    · cases ltB k lo <;> cases ltB k lo' <;> cases ltB k hi <;> rfl
    · cases ltB k lo <;> cases ltB k lo' <;> cases ltB k hi' <;> rfl
    · cases h
  unfold bothR
  cases h : (op && op') with
  | true =>
    simp at h
    rw [if_pos rfl, h.1, h.2]
    unfold hasB
    rw [ltB_mx]
    cases ltB k lo <;> cases ltB k lo' <;> rfl
  | false =>
    rw [if_neg (by simp)]
    cases he : emptyB (mxB lo lo') (bothH hi op hi' op') false with
    | true =>
      rw [if_pos rfl]
      have := key true rfl h
      rw [empty_has he] at this
      rw [← this]; exact nil_has k
    | false => rw [if_neg (by simp)]; exact key true rfl h
theorem has_meet {lo hi : ByteArray} {op : Bool} {k : ByteArray} (h : hasB lo hi op k = true) : (!emptyB lo hi op) = true := by
  cases he : emptyB lo hi op with
  | false => rfl
  | true => rw [empty_has he] at h; cases h
theorem hasB_iff (r : Rg) (k : ByteArray) : r.hasB' k = true ↔ r.has k := (has_iff r k).symm
/-- a key is in one of the union's ranges just if it is in one of the ranges -/
theorem union_keys {R L : List Rg} (hr : Rising R) (hm : ∀ r, r ∈ R ↔ r ∈ keepL L) (k : ByteArray) : inL (R.foldl stepU []) k ↔ ∃ r ∈ L, r.hasB' k = true := by
  have hs : ∀ r ∈ R, r.some := fun r h => by
    have h1 := (hm r).1 h
    unfold keepL at h1
    have h2 := (List.mem_filter.1 h1).2
    rw [some_iff]
    simpa [Rg.emp] using h2
  obtain ⟨_, h2, _⟩ := union_inv hr hs
  rw [h2]
  constructor
  · rintro ⟨r, h, hk⟩
    have h1 := (hm r).1 h
    unfold keepL at h1
    exact ⟨r, (List.mem_filter.1 h1).1, (hasB_iff r k).2 hk⟩
  · rintro ⟨r, h, hk⟩
    refine ⟨r, (hm r).2 ?_, (hasB_iff r k).1 hk⟩
    unfold keepL
    refine List.mem_filter.2 ⟨h, ?_⟩
    cases he : r.emp with
    | false => rfl
    | true => unfold Rg.hasB' at hk; rw [empty_has he] at hk; cases hk
theorem union_sep {R L : List Rg} (hr : Rising R) (hm : ∀ r, r ∈ R ↔ r ∈ keepL L) : Sep (R.foldl stepU []) :=
  (union_inv hr fun r h => by
    have h1 := (hm r).1 h
    unfold keepL at h1
    have h2 := (List.mem_filter.1 h1).2
    rw [some_iff]
    simpa [Rg.emp] using h2).1

set_option maxHeartbeats 4000000 in
theorem lawWhole (L : List Rg) (p : Option Addr) (c : Nat) (k : ByteArray) (w : World) (hR : RowR w w.heap.size p L) (hok : (∀ u ∈ L, u.ok) ∧ (p = none → c = 0)) (hlen : L.length ≤ 3518437208784) (hc : L.length ≤ c) (_hk : k.size ≤ 140737488351232) (hg : 2 < w.heap.size) (hT : Lib.Utf8Tabs 1 2 w) :
    Calls Tryd.prog 4 #[.slice p L.length c, .string k] w fun e w' => e = .returned (.bool true) ∧ Below w.heap.size w w' := by
  have C1 : Hid (∀ w1 : World, Below w.heap.size w w1 → Calls _ _ _ _ _) := fun w1 hb => union_any L p c w1 ((hR.keep hb).mono hb.size) hlen hc hok.2
  have C11 : Hid (∀ w1 : World, Below w.heap.size w w1 → Calls _ _ _ _ _) := fun w1 hb => awake_any w1 (by have := hb.size; omega) (tabs_keep hb hg hT)
  have HA : Hid (RowR _ _ _ _) := hR
  clear hR hok hT
  go_enter Tryd.func4, Tryd.ntmps4
  go_wp2_with fail
  go_loopw [5, 6] (fun n i wr => ∃ (j m : Nat), j ≤ L.length ∧ m ≤ j ∧ i = .int .i64 (j : Int) ∧ n = .int .i64 (m : Int) ∧ Hid (0 < m ↔ ∃ r ∈ L.take j, r.hasB' k = true) ∧ Below w.heap.size w wr) (fun _ i _ => L.length - (intOf i).toNat)
  case atStart => exact ⟨0, 0, Nat.zero_le _, Nat.le_refl _, by go_num, by go_num, (show _ ↔ _ by simp), Below.refl _ _⟩
  case round =>
    obtain ⟨j, m, hj, hmj, rfl, rfl, hm, hn⟩ := hrel
    by_cases hj0 : j = L.length
    · subst hj0
      rw [List.take_length] at hm
      have C1' : Hid (Calls _ _ _ _ _) := C1.out wr hn
      clear C1
      go_wp2_with fail
      refine C1'.out.mono ?_
      rintro e w1 ⟨v, R, rfl, hO1, hr1, hm1, hl1, hb1⟩
      have hul := foldU_len R []
      have HK : Hid (inL (R.foldl stepU []) k ↔ ∃ r ∈ L, r.hasB' k = true) := union_keys hr1 hm1 k
      have HP : Hid (Sep (R.foldl stepU [])) := union_sep hr1 hm1
      obtain ⟨pu, cu, rfl, hRw⟩ := hO1.row
      have HU : Hid (RowR _ _ _ _) := hRw
      have HB1 : Hid (Below w.heap.size w w1) := hn.trans (hb1.mono hn.size)
      simp only [List.length_nil, Nat.zero_add] at hul
      clear hr1 hm1 hO1 hRw hb1 hn C1'
      generalize R.foldl stepU [] = U at *
      go_wp2_with fail
      go_loopw [10, 11] (fun n i wr => ∃ (q x : Nat), q ≤ U.length ∧ x ≤ 1 ∧ i = .int .i64 (q : Int) ∧ n = .int .i64 (x : Int) ∧ Hid (x = 1 ↔ ∃ r ∈ U.take q, r.has k) ∧ Below w1.heap.size w1 wr) (fun _ i _ => U.length - (intOf i).toNat)
      case atStart => exact ⟨0, 0, Nat.zero_le _, by omega, by go_num, by go_num, (show _ ↔ _ by simp), Below.refl _ _⟩
      case round =>
        obtain ⟨q, x, hq, hx1, rfl, rfl, hx, hn⟩ := hrel
        by_cases hq0 : q = U.length
        · subst hq0
          rw [List.take_length] at hx
          have hmx : 0 < m ↔ x = 1 := by rw [hm.out, hx.out, ← HK.out]; rfl
          have HE : Hid (Calls _ _ _ _ _) := C11.out wr (HB1.out.trans (hn.mono HB1.out.size))
          have HF : Hid (Below w.heap.size w wr) := HB1.out.trans (hn.mono HB1.out.size)
          clear C11 hn hm hx HK
          have hx2 : (x : Int) < 2 := by omega
          rcases (by omega : x = 0 ∨ x = 1) with rfl | rfl
          · have hm0 : m = 0 := by omega
            subst hm0
            clear hmx
            go_wp2_with fail
            refine HE.out.mono ?_
            rintro e w9 ⟨rfl, hb9⟩
            go_wp2
            go_ret
            exact ⟨rfl, HF.out.trans (hb9.mono HF.out.size)⟩
          · have hm0 : 0 < m := by omega
            have hm2 : (0 : Int) < (m : Int) := by omega
            clear hmx
            go_wp2_with fail
            refine HE.out.mono ?_
            rintro e w9 ⟨rfl, hb9⟩
            go_wp2
            go_ret
            exact ⟨rfl, HF.out.trans (hb9.mono HF.out.size)⟩
        · have hq1 : q < U.length := by omega
          obtain ⟨b, o, rfl, hbB, d0, d1, d2⟩ := HU.out q hq1
          have a0 := (hn.cell (p := ⟨b, o + q * 3, none⟩) hbB).trans d0
          have a1 := (hn.cell (p := ⟨b, o + q * 3 + 1, none⟩) hbB).trans d1
          have a2 := (hn.cell (p := ⟨b, o + q * 3 + 2, none⟩) hbB).trans d2
          have CH : Hid (∀ w1 : World, Calls Tryd.prog 10 #[.agg #[.string U[q].lo, .string U[q].hi, .bool U[q].op], .string k] w1 fun e w' => e = .returned (.bool (U[q].hasB' k)) ∧ Below w1.heap.size w1 w') := fun w1 => has_any U[q].lo U[q].hi U[q].op k w1
          have hne : emptyB U[q].lo U[q].hi U[q].op = false := (some_iff _).1 (HP.out.1 U[q] (List.getElem_mem hq1)).1
          have CM : Hid (∀ w1 : World, Calls Tryd.prog 13 #[.agg #[.string U[q].lo, .string U[q].hi, .bool U[q].op]] w1 fun e w' => e = .returned (.bool false) ∧ Below w1.heap.size w1 w') := fun w1 => by have h := empty_any U[q].lo U[q].hi U[q].op w1; rw [hne] at h; exact h
          have NEXT : Hid (∀ (hb : Bool), U[q].hasB' k = hb → x + hb.toNat ≤ 1 ∧ (x + hb.toNat = 1 ↔ ∃ r ∈ U.take (q + 1), r.has k)) := by
            intro hb e1
            have hS : U.take (q + 1) = U.take q ++ [U[q]] := (List.take_append_getElem hq1).symm
            rw [hS]
            simp only [List.mem_append, List.mem_singleton]
            cases hb
            · simp only [Bool.toNat_false, Nat.add_zero]
              refine ⟨hx1, ?_⟩
              rw [hx.out]
              constructor
              · rintro ⟨r', h1, h2⟩; exact ⟨r', .inl h1, h2⟩
              · rintro ⟨r', h1 | h1, h2⟩
                · exact ⟨r', h1, h2⟩
                · rw [h1] at h2; have := (hasB_iff _ _).2 h2; rw [e1] at this; cases this
            · have h1 := (hasB_iff _ _).1 e1
              have hx0 : ¬ x = 1 := by
                rw [hx.out]
                rintro ⟨r', h3, h4⟩
                have hp : (U.take (q + 1)).Pairwise Apart := HP.out.2.sublist (List.take_sublist _ _)
                rw [hS] at hp
                exact apart_not ((List.pairwise_append.1 hp).2.2 r' h3 U[q] (by simp)) h1 h4
              simp only [Bool.toNat_true]
              exact ⟨by omega, ⟨fun _ => ⟨_, .inr rfl, h1⟩, fun _ => by omega⟩⟩
          have APT : Hid (∀ q', q = q' + 1 → ∃ (al ah : ByteArray), w1.cell? ⟨b, o + q' * 3 + 1, none⟩ = some (.string ah) ∧ w1.cell? ⟨b, o + q' * 3 + 2, none⟩ = some (.bool false) ∧ ltB ah U[q].lo = true) := by
            intro q' e
            obtain ⟨b', o', eb, _, _, x1, x2⟩ := HU.out q' (by omega)
            injection eb with eb
            injection eb with eb1 eb2
            subst eb1 eb2
            have ha : Apart (U[q']'(by omega)) U[q] := List.pairwise_iff_getElem.1 HP.out.2 q' q (by omega) hq1 (by omega)
            rw [ha.1] at x2
            exact ⟨⟨#[]⟩, _, x1, x2, ha.2⟩
          clear d0 d1 d2 hne
          generalize U[q] = r at *
          obtain ⟨rl, rh, ro⟩ := r
          dsimp only at a0 a1 a2 CH CM APT
          generalize hhb : Rg.hasB' ⟨rl, rh, ro⟩ k = hb at *
          have NX := NEXT.out hb rfl
          have HNX : Hid (_ ∧ _) := NX
          clear NEXT NX
          have fin : Hid (∀ {w5 w6 : World}, Below wr.heap.size wr w5 → Below w5.heap.size w5 w6 → Below w1.heap.size w1 w6) := fun {w5 w6} h5 h6 => (hn.trans (h5.mono hn.size)).trans (h6.mono (by have := hn.size; have := h5.size; omega))
          rcases Nat.eq_zero_or_pos q with rfl | hq2
          · cases hb
            · simp only [Nat.zero_mul, Nat.add_zero] at a0 a1 a2
              go_wp2_with fail
              refine (CH.out _).mono ?_
              rintro e w5 ⟨rfl, hb5⟩
              have hb5' := hb5.size
              have hbw : b < wr.heap.size := Nat.lt_of_lt_of_le hbB hn.size
              have a0' : ∀ p : InB w5, p.w'.cell? ⟨b, o, none⟩ = some (.string rl) := InB.cell ((hb5.cell (p := ⟨b, _, none⟩) hbw).trans a0) (Nat.lt_of_lt_of_le hbw hb5')
              have a1' : ∀ p : InB w5, p.w'.cell? ⟨b, o + 1, none⟩ = some (.string rh) := InB.cell ((hb5.cell (p := ⟨b, _, none⟩) hbw).trans a1) (Nat.lt_of_lt_of_le hbw hb5')
              have a2' : ∀ p : InB w5, p.w'.cell? ⟨b, o + 2, none⟩ = some (.bool ro) := InB.cell ((hb5.cell (p := ⟨b, _, none⟩) hbw).trans a2) (Nat.lt_of_lt_of_le hbw hb5')
              clear a0 a1 a2
              have ne5 := inB_ne w5
              go_wp2_with fail
              refine wp_region_inB (by kernel_rfl) (by kernel_rfl) ?_
              repeat (go_big_quiet_step ((go_at_call 13; exact Calls.inB (CM.out _))))
              refine wpQuiet_nil ?_
              rintro _ ⟨⟨w6, hb6⟩, rfl⟩
              go_wp2_with fail
              go_roundw
              case rel => exact ⟨0 + 1, _, hq1, HNX.out.1, by go_num, by go_num, HNX.out.2, fin.out hb5 hb6⟩
              case measure => simp [intOf]; omega
            · simp only [Nat.zero_mul, Nat.add_zero] at a0 a1 a2
              go_wp2_with fail
              refine (CH.out _).mono ?_
              rintro e w5 ⟨rfl, hb5⟩
              have hb5' := hb5.size
              have hbw : b < wr.heap.size := Nat.lt_of_lt_of_le hbB hn.size
              have a0' : ∀ p : InB w5, p.w'.cell? ⟨b, o, none⟩ = some (.string rl) := InB.cell ((hb5.cell (p := ⟨b, _, none⟩) hbw).trans a0) (Nat.lt_of_lt_of_le hbw hb5')
              have a1' : ∀ p : InB w5, p.w'.cell? ⟨b, o + 1, none⟩ = some (.string rh) := InB.cell ((hb5.cell (p := ⟨b, _, none⟩) hbw).trans a1) (Nat.lt_of_lt_of_le hbw hb5')
              have a2' : ∀ p : InB w5, p.w'.cell? ⟨b, o + 2, none⟩ = some (.bool ro) := InB.cell ((hb5.cell (p := ⟨b, _, none⟩) hbw).trans a2) (Nat.lt_of_lt_of_le hbw hb5')
              clear a0 a1 a2
              have ne5 := inB_ne w5
              go_wp2_with fail
              refine wp_region_inB (by kernel_rfl) (by kernel_rfl) ?_
              repeat (go_big_quiet_step ((go_at_call 13; exact Calls.inB (CM.out _))))
              refine wpQuiet_nil ?_
              rintro _ ⟨⟨w6, hb6⟩, rfl⟩
              go_wp2_with fail
              go_roundw
              case rel => exact ⟨0 + 1, _, hq1, HNX.out.1, by go_num, by go_num, HNX.out.2, fin.out hb5 hb6⟩
              case measure => simp [intOf]; omega
          · obtain ⟨q', rfl⟩ : ∃ q', q = q' + 1 := ⟨q - 1, by omega⟩
            obtain ⟨al, ah, y1, y2, hlt⟩ := APT.out q' rfl
            have z1 := (hn.cell (p := ⟨b, o + q' * 3 + 1, none⟩) hbB).trans y1
            have z2 := (hn.cell (p := ⟨b, o + q' * 3 + 2, none⟩) hbB).trans y2
            have u1 : Op.bytesLess rl.toList ah.toList = false := ltB_asymm hlt
            have u2 : (rl.toList == ah.toList) = false := by
              rw [beq_eq_false_iff_ne]
              intro e
              unfold ltB at hlt
              rw [e] at hlt
              have := ltB_irrefl ah
              unfold ltB at this
              rw [this] at hlt; cases hlt
            clear y1 y2 APT hlt
            cases hb
            · go_wp2_with fail
              refine (CH.out _).mono ?_
              rintro e w5 ⟨rfl, hb5⟩
              have hb5' := hb5.size
              have hbw : b < wr.heap.size := Nat.lt_of_lt_of_le hbB hn.size
              have a0' : ∀ p : InB w5, p.w'.cell? ⟨b, o + (q' + 1) * 3, none⟩ = some (.string rl) := InB.cell ((hb5.cell (p := ⟨b, _, none⟩) hbw).trans a0) (Nat.lt_of_lt_of_le hbw hb5')
              have a1' : ∀ p : InB w5, p.w'.cell? ⟨b, o + (q' + 1) * 3 + 1, none⟩ = some (.string rh) := InB.cell ((hb5.cell (p := ⟨b, _, none⟩) hbw).trans a1) (Nat.lt_of_lt_of_le hbw hb5')
              have a2' : ∀ p : InB w5, p.w'.cell? ⟨b, o + (q' + 1) * 3 + 2, none⟩ = some (.bool ro) := InB.cell ((hb5.cell (p := ⟨b, _, none⟩) hbw).trans a2) (Nat.lt_of_lt_of_le hbw hb5')
              have z1' : ∀ p : InB w5, p.w'.cell? ⟨b, o + q' * 3 + 1, none⟩ = some (.string ah) := InB.cell ((hb5.cell (p := ⟨b, _, none⟩) hbw).trans z1) (Nat.lt_of_lt_of_le hbw hb5')
              have z2' : ∀ p : InB w5, p.w'.cell? ⟨b, o + q' * 3 + 2, none⟩ = some (.bool false) := InB.cell ((hb5.cell (p := ⟨b, _, none⟩) hbw).trans z2) (Nat.lt_of_lt_of_le hbw hb5')
              clear z1 z2
              clear a0 a1 a2
              have ne5 := inB_ne w5
              go_wp2_with fail
              refine wp_region_inB (by kernel_rfl) (by kernel_rfl) ?_
              repeat (go_big_quiet_step ((go_at_call 13; exact Calls.inB (CM.out _))))
              refine wpQuiet_nil ?_
              rintro _ ⟨⟨w6, hb6⟩, rfl⟩
              go_wp2_with fail
              go_roundw
              case rel => exact ⟨(q' + 1) + 1, _, hq1, HNX.out.1, by go_num, by go_num, HNX.out.2, fin.out hb5 hb6⟩
              case measure => simp [intOf]; omega
            · go_wp2_with fail
              refine (CH.out _).mono ?_
              rintro e w5 ⟨rfl, hb5⟩
              have hb5' := hb5.size
              have hbw : b < wr.heap.size := Nat.lt_of_lt_of_le hbB hn.size
              have a0' : ∀ p : InB w5, p.w'.cell? ⟨b, o + (q' + 1) * 3, none⟩ = some (.string rl) := InB.cell ((hb5.cell (p := ⟨b, _, none⟩) hbw).trans a0) (Nat.lt_of_lt_of_le hbw hb5')
              have a1' : ∀ p : InB w5, p.w'.cell? ⟨b, o + (q' + 1) * 3 + 1, none⟩ = some (.string rh) := InB.cell ((hb5.cell (p := ⟨b, _, none⟩) hbw).trans a1) (Nat.lt_of_lt_of_le hbw hb5')
              have a2' : ∀ p : InB w5, p.w'.cell? ⟨b, o + (q' + 1) * 3 + 2, none⟩ = some (.bool ro) := InB.cell ((hb5.cell (p := ⟨b, _, none⟩) hbw).trans a2) (Nat.lt_of_lt_of_le hbw hb5')
              have z1' : ∀ p : InB w5, p.w'.cell? ⟨b, o + q' * 3 + 1, none⟩ = some (.string ah) := InB.cell ((hb5.cell (p := ⟨b, _, none⟩) hbw).trans z1) (Nat.lt_of_lt_of_le hbw hb5')
              have z2' : ∀ p : InB w5, p.w'.cell? ⟨b, o + q' * 3 + 2, none⟩ = some (.bool false) := InB.cell ((hb5.cell (p := ⟨b, _, none⟩) hbw).trans z2) (Nat.lt_of_lt_of_le hbw hb5')
              clear z1 z2
              clear a0 a1 a2
              have ne5 := inB_ne w5
              go_wp2_with fail
              refine wp_region_inB (by kernel_rfl) (by kernel_rfl) ?_
              repeat (go_big_quiet_step ((go_at_call 13; exact Calls.inB (CM.out _))))
              refine wpQuiet_nil ?_
              rintro _ ⟨⟨w6, hb6⟩, rfl⟩
              go_wp2_with fail
              go_roundw
              case rel => exact ⟨(q' + 1) + 1, _, hq1, HNX.out.1, by go_num, by go_num, HNX.out.2, fin.out hb5 hb6⟩
              case measure => simp [intOf]; omega
    · have hj1 : j < L.length := by omega
      obtain ⟨b, o, rfl, hbB, d0, d1, d2⟩ := HA.out j hj1
      have a0 := (hn.cell (p := ⟨b, o + j * 3, none⟩) hbB).trans d0
      have a1 := (hn.cell (p := ⟨b, o + j * 3 + 1, none⟩) hbB).trans d1
      have a2 := (hn.cell (p := ⟨b, o + j * 3 + 2, none⟩) hbB).trans d2
      have HS : Hid (L.take (j + 1) = L.take j ++ [L[j]]) := (List.take_append_getElem hj1).symm
      have CH : Hid (∀ w1 : World, Calls Tryd.prog 10 #[.agg #[.string L[j].lo, .string L[j].hi, .bool L[j].op], .string k] w1 fun e w' => e = .returned (.bool (L[j].hasB' k)) ∧ Below w1.heap.size w1 w') := fun w1 => has_any L[j].lo L[j].hi L[j].op k w1
      clear d0 d1 d2
      obtain ⟨r, hr⟩ : ∃ r, L[j] = r := ⟨_, rfl⟩
      have HR : Hid (L[j] = r) := hr
      rw [hr] at a0 a1 a2 HS CH
      clear hr
      have NEXT : Hid (∀ (m' : Nat) (hx : Bool), r.hasB' k = hx → m' = m + hx.toNat → (0 < m' ↔ ∃ r ∈ L.take (j + 1), r.hasB' k = true)) := by
        intro m' hx e1 e2
        rw [HS.out, e2]
        simp only [List.mem_append, List.mem_singleton]
        cases hx
        · simp only [Bool.toNat_false, Nat.add_zero]
          rw [hm.out]
          constructor
          · rintro ⟨r', h1, h2⟩; exact ⟨r', .inl h1, h2⟩
          · rintro ⟨r', h1 | h1, h2⟩
            · exact ⟨r', h1, h2⟩
            · rw [h1, e1] at h2; cases h2
        · simp only [Bool.toNat_true]
          exact ⟨fun _ => ⟨r, .inr rfl, e1⟩, fun _ => by omega⟩
      obtain ⟨rl, rh, ro⟩ := r
      dsimp only at a0 a1 a2 CH
      generalize hhx : Rg.hasB' ⟨rl, rh, ro⟩ k = hx at *
      have hbj := NEXT.out _ hx rfl rfl
      have HNX : Hid (_ ↔ _) := hbj
      clear NEXT hbj
      cases hx
      · go_wp2_with fail
        refine (CH.out _).mono ?_
        rintro e w5 ⟨rfl, hb5⟩
        have hn5 : Below w.heap.size w w5 := hn.trans (hb5.mono hn.size)
        clear hn hb5 a0 a1 a2
        go_wp2_with fail
        go_loopw [7] (fun i wr' => ∃ q : Nat, q ≤ j ∧ i = .int .i64 (q : Int) ∧ Below w.heap.size w wr') (fun i _ => j - (intOf i).toNat)
        case atStart => exact ⟨0, Nat.zero_le _, by go_num, hn5⟩
        case round =>
          obtain ⟨q, hq, rfl, hn⟩ := hrel
          by_cases hq0 : q = j
          · subst hq0
            go_wp2_with fail
            go_roundw
            case rel => exact ⟨q + 1, _, hj1, (by simp only [Bool.toNat_false]; omega), by go_num, by go_num, HNX, hn⟩
            case measure => simp [intOf]; omega
          · have hq1 : q < j := by omega
            have hqL : q < L.length := by omega
            obtain ⟨b', o', eb, _, y0, y1, y2⟩ := HA.out q hqL
            injection eb with eb
            injection eb with eb1 eb2
            subst eb1 eb2
            obtain ⟨b'', o'', eb, _, x0, x1, x2⟩ := HA.out j hj1
            injection eb with eb
            injection eb with eb1 eb2
            subst eb1 eb2
            have hbr : b < wr.heap.size := Nat.lt_of_lt_of_le hbB hn.size
            have v0 := (hn.cell (p := ⟨b, o + q * 3, none⟩) hbB).trans y0
            have v1 := (hn.cell (p := ⟨b, o + q * 3 + 1, none⟩) hbB).trans y1
            have v2 := (hn.cell (p := ⟨b, o + q * 3 + 2, none⟩) hbB).trans y2
            have t0 := (hn.cell (p := ⟨b, o + j * 3, none⟩) hbB).trans x0
            have t1 := (hn.cell (p := ⟨b, o + j * 3 + 1, none⟩) hbB).trans x1
            have t2 := (hn.cell (p := ⟨b, o + j * 3 + 2, none⟩) hbB).trans x2
            rw [HR.out] at t0 t1 t2
            dsimp only at t0 t1 t2
            have CQ : Hid (∀ w1 : World, Calls Tryd.prog 10 #[.agg #[.string L[q].lo, .string L[q].hi, .bool L[q].op], .string k] w1 fun e w' => e = .returned (.bool (L[q].hasB' k)) ∧ Below w1.heap.size w1 w') := fun w1 => has_any L[q].lo L[q].hi L[q].op k w1
            clear x0 x1 x2 y0 y1 y2
            generalize L[q] = s at *
            obtain ⟨sl, sh, so⟩ := s
            dsimp only at v0 v1 v2 CQ
            have CB : Hid (∀ w1 : World, Calls _ _ _ _ _) := fun w1 => both_any rl rh ro sl sh so w1
            have CM : Hid (∀ w1 : World, Calls _ _ _ _ _) := fun w1 => meet_any rl rh ro sl sh so w1
            have hbo := both_has rl rh ro sl sh so k
            have hmt : ∀ {a : ByteArray} {b : ByteArray} {c : Bool}, hasB a b c k = true → (!emptyB a b c) = true := fun h => has_meet h
            have e1 : hasB rl rh ro k = false := hhx
            rw [e1] at hbo
            generalize hhy : Rg.hasB' ⟨sl, sh, so⟩ k = hy at *
            have e2 : hasB sl sh so k = hy := hhy
            rw [e2] at hbo
            have CC : Hid (∀ w1 : World, Calls _ _ _ _ _) := fun w1 => has_any (bothR rl rh ro sl sh so).1 (bothR rl rh ro sl sh so).2.1 (bothR rl rh ro sl sh so).2.2 k w1
            rw [hbo] at CC
            have HMT := @hmt (bothR rl rh ro sl sh so).1 (bothR rl rh ro sl sh so).2.1 (bothR rl rh ro sl sh so).2.2
            rw [hbo] at HMT
            clear hmt hbo
            generalize (!emptyB (bothR rl rh ro sl sh so).1 (bothR rl rh ro sl sh so).2.1 (bothR rl rh ro sl sh so).2.2) = mt at *
            generalize (bothR rl rh ro sl sh so).1 = g1 at *
            generalize (bothR rl rh ro sl sh so).2.1 = g2 at *
            generalize (bothR rl rh ro sl sh so).2.2 = g3 at *
            clear hhy e1 e2
            have j0 : (0 : Int) ≤ (j : Int) := by omega
            have j1 : (j : Int) < (L.length : Int) := by omega
            have q0 : (0 : Int) ≤ (q : Int) := by omega
            have q1 : (q : Int) < (L.length : Int) := by omega
            have LAY : Hid (∀ {w6 : World}, Below wr.heap.size wr w6 → (∀ p : InB w6, p.w'.cell? ⟨b, o + j * 3, none⟩ = some (.string rl)) ∧ (∀ p : InB w6, p.w'.cell? ⟨b, o + j * 3 + 1, none⟩ = some (.string rh)) ∧ (∀ p : InB w6, p.w'.cell? ⟨b, o + j * 3 + 2, none⟩ = some (.bool ro)) ∧ (∀ p : InB w6, p.w'.cell? ⟨b, o + q * 3, none⟩ = some (.string sl)) ∧ (∀ p : InB w6, p.w'.cell? ⟨b, o + q * 3 + 1, none⟩ = some (.string sh)) ∧ (∀ p : InB w6, p.w'.cell? ⟨b, o + q * 3 + 2, none⟩ = some (.bool so))) := by
              intro w6 h6
              have hs := Nat.lt_of_lt_of_le hbr h6.size
              exact ⟨InB.cell ((h6.cell (p := ⟨b, _, none⟩) hbr).trans t0) hs, InB.cell ((h6.cell (p := ⟨b, _, none⟩) hbr).trans t1) hs, InB.cell ((h6.cell (p := ⟨b, _, none⟩) hbr).trans t2) hs, InB.cell ((h6.cell (p := ⟨b, _, none⟩) hbr).trans v0) hs, InB.cell ((h6.cell (p := ⟨b, _, none⟩) hbr).trans v1) hs, InB.cell ((h6.cell (p := ⟨b, _, none⟩) hbr).trans v2) hs⟩
            cases hy
            · go_wp2_with fail
              refine (CH.out _).mono ?_
              rintro e w6 ⟨rfl, h6⟩
              obtain ⟨l0, l1, l2, l3, l4, l5⟩ := LAY.out h6
              clear t0 t1 t2 v0 v1 v2
              have ne6 := inB_ne w6
              clear HMT
              go_wp2_with fail
              refine wp_region_inB (by kernel_rfl) (by kernel_rfl) ?_
              repeat (go_big_quiet_step (first | (go_at_call 11; exact Calls.inB (CB.out _)) | (go_at_call 10; exact Calls.inB (CC.out _)) | (go_at_call 12; exact Calls.inB (CM.out _))))
              refine wpQuiet_nil ?_
              rintro _ ⟨⟨w7, hb7⟩, rfl⟩
              go_wp2_with fail
              go_roundw
              case rel => exact ⟨q + 1, hq1, by go_num, (hn.trans (h6.mono hn.size)).trans (hb7.mono (by have := h6.size; have := hn.size; omega))⟩
              case measure => simp [intOf]; omega
            · go_wp2_with fail
              refine (CH.out _).mono ?_
              rintro e w6 ⟨rfl, h6⟩
              obtain ⟨l0, l1, l2, l3, l4, l5⟩ := LAY.out h6
              clear t0 t1 t2 v0 v1 v2
              have ne6 := inB_ne w6
              clear HMT
              go_wp2_with fail
              refine wp_region_inB (by kernel_rfl) (by kernel_rfl) ?_
              repeat (go_big_quiet_step (first | (go_at_call 11; exact Calls.inB (CB.out _)) | (go_at_call 10; exact Calls.inB (CC.out _)) | (go_at_call 12; exact Calls.inB (CM.out _))))
              refine wpQuiet_nil ?_
              rintro _ ⟨⟨w7, hb7⟩, rfl⟩
              go_wp2_with fail
              go_roundw
              case rel => exact ⟨q + 1, hq1, by go_num, (hn.trans (h6.mono hn.size)).trans (hb7.mono (by have := h6.size; have := hn.size; omega))⟩
              case measure => simp [intOf]; omega
      · go_wp2_with fail
        refine (CH.out _).mono ?_
        rintro e w5 ⟨rfl, hb5⟩
        have hn5 : Below w.heap.size w w5 := hn.trans (hb5.mono hn.size)
        clear hn hb5 a0 a1 a2
        go_wp2_with fail
        go_loopw [7] (fun i wr' => ∃ q : Nat, q ≤ j ∧ i = .int .i64 (q : Int) ∧ Below w.heap.size w wr') (fun i _ => j - (intOf i).toNat)
        case atStart => exact ⟨0, Nat.zero_le _, by go_num, hn5⟩
        case round =>
          obtain ⟨q, hq, rfl, hn⟩ := hrel
          by_cases hq0 : q = j
          · subst hq0
            go_wp2_with fail
            go_roundw
            case rel => exact ⟨q + 1, _, hj1, (by simp only [Bool.toNat_true]; omega), by go_num, by go_num, HNX, hn⟩
            case measure => simp [intOf]; omega
          · have hq1 : q < j := by omega
            have hqL : q < L.length := by omega
            obtain ⟨b', o', eb, _, y0, y1, y2⟩ := HA.out q hqL
            injection eb with eb
            injection eb with eb1 eb2
            subst eb1 eb2
            obtain ⟨b'', o'', eb, _, x0, x1, x2⟩ := HA.out j hj1
            injection eb with eb
            injection eb with eb1 eb2
            subst eb1 eb2
            have hbr : b < wr.heap.size := Nat.lt_of_lt_of_le hbB hn.size
            have v0 := (hn.cell (p := ⟨b, o + q * 3, none⟩) hbB).trans y0
            have v1 := (hn.cell (p := ⟨b, o + q * 3 + 1, none⟩) hbB).trans y1
            have v2 := (hn.cell (p := ⟨b, o + q * 3 + 2, none⟩) hbB).trans y2
            have t0 := (hn.cell (p := ⟨b, o + j * 3, none⟩) hbB).trans x0
            have t1 := (hn.cell (p := ⟨b, o + j * 3 + 1, none⟩) hbB).trans x1
            have t2 := (hn.cell (p := ⟨b, o + j * 3 + 2, none⟩) hbB).trans x2
            rw [HR.out] at t0 t1 t2
            dsimp only at t0 t1 t2
            have CQ : Hid (∀ w1 : World, Calls Tryd.prog 10 #[.agg #[.string L[q].lo, .string L[q].hi, .bool L[q].op], .string k] w1 fun e w' => e = .returned (.bool (L[q].hasB' k)) ∧ Below w1.heap.size w1 w') := fun w1 => has_any L[q].lo L[q].hi L[q].op k w1
            clear x0 x1 x2 y0 y1 y2
            generalize L[q] = s at *
            obtain ⟨sl, sh, so⟩ := s
            dsimp only at v0 v1 v2 CQ
            have CB : Hid (∀ w1 : World, Calls _ _ _ _ _) := fun w1 => both_any rl rh ro sl sh so w1
            have CM : Hid (∀ w1 : World, Calls _ _ _ _ _) := fun w1 => meet_any rl rh ro sl sh so w1
            have hbo := both_has rl rh ro sl sh so k
            have hmt : ∀ {a : ByteArray} {b : ByteArray} {c : Bool}, hasB a b c k = true → (!emptyB a b c) = true := fun h => has_meet h
            have e1 : hasB rl rh ro k = true := hhx
            rw [e1] at hbo
            generalize hhy : Rg.hasB' ⟨sl, sh, so⟩ k = hy at *
            have e2 : hasB sl sh so k = hy := hhy
            rw [e2] at hbo
            have CC : Hid (∀ w1 : World, Calls _ _ _ _ _) := fun w1 => has_any (bothR rl rh ro sl sh so).1 (bothR rl rh ro sl sh so).2.1 (bothR rl rh ro sl sh so).2.2 k w1
            rw [hbo] at CC
            have HMT := @hmt (bothR rl rh ro sl sh so).1 (bothR rl rh ro sl sh so).2.1 (bothR rl rh ro sl sh so).2.2
            rw [hbo] at HMT
            clear hmt hbo
            generalize (!emptyB (bothR rl rh ro sl sh so).1 (bothR rl rh ro sl sh so).2.1 (bothR rl rh ro sl sh so).2.2) = mt at *
            generalize (bothR rl rh ro sl sh so).1 = g1 at *
            generalize (bothR rl rh ro sl sh so).2.1 = g2 at *
            generalize (bothR rl rh ro sl sh so).2.2 = g3 at *
            clear hhy e1 e2
            have j0 : (0 : Int) ≤ (j : Int) := by omega
            have j1 : (j : Int) < (L.length : Int) := by omega
            have q0 : (0 : Int) ≤ (q : Int) := by omega
            have q1 : (q : Int) < (L.length : Int) := by omega
            have LAY : Hid (∀ {w6 : World}, Below wr.heap.size wr w6 → (∀ p : InB w6, p.w'.cell? ⟨b, o + j * 3, none⟩ = some (.string rl)) ∧ (∀ p : InB w6, p.w'.cell? ⟨b, o + j * 3 + 1, none⟩ = some (.string rh)) ∧ (∀ p : InB w6, p.w'.cell? ⟨b, o + j * 3 + 2, none⟩ = some (.bool ro)) ∧ (∀ p : InB w6, p.w'.cell? ⟨b, o + q * 3, none⟩ = some (.string sl)) ∧ (∀ p : InB w6, p.w'.cell? ⟨b, o + q * 3 + 1, none⟩ = some (.string sh)) ∧ (∀ p : InB w6, p.w'.cell? ⟨b, o + q * 3 + 2, none⟩ = some (.bool so))) := by
              intro w6 h6
              have hs := Nat.lt_of_lt_of_le hbr h6.size
              exact ⟨InB.cell ((h6.cell (p := ⟨b, _, none⟩) hbr).trans t0) hs, InB.cell ((h6.cell (p := ⟨b, _, none⟩) hbr).trans t1) hs, InB.cell ((h6.cell (p := ⟨b, _, none⟩) hbr).trans t2) hs, InB.cell ((h6.cell (p := ⟨b, _, none⟩) hbr).trans v0) hs, InB.cell ((h6.cell (p := ⟨b, _, none⟩) hbr).trans v1) hs, InB.cell ((h6.cell (p := ⟨b, _, none⟩) hbr).trans v2) hs⟩
            cases hy
            · go_wp2_with fail
              refine (CH.out _).mono ?_
              rintro e w51 ⟨rfl, h51⟩
              have c0 := (h51.cell (p := ⟨b, o + q * 3, none⟩) hbr).trans v0
              have c1 := (h51.cell (p := ⟨b, o + q * 3 + 1, none⟩) hbr).trans v1
              have c2 := (h51.cell (p := ⟨b, o + q * 3 + 2, none⟩) hbr).trans v2
              go_wp2_with fail
              refine (CQ.out _).mono ?_
              rintro e w6 ⟨rfl, h61⟩
              have h6 : Below wr.heap.size wr w6 := h51.trans (h61.mono h51.size)
              clear c0 c1 c2 h51 h61
              obtain ⟨l0, l1, l2, l3, l4, l5⟩ := LAY.out h6
              clear t0 t1 t2 v0 v1 v2
              have ne6 := inB_ne w6
              clear HMT
              go_wp2_with fail
              refine wp_region_inB (by kernel_rfl) (by kernel_rfl) ?_
              repeat (go_big_quiet_step (first | (go_at_call 11; exact Calls.inB (CB.out _)) | (go_at_call 10; exact Calls.inB (CC.out _)) | (go_at_call 12; exact Calls.inB (CM.out _))))
              refine wpQuiet_nil ?_
              rintro _ ⟨⟨w7, hb7⟩, rfl⟩
              go_wp2_with fail
              go_roundw
              case rel => exact ⟨q + 1, hq1, by go_num, (hn.trans (h6.mono hn.size)).trans (hb7.mono (by have := h6.size; have := hn.size; omega))⟩
              case measure => simp [intOf]; omega
            · go_wp2_with fail
              refine (CH.out _).mono ?_
              rintro e w51 ⟨rfl, h51⟩
              have c0 := (h51.cell (p := ⟨b, o + q * 3, none⟩) hbr).trans v0
              have c1 := (h51.cell (p := ⟨b, o + q * 3 + 1, none⟩) hbr).trans v1
              have c2 := (h51.cell (p := ⟨b, o + q * 3 + 2, none⟩) hbr).trans v2
              go_wp2_with fail
              refine (CQ.out _).mono ?_
              rintro e w6 ⟨rfl, h61⟩
              have h6 : Below wr.heap.size wr w6 := h51.trans (h61.mono h51.size)
              clear c0 c1 c2 h51 h61
              obtain ⟨l0, l1, l2, l3, l4, l5⟩ := LAY.out h6
              clear t0 t1 t2 v0 v1 v2
              have ne6 := inB_ne w6
              obtain rfl := HMT rfl
              go_wp2_with fail
              refine wp_region_inB (by kernel_rfl) (by kernel_rfl) ?_
              repeat (go_big_quiet_step (first | (go_at_call 11; exact Calls.inB (CB.out _)) | (go_at_call 10; exact Calls.inB (CC.out _)) | (go_at_call 12; exact Calls.inB (CM.out _))))
              refine wpQuiet_nil ?_
              rintro _ ⟨⟨w7, hb7⟩, rfl⟩
              go_wp2_with fail
              go_roundw
              case rel => exact ⟨q + 1, hq1, by go_num, (hn.trans (h6.mono hn.size)).trans (hb7.mono (by have := h6.size; have := hn.size; omega))⟩
              case measure => simp [intOf]; omega
end Go.Proofs.YtjigmijennbolaaDoor
