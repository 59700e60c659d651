/- The walks of Encode of rows, on both sides. The walk of what each statement of layer 4 asks besides: the layer answers; and of the statement on Encode. -/
import Derived.Test.YtgnedioggpgeeaaDoorGWRowD
import Derived.Test.YtgnedioggpgeeaaDoorGWAdmits
namespace Go.Proofs.YtgnedioggpgeeaaDoor
open Go.RowKit
set_option maxRecDepth 100000

/-- what Encode answers -/
def encR (t : Tb) (l : List Vl) : List UInt8 × Int := if admS t l = 0 then (if (rowB l).length ≤ 65536 then (rowB l, 0) else ([], 3)) else ([], admS t l)
theorem OwnB.conv {w : World} {B : Nat} {v : Value} {bs : List UInt8} (h : OwnB w B v bs) : (convert 43 9 v).run Tryd.prog w = .ok (.string ⟨bs.toArray⟩) w := by
  rcases h.shape with ⟨rfl, rfl⟩ | ⟨g, cap, rfl, _, _, hc⟩
  · rw [Lib.run_convert_nil_bytes w 43 9 5 0 Tryd.underlying43 Tryd.underlying5 Tryd.underlying9]
  · refine run_convert_bytes_back w 43 9 5 ⟨g, 0, none⟩ cap bs Tryd.underlying43 Tryd.underlying5 Tryd.underlying9 ?_
    intro j hj
    have e : (⟨g, 0, none⟩ : Addr).add j = ⟨g, j, none⟩ := by unfold Addr.add; split <;> simp_all
    rw [e]
    exact hc j hj
theorem chk_size {v : Vl} (h : v.chk = 0) : v.s.size ≤ 65536 := by
  unfold Vl.chk chkV at h
  split at h
  · split at h
    · omega
    · omega
  · omega
theorem firstE_all {f : Nat → Int} {n : Nat} (h : firstE f n = 0) : ∀ i, i < n → f i = 0 := by
  intro i hi
  apply Classical.byContradiction
  intro hne
  have hz : ∀ m, m ≤ n → (∀ k, k < m → f k = 0) ∨ ∃ k, k < m ∧ f k ≠ 0 ∧ ∀ t, t < k → f t = 0 := by
    intro m
    induction m with
    | zero => intro _; exact .inl (fun k hk => by omega)
    | succ m ih =>
      intro hm
      rcases ih (by omega) with h1 | ⟨k, h1, h2, h3⟩
      · by_cases hf : f m = 0
        · refine .inl (fun k hk => ?_)
          rcases Nat.lt_or_ge k m with h4 | h4
          · exact h1 k h4
          · have : k = m := by omega
            subst this
            exact hf
        · exact .inr ⟨m, by omega, hf, h1⟩
      · exact .inr ⟨k, by omega, h2, h3⟩
  rcases hz n (Nat.le_refl _) with h1 | ⟨k, h1, h2, h3⟩
  · exact hne (h1 i hi)
  · have := firstE_hit h3 h2 h1
    rw [h] at this
    exact h2 this.symm
theorem admS_ok {t : Tb} {l : List Vl} (h : admS t l = 0) : 1 ≤ l.length ∧ l.length ≤ 64 ∧ ∀ v ∈ l, v.s.size ≤ 65536 := by
  unfold admS at h
  by_cases hc : checkS t = 0
  · rw [if_pos hc] at h
    have hn := checkS_counts t hc
    by_cases hl : l.length = t.cs.length
    · rw [if_pos hl] at h
      refine ⟨by omega, by omega, fun v hv => ?_⟩
      obtain ⟨i, hi, rfl⟩ := List.getElem_of_mem hv
      have h1 := firstE_all h i (by omega)
      rw [admsE_at (by omega) hi] at h1
      unfold admE at h1
      by_cases hk : l[i].chk = 0
      · exact chk_size hk
      · rw [if_neg hk] at h1
        exact absurd h1 hk
    · rw [if_neg hl] at h
      omega
  · rw [if_neg hc] at h
    exact absurd h hc
theorem strE {a b : List UInt8} {c d : Int} (h1 : a = b) (h2 : c = d) : Ending.returned (.tuple #[.string ⟨a.toArray⟩, .int .i64 c]) = Ending.returned (.tuple #[.string ⟨b.toArray⟩, .int .i64 d]) := by rw [h1, h2]

set_option maxHeartbeats 2000000 in
theorem limited_any (B : Nat) (v : Value) (bs : List UInt8) (w : World) (ho : OwnB w B v bs) (hl : bs.length ≤ 1099511627776) :
    Calls Tryd.prog 17 #[v] w fun e w' => e = .returned (.tuple #[.string ⟨(if bs.length ≤ 65536 then bs else []).toArray⟩, .int .i64 (if bs.length ≤ 65536 then 0 else 3)]) ∧ Below w.heap.size w w' := by
  have hconv := ho.conv
  obtain ⟨p, c, rfl⟩ := ho.len
  clear ho
  obtain ⟨n, hn⟩ : ∃ n, bs.length = n := ⟨_, rfl⟩
  rw [hn] at hconv hl ⊢
  clear hn
  rcases Nat.lt_or_ge 65536 n with h | h
  · rw [if_neg (by omega), if_neg (by omega)]
    clear hconv
    go_enter Tryd.func17, Tryd.ntmps17
    go_wp2
    go_ret2
    exact ⟨rfl, Below.refl _ _⟩
  · rw [if_pos h, if_pos h]
    go_enter Tryd.func17, Tryd.ntmps17
    go_wp2
    go_ret2
    exact ⟨rfl, Below.refl _ _⟩

set_option maxHeartbeats 4000000 in
theorem rowEncode_any (t : Tb) (a : TabP) (l : List Vl) (p : Option Addr) (cl : Nat) (w : World) (hV : TabV w w.heap.size t a) (hok : t.ok) (hR : RowV w w.heap.size p l) (hvo : ∀ v ∈ l, v.ok) (hll : l.length ≤ 17592186043904) (hE : Env w) :
    Calls Tryd.prog 7 #[a.val t, .slice p l.length cl] w fun e w' => e = .returned (.tuple #[.string ⟨(encR t l).1.toArray⟩, .int .i64 (encR t l).2]) ∧ Below w.heap.size w w' := by
  obtain ⟨pc, cc, pk, ck, px, cx, pr, cr⟩ := a
  have CC : Hid (∀ w1, Below w.heap.size w w1 → Calls Tryd.prog 16 #[.agg #[.string t.nm, .slice pc t.cs.length cc, .slice pk t.key.length ck, .slice px t.ix.length cx, .slice pr t.rf.length cr], .slice p l.length cl] w1 fun e w' => e = .returned (.int .i64 (admS t l)) ∧ Below w1.heap.size w1 w') := fun w1 hb => admits_any t ⟨pc, cc, pk, ck, px, cx, pr, cr⟩ l p cl w1 (hV.on hb) hok ((hR.keep hb).mono hb.size) hvo hll (hE.on hb)
  have hb0 : Below w.heap.size w (w.alloc (.cells #[.string t.nm, .slice pc t.cs.length cc, .slice pk t.key.length ck, .slice px t.ix.length cx, .slice pr t.rf.length cr] 27)) := by go_grown
  have HF : Hid (encR t l = if admS t l = 0 then (if (rowB l).length ≤ 65536 then (rowB l, 0) else ([], 3)) else ([], admS t l)) := rfl
  have HOK : Hid (admS t l = 0 → 1 ≤ l.length ∧ l.length ≤ 64 ∧ ∀ v ∈ l, v.s.size ≤ 65536) := admS_ok
  have HA : Hid (RowV w w.heap.size p l ∧ ∀ v ∈ l, v.ok) := ⟨hR, hvo⟩
  clear hV hok hR hvo hE
  generalize encR t l = d at *
  unfold TabP.val
  by_cases hch : admS t l = 0
  · obtain ⟨h1, h64, hsz⟩ := HOK.out hch
    rw [hch] at CC HF
    rw [if_pos rfl] at HF
    have hrl : (rowB l).length ≤ 1099511627776 := by
      have h2 := flat_len l hsz
      unfold rowB
      rw [List.length_append, packK_len]
      omega
    have CR : Hid (∀ w1, Below w.heap.size w w1 → Calls Tryd.prog 18 #[.slice none 0 0, .slice p l.length cl] w1 fun e w' => ∃ v', e = .returned v' ∧ OwnB w' w1.heap.size v' (rowB l) ∧ Below w1.heap.size w1 w') := fun w1 hb => appendRow_nil l p cl w1 ((HA.out.1.keep hb).mono hb.size) (fun v hv => ⟨HA.out.2 v hv, hsz v hv⟩) h1 h64
    have CL : Hid (∀ (B : Nat) (v : Value) (w1 : World), OwnB w1 B v (rowB l) → Calls Tryd.prog 17 #[v] w1 fun e w' => e = .returned (.tuple #[.string ⟨d.1.toArray⟩, .int .i64 d.2]) ∧ Below w1.heap.size w1 w') := fun B v w1 h => by
      have h2 := limited_any B v (rowB l) w1 h hrl
      have e1 : d.1 = if (rowB l).length ≤ 65536 then rowB l else [] := by rw [HF.out]; split <;> rfl
      have e2 : d.2 = if (rowB l).length ≤ 65536 then 0 else 3 := by rw [HF.out]; split <;> rfl
      rw [e1, e2]
      exact h2
    clear hch HOK hsz hrl HF
    obtain ⟨d1, d2⟩ := d
    dsimp only at CL ⊢
    go_enter Tryd.func7, Tryd.ntmps7
    go_wp2_with fail
    refine (CC.out _ hb0).mono ?_
    rintro e w1 ⟨rfl, hb1⟩
    have h01 : Below w.heap.size w w1 := hb0.trans (hb1.mono hb0.size)
    clear CC hb1 hb0
    go_wp2_with fail
    refine (CR.out _ h01).mono ?_
    rintro e w2 ⟨v2, rfl, hO2, hb2⟩
    go_wp2_with fail
    refine (CL.out _ _ _ hO2).mono ?_
    rintro e w3 ⟨rfl, hb3⟩
    have h02 : Below w.heap.size w w2 := h01.trans (hb2.mono h01.size)
    go_wp2
    go_ret2
    exact ⟨rfl, h02.trans (hb3.mono h02.size)⟩
  · rw [if_neg hch] at HF
    generalize admS t l = ch at *
    have hch' : (ch != 0) = true := by simpa using hch
    have h1 := congrArg Prod.fst HF.out
    have h2 := congrArg Prod.snd HF.out
    have H12 : Hid (d.1 = [] ∧ d.2 = ch) := ⟨h1, h2⟩
    clear h1 h2 HF HOK
    go_enter Tryd.func7, Tryd.ntmps7
    go_wp2_with fail
    refine (CC.out _ hb0).mono ?_
    rintro e w1 ⟨rfl, hb1⟩
    go_wp2
    go_ret2
    exact ⟨strE H12.out.1.symm H12.out.2.symm, hb0.trans (hb1.mono hb0.size)⟩

set_option maxHeartbeats 4000000 in
theorem rrEncode_any (t : Tb) (a : TabP) (l : List Vl) (p : Option Addr) (cl : Nat) (w : World) (hV : TabV w w.heap.size t a) (hok : t.ok) (hR : RowV w w.heap.size p l) (hvo : ∀ v ∈ l, v.ok) (hll : l.length ≤ 17592186043904) (hE : Env w) :
    Calls Tryd.prog 8 #[a.val t, .slice p l.length cl] w fun e w' => e = .returned (.tuple #[.string ⟨(encR t l).1.toArray⟩, .int .i64 (encR t l).2]) ∧ Below w.heap.size w w' := by
  obtain ⟨pc, cc, pk, ck, px, cx, pr, cr⟩ := a
  have CC : Hid (∀ w1, Below w.heap.size w w1 → Calls Tryd.prog 19 #[.agg #[.string t.nm, .slice pc t.cs.length cc, .slice pk t.key.length ck, .slice px t.ix.length cx, .slice pr t.rf.length cr], .slice p l.length cl] w1 fun e w' => e = .returned (.int .i64 (admS t l)) ∧ Below w1.heap.size w1 w') := fun w1 hb => radmits_any t ⟨pc, cc, pk, ck, px, cx, pr, cr⟩ l p cl w1 (hV.on hb) hok ((hR.keep hb).mono hb.size) hvo hll (hE.on hb)
  have hb0 : Below w.heap.size w (w.alloc (.cells #[.string t.nm, .slice pc t.cs.length cc, .slice pk t.key.length ck, .slice px t.ix.length cx, .slice pr t.rf.length cr] 27)) := by go_grown
  have HF : Hid (encR t l = if admS t l = 0 then (if (rowB l).length ≤ 65536 then (rowB l, 0) else ([], 3)) else ([], admS t l)) := rfl
  have HOK : Hid (admS t l = 0 → 1 ≤ l.length ∧ l.length ≤ 64 ∧ ∀ v ∈ l, v.s.size ≤ 65536) := admS_ok
  have HA : Hid (RowV w w.heap.size p l ∧ ∀ v ∈ l, v.ok) := ⟨hR, hvo⟩
  clear hV hok hR hvo hE
  generalize encR t l = d at *
  unfold TabP.val
  by_cases hch : admS t l = 0
  · obtain ⟨h1, h64, hsz⟩ := HOK.out hch
    rw [hch] at CC HF
    rw [if_pos rfl] at HF
    have hrl : (rowB l).length ≤ 1099511627776 := by
      have h2 := flat_len l hsz
      unfold rowB
      rw [List.length_append, packK_len]
      omega
    have CR : Hid (∀ w1, Below w.heap.size w w1 → Calls Tryd.prog 20 #[.slice p l.length cl] w1 fun e w' => ∃ v', e = .returned v' ∧ OwnB w' w1.heap.size v' (rowB l) ∧ Below w1.heap.size w1 w') := fun w1 hb => bytesOf_any l p cl w1 ((HA.out.1.keep hb).mono hb.size) (fun v hv => ⟨HA.out.2 v hv, hsz v hv⟩) h1 h64
    clear hch HOK hsz
    generalize rowB l = R at *
    go_enter Tryd.func8, Tryd.ntmps8
    go_wp2_with fail
    refine (CC.out _ hb0).mono ?_
    rintro e w1 ⟨rfl, hb1⟩
    have h01 : Below w.heap.size w w1 := hb0.trans (hb1.mono hb0.size)
    clear CC hb1 hb0
    go_wp2_with fail
    refine (CR.out _ h01).mono ?_
    rintro e w2 ⟨v2, rfl, hO2, hb2⟩
    have h02 : Below w.heap.size w w2 := h01.trans (hb2.mono h01.size)
    have hconv := hO2.conv
    obtain ⟨q2, c2, rfl⟩ := hO2.len
    clear hO2 hb2
    obtain ⟨n, hn⟩ : ∃ n, R.length = n := ⟨_, rfl⟩
    rw [hn] at hconv hrl HF ⊢
    clear hn
    rcases Nat.lt_or_ge 65536 n with h | h
    · rw [if_neg (by omega)] at HF
      have H12 : Hid (d.1 = [] ∧ d.2 = 3) := ⟨congrArg Prod.fst HF.out, congrArg Prod.snd HF.out⟩
      clear hconv HF
      go_wp2
      go_ret2
      exact ⟨strE H12.out.1.symm H12.out.2.symm, h02⟩
    · rw [if_pos h] at HF
      have H12 : Hid (d.1 = R ∧ d.2 = 0) := ⟨congrArg Prod.fst HF.out, congrArg Prod.snd HF.out⟩
      clear HF
      go_wp2
      go_ret2
      exact ⟨strE H12.out.1.symm H12.out.2.symm, h02⟩
  · rw [if_neg hch] at HF
    generalize admS t l = ch at *
    have hch' : (ch != 0) = true := by simpa using hch
    have H12 : Hid (d.1 = [] ∧ d.2 = ch) := ⟨congrArg Prod.fst HF.out, congrArg Prod.snd HF.out⟩
    clear HF HOK
    go_enter Tryd.func8, Tryd.ntmps8
    go_wp2_with fail
    refine (CC.out _ hb0).mono ?_
    rintro e w1 ⟨rfl, hb1⟩
    go_wp2
    go_ret2
    exact ⟨strE H12.out.1.symm H12.out.2.symm, hb0.trans (hb1.mono hb0.size)⟩
end Go.Proofs.YtgnedioggpgeeaaDoor

namespace Go.Proofs.YtgnedioggpgeeaaDoor
open Go.RowKit
set_option maxRecDepth 100000

def c4a : Cl := ⟨⟨#[97]⟩, 2, false, ⟨0, 0, 0, ⟨#[]⟩⟩⟩
def c4b : Cl := ⟨⟨#[98]⟩, 4, true, ⟨0, 0, 0, ⟨#[]⟩⟩⟩
def T4 : Tb := ⟨⟨#[116]⟩, [c4a, c4b], [0], [], []⟩
def v4a : Vl := ⟨2, 5, 0, ⟨#[]⟩⟩
def v4b : Vl := ⟨4, 0, 0, ⟨#[97]⟩⟩
theorem T4_ok : T4.ok := by
  refine ⟨by decide, by decide, ?_, by decide, by decide, (fun _ h => by cases h), by decide, (fun _ h => by cases h)⟩
  intro c hc
  have e : c = c4a ∨ c = c4b := by simpa [T4] using hc
  rcases e with rfl | rfl
  · exact ⟨by decide, ⟨by decide, by decide⟩, ⟨by decide, by decide⟩, by decide, by decide⟩
  · exact ⟨by decide, ⟨by decide, by decide⟩, ⟨by decide, by decide⟩, by decide, by decide⟩
theorem v4_ok : ∀ v ∈ [v4a, v4b], v.ok := by
  intro v hv
  have e : v = v4a ∨ v = v4b := by simpa using hv
  rcases e with rfl | rfl
  · exact ⟨⟨by decide, by decide⟩, ⟨by decide, by decide⟩, by decide, by decide⟩
  · exact ⟨⟨by decide, by decide⟩, ⟨by decide, by decide⟩, by decide, by decide⟩
theorem enc4 : encR T4 [v4a, v4b] = ([5, 10, 1, 97], 0) := by decide +kernel

set_option maxHeartbeats 4000000 in
theorem small4_any (w : World) : Calls Tryd.prog 21 #[] w fun e w' => ∃ a : TabP, e = .returned (a.val T4) ∧ TabV w' w'.heap.size T4 a ∧ Below w.heap.size w w' := by
  have hsf := run_store_float
  go_enter Tryd.func21, Tryd.ntmps21
  go_wp2
  refine bodyPost_ret (v := (⟨some ⟨w.heap.size + 1, 0, none⟩, 2, some ⟨w.heap.size + 1 + 1, 0, none⟩, 1, none, 0, none, 0⟩ : TabP).val T4) (by simp [results, Tryd.results21, go_sem, TabP.val, T4]) rfl ?_
  refine ⟨_, rfl, ⟨?_, ?_, fun _ h => absurd h (by simp [T4]), fun _ h => absurd h (by simp [T4]), Nat.le_refl 2, Nat.le_refl 0⟩, by go_grown⟩
  · intro i hi
    have hi0 : i = 0 ∨ i = 1 := by
      have : i < 2 := by simpa [T4] using hi
      omega
    rcases hi0 with rfl | rfl
    · refine ⟨w.heap.size + 1, 0, rfl, by simp, ?_, ?_, ?_, ?_, ?_, ?_, ?_⟩ <;> simp [go_sem, T4, c4a]
    · refine ⟨w.heap.size + 1, 0, rfl, by simp, ?_, ?_, ?_, ?_, ?_, ?_, ?_⟩ <;> simp [go_sem, T4, c4b]
  · intro i hi
    have hi0 : i = 0 := by simpa [T4] using hi
    subst hi0
    refine ⟨w.heap.size + 1 + 1, 0, rfl, by simp, ?_⟩
    simp [go_sem, T4]

set_option maxHeartbeats 4000000 in
theorem awake4 (w : World) (hE : Env w) : Calls Tryd.prog 9 #[] w fun e w' => e = .returned (.bool true) ∧ Below w.heap.size w w' := by
  have C1 : Hid (∀ w1 : World, Calls Tryd.prog 21 #[] w1 fun e w' => ∃ a : TabP, e = .returned (a.val T4) ∧ TabV w' w'.heap.size T4 a ∧ Below w1.heap.size w1 w') := fun w1 => small4_any w1
  have C2 : Hid (∀ (a : TabP) (p : Option Addr) (c : Nat) (w1 : World), Below w.heap.size w w1 → TabV w1 w1.heap.size T4 a → RowV w1 w1.heap.size p [v4a, v4b] → Calls Tryd.prog 7 #[a.val T4, .slice p 2 c] w1 fun e w' => e = .returned (.tuple #[.string ⟨#[5, 10, 1, 97]⟩, .int .i64 0]) ∧ Below w1.heap.size w1 w') := fun a p c w1 hb h h2 => by
    have h3 := rowEncode_any T4 a [v4a, v4b] p c w1 h T4_ok h2 v4_ok (by decide) (hE.on hb)
    rw [enc4] at h3
    exact h3
  clear hE
  go_enter Tryd.func9, Tryd.ntmps9
  go_wp2_with fail
  refine (C1.out _).mono ?_
  rintro e w1 ⟨a1, rfl, hV1, hb1⟩
  go_wp2_with fail
  have hba : Below w1.heap.size w1 (w1.alloc (.cells #[.int .i64 2, .int .i64 5, .float .f64 0, .string ⟨#[]⟩, .int .i64 4, .int .i64 0, .float .f64 0, .string ⟨#[97]⟩] 49)) := by go_grown
  have h02 : Below w.heap.size w (w1.alloc (.cells #[.int .i64 2, .int .i64 5, .float .f64 0, .string ⟨#[]⟩, .int .i64 4, .int .i64 0, .float .f64 0, .string ⟨#[97]⟩] 49)) := hb1.trans (hba.mono hb1.size)
  refine (C2.out a1 (some ⟨w1.heap.size, 0, none⟩) 2 _ h02 (hV1.on hba) ?_).mono ?_
  · intro i hi
    have hi0 : i = 0 ∨ i = 1 := by
      have : i < 2 := by simpa using hi
      omega
    rcases hi0 with rfl | rfl
    · refine ⟨w1.heap.size, 0, rfl, by simp, ?_, ?_, ?_, ?_⟩ <;> simp [go_sem, v4a]
    · refine ⟨w1.heap.size, 0, rfl, by simp, ?_, ?_, ?_, ?_⟩ <;> simp [go_sem, v4b]
  rintro e w3 ⟨rfl, hb3⟩
  go_wp2
  go_ret
  exact ⟨rfl, h02.trans (hb3.mono h02.size)⟩

set_option maxHeartbeats 4000000 in
theorem lawREnc (t : Tb) (a : TabP) (l : List Vl) (p : Option Addr) (cl : Nat) (w : World) (hV : TabV w w.heap.size t a) (hok : t.ok) (hR : RowV w w.heap.size p l) (hvo : ∀ v ∈ l, v.ok) (hll : l.length ≤ 3518437208784) (hE : Env w) :
    Calls Tryd.prog 3 #[a.val t, .slice p l.length cl] w fun e w' => e = .returned (.bool true) ∧ Below w.heap.size w w' := by
  obtain ⟨pc, cc, pk, ck, px, cx, pr, cr⟩ := a
  have hl2 : l.length ≤ 17592186043904 := by omega
  have hb0 : Below w.heap.size w (w.alloc (.cells #[.string t.nm, .slice pc t.cs.length cc, .slice pk t.key.length ck, .slice px t.ix.length cx, .slice pr t.rf.length cr] 27)) := by go_grown
  have HB : Hid (BoxT _ _ _ _) := BoxT.new w t ⟨pc, cc, pk, ck, px, cx, pr, cr⟩
  have C1 : Hid (∀ w2 : World, Below w.heap.size w w2 → Calls Tryd.prog 7 #[.agg #[.string t.nm, .slice pc t.cs.length cc, .slice pk t.key.length ck, .slice px t.ix.length cx, .slice pr t.rf.length cr], .slice p l.length cl] w2 fun e w' => e = .returned (.tuple #[.string ⟨(encR t l).1.toArray⟩, .int .i64 (encR t l).2]) ∧ Below w2.heap.size w2 w') := fun w2 hb => rowEncode_any t ⟨pc, cc, pk, ck, px, cx, pr, cr⟩ l p cl w2 (hV.on hb) hok ((hR.keep hb).mono hb.size) hvo hl2 (hE.on hb)
  have C2 : Hid (∀ w2 : World, Below w.heap.size w w2 → Calls Tryd.prog 8 #[.agg #[.string t.nm, .slice pc t.cs.length cc, .slice pk t.key.length ck, .slice px t.ix.length cx, .slice pr t.rf.length cr], .slice p l.length cl] w2 fun e w' => e = .returned (.tuple #[.string ⟨(encR t l).1.toArray⟩, .int .i64 (encR t l).2]) ∧ Below w2.heap.size w2 w') := fun w2 hb => rrEncode_any t ⟨pc, cc, pk, ck, px, cx, pr, cr⟩ l p cl w2 (hV.on hb) hok ((hR.keep hb).mono hb.size) hvo hl2 (hE.on hb)
  have CW : Hid (∀ w2 : World, Below w.heap.size w w2 → Calls Tryd.prog 9 #[] w2 fun e w' => e = .returned (.bool true) ∧ Below w2.heap.size w2 w') := fun w2 hb => awake4 w2 (hE.on hb)
  clear hV hok hR hvo hll hE hl2
  obtain ⟨d1, d2, hd⟩ : ∃ x y, (⟨(encR t l).1.toArray⟩ : ByteArray) = x ∧ (encR t l).2 = y := ⟨_, _, rfl, rfl⟩
  rw [hd.1, hd.2] at C1 C2
  clear hd
  unfold TabP.val
  go_enter Tryd.func3, Tryd.ntmps3
  go_wp2_with fail
  refine (C1.out _ hb0).mono ?_
  rintro e w1 ⟨rfl, hb1⟩
  have h01 : Below w.heap.size w w1 := hb0.trans (hb1.mono hb0.size)
  have HB1 : Hid (BoxT w1 w.heap.size t ⟨pc, cc, pk, ck, px, cx, pr, cr⟩) := HB.out.on hb1 (by simp)
  obtain ⟨hz1, e0, e1, e2, e3, e4⟩ := HB1.out
  dsimp only at e0 e1 e2 e3 e4
  clear hb0 HB hb1
  go_wp2_with fail
  refine (C2.out _ h01).mono ?_
  rintro e w2 ⟨rfl, hb2⟩
  have h02 : Below w.heap.size w w2 := h01.trans (hb2.mono h01.size)
  go_wp2_with fail
  refine (CW.out _ h02).mono ?_
  rintro e w3 ⟨rfl, hb3⟩
  go_wp2
  go_ret
  exact ⟨rfl, h02.trans (hb3.mono h02.size)⟩
end Go.Proofs.YtgnedioggpgeeaaDoor
