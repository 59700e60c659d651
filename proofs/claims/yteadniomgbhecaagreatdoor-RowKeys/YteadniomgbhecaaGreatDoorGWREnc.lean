/- The walks of Encode of rows, on both sides. -/
import Derived.Test.YteadniomgbhecaaGreatDoorGWRowD
import Derived.Test.YteadniomgbhecaaGreatDoorGWColm
namespace Go.Proofs.YteadniomgbhecaaGreatDoor
open Go.RowKit
set_option maxRecDepth 100000

/-- what Encode answers -/
def encR (t : Tb) (l : List Vl) : List UInt8 × Int := if admS t l = 0 then (if (rowB l).length ≤ 65536 then (rowB l, 0) else ([], 3)) else ([], admS t l)
theorem OwnB.conv {w : World} {B : Nat} {v : Value} {bs : List UInt8} (h : OwnB w B v bs) : (convert 48 9 v).run Tryz.prog w = .ok (.string ⟨bs.toArray⟩) w := by
  rcases h.shape with ⟨rfl, rfl⟩ | ⟨g, cap, rfl, _, _, hc⟩
  · rw [Lib.run_convert_nil_bytes w 48 9 5 0 Tryz.underlying48 Tryz.underlying5 Tryz.underlying9]
  · refine run_convert_bytes_back w 48 9 5 ⟨g, 0, none⟩ cap bs Tryz.underlying48 Tryz.underlying5 Tryz.underlying9 ?_
    intro j hj
    have e : (⟨g, 0, none⟩ : Addr).add j = ⟨g, j, none⟩ := by unfold Addr.add; split <;> simp_all
    rw [e]
    exact hc j hj
theorem chk_size {v : Vl} (h : v.chk = 0) : v.s.size ≤ 65536 := by
  unfold Vl.chk chkV at h
  split at h
  · split at h
    · omega
    · omega
  · omega
theorem firstE_all {f : Nat → Int} {n : Nat} (h : firstE f n = 0) : ∀ i, i < n → f i = 0 := by
  intro i hi
  apply Classical.byContradiction
  intro hne
  have hz : ∀ m, m ≤ n → (∀ k, k < m → f k = 0) ∨ ∃ k, k < m ∧ f k ≠ 0 ∧ ∀ t, t < k → f t = 0 := by
    intro m
    induction m with
    | zero => intro _; exact .inl (fun k hk => by omega)
    | succ m ih =>
      intro hm
      rcases ih (by omega) with h1 | ⟨k, h1, h2, h3⟩
      · by_cases hf : f m = 0
        · refine .inl (fun k hk => ?_)
          rcases Nat.lt_or_ge k m with h4 | h4
          · exact h1 k h4
          · have : k = m := by omega
            subst this
            exact hf
        · exact .inr ⟨m, by omega, hf, h1⟩
      · exact .inr ⟨k, by omega, h2, h3⟩
  rcases hz n (Nat.le_refl _) with h1 | ⟨k, h1, h2, h3⟩
  · exact hne (h1 i hi)
  · have := firstE_hit h3 h2 h1
    rw [h] at this
    exact h2 this.symm
theorem admS_ok {t : Tb} {l : List Vl} (h : admS t l = 0) : 1 ≤ l.length ∧ l.length ≤ 64 ∧ ∀ v ∈ l, v.s.size ≤ 65536 := by
  unfold admS at h
  by_cases hc : checkS t = 0
  · rw [if_pos hc] at h
    have hn := checkS_counts t hc
    by_cases hl : l.length = t.cs.length
    · rw [if_pos hl] at h
      refine ⟨by omega, by omega, fun v hv => ?_⟩
      obtain ⟨i, hi, rfl⟩ := List.getElem_of_mem hv
      have h1 := firstE_all h i (by omega)
      rw [admsE_at (by omega) hi] at h1
      unfold admE at h1
      by_cases hk : l[i].chk = 0
      · exact chk_size hk
      · rw [if_neg hk] at h1
        exact absurd h1 hk
    · rw [if_neg hl] at h
      omega
  · rw [if_neg hc] at h
    exact absurd h hc
theorem strE {a b : List UInt8} {c d : Int} (h1 : a = b) (h2 : c = d) : Ending.returned (.tuple #[.string ⟨a.toArray⟩, .int .i64 c]) = Ending.returned (.tuple #[.string ⟨b.toArray⟩, .int .i64 d]) := by rw [h1, h2]

set_option maxHeartbeats 2000000 in
theorem limited_any (B : Nat) (v : Value) (bs : List UInt8) (w : World) (ho : OwnB w B v bs) (hl : bs.length ≤ 1099511627776) :
    Calls Tryz.prog 26 #[v] w fun e w' => e = .returned (.tuple #[.string ⟨(if bs.length ≤ 65536 then bs else []).toArray⟩, .int .i64 (if bs.length ≤ 65536 then 0 else 3)]) ∧ Below w.heap.size w w' := by
  have hconv := ho.conv
  obtain ⟨p, c, rfl⟩ := ho.len
  clear ho
  obtain ⟨n, hn⟩ : ∃ n, bs.length = n := ⟨_, rfl⟩
  rw [hn] at hconv hl ⊢
  clear hn
  rcases Nat.lt_or_ge 65536 n with h | h
  · rw [if_neg (by omega), if_neg (by omega)]
    clear hconv
    go_enter Tryz.func26, Tryz.ntmps26
    go_wp2
    go_ret2
    exact ⟨rfl, Below.refl _ _⟩
  · rw [if_pos h, if_pos h]
    go_enter Tryz.func26, Tryz.ntmps26
    go_wp2
    go_ret2
    exact ⟨rfl, Below.refl _ _⟩

set_option maxHeartbeats 4000000 in
theorem rowEncode_any (t : Tb) (a : TabP) (l : List Vl) (p : Option Addr) (cl : Nat) (w : World) (hV : TabV w w.heap.size t a) (hok : t.ok) (hR : RowV w w.heap.size p l) (hvo : ∀ v ∈ l, v.ok) (hll : l.length ≤ 17592186043904) (hE : Env w) :
    Calls Tryz.prog 16 #[a.val t, .slice p l.length cl] w fun e w' => e = .returned (.tuple #[.string ⟨(encR t l).1.toArray⟩, .int .i64 (encR t l).2]) ∧ Below w.heap.size w w' := by
  obtain ⟨pc, cc, pk, ck, px, cx, pr, cr⟩ := a
  have CC : Hid (∀ w1, Below w.heap.size w w1 → Calls Tryz.prog 9 #[.agg #[.string t.nm, .slice pc t.cs.length cc, .slice pk t.key.length ck, .slice px t.ix.length cx, .slice pr t.rf.length cr], .slice p l.length cl] w1 fun e w' => e = .returned (.int .i64 (admS t l)) ∧ Below w1.heap.size w1 w') := fun w1 hb => admits_any t ⟨pc, cc, pk, ck, px, cx, pr, cr⟩ l p cl w1 (hV.on hb) hok ((hR.keep hb).mono hb.size) hvo hll (hE.on hb)
  have hb0 : Below w.heap.size w (w.alloc (.cells #[.string t.nm, .slice pc t.cs.length cc, .slice pk t.key.length ck, .slice px t.ix.length cx, .slice pr t.rf.length cr] 27)) := by go_grown
  have HF : Hid (encR t l = if admS t l = 0 then (if (rowB l).length ≤ 65536 then (rowB l, 0) else ([], 3)) else ([], admS t l)) := rfl
  have HOK : Hid (admS t l = 0 → 1 ≤ l.length ∧ l.length ≤ 64 ∧ ∀ v ∈ l, v.s.size ≤ 65536) := admS_ok
  have HA : Hid (RowV w w.heap.size p l ∧ ∀ v ∈ l, v.ok) := ⟨hR, hvo⟩
  clear hV hok hR hvo hE
  generalize encR t l = d at *
  unfold TabP.val
  by_cases hch : admS t l = 0
  · obtain ⟨h1, h64, hsz⟩ := HOK.out hch
    rw [hch] at CC HF
    rw [if_pos rfl] at HF
    have hrl : (rowB l).length ≤ 1099511627776 := by
      have h2 := flat_len l hsz
      unfold rowB
      rw [List.length_append, packK_len]
      omega
    have CR : Hid (∀ w1, Below w.heap.size w w1 → Calls Tryz.prog 27 #[.slice none 0 0, .slice p l.length cl] w1 fun e w' => ∃ v', e = .returned v' ∧ OwnB w' w1.heap.size v' (rowB l) ∧ Below w1.heap.size w1 w') := fun w1 hb => appendRow_nil l p cl w1 ((HA.out.1.keep hb).mono hb.size) (fun v hv => ⟨HA.out.2 v hv, hsz v hv⟩) h1 h64
    have CL : Hid (∀ (B : Nat) (v : Value) (w1 : World), OwnB w1 B v (rowB l) → Calls Tryz.prog 26 #[v] w1 fun e w' => e = .returned (.tuple #[.string ⟨d.1.toArray⟩, .int .i64 d.2]) ∧ Below w1.heap.size w1 w') := fun B v w1 h => by
      have h2 := limited_any B v (rowB l) w1 h hrl
      have e1 : d.1 = if (rowB l).length ≤ 65536 then rowB l else [] := by rw [HF.out]; split <;> rfl
      have e2 : d.2 = if (rowB l).length ≤ 65536 then 0 else 3 := by rw [HF.out]; split <;> rfl
      rw [e1, e2]
      exact h2
    clear hch HOK hsz hrl HF
    obtain ⟨d1, d2⟩ := d
    dsimp only at CL ⊢
    go_enter Tryz.func16, Tryz.ntmps16
    go_wp2_with fail
    refine (CC.out _ hb0).mono ?_
    rintro e w1 ⟨rfl, hb1⟩
    have h01 : Below w.heap.size w w1 := hb0.trans (hb1.mono hb0.size)
    clear CC hb1 hb0
    go_wp2_with fail
    refine (CR.out _ h01).mono ?_
    rintro e w2 ⟨v2, rfl, hO2, hb2⟩
    go_wp2_with fail
    refine (CL.out _ _ _ hO2).mono ?_
    rintro e w3 ⟨rfl, hb3⟩
    have h02 : Below w.heap.size w w2 := h01.trans (hb2.mono h01.size)
    go_wp2
    go_ret2
    exact ⟨rfl, h02.trans (hb3.mono h02.size)⟩
  · rw [if_neg hch] at HF
    generalize admS t l = ch at *
    have hch' : (ch != 0) = true := by simpa using hch
    have h1 := congrArg Prod.fst HF.out
    have h2 := congrArg Prod.snd HF.out
    have H12 : Hid (d.1 = [] ∧ d.2 = ch) := ⟨h1, h2⟩
    clear h1 h2 HF HOK
    go_enter Tryz.func16, Tryz.ntmps16
    go_wp2_with fail
    refine (CC.out _ hb0).mono ?_
    rintro e w1 ⟨rfl, hb1⟩
    go_wp2
    go_ret2
    exact ⟨strE H12.out.1.symm H12.out.2.symm, hb0.trans (hb1.mono hb0.size)⟩



end Go.Proofs.YteadniomgbhecaaGreatDoor
