/- The walks of Encode of rows, on both sides. slices.Clone of values. -/
import Derived.Test.YtinlgaefgedmcaaGreatDoorGWRowD
import Derived.Test.YtinlgaefgedmcaaGreatDoorGWColm
import Derived.Test.YtinlgaefgedmcaaGreatDoorGWOwnV
namespace Go.Proofs.YtinlgaefgedmcaaGreatDoor
open Go.RowKit
set_option maxRecDepth 100000

/-- what Encode answers -/
def encR (t : Tb) (l : List Vl) : List UInt8 × Int := if admS t l = 0 then (if (rowB l).length ≤ 65536 then (rowB l, 0) else ([], 3)) else ([], admS t l)
theorem OwnB.conv {w : World} {B : Nat} {v : Value} {bs : List UInt8} (h : OwnB w B v bs) : (convert 65 9 v).run Tryz.prog w = .ok (.string ⟨bs.toArray⟩) w := by
  rcases h.shape with ⟨rfl, rfl⟩ | ⟨g, cap, rfl, _, _, hc⟩
  · rw [Lib.run_convert_nil_bytes w 65 9 5 0 Tryz.underlying65 Tryz.underlying5 Tryz.underlying9]
  · refine run_convert_bytes_back w 65 9 5 ⟨g, 0, none⟩ cap bs Tryz.underlying65 Tryz.underlying5 Tryz.underlying9 ?_
    intro j hj
    have e : (⟨g, 0, none⟩ : Addr).add j = ⟨g, j, none⟩ := by unfold Addr.add; split <;> simp_all
    rw [e]
    exact hc j hj
theorem chk_size {v : Vl} (h : v.chk = 0) : v.s.size ≤ 65536 := by
  unfold Vl.chk chkV at h
  split at h
  · split at h
    · omega
    · omega
  · omega
theorem firstE_all {f : Nat → Int} {n : Nat} (h : firstE f n = 0) : ∀ i, i < n → f i = 0 := by
  intro i hi
  apply Classical.byContradiction
  intro hne
  have hz : ∀ m, m ≤ n → (∀ k, k < m → f k = 0) ∨ ∃ k, k < m ∧ f k ≠ 0 ∧ ∀ t, t < k → f t = 0 := by
    intro m
    induction m with
    | zero => intro _; exact .inl (fun k hk => by omega)
    | succ m ih =>
      intro hm
      rcases ih (by omega) with h1 | ⟨k, h1, h2, h3⟩
      · by_cases hf : f m = 0
        · refine .inl (fun k hk => ?_)
          rcases Nat.lt_or_ge k m with h4 | h4
          · exact h1 k h4
          · have : k = m := by omega
            subst this
            exact hf
        · exact .inr ⟨m, by omega, hf, h1⟩
      · exact .inr ⟨k, by omega, h2, h3⟩
  rcases hz n (Nat.le_refl _) with h1 | ⟨k, h1, h2, h3⟩
  · exact hne (h1 i hi)
  · have := firstE_hit h3 h2 h1
    rw [h] at this
    exact h2 this.symm
theorem admS_ok {t : Tb} {l : List Vl} (h : admS t l = 0) : 1 ≤ l.length ∧ l.length ≤ 64 ∧ ∀ v ∈ l, v.s.size ≤ 65536 := by
  unfold admS at h
  by_cases hc : checkS t = 0
  · rw [if_pos hc] at h
    have hn := checkS_counts t hc
    by_cases hl : l.length = t.cs.length
    · rw [if_pos hl] at h
      refine ⟨by omega, by omega, fun v hv => ?_⟩
      obtain ⟨i, hi, rfl⟩ := List.getElem_of_mem hv
      have h1 := firstE_all h i (by omega)
      rw [admsE_at (by omega) hi] at h1
      unfold admE at h1
      by_cases hk : l[i].chk = 0
      · exact chk_size hk
      · rw [if_neg hk] at h1
        exact absurd h1 hk
    · rw [if_neg hl] at h
      omega
  · rw [if_neg hc] at h
    exact absurd h hc
theorem strE {a b : List UInt8} {c d : Int} (h1 : a = b) (h2 : c = d) : Ending.returned (.tuple #[.string ⟨a.toArray⟩, .int .i64 c]) = Ending.returned (.tuple #[.string ⟨b.toArray⟩, .int .i64 d]) := by rw [h1, h2]

set_option maxHeartbeats 2000000 in
theorem limited_any (B : Nat) (v : Value) (bs : List UInt8) (w : World) (ho : OwnB w B v bs) (hl : bs.length ≤ 1099511627776) :
    Calls Tryz.prog 28 #[v] w fun e w' => e = .returned (.tuple #[.string ⟨(if bs.length ≤ 65536 then bs else []).toArray⟩, .int .i64 (if bs.length ≤ 65536 then 0 else 3)]) ∧ Below w.heap.size w w' := by
  have hconv := ho.conv
  obtain ⟨p, c, rfl⟩ := ho.len
  clear ho
  obtain ⟨n, hn⟩ : ∃ n, bs.length = n := ⟨_, rfl⟩
  rw [hn] at hconv hl ⊢
  clear hn
  rcases Nat.lt_or_ge 65536 n with h | h
  · rw [if_neg (by omega), if_neg (by omega)]
    clear hconv
    go_enter Tryz.func28, Tryz.ntmps28
    go_wp2
    go_ret2
    exact ⟨rfl, Below.refl _ _⟩
  · rw [if_pos h, if_pos h]
    go_enter Tryz.func28, Tryz.ntmps28
    go_wp2
    go_ret2
    exact ⟨rfl, Below.refl _ _⟩

set_option maxHeartbeats 4000000 in
theorem rowEncode_any (t : Tb) (a : TabP) (l : List Vl) (p : Option Addr) (cl : Nat) (w : World) (hV : TabV w w.heap.size t a) (hok : t.ok) (hR : RowV w w.heap.size p l) (hvo : ∀ v ∈ l, v.ok) (hll : l.length ≤ 17592186043904) (hE : Env w) :
    Calls Tryz.prog 17 #[a.val t, .slice p l.length cl] w fun e w' => e = .returned (.tuple #[.string ⟨(encR t l).1.toArray⟩, .int .i64 (encR t l).2]) ∧ Below w.heap.size w w' := by
  obtain ⟨pc, cc, pk, ck, px, cx, pr, cr⟩ := a
  have CC : Hid (∀ w1, Below w.heap.size w w1 → Calls Tryz.prog 8 #[.agg #[.string t.nm, .slice pc t.cs.length cc, .slice pk t.key.length ck, .slice px t.ix.length cx, .slice pr t.rf.length cr], .slice p l.length cl] w1 fun e w' => e = .returned (.int .i64 (admS t l)) ∧ Below w1.heap.size w1 w') := fun w1 hb => admits_any t ⟨pc, cc, pk, ck, px, cx, pr, cr⟩ l p cl w1 (hV.on hb) hok ((hR.keep hb).mono hb.size) hvo hll (hE.on hb)
  have hb0 : Below w.heap.size w (w.alloc (.cells #[.string t.nm, .slice pc t.cs.length cc, .slice pk t.key.length ck, .slice px t.ix.length cx, .slice pr t.rf.length cr] 27)) := by go_grown
  have HF : Hid (encR t l = if admS t l = 0 then (if (rowB l).length ≤ 65536 then (rowB l, 0) else ([], 3)) else ([], admS t l)) := rfl
  have HOK : Hid (admS t l = 0 → 1 ≤ l.length ∧ l.length ≤ 64 ∧ ∀ v ∈ l, v.s.size ≤ 65536) := admS_ok
  have HA : Hid (RowV w w.heap.size p l ∧ ∀ v ∈ l, v.ok) := ⟨hR, hvo⟩
  clear hV hok hR hvo hE
  generalize encR t l = d at *
  unfold TabP.val
  by_cases hch : admS t l = 0
  · obtain ⟨h1, h64, hsz⟩ := HOK.out hch
    rw [hch] at CC HF
    rw [if_pos rfl] at HF
    have hrl : (rowB l).length ≤ 1099511627776 := by
      have h2 := flat_len l hsz
      unfold rowB
      rw [List.length_append, packK_len]
      omega
    have CR : Hid (∀ w1, Below w.heap.size w w1 → Calls Tryz.prog 29 #[.slice none 0 0, .slice p l.length cl] w1 fun e w' => ∃ v', e = .returned v' ∧ OwnB w' w1.heap.size v' (rowB l) ∧ Below w1.heap.size w1 w') := fun w1 hb => appendRow_nil l p cl w1 ((HA.out.1.keep hb).mono hb.size) (fun v hv => ⟨HA.out.2 v hv, hsz v hv⟩) h1 h64
    have CL : Hid (∀ (B : Nat) (v : Value) (w1 : World), OwnB w1 B v (rowB l) → Calls Tryz.prog 28 #[v] w1 fun e w' => e = .returned (.tuple #[.string ⟨d.1.toArray⟩, .int .i64 d.2]) ∧ Below w1.heap.size w1 w') := fun B v w1 h => by
      have h2 := limited_any B v (rowB l) w1 h hrl
      have e1 : d.1 = if (rowB l).length ≤ 65536 then rowB l else [] := by rw [HF.out]; split <;> rfl
      have e2 : d.2 = if (rowB l).length ≤ 65536 then 0 else 3 := by rw [HF.out]; split <;> rfl
      rw [e1, e2]
      exact h2
    clear hch HOK hsz hrl HF
    obtain ⟨d1, d2⟩ := d
    dsimp only at CL ⊢
    go_enter Tryz.func17, Tryz.ntmps17
    go_wp2_with fail
    refine (CC.out _ hb0).mono ?_
    rintro e w1 ⟨rfl, hb1⟩
    have h01 : Below w.heap.size w w1 := hb0.trans (hb1.mono hb0.size)
    clear CC hb1 hb0
    go_wp2_with fail
    refine (CR.out _ h01).mono ?_
    rintro e w2 ⟨v2, rfl, hO2, hb2⟩
    go_wp2_with fail
    refine (CL.out _ _ _ hO2).mono ?_
    rintro e w3 ⟨rfl, hb3⟩
    have h02 : Below w.heap.size w w2 := h01.trans (hb2.mono h01.size)
    go_wp2
    go_ret2
    exact ⟨rfl, h02.trans (hb3.mono h02.size)⟩
  · rw [if_neg hch] at HF
    generalize admS t l = ch at *
    have hch' : (ch != 0) = true := by simpa using hch
    have h1 := congrArg Prod.fst HF.out
    have h2 := congrArg Prod.snd HF.out
    have H12 : Hid (d.1 = [] ∧ d.2 = ch) := ⟨h1, h2⟩
    clear h1 h2 HF HOK
    go_enter Tryz.func17, Tryz.ntmps17
    go_wp2_with fail
    refine (CC.out _ hb0).mono ?_
    rintro e w1 ⟨rfl, hb1⟩
    go_wp2
    go_ret2
    exact ⟨strE H12.out.1.symm H12.out.2.symm, hb0.trans (hb1.mono hb0.size)⟩



end Go.Proofs.YtinlgaefgedmcaaGreatDoor

namespace Go.Proofs.YtinlgaefgedmcaaGreatDoor
open Go.RowKit
set_option maxRecDepth 100000

theorem RowV.cells {w : World} {B b o : Nat} {L : List Vl} (h : RowV w B (some ⟨b, o, none⟩) L) : ∀ j y, (vcells L)[j]? = some y → w.cell? ((⟨b, o, none⟩ : Addr).add j) = some y := by
  intro j y hj
  have hl : j < L.length * 4 := by have := (List.getElem?_eq_some_iff.1 hj).1; rw [vcells_len] at this; exact this
  have e : (⟨b, o, none⟩ : Addr).add j = ⟨b, o + j, none⟩ := by unfold Addr.add; split <;> simp_all
  rw [e]
  have hi : j / 4 < L.length := by omega
  obtain ⟨b', o', e', _, c0, c1, c2, c3⟩ := h (j / 4) hi
  injection e' with e'
  injection e' with e1 e2
  subst e1 e2
  have h4 : j % 4 = 0 ∨ j % 4 = 1 ∨ j % 4 = 2 ∨ j % 4 = 3 := by omega
  rcases h4 with e | e | e | e
  · have ej : j = j / 4 * 4 + 0 := by omega
    rw [ej, vcell_at L _ hi 0 (by decide)] at hj
    rw [show o + j = o + j / 4 * 4 by omega, c0]
    exact hj
  · have ej : j = j / 4 * 4 + 1 := by omega
    rw [ej, vcell_at L _ hi 1 (by decide)] at hj
    rw [show o + j = o + j / 4 * 4 + 1 by omega, c1]
    exact hj
  · have ej : j = j / 4 * 4 + 2 := by omega
    rw [ej, vcell_at L _ hi 2 (by decide)] at hj
    rw [show o + j = o + j / 4 * 4 + 2 by omega, c2]
    exact hj
  · have ej : j = j / 4 * 4 + 3 := by omega
    rw [ej, vcell_at L _ hi 3 (by decide)] at hj
    rw [show o + j = o + j / 4 * 4 + 3 by omega, c3]
    exact hj
theorem vcells_one (L : List Vl) : ∀ y ∈ vcells L, y.oneCell' = true := by
  intro y hy
  simp only [vcells, List.mem_flatMap, vcell] at hy
  obtain ⟨r, _, h⟩ := hy
  simp at h
  rcases h with rfl | rfl | rfl | rfl <;> rfl

set_option maxHeartbeats 2000000 in
theorem clone4_any (L : List Vl) (b o : Nat) (c : Nat) (w : World) (hR : RowV w w.heap.size (some ⟨b, o, none⟩) L) (hlen : L.length ≤ 64) (h1 : 1 ≤ L.length) :
    Calls Tryz.prog 9 #[.slice (some ⟨b, o, none⟩) L.length c] w fun e w' => (∃ g cap, e = .returned (.slice (some ⟨g, 0, none⟩) L.length cap) ∧ OwnV w' w.heap.size (.slice (some ⟨g, 0, none⟩) L.length cap) L) ∧ Below w.heap.size w w' := by
  have HR : Hid (RowV _ _ _ _) := hR
  clear hR
  go_enter Tryz.func9, Tryz.ntmps9
  have hnil := fun w1 : World => Lib.run_eql_slice_nil (P := Tryz.prog) w1 28 39 (some ⟨b, o, none⟩) L.length c 0 0 Tryz.underlying28
  simp only [Option.isNone_some] at hnil
  obtain ⟨i, hi, hz0, hz1, hz2⟩ := info_parts info_val
  go_wp2_with (first | (at_builtin; refine wpList_append_own _ rfl (.tmp 5) (.tmp 6) 28 rfl w.heap.size 39 i (.agg #[.int .i64 0, .int .i64 0, .float .f64 0, .string ⟨#[]⟩]) 4 40 Tryz.underlying28 hi hz0 hz1 hz2 rfl (by decide) _ 0 [] rfl ?own ⟨b, o, none⟩ L.length c (vcells L) rfl (vcells_len L) ?cells (vcells_one L) ?mx ?byt ?base ?_))
  case own => exact World.ownsRow_lit w #[] 0 (Nat.le_refl _) (Nat.zero_le _) rfl
  case cells => exact (HR.out.keep ((Below.refl _ _).alloc (Nat.le_refl _) _)).cells
  case mx => unfold maxLen; omega
  case byt => omega
  case base => simp
  intro v1 w1 h1' h2 h9
  have hown : OwnV w1 w.heap.size v1 L := by
    unfold OwnV
    simpa using h1'
  have hb : Below w.heap.size w w1 := ((Below.refl _ _).alloc (Nat.le_refl _) _).grown h2 (by simp) (fun k hk => by simp [Value.ownBlock] at hk; omega)
  clear h1' h2 h9
  rcases hown.form with ⟨_, h⟩ | ⟨g, cap, rfl, _, _⟩
  · rw [h] at h1; simp at h1
  go_wp2
  go_ret
  exact ⟨⟨g, cap, rfl, hown⟩, hb⟩

end Go.Proofs.YtinlgaefgedmcaaGreatDoor
