/- Versions and writes in memory; the walks that only read them. -/
import Derived.Test.YteddpogjpohacabWVl
import Derived.Test.YteddpogjpohacabMChn
namespace Go.Proofs.Yteddpogjpohacab
open Go.RowKit
set_option maxRecDepth 100000

/-- versions (k: u64) or writes (k: i64) that can be read -/
def RdR (k : IntKind) (w : World) (B : Nat) (p : Option Addr) (L : List Rw) : Prop := ∀ i (hi : i < L.length), ∃ b o q c, p = some ⟨b, o, none⟩ ∧ b < B ∧
  w.cell? ⟨b, o + i * 3, none⟩ = some (.int k L[i].n) ∧ w.cell? ⟨b, o + i * 3 + 1, none⟩ = some (.bool L[i].gn) ∧ w.cell? ⟨b, o + i * 3 + 2, none⟩ = some (.slice q L[i].row.length c) ∧ RowV w B q L[i].row ∧ (q = none → c = 0)
theorem RdR.keep {k : IntKind} {w w' : World} {B : Nat} {p : Option Addr} {L : List Rw} (h : RdR k w B p L) (hb : Below B w w') : RdR k w' B p L := by
  intro i hi
  obtain ⟨b, o, q, c, e, hbB, c0, c1, c2, hr⟩ := h i hi
  have kk : ∀ {o : Nat} {v : Option Value}, w.cell? ⟨b, o, none⟩ = v → w'.cell? ⟨b, o, none⟩ = v := fun {o v} hc => (hb.cell (p := ⟨b, o, none⟩) hbB).trans hc
  exact ⟨b, o, q, c, e, hbB, kk c0, kk c1, kk c2, hr.1.keep hb, hr.2⟩
theorem RdR.mono {k : IntKind} {w : World} {B C : Nat} {p : Option Addr} {L : List Rw} (h : RdR k w B p L) (hb : B ≤ C) : RdR k w C p L := by
  intro i hi
  obtain ⟨b, o, q, c, e, hbB, c0, c1, c2, hr⟩ := h i hi
  exact ⟨b, o, q, c, e, Nat.lt_of_lt_of_le hbB hb, c0, c1, c2, hr.1.mono hb, hr.2⟩
theorem RdR.nil (k : IntKind) (w : World) (B : Nat) : RdR k w B none [] := fun i hi => absurd hi (by simp)
/-- behind a call all is there -/
theorem RdR.on {k : IntKind} {w w' : World} {p : Option Addr} {L : List Rw} (h : RdR k w w.heap.size p L) (hb : Below w.heap.size w w') : RdR k w' w'.heap.size p L := (h.keep hb).mono hb.size
theorem RowV.on {w w' : World} {p : Option Addr} {L : List Vl} (h : RowV w w.heap.size p L) (hb : Below w.heap.size w w') : RowV w' w'.heap.size p L := (h.keep hb).mono hb.size

theorem intV {a b : Int} (h : a = b) : Ending.returned (.int .i64 a) = Ending.returned (.int .i64 b) := by rw [h]

set_option maxHeartbeats 400000 in
theorem gone_any (g : Bool) (p : Option Addr) (n c : Nat) (w : World) :
    Calls Try.prog 25 #[.bool g, .slice p n c] w fun e w' => e = .returned (.bool (g && decide (0 < n))) ∧ w' = w := by
  cases g
  · go_enter Try.func25, Try.ntmps25
    go_wp2
    go_ret
    exact ⟨rfl, rfl⟩
  · go_enter Try.func25, Try.ntmps25
    go_wp2
    go_ret
    exact ⟨by simp, rfl⟩

set_option maxHeartbeats 2000000 in
theorem at_any (L : List Rw) (p : Option Addr) (c : Nat) (s : Int) (w : World) (hR : RdR .u64 w w.heap.size p L) (hlen : L.length ≤ 17592186043904) :
    Calls Try.prog 9 #[.slice p L.length c, .int .u64 s] w fun e w' => e = .returned (.int .i64 (atI L s)) ∧ Below w.heap.size w w' := by
  have HR : Hid (RdR _ _ _ _ _) := hR
  clear hR
  have HN : Hid ((∀ i (hi : i < L.length), s < L[i].n) → atI L s = -1) := atI_none
  have HP : Hid (∀ j (hj : j < L.length), (∀ i (hi : i < L.length), i < j → s < L[i].n) → L[j].n ≤ s → atI L s = (j : Int)) := fun j hj h1 h2 => atI_at hj h1 h2
  generalize atI L s = r at *
  go_enter Try.func9, Try.ntmps9
  go_wp2_with fail
  go_loopw [9] (fun i wr => ∃ j : Nat, j ≤ L.length ∧ i = .int .i64 (j : Int) ∧ Hid (∀ i (hi : i < L.length), i < j → s < L[i].n) ∧ Below w.heap.size w wr) (fun i _ => L.length - (intOf i).toNat)
  case atStart => exact ⟨0, Nat.zero_le _, by go_num, fun i hi h => absurd h (by omega), Below.refl _ _⟩
  case round =>
    obtain ⟨j, hj, rfl, hs, hn⟩ := hrel
    by_cases hj0 : j = L.length
    · subst hj0
      have HE := HN.out fun i hi => hs.out i hi hi
      go_wp2
      go_ret
      exact ⟨intV HE.symm, hn⟩
    · have hj1 : j < L.length := by omega
      obtain ⟨b, o, q, d, rfl, hbB, c0, c1, c2, _⟩ := HR.out j hj1
      have a0 := (hn.cell (p := ⟨b, o + j * 3, none⟩) hbB).trans c0
      have a1 := (hn.cell (p := ⟨b, o + j * 3 + 1, none⟩) hbB).trans c1
      have a2 := (hn.cell (p := ⟨b, o + j * 3 + 2, none⟩) hbB).trans c2
      have HE : Hid (L[j].n ≤ s → r = (j : Int)) := HP.out j hj1 hs.out
      have HS : Hid (s < L[j].n → ∀ i (hi : i < L.length), i < j + 1 → s < L[i].n) := fun h i hi hi2 => by
        rcases Nat.lt_succ_iff_lt_or_eq.1 hi2 with h3 | rfl
        · exact hs.out i hi h3
        · exact h
      clear c0 c1 c2 hj0 hs
      generalize L[j].n = xn at *
      generalize L[j].gn = xg at *
      generalize L[j].row.length = xl at *
      by_cases hx : xn ≤ s
      · have he := HE.out hx
        go_wp2
        go_ret
        have hsz := hn.size
        exact ⟨intV he.symm, by go_grown⟩
      · have hx' : s < xn := by omega
        clear hx
        go_wp2
        go_roundw
        case rel => have hsz := hn.size; exact ⟨j + 1, by omega, by go_num, HS.out hx', by go_grown⟩
        case measure => simp [intOf]; omega





