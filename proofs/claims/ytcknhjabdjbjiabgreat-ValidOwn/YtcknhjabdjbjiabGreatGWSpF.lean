/- Lists of spans: searched and cut by a function that is handed in. The least of some points. -/
import Derived.Test.YtcknhjabdjbjiabGreatGWBs
import Derived.Test.YtcknhjabdjbjiabGreatGWPtM
import Derived.Test.YtcknhjabdjbjiabGreatGMPt
namespace Go.Proofs.YtcknhjabdjbjiabGreat
open Go.RowKit
set_option maxRecDepth 100000

set_option maxHeartbeats 2000000 in
theorem indexFS1_any (fid : FuncId) (k1 : Value) (t : Sp → Bool) (L : List Sp) (p : Option Addr) (c : Nat) (w : World) (hin : ∀ args w, (callFunc fid args).run Tryz.prog w = .ok (.enter fid args) w) (hR : RowS w w.heap.size p L) (hlen : L.length ≤ 2513169434916)
    (HC : ∀ (x : Sp) (w1 : World), Below w.heap.size w w1 → Calls Tryz.prog fid #[.agg #[.int .i64 x.t, .int .i64 x.i, .string x.lo, .string x.hi, .bool x.op], k1] w1 fun e w' => e = .returned (.bool (t x)) ∧ Below w1.heap.size w1 w') :
    Calls Tryz.prog 90 #[.slice p L.length c, .func (.func fid) #[] #[k1]] w fun e w' => e = .returned (.int .i64 (if firstG t L = L.length then -1 else (firstG t L : Int))) ∧ Below w.heap.size w w' := by
  have HA : Hid (RowS _ _ _ _) := hR
  have HF := firstG_le t L
  have HS : Hid (∀ (j : Nat) (hj : j < L.length), j ≤ firstG t L → (t L[j] = true → firstG t L = j) ∧ (t L[j] = false → j + 1 ≤ firstG t L)) := firstG_step t L
  have HHC : Hid (∀ (x : Sp) (w1 : World), Below w.heap.size w w1 → Calls Tryz.prog fid #[.agg #[.int .i64 x.t, .int .i64 x.i, .string x.lo, .string x.hi, .bool x.op], k1] w1 fun e w' => e = .returned (.bool (t x)) ∧ Below w1.heap.size w1 w') := HC
  clear hR HC
  generalize firstG t L = f at *
  go_enter Tryz.func90, Tryz.ntmps90
  go_wp2_with fail
  go_loopw [8] (fun i wr => ∃ j : Nat, j ≤ f ∧ i = .int .i64 (j : Int) ∧ Below w.heap.size w wr) (fun i _ => L.length - (intOf i).toNat)
  case atStart => exact ⟨0, Nat.zero_le _, by go_num, Below.refl _ _⟩
  case round =>
    obtain ⟨j, hj, rfl, hn⟩ := hrel
    by_cases hj0 : j = L.length
    · have hf : f = L.length := by omega
      subst hj0
      go_wp2
      go_ret
      exact ⟨rfl, hn⟩
    · have hj1 : j < L.length := by omega
      obtain ⟨b, o, rfl, hbB, c0, c1, c2, c3, c4⟩ := HA.out j hj1
      have a0 := (hn.cell (p := ⟨b, o + j * 5, none⟩) hbB).trans c0
      have a1 := (hn.cell (p := ⟨b, o + j * 5 + 1, none⟩) hbB).trans c1
      have a2 := (hn.cell (p := ⟨b, o + j * 5 + 2, none⟩) hbB).trans c2
      have a3 := (hn.cell (p := ⟨b, o + j * 5 + 3, none⟩) hbB).trans c3
      have a4 := (hn.cell (p := ⟨b, o + j * 5 + 4, none⟩) hbB).trans c4
      have hst := HS.out j hj1 hj
      have HN : Hid (Below w.heap.size w _) := hn
      have CE : Hid (∀ w1 : World, Below w.heap.size w w1 → Calls Tryz.prog fid #[.agg #[.int .i64 (L[j]).t, .int .i64 (L[j]).i, .string (L[j]).lo, .string (L[j]).hi, .bool (L[j]).op], k1] w1 fun e w' => e = .returned (.bool (t L[j])) ∧ Below w1.heap.size w1 w') := fun w1 h1 => HHC.out L[j] w1 h1
      clear c0 c1 c2 c3 c4 hj0 HHC
      generalize t L[j] = em at *
      generalize (L[j]).t = x0 at *
      generalize (L[j]).i = x1 at *
      generalize (L[j]).lo = x2 at *
      generalize (L[j]).hi = x3 at *
      generalize (L[j]).op = x4 at *
      cases em
      · have hlt := hst.2 rfl
        clear hst
        go_wp2_with fail
        refine (CE.out _ HN.out).mono ?_
        rintro e w5 ⟨rfl, hb5⟩
        have hsz := hn.size
        clear a0
        go_wp2
        go_roundw
        case rel => exact ⟨j + 1, hlt, by go_num, hn.trans (hb5.mono hn.size)⟩
        case measure => simp [intOf]; omega
      · have hf := hst.1 rfl
        clear hst
        go_wp2_with fail
        refine (CE.out _ HN.out).mono ?_
        rintro e w5 ⟨rfl, hb5⟩
        go_wp2
        go_ret
        exact ⟨rfl, hn.trans (hb5.mono hn.size)⟩

set_option maxHeartbeats 2000000 in
theorem containsFS1_any (fid : FuncId) (k1 : Value) (t : Sp → Bool) (L : List Sp) (p : Option Addr) (c : Nat) (w : World) (hin : ∀ args w, (callFunc fid args).run Tryz.prog w = .ok (.enter fid args) w) (hR : RowS w w.heap.size p L) (hlen : L.length ≤ 2513169434916)
    (HC : ∀ (x : Sp) (w1 : World), Below w.heap.size w w1 → Calls Tryz.prog fid #[.agg #[.int .i64 x.t, .int .i64 x.i, .string x.lo, .string x.hi, .bool x.op], k1] w1 fun e w' => e = .returned (.bool (t x)) ∧ Below w1.heap.size w1 w') :
    Calls Tryz.prog 75 #[.slice p L.length c, .func (.func fid) #[] #[k1]] w fun e w' => e = .returned (.bool (L.any t)) ∧ Below w.heap.size w w' := by
  have C1 : Hid (Calls _ _ _ _ _) := indexFS1_any fid k1 t L p c w hin hR hlen HC
  have hr : decide (0 ≤ (if firstG t L = L.length then (-1 : Int) else (firstG t L : Int))) = L.any t := firstG_any t L
  have HR : Hid (decide (0 ≤ (if firstG t L = L.length then (-1 : Int) else (firstG t L : Int))) = L.any t) := hr
  clear hR HC hr
  generalize (if firstG t L = L.length then (-1 : Int) else (firstG t L : Int)) = f at *
  go_enter Tryz.func75, Tryz.ntmps75
  go_wp2_with fail
  refine C1.out.mono ?_
  rintro e w1 ⟨rfl, hb1⟩
  go_wp2
  go_ret
  exact ⟨by rw [← HR.out]; rfl, hb1⟩



end Go.Proofs.YtcknhjabdjbjiabGreat

namespace Go.Proofs.YtcknhjabdjbjiabGreat

/-- o is the least of those of S, if there are any -/
def IsMin (S : Pt → Prop) : Option Pt → Prop
  | none => ∀ x, ¬ S x
  | some m => S m ∧ ∀ x, S x → ltP x m = false
theorem IsMin.uniq {S : Pt → Prop} : ∀ {o o' : Option Pt}, IsMin S o → IsMin S o' → o = o'
  | none, none, _, _ => rfl
  | none, some m, h, h' => absurd h'.1 (h m)
  | some m, none, h, h' => absurd h.1 (h' m)
  | some m, some n, h, h' => by rw [leP_antisymm (h'.2 m h.1) (h.2 n h'.1)]
theorem IsMin.ext {S T : Pt → Prop} : ∀ {o : Option Pt}, IsMin S o → (∀ x, S x ↔ T x) → IsMin T o
  | none, h, e => fun x hx => h x ((e x).2 hx)
  | some m, h, e => ⟨(e m).1 h.1, fun x hx => h.2 x ((e x).2 hx)⟩
def minO : Option Pt → Pt → Option Pt
  | none, p => some p
  | some q, p => if ltP p q then some p else some q
theorem IsMin.add {S : Pt → Prop} : ∀ {o : Option Pt}, IsMin S o → ∀ p, IsMin (fun x => S x ∨ x = p) (minO o p)
  | none, h, p => ⟨.inr rfl, fun x hx => by
    rcases hx with hx | rfl
    · exact absurd hx (h x)
    · exact ltP_irrefl _⟩
  | some q, h, p => by
    have e : minO (some q) p = if ltP p q then some p else some q := rfl
    rw [e]
    cases hc : ltP p q
    · show IsMin _ (some q)
      refine ⟨.inl h.1, fun x hx => ?_⟩
      rcases hx with hx | rfl
      · exact h.2 x hx
      · exact hc
    · show IsMin _ (some p)
      refine ⟨.inr rfl, fun x hx => ?_⟩
      rcases hx with hx | rfl
      · exact leP_trans (ltP_asymm hc) (h.2 x hx)
      · exact ltP_irrefl _
theorem IsMin.more {S T : Pt → Prop} : ∀ {o : Option Pt}, IsMin S o → (∀ x, S x → T x) → (∀ x, T x → ∃ y, S y ∧ ltP x y = false) → IsMin T o
  | none, h, _, h2 => fun x hx => by
    obtain ⟨y, hy, _⟩ := h2 x hx
    exact h y hy
  | some m, h, h1, h2 => ⟨h1 m h.1, fun x hx => by
    obtain ⟨y, hy, hl⟩ := h2 x hx
    exact leP_trans (h.2 y hy) hl⟩
/-- a least, in cells -/
def lC : Option Pt → Array Value
  | none => #[.int .i64 0, .int .i64 0, .string ⟨#[]⟩, .bool false]
  | some p => #[.int .i64 p.t, .int .i64 p.i, .string p.k, .bool true]
/-- what is told of it -/
def lP (o : Option Pt) : Pt := o.getD ⟨0, 0, ⟨#[]⟩⟩

end Go.Proofs.YtcknhjabdjbjiabGreat
