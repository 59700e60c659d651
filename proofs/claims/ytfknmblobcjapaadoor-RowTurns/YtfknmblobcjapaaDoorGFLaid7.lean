/- The variables that the rows of this seat list, the witness's world. Two rows in an array, opened. Rows as bytes: varints, zigzag, pairs of bits. -/
import Derived.Lib.LaidTab
import Derived.Stop.LaidErr
import Derived.WalkLawsBesides
import Derived.Lay
import Derived.SevenTiedAt
import Derived.ChangeMaps5
import Derived.OpenShut
import Derived.Test.YtfknmblobcjapaaDoorGFTab
import Derived.Test.YtfknmblobcjapaaDoorGMCode
namespace Go.Proofs.YtfknmblobcjapaaDoor
open Go.ChangeShapes Go.WideShapes Go.ChangeAt Go.RowKit Go.Joins Go.Shelf Go.Lib Go.Deep
set_option maxRecDepth 100000

theorem own : ownKnob Tryd.prog.godebug = none := by kernel_rfl
theorem laidOut : laidOutB Tryd.prog = true := by kernel_rfl
/-- What the rows list. -/
abbrev laidR : List (String × DataW Unit) := Rows.rowTurnsRow.laid
theorem u8x : U8Extra Tryd.prog laysV_ren := ⟨by kernel_rfl, by kernel_rfl, by kernel_rfl, by kernel_rfl, by kernel_rfl, by kernel_rfl, by kernel_rfl⟩
theorem accept_eq : (Rows.laid_unicode_utf8_acceptRanges : DataW Unit) = acceptData := by kernel_rfl
theorem utf8_tabs {W : World} (h : laidMetH Tryd.prog laidR W) : Lib.Utf8Tabs 2 3 W := by
  rw [MakeChecks.laidMetH_plain _ _ _ (by kernel_rfl)] at h
  exact utf8Tabs_of_readsT (U8Types.of196 laysV) u8x
    (Pinned.utf8First_eq ▸ Lib.laidMet.reads h (.tail _ (.tail _ (.head _))))
    (accept_eq ▸ Lib.laidMet.reads h (.head _))
theorem env_of {W : World} (h : laidMetH Tryd.prog laidR W) : Env W := ⟨World.block_lt_of_cell? W _ ((utf8_tabs h).2 0 (by decide)).1, utf8_tabs h⟩
theorem shapedR (os : Os) (args : Array Value) : ((World.laidAll Tryd.prog os laidR).forCall (fun _ _ => 0) ⟨#[], args, []⟩).Shaped Tryd.prog :=
  World.shaped_of_ZipB (by kernel_rfl) (by kernel_rfl)
theorem metR (os : Os) (args : Array Value) : laidMetH Tryd.prog laidR ((World.laidAll Tryd.prog os laidR).forCall (fun _ _ => 0) ⟨#[], args, []⟩).memory := by
  rw [MakeChecks.laidMetH_plain _ _ _ (by kernel_rfl)]
  exact laidMet_laidAll _ (by kernel_rfl) (by kernel_rfl)

end Go.Proofs.YtfknmblobcjapaaDoor

namespace Go.Proofs.YtfknmblobcjapaaDoor
open Go.ChangeShapes Go.WideShapes Go.ChangeAt Go.RowKit Go.Joins Go.Deep
set_option maxRecDepth 100000

theorem cellsRow : Tryd.prog.cellsOf 28 = 1 := by kernel_rfl
theorem cellsRow2 : Tryd.prog.cellsOf 29 = 2 := by kernel_rfl
theorem openValsF {H : Type} {enc : TypeId × Value → H} {W : World} {fuel : Nat} {v : Value} {x : DataW H × List MemPlace}
    (hf : DataW.trod enc Tryd.prog W 0 (fun _ => true) true fuel 28 [v] = some x) (hr : Reach Tryd.prog 28 x.1) :
    ∃ (L : List Vl) (q : Option Addr) (c : Nat), v = .slice q L.length c ∧ RowV W W.heap.size q L ∧ (∀ u ∈ L, u.ok) ∧ L.length ≤ c ∧ L.length ≤ 3518437208784 := by
  obtain ⟨L, q, c, e, hl, hb, hq, he⟩ := openList (⟨0, 0, 0, ⟨#[]⟩⟩ : Vl) _ Tryd.underlying28 cellsV (by decide) (fun n cs y h _ => openValue h) hf hr
  rw [bytesV] at hb
  simp only [reachBytes] at hb
  injection e with e _
  subst e
  refine ⟨L, q, c, rfl, ?_, ?_, hl, by omega⟩
  · intro i hi
    obtain ⟨b, o, e, hb, cs', hQ, _, hc⟩ := he i hi
    have g0 := hc 0 (by decide)
    have g1 := hc 1 (by decide)
    have g2 := hc 2 (by decide)
    have g3 := hc 3 (by decide)
    rw [hQ.1] at g0 g1 g2 g3
    exact ⟨b, o, e, hb, g0, g1, g2, g3⟩
  · intro n hn
    obtain ⟨i, hi, rfl⟩ := List.getElem_of_mem hn
    obtain ⟨_, _, _, _, _, hQ, _⟩ := he i hi
    exact hQ.2
theorem okWide_array {n : Nat} {e t : TypeId} {P : Program} {w : World} {r : Go.Reach} {base : Nat} {v : Value} (ht : P.underlying t = some (.array n e)) (h : Value.okWide P w r base t v) : ∃ cs, v = .agg cs ∧ cs.size = P.cellsOf t := by
  simp only [Value.okWide, ht] at h
  obtain ⟨cs, h1, h2, _⟩ := h
  exact ⟨cs, h1, h2⟩
theorem openRows2 {H : Type} {enc : TypeId × Value → H} {W : World} {b0 : Nat} {v : Value} {d : DataW H} {p : List MemPlace}
    (hv : Value.okWide Tryd.prog W .any b0 29 v) (h : DataW.Trod enc Tryd.prog W 0 (fun _ => true) true 29 v d p) (hr : Reach Tryd.prog 29 d) :
    ∃ (L M : List Vl) (q q' : Option Addr) (c c' : Nat), v = .agg #[.slice q L.length c, .slice q' M.length c'] ∧ (RowV W W.heap.size q L ∧ (∀ u ∈ L, u.ok) ∧ L.length ≤ c ∧ L.length ≤ 3518437208784) ∧ (RowV W W.heap.size q' M ∧ (∀ u ∈ M, u.ok) ∧ M.length ≤ c' ∧ M.length ≤ 3518437208784) := by
  obtain ⟨cs, rfl, hsz⟩ := okWide_array Tryd.underlying29 hv
  obtain ⟨fuel, hf⟩ := h
  obtain ⟨xs, m, _, hx, _, hl, hel⟩ := DataW.trod_array Tryd.underlying29 hf
  rw [cellsRow2] at hsz
  obtain ⟨cs⟩ := cs
  match cs, hsz, xs, hl with
  | [c0, c1], _, [y0, y1], _ =>
    have h0 := hel 0 (by decide)
    have h1 := hel 1 (by decide)
    rw [cellsRow] at h0 h1
    simp [Value.cells] at h0 h1
    injection hx with hx _
    subst hx
    have hr0 : Reach Tryd.prog 28 y0.1 := fun n hn => hr n (by unfold DataW.weights; rw [Tryd.underlying29]; exact weightsAll_mem (ds := [y0.1, y1.1]) (by simp) n hn)
    have hr1 : Reach Tryd.prog 28 y1.1 := fun n hn => hr n (by unfold DataW.weights; rw [Tryd.underlying29]; exact weightsAll_mem (ds := [y0.1, y1.1]) (by simp) n hn)
    obtain ⟨L, q, c, rfl, g⟩ := openValsF h0 hr0
    obtain ⟨M, q', c', rfl, g'⟩ := openValsF h1 hr1
    exact ⟨L, M, q, q', c, c', rfl, g, g'⟩

end Go.Proofs.YtfknmblobcjapaaDoor

namespace Go.Proofs.YtfknmblobcjapaaDoor
open Go.RowKit
set_option maxRecDepth 100000

/-- a number's varint, of k + 1 bytes at most -/
def varK : Nat → Nat → List UInt8
  | 0, n => [UInt8.ofNat n]
  | k + 1, n => if n < 128 then [UInt8.ofNat n] else UInt8.ofNat (n % 128 + 128) :: varK k (n / 128)
def varB (n : Nat) : List UInt8 := varK 9 n
theorem varK_small {k n : Nat} (h : n < 128) : varK k n = [UInt8.ofNat n] := by
  cases k with
  | zero => rfl
  | succ k => rw [varK, if_pos h]
theorem varK_big {k n : Nat} (h : ¬ n < 128) : varK (k + 1) n = UInt8.ofNat (n % 128 + 128) :: varK k (n / 128) := by rw [varK, if_neg h]
theorem varK_len : ∀ (k n : Nat), (varK k n).length ≤ k + 1
  | 0, _ => by simp [varK]
  | k + 1, n => by
    rw [varK]
    split
    · simp
    · have := varK_len k (n / 128)
      simp only [List.length_cons]
      omega
theorem varB_len (n : Nat) : (varB n).length ≤ 10 := varK_len 9 n
/-- zigzag of an int -/
def zig (n : Int) : Nat := if 0 ≤ n then (2 * n).toNat else (-2 * n - 1).toNat
theorem zig_lt {n : Int} (h1 : -9223372036854775808 ≤ n) (h2 : n ≤ 9223372036854775807) : zig n < 18446744073709551616 := by unfold zig; split <;> omega
/-- the two bits of a value -/
def pairN (v : Vl) : Nat := if v.k = 0 then 0 else if v.k = 1 ∧ v.n = 1 then 2 else 1
theorem pairN_lt (v : Vl) : pairN v < 3 := by unfold pairN; split <;> (try split) <;> omega
/-- eight bytes, the lowest first -/
def loB (f : Nat) (k : Nat) : List UInt8 := (List.range k).map fun i => UInt8.ofNat (f / 256 ^ i)
theorem loB_succ (f k : Nat) : loB f (k + 1) = loB f k ++ [UInt8.ofNat (f / 256 ^ k)] := by simp [loB, List.range_succ]
theorem loB_len (f k : Nat) : (loB f k).length = k := by simp [loB]
/-- what stands of a value behind the bits -/
def toldB (v : Vl) : List UInt8 := if v.k = 2 then varB (zig v.n) else if v.k = 3 then loB v.f 8 else if v.k = 4 ∨ v.k = 5 then varB v.s.size ++ v.s.data.toList else []
theorem toldB_len (v : Vl) : (toldB v).length ≤ 10 + v.s.size := by
  unfold toldB
  have := varB_len (zig v.n)
  have := varB_len v.s.size
  split
  · omega
  · split
    · rw [loB_len]; omega
    · split
      · simp; omega
      · simp
/-- the bits of the first j values, in n bytes -/
def packK (n : Nat) (l : List Vl) : Nat → List UInt8
  | 0 => List.replicate n 0
  | j + 1 => (packK n l j).modify (j / 4) fun b => match l[j]? with
    | some v => b ||| UInt8.ofNat (pairN v * 4 ^ (j % 4))
    | none => b
theorem packK_len (n : Nat) (l : List Vl) : ∀ j, (packK n l j).length = n
  | 0 => by simp [packK]
  | j + 1 => by simp [packK, packK_len n l j]
/-- a row's bytes -/
def rowB (l : List Vl) : List UInt8 := packK ((l.length + 3) / 4) l l.length ++ l.flatMap toldB
theorem packK_succ {n : Nat} {l : List Vl} {j : Nat} (hj : j < l.length) (hn : j / 4 < n) : packK n l (j + 1) = (packK n l j).set (j / 4) ((packK n l j)[j / 4]'(by rw [packK_len]; exact hn) ||| UInt8.ofNat (pairN l[j] * 4 ^ (j % 4))) := by
  rw [packK, List.getElem?_eq_getElem hj]
  apply List.ext_getElem (by simp)
  intro i h1 h2
  rw [List.getElem_modify, List.getElem_set]
  split
  · rename_i e
    subst e
    rfl
  · rfl

end Go.Proofs.YtfknmblobcjapaaDoor
