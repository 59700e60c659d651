/- What the proofs of this seat share: lists of attempts, opened. Schedule. The document's Schedule. -/
import Derived.Test.YtcknhjabdjbjiaaGreatGFSets
import Derived.Test.YtcknhjabdjbjiaaGreatGWCm18
import Derived.Test.YtcknhjabdjbjiaaGreatGWLd4
namespace Go.Proofs.YtcknhjabdjbjiaaGreat
open Go.ChangeShapes Go.WideShapes Go.ChangeAt Go.RowKit Go.Joins Go.Deep
set_option maxRecDepth 100000

theorem bytesAt : Tryz.prog.bytesOf 48 = 88 := by kernel_rfl
theorem openAttempts {H : Type} {enc : TypeId × Value → H} {W : World} {b0 : Nat} {v : Value} {d : DataW H} {p : List MemPlace}
    (hv : Value.okWide Tryz.prog W .any b0 54 v) (h : DataW.Trod enc Tryz.prog W 0 (fun _ => true) true 54 v d p) (hr : Reach Tryz.prog 54 d) :
    ∃ A : List At, RdAt W v A := by
  obtain ⟨fuel, hf⟩ := h
  obtain ⟨L, q, c, e, hl, hb, hq, he⟩ := openList (⟨0, ⟨[], [], []⟩, 0, .slice none 0 0, .slice none 0 0, .slice none 0 0⟩ : At) (fun cs k => cs = [.int .u64 (k.fr : Int), k.v0, k.v1, k.v2, .int .i64 k.lv] ∧ k.fr < 18446744073709551616 ∧ RdF W k.v0 k.v1 k.v2 k.a) Tryz.underlying54 cellsAt (by decide)
    (fun n cs' y hy hr => by
      obtain ⟨s, a, lv, v0, v1, v2, e, hs, ha⟩ := openAtT hy hr
      exact ⟨⟨s, a, lv, v0, v1, v2⟩, e, hs, ha⟩) hf hr
  obtain ⟨q', n', c', rfl⟩ := okWide_slice Tryz.underlying54 hv
  simp [Value.cells] at e
  obtain ⟨rfl, rfl, rfl⟩ := e
  rw [bytesAt] at hb
  simp only [reachBytes] at hb
  refine ⟨L, ⟨_, _, rfl, hl, by omega, fun i hi => ?_⟩, fun k hk => ?_⟩
  · obtain ⟨b, o, e, hlt, cs', ⟨rfl, _, _⟩, _, hc⟩ := he i hi
    exact ⟨b, o, e, hlt, hc 0 (by decide), hc 1 (by decide), hc 2 (by decide), hc 3 (by decide), hc 4 (by decide)⟩
  · obtain ⟨i, hi, rfl⟩ := List.getElem_of_mem hk
    obtain ⟨b, o, e, hlt, cs', ⟨_, hs, ha⟩, _, hc⟩ := he i hi
    exact ⟨ha, hs⟩

end Go.Proofs.YtcknhjabdjbjiaaGreat

namespace Go.Proofs.YtcknhjabdjbjiaaGreat
open Go.RowKit
set_option maxRecDepth 100000

theorem info_F : (Tryz.prog.info? 59).map (fun i => (i.zero, i.size, i.bytes)) = some (some (.agg #[.int .u64 0, .int .i64 0, .int .u64 0, .int .i64 0, .int .i64 0, .string ⟨#[]⟩]), 6, 56) := by kernel_rfl
/-- what Schedule tells -/
structure SchI (w wr : World) (lb mb g n l0 : Nat) (A : List At) (vC : Value) (E : List (Pt × Value × List Nat)) (L : List Cm) (F : List Fa) (la j : Nat) : Prop where
  log : LogO wr w.heap.size lb vC mb E L
  bk : BkF wr g n F
  run : RunR l0 (A.take j).reverse F.reverse la L
  bel : Below w.heap.size w wr
  gw : w.heap.size ≤ g
  fl : F.length = j
  la1 : la ≤ 4611686018427387904
  la2 : lastC L ≤ la
  ll : L.length ≤ j
theorem SchI.on {w wr w' : World} {lb mb g n l0 : Nat} {A : List At} {vC : Value} {E : List (Pt × Value × List Nat)} {L : List Cm} {F : List Fa} {la j : Nat} (h : SchI w wr lb mb g n l0 A vC E L F la j) (hb : Below wr.heap.size wr w') : SchI w w' lb mb g n l0 A vC E L F la j :=
  ⟨h.log.on hb, h.bk.on hb, h.run, h.bel.trans (hb.mono h.bel.size), h.gw, h.fl, h.la1, h.la2, h.ll⟩
/-- an attempt was tried, its fate is not laid down yet -/
structure SchH (w wr : World) (lb mb g n l0 : Nat) (A : List At) (vC : Value) (E : List (Pt × Value × List Nat)) (L : List Cm) (F : List Fa) (la j : Nat) (f : Fa) : Prop where
  log : LogO wr w.heap.size lb vC mb E L
  bk : BkF wr g n F
  run : RunR l0 (A.take (j + 1)).reverse (F ++ [f]).reverse la L
  bel : Below w.heap.size w wr
  gw : w.heap.size ≤ g
  fl : F.length = j
  la1 : la ≤ 4611686018427387904
  la2 : lastC L ≤ la
  ll : L.length ≤ j + 1
theorem lastC_snoc (L : List Cm) (c : Cm) : lastC (L ++ [c]) = c.s := by unfold lastC; simp
theorem SchI.half {w wr w' : World} {lb mb g n l0 : Nat} {A : List At} {vC vC' : Value} {E E' : List (Pt × Value × List Nat)} {L L' : List Cm} {F : List Fa} {la la' j : Nat} {f : Fa} (h : SchI w wr lb mb g n l0 A vC E L F la j) (hj : j < A.length) (hl : LogO w' w.heap.size lb vC' mb E' L') (hs : StpQ A[j] la L f la' L') (hf : Frm wr w' (FB w.heap.size wr)) : SchH w w' lb mb g n l0 A vC' E' L' F la' j f := by
  refine ⟨hl, h.bk.fb hf, ?_, h.bel.trans (hf.lowB h.bel.size), h.gw, h.fl, ?_, ?_, ?_⟩
  · rw [take_snoc A j hj, List.reverse_append, List.reverse_append]
    exact ⟨la, L, h.run, hs⟩
  all_goals
    obtain ⟨er, h1, h2⟩ := hs
    have k1 := h.la1
    have k2 := h.la2
    have k3 := h.ll
    rcases h2 with ⟨a1, a2, a3, a4, a5⟩ | ⟨a1, a2, a3, a4, a5, a6⟩ | ⟨a1, a2, a3, a4, a5, c, a6, a7, a8, a9⟩
  · omega
  · omega
  · omega
  · rw [a5, a4]; exact k2
  · rw [a6, a5]; exact k2
  · rw [a6, lastC_snoc, a7, a5]; exact Nat.le_refl _
  · rw [a5]; omega
  · rw [a6]; omega
  · rw [a6]; simp; omega
theorem SchH.full {w wr w' : World} {lb mb g n l0 : Nat} {A : List At} {vC : Value} {E : List (Pt × Value × List Nat)} {L : List Cm} {F : List Fa} {la j : Nat} {f : Fa} (h : SchH w wr lb mb g n l0 A vC E L F la j f) (hb : BkF w' g n (F ++ [f])) (hf : Frm wr w' (fun k => k = g)) : SchI w w' lb mb g n l0 A vC E L (F ++ [f]) la (j + 1) := by
  obtain ⟨cs, h1, _⟩ := h.bk
  refine ⟨h.log.frmF hf h1 (by decide), hb, h.run, h.bel.trans (hf.below h.bel.size (fun k hk => by have := h.gw; omega)), h.gw, by simp [h.fl], h.la1, h.la2, h.ll⟩
set_option maxHeartbeats 8000000 in
theorem schedule_ok (l0 : Nat) (v : Value) (A : List At) (w : World) (hA : RdAt w v A) (hl0 : l0 ≤ 4611686018427387904) (hlen : A.length ≤ 4096) :
    Calls Tryz.prog 21 #[.int .u64 (l0 : Nat), v] w fun e w' => ∃ g F la L, e = .returned (.tuple #[.slice (some ⟨g, 0, none⟩) A.length A.length, .int .i64 0]) ∧ BkF w' g A.length F ∧ RunR l0 A.reverse F.reverse la L ∧ w.heap.size ≤ g ∧ Below w.heap.size w w' := by
  obtain ⟨p, c, rfl, hlc, -, hrow⟩ := hA.f
  obtain ⟨n, hn⟩ : ∃ n, A.length = n := ⟨_, rfl⟩
  have HRow : Hid (∀ i (hi : i < A.length), ∃ b o, p = some ⟨b, o, none⟩ ∧ b < w.heap.size ∧ w.cell? ⟨b, o + i * 5, none⟩ = some (.int .u64 (A[i].fr : Nat)) ∧ w.cell? ⟨b, o + i * 5 + 1, none⟩ = some A[i].v0 ∧ w.cell? ⟨b, o + i * 5 + 2, none⟩ = some A[i].v1 ∧ w.cell? ⟨b, o + i * 5 + 3, none⟩ = some A[i].v2 ∧ w.cell? ⟨b, o + i * 5 + 4, none⟩ = some (.int .i64 A[i].lv)) := hrow
  have HFt : Hid (∀ c ∈ A, RdF w c.v0 c.v1 c.v2 c.a ∧ c.fr < 18446744073709551616) := hA.ft
  have HLn : Hid (A.length = n ∧ n ≤ 4096) := ⟨hn, by omega⟩
  rw [hn] at hlc ⊢
  have d0 : decide ((4611686018427387904 : Int) < (l0 : Int)) = false := decide_eq_false (by omega)
  have d1 : decide ((4096 : Int) < (n : Int)) = false := decide_eq_false (by omega)
  have hmk : ∀ w3 : World, (Instr.makeSlice 55 (.int .i64 (n : Int)) (.int .i64 (n : Int))).run Tryz.prog w3 = .ok (.slice (some ⟨w3.heap.size, 0, none⟩) n n) (w3.alloc (.cells (madeCells #[.int .u64 0, .int .i64 0, .int .u64 0, .int .i64 0, .int .i64 0, .string ⟨#[]⟩] (n * 6)) 59)) := by
    intro w3
    obtain ⟨i, hi, q0, q1, q2⟩ := info_parts info_F
    have := run_make (P := Tryz.prog) w3 55 59 i _ Tryz.underlying55 hi q0 .i64 .i64 (n : Int) (n : Int) (by omega) (Int.le_refl _) (by rw [q2]; omega) (by omega)
    rw [this, q1]
    simp [Value.cells]
  have HL0 : Hid (l0 ≤ 4611686018427387904) := hl0
  have CN : Hid (Calls _ _ _ _ _) := newLog_any w
  clear hA hrow hn hl0 hlen
  go_enter Tryz.func21, Tryz.ntmps21
  go_wp2_with fail
  refine CN.out.mono ?_
  rintro e w1 ⟨lb, vC, mb, E, rfl, hX1, hb1⟩
  clear CN
  obtain ⟨w2, hw2⟩ : ∃ w2, w1.alloc (.cells (madeCells #[.int .u64 0, .int .i64 0, .int .u64 0, .int .i64 0, .int .i64 0, .string ⟨#[]⟩] (n * 6)) 59) = w2 := ⟨_, rfl⟩
  have hal : Below w1.heap.size w1 w2 := by rw [← hw2]; exact (Below.refl _ _).alloc (Nat.le_refl _) _
  have HI2 : Hid (SchI w w2 lb mb w1.heap.size n l0 A vC E [] [] l0 0) := ⟨hX1.on hal, ⟨_, by rw [← hw2]; exact Blk.new w1 _ _, size_madeCells _ _, fun i hi => absurd hi (by simp)⟩, ⟨rfl, rfl⟩, hb1.trans (hal.mono hb1.size), hb1.size, rfl, HL0.out, Nat.zero_le _, Nat.zero_le _⟩
  clear hal hX1 hb1
  go_wp2_with fail
  clear hmk hw2 d0 d1
  obtain ⟨g, hg⟩ : ∃ g, w1.heap.size = g := ⟨_, rfl⟩
  rw [hg] at HI2 ⊢
  clear hg
  go_loopw [0, 21] (fun l i wr => ∃ (j la : Nat) (vC : Value) (E : List (Pt × Value × List Nat)) (L : List Cm) (F : List Fa), j ≤ n ∧ l = .int .u64 (la : Int) ∧ i = .int .i64 (j : Int) ∧ Hid (SchI w wr lb mb g n l0 A vC E L F la j)) (fun _ i _ => n - (intOf i).toNat)
  case atStart => exact ⟨0, l0, vC, E, [], [], Nat.zero_le _, rfl, by go_num, HI2⟩
  case round =>
    obtain ⟨j, la, vC', E', L, F, hj, rfl, rfl, HI⟩ := hrel
    clear HI2
    by_cases hj0 : j = n
    · subst hj0
      go_wp2_with fail
      refine bodyPost_ret (v := .tuple #[.slice (some ⟨g, 0, none⟩) j j, .int .i64 0]) (by simp [results, Tryz.results21, go_sem]) rfl ?_
      have hr := HI.out.run
      rw [List.take_of_length_le (by have := HLn.out.1; omega)] at hr
      exact ⟨g, F, la, L, rfl, HI.out.bk, hr, HI.out.gw, HI.out.bel⟩
    · have hj1 : j < n := by omega
      have hjA : j < A.length := by have := HLn.out.1; omega
      obtain ⟨b, o, rfl, hbl, d0, d1, d2, d3, d4⟩ := HRow.out j hjA
      have hft := HFt.out A[j] (List.getElem_mem hjA)
      obtain ⟨k, hk⟩ : ∃ k, A[j] = k := ⟨_, rfl⟩
      have HK : Hid (∃ h : j < A.length, A[j] = k) := ⟨hjA, hk⟩
      rw [hk] at d0 d1 d2 d3 d4 hft
      clear hk hjA
      obtain ⟨fr, ka, lv, v0, v1, v2⟩ := k
      dsimp only at d0 d1 d2 d3 d4 hft
      obtain ⟨⟨p0, n0, c0, e0⟩, ⟨p1, n1, c1, e1⟩, ⟨p2, n2, c2, e2⟩⟩ : (∃ p n c, v0 = .slice p n c) ∧ (∃ p n c, v1 = .slice p n c) ∧ (∃ p n c, v2 = .slice p n c) := by
        obtain ⟨p0, c0, e0, _⟩ := hft.1.p.f
        obtain ⟨p1, c1, e1, _⟩ := hft.1.s.f
        obtain ⟨p2, c2, e2, _⟩ := hft.1.w.f
        exact ⟨⟨_, _, _, e0⟩, ⟨_, _, _, e1⟩, ⟨_, _, _, e2⟩⟩
      subst e0 e1 e2
      have HR : Hid (RdF w (.slice p0 n0 c0) (.slice p1 n1 c1) (.slice p2 n2 c2) ka ∧ fr < 18446744073709551616) := hft
      have a0 := (HI.out.bel.cell (p := ⟨b, o + j * 5, none⟩) hbl).trans d0
      have a1 := (HI.out.bel.cell (p := ⟨b, o + j * 5 + 1, none⟩) hbl).trans d1
      have a2 := (HI.out.bel.cell (p := ⟨b, o + j * 5 + 2, none⟩) hbl).trans d2
      have a3 := (HI.out.bel.cell (p := ⟨b, o + j * 5 + 3, none⟩) hbl).trans d3
      have a4 := (HI.out.bel.cell (p := ⟨b, o + j * 5 + 4, none⟩) hbl).trans d4
      clear hft d0 d1 d2 d3 d4 hbl
      obtain ⟨w4, hw4⟩ : ∃ w4, wr.alloc (.cells #[.int .u64 (fr : Nat), .slice p0 n0 c0, .slice p1 n1 c1, .slice p2 n2 c2, .int .i64 lv] 48) = w4 := ⟨_, rfl⟩
      have hal : Below wr.heap.size wr w4 := by rw [← hw4]; exact (Below.refl _ _).alloc (Nat.le_refl _) _
      have HK4 : Hid (Blk w4 wr.heap.size #[.int .u64 (fr : Nat), .slice p0 n0 c0, .slice p1 n1 c1, .slice p2 n2 c2, .int .i64 lv] 48) := by rw [← hw4]; exact Blk.new wr _ _
      have HI4 : Hid (SchI w w4 lb mb g n l0 A vC' E' L F la j) := HI.out.on hal
      have CC : Hid (Calls _ _ _ _ _) := commit_any ka _ _ _ w.heap.size lb fr la lv vC' mb E' L w4 HI4.out.log (HR.out.1.on HI4.out.bel) HR.out.2 HI4.out.la1 HI4.out.la2 (by have := HI4.out.ll; have := HLn.out.2; omega)
      have b0 := HK4.out.cell (i := 0) rfl
      have b1 := HK4.out.cell (i := 1) rfl
      have b2 := HK4.out.cell (i := 2) rfl
      have b3 := HK4.out.cell (i := 3) rfl
      have b4 := HK4.out.cell (i := 4) rfl
      clear hal HI HK4
      go_wp2_with fail
      clear a0 a1 a2 a3 a4 b0 b1 b2 b3 b4 hw4
      refine CC.out.mono ?_
      rintro e w5 ⟨f, la5, vC5, E5, L5, rfl, hX5, hS5, hm5, hF5⟩
      clear CC
      have HH : Hid (SchH w w5 lb mb g n l0 A vC5 E5 L5 F la5 j f) := by
        obtain ⟨hjA, hk⟩ := HK.out
        exact HI4.out.half hjA hX5 (by rw [hk]; exact hS5) hF5
      clear hX5 hS5 hF5 HI4 HR
      obtain ⟨st, er, q⟩ := f
      obtain ⟨⟨m, x⟩, hx⟩ : ∃ y, clC q = y := ⟨_, rfl⟩
      dsimp only [Fa.cells]
      rw [hx]
      dsimp only at hm5 ⊢
      have hfl := HH.out.fl
      have hSn := HH.out.bk.snoc ⟨st, er, q⟩ (by omega)
      dsimp only at hSn
      rw [hx, hfl] at hSn
      obtain ⟨y0, y1, y2, y3, y4, y5, z0, z1, z2, z3, z4, z5⟩ := HH.out.bk.room j hj1
      have f0 := HH.out.bk.frozen (j * 6)
      have f1 := HH.out.bk.frozen (j * 6 + 1)
      have f2 := HH.out.bk.frozen (j * 6 + 2)
      have f3 := HH.out.bk.frozen (j * 6 + 3)
      have f4 := HH.out.bk.frozen (j * 6 + 4)
      have f5 := HH.out.bk.frozen (j * 6 + 5)
      have HIn : Hid (SchI w ((((((w5.setCell ⟨g, j * 6, none⟩ (.int .u64 (st : Nat))).setCell ⟨g, j * 6 + 1, none⟩ (.int .i64 er)).setCell ⟨g, j * 6 + 2, none⟩ (.int .u64 (m : Nat))).setCell ⟨g, j * 6 + 3, none⟩ (.int .i64 x.t)).setCell ⟨g, j * 6 + 4, none⟩ (.int .i64 x.i)).setCell ⟨g, j * 6 + 5, none⟩ (.string x.k)) lb mb g n l0 A vC5 E5 L5 (F ++ [⟨st, er, q⟩]) la5 (j + 1)) := HH.out.full hSn.1 hSn.2
      obtain ⟨w6, hw6⟩ : ∃ w6, ((((((w5.setCell ⟨g, j * 6, none⟩ (.int .u64 (st : Nat))).setCell ⟨g, j * 6 + 1, none⟩ (.int .i64 er)).setCell ⟨g, j * 6 + 2, none⟩ (.int .u64 (m : Nat))).setCell ⟨g, j * 6 + 3, none⟩ (.int .i64 x.t)).setCell ⟨g, j * 6 + 4, none⟩ (.int .i64 x.i)).setCell ⟨g, j * 6 + 5, none⟩ (.string x.k)) = w6 := ⟨_, rfl⟩
      rw [hw6] at HIn
      have t0 : w6.cell? ⟨g, j * 6, none⟩ = some (.int .u64 (st : Nat)) := by
        have h := (HIn.out.bk.cell j (by simp [hfl])).1
        rw [List.getElem_append_right (by omega)] at h
        simpa [hfl] using h
      have hmx : max (la : Int) (st : Int) = ((la5 : Nat) : Int) := by omega
      clear hx hfl hSn hm5 HH
      have hn4 : n ≤ 4096 := HLn.out.2
      go_wp2_with fail
      clear hw6 t0 z0 z1 z2 z3 z4 z5 f0 f1 f2 f3 f4 f5 hmx
      go_roundw
      case rel => exact ⟨j + 1, la5, vC5, E5, L5, F ++ [⟨st, er, q⟩], hj1, rfl, by go_num, HIn⟩
      case measure => simp [intOf]; have := HLn.out.2; omega

end Go.Proofs.YtcknhjabdjbjiaaGreat

namespace Go.Proofs.YtcknhjabdjbjiaaGreat
open Go.RowKit
set_option maxRecDepth 100000

def facells (F : List Fa) : List Value := F.flatMap Fa.cells
theorem facells_append (L M : List Fa) : facells (L ++ M) = facells L ++ facells M := by unfold facells; exact List.flatMap_append
/-- fates in a row of one's own -/
def OwnFa (w : World) (B : Nat) (v : Value) (F : List Fa) : Prop := w.ownsRow B 59 6 v F.length (facells F)
theorem OwnFa.nil (w : World) (B : Nat) : OwnFa w B (.slice none 0 0) [] := World.ownsRow_nil w B _ _
theorem OwnFa.on {w w' : World} {B : Nat} {v : Value} {L : List Fa} (h : OwnFa w B v L) (hb : Below w.heap.size w w') : OwnFa w' B v L := ownsRow_by h (fun _ _ _ hg => hb.block _ (Array.getElem?_eq_some_iff.1 hg).1)
theorem facells_at {L : List Fa} : ∀ {i k : Nat} (hi : i < L.length), k < 6 → (facells L)[i * 6 + k]? = L[i].cells[k]? := by
  induction L with
  | nil => intro i k hi; simp at hi
  | cons c L ih =>
    intro i k hi hk
    have hc : facells (c :: L) = c.cells ++ facells L := rfl
    have hl : c.cells.length = 6 := rfl
    rw [hc]
    cases i with
    | zero =>
      rw [List.getElem?_append_left (by omega)]
      simp
    | succ i =>
      rw [List.getElem?_append_right (by omega), hl, show (i + 1) * 6 + k - 6 = i * 6 + k by omega]
      exact ih (by simpa using hi) hk
/-- fates that are read -/
structure RdFa (w : World) (v : Value) (F : List Fa) : Prop where
  f : ∃ p c, v = .slice p F.length c ∧ F.length ≤ c ∧ ∀ i (hi : i < F.length), ∃ b o, p = some ⟨b, o, none⟩ ∧ b < w.heap.size ∧ ∀ k, k < 6 → ∀ y, F[i].cells[k]? = some y → w.cell? ⟨b, o + i * 6 + k, none⟩ = some y
theorem RdFa.on {w w' : World} {v : Value} {F : List Fa} (h : RdFa w v F) (hb : Below w.heap.size w w') : RdFa w' v F := by
  obtain ⟨p, c, e, h1, h3⟩ := h.f
  refine ⟨p, c, e, h1, fun i hi => ?_⟩
  obtain ⟨b, o, e, hbB, hc⟩ := h3 i hi
  exact ⟨b, o, e, Nat.lt_of_lt_of_le hbB hb.size, fun k hk y hy => (hb.cell (p := ⟨b, _, none⟩) hbB).trans (hc k hk y hy)⟩
theorem OwnFa.rd {w : World} {B : Nat} {v : Value} {L : List Fa} (h : OwnFa w B v L) : RdFa w v L := by
  rcases (show w.ownsRow B 59 6 v L.length (facells L) from h).2 with ⟨rfl, h0⟩ | ⟨g, cap, cur, rfl, hB, hgb, hc, _, hsz, htk⟩
  · have : L = [] := List.eq_nil_of_length_eq_zero h0
    subst this
    exact ⟨none, 0, rfl, Nat.le_refl _, fun i hi => absurd hi (by simp)⟩
  · refine ⟨some ⟨g, 0, none⟩, cap, rfl, hc, fun i hi => ⟨g, 0, rfl, (Array.getElem?_eq_some_iff.1 hgb).1, fun k hk y hy => ?_⟩⟩
    rw [← facells_at hi hk, ← htk, List.getElem?_take_of_lt (by omega), Array.getElem?_toList] at hy
    rw [Nat.zero_add]
    exact (show Blk w g cur 59 from hgb).cell hy
theorem BkF.rd {w : World} {g n : Nat} {F : List Fa} (h : BkF w g n F) (hn : F.length = n) : RdFa w (.slice (some ⟨g, 0, none⟩) n n) F := by
  obtain ⟨cs, h1, h2, h3⟩ := h
  refine ⟨_, _, by rw [hn], by omega, fun i hi => ⟨g, 0, rfl, h1.lt, fun k hk y hy => ?_⟩⟩
  rw [Nat.zero_add]
  exact h1.cell ((h3 i hi k hk).trans hy)
theorem wpList_appF1 {ops : Array Oper} {rest : List Oper} {o : Oper} {a : Act} {Q : Exit → Act → World → Prop} (w : World) (hgd : o.guard = none) (s x : Operand)
    (ho : o.op = .call { callee := .builtin .append, args := #[s, x], argTypes := #[55, 55] })
    (B : Nat) (v : Value) (L : List Fa) (hs : a.eval s = v) (hown : OwnFa w B v L)
    (u : Fa) (g : Nat) (hx : a.eval x = .slice (some ⟨g, 0, none⟩) 1 1) (hC : Blk w g u.cells.toArray 59)
    (hlen : L.length + 1 ≤ 200000) (hbase : B ≤ w.heap.size)
    (h : ∀ v' w', OwnFa w' B v' (L ++ [u]) → w.grownBy w' v.ownBlock → wpList Tryz.prog ops Q rest (a.put o.dst v') w') : wpList Tryz.prog ops Q (o :: rest) a w := by
  obtain ⟨i, hi, hz0, hz1, hz2⟩ := info_parts info_F
  refine wpList_append_own _ hgd s x 55 ho B 59 i (.agg #[.int .u64 0, .int .i64 0, .int .u64 0, .int .i64 0, .int .i64 0, .string ⟨#[]⟩]) 6 56 Tryz.underlying55 hi hz0 hz1 hz2 rfl (by decide) v L.length (facells L) hs hown ⟨g, 0, none⟩ 1 1 (facells [u]) hx rfl ?_ ?_ (by unfold maxLen; omega) (by omega) hbase ?_
  · intro j y hj
    have e : (⟨g, 0, none⟩ : Addr).add j = ⟨g, j, none⟩ := by unfold Addr.add; split <;> simp_all
    rw [e]
    refine hC.cell ?_
    have e2 : facells [u] = u.cells := by unfold facells; simp
    rw [e2] at hj
    simpa using hj
  · intro y hy
    have e2 : facells [u] = u.cells := by unfold facells; simp
    rw [e2] at hy
    simp [Fa.cells] at hy
    rcases hy with rfl | rfl | rfl | rfl | rfl | rfl <;> rfl
  · intro v' w' h1 h2 _
    refine h v' w' ?_ h2
    unfold OwnFa
    rw [facells_append, List.length_append]
    exact h1
theorem OwnFa.blk {w : World} {B : Nat} {v : Value} {L : List Fa} (h : OwnFa w B v L) {g : Nat} (hg : v.ownBlock = some g) : B ≤ g ∧ ∃ cur, w.heap[g]? = some (.cells cur 59 (0, 0)) := by
  rcases (show w.ownsRow B 59 6 v L.length (facells L) from h).2 with ⟨rfl, _⟩ | ⟨g', cap, cur, rfl, hB, hgb, _⟩
  · cases hg
  · cases hg
    exact ⟨hB, cur, hgb⟩
theorem OwnFa.form {w : World} {B : Nat} {v : Value} {L : List Fa} (h : OwnFa w B v L) : ∃ p n c, v = .slice p n c := by
  rcases (show w.ownsRow B 59 6 v L.length (facells L) from h).2 with ⟨rfl, _⟩ | ⟨g', cap, cur, rfl, _⟩ <;> exact ⟨_, _, _, rfl⟩
/-- the document's Schedule under way -/
structure SdI (w wr : World) (n l0 : Nat) (A : List At) (vm : Value) (M : List Cm) (vo : Value) (F : List Fa) (la j : Nat) : Prop where
  doc : DocB w wr w.heap.size vm M
  own : OwnFa wr w.heap.size vo F
  run : RunR l0 (A.take j).reverse F.reverse la M
  inv : InvC M
  bel : Below w.heap.size w wr
  la1 : la ≤ 4611686018427387904
  la2 : lastC M ≤ la
  ll : M.length ≤ j
  fl : F.length = j
theorem SdI.on {w wr w' : World} {n l0 : Nat} {A : List At} {vm : Value} {M : List Cm} {vo : Value} {F : List Fa} {la j : Nat} (h : SdI w wr n l0 A vm M vo F la j) (hb : Below wr.heap.size wr w') : SdI w w' n l0 A vm M vo F la j :=
  ⟨⟨h.doc.own.on hb, h.doc.ft⟩, h.own.on hb, h.run, h.inv, h.bel.trans (hb.mono h.bel.size), h.la1, h.la2, h.ll, h.fl⟩
/-- an attempt was tried; what became of it is not yet laid down -/
structure SdH (w wr : World) (n l0 : Nat) (A : List At) (vm : Value) (M : List Cm) (vo : Value) (F : List Fa) (la j : Nat) (f : Fa) : Prop where
  doc : DocB w wr w.heap.size vm M
  own : OwnFa wr w.heap.size vo F
  run : RunR l0 (A.take (j + 1)).reverse (F ++ [f]).reverse la M
  inv : InvC M
  bel : Below w.heap.size w wr
  la1 : la ≤ 4611686018427387904
  la2 : lastC M ≤ la
  ll : M.length ≤ j + 1
  fl : F.length = j
theorem SdH.on {w wr w' : World} {n l0 : Nat} {A : List At} {vm : Value} {M : List Cm} {vo : Value} {F : List Fa} {la j : Nat} {f : Fa} (h : SdH w wr n l0 A vm M vo F la j f) (hb : Below wr.heap.size wr w') : SdH w w' n l0 A vm M vo F la j f :=
  ⟨⟨h.doc.own.on hb, h.doc.ft⟩, h.own.on hb, h.run, h.inv, h.bel.trans (hb.mono h.bel.size), h.la1, h.la2, h.ll, h.fl⟩
theorem SdI.half {w wr w' : World} {n l0 : Nat} {A : List At} {vm vm' : Value} {M M' : List Cm} {vo : Value} {F : List Fa} {la la' j : Nat} {f : Fa} (h : SdI w wr n l0 A vm M vo F la j) (hj : j < A.length) (hd : DocB w w' w.heap.size vm' M') (hI : InvC M') (hs : StpQ A[j] la M f la' M') (hb : Below wr.heap.size wr w') : SdH w w' n l0 A vm' M' vo F la' j f := by
  refine ⟨hd, h.own.on hb, ?_, hI, h.bel.trans (hb.mono h.bel.size), ?_, ?_, ?_, h.fl⟩
  · rw [take_snoc A j hj, List.reverse_append, List.reverse_append]
    exact ⟨la, M, h.run, hs⟩
  all_goals
    obtain ⟨er, h1, h2⟩ := hs
    have k1 := h.la1
    have k2 := h.la2
    have k3 := h.ll
    rcases h2 with ⟨a1, a2, a3, a4, a5⟩ | ⟨a1, a2, a3, a4, a5, a6⟩ | ⟨a1, a2, a3, a4, a5, c, a6, a7, a8, a9⟩
  · omega
  · omega
  · omega
  · rw [a5, a4]; exact k2
  · rw [a6, a5]; exact k2
  · rw [a6, lastC_snoc, a7, a5]; exact Nat.le_refl _
  · rw [a5]; omega
  · rw [a6]; omega
  · rw [a6]; simp; omega
theorem SdH.full {w wr w' : World} {n l0 : Nat} {A : List At} {vm : Value} {M : List Cm} {vo vo' : Value} {F : List Fa} {la j : Nat} {f : Fa} (h : SdH w wr n l0 A vm M vo F la j f) (ho : OwnFa w' w.heap.size vo' (F ++ [f])) (hg : wr.grownBy w' vo.ownBlock) : SdI w w' n l0 A vm M vo' (F ++ [f]) la (j + 1) := by
  have hbel : Below w.heap.size w w' := h.bel.grown hg h.bel.size (fun k hk => (h.own.blk hk).1)
  refine ⟨⟨ownsRow_by h.doc.own (fun g cur hg1 hg2 => hg.block g (Array.getElem?_eq_some_iff.1 hg2).1 (fun e => by
    obtain ⟨_, cur', h3⟩ := h.own.blk e.symm
    rw [hg2] at h3
    cases h3)), h.doc.ft⟩, ho, h.run, h.inv, hbel, h.la1, h.la2, h.ll, by simp [h.fl]⟩
theorem SdI.frmB {w w3 w4 : World} {n l0 : Nat} {A : List At} {vm : Value} {M : List Cm} {vo : Value} {F : List Fa} {la j z : Nat} {cs : Array Value} (h : SdI w w3 n l0 A vm M vo F la j) (hf : Frm w3 w4 (fun k => k = z)) (hz : w.heap.size ≤ z) (ho : ∀ g, vo.ownBlock = some g → g ≠ z) (hk : Blk w3 z cs 59) : SdI w w4 n l0 A vm M vo F la j :=
  ⟨⟨ownsRow_by h.doc.own (fun g cur _ hg2 => hf.block g (Array.getElem?_eq_some_iff.1 hg2).1 (fun e => by
    subst e
    rw [show w3.heap[g]? = some (.cells cs 59 (0, 0)) from hk] at hg2
    cases hg2)), h.doc.ft⟩, ownsRow_by h.own (fun g cur hg hg2 => hf.block g (Array.getElem?_eq_some_iff.1 hg2).1 (ho g hg)), h.run, h.inv, h.bel.trans (hf.below h.bel.size (fun k hk => by omega)), h.la1, h.la2, h.ll, h.fl⟩
theorem SdI.old {w w3 : World} {n l0 : Nat} {A : List At} {vm : Value} {M : List Cm} {vo : Value} {F : List Fa} {la j : Nat} (h : SdI w w3 n l0 A vm M vo F la j) : ∀ g, vo.ownBlock = some g → g ≠ w3.heap.size := fun g hg e => by
  obtain ⟨_, cur, h2⟩ := h.own.blk hg
  have := (Array.getElem?_eq_some_iff.1 h2).1
  omega
set_option maxHeartbeats 8000000 in
theorem rschedule_ok (l0 : Nat) (v : Value) (A : List At) (w : World) (hA : RdAt w v A) (hl0 : l0 ≤ 4611686018427387904) (hlen : A.length ≤ 4096) :
    Calls Tryz.prog 22 #[.int .u64 (l0 : Nat), v] w fun e w' => ∃ vo F la M, e = .returned (.tuple #[vo, .int .i64 0]) ∧ OwnFa w' w.heap.size vo F ∧ RunR l0 A.reverse F.reverse la M ∧ Below w.heap.size w w' := by
  obtain ⟨p, c, rfl, hlc, -, hrow⟩ := hA.f
  obtain ⟨n, hn⟩ : ∃ n, A.length = n := ⟨_, rfl⟩
  have HRow : Hid (∀ i (hi : i < A.length), ∃ b o, p = some ⟨b, o, none⟩ ∧ b < w.heap.size ∧ w.cell? ⟨b, o + i * 5, none⟩ = some (.int .u64 (A[i].fr : Nat)) ∧ w.cell? ⟨b, o + i * 5 + 1, none⟩ = some A[i].v0 ∧ w.cell? ⟨b, o + i * 5 + 2, none⟩ = some A[i].v1 ∧ w.cell? ⟨b, o + i * 5 + 3, none⟩ = some A[i].v2 ∧ w.cell? ⟨b, o + i * 5 + 4, none⟩ = some (.int .i64 A[i].lv)) := hrow
  have HFt : Hid (∀ c ∈ A, RdF w c.v0 c.v1 c.v2 c.a ∧ c.fr < 18446744073709551616) := hA.ft
  have HLn : Hid (A.length = n ∧ n ≤ 4096) := ⟨hn, by omega⟩
  rw [hn] at hlc ⊢
  have d0 : decide ((4611686018427387904 : Int) < (l0 : Int)) = false := decide_eq_false (by omega)
  have d1 : decide ((4096 : Int) < (n : Int)) = false := decide_eq_false (by omega)
  have HI2 : Hid (SdI w w n l0 A (.slice none 0 0) [] (.slice none 0 0) [] l0 0) := ⟨⟨OwnD.nil _ _, by simp⟩, OwnFa.nil _ _, ⟨rfl, rfl⟩, ⟨fun i j hi => absurd hi (by simp), by simp, by simp, by simp, by simp⟩, Below.refl _ _, hl0, Nat.zero_le _, Nat.zero_le _, rfl⟩
  clear hA hrow hn hl0 hlen
  go_enter Tryz.func22, Tryz.ntmps22
  go_wp2_with fail
  clear d0 d1
  go_loopw [0, 6, 7, 8] (fun l vm vo i wr => ∃ (j la : Nat) (M : List Cm) (F : List Fa), j ≤ n ∧ l = .int .u64 (la : Int) ∧ i = .int .i64 (j : Int) ∧ Hid (SdI w wr n l0 A vm M vo F la j)) (fun _ _ _ i _ => n - (intOf i).toNat)
  case atStart => exact ⟨0, l0, [], [], Nat.zero_le _, rfl, by go_num, HI2⟩
  case round =>
    obtain ⟨j, la, M, F, hj, rfl, rfl, HI⟩ := hrel
    clear HI2
    obtain ⟨vm, hvm⟩ : ∃ vm, u6 = vm := ⟨_, rfl⟩
    obtain ⟨vo, hvo⟩ : ∃ vo, u7 = vo := ⟨_, rfl⟩
    subst hvm hvo
    by_cases hj0 : j = n
    · subst hj0
      go_wp2_with fail
      refine bodyPost_ret (v := .tuple #[u7, .int .i64 0]) (by simp [results, Tryz.results22, go_sem]) rfl ?_
      have hr := HI.out.run
      rw [List.take_of_length_le (by have := HLn.out.1; omega)] at hr
      exact ⟨_, F, la, M, rfl, HI.out.own, hr, HI.out.bel⟩
    · have hj1 : j < n := by omega
      have hjA : j < A.length := by have := HLn.out.1; omega
      obtain ⟨b, o, rfl, hbl, d0, d1, d2, d3, d4⟩ := HRow.out j hjA
      have hft := HFt.out A[j] (List.getElem_mem hjA)
      obtain ⟨k, hk⟩ : ∃ k, A[j] = k := ⟨_, rfl⟩
      have HK : Hid (∃ h : j < A.length, A[j] = k) := ⟨hjA, hk⟩
      rw [hk] at d0 d1 d2 d3 d4 hft
      clear hk hjA
      obtain ⟨fr, ka, lv, v0, v1, v2⟩ := k
      dsimp only at d0 d1 d2 d3 d4 hft
      obtain ⟨⟨p0, n0, c0, e0⟩, ⟨p1, n1, c1, e1⟩, ⟨p2, n2, c2, e2⟩⟩ : (∃ p n c, v0 = .slice p n c) ∧ (∃ p n c, v1 = .slice p n c) ∧ (∃ p n c, v2 = .slice p n c) := by
        obtain ⟨p0, c0, e0, _⟩ := hft.1.p.f
        obtain ⟨p1, c1, e1, _⟩ := hft.1.s.f
        obtain ⟨p2, c2, e2, _⟩ := hft.1.w.f
        exact ⟨⟨_, _, _, e0⟩, ⟨_, _, _, e1⟩, ⟨_, _, _, e2⟩⟩
      subst e0 e1 e2
      have HR : Hid (RdF w (.slice p0 n0 c0) (.slice p1 n1 c1) (.slice p2 n2 c2) ka ∧ fr < 18446744073709551616) := hft
      have HD : Hid (∀ w9, Below w.heap.size w w9 → w9.cell? ⟨b, o + j * 5, none⟩ = some (.int .u64 (fr : Nat)) ∧ w9.cell? ⟨b, o + j * 5 + 1, none⟩ = some (.slice p0 n0 c0) ∧ w9.cell? ⟨b, o + j * 5 + 2, none⟩ = some (.slice p1 n1 c1) ∧ w9.cell? ⟨b, o + j * 5 + 3, none⟩ = some (.slice p2 n2 c2) ∧ w9.cell? ⟨b, o + j * 5 + 4, none⟩ = some (.int .i64 lv)) := fun w9 h9 => ⟨(h9.cell (p := ⟨b, o + j * 5, none⟩) hbl).trans d0, (h9.cell (p := ⟨b, o + j * 5 + 1, none⟩) hbl).trans d1, (h9.cell (p := ⟨b, o + j * 5 + 2, none⟩) hbl).trans d2, (h9.cell (p := ⟨b, o + j * 5 + 3, none⟩) hbl).trans d3, (h9.cell (p := ⟨b, o + j * 5 + 4, none⟩) hbl).trans d4⟩
      clear hft d0 d1 d2 d3 d4 hbl
      obtain ⟨wz, hwz⟩ : ∃ wz, wr.alloc (.cells #[.int .u64 0, .int .i64 0, .int .u64 0, .int .i64 0, .int .i64 0, .string ⟨#[]⟩] 59) = wz := ⟨_, rfl⟩
      have hal : Below wr.heap.size wr wz := by rw [← hwz]; exact (Below.refl _ _).alloc (Nat.le_refl _) _
      have HKz : Hid (Blk wz wr.heap.size #[.int .u64 0, .int .i64 0, .int .u64 0, .int .i64 0, .int .i64 0, .string ⟨#[]⟩] 59) := by rw [← hwz]; exact Blk.new wr _ _
      have HIz : Hid (SdI w wz n l0 A u6 M u7 F la j) := HI.out.on hal
      obtain ⟨a0, a1, a2, a3, a4⟩ := HD.out wz HIz.out.bel
      have CT : Hid (Calls _ _ _ _ _) := rtry_any ka _ _ _ w.heap.size fr lv u6 M wz (HIz.out.doc.doc HIz.out.bel) HIz.out.inv (HR.out.1.on HIz.out.bel)
      have HLr : Hid (w.heap.size ≤ wr.heap.size) := HI.out.bel.size
      have HOb : Hid (∀ g, u7.ownBlock = some g → g ≠ wr.heap.size) := HI.out.old
      clear hal HI
      go_wp2_with fail
      clear a0 a1 a2 a3 a4 hwz
      refine CT.out.mono ?_
      rintro e w3 ⟨q, er, rfl, hq, hb3⟩
      clear CT
      have HQ : Hid (TryQ ka fr lv M q er) := hq
      have HI3 : Hid (SdI w w3 n l0 A u6 M u7 F la j) := HIz.out.on hb3
      have hK3 := HKz.out.on hb3
      clear hq hb3 HIz HKz
      rw [clA_eq]
      obtain ⟨⟨m, x⟩, hx⟩ : ∃ y, clC q = y := ⟨_, rfl⟩
      rw [hx]
      have HL : Hid (clC q = (m, x)) := hx
      clear hx
      dsimp only
      have z1 := hK3.cell (i := 1) rfl
      have z2 := hK3.cell (i := 2) rfl
      have z3 := hK3.cell (i := 3) rfl
      have z4 := hK3.cell (i := 4) rfl
      have z5 := hK3.cell (i := 5) rfl
      have f1 := hK3.frozen 1
      have f2 := hK3.frozen 2
      have f3 := hK3.frozen 3
      have f4 := hK3.frozen 4
      have f5 := hK3.frozen 5
      obtain ⟨w4, hw4⟩ : ∃ w4, (((((w3.setCell ⟨wr.heap.size, 2, none⟩ (.int .u64 (m : Nat))).setCell ⟨wr.heap.size, 3, none⟩ (.int .i64 x.t)).setCell ⟨wr.heap.size, 4, none⟩ (.int .i64 x.i)).setCell ⟨wr.heap.size, 5, none⟩ (.string x.k)).setCell ⟨wr.heap.size, 1, none⟩ (.int .i64 er)) = w4 := ⟨_, rfl⟩
      have HFw4 : Hid (Blk w4 wr.heap.size #[.int .u64 0, .int .i64 er, .int .u64 (m : Nat), .int .i64 x.t, .int .i64 x.i, .string x.k] 59) := by
        rw [← hw4]
        exact ((((hK3.set 2 _).set 3 _).set 4 _).set 5 _).set 1 _
      have hf4 : Frm w3 w4 (fun k => k = wr.heap.size) := by
        rw [← hw4]
        exact ((((frm_set _ _ _ _ (F := fun k => k = wr.heap.size) (.inl rfl)).trans (frm_set _ _ _ _ (F := fun k => k = wr.heap.size) (.inl rfl)) (fun k hk => .inl hk)).trans (frm_set _ _ _ _ (F := fun k => k = wr.heap.size) (.inl rfl)) (fun k hk => .inl hk)).trans (frm_set _ _ _ _ (F := fun k => k = wr.heap.size) (.inl rfl)) (fun k hk => .inl hk)).trans (frm_set _ _ _ _ (F := fun k => k = wr.heap.size) (.inl rfl)) (fun k hk => .inl hk)
      have HI4 : Hid (SdI w w4 n l0 A u6 M u7 F la j) := HI3.out.frmB hf4 HLr.out HOb.out hK3
      clear hf4
      by_cases her : er = 0
      · have hz0 : TryQ ka fr lv M q 0 := by rw [← her]; exact HQ.out
        obtain ⟨hca, hqn, -⟩ := hz0.zero
        have HQ0 : Hid (TryQ ka fr lv M q 0 ∧ chkF ka = 0) := ⟨hz0, hca⟩
        subst her
        clear hz0 hca hqn HQ
        have y1 := HFw4.out.cell (i := 1) rfl
        have g1 := HFw4.out.frozen 1
        by_cases hmx : la = 4611686018427387904
        · subst hmx
          obtain ⟨w5, hw5⟩ : ∃ w5, w4.setCell ⟨wr.heap.size, 1, none⟩ (.int .i64 4) = w5 := ⟨_, rfl⟩
          have HFw5 : Hid (Blk w5 wr.heap.size #[.int .u64 0, .int .i64 4, .int .u64 (m : Nat), .int .i64 x.t, .int .i64 x.i, .string x.k] 59) := by rw [← hw5]; exact HFw4.out.set 1 _
          have HI5 : Hid (SdI w w5 n l0 A u6 M u7 F 4611686018427387904 j) := HI4.out.frmB (by rw [← hw5]; exact frm_set _ _ _ _ (F := fun k => k = wr.heap.size) (.inl rfl)) HLr.out HOb.out HFw4.out
          have HH : Hid (SdH w w5 n l0 A u6 M u7 F 4611686018427387904 j ⟨0, 4, q⟩) := by
            obtain ⟨hjA, hk⟩ := HK.out
            exact HI5.out.half hjA HI5.out.doc HI5.out.inv (by rw [hk]; exact ⟨0, HQ0.out.1, .inr (.inl ⟨rfl, rfl, rfl, rfl, rfl, rfl⟩)⟩) (Below.refl _ _)
          clear HI3 HI4 HI5
          have u0 := HFw5.out.cell (i := 0) rfl
          have u1 := HFw5.out.cell (i := 1) rfl
          have u2 := HFw5.out.cell (i := 2) rfl
          have u3 := HFw5.out.cell (i := 3) rfl
          have u4 := HFw5.out.cell (i := 4) rfl
          have u5 := HFw5.out.cell (i := 5) rfl
          obtain ⟨wn, hwn⟩ : ∃ wn, w5.alloc (.cells #[.int .u64 0, .int .i64 4, .int .u64 (m : Nat), .int .i64 x.t, .int .i64 x.i, .string x.k] 59) = wn := ⟨_, rfl⟩
          have hal : Below w5.heap.size w5 wn := by rw [← hwn]; exact (Below.refl _ _).alloc (Nat.le_refl _) _
          have HKn : Hid (Blk wn w5.heap.size (Fa.cells ⟨0, 4, q⟩).toArray 59) := by
            rw [← hwn]
            simp only [Fa.cells, HL.out]
            exact Blk.new w5 _ _
          have HHn : Hid (SdH w wn n l0 A u6 M u7 F 4611686018427387904 j ⟨0, 4, q⟩) := HH.out.on hal
          have hn4 : n ≤ 4096 := HLn.out.2
          have hjl : F.length + 1 ≤ 200000 := by have := HHn.out.fl; omega
          clear hal
          go_wp2_with (first
            | (at_builtin
               refine wpList_appF1 wn rfl _ _ rfl w.heap.size u7 F rfl HHn.out.own ⟨0, 4, q⟩ w5.heap.size rfl HKn.out hjl HHn.out.bel.size ?_
               intro v9 w9 h9 hg9
               have HIn : Hid (SdI w w9 n l0 A u6 M v9 (F ++ [⟨0, 4, q⟩]) 4611686018427387904 (j + 1)) := HHn.out.full h9 hg9
               clear h9 hg9))
          clear u0 u1 u2 u3 u4 u5 hwn hjl
          go_roundw
          case rel => exact ⟨j + 1, 4611686018427387904, M, F ++ [⟨0, 4, q⟩], hj1, rfl, by go_num, HIn⟩
          case measure => simp [intOf]; omega
        · have hml : la < 4611686018427387904 := by have := HI4.out.la1; omega
          have hmd : decide ((la : Int) = 4611686018427387904) = false := decide_eq_false (by omega)
          have hmb : ((la : Int) == 4611686018427387904) = false := by simp; omega
          obtain ⟨lz, hlz⟩ : ∃ lz, la + 1 = lz := ⟨_, rfl⟩
          have hwr : IntKind.u64.wrap ((la : Int) + 1) = ((lz : Nat) : Int) := by rw [IntKind.wrap_u64]; omega
          have y0 := HFw4.out.cell (i := 0) rfl
          have g0 := HFw4.out.frozen 0
          obtain ⟨w5, hw5⟩ : ∃ w5, w4.setCell ⟨wr.heap.size, 0, none⟩ (.int .u64 (lz : Nat)) = w5 := ⟨_, rfl⟩
          have hF5 : Blk w5 wr.heap.size #[.int .u64 (lz : Nat), .int .i64 0, .int .u64 (m : Nat), .int .i64 x.t, .int .i64 x.i, .string x.k] 59 := by rw [← hw5]; exact HFw4.out.set 0 _
          have HI5 : Hid (SdI w w5 n l0 A u6 M u7 F la j) := HI4.out.frmB (by rw [← hw5]; exact frm_set _ _ _ _ (F := fun k => k = wr.heap.size) (.inl rfl)) HLr.out HOb.out HFw4.out
          obtain ⟨-, b1, b2, b3, -⟩ := HD.out w5 HI5.out.bel
          have HNe : Hid (noteE ka lz (lastC M) M.length = 0 ∧ la + 1 = lz ∧ la < 4611686018427387904) := ⟨note4 HQ0.out.2 (by omega) (by have := HI5.out.la2; omega) (by have := HI5.out.ll; have := HLn.out.2; omega), hlz, hml⟩
          have CN : Hid (Calls _ _ _ _ _) := rnote_any ka _ _ _ w.heap.size lz u6 M w5 (HI5.out.doc.doc HI5.out.bel) HI5.out.inv.len (HR.out.1.on HI5.out.bel) (by omega) HI5.out.bel.size
          have HF5 : Hid (Blk w5 wr.heap.size #[.int .u64 (lz : Nat), .int .i64 0, .int .u64 (m : Nat), .int .i64 x.t, .int .i64 x.i, .string x.k] 59) := hF5
          clear hF5 hlz hml hmx HI3 HI4
          go_wp2_with fail
          clear b1 b2 b3 hw5 y0 g0 y1 g1 hw4 z1 z2 z3 z4 z5 f1 f2 f3 f4 f5 hmd hmb hwr
          refine CN.out.mono ?_
          rintro e w6 ⟨v6, M6, rfl, hD6, hN6, hb6⟩
          clear CN
          rw [HNe.out.1]
          have hM6 := hN6.2 HNe.out.1
          have HFw6 : Hid (Blk w6 wr.heap.size #[.int .u64 (lz : Nat), .int .i64 0, .int .u64 (m : Nat), .int .i64 x.t, .int .i64 x.i, .string x.k] 59) := HF5.out.on hb6
          have HH : Hid (SdH w w6 n l0 A v6 M6 u7 F lz j ⟨lz, 0, q⟩) := by
            obtain ⟨hjA, hk⟩ := HK.out
            obtain ⟨k0, k1, k2, k3, k4⟩ := note_ok HNe.out.1
            have hI6 : InvC M6 := by rw [hM6]; exact HI5.out.inv.snoc _ k1 k2 k3 k4 (chk_lw k0)
            have hlz := HNe.out.2.1
            subst hlz
            refine HI5.out.half hjA ⟨hD6.own, fun d hdm => ?_⟩ hI6 (by rw [hk]; exact ⟨0, HQ0.out.1, .inr (.inr ⟨rfl, HNe.out.2.2, rfl, rfl, rfl, _, hM6, rfl, fun y => Iff.rfl, hI6⟩)⟩) hb6
            rw [hM6] at hdm
            rcases List.mem_append.1 hdm with hdm | hdm
            · exact HI5.out.doc.ft d hdm
            · rw [List.mem_singleton] at hdm
              subst hdm
              exact ⟨⟨HR.out.1.w, HR.out.1.lw⟩, rfl, rfl⟩
          clear hD6 hN6 hb6 hM6 HI5 HF5 HNe HQ0
          have u0 := HFw6.out.cell (i := 0) rfl
          have u1 := HFw6.out.cell (i := 1) rfl
          have u2 := HFw6.out.cell (i := 2) rfl
          have u3 := HFw6.out.cell (i := 3) rfl
          have u4 := HFw6.out.cell (i := 4) rfl
          have u5 := HFw6.out.cell (i := 5) rfl
          obtain ⟨wn, hwn⟩ : ∃ wn, w6.alloc (.cells #[.int .u64 (lz : Nat), .int .i64 0, .int .u64 (m : Nat), .int .i64 x.t, .int .i64 x.i, .string x.k] 59) = wn := ⟨_, rfl⟩
          have hal : Below w6.heap.size w6 wn := by rw [← hwn]; exact (Below.refl _ _).alloc (Nat.le_refl _) _
          have HKn : Hid (Blk wn w6.heap.size (Fa.cells ⟨lz, 0, q⟩).toArray 59) := by
            rw [← hwn]
            simp only [Fa.cells, HL.out]
            exact Blk.new w6 _ _
          have HHn : Hid (SdH w wn n l0 A v6 M6 u7 F lz j ⟨lz, 0, q⟩) := HH.out.on hal
          have hn4 : n ≤ 4096 := HLn.out.2
          have hjl : F.length + 1 ≤ 200000 := by have := HHn.out.fl; omega
          clear hal
          go_wp2_with (first
            | (at_builtin
               refine wpList_appF1 wn rfl _ _ rfl w.heap.size u7 F rfl HHn.out.own ⟨lz, 0, q⟩ w6.heap.size rfl HKn.out hjl HHn.out.bel.size ?_
               intro v9 w9 h9 hg9
               have HIn : Hid (SdI w w9 n l0 A v6 M6 v9 (F ++ [⟨lz, 0, q⟩]) lz (j + 1)) := HHn.out.full h9 hg9
               clear h9 hg9))
          clear u0 u1 u2 u3 u4 u5 hwn hjl
          go_roundw
          case rel => exact ⟨j + 1, lz, M6, F ++ [⟨lz, 0, q⟩], hj1, rfl, by go_num, HIn⟩
          case measure => simp [intOf]; omega
      · have HH : Hid (SdH w w4 n l0 A u6 M u7 F la j ⟨0, er, q⟩) := by
          obtain ⟨hjA, hk⟩ := HK.out
          exact HI4.out.half hjA HI4.out.doc HI4.out.inv (by rw [hk]; exact ⟨er, HQ.out, .inl ⟨her, rfl, rfl, rfl, rfl⟩⟩) (Below.refl _ _)
        clear HI3 HI4
        have u0 := HFw4.out.cell (i := 0) rfl
        have u1 := HFw4.out.cell (i := 1) rfl
        have u2 := HFw4.out.cell (i := 2) rfl
        have u3 := HFw4.out.cell (i := 3) rfl
        have u4 := HFw4.out.cell (i := 4) rfl
        have u5 := HFw4.out.cell (i := 5) rfl
        obtain ⟨wn, hwn⟩ : ∃ wn, w4.alloc (.cells #[.int .u64 0, .int .i64 er, .int .u64 (m : Nat), .int .i64 x.t, .int .i64 x.i, .string x.k] 59) = wn := ⟨_, rfl⟩
        have hal : Below w4.heap.size w4 wn := by rw [← hwn]; exact (Below.refl _ _).alloc (Nat.le_refl _) _
        have HKn : Hid (Blk wn w4.heap.size (Fa.cells ⟨0, er, q⟩).toArray 59) := by
          rw [← hwn]
          simp only [Fa.cells, HL.out]
          exact Blk.new w4 _ _
        have HHn : Hid (SdH w wn n l0 A u6 M u7 F la j ⟨0, er, q⟩) := HH.out.on hal
        have hn4 : n ≤ 4096 := HLn.out.2
        have hjl : F.length + 1 ≤ 200000 := by have := HHn.out.fl; omega
        clear hal
        go_wp2_with (first
          | (at_builtin
             refine wpList_appF1 wn rfl _ _ rfl w.heap.size u7 F rfl HHn.out.own ⟨0, er, q⟩ w4.heap.size rfl HKn.out hjl HHn.out.bel.size ?_
             intro v9 w9 h9 hg9
             have HIn : Hid (SdI w w9 n l0 A u6 M v9 (F ++ [⟨0, er, q⟩]) la (j + 1)) := HHn.out.full h9 hg9
             clear h9 hg9))
        clear u0 u1 u2 u3 u4 u5 hwn hjl
        go_roundw
        case rel => exact ⟨j + 1, la, M, F ++ [⟨0, er, q⟩], hj1, rfl, by go_num, HIn⟩
        case measure => simp [intOf]; omega

end Go.Proofs.YtcknhjabdjbjiaaGreat
