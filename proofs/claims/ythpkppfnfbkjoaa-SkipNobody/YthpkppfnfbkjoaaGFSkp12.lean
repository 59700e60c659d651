/- What the proofs of this seat share: calls and looks, opened. Layer 12: the law SkipNobody. -/
import Derived.WalkLawsBesides
import Derived.JoinedOf
import Derived.Handed
import Derived.Test.YthpkppfnfbkjoaaGFOpen
import Derived.Test.YthpkppfnfbkjoaaGWSkp37
namespace Go.Proofs.Ythpkppfnfbkjoaa
open Go.ChangeShapes Go.WideShapes Go.ChangeAt Go.RowKit Go.Joins Go.Deep
set_option maxRecDepth 100000

theorem own : ownKnob Try.prog.godebug = none := by kernel_rfl
theorem laidOut : laidOutB Try.prog = true := by kernel_rfl
theorem cellsOp : Try.prog.cellsOf 32 = 4 := by kernel_rfl
theorem bytesOp : Try.prog.bytesOf 32 = 40 := by kernel_rfl
theorem cellsSO : Try.prog.cellsOf 30 = 3 := by kernel_rfl
theorem cellsLk : Try.prog.cellsOf 38 = 6 := by kernel_rfl
theorem bytesLk : Try.prog.bytesOf 38 = 72 := by kernel_rfl
theorem cellsRg : Try.prog.cellsOf 36 = 3 := by kernel_rfl
theorem cellsI : Try.prog.cellsOf 3 = 1 := by kernel_rfl
theorem cellsN : Try.prog.cellsOf 2 = 1 := by kernel_rfl
theorem cellsS : Try.prog.cellsOf 9 = 1 := by kernel_rfl
theorem cellsB : Try.prog.cellsOf 4 = 1 := by kernel_rfl

section
variable {H : Type} {P : Program} {enc : TypeId × Value → H}
theorem trod_struct4' {w : World} {base : Nat} {spare : Nat → Bool} {held : Bool} {t : TypeId} {f0 f1 f2 f3 : Field} {fuel : Nat} {cs : List Value} {x : DataW H × List MemPlace} (ht : P.underlying t = some (.struct #[f0, f1, f2, f3])) (h : DataW.trod enc P w base spare held fuel t cs = some x) :
    ∃ y0 y1 y2 y3 n, x.1 = .agg [y0.1, y1.1, y2.1, y3.1] ∧ cs.length = P.cellsOf t ∧ DataW.trod enc P w base spare held n f0.type ((cs.drop f0.offset).take (P.cellsOf f0.type)) = some y0 ∧
      DataW.trod enc P w base spare held n f1.type ((cs.drop f1.offset).take (P.cellsOf f1.type)) = some y1 ∧ DataW.trod enc P w base spare held n f2.type ((cs.drop f2.offset).take (P.cellsOf f2.type)) = some y2 ∧
      DataW.trod enc P w base spare held n f3.type ((cs.drop f3.offset).take (P.cellsOf f3.type)) = some y3 := by
  obtain ⟨xs, n, _, rfl, hl, hlen, hf⟩ := DataW.trod_struct ht h
  match xs, hlen with
  | [y0, y1, y2, y3], _ => exact ⟨y0, y1, y2, y3, n, by simp, hl, by simpa using hf 0 f0 rfl, by simpa using hf 1 f1 rfl, by simpa using hf 2 f2 rfl, by simpa using hf 3 f3 rfl⟩
end

theorem openOpT {H : Type} {enc : TypeId × Value → H} {W : World} {fuel : Nat} {cs : List Value} {x : DataW H × List MemPlace} (h : DataW.trod enc Try.prog W 0 (fun _ => true) true fuel 32 cs = some x) :
    ∃ a : OpR, cs = [.int .i64 a.kd, .string a.k, .int .i64 a.v, .int .i64 a.h] := by
  obtain ⟨y0, y1, n, hx, hl, h0, h1⟩ := trod_struct2 Try.underlying32 h
  rw [cellsOp] at hl
  match cs, hl with
  | [c0, c1, c2, c3], _ =>
    obtain ⟨z0, z1, z2, n', _, _, g0, g1, g2⟩ := trod_struct3 Try.underlying30 h0
    obtain ⟨k3, e3, _⟩ := DataW.trod_int Try.underlying3 h1
    obtain ⟨k0, e0, _⟩ := DataW.trod_int Try.underlying3 g0
    obtain ⟨s1, e1, _⟩ := DataW.trod_string Try.underlying9 g1
    obtain ⟨k2, e2, _⟩ := DataW.trod_int Try.underlying2 g2
    simp [cellsI, cellsN, cellsS, cellsSO] at e0 e1 e2 e3
    subst e0 e1 e2 e3
    exact ⟨⟨k0, s1, k2, k3⟩, rfl⟩
theorem openLkT {H : Type} {enc : TypeId × Value → H} {W : World} {fuel : Nat} {cs : List Value} {x : DataW H × List MemPlace} (h : DataW.trod enc Try.prog W 0 (fun _ => true) true fuel 38 cs = some x) (hr : Reach Try.prog 38 x.1) :
    ∃ a : LkR, cs = [.string a.k, .string a.lo, .string a.hi, .bool a.op, .bool a.back, .int .i64 a.most] ∧ a.k.size ≤ 140737488351232 := by
  obtain ⟨y0, y1, y2, y3, n, hx, hl, h0, h1, h2, h3⟩ := trod_struct4' Try.underlying38 h
  rw [cellsLk] at hl
  match cs, hl with
  | [c0, c1, c2, c3, c4, c5], _ =>
    obtain ⟨z0, z1, z2, n', _, _, g0, g1, g2⟩ := trod_struct3 Try.underlying36 h1
    obtain ⟨s0, e0, f0, _⟩ := DataW.trod_string Try.underlying9 h0
    obtain ⟨s1, e1, _⟩ := DataW.trod_string Try.underlying9 g0
    obtain ⟨s2, e2, _⟩ := DataW.trod_string Try.underlying9 g1
    obtain ⟨b3, e3, _⟩ := DataW.trod_bool Try.underlying4 g2
    obtain ⟨b4, e4, _⟩ := DataW.trod_bool Try.underlying4 h2
    obtain ⟨k5, e5, _⟩ := DataW.trod_int Try.underlying3 h3
    rw [hx] at hr
    have hs := hr.part Try.underlying38 (j := 0) (u := 9) (d := y0.1) rfl rfl
    rw [f0] at hs
    have hs' := hs.str
    simp [cellsI, cellsS, cellsB, cellsRg] at e0 e1 e2 e3 e4 e5
    subst e0 e1 e2 e3 e4 e5
    exact ⟨⟨s0, s1, s2, b3, b4, k5⟩, rfl, by simpa [reachBytes] using hs'⟩

theorem openOp {H : Type} {enc : TypeId × Value → H} {W : World} {b0 : Nat} {v : Value} {d : DataW H} {p : List MemPlace}
    (hv : Value.okWide Try.prog W .any b0 32 v) (h : DataW.Trod enc Try.prog W 0 (fun _ => true) true 32 v d p) : ∃ a : OpR, v = .agg (opC a) := by
  obtain ⟨cs, rfl, hsz⟩ := okWide_struct Try.underlying32 hv
  obtain ⟨fuel, hf⟩ := h
  obtain ⟨cs⟩ := cs
  obtain ⟨a, e⟩ := openOpT hf
  simp only [Value.cells] at e
  subst e
  exact ⟨a, rfl⟩
theorem openLk {H : Type} {enc : TypeId × Value → H} {W : World} {b0 : Nat} {v : Value} {d : DataW H} {p : List MemPlace}
    (hv : Value.okWide Try.prog W .any b0 38 v) (h : DataW.Trod enc Try.prog W 0 (fun _ => true) true 38 v d p) (hr : Reach Try.prog 38 d) : ∃ a : LkR, v = .agg (lkC a) ∧ a.k.size ≤ 140737488351232 := by
  obtain ⟨cs, rfl, hsz⟩ := okWide_struct Try.underlying38 hv
  obtain ⟨fuel, hf⟩ := h
  obtain ⟨cs⟩ := cs
  obtain ⟨a, e, h9⟩ := openLkT hf hr
  simp only [Value.cells] at e
  subst e
  exact ⟨a, rfl, h9⟩
theorem openOps {H : Type} {enc : TypeId × Value → H} {W : World} {b0 : Nat} {v : Value} {d : DataW H} {p : List MemPlace}
    (hv : Value.okWide Try.prog W .any b0 22 v) (h : DataW.Trod enc Try.prog W 0 (fun _ => true) true 22 v d p) (hr : Reach Try.prog 22 d) :
    ∃ (L : List OpR) (q : Option Addr) (c : Nat), v = .slice q L.length c ∧ RdO W W.heap.size q L ∧ L.length ≤ 3518437208883 := by
  obtain ⟨a0, len, cap, rfl⟩ := okWide_slice Try.underlying22 hv
  obtain ⟨fuel, hf⟩ := h
  obtain ⟨L, q, c, e, hl, hb, _, he⟩ := openList (⟨0, ⟨#[]⟩, 0, 0⟩ : OpR) (fun cs a => cs = [.int .i64 a.kd, .string a.k, .int .i64 a.v, .int .i64 a.h]) Try.underlying22 cellsOp (by decide)
    (fun n cs' y hy _ => openOpT hy) hf hr
  simp [Value.cells] at e
  obtain ⟨rfl, rfl, rfl⟩ := e
  rw [bytesOp] at hb
  simp only [reachBytes] at hb
  refine ⟨L, a0, cap, rfl, fun i hi => ?_, by omega⟩
  obtain ⟨b, o, e, hlt, cs', rfl, _, hc⟩ := he i hi
  exact ⟨b, o, e, hlt, hc 0 (by decide), hc 1 (by decide), hc 2 (by decide), hc 3 (by decide)⟩
theorem openLks {H : Type} {enc : TypeId × Value → H} {W : World} {b0 : Nat} {v : Value} {d : DataW H} {p : List MemPlace}
    (hv : Value.okWide Try.prog W .any b0 23 v) (h : DataW.Trod enc Try.prog W 0 (fun _ => true) true 23 v d p) (hr : Reach Try.prog 23 d) :
    ∃ (L : List LkR) (q : Option Addr) (c : Nat), v = .slice q L.length c ∧ RdK W W.heap.size q L ∧ L.length ≤ 1954687338269 := by
  obtain ⟨a0, len, cap, rfl⟩ := okWide_slice Try.underlying23 hv
  obtain ⟨fuel, hf⟩ := h
  obtain ⟨L, q, c, e, hl, hb, _, he⟩ := openList (⟨⟨#[]⟩, ⟨#[]⟩, ⟨#[]⟩, false, false, 0⟩ : LkR) (fun cs a => cs = [.string a.k, .string a.lo, .string a.hi, .bool a.op, .bool a.back, .int .i64 a.most]) Try.underlying23 cellsLk (by decide)
    (fun n cs' y hy hry => by obtain ⟨a, e, _⟩ := openLkT hy hry; exact ⟨a, e⟩) hf hr
  simp [Value.cells] at e
  obtain ⟨rfl, rfl, rfl⟩ := e
  rw [bytesLk] at hb
  simp only [reachBytes] at hb
  refine ⟨L, a0, cap, rfl, fun i hi => ?_, by omega⟩
  obtain ⟨b, o, e, hlt, cs', rfl, _, hc⟩ := he i hi
  exact ⟨b, o, e, hlt, hc 0 (by decide), hc 1 (by decide), hc 2 (by decide), hc 3 (by decide), hc 4 (by decide), hc 5 (by decide)⟩

end Go.Proofs.Ythpkppfnfbkjoaa

namespace Go.Proofs.Ythpkppfnfbkjoaa
open Go.RowKit
set_option maxRecDepth 100000

/-- a call and a look, as they are handed in -/
structure NobS (w wq : World) (kd : Int) (k : ByteArray) (v h : Int) (lk lo hi : ByteArray) (op back : Bool) (most : Int) : Prop where
  bel : Below w.heap.size w wq
  o : Blk wq w.heap.size #[.int .i64 kd, .string k, .int .i64 v, .int .i64 h] 32
  k : Blk wq (w.heap.size + 1) #[.string lk, .string lo, .string hi, .bool op, .bool back, .int .i64 most] 38
theorem NobS.keep {w wq w' : World} {kd : Int} {k : ByteArray} {v h : Int} {lk lo hi : ByteArray} {op back : Bool} {most : Int} (q : NobS w wq kd k v h lk lo hi op back most) (hb : Below wq.heap.size wq w') : NobS w w' kd k v h lk lo hi op back most := ⟨q.bel.trans (hb.mono q.bel.size), q.o.on hb, q.k.on hb⟩

set_option maxHeartbeats 4000000 in
theorem lawNobody (kd : Int) (k : ByteArray) (v h : Int) (lk lo hi : ByteArray) (op back : Bool) (most : Int) (w : World) :
    Calls Try.prog 6 #[.agg #[.int .i64 kd, .string k, .int .i64 v, .int .i64 h], .agg #[.string lk, .string lo, .string hi, .bool op, .bool back, .int .i64 most]] w fun e w' => e = .returned (.bool true) ∧ Below w.heap.size w w' := by
  obtain ⟨aX, aB, aS⟩ := blk_new w #[.int .i64 kd, .string k, .int .i64 v, .int .i64 h] 32
  obtain ⟨bX, bB, bS⟩ := blk_new (w.alloc (.cells #[.int .i64 kd, .string k, .int .i64 v, .int .i64 h] 32)) #[.string lk, .string lo, .string hi, .bool op, .bool back, .int .i64 most] 38
  rw [aS] at bX
  have HI0 : Hid (NobS w ((w.alloc (.cells #[.int .i64 kd, .string k, .int .i64 v, .int .i64 h] 32)).alloc (.cells #[.string lk, .string lo, .string hi, .bool op, .bool back, .int .i64 most] 38)) kd k v h lk lo hi op back most) := ⟨aB.trans (bB.mono aB.size), aX.on bB, bX⟩
  clear aX aB aS bX bB bS
  go_enter Try.func6, Try.ntmps6
  go_wp2_with fail
  generalize ((w.alloc (.cells #[.int .i64 kd, .string k, .int .i64 v, .int .i64 h] 32)).alloc (.cells #[.string lk, .string lo, .string hi, .bool op, .bool back, .int .i64 most] 38)) = w2 at *
  go_loopw [5] (fun sx wq => ∃ i : Nat, i ≤ 2 ∧ sx = .int .i64 (i : Int) ∧ Hid (NobS w wq kd k v h lk lo hi op back most)) (fun sx _ => (2 - intOf sx).toNat)
  case atStart => exact ⟨0, by decide, rfl, HI0⟩
  case round =>
    obtain ⟨i, hi2, rfl, HI⟩ := hrel
    clear HI0
    rcases i with _ | _ | _ | i
    · rw [show ((0 : Nat) : Int) = 0 from rfl]
      have o1 := Blk.cell (i := 1) HI.out.o rfl
      have o2 := Blk.cell (i := 2) HI.out.o rfl
      have o3 := Blk.cell (i := 3) HI.out.o rfl
      have k0 := Blk.cell (i := 0) HI.out.k rfl
      have k1 := Blk.cell (i := 1) HI.out.k rfl
      have k2 := Blk.cell (i := 2) HI.out.k rfl
      have k3 := Blk.cell (i := 3) HI.out.k rfl
      have k4 := Blk.cell (i := 4) HI.out.k rfl
      have k5 := Blk.cell (i := 5) HI.out.k rfl
      have C1 : Hid (Calls _ _ _ _ _) := put_no none k v h wr (fun w1 hb1 => (fun _ => given_nil w1) hb1)
      have C2 : Hid (Calls _ _ _ _ _) := del_no none k wr (fun w1 hb1 => (fun _ => given_nil w1) hb1)
      have C3 : Hid (Calls _ _ _ _ _) := get_no none k wr (fun w1 hb1 => (fun _ => given_nil w1) hb1)
      go_wp2_with fail
      refine C1.out.mono ?_
      rintro e w9 ⟨rfl, hw9⟩
      rw [hw9]
      clear hw9 C1
      go_wp2_with fail
      refine C2.out.mono ?_
      rintro e w9 ⟨rfl, hw9⟩
      rw [hw9]
      clear hw9 C2
      go_wp2_with fail
      refine C3.out.mono ?_
      rintro e w3 ⟨rfl, hb3⟩
      have HI3 : Hid (NobS w w3 kd k v h lk lo hi op back most) := HI.out.keep hb3
      have HB3 : Hid (Below wr.heap.size wr w3) := hb3
      clear o1 o2 o3 k0 k1 k2 k3 k4 k5 hb3 C3
      have o13 := Blk.cell (i := 1) HI3.out.o rfl
      have o23 := Blk.cell (i := 2) HI3.out.o rfl
      have o33 := Blk.cell (i := 3) HI3.out.o rfl
      have k03 := Blk.cell (i := 0) HI3.out.k rfl
      have k13 := Blk.cell (i := 1) HI3.out.k rfl
      have k23 := Blk.cell (i := 2) HI3.out.k rfl
      have k33 := Blk.cell (i := 3) HI3.out.k rfl
      have k43 := Blk.cell (i := 4) HI3.out.k rfl
      have k53 := Blk.cell (i := 5) HI3.out.k rfl
      have C4 : Hid (Calls _ _ _ _ _) := seek_no none lk back w3 (fun w1 hb1 => (fun _ => given_nil w1) (HB3.out.trans (hb1.mono HB3.out.size)))
      go_wp2_with fail
      refine C4.out.mono ?_
      rintro e w4 ⟨rfl, hb4⟩
      obtain ⟨eX, eB, eS⟩ := blk_new w4 #[.string ⟨#[]⟩, .int .i64 0, .int .i64 0] 48
      have hb5 := hb4.trans (eB.mono hb4.size)
      have HI5 : Hid (NobS w (w4.alloc (.cells #[.string ⟨#[]⟩, .int .i64 0, .int .i64 0] 48)) kd k v h lk lo hi op back most) := HI3.out.keep hb5
      have HB5 : Hid (Below wr.heap.size wr (w4.alloc (.cells #[.string ⟨#[]⟩, .int .i64 0, .int .i64 0] 48))) := HB3.out.trans (hb5.mono HB3.out.size)
      clear o13 o23 o33 k03 k13 k23 k33 k43 k53 hb4 hb5 C4 eX eB eS
      have C5 : Hid (Calls _ _ _ _ _) := scan_no none lo hi op back most (w4.alloc (.cells #[.string ⟨#[]⟩, .int .i64 0, .int .i64 0] 48)) (fun w1 hb1 => (fun _ => given_nil w1) (HB5.out.trans (hb1.mono HB5.out.size)))
      have o15 := Blk.cell (i := 1) HI5.out.o rfl
      have o25 := Blk.cell (i := 2) HI5.out.o rfl
      have o35 := Blk.cell (i := 3) HI5.out.o rfl
      have k05 := Blk.cell (i := 0) HI5.out.k rfl
      have k15 := Blk.cell (i := 1) HI5.out.k rfl
      have k25 := Blk.cell (i := 2) HI5.out.k rfl
      have k35 := Blk.cell (i := 3) HI5.out.k rfl
      have k45 := Blk.cell (i := 4) HI5.out.k rfl
      have k55 := Blk.cell (i := 5) HI5.out.k rfl
      go_wp2_with fail
      generalize (w4.alloc (.cells #[.string ⟨#[]⟩, .int .i64 0, .int .i64 0] 48)) = w5 at *
      refine C5.out.mono ?_
      rintro e w6 ⟨rfl, hb6⟩
      have HI6 : Hid (NobS w w6 kd k v h lk lo hi op back most) := HI5.out.keep hb6
      have HB6 : Hid (Below wr.heap.size wr w6) := HB5.out.trans (hb6.mono HB5.out.size)
      have C6 : Hid (Calls _ _ _ _ _) := len_no none w6 (fun w1 hb1 => (fun _ => given_nil w1) (HB6.out.trans (hb1.mono HB6.out.size)))
      have C7 : Hid (Calls _ _ _ _ _) := levels_no none w6 (fun w1 hb1 => (fun _ => given_nil w1) (HB6.out.trans (hb1.mono HB6.out.size)))
      clear o15 o25 o35 k05 k15 k25 k35 k45 k55 hb6 C5
      go_wp2_with fail
      refine C6.out.mono ?_
      rintro e w9 ⟨rfl, hw9⟩
      rw [hw9]
      clear hw9 C6
      go_wp2_with fail
      refine C7.out.mono ?_
      rintro e w9 ⟨rfl, hw9⟩
      rw [hw9]
      clear hw9 C7
      go_wp2_with fail
      go_roundw
      case rel => exact ⟨1, by decide, by go_num, HI6⟩
      case measure => simp [intOf]
    · rw [show ((0 + 1 : Nat) : Int) = 1 from rfl]
      obtain ⟨zX, zB, zS⟩ := blk_new wr #[.pointer none, .pointer none, .pointer none] 62
      have HIz : Hid (NobS w (wr.alloc (.cells #[.pointer none, .pointer none, .pointer none] 62)) kd k v h lk lo hi op back most) := HI.out.keep zB
      have HZ : Hid (Blk (wr.alloc (.cells #[.pointer none, .pointer none, .pointer none] 62)) wr.heap.size #[.pointer none, .pointer none, .pointer none] 62) := zX
      clear zX zB zS HI
      go_upto_region 7 with fail
      generalize (wr.alloc (.cells #[.pointer none, .pointer none, .pointer none] 62)) = wz at *
      generalize wr.heap.size = zb at *
      have HI := HIz
      clear HIz
      have o1 := Blk.cell (i := 1) HI.out.o rfl
      have o2 := Blk.cell (i := 2) HI.out.o rfl
      have o3 := Blk.cell (i := 3) HI.out.o rfl
      have k0 := Blk.cell (i := 0) HI.out.k rfl
      have k1 := Blk.cell (i := 1) HI.out.k rfl
      have k2 := Blk.cell (i := 2) HI.out.k rfl
      have k3 := Blk.cell (i := 3) HI.out.k rfl
      have k4 := Blk.cell (i := 4) HI.out.k rfl
      have k5 := Blk.cell (i := 5) HI.out.k rfl
      have C1 : Hid (Calls _ _ _ _ _) := put_no (some ⟨zb, 0, none⟩) k v h wz (fun w1 hb1 => (fun hb9 => given_zero zb w1 (HZ.out.on hb9)) hb1)
      have C2 : Hid (Calls _ _ _ _ _) := del_no (some ⟨zb, 0, none⟩) k wz (fun w1 hb1 => (fun hb9 => given_zero zb w1 (HZ.out.on hb9)) hb1)
      have C3 : Hid (Calls _ _ _ _ _) := get_no (some ⟨zb, 0, none⟩) k wz (fun w1 hb1 => (fun hb9 => given_zero zb w1 (HZ.out.on hb9)) hb1)
      go_wp2_with fail
      refine C1.out.mono ?_
      rintro e w9 ⟨rfl, hw9⟩
      rw [hw9]
      clear hw9 C1
      go_wp2_with fail
      refine C2.out.mono ?_
      rintro e w9 ⟨rfl, hw9⟩
      rw [hw9]
      clear hw9 C2
      go_wp2_with fail
      refine C3.out.mono ?_
      rintro e w3 ⟨rfl, hb3⟩
      have HI3 : Hid (NobS w w3 kd k v h lk lo hi op back most) := HI.out.keep hb3
      have HB3 : Hid (Below wz.heap.size wz w3) := hb3
      clear o1 o2 o3 k0 k1 k2 k3 k4 k5 hb3 C3
      have o13 := Blk.cell (i := 1) HI3.out.o rfl
      have o23 := Blk.cell (i := 2) HI3.out.o rfl
      have o33 := Blk.cell (i := 3) HI3.out.o rfl
      have k03 := Blk.cell (i := 0) HI3.out.k rfl
      have k13 := Blk.cell (i := 1) HI3.out.k rfl
      have k23 := Blk.cell (i := 2) HI3.out.k rfl
      have k33 := Blk.cell (i := 3) HI3.out.k rfl
      have k43 := Blk.cell (i := 4) HI3.out.k rfl
      have k53 := Blk.cell (i := 5) HI3.out.k rfl
      have C4 : Hid (Calls _ _ _ _ _) := seek_no (some ⟨zb, 0, none⟩) lk back w3 (fun w1 hb1 => (fun hb9 => given_zero zb w1 (HZ.out.on hb9)) (HB3.out.trans (hb1.mono HB3.out.size)))
      go_wp2_with fail
      refine C4.out.mono ?_
      rintro e w4 ⟨rfl, hb4⟩
      obtain ⟨eX, eB, eS⟩ := blk_new w4 #[.string ⟨#[]⟩, .int .i64 0, .int .i64 0] 48
      have hb5 := hb4.trans (eB.mono hb4.size)
      have HI5 : Hid (NobS w (w4.alloc (.cells #[.string ⟨#[]⟩, .int .i64 0, .int .i64 0] 48)) kd k v h lk lo hi op back most) := HI3.out.keep hb5
      have HB5 : Hid (Below wz.heap.size wz (w4.alloc (.cells #[.string ⟨#[]⟩, .int .i64 0, .int .i64 0] 48))) := HB3.out.trans (hb5.mono HB3.out.size)
      clear o13 o23 o33 k03 k13 k23 k33 k43 k53 hb4 hb5 C4 eX eB eS
      have C5 : Hid (Calls _ _ _ _ _) := scan_no (some ⟨zb, 0, none⟩) lo hi op back most (w4.alloc (.cells #[.string ⟨#[]⟩, .int .i64 0, .int .i64 0] 48)) (fun w1 hb1 => (fun hb9 => given_zero zb w1 (HZ.out.on hb9)) (HB5.out.trans (hb1.mono HB5.out.size)))
      have o15 := Blk.cell (i := 1) HI5.out.o rfl
      have o25 := Blk.cell (i := 2) HI5.out.o rfl
      have o35 := Blk.cell (i := 3) HI5.out.o rfl
      have k05 := Blk.cell (i := 0) HI5.out.k rfl
      have k15 := Blk.cell (i := 1) HI5.out.k rfl
      have k25 := Blk.cell (i := 2) HI5.out.k rfl
      have k35 := Blk.cell (i := 3) HI5.out.k rfl
      have k45 := Blk.cell (i := 4) HI5.out.k rfl
      have k55 := Blk.cell (i := 5) HI5.out.k rfl
      go_wp2_with fail
      generalize (w4.alloc (.cells #[.string ⟨#[]⟩, .int .i64 0, .int .i64 0] 48)) = w5 at *
      refine C5.out.mono ?_
      rintro e w6 ⟨rfl, hb6⟩
      have HI6 : Hid (NobS w w6 kd k v h lk lo hi op back most) := HI5.out.keep hb6
      have HB6 : Hid (Below wz.heap.size wz w6) := HB5.out.trans (hb6.mono HB5.out.size)
      have C6 : Hid (Calls _ _ _ _ _) := len_no (some ⟨zb, 0, none⟩) w6 (fun w1 hb1 => (fun hb9 => given_zero zb w1 (HZ.out.on hb9)) (HB6.out.trans (hb1.mono HB6.out.size)))
      have C7 : Hid (Calls _ _ _ _ _) := levels_no (some ⟨zb, 0, none⟩) w6 (fun w1 hb1 => (fun hb9 => given_zero zb w1 (HZ.out.on hb9)) (HB6.out.trans (hb1.mono HB6.out.size)))
      clear o15 o25 o35 k05 k15 k25 k35 k45 k55 hb6 C5
      go_wp2_with fail
      refine C6.out.mono ?_
      rintro e w9 ⟨rfl, hw9⟩
      rw [hw9]
      clear hw9 C6
      go_wp2_with fail
      refine C7.out.mono ?_
      rintro e w9 ⟨rfl, hw9⟩
      rw [hw9]
      clear hw9 C7
      go_wp2_with fail
      go_roundw
      case rel => exact ⟨2, by decide, by go_num, HI6⟩
      case measure => simp [intOf]
    · rw [show ((0 + 1 + 1 : Nat) : Int) = 2 from rfl]
      have C8 : Hid (Calls _ _ _ _ _) := awake_any wr
      go_wp2_with fail
      refine C8.out.mono ?_
      rintro e w9 ⟨rfl, hb9⟩
      have HB9 : Hid (Below w.heap.size w w9) := HI.out.bel.trans (hb9.mono HI.out.bel.size)
      clear hb9 C8
      go_wp2_with fail
      go_ret
      exact ⟨rfl, HB9.out⟩
    · omega

end Go.Proofs.Ythpkppfnfbkjoaa
