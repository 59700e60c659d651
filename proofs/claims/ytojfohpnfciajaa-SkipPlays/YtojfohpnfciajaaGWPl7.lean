/- Layer 12: play: a call of a list and of the document's, both. Layer 12: the document's Scan. -/
import Derived.Test.YtojfohpnfciajaaGMPl12
import Derived.Test.YtojfohpnfciajaaGWPl3
import Derived.Test.YtojfohpnfciajaaGWHgtR
import Derived.Test.YtojfohpnfciajaaGMMade
import Derived.Test.YtojfohpnfciajaaGWPl2
namespace Go.Proofs.Ytojfohpnfciajaa
open Go.RowKit
set_option maxRecDepth 100000

/-- the height that a call names -/
def hgtA (a : OpR) : Int := if a.kd = 2 then (hgtD (fnv a.k.data.toList) : Nat) else a.h
/-- what a call makes of entries -/
def stepP (E : List En) (a : OpR) : List En := if a.kd = 1 ∨ a.kd = 2 then (if 1025 < a.k.size ∨ hgtA a < 1 ∨ 16 < hgtA a then E else putE E a.k a.v (hgtA a).toNat) else if a.kd = 3 then delE E a.k else E
theorem stepP_len (E : List En) (a : OpR) : (stepP E a).length ≤ E.length + 1 := by
  unfold stepP
  split
  · split
    · omega
    · exact put_len _ _ _ _
  · split
    · exact Nat.le_trans (del_len _ _) (Nat.le_succ _)
    · omega
theorem hgtD_in (x : Nat) : 1 ≤ hgtD x ∧ hgtD x ≤ 16 := by
  unfold hgtD
  split <;> omega
theorem was_val (E : List En) (k : ByteArray) : wasV E k = valO (getE E k) := by
  unfold wasV
  cases getE E k <;> rfl

set_option maxHeartbeats 16000000 in
theorem play_any (lb C : Nat) (E : List En) (v : Value) (a : OpR) (w0 w : World) (q : SkL w0 w lb E) (hO : OwnE w C v E) (hs : a.k.size ≤ 140737488351232) (hl : E.length < 4000000000000) :
    Calls Try.prog 8 #[ptr1 lb, v, .agg (opC a)] w fun e w' => ∃ v', e = .returned (.tuple #[v', .bool true]) ∧ SkL w0 w' lb (stepP E a) ∧ (∃ C', OwnE w' C' v' (stepP E a)) ∧ Below w0.heap.size w w' := by
  obtain ⟨kd, k, x, h⟩ := a
  obtain ⟨aX, aB, aS⟩ := blk_new w #[.int .i64 kd, .string k, .int .i64 x, .int .i64 h] 32
  have HB0 : Hid (Below w0.heap.size w (w.alloc (.cells #[.int .i64 kd, .string k, .int .i64 x, .int .i64 h] 32))) := aB.mono q.bel.size
  have HX : Hid (Blk (w.alloc (.cells #[.int .i64 kd, .string k, .int .i64 x, .int .i64 h] 32)) w.heap.size #[.int .i64 kd, .string k, .int .i64 x, .int .i64 h] 32) := aX
  have HQ : Hid (SkL w0 (w.alloc (.cells #[.int .i64 kd, .string k, .int .i64 x, .int .i64 h] 32)) lb E) := q.on aB
  have HO : Hid (OwnE (w.alloc (.cells #[.int .i64 kd, .string k, .int .i64 x, .int .i64 h] 32)) C v E) := owns_kept hO aB
  have HL : Hid (E.length < 4000000000000) := hl
  have HS : Hid (k.size ≤ 140737488351232) := hs
  obtain ⟨p, n, c, hv⟩ : ∃ p n c, v = .slice p n c := by
    obtain ⟨p, c, e, -⟩ := owns_len hO
    exact ⟨p, _, c, e⟩
  subst hv
  clear aX aB aS q hO hl hs
  go_enter Try.func8, Try.ntmps8
  go_upto_region 1 with fail
  generalize w.alloc (.cells #[.int .i64 kd, .string k, .int .i64 x, .int .i64 h] 32) = w1 at *
  have o0 := Blk.cell (i := 0) HX.out rfl
  have o1 := Blk.cell (i := 1) HX.out rfl
  have o2 := Blk.cell (i := 2) HX.out rfl
  have o3 := Blk.cell (i := 3) HX.out rfl
  by_cases h1 : kd = 1
  · subst h1
    by_cases hk : 1025 < k.size
    · have C1 : Hid (Calls _ _ _ _ _) := putlong_L lb E k x h w0 w1 HQ.out hk
      have C2 : Hid (Calls _ _ _ _ _) := rput_long p n c k x h w1 hk
      have HP : Hid (stepP E ⟨1, k, x, h⟩ = E) := by
        show stepP E ⟨1, k, x, h⟩ = E
        unfold stepP
        rw [if_pos (.inl rfl), if_pos (.inl hk)]
      go_wp2_with fail
      refine C1.out.mono ?_
      rintro e w9 ⟨rfl, hw9⟩
      rw [hw9]
      clear hw9 C1
      go_wp2_with fail
      refine C2.out.mono ?_
      rintro e w9 ⟨rfl, hw9⟩
      rw [hw9]
      clear hw9 C2
      go_wp2_with fail
      go_ret2
      exact ⟨_, rfl, by rw [HP.out]; exact HQ.out, ⟨C, by rw [HP.out]; exact HO.out⟩, HB0.out⟩
    · have hk2 : k.size ≤ 1025 := by omega
      clear hk
      by_cases hh : h < 1 ∨ 16 < h
      · have C1 : Hid (Calls _ _ _ _ _) := puthgt_L lb E k x h w0 w1 HQ.out hk2 hh
        have C2 : Hid (Calls _ _ _ _ _) := rput_hgt p n c k x h w1 hk2 hh
        have HP : Hid (stepP E ⟨1, k, x, h⟩ = E) := by
          show stepP E ⟨1, k, x, h⟩ = E
          unfold stepP
          rw [if_pos (.inl rfl), if_pos (.inr (by unfold hgtA; rw [if_neg (by dsimp only; decide)]; exact hh))]
        go_wp2_with fail
        refine C1.out.mono ?_
        rintro e w9 ⟨rfl, hw9⟩
        rw [hw9]
        clear hw9 C1
        go_wp2_with fail
        refine C2.out.mono ?_
        rintro e w9 ⟨rfl, hw9⟩
        rw [hw9]
        clear hw9 C2
        go_wp2_with fail
        go_ret2
        exact ⟨_, rfl, by rw [HP.out]; exact HQ.out, ⟨C, by rw [HP.out]; exact HO.out⟩, HB0.out⟩
      · obtain ⟨hn, rfl⟩ : ∃ hn : Nat, h = (hn : Int) := ⟨h.toNat, by omega⟩
        have hh2 : 1 ≤ hn ∧ hn ≤ 16 := by omega
        clear hh
        have HP : Hid (stepP E ⟨1, k, x, (hn : Int)⟩ = putE E k x hn) := by
          show stepP E ⟨1, k, x, (hn : Int)⟩ = putE E k x hn
          have e1 : hgtA ⟨1, k, x, (hn : Int)⟩ = ((hn : Nat) : Int) := by unfold hgtA; rw [if_neg (by dsimp only; decide)]
          unfold stepP
          rw [e1, if_pos (.inl rfl), if_neg (by have := hh2; dsimp only; omega), Int.toNat_natCast]
        have C1 : Hid (Calls _ _ _ _ _) := put_K lb hn E k x w0 w1 HQ.out hk2 hh2 (by have := HL.out; omega)
        have C2 : Hid (∀ w2, KeepP w1 w2 → Calls _ _ _ _ _) := fun w2 h9 => rput_ok E C hn (.slice p n c) k x w2 (h9.o _ _ _ HO.out) hk2 hh2 HL.out
        clear hk2 hh2
        go_wp2_with fail
        refine C1.out.mono ?_
        rintro e w2 ⟨rfl, q2, hb2, hk2⟩
        have C3 : Hid (Calls _ _ _ _ _) := C2.out w2 hk2
        have HX2 := hk2.b _ _ _ (by decide) (by decide) (by decide) (by decide) HX.out
        have HQ2 : Hid (SkL w0 w2 lb (putE E k x hn)) := q2
        have HB2 : Hid (Below w0.heap.size w w2) := HB0.out.trans hb2
        clear C1 C2 q2 hb2 hk2 o0 o1 o2 o3 HX HQ
        have o0 := Blk.cell (i := 0) HX2 rfl
        have o1 := Blk.cell (i := 1) HX2 rfl
        have o2 := Blk.cell (i := 2) HX2 rfl
        have o3 := Blk.cell (i := 3) HX2 rfl
        clear HX2
        go_wp2_with fail
        refine C3.out.mono ?_
        rintro e w3 ⟨v', rfl, ho3, hb3⟩
        have HO3 : Hid (OwnE w3 w2.heap.size v' (putE E k x hn)) := ho3
        have HQ3 : Hid (SkL w0 w3 lb (putE E k x hn)) := HQ2.out.on hb3
        have HB3 : Hid (Below w0.heap.size w w3) := HB2.out.trans (hb3.mono HQ2.out.bel.size)
        clear C3 ho3 hb3
        obtain ⟨p4, l4, c4, hv4⟩ : ∃ p4 l4 c4, v' = .slice p4 l4 c4 := by
          obtain ⟨p4, c4, h9, -⟩ := owns_len HO3.out
          exact ⟨p4, _, c4, h9⟩
        subst hv4
        generalize wasV E k = wv at *
        generalize (getE E k).isSome = gs at *
        go_wp2_with fail
        go_ret2
        exact ⟨.slice p4 l4 c4, by cases gs <;> simp, by rw [HP.out]; exact HQ3.out, ⟨_, by rw [HP.out]; exact HO3.out⟩, HB3.out⟩
  · by_cases h2 : kd = 2
    · subst h2
      clear h1
      have hD := hgtD_in (fnv k.data.toList)
      have C0 : Hid (Calls _ _ _ _ _) := rheight_any k w1 HS.out
      by_cases hk : 1025 < k.size
      · have C1 : Hid (Calls _ _ _ _ _) := putlong_L lb E k x (hgtD (fnv k.data.toList) : Nat) w0 w1 HQ.out hk
        have C2 : Hid (Calls _ _ _ _ _) := rput_long p n c k x (hgtD (fnv k.data.toList) : Nat) w1 hk
        have HP : Hid (stepP E ⟨2, k, x, h⟩ = E) := by
          show stepP E ⟨2, k, x, h⟩ = E
          unfold stepP
          rw [if_pos (.inr rfl), if_pos (.inl hk)]
        go_wp2_with fail
        refine C0.out.mono ?_
        rintro e w9 ⟨rfl, hw9⟩
        rw [hw9]
        clear hw9 C0
        generalize hgtD (fnv k.data.toList) = hn at *
        go_wp2_with fail
        refine C1.out.mono ?_
        rintro e w9 ⟨rfl, hw9⟩
        rw [hw9]
        clear hw9 C1
        go_wp2_with fail
        refine C2.out.mono ?_
        rintro e w9 ⟨rfl, hw9⟩
        rw [hw9]
        clear hw9 C2
        go_wp2_with fail
        go_ret2
        exact ⟨_, rfl, by rw [HP.out]; exact HQ.out, ⟨C, by rw [HP.out]; exact HO.out⟩, HB0.out⟩
      · have hk2 : k.size ≤ 1025 := by omega
        clear hk
        have HP : Hid (stepP E ⟨2, k, x, h⟩ = putE E k x (hgtD (fnv k.data.toList))) := by
          show stepP E ⟨2, k, x, h⟩ = putE E k x (hgtD (fnv k.data.toList))
          have e1 : hgtA ⟨2, k, x, h⟩ = (((hgtD (fnv k.data.toList)) : Nat) : Int) := by unfold hgtA; rw [if_pos rfl]
          unfold stepP
          rw [e1, if_pos (.inr rfl), if_neg (by have := hD; dsimp only; omega), Int.toNat_natCast]
        have C1 : Hid (Calls _ _ _ _ _) := put_K lb (hgtD (fnv k.data.toList)) E k x w0 w1 HQ.out hk2 hD (by have := HL.out; omega)
        have C2 : Hid (∀ w2, KeepP w1 w2 → Calls _ _ _ _ _) := fun w2 h9 => rput_ok E C (hgtD (fnv k.data.toList)) (.slice p n c) k x w2 (h9.o _ _ _ HO.out) hk2 hD HL.out
        clear hk2 hD
        go_wp2_with fail
        refine C0.out.mono ?_
        rintro e w9 ⟨rfl, hw9⟩
        rw [hw9]
        clear hw9 C0
        generalize hgtD (fnv k.data.toList) = hn at *
        go_wp2_with fail
        refine C1.out.mono ?_
        rintro e w2 ⟨rfl, q2, hb2, hk2⟩
        have C3 : Hid (Calls _ _ _ _ _) := C2.out w2 hk2
        have HX2 := hk2.b _ _ _ (by decide) (by decide) (by decide) (by decide) HX.out
        have HQ2 : Hid (SkL w0 w2 lb (putE E k x hn)) := q2
        have HB2 : Hid (Below w0.heap.size w w2) := HB0.out.trans hb2
        clear C1 C2 q2 hb2 hk2 o0 o1 o2 o3 HX HQ
        have o0 := Blk.cell (i := 0) HX2 rfl
        have o1 := Blk.cell (i := 1) HX2 rfl
        have o2 := Blk.cell (i := 2) HX2 rfl
        have o3 := Blk.cell (i := 3) HX2 rfl
        clear HX2
        go_wp2_with fail
        refine C3.out.mono ?_
        rintro e w3 ⟨v', rfl, ho3, hb3⟩
        have HO3 : Hid (OwnE w3 w2.heap.size v' (putE E k x hn)) := ho3
        have HQ3 : Hid (SkL w0 w3 lb (putE E k x hn)) := HQ2.out.on hb3
        have HB3 : Hid (Below w0.heap.size w w3) := HB2.out.trans (hb3.mono HQ2.out.bel.size)
        clear C3 ho3 hb3
        obtain ⟨p4, l4, c4, hv4⟩ : ∃ p4 l4 c4, v' = .slice p4 l4 c4 := by
          obtain ⟨p4, c4, h9, -⟩ := owns_len HO3.out
          exact ⟨p4, _, c4, h9⟩
        subst hv4
        generalize wasV E k = wv at *
        generalize (getE E k).isSome = gs at *
        go_wp2_with fail
        go_ret2
        exact ⟨.slice p4 l4 c4, by cases gs <;> simp, by rw [HP.out]; exact HQ3.out, ⟨_, by rw [HP.out]; exact HO3.out⟩, HB3.out⟩
    · have g1 : (kd == 1) = false := by simpa using h1
      have g2 : (kd == 2) = false := by simpa using h2
      by_cases h3 : kd = 3
      · subst h3
        clear h1 h2
        have HP : Hid (stepP E ⟨3, k, x, h⟩ = delE E k) := by
          show stepP E ⟨3, k, x, h⟩ = delE E k
          unfold stepP
          rw [if_neg (by dsimp only; omega), if_pos rfl]
        have C1 : Hid (Calls _ _ _ _ _) := del_K lb E k w0 w1 HQ.out (by have := HL.out; omega)
        have C2 : Hid (∀ w2, KeepP w1 w2 → Calls _ _ _ _ _) := fun w2 h9 => rdel_any E C (.slice p n c) k w2 (h9.o _ _ _ HO.out) HL.out
        go_wp2_with fail
        refine C1.out.mono ?_
        rintro e w2 ⟨rfl, q2, hb2, hk2⟩
        have C3 : Hid (Calls _ _ _ _ _) := C2.out w2 hk2
        have HQ2 : Hid (SkL w0 w2 lb (delE E k)) := q2
        have HB2 : Hid (Below w0.heap.size w w2) := HB0.out.trans hb2
        clear C1 C2 q2 hb2 hk2 o0 o1 o2 o3 HX HQ
        go_wp2_with fail
        refine C3.out.mono ?_
        rintro e w3 ⟨v', rfl, ⟨C', ho3⟩, hb3⟩
        have HO3 : Hid (OwnE w3 C' v' (delE E k)) := ho3
        have HQ3 : Hid (SkL w0 w3 lb (delE E k)) := HQ2.out.on hb3
        have HB3 : Hid (Below w0.heap.size w w3) := HB2.out.trans (hb3.mono HQ2.out.bel.size)
        clear C3 ho3 hb3
        obtain ⟨p4, l4, c4, hv4⟩ : ∃ p4 l4 c4, v' = .slice p4 l4 c4 := by
          obtain ⟨p4, c4, h9, -⟩ := owns_len HO3.out
          exact ⟨p4, _, c4, h9⟩
        subst hv4
        generalize wasV E k = wv at *
        generalize (getE E k).isSome = gs at *
        go_wp2_with fail
        go_ret2
        exact ⟨.slice p4 l4 c4, by cases gs <;> simp, by rw [HP.out]; exact HQ3.out, ⟨_, by rw [HP.out]; exact HO3.out⟩, HB3.out⟩
      · have g3 : (kd == 3) = false := by simpa using h3
        have HP : Hid (stepP E ⟨kd, k, x, h⟩ = E) := by
          show stepP E ⟨kd, k, x, h⟩ = E
          unfold stepP
          rw [if_neg (by dsimp only; omega), if_neg h3]
        clear h1 h2 h3
        have hRd : ∃ p' c', Value.slice p n c = .slice p' E.length c' ∧ RdE w1 p' E := own_rd HO.out
        obtain ⟨p', c', e1, hRd⟩ := hRd
        injection e1 with e1 e2 e3
        subst e1 e2 e3
        have C1 : Hid (Calls _ _ _ _ _) := get_L lb E k w0 w1 HQ.out
        have C2 : Hid (∀ w2, Below w1.heap.size w1 w2 → Calls _ _ _ _ _) := fun w2 h9 => rget_any E p c k w2 (hRd.on h9) HL.out
        clear hRd
        go_wp2_with fail
        refine C1.out.mono ?_
        rintro e w2 ⟨rfl, hb2⟩
        have C3 : Hid (Calls _ _ _ _ _) := C2.out w2 hb2
        have HQ2 : Hid (SkL w0 w2 lb E) := HQ.out.on hb2
        have HO2 : Hid (OwnE w2 C (.slice p E.length c) E) := owns_kept HO.out hb2
        have HB2 : Hid (Below w0.heap.size w w2) := HB0.out.trans (hb2.mono HQ.out.bel.size)
        clear C1 C2 hb2 o0 o1 o2 o3 HX HQ HO
        generalize valO (getE E k) = wv at *
        generalize (getE E k).isSome = gs at *
        go_wp2_with fail
        refine C3.out.mono ?_
        rintro e w9 ⟨rfl, hw9⟩
        rw [hw9]
        clear hw9 C3
        go_wp2_with fail
        go_ret2
        exact ⟨.slice p E.length c, by cases gs <;> simp, by rw [HP.out]; exact HQ2.out, ⟨C, by rw [HP.out]; exact HO2.out⟩, HB2.out⟩

end Go.Proofs.Ytojfohpnfciajaa

namespace Go.Proofs.Ytojfohpnfciajaa
open Go.RowKit
set_option maxRecDepth 100000

abbrev enA (e : En) : Array Value := #[.string e.k, .int .i64 e.v, .int .i64 (e.h : Nat)]
abbrev box3 (w : World) (e : En) : World := w.alloc (.cells #[.string e.k, .int .i64 e.v, .int .i64 (e.h : Nat)] 48)
theorem box3_is (w : World) (e : En) : Blk (box3 w e) w.heap.size (enA e) 48 ∧ Below w.heap.size w (box3 w e) ∧ (box3 w e).heap.size = w.heap.size + 1 := blk_new w _ _
/-- a scan of the document's, behind i entries -/
structure RsS (w wq : World) (p : Option Addr) (S : List En) (lo hi : ByteArray) (op back : Bool) (most : Int) (so : Value) (i : Nat) : Prop where
  o : OwnE wq (w.heap.size + 1) so (toldE back S lo hi op i)
  l : (toldE back S lo hi op i).length ≤ most.toNat
  r : RdE wq p S
  x : Blk wq w.heap.size #[.string lo, .string hi, .bool op] 36
  b : Below w.heap.size w wq
  z : w.heap.size + 1 ≤ wq.heap.size
theorem RsS.on {w wq w' : World} {p : Option Addr} {S : List En} {lo hi : ByteArray} {op back : Bool} {most : Int} {so : Value} {i : Nat} (h : RsS w wq p S lo hi op back most so i) (hb : Below wq.heap.size wq w') : RsS w w' p S lo hi op back most so i :=
  ⟨owns_kept h.o hb, h.l, h.r.on hb, h.x.on hb, h.b.trans (hb.mono h.b.size), Nat.le_trans h.z hb.size⟩
theorem RsS.off {w wq : World} {p : Option Addr} {S : List En} {lo hi : ByteArray} {op back : Bool} {most : Int} {so : Value} {i : Nat} (h : RsS w wq p S lo hi op back most so i) {e : En} (he : (wayE back S)[i]? = some e) (hn : inR lo hi op e = false) : RsS w wq p S lo hi op back most so (i + 1) := by
  have e1 := toldE_off he hn
  exact ⟨by rw [e1]; exact h.o, by rw [e1]; exact h.l, h.r, h.x, h.b, h.z⟩
theorem RsS.app {w wq w' : World} {p : Option Addr} {S : List En} {lo hi : ByteArray} {op back : Bool} {most : Int} {so so' : Value} {i : Nat} (h : RsS w wq p S lo hi op back most so i) {e : En} (he : (wayE back S)[i]? = some e) (hn : inR lo hi op e = true) (hl : ((toldE back S lo hi op i).length : Int) < most) (hRl : ∀ j (_hj : j < S.length), ∃ g, p = some ⟨g, 0, none⟩ ∧ g < w.heap.size) (ho : w'.ownsRow (w.heap.size + 1) 48 3 so' ((toldE back S lo hi op i).length + 1) ((toldE back S lo hi op i).flatMap enC ++ enC e)) (hb : Below (w.heap.size + 1) wq w') : RsS w w' p S lo hi op back most so' (i + 1) := by
  have e1 := toldE_on he hn
  refine ⟨?_, by rw [e1]; simp; omega, ?_, h.x.keep hb (by omega), h.b.trans (hb.mono (by omega)), Nat.le_trans h.z hb.size⟩
  · rw [e1]
    show World.ownsRow _ _ _ _ _ _ _
    rw [List.length_append, List.flatMap_append]
    simpa using ho
  · intro j hj
    obtain ⟨g, e2, hg, c0, c1, c2⟩ := h.r j hj
    obtain ⟨g', e3, hg'⟩ := hRl j hj
    rw [e2] at e3
    injection e3 with e3
    injection e3 with e3
    subst e3
    have k : ∀ n v, wq.cell? ⟨g, n, none⟩ = some v → w'.cell? ⟨g, n, none⟩ = some v := fun n v hc => (hb.cell (p := ⟨g, n, none⟩) (by show g < _; omega)).trans hc
    exact ⟨g, e2, Nat.lt_of_lt_of_le hg hb.size, k _ _ c0, k _ _ c1, k _ _ c2⟩

set_option maxHeartbeats 16000000 in
theorem rscan_any (S : List En) (B : Nat) (v : Value) (lo hi : ByteArray) (op back : Bool) (most : Int) (w : World) (hO : OwnE w B v S) (hl : S.length < 4000000000000) (hr : RiseE S) :
    Calls Try.prog 33 #[v, .agg #[.string lo, .string hi, .bool op], .bool back, .int .i64 most] w fun e w' => ∃ v', e = .returned v' ∧ OwnE w' w.heap.size v' (scanM S lo hi op back most) ∧ Below w.heap.size w w' := by
  obtain ⟨p, c, rfl, hR⟩ := own_rd hO
  obtain ⟨aX, aB, aS⟩ := blk_new w #[.string lo, .string hi, .bool op] 36
  have H0 : Hid (RsS w (w.alloc (.cells #[.string lo, .string hi, .bool op] 36)) p S lo hi op back most (.slice none 0 0) 0) := by
    refine ⟨?_, ?_, hR.on aB, aX, aB, by omega⟩
    · rw [toldE_zero]
      exact World.ownsRow_nil _ _ _ _
    · rw [toldE_zero]
      exact Nat.zero_le _
  have HRl : Hid (∀ j (hj : j < S.length), ∃ g, p = some ⟨g, 0, none⟩ ∧ g < w.heap.size) := fun j hj => by
    obtain ⟨g, e2, hg, _⟩ := hR j hj
    exact ⟨g, e2, hg⟩
  have HL : Hid (S.length < 4000000000000) := hl
  have HRi : Hid (RiseE S) := hr
  obtain ⟨n, hn⟩ : ∃ n, S.length = n := ⟨_, rfl⟩
  have HN : Hid (S.length = n) := hn
  rw [hn] at hl ⊢
  clear hO hR aX aB aS hr hn
  go_enter Try.func33, Try.ntmps33
  go_upto_region 3 with fail
  generalize w.alloc (.cells #[.string lo, .string hi, .bool op] 36) = w1 at *
  go_loopw [9, 10] (fun so si wq => ∃ i : Nat, i ≤ n ∧ si = .int .i64 (i : Int) ∧ Hid (RsS w wq p S lo hi op back most so i)) (fun _ si _ => ((n : Int) - intOf si).toNat)
  case atStart => exact ⟨0, by omega, rfl, H0⟩
  case round =>
    clear H0
    obtain ⟨i, hi', rfl, HI⟩ := hrel
    obtain ⟨po, co, hso, -⟩ := owns_len HI.out.o
    subst hso
    have HTl : Hid ((toldE back S lo hi op i).length ≤ i) := toldE_le _ _ _ _ _ _
    have hend : ∀ (wz : World), Hid (RsS w wz p S lo hi op back most (.slice po (toldE back S lo hi op i).length co) i) → (i = n ∨ most ≤ ((toldE back S lo hi op i).length : Int)) → OwnE wz w.heap.size (.slice po (toldE back S lo hi op i).length co) (scanM S lo hi op back most) ∧ Below w.heap.size w wz := by
      intro wz hz hx
      rw [← told_end HRi.out (i := i) (by rw [HN.out]; exact hi') hz.out.l (by rw [HN.out]; exact hx)]
      exact ⟨owns_base hz.out.o (Nat.le_succ _), hz.out.b⟩
    have HEnd := (show Hid _ from hend)
    clear hend
    obtain ⟨tl, htl⟩ : ∃ tl, (toldE back S lo hi op i).length = tl := ⟨_, rfl⟩
    have HTL : Hid ((toldE back S lo hi op i).length = tl) := htl
    rw [htl] at HEnd HTl HI ⊢
    clear htl
    rcases Nat.lt_or_eq_of_le hi' with hlt | heq
    · have g1 : decide ((i : Int) < (n : Int)) = true := by simp; omega
      by_cases hm : (tl : Int) < most
      · have g2 : decide ((tl : Int) < most) = true := by simpa using hm
        have hltS : i < S.length := by rw [HN.out]; exact hlt
        have HM : Hid ((tl : Int) < most) := hm
        obtain ⟨gl, rfl, -, a0, a1, a2⟩ := HI.out.r i hltS
        clear hm
        cases back with
        | false =>
          have HE : Hid ((wayE false S)[i]? = some (S[i])) := by
            have h9 := way_at (back := false) (S := S) hltS
            rw [h9]
            rfl
          generalize S[i] = e0 at *
          obtain ⟨k1, k2, k3⟩ := box3_is wr e0
          have HK : Hid (Blk (box3 wr e0) wr.heap.size (enA e0) 48) := k1
          have HQ : Hid (RsS w (box3 wr e0) (some ⟨gl, 0, none⟩) S lo hi op false most (.slice po tl co) i) := HI.out.on k2
          clear k1 k2 k3
          go_upto_region 8 with fail
          have HW2 : ∃ w2, box3 wr e0 = w2 := ⟨_, rfl⟩
          obtain ⟨w2, hw2q⟩ := HW2
          simp only [box3] at hw2q
          simp only [box3] at HK HQ
          rw [hw2q] at HK HQ ⊢
          clear hw2q
          have x0 := Blk.cell (i := 0) HK.out rfl
          have x1 := Blk.cell (i := 1) HK.out rfl
          have x2 := Blk.cell (i := 2) HK.out rfl
          have y0 := Blk.cell (i := 0) HQ.out.x rfl
          have y1 := Blk.cell (i := 1) HQ.out.x rfl
          have y2 := Blk.cell (i := 2) HQ.out.x rfl
          cases hlo : ltB e0.k lo with
          | true =>
            have HF : Hid (inR lo hi op e0 = false) := by show inR lo hi op e0 = false; unfold inR; rw [hlo]; rfl
            unfold ltB at hlo
            have HO2 := (show Hid _ from HQ.out.off HE.out HF.out)
            go_wp2_with fail
            go_roundw
            case rel => exact ⟨i + 1, by omega, by go_num, HO2⟩
            case measure => simp [intOf]; omega
          | false =>
            cases op with
            | true =>
              have HF : Hid (inR lo hi true e0 = true) := by show inR lo hi true e0 = true; unfold inR endB; rw [hlo]; rfl
              unfold ltB at hlo
              have HLt : Hid ((tl + 1) * 32 ≤ 140737488355328) := by
                have h1 := HTl.out
                have h2 := HL.out
                rw [HN.out] at h2
                have : (tl + 1) * 32 ≤ 140737488355328 := by omega
                exact this
              have hOwn : Hid (World.ownsRow w2 (w.heap.size + 1) 48 3 (.slice po tl co) tl ((toldE false S lo hi true i).flatMap enC)) := by
                have h9 : World.ownsRow w2 (w.heap.size + 1) 48 3 (.slice po tl co) (toldE false S lo hi true i).length ((toldE false S lo hi true i).flatMap enC) := HQ.out.o
                rw [HTL.out] at h9
                exact h9
              go_wp2_with (first | (at_builtin; go_loud (refine wpList_app1 w2 rfl (.tmp 53) (.tmp 55) 48 26 _ 3 32 rfl Try.underlying26 info_en rfl (by decide) (w.heap.size + 1) _ _ _ (by rfl) hOwn.out [.string e0.k, .int .i64 e0.v, .int .i64 (e0.h : Nat)] rfl (fun u hu => en_one [e0] u (by simpa [enC] using hu)) _ rfl (by simp) HLt.out (by have := HLt.out; omega) HQ.out.z ?_); intro v5 w5 ho5 hb5 h8; refine Hid.out ?_))
              have HA := (show Hid _ from HQ.out.app HE.out HF.out (by rw [HTL.out]; exact HM.out) HRl.out (by rw [HTL.out]; exact ho5) hb5)
              clear ho5 hb5 h8
              unfold Hid
              go_wp2_with fail
              go_roundw
              case rel => exact ⟨i + 1, by omega, by go_num, HA⟩
              case measure => simp [intOf]; omega
            | false =>
              cases hhi : ltB e0.k hi with
              | true =>
                have HF : Hid (inR lo hi false e0 = true) := by show inR lo hi false e0 = true; unfold inR endB; rw [hlo, hhi]; rfl
                unfold ltB at hlo hhi
                have HLt : Hid ((tl + 1) * 32 ≤ 140737488355328) := by
                  have h1 := HTl.out
                  have h2 := HL.out
                  rw [HN.out] at h2
                  have : (tl + 1) * 32 ≤ 140737488355328 := by omega
                  exact this
                have hOwn : Hid (World.ownsRow w2 (w.heap.size + 1) 48 3 (.slice po tl co) tl ((toldE false S lo hi false i).flatMap enC)) := by
                  have h9 : World.ownsRow w2 (w.heap.size + 1) 48 3 (.slice po tl co) (toldE false S lo hi false i).length ((toldE false S lo hi false i).flatMap enC) := HQ.out.o
                  rw [HTL.out] at h9
                  exact h9
                go_wp2_with (first | (at_builtin; go_loud (refine wpList_app1 w2 rfl (.tmp 53) (.tmp 55) 48 26 _ 3 32 rfl Try.underlying26 info_en rfl (by decide) (w.heap.size + 1) _ _ _ (by rfl) hOwn.out [.string e0.k, .int .i64 e0.v, .int .i64 (e0.h : Nat)] rfl (fun u hu => en_one [e0] u (by simpa [enC] using hu)) _ rfl (by simp) HLt.out (by have := HLt.out; omega) HQ.out.z ?_); intro v5 w5 ho5 hb5 h8; refine Hid.out ?_))
                have HA := (show Hid _ from HQ.out.app HE.out HF.out (by rw [HTL.out]; exact HM.out) HRl.out (by rw [HTL.out]; exact ho5) hb5)
                clear ho5 hb5 h8
                unfold Hid
                go_wp2_with fail
                go_roundw
                case rel => exact ⟨i + 1, by omega, by go_num, HA⟩
                case measure => simp [intOf]; omega
              | false =>
                have HF : Hid (inR lo hi false e0 = false) := by show inR lo hi false e0 = false; unfold inR endB; rw [hlo, hhi]; rfl
                unfold ltB at hlo hhi
                have HO2 := (show Hid _ from HQ.out.off HE.out HF.out)
                go_wp2_with fail
                go_roundw
                case rel => exact ⟨i + 1, by omega, by go_num, HO2⟩
                case measure => simp [intOf]; omega
        | true =>
          have HE : Hid ((wayE true S)[i]? = some (S[S.length - 1 - i])) := by
            have h9 := way_at (back := true) (S := S) hltS
            rw [h9]
            rfl
          have hjS : S.length - 1 - i < S.length := by omega
          obtain ⟨gl', el, -, b0, b1, b2⟩ := HI.out.r (S.length - 1 - i) hjS
          cases el
          have hw1 : IntKind.i64.wrap ((n : Int) - 1) = ((n - 1 : Nat) : Int) := by
            rw [show ((n : Int) - 1) = ((n - 1 : Nat) : Int) by omega]
            exact wrap64_nat (by omega)
          obtain ⟨j, hj⟩ : ∃ j, S.length - 1 - i = j := ⟨_, rfl⟩
          have hjn : n - 1 - i = j := by rw [← hj, HN.out]
          have hw2 : IntKind.i64.wrap (((n - 1 : Nat) : Int) - (i : Int)) = (j : Int) := by
            rw [show (((n - 1 : Nat) : Int) - (i : Int)) = (j : Int) by omega]
            exact wrap64_nat (by omega)
          have hjn2 : j < n := by omega
          generalize S[S.length - 1 - i] = e0 at *
          rw [hj] at b0 b1 b2
          clear hj hjn hjS
          generalize S[i] = e1 at *
          generalize n - 1 = n1 at *
          obtain ⟨k1, k2, k3⟩ := box3_is wr e0
          have HK : Hid (Blk (box3 wr e0) wr.heap.size (enA e0) 48) := k1
          have HQ : Hid (RsS w (box3 wr e0) (some ⟨gl, 0, none⟩) S lo hi op true most (.slice po tl co) i) := HI.out.on k2
          obtain ⟨-, k2, -⟩ := box3_is wr e1
          clear k1 k3
          have b0' := (k2.cell (p := ⟨gl, j * 3, none⟩) (World.block_lt_of_cell? wr _ b0)).trans b0
          have b1' := (k2.cell (p := ⟨gl, j * 3 + 1, none⟩) (World.block_lt_of_cell? wr _ b1)).trans b1
          have b2' := (k2.cell (p := ⟨gl, j * 3 + 2, none⟩) (World.block_lt_of_cell? wr _ b2)).trans b2
          clear k2
          go_upto_region 8 with fail
          have HW2 : ∃ w2, box3 wr e0 = w2 := ⟨_, rfl⟩
          obtain ⟨w2, hw2q⟩ := HW2
          simp only [box3] at hw2q
          simp only [box3] at HK HQ
          rw [hw2q] at HK HQ ⊢
          clear hw2q
          have x0 := Blk.cell (i := 0) HK.out rfl
          have x1 := Blk.cell (i := 1) HK.out rfl
          have x2 := Blk.cell (i := 2) HK.out rfl
          have y0 := Blk.cell (i := 0) HQ.out.x rfl
          have y1 := Blk.cell (i := 1) HQ.out.x rfl
          have y2 := Blk.cell (i := 2) HQ.out.x rfl
          cases hlo : ltB e0.k lo with
          | true =>
            have HF : Hid (inR lo hi op e0 = false) := by show inR lo hi op e0 = false; unfold inR; rw [hlo]; rfl
            unfold ltB at hlo
            have HO2 := (show Hid _ from HQ.out.off HE.out HF.out)
            go_wp2_with fail
            go_roundw
            case rel => exact ⟨i + 1, by omega, by go_num, HO2⟩
            case measure => simp [intOf]; omega
          | false =>
            cases op with
            | true =>
              have HF : Hid (inR lo hi true e0 = true) := by show inR lo hi true e0 = true; unfold inR endB; rw [hlo]; rfl
              unfold ltB at hlo
              have HLt : Hid ((tl + 1) * 32 ≤ 140737488355328) := by
                have h1 := HTl.out
                have h2 := HL.out
                rw [HN.out] at h2
                have : (tl + 1) * 32 ≤ 140737488355328 := by omega
                exact this
              have hOwn : Hid (World.ownsRow w2 (w.heap.size + 1) 48 3 (.slice po tl co) tl ((toldE true S lo hi true i).flatMap enC)) := by
                have h9 : World.ownsRow w2 (w.heap.size + 1) 48 3 (.slice po tl co) (toldE true S lo hi true i).length ((toldE true S lo hi true i).flatMap enC) := HQ.out.o
                rw [HTL.out] at h9
                exact h9
              go_wp2_with (first | (at_builtin; go_loud (refine wpList_app1 w2 rfl (.tmp 53) (.tmp 55) 48 26 _ 3 32 rfl Try.underlying26 info_en rfl (by decide) (w.heap.size + 1) _ _ _ (by rfl) hOwn.out [.string e0.k, .int .i64 e0.v, .int .i64 (e0.h : Nat)] rfl (fun u hu => en_one [e0] u (by simpa [enC] using hu)) _ rfl (by simp) HLt.out (by have := HLt.out; omega) HQ.out.z ?_); intro v5 w5 ho5 hb5 h8; refine Hid.out ?_))
              have HA := (show Hid _ from HQ.out.app HE.out HF.out (by rw [HTL.out]; exact HM.out) HRl.out (by rw [HTL.out]; exact ho5) hb5)
              clear ho5 hb5 h8
              unfold Hid
              go_wp2_with fail
              go_roundw
              case rel => exact ⟨i + 1, by omega, by go_num, HA⟩
              case measure => simp [intOf]; omega
            | false =>
              cases hhi : ltB e0.k hi with
              | true =>
                have HF : Hid (inR lo hi false e0 = true) := by show inR lo hi false e0 = true; unfold inR endB; rw [hlo, hhi]; rfl
                unfold ltB at hlo hhi
                have HLt : Hid ((tl + 1) * 32 ≤ 140737488355328) := by
                  have h1 := HTl.out
                  have h2 := HL.out
                  rw [HN.out] at h2
                  have : (tl + 1) * 32 ≤ 140737488355328 := by omega
                  exact this
                have hOwn : Hid (World.ownsRow w2 (w.heap.size + 1) 48 3 (.slice po tl co) tl ((toldE true S lo hi false i).flatMap enC)) := by
                  have h9 : World.ownsRow w2 (w.heap.size + 1) 48 3 (.slice po tl co) (toldE true S lo hi false i).length ((toldE true S lo hi false i).flatMap enC) := HQ.out.o
                  rw [HTL.out] at h9
                  exact h9
                go_wp2_with (first | (at_builtin; go_loud (refine wpList_app1 w2 rfl (.tmp 53) (.tmp 55) 48 26 _ 3 32 rfl Try.underlying26 info_en rfl (by decide) (w.heap.size + 1) _ _ _ (by rfl) hOwn.out [.string e0.k, .int .i64 e0.v, .int .i64 (e0.h : Nat)] rfl (fun u hu => en_one [e0] u (by simpa [enC] using hu)) _ rfl (by simp) HLt.out (by have := HLt.out; omega) HQ.out.z ?_); intro v5 w5 ho5 hb5 h8; refine Hid.out ?_))
                have HA := (show Hid _ from HQ.out.app HE.out HF.out (by rw [HTL.out]; exact HM.out) HRl.out (by rw [HTL.out]; exact ho5) hb5)
                clear ho5 hb5 h8
                unfold Hid
                go_wp2_with fail
                go_roundw
                case rel => exact ⟨i + 1, by omega, by go_num, HA⟩
                case measure => simp [intOf]; omega
              | false =>
                have HF : Hid (inR lo hi false e0 = false) := by show inR lo hi false e0 = false; unfold inR endB; rw [hlo, hhi]; rfl
                unfold ltB at hlo hhi
                have HO2 := (show Hid _ from HQ.out.off HE.out HF.out)
                go_wp2_with fail
                go_roundw
                case rel => exact ⟨i + 1, by omega, by go_num, HO2⟩
                case measure => simp [intOf]; omega
      · have g2 : decide ((tl : Int) < most) = false := by simpa using hm
        have HX : Hid (most ≤ (tl : Int)) := by have : most ≤ (tl : Int) := by omega
                                                exact this
        clear hm
        go_wp2_with fail
        go_ret
        exact ⟨_, rfl, HEnd.out _ HI (.inr HX.out)⟩
    · have g1 : decide ((i : Int) < (n : Int)) = false := by simp; omega
      go_wp2_with fail
      go_ret
      exact ⟨_, rfl, HEnd.out _ HI (.inl heq)⟩

end Go.Proofs.Ytojfohpnfciajaa
