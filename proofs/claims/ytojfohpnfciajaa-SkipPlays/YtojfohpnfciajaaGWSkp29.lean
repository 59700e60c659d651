/- Layer 12: a scan: ends, tell. Layer 12: a scan that rises. -/
import Derived.Test.YtojfohpnfciajaaGWSkp27
namespace Go.Proofs.Ytojfohpnfciajaa
open Go.RowKit
set_option maxRecDepth 100000

def enC (e : En) : List Value := [.string e.k, .int .i64 e.v, .int .i64 (e.h : Nat)]
theorem info_en : (Try.prog.info? 48).map (fun i => (i.zero, i.size, i.bytes)) = some (some (.agg #[.string ⟨#[]⟩, .int .i64 0, .int .i64 0]), 3, 32) := by kernel_rfl
abbrev OwnE (w : World) (B : Nat) (v : Value) (E : List En) : Prop := w.ownsRow B 48 3 v E.length (E.flatMap enC)
/-- A #[ptr1 lb, ptr1 sb, .string lo, .string hi, .bool op, .int .i64 most, v]AN IN MEMORY, begun in a world w. -/
structure ScS (w wq : World) (b lb sb : Nat) (lo hi : ByteArray) (op : Bool) (most : Int) (v : Value) (E : List En) : Prop where
  bel : Below w.heap.size w wq
  nb : w.heap.size ≤ b
  x : Blk wq b #[ptr1 lb, ptr1 sb, .string lo, .string hi, .bool op, .int .i64 most, v] 167
  o : OwnE wq w.heap.size v E
theorem ScS.keep {w wq w' : World} {b lb sb : Nat} {lo hi : ByteArray} {op : Bool} {most : Int} {v : Value} {E : List En} (q : ScS w wq b lb sb lo hi op most v E) (hb : Below wq.heap.size wq w') : ScS w w' b lb sb lo hi op most v E :=
  ⟨q.bel.trans (hb.mono q.bel.size), q.nb, q.x.on hb, owns_kept q.o hb⟩
/-- all blocks but scans and rows of entries stay -/
def KeepT (w w' : World) : Prop := ∀ k cs T, T ≠ 167 → T ≠ 48 → Blk w k cs T → Blk w' k cs T
theorem KeepT.refl (w : World) : KeepT w w := fun _ _ _ _ _ h => h
theorem KeepT.trans {w w1 w2 : World} (h : KeepT w w1) (h' : KeepT w1 w2) : KeepT w w2 := fun k cs T h1 h2 hb => h' k cs T h1 h2 (h k cs T h1 h2 hb)
theorem KeepT.of_below {w w' : World} (h : Below w.heap.size w w') : KeepT w w' := fun _ _ _ _ _ hb => hb.on h
theorem KeepT.grown {w w' : World} {B n : Nat} {v : Value} {xs : List Value} (h : w.ownsRow B 48 3 v n xs) (hg : w.grownBy w' v.ownBlock) : KeepT w w' := fun k cs T h1 h2 hb => hb.grow hg (fun e => by
  rcases owns_ne h hb (Ne.symm h2) with h9 | h9
  · rw [h9] at e; cases e
  · exact h9 e)
theorem KeepT.set {w : World} {b : Nat} {cs : Array Value} (h : Blk w b cs 167) (i : Nat) (v : Value) : KeepT w (w.setCell ⟨b, i, none⟩ v) := fun _k _ds _T h1 _h2 hb => hb.other (hb.ne h h1) i v
/-- does a key stand behind a range? -/
def endB (hi : ByteArray) (op : Bool) (k : ByteArray) : Bool := !op && !ltB k hi

set_option maxHeartbeats 2000000 in
theorem ends_any (b lb sb nb vb nl h : Nat) (lo hi k : ByteArray) (op : Bool) (most x : Int) (v : Value) (w : World) (hx : Blk w b #[ptr1 lb, ptr1 sb, .string lo, .string hi, .bool op, .int .i64 most, v] 167) (hn : NdM w nb vb nl k x h) :
    Calls Try.prog 94 #[ptr1 b, ptr1 nb] w fun e w' => e = .returned (.bool (endB hi op k)) ∧ Below w.heap.size w w' := by
  have y3 := Blk.cell (i := 3) hx rfl
  have y4 := Blk.cell (i := 4) hx rfl
  have n0 := Blk.cell (i := 0) hn.n rfl
  clear hx hn
  cases op with
  | true =>
    go_enter Try.func94, Try.ntmps94
    go_wp2_with fail
    go_quiet (fail)
    go_wp2_with fail
    go_ret
    exact ⟨rfl, below_drewN (Below.refl _ _) _⟩
  | false =>
    have HE : Hid (endB hi false k = !ltB k hi) := by show endB hi false k = !ltB k hi; rfl
    unfold ltB at HE
    go_enter Try.func94, Try.ntmps94
    go_wp2_with fail
    go_quiet (fail)
    go_wp2_with fail
    go_ret
    exact ⟨by rw [HE.out]; rfl, below_drewN (Below.refl _ _) _⟩

set_option maxHeartbeats 4000000 in
theorem tell_any (b lb sb nb vb nl h : Nat) (lo hi k : ByteArray) (op : Bool) (most x : Int) (v : Value) (E : List En) (w0 w : World) (hq : ScS w0 w b lb sb lo hi op most v E) (hn : NdM w nb vb nl k x h) (hl : E.length < 4000000000000) :
    Calls Try.prog 95 #[ptr1 b, ptr1 nb] w fun e w' => e = .returned (.bool (decide (((E.length + 1 : Nat) : Int) < most))) ∧ KeepT w w' ∧ ∃ v', ScS w0 w' b lb sb lo hi op most v' (E ++ [⟨k, x, h⟩]) := by
  have hdr : Below w.heap.size w w.drew := (Below.refl _ _).drew
  have HX : Hid (Blk w.drew b #[ptr1 lb, ptr1 sb, .string lo, .string hi, .bool op, .int .i64 most, v] 167) := hq.x.on hdr
  have HO : Hid (World.ownsRow w.drew w0.heap.size 48 3 v E.length (E.flatMap enC)) := owns_kept hq.o hdr
  have HN : Hid (NdM w.drew nb vb nl k x h) := hn.on hdr
  have HSz : Hid (w0.heap.size ≤ w.drew.heap.size) := hq.bel.size
  have HBw : Hid (Below w0.heap.size w0 w.drew) := hq.bel.trans (hdr.mono hq.bel.size)
  have HNb : Hid (w0.heap.size ≤ b) := hq.nb
  have HT0 : Hid (KeepT w w.drew) := KeepT.of_below hdr
  have HL : Hid (E.length < 4000000000000) := hl
  have HBd : Hid (Below w.drew.heap.size w.drew w.drew) := Below.refl _ _
  clear hq hn hdr hl
  go_enter Try.func95, Try.ntmps95
  go_upto_region 1 with fail
  refine wp_region_any (by kernel_rfl) ?_
  change wpAny _ _ _ _ _ _ _ (World.drew _)
  generalize w.drew = wd at *
  refine tk (v := ?_) 0 rfl ?_ ?_
  rotate_left
  focus
    intro w9
    go_simp
    try with_reducible rfl
  try simp only [aP]
  refine tk (v := ?_) 1 rfl ?_ ?_
  rotate_left
  focus
    intro w9
    go_simp
    try with_reducible rfl
  try simp only [aP]
  refine tk (v := ?_) 2 rfl ?_ ?_
  rotate_left
  focus
    intro w9
    go_simp
    try with_reducible rfl
  try simp only [aP]
  refine tk (v := ?_) 3 rfl ?_ ?_
  rotate_left
  focus
    intro w9
    go_simp
    try with_reducible rfl
  try simp only [aP]
  refine tk (v := ?_) 5 rfl ?_ ?_
  rotate_left
  focus
    intro w9
    go_simp
    try with_reducible rfl
  try simp only [aP]
  apply later3 (fun (_ : World) (v6 : Value) (w6 : World) => Hid (∃ pv cv, v6 = .slice pv (E.length + 1) cv ∧ w6.ownsRow w0.heap.size 48 3 v6 (E.length + 1) (E.flatMap enC ++ enC ⟨k, x, h⟩) ∧ Below w0.heap.size wd w6 ∧ Blk w6 b #[ptr1 lb, ptr1 sb, .string lo, .string hi, .bool op, .int .i64 most, v] 167 ∧ KeepT wd w6))
  intro hs4_6_7_8
  apply later1 (fun (w1 : World) => Hid (Below wd.heap.size wd w1))
  intro hs4_6_7
  apply later1 (fun (w1 : World) => Hid (Below wd.heap.size wd w1))
  intro hs6_7
  apply later1 (fun (w1 : World) => Hid (Below wd.heap.size wd w1))
  intro hs4_6
  apply later1 (fun (w1 : World) => Hid (Below wd.heap.size wd w1))
  intro hs6
  apply later0
  intro hs4
  · have y6 := Blk.cell (i := 6) HX.out rfl
    refine wpAny_ready (rs := [4, 6]) (by kernel_rfl) (by simp) ?_
    refine anyN_cons 4 rfl (by rfl) (fun K hK => ?_) (anyN_cons 6 rfl (by rfl) (fun K hK => ?_) AllReady.nil)
    · go_simp
      refine hK.out _ _ ?_
      clear hK K
      try simp only [aP]
      exact hs4
    · go_simp
      refine (entry_any nb vb nl h k x wd (HN.out.on HBd.out)).mono ?_
      rintro e w1 ⟨rfl, hb1⟩
      dsimp only
      have h1 : Hid (Below wd.heap.size wd w1) := hb1
      clear hb1
      refine hK.out _ _ ?_
      clear hK K
      try simp only [aP]
      exact hs6 w1 h1
  · have y6 := Blk.cell (i := 6) HX.out rfl
    refine wpAny_ready (rs := [6]) (by kernel_rfl) (by simp) ?_
    refine anyN_cons 6 rfl (by rfl) (fun K hK => ?_) AllReady.nil
    go_simp
    refine (entry_any nb vb nl h k x wd (HN.out.on HBd.out)).mono ?_
    rintro e w1 ⟨rfl, hb1⟩
    dsimp only
    have h1 : Hid (Below wd.heap.size wd w1) := hb1
    clear hb1
    refine hK.out _ _ ?_
    clear hK K
    try simp only [aP]
    exact hs4_6 w1 h1
  · intro w1 h1
    have y6 := Blk.cell (i := 6) (HX.out.on h1.out) rfl
    refine wpAny_ready (rs := [4, 7]) (by kernel_rfl) (by simp) ?_
    refine anyN_cons 4 rfl (by rfl) (fun K hK => ?_) (anyN_cons 7 rfl (by rfl) (fun K hK => ?_) AllReady.nil)
    · go_simp
      refine hK.out _ _ ?_
      clear hK K
      try simp only [aP]
      exact hs4_6 w1 h1
    · go_simp
      refine hK.out _ _ ?_
      clear hK K
      try simp only [aP]
      exact hs6_7 w1 h1
  · intro w1 h1
    have y6 := Blk.cell (i := 6) (HX.out.on h1.out) rfl
    refine wpAny_ready (rs := [7]) (by kernel_rfl) (by simp) ?_
    refine anyN_cons 7 rfl (by rfl) (fun K hK => ?_) AllReady.nil
    go_simp
    refine hK.out _ _ ?_
    clear hK K
    try simp only [aP]
    exact hs4_6_7 w1 h1
  · intro w1 h1
    have y6 := Blk.cell (i := 6) (HX.out.on (h1.out.trans (((Below.refl _ _).alloc (Nat.le_refl _) (.cells #[.string k, .int .i64 x, .int .i64 (h : Nat)] 48)).mono h1.out.size))) rfl
    refine wpAny_ready (rs := [4]) (by kernel_rfl) (by simp) ?_
    refine anyN_cons 4 rfl (by rfl) (fun K hK => ?_) AllReady.nil
    go_simp
    refine hK.out _ _ ?_
    clear hK K
    try simp only [aP]
    exact hs4_6_7 w1 h1
  · intro w1 h1
    have y6 := Blk.cell (i := 6) (HX.out.on (h1.out.trans (((Below.refl _ _).alloc (Nat.le_refl _) (.cells #[.string k, .int .i64 x, .int .i64 (h : Nat)] 48)).mono h1.out.size))) rfl
    refine wpAny_ready (rs := [8]) (by kernel_rfl) (by simp) ?_
    refine anyN_cons 8 rfl (by rfl) (fun K hK => ?_) AllReady.nil
    have hb12 : Below wd.heap.size wd (w1.alloc (.cells #[.string k, .int .i64 x, .int .i64 (h : Nat)] 48)) := h1.out.trans (((Below.refl _ _).alloc (Nat.le_refl _) _).mono h1.out.size)
    have hz2 : w0.heap.size ≤ (w1.alloc (.cells #[.string k, .int .i64 x, .int .i64 (h : Nat)] 48)).heap.size := Nat.le_trans HSz.out hb12.size
    have HO2 : Hid (World.ownsRow (w1.alloc (.cells #[.string k, .int .i64 x, .int .i64 (h : Nat)] 48)) w0.heap.size 48 3 v E.length (E.flatMap enC)) := owns_kept HO.out hb12
    refine wp_appW (w1.alloc (.cells #[.string k, .int .i64 x, .int .i64 (h : Nat)] 48)) (.tmp 9) (.tmp 12) 48 26 _ 3 32 rfl Try.underlying26 info_en rfl (by decide) w0.heap.size _ _ _ (by rfl) HO2.out [.string k, .int .i64 x, .int .i64 (h : Nat)] rfl (by intro u hu; simp only [List.mem_cons, List.not_mem_nil, or_false] at hu; rcases hu with rfl | rfl | rfl <;> rfl) w1.heap.size (by rfl) ?_ (by have := HL.out; omega) (by have := HL.out; omega) hz2 ?_
    · intro j u hj
      refine Blk.cell (Blk.new w1 #[.string k, .int .i64 x, .int .i64 (h : Nat)] 48) ?_
      simpa using hj
    intro v6 w6 h6 h8
    have H6 : Hid (∃ pv cv, v6 = .slice pv (E.length + 1) cv ∧ w6.ownsRow w0.heap.size 48 3 v6 (E.length + 1) (E.flatMap enC ++ enC ⟨k, x, h⟩) ∧ Below w0.heap.size wd w6 ∧ Blk w6 b #[ptr1 lb, ptr1 sb, .string lo, .string hi, .bool op, .int .i64 most, v] 167 ∧ KeepT wd w6) := by
      obtain ⟨pv, cv, e, -⟩ := owns_len h6
      refine ⟨pv, cv, e, h6, (hb12.mono HSz.out).grown h8 (Nat.le_trans HSz.out hb12.size) (fun k hk => ?_), ?_, (KeepT.of_below hb12).trans (KeepT.grown HO2.out h8)⟩
      · rcases HO2.out.2 with ⟨e1, _⟩ | ⟨g', cap, cur, e1, hB, _⟩
        · rw [e1] at hk; cases hk
        · rw [e1] at hk
          simp only [Value.ownBlock, Option.some.injEq] at hk
          omega
      · have hx := HX.out.on hb12
        refine hx.grow h8 (fun e => ?_)
        rcases owns_ne HO2.out hx (by decide) with h9 | h9
        · rw [h9] at e; cases e
        · exact h9 e
    clear hb12 hz2 HO2 h6 h8
    refine hK.out _ _ ?_
    clear hK K
    try simp only [aP]
    exact hs4_6_7_8 w1 v6 w6 H6
  · intro w1 v6 w6 H6
    refine tk (v := ?_) 9 rfl ?_ ?_
    rotate_left
    focus
      intro w9
      go_simp
      try with_reducible rfl
    try simp only [aP]
    refine tk (v := ?_) 10 rfl ?_ ?_
    rotate_left
    focus
      intro w9
      go_simp
      try with_reducible rfl
    try simp only [aP]
    obtain ⟨pv, cv, rfl, h62, h63, h64, h65⟩ := H6.out
    have y6 := Blk.cell (i := 6) h64 rfl
    have g6 := h64.frozen 6
    have hx7 := h64.set 6 (.slice pv (E.length + 1) cv)
    have HX7 : Hid (Blk (w6.setCell ⟨b, 6, none⟩ (.slice pv (E.length + 1) cv)) b #[ptr1 lb, ptr1 sb, .string lo, .string hi, .bool op, .int .i64 most, .slice pv (E.length + 1) cv] 167) := hx7
    have HT7 : Hid (KeepT wd (w6.setCell ⟨b, 6, none⟩ (.slice pv (E.length + 1) cv))) := h65.trans (KeepT.set h64 6 _)
    have HB7 : Hid (Below w0.heap.size wd (w6.setCell ⟨b, 6, none⟩ (.slice pv (E.length + 1) cv))) := ⟨h63.os, h63.tape, h63.output, (by simpa [size_set] using h63.size), fun k hk => (heap_set_other w6 b 6 k _ (by have := HNb.out; omega)).trans (h63.block k hk)⟩
    have HO7 : Hid (OwnE (w6.setCell ⟨b, 6, none⟩ (.slice pv (E.length + 1) cv)) w0.heap.size (.slice pv (E.length + 1) cv) (E ++ [⟨k, x, h⟩])) := by
      show World.ownsRow _ _ _ _ _ _ _
      rw [show (E ++ [(⟨k, x, h⟩ : En)]).length = E.length + 1 by simp, show (E ++ [(⟨k, x, h⟩ : En)]).flatMap enC = E.flatMap enC ++ enC ⟨k, x, h⟩ by simp]
      exact h62.kept (grownBy_set w6 b 6 _) (owns_ne h62 h64 (by decide))
    clear h62 h63 h64 h65 hx7
    refine wpAny_ready (rs := [11]) (by kernel_rfl) (by simp) ?_
    refine anyN_cons 11 rfl (by rfl) (fun K hK => ?_) AllReady.nil
    go_simp
    refine hK.out _ _ ?_
    clear hK K
    try simp only [aP]
    clear y6 g6
    refine wpAny_done (by kernel_rfl) ?_ _
    go_upto_region 2 with fail
    generalize (w6.setCell ⟨b, 6, none⟩ (.slice pv (E.length + 1) cv)) = w7 at *
    have y6 := Blk.cell (i := 6) HX7.out rfl
    have y5 := Blk.cell (i := 5) HX7.out rfl
    go_quiet (fail)
    go_wp2_with fail
    go_ret
    refine ⟨rfl, HT0.out.trans (HT7.out.trans (KeepT.of_below (below_drewN (Below.refl _ _) _))), _, ⟨?_, HNb.out, HX7.out.on (below_drewN (Below.refl _ _) _), owns_kept HO7.out (below_drewN (Below.refl _ _) _)⟩⟩
    exact below_drewN (HBw.out.trans HB7.out) _

end Go.Proofs.Ytojfohpnfciajaa

namespace Go.Proofs.Ytojfohpnfciajaa
open Go.RowKit
set_option maxRecDepth 100000

/-- entries are told, till one ends or there are enough -/
def riseF (hi : ByteArray) (op : Bool) (most : Int) : List En → List En → List En
  | [], T => T
  | e :: l, T => if endB hi op e.k then T else if ((T.length + 1 : Nat) : Int) < most then riseF hi op most l (T ++ [e]) else T ++ [e]
/-- how far a pointer is from the end -/
def msO (hb : Nat) (N : List Nd) (v : Value) : Nat := match v with
  | .pointer none => 0
  | _ => N.length + 2 - posOf hb N v
theorem ms_at {w : World} {hb hl : Nat} {N : List Nd} (h : SkN w hb hl N) {i : Nat} (hi : i < N.length) : msO hb N (ptr1 N[i].nb) = N.length + 1 - i := by
  have h9 := posOf_at h (p := i + 1) hi
  rw [posB_at hb hi] at h9
  show N.length + 2 - posOf hb N (ptr1 N[i].nb) = _
  rw [h9]
  omega
theorem ms_next {w : World} {hb hl : Nat} {N : List Nd} (h : SkN w hb hl N) {i : Nat} (hi : i < N.length) : msO hb N (ptrO (N[i + 1]?.map Nd.nb)) < N.length + 1 - i := by
  rcases Nat.lt_or_ge (i + 1) N.length with h1 | h1
  · rw [List.getElem?_eq_getElem h1, show ptrO (Option.map Nd.nb (some N[i + 1])) = ptr1 N[i + 1].nb from rfl, ms_at h h1]
    omega
  · rw [List.getElem?_eq_none h1]
    show 0 < _
    omega

set_option maxHeartbeats 4000000 in
theorem rise_any (b lb hb sb hl cb : Nat) (N : List Nd) (lo hi : ByteArray) (op : Bool) (most : Int) (v : Value) (w0 w : World) (hk : Skp w0 lb hb sb hl cb N) (hq : ScS w0 w b lb sb lo hi op most v []) (hN : N.length < 4000000000000) :
    Calls Try.prog 73 #[ptr1 b] w fun e w' => e = .returned (.tuple #[]) ∧ ∃ v', ScS w0 w' b lb sb lo hi op most v' (riseF hi op most ((ensN N).drop (fnd (ensN N) lo)) []) := by
  have hdr : Below w.heap.size w w.drew := (Below.refl _ _).drew
  have HK : Hid (Skp w0 lb hb sb hl cb N) := hk
  have HQd : Hid (ScS w0 w.drew b lb sb lo hi op most v []) := hq.keep hdr
  have hkd := hk.on HQd.out.bel
  have CS : Hid (Calls Try.prog 42 #[.agg #[ptr1 lb, ptr1 sb], .string lo, .bool false] w.drew fun e w' => e = .returned (ptrO (seekN N (fnd (ensN N) lo) lo false)) ∧ Below w.drew.heap.size w.drew w') := seek_any lb hb sb hl (fnd (ensN N) lo) N lo false w.drew hkd.vw hkd.n (fnd_leN N lo) (rise_lt lo) (rise_ge hk.r lo)
  have HY : Hid (w.drew.cell? ⟨b, 0, none⟩ = some (ptr1 lb) ∧ w.drew.cell? ⟨b, 1, none⟩ = some (ptr1 sb) ∧ w.drew.cell? ⟨b, 2, none⟩ = some (.string lo)) := ⟨Blk.cell (i := 0) hq.x rfl, Blk.cell (i := 1) hq.x rfl, Blk.cell (i := 2) hq.x rfl⟩
  have HLn : Hid (N.length < 4000000000000) := hN
  clear hk hq hkd hdr hN
  go_enter Try.func73, Try.ntmps73
  go_upto_region 0 with fail
  refine wp_region_any (by kernel_rfl) ?_
  change wpAny _ _ _ _ _ _ _ (World.drew _)
  generalize w.drew = wd at *
  refine tk (v := ?_) 0 rfl ?_ ?_
  rotate_left
  focus
    intro w9
    go_simp
    try with_reducible rfl
  try simp only [aP]
  refine tk (v := ?_) 1 rfl ?_ ?_
  rotate_left
  focus
    intro w9
    go_simp
    try with_reducible rfl
  try simp only [aP]
  refine tk (v := ?_) 2 rfl ?_ ?_
  rotate_left
  focus
    intro w9
    go_simp
    try with_reducible rfl
  try simp only [aP]
  refine tk (v := ?_) 4 rfl ?_ ?_
  rotate_left
  focus
    intro w9
    go_simp
    try with_reducible rfl
  try simp only [aP]
  refine tk (v := ?_) 5 rfl ?_ ?_
  rotate_left
  focus
    intro w9
    go_simp
    try with_reducible rfl
  try simp only [aP]
  refine tk (v := ?_) 6 rfl ?_ ?_
  rotate_left
  focus
    intro w9
    go_simp
    try with_reducible rfl
  try simp only [aP]
  refine tk (v := ?_) 7 rfl ?_ ?_
  rotate_left
  focus
    intro w9
    go_simp
    try with_reducible rfl
  try simp only [aP]
  apply later1 (fun (w1 : World) => Hid (Below wd.heap.size wd w1))
  intro hs3_8_9
  apply later0
  intro hs3_8
  apply later0
  intro hs8
  apply later0
  intro hs3
  · obtain ⟨y0, y1, y2⟩ := HY.out
    refine wpAny_ready (rs := [3, 8]) (by kernel_rfl) (by simp) ?_
    refine anyN_cons 3 rfl (by rfl) (fun K hK => ?_) (anyN_cons 8 rfl (by rfl) (fun K hK => ?_) AllReady.nil)
    · go_simp
      refine hK.out _ _ ?_
      clear hK K
      try simp only [aP]
      exact hs3
    · go_simp
      refine hK.out _ _ ?_
      clear hK K
      try simp only [aP]
      exact hs8
  · obtain ⟨y0, y1, y2⟩ := HY.out
    refine wpAny_ready (rs := [8]) (by kernel_rfl) (by simp) ?_
    refine anyN_cons 8 rfl (by rfl) (fun K hK => ?_) AllReady.nil
    go_simp
    refine hK.out _ _ ?_
    clear hK K
    try simp only [aP]
    exact hs3_8
  · obtain ⟨y0, y1, y2⟩ := HY.out
    refine wpAny_ready (rs := [3]) (by kernel_rfl) (by simp) ?_
    refine anyN_cons 3 rfl (by rfl) (fun K hK => ?_) AllReady.nil
    go_simp
    refine hK.out _ _ ?_
    clear hK K
    try simp only [aP]
    exact hs3_8
  · obtain ⟨y0, y1, y2⟩ := HY.out
    refine wpAny_ready (rs := [9]) (by kernel_rfl) (by simp) ?_
    refine anyN_cons 9 rfl (by rfl) (fun K hK => ?_) AllReady.nil
    go_simp
    refine CS.out.mono ?_
    rintro e w1 ⟨rfl, hb1⟩
    dsimp only
    have h1 : Hid (Below wd.heap.size wd w1) := hb1
    clear hb1
    refine hK.out _ _ ?_
    clear hK K
    try simp only [aP]
    exact hs3_8_9 w1 h1
  · intro w1 h1
    refine wpAny_ready (rs := [10]) (by kernel_rfl) (by simp) ?_
    refine anyN_cons 10 rfl (by rfl) (fun K hK => ?_) AllReady.nil
    go_simp
    refine hK.out _ _ ?_
    clear hK K
    try simp only [aP]
    refine wpAny_done (by kernel_rfl) ?_ _
    have HQ1 : Hid (ScS w0 w1 b lb sb lo hi op most v []) := HQd.out.keep h1.out
    clear HQd h1 CS
    rw [show seekN N (fnd (ensN N) lo) lo false = N[fnd (ensN N) lo]?.map Nd.nb from if_pos rfl]
    go_wp2_with fail
    go_loopw [2] (fun sx wq => ∃ (i : Nat) (T : List En) (u : Value), i ≤ N.length ∧ sx = ptrO (N[i]?.map Nd.nb) ∧ Hid (ScS w0 wq b lb sb lo hi op most u T ∧ riseF hi op most ((ensN N).drop i) T = riseF hi op most ((ensN N).drop (fnd (ensN N) lo)) [] ∧ T.length ≤ i)) (fun sx _ => msO hb N sx)
    case atStart => exact ⟨fnd (ensN N) lo, [], v, fnd_leN N lo, rfl, HQ1.out, rfl, Nat.zero_le _⟩
    case round =>
      obtain ⟨i, T, u, hi9, rfl, HI⟩ := hrel
      clear HQ1
      rcases Nat.lt_or_ge i N.length with hi2 | hi2
      · have hg : N[i]? = some N[i] := List.getElem?_eq_getElem hi2
        rw [hg, show ptrO (Option.map Nd.nb (some N[i])) = ptr1 N[i].nb from rfl]
        have hsk := HK.out.on HI.out.1.bel
        have C1 : Hid (Calls _ _ _ _ _) := ends_any b lb sb N[i].nb N[i].vb N[i].lb N[i].e.h lo hi N[i].e.k op most N[i].e.v u wr HI.out.1.x (hsk.n.ndm hi2)
        have HM1 : Hid (msO hb N (ptr1 N[i].nb) = N.length + 1 - i) := ms_at hsk.n.n hi2
        have hdr : (ensN N).drop i = N[i].e :: (ensN N).drop (i + 1) := by
          rw [List.drop_eq_getElem_cons (by rw [ens_len]; exact hi2)]
          simp [ensN]
        have HRf : Hid (riseF hi op most ((ensN N).drop i) T = if endB hi op N[i].e.k then T else if ((T.length + 1 : Nat) : Int) < most then riseF hi op most ((ensN N).drop (i + 1)) (T ++ [N[i].e]) else T ++ [N[i].e]) := by
          show _ = _
          rw [hdr]
          rfl
        clear hg hsk hdr
        cases he : endB hi op N[i].e.k with
        | true =>
          rw [he] at C1 HRf
          rw [if_pos rfl] at HRf
          clear he
          go_wp2_with fail
          refine C1.out.mono ?_
          rintro e w2 ⟨rfl, hb2⟩
          have HZ : Hid (ScS w0 w2 b lb sb lo hi op most u (riseF hi op most ((ensN N).drop (fnd (ensN N) lo)) [])) := by
            have h9 := HI.out.1.keep hb2
            rw [← HI.out.2.1, HRf.out]
            exact h9
          clear hb2 C1
          go_wp2_with fail
          refine bodyPost_end (results_none rfl _ _ _) rfl ?_
          exact ⟨rfl, u, HZ.out⟩
        | false =>
          rw [he] at C1 HRf
          rw [if_neg (by decide)] at HRf
          clear he
          go_wp2_with fail
          refine C1.out.mono ?_
          rintro e w2 ⟨rfl, hb2⟩
          have HI2 : Hid (ScS w0 w2 b lb sb lo hi op most u T) := HI.out.1.keep hb2
          have hsk2 := HK.out.on HI2.out.bel
          have C2 : Hid (Calls _ _ _ _ _) := tell_any b lb sb N[i].nb N[i].vb N[i].lb N[i].e.h lo hi N[i].e.k op most N[i].e.v u T w0 w2 HI2.out (hsk2.n.ndm hi2) (by have := HLn.out; have := HI.out.2.2; omega)
          clear hb2 C1 hsk2
          by_cases hm : ((T.length + 1 : Nat) : Int) < most
          · rw [decide_eq_true hm] at C2
            rw [if_pos hm] at HRf
            clear hm
            go_wp2_with fail
            refine C2.out.mono ?_
            rintro e w3 ⟨rfl, -, u3, hq3⟩
            have hsk3 := HK.out.on hq3.bel
            obtain ⟨kb, n, q1, q2, q3, q4⟩ := hsk3.n.n.at (l := 0) (p := i + 1) (by decide) (onL0 hsk3.n.n hi2)
            rw [posB_at hb hi2] at q1
            rw [tgt0 hsk3.n.n (i + 1)] at q4
            have C3 : Hid (Calls _ _ _ _ _) := behind_any lb hb sb N[i].nb kb n 0 _ w3 hsk3.vw q1 q2 q3 q4
            have HI3 : Hid (ScS w0 w3 b lb sb lo hi op most u3 (T ++ [N[i].e])) := hq3
            have y0 := Blk.cell (i := 0) hq3.x rfl
            have y1 := Blk.cell (i := 1) hq3.x rfl
            have HM2 : Hid (msO hb N (ptrO (N[i + 1]?.map Nd.nb)) < N.length + 1 - i) := ms_next hsk3.n.n hi2
            clear hq3 hsk3 q1 q2 q3 q4 C2 HI2
            go_wp2_with fail
            refine C3.out.mono ?_
            rintro e w4 ⟨rfl, hb4⟩
            have HI4 : Hid (ScS w0 w4 b lb sb lo hi op most u3 (T ++ [N[i].e]) ∧ riseF hi op most ((ensN N).drop (i + 1)) (T ++ [N[i].e]) = riseF hi op most ((ensN N).drop (fnd (ensN N) lo)) [] ∧ (T ++ [N[i].e]).length ≤ i + 1) := ⟨HI3.out.keep hb4, by rw [← HRf.out]; exact HI.out.2.1, by rw [List.length_append]; have := HI.out.2.2; simp; omega⟩
            clear hb4 C3 y0 y1
            go_wp2_with fail
            go_roundw
            case rel => exact ⟨i + 1, _, u3, hi2, rfl, HI4⟩
            case measure => rw [HM1.out]; exact HM2.out
          · rw [decide_eq_false hm] at C2
            rw [if_neg hm] at HRf
            clear hm
            go_wp2_with fail
            refine C2.out.mono ?_
            rintro e w3 ⟨rfl, -, u3, hq3⟩
            have HZ : Hid (ScS w0 w3 b lb sb lo hi op most u3 (riseF hi op most ((ensN N).drop (fnd (ensN N) lo)) [])) := by
              show ScS _ _ _ _ _ _ _ _ _ _ _
              rw [← HI.out.2.1, HRf.out]
              exact hq3
            clear hq3 C2
            go_wp2_with fail
            refine bodyPost_end (results_none rfl _ _ _) rfl ?_
            exact ⟨rfl, u3, HZ.out⟩
      · have hg : N[i]? = none := List.getElem?_eq_none hi2
        rw [hg, show ptrO (Option.map Nd.nb (none : Option Nd)) = .pointer none from rfl]
        have HZ : Hid (ScS w0 wr b lb sb lo hi op most u (riseF hi op most ((ensN N).drop (fnd (ensN N) lo)) [])) := by
          have h9 := HI.out.2.1
          rw [List.drop_eq_nil_of_le (by rw [ens_len]; exact hi2)] at h9
          rw [← h9]
          exact HI.out.1
        clear hg
        go_wp2_with fail
        refine bodyPost_end (results_none rfl _ _ _) rfl ?_
        exact ⟨rfl, u, HZ.out⟩

end Go.Proofs.Ytojfohpnfciajaa
