/- The text of digits and an exponent: %e. The text of digits and an exponent: one digit. -/
import Derived.Test.YthbjheiogghjnaaGreatDoorGWFl7
import Derived.Test.YthbjheiogghjnaaGreatDoorGWApp
namespace Go.Proofs.YthbjheiogghjnaaGreatDoor
open Go.RowKit
set_option maxRecDepth 100000

theorem u8_of (z : Int) (h0 : 0 ≤ z) (h1 : z < 256) : z = ((UInt8.ofNat z.toNat).toNat : Int) := by
  rw [UInt8.toNat_ofNat']
  omega
def expB (x : Nat) : List UInt8 := if x < 10 then [48, UInt8.ofNat (x + 48)] else if x < 100 then [UInt8.ofNat (x / 10 + 48), UInt8.ofNat (x % 10 + 48)] else [UInt8.ofNat (x / 100 + 48), UInt8.ofNat (x / 10 % 10 + 48), UInt8.ofNat (x % 10 + 48)]
/-- an exponent, with its sign -/
def expS (x : Int) : List UInt8 := if x < 0 then 45 :: expB (-x).toNat else 43 :: expB x.toNat
/-- digits with a point behind the first one -/
def digE (D : List UInt8) : List UInt8 := (D.head?.getD 48) :: (if 2 ≤ D.length then 46 :: D.tail else [])
def fmtE (neg : Bool) (D : List UInt8) (dp : Int) : List UInt8 := (if neg then [45] else []) ++ digE D ++ 101 :: expS (if D = [] then 0 else dp - 1)
theorem expB_len (x : Nat) : (expB x).length ≤ 3 := by
  unfold expB
  split
  · simp
  · split <;> simp
theorem fmtE_len (neg : Bool) (D : List UInt8) (dp : Int) : (fmtE neg D dp).length ≤ D.length + 8 := by
  have h1 : (digE D).length ≤ D.length + 1 := by
    unfold digE
    split
    · rw [List.length_cons, List.length_cons, List.length_tail]
      omega
    · simp
  have h2 : ∀ x : Int, (expS x).length ≤ 4 := fun x => by
    unfold expS
    split
    · have := expB_len (-x).toNat; simp; omega
    · have := expB_len x.toNat; simp; omega
  have h3 : (if neg then ([45] : List UInt8) else []).length ≤ 1 := by split <;> simp
  have h4 := h2 (if D = [] then 0 else dp - 1)
  unfold fmtE
  rw [List.length_append, List.length_append, List.length_cons]
  omega
/-- digits in an array of 32 bytes -/
def DigM (w : World) (g : Nat) (D : List UInt8) : Prop := ∃ cs : Array Value, w.heap[g]? = some (.cells cs 139 (0, 0)) ∧ ∀ t (ht : t < D.length), cs[t]? = some (.int .u8 (D[t].toNat : Int))
theorem DigM.keep {w w' : World} {g B : Nat} {D : List UInt8} (h : DigM w g D) (hk : Keep5 B w w') : DigM w' g D := by
  obtain ⟨cs, h1, h2⟩ := h
  refine ⟨cs, ?_, h2⟩
  rw [hk.other g _ h1 (fun cs' z e => by injection e with _ e _; exact absurd e (by decide))]
  exact h1
theorem DigM.cell {w : World} {g : Nat} {D : List UInt8} (h : DigM w g D) (t : Nat) (ht : t < D.length) : w.cell? ⟨g, t, none⟩ = some (.int .u8 (D[t].toNat : Int)) := by
  obtain ⟨cs, h1, h2⟩ := h
  have := h2 t ht
  simp [World.cell?, h1, this]
theorem wpList_app2 {ops : Array Oper} {rest : List Oper} {o : Oper} {a : Act} {Q : Exit → Act → World → Prop} (w : World) (hgd : o.guard = none) (s x : Operand)
    (ho : o.op = .call { callee := .builtin .append, args := #[s, x], argTypes := #[52, 52] })
    (B : Nat) (v : Value) (bs : List UInt8) (hs : a.eval s = v) (hown : OwnB w B v bs)
    (b c : UInt8) (z y : Int) (hz : z = (b.toNat : Int)) (hy : y = (c.toNat : Int)) (hx : a.eval x = .slice (some ⟨w.heap.size, 0, none⟩) 2 2)
    (hlen : bs.length + 2 ≤ 140737488355328) (hbase : B ≤ w.heap.size)
    (h : ∀ v' w', OwnB w' B v' (bs ++ [b, c]) → Keep5 B w w' → wpList Tryz.prog ops Q rest (a.put o.dst v') w') : wpList Tryz.prog ops Q (o :: rest) a (w.alloc (.cells #[.int .u8 z, .int .u8 y] 5)) := by
  subst hz hy
  refine wpList_app _ hgd s x ho B v bs hs (hown.kept ((Below.refl _ _).alloc (Nat.le_refl _) _)) ⟨w.heap.size, 0, none⟩ 2 2 [b, c] hx rfl ?_ (by simpa using hlen) (by simp; omega) fun v' w' h1 h2 => h v' w' h1 ((Keep5.alloc w _ hbase).trans h2)
  intro j hj
  have : j = 0 ∨ j = 1 := by simp at hj; omega
  rcases this with rfl | rfl <;> simp [Addr.add]
theorem wpList_app3 {ops : Array Oper} {rest : List Oper} {o : Oper} {a : Act} {Q : Exit → Act → World → Prop} (w : World) (hgd : o.guard = none) (s x : Operand)
    (ho : o.op = .call { callee := .builtin .append, args := #[s, x], argTypes := #[52, 52] })
    (B : Nat) (v : Value) (bs : List UInt8) (hs : a.eval s = v) (hown : OwnB w B v bs)
    (b c d : UInt8) (z y u : Int) (hz : z = (b.toNat : Int)) (hy : y = (c.toNat : Int)) (hu : u = (d.toNat : Int)) (hx : a.eval x = .slice (some ⟨w.heap.size, 0, none⟩) 3 3)
    (hlen : bs.length + 3 ≤ 140737488355328) (hbase : B ≤ w.heap.size)
    (h : ∀ v' w', OwnB w' B v' (bs ++ [b, c, d]) → Keep5 B w w' → wpList Tryz.prog ops Q rest (a.put o.dst v') w') : wpList Tryz.prog ops Q (o :: rest) a (w.alloc (.cells #[.int .u8 z, .int .u8 y, .int .u8 u] 5)) := by
  subst hz hy hu
  refine wpList_app _ hgd s x ho B v bs hs (hown.kept ((Below.refl _ _).alloc (Nat.le_refl _) _)) ⟨w.heap.size, 0, none⟩ 3 3 [b, c, d] hx rfl ?_ (by simpa using hlen) (by simp; omega) fun v' w' h1 h2 => h v' w' h1 ((Keep5.alloc w _ hbase).trans h2)
  intro j hj
  have : j = 0 ∨ j = 1 ∨ j = 2 := by simp at hj; omega
  rcases this with rfl | rfl | rfl <;> simp [Addr.add]

set_option maxHeartbeats 16000000 in
theorem fmtE_zero (B _g : Nat) (neg : Bool) (D : List UInt8) (sv vb : Value) (bs : List UInt8) (dp prec : Int) (w : World) (hD : D = []) (hp : prec ≤ 0) (hd1 : -500 ≤ dp) (hd2 : dp ≤ 500) (ho : OwnB w B vb bs) (hB : B ≤ w.heap.size) (hl : bs.length ≤ 1000) :
    Calls Tryz.prog 110 #[vb, .bool neg, sv, .int .i64 dp, .int .i64 (0), .int .i64 prec, .int .u8 101, .bool true] w fun e w' => ∃ v', e = .returned v' ∧ OwnB w' B v' (bs ++ fmtE neg D dp) ∧ Keep5 B w w' := by
  subst hD
  cases neg
  · have HO : Hid (OwnB w B vb bs) := ho
    have HK : Hid (Keep5 B w w) := Keep5.refl _ _
    have HL0 : Hid (bs.length ≤ 1000) := hl
    have HBz : Hid (B ≤ w.heap.size) := hB
    clear ho hB hl
    go_enter Tryz.func110, Tryz.ntmps110
    have HL : Hid ((bs).length ≤ 1100) := by have := HL0.out; show _ ≤ _; first | omega | (simp; omega)
    go_wp2_with (first | (at_builtin; go_loud (refine wpList_app1 w rfl (.tmp 87) (.tmp 89) rfl B _ (bs) (by rfl) HO.out 48 _ rfl (by rfl) (by have := HL.out; omega) (Nat.le_trans HBz.out HK.out.below.size) ?_); intro v6 w6 h1 h2; refine Hid.out ?_))
    replace HK : Hid (Keep5 B w w6) := HK.out.trans h2
    replace HO : Hid (OwnB w6 B v6 (bs ++ [48])) := h1
    clear h1 h2 HL
    unfold Hid
    have HL : Hid ((bs ++ [48]).length ≤ 1100) := by have := HL0.out; show _ ≤ _; first | omega | (simp; omega)
    go_wp2_with (first | (at_builtin; go_loud (refine wpList_app1 w6 rfl (.tmp 120) (.tmp 122) rfl B _ (bs ++ [48]) (by rfl) HO.out 101 _ rfl (by rfl) (by have := HL.out; omega) (Nat.le_trans HBz.out HK.out.below.size) ?_); intro v7 w7 h1 h2; refine Hid.out ?_))
    replace HK : Hid (Keep5 B w w7) := HK.out.trans h2
    replace HO : Hid (OwnB w7 B v7 (bs ++ [48] ++ [101])) := h1
    clear h1 h2 HL
    unfold Hid
    have HL : Hid ((bs ++ [48] ++ [101]).length ≤ 1100) := by have := HL0.out; show _ ≤ _; first | omega | (simp; omega)
    go_wp2_with (first | (at_builtin; go_loud (refine wpList_app1 w7 rfl (.tmp 132) (.tmp 134) rfl B _ (bs ++ [48] ++ [101]) (by rfl) HO.out 43 _ rfl (by rfl) (by have := HL.out; omega) (Nat.le_trans HBz.out HK.out.below.size) ?_); intro v8 w8 h1 h2; refine Hid.out ?_))
    replace HK : Hid (Keep5 B w w8) := HK.out.trans h2
    replace HO : Hid (OwnB w8 B v8 (bs ++ [48] ++ [101] ++ [43])) := h1
    clear h1 h2 HL
    unfold Hid
    have HL : Hid ((bs ++ [48] ++ [101] ++ [43]).length ≤ 1100) := by have := HL0.out; show _ ≤ _; first | omega | (simp; omega)
    go_wp2_with (first | (at_builtin; go_loud (refine wpList_app2 w8 rfl (.tmp 155) (.tmp 159) rfl B _ (bs ++ [48] ++ [101] ++ [43]) (by rfl) HO.out 48 (UInt8.ofNat ((0 : Int).toNat + 48)) _ _ (by first | rfl | (rw [UInt8.toNat_ofNat']; omega)) (by first | rfl | (rw [UInt8.toNat_ofNat']; omega)) (by rfl) (by have := HL.out; omega) (Nat.le_trans HBz.out HK.out.below.size) ?_); intro v9 w9 h1 h2; refine Hid.out ?_))
    replace HK : Hid (Keep5 B w w9) := HK.out.trans h2
    replace HO : Hid (OwnB w9 B v9 (bs ++ [48] ++ [101] ++ [43] ++ [48, (UInt8.ofNat ((0 : Int).toNat + 48))])) := h1
    clear h1 h2 HL
    unfold Hid
    go_wp2_with fail
    go_ret
    refine ⟨_, rfl, ?_, HK.out⟩
    have e9 : bs ++ [48] ++ [101] ++ [43] ++ [48, (UInt8.ofNat ((0 : Int).toNat + 48))] = bs ++ fmtE false [] dp := by
      simp [fmtE, digE, expS, expB]
    rw [← e9]
    exact HO.out
  · have HO : Hid (OwnB w B vb bs) := ho
    have HK : Hid (Keep5 B w w) := Keep5.refl _ _
    have HL0 : Hid (bs.length ≤ 1000) := hl
    have HBz : Hid (B ≤ w.heap.size) := hB
    clear ho hB hl
    go_enter Tryz.func110, Tryz.ntmps110
    have HL : Hid ((bs).length ≤ 1100) := by have := HL0.out; show _ ≤ _; first | omega | (simp; omega)
    go_wp2_with (first | (at_builtin; go_loud (refine wpList_app1 w rfl (.tmp 79) (.tmp 80) rfl B _ (bs) (by rfl) HO.out 45 _ rfl (by rfl) (by have := HL.out; omega) (Nat.le_trans HBz.out HK.out.below.size) ?_); intro v1 w1 h1 h2; refine Hid.out ?_))
    replace HK : Hid (Keep5 B w w1) := HK.out.trans h2
    replace HO : Hid (OwnB w1 B v1 (bs ++ [45])) := h1
    clear h1 h2 HL
    unfold Hid
    have HL : Hid ((bs ++ [45]).length ≤ 1100) := by have := HL0.out; show _ ≤ _; first | omega | (simp; omega)
    go_wp2_with (first | (at_builtin; go_loud (refine wpList_app1 w1 rfl (.tmp 87) (.tmp 89) rfl B _ (bs ++ [45]) (by rfl) HO.out 48 _ rfl (by rfl) (by have := HL.out; omega) (Nat.le_trans HBz.out HK.out.below.size) ?_); intro v2 w2 h1 h2; refine Hid.out ?_))
    replace HK : Hid (Keep5 B w w2) := HK.out.trans h2
    replace HO : Hid (OwnB w2 B v2 (bs ++ [45] ++ [48])) := h1
    clear h1 h2 HL
    unfold Hid
    have HL : Hid ((bs ++ [45] ++ [48]).length ≤ 1100) := by have := HL0.out; show _ ≤ _; first | omega | (simp; omega)
    go_wp2_with (first | (at_builtin; go_loud (refine wpList_app1 w2 rfl (.tmp 120) (.tmp 122) rfl B _ (bs ++ [45] ++ [48]) (by rfl) HO.out 101 _ rfl (by rfl) (by have := HL.out; omega) (Nat.le_trans HBz.out HK.out.below.size) ?_); intro v3 w3 h1 h2; refine Hid.out ?_))
    replace HK : Hid (Keep5 B w w3) := HK.out.trans h2
    replace HO : Hid (OwnB w3 B v3 (bs ++ [45] ++ [48] ++ [101])) := h1
    clear h1 h2 HL
    unfold Hid
    have HL : Hid ((bs ++ [45] ++ [48] ++ [101]).length ≤ 1100) := by have := HL0.out; show _ ≤ _; first | omega | (simp; omega)
    go_wp2_with (first | (at_builtin; go_loud (refine wpList_app1 w3 rfl (.tmp 132) (.tmp 134) rfl B _ (bs ++ [45] ++ [48] ++ [101]) (by rfl) HO.out 43 _ rfl (by rfl) (by have := HL.out; omega) (Nat.le_trans HBz.out HK.out.below.size) ?_); intro v4 w4 h1 h2; refine Hid.out ?_))
    replace HK : Hid (Keep5 B w w4) := HK.out.trans h2
    replace HO : Hid (OwnB w4 B v4 (bs ++ [45] ++ [48] ++ [101] ++ [43])) := h1
    clear h1 h2 HL
    unfold Hid
    have HL : Hid ((bs ++ [45] ++ [48] ++ [101] ++ [43]).length ≤ 1100) := by have := HL0.out; show _ ≤ _; first | omega | (simp; omega)
    go_wp2_with (first | (at_builtin; go_loud (refine wpList_app2 w4 rfl (.tmp 155) (.tmp 159) rfl B _ (bs ++ [45] ++ [48] ++ [101] ++ [43]) (by rfl) HO.out 48 (UInt8.ofNat ((0 : Int).toNat + 48)) _ _ (by first | rfl | (rw [UInt8.toNat_ofNat']; omega)) (by first | rfl | (rw [UInt8.toNat_ofNat']; omega)) (by rfl) (by have := HL.out; omega) (Nat.le_trans HBz.out HK.out.below.size) ?_); intro v5 w5 h1 h2; refine Hid.out ?_))
    replace HK : Hid (Keep5 B w w5) := HK.out.trans h2
    replace HO : Hid (OwnB w5 B v5 (bs ++ [45] ++ [48] ++ [101] ++ [43] ++ [48, (UInt8.ofNat ((0 : Int).toNat + 48))])) := h1
    clear h1 h2 HL
    unfold Hid
    go_wp2_with fail
    go_ret
    refine ⟨_, rfl, ?_, HK.out⟩
    have e9 : bs ++ [45] ++ [48] ++ [101] ++ [43] ++ [48, (UInt8.ofNat ((0 : Int).toNat + 48))] = bs ++ fmtE true [] dp := by
      simp [fmtE, digE, expS, expB]
    rw [← e9]
    exact HO.out

end Go.Proofs.YthbjheiogghjnaaGreatDoor

namespace Go.Proofs.YthbjheiogghjnaaGreatDoor
open Go.RowKit
set_option maxRecDepth 100000

set_option maxHeartbeats 16000000 in
theorem fmtE_one (B g : Nat) (neg : Bool) (a : UInt8) (D T : List UInt8) (vb : Value) (bs : List UInt8) (dp prec : Int) (w : World) (hD : D = a :: T) (hp : prec = 0) (hd1 : -500 ≤ dp) (hd2 : dp ≤ 500) (ho : OwnB w B vb bs) (hB : B ≤ w.heap.size) (hl : bs.length ≤ 1000) (hG : DigM w g (a :: T)) (hT : T = []) :
    Calls Tryz.prog 110 #[vb, .bool neg, .slice (some ⟨g, 0, none⟩) 32 32, .int .i64 dp, .int .i64 (1), .int .i64 prec, .int .u8 101, .bool true] w fun e w' => ∃ v', e = .returned v' ∧ OwnB w' B v' (bs ++ fmtE neg D dp) ∧ Keep5 B w w' := by
  subst hD hp hT
  cases neg
  · have HO : Hid (OwnB w B vb bs) := ho
    have HK : Hid (Keep5 B w w) := Keep5.refl _ _
    have HL0 : Hid (bs.length ≤ 1000) := hl
    have HBz : Hid (B ≤ w.heap.size) := hB
    have HD : Hid (DigM w g [a]) := hG
    clear hG ho hB hl
    go_enter Tryz.func110, Tryz.ntmps110
    have c0 := HD.out.cell 0 (by simp)
    rw [List.getElem_cons_zero] at c0
    have HL : Hid ((bs).length ≤ 1100) := by have := HL0.out; show _ ≤ _; first | omega | (simp; omega)
    go_wp2_with (first | (at_builtin; go_loud (refine wpList_app1 w rfl (.tmp 87) (.tmp 89) rfl B _ (bs) (by rfl) HO.out a _ rfl (by rfl) (by have := HL.out; omega) (Nat.le_trans HBz.out HK.out.below.size) ?_); intro v13 w13 h1 h2; refine Hid.out ?_))
    replace HK : Hid (Keep5 B w w13) := HK.out.trans h2
    replace HO : Hid (OwnB w13 B v13 (bs ++ [a])) := h1
    replace HD : Hid (DigM w13 g [a]) := HD.out.keep h2
    clear h1 h2 HL
    unfold Hid
    clear c0
    by_cases hsg : dp - 1 < 0
    · have hxs : dp - 1 < 0 := hsg
      have q10 : (-(dp - 1)).tdiv 10 = (((-(dp - 1)).toNat / 10 : Nat) : Int) := by rw [Int.tdiv_eq_ediv_of_nonneg (by omega)]; omega
      have q100 : (-(dp - 1)).tdiv 100 = (((-(dp - 1)).toNat / 100 : Nat) : Int) := by rw [Int.tdiv_eq_ediv_of_nonneg (by omega)]; omega
      have r10 : (-(dp - 1)).tmod 10 = (((-(dp - 1)).toNat % 10 : Nat) : Int) := by rw [Int.tmod_eq_emod_of_nonneg (by omega)]; omega
      have HL : Hid ((bs ++ [a]).length ≤ 1100) := by have := HL0.out; show _ ≤ _; first | omega | (simp; omega)
      go_wp2_with (first | (at_builtin; go_loud (refine wpList_app1 w13 rfl (.tmp 120) (.tmp 122) rfl B _ (bs ++ [a]) (by rfl) HO.out 101 _ rfl (by rfl) (by have := HL.out; omega) (Nat.le_trans HBz.out HK.out.below.size) ?_); intro v14 w14 h1 h2; refine Hid.out ?_))
      replace HK : Hid (Keep5 B w w14) := HK.out.trans h2
      replace HO : Hid (OwnB w14 B v14 (bs ++ [a] ++ [101])) := h1
      clear h1 h2 HL
      unfold Hid
      have HL : Hid ((bs ++ [a] ++ [101]).length ≤ 1100) := by have := HL0.out; show _ ≤ _; first | omega | (simp; omega)
      go_wp2_with (first | (at_builtin; go_loud (refine wpList_app1 w14 rfl (.tmp 132) (.tmp 134) rfl B _ (bs ++ [a] ++ [101]) (by rfl) HO.out 45 _ rfl (by rfl) (by have := HL.out; omega) (Nat.le_trans HBz.out HK.out.below.size) ?_); intro v15 w15 h1 h2; refine Hid.out ?_))
      replace HK : Hid (Keep5 B w w15) := HK.out.trans h2
      replace HO : Hid (OwnB w15 B v15 (bs ++ [a] ++ [101] ++ [45])) := h1
      clear h1 h2 HL
      unfold Hid
      by_cases t10 : (-(dp - 1)) < 10
      · have hx1 : (-(dp - 1)).toNat < 10 := by omega
        have gx1 : (-(dp - 1)) < 10 := by omega
        have HL : Hid ((bs ++ [a] ++ [101] ++ [45]).length ≤ 1100) := by have := HL0.out; show _ ≤ _; first | omega | (simp; omega)
        go_wp2_with (first | (at_builtin; go_loud (refine wpList_app2 w15 rfl (.tmp 155) (.tmp 159) rfl B _ (bs ++ [a] ++ [101] ++ [45]) (by rfl) HO.out 48 (UInt8.ofNat ((-(dp - 1)).toNat + 48)) _ _ (by first | rfl | (rw [UInt8.toNat_ofNat']; omega)) (by first | rfl | (rw [UInt8.toNat_ofNat']; omega)) (by rfl) (by have := HL.out; omega) (Nat.le_trans HBz.out HK.out.below.size) ?_); intro v16 w16 h1 h2; refine Hid.out ?_))
        replace HK : Hid (Keep5 B w w16) := HK.out.trans h2
        replace HO : Hid (OwnB w16 B v16 (bs ++ [a] ++ [101] ++ [45] ++ [48, (UInt8.ofNat ((-(dp - 1)).toNat + 48))])) := h1
        clear h1 h2 HL
        unfold Hid
        go_wp2_with fail
        go_ret
        refine ⟨_, rfl, ?_, HK.out⟩
        have e9 : bs ++ [a] ++ [101] ++ [45] ++ [48, (UInt8.ofNat ((-(dp - 1)).toNat + 48))] = bs ++ fmtE false [a] dp := by
          have hE : expS (dp - 1) = 45 :: [48, (UInt8.ofNat ((-(dp - 1)).toNat + 48))] := by
            unfold expS
            rw [if_pos (show dp - 1 < 0 by omega)]
            unfold expB
            rw [if_pos (show (-(dp - 1)).toNat < 10 by omega)]
          have hI : (if [a] = [] then (0 : Int) else dp - 1) = dp - 1 := if_neg (by simp)
          unfold fmtE
          rw [hI, hE]
          simp [digE]
        rw [← e9]
        exact HO.out
      · by_cases t100 : (-(dp - 1)) < 100
        · have hx0 : ¬ (-(dp - 1)).toNat < 10 := by omega
          have hx1 : (-(dp - 1)).toNat < 100 := by omega
          have gx0 : ¬ (-(dp - 1)) < 10 := by omega
          have gx1 : (-(dp - 1)) < 100 := by omega
          have HL : Hid ((bs ++ [a] ++ [101] ++ [45]).length ≤ 1100) := by have := HL0.out; show _ ≤ _; first | omega | (simp; omega)
          go_wp2_with (first | (at_builtin; go_loud (refine wpList_app2 w15 rfl (.tmp 164) (.tmp 173) rfl B _ (bs ++ [a] ++ [101] ++ [45]) (by rfl) HO.out (UInt8.ofNat ((-(dp - 1)).toNat / 10 + 48)) (UInt8.ofNat ((-(dp - 1)).toNat % 10 + 48)) _ _ (by first | rfl | (rw [UInt8.toNat_ofNat']; omega)) (by first | rfl | (rw [UInt8.toNat_ofNat']; omega)) (by rfl) (by have := HL.out; omega) (Nat.le_trans HBz.out HK.out.below.size) ?_); intro v17 w17 h1 h2; refine Hid.out ?_))
          replace HK : Hid (Keep5 B w w17) := HK.out.trans h2
          replace HO : Hid (OwnB w17 B v17 (bs ++ [a] ++ [101] ++ [45] ++ [(UInt8.ofNat ((-(dp - 1)).toNat / 10 + 48)), (UInt8.ofNat ((-(dp - 1)).toNat % 10 + 48))])) := h1
          clear h1 h2 HL
          unfold Hid
          go_wp2_with fail
          go_ret
          refine ⟨_, rfl, ?_, HK.out⟩
          have e9 : bs ++ [a] ++ [101] ++ [45] ++ [(UInt8.ofNat ((-(dp - 1)).toNat / 10 + 48)), (UInt8.ofNat ((-(dp - 1)).toNat % 10 + 48))] = bs ++ fmtE false [a] dp := by
            have hE : expS (dp - 1) = 45 :: [(UInt8.ofNat ((-(dp - 1)).toNat / 10 + 48)), (UInt8.ofNat ((-(dp - 1)).toNat % 10 + 48))] := by
              unfold expS
              rw [if_pos (show dp - 1 < 0 by omega)]
              unfold expB
              rw [if_neg (show ¬ (-(dp - 1)).toNat < 10 by omega), if_pos (show (-(dp - 1)).toNat < 100 by omega)]
            have hI : (if [a] = [] then (0 : Int) else dp - 1) = dp - 1 := if_neg (by simp)
            unfold fmtE
            rw [hI, hE]
            simp [digE]
          rw [← e9]
          exact HO.out
        · have hx1 : ¬ (-(dp - 1)).toNat < 10 := by omega
          have hx2 : ¬ (-(dp - 1)).toNat < 100 := by omega
          have gx0 : ¬ (-(dp - 1)) < 10 := by omega
          have gx1 : ¬ (-(dp - 1)) < 100 := by omega
          have HL : Hid ((bs ++ [a] ++ [101] ++ [45]).length ≤ 1100) := by have := HL0.out; show _ ≤ _; first | omega | (simp; omega)
          go_wp2_with (first | (at_builtin; go_loud (refine wpList_app3 w15 rfl (.tmp 136) (.tmp 150) rfl B _ (bs ++ [a] ++ [101] ++ [45]) (by rfl) HO.out (UInt8.ofNat ((-(dp - 1)).toNat / 100 + 48)) (UInt8.ofNat ((-(dp - 1)).toNat / 10 % 10 + 48)) (UInt8.ofNat ((-(dp - 1)).toNat % 10 + 48)) _ _ _ (by first | rfl | (rw [UInt8.toNat_ofNat']; omega)) (by first | rfl | (rw [UInt8.toNat_ofNat']; omega)) (by first | rfl | (rw [UInt8.toNat_ofNat']; omega)) (by rfl) (by have := HL.out; omega) (Nat.le_trans HBz.out HK.out.below.size) ?_); intro v18 w18 h1 h2; refine Hid.out ?_))
          replace HK : Hid (Keep5 B w w18) := HK.out.trans h2
          replace HO : Hid (OwnB w18 B v18 (bs ++ [a] ++ [101] ++ [45] ++ [(UInt8.ofNat ((-(dp - 1)).toNat / 100 + 48)), (UInt8.ofNat ((-(dp - 1)).toNat / 10 % 10 + 48)), (UInt8.ofNat ((-(dp - 1)).toNat % 10 + 48))])) := h1
          clear h1 h2 HL
          unfold Hid
          go_wp2_with fail
          go_ret
          refine ⟨_, rfl, ?_, HK.out⟩
          have e9 : bs ++ [a] ++ [101] ++ [45] ++ [(UInt8.ofNat ((-(dp - 1)).toNat / 100 + 48)), (UInt8.ofNat ((-(dp - 1)).toNat / 10 % 10 + 48)), (UInt8.ofNat ((-(dp - 1)).toNat % 10 + 48))] = bs ++ fmtE false [a] dp := by
            have hE : expS (dp - 1) = 45 :: [(UInt8.ofNat ((-(dp - 1)).toNat / 100 + 48)), (UInt8.ofNat ((-(dp - 1)).toNat / 10 % 10 + 48)), (UInt8.ofNat ((-(dp - 1)).toNat % 10 + 48))] := by
              unfold expS
              rw [if_pos (show dp - 1 < 0 by omega)]
              unfold expB
              rw [if_neg (show ¬ (-(dp - 1)).toNat < 10 by omega), if_neg (show ¬ (-(dp - 1)).toNat < 100 by omega)]
            have hI : (if [a] = [] then (0 : Int) else dp - 1) = dp - 1 := if_neg (by simp)
            unfold fmtE
            rw [hI, hE]
            simp [digE]
          rw [← e9]
          exact HO.out
    · have hxs : ¬ dp - 1 < 0 := hsg
      have q10 : (dp - 1).tdiv 10 = (((dp - 1).toNat / 10 : Nat) : Int) := by rw [Int.tdiv_eq_ediv_of_nonneg (by omega)]; omega
      have q100 : (dp - 1).tdiv 100 = (((dp - 1).toNat / 100 : Nat) : Int) := by rw [Int.tdiv_eq_ediv_of_nonneg (by omega)]; omega
      have r10 : (dp - 1).tmod 10 = (((dp - 1).toNat % 10 : Nat) : Int) := by rw [Int.tmod_eq_emod_of_nonneg (by omega)]; omega
      have HL : Hid ((bs ++ [a]).length ≤ 1100) := by have := HL0.out; show _ ≤ _; first | omega | (simp; omega)
      go_wp2_with (first | (at_builtin; go_loud (refine wpList_app1 w13 rfl (.tmp 120) (.tmp 122) rfl B _ (bs ++ [a]) (by rfl) HO.out 101 _ rfl (by rfl) (by have := HL.out; omega) (Nat.le_trans HBz.out HK.out.below.size) ?_); intro v19 w19 h1 h2; refine Hid.out ?_))
      replace HK : Hid (Keep5 B w w19) := HK.out.trans h2
      replace HO : Hid (OwnB w19 B v19 (bs ++ [a] ++ [101])) := h1
      clear h1 h2 HL
      unfold Hid
      have HL : Hid ((bs ++ [a] ++ [101]).length ≤ 1100) := by have := HL0.out; show _ ≤ _; first | omega | (simp; omega)
      go_wp2_with (first | (at_builtin; go_loud (refine wpList_app1 w19 rfl (.tmp 132) (.tmp 134) rfl B _ (bs ++ [a] ++ [101]) (by rfl) HO.out 43 _ rfl (by rfl) (by have := HL.out; omega) (Nat.le_trans HBz.out HK.out.below.size) ?_); intro v20 w20 h1 h2; refine Hid.out ?_))
      replace HK : Hid (Keep5 B w w20) := HK.out.trans h2
      replace HO : Hid (OwnB w20 B v20 (bs ++ [a] ++ [101] ++ [43])) := h1
      clear h1 h2 HL
      unfold Hid
      by_cases t10 : (dp - 1) < 10
      · have hx1 : (dp - 1).toNat < 10 := by omega
        have gx1 : (dp - 1) < 10 := by omega
        have HL : Hid ((bs ++ [a] ++ [101] ++ [43]).length ≤ 1100) := by have := HL0.out; show _ ≤ _; first | omega | (simp; omega)
        go_wp2_with (first | (at_builtin; go_loud (refine wpList_app2 w20 rfl (.tmp 155) (.tmp 159) rfl B _ (bs ++ [a] ++ [101] ++ [43]) (by rfl) HO.out 48 (UInt8.ofNat ((dp - 1).toNat + 48)) _ _ (by first | rfl | (rw [UInt8.toNat_ofNat']; omega)) (by first | rfl | (rw [UInt8.toNat_ofNat']; omega)) (by rfl) (by have := HL.out; omega) (Nat.le_trans HBz.out HK.out.below.size) ?_); intro v21 w21 h1 h2; refine Hid.out ?_))
        replace HK : Hid (Keep5 B w w21) := HK.out.trans h2
        replace HO : Hid (OwnB w21 B v21 (bs ++ [a] ++ [101] ++ [43] ++ [48, (UInt8.ofNat ((dp - 1).toNat + 48))])) := h1
        clear h1 h2 HL
        unfold Hid
        go_wp2_with fail
        go_ret
        refine ⟨_, rfl, ?_, HK.out⟩
        have e9 : bs ++ [a] ++ [101] ++ [43] ++ [48, (UInt8.ofNat ((dp - 1).toNat + 48))] = bs ++ fmtE false [a] dp := by
          have hE : expS (dp - 1) = 43 :: [48, (UInt8.ofNat ((dp - 1).toNat + 48))] := by
            unfold expS
            rw [if_neg (show ¬ dp - 1 < 0 by omega)]
            unfold expB
            rw [if_pos (show (dp - 1).toNat < 10 by omega)]
          have hI : (if [a] = [] then (0 : Int) else dp - 1) = dp - 1 := if_neg (by simp)
          unfold fmtE
          rw [hI, hE]
          simp [digE]
        rw [← e9]
        exact HO.out
      · by_cases t100 : (dp - 1) < 100
        · have hx0 : ¬ (dp - 1).toNat < 10 := by omega
          have hx1 : (dp - 1).toNat < 100 := by omega
          have gx0 : ¬ (dp - 1) < 10 := by omega
          have gx1 : (dp - 1) < 100 := by omega
          have HL : Hid ((bs ++ [a] ++ [101] ++ [43]).length ≤ 1100) := by have := HL0.out; show _ ≤ _; first | omega | (simp; omega)
          go_wp2_with (first | (at_builtin; go_loud (refine wpList_app2 w20 rfl (.tmp 164) (.tmp 173) rfl B _ (bs ++ [a] ++ [101] ++ [43]) (by rfl) HO.out (UInt8.ofNat ((dp - 1).toNat / 10 + 48)) (UInt8.ofNat ((dp - 1).toNat % 10 + 48)) _ _ (by first | rfl | (rw [UInt8.toNat_ofNat']; omega)) (by first | rfl | (rw [UInt8.toNat_ofNat']; omega)) (by rfl) (by have := HL.out; omega) (Nat.le_trans HBz.out HK.out.below.size) ?_); intro v22 w22 h1 h2; refine Hid.out ?_))
          replace HK : Hid (Keep5 B w w22) := HK.out.trans h2
          replace HO : Hid (OwnB w22 B v22 (bs ++ [a] ++ [101] ++ [43] ++ [(UInt8.ofNat ((dp - 1).toNat / 10 + 48)), (UInt8.ofNat ((dp - 1).toNat % 10 + 48))])) := h1
          clear h1 h2 HL
          unfold Hid
          go_wp2_with fail
          go_ret
          refine ⟨_, rfl, ?_, HK.out⟩
          have e9 : bs ++ [a] ++ [101] ++ [43] ++ [(UInt8.ofNat ((dp - 1).toNat / 10 + 48)), (UInt8.ofNat ((dp - 1).toNat % 10 + 48))] = bs ++ fmtE false [a] dp := by
            have hE : expS (dp - 1) = 43 :: [(UInt8.ofNat ((dp - 1).toNat / 10 + 48)), (UInt8.ofNat ((dp - 1).toNat % 10 + 48))] := by
              unfold expS
              rw [if_neg (show ¬ dp - 1 < 0 by omega)]
              unfold expB
              rw [if_neg (show ¬ (dp - 1).toNat < 10 by omega), if_pos (show (dp - 1).toNat < 100 by omega)]
            have hI : (if [a] = [] then (0 : Int) else dp - 1) = dp - 1 := if_neg (by simp)
            unfold fmtE
            rw [hI, hE]
            simp [digE]
          rw [← e9]
          exact HO.out
        · have hx1 : ¬ (dp - 1).toNat < 10 := by omega
          have hx2 : ¬ (dp - 1).toNat < 100 := by omega
          have gx0 : ¬ (dp - 1) < 10 := by omega
          have gx1 : ¬ (dp - 1) < 100 := by omega
          have HL : Hid ((bs ++ [a] ++ [101] ++ [43]).length ≤ 1100) := by have := HL0.out; show _ ≤ _; first | omega | (simp; omega)
          go_wp2_with (first | (at_builtin; go_loud (refine wpList_app3 w20 rfl (.tmp 136) (.tmp 150) rfl B _ (bs ++ [a] ++ [101] ++ [43]) (by rfl) HO.out (UInt8.ofNat ((dp - 1).toNat / 100 + 48)) (UInt8.ofNat ((dp - 1).toNat / 10 % 10 + 48)) (UInt8.ofNat ((dp - 1).toNat % 10 + 48)) _ _ _ (by first | rfl | (rw [UInt8.toNat_ofNat']; omega)) (by first | rfl | (rw [UInt8.toNat_ofNat']; omega)) (by first | rfl | (rw [UInt8.toNat_ofNat']; omega)) (by rfl) (by have := HL.out; omega) (Nat.le_trans HBz.out HK.out.below.size) ?_); intro v23 w23 h1 h2; refine Hid.out ?_))
          replace HK : Hid (Keep5 B w w23) := HK.out.trans h2
          replace HO : Hid (OwnB w23 B v23 (bs ++ [a] ++ [101] ++ [43] ++ [(UInt8.ofNat ((dp - 1).toNat / 100 + 48)), (UInt8.ofNat ((dp - 1).toNat / 10 % 10 + 48)), (UInt8.ofNat ((dp - 1).toNat % 10 + 48))])) := h1
          clear h1 h2 HL
          unfold Hid
          go_wp2_with fail
          go_ret
          refine ⟨_, rfl, ?_, HK.out⟩
          have e9 : bs ++ [a] ++ [101] ++ [43] ++ [(UInt8.ofNat ((dp - 1).toNat / 100 + 48)), (UInt8.ofNat ((dp - 1).toNat / 10 % 10 + 48)), (UInt8.ofNat ((dp - 1).toNat % 10 + 48))] = bs ++ fmtE false [a] dp := by
            have hE : expS (dp - 1) = 43 :: [(UInt8.ofNat ((dp - 1).toNat / 100 + 48)), (UInt8.ofNat ((dp - 1).toNat / 10 % 10 + 48)), (UInt8.ofNat ((dp - 1).toNat % 10 + 48))] := by
              unfold expS
              rw [if_neg (show ¬ dp - 1 < 0 by omega)]
              unfold expB
              rw [if_neg (show ¬ (dp - 1).toNat < 10 by omega), if_neg (show ¬ (dp - 1).toNat < 100 by omega)]
            have hI : (if [a] = [] then (0 : Int) else dp - 1) = dp - 1 := if_neg (by simp)
            unfold fmtE
            rw [hI, hE]
            simp [digE]
          rw [← e9]
          exact HO.out
  · have HO : Hid (OwnB w B vb bs) := ho
    have HK : Hid (Keep5 B w w) := Keep5.refl _ _
    have HL0 : Hid (bs.length ≤ 1000) := hl
    have HBz : Hid (B ≤ w.heap.size) := hB
    have HD : Hid (DigM w g [a]) := hG
    clear hG ho hB hl
    go_enter Tryz.func110, Tryz.ntmps110
    have HL : Hid ((bs).length ≤ 1100) := by have := HL0.out; show _ ≤ _; first | omega | (simp; omega)
    go_wp2_with (first | (at_builtin; go_loud (refine wpList_app1 w rfl (.tmp 79) (.tmp 80) rfl B _ (bs) (by rfl) HO.out 45 _ rfl (by rfl) (by have := HL.out; omega) (Nat.le_trans HBz.out HK.out.below.size) ?_); intro v1 w1 h1 h2; refine Hid.out ?_))
    replace HK : Hid (Keep5 B w w1) := HK.out.trans h2
    replace HO : Hid (OwnB w1 B v1 (bs ++ [45])) := h1
    replace HD : Hid (DigM w1 g [a]) := HD.out.keep h2
    clear h1 h2 HL
    unfold Hid
    have c0 := HD.out.cell 0 (by simp)
    rw [List.getElem_cons_zero] at c0
    have HL : Hid ((bs ++ [45]).length ≤ 1100) := by have := HL0.out; show _ ≤ _; first | omega | (simp; omega)
    go_wp2_with (first | (at_builtin; go_loud (refine wpList_app1 w1 rfl (.tmp 87) (.tmp 89) rfl B _ (bs ++ [45]) (by rfl) HO.out a _ rfl (by rfl) (by have := HL.out; omega) (Nat.le_trans HBz.out HK.out.below.size) ?_); intro v2 w2 h1 h2; refine Hid.out ?_))
    replace HK : Hid (Keep5 B w w2) := HK.out.trans h2
    replace HO : Hid (OwnB w2 B v2 (bs ++ [45] ++ [a])) := h1
    replace HD : Hid (DigM w2 g [a]) := HD.out.keep h2
    clear h1 h2 HL
    unfold Hid
    clear c0
    by_cases hsg : dp - 1 < 0
    · have hxs : dp - 1 < 0 := hsg
      have q10 : (-(dp - 1)).tdiv 10 = (((-(dp - 1)).toNat / 10 : Nat) : Int) := by rw [Int.tdiv_eq_ediv_of_nonneg (by omega)]; omega
      have q100 : (-(dp - 1)).tdiv 100 = (((-(dp - 1)).toNat / 100 : Nat) : Int) := by rw [Int.tdiv_eq_ediv_of_nonneg (by omega)]; omega
      have r10 : (-(dp - 1)).tmod 10 = (((-(dp - 1)).toNat % 10 : Nat) : Int) := by rw [Int.tmod_eq_emod_of_nonneg (by omega)]; omega
      have HL : Hid ((bs ++ [45] ++ [a]).length ≤ 1100) := by have := HL0.out; show _ ≤ _; first | omega | (simp; omega)
      go_wp2_with (first | (at_builtin; go_loud (refine wpList_app1 w2 rfl (.tmp 120) (.tmp 122) rfl B _ (bs ++ [45] ++ [a]) (by rfl) HO.out 101 _ rfl (by rfl) (by have := HL.out; omega) (Nat.le_trans HBz.out HK.out.below.size) ?_); intro v3 w3 h1 h2; refine Hid.out ?_))
      replace HK : Hid (Keep5 B w w3) := HK.out.trans h2
      replace HO : Hid (OwnB w3 B v3 (bs ++ [45] ++ [a] ++ [101])) := h1
      clear h1 h2 HL
      unfold Hid
      have HL : Hid ((bs ++ [45] ++ [a] ++ [101]).length ≤ 1100) := by have := HL0.out; show _ ≤ _; first | omega | (simp; omega)
      go_wp2_with (first | (at_builtin; go_loud (refine wpList_app1 w3 rfl (.tmp 132) (.tmp 134) rfl B _ (bs ++ [45] ++ [a] ++ [101]) (by rfl) HO.out 45 _ rfl (by rfl) (by have := HL.out; omega) (Nat.le_trans HBz.out HK.out.below.size) ?_); intro v4 w4 h1 h2; refine Hid.out ?_))
      replace HK : Hid (Keep5 B w w4) := HK.out.trans h2
      replace HO : Hid (OwnB w4 B v4 (bs ++ [45] ++ [a] ++ [101] ++ [45])) := h1
      clear h1 h2 HL
      unfold Hid
      by_cases t10 : (-(dp - 1)) < 10
      · have hx1 : (-(dp - 1)).toNat < 10 := by omega
        have gx1 : (-(dp - 1)) < 10 := by omega
        have HL : Hid ((bs ++ [45] ++ [a] ++ [101] ++ [45]).length ≤ 1100) := by have := HL0.out; show _ ≤ _; first | omega | (simp; omega)
        go_wp2_with (first | (at_builtin; go_loud (refine wpList_app2 w4 rfl (.tmp 155) (.tmp 159) rfl B _ (bs ++ [45] ++ [a] ++ [101] ++ [45]) (by rfl) HO.out 48 (UInt8.ofNat ((-(dp - 1)).toNat + 48)) _ _ (by first | rfl | (rw [UInt8.toNat_ofNat']; omega)) (by first | rfl | (rw [UInt8.toNat_ofNat']; omega)) (by rfl) (by have := HL.out; omega) (Nat.le_trans HBz.out HK.out.below.size) ?_); intro v5 w5 h1 h2; refine Hid.out ?_))
        replace HK : Hid (Keep5 B w w5) := HK.out.trans h2
        replace HO : Hid (OwnB w5 B v5 (bs ++ [45] ++ [a] ++ [101] ++ [45] ++ [48, (UInt8.ofNat ((-(dp - 1)).toNat + 48))])) := h1
        clear h1 h2 HL
        unfold Hid
        go_wp2_with fail
        go_ret
        refine ⟨_, rfl, ?_, HK.out⟩
        have e9 : bs ++ [45] ++ [a] ++ [101] ++ [45] ++ [48, (UInt8.ofNat ((-(dp - 1)).toNat + 48))] = bs ++ fmtE true [a] dp := by
          have hE : expS (dp - 1) = 45 :: [48, (UInt8.ofNat ((-(dp - 1)).toNat + 48))] := by
            unfold expS
            rw [if_pos (show dp - 1 < 0 by omega)]
            unfold expB
            rw [if_pos (show (-(dp - 1)).toNat < 10 by omega)]
          have hI : (if [a] = [] then (0 : Int) else dp - 1) = dp - 1 := if_neg (by simp)
          unfold fmtE
          rw [hI, hE]
          simp [digE]
        rw [← e9]
        exact HO.out
      · by_cases t100 : (-(dp - 1)) < 100
        · have hx0 : ¬ (-(dp - 1)).toNat < 10 := by omega
          have hx1 : (-(dp - 1)).toNat < 100 := by omega
          have gx0 : ¬ (-(dp - 1)) < 10 := by omega
          have gx1 : (-(dp - 1)) < 100 := by omega
          have HL : Hid ((bs ++ [45] ++ [a] ++ [101] ++ [45]).length ≤ 1100) := by have := HL0.out; show _ ≤ _; first | omega | (simp; omega)
          go_wp2_with (first | (at_builtin; go_loud (refine wpList_app2 w4 rfl (.tmp 164) (.tmp 173) rfl B _ (bs ++ [45] ++ [a] ++ [101] ++ [45]) (by rfl) HO.out (UInt8.ofNat ((-(dp - 1)).toNat / 10 + 48)) (UInt8.ofNat ((-(dp - 1)).toNat % 10 + 48)) _ _ (by first | rfl | (rw [UInt8.toNat_ofNat']; omega)) (by first | rfl | (rw [UInt8.toNat_ofNat']; omega)) (by rfl) (by have := HL.out; omega) (Nat.le_trans HBz.out HK.out.below.size) ?_); intro v6 w6 h1 h2; refine Hid.out ?_))
          replace HK : Hid (Keep5 B w w6) := HK.out.trans h2
          replace HO : Hid (OwnB w6 B v6 (bs ++ [45] ++ [a] ++ [101] ++ [45] ++ [(UInt8.ofNat ((-(dp - 1)).toNat / 10 + 48)), (UInt8.ofNat ((-(dp - 1)).toNat % 10 + 48))])) := h1
          clear h1 h2 HL
          unfold Hid
          go_wp2_with fail
          go_ret
          refine ⟨_, rfl, ?_, HK.out⟩
          have e9 : bs ++ [45] ++ [a] ++ [101] ++ [45] ++ [(UInt8.ofNat ((-(dp - 1)).toNat / 10 + 48)), (UInt8.ofNat ((-(dp - 1)).toNat % 10 + 48))] = bs ++ fmtE true [a] dp := by
            have hE : expS (dp - 1) = 45 :: [(UInt8.ofNat ((-(dp - 1)).toNat / 10 + 48)), (UInt8.ofNat ((-(dp - 1)).toNat % 10 + 48))] := by
              unfold expS
              rw [if_pos (show dp - 1 < 0 by omega)]
              unfold expB
              rw [if_neg (show ¬ (-(dp - 1)).toNat < 10 by omega), if_pos (show (-(dp - 1)).toNat < 100 by omega)]
            have hI : (if [a] = [] then (0 : Int) else dp - 1) = dp - 1 := if_neg (by simp)
            unfold fmtE
            rw [hI, hE]
            simp [digE]
          rw [← e9]
          exact HO.out
        · have hx1 : ¬ (-(dp - 1)).toNat < 10 := by omega
          have hx2 : ¬ (-(dp - 1)).toNat < 100 := by omega
          have gx0 : ¬ (-(dp - 1)) < 10 := by omega
          have gx1 : ¬ (-(dp - 1)) < 100 := by omega
          have HL : Hid ((bs ++ [45] ++ [a] ++ [101] ++ [45]).length ≤ 1100) := by have := HL0.out; show _ ≤ _; first | omega | (simp; omega)
          go_wp2_with (first | (at_builtin; go_loud (refine wpList_app3 w4 rfl (.tmp 136) (.tmp 150) rfl B _ (bs ++ [45] ++ [a] ++ [101] ++ [45]) (by rfl) HO.out (UInt8.ofNat ((-(dp - 1)).toNat / 100 + 48)) (UInt8.ofNat ((-(dp - 1)).toNat / 10 % 10 + 48)) (UInt8.ofNat ((-(dp - 1)).toNat % 10 + 48)) _ _ _ (by first | rfl | (rw [UInt8.toNat_ofNat']; omega)) (by first | rfl | (rw [UInt8.toNat_ofNat']; omega)) (by first | rfl | (rw [UInt8.toNat_ofNat']; omega)) (by rfl) (by have := HL.out; omega) (Nat.le_trans HBz.out HK.out.below.size) ?_); intro v7 w7 h1 h2; refine Hid.out ?_))
          replace HK : Hid (Keep5 B w w7) := HK.out.trans h2
          replace HO : Hid (OwnB w7 B v7 (bs ++ [45] ++ [a] ++ [101] ++ [45] ++ [(UInt8.ofNat ((-(dp - 1)).toNat / 100 + 48)), (UInt8.ofNat ((-(dp - 1)).toNat / 10 % 10 + 48)), (UInt8.ofNat ((-(dp - 1)).toNat % 10 + 48))])) := h1
          clear h1 h2 HL
          unfold Hid
          go_wp2_with fail
          go_ret
          refine ⟨_, rfl, ?_, HK.out⟩
          have e9 : bs ++ [45] ++ [a] ++ [101] ++ [45] ++ [(UInt8.ofNat ((-(dp - 1)).toNat / 100 + 48)), (UInt8.ofNat ((-(dp - 1)).toNat / 10 % 10 + 48)), (UInt8.ofNat ((-(dp - 1)).toNat % 10 + 48))] = bs ++ fmtE true [a] dp := by
            have hE : expS (dp - 1) = 45 :: [(UInt8.ofNat ((-(dp - 1)).toNat / 100 + 48)), (UInt8.ofNat ((-(dp - 1)).toNat / 10 % 10 + 48)), (UInt8.ofNat ((-(dp - 1)).toNat % 10 + 48))] := by
              unfold expS
              rw [if_pos (show dp - 1 < 0 by omega)]
              unfold expB
              rw [if_neg (show ¬ (-(dp - 1)).toNat < 10 by omega), if_neg (show ¬ (-(dp - 1)).toNat < 100 by omega)]
            have hI : (if [a] = [] then (0 : Int) else dp - 1) = dp - 1 := if_neg (by simp)
            unfold fmtE
            rw [hI, hE]
            simp [digE]
          rw [← e9]
          exact HO.out
    · have hxs : ¬ dp - 1 < 0 := hsg
      have q10 : (dp - 1).tdiv 10 = (((dp - 1).toNat / 10 : Nat) : Int) := by rw [Int.tdiv_eq_ediv_of_nonneg (by omega)]; omega
      have q100 : (dp - 1).tdiv 100 = (((dp - 1).toNat / 100 : Nat) : Int) := by rw [Int.tdiv_eq_ediv_of_nonneg (by omega)]; omega
      have r10 : (dp - 1).tmod 10 = (((dp - 1).toNat % 10 : Nat) : Int) := by rw [Int.tmod_eq_emod_of_nonneg (by omega)]; omega
      have HL : Hid ((bs ++ [45] ++ [a]).length ≤ 1100) := by have := HL0.out; show _ ≤ _; first | omega | (simp; omega)
      go_wp2_with (first | (at_builtin; go_loud (refine wpList_app1 w2 rfl (.tmp 120) (.tmp 122) rfl B _ (bs ++ [45] ++ [a]) (by rfl) HO.out 101 _ rfl (by rfl) (by have := HL.out; omega) (Nat.le_trans HBz.out HK.out.below.size) ?_); intro v8 w8 h1 h2; refine Hid.out ?_))
      replace HK : Hid (Keep5 B w w8) := HK.out.trans h2
      replace HO : Hid (OwnB w8 B v8 (bs ++ [45] ++ [a] ++ [101])) := h1
      clear h1 h2 HL
      unfold Hid
      have HL : Hid ((bs ++ [45] ++ [a] ++ [101]).length ≤ 1100) := by have := HL0.out; show _ ≤ _; first | omega | (simp; omega)
      go_wp2_with (first | (at_builtin; go_loud (refine wpList_app1 w8 rfl (.tmp 132) (.tmp 134) rfl B _ (bs ++ [45] ++ [a] ++ [101]) (by rfl) HO.out 43 _ rfl (by rfl) (by have := HL.out; omega) (Nat.le_trans HBz.out HK.out.below.size) ?_); intro v9 w9 h1 h2; refine Hid.out ?_))
      replace HK : Hid (Keep5 B w w9) := HK.out.trans h2
      replace HO : Hid (OwnB w9 B v9 (bs ++ [45] ++ [a] ++ [101] ++ [43])) := h1
      clear h1 h2 HL
      unfold Hid
      by_cases t10 : (dp - 1) < 10
      · have hx1 : (dp - 1).toNat < 10 := by omega
        have gx1 : (dp - 1) < 10 := by omega
        have HL : Hid ((bs ++ [45] ++ [a] ++ [101] ++ [43]).length ≤ 1100) := by have := HL0.out; show _ ≤ _; first | omega | (simp; omega)
        go_wp2_with (first | (at_builtin; go_loud (refine wpList_app2 w9 rfl (.tmp 155) (.tmp 159) rfl B _ (bs ++ [45] ++ [a] ++ [101] ++ [43]) (by rfl) HO.out 48 (UInt8.ofNat ((dp - 1).toNat + 48)) _ _ (by first | rfl | (rw [UInt8.toNat_ofNat']; omega)) (by first | rfl | (rw [UInt8.toNat_ofNat']; omega)) (by rfl) (by have := HL.out; omega) (Nat.le_trans HBz.out HK.out.below.size) ?_); intro v10 w10 h1 h2; refine Hid.out ?_))
        replace HK : Hid (Keep5 B w w10) := HK.out.trans h2
        replace HO : Hid (OwnB w10 B v10 (bs ++ [45] ++ [a] ++ [101] ++ [43] ++ [48, (UInt8.ofNat ((dp - 1).toNat + 48))])) := h1
        clear h1 h2 HL
        unfold Hid
        go_wp2_with fail
        go_ret
        refine ⟨_, rfl, ?_, HK.out⟩
        have e9 : bs ++ [45] ++ [a] ++ [101] ++ [43] ++ [48, (UInt8.ofNat ((dp - 1).toNat + 48))] = bs ++ fmtE true [a] dp := by
          have hE : expS (dp - 1) = 43 :: [48, (UInt8.ofNat ((dp - 1).toNat + 48))] := by
            unfold expS
            rw [if_neg (show ¬ dp - 1 < 0 by omega)]
            unfold expB
            rw [if_pos (show (dp - 1).toNat < 10 by omega)]
          have hI : (if [a] = [] then (0 : Int) else dp - 1) = dp - 1 := if_neg (by simp)
          unfold fmtE
          rw [hI, hE]
          simp [digE]
        rw [← e9]
        exact HO.out
      · by_cases t100 : (dp - 1) < 100
        · have hx0 : ¬ (dp - 1).toNat < 10 := by omega
          have hx1 : (dp - 1).toNat < 100 := by omega
          have gx0 : ¬ (dp - 1) < 10 := by omega
          have gx1 : (dp - 1) < 100 := by omega
          have HL : Hid ((bs ++ [45] ++ [a] ++ [101] ++ [43]).length ≤ 1100) := by have := HL0.out; show _ ≤ _; first | omega | (simp; omega)
          go_wp2_with (first | (at_builtin; go_loud (refine wpList_app2 w9 rfl (.tmp 164) (.tmp 173) rfl B _ (bs ++ [45] ++ [a] ++ [101] ++ [43]) (by rfl) HO.out (UInt8.ofNat ((dp - 1).toNat / 10 + 48)) (UInt8.ofNat ((dp - 1).toNat % 10 + 48)) _ _ (by first | rfl | (rw [UInt8.toNat_ofNat']; omega)) (by first | rfl | (rw [UInt8.toNat_ofNat']; omega)) (by rfl) (by have := HL.out; omega) (Nat.le_trans HBz.out HK.out.below.size) ?_); intro v11 w11 h1 h2; refine Hid.out ?_))
          replace HK : Hid (Keep5 B w w11) := HK.out.trans h2
          replace HO : Hid (OwnB w11 B v11 (bs ++ [45] ++ [a] ++ [101] ++ [43] ++ [(UInt8.ofNat ((dp - 1).toNat / 10 + 48)), (UInt8.ofNat ((dp - 1).toNat % 10 + 48))])) := h1
          clear h1 h2 HL
          unfold Hid
          go_wp2_with fail
          go_ret
          refine ⟨_, rfl, ?_, HK.out⟩
          have e9 : bs ++ [45] ++ [a] ++ [101] ++ [43] ++ [(UInt8.ofNat ((dp - 1).toNat / 10 + 48)), (UInt8.ofNat ((dp - 1).toNat % 10 + 48))] = bs ++ fmtE true [a] dp := by
            have hE : expS (dp - 1) = 43 :: [(UInt8.ofNat ((dp - 1).toNat / 10 + 48)), (UInt8.ofNat ((dp - 1).toNat % 10 + 48))] := by
              unfold expS
              rw [if_neg (show ¬ dp - 1 < 0 by omega)]
              unfold expB
              rw [if_neg (show ¬ (dp - 1).toNat < 10 by omega), if_pos (show (dp - 1).toNat < 100 by omega)]
            have hI : (if [a] = [] then (0 : Int) else dp - 1) = dp - 1 := if_neg (by simp)
            unfold fmtE
            rw [hI, hE]
            simp [digE]
          rw [← e9]
          exact HO.out
        · have hx1 : ¬ (dp - 1).toNat < 10 := by omega
          have hx2 : ¬ (dp - 1).toNat < 100 := by omega
          have gx0 : ¬ (dp - 1) < 10 := by omega
          have gx1 : ¬ (dp - 1) < 100 := by omega
          have HL : Hid ((bs ++ [45] ++ [a] ++ [101] ++ [43]).length ≤ 1100) := by have := HL0.out; show _ ≤ _; first | omega | (simp; omega)
          go_wp2_with (first | (at_builtin; go_loud (refine wpList_app3 w9 rfl (.tmp 136) (.tmp 150) rfl B _ (bs ++ [45] ++ [a] ++ [101] ++ [43]) (by rfl) HO.out (UInt8.ofNat ((dp - 1).toNat / 100 + 48)) (UInt8.ofNat ((dp - 1).toNat / 10 % 10 + 48)) (UInt8.ofNat ((dp - 1).toNat % 10 + 48)) _ _ _ (by first | rfl | (rw [UInt8.toNat_ofNat']; omega)) (by first | rfl | (rw [UInt8.toNat_ofNat']; omega)) (by first | rfl | (rw [UInt8.toNat_ofNat']; omega)) (by rfl) (by have := HL.out; omega) (Nat.le_trans HBz.out HK.out.below.size) ?_); intro v12 w12 h1 h2; refine Hid.out ?_))
          replace HK : Hid (Keep5 B w w12) := HK.out.trans h2
          replace HO : Hid (OwnB w12 B v12 (bs ++ [45] ++ [a] ++ [101] ++ [43] ++ [(UInt8.ofNat ((dp - 1).toNat / 100 + 48)), (UInt8.ofNat ((dp - 1).toNat / 10 % 10 + 48)), (UInt8.ofNat ((dp - 1).toNat % 10 + 48))])) := h1
          clear h1 h2 HL
          unfold Hid
          go_wp2_with fail
          go_ret
          refine ⟨_, rfl, ?_, HK.out⟩
          have e9 : bs ++ [45] ++ [a] ++ [101] ++ [43] ++ [(UInt8.ofNat ((dp - 1).toNat / 100 + 48)), (UInt8.ofNat ((dp - 1).toNat / 10 % 10 + 48)), (UInt8.ofNat ((dp - 1).toNat % 10 + 48))] = bs ++ fmtE true [a] dp := by
            have hE : expS (dp - 1) = 43 :: [(UInt8.ofNat ((dp - 1).toNat / 100 + 48)), (UInt8.ofNat ((dp - 1).toNat / 10 % 10 + 48)), (UInt8.ofNat ((dp - 1).toNat % 10 + 48))] := by
              unfold expS
              rw [if_neg (show ¬ dp - 1 < 0 by omega)]
              unfold expB
              rw [if_neg (show ¬ (dp - 1).toNat < 10 by omega), if_neg (show ¬ (dp - 1).toNat < 100 by omega)]
            have hI : (if [a] = [] then (0 : Int) else dp - 1) = dp - 1 := if_neg (by simp)
            unfold fmtE
            rw [hI, hE]
            simp [digE]
          rw [← e9]
          exact HO.out

end Go.Proofs.YthbjheiogghjnaaGreatDoor
