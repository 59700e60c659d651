/- Which slots are taken: least. -/
import Derived.Laws.Bits64b
import Derived.Laws.Bits64
import Derived.Test.YtcibcfghkidncaaGreatDoorGWSh11
import Derived.Test.YtcibcfghkidncaaGreatDoorGMBit
import Derived.Test.YtcibcfghkidncaaGreatDoorGMPtr
import Derived.Test.YtcibcfghkidncaaGreatDoorGWVl
namespace Go.Proofs.YtcibcfghkidncaaGreatDoor
open Go.RowKit Go.Lib
set_option maxRecDepth 100000

abbrev Tab (w:World):Prop := TabAt 1 Lib.deBruijn64tab w
theorem tz_any (x:Nat) (hx:x < 18446744073709551616) (w:World) (hT:Tab w):Calls Tryz.prog 103 #[.int .u64 (x:Nat)] w fun e w' => e = .returned (.int .i64 (ctz 64 x:Nat)) ∧ w' = w :=
 Any7.bits_TrailingZeros64 Tryz.lays729 x hx w (fun _ => hT)
theorem Tab.keep {w w':World} {B:Nat} (h:Tab w) (hb:Below B w w') (hB : 1 < B):Tab w' := fun j hj => (hb.cell (p := ⟨_,j,none⟩) hB).trans (h j hj)
def tcells (T:List Nat):List Value := T.map fun x => .int .u64 (x:Nat)
def OwnT (w:World) (B:Nat) (v:Value) (T:List Nat):Prop := w.ownsRow B 39 1 v T.length (tcells T)
theorem OwnT.at {w:World} {B:Nat} {p:Option Addr} {n c:Nat} {T:List Nat} (h:OwnT w B (.slice p n c) T) {i:Nat} (hi:i < T.length):∃ g,p = some ⟨g,0,none⟩ ∧ B ≤ g ∧ g < w.heap.size ∧ n = T.length ∧ w.cell? ⟨g,i,none⟩ = some (.int .u64 (T[i]:Nat)) ∧ w.frozen? ⟨g,i,none⟩ = false := by
 obtain ⟨g,cap,e,hg1,hg2⟩ := owns_form h (by omega)
 injection e with e1 e2 e3
 subst e1 e2 e3
 refine ⟨g,rfl,hg1,hg2,rfl,?_,World.ownsRow.frozenAt h i⟩
 rw [World.ownsRow.cellAt h i (by omega)]
 simp [tcells,hi]
theorem not_u64 {x:Nat} (hx:x < 18446744073709551616):bits .xor .u64 18446744073709551615 (x:Int) = ((18446744073709551615 - x:Nat):Int) := by
 have h := bits_xor_u64_nat 18446744073709551615 x (by decide) hx
 rw [show ((18446744073709551615:Nat):Int) = 18446744073709551615 from rfl] at h
 rw [h]
 congr 1
 apply Nat.eq_of_testBit_eq
 intro j
 rw [Nat.testBit_xor]
 by_cases hj:j < 64
 ·rw [not_bit hx hj,show (18446744073709551615:Nat) = 2 ^ 64 - 1 by decide,Nat.testBit_two_pow_sub_one,decide_eq_true hj]
  simp
 ·have h1:x.testBit j = false := Nat.testBit_lt_two_pow (Nat.lt_of_lt_of_le hx (by have := Nat.pow_le_pow_right (n := 2) (by decide) (show 64 ≤ j by omega); simpa using this))
  have h2:(18446744073709551615 - x).testBit j = false := Nat.testBit_lt_two_pow (Nat.lt_of_lt_of_le (show 18446744073709551615 - x < 18446744073709551616 by omega) (by have := Nat.pow_le_pow_right (n := 2) (by decide) (show 64 ≤ j by omega); simpa using this))
  rw [h1,h2,show (18446744073709551615:Nat) = 2 ^ 64 - 1 by decide,Nat.testBit_two_pow_sub_one,decide_eq_false hj]
  rfl

set_option maxHeartbeats 2000000 in
theorem least_any (T:List Nat) (v:Value) (B:Nat) (w:World) (h:OwnT w B v T) (hT:Tab w) (hx:∀ x ∈ T,x < 18446744073709551616) (hl:T.length ≤ 1024) :
  Calls Tryz.prog 95 #[v] w fun e w' => (∃ s:Nat,e = .returned (.int .i64 (s:Nat)) ∧ bitT T s = false ∧ ∀ j,j < s → bitT T j = true) ∧ w' = w := by
 obtain ⟨p,c,rfl,_⟩ := owns_len h
 have HT:Hid (Tab w) := hT
 have HO:Hid (OwnT w B (.slice p T.length c) T) := h
 have HX:Hid (∀ x ∈ T,x < 18446744073709551616) := hx
 clear h hT hx
 go_enter Tryz.func95,Tryz.ntmps95
 go_wp2_with fail
 go_loopw [7] (fun i wr => wr = w ∧ ∃ j:Nat,j ≤ T.length ∧ i = .int .i64 (j:Int) ∧ Hid (∀ i (hi:i < T.length),i < j → T[i] = 18446744073709551615)) (fun i _ => T.length - (intOf i).toNat)
 case atStart => exact ⟨rfl,0,Nat.zero_le _,by go_num,fun i hi h0 => absurd h0 (by omega)⟩
 case round =>
  obtain ⟨hww,j,hj,rfl,hF⟩ := hrel
  rw [hww]
  clear hww
  have HF2:Hid (∀ k,k < j * 64 → bitT T k = true) := fun k hk => by
   have h1:k / 64 < T.length := by omega
   have h2 := bitT_at h1 (show k % 64 < 64 by omega)
   rw [show k / 64 * 64 + k % 64 = k by omega] at h2
   rw [h2,hF.out _ h1 (by omega),show (18446744073709551615:Nat) = 2 ^ 64 - 1 by decide,Nat.testBit_two_pow_sub_one]
   simp
   omega
  by_cases hj0:j = T.length
  ·subst hj0
   go_wp2
   go_ret
   exact ⟨⟨T.length * 64,by rw [Int.natCast_mul]; rfl,bitT_out (Nat.le_refl _),HF2.out⟩,rfl⟩
  ·have hj1:j < T.length := by omega
   obtain ⟨g,rfl,_,_,_,a0,_⟩ := HO.out.at hj1
   have hxj:T[j] < 18446744073709551616 := HX.out _ (List.getElem_mem hj1)
   by_cases hm:T[j] = 18446744073709551615
   ·rw [hm] at a0
    have HN:Hid (∀ i (hi:i < T.length),i < j + 1 → T[i] = 18446744073709551615) := fun i hi h0 => by
     rcases Nat.lt_succ_iff_lt_or_eq.1 h0 with h1 | rfl
     ·exact hF.out i hi h1
     ·exact hm
    clear hF HF2 hm hj0
    go_wp2
    go_roundw
    case rel => exact ⟨trivial,j + 1,hj1,by go_num,HN⟩
    case measure => simp [intOf]; omega
   ·have HB:Hid (∀ b,b < 64 → bitT T (j * 64 + b) = T[j].testBit b) := fun b hb => bitT_at hj1 hb
    generalize T[j] = x at *
    have hx1:((x:Int) == 18446744073709551615) = false := beq_eq_false_iff_ne.2 (by omega)
    have hnx:bits .xor .u64 IntKind.u64.max (x:Int) = ((18446744073709551615 - x:Nat):Int) := by
     rw [show IntKind.u64.max = 18446744073709551615 by decide]
     exact not_u64 hxj
    have hy0:18446744073709551615 - x ≠ 0 := by omega
    have hy1:18446744073709551615 - x < 18446744073709551616 := by omega
    obtain ⟨q1,q2,q3⟩ := ctz_lt hy0 hy1
    have HQ:Hid (bitT T (j * 64 + ctz 64 (18446744073709551615 - x)) = false ∧ ∀ k,k < j * 64 + ctz 64 (18446744073709551615 - x) → bitT T k = true) := by
     refine ⟨?_,fun k hk => ?_⟩
     ·rw [HB.out _ q1]
      rw [not_bit hxj q1] at q2
      simpa using q2
     ·by_cases h1:k < j * 64
      ·exact HF2.out k h1
      ·obtain ⟨b,rfl⟩:∃ b,k = j * 64 + b := ⟨k - j * 64,by omega⟩
       rw [HB.out b (by omega)]
       have := q3 b (by omega)
       rw [not_bit hxj (by omega)] at this
       simpa using this
    have C1:Hid (Calls _ _ _ _ _) := tz_any (18446744073709551615 - x) hy1 w HT.out
    clear q2 q3 hF HF2 HB hj0
    generalize ctz 64 (18446744073709551615 - x) = k at *
    have hq:(k:Int) < 64 := by omega
    go_wp2_with fail
    refine C1.out.mono ?_
    rintro e w2 ⟨rfl,hw⟩
    rw [hw]
    clear hw
    go_wp2_with fail
    go_ret
    exact ⟨⟨j * 64 + k,by congr 2,HQ.out.1,HQ.out.2⟩,rfl⟩

end Go.Proofs.YtcibcfghkidncaaGreatDoor
