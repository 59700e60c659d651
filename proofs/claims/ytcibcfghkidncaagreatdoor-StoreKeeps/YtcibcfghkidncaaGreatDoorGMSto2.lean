/- A store's rows, all of them: plain mathematics. -/
import Derived.Test.YtcibcfghkidncaaGreatDoorGWRFd8
import Derived.Test.YtcibcfghkidncaaGreatDoorGMBit
namespace Go.Proofs.YtcibcfghkidncaaGreatDoor

def thrAt (M:List Rs) (j:Nat):Bool := match M[j]? with | some r => thr r | none => false
structure InvT (J most:Nat) (M:List Rs) (T:List Nat):Prop where
 ok:∀ r ∈ M,OkR J r
 len:M.length ≤ most
 mst:most ≤ 65536
 bit:∀ j,bitT T j = thrAt M j
 tl:T.length = (M.length + 63) / 64
 tw:∀ x ∈ T,x < 18446744073709551616
theorem InvT.idx {J most:Nat} {M:List Rs} {T:List Nat} (h:InvT J most M T) {i:Nat} (hi:i < M.length):i / 64 < T.length := by
 rw [h.tl]
 omega
theorem InvT.tlen {J most:Nat} {M:List Rs} {T:List Nat} (h:InvT J most M T):T.length ≤ 1024 := by
 have h1 := h.len
 have h2 := h.mst
 rw [h.tl]
 omega
theorem InvT.mono {J J' most:Nat} {M:List Rs} {T:List Nat} (h:InvT J most M T) (hj:J ≤ J'):InvT J' most M T := ⟨fun r hr => (h.ok r hr).mono hj,h.len,h.mst,h.bit,h.tl,h.tw⟩
theorem thrAt_set {M:List Rs} {i:Nat} (hi:i < M.length) (r:Rs) (j:Nat):thrAt (M.set i r) j = if j = i then thr r else thrAt M j := by
 unfold thrAt
 by_cases e:j = i
 ·subst e
  rw [if_pos rfl,List.getElem?_set_self hi]
 ·rw [if_neg e,List.getElem?_set_ne (fun h => e h.symm)]
theorem offT_tw {T:List Nat} {s:Nat} (h:∀ x ∈ T,x < 18446744073709551616):∀ x ∈ offT T s,x < 18446744073709551616 := by
 intro x hx
 unfold offT at hx
 rcases List.mem_or_eq_of_mem_set hx with h1 | rfl
 ·exact h x h1
 ·refine Nat.lt_of_le_of_lt Nat.and_le_left ?_
  rw [List.getD_eq_getElem?_getD]
  cases e:T[s / 64]? with
  | none => simp
  | some y => exact h y (List.mem_of_getElem? e)
theorem onT_tw {T:List Nat} {s:Nat} (h:∀ x ∈ T,x < 18446744073709551616):∀ x ∈ onT T s,x < 18446744073709551616 := by
 intro x hx
 unfold onT at hx
 rcases List.mem_or_eq_of_mem_set hx with h1 | rfl
 ·exact h x h1
 ·have h2:(2:Nat) ^ (s % 64) < 2 ^ 64 := Nat.pow_lt_pow_right (by decide) (by omega)
  have h1:T.getD (s / 64) 0 < 2 ^ 64 := by
   rw [List.getD_eq_getElem?_getD]
   cases e:T[s / 64]? with
   | none => simp
   | some y =>
    have := h y (List.mem_of_getElem? e)
    simpa using this
  have := Nat.or_lt_two_pow h1 h2
  simpa using this
def tkT (T:List Nat) (i:Nat) (r:Rs):List Nat := if thr r then T else offT T i
theorem InvT.turn {J J' most:Nat} {M:List Rs} {T:List Nat} {i:Nat} {r:Rs} (h:InvT J most M T) (hi:i < M.length) (ht:thr M[i] = true) (hj:J ≤ J') (hr:OkR J' r):InvT J' most (M.set i r) (tkT T i r) := by
 refine ⟨fun x hx => ?_,by simpa using h.len,h.mst,fun j => ?_,?_,?_⟩
 ·rcases List.mem_or_eq_of_mem_set hx with h1 | rfl
  ·exact (h.ok x h1).mono hj
  ·exact hr
 ·rw [thrAt_set hi]
  unfold tkT
  cases e:thr r with
  | true =>
   simp only [if_true,h.bit j]
   by_cases e2:j = i
   ·subst e2
    rw [if_pos rfl]
    unfold thrAt
    rw [List.getElem?_eq_getElem hi]
    exact ht
   ·rw [if_neg e2]
  | false =>
   simp only [Bool.false_eq_true,if_false]
   rw [offT_bit (h.idx hi),h.bit j]
   by_cases e2:j = i
   ·simp [e2]
   ·simp [e2]
 ·rw [List.length_set,← h.tl]
  unfold tkT
  split
  ·rfl
  ·simp [offT]
 ·unfold tkT
  split
  ·exact h.tw
  ·exact offT_tw h.tw
def modL (f:Rs → Rs) (L:List Nat) (M:List Rs):List Rs := L.foldl (fun M s => M.modify s f) M
theorem modL_app (f:Rs → Rs) (L:List Nat) (s:Nat) (M:List Rs):modL f (L ++ [s]) M = (modL f L M).modify s f := by
 unfold modL
 rw [List.foldl_append]
 rfl
theorem modL_not (f:Rs → Rs):∀ (L:List Nat) (M:List Rs) (i:Nat),i ∉ L → (modL f L M)[i]? = M[i]?
 | [],_,_,_ => rfl
 | s :: L,M,i,h => by
  show (modL f L (M.modify s f))[i]? = _
  rw [modL_not f L _ i (fun h1 => h (List.mem_cons_of_mem _ h1)),List.getElem?_modify]
  have:s ≠ i := fun e => h (by rw [e]; exact List.mem_cons_self)
  simp [this]
theorem modL_mem (f:Rs → Rs):∀ (L:List Nat) (M:List Rs) (i:Nat),L.Nodup → i ∈ L → (modL f L M)[i]? = M[i]?.map f
 | [],_,_,_,h => absurd h (by simp)
 | s :: L,M,i,hn,h => by
  rw [List.nodup_cons] at hn
  show (modL f L (M.modify s f))[i]? = _
  rcases List.mem_cons.1 h with rfl | h
  ·rw [modL_not f L _ i hn.1,List.getElem?_modify]
   simp
  ·rw [modL_mem f L _ i hn.2 h,List.getElem?_modify]
   have:s ≠ i := fun e => hn.1 (by rw [e]; exact h)
   simp [this]
theorem modify_set {M:List Rs} {i:Nat} (hi:i < M.length) (f:Rs → Rs):M.modify i f = M.set i (f M[i]) := by
 apply List.ext_getElem?
 intro j
 rw [List.getElem?_modify]
 by_cases e:i = j
 ·subst e
  rw [List.getElem?_set_self hi,List.getElem?_eq_getElem hi]
  simp
 ·rw [List.getElem?_set_ne e]
  simp [e]
theorem modL_map {f:Rs → Rs} {L:List Nat} {M:List Rs} {t:Int} (hn:L.Nodup) (hm:∀ s,s ∈ L ↔ t ≠ 0 ∧ ∃ r,M[s]? = some r ∧ r.tx = t):modL f L M = M.map (fun r => if r.tx = t ∧ t ≠ 0 then f r else r) := by
 apply List.ext_getElem?
 intro i
 rw [List.getElem?_map]
 by_cases h:i ∈ L
 ·rw [modL_mem f L M i hn h]
  obtain ⟨h0,r,hr,ht⟩ := (hm i).1 h
  rw [hr]
  simp [ht,h0]
 ·rw [modL_not f L M i h]
  cases hr:M[i]? with
  | none => rfl
  | some r =>
   have:¬ (r.tx = t ∧ t ≠ 0) := fun e => h ((hm i).2 ⟨e.2,r,hr,e.1⟩)
   simp only [Option.map_some,if_neg this]

end Go.Proofs.YtcibcfghkidncaaGreatDoor
