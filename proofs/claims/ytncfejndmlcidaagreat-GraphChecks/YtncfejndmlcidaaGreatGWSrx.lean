/- slices.SortFunc of transactions by numbers. -/
import Derived.Shelf.SlSortCmp.NoneTotal
import Derived.Ground.SlsfProg
import Derived.BigQuiet
import Derived.Test.YtncfejndmlcidaaGreatGWGr3
import Derived.Test.YtncfejndmlcidaaGreatGWIns
import Derived.Test.YtncfejndmlcidaaGreatGWShJ
namespace Go.Proofs.YtncfejndmlcidaaGreat
open Go.Shelf Go.RowKit Go.Lib Go.Sort
set_option maxRecDepth 100000

def cmpI (a b : Int) : Int := if a < b then -1 else if b < a then 1 else 0
theorem isNaNi_any (x : Int) (w : World) : Calls Tryz.prog 104 #[.int .i64 x] w fun e w' => e = .returned (.bool false) ∧ w' = w := by
  have h : (x != x) = false := by simp [bne]
  go_enter Tryz.func104, Tryz.ntmps104
  go_wp2
  go_ret
  exact ⟨rfl, rfl⟩
set_option maxHeartbeats 1000000 in
theorem compareI_any (x y : Int) (w : World) : Calls Tryz.prog 70 #[.int .i64 x, .int .i64 y] w fun e w' => e = .returned (.int .i64 (cmpI x y)) ∧ w' = w := by
  unfold cmpI
  rcases Int.lt_trichotomy x y with h | h | h
  all_goals
    have h1 : decide (x < y) = decide (x < y) := rfl
    go_enter Tryz.func70, Tryz.ntmps70
    go_wp2_with (first | (go_at_call 104; refine (isNaNi_any _ _).mono ?_; rintro e w1 ⟨rfl, hww⟩; obtain rfl := hww.symm))
  all_goals go_ret
  all_goals (refine ⟨?_, rfl⟩)
  all_goals simp [*]
  all_goals omega
set_option maxHeartbeats 2000000 in
theorem finCmp_any (p q : Nat) (x y : Int) (W : World) (hx : W.cell? ⟨p, 0, none⟩ = some (.int .i64 x)) (hy : W.cell? ⟨q, 0, none⟩ = some (.int .i64 y)) :
    Calls Tryz.prog 69 #[ptr1 p, ptr1 q] W fun e w' => e = .returned (.int .i64 (cmpI x y)) ∧ ∃ n os', w' = grow (W.drewN n) os' := by
  have C1 : Hid (∀ w1 : World, Calls _ _ _ _ _) := fun w1 => compareI_any x y w1
  generalize cmpI x y = r at *
  dsimp only [ptr1]
  go_enter Tryz.func69, Tryz.ntmps69
  go_upto_region 1 with fail
  go_quiet (first | (go_at_call 70; exact Calls.quiet_of_same (C1.out _)))
  go_wp2_with fail
  go_ret
  exact ⟨rfl, nq, #[], (grow_empty _).symm⟩

variable {α : Type}
theorem swoI {β : Type} (f : β → Int) : SWO (ltOf (fun x y : β => cmpI (f x) (f y))) where
  irrefl x := by unfold ltOf cmpI; simp
  trans x y z h1 h2 := by unfold ltOf cmpI at *; simp only [decide_eq_true_eq] at *; split at h1 <;> split at h2 <;> (try split at h1) <;> (try split at h2) <;> simp_all <;> omega
  ntrans x y z h1 h2 := by unfold ltOf cmpI at *; simp only [decide_eq_false_iff_not] at *; split at h1 <;> split at h2 <;> (try split at h1) <;> (try split at h2) <;> simp_all <;> omega
theorem ltI {β : Type} (f : β → Int) (x y : β) : ltOf (fun x y : β => cmpI (f x) (f y)) x y = decide (f x < f y) := by
  unfold ltOf cmpI
  by_cases h1 : f x < f y
  · simp [h1]
  · by_cases h2 : f y < f x <;> simp [h1, h2]

theorem Blk.own_ne {α : Type} {enc : α → List Value} {size B : Nat} {T S : TypeId} {w : World} {v : Value} {L : List α} {g : Nat} {cs : Array Value} (h : OwnG enc size T w B v L) (hg : Blk w g cs S) (hT : T ≠ S) : v.ownBlock ≠ some g := fun e => by
  obtain ⟨_, cur, h1⟩ := h.blk e
  unfold Blk at hg
  rw [hg] at h1
  cases h1
  exact hT rfl
theorem sortW_blk {β : Type} [Inhabited β] (enc : β → Value) {w : World} {g n : Nat} {cur : Array Value} {T : TypeId} (d : Array β) (os : Array Obj) (h : Blk w g cur T) : Blk (sortWorld enc w g 0 n d os) g (putCells enc 0 d cur) T := by
  unfold Blk sortWorld
  have hlt := h.lt
  rw [heap_grow_old _ _ (by rw [size_putRow]; exact hlt)]
  unfold putRow mapBlock
  show (w.heap.modify g (onCells (putCells enc 0 d)))[g]? = _
  unfold Blk at h
  rw [Array.getElem?_modify, if_pos rfl, h]
  rfl
theorem sortW_frm {β : Type} [Inhabited β] (enc : β → Value) (w : World) (g n : Nat) (d : Array β) (os : Array Obj) : Frm w (sortWorld enc w g 0 n d os) (fun k => k = g) where
  os := rfl
  tape := rfl
  output := rfl
  size := by
    show w.heap.size ≤ ((w.heap.modify g (onCells (putCells enc 0 d))) ++ os).size
    simp
  block k hk hn := by
    show ((w.heap.modify g (onCells (putCells enc 0 d))) ++ os)[k]? = _
    rw [Array.getElem?_append_left (by simpa using hk), Array.getElem?_modify, if_neg (fun e => hn e.symm)]
set_option maxHeartbeats 2000000 in
theorem sortTx_any (B : Nat) (pt : Int → Nat) (L : List Int) (v : Value) (w : World) (hO : OwnG (encT pt) 1 102 w B v L) (hnd : L.Nodup) (hl : L.length ≤ 4398046511104)
    (hn : ∀ t ∈ L, ∃ cs, Blk w (pt t) cs 101 ∧ cs[0]? = some (.int .i64 t)) :
    Calls Tryz.prog 68 #[v, .func (.func 69) #[] #[]] w fun e w' => e = .returned (.tuple #[]) ∧ ∃ L', L'.Perm L ∧ L'.Pairwise (· < ·) ∧ OwnG (encT pt) 1 102 w' B v L' ∧ Frm w w' (fun k => v.ownBlock = some k) := by
  rcases hO.form with ⟨rfl, rfl⟩ | ⟨g, cap, cur0, rfl, _⟩
  · have h := AnyF.slices_SortFunc_none (P := Tryz.prog) (ρ := Tryz.sortTx_ren) { Tryz.sortTx with } none 0 (.func (.func 69) #[] #[]) w
    change Calls Tryz.prog 68 _ _ _ at h
    refine h.mono ?_
    rintro e w' ⟨rfl, rfl⟩
    exact ⟨rfl, [], List.Perm.refl _, List.Pairwise.nil, hO, Frm.refl _ _⟩
  · obtain ⟨cur, hg, hBg, hcap, hmx, hsz, hcur⟩ := own1_at (f := fun t : Int => ptr1 (pt t)) hO
    by_cases hL : L = []
    · subst hL
      have h := AnyF.slices_SortFunc_none (P := Tryz.prog) (ρ := Tryz.sortTx_ren) { Tryz.sortTx with } (some ⟨g, 0, none⟩) cap (.func (.func 69) #[] #[]) w
      change Calls Tryz.prog 68 _ _ _ at h
      refine h.mono ?_
      rintro e w' ⟨rfl, rfl⟩
      exact ⟨rfl, [], List.Perm.refl _, List.Pairwise.nil, hO, Frm.refl _ _⟩
    haveI : Inhabited { t : Int // t ∈ L } := ⟨⟨L.head hL, List.head_mem hL⟩⟩
    have hne : ∀ t ∈ L, pt t ≠ g := fun t ht e => by
      obtain ⟨cs, h1, _⟩ := hn t ht
      exact Blk.own_ne hO h1 (by decide) (by rw [e]; rfl)
    have hds : (L.attach.toArray).size = L.length := by simp
    have hat : ∀ j (hj : j < L.length), (L.attach.toArray)[j]!.1 = L[j] := fun j hj => by
      rw [getElem!_pos _ j (by rw [hds]; exact hj)]
      simp
    have h := Any.slices_SortFunc Tryz.sortTx (fun t : { t : Int // t ∈ L } => ptr1 (pt t.1)) (fun _ => rfl) (fun x y => cmpI x.1 y.1) (swoI _) 69 #[] g 0 cap L.attach.toArray w
      (enters_of Tryz.func69 (by kernel_rfl) rfl)
      (fun m os dk hdk x y => by
        obtain ⟨c1, h1, h2⟩ := hn x.1 x.2
        obtain ⟨c2, h3, h4⟩ := hn y.1 y.2
        refine finCmp_any (pt x.1) (pt y.1) x.1 y.1 _ ?_ ?_
        · exact (h1.frm (sortW_frm _ _ _ _ _ _) (hne _ x.2)).cell h2
        · exact (h3.frm (sortW_frm _ _ _ _ _ _) (hne _ y.2)).cell h4)
      (fun j hj => by
        rw [hds] at hj
        refine ⟨?_, hg.frozen _⟩
        show w.cell? ⟨g, 0 + j, none⟩ = some (ptr1 (pt (L.attach.toArray)[j]!.1))
        rw [Nat.zero_add, hat j hj]
        exact hg.cell (hcur j hj)) hg.lt (by rw [hds]; omega)
    change Calls Tryz.prog 68 _ _ _ at h
    rw [hds] at h
    refine h.mono ?_
    rintro e w' ⟨rfl, d', n, os, hp, hs, rfl⟩
    obtain ⟨hsz', _, hpm⟩ := hp
    rw [hds] at hsz'
    have hpm2 : d'.toList.Perm L.attach := by
      have e1 : (d'.extract 0 L.length).toList = d'.toList := by rw [← hsz']; simp
      have e2 : (L.attach.toArray.extract 0 L.length).toList = L.attach := by simp [List.take_of_length_le]
      rw [e1, e2] at hpm
      exact hpm
    have hLp : (d'.toList.map (·.1)).Perm L := by
      have := hpm2.map (·.1)
      rwa [List.attach_map_subtype_val] at this
    have hll : (d'.toList.map (·.1)).length = L.length := hLp.length_eq
    refine ⟨rfl, d'.toList.map (·.1), hLp, ?_, ?_, (sortW_frm _ _ _ _ _ _).mono (fun k hk => .inl (by rw [hk]; rfl))⟩
    · have hnd2 : (d'.toList.map (·.1)).Nodup := hLp.nodup_iff.2 hnd
      rw [List.pairwise_iff_getElem]
      intro i j hi hj hij
      have h1 := hs i j (Nat.zero_le _) hij (by omega)
      rw [ltI, decide_eq_false_iff_not, getElem!_pos _ i (by omega), getElem!_pos _ j (by omega)] at h1
      have h2 : (d'.toList.map (·.1))[i] ≠ (d'.toList.map (·.1))[j] := List.pairwise_iff_getElem.1 hnd2 i j hi hj hij
      simp only [List.getElem_map, Array.getElem_toList] at h2 ⊢
      omega
    · have hb := sortW_blk (fun t : { t : Int // t ∈ L } => ptr1 (pt t.1)) (n := n) d' os hg
      have h5 := own1_of (f := fun t : Int => ptr1 (pt t)) (L := d'.toList.map (·.1)) (cap := cap) hb hBg (by omega) hmx (by simp [putCells, hsz]) (fun j hj => by
        rw [hll] at hj
        unfold putCells
        rw [Array.getElem?_mapIdx, Array.getElem?_eq_getElem (by omega)]
        simp only [Option.map_some, Nat.zero_le, true_and, Nat.zero_add, Nat.sub_zero]
        rw [if_pos (by omega), getElem!_pos _ j (by omega)]
        simp)
      rw [hll] at h5
      exact h5

end Go.Proofs.YtncfejndmlcidaaGreat
