/- slices.Sorted of what maps.Keys gives of a map of lists that is keyed by texts. -/
import Derived.Sort.Walk0
import Derived.StringKeys
import Derived.Test.YtncfejndmlcidaaGreatGWGr3
import Derived.Test.YtncfejndmlcidaaGreatGWShH
namespace Go.Proofs.YtncfejndmlcidaaGreat
open Go.RowKit
set_option maxRecDepth 100000

theorem keys_any (mb : Nat) (w : World) : Calls Tryz.prog 72 #[.map (some mb)] w fun e w' => e = .returned (.func (.func 107) #[] #[.pointer (some ⟨w.heap.size, 0, none⟩)]) ∧ w' = w.alloc (.cells #[.map (some mb)] 75) :=
  (callsIn_wide (n := 5)).1 (AnyZ.keys_in Tryz.keysV Fence.wide 5 trivial rfl (some mb) w)
def RU : Value → Option (DataW Unit × List MemPlace) := fun _ => some (.nil, [])
theorem MapG.own {w : World} {mb : Nat} {E : List (ByteArray × Value)} (h : MapG kvS w mb E) (hn : (E.map (·.1)).Nodup) (hs : ∀ x ∈ E.map (·.1), x.size ≤ maxLen) (hl : E.length ≤ 65536) : ∃ D : DataW Unit, w.ownsMap Tryz.prog 9 RU mb 65536 D ∧ (strKeys D).Perm (E.map (fun e => e.1.data.toList)) ∧ Maps.size D = E.length := by
  obtain ⟨es, c, h1, h2, h3, h4⟩ := h.f
  have hlen : es.size = E.length := by have := congrArg List.length h2; simpa using this
  have hmem : ∀ e ∈ es.toList, ∃ x ∈ E.map (·.1), e.key = .string x := fun e he => by
    have h5 : (e.key, e.val) ∈ es.toList.map (fun e => (e.key, e.val)) := List.mem_map.2 ⟨e, he, rfl⟩
    rw [h2] at h5
    obtain ⟨y, hy, e5⟩ := List.mem_map.1 h5
    exact ⟨y.1, List.mem_map.2 ⟨y, hy, rfl⟩, (Prod.mk.inj e5).1.symm⟩
  have hkeys : es.toList.map (·.key) = E.map (fun e => kvS e.1) := by
    have h5 := congrArg (List.map Prod.fst) h2
    rw [List.map_map, List.map_map] at h5
    exact h5
  have hnk : (es.toList.map (·.key)).Nodup := by
    rw [hkeys]
    have : E.map (fun e => kvS e.1) = (E.map (·.1)).map kvS := by simp
    rw [this]
    exact List.pairwise_map.2 (hn.imp (fun {a b} hab e => hab (by cases e; rfl)))
  have F : WideElems.Fit Tryz.prog 9 RU es c := ⟨by unfold maxLen; omega, ⟨h3, h4, hnk⟩, fun e he => by
    obtain ⟨x, hx, e1⟩ := hmem e he
    refine ⟨(.string x.data.toList, .nil), ?_⟩
    unfold WideElems.rd
    rw [e1, Go.WideMaps.keyOf_string_mk Tryz.underlying9 (hs x hx)]
    rfl⟩
  refine ⟨.map ((es.toList.map (WideElems.rg Tryz.prog 9 RU)).foldr DataW.insert []), ⟨es, c, h1, F, by omega, rfl⟩, ?_, ?_⟩
  · have hp : ((es.toList.map (WideElems.rg Tryz.prog 9 RU)).foldr DataW.insert []).Perm (es.toList.map (WideElems.rg Tryz.prog 9 RU)) := WideShapes.sorted_perm _
    have h6 := hp.map (fun p => strOf p.1)
    have h7 : (es.toList.map (WideElems.rg Tryz.prog 9 RU)).map (fun p => strOf p.1) = E.map (fun e => e.1.data.toList) := by
      have h8 : es.toList.map (fun e => strOf (WideElems.rg Tryz.prog 9 RU e).1) = es.toList.map (fun e => match e.key with | .string s => s.data.toList | _ => []) := List.map_congr_left (fun e he => by
        obtain ⟨x, hx, e1⟩ := hmem e he
        have h9 : WideElems.rd Tryz.prog 9 RU e = some (.string x.data.toList, .nil) := by
          unfold WideElems.rd
          rw [e1, Go.WideMaps.keyOf_string_mk Tryz.underlying9 (hs x hx)]
          rfl
        rw [WideElems.rg_of h9, e1]
        rfl)
      rw [List.map_map]
      have h10 := congrArg (List.map (fun v : Value => match v with | .string s => s.data.toList | _ => [])) hkeys
      rw [List.map_map, List.map_map] at h10
      exact h8.trans h10
    rw [← h7]
    exact h6
  · show ((es.toList.map (WideElems.rg Tryz.prog 9 RU)).foldr DataW.insert []).length = _
    rw [length_sorted]
    simpa using hlen
theorem sorts_V (m : Nat) : AnyZ.SortsIn Tryz.prog Tryz.sortedV_ren Fence.wide m :=
  ⟨fun blk off cap ss W hH hblk hsz => callsIn_wide.2 (AnyM.slices_Sort_string Tryz.sortV blk off cap ss W hH hblk hsz),
   fun p cap W => callsIn_wide.2 (AnyM.slices_Sort_string_none Tryz.sortV p cap W)⟩
theorem leB_ltB (a b : ByteArray) (h : decide (a.data.toList ≤ b.data.toList) = true) (hn : a ≠ b) : ltB a b = true := by
  rcases ltB_tri a b with h1 | h1 | h1
  · exact h1
  · exact absurd h1 hn
  · exfalso
    unfold ltB at h1
    rw [ByteArray.toList_eq, ByteArray.toList_eq, bytesLess_eq, decide_eq_true_eq] at h1
    rw [decide_eq_true_eq] at h
    exact absurd h1 (List.not_lt.2 h)
set_option maxHeartbeats 1000000 in
theorem sortedK_any (mb : Nat) (E : List (ByteArray × Value)) (w : World) (hE : MapG kvS w mb E) (hn : (E.map (·.1)).Nodup) (hs : ∀ x ∈ E.map (·.1), x.size ≤ maxLen) (hl : E.length ≤ 65536) :
    Calls Tryz.prog 71 #[.func (.func 107) #[] #[.pointer (some ⟨w.heap.size, 0, none⟩)]] (w.alloc (.cells #[.map (some mb)] 75)) fun e w' => ∃ (v : Value) (I : List ByteArray), e = .returned v ∧ OwnG encX 1 9 w' (w.heap.size + 1) v I ∧ RisS I ∧ (∀ x, x ∈ I ↔ x ∈ E.map (·.1)) ∧ I.length = E.length ∧ Below (w.heap.size + 1) (w.alloc (.cells #[.map (some mb)] 75)) w' := by
  obtain ⟨D, hown, hperm, hsize⟩ := hE.own hn hs hl
  have hz : (w.alloc (.cells #[.map (some mb)] 75)).heap.size = w.heap.size + 1 := by simp
  have hseq : SeqGives Fence.wide 2 Tryz.prog 107 #[.pointer (some ⟨w.heap.size, 0, none⟩)] encStr (fun ss => ss.Perm (strKeys D)) (Maps.size D) (w.alloc (.cells #[.map (some mb)] 75)) :=
    AnyZ.keys_gives (ρ := Tryz.keysV_ren) { Tryz.keysV with } Fence.wide _ trivial rfl (by omega) w.heap.size mb 65536 D _ (by simp) (by simp) (by
      obtain ⟨es, clock, hb, Ft, hs, hD⟩ := hown
      exact ⟨es, clock, (Below.heap_alloc _ _ mb hE.lt).trans hb, Ft, hs, hD⟩)
  have h := (callsIn_wide (n := 5)).1 (AnyZ.sorted_in Tryz.sortedV Fence.wide 5 trivial trivial trivial trivial rfl (by omega) (sorts_V _) (enters_of Tryz.func106 (by kernel_rfl) rfl) 107 #[.pointer (some ⟨w.heap.size, 0, none⟩)] trivial (enters_of Tryz.func107 (by kernel_rfl) rfl) _ _ (by rw [hsize]; unfold maxLen; omega) (by rw [hsize]; omega) _ hseq)
  change Calls Tryz.prog 71 _ _ _ at h
  refine h.mono ?_
  rintro e w' ⟨v, ss, rfl, hp, hrow, _, hb⟩
  rw [hz] at hrow hb
  have hpe := hp.trans hperm
  obtain ⟨M, hM⟩ : ∃ M, ss.mergeSort (fun x y => decide (x ≤ y)) = M := ⟨_, rfl⟩
  have hpm : M.Perm (E.map (fun e => e.1.data.toList)) := by rw [← hM]; exact (List.mergeSort_perm ss _).trans hpe
  have hlen : M.length = E.length := by have := hpm.length_eq; simpa using this
  have hsl : ss.length = M.length := by rw [← hM]; exact (List.length_mergeSort ss).symm
  have hinj : ∀ {a b : ByteArray}, a.data.toList = b.data.toList → a = b := fun h => bytes_eq9 h
  have hdata : ∀ l : List UInt8, (⟨l.toArray⟩ : ByteArray).data.toList = l := fun l => rfl
  obtain ⟨I, hI⟩ : ∃ I : List ByteArray, M.map (fun l => (⟨l.toArray⟩ : ByteArray)) = I := ⟨_, rfl⟩
  have hIM : I.map (fun x => x.data.toList) = M := by rw [← hI, List.map_map]; simp [Function.comp_def]
  have hIl : I.length = M.length := by rw [← hI, List.length_map]
  have hmem : ∀ x, x ∈ I ↔ x ∈ E.map (·.1) := fun x => by
    have h1 : x ∈ I ↔ x.data.toList ∈ M := by
      rw [← hIM, List.mem_map]
      exact ⟨fun h => ⟨x, h, rfl⟩, fun ⟨y, hy, e⟩ => by rw [← hinj e]; exact hy⟩
    rw [h1, hpm.mem_iff, List.mem_map, List.mem_map]
    exact ⟨fun ⟨y, hy, e⟩ => ⟨y, hy, hinj e⟩, fun ⟨y, hy, e⟩ => ⟨y, hy, by rw [e]⟩⟩
  have hnd : M.Nodup := by
    have h1 : (E.map (fun e => e.1.data.toList)).Nodup := by
      have h2 : E.map (fun e => e.1.data.toList) = (E.map (·.1)).map (fun x => x.data.toList) := by simp
      rw [h2]
      exact List.pairwise_map.2 (hn.imp (fun {a b} hab e => hab (hinj e)))
    exact (hpm.symm.pairwise_iff (fun {_ _} h => Ne.symm h)).1 h1
  have hsrt : M.Pairwise (fun x y => decide (x ≤ y) = true) := by
    rw [← hM]
    exact List.pairwise_mergeSort (fun a b c h1 h2 => by simp only [decide_eq_true_eq] at *; exact List.le_trans h1 h2) (fun a b => by simp only [Bool.or_eq_true, decide_eq_true_eq]; exact List.le_total a b) ss
  have hris : RisS I := by
    unfold RisS
    rw [← hI, List.pairwise_map]
    refine List.Pairwise.imp₂ (fun a b h1 h2 => leB_ltB _ _ h1 (fun e => h2 ?_)) hsrt hnd
    have := congrArg (fun x : ByteArray => x.data.toList) e
    exact this
  refine ⟨v, I, rfl, ?_, hris, hmem, by omega, hb⟩
  unfold OwnG
  rw [hsl, ← hIl] at hrow
  have e9 : I.flatMap encX = (ss.mergeSort (fun x y => decide (x ≤ y))).map encStr := by
    rw [hM, ← hI]
    have : ∀ L : List (List UInt8), (L.map (fun l => (⟨l.toArray⟩ : ByteArray))).flatMap encX = L.map encStr := fun L => by
      induction L with
      | nil => rfl
      | cons l L ih => rw [List.map_cons, List.flatMap_cons, ih]; rfl
    exact this M
  rw [e9]
  exact hrow

end Go.Proofs.YtncfejndmlcidaaGreat
