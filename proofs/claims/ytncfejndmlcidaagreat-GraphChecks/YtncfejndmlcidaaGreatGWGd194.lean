/- Layer 19, the document's side: is an item in a range? Layer 19: what an action leaves as it was; plain. -/
import Derived.Test.YtncfejndmlcidaaGreatGWGd192
import Derived.Test.YtncfejndmlcidaaGreatGMStr
namespace Go.Proofs.YtncfejndmlcidaaGreat
open Go.RowKit
set_option maxRecDepth 100000

set_option maxHeartbeats 1000000 in
theorem hasD_any (lo hi : ByteArray) (op : Bool) (k : ByteArray) (w : World) :
    Calls Tryz.prog 37 #[rngV lo hi op, .string k] w fun e w' => e = .returned (.bool (hasB lo hi op k)) ∧ Below w.heap.size w w' := by
  unfold hasB ltB
  cases h1 : Op.bytesLess k.toList lo.toList <;> cases op <;> cases h2 : Op.bytesLess k.toList hi.toList
  all_goals
    go_enter Tryz.func37, Tryz.ntmps37
    go_wp2
    go_ret
    exact ⟨rfl, by go_grown⟩

end Go.Proofs.YtncfejndmlcidaaGreat

namespace Go.Proofs.YtncfejndmlcidaaGreat
section
variable (H : List Ac) {a : Ac} {u : Int}
theorem bg_keep (h : a.kd ≠ 1 ∨ a.tx ≠ u) : bg (H ++ [a]) u = bg H u := by
  rw [bg_snoc]
  have : (a.tx == u && a.kd == 1) = false := by
    rcases h with h | h
    · simp [h]
    · simp [h]
  rw [this, Bool.or_false]
theorem en_keep (h : (a.kd ≠ 5 ∧ a.kd ≠ 6) ∨ a.tx ≠ u) : en (H ++ [a]) u = en H u := by
  rw [en_snoc]
  have : (a.tx == u && (a.kd == 5 || a.kd == 6)) = false := by
    rcases h with h | h
    · simp [h]
    · simp [h]
  rw [this, Bool.or_false]
theorem st_keep {k : Int} (h : a.kd ≠ k ∨ a.tx ≠ u) : stOf k (H ++ [a]) u = stOf k H u := by
  rw [stOf_snoc, if_neg (fun h1 => h.elim (fun h2 => h2 h1.2) (fun h2 => h2 h1.1))]
theorem rds_keep (h : a.kd ≠ 2 ∨ a.tx ≠ u) : rds (H ++ [a]) u = rds H u := by
  rw [rds_snoc, if_neg (fun h1 => h.elim (fun h2 => h2 h1.2) (fun h2 => h2 h1.1)), List.append_nil]
theorem scs_keep (h : a.kd ≠ 3 ∨ a.tx ≠ u) : scs (H ++ [a]) u = scs H u := by
  rw [scs_snoc, if_neg (fun h1 => h.elim (fun h2 => h2 h1.2) (fun h2 => h2 h1.1)), List.append_nil]
theorem its_keep (h : a.kd ≠ 4 ∨ a.tx ≠ u) : its (H ++ [a]) u = its H u := by
  rw [its_snoc, if_neg (fun h1 => h.elim (fun h2 => h2 h1.2) (fun h2 => h2 h1.1))]
theorem wr_keep {x : ByteArray} (h : a.kd ≠ 4 ∨ a.tx ≠ u ∨ a.it ≠ x) : wr (H ++ [a]) u x = wr H u x := by
  rw [wr_snoc]
  have : isW u x a = false := by
    unfold isW
    rcases h with h | h | h
    · simp [h]
    · simp [h]
    · simp [h]
  rw [this]
  rfl
theorem cms_keep (h : a.kd ≠ 5) : cms (H ++ [a]) = cms H := by rw [cms_snoc, if_neg h, List.append_nil]
theorem kn_keep (h : kn H a.tx = true) (u : Int) : kn (H ++ [a]) u = kn H u := by
  rw [kn_snoc]
  by_cases hu : a.tx = u
  · subst hu
    rw [h]
    rfl
  · have : (a.tx == u) = false := by simpa using hu
    rw [this, Bool.or_false]
theorem cms_en {t : Int} (h : t ∈ cms H) : en H t = true := by
  unfold cms at h
  obtain ⟨a, ha, rfl⟩ := List.mem_map.1 h
  obtain ⟨h1, h2⟩ := List.mem_filter.1 ha
  unfold en
  rw [List.any_eq_true]
  have h3 : a.kd = 5 := by simpa using h2
  exact ⟨a, h1, by simp [h3]⟩
end

end Go.Proofs.YtncfejndmlcidaaGreat
