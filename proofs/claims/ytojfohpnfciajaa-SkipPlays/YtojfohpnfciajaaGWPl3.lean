/- Layer 12: the document's Put and Delete. Layer 12: the document's side: Seek. -/
import Derived.Test.YtojfohpnfciajaaGWPl2
import Derived.Test.YtojfohpnfciajaaGLSkH
namespace Go.Proofs.Ytojfohpnfciajaa
open Go.RowKit
set_option maxRecDepth 100000

set_option maxHeartbeats 4000000 in
theorem rput_long (p : Option Addr) (n c : Nat) (k : ByteArray) (x h : Int) (w : World) (hk : 1025 < k.size) :
    Calls Try.prog 25 #[.slice p n c, .string k, .int .i64 x, .int .i64 h] w fun e w' => e = .returned (.tuple #[.slice p n c, .int .i64 0, .bool false, .int .i64 3]) ∧ w' = w := by
  go_enter Try.func25, Try.ntmps25
  go_wp2_with fail
  (try simp only [Exit.inBlock, Exit.then])
  refine bodyPost_ret (v := .tuple #[.slice p n c, .int .i64 0, .bool false, .int .i64 3]) (by simp [results, Try.results25, go_sem]) rfl ?_
  exact ⟨rfl, rfl⟩

set_option maxHeartbeats 4000000 in
theorem rput_hgt (p : Option Addr) (n c : Nat) (k : ByteArray) (x h : Int) (w : World) (hk : k.size ≤ 1025) (hh : h < 1 ∨ 16 < h) :
    Calls Try.prog 25 #[.slice p n c, .string k, .int .i64 x, .int .i64 h] w fun e w' => e = .returned (.tuple #[.slice p n c, .int .i64 0, .bool false, .int .i64 120]) ∧ w' = w := by
  by_cases h1 : h < 1
  · clear hh
    go_enter Try.func25, Try.ntmps25
    go_wp2_with fail
    (try simp only [Exit.inBlock, Exit.then])
    refine bodyPost_ret (v := .tuple #[.slice p n c, .int .i64 0, .bool false, .int .i64 120]) (by simp [results, Try.results25, go_sem]) rfl ?_
    exact ⟨rfl, rfl⟩
  · have h2 : 16 < h := by omega
    have h3 : 1 ≤ h := by omega
    clear hh h1
    go_enter Try.func25, Try.ntmps25
    go_wp2_with fail
    (try simp only [Exit.inBlock, Exit.then])
    refine bodyPost_ret (v := .tuple #[.slice p n c, .int .i64 0, .bool false, .int .i64 120]) (by simp [results, Try.results25, go_sem]) rfl ?_
    exact ⟨rfl, rfl⟩

set_option maxHeartbeats 8000000 in
theorem rput_ok (S : List En) (B h : Nat) (v : Value) (k : ByteArray) (x : Int) (w : World) (hO : OwnE w B v S) (hk : k.size ≤ 1025) (hh : 1 ≤ h ∧ h ≤ 16) (hl : S.length < 4000000000000) :
    Calls Try.prog 25 #[v, .string k, .int .i64 x, .int .i64 (h : Nat)] w fun e w' => ∃ v', e = .returned (.tuple #[v', .int .i64 (wasV S k), .bool (getE S k).isSome, .int .i64 0]) ∧ OwnE w' w.heap.size v' (putE S k x h) ∧ Below w.heap.size w w' := by
  obtain ⟨p, c, rfl, hR⟩ := own_rd hO
  have C1 : Hid (Calls _ _ _ _ _) := rfind_any S p c k w hR hl
  have C2 : Hid (Calls _ _ _ _ _) := rget_any S p c k w hR hl
  have HO : Hid (OwnE w B (.slice p S.length c) S) := hO
  obtain ⟨-, hcap, -⟩ := ownE_cells hO
  have hle := fnd_le S k
  have hg1 : 1 ≤ (h : Int) := by omega
  have hg2 : (h : Int) ≤ 16 := by omega
  cases hg : getE S k with
  | none =>
    have HP : Hid (putE S k x h = (S.take (fnd S k) ++ [⟨k, x, h⟩]) ++ S.drop (fnd S k)) := putE_none hg x h
    have HW : Hid (wasV S k = 0) := by show wasV S k = 0; unfold wasV; rw [hg]
    rw [hg] at C2
    obtain ⟨m, hm⟩ : ∃ m, fnd S k = m := ⟨_, rfl⟩
    rw [hm] at HP C1 hle
    clear hm hg hO hR hh
    have HL : Hid (S.length < 4000000000000) := hl
    have HLe : Hid (m ≤ S.length) := hle
    obtain ⟨n, hn⟩ : ∃ n, S.length = n := ⟨_, rfl⟩
    have HN : Hid (S.length = n) := hn
    rw [hn] at C1 C2 HO hl hle hcap ⊢
    clear hn
    go_enter Try.func25, Try.ntmps25
    go_wp2_with fail
    refine C1.out.mono ?_
    rintro e w9 ⟨rfl, hw9⟩
    rw [hw9]
    clear hw9 C1
    go_wp2_with fail
    refine C2.out.mono ?_
    rintro e w9 ⟨rfl, hw9⟩
    rw [hw9]
    clear hw9 C2
    go_upto_region 8 with fail
    obtain ⟨-, -, hcs⟩ := ownE_cells HO.out
    rcases hcs with ⟨rfl, rfl, hnil⟩ | ⟨g, rfl, hgs, -⟩
    · have hn0 : n = 0 := by rw [← HN.out, hnil]; rfl
      have hm0 : m = 0 := by omega
      have HNl : Hid (S.take m = [] ∧ S.drop m = []) := by rw [hnil]; exact ⟨List.take_nil, List.drop_nil⟩
      clear hnil hm0 hcap
      subst hn0
      go_wp2_with (first | (at_builtin; go_loud (refine wpList_appE w rfl (.tmp 36) (.tmp 39) rfl w.heap.size _ _ [] (S.take m) rfl (World.ownsRow_nil _ _ _ _) rfl (.inl ⟨rfl, HNl.out.1⟩) (by rw [List.length_take]; have := HL.out; have := HLe.out; simp; omega) (Nat.le_refl _) ?_); intro v2 w2 ho2 hb2; refine Hid.out ?_))
      rw [List.nil_append] at ho2
      have HO2 : Hid (OwnE w2 w.heap.size v2 (S.take m)) := ho2
      have HB2 : Hid (Below w.heap.size w w2) := hb2
      obtain ⟨p2, c2, hv2, -⟩ := owns_len ho2
      have hl2 : (S.take m).length = m := by rw [List.length_take]; have := HLe.out; omega
      rw [hl2] at hv2
      subst hv2
      clear ho2 hb2 hl2
      unfold Hid
      go_wp2_with (first | (at_builtin; go_loud (refine wpList_app1 w2 rfl (.tmp 60) (.tmp 65) 48 26 _ 3 32 rfl Try.underlying26 info_en rfl (by decide) w.heap.size _ _ _ (by rfl) HO2.out [.string k, .int .i64 x, .int .i64 (h : Nat)] rfl (fun u hu => en_one [⟨k, x, h⟩] u (by simpa [enC] using hu)) _ rfl (by simp) (by rw [List.length_take]; have := HL.out; omega) (by rw [List.length_take]; have := HL.out; omega) HB2.out.size ?_); intro v3 w3 ho3 hb3 _; refine Hid.out ?_))
      have HO3 : Hid (OwnE w3 w.heap.size v3 (S.take m ++ [⟨k, x, h⟩])) := by
        show World.ownsRow _ _ _ _ _ _ _
        rw [List.length_append, List.flatMap_append]
        simpa [enC] using ho3
      have HB3 : Hid (Below w.heap.size w w3) := HB2.out.trans hb3
      obtain ⟨p3, c3, hv3, -⟩ := owns_len HO3.out
      have hl3 : (S.take m ++ [(⟨k, x, h⟩ : En)]).length = m + 1 := by rw [List.length_append, List.length_take]; have := HLe.out; simp; omega
      rw [hl3] at hv3
      subst hv3
      clear ho3 hb3 hl3 HO2 HB2
      unfold Hid
      go_wp2_with (first | (at_builtin; go_loud (refine wpList_appE w3 rfl (.tmp 67) (.tmp 70) rfl w.heap.size _ _ (S.take m ++ [(⟨k, x, h⟩ : En)]) (S.drop (m)) rfl HO3.out rfl (by exact .inl ⟨rfl, HNl.out.2⟩) (by rw [List.length_drop]; simp only [List.length_append, List.length_take, List.length_singleton]; have := HL.out; have := HLe.out; omega) HB3.out.size ?_); intro v4 w4 ho4 hb4; refine Hid.out ?_))
      have HO4 : Hid (OwnE w4 w.heap.size v4 ((S.take m ++ [(⟨k, x, h⟩ : En)]) ++ S.drop (m)) ∧ Below w.heap.size w w4) := ⟨ho4, HB3.out.trans hb4⟩
      obtain ⟨p4, l4, c4, hv4⟩ : ∃ p4 l4 c4, v4 = .slice p4 l4 c4 := by
        obtain ⟨p4, c4, h9, -⟩ := owns_len HO4.out.1
        exact ⟨p4, _, c4, h9⟩
      subst hv4
      clear ho4 hb4
      unfold Hid
      go_wp2_with fail
      (try simp only [Exit.inBlock, Exit.then])
      refine bodyPost_ret (v := .tuple #[.slice p4 l4 c4, .int .i64 0, .bool false, .int .i64 0]) (by simp [results, Try.results25, go_sem]; try rfl) rfl ?_
      exact ⟨_, by rw [HW.out]; rfl, by rw [HP.out]; exact HO4.out.1, HO4.out.2⟩
    · clear hgs
      go_wp2_with (first | (at_builtin; go_loud (refine wpList_appE w rfl (.tmp 36) (.tmp 39) rfl w.heap.size _ _ [] (S.take m) rfl (World.ownsRow_nil _ _ _ _) rfl (src_take HO.out HLe.out) (by rw [List.length_take]; have := HL.out; have := HLe.out; simp; omega) (Nat.le_refl _) ?_); intro v2 w2 ho2 hb2; refine Hid.out ?_))
      rw [List.nil_append] at ho2
      have HO2 : Hid (OwnE w2 w.heap.size v2 (S.take m)) := ho2
      have HB2 : Hid (Below w.heap.size w w2) := hb2
      obtain ⟨p2, c2, hv2, -⟩ := owns_len ho2
      have hl2 : (S.take m).length = m := by rw [List.length_take]; have := HLe.out; omega
      rw [hl2] at hv2
      subst hv2
      clear ho2 hb2 hl2
      unfold Hid
      go_wp2_with (first | (at_builtin; go_loud (refine wpList_app1 w2 rfl (.tmp 60) (.tmp 65) 48 26 _ 3 32 rfl Try.underlying26 info_en rfl (by decide) w.heap.size _ _ _ (by rfl) HO2.out [.string k, .int .i64 x, .int .i64 (h : Nat)] rfl (fun u hu => en_one [⟨k, x, h⟩] u (by simpa [enC] using hu)) _ rfl (by simp) (by rw [List.length_take]; have := HL.out; omega) (by rw [List.length_take]; have := HL.out; omega) HB2.out.size ?_); intro v3 w3 ho3 hb3 _; refine Hid.out ?_))
      have HO3 : Hid (OwnE w3 w.heap.size v3 (S.take m ++ [⟨k, x, h⟩])) := by
        show World.ownsRow _ _ _ _ _ _ _
        rw [List.length_append, List.flatMap_append]
        simpa [enC] using ho3
      have HB3 : Hid (Below w.heap.size w w3) := HB2.out.trans hb3
      obtain ⟨p3, c3, hv3, -⟩ := owns_len HO3.out
      have hl3 : (S.take m ++ [(⟨k, x, h⟩ : En)]).length = m + 1 := by rw [List.length_append, List.length_take]; have := HLe.out; simp; omega
      rw [hl3] at hv3
      subst hv3
      clear ho3 hb3 hl3 HO2 HB2
      unfold Hid
      by_cases hcm : c = m
      · have hnm : n = m := by omega
        have HD : Hid (S.drop (m) = []) := by
          have : S.drop (m) = [] := List.drop_eq_nil_of_le (by rw [HN.out]; omega)
          exact this
        clear hcap hle
        have hcm2 := hcm.symm
        have hnm2 := hnm.symm
        clear hcm hnm
        subst hcm2
        subst hnm2
        go_wp2_with (first | (at_builtin; go_loud (refine wpList_appE w3 rfl (.tmp 67) (.tmp 70) rfl w.heap.size _ _ (S.take m ++ [(⟨k, x, h⟩ : En)]) [] rfl HO3.out rfl (by first | exact src_none _ _ _ _ | simpa using src_none w3 g 0 0) (by simp only [List.length_append, List.length_take, List.length_singleton, List.length_nil]; have := HL.out; have := HLe.out; omega) HB3.out.size ?_); intro v4 w4 ho4 hb4; refine Hid.out ?_))
        have HO4 : Hid (OwnE w4 w.heap.size v4 ((S.take m ++ [(⟨k, x, h⟩ : En)]) ++ S.drop (m)) ∧ Below w.heap.size w w4) := ⟨by rw [HD.out]; exact ho4, HB3.out.trans hb4⟩
        obtain ⟨p4, l4, c4, hv4⟩ : ∃ p4 l4 c4, v4 = .slice p4 l4 c4 := by
          obtain ⟨p4, c4, h9, -⟩ := owns_len HO4.out.1
          exact ⟨p4, _, c4, h9⟩
        subst hv4
        clear ho4 hb4
        unfold Hid
        go_wp2_with fail
        (try simp only [Exit.inBlock, Exit.then])
        refine bodyPost_ret (v := .tuple #[.slice p4 l4 c4, .int .i64 0, .bool false, .int .i64 0]) (by simp [results, Try.results25, go_sem]; try rfl) rfl ?_
        exact ⟨_, by rw [HW.out]; rfl, by rw [HP.out]; exact HO4.out.1, HO4.out.2⟩
      · have HSr : Hid (SrcV w3 (.slice (some ⟨g, (m) * 3, none⟩) (n - (m)) (c - (m))) (S.drop (m))) := by
          have h9 := src_drop (owns_kept HO.out HB3.out) (m := m) (by have := HN.out; omega)
          rw [if_neg hcm, Option.map_some, show (⟨g, 0, none⟩ : Addr).add ((m) * 3) = ⟨g, (m) * 3, none⟩ by unfold Addr.add; split <;> simp_all] at h9
          exact h9
        go_wp2_with (first | (at_builtin; go_loud (refine wpList_appE w3 rfl (.tmp 67) (.tmp 70) rfl w.heap.size _ _ (S.take m ++ [(⟨k, x, h⟩ : En)]) (S.drop (m)) rfl HO3.out rfl (by exact HSr.out) (by rw [List.length_drop]; simp only [List.length_append, List.length_take, List.length_singleton]; have := HL.out; have := HLe.out; omega) HB3.out.size ?_); intro v4 w4 ho4 hb4; refine Hid.out ?_))
        have HO4 : Hid (OwnE w4 w.heap.size v4 ((S.take m ++ [(⟨k, x, h⟩ : En)]) ++ S.drop (m)) ∧ Below w.heap.size w w4) := ⟨ho4, HB3.out.trans hb4⟩
        obtain ⟨p4, l4, c4, hv4⟩ : ∃ p4 l4 c4, v4 = .slice p4 l4 c4 := by
          obtain ⟨p4, c4, h9, -⟩ := owns_len HO4.out.1
          exact ⟨p4, _, c4, h9⟩
        subst hv4
        clear ho4 hb4
        unfold Hid
        go_wp2_with fail
        (try simp only [Exit.inBlock, Exit.then])
        refine bodyPost_ret (v := .tuple #[.slice p4 l4 c4, .int .i64 0, .bool false, .int .i64 0]) (by simp [results, Try.results25, go_sem]; try rfl) rfl ?_
        exact ⟨_, by rw [HW.out]; rfl, by rw [HP.out]; exact HO4.out.1, HO4.out.2⟩
  | some e0 =>
    have HP : Hid (putE S k x h = (S.take (fnd S k) ++ [⟨k, x, e0.h⟩]) ++ S.drop (fnd S k + 1)) := putE_some hg x h
    have HW : Hid (wasV S k = e0.v) := by show wasV S k = e0.v; unfold wasV; rw [hg]
    obtain ⟨hfl, hfe⟩ := getE_lt hg
    obtain ⟨g, rfl, hgs, -, -, a2⟩ := hR _ hfl
    rw [hfe] at a2
    rw [hg] at C2
    obtain ⟨m, hm⟩ : ∃ m, fnd S k = m := ⟨_, rfl⟩
    rw [hm] at HP C1 hle hfl a2
    clear hm hg hO hR hh hfe
    have HL : Hid (S.length < 4000000000000) := hl
    have HLe : Hid (m ≤ S.length) := hle
    obtain ⟨n, hn⟩ : ∃ n, S.length = n := ⟨_, rfl⟩
    have HN : Hid (S.length = n) := hn
    rw [hn] at C1 C2 HO hl hle hcap ⊢
    rw [hn] at hfl
    clear hn
    go_enter Try.func25, Try.ntmps25
    go_wp2_with fail
    refine C1.out.mono ?_
    rintro e w9 ⟨rfl, hw9⟩
    rw [hw9]
    clear hw9 C1
    go_wp2_with fail
    refine C2.out.mono ?_
    rintro e w9 ⟨rfl, hw9⟩
    rw [hw9]
    clear hw9 C2
    go_wp2_with (first | (at_builtin; go_loud (refine wpList_appE w rfl (.tmp 36) (.tmp 39) rfl w.heap.size _ _ [] (S.take m) rfl (World.ownsRow_nil _ _ _ _) rfl (src_take HO.out HLe.out) (by rw [List.length_take]; have := HL.out; have := HLe.out; simp; omega) (Nat.le_refl _) ?_); intro v2 w2 ho2 hb2; refine Hid.out ?_))
    rw [List.nil_append] at ho2
    have HO2 : Hid (OwnE w2 w.heap.size v2 (S.take m)) := ho2
    have HB2 : Hid (Below w.heap.size w w2) := hb2
    obtain ⟨p2, c2, hv2, -⟩ := owns_len ho2
    have hl2 : (S.take m).length = m := by rw [List.length_take]; have := HLe.out; omega
    rw [hl2] at hv2
    subst hv2
    clear ho2 hb2 hl2
    unfold Hid
    have a2' := (HB2.out.cell (p := ⟨g, m * 3 + 2, none⟩) hgs).trans a2
    go_wp2_with (first | (at_builtin; go_loud (refine wpList_app1 w2 rfl (.tmp 42) (.tmp 51) 48 26 _ 3 32 rfl Try.underlying26 info_en rfl (by decide) w.heap.size _ _ _ (by rfl) HO2.out [.string k, .int .i64 x, .int .i64 (e0.h : Nat)] rfl (fun u hu => en_one [⟨k, x, e0.h⟩] u (by simpa [enC] using hu)) _ rfl (by simp) (by rw [List.length_take]; have := HL.out; omega) (by rw [List.length_take]; have := HL.out; omega) HB2.out.size ?_); intro v3 w3 ho3 hb3 _; refine Hid.out ?_))
    have HO3 : Hid (OwnE w3 w.heap.size v3 (S.take m ++ [⟨k, x, e0.h⟩])) := by
      show World.ownsRow _ _ _ _ _ _ _
      rw [List.length_append, List.flatMap_append]
      simpa [enC] using ho3
    have HB3 : Hid (Below w.heap.size w w3) := HB2.out.trans hb3
    obtain ⟨p3, c3, hv3, -⟩ := owns_len HO3.out
    have hl3 : (S.take m ++ [(⟨k, x, e0.h⟩ : En)]).length = m + 1 := by rw [List.length_append, List.length_take]; have := HLe.out; simp; omega
    rw [hl3] at hv3
    subst hv3
    clear ho3 hb3 hl3 HO2 HB2
    unfold Hid
    by_cases hcm : c = m + 1
    · have hnm : n = m + 1 := by omega
      have HD : Hid (S.drop (m + 1) = []) := by
        have : S.drop (m + 1) = [] := List.drop_eq_nil_of_le (by rw [HN.out]; omega)
        exact this
      clear hcap hle
      have hcm2 := hcm.symm
      have hnm2 := hnm.symm
      clear hcm hnm
      subst hcm2
      subst hnm2
      go_wp2_with (first | (at_builtin; go_loud (refine wpList_appE w3 rfl (.tmp 53) (.tmp 57) rfl w.heap.size _ _ (S.take m ++ [(⟨k, x, e0.h⟩ : En)]) [] rfl HO3.out rfl (by first | exact src_none _ _ _ _ | simpa using src_none w3 g 0 0) (by simp only [List.length_append, List.length_take, List.length_singleton, List.length_nil]; have := HL.out; have := HLe.out; omega) HB3.out.size ?_); intro v4 w4 ho4 hb4; refine Hid.out ?_))
      have HO4 : Hid (OwnE w4 w.heap.size v4 ((S.take m ++ [(⟨k, x, e0.h⟩ : En)]) ++ S.drop (m + 1)) ∧ Below w.heap.size w w4) := ⟨by rw [HD.out]; exact ho4, HB3.out.trans hb4⟩
      obtain ⟨p4, l4, c4, hv4⟩ : ∃ p4 l4 c4, v4 = .slice p4 l4 c4 := by
        obtain ⟨p4, c4, h9, -⟩ := owns_len HO4.out.1
        exact ⟨p4, _, c4, h9⟩
      subst hv4
      clear ho4 hb4
      unfold Hid
      go_wp2_with fail
      (try simp only [Exit.inBlock, Exit.then])
      refine bodyPost_ret (v := .tuple #[.slice p4 l4 c4, .int .i64 e0.v, .bool true, .int .i64 0]) (by simp [results, Try.results25, go_sem]; try rfl) rfl ?_
      exact ⟨_, by rw [HW.out]; rfl, by rw [HP.out]; exact HO4.out.1, HO4.out.2⟩
    · have HSr : Hid (SrcV w3 (.slice (some ⟨g, (m + 1) * 3, none⟩) (n - (m + 1)) (c - (m + 1))) (S.drop (m + 1))) := by
        have h9 := src_drop (owns_kept HO.out HB3.out) (m := m + 1) (by have := HN.out; omega)
        rw [if_neg hcm, Option.map_some, show (⟨g, 0, none⟩ : Addr).add ((m + 1) * 3) = ⟨g, (m + 1) * 3, none⟩ by unfold Addr.add; split <;> simp_all] at h9
        exact h9
      go_wp2_with (first | (at_builtin; go_loud (refine wpList_appE w3 rfl (.tmp 53) (.tmp 57) rfl w.heap.size _ _ (S.take m ++ [(⟨k, x, e0.h⟩ : En)]) (S.drop (m + 1)) rfl HO3.out rfl (by exact HSr.out) (by rw [List.length_drop]; simp only [List.length_append, List.length_take, List.length_singleton]; have := HL.out; have := HLe.out; omega) HB3.out.size ?_); intro v4 w4 ho4 hb4; refine Hid.out ?_))
      have HO4 : Hid (OwnE w4 w.heap.size v4 ((S.take m ++ [(⟨k, x, e0.h⟩ : En)]) ++ S.drop (m + 1)) ∧ Below w.heap.size w w4) := ⟨ho4, HB3.out.trans hb4⟩
      obtain ⟨p4, l4, c4, hv4⟩ : ∃ p4 l4 c4, v4 = .slice p4 l4 c4 := by
        obtain ⟨p4, c4, h9, -⟩ := owns_len HO4.out.1
        exact ⟨p4, _, c4, h9⟩
      subst hv4
      clear ho4 hb4
      unfold Hid
      go_wp2_with fail
      (try simp only [Exit.inBlock, Exit.then])
      refine bodyPost_ret (v := .tuple #[.slice p4 l4 c4, .int .i64 e0.v, .bool true, .int .i64 0]) (by simp [results, Try.results25, go_sem]; try rfl) rfl ?_
      exact ⟨_, by rw [HW.out]; rfl, by rw [HP.out]; exact HO4.out.1, HO4.out.2⟩

set_option maxHeartbeats 8000000 in
theorem rdel_any (S : List En) (B : Nat) (v : Value) (k : ByteArray) (w : World) (hO : OwnE w B v S) (hl : S.length < 4000000000000) :
    Calls Try.prog 26 #[v, .string k] w fun e w' => ∃ v', e = .returned (.tuple #[v', .int .i64 (wasV S k), .bool (getE S k).isSome]) ∧ (∃ C, OwnE w' C v' (delE S k)) ∧ Below w.heap.size w w' := by
  obtain ⟨p, c, rfl, hR⟩ := own_rd hO
  have C1 : Hid (Calls _ _ _ _ _) := rfind_any S p c k w hR hl
  have C2 : Hid (Calls _ _ _ _ _) := rget_any S p c k w hR hl
  have HO : Hid (OwnE w B (.slice p S.length c) S) := hO
  obtain ⟨-, hcap, -⟩ := ownE_cells hO
  have hle := fnd_le S k
  cases hg : getE S k with
  | none =>
    have HP : Hid (delE S k = S) := delE_none hg
    have HW : Hid (wasV S k = 0) := by show wasV S k = 0; unfold wasV; rw [hg]
    rw [hg] at C2
    clear hg hO hR
    go_enter Try.func26, Try.ntmps26
    go_wp2_with fail
    refine C2.out.mono ?_
    rintro e w9 ⟨rfl, hw9⟩
    rw [hw9]
    clear hw9 C2
    go_wp2_with fail
    go_ret3
    exact ⟨_, by rw [HW.out]; rfl, ⟨B, by rw [HP.out]; exact HO.out⟩, Below.refl _ _⟩
  | some e0 =>
    have HP : Hid (delE S k = S.take (fnd S k) ++ S.drop (fnd S k + 1)) := delE_some hg
    have HW : Hid (wasV S k = e0.v) := by show wasV S k = e0.v; unfold wasV; rw [hg]
    obtain ⟨hfl, hfe⟩ := getE_lt hg
    obtain ⟨g, rfl, hgs, -, -, -⟩ := hR _ hfl
    rw [hg] at C2
    obtain ⟨m, hm⟩ : ∃ m, fnd S k = m := ⟨_, rfl⟩
    rw [hm] at HP C1 hle hfl
    clear hm hg hO hR hfe
    have HL : Hid (S.length < 4000000000000) := hl
    have HLe : Hid (m ≤ S.length) := hle
    obtain ⟨n, hn⟩ : ∃ n, S.length = n := ⟨_, rfl⟩
    have HN : Hid (S.length = n) := hn
    rw [hn] at C1 C2 HO hl hle hcap ⊢
    rw [hn] at hfl
    clear hn
    go_enter Try.func26, Try.ntmps26
    go_wp2_with fail
    refine C2.out.mono ?_
    rintro e w9 ⟨rfl, hw9⟩
    rw [hw9]
    clear hw9 C2
    go_wp2_with fail
    refine C1.out.mono ?_
    rintro e w9 ⟨rfl, hw9⟩
    rw [hw9]
    clear hw9 C1
    go_wp2_with (first | (at_builtin; go_loud (refine wpList_appE w rfl (.tmp 23) (.tmp 26) rfl w.heap.size _ _ [] (S.take m) rfl (World.ownsRow_nil _ _ _ _) rfl (src_take HO.out HLe.out) (by rw [List.length_take]; have := HL.out; have := HLe.out; simp; omega) (Nat.le_refl _) ?_); intro v2 w2 ho2 hb2; refine Hid.out ?_))
    rw [List.nil_append] at ho2
    have HO2 : Hid (OwnE w2 w.heap.size v2 (S.take m)) := ho2
    have HB2 : Hid (Below w.heap.size w w2) := hb2
    obtain ⟨p2, c2, hv2, -⟩ := owns_len ho2
    have hl2 : (S.take m).length = m := by rw [List.length_take]; have := HLe.out; omega
    rw [hl2] at hv2
    subst hv2
    clear ho2 hb2 hl2
    unfold Hid
    by_cases hcm : c = m + 1
    · have hnm : n = m + 1 := by omega
      have HD : Hid (S.drop (m + 1) = []) := by
        have : S.drop (m + 1) = [] := List.drop_eq_nil_of_le (by rw [HN.out]; omega)
        exact this
      clear hcap hle
      have hcm2 := hcm.symm
      have hnm2 := hnm.symm
      clear hcm hnm
      subst hcm2
      subst hnm2
      go_wp2_with (first | (at_builtin; go_loud (refine wpList_appE w2 rfl (.tmp 28) (.tmp 32) rfl w.heap.size _ _ (S.take m) [] rfl HO2.out rfl (by first | exact src_none _ _ _ _ | simpa using src_none w2 g 0 0) (by simp only [List.length_take, List.length_nil]; have := HL.out; have := HLe.out; omega) HB2.out.size ?_); intro v4 w4 ho4 hb4; refine Hid.out ?_))
      have HO4 : Hid (OwnE w4 w.heap.size v4 ((S.take m) ++ S.drop (m + 1)) ∧ Below w.heap.size w w4) := ⟨by rw [HD.out]; exact ho4, HB2.out.trans hb4⟩
      obtain ⟨p4, l4, c4, hv4⟩ : ∃ p4 l4 c4, v4 = .slice p4 l4 c4 := by
        obtain ⟨p4, c4, h9, -⟩ := owns_len HO4.out.1
        exact ⟨p4, _, c4, h9⟩
      subst hv4
      clear ho4 hb4
      unfold Hid
      go_wp2_with fail
      go_ret3
      exact ⟨_, by rw [HW.out]; rfl, ⟨_, by rw [HP.out]; exact HO4.out.1⟩, HO4.out.2⟩
    · have HSr : Hid (SrcV w2 (.slice (some ⟨g, (m + 1) * 3, none⟩) (n - (m + 1)) (c - (m + 1))) (S.drop (m + 1))) := by
        have h9 := src_drop (owns_kept HO.out HB2.out) (m := m + 1) (by have := HN.out; omega)
        rw [if_neg hcm, Option.map_some, show (⟨g, 0, none⟩ : Addr).add ((m + 1) * 3) = ⟨g, (m + 1) * 3, none⟩ by unfold Addr.add; split <;> simp_all] at h9
        exact h9
      go_wp2_with (first | (at_builtin; go_loud (refine wpList_appE w2 rfl (.tmp 28) (.tmp 32) rfl w.heap.size _ _ (S.take m) (S.drop (m + 1)) rfl HO2.out rfl (by exact HSr.out) (by rw [List.length_drop]; simp only [List.length_take]; have := HL.out; have := HLe.out; omega) HB2.out.size ?_); intro v4 w4 ho4 hb4; refine Hid.out ?_))
      have HO4 : Hid (OwnE w4 w.heap.size v4 ((S.take m) ++ S.drop (m + 1)) ∧ Below w.heap.size w w4) := ⟨ho4, HB2.out.trans hb4⟩
      obtain ⟨p4, l4, c4, hv4⟩ : ∃ p4 l4 c4, v4 = .slice p4 l4 c4 := by
        obtain ⟨p4, c4, h9, -⟩ := owns_len HO4.out.1
        exact ⟨p4, _, c4, h9⟩
      subst hv4
      clear ho4 hb4
      unfold Hid
      go_wp2_with fail
      go_ret3
      exact ⟨_, by rw [HW.out]; rfl, ⟨_, by rw [HP.out]; exact HO4.out.1⟩, HO4.out.2⟩

end Go.Proofs.Ytojfohpnfciajaa

namespace Go.Proofs.Ytojfohpnfciajaa
open Go.RowKit
set_option maxRecDepth 100000

set_option maxHeartbeats 8000000 in
theorem rseek_any (S : List En) (p : Option Addr) (c : Nat) (k : ByteArray) (back : Bool) (w : World) (hR : RdE w p S) (hl : S.length < 4000000000000) :
    Calls Try.prog 31 #[.slice p S.length c, .string k, .bool back] w fun e w' => e = .returned (.tuple #[.agg #[.string (keyO (seekE S k back)), .int .i64 (valO (seekE S k back)), .int .i64 (hgtO (seekE S k back))], .bool (seekE S k back).isSome]) ∧ Below w.heap.size w w' := by
  obtain ⟨aX, aB, aS⟩ := blk_new w #[.string ⟨#[]⟩, .int .i64 0, .int .i64 0] 48
  have C1 : Hid (Calls _ _ _ _ _) := rfind_any S p c k (w.alloc (.cells #[.string ⟨#[]⟩, .int .i64 0, .int .i64 0] 48)) (hR.on aB) hl
  have HR : Hid (RdE (w.alloc (.cells #[.string ⟨#[]⟩, .int .i64 0, .int .i64 0] 48)) p S) := hR.on aB
  have HZ : Hid (Blk (w.alloc (.cells #[.string ⟨#[]⟩, .int .i64 0, .int .i64 0] 48)) w.heap.size #[.string ⟨#[]⟩, .int .i64 0, .int .i64 0] 48) := aX
  have HB : Hid (Below w.heap.size w (w.alloc (.cells #[.string ⟨#[]⟩, .int .i64 0, .int .i64 0] 48))) := aB
  clear hR aX aB aS
  go_enter Try.func31, Try.ntmps31
  go_wp2_with fail
  generalize (w.alloc (.cells #[.string ⟨#[]⟩, .int .i64 0, .int .i64 0] 48)) = w1 at *
  refine C1.out.mono ?_
  rintro e w9 ⟨rfl, hw9⟩
  rw [hw9]
  clear hw9 C1
  have x0 := Blk.cell (i := 0) HZ.out rfl
  have x1 := Blk.cell (i := 1) HZ.out rfl
  have x2 := Blk.cell (i := 2) HZ.out rfl
  have y0 := Blk.frozen HZ.out 0
  have y1 := Blk.frozen HZ.out 1
  have y2 := Blk.frozen HZ.out 2
  have hle := fnd_le S k
  obtain ⟨m, hm⟩ : ∃ m, fnd S k = m := ⟨_, rfl⟩
  have HM : Hid (fnd S k = m) := hm
  rw [hm] at hle ⊢
  cases back with
  | false =>
    rcases Nat.lt_or_eq_of_le hle with hlt | heq
    · obtain ⟨ga, rfl, -, a0, a1, a2⟩ := HR.out m hlt
      have HG : Hid (seekE S k false = some S[m]) := by
        unfold seekE
        rw [if_pos rfl, HM.out, List.getElem?_eq_getElem hlt]
        rfl
      generalize S[m] = e0 at *
      clear hm
      have hr10 := ((HZ.out.set 0 (.string e0.k)).set 1 (.int .i64 e0.v)).set 2 (.int .i64 (e0.h : Nat))
      have q0 := Blk.cell (i := 0) hr10 rfl
      have q1 := Blk.cell (i := 1) hr10 rfl
      have q2 := Blk.cell (i := 2) hr10 rfl
      have HK : Hid (Below w.heap.size w (((w1.setCell ⟨w.heap.size, 0, none⟩ (.string e0.k)).setCell ⟨w.heap.size, 1, none⟩ (.int .i64 e0.v)).setCell ⟨w.heap.size, 2, none⟩ (.int .i64 (e0.h : Nat)))) := below_set (below_set (below_set HB.out (Nat.le_refl _) 0 _) (Nat.le_refl _) 1 _) (Nat.le_refl _) 2 _
      clear hr10
      go_wp2_with fail
      refine bodyPost_ret (v := .tuple #[.agg #[.string e0.k, .int .i64 e0.v, .int .i64 (e0.h : Nat)], .bool true]) (by simp [results, Try.results31, go_sem, q0, q1, q2]) rfl ?_
      exact ⟨by rw [HG.out]; rfl, HK.out⟩
    · have HG : Hid (seekE S k false = none) := by
        unfold seekE
        rw [if_pos rfl, HM.out, List.getElem?_eq_none (by omega)]
        rfl
      subst heq
      clear hm
      have hr10 := ((HZ.out.set 0 (.string ⟨#[]⟩)).set 1 (.int .i64 0)).set 2 (.int .i64 0)
      have q0 := Blk.cell (i := 0) hr10 rfl
      have q1 := Blk.cell (i := 1) hr10 rfl
      have q2 := Blk.cell (i := 2) hr10 rfl
      have HK : Hid (Below w.heap.size w (((w1.setCell ⟨w.heap.size, 0, none⟩ (.string ⟨#[]⟩)).setCell ⟨w.heap.size, 1, none⟩ (.int .i64 0)).setCell ⟨w.heap.size, 2, none⟩ (.int .i64 0))) := below_set (below_set (below_set HB.out (Nat.le_refl _) 0 _) (Nat.le_refl _) 1 _) (Nat.le_refl _) 2 _
      clear hr10
      go_wp2_with fail
      refine bodyPost_ret (v := .tuple #[.agg #[.string ⟨#[]⟩, .int .i64 0, .int .i64 0], .bool false]) (by simp [results, Try.results31, go_sem, q0, q1, q2]) rfl ?_
      exact ⟨by rw [HG.out]; rfl, HK.out⟩
  | true =>
    have back_no : getE S k = none → m = 0 → Hid (seekE S k true = none) := by
      intro h1 h2
      have h3 : seekE S k true = none := by
        unfold seekE
        rw [if_neg (by decide), h1, HM.out]
        exact if_pos h2
      exact h3
    have back_yes : getE S k = none → ∀ t, m = t + 1 → Hid (seekE S k true = S[t]?) := by
      intro h1 t h2
      have h3 : seekE S k true = S[t]? := by
        unfold seekE
        rw [if_neg (by decide), h1, HM.out, h2]
        exact if_neg (Nat.succ_ne_zero t)
      exact h3
    have HBn : Hid (getE S k = none → m = 0 → Hid (seekE S k true = none)) := back_no
    have HBy : Hid (getE S k = none → ∀ t, m = t + 1 → Hid (seekE S k true = S[t]?)) := back_yes
    clear back_no back_yes
    rcases Nat.lt_or_eq_of_le hle with hlt | heq
    · obtain ⟨ga, rfl, -, a0, a1, a2⟩ := HR.out m hlt
      by_cases he : S[m].k = k
      · have HG : Hid (seekE S k true = some S[m]) := by
          have hg : getE S k = some S[m] := by
            unfold getE
            rw [HM.out, List.getElem?_eq_getElem hlt]
            exact if_pos he
          have h3 : seekE S k true = some S[m] := by
            unfold seekE
            rw [if_neg (by decide), hg]
          exact h3
        have g2 : (S[m].k.toList == k.toList) = true := by rw [he]; simp
        generalize S[m] = e0 at *
        clear hm he
        have hr10 := ((HZ.out.set 0 (.string e0.k)).set 1 (.int .i64 e0.v)).set 2 (.int .i64 (e0.h : Nat))
        have q0 := Blk.cell (i := 0) hr10 rfl
        have q1 := Blk.cell (i := 1) hr10 rfl
        have q2 := Blk.cell (i := 2) hr10 rfl
        have HK : Hid (Below w.heap.size w (((w1.setCell ⟨w.heap.size, 0, none⟩ (.string e0.k)).setCell ⟨w.heap.size, 1, none⟩ (.int .i64 e0.v)).setCell ⟨w.heap.size, 2, none⟩ (.int .i64 (e0.h : Nat)))) := below_set (below_set (below_set HB.out (Nat.le_refl _) 0 _) (Nat.le_refl _) 1 _) (Nat.le_refl _) 2 _
        clear hr10
        go_wp2_with fail
        refine bodyPost_ret (v := .tuple #[.agg #[.string e0.k, .int .i64 e0.v, .int .i64 (e0.h : Nat)], .bool true]) (by simp [results, Try.results31, go_sem, q0, q1, q2]) rfl ?_
        exact ⟨by rw [HG.out]; rfl, HK.out⟩
      · have hg : getE S k = none := by
          unfold getE
          rw [HM.out, List.getElem?_eq_getElem hlt]
          exact if_neg he
        have g2 : (S[m].k.toList == k.toList) = false := by
          cases hc : (S[m].k.toList == k.toList) with
          | false => rfl
          | true =>
            have e := eq_of_beq hc
            rw [ByteArray.toList_eq, ByteArray.toList_eq] at e
            exact absurd (ByteArray.ext (Array.toList_inj.1 e)) he
        by_cases h0 : m = 0
        · have HG := HBn.out hg h0
          clear hg hm he
          subst h0
          have hr10 := ((HZ.out.set 0 (.string ⟨#[]⟩)).set 1 (.int .i64 0)).set 2 (.int .i64 0)
          have q0 := Blk.cell (i := 0) hr10 rfl
          have q1 := Blk.cell (i := 1) hr10 rfl
          have q2 := Blk.cell (i := 2) hr10 rfl
          have HK : Hid (Below w.heap.size w (((w1.setCell ⟨w.heap.size, 0, none⟩ (.string ⟨#[]⟩)).setCell ⟨w.heap.size, 1, none⟩ (.int .i64 0)).setCell ⟨w.heap.size, 2, none⟩ (.int .i64 0))) := below_set (below_set (below_set HB.out (Nat.le_refl _) 0 _) (Nat.le_refl _) 1 _) (Nat.le_refl _) 2 _
          clear hr10
          go_wp2_with fail
          refine bodyPost_ret (v := .tuple #[.agg #[.string ⟨#[]⟩, .int .i64 0, .int .i64 0], .bool false]) (by simp [results, Try.results31, go_sem, q0, q1, q2]) rfl ?_
          exact ⟨by rw [HG.out]; rfl, HK.out⟩
        · obtain ⟨t, ht⟩ : ∃ t, m = t + 1 := ⟨m - 1, by omega⟩
          have htl : t < S.length := by omega
          have HG := HBy.out hg t ht
          rw [List.getElem?_eq_getElem htl] at HG
          obtain ⟨gc, ec, -, c0, c1, c2⟩ := HR.out t htl
          cases ec
          have e2 : IntKind.i64.wrap ((m : Int) - 1) = (t : Int) := by
            rw [show (m : Int) - 1 = (t : Int) by omega]
            exact wrap64_nat (by omega)
          have hms : ¬ m = S.length := by omega
          clear hg hm he ht h0
          generalize S[t] = e1 at *
          have hr10 := ((HZ.out.set 0 (.string e1.k)).set 1 (.int .i64 e1.v)).set 2 (.int .i64 (e1.h : Nat))
          have q0 := Blk.cell (i := 0) hr10 rfl
          have q1 := Blk.cell (i := 1) hr10 rfl
          have q2 := Blk.cell (i := 2) hr10 rfl
          have HK : Hid (Below w.heap.size w (((w1.setCell ⟨w.heap.size, 0, none⟩ (.string e1.k)).setCell ⟨w.heap.size, 1, none⟩ (.int .i64 e1.v)).setCell ⟨w.heap.size, 2, none⟩ (.int .i64 (e1.h : Nat)))) := below_set (below_set (below_set HB.out (Nat.le_refl _) 0 _) (Nat.le_refl _) 1 _) (Nat.le_refl _) 2 _
          clear hr10
          go_wp2_with fail
          refine bodyPost_ret (v := .tuple #[.agg #[.string e1.k, .int .i64 e1.v, .int .i64 (e1.h : Nat)], .bool true]) (by simp [results, Try.results31, go_sem, q0, q1, q2]) rfl ?_
          exact ⟨by rw [HG.out]; rfl, HK.out⟩
    · have hg : getE S k = none := by
        unfold getE
        rw [HM.out, List.getElem?_eq_none (by omega)]
      by_cases h0 : m = 0
      · have HG := HBn.out hg h0
        have hS0 : S.length = 0 := by omega
        clear hg hm
        subst h0
        rw [hS0]
        clear heq hS0 hle
        have hr10 := ((HZ.out.set 0 (.string ⟨#[]⟩)).set 1 (.int .i64 0)).set 2 (.int .i64 0)
        have q0 := Blk.cell (i := 0) hr10 rfl
        have q1 := Blk.cell (i := 1) hr10 rfl
        have q2 := Blk.cell (i := 2) hr10 rfl
        have HK : Hid (Below w.heap.size w (((w1.setCell ⟨w.heap.size, 0, none⟩ (.string ⟨#[]⟩)).setCell ⟨w.heap.size, 1, none⟩ (.int .i64 0)).setCell ⟨w.heap.size, 2, none⟩ (.int .i64 0))) := below_set (below_set (below_set HB.out (Nat.le_refl _) 0 _) (Nat.le_refl _) 1 _) (Nat.le_refl _) 2 _
        clear hr10
        go_wp2_with fail
        refine bodyPost_ret (v := .tuple #[.agg #[.string ⟨#[]⟩, .int .i64 0, .int .i64 0], .bool false]) (by simp [results, Try.results31, go_sem, q0, q1, q2]) rfl ?_
        exact ⟨by rw [HG.out]; rfl, HK.out⟩
      · obtain ⟨t, ht⟩ : ∃ t, m = t + 1 := ⟨m - 1, by omega⟩
        have htl : t < S.length := by omega
        have HG := HBy.out hg t ht
        rw [List.getElem?_eq_getElem htl] at HG
        obtain ⟨gc, rfl, -, c0, c1, c2⟩ := HR.out t htl
        have e2 : IntKind.i64.wrap ((S.length : Int) - 1) = (t : Int) := by
          rw [show (S.length : Int) - 1 = (t : Int) by omega]
          exact wrap64_nat (by omega)
        rw [heq]
        clear hg hm h0 heq ht hle
        generalize S[t] = e1 at *
        have hr10 := ((HZ.out.set 0 (.string e1.k)).set 1 (.int .i64 e1.v)).set 2 (.int .i64 (e1.h : Nat))
        have q0 := Blk.cell (i := 0) hr10 rfl
        have q1 := Blk.cell (i := 1) hr10 rfl
        have q2 := Blk.cell (i := 2) hr10 rfl
        have HK : Hid (Below w.heap.size w (((w1.setCell ⟨w.heap.size, 0, none⟩ (.string e1.k)).setCell ⟨w.heap.size, 1, none⟩ (.int .i64 e1.v)).setCell ⟨w.heap.size, 2, none⟩ (.int .i64 (e1.h : Nat)))) := below_set (below_set (below_set HB.out (Nat.le_refl _) 0 _) (Nat.le_refl _) 1 _) (Nat.le_refl _) 2 _
        clear hr10
        go_wp2_with fail
        refine bodyPost_ret (v := .tuple #[.agg #[.string e1.k, .int .i64 e1.v, .int .i64 (e1.h : Nat)], .bool true]) (by simp [results, Try.results31, go_sem, q0, q1, q2]) rfl ?_
        exact ⟨by rw [HG.out]; rfl, HK.out⟩

end Go.Proofs.Ytojfohpnfciajaa
