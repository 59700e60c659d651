/- The walk of the function that appends a value's code to a key. The walks of the document's answer for codes of values. -/
import Derived.Deep.RegionWith
import Derived.Deep.RegionLaw
import Derived.Test.YteadniomgbhecaaGreatDoorGWEnc
import Derived.Test.YteadniomgbhecaaGreatDoorGWEncS
import Derived.Test.YteadniomgbhecaaGreatDoorGWREnc
namespace Go.Proofs.YteadniomgbhecaaGreatDoor
open Go.RowKit
set_option maxRecDepth 100000

theorem wpList_app2 {ops : Array Oper} {rest : List Oper} {o : Oper} {a : Act} {Q : Exit → Act → World → Prop} (w : World) (hgd : o.guard = none) (s x : Operand)
    (ho : o.op = .call { callee := .builtin .append, args := #[s, x], argTypes := #[48, 48] })
    (B : Nat) (v : Value) (bs : List UInt8) (hs : a.eval s = v) (hown : OwnB w B v bs)
    (b c : UInt8) (y z : Int) (hy : y = (b.toNat : Int)) (hz : z = (c.toNat : Int)) (g : Nat) (hx : a.eval x = .slice (some ⟨g, 0, none⟩) 2 2) (hgz : g = w.heap.size)
    (hlen : bs.length + 2 ≤ 140737488355328) (hbase : B ≤ w.heap.size)
    (h : ∀ v' w', OwnB w' B v' (bs ++ [b, c]) → Keep5 B w w' → wpList Tryz.prog ops Q rest (a.put o.dst v') w') : wpList Tryz.prog ops Q (o :: rest) a (w.alloc (.cells #[.int .u8 y, .int .u8 z] 5)) := by
  subst hy hz hgz
  refine wpList_app _ hgd s x ho B v bs hs (hown.kept ((Below.refl _ _).alloc (Nat.le_refl _) _)) ⟨w.heap.size, 0, none⟩ 2 2 [b, c] hx rfl ?_ (by simpa using hlen) (by simp; omega) fun v' w' h1 h2 => h v' w' h1 ((Keep5.alloc w _ hbase).trans h2)
  intro j hj
  have : j = 0 ∨ j = 1 := by simp at hj; omega
  rcases this with rfl | rfl <;> simp [Addr.add]

theorem wpList_app1g {ops : Array Oper} {rest : List Oper} {o : Oper} {a : Act} {Q : Exit → Act → World → Prop} (w : World) (hgd : o.guard = none) (s x : Operand)
    (ho : o.op = .call { callee := .builtin .append, args := #[s, x], argTypes := #[48, 48] })
    (B : Nat) (v : Value) (bs : List UInt8) (hs : a.eval s = v) (hown : OwnB w B v bs)
    (b : UInt8) (z : Int) (hz : z = (b.toNat : Int)) (g : Nat) (hx : a.eval x = .slice (some ⟨g, 0, none⟩) 1 1) (hgz : g = w.heap.size)
    (hlen : bs.length + 1 ≤ 140737488355328) (hbase : B ≤ w.heap.size)
    (h : ∀ v' w', OwnB w' B v' (bs ++ [b]) → Keep5 B w w' → wpList Tryz.prog ops Q rest (a.put o.dst v') w') : wpList Tryz.prog ops Q (o :: rest) a (w.alloc (.cells #[.int .u8 z] 5)) := by
  subst hgz
  exact wpList_app1 w hgd s x ho B v bs hs hown b z hz hx hlen hbase h

theorem step_app1 {ops : Array Oper} {o : Oper} {a : Act} {K : Act → World → Prop} {Q : Exit → Act → World → Prop} {E : Prop} (w : World) (hgd : o.guard = none) (s x : Operand)
    (ho : o.op = .call { callee := .builtin .append, args := #[s, x], argTypes := #[48, 48] })
    (B : Nat) (v : Value) (bs : List UInt8) (hs : a.eval s = v) (hown : OwnB w B v bs)
    (b : UInt8) (z : Int) (hz : z = (b.toNat : Int)) (g : Nat) (hx : a.eval x = .slice (some ⟨g, 0, none⟩) 1 1) (hgz : g = w.heap.size)
    (hlen : bs.length + 1 ≤ 140737488355328) (hbase : B ≤ w.heap.size)
    (h : ∀ v' w', OwnB w' B v' (bs ++ [b]) → Keep5 B w w' → K (a.put o.dst v') w') : if Region.wanted o (yielded ops a.tmps) = true then Oper.wp Tryz.prog o a (w.alloc (.cells #[.int .u8 z] 5)).drew K Q else E := by
  have hw : Region.wanted o (yielded ops a.tmps) = true := by simp [Region.wanted, hgd]
  rw [if_pos hw]
  subst hz hgz
  obtain ⟨i, hi, hz0, hz1, hz2⟩ := info_parts info_u8
  have hown' : OwnB (w.alloc (.cells #[.int .u8 (b.toNat : Int)] 5)).drew B v bs := hown.kept ((Below.refl _ _).alloc (Nat.le_refl _) _).drew
  refine wp_append_own _ s x 48 ho B 5 i (.int .u8 0) 1 1 Tryz.underlying48 hi hz0 hz1 hz2 rfl (by decide) v bs.length (bcells bs) hs hown' ⟨w.heap.size, 0, none⟩ 1 1 (bcells [b]) hx rfl ?_ ?_ (by unfold maxLen; omega) (by omega) (by simp; omega) ?_
  · intro j u hj
    have hj' : j = 0 := by
      have := (List.getElem?_eq_some_iff.1 hj).1
      simp [bcells] at this; exact this
    subst hj'
    simp [bcells] at hj
    subst hj
    simp [Addr.add]
  · intro u hu
    simp [bcells] at hu
    subst hu
    rfl
  · intro v' w' h1 h2 _
    refine h v' w' ?_ ((Keep5.alloc w _ hbase).drew.trans (keep_grown hown' (by simp; omega) h2))
    unfold OwnB
    rw [bcells_append, List.length_append]
    exact h1
/-- a box keeps its cells -/
theorem box_keep {B : Nat} {w w' : World} {g : Nat} {c : Array Value} {t : TypeId} (ht : t ≠ 5) (h : Keep5 B w w') (hg : w.heap[g]? = some (.cells c t (0, 0))) : w'.heap[g]? = some (.cells c t (0, 0)) := by
  rw [h.other g _ hg (by intro c' fr e; simp at e; exact ht e.2.1)]; exact hg
theorem box_cell {w : World} {g : Nat} {c : Array Value} {t : TypeId} (hg : w.heap[g]? = some (.cells c t (0, 0))) (j : Nat) : w.cell? ⟨g, j, none⟩ = c[j]? := by simp [World.cell?, hg]

set_option maxHeartbeats 1000000 in
theorem appendValue_0 (B : Nat) (v : Value) (bs : List UInt8) (n : Int) (f : Nat) (s : ByteArray) (w : World) (hB : B ≤ w.heap.size) (ho : OwnB w B v bs) (hl : bs.length ≤ 1099511627774) :
    Calls Tryz.prog 21 #[v, .agg #[.int .i64 0, .int .i64 n, .float .f64 f, .string s]] w fun e w' => ∃ v', e = .returned v' ∧ OwnB w' B v' (bs ++ [1]) ∧ Keep5 B w w' := by
  have K1 : Hid (Keep5 B w (w.alloc (.cells #[.int .i64 0, .int .i64 n, .float .f64 f, .string s] 45))) := Keep5.alloc _ _ hB
  have A1 : Hid (OwnB (w.alloc (.cells #[.int .i64 0, .int .i64 n, .float .f64 f, .string s] 45)) B v bs) := ho.kept ((Below.refl _ _).alloc (Nat.le_refl _) _)
  clear ho
  go_enter Tryz.func21, Tryz.ntmps21
  go_wp2_with (first | (at_builtin; refine wpList_app1g _ rfl _ _ rfl B _ _ rfl A1.out 1 _ ?zz1 _ rfl ?gg1 ?ll1 ?bb1 ?_))
  case zz1 => rfl
  case gg1 => simp
  case ll1 => omega
  case bb1 => simp; omega
  intro v1 w1 h1 h2
  go_wp2
  go_ret
  exact ⟨_, rfl, h1, K1.out.trans h2⟩

set_option maxHeartbeats 1000000 in
theorem appendValue_1 (B : Nat) (v : Value) (bs : List UInt8) (n : Nat) (f : Nat) (s : ByteArray) (w : World) (hB : B ≤ w.heap.size) (ho : OwnB w B v bs) (hl : bs.length ≤ 1099511627774) (hn : n < 2) :
    Calls Tryz.prog 21 #[v, .agg #[.int .i64 1, .int .i64 n, .float .f64 f, .string s]] w fun e w' => ∃ v', e = .returned v' ∧ OwnB w' B v' (bs ++ [2, UInt8.ofNat n]) ∧ Keep5 B w w' := by
  have K1 : Hid (Keep5 B w (w.alloc (.cells #[.int .i64 1, .int .i64 n, .float .f64 f, .string s] 45))) := Keep5.alloc _ _ hB
  have A1 : Hid (OwnB (w.alloc (.cells #[.int .i64 1, .int .i64 n, .float .f64 f, .string s] 45)) B v bs) := ho.kept ((Below.refl _ _).alloc (Nat.le_refl _) _)
  obtain ⟨b, hb⟩ : ∃ b, b = UInt8.ofNat n := ⟨_, rfl⟩
  have HB : Hid (b = _) := hb
  rw [← hb]
  clear ho hb
  go_enter Tryz.func21, Tryz.ntmps21
  go_wp2_with (first | (at_builtin; refine wpList_app2 _ rfl _ _ rfl B _ _ rfl A1.out 2 b _ _ ?yy1 ?zz1 _ rfl ?gg1 ?ll1 ?bb1 ?_))
  case yy1 => rfl
  case zz1 => rw [HB.out, ofNat_toNat8]; omega
  case gg1 => simp
  case ll1 => omega
  case bb1 => simp; omega
  intro v1 w1 h1 h2
  go_wp2
  go_ret
  exact ⟨_, rfl, h1, K1.out.trans h2⟩

set_option maxHeartbeats 2000000 in
theorem appendValue_2 (B : Nat) (v : Value) (bs : List UInt8) (n : Int) (f : Nat) (s : ByteArray) (w : World) (hB : B ≤ w.heap.size) (ho : OwnB w B v bs) (hl : bs.length ≤ 1099511627774) (hn1 : -9223372036854775808 ≤ n) (hn2 : n ≤ 9223372036854775807) :
    Calls Tryz.prog 21 #[v, .agg #[.int .i64 2, .int .i64 n, .float .f64 f, .string s]] w fun e w' => ∃ v', e = .returned v' ∧ OwnB w' B v' (bs ++ 3 :: wholeC n) ∧ Keep5 B w w' := by
  have K1 : Hid (Keep5 B w (w.alloc (.cells #[.int .i64 2, .int .i64 n, .float .f64 f, .string s] 45))) := Keep5.alloc _ _ hB
  have A1 : Hid (OwnB (w.alloc (.cells #[.int .i64 2, .int .i64 n, .float .f64 f, .string s] 45)) B v bs) := ho.kept ((Below.refl _ _).alloc (Nat.le_refl _) _)
  clear ho
  go_enter Tryz.func21, Tryz.ntmps21
  have hbx : (w.alloc (.cells #[.int .i64 2, .int .i64 n, .float .f64 f, .string s] 45)).heap[w.heap.size]? = some (.cells #[.int .i64 2, .int .i64 n, .float .f64 f, .string s] 45 (0, 0)) := heap_alloc_new _ _
  have HBX : Hid (_ = _) := hbx
  clear hbx
  go_wp2_with fail
  go_region_law (first | (go_simp; go_at_call 39; refine (appendInt_any B v1 _ n w1 (by omega) h1 hn1 hn2 (by simp; omega)).mono ?_; rintro e w2 ⟨v2, rfl, h3, h4⟩) | (refine step_app1 _ rfl (.tmp 17) (.tmp 18) rfl B v bs (by simp [Act.eval]) A1.out 3 _ rfl _ (by simp [Act.eval]; rfl) (by simp) (by omega) (by simp; omega) ?_; intro v1 w1 h1 h2; have hz1 := h2.below.size; simp at hz1; have hc1 := box_cell (box_keep (by decide) h2 HBX.out)))
  all_goals (try go_wp2)
  all_goals go_ret
  all_goals exact ⟨v2, rfl, by simpa using h3, K1.out.trans (h2.trans h4)⟩

set_option maxHeartbeats 2000000 in
theorem appendValue_3 (B : Nat) (v : Value) (bs : List UInt8) (n : Int) (f : Nat) (s : ByteArray) (w : World) (hB : B ≤ w.heap.size) (ho : OwnB w B v bs) (hl : bs.length ≤ 1099511627774) (hf : f < 18446744073709551616) :
    Calls Tryz.prog 21 #[v, .agg #[.int .i64 3, .int .i64 n, .float .f64 f, .string s]] w fun e w' => ∃ v', e = .returned v' ∧ OwnB w' B v' (bs ++ 4 :: realC f) ∧ Keep5 B w w' := by
  have K1 : Hid (Keep5 B w (w.alloc (.cells #[.int .i64 3, .int .i64 n, .float .f64 f, .string s] 45))) := Keep5.alloc _ _ hB
  have A1 : Hid (OwnB (w.alloc (.cells #[.int .i64 3, .int .i64 n, .float .f64 f, .string s] 45)) B v bs) := ho.kept ((Below.refl _ _).alloc (Nat.le_refl _) _)
  clear ho
  go_enter Tryz.func21, Tryz.ntmps21
  have hbx : (w.alloc (.cells #[.int .i64 3, .int .i64 n, .float .f64 f, .string s] 45)).heap[w.heap.size]? = some (.cells #[.int .i64 3, .int .i64 n, .float .f64 f, .string s] 45 (0, 0)) := heap_alloc_new _ _
  have HBX : Hid (_ = _) := hbx
  clear hbx
  go_wp2_with fail
  go_region_law (first | (go_simp; go_at_call 40; refine (appendFloat_any B v1 _ n f s w1 (by omega) h1 hf (by simp; omega)).mono ?_; rintro e w2 ⟨v2, rfl, h3, h4⟩) | (refine step_app1 _ rfl (.tmp 25) (.tmp 26) rfl B v bs (by simp [Act.eval]) A1.out 4 _ rfl _ (by simp [Act.eval]; rfl) (by simp) (by omega) (by simp; omega) ?_; intro v1 w1 h1 h2; have hz1 := h2.below.size; simp at hz1; have hc1 := box_cell (box_keep (by decide) h2 HBX.out)))
  all_goals (try go_wp2)
  all_goals go_ret
  all_goals exact ⟨v2, rfl, by simpa using h3, K1.out.trans (h2.trans h4)⟩

set_option maxHeartbeats 2000000 in
theorem appendValue_4 (B : Nat) (v : Value) (bs : List UInt8) (n : Int) (f : Nat) (s : ByteArray) (w : World) (hB : B ≤ w.heap.size) (ho : OwnB w B v bs) (hl : bs.length ≤ 1099511627774) (hs : s.size ≤ 65536) :
    Calls Tryz.prog 21 #[v, .agg #[.int .i64 4, .int .i64 n, .float .f64 f, .string s]] w fun e w' => ∃ v', e = .returned v' ∧ OwnB w' B v' (bs ++ 5 :: ended s.data.toList) ∧ Keep5 B w w' := by
  have K1 : Hid (Keep5 B w (w.alloc (.cells #[.int .i64 4, .int .i64 n, .float .f64 f, .string s] 45))) := Keep5.alloc _ _ hB
  have A1 : Hid (OwnB (w.alloc (.cells #[.int .i64 4, .int .i64 n, .float .f64 f, .string s] 45)) B v bs) := ho.kept ((Below.refl _ _).alloc (Nat.le_refl _) _)
  clear ho
  go_enter Tryz.func21, Tryz.ntmps21
  have hbx : (w.alloc (.cells #[.int .i64 4, .int .i64 n, .float .f64 f, .string s] 45)).heap[w.heap.size]? = some (.cells #[.int .i64 4, .int .i64 n, .float .f64 f, .string s] 45 (0, 0)) := heap_alloc_new _ _
  have HBX : Hid (_ = _) := hbx
  clear hbx
  go_wp2_with fail
  go_region_law (first | (go_simp; go_at_call 41; refine (appendString_any B v1 _ s w1 (by omega) h1 hs (by simp; omega)).mono ?_; rintro e w2 ⟨v2, rfl, h3, h4⟩) | (refine step_app1 _ rfl (.tmp 32) (.tmp 33) rfl B v bs (by simp [Act.eval]) A1.out 5 _ rfl _ (by simp [Act.eval]; rfl) (by simp) (by omega) (by simp; omega) ?_; intro v1 w1 h1 h2; have hz1 := h2.below.size; simp at hz1; have hc1 := box_cell (box_keep (by decide) h2 HBX.out)))
  all_goals (try go_wp2)
  all_goals go_ret
  all_goals exact ⟨v2, rfl, by simpa using h3, K1.out.trans (h2.trans h4)⟩

set_option maxHeartbeats 2000000 in
theorem appendValue_5 (B : Nat) (v : Value) (bs : List UInt8) (n : Int) (f : Nat) (s : ByteArray) (w : World) (hB : B ≤ w.heap.size) (ho : OwnB w B v bs) (hl : bs.length ≤ 1099511627774) (hs : s.size ≤ 65536) :
    Calls Tryz.prog 21 #[v, .agg #[.int .i64 5, .int .i64 n, .float .f64 f, .string s]] w fun e w' => ∃ v', e = .returned v' ∧ OwnB w' B v' (bs ++ 6 :: ended s.data.toList) ∧ Keep5 B w w' := by
  have K1 : Hid (Keep5 B w (w.alloc (.cells #[.int .i64 5, .int .i64 n, .float .f64 f, .string s] 45))) := Keep5.alloc _ _ hB
  have A1 : Hid (OwnB (w.alloc (.cells #[.int .i64 5, .int .i64 n, .float .f64 f, .string s] 45)) B v bs) := ho.kept ((Below.refl _ _).alloc (Nat.le_refl _) _)
  clear ho
  go_enter Tryz.func21, Tryz.ntmps21
  have hbx : (w.alloc (.cells #[.int .i64 5, .int .i64 n, .float .f64 f, .string s] 45)).heap[w.heap.size]? = some (.cells #[.int .i64 5, .int .i64 n, .float .f64 f, .string s] 45 (0, 0)) := heap_alloc_new _ _
  have HBX : Hid (_ = _) := hbx
  clear hbx
  go_wp2_with fail
  go_region_law (first | (go_simp; go_at_call 41; refine (appendString_any B v1 _ s w1 (by omega) h1 hs (by simp; omega)).mono ?_; rintro e w2 ⟨v2, rfl, h3, h4⟩) | (refine step_app1 _ rfl (.tmp 40) (.tmp 41) rfl B v bs (by simp [Act.eval]) A1.out 6 _ rfl _ (by simp [Act.eval]; rfl) (by simp) (by omega) (by simp; omega) ?_; intro v1 w1 h1 h2; have hz1 := h2.below.size; simp at hz1; have hc1 := box_cell (box_keep (by decide) h2 HBX.out)))
  all_goals (try go_wp2)
  all_goals go_ret
  all_goals exact ⟨v2, rfl, by simpa using h3, K1.out.trans (h2.trans h4)⟩

/-- a value, as the program holds it -/
theorem cappendValue_any (B : Nat) (key : Value) (bs : List UInt8) (v : Vl) (w : World) (hB : B ≤ w.heap.size) (ho : OwnB w B key bs) (hl : bs.length ≤ 1099511627774) (hv : v.ok) (hc : v.chk = 0) :
    Calls Tryz.prog 21 #[key, v.val] w fun e w' => ∃ v', e = .returned v' ∧ OwnB w' B v' (bs ++ v.code) ∧ Keep5 B w w' := by
  obtain ⟨h0, h5, h1⟩ := chk_kind hc
  have hs := chk_size hc
  obtain ⟨k, n, f, s⟩ := v
  obtain ⟨_, ⟨n1, n2⟩, hf, _⟩ := hv
  dsimp only at *
  have h6 : k = 0 ∨ k = 1 ∨ k = 2 ∨ k = 3 ∨ k = 4 ∨ k = 5 := by omega
  rcases h6 with rfl | rfl | rfl | rfl | rfl | rfl
  · exact appendValue_0 B key bs n f s w hB ho hl
  · obtain ⟨m, rfl⟩ : ∃ m : Nat, n = (m : Int) := ⟨n.toNat, by have := h1 rfl; omega⟩
    exact appendValue_1 B key bs m f s w hB ho hl (by have := h1 rfl; omega)
  · exact appendValue_2 B key bs n f s w hB ho hl n1 n2
  · exact appendValue_3 B key bs n f s w hB ho hl hf
  · exact appendValue_4 B key bs n f s w hB ho hl hs
  · exact appendValue_5 B key bs n f s w hB ho hl hs

end Go.Proofs.YteadniomgbhecaaGreatDoor

namespace Go.Proofs.YteadniomgbhecaaGreatDoor
open Go.RowKit Ieee
set_option maxRecDepth 100000

/-- 'append(key, src...)', src owned too -/
theorem wpList_appO {ops : Array Oper} {rest : List Oper} {o : Oper} {a : Act} {Q : Exit → Act → World → Prop} (w : World) (hgd : o.guard = none) (s x : Operand)
    (ho : o.op = .call { callee := .builtin .append, args := #[s, x], argTypes := #[48, 48] })
    (B : Nat) (v : Value) (bs : List UInt8) (hs : a.eval s = v) (hown : OwnB w B v bs) (C : Nat) (v2 : Value) (news : List UInt8) (hx : a.eval x = v2) (hsrc : OwnB w C v2 news)
    (hlen : bs.length + news.length ≤ 140737488355328) (hbase : B ≤ w.heap.size)
    (h : ∀ v' w', OwnB w' B v' (bs ++ news) → Keep5 B w w' → wpList Tryz.prog ops Q rest (a.put o.dst v') w') : wpList Tryz.prog ops Q (o :: rest) a w := by
  rcases hsrc.shape with ⟨rfl, rfl⟩ | ⟨g, cap, rfl, _, _, hc⟩
  · obtain ⟨i, hi, hz0, hz1, hz2⟩ := info_parts info_u8
    refine wpList_append_own_none hgd s x 48 ho B 5 i 1 Tryz.underlying48 hi v bs.length (bcells bs) hs hown hx (h v w ?_ (Keep5.refl _ _))
    simpa using hown
  · refine wpList_app w hgd s x ho B v bs hs hown ⟨g, 0, none⟩ news.length cap news hx rfl ?_ hlen hbase h
    intro j hj
    have e : (⟨g, 0, none⟩ : Addr).add j = ⟨g, j, none⟩ := by unfold Addr.add; split <;> simp_all
    rw [e]; exact hc j hj

theorem own_lit1 (w : World) (B : Nat) (b : UInt8) (hB : B ≤ w.heap.size) : OwnB (w.alloc (.cells #[.int .u8 (b.toNat : Int)] 5)) B (.slice (some ⟨w.heap.size, 0, none⟩) 1 1) [b] := by
  have := World.ownsRow_lit (base := B) (e := 5) (size := 1) w #[.int .u8 (b.toNat : Int)] 1 hB (by unfold maxLen; omega) rfl
  exact this

set_option maxHeartbeats 1000000 in
theorem big_any (n k : Nat) (w : World) (hk : k ≤ 8) (_hn : n < 18446744073709551616) :
    Calls Tryz.prog 70 #[.int .u64 (n : Int), .int .i64 (k : Int)] w fun e w' => ∃ v', e = .returned v' ∧ OwnB w' w.heap.size v' (hiB n k) ∧ Below w.heap.size w w' := by
  go_enter Tryz.func70, Tryz.ntmps70
  go_wp2_with fail
  go_loopw [5, 6] (fun v' i wr => ∃ j : Nat, j ≤ k ∧ i = .int .i64 ((j : Int) - 1) ∧ OwnB wr w.heap.size v' ((hiB n k).take (k - j)) ∧ Keep5 w.heap.size w wr) (fun _ i _ => (intOf i + 1).toNat)
  case atStart => exact ⟨k, Nat.le_refl _, by go_num, by simpa using OwnB.nil _ _, Keep5.refl _ _⟩
  case round =>
    obtain ⟨j, hj, rfl, hown, hkp⟩ := hrel
    have hz := hkp.below.size
    have HO : Hid (OwnB _ w.heap.size _ _ ∧ Keep5 w.heap.size w _) := ⟨hown, hkp⟩
    clear hown hkp
    by_cases hj0 : j = 0
    · subst hj0
      go_wp2
      go_ret
      have h1 := HO.out.1
      rw [hiB_take_all] at h1
      exact ⟨_, rfl, h1, HO.out.2.below⟩
    · obtain ⟨i, rfl⟩ : ∃ i, j = i + 1 := ⟨j - 1, by omega⟩
      go_wp2_with (at_builtin; refine wpList_app1 _ rfl _ _ rfl w.heap.size _ _ rfl HO.out.1 (UInt8.ofNat (n / 256 ^ i)) _ ?zz rfl ?ll ?bb ?_)
      case zz => exact byte_shr n i
      case ll => have := take_len n k (k - (i + 1)) hk; omega
      case bb => omega
      intro v' w1 h1 h2
      have R : Hid (OwnB w1 w.heap.size v' ((hiB n k).take (k - i)) ∧ Keep5 w.heap.size w w1) := ⟨by rw [hiB_take n k i (by omega)]; exact h1, HO.out.2.trans h2⟩
      clear h1 h2
      go_wp2
      go_roundw
      case rel => exact ⟨i, by omega, by go_num, R.out.1, R.out.2⟩
      case measure => simp [intOf]

theorem sz_step {n : Nat} (h0 : n ≠ 0) (hn : n < 18446744073709551616) : sz n = 1 + sz (n / 256) := by
  have h1 : 1 ≤ sz n := by
    rcases Nat.eq_zero_or_pos (sz n) with h | h
    · have := sz_lt hn
      rw [h] at this
      simp at this
      exact absurd this h0
    · exact h
  apply Nat.le_antisymm
  · apply sz_least
    have h2 := sz_lt (m := n / 256) (by omega)
    rw [Nat.add_comm, Nat.pow_succ]
    generalize 256 ^ sz (n / 256) = q at *
    omega
  · have h2 : sz (n / 256) ≤ sz n - 1 := by
      apply sz_least
      have h3 := sz_lt hn
      have e : sz n = (sz n - 1) + 1 := by omega
      rw [e, Nat.pow_succ] at h3
      generalize 256 ^ (sz n - 1) = q at *
      omega
    omega

set_option maxHeartbeats 1000000 in
theorem size_any (n : Nat) (w : World) (hn : n < 18446744073709551616) :
    Calls Tryz.prog 69 #[.int .u64 (n : Int)] w fun e w' => e = .returned (.int .i64 (sz n : Nat)) ∧ w' = w := by
  go_enter Tryz.func69, Tryz.ntmps69
  go_wp2_with fail
  go_loopw [0, 3] (fun x i wr => ∃ m j : Nat, m < 18446744073709551616 ∧ x = .int .u64 (m : Int) ∧ i = .int .i64 (j : Int) ∧ sz n = j + sz m ∧ wr = w) (fun x _ _ => (intOf x).toNat)
  case atStart => exact ⟨n, 0, hn, by go_num, by go_num, by omega, rfl⟩
  case round =>
    obtain ⟨m, j, hm, rfl, rfl, hsz, rfl⟩ := hrel
    have h8 := sz_le n
    have HS : Hid (sz n = j + sz m) := hsz
    have hj8 : j ≤ 8 := by omega
    clear hsz h8
    by_cases hm0 : m = 0
    · subst hm0
      go_wp2
      go_ret
      have := HS.out
      have e0 : sz 0 = 0 := by decide
      exact ⟨ret_i64 (by omega), rfl⟩
    · have hpos : 0 < m := by omega
      have HS2 := sz_step hm0 hm
      have HS3 : Hid (sz n = (j + 1) + sz (m / 256)) := by have := HS.out; show _ = _; omega
      clear hm0 HS2
      go_wp2
      go_roundw
      case rel => exact ⟨m / 256, j + 1, by omega, by go_num, by go_num, HS3.out, by first | rfl | trivial⟩
      case measure => simp [intOf]; omega

theorem neg_i64 (m : Nat) (hm : m < 9223372036854775808) : IntKind.i64.wrap (-(IntKind.i64.wrap (-(m : Int) - 1 + 1))) = (m : Int) := by
  rw [IntKind.wrap_i64, IntKind.wrap_i64]
  omega

set_option maxHeartbeats 1000000 in
theorem whole_pos (m : Nat) (w : World) (hm : m < 9223372036854775808) :
    Calls Tryz.prog 48 #[.int .i64 (m : Int)] w fun e w' => ∃ v', e = .returned v' ∧ OwnB w' w.heap.size v' (wholeC (m : Int)) ∧ Below w.heap.size w w' := by
  have h8 := sz_le m
  obtain ⟨b, hb⟩ : ∃ b, b = UInt8.ofNat (128 + sz m) := ⟨_, rfl⟩
  have HB : Hid (b = _) := hb
  clear hb
  go_enter Tryz.func48, Tryz.ntmps48
  go_wp2_with (first | (go_at_call 69; refine (size_any _ _ (by omega)).mono ?_; rintro e w' ⟨rfl, hww⟩; obtain rfl := hww.symm) | (at_builtin; refine wpList_app1 _ rfl (.tmp 12) _ rfl w.heap.size _ _ rfl (OwnB.nil _ _) b _ ?zz rfl ?ll ?bb ?_))
  case zz => rw [HB.out, ofNat_toNat8]; omega
  case ll => simp
  case bb => exact Nat.le_refl _
  intro v1 w1 h1 h2
  have hz := h2.below.size
  have HO1 : Hid (OwnB w1 _ v1 ([] ++ [b]) ∧ Keep5 _ _ w1) := ⟨h1, h2⟩
  clear h1 h2
  go_wp2_with (first | (go_at_call 70; refine (big_any m (sz m) w1 h8 (by omega)).mono ?_; rintro e w2 ⟨v2, rfl, h3, h4⟩) | (at_builtin; refine wpList_appO _ rfl (.tmp 18) _ rfl _ _ _ rfl (HO1.out.1.kept h4) _ _ _ rfl h3 ?ll2 ?bb2 ?_))
  case ll2 => simp [hiB_len]; omega
  case bb2 => have := h4.size; omega
  intro v3 w3 h5 h6
  go_wp2
  go_ret
  refine ⟨_, rfl, ?_, HO1.out.2.below.trans ((h4.mono hz).trans h6.below)⟩
  rw [wholeC_pos, ← HB.out]
  simpa using h5

set_option maxHeartbeats 2000000 in
theorem whole_neg (m : Nat) (w : World) (hm : m < 9223372036854775808) :
    Calls Tryz.prog 48 #[.int .i64 (-(m : Int) - 1)] w fun e w' => ∃ v', e = .returned v' ∧ OwnB w' w.heap.size v' (wholeC (-(m : Int) - 1)) ∧ Below w.heap.size w w' := by
  have h8 := sz_le m
  obtain ⟨b, hb⟩ : ∃ b, b = UInt8.ofNat (128 - max (sz m) 1) := ⟨_, rfl⟩
  have HB : Hid (b = _) := hb
  have HN : Hid (_ = _) := not_u64 m (by omega) IntKind.u64.max (by decide)
  have hneg : -(m : Int) - 1 < 0 := by omega
  clear hb
  by_cases hs0 : sz m = 0
  · have HS : Hid (sz m = 0) := hs0
    go_enter Tryz.func48, Tryz.ntmps48
    go_wp2_with (first | (go_at_call 69; refine (size_any m _ (by omega)).mono ?_; rintro e w' ⟨rfl, hww⟩; obtain rfl := hww.symm) | (at_builtin; refine wpList_app1 _ rfl (.tmp 32) _ rfl w.heap.size _ _ rfl (OwnB.nil _ _) b _ ?zz rfl ?ll ?bb ?_))
    case zz => rw [HB.out, ofNat_toNat8, HS.out]; rfl
    case ll => simp
    case bb => exact Nat.le_refl _
    intro v1 w1 h1 h2
    have hz := h2.below.size
    have HO1 : Hid (OwnB w1 _ v1 ([] ++ [b]) ∧ Keep5 _ _ w1) := ⟨h1, h2⟩
    clear h1 h2
    go_wp2_with fail
    rw [HN.out]
    refine (big_any (18446744073709551615 - m) 1 w1 (by decide) (by omega)).mono ?_
    rintro e w2 ⟨v2, rfl, h3, h4⟩
    go_wp2_with (first | (at_builtin; refine wpList_appO _ rfl (.tmp 38) _ rfl w.heap.size _ _ rfl (HO1.out.1.kept h4) _ _ _ rfl h3 ?ll2 ?bb2 ?_))
    case ll2 => simp [hiB_len]
    case bb2 => have := h4.size; omega
    intro v3 w3 h5 h6
    go_wp2
    go_ret
    refine ⟨_, rfl, ?_, HO1.out.2.below.trans ((h4.mono hz).trans h6.below)⟩
    rw [wholeC_neg, ← HB.out, HS.out]
    simpa using h5
  · have hs1 : max (sz m) 1 = sz m := by omega
    rw [hs1] at HB
    have HS : Hid (max (sz m) 1 = sz m) := hs1
    have hs2 : 0 < sz m := by omega
    clear hs1 hs0
    go_enter Tryz.func48, Tryz.ntmps48
    go_wp2_with (first | (go_at_call 69; refine (size_any m _ (by omega)).mono ?_; rintro e w' ⟨rfl, hww⟩; obtain rfl := hww.symm) | (at_builtin; refine wpList_app1 _ rfl (.tmp 32) _ rfl w.heap.size _ _ rfl (OwnB.nil _ _) b _ ?zz rfl ?ll ?bb ?_))
    case zz => rw [HB.out, ofNat_toNat8]; omega
    case ll => simp
    case bb => exact Nat.le_refl _
    intro v1 w1 h1 h2
    have hz := h2.below.size
    have HO1 : Hid (OwnB w1 _ v1 ([] ++ [b]) ∧ Keep5 _ _ w1) := ⟨h1, h2⟩
    clear h1 h2
    go_wp2_with fail
    rw [HN.out]
    refine (big_any (18446744073709551615 - m) (sz m) w1 h8 (by omega)).mono ?_
    rintro e w2 ⟨v2, rfl, h3, h4⟩
    go_wp2_with (first | (at_builtin; refine wpList_appO _ rfl (.tmp 38) _ rfl w.heap.size _ _ rfl (HO1.out.1.kept h4) _ _ _ rfl h3 ?ll2 ?bb2 ?_))
    case ll2 => simp [hiB_len]; omega
    case bb2 => have := h4.size; omega
    intro v3 w3 h5 h6
    go_wp2
    go_ret
    refine ⟨_, rfl, ?_, HO1.out.2.below.trans ((h4.mono hz).trans h6.below)⟩
    rw [wholeC_neg, HS.out, ← HB.out]
    simpa using h5

end Go.Proofs.YteadniomgbhecaaGreatDoor
