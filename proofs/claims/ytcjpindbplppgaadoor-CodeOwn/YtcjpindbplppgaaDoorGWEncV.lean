/- The walk of the function that appends a value's code to a key. The walks of value.Check and of what it calls. The walk of the document's answer for Check. -/
import Derived.Deep.RegionWith
import Derived.Deep.RegionLaw
import Derived.Test.YtcjpindbplppgaaDoorGWEnc
import Derived.Test.YtcjpindbplppgaaDoorGWVal
namespace Go.Proofs.YtcjpindbplppgaaDoor
open Go.RowKit
set_option maxRecDepth 100000

theorem wpList_app2 {ops : Array Oper} {rest : List Oper} {o : Oper} {a : Act} {Q : Exit → Act → World → Prop} (w : World) (hgd : o.guard = none) (s x : Operand)
    (ho : o.op = .call { callee := .builtin .append, args := #[s, x], argTypes := #[41, 41] })
    (B : Nat) (v : Value) (bs : List UInt8) (hs : a.eval s = v) (hown : OwnB w B v bs)
    (b c : UInt8) (y z : Int) (hy : y = (b.toNat : Int)) (hz : z = (c.toNat : Int)) (g : Nat) (hx : a.eval x = .slice (some ⟨g, 0, none⟩) 2 2) (hgz : g = w.heap.size)
    (hlen : bs.length + 2 ≤ 140737488355328) (hbase : B ≤ w.heap.size)
    (h : ∀ v' w', OwnB w' B v' (bs ++ [b, c]) → Keep5 B w w' → wpList Tryd.prog ops Q rest (a.put o.dst v') w') : wpList Tryd.prog ops Q (o :: rest) a (w.alloc (.cells #[.int .u8 y, .int .u8 z] 5)) := by
  subst hy hz hgz
  refine wpList_app _ hgd s x ho B v bs hs (hown.kept ((Below.refl _ _).alloc (Nat.le_refl _) _)) ⟨w.heap.size, 0, none⟩ 2 2 [b, c] hx rfl ?_ (by simpa using hlen) (by simp; omega) fun v' w' h1 h2 => h v' w' h1 ((Keep5.alloc w _ hbase).trans h2)
  intro j hj
  have : j = 0 ∨ j = 1 := by simp at hj; omega
  rcases this with rfl | rfl <;> simp [Addr.add]

theorem wpList_app1g {ops : Array Oper} {rest : List Oper} {o : Oper} {a : Act} {Q : Exit → Act → World → Prop} (w : World) (hgd : o.guard = none) (s x : Operand)
    (ho : o.op = .call { callee := .builtin .append, args := #[s, x], argTypes := #[41, 41] })
    (B : Nat) (v : Value) (bs : List UInt8) (hs : a.eval s = v) (hown : OwnB w B v bs)
    (b : UInt8) (z : Int) (hz : z = (b.toNat : Int)) (g : Nat) (hx : a.eval x = .slice (some ⟨g, 0, none⟩) 1 1) (hgz : g = w.heap.size)
    (hlen : bs.length + 1 ≤ 140737488355328) (hbase : B ≤ w.heap.size)
    (h : ∀ v' w', OwnB w' B v' (bs ++ [b]) → Keep5 B w w' → wpList Tryd.prog ops Q rest (a.put o.dst v') w') : wpList Tryd.prog ops Q (o :: rest) a (w.alloc (.cells #[.int .u8 z] 5)) := by
  subst hgz
  exact wpList_app1 w hgd s x ho B v bs hs hown b z hz hx hlen hbase h

theorem step_app1 {ops : Array Oper} {o : Oper} {a : Act} {K : Act → World → Prop} {Q : Exit → Act → World → Prop} {E : Prop} (w : World) (hgd : o.guard = none) (s x : Operand)
    (ho : o.op = .call { callee := .builtin .append, args := #[s, x], argTypes := #[41, 41] })
    (B : Nat) (v : Value) (bs : List UInt8) (hs : a.eval s = v) (hown : OwnB w B v bs)
    (b : UInt8) (z : Int) (hz : z = (b.toNat : Int)) (g : Nat) (hx : a.eval x = .slice (some ⟨g, 0, none⟩) 1 1) (hgz : g = w.heap.size)
    (hlen : bs.length + 1 ≤ 140737488355328) (hbase : B ≤ w.heap.size)
    (h : ∀ v' w', OwnB w' B v' (bs ++ [b]) → Keep5 B w w' → K (a.put o.dst v') w') : if Region.wanted o (yielded ops a.tmps) = true then Oper.wp Tryd.prog o a (w.alloc (.cells #[.int .u8 z] 5)).drew K Q else E := by
  have hw : Region.wanted o (yielded ops a.tmps) = true := by simp [Region.wanted, hgd]
  rw [if_pos hw]
  subst hz hgz
  obtain ⟨i, hi, hz0, hz1, hz2⟩ := info_parts info_u8
  have hown' : OwnB (w.alloc (.cells #[.int .u8 (b.toNat : Int)] 5)).drew B v bs := hown.kept ((Below.refl _ _).alloc (Nat.le_refl _) _).drew
  refine wp_append_own _ s x 41 ho B 5 i (.int .u8 0) 1 1 Tryd.underlying41 hi hz0 hz1 hz2 rfl (by decide) v bs.length (bcells bs) hs hown' ⟨w.heap.size, 0, none⟩ 1 1 (bcells [b]) hx rfl ?_ ?_ (by unfold maxLen; omega) (by omega) (by simp; omega) ?_
  · intro j u hj
    have hj' : j = 0 := by
      have := (List.getElem?_eq_some_iff.1 hj).1
      simp [bcells] at this; exact this
    subst hj'
    simp [bcells] at hj
    subst hj
    simp [Addr.add]
  · intro u hu
    simp [bcells] at hu
    subst hu
    rfl
  · intro v' w' h1 h2 _
    refine h v' w' ?_ ((Keep5.alloc w _ hbase).drew.trans (keep_grown hown' (by simp; omega) h2))
    unfold OwnB
    rw [bcells_append, List.length_append]
    exact h1
/-- a box keeps its cells -/
theorem box_keep {B : Nat} {w w' : World} {g : Nat} {c : Array Value} {t : TypeId} (ht : t ≠ 5) (h : Keep5 B w w') (hg : w.heap[g]? = some (.cells c t (0, 0))) : w'.heap[g]? = some (.cells c t (0, 0)) := by
  rw [h.other g _ hg (by intro c' fr e; simp at e; exact ht e.2.1)]; exact hg
theorem box_cell {w : World} {g : Nat} {c : Array Value} {t : TypeId} (hg : w.heap[g]? = some (.cells c t (0, 0))) (j : Nat) : w.cell? ⟨g, j, none⟩ = c[j]? := by simp [World.cell?, hg]

set_option maxHeartbeats 1000000 in
theorem appendValue_0 (B : Nat) (v : Value) (bs : List UInt8) (n : Int) (f : Nat) (s : ByteArray) (w : World) (hB : B ≤ w.heap.size) (ho : OwnB w B v bs) (hl : bs.length ≤ 1099511627774) :
    Calls Tryd.prog 12 #[v, .agg #[.int .i64 0, .int .i64 n, .float .f64 f, .string s]] w fun e w' => ∃ v', e = .returned v' ∧ OwnB w' B v' (bs ++ [1]) ∧ Keep5 B w w' := by
  have K1 : Hid (Keep5 B w (w.alloc (.cells #[.int .i64 0, .int .i64 n, .float .f64 f, .string s] 32))) := Keep5.alloc _ _ hB
  have A1 : Hid (OwnB (w.alloc (.cells #[.int .i64 0, .int .i64 n, .float .f64 f, .string s] 32)) B v bs) := ho.kept ((Below.refl _ _).alloc (Nat.le_refl _) _)
  clear ho
  go_enter Tryd.func12, Tryd.ntmps12
  go_wp2_with (first | (at_builtin; refine wpList_app1g _ rfl _ _ rfl B _ _ rfl A1.out 1 _ ?zz1 _ rfl ?gg1 ?ll1 ?bb1 ?_))
  case zz1 => rfl
  case gg1 => simp
  case ll1 => omega
  case bb1 => simp; omega
  intro v1 w1 h1 h2
  go_wp2
  go_ret
  exact ⟨_, rfl, h1, K1.out.trans h2⟩

set_option maxHeartbeats 1000000 in
theorem appendValue_1 (B : Nat) (v : Value) (bs : List UInt8) (n : Nat) (f : Nat) (s : ByteArray) (w : World) (hB : B ≤ w.heap.size) (ho : OwnB w B v bs) (hl : bs.length ≤ 1099511627774) (hn : n < 2) :
    Calls Tryd.prog 12 #[v, .agg #[.int .i64 1, .int .i64 n, .float .f64 f, .string s]] w fun e w' => ∃ v', e = .returned v' ∧ OwnB w' B v' (bs ++ [2, UInt8.ofNat n]) ∧ Keep5 B w w' := by
  have K1 : Hid (Keep5 B w (w.alloc (.cells #[.int .i64 1, .int .i64 n, .float .f64 f, .string s] 32))) := Keep5.alloc _ _ hB
  have A1 : Hid (OwnB (w.alloc (.cells #[.int .i64 1, .int .i64 n, .float .f64 f, .string s] 32)) B v bs) := ho.kept ((Below.refl _ _).alloc (Nat.le_refl _) _)
  obtain ⟨b, hb⟩ : ∃ b, b = UInt8.ofNat n := ⟨_, rfl⟩
  have HB : Hid (b = _) := hb
  rw [← hb]
  clear ho hb
  go_enter Tryd.func12, Tryd.ntmps12
  go_wp2_with (first | (at_builtin; refine wpList_app2 _ rfl _ _ rfl B _ _ rfl A1.out 2 b _ _ ?yy1 ?zz1 _ rfl ?gg1 ?ll1 ?bb1 ?_))
  case yy1 => rfl
  case zz1 => rw [HB.out, ofNat_toNat8]; omega
  case gg1 => simp
  case ll1 => omega
  case bb1 => simp; omega
  intro v1 w1 h1 h2
  go_wp2
  go_ret
  exact ⟨_, rfl, h1, K1.out.trans h2⟩

set_option maxHeartbeats 2000000 in
theorem appendValue_2 (B : Nat) (v : Value) (bs : List UInt8) (n : Int) (f : Nat) (s : ByteArray) (w : World) (hB : B ≤ w.heap.size) (ho : OwnB w B v bs) (hl : bs.length ≤ 1099511627774) (hn1 : -9223372036854775808 ≤ n) (hn2 : n ≤ 9223372036854775807) :
    Calls Tryd.prog 12 #[v, .agg #[.int .i64 2, .int .i64 n, .float .f64 f, .string s]] w fun e w' => ∃ v', e = .returned v' ∧ OwnB w' B v' (bs ++ 3 :: wholeC n) ∧ Keep5 B w w' := by
  have K1 : Hid (Keep5 B w (w.alloc (.cells #[.int .i64 2, .int .i64 n, .float .f64 f, .string s] 32))) := Keep5.alloc _ _ hB
  have A1 : Hid (OwnB (w.alloc (.cells #[.int .i64 2, .int .i64 n, .float .f64 f, .string s] 32)) B v bs) := ho.kept ((Below.refl _ _).alloc (Nat.le_refl _) _)
  clear ho
  go_enter Tryd.func12, Tryd.ntmps12
  have hbx : (w.alloc (.cells #[.int .i64 2, .int .i64 n, .float .f64 f, .string s] 32)).heap[w.heap.size]? = some (.cells #[.int .i64 2, .int .i64 n, .float .f64 f, .string s] 32 (0, 0)) := heap_alloc_new _ _
  have HBX : Hid (_ = _) := hbx
  clear hbx
  go_wp2_with fail
  go_region_law (first | (go_simp; go_at_call 23; refine (appendInt_any B v1 _ n w1 (by omega) h1 hn1 hn2 (by simp; omega)).mono ?_; rintro e w2 ⟨v2, rfl, h3, h4⟩) | (refine step_app1 _ rfl (.tmp 17) (.tmp 18) rfl B v bs (by simp [Act.eval]) A1.out 3 _ rfl _ (by simp [Act.eval]; rfl) (by simp) (by omega) (by simp; omega) ?_; intro v1 w1 h1 h2; have hz1 := h2.below.size; simp at hz1; have hc1 := box_cell (box_keep (by decide) h2 HBX.out)))
  all_goals (try go_wp2)
  all_goals go_ret
  all_goals exact ⟨v2, rfl, by simpa using h3, K1.out.trans (h2.trans h4)⟩

set_option maxHeartbeats 2000000 in
theorem appendValue_3 (B : Nat) (v : Value) (bs : List UInt8) (n : Int) (f : Nat) (s : ByteArray) (w : World) (hB : B ≤ w.heap.size) (ho : OwnB w B v bs) (hl : bs.length ≤ 1099511627774) (hf : f < 18446744073709551616) :
    Calls Tryd.prog 12 #[v, .agg #[.int .i64 3, .int .i64 n, .float .f64 f, .string s]] w fun e w' => ∃ v', e = .returned v' ∧ OwnB w' B v' (bs ++ 4 :: realC f) ∧ Keep5 B w w' := by
  have K1 : Hid (Keep5 B w (w.alloc (.cells #[.int .i64 3, .int .i64 n, .float .f64 f, .string s] 32))) := Keep5.alloc _ _ hB
  have A1 : Hid (OwnB (w.alloc (.cells #[.int .i64 3, .int .i64 n, .float .f64 f, .string s] 32)) B v bs) := ho.kept ((Below.refl _ _).alloc (Nat.le_refl _) _)
  clear ho
  go_enter Tryd.func12, Tryd.ntmps12
  have hbx : (w.alloc (.cells #[.int .i64 3, .int .i64 n, .float .f64 f, .string s] 32)).heap[w.heap.size]? = some (.cells #[.int .i64 3, .int .i64 n, .float .f64 f, .string s] 32 (0, 0)) := heap_alloc_new _ _
  have HBX : Hid (_ = _) := hbx
  clear hbx
  go_wp2_with fail
  go_region_law (first | (go_simp; go_at_call 24; refine (appendFloat_any B v1 _ n f s w1 (by omega) h1 hf (by simp; omega)).mono ?_; rintro e w2 ⟨v2, rfl, h3, h4⟩) | (refine step_app1 _ rfl (.tmp 25) (.tmp 26) rfl B v bs (by simp [Act.eval]) A1.out 4 _ rfl _ (by simp [Act.eval]; rfl) (by simp) (by omega) (by simp; omega) ?_; intro v1 w1 h1 h2; have hz1 := h2.below.size; simp at hz1; have hc1 := box_cell (box_keep (by decide) h2 HBX.out)))
  all_goals (try go_wp2)
  all_goals go_ret
  all_goals exact ⟨v2, rfl, by simpa using h3, K1.out.trans (h2.trans h4)⟩

set_option maxHeartbeats 2000000 in
theorem appendValue_4 (B : Nat) (v : Value) (bs : List UInt8) (n : Int) (f : Nat) (s : ByteArray) (w : World) (hB : B ≤ w.heap.size) (ho : OwnB w B v bs) (hl : bs.length ≤ 1099511627774) (hs : s.size ≤ 65536) :
    Calls Tryd.prog 12 #[v, .agg #[.int .i64 4, .int .i64 n, .float .f64 f, .string s]] w fun e w' => ∃ v', e = .returned v' ∧ OwnB w' B v' (bs ++ 5 :: ended s.data.toList) ∧ Keep5 B w w' := by
  have K1 : Hid (Keep5 B w (w.alloc (.cells #[.int .i64 4, .int .i64 n, .float .f64 f, .string s] 32))) := Keep5.alloc _ _ hB
  have A1 : Hid (OwnB (w.alloc (.cells #[.int .i64 4, .int .i64 n, .float .f64 f, .string s] 32)) B v bs) := ho.kept ((Below.refl _ _).alloc (Nat.le_refl _) _)
  clear ho
  go_enter Tryd.func12, Tryd.ntmps12
  have hbx : (w.alloc (.cells #[.int .i64 4, .int .i64 n, .float .f64 f, .string s] 32)).heap[w.heap.size]? = some (.cells #[.int .i64 4, .int .i64 n, .float .f64 f, .string s] 32 (0, 0)) := heap_alloc_new _ _
  have HBX : Hid (_ = _) := hbx
  clear hbx
  go_wp2_with fail
  go_region_law (first | (go_simp; go_at_call 25; refine (appendString_any B v1 _ s w1 (by omega) h1 hs (by simp; omega)).mono ?_; rintro e w2 ⟨v2, rfl, h3, h4⟩) | (refine step_app1 _ rfl (.tmp 32) (.tmp 33) rfl B v bs (by simp [Act.eval]) A1.out 5 _ rfl _ (by simp [Act.eval]; rfl) (by simp) (by omega) (by simp; omega) ?_; intro v1 w1 h1 h2; have hz1 := h2.below.size; simp at hz1; have hc1 := box_cell (box_keep (by decide) h2 HBX.out)))
  all_goals (try go_wp2)
  all_goals go_ret
  all_goals exact ⟨v2, rfl, by simpa using h3, K1.out.trans (h2.trans h4)⟩

set_option maxHeartbeats 2000000 in
theorem appendValue_5 (B : Nat) (v : Value) (bs : List UInt8) (n : Int) (f : Nat) (s : ByteArray) (w : World) (hB : B ≤ w.heap.size) (ho : OwnB w B v bs) (hl : bs.length ≤ 1099511627774) (hs : s.size ≤ 65536) :
    Calls Tryd.prog 12 #[v, .agg #[.int .i64 5, .int .i64 n, .float .f64 f, .string s]] w fun e w' => ∃ v', e = .returned v' ∧ OwnB w' B v' (bs ++ 6 :: ended s.data.toList) ∧ Keep5 B w w' := by
  have K1 : Hid (Keep5 B w (w.alloc (.cells #[.int .i64 5, .int .i64 n, .float .f64 f, .string s] 32))) := Keep5.alloc _ _ hB
  have A1 : Hid (OwnB (w.alloc (.cells #[.int .i64 5, .int .i64 n, .float .f64 f, .string s] 32)) B v bs) := ho.kept ((Below.refl _ _).alloc (Nat.le_refl _) _)
  clear ho
  go_enter Tryd.func12, Tryd.ntmps12
  have hbx : (w.alloc (.cells #[.int .i64 5, .int .i64 n, .float .f64 f, .string s] 32)).heap[w.heap.size]? = some (.cells #[.int .i64 5, .int .i64 n, .float .f64 f, .string s] 32 (0, 0)) := heap_alloc_new _ _
  have HBX : Hid (_ = _) := hbx
  clear hbx
  go_wp2_with fail
  go_region_law (first | (go_simp; go_at_call 25; refine (appendString_any B v1 _ s w1 (by omega) h1 hs (by simp; omega)).mono ?_; rintro e w2 ⟨v2, rfl, h3, h4⟩) | (refine step_app1 _ rfl (.tmp 40) (.tmp 41) rfl B v bs (by simp [Act.eval]) A1.out 6 _ rfl _ (by simp [Act.eval]; rfl) (by simp) (by omega) (by simp; omega) ?_; intro v1 w1 h1 h2; have hz1 := h2.below.size; simp at hz1; have hc1 := box_cell (box_keep (by decide) h2 HBX.out)))
  all_goals (try go_wp2)
  all_goals go_ret
  all_goals exact ⟨v2, rfl, by simpa using h3, K1.out.trans (h2.trans h4)⟩

/-- a value, as the program holds it -/
abbrev Vl.val (v : Vl) : Value := .agg #[.int .i64 v.k, .int .i64 v.n, .float .f64 v.f, .string v.s]
theorem chk_size {v : Vl} (h : v.chk = 0) : v.s.size ≤ 65536 := by
  unfold Vl.chk chkV at h
  split at h
  · split at h
    · simp at h
    · omega
  · simp at h

theorem appendValue_any (B : Nat) (key : Value) (bs : List UInt8) (v : Vl) (w : World) (hB : B ≤ w.heap.size) (ho : OwnB w B key bs) (hl : bs.length ≤ 1099511627774) (hv : v.ok) (hc : v.chk = 0) :
    Calls Tryd.prog 12 #[key, v.val] w fun e w' => ∃ v', e = .returned v' ∧ OwnB w' B v' (bs ++ v.code) ∧ Keep5 B w w' := by
  obtain ⟨h0, h5, h1⟩ := chk_kind hc
  have hs := chk_size hc
  obtain ⟨k, n, f, s⟩ := v
  obtain ⟨_, ⟨n1, n2⟩, hf, _⟩ := hv
  dsimp only at *
  have h6 : k = 0 ∨ k = 1 ∨ k = 2 ∨ k = 3 ∨ k = 4 ∨ k = 5 := by omega
  rcases h6 with rfl | rfl | rfl | rfl | rfl | rfl
  · exact appendValue_0 B key bs n f s w hB ho hl
  · obtain ⟨m, rfl⟩ : ∃ m : Nat, n = (m : Int) := ⟨n.toNat, by have := h1 rfl; omega⟩
    exact appendValue_1 B key bs m f s w hB ho hl (by have := h1 rfl; omega)
  · exact appendValue_2 B key bs n f s w hB ho hl n1 n2
  · exact appendValue_3 B key bs n f s w hB ho hl hf
  · exact appendValue_4 B key bs n f s w hB ho hl hs
  · exact appendValue_5 B key bs n f s w hB ho hl hs

end Go.Proofs.YtcjpindbplppgaaDoor

namespace Go.Proofs.YtcjpindbplppgaaDoor
open Go.RowKit Ieee
set_option maxRecDepth 100000

set_option maxHeartbeats 400000 in
theorem kind_any (k : Int) (w : World) :
    Calls Tryd.prog 19 #[.int .i64 k] w fun e w' => e = .returned (.bool (kindB k)) ∧ w' = w := by
  go_enter Tryd.func19, Tryd.ntmps19
  go_wp2
  all_goals go_ret
  all_goals (refine ⟨?_, rfl⟩)
  all_goals (first | (simp [kindB, *]; done) | (simp [kindB]; omega))

set_option maxHeartbeats 400000 in
theorem num_any (k n : Int) (f : Nat) (s : ByteArray) (w : World) :
    Calls Tryd.prog 20 #[.agg #[.int .i64 k, .int .i64 n, .float .f64 f, .string s]] w fun e w' => e = .returned (.bool (numB k n)) ∧ Below w.heap.size w w' := by
  go_enter Tryd.func20, Tryd.ntmps20
  go_wp2
  all_goals go_ret
  all_goals (refine ⟨?_, by go_grown⟩)
  all_goals (simp [numB, *])

set_option maxHeartbeats 400000 in
theorem flo_any (k n : Int) (f : Nat) (s : ByteArray) (w : World) :
    Calls Tryd.prog 21 #[.agg #[.int .i64 k, .int .i64 n, .float .f64 f, .string s]] w fun e w' => e = .returned (.bool (floB k f)) ∧ Below w.heap.size w w' := by
  go_enter Tryd.func21, Tryd.ntmps21
  go_wp2_with (first | (go_at_call 38; refine (sameBits_any _ _ _).mono ?_; rintro e w' ⟨rfl, rfl⟩))
  all_goals go_ret
  all_goals (refine ⟨?_, by go_grown⟩)
  all_goals (simp [floB, *])

/-- one value's box -/
abbrev C1 (b : Nat) (k n : Int) (f : Nat) (s : ByteArray) (w' : World) : Prop :=
  w'.cell? ⟨b, 0, none⟩ = some (.int .i64 k) ∧ w'.cell? ⟨b, 1, none⟩ = some (.int .i64 n) ∧ w'.cell? ⟨b, 2, none⟩ = some (.float .f64 f) ∧ w'.cell? ⟨b, 3, none⟩ = some (.string s)
theorem c1_keep {b : Nat} {k n : Int} {f : Nat} {s : ByteArray} {B : Nat} {wp w' : World} (hb : Below B wp w') (hB : b < B) (h : C1 b k n f s wp) : C1 b k n f s w' := by
  obtain ⟨h1, h2, h3, h4⟩ := h
  have o : ∀ {o : Nat} {v : Option Value}, wp.cell? ⟨b, o, none⟩ = v → w'.cell? ⟨b, o, none⟩ = v := fun {o v} hc => (hb.cell (p := ⟨b, o, none⟩) hB).trans hc
  exact ⟨o h1, o h2, o h3, o h4⟩
theorem c1_new (w : World) (k n : Int) (f : Nat) (s : ByteArray) : C1 w.heap.size k n f s (w.alloc (.cells #[.int .i64 k, .int .i64 n, .float .f64 f, .string s] 32)) := by
  refine ⟨?_, ?_, ?_, ?_⟩ <;> simp [go_sem]

set_option maxHeartbeats 1000000 in
theorem check_any (k n : Int) (f : Nat) (s : ByteArray) (w : World) (hs : s.size ≤ maxLen)
    (hv : ∀ w1 : World, Below w.heap.size w w1 → Calls Tryd.prog 22 #[.agg #[.int .i64 k, .int .i64 n, .float .f64 f, .string s]] w1 fun e w' => e = .returned (.bool (strB k s)) ∧ Below w1.heap.size w1 w') :
    Calls Tryd.prog 11 #[.agg #[.int .i64 k, .int .i64 n, .float .f64 f, .string s]] w fun e w' => e = .returned (.int .i64 (chkV k n f s)) ∧ Below w.heap.size w w' := by
  unfold maxLen at hs
  have HV : Hid (∀ w1 : World, Below w.heap.size w w1 → _) := hv
  clear hv
  cases h1 : kindB k
  · go_enter Tryd.func11, Tryd.ntmps11
    go_wp2_with (first | (go_at_call 19; refine (kind_any _ _).mono ?_; rintro e w' ⟨rfl, rfl⟩))
    go_ret
    exact ⟨by simp [chkV, h1], by go_grown⟩
  cases h2 : numB k n
  · go_enter Tryd.func11, Tryd.ntmps11
    go_wp2_with (first | (go_at_call 19; refine (kind_any _ _).mono ?_; rintro e w' ⟨rfl, rfl⟩))
    refine (num_any _ _ _ _ _).mono ?_
    rintro e w1 ⟨rfl, hb1⟩
    have hz1 := hb1.size
    simp at hz1
    go_wp2
    go_ret
    exact ⟨by simp [chkV, h2], Below.trans (by go_grown) (hb1.mono (by simp))⟩
  cases h3 : floB k f
  · go_enter Tryd.func11, Tryd.ntmps11
    go_wp2_with (first | (go_at_call 19; refine (kind_any _ _).mono ?_; rintro e w' ⟨rfl, rfl⟩))
    refine (num_any _ _ _ _ _).mono ?_
    rintro e w1 ⟨rfl, hb1⟩
    have hz1 := hb1.size
    simp at hz1
    have C := c1_keep hb1 (by simp) (c1_new w k n f s)
    obtain ⟨x1, x2, x3, x4⟩ := C
    go_wp2_with fail
    refine (flo_any _ _ _ _ _).mono ?_
    rintro e w2 ⟨rfl, hb2⟩
    have hz2 := hb2.size
    have B2 : Hid (Below w.heap.size w w2) := Below.trans (Below.trans (by go_grown) (hb1.mono (by simp))) (hb2.mono (by omega))
    go_wp2
    go_ret
    exact ⟨by simp [chkV, h3], B2.out⟩
  cases h4 : strB k s
  · go_enter Tryd.func11, Tryd.ntmps11
    go_wp2_with (first | (go_at_call 19; refine (kind_any _ _).mono ?_; rintro e w' ⟨rfl, rfl⟩))
    refine (num_any _ _ _ _ _).mono ?_
    rintro e w1 ⟨rfl, hb1⟩
    have hz1 := hb1.size
    simp at hz1
    have C := c1_keep hb1 (by simp) (c1_new w k n f s)
    obtain ⟨x1, x2, x3, x4⟩ := C
    go_wp2_with fail
    refine (flo_any _ _ _ _ _).mono ?_
    rintro e w2 ⟨rfl, hb2⟩
    have hz2 := hb2.size
    have B2 : Hid (Below w.heap.size w w2) := Below.trans (Below.trans (by go_grown) (hb1.mono (by simp))) (hb2.mono (by omega))
    obtain ⟨x1, x2, x3, x4⟩ := c1_keep hb2 (by omega) ⟨x1, x2, x3, x4⟩
    go_wp2_with fail
    refine (HV.out _ B2.out).mono ?_
    rintro e w3 ⟨rfl, hb3⟩
    have hz3 := hb3.size
    obtain ⟨x1, x2, x3, x4⟩ := c1_keep hb3 (by omega) ⟨x1, x2, x3, x4⟩
    have B3 : Hid (Below w.heap.size w w3) := B2.out.trans (hb3.mono (by omega))
    go_wp2
    go_ret
    exact ⟨by simp [chkV, h4], B3.out⟩
  by_cases h5 : (65536 : Int) < (s.size : Int)
  · go_enter Tryd.func11, Tryd.ntmps11
    go_wp2_with (first | (go_at_call 19; refine (kind_any _ _).mono ?_; rintro e w' ⟨rfl, rfl⟩))
    refine (num_any _ _ _ _ _).mono ?_
    rintro e w1 ⟨rfl, hb1⟩
    have hz1 := hb1.size
    simp at hz1
    have C := c1_keep hb1 (by simp) (c1_new w k n f s)
    obtain ⟨x1, x2, x3, x4⟩ := C
    go_wp2_with fail
    refine (flo_any _ _ _ _ _).mono ?_
    rintro e w2 ⟨rfl, hb2⟩
    have hz2 := hb2.size
    have B2 : Hid (Below w.heap.size w w2) := Below.trans (Below.trans (by go_grown) (hb1.mono (by simp))) (hb2.mono (by omega))
    obtain ⟨x1, x2, x3, x4⟩ := c1_keep hb2 (by omega) ⟨x1, x2, x3, x4⟩
    go_wp2_with fail
    refine (HV.out _ B2.out).mono ?_
    rintro e w3 ⟨rfl, hb3⟩
    have hz3 := hb3.size
    obtain ⟨x1, x2, x3, x4⟩ := c1_keep hb3 (by omega) ⟨x1, x2, x3, x4⟩
    have B3 : Hid (Below w.heap.size w w3) := B2.out.trans (hb3.mono (by omega))
    go_wp2
    go_ret
    exact ⟨by simp [chkV, h1, h2, h3, h4, h5], B3.out⟩
  · go_enter Tryd.func11, Tryd.ntmps11
    go_wp2_with (first | (go_at_call 19; refine (kind_any _ _).mono ?_; rintro e w' ⟨rfl, rfl⟩))
    refine (num_any _ _ _ _ _).mono ?_
    rintro e w1 ⟨rfl, hb1⟩
    have hz1 := hb1.size
    simp at hz1
    have C := c1_keep hb1 (by simp) (c1_new w k n f s)
    obtain ⟨x1, x2, x3, x4⟩ := C
    go_wp2_with fail
    refine (flo_any _ _ _ _ _).mono ?_
    rintro e w2 ⟨rfl, hb2⟩
    have hz2 := hb2.size
    have B2 : Hid (Below w.heap.size w w2) := Below.trans (Below.trans (by go_grown) (hb1.mono (by simp))) (hb2.mono (by omega))
    obtain ⟨x1, x2, x3, x4⟩ := c1_keep hb2 (by omega) ⟨x1, x2, x3, x4⟩
    go_wp2_with fail
    refine (HV.out _ B2.out).mono ?_
    rintro e w3 ⟨rfl, hb3⟩
    have hz3 := hb3.size
    obtain ⟨x1, x2, x3, x4⟩ := c1_keep hb3 (by omega) ⟨x1, x2, x3, x4⟩
    have B3 : Hid (Below w.heap.size w w3) := B2.out.trans (hb3.mono (by omega))
    go_wp2
    go_ret
    exact ⟨by simp [chkV, h1, h2, h3, h4, h5], B3.out⟩

end Go.Proofs.YtcjpindbplppgaaDoor

namespace Go.Proofs.YtcjpindbplppgaaDoor
open Go.RowKit Ieee
set_option maxRecDepth 100000















set_option maxHeartbeats 1000000 in
theorem str_any (k n : Int) (f : Nat) (s : ByteArray) (w : World)
    (hv : ∀ w1 : World, Below w.heap.size w w1 → Calls Tryd.prog 39 #[.string s] w1 fun e w' => e = .returned (.bool (Lib.validD s.data.toList)) ∧ Below w1.heap.size w1 w') :
    Calls Tryd.prog 22 #[.agg #[.int .i64 k, .int .i64 n, .float .f64 f, .string s]] w fun e w' => e = .returned (.bool (strB k s)) ∧ Below w.heap.size w w' := by
  have HV : Hid (∀ w1 : World, Below w.heap.size w w1 → _) := hv
  clear hv
  go_enter Tryd.func22, Tryd.ntmps22
  go_wp2_with (first | (go_at_call 39; refine (HV.out _ (by go_grown)).mono ?_; rintro e w' ⟨rfl, hb9⟩))
  all_goals go_ret
  all_goals (refine ⟨?_, by first | exact Below.trans (by go_grown) (hb9.mono (by simp)) | go_grown⟩)
  all_goals simp [strB, *]



end Go.Proofs.YtcjpindbplppgaaDoor
