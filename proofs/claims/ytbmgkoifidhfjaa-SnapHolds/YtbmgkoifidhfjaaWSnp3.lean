/- New; Least, Floor, Readers. -/
import Derived.Test.YtbmgkoifidhfjaaWSnp2
namespace Go.Proofs.Ytbmgkoifidhfjaa
open Go.RowKit
set_option maxRecDepth 100000

theorem run_call_storep {P : Program} {f : FuncId} {fn : Func} (hf : P.funcs[f]? = some fn) (hname : (fn.name == "runtime.NumGoroutine") = false) (hb : fn.body.isNone = true) (hn : Extern.findNext fn = none)
    (he : Extern.find fn = some Extern.Atomic.storeT) {a : Addr} {q : Option Addr} {u : Value} {w : World} (hc : w.cell? a = some u) (hz : w.frozen? a = false) :
    (callFunc f #[.pointer (some a), .pointer q]).run P w = .ok (.value (.tuple #[])) (w.setCell a (.pointer q)) := by
  rw [run_callFunc_extern hf hname hb hn he]
  change (Sem.run P (do
    store (← asAddr (.pointer (some a))) (.pointer q) .atomic
    pure Extern.Atomic.none_) w).andThen _ = _
  simp [asAddr, hc, hz, run_store P w a (.pointer q) .atomic rfl, Result.andThen, Extern.Atomic.none_]
theorem pstore_any (sb g2 : Nat) (u x2 y2 z2 : Value) (w : World) (h : w.cell? ⟨sb, 1, none⟩ = some u) (hf : w.frozen? ⟨sb, 1, none⟩ = false) (h4 : BoxT w g2 #[x2, y2, z2] 77) :
    Calls Try.prog 22 #[.pointer (some ⟨sb, 1, none⟩), ptr1 g2] w fun e w' => e = .returned (.tuple #[]) ∧ w' = w.setCell ⟨sb, 1, none⟩ (ptr1 g2) := by
  have hl := run_call_storep (P := Try.prog) Try.func39 (by kernel_rfl) (by kernel_rfl) (by kernel_rfl) (by kernel_rfl) (q := some ⟨g2, 0, none⟩) h hf
  have hd := to_st h4
  clear h h4 hf
  go_enter Try.func22, Try.ntmps22
  go_wp2
  refine bodyPost_end (results_none rfl _ _ _) rfl ?_
  exact ⟨rfl, rfl⟩
set_option maxHeartbeats 1000000 in
theorem floor_any (w : World) (sb fl : Nat) (R : List Rd) (h : Snp w sb fl R) :
    Calls Try.prog 17 #[ptr1 sb] w fun e w' => e = .returned (.int .u64 (fl : Nat)) ∧ w' = w := by
  obtain ⟨tb, at', v, _, h⟩ := h
  have C1 : Hid (Calls _ _ _ _ _) := given_any w sb tb at' fl v R h
  have C2 : Hid (Calls _ _ _ _ _) := pload_any sb tb _ _ _ w h.blk.cell h.sta
  have c1 : w.cell? ⟨tb, 1, none⟩ = some (.int .u64 (fl : Nat)) := h.sta.cell
  clear h
  go_enter Try.func17, Try.ntmps17
  go_wp2_with fail
  refine C1.out.mono ?_
  rintro e w2 ⟨rfl, rfl⟩
  go_wp2_with fail
  refine C2.out.mono ?_
  rintro e w2 ⟨rfl, rfl⟩
  go_wp2_with fail
  go_ret
  exact ⟨rfl, rfl⟩
set_option maxHeartbeats 1000000 in
theorem sleast_any (w : World) (sb fl : Nat) (R : List Rd) (h : Snp w sb fl R) :
    Calls Try.prog 23 #[ptr1 sb] w fun e w' => e = .returned (.tuple #[.int .u64 (lstR R : Nat), .bool (somR R)]) ∧ Below w.heap.size w w' := by
  obtain ⟨tb, at', v, _, h⟩ := h
  have C1 : Hid (Calls _ _ _ _ _) := given_any w sb tb at' fl v R h
  have C2 : Hid (Calls _ _ _ _ _) := pload_any sb tb _ _ _ w h.blk.cell h.sta
  have C3 : Hid (Calls _ _ _ _ _) := least_any at' fl 0 v R w h.rdr h.inv.len
  have c0 : w.cell? ⟨tb, 0, none⟩ = some (.int .u64 (at' : Nat)) := h.sta.cell
  have c1 : w.cell? ⟨tb, 1, none⟩ = some (.int .u64 (fl : Nat)) := h.sta.cell
  have c2 : w.cell? ⟨tb, 2, none⟩ = some v := h.sta.cell
  obtain ⟨p, c, rfl, -⟩ := h.rdr.rd
  clear h
  go_enter Try.func23, Try.ntmps23
  go_wp2_with fail
  refine C1.out.mono ?_
  rintro e w2 ⟨rfl, rfl⟩
  go_wp2_with fail
  refine C2.out.mono ?_
  rintro e w2 ⟨rfl, rfl⟩
  go_wp2_with fail
  refine C3.out.mono ?_
  rintro e w3 ⟨rfl, hb3⟩
  have HB3 : Hid (Below _ _ _) := hb3
  clear hb3 C1 C2 C3 c0 c1 c2
  go_wp2_with fail
  refine bodyPost_ret (results_tmp2 rfl _ _ _) rfl ?_
  exact ⟨rfl, HB3.out⟩
theorem info_rd : (Try.prog.info? 49).map (fun i => (i.zero, i.size, i.bytes)) = some (some (.agg #[.int .i64 0, .int .u64 0]), 2, 16) := by kernel_rfl
theorem rcell_one (R : List Rd) : ∀ y ∈ R.flatMap rcell, y.oneCell' = true := by
  intro y hy
  simp only [List.mem_flatMap, rcell] at hy
  obtain ⟨r, _, h⟩ := hy
  simp at h
  rcases h with rfl | rfl <;> rfl
theorem RdR.cells {w : World} {b o : Nat} {R : List Rd} (h : RdR w (some ⟨b, o, none⟩) R) : ∀ j y, (R.flatMap rcell)[j]? = some y → w.cell? ((⟨b, o, none⟩ : Addr).add j) = some y := by
  intro j y hj
  have hl : j < R.length * 2 := by have := (List.getElem?_eq_some_iff.1 hj).1; rw [rflat_len] at this; exact this
  have e : (⟨b, o, none⟩ : Addr).add j = ⟨b, o + j, none⟩ := by unfold Addr.add; split <;> simp_all
  rw [e]
  have hi : j / 2 < R.length := by omega
  obtain ⟨b', o', e', _, c0, c1⟩ := h (j / 2) hi
  injection e' with e'
  injection e' with e1 e2
  subst e1 e2
  have h4 : j % 2 = 0 ∨ j % 2 = 1 := by omega
  rcases h4 with e | e
  · have ej : j = j / 2 * 2 + 0 := by omega
    rw [ej, flat_at 2 rcell (fun _ => rfl) R _ hi 0 (by decide)] at hj
    rw [show o + j = o + j / 2 * 2 by omega, c0]
    exact hj
  · have ej : j = j / 2 * 2 + 1 := by omega
    rw [ej, flat_at 2 rcell (fun _ => rfl) R _ hi 1 (by decide)] at hj
    rw [show o + j = o + j / 2 * 2 + 1 by omega, c1]
    exact hj
theorem OwR.nil (w : World) (B : Nat) : OwR w B (.slice none 0 0) [] := ⟨rfl, .inl ⟨rfl, rfl⟩⟩
/-- 'append(l, R...)' -/
theorem wpList_appR {ops : Array Oper} {rest : List Oper} {o : Oper} {a : Act} {Q : Exit → Act → World → Prop} (w : World) (hgd : o.guard = none) (s x : Operand)
    (ho : o.op = .call { callee := .builtin .append, args := #[s, x], argTypes := #[27, 27] })
    (B : Nat) (v : Value) (A R : List Rd) (p : Option Addr) (c : Nat) (hs : a.eval s = v) (hown : OwR w B v A) (hx : a.eval x = .slice p R.length c) (hn : p = none → R = [] ∧ c = 0) (ha : ∀ a, p = some a → ∃ b o, a = ⟨b, o, none⟩) (hR : RdR w p R)
    (hl1 : A.length ≤ 1000) (hl2 : R.length ≤ 1000) (hbase : B ≤ w.heap.size)
    (h : ∀ v' w', OwR w' B v' (A ++ R) → w.grownBy w' v.ownBlock → wpList Try.prog ops Q rest (a.put o.dst v') w') : wpList Try.prog ops Q (o :: rest) a w := by
  obtain ⟨i, hi, hz0, hz1, hz2⟩ := info_parts info_rd
  cases p with
  | none =>
    obtain ⟨rfl, rfl⟩ := hn rfl
    refine wpList_append_own_none hgd s x _ ho B 49 i 2 Try.underlying27 hi v _ _ hs hown hx (h v w (by rw [List.append_nil]; exact hown) (grown_refl _ _))
  | some ad =>
    obtain ⟨b, o', rfl⟩ := ha ad rfl
    refine wpList_append_own _ hgd s x 27 ho B 49 i _ 2 16 Try.underlying27 hi hz0 hz1 hz2 rfl (by decide) v A.length _ hs hown ⟨b, o', none⟩ R.length c (R.flatMap rcell) hx (rflat_len R) hR.cells (rcell_one R) (by unfold maxLen; omega) (by omega) hbase ?_
    intro v' w' h1 h2 _
    refine h v' w' ?_ h2
    unfold OwR
    rw [List.flatMap_append, List.length_append]
    exact h1
theorem OwR.addr {w : World} {B : Nat} {p : Option Addr} {n c : Nat} {R : List Rd} (h : OwR w B (.slice p n c) R) : (p = none → R = [] ∧ c = 0) ∧ (∀ a, p = some a → ∃ b o, a = ⟨b, o, none⟩) ∧ RdR w p R ∧ n = R.length ∧ R.length ≤ c := by
  obtain ⟨p', c', e, h0, h1, h2, h3⟩ := h.rd
  injection e with e1 e2 e3
  subst e1 e2 e3
  exact ⟨h1, fun a ha => ⟨_, _, (h2 a ha).1⟩, h3, rfl, h0⟩
set_option maxHeartbeats 1000000 in
theorem readers_any (w : World) (sb fl : Nat) (R : List Rd) (h : Snp w sb fl R) :
    Calls Try.prog 15 #[ptr1 sb] w fun e w' => (∃ v, e = .returned v ∧ OwR w' w.heap.size v R) ∧ Below w.heap.size w w' := by
  obtain ⟨tb, at', v, _, h⟩ := h
  have C1 : Hid (Calls _ _ _ _ _) := given_any w sb tb at' fl v R h
  have C2 : Hid (Calls _ _ _ _ _) := pload_any sb tb _ _ _ w h.blk.cell h.sta
  have c2 : w.cell? ⟨tb, 2, none⟩ = some v := h.sta.cell
  have HR : Hid (OwR w 0 v R) := h.rdr
  have HL : Hid (R.length ≤ 256) := h.inv.len
  obtain ⟨p, c, rfl, -⟩ := h.rdr.rd
  clear h
  go_enter Try.func15, Try.ntmps15
  go_wp2_with fail
  refine C1.out.mono ?_
  rintro e w2 ⟨rfl, rfl⟩
  go_wp2_with fail
  refine C2.out.mono ?_
  rintro e w2 ⟨rfl, rfl⟩
  go_wp2_with (at_builtin; refine wpList_appR _ rfl (.const (.slice none 0 0)) (.tmp 12) rfl w2.heap.size _ [] R p c rfl (OwR.nil _ _) rfl HR.out.addr.1 HR.out.addr.2.1 HR.out.addr.2.2.1 (by simp) (by have := HL.out; omega) (Nat.le_refl _) ?_)
  intro v' w3 h1 h2
  have HB : Hid (Below w2.heap.size w2 w3) := (Below.refl _ _).grown h2 (Nat.le_refl _) (fun k hk => by cases hk)
  have HO : Hid (OwR w3 w2.heap.size v' R) := h1
  clear h1 h2 C1 C2
  go_wp2_with fail
  go_ret
  exact ⟨⟨_, rfl, HO.out⟩, HB.out⟩
set_option maxHeartbeats 1000000 in
theorem new_any (fl : Nat) (w : World) :
    Calls Try.prog 8 #[.int .u64 (fl : Nat)] w fun e w' => ((4611686018427387904 < fl ∧ e = .returned (.tuple #[.pointer none, .int .i64 1])) ∨ (fl ≤ 4611686018427387904 ∧ ∃ sb, e = .returned (.tuple #[ptr1 sb, .int .i64 0]) ∧ w.heap.size ≤ sb ∧ Snp w' sb fl [])) ∧ Below w.heap.size w w' := by
  by_cases hf : 4611686018427387904 < fl
  · have q : (4611686018427387904 : Int) < (fl : Int) := by omega
    have HF : Hid (4611686018427387904 < fl) := hf
    clear hf
    generalize (fl : Int) = z at *
    go_enter Try.func8, Try.ntmps8
    go_wp2_with fail
    refine bodyPost_ret (results_tmp2 rfl _ _ _) rfl ?_
    exact ⟨.inl ⟨HF.out, rfl⟩, Below.refl _ _⟩
  · have q : (fl : Int) ≤ 4611686018427387904 := by omega
    have HF : Hid (fl ≤ 4611686018427387904) := by show _ ≤ _; omega
    clear hf
    have hs1 : (w.alloc (.cells #[ptr1 w.heap.size, .pointer none] 74)).heap.size = w.heap.size + 1 := by simp
    have L1 : Below w.heap.size w (w.alloc (.cells #[ptr1 w.heap.size, .pointer none] 74)) := (Below.refl _ _).alloc (Nat.le_refl _) _
    have L2 : Below (w.alloc (.cells #[ptr1 w.heap.size, .pointer none] 74)).heap.size (w.alloc (.cells #[ptr1 w.heap.size, .pointer none] 74)) ((w.alloc (.cells #[ptr1 w.heap.size, .pointer none] 74)).alloc (.cells #[.int .u64 0, .int .u64 (fl : Nat), .slice none 0 0] 77)) := (Below.refl _ _).alloc (Nat.le_refl _) _
    have X1 : BoxT (w.alloc (.cells #[ptr1 w.heap.size, .pointer none] 74)) w.heap.size #[ptr1 w.heap.size, .pointer none] 74 := BoxT.new _ _ _
    have X2 : BoxT ((w.alloc (.cells #[ptr1 w.heap.size, .pointer none] 74)).alloc (.cells #[.int .u64 0, .int .u64 (fl : Nat), .slice none 0 0] 77)) (w.heap.size + 1) #[.int .u64 0, .int .u64 (fl : Nat), .slice none 0 0] 77 := by rw [← hs1]; exact BoxT.new _ _ _
    have HX1 : Hid (BoxT _ _ _ _) := X1.on L2
    have HX2 : Hid (BoxT _ _ _ _) := X2
    have HL : Hid (Below w.heap.size w ((w.alloc (.cells #[ptr1 w.heap.size, .pointer none] 74)).alloc (.cells #[.int .u64 0, .int .u64 (fl : Nat), .slice none 0 0] 77))) := L1.trans (L2.mono (by omega))
    have C1 : Hid (Calls Try.prog 22 #[.pointer (some ⟨w.heap.size, 1, none⟩), ptr1 (w.heap.size + 1)] ((w.alloc (.cells #[ptr1 w.heap.size, .pointer none] 74)).alloc (.cells #[.int .u64 0, .int .u64 (fl : Nat), .slice none 0 0] 77)) fun e w' => e = .returned (.tuple #[]) ∧ w' = ((w.alloc (.cells #[ptr1 w.heap.size, .pointer none] 74)).alloc (.cells #[.int .u64 0, .int .u64 (fl : Nat), .slice none 0 0] 77)).setCell ⟨w.heap.size, 1, none⟩ (ptr1 (w.heap.size + 1))) := pstore_any w.heap.size (w.heap.size + 1) _ _ _ _ _ HX1.out.cell HX1.out.frozen X2
    clear hs1 L1 L2 X1 X2
    go_enter Try.func8, Try.ntmps8
    go_wp2_with fail
    generalize ((w.alloc (.cells #[ptr1 w.heap.size, .pointer none] 74)).alloc (.cells #[.int .u64 0, .int .u64 (fl : Nat), .slice none 0 0] 77)) = w2 at *
    refine C1.out.mono ?_
    rintro e w3 ⟨rfl, rfl⟩
    have HB : Hid (Below w.heap.size w (w2.setCell ⟨w.heap.size, 1, none⟩ (ptr1 (w.heap.size + 1)))) := HL.out.trans ((frm_set w2 w.heap.size 1 _ (F := fun k => w.heap.size ≤ k) (Nat.le_refl _)).below HL.out.size (fun k hk => hk))
    have HS : Hid (Snp (w2.setCell ⟨w.heap.size, 1, none⟩ (ptr1 (w.heap.size + 1))) w.heap.size fl []) := ⟨w.heap.size + 1, 0, .slice none 0 0, by decide, HX1.out.set (i := 1) _, HX2.out.off _ (by omega), OwR.nil _ _, List.Pairwise.nil, fun r hr => by cases hr⟩
    clear C1 HX1 HX2 HL
    go_wp2_with fail
    refine bodyPost_ret (results_tmp2 rfl _ _ _) rfl ?_
    exact ⟨.inr ⟨HF.out, _, rfl, Nat.le_refl _, HS.out⟩, HB.out⟩
end Go.Proofs.Ytbmgkoifidhfjaa
