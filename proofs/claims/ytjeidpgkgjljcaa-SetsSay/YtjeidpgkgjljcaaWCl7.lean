/- Lists without some. -/
import Derived.Test.YtjeidpgkgjljcaaWCl6
namespace Go.Proofs.Ytjeidpgkgjljcaa
open Go.RowKit
set_option maxRecDepth 100000

theorem rowS_len {w : World} {p : Option Addr} {L : List Sp} (h : RowS w w.heap.size p L) (hp : p = none) : L = [] := by
  match L, h with
  | [], _ => rfl
  | x :: L, h =>
    obtain ⟨b, o, e, _⟩ := h 0 (by simp)
    rw [hp] at e
    cases e

set_option maxHeartbeats 4000000 in
theorem withoutP0_any (fid : FuncId) (t : Pt → Bool) (L : List Pt) (v : Value) (w : World) (hin : ∀ args w, (callFunc fid args).run Try.prog w = .ok (.enter fid args) w) (h : SlP w v L) (hlen : L.length ≤ 4398046511104)
    (HC : ∀ (x : Pt) (w1 : World), Below w.heap.size w w1 → Calls Try.prog fid #[.agg #[.int .i64 x.t, .int .i64 x.i, .string x.k]] w1 fun e w' => e = .returned (.bool (t x)) ∧ Below w1.heap.size w1 w') :
    Calls Try.prog 32 #[v, .func (.func fid) #[] #[]] w fun e w' => ∃ v', e = .returned v' ∧ OwnP w' w.heap.size v' (dropG t L) ∧ Below w.heap.size w w' := by
  obtain ⟨p, c, rfl, h1, h2, h3⟩ := h.f
  cases p with
  | none =>
    have e : L = [] := rowP_len h3 rfl
    subst e
    rw [h2 rfl]
    have C1 : Hid (Calls _ _ _ _ _) := clonePN_any w
    have C2 : Hid (∀ w1, Below w.heap.size w w1 → Calls Try.prog 68 #[.slice none 0 0, .func (.func fid) #[] #[]] w1 fun e w' => e = .returned (.int .i64 (-1)) ∧ Below w1.heap.size w1 w') := fun w1 hb => indexFP0_any fid t [] none 0 w1 hin (fun i hi => absurd hi (by simp)) (by simp) (fun x w2 h2 => HC x w2 (hb.trans (h2.mono hb.size)))
    have C3 : Hid (∀ w1, Below w.heap.size w w1 → Calls Try.prog 53 #[.slice none 0 0, .func (.func fid) #[] #[]] w1 fun e w' => e = .returned (.slice none 0 0) ∧ Below w1.heap.size w1 w') := fun w1 hb => by
      have C4 : Hid (Calls _ _ _ _ _) := C2.out w1 hb
      clear C1 C2 HC
      go_enter Try.func53, Try.ntmps53
      go_wp2_with fail
      refine C4.out.mono ?_
      rintro e w2 ⟨rfl, hb2⟩
      go_wp2_with fail
      go_ret
      exact ⟨rfl, hb2⟩
    clear HC C2 h h3
    go_enter Try.func32, Try.ntmps32
    go_wp2_with fail
    refine C1.out.mono ?_
    rintro e w1 ⟨rfl, hb1⟩
    go_wp2_with fail
    refine (C3.out w1 hb1).mono ?_
    rintro e w2 ⟨rfl, hb2⟩
    go_wp2_with fail
    go_ret
    exact ⟨_, rfl, OwnP.nil _ _, hb1.trans (hb2.mono hb1.size)⟩
  | some a =>
    have C1 : Hid (Calls _ _ _ _ _) := cloneP_any L a c w h3 hlen h1
    have HHC : Hid (∀ (x : Pt) (w1 : World), Below w.heap.size w w1 → Calls Try.prog fid #[.agg #[.int .i64 x.t, .int .i64 x.i, .string x.k]] w1 fun e w' => e = .returned (.bool (t x)) ∧ Below w1.heap.size w1 w') := HC
    have HIN : Hid (∀ args w, (callFunc fid args).run Try.prog w = .ok (.enter fid args) w) := hin
    clear HC h h3 hin
    go_enter Try.func32, Try.ntmps32
    go_wp2_with fail
    refine C1.out.mono ?_
    rintro e w1 ⟨v, rfl, hO, hnn, hb1⟩
    rcases hO.form with ⟨rfl, rfl⟩ | ⟨g, cap, rfl, hg1, hg2⟩
    · exact absurd rfl hnn
    · have C2 : Hid (Calls _ _ _ _ _) := deleteFP0_any fid t L g cap w.heap.size w1 HIN.out hO hlen (fun x w2 h2 => HHC.out x w2 (hb1.trans h2))
      have HB1 : Hid (Below w.heap.size w w1) := hb1
      clear hO hnn hb1 C1 HHC
      go_wp2_with fail
      refine C2.out.mono ?_
      rintro e w2 ⟨rfl, hO2, hb2⟩
      have HO2 : Hid (OwnP _ _ _ _ ∧ Below w.heap.size w w2) := ⟨hO2, HB1.out.trans hb2⟩
      clear hO2 hb2
      go_wp2_with fail
      go_ret
      exact ⟨_, rfl, HO2.out.1, HO2.out.2⟩

set_option maxHeartbeats 4000000 in
theorem withoutP1_any (fid : FuncId) (k1 : Value) (t : Pt → Bool) (L : List Pt) (v : Value) (w : World) (hin : ∀ args w, (callFunc fid args).run Try.prog w = .ok (.enter fid args) w) (h : SlP w v L) (hlen : L.length ≤ 4398046511104)
    (HC : ∀ (x : Pt) (w1 : World), Below w.heap.size w w1 → Calls Try.prog fid #[.agg #[.int .i64 x.t, .int .i64 x.i, .string x.k], k1] w1 fun e w' => e = .returned (.bool (t x)) ∧ Below w1.heap.size w1 w') :
    Calls Try.prog 32 #[v, .func (.func fid) #[] #[k1]] w fun e w' => ∃ v', e = .returned v' ∧ OwnP w' w.heap.size v' (dropG t L) ∧ Below w.heap.size w w' := by
  obtain ⟨p, c, rfl, h1, h2, h3⟩ := h.f
  cases p with
  | none =>
    have e : L = [] := rowP_len h3 rfl
    subst e
    rw [h2 rfl]
    have C1 : Hid (Calls _ _ _ _ _) := clonePN_any w
    have C2 : Hid (∀ w1, Below w.heap.size w w1 → Calls Try.prog 68 #[.slice none 0 0, .func (.func fid) #[] #[k1]] w1 fun e w' => e = .returned (.int .i64 (-1)) ∧ Below w1.heap.size w1 w') := fun w1 hb => indexFP1_any fid k1 t [] none 0 w1 hin (fun i hi => absurd hi (by simp)) (by simp) (fun x w2 h2 => HC x w2 (hb.trans (h2.mono hb.size)))
    have C3 : Hid (∀ w1, Below w.heap.size w w1 → Calls Try.prog 53 #[.slice none 0 0, .func (.func fid) #[] #[k1]] w1 fun e w' => e = .returned (.slice none 0 0) ∧ Below w1.heap.size w1 w') := fun w1 hb => by
      have C4 : Hid (Calls _ _ _ _ _) := C2.out w1 hb
      clear C1 C2 HC
      go_enter Try.func53, Try.ntmps53
      go_wp2_with fail
      refine C4.out.mono ?_
      rintro e w2 ⟨rfl, hb2⟩
      go_wp2_with fail
      go_ret
      exact ⟨rfl, hb2⟩
    clear HC C2 h h3
    go_enter Try.func32, Try.ntmps32
    go_wp2_with fail
    refine C1.out.mono ?_
    rintro e w1 ⟨rfl, hb1⟩
    go_wp2_with fail
    refine (C3.out w1 hb1).mono ?_
    rintro e w2 ⟨rfl, hb2⟩
    go_wp2_with fail
    go_ret
    exact ⟨_, rfl, OwnP.nil _ _, hb1.trans (hb2.mono hb1.size)⟩
  | some a =>
    have C1 : Hid (Calls _ _ _ _ _) := cloneP_any L a c w h3 hlen h1
    have HHC : Hid (∀ (x : Pt) (w1 : World), Below w.heap.size w w1 → Calls Try.prog fid #[.agg #[.int .i64 x.t, .int .i64 x.i, .string x.k], k1] w1 fun e w' => e = .returned (.bool (t x)) ∧ Below w1.heap.size w1 w') := HC
    have HIN : Hid (∀ args w, (callFunc fid args).run Try.prog w = .ok (.enter fid args) w) := hin
    clear HC h h3 hin
    go_enter Try.func32, Try.ntmps32
    go_wp2_with fail
    refine C1.out.mono ?_
    rintro e w1 ⟨v, rfl, hO, hnn, hb1⟩
    rcases hO.form with ⟨rfl, rfl⟩ | ⟨g, cap, rfl, hg1, hg2⟩
    · exact absurd rfl hnn
    · have C2 : Hid (Calls _ _ _ _ _) := deleteFP1_any fid k1 t L g cap w.heap.size w1 HIN.out hO hlen (fun x w2 h2 => HHC.out x w2 (hb1.trans h2))
      have HB1 : Hid (Below w.heap.size w w1) := hb1
      clear hO hnn hb1 C1 HHC
      go_wp2_with fail
      refine C2.out.mono ?_
      rintro e w2 ⟨rfl, hO2, hb2⟩
      have HO2 : Hid (OwnP _ _ _ _ ∧ Below w.heap.size w w2) := ⟨hO2, HB1.out.trans hb2⟩
      clear hO2 hb2
      go_wp2_with fail
      go_ret
      exact ⟨_, rfl, HO2.out.1, HO2.out.2⟩

set_option maxHeartbeats 4000000 in
theorem withoutS1_any (fid : FuncId) (k1 : Value) (t : Sp → Bool) (L : List Sp) (v : Value) (w : World) (hin : ∀ args w, (callFunc fid args).run Try.prog w = .ok (.enter fid args) w) (h : SlS w v L) (hlen : L.length ≤ 2513169434916)
    (HC : ∀ (x : Sp) (w1 : World), Below w.heap.size w w1 → Calls Try.prog fid #[.agg #[.int .i64 x.t, .int .i64 x.i, .string x.lo, .string x.hi, .bool x.op], k1] w1 fun e w' => e = .returned (.bool (t x)) ∧ Below w1.heap.size w1 w') :
    Calls Try.prog 33 #[v, .func (.func fid) #[] #[k1]] w fun e w' => ∃ v', e = .returned v' ∧ OwnS w' w.heap.size v' (dropG t L) ∧ Below w.heap.size w w' := by
  obtain ⟨p, c, rfl, h1, h2, h3⟩ := h.f
  cases p with
  | none =>
    have e : L = [] := rowS_len h3 rfl
    subst e
    rw [h2 rfl]
    have C1 : Hid (Calls _ _ _ _ _) := cloneSN_any w
    have C2 : Hid (∀ w1, Below w.heap.size w w1 → Calls Try.prog 50 #[.slice none 0 0, .func (.func fid) #[] #[k1]] w1 fun e w' => e = .returned (.int .i64 (-1)) ∧ Below w1.heap.size w1 w') := fun w1 hb => indexFS1_any fid k1 t [] none 0 w1 hin (fun i hi => absurd hi (by simp)) (by simp) (fun x w2 h2 => HC x w2 (hb.trans (h2.mono hb.size)))
    have C3 : Hid (∀ w1, Below w.heap.size w w1 → Calls Try.prog 55 #[.slice none 0 0, .func (.func fid) #[] #[k1]] w1 fun e w' => e = .returned (.slice none 0 0) ∧ Below w1.heap.size w1 w') := fun w1 hb => by
      have C4 : Hid (Calls _ _ _ _ _) := C2.out w1 hb
      clear C1 C2 HC
      go_enter Try.func55, Try.ntmps55
      go_wp2_with fail
      refine C4.out.mono ?_
      rintro e w2 ⟨rfl, hb2⟩
      go_wp2_with fail
      go_ret
      exact ⟨rfl, hb2⟩
    clear HC C2 h h3
    go_enter Try.func33, Try.ntmps33
    go_wp2_with fail
    refine C1.out.mono ?_
    rintro e w1 ⟨rfl, hb1⟩
    go_wp2_with fail
    refine (C3.out w1 hb1).mono ?_
    rintro e w2 ⟨rfl, hb2⟩
    go_wp2_with fail
    go_ret
    exact ⟨_, rfl, OwnS.nil _ _, hb1.trans (hb2.mono hb1.size)⟩
  | some a =>
    have C1 : Hid (Calls _ _ _ _ _) := cloneS_any L a c w h3 hlen h1
    have HHC : Hid (∀ (x : Sp) (w1 : World), Below w.heap.size w w1 → Calls Try.prog fid #[.agg #[.int .i64 x.t, .int .i64 x.i, .string x.lo, .string x.hi, .bool x.op], k1] w1 fun e w' => e = .returned (.bool (t x)) ∧ Below w1.heap.size w1 w') := HC
    have HIN : Hid (∀ args w, (callFunc fid args).run Try.prog w = .ok (.enter fid args) w) := hin
    clear HC h h3 hin
    go_enter Try.func33, Try.ntmps33
    go_wp2_with fail
    refine C1.out.mono ?_
    rintro e w1 ⟨v, rfl, hO, hnn, hb1⟩
    rcases hO.form with ⟨rfl, rfl⟩ | ⟨g, cap, rfl, hg1, hg2⟩
    · exact absurd rfl hnn
    · have C2 : Hid (Calls _ _ _ _ _) := deleteFS1_any fid k1 t L g cap w.heap.size w1 HIN.out hO hlen (fun x w2 h2 => HHC.out x w2 (hb1.trans h2))
      have HB1 : Hid (Below w.heap.size w w1) := hb1
      clear hO hnn hb1 C1 HHC
      go_wp2_with fail
      refine C2.out.mono ?_
      rintro e w2 ⟨rfl, hO2, hb2⟩
      have HO2 : Hid (OwnS _ _ _ _ ∧ Below w.heap.size w w2) := ⟨hO2, HB1.out.trans hb2⟩
      clear hO2 hb2
      go_wp2_with fail
      go_ret
      exact ⟨_, rfl, HO2.out.1, HO2.out.2⟩

theorem rows1_any (x : Pt) (w : World) : Calls Try.prog 47 #[PV x] w fun e w' => e = .returned (.bool (x.i != -1)) ∧ Below w.heap.size w w' := by
  go_enter Try.func47, Try.ntmps47
  go_wp2
  go_ret
  exact ⟨rfl, by go_grown⟩
/-- the rows among points -/
def rowsL (L : List Pt) : List Pt := dropG (fun x => x.i != -1) L
theorem rows_any (L : List Pt) (v : Value) (w : World) (h : SlP w v L) (hlen : L.length ≤ 4398046511104) :
    Calls Try.prog 23 #[v] w fun e w' => ∃ v', e = .returned v' ∧ OwnP w' w.heap.size v' (rowsL L) ∧ Below w.heap.size w w' := by
  have C1 : Hid (Calls Try.prog 32 #[v, .func (.func 47) #[] #[]] w fun e w' => ∃ v', e = .returned v' ∧ OwnP w' w.heap.size v' (dropG (fun x => x.i != -1) L) ∧ Below w.heap.size w w') := withoutP0_any 47 (fun x => x.i != -1) L v w (enters_of Try.func47 (by kernel_rfl) rfl) h hlen (fun x w1 _ => rows1_any x w1)
  clear h
  go_enter Try.func23, Try.ntmps23
  go_wp2_with fail
  refine C1.out.mono ?_
  rintro e w1 ⟨v', rfl, hO, hb⟩
  have HO : Hid (OwnP w1 w.heap.size v' (dropG (fun x => x.i != -1) L) ∧ Below w.heap.size w w1) := ⟨hO, hb⟩
  clear hO hb C1
  go_wp2_with fail
  go_ret
  exact ⟨_, rfl, HO.out.1, HO.out.2⟩
end Go.Proofs.Ytjeidpgkgjljcaa
