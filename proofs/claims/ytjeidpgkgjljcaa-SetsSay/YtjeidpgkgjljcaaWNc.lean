/- A foot's normal foot: what it is; DeleteFunc with the closure of normal. normal: the normal foot. Norm. -/
import Derived.Test.YtjeidpgkgjljcaaWNm7
import Derived.Test.YtjeidpgkgjljcaaWNm8
import Derived.Test.YtjeidpgkgjljcaaWRs11a
namespace Go.Proofs.Ytjeidpgkgjljcaa

section
open Go.RowKit
set_option maxRecDepth 100000

/-- g is the normal foot of f -/
structure NrmF (f g : Ft) : Prop where
  s1 : SepS g.S
  s2 : ∀ x, anyS g.S x = anyS f.S x
  p1 : RisP g.P
  p2 : ∀ x, x ∈ g.P ↔ x ∈ f.P ∧ anyS f.S x = false
  w1 : RisP g.W
  w2 : ∀ x, x ∈ g.W ↔ x ∈ f.W
  lp : g.P.length ≤ f.P.length
  ls : g.S.length ≤ f.S.length
  lw : g.W.length ≤ f.W.length
theorem Ft.ext {f g : Ft} (h1 : f.P = g.P) (h2 : f.S = g.S) (h3 : f.W = g.W) : f = g := by
  cases f
  cases g
  simp only at h1 h2 h3
  subst h1 h2 h3
  rfl
theorem NrmF.uniq {f g h k : Ft} (hg : NrmF f g) (hh : NrmF h k) (hs : ∀ x, anyS f.S x = anyS h.S x) (hp : ∀ x, anyS f.S x = false → (x ∈ f.P ↔ x ∈ h.P)) (hw : ∀ x, x ∈ f.W ↔ x ∈ h.W) : g = k := by
  refine Ft.ext (RisP.uniq hg.p1 hh.p1 (fun x => ?_)) (sepS_unique _ _ hg.s1 hh.s1 (fun x => by rw [hg.s2, hh.s2, hs])) (RisP.uniq hg.w1 hh.w1 (fun x => by rw [hg.w2, hh.w2, hw]))
  rw [hg.p2, hh.p2, ← hs x]
  constructor
  · rintro ⟨h1, h2⟩; exact ⟨(hp x h2).1 h1, h2⟩
  · rintro ⟨h1, h2⟩; exact ⟨(hp x h2).2 h1, h2⟩
theorem NrmF.same {f g k : Ft} (hg : NrmF f g) (hh : NrmF f k) : g = k := hg.uniq hh (fun _ => rfl) (fun _ _ => Iff.rfl) (fun _ => Iff.rfl)

set_option maxHeartbeats 4000000 in
theorem deleteVP1_any (fid : FuncId) (k1 : Value) (t : Pt → Bool) (L : List Pt) (v : Value) (B : Nat) (w : World) (hin : ∀ args w, (callFunc fid args).run Try.prog w = .ok (.enter fid args) w) (hO : OwnP w B v L) (hB : B ≤ w.heap.size) (hlen : L.length ≤ 4398046511104)
    (HC : ∀ (x : Pt) (w1 : World), Below B w w1 → Calls Try.prog fid #[.agg #[.int .i64 x.t, .int .i64 x.i, .string x.k], k1] w1 fun e w' => e = .returned (.bool (t x)) ∧ Below w1.heap.size w1 w') :
    Calls Try.prog 53 #[v, .func (.func fid) #[] #[k1]] w fun e w' => ∃ v', e = .returned v' ∧ OwnP w' B v' (dropG t L) ∧ Below B w w' := by
  rcases hO.form with ⟨rfl, rfl⟩ | ⟨g, cap, rfl, _, _⟩
  · have C4 : Hid (Calls Try.prog 68 #[.slice none 0 0, .func (.func fid) #[] #[k1]] w fun e w' => e = .returned (.int .i64 (-1)) ∧ Below w.heap.size w w') := indexFP1_any fid k1 t [] none 0 w hin (fun i hi => absurd hi (by simp)) (by simp) (fun x w2 h2 => HC x w2 (h2.mono hB))
    clear HC hin
    go_enter Try.func53, Try.ntmps53
    go_wp2_with fail
    refine C4.out.mono ?_
    rintro e w2 ⟨rfl, hb2⟩
    go_wp2_with fail
    go_ret
    exact ⟨_, rfl, OwnP.nil _ _, hb2.mono hB⟩
  · refine (deleteFP1_any fid k1 t L g cap B w hin hO hlen HC).mono ?_
    rintro e w2 ⟨rfl, h2, h3⟩
    exact ⟨_, rfl, h2, h3⟩

set_option maxHeartbeats 4000000 in
theorem normal1_any (bx : Nat) (U : List Sp) (vU : Value) (x : Pt) (w : World) (hk : Blk w bx #[vU] 23) (h : SlS w vU U) (hS : SepS U) (hlen : U.length ≤ 2513169434916) :
    Calls Try.prog 60 #[PV x, ptr1 bx] w fun e w' => e = .returned (.bool (anyS U x)) ∧ Below w.heap.size w w' := by
  obtain ⟨p, c, rfl, hc1, hc2, hR⟩ := h.f
  obtain ⟨wA, hwA⟩ : ∃ wA, w.alloc (.cells #[.int .i64 x.t, .int .i64 x.i, .string x.k] 27) = wA := ⟨_, rfl⟩
  have HBA : Hid (Below w.heap.size w wA) := by rw [← hwA]; exact (Below.refl _ _).alloc (Nat.le_refl _) _
  have HKA : Hid (Blk wA w.heap.size #[.int .i64 x.t, .int .i64 x.i, .string x.k] 27) := by rw [← hwA]; exact Blk.new w _ _
  have HKB : Hid (Blk wA bx #[.slice p U.length c] 23) := hk.on HBA.out
  have CC : Hid (Calls _ _ _ _ _) := covers_any U (.slice p U.length c) x wA (h.on HBA.out) hS hlen
  have q0 := HKA.out.cell (i := 0) rfl
  have q1 := HKA.out.cell (i := 1) rfl
  have q2 := HKA.out.cell (i := 2) rfl
  have q3 := HKB.out.cell (i := 0) rfl
  clear hk h hR
  go_enter Try.func60, Try.ntmps60
  go_wp2_with fail
  refine CC.out.mono ?_
  rintro e w2 ⟨rfl, hb2⟩
  go_wp2_with fail
  go_ret
  exact ⟨rfl, HBA.out.trans (hb2.mono HBA.out.size)⟩

end

section
open Go.RowKit
set_option maxRecDepth 100000

theorem RisP.drop {L : List Pt} (h : RisP L) (t : Pt → Bool) : RisP (dropG t L) := List.Pairwise.sublist List.filter_sublist h
theorem mem_dropG (t : Pt → Bool) (L : List Pt) (x : Pt) : x ∈ dropG t L ↔ x ∈ L ∧ t x = false := by
  unfold dropG
  rw [List.mem_filter, Bool.not_eq_true']

set_option maxHeartbeats 8000000 in
theorem normal_any (f : Ft) (va0 va1 va2 : Value) (w : World) (hf : RdF w va0 va1 va2 f) (hl : f.S.length ≤ 65536) :
    Calls Try.prog 36 #[.agg #[va0, va1, va2]] w fun e w' => ∃ x0 x1 x2 g, e = .returned (.agg #[x0, x1, x2]) ∧ OwnP w' w.heap.size x0 g.P ∧ OwnS w' w.heap.size x1 g.S ∧ OwnP w' w.heap.size x2 g.W ∧ NrmF f g ∧ Below w.heap.size w w' := by
  obtain ⟨w3, hw3⟩ : ∃ w3, ((w.alloc (.cells #[va0, va1, va2] 25)).alloc (.cells #[.slice none 0 0, .slice none 0 0, .slice none 0 0] 25)) = w3 := ⟨_, rfl⟩
  have hz3 : w3.heap.size = w.heap.size + 1 + 1 := by rw [← hw3]; simp
  have HB3 : Hid (Below w.heap.size w w3) := by rw [← hw3]; exact ((Below.refl _ _).alloc (Nat.le_refl _) _).alloc (by simp) _
  have HKF : Hid (Blk w3 w.heap.size #[va0, va1, va2] 25) := by rw [← hw3]; exact (Blk.new w #[va0, va1, va2] 25).keep (B := w.heap.size + 1) ((Below.refl _ _).alloc (by simp) _) (by omega)
  have HKR : Hid (Blk w3 (w.heap.size + 1) #[.slice none 0 0, .slice none 0 0, .slice none 0 0] 25) := by
    rw [← hw3]
    have h := Blk.new (w.alloc (.cells #[va0, va1, va2] 25)) #[.slice none 0 0, .slice none 0 0, .slice none 0 0] 25
    rw [World.size_alloc] at h
    exact h
  have HA : Hid (RdF w3 va0 va1 va2 f) := hf.on HB3.out
  have g1 := HKF.out.cell (i := 1) rfl
  have HU : Hid (Calls _ _ _ _ _) := unions_any f.S va1 w3 HA.out.s hl
  clear hf
  obtain ⟨p1, n1, c1, ev1⟩ : ∃ p n c, va1 = .slice p n c := by
    obtain ⟨p, c, e, _⟩ := HA.out.s.f
    exact ⟨_, _, _, e⟩
  obtain ⟨p0, n0, c0, ev0⟩ : ∃ p n c, va0 = .slice p n c := by
    obtain ⟨p, c, e, _⟩ := HA.out.p.f
    exact ⟨_, _, _, e⟩
  obtain ⟨p2, n2, c2, ev2⟩ : ∃ p n c, va2 = .slice p n c := by
    obtain ⟨p, c, e, _⟩ := HA.out.w.f
    exact ⟨_, _, _, e⟩
  subst ev0 ev1 ev2
  go_enter Try.func36, Try.ntmps36
  go_wp2_with fail
  refine HU.out.mono ?_
  rintro e w4 ⟨vU, U, rfl, hOU, hSep, hAny, hUl, hb4⟩
  clear HU g1 hw3
  obtain ⟨pU, cU, rfl, _⟩ := hOU.row
  obtain ⟨w5, hw5⟩ : ∃ w5, w4.alloc (.cells #[.slice pU U.length cU] 23) = w5 := ⟨_, rfl⟩
  have hz5 : w5.heap.size = w4.heap.size + 1 := by rw [← hw5]; simp
  have HB5 : Hid (Below w4.heap.size w4 w5) := by rw [← hw5]; exact (Below.refl _ _).alloc (Nat.le_refl _) _
  have HKU : Hid (Blk w5 w4.heap.size #[.slice pU U.length cU] 23) := by rw [← hw5]; exact Blk.new w4 _ _
  have HB35 : Hid (Below w3.heap.size w3 w5) := hb4.trans (HB5.out.mono hb4.size)
  have HKF5 : Hid (Blk w5 w.heap.size #[.slice p0 n0 c0, .slice p1 n1 c1, .slice p2 n2 c2] 25) := HKF.out.on HB35.out
  have HOU : Hid (OwnS w5 w3.heap.size (.slice pU U.length cU) U) := hOU.kept HB5.out
  have HFU : Hid (SepS U ∧ (∀ x, anyS U x = anyS f.S x) ∧ U.length ≤ f.S.length) := ⟨hSep, hAny, hUl⟩
  have hz4 := hb4.size
  have hU5 : U.length ≤ 65536 := by omega
  have HI : Hid (Calls _ _ _ _ _) := inOrder_any f.P _ w5 (HA.out.p.on HB35.out) HA.out.lp
  have g0 := HKF5.out.cell (i := 0) rfl
  clear hOU hSep hAny hUl hb4
  go_wp2_with fail
  refine HI.out.mono ?_
  rintro e w6 ⟨vP, R, rfl, hOP, hRis, hRm, hRl, hb6⟩
  clear HI g0 hw5
  have HB56 : Hid (Below w5.heap.size w5 w6) := hb6
  have HOP : Hid (OwnP w6 w5.heap.size vP R) := hOP
  have HFP : Hid (RisP R ∧ (∀ x, x ∈ R ↔ x ∈ f.P) ∧ R.length ≤ f.P.length) := ⟨hRis, hRm, hRl⟩
  have hz6 := hb6.size
  have HD : Hid (Calls _ _ _ _ _) := deleteVP1_any 60 (ptr1 w4.heap.size) (anyS U) R vP w5.heap.size w6 (enters_of Try.func60 (by kernel_rfl) rfl) hOP hz6 (by have := HA.out.lp; omega)
    (fun x w9 h9 => normal1_any w4.heap.size U (.slice pU U.length cU) x w9 (HKU.out.keep (hb6.trans h9) (by omega)) ((HOU.out.sl.on (hb6.trans h9))) HFU.out.1 (by omega))
  clear hOP hRis hRm hRl hb6
  obtain ⟨pP, nP, cP, evP⟩ : ∃ p n c, vP = .slice p n c := by
    obtain ⟨p, c, e, _⟩ := HOP.out.row
    exact ⟨_, _, _, e⟩
  subst evP
  go_wp2_with fail
  refine HD.out.mono ?_
  rintro e w7 ⟨vQ, rfl, hOQ, hb7⟩
  clear HD HOP
  have HB57 : Hid (Below w5.heap.size w5 w7) := HB56.out.trans hb7
  have HOQ : Hid (OwnP w7 w5.heap.size vQ (dropG (anyS U) R)) := hOQ
  have hz7 := HB57.out.size
  clear hOQ hb7 HB56
  obtain ⟨pQ, nQ, cQ, evQ⟩ : ∃ p n c, vQ = .slice p n c := by
    obtain ⟨p, c, e, _⟩ := HOQ.out.row
    exact ⟨_, _, _, e⟩
  subst evQ
  have HB37 : Hid (Below w3.heap.size w3 w7) := HB35.out.trans (HB57.out.mono HB35.out.size)
  go_wp2_with fail
  refine wp_region_L (fun w' => Blk w' w.heap.size #[.slice p0 n0 c0, .slice p1 n1 c1, .slice p2 n2 c2] 25 ∧ Blk w' w4.heap.size #[.slice pU U.length cU] 23) 6 (by kernel_rfl) ?_
  have HDr : Hid (Below w7.heap.size w7 w7.drew) := (Below.refl _ _).drew
  have HSN : Hid (Blk w7.drew w.heap.size #[.slice p0 n0 c0, .slice p1 n1 c1, .slice p2 n2 c2] 25 ∧ Blk w7.drew w4.heap.size #[.slice pU U.length cU] 23) := ⟨(HKF5.out.on HB57.out).on HDr.out, (HKU.out.on HB57.out).on HDr.out⟩
  generalize w7.drew = wd at *
  refine wpL_take (v := ?_) 0 rfl (by kernel_rfl) (fun _ _ _ h => h) (by rfl) ?_ HSN.out ?_
  rotate_left
  focus
    intro w9 hw9
    have k0 := Blk.cell hw9.1 (i := 0) rfl
    have k1 := Blk.cell hw9.1 (i := 1) rfl
    have k2 := Blk.cell hw9.1 (i := 2) rfl
    have k3 := Blk.cell hw9.2 (i := 0) rfl
    go_simp
    try with_reducible rfl
  try simp only [Act.put, List.setIfInBounds_toArray, List.set_cons_zero, List.set_cons_succ]
  refine wpL_take (v := ?_) 1 rfl (by kernel_rfl) (fun _ _ _ h => h) (by rfl) ?_ HSN.out ?_
  rotate_left
  focus
    intro w9 hw9
    have k0 := Blk.cell hw9.1 (i := 0) rfl
    have k1 := Blk.cell hw9.1 (i := 1) rfl
    have k2 := Blk.cell hw9.1 (i := 2) rfl
    have k3 := Blk.cell hw9.2 (i := 0) rfl
    go_simp
    try with_reducible rfl
  try simp only [Act.put, List.setIfInBounds_toArray, List.set_cons_zero, List.set_cons_succ]
  refine wpL_take (v := ?_) 2 rfl (by kernel_rfl) (fun _ _ _ h => h) (by rfl) ?_ HSN.out ?_
  rotate_left
  focus
    intro w9 hw9
    have k0 := Blk.cell hw9.1 (i := 0) rfl
    have k1 := Blk.cell hw9.1 (i := 1) rfl
    have k2 := Blk.cell hw9.1 (i := 2) rfl
    have k3 := Blk.cell hw9.2 (i := 0) rfl
    go_simp
    try with_reducible rfl
  try simp only [Act.put, List.setIfInBounds_toArray, List.set_cons_zero, List.set_cons_succ]
  refine wpL_take (v := ?_) 3 rfl (by kernel_rfl) (fun _ _ _ h => h) (by rfl) ?_ HSN.out ?_
  rotate_left
  focus
    intro w9 hw9
    have k0 := Blk.cell hw9.1 (i := 0) rfl
    have k1 := Blk.cell hw9.1 (i := 1) rfl
    have k2 := Blk.cell hw9.1 (i := 2) rfl
    have k3 := Blk.cell hw9.2 (i := 0) rfl
    go_simp
    try with_reducible rfl
  try simp only [Act.put, List.setIfInBounds_toArray, List.set_cons_zero, List.set_cons_succ]
  refine wpL_one 4 rfl (by kernel_rfl) (by rfl) ?_
  intro K hK
  go_simp
  have CR : Hid (Calls Try.prog 43 #[.slice p2 n2 c2] wd fun e w' => ∃ (v' : Value) (T : List Pt), e = .returned v' ∧ OwnP w' wd.heap.size v' T ∧ RisP T ∧ (∀ x, x ∈ T ↔ x ∈ f.W) ∧ T.length ≤ f.W.length ∧ Below wd.heap.size wd w') := inOrder_any f.W _ wd ((HA.out.w.on HB37.out).on HDr.out) HA.out.lw
  refine CR.out.mono ?_
  rintro e w8 ⟨v8, T, rfl, hO8, hT1, hT2, hT3, hb8⟩
  dsimp only
  refine hK.out _ _ (fun _ => ⟨HSN.out.1.on hb8, HSN.out.2.on hb8⟩) ?_
  clear hK K CR
  try simp only [Act.put, List.setIfInBounds_toArray, List.set_cons_zero, List.set_cons_succ]
  have HSM : Hid (Blk w8 w.heap.size #[.slice p0 n0 c0, .slice p1 n1 c1, .slice p2 n2 c2] 25 ∧ Blk w8 w4.heap.size #[.slice pU U.length cU] 23) := ⟨HSN.out.1.on hb8, HSN.out.2.on hb8⟩
  have HB78 : Hid (Below w7.heap.size w7 w8) := HDr.out.trans (hb8.mono HDr.out.size)
  have HO8 : Hid (OwnP w8 wd.heap.size v8 T) := hO8
  have HFW : Hid (RisP T ∧ (∀ x, x ∈ T ↔ x ∈ f.W) ∧ T.length ≤ f.W.length ∧ w7.heap.size ≤ wd.heap.size) := ⟨hT1, hT2, hT3, HDr.out.size⟩
  clear HSN HDr hO8 hT1 hT2 hT3 hb8
  have HSN : Hid (Blk w8 w.heap.size #[.slice p0 n0 c0, .slice p1 n1 c1, .slice p2 n2 c2] 25 ∧ Blk w8 w4.heap.size #[.slice pU U.length cU] 23) := HSM.out
  obtain ⟨p8, n8, c8, ev8⟩ : ∃ p n c, v8 = .slice p n c := by
    obtain ⟨p, c, e, _⟩ := HO8.out.row
    exact ⟨_, _, _, e⟩
  subst ev8
  refine wpL_take (v := ?_) 5 rfl (by kernel_rfl) (fun _ _ _ h => h) (by rfl) ?_ HSN.out ?_
  rotate_left
  focus
    intro w9 hw9
    have k0 := Blk.cell hw9.1 (i := 0) rfl
    have k1 := Blk.cell hw9.1 (i := 1) rfl
    have k2 := Blk.cell hw9.1 (i := 2) rfl
    have k3 := Blk.cell hw9.2 (i := 0) rfl
    go_simp
    try with_reducible rfl
  try simp only [Act.put, List.setIfInBounds_toArray, List.set_cons_zero, List.set_cons_succ]
  have hC : Blk w8 (w.heap.size + 1) #[.slice none 0 0, .slice none 0 0, .slice none 0 0] 25 := (HKR.out.on HB37.out).on HB78.out
  have c0 := hC.cell (i := 0) rfl
  have c1 := hC.cell (i := 1) rfl
  have c2 := hC.cell (i := 2) rfl
  have f0 := hC.frozen 0
  have f1 := hC.frozen 1
  have f2 := hC.frozen 2
  refine wpL_one 6 rfl (by kernel_rfl) (by rfl) ?_
  intro K hK
  go_simp
  refine hK.out _ _ (fun h => absurd rfl h) ?_
  clear hK K
  try simp only [Act.put, List.setIfInBounds_toArray, List.set_cons_zero, List.set_cons_succ]
  refine wpL_done (by kernel_rfl) ?_ _
  try simp only [NoPanic]
  have HF : Hid (Frm w8 (((w8.setCell ⟨w.heap.size + 1, 0, none⟩ (.slice pQ nQ cQ)).setCell ⟨w.heap.size + 1, 1, none⟩ (.slice pU U.length cU)).setCell ⟨w.heap.size + 1, 2, none⟩ (.slice p8 n8 c8)) (fun k => k = w.heap.size + 1)) := ((frm_set _ _ _ _ (F := fun k => k = w.heap.size + 1) (.inl rfl)).trans (frm_set _ _ _ _ (F := fun k => k = w.heap.size + 1) (.inl rfl)) (fun k hk => .inl hk)).trans (frm_set _ _ _ _ (F := fun k => k = w.heap.size + 1) (.inl rfl)) (fun k hk => .inl hk)
  have HR : Hid (Blk (((w8.setCell ⟨w.heap.size + 1, 0, none⟩ (.slice pQ nQ cQ)).setCell ⟨w.heap.size + 1, 1, none⟩ (.slice pU U.length cU)).setCell ⟨w.heap.size + 1, 2, none⟩ (.slice p8 n8 c8)) (w.heap.size + 1) #[.slice pQ nQ cQ, .slice pU U.length cU, .slice p8 n8 c8] 25) := ((hC.set 0 _).set 1 _).set 2 _
  clear c0 c1 c2 f0 f1 f2 hC
  generalize (((w8.setCell ⟨w.heap.size + 1, 0, none⟩ (.slice pQ nQ cQ)).setCell ⟨w.heap.size + 1, 1, none⟩ (.slice pU U.length cU)).setCell ⟨w.heap.size + 1, 2, none⟩ (.slice p8 n8 c8)) = we at *
  have r0 := HR.out.cell (i := 0) rfl
  have r1 := HR.out.cell (i := 1) rfl
  have r2 := HR.out.cell (i := 2) rfl
  go_wp2_with fail
  refine bodyPost_ret (v := .agg #[.slice pQ nQ cQ, .slice pU U.length cU, .slice p8 n8 c8]) (by simp [results, Try.results36, go_sem, r0, r1, r2]) rfl ?_
  have hw7 := HFW.out.2.2.2
  have hO1 : OwnS w8 w3.heap.size (.slice pU U.length cU) U := (HOU.out.kept HB57.out).kept HB78.out
  have hO0 : OwnP w8 w5.heap.size (.slice pQ nQ cQ) (dropG (anyS U) R) := HOQ.out.kept HB78.out
  refine ⟨_, _, _, ⟨dropG (anyS U) R, U, T⟩, rfl, (hO0.frm HF.out (fun b9 hb9 hk => by omega)).mono (by omega), (hO1.frm HF.out (fun b9 hb9 hk => by omega)).mono (by omega), (HO8.out.frm HF.out (fun b9 hb9 hk => by omega)).mono (by omega), ?_, ?_⟩
  · obtain ⟨hS, hA, hL⟩ := HFU.out
    obtain ⟨hR1, hR2, hR3⟩ := HFP.out
    exact ⟨hS, hA, hR1.drop _, fun x => by rw [mem_dropG, hR2 x, hA x], HFW.out.1, HFW.out.2.1, Nat.le_trans (List.length_filter_le _ _) hR3, hL, HFW.out.2.2.1⟩
  · have h8 : Below w.heap.size w w8 := HB3.out.trans ((HB37.out.mono (by omega)).trans (HB78.out.mono (by omega)))
    exact h8.trans (HF.out.below (by have := h8.size; omega) (fun k hk => by omega))

end

section
open Go.RowKit
set_option maxRecDepth 100000

set_option maxHeartbeats 8000000 in
theorem norm_any (f : Ft) (va0 va1 va2 : Value) (w : World) (hf : RdF w va0 va1 va2 f) :
    Calls Try.prog 16 #[.agg #[va0, va1, va2]] w fun e w' => (chkF f ≠ 0 ∧ e = .returned (.tuple #[.agg #[.slice none 0 0, .slice none 0 0, .slice none 0 0], .int .i64 (chkF f)]) ∨ chkF f = 0 ∧ ∃ x0 x1 x2 g, e = .returned (.tuple #[.agg #[x0, x1, x2], .int .i64 0]) ∧ OwnP w' w.heap.size x0 g.P ∧ OwnS w' w.heap.size x1 g.S ∧ OwnP w' w.heap.size x2 g.W ∧ NrmF f g) ∧ Below w.heap.size w w' := by
  obtain ⟨w3, hw3⟩ : ∃ w3, ((w.alloc (.cells #[va0, va1, va2] 25)).alloc (.cells #[.slice none 0 0, .slice none 0 0, .slice none 0 0] 25)) = w3 := ⟨_, rfl⟩
  have hz3 : w3.heap.size = w.heap.size + 1 + 1 := by rw [← hw3]; simp
  have HB3 : Hid (Below w.heap.size w w3) := by rw [← hw3]; exact ((Below.refl _ _).alloc (Nat.le_refl _) _).alloc (by simp) _
  have HKF : Hid (Blk w3 w.heap.size #[va0, va1, va2] 25) := by rw [← hw3]; exact (Blk.new w #[va0, va1, va2] 25).keep (B := w.heap.size + 1) ((Below.refl _ _).alloc (by simp) _) (by omega)
  have HKR : Hid (Blk w3 (w.heap.size + 1) #[.slice none 0 0, .slice none 0 0, .slice none 0 0] 25) := by
    rw [← hw3]
    have h := Blk.new (w.alloc (.cells #[va0, va1, va2] 25)) #[.slice none 0 0, .slice none 0 0, .slice none 0 0] 25
    rw [World.size_alloc] at h
    exact h
  have HA : Hid (RdF w3 va0 va1 va2 f) := hf.on HB3.out
  have HC : Hid (Calls _ _ _ _ _) := check_any f va0 va1 va2 w3 HA.out
  have g0 := HKF.out.cell (i := 0) rfl
  have g1 := HKF.out.cell (i := 1) rfl
  have g2 := HKF.out.cell (i := 2) rfl
  clear hf
  obtain ⟨p1, n1, c1, ev1⟩ : ∃ p n c, va1 = .slice p n c := by
    obtain ⟨p, c, e, _⟩ := HA.out.s.f
    exact ⟨_, _, _, e⟩
  obtain ⟨p0, n0, c0, ev0⟩ : ∃ p n c, va0 = .slice p n c := by
    obtain ⟨p, c, e, _⟩ := HA.out.p.f
    exact ⟨_, _, _, e⟩
  obtain ⟨p2, n2, c2, ev2⟩ : ∃ p n c, va2 = .slice p n c := by
    obtain ⟨p, c, e, _⟩ := HA.out.w.f
    exact ⟨_, _, _, e⟩
  subst ev0 ev1 ev2
  go_enter Try.func16, Try.ntmps16
  go_wp2_with fail
  refine HC.out.mono ?_
  rintro e w4 ⟨rfl, hb4⟩
  clear HC g0 g1 g2 hw3
  have HB4 : Hid (Below w3.heap.size w3 w4) := hb4
  have HR4 : Hid (Blk w4 (w.heap.size + 1) #[.slice none 0 0, .slice none 0 0, .slice none 0 0] 25) := HKR.out.on hb4
  have hz4 := hb4.size
  have c0 := HR4.out.cell (i := 0) rfl
  have c1 := HR4.out.cell (i := 1) rfl
  have c2 := HR4.out.cell (i := 2) rfl
  have f0 := HR4.out.frozen 0
  have f1 := HR4.out.frozen 1
  have f2 := HR4.out.frozen 2
  clear hb4
  by_cases hc : chkF f = 0
  · have hsz : f.S.length ≤ 65536 := by
      unfold chkF at hc
      by_cases h9 : 65536 < f.size
      · rw [if_pos h9] at hc; cases hc
      · unfold Ft.size at h9; omega
    rw [hc]
    have HN : Hid (Calls _ _ _ _ _) := normal_any f _ _ _ w4 (HA.out.on HB4.out) hsz
    have hK4 := HKF.out.on HB4.out
    have g0 := hK4.cell (i := 0) rfl
    have g1 := hK4.cell (i := 1) rfl
    have g2 := hK4.cell (i := 2) rfl
    clear hK4 c0 c1 c2 f0 f1 f2
    go_wp2_with fail
    refine HN.out.mono ?_
    rintro e w5 ⟨x0, x1, x2, g, rfl, h0, h1, h2, hN, hb5⟩
    clear HN g0 g1 g2
    have HO : Hid (OwnP w5 w4.heap.size x0 g.P ∧ OwnS w5 w4.heap.size x1 g.S ∧ OwnP w5 w4.heap.size x2 g.W ∧ NrmF f g ∧ Below w4.heap.size w4 w5) := ⟨h0, h1, h2, hN, hb5⟩
    obtain ⟨q0, m0, d0, ex0⟩ : ∃ p n c, x0 = .slice p n c := by
      obtain ⟨p, c, e, _⟩ := h0.row
      exact ⟨_, _, _, e⟩
    obtain ⟨q1, m1, d1, ex1⟩ : ∃ p n c, x1 = .slice p n c := by
      obtain ⟨p, c, e, _⟩ := h1.row
      exact ⟨_, _, _, e⟩
    obtain ⟨q2, m2, d2, ex2⟩ : ∃ p n c, x2 = .slice p n c := by
      obtain ⟨p, c, e, _⟩ := h2.row
      exact ⟨_, _, _, e⟩
    subst ex0 ex1 ex2
    have HR5 : Hid (Blk w5 (w.heap.size + 1) #[.slice none 0 0, .slice none 0 0, .slice none 0 0] 25) := HR4.out.on hb5
    have hz5 := hb5.size
    clear h0 h1 h2 hN hb5
    have c0 := HR5.out.cell (i := 0) rfl
    have c1 := HR5.out.cell (i := 1) rfl
    have c2 := HR5.out.cell (i := 2) rfl
    have f0 := HR5.out.frozen 0
    have f1 := HR5.out.frozen 1
    have f2 := HR5.out.frozen 2
    obtain ⟨we, hwe⟩ : ∃ we, (((w5.setCell ⟨w.heap.size + 1, 0, none⟩ (.slice q0 m0 d0)).setCell ⟨w.heap.size + 1, 1, none⟩ (.slice q1 m1 d1)).setCell ⟨w.heap.size + 1, 2, none⟩ (.slice q2 m2 d2)) = we := ⟨_, rfl⟩
    have HF : Hid (Frm w5 we (fun k => k = w.heap.size + 1)) := by rw [← hwe]; exact ((frm_set _ _ _ _ (F := fun k => k = w.heap.size + 1) (.inl rfl)).trans (frm_set _ _ _ _ (F := fun k => k = w.heap.size + 1) (.inl rfl)) (fun k hk => .inl hk)).trans (frm_set _ _ _ _ (F := fun k => k = w.heap.size + 1) (.inl rfl)) (fun k hk => .inl hk)
    have HR : Hid (Blk we (w.heap.size + 1) #[.slice q0 m0 d0, .slice q1 m1 d1, .slice q2 m2 d2] 25) := by rw [← hwe]; exact ((HR5.out.set 0 _).set 1 _).set 2 _
    have r0 := HR.out.cell (i := 0) rfl
    have r1 := HR.out.cell (i := 1) rfl
    have r2 := HR.out.cell (i := 2) rfl
    go_wp2_with fail
    refine bodyPost_ret (v := .tuple #[.agg #[.slice q0 m0 d0, .slice q1 m1 d1, .slice q2 m2 d2], .int .i64 0]) (by simp [results, Try.results16, go_sem, r0, r1, r2]) rfl ?_
    obtain ⟨h0, h1, h2, hN, hb5⟩ := HO.out
    refine ⟨.inr ⟨hc, _, _, _, g, rfl, (h0.frm HF.out (fun b9 hb9 hk => by omega)).mono (by omega), (h1.frm HF.out (fun b9 hb9 hk => by omega)).mono (by omega), (h2.frm HF.out (fun b9 hb9 hk => by omega)).mono (by omega), hN⟩, ?_⟩
    have h8 : Below w.heap.size w w5 := HB3.out.trans ((HB4.out.mono (by omega)).trans (hb5.mono (by omega)))
    exact h8.trans (HF.out.below (by have := h8.size; omega) (fun k hk => by omega))
  · have hne : (chkF f == 0) = false := by simpa using hc
    have HX : Hid (chkF f ≠ 0) := hc
    clear hc
    obtain ⟨we, hwe⟩ : ∃ we, (((w4.setCell ⟨w.heap.size + 1, 0, none⟩ (.slice none 0 0)).setCell ⟨w.heap.size + 1, 1, none⟩ (.slice none 0 0)).setCell ⟨w.heap.size + 1, 2, none⟩ (.slice none 0 0)) = we := ⟨_, rfl⟩
    have HF : Hid (Frm w4 we (fun k => k = w.heap.size + 1)) := by rw [← hwe]; exact ((frm_set _ _ _ _ (F := fun k => k = w.heap.size + 1) (.inl rfl)).trans (frm_set _ _ _ _ (F := fun k => k = w.heap.size + 1) (.inl rfl)) (fun k hk => .inl hk)).trans (frm_set _ _ _ _ (F := fun k => k = w.heap.size + 1) (.inl rfl)) (fun k hk => .inl hk)
    have HR : Hid (Blk we (w.heap.size + 1) #[.slice none 0 0, .slice none 0 0, .slice none 0 0] 25) := by rw [← hwe]; exact ((HR4.out.set 0 _).set 1 _).set 2 _
    have r0 := HR.out.cell (i := 0) rfl
    have r1 := HR.out.cell (i := 1) rfl
    have r2 := HR.out.cell (i := 2) rfl
    go_wp2_with fail
    refine bodyPost_ret (v := .tuple #[.agg #[.slice none 0 0, .slice none 0 0, .slice none 0 0], .int .i64 (chkF f)]) (by simp [results, Try.results16, go_sem, r0, r1, r2]) rfl ?_
    refine ⟨.inl ⟨HX.out, rfl⟩, ?_⟩
    have h8 : Below w.heap.size w w4 := HB3.out.trans (HB4.out.mono (by omega))
    exact h8.trans (HF.out.below (by have := h8.size; omega) (fun k hk => by omega))

end

end Go.Proofs.Ytjeidpgkgjljcaa
