/- A foot's normal foot: what it is; DeleteFunc with the closure of normal. normal: the normal foot. Norm. sort.Search with a closure that holds two values; a Log in memory that is read. -/
import Derived.LaidEqlPtr
import Derived.Test.YtcknhjabdjbjiabGreatGWNb
import Derived.Test.YtcknhjabdjbjiabGreatGWNm8
import Derived.Test.YtcknhjabdjbjiabGreatGWRs10
import Derived.Test.YtcknhjabdjbjiabGreatGWCl8
namespace Go.Proofs.YtcknhjabdjbjiabGreat

section
open Go.RowKit
set_option maxRecDepth 100000

/-- g is the normal foot of f -/
structure NrmF (f g : Ft) : Prop where
  s1 : SepS g.S
  s2 : ∀ x, anyS g.S x = anyS f.S x
  p1 : RisP g.P
  p2 : ∀ x, x ∈ g.P ↔ x ∈ f.P ∧ anyS f.S x = false
  w1 : RisP g.W
  w2 : ∀ x, x ∈ g.W ↔ x ∈ f.W
  lp : g.P.length ≤ f.P.length
  ls : g.S.length ≤ f.S.length
  lw : g.W.length ≤ f.W.length
theorem Ft.ext {f g : Ft} (h1 : f.P = g.P) (h2 : f.S = g.S) (h3 : f.W = g.W) : f = g := by
  cases f
  cases g
  simp only at h1 h2 h3
  subst h1 h2 h3
  rfl
theorem NrmF.uniq {f g h k : Ft} (hg : NrmF f g) (hh : NrmF h k) (hs : ∀ x, anyS f.S x = anyS h.S x) (hp : ∀ x, anyS f.S x = false → (x ∈ f.P ↔ x ∈ h.P)) (hw : ∀ x, x ∈ f.W ↔ x ∈ h.W) : g = k := by
  refine Ft.ext (RisP.uniq hg.p1 hh.p1 (fun x => ?_)) (sepS_unique _ _ hg.s1 hh.s1 (fun x => by rw [hg.s2, hh.s2, hs])) (RisP.uniq hg.w1 hh.w1 (fun x => by rw [hg.w2, hh.w2, hw]))
  rw [hg.p2, hh.p2, ← hs x]
  constructor
  · rintro ⟨h1, h2⟩; exact ⟨(hp x h2).1 h1, h2⟩
  · rintro ⟨h1, h2⟩; exact ⟨(hp x h2).2 h1, h2⟩
theorem NrmF.same {f g k : Ft} (hg : NrmF f g) (hh : NrmF f k) : g = k := hg.uniq hh (fun _ => rfl) (fun _ _ => Iff.rfl) (fun _ => Iff.rfl)

set_option maxHeartbeats 4000000 in
theorem deleteVP1_any (fid : FuncId) (k1 : Value) (t : Pt → Bool) (L : List Pt) (v : Value) (B : Nat) (w : World) (hin : ∀ args w, (callFunc fid args).run Tryz.prog w = .ok (.enter fid args) w) (hO : OwnP w B v L) (hB : B ≤ w.heap.size) (hlen : L.length ≤ 4398046511104)
    (HC : ∀ (x : Pt) (w1 : World), Below B w w1 → Calls Tryz.prog fid #[.agg #[.int .i64 x.t, .int .i64 x.i, .string x.k], k1] w1 fun e w' => e = .returned (.bool (t x)) ∧ Below w1.heap.size w1 w') :
    Calls Tryz.prog 45 #[v, .func (.func fid) #[] #[k1]] w fun e w' => ∃ v', e = .returned v' ∧ OwnP w' B v' (dropG t L) ∧ Below B w w' := by
  rcases hO.form with ⟨rfl, rfl⟩ | ⟨g, cap, rfl, _, _⟩
  · have C4 : Hid (Calls Tryz.prog 54 #[.slice none 0 0, .func (.func fid) #[] #[k1]] w fun e w' => e = .returned (.int .i64 (-1)) ∧ Below w.heap.size w w') := indexFP1_any fid k1 t [] none 0 w hin (fun i hi => absurd hi (by simp)) (by simp) (fun x w2 h2 => HC x w2 (h2.mono hB))
    clear HC hin
    go_enter Tryz.func45, Tryz.ntmps45
    go_wp2_with fail
    refine C4.out.mono ?_
    rintro e w2 ⟨rfl, hb2⟩
    go_wp2_with fail
    go_ret
    exact ⟨_, rfl, OwnP.nil _ _, hb2.mono hB⟩
  · refine (deleteFP1_any fid k1 t L g cap B w hin hO hlen HC).mono ?_
    rintro e w2 ⟨rfl, h2, h3⟩
    exact ⟨_, rfl, h2, h3⟩

set_option maxHeartbeats 4000000 in
theorem normal1_any (bx : Nat) (U : List Sp) (vU : Value) (x : Pt) (w : World) (hk : Blk w bx #[vU] 25) (h : SlS w vU U) (hS : SepS U) (hlen : U.length ≤ 2513169434916) :
    Calls Tryz.prog 69 #[PV x, ptr1 bx] w fun e w' => e = .returned (.bool (anyS U x)) ∧ Below w.heap.size w w' := by
  obtain ⟨p, c, rfl, hc1, hc2, hR⟩ := h.f
  obtain ⟨wA, hwA⟩ : ∃ wA, w.alloc (.cells #[.int .i64 x.t, .int .i64 x.i, .string x.k] 36) = wA := ⟨_, rfl⟩
  have HBA : Hid (Below w.heap.size w wA) := by rw [← hwA]; exact (Below.refl _ _).alloc (Nat.le_refl _) _
  have HKA : Hid (Blk wA w.heap.size #[.int .i64 x.t, .int .i64 x.i, .string x.k] 36) := by rw [← hwA]; exact Blk.new w _ _
  have HKB : Hid (Blk wA bx #[.slice p U.length c] 25) := hk.on HBA.out
  have CC : Hid (Calls _ _ _ _ _) := covers_any U (.slice p U.length c) x wA (h.on HBA.out) hS hlen
  have q0 := HKA.out.cell (i := 0) rfl
  have q1 := HKA.out.cell (i := 1) rfl
  have q2 := HKA.out.cell (i := 2) rfl
  have q3 := HKB.out.cell (i := 0) rfl
  clear hk h hR
  go_enter Tryz.func69, Tryz.ntmps69
  go_wp2_with fail
  refine CC.out.mono ?_
  rintro e w2 ⟨rfl, hb2⟩
  go_wp2_with fail
  go_ret
  exact ⟨rfl, HBA.out.trans (hb2.mono HBA.out.size)⟩

end

section
open Go.RowKit
set_option maxRecDepth 100000

theorem RisP.drop {L : List Pt} (h : RisP L) (t : Pt → Bool) : RisP (dropG t L) := List.Pairwise.sublist List.filter_sublist h
theorem mem_dropG (t : Pt → Bool) (L : List Pt) (x : Pt) : x ∈ dropG t L ↔ x ∈ L ∧ t x = false := by
  unfold dropG
  rw [List.mem_filter, Bool.not_eq_true']

set_option maxHeartbeats 8000000 in
theorem normal_any (f : Ft) (va0 va1 va2 : Value) (w : World) (hf : RdF w va0 va1 va2 f) (hl : f.S.length ≤ 65536) :
    Calls Tryz.prog 55 #[.agg #[va0, va1, va2]] w fun e w' => ∃ x0 x1 x2 g, e = .returned (.agg #[x0, x1, x2]) ∧ OwnP w' w.heap.size x0 g.P ∧ OwnS w' w.heap.size x1 g.S ∧ OwnP w' w.heap.size x2 g.W ∧ NrmF f g ∧ Below w.heap.size w w' := by
  obtain ⟨w3, hw3⟩ : ∃ w3, ((w.alloc (.cells #[va0, va1, va2] 27)).alloc (.cells #[.slice none 0 0, .slice none 0 0, .slice none 0 0] 27)) = w3 := ⟨_, rfl⟩
  have hz3 : w3.heap.size = w.heap.size + 1 + 1 := by rw [← hw3]; simp
  have HB3 : Hid (Below w.heap.size w w3) := by rw [← hw3]; exact ((Below.refl _ _).alloc (Nat.le_refl _) _).alloc (by simp) _
  have HKF : Hid (Blk w3 w.heap.size #[va0, va1, va2] 27) := by rw [← hw3]; exact (Blk.new w #[va0, va1, va2] 27).keep (B := w.heap.size + 1) ((Below.refl _ _).alloc (by simp) _) (by omega)
  have HKR : Hid (Blk w3 (w.heap.size + 1) #[.slice none 0 0, .slice none 0 0, .slice none 0 0] 27) := by
    rw [← hw3]
    have h := Blk.new (w.alloc (.cells #[va0, va1, va2] 27)) #[.slice none 0 0, .slice none 0 0, .slice none 0 0] 27
    rw [World.size_alloc] at h
    exact h
  have HA : Hid (RdF w3 va0 va1 va2 f) := hf.on HB3.out
  have g1 := HKF.out.cell (i := 1) rfl
  have HU : Hid (Calls _ _ _ _ _) := unions_any f.S va1 w3 HA.out.s hl
  clear hf
  obtain ⟨p1, n1, c1, ev1⟩ : ∃ p n c, va1 = .slice p n c := by
    obtain ⟨p, c, e, _⟩ := HA.out.s.f
    exact ⟨_, _, _, e⟩
  obtain ⟨p0, n0, c0, ev0⟩ : ∃ p n c, va0 = .slice p n c := by
    obtain ⟨p, c, e, _⟩ := HA.out.p.f
    exact ⟨_, _, _, e⟩
  obtain ⟨p2, n2, c2, ev2⟩ : ∃ p n c, va2 = .slice p n c := by
    obtain ⟨p, c, e, _⟩ := HA.out.w.f
    exact ⟨_, _, _, e⟩
  subst ev0 ev1 ev2
  go_enter Tryz.func55, Tryz.ntmps55
  go_wp2_with fail
  refine HU.out.mono ?_
  rintro e w4 ⟨vU, U, rfl, hOU, hSep, hAny, hUl, hb4⟩
  clear HU g1 hw3
  obtain ⟨pU, cU, rfl, _⟩ := hOU.row
  obtain ⟨w5, hw5⟩ : ∃ w5, w4.alloc (.cells #[.slice pU U.length cU] 25) = w5 := ⟨_, rfl⟩
  have hz5 : w5.heap.size = w4.heap.size + 1 := by rw [← hw5]; simp
  have HB5 : Hid (Below w4.heap.size w4 w5) := by rw [← hw5]; exact (Below.refl _ _).alloc (Nat.le_refl _) _
  have HKU : Hid (Blk w5 w4.heap.size #[.slice pU U.length cU] 25) := by rw [← hw5]; exact Blk.new w4 _ _
  have HB35 : Hid (Below w3.heap.size w3 w5) := hb4.trans (HB5.out.mono hb4.size)
  have HKF5 : Hid (Blk w5 w.heap.size #[.slice p0 n0 c0, .slice p1 n1 c1, .slice p2 n2 c2] 27) := HKF.out.on HB35.out
  have HOU : Hid (OwnS w5 w3.heap.size (.slice pU U.length cU) U) := hOU.kept HB5.out
  have HFU : Hid (SepS U ∧ (∀ x, anyS U x = anyS f.S x) ∧ U.length ≤ f.S.length) := ⟨hSep, hAny, hUl⟩
  have hz4 := hb4.size
  have hU5 : U.length ≤ 65536 := by omega
  have HI : Hid (Calls _ _ _ _ _) := inOrder_any f.P _ w5 (HA.out.p.on HB35.out) HA.out.lp
  have g0 := HKF5.out.cell (i := 0) rfl
  clear hOU hSep hAny hUl hb4
  go_wp2_with fail
  refine HI.out.mono ?_
  rintro e w6 ⟨vP, R, rfl, hOP, hRis, hRm, hRl, hb6⟩
  clear HI g0 hw5
  have HB56 : Hid (Below w5.heap.size w5 w6) := hb6
  have HOP : Hid (OwnP w6 w5.heap.size vP R) := hOP
  have HFP : Hid (RisP R ∧ (∀ x, x ∈ R ↔ x ∈ f.P) ∧ R.length ≤ f.P.length) := ⟨hRis, hRm, hRl⟩
  have hz6 := hb6.size
  have HD : Hid (Calls _ _ _ _ _) := deleteVP1_any 69 (ptr1 w4.heap.size) (anyS U) R vP w5.heap.size w6 (enters_of Tryz.func69 (by kernel_rfl) rfl) hOP hz6 (by have := HA.out.lp; omega)
    (fun x w9 h9 => normal1_any w4.heap.size U (.slice pU U.length cU) x w9 (HKU.out.keep (hb6.trans h9) (by omega)) ((HOU.out.sl.on (hb6.trans h9))) HFU.out.1 (by omega))
  clear hOP hRis hRm hRl hb6
  obtain ⟨pP, nP, cP, evP⟩ : ∃ p n c, vP = .slice p n c := by
    obtain ⟨p, c, e, _⟩ := HOP.out.row
    exact ⟨_, _, _, e⟩
  subst evP
  go_wp2_with fail
  refine HD.out.mono ?_
  rintro e w7 ⟨vQ, rfl, hOQ, hb7⟩
  clear HD HOP
  have HB57 : Hid (Below w5.heap.size w5 w7) := HB56.out.trans hb7
  have HOQ : Hid (OwnP w7 w5.heap.size vQ (dropG (anyS U) R)) := hOQ
  have hz7 := HB57.out.size
  clear hOQ hb7 HB56
  obtain ⟨pQ, nQ, cQ, evQ⟩ : ∃ p n c, vQ = .slice p n c := by
    obtain ⟨p, c, e, _⟩ := HOQ.out.row
    exact ⟨_, _, _, e⟩
  subst evQ
  have HB37 : Hid (Below w3.heap.size w3 w7) := HB35.out.trans (HB57.out.mono HB35.out.size)
  go_wp2_with fail
  refine wp_region_L (fun w' => Blk w' w.heap.size #[.slice p0 n0 c0, .slice p1 n1 c1, .slice p2 n2 c2] 27 ∧ Blk w' w4.heap.size #[.slice pU U.length cU] 25) 6 (by kernel_rfl) ?_
  have HDr : Hid (Below w7.heap.size w7 w7.drew) := (Below.refl _ _).drew
  have HSN : Hid (Blk w7.drew w.heap.size #[.slice p0 n0 c0, .slice p1 n1 c1, .slice p2 n2 c2] 27 ∧ Blk w7.drew w4.heap.size #[.slice pU U.length cU] 25) := ⟨(HKF5.out.on HB57.out).on HDr.out, (HKU.out.on HB57.out).on HDr.out⟩
  generalize w7.drew = wd at *
  refine wpL_take (v := ?_) 0 rfl (by kernel_rfl) (fun _ _ _ h => h) (by rfl) ?_ HSN.out ?_
  rotate_left
  focus
    intro w9 hw9
    have k0 := Blk.cell hw9.1 (i := 0) rfl
    have k1 := Blk.cell hw9.1 (i := 1) rfl
    have k2 := Blk.cell hw9.1 (i := 2) rfl
    have k3 := Blk.cell hw9.2 (i := 0) rfl
    go_simp
    try with_reducible rfl
  try simp only [Act.put, List.setIfInBounds_toArray, List.set_cons_zero, List.set_cons_succ]
  refine wpL_take (v := ?_) 1 rfl (by kernel_rfl) (fun _ _ _ h => h) (by rfl) ?_ HSN.out ?_
  rotate_left
  focus
    intro w9 hw9
    have k0 := Blk.cell hw9.1 (i := 0) rfl
    have k1 := Blk.cell hw9.1 (i := 1) rfl
    have k2 := Blk.cell hw9.1 (i := 2) rfl
    have k3 := Blk.cell hw9.2 (i := 0) rfl
    go_simp
    try with_reducible rfl
  try simp only [Act.put, List.setIfInBounds_toArray, List.set_cons_zero, List.set_cons_succ]
  refine wpL_take (v := ?_) 2 rfl (by kernel_rfl) (fun _ _ _ h => h) (by rfl) ?_ HSN.out ?_
  rotate_left
  focus
    intro w9 hw9
    have k0 := Blk.cell hw9.1 (i := 0) rfl
    have k1 := Blk.cell hw9.1 (i := 1) rfl
    have k2 := Blk.cell hw9.1 (i := 2) rfl
    have k3 := Blk.cell hw9.2 (i := 0) rfl
    go_simp
    try with_reducible rfl
  try simp only [Act.put, List.setIfInBounds_toArray, List.set_cons_zero, List.set_cons_succ]
  refine wpL_take (v := ?_) 3 rfl (by kernel_rfl) (fun _ _ _ h => h) (by rfl) ?_ HSN.out ?_
  rotate_left
  focus
    intro w9 hw9
    have k0 := Blk.cell hw9.1 (i := 0) rfl
    have k1 := Blk.cell hw9.1 (i := 1) rfl
    have k2 := Blk.cell hw9.1 (i := 2) rfl
    have k3 := Blk.cell hw9.2 (i := 0) rfl
    go_simp
    try with_reducible rfl
  try simp only [Act.put, List.setIfInBounds_toArray, List.set_cons_zero, List.set_cons_succ]
  refine wpL_one 4 rfl (by kernel_rfl) (by rfl) ?_
  intro K hK
  go_simp
  have CR : Hid (Calls Tryz.prog 60 #[.slice p2 n2 c2] wd fun e w' => ∃ (v' : Value) (T : List Pt), e = .returned v' ∧ OwnP w' wd.heap.size v' T ∧ RisP T ∧ (∀ x, x ∈ T ↔ x ∈ f.W) ∧ T.length ≤ f.W.length ∧ Below wd.heap.size wd w') := inOrder_any f.W _ wd ((HA.out.w.on HB37.out).on HDr.out) HA.out.lw
  refine CR.out.mono ?_
  rintro e w8 ⟨v8, T, rfl, hO8, hT1, hT2, hT3, hb8⟩
  dsimp only
  refine hK.out _ _ (fun _ => ⟨HSN.out.1.on hb8, HSN.out.2.on hb8⟩) ?_
  clear hK K CR
  try simp only [Act.put, List.setIfInBounds_toArray, List.set_cons_zero, List.set_cons_succ]
  have HSM : Hid (Blk w8 w.heap.size #[.slice p0 n0 c0, .slice p1 n1 c1, .slice p2 n2 c2] 27 ∧ Blk w8 w4.heap.size #[.slice pU U.length cU] 25) := ⟨HSN.out.1.on hb8, HSN.out.2.on hb8⟩
  have HB78 : Hid (Below w7.heap.size w7 w8) := HDr.out.trans (hb8.mono HDr.out.size)
  have HO8 : Hid (OwnP w8 wd.heap.size v8 T) := hO8
  have HFW : Hid (RisP T ∧ (∀ x, x ∈ T ↔ x ∈ f.W) ∧ T.length ≤ f.W.length ∧ w7.heap.size ≤ wd.heap.size) := ⟨hT1, hT2, hT3, HDr.out.size⟩
  clear HSN HDr hO8 hT1 hT2 hT3 hb8
  have HSN : Hid (Blk w8 w.heap.size #[.slice p0 n0 c0, .slice p1 n1 c1, .slice p2 n2 c2] 27 ∧ Blk w8 w4.heap.size #[.slice pU U.length cU] 25) := HSM.out
  obtain ⟨p8, n8, c8, ev8⟩ : ∃ p n c, v8 = .slice p n c := by
    obtain ⟨p, c, e, _⟩ := HO8.out.row
    exact ⟨_, _, _, e⟩
  subst ev8
  refine wpL_take (v := ?_) 5 rfl (by kernel_rfl) (fun _ _ _ h => h) (by rfl) ?_ HSN.out ?_
  rotate_left
  focus
    intro w9 hw9
    have k0 := Blk.cell hw9.1 (i := 0) rfl
    have k1 := Blk.cell hw9.1 (i := 1) rfl
    have k2 := Blk.cell hw9.1 (i := 2) rfl
    have k3 := Blk.cell hw9.2 (i := 0) rfl
    go_simp
    try with_reducible rfl
  try simp only [Act.put, List.setIfInBounds_toArray, List.set_cons_zero, List.set_cons_succ]
  have hC : Blk w8 (w.heap.size + 1) #[.slice none 0 0, .slice none 0 0, .slice none 0 0] 27 := (HKR.out.on HB37.out).on HB78.out
  have c0 := hC.cell (i := 0) rfl
  have c1 := hC.cell (i := 1) rfl
  have c2 := hC.cell (i := 2) rfl
  have f0 := hC.frozen 0
  have f1 := hC.frozen 1
  have f2 := hC.frozen 2
  refine wpL_one 6 rfl (by kernel_rfl) (by rfl) ?_
  intro K hK
  go_simp
  refine hK.out _ _ (fun h => absurd rfl h) ?_
  clear hK K
  try simp only [Act.put, List.setIfInBounds_toArray, List.set_cons_zero, List.set_cons_succ]
  refine wpL_done (by kernel_rfl) ?_ _
  try simp only [NoPanic]
  have HF : Hid (Frm w8 (((w8.setCell ⟨w.heap.size + 1, 0, none⟩ (.slice pQ nQ cQ)).setCell ⟨w.heap.size + 1, 1, none⟩ (.slice pU U.length cU)).setCell ⟨w.heap.size + 1, 2, none⟩ (.slice p8 n8 c8)) (fun k => k = w.heap.size + 1)) := ((frm_set _ _ _ _ (F := fun k => k = w.heap.size + 1) (.inl rfl)).trans (frm_set _ _ _ _ (F := fun k => k = w.heap.size + 1) (.inl rfl)) (fun k hk => .inl hk)).trans (frm_set _ _ _ _ (F := fun k => k = w.heap.size + 1) (.inl rfl)) (fun k hk => .inl hk)
  have HR : Hid (Blk (((w8.setCell ⟨w.heap.size + 1, 0, none⟩ (.slice pQ nQ cQ)).setCell ⟨w.heap.size + 1, 1, none⟩ (.slice pU U.length cU)).setCell ⟨w.heap.size + 1, 2, none⟩ (.slice p8 n8 c8)) (w.heap.size + 1) #[.slice pQ nQ cQ, .slice pU U.length cU, .slice p8 n8 c8] 27) := ((hC.set 0 _).set 1 _).set 2 _
  clear c0 c1 c2 f0 f1 f2 hC
  generalize (((w8.setCell ⟨w.heap.size + 1, 0, none⟩ (.slice pQ nQ cQ)).setCell ⟨w.heap.size + 1, 1, none⟩ (.slice pU U.length cU)).setCell ⟨w.heap.size + 1, 2, none⟩ (.slice p8 n8 c8)) = we at *
  have r0 := HR.out.cell (i := 0) rfl
  have r1 := HR.out.cell (i := 1) rfl
  have r2 := HR.out.cell (i := 2) rfl
  go_wp2_with fail
  refine bodyPost_ret (v := .agg #[.slice pQ nQ cQ, .slice pU U.length cU, .slice p8 n8 c8]) (by simp [results, Tryz.results55, go_sem, r0, r1, r2]) rfl ?_
  have hw7 := HFW.out.2.2.2
  have hO1 : OwnS w8 w3.heap.size (.slice pU U.length cU) U := (HOU.out.kept HB57.out).kept HB78.out
  have hO0 : OwnP w8 w5.heap.size (.slice pQ nQ cQ) (dropG (anyS U) R) := HOQ.out.kept HB78.out
  refine ⟨_, _, _, ⟨dropG (anyS U) R, U, T⟩, rfl, (hO0.frm HF.out (fun b9 hb9 hk => by omega)).mono (by omega), (hO1.frm HF.out (fun b9 hb9 hk => by omega)).mono (by omega), (HO8.out.frm HF.out (fun b9 hb9 hk => by omega)).mono (by omega), ?_, ?_⟩
  · obtain ⟨hS, hA, hL⟩ := HFU.out
    obtain ⟨hR1, hR2, hR3⟩ := HFP.out
    exact ⟨hS, hA, hR1.drop _, fun x => by rw [mem_dropG, hR2 x, hA x], HFW.out.1, HFW.out.2.1, Nat.le_trans (List.length_filter_le _ _) hR3, hL, HFW.out.2.2.1⟩
  · have h8 : Below w.heap.size w w8 := HB3.out.trans ((HB37.out.mono (by omega)).trans (HB78.out.mono (by omega)))
    exact h8.trans (HF.out.below (by have := h8.size; omega) (fun k hk => by omega))

end

section
open Go.RowKit
set_option maxRecDepth 100000

set_option maxHeartbeats 8000000 in
theorem norm_any (f : Ft) (va0 va1 va2 : Value) (w : World) (hf : RdF w va0 va1 va2 f) :
    Calls Tryz.prog 40 #[.agg #[va0, va1, va2]] w fun e w' => (chkF f ≠ 0 ∧ e = .returned (.tuple #[.agg #[.slice none 0 0, .slice none 0 0, .slice none 0 0], .int .i64 (chkF f)]) ∨ chkF f = 0 ∧ ∃ x0 x1 x2 g, e = .returned (.tuple #[.agg #[x0, x1, x2], .int .i64 0]) ∧ OwnP w' w.heap.size x0 g.P ∧ OwnS w' w.heap.size x1 g.S ∧ OwnP w' w.heap.size x2 g.W ∧ NrmF f g) ∧ Below w.heap.size w w' := by
  obtain ⟨w3, hw3⟩ : ∃ w3, ((w.alloc (.cells #[va0, va1, va2] 27)).alloc (.cells #[.slice none 0 0, .slice none 0 0, .slice none 0 0] 27)) = w3 := ⟨_, rfl⟩
  have hz3 : w3.heap.size = w.heap.size + 1 + 1 := by rw [← hw3]; simp
  have HB3 : Hid (Below w.heap.size w w3) := by rw [← hw3]; exact ((Below.refl _ _).alloc (Nat.le_refl _) _).alloc (by simp) _
  have HKF : Hid (Blk w3 w.heap.size #[va0, va1, va2] 27) := by rw [← hw3]; exact (Blk.new w #[va0, va1, va2] 27).keep (B := w.heap.size + 1) ((Below.refl _ _).alloc (by simp) _) (by omega)
  have HKR : Hid (Blk w3 (w.heap.size + 1) #[.slice none 0 0, .slice none 0 0, .slice none 0 0] 27) := by
    rw [← hw3]
    have h := Blk.new (w.alloc (.cells #[va0, va1, va2] 27)) #[.slice none 0 0, .slice none 0 0, .slice none 0 0] 27
    rw [World.size_alloc] at h
    exact h
  have HA : Hid (RdF w3 va0 va1 va2 f) := hf.on HB3.out
  have HC : Hid (Calls _ _ _ _ _) := check_any f va0 va1 va2 w3 HA.out
  have g0 := HKF.out.cell (i := 0) rfl
  have g1 := HKF.out.cell (i := 1) rfl
  have g2 := HKF.out.cell (i := 2) rfl
  clear hf
  obtain ⟨p1, n1, c1, ev1⟩ : ∃ p n c, va1 = .slice p n c := by
    obtain ⟨p, c, e, _⟩ := HA.out.s.f
    exact ⟨_, _, _, e⟩
  obtain ⟨p0, n0, c0, ev0⟩ : ∃ p n c, va0 = .slice p n c := by
    obtain ⟨p, c, e, _⟩ := HA.out.p.f
    exact ⟨_, _, _, e⟩
  obtain ⟨p2, n2, c2, ev2⟩ : ∃ p n c, va2 = .slice p n c := by
    obtain ⟨p, c, e, _⟩ := HA.out.w.f
    exact ⟨_, _, _, e⟩
  subst ev0 ev1 ev2
  go_enter Tryz.func40, Tryz.ntmps40
  go_wp2_with fail
  refine HC.out.mono ?_
  rintro e w4 ⟨rfl, hb4⟩
  clear HC g0 g1 g2 hw3
  have HB4 : Hid (Below w3.heap.size w3 w4) := hb4
  have HR4 : Hid (Blk w4 (w.heap.size + 1) #[.slice none 0 0, .slice none 0 0, .slice none 0 0] 27) := HKR.out.on hb4
  have hz4 := hb4.size
  have c0 := HR4.out.cell (i := 0) rfl
  have c1 := HR4.out.cell (i := 1) rfl
  have c2 := HR4.out.cell (i := 2) rfl
  have f0 := HR4.out.frozen 0
  have f1 := HR4.out.frozen 1
  have f2 := HR4.out.frozen 2
  clear hb4
  by_cases hc : chkF f = 0
  · have hsz : f.S.length ≤ 65536 := by
      unfold chkF at hc
      by_cases h9 : 65536 < f.size
      · rw [if_pos h9] at hc; cases hc
      · unfold Ft.size at h9; omega
    rw [hc]
    have HN : Hid (Calls _ _ _ _ _) := normal_any f _ _ _ w4 (HA.out.on HB4.out) hsz
    have hK4 := HKF.out.on HB4.out
    have g0 := hK4.cell (i := 0) rfl
    have g1 := hK4.cell (i := 1) rfl
    have g2 := hK4.cell (i := 2) rfl
    clear hK4 c0 c1 c2 f0 f1 f2
    go_wp2_with fail
    refine HN.out.mono ?_
    rintro e w5 ⟨x0, x1, x2, g, rfl, h0, h1, h2, hN, hb5⟩
    clear HN g0 g1 g2
    have HO : Hid (OwnP w5 w4.heap.size x0 g.P ∧ OwnS w5 w4.heap.size x1 g.S ∧ OwnP w5 w4.heap.size x2 g.W ∧ NrmF f g ∧ Below w4.heap.size w4 w5) := ⟨h0, h1, h2, hN, hb5⟩
    obtain ⟨q0, m0, d0, ex0⟩ : ∃ p n c, x0 = .slice p n c := by
      obtain ⟨p, c, e, _⟩ := h0.row
      exact ⟨_, _, _, e⟩
    obtain ⟨q1, m1, d1, ex1⟩ : ∃ p n c, x1 = .slice p n c := by
      obtain ⟨p, c, e, _⟩ := h1.row
      exact ⟨_, _, _, e⟩
    obtain ⟨q2, m2, d2, ex2⟩ : ∃ p n c, x2 = .slice p n c := by
      obtain ⟨p, c, e, _⟩ := h2.row
      exact ⟨_, _, _, e⟩
    subst ex0 ex1 ex2
    have HR5 : Hid (Blk w5 (w.heap.size + 1) #[.slice none 0 0, .slice none 0 0, .slice none 0 0] 27) := HR4.out.on hb5
    have hz5 := hb5.size
    clear h0 h1 h2 hN hb5
    have c0 := HR5.out.cell (i := 0) rfl
    have c1 := HR5.out.cell (i := 1) rfl
    have c2 := HR5.out.cell (i := 2) rfl
    have f0 := HR5.out.frozen 0
    have f1 := HR5.out.frozen 1
    have f2 := HR5.out.frozen 2
    obtain ⟨we, hwe⟩ : ∃ we, (((w5.setCell ⟨w.heap.size + 1, 0, none⟩ (.slice q0 m0 d0)).setCell ⟨w.heap.size + 1, 1, none⟩ (.slice q1 m1 d1)).setCell ⟨w.heap.size + 1, 2, none⟩ (.slice q2 m2 d2)) = we := ⟨_, rfl⟩
    have HF : Hid (Frm w5 we (fun k => k = w.heap.size + 1)) := by rw [← hwe]; exact ((frm_set _ _ _ _ (F := fun k => k = w.heap.size + 1) (.inl rfl)).trans (frm_set _ _ _ _ (F := fun k => k = w.heap.size + 1) (.inl rfl)) (fun k hk => .inl hk)).trans (frm_set _ _ _ _ (F := fun k => k = w.heap.size + 1) (.inl rfl)) (fun k hk => .inl hk)
    have HR : Hid (Blk we (w.heap.size + 1) #[.slice q0 m0 d0, .slice q1 m1 d1, .slice q2 m2 d2] 27) := by rw [← hwe]; exact ((HR5.out.set 0 _).set 1 _).set 2 _
    have r0 := HR.out.cell (i := 0) rfl
    have r1 := HR.out.cell (i := 1) rfl
    have r2 := HR.out.cell (i := 2) rfl
    go_wp2_with fail
    refine bodyPost_ret (v := .tuple #[.agg #[.slice q0 m0 d0, .slice q1 m1 d1, .slice q2 m2 d2], .int .i64 0]) (by simp [results, Tryz.results40, go_sem, r0, r1, r2]) rfl ?_
    obtain ⟨h0, h1, h2, hN, hb5⟩ := HO.out
    refine ⟨.inr ⟨hc, _, _, _, g, rfl, (h0.frm HF.out (fun b9 hb9 hk => by omega)).mono (by omega), (h1.frm HF.out (fun b9 hb9 hk => by omega)).mono (by omega), (h2.frm HF.out (fun b9 hb9 hk => by omega)).mono (by omega), hN⟩, ?_⟩
    have h8 : Below w.heap.size w w5 := HB3.out.trans ((HB4.out.mono (by omega)).trans (hb5.mono (by omega)))
    exact h8.trans (HF.out.below (by have := h8.size; omega) (fun k hk => by omega))
  · have hne : (chkF f == 0) = false := by simpa using hc
    have HX : Hid (chkF f ≠ 0) := hc
    clear hc
    obtain ⟨we, hwe⟩ : ∃ we, (((w4.setCell ⟨w.heap.size + 1, 0, none⟩ (.slice none 0 0)).setCell ⟨w.heap.size + 1, 1, none⟩ (.slice none 0 0)).setCell ⟨w.heap.size + 1, 2, none⟩ (.slice none 0 0)) = we := ⟨_, rfl⟩
    have HF : Hid (Frm w4 we (fun k => k = w.heap.size + 1)) := by rw [← hwe]; exact ((frm_set _ _ _ _ (F := fun k => k = w.heap.size + 1) (.inl rfl)).trans (frm_set _ _ _ _ (F := fun k => k = w.heap.size + 1) (.inl rfl)) (fun k hk => .inl hk)).trans (frm_set _ _ _ _ (F := fun k => k = w.heap.size + 1) (.inl rfl)) (fun k hk => .inl hk)
    have HR : Hid (Blk we (w.heap.size + 1) #[.slice none 0 0, .slice none 0 0, .slice none 0 0] 27) := by rw [← hwe]; exact ((HR4.out.set 0 _).set 1 _).set 2 _
    have r0 := HR.out.cell (i := 0) rfl
    have r1 := HR.out.cell (i := 1) rfl
    have r2 := HR.out.cell (i := 2) rfl
    go_wp2_with fail
    refine bodyPost_ret (v := .tuple #[.agg #[.slice none 0 0, .slice none 0 0, .slice none 0 0], .int .i64 (chkF f)]) (by simp [results, Tryz.results40, go_sem, r0, r1, r2]) rfl ?_
    refine ⟨.inl ⟨HX.out, rfl⟩, ?_⟩
    have h8 : Below w.heap.size w w4 := HB3.out.trans (HB4.out.mono (by omega))
    exact h8.trans (HF.out.below (by have := h8.size; omega) (fun k hk => by omega))

end

end Go.Proofs.YtcknhjabdjbjiabGreat

namespace Go.Proofs.YtcknhjabdjbjiabGreat
open Go.RowKit
set_option maxRecDepth 100000

set_option maxHeartbeats 4000000 in
theorem search2_any (fid : FuncId) (k1 k2 : Value) (P : Nat → Bool) (n : Nat) (w : World) (hin : ∀ args w, (callFunc fid args).run Tryz.prog w = .ok (.enter fid args) w) (hn : n ≤ 4398046511104) (hmo : ∀ i j, i ≤ j → j < n → P i = true → P j = true)
    (HC : ∀ (i : Nat) (w1 : World), i < n → Below w.heap.size w w1 → Calls Tryz.prog fid #[.int .i64 (i : Nat), k1, k2] w1 fun e w' => e = .returned (.bool (P i)) ∧ Below w1.heap.size w1 w') :
    Calls Tryz.prog 38 #[.int .i64 (n : Nat), .func (.func fid) #[] #[k1, k2]] w fun e w' => ∃ r : Nat, e = .returned (.int .i64 (r : Nat)) ∧ r ≤ n ∧ (∀ k, k < r → P k = false) ∧ (∀ k, r ≤ k → k < n → P k = true) ∧ Below w.heap.size w w' := by
  have HF : Hid (∀ (i : Nat) (w1 : World), i < n → Below w.heap.size w w1 → Calls Tryz.prog fid #[.int .i64 (i : Nat), k1, k2] w1 fun e w' => e = .returned (.bool (P i)) ∧ Below w1.heap.size w1 w') := HC
  have HM : Hid (∀ i j, i ≤ j → j < n → P i = true → P j = true) := hmo
  clear HC hmo
  go_enter Tryz.func38, Tryz.ntmps38
  go_wp2_with fail
  go_loopw [5, 6] (fun a b wr => ∃ i j : Nat, a = .int .i64 (i : Int) ∧ b = .int .i64 (j : Int) ∧ i ≤ j ∧ j ≤ n ∧ Hid (∀ k, k < i → P k = false) ∧ Hid (∀ k, j ≤ k → k < n → P k = true) ∧ Hid (Below w.heap.size w wr)) (fun a b _ => (intOf b).toNat - (intOf a).toNat)
  case atStart => exact ⟨0, n, by go_num, rfl, Nat.zero_le _, Nat.le_refl _, fun k h => absurd h (by omega), fun k h1 h2 => absurd h1 (by omega), Below.refl _ _⟩
  case round =>
    obtain ⟨i, j, rfl, rfl, hij, hj, hA, hB, HW⟩ := hrel
    by_cases h0 : i = j
    · subst h0
      go_wp2_with fail
      go_ret
      exact ⟨i, rfl, hj, hA.out, hB.out, HW.out⟩
    · have hl : i < j := by omega
      obtain ⟨m, hm⟩ : ∃ m : Nat, m = (i + j) / 2 := ⟨_, rfl⟩
      have hmi : ((i : Int) + (j : Int)) / 2 = ((m : Nat) : Int) := by omega
      have hm1 : m < n := by omega
      have hm2 : i ≤ m ∧ m < j := by omega
      have CM : Hid (Calls _ _ _ _ _) := HF.out m wr hm1 HW.out
      have HQ : Hid (i ≤ m ∧ m < j) := hm2
      clear hm hm2
      go_wp2_with fail
      clear hmi
      refine CM.out.mono ?_
      rintro e w2 ⟨rfl, hb2⟩
      clear CM
      have HW2 : Hid (Below w.heap.size w w2) := HW.out.trans (hb2.mono HW.out.size)
      clear hb2 HW
      cases hx : P m
      · have HA2 : Hid (∀ k, k < m + 1 → P k = false) := fun k hk => by
          cases h1 : P k
          · rfl
          · have := HM.out k m (by omega) hm1 h1
            rw [hx] at this
            cases this
        clear hx hA
        go_wp2_with fail
        go_roundw
        case rel => exact ⟨m + 1, j, by go_num, rfl, by have := HQ.out; omega, hj, HA2, hB, HW2⟩
        case measure => simp [intOf]; have := HQ.out; omega
      · have HB2 : Hid (∀ k, m ≤ k → k < n → P k = true) := fun k h1 h2 => HM.out m k h1 h2 hx
        clear hx hB
        go_wp2_with fail
        go_roundw
        case rel => exact ⟨i, m, rfl, rfl, HQ.out.1, by have := HQ.out; omega, hA, HB2, HW2⟩
        case measure => simp [intOf]; have := HQ.out; omega

theorem drew_below (w : World) (n : Nat) : Below w.heap.size w (w.drewN n) := ⟨rfl, rfl, rfl, Nat.le_refl _, fun _ _ => rfl⟩
/-- a commit: its stamp, the values that hold its foot, what it wrote -/
structure Cm where
  s : Nat
  v0 : Value
  v1 : Value
  v2 : Value
  W : List Pt
def RowC (w : World) (p : Option Addr) (L : List Cm) : Prop := ∀ i (hi : i < L.length), ∃ b o, p = some ⟨b, o, none⟩ ∧ b < w.heap.size ∧
  w.cell? ⟨b, o + i * 4, none⟩ = some (.int .u64 (L[i].s : Nat)) ∧ w.cell? ⟨b, o + i * 4 + 1, none⟩ = some L[i].v0 ∧ w.cell? ⟨b, o + i * 4 + 2, none⟩ = some L[i].v1 ∧ w.cell? ⟨b, o + i * 4 + 3, none⟩ = some L[i].v2
theorem RowC.on {w w' : World} {p : Option Addr} {L : List Cm} (h : RowC w p L) (hb : Below w.heap.size w w') : RowC w' p L := by
  intro i hi
  obtain ⟨b, o, e, hbB, c0, c1, c2, c3⟩ := h i hi
  have k : ∀ {o : Nat} {v : Option Value}, w.cell? ⟨b, o, none⟩ = v → w'.cell? ⟨b, o, none⟩ = v := fun {o v} hc => (hb.cell (p := ⟨b, o, none⟩) hbB).trans hc
  exact ⟨b, o, e, Nat.lt_of_lt_of_le hbB hb.size, k c0, k c1, k c2, k c3⟩
/-- the commits of a log, one behind the other -/
structure InvC (L : List Cm) : Prop where
  ris : ∀ i j (hi : i < L.length) (hj : j < L.length), i < j → L[i].s < L[j].s
  lo : ∀ c ∈ L, 1 ≤ c.s
  hi : ∀ c ∈ L, c.s ≤ 4611686018427387904
  len : L.length ≤ 4096
  lw : ∀ c ∈ L, c.W.length ≤ 65536
/-- a slice of commits that are read -/
structure SlC (w : World) (v : Value) (L : List Cm) : Prop where
  f : ∃ p c, v = .slice p L.length c ∧ L.length ≤ c ∧ (p = none → c = 0) ∧ RowC w p L
  ft : ∀ c ∈ L, RdF w c.v0 c.v1 c.v2 ⟨[], [], c.W⟩
theorem SlC.on {w w' : World} {v : Value} {L : List Cm} (h : SlC w v L) (hb : Below w.heap.size w w') : SlC w' v L := by
  obtain ⟨p, c, e, h1, h2, h3⟩ := h.f
  exact ⟨⟨p, c, e, h1, h2, h3.on hb⟩, fun c hc => (h.ft c hc).on hb⟩
/-- stamps that are read -/
structure SlU (w : World) (v : Value) (L : List Nat) : Prop where
  f : ∃ p c, v = .slice p L.length c ∧ L.length ≤ c ∧ (p = none → c = 0) ∧ ∀ i (hi : i < L.length), ∃ b o, p = some ⟨b, o, none⟩ ∧ b < w.heap.size ∧ w.cell? ⟨b, o + i, none⟩ = some (.int .u64 (L[i] : Nat))
theorem SlU.on {w w' : World} {v : Value} {L : List Nat} (h : SlU w v L) (hb : Below w.heap.size w w') : SlU w' v L := by
  obtain ⟨p, c, e, h1, h2, h3⟩ := h.f
  refine ⟨p, c, e, h1, h2, fun i hi => ?_⟩
  obtain ⟨b, o, e2, hbB, c0⟩ := h3 i hi
  exact ⟨b, o, e2, Nat.lt_of_lt_of_le hbB hb.size, (hb.cell (p := ⟨b, o + i, none⟩) hbB).trans c0⟩
/-- the stamps of the commits that wrote a point -/
def stsAt (L : List Cm) (x : Pt) : List Nat := (L.filter (fun c => decide (x ∈ c.W))).map (·.s)
/-- a Log that is read -/
structure LogX (w : World) (lb : Nat) (vC : Value) (mb : Nat) (E : List (Pt × Value)) (L : List Cm) : Prop where
  blk : Blk w lb #[ptr1 lb, vC, .map (some mb)] 49
  com : SlC w vC L
  map : MapV w mb E
  sts : ∀ x, SlU w (getV E x) (stsAt L x)
  inv : InvC L
theorem LogX.on {w w' : World} {lb : Nat} {vC : Value} {mb : Nat} {E : List (Pt × Value)} {L : List Cm} (h : LogX w lb vC mb E L) (hb : Below w.heap.size w w') : LogX w' lb vC mb E L :=
  ⟨h.blk.on hb, h.com.on hb, h.map.on hb, fun x => (h.sts x).on hb, h.inv⟩

theorem given_any (lb : Nat) (v1 v2 : Value) (w : World) (h : Blk w lb #[ptr1 lb, v1, v2] 49) :
    Calls Tryz.prog 19 #[ptr1 lb] w fun e w' => e = .returned (.bool true) ∧ w' = w := by
  have c0 : w.cell? ⟨lb, 0, none⟩ = some (ptr1 lb) := h.cell rfl
  obtain ⟨j, hj⟩ : ∃ j, Tryz.prog.info? 49 = some j := by
    have h : (Tryz.prog.info? 49).isSome = true := by kernel_rfl
    exact Option.isSome_iff_exists.1 h
  have hs := run_eql_ptr_same (P := Tryz.prog) (w := w) ⟨lb, 0, none⟩ Tryz.underlying31 hj
  clear h hj
  go_enter Tryz.func19, Tryz.ntmps19
  go_wp2_with fail
  go_ret
  exact ⟨rfl, rfl⟩

/-- the last stamp -/
def lastC (L : List Cm) : Nat := match L.getLast? with | some c => c.s | none => 0
set_option maxHeartbeats 2000000 in
theorem last_any (lb : Nat) (vC v2 : Value) (L : List Cm) (w : World) (h : Blk w lb #[ptr1 lb, vC, v2] 49) (hC : SlC w vC L) (hlen : L.length ≤ 4096) :
    Calls Tryz.prog 27 #[ptr1 lb] w fun e w' => e = .returned (.int .u64 (lastC L : Nat)) ∧ Below w.heap.size w w' := by
  obtain ⟨p, c, rfl, h1, h2, h3⟩ := hC.f
  have c1 : w.cell? ⟨lb, 1, none⟩ = some (.slice p L.length c) := h.cell rfl
  clear h hC
  obtain ⟨n, hn⟩ : ∃ n, L.length = n := ⟨_, rfl⟩
  rw [hn] at c1
  by_cases h0 : n = 0
  · have e0 : lastC L = 0 := by
      have : L = [] := List.eq_nil_of_length_eq_zero (by omega)
      rw [this]; rfl
    subst h0
    rw [e0]
    clear h3 hn h1 e0
    go_enter Tryz.func27, Tryz.ntmps27
    go_wp2_with fail
    go_ret
    exact ⟨rfl, Below.refl _ _⟩
  · obtain ⟨m, hm⟩ : ∃ m, n = m + 1 := ⟨n - 1, by omega⟩
    obtain ⟨b, o, rfl, hb, d0, -⟩ := h3 m (by omega)
    have e0 : lastC L = L[m].s := by
      unfold lastC
      rw [List.getLast?_eq_getElem?, List.getElem?_eq_getElem (by omega)]
      simp only [hn, hm, Nat.add_sub_cancel]
    rw [e0]
    have hw1 : IntKind.i64.wrap ((n : Int) - 1) = (m : Int) := by rw [IntKind.wrap_i64]; omega
    have hmn : m < n := by omega
    have hnz : ¬ n = 0 := h0
    clear e0 h3 h0 h1
    generalize L[m].s = x at *
    clear hn hm
    go_enter Tryz.func27, Tryz.ntmps27
    go_wp2_with fail
    go_quiet (fail)
    go_wp2_with fail
    go_ret
    exact ⟨rfl, drew_below _ _⟩

/-- how many commits are not behind a stamp -/
def IsBeh (L : List Cm) (fr r : Nat) : Prop := r ≤ L.length ∧ (∀ k (hk : k < L.length), k < r → L[k].s ≤ fr) ∧ (∀ k (hk : k < L.length), r ≤ k → fr < L[k].s)
set_option maxHeartbeats 2000000 in
theorem behindf_any (xb fb lb fr i : Nat) (vC v2 : Value) (L : List Cm) (w : World) (h : Blk w lb #[ptr1 lb, vC, v2] 49) (hC : SlC w vC L) (hx : w.cell? ⟨xb, 0, none⟩ = some (ptr1 lb)) (hf : w.cell? ⟨fb, 0, none⟩ = some (.int .u64 (fr : Nat))) (hi : i < L.length) :
    Calls Tryz.prog 49 #[.int .i64 (i : Nat), ptr1 xb, ptr1 fb] w fun e w' => e = .returned (.bool (decide (fr < L[i].s))) ∧ Below w.heap.size w w' := by
  obtain ⟨p, c, rfl, h1, h2, h3⟩ := hC.f
  have c1 : w.cell? ⟨lb, 1, none⟩ = some (.slice p L.length c) := h.cell rfl
  obtain ⟨b, o, rfl, hb, d0, -⟩ := h3 i hi
  clear h hC h3 h2
  generalize L[i].s = x at *
  generalize L.length = n at *
  clear h1
  go_enter Tryz.func49, Tryz.ntmps49
  go_wp2_with fail
  go_quiet (fail)
  go_wp2_with fail
  go_ret
  exact ⟨by first | rfl | simp, drew_below _ _⟩
theorem SlC.drop {w : World} {p : Option Addr} {c r : Nat} {L : List Cm} (h : SlC w (.slice p L.length c) L) (hr : r ≤ L.length) (q : Option Addr) (hq : ∀ b o, p = some ⟨b, o, none⟩ → r < c → q = some ⟨b, o + r * 4, none⟩) (hn : q = none → c - r = 0) : SlC w (.slice q (L.length - r) (c - r)) (L.drop r) := by
  obtain ⟨p', c', e, h1, h2, h3⟩ := h.f
  cases e
  refine ⟨⟨q, c - r, by rw [List.length_drop], by rw [List.length_drop]; omega, hn, ?_⟩, fun c hc => h.ft c (List.mem_of_mem_drop hc)⟩
  intro i hi
  rw [List.length_drop] at hi
  obtain ⟨b, o, e2, hb, c0, c1, c2, c3⟩ := h3 (r + i) (by omega)
  refine ⟨b, o + r * 4, hq b o e2 (by omega), hb, ?_⟩
  have e4 : o + r * 4 + i * 4 = o + (r + i) * 4 := by omega
  rw [e4]
  simp only [List.getElem_drop]
  exact ⟨c0, c1, c2, c3⟩
set_option maxHeartbeats 2000000 in
theorem behind_any (lb fr : Nat) (vC v2 : Value) (L : List Cm) (w : World) (h : Blk w lb #[ptr1 lb, vC, v2] 49) (hC : SlC w vC L) (hI : InvC L) :
    Calls Tryz.prog 29 #[ptr1 lb, .int .u64 (fr : Nat)] w fun e w' => ∃ v r, e = .returned v ∧ IsBeh L fr r ∧ SlC w' v (L.drop r) ∧ Below w.heap.size w w' := by
  obtain ⟨p, c, rfl, h1, h2, h3⟩ := hC.f
  obtain ⟨w2, hw2⟩ : ∃ w2, ((w.alloc (.cells #[ptr1 lb] 31)).alloc (.cells #[.int .u64 (fr : Nat)] 23)) = w2 := ⟨_, rfl⟩
  have HB2 : Hid (Below w.heap.size w w2) := by rw [← hw2]; exact ((Below.refl _ _).alloc (Nat.le_refl _) _).alloc (by simp) _
  have HX : Hid (w2.cell? ⟨w.heap.size, 0, none⟩ = some (ptr1 lb) ∧ w2.cell? ⟨w.heap.size + 1, 0, none⟩ = some (.int .u64 (fr : Nat)) ∧ w.heap.size + 1 < w2.heap.size) := by
    have hA : Blk w2 w.heap.size #[ptr1 lb] 31 := by rw [← hw2]; exact (Blk.new w _ _).keep (B := w.heap.size + 1) ((Below.refl _ _).alloc (by simp) _) (by omega)
    have hB : Blk w2 (w.heap.size + 1) #[.int .u64 (fr : Nat)] 23 := by
      rw [← hw2]
      have h := Blk.new (w.alloc (.cells #[ptr1 lb] 31)) #[.int .u64 (fr : Nat)] 23
      rw [World.size_alloc] at h
      exact h
    exact ⟨hA.cell rfl, hB.cell rfl, hB.lt⟩
  have CS : Hid (Calls _ _ _ _ _) := search2_any 49 (ptr1 w.heap.size) (ptr1 (w.heap.size + 1)) (fun i => if hi : i < L.length then decide (fr < L[i].s) else true) L.length w2 (fun _ _ => rfl) (by have := hI.len; omega)
    (fun i j hij hj hp => by
      have hi : i < L.length := by omega
      rw [dif_pos hi] at hp
      rw [dif_pos hj]
      have h5 := of_decide_eq_true hp
      rcases Nat.lt_or_ge i j with h6 | h6
      · have := hI.ris i j hi hj h6
        exact decide_eq_true (by omega)
      · have : i = j := by omega
        subst this
        exact hp)
    (fun i w1 hi hb => by
      rw [dif_pos hi]
      exact behindf_any _ _ lb fr i _ v2 L w1 ((h.on HB2.out).on hb) ((hC.on HB2.out).on hb) ((hb.cell (p := ⟨w.heap.size, 0, none⟩) (show w.heap.size < w2.heap.size by have := HX.out.2.2; omega)).trans HX.out.1) ((hb.cell (p := ⟨w.heap.size + 1, 0, none⟩) HX.out.2.2).trans HX.out.2.1) hi)
  have HL : Hid (Blk w lb #[ptr1 lb, .slice p L.length c, v2] 49) := h
  have HC : Hid (SlC w (.slice p L.length c) L) := hC
  have g0 := HX.out.1
  have g1 := (h.on HB2.out).cell (i := 1) rfl
  clear h hC h3 hI
  go_enter Tryz.func29, Tryz.ntmps29
  go_wp2_with fail
  clear g0 g1 hw2
  refine CS.out.mono ?_
  rintro e w3 ⟨r, rfl, hr, hr1, hr2, hb3⟩
  clear CS
  have HBe : Hid (IsBeh L fr r) := ⟨hr, fun k hk hkr => by
    have := hr1 k hkr
    rw [dif_pos hk] at this
    have := of_decide_eq_false this
    omega, fun k hk hkr => by
    have := hr2 k hkr hk
    rw [dif_pos hk] at this
    exact of_decide_eq_true this⟩
  have HB3 : Hid (Below w.heap.size w w3) := HB2.out.trans (hb3.mono HB2.out.size)
  have g0 := (hb3.cell (p := ⟨w.heap.size, 0, none⟩) (show w.heap.size < w2.heap.size by have := HX.out.2.2; omega)).trans HX.out.1
  have g1 := (HL.out.on HB3.out).cell (i := 1) rfl
  have HC3 : Hid (SlC w3 (.slice p L.length c) L) := HC.out.on HB3.out
  clear hr1 hr2 hb3 HB2 HX HC HL
  obtain ⟨n, hn⟩ : ∃ n, L.length = n := ⟨_, rfl⟩
  have HD : Hid (∀ q, (∀ b o, p = some ⟨b, o, none⟩ → r < c → q = some ⟨b, o + r * 4, none⟩) → (q = none → c - r = 0) → SlC w3 (.slice q (n - r) (c - r)) (L.drop r)) := fun q hq hq2 => by
    have := HC3.out.drop hr q hq hq2
    rw [hn] at this
    exact this
  rw [hn] at g1 h1 hr
  clear hn HC3
  by_cases hcr : c = r
  · obtain rfl := hcr.symm
    go_wp2_with fail
    go_ret
    exact ⟨.slice p 0 0, r, rfl, HBe.out, by have := HD.out p (fun _ _ _ h => absurd h (by omega)) (fun _ => by omega); rw [Nat.sub_self, show n - r = 0 by omega] at this; exact this, HB3.out⟩
  · cases p with
    | none => exact absurd (h2 rfl) (by omega)
    | some a =>
      clear h2
      go_wp2_with fail
      go_ret
      refine ⟨_, r, rfl, HBe.out, HD.out _ ?_ ?_, HB3.out⟩
      · intro b o e _
        cases e
        simp [Addr.add]
      · intro e; cases e

end Go.Proofs.YtcknhjabdjbjiabGreat
