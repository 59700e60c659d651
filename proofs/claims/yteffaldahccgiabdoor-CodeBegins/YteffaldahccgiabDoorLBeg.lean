/- The walk of the statement on beginnings: it answers true. -/
import Derived.Test.YteffaldahccgiabDoorWCmpL
import Derived.Test.YteffaldahccgiabDoorWHas
import Derived.Test.YteffaldahccgiabDoorWRan
import Derived.Deep.RegionHeld3
namespace Go.Proofs.YteffaldahccgiabDoor
open Go.RowKit Ieee
set_option maxRecDepth 100000

theorem RowV.take {w : World} {B : Nat} {p : Option Addr} {L : List Vl} (h : RowV w B p L) (n : Nat) : RowV w B p (L.take n) := by
  intro i hi
  have hi' : i < L.length := by simp at hi; omega
  obtain ⟨b, o, e, hb, r⟩ := h i hi'
  have e2 : (L.take n)[i] = L[i] := by simp
  rw [e2]
  exact ⟨b, o, e, hb, r⟩

set_option maxHeartbeats 2000000 in
theorem beginsL_any (A C : List Vl) (p q : Option Addr) (c d : Nat) (w : World) (hA : RowV w w.heap.size p A) (hC : RowV w w.heap.size q C) (oA : ∀ v ∈ A, v.ok) (oC : ∀ v ∈ C, v.ok) (lA : A.length ≤ 3518437208784) (_lC : C.length ≤ 3518437208784) (hd : C.length ≤ d) :
    Calls Tryd.prog 16 #[.slice p A.length c, .slice q C.length d] w fun e w' => e = .returned (.bool (beginsL A C)) ∧ Below w.heap.size w w' := by
  unfold beginsL
  by_cases hle : A.length ≤ C.length
  · have C4 : Hid (∀ w1 : World, Below w.heap.size w w1 → Calls _ _ _ _ _) := fun w1 hb => rcmp_any A (C.take A.length) p q c d w1 ((hA.keep hb).mono hb.size) (((hC.keep hb).mono hb.size).take _) oA (fun v hv => oC v (List.mem_of_mem_take hv)) lA (by simp; omega)
    have e : (C.take A.length).length = A.length := by simp; omega
    rw [e] at C4
    have e2 : decide (A.length ≤ C.length) = true := by simp [hle]
    rw [e2]
    clear e e2 hA hC oA oC
    generalize cmpL A (List.take A.length C) = cm at *
    generalize A.length = n at *
    generalize C.length = m at *
    go_enter Tryd.func16, Tryd.ntmps16
    go_wp2_with (first | (go_at_call 17; refine (C4.out _ (by first | exact Below.refl _ _ | go_grown)).mono ?_; rintro e w1 ⟨rfl, hb1⟩))
    go_ret
    exact ⟨by simp, hb1⟩
  · have e2 : decide (A.length ≤ C.length) = false := by simp; omega
    rw [e2]
    clear e2 hA hC oA oC
    generalize cmpL A (List.take A.length C) = cm at *
    have hlt : (C.length : Int) < A.length := by omega
    clear hle
    generalize A.length = n at *
    generalize C.length = m at *
    go_enter Tryd.func16, Tryd.ntmps16
    go_wp2
    go_ret
    exact ⟨by simp, Below.refl _ _⟩

theorem encS_size (L : List Vl) : (encS L).1.length ≤ 1024 := by
  unfold encS
  split
  · split
    · rename_i h; exact h
    · simp
  · simp

/-- a key as bytes of a string -/
theorem mk_toList (l : List UInt8) : (ByteArray.mk l.toArray).data.toList = l := by simp
theorem lt_encS {A C : List Vl} (hA : (encS A).2 = 0) (hC : (encS C).2 = 0) (oA : ∀ v ∈ A, v.ok) (oC : ∀ v ∈ C, v.ok) (k ka : ByteArray) (hk : k = ⟨(encS C).1.toArray⟩) (hka : ka = ⟨(encS A).1.toArray⟩) :
    hasB ka (ka ++ ⟨#[255]⟩) false k = beginsL A C ∧ (∀ x, hasB (if x then ka else ka ++ ⟨#[255]⟩) ⟨#[]⟩ true k = (decide (0 ≤ cmpL C A) && (x || !beginsL A C))) ∧
    (∀ t, hasB ⟨#[]⟩ t false k = !hasB t ⟨#[]⟩ true k) := by
  obtain ⟨eA, fA⟩ := encS_ok hA oA
  obtain ⟨eC, fC⟩ := encS_ok hC oC
  have h1 : k.data.toList = encL C := by rw [hk, mk_toList, eC]
  have h2 : ka.data.toList = encL A := by rw [hka, mk_toList, eA]
  have h3 : (ka ++ ⟨#[255]⟩ : ByteArray).data.toList = encL A ++ [255] := by rw [ByteArray.data_append, Array.toList_append, h2]
  have hb := enc_begins A C fA fC
  have ho := enc_order C A fC fA
  have l1 : ltB k ka = decide (cmpL C A = -1) := by rw [ltB_cb, h1, h2, ho]
  have l2 : ltB k (ka ++ ⟨#[255]⟩) = decide (Lib.compareBytes (encL C) (encL A ++ [255]) = -1) := by rw [ltB_cb, h1, h3]
  have l3 : ∀ t : ByteArray, ltB t ⟨#[]⟩ = false := by
    intro t
    rw [ltB_cb]
    cases ht : t.data.toList <;> simp [Lib.compareBytes]
  have hr : cmpL C A = -1 ∨ cmpL C A = 0 ∨ cmpL C A = 1 := by rw [← ho]; exact cb_range _ _
  rw [ho] at hb
  have hbb : beginsL A C = ((cmpL C A != -1) && decide (Lib.compareBytes (encL C) (encL A ++ [255]) = -1)) := by
    rw [← hb]
    congr 1
  -- if the key is behind key and 255, it is behind the key
  have mono : cmpL C A = -1 → Lib.compareBytes (encL C) (encL A ++ [255]) = -1 := by
    intro h
    rw [← ho] at h
    have h4 : Lib.compareBytes (encL A) (encL A ++ [255]) ≤ 0 := by
      have := cb_pre (encL A) [] [255]
      rw [List.append_nil] at this
      rw [this]; simp [Lib.compareBytes]
    have h5 := cb_trans (encL C) (encL A) (encL A ++ [255]) (by omega) h4
    rcases cb_range (encL C) (encL A ++ [255]) with h6 | h6 | h6
    · exact h6
    · exfalso
      have e := eq_cb (encL C) (encL A ++ [255])
      rw [h6] at e
      have e' : encL C = encL A ++ [255] := by simpa using e
      rw [e'] at h
      have h7 := cb_pre (encL A) [255] []
      rw [List.append_nil] at h7
      rw [h7] at h
      simp [Lib.compareBytes] at h
    · omega
  refine ⟨?_, ?_, ?_⟩
  · unfold hasB
    rw [l1, l2, hbb]
    rcases hr with h | h | h <;> simp [h]
  · intro x
    unfold hasB
    rw [hbb]
    cases x
    · simp only [Bool.false_eq_true, if_false, Bool.true_or, Bool.and_true, Bool.false_or]
      rw [l2]
      rcases hr with h | h | h
      · simp [h, mono h]
      · simp [h]
      · simp [h]
    · simp only [if_true, Bool.true_or, Bool.and_true]
      rw [l1]
      rcases hr with h | h | h <;> simp [h]
  · intro t
    unfold hasB
    rw [l3]
    simp

/-- what is held while the statement is walked: three ranges' boxes -/
abbrev SB (w : World) (N g2 g3 g4 : Nat) (a1 a2 b1 b2 c1 c2 : ByteArray) (x y z : Bool) (w' : World) : Prop :=
  w'.cell? ⟨g2, 0, none⟩ = some (.string a1) ∧ w'.cell? ⟨g2, 1, none⟩ = some (.string a2) ∧ w'.cell? ⟨g2, 2, none⟩ = some (.bool x) ∧
  w'.cell? ⟨g3, 0, none⟩ = some (.string b1) ∧ w'.cell? ⟨g3, 1, none⟩ = some (.string b2) ∧ w'.cell? ⟨g3, 2, none⟩ = some (.bool y) ∧
  w'.cell? ⟨g4, 0, none⟩ = some (.string c1) ∧ w'.cell? ⟨g4, 1, none⟩ = some (.string c2) ∧ w'.cell? ⟨g4, 2, none⟩ = some (.bool z) ∧
  g2 < N ∧ g3 < N ∧ g4 < N ∧ N ≤ w'.heap.size ∧ w.heap.size ≤ N ∧ Below w.heap.size w w'
theorem startSB {w : World} {g2 g3 g4 : Nat} {a1 a2 b1 b2 c1 c2 : ByteArray} {x y z : Bool} {w' : World} (h2 : BoxR w' g2 a1 a2 x) (h3 : BoxR w' g3 b1 b2 y) (h4 : BoxR w' g4 c1 c2 z) (hb : Below w.heap.size w w') : SB w w'.heap.size g2 g3 g4 a1 a2 b1 b2 c1 c2 x y z w'.drew :=
  ⟨h2.2.1, h2.2.2.1, h2.2.2.2, h3.2.1, h3.2.2.1, h3.2.2.2, h4.2.1, h4.2.2.1, h4.2.2.2, h2.1, h3.1, h4.1, Nat.le_refl _, hb.size, hb.drew⟩
theorem keepSB {w : World} {N g2 g3 g4 : Nat} {a1 a2 b1 b2 c1 c2 : ByteArray} {x y z : Bool} {B : Nat} {wp w' : World} (hb : Below B wp w') (h : SB w N g2 g3 g4 a1 a2 b1 b2 c1 c2 x y z wp) (hB : B = wp.heap.size ∨ N ≤ B) : SB w N g2 g3 g4 a1 a2 b1 b2 c1 c2 x y z w' := by
  obtain ⟨h1, h2, h3, h4, h5, h6, h7, h8, h9, i2, i3, i4, hN, hw, hbl⟩ := h
  have := hb.size
  have hk : N ≤ B := by omega
  have o : ∀ {b o : Nat} {v : Option Value}, b < N → wp.cell? ⟨b, o, none⟩ = v → w'.cell? ⟨b, o, none⟩ = v := fun {b o v} hb' hc => (hb.cell (p := ⟨b, o, none⟩) (by show b < B; omega)).trans hc
  exact ⟨o i2 h1, o i2 h2, o i2 h3, o i3 h4, o i3 h5, o i3 h6, o i4 h7, o i4 h8, o i4 h9, i2, i3, i4, by omega, hw, hbl.trans (hb.mono (by omega))⟩

theorem endSB {w : World} {N g2 g3 g4 : Nat} {a1 a2 b1 b2 c1 c2 : ByteArray} {x y z : Bool} {wp : World} (h : SB w N g2 g3 g4 a1 a2 b1 b2 c1 c2 x y z wp) : Below w.heap.size w wp := h.2.2.2.2.2.2.2.2.2.2.2.2.2.2

set_option maxHeartbeats 8000000 in
theorem lawBegins (A C : List Vl) (p q : Option Addr) (c d : Nat) (x : Bool) (w : World) (hA : RowV w w.heap.size p A) (hC : RowV w w.heap.size q C) (oA : ∀ v ∈ A, v.ok) (oC : ∀ v ∈ C, v.ok) (lA : A.length ≤ 3518437208784) (lC : C.length ≤ 3518437208784) (hd : C.length ≤ d) (hg : 2 < w.heap.size) (hT : Lib.Utf8Tabs 1 2 w) :
    Calls Tryd.prog 4 #[.slice p A.length c, .slice q C.length d, .bool x] w fun e w' => e = .returned (.bool true) ∧ Below w.heap.size w w' := by
  have EA : EncC 7 w (.slice p A.length c) ⟨(encS A).1.toArray⟩ (encS A).2 := fun w1 hb => encode_any A p c w1 ((hA.keep hb).mono hb.size) oA lA (by have := hb.size; omega) (tabs_keep hb hg hT)
  have EC : EncC 7 w (.slice q C.length d) ⟨(encS C).1.toArray⟩ (encS C).2 := fun w1 hb => encode_any C q d w1 ((hC.keep hb).mono hb.size) oC lC (by have := hb.size; omega) (tabs_keep hb hg hT)
  have hk : (ByteArray.mk (encS A).1.toArray).size ≤ 1024 := encS_size A
  have C1 : Hid (EncC 7 w (.slice q C.length d) ⟨(encS C).1.toArray⟩ (encS C).2) := EC
  have C2 : Hid (∀ w1 : World, Below w.heap.size w w1 → Calls _ _ _ _ _) := fun w1 hb => begins_any _ _ hk _ w1 (encC_keep EA hb)
  have C3 : Hid (∀ w1 : World, Below w.heap.size w w1 → Calls _ _ _ _ _) := fun w1 hb => from_any _ _ hk _ x w1 (encC_keep EA hb)
  have C4 : Hid (∀ w1 : World, Below w.heap.size w w1 → Calls _ _ _ _ _) := fun w1 hb => to_any _ _ hk _ (!x) w1 (encC_keep EA hb)
  have C5 : Hid (∀ w1 : World, Below w.heap.size w w1 → Calls _ _ _ _ _) := fun w1 hb => rcmp_any C A q p d c w1 ((hC.keep hb).mono hb.size) ((hA.keep hb).mono hb.size) oC oA lC lA
  have C6 : Hid (∀ w1 : World, Below w.heap.size w w1 → Calls _ _ _ _ _) := fun w1 hb => beginsL_any A C p q c d w1 ((hA.keep hb).mono hb.size) ((hC.keep hb).mono hb.size) oA oC lA lC hd
  have C7 : Hid (∀ w1 : World, Below w.heap.size w w1 → Calls _ _ _ _ _) := fun w1 hb => awake_any w1 (by have := hb.size; omega) (tabs_keep hb hg hT)
  have HM : Hid ((encS A).2 = 0 → (encS C).2 = 0 → _) := fun h1 h2 => lt_encS h1 h2 oA oC ⟨(encS C).1.toArray⟩ ⟨(encS A).1.toArray⟩ rfl rfl
  unfold begV at C2
  unfold fromV at C3
  unfold toV at C4
  generalize ByteArray.mk (encS A).1.toArray = ka at *
  generalize ByteArray.mk (encS C).1.toArray = k at *
  generalize (encS A).2 = ea at *
  generalize (encS C).2 = ec at *
  generalize cmpL C A = cm at *
  generalize beginsL A C = bg at *
  generalize A.length = n at *
  generalize C.length = m at *
  clear hA hC oA oC hT EA EC hk lA lC
  by_cases h1 : ec = 0
  · subst h1
    by_cases h2 : ea = 0
    · subst h2
      obtain ⟨m1, m2, m3⟩ := HM.out rfl rfl
      simp only [if_true] at C2 C3 C4
      have eT : (if (!x) = true then ka ++ ⟨#[255]⟩ else ka) = (if x = true then ka else ka ++ ⟨#[255]⟩) := by cases x <;> rfl
      rw [eT] at C4
      have m2' := m2 x
      have m3' := m3 (if x = true then ka else ka ++ ⟨#[255]⟩)
      clear m2 m3 eT HM
      generalize (if x = true then ka else ka ++ ⟨#[255]⟩) = T at *
      generalize ka ++ ⟨#[255]⟩ = kf at *
      go_enter Tryd.func4, Tryd.ntmps4
      go_wp2_with fail
      refine (C1.out _ (Below.refl _ _)).mono ?_
      rintro e w1 ⟨rfl, hb1⟩
      go_wp2_with fail
      refine (C2.out _ hb1).mono ?_
      rintro e w2 ⟨rfl, hb2⟩
      have b2 : Below w.heap.size w w2 := hb1.trans (hb2.mono hb1.size)
      have B2 : Hid (Below w.heap.size w _) := b2.alloc b2.size (.cells #[.string ka, .string kf, .bool false] 36)
      have G2 : Hid (BoxR _ w2.heap.size ka kf false) := BoxR.new w2 ka kf false
      clear hb1 hb2 b2
      go_wp2_with fail
      refine (C3.out _ B2.out).mono ?_
      rintro e w3 ⟨rfl, hb3⟩
      have b3 : Below w.heap.size w w3 := B2.out.trans (hb3.mono B2.out.size)
      have B3 : Hid (Below w.heap.size w _) := b3.alloc b3.size (.cells #[.string T, .string ⟨#[]⟩, .bool true] 36)
      have G2 : Hid (BoxR _ w2.heap.size ka kf false) := (G2.out.keep hb3).alloc (.cells #[.string T, .string ⟨#[]⟩, .bool true] 36)
      have G3 : Hid (BoxR _ w3.heap.size T ⟨#[]⟩ true) := BoxR.new w3 T ⟨#[]⟩ true
      clear hb3 b3
      go_wp2_with fail
      refine (C4.out _ B3.out).mono ?_
      rintro e w4 ⟨rfl, hb4⟩
      have b4 : Below w.heap.size w w4 := B3.out.trans (hb4.mono B3.out.size)
      have B4 : Hid (Below w.heap.size w _) := b4.alloc b4.size (.cells #[.string ⟨#[]⟩, .string T, .bool false] 36)
      have G2 : Hid (BoxR _ w2.heap.size ka kf false) := (G2.out.keep hb4).alloc (.cells #[.string ⟨#[]⟩, .string T, .bool false] 36)
      have G3 : Hid (BoxR _ w3.heap.size T ⟨#[]⟩ true) := (G3.out.keep hb4).alloc (.cells #[.string ⟨#[]⟩, .string T, .bool false] 36)
      have G4 : Hid (BoxR _ w4.heap.size ⟨#[]⟩ T false) := BoxR.new w4 ⟨#[]⟩ T false
      clear hb4 b4
      cases bg <;> cases x <;> rcases (show cm < 0 ∨ 0 ≤ cm by omega) with hcm | hcm
      · have hd : decide (0 ≤ cm) = false := by simp; omega
        rw [hd] at m2'
        have m2v : hasB T ⟨#[]⟩ true k = false := m2'
        rw [m2v] at m3'
        have m3v : hasB ⟨#[]⟩ T false k = true := m3'
        clear m2' m3' hd
        go_wp2_with fail
        have ST : Hid (SB w _ w2.heap.size w3.heap.size w4.heap.size ka kf T ⟨#[]⟩ ⟨#[]⟩ T false true false _) := startSB G2.out G3.out G4.out B4.out
        go_region_held3 (fun w' => SB w (w4.alloc (.cells #[.string ⟨#[]⟩, .string T, .bool false] 36)).heap.size w2.heap.size w3.heap.size w4.heap.size ka kf T ⟨#[]⟩ ⟨#[]⟩ T false true false w') (first | exact ST.out | (apply keepSB; assumption; assumption; first | exact Or.inl rfl | exact Or.inr (Nat.le_refl _) | exact Or.inr (by simp))) (first | (go_at_call 15; refine (has_any _ _ _ _ _).mono ?_; rintro e w' ⟨rfl, hb⟩))
        have hS : SB w (w4.alloc (.cells #[.string ⟨#[]⟩, .string T, .bool false] 36)).heap.size w2.heap.size w3.heap.size w4.heap.size ka kf T ⟨#[]⟩ ⟨#[]⟩ T false true false w' := by assumption
        have HS : Hid (SB w (w4.alloc (.cells #[.string ⟨#[]⟩, .string T, .bool false] 36)).heap.size w2.heap.size w3.heap.size w4.heap.size ka kf T ⟨#[]⟩ ⟨#[]⟩ T false true false w') := hS
        obtain ⟨z1, z2, z3, y1, y2, y3, x1, x2, x3, -⟩ := hS
        clear ST G2 G3 G4 B2 B3 B4 C1 C2 C3 C4
        go_wp2_with fail
        refine (has_any _ _ _ _ _).mono ?_
        rintro e u1 ⟨rfl, hu1⟩
        have S1 : Hid (SB w (w4.alloc (.cells #[.string ⟨#[]⟩, .string T, .bool false] 36)).heap.size w2.heap.size w3.heap.size w4.heap.size ka kf T ⟨#[]⟩ ⟨#[]⟩ T false true false u1) := keepSB hu1 HS.out (Or.inl rfl)
        clear hu1
        go_wp2_with fail
        refine (C6.out _ (endSB S1.out)).mono ?_
        rintro e u2 ⟨rfl, hu2⟩
        have S2 : Hid (SB w (w4.alloc (.cells #[.string ⟨#[]⟩, .string T, .bool false] 36)).heap.size w2.heap.size w3.heap.size w4.heap.size ka kf T ⟨#[]⟩ ⟨#[]⟩ T false true false u2) := keepSB hu2 S1.out (Or.inl rfl)
        clear hu2
        obtain ⟨-, -, -, v1, v2, v3, -⟩ := S2.out
        go_wp2_with fail
        refine (has_any _ _ _ _ _).mono ?_
        rintro e u3 ⟨rfl, hu3⟩
        have S3 : Hid (SB w (w4.alloc (.cells #[.string ⟨#[]⟩, .string T, .bool false] 36)).heap.size w2.heap.size w3.heap.size w4.heap.size ka kf T ⟨#[]⟩ ⟨#[]⟩ T false true false u3) := keepSB hu3 S2.out (Or.inl rfl)
        clear hu3
        go_wp2_with fail
        refine (C5.out _ (endSB S3.out)).mono ?_
        rintro e u4 ⟨rfl, hu4⟩
        have S4 : Hid (SB w (w4.alloc (.cells #[.string ⟨#[]⟩, .string T, .bool false] 36)).heap.size w2.heap.size w3.heap.size w4.heap.size ka kf T ⟨#[]⟩ ⟨#[]⟩ T false true false u4) := keepSB hu4 S3.out (Or.inl rfl)
        clear hu4
        go_wp2_with fail
        refine (C7.out _ (endSB S4.out)).mono ?_
        rintro e u6 ⟨rfl, hu6⟩
        go_wp2
        go_ret
        exact ⟨rfl, (endSB S4.out).trans (hu6.mono (endSB S4.out).size)⟩
      · have hd : decide (0 ≤ cm) = true := by simp; omega
        rw [hd] at m2'
        have m2v : hasB T ⟨#[]⟩ true k = true := m2'
        rw [m2v] at m3'
        have m3v : hasB ⟨#[]⟩ T false k = false := m3'
        clear m2' m3' hd
        go_wp2_with fail
        have ST : Hid (SB w _ w2.heap.size w3.heap.size w4.heap.size ka kf T ⟨#[]⟩ ⟨#[]⟩ T false true false _) := startSB G2.out G3.out G4.out B4.out
        go_region_held3 (fun w' => SB w (w4.alloc (.cells #[.string ⟨#[]⟩, .string T, .bool false] 36)).heap.size w2.heap.size w3.heap.size w4.heap.size ka kf T ⟨#[]⟩ ⟨#[]⟩ T false true false w') (first | exact ST.out | (apply keepSB; assumption; assumption; first | exact Or.inl rfl | exact Or.inr (Nat.le_refl _) | exact Or.inr (by simp))) (first | (go_at_call 15; refine (has_any _ _ _ _ _).mono ?_; rintro e w' ⟨rfl, hb⟩))
        have hS : SB w (w4.alloc (.cells #[.string ⟨#[]⟩, .string T, .bool false] 36)).heap.size w2.heap.size w3.heap.size w4.heap.size ka kf T ⟨#[]⟩ ⟨#[]⟩ T false true false w' := by assumption
        have HS : Hid (SB w (w4.alloc (.cells #[.string ⟨#[]⟩, .string T, .bool false] 36)).heap.size w2.heap.size w3.heap.size w4.heap.size ka kf T ⟨#[]⟩ ⟨#[]⟩ T false true false w') := hS
        obtain ⟨z1, z2, z3, y1, y2, y3, x1, x2, x3, -⟩ := hS
        clear ST G2 G3 G4 B2 B3 B4 C1 C2 C3 C4
        go_wp2_with fail
        refine (has_any _ _ _ _ _).mono ?_
        rintro e u1 ⟨rfl, hu1⟩
        have S1 : Hid (SB w (w4.alloc (.cells #[.string ⟨#[]⟩, .string T, .bool false] 36)).heap.size w2.heap.size w3.heap.size w4.heap.size ka kf T ⟨#[]⟩ ⟨#[]⟩ T false true false u1) := keepSB hu1 HS.out (Or.inl rfl)
        clear hu1
        go_wp2_with fail
        refine (C6.out _ (endSB S1.out)).mono ?_
        rintro e u2 ⟨rfl, hu2⟩
        have S2 : Hid (SB w (w4.alloc (.cells #[.string ⟨#[]⟩, .string T, .bool false] 36)).heap.size w2.heap.size w3.heap.size w4.heap.size ka kf T ⟨#[]⟩ ⟨#[]⟩ T false true false u2) := keepSB hu2 S1.out (Or.inl rfl)
        clear hu2
        obtain ⟨-, -, -, v1, v2, v3, -⟩ := S2.out
        go_wp2_with fail
        refine (has_any _ _ _ _ _).mono ?_
        rintro e u3 ⟨rfl, hu3⟩
        have S3 : Hid (SB w (w4.alloc (.cells #[.string ⟨#[]⟩, .string T, .bool false] 36)).heap.size w2.heap.size w3.heap.size w4.heap.size ka kf T ⟨#[]⟩ ⟨#[]⟩ T false true false u3) := keepSB hu3 S2.out (Or.inl rfl)
        clear hu3
        go_wp2_with fail
        refine (C5.out _ (endSB S3.out)).mono ?_
        rintro e u4 ⟨rfl, hu4⟩
        have S4 : Hid (SB w (w4.alloc (.cells #[.string ⟨#[]⟩, .string T, .bool false] 36)).heap.size w2.heap.size w3.heap.size w4.heap.size ka kf T ⟨#[]⟩ ⟨#[]⟩ T false true false u4) := keepSB hu4 S3.out (Or.inl rfl)
        clear hu4
        go_wp2_with fail
        refine (C6.out _ (endSB S4.out)).mono ?_
        rintro e u5 ⟨rfl, hu5⟩
        have S5 : Hid (SB w (w4.alloc (.cells #[.string ⟨#[]⟩, .string T, .bool false] 36)).heap.size w2.heap.size w3.heap.size w4.heap.size ka kf T ⟨#[]⟩ ⟨#[]⟩ T false true false u5) := keepSB hu5 S4.out (Or.inl rfl)
        clear hu5
        go_wp2_with fail
        refine (C7.out _ (endSB S5.out)).mono ?_
        rintro e u6 ⟨rfl, hu6⟩
        go_wp2
        go_ret
        exact ⟨rfl, (endSB S5.out).trans (hu6.mono (endSB S5.out).size)⟩
      · have hd : decide (0 ≤ cm) = false := by simp; omega
        rw [hd] at m2'
        have m2v : hasB T ⟨#[]⟩ true k = false := m2'
        rw [m2v] at m3'
        have m3v : hasB ⟨#[]⟩ T false k = true := m3'
        clear m2' m3' hd
        go_wp2_with fail
        have ST : Hid (SB w _ w2.heap.size w3.heap.size w4.heap.size ka kf T ⟨#[]⟩ ⟨#[]⟩ T false true false _) := startSB G2.out G3.out G4.out B4.out
        go_region_held3 (fun w' => SB w (w4.alloc (.cells #[.string ⟨#[]⟩, .string T, .bool false] 36)).heap.size w2.heap.size w3.heap.size w4.heap.size ka kf T ⟨#[]⟩ ⟨#[]⟩ T false true false w') (first | exact ST.out | (apply keepSB; assumption; assumption; first | exact Or.inl rfl | exact Or.inr (Nat.le_refl _) | exact Or.inr (by simp))) (first | (go_at_call 15; refine (has_any _ _ _ _ _).mono ?_; rintro e w' ⟨rfl, hb⟩))
        have hS : SB w (w4.alloc (.cells #[.string ⟨#[]⟩, .string T, .bool false] 36)).heap.size w2.heap.size w3.heap.size w4.heap.size ka kf T ⟨#[]⟩ ⟨#[]⟩ T false true false w' := by assumption
        have HS : Hid (SB w (w4.alloc (.cells #[.string ⟨#[]⟩, .string T, .bool false] 36)).heap.size w2.heap.size w3.heap.size w4.heap.size ka kf T ⟨#[]⟩ ⟨#[]⟩ T false true false w') := hS
        obtain ⟨z1, z2, z3, y1, y2, y3, x1, x2, x3, -⟩ := hS
        clear ST G2 G3 G4 B2 B3 B4 C1 C2 C3 C4
        go_wp2_with fail
        refine (has_any _ _ _ _ _).mono ?_
        rintro e u1 ⟨rfl, hu1⟩
        have S1 : Hid (SB w (w4.alloc (.cells #[.string ⟨#[]⟩, .string T, .bool false] 36)).heap.size w2.heap.size w3.heap.size w4.heap.size ka kf T ⟨#[]⟩ ⟨#[]⟩ T false true false u1) := keepSB hu1 HS.out (Or.inl rfl)
        clear hu1
        go_wp2_with fail
        refine (C6.out _ (endSB S1.out)).mono ?_
        rintro e u2 ⟨rfl, hu2⟩
        have S2 : Hid (SB w (w4.alloc (.cells #[.string ⟨#[]⟩, .string T, .bool false] 36)).heap.size w2.heap.size w3.heap.size w4.heap.size ka kf T ⟨#[]⟩ ⟨#[]⟩ T false true false u2) := keepSB hu2 S1.out (Or.inl rfl)
        clear hu2
        obtain ⟨-, -, -, v1, v2, v3, -⟩ := S2.out
        go_wp2_with fail
        refine (has_any _ _ _ _ _).mono ?_
        rintro e u3 ⟨rfl, hu3⟩
        have S3 : Hid (SB w (w4.alloc (.cells #[.string ⟨#[]⟩, .string T, .bool false] 36)).heap.size w2.heap.size w3.heap.size w4.heap.size ka kf T ⟨#[]⟩ ⟨#[]⟩ T false true false u3) := keepSB hu3 S2.out (Or.inl rfl)
        clear hu3
        go_wp2_with fail
        refine (C5.out _ (endSB S3.out)).mono ?_
        rintro e u4 ⟨rfl, hu4⟩
        have S4 : Hid (SB w (w4.alloc (.cells #[.string ⟨#[]⟩, .string T, .bool false] 36)).heap.size w2.heap.size w3.heap.size w4.heap.size ka kf T ⟨#[]⟩ ⟨#[]⟩ T false true false u4) := keepSB hu4 S3.out (Or.inl rfl)
        clear hu4
        go_wp2_with fail
        refine (C7.out _ (endSB S4.out)).mono ?_
        rintro e u6 ⟨rfl, hu6⟩
        go_wp2
        go_ret
        exact ⟨rfl, (endSB S4.out).trans (hu6.mono (endSB S4.out).size)⟩
      · have hd : decide (0 ≤ cm) = true := by simp; omega
        rw [hd] at m2'
        have m2v : hasB T ⟨#[]⟩ true k = true := m2'
        rw [m2v] at m3'
        have m3v : hasB ⟨#[]⟩ T false k = false := m3'
        clear m2' m3' hd
        go_wp2_with fail
        have ST : Hid (SB w _ w2.heap.size w3.heap.size w4.heap.size ka kf T ⟨#[]⟩ ⟨#[]⟩ T false true false _) := startSB G2.out G3.out G4.out B4.out
        go_region_held3 (fun w' => SB w (w4.alloc (.cells #[.string ⟨#[]⟩, .string T, .bool false] 36)).heap.size w2.heap.size w3.heap.size w4.heap.size ka kf T ⟨#[]⟩ ⟨#[]⟩ T false true false w') (first | exact ST.out | (apply keepSB; assumption; assumption; first | exact Or.inl rfl | exact Or.inr (Nat.le_refl _) | exact Or.inr (by simp))) (first | (go_at_call 15; refine (has_any _ _ _ _ _).mono ?_; rintro e w' ⟨rfl, hb⟩))
        have hS : SB w (w4.alloc (.cells #[.string ⟨#[]⟩, .string T, .bool false] 36)).heap.size w2.heap.size w3.heap.size w4.heap.size ka kf T ⟨#[]⟩ ⟨#[]⟩ T false true false w' := by assumption
        have HS : Hid (SB w (w4.alloc (.cells #[.string ⟨#[]⟩, .string T, .bool false] 36)).heap.size w2.heap.size w3.heap.size w4.heap.size ka kf T ⟨#[]⟩ ⟨#[]⟩ T false true false w') := hS
        obtain ⟨z1, z2, z3, y1, y2, y3, x1, x2, x3, -⟩ := hS
        clear ST G2 G3 G4 B2 B3 B4 C1 C2 C3 C4
        go_wp2_with fail
        refine (has_any _ _ _ _ _).mono ?_
        rintro e u1 ⟨rfl, hu1⟩
        have S1 : Hid (SB w (w4.alloc (.cells #[.string ⟨#[]⟩, .string T, .bool false] 36)).heap.size w2.heap.size w3.heap.size w4.heap.size ka kf T ⟨#[]⟩ ⟨#[]⟩ T false true false u1) := keepSB hu1 HS.out (Or.inl rfl)
        clear hu1
        go_wp2_with fail
        refine (C6.out _ (endSB S1.out)).mono ?_
        rintro e u2 ⟨rfl, hu2⟩
        have S2 : Hid (SB w (w4.alloc (.cells #[.string ⟨#[]⟩, .string T, .bool false] 36)).heap.size w2.heap.size w3.heap.size w4.heap.size ka kf T ⟨#[]⟩ ⟨#[]⟩ T false true false u2) := keepSB hu2 S1.out (Or.inl rfl)
        clear hu2
        obtain ⟨-, -, -, v1, v2, v3, -⟩ := S2.out
        go_wp2_with fail
        refine (has_any _ _ _ _ _).mono ?_
        rintro e u3 ⟨rfl, hu3⟩
        have S3 : Hid (SB w (w4.alloc (.cells #[.string ⟨#[]⟩, .string T, .bool false] 36)).heap.size w2.heap.size w3.heap.size w4.heap.size ka kf T ⟨#[]⟩ ⟨#[]⟩ T false true false u3) := keepSB hu3 S2.out (Or.inl rfl)
        clear hu3
        go_wp2_with fail
        refine (C5.out _ (endSB S3.out)).mono ?_
        rintro e u4 ⟨rfl, hu4⟩
        have S4 : Hid (SB w (w4.alloc (.cells #[.string ⟨#[]⟩, .string T, .bool false] 36)).heap.size w2.heap.size w3.heap.size w4.heap.size ka kf T ⟨#[]⟩ ⟨#[]⟩ T false true false u4) := keepSB hu4 S3.out (Or.inl rfl)
        clear hu4
        go_wp2_with fail
        refine (C7.out _ (endSB S4.out)).mono ?_
        rintro e u6 ⟨rfl, hu6⟩
        go_wp2
        go_ret
        exact ⟨rfl, (endSB S4.out).trans (hu6.mono (endSB S4.out).size)⟩
      · have hd : decide (0 ≤ cm) = false := by simp; omega
        rw [hd] at m2'
        have m2v : hasB T ⟨#[]⟩ true k = false := m2'
        rw [m2v] at m3'
        have m3v : hasB ⟨#[]⟩ T false k = true := m3'
        clear m2' m3' hd
        go_wp2_with fail
        have ST : Hid (SB w _ w2.heap.size w3.heap.size w4.heap.size ka kf T ⟨#[]⟩ ⟨#[]⟩ T false true false _) := startSB G2.out G3.out G4.out B4.out
        go_region_held3 (fun w' => SB w (w4.alloc (.cells #[.string ⟨#[]⟩, .string T, .bool false] 36)).heap.size w2.heap.size w3.heap.size w4.heap.size ka kf T ⟨#[]⟩ ⟨#[]⟩ T false true false w') (first | exact ST.out | (apply keepSB; assumption; assumption; first | exact Or.inl rfl | exact Or.inr (Nat.le_refl _) | exact Or.inr (by simp))) (first | (go_at_call 15; refine (has_any _ _ _ _ _).mono ?_; rintro e w' ⟨rfl, hb⟩))
        have hS : SB w (w4.alloc (.cells #[.string ⟨#[]⟩, .string T, .bool false] 36)).heap.size w2.heap.size w3.heap.size w4.heap.size ka kf T ⟨#[]⟩ ⟨#[]⟩ T false true false w' := by assumption
        have HS : Hid (SB w (w4.alloc (.cells #[.string ⟨#[]⟩, .string T, .bool false] 36)).heap.size w2.heap.size w3.heap.size w4.heap.size ka kf T ⟨#[]⟩ ⟨#[]⟩ T false true false w') := hS
        obtain ⟨z1, z2, z3, y1, y2, y3, x1, x2, x3, -⟩ := hS
        clear ST G2 G3 G4 B2 B3 B4 C1 C2 C3 C4
        go_wp2_with fail
        refine (has_any _ _ _ _ _).mono ?_
        rintro e u1 ⟨rfl, hu1⟩
        have S1 : Hid (SB w (w4.alloc (.cells #[.string ⟨#[]⟩, .string T, .bool false] 36)).heap.size w2.heap.size w3.heap.size w4.heap.size ka kf T ⟨#[]⟩ ⟨#[]⟩ T false true false u1) := keepSB hu1 HS.out (Or.inl rfl)
        clear hu1
        go_wp2_with fail
        refine (C6.out _ (endSB S1.out)).mono ?_
        rintro e u2 ⟨rfl, hu2⟩
        have S2 : Hid (SB w (w4.alloc (.cells #[.string ⟨#[]⟩, .string T, .bool false] 36)).heap.size w2.heap.size w3.heap.size w4.heap.size ka kf T ⟨#[]⟩ ⟨#[]⟩ T false true false u2) := keepSB hu2 S1.out (Or.inl rfl)
        clear hu2
        obtain ⟨-, -, -, v1, v2, v3, -⟩ := S2.out
        go_wp2_with fail
        refine (has_any _ _ _ _ _).mono ?_
        rintro e u3 ⟨rfl, hu3⟩
        have S3 : Hid (SB w (w4.alloc (.cells #[.string ⟨#[]⟩, .string T, .bool false] 36)).heap.size w2.heap.size w3.heap.size w4.heap.size ka kf T ⟨#[]⟩ ⟨#[]⟩ T false true false u3) := keepSB hu3 S2.out (Or.inl rfl)
        clear hu3
        go_wp2_with fail
        refine (C5.out _ (endSB S3.out)).mono ?_
        rintro e u4 ⟨rfl, hu4⟩
        have S4 : Hid (SB w (w4.alloc (.cells #[.string ⟨#[]⟩, .string T, .bool false] 36)).heap.size w2.heap.size w3.heap.size w4.heap.size ka kf T ⟨#[]⟩ ⟨#[]⟩ T false true false u4) := keepSB hu4 S3.out (Or.inl rfl)
        clear hu4
        go_wp2_with fail
        refine (C7.out _ (endSB S4.out)).mono ?_
        rintro e u6 ⟨rfl, hu6⟩
        go_wp2
        go_ret
        exact ⟨rfl, (endSB S4.out).trans (hu6.mono (endSB S4.out).size)⟩
      · have hd : decide (0 ≤ cm) = true := by simp; omega
        rw [hd] at m2'
        have m2v : hasB T ⟨#[]⟩ true k = false := m2'
        rw [m2v] at m3'
        have m3v : hasB ⟨#[]⟩ T false k = true := m3'
        clear m2' m3' hd
        go_wp2_with fail
        have ST : Hid (SB w _ w2.heap.size w3.heap.size w4.heap.size ka kf T ⟨#[]⟩ ⟨#[]⟩ T false true false _) := startSB G2.out G3.out G4.out B4.out
        go_region_held3 (fun w' => SB w (w4.alloc (.cells #[.string ⟨#[]⟩, .string T, .bool false] 36)).heap.size w2.heap.size w3.heap.size w4.heap.size ka kf T ⟨#[]⟩ ⟨#[]⟩ T false true false w') (first | exact ST.out | (apply keepSB; assumption; assumption; first | exact Or.inl rfl | exact Or.inr (Nat.le_refl _) | exact Or.inr (by simp))) (first | (go_at_call 15; refine (has_any _ _ _ _ _).mono ?_; rintro e w' ⟨rfl, hb⟩))
        have hS : SB w (w4.alloc (.cells #[.string ⟨#[]⟩, .string T, .bool false] 36)).heap.size w2.heap.size w3.heap.size w4.heap.size ka kf T ⟨#[]⟩ ⟨#[]⟩ T false true false w' := by assumption
        have HS : Hid (SB w (w4.alloc (.cells #[.string ⟨#[]⟩, .string T, .bool false] 36)).heap.size w2.heap.size w3.heap.size w4.heap.size ka kf T ⟨#[]⟩ ⟨#[]⟩ T false true false w') := hS
        obtain ⟨z1, z2, z3, y1, y2, y3, x1, x2, x3, -⟩ := hS
        clear ST G2 G3 G4 B2 B3 B4 C1 C2 C3 C4
        go_wp2_with fail
        refine (has_any _ _ _ _ _).mono ?_
        rintro e u1 ⟨rfl, hu1⟩
        have S1 : Hid (SB w (w4.alloc (.cells #[.string ⟨#[]⟩, .string T, .bool false] 36)).heap.size w2.heap.size w3.heap.size w4.heap.size ka kf T ⟨#[]⟩ ⟨#[]⟩ T false true false u1) := keepSB hu1 HS.out (Or.inl rfl)
        clear hu1
        go_wp2_with fail
        refine (C6.out _ (endSB S1.out)).mono ?_
        rintro e u2 ⟨rfl, hu2⟩
        have S2 : Hid (SB w (w4.alloc (.cells #[.string ⟨#[]⟩, .string T, .bool false] 36)).heap.size w2.heap.size w3.heap.size w4.heap.size ka kf T ⟨#[]⟩ ⟨#[]⟩ T false true false u2) := keepSB hu2 S1.out (Or.inl rfl)
        clear hu2
        obtain ⟨-, -, -, v1, v2, v3, -⟩ := S2.out
        go_wp2_with fail
        refine (has_any _ _ _ _ _).mono ?_
        rintro e u3 ⟨rfl, hu3⟩
        have S3 : Hid (SB w (w4.alloc (.cells #[.string ⟨#[]⟩, .string T, .bool false] 36)).heap.size w2.heap.size w3.heap.size w4.heap.size ka kf T ⟨#[]⟩ ⟨#[]⟩ T false true false u3) := keepSB hu3 S2.out (Or.inl rfl)
        clear hu3
        go_wp2_with fail
        refine (C5.out _ (endSB S3.out)).mono ?_
        rintro e u4 ⟨rfl, hu4⟩
        have S4 : Hid (SB w (w4.alloc (.cells #[.string ⟨#[]⟩, .string T, .bool false] 36)).heap.size w2.heap.size w3.heap.size w4.heap.size ka kf T ⟨#[]⟩ ⟨#[]⟩ T false true false u4) := keepSB hu4 S3.out (Or.inl rfl)
        clear hu4
        go_wp2_with fail
        refine (C6.out _ (endSB S4.out)).mono ?_
        rintro e u5 ⟨rfl, hu5⟩
        have S5 : Hid (SB w (w4.alloc (.cells #[.string ⟨#[]⟩, .string T, .bool false] 36)).heap.size w2.heap.size w3.heap.size w4.heap.size ka kf T ⟨#[]⟩ ⟨#[]⟩ T false true false u5) := keepSB hu5 S4.out (Or.inl rfl)
        clear hu5
        go_wp2_with fail
        refine (C7.out _ (endSB S5.out)).mono ?_
        rintro e u6 ⟨rfl, hu6⟩
        go_wp2
        go_ret
        exact ⟨rfl, (endSB S5.out).trans (hu6.mono (endSB S5.out).size)⟩
      · have hd : decide (0 ≤ cm) = false := by simp; omega
        rw [hd] at m2'
        have m2v : hasB T ⟨#[]⟩ true k = false := m2'
        rw [m2v] at m3'
        have m3v : hasB ⟨#[]⟩ T false k = true := m3'
        clear m2' m3' hd
        go_wp2_with fail
        have ST : Hid (SB w _ w2.heap.size w3.heap.size w4.heap.size ka kf T ⟨#[]⟩ ⟨#[]⟩ T false true false _) := startSB G2.out G3.out G4.out B4.out
        go_region_held3 (fun w' => SB w (w4.alloc (.cells #[.string ⟨#[]⟩, .string T, .bool false] 36)).heap.size w2.heap.size w3.heap.size w4.heap.size ka kf T ⟨#[]⟩ ⟨#[]⟩ T false true false w') (first | exact ST.out | (apply keepSB; assumption; assumption; first | exact Or.inl rfl | exact Or.inr (Nat.le_refl _) | exact Or.inr (by simp))) (first | (go_at_call 15; refine (has_any _ _ _ _ _).mono ?_; rintro e w' ⟨rfl, hb⟩))
        have hS : SB w (w4.alloc (.cells #[.string ⟨#[]⟩, .string T, .bool false] 36)).heap.size w2.heap.size w3.heap.size w4.heap.size ka kf T ⟨#[]⟩ ⟨#[]⟩ T false true false w' := by assumption
        have HS : Hid (SB w (w4.alloc (.cells #[.string ⟨#[]⟩, .string T, .bool false] 36)).heap.size w2.heap.size w3.heap.size w4.heap.size ka kf T ⟨#[]⟩ ⟨#[]⟩ T false true false w') := hS
        obtain ⟨z1, z2, z3, y1, y2, y3, x1, x2, x3, -⟩ := hS
        clear ST G2 G3 G4 B2 B3 B4 C1 C2 C3 C4
        go_wp2_with fail
        refine (has_any _ _ _ _ _).mono ?_
        rintro e u1 ⟨rfl, hu1⟩
        have S1 : Hid (SB w (w4.alloc (.cells #[.string ⟨#[]⟩, .string T, .bool false] 36)).heap.size w2.heap.size w3.heap.size w4.heap.size ka kf T ⟨#[]⟩ ⟨#[]⟩ T false true false u1) := keepSB hu1 HS.out (Or.inl rfl)
        clear hu1
        go_wp2_with fail
        refine (C6.out _ (endSB S1.out)).mono ?_
        rintro e u2 ⟨rfl, hu2⟩
        have S2 : Hid (SB w (w4.alloc (.cells #[.string ⟨#[]⟩, .string T, .bool false] 36)).heap.size w2.heap.size w3.heap.size w4.heap.size ka kf T ⟨#[]⟩ ⟨#[]⟩ T false true false u2) := keepSB hu2 S1.out (Or.inl rfl)
        clear hu2
        obtain ⟨-, -, -, v1, v2, v3, -⟩ := S2.out
        go_wp2_with fail
        refine (has_any _ _ _ _ _).mono ?_
        rintro e u3 ⟨rfl, hu3⟩
        have S3 : Hid (SB w (w4.alloc (.cells #[.string ⟨#[]⟩, .string T, .bool false] 36)).heap.size w2.heap.size w3.heap.size w4.heap.size ka kf T ⟨#[]⟩ ⟨#[]⟩ T false true false u3) := keepSB hu3 S2.out (Or.inl rfl)
        clear hu3
        go_wp2_with fail
        refine (C5.out _ (endSB S3.out)).mono ?_
        rintro e u4 ⟨rfl, hu4⟩
        have S4 : Hid (SB w (w4.alloc (.cells #[.string ⟨#[]⟩, .string T, .bool false] 36)).heap.size w2.heap.size w3.heap.size w4.heap.size ka kf T ⟨#[]⟩ ⟨#[]⟩ T false true false u4) := keepSB hu4 S3.out (Or.inl rfl)
        clear hu4
        go_wp2_with fail
        refine (C7.out _ (endSB S4.out)).mono ?_
        rintro e u6 ⟨rfl, hu6⟩
        go_wp2
        go_ret
        exact ⟨rfl, (endSB S4.out).trans (hu6.mono (endSB S4.out).size)⟩
      · have hd : decide (0 ≤ cm) = true := by simp; omega
        rw [hd] at m2'
        have m2v : hasB T ⟨#[]⟩ true k = true := m2'
        rw [m2v] at m3'
        have m3v : hasB ⟨#[]⟩ T false k = false := m3'
        clear m2' m3' hd
        go_wp2_with fail
        have ST : Hid (SB w _ w2.heap.size w3.heap.size w4.heap.size ka kf T ⟨#[]⟩ ⟨#[]⟩ T false true false _) := startSB G2.out G3.out G4.out B4.out
        go_region_held3 (fun w' => SB w (w4.alloc (.cells #[.string ⟨#[]⟩, .string T, .bool false] 36)).heap.size w2.heap.size w3.heap.size w4.heap.size ka kf T ⟨#[]⟩ ⟨#[]⟩ T false true false w') (first | exact ST.out | (apply keepSB; assumption; assumption; first | exact Or.inl rfl | exact Or.inr (Nat.le_refl _) | exact Or.inr (by simp))) (first | (go_at_call 15; refine (has_any _ _ _ _ _).mono ?_; rintro e w' ⟨rfl, hb⟩))
        have hS : SB w (w4.alloc (.cells #[.string ⟨#[]⟩, .string T, .bool false] 36)).heap.size w2.heap.size w3.heap.size w4.heap.size ka kf T ⟨#[]⟩ ⟨#[]⟩ T false true false w' := by assumption
        have HS : Hid (SB w (w4.alloc (.cells #[.string ⟨#[]⟩, .string T, .bool false] 36)).heap.size w2.heap.size w3.heap.size w4.heap.size ka kf T ⟨#[]⟩ ⟨#[]⟩ T false true false w') := hS
        obtain ⟨z1, z2, z3, y1, y2, y3, x1, x2, x3, -⟩ := hS
        clear ST G2 G3 G4 B2 B3 B4 C1 C2 C3 C4
        go_wp2_with fail
        refine (has_any _ _ _ _ _).mono ?_
        rintro e u1 ⟨rfl, hu1⟩
        have S1 : Hid (SB w (w4.alloc (.cells #[.string ⟨#[]⟩, .string T, .bool false] 36)).heap.size w2.heap.size w3.heap.size w4.heap.size ka kf T ⟨#[]⟩ ⟨#[]⟩ T false true false u1) := keepSB hu1 HS.out (Or.inl rfl)
        clear hu1
        go_wp2_with fail
        refine (C6.out _ (endSB S1.out)).mono ?_
        rintro e u2 ⟨rfl, hu2⟩
        have S2 : Hid (SB w (w4.alloc (.cells #[.string ⟨#[]⟩, .string T, .bool false] 36)).heap.size w2.heap.size w3.heap.size w4.heap.size ka kf T ⟨#[]⟩ ⟨#[]⟩ T false true false u2) := keepSB hu2 S1.out (Or.inl rfl)
        clear hu2
        obtain ⟨-, -, -, v1, v2, v3, -⟩ := S2.out
        go_wp2_with fail
        refine (has_any _ _ _ _ _).mono ?_
        rintro e u3 ⟨rfl, hu3⟩
        have S3 : Hid (SB w (w4.alloc (.cells #[.string ⟨#[]⟩, .string T, .bool false] 36)).heap.size w2.heap.size w3.heap.size w4.heap.size ka kf T ⟨#[]⟩ ⟨#[]⟩ T false true false u3) := keepSB hu3 S2.out (Or.inl rfl)
        clear hu3
        go_wp2_with fail
        refine (C5.out _ (endSB S3.out)).mono ?_
        rintro e u4 ⟨rfl, hu4⟩
        have S4 : Hid (SB w (w4.alloc (.cells #[.string ⟨#[]⟩, .string T, .bool false] 36)).heap.size w2.heap.size w3.heap.size w4.heap.size ka kf T ⟨#[]⟩ ⟨#[]⟩ T false true false u4) := keepSB hu4 S3.out (Or.inl rfl)
        clear hu4
        go_wp2_with fail
        refine (C7.out _ (endSB S4.out)).mono ?_
        rintro e u6 ⟨rfl, hu6⟩
        go_wp2
        go_ret
        exact ⟨rfl, (endSB S4.out).trans (hu6.mono (endSB S4.out).size)⟩
    · have hne : (ea != 0) = true := bneT h2
      clear HM h2
      simp only [show ¬ ea = 0 by intro h; simp [h] at hne, if_false] at C2 C3 C4
      go_enter Tryd.func4, Tryd.ntmps4
      go_wp2_with fail
      refine (C1.out _ (Below.refl _ _)).mono ?_
      rintro e w1 ⟨rfl, hb1⟩
      go_wp2_with fail
      refine (C2.out _ hb1).mono ?_
      rintro e w2 ⟨rfl, hb2⟩
      have b2 : Below w.heap.size w w2 := hb1.trans (hb2.mono hb1.size)
      have B2 : Hid (Below w.heap.size w _) := b2.alloc b2.size (.cells #[.string ⟨#[]⟩, .string ⟨#[]⟩, .bool false] 36)
      clear hb1 hb2 b2
      go_wp2_with (first | (go_at_call 11; refine (C7.out _ B2.out).mono ?_; rintro e w3 ⟨rfl, hb3⟩))
      go_ret
      exact ⟨rfl, B2.out.trans (hb3.mono B2.out.size)⟩
  · have hne : (ec != 0) = true := bneT h1
    clear HM h1
    obtain ⟨b1, b2', b3, hb0⟩ : ∃ l h o, (if ea = 0 then rngV ka (ka ++ ⟨#[255]⟩) false else noRng) = rngV l h o := by split <;> exact ⟨_, _, _, rfl⟩
    rw [hb0] at C2
    clear hb0
    go_enter Tryd.func4, Tryd.ntmps4
    go_wp2_with fail
    refine (C1.out _ (Below.refl _ _)).mono ?_
    rintro e w1 ⟨rfl, hb1⟩
    go_wp2_with fail
    refine (C2.out _ hb1).mono ?_
    rintro e w2 ⟨rfl, hb2⟩
    have b2 : Below w.heap.size w w2 := hb1.trans (hb2.mono hb1.size)
    have B2 : Hid (Below w.heap.size w _) := b2.alloc b2.size (.cells #[.string b1, .string b2', .bool b3] 36)
    clear hb1 hb2 b2
    go_wp2_with (first | (go_at_call 11; refine (C7.out _ B2.out).mono ?_; rintro e w3 ⟨rfl, hb3⟩))
    go_ret
    exact ⟨rfl, B2.out.trans (hb3.mono B2.out.size)⟩
end Go.Proofs.YteffaldahccgiabDoor
