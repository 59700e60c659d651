/- A store: Settle. -/
import Derived.Test.YtcibcfghkidncaaGreatDoorGWSto10
namespace Go.Proofs.YtcibcfghkidncaaGreatDoor
open Go.RowKit Go.Lib Go.Maps
set_option maxRecDepth 100000

set_option maxHeartbeats 8000000 in
theorem settle_old (B sb most K J:Nat) (M:List Rs) (F:Nat → Prop) (t s:Int) (w:World) (h:Sto w B sb most M K J F) (hs:1 ≤ s) (hs2:s ≤ 4611686018427387904) (h1:-9223372036854775808 ≤ t) (h2:t < 9223372036854775808) (hnew:∃ r ∈ M,r.tx = t ∧ t ≠ 0 ∧ newr r (s - 1) = true) :
  Calls Tryz.prog 39 #[ptr1 sb,.int .i64 t,.int .u64 s] w fun e w' => e = .returned (.tuple #[.int .i64 0,.int .i64 81]) ∧ Sto w' B sb most M K J F ∧ Frm w w' F := by
 obtain ⟨pb,dl,dm,pv,tv,C,T,sv,wo,hX,hd0,hI,hW,hF⟩ := h
 obtain ⟨bX,bB,bS⟩ := one_new w #[.int .u64 s] 39
 have HB0:Hid (Below w.heap.size w (w.alloc (.cells #[.int .u64 s] 39))) := bB
 have HX0:Hid (Box (w.alloc (.cells #[.int .u64 s] 39)) w.heap.size #[.int .u64 s] 39) := bX
 have HS0:Hid (StX (w.alloc (.cells #[.int .u64 s] 39)) B sb most pb 0 dl dm pv tv C T sv wo M K) := hX.on bB
 have HF:Hid (∀ k,F k ↔ stF sb dm pv tv C sv wo k) := hF
 have HW:Hid (InvW M wo) := hW
 have HI:Hid (InvT J most M T) := hI
 have HST:Hid (∀ k,stF sb dm pv tv C sv wo k → k < w.heap.size) := fun k hk => (hX.mut hk).2.2
 have C1:Hid (Calls _ _ _ _ _) := desk_any sb t (w.alloc (.cells #[.int .u64 s] 39)) h1 h2
 have C2:Hid (Calls _ _ _ _ _) := lockD (dk t) (dk_lt t) _ HS0.out (hd0 _)
 obtain ⟨x0,_⟩ := (show Box _ _ #[.int .u64 s] 39 from bX).cell0
 have HM:Hid (mapT (setR s) t M = modL (setR s) (wo t) M) := (modL_map (hW.nod t) (hW.mem t)).symm
 have HD:Hid (updN (updN dl (dk t) 1) (dk t) 0 = dl ∧ ∀ d,dl d = 0) := ⟨updN_zero hd0 _,hd0⟩
 have hlen:(wo t).length ≤ 65536 := Nat.le_trans (hW.len t) (Nat.le_trans hI.len hI.mst)
 have hCl:C.length ≤ 65536 := by rw [hX.plc.len]; exact Nat.le_trans hI.len hI.mst
 have HN:Hid (∃ r ∈ M,r.tx = t ∧ t ≠ 0 ∧ newr r (s - 1) = true) := hnew
 clear hX hI hW hF bX bB bS hd0 hnew
 have hwr:IntKind.u64.wrap (s - 1) = s - 1 := by rw [IntKind.wrap_u64]; omega
 have hsx:¬ s < 1 := by omega
 have hsy:¬ 4611686018427387904 < s := by omega
 go_enter_defers Tryz.func39,Tryz.ntmps39
 go_wp2_with fail
 generalize (w.alloc (.cells #[.int .u64 s] 39)) = w0 at *
 refine C1.out.mono ?_
 rintro e w9 ⟨rfl,hw⟩
 rw [hw]
 clear hw w9 C1
 go_wp2_with fail
 refine C2.out.mono ?_
 rintro e w1 ⟨rfl,hs1,hf1⟩
 obtain ⟨_,c1,_,_⟩ := hs1.deskc (dk_lt t)
 have l1 := hs1.look t h1 h2
 obtain ⟨p,c,hsl,_⟩ := hs1.slice t
 rw [hsl] at l1
 have HS1:Hid (StX w1 B sb most pb 0 (updN dl (dk t) 1) dm pv tv C T sv wo M K) := hs1
 have HSL:Hid (slO (fD sv wo (dk t) t) = .slice p (wo t).length c) := hsl
 have HF1:Hid (Frm w w1 (stF sb dm pv tv C sv wo)) := (Frm.of_below HB0.out).trans hf1 (fun k hk => .inl (.inl hk))
 have hsbw:sb < w.heap.size := HST.out sb (.inl rfl)
 have HX1:Hid (Box w1 w.heap.size #[.int .u64 s] 39) := HX0.out.frm hf1 (show ¬ w.heap.size = sb by omega)
 clear hs1 hf1 hsl C2 HS0 HX0 x0
 obtain ⟨n,hn⟩:∃ n,(wo t).length = n := ⟨_,rfl⟩
 rw [hn] at l1 HSL hlen
 go_wp2_with fail
 go_loopw [38] (fun i wq => ∃ j:Nat,j ≤ n ∧ i = .int .i64 (j:Int) ∧ Hid (Below w1.heap.size w1 wq) ∧ Hid (∀ j2,j2 < j → ∀ x r,(wo t)[j2]? = some x → M[x]? = some r → newr r (s - 1) = false)) (fun i _ => n - (intOf i).toNat)
 case atStart => exact ⟨0,Nat.zero_le _,by go_num,Below.refl _ _,fun j2 h => absurd h (Nat.not_lt_zero _)⟩
 case round =>
  obtain ⟨j,hj,rfl,hb,hno⟩ := hrel
  have hS:Hid (StX wr B sb most pb 0 (updN dl (dk t) 1) dm pv tv C T sv wo M K) := HS1.out.on hb.out
  have hx:Hid (Box wr w.heap.size #[.int .u64 s] 39) := HX1.out.on hb.out
  by_cases hj0:j = n
  ·subst hj0
   exfalso
   obtain ⟨r,hr,ht,h0,hw⟩ := HN.out
   obtain ⟨x,hx1,hx2⟩ := List.getElem_of_mem hr
   have hm:x ∈ wo t := (HW.out.mem t x).2 ⟨h0,r,by rw [← hx2]; exact List.getElem?_eq_getElem hx1,ht⟩
   obtain ⟨j2,hj2,e2⟩ := List.getElem_of_mem hm
   have := hno.out j2 (by omega) x r (by rw [← e2]; exact List.getElem?_eq_getElem hj2) (by rw [← hx2]; exact List.getElem?_eq_getElem hx1)
   rw [this] at hw
   cases hw
  ·have hj1:j < (wo t).length := by omega
   obtain ⟨g,hpg,a0⟩ := hS.out.wrote t HSL.out hj1
   obtain ⟨h0,r,hr,htx⟩ := (HW.out.mem t (wo t)[j]).1 (List.getElem_mem hj1)
   have hG:Hid (getR M ((wo t)[j]:Nat) = r) := getR_at hr
   have C3:Hid (Calls _ _ _ _ _) := state_any ((wo t)[j]:Nat) wr.drew (hS.out.on (Below.refl _ _).drew) hCl
   rw [hG.out] at C3
   have x0 := hx.out.cell0.1
   have x0d:wr.drew.cell? ⟨w.heap.size,0,none⟩ = some (.int .u64 s) := x0
   have hxx := hx.out.lt
   have hxd:w.heap.size < wr.drew.heap.size := hxx
   have hg9:(wo t)[j]? = some (wo t)[j] := List.getElem?_eq_getElem hj1
   have HR:Hid ((wo t)[j]? = some (wo t)[j] ∧ M[(wo t)[j]]? = some r ∧ r.tx = t ∧ t ≠ 0) := ⟨hg9,hr,htx,h0⟩
   clear hr htx h0 hg9 hG
   generalize (wo t)[j] = x at *
   subst hpg
   cases hnw:newr r (s - 1) with
   | true =>
    go_wp2_with fail
    refine wp_region_noPanic ?_
    refine wp_region_any (by kernel_rfl) ?_
    change wpAny _ _ _ _ _ _ _ (World.drew _)
    refine tk (v := ?_) 0 rfl ?_ ?_
    rotate_left
    focus
     intro w9
     go_simp
     try with_reducible rfl
    try simp only [aP]
    refine tk (v := ?_) 1 rfl ?_ ?_
    rotate_left
    focus
     intro w9
     go_simp
     try with_reducible rfl
    try simp only [aP]
    refine wpAny_ready (rs := [2,3]) (by kernel_rfl) (by simp) ?_
    refine anyN_cons 2 rfl (by rfl) (fun K hK => ?_) (anyN_cons 3 rfl (by rfl) (fun K hK => ?_) AllReady.nil)
    ·go_simp
     refine C3.out.mono ?_
     rintro e w5 ⟨⟨v5,rfl,p5,q5,c5,rfl,hs5⟩,hb5⟩
     dsimp only
     have x5 := (hb5.cell (p := ⟨w.heap.size,0,none⟩) hxd).trans x0d
     have HB5:Hid (Below _ _ _) := hb5
     have HP5:Hid (Pst _ _ _) := hs5.pst
     clear hb5 hs5
     refine hK.out _ _ ?_
     clear hK K
     try simp only [aP]
     refine wpAny_ready (rs := [3]) (by kernel_rfl) (by simp) ?_
     refine anyN_cons 3 rfl (by rfl) (fun K hK => ?_) AllReady.nil
     go_simp
     refine hK.out _ _ ?_
     clear hK K
     try simp only [aP]
     refine wpAny_ready (rs := [4]) (by kernel_rfl) (by simp) ?_
     refine anyN_cons 4 rfl (by rfl) (fun K hK => ?_) AllReady.nil
     go_simp
     refine hK.out _ _ ?_
     clear hK K
     try simp only [aP]
     refine wpAny_ready (rs := [5]) (by kernel_rfl) (by simp) ?_
     refine anyN_cons 5 rfl (by rfl) (fun K hK => ?_) AllReady.nil
     go_simp
     refine (newer_any p5 q5 c5 r (s - 1) w5 HP5.out).mono ?_
     rintro e w6 ⟨rfl,hb6⟩
     dsimp only
     rw [show newr r (s - 1) = true from hnw]
     have HB6:Hid (Below w1.heap.size w1 w6) := (hb.out.drew.trans (HB5.out.mono hb.out.size)).trans (hb6.mono (Nat.le_trans hb.out.size HB5.out.size))
     clear hb6
     refine hK.out _ _ ?_
     clear hK K
     try simp only [aP]
     refine wpAny_done (by kernel_rfl) ?_ _
     refine NoPanic.normal ?_
     go_wp2_with fail
     refine leaves_cons (f := 48) (args := #[.pointer (some ⟨sb,5 + dk t * 3,none⟩)]) (by simp) (by simp [go_sem]) ?_
     refine (unlockD (dk t) (dk_lt t) .returning w6 (HS1.out.on HB6.out) (if_pos rfl)).mono ?_
     rintro e u' w7 ⟨rfl,rfl,hs7,hf7⟩
     refine ⟨_,results_tmp2 (t := 6) (u := 7) rfl _ _ _,?_⟩
     rw [HD.out.1] at hs7
     refine ⟨rfl,⟨pb,dl,dm,pv,tv,C,T,sv,wo,hs7,HD.out.2,HI.out,HW.out,HF.out⟩,?_⟩
     exact ((HF1.out.trans (Frm.of_below (F := stF sb dm pv tv C sv wo) HB6.out) (fun k hk => .inl hk)).trans hf7 (fun k hk => .inl (.inl hk))).mono (fun k hk => .inl ((HF.out k).2 hk))
    ·go_simp
     refine hK.out _ _ ?_
     clear hK K
     try simp only [aP]
     refine wpAny_ready (rs := [2,4]) (by kernel_rfl) (by simp) ?_
     refine anyN_cons 2 rfl (by rfl) (fun K hK => ?_) (anyN_cons 4 rfl (by rfl) (fun K hK => ?_) AllReady.nil)
     ·go_simp
      refine C3.out.mono ?_
      rintro e w5 ⟨⟨v5,rfl,p5,q5,c5,rfl,hs5⟩,hb5⟩
      dsimp only
      have x5 := (hb5.cell (p := ⟨w.heap.size,0,none⟩) hxd).trans x0d
      have HB5:Hid (Below _ _ _) := hb5
      have HP5:Hid (Pst _ _ _) := hs5.pst
      clear hb5 hs5
      refine hK.out _ _ ?_
      clear hK K
      try simp only [aP]
      refine wpAny_ready (rs := [4]) (by kernel_rfl) (by simp) ?_
      refine anyN_cons 4 rfl (by rfl) (fun K hK => ?_) AllReady.nil
      go_simp
      refine hK.out _ _ ?_
      clear hK K
      try simp only [aP]
      refine wpAny_ready (rs := [5]) (by kernel_rfl) (by simp) ?_
      refine anyN_cons 5 rfl (by rfl) (fun K hK => ?_) AllReady.nil
      go_simp
      refine (newer_any p5 q5 c5 r (s - 1) w5 HP5.out).mono ?_
      rintro e w6 ⟨rfl,hb6⟩
      dsimp only
      rw [show newr r (s - 1) = true from hnw]
      have HB6:Hid (Below w1.heap.size w1 w6) := (hb.out.drew.trans (HB5.out.mono hb.out.size)).trans (hb6.mono (Nat.le_trans hb.out.size HB5.out.size))
      clear hb6
      refine hK.out _ _ ?_
      clear hK K
      try simp only [aP]
      refine wpAny_done (by kernel_rfl) ?_ _
      refine NoPanic.normal ?_
      go_wp2_with fail
      refine leaves_cons (f := 48) (args := #[.pointer (some ⟨sb,5 + dk t * 3,none⟩)]) (by simp) (by simp [go_sem]) ?_
      refine (unlockD (dk t) (dk_lt t) .returning w6 (HS1.out.on HB6.out) (if_pos rfl)).mono ?_
      rintro e u' w7 ⟨rfl,rfl,hs7,hf7⟩
      refine ⟨_,results_tmp2 (t := 6) (u := 7) rfl _ _ _,?_⟩
      rw [HD.out.1] at hs7
      refine ⟨rfl,⟨pb,dl,dm,pv,tv,C,T,sv,wo,hs7,HD.out.2,HI.out,HW.out,HF.out⟩,?_⟩
      exact ((HF1.out.trans (Frm.of_below (F := stF sb dm pv tv C sv wo) HB6.out) (fun k hk => .inl hk)).trans hf7 (fun k hk => .inl (.inl hk))).mono (fun k hk => .inl ((HF.out k).2 hk))
     ·go_simp
      refine hK.out _ _ ?_
      clear hK K
      try simp only [aP]
      refine wpAny_ready (rs := [2]) (by kernel_rfl) (by simp) ?_
      refine anyN_cons 2 rfl (by rfl) (fun K hK => ?_) AllReady.nil
      go_simp
      refine C3.out.mono ?_
      rintro e w5 ⟨⟨v5,rfl,p5,q5,c5,rfl,hs5⟩,hb5⟩
      dsimp only
      have x5 := (hb5.cell (p := ⟨w.heap.size,0,none⟩) hxd).trans x0d
      have HB5:Hid (Below _ _ _) := hb5
      have HP5:Hid (Pst _ _ _) := hs5.pst
      clear hb5 hs5
      refine hK.out _ _ ?_
      clear hK K
      try simp only [aP]
      refine wpAny_ready (rs := [5]) (by kernel_rfl) (by simp) ?_
      refine anyN_cons 5 rfl (by rfl) (fun K hK => ?_) AllReady.nil
      go_simp
      refine (newer_any p5 q5 c5 r (s - 1) w5 HP5.out).mono ?_
      rintro e w6 ⟨rfl,hb6⟩
      dsimp only
      rw [show newr r (s - 1) = true from hnw]
      have HB6:Hid (Below w1.heap.size w1 w6) := (hb.out.drew.trans (HB5.out.mono hb.out.size)).trans (hb6.mono (Nat.le_trans hb.out.size HB5.out.size))
      clear hb6
      refine hK.out _ _ ?_
      clear hK K
      try simp only [aP]
      refine wpAny_done (by kernel_rfl) ?_ _
      refine NoPanic.normal ?_
      go_wp2_with fail
      refine leaves_cons (f := 48) (args := #[.pointer (some ⟨sb,5 + dk t * 3,none⟩)]) (by simp) (by simp [go_sem]) ?_
      refine (unlockD (dk t) (dk_lt t) .returning w6 (HS1.out.on HB6.out) (if_pos rfl)).mono ?_
      rintro e u' w7 ⟨rfl,rfl,hs7,hf7⟩
      refine ⟨_,results_tmp2 (t := 6) (u := 7) rfl _ _ _,?_⟩
      rw [HD.out.1] at hs7
      refine ⟨rfl,⟨pb,dl,dm,pv,tv,C,T,sv,wo,hs7,HD.out.2,HI.out,HW.out,HF.out⟩,?_⟩
      exact ((HF1.out.trans (Frm.of_below (F := stF sb dm pv tv C sv wo) HB6.out) (fun k hk => .inl hk)).trans hf7 (fun k hk => .inl (.inl hk))).mono (fun k hk => .inl ((HF.out k).2 hk))

   | false =>
    go_wp2_with fail
    refine wp_region_noPanic ?_
    refine wp_region_any (by kernel_rfl) ?_
    change wpAny _ _ _ _ _ _ _ (World.drew _)
    refine tk (v := ?_) 0 rfl ?_ ?_
    rotate_left
    focus
     intro w9
     go_simp
     try with_reducible rfl
    try simp only [aP]
    refine tk (v := ?_) 1 rfl ?_ ?_
    rotate_left
    focus
     intro w9
     go_simp
     try with_reducible rfl
    try simp only [aP]
    refine wpAny_ready (rs := [2,3]) (by kernel_rfl) (by simp) ?_
    refine anyN_cons 2 rfl (by rfl) (fun K hK => ?_) (anyN_cons 3 rfl (by rfl) (fun K hK => ?_) AllReady.nil)
    ·go_simp
     refine C3.out.mono ?_
     rintro e w5 ⟨⟨v5,rfl,p5,q5,c5,rfl,hs5⟩,hb5⟩
     dsimp only
     have x5 := (hb5.cell (p := ⟨w.heap.size,0,none⟩) hxd).trans x0d
     have HB5:Hid (Below _ _ _) := hb5
     have HP5:Hid (Pst _ _ _) := hs5.pst
     clear hb5 hs5
     refine hK.out _ _ ?_
     clear hK K
     try simp only [aP]
     refine wpAny_ready (rs := [3]) (by kernel_rfl) (by simp) ?_
     refine anyN_cons 3 rfl (by rfl) (fun K hK => ?_) AllReady.nil
     go_simp
     refine hK.out _ _ ?_
     clear hK K
     try simp only [aP]
     refine wpAny_ready (rs := [4]) (by kernel_rfl) (by simp) ?_
     refine anyN_cons 4 rfl (by rfl) (fun K hK => ?_) AllReady.nil
     go_simp
     refine hK.out _ _ ?_
     clear hK K
     try simp only [aP]
     refine wpAny_ready (rs := [5]) (by kernel_rfl) (by simp) ?_
     refine anyN_cons 5 rfl (by rfl) (fun K hK => ?_) AllReady.nil
     go_simp
     refine (newer_any p5 q5 c5 r (s - 1) w5 HP5.out).mono ?_
     rintro e w6 ⟨rfl,hb6⟩
     dsimp only
     rw [show newr r (s - 1) = false from hnw]
     have HB6:Hid (Below w1.heap.size w1 w6) := (hb.out.drew.trans (HB5.out.mono hb.out.size)).trans (hb6.mono (Nat.le_trans hb.out.size HB5.out.size))
     clear hb6
     refine hK.out _ _ ?_
     clear hK K
     try simp only [aP]
     refine wpAny_done (by kernel_rfl) ?_ _
     refine NoPanic.normal ?_
     go_wp2_with fail
     go_roundw
     case rel => exact ⟨j + 1,by omega,by go_num,HB6,fun j2 h2 x' r' e1 e2 => by
      by_cases e3:j2 < j
      ·exact hno.out j2 e3 x' r' e1 e2
      ·have e4:j2 = j := by omega
       subst e4
       have := HR.out.1.symm.trans e1
       cases this
       have := HR.out.2.1.symm.trans e2
       cases this
       exact hnw⟩
     case measure => simp [intOf]; omega
    ·go_simp
     refine hK.out _ _ ?_
     clear hK K
     try simp only [aP]
     refine wpAny_ready (rs := [2,4]) (by kernel_rfl) (by simp) ?_
     refine anyN_cons 2 rfl (by rfl) (fun K hK => ?_) (anyN_cons 4 rfl (by rfl) (fun K hK => ?_) AllReady.nil)
     ·go_simp
      refine C3.out.mono ?_
      rintro e w5 ⟨⟨v5,rfl,p5,q5,c5,rfl,hs5⟩,hb5⟩
      dsimp only
      have x5 := (hb5.cell (p := ⟨w.heap.size,0,none⟩) hxd).trans x0d
      have HB5:Hid (Below _ _ _) := hb5
      have HP5:Hid (Pst _ _ _) := hs5.pst
      clear hb5 hs5
      refine hK.out _ _ ?_
      clear hK K
      try simp only [aP]
      refine wpAny_ready (rs := [4]) (by kernel_rfl) (by simp) ?_
      refine anyN_cons 4 rfl (by rfl) (fun K hK => ?_) AllReady.nil
      go_simp
      refine hK.out _ _ ?_
      clear hK K
      try simp only [aP]
      refine wpAny_ready (rs := [5]) (by kernel_rfl) (by simp) ?_
      refine anyN_cons 5 rfl (by rfl) (fun K hK => ?_) AllReady.nil
      go_simp
      refine (newer_any p5 q5 c5 r (s - 1) w5 HP5.out).mono ?_
      rintro e w6 ⟨rfl,hb6⟩
      dsimp only
      rw [show newr r (s - 1) = false from hnw]
      have HB6:Hid (Below w1.heap.size w1 w6) := (hb.out.drew.trans (HB5.out.mono hb.out.size)).trans (hb6.mono (Nat.le_trans hb.out.size HB5.out.size))
      clear hb6
      refine hK.out _ _ ?_
      clear hK K
      try simp only [aP]
      refine wpAny_done (by kernel_rfl) ?_ _
      refine NoPanic.normal ?_
      go_wp2_with fail
      go_roundw
      case rel => exact ⟨j + 1,by omega,by go_num,HB6,fun j2 h2 x' r' e1 e2 => by
       by_cases e3:j2 < j
       ·exact hno.out j2 e3 x' r' e1 e2
       ·have e4:j2 = j := by omega
        subst e4
        have := HR.out.1.symm.trans e1
        cases this
        have := HR.out.2.1.symm.trans e2
        cases this
        exact hnw⟩
      case measure => simp [intOf]; omega
     ·go_simp
      refine hK.out _ _ ?_
      clear hK K
      try simp only [aP]
      refine wpAny_ready (rs := [2]) (by kernel_rfl) (by simp) ?_
      refine anyN_cons 2 rfl (by rfl) (fun K hK => ?_) AllReady.nil
      go_simp
      refine C3.out.mono ?_
      rintro e w5 ⟨⟨v5,rfl,p5,q5,c5,rfl,hs5⟩,hb5⟩
      dsimp only
      have x5 := (hb5.cell (p := ⟨w.heap.size,0,none⟩) hxd).trans x0d
      have HB5:Hid (Below _ _ _) := hb5
      have HP5:Hid (Pst _ _ _) := hs5.pst
      clear hb5 hs5
      refine hK.out _ _ ?_
      clear hK K
      try simp only [aP]
      refine wpAny_ready (rs := [5]) (by kernel_rfl) (by simp) ?_
      refine anyN_cons 5 rfl (by rfl) (fun K hK => ?_) AllReady.nil
      go_simp
      refine (newer_any p5 q5 c5 r (s - 1) w5 HP5.out).mono ?_
      rintro e w6 ⟨rfl,hb6⟩
      dsimp only
      rw [show newr r (s - 1) = false from hnw]
      have HB6:Hid (Below w1.heap.size w1 w6) := (hb.out.drew.trans (HB5.out.mono hb.out.size)).trans (hb6.mono (Nat.le_trans hb.out.size HB5.out.size))
      clear hb6
      refine hK.out _ _ ?_
      clear hK K
      try simp only [aP]
      refine wpAny_done (by kernel_rfl) ?_ _
      refine NoPanic.normal ?_
      go_wp2_with fail
      go_roundw
      case rel => exact ⟨j + 1,by omega,by go_num,HB6,fun j2 h2 x' r' e1 e2 => by
       by_cases e3:j2 < j
       ·exact hno.out j2 e3 x' r' e1 e2
       ·have e4:j2 = j := by omega
        subst e4
        have := HR.out.1.symm.trans e1
        cases this
        have := HR.out.2.1.symm.trans e2
        cases this
        exact hnw⟩
      case measure => simp [intOf]; omega

end Go.Proofs.YtcibcfghkidncaaGreatDoor
