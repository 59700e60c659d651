/- Layer 13: claimOf. -/
import Derived.Test.YtcdamalpecedcaaGreatWGp6
import Derived.Maps.AppendAt
namespace Go.Proofs.YtcdamalpecedcaaGreat
open Go.RowKit
set_option maxRecDepth 100000

theorem Blk.grow {w w' : World} {g : Nat} {cs : Array Value} {T : TypeId} {row : Option Nat} (h : Blk w g cs T) (hg : w.grownBy w' row) (hn : row ≠ some g) : Blk w' g cs T := (hg.block g h.lt (fun e => hn e.symm)).trans h
theorem owns_ne {w : World} {B e size n : Nat} {v : Value} {xs : List Value} (h : w.ownsRow B e size v n xs) {b : Nat} {cs : Array Value} {T : TypeId} (hb : Blk w b cs T) (hT : e ≠ T) : v.ownBlock ≠ some b := by
  rcases h.2 with ⟨rfl, _⟩ | ⟨g, cap, cur, rfl, _, hg, _⟩
  · simp [Value.ownBlock]
  · intro e2
    simp only [Value.ownBlock, Option.some.injEq] at e2
    subst e2
    unfold Blk at hb
    rw [hg] at hb
    injection hb with hb
    injection hb with _ hb
    exact hT hb
theorem wpList_app1at {ops : Array Oper} {rest : List Oper} {o : Oper} {a : Act} {Q : Exit → Act → World → Prop} (w : World) (hgd : o.guard = none) (s x : Operand) (T S : TypeId) (z : Value) (size bytes : Nat)
    (ho : o.op = .call { callee := .builtin .append, args := #[s, x], argTypes := #[S, S] }) (hu : Tryz.prog.underlying S = some (.slice T))
    (hinfo : (Tryz.prog.info? T).map (fun i => (i.zero, i.size, i.bytes)) = some (some z, size, bytes)) (hzs : z.cells.size = size) (hsz : 0 < size)
    (B : Nat) (v : Value) (n : Nat) (xs : List Value) (hs : a.eval s = v) (hown : w.ownsRow B T size v n xs)
    (us : List Value) (hus : us.length = size) (hone : ∀ u ∈ us, u.oneCell' = true) (g : Nat) (hx : a.eval x = .slice (some ⟨g, 0, none⟩) 1 1) (hgz : g = w.heap.size)
    (hlen : (n + 1) * bytes ≤ 140737488355328) (hlen2 : n + 1 ≤ 140737488355328) (hbase : B ≤ w.heap.size)
    (h : ∀ v' w', w'.ownsRow B T size v' (n + 1) (xs ++ us) → Below B w w' → (w.alloc (.cells us.toArray T)).grownBy w' v.ownBlock → (v'.ownBlock = v.ownBlock ∨ v'.ownBlock = some (w.heap.size + 1)) → wpList Tryz.prog ops Q rest (a.put o.dst v') w') : wpList Tryz.prog ops Q (o :: rest) a (w.alloc (.cells us.toArray T)) := by
  obtain ⟨i, hi, hz0, hz1, hz2⟩ := info_parts1 hinfo
  subst hgz
  have hown' := hown.alloc (.cells us.toArray T)
  obtain ⟨v', w', hr, h2, h3, _, h5⟩ := run_append_own_at (P := Tryz.prog) (w.alloc (.cells us.toArray T)) B S o.type T i z size bytes hu hi hz0 hz1 hz2 hzs hsz v n xs hown' ⟨w.heap.size, 0, none⟩ 1 1 us (by omega) (fun j y hj => by
    have e : (⟨w.heap.size, 0, none⟩ : Addr).add j = ⟨w.heap.size, j, none⟩ := by unfold Addr.add; split <;> simp_all
    rw [e, World.cell?_alloc_new]
    simpa using hj) hone (by unfold maxLen; omega) hlen (by simp; omega)
  refine wpList_plain hgd fun K hK => ?_
  unfold Oper.wp execOp
  simp only [ho, resolve, invoke, builtin, Sem.run_bind, Sem.run_pure, Result.andThen_ok, List.map_toArray, List.map_cons, List.map_nil, hs, hx, hr]
  refine hK _ _ (h v' w' h2 (((Below.refl _ _).alloc hbase _).grown h3 (by simp; omega) (fun k hk => (hown'.lt k hk).1)) h3 ?_)
  rw [World.size_alloc] at h5
  exact h5
theorem ownR_frm {w w' : World} {B C : Nat} {v : Value} {L : List Rg} {F : Nat → Prop} (h : OwnR w B v L) (hf : Frm w w' F) (hn : ∀ g, B ≤ g → ¬ F g) (hc : C ≤ B := by omega) : OwnR w' C v L := by
  refine ⟨h.1, ?_⟩
  rcases h.2 with h1 | ⟨g, cap, cur, e, hb, hg, r⟩
  · exact .inl h1
  · exact .inr ⟨g, cap, cur, e, Nat.le_trans hc hb, (hf.block g (Array.getElem?_eq_some_iff.1 hg).1 (hn g hb)).trans hg, r⟩
/-- a claim in the making -/
structure CkS (w wq : World) (q : Option Addr) (H : List Hd) (va vo : Value) (i j : Nat) : Prop where
  o1 : OwnR wq (w.heap.size + 1) va (alls (H.take i))
  o2 : OwnR wq (w.heap.size + 1) vo (alos (H.take j))
  d : ∀ g, va.ownBlock = some g → vo.ownBlock ≠ some g
  r : RdH wq w.heap.size q H
  x : Blk wq w.heap.size #[.slice none 0 0, .slice none 0 0] 84
  b : Below w.heap.size w wq
  z : w.heap.size + 1 ≤ wq.heap.size
theorem CkS.on {w wq w' : World} {q : Option Addr} {H : List Hd} {va vo : Value} {i j : Nat} (h : CkS w wq q H va vo i j) (hb : Below wq.heap.size wq w') : CkS w w' q H va vo i j :=
  ⟨h.o1.kept hb, h.o2.kept hb, h.d, h.r.keep (hb.mono h.b.size), h.x.on hb, h.b.trans (hb.mono h.b.size), Nat.le_trans h.z hb.size⟩
theorem CkS.app1 {w wq w' : World} {q : Option Addr} {H : List Hd} {va vo v' : Value} {i : Nat} (h : CkS w wq q H va vo i i) (hi : i < H.length) (us : List Value) (hus : us = encR H[i].r) (ho : w'.ownsRow (w.heap.size + 1) 50 3 v' ((alls (H.take i)).length + 1) (rcells (alls (H.take i)) ++ us)) (hb : Below (w.heap.size + 1) wq w') (hg : (wq.alloc (.cells us.toArray 50)).grownBy w' va.ownBlock) (hv : v'.ownBlock = va.ownBlock ∨ v'.ownBlock = some (wq.heap.size + 1)) : CkS w w' q H v' vo (i + 1) i := by
  have hal : Below wq.heap.size wq (wq.alloc (.cells us.toArray 50)) := (Below.refl _ _).alloc (Nat.le_refl _) _
  have h2 := h.o2.kept hal
  have hlt : ∀ g, vo.ownBlock = some g → g < wq.heap.size := fun g e => ((show World.ownsRow _ _ _ _ _ _ _ from h.o2).lt g e).2
  refine ⟨?_, World.ownsRow.kept h2 hg ?_, ?_, h.r.keep (hb.mono (Nat.le_succ _)), h.x.keep hb (Nat.lt_succ_self _), h.b.trans (hb.mono (Nat.le_succ _)), Nat.le_trans h.z hb.size⟩
  · show World.ownsRow _ _ _ _ _ _ _
    rw [alls_snoc H hi, List.length_append, rcells_append]
    subst hus
    simpa [rcells] using ho
  · cases e : vo.ownBlock with
    | none => exact .inl rfl
    | some g => exact .inr (fun e2 => h.d g e2.symm e)
  · intro g hg'
    rcases hv with e | e
    · exact h.d g (e ▸ hg')
    · intro e2
      have := hlt g e2
      rw [e] at hg'
      injection hg' with hg'
      omega
theorem CkS.app2 {w wq w' : World} {q : Option Addr} {H : List Hd} {va vo v' : Value} {i : Nat} (h : CkS w wq q H va vo (i + 1) i) (hi : i < H.length) (hal' : H[i].al = true) (us : List Value) (hus : us = encR H[i].r) (ho : w'.ownsRow (w.heap.size + 1) 50 3 v' ((alos (H.take i)).length + 1) (rcells (alos (H.take i)) ++ us)) (hb : Below (w.heap.size + 1) wq w') (hg : (wq.alloc (.cells us.toArray 50)).grownBy w' vo.ownBlock) (hv : v'.ownBlock = vo.ownBlock ∨ v'.ownBlock = some (wq.heap.size + 1)) : CkS w w' q H va v' (i + 1) (i + 1) := by
  have hal : Below wq.heap.size wq (wq.alloc (.cells us.toArray 50)) := (Below.refl _ _).alloc (Nat.le_refl _) _
  have h2 := h.o1.kept hal
  have hlt : ∀ g, va.ownBlock = some g → g < wq.heap.size := fun g e => ((show World.ownsRow _ _ _ _ _ _ _ from h.o1).lt g e).2
  refine ⟨World.ownsRow.kept h2 hg ?_, ?_, ?_, h.r.keep (hb.mono (Nat.le_succ _)), h.x.keep hb (Nat.lt_succ_self _), h.b.trans (hb.mono (Nat.le_succ _)), Nat.le_trans h.z hb.size⟩
  · cases e : va.ownBlock with
    | none => exact .inl rfl
    | some g => exact .inr (fun e2 => h.d g e e2.symm)
  · show World.ownsRow _ _ _ _ _ _ _
    rw [alos_on hi hal', List.length_append, rcells_append]
    subst hus
    simpa [rcells] using ho
  · intro g hg' e2
    rcases hv with e | e
    · exact h.d g hg' (e ▸ e2)
    · have := hlt g hg'
      rw [e] at e2
      injection e2 with e2
      omega
theorem CkS.skip {w wq : World} {q : Option Addr} {H : List Hd} {va vo : Value} {i : Nat} (h : CkS w wq q H va vo (i + 1) i) (hi : i < H.length) (hal' : H[i].al = false) : CkS w wq q H va vo (i + 1) (i + 1) :=
  ⟨h.o1, by rw [alos_off hi hal']; exact h.o2, h.d, h.r, h.x, h.b, h.z⟩

set_option maxHeartbeats 8000000 in
theorem claimOf_any (H : List Hd) (q : Option Addr) (c : Nat) (w : World) (hR : RdH w w.heap.size q H) (hl : H.length ≤ 256) :
    Calls Tryz.prog 33 #[.slice q H.length c] w fun e w' => ∃ va vo cl, e = .returned (.agg #[va, vo]) ∧ ClOf cl H ∧ OwnR w' w.heap.size va cl.all ∧ OwnR w' w.heap.size vo cl.alo ∧ Below w.heap.size w w' := by
  obtain ⟨aX, aB, aS⟩ := blk_new w #[.slice none 0 0, .slice none 0 0] 84
  have H0 : Hid (CkS w (w.alloc (.cells #[.slice none 0 0, .slice none 0 0] 84)) q H (.slice none 0 0) (.slice none 0 0) 0 0) := ⟨OwnR.nil _ _, OwnR.nil _ _, (fun g h => by cases h), hR.keep aB, aX, aB, by omega⟩
  obtain ⟨n, hn⟩ : ∃ n, H.length = n := ⟨_, rfl⟩
  have HN : Hid (H.length = n) := hn
  rw [hn] at hl ⊢
  clear aX aB aS hR hn
  go_enter Tryz.func33, Tryz.ntmps33
  go_upto_region 3 with fail
  generalize w.alloc (.cells #[.slice none 0 0, .slice none 0 0] 84) = w1 at *
  go_loopw [3, 4, 9] (fun sa so si wq => ∃ i : Nat, i ≤ n ∧ si = .int .i64 (i : Int) ∧ Hid (CkS w wq q H sa so i i)) (fun _ _ si _ => ((n : Int) - intOf si).toNat)
  case atStart => exact ⟨0, by omega, rfl, H0⟩
  case round =>
    clear H0
    obtain ⟨i, hi, rfl, HI⟩ := hrel
    have HLa : Hid ((alls (H.take i)).length ≤ 256 ∧ (alos (H.take i)).length ≤ 256) := ⟨Nat.le_trans (alls_len H i) (by omega), Nat.le_trans (alos_len H i) (by omega)⟩
    rcases Nat.lt_or_eq_of_le hi with hlt | heq
    · have g1 : decide ((i : Int) < (n : Int)) = true := by simp; omega
      have hltH : i < H.length := by rw [HN.out]; exact hlt
      obtain ⟨b, o, rfl, hb, c0, c1, c2, c3⟩ := HI.out.r i hltH
      have HE : Hid (∃ hi : i < H.length, H[i] = H[i]) := ⟨hltH, rfl⟩
      obtain ⟨e0, he0⟩ : ∃ e0, H[i] = e0 := ⟨_, rfl⟩
      have HEe : Hid (H[i] = e0) := he0
      rw [he0] at c0 c1 c2 c3
      clear he0
      obtain ⟨⟨lo, hi', op⟩, al⟩ := e0
      dsimp only at c0 c1 c2 c3
      obtain ⟨bX, bB, bS⟩ := blk_new wr #[.string lo, .string hi', .bool op, .bool al] 52
      have HX : Hid (Blk (wr.alloc (.cells #[.string lo, .string hi', .bool op, .bool al] 52)) wr.heap.size #[.string lo, .string hi', .bool op, .bool al] 52) := bX
      have HQ : Hid (CkS w (wr.alloc (.cells #[.string lo, .string hi', .bool op, .bool al] 52)) (some ⟨b, o, none⟩) H u3 u4 i i) := HI.out.on bB
      clear bX bB bS HI hb
      go_upto_region 5 with fail
      clear c0 c1 c2 c3
      generalize wr.alloc (.cells #[.string lo, .string hi', .bool op, .bool al] 52) = w2 at *
      generalize wr.heap.size = hb at *
      have x0 := Blk.cell (i := 0) HX.out rfl
      have x1 := Blk.cell (i := 1) HX.out rfl
      have x2 := Blk.cell (i := 2) HX.out rfl
      have hO1 : Hid (World.ownsRow w2 (w.heap.size + 1) 50 3 u3 (alls (H.take i)).length (rcells (alls (H.take i)))) := HQ.out.o1
      go_wp2_with (first | (at_builtin; go_loud (refine wpList_app1at w2 rfl (.tmp 13) (.tmp 16) 50 82 _ 3 40 rfl Tryz.underlying82 info_rng rfl (by decide) (w.heap.size + 1) _ _ _ (by rfl) hO1.out [.string lo, .string hi', .bool op] rfl (by intro u hu; simp only [List.mem_cons, List.not_mem_nil, or_false] at hu; rcases hu with rfl | rfl | rfl <;> rfl) _ rfl (by simp) (by have := HLa.out.1; omega) (by have := HLa.out.1; omega) HQ.out.z ?_); intro v3 w3 h3 h4 h5 h6; refine Hid.out ?_))
      have HQ3 : Hid (CkS w w3 (some ⟨b, o, none⟩) H v3 u4 (i + 1) i) := HQ.out.app1 hltH _ (by rw [HEe.out]; rfl) h3 h4 h5 h6
      have HX3 : Hid (Blk w3 hb #[.string lo, .string hi', .bool op, .bool al] 52) := by
        have hal : Below w2.heap.size w2 (w2.alloc (.cells [Value.string lo, .string hi', .bool op].toArray 50)) := (Below.refl _ _).alloc (Nat.le_refl _) _
        exact (HX.out.on hal).grow h5 (owns_ne (owns_kept hO1.out hal) (HX.out.on hal) (by decide))
      clear h3 h4 h5 h6 HX HQ hO1 x0 x1 x2
      unfold Hid
      obtain ⟨p3, n3, c3', hv3⟩ : ∃ p n c, v3 = .slice p n c := by
        obtain ⟨p, c, e, -⟩ := owns_len (show World.ownsRow _ _ _ _ _ _ _ from HQ3.out.o1)
        exact ⟨p, _, c, e⟩
      subst hv3
      have x0 := Blk.cell (i := 0) HX3.out rfl
      have x1 := Blk.cell (i := 1) HX3.out rfl
      have x2 := Blk.cell (i := 2) HX3.out rfl
      have x3 := Blk.cell (i := 3) HX3.out rfl
      cases al with
      | false =>
        have HQ4 : Hid (CkS w w3 (some ⟨b, o, none⟩) H (.slice p3 n3 c3') u4 (i + 1) (i + 1)) := HQ3.out.skip hltH (by rw [HEe.out])
        go_wp2_with fail
        go_roundw
        case rel => exact ⟨i + 1, by omega, by go_num, HQ4⟩
        case measure => simp [intOf]; omega
      | true =>
        have hO2 : Hid (World.ownsRow w3 (w.heap.size + 1) 50 3 u4 (alos (H.take i)).length (rcells (alos (H.take i)))) := HQ3.out.o2
        go_wp2_with (first | (at_builtin; go_loud (refine wpList_app1at w3 rfl (.tmp 20) (.tmp 23) 50 82 _ 3 40 rfl Tryz.underlying82 info_rng rfl (by decide) (w.heap.size + 1) _ _ _ (by rfl) hO2.out [.string lo, .string hi', .bool op] rfl (by intro u hu; simp only [List.mem_cons, List.not_mem_nil, or_false] at hu; rcases hu with rfl | rfl | rfl <;> rfl) _ rfl (by simp) (by have := HLa.out.2; omega) (by have := HLa.out.2; omega) HQ3.out.z ?_); intro v5 w5 h3 h4 h5 h6; refine Hid.out ?_))
        have HQ4 : Hid (CkS w w5 (some ⟨b, o, none⟩) H (.slice p3 n3 c3') v5 (i + 1) (i + 1)) := HQ3.out.app2 hltH (by rw [HEe.out]) _ (by rw [HEe.out]; rfl) h3 h4 h5 h6
        clear h3 h4 h5 h6 HQ3 hO2 HX3 x0 x1 x2 x3
        unfold Hid
        go_wp2_with fail
        go_roundw
        case rel => exact ⟨i + 1, by omega, by go_num, HQ4⟩
        case measure => simp [intOf]; omega
    · have g1 : decide ((i : Int) < (n : Int)) = false := by simp; omega
      have hT : H.take i = H := by rw [heq, ← HN.out]; exact List.take_length
      have HQ : Hid (CkS w wr q H u3 u4 i i) := HI.out
      obtain ⟨p1, c1, rfl, l1, n1, r1⟩ := HI.out.o1.len
      obtain ⟨p2, c2, rfl, l2, n2, r2⟩ := HI.out.o2.len
      have C1 : Hid (Calls _ _ _ _ _) := union_any (alls (H.take i)) p1 c1 wr r1 (by have := HLa.out.1; omega) l1 n1
      have C2 : Hid (∀ w3, Below wr.heap.size wr w3 → Calls _ _ _ _ _) := fun w3 hb => union_any (alos (H.take i)) p2 c2 w3 ((r2.keep hb).mono hb.size) (by have := HLa.out.2; omega) l2 n2
      rw [hT] at C1 C2
      have HT : Hid (H.take i = H) := hT
      clear l1 n1 r1 l2 n2 r2 HI hT
      rw [HT.out]
      obtain ⟨k1, hk1⟩ : ∃ k1, (alls H).length = k1 := ⟨_, rfl⟩
      obtain ⟨k2, hk2⟩ : ∃ k2, (alos H).length = k2 := ⟨_, rfl⟩
      rw [hk1] at C1
      rw [hk2] at C2
      rw [hk1, hk2]
      clear hk1 hk2
      go_wp2_with fail
      refine C1.out.mono ?_
      rintro e w3 ⟨v3, R3, rfl, ho3, hr3, hm3, -, hb3⟩
      have C3 : Hid (Calls _ _ _ _ _) := C2.out w3 hb3
      obtain ⟨s3, ks3⟩ := union_keys hr3 hm3
      have H3 : Hid (OwnR w3 wr.heap.size v3 (R3.foldl stepU []) ∧ Sep (R3.foldl stepU []) ∧ (∀ k, inL (R3.foldl stepU []) k ↔ inL (alls H) k) ∧ Below wr.heap.size wr w3) := ⟨ho3, s3, ks3, hb3⟩
      clear C1 C2 ho3 hr3 hm3 hb3 s3 ks3
      generalize R3.foldl stepU [] = U3 at *
      go_wp2_with fail
      refine C3.out.mono ?_
      rintro e w4 ⟨v4, R4, rfl, ho4, hr4, hm4, -, hb4⟩
      obtain ⟨s4, ks4⟩ := union_keys hr4 hm4
      generalize R4.foldl stepU [] = U4 at *
      have hb24 : Below wr.heap.size wr w4 := H3.out.2.2.2.trans (hb4.mono H3.out.2.2.2.size)
      have HX4 : Hid (Blk w4 w.heap.size #[.slice none 0 0, .slice none 0 0] 84) := HQ.out.x.on hb24
      have HZ : Hid (OwnR w4 (w.heap.size + 1) v3 U3 ∧ OwnR w4 (w.heap.size + 1) v4 U4 ∧ ClOf ⟨U3, U4⟩ H ∧ Below w.heap.size w w4) := ⟨(H3.out.1.kept hb4).mono HQ.out.z, ho4.mono (Nat.le_trans HQ.out.z H3.out.2.2.2.size), ⟨H3.out.2.1, s4, H3.out.2.2.1, ks4⟩, HQ.out.b.trans (hb24.mono HQ.out.b.size)⟩
      clear C3 ho4 hr4 hm4 hb4 s4 ks4 hb24 H3 HQ
      obtain ⟨p3, n3, c3, hv3⟩ : ∃ p n c, v3 = .slice p n c := by
        obtain ⟨p, c, e, -⟩ := HZ.out.1.len
        exact ⟨p, _, c, e⟩
      obtain ⟨p4, n4, c4, hv4⟩ : ∃ p n c, v4 = .slice p n c := by
        obtain ⟨p, c, e, -⟩ := HZ.out.2.1.len
        exact ⟨p, _, c, e⟩
      subst hv3 hv4
      have y0 := Blk.cell (i := 0) HX4.out rfl
      have y1 := Blk.cell (i := 1) HX4.out rfl
      have f0 := Blk.frozen HX4.out 0
      have f1 := Blk.frozen HX4.out 1
      have HX5 := (HX4.out.set 0 (.slice p3 n3 c3)).set 1 (.slice p4 n4 c4)
      have q0 := Blk.cell (i := 0) HX5 rfl
      have q1 := Blk.cell (i := 1) HX5 rfl
      clear HX5
      have HF : Hid (Frm w4 ((w4.setCell ⟨w.heap.size, 0, none⟩ (.slice p3 n3 c3)).setCell ⟨w.heap.size, 1, none⟩ (.slice p4 n4 c4)) (fun k => k = w.heap.size)) := (frm_set w4 _ 0 _ (F := fun k => k = w.heap.size) (.inl rfl)).trans (frm_set _ _ 1 _ (F := fun k => k = w.heap.size) (.inl rfl)) (fun k hk => .inl hk)
      go_wp2_with fail
      (try simp only [Exit.inBlock, Exit.then])
      refine bodyPost_ret (v := .agg #[.slice p3 n3 c3, .slice p4 n4 c4]) (by simp [results, Tryz.results33, go_sem, q0, q1]) rfl ?_
      have hbl : Below w.heap.size w4 ((w4.setCell ⟨w.heap.size, 0, none⟩ (.slice p3 n3 c3)).setCell ⟨w.heap.size, 1, none⟩ (.slice p4 n4 c4)) := HF.out.below HZ.out.2.2.2.size (fun k hk => Nat.le_of_eq hk.symm)
      exact ⟨_, _, ⟨U3, U4⟩, rfl, HZ.out.2.2.1, ownR_frm HZ.out.1 HF.out (fun g hg hk => by omega), ownR_frm HZ.out.2.1 HF.out (fun g hg hk => by omega), HZ.out.2.2.2.trans hbl⟩
end Go.Proofs.YtcdamalpecedcaaGreat
