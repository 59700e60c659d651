/- Layer 13: Gaps in memory; take. -/
import Derived.Test.YtcdamalpecedcaaGreatWGp13
namespace Go.Proofs.YtcdamalpecedcaaGreat
open Go.RowKit
set_option maxRecDepth 100000

/-- GAPS IN MEMORY -/
def Gp (w : World) (gb nx : Nat) (Y : List Tkr) : Prop := ∃ xb p c, Blk w gb #[ptr1 xb] 64 ∧ LnP w xb nx p c Y
theorem only_gb {w : World} {b : Nat} {cs : Array Value} (h : Blk w b cs 64) : OnlyTG w (fun k => k = b) := by
  intro g cs' T z hg e
  subst e
  unfold Blk at h
  rw [h] at hg
  injection hg with hg
  injection hg with _ hg _
  exact .inr hg.symm
theorem Gp.on {w w' : World} {gb nx : Nat} {Y : List Tkr} (h : Gp w gb nx Y) (hb : Below w.heap.size w w') : Gp w' gb nx Y := by
  obtain ⟨xb, p, c, h1, h2⟩ := h
  exact ⟨xb, p, c, h1.on hb, h2.on hb⟩
theorem TkM.lts {w : World} {b ch : Nat} {x : Tk} (h : TkM w b ch x) : b < w.heap.size ∧ ch < w.heap.size := by
  obtain ⟨va, vo, vh, told, d, sm, cl, k1, _, _, _, _, k6, _⟩ := h
  exact ⟨k1.lt, k6.lt⟩
theorem TkM.ne {w : World} {b ch : Nat} {x : Tk} (h : TkM w b ch x) {g : Nat} {cs : Array Value} {T : TypeId} (hg : Blk w g cs T) (hT : T ≠ 97) : b ≠ g ∧ ch ≠ g := by
  obtain ⟨va, vo, vh, told, d, sm, cl, k1, _, _, _, _, k6, _⟩ := h
  refine ⟨fun e => ?_, fun e => ?_⟩
  · subst e
    unfold Blk at k1 hg
    rw [k1] at hg
    injection hg with hg
    injection hg with _ hg _
    exact hT hg.symm
  · subst e
    unfold Blk at hg
    unfold ChM at k6
    rw [k6] at hg
    cases hg
/-- what a take makes -/
theorem take_fin {w we w6 : World} {gb xb nx tb ch yb c n6 c6 : Nat} {p p6 : Option Addr} {Y : List Tkr} {H : List Hd} (hL : LnP we xb nx p c Y) (hT : TkM we tb ch (newT H nx (Y.map Tkr.x))) (hn : (∀ y ∈ Y, y.b ≠ tb ∧ y.ch ≠ ch) ∧ ch ≠ tb ∧ tb ≠ gb ∧ ch ≠ gb) (hg : Blk w6 gb #[ptr1 xb] 64) (hy : Blk w6 yb #[.int .u64 ((nx + 1 : Nat) : Int), .slice p6 n6 c6] 68) (ho : OwnT w6 we.heap.size (.slice p6 n6 c6) (Y.map Tkr.b ++ [tb])) (hb : Below we.heap.size we w6) (hf : Frm w we (fun _ => False)) (hl : Y.length < 256) :
    Gp (w6.setCell ⟨gb, 0, none⟩ (ptr1 yb)) gb (nx + 1) (Y ++ [⟨tb, ch, newT H nx (Y.map Tkr.x)⟩]) ∧ Frm w (w6.setCell ⟨gb, 0, none⟩ (ptr1 yb)) (fun k => k = gb) := by
  have hfs : Frm w6 (w6.setCell ⟨gb, 0, none⟩ (ptr1 yb)) (fun k => k = gb) := frm_set w6 gb 0 _ (.inl rfl)
  have hoG := only_gb hg
  have hN : (Y.map Tkr.b ++ [tb]).length = Y.length + 1 := by simp
  refine ⟨⟨yb, p6, c6, hg.set 0 _, ⟨?_, ?_, ?_, ?_, ?_, ?_, ?_, ?_⟩⟩, ?_⟩
  · have e : n6 = (Y ++ [(⟨tb, ch, newT H nx (Y.map Tkr.x)⟩ : Tkr)]).length := by
      obtain ⟨p', c', e, _⟩ := owns_len ho
      injection e with _ e2 _
      rw [e2, hN]
      simp
    rw [← e]
    exact blk_frm hy hfs hoG (by decide) (by decide)
  · have e : n6 = (Y ++ [(⟨tb, ch, newT H nx (Y.map Tkr.x)⟩ : Tkr)]).length := by
      obtain ⟨p', c', e, _⟩ := owns_len ho
      injection e with _ e2 _
      rw [e2, hN]
      simp
    rw [← e, List.map_append]
    exact owns_frm (owns_base ho (Nat.zero_le _)) hfs hoG (by decide) (by decide)
  · intro y hy'
    rcases List.mem_append.1 hy' with h1 | h1
    · have h2 := (hL.t y h1).on hb
      exact h2.frm hfs hoG (h2.ne hg (by decide)).1 (h2.ne hg (by decide)).2
    · rw [List.mem_singleton] at h1
      subst h1
      have h2 := hT.on hb
      exact h2.frm hfs hoG (h2.ne hg (by decide)).1 (h2.ne hg (by decide)).2
  · rw [List.map_append]
    refine List.nodup_append.2 ⟨hL.nb, by simp, ?_⟩
    intro a ha b hb'
    obtain ⟨y, hy', rfl⟩ := List.mem_map.1 ha
    simp at hb'
    subst hb'
    exact (hn.1 y hy').1
  · rw [List.map_append]
    refine List.nodup_append.2 ⟨hL.nc, by simp, ?_⟩
    intro a ha b hb'
    obtain ⟨y, hy', rfl⟩ := List.mem_map.1 ha
    simp at hb'
    subst hb'
    exact (hn.1 y hy').2
  · rw [List.map_append]
    exact hL.i.take H
  · rw [List.length_append]
    simp
    omega
  · intro y hy'
    rcases List.mem_append.1 hy' with h1 | h1
    · exact hL.a y h1
    · rw [List.mem_singleton] at h1
      subst h1
      show (((Y.map Tkr.x).filter _).map Tk.t).length ≤ 256
      rw [List.length_map]
      refine Nat.le_trans (List.length_filter_le _ _) ?_
      rw [List.length_map]
      omega
  · exact ((hf.mono (fun k hk => hk.elim)).trans (Frm.of_below (F := fun k => k = gb) hb) (fun k hk => .inl hk)).trans hfs (fun k hk => .inl hk)

set_option maxHeartbeats 8000000 in
theorem gtake_full (gb nx c1 c2 n1 n2 : Nat) (p1 p2 : Option Addr) (Y : List Tkr) (w : World) (hG : Gp w gb nx Y) (hl : Y.length = 256) :
    Calls Tryz.prog 32 #[ptr1 gb, .agg #[.slice p1 n1 c1, .slice p2 n2 c2]] w fun e w' => e = .returned (.tuple #[.int .u64 0, .int .i64 2]) ∧ Below w.heap.size w w' := by
  obtain ⟨aX, aB, aS⟩ := blk_new w #[.slice p1 n1 c1, .slice p2 n2 c2] 84
  have HG : Hid (Gp (w.alloc (.cells #[.slice p1 n1 c1, .slice p2 n2 c2] 84)) gb nx Y ∧ Below w.heap.size w (w.alloc (.cells #[.slice p1 n1 c1, .slice p2 n2 c2] 84))) := ⟨hG.on aB, aB⟩
  have C1 : Hid (Calls _ _ _ _ _) := newTaker_any p1 p2 n1 n2 c1 c2 (w.alloc (.cells #[.slice p1 n1 c1, .slice p2 n2 c2] 84))
  have k0 := Blk.cell (i := 0) aX rfl
  have k1 := Blk.cell (i := 1) aX rfl
  clear aX aB aS hG
  go_enter Tryz.func32, Tryz.ntmps32
  go_upto_region 1 with fail
  generalize w.alloc (.cells #[.slice p1 n1 c1, .slice p2 n2 c2] 84) = w1 at *
  go_wp2_with fail
  refine C1.out.mono ?_
  rintro e w2 ⟨ch, tb, rfl, -, -, -, -, -, hb2⟩
  have HG2 : Hid (Gp w2 gb nx Y ∧ Below w.heap.size w w2) := ⟨HG.out.1.on hb2, HG.out.2.trans (hb2.mono HG.out.2.size)⟩
  clear C1 hb2 k0 k1 HG
  go_wp2_with fail
  go_loopw [7] (fun _ wq => wq = w2) (fun _ _ => 0)
  case atStart => rfl
  case round =>
    subst hrel
    obtain ⟨xb, p, c, hg, hLn⟩ := HG2.out.1
    have C2 : Hid (Calls _ _ _ _ _) := loadLn gb 0 (some ⟨xb, 0, none⟩) wr (Blk.cell (i := 0) hg rfl) (PtT.blk hLn.b rfl)
    have x1 := Blk.cell (i := 1) hLn.b rfl
    rw [hl] at x1
    clear hg hLn
    go_wp2_with fail
    refine C2.out.mono ?_
    rintro e w9 ⟨rfl, hw9⟩
    rw [hw9]
    clear hw9 C2
    go_wp2_with fail
    go_ret2
    exact ⟨rfl, HG2.out.2⟩

set_option maxHeartbeats 16000000 in
theorem gtake_ok (gb nx c1 c2 n1 n2 : Nat) (p1 p2 : Option Addr) (cl : Cl) (H : List Hd) (Y : List Tkr) (w : World) (hG : Gp w gb nx Y) (hl : Y.length < 256) (hcl : ClOf cl H) (ho1 : OwnR w 0 (.slice p1 n1 c1) cl.all) (ho2 : OwnR w 0 (.slice p2 n2 c2) cl.alo) (hnx : nx < 9000000000000000000) :
    Calls Tryz.prog 32 #[ptr1 gb, .agg #[.slice p1 n1 c1, .slice p2 n2 c2]] w fun e w' => ∃ tb ch, e = .returned (.tuple #[.int .u64 (nx : Nat), .int .i64 0]) ∧ Gp w' gb (nx + 1) (Y ++ [⟨tb, ch, newT H nx (Y.map Tkr.x)⟩]) ∧ Frm w w' (fun k => k = gb) ∧ w.heap.size ≤ tb ∧ w.heap.size ≤ ch := by
  obtain ⟨aX, aB, aS⟩ := blk_new w #[.slice p1 n1 c1, .slice p2 n2 c2] 84
  have HG : Hid (Gp (w.alloc (.cells #[.slice p1 n1 c1, .slice p2 n2 c2] 84)) gb nx Y ∧ Below w.heap.size w (w.alloc (.cells #[.slice p1 n1 c1, .slice p2 n2 c2] 84)) ∧ OwnR (w.alloc (.cells #[.slice p1 n1 c1, .slice p2 n2 c2] 84)) 0 (.slice p1 n1 c1) cl.all ∧ OwnR (w.alloc (.cells #[.slice p1 n1 c1, .slice p2 n2 c2] 84)) 0 (.slice p2 n2 c2) cl.alo) := ⟨hG.on aB, aB, ho1.kept aB, ho2.kept aB⟩
  have C1 : Hid (Calls _ _ _ _ _) := newTaker_any p1 p2 n1 n2 c1 c2 (w.alloc (.cells #[.slice p1 n1 c1, .slice p2 n2 c2] 84))
  have HCl : Hid (ClOf cl H) := hcl
  have HLen : Hid (Y.length < 256) := hl
  have HNx : Hid (nx < 9000000000000000000) := hnx
  have k0 := Blk.cell (i := 0) aX rfl
  have k1 := Blk.cell (i := 1) aX rfl
  clear aX aB aS hG hcl ho1 ho2 hnx
  go_enter Tryz.func32, Tryz.ntmps32
  go_upto_region 1 with fail
  generalize w.alloc (.cells #[.slice p1 n1 c1, .slice p2 n2 c2] 84) = w1 at *
  go_wp2_with fail
  refine C1.out.mono ?_
  rintro e w2 ⟨ch, tb, rfl, hT, hC, hch, htb, hne, hb2⟩
  have HG2 : Hid (Gp w2 gb nx Y ∧ Below w.heap.size w w2 ∧ OwnR w2 0 (.slice p1 n1 c1) cl.all ∧ OwnR w2 0 (.slice p2 n2 c2) cl.alo) := ⟨HG.out.1.on hb2, HG.out.2.1.trans (hb2.mono HG.out.2.1.size), HG.out.2.2.1.kept hb2, HG.out.2.2.2.kept hb2⟩
  have HT : Hid (Blk w2 tb (tkC 0 (.slice p1 n1 c1) (.slice p2 n2 c2) (.slice none 0 0) ch 0 0 0) 97 ∧ ChM w2 ch false) := ⟨hT, hC⟩
  have HTs : Hid (w.heap.size ≤ tb ∧ w.heap.size ≤ ch) := ⟨Nat.le_trans HG.out.2.1.size htb, Nat.le_trans HG.out.2.1.size hch⟩
  have HNew : Hid ((∀ y ∈ Y, y.b ≠ tb ∧ y.ch ≠ ch) ∧ ch ≠ tb ∧ tb ≠ gb ∧ ch ≠ gb ∧ (∀ y ∈ Y, y.b ≠ tb ∧ y.ch ≠ tb) ∧ (∀ y ∈ Y, y.b ≠ ch)) := by
    obtain ⟨xb, p, c, hg, hLn⟩ := HG.out.1
    have hgl := hg.lt
    refine ⟨fun y hy => ?_, hne, by omega, by omega, fun y hy => ?_, fun y hy => ?_⟩
    · have h9 := (hLn.t y hy).lts
      exact ⟨by omega, by omega⟩
    · have h9 := (hLn.t y hy).lts
      exact ⟨by omega, by omega⟩
    · have h9 := (hLn.t y hy).lts
      omega
  clear C1 hb2 k0 k1 HG hT hC hch htb hne
  go_wp2_with fail
  go_loopw [7] (fun _ wq => wq = w2) (fun _ _ => 0)
  case atStart => rfl
  case round =>
    subst hrel
    obtain ⟨xb, p, c, hg, hLn⟩ := HG2.out.1
    have C2 : Hid (Calls _ _ _ _ _) := loadLn gb 0 (some ⟨xb, 0, none⟩) wr (Blk.cell (i := 0) hg rfl) (PtT.blk hLn.b rfl)
    have C3 : Hid (Calls _ _ _ _ _) := standBehind_any xb nx tb ch Y H cl p1 p2 n1 n2 c1 c2 wr p c hLn HT.out.1 HCl.out HG2.out.2.2.1 HG2.out.2.2.2 HNew.out.2.2.2.2.1
    have x1 := Blk.cell (i := 1) hLn.b rfl
    have HLn : Hid (LnP wr xb nx p c Y) := hLn
    have HGb0 : Hid (Blk wr gb #[ptr1 xb] 64) := hg
    clear hg hLn
    generalize Y.length = ny at hl x1
    have hly : (ny : Int) ≠ 256 := by omega
    go_wp2_with fail
    refine C2.out.mono ?_
    rintro e w9 ⟨rfl, hw9⟩
    rw [hw9]
    clear hw9 C2
    go_wp2_with fail
    refine C3.out.mono ?_
    rintro e w5 ⟨rfl, ⟨vh, hT5, hU5⟩, hF5⟩
    have hoT := only_one HT.out.1
    have hdr : Below w5.heap.size w5 w5.drew := (Below.refl _ _).drew
    have HFr : Hid (Frm w w5.drew (fun _ => False)) := ((Frm.of_below (F := fun _ => False) HG2.out.2.1).trans hF5 (fun k hk => .inr (by rw [hk]; exact HTs.out.1))).trans (Frm.of_below (F := fun _ => False) hdr) (fun k hk => .inl hk)
    have HLd : Hid (LnP w5.drew xb nx p c Y) := (HLn.out.frm hF5 hoT (fun y hy => HNew.out.2.2.2.2.1 y hy)).on hdr
    have HTk : Hid (TkM w5.drew tb ch (newT H nx (Y.map Tkr.x))) := by
      refine TkM.on (w := w5) ⟨_, _, vh, 0, 0, 0, cl, hT5, HCl.out, owns_frm HG2.out.2.2.1 hF5 hoT (by decide) (by decide), owns_frm HG2.out.2.2.2 hF5 hoT (by decide) (by decide), owns_base hU5 (Nat.zero_le _), ?_, by decide⟩ hdr
      exact (hF5.block ch HT.out.2.lt (fun e => HNew.out.2.1 e)).trans HT.out.2
    have HGb : Hid (Blk w5.drew gb #[ptr1 xb] 64) := (HGb0.out.frm hF5 (fun e => HNew.out.2.2.1 e.symm)).on hdr
    have CW : Hid (Calls _ _ _ _ _) := with_any xb nx tb Y.length c p (Y.map Tkr.b) w5.drew HLd.out.b HLd.out.o (by rw [List.length_map]; have := HLen.out; omega) HNx.out
    clear C3 hT5 hU5 hF5 hoT hdr HLn HGb0 x1 hly hl
    go_upto_region 6 with fail
    refine wp_region_any (by kernel_rfl) ?_
    change wpAny _ _ _ _ _ _ _ (World.drew _)
    generalize w5.drew = we at *
    refine tk (v := ?_) 0 rfl ?_ ?_
    rotate_left
    focus
      intro w9
      go_simp
      try with_reducible rfl
    try simp only [aP]
    refine tk (v := ?_) 1 rfl ?_ ?_
    rotate_left
    focus
      intro w9
      go_simp
      try with_reducible rfl
    try simp only [aP]
    refine tk (v := ?_) 2 rfl ?_ ?_
    rotate_left
    focus
      intro w9
      go_simp
      try with_reducible rfl
    try simp only [aP]
    refine tk (v := ?_) 3 rfl ?_ ?_
    rotate_left
    focus
      intro w9
      go_simp
      try with_reducible rfl
    try simp only [aP]
    refine tk (v := ?_) 4 rfl ?_ ?_
    rotate_left
    focus
      intro w9
      go_simp
      try with_reducible rfl
    try simp only [aP]
    refine tk (v := ?_) 5 rfl ?_ ?_
    rotate_left
    focus
      intro w9
      go_simp
      try with_reducible rfl
    try simp only [aP]
    apply later3 (fun (yb : Nat) (w6 : World) (w7 : World) => Hid (Hid (∃ p6 n6 c6, Blk w6 yb #[.int .u64 ((nx + 1 : Nat) : Int), .slice p6 n6 c6] 68 ∧ OwnT w6 we.heap.size (.slice p6 n6 c6) (Y.map Tkr.b ++ [tb]) ∧ we.heap.size ≤ yb ∧ Below we.heap.size we w6) ∧ w7 = w6.setCell ⟨gb, 0, none⟩ (ptr1 yb)))
    intro hs6_7
    apply later2 (fun (yb : Nat) (w6 : World) => Hid (∃ p6 n6 c6, Blk w6 yb #[.int .u64 ((nx + 1 : Nat) : Int), .slice p6 n6 c6] 68 ∧ OwnT w6 we.heap.size (.slice p6 n6 c6) (Y.map Tkr.b ++ [tb]) ∧ we.heap.size ≤ yb ∧ Below we.heap.size we w6))
    intro hs6
    · refine wpAny_ready (rs := [6]) (by kernel_rfl) (by simp) ?_
      refine anyN_cons 6 rfl (by rfl) (fun K hK => ?_) AllReady.nil
      go_simp
      refine CW.out.mono ?_
      rintro e w6 ⟨yb, v6, rfl, hy1, hy2, hy3, hy4⟩
      dsimp only
      obtain ⟨p6, n6, c6, hv6⟩ : ∃ p n c, v6 = .slice p n c := by
        obtain ⟨p, c, e, -⟩ := owns_len hy2
        exact ⟨p, _, c, e⟩
      subst hv6
      have H6 : Hid (∃ p6 n6 c6, Blk w6 yb #[.int .u64 ((nx + 1 : Nat) : Int), .slice p6 n6 c6] 68 ∧ OwnT w6 we.heap.size (.slice p6 n6 c6) (Y.map Tkr.b ++ [tb]) ∧ we.heap.size ≤ yb ∧ Below we.heap.size we w6) := ⟨p6, n6, c6, hy1, hy2, hy3, hy4⟩
      clear hy1 hy2 hy3 hy4
      refine hK.out _ _ ?_
      clear hK K
      try simp only [aP]
      exact hs6 yb w6 H6
    · intro yb w6 H6
      refine wpAny_ready (rs := [7]) (by kernel_rfl) (by simp) ?_
      refine anyN_cons 7 rfl (by rfl) (fun K hK => ?_) AllReady.nil
      go_simp
      obtain ⟨p6, n6, c6, m1, m2, m3, m4⟩ := H6.out
      have hg6 := HGb.out.on m4
      have hx6 := HLd.out.b.on m4
      refine (casLn gb 0 (some ⟨xb, 0, none⟩) (some ⟨yb, 0, none⟩) w6 (Blk.cell (i := 0) hg6 rfl) (hg6.frozen 0) (PtT.blk hx6 rfl) (PtT.blk m1 rfl)).mono ?_
      rintro e w7 ⟨rfl, hw7⟩
      dsimp only
      have H67 : Hid (Hid (∃ p6 n6 c6, Blk w6 yb #[.int .u64 ((nx + 1 : Nat) : Int), .slice p6 n6 c6] 68 ∧ OwnT w6 we.heap.size (.slice p6 n6 c6) (Y.map Tkr.b ++ [tb]) ∧ we.heap.size ≤ yb ∧ Below we.heap.size we w6) ∧ w7 = w6.setCell ⟨gb, 0, none⟩ (ptr1 yb)) := ⟨H6, hw7⟩
      clear hw7 hg6 hx6 m1 m2 m3 m4
      refine hK.out _ _ ?_
      clear hK K
      try simp only [aP]
      exact hs6_7 yb w6 w7 H67
    · intro yb w6 w7 H67
      refine wpAny_done (by kernel_rfl) ?_ _
      obtain ⟨H6, hw7⟩ := H67.out
      obtain ⟨p6, n6, c6, m1, m2, m3, m4⟩ := H6.out
      have HZ : Hid (Gp w7 gb (nx + 1) (Y ++ [⟨tb, ch, newT H nx (Y.map Tkr.x)⟩]) ∧ Frm w w7 (fun k => k = gb)) := by
        rw [hw7]
        exact take_fin HLd.out HTk.out ⟨HNew.out.1, HNew.out.2.1, HNew.out.2.2.1, HNew.out.2.2.2.1⟩ (HGb.out.on m4) m1 m2 m4 HFr.out HLen.out
      have z0 : w7.cell? ⟨tb, 0, none⟩ = some (.int .u64 (nx : Nat)) := by
        obtain ⟨va9, vo9, vh9, told9, d9, sm9, cl9, k1, _⟩ := HTk.out
        have k3 : Blk w7 tb (tkC nx va9 vo9 vh9 ch told9 d9 sm9) 97 := by
          rw [hw7]
          exact (k1.on m4).other (fun e => HNew.out.2.2.1 e) 0 _
        exact Blk.cell (i := 0) k3 rfl
      clear H67 H6 hw7 m1 m2 m3 m4
      go_wp2_with fail
      go_ret2
      exact ⟨tb, ch, rfl, HZ.out.1, HZ.out.2, HTs.out⟩
end Go.Proofs.YtcdamalpecedcaaGreat
