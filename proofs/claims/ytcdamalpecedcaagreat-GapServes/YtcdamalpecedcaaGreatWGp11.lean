/- Layer 13: takers and lines in memory. -/
import Derived.Test.YtcdamalpecedcaaGreatWGp10
namespace Go.Proofs.YtcdamalpecedcaaGreat
open Go.RowKit
set_option maxRecDepth 100000

/-- blocks that may be written: takers, Gaps, channels -/
def OnlyTG (w : World) (F : Nat → Prop) : Prop := ∀ g cs T z, w.heap[g]? = some (.cells cs T z) → F g → (T = 97 ∨ T = 64)
theorem owns_frm {w w' : World} {B e size n : Nat} {v : Value} {xs : List Value} {F : Nat → Prop} (h : w.ownsRow B e size v n xs) (hf : Frm w w' F) (hF : OnlyTG w F) (h1 : e ≠ 97) (h2 : e ≠ 64) : w'.ownsRow B e size v n xs := by
  refine ⟨h.1, ?_⟩
  rcases h.2 with h3 | ⟨g, cap, cur, e1, hb, hg, r⟩
  · exact .inl h3
  · refine .inr ⟨g, cap, cur, e1, hb, (hf.block g (Array.getElem?_eq_some_iff.1 hg).1 (fun hk => ?_)).trans hg, r⟩
    rcases hF g _ _ _ hg hk with e2 | e2
    · exact h1 e2
    · exact h2 e2
theorem blk_frm {w w' : World} {b : Nat} {cs : Array Value} {T : TypeId} {F : Nat → Prop} (h : Blk w b cs T) (hf : Frm w w' F) (hF : OnlyTG w F) (h1 : T ≠ 97) (h2 : T ≠ 64) : Blk w' b cs T := h.frm hf (fun hk => by
  rcases hF b _ _ _ h hk with e2 | e2
  · exact h1 e2
  · exact h2 e2)
theorem only_one {w : World} {b : Nat} {cs : Array Value} (h : Blk w b cs 97) : OnlyTG w (fun k => k = b) := by
  intro g cs' T z hg e
  subst e
  unfold Blk at h
  rw [h] at hg
  injection hg with hg
  injection hg with _ hg _
  exact .inl hg.symm
/-- a taker in memory, and its channel -/
structure Tkr where
  b : Nat
  ch : Nat
  x : Tk
def TkM (w : World) (b ch : Nat) (x : Tk) : Prop := ∃ va vo vh told d sm cl, Blk w b (tkC x.t va vo vh ch told d sm) 97 ∧ ClOf cl x.H ∧ OwnR w 0 va cl.all ∧ OwnR w 0 vo cl.alo ∧ OwnU w 0 vh x.A ∧ ChM w ch (decide (d ≠ 0)) ∧ d ≤ 1
theorem TkM.frm {w w' : World} {b ch : Nat} {x : Tk} {F : Nat → Prop} (h : TkM w b ch x) (hf : Frm w w' F) (hF : OnlyTG w F) (h1 : ¬ F b) (h2 : ¬ F ch) : TkM w' b ch x := by
  obtain ⟨va, vo, vh, told, d, sm, cl, k1, k2, k3, k4, k5, k6, k7⟩ := h
  exact ⟨va, vo, vh, told, d, sm, cl, k1.frm hf h1, k2, owns_frm k3 hf hF (by decide) (by decide), owns_frm k4 hf hF (by decide) (by decide), owns_frm k5 hf hF (by decide) (by decide), (hf.block ch k6.lt h2).trans k6, k7⟩
theorem only_none (w : World) : OnlyTG w (fun _ => False) := fun _ _ _ _ _ h => h.elim
theorem TkM.on {w w' : World} {b ch : Nat} {x : Tk} (h : TkM w b ch x) (hb : Below w.heap.size w w') : TkM w' b ch x := h.frm (Frm.of_below (F := fun _ => False) hb) (only_none w) id id
abbrev zs (Y : List Tkr) : List (Nat × Nat) := Y.map (fun y => (y.b, y.x.t))
/-- a line in memory -/
structure LnP (w : World) (xb nx : Nat) (p : Option Addr) (c : Nat) (Y : List Tkr) : Prop where
  b : Blk w xb #[.int .u64 (nx : Nat), .slice p Y.length c] 68
  o : OwnT w 0 (.slice p Y.length c) (Y.map Tkr.b)
  t : ∀ y ∈ Y, TkM w y.b y.ch y.x
  nb : (Y.map Tkr.b).Nodup
  nc : (Y.map Tkr.ch).Nodup
  i : InvG (Y.map Tkr.x) nx
  l : Y.length ≤ 256
  a : ∀ y ∈ Y, y.x.A.length ≤ 256
theorem LnP.frm {w w' : World} {xb nx c : Nat} {p : Option Addr} {Y : List Tkr} {F : Nat → Prop} (h : LnP w xb nx p c Y) (hf : Frm w w' F) (hF : OnlyTG w F) (h1 : ∀ y ∈ Y, ¬ F y.b ∧ ¬ F y.ch) : LnP w' xb nx p c Y :=
  ⟨blk_frm h.b hf hF (by decide) (by decide), owns_frm h.o hf hF (by decide) (by decide), fun y hy => (h.t y hy).frm hf hF (h1 y hy).1 (h1 y hy).2, h.nb, h.nc, h.i, h.l, h.a⟩
theorem LnP.on {w w' : World} {xb nx c : Nat} {p : Option Addr} {Y : List Tkr} (h : LnP w xb nx p c Y) (hb : Below w.heap.size w w') : LnP w' xb nx p c Y := h.frm (Frm.of_below (F := fun _ => False) hb) (only_none w) (fun _ _ => ⟨id, id⟩)
theorem TkM.tkt {w : World} {b ch : Nat} {x : Tk} (h : TkM w b ch x) : w.cell? ⟨b, 0, none⟩ = some (.int .u64 (x.t : Nat)) ∧ b < w.heap.size := by
  obtain ⟨va, vo, vh, told, d, sm, cl, k1, _⟩ := h
  exact ⟨Blk.cell (i := 0) k1 rfl, k1.lt⟩
theorem LnP.z {w : World} {xb nx c : Nat} {p : Option Addr} {Y : List Tkr} (h : LnP w xb nx p c Y) : LnZ w xb nx p c (zs Y) ∧ Y.length ≤ c ∧ (p = none → c = 0) ∧ (∀ a, p = some a → ∃ g, a = ⟨g, 0, none⟩) := by
  obtain ⟨p', c', e, hat⟩ := OwnT.at h.o
  obtain ⟨p'', c'', e', hle⟩ := owns_len h.o
  injection e with e1 e2 e3
  subst e1 e3
  injection e' with _ _ e4
  rw [List.length_map] at hle
  have hl : (zs Y).length = Y.length := List.length_map _
  refine ⟨⟨by rw [hl]; exact h.b, ?_, ?_, by rw [hl]; exact h.l⟩, by rw [e4]; exact hle, ?_, ?_⟩
  · intro i hi
    rw [hl] at hi
    obtain ⟨g, e, hg, c0⟩ := hat i (by rw [List.length_map]; exact hi)
    have hz : (zs Y)[i] = (Y[i].b, Y[i].x.t) := List.getElem_map _
    rw [List.getElem_map] at c0
    obtain ⟨c1, hlt⟩ := (h.t Y[i] (List.getElem_mem hi)).tkt
    rw [hz]
    exact ⟨g, 0, e, hg, by rw [Nat.zero_add]; exact c0, hlt, c1⟩
  · unfold RisZ
    rw [List.pairwise_map]
    have := h.i.rise
    rw [List.pairwise_map] at this
    exact this
  · intro hp
    rcases h.o.2 with ⟨e9, _⟩ | ⟨g, cap, cur, e9, _⟩
    · injection e9
    · injection e9 with e8
      rw [hp] at e8
      cases e8
  · intro a ha
    rcases h.o.2 with ⟨e9, _⟩ | ⟨g, cap, cur, e9, _⟩
    · injection e9 with e8
      rw [ha] at e8
      cases e8
    · injection e9 with e8
      rw [ha] at e8
      injection e8 with e8
      exact ⟨g, e8⟩
theorem ownU_rw {w : World} {B : Nat} {v : Value} {A : List Nat} (h : OwnU w B v A) : RwU w.heap.size w v A := by
  rcases h.2 with ⟨e, h2⟩ | ⟨g, cap, cur, e, hb, hg, _⟩
  · exact .inl ⟨e, List.eq_nil_of_length_eq_zero h2⟩
  · refine .inr ⟨g, cap, e, (Array.getElem?_eq_some_iff.1 hg).1, fun j hj => ?_⟩
    subst e
    have h1 := World.ownsRow.cellAt h j (by omega)
    rw [h1, List.getElem?_map, List.getElem?_eq_getElem hj, List.getD_eq_getElem?_getD, List.getElem?_eq_getElem hj]
    rfl
/-- those in its way, of the first i -/
noncomputable def ahI (H : List Hd) (Y : List Tkr) (i : Nat) : List Nat := ((Y.take i).filter (fun y => wayB y.x.H H)).map (fun y => y.x.t)
theorem ahI_zero (H : List Hd) (Y : List Tkr) : ahI H Y 0 = [] := by
  unfold ahI
  rw [List.take_zero]
  rfl
theorem ahI_on {H : List Hd} {Y : List Tkr} {i : Nat} (hi : i < Y.length) (h : wayB Y[i].x.H H = true) : ahI H Y (i + 1) = ahI H Y i ++ [Y[i].x.t] := by
  unfold ahI
  rw [List.take_succ_eq_append_getElem hi, List.filter_append, List.map_append]
  simp [h]
theorem ahI_off {H : List Hd} {Y : List Tkr} {i : Nat} (hi : i < Y.length) (h : wayB Y[i].x.H H = false) : ahI H Y (i + 1) = ahI H Y i := by
  unfold ahI
  rw [List.take_succ_eq_append_getElem hi, List.filter_append, List.map_append]
  simp [h]
theorem ahI_len (H : List Hd) (Y : List Tkr) (i : Nat) : (ahI H Y i).length ≤ i := by
  unfold ahI
  rw [List.length_map]
  exact Nat.le_trans (List.length_filter_le _ _) (List.length_take_le _ _)
theorem ahI_all (H : List Hd) (nx : Nat) (Y : List Tkr) : ahI H Y Y.length = (newT H nx (Y.map Tkr.x)).A := by
  unfold ahI newT
  rw [List.take_length]
  show _ = ((Y.map Tkr.x).filter _).map Tk.t
  rw [List.filter_map, List.map_map]
  rfl
/-- a taker that makes ready, behind i of a line -/
structure SbS (w wq : World) (tb ch : Nat) (va vo vh : Value) (H : List Hd) (Y : List Tkr) (i : Nat) : Prop where
  x : Blk wq tb (tkC 0 va vo vh ch 0 0 0) 97
  o : OwnU wq w.heap.size vh (ahI H Y i)
  f : Frm w wq (fun k => k = tb)
  b : Blk w tb (tkC 0 va vo (.slice none 0 0) ch 0 0 0) 97
theorem SbS.on {w wq w' : World} {tb ch : Nat} {va vo vh : Value} {H : List Hd} {Y : List Tkr} {i : Nat} (h : SbS w wq tb ch va vo vh H Y i) (hb : Below wq.heap.size wq w') : SbS w w' tb ch va vo vh H Y i :=
  ⟨h.x.on hb, owns_kept h.o hb, h.f.trans (Frm.of_below (F := fun k => k = tb) hb) (fun _k hk => .inl hk), h.b⟩
end Go.Proofs.YtcdamalpecedcaaGreat
