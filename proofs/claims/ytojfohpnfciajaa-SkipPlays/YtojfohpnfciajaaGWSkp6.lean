/- Layer 12: path. Layer 12: what stands behind a path; find. -/
import Derived.Laws.Tables
import Derived.Laws.Rows
import Derived.Test.YtojfohpnfciajaaGWSkpF
namespace Go.Proofs.Ytojfohpnfciajaa
open Go.RowKit
set_option maxRecDepth 100000

theorem ens_at {N : List Nd} {i : Nat} (hi : i < N.length) : (ensN N)[i]? = some N[i].e := by simp [ensN, hi]
theorem OnL.last {l m : Nat} {N : List Nd} {p : Nat} (hp : p ≤ m) (ho : OnL l N p) (hno : ∀ i (hi : i < N.length), p ≤ i → i < m → ¬ l < N[i].e.h) : LastL l m (ensN N) p := by
  refine ⟨hp, ?_, fun i e h1 h2 h3 => ?_⟩
  · rcases ho with h | ⟨hi, h⟩
    · exact .inl h
    · exact .inr ⟨_, ens_at hi, h⟩
  · have hi : i < N.length := by
      rcases Nat.lt_or_ge i N.length with h9 | h9
      · exact h9
      · rw [List.getElem?_eq_none (by simpa [ensN] using h9)] at h3
        cases h3
    rw [ens_at hi] at h3
    cases h3
    exact hno i hi h1 h2

theorem Inn.set {w wq : World} {lb hb sb hl : Nat} {N : List Nd} {m c : Nat} {A : Array Value} {p : Nat} (hv : Vw w lb hb sb) (hn : SkN w hb hl N) (h : Inn w wq lb hb sb hl N m (c + 1) (w.heap.size + 1 + 1) A p) (v : Value) : Inn w (wq.setCell ⟨w.heap.size + 1 + 1, c, none⟩ v) lb hb sb hl N m c (w.heap.size + 1 + 1) (A.setIfInBounds c v) p := by
  have hf : Frm wq (wq.setCell ⟨w.heap.size + 1 + 1, c, none⟩ v) (one1 (w.heap.size + 1 + 1)) := frm_set wq _ c v (.inl rfl)
  have hb' : Below w.heap.size w (wq.setCell ⟨w.heap.size + 1 + 1, c, none⟩ v) := h.bel.trans (hf.below h.bel.size (fun j hj => by have e : j = w.heap.size + 1 + 1 := hj; omega))
  exact ⟨hv.on hb', hn.on hb', h.x.other (by omega) c v, h.a.set c v, hb', h.pm, fun l hl' => h.on l (by omega)⟩
theorem below_set {w wq : World} {g : Nat} (h : Below w.heap.size w wq) (hg : w.heap.size ≤ g) (i : Nat) (v : Value) : Below w.heap.size w (wq.setCell ⟨g, i, none⟩ v) := h.trans ((frm_set wq g i v (F := one1 g) (.inl rfl)).below h.size (fun j hj => by have e : j = g := hj; omega))
theorem frm_row (w : World) (g : Nat) (cs : Array Value) : Frm w (w.setRow g cs) (one1 g) := ⟨rfl, rfl, rfl, by simp, fun k _ hn => setRow_other w g k cs hn⟩
theorem PthA.ptrs {hb : Nat} {N : List Nd} {m : Nat} {A : Array Value} (h : PthA hb N m 0 A) : A.all (·.oneCell') = true := by
  rw [Array.all_eq_true]
  intro i hi
  obtain ⟨p, h1, _⟩ := h.at' i (Nat.zero_le _) (by rw [← h.sz]; exact hi)
  rw [Array.getElem?_eq_getElem hi] at h1
  injection h1 with h1
  rw [h1]
  rfl
theorem path_sz : (Try.prog.info? 177).map (·.size) = some 16 := by kernel_rfl

set_option maxHeartbeats 4000000 in
theorem path_walk (lb hb sb hl m : Nat) (N : List Nd) (k : ByteArray) (w : World) (hv : Vw w lb hb sb) (hn : SkN w hb hl N) (_hm : m ≤ N.length) (h1 : ∀ i (hi : i < N.length), i < m → ltB N[i].e.k k = true) (h2 : ∀ i (hi : i < N.length), m ≤ i → ltB N[i].e.k k = false) :
    Calls Try.prog 78 #[.agg #[ptr1 lb, ptr1 sb], .string k] w fun e w' => ∃ A, e = .returned (.agg A) ∧ PthA hb N m 0 A ∧ Below w.heap.size w w' := by
  obtain ⟨aX, aB, aS⟩ := blk_new w #[ptr1 lb, ptr1 sb] 102
  obtain ⟨bX, bB, bS⟩ := blk_new (w.alloc (.cells #[ptr1 lb, ptr1 sb] 102)) #[.pointer none, .pointer none, .pointer none, .pointer none, .pointer none, .pointer none, .pointer none, .pointer none, .pointer none, .pointer none, .pointer none, .pointer none, .pointer none, .pointer none, .pointer none, .pointer none] 177
  obtain ⟨cX, cB, cS⟩ := blk_new ((w.alloc (.cells #[ptr1 lb, ptr1 sb] 102)).alloc (.cells #[.pointer none, .pointer none, .pointer none, .pointer none, .pointer none, .pointer none, .pointer none, .pointer none, .pointer none, .pointer none, .pointer none, .pointer none, .pointer none, .pointer none, .pointer none, .pointer none] 177)) #[.pointer none, .pointer none, .pointer none, .pointer none, .pointer none, .pointer none, .pointer none, .pointer none, .pointer none, .pointer none, .pointer none, .pointer none, .pointer none, .pointer none, .pointer none, .pointer none] 177
  rw [bS, aS] at cX
  have hb2 := aB.trans (bB.mono aB.size)
  have hb3 := hb2.trans (cB.mono hb2.size)
  have HI0 : Hid (Inn w (((w.alloc (.cells #[ptr1 lb, ptr1 sb] 102)).alloc (.cells #[.pointer none, .pointer none, .pointer none, .pointer none, .pointer none, .pointer none, .pointer none, .pointer none, .pointer none, .pointer none, .pointer none, .pointer none, .pointer none, .pointer none, .pointer none, .pointer none] 177)).alloc (.cells #[.pointer none, .pointer none, .pointer none, .pointer none, .pointer none, .pointer none, .pointer none, .pointer none, .pointer none, .pointer none, .pointer none, .pointer none, .pointer none, .pointer none, .pointer none, .pointer none] 177)) lb hb sb hl N m 16 (w.heap.size + 1 + 1) #[.pointer none, .pointer none, .pointer none, .pointer none, .pointer none, .pointer none, .pointer none, .pointer none, .pointer none, .pointer none, .pointer none, .pointer none, .pointer none, .pointer none, .pointer none, .pointer none] 0) := ⟨hv.on hb3, hn.on hb3, (aX.on bB).on cB, cX, hb3, Nat.zero_le _, fun _ _ => .inl rfl⟩
  have HR0 : Hid (Blk (((w.alloc (.cells #[ptr1 lb, ptr1 sb] 102)).alloc (.cells #[.pointer none, .pointer none, .pointer none, .pointer none, .pointer none, .pointer none, .pointer none, .pointer none, .pointer none, .pointer none, .pointer none, .pointer none, .pointer none, .pointer none, .pointer none, .pointer none] 177)).alloc (.cells #[.pointer none, .pointer none, .pointer none, .pointer none, .pointer none, .pointer none, .pointer none, .pointer none, .pointer none, .pointer none, .pointer none, .pointer none, .pointer none, .pointer none, .pointer none, .pointer none] 177)) (w.heap.size + 1) #[.pointer none, .pointer none, .pointer none, .pointer none, .pointer none, .pointer none, .pointer none, .pointer none, .pointer none, .pointer none, .pointer none, .pointer none, .pointer none, .pointer none, .pointer none, .pointer none] 177) := by rw [aS] at bX; exact bX.on cB
  have HP0 : Hid (PthA hb N m 16 #[.pointer none, .pointer none, .pointer none, .pointer none, .pointer none, .pointer none, .pointer none, .pointer none, .pointer none, .pointer none, .pointer none, .pointer none, .pointer none, .pointer none, .pointer none, .pointer none]) := ⟨rfl, fun l g1 g2 => by omega⟩
  have HLt : Hid (∀ i (hi : i < N.length), i < m → ltB N[i].e.k k = true) := h1
  have HGe : Hid (∀ i (hi : i < N.length), m ≤ i → ltB N[i].e.k k = false) := h2
  have HV : Hid (Vw w lb hb sb) := hv
  have HN : Hid (SkN w hb hl N) := hn
  clear hv hn h1 h2 aX aB aS bX bB bS cX cB cS hb2 hb3
  go_enter Try.func78, Try.ntmps78
  go_upto_region 2 with fail
  generalize (((w.alloc (.cells #[ptr1 lb, ptr1 sb] 102)).alloc (.cells #[.pointer none, .pointer none, .pointer none, .pointer none, .pointer none, .pointer none, .pointer none, .pointer none, .pointer none, .pointer none, .pointer none, .pointer none, .pointer none, .pointer none, .pointer none, .pointer none] 177)).alloc (.cells #[.pointer none, .pointer none, .pointer none, .pointer none, .pointer none, .pointer none, .pointer none, .pointer none, .pointer none, .pointer none, .pointer none, .pointer none, .pointer none, .pointer none, .pointer none, .pointer none] 177)) = w0 at *
  have x0 := Blk.cell (i := 0) HI0.out.x rfl
  obtain ⟨l0, l1, l2⟩ := HI0.out.v.l.cells
  go_wp2_with fail
  clear x0 l0 l1 l2
  go_loopw [6, 7] (fun sx sl wq => ∃ (c p : Nat) (A : Array Value), c ≤ 16 ∧ ptr1 (posB hb N p) = sx ∧ sl = .int .i64 ((c : Int) - 1) ∧ Hid (Inn w wq lb hb sb hl N m c (w.heap.size + 1 + 1) A p) ∧ Hid (PthA hb N m c A) ∧ Hid (Blk wq (w.heap.size + 1) #[.pointer none, .pointer none, .pointer none, .pointer none, .pointer none, .pointer none, .pointer none, .pointer none, .pointer none, .pointer none, .pointer none, .pointer none, .pointer none, .pointer none, .pointer none, .pointer none] 177)) (fun _ sl _ => (intOf sl + 1).toNat)
  case atStart => exact ⟨16, 0, _, Nat.le_refl _, rfl, by go_num, HI0, HP0, HR0⟩
  case round =>
    obtain ⟨c, p, A, hc, rfl, rfl, HI, HP, HR⟩ := hrel
    clear HI0 HP0 HR0
    cases c with
    | zero =>
      have hsz : (Try.prog.info? 177).map (·.size) = some A.size := by rw [HP.out.sz]; exact path_sz
      rw [show ((0 : Nat) : Int) - 1 = -1 from rfl]
      go_upto_region 11 with fail
      refine wp_region_lit ?_
      refine wpList_load_row rfl 177 _ rfl (w.heap.size + 1 + 1) rfl 177 A (0, 0) _ HI.out.a Try.underlying177 rfl hsz ?_
      refine wpList_store_row rfl 177 _ _ rfl (w.heap.size + 1) A rfl rfl 177 _ HR.out hsz (by rw [HP.out.sz]; rfl) HP.out.ptrs ?_
      refine wpList_nil ?_
      try simp only [aP]
      go_wp2_with fail
      try simp only [Exit.inBlock, Exit.then]
      refine bodyPost_ret (v := .agg A) ?_ ?_ ?_
      · exact results_cell_row rfl _ _ (w.heap.size + 1) 177 A (0, 0) _ rfl (setRow_heap _ _ _ _ _ _ HR.out) Try.underlying177 rfl hsz
      · rfl
      exact ⟨A, rfl, HP.out, HI.out.bel.trans ((frm_row wr (w.heap.size + 1) A).below HI.out.bel.size (fun k hk => by have e : k = w.heap.size + 1 := hk; omega))⟩
    | succ c =>
      rw [show ((c + 1 : Nat) : Int) - 1 = (c : Int) by omega]
      have hc16 : c < 16 := by omega
      obtain ⟨kb, n, q1, q2, q3, q4⟩ := HI.out.n.at hc16 (HI.out.on c (by omega))
      have C1 : Hid (Calls _ _ _ _ _) := behind_any lb hb sb (posB hb N p) kb n c (tgt c (N.drop p)) wr HI.out.v q1 q2 q3 q4
      have x0 := Blk.cell (i := 0) HI.out.x rfl
      have x1 := Blk.cell (i := 1) HI.out.x rfl
      clear q1 q2 q3 q4
      go_wp2_with fail
      refine C1.out.mono ?_
      rintro e w3 ⟨rfl, hb3⟩
      have HI3 : Hid (Inn w w3 lb hb sb hl N m (c + 1) (w.heap.size + 1 + 1) A p) := HI.out.keep hb3
      have HR3 : Hid (Blk w3 (w.heap.size + 1) #[.pointer none, .pointer none, .pointer none, .pointer none, .pointer none, .pointer none, .pointer none, .pointer none, .pointer none, .pointer none, .pointer none, .pointer none, .pointer none, .pointer none, .pointer none, .pointer none] 177) := HR.out.on hb3
      clear C1 hb3 x0 x1 HI HR
      go_wp2_with fail
      go_loopw [6, 8] (fun sx sy wq => ∃ q : Nat, ptr1 (posB hb N q) = sx ∧ sy = ptrO (tgt c (N.drop q)) ∧ Hid (Inn w wq lb hb sb hl N m (c + 1) (w.heap.size + 1 + 1) A q) ∧ Hid (Blk wq (w.heap.size + 1) #[.pointer none, .pointer none, .pointer none, .pointer none, .pointer none, .pointer none, .pointer none, .pointer none, .pointer none, .pointer none, .pointer none, .pointer none, .pointer none, .pointer none, .pointer none, .pointer none] 177)) (fun sx _ _ => N.length - posOf hb N sx)
      case atStart => exact ⟨p, rfl, rfl, HI3, HR3⟩
      case round =>
        obtain ⟨q, rfl, rfl, HI4, HR4⟩ := hrel
        clear HI3 HR3
        rcases tgt_cases c N q with ⟨e, hno⟩ | ⟨r, hr, hqr, hlr, hno, e⟩
        · rw [e]
          have hL : LastL c m (ensN N) q := OnL.last HI4.out.pm (HI4.out.on c (by omega)) (fun i hi g1 g2 => hno i hi g1)
          have HI5 : Hid (Inn w (wr.setCell ⟨w.heap.size + 1 + 1, c, none⟩ (ptr1 (posB hb N q))) lb hb sb hl N m c (w.heap.size + 1 + 1) (A.setIfInBounds c (ptr1 (posB hb N q))) q) := HI4.out.set HV.out HN.out _
          have HP5 : Hid (PthA hb N m c (A.setIfInBounds c (ptr1 (posB hb N q)))) := HP.out.set hc16 hL
          have HR5 : Hid (Blk (wr.setCell ⟨w.heap.size + 1 + 1, c, none⟩ (ptr1 (posB hb N q))) (w.heap.size + 1) #[.pointer none, .pointer none, .pointer none, .pointer none, .pointer none, .pointer none, .pointer none, .pointer none, .pointer none, .pointer none, .pointer none, .pointer none, .pointer none, .pointer none, .pointer none, .pointer none] 177) := HR4.out.other (by omega) c _
          have z1 := HI4.out.a.frozen c
          have z2 : ∃ v, wr.cell? ⟨w.heap.size + 1 + 1, c, none⟩ = some v := ⟨_, Blk.cell (i := c) HI4.out.a (Array.getElem?_eq_getElem (by rw [HP.out.sz]; exact hc16))⟩
          obtain ⟨vz, z3⟩ := z2
          clear hL HI4 HR4 HP e hno
          go_wp2_with fail
          go_roundw
          case rel => exact ⟨c, q, _, by omega, rfl, by go_num, HI5, HP5, HR5⟩
          case measure => simp [intOf]
        · rw [e, show ptrO (some N[r].nb) = ptr1 N[r].nb from rfl]
          have y0 := (HI4.out.n.nd r hr).1
          rcases Nat.lt_or_ge r m with hrm | hrm
          · have hlt : Op.bytesLess N[r].e.k.toList k.toList = true := HLt.out r hr hrm
            have hon : ∀ l, l < c + 1 → OnL l N (r + 1) := fun l hl' => .inr ⟨hr, show l < N[r].e.h by omega⟩
            obtain ⟨kb, n, q1, q2, q3, q4⟩ := HI4.out.n.at hc16 (hon c (by omega))
            rw [posB_at hb hr] at q1
            have C2 : Hid (Calls _ _ _ _ _) := behind_any lb hb sb N[r].nb kb n c (tgt c (N.drop (r + 1))) wr HI4.out.v q1 q2 q3 q4
            have HI6 : Hid (Inn w wr lb hb sb hl N m (c + 1) (w.heap.size + 1 + 1) A (r + 1)) := ⟨HI4.out.v, HI4.out.n, HI4.out.x, HI4.out.a, HI4.out.bel, hrm, hon⟩
            have hq : posOf hb N (ptr1 (posB hb N q)) = q := posOf_at HI4.out.n (by omega)
            have hq2 : posOf hb N (ptr1 N[r].nb) = r + 1 := by
              have h9 := posOf_at HI4.out.n (p := r + 1) (by omega)
              rw [posB_at hb hr] at h9
              exact h9
            have HQ : Hid (posOf hb N (ptr1 (posB hb N q)) = q ∧ posOf hb N (ptr1 N[r].nb) = r + 1) := ⟨hq, hq2⟩
            have hnb : posB hb N (r + 1) = N[r].nb := posB_at hb hr
            have HB9 : Hid (posB hb N (r + 1) = N[r].nb) := hnb
            have x0 := Blk.cell (i := 0) HI4.out.x rfl
            have x1 := Blk.cell (i := 1) HI4.out.x rfl
            clear q1 q2 q3 q4 hq hq2 hnb e hno
            generalize N[r].nb = nb at *
            generalize N[r].e.k = kr at *
            go_wp2_with fail
            refine C2.out.mono ?_
            rintro e w5 ⟨rfl, hb5⟩
            have HI7 : Hid (Inn w w5 lb hb sb hl N m (c + 1) (w.heap.size + 1 + 1) A (r + 1)) := HI6.out.keep hb5
            have HR7 : Hid (Blk w5 (w.heap.size + 1) #[.pointer none, .pointer none, .pointer none, .pointer none, .pointer none, .pointer none, .pointer none, .pointer none, .pointer none, .pointer none, .pointer none, .pointer none, .pointer none, .pointer none, .pointer none, .pointer none] 177) := HR4.out.on hb5
            clear hb5 HI6 C2 x0 x1 y0
            go_wp2_with fail
            go_roundw
            case rel => exact ⟨r + 1, by rw [HB9.out], rfl, HI7, HR7⟩
            case measure => rw [HQ.out.1, HQ.out.2]; omega
          · have hge : Op.bytesLess N[r].e.k.toList k.toList = false := HGe.out r hr hrm
            generalize N[r].nb = nb at *
            generalize N[r].e.k = kr at *
            have hL : LastL c m (ensN N) q := OnL.last HI4.out.pm (HI4.out.on c (by omega)) (fun i hi g1 g2 => hno i hi g1 (by omega))
            have HI5 : Hid (Inn w (wr.setCell ⟨w.heap.size + 1 + 1, c, none⟩ (ptr1 (posB hb N q))) lb hb sb hl N m c (w.heap.size + 1 + 1) (A.setIfInBounds c (ptr1 (posB hb N q))) q) := HI4.out.set HV.out HN.out _
            have HP5 : Hid (PthA hb N m c (A.setIfInBounds c (ptr1 (posB hb N q)))) := HP.out.set hc16 hL
            have HR5 : Hid (Blk (wr.setCell ⟨w.heap.size + 1 + 1, c, none⟩ (ptr1 (posB hb N q))) (w.heap.size + 1) #[.pointer none, .pointer none, .pointer none, .pointer none, .pointer none, .pointer none, .pointer none, .pointer none, .pointer none, .pointer none, .pointer none, .pointer none, .pointer none, .pointer none, .pointer none, .pointer none] 177) := HR4.out.other (by omega) c _
            have z1 := HI4.out.a.frozen c
            have z2 : ∃ v, wr.cell? ⟨w.heap.size + 1 + 1, c, none⟩ = some v := ⟨_, Blk.cell (i := c) HI4.out.a (Array.getElem?_eq_getElem (by rw [HP.out.sz]; exact hc16))⟩
            obtain ⟨vz, z3⟩ := z2
            clear hL HI4 HR4 HP e hno hlr hqr hrm
            go_wp2_with fail
            go_roundw
            case rel => exact ⟨c, q, _, by omega, rfl, by go_num, HI5, HP5, HR5⟩
            case measure => simp [intOf]

end Go.Proofs.Ytojfohpnfciajaa

namespace Go.Proofs.Ytojfohpnfciajaa
open Go.RowKit
set_option maxRecDepth 100000

theorem toL_inj {a b : ByteArray} (h : a.toList = b.toList) : a = b := ByteArray.ext (Array.toList_inj.mp (by rw [ByteArray.toList_eq, ByteArray.toList_eq] at h; exact h))
theorem neL {a b : ByteArray} (h : a ≠ b) : (a.toList == b.toList) = false := by
  rw [beq_eq_false_iff_ne]
  exact fun e => h (toL_inj e)
/-- the node at a place, if it has the key -/
def getN (N : List Nd) (m : Nat) (k : ByteArray) : Option Nat := match N[m]? with
  | some x => if x.e.k = k then some x.nb else none
  | none => none
theorem last0 {w : World} {hb hl : Nat} {N : List Nd} (h : SkN w hb hl N) {m p : Nat} (hm : m ≤ N.length) (hL : LastL 0 m (ensN N) p) : p = m := by
  have h1 := hL.le
  rcases Nat.lt_or_ge p m with h2 | h2
  · exact absurd (show 0 < N[p].e.h from (h.ht p (by omega)).1) (hL.no p _ (Nat.le_refl _) h2 (ens_at (by omega)))
  · omega
theorem tgt0 {w : World} {hb hl : Nat} {N : List Nd} (h : SkN w hb hl N) (m : Nat) : tgt 0 (N.drop m) = N[m]?.map Nd.nb := by
  rcases Nat.lt_or_ge m N.length with h1 | h1
  · rw [List.drop_eq_getElem_cons h1, tgt_cons, if_pos (show 0 < N[m].e.h from (h.ht m h1).1), List.getElem?_eq_getElem h1]
    rfl
  · rw [List.drop_eq_nil_of_le h1, List.getElem?_eq_none h1]
    rfl
theorem PthA.zero {w : World} {hb hl : Nat} {N : List Nd} {m : Nat} {A : Array Value} (h : PthA hb N m 0 A) (hn : SkN w hb hl N) (hm : m ≤ N.length) : A[0]? = some (ptr1 (posB hb N m)) := by
  obtain ⟨p, h1, h2⟩ := h.at' 0 (Nat.le_refl _) (by decide)
  rw [last0 hn hm h2] at h1
  exact h1
theorem onL0 {w : World} {hb hl : Nat} {N : List Nd} (h : SkN w hb hl N) {m : Nat} (hm : m ≤ N.length) : OnL 0 N m := by
  rcases Nat.eq_zero_or_pos m with h0 | h0
  · exact .inl h0
  · exact .inr ⟨by omega, (h.ht _ _).1⟩

set_option maxHeartbeats 2000000 in
theorem behindPath_any (lb hb sb hl m : Nat) (N : List Nd) (A : Array Value) (k : ByteArray) (w : World) (hv : Vw w lb hb sb) (hn : SkN w hb hl N) (hm : m ≤ N.length) (hA : PthA hb N m 0 A) :
    Calls Try.prog 81 #[.agg #[ptr1 lb, ptr1 sb], .agg A, .string k] w fun e w' => e = .returned (ptrO (getN N m k)) ∧ Below w.heap.size w w' := by
  obtain ⟨aX, aB, aS⟩ := blk_new w #[ptr1 lb, ptr1 sb] 102
  obtain ⟨bX, bB, bS⟩ := blk_new (w.alloc (.cells #[ptr1 lb, ptr1 sb] 102)) A 177
  have hb2 := aB.trans (bB.mono aB.size)
  have HB : Hid (Below w.heap.size w ((w.alloc (.cells #[ptr1 lb, ptr1 sb] 102)).alloc (.cells A 177))) := hb2
  have x0 := Blk.cell (i := 0) (aX.on bB) rfl
  have x1 := Blk.cell (i := 1) (aX.on bB) rfl
  have x2 := Blk.cell (i := 0) bX (hA.zero hn hm)
  rw [aS] at x2
  obtain ⟨kb, n, q1, q2, q3, q4⟩ := (hn.on hb2).at (l := 0) (by decide) (onL0 hn hm)
  rw [tgt0 hn m] at q4
  have C1 : Hid (Calls _ _ _ _ _) := behind_any lb hb sb (posB hb N m) kb n 0 _ _ (hv.on hb2) q1 q2 q3 q4
  have HN : Hid (SkN w hb hl N) := hn
  have hsz := hA.sz
  clear hv hn hA aX aB aS bX bB bS hb2 q1 q2 q3 q4
  go_enter Try.func81, Try.ntmps81
  go_wp2_with fail
  refine C1.out.mono ?_
  rintro e w3 ⟨rfl, hb3⟩
  have HB3 : Hid (Below w.heap.size w w3) := HB.out.trans (hb3.mono HB.out.size)
  clear C1 hb3 HB x0 x1 x2
  rcases Nat.lt_or_ge m N.length with h1 | h1
  · have hg : N[m]? = some N[m] := List.getElem?_eq_getElem h1
    have y0 := (HN.out.on HB3.out).nd m h1 |>.1
    have HG : Hid (getN N m k = if N[m].e.k = k then some N[m].nb else none) := by
      show getN N m k = _
      unfold getN
      rw [hg]
    rw [hg, show ptrO (Option.map Nd.nb (some N[m])) = ptr1 N[m].nb from rfl]
    clear hg
    generalize N[m].nb = nb at *
    generalize N[m].e.k = kk at *
    by_cases e : kk = k
    · rw [if_pos e] at HG
      go_wp2_with fail
      go_ret
      exact ⟨by rw [HG.out]; rfl, HB3.out⟩
    · rw [if_neg e] at HG
      have hne := neL e
      go_wp2_with fail
      go_ret
      exact ⟨by rw [HG.out]; rfl, HB3.out⟩
  · have hg : N[m]? = none := List.getElem?_eq_none h1
    have HG : Hid (getN N m k = none) := by
      show getN N m k = _
      unfold getN
      rw [hg]
    rw [hg, show ptrO (Option.map Nd.nb (none : Option Nd)) = .pointer none from rfl]
    clear hg
    go_wp2_with fail
    go_ret
    exact ⟨by rw [HG.out]; rfl, HB3.out⟩

set_option maxHeartbeats 2000000 in
theorem find_any (lb hb sb hl m : Nat) (N : List Nd) (k : ByteArray) (w : World) (hv : Vw w lb hb sb) (hn : SkN w hb hl N) (hm : m ≤ N.length) (h1 : ∀ i (hi : i < N.length), i < m → ltB N[i].e.k k = true) (h2 : ∀ i (hi : i < N.length), m ≤ i → ltB N[i].e.k k = false) :
    Calls Try.prog 48 #[.agg #[ptr1 lb, ptr1 sb], .string k] w fun e w' => e = .returned (ptrO (getN N m k)) ∧ Below w.heap.size w w' := by
  obtain ⟨aX, aB, aS⟩ := blk_new w #[ptr1 lb, ptr1 sb] 102
  have HX : Hid (Blk (w.alloc (.cells #[ptr1 lb, ptr1 sb] 102)) w.heap.size #[ptr1 lb, ptr1 sb] 102) := aX
  have HB : Hid (Below w.heap.size w (w.alloc (.cells #[ptr1 lb, ptr1 sb] 102))) := aB
  have HV : Hid (Vw (w.alloc (.cells #[ptr1 lb, ptr1 sb] 102)) lb hb sb) := hv.on aB
  have HN : Hid (SkN (w.alloc (.cells #[ptr1 lb, ptr1 sb] 102)) hb hl N) := hn.on aB
  have HM : Hid (m ≤ N.length ∧ (∀ i (hi : i < N.length), i < m → ltB N[i].e.k k = true) ∧ (∀ i (hi : i < N.length), m ≤ i → ltB N[i].e.k k = false)) := ⟨hm, h1, h2⟩
  clear hv hn aX aB aS hm h1 h2
  go_enter Try.func48, Try.ntmps48
  go_upto_region 1 with fail
  generalize (w.alloc (.cells #[ptr1 lb, ptr1 sb] 102)) = w0 at *
  refine wp_region_any (by kernel_rfl) ?_
  change wpAny _ _ _ _ _ _ _ (World.drew _)
  refine tk (v := ?_) 2 rfl ?_ ?_
  rotate_left
  focus
    intro w9
    go_simp
    try with_reducible rfl
  try simp only [aP]
  refine tk (v := ?_) 4 rfl ?_ ?_
  rotate_left
  focus
    intro w9
    go_simp
    try with_reducible rfl
  try simp only [aP]
  apply later2 (fun (_ : Array Value) (w2 : World) => Hid (Below w0.heap.size w0 w2))
  intro hs0_1_3_5
  apply later2 (fun (A : Array Value) (w1 : World) => Hid (PthA hb N m 0 A ∧ Below w0.heap.size w0 w1))
  intro hs0_1_3
  apply later2 (fun (A : Array Value) (w1 : World) => Hid (PthA hb N m 0 A ∧ Below w0.heap.size w0 w1))
  intro hs1_3
  apply later0
  intro hs0_1
  apply later0
  intro hs1
  apply later0
  intro hs0
  · have x0 := Blk.cell (i := 0) HX.out rfl
    have x1 := Blk.cell (i := 1) HX.out rfl
    refine wpAny_ready (rs := [0, 1]) (by kernel_rfl) (by simp) ?_
    refine anyN_cons 0 rfl (by rfl) (fun K hK => ?_) (anyN_cons 1 rfl (by rfl) (fun K hK => ?_) AllReady.nil)
    · go_simp
      refine hK.out _ _ ?_
      clear hK K
      try simp only [aP]
      exact hs0
    · go_simp
      refine hK.out _ _ ?_
      clear hK K
      try simp only [aP]
      exact hs1
  · have x0 := Blk.cell (i := 0) HX.out rfl
    have x1 := Blk.cell (i := 1) HX.out rfl
    refine wpAny_ready (rs := [1]) (by kernel_rfl) (by simp) ?_
    refine anyN_cons 1 rfl (by rfl) (fun K hK => ?_) AllReady.nil
    go_simp
    refine hK.out _ _ ?_
    clear hK K
    try simp only [aP]
    exact hs0_1
  · have x0 := Blk.cell (i := 0) HX.out rfl
    have x1 := Blk.cell (i := 1) HX.out rfl
    refine wpAny_ready (rs := [0, 3]) (by kernel_rfl) (by simp) ?_
    refine anyN_cons 0 rfl (by rfl) (fun K hK => ?_) (anyN_cons 3 rfl (by rfl) (fun K hK => ?_) AllReady.nil)
    · go_simp
      refine hK.out _ _ ?_
      clear hK K
      try simp only [aP]
      exact hs0_1
    · go_simp
      refine (path_walk lb hb sb hl m N k w0.drew (HV.out.on ((Below.refl _ _).drew)) (HN.out.on ((Below.refl _ _).drew)) HM.out.1 HM.out.2.1 HM.out.2.2).mono ?_
      rintro e w1 ⟨A, rfl, hA, hb1⟩
      dsimp only
      have h1 : Hid (PthA hb N m 0 A ∧ Below w0.heap.size w0 w1) := ⟨hA, ((Below.refl _ w0).drew).trans hb1⟩
      clear hA hb1
      refine hK.out _ _ ?_
      clear hK K
      try simp only [aP]
      exact hs1_3 A w1 h1
  · have x0 := Blk.cell (i := 0) HX.out rfl
    have x1 := Blk.cell (i := 1) HX.out rfl
    refine wpAny_ready (rs := [3]) (by kernel_rfl) (by simp) ?_
    refine anyN_cons 3 rfl (by rfl) (fun K hK => ?_) AllReady.nil
    go_simp
    refine (path_walk lb hb sb hl m N k w0.drew (HV.out.on ((Below.refl _ _).drew)) (HN.out.on ((Below.refl _ _).drew)) HM.out.1 HM.out.2.1 HM.out.2.2).mono ?_
    rintro e w1 ⟨A, rfl, hA, hb1⟩
    dsimp only
    have h1 : Hid (PthA hb N m 0 A ∧ Below w0.heap.size w0 w1) := ⟨hA, ((Below.refl _ w0).drew).trans hb1⟩
    clear hA hb1
    refine hK.out _ _ ?_
    clear hK K
    try simp only [aP]
    exact hs0_1_3 A w1 h1
  · intro A w1 h1
    have x0 := Blk.cell (i := 0) (HX.out.on h1.out.2) rfl
    have x1 := Blk.cell (i := 1) (HX.out.on h1.out.2) rfl
    refine wpAny_ready (rs := [0]) (by kernel_rfl) (by simp) ?_
    refine anyN_cons 0 rfl (by rfl) (fun K hK => ?_) AllReady.nil
    go_simp
    refine hK.out _ _ ?_
    clear hK K
    try simp only [aP]
    exact hs0_1_3 A w1 h1
  · intro A w1 h1
    have x0 := Blk.cell (i := 0) (HX.out.on h1.out.2) rfl
    have x1 := Blk.cell (i := 1) (HX.out.on h1.out.2) rfl
    refine wpAny_ready (rs := [5]) (by kernel_rfl) (by simp) ?_
    refine anyN_cons 5 rfl (by rfl) (fun K hK => ?_) AllReady.nil
    go_simp
    refine (behindPath_any lb hb sb hl m N A k w1 (HV.out.on h1.out.2) (HN.out.on h1.out.2) HM.out.1 h1.out.1).mono ?_
    rintro e w2 ⟨rfl, hb2⟩
    dsimp only
    have h2 : Hid (Below w0.heap.size w0 w2) := h1.out.2.trans (hb2.mono h1.out.2.size)
    clear hb2
    refine hK.out _ _ ?_
    clear hK K
    try simp only [aP]
    exact hs0_1_3_5 A w2 h2
  · intro A w2 h2
    refine wpAny_ready (rs := [6]) (by kernel_rfl) (by simp) ?_
    refine anyN_cons 6 rfl (by rfl) (fun K hK => ?_) AllReady.nil
    go_simp
    refine hK.out _ _ ?_
    clear hK K
    try simp only [aP]
    refine wpAny_done (by kernel_rfl) ?_ _
    go_wp2_with fail
    go_ret
    exact ⟨rfl, HB.out.trans (h2.out.mono HB.out.size)⟩

end Go.Proofs.Ytojfohpnfciajaa
