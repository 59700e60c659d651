/- Rows of values: read, owned, held against one another. Versions and writes: plain mathematics. Versions and writes in memory; the walks that only read them. -/
import Derived.WalkKit
import Derived.WalkLawsBesides
import Derived.Deep.QuietTactic
import Derived.BigQuiet
import Derived.Deep.RegionHeld3
import Derived.Handy
import Derived.Deep.Light
import Derived.Laws.AppendOwnNone
import Derived.Laws.OwnMore
import Derived.Test.YtcibcfghkidncaaGreatDoorGMVl
namespace Go.Proofs.YtcibcfghkidncaaGreatDoor
open Go.RowKit Ieee
set_option maxRecDepth 100000

theorem boolV {a b:Bool} (h:a = b):Ending.returned (.bool a) = Ending.returned (.bool b) := by rw [h]

theorem info_parts1 {T:TypeId} {z:Value} {s b:Nat} (h:(Tryz.prog.info? T).map (fun i => (i.zero,i.size,i.bytes)) = some (some z,s,b)):∃ i,Tryz.prog.info? T = some i ∧ i.zero = some z ∧ i.size = s ∧ i.bytes = b := by
 cases hi:Tryz.prog.info? T with
 | none => rw [hi] at h; cases h
 | some i =>
  rw [hi] at h
  simp only [Option.map_some,Option.some.injEq,Prod.mk.injEq] at h
  exact ⟨i,rfl,h.1,h.2.1,h.2.2⟩

def sameB (k n k' n':Int) (f f':Nat) (s s':ByteArray):Bool := (k == k') && ((n == n') && ((((f:Int)) == (f':Int)) && (s.toList == s'.toList)))

theorem run_fbits (f:Nat) (w:World):(callFunc 84 #[.float .f64 f]).run Tryz.prog w = .ok (.value (.int .u64 f)) w := by
 rw [run_callFunc_extern (fn := Tryz.f84) (e := Extern.MathFloatBits.float64bits) Tryz.func84 (by kernel_rfl) (by kernel_rfl) (by kernel_rfl) (by kernel_rfl)]
 rfl

theorem rsame_any (k n k' n':Int) (f f':Nat) (s s':ByteArray) (w:World) :
  Calls Tryz.prog 45 #[.agg #[.int .i64 k,.int .i64 n,.float .f64 f,.string s],.agg #[.int .i64 k',.int .i64 n',.float .f64 f',.string s']] w fun e w' => e = .returned (.bool (sameB k n k' n' f f' s s')) ∧ Below w.heap.size w w' := by
 have hb := run_fbits
 unfold sameB
 cases hk:(k == k')
 ·go_enter Tryz.func45,Tryz.ntmps45
  go_wp2
  go_quiet (fail)
  go_wp2
  go_ret
  exact ⟨by simp,below_drewN (by go_grown) _⟩
 cases hn:(n == n')
 ·go_enter Tryz.func45,Tryz.ntmps45
  go_wp2
  go_quiet (fail)
  go_wp2
  go_ret
  exact ⟨by simp,below_drewN (by go_grown) _⟩
 cases hf:((f:Int) == (f':Int))
 ·go_enter Tryz.func45,Tryz.ntmps45
  go_wp2
  go_quiet (fail)
  go_wp2
  go_ret
  exact ⟨by simp,below_drewN (by go_grown) _⟩
 ·go_enter Tryz.func45,Tryz.ntmps45
  go_wp2
  go_quiet (fail)
  go_wp2
  go_ret
  exact ⟨by simp,below_drewN (by go_grown) _⟩

theorem run_store_float (w:World) (a:Addr) (k:FloatKind) (b:Nat) (m:Mode):(store a (.float k b) m).run Tryz.prog w = stored Tryz.prog w a (.float k b) m := run_store Tryz.prog w a _ m rfl

def RowV (w:World) (B:Nat) (p:Option Addr) (L:List Vl):Prop := ∀ i (hi:i < L.length),∃ b o,p = some ⟨b,o,none⟩ ∧ b < B ∧
 w.cell? ⟨b,o + i * 4,none⟩ = some (.int .i64 L[i].k) ∧ w.cell? ⟨b,o + i * 4 + 1,none⟩ = some (.int .i64 L[i].n) ∧ w.cell? ⟨b,o + i * 4 + 2,none⟩ = some (.float .f64 L[i].f) ∧ w.cell? ⟨b,o + i * 4 + 3,none⟩ = some (.string L[i].s)

theorem RowV.keep {w w':World} {B:Nat} {p:Option Addr} {L:List Vl} (h:RowV w B p L) (hb:Below B w w'):RowV w' B p L := by
 intro i hi
 obtain ⟨b,o,e,hbB,c0,c1,c2,c3⟩ := h i hi
 have k:∀ {o:Nat} {v:Option Value},w.cell? ⟨b,o,none⟩ = v → w'.cell? ⟨b,o,none⟩ = v := fun {o v} hc => (hb.cell (p := ⟨b,o,none⟩) hbB).trans hc
 exact ⟨b,o,e,hbB,k c0,k c1,k c2,k c3⟩

theorem RowV.mono {w:World} {B C:Nat} {p:Option Addr} {L:List Vl} (h:RowV w B p L) (hb:B ≤ C):RowV w C p L := by
 intro i hi
 obtain ⟨b,o,e,hbB,r⟩ := h i hi
 exact ⟨b,o,e,Nat.lt_of_lt_of_le hbB hb,r⟩

theorem info_val:(Tryz.prog.info? 70).map (fun i => (i.zero,i.size,i.bytes)) = some (some (.agg #[.int .i64 0,.int .i64 0,.float .f64 0,.string ⟨#[]⟩]),4,40) := by kernel_rfl

def vcell (v:Vl):List Value := [.int .i64 v.k,.int .i64 v.n,.float .f64 v.f,.string v.s]

def vcells (L:List Vl):List Value := L.flatMap vcell

theorem vcells_len (L:List Vl):(vcells L).length = L.length * 4 := by
 induction L with
 | nil => rfl
 | cons v L ih => simp only [vcells,List.flatMap_cons,List.length_append,List.length_cons] at ih ⊢; rw [ih]; simp [vcell]; omega

theorem vcells_append (a b:List Vl):vcells (a ++ b) = vcells a ++ vcells b := by simp [vcells]

def OwnV (w:World) (B:Nat) (v:Value) (L:List Vl):Prop := w.ownsRow B 70 4 v L.length (vcells L)

theorem OwnV.nil (w:World) (B:Nat):OwnV w B (.slice none 0 0) [] := World.ownsRow_nil w B _ _

theorem OwnV.kept {w w':World} {B:Nat} {v:Value} {L:List Vl} (h:OwnV w B v L) (hb:Below w.heap.size w w'):OwnV w' B v L := by
 refine ⟨h.1,?_⟩
 rcases h.2 with h1 | ⟨g,cap,cur,e,hb',hg,r⟩
 ·exact .inl h1
 ·exact .inr ⟨g,cap,cur,e,hb',(hb.block g (Array.getElem?_eq_some_iff.1 hg).1).trans hg,r⟩

theorem vcell_at (L:List Vl) (i:Nat) (hi:i < L.length) (t:Nat) (ht:t < 4):(vcells L)[i * 4 + t]? = (vcell L[i])[t]? := by
 induction L generalizing i with
 | nil => simp at hi
 | cons v L ih =>
  have hl:(vcell v).length = 4 := rfl
  simp only [vcells,List.flatMap_cons]
  cases i with
  | zero => rw [Nat.zero_mul,Nat.zero_add,List.getElem?_append_left (by omega)]; rfl
  | succ i =>
   rw [List.getElem?_append_right (by omega)]
   have e:(i + 1) * 4 + t - (vcell v).length = i * 4 + t := by omega
   rw [e]
   exact ih i (by simpa using hi)

theorem OwnV.row {w:World} {B:Nat} {v:Value} {L:List Vl} (h:OwnV w B v L):∃ (p:Option Addr) (c:Nat),v = .slice p L.length c ∧ RowV w w.heap.size p L := by
 rcases h.2 with ⟨h1,h2⟩ | ⟨g,cap,cur,e,hb,hg,hr⟩
 ·have:L = [] := List.eq_nil_of_length_eq_zero h2
  subst this
  exact ⟨none,0,h1,fun i hi => absurd hi (by simp)⟩
 ·refine ⟨_,cap,e,fun i hi => ?_⟩
  subst e
  have hc:∀ t,t < 4 → w.cell? ⟨g,i * 4 + t,none⟩ = (vcell L[i])[t]? := by
   intro t ht
   have := World.ownsRow.cellAt (w := w) (e := 70) (size := 4) (g := g) (cap := cap) h (i * 4 + t) (by omega)
   rw [this,vcell_at L i hi t ht]
  have h0 := hc 0 (by decide)
  have h1 := hc 1 (by decide)
  have h2 := hc 2 (by decide)
  have h3 := hc 3 (by decide)
  refine ⟨g,0,rfl,(Array.getElem?_eq_some_iff.1 hg).1,?_,?_,?_,?_⟩
  ·rw [Nat.zero_add]; exact h0
  ·rw [Nat.zero_add]; exact h1
  ·rw [Nat.zero_add]; exact h2
  ·rw [Nat.zero_add]; exact h3

theorem wpList_appV {ops:Array Oper} {rest:List Oper} {o:Oper} {a:Act} {Q:Exit → Act → World → Prop} (w:World) (hgd:o.guard = none) (s x:Operand)
  (ho:o.op = .call { callee := .builtin .append,args := #[s,x],argTypes := #[36,36] })
  (B:Nat) (v:Value) (L:List Vl) (hs:a.eval s = v) (hown:OwnV w B v L)
  (u:Vl) (g:Nat) (hx:a.eval x = .slice (some ⟨g,0,none⟩) 1 1) (hgz:g = w.heap.size)
  (hlen:L.length + 1 ≤ 3518437208883) (hbase:B ≤ w.heap.size)
  (h:∀ v' w',OwnV w' B v' (L ++ [u]) → Below B w w' → wpList Tryz.prog ops Q rest (a.put o.dst v') w'):wpList Tryz.prog ops Q (o :: rest) a (w.alloc (.cells #[.int .i64 u.k,.int .i64 u.n,.float .f64 u.f,.string u.s] 70)) := by
 obtain ⟨i,hi,hz0,hz1,hz2⟩ := info_parts info_val
 subst hgz
 have hown':OwnV (w.alloc (.cells #[.int .i64 u.k,.int .i64 u.n,.float .f64 u.f,.string u.s] 70)) B v L := hown.kept ((Below.refl _ _).alloc (Nat.le_refl _) _)
 refine wpList_append_own _ hgd s x 36 ho B 70 i (.agg #[.int .i64 0,.int .i64 0,.float .f64 0,.string ⟨#[]⟩]) 4 40 Tryz.underlying36 hi hz0 hz1 hz2 rfl (by decide) v L.length (vcells L) hs hown' ⟨w.heap.size,0,none⟩ 1 1 (vcells [u]) hx rfl ?_ ?_ (by unfold maxLen; omega) (by omega) (by simp; omega) ?_
 ·intro j y hj
  have hj':j < 4 := by
   have := (List.getElem?_eq_some_iff.1 hj).1
   simpa [vcells,vcell] using this
  have e:(⟨w.heap.size,0,none⟩:Addr).add j = ⟨w.heap.size,j,none⟩ := by unfold Addr.add; split <;> simp_all
  rw [e]
  have h4:j = 0 ∨ j = 1 ∨ j = 2 ∨ j = 3 := by omega
  rcases h4 with rfl | rfl | rfl | rfl <;> (simp [vcells,vcell] at hj; subst hj; simp [go_sem])
 ·intro y hy
  simp [vcells,vcell] at hy
  rcases hy with rfl | rfl | rfl | rfl <;> rfl
 ·intro v' w' h1 h2 _
  refine h v' w' ?_ ?_
  ·unfold OwnV
   rw [vcells_append,List.length_append]
   exact h1
  ·exact ((Below.refl _ _).alloc hbase _).grown h2 (by simp; omega) (fun k hk => (hown'.lt k hk).1)

theorem OwnV.form {w:World} {B:Nat} {v:Value} {L:List Vl} (h:OwnV w B v L):(v = .slice none 0 0 ∧ L = []) ∨ ∃ g cap,v = .slice (some ⟨g,0,none⟩) L.length cap ∧ B ≤ g ∧ g < w.heap.size := by
 rcases h.2 with ⟨h1,h2⟩ | ⟨g,cap,cur,e,hb,hg,_⟩
 ·exact .inl ⟨h1,List.eq_nil_of_length_eq_zero h2⟩
 ·exact .inr ⟨g,cap,e,hb,(Array.getElem?_eq_some_iff.1 hg).1⟩

theorem owns_kept {w w':World} {B e size n:Nat} {v:Value} {xs:List Value} (h:w.ownsRow B e size v n xs) (hb:Below w.heap.size w w'):w'.ownsRow B e size v n xs := by
 refine ⟨h.1,?_⟩
 rcases h.2 with h1 | ⟨g,cap,cur,e,hb',hg,r⟩
 ·exact .inl h1
 ·exact .inr ⟨g,cap,cur,e,hb',(hb.block g (Array.getElem?_eq_some_iff.1 hg).1).trans hg,r⟩

theorem owns_other {w w':World} {B B' e e' size size' n n':Nat} {v v':Value} {xs xs':List Value} (h:w.ownsRow B e size v n xs) (h':w.ownsRow B' e' size' v' n' xs') (hne:e ≠ e') (hg:w.grownBy w' v'.ownBlock):w'.ownsRow B e size v n xs := by
 refine h.kept hg ?_
 rcases h.2 with ⟨rfl,_⟩ | ⟨g,cap,cur,rfl,_,hgc,_⟩
 ·exact .inl rfl
 ·refine .inr fun he => ?_
  rcases h'.2 with ⟨rfl,_⟩ | ⟨g',cap',cur',rfl,_,hgc',_⟩
  ·simp [Value.ownBlock] at he
  ·simp only [Value.ownBlock,Option.some.injEq] at he
   subst he
   rw [hgc] at hgc'
   injection hgc' with h1
   injection h1 with _ h2
   exact hne h2

theorem owns_base {w:World} {B C e size n:Nat} {v:Value} {xs:List Value} (h:w.ownsRow B e size v n xs) (hc:C ≤ B):w.ownsRow C e size v n xs := by
 refine ⟨h.1,?_⟩
 rcases h.2 with h1 | ⟨g,cap,cur,e,hb',r⟩
 ·exact .inl h1
 ·exact .inr ⟨g,cap,cur,e,Nat.le_trans hc hb',r⟩

theorem owns_len {w:World} {B e size n:Nat} {v:Value} {xs:List Value} (h:w.ownsRow B e size v n xs):∃ (p:Option Addr) (c:Nat),v = .slice p n c ∧ n ≤ c := by
 rcases h.2 with ⟨h1,rfl⟩ | ⟨g,cap,cur,e,_,_,hc,_⟩
 ·exact ⟨none,0,h1,Nat.le_refl _⟩
 ·exact ⟨_,_,e,hc⟩

theorem owns_form {w:World} {B e size n:Nat} {v:Value} {xs:List Value} (h:w.ownsRow B e size v n xs) (hn:0 < n):∃ g cap,v = .slice (some ⟨g,0,none⟩) n cap ∧ B ≤ g ∧ g < w.heap.size := by
 rcases h.2 with ⟨_,h2⟩ | ⟨g,cap,cur,e,hb,hg,_⟩
 ·omega
 ·exact ⟨g,cap,e,hb,(Array.getElem?_eq_some_iff.1 hg).1⟩

theorem wpList_app1 {ops:Array Oper} {rest:List Oper} {o:Oper} {a:Act} {Q:Exit → Act → World → Prop} (w:World) (hgd:o.guard = none) (s x:Operand) (T S:TypeId) (z:Value) (size bytes:Nat)
  (ho:o.op = .call { callee := .builtin .append,args := #[s,x],argTypes := #[S,S] }) (hu:Tryz.prog.underlying S = some (.slice T))
  (hinfo:(Tryz.prog.info? T).map (fun i => (i.zero,i.size,i.bytes)) = some (some z,size,bytes)) (hzs:z.cells.size = size) (hsz:0 < size)
  (B:Nat) (v:Value) (n:Nat) (xs:List Value) (hs:a.eval s = v) (hown:w.ownsRow B T size v n xs)
  (us:List Value) (hus:us.length = size) (hone:∀ u ∈ us,u.oneCell' = true) (g:Nat) (hx:a.eval x = .slice (some ⟨g,0,none⟩) 1 1) (hgz:g = w.heap.size)
  (hlen:(n + 1) * bytes ≤ 140737488355328) (hlen2:n + 1 ≤ 140737488355328) (hbase:B ≤ w.heap.size)
  (h:∀ v' w',w'.ownsRow B T size v' (n + 1) (xs ++ us) → Below B w w' → (w.alloc (.cells us.toArray T)).grownBy w' v.ownBlock → wpList Tryz.prog ops Q rest (a.put o.dst v') w'):wpList Tryz.prog ops Q (o :: rest) a (w.alloc (.cells us.toArray T)) := by
 obtain ⟨i,hi,hz0,hz1,hz2⟩ := info_parts1 hinfo
 subst hgz
 have hown' := hown.alloc (.cells us.toArray T)
 refine wpList_append_own _ hgd s x S ho B T i z size bytes hu hi hz0 hz1 hz2 hzs hsz v n xs hs hown' ⟨w.heap.size,0,none⟩ 1 1 us hx (by omega) ?_ hone (by unfold maxLen; omega) hlen (by simp; omega) ?_
 ·intro j y hj
  have e:(⟨w.heap.size,0,none⟩:Addr).add j = ⟨w.heap.size,j,none⟩ := by unfold Addr.add; split <;> simp_all
  rw [e,World.cell?_alloc_new]
  simpa using hj
 ·intro v' w' h1 h2 _
  exact h v' w' h1 (((Below.refl _ _).alloc hbase _).grown h2 (by simp; omega) (fun k hk => (hown'.lt k hk).1)) h2

theorem flat_at {A:Type} (size:Nat) (f:A → List Value) (hf:∀ x,(f x).length = size) (L:List A) (i:Nat) (hi:i < L.length) (t:Nat) (ht:t < size):(L.flatMap f)[i * size + t]? = (f L[i])[t]? := by
 induction L generalizing i with
 | nil => simp at hi
 | cons v L ih =>
  have hl:(f v).length = size := hf v
  simp only [List.flatMap_cons]
  cases i with
  | zero => rw [Nat.zero_mul,Nat.zero_add,List.getElem?_append_left (by omega)]; rfl
  | succ i =>
   have e0:(i + 1) * size = i * size + size := Nat.succ_mul i size
   rw [List.getElem?_append_right (by omega)]
   have e:(i + 1) * size + t - (f v).length = i * size + t := by omega
   rw [e]
   exact ih i (by simpa using hi)

def sameV (a b:Vl):Bool := sameB a.k a.n b.k b.n a.f b.f a.s b.s

def sameL:List Vl → List Vl → Bool
 | [],[] => true
 | a :: x,b :: y => sameV a b && sameL x y
 | _,_ => false

theorem sameL_len {x y:List Vl} (h:x.length ≠ y.length):sameL x y = false := by
 induction x generalizing y with
 | nil => cases y with
  | nil => exact absurd rfl h
  | cons b y => rfl
 | cons a x ih => cases y with
  | nil => rfl
  | cons b y =>
   show (sameV a b && sameL x y) = false
   rw [ih (by simpa using h)]
   simp

theorem sameL_drop {x y:List Vl} {j:Nat} (h1:j < x.length) (h2:j < y.length):sameL (x.drop j) (y.drop j) = (sameV x[j] y[j] && sameL (x.drop (j + 1)) (y.drop (j + 1))) := by
 rw [List.drop_eq_getElem_cons h1,List.drop_eq_getElem_cons h2]
 rfl

set_option maxHeartbeats 2000000 in
theorem rsameRow_any (L M:List Vl) (p q:Option Addr) (c d:Nat) (w:World) (hA:RowV w w.heap.size p L) (hB:RowV w w.heap.size q M) (hlen:L.length ≤ 17592186043904) (_hlen2:M.length ≤ 17592186043904) :
  Calls Tryz.prog 16 #[.slice p L.length c,.slice q M.length d] w fun e w' => e = .returned (.bool (sameL L M)) ∧ Below w.heap.size w w' := by
 have HA:Hid (RowV w w.heap.size p L ∧ RowV w w.heap.size q M) := ⟨hA,hB⟩
 clear hA hB
 by_cases hl:L.length = M.length
 ·have HL:Hid (L.length = M.length ∧ True) := ⟨hl,trivial⟩
  rw [← hl]
  have hE:Hid (sameL (L.drop L.length) (M.drop L.length) = true) := by
   show _ = _
   rw [List.drop_length,hl,List.drop_length]
   rfl
  clear hl
  go_enter Tryz.func16,Tryz.ntmps16
  go_wp2_with fail
  go_loopw [5] (fun i wr => ∃ j:Nat,j ≤ L.length ∧ i = .int .i64 (j:Int) ∧ Hid (sameL (L.drop j) (M.drop j) = sameL L M) ∧ Below w.heap.size w wr) (fun i _ => L.length - (intOf i).toNat)
  case atStart => exact ⟨0,Nat.zero_le _,by go_num,rfl,Below.refl _ _⟩
  case round =>
   obtain ⟨j,hj,rfl,hs,hn⟩ := hrel
   by_cases hj0:j = L.length
   ·subst hj0
    go_wp2
    go_ret
    exact ⟨boolV (hE.out.symm.trans hs.out),hn⟩
   ·have hj1:j < L.length := by omega
    have hj2:j < M.length := by have := HL.out.1; omega
    obtain ⟨b,o,rfl,hbB,c0,c1,c2,c3⟩ := HA.out.1 j hj1
    obtain ⟨bm,om,rfl,hbm,d0,d1,d2,d3⟩ := HA.out.2 j hj2
    have a0 := (hn.cell (p := ⟨b,o + j * 4,none⟩) hbB).trans c0
    have a1 := (hn.cell (p := ⟨b,o + j * 4 + 1,none⟩) hbB).trans c1
    have a2 := (hn.cell (p := ⟨b,o + j * 4 + 2,none⟩) hbB).trans c2
    have a3 := (hn.cell (p := ⟨b,o + j * 4 + 3,none⟩) hbB).trans c3
    have q0 := (hn.cell (p := ⟨bm,om + j * 4,none⟩) hbm).trans d0
    have q1 := (hn.cell (p := ⟨bm,om + j * 4 + 1,none⟩) hbm).trans d1
    have q2 := (hn.cell (p := ⟨bm,om + j * 4 + 2,none⟩) hbm).trans d2
    have q3 := (hn.cell (p := ⟨bm,om + j * 4 + 3,none⟩) hbm).trans d3
    have HS:Hid ((sameV L[j] M[j] && sameL (L.drop (j + 1)) (M.drop (j + 1))) = sameL L M) := (sameL_drop hj1 hj2).symm.trans hs.out
    have CS:Hid (∀ w1:World,Calls Tryz.prog 45 #[.agg #[.int .i64 (L[j]).k,.int .i64 (L[j]).n,.float .f64 (L[j]).f,.string (L[j]).s],.agg #[.int .i64 (M[j]).k,.int .i64 (M[j]).n,.float .f64 (M[j]).f,.string (M[j]).s]] w1 fun e w' => e = .returned (.bool (sameV L[j] M[j])) ∧ Below w1.heap.size w1 w') := fun w1 => rsame_any (L[j]).k (L[j]).n (M[j]).k (M[j]).n (L[j]).f (M[j]).f (L[j]).s (M[j]).s w1
    clear c0 c1 c2 c3 d0 d1 d2 d3 hj0 hs
    generalize sameV L[j] M[j] = sv at *
    generalize L[j] = x at *
    generalize M[j] = y at *
    obtain ⟨xk,xn,xf,xs⟩ := x
    obtain ⟨yk,yn,yf,ys⟩ := y
    dsimp only at a0 a1 a2 a3 q0 q1 q2 q3 CS
    cases sv
    ·have HE:Hid (sameL L M = false) := HS.out.symm
     clear HS
     go_wp2_with fail
     go_region_with (first | (go_at_call 45; refine (CS.out _).mono ?_; rintro e w5 ⟨rfl,hb5⟩))
     all_goals (try go_wp2)
     all_goals go_ret
     all_goals exact ⟨boolV HE.out.symm,hn.drew.trans (hb5.mono (by simpa using hn.size))⟩
    ·have HE:Hid (sameL (L.drop (j + 1)) (M.drop (j + 1)) = sameL L M) := HS.out
     clear HS
     go_wp2_with fail
     go_region_with (first | (go_at_call 45; refine (CS.out _).mono ?_; rintro e w5 ⟨rfl,hb5⟩))
     all_goals (try go_wp2)
     all_goals go_roundw
     all_goals first
      | (exact ⟨j + 1,by omega,by go_num,HE,hn.drew.trans (hb5.mono (by simpa using hn.size))⟩)
      | (simp [intOf]; omega)
 ·rw [sameL_len hl]
  have hl':((L.length:Int) != (M.length:Int)) = true := by simp; omega
  clear hl HA
  go_enter Tryz.func16,Tryz.ntmps16
  go_wp2
  go_ret
  exact ⟨rfl,Below.refl _ _⟩

end Go.Proofs.YtcibcfghkidncaaGreatDoor

namespace Go.Proofs.YtcibcfghkidncaaGreatDoor

structure Rw where
 n:Int
 gn:Bool
 row:List Vl

def okAt (L:List Rw) (i:Nat):Bool := match L[i]? with
 | none => true
 | some v => !(decide (v.n < 1)) && !(decide (4611686018427387904 < v.n)) && !(v.gn && decide (0 < v.row.length)) && (match i with
  | 0 => true
  | j + 1 => match L[j]? with
   | none => true
   | some u => decide (v.n < u.n))
def mayL (L:List Rw):Bool := (List.range L.length).all (okAt L)
theorem okAt_zero {L:List Rw} (h:0 < L.length):okAt L 0 = (!(decide (L[0].n < 1)) && !(decide ((4611686018427387904:Int) < L[0].n)) && !(L[0].gn && decide (0 < L[0].row.length))) := by
 unfold okAt
 rw [List.getElem?_eq_getElem h]
 simp
theorem okAt_succ {L:List Rw} {j:Nat} (h:j + 1 < L.length):okAt L (j + 1) = (!(decide (L[j + 1].n < 1)) && !(decide (4611686018427387904 < L[j + 1].n)) && !(L[j + 1].gn && decide (0 < L[j + 1].row.length)) && decide (L[j + 1].n < (L[j]'(by omega)).n)) := by
 unfold okAt
 rw [List.getElem?_eq_getElem h]
 simp only [List.getElem?_eq_getElem (show j < L.length by omega)]
theorem mayL_true {L:List Rw} (h:∀ i,i < L.length → okAt L i = true):mayL L = true := by
 unfold mayL
 rw [List.all_eq_true]
 intro i hi
 exact h i (by simpa using hi)
theorem mayL_false {L:List Rw} {i:Nat} (hi:i < L.length) (h:okAt L i = false):mayL L = false := by
 cases hm:mayL L with
 | false => rfl
 | true =>
  unfold mayL at hm
  rw [List.all_eq_true] at hm
  have := hm i (by simpa using hi)
  rw [h] at this
  cases this
theorem mayL_at {L:List Rw} (h:mayL L = true) {i:Nat} (hi:i < L.length):okAt L i = true := by
 unfold mayL at h
 rw [List.all_eq_true] at h
 exact h i (by simpa using hi)
def atN (L:List Rw) (s:Int):Nat := L.findIdx (fun v => decide (v.n ≤ s))
def atI (L:List Rw) (s:Int):Int := if atN L s < L.length then (atN L s:Int) else -1
theorem atN_at {L:List Rw} {s:Int} {j:Nat} (hj:j < L.length) (hb:∀ i (hi:i < L.length),i < j → s < L[i].n) (h:L[j].n ≤ s):atN L s = j := by
 unfold atN
 rw [List.findIdx_eq hj]
 exact ⟨by simpa using h,fun i hi => by simpa using hb i (by omega) hi⟩
theorem atN_none {L:List Rw} {s:Int} (hb:∀ i (hi:i < L.length),s < L[i].n):atN L s = L.length := by
 unfold atN
 rw [List.findIdx_eq_length]
 intro v hv
 obtain ⟨i,hi,rfl⟩ := List.getElem_of_mem hv
 simpa using hb i hi
theorem atI_at {L:List Rw} {s:Int} {j:Nat} (hj:j < L.length) (hb:∀ i (hi:i < L.length),i < j → s < L[i].n) (h:L[j].n ≤ s):atI L s = (j:Int) := by
 unfold atI
 rw [atN_at hj hb h,if_pos hj]
theorem atI_none {L:List Rw} {s:Int} (hb:∀ i (hi:i < L.length),s < L[i].n):atI L s = -1 := by
 unfold atI
 rw [atN_none hb,if_neg (by omega)]

def kpR (s:Int) (a:Nat) (z:Rw × Nat):Bool := decide (s < z.1.n) || (z.2 == a && !z.1.gn)
def prnJ (L:List Rw) (s:Int) (j:Nat):List Rw := ((L.take j).zipIdx.filter (kpR s (atN L s))).map Prod.fst
def prnL (L:List Rw) (s:Int):List Rw := prnJ L s L.length
theorem prnJ_succ {L:List Rw} {s:Int} {j:Nat} (hj:j < L.length):prnJ L s (j + 1) = prnJ L s j ++ (if kpR s (atN L s) (L[j],j) then [L[j]] else []) := by
 unfold prnJ
 rw [List.take_add_one,List.getElem?_eq_getElem hj,List.zipIdx_append,List.filter_append,List.map_append]
 have e:(L.take j).length = j := by rw [List.length_take]; omega
 simp only [Option.toList,List.zipIdx_cons,List.zipIdx_nil,e,Nat.zero_add]
 cases h:kpR s (atN L s) (L[j],j) <;> simp [h]
theorem prnJ_len (L:List Rw) (s:Int) (j:Nat):(prnJ L s j).length ≤ j := by
 unfold prnJ
 rw [List.length_map]
 refine Nat.le_trans (List.length_filter_le _ _) ?_
 simp
 omega
theorem prnL_len (L:List Rw) (s:Int):(prnL L s).length ≤ L.length := prnJ_len _ _ _

def belL (L:List Rw) (s:Int):List Rw := L.filter (fun v => decide (v.n < s))
def abvL (L:List Rw) (s:Int):Bool := L.any (fun v => decide (s < v.n))
theorem bel_take {L:List Rw} {s:Int} {j:Nat} (hj:j < L.length):belL (L.take (j + 1)) s = belL (L.take j) s ++ (if L[j].n < s then [L[j]] else []) := by
 unfold belL
 rw [List.take_add_one,List.getElem?_eq_getElem hj,List.filter_append]
 by_cases h:L[j].n < s <;> simp [h]
theorem bel_all (L:List Rw) (s:Int):belL (L.take L.length) s = belL L s := by rw [List.take_length]
theorem bel_len (L:List Rw) (s:Int) (j:Nat):(belL (L.take j) s).length ≤ j := by
 unfold belL
 refine Nat.le_trans (List.length_filter_le _ _) ?_
 simp
 omega
theorem belL_len (L:List Rw) (s:Int):(belL L s).length ≤ L.length := List.length_filter_le _ _
theorem abv_true {L:List Rw} {s:Int} {j:Nat} (hj:j < L.length) (h1:s < L[j].n):abvL L s = true := by
 unfold abvL
 rw [List.any_eq_true]
 exact ⟨L[j],List.getElem_mem hj,by simp [h1]⟩
theorem abv_false {L:List Rw} {s:Int} (h:∀ i (hi:i < L.length),L[i].n ≤ s):abvL L s = false := by
 unfold abvL
 rw [List.any_eq_false]
 intro v hv
 obtain ⟨i,hi,rfl⟩ := List.getElem_of_mem hv
 simpa using h i hi

end Go.Proofs.YtcibcfghkidncaaGreatDoor

namespace Go.Proofs.YtcibcfghkidncaaGreatDoor
open Go.RowKit
set_option maxRecDepth 100000

def RdR (k:IntKind) (w:World) (B:Nat) (p:Option Addr) (L:List Rw):Prop := ∀ i (hi:i < L.length),∃ b o q c,p = some ⟨b,o,none⟩ ∧ b < B ∧
 w.cell? ⟨b,o + i * 3,none⟩ = some (.int k L[i].n) ∧ w.cell? ⟨b,o + i * 3 + 1,none⟩ = some (.bool L[i].gn) ∧ w.cell? ⟨b,o + i * 3 + 2,none⟩ = some (.slice q L[i].row.length c) ∧ RowV w B q L[i].row ∧ (q = none → c = 0)
theorem RdR.keep {k:IntKind} {w w':World} {B:Nat} {p:Option Addr} {L:List Rw} (h:RdR k w B p L) (hb:Below B w w'):RdR k w' B p L := by
 intro i hi
 obtain ⟨b,o,q,c,e,hbB,c0,c1,c2,hr⟩ := h i hi
 have kk:∀ {o:Nat} {v:Option Value},w.cell? ⟨b,o,none⟩ = v → w'.cell? ⟨b,o,none⟩ = v := fun {o v} hc => (hb.cell (p := ⟨b,o,none⟩) hbB).trans hc
 exact ⟨b,o,q,c,e,hbB,kk c0,kk c1,kk c2,hr.1.keep hb,hr.2⟩
theorem RdR.mono {k:IntKind} {w:World} {B C:Nat} {p:Option Addr} {L:List Rw} (h:RdR k w B p L) (hb:B ≤ C):RdR k w C p L := by
 intro i hi
 obtain ⟨b,o,q,c,e,hbB,c0,c1,c2,hr⟩ := h i hi
 exact ⟨b,o,q,c,e,Nat.lt_of_lt_of_le hbB hb,c0,c1,c2,hr.1.mono hb,hr.2⟩
theorem RdR.nil (k:IntKind) (w:World) (B:Nat):RdR k w B none [] := fun i hi => absurd hi (by simp)
theorem RdR.on {k:IntKind} {w w':World} {p:Option Addr} {L:List Rw} (h:RdR k w w.heap.size p L) (hb:Below w.heap.size w w'):RdR k w' w'.heap.size p L := (h.keep hb).mono hb.size
theorem RowV.on {w w':World} {p:Option Addr} {L:List Vl} (h:RowV w w.heap.size p L) (hb:Below w.heap.size w w'):RowV w' w'.heap.size p L := (h.keep hb).mono hb.size

theorem intV {a b:Int} (h:a = b):Ending.returned (.int .i64 a) = Ending.returned (.int .i64 b) := by rw [h]

set_option maxHeartbeats 400000 in
theorem gone_any (g:Bool) (p:Option Addr) (n c:Nat) (w:World) :
  Calls Tryz.prog 93 #[.bool g,.slice p n c] w fun e w' => e = .returned (.bool (g && decide (0 < n))) ∧ w' = w := by
 cases g
 ·go_enter Tryz.func93,Tryz.ntmps93
  go_wp2
  go_ret
  exact ⟨rfl,rfl⟩
 ·go_enter Tryz.func93,Tryz.ntmps93
  go_wp2
  go_ret
  exact ⟨by simp,rfl⟩

set_option maxHeartbeats 2000000 in
theorem at_any (L:List Rw) (p:Option Addr) (c:Nat) (s:Int) (w:World) (hR:RdR .u64 w w.heap.size p L) (hlen:L.length ≤ 17592186043904) :
  Calls Tryz.prog 111 #[.slice p L.length c,.int .u64 s] w fun e w' => e = .returned (.int .i64 (atI L s)) ∧ Below w.heap.size w w' := by
 have HR:Hid (RdR _ _ _ _ _) := hR
 clear hR
 have HN:Hid ((∀ i (hi:i < L.length),s < L[i].n) → atI L s = -1) := atI_none
 have HP:Hid (∀ j (hj:j < L.length),(∀ i (hi:i < L.length),i < j → s < L[i].n) → L[j].n ≤ s → atI L s = (j:Int)) := fun j hj h1 h2 => atI_at hj h1 h2
 generalize atI L s = r at *
 go_enter Tryz.func111,Tryz.ntmps111
 go_wp2_with fail
 go_loopw [9] (fun i wr => ∃ j:Nat,j ≤ L.length ∧ i = .int .i64 (j:Int) ∧ Hid (∀ i (hi:i < L.length),i < j → s < L[i].n) ∧ Below w.heap.size w wr) (fun i _ => L.length - (intOf i).toNat)
 case atStart => exact ⟨0,Nat.zero_le _,by go_num,fun i hi h => absurd h (by omega),Below.refl _ _⟩
 case round =>
  obtain ⟨j,hj,rfl,hs,hn⟩ := hrel
  by_cases hj0:j = L.length
  ·subst hj0
   have HE := HN.out fun i hi => hs.out i hi hi
   go_wp2
   go_ret
   exact ⟨intV HE.symm,hn⟩
  ·have hj1:j < L.length := by omega
   obtain ⟨b,o,q,d,rfl,hbB,c0,c1,c2,_⟩ := HR.out j hj1
   have a0 := (hn.cell (p := ⟨b,o + j * 3,none⟩) hbB).trans c0
   have a1 := (hn.cell (p := ⟨b,o + j * 3 + 1,none⟩) hbB).trans c1
   have a2 := (hn.cell (p := ⟨b,o + j * 3 + 2,none⟩) hbB).trans c2
   have HE:Hid (L[j].n ≤ s → r = (j:Int)) := HP.out j hj1 hs.out
   have HS:Hid (s < L[j].n → ∀ i (hi:i < L.length),i < j + 1 → s < L[i].n) := fun h i hi hi2 => by
    rcases Nat.lt_succ_iff_lt_or_eq.1 hi2 with h3 | rfl
    ·exact hs.out i hi h3
    ·exact h
   clear c0 c1 c2 hj0 hs
   generalize L[j].n = xn at *
   generalize L[j].gn = xg at *
   generalize L[j].row.length = xl at *
   by_cases hx:xn ≤ s
   ·have he := HE.out hx
    go_wp2
    go_ret
    have hsz := hn.size
    exact ⟨intV he.symm,by go_grown⟩
   ·have hx':s < xn := by omega
    clear hx
    go_wp2
    go_roundw
    case rel => have hsz := hn.size; exact ⟨j + 1,by omega,by go_num,HS.out hx',by go_grown⟩
    case measure => simp [intOf]; omega

set_option maxHeartbeats 2000000 in
theorem rat_any (L:List Rw) (p:Option Addr) (c:Nat) (s:Int) (w:World) (hR:RdR .u64 w w.heap.size p L) (hlen:L.length ≤ 17592186043904) :
  Calls Tryz.prog 106 #[.slice p L.length c,.int .u64 s] w fun e w' => e = .returned (.int .i64 (atI L s)) ∧ Below w.heap.size w w' := by
 have HR:Hid (RdR _ _ _ _ _) := hR
 clear hR
 have HN:Hid ((∀ i (hi:i < L.length),s < L[i].n) → atI L s = -1) := atI_none
 have HP:Hid (∀ j (hj:j < L.length),(∀ i (hi:i < L.length),i < j → s < L[i].n) → L[j].n ≤ s → atI L s = (j:Int)) := fun j hj h1 h2 => atI_at hj h1 h2
 generalize atI L s = r at *
 go_enter Tryz.func106,Tryz.ntmps106
 go_wp2_with fail
 go_loopw [5] (fun i wr => ∃ j:Nat,j ≤ L.length ∧ i = .int .i64 (j:Int) ∧ Hid (∀ i (hi:i < L.length),i < j → s < L[i].n) ∧ Below w.heap.size w wr) (fun i _ => L.length - (intOf i).toNat)
 case atStart => exact ⟨0,Nat.zero_le _,by go_num,fun i hi h => absurd h (by omega),Below.refl _ _⟩
 case round =>
  obtain ⟨j,hj,rfl,hs,hn⟩ := hrel
  by_cases hj0:j = L.length
  ·subst hj0
   have HE := HN.out fun i hi => hs.out i hi hi
   go_wp2
   go_ret
   exact ⟨intV HE.symm,hn⟩
  ·have hj1:j < L.length := by omega
   obtain ⟨b,o,q,d,rfl,hbB,c0,c1,c2,_⟩ := HR.out j hj1
   have a0 := (hn.cell (p := ⟨b,o + j * 3,none⟩) hbB).trans c0
   have HE:Hid (L[j].n ≤ s → r = (j:Int)) := HP.out j hj1 hs.out
   have HS:Hid (s < L[j].n → ∀ i (hi:i < L.length),i < j + 1 → s < L[i].n) := fun h i hi hi2 => by
    rcases Nat.lt_succ_iff_lt_or_eq.1 hi2 with h3 | rfl
    ·exact hs.out i hi h3
    ·exact h
   clear c0 c1 c2 hj0 hs
   generalize L[j].n = xn at *
   by_cases hx:xn ≤ s
   ·have he := HE.out hx
    go_wp2
    go_ret
    exact ⟨intV he.symm,hn⟩
   ·have hx':s < xn := by omega
    clear hx
    go_wp2
    go_roundw
    case rel => exact ⟨j + 1,by omega,by go_num,HS.out hx',hn⟩
    case measure => simp [intOf]; omega

end Go.Proofs.YtcibcfghkidncaaGreatDoor
