/- The walks of names. The walk of Kept: a switch over words, word by word. -/
import Derived.Test.YthbjheiogghjnaaGreatDoorGMSch
import Derived.Test.YthbjheiogghjnaaGreatDoorGWShT
import Derived.Test.YthbjheiogghjnaaGreatDoorGWVal
namespace Go.Proofs.YthbjheiogghjnaaGreatDoor
open Go.RowKit
set_option maxRecDepth 100000

theorem boolV {a b : Bool} (h : a = b) : Ending.returned (.bool a) = Ending.returned (.bool b) := by rw [h]
def letC (c : UInt8) : Bool := decide (97 ≤ c.toNat) && decide (c.toNat ≤ 122) || (decide (65 ≤ c.toNat) && decide (c.toNat ≤ 90))
theorem cls_let (c : UInt8) : clsC c = (letC c || digC c || decide (c.toNat = 95)) := by
  unfold clsC lowC upC digC letC
  rw [Bool.eq_iff_iff]
  simp
  omega
theorem idx_us (c : UInt8) : Lib.indexByte [95] c = if c.toNat = 95 then 0 else -1 := by
  unfold Lib.indexByte
  by_cases h : c.toNat = 95
  · have : c = 95 := UInt8.toNat_inj.1 h
    subst this
    rfl
  · have : ¬ (95 : UInt8) = c := fun e => h (by rw [← e]; rfl)
    rw [if_neg h]
    simp [this, Lib.indexByte]

set_option maxHeartbeats 1000000 in
theorem isDigit_any (c : UInt8) (w : World) : Calls Tryz.prog 57 #[.int .u8 (c.toNat : Int)] w fun e w' => e = .returned (.bool (digC c)) ∧ w' = w := by
  have HD : Hid (digC c = (decide (48 ≤ c.toNat) && decide (c.toNat ≤ 57))) := rfl
  generalize digC c = d at *
  generalize c.toNat = n at *
  rcases Nat.lt_or_ge n 48 with h1 | h1
  all_goals
    go_enter Tryz.func57, Tryz.ntmps57
    go_wp2
  all_goals
    go_ret
    exact ⟨boolV (by rw [HD.out, Bool.eq_iff_iff]; simp <;> omega), rfl⟩

set_option maxHeartbeats 1000000 in
theorem rdigit_any (c : UInt8) (w : World) : Calls Tryz.prog 50 #[.int .u8 (c.toNat : Int)] w fun e w' => e = .returned (.bool (digC c)) ∧ w' = w := by
  have HD : Hid (digC c = (decide (48 ≤ c.toNat) && decide (c.toNat ≤ 57))) := rfl
  generalize digC c = d at *
  generalize c.toNat = n at *
  rcases Nat.lt_or_ge n 48 with h1 | h1
  all_goals
    go_enter Tryz.func50, Tryz.ntmps50
    go_wp2
  all_goals
    go_ret
    exact ⟨boolV (by rw [HD.out, Bool.eq_iff_iff]; simp <;> omega), rfl⟩

set_option maxHeartbeats 1000000 in
theorem rsmall_any (c : UInt8) (w : World) : Calls Tryz.prog 47 #[.int .u8 (c.toNat : Int)] w fun e w' => e = .returned (.bool (lowC c)) ∧ w' = w := by
  have HD : Hid (lowC c = (decide (97 ≤ c.toNat) && decide (c.toNat ≤ 122) || decide (c.toNat = 95))) := rfl
  generalize lowC c = d at *
  generalize c.toNat = n at *
  rcases Nat.lt_or_ge n 97 with h1 | h1 <;> rcases Nat.lt_or_ge 122 n with h2 | h2
  all_goals
    go_enter Tryz.func47, Tryz.ntmps47
    go_wp2
  all_goals
    go_ret
    exact ⟨boolV (by rw [HD.out, Bool.eq_iff_iff]; simp <;> omega), rfl⟩

set_option maxHeartbeats 1000000 in
theorem isLetter_any (c : UInt8) (w : World) : Calls Tryz.prog 79 #[.int .u8 (c.toNat : Int)] w fun e w' => e = .returned (.bool (letC c)) ∧ w' = w := by
  have HD : Hid (letC c = (decide (97 ≤ c.toNat) && decide (c.toNat ≤ 122) || (decide (65 ≤ c.toNat) && decide (c.toNat ≤ 90)))) := rfl
  generalize letC c = d at *
  generalize c.toNat = n at *
  rcases Nat.lt_or_ge n 97 with h1 | h1 <;> rcases Nat.lt_or_ge 122 n with h2 | h2 <;> rcases Nat.lt_or_ge n 65 with h3 | h3
  all_goals
    go_enter Tryz.func79, Tryz.ntmps79
    go_wp2
  all_goals
    go_ret
    exact ⟨boolV (by rw [HD.out, Bool.eq_iff_iff]; simp <;> omega), rfl⟩

end Go.Proofs.YthbjheiogghjnaaGreatDoor

namespace Go.Proofs.YthbjheiogghjnaaGreatDoor
open Go.RowKit
set_option maxRecDepth 100000

/-- one comparison: a region's number, a slot, the word, the place in the text -/
structure SwC where
  id : Nat
  x : Nat
  wd : Array UInt8
  pos : String
def swCmp (d : Nat) (c : SwC) : Code := .region c.id #[{ dst := some c.x, op := .binOp .eql 9 (.tmp 3) (.const (.string ⟨c.wd⟩)) 9, type := 4, pos := c.pos, after := #[], guard := none }, { dst := some d, op := .assign (.tmp c.x), type := 4, pos := c.pos, after := #[{ on := 0, ground := .data }], guard := none }] false
def sw (d : Nat) : SwC → List SwC → Code
  | c, [] => swCmp d c
  | c, c' :: l => (swCmp d c).seq (.cond (.tmp d) .skip (sw d c' l))

set_option maxHeartbeats 1000000 in
theorem cmp_wp (s : ByteArray) (w : World) (d : Nat) (c : SwC) (a : Act) (Q : Exit → Act → World → Prop) (hx : c.x < a.tmps.size) (h3 : a.tmps.getD 3 undef = .string s)
    (h : Q .normal ((a.put (some c.x) (.bool (s.toList == c.wd.toList))).put (some d) (.bool (s.toList == c.wd.toList))) w) : (swCmp d c).wp Tryz.prog Q a w := by
  unfold swCmp
  obtain ⟨id, x, wd, pos⟩ := c
  dsimp only at *
  go_wp2
  rw [show (⟨wd⟩ : ByteArray).toList = wd.toList from ByteArray.toList_eq _]
  exact h
theorem getD_put {a : Act} {i j : Nat} {v : Value} (h : ¬ i = j) : (a.put (some i) v).tmps.getD j undef = a.tmps.getD j undef := by
  simp only [Act.put, Array.getD_eq_getD_getElem?]
  rw [Array.getElem?_setIfInBounds_ne h]
theorem getD_put_same {a : Act} {i : Nat} {v : Value} (h : i < a.tmps.size) : (a.put (some i) v).tmps.getD i undef = v := by
  simp [Act.put, Array.getD_eq_getD_getElem?, h]
theorem size_put {a : Act} {i : Nat} {v : Value} : (a.put (some i) v).tmps.size = a.tmps.size := by simp [Act.put]
theorem defers_put {a : Act} {i : Nat} {v : Value} : (a.put (some i) v).defers = a.defers := rfl
theorem sw_wp (s : ByteArray) (w : World) (d : Nat) (hd : ¬ d = 3) : ∀ (l : List SwC) (c : SwC) (a : Act) (Q : Exit → Act → World → Prop), (∀ e ∈ c :: l, e.x < a.tmps.size ∧ ¬ e.x = 3) → d < a.tmps.size → a.tmps.getD 3 undef = .string s →
    (∀ a' : Act, a'.tmps.size = a.tmps.size → a'.defers = a.defers → a'.tmps.getD 3 undef = .string s → a'.tmps.getD d undef = .bool ((c :: l).any fun e => s.toList == e.wd.toList) → Q .normal a' w) → (sw d c l).wp Tryz.prog Q a w
  | [], c, a, Q, hx, hs, h3, h => by
    obtain ⟨h1, h2⟩ := hx c (by simp)
    refine cmp_wp s w d c a Q h1 h3 (h _ ?_ ?_ ?_ ?_)
    · rw [size_put, size_put]
    · rfl
    · rw [getD_put hd, getD_put h2, h3]
    · rw [getD_put_same (by rw [size_put]; exact hs)]; simp
  | c' :: l, c, a, Q, hx, hs, h3, h => by
    obtain ⟨h1, h2⟩ := hx c (by simp)
    refine wp_seq (cmp_wp s w d c a _ h1 h3 ?_)
    have z1 := size_put (a := a) (i := c.x) (v := .bool (s.toList == c.wd.toList))
    have g3 : ((a.put (some c.x) (.bool (s.toList == c.wd.toList))).put (some d) (.bool (s.toList == c.wd.toList))).tmps.getD 3 undef = .string s := by rw [getD_put hd, getD_put h2, h3]
    have gd : ((a.put (some c.x) (.bool (s.toList == c.wd.toList))).put (some d) (.bool (s.toList == c.wd.toList))).tmps.getD d undef = .bool (s.toList == c.wd.toList) := getD_put_same (by rw [z1]; exact hs)
    have gz : ((a.put (some c.x) (.bool (s.toList == c.wd.toList))).put (some d) (.bool (s.toList == c.wd.toList))).tmps.size = a.tmps.size := by rw [size_put, z1]
    have gf : ((a.put (some c.x) (.bool (s.toList == c.wd.toList))).put (some d) (.bool (s.toList == c.wd.toList))).defers = a.defers := rfl
    show (Code.cond (.tmp d) .skip (sw d c' l)).wp Tryz.prog Q _ w
    generalize (a.put (some c.x) (.bool (s.toList == c.wd.toList))).put (some d) (.bool (s.toList == c.wd.toList)) = a1 at *
    cases hb : (s.toList == c.wd.toList) with
    | true =>
      rw [hb] at gd
      refine wp_cond_true (c := .tmp d) gd ?_
      exact wp_skip (h a1 gz gf g3 (by rw [gd, List.any_cons, hb]; rfl))
    | false =>
      rw [hb] at gd
      refine wp_cond_false (c := .tmp d) gd ?_
      refine sw_wp s w d hd l c' a1 Q (fun e he => by rw [gz]; exact hx e (List.mem_cons_of_mem _ he)) (by rw [gz]; exact hs) g3 ?_
      intro a' e1 e2 e3 e4
      exact h a' (e1.trans gz) (e2.trans gf) e3 (by rw [e4]; simp only [List.any_cons, hb, Bool.false_or])

/-- the places in the text, as the program has them -/
def opsPos (ops : Array Oper) : String := match ops[0]? with
  | some o => o.pos
  | none => default
def swPos : Nat → Code → String
  | 0, .seq (.region _ ops _) _ => opsPos ops
  | _, .region _ ops _ => opsPos ops
  | n + 1, .seq _ (.cond _ _ c) => swPos n c
  | _, _ => default
def cL : Code → Code
  | .seq a _ => a
  | c => c
def cR : Code → Code
  | .seq _ b => b
  | .cond _ _ b => b
  | .block _ b => b
  | c => c
def keptX (b : Code) : Code := cR (cR (cL (cR b)))
def keptS1 (b : Code) : Code := cL (keptX b)
def keptS2 (b : Code) : Code := cL (cR (cR (keptX b)))
def keptC1 (b : Code) : SwC := ⟨2, 5, #[97, 110, 100], swPos 0 (keptS1 b)⟩
def keptL1 (b : Code) : List SwC := [⟨3, 6, #[98, 111, 111, 108], swPos 1 (keptS1 b)⟩, ⟨4, 7, #[98, 121, 116, 101, 115], swPos 2 (keptS1 b)⟩, ⟨5, 8, #[99, 114, 101, 97, 116, 101], swPos 3 (keptS1 b)⟩, ⟨6, 9, #[100, 101, 102, 97, 117, 108, 116], swPos 4 (keptS1 b)⟩, ⟨7, 10, #[102, 97, 108, 115, 101], swPos 5 (keptS1 b)⟩, ⟨8, 11, #[102, 108, 111, 97, 116], swPos 6 (keptS1 b)⟩, ⟨9, 12, #[102, 111, 114, 101, 105, 103, 110], swPos 7 (keptS1 b)⟩, ⟨10, 13, #[105, 110], swPos 8 (keptS1 b)⟩, ⟨11, 14, #[105, 110, 100, 101, 120], swPos 9 (keptS1 b)⟩, ⟨12, 15, #[105, 110, 116], swPos 10 (keptS1 b)⟩, ⟨13, 16, #[105, 115], swPos 11 (keptS1 b)⟩, ⟨14, 17, #[107, 101, 121], swPos 12 (keptS1 b)⟩, ⟨15, 18, #[110, 111, 116], swPos 13 (keptS1 b)⟩, ⟨16, 19, #[110, 117, 108, 108], swPos 14 (keptS1 b)⟩, ⟨17, 20, #[111, 114], swPos 15 (keptS1 b)⟩, ⟨18, 21, #[112, 114, 105, 109, 97, 114, 121], swPos 16 (keptS1 b)⟩, ⟨19, 22, #[114, 101, 102, 101, 114, 101, 110, 99, 101, 115], swPos 17 (keptS1 b)⟩, ⟨20, 23, #[116, 97, 98, 108, 101], swPos 18 (keptS1 b)⟩, ⟨21, 24, #[116, 101, 120, 116], swPos 19 (keptS1 b)⟩, ⟨22, 25, #[116, 114, 117, 101], swPos 20 (keptS1 b)⟩, ⟨23, 26, #[117, 110, 105, 113, 117, 101], swPos 21 (keptS1 b)⟩]
def keptC2 (b : Code) : SwC := ⟨25, 28, #[97, 98, 111, 114, 116], swPos 0 (keptS2 b)⟩
def keptL2 (b : Code) : List SwC := [⟨26, 29, #[97, 115], swPos 1 (keptS2 b)⟩, ⟨27, 30, #[97, 115, 99], swPos 2 (keptS2 b)⟩, ⟨28, 31, #[97, 116], swPos 3 (keptS2 b)⟩, ⟨29, 32, #[97, 118, 103], swPos 4 (keptS2 b)⟩, ⟨30, 33, #[98, 101, 103, 105, 110], swPos 5 (keptS2 b)⟩, ⟨31, 34, #[98, 101, 116, 119, 101, 101, 110], swPos 6 (keptS2 b)⟩, ⟨32, 35, #[98, 121], swPos 7 (keptS2 b)⟩, ⟨33, 36, #[99, 111, 109, 109, 105, 116], swPos 8 (keptS2 b)⟩, ⟨34, 37, #[99, 111, 117, 110, 116], swPos 9 (keptS2 b)⟩, ⟨35, 38, #[100, 101, 108, 101, 116, 101], swPos 10 (keptS2 b)⟩, ⟨36, 39, #[100, 101, 115, 99], swPos 11 (keptS2 b)⟩, ⟨37, 40, #[100, 114, 111, 112], swPos 12 (keptS2 b)⟩, ⟨38, 41, #[102, 114, 111, 109], swPos 13 (keptS2 b)⟩, ⟨39, 42, #[103, 114, 111, 117, 112], swPos 14 (keptS2 b)⟩, ⟨40, 43, #[105, 110, 115, 101, 114, 116], swPos 15 (keptS2 b)⟩, ⟨41, 44, #[105, 110, 116, 111], swPos 16 (keptS2 b)⟩, ⟨42, 45, #[108, 105, 109, 105, 116], swPos 17 (keptS2 b)⟩, ⟨43, 46, #[109, 97, 120], swPos 18 (keptS2 b)⟩, ⟨44, 47, #[109, 105, 110], swPos 19 (keptS2 b)⟩, ⟨45, 48, #[111, 102], swPos 20 (keptS2 b)⟩, ⟨46, 49, #[111, 114, 100, 101, 114], swPos 21 (keptS2 b)⟩, ⟨47, 50, #[114, 101, 108, 101, 97, 115, 101], swPos 22 (keptS2 b)⟩, ⟨48, 51, #[114, 111, 108, 108, 98, 97, 99, 107], swPos 23 (keptS2 b)⟩, ⟨49, 52, #[115, 97, 118, 101, 112, 111, 105, 110, 116], swPos 24 (keptS2 b)⟩, ⟨50, 53, #[115, 101, 108, 101, 99, 116], swPos 25 (keptS2 b)⟩, ⟨51, 54, #[115, 101, 116], swPos 26 (keptS2 b)⟩, ⟨52, 55, #[115, 117, 109], swPos 27 (keptS2 b)⟩, ⟨53, 56, #[116, 111], swPos 28 (keptS2 b)⟩, ⟨54, 57, #[117, 112, 100, 97, 116, 101], swPos 29 (keptS2 b)⟩, ⟨55, 58, #[118, 97, 108, 117, 101, 115], swPos 30 (keptS2 b)⟩, ⟨56, 59, #[119, 104, 101, 114, 101], swPos 31 (keptS2 b)⟩, ⟨57, 60, #[119, 105, 116, 104], swPos 32 (keptS2 b)⟩]
theorem kept_words (b : Code) (l : List UInt8) : keptB l = (((keptC1 b :: keptL1 b).any fun e => l == e.wd.toList) || ((keptC2 b :: keptL2 b).any fun e => l == e.wd.toList)) := by
  rw [← List.any_append]
  unfold keptB
  rw [show wordsL = ((keptC1 b :: keptL1 b) ++ (keptC2 b :: keptL2 b)).map (fun e => e.wd.toList) by kernel_rfl]
  rw [List.contains_eq_any_beq, List.any_map]
  rfl

theorem slots1 (b : Code) : ((keptC1 b :: keptL1 b).all fun e => decide (e.x < 61) && !decide (e.x = 3)) = true := by kernel_rfl
theorem slots2 (b : Code) : ((keptC2 b :: keptL2 b).all fun e => decide (e.x < 61) && !decide (e.x = 3)) = true := by kernel_rfl
theorem slots_of {l : List SwC} (h : (l.all fun e => decide (e.x < 61) && !decide (e.x = 3)) = true) : ∀ e ∈ l, e.x < 61 ∧ ¬ e.x = 3 := by
  intro e he
  have := List.all_eq_true.1 h e he
  simpa using this

set_option maxHeartbeats 4000000 in
theorem kept_any (s : ByteArray) (w : World) : Calls Tryz.prog 59 #[.string s] w fun e w' => e = .returned (.bool (keptB s.data.toList)) ∧ w' = w := by
  rw [show s.data.toList = s.toList from (ByteArray.toList_eq s).symm, kept_words (Tryz.f59.body.getD .skip)]
  obtain ⟨b, hb⟩ : ∃ b, b = Tryz.f59.body.getD .skip := ⟨_, rfl⟩
  rw [← hb]
  have H1 := sw_wp s w 4 (by decide) (keptL1 b) (keptC1 b)
  have H2 := sw_wp s w 27 (by decide) (keptL2 b) (keptC2 b)
  generalize (keptC1 b :: keptL1 b).any (fun e => s.toList == e.wd.toList) = b1 at *
  generalize (keptC2 b :: keptL2 b).any (fun e => s.toList == e.wd.toList) = b2 at *
  have H1' : Hid _ := H1
  have H2' : Hid _ := H2
  clear H1 H2
  go_enter Tryz.func59, Tryz.ntmps59
  subst hb
  change Code.wp Tryz.prog (Code.seq _ (Code.seq (Code.seq _ (Code.block 0 (Code.seq (sw 4 (keptC1 (Tryz.f59.body.getD .skip)) (keptL1 (Tryz.f59.body.getD .skip))) (Code.cond _ _ (Code.seq (sw 27 (keptC2 (Tryz.f59.body.getD .skip)) (keptL2 (Tryz.f59.body.getD .skip))) _))))) _)) _ _ _
  go_wp2_with fail
  refine H1'.out _ _ (slots_of (slots1 _)) (by show 4 < 61; decide) rfl ?_
  intro a1 z1 f1 s1 d1
  have z1' : a1.tmps.size = 61 := z1
  have f1' : a1.defers = [] := f1
  clear z1 f1
  go_wp2_with fail
  cases b1
  · refine wp_cond_false (c := .tmp 4) d1 (wp_seq ?_)
    refine H2'.out _ _ (by rw [z1']; exact slots_of (slots2 _)) (by rw [z1']; decide) s1 ?_
    intro a2 z2 f2 s2 d2
    have z2' : a2.tmps.size = 61 := z2.trans z1'
    have f2' : a2.defers = [] := f2.trans f1'
    clear z2 f2
    cases b2
    · refine wp_cond_false (c := .tmp 27) d2 ?_
      go_wp2
      exact bodyPost_ret (v := .bool false) (by simp [results, Tryz.results59, go_sem, z2']) rfl ⟨rfl, rfl⟩
    · refine wp_cond_true (c := .tmp 27) d2 ?_
      go_wp2
      exact bodyPost_ret (v := .bool true) (by simp [results, Tryz.results59, go_sem, z2']) rfl ⟨rfl, rfl⟩
  · refine wp_cond_true (c := .tmp 4) d1 ?_
    go_wp2
    exact bodyPost_ret (v := .bool true) (by simp [results, Tryz.results59, go_sem, z1']) rfl ⟨rfl, rfl⟩

end Go.Proofs.YthbjheiogghjnaaGreatDoor
