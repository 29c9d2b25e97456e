/-
  Texts that lead to it, 1: LxPlain PsPlain PsMap PsMem PsA PsB PsC PsD PsE PsTree PsApp PsTrs PsX4 PsTrt PsAps PsDcl PsT1 PsT2 PsX1.
-/
import Derived.WalkKit
import Derived.Test.YtjmemapkipkocaaDoorChecked
import Derived.Below
import Derived.Maps.OwnOps
import Derived.Maps.Views
import Derived.Laws.StructEq
import Derived.OwnWalk
import Derived.Deep.AppendLies
import Derived.Deep.RegionHeld3
import Derived.Deep.QuietTactic
import Derived.BigQuiet
import Derived.RegionTactic
import Derived.BigRegion
import Derived.LoopTactic
import Derived.BigGuard
import Derived.Outline
import Derived.Lib.Hide
import Derived.WalkSpells
import Derived.Deep.LoopGhost

/-
  Tokens, plainly: what a text's tokens are, over lists of bytes. Nothing of Go.
-/
namespace Go.Proofs.YtjmemapkipkocaaDoor
open Go.RowKit
set_option linter.unusedVariables false

def isLet (c : UInt8) : Bool := c == 95 || (97 ≤ c && c ≤ 122) || (65 ≤ c && c ≤ 90)
def isDig (c : UInt8) : Bool := 48 ≤ c && c ≤ 57
def isAl (c : UInt8) : Bool := isLet c || isDig c
def isBl (c : UInt8) : Bool := c == 32 || c == 9 || c == 10 || c == 13

structure Tok where
  kind : Int
  text : List UInt8
  n : Int
  pos : Nat
deriving DecidableEq
inductive Res
  | bad (err : Int) (pos : Nat)
  | ok (l : List Tok)
deriving DecidableEq

def wordsL : List (List UInt8) := [[118, 111, 105, 100], [99, 104, 97, 114], [115, 104, 111, 114, 116], [105, 110, 116], [108, 111, 110, 103], [117, 110, 115, 105, 103, 110, 101, 100], [105, 102], [101, 108, 115, 101], [119, 104, 105, 108, 101], [100, 111], [102, 111, 114], [115, 119, 105, 116, 99, 104], [99, 97, 115, 101], [100, 101, 102, 97, 117, 108, 116], [98, 114, 101, 97, 107], [99, 111, 110, 116, 105, 110, 117, 101], [114, 101, 116, 117, 114, 110], [103, 111, 116, 111], [115, 105, 122, 101, 111, 102]]
def isWord (t : List UInt8) : Bool := wordsL.contains t
def L3 : List (List UInt8) := [[60, 60, 61], [62, 62, 61]]
def L2 : List (List UInt8) := [[43, 43], [45, 45], [60, 60], [62, 62], [60, 61], [62, 61], [61, 61], [33, 61], [38, 38], [124, 124], [43, 61], [45, 61], [42, 61], [47, 61], [37, 61], [38, 61], [94, 61], [124, 61]]
def L1 : List (List UInt8) := [[43], [45], [42], [47], [37], [38], [124], [94], [126], [33], [60], [62], [61], [63], [58], [59], [44], [40], [41], [91], [93], [123], [125]]
def signsL : List (List UInt8) := L3 ++ L2 ++ L1
def sgT (r : List UInt8) : Option (List UInt8) := signsL.find? (fun t => t.isPrefixOf r)

/-- A number as it is read: what has come up, and whether it was too large once. -/
def numStep (v : Int × Bool) (c : UInt8) : Int × Bool := (IntKind.u64.wrap (IntKind.u64.wrap (v.1 * 10) + ((c.toNat : Int) - 48) % 256), v.2 || decide ((9223372036854775807 - ((c.toNat : Int) - 48) % 256) / 10 < v.1))
def numOf (d : List UInt8) : Int × Bool := d.foldl numStep (0, false)

/-- The tokens from here on. -/
def S : Nat → List UInt8 → Nat → List Tok → Res
  | 0, _, _, _ => .bad 0 0
  | _ + 1, [], pos, acc => .ok (acc ++ [⟨0, [], 0, pos⟩])
  | f + 1, c :: r, pos, acc =>
    if isBl c then S f r (pos + 1) acc
    else if isLet c then S f ((c :: r).drop ((c :: r).takeWhile isAl).length) (pos + ((c :: r).takeWhile isAl).length) (acc ++ [⟨if isWord ((c :: r).takeWhile isAl) then 4 else 1, (c :: r).takeWhile isAl, 0, pos⟩])
    else if isDig c then
      if (numOf ((c :: r).takeWhile isDig)).2 then .bad 10 pos
      else if isLet ((c :: r).getD ((c :: r).takeWhile isDig).length 0) then .bad 3 pos
      else S f ((c :: r).drop ((c :: r).takeWhile isDig).length) (pos + ((c :: r).takeWhile isDig).length) (acc ++ [⟨2, [], wrap64 (numOf ((c :: r).takeWhile isDig)).1, pos⟩])
    else match sgT (c :: r) with
      | none => .bad 3 pos
      | some t => S f ((c :: r).drop t.length) (pos + t.length) (acc ++ [⟨3, t, 0, pos⟩])

theorem sgT_some {r t : List UInt8} (h : sgT r = some t) : t ∈ signsL ∧ t <+: r := by
  unfold sgT at h
  exact ⟨List.mem_of_find?_eq_some h, List.isPrefixOf_iff_prefix.1 (List.find?_some (p := fun t : List UInt8 => t.isPrefixOf r) h)⟩
theorem signs_pos {t : List UInt8} (h : t ∈ signsL) : 0 < t.length ∧ t.length ≤ 3 := by
  have : ∀ t ∈ signsL, 0 < t.length ∧ t.length ≤ 3 := by decide
  exact this t h
theorem tw_pos {p : UInt8 → Bool} {c : UInt8} {r : List UInt8} (h : p c = true) : 0 < ((c :: r).takeWhile p).length := by
  simp [h]

theorem S_fuel : ∀ (f f' : Nat) (r : List UInt8) (pos : Nat) (acc : List Tok), r.length < f → r.length < f' → S f r pos acc = S f' r pos acc
  | 0, _, r, _, _, h, _ => by omega
  | _ + 1, 0, r, _, _, _, h => by omega
  | f + 1, f' + 1, [], pos, acc, _, _ => by simp [S]
  | f + 1, f' + 1, c :: r, pos, acc, h, h' => by
    have hr : r.length < f := by simpa using h
    have hr' : r.length < f' := by simpa using h'
    have hd : ∀ n, 0 < n → ∀ p a, S f ((c :: r).drop n) p a = S f' ((c :: r).drop n) p a := fun n hn p a => S_fuel f f' _ p a (by simp; omega) (by simp; omega)
    rw [S, S]
    by_cases hb : isBl c = true
    · rw [if_pos hb, if_pos hb]; exact S_fuel f f' r _ _ hr hr'
    rw [if_neg hb, if_neg hb]
    by_cases hl : isLet c = true
    · rw [if_pos hl, if_pos hl]; exact hd _ (tw_pos (by simp [isAl, hl])) _ _
    rw [if_neg hl, if_neg hl]
    by_cases hg : isDig c = true
    · rw [if_pos hg, if_pos hg]
      split
      · rfl
      split
      · rfl
      exact hd _ (tw_pos hg) _ _
    rw [if_neg hg, if_neg hg]
    cases hs : sgT (c :: r) with
    | none => rfl
    | some t => exact hd _ (signs_pos (sgT_some hs).1).1 _ _

/-- .. with just as much fuel as is wanted. -/
def SS (r : List UInt8) (pos : Nat) (acc : List Tok) : Res := S (r.length + 1) r pos acc
theorem SS_nil (pos : Nat) (acc : List Tok) : SS [] pos acc = .ok (acc ++ [⟨0, [], 0, pos⟩]) := rfl
section
variable {c : UInt8} {r : List UInt8} (pos : Nat) (acc : List Tok)
theorem SS_drop (n : Nat) (hn : 0 < n) (p : Nat) (a : List Tok) : S (c :: r).length ((c :: r).drop n) p a = SS ((c :: r).drop n) p a := S_fuel _ _ _ _ _ (by simp; omega) (by omega)
theorem SS_blank (h : isBl c = true) : SS (c :: r) pos acc = SS r (pos + 1) acc := by
  rw [SS, S, if_pos h]; rfl
theorem SS_name (hb : isBl c = false) (h : isLet c = true) :
    SS (c :: r) pos acc = SS ((c :: r).drop ((c :: r).takeWhile isAl).length) (pos + ((c :: r).takeWhile isAl).length) (acc ++ [⟨if isWord ((c :: r).takeWhile isAl) then 4 else 1, (c :: r).takeWhile isAl, 0, pos⟩]) := by
  rw [SS, S, if_neg (by simp [hb]), if_pos h]
  exact SS_drop _ (tw_pos (by simp [isAl, h])) _ _
theorem SS_num (hb : isBl c = false) (hl : isLet c = false) (h : isDig c = true) :
    SS (c :: r) pos acc = if (numOf ((c :: r).takeWhile isDig)).2 then .bad 10 pos
      else if isLet ((c :: r).getD ((c :: r).takeWhile isDig).length 0) then .bad 3 pos
      else SS ((c :: r).drop ((c :: r).takeWhile isDig).length) (pos + ((c :: r).takeWhile isDig).length) (acc ++ [⟨2, [], wrap64 (numOf ((c :: r).takeWhile isDig)).1, pos⟩]) := by
  rw [SS, S, if_neg (by simp [hb]), if_neg (by simp [hl]), if_pos h]
  rw [← SS_drop _ (tw_pos h)]
theorem SS_sign (hb : isBl c = false) (hl : isLet c = false) (h : isDig c = false) :
    SS (c :: r) pos acc = match sgT (c :: r) with
      | none => .bad 3 pos
      | some t => SS ((c :: r).drop t.length) (pos + t.length) (acc ++ [⟨3, t, 0, pos⟩]) := by
  rw [SS, S, if_neg (by simp [hb]), if_neg (by simp [hl]), if_neg (by simp [h])]
  cases hs : sgT (c :: r) with
  | none => rfl
  | some t => exact SS_drop _ (signs_pos (sgT_some hs).1).1 _ _
end

/-- The tokens of a text, or its fault. -/
def lexR (l : List UInt8) : Res := if 2000 < l.length then .bad 2 0 else SS l 0 []
def Res.err : Res → Int | .bad e _ => e | .ok _ => 0
def Res.at : Res → Nat | .bad _ p => p | .ok _ => 0
def Res.toks : Res → List Tok | .bad _ _ => [] | .ok l => l

/-- How many from here on are of a kind. -/
def cnt (p : UInt8 → Bool) (r : List UInt8) : Nat := (r.takeWhile p).length
section
variable {p : UInt8 → Bool} {c : UInt8} {r : List UInt8}
theorem cnt_nil : cnt p [] = 0 := rfl
theorem cnt_yes (h : p c = true) : cnt p (c :: r) = cnt p r + 1 := by simp [cnt, h]
theorem cnt_no (h : p c = false) : cnt p (c :: r) = 0 := by simp [cnt, h]
theorem cnt_le : cnt p r ≤ r.length := by unfold cnt; exact (List.takeWhile_sublist p).length_le
theorem take_cnt : r.take (cnt p r) = r.takeWhile p := by
  unfold cnt
  induction r with
  | nil => rfl
  | cons c r ih => by_cases h : p c = true <;> simp [h, ih]
theorem head_cnt (p : UInt8 → Bool) (r : List UInt8) (c : UInt8) (t : List UInt8) (h : r.drop (cnt p r) = c :: t) : p c = false := by
  induction r with
  | nil => simp at h
  | cons d r ih =>
    cases hd : p d with
    | true => rw [cnt_yes hd] at h; exact ih (by simpa using h)
    | false => rw [cnt_no hd] at h; simp at h; rw [← h.1]; exact hd
end
theorem tw_yes {p : UInt8 → Bool} {c : UInt8} {r : List UInt8} (h : p c = true) : (c :: r).takeWhile p = c :: r.takeWhile p := by simp [h]
theorem tw_no {p : UInt8 → Bool} {c : UInt8} {r : List UInt8} (h : p c = false) : (c :: r).takeWhile p = [] := by simp [h]
/-- What 'number' returns, of what lies from k on. -/
def numE (r : List UInt8) : Int := if (numOf (r.takeWhile isDig)).2 then 10 else if isLet (r.getD (cnt isDig r) 0) then 3 else 0
def numN (r : List UInt8) : Int := if numE r = 0 then wrap64 (numOf (r.takeWhile isDig)).1 else 0
def numP (r : List UInt8) (k : Nat) : Nat := if numE r = 0 then k + cnt isDig r else 0
section
variable {r : List UInt8} (k : Nat)
theorem num_over (h : (numOf (r.takeWhile isDig)).2 = true) : numE r = 10 ∧ numN r = 0 ∧ numP r k = 0 := by simp [numE, numN, numP, h]
theorem num_let (h : (numOf (r.takeWhile isDig)).2 = false) (hl : isLet (r.getD (cnt isDig r) 0) = true) : numE r = 3 ∧ numN r = 0 ∧ numP r k = 0 := by simp only [numE, numN, numP, h, hl]; simp
theorem num_ok (h : (numOf (r.takeWhile isDig)).2 = false) (hl : isLet (r.getD (cnt isDig r) 0) = false) : numE r = 0 ∧ numN r = wrap64 (numOf (r.takeWhile isDig)).1 ∧ numP r k = k + cnt isDig r := by simp only [numE, numN, numP, h, hl]; simp
end
theorem getD_drop (l : List UInt8) (k n : Nat) : (l.drop k).getD n 0 = l.getD (k + n) 0 := by simp [List.getD]
theorem getD_in (s : ByteArray) {j : Nat} (h : j < s.size) : s.data.toList.getD j 0 = s[j] := by
  rw [List.getD_eq_getElem?_getD, List.getElem?_eq_getElem (by simpa using h)]; rfl
theorem getD_out (s : ByteArray) {j : Nat} (h : ¬ j < s.size) : s.data.toList.getD j 0 = 0 := by
  simp [List.getD]; rw [Array.getElem?_eq_none (by simpa using h)]; rfl
theorem drop_cons (s : ByteArray) {j : Nat} (h : j < s.size) : s.data.toList.drop j = s[j] :: s.data.toList.drop (j + 1) := by
  rw [List.drop_eq_getElem_cons (by simpa using h)]; rfl
theorem drop_nil (s : ByteArray) {j : Nat} (h : ¬ j < s.size) : s.data.toList.drop j = [] := List.drop_eq_nil_of_le (by simp; omega)
theorem SS_blanks : ∀ (r : List UInt8) (pos : Nat) (acc : List Tok), SS r pos acc = SS (r.drop (cnt isBl r)) (pos + cnt isBl r) acc
  | [], pos, acc => rfl
  | c :: r, pos, acc => by
    cases h : isBl c with
    | true => rw [SS_blank _ _ h, cnt_yes h, SS_blanks r, List.drop_succ_cons, Nat.add_assoc, Nat.add_comm 1]
    | false => rw [cnt_no h]; rfl
theorem bl_bits (c : UInt8) : (bits BinOp.and IntKind.u64 (4294977024 / 2 ^ min c.toNat 64) 1 == 1) = isBl c := by
  have h : ∀ n, n < 256 → (bits BinOp.and IntKind.u64 (4294977024 / 2 ^ min (UInt8.ofNat n).toNat 64) 1 == 1) = isBl (UInt8.ofNat n) := by decide +kernel
  have := h c.toNat c.toNat_lt
  simpa using this
end Go.Proofs.YtjmemapkipkocaaDoor

/-
  Programs, plainly: what the parser makes of a list of tokens, step by step as it goes. Nothing of Go.
  'none' is: the number of steps that it was given did not do.
-/
namespace Go.Proofs.YtjmemapkipkocaaDoor
open Go.RowKit
set_option linter.unusedVariables false

structure Ty where
  kind : Int
  ptr : Int
  len : Int
deriving DecidableEq
def ty0 : Ty := ⟨0, 0, 0⟩
/-- A list of expressions. -/
inductive Exs
  | nil
  | cons (op : Int) (ty : Ty) (nm : List UInt8) (n : Int) (kids : Exs) (pos : Int) (rest : Exs)
deriving DecidableEq
/-- One expression. -/
structure Ex where
  op : Int
  ty : Ty
  nm : List UInt8
  n : Int
  kids : Exs
  pos : Int
deriving DecidableEq
def Exs.add : Ex → Exs → Exs := fun e r => .cons e.op e.ty e.nm e.n e.kids e.pos r
def Exs.snoc : Exs → Ex → Exs
  | .nil, e => .add e .nil
  | .cons op ty nm n kids pos r, e => .cons op ty nm n kids pos (r.snoc e)
def Exs.len : Exs → Nat
  | .nil => 0
  | .cons _ _ _ _ _ _ r => r.len + 1
def ex0 : Ex := ⟨0, ty0, [], 0, .nil, 0⟩
def one (a : Ex) : Exs := .add a .nil
def two (a b : Ex) : Exs := .add a (.add b .nil)
def three (a b c : Ex) : Exs := .add a (.add b (.add c .nil))
/-- A list of statements. -/
inductive Sts
  | nil
  | cons (op : Int) (ex : Exs) (body : Sts) (ty : Ty) (nm : List UInt8) (n : Int) (pos : Int) (rest : Sts)
deriving DecidableEq
structure Sm where
  op : Int
  ex : Exs
  body : Sts
  ty : Ty
  nm : List UInt8
  n : Int
  pos : Int
deriving DecidableEq
def Sts.add : Sm → Sts → Sts := fun e r => .cons e.op e.ex e.body e.ty e.nm e.n e.pos r
def Sts.snoc : Sts → Sm → Sts
  | .nil, e => .add e .nil
  | .cons op ex body ty nm n pos r, e => .cons op ex body ty nm n pos (r.snoc e)
def Sts.len : Sts → Nat
  | .nil => 0
  | .cons _ _ _ _ _ _ _ r => r.len + 1
def sm0 : Sm := ⟨0, .nil, .nil, ty0, [], 0, 0⟩
def oneS (a : Sm) : Sts := .add a .nil
structure Dec where
  nm : List UInt8
  ty : Ty
  init : List Int
  pos : Int
deriving DecidableEq
structure Fn where
  nm : List UInt8
  ret : Ty
  params : List Dec
  body : Sts
  pos : Int
deriving DecidableEq
structure Un where
  globals : List Dec
  funcs : List Fn
deriving DecidableEq
def un0 : Un := ⟨[], []⟩

/-- What a sign means at a level. -/
def meanL : List ((Int × List UInt8) × (Int × Int)) := [
  ((0, [61]), (34, 0)), ((0, [42, 61]), (34, 15)), ((0, [47, 61]), (34, 16)), ((0, [37, 61]), (34, 17)), ((0, [43, 61]), (34, 18)), ((0, [45, 61]), (34, 19)),
  ((0, [60, 60, 61]), (34, 20)), ((0, [62, 62, 61]), (34, 21)), ((0, [38, 61]), (34, 28)), ((0, [94, 61]), (34, 29)), ((0, [124, 61]), (34, 30)), ((1, [63]), (33, 0)),
  ((2, [124, 124]), (32, 0)), ((3, [38, 38]), (31, 0)), ((4, [124]), (30, 0)), ((5, [94]), (29, 0)), ((6, [38]), (28, 0)), ((7, [61, 61]), (26, 0)), ((7, [33, 61]), (27, 0)),
  ((8, [60]), (22, 0)), ((8, [62]), (24, 0)), ((8, [60, 61]), (23, 0)), ((8, [62, 61]), (25, 0)), ((9, [60, 60]), (20, 0)), ((9, [62, 62]), (21, 0)),
  ((10, [43]), (18, 0)), ((10, [45]), (19, 0)), ((11, [42]), (15, 0)), ((11, [47]), (16, 0)), ((11, [37]), (17, 0)),
  ((12, [45]), (6, 0)), ((12, [126]), (7, 0)), ((12, [33]), (8, 0)), ((12, [42]), (4, 0)), ((12, [38]), (5, 0)), ((12, [43, 43]), (11, 0)), ((12, [45, 45]), (12, 0)),
  ((13, [91]), (3, 0)), ((13, [43, 43]), (13, 0)), ((13, [45, 45]), (14, 0))]
def mean (lv : Int) (t : List UInt8) : Int × Int := ((meanL.find? (fun m => m.1 == (lv, t))).map (·.2)).getD (0, 0)
def typeL : List (List UInt8) := [[118, 111, 105, 100], [117, 110, 115, 105, 103, 110, 101, 100], [99, 104, 97, 114], [115, 104, 111, 114, 116], [105, 110, 116], [108, 111, 110, 103]]
def isType (t : List UInt8) : Bool := typeL.contains t

/-- Where the parser is, and the first fault. -/
structure St where
  here : Nat
  err : Int
  pos : Int
deriving DecidableEq
namespace P
variable (l : List Tok)
def eTok : Tok := ⟨0, [], 0, 0⟩
def tok (s : St) : Tok := l.getD s.here eTok
def snd (s : St) : Tok := l.getD (min (s.here + 1) (l.length - 1)) eTok
def next (s : St) : St := if (tok l s).kind = 0 then s else { s with here := s.here + 1 }
def fail (e p : Int) (s : St) : St := ⟨l.length - 1, if s.err = 0 then e else s.err, if s.err = 0 then p else s.pos⟩
def refuse (s : St) : St := fail l 4 (tok l s).pos s
def begin (deep : Int) (s : St) : St := if 20 < deep then fail l 2 (tok l s).pos s else s
def is (t : List UInt8) (s : St) : Bool := (tok l s).text == t
def acc (t : List UInt8) (s : St) : St := if is l t s then next l s else s
def need (t : List UInt8) (s : St) : St := if is l t s then next l s else refuse l s
def kindT (k : Int) (s : St) : Tok := if (tok l s).kind = k then tok l s else eTok
def kind (k : Int) (s : St) : St := if (tok l s).kind = k then next l s else refuse l s
/-- What the next sign means at a level; the state behind it. -/
def signM (lv : Int) (s : St) : Int × Int := mean lv (tok l s).text
def sign (lv : Int) (s : St) : St := if (signM l lv s).1 = 0 then s else next l s
def value (s : St) : Int × St :=
  if is l [45] s then (wrap64 (-(kindT l 2 (next l s)).n), kind l 2 (next l s)) else ((kindT l 2 s).n, kind l 2 s)
def base2 (u : Int) (s : St) : Int × St :=
  if is l [99, 104, 97, 114] s then (1 + u, next l s) else if is l [115, 104, 111, 114, 116] s then (3 + u, next l s) else if is l [105, 110, 116] s then (5 + u, next l s)
  else if is l [108, 111, 110, 103] s then (7 + u, next l s) else (0, refuse l s)
def base (s : St) : Int × St :=
  if is l [118, 111, 105, 100] s then (0, next l s) else base2 l (if is l [117, 110, 115, 105, 103, 110, 101, 100] s then 1 else 0) (acc l [117, 110, 115, 105, 103, 110, 101, 100] s)
def stars : Nat → Int → St → Int × St
  | 0, p, s => (p, s)
  | f + 1, p, s => if is l [42] s then (if p = 3 then (p, fail l 2 (tok l s).pos s) else stars f (p + 1) (next l s)) else (p, s)
def typ (s : St) : Ty × St := (⟨(base l s).1, (stars l 4 0 (base l s).2).1, 0⟩, (stars l 4 0 (base l s).2).2)
def within (s : St) : Ty × St := ((typ l (need l [40] s)).1, need l [41] (typ l (need l [40] s)).2)
def length2 (s : St) : Int × St :=
  ((kindT l 2 s).n, need l [93] (if 64 ≤ IntKind.u64.wrap (IntKind.u64.wrap (kindT l 2 s).n - 1) then fail l 10 (kindT l 2 s).pos (kind l 2 s) else kind l 2 s))
def length (s : St) : Int × St := if is l [91] s then length2 l (next l s) else (0, s)

/-- What calls itself, with one step less. -/
structure Rec where
  expr : Int → St → Option (Ex × St)
  cond : Int → St → Option (Ex × St)
  bin : Int → Int → St → Option (Ex × St)
  binL : Int → Int → Ex → St → Option (Ex × St)
  unary : Int → St → Option (Ex × St)
  postL : Int → Ex → St → Option (Ex × St)
  argL : Int → Exs → St → Option (Exs × St)
  stmt : Int → St → Option (Sm × St)
  blkL : Int → Sts → St → Option (Sts × St)
def rec0 : Rec := ⟨fun _ _ => none, fun _ _ => none, fun _ _ _ => none, fun _ _ _ _ => none, fun _ _ => none, fun _ _ _ => none, fun _ _ _ => none, fun _ _ => none, fun _ _ _ => none⟩
variable (r : Rec)
def expr (deep : Int) (s : St) : Option (Ex × St) :=
  (r.cond deep s).bind fun a =>
    if (signM l 0 a.2).1 = 0 then some a
    else (r.expr (deep + 1) (next l a.2)).bind fun b => some (⟨(signM l 0 a.2).1, ty0, [], (signM l 0 a.2).2, two a.1 b.1, (tok l a.2).pos⟩, b.2)
def cond (deep : Int) (s : St) : Option (Ex × St) :=
  (r.bin 2 deep s).bind fun a =>
    if (signM l 1 a.2).1 = 0 then some a
    else (r.expr (deep + 1) (next l a.2)).bind fun b => (r.cond (deep + 1) (need l [58] b.2)).bind fun c =>
      some (⟨(signM l 1 a.2).1, ty0, [], 0, three a.1 b.1 c.1, (tok l a.2).pos⟩, c.2)
def bin (lv deep : Int) (s : St) : Option (Ex × St) :=
  if lv = 12 then r.unary deep s else (r.bin (lv + 1) deep s).bind fun a => r.binL lv deep a.1 a.2
def binL (lv deep : Int) (left : Ex) (s : St) : Option (Ex × St) :=
  if (signM l lv s).1 = 0 then some (left, s)
  else (r.bin (lv + 1) deep (next l s)).bind fun b => r.binL lv deep ⟨(signM l lv s).1, ty0, [], 0, two left b.1, (tok l s).pos⟩ b.2
/-- '(' expr ')'. -/
def paren (deep : Int) (s : St) : Option (Ex × St) :=
  (r.expr deep (need l [40] s)).bind fun a => some (a.1, need l [41] a.2)
def args (deep : Int) (s : St) : Option (Exs × St) :=
  if is l [41] (need l [40] s) then some (.nil, next l (need l [40] s))
  else (r.argL deep .nil (need l [40] s)).bind fun a => some (a.1, need l [41] a.2)
def argL (deep : Int) (a : Exs) (s : St) : Option (Exs × St) :=
  (r.expr deep (if a.len = 4 then fail l 2 (tok l s).pos s else s)).bind fun e =>
    if is l [44] e.2 then r.argL deep (a.snoc e.1) (next l e.2) else some (a.snoc e.1, e.2)
def primary (deep : Int) (s : St) : Option (Ex × St) :=
  if (tok l s).kind = 2 then some (⟨1, ty0, [], (tok l s).n, .nil, (tok l s).pos⟩, next l s)
  else if (tok l s).kind = 1 then
    if (snd l s).text == [40] then (args l r (deep + 1) (next l s)).bind fun a => some (⟨35, ty0, (tok l s).text, 0, a.1, (tok l s).pos⟩, a.2)
    else some (⟨2, ty0, (tok l s).text, 0, .nil, (tok l s).pos⟩, next l s)
  else if is l [40] s then paren l r (deep + 1) s
  else some (ex0, refuse l s)
def postE (deep : Int) (s : St) : Option (Ex × St) := (primary l r deep s).bind fun a => r.postL deep a.1 a.2
def postL (deep : Int) (e : Ex) (s : St) : Option (Ex × St) :=
  if (signM l 13 s).1 = 0 then some (e, s)
  else if (signM l 13 s).1 = 3 then (r.expr (deep + 1) (next l s)).bind fun b => r.postL deep ⟨3, ty0, [], 0, two e b.1, (tok l s).pos⟩ (need l [93] b.2)
  else r.postL deep ⟨(signM l 13 s).1, ty0, [], 0, one e, (tok l s).pos⟩ (next l s)
def unary2 (deep : Int) (s : St) : Option (Ex × St) :=
  if is l [40] s && isType (snd l s).text then (r.unary (deep + 1) (within l s).2).bind fun a => some (⟨9, (within l s).1, [], 0, one a.1, (tok l s).pos⟩, a.2)
  else if is l [115, 105, 122, 101, 111, 102] s then some (⟨10, (within l (next l s)).1, [], 0, .nil, (tok l s).pos⟩, (within l (next l s)).2)
  else postE l r deep s
def unary1 (deep : Int) (s : St) : Option (Ex × St) :=
  if (signM l 12 s).1 = 0 then unary2 l r deep s
  else (r.unary (deep + 1) (next l s)).bind fun a => some (⟨(signM l 12 s).1, ty0, [], 0, one a.1, (tok l s).pos⟩, a.2)
def unary (deep : Int) (s : St) : Option (Ex × St) := unary1 l r deep (begin l deep s)

/-- expr ';' of a statement. -/
def told (deep : Int) (s : St) : Option (Exs × St) := (r.expr (deep + 1) s).bind fun a => some (one a.1, need l [59] a.2)
def asked (deep : Int) (s : St) : Option (Exs × St) := (paren l r (deep + 1) s).bind fun a => some (one a.1, a.2)
def body (deep : Int) (s : St) : Option (Sts × St) := (r.stmt (deep + 1) s).bind fun a => some (oneS a.1, a.2)
def block (deep : Int) (s : St) : Option (Sts × St) := (r.blkL deep .nil (need l [123] s)).bind fun a => some (a.1, need l [125] a.2)
def blkL (deep : Int) (a : Sts) (s : St) : Option (Sts × St) :=
  if is l [125] s || (tok l s).kind == 0 then some (a, s) else (r.stmt (deep + 1) s).bind fun b => r.blkL deep (a.snoc b.1) b.2
def maybe (deep : Int) (t : List UInt8) (s : St) : Option (Ex × St) :=
  if is l t s then some (ex0, need l t s) else (r.expr (deep + 1) s).bind fun a => some (a.1, need l t a.2)
def course (deep : Int) (s : St) : Option (Exs × St) :=
  (maybe l r deep [59] (need l [40] s)).bind fun a => (maybe l r deep [59] a.2).bind fun b => (maybe l r deep [41] b.2).bind fun c => some (three a.1 b.1 c.1, c.2)
/-- A statement with a word that holds no other one; 'some none': none begins here. -/
def short (deep : Int) (s : St) (m : Sm) : Option (Option (Sm × St)) :=
  if is l [99, 97, 115, 101] s then some (some ({ m with op := 9, n := (value l (next l s)).1 }, need l [58] (value l (next l s)).2))
  else if is l [100, 101, 102, 97, 117, 108, 116] s then some (some ({ m with op := 10 }, need l [58] (next l s)))
  else if is l [98, 114, 101, 97, 107] s then some (some ({ m with op := 11 }, need l [59] (next l s)))
  else if is l [99, 111, 110, 116, 105, 110, 117, 101] s then some (some ({ m with op := 12 }, need l [59] (next l s)))
  else if is l [103, 111, 116, 111] s then some (some ({ m with op := 14, nm := (kindT l 1 (next l s)).text }, need l [59] (kind l 1 (next l s))))
  else if is l [114, 101, 116, 117, 114, 110] s then
    if is l [59] (next l s) then some (some ({ m with op := 13 }, need l [59] (next l s)))
    else (r.expr (deep + 1) (next l s)).bind fun a => some (some ({ m with op := 13, ex := one a.1 }, need l [59] a.2))
  else some none
def ifS (deep : Int) (s : St) (m : Sm) : Option (Sm × St) :=
  (asked l r deep s).bind fun a => (body r deep a.2).bind fun b =>
    if is l [101, 108, 115, 101] b.2 then (r.stmt (deep + 1) (next l b.2)).bind fun c => some ({ m with op := 4, ex := a.1, body := b.1.snoc c.1 }, c.2)
    else some ({ m with op := 4, ex := a.1, body := b.1 }, b.2)
def whileS (op : Int) (deep : Int) (s : St) (m : Sm) : Option (Sm × St) :=
  (asked l r deep s).bind fun a => (body r deep a.2).bind fun b => some ({ m with op := op, ex := a.1, body := b.1 }, b.2)
def forS (deep : Int) (s : St) (m : Sm) : Option (Sm × St) :=
  (course l r deep s).bind fun a => (body r deep a.2).bind fun b => some ({ m with op := 7, ex := a.1, body := b.1 }, b.2)
def doS (deep : Int) (s : St) (m : Sm) : Option (Sm × St) :=
  (body r deep s).bind fun b => (asked l r deep (need l [119, 104, 105, 108, 101] b.2)).bind fun a => some ({ m with op := 6, ex := a.1, body := b.1 }, need l [59] a.2)
def holding (deep : Int) (s : St) (m : Sm) : Option (Option (Sm × St)) :=
  if is l [105, 102] s then (ifS l r deep (next l s) m).map some
  else if is l [119, 104, 105, 108, 101] s then (whileS l r 5 deep (next l s) m).map some
  else if is l [115, 119, 105, 116, 99, 104] s then (whileS l r 8 deep (next l s) m).map some
  else if is l [102, 111, 114] s then (forS l r deep (next l s) m).map some
  else if is l [100, 111] s then (doS l r deep (next l s) m).map some
  else some none
def loc (deep : Int) (s : St) (m : Sm) : Option (Sm × St) :=
  let t := typ l s
  let g := length l (kind l 1 t.2)
  let m2 : Sm := { m with op := 2, ty := { t.1 with len := g.1 }, nm := (kindT l 1 t.2).text }
  if g.1 = 0 ∧ is l [61] g.2 = true then (told l r deep (next l g.2)).bind fun a => some ({ m2 with ex := a.1 }, a.2)
  else some (m2, need l [59] g.2)
def wordless (deep : Int) (s : St) (m : Sm) : Option (Sm × St) :=
  if (tok l s).kind = 1 ∧ (snd l s).text = [58] then some ({ m with op := 15, nm := (tok l s).text }, need l [58] (next l s))
  else if isType (tok l s).text then loc l r deep s m
  else if is l [123] s then (block l r deep s).bind fun a => some ({ m with op := 3, body := a.1 }, a.2)
  else if is l [59] s then some ({ m with op := 16 }, next l s)
  else (told l r deep s).bind fun a => some ({ m with op := 1, ex := a.1 }, a.2)
def stmt1 (deep : Int) (s : St) (m : Sm) : Option (Sm × St) :=
  (short l r deep s m).bind fun a => match a with
    | some x => some x
    | none => (holding l r deep s m).bind fun b => match b with
      | some x => some x
      | none => wordless l r deep s m
def stmt (deep : Int) (s : St) : Option (Sm × St) := stmt1 l r deep (begin l deep s) { sm0 with pos := (tok l (begin l deep s)).pos }
def recs : Nat → Rec
  | 0 => rec0
  | f + 1 => ⟨expr l (recs f), cond l (recs f), bin (recs f), binL l (recs f), unary l (recs f), postL l (recs f), argL l (recs f), stmt l (recs f), blkL l (recs f)⟩

def param (s : St) : Dec × St := (⟨(kindT l 1 (typ l s).2).text, (typ l s).1, [], (kindT l 1 (typ l s).2).pos⟩, kind l 1 (typ l s).2)
def parL : Nat → List Dec → St → Option (List Dec × St)
  | 0, _, _ => none
  | f + 1, a, s =>
    let d := param l (if a.length = 4 then fail l 2 (tok l s).pos s else s)
    if is l [44] d.2 then parL f (a ++ [d.1]) (next l d.2) else some (a ++ [d.1], d.2)
def params2 (f : Nat) (s : St) : Option (List Dec × St) :=
  if is l [41] s then some ([], next l s) else (parL l f [] s).bind fun a => some (a.1, need l [41] a.2)
def params (f : Nat) (s : St) : Option (List Dec × St) :=
  params2 l f (if is l [118, 111, 105, 100] (need l [40] s) && (snd l (need l [40] s)).text == [41] then next l (need l [40] s) else need l [40] s)
def func (f : Nat) (ret : Ty) (name : Tok) (s : St) : Option (Fn × St) :=
  (params l f s).bind fun a => (block l (recs l f) 1 a.2).bind fun b => some (⟨name.text, ret, a.1, b.1, name.pos⟩, b.2)
def iniL : Nat → Int → List Int → St → Option (List Int × St)
  | 0, _, _, _ => none
  | f + 1, n, a, s =>
    let v := value l (if (a.length : Int) = n ∧ ((tok l s).kind = 2 ∨ is l [45] s = true) then fail l 10 (tok l s).pos s else s)
    if is l [44] v.2 then iniL f n (a ++ [v.1]) (next l v.2) else some (a ++ [v.1], v.2)
def initial (f : Nat) (n : Int) (s : St) : Option (List Int × St) :=
  if n = 0 then some ([(value l s).1], (value l s).2)
  else (iniL l f n [] (need l [123] s)).bind fun a => some (a.1, need l [125] a.2)
def global (f : Nat) (t : Ty) (name : Tok) (s : St) : Option (Dec × St) :=
  let g := length l s
  if is l [61] g.2 then (initial l f g.1 (next l g.2)).bind fun a => some (⟨name.text, { t with len := g.1 }, a.1, name.pos⟩, need l [59] a.2)
  else some (⟨name.text, { t with len := g.1 }, [], name.pos⟩, need l [59] g.2)
def item (f : Nat) (u : Un) (s : St) : Option (Un × St) :=
  let t := typ l s
  let name := kindT l 1 t.2
  let s2 := kind l 1 t.2
  if is l [40] s2 then
    (func l f t.1 name (if u.funcs.length = 8 then fail l 2 name.pos s2 else s2)).bind fun a => some ({ u with funcs := u.funcs ++ [a.1] }, a.2)
  else
    (global l f t.1 name (if u.globals.length = 16 then fail l 2 name.pos s2 else s2)).bind fun a => some ({ u with globals := u.globals ++ [a.1] }, a.2)
def unitL (f : Nat) : Nat → Un → St → Option (Un × St)
  | 0, _, _ => none
  | g + 1, u, s => if (tok l s).kind = 0 then some (u, s) else (item l f u s).bind fun a => unitL f g a.1 a.2
end P
/-- A program, or the first fault. -/
inductive URes
  | bad (err : Int) (pos : Int)
  | ok (u : Un)
deriving DecidableEq
def fuelP : Nat := 100000
def parseR (t : List UInt8) : Option URes :=
  match lexR t with
  | .bad e p => some (.bad e p)
  | .ok l => (P.unitL l fuelP fuelP un0 ⟨0, 0, 0⟩).map fun a => if a.2.err = 0 then .ok a.1 else .bad a.2.err a.2.pos
end Go.Proofs.YtjmemapkipkocaaDoor

/-
  The map of meanings: its entries, and what a look-up tells.
-/
namespace Go.Proofs.YtjmemapkipkocaaDoor
open Go.RowKit Go.Maps
set_option linter.unusedVariables false
set_option linter.unusedSimpArgs false

abbrev MRow := (Int × List UInt8) × (Int × Int)
def keyV (k : Int × List UInt8) : Value := .agg #[.int .i64 k.1, .string ⟨k.2.toArray⟩]
def valV (v : Int × Int) : Value := .agg #[.int .i64 v.1, .int .i64 v.2]
def ents : List MRow → Nat → List MapEntry
  | [], _ => []
  | m :: r, i => ⟨keyV m.1, valV m.2, i⟩ :: ents r (i + 1)
theorem ents_length : ∀ (l : List MRow) (i : Nat), (ents l i).length = l.length
  | [], _ => rfl
  | m :: r, i => by simp [ents, ents_length r]
theorem ents_snoc : ∀ (l : List MRow) (m : MRow) (i : Nat), ents (l ++ [m]) i = ents l i ++ [⟨keyV m.1, valV m.2, i + l.length⟩]
  | [], m, i => by simp [ents]
  | x :: r, m, i => by
    have e : i + 1 + r.length = i + (r.length + 1) := by omega
    simp only [List.cons_append, ents, ents_snoc r m (i + 1), List.length_cons, e]
/-- The map that holds these rows. -/
def mapObj (l : List MRow) : Obj := .map (ents l 0).toArray l.length
theorem fieldsPlace : (Tryd.prog.fieldsOf 67).toList.map (fun f => (f.name, f.type, f.offset)) = [("level", 3, 0), ("sign", 9, 1)] := by kernel_rfl
theorem undPlace : Tryd.prog.underlying 67 = some (.struct (Tryd.prog.fieldsOf 67)) := by kernel_rfl
theorem part_place0 (a : Int) (b : ByteArray) (w : World) : (part 3 #[.int .i64 a, .string b] 0).run Tryd.prog w = .ok (.int .i64 a) w := by kernel_rfl
theorem part_place1 (a : Int) (b : ByteArray) (w : World) : (part 9 #[.int .i64 a, .string b] 1).run Tryd.prog w = .ok (.string b) w := by kernel_rfl
theorem fields2 : ∃ f0 f1 : Field, (Tryd.prog.fieldsOf 67).toList = [f0, f1] ∧ (f0.name, f0.type, f0.offset) = ("level", 3, 0) ∧ (f1.name, f1.type, f1.offset) = ("sign", 9, 1) := by
  have h := fieldsPlace
  generalize (Tryd.prog.fieldsOf 67).toList = l at h
  rcases l with _ | ⟨f0, _ | ⟨f1, _ | ⟨f2, r⟩⟩⟩
  · cases h
  · simp at h
  · simp only [List.map_cons, List.map_nil, List.cons.injEq, and_true] at h
    exact ⟨f0, f1, rfl, h.1, h.2⟩
  · simp at h
theorem eq_place (a b : Int × List UInt8) (w : World) : (Op.equal 67 (keyV a) (keyV b)).run Tryd.prog w = .ok (a == b) w := by
  obtain ⟨f0, f1, hf, h0, h1⟩ := fields2
  simp only [Prod.mk.injEq] at h0 h1
  obtain ⟨n0, t0, o0⟩ := h0
  obtain ⟨n1, t1, o1⟩ := h1
  unfold Op.equal keyV
  obtain ⟨d, hd⟩ : ∃ d, Op.maxDepth = d + 2 := ⟨Op.maxDepth - 2, by decide⟩
  rw [hd, run_equalIn_agg w _ _ _ _ undPlace (by kernel_rfl), hf]
  have hs : ∀ x y : List UInt8, ((⟨x.toArray⟩ : ByteArray).toList == (⟨y.toArray⟩ : ByteArray).toList) = (x == y) := fun x y => by rw [ByteArray.toList_eq, ByteArray.toList_eq]
  simp only [Op.eqFields, n0, t0, o0, n1, t1, o1, ne_eq, String.reduceEq, not_false_eq_true, if_true, Sem.run_bind, part_place0, part_place1, Sem.run_ite, Sem.run_pure, Result.andThen_ok, run_equalIn_int w _ _ _ _ _ _ Tryd.underlying3, run_equalIn_string w _ _ _ _ Tryd.underlying9, hs]
  obtain ⟨a1, a2⟩ := a
  obtain ⟨b1, b2⟩ := b
  by_cases h1 : a1 = b1
  · subst h1
    by_cases h2 : a2 = b2
    · subst h2; simp
    · simp [h2]
  · simp [h1]
theorem find_none (key : Int × List UInt8) (w : World) : ∀ (l : List MRow) (i j : Nat), l.find? (fun m => m.1 == key) = none → (Instr.findAsking 67 (keyV key) (ents l i) j).run Tryd.prog w = .ok none w
  | [], i, j, _ => by simp [ents, Instr.findAsking]
  | m :: r, i, j, h => by
    simp only [List.find?_cons] at h
    cases hm : m.1 == key with
    | true => rw [hm] at h; cases h
    | false =>
      rw [hm] at h
      have hk : (key == m.1) = false := by rw [Bool.eq_false_iff] at hm ⊢; intro h2; exact hm (by simpa using (by simpa using h2 : key = m.1).symm)
      simp only [ents, Instr.findAsking, Sem.run_bind, eq_place, Result.andThen_ok, hk, Bool.false_eq_true, if_false]
      exact find_none key w r (i + 1) (j + 1) h
theorem find_some (key : Int × List UInt8) (w : World) : ∀ (l : List MRow) (i j : Nat) (m : MRow), l.find? (fun m => m.1 == key) = some m → ∃ k, (Instr.findAsking 67 (keyV key) (ents l i) j).run Tryd.prog w = .ok (some (k, valV m.2)) w
  | [], i, j, m, h => by cases h
  | x :: r, i, j, m, h => by
    simp only [List.find?_cons] at h
    cases hm : x.1 == key with
    | true =>
      rw [hm] at h
      obtain rfl : x = m := by simpa using h
      have hk : (key == x.1) = true := by have : x.1 = key := by simpa using hm
                                          simp [this]
      exact ⟨j, by simp only [ents, Instr.findAsking, Sem.run_bind, eq_place, Result.andThen_ok, hk, if_true, Sem.run_pure]⟩
    | false =>
      rw [hm] at h
      have hk : (key == x.1) = false := by rw [Bool.eq_false_iff] at hm ⊢; intro h2; exact hm (by simpa using (by simpa using h2 : key = x.1).symm)
      simp only [ents, Instr.findAsking, Sem.run_bind, eq_place, Result.andThen_ok, hk, Bool.false_eq_true, if_false]
      exact find_some key w r (i + 1) (j + 1) m h
theorem checkPlace (b : Bool) (a : Int) (s : ByteArray) (w : World) : (Instr.checkKey b 10000 67 (.agg #[.int .i64 a, .string s])).run Tryd.prog w = .ok () w := by
  cases b <;> kernel_rfl
theorem zeroMean (w : World) : (zeroValue 69).run Tryd.prog w = .ok (valV (0, 0)) w := by kernel_rfl
theorem findNow_place (kv : Value) : ∀ (l : List MapEntry) (i : Nat) (fs : Array Field), Instr.findNow (.struct fs) kv l i = if l = [] then some none else none := by
  intro l i fs
  cases l with
  | nil => rfl
  | cons e r => simp [Instr.findNow, Instr.sameNow]
theorem findKey_place (key : Int × List UInt8) (w : World) (l : List MRow) : (Instr.findKey 67 (keyV key) (ents l 0)).run Tryd.prog w = (Instr.findAsking 67 (keyV key) (ents l 0)).run Tryd.prog w := by
  simp only [Instr.findKey, Sem.run_bind, run_underlying undPlace, Result.andThen_ok, findNow_place]
  cases l with
  | nil => simp [ents, Instr.findAsking]
  | cons m r => simp [ents]
/-- What a look-up tells. -/
theorem lookup_mean (w : World) (b : Nat) (hb : w.heap[b]? = some (mapObj meanL)) (lv : Int) (t : List UInt8) :
    (Instr.lookup 39 (.map (some b)) (.agg #[.int .i64 lv, .string ⟨t.toArray⟩]) false).run Tryd.prog w = .ok (.agg #[.int .i64 (mean lv t).1, .int .i64 (mean lv t).2]) w := by
  have hk := findKey_place (lv, t) w meanL
  unfold keyV at hk
  have hg := MapKept.run_getObj_map (P := Tryd.prog) hb
  simp only [Instr.lookup, Sem.run_bind, run_underlying Tryd.underlying39, Result.andThen_ok, hg, checkPlace, Sem.run_pure, hk]
  cases hf : meanL.find? (fun m => m.1 == (lv, t)) with
  | none =>
    have h1 := find_none (lv, t) w meanL 0 0 hf
    unfold keyV at h1
    rw [h1]
    simp [zeroMean, mean, hf, valV]
  | some m =>
    obtain ⟨k, h1⟩ := find_some (lv, t) w meanL 0 0 m hf
    unfold keyV at h1
    rw [h1]
    simp [mean, hf, valV]
theorem put_mean (w : World) (b : Nat) (l : List MRow) (m : MRow) (hb : w.heap[b]? = some (mapObj l)) (hm : l.find? (fun x => x.1 == m.1) = none) :
    (Instr.mapUpdate 39 (.map (some b)) (keyV m.1) (valV m.2)).run Tryd.prog w = .ok () { w with heap := w.heap.setIfInBounds b (mapObj (l ++ [m])) } := by
  have hk := findKey_place m.1 w l
  have hg := MapKept.run_getObj_map (P := Tryd.prog) hb
  have h1 := find_none m.1 w l 0 0 hm
  have hc : (Instr.checkKey false 10000 67 (keyV m.1)).run Tryd.prog w = .ok () w := checkPlace _ _ _ _
  simp only [Instr.mapUpdate, Sem.run_bind, run_underlying Tryd.underlying39, Result.andThen_ok, hg, hc, Sem.run_pure, hk, h1]
  rw [MapKept.run_setObj_map _ hb]
  simp [mapObj, ents_snoc, ChangeMaps.setBlock]
end Go.Proofs.YtjmemapkipkocaaDoor

/-
  The parser in memory: its tokens, where it is, its first fault; and what it keeps.
-/
namespace Go.Proofs.YtjmemapkipkocaaDoor
open Go.RowKit Go.Maps
set_option linter.unusedVariables false

theorem cellB {w1 : World} {g : Nat} {cs : Array Value} {T : TypeId} (h : w1.heap[g]? = some (.cells cs T (0, 0))) (i : Nat) : w1.cell? ⟨g, i, none⟩ = cs[i]? := cell_of_row w1 g i cs T (0, 0) h
theorem frozB {w1 : World} {g : Nat} {cs : Array Value} {T : TypeId} (h : w1.heap[g]? = some (.cells cs T (0, 0))) (i : Nat) : w1.frozen? ⟨g, i, none⟩ = false := by simp [World.frozen?, h]
def tkC (t : Tok) : List Value := [.int .i64 t.kind, .string ⟨t.text.toArray⟩, .int .i64 t.n, .int .i64 t.pos]
def tksC (l : List Tok) : List Value := l.flatMap tkC
theorem tksC_get : ∀ (l : List Tok) (k : Nat) (j : Nat) (u : Value), k < l.length → (tkC (l.getD k P.eTok))[j]? = some u → (tksC l)[k * 4 + j]? = some u := by
  intro l
  induction l with
  | nil => intro k j u h; exact absurd h (by simp)
  | cons t l ih =>
    intro k j u hk hu
    have hj : j < 4 := by
      have := (List.getElem?_eq_some_iff.1 hu).1
      simpa [tkC] using this
    cases k with
    | zero =>
      simp only [tksC, List.flatMap_cons, Nat.zero_mul, Nat.zero_add]
      rw [List.getElem?_append_left (by simp [tkC]; omega)]
      simpa using hu
    | succ k =>
      simp only [tksC, List.flatMap_cons]
      rw [List.getElem?_append_right (by simp [tkC]; omega)]
      have := ih k j u (by simpa using hk) (by simpa using hu)
      rw [← this]
      congr 1
      simp [tkC]; omega

/-- Where a parser lies: its own block, its tokens' block, and its map's. -/
structure Cx where
  st : TypeId
  g : Nat
  gt : Nat
  cap : Nat
  mb : Nat
  l : List Tok
/-- What holds of it throughout. -/
structure Cx.Ok (c : Cx) : Prop where
  pos : 0 < c.l.length
  le : c.l.length ≤ c.cap
  few : c.l.length ≤ 1000000000
  gt : c.gt ≠ c.g
  mb : c.mb ≠ c.g
  sz : c.g ≠ 2
  last : (c.l.getD (c.l.length - 1) P.eTok).kind = 0
/-- What the table of sizes holds. -/
def sizC : Array Value := #[.string ⟨#[99, 104, 97, 114]⟩, .string ⟨#[115, 104, 111, 114, 116]⟩, .string ⟨#[105, 110, 116]⟩, .string ⟨#[108, 111, 110, 103]⟩]
/-- The parser lies in w, in a state. -/
structure PIn (w : World) (c : Cx) (s : St) : Prop where
  blk : w.heap[c.g]? = some (.cells #[.slice (some ⟨c.gt, 0, none⟩) c.l.length c.cap, .int .i64 s.here, .int .i64 s.err, .int .i64 s.pos, .map (some c.mb)] 42 (0, 0))
  tok : ∃ cur, w.heap[c.gt]? = some (.cells cur 60 (0, 0)) ∧ cur.size = c.cap * 4 ∧ cur.toList.take (c.l.length * 4) = tksC c.l
  lt : s.here < c.l.length
  map : w.heap[c.mb]? = some (mapObj meanL)
  siz : w.heap[2]? = some (.cells sizC c.st (0, 0))
/-- Below the world's own size only the blocks of G may have changed. -/
structure Keeps (G : List Nat) (w w' : World) : Prop where
  os : w'.os = w.os
  tape : w'.tape = w.tape
  output : w'.output = w.output
  size : w.heap.size ≤ w'.heap.size
  block : ∀ k, k < w.heap.size → k ∉ G → w'.heap[k]? = w.heap[k]?
theorem Keeps.of_below {G : List Nat} {w w' : World} (h : Below w.heap.size w w') : Keeps G w w' := ⟨h.os, h.tape, h.output, h.size, fun k hk _ => h.block k hk⟩
theorem Keeps.below {w w' : World} (h : Keeps [] w w') : Below w.heap.size w w' := ⟨h.os, h.tape, h.output, h.size, fun k hk => h.block k hk (by simp)⟩
theorem Keeps.refl (G : List Nat) (w : World) : Keeps G w w := ⟨rfl, rfl, rfl, Nat.le_refl _, fun _ _ _ => rfl⟩
theorem Keeps.trans {G : List Nat} {a b c : World} (h : Keeps G a b) (k : Keeps G b c) : Keeps G a c :=
  ⟨k.os.trans h.os, k.tape.trans h.tape, k.output.trans h.output, Nat.le_trans h.size k.size, fun i hi hg => (k.block i (Nat.lt_of_lt_of_le hi h.size) hg).trans (h.block i hi hg)⟩
theorem lt_of_blk {w : World} {k : Nat} {o : Obj} (h : w.heap[k]? = some o) : k < w.heap.size := by
  rcases Nat.lt_or_ge k w.heap.size with h1 | h1
  · exact h1
  · rw [Array.getElem?_eq_none h1] at h; cases h
def tokV (t : Tok) : Value := .agg #[.int .i64 t.kind, .string ⟨t.text.toArray⟩, .int .i64 t.n, .int .i64 t.pos]
theorem PIn.cells {w : World} {c : Cx} {s : St} (h : PIn w c s) : w.cell? ⟨c.g, 0, none⟩ = some (.slice (some ⟨c.gt, 0, none⟩) c.l.length c.cap) ∧ w.cell? ⟨c.g, 1, none⟩ = some (.int .i64 s.here) ∧
    w.cell? ⟨c.g, 2, none⟩ = some (.int .i64 s.err) ∧ w.cell? ⟨c.g, 3, none⟩ = some (.int .i64 s.pos) ∧ w.cell? ⟨c.g, 4, none⟩ = some (.map (some c.mb)) := by
  refine ⟨?_, ?_, ?_, ?_, ?_⟩ <;> rw [cellB h.blk] <;> rfl
theorem PIn.tokAt {w : World} {c : Cx} {s : St} (h : PIn w c s) (k : Nat) (hk : k < c.l.length) :
    w.cell? ⟨c.gt, k * 4, none⟩ = some (.int .i64 (c.l.getD k P.eTok).kind) ∧ w.cell? ⟨c.gt, k * 4 + 1, none⟩ = some (.string ⟨(c.l.getD k P.eTok).text.toArray⟩) ∧
    w.cell? ⟨c.gt, k * 4 + 2, none⟩ = some (.int .i64 (c.l.getD k P.eTok).n) ∧ w.cell? ⟨c.gt, k * 4 + 3, none⟩ = some (.int .i64 (c.l.getD k P.eTok).pos) := by
  obtain ⟨cur, hb, hs, ht⟩ := h.tok
  have key : ∀ j u, j < 4 → (tkC (c.l.getD k P.eTok))[j]? = some u → w.cell? ⟨c.gt, k * 4 + j, none⟩ = some u := by
    intro j u hj hu
    rw [cellB hb, ← Array.getElem?_toList]
    have h1 : (cur.toList.take (c.l.length * 4))[k * 4 + j]? = some u := by
      rw [ht]
      exact tksC_get c.l k j u hk hu
    rw [List.getElem?_take] at h1
    split at h1
    · exact h1
    · cases h1
  exact ⟨key 0 _ (by omega) rfl, key 1 _ (by omega) rfl, key 2 _ (by omega) rfl, key 3 _ (by omega) rfl⟩
theorem PIn.keep {w w' : World} {c : Cx} {s : St} (h : PIn w c s) (k : Keeps [] w w') : PIn w' c s := by
  obtain ⟨cur, hb, hs, ht⟩ := h.tok
  exact ⟨(k.block _ (lt_of_blk h.blk) (by simp)).trans h.blk, ⟨cur, (k.block _ (lt_of_blk hb) (by simp)).trans hb, hs, ht⟩, h.lt, (k.block _ (lt_of_blk h.map) (by simp)).trans h.map, (k.block _ (lt_of_blk h.siz) (by simp)).trans h.siz⟩
theorem Keeps.alloc {G : List Nat} {w w' : World} (h : Keeps G w w') (o : Obj) : Keeps G w (w'.alloc o) :=
  ⟨h.os, h.tape, h.output, by have := h.size; rw [World.size_alloc]; omega, fun k hk hg => by
    have h1 := h.block k hk hg
    rw [← h1]
    show (w'.heap.push o)[k]? = _
    rw [Array.getElem?_push, if_neg (by have := h.size; omega)]⟩
theorem Keeps.drew {G : List Nat} {w w' : World} (h : Keeps G w w') : Keeps G w w'.drew := ⟨h.os, h.tape, h.output, h.size, h.block⟩
theorem Keeps.drewN {G : List Nat} {w w' : World} (h : Keeps G w w') (n : Nat) : Keeps G w (w'.drewN n) := ⟨h.os, h.tape, h.output, h.size, h.block⟩
/-- A store into a block of G, or into a new one. -/
theorem Keeps.setCell {G : List Nat} {w w' : World} (h : Keeps G w w') (a : Addr) (ha : w.heap.size ≤ a.block ∨ a.block ∈ G) (v : Value) : Keeps G w (w'.setCell a v) :=
  ⟨h.os, h.tape, h.output, by have := h.size; rw [World.size_setCell]; omega, fun k hk hg => by
    rw [← h.block k hk hg]
    refine Below.heap_setCell w' a v k ?_
    rintro rfl
    rcases ha with ha | ha
    · omega
    · exact hg ha⟩
theorem Keeps.mono {G H : List Nat} {w w' : World} (h : Keeps G w w') (hh : ∀ k ∈ G, k ∈ H) : Keeps H w w' := ⟨h.os, h.tape, h.output, h.size, fun k hk hg => h.block k hk (fun x => hg (hh k x))⟩
theorem Keeps.empty {G : List Nat} {w w' : World} (h : Keeps [] w w') : Keeps G w w' := h.mono (by simp)
/-- What a walk keeps, step by step of its worlds. -/
theorem Keeps.au {G : List Nat} {w w' : World} (h : Keeps G w w' := by repeat (first | with_reducible exact Keeps.refl _ _ | with_reducible refine Keeps.alloc ?_ _ | with_reducible refine Keeps.drew ?_ | with_reducible refine Keeps.drewN ?_ _ | with_reducible refine Keeps.setCell ?_ _ ?_ _ | exact Or.inr (List.Mem.head _) | exact Or.inr (List.Mem.tail _ (List.Mem.head _)) | exact Or.inr (List.Mem.tail _ (List.Mem.tail _ (List.Mem.head _))) | exact Or.inr (List.Mem.tail _ (List.Mem.tail _ (List.Mem.tail _ (List.Mem.head _)))) | exact Or.inr (List.Mem.tail _ (List.Mem.tail _ (List.Mem.tail _ (List.Mem.tail _ (List.Mem.head _))))) | exact Or.inr (List.Mem.tail _ (List.Mem.tail _ (List.Mem.tail _ (List.Mem.tail _ (List.Mem.tail _ (List.Mem.head _)))))) | exact Or.inr (List.Mem.tail _ (List.Mem.tail _ (List.Mem.tail _ (List.Mem.tail _ (List.Mem.tail _ (List.Mem.tail _ (List.Mem.head _))))))) | (left; dsimp only; omega))) : Keeps G w w' := h
/-- What a part of a walk keeps is kept by the walk, if it writes into new blocks besides. -/
theorem Keeps.then_ {G H : List Nat} {a b c : World} (h : Keeps G a b) (k : Keeps H b c) (hh : ∀ x ∈ H, x ∈ G ∨ a.heap.size ≤ x) : Keeps G a c :=
  ⟨k.os.trans h.os, k.tape.trans h.tape, k.output.trans h.output, Nat.le_trans h.size k.size, fun i hi hg => (k.block i (Nat.lt_of_lt_of_le hi h.size) (fun hx => by
    rcases hh i hx with h1 | h1
    · exact hg h1
    · omega)).trans (h.block i hi hg)⟩
theorem PIn.alloc {w : World} {c : Cx} {s : St} (h : PIn w c s) (o : Obj) : PIn (w.alloc o) c s := h.keep ((Keeps.refl _ _).alloc o)
theorem PIn.drew {w : World} {c : Cx} {s : St} (h : PIn w c s) : PIn w.drew c s := h.keep (Keeps.refl _ _).drew
theorem PIn.drewN {w : World} {c : Cx} {s : St} (h : PIn w c s) (n : Nat) : PIn (w.drewN n) c s := h.keep ((Keeps.refl _ _).drewN n)
/-- A store elsewhere. -/
theorem PIn.setCell {w : World} {c : Cx} {s : St} (h : PIn w c s) (a : Addr) (v : Value) (h1 : a.block ≠ c.g) (h2 : a.block ≠ c.gt) (h3 : a.block ≠ c.mb) (h4 : a.block ≠ 2) : PIn (w.setCell a v) c s := by
  obtain ⟨cur, hb, hs, ht⟩ := h.tok
  exact ⟨(Below.heap_setCell w a v _ (fun e => h1 e.symm)).trans h.blk, ⟨cur, (Below.heap_setCell w a v _ (fun e => h2 e.symm)).trans hb, hs, ht⟩, h.lt, (Below.heap_setCell w a v _ (fun e => h3 e.symm)).trans h.map, (Below.heap_setCell w a v _ (fun e => h4 e.symm)).trans h.siz⟩
/-- What a call does that returns v. -/
def Does (c : Cx) (s' : St) (v : Value) (w : World) (e : Ending) (w' : World) : Prop := e = .returned v ∧ PIn w' c s' ∧ Keeps [c.g] w w'
theorem Keeps.own {G : List Nat} {w w' : World} (h : Keeps G w w') (b : Nat) (hb : b < w.heap.size) (hg : b ∉ G) :
    (∀ i, w'.cell? ⟨b, i, none⟩ = w.cell? ⟨b, i, none⟩) ∧ (∀ i, w'.frozen? ⟨b, i, none⟩ = w.frozen? ⟨b, i, none⟩) := by
  have e := h.block b hb hg
  exact ⟨fun i => by simp [World.cell?, e], fun i => by simp [World.frozen?, e]⟩
/-- How far a walk has come that began in w: the parser is in s, and nothing else has changed. -/
structure Now (c : Cx) (w : World) (s : St) (W : World) : Prop where
  pin : PIn W c s
  kp : Keeps [c.g] w W
  g : c.g < w.heap.size
  gt : c.gt < w.heap.size
  mb : c.mb < w.heap.size
  sz : 2 < w.heap.size
theorem Now.start {c : Cx} {w : World} {s : St} (h : PIn w c s) : Now c w s w := ⟨h, Keeps.refl _ _, lt_of_blk h.blk, lt_of_blk h.tok.choose_spec.1, lt_of_blk h.map, lt_of_blk h.siz⟩
section
variable {c : Cx} {w W : World} {s s' : St}
theorem Now.alloc (h : Now c w s W) (o : Obj) : Now c w s (W.alloc o) := ⟨h.pin.alloc o, h.kp.alloc o, h.g, h.gt, h.mb, h.sz⟩
theorem Now.drew (h : Now c w s W) : Now c w s W.drew := ⟨h.pin.drew, h.kp.drew, h.g, h.gt, h.mb, h.sz⟩
theorem Now.drewN (h : Now c w s W) (n : Nat) : Now c w s (W.drewN n) := ⟨h.pin.drewN n, h.kp.drewN n, h.g, h.gt, h.mb, h.sz⟩
theorem Now.setCell (h : Now c w s W) (a : Addr) (v : Value) (ha : w.heap.size ≤ a.block) : Now c w s (W.setCell a v) :=
  ⟨h.pin.setCell a v (by have := h.g; omega) (by have := h.gt; omega) (by have := h.mb; omega) (by have := h.sz; omega), h.kp.setCell a (.inl ha) v, h.g, h.gt, h.mb, h.sz⟩
theorem Now.call (h : Now c w s W) {W' : World} (h1 : PIn W' c s') (h2 : Keeps [c.g] W W') : Now c w s' W' := ⟨h1, h.kp.trans h2, h.g, h.gt, h.mb, h.sz⟩
theorem Now.fin {v : Value} (h : Now c w s W) : Does c s v w (.returned v) W := ⟨rfl, h.pin, h.kp⟩
end
/-- Block b holds these cells. -/
structure OwnB (w : World) (b : Nat) (cs : Array Value) (T : TypeId) : Prop where
  blk : w.heap[b]? = some (.cells cs T (0, 0))
section
variable {w w' : World} {b : Nat} {cs : Array Value} {T : TypeId} {G : List Nat}
theorem OwnB.new (hb : b = w.heap.size) : OwnB (w.alloc (.cells cs T (0, 0))) b cs T := by subst hb; exact ⟨by show (w.heap.push _)[w.heap.size]? = _; simp⟩
theorem OwnB.alloc (h : OwnB w b cs T) (o : Obj) : OwnB (w.alloc o) b cs T := ⟨(((Keeps.refl [] w).alloc o).block b (lt_of_blk h.blk) (by simp)).trans h.blk⟩
theorem OwnB.drew (h : OwnB w b cs T) : OwnB w.drew b cs T := ⟨h.blk⟩
theorem OwnB.drewN (h : OwnB w b cs T) (n : Nat) : OwnB (w.drewN n) b cs T := ⟨h.blk⟩
theorem OwnB.setCell (h : OwnB w b cs T) (a : Addr) (v : Value) (hne : a.block ≠ b) : OwnB (w.setCell a v) b cs T := ⟨(Below.heap_setCell w a v b (fun e => hne e.symm)).trans h.blk⟩
theorem OwnB.call (h : OwnB w b cs T) (k : Keeps G w w') (hg : b ∉ G) : OwnB w' b cs T := ⟨(k.block b (lt_of_blk h.blk) hg).trans h.blk⟩
theorem OwnB.facts (h : OwnB w b cs T) : (∀ i, w.cell? ⟨b, i, none⟩ = cs[i]?) ∧ (∀ i, w.frozen? ⟨b, i, none⟩ = false) ∧ b < w.heap.size := ⟨cellB h.blk, frozB h.blk, lt_of_blk h.blk⟩
end
abbrev pv (c : Cx) : Value := .pointer (some ⟨c.g, 0, none⟩)
/-- An own block, through a walk's steps. -/
theorem OwnB.au {w : World} {b : Nat} {cs : Array Value} {T : TypeId} (h : OwnB w b cs T := by repeat (first | with_reducible assumption | (with_reducible refine OwnB.new ?_; (first | with_reducible rfl | (simp only [World.size_alloc, World.size_setCell, World.size_drew, World.heap_drewN]; done) | (simp only [World.size_alloc, World.size_setCell, World.size_drew, World.heap_drewN]; omega))) | with_reducible refine OwnB.alloc ?_ _ | with_reducible refine OwnB.drew ?_ | with_reducible refine OwnB.drewN ?_ _ | with_reducible refine OwnB.setCell ?_ _ _ ?_ | (dsimp only; omega) | omega)) : OwnB w b cs T := h
end Go.Proofs.YtjmemapkipkocaaDoor

/-
  The parser's own words: the next token, passing it, the first fault.
-/
namespace Go.Proofs.YtjmemapkipkocaaDoor
open Go.RowKit Go.Maps
set_option linter.unusedVariables false

theorem wrapJ {x : Int} (h1 : -9223372036854775808 ≤ x) (h2 : x ≤ 9223372036854775807) : wrap64 x = x := by unfold wrap64; omega
theorem wrapI {x : Int} (h1 : -9223372036854775808 ≤ x) (h2 : x ≤ 9223372036854775807) : IntKind.i64.wrap x = x := by rw [IntKind.wrap_i64]; omega
theorem tok_field0 (k : Int) (t : ByteArray) (n p : Int) (w : World) : (Instr.field 60 (.agg #[.int .i64 k, .string t, .int .i64 n, .int .i64 p]) 0).run Tryd.prog w = .ok (.int .i64 k) w := by kernel_rfl
theorem tok_field1 (k : Int) (t : ByteArray) (n p : Int) (w : World) : (Instr.field 60 (.agg #[.int .i64 k, .string t, .int .i64 n, .int .i64 p]) 1).run Tryd.prog w = .ok (.string t) w := by kernel_rfl
theorem tok_field2 (k : Int) (t : ByteArray) (n p : Int) (w : World) : (Instr.field 60 (.agg #[.int .i64 k, .string t, .int .i64 n, .int .i64 p]) 2).run Tryd.prog w = .ok (.int .i64 n) w := by kernel_rfl
theorem tok_field3 (k : Int) (t : ByteArray) (n p : Int) (w : World) : (Instr.field 60 (.agg #[.int .i64 k, .string t, .int .i64 n, .int .i64 p]) 3).run Tryd.prog w = .ok (.int .i64 p) w := by kernel_rfl
theorem tokens_at (w : World) (c : Cx) (s : St) (h : PIn w c s) : w.cell? ⟨c.gt, s.here * 4, none⟩ = some (.int .i64 (P.tok c.l s).kind) ∧ w.cell? ⟨c.gt, s.here * 4 + 1, none⟩ = some (.string ⟨(P.tok c.l s).text.toArray⟩) ∧
    w.cell? ⟨c.gt, s.here * 4 + 2, none⟩ = some (.int .i64 (P.tok c.l s).n) ∧ w.cell? ⟨c.gt, s.here * 4 + 3, none⟩ = some (.int .i64 (P.tok c.l s).pos) := h.tokAt s.here h.lt
set_option maxRecDepth 100000 in
theorem token_any (c : Cx) (hc : c.Ok) (s : St) (w : World) (h : PIn w c s) :
    Calls Tryd.prog 22 #[pv c] w (Does c s (.agg #[.int .i64 (P.tok c.l s).kind, .string ⟨(P.tok c.l s).text.toArray⟩, .int .i64 (P.tok c.l s).n, .int .i64 (P.tok c.l s).pos]) w) := by
  obtain ⟨c0, c1, c2, c3, c4⟩ := h.cells
  obtain ⟨t0, t1, t2, t3⟩ := tokens_at w c s h
  have hi0 : (0 : Int) ≤ (s.here : Int) := by omega
  have hi1 : (s.here : Int) < (c.l.length : Int) := by have := h.lt; omega
  have hg := lt_of_blk h.blk
  have hgt := lt_of_blk h.tok.choose_spec.1
  have HP := Lib.hid h
  clear h
  unfold pv
  go_enter Tryd.func22, Tryd.ntmps22
  go_wp2_with fail
  go_region
  go_wp2_with fail
  refine bodyPost_ret (v := (.agg #[.int .i64 (P.tok c.l s).kind, .string ⟨(P.tok c.l s).text.toArray⟩, .int .i64 (P.tok c.l s).n, .int .i64 (P.tok c.l s).pos])) (by simp [results, Tryd.results22, go_sem]) rfl ⟨rfl, ?_⟩
  exact ⟨(HP.out.alloc _).drew, ((Keeps.refl _ _).alloc _).drew⟩
set_option maxRecDepth 100000 in
theorem second_any (c : Cx) (hc : c.Ok) (s : St) (w : World) (h : PIn w c s) :
    Calls Tryd.prog 65 #[pv c] w (Does c s (.agg #[.int .i64 (P.snd c.l s).kind, .string ⟨(P.snd c.l s).text.toArray⟩, .int .i64 (P.snd c.l s).n, .int .i64 (P.snd c.l s).pos]) w) := by
  obtain ⟨c0, c1, c2, c3, c4⟩ := h.cells
  obtain ⟨k, hk⟩ : ∃ k, k = min (s.here + 1) (c.l.length - 1) := ⟨_, rfl⟩
  have hp := hc.pos
  have hq := hc.le
  have hr := hc.few
  have hlt := h.lt
  have hkl : k < c.l.length := by omega
  obtain ⟨t0, t1, t2, t3⟩ := h.tokAt k hkl
  have e : c.l.getD k P.eTok = P.snd c.l s := by rw [hk]; rfl
  rw [e] at t0 t1 t2 t3
  have hi0 : (0 : Int) ≤ (k : Int) := by omega
  have hi1 : (k : Int) < (c.l.length : Int) := by omega
  have hif : (if IntKind.i64.wrap ((c.l.length : Int) - 1) < IntKind.i64.wrap ((s.here : Int) + 1) then IntKind.i64.wrap ((c.l.length : Int) - 1) else IntKind.i64.wrap ((s.here : Int) + 1)) = (k : Int) := by
    rw [wrapI (by omega) (by omega), wrapI (by omega) (by omega)]
    split <;> omega
  have hif2 : (if wrap64 ((c.l.length : Int) - 1) < wrap64 ((s.here : Int) + 1) then wrap64 ((c.l.length : Int) - 1) else wrap64 ((s.here : Int) + 1)) = (k : Int) := by
    rw [wrapJ (by omega) (by omega), wrapJ (by omega) (by omega)]
    split <;> omega
  have hg := lt_of_blk h.blk
  have hgt := lt_of_blk h.tok.choose_spec.1
  have HP := Lib.hid h
  clear h hk e hlt hp hq hr hkl
  unfold pv
  go_enter Tryd.func65, Tryd.ntmps65
  go_wp2_with fail
  go_region
  go_wp2_with fail
  refine bodyPost_ret (v := (.agg #[.int .i64 (P.snd c.l s).kind, .string ⟨(P.snd c.l s).text.toArray⟩, .int .i64 (P.snd c.l s).n, .int .i64 (P.snd c.l s).pos])) (by simp [results, Tryd.results65, go_sem]) rfl ⟨rfl, ?_⟩
  exact ⟨(HP.out.alloc _).drew, ((Keeps.refl _ _).alloc _).drew⟩
end Go.Proofs.YtjmemapkipkocaaDoor

/-
  The parser's own words, which go on: next, fail, is, accept, need, kind.
-/
namespace Go.Proofs.YtjmemapkipkocaaDoor
open Go.RowKit Go.Maps
set_option linter.unusedVariables false
set_option linter.unusedSimpArgs false

theorem blk_set {w : World} {g : Nat} {cs : Array Value} {T : TypeId} (h : w.heap[g]? = some (.cells cs T (0, 0))) (i : Nat) (u : Value) : (w.setCell ⟨g, i, none⟩ u).heap[g]? = some (.cells (cs.setIfInBounds i u) T (0, 0)) := by
  simp [World.setCell, Array.getElem?_modify, h]
theorem Now.at_ {w W : World} {c : Cx} {s : St} (hc : c.Ok) (h : Now c w s W) (k : Nat) (hk : k < c.l.length) (x : Int) (hx : x = k) : Now c w { s with here := k } (W.setCell ⟨c.g, 1, none⟩ (.int .i64 x)) := by
  subst hx
  obtain ⟨cur, hb, hs, ht⟩ := h.pin.tok
  exact ⟨⟨blk_set h.pin.blk _ _, ⟨cur, (Below.heap_setCell W _ _ _ hc.gt).trans hb, hs, ht⟩, hk, (Below.heap_setCell W _ _ _ hc.mb).trans h.pin.map, (Below.heap_setCell W _ _ _ hc.sz.symm).trans h.pin.siz⟩, h.kp.setCell _ (.inr (by simp)) _, h.g, h.gt, h.mb, h.sz⟩
theorem Now.err_ {w W : World} {c : Cx} {s : St} (hc : c.Ok) (h : Now c w s W) (e p : Int) : Now c w { s with err := e, pos := p } ((W.setCell ⟨c.g, 2, none⟩ (.int .i64 e)).setCell ⟨c.g, 3, none⟩ (.int .i64 p)) := by
  obtain ⟨cur, hb, hs, ht⟩ := h.pin.tok
  exact ⟨⟨blk_set (blk_set h.pin.blk _ _) _ _, ⟨cur, (Below.heap_setCell _ _ _ _ hc.gt).trans ((Below.heap_setCell W _ _ _ hc.gt).trans hb), hs, ht⟩, h.pin.lt, (Below.heap_setCell _ _ _ _ hc.mb).trans ((Below.heap_setCell W _ _ _ hc.mb).trans h.pin.map), (Below.heap_setCell _ _ _ _ hc.sz.symm).trans ((Below.heap_setCell W _ _ _ hc.sz.symm).trans h.pin.siz)⟩, (h.kp.setCell _ (.inr (by simp)) _).setCell _ (.inr (by simp)) _, h.g, h.gt, h.mb, h.sz⟩
theorem next_lt (c : Cx) (hc : c.Ok) (s : St) (h : s.here < c.l.length) (hk : ¬ (P.tok c.l s).kind = 0) : s.here + 1 < c.l.length := by
  rcases Nat.lt_or_ge (s.here + 1) c.l.length with h1 | h1
  · exact h1
  · have : s.here = c.l.length - 1 := by omega
    exact absurd (by have := hc.last; rw [P.tok, ‹s.here = _›]; exact this) hk
set_option maxRecDepth 100000 in
theorem next_any (c : Cx) (hc : c.Ok) (s : St) (w : World) (h : PIn w c s) :
    Calls Tryd.prog 51 #[pv c] w (Does c (P.next c.l s) (.agg #[.int .i64 (P.tok c.l s).kind, .string ⟨(P.tok c.l s).text.toArray⟩, .int .i64 (P.tok c.l s).n, .int .i64 (P.tok c.l s).pos]) w) := by
  have hs1 : s.here < 1000000000 := by have := h.lt; have := hc.le; have := hc.few; omega
  have hw : wrap64 ((s.here : Int) + 1) = ((s.here + 1 : Nat) : Int) := by rw [wrapJ (by omega) (by omega)]; omega
  have HN := Lib.hid (Now.start h)
  have hg := HN.out.g
  have hgt := HN.out.gt
  have CT := fun W H => Lib.hid (token_any c hc s W H)
  have HL := Lib.hid h.lt
  clear h
  unfold pv
  by_cases hk : (P.tok c.l s).kind = 0
  · have hk1 : ((P.tok c.l s).kind != 0) = false := by simp [hk]
    have e : P.next c.l s = s := by rw [P.next, if_pos hk]
    rw [e]
    clear hk e
    go_enter Tryd.func51, Tryd.ntmps51
    go_wp2_with fail
    refine (CT _ (Now.pin (w := w) (by repeat (first | with_reducible exact HN.out | with_reducible refine Now.alloc ?_ _ | with_reducible refine Now.drew ?_ | with_reducible refine Now.drewN ?_ _ | with_reducible refine Now.setCell ?_ _ _ ?_ | (dsimp only; omega) | omega)))).out.mono ?_
    rintro e w1 ⟨rfl, hP, hK⟩
    have hz_w1 := hK.size
    try simp only [World.size_alloc, World.size_setCell, World.size_drew, World.heap_drewN] at hz_w1
    have O_w1_0 : OwnB w1 (w.heap.size) #[.int .i64 0, .string ⟨#[]⟩, .int .i64 0, .int .i64 0] 60 := OwnB.call OwnB.au hK (by simp only [List.mem_singleton]; omega)
    obtain ⟨y_w1_0, x_w1_0, b_w1_0⟩ := O_w1_0.facts
    have HN1 := Lib.hid (Now.call (w := w) (s := s) (by repeat (first | with_reducible exact HN.out | with_reducible refine Now.alloc ?_ _ | with_reducible refine Now.drew ?_ | with_reducible refine Now.drewN ?_ _ | with_reducible refine Now.setCell ?_ _ _ ?_ | (dsimp only; omega) | omega)) hP hK)
    clear hP hK
    go_wp2_with fail
    refine bodyPost_ret (v := (.agg #[.int .i64 (P.tok c.l s).kind, .string ⟨(P.tok c.l s).text.toArray⟩, .int .i64 (P.tok c.l s).n, .int .i64 (P.tok c.l s).pos])) (by simp [results, Tryd.results51, go_sem, *]) rfl ?_
    exact Now.fin (by repeat (first | with_reducible exact HN1.out | with_reducible refine Now.alloc ?_ _ | with_reducible refine Now.drew ?_ | with_reducible refine Now.drewN ?_ _ | with_reducible refine Now.setCell ?_ _ _ ?_ | (dsimp only; omega) | omega))
  · have hk1 : ((P.tok c.l s).kind != 0) = true := by simp [hk]
    have e : P.next c.l s = { s with here := s.here + 1 } := by rw [P.next, if_neg hk]
    have hl2 := next_lt c hc s HL.out hk
    have HL2 := Lib.hid hl2
    rw [e]
    clear hk e hl2
    go_enter Tryd.func51, Tryd.ntmps51
    go_wp2_with fail
    refine (CT _ (Now.pin (w := w) (by repeat (first | with_reducible exact HN.out | with_reducible refine Now.alloc ?_ _ | with_reducible refine Now.drew ?_ | with_reducible refine Now.drewN ?_ _ | with_reducible refine Now.setCell ?_ _ _ ?_ | (dsimp only; omega) | omega)))).out.mono ?_
    rintro e w1 ⟨rfl, hP, hK⟩
    obtain ⟨y1, x1⟩ := hK.own w.heap.size (by simp) (by simp only [List.mem_singleton]; omega)
    have hz := hK.size
    simp only [World.size_alloc] at hz
    obtain ⟨c0, c1, c2, c3, c4⟩ := hP.cells
    have f1 := frozB hP.blk 1
    have g1 : c.g < w1.heap.size := by omega
    have g2 : w.heap.size < w1.heap.size := by omega
    have HN1 := Lib.hid (Now.call (w := w) (s := s) (by repeat (first | with_reducible exact HN.out | with_reducible refine Now.alloc ?_ _ | with_reducible refine Now.drew ?_ | with_reducible refine Now.drewN ?_ _ | with_reducible refine Now.setCell ?_ _ _ ?_ | (dsimp only; omega) | omega)) hP hK)
    clear hP hK
    go_wp2_with fail
    refine bodyPost_ret (v := (.agg #[.int .i64 (P.tok c.l s).kind, .string ⟨(P.tok c.l s).text.toArray⟩, .int .i64 (P.tok c.l s).n, .int .i64 (P.tok c.l s).pos])) (by simp [results, Tryd.results51, go_sem, *]) rfl ?_
    refine Now.fin (Now.alloc (Now.setCell (Now.setCell (Now.setCell (Now.setCell ?_ _ _ (by dsimp only; omega)) _ _ (by dsimp only; omega)) _ _ (by dsimp only; omega)) _ _ (by dsimp only; omega)) _)
    exact Now.at_ hc HN1.out _ HL2.out _ (by omega)
set_option maxRecDepth 100000 in
theorem fail_any (c : Cx) (hc : c.Ok) (s : St) (w : World) (h : PIn w c s) (er p : Int) :
    Calls Tryd.prog 40 #[pv c, .int .i64 er, .int .i64 p] w (Does c (P.fail c.l er p s) (.tuple #[]) w) := by
  have hp := hc.pos
  have hlen : c.l.length < 2000000000 := by have := hc.le; have := hc.few; omega
  have hw : wrap64 ((c.l.length : Int) - 1) = ((c.l.length - 1 : Nat) : Int) := by rw [wrapJ (by omega) (by omega)]; omega
  have HN := Lib.hid (Now.start h)
  have hg := HN.out.g
  have hgt := HN.out.gt
  obtain ⟨c0, c1, c2, c3, c4⟩ := h.cells
  have f1 := frozB h.blk 1
  have f2 := frozB h.blk 2
  have f3 := frozB h.blk 3
  clear h
  unfold pv
  by_cases hk : s.err = 0
  · have hk1 : (s.err == 0) = true := by simp [hk]
    have e : P.fail c.l er p s = { { s with err := er, pos := p } with here := c.l.length - 1 } := by simp [P.fail, hk]
    rw [e]
    clear hk e
    go_enter Tryd.func40, Tryd.ntmps40
    go_wp2_with fail
    go_end0
    exact Now.fin (Now.at_ hc (Now.err_ hc HN.out _ _) _ (by omega) _ (by omega))
  · have hk1 : (s.err == 0) = false := by simp [hk]
    have e : P.fail c.l er p s = { s with here := c.l.length - 1 } := by simp [P.fail, hk]
    rw [e]
    clear hk e
    go_enter Tryd.func40, Tryd.ntmps40
    go_wp2_with fail
    go_end0
    exact Now.fin (Now.at_ hc HN.out _ (by omega) _ (by omega))
set_option maxRecDepth 100000 in
theorem is_any (c : Cx) (hc : c.Ok) (s : St) (w : World) (h : PIn w c s) (t : List UInt8) :
    Calls Tryd.prog 39 #[pv c, .string ⟨t.toArray⟩] w (Does c s (.bool (P.is c.l t s)) w) := by
  have HN := Lib.hid (Now.start h)
  have hg := HN.out.g
  have hgt := HN.out.gt
  have CT := fun W H => Lib.hid (token_any c hc s W H)
  clear h
  unfold pv
  have tk0 := tok_field0
  have tk1 := tok_field1
  have tk2 := tok_field2
  have tk3 := tok_field3
  go_enter Tryd.func39, Tryd.ntmps39
  go_wp2_with fail
  refine (CT _ (Now.pin (w := w) (by repeat (first | with_reducible exact HN.out | with_reducible refine Now.alloc ?_ _ | with_reducible refine Now.drew ?_ | with_reducible refine Now.drewN ?_ _ | with_reducible refine Now.setCell ?_ _ _ ?_ | (dsimp only; omega) | omega)))).out.mono ?_
  rintro e w1 ⟨rfl, hP, hK⟩
  have hz_w1 := hK.size
  try simp only [World.size_alloc, World.size_setCell, World.size_drew, World.heap_drewN] at hz_w1
  have HN1 := Lib.hid (Now.call (w := w) (s := s) (by repeat (first | with_reducible exact HN.out | with_reducible refine Now.alloc ?_ _ | with_reducible refine Now.drew ?_ | with_reducible refine Now.drewN ?_ _ | with_reducible refine Now.setCell ?_ _ _ ?_ | (dsimp only; omega) | omega)) hP hK)
  clear hP hK
  go_wp2_with fail
  go_ret
  exact Now.fin (by repeat (first | with_reducible exact HN1.out | with_reducible refine Now.alloc ?_ _ | with_reducible refine Now.drew ?_ | with_reducible refine Now.drewN ?_ _ | with_reducible refine Now.setCell ?_ _ _ ?_ | (dsimp only; omega) | omega))
set_option maxRecDepth 100000 in
theorem accept_any (c : Cx) (hc : c.Ok) (s : St) (w : World) (h : PIn w c s) (t : List UInt8) :
    Calls Tryd.prog 56 #[pv c, .string ⟨t.toArray⟩] w (Does c (P.acc c.l t s) (.bool (P.is c.l t s)) w) := by
  have HN := Lib.hid (Now.start h)
  have hg := HN.out.g
  have CI := fun W H => Lib.hid (is_any c hc s W H t)
  have CX := fun W H => Lib.hid (next_any c hc s W H)
  clear h
  unfold pv
  cases hk : P.is c.l t s with
  | false =>
    have e : P.acc c.l t s = s := by simp [P.acc, hk]
    rw [e]
    rw [hk] at CI
    clear hk e
    go_enter Tryd.func56, Tryd.ntmps56
    go_wp2_with fail
    refine (CI _ (Now.pin (w := w) (by repeat (first | with_reducible exact HN.out | with_reducible refine Now.alloc ?_ _ | with_reducible refine Now.drew ?_ | with_reducible refine Now.drewN ?_ _ | with_reducible refine Now.setCell ?_ _ _ ?_ | (dsimp only; omega) | omega)))).out.mono ?_
    rintro e w1 ⟨rfl, hP, hK⟩
    have hz_w1 := hK.size
    try simp only [World.size_alloc, World.size_setCell, World.size_drew, World.heap_drewN] at hz_w1
    have HN1 := Lib.hid (Now.call (w := w) (s := s) (by repeat (first | with_reducible exact HN.out | with_reducible refine Now.alloc ?_ _ | with_reducible refine Now.drew ?_ | with_reducible refine Now.drewN ?_ _ | with_reducible refine Now.setCell ?_ _ _ ?_ | (dsimp only; omega) | omega)) hP hK)
    clear hP hK
    go_wp2_with fail
    go_ret
    exact Now.fin (by repeat (first | with_reducible exact HN1.out | with_reducible refine Now.alloc ?_ _ | with_reducible refine Now.drew ?_ | with_reducible refine Now.drewN ?_ _ | with_reducible refine Now.setCell ?_ _ _ ?_ | (dsimp only; omega) | omega))
  | true =>
    have e : P.acc c.l t s = P.next c.l s := by simp [P.acc, hk]
    rw [e]
    rw [hk] at CI
    clear hk e
    go_enter Tryd.func56, Tryd.ntmps56
    go_wp2_with fail
    refine (CI _ (Now.pin (w := w) (by repeat (first | with_reducible exact HN.out | with_reducible refine Now.alloc ?_ _ | with_reducible refine Now.drew ?_ | with_reducible refine Now.drewN ?_ _ | with_reducible refine Now.setCell ?_ _ _ ?_ | (dsimp only; omega) | omega)))).out.mono ?_
    rintro e w1 ⟨rfl, hP, hK⟩
    have hz_w1 := hK.size
    try simp only [World.size_alloc, World.size_setCell, World.size_drew, World.heap_drewN] at hz_w1
    have HN1 := Lib.hid (Now.call (w := w) (s := s) (by repeat (first | with_reducible exact HN.out | with_reducible refine Now.alloc ?_ _ | with_reducible refine Now.drew ?_ | with_reducible refine Now.drewN ?_ _ | with_reducible refine Now.setCell ?_ _ _ ?_ | (dsimp only; omega) | omega)) hP hK)
    clear hP hK
    go_wp2_with fail
    refine (CX _ (Now.pin (w := w) (by repeat (first | with_reducible exact HN1.out | with_reducible refine Now.alloc ?_ _ | with_reducible refine Now.drew ?_ | with_reducible refine Now.drewN ?_ _ | with_reducible refine Now.setCell ?_ _ _ ?_ | (dsimp only; omega) | omega)))).out.mono ?_
    rintro e w2 ⟨rfl, hP, hK⟩
    have hz_w2 := hK.size
    try simp only [World.size_alloc, World.size_setCell, World.size_drew, World.heap_drewN] at hz_w2
    have HN2 := Lib.hid (Now.call (w := w) (s := s) (by repeat (first | with_reducible exact HN1.out | with_reducible refine Now.alloc ?_ _ | with_reducible refine Now.drew ?_ | with_reducible refine Now.drewN ?_ _ | with_reducible refine Now.setCell ?_ _ _ ?_ | (dsimp only; omega) | omega)) hP hK)
    clear hP hK
    go_wp2_with fail
    go_ret
    exact Now.fin (by repeat (first | with_reducible exact HN2.out | with_reducible refine Now.alloc ?_ _ | with_reducible refine Now.drew ?_ | with_reducible refine Now.drewN ?_ _ | with_reducible refine Now.setCell ?_ _ _ ?_ | (dsimp only; omega) | omega))
set_option maxRecDepth 100000 in
theorem refuse_any (c : Cx) (hc : c.Ok) (s : St) (w : World) (h : PIn w c s) :
    Calls Tryd.prog 64 #[pv c] w (Does c (P.refuse c.l s) (.tuple #[]) w) := by
  have HN := Lib.hid (Now.start h)
  have hg := HN.out.g
  have CT := fun W H => Lib.hid (token_any c hc s W H)
  have CF := fun W H => Lib.hid (fail_any c hc s W H 4 (P.tok c.l s).pos)
  clear h
  unfold pv
  unfold P.refuse
  have tk0 := tok_field0
  have tk1 := tok_field1
  have tk2 := tok_field2
  have tk3 := tok_field3
  go_enter Tryd.func64, Tryd.ntmps64
  go_wp2_with fail
  refine (CT _ (Now.pin (w := w) (by repeat (first | with_reducible exact HN.out | with_reducible refine Now.alloc ?_ _ | with_reducible refine Now.drew ?_ | with_reducible refine Now.drewN ?_ _ | with_reducible refine Now.setCell ?_ _ _ ?_ | (dsimp only; omega) | omega)))).out.mono ?_
  rintro e w1 ⟨rfl, hP, hK⟩
  have hz_w1 := hK.size
  try simp only [World.size_alloc, World.size_setCell, World.size_drew, World.heap_drewN] at hz_w1
  have HN1 := Lib.hid (Now.call (w := w) (s := s) (by repeat (first | with_reducible exact HN.out | with_reducible refine Now.alloc ?_ _ | with_reducible refine Now.drew ?_ | with_reducible refine Now.drewN ?_ _ | with_reducible refine Now.setCell ?_ _ _ ?_ | (dsimp only; omega) | omega)) hP hK)
  clear hP hK
  go_wp2_with fail
  refine (CF _ (Now.pin (w := w) (by repeat (first | with_reducible exact HN1.out | with_reducible refine Now.alloc ?_ _ | with_reducible refine Now.drew ?_ | with_reducible refine Now.drewN ?_ _ | with_reducible refine Now.setCell ?_ _ _ ?_ | (dsimp only; omega) | omega)))).out.mono ?_
  rintro e w2 ⟨rfl, hP, hK⟩
  have hz_w2 := hK.size
  try simp only [World.size_alloc, World.size_setCell, World.size_drew, World.heap_drewN] at hz_w2
  have HN2 := Lib.hid (Now.call (w := w) (s := s) (by repeat (first | with_reducible exact HN1.out | with_reducible refine Now.alloc ?_ _ | with_reducible refine Now.drew ?_ | with_reducible refine Now.drewN ?_ _ | with_reducible refine Now.setCell ?_ _ _ ?_ | (dsimp only; omega) | omega)) hP hK)
  clear hP hK
  go_wp2_with fail
  go_end0
  exact Now.fin (by repeat (first | with_reducible exact HN2.out | with_reducible refine Now.alloc ?_ _ | with_reducible refine Now.drew ?_ | with_reducible refine Now.drewN ?_ _ | with_reducible refine Now.setCell ?_ _ _ ?_ | (dsimp only; omega) | omega))
set_option maxRecDepth 100000 in
theorem begin_any (c : Cx) (hc : c.Ok) (s : St) (w : World) (h : PIn w c s) (d : Int) :
    Calls Tryd.prog 75 #[pv c, .int .i64 d] w (Does c (P.begin c.l d s) (.tuple #[]) w) := by
  have HN := Lib.hid (Now.start h)
  have hg := HN.out.g
  have CT := fun W H => Lib.hid (token_any c hc s W H)
  have CF := fun W H => Lib.hid (fail_any c hc s W H 2 (P.tok c.l s).pos)
  clear h
  unfold pv
  by_cases hk : 20 < d
  · have hk1 : decide (20 < d) = true := by simpa using hk
    have e : P.begin c.l d s = P.fail c.l 2 (P.tok c.l s).pos s := by rw [P.begin, if_pos hk]
    rw [e]
    clear e
    have tk0 := tok_field0
    have tk1 := tok_field1
    have tk2 := tok_field2
    have tk3 := tok_field3
    go_enter Tryd.func75, Tryd.ntmps75
    go_wp2_with fail
    refine (CT _ (Now.pin (w := w) (by repeat (first | with_reducible exact HN.out | with_reducible refine Now.alloc ?_ _ | with_reducible refine Now.drew ?_ | with_reducible refine Now.drewN ?_ _ | with_reducible refine Now.setCell ?_ _ _ ?_ | (dsimp only; omega) | omega)))).out.mono ?_
    rintro e w1 ⟨rfl, hP, hK⟩
    have hz_w1 := hK.size
    try simp only [World.size_alloc, World.size_setCell, World.size_drew, World.heap_drewN] at hz_w1
    have HN1 := Lib.hid (Now.call (w := w) (s := s) (by repeat (first | with_reducible exact HN.out | with_reducible refine Now.alloc ?_ _ | with_reducible refine Now.drew ?_ | with_reducible refine Now.drewN ?_ _ | with_reducible refine Now.setCell ?_ _ _ ?_ | (dsimp only; omega) | omega)) hP hK)
    clear hP hK
    go_wp2_with fail
    refine (CF _ (Now.pin (w := w) (by repeat (first | with_reducible exact HN1.out | with_reducible refine Now.alloc ?_ _ | with_reducible refine Now.drew ?_ | with_reducible refine Now.drewN ?_ _ | with_reducible refine Now.setCell ?_ _ _ ?_ | (dsimp only; omega) | omega)))).out.mono ?_
    rintro e w2 ⟨rfl, hP, hK⟩
    have hz_w2 := hK.size
    try simp only [World.size_alloc, World.size_setCell, World.size_drew, World.heap_drewN] at hz_w2
    have HN2 := Lib.hid (Now.call (w := w) (s := s) (by repeat (first | with_reducible exact HN1.out | with_reducible refine Now.alloc ?_ _ | with_reducible refine Now.drew ?_ | with_reducible refine Now.drewN ?_ _ | with_reducible refine Now.setCell ?_ _ _ ?_ | (dsimp only; omega) | omega)) hP hK)
    clear hP hK
    go_wp2_with fail
    go_end0
    exact Now.fin (by repeat (first | with_reducible exact HN2.out | with_reducible refine Now.alloc ?_ _ | with_reducible refine Now.drew ?_ | with_reducible refine Now.drewN ?_ _ | with_reducible refine Now.setCell ?_ _ _ ?_ | (dsimp only; omega) | omega))
  · have hk1 : decide (20 < d) = false := by simpa using hk
    have e : P.begin c.l d s = s := by rw [P.begin, if_neg hk]
    rw [e]
    clear e
    go_enter Tryd.func75, Tryd.ntmps75
    go_wp2_with fail
    go_end0
    exact Now.fin (by repeat (first | with_reducible exact HN.out | with_reducible refine Now.alloc ?_ _ | with_reducible refine Now.drew ?_ | with_reducible refine Now.drewN ?_ _ | with_reducible refine Now.setCell ?_ _ _ ?_ | (dsimp only; omega) | omega))
set_option maxRecDepth 100000 in
theorem need_any (c : Cx) (hc : c.Ok) (s : St) (w : World) (h : PIn w c s) (t : List UInt8) :
    Calls Tryd.prog 58 #[pv c, .string ⟨t.toArray⟩] w (Does c (P.need c.l t s) (.tuple #[]) w) := by
  have HN := Lib.hid (Now.start h)
  have hg := HN.out.g
  have CI := fun W H => Lib.hid (accept_any c hc s W H t)
  have CX := fun W H => Lib.hid (refuse_any c hc s W H)
  clear h
  unfold pv
  cases hk : P.is c.l t s with
  | false =>
    have e : P.need c.l t s = P.refuse c.l s := by simp [P.need, hk]
    have e2 : P.acc c.l t s = s := by simp [P.acc, hk]
    rw [e]
    rw [hk, e2] at CI
    clear hk e e2
    go_enter Tryd.func58, Tryd.ntmps58
    go_wp2_with fail
    refine (CI _ (Now.pin (w := w) (by repeat (first | with_reducible exact HN.out | with_reducible refine Now.alloc ?_ _ | with_reducible refine Now.drew ?_ | with_reducible refine Now.drewN ?_ _ | with_reducible refine Now.setCell ?_ _ _ ?_ | (dsimp only; omega) | omega)))).out.mono ?_
    rintro e w1 ⟨rfl, hP, hK⟩
    have hz_w1 := hK.size
    try simp only [World.size_alloc, World.size_setCell, World.size_drew, World.heap_drewN] at hz_w1
    have HN1 := Lib.hid (Now.call (w := w) (s := s) (by repeat (first | with_reducible exact HN.out | with_reducible refine Now.alloc ?_ _ | with_reducible refine Now.drew ?_ | with_reducible refine Now.drewN ?_ _ | with_reducible refine Now.setCell ?_ _ _ ?_ | (dsimp only; omega) | omega)) hP hK)
    clear hP hK
    go_wp2_with fail
    refine (CX _ (Now.pin (w := w) (by repeat (first | with_reducible exact HN1.out | with_reducible refine Now.alloc ?_ _ | with_reducible refine Now.drew ?_ | with_reducible refine Now.drewN ?_ _ | with_reducible refine Now.setCell ?_ _ _ ?_ | (dsimp only; omega) | omega)))).out.mono ?_
    rintro e w2 ⟨rfl, hP, hK⟩
    have hz_w2 := hK.size
    try simp only [World.size_alloc, World.size_setCell, World.size_drew, World.heap_drewN] at hz_w2
    have HN2 := Lib.hid (Now.call (w := w) (s := s) (by repeat (first | with_reducible exact HN1.out | with_reducible refine Now.alloc ?_ _ | with_reducible refine Now.drew ?_ | with_reducible refine Now.drewN ?_ _ | with_reducible refine Now.setCell ?_ _ _ ?_ | (dsimp only; omega) | omega)) hP hK)
    clear hP hK
    go_wp2_with fail
    go_end0
    exact Now.fin (by repeat (first | with_reducible exact HN2.out | with_reducible refine Now.alloc ?_ _ | with_reducible refine Now.drew ?_ | with_reducible refine Now.drewN ?_ _ | with_reducible refine Now.setCell ?_ _ _ ?_ | (dsimp only; omega) | omega))
  | true =>
    have e : P.need c.l t s = P.next c.l s := by simp [P.need, hk]
    have e2 : P.acc c.l t s = P.next c.l s := by simp [P.acc, hk]
    rw [e]
    rw [hk, e2] at CI
    clear hk e e2
    go_enter Tryd.func58, Tryd.ntmps58
    go_wp2_with fail
    refine (CI _ (Now.pin (w := w) (by repeat (first | with_reducible exact HN.out | with_reducible refine Now.alloc ?_ _ | with_reducible refine Now.drew ?_ | with_reducible refine Now.drewN ?_ _ | with_reducible refine Now.setCell ?_ _ _ ?_ | (dsimp only; omega) | omega)))).out.mono ?_
    rintro e w1 ⟨rfl, hP, hK⟩
    have hz_w1 := hK.size
    try simp only [World.size_alloc, World.size_setCell, World.size_drew, World.heap_drewN] at hz_w1
    have HN1 := Lib.hid (Now.call (w := w) (s := s) (by repeat (first | with_reducible exact HN.out | with_reducible refine Now.alloc ?_ _ | with_reducible refine Now.drew ?_ | with_reducible refine Now.drewN ?_ _ | with_reducible refine Now.setCell ?_ _ _ ?_ | (dsimp only; omega) | omega)) hP hK)
    clear hP hK
    go_wp2_with fail
    go_end0
    exact Now.fin (by repeat (first | with_reducible exact HN1.out | with_reducible refine Now.alloc ?_ _ | with_reducible refine Now.drew ?_ | with_reducible refine Now.drewN ?_ _ | with_reducible refine Now.setCell ?_ _ _ ?_ | (dsimp only; omega) | omega))
set_option maxRecDepth 100000 in
theorem kind_any (c : Cx) (hc : c.Ok) (s : St) (w : World) (h : PIn w c s) (k : Int) :
    Calls Tryd.prog 52 #[pv c, .int .i64 k] w (Does c (P.kind c.l k s) (.agg #[.int .i64 (P.kindT c.l k s).kind, .string ⟨(P.kindT c.l k s).text.toArray⟩, .int .i64 (P.kindT c.l k s).n, .int .i64 (P.kindT c.l k s).pos]) w) := by
  have HN := Lib.hid (Now.start h)
  have hg := HN.out.g
  have hgt := HN.out.gt
  have CT := fun W H => Lib.hid (token_any c hc s W H)
  have CR := fun W H => Lib.hid (refuse_any c hc s W H)
  have CX := fun W H => Lib.hid (next_any c hc s W H)
  clear h
  unfold pv
  by_cases hk : (P.tok c.l s).kind = k
  · have hk1 : ((P.tok c.l s).kind != k) = false := by simp [hk]
    have e : P.kind c.l k s = P.next c.l s := by rw [P.kind, if_pos hk]
    have e2 : P.kindT c.l k s = P.tok c.l s := by rw [P.kindT, if_pos hk]
    rw [e, e2]
    clear hk e e2
    have tk0 := tok_field0
    have tk1 := tok_field1
    have tk2 := tok_field2
    have tk3 := tok_field3
    go_enter Tryd.func52, Tryd.ntmps52
    go_wp2_with fail
    refine (CT _ (Now.pin (w := w) (by repeat (first | with_reducible exact HN.out | with_reducible refine Now.alloc ?_ _ | with_reducible refine Now.drew ?_ | with_reducible refine Now.drewN ?_ _ | with_reducible refine Now.setCell ?_ _ _ ?_ | (dsimp only; omega) | omega)))).out.mono ?_
    rintro e w1 ⟨rfl, hP, hK⟩
    have hz_w1 := hK.size
    try simp only [World.size_alloc, World.size_setCell, World.size_drew, World.heap_drewN] at hz_w1
    have O_w1_0 : OwnB w1 (w.heap.size) #[.int .i64 0, .string ⟨#[]⟩, .int .i64 0, .int .i64 0] 60 := OwnB.call OwnB.au hK (by simp only [List.mem_singleton]; omega)
    obtain ⟨y_w1_0, x_w1_0, b_w1_0⟩ := O_w1_0.facts
    have HN1 := Lib.hid (Now.call (w := w) (s := s) (by repeat (first | with_reducible exact HN.out | with_reducible refine Now.alloc ?_ _ | with_reducible refine Now.drew ?_ | with_reducible refine Now.drewN ?_ _ | with_reducible refine Now.setCell ?_ _ _ ?_ | (dsimp only; omega) | omega)) hP hK)
    clear hP hK
    go_wp2_with fail
    refine (CX _ (Now.pin (w := w) (by repeat (first | with_reducible exact HN1.out | with_reducible refine Now.alloc ?_ _ | with_reducible refine Now.drew ?_ | with_reducible refine Now.drewN ?_ _ | with_reducible refine Now.setCell ?_ _ _ ?_ | (dsimp only; omega) | omega)))).out.mono ?_
    rintro e w2 ⟨rfl, hP, hK⟩
    have hz_w2 := hK.size
    try simp only [World.size_alloc, World.size_setCell, World.size_drew, World.heap_drewN] at hz_w2
    have O_w2_0 : OwnB w2 (w.heap.size) #[.int .i64 0, .string ⟨#[]⟩, .int .i64 0, .int .i64 0] 60 := OwnB.call OwnB.au hK (by simp only [List.mem_singleton]; omega)
    obtain ⟨y_w2_0, x_w2_0, b_w2_0⟩ := O_w2_0.facts
    have HN2 := Lib.hid (Now.call (w := w) (s := s) (by repeat (first | with_reducible exact HN1.out | with_reducible refine Now.alloc ?_ _ | with_reducible refine Now.drew ?_ | with_reducible refine Now.drewN ?_ _ | with_reducible refine Now.setCell ?_ _ _ ?_ | (dsimp only; omega) | omega)) hP hK)
    clear hP hK
    go_wp2_with fail
    refine bodyPost_ret (v := (.agg #[.int .i64 (P.tok c.l s).kind, .string ⟨(P.tok c.l s).text.toArray⟩, .int .i64 (P.tok c.l s).n, .int .i64 (P.tok c.l s).pos])) (by simp [results, Tryd.results52, go_sem, *]) rfl ?_
    exact Now.fin (by repeat (first | with_reducible exact HN2.out | with_reducible refine Now.alloc ?_ _ | with_reducible refine Now.drew ?_ | with_reducible refine Now.drewN ?_ _ | with_reducible refine Now.setCell ?_ _ _ ?_ | (dsimp only; omega) | omega))
  · have hk1 : ((P.tok c.l s).kind != k) = true := by simp [hk]
    have e : P.kind c.l k s = P.refuse c.l s := by rw [P.kind, if_neg hk]
    have e2 : P.kindT c.l k s = P.eTok := by rw [P.kindT, if_neg hk]
    have e3 : ((.agg #[.int .i64 (P.eTok).kind, .string ⟨(P.eTok).text.toArray⟩, .int .i64 (P.eTok).n, .int .i64 (P.eTok).pos]) : Value) = .agg #[.int .i64 0, .string ⟨#[]⟩, .int .i64 0, .int .i64 0] := rfl
    rw [e, e2, e3]
    clear hk e e2 e3
    have tk0 := tok_field0
    have tk1 := tok_field1
    have tk2 := tok_field2
    have tk3 := tok_field3
    go_enter Tryd.func52, Tryd.ntmps52
    go_wp2_with fail
    refine (CT _ (Now.pin (w := w) (by repeat (first | with_reducible exact HN.out | with_reducible refine Now.alloc ?_ _ | with_reducible refine Now.drew ?_ | with_reducible refine Now.drewN ?_ _ | with_reducible refine Now.setCell ?_ _ _ ?_ | (dsimp only; omega) | omega)))).out.mono ?_
    rintro e w1 ⟨rfl, hP, hK⟩
    have hz_w1 := hK.size
    try simp only [World.size_alloc, World.size_setCell, World.size_drew, World.heap_drewN] at hz_w1
    have O_w1_0 : OwnB w1 (w.heap.size) #[.int .i64 0, .string ⟨#[]⟩, .int .i64 0, .int .i64 0] 60 := OwnB.call OwnB.au hK (by simp only [List.mem_singleton]; omega)
    obtain ⟨y_w1_0, x_w1_0, b_w1_0⟩ := O_w1_0.facts
    have HN1 := Lib.hid (Now.call (w := w) (s := s) (by repeat (first | with_reducible exact HN.out | with_reducible refine Now.alloc ?_ _ | with_reducible refine Now.drew ?_ | with_reducible refine Now.drewN ?_ _ | with_reducible refine Now.setCell ?_ _ _ ?_ | (dsimp only; omega) | omega)) hP hK)
    clear hP hK
    go_wp2_with fail
    refine (CR _ (Now.pin (w := w) (by repeat (first | with_reducible exact HN1.out | with_reducible refine Now.alloc ?_ _ | with_reducible refine Now.drew ?_ | with_reducible refine Now.drewN ?_ _ | with_reducible refine Now.setCell ?_ _ _ ?_ | (dsimp only; omega) | omega)))).out.mono ?_
    rintro e w2 ⟨rfl, hP, hK⟩
    have hz_w2 := hK.size
    try simp only [World.size_alloc, World.size_setCell, World.size_drew, World.heap_drewN] at hz_w2
    have O_w2_0 : OwnB w2 (w.heap.size) #[.int .i64 0, .string ⟨#[]⟩, .int .i64 0, .int .i64 0] 60 := OwnB.call OwnB.au hK (by simp only [List.mem_singleton]; omega)
    obtain ⟨y_w2_0, x_w2_0, b_w2_0⟩ := O_w2_0.facts
    have HN2 := Lib.hid (Now.call (w := w) (s := s) (by repeat (first | with_reducible exact HN1.out | with_reducible refine Now.alloc ?_ _ | with_reducible refine Now.drew ?_ | with_reducible refine Now.drewN ?_ _ | with_reducible refine Now.setCell ?_ _ _ ?_ | (dsimp only; omega) | omega)) hP hK)
    clear hP hK
    go_wp2_with fail
    refine bodyPost_ret (v := .agg #[.int .i64 0, .string ⟨#[]⟩, .int .i64 0, .int .i64 0]) (by simp [results, Tryd.results52, go_sem, *]) rfl ?_
    exact Now.fin (by repeat (first | with_reducible exact HN2.out | with_reducible refine Now.alloc ?_ _ | with_reducible refine Now.drew ?_ | with_reducible refine Now.drewN ?_ _ | with_reducible refine Now.setCell ?_ _ _ ?_ | (dsimp only; omega) | omega))
set_option maxRecDepth 100000 in
theorem name_any (c : Cx) (hc : c.Ok) (s : St) (w : World) (h : PIn w c s) :
    Calls Tryd.prog 38 #[pv c] w (Does c (P.kind c.l 1 s) (.agg #[.int .i64 (P.kindT c.l 1 s).kind, .string ⟨(P.kindT c.l 1 s).text.toArray⟩, .int .i64 (P.kindT c.l 1 s).n, .int .i64 (P.kindT c.l 1 s).pos]) w) := by
  have HN := Lib.hid (Now.start h)
  have hg := HN.out.g
  have hgt := HN.out.gt
  have CT := fun W H => Lib.hid (kind_any c hc s W H 1)
  clear h
  unfold pv
  go_enter Tryd.func38, Tryd.ntmps38
  go_wp2_with fail
  refine (CT _ (Now.pin (w := w) (by repeat (first | with_reducible exact HN.out | with_reducible refine Now.alloc ?_ _ | with_reducible refine Now.drew ?_ | with_reducible refine Now.drewN ?_ _ | with_reducible refine Now.setCell ?_ _ _ ?_ | (dsimp only; omega) | omega)))).out.mono ?_
  rintro e w1 ⟨rfl, hP, hK⟩
  have hz_w1 := hK.size
  try simp only [World.size_alloc, World.size_setCell, World.size_drew, World.heap_drewN] at hz_w1
  have O_w1_0 : OwnB w1 (w.heap.size) #[.int .i64 0, .string ⟨#[]⟩, .int .i64 0, .int .i64 0] 60 := OwnB.call OwnB.au hK (by simp only [List.mem_singleton]; omega)
  obtain ⟨y_w1_0, x_w1_0, b_w1_0⟩ := O_w1_0.facts
  have HN1 := Lib.hid (Now.call (w := w) (s := s) (by repeat (first | with_reducible exact HN.out | with_reducible refine Now.alloc ?_ _ | with_reducible refine Now.drew ?_ | with_reducible refine Now.drewN ?_ _ | with_reducible refine Now.setCell ?_ _ _ ?_ | (dsimp only; omega) | omega)) hP hK)
  clear hP hK
  go_wp2_with fail
  refine bodyPost_ret (v := (.agg #[.int .i64 (P.kindT c.l 1 s).kind, .string ⟨(P.kindT c.l 1 s).text.toArray⟩, .int .i64 (P.kindT c.l 1 s).n, .int .i64 (P.kindT c.l 1 s).pos])) (by simp [results, Tryd.results38, go_sem, *]) rfl ?_
  exact Now.fin (by repeat (first | with_reducible exact HN1.out | with_reducible refine Now.alloc ?_ _ | with_reducible refine Now.drew ?_ | with_reducible refine Now.drewN ?_ _ | with_reducible refine Now.setCell ?_ _ _ ?_ | (dsimp only; omega) | omega))
set_option maxRecDepth 100000 in
theorem number_any (c : Cx) (hc : c.Ok) (s : St) (w : World) (h : PIn w c s) :
    Calls Tryd.prog 69 #[pv c] w (Does c (P.kind c.l 2 s) (.agg #[.int .i64 (P.kindT c.l 2 s).kind, .string ⟨(P.kindT c.l 2 s).text.toArray⟩, .int .i64 (P.kindT c.l 2 s).n, .int .i64 (P.kindT c.l 2 s).pos]) w) := by
  have HN := Lib.hid (Now.start h)
  have hg := HN.out.g
  have hgt := HN.out.gt
  have CT := fun W H => Lib.hid (kind_any c hc s W H 2)
  clear h
  unfold pv
  go_enter Tryd.func69, Tryd.ntmps69
  go_wp2_with fail
  refine (CT _ (Now.pin (w := w) (by repeat (first | with_reducible exact HN.out | with_reducible refine Now.alloc ?_ _ | with_reducible refine Now.drew ?_ | with_reducible refine Now.drewN ?_ _ | with_reducible refine Now.setCell ?_ _ _ ?_ | (dsimp only; omega) | omega)))).out.mono ?_
  rintro e w1 ⟨rfl, hP, hK⟩
  have hz_w1 := hK.size
  try simp only [World.size_alloc, World.size_setCell, World.size_drew, World.heap_drewN] at hz_w1
  have O_w1_0 : OwnB w1 (w.heap.size) #[.int .i64 0, .string ⟨#[]⟩, .int .i64 0, .int .i64 0] 60 := OwnB.call OwnB.au hK (by simp only [List.mem_singleton]; omega)
  obtain ⟨y_w1_0, x_w1_0, b_w1_0⟩ := O_w1_0.facts
  have HN1 := Lib.hid (Now.call (w := w) (s := s) (by repeat (first | with_reducible exact HN.out | with_reducible refine Now.alloc ?_ _ | with_reducible refine Now.drew ?_ | with_reducible refine Now.drewN ?_ _ | with_reducible refine Now.setCell ?_ _ _ ?_ | (dsimp only; omega) | omega)) hP hK)
  clear hP hK
  go_wp2_with fail
  refine bodyPost_ret (v := (.agg #[.int .i64 (P.kindT c.l 2 s).kind, .string ⟨(P.kindT c.l 2 s).text.toArray⟩, .int .i64 (P.kindT c.l 2 s).n, .int .i64 (P.kindT c.l 2 s).pos])) (by simp [results, Tryd.results69, go_sem, *]) rfl ?_
  exact Now.fin (by repeat (first | with_reducible exact HN1.out | with_reducible refine Now.alloc ?_ _ | with_reducible refine Now.drew ?_ | with_reducible refine Now.drewN ?_ _ | with_reducible refine Now.setCell ?_ _ _ ?_ | (dsimp only; omega) | omega))
end Go.Proofs.YtjmemapkipkocaaDoor

/-
  Signs, types, lengths, values.
-/
namespace Go.Proofs.YtjmemapkipkocaaDoor
open Go.RowKit Go.Maps
set_option linter.unusedVariables false
set_option linter.unusedSimpArgs false

set_option maxRecDepth 100000 in
theorem value_any (c : Cx) (hc : c.Ok) (s : St) (w : World) (h : PIn w c s) :
    Calls Tryd.prog 70 #[pv c] w (Does c (P.value c.l s).2 (.int .i64 (P.value c.l s).1) w) := by
  have HN := Lib.hid (Now.start h)
  have hg := HN.out.g
  have CA := fun W H => Lib.hid (accept_any c hc s W H [45])
  clear h
  unfold pv
  cases hk : P.is c.l [45] s with
  | false =>
    have CM := fun W H => Lib.hid (number_any c hc s W H)
    have e : P.value c.l s = ((P.kindT c.l 2 s).n, P.kind c.l 2 s) := by simp [P.value, hk]
    have e2 : P.acc c.l [45] s = s := by simp [P.acc, hk]
    rw [e]
    rw [hk, e2] at CA
    clear hk e e2
    have tk0 := tok_field0
    have tk1 := tok_field1
    have tk2 := tok_field2
    have tk3 := tok_field3
    go_enter Tryd.func70, Tryd.ntmps70
    go_wp2_with fail
    refine (CA _ (Now.pin (w := w) (by repeat (first | with_reducible exact HN.out | with_reducible refine Now.alloc ?_ _ | with_reducible refine Now.drew ?_ | with_reducible refine Now.drewN ?_ _ | with_reducible refine Now.setCell ?_ _ _ ?_ | (dsimp only; omega) | omega)))).out.mono ?_
    rintro e w1 ⟨rfl, hP, hK⟩
    have hz_w1 := hK.size
    try simp only [World.size_alloc, World.size_setCell, World.size_drew, World.heap_drewN] at hz_w1
    have HN1 := Lib.hid (Now.call (w := w) (s := s) (by repeat (first | with_reducible exact HN.out | with_reducible refine Now.alloc ?_ _ | with_reducible refine Now.drew ?_ | with_reducible refine Now.drewN ?_ _ | with_reducible refine Now.setCell ?_ _ _ ?_ | (dsimp only; omega) | omega)) hP hK)
    clear hP hK
    go_wp2_with fail
    refine (CM _ (Now.pin (w := w) (by repeat (first | with_reducible exact HN1.out | with_reducible refine Now.alloc ?_ _ | with_reducible refine Now.drew ?_ | with_reducible refine Now.drewN ?_ _ | with_reducible refine Now.setCell ?_ _ _ ?_ | (dsimp only; omega) | omega)))).out.mono ?_
    rintro e w2 ⟨rfl, hP, hK⟩
    have hz_w2 := hK.size
    try simp only [World.size_alloc, World.size_setCell, World.size_drew, World.heap_drewN] at hz_w2
    have HN2 := Lib.hid (Now.call (w := w) (s := s) (by repeat (first | with_reducible exact HN1.out | with_reducible refine Now.alloc ?_ _ | with_reducible refine Now.drew ?_ | with_reducible refine Now.drewN ?_ _ | with_reducible refine Now.setCell ?_ _ _ ?_ | (dsimp only; omega) | omega)) hP hK)
    clear hP hK
    go_wp2_with fail
    go_ret
    exact Now.fin (by repeat (first | with_reducible exact HN2.out | with_reducible refine Now.alloc ?_ _ | with_reducible refine Now.drew ?_ | with_reducible refine Now.drewN ?_ _ | with_reducible refine Now.setCell ?_ _ _ ?_ | (dsimp only; omega) | omega))
  | true =>
    have CM := fun W H => Lib.hid (number_any c hc (P.next c.l s) W H)
    have e : P.value c.l s = (wrap64 (-(P.kindT c.l 2 (P.next c.l s)).n), P.kind c.l 2 (P.next c.l s)) := by simp [P.value, hk]
    have e2 : P.acc c.l [45] s = P.next c.l s := by simp [P.acc, hk]
    rw [e]
    rw [hk, e2] at CA
    clear hk e e2
    have tk0 := tok_field0
    have tk1 := tok_field1
    have tk2 := tok_field2
    have tk3 := tok_field3
    go_enter Tryd.func70, Tryd.ntmps70
    go_wp2_with fail
    refine (CA _ (Now.pin (w := w) (by repeat (first | with_reducible exact HN.out | with_reducible refine Now.alloc ?_ _ | with_reducible refine Now.drew ?_ | with_reducible refine Now.drewN ?_ _ | with_reducible refine Now.setCell ?_ _ _ ?_ | (dsimp only; omega) | omega)))).out.mono ?_
    rintro e w1 ⟨rfl, hP, hK⟩
    have hz_w1 := hK.size
    try simp only [World.size_alloc, World.size_setCell, World.size_drew, World.heap_drewN] at hz_w1
    have HN1 := Lib.hid (Now.call (w := w) (s := s) (by repeat (first | with_reducible exact HN.out | with_reducible refine Now.alloc ?_ _ | with_reducible refine Now.drew ?_ | with_reducible refine Now.drewN ?_ _ | with_reducible refine Now.setCell ?_ _ _ ?_ | (dsimp only; omega) | omega)) hP hK)
    clear hP hK
    go_wp2_with fail
    refine (CM _ (Now.pin (w := w) (by repeat (first | with_reducible exact HN1.out | with_reducible refine Now.alloc ?_ _ | with_reducible refine Now.drew ?_ | with_reducible refine Now.drewN ?_ _ | with_reducible refine Now.setCell ?_ _ _ ?_ | (dsimp only; omega) | omega)))).out.mono ?_
    rintro e w2 ⟨rfl, hP, hK⟩
    have hz_w2 := hK.size
    try simp only [World.size_alloc, World.size_setCell, World.size_drew, World.heap_drewN] at hz_w2
    have HN2 := Lib.hid (Now.call (w := w) (s := P.next c.l s) (by repeat (first | with_reducible exact HN1.out | with_reducible refine Now.alloc ?_ _ | with_reducible refine Now.drew ?_ | with_reducible refine Now.drewN ?_ _ | with_reducible refine Now.setCell ?_ _ _ ?_ | (dsimp only; omega) | omega)) hP hK)
    clear hP hK
    go_wp2_with fail
    go_ret
    exact Now.fin (by repeat (first | with_reducible exact HN2.out | with_reducible refine Now.alloc ?_ _ | with_reducible refine Now.drew ?_ | with_reducible refine Now.drewN ?_ _ | with_reducible refine Now.setCell ?_ _ _ ?_ | (dsimp only; omega) | omega))
set_option maxRecDepth 100000 in
theorem sign_any (c : Cx) (hc : c.Ok) (s : St) (w : World) (h : PIn w c s) (lv : Int) :
    Calls Tryd.prog 90 #[pv c, .int .i64 lv] w (Does c (P.sign c.l lv s) (.tuple #[(.agg #[.int .i64 (P.tok c.l s).kind, .string ⟨(P.tok c.l s).text.toArray⟩, .int .i64 (P.tok c.l s).n, .int .i64 (P.tok c.l s).pos]), .agg #[.int .i64 (P.signM c.l lv s).1, .int .i64 (P.signM c.l lv s).2]]) w) := by
  have HN := Lib.hid (Now.start h)
  have hg := HN.out.g
  have hgt := HN.out.gt
  have CT := fun W H => Lib.hid (token_any c hc s W H)
  have CX := fun W H => Lib.hid (next_any c hc s W H)
  clear h
  unfold pv
  by_cases hk : (P.signM c.l lv s).1 = 0
  · have hk1 : ((P.signM c.l lv s).1 != 0) = false := by simp [hk]
    have e : P.sign c.l lv s = s := by rw [P.sign, if_pos hk]
    rw [e]
    clear hk e
    unfold P.signM at hk1 ⊢
    go_enter Tryd.func90, Tryd.ntmps90
    go_wp2_with fail
    refine (CT _ (Now.pin (w := w) (by repeat (first | with_reducible exact HN.out | with_reducible refine Now.alloc ?_ _ | with_reducible refine Now.drew ?_ | with_reducible refine Now.drewN ?_ _ | with_reducible refine Now.setCell ?_ _ _ ?_ | (dsimp only; omega) | omega)))).out.mono ?_
    rintro e w1 ⟨rfl, hP, hK⟩
    have hz := hK.size
    simp only [World.size_alloc] at hz
    obtain ⟨c0, c1, c2, c3, c4⟩ := hP.cells
    have lk1 := lookup_mean (w1.alloc (.cells #[.int .i64 (P.tok c.l s).kind, .string ⟨(P.tok c.l s).text.toArray⟩, .int .i64 (P.tok c.l s).n, .int .i64 (P.tok c.l s).pos] 60)).drew c.mb (hP.alloc _).drew.map lv (P.tok c.l s).text
    have lk2 := lookup_mean ((w1.alloc (.cells #[.int .i64 (P.tok c.l s).kind, .string ⟨(P.tok c.l s).text.toArray⟩, .int .i64 (P.tok c.l s).n, .int .i64 (P.tok c.l s).pos] 60)).alloc (.cells #[.int .i64 0, .int .i64 0] 69)).drew c.mb ((hP.alloc _).alloc _).drew.map lv (P.tok c.l s).text
    have g1 : c.g < w1.heap.size := by omega
    have O_w1_0 : OwnB w1 (w.heap.size) #[.int .i64 0, .string ⟨#[]⟩, .int .i64 0, .int .i64 0] 60 := OwnB.call OwnB.au hK (by simp only [List.mem_singleton]; omega)
    obtain ⟨y_w1_0, x_w1_0, b_w1_0⟩ := O_w1_0.facts
    have O_w1_1 : OwnB w1 (w.heap.size+1) #[.int .i64 0, .int .i64 0] 69 := OwnB.call OwnB.au hK (by simp only [List.mem_singleton]; omega)
    obtain ⟨y_w1_1, x_w1_1, b_w1_1⟩ := O_w1_1.facts
    have HN1 := Lib.hid (Now.call (w := w) (s := s) (by repeat (first | with_reducible exact HN.out | with_reducible refine Now.alloc ?_ _ | with_reducible refine Now.drew ?_ | with_reducible refine Now.drewN ?_ _ | with_reducible refine Now.setCell ?_ _ _ ?_ | (dsimp only; omega) | omega)) hP hK)
    clear hP hK
    go_wp2_with fail
    go_region
    all_goals
      go_wp2_with fail
      go_region
      go_wp2_with fail
      refine bodyPost_ret (v := .tuple #[(.agg #[.int .i64 (P.tok c.l s).kind, .string ⟨(P.tok c.l s).text.toArray⟩, .int .i64 (P.tok c.l s).n, .int .i64 (P.tok c.l s).pos]), .agg #[.int .i64 (mean lv (P.tok c.l s).text).1, .int .i64 (mean lv (P.tok c.l s).text).2]]) (by simp [results, Tryd.results90, go_sem, *]) rfl ?_
      exact Now.fin (by repeat (first | with_reducible exact HN1.out | with_reducible refine Now.alloc ?_ _ | with_reducible refine Now.drew ?_ | with_reducible refine Now.drewN ?_ _ | with_reducible refine Now.setCell ?_ _ _ ?_ | (dsimp only; omega) | omega))
  · have hk1 : ((P.signM c.l lv s).1 != 0) = true := by simp [hk]
    have e : P.sign c.l lv s = P.next c.l s := by rw [P.sign, if_neg hk]
    rw [e]
    clear hk e
    unfold P.signM at hk1 ⊢
    go_enter Tryd.func90, Tryd.ntmps90
    go_wp2_with fail
    refine (CT _ (Now.pin (w := w) (by repeat (first | with_reducible exact HN.out | with_reducible refine Now.alloc ?_ _ | with_reducible refine Now.drew ?_ | with_reducible refine Now.drewN ?_ _ | with_reducible refine Now.setCell ?_ _ _ ?_ | (dsimp only; omega) | omega)))).out.mono ?_
    rintro e w1 ⟨rfl, hP, hK⟩
    have hz := hK.size
    simp only [World.size_alloc] at hz
    obtain ⟨c0, c1, c2, c3, c4⟩ := hP.cells
    have lk1 := lookup_mean (w1.alloc (.cells #[.int .i64 (P.tok c.l s).kind, .string ⟨(P.tok c.l s).text.toArray⟩, .int .i64 (P.tok c.l s).n, .int .i64 (P.tok c.l s).pos] 60)).drew c.mb (hP.alloc _).drew.map lv (P.tok c.l s).text
    have lk2 := lookup_mean ((w1.alloc (.cells #[.int .i64 (P.tok c.l s).kind, .string ⟨(P.tok c.l s).text.toArray⟩, .int .i64 (P.tok c.l s).n, .int .i64 (P.tok c.l s).pos] 60)).alloc (.cells #[.int .i64 0, .int .i64 0] 69)).drew c.mb ((hP.alloc _).alloc _).drew.map lv (P.tok c.l s).text
    have g1 : c.g < w1.heap.size := by omega
    have O_w1_0 : OwnB w1 (w.heap.size) #[.int .i64 0, .string ⟨#[]⟩, .int .i64 0, .int .i64 0] 60 := OwnB.call OwnB.au hK (by simp only [List.mem_singleton]; omega)
    obtain ⟨y_w1_0, x_w1_0, b_w1_0⟩ := O_w1_0.facts
    have O_w1_1 : OwnB w1 (w.heap.size+1) #[.int .i64 0, .int .i64 0] 69 := OwnB.call OwnB.au hK (by simp only [List.mem_singleton]; omega)
    obtain ⟨y_w1_1, x_w1_1, b_w1_1⟩ := O_w1_1.facts
    have HN1 := Lib.hid (Now.call (w := w) (s := s) (by repeat (first | with_reducible exact HN.out | with_reducible refine Now.alloc ?_ _ | with_reducible refine Now.drew ?_ | with_reducible refine Now.drewN ?_ _ | with_reducible refine Now.setCell ?_ _ _ ?_ | (dsimp only; omega) | omega)) hP hK)
    clear hP hK
    go_wp2_with fail
    go_region
    all_goals
      go_wp2_with fail
      refine (CX _ (Now.pin (w := w) (by repeat (first | with_reducible exact HN1.out | with_reducible refine Now.alloc ?_ _ | with_reducible refine Now.drew ?_ | with_reducible refine Now.drewN ?_ _ | with_reducible refine Now.setCell ?_ _ _ ?_ | (dsimp only; omega) | omega)))).out.mono ?_
      rintro e w2 ⟨rfl, hP, hK⟩
      have hz_w2 := hK.size
      try simp only [World.size_alloc, World.size_setCell, World.size_drew, World.heap_drewN] at hz_w2
      have O_w2_0 : OwnB w2 (w.heap.size) #[.int .i64 0, .string ⟨#[]⟩, .int .i64 0, .int .i64 0] 60 := OwnB.call OwnB.au hK (by simp only [List.mem_singleton]; omega)
      obtain ⟨y_w2_0, x_w2_0, b_w2_0⟩ := O_w2_0.facts
      have O_w2_1 : OwnB w2 (w.heap.size+1) #[.int .i64 0, .int .i64 0] 69 := OwnB.call OwnB.au hK (by simp only [List.mem_singleton]; omega)
      obtain ⟨y_w2_1, x_w2_1, b_w2_1⟩ := O_w2_1.facts
      have O_w2_2 : OwnB w2 (w1.heap.size) #[.int .i64 (P.tok c.l s).kind, .string ⟨(P.tok c.l s).text.toArray⟩, .int .i64 (P.tok c.l s).n, .int .i64 (P.tok c.l s).pos] 60 := OwnB.call OwnB.au hK (by simp only [List.mem_singleton]; omega)
      obtain ⟨y_w2_2, x_w2_2, b_w2_2⟩ := O_w2_2.facts
      have O_w2_3 : OwnB w2 (w1.heap.size+1) #[.int .i64 (mean lv (P.tok c.l s).text).1, .int .i64 (mean lv (P.tok c.l s).text).2] 69 := OwnB.call OwnB.au hK (by simp only [List.mem_singleton]; omega)
      obtain ⟨y_w2_3, x_w2_3, b_w2_3⟩ := O_w2_3.facts
      have HN2 := Lib.hid (Now.call (w := w) (s := s) (by repeat (first | with_reducible exact HN1.out | with_reducible refine Now.alloc ?_ _ | with_reducible refine Now.drew ?_ | with_reducible refine Now.drewN ?_ _ | with_reducible refine Now.setCell ?_ _ _ ?_ | (dsimp only; omega) | omega)) hP hK)
      clear hP hK
      go_wp2_with fail
      go_region
      go_wp2_with fail
      refine bodyPost_ret (v := .tuple #[(.agg #[.int .i64 (P.tok c.l s).kind, .string ⟨(P.tok c.l s).text.toArray⟩, .int .i64 (P.tok c.l s).n, .int .i64 (P.tok c.l s).pos]), .agg #[.int .i64 (mean lv (P.tok c.l s).text).1, .int .i64 (mean lv (P.tok c.l s).text).2]]) (by simp [results, Tryd.results90, go_sem, *]) rfl ?_
      exact Now.fin (by repeat (first | with_reducible exact HN2.out | with_reducible refine Now.alloc ?_ _ | with_reducible refine Now.drew ?_ | with_reducible refine Now.drewN ?_ _ | with_reducible refine Now.setCell ?_ _ _ ?_ | (dsimp only; omega) | omega))
end Go.Proofs.YtjmemapkipkocaaDoor

/-
  Types: 'beginsType', 'integer', 'base', 'typeOf', 'typeWithin', 'length'.
-/
namespace Go.Proofs.YtjmemapkipkocaaDoor
open Go.RowKit Go.Maps
set_option linter.unusedVariables false
set_option linter.unusedSimpArgs false
set_option maxRecDepth 100000

theorem beginsType_any (t : Tok) (w : World) : Calls Tryd.prog 85 #[(.agg #[.int .i64 (t).kind, .string ⟨(t).text.toArray⟩, .int .i64 (t).n, .int .i64 (t).pos])] w fun e w' => e = .returned (.bool (isType t.text)) ∧ Below w.heap.size w w' := by
  obtain ⟨k, x, n, p⟩ := t
  cases h0 : x == [118, 111, 105, 100] with
  | true =>
    have e : isType x = true := by simp [isType, typeL, List.contains, List.elem, h0]
    rw [e]
    clear e
    go_enter Tryd.func85, Tryd.ntmps85
    go_wp2_with fail
    go_ret
    exact ⟨rfl, (Below.refl _ _).alloc (Nat.le_refl _) _⟩
  | false =>
    cases h1 : x == [117, 110, 115, 105, 103, 110, 101, 100] with
    | true =>
      have e : isType x = true := by simp [isType, typeL, List.contains, List.elem, h0, h1]
      rw [e]
      clear e
      go_enter Tryd.func85, Tryd.ntmps85
      go_wp2_with fail
      go_ret
      exact ⟨rfl, (Below.refl _ _).alloc (Nat.le_refl _) _⟩
    | false =>
      cases h2 : x == [99, 104, 97, 114] with
      | true =>
        have e : isType x = true := by simp [isType, typeL, List.contains, List.elem, h0, h1, h2]
        rw [e]
        clear e
        go_enter Tryd.func85, Tryd.ntmps85
        go_wp2_with fail
        go_ret
        exact ⟨rfl, (Below.refl _ _).alloc (Nat.le_refl _) _⟩
      | false =>
        cases h3 : x == [115, 104, 111, 114, 116] with
        | true =>
          have e : isType x = true := by simp [isType, typeL, List.contains, List.elem, h0, h1, h2, h3]
          rw [e]
          clear e
          go_enter Tryd.func85, Tryd.ntmps85
          go_wp2_with fail
          go_ret
          exact ⟨rfl, (Below.refl _ _).alloc (Nat.le_refl _) _⟩
        | false =>
          cases h4 : x == [105, 110, 116] with
          | true =>
            have e : isType x = true := by simp [isType, typeL, List.contains, List.elem, h0, h1, h2, h3, h4]
            rw [e]
            clear e
            go_enter Tryd.func85, Tryd.ntmps85
            go_wp2_with fail
            go_ret
            exact ⟨rfl, (Below.refl _ _).alloc (Nat.le_refl _) _⟩
          | false =>
            cases h5 : x == [108, 111, 110, 103] with
            | true =>
              have e : isType x = true := by simp [isType, typeL, List.contains, List.elem, h0, h1, h2, h3, h4, h5]
              rw [e]
              clear e
              go_enter Tryd.func85, Tryd.ntmps85
              go_wp2_with fail
              go_ret
              exact ⟨rfl, (Below.refl _ _).alloc (Nat.le_refl _) _⟩
            | false =>
              have e : isType x = false := by simp [isType, typeL, List.contains, List.elem, h0, h1, h2, h3, h4, h5]
              rw [e]
              clear e
              go_enter Tryd.func85, Tryd.ntmps85
              go_wp2_with fail
              go_ret
              exact ⟨rfl, (Below.refl _ _).alloc (Nat.le_refl _) _⟩
theorem integer_any (k : Nat) (hk : k < 4) (u : Bool) (w : World) : Calls Tryd.prog 63 #[.int .i64 k, .bool u] w fun e w' => e = .returned (.int .i64 (1 + 2 * k + (if u then 1 else 0))) ∧ w' = w := by
  rcases k with _ | _ | _ | _ | k
  all_goals first | omega | skip
  all_goals cases u
  all_goals
    go_enter Tryd.func63, Tryd.ntmps63
    go_wp2_with fail
    go_ret
    exact ⟨rfl, rfl⟩
/-- The base behind the first k of the words. -/
def baseAt (l : List Tok) (u : Int) (s : St) : Nat → Int × St
  | 0 => P.base2 l u s
  | 1 => if P.is l [115, 104, 111, 114, 116] s then (3 + u, P.next l s) else if P.is l [105, 110, 116] s then (5 + u, P.next l s) else if P.is l [108, 111, 110, 103] s then (7 + u, P.next l s) else (0, P.refuse l s)
  | 2 => if P.is l [105, 110, 116] s then (5 + u, P.next l s) else if P.is l [108, 111, 110, 103] s then (7 + u, P.next l s) else (0, P.refuse l s)
  | 3 => if P.is l [108, 111, 110, 103] s then (7 + u, P.next l s) else (0, P.refuse l s)
  | _ => (0, P.refuse l s)
def wordAt : Nat → List UInt8
  | 0 => [99, 104, 97, 114]
  | 1 => [115, 104, 111, 114, 116]
  | 2 => [105, 110, 116]
  | _ => [108, 111, 110, 103]
theorem baseAt_no (l : List Tok) (u : Int) (s : St) (k : Nat) (hk : k < 4) (h : P.is l (wordAt k) s = false) : baseAt l u s k = baseAt l u s (k + 1) := by
  rcases k with _ | _ | _ | _ | k
  all_goals first | omega | simp only [wordAt] at h
  all_goals simp [baseAt, P.base2, h]
theorem baseAt_yes (l : List Tok) (u : Int) (s : St) (k : Nat) (hk : k < 4) (h : P.is l (wordAt k) s = true) : baseAt l u s k = (1 + 2 * k + u, P.next l s) := by
  rcases k with _ | _ | _ | _ | k
  all_goals first | omega | simp only [wordAt] at h
  all_goals simp [baseAt, P.base2, h]
theorem index_size (k : Nat) (hk : k < 4) (w : World) : (Instr.index 125 (.agg sizC) (.int .i64 k)).run Tryd.prog w = .ok (.string ⟨(wordAt k).toArray⟩) w := by
  rcases k with _ | _ | _ | _ | k
  all_goals first | omega | kernel_rfl
theorem base_loop (c : Cx) (hc : c.Ok) (s : St) (w : World) (h : PIn w c s) (hn : P.is c.l [118, 111, 105, 100] s = false) (u : Bool) (hu : P.is c.l [117, 110, 115, 105, 103, 110, 101, 100] s = u) :
    Calls Tryd.prog 50 #[pv c] w (Does c (P.base2 c.l (if u then 1 else 0) (P.acc c.l [117, 110, 115, 105, 103, 110, 101, 100] s)).2 (.int .i64 (P.base2 c.l (if u then 1 else 0) (P.acc c.l [117, 110, 115, 105, 103, 110, 101, 100] s)).1) w) := by
  have HN := Lib.hid (Now.start h)
  have hg := HN.out.g
  have hgt := HN.out.gt
  have CV := fun W H => Lib.hid (accept_any c hc s W H [118, 111, 105, 100])
  have CU := fun W H => Lib.hid (accept_any c hc s W H [117, 110, 115, 105, 103, 110, 101, 100])
  have e : P.acc c.l [118, 111, 105, 100] s = s := by simp [P.acc, hn]
  rw [hn, e] at CV
  rw [hu] at CU
  clear h hn hu e
  obtain ⟨s1, hs1⟩ : ∃ s1, s1 = P.acc c.l [117, 110, 115, 105, 103, 110, 101, 100] s := ⟨_, rfl⟩
  rw [← hs1] at CU ⊢
  clear hs1
  obtain ⟨R, hR⟩ : ∃ R, R = P.base2 c.l (if u then 1 else 0) s1 := ⟨_, rfl⟩
  rw [← hR]
  have HR := Lib.hid hR
  clear hR
  have CI := fun (k : Nat) hk W => Lib.hid (integer_any k hk u W)
  have CA := fun W H k => Lib.hid (accept_any c hc s1 W H (wordAt k))
  have CF := fun W H => Lib.hid (refuse_any c hc s1 W H)
  have IX := fun k hk W => Lib.hid (index_size k hk W)
  unfold sizC at IX
  unfold pv
  go_enter Tryd.func50, Tryd.ntmps50
  go_wp2_with fail
  refine (CV _ (Now.pin (w := w) (by repeat (first | with_reducible exact HN.out | with_reducible refine Now.alloc ?_ _ | with_reducible refine Now.drew ?_ | with_reducible refine Now.drewN ?_ _ | with_reducible refine Now.setCell ?_ _ _ ?_ | (dsimp only; omega) | omega)))).out.mono ?_
  rintro e w1 ⟨rfl, hP, hK⟩
  have hz_w1 := hK.size
  try simp only [World.size_alloc, World.size_setCell, World.size_drew, World.heap_drewN] at hz_w1
  have HN1 := Lib.hid (Now.call (w := w) (s := s) (by repeat (first | with_reducible exact HN.out | with_reducible refine Now.alloc ?_ _ | with_reducible refine Now.drew ?_ | with_reducible refine Now.drewN ?_ _ | with_reducible refine Now.setCell ?_ _ _ ?_ | (dsimp only; omega) | omega)) hP hK)
  clear hP hK
  go_wp2_with fail
  refine (CU _ (Now.pin (w := w) (by repeat (first | with_reducible exact HN1.out | with_reducible refine Now.alloc ?_ _ | with_reducible refine Now.drew ?_ | with_reducible refine Now.drewN ?_ _ | with_reducible refine Now.setCell ?_ _ _ ?_ | (dsimp only; omega) | omega)))).out.mono ?_
  rintro e w2 ⟨rfl, hP, hK⟩
  have siz := hP.siz
  obtain ⟨q1, q2, q3⟩ := OwnB.facts ⟨siz⟩
  have q1' := cellB siz
  unfold sizC at q1
  have HN2 := Lib.hid (Now.call (w := w) (s := s) (by repeat (first | with_reducible exact HN1.out | with_reducible refine Now.alloc ?_ _ | with_reducible refine Now.drew ?_ | with_reducible refine Now.drewN ?_ _ | with_reducible refine Now.setCell ?_ _ _ ?_ | (dsimp only; omega) | omega)) hP hK)
  clear hP hK siz
  go_wp2_with fail
  go_loopw [11] (fun i wr => ∃ k : Nat, k ≤ 4 ∧ i = .int .i64 k ∧ Now c w s1 wr ∧ R = baseAt c.l (if u then 1 else 0) s1 k) (fun i _ => 4 - (intOf i).toNat)
  case atStart => exact ⟨0, by omega, rfl, HN2.out, HR.out⟩
  case round =>
    obtain ⟨k, hk, rfl, hN, hR⟩ := hrel
    have HNr := Lib.hid hN
    have HRr := Lib.hid hR
    clear hN hR HN HN1 HN2
    by_cases hk4 : k < 4
    · have hd : decide ((k : Int) < 4) = true := by simp; omega
      have ix := (IX k hk4 wr).out
      cases ha : P.is c.l (wordAt k) s1 with
      | true =>
        have e := baseAt_yes c.l (if u then 1 else 0) s1 k hk4 ha
        have CA2 := fun W H => Lib.hid (CA W H k).out
        rw [ha] at CA2
        have ea : P.acc c.l (wordAt k) s1 = P.next c.l s1 := by simp [P.acc, ha]
        rw [ea] at CA2
        rw [HRr.out, e]
        clear ha e ea
        go_wp2_with fail
        refine (CA2 _ (Now.pin (w := w) (by repeat (first | with_reducible exact HNr.out | with_reducible refine Now.alloc ?_ _ | with_reducible refine Now.drew ?_ | with_reducible refine Now.drewN ?_ _ | with_reducible refine Now.setCell ?_ _ _ ?_ | (dsimp only; omega) | omega)))).out.mono ?_
        rintro e w3 ⟨rfl, hP, hK⟩
        have HN3 := Lib.hid (Now.call (w := w) (s := s1) (by repeat (first | with_reducible exact HNr.out | with_reducible refine Now.alloc ?_ _ | with_reducible refine Now.drew ?_ | with_reducible refine Now.drewN ?_ _ | with_reducible refine Now.setCell ?_ _ _ ?_ | (dsimp only; omega) | omega)) hP hK)
        clear hP hK
        go_wp2_with fail
        refine (CI k hk4 _).out.mono ?_
        rintro e w4 ⟨rfl, rfl⟩
        go_wp2_with fail
        all_goals
          go_ret
          exact Now.fin (by repeat (first | with_reducible exact HN3.out | with_reducible refine Now.alloc ?_ _ | with_reducible refine Now.drew ?_ | with_reducible refine Now.drewN ?_ _ | with_reducible refine Now.setCell ?_ _ _ ?_ | (dsimp only; omega) | omega))
      | false =>
        have e := baseAt_no c.l (if u then 1 else 0) s1 k hk4 ha
        have CA2 := fun W H => Lib.hid (CA W H k).out
        rw [ha] at CA2
        have ea : P.acc c.l (wordAt k) s1 = s1 := by simp [P.acc, ha]
        rw [ea] at CA2
        have HE := Lib.hid (HRr.out.trans e)
        have hw : wrap64 ((k : Int) + 1) = ((k + 1 : Nat) : Int) := by rw [wrapJ (by omega) (by omega)]; omega
        clear ha e ea
        go_wp2_with fail
        refine (CA2 _ (Now.pin (w := w) (by repeat (first | with_reducible exact HNr.out | with_reducible refine Now.alloc ?_ _ | with_reducible refine Now.drew ?_ | with_reducible refine Now.drewN ?_ _ | with_reducible refine Now.setCell ?_ _ _ ?_ | (dsimp only; omega) | omega)))).out.mono ?_
        rintro e w3 ⟨rfl, hP, hK⟩
        have HN3 := Lib.hid (Now.call (w := w) (s := s1) (by repeat (first | with_reducible exact HNr.out | with_reducible refine Now.alloc ?_ _ | with_reducible refine Now.drew ?_ | with_reducible refine Now.drewN ?_ _ | with_reducible refine Now.setCell ?_ _ _ ?_ | (dsimp only; omega) | omega)) hP hK)
        clear hP hK
        go_wp2_with fail
        go_roundw
        case rel => exact ⟨k + 1, by omega, by go_num, HN3.out, HE.out⟩
        case measure => simp [intOf]; omega
    · have hd : decide ((k : Int) < 4) = false := by simp; omega
      have e : R = (0, P.refuse c.l s1) := by
        rw [HRr.out]
        obtain rfl : k = 4 := by omega
        rfl
      have HE := Lib.hid e
      clear e
      go_wp2_with fail
      refine (CF _ (Now.pin (w := w) (by repeat (first | with_reducible exact HNr.out | with_reducible refine Now.alloc ?_ _ | with_reducible refine Now.drew ?_ | with_reducible refine Now.drewN ?_ _ | with_reducible refine Now.setCell ?_ _ _ ?_ | (dsimp only; omega) | omega)))).out.mono ?_
      rintro e w3 ⟨rfl, hP, hK⟩
      have HN3 := Lib.hid (Now.call (w := w) (s := s1) (by repeat (first | with_reducible exact HNr.out | with_reducible refine Now.alloc ?_ _ | with_reducible refine Now.drew ?_ | with_reducible refine Now.drewN ?_ _ | with_reducible refine Now.setCell ?_ _ _ ?_ | (dsimp only; omega) | omega)) hP hK)
      clear hP hK
      go_wp2_with fail
      rw [HE.out]
      go_ret
      exact Now.fin (by repeat (first | with_reducible exact HN3.out | with_reducible refine Now.alloc ?_ _ | with_reducible refine Now.drew ?_ | with_reducible refine Now.drewN ?_ _ | with_reducible refine Now.setCell ?_ _ _ ?_ | (dsimp only; omega) | omega))
theorem base_any (c : Cx) (hc : c.Ok) (s : St) (w : World) (h : PIn w c s) :
    Calls Tryd.prog 50 #[pv c] w (Does c (P.base c.l s).2 (.int .i64 (P.base c.l s).1) w) := by
  cases hn : P.is c.l [118, 111, 105, 100] s with
  | false =>
    have := base_loop c hc s w h hn _ rfl
    unfold P.base
    rw [hn]
    exact this
  | true =>
    have HN := Lib.hid (Now.start h)
    have hg := HN.out.g
    have CV := fun W H => Lib.hid (accept_any c hc s W H [118, 111, 105, 100])
    have e : P.acc c.l [118, 111, 105, 100] s = P.next c.l s := by simp [P.acc, hn]
    have e2 : P.base c.l s = (0, P.next c.l s) := by simp [P.base, hn]
    rw [hn, e] at CV
    rw [e2]
    clear h hn e e2
    unfold pv
    go_enter Tryd.func50, Tryd.ntmps50
    go_wp2_with fail
    refine (CV _ (Now.pin (w := w) (by repeat (first | with_reducible exact HN.out | with_reducible refine Now.alloc ?_ _ | with_reducible refine Now.drew ?_ | with_reducible refine Now.drewN ?_ _ | with_reducible refine Now.setCell ?_ _ _ ?_ | (dsimp only; omega) | omega)))).out.mono ?_
    rintro e w1 ⟨rfl, hP, hK⟩
    have hz_w1 := hK.size
    try simp only [World.size_alloc, World.size_setCell, World.size_drew, World.heap_drewN] at hz_w1
    have HN1 := Lib.hid (Now.call (w := w) (s := s) (by repeat (first | with_reducible exact HN.out | with_reducible refine Now.alloc ?_ _ | with_reducible refine Now.drew ?_ | with_reducible refine Now.drewN ?_ _ | with_reducible refine Now.setCell ?_ _ _ ?_ | (dsimp only; omega) | omega)) hP hK)
    clear hP hK
    go_wp2_with fail
    go_ret
    exact Now.fin (by repeat (first | with_reducible exact HN1.out | with_reducible refine Now.alloc ?_ _ | with_reducible refine Now.drew ?_ | with_reducible refine Now.drewN ?_ _ | with_reducible refine Now.setCell ?_ _ _ ?_ | (dsimp only; omega) | omega))
end Go.Proofs.YtjmemapkipkocaaDoor

/-
  Types whole, lengths.
-/
namespace Go.Proofs.YtjmemapkipkocaaDoor
open Go.RowKit Go.Maps
set_option linter.unusedVariables false
set_option linter.unusedSimpArgs false
set_option maxRecDepth 100000

theorem OwnB.set {w : World} {b : Nat} {cs : Array Value} {T : TypeId} (h : OwnB w b cs T) (i : Nat) (v : Value) : OwnB (w.setCell ⟨b, i, none⟩ v) b (cs.setIfInBounds i v) T := ⟨blk_set h.blk i v⟩
theorem typeOf_any (c : Cx) (hc : c.Ok) (s : St) (w : World) (h : PIn w c s) :
    Calls Tryd.prog 37 #[pv c] w (Does c (P.typ c.l s).2 (.agg #[.int .i64 ((P.typ c.l s).1).kind, .int .i64 ((P.typ c.l s).1).ptr, .int .i64 ((P.typ c.l s).1).len]) w) := by
  have HN := Lib.hid (Now.start h)
  have hg := HN.out.g
  have hgt := HN.out.gt
  have CB := fun W H => Lib.hid (base_any c hc s W H)
  clear h
  obtain ⟨B, hB⟩ : ∃ B, B = P.base c.l s := ⟨_, rfl⟩
  obtain ⟨R, hR⟩ : ∃ R, R = P.stars c.l 4 0 B.2 := ⟨_, rfl⟩
  have e : P.typ c.l s = (⟨B.1, R.1, 0⟩, R.2) := by rw [hR, hB]; rfl
  rw [e]
  clear e
  rw [← hB] at CB
  have HR := Lib.hid hR
  clear hR hB
  unfold pv
  go_enter Tryd.func37, Tryd.ntmps37
  go_wp2_with fail
  refine (CB _ (Now.pin (w := w) (by repeat (first | with_reducible exact HN.out | with_reducible refine Now.alloc ?_ _ | with_reducible refine Now.drew ?_ | with_reducible refine Now.drewN ?_ _ | with_reducible refine Now.setCell ?_ _ _ ?_ | (dsimp only; omega) | omega)))).out.mono ?_
  rintro e w1 ⟨rfl, hP, hK⟩
  have hz_w1 := hK.size
  try simp only [World.size_alloc, World.size_setCell, World.size_drew, World.heap_drewN] at hz_w1
  have O_w1_0 : OwnB w1 (w.heap.size) #[.int .i64 0, .int .i64 0, .int .i64 0] 47 := OwnB.call OwnB.au hK (by simp only [List.mem_singleton]; omega)
  obtain ⟨y_w1_0, x_w1_0, b_w1_0⟩ := O_w1_0.facts
  have HN1 := Lib.hid (Now.call (w := w) (s := s) (by repeat (first | with_reducible exact HN.out | with_reducible refine Now.alloc ?_ _ | with_reducible refine Now.drew ?_ | with_reducible refine Now.drewN ?_ _ | with_reducible refine Now.setCell ?_ _ _ ?_ | (dsimp only; omega) | omega)) hP hK)
  clear hP hK
  go_wp2_with fail
  have O1 : OwnB (w1.alloc (.cells #[.int .i64 B.1, .int .i64 0, .int .i64 0] 47)) w1.heap.size #[.int .i64 B.1, .int .i64 0, .int .i64 0] 47 := OwnB.new rfl
  have O2 : OwnB (w1.alloc (.cells #[.int .i64 B.1, .int .i64 0, .int .i64 0] 47)) w.heap.size #[.int .i64 0, .int .i64 0, .int .i64 0] 47 := O_w1_0.alloc _
  have HN1b := Lib.hid (HN1.out.alloc (.cells #[.int .i64 B.1, .int .i64 0, .int .i64 0] 47))
  clear CB y_w1_0 x_w1_0
  go_loopg [] 4 (fun k wr => ∃ (p : Int) (s2 : St), (0 ≤ p ∧ p ≤ 3) ∧ p + k = 4 ∧ Now c w s2 wr ∧ R = P.stars c.l k p s2 ∧ OwnB wr w1.heap.size #[.int .i64 B.1, .int .i64 p, .int .i64 0] 47 ∧ OwnB wr w.heap.size #[.int .i64 0, .int .i64 0, .int .i64 0] 47)
  case atStart => exact ⟨0, B.2, ⟨by omega, by omega⟩, by omega, HN1b.out, HR.out, O1, O2⟩
  case round =>
    obtain ⟨p, s2, ⟨hp0, hp1⟩, hpk, hN, hR, O3, O4⟩ := hrel
    clear O1 O2
    have HNr := Lib.hid hN
    have HRr := Lib.hid hR
    clear hN hR
    have CI := fun W H => Lib.hid (is_any c hc s2 W H [42])
    have CT := fun W H => Lib.hid (token_any c hc s2 W H)
    have CX := fun W H => Lib.hid (next_any c hc s2 W H)
    have CF := fun W H => Lib.hid (fail_any c hc s2 W H 2 (P.tok c.l s2).pos)
    have tk0 := tok_field0
    have tk1 := tok_field1
    have tk2 := tok_field2
    have tk3 := tok_field3
    cases hk : P.is c.l [42] s2 with
    | false =>
      have e : R = (p, s2) := by
        rw [HRr.out]
        cases gk with
        | zero => rfl
        | succ f => simp [P.stars, hk]
      have HE := Lib.hid e
      rw [hk] at CI
      clear e hk
      go_wp2_with fail
      refine (CI _ (Now.pin (w := w) (by repeat (first | with_reducible exact HNr.out | with_reducible refine Now.alloc ?_ _ | with_reducible refine Now.drew ?_ | with_reducible refine Now.drewN ?_ _ | with_reducible refine Now.setCell ?_ _ _ ?_ | (dsimp only; omega) | omega)))).out.mono ?_
      rintro e w2 ⟨rfl, hP, hK⟩
      have O_w2_0 : OwnB w2 (w1.heap.size) #[.int .i64 B.1, .int .i64 p, .int .i64 0] 47 := OwnB.call OwnB.au hK (by simp only [List.mem_singleton]; omega)
      obtain ⟨y_w2_0, x_w2_0, b_w2_0⟩ := O_w2_0.facts
      have O_w2_1 : OwnB w2 (w.heap.size) #[.int .i64 0, .int .i64 0, .int .i64 0] 47 := OwnB.call OwnB.au hK (by simp only [List.mem_singleton]; omega)
      obtain ⟨y_w2_1, x_w2_1, b_w2_1⟩ := O_w2_1.facts
      have HN2 := Lib.hid (Now.call (w := w) (s := s2) (by repeat (first | with_reducible exact HNr.out | with_reducible refine Now.alloc ?_ _ | with_reducible refine Now.drew ?_ | with_reducible refine Now.drewN ?_ _ | with_reducible refine Now.setCell ?_ _ _ ?_ | (dsimp only; omega) | omega)) hP hK)
      clear hP hK
      go_wp2_with fail
      rw [HE.out]
      refine bodyPost_ret (v := .agg #[.int .i64 B.1, .int .i64 p, .int .i64 0]) (by simp [results, Tryd.results37, go_sem, *]) rfl ?_
      exact Now.fin (by repeat (first | with_reducible exact HN2.out | with_reducible refine Now.alloc ?_ _ | with_reducible refine Now.drew ?_ | with_reducible refine Now.drewN ?_ _ | with_reducible refine Now.setCell ?_ _ _ ?_ | (dsimp only; omega) | omega))
    | true =>
      rw [hk] at CI
      by_cases hp3 : p = 3
      · have h3 : (p == 3) = true := by simp [hp3]
        have e : R = (p, P.fail c.l 2 (P.tok c.l s2).pos s2) := by
          rw [HRr.out]
          cases gk with
          | zero => omega
          | succ f => simp [P.stars, hk, hp3]
        have HE := Lib.hid e
        clear e hk hp3
        go_wp2_with fail
        refine (CI _ (Now.pin (w := w) (by repeat (first | with_reducible exact HNr.out | with_reducible refine Now.alloc ?_ _ | with_reducible refine Now.drew ?_ | with_reducible refine Now.drewN ?_ _ | with_reducible refine Now.setCell ?_ _ _ ?_ | (dsimp only; omega) | omega)))).out.mono ?_
        rintro e w2 ⟨rfl, hP, hK⟩
        have O_w2_0 : OwnB w2 (w1.heap.size) #[.int .i64 B.1, .int .i64 p, .int .i64 0] 47 := OwnB.call OwnB.au hK (by simp only [List.mem_singleton]; omega)
        obtain ⟨y_w2_0, x_w2_0, b_w2_0⟩ := O_w2_0.facts
        have O_w2_1 : OwnB w2 (w.heap.size) #[.int .i64 0, .int .i64 0, .int .i64 0] 47 := OwnB.call OwnB.au hK (by simp only [List.mem_singleton]; omega)
        obtain ⟨y_w2_1, x_w2_1, b_w2_1⟩ := O_w2_1.facts
        have HN2 := Lib.hid (Now.call (w := w) (s := s2) (by repeat (first | with_reducible exact HNr.out | with_reducible refine Now.alloc ?_ _ | with_reducible refine Now.drew ?_ | with_reducible refine Now.drewN ?_ _ | with_reducible refine Now.setCell ?_ _ _ ?_ | (dsimp only; omega) | omega)) hP hK)
        clear hP hK
        go_wp2_with fail
        refine (CT _ (Now.pin (w := w) (by repeat (first | with_reducible exact HN2.out | with_reducible refine Now.alloc ?_ _ | with_reducible refine Now.drew ?_ | with_reducible refine Now.drewN ?_ _ | with_reducible refine Now.setCell ?_ _ _ ?_ | (dsimp only; omega) | omega)))).out.mono ?_
        rintro e w3 ⟨rfl, hP, hK⟩
        have O_w3_0 : OwnB w3 (w1.heap.size) #[.int .i64 B.1, .int .i64 p, .int .i64 0] 47 := OwnB.call OwnB.au hK (by simp only [List.mem_singleton]; omega)
        obtain ⟨y_w3_0, x_w3_0, b_w3_0⟩ := O_w3_0.facts
        have O_w3_1 : OwnB w3 (w.heap.size) #[.int .i64 0, .int .i64 0, .int .i64 0] 47 := OwnB.call OwnB.au hK (by simp only [List.mem_singleton]; omega)
        obtain ⟨y_w3_1, x_w3_1, b_w3_1⟩ := O_w3_1.facts
        have HN3 := Lib.hid (Now.call (w := w) (s := s2) (by repeat (first | with_reducible exact HN2.out | with_reducible refine Now.alloc ?_ _ | with_reducible refine Now.drew ?_ | with_reducible refine Now.drewN ?_ _ | with_reducible refine Now.setCell ?_ _ _ ?_ | (dsimp only; omega) | omega)) hP hK)
        clear hP hK
        go_wp2_with fail
        refine (CF _ (Now.pin (w := w) (by repeat (first | with_reducible exact HN3.out | with_reducible refine Now.alloc ?_ _ | with_reducible refine Now.drew ?_ | with_reducible refine Now.drewN ?_ _ | with_reducible refine Now.setCell ?_ _ _ ?_ | (dsimp only; omega) | omega)))).out.mono ?_
        rintro e w4 ⟨rfl, hP, hK⟩
        have O_w4_0 : OwnB w4 (w1.heap.size) #[.int .i64 B.1, .int .i64 p, .int .i64 0] 47 := OwnB.call OwnB.au hK (by simp only [List.mem_singleton]; omega)
        obtain ⟨y_w4_0, x_w4_0, b_w4_0⟩ := O_w4_0.facts
        have O_w4_1 : OwnB w4 (w.heap.size) #[.int .i64 0, .int .i64 0, .int .i64 0] 47 := OwnB.call OwnB.au hK (by simp only [List.mem_singleton]; omega)
        obtain ⟨y_w4_1, x_w4_1, b_w4_1⟩ := O_w4_1.facts
        have HN4 := Lib.hid (Now.call (w := w) (s := s2) (by repeat (first | with_reducible exact HN3.out | with_reducible refine Now.alloc ?_ _ | with_reducible refine Now.drew ?_ | with_reducible refine Now.drewN ?_ _ | with_reducible refine Now.setCell ?_ _ _ ?_ | (dsimp only; omega) | omega)) hP hK)
        clear hP hK
        go_wp2_with fail
        rw [HE.out]
        refine bodyPost_ret (v := .agg #[.int .i64 B.1, .int .i64 p, .int .i64 0]) (by simp [results, Tryd.results37, go_sem, *]) rfl ?_
        exact Now.fin (by repeat (first | with_reducible exact HN4.out | with_reducible refine Now.alloc ?_ _ | with_reducible refine Now.drew ?_ | with_reducible refine Now.drewN ?_ _ | with_reducible refine Now.setCell ?_ _ _ ?_ | (dsimp only; omega) | omega))
      · have h3 : (p == 3) = false := by simp [hp3]
        have hp4 : p ≤ 2 := by omega
        have hw : wrap64 (p + 1) = p + 1 := wrapJ (by omega) (by omega)
        have e : 0 < gk ∧ R = P.stars c.l (gk - 1) (p + 1) (P.next c.l s2) := by
          refine ⟨by omega, ?_⟩
          rw [HRr.out]
          cases gk with
          | zero => omega
          | succ f => simp [P.stars, hk, hp3]
        have HE := Lib.hid e
        clear e hk hp3
        go_wp2_with fail
        refine (CI _ (Now.pin (w := w) (by repeat (first | with_reducible exact HNr.out | with_reducible refine Now.alloc ?_ _ | with_reducible refine Now.drew ?_ | with_reducible refine Now.drewN ?_ _ | with_reducible refine Now.setCell ?_ _ _ ?_ | (dsimp only; omega) | omega)))).out.mono ?_
        rintro e w2 ⟨rfl, hP, hK⟩
        have O_w2_0 : OwnB w2 (w1.heap.size) #[.int .i64 B.1, .int .i64 p, .int .i64 0] 47 := OwnB.call OwnB.au hK (by simp only [List.mem_singleton]; omega)
        obtain ⟨y_w2_0, x_w2_0, b_w2_0⟩ := O_w2_0.facts
        have O_w2_1 : OwnB w2 (w.heap.size) #[.int .i64 0, .int .i64 0, .int .i64 0] 47 := OwnB.call OwnB.au hK (by simp only [List.mem_singleton]; omega)
        obtain ⟨y_w2_1, x_w2_1, b_w2_1⟩ := O_w2_1.facts
        have HN2 := Lib.hid (Now.call (w := w) (s := s2) (by repeat (first | with_reducible exact HNr.out | with_reducible refine Now.alloc ?_ _ | with_reducible refine Now.drew ?_ | with_reducible refine Now.drewN ?_ _ | with_reducible refine Now.setCell ?_ _ _ ?_ | (dsimp only; omega) | omega)) hP hK)
        clear hP hK
        go_wp2_with fail
        refine (CX _ (Now.pin (w := w) (by repeat (first | with_reducible exact HN2.out | with_reducible refine Now.alloc ?_ _ | with_reducible refine Now.drew ?_ | with_reducible refine Now.drewN ?_ _ | with_reducible refine Now.setCell ?_ _ _ ?_ | (dsimp only; omega) | omega)))).out.mono ?_
        rintro e w3 ⟨rfl, hP, hK⟩
        have O_w3_0 : OwnB w3 (w1.heap.size) #[.int .i64 B.1, .int .i64 p, .int .i64 0] 47 := OwnB.call OwnB.au hK (by simp only [List.mem_singleton]; omega)
        obtain ⟨y_w3_0, x_w3_0, b_w3_0⟩ := O_w3_0.facts
        have O_w3_1 : OwnB w3 (w.heap.size) #[.int .i64 0, .int .i64 0, .int .i64 0] 47 := OwnB.call OwnB.au hK (by simp only [List.mem_singleton]; omega)
        obtain ⟨y_w3_1, x_w3_1, b_w3_1⟩ := O_w3_1.facts
        have HN3 := Lib.hid (Now.call (w := w) (s := s2) (by repeat (first | with_reducible exact HN2.out | with_reducible refine Now.alloc ?_ _ | with_reducible refine Now.drew ?_ | with_reducible refine Now.drewN ?_ _ | with_reducible refine Now.setCell ?_ _ _ ?_ | (dsimp only; omega) | omega)) hP hK)
        clear hP hK
        go_wp2_with fail
        go_roundg (gk - 1)
        case measure => have := HE.out.1; omega
        case rel => exact ⟨p + 1, P.next c.l s2, ⟨by omega, by omega⟩, by have := HE.out.1; omega, (by repeat (first | with_reducible exact HN3.out | with_reducible refine Now.alloc ?_ _ | with_reducible refine Now.drew ?_ | with_reducible refine Now.drewN ?_ _ | with_reducible refine Now.setCell ?_ _ _ ?_ | (dsimp only; omega) | omega)), HE.out.2, O_w3_0.set 1 _, O_w3_1.setCell _ _ (by dsimp only; omega)⟩
theorem typeWithin_any (c : Cx) (hc : c.Ok) (s : St) (w : World) (h : PIn w c s) :
    Calls Tryd.prog 94 #[pv c] w (Does c (P.within c.l s).2 (.agg #[.int .i64 ((P.within c.l s).1).kind, .int .i64 ((P.within c.l s).1).ptr, .int .i64 ((P.within c.l s).1).len]) w) := by
  have HN := Lib.hid (Now.start h)
  have hg := HN.out.g
  have hgt := HN.out.gt
  have CN := fun W H => Lib.hid (need_any c hc s W H [40])
  have CT := fun W H => Lib.hid (typeOf_any c hc (P.need c.l [40] s) W H)
  obtain ⟨T, hT⟩ : ∃ T, T = P.typ c.l (P.need c.l [40] s) := ⟨_, rfl⟩
  rw [← hT] at CT
  have CM := fun W H => Lib.hid (need_any c hc T.2 W H [41])
  have e : P.within c.l s = (T.1, P.need c.l [41] T.2) := by rw [hT]; rfl
  rw [e]
  clear h hT e
  unfold pv
  go_enter Tryd.func94, Tryd.ntmps94
  go_wp2_with fail
  refine (CN _ (Now.pin (w := w) (by repeat (first | with_reducible exact HN.out | with_reducible refine Now.alloc ?_ _ | with_reducible refine Now.drew ?_ | with_reducible refine Now.drewN ?_ _ | with_reducible refine Now.setCell ?_ _ _ ?_ | (dsimp only; omega) | omega)))).out.mono ?_
  rintro e w1 ⟨rfl, hP, hK⟩
  have hz_w1 := hK.size
  try simp only [World.size_alloc, World.size_setCell, World.size_drew, World.heap_drewN] at hz_w1
  have O_w1_0 : OwnB w1 (w.heap.size) #[.int .i64 0, .int .i64 0, .int .i64 0] 47 := OwnB.call OwnB.au hK (by simp only [List.mem_singleton]; omega)
  obtain ⟨y_w1_0, x_w1_0, b_w1_0⟩ := O_w1_0.facts
  have HN1 := Lib.hid (Now.call (w := w) (s := s) (by repeat (first | with_reducible exact HN.out | with_reducible refine Now.alloc ?_ _ | with_reducible refine Now.drew ?_ | with_reducible refine Now.drewN ?_ _ | with_reducible refine Now.setCell ?_ _ _ ?_ | (dsimp only; omega) | omega)) hP hK)
  clear hP hK
  go_wp2_with fail
  refine (CT _ (Now.pin (w := w) (by repeat (first | with_reducible exact HN1.out | with_reducible refine Now.alloc ?_ _ | with_reducible refine Now.drew ?_ | with_reducible refine Now.drewN ?_ _ | with_reducible refine Now.setCell ?_ _ _ ?_ | (dsimp only; omega) | omega)))).out.mono ?_
  rintro e w2 ⟨rfl, hP, hK⟩
  have hz_w2 := hK.size
  try simp only [World.size_alloc, World.size_setCell, World.size_drew, World.heap_drewN] at hz_w2
  have O_w2_0 : OwnB w2 (w.heap.size) #[.int .i64 0, .int .i64 0, .int .i64 0] 47 := OwnB.call OwnB.au hK (by simp only [List.mem_singleton]; omega)
  obtain ⟨y_w2_0, x_w2_0, b_w2_0⟩ := O_w2_0.facts
  have HN2 := Lib.hid (Now.call (w := w) (s := P.need c.l [40] s) (by repeat (first | with_reducible exact HN1.out | with_reducible refine Now.alloc ?_ _ | with_reducible refine Now.drew ?_ | with_reducible refine Now.drewN ?_ _ | with_reducible refine Now.setCell ?_ _ _ ?_ | (dsimp only; omega) | omega)) hP hK)
  clear hP hK
  go_wp2_with fail
  refine (CM _ (Now.pin (w := w) (by repeat (first | with_reducible exact HN2.out | with_reducible refine Now.alloc ?_ _ | with_reducible refine Now.drew ?_ | with_reducible refine Now.drewN ?_ _ | with_reducible refine Now.setCell ?_ _ _ ?_ | (dsimp only; omega) | omega)))).out.mono ?_
  rintro e w3 ⟨rfl, hP, hK⟩
  have hz_w3 := hK.size
  try simp only [World.size_alloc, World.size_setCell, World.size_drew, World.heap_drewN] at hz_w3
  have O_w3_0 : OwnB w3 (w.heap.size) #[.int .i64 0, .int .i64 0, .int .i64 0] 47 := OwnB.call OwnB.au hK (by simp only [List.mem_singleton]; omega)
  obtain ⟨y_w3_0, x_w3_0, b_w3_0⟩ := O_w3_0.facts
  have O_w3_1 : OwnB w3 (w2.heap.size) #[.int .i64 T.1.kind, .int .i64 T.1.ptr, .int .i64 T.1.len] 47 := OwnB.call OwnB.au hK (by simp only [List.mem_singleton]; omega)
  obtain ⟨y_w3_1, x_w3_1, b_w3_1⟩ := O_w3_1.facts
  have HN3 := Lib.hid (Now.call (w := w) (s := T.2) (by repeat (first | with_reducible exact HN2.out | with_reducible refine Now.alloc ?_ _ | with_reducible refine Now.drew ?_ | with_reducible refine Now.drewN ?_ _ | with_reducible refine Now.setCell ?_ _ _ ?_ | (dsimp only; omega) | omega)) hP hK)
  clear hP hK
  go_wp2_with fail
  refine bodyPost_ret (v := (.agg #[.int .i64 (T.1).kind, .int .i64 (T.1).ptr, .int .i64 (T.1).len])) (by simp [results, Tryd.results94, go_sem, *]) rfl ?_
  exact Now.fin (by repeat (first | with_reducible exact HN3.out | with_reducible refine Now.alloc ?_ _ | with_reducible refine Now.drew ?_ | with_reducible refine Now.drewN ?_ _ | with_reducible refine Now.setCell ?_ _ _ ?_ | (dsimp only; omega) | omega))
theorem length_any (c : Cx) (hc : c.Ok) (s : St) (w : World) (h : PIn w c s) :
    Calls Tryd.prog 55 #[pv c] w (Does c (P.length c.l s).2 (.int .i64 (P.length c.l s).1) w) := by
  have HN := Lib.hid (Now.start h)
  have hg := HN.out.g
  have hgt := HN.out.gt
  have CA := fun W H => Lib.hid (accept_any c hc s W H [91])
  clear h
  unfold pv
  cases hk : P.is c.l [91] s with
  | false =>
    have e : P.length c.l s = (0, s) := by simp [P.length, hk]
    have e2 : P.acc c.l [91] s = s := by simp [P.acc, hk]
    rw [e]
    rw [hk, e2] at CA
    clear hk e e2
    go_enter Tryd.func55, Tryd.ntmps55
    go_wp2_with fail
    refine (CA _ (Now.pin (w := w) (by repeat (first | with_reducible exact HN.out | with_reducible refine Now.alloc ?_ _ | with_reducible refine Now.drew ?_ | with_reducible refine Now.drewN ?_ _ | with_reducible refine Now.setCell ?_ _ _ ?_ | (dsimp only; omega) | omega)))).out.mono ?_
    rintro e w1 ⟨rfl, hP, hK⟩
    have hz_w1 := hK.size
    try simp only [World.size_alloc, World.size_setCell, World.size_drew, World.heap_drewN] at hz_w1
    have HN1 := Lib.hid (Now.call (w := w) (s := s) (by repeat (first | with_reducible exact HN.out | with_reducible refine Now.alloc ?_ _ | with_reducible refine Now.drew ?_ | with_reducible refine Now.drewN ?_ _ | with_reducible refine Now.setCell ?_ _ _ ?_ | (dsimp only; omega) | omega)) hP hK)
    clear hP hK
    go_wp2_with fail
    go_ret
    exact Now.fin (by repeat (first | with_reducible exact HN1.out | with_reducible refine Now.alloc ?_ _ | with_reducible refine Now.drew ?_ | with_reducible refine Now.drewN ?_ _ | with_reducible refine Now.setCell ?_ _ _ ?_ | (dsimp only; omega) | omega))
  | true =>
    obtain ⟨s1, hs1⟩ : ∃ s1, s1 = P.next c.l s := ⟨_, rfl⟩
    have e : P.length c.l s = P.length2 c.l s1 := by simp [P.length, hk, hs1]
    have e2 : P.acc c.l [91] s = s1 := by simp [P.acc, hk, hs1]
    rw [e]
    rw [hk, e2] at CA
    have CM := fun W H => Lib.hid (number_any c hc s1 W H)
    obtain ⟨T, hT⟩ : ∃ T, T = P.kindT c.l 2 s1 := ⟨_, rfl⟩
    obtain ⟨s2, hs2⟩ : ∃ s2, s2 = P.kind c.l 2 s1 := ⟨_, rfl⟩
    rw [← hT, ← hs2] at CM
    by_cases hr : 64 ≤ IntKind.u64.wrap (IntKind.u64.wrap T.n - 1)
    · have CF := fun W H => Lib.hid (fail_any c hc s2 W H 10 T.pos)
      have CN := fun W H => Lib.hid (need_any c hc (P.fail c.l 10 T.pos s2) W H [93])
      have hd : decide (64 ≤ IntKind.u64.wrap (IntKind.u64.wrap T.n - 1)) = true := by simpa using hr
      have e3 : P.length2 c.l s1 = (T.n, P.need c.l [93] (P.fail c.l 10 T.pos s2)) := by simp only [P.length2, ← hT, ← hs2]; rw [if_pos hr]
      rw [e3]
      clear hk e e2 e3 hr hT hs2
      go_enter Tryd.func55, Tryd.ntmps55
      go_wp2_with fail
      refine (CA _ (Now.pin (w := w) (by repeat (first | with_reducible exact HN.out | with_reducible refine Now.alloc ?_ _ | with_reducible refine Now.drew ?_ | with_reducible refine Now.drewN ?_ _ | with_reducible refine Now.setCell ?_ _ _ ?_ | (dsimp only; omega) | omega)))).out.mono ?_
      rintro e w1 ⟨rfl, hP, hK⟩
      have hz_w1 := hK.size
      try simp only [World.size_alloc, World.size_setCell, World.size_drew, World.heap_drewN] at hz_w1
      have HN1 := Lib.hid (Now.call (w := w) (s := s) (by repeat (first | with_reducible exact HN.out | with_reducible refine Now.alloc ?_ _ | with_reducible refine Now.drew ?_ | with_reducible refine Now.drewN ?_ _ | with_reducible refine Now.setCell ?_ _ _ ?_ | (dsimp only; omega) | omega)) hP hK)
      clear hP hK
      go_wp2_with fail
      refine (CM _ (Now.pin (w := w) (by repeat (first | with_reducible exact HN1.out | with_reducible refine Now.alloc ?_ _ | with_reducible refine Now.drew ?_ | with_reducible refine Now.drewN ?_ _ | with_reducible refine Now.setCell ?_ _ _ ?_ | (dsimp only; omega) | omega)))).out.mono ?_
      rintro e w2 ⟨rfl, hP, hK⟩
      have hz_w2 := hK.size
      try simp only [World.size_alloc, World.size_setCell, World.size_drew, World.heap_drewN] at hz_w2
      have HN2 := Lib.hid (Now.call (w := w) (s := s1) (by repeat (first | with_reducible exact HN1.out | with_reducible refine Now.alloc ?_ _ | with_reducible refine Now.drew ?_ | with_reducible refine Now.drewN ?_ _ | with_reducible refine Now.setCell ?_ _ _ ?_ | (dsimp only; omega) | omega)) hP hK)
      clear hP hK
      go_wp2_with fail
      refine (CF _ (Now.pin (w := w) (by repeat (first | with_reducible exact HN2.out | with_reducible refine Now.alloc ?_ _ | with_reducible refine Now.drew ?_ | with_reducible refine Now.drewN ?_ _ | with_reducible refine Now.setCell ?_ _ _ ?_ | (dsimp only; omega) | omega)))).out.mono ?_
      rintro e w3 ⟨rfl, hP, hK⟩
      have hz_w3 := hK.size
      try simp only [World.size_alloc, World.size_setCell, World.size_drew, World.heap_drewN] at hz_w3
      have O_w3_0 : OwnB w3 (w2.heap.size) #[.int .i64 (T).kind, .string ⟨(T).text.toArray⟩, .int .i64 (T).n, .int .i64 (T).pos] 60 := OwnB.call OwnB.au hK (by simp only [List.mem_singleton]; omega)
      obtain ⟨y_w3_0, x_w3_0, b_w3_0⟩ := O_w3_0.facts
      have HN3 := Lib.hid (Now.call (w := w) (s := s2) (by repeat (first | with_reducible exact HN2.out | with_reducible refine Now.alloc ?_ _ | with_reducible refine Now.drew ?_ | with_reducible refine Now.drewN ?_ _ | with_reducible refine Now.setCell ?_ _ _ ?_ | (dsimp only; omega) | omega)) hP hK)
      clear hP hK
      go_wp2_with fail
      refine (CN _ (Now.pin (w := w) (by repeat (first | with_reducible exact HN3.out | with_reducible refine Now.alloc ?_ _ | with_reducible refine Now.drew ?_ | with_reducible refine Now.drewN ?_ _ | with_reducible refine Now.setCell ?_ _ _ ?_ | (dsimp only; omega) | omega)))).out.mono ?_
      rintro e w4 ⟨rfl, hP, hK⟩
      have hz_w4 := hK.size
      try simp only [World.size_alloc, World.size_setCell, World.size_drew, World.heap_drewN] at hz_w4
      have O_w4_0 : OwnB w4 (w2.heap.size) #[.int .i64 (T).kind, .string ⟨(T).text.toArray⟩, .int .i64 (T).n, .int .i64 (T).pos] 60 := OwnB.call OwnB.au hK (by simp only [List.mem_singleton]; omega)
      obtain ⟨y_w4_0, x_w4_0, b_w4_0⟩ := O_w4_0.facts
      have HN4 := Lib.hid (Now.call (w := w) (s := P.fail c.l 10 T.pos s2) (by repeat (first | with_reducible exact HN3.out | with_reducible refine Now.alloc ?_ _ | with_reducible refine Now.drew ?_ | with_reducible refine Now.drewN ?_ _ | with_reducible refine Now.setCell ?_ _ _ ?_ | (dsimp only; omega) | omega)) hP hK)
      clear hP hK
      go_wp2_with fail
      go_ret
      exact Now.fin (by repeat (first | with_reducible exact HN4.out | with_reducible refine Now.alloc ?_ _ | with_reducible refine Now.drew ?_ | with_reducible refine Now.drewN ?_ _ | with_reducible refine Now.setCell ?_ _ _ ?_ | (dsimp only; omega) | omega))
    · have CN := fun W H => Lib.hid (need_any c hc s2 W H [93])
      have hd : decide (64 ≤ IntKind.u64.wrap (IntKind.u64.wrap T.n - 1)) = false := by simpa using hr
      have e3 : P.length2 c.l s1 = (T.n, P.need c.l [93] s2) := by simp only [P.length2, ← hT, ← hs2]; rw [if_neg hr]
      rw [e3]
      clear hk e e2 e3 hr hT hs2
      go_enter Tryd.func55, Tryd.ntmps55
      go_wp2_with fail
      refine (CA _ (Now.pin (w := w) (by repeat (first | with_reducible exact HN.out | with_reducible refine Now.alloc ?_ _ | with_reducible refine Now.drew ?_ | with_reducible refine Now.drewN ?_ _ | with_reducible refine Now.setCell ?_ _ _ ?_ | (dsimp only; omega) | omega)))).out.mono ?_
      rintro e w1 ⟨rfl, hP, hK⟩
      have hz_w1 := hK.size
      try simp only [World.size_alloc, World.size_setCell, World.size_drew, World.heap_drewN] at hz_w1
      have HN1 := Lib.hid (Now.call (w := w) (s := s) (by repeat (first | with_reducible exact HN.out | with_reducible refine Now.alloc ?_ _ | with_reducible refine Now.drew ?_ | with_reducible refine Now.drewN ?_ _ | with_reducible refine Now.setCell ?_ _ _ ?_ | (dsimp only; omega) | omega)) hP hK)
      clear hP hK
      go_wp2_with fail
      refine (CM _ (Now.pin (w := w) (by repeat (first | with_reducible exact HN1.out | with_reducible refine Now.alloc ?_ _ | with_reducible refine Now.drew ?_ | with_reducible refine Now.drewN ?_ _ | with_reducible refine Now.setCell ?_ _ _ ?_ | (dsimp only; omega) | omega)))).out.mono ?_
      rintro e w2 ⟨rfl, hP, hK⟩
      have hz_w2 := hK.size
      try simp only [World.size_alloc, World.size_setCell, World.size_drew, World.heap_drewN] at hz_w2
      have HN2 := Lib.hid (Now.call (w := w) (s := s1) (by repeat (first | with_reducible exact HN1.out | with_reducible refine Now.alloc ?_ _ | with_reducible refine Now.drew ?_ | with_reducible refine Now.drewN ?_ _ | with_reducible refine Now.setCell ?_ _ _ ?_ | (dsimp only; omega) | omega)) hP hK)
      clear hP hK
      go_wp2_with fail
      refine (CN _ (Now.pin (w := w) (by repeat (first | with_reducible exact HN2.out | with_reducible refine Now.alloc ?_ _ | with_reducible refine Now.drew ?_ | with_reducible refine Now.drewN ?_ _ | with_reducible refine Now.setCell ?_ _ _ ?_ | (dsimp only; omega) | omega)))).out.mono ?_
      rintro e w4 ⟨rfl, hP, hK⟩
      have hz_w4 := hK.size
      try simp only [World.size_alloc, World.size_setCell, World.size_drew, World.heap_drewN] at hz_w4
      have O_w4_0 : OwnB w4 (w2.heap.size) #[.int .i64 (T).kind, .string ⟨(T).text.toArray⟩, .int .i64 (T).n, .int .i64 (T).pos] 60 := OwnB.call OwnB.au hK (by simp only [List.mem_singleton]; omega)
      obtain ⟨y_w4_0, x_w4_0, b_w4_0⟩ := O_w4_0.facts
      have HN4 := Lib.hid (Now.call (w := w) (s := s2) (by repeat (first | with_reducible exact HN2.out | with_reducible refine Now.alloc ?_ _ | with_reducible refine Now.drew ?_ | with_reducible refine Now.drewN ?_ _ | with_reducible refine Now.setCell ?_ _ _ ?_ | (dsimp only; omega) | omega)) hP hK)
      clear hP hK
      go_wp2_with fail
      go_ret
      exact Now.fin (by repeat (first | with_reducible exact HN4.out | with_reducible refine Now.alloc ?_ _ | with_reducible refine Now.drew ?_ | with_reducible refine Now.drewN ?_ _ | with_reducible refine Now.setCell ?_ _ _ ?_ | (dsimp only; omega) | omega))
end Go.Proofs.YtjmemapkipkocaaDoor

/-
  Lists of expressions in memory: each list's row in a block of its own.
-/
namespace Go.Proofs.YtjmemapkipkocaaDoor
open Go.RowKit Go.Maps
set_option linter.unusedVariables false
set_option linter.unusedSimpArgs false

def exC (e : Ex) (kv : Value) : List Value := [.int .i64 e.op, .int .i64 e.ty.kind, .int .i64 e.ty.ptr, .int .i64 e.ty.len, .string ⟨e.nm.toArray⟩, .int .i64 e.n, kv, .int .i64 e.pos]
def ownF (v : Value) : List Nat := v.ownBlock.toList
/-- Expressions lie in these cells; F: the blocks of all that hangs below them. -/
def ExsIn (w : World) : Exs → List Value → List Nat → Prop
  | .nil, xs, F => xs = [] ∧ F = []
  | .cons op ty nm n kids pos rest, xs, F => ∃ kv ks F0 xs' F', xs = exC ⟨op, ty, nm, n, kids, pos⟩ kv ++ xs' ∧ F = (ownF kv ++ F0) ++ F' ∧ w.ownsRow 0 105 8 kv kids.len ks ∧ ExsIn w kids ks F0 ∧ ExsIn w rest xs' F'
/-- A slice holds these expressions. -/
def RowX (w : World) (kids : Exs) (kv : Value) (F : List Nat) : Prop := ∃ ks F0, w.ownsRow 0 105 8 kv kids.len ks ∧ ExsIn w kids ks F0 ∧ F = ownF kv ++ F0
theorem ExsIn.nil {w : World} : ExsIn w .nil [] [] := ⟨rfl, rfl⟩
theorem ExsIn.add {w : World} {a : Ex} {kv : Value} {Fa : List Nat} {r : Exs} {xs : List Value} {F : List Nat} (h : RowX w a.kids kv Fa) (h2 : ExsIn w r xs F) : ExsIn w (.add a r) (exC a kv ++ xs) (Fa ++ F) := by
  obtain ⟨ks, F0, h3, h4, h5⟩ := h
  exact ⟨kv, ks, F0, xs, F, rfl, by rw [h5], h3, h4, h2⟩
theorem ExsIn.snoc {w : World} {a : Ex} {kv : Value} {Fa : List Nat} (h : RowX w a.kids kv Fa) : ∀ (r : Exs) (xs : List Value) (F : List Nat), ExsIn w r xs F → ExsIn w (r.snoc a) (xs ++ exC a kv) (F ++ Fa) := by
  intro r
  induction r with
  | nil =>
    rintro xs F ⟨rfl, rfl⟩
    have := ExsIn.add h (ExsIn.nil (w := w))
    simpa [Exs.snoc] using this
  | cons op ty nm n kids pos rest _ ih =>
    rintro xs F ⟨kv2, ks, F0, xs', F', rfl, rfl, h3, h4, h5⟩
    exact ⟨kv2, ks, F0, xs' ++ exC a kv, F' ++ Fa, by simp, by simp, h3, h4, ih _ _ h5⟩
theorem Exs.snoc_len (a : Ex) : ∀ r : Exs, (r.snoc a).len = r.len + 1 := by
  intro r
  induction r with
  | nil => rfl
  | cons _ _ _ _ _ _ _ _ ih => simp [Exs.snoc, Exs.len, ih]
theorem ownsRow_at {w w' : World} {base n : Nat} {T : TypeId} {sz : Nat} {v : Value} {xs : List Value} (h : w.ownsRow base T sz v n xs) (hb : ∀ b ∈ ownF v, w'.heap[b]? = w.heap[b]?) : w'.ownsRow base T sz v n xs := by
  refine ⟨h.1, ?_⟩
  rcases h.2 with h2 | ⟨g, cap, cur, rfl, a, b, c⟩
  · exact .inl h2
  · exact .inr ⟨g, cap, cur, rfl, a, by rw [hb g (by simp [ownF, Value.ownBlock])]; exact b, c⟩
theorem ExsIn.at_ {w w' : World} : ∀ (r : Exs) (xs : List Value) (F : List Nat), ExsIn w r xs F → (∀ b ∈ F, w'.heap[b]? = w.heap[b]?) → ExsIn w' r xs F := by
  intro r
  induction r with
  | nil => rintro xs F h _; exact h
  | cons op ty nm n kids pos rest ih1 ih =>
    rintro xs F ⟨kv2, ks, F0, xs', F', rfl, rfl, h3, h4, h5⟩ hb
    exact ⟨kv2, ks, F0, xs', F', rfl, rfl, ownsRow_at h3 (fun b hm => hb b (by simp [hm])), ih1 _ _ h4 (fun b hm => hb b (by simp [hm])), ih _ _ h5 (fun b hm => hb b (by simp [hm]))⟩
theorem RowX.at_ {w w' : World} {kids : Exs} {kv : Value} {F : List Nat} (h : RowX w kids kv F) (hb : ∀ b ∈ F, w'.heap[b]? = w.heap[b]?) : RowX w' kids kv F := by
  obtain ⟨ks, F0, h3, h4, rfl⟩ := h
  exact ⟨ks, F0, ownsRow_at h3 (fun b hm => hb b (by simp [hm])), ExsIn.at_ _ _ _ h4 (fun b hm => hb b (by simp [hm])), rfl⟩
/-- A slice of expressions all of whose blocks are new since lo, older than hi, and none of X; no block twice. -/
structure KidsIn (w : World) (lo hi : Nat) (X : List Nat) (kids : Exs) (kv : Value) : Prop where
  hle : hi ≤ w.heap.size
  row : ∃ F, RowX w kids kv F ∧ F.Nodup ∧ ∀ b ∈ F, lo ≤ b ∧ b < hi ∧ b ∉ X
section
variable {w w' : World} {lo hi : Nat} {X : List Nat} {kids : Exs} {kv : Value}
theorem KidsIn.of_heap (h : KidsIn w lo hi X kids kv) (hs : w.heap.size ≤ w'.heap.size) (hb : ∀ b, lo ≤ b → b < hi → b ∉ X → w'.heap[b]? = w.heap[b]?) : KidsIn w' lo hi X kids kv := by
  obtain ⟨h1, F, h2, h3, h4⟩ := h
  exact ⟨Nat.le_trans h1 hs, F, h2.at_ (fun b hm => hb b (h4 b hm).1 (h4 b hm).2.1 (h4 b hm).2.2), h3, h4⟩
theorem KidsIn.wide (h : KidsIn w lo hi X kids kv) {lo' hi' : Nat} (h1 : lo' ≤ lo) (h2 : hi ≤ hi') (h3 : hi' ≤ w.heap.size) : KidsIn w lo' hi' [] kids kv := by
  obtain ⟨_, F, h4, h5, h6⟩ := h
  exact ⟨h3, F, h4, h5, fun b hm => ⟨by have := (h6 b hm).1; omega, by have := (h6 b hm).2.1; omega, by simp⟩⟩
theorem KidsIn.none_ (h : hi ≤ w.heap.size) : KidsIn w lo hi X .nil (.slice none 0 0) := ⟨h, [], ⟨[], [], World.ownsRow_nil _ _ _ _, ExsIn.nil, rfl⟩, by simp, by simp⟩
end
theorem ownsRow_lit {w : World} {g : Nat} {cs : List Value} {T : TypeId} {sz n : Nat} (h : w.heap[g]? = some (.cells cs.toArray T (0, 0))) (hn : cs.length = n * sz) (hl : n ≤ maxLen) : w.ownsRow 0 T sz (.slice (some ⟨g, 0, none⟩) n n) n cs :=
  ⟨hn, .inr ⟨g, n, cs.toArray, rfl, Nat.zero_le _, h, Nat.le_refl _, hl, by simpa using hn, by simp [← hn]⟩⟩
/-- A new row of one. -/
theorem KidsIn.one_ {w : World} {lo hi g : Nat} {X : List Nat} {a : Ex} {kv : Value} (h : KidsIn w lo hi X a.kids kv) (hg : hi ≤ g) (hlo : lo ≤ g) (hb : OwnB w g (exC a kv).toArray 105)
    (Y : List Nat) (hY : ∀ x ∈ Y, (x < lo ∨ hi ≤ x ∨ x ∈ X) ∧ x ≠ g) : KidsIn w lo (g + 1) Y (one a) (.slice (some ⟨g, 0, none⟩) 1 1) := by
  obtain ⟨h1, F, h2, h3, h4⟩ := h
  have hx := ExsIn.add h2 (ExsIn.nil (w := w))
  simp only [List.append_nil] at hx
  refine ⟨lt_of_blk hb.blk, g :: F, ⟨exC a kv, F, ownsRow_lit hb.blk (by simp [exC, one, Exs.add, Exs.len]) (by decide), hx, rfl⟩, ?_, ?_⟩
  · exact List.nodup_cons.2 ⟨fun hm => by have := (h4 g hm).2.1; omega, h3⟩
  · intro b hm
    rcases List.mem_cons.1 hm with rfl | hm
    · exact ⟨by omega, by omega, fun hm => (hY _ hm).2 rfl⟩
    · have h5 := h4 b hm
      refine ⟨by omega, by omega, fun hm => ?_⟩
      rcases (hY _ hm).1 with h6 | h6 | h6
      · omega
      · omega
      · exact h5.2.2 h6
/-- A new row of two. -/
theorem KidsIn.two_ {w : World} {lo hi lo2 hi2 g : Nat} {X X2 : List Nat} {a b : Ex} {ka kb : Value} (h : KidsIn w lo hi X a.kids ka) (h' : KidsIn w lo2 hi2 X2 b.kids kb) (h12 : hi ≤ lo2) (hlh : lo ≤ lo2) (hg : hi2 ≤ g) (hlo : lo2 ≤ g)
    (hb : OwnB w g (exC a ka ++ exC b kb).toArray 105) (Y : List Nat) (hY : ∀ x ∈ Y, (x < lo ∨ hi ≤ x ∨ x ∈ X) ∧ (x < lo2 ∨ hi2 ≤ x ∨ x ∈ X2) ∧ x ≠ g) : KidsIn w lo (g + 1) Y (two a b) (.slice (some ⟨g, 0, none⟩) 2 2) := by
  obtain ⟨h1, F, h2, h3, h4⟩ := h
  obtain ⟨h1', F', h2', h3', h4'⟩ := h'
  have hx := ExsIn.add h2 (ExsIn.add h2' (ExsIn.nil (w := w)))
  simp only [List.append_nil] at hx
  refine ⟨lt_of_blk hb.blk, g :: (F ++ F'), ⟨exC a ka ++ exC b kb, F ++ F', ownsRow_lit hb.blk (by simp [exC, two, Exs.add, Exs.len]) (by decide), hx, rfl⟩, ?_, ?_⟩
  · refine List.nodup_cons.2 ⟨fun hm => ?_, List.nodup_append.2 ⟨h3, h3', ?_⟩⟩
    · rcases List.mem_append.1 hm with hm | hm
      · have := (h4 g hm).2.1; omega
      · have := (h4' g hm).2.1; omega
    · intro x hx y hy
      have := (h4 x hx).2.1; have := (h4' y hy).1; omega
  · intro x hm
    rcases List.mem_cons.1 hm with rfl | hm
    · exact ⟨by omega, by omega, fun hm => (hY _ hm).2.2 rfl⟩
    · rcases List.mem_append.1 hm with hm | hm
      · have h5 := h4 x hm
        refine ⟨by omega, by omega, fun hm => ?_⟩
        rcases (hY _ hm).1 with h6 | h6 | h6
        · omega
        · omega
        · exact h5.2.2 h6
      · have h5 := h4' x hm
        refine ⟨by omega, by omega, fun hm => ?_⟩
        rcases (hY _ hm).2.1 with h6 | h6 | h6
        · omega
        · omega
        · exact h5.2.2 h6
/-- A new row of three. -/
theorem KidsIn.three_ {w : World} {lo hi lo2 hi2 lo3 hi3 g : Nat} {X X2 X3 : List Nat} {a b d : Ex} {ka kb kd : Value} (h : KidsIn w lo hi X a.kids ka) (h' : KidsIn w lo2 hi2 X2 b.kids kb) (h'' : KidsIn w lo3 hi3 X3 d.kids kd)
    (h12 : hi ≤ lo2) (hlh : lo ≤ lo2) (h23 : hi2 ≤ lo3) (hlh2 : lo2 ≤ lo3) (hg : hi3 ≤ g) (hlo : lo3 ≤ g) (h13 : hi ≤ lo3)
    (hb : OwnB w g (exC a ka ++ exC b kb ++ exC d kd).toArray 105) : KidsIn w lo (g + 1) [] (three a b d) (.slice (some ⟨g, 0, none⟩) 3 3) := by
  obtain ⟨h1, F, h2, h3, h4⟩ := h
  obtain ⟨h1', F', h2', h3', h4'⟩ := h'
  obtain ⟨h1'', F'', h2'', h3'', h4''⟩ := h''
  have hx := ExsIn.add h2 (ExsIn.add h2' (ExsIn.add h2'' (ExsIn.nil (w := w))))
  simp only [List.append_nil] at hx
  refine ⟨lt_of_blk hb.blk, g :: (F ++ (F' ++ F'')), ⟨exC a ka ++ exC b kb ++ exC d kd, F ++ (F' ++ F''), ownsRow_lit hb.blk (by simp [exC, three, Exs.add, Exs.len]) (by decide), by rw [List.append_assoc]; exact hx, rfl⟩, ?_, ?_⟩
  · refine List.nodup_cons.2 ⟨fun hm => ?_, List.nodup_append.2 ⟨h3, List.nodup_append.2 ⟨h3', h3'', ?_⟩, ?_⟩⟩
    · rcases List.mem_append.1 hm with hm | hm
      · have := (h4 g hm).2.1; omega
      · rcases List.mem_append.1 hm with hm | hm
        · have := (h4' g hm).2.1; omega
        · have := (h4'' g hm).2.1; omega
    · intro x hx y hy
      have := (h4' x hx).2.1; have := (h4'' y hy).1; omega
    · intro x hx y hy
      rcases List.mem_append.1 hy with hy | hy
      · have := (h4 x hx).2.1; have := (h4' y hy).1; omega
      · have := (h4 x hx).2.1; have := (h4'' y hy).1; omega
  · intro x hm
    refine ⟨?_, ?_, by simp⟩
    all_goals
      rcases List.mem_cons.1 hm with rfl | hm
      · omega
      · rcases List.mem_append.1 hm with hm | hm
        · have := h4 x hm; omega
        · rcases List.mem_append.1 hm with hm | hm
          · have := h4' x hm; omega
          · have := h4'' x hm; omega
/-- What a call does that returns an expression. -/
def DoesE (c : Cx) (R : Ex × St) (w : World) (e : Ending) (w' : World) : Prop :=
  ∃ a n cp, e = .returned (.agg #[.int .i64 R.1.op, .int .i64 R.1.ty.kind, .int .i64 R.1.ty.ptr, .int .i64 R.1.ty.len, .string ⟨R.1.nm.toArray⟩, .int .i64 R.1.n, .slice a n cp, .int .i64 R.1.pos]) ∧
    PIn w' c R.2 ∧ Keeps [c.g] w w' ∧ KidsIn w' w.heap.size w'.heap.size [] R.1.kids (.slice a n cp)
theorem Keeps.at_ {G : List Nat} {w w' : World} (h : Keeps G w w') {b : Nat} {o : Obj} (hb : w.heap[b]? = some o) (hg : b ∉ G) : w'.heap[b]? = some o := (h.block b (lt_of_blk hb) hg).trans hb
theorem OwnB.set2 {w : World} {b : Nat} {u0 u1 v0 v1 : Value} {T : TypeId} (h : OwnB w b #[u0, u1] T) : OwnB ((w.setCell ⟨b, 0, none⟩ v0).setCell ⟨b, 1, none⟩ v1) b #[v0, v1] T := by
  have h0 : OwnB _ b #[v0, u1] T := h.set 0 v0
  have h1 : OwnB _ b #[v0, v1] T := h0.set 1 v1
  exact h1
theorem OwnB.set3 {w : World} {b : Nat} {u0 u1 u2 v0 v1 v2 : Value} {T : TypeId} (h : OwnB w b #[u0, u1, u2] T) : OwnB (((w.setCell ⟨b, 0, none⟩ v0).setCell ⟨b, 1, none⟩ v1).setCell ⟨b, 2, none⟩ v2) b #[v0, v1, v2] T := by
  have h0 : OwnB _ b #[v0, u1, u2] T := h.set 0 v0
  have h1 : OwnB _ b #[v0, v1, u2] T := h0.set 1 v1
  have h2 : OwnB _ b #[v0, v1, v2] T := h1.set 2 v2
  exact h2
theorem OwnB.set4 {w : World} {b : Nat} {u0 u1 u2 u3 v0 v1 v2 v3 : Value} {T : TypeId} (h : OwnB w b #[u0, u1, u2, u3] T) : OwnB ((((w.setCell ⟨b, 0, none⟩ v0).setCell ⟨b, 1, none⟩ v1).setCell ⟨b, 2, none⟩ v2).setCell ⟨b, 3, none⟩ v3) b #[v0, v1, v2, v3] T := by
  have h0 : OwnB _ b #[v0, u1, u2, u3] T := h.set 0 v0
  have h1 : OwnB _ b #[v0, v1, u2, u3] T := h0.set 1 v1
  have h2 : OwnB _ b #[v0, v1, v2, u3] T := h1.set 2 v2
  have h3 : OwnB _ b #[v0, v1, v2, v3] T := h2.set 3 v3
  exact h3
theorem OwnB.set8 {w : World} {b : Nat} {u0 u1 u2 u3 u4 u5 u6 u7 v0 v1 v2 v3 v4 v5 v6 v7 : Value} {T : TypeId} (h : OwnB w b #[u0, u1, u2, u3, u4, u5, u6, u7] T) : OwnB ((((((((w.setCell ⟨b, 0, none⟩ v0).setCell ⟨b, 1, none⟩ v1).setCell ⟨b, 2, none⟩ v2).setCell ⟨b, 3, none⟩ v3).setCell ⟨b, 4, none⟩ v4).setCell ⟨b, 5, none⟩ v5).setCell ⟨b, 6, none⟩ v6).setCell ⟨b, 7, none⟩ v7) b #[v0, v1, v2, v3, v4, v5, v6, v7] T := by
  have h0 : OwnB _ b #[v0, u1, u2, u3, u4, u5, u6, u7] T := h.set 0 v0
  have h1 : OwnB _ b #[v0, v1, u2, u3, u4, u5, u6, u7] T := h0.set 1 v1
  have h2 : OwnB _ b #[v0, v1, v2, u3, u4, u5, u6, u7] T := h1.set 2 v2
  have h3 : OwnB _ b #[v0, v1, v2, v3, u4, u5, u6, u7] T := h2.set 3 v3
  have h4 : OwnB _ b #[v0, v1, v2, v3, v4, u5, u6, u7] T := h3.set 4 v4
  have h5 : OwnB _ b #[v0, v1, v2, v3, v4, v5, u6, u7] T := h4.set 5 v5
  have h6 : OwnB _ b #[v0, v1, v2, v3, v4, v5, v6, u7] T := h5.set 6 v6
  have h7 : OwnB _ b #[v0, v1, v2, v3, v4, v5, v6, v7] T := h6.set 7 v7
  exact h7
theorem OwnB.set9 {w : World} {b : Nat} {u0 u1 u2 u3 u4 u5 u6 u7 u8 v0 v1 v2 v3 v4 v5 v6 v7 v8 : Value} {T : TypeId} (h : OwnB w b #[u0, u1, u2, u3, u4, u5, u6, u7, u8] T) : OwnB (((((((((w.setCell ⟨b, 0, none⟩ v0).setCell ⟨b, 1, none⟩ v1).setCell ⟨b, 2, none⟩ v2).setCell ⟨b, 3, none⟩ v3).setCell ⟨b, 4, none⟩ v4).setCell ⟨b, 5, none⟩ v5).setCell ⟨b, 6, none⟩ v6).setCell ⟨b, 7, none⟩ v7).setCell ⟨b, 8, none⟩ v8) b #[v0, v1, v2, v3, v4, v5, v6, v7, v8] T := by
  have h0 : OwnB _ b #[v0, u1, u2, u3, u4, u5, u6, u7, u8] T := h.set 0 v0
  have h1 : OwnB _ b #[v0, v1, u2, u3, u4, u5, u6, u7, u8] T := h0.set 1 v1
  have h2 : OwnB _ b #[v0, v1, v2, u3, u4, u5, u6, u7, u8] T := h1.set 2 v2
  have h3 : OwnB _ b #[v0, v1, v2, v3, u4, u5, u6, u7, u8] T := h2.set 3 v3
  have h4 : OwnB _ b #[v0, v1, v2, v3, v4, u5, u6, u7, u8] T := h3.set 4 v4
  have h5 : OwnB _ b #[v0, v1, v2, v3, v4, v5, u6, u7, u8] T := h4.set 5 v5
  have h6 : OwnB _ b #[v0, v1, v2, v3, v4, v5, v6, u7, u8] T := h5.set 6 v6
  have h7 : OwnB _ b #[v0, v1, v2, v3, v4, v5, v6, v7, u8] T := h6.set 7 v7
  have h8 : OwnB _ b #[v0, v1, v2, v3, v4, v5, v6, v7, v8] T := h7.set 8 v8
  exact h8
/-- Something that hangs on the blocks from lo to hi alone. -/
structure KQ where
  lo : Nat
  hi : Nat
  X : List Nat
  Q : World → Prop
  st : ∀ W W' : World, W.heap.size ≤ W'.heap.size → (∀ b, lo ≤ b → b < hi → b ∉ X → W'.heap[b]? = W.heap[b]?) → Q W → Q W'
def kq (lo hi : Nat) (X : List Nat) (kids : Exs) (kv : Value) : KQ := ⟨lo, hi, X, fun W => KidsIn W lo hi X kids kv, fun _ _ hs hb h => h.of_heap hs hb⟩
/-- How far a walk has come that began in w, and what it has made. -/
structure NowQ (c : Cx) (w : World) (s : St) (L : List KQ) (W : World) : Prop where
  now : Now c w s W
  all : ∀ q ∈ L, w.heap.size ≤ q.lo ∧ q.hi ≤ W.heap.size ∧ q.Q W
section
variable {c : Cx} {w W W' : World} {s s' : St} {L : List KQ} {q p1 p2 : KQ}
theorem NowQ.start (h : PIn w c s) : NowQ c w s [] w := ⟨Now.start h, by simp⟩
theorem NowQ.to (h : NowQ c w s L W) (G : List Nat) (k : Keeps G W W') (hG : ∀ b ∈ G, w.heap.size ≤ b) (hQ : ∀ q ∈ L, ∀ b ∈ G, b < q.lo ∨ q.hi ≤ b ∨ b ∈ q.X) : NowQ c w s L W' := by
  have hne : ∀ b, b < w.heap.size → b ∉ G := fun b hb hm => by have := hG b hm; omega
  have hn := h.now
  obtain ⟨cur, hb, hs, ht⟩ := hn.pin.tok
  refine ⟨⟨⟨k.at_ hn.pin.blk (hne _ hn.g), ⟨cur, k.at_ hb (hne _ hn.gt), hs, ht⟩, hn.pin.lt, k.at_ hn.pin.map (hne _ hn.mb), k.at_ hn.pin.siz (hne _ hn.sz)⟩, hn.kp.then_ k (fun x hx => .inr (hG x hx)), hn.g, hn.gt, hn.mb, hn.sz⟩, fun q hq => ?_⟩
  obtain ⟨h1, h2, h3⟩ := h.all q hq
  exact ⟨h1, Nat.le_trans h2 k.size, q.st W W' k.size (fun b hl hh hx => k.block b (by omega) (fun hm => by
    rcases hQ q hq b hm with h4 | h4 | h4
    · omega
    · omega
    · exact hx h4)) h3⟩
theorem NowQ.call (h : NowQ c w s L W) (h1 : PIn W' c s') (h2 : Keeps [c.g] W W') : NowQ c w s' L W' := by
  refine ⟨h.now.call h1 h2, fun q hq => ?_⟩
  obtain ⟨h3, h4, h5⟩ := h.all q hq
  exact ⟨h3, Nat.le_trans h4 h2.size, q.st W W' h2.size (fun b hl hh _ => h2.block b (by omega) (by simp only [List.mem_singleton]; have := h.now.g; omega)) h5⟩
theorem NowQ.callE (h : NowQ c w s L W) {kids : Exs} {kv : Value} (h1 : PIn W' c s') (h2 : Keeps [c.g] W W') (h3 : KidsIn W' W.heap.size W'.heap.size [] kids kv) : NowQ c w s' (kq W.heap.size W'.heap.size [] kids kv :: L) W' := by
  have h4 := h.call h1 h2
  refine ⟨h4.now, fun q hq => ?_⟩
  rcases List.mem_cons.1 hq with rfl | hq
  · exact ⟨h.now.kp.size, Nat.le_refl _, h3⟩
  · exact h4.all q hq
theorem NowQ.pin (h : NowQ c w s L W) : PIn W c s := h.now.pin
theorem NowQ.q0 (h : NowQ c w s (q :: L) W) : w.heap.size ≤ q.lo ∧ q.hi ≤ W.heap.size ∧ q.Q W := h.all q (by simp)
theorem NowQ.q1 (h : NowQ c w s (p1 :: q :: L) W) : w.heap.size ≤ q.lo ∧ q.hi ≤ W.heap.size ∧ q.Q W := h.all q (by simp)
theorem NowQ.q2 (h : NowQ c w s (p2 :: p1 :: q :: L) W) : w.heap.size ≤ q.lo ∧ q.hi ≤ W.heap.size ∧ q.Q W := h.all q (by simp)
theorem NowQ.finE {R : Ex × St} {a : Option Addr} {n cp : Nat} (h : NowQ c w R.2 L W) (hk : KidsIn W w.heap.size W.heap.size [] R.1.kids (.slice a n cp)) :
    DoesE c R w (.returned (.agg #[.int .i64 R.1.op, .int .i64 R.1.ty.kind, .int .i64 R.1.ty.ptr, .int .i64 R.1.ty.len, .string ⟨R.1.nm.toArray⟩, .int .i64 R.1.n, .slice a n cp, .int .i64 R.1.pos])) W :=
  ⟨a, n, cp, rfl, h.now.pin, h.now.kp, hk⟩
theorem NowQ.fin0 {R : Ex × St} {a : Option Addr} {n cp lo hi : Nat} {X : List Nat} (h : NowQ c w R.2 (kq lo hi X R.1.kids (.slice a n cp) :: L) W) :
    DoesE c R w (.returned (.agg #[.int .i64 R.1.op, .int .i64 R.1.ty.kind, .int .i64 R.1.ty.ptr, .int .i64 R.1.ty.len, .string ⟨R.1.nm.toArray⟩, .int .i64 R.1.n, .slice a n cp, .int .i64 R.1.pos])) W := h.finE (KidsIn.wide h.q0.2.2 h.q0.1 h.q0.2.1 (Nat.le_refl _))
theorem NowQ.fin1 {R : Ex × St} {a : Option Addr} {n cp lo hi : Nat} {X : List Nat} (h : NowQ c w R.2 (p1 :: kq lo hi X R.1.kids (.slice a n cp) :: L) W) :
    DoesE c R w (.returned (.agg #[.int .i64 R.1.op, .int .i64 R.1.ty.kind, .int .i64 R.1.ty.ptr, .int .i64 R.1.ty.len, .string ⟨R.1.nm.toArray⟩, .int .i64 R.1.n, .slice a n cp, .int .i64 R.1.pos])) W := h.finE (KidsIn.wide h.q1.2.2 h.q1.1 h.q1.2.1 (Nat.le_refl _))
theorem NowQ.finOne {op n pos : Int} {a : Ex} {ka : Value} {lo hi g : Nat} {X : List Nat} (h : NowQ c w s (kq lo hi X a.kids ka :: L) W) (hb : OwnB W g #[.int .i64 a.op, .int .i64 a.ty.kind, .int .i64 a.ty.ptr, .int .i64 a.ty.len, .string ⟨a.nm.toArray⟩, .int .i64 a.n, ka, .int .i64 a.pos] 105) (hg : hi ≤ g ∧ lo ≤ g) :
    DoesE c (⟨op, ty0, [], n, one a, pos⟩, s) w (.returned (.agg #[.int .i64 op, .int .i64 0, .int .i64 0, .int .i64 0, .string ⟨#[]⟩, .int .i64 n, .slice (some ⟨g, 0, none⟩) 1 1, .int .i64 pos])) W :=
  NowQ.finE (R := (⟨op, ty0, [], n, one a, pos⟩, s)) h (KidsIn.wide (KidsIn.one_ h.q0.2.2 hg.1 hg.2 hb [] (by simp)) h.q0.1 (lt_of_blk hb.blk) (Nat.le_refl _))
theorem NowQ.finTwo {op n pos : Int} {a b : Ex} {ka kb : Value} {lo hi lo2 hi2 g : Nat} {X X2 : List Nat} (h : NowQ c w s (kq lo2 hi2 X2 b.kids kb :: kq lo hi X a.kids ka :: L) W) (hb : OwnB W g #[.int .i64 a.op, .int .i64 a.ty.kind, .int .i64 a.ty.ptr, .int .i64 a.ty.len, .string ⟨a.nm.toArray⟩, .int .i64 a.n, ka, .int .i64 a.pos, .int .i64 b.op, .int .i64 b.ty.kind, .int .i64 b.ty.ptr, .int .i64 b.ty.len, .string ⟨b.nm.toArray⟩, .int .i64 b.n, kb, .int .i64 b.pos] 105)
    (hg : hi2 ≤ g ∧ lo2 ≤ g ∧ hi ≤ lo2 ∧ lo ≤ lo2) : DoesE c (⟨op, ty0, [], n, two a b, pos⟩, s) w (.returned (.agg #[.int .i64 op, .int .i64 0, .int .i64 0, .int .i64 0, .string ⟨#[]⟩, .int .i64 n, .slice (some ⟨g, 0, none⟩) 2 2, .int .i64 pos])) W :=
  NowQ.finE (R := (⟨op, ty0, [], n, two a b, pos⟩, s)) h (KidsIn.wide (KidsIn.two_ h.q1.2.2 h.q0.2.2 hg.2.2.1 hg.2.2.2 hg.1 hg.2.1 hb [] (by simp)) h.q1.1 (lt_of_blk hb.blk) (Nat.le_refl _))
theorem NowQ.finThree {op n pos : Int} {a b d : Ex} {ka kb kd : Value} {lo hi lo2 hi2 lo3 hi3 g : Nat} {X X2 X3 : List Nat} (h : NowQ c w s (kq lo3 hi3 X3 d.kids kd :: kq lo2 hi2 X2 b.kids kb :: kq lo hi X a.kids ka :: L) W)
    (hb : OwnB W g #[.int .i64 a.op, .int .i64 a.ty.kind, .int .i64 a.ty.ptr, .int .i64 a.ty.len, .string ⟨a.nm.toArray⟩, .int .i64 a.n, ka, .int .i64 a.pos, .int .i64 b.op, .int .i64 b.ty.kind, .int .i64 b.ty.ptr, .int .i64 b.ty.len, .string ⟨b.nm.toArray⟩, .int .i64 b.n, kb, .int .i64 b.pos, .int .i64 d.op, .int .i64 d.ty.kind, .int .i64 d.ty.ptr, .int .i64 d.ty.len, .string ⟨d.nm.toArray⟩, .int .i64 d.n, kd, .int .i64 d.pos] 105)
    (hg : hi3 ≤ g ∧ lo3 ≤ g ∧ hi ≤ lo2 ∧ lo ≤ lo2 ∧ hi2 ≤ lo3 ∧ lo2 ≤ lo3) (h13 : hi ≤ lo3) : DoesE c (⟨op, ty0, [], n, three a b d, pos⟩, s) w (.returned (.agg #[.int .i64 op, .int .i64 0, .int .i64 0, .int .i64 0, .string ⟨#[]⟩, .int .i64 n, .slice (some ⟨g, 0, none⟩) 3 3, .int .i64 pos])) W :=
  NowQ.finE (R := (⟨op, ty0, [], n, three a b d, pos⟩, s)) h (KidsIn.wide (KidsIn.three_ h.q2.2.2 h.q1.2.2 h.q0.2.2 hg.2.2.1 hg.2.2.2.1 hg.2.2.2.2.1 hg.2.2.2.2.2 hg.1 hg.2.1 h13 hb) h.q2.1 (lt_of_blk hb.blk) (Nat.le_refl _))
/-- The same, of which more blocks are known to be none. -/
theorem NowQ.hole {lo hi : Nat} {X : List Nat} {kids : Exs} {kv : Value} (h : NowQ c w s (kq lo hi X kids kv :: L) W) (Y : List Nat) (hY : ∀ x ∈ Y, x < lo ∨ hi ≤ x ∨ x ∈ X) : NowQ c w s (kq lo hi Y kids kv :: L) W := by
  refine ⟨h.now, fun q hq => ?_⟩
  rcases List.mem_cons.1 hq with rfl | hq
  · obtain ⟨h1, h2, h3, F, h4, h5, h6⟩ := h.q0
    refine ⟨h1, h2, h3, F, h4, h5, fun b hm => ⟨(h6 b hm).1, (h6 b hm).2.1, fun hy => ?_⟩⟩
    rcases hY b hy with h7 | h7 | h7
    · have := (h6 b hm).1; omega
    · have := (h6 b hm).2.1; omega
    · exact (h6 b hm).2.2 h7
  · exact h.all q (by simp [hq])
theorem NowQ.joinTwo {a b : Ex} {ka kb : Value} {lo hi lo2 hi2 g : Nat} {X X2 : List Nat} (h : NowQ c w s (kq lo2 hi2 X2 b.kids kb :: kq lo hi X a.kids ka :: L) W) (hb : OwnB W g #[.int .i64 a.op, .int .i64 a.ty.kind, .int .i64 a.ty.ptr, .int .i64 a.ty.len, .string ⟨a.nm.toArray⟩, .int .i64 a.n, ka, .int .i64 a.pos, .int .i64 b.op, .int .i64 b.ty.kind, .int .i64 b.ty.ptr, .int .i64 b.ty.len, .string ⟨b.nm.toArray⟩, .int .i64 b.n, kb, .int .i64 b.pos] 105)
    (hg : hi2 ≤ g ∧ lo2 ≤ g ∧ hi ≤ lo2 ∧ lo ≤ lo2) (Y : List Nat) (hY : ∀ x ∈ Y, (x < lo ∨ hi ≤ x ∨ x ∈ X) ∧ (x < lo2 ∨ hi2 ≤ x ∨ x ∈ X2) ∧ x ≠ g) : NowQ c w s (kq lo (g + 1) Y (two a b) (.slice (some ⟨g, 0, none⟩) 2 2) :: L) W := by
  refine ⟨h.now, fun q hq => ?_⟩
  rcases List.mem_cons.1 hq with rfl | hq
  · exact ⟨h.q1.1, lt_of_blk hb.blk, KidsIn.two_ h.q1.2.2 h.q0.2.2 hg.2.2.1 hg.2.2.2 hg.1 hg.2.1 hb Y hY⟩
  · exact h.all q (by simp [hq])
theorem NowQ.joinOne {a : Ex} {ka : Value} {lo hi g : Nat} {X : List Nat} (h : NowQ c w s (kq lo hi X a.kids ka :: L) W) (hb : OwnB W g #[.int .i64 a.op, .int .i64 a.ty.kind, .int .i64 a.ty.ptr, .int .i64 a.ty.len, .string ⟨a.nm.toArray⟩, .int .i64 a.n, ka, .int .i64 a.pos] 105)
    (hg : hi ≤ g ∧ lo ≤ g) (Y : List Nat) (hY : ∀ x ∈ Y, (x < lo ∨ hi ≤ x ∨ x ∈ X) ∧ x ≠ g) : NowQ c w s (kq lo (g + 1) Y (one a) (.slice (some ⟨g, 0, none⟩) 1 1) :: L) W := by
  refine ⟨h.now, fun q hq => ?_⟩
  rcases List.mem_cons.1 hq with rfl | hq
  · exact ⟨h.q0.1, lt_of_blk hb.blk, KidsIn.one_ h.q0.2.2 hg.1 hg.2 hb Y hY⟩
  · exact h.all q (by simp [hq])
end
/-- What calls itself does what it should, with f steps. -/
structure GoodE (c : Cx) (f : Nat) : Prop where
  expr : ∀ (d : Int) (s : St) (R : Ex × St) (w : World), 0 ≤ d → d + f ≤ 1000000000 → (P.recs c.l f).expr d s = some R → PIn w c s → Calls Tryd.prog 81 #[pv c, .int .i64 d] w (DoesE c R w)
  cond : ∀ (d : Int) (s : St) (R : Ex × St) (w : World), 0 ≤ d → d + f ≤ 1000000000 → (P.recs c.l f).cond d s = some R → PIn w c s → Calls Tryd.prog 89 #[pv c, .int .i64 d] w (DoesE c R w)
  unary : ∀ (d : Int) (s : St) (R : Ex × St) (w : World), 0 ≤ d → d + f ≤ 1000000000 → (P.recs c.l f).unary d s = some R → PIn w c s → Calls Tryd.prog 93 #[pv c, .int .i64 d] w (DoesE c R w)
  bin : ∀ (lv d : Int) (s : St) (R : Ex × St) (w : World), 0 ≤ lv → lv ≤ 12 → 0 ≤ d → d + f ≤ 1000000000 → (P.recs c.l f).bin lv d s = some R → PIn w c s → Calls Tryd.prog 92 #[pv c, .int .i64 lv, .int .i64 d] w (DoesE c R w)
end Go.Proofs.YtjmemapkipkocaaDoor

/-
  'append' to a list of expressions.
-/
namespace Go.Proofs.YtjmemapkipkocaaDoor
open Go.RowKit Go.Maps
set_option linter.unusedVariables false
set_option linter.unusedSimpArgs false

theorem OwnB.kept {w w' : World} {b : Nat} {cs : Array Value} {T : TypeId} (h : OwnB w b cs T) (hk : w'.heap[b]? = w.heap[b]?) : OwnB w' b cs T := ⟨hk.trans h.blk⟩
theorem infoEx : (Tryd.prog.info? 105).map (fun i => (i.zero, i.size, i.bytes)) = some (some (.agg #[.int .i64 0, .int .i64 0, .int .i64 0, .int .i64 0, .string ⟨#[]⟩, .int .i64 0, .slice none 0 0, .int .i64 0]), 8, 88) := by kernel_rfl
theorem RowX.len {w : World} {kids : Exs} {a : Option Addr} {n cp : Nat} {F : List Nat} (h : RowX w kids (.slice a n cp) F) : n = kids.len := by
  obtain ⟨ks, F0, h1, _, _⟩ := h
  rcases h1.2 with ⟨e, h2⟩ | ⟨g, cap, cur, e, _⟩
  · injection e with e1 e2 e3; omega
  · injection e
theorem rebase {w : World} {base base' n : Nat} {T : TypeId} {sz : Nat} {v : Value} {xs : List Value} (h : w.ownsRow base T sz v n xs) (hb : ∀ b ∈ ownF v, base' ≤ b) : w.ownsRow base' T sz v n xs := by
  refine ⟨h.1, ?_⟩
  rcases h.2 with h2 | ⟨g, cap, cur, rfl, a, b, c⟩
  · exact .inl h2
  · exact .inr ⟨g, cap, cur, rfl, hb g (by simp [ownF, Value.ownBlock]), b, c⟩
theorem wpList_appendX {ops : Array Oper} {rest : List Oper} {o : Oper} {a : Act} {Q : Exit → Act → World → Prop} {c : Cx} {w W : World} {s : St} {L : List KQ} (hgd : o.guard = none) (sO xO : Operand)
    (ho : o.op = .call { callee := .builtin .append, args := #[sO, xO], argTypes := #[80, 80] })
    {lo hi lo2 hi2 : Nat} {X X2 : List Nat} {acc : Exs} {B : Ex} {av : Option Addr} {n cap : Nat} {kb : Option Addr} {nb pb gb cb : Nat}
    (hs : a.eval sO = .slice av n cap) (hx : a.eval xO = .slice (some ⟨gb, 0, none⟩) 1 cb)
    (hn : NowQ c w s (kq lo2 hi2 X2 B.kids (.slice kb nb pb) :: kq lo hi X acc (.slice av n cap) :: L) W)
    (hb : OwnB W gb #[.int .i64 B.op, .int .i64 B.ty.kind, .int .i64 B.ty.ptr, .int .i64 B.ty.len, .string ⟨B.nm.toArray⟩, .int .i64 B.n, .slice kb nb pb, .int .i64 B.pos] 105)
    (h12 : hi ≤ lo2 ∧ lo ≤ lo2 ∧ lo ≤ W.heap.size) (hlen : acc.len ≤ 1000000000) (hL : ∀ q ∈ L, ∀ b, lo ≤ b → b < hi → b ∉ X → b < q.lo ∨ q.hi ≤ b ∨ b ∈ q.X)
    (Y : List Nat) (hY : ∀ x ∈ Y, x < W.heap.size ∧ (x < lo ∨ hi ≤ x ∨ x ∈ X) ∧ (x < lo2 ∨ hi2 ≤ x ∨ x ∈ X2))
    (hK : ∀ g cap' w', NowQ c w s (kq lo w'.heap.size Y (acc.snoc B) (.slice (some ⟨g, 0, none⟩) (acc.len + 1) cap') :: L) w' → (∀ b, b < W.heap.size → (b < lo ∨ hi ≤ b ∨ b ∈ X) → w'.heap[b]? = W.heap[b]?) → W.heap.size ≤ w'.heap.size →
      wpList Tryd.prog ops Q rest (a.put o.dst (.slice (some ⟨g, 0, none⟩) (acc.len + 1) cap')) w') : wpList Tryd.prog ops Q (o :: rest) a W := by
  obtain ⟨q1, q2, q3⟩ := hn.q1
  obtain ⟨p1, p2, p3⟩ := hn.q0
  have q1' : w.heap.size ≤ lo := q1
  obtain ⟨h1, F, hr, hnd, hF⟩ := q3
  obtain ⟨h1', FB, hrB, hndB, hFB⟩ := p3
  obtain rfl := hr.len
  have hr2 := hr
  obtain ⟨ks, F0, ho1, ho2, rfl⟩ := hr
  obtain ⟨i0, hinf, hz⟩ : ∃ i, Tryd.prog.info? 105 = some i ∧ (i.zero, i.size, i.bytes) = (some (.agg #[.int .i64 0, .int .i64 0, .int .i64 0, .int .i64 0, .string ⟨#[]⟩, .int .i64 0, .slice none 0 0, .int .i64 0]), 8, 88) := by
    have := infoEx
    cases hq : Tryd.prog.info? 105 with
    | none => simp [hq] at this
    | some i => exact ⟨i, rfl, by simpa [hq] using this⟩
  simp only [Prod.mk.injEq] at hz
  obtain ⟨hz0, hz1, hz2⟩ := hz
  have hlo : ∀ b ∈ ownF (Value.slice av acc.len cap), lo ≤ b := fun b hm => (hF b (by simp [hm])).1
  have hown := rebase ho1 hlo
  refine wpList_append_lies W hgd sO xO 80 ho lo 105 i0 _ 8 88 Tryd.underlying80 hinf hz0 hz1 hz2 rfl (by decide) _ acc.len ks hs hown ⟨gb, 0, none⟩ 1 cb (exC B (.slice kb nb pb)) hx rfl
    (World.news_of_block hb.blk) ?_ (by decide) (by unfold maxLen; omega) (by omega) (by omega) _ rfl ?_
  · intro u hu
    simp only [exC, List.mem_cons, List.not_mem_nil, or_false] at hu
    rcases hu with rfl | rfl | rfl | rfl | rfl | rfl | rfl | rfl <;> rfl
  · intro g cap' w' hown' hgr hg hgw
    have hsize : W.heap.size ≤ w'.heap.size := hgr.size
    have hkeep : ∀ b, b < W.heap.size → b ∉ ownF (Value.slice av acc.len cap) → w'.heap[b]? = W.heap[b]? := by
      intro b hbs hm
      refine hgr.block b hbs ?_
      intro e
      exact hm (by rw [ownF, ← e]; simp)
    have hkeep2 : ∀ b, b < W.heap.size → (b < lo ∨ hi ≤ b ∨ b ∈ X) → w'.heap[b]? = W.heap[b]? := by
      intro b hbs hbb
      refine hkeep b hbs fun hm => ?_
      have := hF b (by simp [hm])
      rcases hbb with h3 | h3 | h3
      · omega
      · omega
      · exact this.2.2 h3
    have hnd2 := List.nodup_append.1 hnd
    have hF0 : ∀ b ∈ F0, b < W.heap.size ∧ b ∉ ownF (Value.slice av acc.len cap) := fun b hm => ⟨by have := (hF b (by simp [hm])).2.1; omega, fun h5 => hnd2.2.2 b h5 b hm rfl⟩
    have hex : ExsIn w' acc ks F0 := ExsIn.at_ _ _ _ ho2 fun b hm => hkeep b (hF0 b hm).1 (hF0 b hm).2
    have hrB' : RowX w' B.kids (.slice kb nb pb) FB := hrB.at_ fun b hm => hkeep2 b (by have := (hFB b hm).2.1; omega) (by have := (hFB b hm).1; omega)
    have hs2 := ExsIn.snoc hrB' acc ks F0 hex
    have hgF : g ∉ F0 ++ FB ∧ lo ≤ g ∧ (g = W.heap.size ∨ g ∈ ownF (Value.slice av acc.len cap)) := by
      rcases hg with hg | rfl
      · have hgo : g ∈ ownF (Value.slice av acc.len cap) := by rw [ownF, hg]; simp
        refine ⟨fun hm => ?_, hlo g hgo, .inr hgo⟩
        rcases List.mem_append.1 hm with hm | hm
        · exact (hF0 g hm).2 hgo
        · have := (hF g (by simp [hgo])).2.1; have := (hFB g hm).1; omega
      · refine ⟨fun hm => ?_, by omega, .inl rfl⟩
        rcases List.mem_append.1 hm with hm | hm
        · have := (hF0 _ hm).1; omega
        · have := (hFB _ hm).2.1; omega
    have hkn : NowQ c w s L w' := by
      have hne : ∀ b, b < w.heap.size → b < W.heap.size ∧ (b < lo ∨ hi ≤ b ∨ b ∈ X) := fun b hbs => ⟨by have := hn.now.kp.size; omega, .inl (by omega)⟩
      have k : Keeps (ownF (Value.slice av acc.len cap)) W w' := ⟨hgr.os, hgr.tape, hgr.output, hgr.size, hkeep⟩
      have hnL : NowQ c w s L W := ⟨hn.now, fun q hq => hn.all q (by simp [hq])⟩
      exact hnL.to _ k (fun b hm => by have := hlo b hm; omega) (fun q hq b hm => by
        have h5 := hF b (by simp [hm])
        exact hL q hq b h5.1 h5.2.1 h5.2.2)
    refine hK g cap' w' ⟨hkn.now, fun q hq => ?_⟩ hkeep2 hsize
    rcases List.mem_cons.1 hq with rfl | hq
    · refine ⟨q1, Nat.le_refl _, Nat.le_refl _, g :: (F0 ++ FB), ⟨ks ++ exC B (.slice kb nb pb), F0 ++ FB, ?_, hs2, rfl⟩, ?_, ?_⟩
      · rw [Exs.snoc_len]
        exact rebase hown' (fun b _ => Nat.zero_le _)
      · refine List.nodup_cons.2 ⟨hgF.1, List.nodup_append.2 ⟨hnd2.2.1, hndB, ?_⟩⟩
        intro x hx y hy
        have := (hF x (by simp [hx])).2.1; have := (hFB y hy).1; omega
      · intro b hm
        rcases List.mem_cons.1 hm with rfl | hm
        · refine ⟨hgF.2.1, hgw, fun hy => ?_⟩
          have h5 := hY _ hy
          rcases hgF.2.2 with h6 | h6
          · omega
          · have h7 := hF _ (List.mem_append_left _ h6)
            rcases h5.2.1 with h8 | h8 | h8
            · omega
            · omega
            · exact h7.2.2 h8
        · rcases List.mem_append.1 hm with hm | hm
          · have h7 := hF b (by simp [hm])
            refine ⟨h7.1, by omega, fun hy => ?_⟩
            rcases (hY _ hy).2.1 with h8 | h8 | h8
            · omega
            · omega
            · exact h7.2.2 h8
          · have h7 := hFB b hm
            refine ⟨by omega, by omega, fun hy => ?_⟩
            rcases (hY _ hy).2.2 with h8 | h8 | h8
            · omega
            · omega
            · exact h7.2.2 h8
    · exact hkn.all q hq
end Go.Proofs.YtjmemapkipkocaaDoor

/-
  Lists of statements in memory.
-/
namespace Go.Proofs.YtjmemapkipkocaaDoor
open Go.RowKit Go.Maps
set_option linter.unusedVariables false
set_option linter.unusedSimpArgs false

def stC (e : Sm) (ev bv : Value) : List Value := [.int .i64 e.op, ev, bv, .int .i64 e.ty.kind, .int .i64 e.ty.ptr, .int .i64 e.ty.len, .string ⟨e.nm.toArray⟩, .int .i64 e.n, .int .i64 e.pos]
/-- Statements lie in these cells; F: the blocks of all that hangs below them. -/
def StsIn (w : World) : Sts → List Value → List Nat → Prop
  | .nil, xs, F => xs = [] ∧ F = []
  | .cons op ex body ty nm n pos rest, xs, F => ∃ ev bv Fe bs F0 xs' F', xs = stC ⟨op, ex, body, ty, nm, n, pos⟩ ev bv ++ xs' ∧ F = (Fe ++ (ownF bv ++ F0)) ++ F' ∧ RowX w ex ev Fe ∧ w.ownsRow 0 82 9 bv body.len bs ∧ StsIn w body bs F0 ∧ StsIn w rest xs' F'
/-- A slice holds these statements. -/
def RowS (w : World) (body : Sts) (bv : Value) (F : List Nat) : Prop := ∃ bs F0, w.ownsRow 0 82 9 bv body.len bs ∧ StsIn w body bs F0 ∧ F = ownF bv ++ F0
theorem StsIn.nil {w : World} : StsIn w .nil [] [] := ⟨rfl, rfl⟩
theorem RowS.nil {w : World} : RowS w .nil (.slice none 0 0) [] := ⟨[], [], World.ownsRow_nil _ _ _ _, StsIn.nil, rfl⟩
theorem RowX.nil {w : World} : RowX w .nil (.slice none 0 0) [] := ⟨[], [], World.ownsRow_nil _ _ _ _, ExsIn.nil, rfl⟩
theorem StsIn.add {w : World} {a : Sm} {ev bv : Value} {Fe Fb : List Nat} {r : Sts} {xs : List Value} {F : List Nat} (he : RowX w a.ex ev Fe) (h : RowS w a.body bv Fb) (h2 : StsIn w r xs F) : StsIn w (.add a r) (stC a ev bv ++ xs) ((Fe ++ Fb) ++ F) := by
  obtain ⟨bs, F0, h3, h4, h5⟩ := h
  exact ⟨ev, bv, Fe, bs, F0, xs, F, rfl, by rw [h5], he, h3, h4, h2⟩
theorem StsIn.snoc {w : World} {a : Sm} {ev bv : Value} {Fe Fb : List Nat} (he : RowX w a.ex ev Fe) (h : RowS w a.body bv Fb) : ∀ (r : Sts) (xs : List Value) (F : List Nat), StsIn w r xs F → StsIn w (r.snoc a) (xs ++ stC a ev bv) (F ++ (Fe ++ Fb)) := by
  intro r
  induction r with
  | nil =>
    rintro xs F ⟨rfl, rfl⟩
    have := StsIn.add he h (StsIn.nil (w := w))
    simpa [Sts.snoc] using this
  | cons op ex body ty nm n pos rest _ ih =>
    rintro xs F ⟨ev2, bv2, Fe2, bs, F0, xs', F', rfl, rfl, h1, h3, h4, h5⟩
    exact ⟨ev2, bv2, Fe2, bs, F0, xs' ++ stC a ev bv, F' ++ (Fe ++ Fb), by simp, by simp, h1, h3, h4, ih _ _ h5⟩
theorem Sts.snoc_len (a : Sm) : ∀ r : Sts, (r.snoc a).len = r.len + 1 := by
  intro r
  induction r with
  | nil => rfl
  | cons _ _ _ _ _ _ _ _ _ ih => simp [Sts.snoc, Sts.len, ih]
theorem StsIn.at_ {w w' : World} : ∀ (r : Sts) (xs : List Value) (F : List Nat), StsIn w r xs F → (∀ b ∈ F, w'.heap[b]? = w.heap[b]?) → StsIn w' r xs F := by
  intro r
  induction r with
  | nil => rintro xs F h _; exact h
  | cons op ex body ty nm n pos rest ih1 ih =>
    rintro xs F ⟨ev2, bv2, Fe2, bs, F0, xs', F', rfl, rfl, h1, h3, h4, h5⟩ hb
    exact ⟨ev2, bv2, Fe2, bs, F0, xs', F', rfl, rfl, h1.at_ (fun b hm => hb b (by simp [hm])), ownsRow_at h3 (fun b hm => hb b (by simp [hm])), ih1 _ _ h4 (fun b hm => hb b (by simp [hm])), ih _ _ h5 (fun b hm => hb b (by simp [hm]))⟩
theorem RowS.at_ {w w' : World} {body : Sts} {bv : Value} {F : List Nat} (h : RowS w body bv F) (hb : ∀ b ∈ F, w'.heap[b]? = w.heap[b]?) : RowS w' body bv F := by
  obtain ⟨ks, F0, h3, h4, rfl⟩ := h
  exact ⟨ks, F0, ownsRow_at h3 (fun b hm => hb b (by simp [hm])), StsIn.at_ _ _ _ h4 (fun b hm => hb b (by simp [hm])), rfl⟩
theorem RowS.len {w : World} {body : Sts} {a : Option Addr} {n cp : Nat} {F : List Nat} (h : RowS w body (.slice a n cp) F) : n = body.len := by
  obtain ⟨ks, F0, h1, _, _⟩ := h
  rcases h1.2 with ⟨e, h2⟩ | ⟨g, cap, cur, e, _⟩
  · injection e with e1 e2 e3; omega
  · injection e
/-- Expressions and statements, all of whose blocks are new since lo, older than hi, and none of X; no block twice. -/
structure MIn (w : World) (lo hi : Nat) (X : List Nat) (ex : Exs) (ev : Value) (body : Sts) (bv : Value) : Prop where
  hle : hi ≤ w.heap.size
  row : ∃ Fe Fb, RowX w ex ev Fe ∧ RowS w body bv Fb ∧ (Fe ++ Fb).Nodup ∧ ∀ b ∈ Fe ++ Fb, lo ≤ b ∧ b < hi ∧ b ∉ X
section
variable {w w' : World} {lo hi lo2 hi2 : Nat} {X X2 : List Nat} {ex : Exs} {ev : Value} {body : Sts} {bv : Value}
theorem MIn.of_heap (h : MIn w lo hi X ex ev body bv) (hs : w.heap.size ≤ w'.heap.size) (hb : ∀ b, lo ≤ b → b < hi → b ∉ X → w'.heap[b]? = w.heap[b]?) : MIn w' lo hi X ex ev body bv := by
  obtain ⟨h1, Fe, Fb, h2, h2', h3, h4⟩ := h
  exact ⟨Nat.le_trans h1 hs, Fe, Fb, h2.at_ (fun b hm => hb b (h4 b (by simp [hm])).1 (h4 b (by simp [hm])).2.1 (h4 b (by simp [hm])).2.2), h2'.at_ (fun b hm => hb b (h4 b (by simp [hm])).1 (h4 b (by simp [hm])).2.1 (h4 b (by simp [hm])).2.2), h3, h4⟩
theorem MIn.wide (h : MIn w lo hi X ex ev body bv) {lo' hi' : Nat} (h1 : lo' ≤ lo) (h2 : hi ≤ hi') (h3 : hi' ≤ w.heap.size) : MIn w lo' hi' [] ex ev body bv := by
  obtain ⟨_, Fe, Fb, h4, h4', h5, h6⟩ := h
  exact ⟨h3, Fe, Fb, h4, h4', h5, fun b hm => ⟨by have := (h6 b hm).1; omega, by have := (h6 b hm).2.1; omega, by simp⟩⟩
theorem MIn.of_ex (h : KidsIn w lo hi X ex ev) : MIn w lo hi X ex ev .nil (.slice none 0 0) := by
  obtain ⟨h1, F, h2, h3, h4⟩ := h
  exact ⟨h1, F, [], h2, RowS.nil, by simpa using h3, by simpa using h4⟩
theorem MIn.nil (h : hi ≤ w.heap.size) : MIn w lo hi X .nil (.slice none 0 0) .nil (.slice none 0 0) := ⟨h, [], [], RowX.nil, RowS.nil, by simp, by simp⟩
/-- Expressions of the one, statements of the other. -/
theorem MIn.both {ev2 bv2 : Value} (h : KidsIn w lo hi X ex ev) (h' : MIn w lo2 hi2 X2 .nil ev2 body bv) (hd : hi ≤ lo2 ∨ hi2 ≤ lo) {l u : Nat} (hl : l ≤ lo ∧ l ≤ lo2) (hu : hi ≤ u ∧ hi2 ≤ u ∧ u ≤ w.heap.size) : MIn w l u [] ex ev body bv := by
  obtain ⟨h1, F, h2, h3, h4⟩ := h
  obtain ⟨h1', Fe, Fb, h2a, h2', h3', h4'⟩ := h'
  have hnb := (List.nodup_append.1 h3').2.1
  refine ⟨hu.2.2, F, Fb, h2, h2', List.nodup_append.2 ⟨h3, hnb, ?_⟩, ?_⟩
  · intro x hx y hy
    have := h4 x hx
    have := h4' y (by simp [hy])
    rcases hd with h | h <;> omega
  · intro x hm
    rcases List.mem_append.1 hm with hm | hm
    · have := h4 x hm; exact ⟨by omega, by omega, by simp⟩
    · have := h4' x (by simp [hm]); exact ⟨by omega, by omega, by simp⟩
end
def mq (lo hi : Nat) (X : List Nat) (ex : Exs) (ev : Value) (body : Sts) (bv : Value) : KQ := ⟨lo, hi, X, fun W => MIn W lo hi X ex ev body bv, fun _ _ hs hb h => h.of_heap hs hb⟩
/-- A new row of one statement. -/
theorem MIn.one_ {w : World} {lo hi g : Nat} {X : List Nat} {a : Sm} {ev bv : Value} (h : MIn w lo hi X a.ex ev a.body bv) (hg : hi ≤ g) (hlo : lo ≤ g) (hb : OwnB w g (stC a ev bv).toArray 82)
    (Y : List Nat) (hY : ∀ x ∈ Y, (x < lo ∨ hi ≤ x ∨ x ∈ X) ∧ x ≠ g) : MIn w lo (g + 1) Y .nil (.slice none 0 0) (oneS a) (.slice (some ⟨g, 0, none⟩) 1 1) := by
  obtain ⟨h1, Fe, Fb, h2, h2', h3, h4⟩ := h
  have hx := StsIn.add h2 h2' (StsIn.nil (w := w))
  simp only [List.append_nil] at hx
  refine ⟨lt_of_blk hb.blk, [], g :: (Fe ++ Fb), RowX.nil, ⟨stC a ev bv, Fe ++ Fb, ownsRow_lit hb.blk (by simp [stC, oneS, Sts.add, Sts.len]) (by decide), hx, rfl⟩, ?_, ?_⟩
  · exact List.nodup_cons.2 ⟨fun hm => by have := (h4 g hm).2.1; omega, h3⟩
  · intro b hm
    simp only [List.nil_append] at hm
    rcases List.mem_cons.1 hm with rfl | hm
    · exact ⟨by omega, by omega, fun hm => (hY _ hm).2 rfl⟩
    · have h5 := h4 b hm
      refine ⟨by omega, by omega, fun hm => ?_⟩
      rcases (hY _ hm).1 with h6 | h6 | h6
      · omega
      · omega
      · exact h5.2.2 h6
end Go.Proofs.YtjmemapkipkocaaDoor

/-
  Expressions: 'arguments', 'several'.
-/
namespace Go.Proofs.YtjmemapkipkocaaDoor
open Go.RowKit Go.Maps
set_option linter.unusedVariables false
set_option linter.unusedSimpArgs false
set_option maxRecDepth 100000
set_option maxHeartbeats 1000000

/-- What a call does that returns a slice of expressions. -/
def DoesL (c : Cx) (R : Exs × St) (w : World) (e : Ending) (w' : World) : Prop :=
  ∃ a n cp, e = .returned (.slice a n cp) ∧ PIn w' c R.2 ∧ Keeps [c.g] w w' ∧ KidsIn w' w.heap.size w'.heap.size [] R.1 (.slice a n cp)
theorem closure_step (c : Cx) (hc : c.Ok) (f : Nat) (G : GoodE c f) (d : Int) (s : St) (R : Ex × St) (w : World) (h0 : 0 ≤ d) (hd : d + f ≤ 1000000000) (x y : Nat) (hx : x ≠ c.g) (hy : y ≠ c.g)
    (hR : (P.recs c.l f).expr d s = some R) (h : PIn w c s) (ox : OwnB w x #[.pointer (some ⟨c.g, 0, none⟩)] 72) (oy : OwnB w y #[.int .i64 d] 3) :
    Calls Tryd.prog 99 #[.pointer (some ⟨x, 0, none⟩), .pointer (some ⟨y, 0, none⟩)] w (DoesE c R w) := by
  have HN := Lib.hid (NowQ.start h)
  have hg := HN.out.now.g
  have hgt := HN.out.now.gt
  have CE := fun W H => Lib.hid (G.expr d s R W h0 hd hR H)
  obtain ⟨c1, c2, c3⟩ := ox.facts
  obtain ⟨d1, d2, d3⟩ := oy.facts
  clear h hR
  go_enter Tryd.func99, Tryd.ntmps99
  go_wp2_with fail
  refine (CE _ (NowQ.pin (NowQ.to HN.out [w.heap.size] Keeps.au (by simp <;> omega) (by simp [kq] <;> omega)))).out.mono ?_
  rintro e w1 ⟨a1, n1, p1, rfl, hP, hK, hT⟩
  have hz_w1 := hK.size
  try simp only [World.size_alloc, World.size_setCell, World.size_drew, World.heap_drewN] at hz_w1
  have O_w1_0 : OwnB w1 (w.heap.size) #[.int .i64 0, .int .i64 0, .int .i64 0, .int .i64 0, .string ⟨#[]⟩, .int .i64 0, .slice none 0 0, .int .i64 0] 105 := OwnB.call OwnB.au hK (by simp only [List.mem_singleton]; omega)
  obtain ⟨y_w1_0, x_w1_0, b_w1_0⟩ := O_w1_0.facts
  have HN1 := Lib.hid (NowQ.callE (NowQ.to HN.out [w.heap.size] Keeps.au (by simp <;> omega) (by simp [kq] <;> omega)) hP hK hT)
  clear hP hK hT
  go_wp2_with fail
  refine bodyPost_ret (v := (.agg #[.int .i64 (R.1).op, .int .i64 (R.1).ty.kind, .int .i64 (R.1).ty.ptr, .int .i64 (R.1).ty.len, .string ⟨(R.1).nm.toArray⟩, .int .i64 (R.1).n, .slice a1 n1 p1, .int .i64 (R.1).pos])) (by simp [results, Tryd.results99, go_sem, *]) rfl ?_
  exact NowQ.fin0 (NowQ.to HN1.out [w.heap.size] Keeps.au (by simp <;> omega) (by simp [kq] <;> omega))
/-- Where the loop of 'several' is. -/
structure SevAt (c : Cx) (w : World) (x y : Nat) (f : Nat) (d : Int) (A : Exs × St) (k : Nat) (t5 t6 : Value) (wr : World) : Prop where
  ex : ∃ (more : Bool) (acc : Exs) (a : Option Addr) (n cp : Nat) (s0 : St) (hi : Nat), t5 = .slice a n cp ∧ t6 = .bool more ∧ NowQ c w s0 [kq w.heap.size hi [] acc (.slice a n cp)] wr ∧
    (more = true → (P.recs c.l k).argL d acc s0 = some A) ∧ acc.len + k ≤ f ∧ (more = false → A = (acc, s0)) ∧
    OwnB wr x #[.pointer (some ⟨c.g, 0, none⟩)] 72 ∧ OwnB wr y #[.int .i64 d] 3
theorem several_step (c : Cx) (hc : c.Ok) (f : Nat) (GA : ∀ k, k ≤ f → GoodE c k) (d : Int) (s : St) (A : Exs × St) (w : World) (h0 : 0 ≤ d) (hd : d + f ≤ 1000000000) (x y : Nat) (hx : x ≠ c.g) (hy : y ≠ c.g)
    (hA : (P.recs c.l f).argL d .nil s = some A) (h : PIn w c s) (ox : OwnB w x #[.pointer (some ⟨c.g, 0, none⟩)] 72) (oy : OwnB w y #[.int .i64 d] 3) :
    Calls Tryd.prog 98 #[pv c, .func (.func 99) #[] #[.pointer (some ⟨x, 0, none⟩), .pointer (some ⟨y, 0, none⟩)]] w (DoesL c A w) := by
  have HN := Lib.hid (NowQ.start h)
  have hg := HN.out.now.g
  have hgt := HN.out.now.gt
  have HA := Lib.hid hA
  have HGA := Lib.hid GA
  have hxw := lt_of_blk ox.blk
  have hyw := lt_of_blk oy.blk
  have HO := Lib.hid (And.intro ox oy)
  clear h hA GA ox oy
  unfold pv
  go_enter Tryd.func98, Tryd.ntmps98
  go_wp2_with fail
  go_loopg [5, 6] f (fun k t5 t6 wr => SevAt c w x y f d A k t5 t6 wr)
  case atStart => exact ⟨true, .nil, none, 0, 0, s, w.heap.size, rfl, rfl, ⟨HN.out.now, by simp [kq]; exact KidsIn.none_ (Nat.le_refl _)⟩, fun _ => HA.out, by simp [Exs.len], (by simp), HO.out.1, HO.out.2⟩
  case round =>
    obtain ⟨more, acc, a, n, cp, s0, hi, rfl, rfl, hN, ha, hlen, hf, ox, oy⟩ := hrel
    have HNr := Lib.hid hN
    have hsw : w.heap.size ≤ wr.heap.size := HNr.out.now.kp.size
    have hhi : hi ≤ wr.heap.size := HNr.out.q0.2.1
    clear hN
    cases more with
    | false =>
      obtain rfl := hf rfl
      clear ha hf
      go_wp2_with fail
      go_ret
      exact ⟨a, n, cp, rfl, HNr.out.now.pin, HNr.out.now.kp, KidsIn.wide HNr.out.q0.2.2 (Nat.le_refl _) HNr.out.q0.2.1 (Nat.le_refl _)⟩
    | true =>
      have hb := ha rfl
      clear ha hf
      obtain ⟨k, rfl⟩ : ∃ k, gk = k + 1 := by
        cases gk with
        | zero => cases hb
        | succ k => exact ⟨k, rfl⟩
      have hB2 : P.argL c.l (P.recs c.l k) d acc s0 = some A := hb
      clear hb
      unfold P.argL at hB2
      obtain ⟨B, hB, hR⟩ := Option.bind_eq_some_iff.1 hB2
      clear hB2
      have hnn : n = acc.len := by obtain ⟨_, _, _, F, hr, _⟩ := HNr.out.q0; exact hr.len
      subst hnn
      by_cases h4 : acc.len = 4
      · rw [if_pos h4] at hB
        obtain ⟨sF, hsF⟩ : ∃ sF, sF = P.fail c.l 2 (P.tok c.l s0).pos s0 := ⟨_, rfl⟩
        rw [← hsF] at hB
        have h4b : ((acc.len : Int) == 4) = true := by simp; omega
        have CT := fun W H => Lib.hid (token_any c hc s0 W H)
        have CF := fun W H => Lib.hid (fail_any c hc s0 W H 2 (P.tok c.l s0).pos)
        rw [← hsF] at CF
        have CE := fun W H ox oy => Lib.hid (closure_step c hc k (HGA.out k (by omega)) d sF B W h0 (by omega) x y hx hy hB H ox oy)
        have CA := fun W H => Lib.hid (accept_any c hc B.2 W H [44])
        have HR := Lib.hid hR
        clear hB hR hsF h4
        have tk0 := tok_field0
        have tk1 := tok_field1
        have tk2 := tok_field2
        have tk3 := tok_field3
        go_wp2_with fail
        refine (CT _ (NowQ.pin (NowQ.to HNr.out [] Keeps.au (fun b hb => absurd hb List.not_mem_nil) (fun q _ b hb => absurd hb List.not_mem_nil)))).out.mono ?_
        rintro e w1 ⟨rfl, hP, hK⟩
        have hz_w1 := hK.size
        try simp only [World.size_alloc, World.size_setCell, World.size_drew, World.heap_drewN] at hz_w1
        have O_w1_0 : OwnB w1 (x) #[.pointer (some ⟨c.g, 0, none⟩)] 72 := OwnB.call OwnB.au hK (by simp only [List.mem_singleton]; omega)
        obtain ⟨y_w1_0, x_w1_0, b_w1_0⟩ := O_w1_0.facts
        have O_w1_1 : OwnB w1 (y) #[.int .i64 d] 3 := OwnB.call OwnB.au hK (by simp only [List.mem_singleton]; omega)
        obtain ⟨y_w1_1, x_w1_1, b_w1_1⟩ := O_w1_1.facts
        have HN1 := Lib.hid (NowQ.call (NowQ.to HNr.out [] Keeps.au (fun b hb => absurd hb List.not_mem_nil) (fun q _ b hb => absurd hb List.not_mem_nil)) hP hK)
        clear hP hK
        go_wp2_with fail
        refine (CF _ (NowQ.pin (NowQ.to HN1.out [] Keeps.au (fun b hb => absurd hb List.not_mem_nil) (fun q _ b hb => absurd hb List.not_mem_nil)))).out.mono ?_
        rintro e w2 ⟨rfl, hP, hK⟩
        have hz_w2 := hK.size
        try simp only [World.size_alloc, World.size_setCell, World.size_drew, World.heap_drewN] at hz_w2
        have O_w2_0 : OwnB w2 (x) #[.pointer (some ⟨c.g, 0, none⟩)] 72 := OwnB.call OwnB.au hK (by simp only [List.mem_singleton]; omega)
        obtain ⟨y_w2_0, x_w2_0, b_w2_0⟩ := O_w2_0.facts
        have O_w2_1 : OwnB w2 (y) #[.int .i64 d] 3 := OwnB.call OwnB.au hK (by simp only [List.mem_singleton]; omega)
        obtain ⟨y_w2_1, x_w2_1, b_w2_1⟩ := O_w2_1.facts
        have HN2 := Lib.hid (NowQ.call (NowQ.to HN1.out [] Keeps.au (fun b hb => absurd hb List.not_mem_nil) (fun q _ b hb => absurd hb List.not_mem_nil)) hP hK)
        clear hP hK
        go_wp2_with fail
        refine (CE _ (NowQ.pin (NowQ.to HN2.out [] Keeps.au (fun b hb => absurd hb List.not_mem_nil) (fun q _ b hb => absurd hb List.not_mem_nil))) O_w2_0 O_w2_1).out.mono ?_
        rintro e w3 ⟨a2, n2, p2, rfl, hP, hK, hT⟩
        have hz_w3 := hK.size
        try simp only [World.size_alloc, World.size_setCell, World.size_drew, World.heap_drewN] at hz_w3
        have O_w3_0 : OwnB w3 (x) #[.pointer (some ⟨c.g, 0, none⟩)] 72 := OwnB.call OwnB.au hK (by simp only [List.mem_singleton]; omega)
        obtain ⟨y_w3_0, x_w3_0, b_w3_0⟩ := O_w3_0.facts
        have O_w3_1 : OwnB w3 (y) #[.int .i64 d] 3 := OwnB.call OwnB.au hK (by simp only [List.mem_singleton]; omega)
        obtain ⟨y_w3_1, x_w3_1, b_w3_1⟩ := O_w3_1.facts
        have HN3 := Lib.hid (NowQ.callE (NowQ.to HN2.out [] Keeps.au (fun b hb => absurd hb List.not_mem_nil) (fun q _ b hb => absurd hb List.not_mem_nil)) hP hK hT)
        clear hP hK hT
        go_wp2_with (at_builtin; refine wpList_appendX (acc := acc) (B := B.1) rfl _ _ rfl rfl rfl (NowQ.to HN3.out [] Keeps.au (fun b hb => absurd hb List.not_mem_nil) (fun q _ b hb => absurd hb List.not_mem_nil)) OwnB.au ⟨by omega, by omega, (by (try simp only [World.size_alloc, World.size_setCell, World.size_drew, World.heap_drewN]); omega)⟩ (by omega) (fun q hq => absurd hq List.not_mem_nil) [] (fun x hx => absurd hx List.not_mem_nil) ?_; intro g cap' w4 hN4 hk4 hz4; have OX := OwnB.kept (O_w3_0.alloc _) (hk4 x (by (try simp only [World.size_alloc, World.size_setCell, World.size_drew, World.heap_drewN]); omega) (.inl (by omega))); have OY := OwnB.kept (O_w3_1.alloc _) (hk4 y (by (try simp only [World.size_alloc, World.size_setCell, World.size_drew, World.heap_drewN]); omega) (.inl (by omega))); have HN4 := Lib.hid hN4; clear hN4 hk4)
        refine (CA _ (NowQ.pin (NowQ.to HN4.out [] Keeps.au (fun b hb => absurd hb List.not_mem_nil) (fun q _ b hb => absurd hb List.not_mem_nil)))).out.mono ?_
        rintro e w5 ⟨rfl, hP, hK⟩
        have hz_w5 := hK.size
        try simp only [World.size_alloc, World.size_setCell, World.size_drew, World.heap_drewN] at hz_w5
        have O_w5_0 : OwnB w5 (x) #[.pointer (some ⟨c.g, 0, none⟩)] 72 := OwnB.call OwnB.au hK (by simp only [List.mem_singleton]; omega)
        obtain ⟨y_w5_0, x_w5_0, b_w5_0⟩ := O_w5_0.facts
        have O_w5_1 : OwnB w5 (y) #[.int .i64 d] 3 := OwnB.call OwnB.au hK (by simp only [List.mem_singleton]; omega)
        obtain ⟨y_w5_1, x_w5_1, b_w5_1⟩ := O_w5_1.facts
        have HN5 := Lib.hid (NowQ.call (NowQ.to HN4.out [] Keeps.au (fun b hb => absurd hb List.not_mem_nil) (fun q _ b hb => absurd hb List.not_mem_nil)) hP hK)
        clear hP hK
        go_wp2_with fail
        go_roundg k
        case measure => omega
        case rel =>
          refine ⟨P.is c.l [44] B.2, acc.snoc B.1, _, _, _, P.acc c.l [44] B.2, _, rfl, rfl, HN5.out, ?_, by rw [Exs.snoc_len]; omega, ?_, O_w5_0, O_w5_1⟩
          · intro hi
            have := HR.out
            rw [hi, if_pos rfl] at this
            rw [show P.acc c.l [44] B.2 = P.next c.l B.2 by simp [P.acc, hi]]
            exact this
          · intro hi
            have := HR.out
            rw [hi, if_neg (by simp)] at this
            rw [show P.acc c.l [44] B.2 = B.2 by simp [P.acc, hi]]
            exact (Option.some.inj this).symm
      · rw [if_neg h4] at hB
        have h4b : ((acc.len : Int) == 4) = false := by simp; omega
        have CE := fun W H ox oy => Lib.hid (closure_step c hc k (HGA.out k (by omega)) d s0 B W h0 (by omega) x y hx hy hB H ox oy)
        have CA := fun W H => Lib.hid (accept_any c hc B.2 W H [44])
        have HR := Lib.hid hR
        clear hB hR
        go_wp2_with fail
        refine (CE _ (NowQ.pin (NowQ.to HNr.out [] Keeps.au (fun b hb => absurd hb List.not_mem_nil) (fun q _ b hb => absurd hb List.not_mem_nil))) ox oy).out.mono ?_
        rintro e w3 ⟨a2, n2, p2, rfl, hP, hK, hT⟩
        have hz_w3 := hK.size
        try simp only [World.size_alloc, World.size_setCell, World.size_drew, World.heap_drewN] at hz_w3
        have O_w3_0 : OwnB w3 (x) #[.pointer (some ⟨c.g, 0, none⟩)] 72 := OwnB.call OwnB.au hK (by simp only [List.mem_singleton]; omega)
        obtain ⟨y_w3_0, x_w3_0, b_w3_0⟩ := O_w3_0.facts
        have O_w3_1 : OwnB w3 (y) #[.int .i64 d] 3 := OwnB.call OwnB.au hK (by simp only [List.mem_singleton]; omega)
        obtain ⟨y_w3_1, x_w3_1, b_w3_1⟩ := O_w3_1.facts
        have HN3 := Lib.hid (NowQ.callE (NowQ.to HNr.out [] Keeps.au (fun b hb => absurd hb List.not_mem_nil) (fun q _ b hb => absurd hb List.not_mem_nil)) hP hK hT)
        clear hP hK hT
        go_wp2_with (at_builtin; refine wpList_appendX (acc := acc) (B := B.1) rfl _ _ rfl rfl rfl (NowQ.to HN3.out [] Keeps.au (fun b hb => absurd hb List.not_mem_nil) (fun q _ b hb => absurd hb List.not_mem_nil)) OwnB.au ⟨by omega, by omega, (by (try simp only [World.size_alloc, World.size_setCell, World.size_drew, World.heap_drewN]); omega)⟩ (by omega) (fun q hq => absurd hq List.not_mem_nil) [] (fun x hx => absurd hx List.not_mem_nil) ?_; intro g cap' w4 hN4 hk4 hz4; have OX := OwnB.kept (O_w3_0.alloc _) (hk4 x (by (try simp only [World.size_alloc, World.size_setCell, World.size_drew, World.heap_drewN]); omega) (.inl (by omega))); have OY := OwnB.kept (O_w3_1.alloc _) (hk4 y (by (try simp only [World.size_alloc, World.size_setCell, World.size_drew, World.heap_drewN]); omega) (.inl (by omega))); have HN4 := Lib.hid hN4; clear hN4 hk4)
        refine (CA _ (NowQ.pin (NowQ.to HN4.out [] Keeps.au (fun b hb => absurd hb List.not_mem_nil) (fun q _ b hb => absurd hb List.not_mem_nil)))).out.mono ?_
        rintro e w5 ⟨rfl, hP, hK⟩
        have hz_w5 := hK.size
        try simp only [World.size_alloc, World.size_setCell, World.size_drew, World.heap_drewN] at hz_w5
        have O_w5_0 : OwnB w5 (x) #[.pointer (some ⟨c.g, 0, none⟩)] 72 := OwnB.call OwnB.au hK (by simp only [List.mem_singleton]; omega)
        obtain ⟨y_w5_0, x_w5_0, b_w5_0⟩ := O_w5_0.facts
        have O_w5_1 : OwnB w5 (y) #[.int .i64 d] 3 := OwnB.call OwnB.au hK (by simp only [List.mem_singleton]; omega)
        obtain ⟨y_w5_1, x_w5_1, b_w5_1⟩ := O_w5_1.facts
        have HN5 := Lib.hid (NowQ.call (NowQ.to HN4.out [] Keeps.au (fun b hb => absurd hb List.not_mem_nil) (fun q _ b hb => absurd hb List.not_mem_nil)) hP hK)
        clear hP hK
        go_wp2_with fail
        go_roundg k
        case measure => omega
        case rel =>
          refine ⟨P.is c.l [44] B.2, acc.snoc B.1, _, _, _, P.acc c.l [44] B.2, _, rfl, rfl, HN5.out, ?_, by rw [Exs.snoc_len]; omega, ?_, O_w5_0, O_w5_1⟩
          · intro hi
            have := HR.out
            rw [hi, if_pos rfl] at this
            rw [show P.acc c.l [44] B.2 = P.next c.l B.2 by simp [P.acc, hi]]
            exact this
          · intro hi
            have := HR.out
            rw [hi, if_neg (by simp)] at this
            rw [show P.acc c.l [44] B.2 = B.2 by simp [P.acc, hi]]
            exact (Option.some.inj this).symm
theorem arguments_step (c : Cx) (hc : c.Ok) (f : Nat) (GA : ∀ k, k ≤ f → GoodE c k) (d : Int) (s : St) (R : Exs × St) (w : World) (h0 : 0 ≤ d) (hd : d + f ≤ 1000000000)
    (hR : P.args c.l (P.recs c.l f) d s = some R) (h : PIn w c s) : Calls Tryd.prog 97 #[pv c, .int .i64 d] w (DoesL c R w) := by
  have HN := Lib.hid (NowQ.start h)
  have hg := HN.out.now.g
  have hgt := HN.out.now.gt
  have CN := fun W H => Lib.hid (need_any c hc s W H [40])
  obtain ⟨s1, hs1⟩ : ∃ s1, s1 = P.need c.l [40] s := ⟨_, rfl⟩
  rw [← hs1] at CN
  have CA := fun W H => Lib.hid (accept_any c hc s1 W H [41])
  unfold P.args at hR
  rw [← hs1] at hR
  cases hk : P.is c.l [41] s1 with
  | true =>
    rw [hk, if_pos rfl] at hR
    obtain rfl := Option.some.inj hR
    have e : P.acc c.l [41] s1 = P.next c.l s1 := by simp [P.acc, hk]
    rw [hk, e] at CA
    clear h hR hk e
    unfold pv
    go_enter Tryd.func97, Tryd.ntmps97
    go_wp2_with fail
    refine (CN _ (NowQ.pin (NowQ.to HN.out [w.heap.size, w.heap.size+1] Keeps.au (by simp <;> omega) (by simp [kq] <;> omega)))).out.mono ?_
    rintro e w1 ⟨rfl, hP, hK⟩
    have hz_w1 := hK.size
    try simp only [World.size_alloc, World.size_setCell, World.size_drew, World.heap_drewN] at hz_w1
    have O_w1_0 : OwnB w1 (w.heap.size) #[.pointer (some ⟨c.g, 0, none⟩)] 72 := OwnB.call OwnB.au hK (by simp only [List.mem_singleton]; omega)
    obtain ⟨y_w1_0, x_w1_0, b_w1_0⟩ := O_w1_0.facts
    have O_w1_1 : OwnB w1 (w.heap.size+1) #[.int .i64 d] 3 := OwnB.call OwnB.au hK (by simp only [List.mem_singleton]; omega)
    obtain ⟨y_w1_1, x_w1_1, b_w1_1⟩ := O_w1_1.facts
    have HN1 := Lib.hid (NowQ.call (NowQ.to HN.out [w.heap.size, w.heap.size+1] Keeps.au (by simp <;> omega) (by simp [kq] <;> omega)) hP hK)
    clear hP hK
    go_wp2_with fail
    refine (CA _ (NowQ.pin (NowQ.to HN1.out [w.heap.size, w.heap.size+1] Keeps.au (by simp <;> omega) (by simp [kq] <;> omega)))).out.mono ?_
    rintro e w2 ⟨rfl, hP, hK⟩
    have hz_w2 := hK.size
    try simp only [World.size_alloc, World.size_setCell, World.size_drew, World.heap_drewN] at hz_w2
    have O_w2_0 : OwnB w2 (w.heap.size) #[.pointer (some ⟨c.g, 0, none⟩)] 72 := OwnB.call OwnB.au hK (by simp only [List.mem_singleton]; omega)
    obtain ⟨y_w2_0, x_w2_0, b_w2_0⟩ := O_w2_0.facts
    have O_w2_1 : OwnB w2 (w.heap.size+1) #[.int .i64 d] 3 := OwnB.call OwnB.au hK (by simp only [List.mem_singleton]; omega)
    obtain ⟨y_w2_1, x_w2_1, b_w2_1⟩ := O_w2_1.facts
    have HN2 := Lib.hid (NowQ.call (NowQ.to HN1.out [w.heap.size, w.heap.size+1] Keeps.au (by simp <;> omega) (by simp [kq] <;> omega)) hP hK)
    clear hP hK
    go_wp2_with fail
    go_ret
    exact ⟨none, 0, 0, rfl, HN2.out.now.pin, HN2.out.now.kp, KidsIn.none_ (Nat.le_refl _)⟩
  | false =>
    rw [hk, if_neg (by simp)] at hR
    obtain ⟨A, hA, hR⟩ := Option.bind_eq_some_iff.1 hR
    obtain rfl := Option.some.inj hR
    have e : P.acc c.l [41] s1 = s1 := by simp [P.acc, hk]
    rw [hk, e] at CA
    have CM := fun W H => Lib.hid (need_any c hc A.2 W H [41])
    clear h hk e hs1 hR
    unfold pv
    go_enter Tryd.func97, Tryd.ntmps97
    go_wp2_with fail
    refine (CN _ (NowQ.pin (NowQ.to HN.out [w.heap.size, w.heap.size+1] Keeps.au (by simp <;> omega) (by simp [kq] <;> omega)))).out.mono ?_
    rintro e w1 ⟨rfl, hP, hK⟩
    have hz_w1 := hK.size
    try simp only [World.size_alloc, World.size_setCell, World.size_drew, World.heap_drewN] at hz_w1
    have O_w1_0 : OwnB w1 (w.heap.size) #[.pointer (some ⟨c.g, 0, none⟩)] 72 := OwnB.call OwnB.au hK (by simp only [List.mem_singleton]; omega)
    obtain ⟨y_w1_0, x_w1_0, b_w1_0⟩ := O_w1_0.facts
    have O_w1_1 : OwnB w1 (w.heap.size+1) #[.int .i64 d] 3 := OwnB.call OwnB.au hK (by simp only [List.mem_singleton]; omega)
    obtain ⟨y_w1_1, x_w1_1, b_w1_1⟩ := O_w1_1.facts
    have HN1 := Lib.hid (NowQ.call (NowQ.to HN.out [w.heap.size, w.heap.size+1] Keeps.au (by simp <;> omega) (by simp [kq] <;> omega)) hP hK)
    clear hP hK
    go_wp2_with fail
    refine (CA _ (NowQ.pin (NowQ.to HN1.out [w.heap.size, w.heap.size+1] Keeps.au (by simp <;> omega) (by simp [kq] <;> omega)))).out.mono ?_
    rintro e w2 ⟨rfl, hP, hK⟩
    have hz_w2 := hK.size
    try simp only [World.size_alloc, World.size_setCell, World.size_drew, World.heap_drewN] at hz_w2
    have O_w2_0 : OwnB w2 (w.heap.size) #[.pointer (some ⟨c.g, 0, none⟩)] 72 := OwnB.call OwnB.au hK (by simp only [List.mem_singleton]; omega)
    obtain ⟨y_w2_0, x_w2_0, b_w2_0⟩ := O_w2_0.facts
    have O_w2_1 : OwnB w2 (w.heap.size+1) #[.int .i64 d] 3 := OwnB.call OwnB.au hK (by simp only [List.mem_singleton]; omega)
    obtain ⟨y_w2_1, x_w2_1, b_w2_1⟩ := O_w2_1.facts
    have HN2 := Lib.hid (NowQ.call (NowQ.to HN1.out [w.heap.size, w.heap.size+1] Keeps.au (by simp <;> omega) (by simp [kq] <;> omega)) hP hK)
    clear hP hK
    go_wp2_with fail
    have CV := fun W H ox oy => Lib.hid (several_step c hc f GA d s1 A W h0 hd w.heap.size (w.heap.size + 1) (by omega) (by omega) hA H ox oy)
    clear hA GA
    refine (CV _ (NowQ.pin (NowQ.to HN2.out [w.heap.size, w.heap.size+1] Keeps.au (by simp <;> omega) (by simp [kq] <;> omega))) O_w2_0 O_w2_1).out.mono ?_
    rintro e w3 ⟨a1, n1, p1, rfl, hP, hK, hT⟩
    have hz_w3 := hK.size
    try simp only [World.size_alloc, World.size_setCell, World.size_drew, World.heap_drewN] at hz_w3
    have O_w3_0 : OwnB w3 (w.heap.size) #[.pointer (some ⟨c.g, 0, none⟩)] 72 := OwnB.call OwnB.au hK (by simp only [List.mem_singleton]; omega)
    obtain ⟨y_w3_0, x_w3_0, b_w3_0⟩ := O_w3_0.facts
    have O_w3_1 : OwnB w3 (w.heap.size+1) #[.int .i64 d] 3 := OwnB.call OwnB.au hK (by simp only [List.mem_singleton]; omega)
    obtain ⟨y_w3_1, x_w3_1, b_w3_1⟩ := O_w3_1.facts
    have HN3 := Lib.hid (NowQ.callE (NowQ.to HN2.out [w.heap.size, w.heap.size+1] Keeps.au (by simp <;> omega) (by simp [kq] <;> omega)) hP hK hT)
    clear hP hK hT
    go_wp2_with fail
    refine (CM _ (NowQ.pin (NowQ.to HN3.out [w.heap.size, w.heap.size+1] Keeps.au (by simp <;> omega) (by simp [kq] <;> omega)))).out.mono ?_
    rintro e w4 ⟨rfl, hP, hK⟩
    have hz_w4 := hK.size
    try simp only [World.size_alloc, World.size_setCell, World.size_drew, World.heap_drewN] at hz_w4
    have O_w4_0 : OwnB w4 (w.heap.size) #[.pointer (some ⟨c.g, 0, none⟩)] 72 := OwnB.call OwnB.au hK (by simp only [List.mem_singleton]; omega)
    obtain ⟨y_w4_0, x_w4_0, b_w4_0⟩ := O_w4_0.facts
    have O_w4_1 : OwnB w4 (w.heap.size+1) #[.int .i64 d] 3 := OwnB.call OwnB.au hK (by simp only [List.mem_singleton]; omega)
    obtain ⟨y_w4_1, x_w4_1, b_w4_1⟩ := O_w4_1.facts
    have HN4 := Lib.hid (NowQ.call (NowQ.to HN3.out [w.heap.size, w.heap.size+1] Keeps.au (by simp <;> omega) (by simp [kq] <;> omega)) hP hK)
    clear hP hK
    go_wp2_with fail
    go_ret
    exact ⟨a1, n1, p1, rfl, HN4.out.now.pin, HN4.out.now.kp, KidsIn.wide HN4.out.q0.2.2 HN4.out.q0.1 HN4.out.q0.2.1 (Nat.le_refl _)⟩
end Go.Proofs.YtjmemapkipkocaaDoor

/-
  What statements' walks keep: the parser, a block that is written through a pointer, and what has been made.
-/
namespace Go.Proofs.YtjmemapkipkocaaDoor
open Go.RowKit Go.Maps
set_option linter.unusedVariables false
set_option linter.unusedSimpArgs false

/-- How far a walk has come that began in w and may write block q besides. -/
structure NowS (c : Cx) (q : Nat) (w : World) (s : St) (L : List KQ) (W : World) : Prop where
  pin : PIn W c s
  kp : Keeps [c.g, q] w W
  g : c.g < w.heap.size
  gt : c.gt < w.heap.size
  mb : c.mb < w.heap.size
  sz : 2 < w.heap.size
  qlt : q < w.heap.size
  qne : q ≠ c.g ∧ q ≠ c.gt ∧ q ≠ c.mb ∧ q ≠ 2
  all : ∀ p ∈ L, w.heap.size ≤ p.lo ∧ p.hi ≤ W.heap.size ∧ p.Q W
section
variable {c : Cx} {q : Nat} {w W W' : World} {s s' : St} {L : List KQ} {p p1 : KQ}
theorem NowS.start (h : PIn w c s) (hq : q < w.heap.size) (hn : q ≠ c.g ∧ q ≠ c.gt ∧ q ≠ c.mb ∧ q ≠ 2) : NowS c q w s [] w :=
  ⟨h, Keeps.refl _ _, lt_of_blk h.blk, lt_of_blk h.tok.choose_spec.1, lt_of_blk h.map, lt_of_blk h.siz, hq, hn, by simp⟩
theorem NowS.to (h : NowS c q w s L W) (G : List Nat) (k : Keeps G W W') (hG : ∀ b ∈ G, b = q ∨ w.heap.size ≤ b) (hQ : ∀ p ∈ L, ∀ b ∈ G, b < p.lo ∨ p.hi ≤ b ∨ b ∈ p.X) : NowS c q w s L W' := by
  have hne : ∀ b, b < w.heap.size → b ≠ q → b ∉ G := fun b hb hq hm => by rcases hG b hm with h1 | h1 <;> omega
  have hn := h.pin
  obtain ⟨cur, hb, hs, ht⟩ := hn.tok
  obtain ⟨n1, n2, n3, n4⟩ := h.qne
  refine ⟨⟨k.at_ hn.blk (hne _ h.g (Ne.symm n1)), ⟨cur, k.at_ hb (hne _ h.gt (Ne.symm n2)), hs, ht⟩, hn.lt, k.at_ hn.map (hne _ h.mb (Ne.symm n3)), k.at_ hn.siz (hne _ h.sz (Ne.symm n4))⟩,
    h.kp.then_ k (fun x hx => by rcases hG x hx with h1 | h1 <;> simp [h1]), h.g, h.gt, h.mb, h.sz, h.qlt, h.qne, fun p hp => ?_⟩
  obtain ⟨h1, h2, h3⟩ := h.all p hp
  exact ⟨h1, Nat.le_trans h2 k.size, p.st W W' k.size (fun b hl hh hx => k.block b (by omega) (fun hm => by
    rcases hQ p hp b hm with h4 | h4 | h4
    · omega
    · omega
    · exact hx h4)) h3⟩
theorem NowS.call (h : NowS c q w s L W) (h1 : PIn W' c s') (h2 : Keeps [c.g] W W') : NowS c q w s' L W' := by
  refine ⟨h1, h.kp.trans (h2.mono (by simp)), h.g, h.gt, h.mb, h.sz, h.qlt, h.qne, fun p hp => ?_⟩
  obtain ⟨h3, h4, h5⟩ := h.all p hp
  exact ⟨h3, Nat.le_trans h4 h2.size, p.st W W' h2.size (fun b hl hh _ => h2.block b (by omega) (by simp only [List.mem_singleton]; have := h.g; omega)) h5⟩
theorem NowS.callT (h : NowS c q w s L W) (T : KQ) (h1 : PIn W' c s') (h2 : Keeps [c.g] W W') (h3 : T.Q W') (hlo : W.heap.size ≤ T.lo) (hhi : T.hi ≤ W'.heap.size) : NowS c q w s' (T :: L) W' := by
  have h4 := h.call h1 h2
  refine ⟨h4.pin, h4.kp, h.g, h.gt, h.mb, h.sz, h.qlt, h.qne, fun p hp => ?_⟩
  rcases List.mem_cons.1 hp with rfl | hp
  · exact ⟨Nat.le_trans h.kp.size hlo, hhi, h3⟩
  · exact h4.all p hp
theorem NowS.callE (h : NowS c q w s L W) {kids : Exs} {kv : Value} (h1 : PIn W' c s') (h2 : Keeps [c.g] W W') (h3 : KidsIn W' W.heap.size W'.heap.size [] kids kv) : NowS c q w s' (kq W.heap.size W'.heap.size [] kids kv :: L) W' :=
  h.callT (kq _ _ _ _ _) h1 h2 h3 (Nat.le_refl _) (Nat.le_refl _)
theorem NowS.callS (h : NowS c q w s L W) {ex : Exs} {ev : Value} {body : Sts} {bv : Value} (h1 : PIn W' c s') (h2 : Keeps [c.g] W W') (h3 : MIn W' W.heap.size W'.heap.size [] ex ev body bv) : NowS c q w s' (mq W.heap.size W'.heap.size [] ex ev body bv :: L) W' :=
  h.callT (mq _ _ _ _ _ _ _) h1 h2 h3 (Nat.le_refl _) (Nat.le_refl _)
theorem NowS.q0 (h : NowS c q w s (p :: L) W) : w.heap.size ≤ p.lo ∧ p.hi ≤ W.heap.size ∧ p.Q W := h.all p (by simp)
theorem NowS.q1 (h : NowS c q w s (p1 :: p :: L) W) : w.heap.size ≤ p.lo ∧ p.hi ≤ W.heap.size ∧ p.Q W := h.all p (by simp)
theorem NowS.joinOne {a : Ex} {ka : Value} {lo hi g : Nat} {X : List Nat} (h : NowS c q w s (kq lo hi X a.kids ka :: L) W) (hb : OwnB W g #[.int .i64 a.op, .int .i64 a.ty.kind, .int .i64 a.ty.ptr, .int .i64 a.ty.len, .string ⟨a.nm.toArray⟩, .int .i64 a.n, ka, .int .i64 a.pos] 105)
    (hg : hi ≤ g ∧ lo ≤ g) : NowS c q w s (kq lo (g + 1) [] (one a) (.slice (some ⟨g, 0, none⟩) 1 1) :: L) W := by
  refine ⟨h.pin, h.kp, h.g, h.gt, h.mb, h.sz, h.qlt, h.qne, fun p hp => ?_⟩
  rcases List.mem_cons.1 hp with rfl | hp
  · exact ⟨h.q0.1, lt_of_blk hb.blk, KidsIn.one_ h.q0.2.2 hg.1 hg.2 hb [] (by simp)⟩
  · exact h.all p (by simp [hp])
end
section
variable {c : Cx} {w W W' : World} {s s' : St} {L : List KQ} {p p1 : KQ}
theorem NowQ.callT (h : NowQ c w s L W) (T : KQ) (h1 : PIn W' c s') (h2 : Keeps [c.g] W W') (h3 : T.Q W') (hlo : W.heap.size ≤ T.lo) (hhi : T.hi ≤ W'.heap.size) : NowQ c w s' (T :: L) W' := by
  have h4 := h.call h1 h2
  refine ⟨h4.now, fun p hp => ?_⟩
  rcases List.mem_cons.1 hp with rfl | hp
  · exact ⟨Nat.le_trans h.now.kp.size hlo, hhi, h3⟩
  · exact h4.all p hp
theorem NowQ.callS (h : NowQ c w s L W) {ex : Exs} {ev : Value} {body : Sts} {bv : Value} (h1 : PIn W' c s') (h2 : Keeps [c.g] W W') (h3 : MIn W' W.heap.size W'.heap.size [] ex ev body bv) : NowQ c w s' (mq W.heap.size W'.heap.size [] ex ev body bv :: L) W' :=
  h.callT (mq _ _ _ _ _ _ _) h1 h2 h3 (Nat.le_refl _) (Nat.le_refl _)
end
/-- What a call does that returns a statement. -/
def DoesT (c : Cx) (R : Sm × St) (w : World) (e : Ending) (w' : World) : Prop :=
  ∃ a n cp a' n' cp', e = .returned (.agg #[.int .i64 R.1.op, .slice a n cp, .slice a' n' cp', .int .i64 R.1.ty.kind, .int .i64 R.1.ty.ptr, .int .i64 R.1.ty.len, .string ⟨R.1.nm.toArray⟩, .int .i64 R.1.n, .int .i64 R.1.pos]) ∧ PIn w' c R.2 ∧ Keeps [c.g] w w' ∧ MIn w' w.heap.size w'.heap.size [] R.1.ex (.slice a n cp) R.1.body (.slice a' n' cp')
/-- What a call does that returns a slice of statements. -/
def DoesB (c : Cx) (R : Sts × St) (w : World) (e : Ending) (w' : World) : Prop :=
  ∃ a n cp, e = .returned (.slice a n cp) ∧ PIn w' c R.2 ∧ Keeps [c.g] w w' ∧ MIn w' w.heap.size w'.heap.size [] .nil (.slice none 0 0) R.1 (.slice a n cp)
/-- What a call does that writes a statement into block q, or nothing. -/
def DoesP (c : Cx) (q : Nat) (m : Sm) (s : St) (R : Option (Sm × St)) (w : World) (e : Ending) (w' : World) : Prop :=
  match R with
  | none => e = .returned (.bool false) ∧ PIn w' c s ∧ Keeps [c.g] w w'
  | some R => ∃ a n cp a' n' cp', e = .returned (.bool true) ∧ PIn w' c R.2 ∧ Keeps [c.g, q] w w' ∧ OwnB w' q #[.int .i64 R.1.op, .slice a n cp, .slice a' n' cp', .int .i64 R.1.ty.kind, .int .i64 R.1.ty.ptr, .int .i64 R.1.ty.len, .string ⟨R.1.nm.toArray⟩, .int .i64 R.1.n, .int .i64 R.1.pos] 82 ∧
      MIn w' w.heap.size w'.heap.size [] R.1.ex (.slice a n cp) R.1.body (.slice a' n' cp')
/-- What a call does that writes a statement into block q. -/
def DoesW (c : Cx) (q : Nat) (R : Sm × St) (w : World) (e : Ending) (w' : World) : Prop :=
  ∃ a n cp a' n' cp', e = .returned (.tuple #[]) ∧ PIn w' c R.2 ∧ Keeps [c.g, q] w w' ∧ OwnB w' q #[.int .i64 R.1.op, .slice a n cp, .slice a' n' cp', .int .i64 R.1.ty.kind, .int .i64 R.1.ty.ptr, .int .i64 R.1.ty.len, .string ⟨R.1.nm.toArray⟩, .int .i64 R.1.n, .int .i64 R.1.pos] 82 ∧
      MIn w' w.heap.size w'.heap.size [] R.1.ex (.slice a n cp) R.1.body (.slice a' n' cp')
/-- Statements do what they should, with f steps. -/
structure GoodS (c : Cx) (f : Nat) : Prop where
  stmt : ∀ (d : Int) (s : St) (R : Sm × St) (w : World), 0 ≤ d → d + f ≤ 1000000000 → (P.recs c.l f).stmt d s = some R → PIn w c s → Calls Tryd.prog 68 #[pv c, .int .i64 d] w (DoesT c R w)
end Go.Proofs.YtjmemapkipkocaaDoor

/-
  'append' to a list of statements.
-/
namespace Go.Proofs.YtjmemapkipkocaaDoor
open Go.RowKit Go.Maps
set_option linter.unusedVariables false
set_option linter.unusedSimpArgs false

theorem infoSt : (Tryd.prog.info? 82).map (fun i => (i.zero, i.size, i.bytes)) = some (some (.agg #[.int .i64 0, .slice none 0 0, .slice none 0 0, .int .i64 0, .int .i64 0, .int .i64 0, .string ⟨#[]⟩, .int .i64 0, .int .i64 0]), 9, 112) := by kernel_rfl
theorem wpList_appendS {ops : Array Oper} {rest : List Oper} {o : Oper} {a : Act} {Q : Exit → Act → World → Prop} {c : Cx} {w W : World} {s : St} {L : List KQ} (hgd : o.guard = none) (sO xO : Operand)
    (ho : o.op = .call { callee := .builtin .append, args := #[sO, xO], argTypes := #[52, 52] })
    {lo hi lo2 hi2 : Nat} {X X2 : List Nat} {acc : Sts} {B : Sm} {av : Option Addr} {n cap : Nat} {kb ea : Option Addr} {nb pb en ep gb cb : Nat}
    (hs : a.eval sO = .slice av n cap) (hx : a.eval xO = .slice (some ⟨gb, 0, none⟩) 1 cb)
    (hn : NowQ c w s (mq lo2 hi2 X2 B.ex (.slice ea en ep) B.body (.slice kb nb pb) :: mq lo hi X .nil (.slice none 0 0) acc (.slice av n cap) :: L) W)
    (hb : OwnB W gb #[.int .i64 B.op, .slice ea en ep, .slice kb nb pb, .int .i64 B.ty.kind, .int .i64 B.ty.ptr, .int .i64 B.ty.len, .string ⟨B.nm.toArray⟩, .int .i64 B.n, .int .i64 B.pos] 82)
    (h12 : hi ≤ lo2 ∧ lo ≤ lo2 ∧ lo ≤ W.heap.size) (hlen : acc.len ≤ 1000000000) (hL : ∀ q ∈ L, ∀ b, lo ≤ b → b < hi → b ∉ X → b < q.lo ∨ q.hi ≤ b ∨ b ∈ q.X)
    (Y : List Nat) (hY : ∀ x ∈ Y, x < W.heap.size ∧ (x < lo ∨ hi ≤ x ∨ x ∈ X) ∧ (x < lo2 ∨ hi2 ≤ x ∨ x ∈ X2))
    (hK : ∀ g cap' w', NowQ c w s (mq lo w'.heap.size Y .nil (.slice none 0 0) (acc.snoc B) (.slice (some ⟨g, 0, none⟩) (acc.len + 1) cap') :: L) w' → (∀ b, b < W.heap.size → (b < lo ∨ hi ≤ b ∨ b ∈ X) → w'.heap[b]? = W.heap[b]?) → W.heap.size ≤ w'.heap.size →
      wpList Tryd.prog ops Q rest (a.put o.dst (.slice (some ⟨g, 0, none⟩) (acc.len + 1) cap')) w') : wpList Tryd.prog ops Q (o :: rest) a W := by
  obtain ⟨q1, q2, q3⟩ := hn.q1
  obtain ⟨p1, p2, p3⟩ := hn.q0
  have q1' : w.heap.size ≤ lo := q1
  obtain ⟨h1, Fe0, F, hr0, hr, hnd0, hF1⟩ := q3
  obtain ⟨h1', FBe, FBb, hrBe, hrBb, hndB, hFB⟩ := p3
  have hnd := (List.nodup_append.1 hnd0).2.1
  have hF : ∀ b ∈ F, lo ≤ b ∧ b < hi ∧ b ∉ X := fun b hm => hF1 b (by simp [hm])
  obtain rfl := hr.len
  have hr2 := hr
  obtain ⟨ks, F0, ho1, ho2, rfl⟩ := hr
  obtain ⟨i0, hinf, hz⟩ : ∃ i, Tryd.prog.info? 82 = some i ∧ (i.zero, i.size, i.bytes) = (some (.agg #[.int .i64 0, .slice none 0 0, .slice none 0 0, .int .i64 0, .int .i64 0, .int .i64 0, .string ⟨#[]⟩, .int .i64 0, .int .i64 0]), 9, 112) := by
    have := infoSt
    cases hq : Tryd.prog.info? 82 with
    | none => simp [hq] at this
    | some i => exact ⟨i, rfl, by simpa [hq] using this⟩
  simp only [Prod.mk.injEq] at hz
  obtain ⟨hz0, hz1, hz2⟩ := hz
  have hlo : ∀ b ∈ ownF (Value.slice av acc.len cap), lo ≤ b := fun b hm => (hF b (by simp [hm])).1
  have hown := rebase ho1 hlo
  refine wpList_append_lies W hgd sO xO 52 ho lo 82 i0 _ 9 112 Tryd.underlying52 hinf hz0 hz1 hz2 rfl (by decide) _ acc.len ks hs hown ⟨gb, 0, none⟩ 1 cb (stC B (.slice ea en ep) (.slice kb nb pb)) hx rfl
    (World.news_of_block hb.blk) ?_ (by decide) (by unfold maxLen; omega) (by omega) (by omega) _ rfl ?_
  · intro u hu
    simp only [stC, List.mem_cons, List.not_mem_nil, or_false] at hu
    rcases hu with rfl | rfl | rfl | rfl | rfl | rfl | rfl | rfl | rfl <;> rfl
  · intro g cap' w' hown' hgr hg hgw
    have hsize : W.heap.size ≤ w'.heap.size := hgr.size
    have hkeep : ∀ b, b < W.heap.size → b ∉ ownF (Value.slice av acc.len cap) → w'.heap[b]? = W.heap[b]? := by
      intro b hbs hm
      refine hgr.block b hbs ?_
      intro e
      exact hm (by rw [ownF, ← e]; simp)
    have hkeep2 : ∀ b, b < W.heap.size → (b < lo ∨ hi ≤ b ∨ b ∈ X) → w'.heap[b]? = W.heap[b]? := by
      intro b hbs hbb
      refine hkeep b hbs fun hm => ?_
      have := hF b (by simp [hm])
      rcases hbb with h3 | h3 | h3
      · omega
      · omega
      · exact this.2.2 h3
    have hnd2 := List.nodup_append.1 hnd
    have hF0 : ∀ b ∈ F0, b < W.heap.size ∧ b ∉ ownF (Value.slice av acc.len cap) := fun b hm => ⟨by have := (hF b (by simp [hm])).2.1; omega, fun h5 => hnd2.2.2 b h5 b hm rfl⟩
    have hex : StsIn w' acc ks F0 := StsIn.at_ _ _ _ ho2 fun b hm => hkeep b (hF0 b hm).1 (hF0 b hm).2
    have hrB1 : RowX w' B.ex (.slice ea en ep) FBe := hrBe.at_ fun b hm => hkeep2 b (by have := (hFB b (by simp [hm])).2.1; omega) (by have := (hFB b (by simp [hm])).1; omega)
    have hrB2 : RowS w' B.body (.slice kb nb pb) FBb := hrBb.at_ fun b hm => hkeep2 b (by have := (hFB b (by simp [hm])).2.1; omega) (by have := (hFB b (by simp [hm])).1; omega)
    obtain ⟨FB, hFBe⟩ : ∃ FB, FB = FBe ++ FBb := ⟨_, rfl⟩
    rw [← hFBe] at hFB hndB
    have hs2 := StsIn.snoc hrB1 hrB2 acc ks F0 hex
    rw [← hFBe] at hs2
    have hgF : g ∉ F0 ++ FB ∧ lo ≤ g ∧ (g = W.heap.size ∨ g ∈ ownF (Value.slice av acc.len cap)) := by
      rcases hg with hg | rfl
      · have hgo : g ∈ ownF (Value.slice av acc.len cap) := by rw [ownF, hg]; simp
        refine ⟨fun hm => ?_, hlo g hgo, .inr hgo⟩
        rcases List.mem_append.1 hm with hm | hm
        · exact (hF0 g hm).2 hgo
        · have := (hF g (by simp [hgo])).2.1; have := (hFB g hm).1; omega
      · refine ⟨fun hm => ?_, by omega, .inl rfl⟩
        rcases List.mem_append.1 hm with hm | hm
        · have := (hF0 _ hm).1; omega
        · have := (hFB _ hm).2.1; omega
    have hkn : NowQ c w s L w' := by
      have hne : ∀ b, b < w.heap.size → b < W.heap.size ∧ (b < lo ∨ hi ≤ b ∨ b ∈ X) := fun b hbs => ⟨by have := hn.now.kp.size; omega, .inl (by omega)⟩
      have k : Keeps (ownF (Value.slice av acc.len cap)) W w' := ⟨hgr.os, hgr.tape, hgr.output, hgr.size, hkeep⟩
      have hnL : NowQ c w s L W := ⟨hn.now, fun q hq => hn.all q (by simp [hq])⟩
      exact hnL.to _ k (fun b hm => by have := hlo b hm; omega) (fun q hq b hm => by
        have h5 := hF b (by simp [hm])
        exact hL q hq b h5.1 h5.2.1 h5.2.2)
    refine hK g cap' w' ⟨hkn.now, fun q hq => ?_⟩ hkeep2 hsize
    rcases List.mem_cons.1 hq with rfl | hq
    · refine ⟨q1, Nat.le_refl _, Nat.le_refl _, [], g :: (F0 ++ FB), RowX.nil, ⟨ks ++ stC B (.slice ea en ep) (.slice kb nb pb), F0 ++ FB, ?_, hs2, rfl⟩, ?_, ?_⟩
      · rw [Sts.snoc_len]
        exact rebase hown' (fun b _ => Nat.zero_le _)
      · refine List.nodup_cons.2 ⟨hgF.1, List.nodup_append.2 ⟨hnd2.2.1, hndB, ?_⟩⟩
        intro x hx y hy
        have := (hF x (by simp [hx])).2.1; have := (hFB y hy).1; omega
      · intro b hm
        simp only [List.nil_append] at hm
        rcases List.mem_cons.1 hm with rfl | hm
        · refine ⟨hgF.2.1, hgw, fun hy => ?_⟩
          have h5 := hY _ hy
          rcases hgF.2.2 with h6 | h6
          · omega
          · have h7 := hF _ (List.mem_append_left _ h6)
            rcases h5.2.1 with h8 | h8 | h8
            · omega
            · omega
            · exact h7.2.2 h8
        · rcases List.mem_append.1 hm with hm | hm
          · have h7 := hF b (by simp [hm])
            refine ⟨h7.1, by omega, fun hy => ?_⟩
            rcases (hY _ hy).2.1 with h8 | h8 | h8
            · omega
            · omega
            · exact h7.2.2 h8
          · have h7 := hFB b hm
            refine ⟨by omega, by omega, fun hy => ?_⟩
            rcases (hY _ hy).2.2 with h8 | h8 | h8
            · omega
            · omega
            · exact h7.2.2 h8
    · exact hkn.all q hq
end Go.Proofs.YtjmemapkipkocaaDoor

/-
  Declarations in memory.
-/
namespace Go.Proofs.YtjmemapkipkocaaDoor
open Go.RowKit Go.Maps
set_option linter.unusedVariables false
set_option linter.unusedSimpArgs false

def intsC (l : List Int) : List Value := l.map fun n => .int .i64 n
/-- A slice holds these numbers. -/
def RowI (w : World) (l : List Int) (iv : Value) (F : List Nat) : Prop := w.ownsRow 0 2 1 iv l.length (intsC l) ∧ F = ownF iv
def dcC (d : Dec) (iv : Value) : List Value := [.string ⟨d.nm.toArray⟩, .int .i64 d.ty.kind, .int .i64 d.ty.ptr, .int .i64 d.ty.len, iv, .int .i64 d.pos]
/-- Declarations lie in these cells. -/
def DcsIn (w : World) : List Dec → List Value → List Nat → Prop
  | [], xs, F => xs = [] ∧ F = []
  | d :: r, xs, F => ∃ iv Fi xs' F', xs = dcC d iv ++ xs' ∧ F = Fi ++ F' ∧ RowI w d.init iv Fi ∧ DcsIn w r xs' F'
def RowD (w : World) (ds : List Dec) (dv : Value) (F : List Nat) : Prop := ∃ ks F0, w.ownsRow 0 50 6 dv ds.length ks ∧ DcsIn w ds ks F0 ∧ F = ownF dv ++ F0
theorem RowI.nil {w : World} : RowI w [] (.slice none 0 0) [] := ⟨World.ownsRow_nil _ _ _ _, rfl⟩
theorem RowD.nil {w : World} : RowD w [] (.slice none 0 0) [] := ⟨[], [], World.ownsRow_nil _ _ _ _, ⟨rfl, rfl⟩, rfl⟩
theorem RowI.at_ {w w' : World} {l : List Int} {iv : Value} {F : List Nat} (h : RowI w l iv F) (hb : ∀ b ∈ F, w'.heap[b]? = w.heap[b]?) : RowI w' l iv F := by
  obtain ⟨h1, rfl⟩ := h
  exact ⟨ownsRow_at h1 hb, rfl⟩
theorem DcsIn.at_ {w w' : World} : ∀ (r : List Dec) (xs : List Value) (F : List Nat), DcsIn w r xs F → (∀ b ∈ F, w'.heap[b]? = w.heap[b]?) → DcsIn w' r xs F := by
  intro r
  induction r with
  | nil => rintro xs F h _; exact h
  | cons d r ih =>
    rintro xs F ⟨iv, Fi, xs', F', rfl, rfl, h1, h2⟩ hb
    exact ⟨iv, Fi, xs', F', rfl, rfl, h1.at_ (fun b hm => hb b (by simp [hm])), ih _ _ h2 (fun b hm => hb b (by simp [hm]))⟩
theorem DcsIn.snoc {w : World} {d : Dec} {iv : Value} {Fi : List Nat} (h : RowI w d.init iv Fi) : ∀ (r : List Dec) (xs : List Value) (F : List Nat), DcsIn w r xs F → DcsIn w (r ++ [d]) (xs ++ dcC d iv) (F ++ Fi) := by
  intro r
  induction r with
  | nil =>
    rintro xs F ⟨rfl, rfl⟩
    exact ⟨iv, Fi, [], [], by simp, by simp, h, rfl, rfl⟩
  | cons d2 r ih =>
    rintro xs F ⟨iv2, Fi2, xs', F', rfl, rfl, h1, h2⟩
    exact ⟨iv2, Fi2, xs' ++ dcC d iv, F' ++ Fi, by simp, by simp, h1, ih _ _ h2⟩
theorem RowD.at_ {w w' : World} {ds : List Dec} {dv : Value} {F : List Nat} (h : RowD w ds dv F) (hb : ∀ b ∈ F, w'.heap[b]? = w.heap[b]?) : RowD w' ds dv F := by
  obtain ⟨ks, F0, h3, h4, rfl⟩ := h
  exact ⟨ks, F0, ownsRow_at h3 (fun b hm => hb b (by simp [hm])), DcsIn.at_ _ _ _ h4 (fun b hm => hb b (by simp [hm])), rfl⟩
theorem ownsRow_n {w : World} {b : Nat} {T : TypeId} {sz m : Nat} {a : Option Addr} {n cp : Nat} {xs : List Value} (h : w.ownsRow b T sz (.slice a n cp) m xs) : n = m := by
  rcases h.2 with ⟨e, h2⟩ | ⟨g, cap, cur, e, _⟩
  · injection e with e1 e2 e3; omega
  · injection e
theorem RowD.len {w : World} {ds : List Dec} {a : Option Addr} {n cp : Nat} {F : List Nat} (h : RowD w ds (.slice a n cp) F) : n = ds.length := by
  obtain ⟨ks, F0, h1, _, _⟩ := h
  exact ownsRow_n h1
/-- A row's blocks: new since lo, older than hi, none of X; no block twice. -/
structure RIn (R : World → List Nat → Prop) (w : World) (lo hi : Nat) (X : List Nat) : Prop where
  hle : hi ≤ w.heap.size
  row : ∃ F, R w F ∧ F.Nodup ∧ ∀ b ∈ F, lo ≤ b ∧ b < hi ∧ b ∉ X
theorem RIn.of_heap {R : World → List Nat → Prop} (hR : ∀ w w' F, R w F → (∀ b ∈ F, w'.heap[b]? = w.heap[b]?) → R w' F) {w w' : World} {lo hi : Nat} {X : List Nat} (h : RIn R w lo hi X) (hs : w.heap.size ≤ w'.heap.size)
    (hb : ∀ b, lo ≤ b → b < hi → b ∉ X → w'.heap[b]? = w.heap[b]?) : RIn R w' lo hi X := by
  obtain ⟨h1, F, h2, h3, h4⟩ := h
  exact ⟨Nat.le_trans h1 hs, F, hR _ _ _ h2 (fun b hm => hb b (h4 b hm).1 (h4 b hm).2.1 (h4 b hm).2.2), h3, h4⟩
theorem RIn.wide {R : World → List Nat → Prop} {w : World} {lo hi : Nat} {X : List Nat} (h : RIn R w lo hi X) {lo' hi' : Nat} (h1 : lo' ≤ lo) (h2 : hi ≤ hi') (h3 : hi' ≤ w.heap.size) : RIn R w lo' hi' [] := by
  obtain ⟨_, F, h4, h5, h6⟩ := h
  exact ⟨h3, F, h4, h5, fun b hm => ⟨by have := (h6 b hm).1; omega, by have := (h6 b hm).2.1; omega, by simp⟩⟩
def iq (lo hi : Nat) (X : List Nat) (l : List Int) (iv : Value) : KQ := ⟨lo, hi, X, fun W => RIn (fun w F => RowI w l iv F) W lo hi X, fun _ _ hs hb h => h.of_heap (fun _ _ _ h hb => h.at_ hb) hs hb⟩
def dq (lo hi : Nat) (X : List Nat) (l : List Dec) (dv : Value) : KQ := ⟨lo, hi, X, fun W => RIn (fun w F => RowD w l dv F) W lo hi X, fun _ _ hs hb h => h.of_heap (fun _ _ _ h hb => h.at_ hb) hs hb⟩
theorem infoDc : (Tryd.prog.info? 50).map (fun i => (i.zero, i.size, i.bytes)) = some (some (.agg #[.string ⟨#[]⟩, .int .i64 0, .int .i64 0, .int .i64 0, .slice none 0 0, .int .i64 0]), 6, 72) := by kernel_rfl
theorem wpList_appendD {ops : Array Oper} {rest : List Oper} {o : Oper} {a : Act} {Q : Exit → Act → World → Prop} {c : Cx} {w W : World} {s : St} {L : List KQ} (hgd : o.guard = none) (sO xO : Operand)
    (ho : o.op = .call { callee := .builtin .append, args := #[sO, xO], argTypes := #[24, 24] })
    {lo hi lo2 hi2 : Nat} {X X2 : List Nat} {acc : List Dec} {B : Dec} {av : Option Addr} {n cap : Nat} {kb : Option Addr} {nb pb gb cb : Nat}
    (hs : a.eval sO = .slice av n cap) (hx : a.eval xO = .slice (some ⟨gb, 0, none⟩) 1 cb)
    (hn : NowQ c w s (iq lo2 hi2 X2 B.init (.slice kb nb pb) :: dq lo hi X acc (.slice av n cap) :: L) W)
    (hb : OwnB W gb #[.string ⟨B.nm.toArray⟩, .int .i64 B.ty.kind, .int .i64 B.ty.ptr, .int .i64 B.ty.len, .slice kb nb pb, .int .i64 B.pos] 50)
    (h12 : hi ≤ lo2 ∧ lo ≤ lo2 ∧ lo ≤ W.heap.size) (hlen : acc.length ≤ 1000000000) (hL : ∀ q ∈ L, ∀ b, lo ≤ b → b < hi → b ∉ X → b < q.lo ∨ q.hi ≤ b ∨ b ∈ q.X)
    (Y : List Nat) (hY : ∀ x ∈ Y, x < W.heap.size ∧ (x < lo ∨ hi ≤ x ∨ x ∈ X) ∧ (x < lo2 ∨ hi2 ≤ x ∨ x ∈ X2))
    (hK : ∀ g cap' w', NowQ c w s (dq lo w'.heap.size Y (acc ++ [B]) (.slice (some ⟨g, 0, none⟩) (acc.length + 1) cap') :: L) w' → (∀ b, b < W.heap.size → (b < lo ∨ hi ≤ b ∨ b ∈ X) → w'.heap[b]? = W.heap[b]?) → W.heap.size ≤ w'.heap.size →
      wpList Tryd.prog ops Q rest (a.put o.dst (.slice (some ⟨g, 0, none⟩) (acc.length + 1) cap')) w') : wpList Tryd.prog ops Q (o :: rest) a W := by
  obtain ⟨q1, q2, q3⟩ := hn.q1
  obtain ⟨p1, p2, p3⟩ := hn.q0
  have q1' : w.heap.size ≤ lo := q1
  obtain ⟨h1, F, hr, hnd, hF⟩ := q3
  obtain ⟨h1', FB, hrB, hndB, hFB⟩ := p3
  obtain rfl := hr.len
  have hr2 := hr
  obtain ⟨ks, F0, ho1, ho2, rfl⟩ := hr
  obtain ⟨i0, hinf, hz⟩ : ∃ i, Tryd.prog.info? 50 = some i ∧ (i.zero, i.size, i.bytes) = (some (.agg #[.string ⟨#[]⟩, .int .i64 0, .int .i64 0, .int .i64 0, .slice none 0 0, .int .i64 0]), 6, 72) := by
    have := infoDc
    cases hq : Tryd.prog.info? 50 with
    | none => simp [hq] at this
    | some i => exact ⟨i, rfl, by simpa [hq] using this⟩
  simp only [Prod.mk.injEq] at hz
  obtain ⟨hz0, hz1, hz2⟩ := hz
  have hlo : ∀ b ∈ ownF (Value.slice av acc.length cap), lo ≤ b := fun b hm => (hF b (by simp [hm])).1
  have hown := rebase ho1 hlo
  refine wpList_append_lies W hgd sO xO 24 ho lo 50 i0 _ 6 72 Tryd.underlying24 hinf hz0 hz1 hz2 rfl (by decide) _ acc.length ks hs hown ⟨gb, 0, none⟩ 1 cb (dcC B (.slice kb nb pb)) hx rfl
    (World.news_of_block hb.blk) ?_ (by decide) (by unfold maxLen; omega) (by omega) (by omega) _ rfl ?_
  · intro u hu
    simp only [dcC, List.mem_cons, List.not_mem_nil, or_false] at hu
    rcases hu with rfl | rfl | rfl | rfl | rfl | rfl <;> rfl
  · intro g cap' w' hown' hgr hg hgw
    have hsize : W.heap.size ≤ w'.heap.size := hgr.size
    have hkeep : ∀ b, b < W.heap.size → b ∉ ownF (Value.slice av acc.length cap) → w'.heap[b]? = W.heap[b]? := by
      intro b hbs hm
      refine hgr.block b hbs ?_
      intro e
      exact hm (by rw [ownF, ← e]; simp)
    have hkeep2 : ∀ b, b < W.heap.size → (b < lo ∨ hi ≤ b ∨ b ∈ X) → w'.heap[b]? = W.heap[b]? := by
      intro b hbs hbb
      refine hkeep b hbs fun hm => ?_
      have := hF b (by simp [hm])
      rcases hbb with h3 | h3 | h3
      · omega
      · omega
      · exact this.2.2 h3
    have hnd2 := List.nodup_append.1 hnd
    have hF0 : ∀ b ∈ F0, b < W.heap.size ∧ b ∉ ownF (Value.slice av acc.length cap) := fun b hm => ⟨by have := (hF b (by simp [hm])).2.1; omega, fun h5 => hnd2.2.2 b h5 b hm rfl⟩
    have hex : DcsIn w' acc ks F0 := DcsIn.at_ _ _ _ ho2 fun b hm => hkeep b (hF0 b hm).1 (hF0 b hm).2
    have hrB' : RowI w' B.init (.slice kb nb pb) FB := hrB.at_ fun b hm => hkeep2 b (by have := (hFB b hm).2.1; omega) (by have := (hFB b hm).1; omega)
    have hs2 := DcsIn.snoc hrB' acc ks F0 hex
    have hgF : g ∉ F0 ++ FB ∧ lo ≤ g ∧ (g = W.heap.size ∨ g ∈ ownF (Value.slice av acc.length cap)) := by
      rcases hg with hg | rfl
      · have hgo : g ∈ ownF (Value.slice av acc.length cap) := by rw [ownF, hg]; simp
        refine ⟨fun hm => ?_, hlo g hgo, .inr hgo⟩
        rcases List.mem_append.1 hm with hm | hm
        · exact (hF0 g hm).2 hgo
        · have := (hF g (by simp [hgo])).2.1; have := (hFB g hm).1; omega
      · refine ⟨fun hm => ?_, by omega, .inl rfl⟩
        rcases List.mem_append.1 hm with hm | hm
        · have := (hF0 _ hm).1; omega
        · have := (hFB _ hm).2.1; omega
    have hkn : NowQ c w s L w' := by
      have hne : ∀ b, b < w.heap.size → b < W.heap.size ∧ (b < lo ∨ hi ≤ b ∨ b ∈ X) := fun b hbs => ⟨by have := hn.now.kp.size; omega, .inl (by omega)⟩
      have k : Keeps (ownF (Value.slice av acc.length cap)) W w' := ⟨hgr.os, hgr.tape, hgr.output, hgr.size, hkeep⟩
      have hnL : NowQ c w s L W := ⟨hn.now, fun q hq => hn.all q (by simp [hq])⟩
      exact hnL.to _ k (fun b hm => by have := hlo b hm; omega) (fun q hq b hm => by
        have h5 := hF b (by simp [hm])
        exact hL q hq b h5.1 h5.2.1 h5.2.2)
    refine hK g cap' w' ⟨hkn.now, fun q hq => ?_⟩ hkeep2 hsize
    rcases List.mem_cons.1 hq with rfl | hq
    · refine ⟨q1, Nat.le_refl _, Nat.le_refl _, g :: (F0 ++ FB), ⟨ks ++ dcC B (.slice kb nb pb), F0 ++ FB, ?_, hs2, rfl⟩, ?_, ?_⟩
      · rw [List.length_append]; show World.ownsRow _ _ _ _ _ (acc.length + 1) _
        exact rebase hown' (fun b _ => Nat.zero_le _)
      · refine List.nodup_cons.2 ⟨hgF.1, List.nodup_append.2 ⟨hnd2.2.1, hndB, ?_⟩⟩
        intro x hx y hy
        have := (hF x (by simp [hx])).2.1; have := (hFB y hy).1; omega
      · intro b hm
        rcases List.mem_cons.1 hm with rfl | hm
        · refine ⟨hgF.2.1, hgw, fun hy => ?_⟩
          have h5 := hY _ hy
          rcases hgF.2.2 with h6 | h6
          · omega
          · have h7 := hF _ (List.mem_append_left _ h6)
            rcases h5.2.1 with h8 | h8 | h8
            · omega
            · omega
            · exact h7.2.2 h8
        · rcases List.mem_append.1 hm with hm | hm
          · have h7 := hF b (by simp [hm])
            refine ⟨h7.1, by omega, fun hy => ?_⟩
            rcases (hY _ hy).2.1 with h8 | h8 | h8
            · omega
            · omega
            · exact h7.2.2 h8
          · have h7 := hFB b hm
            refine ⟨by omega, by omega, fun hy => ?_⟩
            rcases (hY _ hy).2.2 with h8 | h8 | h8
            · omega
            · omega
            · exact h7.2.2 h8
    · exact hkn.all q hq
end Go.Proofs.YtjmemapkipkocaaDoor

/-
  Parameters.
-/
namespace Go.Proofs.YtjmemapkipkocaaDoor
open Go.RowKit Go.Maps
set_option linter.unusedVariables false
set_option linter.unusedSimpArgs false
set_option maxRecDepth 100000
set_option maxHeartbeats 1000000

theorem NowQ.addI {c : Cx} {w W : World} {s : St} {L : List KQ} (h : NowQ c w s L W) : NowQ c w s (iq W.heap.size W.heap.size [] [] (.slice none 0 0) :: L) W := by
  refine ⟨h.now, fun p hp => ?_⟩
  rcases List.mem_cons.1 hp with rfl | hp
  · exact ⟨h.now.kp.size, Nat.le_refl _, Nat.le_refl _, [], RowI.nil, by simp, by simp⟩
  · exact h.all p hp
theorem param_any (c : Cx) (hc : c.Ok) (s : St) (w : World) (h : PIn w c s) :
    Calls Tryd.prog 67 #[pv c] w (Does c (P.param c.l s).2 (.agg #[.string ⟨(P.param c.l s).1.nm.toArray⟩, .int .i64 (P.param c.l s).1.ty.kind, .int .i64 (P.param c.l s).1.ty.ptr, .int .i64 (P.param c.l s).1.ty.len, .slice none 0 0, .int .i64 (P.param c.l s).1.pos]) w) := by
  have HN := Lib.hid (NowQ.start h)
  have hg := HN.out.now.g
  have hgt := HN.out.now.gt
  obtain ⟨Y, hY⟩ : ∃ Y, Y = P.typ c.l s := ⟨_, rfl⟩
  obtain ⟨V, hV⟩ : ∃ V, V = P.kindT c.l 1 Y.2 := ⟨_, rfl⟩
  obtain ⟨s2, hs2⟩ : ∃ s2, s2 = P.kind c.l 1 Y.2 := ⟨_, rfl⟩
  have CT := fun W H => Lib.hid (typeOf_any c hc s W H)
  have CV := fun W H => Lib.hid (name_any c hc Y.2 W H)
  rw [← hY] at CT
  rw [← hV, ← hs2] at CV
  have e : P.param c.l s = (⟨V.text, Y.1, [], V.pos⟩, s2) := by rw [hV, hs2, hY]; rfl
  rw [e]
  clear h hY hV hs2 e
  unfold pv
  go_enter Tryd.func67, Tryd.ntmps67
  go_wp2_with fail
  refine (CT _ (NowQ.pin (NowQ.to HN.out [w.heap.size] Keeps.au (by simp <;> omega) (by simp [kq, mq, dq, iq] <;> omega)))).out.mono ?_
  rintro e w1 ⟨rfl, hP, hK⟩
  have hz_w1 := hK.size
  try simp only [World.size_alloc, World.size_setCell, World.size_drew, World.heap_drewN] at hz_w1
  have O_w1_0 : OwnB w1 (w.heap.size) #[.string ⟨#[]⟩, .int .i64 0, .int .i64 0, .int .i64 0, .slice none 0 0, .int .i64 0] 50 := OwnB.call OwnB.au hK (by simp only [List.mem_singleton]; omega)
  obtain ⟨y_w1_0, x_w1_0, b_w1_0⟩ := O_w1_0.facts
  have HN1 := Lib.hid (NowQ.call (NowQ.to HN.out [w.heap.size] Keeps.au (by simp <;> omega) (by simp [kq, mq, dq, iq] <;> omega)) hP hK)
  clear hP hK
  go_wp2_with fail
  refine (CV _ (NowQ.pin (NowQ.to HN1.out [w.heap.size, w1.heap.size] Keeps.au (by simp <;> omega) (by simp [kq, mq, dq, iq] <;> omega)))).out.mono ?_
  rintro e w2 ⟨rfl, hP, hK⟩
  have hz_w2 := hK.size
  try simp only [World.size_alloc, World.size_setCell, World.size_drew, World.heap_drewN] at hz_w2
  have O_w2_0 : OwnB w2 (w.heap.size) #[.string ⟨#[]⟩, .int .i64 0, .int .i64 0, .int .i64 0, .slice none 0 0, .int .i64 0] 50 := OwnB.call OwnB.au hK (by simp only [List.mem_singleton]; omega)
  obtain ⟨y_w2_0, x_w2_0, b_w2_0⟩ := O_w2_0.facts
  have O_w2_1 : OwnB w2 (w1.heap.size) #[.int .i64 Y.1.kind, .int .i64 Y.1.ptr, .int .i64 Y.1.len] 47 := OwnB.call OwnB.au hK (by simp only [List.mem_singleton]; omega)
  obtain ⟨y_w2_1, x_w2_1, b_w2_1⟩ := O_w2_1.facts
  have HN2 := Lib.hid (NowQ.call (NowQ.to HN1.out [w.heap.size, w1.heap.size] Keeps.au (by simp <;> omega) (by simp [kq, mq, dq, iq] <;> omega)) hP hK)
  clear hP hK
  go_wp2_with fail
  refine bodyPost_ret (v := .agg #[.string ⟨V.text.toArray⟩, .int .i64 Y.1.kind, .int .i64 Y.1.ptr, .int .i64 Y.1.len, .slice none 0 0, .int .i64 V.pos]) (by simp [results, Tryd.results67, go_sem, *]) rfl ?_
  exact ⟨rfl, (NowQ.pin (NowQ.to HN2.out [w.heap.size, w1.heap.size] Keeps.au (by simp <;> omega) (by simp [kq, mq, dq, iq] <;> omega))), ((NowQ.to HN2.out [w.heap.size, w1.heap.size] Keeps.au (by simp <;> omega) (by simp [kq, mq, dq, iq] <;> omega)) : NowQ c w s2 [] _).now.kp⟩
/-- What a call does that returns a slice of declarations. -/
def DoesD (c : Cx) (R : List Dec × St) (w : World) (e : Ending) (w' : World) : Prop :=
  ∃ a n cp, e = .returned (.slice a n cp) ∧ PIn w' c R.2 ∧ Keeps [c.g] w w' ∧ RIn (fun w F => RowD w R.1 (.slice a n cp) F) w' w.heap.size w'.heap.size []
/-- Where the loop of 'several' is. -/
structure SdAt (c : Cx) (w : World) (f : Nat) (A : List Dec × St) (k : Nat) (t5 t6 : Value) (wr : World) : Prop where
  ex : ∃ (more : Bool) (acc : List Dec) (a : Option Addr) (n cp : Nat) (s0 : St) (hi : Nat), t5 = .slice a n cp ∧ t6 = .bool more ∧ NowQ c w s0 [dq w.heap.size hi [] acc (.slice a n cp)] wr ∧
    (more = true → P.parL c.l k acc s0 = some A) ∧ acc.length + k ≤ f ∧ (more = false → A = (acc, s0))
theorem severalD_step (c : Cx) (hc : c.Ok) (f : Nat) (hf : f ≤ 1000000000) (s : St) (A : List Dec × St) (w : World) (hA : P.parL c.l f [] s = some A) (h : PIn w c s) :
    Calls Tryd.prog 66 #[pv c, .func (.func 67) #[pv c] #[]] w (DoesD c A w) := by
  have HN := Lib.hid (NowQ.start h)
  have hg := HN.out.now.g
  have hgt := HN.out.now.gt
  have HA := Lib.hid hA
  clear h hA
  unfold pv
  go_enter Tryd.func66, Tryd.ntmps66
  go_wp2_with fail
  go_loopg [5, 6] f (fun k t5 t6 wr => SdAt c w f A k t5 t6 wr)
  case atStart => exact ⟨true, [], none, 0, 0, s, w.heap.size, rfl, rfl, ⟨HN.out.now, by simp [dq]; exact ⟨Nat.le_refl _, [], RowD.nil, by simp, by simp⟩⟩, fun _ => HA.out, by simp, (by simp)⟩
  case round =>
    obtain ⟨more, acc, a, n, cp, s0, hi, rfl, rfl, hN, ha, hlen, hf2⟩ := hrel
    have HNr := Lib.hid hN
    have hsw : w.heap.size ≤ wr.heap.size := HNr.out.now.kp.size
    have hhi : hi ≤ wr.heap.size := HNr.out.q0.2.1
    clear hN
    cases more with
    | false =>
      obtain rfl := hf2 rfl
      clear ha hf2
      go_wp2_with fail
      go_ret
      exact ⟨a, n, cp, rfl, HNr.out.now.pin, HNr.out.now.kp, RIn.wide HNr.out.q0.2.2 (Nat.le_refl _) HNr.out.q0.2.1 (Nat.le_refl _)⟩
    | true =>
      have hb := ha rfl
      clear ha hf2
      obtain ⟨k, rfl⟩ : ∃ k, gk = k + 1 := by
        cases gk with
        | zero => cases hb
        | succ k => exact ⟨k, rfl⟩
      unfold P.parL at hb
      have hnn : n = acc.length := by obtain ⟨_, _, _, F, hr, _⟩ := HNr.out.q0; exact hr.len
      subst hnn
      by_cases h4 : acc.length = 4
      · rw [if_pos h4] at hb
        obtain ⟨sF, hsF⟩ : ∃ sF, sF = P.fail c.l 2 (P.tok c.l s0).pos s0 := ⟨_, rfl⟩
        rw [← hsF] at hb
        have h4b : ((acc.length : Int) == 4) = true := by simp; omega
        have CT := fun W H => Lib.hid (token_any c hc s0 W H)
        have CF := fun W H => Lib.hid (fail_any c hc s0 W H 2 (P.tok c.l s0).pos)
        rw [← hsF] at CF
        obtain ⟨B, hB⟩ : ∃ B, B = P.param c.l sF := ⟨_, rfl⟩
        rw [← hB] at hb
        have CE := fun W H => Lib.hid (param_any c hc sF W H)
        rw [← hB] at CE
        have CA := fun W H => Lib.hid (accept_any c hc B.2 W H [44])
        have HR := Lib.hid hb
        have HI := Lib.hid (show B.1.init = [] by rw [hB]; rfl)
        clear hb hsF h4 hB
        have tk0 := tok_field0
        have tk1 := tok_field1
        have tk2 := tok_field2
        have tk3 := tok_field3
        go_wp2_with fail
        refine (CT _ (NowQ.pin (NowQ.to HNr.out [] Keeps.au (fun b hb => absurd hb List.not_mem_nil) (fun q _ b hb => absurd hb List.not_mem_nil)))).out.mono ?_
        rintro e w1 ⟨rfl, hP, hK⟩
        have hz_w1 := hK.size
        try simp only [World.size_alloc, World.size_setCell, World.size_drew, World.heap_drewN] at hz_w1
        have HN1 := Lib.hid (NowQ.call (NowQ.to HNr.out [] Keeps.au (fun b hb => absurd hb List.not_mem_nil) (fun q _ b hb => absurd hb List.not_mem_nil)) hP hK)
        clear hP hK
        go_wp2_with fail
        refine (CF _ (NowQ.pin (NowQ.to HN1.out [] Keeps.au (fun b hb => absurd hb List.not_mem_nil) (fun q _ b hb => absurd hb List.not_mem_nil)))).out.mono ?_
        rintro e w2 ⟨rfl, hP, hK⟩
        have hz_w2 := hK.size
        try simp only [World.size_alloc, World.size_setCell, World.size_drew, World.heap_drewN] at hz_w2
        have HN2 := Lib.hid (NowQ.call (NowQ.to HN1.out [] Keeps.au (fun b hb => absurd hb List.not_mem_nil) (fun q _ b hb => absurd hb List.not_mem_nil)) hP hK)
        clear hP hK
        go_wp2_with fail
        refine (CE _ (NowQ.pin (NowQ.to HN2.out [] Keeps.au (fun b hb => absurd hb List.not_mem_nil) (fun q _ b hb => absurd hb List.not_mem_nil)))).out.mono ?_
        rintro e w3 ⟨rfl, hP, hK⟩
        have hz_w3 := hK.size
        try simp only [World.size_alloc, World.size_setCell, World.size_drew, World.heap_drewN] at hz_w3
        have HN3 := Lib.hid (NowQ.call (NowQ.to HN2.out [] Keeps.au (fun b hb => absurd hb List.not_mem_nil) (fun q _ b hb => absurd hb List.not_mem_nil)) hP hK)
        clear hP hK
        go_wp2_with (at_builtin; refine wpList_appendD (acc := acc) (B := B.1) rfl _ _ rfl rfl rfl (by rw [HI.out]; exact NowQ.addI (NowQ.to HN3.out [] Keeps.au (fun b hb => absurd hb List.not_mem_nil) (fun q _ b hb => absurd hb List.not_mem_nil))) OwnB.au ⟨by (try simp only [World.size_alloc]); omega, by (try simp only [World.size_alloc]); omega, (by (try simp only [World.size_alloc, World.size_setCell, World.size_drew, World.heap_drewN]); omega)⟩ (by omega) (fun q hq => absurd hq List.not_mem_nil) [] (fun x hx => absurd hx List.not_mem_nil) ?_; intro g cap' w4 hN4 hk4 hz4; have HN4 := Lib.hid hN4; clear hN4 hk4)
        refine (CA _ (NowQ.pin (NowQ.to HN4.out [] Keeps.au (fun b hb => absurd hb List.not_mem_nil) (fun q _ b hb => absurd hb List.not_mem_nil)))).out.mono ?_
        rintro e w5 ⟨rfl, hP, hK⟩
        have hz_w5 := hK.size
        try simp only [World.size_alloc, World.size_setCell, World.size_drew, World.heap_drewN] at hz_w5
        have HN5 := Lib.hid (NowQ.call (NowQ.to HN4.out [] Keeps.au (fun b hb => absurd hb List.not_mem_nil) (fun q _ b hb => absurd hb List.not_mem_nil)) hP hK)
        clear hP hK
        go_wp2_with fail
        go_roundg k
        case measure => omega
        case rel =>
          refine ⟨P.is c.l [44] B.2, acc ++ [B.1], _, _, _, P.acc c.l [44] B.2, _, rfl, rfl, HN5.out, ?_, by rw [List.length_append]; simp; omega, ?_⟩
          · intro hi
            have := HR.out
            rw [hi, if_pos rfl] at this
            rw [show P.acc c.l [44] B.2 = P.next c.l B.2 by simp [P.acc, hi]]
            exact this
          · intro hi
            have := HR.out
            rw [hi, if_neg (by simp)] at this
            rw [show P.acc c.l [44] B.2 = B.2 by simp [P.acc, hi]]
            exact (Option.some.inj this).symm
      · rw [if_neg h4] at hb
        have h4b : ((acc.length : Int) == 4) = false := by simp; omega
        obtain ⟨B, hB⟩ : ∃ B, B = P.param c.l s0 := ⟨_, rfl⟩
        rw [← hB] at hb
        have CE := fun W H => Lib.hid (param_any c hc s0 W H)
        rw [← hB] at CE
        have CA := fun W H => Lib.hid (accept_any c hc B.2 W H [44])
        have HR := Lib.hid hb
        have HI := Lib.hid (show B.1.init = [] by rw [hB]; rfl)
        clear hb hB
        go_wp2_with fail
        refine (CE _ (NowQ.pin (NowQ.to HNr.out [] Keeps.au (fun b hb => absurd hb List.not_mem_nil) (fun q _ b hb => absurd hb List.not_mem_nil)))).out.mono ?_
        rintro e w3 ⟨rfl, hP, hK⟩
        have hz_w3 := hK.size
        try simp only [World.size_alloc, World.size_setCell, World.size_drew, World.heap_drewN] at hz_w3
        have HN3 := Lib.hid (NowQ.call (NowQ.to HNr.out [] Keeps.au (fun b hb => absurd hb List.not_mem_nil) (fun q _ b hb => absurd hb List.not_mem_nil)) hP hK)
        clear hP hK
        go_wp2_with (at_builtin; refine wpList_appendD (acc := acc) (B := B.1) rfl _ _ rfl rfl rfl (by rw [HI.out]; exact NowQ.addI (NowQ.to HN3.out [] Keeps.au (fun b hb => absurd hb List.not_mem_nil) (fun q _ b hb => absurd hb List.not_mem_nil))) OwnB.au ⟨by (try simp only [World.size_alloc]); omega, by (try simp only [World.size_alloc]); omega, (by (try simp only [World.size_alloc, World.size_setCell, World.size_drew, World.heap_drewN]); omega)⟩ (by omega) (fun q hq => absurd hq List.not_mem_nil) [] (fun x hx => absurd hx List.not_mem_nil) ?_; intro g cap' w4 hN4 hk4 hz4; have HN4 := Lib.hid hN4; clear hN4 hk4)
        refine (CA _ (NowQ.pin (NowQ.to HN4.out [] Keeps.au (fun b hb => absurd hb List.not_mem_nil) (fun q _ b hb => absurd hb List.not_mem_nil)))).out.mono ?_
        rintro e w5 ⟨rfl, hP, hK⟩
        have hz_w5 := hK.size
        try simp only [World.size_alloc, World.size_setCell, World.size_drew, World.heap_drewN] at hz_w5
        have HN5 := Lib.hid (NowQ.call (NowQ.to HN4.out [] Keeps.au (fun b hb => absurd hb List.not_mem_nil) (fun q _ b hb => absurd hb List.not_mem_nil)) hP hK)
        clear hP hK
        go_wp2_with fail
        go_roundg k
        case measure => omega
        case rel =>
          refine ⟨P.is c.l [44] B.2, acc ++ [B.1], _, _, _, P.acc c.l [44] B.2, _, rfl, rfl, HN5.out, ?_, by rw [List.length_append]; simp; omega, ?_⟩
          · intro hi
            have := HR.out
            rw [hi, if_pos rfl] at this
            rw [show P.acc c.l [44] B.2 = P.next c.l B.2 by simp [P.acc, hi]]
            exact this
          · intro hi
            have := HR.out
            rw [hi, if_neg (by simp)] at this
            rw [show P.acc c.l [44] B.2 = B.2 by simp [P.acc, hi]]
            exact (Option.some.inj this).symm
end Go.Proofs.YtjmemapkipkocaaDoor

/-
  Parameters, in their brackets.
-/
namespace Go.Proofs.YtjmemapkipkocaaDoor
open Go.RowKit Go.Maps
set_option linter.unusedVariables false
set_option linter.unusedSimpArgs false
set_option maxRecDepth 100000
set_option maxHeartbeats 1000000

theorem params_step (c : Cx) (hc : c.Ok) (f : Nat) (hf : f ≤ 1000000000) (s : St) (R : List Dec × St) (w : World) (hR : P.params c.l f s = some R) (h : PIn w c s) :
    Calls Tryd.prog 53 #[pv c] w (DoesD c R w) := by
  have HN := Lib.hid (NowQ.start h)
  have hg := HN.out.now.g
  have hgt := HN.out.now.gt
  have CN := fun W H => Lib.hid (need_any c hc s W H [40])
  obtain ⟨s1, hs1⟩ : ∃ s1, s1 = P.need c.l [40] s := ⟨_, rfl⟩
  unfold P.params at hR
  rw [← hs1] at CN hR
  have CI := fun W H => Lib.hid (is_any c hc s1 W H [118, 111, 105, 100])
  have C2 := fun W H => Lib.hid (second_any c hc s1 W H)
  have CX := fun W H => Lib.hid (next_any c hc s1 W H)
  obtain ⟨U, hU⟩ : ∃ U, U = P.snd c.l s1 := ⟨_, rfl⟩
  rw [← hU] at C2 hR
  have tk0 := tok_field0
  have tk1 := tok_field1
  have tk2 := tok_field2
  have tk3 := tok_field3
  cases kv : P.is c.l [118, 111, 105, 100] s1 with
  | true =>
    rw [kv] at CI
    cases ku : U.text == [41] with
    | true =>
      rw [kv, ku, Bool.true_and, if_pos rfl] at hR
      have CA := fun W H => Lib.hid (accept_any c hc (P.next c.l s1) W H [41])
      unfold P.params2 at hR
      cases kp : P.is c.l [41] (P.next c.l s1) with
      | true =>
        rw [kp, if_pos rfl] at hR
        rw [kp, show P.acc c.l [41] (P.next c.l s1) = P.next c.l (P.next c.l s1) by simp [P.acc, kp]] at CA
        obtain rfl := Option.some.inj hR
        clear h hR hs1 hU kp kv
        unfold pv
        go_enter Tryd.func53, Tryd.ntmps53
        go_wp2_with fail
        refine (CN _ (NowQ.pin (NowQ.to HN.out [] Keeps.au (fun b hb => absurd hb List.not_mem_nil) (fun q _ b hb => absurd hb List.not_mem_nil)))).out.mono ?_
        rintro e w1 ⟨rfl, hP, hK⟩
        have hz_w1 := hK.size
        try simp only [World.size_alloc, World.size_setCell, World.size_drew, World.heap_drewN] at hz_w1
        have HN1 := Lib.hid (NowQ.call (NowQ.to HN.out [] Keeps.au (fun b hb => absurd hb List.not_mem_nil) (fun q _ b hb => absurd hb List.not_mem_nil)) hP hK)
        clear hP hK
        go_wp2_with fail
        refine (CI _ (NowQ.pin (NowQ.to HN1.out [] Keeps.au (fun b hb => absurd hb List.not_mem_nil) (fun q _ b hb => absurd hb List.not_mem_nil)))).out.mono ?_
        rintro e w2 ⟨rfl, hP, hK⟩
        have hz_w2 := hK.size
        try simp only [World.size_alloc, World.size_setCell, World.size_drew, World.heap_drewN] at hz_w2
        have HN2 := Lib.hid (NowQ.call (NowQ.to HN1.out [] Keeps.au (fun b hb => absurd hb List.not_mem_nil) (fun q _ b hb => absurd hb List.not_mem_nil)) hP hK)
        clear hP hK
        go_wp2_with fail
        refine (C2 _ (NowQ.pin (NowQ.to HN2.out [] Keeps.au (fun b hb => absurd hb List.not_mem_nil) (fun q _ b hb => absurd hb List.not_mem_nil)))).out.mono ?_
        rintro e w3 ⟨rfl, hP, hK⟩
        have hz_w3 := hK.size
        try simp only [World.size_alloc, World.size_setCell, World.size_drew, World.heap_drewN] at hz_w3
        have HN3 := Lib.hid (NowQ.call (NowQ.to HN2.out [] Keeps.au (fun b hb => absurd hb List.not_mem_nil) (fun q _ b hb => absurd hb List.not_mem_nil)) hP hK)
        clear hP hK
        go_wp2_with fail
        refine (CX _ (NowQ.pin (NowQ.to HN3.out [] Keeps.au (fun b hb => absurd hb List.not_mem_nil) (fun q _ b hb => absurd hb List.not_mem_nil)))).out.mono ?_
        rintro e x3 ⟨rfl, hP, hK⟩
        have hz_x3 := hK.size
        try simp only [World.size_alloc, World.size_setCell, World.size_drew, World.heap_drewN] at hz_x3
        have HN3x := Lib.hid (NowQ.call (NowQ.to HN3.out [] Keeps.au (fun b hb => absurd hb List.not_mem_nil) (fun q _ b hb => absurd hb List.not_mem_nil)) hP hK)
        clear hP hK
        go_wp2_with fail
        refine (CA _ (NowQ.pin (NowQ.to HN3x.out [] Keeps.au (fun b hb => absurd hb List.not_mem_nil) (fun q _ b hb => absurd hb List.not_mem_nil)))).out.mono ?_
        rintro e w4 ⟨rfl, hP, hK⟩
        have hz_w4 := hK.size
        try simp only [World.size_alloc, World.size_setCell, World.size_drew, World.heap_drewN] at hz_w4
        have HN4 := Lib.hid (NowQ.call (NowQ.to HN3x.out [] Keeps.au (fun b hb => absurd hb List.not_mem_nil) (fun q _ b hb => absurd hb List.not_mem_nil)) hP hK)
        clear hP hK
        go_wp2_with fail
        go_ret
        exact ⟨none, 0, 0, rfl, HN4.out.now.pin, HN4.out.now.kp, ⟨Nat.le_refl _, [], RowD.nil, by simp, by simp⟩⟩
      | false =>
        rw [kp, if_neg (by simp)] at hR
        rw [kp, show P.acc c.l [41] (P.next c.l s1) = P.next c.l s1 by simp [P.acc, kp]] at CA
        obtain ⟨A, hA, hR⟩ := Option.bind_eq_some_iff.1 hR
        obtain rfl := Option.some.inj hR
        have CV := fun W H => Lib.hid (severalD_step c hc f hf (P.next c.l s1) A W hA H)
        have CM := fun W H => Lib.hid (need_any c hc A.2 W H [41])
        clear h hR hs1 hU kp kv hA
        unfold pv at CV ⊢
        go_enter Tryd.func53, Tryd.ntmps53
        go_wp2_with fail
        refine (CN _ (NowQ.pin (NowQ.to HN.out [] Keeps.au (fun b hb => absurd hb List.not_mem_nil) (fun q _ b hb => absurd hb List.not_mem_nil)))).out.mono ?_
        rintro e w1 ⟨rfl, hP, hK⟩
        have hz_w1 := hK.size
        try simp only [World.size_alloc, World.size_setCell, World.size_drew, World.heap_drewN] at hz_w1
        have HN1 := Lib.hid (NowQ.call (NowQ.to HN.out [] Keeps.au (fun b hb => absurd hb List.not_mem_nil) (fun q _ b hb => absurd hb List.not_mem_nil)) hP hK)
        clear hP hK
        go_wp2_with fail
        refine (CI _ (NowQ.pin (NowQ.to HN1.out [] Keeps.au (fun b hb => absurd hb List.not_mem_nil) (fun q _ b hb => absurd hb List.not_mem_nil)))).out.mono ?_
        rintro e w2 ⟨rfl, hP, hK⟩
        have hz_w2 := hK.size
        try simp only [World.size_alloc, World.size_setCell, World.size_drew, World.heap_drewN] at hz_w2
        have HN2 := Lib.hid (NowQ.call (NowQ.to HN1.out [] Keeps.au (fun b hb => absurd hb List.not_mem_nil) (fun q _ b hb => absurd hb List.not_mem_nil)) hP hK)
        clear hP hK
        go_wp2_with fail
        refine (C2 _ (NowQ.pin (NowQ.to HN2.out [] Keeps.au (fun b hb => absurd hb List.not_mem_nil) (fun q _ b hb => absurd hb List.not_mem_nil)))).out.mono ?_
        rintro e w3 ⟨rfl, hP, hK⟩
        have hz_w3 := hK.size
        try simp only [World.size_alloc, World.size_setCell, World.size_drew, World.heap_drewN] at hz_w3
        have HN3 := Lib.hid (NowQ.call (NowQ.to HN2.out [] Keeps.au (fun b hb => absurd hb List.not_mem_nil) (fun q _ b hb => absurd hb List.not_mem_nil)) hP hK)
        clear hP hK
        go_wp2_with fail
        refine (CX _ (NowQ.pin (NowQ.to HN3.out [] Keeps.au (fun b hb => absurd hb List.not_mem_nil) (fun q _ b hb => absurd hb List.not_mem_nil)))).out.mono ?_
        rintro e x3 ⟨rfl, hP, hK⟩
        have hz_x3 := hK.size
        try simp only [World.size_alloc, World.size_setCell, World.size_drew, World.heap_drewN] at hz_x3
        have HN3x := Lib.hid (NowQ.call (NowQ.to HN3.out [] Keeps.au (fun b hb => absurd hb List.not_mem_nil) (fun q _ b hb => absurd hb List.not_mem_nil)) hP hK)
        clear hP hK
        go_wp2_with fail
        refine (CA _ (NowQ.pin (NowQ.to HN3x.out [] Keeps.au (fun b hb => absurd hb List.not_mem_nil) (fun q _ b hb => absurd hb List.not_mem_nil)))).out.mono ?_
        rintro e w4 ⟨rfl, hP, hK⟩
        have hz_w4 := hK.size
        try simp only [World.size_alloc, World.size_setCell, World.size_drew, World.heap_drewN] at hz_w4
        have HN4 := Lib.hid (NowQ.call (NowQ.to HN3x.out [] Keeps.au (fun b hb => absurd hb List.not_mem_nil) (fun q _ b hb => absurd hb List.not_mem_nil)) hP hK)
        clear hP hK
        go_wp2_with fail
        refine (CV _ (NowQ.pin (NowQ.to HN4.out [] Keeps.au (fun b hb => absurd hb List.not_mem_nil) (fun q _ b hb => absurd hb List.not_mem_nil)))).out.mono ?_
        rintro e w5 ⟨a1, n1, p1, rfl, hP, hK, hT⟩
        have HN5 := Lib.hid (NowQ.callT (NowQ.to HN4.out [] Keeps.au (fun b hb => absurd hb List.not_mem_nil) (fun q _ b hb => absurd hb List.not_mem_nil)) (dq w4.heap.size w5.heap.size [] A.1 (.slice a1 n1 p1)) hP hK hT (Nat.le_refl _) (Nat.le_refl _))
        clear hP hK hT
        go_wp2_with fail
        refine (CM _ (NowQ.pin (NowQ.to HN5.out [] Keeps.au (fun b hb => absurd hb List.not_mem_nil) (fun q _ b hb => absurd hb List.not_mem_nil)))).out.mono ?_
        rintro e w6 ⟨rfl, hP, hK⟩
        have hz_w6 := hK.size
        try simp only [World.size_alloc, World.size_setCell, World.size_drew, World.heap_drewN] at hz_w6
        have HN6 := Lib.hid (NowQ.call (NowQ.to HN5.out [] Keeps.au (fun b hb => absurd hb List.not_mem_nil) (fun q _ b hb => absurd hb List.not_mem_nil)) hP hK)
        clear hP hK
        go_wp2_with fail
        go_ret
        exact ⟨a1, n1, p1, rfl, HN6.out.now.pin, HN6.out.now.kp, RIn.wide HN6.out.q0.2.2 HN6.out.q0.1 HN6.out.q0.2.1 (Nat.le_refl _)⟩
    | false =>
      rw [kv, ku, Bool.true_and, if_neg (by simp)] at hR
      have CA := fun W H => Lib.hid (accept_any c hc (s1) W H [41])
      unfold P.params2 at hR
      cases kp : P.is c.l [41] (s1) with
      | true =>
        rw [kp, if_pos rfl] at hR
        rw [kp, show P.acc c.l [41] (s1) = P.next c.l (s1) by simp [P.acc, kp]] at CA
        obtain rfl := Option.some.inj hR
        clear h hR hs1 hU kp kv
        unfold pv
        go_enter Tryd.func53, Tryd.ntmps53
        go_wp2_with fail
        refine (CN _ (NowQ.pin (NowQ.to HN.out [] Keeps.au (fun b hb => absurd hb List.not_mem_nil) (fun q _ b hb => absurd hb List.not_mem_nil)))).out.mono ?_
        rintro e w1 ⟨rfl, hP, hK⟩
        have hz_w1 := hK.size
        try simp only [World.size_alloc, World.size_setCell, World.size_drew, World.heap_drewN] at hz_w1
        have HN1 := Lib.hid (NowQ.call (NowQ.to HN.out [] Keeps.au (fun b hb => absurd hb List.not_mem_nil) (fun q _ b hb => absurd hb List.not_mem_nil)) hP hK)
        clear hP hK
        go_wp2_with fail
        refine (CI _ (NowQ.pin (NowQ.to HN1.out [] Keeps.au (fun b hb => absurd hb List.not_mem_nil) (fun q _ b hb => absurd hb List.not_mem_nil)))).out.mono ?_
        rintro e w2 ⟨rfl, hP, hK⟩
        have hz_w2 := hK.size
        try simp only [World.size_alloc, World.size_setCell, World.size_drew, World.heap_drewN] at hz_w2
        have HN2 := Lib.hid (NowQ.call (NowQ.to HN1.out [] Keeps.au (fun b hb => absurd hb List.not_mem_nil) (fun q _ b hb => absurd hb List.not_mem_nil)) hP hK)
        clear hP hK
        go_wp2_with fail
        refine (C2 _ (NowQ.pin (NowQ.to HN2.out [] Keeps.au (fun b hb => absurd hb List.not_mem_nil) (fun q _ b hb => absurd hb List.not_mem_nil)))).out.mono ?_
        rintro e w3 ⟨rfl, hP, hK⟩
        have hz_w3 := hK.size
        try simp only [World.size_alloc, World.size_setCell, World.size_drew, World.heap_drewN] at hz_w3
        have HN3 := Lib.hid (NowQ.call (NowQ.to HN2.out [] Keeps.au (fun b hb => absurd hb List.not_mem_nil) (fun q _ b hb => absurd hb List.not_mem_nil)) hP hK)
        clear hP hK
        go_wp2_with fail
        refine (CA _ (NowQ.pin (NowQ.to HN3.out [] Keeps.au (fun b hb => absurd hb List.not_mem_nil) (fun q _ b hb => absurd hb List.not_mem_nil)))).out.mono ?_
        rintro e w4 ⟨rfl, hP, hK⟩
        have hz_w4 := hK.size
        try simp only [World.size_alloc, World.size_setCell, World.size_drew, World.heap_drewN] at hz_w4
        have HN4 := Lib.hid (NowQ.call (NowQ.to HN3.out [] Keeps.au (fun b hb => absurd hb List.not_mem_nil) (fun q _ b hb => absurd hb List.not_mem_nil)) hP hK)
        clear hP hK
        go_wp2_with fail
        go_ret
        exact ⟨none, 0, 0, rfl, HN4.out.now.pin, HN4.out.now.kp, ⟨Nat.le_refl _, [], RowD.nil, by simp, by simp⟩⟩
      | false =>
        rw [kp, if_neg (by simp)] at hR
        rw [kp, show P.acc c.l [41] (s1) = s1 by simp [P.acc, kp]] at CA
        obtain ⟨A, hA, hR⟩ := Option.bind_eq_some_iff.1 hR
        obtain rfl := Option.some.inj hR
        have CV := fun W H => Lib.hid (severalD_step c hc f hf (s1) A W hA H)
        have CM := fun W H => Lib.hid (need_any c hc A.2 W H [41])
        clear h hR hs1 hU kp kv hA
        unfold pv at CV ⊢
        go_enter Tryd.func53, Tryd.ntmps53
        go_wp2_with fail
        refine (CN _ (NowQ.pin (NowQ.to HN.out [] Keeps.au (fun b hb => absurd hb List.not_mem_nil) (fun q _ b hb => absurd hb List.not_mem_nil)))).out.mono ?_
        rintro e w1 ⟨rfl, hP, hK⟩
        have hz_w1 := hK.size
        try simp only [World.size_alloc, World.size_setCell, World.size_drew, World.heap_drewN] at hz_w1
        have HN1 := Lib.hid (NowQ.call (NowQ.to HN.out [] Keeps.au (fun b hb => absurd hb List.not_mem_nil) (fun q _ b hb => absurd hb List.not_mem_nil)) hP hK)
        clear hP hK
        go_wp2_with fail
        refine (CI _ (NowQ.pin (NowQ.to HN1.out [] Keeps.au (fun b hb => absurd hb List.not_mem_nil) (fun q _ b hb => absurd hb List.not_mem_nil)))).out.mono ?_
        rintro e w2 ⟨rfl, hP, hK⟩
        have hz_w2 := hK.size
        try simp only [World.size_alloc, World.size_setCell, World.size_drew, World.heap_drewN] at hz_w2
        have HN2 := Lib.hid (NowQ.call (NowQ.to HN1.out [] Keeps.au (fun b hb => absurd hb List.not_mem_nil) (fun q _ b hb => absurd hb List.not_mem_nil)) hP hK)
        clear hP hK
        go_wp2_with fail
        refine (C2 _ (NowQ.pin (NowQ.to HN2.out [] Keeps.au (fun b hb => absurd hb List.not_mem_nil) (fun q _ b hb => absurd hb List.not_mem_nil)))).out.mono ?_
        rintro e w3 ⟨rfl, hP, hK⟩
        have hz_w3 := hK.size
        try simp only [World.size_alloc, World.size_setCell, World.size_drew, World.heap_drewN] at hz_w3
        have HN3 := Lib.hid (NowQ.call (NowQ.to HN2.out [] Keeps.au (fun b hb => absurd hb List.not_mem_nil) (fun q _ b hb => absurd hb List.not_mem_nil)) hP hK)
        clear hP hK
        go_wp2_with fail
        refine (CA _ (NowQ.pin (NowQ.to HN3.out [] Keeps.au (fun b hb => absurd hb List.not_mem_nil) (fun q _ b hb => absurd hb List.not_mem_nil)))).out.mono ?_
        rintro e w4 ⟨rfl, hP, hK⟩
        have hz_w4 := hK.size
        try simp only [World.size_alloc, World.size_setCell, World.size_drew, World.heap_drewN] at hz_w4
        have HN4 := Lib.hid (NowQ.call (NowQ.to HN3.out [] Keeps.au (fun b hb => absurd hb List.not_mem_nil) (fun q _ b hb => absurd hb List.not_mem_nil)) hP hK)
        clear hP hK
        go_wp2_with fail
        refine (CV _ (NowQ.pin (NowQ.to HN4.out [] Keeps.au (fun b hb => absurd hb List.not_mem_nil) (fun q _ b hb => absurd hb List.not_mem_nil)))).out.mono ?_
        rintro e w5 ⟨a1, n1, p1, rfl, hP, hK, hT⟩
        have HN5 := Lib.hid (NowQ.callT (NowQ.to HN4.out [] Keeps.au (fun b hb => absurd hb List.not_mem_nil) (fun q _ b hb => absurd hb List.not_mem_nil)) (dq w4.heap.size w5.heap.size [] A.1 (.slice a1 n1 p1)) hP hK hT (Nat.le_refl _) (Nat.le_refl _))
        clear hP hK hT
        go_wp2_with fail
        refine (CM _ (NowQ.pin (NowQ.to HN5.out [] Keeps.au (fun b hb => absurd hb List.not_mem_nil) (fun q _ b hb => absurd hb List.not_mem_nil)))).out.mono ?_
        rintro e w6 ⟨rfl, hP, hK⟩
        have hz_w6 := hK.size
        try simp only [World.size_alloc, World.size_setCell, World.size_drew, World.heap_drewN] at hz_w6
        have HN6 := Lib.hid (NowQ.call (NowQ.to HN5.out [] Keeps.au (fun b hb => absurd hb List.not_mem_nil) (fun q _ b hb => absurd hb List.not_mem_nil)) hP hK)
        clear hP hK
        go_wp2_with fail
        go_ret
        exact ⟨a1, n1, p1, rfl, HN6.out.now.pin, HN6.out.now.kp, RIn.wide HN6.out.q0.2.2 HN6.out.q0.1 HN6.out.q0.2.1 (Nat.le_refl _)⟩
  | false =>
    rw [kv] at CI
    rw [kv, Bool.false_and, if_neg (by simp)] at hR
    have CA := fun W H => Lib.hid (accept_any c hc (s1) W H [41])
    unfold P.params2 at hR
    cases kp : P.is c.l [41] (s1) with
    | true =>
      rw [kp, if_pos rfl] at hR
      rw [kp, show P.acc c.l [41] (s1) = P.next c.l (s1) by simp [P.acc, kp]] at CA
      obtain rfl := Option.some.inj hR
      clear h hR hs1 hU kp kv
      unfold pv
      go_enter Tryd.func53, Tryd.ntmps53
      go_wp2_with fail
      refine (CN _ (NowQ.pin (NowQ.to HN.out [] Keeps.au (fun b hb => absurd hb List.not_mem_nil) (fun q _ b hb => absurd hb List.not_mem_nil)))).out.mono ?_
      rintro e w1 ⟨rfl, hP, hK⟩
      have hz_w1 := hK.size
      try simp only [World.size_alloc, World.size_setCell, World.size_drew, World.heap_drewN] at hz_w1
      have HN1 := Lib.hid (NowQ.call (NowQ.to HN.out [] Keeps.au (fun b hb => absurd hb List.not_mem_nil) (fun q _ b hb => absurd hb List.not_mem_nil)) hP hK)
      clear hP hK
      go_wp2_with fail
      refine (CI _ (NowQ.pin (NowQ.to HN1.out [] Keeps.au (fun b hb => absurd hb List.not_mem_nil) (fun q _ b hb => absurd hb List.not_mem_nil)))).out.mono ?_
      rintro e w2 ⟨rfl, hP, hK⟩
      have hz_w2 := hK.size
      try simp only [World.size_alloc, World.size_setCell, World.size_drew, World.heap_drewN] at hz_w2
      have HN2 := Lib.hid (NowQ.call (NowQ.to HN1.out [] Keeps.au (fun b hb => absurd hb List.not_mem_nil) (fun q _ b hb => absurd hb List.not_mem_nil)) hP hK)
      clear hP hK
      go_wp2_with fail
      refine (CA _ (NowQ.pin (NowQ.to HN2.out [] Keeps.au (fun b hb => absurd hb List.not_mem_nil) (fun q _ b hb => absurd hb List.not_mem_nil)))).out.mono ?_
      rintro e w4 ⟨rfl, hP, hK⟩
      have hz_w4 := hK.size
      try simp only [World.size_alloc, World.size_setCell, World.size_drew, World.heap_drewN] at hz_w4
      have HN4 := Lib.hid (NowQ.call (NowQ.to HN2.out [] Keeps.au (fun b hb => absurd hb List.not_mem_nil) (fun q _ b hb => absurd hb List.not_mem_nil)) hP hK)
      clear hP hK
      go_wp2_with fail
      go_ret
      exact ⟨none, 0, 0, rfl, HN4.out.now.pin, HN4.out.now.kp, ⟨Nat.le_refl _, [], RowD.nil, by simp, by simp⟩⟩
    | false =>
      rw [kp, if_neg (by simp)] at hR
      rw [kp, show P.acc c.l [41] (s1) = s1 by simp [P.acc, kp]] at CA
      obtain ⟨A, hA, hR⟩ := Option.bind_eq_some_iff.1 hR
      obtain rfl := Option.some.inj hR
      have CV := fun W H => Lib.hid (severalD_step c hc f hf (s1) A W hA H)
      have CM := fun W H => Lib.hid (need_any c hc A.2 W H [41])
      clear h hR hs1 hU kp kv hA
      unfold pv at CV ⊢
      go_enter Tryd.func53, Tryd.ntmps53
      go_wp2_with fail
      refine (CN _ (NowQ.pin (NowQ.to HN.out [] Keeps.au (fun b hb => absurd hb List.not_mem_nil) (fun q _ b hb => absurd hb List.not_mem_nil)))).out.mono ?_
      rintro e w1 ⟨rfl, hP, hK⟩
      have hz_w1 := hK.size
      try simp only [World.size_alloc, World.size_setCell, World.size_drew, World.heap_drewN] at hz_w1
      have HN1 := Lib.hid (NowQ.call (NowQ.to HN.out [] Keeps.au (fun b hb => absurd hb List.not_mem_nil) (fun q _ b hb => absurd hb List.not_mem_nil)) hP hK)
      clear hP hK
      go_wp2_with fail
      refine (CI _ (NowQ.pin (NowQ.to HN1.out [] Keeps.au (fun b hb => absurd hb List.not_mem_nil) (fun q _ b hb => absurd hb List.not_mem_nil)))).out.mono ?_
      rintro e w2 ⟨rfl, hP, hK⟩
      have hz_w2 := hK.size
      try simp only [World.size_alloc, World.size_setCell, World.size_drew, World.heap_drewN] at hz_w2
      have HN2 := Lib.hid (NowQ.call (NowQ.to HN1.out [] Keeps.au (fun b hb => absurd hb List.not_mem_nil) (fun q _ b hb => absurd hb List.not_mem_nil)) hP hK)
      clear hP hK
      go_wp2_with fail
      refine (CA _ (NowQ.pin (NowQ.to HN2.out [] Keeps.au (fun b hb => absurd hb List.not_mem_nil) (fun q _ b hb => absurd hb List.not_mem_nil)))).out.mono ?_
      rintro e w4 ⟨rfl, hP, hK⟩
      have hz_w4 := hK.size
      try simp only [World.size_alloc, World.size_setCell, World.size_drew, World.heap_drewN] at hz_w4
      have HN4 := Lib.hid (NowQ.call (NowQ.to HN2.out [] Keeps.au (fun b hb => absurd hb List.not_mem_nil) (fun q _ b hb => absurd hb List.not_mem_nil)) hP hK)
      clear hP hK
      go_wp2_with fail
      refine (CV _ (NowQ.pin (NowQ.to HN4.out [] Keeps.au (fun b hb => absurd hb List.not_mem_nil) (fun q _ b hb => absurd hb List.not_mem_nil)))).out.mono ?_
      rintro e w5 ⟨a1, n1, p1, rfl, hP, hK, hT⟩
      have HN5 := Lib.hid (NowQ.callT (NowQ.to HN4.out [] Keeps.au (fun b hb => absurd hb List.not_mem_nil) (fun q _ b hb => absurd hb List.not_mem_nil)) (dq w4.heap.size w5.heap.size [] A.1 (.slice a1 n1 p1)) hP hK hT (Nat.le_refl _) (Nat.le_refl _))
      clear hP hK hT
      go_wp2_with fail
      refine (CM _ (NowQ.pin (NowQ.to HN5.out [] Keeps.au (fun b hb => absurd hb List.not_mem_nil) (fun q _ b hb => absurd hb List.not_mem_nil)))).out.mono ?_
      rintro e w6 ⟨rfl, hP, hK⟩
      have hz_w6 := hK.size
      try simp only [World.size_alloc, World.size_setCell, World.size_drew, World.heap_drewN] at hz_w6
      have HN6 := Lib.hid (NowQ.call (NowQ.to HN5.out [] Keeps.au (fun b hb => absurd hb List.not_mem_nil) (fun q _ b hb => absurd hb List.not_mem_nil)) hP hK)
      clear hP hK
      go_wp2_with fail
      go_ret
      exact ⟨a1, n1, p1, rfl, HN6.out.now.pin, HN6.out.now.kp, RIn.wide HN6.out.q0.2.2 HN6.out.q0.1 HN6.out.q0.2.1 (Nat.le_refl _)⟩
end Go.Proofs.YtjmemapkipkocaaDoor

/-
  Expressions: 'expr', 'cond'.
-/
namespace Go.Proofs.YtjmemapkipkocaaDoor
open Go.RowKit Go.Maps
set_option linter.unusedVariables false
set_option linter.unusedSimpArgs false
set_option maxRecDepth 100000
set_option maxHeartbeats 600000

theorem expr_step (c : Cx) (hc : c.Ok) (f : Nat) (G : GoodE c f) (d : Int) (s : St) (R : Ex × St) (w : World) (h0 : 0 ≤ d) (hd : d + (f + 1) ≤ 1000000000)
    (hR : P.expr c.l (P.recs c.l f) d s = some R) (h : PIn w c s) : Calls Tryd.prog 81 #[pv c, .int .i64 d] w (DoesE c R w) := by
  have HN := Lib.hid (NowQ.start h)
  have hg := HN.out.now.g
  have hgt := HN.out.now.gt
  unfold P.expr at hR
  obtain ⟨A, hA, hR⟩ := Option.bind_eq_some_iff.1 hR
  have CC := fun W H => Lib.hid (G.cond d s A W h0 (by omega) hA H)
  have CS := fun W H => Lib.hid (sign_any c hc A.2 W H 0)
  obtain ⟨T, hT⟩ : ∃ T, T = P.tok c.l A.2 := ⟨_, rfl⟩
  obtain ⟨M, hM⟩ : ∃ M, M = P.signM c.l 0 A.2 := ⟨_, rfl⟩
  rw [← hM] at hR
  rw [← hT] at hR
  rw [← hM, ← hT] at CS
  by_cases hm : M.1 = 0
  · rw [if_pos hm] at hR
    obtain rfl := Option.some.inj hR
    have e : P.sign c.l 0 A.2 = A.2 := by rw [P.sign, ← hM, if_pos hm]
    rw [e] at CS
    have hm1 : (M.1 == 0) = true := by simp [hm]
    clear h hA hR hm hT hM e
    unfold pv
    go_enter Tryd.func81, Tryd.ntmps81
    go_wp2_with fail
    refine (CC _ (NowQ.pin (NowQ.to HN.out [w.heap.size] Keeps.au (by simp <;> omega) (by simp [kq] <;> omega)))).out.mono ?_
    rintro e w1 ⟨a1, n1, p1, rfl, hP, hK, hT⟩
    have hz_w1 := hK.size
    try simp only [World.size_alloc, World.size_setCell, World.size_drew, World.heap_drewN] at hz_w1
    have O_w1_0 : OwnB w1 (w.heap.size) #[.int .i64 0, .int .i64 0, .int .i64 0, .int .i64 0, .string ⟨#[]⟩, .int .i64 0, .slice none 0 0, .int .i64 0] 105 := OwnB.call OwnB.au hK (by simp only [List.mem_singleton]; omega)
    obtain ⟨y_w1_0, x_w1_0, b_w1_0⟩ := O_w1_0.facts
    have HN1 := Lib.hid (NowQ.callE (NowQ.to HN.out [w.heap.size] Keeps.au (by simp <;> omega) (by simp [kq] <;> omega)) hP hK hT)
    clear hP hK hT
    go_wp2_with fail
    refine (CS _ (NowQ.pin (NowQ.to HN1.out [w.heap.size, w1.heap.size] Keeps.au (by simp <;> omega) (by simp [kq] <;> omega)))).out.mono ?_
    rintro e w2 ⟨rfl, hP, hK⟩
    have hz_w2 := hK.size
    try simp only [World.size_alloc, World.size_setCell, World.size_drew, World.heap_drewN] at hz_w2
    have O_w2_0 : OwnB w2 (w.heap.size) #[.int .i64 0, .int .i64 0, .int .i64 0, .int .i64 0, .string ⟨#[]⟩, .int .i64 0, .slice none 0 0, .int .i64 0] 105 := OwnB.call OwnB.au hK (by simp only [List.mem_singleton]; omega)
    obtain ⟨y_w2_0, x_w2_0, b_w2_0⟩ := O_w2_0.facts
    have O_w2_1 : OwnB w2 (w1.heap.size) #[.int .i64 (A.1).op, .int .i64 (A.1).ty.kind, .int .i64 (A.1).ty.ptr, .int .i64 (A.1).ty.len, .string ⟨(A.1).nm.toArray⟩, .int .i64 (A.1).n, .slice a1 n1 p1, .int .i64 (A.1).pos] 105 := OwnB.call OwnB.au hK (by simp only [List.mem_singleton]; omega)
    obtain ⟨y_w2_1, x_w2_1, b_w2_1⟩ := O_w2_1.facts
    have HN2 := Lib.hid (NowQ.call (NowQ.to HN1.out [w.heap.size, w1.heap.size] Keeps.au (by simp <;> omega) (by simp [kq] <;> omega)) hP hK)
    clear hP hK
    go_wp2_with fail
    refine bodyPost_ret (v := (.agg #[.int .i64 (A.1).op, .int .i64 (A.1).ty.kind, .int .i64 (A.1).ty.ptr, .int .i64 (A.1).ty.len, .string ⟨(A.1).nm.toArray⟩, .int .i64 (A.1).n, .slice a1 n1 p1, .int .i64 (A.1).pos])) (by simp [results, Tryd.results81, go_sem, *]) rfl ?_
    exact NowQ.fin0 (NowQ.to HN2.out [w.heap.size, w1.heap.size] Keeps.au (by simp <;> omega) (by simp [kq] <;> omega))
  · rw [if_neg hm] at hR
    obtain ⟨B, hB, hR⟩ := Option.bind_eq_some_iff.1 hR
    obtain rfl := Option.some.inj hR
    have e : P.sign c.l 0 A.2 = P.next c.l A.2 := by rw [P.sign, ← hM, if_neg hm]
    rw [e] at CS
    have CE := fun W H => Lib.hid (G.expr (d + 1) (P.next c.l A.2) B W (by omega) (by omega) hB H)
    have hw : wrap64 (d + 1) = d + 1 := wrapJ (by omega) (by omega)
    have hw' : IntKind.i64.wrap (d + 1) = d + 1 := wrapI (by omega) (by omega)
    have hm1 : (M.1 == 0) = false := by simp [hm]
    clear h hA hB hR hm hT hM e
    unfold pv
    go_enter Tryd.func81, Tryd.ntmps81
    go_wp2_with fail
    refine (CC _ (NowQ.pin (NowQ.to HN.out [w.heap.size] Keeps.au (by simp <;> omega) (by simp [kq] <;> omega)))).out.mono ?_
    rintro e w1 ⟨a1, n1, p1, rfl, hP, hK, hT⟩
    have hz_w1 := hK.size
    try simp only [World.size_alloc, World.size_setCell, World.size_drew, World.heap_drewN] at hz_w1
    have O_w1_0 : OwnB w1 (w.heap.size) #[.int .i64 0, .int .i64 0, .int .i64 0, .int .i64 0, .string ⟨#[]⟩, .int .i64 0, .slice none 0 0, .int .i64 0] 105 := OwnB.call OwnB.au hK (by simp only [List.mem_singleton]; omega)
    obtain ⟨y_w1_0, x_w1_0, b_w1_0⟩ := O_w1_0.facts
    have HN1 := Lib.hid (NowQ.callE (NowQ.to HN.out [w.heap.size] Keeps.au (by simp <;> omega) (by simp [kq] <;> omega)) hP hK hT)
    clear hP hK hT
    go_wp2_with fail
    refine (CS _ (NowQ.pin (NowQ.to HN1.out [w.heap.size, w1.heap.size] Keeps.au (by simp <;> omega) (by simp [kq] <;> omega)))).out.mono ?_
    rintro e w2 ⟨rfl, hP, hK⟩
    have hz_w2 := hK.size
    try simp only [World.size_alloc, World.size_setCell, World.size_drew, World.heap_drewN] at hz_w2
    have O_w2_0 : OwnB w2 (w.heap.size) #[.int .i64 0, .int .i64 0, .int .i64 0, .int .i64 0, .string ⟨#[]⟩, .int .i64 0, .slice none 0 0, .int .i64 0] 105 := OwnB.call OwnB.au hK (by simp only [List.mem_singleton]; omega)
    obtain ⟨y_w2_0, x_w2_0, b_w2_0⟩ := O_w2_0.facts
    have O_w2_1 : OwnB w2 (w1.heap.size) #[.int .i64 (A.1).op, .int .i64 (A.1).ty.kind, .int .i64 (A.1).ty.ptr, .int .i64 (A.1).ty.len, .string ⟨(A.1).nm.toArray⟩, .int .i64 (A.1).n, .slice a1 n1 p1, .int .i64 (A.1).pos] 105 := OwnB.call OwnB.au hK (by simp only [List.mem_singleton]; omega)
    obtain ⟨y_w2_1, x_w2_1, b_w2_1⟩ := O_w2_1.facts
    have HN2 := Lib.hid (NowQ.call (NowQ.to HN1.out [w.heap.size, w1.heap.size] Keeps.au (by simp <;> omega) (by simp [kq] <;> omega)) hP hK)
    clear hP hK
    go_wp2_with fail
    have ne_0_1 : ¬ (w.heap.size : Nat) = w1.heap.size := by omega
    have ne_0_2 : ¬ (w.heap.size : Nat) = w2.heap.size := by omega
    have ne_0_3 : ¬ (w.heap.size : Nat) = w2.heap.size+1 := by omega
    have ne_1_0 : ¬ (w1.heap.size : Nat) = w.heap.size := by omega
    have ne_1_2 : ¬ (w1.heap.size : Nat) = w2.heap.size := by omega
    have ne_1_3 : ¬ (w1.heap.size : Nat) = w2.heap.size+1 := by omega
    have ne_2_0 : ¬ (w2.heap.size : Nat) = w.heap.size := by omega
    have ne_2_1 : ¬ (w2.heap.size : Nat) = w1.heap.size := by omega
    have ne_2_3 : ¬ (w2.heap.size : Nat) = w2.heap.size+1 := by omega
    have ne_3_0 : ¬ (w2.heap.size+1 : Nat) = w.heap.size := by omega
    have ne_3_1 : ¬ (w2.heap.size+1 : Nat) = w1.heap.size := by omega
    have ne_3_2 : ¬ (w2.heap.size+1 : Nat) = w2.heap.size := by omega
    go_region_held3 (fun w' => w'.cell? ⟨w1.heap.size, 0, none⟩ = some (.int .i64 (A.1).op) ∧ w'.cell? ⟨w1.heap.size, 1, none⟩ = some (.int .i64 (A.1).ty.kind) ∧ w'.cell? ⟨w1.heap.size, 2, none⟩ = some (.int .i64 (A.1).ty.ptr) ∧ w'.cell? ⟨w1.heap.size, 3, none⟩ = some (.int .i64 (A.1).ty.len) ∧ w'.cell? ⟨w1.heap.size, 4, none⟩ = some (.string ⟨(A.1).nm.toArray⟩) ∧ w'.cell? ⟨w1.heap.size, 5, none⟩ = some (.int .i64 (A.1).n) ∧ w'.cell? ⟨w1.heap.size, 6, none⟩ = some (.slice a1 n1 p1) ∧ w'.cell? ⟨w1.heap.size, 7, none⟩ = some (.int .i64 (A.1).pos) ∧ w'.cell? ⟨w2.heap.size, 0, none⟩ = some (.int .i64 (T).kind) ∧ w'.cell? ⟨w2.heap.size, 1, none⟩ = some (.string ⟨(T).text.toArray⟩) ∧ w'.cell? ⟨w2.heap.size, 2, none⟩ = some (.int .i64 (T).n) ∧ w'.cell? ⟨w2.heap.size, 3, none⟩ = some (.int .i64 (T).pos) ∧ w'.cell? ⟨w2.heap.size+1, 0, none⟩ = some (.int .i64 (M).1) ∧ w'.cell? ⟨w2.heap.size+1, 1, none⟩ = some (.int .i64 (M).2)) (go_keep) ((first | ((go_at_call 81); (with_reducible refine (CE _ (NowQ.pin (NowQ.to HN2.out [w.heap.size, w1.heap.size, w2.heap.size, w2.heap.size+1] Keeps.au (by simp <;> omega) (by simp [kq] <;> omega)))).out.mono ?_); (rintro e w3 ⟨a2, n2, p2, rfl, hP, hK, hT⟩); (have hz_w3 := hK.size); (try simp only [World.size_alloc, World.size_setCell, World.size_drew, World.heap_drewN] at hz_w3); (have O_w3_0 : OwnB w3 (w.heap.size) #[.int .i64 0, .int .i64 0, .int .i64 0, .int .i64 0, .string ⟨#[]⟩, .int .i64 0, .slice none 0 0, .int .i64 0] 105 := OwnB.call OwnB.au hK (by simp only [List.mem_singleton]; omega)); (obtain ⟨y_w3_0, x_w3_0, b_w3_0⟩ := O_w3_0.facts); (have O_w3_1 : OwnB w3 (w1.heap.size) #[.int .i64 (A.1).op, .int .i64 (A.1).ty.kind, .int .i64 (A.1).ty.ptr, .int .i64 (A.1).ty.len, .string ⟨(A.1).nm.toArray⟩, .int .i64 (A.1).n, .slice a1 n1 p1, .int .i64 (A.1).pos] 105 := OwnB.call OwnB.au hK (by simp only [List.mem_singleton]; omega)); (obtain ⟨y_w3_1, x_w3_1, b_w3_1⟩ := O_w3_1.facts); (have O_w3_2 : OwnB w3 (w2.heap.size) #[.int .i64 (T).kind, .string ⟨(T).text.toArray⟩, .int .i64 (T).n, .int .i64 (T).pos] 60 := OwnB.call OwnB.au hK (by simp only [List.mem_singleton]; omega)); (obtain ⟨y_w3_2, x_w3_2, b_w3_2⟩ := O_w3_2.facts); (have O_w3_3 : OwnB w3 (w2.heap.size+1) #[.int .i64 (M).1, .int .i64 (M).2] 69 := OwnB.call OwnB.au hK (by simp only [List.mem_singleton]; omega)); (obtain ⟨y_w3_3, x_w3_3, b_w3_3⟩ := O_w3_3.facts); (have HN3 := Lib.hid (NowQ.callE (NowQ.to HN2.out [w.heap.size, w1.heap.size, w2.heap.size, w2.heap.size+1] Keeps.au (by simp <;> omega) (by simp [kq] <;> omega)) hP hK hT)); (clear hP hK hT))))
    go_wp2_with fail
    refine bodyPost_ret (v := .agg #[.int .i64 M.1, .int .i64 0, .int .i64 0, .int .i64 0, .string ⟨#[]⟩, .int .i64 M.2, .slice (some ⟨w3.heap.size, 0, none⟩) 2 2, .int .i64 T.pos]) (by simp [results, Tryd.results81, go_sem, *]) rfl ?_
    exact NowQ.finTwo (NowQ.to HN3.out [w.heap.size, w1.heap.size, w2.heap.size, w2.heap.size+1] Keeps.au (by simp <;> omega) (by simp [kq] <;> omega)) OwnB.au (by refine ⟨?_, ?_, ?_, ?_⟩ <;> (try simp only [World.size_alloc, World.size_setCell, World.size_drew, World.heap_drewN]) <;> omega)
end Go.Proofs.YtjmemapkipkocaaDoor
