/-
  Tokens, plainly: what a text's tokens are, over lists of bytes. Nothing of Go.
-/
import Derived.WalkKit
namespace Go.Proofs.YtkkhohbngcdecaaDoor
open Go.RowKit
set_option linter.unusedVariables false

def isLet (c : UInt8) : Bool := c == 95 || (97 ≤ c && c ≤ 122) || (65 ≤ c && c ≤ 90)
def isDig (c : UInt8) : Bool := 48 ≤ c && c ≤ 57
def isAl (c : UInt8) : Bool := isLet c || isDig c
def isBl (c : UInt8) : Bool := c == 32 || c == 9 || c == 10 || c == 13

structure Tok where
  kind : Int
  text : List UInt8
  n : Int
  pos : Nat
deriving DecidableEq
inductive Res
  | bad (err : Int) (pos : Nat)
  | ok (l : List Tok)
deriving DecidableEq

def wordsL : List (List UInt8) := [[118, 111, 105, 100], [99, 104, 97, 114], [115, 104, 111, 114, 116], [105, 110, 116], [108, 111, 110, 103], [117, 110, 115, 105, 103, 110, 101, 100], [105, 102], [101, 108, 115, 101], [119, 104, 105, 108, 101], [100, 111], [102, 111, 114], [115, 119, 105, 116, 99, 104], [99, 97, 115, 101], [100, 101, 102, 97, 117, 108, 116], [98, 114, 101, 97, 107], [99, 111, 110, 116, 105, 110, 117, 101], [114, 101, 116, 117, 114, 110], [103, 111, 116, 111], [115, 105, 122, 101, 111, 102]]
def isWord (t : List UInt8) : Bool := wordsL.contains t
def L3 : List (List UInt8) := [[60, 60, 61], [62, 62, 61]]
def L2 : List (List UInt8) := [[43, 43], [45, 45], [60, 60], [62, 62], [60, 61], [62, 61], [61, 61], [33, 61], [38, 38], [124, 124], [43, 61], [45, 61], [42, 61], [47, 61], [37, 61], [38, 61], [94, 61], [124, 61]]
def L1 : List (List UInt8) := [[43], [45], [42], [47], [37], [38], [124], [94], [126], [33], [60], [62], [61], [63], [58], [59], [44], [40], [41], [91], [93], [123], [125]]
def signsL : List (List UInt8) := L3 ++ L2 ++ L1
def sgT (r : List UInt8) : Option (List UInt8) := signsL.find? (fun t => t.isPrefixOf r)

/-- A number as it is read: what has come up, and whether it was too large once. -/
def numStep (v : Int × Bool) (c : UInt8) : Int × Bool := (IntKind.u64.wrap (IntKind.u64.wrap (v.1 * 10) + ((c.toNat : Int) - 48) % 256), v.2 || decide ((9223372036854775807 - ((c.toNat : Int) - 48) % 256) / 10 < v.1))
def numOf (d : List UInt8) : Int × Bool := d.foldl numStep (0, false)

/-- The tokens from here on. -/
def S : Nat → List UInt8 → Nat → List Tok → Res
  | 0, _, _, _ => .bad 0 0
  | _ + 1, [], pos, acc => .ok (acc ++ [⟨0, [], 0, pos⟩])
  | f + 1, c :: r, pos, acc =>
    if isBl c then S f r (pos + 1) acc
    else if isLet c then S f ((c :: r).drop ((c :: r).takeWhile isAl).length) (pos + ((c :: r).takeWhile isAl).length) (acc ++ [⟨if isWord ((c :: r).takeWhile isAl) then 4 else 1, (c :: r).takeWhile isAl, 0, pos⟩])
    else if isDig c then
      if (numOf ((c :: r).takeWhile isDig)).2 then .bad 10 pos
      else if isLet ((c :: r).getD ((c :: r).takeWhile isDig).length 0) then .bad 3 pos
      else S f ((c :: r).drop ((c :: r).takeWhile isDig).length) (pos + ((c :: r).takeWhile isDig).length) (acc ++ [⟨2, [], wrap64 (numOf ((c :: r).takeWhile isDig)).1, pos⟩])
    else match sgT (c :: r) with
      | none => .bad 3 pos
      | some t => S f ((c :: r).drop t.length) (pos + t.length) (acc ++ [⟨3, t, 0, pos⟩])

theorem sgT_some {r t : List UInt8} (h : sgT r = some t) : t ∈ signsL ∧ t <+: r := by
  unfold sgT at h
  exact ⟨List.mem_of_find?_eq_some h, List.isPrefixOf_iff_prefix.1 (List.find?_some (p := fun t : List UInt8 => t.isPrefixOf r) h)⟩
theorem signs_pos {t : List UInt8} (h : t ∈ signsL) : 0 < t.length ∧ t.length ≤ 3 := by
  have : ∀ t ∈ signsL, 0 < t.length ∧ t.length ≤ 3 := by decide
  exact this t h
theorem tw_pos {p : UInt8 → Bool} {c : UInt8} {r : List UInt8} (h : p c = true) : 0 < ((c :: r).takeWhile p).length := by
  simp [h]

theorem S_fuel : ∀ (f f' : Nat) (r : List UInt8) (pos : Nat) (acc : List Tok), r.length < f → r.length < f' → S f r pos acc = S f' r pos acc
  | 0, _, r, _, _, h, _ => by omega
  | _ + 1, 0, r, _, _, _, h => by omega
  | f + 1, f' + 1, [], pos, acc, _, _ => by simp [S]
  | f + 1, f' + 1, c :: r, pos, acc, h, h' => by
    have hr : r.length < f := by simpa using h
    have hr' : r.length < f' := by simpa using h'
    have hd : ∀ n, 0 < n → ∀ p a, S f ((c :: r).drop n) p a = S f' ((c :: r).drop n) p a := fun n hn p a => S_fuel f f' _ p a (by simp; omega) (by simp; omega)
    rw [S, S]
    by_cases hb : isBl c = true
    · rw [if_pos hb, if_pos hb]; exact S_fuel f f' r _ _ hr hr'
    rw [if_neg hb, if_neg hb]
    by_cases hl : isLet c = true
    · rw [if_pos hl, if_pos hl]; exact hd _ (tw_pos (by simp [isAl, hl])) _ _
    rw [if_neg hl, if_neg hl]
    by_cases hg : isDig c = true
    · rw [if_pos hg, if_pos hg]
      split
      · rfl
      split
      · rfl
      exact hd _ (tw_pos hg) _ _
    rw [if_neg hg, if_neg hg]
    cases hs : sgT (c :: r) with
    | none => rfl
    | some t => exact hd _ (signs_pos (sgT_some hs).1).1 _ _

/-- .. with just as much fuel as is wanted. -/
def SS (r : List UInt8) (pos : Nat) (acc : List Tok) : Res := S (r.length + 1) r pos acc
theorem SS_nil (pos : Nat) (acc : List Tok) : SS [] pos acc = .ok (acc ++ [⟨0, [], 0, pos⟩]) := rfl
section
variable {c : UInt8} {r : List UInt8} (pos : Nat) (acc : List Tok)
theorem SS_drop (n : Nat) (hn : 0 < n) (p : Nat) (a : List Tok) : S (c :: r).length ((c :: r).drop n) p a = SS ((c :: r).drop n) p a := S_fuel _ _ _ _ _ (by simp; omega) (by omega)
theorem SS_blank (h : isBl c = true) : SS (c :: r) pos acc = SS r (pos + 1) acc := by
  rw [SS, S, if_pos h]; rfl
theorem SS_name (hb : isBl c = false) (h : isLet c = true) :
    SS (c :: r) pos acc = SS ((c :: r).drop ((c :: r).takeWhile isAl).length) (pos + ((c :: r).takeWhile isAl).length) (acc ++ [⟨if isWord ((c :: r).takeWhile isAl) then 4 else 1, (c :: r).takeWhile isAl, 0, pos⟩]) := by
  rw [SS, S, if_neg (by simp [hb]), if_pos h]
  exact SS_drop _ (tw_pos (by simp [isAl, h])) _ _
theorem SS_num (hb : isBl c = false) (hl : isLet c = false) (h : isDig c = true) :
    SS (c :: r) pos acc = if (numOf ((c :: r).takeWhile isDig)).2 then .bad 10 pos
      else if isLet ((c :: r).getD ((c :: r).takeWhile isDig).length 0) then .bad 3 pos
      else SS ((c :: r).drop ((c :: r).takeWhile isDig).length) (pos + ((c :: r).takeWhile isDig).length) (acc ++ [⟨2, [], wrap64 (numOf ((c :: r).takeWhile isDig)).1, pos⟩]) := by
  rw [SS, S, if_neg (by simp [hb]), if_neg (by simp [hl]), if_pos h]
  rw [← SS_drop _ (tw_pos h)]
theorem SS_sign (hb : isBl c = false) (hl : isLet c = false) (h : isDig c = false) :
    SS (c :: r) pos acc = match sgT (c :: r) with
      | none => .bad 3 pos
      | some t => SS ((c :: r).drop t.length) (pos + t.length) (acc ++ [⟨3, t, 0, pos⟩]) := by
  rw [SS, S, if_neg (by simp [hb]), if_neg (by simp [hl]), if_neg (by simp [h])]
  cases hs : sgT (c :: r) with
  | none => rfl
  | some t => exact SS_drop _ (signs_pos (sgT_some hs).1).1 _ _
end

/-- The tokens of a text, or its fault. -/
def lexR (l : List UInt8) : Res := if 2000 < l.length then .bad 2 0 else SS l 0 []
def Res.err : Res → Int | .bad e _ => e | .ok _ => 0
def Res.at : Res → Nat | .bad _ p => p | .ok _ => 0
def Res.toks : Res → List Tok | .bad _ _ => [] | .ok l => l

/-- How many from here on are of a kind. -/
def cnt (p : UInt8 → Bool) (r : List UInt8) : Nat := (r.takeWhile p).length
section
variable {p : UInt8 → Bool} {c : UInt8} {r : List UInt8}
theorem cnt_nil : cnt p [] = 0 := rfl
theorem cnt_yes (h : p c = true) : cnt p (c :: r) = cnt p r + 1 := by simp [cnt, h]
theorem cnt_no (h : p c = false) : cnt p (c :: r) = 0 := by simp [cnt, h]
theorem cnt_le : cnt p r ≤ r.length := by unfold cnt; exact (List.takeWhile_sublist p).length_le
theorem take_cnt : r.take (cnt p r) = r.takeWhile p := by
  unfold cnt
  induction r with
  | nil => rfl
  | cons c r ih => by_cases h : p c = true <;> simp [h, ih]
theorem head_cnt (p : UInt8 → Bool) (r : List UInt8) (c : UInt8) (t : List UInt8) (h : r.drop (cnt p r) = c :: t) : p c = false := by
  induction r with
  | nil => simp at h
  | cons d r ih =>
    cases hd : p d with
    | true => rw [cnt_yes hd] at h; exact ih (by simpa using h)
    | false => rw [cnt_no hd] at h; simp at h; rw [← h.1]; exact hd
end
theorem tw_yes {p : UInt8 → Bool} {c : UInt8} {r : List UInt8} (h : p c = true) : (c :: r).takeWhile p = c :: r.takeWhile p := by simp [h]
theorem tw_no {p : UInt8 → Bool} {c : UInt8} {r : List UInt8} (h : p c = false) : (c :: r).takeWhile p = [] := by simp [h]
/-- What 'number' returns, of what lies from k on. -/
def numE (r : List UInt8) : Int := if (numOf (r.takeWhile isDig)).2 then 10 else if isLet (r.getD (cnt isDig r) 0) then 3 else 0
def numN (r : List UInt8) : Int := if numE r = 0 then wrap64 (numOf (r.takeWhile isDig)).1 else 0
def numP (r : List UInt8) (k : Nat) : Nat := if numE r = 0 then k + cnt isDig r else 0
section
variable {r : List UInt8} (k : Nat)
theorem num_over (h : (numOf (r.takeWhile isDig)).2 = true) : numE r = 10 ∧ numN r = 0 ∧ numP r k = 0 := by simp [numE, numN, numP, h]
theorem num_let (h : (numOf (r.takeWhile isDig)).2 = false) (hl : isLet (r.getD (cnt isDig r) 0) = true) : numE r = 3 ∧ numN r = 0 ∧ numP r k = 0 := by simp only [numE, numN, numP, h, hl]; simp
theorem num_ok (h : (numOf (r.takeWhile isDig)).2 = false) (hl : isLet (r.getD (cnt isDig r) 0) = false) : numE r = 0 ∧ numN r = wrap64 (numOf (r.takeWhile isDig)).1 ∧ numP r k = k + cnt isDig r := by simp only [numE, numN, numP, h, hl]; simp
end
theorem getD_drop (l : List UInt8) (k n : Nat) : (l.drop k).getD n 0 = l.getD (k + n) 0 := by simp [List.getD]
theorem getD_in (s : ByteArray) {j : Nat} (h : j < s.size) : s.data.toList.getD j 0 = s[j] := by
  rw [List.getD_eq_getElem?_getD, List.getElem?_eq_getElem (by simpa using h)]; rfl
theorem getD_out (s : ByteArray) {j : Nat} (h : ¬ j < s.size) : s.data.toList.getD j 0 = 0 := by
  simp [List.getD]; rw [Array.getElem?_eq_none (by simpa using h)]; rfl
theorem drop_cons (s : ByteArray) {j : Nat} (h : j < s.size) : s.data.toList.drop j = s[j] :: s.data.toList.drop (j + 1) := by
  rw [List.drop_eq_getElem_cons (by simpa using h)]; rfl
theorem drop_nil (s : ByteArray) {j : Nat} (h : ¬ j < s.size) : s.data.toList.drop j = [] := List.drop_eq_nil_of_le (by simp; omega)
theorem SS_blanks : ∀ (r : List UInt8) (pos : Nat) (acc : List Tok), SS r pos acc = SS (r.drop (cnt isBl r)) (pos + cnt isBl r) acc
  | [], pos, acc => rfl
  | c :: r, pos, acc => by
    cases h : isBl c with
    | true => rw [SS_blank _ _ h, cnt_yes h, SS_blanks r, List.drop_succ_cons, Nat.add_assoc, Nat.add_comm 1]
    | false => rw [cnt_no h]; rfl
theorem bl_bits (c : UInt8) : (bits BinOp.and IntKind.u64 (4294977024 / 2 ^ min c.toNat 64) 1 == 1) = isBl c := by
  have h : ∀ n, n < 256 → (bits BinOp.and IntKind.u64 (4294977024 / 2 ^ min (UInt8.ofNat n).toNat 64) 1 == 1) = isBl (UInt8.ofNat n) := by decide +kernel
  have := h c.toNat c.toNat_lt
  simpa using this
end Go.Proofs.YtkkhohbngcdecaaDoor
