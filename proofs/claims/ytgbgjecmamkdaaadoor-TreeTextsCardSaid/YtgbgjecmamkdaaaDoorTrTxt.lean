/-
  The text of a tree, plainly.
-/
import Derived.Test.YtgbgjecmamkdaaaDoorTrPlain
import Derived.Lib.ItoaLen
namespace Go.Proofs.YtgbgjecmamkdaaaDoor
set_option linter.unusedVariables false

/-- The ops' words. -/
def wordsL : List (List UInt8) := [[], [99, 111, 110], [116, 109, 112], [108, 111, 99], [103, 108, 111], [108, 111, 97, 100, 56], [108, 111, 97, 100, 49, 54], [108, 111, 97, 100, 51, 50], [108, 111, 97, 100, 54, 52], [108, 111, 97, 100, 117, 56], [108, 111, 97, 100, 117, 49, 54], [108, 111, 97, 100, 117, 51, 50], [97, 100, 100], [115, 117, 98], [109, 117, 108], [100, 105, 118], [100, 105, 118, 117], [114, 101, 109], [114, 101, 109, 117], [97, 110, 100], [111, 114], [120, 111, 114], [115, 104, 108], [115, 104, 114], [115, 97, 114], [101, 113], [110, 101], [108, 116], [108, 116, 117], [108, 101], [108, 101, 117], [101, 120, 116, 56], [101, 120, 116, 49, 54], [101, 120, 116, 51, 50], [122, 101, 120, 116, 56], [122, 101, 120, 116, 49, 54], [122, 101, 120, 116, 51, 50]]
def wordV (op : Int) : List UInt8 := wordsL.getD op.toNat []
/-- Texts, parted by ", ". -/
def joinC : List (List UInt8) → List UInt8
  | [] => []
  | [a] => a
  | a :: b :: r => a ++ (44 :: 32 :: joinC (b :: r))
def leafB (op : Int) : Bool := decide (1 ≤ op ∧ op ≤ 4)
def headT (op n : Int) : List UInt8 := wordV op ++ (40 :: (if leafB op then Lib.itoa n else []))
def textsL : Trs → List (List UInt8)
  | .nil => []
  | .cons op n kids rest => (headT op n ++ (joinC (textsL kids) ++ [41])) :: textsL rest
def textT (t : Tr) : List UInt8 := headT t.op t.n ++ (joinC (textsL t.kids) ++ [41])
theorem textsL_add (t : Tr) (r : Trs) : textsL (.add t r) = textT t :: textsL r := rfl
theorem textsL_len : ∀ x : Trs, (textsL x).length = x.len := by
  intro x
  induction x with
  | nil => rfl
  | cons _ _ _ _ _ ih => simp [textsL, Trs.len, ih]
theorem textsL_get : ∀ (x : Trs) (k : Nat) (t : Tr), x.toL[k]? = some t → (textsL x)[k]? = some (textT t) := by
  intro x
  induction x with
  | nil => intro k t h; simp [Trs.toL] at h
  | cons op n kids rest _ ih =>
    intro k t h
    cases k with
    | zero =>
      obtain rfl : (⟨op, n, kids⟩ : Tr) = t := by simpa [Trs.toL] using h
      rfl
    | succ k => exact ih k t (by simpa [Trs.toL] using h)
theorem joinC_snoc : ∀ (l : List (List UInt8)) (a : List UInt8), l ≠ [] → joinC (l ++ [a]) = joinC l ++ (44 :: 32 :: a) := by
  intro l
  induction l with
  | nil => intro a h; exact absurd rfl h
  | cons x r ih =>
    intro a _
    cases r with
    | nil => rfl
    | cons y r =>
      have := ih a (by simp)
      simp only [List.cons_append, joinC, List.append_assoc] at this ⊢
      rw [this]
theorem joinC_take (l : List (List UInt8)) (k : Nat) (a : List UInt8) (h : l[k]? = some a) : joinC (l.take (k + 1)) = joinC (l.take k) ++ (if 0 < k then 44 :: 32 :: a else a) := by
  obtain ⟨hk, rfl⟩ := List.getElem?_eq_some_iff.1 h
  rw [List.take_succ_eq_append_getElem hk]
  by_cases h0 : 0 < k
  · rw [if_pos h0, joinC_snoc]
    intro h
    have := congrArg List.length h
    rw [List.length_take, List.length_nil] at this
    omega
  · obtain rfl : k = 0 := by omega
    rw [if_neg h0]; rfl
theorem joinC_cons_len (a : List UInt8) (r : List (List UInt8)) : (joinC r).length ≤ (joinC (a :: r)).length ∧ a.length ≤ (joinC (a :: r)).length := by
  cases r with
  | nil => simp [joinC]
  | cons b r => simp [joinC]; omega
theorem joinC_take_len : ∀ (l : List (List UInt8)) (k : Nat), (joinC (l.take k)).length ≤ (joinC l).length := by
  intro l
  induction l with
  | nil => intro k; simp [joinC]
  | cons a r ih =>
    intro k
    cases k with
    | zero => simp [joinC]
    | succ k =>
      cases r with
      | nil => simp [joinC]
      | cons b r =>
        cases k with
        | zero => simp [joinC]
        | succ k =>
          have := ih (k + 1)
          simp only [List.take_succ_cons, joinC, List.length_append, List.length_cons] at this ⊢
          omega
/-- How long a text is at most. -/
theorem word_len (op : Int) : (wordV op).length ≤ 7 := by
  unfold wordV
  have h : ∀ x ∈ wordsL, x.length ≤ 7 := by decide
  by_cases hk : op.toNat < wordsL.length
  · have : wordsL.getD op.toNat [] = wordsL[op.toNat] := by simp [List.getD, hk]
    rw [this]; exact h _ (List.getElem_mem _)
  · have : wordsL.getD op.toNat [] = [] := by simp [List.getD, List.getElem?_eq_none (Nat.le_of_not_lt hk)]
    rw [this]; exact Nat.zero_le _
theorem head_len (op n : Int) (h0 : -9223372036854775808 ≤ n) (h1 : n ≤ 9223372036854775807) : (headT op n).length ≤ 29 := by
  have h2 := word_len op
  have h3 := Lib.itoa_length_le n h0 h1
  unfold headT
  rw [List.length_append, List.length_cons]
  split
  · omega
  · rw [List.length_nil]; omega
end Go.Proofs.YtgbgjecmamkdaaaDoor
