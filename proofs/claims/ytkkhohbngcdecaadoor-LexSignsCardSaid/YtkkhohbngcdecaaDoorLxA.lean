/-
  The small functions of lex: letters, digits, blanks.
-/
import Derived.Test.YtkkhohbngcdecaaDoorProg
import Derived.Test.YtkkhohbngcdecaaDoorLxPlain
import Derived.LoopTactic
import Derived.RegionTactic
import Derived.Deep.QuietTactic
import Derived.BigQuiet
import Derived.BigGuard
import Derived.Outline
import Derived.Lib.Hide
import Derived.WalkSpells
namespace Go.Proofs.YtkkhohbngcdecaaDoor
open Go.RowKit
set_option linter.unusedVariables false
set_option linter.unusedSimpArgs false

/-- What an integer between 48 and 57 is, or a letter's. -/
def digI (x : Int) : Bool := decide (48 ≤ x) && decide (x ≤ 57)
def ltrI (x : Int) : Bool := x == 95 || (decide (97 ≤ x) && decide (x ≤ 122)) || (decide (65 ≤ x) && decide (x ≤ 90))
theorem digI_eq (c : UInt8) : digI c.toNat = isDig c := by
  rw [Bool.eq_iff_iff]; simp [digI, isDig, UInt8.le_iff_toNat_le]; omega
theorem ltrI_eq (c : UInt8) : ltrI c.toNat = isLet c := by
  have e : c = 95 ↔ c.toNat = 95 := ⟨fun h => by rw [h]; rfl, fun h => UInt8.toNat_inj.1 (by rw [h]; rfl)⟩
  rw [Bool.eq_iff_iff]; simp [ltrI, isLet, UInt8.le_iff_toNat_le, e]; omega
theorem isDigitI (x : Int) (w : World) : Calls Tryd.prog 26 #[.int .u8 x] w fun e w' => e = .returned (.bool (digI x)) ∧ w = w' := by
  by_cases h : 48 ≤ x <;> by_cases h2 : x ≤ 57
  all_goals (
    go_enter Tryd.func26, Tryd.ntmps26
    go_wp2
    go_ret
    exact ⟨by simp [digI, h, h2], rfl⟩)
theorem isLetterI (x : Int) (w : World) : Calls Tryd.prog 22 #[.int .u8 x] w fun e w' => e = .returned (.bool (ltrI x)) ∧ w = w' := by
  cases h0 : (x == 95) <;> by_cases h1 : 97 ≤ x <;> by_cases h2 : x ≤ 122 <;> by_cases h3 : 65 ≤ x <;> by_cases h4 : x ≤ 90
  all_goals (
    go_enter Tryd.func22, Tryd.ntmps22
    go_wp2
    go_ret
    exact ⟨by simp [ltrI, h0, h1, h2, h3, h4], rfl⟩)
theorem isLetter_any (c : UInt8) (w : World) : Calls Tryd.prog 22 #[.int .u8 c.toNat] w fun e w' => e = .returned (.bool (isLet c)) ∧ w = w' := by
  rw [← ltrI_eq]; exact isLetterI _ _
theorem isDigit_any (c : UInt8) (w : World) : Calls Tryd.prog 26 #[.int .u8 c.toNat] w fun e w' => e = .returned (.bool (isDig c)) ∧ w = w' := by
  rw [← digI_eq]; exact isDigitI _ _
theorem refDigitI (x : Int) (w : World) : Calls Tryd.prog 17 #[.int .u8 x] w fun e w' => e = .returned (.bool (digI x)) ∧ w = w' := by
  by_cases h : 48 ≤ x <;> by_cases h2 : x ≤ 57
  all_goals (
    go_enter Tryd.func17, Tryd.ntmps17
    go_wp2
    go_ret
    exact ⟨by simp [digI, h, h2], rfl⟩)
theorem refLetterI (x : Int) (w : World) : Calls Tryd.prog 16 #[.int .u8 x] w fun e w' => e = .returned (.bool (ltrI x)) ∧ w = w' := by
  cases h0 : (x == 95) <;> by_cases h1 : 97 ≤ x <;> by_cases h2 : x ≤ 122 <;> by_cases h3 : 65 ≤ x <;> by_cases h4 : x ≤ 90
  all_goals (
    go_enter Tryd.func16, Tryd.ntmps16
    go_wp2
    go_ret
    exact ⟨by simp [ltrI, h0, h1, h2, h3, h4], rfl⟩)
theorem refLetter_any (c : UInt8) (w : World) : Calls Tryd.prog 16 #[.int .u8 c.toNat] w fun e w' => e = .returned (.bool (isLet c)) ∧ w = w' := by
  rw [← ltrI_eq]; exact refLetterI _ _
theorem refDigit_any (c : UInt8) (w : World) : Calls Tryd.prog 17 #[.int .u8 c.toNat] w fun e w' => e = .returned (.bool (isDig c)) ∧ w = w' := by
  rw [← digI_eq]; exact refDigitI _ _
end Go.Proofs.YtkkhohbngcdecaaDoor
