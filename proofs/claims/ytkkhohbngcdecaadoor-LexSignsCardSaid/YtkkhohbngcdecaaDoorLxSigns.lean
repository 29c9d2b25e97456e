/-
  Signs, plainly: the longest one, by prefixes and by three bytes.
-/
import Derived.Test.YtkkhohbngcdecaaDoorLxPlain
namespace Go.Proofs.YtkkhohbngcdecaaDoor
set_option linter.unusedVariables false
/-- The map's word: how long the sign is that three bytes are. -/
def mark (t : List UInt8) : List UInt8 := [t.getD 0 0, t.getD 1 0, t.getD 2 0]
def tabK (l : List (List UInt8)) (m : List UInt8) : Nat := l.foldl (fun z t => if mark t = m then t.length else z) 0
def tab (m : List UInt8) : Nat := tabK signsL m
theorem tabK_snoc (l : List (List UInt8)) (t m : List UInt8) : tabK (l ++ [t]) m = if mark t = m then t.length else tabK l m := by simp [tabK]

/-- The longest sign that three bytes begin with, asked from the third on, the second on, .. -/
def sg1 (x : UInt8) : Nat := if 0 < tabK signsL [x, 0, 0] then tabK signsL [x, 0, 0] else 0
def sg2 (x y : UInt8) : Nat := if 0 < tabK signsL [x, y, 0] then tabK signsL [x, y, 0] else sg1 x
def sg3 (x y z : UInt8) : Nat := if 0 < tabK signsL [x, y, z] then tabK signsL [x, y, z] else sg2 x y
def sg (r : List UInt8) : Nat := sg3 (r.getD 0 0) (r.getD 1 0) (r.getD 2 0)
section
variable {x y z : UInt8}
theorem sg3_yes (h : 0 < tabK signsL [x, y, z]) : sg3 x y z = tabK signsL [x, y, z] := by rw [sg3, if_pos h]
theorem sg3_no (h : ¬ 0 < tabK signsL [x, y, z]) : sg3 x y z = sg2 x y := by rw [sg3, if_neg h]
theorem sg2_yes (h : 0 < tabK signsL [x, y, 0]) : sg2 x y = tabK signsL [x, y, 0] := by rw [sg2, if_pos h]
theorem sg2_no (h : ¬ 0 < tabK signsL [x, y, 0]) : sg2 x y = sg1 x := by rw [sg2, if_neg h]
theorem sg1_yes (h : 0 < tabK signsL [x, 0, 0]) : sg1 x = tabK signsL [x, 0, 0] := by rw [sg1, if_pos h]
theorem sg1_no (h : ¬ 0 < tabK signsL [x, 0, 0]) : sg1 x = 0 := by rw [sg1, if_neg h]
end
end Go.Proofs.YtkkhohbngcdecaaDoor
