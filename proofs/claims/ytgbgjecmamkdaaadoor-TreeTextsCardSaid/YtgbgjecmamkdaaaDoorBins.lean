/-
  The two Bins in one word, for every op, and the page's IsBin.
-/
import Derived.Test.YtgbgjecmamkdaaaDoorBin
namespace Go.Proofs.YtgbgjecmamkdaaaDoor
open Go.RowKit
set_option linter.unusedVariables false

theorem isBin_any (op : Int) (w : World) : Calls Tryd.prog 65 #[.int .i64 op] w fun e w' => e = .returned (.bool (decide (12 ≤ op ∧ op ≤ 30))) ∧ w = w' := by
  by_cases h1 : 12 ≤ op
  · by_cases h2 : op ≤ 30
    · rw [decide_eq_true (And.intro h1 h2)]
      go_enter Tryd.func65, Tryd.ntmps65
      go_wp2
      go_ret
      exact ⟨rfl, rfl⟩
    · rw [decide_eq_false (fun h => h2 h.2)]
      go_enter Tryd.func65, Tryd.ntmps65
      go_wp2
      go_ret
      exact ⟨rfl, rfl⟩
  · rw [decide_eq_false (fun h => h1 h.1)]
    go_enter Tryd.func65, Tryd.ntmps65
    go_wp2
    go_ret
    exact ⟨rfl, rfl⟩

theorem isBin_yes (op : Int) (h : 12 ≤ op ∧ op ≤ 30) (w : World) : Calls Tryd.prog 65 #[.int .i64 op] w fun e w' => e = .returned (.bool true) ∧ w = w' := by
  have c := isBin_any op w
  rw [decide_eq_true h] at c
  exact c
theorem isBin_no (op : Int) (h : ¬ (12 ≤ op ∧ op ≤ 30)) (w : World) : Calls Tryd.prog 65 #[.int .i64 op] w fun e w' => e = .returned (.bool false) ∧ w = w' := by
  have c := isBin_any op w
  rw [decide_eq_false h] at c
  exact c

theorem pLow (op a b : Int) (h : op < 12) (w : World) : Calls Tryd.prog 42 #[.int .i64 op, .int .i64 a, .int .i64 b] w fun e w' => e = .returned (.tuple #[.int .i64 0, .int .i64 1]) ∧ w = w' := by
  go_enter Tryd.func42, Tryd.ntmps42
  go_wp2
  go_ret2
  exact ⟨rfl, rfl⟩
theorem pHigh (op a b : Int) (h : 30 < op) (w : World) : Calls Tryd.prog 42 #[.int .i64 op, .int .i64 a, .int .i64 b] w fun e w' => e = .returned (.tuple #[.int .i64 0, .int .i64 1]) ∧ w = w' := by
  go_enter Tryd.func42, Tryd.ntmps42
  go_wp2
  go_ret2
  exact ⟨rfl, rfl⟩

theorem pNo (op a b : Int) (h : ¬ (12 ≤ op ∧ op ≤ 30)) (w : World) : Calls Tryd.prog 42 #[.int .i64 op, .int .i64 a, .int .i64 b] w fun e w' => e = .returned (.tuple #[.int .i64 0, .int .i64 1]) ∧ w = w' := by
  by_cases h1 : op < 12
  · exact pLow op a b h1 w
  · exact pHigh op a b (by omega) w

theorem ops_of (op : Int) (h1 : 12 ≤ op) (h2 : op ≤ 30) : op = 12 ∨ op = 13 ∨ op = 14 ∨ op = 15 ∨ op = 16 ∨ op = 17 ∨ op = 18 ∨ op = 19 ∨ op = 20 ∨ op = 21 ∨ op = 22 ∨ op = 23 ∨ op = 24 ∨ op = 25 ∨ op = 26 ∨ op = 27 ∨ op = 28 ∨ op = 29 ∨ op = 30 := by omega

theorem p_any (op a b : Int) (h1 : 12 ≤ op) (h2 : op ≤ 30) (wb : (Lit.int .i64 b).wf = true) (w : World) :
    Calls Tryd.prog 42 #[.int .i64 op, .int .i64 a, .int .i64 b] w fun e w' => e = .returned (.tuple #[.int .i64 (binV op a b), .int .i64 0]) ∧ w = w' := by
  rcases ops_of op h1 h2 with rfl | rfl | rfl | rfl | rfl | rfl | rfl | rfl | rfl | rfl | rfl | rfl | rfl | rfl | rfl | rfl | rfl | rfl | rfl
  · exact p12 a b w
  · exact p13 a b w
  · exact p14 a b w
  · rw [binV15]
    by_cases h : b = 0
    · rw [if_pos h]; exact p15z a b (by simpa using h) w
    · rw [if_neg h]; exact p15n a b (by simpa using h) h w
  · rw [binV16]
    by_cases h : b = 0
    · rw [if_pos h]; exact p16z a b (by simpa using h) w
    · rw [if_neg h]; exact p16n a b (by simpa using h) (by simpa using u64_nz b wb (by simpa using h)) w
  · rw [binV17]
    by_cases h : b = 0
    · rw [if_pos h]; exact p17z a b (by simpa using h) w
    · rw [if_neg h]; exact p17n a b (by simpa using h) h w
  · rw [binV18]
    by_cases h : b = 0
    · rw [if_pos h]; exact p18z a b (by simpa using h) w
    · rw [if_neg h]; exact p18n a b (by simpa using h) (by simpa using u64_nz b wb (by simpa using h)) w
  · exact p19 a b w
  · exact p20 a b w
  · exact p21 a b w
  · exact p22 a b w
  · exact p23 a b w
  · exact p24 a b w
  · rw [binV25]
    by_cases h : a = b
    · rw [if_pos h]; exact p25t a b (by simpa using h) w
    · rw [if_neg h]; exact p25f a b (by simpa using h) w
  · rw [binV26]
    by_cases h : a = b
    · rw [if_pos h]; exact p26t a b (by simpa using h) (by simpa using h) w
    · rw [if_neg h]; exact p26f a b (by simpa using h) (by simpa using h) w
  · rw [binV27]
    by_cases h : a < b
    · rw [if_pos h]; exact p27t a b (by simpa using h) w
    · rw [if_neg h]; exact p27f a b (by simpa using h) w
  · rw [binV28]
    by_cases h : IntKind.u64.wrap a < IntKind.u64.wrap b
    · rw [if_pos h]; exact p28t a b (by simpa using h) w
    · rw [if_neg h]; exact p28f a b (by simpa using h) w
  · rw [binV29]
    by_cases h : a ≤ b
    · rw [if_pos h]; exact p29t a b (by simpa using h) w
    · rw [if_neg h]; exact p29f a b (by simpa using h) w
  · rw [binV30]
    by_cases h : IntKind.u64.wrap a ≤ IntKind.u64.wrap b
    · rw [if_pos h]; exact p30t a b (by simpa using h) w
    · rw [if_neg h]; exact p30f a b (by simpa using h) w

theorem r_any (op a b : Int) (h1 : 12 ≤ op) (h2 : op ≤ 30) (wa : (Lit.int .i64 a).wf = true) (wb : (Lit.int .i64 b).wf = true) (w : World) :
    Calls Tryd.prog 30 #[.int .i64 op, .int .i64 a, .int .i64 b] w fun e w' => e = .returned (.int .i64 (binV op a b)) ∧ w = w' := by
  rcases ops_of op h1 h2 with rfl | rfl | rfl | rfl | rfl | rfl | rfl | rfl | rfl | rfl | rfl | rfl | rfl | rfl | rfl | rfl | rfl | rfl | rfl
  · exact r12 a b w
  · exact r13 a b w
  · exact r14 a b w
  · rw [binV15]
    by_cases h : b = 0
    · rw [if_pos h]; exact r15z a b (by simpa using h) w
    · rw [if_neg h]
      by_cases hm : b = -1
      · by_cases ha : a = -9223372036854775808
        · rw [div_least a b hm ha]
          exact r15m a b (by simpa using hm) (by simpa using ha) w
        · rw [div_minus a b hm]
          subst hm; exact r15k a (by simpa using ha) w
      · exact r15n a b (by simpa using h) h (by simpa using hm) w
  · rw [binV16]
    by_cases h : b = 0
    · rw [if_pos h]; exact r16z a b (by simpa using h) w
    · rw [if_neg h]; exact r16n a b (by simpa using h) (by simpa using u64_nz b wb (by simpa using h)) w
  · rw [binV17]
    by_cases h : b = 0
    · rw [if_pos h]; exact r17z a b (by simpa using h) w
    · rw [if_neg h]
      by_cases hm : b = -1
      · rw [rem_minus a b hm]
        exact r17m a b (by simpa using hm) w
      · exact r17n a b (by simpa using h) h (by simpa using hm) w
  · rw [binV18]
    by_cases h : b = 0
    · rw [if_pos h]; exact r18z a b (by simpa using h) w
    · rw [if_neg h]; exact r18n a b (by simpa using h) (by simpa using u64_nz b wb (by simpa using h)) w
  · exact r19 a b w
  · exact r20 a b w
  · exact r21 a b w
  · exact r22 a b w
  · exact r23 a b w
  · exact r24 a b w
  · rw [binV25]
    by_cases h : a = b
    · rw [if_pos h]; exact r25t a b (by simpa using h) w
    · rw [if_neg h]; exact r25f a b (by simpa using h) w
  · rw [binV26]
    by_cases h : a = b
    · rw [if_pos h]; exact r26t a b (by simpa using h) (by simpa using h) w
    · rw [if_neg h]; exact r26f a b (by simpa using h) (by simpa using h) w
  · rw [binV27]
    by_cases h : a < b
    · rw [if_pos h]; exact r27t a b (by simpa using h) w
    · rw [if_neg h]; exact r27f a b (by simpa using h) w
  · rw [binV28]
    by_cases h : IntKind.u64.wrap a < IntKind.u64.wrap b
    · rw [if_pos h]; exact r28t a b (by simpa using h) w
    · rw [if_neg h]; exact r28f a b (by simpa using h) w
  · rw [binV29]
    by_cases h : a ≤ b
    · rw [if_pos h]; exact r29t a b (by simpa using h) w
    · rw [if_neg h]; exact r29f a b (by simpa using h) w
  · rw [binV30]
    by_cases h : IntKind.u64.wrap a ≤ IntKind.u64.wrap b
    · rw [if_pos h]; exact r30t a b (by simpa using h) w
    · rw [if_neg h]; exact r30f a b (by simpa using h) w
end Go.Proofs.YtgbgjecmamkdaaaDoor
