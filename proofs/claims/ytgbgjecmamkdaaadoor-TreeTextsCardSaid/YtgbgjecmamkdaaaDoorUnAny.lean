/-
  The page's Un; both in one word; what is no op of Un's.
-/
import Derived.Test.YtgbgjecmamkdaaaDoorUns
namespace Go.Proofs.YtgbgjecmamkdaaaDoor
open Go.RowKit
set_option linter.unusedVariables false
set_option maxRecDepth 100000
def unV : Int → Int → Int
  | 31, n => IntKind.i8.wrap n
  | 32, n => IntKind.i16.wrap n
  | 33, n => IntKind.i32.wrap n
  | 34, n => IntKind.u8.wrap n
  | 35, n => IntKind.u16.wrap n
  | 36, n => IntKind.u32.wrap n
  | _, _ => 0
theorem run31 (n : Int) (w : World) : Calls Tryd.prog 29 #[.int .i64 31, .int .i64 n] w fun e w' => e = .returned (.int .i64 (IntKind.i8.wrap n)) ∧ w = w' := by
  go_enter Tryd.func29, Tryd.ntmps29
  go_wp2_with (go_at_call 44; refine (cut8s _ _).mono ?_; rintro e w' ⟨rfl, rfl⟩)
  go_ret
  exact ⟨rfl, rfl⟩
theorem run32 (n : Int) (w : World) : Calls Tryd.prog 29 #[.int .i64 32, .int .i64 n] w fun e w' => e = .returned (.int .i64 (IntKind.i16.wrap n)) ∧ w = w' := by
  go_enter Tryd.func29, Tryd.ntmps29
  go_wp2_with (go_at_call 44; refine (cut16s _ _).mono ?_; rintro e w' ⟨rfl, rfl⟩)
  go_ret
  exact ⟨rfl, rfl⟩
theorem run33 (n : Int) (w : World) : Calls Tryd.prog 29 #[.int .i64 33, .int .i64 n] w fun e w' => e = .returned (.int .i64 (IntKind.i32.wrap n)) ∧ w = w' := by
  go_enter Tryd.func29, Tryd.ntmps29
  go_wp2_with (go_at_call 44; refine (cut32s _ _).mono ?_; rintro e w' ⟨rfl, rfl⟩)
  go_ret
  exact ⟨rfl, rfl⟩
theorem run34 (n : Int) (w : World) : Calls Tryd.prog 29 #[.int .i64 34, .int .i64 n] w fun e w' => e = .returned (.int .i64 (IntKind.u8.wrap n)) ∧ w = w' := by
  go_enter Tryd.func29, Tryd.ntmps29
  go_wp2_with (go_at_call 44; refine (cut8u _ _).mono ?_; rintro e w' ⟨rfl, rfl⟩)
  go_ret
  exact ⟨one_int' (una8 n), rfl⟩
theorem run35 (n : Int) (w : World) : Calls Tryd.prog 29 #[.int .i64 35, .int .i64 n] w fun e w' => e = .returned (.int .i64 (IntKind.u16.wrap n)) ∧ w = w' := by
  go_enter Tryd.func29, Tryd.ntmps29
  go_wp2_with (go_at_call 44; refine (cut16u _ _).mono ?_; rintro e w' ⟨rfl, rfl⟩)
  go_ret
  exact ⟨one_int' (una16 n), rfl⟩
theorem run36 (n : Int) (w : World) : Calls Tryd.prog 29 #[.int .i64 36, .int .i64 n] w fun e w' => e = .returned (.int .i64 (IntKind.u32.wrap n)) ∧ w = w' := by
  go_enter Tryd.func29, Tryd.ntmps29
  go_wp2_with (go_at_call 44; refine (cut32u _ _).mono ?_; rintro e w' ⟨rfl, rfl⟩)
  go_ret
  exact ⟨one_int' (una32 n), rfl⟩
theorem uns_of (op : Int) (h : 31 ≤ op ∧ op ≤ 36) : op = 31 ∨ op = 32 ∨ op = 33 ∨ op = 34 ∨ op = 35 ∨ op = 36 := by omega
theorem un_any (op n : Int) (h : 31 ≤ op ∧ op ≤ 36) (w : World) : Calls Tryd.prog 41 #[.int .i64 op, .int .i64 n] w fun e w' => e = .returned (.tuple #[.int .i64 (unV op n), .int .i64 0]) ∧ Below w.heap.size w w' := by
  rcases uns_of op h with rfl | rfl | rfl | rfl | rfl | rfl
  · exact un31 n w
  · exact un32 n w
  · exact un33 n w
  · exact un34 n w
  · exact un35 n w
  · exact un36 n w
theorem run_any (op n : Int) (h : 31 ≤ op ∧ op ≤ 36) (w : World) : Calls Tryd.prog 29 #[.int .i64 op, .int .i64 n] w fun e w' => e = .returned (.int .i64 (unV op n)) ∧ w = w' := by
  rcases uns_of op h with rfl | rfl | rfl | rfl | rfl | rfl
  · exact run31 n w
  · exact run32 n w
  · exact run33 n w
  · exact run34 n w
  · exact run35 n w
  · exact run36 n w
theorem unV_twice (op n : Int) (h : 31 ≤ op ∧ op ≤ 36) : unV op (unV op n) = unV op n := by
  rcases uns_of op h with rfl | rfl | rfl | rfl | rfl | rfl
  · simp only [unV, IntKind.wrap, IntKind.bits, IntKind.signed]; simp; repeat (split); all_goals omega
  · simp only [unV, IntKind.wrap, IntKind.bits, IntKind.signed]; simp; repeat (split); all_goals omega
  · simp only [unV, IntKind.wrap, IntKind.bits, IntKind.signed]; simp; repeat (split); all_goals omega
  · simp only [unV, IntKind.wrap, IntKind.bits, IntKind.signed]; simp
  · simp only [unV, IntKind.wrap, IntKind.bits, IntKind.signed]; simp
  · simp only [unV, IntKind.wrap, IntKind.bits, IntKind.signed]; simp
theorem no_shape (op : Int) (h : op < 31 ∨ 36 < op) (w : World) : Calls Tryd.prog 58 #[.int .i64 op] w fun e w' => e = .returned (.tuple #[.agg #[.int .i64 0, .bool false], .bool false]) ∧ w' = w.alloc (.cells #[.int .i64 0, .bool false] 107) := by
  rcases h with h | h
  · go_enter Tryd.func58, Tryd.ntmps58
    go_wp2
    exact bodyPost_ret (v := .tuple #[.agg #[.int .i64 0, .bool false], .bool false]) (by simp [results, Tryd.results58, go_sem]) rfl ⟨rfl, rfl⟩
  · go_enter Tryd.func58, Tryd.ntmps58
    go_wp2
    exact bodyPost_ret (v := .tuple #[.agg #[.int .i64 0, .bool false], .bool false]) (by simp [results, Tryd.results58, go_sem]) rfl ⟨rfl, rfl⟩
theorem un_no (op n : Int) (h : ¬ (31 ≤ op ∧ op ≤ 36)) (w : World) : Calls Tryd.prog 41 #[.int .i64 op, .int .i64 n] w fun e w' => e = .returned (.tuple #[.int .i64 0, .int .i64 1]) ∧ Below w.heap.size w w' := by
  have h' : op < 31 ∨ 36 < op := by omega
  have C := fun W => Lib.hid (no_shape op h' W)
  clear h h'
  go_enter Tryd.func41, Tryd.ntmps41
  go_wp2_with (go_at_call 58; refine ((C _).out).mono ?_; rintro e w' ⟨rfl, rfl⟩)
  go_ret2
  exact ⟨rfl, ((Below.refl _ _).alloc (Nat.le_refl _) _).alloc (by simp) _⟩
end Go.Proofs.YtgbgjecmamkdaaaDoor
