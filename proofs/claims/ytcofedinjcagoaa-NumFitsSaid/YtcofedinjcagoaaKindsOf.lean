/-
  The bytes, the sign, and what any number is, of each kind: the project's and the page's.
-/
import Derived.Test.YtcofedinjcagoaaUn
import Derived.Test.YtcofedinjcagoaaFrame
namespace Go.Proofs.Ytcofedinjcagoaa
open Go.RowKit
set_option linter.unusedVariables false
def bytesV : Int → Int
  | 1 => 1 | 2 => 1 | 3 => 2 | 4 => 2 | 5 => 4 | 6 => 4 | _ => 8
def signV : Int → Bool
  | 1 => true | 3 => true | 5 => true | 7 => true | _ => false
def fitV : Int → Int → Int
  | 1, n => IntKind.i8.wrap n
  | 2, n => IntKind.u8.wrap n
  | 3, n => IntKind.i16.wrap n
  | 4, n => IntKind.u16.wrap n
  | 5, n => IntKind.i32.wrap n
  | 6, n => IntKind.u32.wrap n
  | 7, n => n
  | 8, n => n
  | _, _ => 0
theorem kinds_of (q : Int) (h : 1 ≤ q ∧ q ≤ 8) : q = 1 ∨ q = 2 ∨ q = 3 ∨ q = 4 ∨ q = 5 ∨ q = 6 ∨ q = 7 ∨ q = 8 := by omega
theorem shk1 (w : World) : Calls Try.prog 28 #[.int .i64 1] w fun e w' => e = .returned (.tuple #[.agg #[.int .i64 1, .bool true], .bool true]) ∧ w' = w.alloc (.cells #[.int .i64 1, .bool true] 42) := by
  go_enter Try.func28, Try.ntmps28
  go_wp2
  exact bodyPost_ret (v := .tuple #[.agg #[.int .i64 1, .bool true], .bool true]) (by simp [results, Try.results28, go_sem]) rfl ⟨rfl, rfl⟩
theorem by1 (w : World) : Calls Try.prog 15 #[.int .i64 1] w fun e w' => e = .returned (.tuple #[.int .i64 1, .int .i64 0]) ∧ Below w.heap.size w w' := by
  go_enter Try.func15, Try.ntmps15
  go_wp2_with (go_at_call 28; refine (shk1 _).mono ?_; rintro e w' ⟨rfl, rfl⟩)
  go_ret2
  exact ⟨rfl, ((Below.refl _ _).alloc (Nat.le_refl _) _).alloc (by simp) _⟩
theorem sg1 (w : World) : Calls Try.prog 16 #[.int .i64 1] w fun e w' => e = .returned (.tuple #[.bool true, .int .i64 0]) ∧ Below w.heap.size w w' := by
  go_enter Try.func16, Try.ntmps16
  go_wp2_with (go_at_call 28; refine (shk1 _).mono ?_; rintro e w' ⟨rfl, rfl⟩)
  go_ret2
  exact ⟨rfl, ((Below.refl _ _).alloc (Nat.le_refl _) _).alloc (by simp) _⟩
theorem rby1 (w : World) : Calls Try.prog 19 #[.int .i64 1] w fun e w' => e = .returned (.int .i64 1) ∧ w = w' := by
  go_enter Try.func19, Try.ntmps19
  go_wp2
  go_ret
  exact ⟨rfl, rfl⟩
theorem rsg1 (w : World) : Calls Try.prog 20 #[.int .i64 1] w fun e w' => e = .returned (.bool true) ∧ w = w' := by
  go_enter Try.func20, Try.ntmps20
  go_wp2
  go_ret
  exact ⟨rfl, rfl⟩
theorem rft1 (n : Int) (w : World) : Calls Try.prog 21 #[.int .i64 1, .int .i64 n] w fun e w' => e = .returned (.int .i64 (IntKind.i8.wrap n)) ∧ w = w' := by
  go_enter Try.func21, Try.ntmps21
  go_wp2_with (first | (go_at_call 19; refine (rby1 _).mono ?_; rintro e w' ⟨rfl, rfl⟩) | (go_at_call 20; refine (rsg1 _).mono ?_; rintro e w' ⟨rfl, rfl⟩) | (go_at_call 29; refine (cut8s _ _).mono ?_; rintro e w' ⟨rfl, rfl⟩))
  go_ret
  exact ⟨rfl, rfl⟩
theorem shk2 (w : World) : Calls Try.prog 28 #[.int .i64 2] w fun e w' => e = .returned (.tuple #[.agg #[.int .i64 1, .bool false], .bool true]) ∧ w' = w.alloc (.cells #[.int .i64 1, .bool false] 42) := by
  go_enter Try.func28, Try.ntmps28
  go_wp2
  exact bodyPost_ret (v := .tuple #[.agg #[.int .i64 1, .bool false], .bool true]) (by simp [results, Try.results28, go_sem]) rfl ⟨rfl, rfl⟩
theorem by2 (w : World) : Calls Try.prog 15 #[.int .i64 2] w fun e w' => e = .returned (.tuple #[.int .i64 1, .int .i64 0]) ∧ Below w.heap.size w w' := by
  go_enter Try.func15, Try.ntmps15
  go_wp2_with (go_at_call 28; refine (shk2 _).mono ?_; rintro e w' ⟨rfl, rfl⟩)
  go_ret2
  exact ⟨rfl, ((Below.refl _ _).alloc (Nat.le_refl _) _).alloc (by simp) _⟩
theorem sg2 (w : World) : Calls Try.prog 16 #[.int .i64 2] w fun e w' => e = .returned (.tuple #[.bool false, .int .i64 0]) ∧ Below w.heap.size w w' := by
  go_enter Try.func16, Try.ntmps16
  go_wp2_with (go_at_call 28; refine (shk2 _).mono ?_; rintro e w' ⟨rfl, rfl⟩)
  go_ret2
  exact ⟨rfl, ((Below.refl _ _).alloc (Nat.le_refl _) _).alloc (by simp) _⟩
theorem rby2 (w : World) : Calls Try.prog 19 #[.int .i64 2] w fun e w' => e = .returned (.int .i64 1) ∧ w = w' := by
  go_enter Try.func19, Try.ntmps19
  go_wp2
  go_ret
  exact ⟨rfl, rfl⟩
theorem rsg2 (w : World) : Calls Try.prog 20 #[.int .i64 2] w fun e w' => e = .returned (.bool false) ∧ w = w' := by
  go_enter Try.func20, Try.ntmps20
  go_wp2
  go_ret
  exact ⟨rfl, rfl⟩
theorem rft2 (n : Int) (w : World) : Calls Try.prog 21 #[.int .i64 2, .int .i64 n] w fun e w' => e = .returned (.int .i64 (IntKind.u8.wrap n)) ∧ w = w' := by
  go_enter Try.func21, Try.ntmps21
  go_wp2_with (first | (go_at_call 19; refine (rby2 _).mono ?_; rintro e w' ⟨rfl, rfl⟩) | (go_at_call 20; refine (rsg2 _).mono ?_; rintro e w' ⟨rfl, rfl⟩) | (go_at_call 29; refine (cut8u _ _).mono ?_; rintro e w' ⟨rfl, rfl⟩))
  go_ret
  exact ⟨one_int' (una8 n), rfl⟩
theorem shk3 (w : World) : Calls Try.prog 28 #[.int .i64 3] w fun e w' => e = .returned (.tuple #[.agg #[.int .i64 2, .bool true], .bool true]) ∧ w' = w.alloc (.cells #[.int .i64 2, .bool true] 42) := by
  go_enter Try.func28, Try.ntmps28
  go_wp2
  exact bodyPost_ret (v := .tuple #[.agg #[.int .i64 2, .bool true], .bool true]) (by simp [results, Try.results28, go_sem]) rfl ⟨rfl, rfl⟩
theorem by3 (w : World) : Calls Try.prog 15 #[.int .i64 3] w fun e w' => e = .returned (.tuple #[.int .i64 2, .int .i64 0]) ∧ Below w.heap.size w w' := by
  go_enter Try.func15, Try.ntmps15
  go_wp2_with (go_at_call 28; refine (shk3 _).mono ?_; rintro e w' ⟨rfl, rfl⟩)
  go_ret2
  exact ⟨rfl, ((Below.refl _ _).alloc (Nat.le_refl _) _).alloc (by simp) _⟩
theorem sg3 (w : World) : Calls Try.prog 16 #[.int .i64 3] w fun e w' => e = .returned (.tuple #[.bool true, .int .i64 0]) ∧ Below w.heap.size w w' := by
  go_enter Try.func16, Try.ntmps16
  go_wp2_with (go_at_call 28; refine (shk3 _).mono ?_; rintro e w' ⟨rfl, rfl⟩)
  go_ret2
  exact ⟨rfl, ((Below.refl _ _).alloc (Nat.le_refl _) _).alloc (by simp) _⟩
theorem rby3 (w : World) : Calls Try.prog 19 #[.int .i64 3] w fun e w' => e = .returned (.int .i64 2) ∧ w = w' := by
  go_enter Try.func19, Try.ntmps19
  go_wp2
  go_ret
  exact ⟨rfl, rfl⟩
theorem rsg3 (w : World) : Calls Try.prog 20 #[.int .i64 3] w fun e w' => e = .returned (.bool true) ∧ w = w' := by
  go_enter Try.func20, Try.ntmps20
  go_wp2
  go_ret
  exact ⟨rfl, rfl⟩
theorem rft3 (n : Int) (w : World) : Calls Try.prog 21 #[.int .i64 3, .int .i64 n] w fun e w' => e = .returned (.int .i64 (IntKind.i16.wrap n)) ∧ w = w' := by
  go_enter Try.func21, Try.ntmps21
  go_wp2_with (first | (go_at_call 19; refine (rby3 _).mono ?_; rintro e w' ⟨rfl, rfl⟩) | (go_at_call 20; refine (rsg3 _).mono ?_; rintro e w' ⟨rfl, rfl⟩) | (go_at_call 29; refine (cut16s _ _).mono ?_; rintro e w' ⟨rfl, rfl⟩))
  go_ret
  exact ⟨rfl, rfl⟩
theorem shk4 (w : World) : Calls Try.prog 28 #[.int .i64 4] w fun e w' => e = .returned (.tuple #[.agg #[.int .i64 2, .bool false], .bool true]) ∧ w' = w.alloc (.cells #[.int .i64 2, .bool false] 42) := by
  go_enter Try.func28, Try.ntmps28
  go_wp2
  exact bodyPost_ret (v := .tuple #[.agg #[.int .i64 2, .bool false], .bool true]) (by simp [results, Try.results28, go_sem]) rfl ⟨rfl, rfl⟩
theorem by4 (w : World) : Calls Try.prog 15 #[.int .i64 4] w fun e w' => e = .returned (.tuple #[.int .i64 2, .int .i64 0]) ∧ Below w.heap.size w w' := by
  go_enter Try.func15, Try.ntmps15
  go_wp2_with (go_at_call 28; refine (shk4 _).mono ?_; rintro e w' ⟨rfl, rfl⟩)
  go_ret2
  exact ⟨rfl, ((Below.refl _ _).alloc (Nat.le_refl _) _).alloc (by simp) _⟩
theorem sg4 (w : World) : Calls Try.prog 16 #[.int .i64 4] w fun e w' => e = .returned (.tuple #[.bool false, .int .i64 0]) ∧ Below w.heap.size w w' := by
  go_enter Try.func16, Try.ntmps16
  go_wp2_with (go_at_call 28; refine (shk4 _).mono ?_; rintro e w' ⟨rfl, rfl⟩)
  go_ret2
  exact ⟨rfl, ((Below.refl _ _).alloc (Nat.le_refl _) _).alloc (by simp) _⟩
theorem rby4 (w : World) : Calls Try.prog 19 #[.int .i64 4] w fun e w' => e = .returned (.int .i64 2) ∧ w = w' := by
  go_enter Try.func19, Try.ntmps19
  go_wp2
  go_ret
  exact ⟨rfl, rfl⟩
theorem rsg4 (w : World) : Calls Try.prog 20 #[.int .i64 4] w fun e w' => e = .returned (.bool false) ∧ w = w' := by
  go_enter Try.func20, Try.ntmps20
  go_wp2
  go_ret
  exact ⟨rfl, rfl⟩
theorem rft4 (n : Int) (w : World) : Calls Try.prog 21 #[.int .i64 4, .int .i64 n] w fun e w' => e = .returned (.int .i64 (IntKind.u16.wrap n)) ∧ w = w' := by
  go_enter Try.func21, Try.ntmps21
  go_wp2_with (first | (go_at_call 19; refine (rby4 _).mono ?_; rintro e w' ⟨rfl, rfl⟩) | (go_at_call 20; refine (rsg4 _).mono ?_; rintro e w' ⟨rfl, rfl⟩) | (go_at_call 29; refine (cut16u _ _).mono ?_; rintro e w' ⟨rfl, rfl⟩))
  go_ret
  exact ⟨one_int' (una16 n), rfl⟩
theorem shk5 (w : World) : Calls Try.prog 28 #[.int .i64 5] w fun e w' => e = .returned (.tuple #[.agg #[.int .i64 4, .bool true], .bool true]) ∧ w' = w.alloc (.cells #[.int .i64 4, .bool true] 42) := by
  go_enter Try.func28, Try.ntmps28
  go_wp2
  exact bodyPost_ret (v := .tuple #[.agg #[.int .i64 4, .bool true], .bool true]) (by simp [results, Try.results28, go_sem]) rfl ⟨rfl, rfl⟩
theorem by5 (w : World) : Calls Try.prog 15 #[.int .i64 5] w fun e w' => e = .returned (.tuple #[.int .i64 4, .int .i64 0]) ∧ Below w.heap.size w w' := by
  go_enter Try.func15, Try.ntmps15
  go_wp2_with (go_at_call 28; refine (shk5 _).mono ?_; rintro e w' ⟨rfl, rfl⟩)
  go_ret2
  exact ⟨rfl, ((Below.refl _ _).alloc (Nat.le_refl _) _).alloc (by simp) _⟩
theorem sg5 (w : World) : Calls Try.prog 16 #[.int .i64 5] w fun e w' => e = .returned (.tuple #[.bool true, .int .i64 0]) ∧ Below w.heap.size w w' := by
  go_enter Try.func16, Try.ntmps16
  go_wp2_with (go_at_call 28; refine (shk5 _).mono ?_; rintro e w' ⟨rfl, rfl⟩)
  go_ret2
  exact ⟨rfl, ((Below.refl _ _).alloc (Nat.le_refl _) _).alloc (by simp) _⟩
theorem rby5 (w : World) : Calls Try.prog 19 #[.int .i64 5] w fun e w' => e = .returned (.int .i64 4) ∧ w = w' := by
  go_enter Try.func19, Try.ntmps19
  go_wp2
  go_ret
  exact ⟨rfl, rfl⟩
theorem rsg5 (w : World) : Calls Try.prog 20 #[.int .i64 5] w fun e w' => e = .returned (.bool true) ∧ w = w' := by
  go_enter Try.func20, Try.ntmps20
  go_wp2
  go_ret
  exact ⟨rfl, rfl⟩
theorem rft5 (n : Int) (w : World) : Calls Try.prog 21 #[.int .i64 5, .int .i64 n] w fun e w' => e = .returned (.int .i64 (IntKind.i32.wrap n)) ∧ w = w' := by
  go_enter Try.func21, Try.ntmps21
  go_wp2_with (first | (go_at_call 19; refine (rby5 _).mono ?_; rintro e w' ⟨rfl, rfl⟩) | (go_at_call 20; refine (rsg5 _).mono ?_; rintro e w' ⟨rfl, rfl⟩) | (go_at_call 29; refine (cut32s _ _).mono ?_; rintro e w' ⟨rfl, rfl⟩))
  go_ret
  exact ⟨rfl, rfl⟩
theorem shk6 (w : World) : Calls Try.prog 28 #[.int .i64 6] w fun e w' => e = .returned (.tuple #[.agg #[.int .i64 4, .bool false], .bool true]) ∧ w' = w.alloc (.cells #[.int .i64 4, .bool false] 42) := by
  go_enter Try.func28, Try.ntmps28
  go_wp2
  exact bodyPost_ret (v := .tuple #[.agg #[.int .i64 4, .bool false], .bool true]) (by simp [results, Try.results28, go_sem]) rfl ⟨rfl, rfl⟩
theorem by6 (w : World) : Calls Try.prog 15 #[.int .i64 6] w fun e w' => e = .returned (.tuple #[.int .i64 4, .int .i64 0]) ∧ Below w.heap.size w w' := by
  go_enter Try.func15, Try.ntmps15
  go_wp2_with (go_at_call 28; refine (shk6 _).mono ?_; rintro e w' ⟨rfl, rfl⟩)
  go_ret2
  exact ⟨rfl, ((Below.refl _ _).alloc (Nat.le_refl _) _).alloc (by simp) _⟩
theorem sg6 (w : World) : Calls Try.prog 16 #[.int .i64 6] w fun e w' => e = .returned (.tuple #[.bool false, .int .i64 0]) ∧ Below w.heap.size w w' := by
  go_enter Try.func16, Try.ntmps16
  go_wp2_with (go_at_call 28; refine (shk6 _).mono ?_; rintro e w' ⟨rfl, rfl⟩)
  go_ret2
  exact ⟨rfl, ((Below.refl _ _).alloc (Nat.le_refl _) _).alloc (by simp) _⟩
theorem rby6 (w : World) : Calls Try.prog 19 #[.int .i64 6] w fun e w' => e = .returned (.int .i64 4) ∧ w = w' := by
  go_enter Try.func19, Try.ntmps19
  go_wp2
  go_ret
  exact ⟨rfl, rfl⟩
theorem rsg6 (w : World) : Calls Try.prog 20 #[.int .i64 6] w fun e w' => e = .returned (.bool false) ∧ w = w' := by
  go_enter Try.func20, Try.ntmps20
  go_wp2
  go_ret
  exact ⟨rfl, rfl⟩
theorem rft6 (n : Int) (w : World) : Calls Try.prog 21 #[.int .i64 6, .int .i64 n] w fun e w' => e = .returned (.int .i64 (IntKind.u32.wrap n)) ∧ w = w' := by
  go_enter Try.func21, Try.ntmps21
  go_wp2_with (first | (go_at_call 19; refine (rby6 _).mono ?_; rintro e w' ⟨rfl, rfl⟩) | (go_at_call 20; refine (rsg6 _).mono ?_; rintro e w' ⟨rfl, rfl⟩) | (go_at_call 29; refine (cut32u _ _).mono ?_; rintro e w' ⟨rfl, rfl⟩))
  go_ret
  exact ⟨one_int' (una32 n), rfl⟩
theorem shk7 (w : World) : Calls Try.prog 28 #[.int .i64 7] w fun e w' => e = .returned (.tuple #[.agg #[.int .i64 8, .bool true], .bool true]) ∧ w' = w.alloc (.cells #[.int .i64 8, .bool true] 42) := by
  go_enter Try.func28, Try.ntmps28
  go_wp2
  exact bodyPost_ret (v := .tuple #[.agg #[.int .i64 8, .bool true], .bool true]) (by simp [results, Try.results28, go_sem]) rfl ⟨rfl, rfl⟩
theorem by7 (w : World) : Calls Try.prog 15 #[.int .i64 7] w fun e w' => e = .returned (.tuple #[.int .i64 8, .int .i64 0]) ∧ Below w.heap.size w w' := by
  go_enter Try.func15, Try.ntmps15
  go_wp2_with (go_at_call 28; refine (shk7 _).mono ?_; rintro e w' ⟨rfl, rfl⟩)
  go_ret2
  exact ⟨rfl, ((Below.refl _ _).alloc (Nat.le_refl _) _).alloc (by simp) _⟩
theorem sg7 (w : World) : Calls Try.prog 16 #[.int .i64 7] w fun e w' => e = .returned (.tuple #[.bool true, .int .i64 0]) ∧ Below w.heap.size w w' := by
  go_enter Try.func16, Try.ntmps16
  go_wp2_with (go_at_call 28; refine (shk7 _).mono ?_; rintro e w' ⟨rfl, rfl⟩)
  go_ret2
  exact ⟨rfl, ((Below.refl _ _).alloc (Nat.le_refl _) _).alloc (by simp) _⟩
theorem rby7 (w : World) : Calls Try.prog 19 #[.int .i64 7] w fun e w' => e = .returned (.int .i64 8) ∧ w = w' := by
  go_enter Try.func19, Try.ntmps19
  go_wp2
  go_ret
  exact ⟨rfl, rfl⟩
theorem rsg7 (w : World) : Calls Try.prog 20 #[.int .i64 7] w fun e w' => e = .returned (.bool true) ∧ w = w' := by
  go_enter Try.func20, Try.ntmps20
  go_wp2
  go_ret
  exact ⟨rfl, rfl⟩
theorem rft7 (n : Int) (w : World) : Calls Try.prog 21 #[.int .i64 7, .int .i64 n] w fun e w' => e = .returned (.int .i64 n) ∧ w = w' := by
  go_enter Try.func21, Try.ntmps21
  go_wp2_with (first | (go_at_call 19; refine (rby7 _).mono ?_; rintro e w' ⟨rfl, rfl⟩))
  go_ret
  exact ⟨rfl, rfl⟩
theorem shk8 (w : World) : Calls Try.prog 28 #[.int .i64 8] w fun e w' => e = .returned (.tuple #[.agg #[.int .i64 8, .bool false], .bool true]) ∧ w' = w.alloc (.cells #[.int .i64 8, .bool false] 42) := by
  go_enter Try.func28, Try.ntmps28
  go_wp2
  exact bodyPost_ret (v := .tuple #[.agg #[.int .i64 8, .bool false], .bool true]) (by simp [results, Try.results28, go_sem]) rfl ⟨rfl, rfl⟩
theorem by8 (w : World) : Calls Try.prog 15 #[.int .i64 8] w fun e w' => e = .returned (.tuple #[.int .i64 8, .int .i64 0]) ∧ Below w.heap.size w w' := by
  go_enter Try.func15, Try.ntmps15
  go_wp2_with (go_at_call 28; refine (shk8 _).mono ?_; rintro e w' ⟨rfl, rfl⟩)
  go_ret2
  exact ⟨rfl, ((Below.refl _ _).alloc (Nat.le_refl _) _).alloc (by simp) _⟩
theorem sg8 (w : World) : Calls Try.prog 16 #[.int .i64 8] w fun e w' => e = .returned (.tuple #[.bool false, .int .i64 0]) ∧ Below w.heap.size w w' := by
  go_enter Try.func16, Try.ntmps16
  go_wp2_with (go_at_call 28; refine (shk8 _).mono ?_; rintro e w' ⟨rfl, rfl⟩)
  go_ret2
  exact ⟨rfl, ((Below.refl _ _).alloc (Nat.le_refl _) _).alloc (by simp) _⟩
theorem rby8 (w : World) : Calls Try.prog 19 #[.int .i64 8] w fun e w' => e = .returned (.int .i64 8) ∧ w = w' := by
  go_enter Try.func19, Try.ntmps19
  go_wp2
  go_ret
  exact ⟨rfl, rfl⟩
theorem rsg8 (w : World) : Calls Try.prog 20 #[.int .i64 8] w fun e w' => e = .returned (.bool false) ∧ w = w' := by
  go_enter Try.func20, Try.ntmps20
  go_wp2
  go_ret
  exact ⟨rfl, rfl⟩
theorem rft8 (n : Int) (w : World) : Calls Try.prog 21 #[.int .i64 8, .int .i64 n] w fun e w' => e = .returned (.int .i64 n) ∧ w = w' := by
  go_enter Try.func21, Try.ntmps21
  go_wp2_with (first | (go_at_call 19; refine (rby8 _).mono ?_; rintro e w' ⟨rfl, rfl⟩))
  go_ret
  exact ⟨rfl, rfl⟩
theorem shLow (q : Int) (h : q < 1) (w : World) : Calls Try.prog 28 #[.int .i64 q] w fun e w' => e = .returned (.tuple #[.agg #[.int .i64 0, .bool false], .bool false]) ∧ w' = w.alloc (.cells #[.int .i64 0, .bool false] 42) := by
  go_enter Try.func28, Try.ntmps28
  go_wp2
  exact bodyPost_ret (v := .tuple #[.agg #[.int .i64 0, .bool false], .bool false]) (by simp [results, Try.results28, go_sem]) rfl ⟨rfl, rfl⟩
theorem shHigh (q : Int) (h : 8 < q) (w : World) : Calls Try.prog 28 #[.int .i64 q] w fun e w' => e = .returned (.tuple #[.agg #[.int .i64 0, .bool false], .bool false]) ∧ w' = w.alloc (.cells #[.int .i64 0, .bool false] 42) := by
  go_enter Try.func28, Try.ntmps28
  go_wp2
  exact bodyPost_ret (v := .tuple #[.agg #[.int .i64 0, .bool false], .bool false]) (by simp [results, Try.results28, go_sem]) rfl ⟨rfl, rfl⟩
theorem shNo (q : Int) (h : ¬ (1 ≤ q ∧ q ≤ 8)) (w : World) : Calls Try.prog 28 #[.int .i64 q] w fun e w' => e = .returned (.tuple #[.agg #[.int .i64 0, .bool false], .bool false]) ∧ w' = w.alloc (.cells #[.int .i64 0, .bool false] 42) := by
  by_cases h1 : q < 1
  · exact shLow q h1 w
  · exact shHigh q (by omega) w
theorem byNo (q : Int) (h : ¬ (1 ≤ q ∧ q ≤ 8)) (w : World) : Calls Try.prog 15 #[.int .i64 q] w fun e w' => e = .returned (.tuple #[.int .i64 0, .int .i64 1]) ∧ Below w.heap.size w w' := by
  have C := fun W => Lib.hid (shNo q h W)
  clear h
  go_enter Try.func15, Try.ntmps15
  go_wp2_with (go_at_call 28; refine ((C _).out).mono ?_; rintro e w' ⟨rfl, rfl⟩)
  go_ret2
  exact ⟨rfl, ((Below.refl _ _).alloc (Nat.le_refl _) _).alloc (by simp) _⟩
theorem sgNo (q : Int) (h : ¬ (1 ≤ q ∧ q ≤ 8)) (w : World) : Calls Try.prog 16 #[.int .i64 q] w fun e w' => e = .returned (.tuple #[.bool false, .int .i64 1]) ∧ Below w.heap.size w w' := by
  have C := fun W => Lib.hid (shNo q h W)
  clear h
  go_enter Try.func16, Try.ntmps16
  go_wp2_with (go_at_call 28; refine ((C _).out).mono ?_; rintro e w' ⟨rfl, rfl⟩)
  go_ret2
  exact ⟨rfl, ((Below.refl _ _).alloc (Nat.le_refl _) _).alloc (by simp) _⟩
theorem ftLow (q n : Int) (h : q < 1) (w : World) : Calls Try.prog 17 #[.int .i64 q, .int .i64 n] w fun e w' => e = .returned (.tuple #[.int .i64 0, .int .i64 1]) ∧ w = w' := by
  go_enter Try.func17, Try.ntmps17
  go_wp2
  go_ret2
  exact ⟨rfl, rfl⟩
theorem ftHigh (q n : Int) (h : 8 < q) (w : World) : Calls Try.prog 17 #[.int .i64 q, .int .i64 n] w fun e w' => e = .returned (.tuple #[.int .i64 0, .int .i64 1]) ∧ w = w' := by
  go_enter Try.func17, Try.ntmps17
  go_wp2
  go_ret2
  exact ⟨rfl, rfl⟩
theorem ftNo (q n : Int) (h : ¬ (1 ≤ q ∧ q ≤ 8)) (w : World) : Calls Try.prog 17 #[.int .i64 q, .int .i64 n] w fun e w' => e = .returned (.tuple #[.int .i64 0, .int .i64 1]) ∧ w = w' := by
  by_cases h1 : q < 1
  · exact ftLow q n h1 w
  · exact ftHigh q n (by omega) w
theorem rkYes (q : Int) (h : 1 ≤ q ∧ q ≤ 8) (w : World) : Calls Try.prog 18 #[.int .i64 q] w fun e w' => e = .returned (.bool true) ∧ w = w' := by
  obtain ⟨h1, h2⟩ := h
  go_enter Try.func18, Try.ntmps18
  go_wp2
  go_ret
  exact ⟨rfl, rfl⟩
theorem rkNo (q : Int) (h : ¬ (1 ≤ q ∧ q ≤ 8)) (w : World) : Calls Try.prog 18 #[.int .i64 q] w fun e w' => e = .returned (.bool false) ∧ w = w' := by
  by_cases h1 : 1 ≤ q
  · have h2 : ¬ q ≤ 8 := fun h2 => h ⟨h1, h2⟩
    clear h
    go_enter Try.func18, Try.ntmps18
    go_wp2
    go_ret
    exact ⟨rfl, rfl⟩
  · clear h
    go_enter Try.func18, Try.ntmps18
    go_wp2
    go_ret
    exact ⟨rfl, rfl⟩
theorem byAny (q : Int) (h : 1 ≤ q ∧ q ≤ 8) (w : World) : Calls Try.prog 15 #[.int .i64 q] w fun e w' => e = .returned (.tuple #[.int .i64 (bytesV q), .int .i64 0]) ∧ Below w.heap.size w w' := by
  rcases kinds_of q h with rfl | rfl | rfl | rfl | rfl | rfl | rfl | rfl
  · exact by1 w
  · exact by2 w
  · exact by3 w
  · exact by4 w
  · exact by5 w
  · exact by6 w
  · exact by7 w
  · exact by8 w
theorem sgAny (q : Int) (h : 1 ≤ q ∧ q ≤ 8) (w : World) : Calls Try.prog 16 #[.int .i64 q] w fun e w' => e = .returned (.tuple #[.bool (signV q), .int .i64 0]) ∧ Below w.heap.size w w' := by
  rcases kinds_of q h with rfl | rfl | rfl | rfl | rfl | rfl | rfl | rfl
  · exact sg1 w
  · exact sg2 w
  · exact sg3 w
  · exact sg4 w
  · exact sg5 w
  · exact sg6 w
  · exact sg7 w
  · exact sg8 w
theorem ftAny (q n : Int) (h : 1 ≤ q ∧ q ≤ 8) (w : World) : Calls Try.prog 17 #[.int .i64 q, .int .i64 n] w fun e w' => e = .returned (.tuple #[.int .i64 (fitV q n), .int .i64 0]) ∧ w = w' := by
  rcases kinds_of q h with rfl | rfl | rfl | rfl | rfl | rfl | rfl | rfl
  · exact fit1 n w
  · exact fit2 n w
  · exact fit3 n w
  · exact fit4 n w
  · exact fit5 n w
  · exact fit6 n w
  · exact fit7 n w
  · exact fit8 n w
theorem rbyAny (q : Int) (h : 1 ≤ q ∧ q ≤ 8) (w : World) : Calls Try.prog 19 #[.int .i64 q] w fun e w' => e = .returned (.int .i64 (bytesV q)) ∧ w = w' := by
  rcases kinds_of q h with rfl | rfl | rfl | rfl | rfl | rfl | rfl | rfl
  · exact rby1 w
  · exact rby2 w
  · exact rby3 w
  · exact rby4 w
  · exact rby5 w
  · exact rby6 w
  · exact rby7 w
  · exact rby8 w
theorem rsgAny (q : Int) (h : 1 ≤ q ∧ q ≤ 8) (w : World) : Calls Try.prog 20 #[.int .i64 q] w fun e w' => e = .returned (.bool (signV q)) ∧ w = w' := by
  rcases kinds_of q h with rfl | rfl | rfl | rfl | rfl | rfl | rfl | rfl
  · exact rsg1 w
  · exact rsg2 w
  · exact rsg3 w
  · exact rsg4 w
  · exact rsg5 w
  · exact rsg6 w
  · exact rsg7 w
  · exact rsg8 w
theorem rftAny (q n : Int) (h : 1 ≤ q ∧ q ≤ 8) (w : World) : Calls Try.prog 21 #[.int .i64 q, .int .i64 n] w fun e w' => e = .returned (.int .i64 (fitV q n)) ∧ w = w' := by
  rcases kinds_of q h with rfl | rfl | rfl | rfl | rfl | rfl | rfl | rfl
  · exact rft1 n w
  · exact rft2 n w
  · exact rft3 n w
  · exact rft4 n w
  · exact rft5 n w
  · exact rft6 n w
  · exact rft7 n w
  · exact rft8 n w
end Go.Proofs.Ytcofedinjcagoaa
