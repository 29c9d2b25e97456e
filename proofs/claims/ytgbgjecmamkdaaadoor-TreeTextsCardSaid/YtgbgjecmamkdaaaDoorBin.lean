/-
  What the project's Bin and the page's own come to: the same numbers.
-/
import Derived.Test.YtgbgjecmamkdaaaDoorProg
import Derived.Test.YtgbgjecmamkdaaaDoorPlain
import Derived.WalkKit
import Derived.WalkLawsBesides
namespace Go.Proofs.YtgbgjecmamkdaaaDoor
open Go.RowKit
set_option linter.unusedVariables false
theorem two_ints {a b : Int} (h : a = b) (c : Int) : Ending.returned (.tuple #[.int .i64 a, .int .i64 c]) = .returned (.tuple #[.int .i64 b, .int .i64 c]) := by rw [h]
theorem one_int {a b : Int} (h : a = b) : Ending.returned (.int .i64 a) = .returned (.int .i64 b) := by rw [h]

theorem p12 (a b : Int) (w : World) : Calls Tryd.prog 42 #[.int .i64 12, .int .i64 a, .int .i64 b] w fun e w' => e = .returned (.tuple #[.int .i64 (wrap64 (a + b)), .int .i64 0]) ∧ w = w' := by
  go_enter Tryd.func42, Tryd.ntmps42
  go_wp2
  go_ret2
  exact ⟨rfl, rfl⟩

theorem r12 (a b : Int) (w : World) : Calls Tryd.prog 30 #[.int .i64 12, .int .i64 a, .int .i64 b] w fun e w' => e = .returned (.int .i64 (wrap64 (a + b))) ∧ w = w' := by
  go_enter Tryd.func30, Tryd.ntmps30
  go_wp2
  go_ret
  exact ⟨rfl, rfl⟩

theorem p13 (a b : Int) (w : World) : Calls Tryd.prog 42 #[.int .i64 13, .int .i64 a, .int .i64 b] w fun e w' => e = .returned (.tuple #[.int .i64 (wrap64 (a - b)), .int .i64 0]) ∧ w = w' := by
  go_enter Tryd.func42, Tryd.ntmps42
  go_wp2
  go_ret2
  exact ⟨rfl, rfl⟩

theorem r13 (a b : Int) (w : World) : Calls Tryd.prog 30 #[.int .i64 13, .int .i64 a, .int .i64 b] w fun e w' => e = .returned (.int .i64 (wrap64 (a - b))) ∧ w = w' := by
  go_enter Tryd.func30, Tryd.ntmps30
  go_wp2
  go_ret
  exact ⟨rfl, rfl⟩

theorem p14 (a b : Int) (w : World) : Calls Tryd.prog 42 #[.int .i64 14, .int .i64 a, .int .i64 b] w fun e w' => e = .returned (.tuple #[.int .i64 (wrap64 (a * b)), .int .i64 0]) ∧ w = w' := by
  go_enter Tryd.func42, Tryd.ntmps42
  go_wp2
  go_ret2
  exact ⟨rfl, rfl⟩

theorem r14 (a b : Int) (w : World) : Calls Tryd.prog 30 #[.int .i64 14, .int .i64 a, .int .i64 b] w fun e w' => e = .returned (.int .i64 (wrap64 (a * b))) ∧ w = w' := by
  go_enter Tryd.func30, Tryd.ntmps30
  go_wp2
  go_ret
  exact ⟨rfl, rfl⟩

theorem p19 (a b : Int) (w : World) : Calls Tryd.prog 42 #[.int .i64 19, .int .i64 a, .int .i64 b] w fun e w' => e = .returned (.tuple #[.int .i64 (bits .and .i64 a b), .int .i64 0]) ∧ w = w' := by
  go_enter Tryd.func42, Tryd.ntmps42
  go_wp2
  go_ret2
  exact ⟨rfl, rfl⟩

theorem r19 (a b : Int) (w : World) : Calls Tryd.prog 30 #[.int .i64 19, .int .i64 a, .int .i64 b] w fun e w' => e = .returned (.int .i64 (bits .and .i64 a b)) ∧ w = w' := by
  go_enter Tryd.func30, Tryd.ntmps30
  go_wp2
  go_ret
  exact ⟨rfl, rfl⟩

theorem p20 (a b : Int) (w : World) : Calls Tryd.prog 42 #[.int .i64 20, .int .i64 a, .int .i64 b] w fun e w' => e = .returned (.tuple #[.int .i64 (bits .or .i64 a b), .int .i64 0]) ∧ w = w' := by
  go_enter Tryd.func42, Tryd.ntmps42
  go_wp2
  go_ret2
  exact ⟨rfl, rfl⟩

theorem r20 (a b : Int) (w : World) : Calls Tryd.prog 30 #[.int .i64 20, .int .i64 a, .int .i64 b] w fun e w' => e = .returned (.int .i64 (bits .or .i64 a b)) ∧ w = w' := by
  go_enter Tryd.func30, Tryd.ntmps30
  go_wp2
  go_ret
  exact ⟨rfl, rfl⟩

theorem p21 (a b : Int) (w : World) : Calls Tryd.prog 42 #[.int .i64 21, .int .i64 a, .int .i64 b] w fun e w' => e = .returned (.tuple #[.int .i64 (bits .xor .i64 a b), .int .i64 0]) ∧ w = w' := by
  go_enter Tryd.func42, Tryd.ntmps42
  go_wp2
  go_ret2
  exact ⟨rfl, rfl⟩

theorem r21 (a b : Int) (w : World) : Calls Tryd.prog 30 #[.int .i64 21, .int .i64 a, .int .i64 b] w fun e w' => e = .returned (.int .i64 (bits .xor .i64 a b)) ∧ w = w' := by
  go_enter Tryd.func30, Tryd.ntmps30
  go_wp2
  go_ret
  exact ⟨rfl, rfl⟩

theorem p22 (a b : Int) (w : World) : Calls Tryd.prog 42 #[.int .i64 22, .int .i64 a, .int .i64 b] w fun e w' => e = .returned (.tuple #[.int .i64 (wrap64 (a * 2 ^ (b % 64).toNat)), .int .i64 0]) ∧ w = w' := by
  have e0 := u64_lo b
  have e1 := u64_mod64 b
  have e2 : 0 ≤ b % 64 := by omega
  have e3 : b % 64 < 64 := by omega
  go_enter Tryd.func42, Tryd.ntmps42
  go_wp2
  go_ret2
  exact ⟨rfl, rfl⟩

theorem r22 (a b : Int) (w : World) : Calls Tryd.prog 30 #[.int .i64 22, .int .i64 a, .int .i64 b] w fun e w' => e = .returned (.int .i64 (wrap64 (a * 2 ^ (b % 64).toNat))) ∧ w = w' := by
  have e1 := bits_and63 b
  have e2 : 0 ≤ b % 64 := by omega
  have e3 : b % 64 < 64 := by omega
  go_enter Tryd.func30, Tryd.ntmps30
  go_wp2
  go_ret
  exact ⟨rfl, rfl⟩

theorem p23 (a b : Int) (w : World) : Calls Tryd.prog 42 #[.int .i64 23, .int .i64 a, .int .i64 b] w fun e w' => e = .returned (.tuple #[.int .i64 (wrap64 (IntKind.u64.wrap a / 2 ^ (b % 64).toNat)), .int .i64 0]) ∧ w = w' := by
  have e0 := u64_lo b
  have e1 := u64_mod64 b
  have e2 : 0 ≤ b % 64 := by omega
  have e3 : b % 64 < 64 := by omega
  go_enter Tryd.func42, Tryd.ntmps42
  go_wp2
  go_ret2
  exact ⟨rfl, rfl⟩

theorem r23 (a b : Int) (w : World) : Calls Tryd.prog 30 #[.int .i64 23, .int .i64 a, .int .i64 b] w fun e w' => e = .returned (.int .i64 (wrap64 (IntKind.u64.wrap a / 2 ^ (b % 64).toNat))) ∧ w = w' := by
  have e1 := bits_and63 b
  have e2 : 0 ≤ b % 64 := by omega
  have e3 : b % 64 < 64 := by omega
  go_enter Tryd.func30, Tryd.ntmps30
  go_wp2
  go_ret
  exact ⟨rfl, rfl⟩

theorem p24 (a b : Int) (w : World) : Calls Tryd.prog 42 #[.int .i64 24, .int .i64 a, .int .i64 b] w fun e w' => e = .returned (.tuple #[.int .i64 (a / 2 ^ (b % 64).toNat), .int .i64 0]) ∧ w = w' := by
  have e0 := u64_lo b
  have e1 := u64_mod64 b
  have e2 : 0 ≤ b % 64 := by omega
  have e3 : b % 64 < 64 := by omega
  go_enter Tryd.func42, Tryd.ntmps42
  go_wp2
  go_ret2
  exact ⟨rfl, rfl⟩

theorem r24 (a b : Int) (w : World) : Calls Tryd.prog 30 #[.int .i64 24, .int .i64 a, .int .i64 b] w fun e w' => e = .returned (.int .i64 (a / 2 ^ (b % 64).toNat)) ∧ w = w' := by
  have e1 := bits_and63 b
  have e2 : 0 ≤ b % 64 := by omega
  have e3 : b % 64 < 64 := by omega
  go_enter Tryd.func30, Tryd.ntmps30
  go_wp2
  go_ret
  exact ⟨rfl, rfl⟩

theorem p15z (a b : Int) (hb : (b == 0) = true) (w : World) : Calls Tryd.prog 42 #[.int .i64 15, .int .i64 a, .int .i64 b] w fun e w' => e = .returned (.tuple #[.int .i64 (-1), .int .i64 0]) ∧ w = w' := by
  go_enter Tryd.func42, Tryd.ntmps42
  go_wp2
  go_ret2
  exact ⟨rfl, rfl⟩

theorem r15z (a b : Int) (hb : (b == 0) = true) (w : World) : Calls Tryd.prog 30 #[.int .i64 15, .int .i64 a, .int .i64 b] w fun e w' => e = .returned (.int .i64 (-1)) ∧ w = w' := by
  go_enter Tryd.func30, Tryd.ntmps30
  go_wp2
  go_ret
  exact ⟨rfl, rfl⟩

theorem p16z (a b : Int) (hb : (b == 0) = true) (w : World) : Calls Tryd.prog 42 #[.int .i64 16, .int .i64 a, .int .i64 b] w fun e w' => e = .returned (.tuple #[.int .i64 (-1), .int .i64 0]) ∧ w = w' := by
  go_enter Tryd.func42, Tryd.ntmps42
  go_wp2
  go_ret2
  exact ⟨rfl, rfl⟩

theorem r16z (a b : Int) (hb : (b == 0) = true) (w : World) : Calls Tryd.prog 30 #[.int .i64 16, .int .i64 a, .int .i64 b] w fun e w' => e = .returned (.int .i64 (-1)) ∧ w = w' := by
  go_enter Tryd.func30, Tryd.ntmps30
  go_wp2
  go_ret
  exact ⟨rfl, rfl⟩

theorem p17z (a b : Int) (hb : (b == 0) = true) (w : World) : Calls Tryd.prog 42 #[.int .i64 17, .int .i64 a, .int .i64 b] w fun e w' => e = .returned (.tuple #[.int .i64 (a), .int .i64 0]) ∧ w = w' := by
  go_enter Tryd.func42, Tryd.ntmps42
  go_wp2
  go_ret2
  exact ⟨rfl, rfl⟩

theorem r17z (a b : Int) (hb : (b == 0) = true) (w : World) : Calls Tryd.prog 30 #[.int .i64 17, .int .i64 a, .int .i64 b] w fun e w' => e = .returned (.int .i64 (a)) ∧ w = w' := by
  go_enter Tryd.func30, Tryd.ntmps30
  go_wp2
  go_ret
  exact ⟨rfl, rfl⟩

theorem p18z (a b : Int) (hb : (b == 0) = true) (w : World) : Calls Tryd.prog 42 #[.int .i64 18, .int .i64 a, .int .i64 b] w fun e w' => e = .returned (.tuple #[.int .i64 (a), .int .i64 0]) ∧ w = w' := by
  go_enter Tryd.func42, Tryd.ntmps42
  go_wp2
  go_ret2
  exact ⟨rfl, rfl⟩

theorem r18z (a b : Int) (hb : (b == 0) = true) (w : World) : Calls Tryd.prog 30 #[.int .i64 18, .int .i64 a, .int .i64 b] w fun e w' => e = .returned (.int .i64 (a)) ∧ w = w' := by
  go_enter Tryd.func30, Tryd.ntmps30
  go_wp2
  go_ret
  exact ⟨rfl, rfl⟩

theorem p15n (a b : Int) (hb : (b == 0) = false) (hn : ¬ b = 0) (w : World) : Calls Tryd.prog 42 #[.int .i64 15, .int .i64 a, .int .i64 b] w fun e w' => e = .returned (.tuple #[.int .i64 (wrap64 (a.tdiv b)), .int .i64 0]) ∧ w = w' := by
  go_enter Tryd.func42, Tryd.ntmps42
  go_wp2
  go_ret2
  exact ⟨rfl, rfl⟩

theorem r15n (a b : Int) (hb : (b == 0) = false) (hn : ¬ b = 0) (hm : (b == -1) = false) (w : World) : Calls Tryd.prog 30 #[.int .i64 15, .int .i64 a, .int .i64 b] w fun e w' => e = .returned (.int .i64 (wrap64 (a.tdiv b))) ∧ w = w' := by
  go_enter Tryd.func30, Tryd.ntmps30
  go_wp2
  go_ret
  exact ⟨rfl, rfl⟩

theorem p17n (a b : Int) (hb : (b == 0) = false) (hn : ¬ b = 0) (w : World) : Calls Tryd.prog 42 #[.int .i64 17, .int .i64 a, .int .i64 b] w fun e w' => e = .returned (.tuple #[.int .i64 (a.tmod b), .int .i64 0]) ∧ w = w' := by
  go_enter Tryd.func42, Tryd.ntmps42
  go_wp2
  go_ret2
  exact ⟨rfl, rfl⟩

theorem r17n (a b : Int) (hb : (b == 0) = false) (hn : ¬ b = 0) (hm : (b == -1) = false) (w : World) : Calls Tryd.prog 30 #[.int .i64 17, .int .i64 a, .int .i64 b] w fun e w' => e = .returned (.int .i64 (a.tmod b)) ∧ w = w' := by
  go_enter Tryd.func30, Tryd.ntmps30
  go_wp2
  go_ret
  exact ⟨rfl, rfl⟩

theorem r15m (a b : Int) (hb : (b == -1) = true) (ha : (a == -9223372036854775808) = true) (w : World) : Calls Tryd.prog 30 #[.int .i64 15, .int .i64 a, .int .i64 b] w fun e w' => e = .returned (.int .i64 (a)) ∧ w = w' := by
  go_enter Tryd.func30, Tryd.ntmps30
  go_wp2
  go_ret
  exact ⟨rfl, rfl⟩

theorem r15k (a : Int) (ha : (a == -9223372036854775808) = false) (w : World) : Calls Tryd.prog 30 #[.int .i64 15, .int .i64 a, .int .i64 (-1)] w fun e w' => e = .returned (.int .i64 (wrap64 (-a))) ∧ w = w' := by
  go_enter Tryd.func30, Tryd.ntmps30
  go_wp2
  go_ret
  exact ⟨rfl, rfl⟩

theorem r17m (a b : Int) (hb : (b == -1) = true) (w : World) : Calls Tryd.prog 30 #[.int .i64 17, .int .i64 a, .int .i64 b] w fun e w' => e = .returned (.int .i64 (0)) ∧ w = w' := by
  go_enter Tryd.func30, Tryd.ntmps30
  go_wp2
  go_ret
  exact ⟨rfl, rfl⟩

theorem p16n (a b : Int) (hb : (b == 0) = false) (hu : ¬ IntKind.u64.wrap b = 0) (w : World) : Calls Tryd.prog 42 #[.int .i64 16, .int .i64 a, .int .i64 b] w fun e w' => e = .returned (.tuple #[.int .i64 (wrap64 (IntKind.u64.wrap ((IntKind.u64.wrap a).tdiv (IntKind.u64.wrap b)))), .int .i64 0]) ∧ w = w' := by
  go_enter Tryd.func42, Tryd.ntmps42
  go_wp2
  go_ret2
  exact ⟨rfl, rfl⟩

theorem r16n (a b : Int) (hb : (b == 0) = false) (hu : ¬ IntKind.u64.wrap b = 0) (w : World) : Calls Tryd.prog 30 #[.int .i64 16, .int .i64 a, .int .i64 b] w fun e w' => e = .returned (.int .i64 (wrap64 (IntKind.u64.wrap ((IntKind.u64.wrap a).tdiv (IntKind.u64.wrap b))))) ∧ w = w' := by
  go_enter Tryd.func30, Tryd.ntmps30
  go_wp2
  go_ret
  exact ⟨rfl, rfl⟩

theorem p18n (a b : Int) (hb : (b == 0) = false) (hu : ¬ IntKind.u64.wrap b = 0) (w : World) : Calls Tryd.prog 42 #[.int .i64 18, .int .i64 a, .int .i64 b] w fun e w' => e = .returned (.tuple #[.int .i64 (wrap64 ((IntKind.u64.wrap a).tmod (IntKind.u64.wrap b))), .int .i64 0]) ∧ w = w' := by
  go_enter Tryd.func42, Tryd.ntmps42
  go_wp2
  go_ret2
  exact ⟨rfl, rfl⟩

theorem r18n (a b : Int) (hb : (b == 0) = false) (hu : ¬ IntKind.u64.wrap b = 0) (w : World) : Calls Tryd.prog 30 #[.int .i64 18, .int .i64 a, .int .i64 b] w fun e w' => e = .returned (.int .i64 (wrap64 ((IntKind.u64.wrap a).tmod (IntKind.u64.wrap b)))) ∧ w = w' := by
  go_enter Tryd.func30, Tryd.ntmps30
  go_wp2
  go_ret
  exact ⟨rfl, rfl⟩

theorem p25t (a b : Int) (h : (a == b) = true) (w : World) : Calls Tryd.prog 42 #[.int .i64 25, .int .i64 a, .int .i64 b] w fun e w' => e = .returned (.tuple #[.int .i64 (1), .int .i64 0]) ∧ w = w' := by
  go_enter Tryd.func42, Tryd.ntmps42
  go_wp2
  go_ret2
  exact ⟨rfl, rfl⟩

theorem p25f (a b : Int) (h : (a == b) = false) (w : World) : Calls Tryd.prog 42 #[.int .i64 25, .int .i64 a, .int .i64 b] w fun e w' => e = .returned (.tuple #[.int .i64 (0), .int .i64 0]) ∧ w = w' := by
  go_enter Tryd.func42, Tryd.ntmps42
  go_wp2
  go_ret2
  exact ⟨rfl, rfl⟩

theorem r25t (a b : Int) (h : (a == b) = true) (w : World) : Calls Tryd.prog 30 #[.int .i64 25, .int .i64 a, .int .i64 b] w fun e w' => e = .returned (.int .i64 (1)) ∧ w = w' := by
  go_enter Tryd.func30, Tryd.ntmps30
  go_wp2
  go_ret
  exact ⟨rfl, rfl⟩

theorem r25f (a b : Int) (h : (a == b) = false) (w : World) : Calls Tryd.prog 30 #[.int .i64 25, .int .i64 a, .int .i64 b] w fun e w' => e = .returned (.int .i64 (0)) ∧ w = w' := by
  go_enter Tryd.func30, Tryd.ntmps30
  go_wp2
  go_ret
  exact ⟨rfl, rfl⟩

theorem p26t (a b : Int) (h : (a == b) = true) (h2 : (a != b) = false) (w : World) : Calls Tryd.prog 42 #[.int .i64 26, .int .i64 a, .int .i64 b] w fun e w' => e = .returned (.tuple #[.int .i64 (0), .int .i64 0]) ∧ w = w' := by
  go_enter Tryd.func42, Tryd.ntmps42
  go_wp2
  go_ret2
  exact ⟨rfl, rfl⟩

theorem p26f (a b : Int) (h : (a == b) = false) (h2 : (a != b) = true) (w : World) : Calls Tryd.prog 42 #[.int .i64 26, .int .i64 a, .int .i64 b] w fun e w' => e = .returned (.tuple #[.int .i64 (1), .int .i64 0]) ∧ w = w' := by
  go_enter Tryd.func42, Tryd.ntmps42
  go_wp2
  go_ret2
  exact ⟨rfl, rfl⟩

theorem r26t (a b : Int) (h : (a == b) = true) (h2 : (a != b) = false) (w : World) : Calls Tryd.prog 30 #[.int .i64 26, .int .i64 a, .int .i64 b] w fun e w' => e = .returned (.int .i64 (0)) ∧ w = w' := by
  go_enter Tryd.func30, Tryd.ntmps30
  go_wp2
  go_ret
  exact ⟨rfl, rfl⟩

theorem r26f (a b : Int) (h : (a == b) = false) (h2 : (a != b) = true) (w : World) : Calls Tryd.prog 30 #[.int .i64 26, .int .i64 a, .int .i64 b] w fun e w' => e = .returned (.int .i64 (1)) ∧ w = w' := by
  go_enter Tryd.func30, Tryd.ntmps30
  go_wp2
  go_ret
  exact ⟨rfl, rfl⟩

theorem p27t (a b : Int) (h : (decide (a < b)) = true) (w : World) : Calls Tryd.prog 42 #[.int .i64 27, .int .i64 a, .int .i64 b] w fun e w' => e = .returned (.tuple #[.int .i64 (1), .int .i64 0]) ∧ w = w' := by
  go_enter Tryd.func42, Tryd.ntmps42
  go_wp2
  go_ret2
  exact ⟨rfl, rfl⟩

theorem p27f (a b : Int) (h : (decide (a < b)) = false) (w : World) : Calls Tryd.prog 42 #[.int .i64 27, .int .i64 a, .int .i64 b] w fun e w' => e = .returned (.tuple #[.int .i64 (0), .int .i64 0]) ∧ w = w' := by
  go_enter Tryd.func42, Tryd.ntmps42
  go_wp2
  go_ret2
  exact ⟨rfl, rfl⟩

theorem r27t (a b : Int) (h : (decide (a < b)) = true) (w : World) : Calls Tryd.prog 30 #[.int .i64 27, .int .i64 a, .int .i64 b] w fun e w' => e = .returned (.int .i64 (1)) ∧ w = w' := by
  go_enter Tryd.func30, Tryd.ntmps30
  go_wp2
  go_ret
  exact ⟨rfl, rfl⟩

theorem r27f (a b : Int) (h : (decide (a < b)) = false) (w : World) : Calls Tryd.prog 30 #[.int .i64 27, .int .i64 a, .int .i64 b] w fun e w' => e = .returned (.int .i64 (0)) ∧ w = w' := by
  go_enter Tryd.func30, Tryd.ntmps30
  go_wp2
  go_ret
  exact ⟨rfl, rfl⟩

theorem p28t (a b : Int) (h : (decide (IntKind.u64.wrap a < IntKind.u64.wrap b)) = true) (w : World) : Calls Tryd.prog 42 #[.int .i64 28, .int .i64 a, .int .i64 b] w fun e w' => e = .returned (.tuple #[.int .i64 (1), .int .i64 0]) ∧ w = w' := by
  go_enter Tryd.func42, Tryd.ntmps42
  go_wp2
  go_ret2
  exact ⟨rfl, rfl⟩

theorem p28f (a b : Int) (h : (decide (IntKind.u64.wrap a < IntKind.u64.wrap b)) = false) (w : World) : Calls Tryd.prog 42 #[.int .i64 28, .int .i64 a, .int .i64 b] w fun e w' => e = .returned (.tuple #[.int .i64 (0), .int .i64 0]) ∧ w = w' := by
  go_enter Tryd.func42, Tryd.ntmps42
  go_wp2
  go_ret2
  exact ⟨rfl, rfl⟩

theorem r28t (a b : Int) (h : (decide (IntKind.u64.wrap a < IntKind.u64.wrap b)) = true) (w : World) : Calls Tryd.prog 30 #[.int .i64 28, .int .i64 a, .int .i64 b] w fun e w' => e = .returned (.int .i64 (1)) ∧ w = w' := by
  go_enter Tryd.func30, Tryd.ntmps30
  go_wp2
  go_ret
  exact ⟨rfl, rfl⟩

theorem r28f (a b : Int) (h : (decide (IntKind.u64.wrap a < IntKind.u64.wrap b)) = false) (w : World) : Calls Tryd.prog 30 #[.int .i64 28, .int .i64 a, .int .i64 b] w fun e w' => e = .returned (.int .i64 (0)) ∧ w = w' := by
  go_enter Tryd.func30, Tryd.ntmps30
  go_wp2
  go_ret
  exact ⟨rfl, rfl⟩

theorem p29t (a b : Int) (h : (decide (a ≤ b)) = true) (w : World) : Calls Tryd.prog 42 #[.int .i64 29, .int .i64 a, .int .i64 b] w fun e w' => e = .returned (.tuple #[.int .i64 (1), .int .i64 0]) ∧ w = w' := by
  go_enter Tryd.func42, Tryd.ntmps42
  go_wp2
  go_ret2
  exact ⟨rfl, rfl⟩

theorem p29f (a b : Int) (h : (decide (a ≤ b)) = false) (w : World) : Calls Tryd.prog 42 #[.int .i64 29, .int .i64 a, .int .i64 b] w fun e w' => e = .returned (.tuple #[.int .i64 (0), .int .i64 0]) ∧ w = w' := by
  go_enter Tryd.func42, Tryd.ntmps42
  go_wp2
  go_ret2
  exact ⟨rfl, rfl⟩

theorem r29t (a b : Int) (h : (decide (a ≤ b)) = true) (w : World) : Calls Tryd.prog 30 #[.int .i64 29, .int .i64 a, .int .i64 b] w fun e w' => e = .returned (.int .i64 (1)) ∧ w = w' := by
  go_enter Tryd.func30, Tryd.ntmps30
  go_wp2
  go_ret
  exact ⟨rfl, rfl⟩

theorem r29f (a b : Int) (h : (decide (a ≤ b)) = false) (w : World) : Calls Tryd.prog 30 #[.int .i64 29, .int .i64 a, .int .i64 b] w fun e w' => e = .returned (.int .i64 (0)) ∧ w = w' := by
  go_enter Tryd.func30, Tryd.ntmps30
  go_wp2
  go_ret
  exact ⟨rfl, rfl⟩

theorem p30t (a b : Int) (h : (decide (IntKind.u64.wrap a ≤ IntKind.u64.wrap b)) = true) (w : World) : Calls Tryd.prog 42 #[.int .i64 30, .int .i64 a, .int .i64 b] w fun e w' => e = .returned (.tuple #[.int .i64 (1), .int .i64 0]) ∧ w = w' := by
  go_enter Tryd.func42, Tryd.ntmps42
  go_wp2
  go_ret2
  exact ⟨rfl, rfl⟩

theorem p30f (a b : Int) (h : (decide (IntKind.u64.wrap a ≤ IntKind.u64.wrap b)) = false) (w : World) : Calls Tryd.prog 42 #[.int .i64 30, .int .i64 a, .int .i64 b] w fun e w' => e = .returned (.tuple #[.int .i64 (0), .int .i64 0]) ∧ w = w' := by
  go_enter Tryd.func42, Tryd.ntmps42
  go_wp2
  go_ret2
  exact ⟨rfl, rfl⟩

theorem r30t (a b : Int) (h : (decide (IntKind.u64.wrap a ≤ IntKind.u64.wrap b)) = true) (w : World) : Calls Tryd.prog 30 #[.int .i64 30, .int .i64 a, .int .i64 b] w fun e w' => e = .returned (.int .i64 (1)) ∧ w = w' := by
  go_enter Tryd.func30, Tryd.ntmps30
  go_wp2
  go_ret
  exact ⟨rfl, rfl⟩

theorem r30f (a b : Int) (h : (decide (IntKind.u64.wrap a ≤ IntKind.u64.wrap b)) = false) (w : World) : Calls Tryd.prog 30 #[.int .i64 30, .int .i64 a, .int .i64 b] w fun e w' => e = .returned (.int .i64 (0)) ∧ w = w' := by
  go_enter Tryd.func30, Tryd.ntmps30
  go_wp2
  go_ret
  exact ⟨rfl, rfl⟩

end Go.Proofs.YtgbgjecmamkdaaaDoor
