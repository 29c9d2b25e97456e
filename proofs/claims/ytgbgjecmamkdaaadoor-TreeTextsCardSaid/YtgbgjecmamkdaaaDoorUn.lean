/-
  What the project's Fit, Un and the page's own come to: the same numbers.
-/
import Derived.Test.YtgbgjecmamkdaaaDoorKinds
import Derived.Test.YtgbgjecmamkdaaaDoorPlain
import Derived.LoopTactic
import Derived.RegionTactic
import Derived.Deep.RegionWith
import Derived.OpenShut
import Derived.Deep.Draws
namespace Go.Proofs.YtgbgjecmamkdaaaDoor
open Go.RowKit
set_option linter.unusedVariables false
set_option maxRecDepth 100000

theorem two_ints' {a b : Int} (h : a = b) (c : Int) : Ending.returned (.tuple #[.int .i64 a, .int .i64 c]) = .returned (.tuple #[.int .i64 b, .int .i64 c]) := by rw [h]
theorem one_int' {a b : Int} (h : a = b) : Ending.returned (.int .i64 a) = .returned (.int .i64 b) := by rw [h]
theorem w_i8 (n : Int) : wrap64 (IntKind.i8.wrap n) = IntKind.i8.wrap n := by
  unfold wrap64
  simp only [IntKind.wrap, IntKind.bits, IntKind.signed]
  simp
  split <;> omega
theorem fit1 (n : Int) (w : World) : Calls Tryd.prog 59 #[.int .i64 1, .int .i64 n] w fun e w' => e = .returned (.tuple #[.int .i64 (IntKind.i8.wrap n), .int .i64 0]) ∧ w = w' := by
  go_enter Tryd.func59, Tryd.ntmps59
  go_wp2
  go_ret2
  exact ⟨two_ints' (w_i8 n) _, rfl⟩
theorem w_u8 (n : Int) : n % 256 = IntKind.u8.wrap n := by
  simp [IntKind.wrap, IntKind.bits, IntKind.signed]
theorem fit2 (n : Int) (w : World) : Calls Tryd.prog 59 #[.int .i64 2, .int .i64 n] w fun e w' => e = .returned (.tuple #[.int .i64 (IntKind.u8.wrap n), .int .i64 0]) ∧ w = w' := by
  go_enter Tryd.func59, Tryd.ntmps59
  go_wp2
  go_ret2
  exact ⟨two_ints' (w_u8 n) _, rfl⟩
theorem w_i16 (n : Int) : wrap64 (IntKind.i16.wrap n) = IntKind.i16.wrap n := by
  unfold wrap64
  simp only [IntKind.wrap, IntKind.bits, IntKind.signed]
  simp
  split <;> omega
theorem fit3 (n : Int) (w : World) : Calls Tryd.prog 59 #[.int .i64 3, .int .i64 n] w fun e w' => e = .returned (.tuple #[.int .i64 (IntKind.i16.wrap n), .int .i64 0]) ∧ w = w' := by
  go_enter Tryd.func59, Tryd.ntmps59
  go_wp2
  go_ret2
  exact ⟨two_ints' (w_i16 n) _, rfl⟩
theorem w_u16 (n : Int) : wrap64 (IntKind.u16.wrap n) = IntKind.u16.wrap n := by
  unfold wrap64
  simp only [IntKind.wrap, IntKind.bits, IntKind.signed]
  simp
  omega
theorem fit4 (n : Int) (w : World) : Calls Tryd.prog 59 #[.int .i64 4, .int .i64 n] w fun e w' => e = .returned (.tuple #[.int .i64 (IntKind.u16.wrap n), .int .i64 0]) ∧ w = w' := by
  go_enter Tryd.func59, Tryd.ntmps59
  go_wp2
  go_ret2
  exact ⟨two_ints' (w_u16 n) _, rfl⟩
theorem w_i32 (n : Int) : wrap64 (wrap32 n) = IntKind.i32.wrap n := by
  unfold wrap64 wrap32
  simp only [IntKind.wrap, IntKind.bits, IntKind.signed]
  simp
  split <;> omega
theorem fit5 (n : Int) (w : World) : Calls Tryd.prog 59 #[.int .i64 5, .int .i64 n] w fun e w' => e = .returned (.tuple #[.int .i64 (IntKind.i32.wrap n), .int .i64 0]) ∧ w = w' := by
  go_enter Tryd.func59, Tryd.ntmps59
  go_wp2
  go_ret2
  exact ⟨two_ints' (w_i32 n) _, rfl⟩
theorem w_u32 (n : Int) : n % 4294967296 = IntKind.u32.wrap n := by
  simp [IntKind.wrap, IntKind.bits, IntKind.signed]
theorem fit6 (n : Int) (w : World) : Calls Tryd.prog 59 #[.int .i64 6, .int .i64 n] w fun e w' => e = .returned (.tuple #[.int .i64 (IntKind.u32.wrap n), .int .i64 0]) ∧ w = w' := by
  go_enter Tryd.func59, Tryd.ntmps59
  go_wp2
  go_ret2
  exact ⟨two_ints' (w_u32 n) _, rfl⟩
theorem fit7 (n : Int) (w : World) : Calls Tryd.prog 59 #[.int .i64 7, .int .i64 n] w fun e w' => e = .returned (.tuple #[.int .i64 n, .int .i64 0]) ∧ w = w' := by
  go_enter Tryd.func59, Tryd.ntmps59
  go_wp2
  go_ret2
  exact ⟨rfl, rfl⟩
theorem fit8 (n : Int) (w : World) : Calls Tryd.prog 59 #[.int .i64 8, .int .i64 n] w fun e w' => e = .returned (.tuple #[.int .i64 n, .int .i64 0]) ∧ w = w' := by
  go_enter Tryd.func59, Tryd.ntmps59
  go_wp2
  go_ret2
  exact ⟨rfl, rfl⟩
theorem and8 (n : Int) : bits .and .u64 (IntKind.u64.wrap n) 255 = n % 256 := by
  have e : (BitVec.ofInt 64 (IntKind.u64.wrap n) &&& BitVec.ofInt 64 255).toNat = (n % 256).toNat := by
    rw [BitVec.toNat_and, BitVec.toNat_ofInt, BitVec.toNat_ofInt, u64_eq]
    have h : ((255 : Int) % ((2 ^ 64 : Nat) : Int)).toNat = 2 ^ 8 - 1 := by decide
    rw [h, Nat.and_two_pow_sub_one_eq_mod]
    omega
  show IntKind.u64.wrap (((BitVec.ofInt 64 (IntKind.u64.wrap n) &&& BitVec.ofInt 64 255).toNat : Nat) : Int) = _
  rw [e, u64_eq]
  omega
theorem or8 (n : Int) : bits .or .u64 (n % 256) 18446744073709551360 = n % 256 + 18446744073709551360 := by
  have e : (BitVec.ofInt 64 (n % 256) ||| BitVec.ofInt 64 18446744073709551360).toNat = (n % 256).toNat + 18446744073709551360 := by
    rw [BitVec.toNat_or, BitVec.toNat_ofInt, BitVec.toNat_ofInt]
    have h : ((18446744073709551360 : Int) % ((2 ^ 64 : Nat) : Int)).toNat = 2 ^ 8 * 72057594037927935 := by decide
    have h2 : (n % 256 % ((2 ^ 64 : Nat) : Int)).toNat = (n % 256).toNat := by omega
    rw [h, h2, Nat.or_comm, ← Nat.two_pow_add_eq_or_of_lt (by omega)]
    omega
  show IntKind.u64.wrap (((BitVec.ofInt 64 (n % 256) ||| BitVec.ofInt 64 18446744073709551360).toNat : Nat) : Int) = _
  rw [e, u64_eq]
  omega
theorem neg8 (n : Int) (h : (n % 256 / 128 == 1) = true) : wrap64 (n % 256 + 18446744073709551360) = IntKind.i8.wrap n := by
  have h' : n % 256 / 128 = 1 := by simpa using h
  unfold wrap64
  simp only [IntKind.wrap, IntKind.bits, IntKind.signed]
  simp
  split <;> omega
theorem pos8 (n : Int) (h : (n % 256 / 128 == 1) = false) : wrap64 (n % 256) = IntKind.i8.wrap n := by
  have h' : n % 256 / 128 ≠ 1 := by simpa using h
  unfold wrap64
  simp only [IntKind.wrap, IntKind.bits, IntKind.signed]
  simp
  split <;> omega
theorem una8 (n : Int) : wrap64 (n % 256) = IntKind.u8.wrap n := by
  unfold wrap64
  simp only [IntKind.wrap, IntKind.bits, IntKind.signed]
  simp
  omega
theorem cut8n (n : Int) (h : (n % 256 / 128 == 1) = true) (w : World) : Calls Tryd.prog 44 #[.int .i64 n, .int .i64 8, .bool true] w fun e w' => e = .returned (.int .i64 (wrap64 (n % 256 + 18446744073709551360))) ∧ w = w' := by
  have e1 := and8 n
  have e2 := or8 n
  have e5 : IntKind.u64.wrap 4722366482869645213440 = 18446744073709551360 := by decide
  have e3 : 0 ≤ n % 256 := by omega
  go_enter Tryd.func44, Tryd.ntmps44
  go_wp2
  go_ret
  exact ⟨rfl, rfl⟩
theorem cut8p (n : Int) (h : (n % 256 / 128 == 1) = false) (w : World) : Calls Tryd.prog 44 #[.int .i64 n, .int .i64 8, .bool true] w fun e w' => e = .returned (.int .i64 (wrap64 (n % 256))) ∧ w = w' := by
  have e1 := and8 n
  have e3 : 0 ≤ n % 256 := by omega
  have e4 : n % 256 < 256 := by omega
  go_enter Tryd.func44, Tryd.ntmps44
  go_wp2
  go_ret
  exact ⟨one_int' (by rw [IntWalk.wrap64_in]; omega), rfl⟩
theorem cut8u (n : Int) (w : World) : Calls Tryd.prog 44 #[.int .i64 n, .int .i64 8, .bool false] w fun e w' => e = .returned (.int .i64 (wrap64 (n % 256))) ∧ w = w' := by
  have e1 := and8 n
  have e3 : 0 ≤ n % 256 := by omega
  have e4 : n % 256 < 256 := by omega
  go_enter Tryd.func44, Tryd.ntmps44
  go_wp2
  go_ret
  exact ⟨one_int' (by rw [IntWalk.wrap64_in]; omega), rfl⟩
theorem cut8s (n : Int) (w : World) : Calls Tryd.prog 44 #[.int .i64 n, .int .i64 8, .bool true] w fun e w' => e = .returned (.int .i64 (IntKind.i8.wrap n)) ∧ w = w' := by
  cases h : (n % 256 / 128 == 1) with
  | true => rw [← neg8 n h]; exact cut8n n h w
  | false => rw [← pos8 n h]; exact cut8p n h w
theorem and16 (n : Int) : bits .and .u64 (IntKind.u64.wrap n) 65535 = n % 65536 := by
  have e : (BitVec.ofInt 64 (IntKind.u64.wrap n) &&& BitVec.ofInt 64 65535).toNat = (n % 65536).toNat := by
    rw [BitVec.toNat_and, BitVec.toNat_ofInt, BitVec.toNat_ofInt, u64_eq]
    have h : ((65535 : Int) % ((2 ^ 64 : Nat) : Int)).toNat = 2 ^ 16 - 1 := by decide
    rw [h, Nat.and_two_pow_sub_one_eq_mod]
    omega
  show IntKind.u64.wrap (((BitVec.ofInt 64 (IntKind.u64.wrap n) &&& BitVec.ofInt 64 65535).toNat : Nat) : Int) = _
  rw [e, u64_eq]
  omega
theorem or16 (n : Int) : bits .or .u64 (n % 65536) 18446744073709486080 = n % 65536 + 18446744073709486080 := by
  have e : (BitVec.ofInt 64 (n % 65536) ||| BitVec.ofInt 64 18446744073709486080).toNat = (n % 65536).toNat + 18446744073709486080 := by
    rw [BitVec.toNat_or, BitVec.toNat_ofInt, BitVec.toNat_ofInt]
    have h : ((18446744073709486080 : Int) % ((2 ^ 64 : Nat) : Int)).toNat = 2 ^ 16 * 281474976710655 := by decide
    have h2 : (n % 65536 % ((2 ^ 64 : Nat) : Int)).toNat = (n % 65536).toNat := by omega
    rw [h, h2, Nat.or_comm, ← Nat.two_pow_add_eq_or_of_lt (by omega)]
    omega
  show IntKind.u64.wrap (((BitVec.ofInt 64 (n % 65536) ||| BitVec.ofInt 64 18446744073709486080).toNat : Nat) : Int) = _
  rw [e, u64_eq]
  omega
theorem neg16 (n : Int) (h : (n % 65536 / 32768 == 1) = true) : wrap64 (n % 65536 + 18446744073709486080) = IntKind.i16.wrap n := by
  have h' : n % 65536 / 32768 = 1 := by simpa using h
  unfold wrap64
  simp only [IntKind.wrap, IntKind.bits, IntKind.signed]
  simp
  split <;> omega
theorem pos16 (n : Int) (h : (n % 65536 / 32768 == 1) = false) : wrap64 (n % 65536) = IntKind.i16.wrap n := by
  have h' : n % 65536 / 32768 ≠ 1 := by simpa using h
  unfold wrap64
  simp only [IntKind.wrap, IntKind.bits, IntKind.signed]
  simp
  split <;> omega
theorem una16 (n : Int) : wrap64 (n % 65536) = IntKind.u16.wrap n := by
  unfold wrap64
  simp only [IntKind.wrap, IntKind.bits, IntKind.signed]
  simp
  omega
theorem cut16n (n : Int) (h : (n % 65536 / 32768 == 1) = true) (w : World) : Calls Tryd.prog 44 #[.int .i64 n, .int .i64 16, .bool true] w fun e w' => e = .returned (.int .i64 (wrap64 (n % 65536 + 18446744073709486080))) ∧ w = w' := by
  have e1 := and16 n
  have e2 := or16 n
  have e5 : IntKind.u64.wrap 1208925819614629174640640 = 18446744073709486080 := by decide
  have e3 : 0 ≤ n % 65536 := by omega
  go_enter Tryd.func44, Tryd.ntmps44
  go_wp2
  go_ret
  exact ⟨rfl, rfl⟩
theorem cut16p (n : Int) (h : (n % 65536 / 32768 == 1) = false) (w : World) : Calls Tryd.prog 44 #[.int .i64 n, .int .i64 16, .bool true] w fun e w' => e = .returned (.int .i64 (wrap64 (n % 65536))) ∧ w = w' := by
  have e1 := and16 n
  have e3 : 0 ≤ n % 65536 := by omega
  have e4 : n % 65536 < 65536 := by omega
  go_enter Tryd.func44, Tryd.ntmps44
  go_wp2
  go_ret
  exact ⟨one_int' (by rw [IntWalk.wrap64_in]; omega), rfl⟩
theorem cut16u (n : Int) (w : World) : Calls Tryd.prog 44 #[.int .i64 n, .int .i64 16, .bool false] w fun e w' => e = .returned (.int .i64 (wrap64 (n % 65536))) ∧ w = w' := by
  have e1 := and16 n
  have e3 : 0 ≤ n % 65536 := by omega
  have e4 : n % 65536 < 65536 := by omega
  go_enter Tryd.func44, Tryd.ntmps44
  go_wp2
  go_ret
  exact ⟨one_int' (by rw [IntWalk.wrap64_in]; omega), rfl⟩
theorem cut16s (n : Int) (w : World) : Calls Tryd.prog 44 #[.int .i64 n, .int .i64 16, .bool true] w fun e w' => e = .returned (.int .i64 (IntKind.i16.wrap n)) ∧ w = w' := by
  cases h : (n % 65536 / 32768 == 1) with
  | true => rw [← neg16 n h]; exact cut16n n h w
  | false => rw [← pos16 n h]; exact cut16p n h w
theorem and32 (n : Int) : bits .and .u64 (IntKind.u64.wrap n) 4294967295 = n % 4294967296 := by
  have e : (BitVec.ofInt 64 (IntKind.u64.wrap n) &&& BitVec.ofInt 64 4294967295).toNat = (n % 4294967296).toNat := by
    rw [BitVec.toNat_and, BitVec.toNat_ofInt, BitVec.toNat_ofInt, u64_eq]
    have h : ((4294967295 : Int) % ((2 ^ 64 : Nat) : Int)).toNat = 2 ^ 32 - 1 := by decide
    rw [h, Nat.and_two_pow_sub_one_eq_mod]
    omega
  show IntKind.u64.wrap (((BitVec.ofInt 64 (IntKind.u64.wrap n) &&& BitVec.ofInt 64 4294967295).toNat : Nat) : Int) = _
  rw [e, u64_eq]
  omega
theorem or32 (n : Int) : bits .or .u64 (n % 4294967296) 18446744069414584320 = n % 4294967296 + 18446744069414584320 := by
  have e : (BitVec.ofInt 64 (n % 4294967296) ||| BitVec.ofInt 64 18446744069414584320).toNat = (n % 4294967296).toNat + 18446744069414584320 := by
    rw [BitVec.toNat_or, BitVec.toNat_ofInt, BitVec.toNat_ofInt]
    have h : ((18446744069414584320 : Int) % ((2 ^ 64 : Nat) : Int)).toNat = 2 ^ 32 * 4294967295 := by decide
    have h2 : (n % 4294967296 % ((2 ^ 64 : Nat) : Int)).toNat = (n % 4294967296).toNat := by omega
    rw [h, h2, Nat.or_comm, ← Nat.two_pow_add_eq_or_of_lt (by omega)]
    omega
  show IntKind.u64.wrap (((BitVec.ofInt 64 (n % 4294967296) ||| BitVec.ofInt 64 18446744069414584320).toNat : Nat) : Int) = _
  rw [e, u64_eq]
  omega
theorem neg32 (n : Int) (h : (n % 4294967296 / 2147483648 == 1) = true) : wrap64 (n % 4294967296 + 18446744069414584320) = IntKind.i32.wrap n := by
  have h' : n % 4294967296 / 2147483648 = 1 := by simpa using h
  unfold wrap64
  simp only [IntKind.wrap, IntKind.bits, IntKind.signed]
  simp
  split <;> omega
theorem pos32 (n : Int) (h : (n % 4294967296 / 2147483648 == 1) = false) : wrap64 (n % 4294967296) = IntKind.i32.wrap n := by
  have h' : n % 4294967296 / 2147483648 ≠ 1 := by simpa using h
  unfold wrap64
  simp only [IntKind.wrap, IntKind.bits, IntKind.signed]
  simp
  split <;> omega
theorem una32 (n : Int) : wrap64 (n % 4294967296) = IntKind.u32.wrap n := by
  unfold wrap64
  simp only [IntKind.wrap, IntKind.bits, IntKind.signed]
  simp
  omega
theorem cut32n (n : Int) (h : (n % 4294967296 / 2147483648 == 1) = true) (w : World) : Calls Tryd.prog 44 #[.int .i64 n, .int .i64 32, .bool true] w fun e w' => e = .returned (.int .i64 (wrap64 (n % 4294967296 + 18446744069414584320))) ∧ w = w' := by
  have e1 := and32 n
  have e2 := or32 n
  have e5 : IntKind.u64.wrap 79228162514264337589248983040 = 18446744069414584320 := by decide
  have e3 : 0 ≤ n % 4294967296 := by omega
  go_enter Tryd.func44, Tryd.ntmps44
  go_wp2
  go_ret
  exact ⟨rfl, rfl⟩
theorem cut32p (n : Int) (h : (n % 4294967296 / 2147483648 == 1) = false) (w : World) : Calls Tryd.prog 44 #[.int .i64 n, .int .i64 32, .bool true] w fun e w' => e = .returned (.int .i64 (wrap64 (n % 4294967296))) ∧ w = w' := by
  have e1 := and32 n
  have e3 : 0 ≤ n % 4294967296 := by omega
  have e4 : n % 4294967296 < 4294967296 := by omega
  go_enter Tryd.func44, Tryd.ntmps44
  go_wp2
  go_ret
  exact ⟨one_int' (by rw [IntWalk.wrap64_in]; omega), rfl⟩
theorem cut32u (n : Int) (w : World) : Calls Tryd.prog 44 #[.int .i64 n, .int .i64 32, .bool false] w fun e w' => e = .returned (.int .i64 (wrap64 (n % 4294967296))) ∧ w = w' := by
  have e1 := and32 n
  have e3 : 0 ≤ n % 4294967296 := by omega
  have e4 : n % 4294967296 < 4294967296 := by omega
  go_enter Tryd.func44, Tryd.ntmps44
  go_wp2
  go_ret
  exact ⟨one_int' (by rw [IntWalk.wrap64_in]; omega), rfl⟩
theorem cut32s (n : Int) (w : World) : Calls Tryd.prog 44 #[.int .i64 n, .int .i64 32, .bool true] w fun e w' => e = .returned (.int .i64 (IntKind.i32.wrap n)) ∧ w = w' := by
  cases h : (n % 4294967296 / 2147483648 == 1) with
  | true => rw [← neg32 n h]; exact cut32n n h w
  | false => rw [← pos32 n h]; exact cut32p n h w
end Go.Proofs.YtgbgjecmamkdaaaDoor
