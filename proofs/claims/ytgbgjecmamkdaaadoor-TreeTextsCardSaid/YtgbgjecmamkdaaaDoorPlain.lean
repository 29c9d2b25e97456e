/-
  Numbers of 64 bits, plainly: what each op of two numbers comes to, and small facts on wraps. Nothing of Go.
-/
import Derived.WalkKit
namespace Go.Proofs.YtgbgjecmamkdaaaDoor
open Go.RowKit

theorem u64_eq (b : Int) : IntKind.u64.wrap b = b % 18446744073709551616 := by
  simp [IntKind.wrap, IntKind.bits, IntKind.signed]
theorem u64_lo (b : Int) : 0 ≤ IntKind.u64.wrap b := by rw [u64_eq]; omega
theorem u64_mod64 (b : Int) : IntKind.u64.wrap b % 64 = b % 64 := by rw [u64_eq]; omega
theorem bits_and63 (b : Int) : bits .and .u64 (IntKind.u64.wrap b) 63 = b % 64 := by
  have e : (BitVec.ofInt 64 (IntKind.u64.wrap b) &&& BitVec.ofInt 64 63).toNat = (b % 64).toNat := by
    rw [BitVec.toNat_and, BitVec.toNat_ofInt, BitVec.toNat_ofInt, u64_eq]
    have h : ((63 : Int) % ((2 ^ 64 : Nat) : Int)).toNat = 2 ^ 6 - 1 := by decide
    rw [h, Nat.and_two_pow_sub_one_eq_mod]
    omega
  show IntKind.u64.wrap (((BitVec.ofInt 64 (IntKind.u64.wrap b) &&& BitVec.ofInt 64 63).toNat : Nat) : Int) = _
  rw [e, u64_eq]
  omega
theorem fits (b : Int) (h : (Lit.int .i64 b).wf = true) : -9223372036854775808 ≤ b ∧ b ≤ 9223372036854775807 := by
  simpa [Lit.wf, IntKind.min, IntKind.max, IntKind.signed, IntKind.bits] using h
theorem u64_nz (b : Int) (h : (Lit.int .i64 b).wf = true) (h0 : (b == 0) = false) : (IntKind.u64.wrap b == 0) = false := by
  have := fits b h
  have h0' : b ≠ 0 := by simpa using h0
  have : IntKind.u64.wrap b ≠ 0 := by rw [u64_eq]; omega
  simpa using this

/-- What each op of two numbers comes to. -/
def binV : Int → Int → Int → Int
  | 12, a, b => wrap64 (a + b)
  | 13, a, b => wrap64 (a - b)
  | 14, a, b => wrap64 (a * b)
  | 15, a, b => if b = 0 then -1 else wrap64 (a.tdiv b)
  | 16, a, b => if b = 0 then -1 else wrap64 (IntKind.u64.wrap ((IntKind.u64.wrap a).tdiv (IntKind.u64.wrap b)))
  | 17, a, b => if b = 0 then a else a.tmod b
  | 18, a, b => if b = 0 then a else wrap64 ((IntKind.u64.wrap a).tmod (IntKind.u64.wrap b))
  | 19, a, b => bits .and .i64 a b
  | 20, a, b => bits .or .i64 a b
  | 21, a, b => bits .xor .i64 a b
  | 22, a, b => wrap64 (a * 2 ^ (b % 64).toNat)
  | 23, a, b => wrap64 (IntKind.u64.wrap a / 2 ^ (b % 64).toNat)
  | 24, a, b => a / 2 ^ (b % 64).toNat
  | 25, a, b => if a = b then 1 else 0
  | 26, a, b => if a = b then 0 else 1
  | 27, a, b => if a < b then 1 else 0
  | 28, a, b => if IntKind.u64.wrap a < IntKind.u64.wrap b then 1 else 0
  | 29, a, b => if a ≤ b then 1 else 0
  | 30, a, b => if IntKind.u64.wrap a ≤ IntKind.u64.wrap b then 1 else 0
  | _, _, _ => 0
section
variable (a b : Int)
theorem binV15 : binV 15 a b = if b = 0 then -1 else wrap64 (a.tdiv b) := rfl
theorem binV16 : binV 16 a b = if b = 0 then -1 else wrap64 (IntKind.u64.wrap ((IntKind.u64.wrap a).tdiv (IntKind.u64.wrap b))) := rfl
theorem binV17 : binV 17 a b = if b = 0 then a else a.tmod b := rfl
theorem binV18 : binV 18 a b = if b = 0 then a else wrap64 ((IntKind.u64.wrap a).tmod (IntKind.u64.wrap b)) := rfl
theorem binV25 : binV 25 a b = if a = b then 1 else 0 := rfl
theorem binV26 : binV 26 a b = if a = b then 0 else 1 := rfl
theorem binV27 : binV 27 a b = if a < b then 1 else 0 := rfl
theorem binV28 : binV 28 a b = if IntKind.u64.wrap a < IntKind.u64.wrap b then 1 else 0 := rfl
theorem binV29 : binV 29 a b = if a ≤ b then 1 else 0 := rfl
theorem binV30 : binV 30 a b = if IntKind.u64.wrap a ≤ IntKind.u64.wrap b then 1 else 0 := rfl
theorem div_least (hb : b = -1) (ha : a = -9223372036854775808) : wrap64 (a.tdiv b) = a := by subst hb; subst ha; unfold wrap64; decide
theorem div_minus (hb : b = -1) : wrap64 (a.tdiv b) = wrap64 (-a) := by subst hb; rw [Int.tdiv_neg, Int.tdiv_one]
theorem rem_minus (hb : b = -1) : a.tmod b = 0 := by subst hb; rw [Int.tmod_neg, Int.tmod_one]
end
end Go.Proofs.YtgbgjecmamkdaaaDoor
