/-
  What a pure tree comes to, plainly.
-/
import Derived.Test.YtgbgjecmamkdaaaDoorTrPlain
import Derived.Test.YtgbgjecmamkdaaaDoorBins
import Derived.Test.YtgbgjecmamkdaaaDoorUnAny
import Derived.Laws.BitsLemmas
namespace Go.Proofs.YtgbgjecmamkdaaaDoor
open Go.RowKit
set_option linter.unusedVariables false

def I64 (n : Int) : Prop := -9223372036854775808 ≤ n ∧ n ≤ 9223372036854775807
theorem I64.wf {n : Int} (h : I64 n) : (Lit.int .i64 n).wf = true := by
  obtain ⟨a, b⟩ := h
  simp [Lit.wf, IntKind.min, IntKind.max, IntKind.signed, IntKind.bits]
  omega
theorem I64.of_wf {n : Int} (h : (Lit.int .i64 n).wf = true) : I64 n := fits n h
theorem I64.wrap (n : Int) : I64 (wrap64 n) := I64.of_wf (wrap64_wf n)
def evalOf (op n : Int) : List Int → Int
  | [] => n
  | [a] => unV op a
  | a :: b :: _ => binV op a b
def evalL : Trs → List Int
  | .nil => []
  | .cons op n kids rest => evalOf op n (evalL kids) :: evalL rest
def evalT (t : Tr) : Int := evalOf t.op t.n (evalL t.kids)
theorem evalL_add (t : Tr) (r : Trs) : evalL (.add t r) = evalT t :: evalL r := rfl
theorem evalL_len : ∀ x : Trs, (evalL x).length = x.len := by
  intro x
  induction x with
  | nil => rfl
  | cons _ _ _ _ _ ih => simp [evalL, Trs.len, ih]
theorem evalL_get : ∀ (x : Trs) (k : Nat) (t : Tr), x.toL[k]? = some t → (evalL x)[k]? = some (evalT t) := by
  intro x
  induction x with
  | nil => intro k t h; simp [Trs.toL] at h
  | cons op n kids rest _ ih =>
    intro k t h
    cases k with
    | zero =>
      obtain rfl : (⟨op, n, kids⟩ : Tr) = t := by simpa [Trs.toL] using h
      rfl
    | succ k => exact ih k t (by simpa [Trs.toL] using h)
theorem I64.tmod {a b : Int} (h : I64 a) : I64 (a.tmod b) := by
  obtain ⟨h1, h2⟩ := h
  have e : (a.tmod b).natAbs = a.natAbs % b.natAbs := Int.natAbs_tmod a b
  have e2 : a.natAbs % b.natAbs ≤ a.natAbs := Nat.mod_le _ _
  rcases Int.lt_or_le a 0 with h0 | h0
  · have h3 : a.tmod b ≤ 0 := by
      have := Int.tmod_nonneg (a := -a) b (by omega)
      rw [Int.neg_tmod] at this
      omega
    exact ⟨by omega, by omega⟩
  · have h3 := Int.tmod_nonneg (a := a) b h0
    exact ⟨by omega, by omega⟩
theorem I64.ediv {a : Int} (h : I64 a) (k : Nat) : I64 (a / 2 ^ k) := by
  obtain ⟨h1, h2⟩ := h
  have hp : (0 : Int) < 2 ^ k := Int.pow_pos (by decide)
  rcases Int.lt_or_le a 0 with h0 | h0
  · have h3 : a / 2 ^ k < 0 := Int.ediv_neg_of_neg_of_pos h0 hp
    have h4 : a ≤ a / 2 ^ k := by
      refine Int.le_ediv_of_mul_le hp ?_
      have : a * (2 ^ k) ≤ a * 1 := Int.mul_le_mul_of_nonpos_left (by omega) (by omega)
      omega
    exact ⟨by omega, by omega⟩
  · have h3 : 0 ≤ a / 2 ^ k := Int.ediv_nonneg h0 (by omega)
    have h4 : a / 2 ^ k ≤ a := Int.ediv_le_self _ h0
    exact ⟨by omega, by omega⟩
theorem I64.bits (o : BinOp) (a b : Int) : I64 (bits o .i64 a b) := I64.of_wf (wf_bits _ _ _ _)
theorem I64.bool (p : Prop) [Decidable p] : I64 (if p then 1 else 0) := by split <;> exact ⟨by decide, by decide⟩
theorem bv (op a b c : Int) (h : binV op a b = c) (hc : I64 c) : I64 (binV op a b) := by rw [h]; exact hc
theorem binV_wf (op a b : Int) (h1 : 12 ≤ op) (h2 : op ≤ 30) (ha : I64 a) : I64 (binV op a b) := by
  rcases ops_of op h1 h2 with rfl | rfl | rfl | rfl | rfl | rfl | rfl | rfl | rfl | rfl | rfl | rfl | rfl | rfl | rfl | rfl | rfl | rfl | rfl
  · exact bv _ _ _ (wrap64 (a + b)) rfl (I64.wrap _)
  · exact bv _ _ _ (wrap64 (a - b)) rfl (I64.wrap _)
  · exact bv _ _ _ (wrap64 (a * b)) rfl (I64.wrap _)
  · rw [binV15]
    by_cases h : b = 0
    · rw [if_pos h]; exact ⟨by decide, by decide⟩
    · rw [if_neg h]; exact I64.wrap _
  · rw [binV16]
    by_cases h : b = 0
    · rw [if_pos h]; exact ⟨by decide, by decide⟩
    · rw [if_neg h]; exact I64.wrap _
  · rw [binV17]
    by_cases h : b = 0
    · rw [if_pos h]; exact ha
    · rw [if_neg h]; exact ha.tmod
  · rw [binV18]
    by_cases h : b = 0
    · rw [if_pos h]; exact ha
    · rw [if_neg h]; exact I64.wrap _
  · exact bv _ _ _ (Go.bits .and .i64 a b) rfl (I64.bits _ _ _)
  · exact bv _ _ _ (Go.bits .or .i64 a b) rfl (I64.bits _ _ _)
  · exact bv _ _ _ (Go.bits .xor .i64 a b) rfl (I64.bits _ _ _)
  · exact bv _ _ _ (wrap64 (a * 2 ^ (b % 64).toNat)) rfl (I64.wrap _)
  · exact bv _ _ _ (wrap64 (IntKind.u64.wrap a / 2 ^ (b % 64).toNat)) rfl (I64.wrap _)
  · exact bv _ _ _ (a / 2 ^ (b % 64).toNat) rfl (ha.ediv _)
  · rw [binV25]; exact I64.bool _
  · rw [binV26]
    by_cases h : a = b
    · rw [if_pos h]; exact ⟨by decide, by decide⟩
    · rw [if_neg h]; exact ⟨by decide, by decide⟩
  · rw [binV27]; exact I64.bool _
  · rw [binV28]; exact I64.bool _
  · rw [binV29]; exact I64.bool _
  · rw [binV30]; exact I64.bool _
theorem unV_wf (op a : Int) (h : 31 ≤ op ∧ op ≤ 36) : I64 (unV op a) := by
  rcases uns_of op h with rfl | rfl | rfl | rfl | rfl | rfl
  all_goals
    simp only [unV, I64, IntKind.wrap, IntKind.bits, IntKind.signed]
    simp
    omega
/-- Every number of these is one of 64 bits. -/
def wfL : Trs → Prop
  | .nil => True
  | .cons _ n kids rest => I64 n ∧ wfL kids ∧ wfL rest
theorem evalL_wf : ∀ x : Trs, okL x = true → pureL x = true → wfL x → ∀ v ∈ evalL x, I64 v := by
  intro x
  induction x with
  | nil => intro _ _ _ v h; cases h
  | cons op n kids rest ihk ihr =>
    intro ho hp hw v hv
    rw [okL] at ho
    rw [pureL] at hp
    simp only [Bool.and_eq_true] at ho hp
    obtain ⟨w1, w2, w3⟩ := hw
    rcases List.mem_cons.1 hv with rfl | hv
    · have hk := ihk ho.1.2 hp.1.2 w2
      have hop := node_op ho.1.1
      have hpo : ¬ (2 ≤ op ∧ op ≤ 11) := of_decide_eq_true hp.1.1
      have hlen := evalL_len kids
      have hl := hop.2.2
      unfold ariV at hl
      match he : evalL kids with
      | [] => exact w1
      | [a] =>
        rw [he] at hlen
        simp only [List.length_cons, List.length_nil] at hlen
        refine unV_wf op a ?_
        rw [← hlen] at hl
        repeat' split at hl
        all_goals omega
      | a :: b :: r =>
        rw [he] at hlen hk
        simp only [List.length_cons] at hlen
        rw [← hlen] at hl
        have : 12 ≤ op ∧ op ≤ 30 := by
          repeat' split at hl
          all_goals omega
        exact binV_wf op a b this.1 this.2 (hk a (by simp))
    · exact ihr ho.2 hp.2 w3 v hv
theorem evalT_wf (t : Tr) (ho : okT t = true) (hp : pureT t = true) (hn : I64 t.n) (hw : wfL t.kids) : I64 (evalT t) :=
  evalL_wf (.add t .nil) (by rw [okL_add, ho]; rfl) (by rw [pureL_add, hp]; rfl) ⟨hn, hw, trivial⟩ _ (by rw [evalL_add]; simp)
end Go.Proofs.YtgbgjecmamkdaaaDoor
