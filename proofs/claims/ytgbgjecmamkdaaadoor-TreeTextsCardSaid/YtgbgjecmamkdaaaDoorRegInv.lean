/-
  A region that draws its order, by what holds of whatever has come up so far: nothing of the program.
-/
import Derived.Orders
import Derived.WalkKit
namespace Go.Proofs.YtgbgjecmamkdaaaDoor
open Go.RowKit
set_option linter.unusedVariables false
set_option linter.unusedSimpArgs false

/-- So many are left. -/
def leftOf (n : Nat) (listed : Array Bool) : Nat := ((List.range n).filter fun i => !listed.getD i true).length

theorem filter_less (l : List Nat) (p q : Nat → Bool) (h : ∀ i, q i = true → p i = true) (i : Nat) (hi : i ∈ l) (hp : p i = true) (hq : q i = false) : (l.filter q).length < (l.filter p).length := by
  have hle : ∀ m : List Nat, (m.filter q).length ≤ (m.filter p).length := by
    intro m
    induction m with
    | nil => simp
    | cons x m ih =>
      by_cases e : q x = true
      · simp [List.filter_cons, e, h x e]; exact ih
      · by_cases e2 : p x = true
        · simp [List.filter_cons, e, e2]; omega
        · simp [List.filter_cons, e, e2]; exact ih
  induction l with
  | nil => cases hi
  | cons x m ih =>
    rcases List.mem_cons.1 hi with rfl | hm
    · have := hle m
      simp [List.filter_cons, hp, hq]; omega
    · have := ih hm
      by_cases e : q x = true
      · simp [List.filter_cons, e, h x e]; exact this
      · by_cases e2 : p x = true
        · simp [List.filter_cons, e, e2]; omega
        · simp [List.filter_cons, e, e2]; exact this

section
variable {P : Program} {ops : Array Oper} {Q : Exit → Act → World → Prop} {md : Region.Mode}
theorem ready_spec {listed : Array Bool} {i : Nat} (h : i ∈ Region.ready md ops listed) : i < ops.size ∧ listed.getD i true = false ∧ ∃ o, ops[i]? = some o ∧ ∀ e ∈ o.after.toList, Region.binds md e = true → listed.getD e.on false = true := by
  simp only [Region.ready, List.mem_filter, List.mem_range, Bool.and_eq_true, Bool.not_eq_true'] at h
  obtain ⟨h1, h2, h3⟩ := h
  refine ⟨h1, h2, ?_⟩
  cases ho : ops[i]? with
  | none => simp [ho] at h3
  | some o =>
    refine ⟨o, rfl, fun e he hb => ?_⟩
    simp only [ho, Option.map_some, Option.getD_some, Array.all_eq_true_iff_forall_mem] at h3
    have := h3 e (by simpa using he)
    simpa [hb] using this

theorem left_step {listed : Array Bool} {i n : Nat} (hi : i < n) (hl : listed.getD i true = false) : leftOf n (listed.setIfInBounds i true) < leftOf n listed := by
  have hsz : i < listed.size := by
    rcases Nat.lt_or_ge i listed.size with h | h
    · exact h
    · simp [Array.getD, Nat.not_lt.2 h] at hl
  refine filter_less _ _ _ ?_ i (by simpa using hi) (by simp [hl]) ?_
  · intro j hj
    by_cases e : i = j
    · subst e; simp [hl]
    · simpa [Array.getD_eq_getD_getElem?, Array.getElem?_setIfInBounds, e] using hj
  · simp [Array.getD_eq_getD_getElem?, Array.getElem?_setIfInBounds, hsz]

theorem ready_none {listed : Array Bool} (h : leftOf ops.size listed = 0) : Region.ready md ops listed = [] := by
  have h' : (List.range ops.size).filter (fun i => !listed.getD i true) = [] := List.eq_nil_of_length_eq_zero h
  rw [List.filter_eq_nil_iff] at h'
  unfold Region.ready
  rw [List.filter_eq_nil_iff]
  intro i hi
  have := h' i hi
  intro hc
  simp only [Bool.and_eq_true] at hc
  exact this hc.1

theorem wpAny_inv (I : Array Bool → Act → World → Prop)
    (hstep : ∀ listed a w, I listed a w → ∀ i ∈ Region.ready md ops listed, wpOp P ops Q i (I (listed.setIfInBounds i true)) a w)
    (hend : ∀ listed a w, I listed a w → Region.ready md ops listed = [] → Q .normal a w) :
    ∀ fuel listed a w, leftOf ops.size listed ≤ fuel → I listed a w → wpAny P md ops Q fuel listed a w := by
  intro fuel
  induction fuel with
  | zero =>
    intro listed a w hl h
    have hr : Region.ready md ops listed = [] := ready_none (by omega)
    exact ⟨hr, hend _ _ _ h hr⟩
  | succ fuel ih =>
    intro listed a w hl h
    refine ⟨hend _ _ _ h, fun i hi => ?_⟩
    obtain ⟨h1, h2, _⟩ := ready_spec hi
    have := left_step h1 h2
    exact wpOp_mono (fun a' w' h' => ih _ a' w' (by omega) h') (hstep _ _ _ h i hi)

/-- A region that draws its order: what holds ahead of it, and stays with each operation that may come next, holds behind it. -/
theorem wp_region_inv {id : Nat} {a : Act} {w : World} (hm : P.follows .mixedOrders = true) (I : Array Bool → Act → World → Prop)
    (h0 : I (Array.replicate ops.size false) a w.drew)
    (hstep : ∀ listed a w, I listed a w → ∀ i ∈ Region.ready .any ops listed, wpOp P ops Q i (I (listed.setIfInBounds i true)) a w)
    (hend : ∀ listed a w, I listed a w → Region.ready .any ops listed = [] → Q .normal a w) : (Code.region id ops true).wp P Q a w := by
  refine wp_region_any hm (wpAny_inv I hstep hend _ _ _ _ ?_ h0)
  unfold leftOf
  exact Nat.le_trans (List.length_filter_le _ _) (by simp)
end
end Go.Proofs.YtgbgjecmamkdaaaDoor
