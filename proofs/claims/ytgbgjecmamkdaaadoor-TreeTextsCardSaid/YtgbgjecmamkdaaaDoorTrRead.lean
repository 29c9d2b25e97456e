/-
  How a text is read back, plainly: words, what stands ahead of a sign, numbers.
-/
import Derived.Test.YtgbgjecmamkdaaaDoorTrTxt
import Derived.Lib.IndexMore
import Derived.Lib.ParseIntB
import Derived.Lib.ItoaNum
namespace Go.Proofs.YtgbgjecmamkdaaaDoor
set_option linter.unusedVariables false

/-- A word's label: its first seven bytes, with zeros behind it. -/
def mark7 (l : List UInt8) : List UInt8 := [l.getD 0 0, l.getD 1 0, l.getD 2 0, l.getD 3 0, l.getD 4 0, l.getD 5 0, l.getD 6 0]
/-- The op of a label among the first k. -/
def opK : Nat → List UInt8 → Int
  | 0, _ => 0
  | k + 1, m => if mark7 (wordV ((k + 1 : Nat) : Int)) = m then ((k + 1 : Nat) : Int) else opK k m
theorem opK_bd : ∀ (k : Nat) (m : List UInt8), 0 ≤ opK k m ∧ opK k m ≤ k := by
  intro k
  induction k with
  | zero => intro m; exact ⟨Int.le_refl _, Int.le_refl _⟩
  | succ k ih =>
    intro m
    rw [opK]
    split
    · omega
    · have := ih m; omega
theorem opK_word (o : Nat) (h1 : 1 ≤ o) (h2 : o ≤ 36) : opK 36 (mark7 (wordV (o : Int))) = o := by
  have h : ∀ k ∈ List.range 37, 1 ≤ k → opK 36 (mark7 (wordV (k : Int))) = (k : Int) := by decide +kernel
  exact h o (List.mem_range.2 (by omega)) h1
theorem word_paren (o : Nat) (h2 : o ≤ 36) : ∀ b ∈ wordV (o : Int), b ≠ 40 := by
  have h : ∀ k ∈ List.range 37, ∀ b ∈ wordV (k : Int), b ≠ 40 := by decide +kernel
  exact h o (List.mem_range.2 (by omega))
/-! What stands ahead of a sign. -/
theorem index_here (sep r : List UInt8) : Lib.index (sep ++ r) sep = 0 := by
  refine Lib.index_first (i := 0) (Nat.zero_le _) ?_ (fun _ h => absurd h (Nat.not_lt_zero _))
  simp [Lib.occAt]
theorem cut_here (sep r : List UInt8) : Lib.cut (sep ++ r) sep = ([], r, true) := by
  unfold Lib.cut
  rw [index_here, if_pos (Int.le_refl _)]
  simp
theorem index_one (a r : List UInt8) (c : UInt8) (h : ∀ b ∈ a, b ≠ c) : Lib.index (a ++ c :: r) [c] = a.length := by
  refine Lib.index_first (by simp) ?_ ?_
  · simp [Lib.occAt]
  · intro j hj
    unfold Lib.occAt
    have : (a ++ c :: r).drop j = a[j] :: (a ++ c :: r).drop (j + 1) := by
      rw [List.drop_eq_getElem_cons (by simp; omega)]
      congr 1
      rw [List.getElem_append_left hj]
    rw [this]
    have hne : a[j] ≠ c := h _ (List.getElem_mem _)
    simp [List.isPrefixOf]
    exact fun e => hne e.symm
theorem cut_one (a r : List UInt8) (c : UInt8) (h : ∀ b ∈ a, b ≠ c) : Lib.cut (a ++ c :: r) [c] = (a, r, true) := by
  unfold Lib.cut
  rw [index_one a r c h, if_pos (by omega)]
  have e : ((a.length : Int)).toNat = a.length := by omega
  rw [e]
  simp
/-- What is left is no longer. -/
theorem cut_len (s sep : List UInt8) : (Lib.cut s sep).1.length ≤ s.length ∧ (Lib.cut s sep).2.1.length ≤ s.length := by
  unfold Lib.cut
  split
  · simp
    omega
  · simp
/-! Numbers. -/
theorem digits_bd (u : Nat) : ∀ b ∈ Lib.decDigits u, 48 ≤ b.toNat ∧ b.toNat ≤ 57 := by
  induction u using Nat.strongRecOn with
  | _ u ih =>
    intro b hb
    rw [Lib.decDigits] at hb
    by_cases h : u < 10
    · rw [dif_pos h] at hb
      obtain rfl : b = UInt8.ofNat (48 + u) := by simpa using hb
      rw [UInt8.toNat_ofNat']
      omega
    · rw [dif_neg h] at hb
      rcases List.mem_append.1 hb with hb | hb
      · exact ih (u / 10) (by omega) b hb
      · obtain rfl : b = UInt8.ofNat (48 + u % 10) := by simpa using hb
        rw [UInt8.toNat_ofNat']
        omega
theorem itoa_paren (n : Int) : ∀ b ∈ Lib.itoa n, b ≠ 41 := by
  intro b hb e
  subst e
  unfold Lib.itoa at hb
  split at hb
  · rcases List.mem_cons.1 hb with h | h
    · cases h
    · have := digits_bd _ _ h
      simp at this
  · have := digits_bd _ _ hb
    simp at this
theorem parse_snoc (M : Nat) : ∀ (l : List UInt8) (acc v : Nat) (c : UInt8), Lib.parseUintM M acc l = .ok v → Lib.parseUintM M acc (l ++ [c]) = Lib.parseUintM M v [c] := by
  intro l
  induction l with
  | nil =>
    intro acc v c h
    simp only [Lib.parseUintM] at h
    injection h with h
    rw [h]; rfl
  | cons a r ih =>
    intro acc v c h
    rw [List.cons_append]
    rw [Lib.parseUintM] at h ⊢
    split at h
    · rename_i h1
      rw [if_pos h1]
      split at h
      · cases h
      · rename_i h2
        rw [if_neg h2]
        split at h
        · cases h
        · rename_i h3
          rw [if_neg h3]
          exact ih _ _ _ h
    · cases h
theorem parse_dec (u : Nat) (hu : u ≤ 9223372036854775808) : Lib.parseUintM (2 ^ 64 - 1) 0 (Lib.decDigits u) = .ok u := by
  induction u using Nat.strongRecOn with
  | _ u ih =>
    rw [Lib.decDigits]
    by_cases h : u < 10
    · rw [dif_pos h]
      have e : (UInt8.ofNat (48 + u)).toNat = 48 + u := by rw [UInt8.toNat_ofNat']; omega
      simp only [Lib.parseUintM]
      rw [e, if_pos (by omega), if_neg (by omega), if_neg (by omega)]
      congr 1
      omega
    · rw [dif_neg h, parse_snoc _ _ _ _ _ (ih (u / 10) (by omega) (by omega))]
      have e : (UInt8.ofNat (48 + u % 10)).toNat = 48 + u % 10 := by rw [UInt8.toNat_ofNat']; omega
      simp only [Lib.parseUintM]
      rw [e, if_pos (by omega), if_neg (by omega), if_neg (by omega)]
      congr 1
      omega
theorem dec_ne (u : Nat) : Lib.decDigits u ≠ [] := by
  rw [Lib.decDigits]
  split <;> simp
theorem parse_itoa (n : Int) (h0 : -9223372036854775808 ≤ n) (h1 : n ≤ 9223372036854775807) : Lib.parseIntB 64 (Lib.itoa n) = .ok n := by
  unfold Lib.itoa
  by_cases h : n < 0
  · rw [if_pos h]
    unfold Lib.parseIntB
    have e1 : ((45 : UInt8).toNat = 43 ∨ (45 : UInt8).toNat = 45) := Or.inr rfl
    simp only [if_pos e1]
    have e2 : Lib.parseUintB 64 (Lib.decDigits n.natAbs) = .ok n.natAbs := by
      unfold Lib.parseUintB
      rw [if_neg (dec_ne _)]
      exact parse_dec _ (by omega)
    rw [e2]
    have e3 : (45 : UInt8).toNat = 45 := rfl
    simp only [e3]
    rw [if_neg (by simp), if_neg (by simp; omega), if_pos trivial]
    congr 1
    omega
  · rw [if_neg h]
    have e2 : Lib.parseUintB 64 (Lib.decDigits n.toNat) = .ok n.toNat := by
      unfold Lib.parseUintB
      rw [if_neg (dec_ne _)]
      exact parse_dec _ (by omega)
    cases hd : Lib.decDigits n.toNat with
    | nil => exact absurd hd (dec_ne _)
    | cons c r =>
      have hc := digits_bd n.toNat c (by rw [hd]; simp)
      rw [hd] at e2
      unfold Lib.parseIntB
      have e1 : ¬ (c.toNat = 43 ∨ c.toNat = 45) := by omega
      simp only [if_neg e1]
      rw [e2]
      have e3 : ¬ c.toNat = 45 := by omega
      simp only [e3]
      rw [if_neg (by simp; omega), if_neg (by simp), if_neg (by simp)]
      congr 1
      omega
end Go.Proofs.YtgbgjecmamkdaaaDoor
