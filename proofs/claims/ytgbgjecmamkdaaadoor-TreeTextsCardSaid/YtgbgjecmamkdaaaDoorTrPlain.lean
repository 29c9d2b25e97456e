/-
  Trees, plainly: which may be, how many nodes they have, whether they are pure. Nothing of Go.
-/
import Derived.WalkKit
namespace Go.Proofs.YtgbgjecmamkdaaaDoor
set_option linter.unusedVariables false

/-- A list of trees. -/
inductive Trs
  | nil
  | cons (op n : Int) (kids rest : Trs)
deriving DecidableEq
/-- A tree. -/
structure Tr where
  op : Int
  n : Int
  kids : Trs
deriving DecidableEq
def Trs.add (t : Tr) (r : Trs) : Trs := .cons t.op t.n t.kids r
def Trs.len : Trs → Nat
  | .nil => 0
  | .cons _ _ _ r => r.len + 1
def Trs.size : Trs → Nat
  | .nil => 0
  | .cons _ _ k r => k.size + r.size + 1
def Trs.toL : Trs → List Tr
  | .nil => []
  | .cons op n k r => ⟨op, n, k⟩ :: r.toL
def Trs.ofL : List Tr → Trs
  | [] => .nil
  | t :: r => .add t (ofL r)
def Trs.snoc : Trs → Tr → Trs
  | .nil, t => .add t .nil
  | .cons op n k r, t => .cons op n k (r.snoc t)
theorem Trs.toL_len : ∀ x : Trs, x.toL.length = x.len := by
  intro x
  induction x with
  | nil => rfl
  | cons _ _ _ _ _ ih => simp [Trs.toL, Trs.len, ih]
theorem Trs.ofL_toL : ∀ x : Trs, ofL x.toL = x := by
  intro x
  induction x with
  | nil => rfl
  | cons _ _ _ _ _ ih => simp only [Trs.toL, ofL, ih]; rfl
theorem Trs.toL_ofL : ∀ l : List Tr, (ofL l).toL = l := by
  intro l
  induction l with
  | nil => rfl
  | cons t r ih => simp only [ofL, Trs.add, Trs.toL, ih]
theorem Trs.ofL_len : ∀ l : List Tr, (ofL l).len = l.length := by
  intro l
  induction l with
  | nil => rfl
  | cons a r ih => simp only [ofL, Trs.add, Trs.len, ih, List.length_cons]
theorem Trs.ofL_snoc (e : Tr) : ∀ l : List Tr, ofL (l ++ [e]) = (ofL l).snoc e := by
  intro l
  induction l with
  | nil => rfl
  | cons a r ih => simp only [List.cons_append, ofL, ih, Trs.add, Trs.snoc]
theorem Trs.snoc_len (e : Tr) : ∀ x : Trs, (x.snoc e).len = x.len + 1 := by
  intro x
  induction x with
  | nil => rfl
  | cons _ _ _ _ _ ih => simp only [Trs.snoc, Trs.len, ih]
theorem Trs.len_size : ∀ x : Trs, x.len ≤ x.size := by
  intro x
  induction x with
  | nil => exact Nat.le_refl _
  | cons _ _ _ _ _ ih => simp only [Trs.len, Trs.size]; omega
theorem Trs.size_mem : ∀ (x : Trs) (e : Tr), e ∈ x.toL → e.kids.size < x.size := by
  intro x
  induction x with
  | nil => intro e h; cases h
  | cons op n kids r _ ih =>
    intro e h
    rcases List.mem_cons.1 h with rfl | h
    · simp only [Trs.size]; omega
    · have := ih e h; simp only [Trs.size]; omega
theorem Trs.toL_inj (x y : Trs) (h : x.toL = y.toL) : x = y := by rw [← ofL_toL x, h, ofL_toL]

/-- How many kids an op has. -/
def ariV (op : Int) : Int := if 1 ≤ op ∧ op ≤ 4 then 0 else if (5 ≤ op ∧ op ≤ 11) ∨ (31 ≤ op ∧ op ≤ 36) then 1 else if 12 ≤ op ∧ op ≤ 30 then 2 else -1
/-- May an op have that N? -/
def mayB (op n : Int) : Bool := decide (op = 1) || (if 2 ≤ op ∧ op ≤ 4 then decide (0 ≤ n) else decide (n = 0))
def nodeB (op n : Int) (l : Nat) : Bool := decide ((l : Int) = ariV op) && mayB op n
/-- How many nodes are left of l behind these. -/
def roomL : Trs → Int → Int
  | .nil, l => l
  | .cons op n kids rest, l => roomL rest (if l ≤ 0 ∨ nodeB op n kids.len = false then -1 else roomL kids (l - 1))
def roomT (t : Tr) (l : Int) : Int := if l ≤ 0 ∨ nodeB t.op t.n t.kids.len = false then -1 else roomL t.kids (l - 1)
theorem roomL_add (t : Tr) (r : Trs) (l : Int) : roomL (.add t r) l = roomL r (roomT t l) := rfl
/-- The page's own count. -/
def countL : Trs → Int → Int × Bool
  | .nil, n => (n, true)
  | .cons op v kids rest, n =>
    match (if 200 < n + 1 ∨ nodeB op v kids.len = false then (n + 1, false) else countL kids (n + 1)) with
    | (m, true) => countL rest m
    | (m, false) => (m, false)
def countT (t : Tr) (n : Int) : Int × Bool := if 200 < n + 1 ∨ nodeB t.op t.n t.kids.len = false then (n + 1, false) else countL t.kids (n + 1)
theorem countL_add (t : Tr) (r : Trs) (n : Int) : countL (.add t r) n = match countT t n with
    | (m, true) => countL r m
    | (m, false) => (m, false) := rfl
theorem roomL_gone : ∀ x : Trs, roomL x (-1) = -1 := by
  intro x
  induction x with
  | nil => rfl
  | cons op n kids rest _ ih => rw [roomL, if_pos (Or.inl (by decide))]; exact ih
theorem room_count : ∀ (x : Trs) (n : Int), 0 ≤ n → n ≤ 200 → n ≤ (countL x n).1 ∧ ((countL x n).2 = true → (countL x n).1 ≤ 200 ∧ roomL x (200 - n) = 200 - (countL x n).1) ∧ ((countL x n).2 = false → roomL x (200 - n) = -1 ∧ (countL x n).1 ≤ 201) := by
  intro x
  induction x with
  | nil => intro n h0 h1; exact ⟨Int.le_refl _, fun _ => ⟨h1, rfl⟩, fun h => by cases h⟩
  | cons op v kids rest ihk ihr =>
    intro n h0 h1
    rw [countL, roomL]
    by_cases hc : 200 < n + 1 ∨ nodeB op v kids.len = false
    · rw [if_pos hc, if_pos (hc.elim (fun h => .inl (by omega)) .inr)]
      refine ⟨by simp only; omega, fun h => (by cases h), fun _ => ⟨roomL_gone _, by simp only; omega⟩⟩
    · have hn : n < 200 := by
        have := fun h => hc (.inl h)
        omega
      rw [if_neg hc, if_neg (fun h => h.elim (fun h => absurd h (by omega)) (fun h => hc (.inr h)))]
      obtain ⟨a, b, c⟩ := ihk (n + 1) (by omega) (by omega)
      have e : (200 : Int) - n - 1 = 200 - (n + 1) := by omega
      rw [e]
      cases hk : (countL kids (n + 1)).2 with
      | true =>
        obtain ⟨b1, b2⟩ := b hk
        have hk' : countL kids (n + 1) = ((countL kids (n + 1)).1, true) := by rw [← hk]
        rw [hk', b2]
        obtain ⟨a', b', c'⟩ := ihr _ (Int.le_trans (by omega) a) b1
        exact ⟨by simp only; omega, b', c'⟩
      | false =>
        obtain ⟨c1, c2⟩ := c hk
        have hk' : countL kids (n + 1) = ((countL kids (n + 1)).1, false) := by rw [← hk]
        rw [hk', c1]
        exact ⟨by simp only; omega, fun h => (by cases h), fun _ => ⟨roomL_gone _, c2⟩⟩
theorem roomL_le : ∀ (x : Trs) (l : Int), -1 ≤ l → -1 ≤ roomL x l ∧ roomL x l ≤ l := by
  intro x
  induction x with
  | nil => intro l h; exact ⟨h, Int.le_refl _⟩
  | cons op v kids rest ihk ihr =>
    intro l h
    rw [roomL]
    split
    · rename_i hc
      have := ihr (-1) (by omega)
      omega
    · rename_i hc
      have h0 : 0 < l := by
        have := fun h => hc (.inl h)
        omega
      have h1 := ihk (l - 1) (by omega)
      have h2 := ihr (roomL kids (l - 1)) h1.1
      omega
theorem roomT_le (t : Tr) (l : Int) (h : -1 ≤ l) : -1 ≤ roomT t l ∧ roomT t l ≤ l := by
  have := roomL_le (.add t .nil) l h
  rwa [roomL_add] at this
theorem room_countT (t : Tr) : 1 ≤ (countT t 0).1 ∧ ((countT t 0).2 = true → (countT t 0).1 ≤ 200 ∧ roomT t 200 = 200 - (countT t 0).1) ∧ ((countT t 0).2 = false → roomT t 200 = -1) := by
  by_cases hc : (200 : Int) < 0 + 1 ∨ nodeB t.op t.n t.kids.len = false
  · rw [countT, if_pos hc, roomT, if_pos (hc.elim (fun h => .inl (by omega)) .inr)]
    exact ⟨by decide, fun h => (by cases h), fun _ => rfl⟩
  · rw [countT, if_neg hc, roomT, if_neg (fun h => h.elim (fun h => absurd h (by omega)) (fun h => hc (.inr h)))]
    obtain ⟨a, b, c⟩ := room_count t.kids (0 + 1) (by omega) (by omega)
    exact ⟨by omega, b, fun h => (c h).1⟩
/-- Every node may be. -/
def okL : Trs → Bool
  | .nil => true
  | .cons op n kids rest => nodeB op n kids.len && okL kids && okL rest
def okT (t : Tr) : Bool := nodeB t.op t.n t.kids.len && okL t.kids
theorem okL_add (t : Tr) (r : Trs) : okL (.add t r) = (okT t && okL r) := rfl
theorem ok_count : ∀ (x : Trs) (n : Int), (countL x n).2 = true → okL x = true := by
  intro x
  induction x with
  | nil => intro n _; rfl
  | cons op v kids rest ihk ihr =>
    intro n h
    rw [countL] at h
    by_cases hc : 200 < n + 1 ∨ nodeB op v kids.len = false
    · rw [if_pos hc] at h; cases h
    · rw [if_neg hc] at h
      have hn : nodeB op v kids.len = true := by
        cases hh : nodeB op v kids.len with
        | true => rfl
        | false => exact absurd (.inr hh) hc
      cases hk : (countL kids (n + 1)).2 with
      | true =>
        have hk' : countL kids (n + 1) = ((countL kids (n + 1)).1, true) := by rw [← hk]
        rw [hk'] at h
        rw [okL, hn, ihk _ hk, ihr _ h]; rfl
      | false =>
        have hk' : countL kids (n + 1) = ((countL kids (n + 1)).1, false) := by rw [← hk]
        rw [hk'] at h; cases h
theorem ok_countT (t : Tr) (n : Int) (h : (countT t n).2 = true) : okT t = true := by
  have := ok_count (.add t .nil) n (by rw [countL_add]; cases hc : countT t n with
    | mk a b => rw [hc] at h; simp only at h; subst h; rfl)
  rw [okL_add] at this
  simpa [okL] using this
theorem okL_mem : ∀ (x : Trs) (t : Tr), t ∈ x.toL → okL x = true → okT t = true := by
  intro x
  induction x with
  | nil => intro t h; cases h
  | cons op n kids rest _ ih =>
    intro t h ho
    rw [okL] at ho
    simp only [Bool.and_eq_true] at ho
    rcases List.mem_cons.1 h with rfl | h
    · rw [okT]; simp [ho.1.1, ho.1.2]
    · exact ih t h ho.2
theorem node_op {op n : Int} {l : Nat} (h : nodeB op n l = true) : 1 ≤ op ∧ op ≤ 36 ∧ (l : Int) = ariV op := by
  rw [nodeB] at h
  simp only [Bool.and_eq_true, decide_eq_true_eq] at h
  obtain ⟨h, _⟩ := h
  unfold ariV at h ⊢
  repeat' split at h
  all_goals (first | (refine ⟨by omega, by omega, ?_⟩; omega) | omega)

/-- Is it pure? -/
def pureOp (op : Int) : Bool := decide (¬ (2 ≤ op ∧ op ≤ 11))
def pureL : Trs → Bool
  | .nil => true
  | .cons op _ kids rest => pureOp op && pureL kids && pureL rest
def pureT (t : Tr) : Bool := pureOp t.op && pureL t.kids
theorem pureL_add (t : Tr) (r : Trs) : pureL (.add t r) = (pureT t && pureL r) := rfl
/-- The ops that stand in these. -/
def opsL : Trs → Nat
  | .nil => 0
  | .cons op _ kids rest => (2 ^ op.toNat ||| opsL kids) ||| opsL rest
def opsT (t : Tr) : Nat := 2 ^ t.op.toNat ||| opsL t.kids
theorem opsL_add (t : Tr) (r : Trs) : opsL (.add t r) = (opsT t ||| opsL r) := rfl
theorem opsL_snoc (t : Tr) : ∀ x : Trs, opsL (x.snoc t) = (opsL x ||| opsT t) := by
  intro x
  induction x with
  | nil => simp [Trs.snoc, opsL_add, opsL]
  | cons op n k r _ ih => simp only [Trs.snoc, opsL, ih, Nat.or_assoc]
theorem opsL_lt : ∀ x : Trs, okL x = true → opsL x < 2 ^ 37 := by
  intro x
  induction x with
  | nil => intro _; decide
  | cons op n k r ihk ihr =>
    intro h
    rw [okL] at h
    simp only [Bool.and_eq_true] at h
    have ho := node_op h.1.1
    rw [opsL]
    exact Nat.or_lt_two_pow (Nat.or_lt_two_pow (Nat.pow_lt_pow_right (by decide) (by omega)) (ihk h.1.2)) (ihr h.2)
theorem opsT_lt (t : Tr) (h : okT t = true) : opsT t < 2 ^ 37 := by
  rw [okT] at h
  simp only [Bool.and_eq_true] at h
  have ho := node_op h.1
  exact Nat.or_lt_two_pow (Nat.pow_lt_pow_right (by decide) (by omega)) (opsL_lt _ h.2)
theorem or_and_zero (a b m : Nat) : ((a ||| b) &&& m = 0) ↔ (a &&& m = 0 ∧ b &&& m = 0) := by
  rw [Nat.and_or_distrib_right]
  exact Nat.or_eq_zero_iff
/-- The ops that hang on more than their tree: from 2 to 11. -/
theorem one_impure (k : Nat) (h : k ≤ 36) : (2 ^ k &&& 4092 = 0) ↔ ¬ (2 ≤ k ∧ k ≤ 11) := by
  have : ∀ k ∈ List.range 37, decide (2 ^ k &&& 4092 = 0) = decide (¬ (2 ≤ k ∧ k ≤ 11)) := by decide
  have h1 := this k (List.mem_range.2 (by omega))
  exact decide_eq_decide.1 h1
theorem opsL_pure : ∀ x : Trs, okL x = true → ((opsL x &&& 4092 = 0) ↔ pureL x = true) := by
  intro x
  induction x with
  | nil => intro _; simp [opsL, pureL]
  | cons op n k r ihk ihr =>
    intro h
    rw [okL] at h
    simp only [Bool.and_eq_true] at h
    have ho := node_op h.1.1
    rw [opsL, or_and_zero, or_and_zero, ihk h.1.2, ihr h.2, one_impure _ (by omega), pureL, pureOp]
    simp only [Bool.and_eq_true, decide_eq_true_eq]
    have e : (2 ≤ op.toNat ∧ op.toNat ≤ 11) ↔ (2 ≤ op ∧ op ≤ 11) := by omega
    rw [e]
theorem opsT_pure (t : Tr) (h : okT t = true) : (opsT t &&& 4092 = 0) ↔ pureT t = true := by
  have := opsL_pure (.add t .nil) (by rw [okL_add, h]; rfl)
  rw [opsL_add, pureL_add] at this
  simpa [opsL, pureL] using this
end Go.Proofs.YtgbgjecmamkdaaaDoor
