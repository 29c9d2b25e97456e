/-
  Which ops are in a set; how many kids an op has; may a node be?
-/
import Derived.Test.YtgbgjecmamkdaaaDoorTrMem
namespace Go.Proofs.YtgbgjecmamkdaaaDoor
open Go.RowKit
set_option linter.unusedVariables false
set_option maxRecDepth 100000

def hasV (s op : Int) : Bool := bits BinOp.and IntKind.u64 (s / 2 ^ min (IntKind.u64.wrap op).toNat 64) 1 == 1
theorem has_any (s op : Int) (w : World) (hs : 0 ≤ s ∧ s < 18446744073709551616) (ho : I64 op) : Calls Tryd.prog 48 #[.int .u64 s, .int .i64 op] w fun e w' => e = .returned (.bool (hasV s op)) ∧ w = w' := by
  go_enter Tryd.func48, Tryd.ntmps48
  go_wp2
  go_ret
  exact ⟨rfl, rfl⟩
theorem has_cases (s : Int) (f : Int → Bool) (h1 : s / 2 ^ 64 = 0) (h2 : ∀ k ∈ List.range 64, (bits BinOp.and IntKind.u64 (s / 2 ^ k) 1 == 1) = f (k : Int)) (h3 : ∀ op : Int, op < 0 ∨ 63 < op → f op = false) (op : Int) (ho : I64 op) : hasV s op = f op := by
  unfold hasV
  by_cases h : 0 ≤ op ∧ op ≤ 63
  · have e : (IntKind.u64.wrap op).toNat = op.toNat := by
      rw [show IntKind.u64.wrap op = op % 18446744073709551616 by simp [IntKind.wrap, IntKind.bits, IntKind.signed]]
      omega
    rw [e, Nat.min_eq_left (by omega), h2 op.toNat (List.mem_range.2 (by omega)), Int.toNat_of_nonneg h.1]
  · have e : 64 ≤ (IntKind.u64.wrap op).toNat := by
      rw [show IntKind.u64.wrap op = op % 18446744073709551616 by simp [IntKind.wrap, IntKind.bits, IntKind.signed]]
      obtain ⟨a, b⟩ := ho
      omega
    rw [Nat.min_eq_right e, h1, h3 op (by omega)]
    rfl
theorem has_leaf (op : Int) (ho : I64 op) : hasV 30 op = decide (1 ≤ op ∧ op ≤ 4) :=
  has_cases 30 (fun op => decide (1 ≤ op ∧ op ≤ 4)) (by decide) (by decide) (fun op h => decide_eq_false (by omega)) op ho
theorem has_index (op : Int) (ho : I64 op) : hasV 28 op = decide (2 ≤ op ∧ op ≤ 4) :=
  has_cases 28 (fun op => decide (2 ≤ op ∧ op ≤ 4)) (by decide) (by decide) (fun op h => decide_eq_false (by omega)) op ho
theorem has_one (op : Int) (ho : I64 op) : hasV 135291473888 op = decide ((5 ≤ op ∧ op ≤ 11) ∨ (31 ≤ op ∧ op ≤ 36)) :=
  has_cases 135291473888 (fun op => decide ((5 ≤ op ∧ op ≤ 11) ∨ (31 ≤ op ∧ op ≤ 36))) (by decide) (by decide) (fun op h => decide_eq_false (by omega)) op ho
theorem has_two (op : Int) (ho : I64 op) : hasV 2147479552 op = decide (12 ≤ op ∧ op ≤ 30) :=
  has_cases 2147479552 (fun op => decide (12 ≤ op ∧ op ≤ 30)) (by decide) (by decide) (fun op h => decide_eq_false (by omega)) op ho
theorem hasC (s op : Int) (w : World) (hs : 0 ≤ s ∧ s < 18446744073709551616) (ho : I64 op) (b : Bool) (hb : hasV s op = b) : Calls Tryd.prog 48 #[.int .u64 s, .int .i64 op] w fun e w' => e = .returned (.bool b) ∧ w = w' := by
  have := has_any s op w hs ho
  rwa [hb] at this
theorem arity_any (op : Int) (ho : I64 op) (w : World) : Calls Tryd.prog 40 #[.int .i64 op] w fun e w' => e = .returned (.int .i64 (ariV op)) ∧ w = w' := by
  have l1 := has_leaf op ho
  have l2 := has_one op ho
  have l3 := has_two op ho
  have HL := fun b (hb : hasV 30 op = b) (w : World) => Lib.hid (hasC 30 op w (by decide) ho b hb)
  have HO := fun b (hb : hasV 135291473888 op = b) (w : World) => Lib.hid (hasC 135291473888 op w (by decide) ho b hb)
  have HT := fun b (hb : hasV 2147479552 op = b) (w : World) => Lib.hid (hasC 2147479552 op w (by decide) ho b hb)
  by_cases h1 : 1 ≤ op ∧ op ≤ 4
  · have e : ariV op = 0 := if_pos h1
    rw [e]
    rw [decide_eq_true h1] at l1
    have C1 := HL _ l1
    clear HL HO HT l1 l2 l3 e h1
    go_enter Tryd.func40, Tryd.ntmps40
    go_wp2_with (first | (go_at_call 48; refine (C1 _).out.mono ?_; rintro e w' ⟨rfl, rfl⟩))
    go_ret
    exact ⟨rfl, rfl⟩
  · rw [decide_eq_false h1] at l1
    have C1 := HL _ l1
    by_cases h2 : (5 ≤ op ∧ op ≤ 11) ∨ (31 ≤ op ∧ op ≤ 36)
    · have e : ariV op = 1 := by rw [ariV, if_neg h1, if_pos h2]
      rw [e]
      rw [decide_eq_true h2] at l2
      have C2 := HO _ l2
      clear HL HO HT l1 l2 l3 e h1 h2
      go_enter Tryd.func40, Tryd.ntmps40
      go_wp2_with (first | (go_at_call 48; ((with_reducible refine (C1 _).out.mono ?_); rintro e w' ⟨rfl, rfl⟩)) | (go_at_call 48; ((with_reducible refine (C2 _).out.mono ?_); rintro e w' ⟨rfl, rfl⟩)))
      go_ret
      exact ⟨rfl, rfl⟩
    · rw [decide_eq_false h2] at l2
      have C2 := HO _ l2
      by_cases h3 : 12 ≤ op ∧ op ≤ 30
      · have e : ariV op = 2 := by rw [ariV, if_neg h1, if_neg h2, if_pos h3]
        rw [e]
        rw [decide_eq_true h3] at l3
        have C3 := HT _ l3
        clear HL HO HT l1 l2 l3 e h1 h2 h3
        go_enter Tryd.func40, Tryd.ntmps40
        go_wp2_with (first | (go_at_call 48; ((with_reducible refine (C1 _).out.mono ?_); rintro e w' ⟨rfl, rfl⟩)) | (go_at_call 48; ((with_reducible refine (C2 _).out.mono ?_); rintro e w' ⟨rfl, rfl⟩)) | (go_at_call 48; ((with_reducible refine (C3 _).out.mono ?_); rintro e w' ⟨rfl, rfl⟩)))
        go_ret
        exact ⟨rfl, rfl⟩
      · have e : ariV op = -1 := by rw [ariV, if_neg h1, if_neg h2, if_neg h3]
        rw [e]
        rw [decide_eq_false h3] at l3
        have C3 := HT _ l3
        clear HL HO HT l1 l2 l3 e h1 h2 h3
        go_enter Tryd.func40, Tryd.ntmps40
        go_wp2_with (first | (go_at_call 48; ((with_reducible refine (C1 _).out.mono ?_); rintro e w' ⟨rfl, rfl⟩)) | (go_at_call 48; ((with_reducible refine (C2 _).out.mono ?_); rintro e w' ⟨rfl, rfl⟩)) | (go_at_call 48; ((with_reducible refine (C3 _).out.mono ?_); rintro e w' ⟨rfl, rfl⟩)))
        go_ret
        exact ⟨rfl, rfl⟩
theorem mayHave_any (op n : Int) (ho : I64 op) (w : World) : Calls Tryd.prog 57 #[.int .i64 op, .int .i64 n] w fun e w' => e = .returned (.bool (mayB op n)) ∧ w = w' := by
  have l1 := has_index op ho
  by_cases h1 : op = 1
  · have e : mayB op n = true := by rw [mayB, decide_eq_true h1]; rfl
    rw [e]
    have h : (op == 1) = true := by simpa using h1
    clear e h1 l1
    go_enter Tryd.func57, Tryd.ntmps57
    go_wp2
    go_ret
    exact ⟨rfl, rfl⟩
  · have h : (op == 1) = false := by simpa using h1
    by_cases h2 : 2 ≤ op ∧ op ≤ 4
    · have e : mayB op n = decide (0 ≤ n) := by rw [mayB, decide_eq_false h1, if_pos h2]; rfl
      rw [e]
      rw [decide_eq_true h2] at l1
      have C1 := fun w => Lib.hid (hasC 28 op w (by decide) ho _ l1)
      clear e h1 h2 l1
      go_enter Tryd.func57, Tryd.ntmps57
      go_wp2_with (go_at_call 48; refine (C1 _).out.mono ?_; rintro e w' ⟨rfl, rfl⟩)
      go_ret
      exact ⟨rfl, rfl⟩
    · have e : mayB op n = decide (n = 0) := by rw [mayB, decide_eq_false h1, if_neg h2]; rfl
      rw [e]
      rw [decide_eq_false h2] at l1
      have C1 := fun w => Lib.hid (hasC 28 op w (by decide) ho _ l1)
      clear e h1 h2 l1
      go_enter Tryd.func57, Tryd.ntmps57
      go_wp2_with (go_at_call 48; refine (C1 _).out.mono ?_; rintro e w' ⟨rfl, rfl⟩)
      go_ret
      exact ⟨rfl, rfl⟩
end Go.Proofs.YtgbgjecmamkdaaaDoor
