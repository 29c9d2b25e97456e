/-
  The page's own: Kids, count, Tree, IsLoad, Pure.
-/
import Derived.Test.YtgbgjecmamkdaaaDoorTrVal
namespace Go.Proofs.YtgbgjecmamkdaaaDoor
open Go.RowKit
set_option linter.unusedVariables false
set_option linter.unusedSimpArgs false
set_option maxRecDepth 100000
set_option maxHeartbeats 1000000

theorem kids_any (op : Int) (w : World) : Calls Tryd.prog 43 #[.int .i64 op] w fun e w' => e = .returned (.int .i64 (ariV op)) ∧ w = w' := by
  by_cases h1 : op < 1
  · have e : ariV op = -1 := by unfold ariV; rw [if_neg (by omega), if_neg (by omega), if_neg (by omega)]
    rw [e]
    clear e
    go_enter Tryd.func43, Tryd.ntmps43
    go_wp2
    go_ret
    exact ⟨rfl, rfl⟩
  · by_cases h2 : 36 < op
    · have e : ariV op = -1 := by unfold ariV; rw [if_neg (by omega), if_neg (by omega), if_neg (by omega)]
      rw [e]
      clear e
      go_enter Tryd.func43, Tryd.ntmps43
      go_wp2
      go_ret
      exact ⟨rfl, rfl⟩
    · by_cases h3 : op ≤ 4
      · have e : ariV op = 0 := by unfold ariV; rw [if_pos (by omega)]
        rw [e]
        clear e
        go_enter Tryd.func43, Tryd.ntmps43
        go_wp2
        go_ret
        exact ⟨rfl, rfl⟩
      · by_cases h4 : 12 ≤ op ∧ op ≤ 30
        · have e : ariV op = 2 := by unfold ariV; rw [if_neg (by omega), if_neg (by omega), if_pos (by omega)]
          rw [e]
          clear e
          have C := fun w => Lib.hid (isBin_yes op h4 w)
          clear h4
          go_enter Tryd.func43, Tryd.ntmps43
          go_wp2_with (go_at_call 65; refine (C _).out.mono ?_; rintro e w' ⟨rfl, rfl⟩)
          go_ret
          exact ⟨rfl, rfl⟩
        · have e : ariV op = 1 := by unfold ariV; rw [if_neg (by omega), if_pos (by omega)]
          rw [e]
          clear e
          have C := fun w => Lib.hid (isBin_no op h4 w)
          clear h4
          go_enter Tryd.func43, Tryd.ntmps43
          go_wp2_with (go_at_call 65; refine (C _).out.mono ?_; rintro e w' ⟨rfl, rfl⟩)
          go_ret
          exact ⟨rfl, rfl⟩
theorem isLoad_any (op : Int) (b : Bool) (hb : decide (5 ≤ op ∧ op ≤ 11) = b) (w : World) : Calls Tryd.prog 28 #[.int .i64 op] w fun e w' => e = .returned (.bool b) ∧ w = w' := by
  by_cases h1 : 5 ≤ op
  · by_cases h2 : op ≤ 11
    · rw [decide_eq_true ⟨h1, h2⟩] at hb
      subst hb
      go_enter Tryd.func28, Tryd.ntmps28
      go_wp2
      go_ret
      exact ⟨rfl, rfl⟩
    · rw [decide_eq_false (fun h => h2 h.2)] at hb
      subst hb
      go_enter Tryd.func28, Tryd.ntmps28
      go_wp2
      go_ret
      exact ⟨rfl, rfl⟩
  · rw [decide_eq_false (fun h => h1 h.1)] at hb
    subst hb
    go_enter Tryd.func28, Tryd.ntmps28
    go_wp2
    go_ret
    exact ⟨rfl, rfl⟩
/-- What the page's count asks of a node. -/
theorem node_page (op n : Int) (l : Nat) : nodeB op n l = (decide ((l : Int) = ariV op) && (!(decide (4 < op) && decide (n ≠ 0)) && !(decide (op ≠ 1) && decide (n < 0)))) := by
  rw [nodeB]
  by_cases h : (l : Int) = ariV op
  · have hr : 1 ≤ op ∧ op ≤ 36 := by
      unfold ariV at h
      repeat' split at h
      all_goals omega
    rw [decide_eq_true h, Bool.true_and, Bool.true_and, mayB]
    by_cases h1 : op = 1
    · simp [h1]
    · by_cases h2 : 2 ≤ op ∧ op ≤ 4
      · rw [if_pos h2, decide_eq_false h1, decide_eq_false (show ¬ 4 < op by omega), decide_eq_true (show op ≠ 1 from h1)]
        by_cases h3 : 0 ≤ n
        · rw [decide_eq_true h3, decide_eq_false (show ¬ n < 0 by omega)]; rfl
        · rw [decide_eq_false h3, decide_eq_true (show n < 0 by omega)]; rfl
      · rw [if_neg h2, decide_eq_false h1, decide_eq_true (show 4 < op by omega), decide_eq_true (show op ≠ 1 from h1)]
        by_cases h3 : n = 0
        · subst h3; rfl
        · rw [decide_eq_false h3, decide_eq_true (show n ≠ 0 from h3)]; simp
  · rw [decide_eq_false h, Bool.false_and, Bool.false_and]
theorem node_fail {op n : Int} {l : Nat} (h : nodeB op n l = false) : ((l : Int) != ariV op) = true ∨ (((l : Int) != ariV op) = false ∧ decide (4 < op) = true ∧ (n != 0) = true) ∨ (((l : Int) != ariV op) = false ∧ decide (4 < op) = false ∧ (op != 1) = true ∧ decide (n < 0) = true) := by
  rw [node_page] at h
  by_cases h0 : (l : Int) = ariV op
  · rw [decide_eq_true h0, Bool.true_and] at h
    right
    by_cases h1 : 4 < op
    · by_cases h2 : n = 0
      · subst h2; simp [h1] at h
      · exact .inl ⟨by simp [h0], decide_eq_true h1, by simpa using h2⟩
    · by_cases h2 : op = 1
      · subst h2; simp at h
      · have h3 : n < 0 := by simpa [h1, h2] using h
        exact .inr ⟨by simp [h0], decide_eq_false h1, by simpa using h2, decide_eq_true h3⟩
  · left; simpa using h0
theorem node_pass {op n : Int} {l : Nat} (h : nodeB op n l = true) : ((l : Int) != ariV op) = false ∧ ((decide (4 < op) = true ∧ (n != 0) = false ∧ (op != 1) = true ∧ decide (n < 0) = false) ∨ (decide (4 < op) = false ∧ (op != 1) = false) ∨ (decide (4 < op) = false ∧ (op != 1) = true ∧ decide (n < 0) = false)) := by
  rw [node_page] at h
  simp only [Bool.and_eq_true, Bool.not_eq_true', Bool.and_eq_false_iff, decide_eq_true_eq, decide_eq_false_iff_not] at h
  obtain ⟨h0, h1, h2⟩ := h
  refine ⟨by simp [h0], ?_⟩
  by_cases h3 : 4 < op
  · have h4 : n = 0 := by
      rcases h1 with h1 | h1
      · exact absurd h3 h1
      · exact Classical.not_not.1 h1
    exact .inl ⟨decide_eq_true h3, by simp [h4], by simp; omega, by simp [h4]⟩
  · by_cases h5 : op = 1
    · exact .inr (.inl ⟨decide_eq_false h3, by simp [h5]⟩)
    · have h6 : ¬ n < 0 := by
        rcases h2 with h2 | h2
        · exact absurd h5 h2
        · exact h2
      exact .inr (.inr ⟨decide_eq_false h3, by simp [h5], decide_eq_false h6⟩)
theorem countT_le (t : Tr) (n : Int) (h0 : 0 ≤ n) (h1 : n ≤ 200) : 0 ≤ (countT t n).1 ∧ ((countT t n).2 = true → (countT t n).1 ≤ 200) := by
  by_cases hc : 200 < n + 1 ∨ nodeB t.op t.n t.kids.len = false
  · rw [countT, if_pos hc]; exact ⟨by simp only; omega, fun h => by cases h⟩
  · rw [countT, if_neg hc]
    have hn : n + 1 ≤ 200 := by
      have := fun h => hc (.inl h)
      omega
    obtain ⟨a, b, _⟩ := room_count t.kids (n + 1) (by omega) hn
    exact ⟨by omega, fun h => (b h).1⟩
theorem countL_drop {x : Trs} {k : Nat} {t : Tr} (h : x.toL[k]? = some t) (r : Int) : countL (Trs.ofL (x.toL.drop k)) r = match countT t r with
    | (m, true) => countL (Trs.ofL (x.toL.drop (k + 1))) m
    | (m, false) => (m, false) := by
  rw [drop_cons h]; exact countL_add t _ r
def CountC (n : Nat) : Prop := ∀ (t : Tr), t.kids.size < n → ∀ (m : Int), 0 ≤ m → m ≤ 200 → ∀ (w : World) (A : Option Addr) (c : Nat), TrR w t A c →
  Calls Tryd.prog 27 #[trV t A c, .int .i64 m] w fun e w' => e = .returned (.tuple #[.int .i64 (countT t m).1, .bool (countT t m).2]) ∧ Below w.heap.size w w'
theorem count_step (n : Nat) (IH : CountC n) : CountC (n + 1) := by
  intro t ht m h0 h1 w A c hT
  have hcap := hT.cap
  have hle := hT.le
  unfold maxLen at hcap
  have CK := fun w => Lib.hid (kids_any t.op w)
  by_cases hm : 200 < m + 1
  · rw [countT, if_pos (.inl hm)]
    clear CK
    have hm' : decide (200 < m + 1) = true := decide_eq_true hm
    obtain ⟨op, nn, kids⟩ := t
    go_enter Tryd.func27, Tryd.ntmps27
    go_wp2_with fail
    go_quiet (fail)
    go_wp2_with fail
    go_ret2
    exact ⟨rfl, (Keeps.au (G := [])).below⟩
  · have hm' : decide (200 < m + 1) = false := decide_eq_false hm
    cases hn : nodeB t.op t.n t.kids.len with
    | false =>
      rw [countT, if_pos (.inr hn)]
      rcases node_fail hn with f0 | ⟨f0, f1, f2⟩ | ⟨f0, f1, f2, f3⟩
      all_goals
        clear hn
        obtain ⟨op, nn, kids⟩ := t
        simp only at *
        go_enter Tryd.func27, Tryd.ntmps27
        go_wp2_with fail
        go_quiet ((go_at_call 43; exact Calls.quiet_of_same ((CK _).out.mono fun _ _ h => ⟨h.1, h.2.symm⟩)))
        go_wp2_with fail
        go_ret2
        exact ⟨rfl, (Keeps.au (G := [])).below⟩
    | true =>
      have e : countT t m = countL t.kids (m + 1) := if_neg (fun h => h.elim hm (fun h => by rw [hn] at h; cases h))
      rw [e]
      clear e
      obtain ⟨f0, hrest⟩ := node_pass hn
      have HT := Lib.hid hT
      have HH := Lib.hid ht
      clear hn hT ht
      obtain ⟨op, nn, kids⟩ := t
      simp only at *
      rcases hrest with ⟨f1, f2, f3, f4⟩ | ⟨f1, f2⟩ | ⟨f1, f2, f3⟩
      all_goals
        go_enter Tryd.func27, Tryd.ntmps27
        go_wp2_with fail
        go_quiet ((go_at_call 43; exact Calls.quiet_of_same ((CK _).out.mono fun _ _ h => ⟨h.1, h.2.symm⟩)))
        go_wp2_with fail
        go_loopw [1, 6, 7, 8, 43, 44, 45, 46, 47, 48, 49, 50, 51, 52, 53, 54, 55, 56, 57, 58, 59, 60, 61, 63] (fun lv i _ _ _ _ _ _ _ _ _ _ _ _ _ _ _ _ _ _ _ _ _ _ wr => ∃ (k : Nat) (r : Int), k ≤ kids.len ∧ lv = .int .i64 r ∧ i = .int .i64 k ∧ 0 ≤ r ∧ r ≤ 200 ∧ countL (Trs.ofL (kids.toL.drop k)) r = countL kids (m + 1) ∧ OwnB wr w.heap.size #[.int .i64 op, .int .i64 nn, .slice A kids.len c] 28 ∧ Below w.heap.size w wr) (fun _ i _ _ _ _ _ _ _ _ _ _ _ _ _ _ _ _ _ _ _ _ _ _ _ => kids.len - (intOf i).toNat)
        case atStart => exact ⟨0, m + 1, by omega, rfl, rfl, by omega, by simp at hm'; omega, by rw [List.drop_zero, Trs.ofL_toL], OwnB.au, (Keeps.au (G := [])).below⟩
        case round =>
          obtain ⟨k, r, hk, rfl, rfl, hr0, hr1, hr, hO, hb⟩ := hrel
          have HR := Lib.hid hr
          have HB1 := Lib.hid hb
          obtain ⟨y1, x1, z1⟩ := hO.facts
          have HO := Lib.hid hO
          clear hr hO
          by_cases hlt : k < kids.len
          · obtain ⟨t2, b, off, B, c2, hget, rfl, hbs, g0, g1, g2, hT2⟩ := (HT.out.kid.low hb).get hlt
            have HG := Lib.hid hget
            have HT2 := Lib.hid hT2
            clear hget hT2 hb
            have hm2 : t2.kids.size < n := by
              have h1 := Trs.size_mem kids t2 (List.mem_of_getElem? HG.out)
              have h2 := HH.out
              omega
            have HD := Lib.hid (countL_drop HG.out r)
            have hle2 := countT_le t2 r hr0 hr1
            have HC := fun w1 (hb : Below wr.heap.size wr w1) => Lib.hid (IH t2 hm2 r hr0 hr1 w1 B c2 (HT2.out.low hb))
            clear hm2
            generalize countT t2 r = q at *
            obtain ⟨m2, ok2⟩ := q
            cases ok2 with
            | true =>
              have hm3 := hle2.1
              have hm4 := hle2.2 rfl
              clear hle2
              simp only at hm3 hm4 HC
              go_wp2_with fail
              refine (HC _ (Keeps.au (G := [])).below).out.mono ?_
              rintro e w2 ⟨rfl, hb2⟩
              have HB2 := Lib.hid hb2
              clear hb2
              go_wp2_with fail
              go_roundw
              case rel =>
                refine ⟨k + 1, m2, by omega, rfl, by go_num, hm3, hm4, ?_, OwnB.call (G := []) HO.out (Keeps.of_below HB2.out) (by simp), ?_⟩
                · rw [← HR.out, HD.out]
                · exact ((Keeps.of_below (G := []) HB1.out).then_ (H := []) ((Keeps.au (G := [])).trans (Keeps.of_below HB2.out)) (by simp)).below
              case measure => simp [intOf]; omega
            | false =>
              clear hle2
              simp only at HC
              go_wp2_with fail
              refine (HC _ (Keeps.au (G := [])).below).out.mono ?_
              rintro e w2 ⟨rfl, hb2⟩
              have HB2 := Lib.hid hb2
              clear hb2
              go_wp2_with fail
              go_ret2
              refine ⟨?_, ((Keeps.of_below (G := []) HB1.out).then_ (H := []) ((Keeps.au (G := [])).trans (Keeps.of_below HB2.out)) (by simp)).below⟩
              rw [← HR.out, HD.out]; rfl
          · have hk2 : k = kids.len := by omega
            subst hk2
            go_wp2_with fail
            go_ret2
            refine ⟨?_, HB1.out⟩
            have := HR.out
            rw [List.drop_eq_nil_of_le (by rw [Trs.toL_len]; exact Nat.le_refl _)] at this
            rw [← this]; rfl
theorem count_all : ∀ n, CountC n := by
  intro n
  induction n with
  | zero => intro t h; exact absurd h (by omega)
  | succ n ih => exact count_step n ih
theorem tree_any (t : Tr) (w : World) (A : Option Addr) (c : Nat) (hT : TrR w t A c) :
    Calls Tryd.prog 10 #[trV t A c] w fun e w' => e = .returned (.tuple #[.int .i64 (many t), .bool (okB t)]) ∧ Below w.heap.size w w' := by
  have C := fun w1 (hb : Below w.heap.size w w1) => Lib.hid (count_all _ t (Nat.lt_succ_self _) 0 (by decide) (by decide) w1 A c (hT.low hb))
  unfold many okB
  clear hT
  generalize countT t 0 = q at *
  obtain ⟨m, b⟩ := q
  obtain ⟨op, n, kids⟩ := t
  go_enter Tryd.func10, Tryd.ntmps10
  go_wp2_with fail
  refine (C _ (Keeps.au (G := [])).below).out.mono ?_
  rintro e w1 ⟨rfl, hb⟩
  go_wp2_with fail
  go_ret2
  exact ⟨rfl, ((Keeps.au (G := [])).trans (Keeps.of_below hb)).below⟩
end Go.Proofs.YtgbgjecmamkdaaaDoor
