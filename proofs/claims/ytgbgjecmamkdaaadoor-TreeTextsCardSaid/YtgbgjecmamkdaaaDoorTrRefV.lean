/-
  The page's own: Pure, Eval.
-/
import Derived.Test.YtgbgjecmamkdaaaDoorTrRef
namespace Go.Proofs.YtgbgjecmamkdaaaDoor
open Go.RowKit
set_option linter.unusedVariables false
set_option linter.unusedSimpArgs false
set_option maxRecDepth 100000
set_option maxHeartbeats 1000000

def PureC (n : Nat) : Prop := ∀ (t : Tr), t.kids.size < n → ∀ (w : World) (A : Option Addr) (c : Nat), TrR w t A c →
  Calls Tryd.prog 11 #[trV t A c] w fun e w' => e = .returned (.bool (pureT t)) ∧ Below w.heap.size w w'
theorem pureL_drop {x : Trs} {k : Nat} {t : Tr} (h : x.toL[k]? = some t) : pureL (Trs.ofL (x.toL.drop k)) = (pureT t && pureL (Trs.ofL (x.toL.drop (k + 1)))) := by
  rw [drop_cons h]; rfl
theorem rpure_step (n : Nat) (IH : PureC n) : PureC (n + 1) := by
  intro t ht w A c hT
  have hcap := hT.cap
  have hle := hT.le
  unfold maxLen at hcap
  cases hp : pureOp t.op with
  | false =>
    have e : pureT t = false := by rw [pureT, hp]; rfl
    rw [e]
    clear e
    have hr : 2 ≤ t.op ∧ t.op ≤ 11 := Classical.not_not.1 (of_decide_eq_false hp)
    have hc : (t.op = 2) ∨ (t.op ≠ 2 ∧ t.op = 3) ∨ (t.op ≠ 2 ∧ t.op ≠ 3 ∧ t.op = 4) ∨ (t.op ≠ 2 ∧ t.op ≠ 3 ∧ t.op ≠ 4 ∧ 5 ≤ t.op ∧ t.op ≤ 11) := by omega
    clear hp hr hT ht
    obtain ⟨op, nn, kids⟩ := t
    simp only at *
    rcases hc with h | ⟨h1, h⟩ | ⟨h1, h2, h⟩ | ⟨h1, h2, h3, h4⟩
    · subst h
      go_enter Tryd.func11, Tryd.ntmps11
      go_wp2_with fail
      go_ret
      exact ⟨rfl, (Keeps.au (G := [])).below⟩
    · subst h
      go_enter Tryd.func11, Tryd.ntmps11
      go_wp2_with fail
      go_ret
      exact ⟨rfl, (Keeps.au (G := [])).below⟩
    · subst h
      go_enter Tryd.func11, Tryd.ntmps11
      go_wp2_with fail
      go_ret
      exact ⟨rfl, (Keeps.au (G := [])).below⟩
    · have f1 : (op == 2) = false := by simpa using h1
      have f2 : (op == 3) = false := by simpa using h2
      have f3 : (op == 4) = false := by simpa using h3
      have CL := fun w => Lib.hid (isLoad_any op true (decide_eq_true h4) w)
      clear h1 h2 h3 h4
      go_enter Tryd.func11, Tryd.ntmps11
      go_wp2_with (go_at_call 28; refine (CL _).out.mono ?_; rintro e w' ⟨rfl, rfl⟩)
      go_ret
      exact ⟨rfl, (Keeps.au (G := [])).below⟩
  | true =>
    have e : pureT t = pureL t.kids := by rw [pureT, hp]; rfl
    rw [e]
    clear e
    have hr : ¬ (2 ≤ t.op ∧ t.op ≤ 11) := of_decide_eq_true hp
    have f1 : (t.op == 2) = false := by simp; omega
    have f2 : (t.op == 3) = false := by simp; omega
    have f3 : (t.op == 4) = false := by simp; omega
    have CL := fun w => Lib.hid (isLoad_any t.op false (decide_eq_false (by omega)) w)
    have HT := Lib.hid hT
    have HH := Lib.hid ht
    clear hp hr hT ht
    obtain ⟨op, nn, kids⟩ := t
    simp only at *
    go_enter Tryd.func11, Tryd.ntmps11
    go_wp2_with (go_at_call 28; refine (CL _).out.mono ?_; rintro e w' ⟨rfl, rfl⟩)
    go_loopw [3, 22, 23, 24, 25, 26, 27, 28, 29, 30, 31, 32, 33, 34, 35] (fun i _ _ _ _ _ _ _ _ _ _ _ _ _ _ wr => ∃ (k : Nat), k ≤ kids.len ∧ i = .int .i64 k ∧ pureL (Trs.ofL (kids.toL.drop k)) = pureL kids ∧ OwnB wr w.heap.size #[.int .i64 op, .int .i64 nn, .slice A kids.len c] 28 ∧ Below w.heap.size w wr) (fun i _ _ _ _ _ _ _ _ _ _ _ _ _ _ _ => kids.len - (intOf i).toNat)
    case atStart => exact ⟨0, by omega, rfl, by rw [List.drop_zero, Trs.ofL_toL], OwnB.au, (Keeps.au (G := [])).below⟩
    case round =>
      obtain ⟨k, hk, rfl, hr, hO, hb⟩ := hrel
      have HR := Lib.hid hr
      have HB1 := Lib.hid hb
      obtain ⟨y1, x1, z1⟩ := hO.facts
      have HO := Lib.hid hO
      clear hr hO
      by_cases hlt : k < kids.len
      · obtain ⟨t2, b, off, B, c2, hget, rfl, hbs, g0, g1, g2, hT2⟩ := (HT.out.kid.low hb).get hlt
        have HG := Lib.hid hget
        have HT2 := Lib.hid hT2
        clear hget hT2 hb
        have hm2 : t2.kids.size < n := by
          have h1 := Trs.size_mem kids t2 (List.mem_of_getElem? HG.out)
          have h2 := HH.out
          omega
        have HD := Lib.hid (pureL_drop HG.out)
        have HC := fun w1 (hb : Below wr.heap.size wr w1) => Lib.hid (IH t2 hm2 w1 B c2 (HT2.out.low hb))
        clear hm2
        generalize pureT t2 = q at *
        cases q with
        | true =>
          go_wp2_with fail
          refine (HC _ (Keeps.au (G := [])).below).out.mono ?_
          rintro e w2 ⟨rfl, hb2⟩
          have HB2 := Lib.hid hb2
          clear hb2
          go_wp2_with fail
          go_roundw
          case rel =>
            refine ⟨k + 1, by omega, by go_num, ?_, OwnB.call (G := []) HO.out (Keeps.of_below HB2.out) (by simp), ?_⟩
            · rw [← HR.out, HD.out]; rfl
            · exact ((Keeps.of_below (G := []) HB1.out).then_ (H := []) ((Keeps.au (G := [])).trans (Keeps.of_below HB2.out)) (by simp)).below
          case measure => simp [intOf]; omega
        | false =>
          go_wp2_with fail
          refine (HC _ (Keeps.au (G := [])).below).out.mono ?_
          rintro e w2 ⟨rfl, hb2⟩
          have HB2 := Lib.hid hb2
          clear hb2
          go_wp2_with fail
          go_ret
          refine ⟨?_, ((Keeps.of_below (G := []) HB1.out).then_ (H := []) ((Keeps.au (G := [])).trans (Keeps.of_below HB2.out)) (by simp)).below⟩
          rw [← HR.out, HD.out]; rfl
      · have hk2 : k = kids.len := by omega
        subst hk2
        go_wp2_with fail
        go_ret
        refine ⟨?_, HB1.out⟩
        have := HR.out
        rw [List.drop_eq_nil_of_le (by rw [Trs.toL_len]; exact Nat.le_refl _)] at this
        rw [← this]; rfl
theorem rpure_any : ∀ n, PureC n := by
  intro n
  induction n with
  | zero => intro t h; exact absurd h (by omega)
  | succ n ih => exact rpure_step n ih
/-- What the page's Eval does. -/
def EvalC (n : Nat) : Prop := ∀ (t : Tr), t.kids.size < n → okT t = true → pureT t = true → ∀ (w : World) (A : Option Addr) (c : Nat), TrR w t A c →
  Calls Tryd.prog 12 #[trV t A c] w fun e w' => e = .returned (.int .i64 (evalT t)) ∧ Below w.heap.size w w'
theorem reval_step (n : Nat) (IH : EvalC n) : EvalC (n + 1) := by
  intro t ht hok hpu w A c hT
  have hko : okL t.kids = true := by rw [okT] at hok; simp only [Bool.and_eq_true] at hok; exact hok.2
  have hkp : pureL t.kids = true := by rw [pureT] at hpu; simp only [Bool.and_eq_true] at hpu; exact hpu.2
  have hcap := hT.cap
  have hle := hT.le
  unfold maxLen at hcap
  rcases pure_ops hok hpu with ⟨h0, h1, h2⟩ | ⟨h0, h1, h2⟩ | ⟨h0, h1, h2⟩
  · rw [h2]
    clear hok hpu hko hkp h2
    obtain ⟨op, nn, kids⟩ := t
    simp only at h0
    unfold trV
    simp only [h0]
    go_enter Tryd.func12, Tryd.ntmps12
    go_wp2_with fail
    go_ret
    exact ⟨rfl, (Keeps.au (G := [])).below⟩
  · obtain ⟨t2, b, off, B, c2, hget, rfl, hbs, f0, f1, f2, hT2⟩ := hT.kid.get (k := 0) (by omega)
    have hm : t2.kids.size < n := by
      have h1 := Trs.size_mem t.kids t2 (List.mem_of_getElem? hget)
      omega
    have ho2 := okL_mem _ t2 (List.mem_of_getElem? hget) hko
    have hp2 := pureL_mem _ t2 (List.mem_of_getElem? hget) hkp
    have he := h2 _ (evalL_get _ _ _ hget)
    rw [he]
    have C2 := fun w1 (hb : Below w.heap.size w w1) => Lib.hid (IH t2 hm ho2 hp2 w1 B c2 (hT2.low hb))
    have HU := fun w => Lib.hid (run_any t.op (evalT t2) h1 w)
    clear hok hpu hko hkp h2 hget hm ho2 hp2 he h1
    obtain ⟨op, nn, kids⟩ := t
    obtain ⟨op2, n2, kids2⟩ := t2
    simp only at h0 f0 f1 f2
    generalize evalT ⟨op2, n2, kids2⟩ = v2 at *
    generalize hu : unV op v2 = u at *
    clear hu
    rw [Nat.zero_mul, Nat.add_zero] at f0 f1 f2
    unfold trV
    simp only [h0]
    go_enter Tryd.func12, Tryd.ntmps12
    go_wp2_with fail
    refine wpH_start (fun w' => w'.cell? ⟨w.heap.size, 0, none⟩ = some (.int .i64 op) ∧ w'.cell? ⟨w.heap.size, 2, none⟩ = some (.slice (some ⟨b, off, none⟩) 1 c) ∧ w'.cell? ⟨b, off, none⟩ = some (.int .i64 op2) ∧ w'.cell? ⟨b, off + 1, none⟩ = some (.int .i64 n2) ∧ w'.cell? ⟨b, off + 2, none⟩ = some (.slice B kids2.len c2)) (by kernel_rfl) (by refine ⟨?_, ?_, ?_, ?_, ?_⟩ <;> go_simp) (fun hHeld => ?_)
    refine wpH_take 0 (v := ?_) (by kernel_rfl) (by kernel_rfl) (by kernel_rfl) rfl (fun _ _ _ h => h) (Or.inl ⟨by rfl, ?_⟩) hHeld ?_
    rotate_left
    · (intro w' hSw; obtain ⟨s0, s1, s2, s3, s4⟩ := hSw; go_simp; try with_reducible rfl)
    try simp only [Act.put, List.setIfInBounds_toArray, List.set_cons_zero, List.set_cons_succ]
    refine wpH_take 1 (v := ?_) (by kernel_rfl) (by kernel_rfl) (by kernel_rfl) rfl (fun _ _ _ h => h) (Or.inl ⟨by rfl, ?_⟩) hHeld ?_
    rotate_left
    · (intro w' hSw; obtain ⟨s0, s1, s2, s3, s4⟩ := hSw; go_simp; try with_reducible rfl)
    try simp only [Act.put, List.setIfInBounds_toArray, List.set_cons_zero, List.set_cons_succ]
    refine wpH_take 2 (v := ?_) (by kernel_rfl) (by kernel_rfl) (by kernel_rfl) rfl (fun _ _ _ h => h) (Or.inl ⟨by rfl, ?_⟩) hHeld ?_
    rotate_left
    · (intro w' hSw; obtain ⟨s0, s1, s2, s3, s4⟩ := hSw; go_simp; try with_reducible rfl)
    try simp only [Act.put, List.setIfInBounds_toArray, List.set_cons_zero, List.set_cons_succ]
    refine wpH_take 3 (v := ?_) (by kernel_rfl) (by kernel_rfl) (by kernel_rfl) rfl (fun _ _ _ h => h) (Or.inl ⟨by rfl, ?_⟩) hHeld ?_
    rotate_left
    · (intro w' hSw; obtain ⟨s0, s1, s2, s3, s4⟩ := hSw; go_simp; try with_reducible rfl)
    try simp only [Act.put, List.setIfInBounds_toArray, List.set_cons_zero, List.set_cons_succ]
    refine wpH_take 4 (v := ?_) (by kernel_rfl) (by kernel_rfl) (by kernel_rfl) rfl (fun _ _ _ h => h) (Or.inl ⟨by rfl, ?_⟩) hHeld ?_
    rotate_left
    · (intro w' hSw; obtain ⟨s0, s1, s2, s3, s4⟩ := hSw; go_simp; try with_reducible rfl)
    try simp only [Act.put, List.setIfInBounds_toArray, List.set_cons_zero, List.set_cons_succ]
    refine wpH_take 5 (v := ?_) (by kernel_rfl) (by kernel_rfl) (by kernel_rfl) rfl (fun _ _ _ h => h) (Or.inl ⟨by rfl, ?_⟩) hHeld ?_
    rotate_left
    · (intro w' hSw; obtain ⟨s0, s1, s2, s3, s4⟩ := hSw; go_simp; try with_reducible rfl)
    try simp only [Act.put, List.setIfInBounds_toArray, List.set_cons_zero, List.set_cons_succ]
    refine wpH_one 6 (by kernel_rfl) rfl (fun K hKo => ?_)
    go_simp
    refine (C2 _ (Keeps.au (G := [])).below).out.mono ?_
    rintro e w2 ⟨rfl, hb⟩
    have HB := Lib.hid (((Keeps.au (G := [])).trans (Keeps.of_below hb)).below : Below w.heap.size w w2)
    replace hHeld := And.intro (below_some hb _ _ hHeld.1) (And.intro (below_some hb _ _ hHeld.2.1) (And.intro (below_some hb _ _ hHeld.2.2.1) (And.intro (below_some hb _ _ hHeld.2.2.2.1) (below_some hb _ _ hHeld.2.2.2.2))))
    clear hb
    refine Shut.out hKo _ _ hHeld ?_
    clear hKo K
    try simp only [Act.put, List.setIfInBounds_toArray, List.set_cons_zero, List.set_cons_succ]
    refine wpH_one 7 (by kernel_rfl) rfl (fun K hKo => ?_)
    go_simp
    refine (HU _).out.mono ?_
    rintro e w3 ⟨rfl, rfl⟩
    refine Shut.out hKo _ _ hHeld ?_
    clear hKo K
    try simp only [Act.put, List.setIfInBounds_toArray, List.set_cons_zero, List.set_cons_succ]
    refine wpH_take 8 (v := ?_) (by kernel_rfl) (by kernel_rfl) (by kernel_rfl) rfl (fun _ _ _ h => h) (Or.inl ⟨by rfl, ?_⟩) hHeld ?_
    rotate_left
    · (intro w' hSw; obtain ⟨s0, s1, s2, s3, s4⟩ := hSw; go_simp; try with_reducible rfl)
    try simp only [Act.put, List.setIfInBounds_toArray, List.set_cons_zero, List.set_cons_succ]
    refine wpAnyH_done (by kernel_rfl) ?_ _
    go_wp2_with fail
    go_ret
    exact ⟨rfl, HB.out⟩
  · obtain ⟨t2, b, off, B, c2, hget, hA, hbs, f0, f1, f2, hT2⟩ := hT.kid.get (k := 0) (by omega)
    obtain ⟨t3, b', off', D, c3, hget3, hA', _, g0, g1, g2, hT3⟩ := hT.kid.get (k := 1) (by omega)
    subst hA
    obtain ⟨rfl, rfl⟩ : b = b' ∧ off = off' := by
      injection hA' with h
      injection h with h3 h4
      exact ⟨h3, h4⟩
    clear hA'
    have hm : t2.kids.size < n := by
      have h1 := Trs.size_mem t.kids t2 (List.mem_of_getElem? hget)
      omega
    have hm3 : t3.kids.size < n := by
      have h1 := Trs.size_mem t.kids t3 (List.mem_of_getElem? hget3)
      omega
    have ho2 := okL_mem _ t2 (List.mem_of_getElem? hget) hko
    have hp2 := pureL_mem _ t2 (List.mem_of_getElem? hget) hkp
    have ho3 := okL_mem _ t3 (List.mem_of_getElem? hget3) hko
    have hp3 := pureL_mem _ t3 (List.mem_of_getElem? hget3) hkp
    have he := h2 _ _ (evalL_get _ _ _ hget) (evalL_get _ _ _ hget3)
    rw [he]
    have C2 := fun w1 (hb : Below w.heap.size w w1) => Lib.hid (IH t2 hm ho2 hp2 w1 B c2 (hT2.low hb))
    have C3 := fun w1 (hb : Below w.heap.size w w1) => Lib.hid (IH t3 hm3 ho3 hp3 w1 D c3 (hT3.low hb))
    have HU := fun w => Lib.hid (r_any t.op (evalT t2) (evalT t3) h1.1 h1.2 (hT2.evalI ho2 hp2).wf (hT3.evalI ho3 hp3).wf w)
    clear hok hpu hko hkp h2 hget hget3 hm hm3 ho2 hp2 ho3 hp3 he h1
    obtain ⟨op, nn, kids⟩ := t
    obtain ⟨op2, n2, kids2⟩ := t2
    obtain ⟨op3, n3, kids3⟩ := t3
    simp only at h0 f0 f1 f2 g0 g1 g2
    generalize evalT ⟨op2, n2, kids2⟩ = v2 at *
    generalize evalT ⟨op3, n3, kids3⟩ = v3 at *
    generalize hu : binV op v2 v3 = u at *
    clear hu
    rw [Nat.zero_mul, Nat.add_zero] at f0 f1 f2
    rw [Nat.one_mul] at g0 g1 g2
    unfold trV
    simp only [h0]
    go_enter Tryd.func12, Tryd.ntmps12
    go_wp2_with fail
    refine wpH_start (fun w' => w'.cell? ⟨w.heap.size, 0, none⟩ = some (.int .i64 op) ∧ w'.cell? ⟨w.heap.size, 2, none⟩ = some (.slice (some ⟨b, off, none⟩) 2 c) ∧ w'.cell? ⟨b, off, none⟩ = some (.int .i64 op2) ∧ w'.cell? ⟨b, off + 1, none⟩ = some (.int .i64 n2) ∧ w'.cell? ⟨b, off + 2, none⟩ = some (.slice B kids2.len c2) ∧
      w'.cell? ⟨b, off + 3, none⟩ = some (.int .i64 op3) ∧ w'.cell? ⟨b, off + 3 + 1, none⟩ = some (.int .i64 n3) ∧ w'.cell? ⟨b, off + 3 + 2, none⟩ = some (.slice D kids3.len c3)) (by kernel_rfl) (by refine ⟨?_, ?_, ?_, ?_, ?_, ?_, ?_, ?_⟩ <;> go_simp) (fun hHeld => ?_)
    refine wpH_take 0 (v := ?_) (by kernel_rfl) (by kernel_rfl) (by kernel_rfl) rfl (fun _ _ _ h => h) (Or.inl ⟨by rfl, ?_⟩) hHeld ?_
    rotate_left
    · (intro w' hSw; obtain ⟨s0, s1, s2, s3, s4, s5, s6, s7⟩ := hSw; go_simp; try with_reducible rfl)
    try simp only [Act.put, List.setIfInBounds_toArray, List.set_cons_zero, List.set_cons_succ]
    refine wpH_take 1 (v := ?_) (by kernel_rfl) (by kernel_rfl) (by kernel_rfl) rfl (fun _ _ _ h => h) (Or.inl ⟨by rfl, ?_⟩) hHeld ?_
    rotate_left
    · (intro w' hSw; obtain ⟨s0, s1, s2, s3, s4, s5, s6, s7⟩ := hSw; go_simp; try with_reducible rfl)
    try simp only [Act.put, List.setIfInBounds_toArray, List.set_cons_zero, List.set_cons_succ]
    refine wpH_take 2 (v := ?_) (by kernel_rfl) (by kernel_rfl) (by kernel_rfl) rfl (fun _ _ _ h => h) (Or.inl ⟨by rfl, ?_⟩) hHeld ?_
    rotate_left
    · (intro w' hSw; obtain ⟨s0, s1, s2, s3, s4, s5, s6, s7⟩ := hSw; go_simp; try with_reducible rfl)
    try simp only [Act.put, List.setIfInBounds_toArray, List.set_cons_zero, List.set_cons_succ]
    refine wpH_take 3 (v := ?_) (by kernel_rfl) (by kernel_rfl) (by kernel_rfl) rfl (fun _ _ _ h => h) (Or.inl ⟨by rfl, ?_⟩) hHeld ?_
    rotate_left
    · (intro w' hSw; obtain ⟨s0, s1, s2, s3, s4, s5, s6, s7⟩ := hSw; go_simp; try with_reducible rfl)
    try simp only [Act.put, List.setIfInBounds_toArray, List.set_cons_zero, List.set_cons_succ]
    refine wpH_take 4 (v := ?_) (by kernel_rfl) (by kernel_rfl) (by kernel_rfl) rfl (fun _ _ _ h => h) (Or.inl ⟨by rfl, ?_⟩) hHeld ?_
    rotate_left
    · (intro w' hSw; obtain ⟨s0, s1, s2, s3, s4, s5, s6, s7⟩ := hSw; go_simp; try with_reducible rfl)
    try simp only [Act.put, List.setIfInBounds_toArray, List.set_cons_zero, List.set_cons_succ]
    refine wpH_take 5 (v := ?_) (by kernel_rfl) (by kernel_rfl) (by kernel_rfl) rfl (fun _ _ _ h => h) (Or.inl ⟨by rfl, ?_⟩) hHeld ?_
    rotate_left
    · (intro w' hSw; obtain ⟨s0, s1, s2, s3, s4, s5, s6, s7⟩ := hSw; go_simp; try with_reducible rfl)
    try simp only [Act.put, List.setIfInBounds_toArray, List.set_cons_zero, List.set_cons_succ]
    refine wpH_take 7 (v := ?_) (by kernel_rfl) (by kernel_rfl) (by kernel_rfl) rfl (fun _ _ _ h => h) (Or.inl ⟨by rfl, ?_⟩) hHeld ?_
    rotate_left
    · (intro w' hSw; obtain ⟨s0, s1, s2, s3, s4, s5, s6, s7⟩ := hSw; go_simp; try with_reducible rfl)
    try simp only [Act.put, List.setIfInBounds_toArray, List.set_cons_zero, List.set_cons_succ]
    refine wpH_take 8 (v := ?_) (by kernel_rfl) (by kernel_rfl) (by kernel_rfl) rfl (fun _ _ _ h => h) (Or.inl ⟨by rfl, ?_⟩) hHeld ?_
    rotate_left
    · (intro w' hSw; obtain ⟨s0, s1, s2, s3, s4, s5, s6, s7⟩ := hSw; go_simp; try with_reducible rfl)
    try simp only [Act.put, List.setIfInBounds_toArray, List.set_cons_zero, List.set_cons_succ]
    refine wpH_take 9 (v := ?_) (by kernel_rfl) (by kernel_rfl) (by kernel_rfl) rfl (fun _ _ _ h => h) (Or.inl ⟨by rfl, ?_⟩) hHeld ?_
    rotate_left
    · (intro w' hSw; obtain ⟨s0, s1, s2, s3, s4, s5, s6, s7⟩ := hSw; go_simp; try with_reducible rfl)
    try simp only [Act.put, List.setIfInBounds_toArray, List.set_cons_zero, List.set_cons_succ]
    refine wpH_take 10 (v := ?_) (by kernel_rfl) (by kernel_rfl) (by kernel_rfl) rfl (fun _ _ _ h => h) (Or.inl ⟨by rfl, ?_⟩) hHeld ?_
    rotate_left
    · (intro w' hSw; obtain ⟨s0, s1, s2, s3, s4, s5, s6, s7⟩ := hSw; go_simp; try with_reducible rfl)
    try simp only [Act.put, List.setIfInBounds_toArray, List.set_cons_zero, List.set_cons_succ]
    refine wpH_one 6 (by kernel_rfl) rfl (fun K hKo => ?_)
    go_simp
    refine (C2 _ (Keeps.au (G := [])).below).out.mono ?_
    rintro e w2 ⟨rfl, hb⟩
    have HB := Lib.hid (((Keeps.au (G := [])).trans (Keeps.of_below hb)).below : Below w.heap.size w w2)
    replace hHeld := And.intro (below_some hb _ _ hHeld.1) (And.intro (below_some hb _ _ hHeld.2.1) (And.intro (below_some hb _ _ hHeld.2.2.1) (And.intro (below_some hb _ _ hHeld.2.2.2.1) (And.intro (below_some hb _ _ hHeld.2.2.2.2.1) (And.intro (below_some hb _ _ hHeld.2.2.2.2.2.1) (And.intro (below_some hb _ _ hHeld.2.2.2.2.2.2.1) (below_some hb _ _ hHeld.2.2.2.2.2.2.2)))))))
    clear hb
    refine Shut.out hKo _ _ hHeld ?_
    clear hKo K
    try simp only [Act.put, List.setIfInBounds_toArray, List.set_cons_zero, List.set_cons_succ]
    refine wpH_one 11 (by kernel_rfl) rfl (fun K hKo => ?_)
    go_simp
    refine (C3 _ HB.out).out.mono ?_
    rintro e w3 ⟨rfl, hb⟩
    have HB3 := Lib.hid (((Keeps.of_below (G := []) HB.out).then_ (H := []) (Keeps.of_below hb) (by simp)).below : Below w.heap.size w w3)
    replace hHeld := And.intro (below_some hb _ _ hHeld.1) (And.intro (below_some hb _ _ hHeld.2.1) (And.intro (below_some hb _ _ hHeld.2.2.1) (And.intro (below_some hb _ _ hHeld.2.2.2.1) (And.intro (below_some hb _ _ hHeld.2.2.2.2.1) (And.intro (below_some hb _ _ hHeld.2.2.2.2.2.1) (And.intro (below_some hb _ _ hHeld.2.2.2.2.2.2.1) (below_some hb _ _ hHeld.2.2.2.2.2.2.2)))))))
    clear hb HB
    refine Shut.out hKo _ _ hHeld ?_
    clear hKo K
    try simp only [Act.put, List.setIfInBounds_toArray, List.set_cons_zero, List.set_cons_succ]
    refine wpH_one 12 (by kernel_rfl) rfl (fun K hKo => ?_)
    go_simp
    refine (HU _).out.mono ?_
    rintro e w4 ⟨rfl, rfl⟩
    refine Shut.out hKo _ _ hHeld ?_
    clear hKo K
    try simp only [Act.put, List.setIfInBounds_toArray, List.set_cons_zero, List.set_cons_succ]
    refine wpH_take 13 (v := ?_) (by kernel_rfl) (by kernel_rfl) (by kernel_rfl) rfl (fun _ _ _ h => h) (Or.inl ⟨by rfl, ?_⟩) hHeld ?_
    rotate_left
    · (intro w' hSw; obtain ⟨s0, s1, s2, s3, s4, s5, s6, s7⟩ := hSw; go_simp; try with_reducible rfl)
    try simp only [Act.put, List.setIfInBounds_toArray, List.set_cons_zero, List.set_cons_succ]
    refine wpAnyH_done (by kernel_rfl) ?_ _
    go_wp2_with fail
    go_ret
    exact ⟨rfl, HB3.out⟩
theorem reval_any : ∀ n, EvalC n := by
  intro n
  induction n with
  | zero => intro t h; exact absurd h (by omega)
  | succ n ih => exact reval_step n ih
end Go.Proofs.YtgbgjecmamkdaaaDoor
