/-
  Pure, value, Eval: what a pure tree comes to.
-/
import Derived.Test.YtgbgjecmamkdaaaDoorTrSize
import Derived.Test.YtgbgjecmamkdaaaDoorTrHeld
namespace Go.Proofs.YtgbgjecmamkdaaaDoor
open Go.RowKit
set_option linter.unusedVariables false
set_option linter.unusedSimpArgs false
set_option maxRecDepth 100000
set_option maxHeartbeats 1000000

theorem pure_any (t : Tr) (b : Bool) (h : okB t = true) (hp : pureT t = b) (w : World) (A : Option Addr) (c : Nat) (hT : TrR w t A c) :
    Calls Tryd.prog 8 #[trV t A c] w fun e w' => e = .returned (.tuple #[.bool b, .int .i64 0]) ∧ Below w.heap.size w w' := by
  have hok := ok_countT t 0 h
  have C := fun w1 (hb : Below w.heap.size w w1) => Lib.hid (check_any t true h w1 A c (hT.low hb))
  have D := fun w1 (hb : Below w.heap.size w w1) => Lib.hid (ops_any _ t (Nat.lt_succ_self _) hok w1 A c (hT.low hb))
  have hbit : ((bits BinOp.and IntKind.u64 ((opsT t : Nat) : Int) 4092 == 0) : Bool) = b := by
    rw [show (4092 : Int) = ((4092 : Nat) : Int) from rfl, u64_and_nat _ _ (Nat.lt_of_lt_of_le (opsT_lt t hok) (by decide)) (by decide)]
    have e := opsT_pure t hok
    rw [hp] at e
    cases b with
    | true =>
      rw [e.2 rfl]; rfl
    | false =>
      have h1 : ¬ (opsT t &&& 4092 = 0) := fun h => by cases e.1 h
      simpa using h1
  clear hT h hp hok
  generalize opsT t = m at *
  obtain ⟨op, n, kids⟩ := t
  go_enter Tryd.func8, Tryd.ntmps8
  go_wp2_with fail
  refine (C _ (Keeps.au (G := [])).below).out.mono ?_
  rintro e w1 ⟨rfl, hb⟩
  have O1 : OwnB w1 w.heap.size #[.int .i64 op, .int .i64 n, .slice A kids.len c] 28 := OwnB.call (G := []) OwnB.au (Keeps.of_below hb) (by simp)
  obtain ⟨y1, x1, z1⟩ := O1.facts
  have HB := Lib.hid (((Keeps.au (G := [])).trans (Keeps.of_below hb)).below : Below w.heap.size w w1)
  clear hb
  go_wp2_with fail
  refine (D _ HB.out).out.mono ?_
  rintro e w2 ⟨rfl, hb⟩
  go_wp2_with fail
  go_ret2
  exact ⟨rfl, ((Keeps.of_below (G := []) HB.out).then_ (H := []) (Keeps.of_below hb) (by simp)).below⟩
theorem pure_no (t : Tr) (h : okB t = false) (w : World) (A : Option Addr) (c : Nat) (hT : TrR w t A c) :
    Calls Tryd.prog 8 #[trV t A c] w fun e w' => e = .returned (.tuple #[.bool false, .int .i64 1]) ∧ Below w.heap.size w w' := by
  have C := fun w1 (hb : Below w.heap.size w w1) => Lib.hid (check_any t false h w1 A c (hT.low hb))
  clear hT h
  obtain ⟨op, n, kids⟩ := t
  go_enter Tryd.func8, Tryd.ntmps8
  go_wp2_with fail
  refine (C _ (Keeps.au (G := [])).below).out.mono ?_
  rintro e w1 ⟨rfl, hb⟩
  go_wp2_with fail
  go_ret2
  exact ⟨rfl, ((Keeps.au (G := [])).trans (Keeps.of_below hb)).below⟩
/-- What value does. -/
def ValC (n : Nat) : Prop := ∀ (t : Tr), t.kids.size < n → okT t = true → pureT t = true → ∀ (w : World) (A : Option Addr) (c : Nat), TrR w t A c →
  Calls Tryd.prog 26 #[trV t A c] w fun e w' => e = .returned (.int .i64 (evalT t)) ∧ Below w.heap.size w w'
theorem pureL_mem : ∀ (x : Trs) (t : Tr), t ∈ x.toL → pureL x = true → pureT t = true := by
  intro x
  induction x with
  | nil => intro t h; cases h
  | cons op n kids rest _ ih =>
    intro t h ho
    rw [pureL] at ho
    simp only [Bool.and_eq_true] at ho
    rcases List.mem_cons.1 h with rfl | h
    · rw [pureT]; simp [ho.1.1, ho.1.2]
    · exact ih t h ho.2
/-- What the number of a pure tree's kids says. -/
theorem pure_ops {t : Tr} (ho : okT t = true) (hp : pureT t = true) : (t.kids.len = 0 ∧ t.op = 1 ∧ evalT t = t.n) ∨ (t.kids.len = 1 ∧ (31 ≤ t.op ∧ t.op ≤ 36) ∧ ∀ a, (evalL t.kids)[0]? = some a → evalT t = unV t.op a) ∨
    (t.kids.len = 2 ∧ (12 ≤ t.op ∧ t.op ≤ 30) ∧ ∀ a b, (evalL t.kids)[0]? = some a → (evalL t.kids)[1]? = some b → evalT t = binV t.op a b) := by
  rw [okT] at ho
  rw [pureT] at hp
  simp only [Bool.and_eq_true] at ho hp
  have hl := (node_op ho.1).2.2
  have h1 := (node_op ho.1).1
  have h36 := (node_op ho.1).2.1
  have hpo : ¬ (2 ≤ t.op ∧ t.op ≤ 11) := of_decide_eq_true hp.1
  have hlen := evalL_len t.kids
  unfold ariV at hl
  unfold evalT
  match he : evalL t.kids with
  | [] =>
    rw [he] at hlen
    simp only [List.length_nil] at hlen
    left
    rw [← hlen] at hl
    refine ⟨hlen.symm, ?_, rfl⟩
    repeat' split at hl
    all_goals omega
  | [a] =>
    rw [he] at hlen
    simp only [List.length_cons, List.length_nil] at hlen
    right; left
    rw [← hlen] at hl
    refine ⟨hlen.symm, ?_, fun x hx => ?_⟩
    · repeat' split at hl
      all_goals omega
    · obtain rfl : a = x := by simpa using hx
      rfl
  | a :: b :: r =>
    rw [he] at hlen
    simp only [List.length_cons] at hlen
    right; right
    rw [← hlen] at hl
    have h2 : r.length = 0 ∧ 12 ≤ t.op ∧ t.op ≤ 30 := by
      repeat' split at hl
      all_goals omega
    refine ⟨by omega, h2.2, fun x y hx hy => ?_⟩
    obtain rfl : a = x := by simpa using hx
    obtain rfl : b = y := by simpa using hy
    rfl
theorem val_step (n : Nat) (IH : ValC n) : ValC (n + 1) := by
  intro t ht hok hpu w A c hT
  have hko : okL t.kids = true := by rw [okT] at hok; simp only [Bool.and_eq_true] at hok; exact hok.2
  have hkp : pureL t.kids = true := by rw [pureT] at hpu; simp only [Bool.and_eq_true] at hpu; exact hpu.2
  have hcap := hT.cap
  have hle := hT.le
  unfold maxLen at hcap
  have CA := fun w => Lib.hid (arity_any t.op hT.op w)
  rcases pure_ops hok hpu with ⟨h0, h1, h2⟩ | ⟨h0, h1, h2⟩ | ⟨h0, h1, h2⟩
  · rw [h2]
    rw [h1, show ariV 1 = 0 from rfl] at CA
    clear hok hpu hko hkp h2
    obtain ⟨op, nn, kids⟩ := t
    simp only at h1
    subst h1
    go_enter Tryd.func26, Tryd.ntmps26
    go_wp2_with (go_at_call 40; refine (CA _).out.mono ?_; rintro e w' ⟨rfl, rfl⟩)
    go_ret
    exact ⟨rfl, (Keeps.au (G := [])).below⟩
  · have ha : ariV t.op = 1 := by
      unfold ariV
      rw [if_neg (by omega), if_pos (by omega)]
    rw [ha] at CA
    obtain ⟨t2, b, off, B, c2, hget, rfl, hbs, f0, f1, f2, hT2⟩ := hT.kid.get (k := 0) (by omega)
    have hm : t2.kids.size < n := by
      have h1 := Trs.size_mem t.kids t2 (List.mem_of_getElem? hget)
      omega
    have ho2 := okL_mem _ t2 (List.mem_of_getElem? hget) hko
    have hp2 := pureL_mem _ t2 (List.mem_of_getElem? hget) hkp
    have he := h2 _ (evalL_get _ _ _ hget)
    rw [he]
    have C2 := fun w1 (hb : Below w.heap.size w w1) => Lib.hid (IH t2 hm ho2 hp2 w1 B c2 (hT2.low hb))
    have HU := fun w => Lib.hid (un_any t.op (evalT t2) h1 w)
    clear hok hpu hko hkp h2 hget hm ho2 hp2 he ha h1
    obtain ⟨op, nn, kids⟩ := t
    obtain ⟨op2, n2, kids2⟩ := t2
    simp only at h0 f0 f1 f2
    generalize evalT ⟨op2, n2, kids2⟩ = v2 at *
    generalize hu : unV op v2 = u at *
    clear hu
    rw [Nat.zero_mul, Nat.add_zero] at f0 f1 f2
    unfold trV
    simp only [h0]
    go_enter Tryd.func26, Tryd.ntmps26
    go_wp2_with (go_at_call 40; refine (CA _).out.mono ?_; rintro e w' ⟨rfl, rfl⟩)
    refine wpH_start (fun w' => w'.cell? ⟨w.heap.size, 0, none⟩ = some (.int .i64 op) ∧ w'.cell? ⟨w.heap.size, 2, none⟩ = some (.slice (some ⟨b, off, none⟩) 1 c) ∧ w'.cell? ⟨b, off, none⟩ = some (.int .i64 op2) ∧ w'.cell? ⟨b, off + 1, none⟩ = some (.int .i64 n2) ∧ w'.cell? ⟨b, off + 2, none⟩ = some (.slice B kids2.len c2)) (by kernel_rfl) (by refine ⟨?_, ?_, ?_, ?_, ?_⟩ <;> go_simp) (fun hHeld => ?_)
    refine wpH_take 0 (v := ?_) (by kernel_rfl) (by kernel_rfl) (by kernel_rfl) rfl (fun _ _ _ h => h) (Or.inl ⟨by rfl, ?_⟩) hHeld ?_
    rotate_left
    · (intro w' hSw; obtain ⟨s0, s1, s2, s3, s4⟩ := hSw; go_simp; try with_reducible rfl)
    try simp only [Act.put, List.setIfInBounds_toArray, List.set_cons_zero, List.set_cons_succ]
    refine wpH_take 1 (v := ?_) (by kernel_rfl) (by kernel_rfl) (by kernel_rfl) rfl (fun _ _ _ h => h) (Or.inl ⟨by rfl, ?_⟩) hHeld ?_
    rotate_left
    · (intro w' hSw; obtain ⟨s0, s1, s2, s3, s4⟩ := hSw; go_simp; try with_reducible rfl)
    try simp only [Act.put, List.setIfInBounds_toArray, List.set_cons_zero, List.set_cons_succ]
    refine wpH_take 2 (v := ?_) (by kernel_rfl) (by kernel_rfl) (by kernel_rfl) rfl (fun _ _ _ h => h) (Or.inl ⟨by rfl, ?_⟩) hHeld ?_
    rotate_left
    · (intro w' hSw; obtain ⟨s0, s1, s2, s3, s4⟩ := hSw; go_simp; try with_reducible rfl)
    try simp only [Act.put, List.setIfInBounds_toArray, List.set_cons_zero, List.set_cons_succ]
    refine wpH_take 3 (v := ?_) (by kernel_rfl) (by kernel_rfl) (by kernel_rfl) rfl (fun _ _ _ h => h) (Or.inl ⟨by rfl, ?_⟩) hHeld ?_
    rotate_left
    · (intro w' hSw; obtain ⟨s0, s1, s2, s3, s4⟩ := hSw; go_simp; try with_reducible rfl)
    try simp only [Act.put, List.setIfInBounds_toArray, List.set_cons_zero, List.set_cons_succ]
    refine wpH_take 4 (v := ?_) (by kernel_rfl) (by kernel_rfl) (by kernel_rfl) rfl (fun _ _ _ h => h) (Or.inl ⟨by rfl, ?_⟩) hHeld ?_
    rotate_left
    · (intro w' hSw; obtain ⟨s0, s1, s2, s3, s4⟩ := hSw; go_simp; try with_reducible rfl)
    try simp only [Act.put, List.setIfInBounds_toArray, List.set_cons_zero, List.set_cons_succ]
    refine wpH_take 5 (v := ?_) (by kernel_rfl) (by kernel_rfl) (by kernel_rfl) rfl (fun _ _ _ h => h) (Or.inl ⟨by rfl, ?_⟩) hHeld ?_
    rotate_left
    · (intro w' hSw; obtain ⟨s0, s1, s2, s3, s4⟩ := hSw; go_simp; try with_reducible rfl)
    try simp only [Act.put, List.setIfInBounds_toArray, List.set_cons_zero, List.set_cons_succ]
    refine wpH_one 6 (by kernel_rfl) rfl (fun K hKo => ?_)
    go_simp
    refine (C2 _ (Keeps.au (G := [])).below).out.mono ?_
    rintro e w2 ⟨rfl, hb⟩
    have HB := Lib.hid (((Keeps.au (G := [])).trans (Keeps.of_below hb)).below : Below w.heap.size w w2)
    replace hHeld := And.intro (below_some hb _ _ hHeld.1) (And.intro (below_some hb _ _ hHeld.2.1) (And.intro (below_some hb _ _ hHeld.2.2.1) (And.intro (below_some hb _ _ hHeld.2.2.2.1) (below_some hb _ _ hHeld.2.2.2.2))))
    clear hb
    refine Shut.out hKo _ _ hHeld ?_
    clear hKo K
    try simp only [Act.put, List.setIfInBounds_toArray, List.set_cons_zero, List.set_cons_succ]
    refine wpH_one 7 (by kernel_rfl) rfl (fun K hKo => ?_)
    go_simp
    refine (HU _).out.mono ?_
    rintro e w3 ⟨rfl, hb⟩
    have HB3 := Lib.hid (((Keeps.of_below (G := []) HB.out).then_ (H := []) (Keeps.of_below hb) (by simp)).below : Below w.heap.size w w3)
    replace hHeld := And.intro (below_some hb _ _ hHeld.1) (And.intro (below_some hb _ _ hHeld.2.1) (And.intro (below_some hb _ _ hHeld.2.2.1) (And.intro (below_some hb _ _ hHeld.2.2.2.1) (below_some hb _ _ hHeld.2.2.2.2))))
    clear hb HB
    refine Shut.out hKo _ _ hHeld ?_
    clear hKo K
    try simp only [Act.put, List.setIfInBounds_toArray, List.set_cons_zero, List.set_cons_succ]
    refine wpH_take 8 (v := ?_) (by kernel_rfl) (by kernel_rfl) (by kernel_rfl) rfl (fun _ _ _ h => h) (Or.inl ⟨by rfl, ?_⟩) hHeld ?_
    rotate_left
    · (intro w' hSw; obtain ⟨s0, s1, s2, s3, s4⟩ := hSw; go_simp; try with_reducible rfl)
    try simp only [Act.put, List.setIfInBounds_toArray, List.set_cons_zero, List.set_cons_succ]
    refine wpH_take 9 (v := ?_) (by kernel_rfl) (by kernel_rfl) (by kernel_rfl) rfl (fun _ _ _ h => h) (Or.inl ⟨by rfl, ?_⟩) hHeld ?_
    rotate_left
    · (intro w' hSw; obtain ⟨s0, s1, s2, s3, s4⟩ := hSw; go_simp; try with_reducible rfl)
    try simp only [Act.put, List.setIfInBounds_toArray, List.set_cons_zero, List.set_cons_succ]
    refine wpH_take 10 (v := ?_) (by kernel_rfl) (by kernel_rfl) (by kernel_rfl) rfl (fun _ _ _ h => h) (Or.inl ⟨by rfl, ?_⟩) hHeld ?_
    rotate_left
    · (intro w' hSw; obtain ⟨s0, s1, s2, s3, s4⟩ := hSw; go_simp; try with_reducible rfl)
    try simp only [Act.put, List.setIfInBounds_toArray, List.set_cons_zero, List.set_cons_succ]
    refine wpH_take 11 (v := ?_) (by kernel_rfl) (by kernel_rfl) (by kernel_rfl) rfl (fun _ _ _ h => h) (Or.inl ⟨by rfl, ?_⟩) hHeld ?_
    rotate_left
    · (intro w' hSw; obtain ⟨s0, s1, s2, s3, s4⟩ := hSw; go_simp; try with_reducible rfl)
    try simp only [Act.put, List.setIfInBounds_toArray, List.set_cons_zero, List.set_cons_succ]
    refine wpAnyH_done (by kernel_rfl) ?_ _
    go_wp2_with fail
    go_ret
    exact ⟨rfl, HB3.out⟩
  · have ha : ariV t.op = 2 := by
      unfold ariV
      rw [if_neg (by omega), if_neg (by omega), if_pos (by omega)]
    rw [ha] at CA
    obtain ⟨t2, b, off, B, c2, hget, hA, hbs, f0, f1, f2, hT2⟩ := hT.kid.get (k := 0) (by omega)
    obtain ⟨t3, b', off', D, c3, hget3, hA', _, g0, g1, g2, hT3⟩ := hT.kid.get (k := 1) (by omega)
    subst hA
    obtain ⟨rfl, rfl⟩ : b = b' ∧ off = off' := by
      injection hA' with h
      injection h with h3 h4
      exact ⟨h3, h4⟩
    clear hA'
    have hm : t2.kids.size < n := by
      have h1 := Trs.size_mem t.kids t2 (List.mem_of_getElem? hget)
      omega
    have hm3 : t3.kids.size < n := by
      have h1 := Trs.size_mem t.kids t3 (List.mem_of_getElem? hget3)
      omega
    have ho2 := okL_mem _ t2 (List.mem_of_getElem? hget) hko
    have hp2 := pureL_mem _ t2 (List.mem_of_getElem? hget) hkp
    have ho3 := okL_mem _ t3 (List.mem_of_getElem? hget3) hko
    have hp3 := pureL_mem _ t3 (List.mem_of_getElem? hget3) hkp
    have he := h2 _ _ (evalL_get _ _ _ hget) (evalL_get _ _ _ hget3)
    rw [he]
    have C2 := fun w1 (hb : Below w.heap.size w w1) => Lib.hid (IH t2 hm ho2 hp2 w1 B c2 (hT2.low hb))
    have C3 := fun w1 (hb : Below w.heap.size w w1) => Lib.hid (IH t3 hm3 ho3 hp3 w1 D c3 (hT3.low hb))
    have HU := fun w => Lib.hid (p_any t.op (evalT t2) (evalT t3) h1.1 h1.2 (hT3.evalI ho3 hp3).wf w)
    clear hok hpu hko hkp h2 hget hget3 hm hm3 ho2 hp2 ho3 hp3 he ha h1
    obtain ⟨op, nn, kids⟩ := t
    obtain ⟨op2, n2, kids2⟩ := t2
    obtain ⟨op3, n3, kids3⟩ := t3
    simp only at h0 f0 f1 f2 g0 g1 g2
    generalize evalT ⟨op2, n2, kids2⟩ = v2 at *
    generalize evalT ⟨op3, n3, kids3⟩ = v3 at *
    generalize hu : binV op v2 v3 = u at *
    clear hu
    rw [Nat.zero_mul, Nat.add_zero] at f0 f1 f2
    rw [Nat.one_mul] at g0 g1 g2
    unfold trV
    simp only [h0]
    go_enter Tryd.func26, Tryd.ntmps26
    go_wp2_with (go_at_call 40; refine (CA _).out.mono ?_; rintro e w' ⟨rfl, rfl⟩)
    refine wpH_start (fun w' => w'.cell? ⟨w.heap.size, 0, none⟩ = some (.int .i64 op) ∧ w'.cell? ⟨w.heap.size, 2, none⟩ = some (.slice (some ⟨b, off, none⟩) 2 c) ∧ w'.cell? ⟨b, off, none⟩ = some (.int .i64 op2) ∧ w'.cell? ⟨b, off + 1, none⟩ = some (.int .i64 n2) ∧ w'.cell? ⟨b, off + 2, none⟩ = some (.slice B kids2.len c2) ∧
      w'.cell? ⟨b, off + 3, none⟩ = some (.int .i64 op3) ∧ w'.cell? ⟨b, off + 3 + 1, none⟩ = some (.int .i64 n3) ∧ w'.cell? ⟨b, off + 3 + 2, none⟩ = some (.slice D kids3.len c3)) (by kernel_rfl) (by refine ⟨?_, ?_, ?_, ?_, ?_, ?_, ?_, ?_⟩ <;> go_simp) (fun hHeld => ?_)
    refine wpH_take 0 (v := ?_) (by kernel_rfl) (by kernel_rfl) (by kernel_rfl) rfl (fun _ _ _ h => h) (Or.inl ⟨by rfl, ?_⟩) hHeld ?_
    rotate_left
    · (intro w' hSw; obtain ⟨s0, s1, s2, s3, s4, s5, s6, s7⟩ := hSw; go_simp; try with_reducible rfl)
    try simp only [Act.put, List.setIfInBounds_toArray, List.set_cons_zero, List.set_cons_succ]
    refine wpH_take 1 (v := ?_) (by kernel_rfl) (by kernel_rfl) (by kernel_rfl) rfl (fun _ _ _ h => h) (Or.inl ⟨by rfl, ?_⟩) hHeld ?_
    rotate_left
    · (intro w' hSw; obtain ⟨s0, s1, s2, s3, s4, s5, s6, s7⟩ := hSw; go_simp; try with_reducible rfl)
    try simp only [Act.put, List.setIfInBounds_toArray, List.set_cons_zero, List.set_cons_succ]
    refine wpH_take 2 (v := ?_) (by kernel_rfl) (by kernel_rfl) (by kernel_rfl) rfl (fun _ _ _ h => h) (Or.inl ⟨by rfl, ?_⟩) hHeld ?_
    rotate_left
    · (intro w' hSw; obtain ⟨s0, s1, s2, s3, s4, s5, s6, s7⟩ := hSw; go_simp; try with_reducible rfl)
    try simp only [Act.put, List.setIfInBounds_toArray, List.set_cons_zero, List.set_cons_succ]
    refine wpH_take 3 (v := ?_) (by kernel_rfl) (by kernel_rfl) (by kernel_rfl) rfl (fun _ _ _ h => h) (Or.inl ⟨by rfl, ?_⟩) hHeld ?_
    rotate_left
    · (intro w' hSw; obtain ⟨s0, s1, s2, s3, s4, s5, s6, s7⟩ := hSw; go_simp; try with_reducible rfl)
    try simp only [Act.put, List.setIfInBounds_toArray, List.set_cons_zero, List.set_cons_succ]
    refine wpH_take 4 (v := ?_) (by kernel_rfl) (by kernel_rfl) (by kernel_rfl) rfl (fun _ _ _ h => h) (Or.inl ⟨by rfl, ?_⟩) hHeld ?_
    rotate_left
    · (intro w' hSw; obtain ⟨s0, s1, s2, s3, s4, s5, s6, s7⟩ := hSw; go_simp; try with_reducible rfl)
    try simp only [Act.put, List.setIfInBounds_toArray, List.set_cons_zero, List.set_cons_succ]
    refine wpH_take 5 (v := ?_) (by kernel_rfl) (by kernel_rfl) (by kernel_rfl) rfl (fun _ _ _ h => h) (Or.inl ⟨by rfl, ?_⟩) hHeld ?_
    rotate_left
    · (intro w' hSw; obtain ⟨s0, s1, s2, s3, s4, s5, s6, s7⟩ := hSw; go_simp; try with_reducible rfl)
    try simp only [Act.put, List.setIfInBounds_toArray, List.set_cons_zero, List.set_cons_succ]
    refine wpH_take 7 (v := ?_) (by kernel_rfl) (by kernel_rfl) (by kernel_rfl) rfl (fun _ _ _ h => h) (Or.inl ⟨by rfl, ?_⟩) hHeld ?_
    rotate_left
    · (intro w' hSw; obtain ⟨s0, s1, s2, s3, s4, s5, s6, s7⟩ := hSw; go_simp; try with_reducible rfl)
    try simp only [Act.put, List.setIfInBounds_toArray, List.set_cons_zero, List.set_cons_succ]
    refine wpH_take 8 (v := ?_) (by kernel_rfl) (by kernel_rfl) (by kernel_rfl) rfl (fun _ _ _ h => h) (Or.inl ⟨by rfl, ?_⟩) hHeld ?_
    rotate_left
    · (intro w' hSw; obtain ⟨s0, s1, s2, s3, s4, s5, s6, s7⟩ := hSw; go_simp; try with_reducible rfl)
    try simp only [Act.put, List.setIfInBounds_toArray, List.set_cons_zero, List.set_cons_succ]
    refine wpH_take 9 (v := ?_) (by kernel_rfl) (by kernel_rfl) (by kernel_rfl) rfl (fun _ _ _ h => h) (Or.inl ⟨by rfl, ?_⟩) hHeld ?_
    rotate_left
    · (intro w' hSw; obtain ⟨s0, s1, s2, s3, s4, s5, s6, s7⟩ := hSw; go_simp; try with_reducible rfl)
    try simp only [Act.put, List.setIfInBounds_toArray, List.set_cons_zero, List.set_cons_succ]
    refine wpH_take 10 (v := ?_) (by kernel_rfl) (by kernel_rfl) (by kernel_rfl) rfl (fun _ _ _ h => h) (Or.inl ⟨by rfl, ?_⟩) hHeld ?_
    rotate_left
    · (intro w' hSw; obtain ⟨s0, s1, s2, s3, s4, s5, s6, s7⟩ := hSw; go_simp; try with_reducible rfl)
    try simp only [Act.put, List.setIfInBounds_toArray, List.set_cons_zero, List.set_cons_succ]
    refine wpH_one 6 (by kernel_rfl) rfl (fun K hKo => ?_)
    go_simp
    refine (C2 _ (Keeps.au (G := [])).below).out.mono ?_
    rintro e w2 ⟨rfl, hb⟩
    have HB := Lib.hid (((Keeps.au (G := [])).trans (Keeps.of_below hb)).below : Below w.heap.size w w2)
    replace hHeld := And.intro (below_some hb _ _ hHeld.1) (And.intro (below_some hb _ _ hHeld.2.1) (And.intro (below_some hb _ _ hHeld.2.2.1) (And.intro (below_some hb _ _ hHeld.2.2.2.1) (And.intro (below_some hb _ _ hHeld.2.2.2.2.1) (And.intro (below_some hb _ _ hHeld.2.2.2.2.2.1) (And.intro (below_some hb _ _ hHeld.2.2.2.2.2.2.1) (below_some hb _ _ hHeld.2.2.2.2.2.2.2)))))))
    clear hb
    refine Shut.out hKo _ _ hHeld ?_
    clear hKo K
    try simp only [Act.put, List.setIfInBounds_toArray, List.set_cons_zero, List.set_cons_succ]
    refine wpH_one 11 (by kernel_rfl) rfl (fun K hKo => ?_)
    go_simp
    refine (C3 _ HB.out).out.mono ?_
    rintro e w3 ⟨rfl, hb⟩
    have HB3 := Lib.hid (((Keeps.of_below (G := []) HB.out).then_ (H := []) (Keeps.of_below hb) (by simp)).below : Below w.heap.size w w3)
    replace hHeld := And.intro (below_some hb _ _ hHeld.1) (And.intro (below_some hb _ _ hHeld.2.1) (And.intro (below_some hb _ _ hHeld.2.2.1) (And.intro (below_some hb _ _ hHeld.2.2.2.1) (And.intro (below_some hb _ _ hHeld.2.2.2.2.1) (And.intro (below_some hb _ _ hHeld.2.2.2.2.2.1) (And.intro (below_some hb _ _ hHeld.2.2.2.2.2.2.1) (below_some hb _ _ hHeld.2.2.2.2.2.2.2)))))))
    clear hb HB
    refine Shut.out hKo _ _ hHeld ?_
    clear hKo K
    try simp only [Act.put, List.setIfInBounds_toArray, List.set_cons_zero, List.set_cons_succ]
    refine wpH_one 12 (by kernel_rfl) rfl (fun K hKo => ?_)
    go_simp
    refine (HU _).out.mono ?_
    rintro e w4 ⟨rfl, rfl⟩
    refine Shut.out hKo _ _ hHeld ?_
    clear hKo K
    try simp only [Act.put, List.setIfInBounds_toArray, List.set_cons_zero, List.set_cons_succ]
    refine wpH_take 13 (v := ?_) (by kernel_rfl) (by kernel_rfl) (by kernel_rfl) rfl (fun _ _ _ h => h) (Or.inl ⟨by rfl, ?_⟩) hHeld ?_
    rotate_left
    · (intro w' hSw; obtain ⟨s0, s1, s2, s3, s4, s5, s6, s7⟩ := hSw; go_simp; try with_reducible rfl)
    try simp only [Act.put, List.setIfInBounds_toArray, List.set_cons_zero, List.set_cons_succ]
    refine wpH_take 14 (v := ?_) (by kernel_rfl) (by kernel_rfl) (by kernel_rfl) rfl (fun _ _ _ h => h) (Or.inl ⟨by rfl, ?_⟩) hHeld ?_
    rotate_left
    · (intro w' hSw; obtain ⟨s0, s1, s2, s3, s4, s5, s6, s7⟩ := hSw; go_simp; try with_reducible rfl)
    try simp only [Act.put, List.setIfInBounds_toArray, List.set_cons_zero, List.set_cons_succ]
    refine wpH_take 15 (v := ?_) (by kernel_rfl) (by kernel_rfl) (by kernel_rfl) rfl (fun _ _ _ h => h) (Or.inl ⟨by rfl, ?_⟩) hHeld ?_
    rotate_left
    · (intro w' hSw; obtain ⟨s0, s1, s2, s3, s4, s5, s6, s7⟩ := hSw; go_simp; try with_reducible rfl)
    try simp only [Act.put, List.setIfInBounds_toArray, List.set_cons_zero, List.set_cons_succ]
    refine wpH_take 16 (v := ?_) (by kernel_rfl) (by kernel_rfl) (by kernel_rfl) rfl (fun _ _ _ h => h) (Or.inl ⟨by rfl, ?_⟩) hHeld ?_
    rotate_left
    · (intro w' hSw; obtain ⟨s0, s1, s2, s3, s4, s5, s6, s7⟩ := hSw; go_simp; try with_reducible rfl)
    try simp only [Act.put, List.setIfInBounds_toArray, List.set_cons_zero, List.set_cons_succ]
    refine wpAnyH_done (by kernel_rfl) ?_ _
    go_wp2_with fail
    go_ret
    exact ⟨rfl, HB3.out⟩
theorem val_any : ∀ n, ValC n := by
  intro n
  induction n with
  | zero => intro t h; exact absurd h (by omega)
  | succ n ih => exact val_step n ih
theorem eval_ok (t : Tr) (h : okB t = true) (hp : pureT t = true) (w : World) (A : Option Addr) (c : Nat) (hT : TrR w t A c) :
    Calls Tryd.prog 9 #[trV t A c] w fun e w' => e = .returned (.tuple #[.int .i64 (evalT t), .int .i64 0]) ∧ Below w.heap.size w w' := by
  have hok := ok_countT t 0 h
  have C := fun w1 (hb : Below w.heap.size w w1) => Lib.hid (pure_any t true h hp w1 A c (hT.low hb))
  have D := fun w1 (hb : Below w.heap.size w w1) => Lib.hid (val_any _ t (Nat.lt_succ_self _) hok hp w1 A c (hT.low hb))
  clear hT h hp hok
  generalize evalT t = m at *
  obtain ⟨op, n, kids⟩ := t
  go_enter Tryd.func9, Tryd.ntmps9
  go_wp2_with fail
  refine (C _ (Keeps.au (G := [])).below).out.mono ?_
  rintro e w1 ⟨rfl, hb⟩
  have O1 : OwnB w1 w.heap.size #[.int .i64 op, .int .i64 n, .slice A kids.len c] 28 := OwnB.call (G := []) OwnB.au (Keeps.of_below hb) (by simp)
  obtain ⟨y1, x1, z1⟩ := O1.facts
  have HB := Lib.hid (((Keeps.au (G := [])).trans (Keeps.of_below hb)).below : Below w.heap.size w w1)
  clear hb
  go_wp2_with fail
  refine (D _ HB.out).out.mono ?_
  rintro e w2 ⟨rfl, hb⟩
  go_wp2_with fail
  go_ret2
  exact ⟨rfl, ((Keeps.of_below (G := []) HB.out).then_ (H := []) (Keeps.of_below hb) (by simp)).below⟩
theorem eval_im (t : Tr) (h : okB t = true) (hp : pureT t = false) (w : World) (A : Option Addr) (c : Nat) (hT : TrR w t A c) :
    Calls Tryd.prog 9 #[trV t A c] w fun e w' => e = .returned (.tuple #[.int .i64 0, .int .i64 1]) ∧ Below w.heap.size w w' := by
  have C := fun w1 (hb : Below w.heap.size w w1) => Lib.hid (pure_any t false h hp w1 A c (hT.low hb))
  clear hT h hp
  obtain ⟨op, n, kids⟩ := t
  go_enter Tryd.func9, Tryd.ntmps9
  go_wp2_with fail
  refine (C _ (Keeps.au (G := [])).below).out.mono ?_
  rintro e w1 ⟨rfl, hb⟩
  go_wp2_with fail
  go_ret2
  exact ⟨rfl, ((Keeps.au (G := [])).trans (Keeps.of_below hb)).below⟩
theorem eval_no (t : Tr) (h : okB t = false) (w : World) (A : Option Addr) (c : Nat) (hT : TrR w t A c) :
    Calls Tryd.prog 9 #[trV t A c] w fun e w' => e = .returned (.tuple #[.int .i64 0, .int .i64 1]) ∧ Below w.heap.size w w' := by
  have C := fun w1 (hb : Below w.heap.size w w1) => Lib.hid (pure_no t h w1 A c (hT.low hb))
  clear hT h
  obtain ⟨op, n, kids⟩ := t
  go_enter Tryd.func9, Tryd.ntmps9
  go_wp2_with fail
  refine (C _ (Keeps.au (G := [])).below).out.mono ?_
  rintro e w1 ⟨rfl, hb⟩
  go_wp2_with fail
  go_ret2
  exact ⟨rfl, ((Keeps.au (G := [])).trans (Keeps.of_below hb)).below⟩
end Go.Proofs.YtgbgjecmamkdaaaDoor
