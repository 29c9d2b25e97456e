/-
  The page's EqTree and EqTrees, of two that are the same; TreeWeight.
-/
import Derived.Test.YtgbgjecmamkdaaaDoorTrRefV
namespace Go.Proofs.YtgbgjecmamkdaaaDoor
open Go.RowKit
set_option linter.unusedVariables false
set_option linter.unusedSimpArgs false
set_option maxRecDepth 100000
set_option maxHeartbeats 1000000

def EqsC (n : Nat) : Prop := ∀ (x : Trs), x.size < n → ∀ (w : World) (A B : Option Addr) (c d : Nat), x.len ≤ c → c ≤ maxLen → KidR w x A → x.len ≤ d → d ≤ maxLen → KidR w x B →
  Calls Tryd.prog 31 #[.slice A x.len c, .slice B x.len d] w fun e w' => e = .returned (.bool true) ∧ Below w.heap.size w w'
theorem eqTree_step (n : Nat) (IH : EqsC n) (t : Tr) (ht : t.kids.size < n) (w : World) (A B : Option Addr) (c d : Nat) (hT : TrR w t A c) (hU : TrR w t B d) :
    Calls Tryd.prog 15 #[trV t A c, trV t B d] w fun e w' => e = .returned (.bool true) ∧ Below w.heap.size w w' := by
  have C := fun w1 (hb : Below w.heap.size w w1) => Lib.hid (IH t.kids ht w1 A B c d hT.le hT.cap (hT.kid.low hb) hU.le hU.cap (hU.kid.low hb))
  clear hT hU ht
  obtain ⟨op, nn, kids⟩ := t
  go_enter Tryd.func15, Tryd.ntmps15
  go_wp2_with fail
  refine (C _ (Keeps.au (G := [])).below).out.mono ?_
  rintro e w1 ⟨rfl, hb⟩
  go_wp2_with fail
  go_ret
  exact ⟨rfl, ((Keeps.au (G := [])).trans (Keeps.of_below hb)).below⟩
theorem eqTrees_step (n : Nat) (IH : EqsC n) : EqsC (n + 1) := by
  intro x hx w A B c d l1 m1 k1 l2 m2 k2
  have HK1 := Lib.hid k1
  have HK2 := Lib.hid k2
  have HX := Lib.hid hx
  unfold maxLen at m1 m2
  clear k1 k2 hx
  go_enter Tryd.func31, Tryd.ntmps31
  go_wp2_with fail
  go_loopw [5, 11, 12, 13, 14, 15, 16, 17, 18, 19, 20, 21, 22, 23, 24, 25, 26] (fun i _ _ _ _ _ _ _ _ _ _ _ _ _ _ _ _ wr => ∃ (k : Nat), k ≤ x.len ∧ i = .int .i64 k ∧ Below w.heap.size w wr) (fun i _ _ _ _ _ _ _ _ _ _ _ _ _ _ _ _ _ => x.len - (intOf i).toNat)
  case atStart => exact ⟨0, by omega, rfl, Below.refl _ _⟩
  case round =>
    obtain ⟨k, hk, rfl, hb⟩ := hrel
    have HB1 := Lib.hid hb
    by_cases hlt : k < x.len
    · obtain ⟨t2, b, off, D, c2, hget, rfl, hbs, f0, f1, f2, hT2⟩ := (HK1.out.low hb).get hlt
      obtain ⟨t3, b', off', E, c3, hget3, rfl, hbs', g0, g1, g2, hT3⟩ := (HK2.out.low hb).get hlt
      obtain rfl : t2 = t3 := by rw [hget] at hget3; exact Option.some.inj hget3
      have hm : t2.kids.size < n := by
        have h1 := Trs.size_mem x t2 (List.mem_of_getElem? hget)
        have h2 := HX.out
        omega
      have HC := fun w1 (hb : Below wr.heap.size wr w1) => Lib.hid (eqTree_step n IH t2 hm w1 D E c2 c3 (hT2.low hb) (hT3.low hb))
      clear hget hget3 hT2 hT3 hm hb
      obtain ⟨op2, n2, kids2⟩ := t2
      simp only at f0 f1 f2 g0 g1 g2
      have i1 : decide ((k : Int) < (x.len : Int)) = true := by simp; omega
      have i2 : (0 : Int) ≤ (k : Int) := by omega
      have i3 : (k : Int) < (x.len : Int) := by omega
      go_wp2_with fail
      refine wpH_start (fun w' => w'.cell? ⟨b, off + k * 3, none⟩ = some (.int .i64 op2) ∧ w'.cell? ⟨b, off + k * 3 + 1, none⟩ = some (.int .i64 n2) ∧ w'.cell? ⟨b, off + k * 3 + 2, none⟩ = some (.slice D kids2.len c2) ∧ w'.cell? ⟨b', off' + k * 3, none⟩ = some (.int .i64 op2) ∧ w'.cell? ⟨b', off' + k * 3 + 1, none⟩ = some (.int .i64 n2) ∧ w'.cell? ⟨b', off' + k * 3 + 2, none⟩ = some (.slice E kids2.len c3)) (by kernel_rfl) (by refine ⟨?_, ?_, ?_, ?_, ?_, ?_⟩ <;> go_simp) (fun hHeld => ?_)
      refine wpH_take 0 (v := ?_) (by kernel_rfl) (by kernel_rfl) (by kernel_rfl) rfl (fun _ _ _ h => h) (Or.inl ⟨by rfl, ?_⟩) hHeld ?_
      rotate_left
      · (intro w' hSw; obtain ⟨s0, s1, s2, s3, s4, s5⟩ := hSw; go_simp; try with_reducible rfl)
      try simp only [Act.put, List.setIfInBounds_toArray, List.set_cons_zero, List.set_cons_succ]
      refine wpH_take 1 (v := ?_) (by kernel_rfl) (by kernel_rfl) (by kernel_rfl) rfl (fun _ _ _ h => h) (Or.inl ⟨by rfl, ?_⟩) hHeld ?_
      rotate_left
      · (intro w' hSw; obtain ⟨s0, s1, s2, s3, s4, s5⟩ := hSw; go_simp; try with_reducible rfl)
      try simp only [Act.put, List.setIfInBounds_toArray, List.set_cons_zero, List.set_cons_succ]
      refine wpH_take 2 (v := ?_) (by kernel_rfl) (by kernel_rfl) (by kernel_rfl) rfl (fun _ _ _ h => h) (Or.inl ⟨by rfl, ?_⟩) hHeld ?_
      rotate_left
      · (intro w' hSw; obtain ⟨s0, s1, s2, s3, s4, s5⟩ := hSw; go_simp; try with_reducible rfl)
      try simp only [Act.put, List.setIfInBounds_toArray, List.set_cons_zero, List.set_cons_succ]
      refine wpH_take 3 (v := ?_) (by kernel_rfl) (by kernel_rfl) (by kernel_rfl) rfl (fun _ _ _ h => h) (Or.inl ⟨by rfl, ?_⟩) hHeld ?_
      rotate_left
      · (intro w' hSw; obtain ⟨s0, s1, s2, s3, s4, s5⟩ := hSw; go_simp; try with_reducible rfl)
      try simp only [Act.put, List.setIfInBounds_toArray, List.set_cons_zero, List.set_cons_succ]
      refine wpH_take 4 (v := ?_) (by kernel_rfl) (by kernel_rfl) (by kernel_rfl) rfl (fun _ _ _ h => h) (Or.inl ⟨by rfl, ?_⟩) hHeld ?_
      rotate_left
      · (intro w' hSw; obtain ⟨s0, s1, s2, s3, s4, s5⟩ := hSw; go_simp; try with_reducible rfl)
      try simp only [Act.put, List.setIfInBounds_toArray, List.set_cons_zero, List.set_cons_succ]
      refine wpH_take 5 (v := ?_) (by kernel_rfl) (by kernel_rfl) (by kernel_rfl) rfl (fun _ _ _ h => h) (Or.inl ⟨by rfl, ?_⟩) hHeld ?_
      rotate_left
      · (intro w' hSw; obtain ⟨s0, s1, s2, s3, s4, s5⟩ := hSw; go_simp; try with_reducible rfl)
      try simp only [Act.put, List.setIfInBounds_toArray, List.set_cons_zero, List.set_cons_succ]
      refine wpH_take 6 (v := ?_) (by kernel_rfl) (by kernel_rfl) (by kernel_rfl) rfl (fun _ _ _ h => h) (Or.inl ⟨by rfl, ?_⟩) hHeld ?_
      rotate_left
      · (intro w' hSw; obtain ⟨s0, s1, s2, s3, s4, s5⟩ := hSw; go_simp; try with_reducible rfl)
      try simp only [Act.put, List.setIfInBounds_toArray, List.set_cons_zero, List.set_cons_succ]
      refine wpH_take 7 (v := ?_) (by kernel_rfl) (by kernel_rfl) (by kernel_rfl) rfl (fun _ _ _ h => h) (Or.inl ⟨by rfl, ?_⟩) hHeld ?_
      rotate_left
      · (intro w' hSw; obtain ⟨s0, s1, s2, s3, s4, s5⟩ := hSw; go_simp; try with_reducible rfl)
      try simp only [Act.put, List.setIfInBounds_toArray, List.set_cons_zero, List.set_cons_succ]
      refine wpH_one 8 (by kernel_rfl) rfl (fun K hKo => ?_)
      go_simp
      refine (HC _ (Keeps.au (G := [])).below).out.mono ?_
      rintro e w2 ⟨rfl, hb⟩
      have HB := Lib.hid (((Keeps.of_below (G := []) HB1.out).then_ (H := []) ((Keeps.au (G := [])).trans (Keeps.of_below hb)) (by simp)).below : Below w.heap.size w w2)
      replace hHeld := And.intro (below_some hb _ _ hHeld.1) (And.intro (below_some hb _ _ hHeld.2.1) (And.intro (below_some hb _ _ hHeld.2.2.1) (And.intro (below_some hb _ _ hHeld.2.2.2.1) (And.intro (below_some hb _ _ hHeld.2.2.2.2.1) (below_some hb _ _ hHeld.2.2.2.2.2)))))
      clear hb
      refine Shut.out hKo _ _ hHeld ?_
      clear hKo K
      try simp only [Act.put, List.setIfInBounds_toArray, List.set_cons_zero, List.set_cons_succ]
      refine wpH_take 9 (v := ?_) (by kernel_rfl) (by kernel_rfl) (by kernel_rfl) rfl (fun _ _ _ h => h) (Or.inl ⟨by rfl, ?_⟩) hHeld ?_
      rotate_left
      · (intro w' hSw; obtain ⟨s0, s1, s2, s3, s4, s5⟩ := hSw; go_simp; try with_reducible rfl)
      try simp only [Act.put, List.setIfInBounds_toArray, List.set_cons_zero, List.set_cons_succ]
      refine wpAnyH_done (by kernel_rfl) ?_ _
      clear hHeld f0 f1 f2 g0 g1 g2
      go_wp2_with fail
      go_roundw
      case rel => exact ⟨k + 1, by omega, by go_num, HB.out⟩
      case measure => simp [intOf]; omega
    · have hk2 : k = x.len := by omega
      subst hk2
      go_wp2_with fail
      go_ret
      exact ⟨rfl, HB1.out⟩
theorem eqTrees_any : ∀ n, EqsC n := by
  intro n
  induction n with
  | zero => intro t h; exact absurd h (by omega)
  | succ n ih => exact eqTrees_step n ih
theorem eqTree_any (t : Tr) (w : World) (A B : Option Addr) (c d : Nat) (hT : TrR w t A c) (hU : TrR w t B d) :
    Calls Tryd.prog 15 #[trV t A c, trV t B d] w fun e w' => e = .returned (.bool true) ∧ Below w.heap.size w w' :=
  eqTree_step _ (eqTrees_any _) t (Nat.lt_succ_self _) w A B c d hT hU
end Go.Proofs.YtgbgjecmamkdaaaDoor
