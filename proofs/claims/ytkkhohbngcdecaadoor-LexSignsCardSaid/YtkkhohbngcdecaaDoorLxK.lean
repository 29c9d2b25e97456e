/-
  'EqTokens', the spoiler.
-/
import Derived.Test.YtkkhohbngcdecaaDoorLxI
import Derived.Deep.QuietTactic
import Derived.BigQuiet
namespace Go.Proofs.YtkkhohbngcdecaaDoor
open Go.RowKit Go.Maps
set_option linter.unusedVariables false
theorem toksC_get : ∀ (l : List Tok) (k : Nat) (t : Tok), l[k]? = some t → (toksC l)[k * 4]? = some (.int .i64 t.kind) ∧ (toksC l)[k * 4 + 1]? = some (.string ⟨t.text.toArray⟩) ∧ (toksC l)[k * 4 + 2]? = some (.int .i64 t.n) ∧ (toksC l)[k * 4 + 3]? = some (.int .i64 t.pos)
  | [], k, t, h => by simp at h
  | x :: l, 0, t, h => by
    simp at h
    subst h
    exact ⟨rfl, rfl, rfl, rfl⟩
  | x :: l, k + 1, t, h => by
    have ih := toksC_get l k t (by simpa using h)
    have e : ∀ i, (toksC (x :: l))[(k + 1) * 4 + i]? = (toksC l)[k * 4 + i]? := by
      intro i
      have : toksC (x :: l) = tokC x ++ toksC l := by simp [toksC]
      rw [this, List.getElem?_append_right (by simp [tokC]; omega)]
      congr 1
      simp [tokC]; omega
    exact ⟨by rw [show (k + 1) * 4 = (k + 1) * 4 + 0 from rfl, e 0]; exact ih.1, by rw [e 1]; exact ih.2.1, by rw [e 2]; exact ih.2.2.1, by rw [e 3]; exact ih.2.2.2⟩
theorem eq_some (w : World) (b1 b2 n c1 c2 : Nat) (l : List Tok) (hl : l.length = n) (hn : n ≤ 9223372036854775807)
    (h1 : ∀ j u, (toksC l)[j]? = some u → w.cell? ⟨b1, j, none⟩ = some u) (h2 : ∀ j u, (toksC l)[j]? = some u → w.cell? ⟨b2, j, none⟩ = some u) :
    Calls Tryd.prog 9 #[.slice (some ⟨b1, 0, none⟩) n c1, .slice (some ⟨b2, 0, none⟩) n c2] w fun e w' => e = .returned (.bool true) ∧ ∃ m, w' = w.drewN m := by
  have H1 := Lib.hid h1
  have H2 := Lib.hid h2
  have HL := Lib.hid hl
  clear h1 h2 hl
  go_enter Tryd.func9, Tryd.ntmps9
  go_wp2_with fail
  go_loopw [5] (fun i wr => ∃ k m : Nat, k ≤ n ∧ i = .int .i64 k ∧ wr = w.drewN m) (fun i _ => n - (intOf i).toNat)
  case atStart => exact ⟨0, 0, Nat.zero_le _, rfl, rfl⟩
  case round =>
    obtain ⟨k, m, hk, rfl, rfl⟩ := hrel
    by_cases hlt : k < n
    · have hkl : k < l.length := by rw [HL.out]; exact hlt
      obtain ⟨c0, c1', c2', c3⟩ := toksC_get l k l[k] (List.getElem?_eq_getElem hkl)
      obtain ⟨t, ht⟩ : ∃ t, t = l[k] := ⟨_, rfl⟩
      rw [← ht] at c0 c1' c2' c3
      have a0 := H1.out _ _ c0
      have a1 := H1.out _ _ c1'
      have a2 := H1.out _ _ c2'
      have a3 := H1.out _ _ c3
      have d0 := H2.out _ _ c0
      have d1 := H2.out _ _ c1'
      have d2 := H2.out _ _ c2'
      have d3 := H2.out _ _ c3
      clear c0 c1' c2' c3 ht hkl
      have hk0 : (0 : Int) ≤ (k : Int) := by omega
      have hkn : (k : Int) < (n : Int) := by omega
      go_wp2_with fail
      go_quiet (fail)
      go_wp2_with fail
      go_roundw
      case rel => exact ⟨k + 1, _, by omega, by go_num, rfl⟩
      case measure => simp [intOf]; omega
    · go_wp2_with fail
      go_ret
      exact ⟨rfl, m, rfl⟩
theorem eq_none (w : World) (A1 A2 : Option Addr) (c1 c2 : Nat) :
    Calls Tryd.prog 9 #[.slice A1 0 c1, .slice A2 0 c2] w fun e w' => e = .returned (.bool true) ∧ ∃ m, w' = w.drewN m := by
  go_enter Tryd.func9, Tryd.ntmps9
  go_wp2_with fail
  go_loop [5] (fun i => i = .int .i64 0) (fun _ => 0)
  case atStart => exact rfl
  case round =>
    obtain rfl := hrel
    go_wp2_with fail
    go_ret
    exact ⟨rfl, 0, rfl⟩
theorem eqTokens_any (w : World) (base base' : Nat) (v1 v2 : Value) (l : List Tok) (h1 : w.ownsRow base 34 4 v1 l.length (toksC l)) (h2 : w.ownsRow base' 34 4 v2 l.length (toksC l)) :
    Calls Tryd.prog 9 #[v1, v2] w fun e w' => e = .returned (.bool true) ∧ ∃ m, w' = w.drewN m := by
  have form : ∀ {b : Nat} {v : Value}, w.ownsRow b 34 4 v l.length (toksC l) → (∃ A c, v = .slice A l.length c) := by
    intro b v h
    rcases h.2 with ⟨rfl, h0⟩ | ⟨g, cap, cur, rfl, _⟩
    · exact ⟨_, _, by rw [h0]⟩
    · exact ⟨_, _, rfl⟩
  rcases Nat.eq_zero_or_pos l.length with h0 | hp
  · obtain ⟨A1, c1, e1⟩ := form h1
    obtain ⟨A2, c2, e2⟩ := form h2
    rw [e1, e2, h0]
    exact eq_none w A1 A2 c1 c2
  · have hn : l.length ≤ 9223372036854775807 := by
      rcases h1.2 with ⟨_, h⟩ | ⟨_, cap, _, _, _, _, h, h', _⟩
      · omega
      · unfold maxLen at h'; omega
    obtain ⟨g1, cap1, e1, _, _⟩ := h1.form hp
    obtain ⟨g2, cap2, e2, _, _⟩ := h2.form hp
    subst e1; subst e2
    have add0 : ∀ g j : Nat, (⟨g, 0, none⟩ : Addr).add j = ⟨g, j, none⟩ := by intro g j; unfold Addr.add; split <;> simp_all
    exact eq_some w g1 g2 l.length cap1 cap2 l rfl hn (fun j u hu => by have := h1.cells (g := g1) rfl j u hu; rwa [add0] at this) (fun j u hu => by have := h2.cells (g := g2) rfl j u hu; rwa [add0] at this)
theorem heap_set {w : World} {g : Nat} {cs : Array Value} {T : TypeId} (h : w.heap[g]? = some (.cells cs T (0, 0))) (i : Nat) (u : Value) : (w.setCell ⟨g, i, none⟩ u).heap[g]? = some (.cells (cs.setIfInBounds i u) T (0, 0)) := by
  simp [World.setCell, Array.getElem?_modify, h]
theorem only_setCell {a w : World} {g : Nat} (h : a.grownBy w (some g)) (i : Nat) (u : Value) : a.grownBy (w.setCell ⟨g, i, none⟩ u) (some g) :=
  ⟨h.os, h.tape, h.output, by simpa [World.setCell] using h.size, fun k hk hne => (Below.heap_setCell w ⟨g, i, none⟩ u k (by rintro rfl; exact hne rfl)).trans (h.block k hk hne)⟩
theorem spoil_try (w : World) (g n cap : Nat) (cs : Array Value) (hb : w.heap[g]? = some (.cells cs 34 (0, 0))) (hs : cs.size = cap * 4) (hn : n ≤ cap) (hc : cap ≤ maxLen) :
    Calls Tryd.prog 10 #[.slice (some ⟨g, 0, none⟩) n cap] w fun e w' => e = .returned (.tuple #[]) ∧ w.grownBy w' (some g) := by
  unfold maxLen at hc
  have HB := Lib.hid hb
  have HS := Lib.hid hs
  clear hb hs
  go_enter Tryd.func10, Tryd.ntmps10
  go_wp2_with fail
  go_loopw [2] (fun i wr => ∃ (k : Nat) (cs : Array Value), k ≤ n ∧ i = .int .i64 k ∧ wr.heap[g]? = some (.cells cs 34 (0, 0)) ∧ cs.size = cap * 4 ∧ w.grownBy wr (some g)) (fun i _ => n - (intOf i).toNat)
  case atStart => exact ⟨0, _, Nat.zero_le _, rfl, HB.out, HS.out, World.grownBy.refl _ _⟩
  case round =>
    obtain ⟨k, cs, hk, rfl, hb, hs, hg⟩ := hrel
    by_cases hlt : k < n
    · have cell : ∀ i, i < 4 → ∃ x, wr.cell? ⟨g, k * 4 + i, none⟩ = some x := fun i hi => ⟨_, (blk_cell hb (k * 4 + i)).trans (Array.getElem?_eq_getElem (by omega))⟩
      obtain ⟨x0, a0⟩ := cell 0 (by omega)
      obtain ⟨x1, a1⟩ := cell 1 (by omega)
      obtain ⟨x2, a2⟩ := cell 2 (by omega)
      obtain ⟨x3, a3⟩ := cell 3 (by omega)
      rw [Nat.add_zero] at a0
      have f0 : wr.frozen? ⟨g, k * 4, none⟩ = false := blk_frozen hb _
      have f1 : wr.frozen? ⟨g, k * 4 + 1, none⟩ = false := blk_frozen hb _
      have f2 : wr.frozen? ⟨g, k * 4 + 2, none⟩ = false := blk_frozen hb _
      have f3 : wr.frozen? ⟨g, k * 4 + 3, none⟩ = false := blk_frozen hb _
      have HB2 := Lib.hid hb
      have HS2 := Lib.hid hs
      have HG := Lib.hid hg
      clear hb hs hg cell
      go_wp2_with fail
      go_roundw
      case rel => exact ⟨k + 1, _, by omega, by go_num, heap_set (heap_set (heap_set (heap_set HB2.out _ _) _ _) _ _) _ _, by simp [HS2.out], only_setCell (only_setCell (only_setCell (only_setCell HG.out _ _) _ _) _ _) _ _⟩
      case measure => simp [intOf]; omega
    · go_wp2_with fail
      go_end0
      exact ⟨rfl, hg⟩
end Go.Proofs.YtkkhohbngcdecaaDoor
