/-
  'bins' of any two numbers, near ones, and every op between two: true.
-/
import Derived.Test.YtcofedinjcagoaaBins
import Derived.LoopTactic
import Derived.RegionTactic
import Derived.Deep.QuietTactic
import Derived.BigQuiet
import Derived.BigRegion
import Derived.Deep.Draws
import Derived.Outline
import Derived.Lib.Hide
import Derived.OpenShut
namespace Go.Proofs.Ytcofedinjcagoaa
open Go.RowKit
set_option linter.unusedVariables false

theorem fit_any (w : World) : Calls Try.prog 17 #[.int .i64 2, .int .i64 (-1)] w fun e w' => e = .returned (.tuple #[.int .i64 255, .int .i64 0]) ∧ w = w' := by
  go_enter Try.func17, Try.ntmps17
  go_wp2
  go_ret2
  exact ⟨rfl, rfl⟩
theorem wakes_any (w : World) : Calls Try.prog 22 #[] w fun e w' => e = .returned (.bool true) ∧ w = w' := by
  go_enter Try.func22, Try.ntmps22
  go_wp2_with (go_at_call 17; refine (fit_any _).mono ?_; rintro e w' ⟨rfl, rfl⟩)
  go_ret
  exact ⟨rfl, rfl⟩

/-- What 'bs' holds. -/
def bsV (a b : Int) : Nat → Int
  | 0 => b | 1 => 0 | 2 => -1 | 3 => a | 4 => bits .and .i64 b 63 | _ => 1

/-- The asks that lie there: A and B of each. -/
structure Asks (w : World) (b off n : Nat) (D E : Nat → Int) : Prop where
  cellA : ∀ i, i < n → w.cell? ⟨b, off + i * 4, none⟩ = some (.int .i64 (D i))
  cellB : ∀ i, i < n → w.cell? ⟨b, off + i * 4 + 1, none⟩ = some (.int .i64 (E i))
  wfA : ∀ i, (Lit.int .i64 (D i)).wf = true
  wfB : ∀ i, (Lit.int .i64 (E i)).wf = true

theorem bs_cells (w : World) (a b : Int) : ∀ m, m < 6 → (w.alloc (Obj.cells #[.int .i64 b, .int .i64 0, .int .i64 (-1), .int .i64 a, .int .i64 (bits .and .i64 b 63), .int .i64 1] 2)).drew.cell? ⟨w.heap.size, m, none⟩ = some (.int .i64 (bsV a b m)) := by
  intro m hm
  have : m = 0 ∨ m = 1 ∨ m = 2 ∨ m = 3 ∨ m = 4 ∨ m = 5 := by omega
  rcases this with rfl | rfl | rfl | rfl | rfl | rfl <;> simp [bsV]

theorem bsV_wf {a b : Int} (ha : (Lit.int .i64 a).wf = true) (hb : (Lit.int .i64 b).wf = true) (m : Nat) : (Lit.int .i64 (bsV a b m)).wf = true := by
  unfold bsV
  split
  · exact hb
  · decide
  · decide
  · exact ha
  · exact wf_bits _ _ _ _
  · decide
theorem below_drewN {B : Nat} {a w : World} (h : Below B a w) (n : Nat) : Below B a (w.drewN n) := ⟨h.os, h.tape, h.output, h.size, h.block⟩
theorem quiet_add_left {P : Program} {f : FuncId} {args : Array Value} {w : World} {a n : Nat} {v : Value}
    (h : Calls P f args (w.drewN (a + n)) fun e w' => e = .returned v ∧ w.drewN (a + n) = w') :
    Calls P f args (w.drewN (a + n)) fun e w'' => e = .returned v ∧ ∃ m, w'' = w.drewN (a + m) :=
  h.mono fun _ _ ⟨he, hm⟩ => ⟨he, n, hm.symm⟩

set_option maxRecDepth 100000 in
theorem bins_some (b off n c : Nat) (D E : Nat → Int) (lo hi : Int) (w : World) (h : Asks w b off n D E) (hb : b < w.heap.size) (hn : n ≤ 9223372036854775807) (hlo : 0 ≤ lo) (hl1 : lo ≤ 100) (hhi : hi ≤ 100) :
    Calls Try.prog 23 #[.slice (some ⟨b, off, none⟩) n c, .int .i64 lo, .int .i64 hi] w fun e w' => e = .returned (.bool true) ∧ Below w.heap.size w w' := by
  go_enter Try.func23, Try.ntmps23
  go_wp2
  go_loopw [7] (fun i wr => ∃ k : Nat, k ≤ n ∧ k ≤ 12 ∧ i = .int .i64 k ∧ Below w.heap.size w wr) (fun i _ => 12 - (intOf i).toNat)
  case atStart => exact ⟨0, Nat.zero_le _, by omega, rfl, Below.refl _ _⟩
  case round =>
    obtain ⟨k, hk, hk12, rfl, hbel⟩ := hrel
    obtain ⟨w1, rfl⟩ : ∃ w1 : World, w1 = wr := ⟨_, rfl⟩
    by_cases h12 : k < 12
    · by_cases hlt : k < n
      · have hA : w1.cell? ⟨b, off + k * 4, none⟩ = some (.int .i64 (D k)) := (hbel.cell hb).trans (h.cellA k hlt)
        have hB : w1.cell? ⟨b, off + k * 4 + 1, none⟩ = some (.int .i64 (E k)) := (hbel.cell hb).trans (h.cellB k hlt)
        have hd12 : decide ((k : Int) < 12) = true := by simp; omega
        have hBel : Hid (Below w.heap.size w w1) := hbel
        clear hbel
        go_wp2
        go_loopw [8] (fun o wr => ∃ q : Int, 0 ≤ q ∧ q ≤ 101 ∧ o = .int .i64 q ∧ Below w.heap.size w wr) (fun o _ => (101 - intOf o).toNat)
        case atStart => exact ⟨lo, by omega, by omega, rfl, hBel⟩
        case round =>
          obtain ⟨q, hq0, hq1, rfl, hbel⟩ := hrel
          obtain ⟨w2, rfl⟩ : ∃ w2 : World, w2 = wr := ⟨_, rfl⟩
          by_cases hq : q ≤ hi
          · have hA : w2.cell? ⟨b, off + k * 4, none⟩ = some (.int .i64 (D k)) := (hbel.cell hb).trans (h.cellA k hlt)
            have hB : w2.cell? ⟨b, off + k * 4 + 1, none⟩ = some (.int .i64 (E k)) := (hbel.cell hb).trans (h.cellB k hlt)
            have hdq : decide (q ≤ hi) = true := by simpa using hq
            go_wp2
            go_region
            go_wp2
            have hw3 : Below w.heap.size w (w2.alloc (Obj.cells #[.int .i64 (E k), .int .i64 0, .int .i64 (-1), .int .i64 (D k), .int .i64 (bits .and .i64 (E k) 63), .int .i64 1] 2)).drew := (hbel.alloc hbel.size _).drew
            have hc3 := bs_cells w2 (D k) (E k)
            have hA3 := (hw3.cell (p := ⟨b, off + k * 4, none⟩) hb).trans (h.cellA k hlt)
            revert hw3 hc3 hA3
            generalize (w2.alloc (Obj.cells #[.int .i64 (E k), .int .i64 0, .int .i64 (-1), .int .i64 (D k), .int .i64 (bits .and .i64 (E k) 63), .int .i64 1] 2)).drew = W3
            generalize w2.heap.size = g
            intro hw3 hc3 hA3
            have HW3 : Hid (Below w.heap.size w W3) := hw3
            clear hw3 hA hB hbel
            go_loopw [10] (fun o wr => ∃ m j : Nat, m ≤ 6 ∧ o = .int .i64 m ∧ wr = W3.drewN j) (fun o _ => 6 - (intOf o).toNat)
            case atStart => exact ⟨0, 0, by omega, rfl, rfl⟩
            case round =>
              obtain ⟨m, j, hm6, rfl, rfl⟩ := hrel
              by_cases hm : m < 6
              · have hcm := hc3 m hm
                have hdm : decide ((m : Int) < 6) = true := by simp; omega
                have wbm := bsV_wf (h.wfA k) (h.wfB k) m
                have HA := Lib.hid (h.wfA k)
                by_cases hop : 12 ≤ q ∧ q ≤ 30
                · have hd : decide (12 ≤ q ∧ q ≤ 30) = true := decide_eq_true hop
                  have HP := fun W => Lib.hid (p_any q (D k) (bsV (D k) (E k) m) hop.1 hop.2 wbm W)
                  have HR := fun W => Lib.hid (r_any q (D k) (bsV (D k) (E k) m) hop.1 hop.2 HA.out wbm W)
                  have HI := fun W => Lib.hid (isBin_yes q hop W)
                  clear hd
                  go_wp2
                  go_quiet ((first | (go_at_call 27; exact quiet_add_left (HP _).out)))
                  go_wp2_with (go_at_call 30; refine ((HI _).out).mono ?_; rintro e w' ⟨rfl, rfl⟩)
                  go_quiet ((first | (go_at_call 31; exact quiet_add_left (HR _).out)))
                  go_wp2
                  go_roundw
                  case rel => exact ⟨m + 1, _, by omega, by go_num, rfl⟩
                  case measure => simp [intOf]; omega
                · have HP := fun W => Lib.hid (pNo q (D k) (bsV (D k) (E k) m) hop W)
                  have HI := fun W => Lib.hid (isBin_no q hop W)
                  clear hop
                  go_wp2
                  go_quiet ((first | (go_at_call 27; exact quiet_add_left (HP _).out)))
                  go_wp2_with (go_at_call 30; refine ((HI _).out).mono ?_; rintro e w' ⟨rfl, rfl⟩)
                  go_roundw
                  case rel => exact ⟨m + 1, _, by omega, by go_num, rfl⟩
                  case measure => simp [intOf]; omega
              · have hm' : m = 6 := by omega
                subst hm'
                go_wp2
                go_roundw
                case rel => exact ⟨q + 1, by omega, by omega, rfl, below_drewN HW3.out _⟩
                case measure => simp [intOf]; omega
          · go_wp2
            go_roundw
            case rel => exact ⟨k + 1, by omega, by omega, by go_num, hbel⟩
            case measure => simp [intOf]; omega
      · go_wp2_with (go_at_call 22; refine (wakes_any _).mono ?_; rintro e w' ⟨rfl, rfl⟩)
        go_ret
        exact ⟨rfl, hbel⟩
    · go_wp2_with (go_at_call 22; refine (wakes_any _).mono ?_; rintro e w' ⟨rfl, rfl⟩)
      all_goals
        go_ret
        exact ⟨rfl, hbel⟩
end Go.Proofs.Ytcofedinjcagoaa
