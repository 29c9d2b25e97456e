/-
  'un' of any numbers, moved by each number of places: true.
-/
import Derived.Test.YtcofedinjcagoacUnAny
import Derived.Test.YtcofedinjcagoacFrame
namespace Go.Proofs.Ytcofedinjcagoac
open Go.RowKit
set_option linter.unusedVariables false

set_option maxRecDepth 100000 in
theorem un_some (b off n c : Nat) (D E : Nat → Int) (op : Int) (w : World) (h : Asks w b off n D E) (hb : b < w.heap.size) (hn : n ≤ 9223372036854775807) (hop0 : 31 ≤ op ∧ op ≤ 36) :
    Calls Try.prog 12 #[.slice (some ⟨b, off, none⟩) n c, .int .i64 op] w fun e w' => e = .returned (.bool true) ∧ Below w.heap.size w w' := by
  have hop := Lib.hid hop0
  clear hop0
  go_enter Try.func12, Try.ntmps12
  go_wp2
  go_loopw [5] (fun i wr => ∃ k : Nat, k ≤ n ∧ k ≤ 12 ∧ i = .int .i64 k ∧ Below w.heap.size w wr) (fun i _ => 12 - (intOf i).toNat)
  case atStart => exact ⟨0, Nat.zero_le _, by omega, rfl, Below.refl _ _⟩
  case round =>
    obtain ⟨k, hk, hk12, rfl, hbel⟩ := hrel
    obtain ⟨w1, rfl⟩ : ∃ w1 : World, w1 = wr := ⟨_, rfl⟩
    by_cases h12 : k < 12
    · by_cases hlt : k < n
      · have hd12 : decide ((k : Int) < 12) = true := by simp; omega
        have hBel : Hid (Below w.heap.size w w1) := hbel
        clear hbel
        go_wp2
        go_loopw [6] (fun o wr => ∃ m : Nat, m ≤ 66 ∧ o = .int .i64 m ∧ Below w.heap.size w wr) (fun o _ => 66 - (intOf o).toNat)
        case atStart => exact ⟨0, by omega, rfl, hBel⟩
        case round =>
          obtain ⟨m, hm66, rfl, hbel⟩ := hrel
          obtain ⟨w2, rfl⟩ : ∃ w2 : World, w2 = wr := ⟨_, rfl⟩
          by_cases hm : m < 64
          · have hA : w2.cell? ⟨b, off + k * 4, none⟩ = some (.int .i64 (D k)) := (hbel.cell hb).trans (h.cellA k hlt)
            have hB : w2.cell? ⟨b, off + k * 4 + 1, none⟩ = some (.int .i64 (E k)) := (hbel.cell hb).trans (h.cellB k hlt)
            have hdm : decide ((m : Int) < 64) = true := by simp; omega
            have HB := Lib.hid hbel
            clear hbel
            go_wp2
            go_region
            go_wp2_with (first | (go_at_call 17; refine (un_any _ _ hop.out _).mono ?_; rintro e w' ⟨rfl, hb1⟩; have HB1 := Lib.hid hb1; clear hb1) | (go_at_call 18; refine (run_any _ _ hop.out _).mono ?_; rintro e w' ⟨rfl, rfl⟩))
            go_roundw
            case rel => exact ⟨m + 3, by omega, by go_num, HB.out.drew.trans (HB1.out.mono HB.out.size)⟩
            case measure => simp [intOf]; omega
          · go_wp2
            go_roundw
            case rel => exact ⟨k + 1, by omega, by omega, by go_num, hbel⟩
            case measure => simp [intOf]; omega
      · go_wp2_with (go_at_call 16; refine (wakes_any _).mono ?_; rintro e w' ⟨rfl, rfl⟩)
        go_ret
        exact ⟨rfl, hbel⟩
    · go_wp2_with (go_at_call 16; refine (wakes_any _).mono ?_; rintro e w' ⟨rfl, rfl⟩)
      all_goals
        go_ret
        exact ⟨rfl, hbel⟩
theorem un_zero (A : Option Addr) (c : Nat) (op : Int) (w : World) :
    Calls Try.prog 12 #[.slice A 0 c, .int .i64 op] w fun e w' => e = .returned (.bool true) ∧ Below w.heap.size w w' := by
  go_enter Try.func12, Try.ntmps12
  go_wp2
  go_loop [5] (fun i => i = .int .i64 0) (fun _ => 0)
  case atStart => exact rfl
  case round =>
    obtain rfl := hrel
    go_wp2_with (go_at_call 16; refine (wakes_any _).mono ?_; rintro e w' ⟨rfl, rfl⟩)
    go_ret
    exact ⟨rfl, Below.refl _ _⟩
theorem uns_any {v : Value} {w : World} (h : AskArg w v) (op : Int) (hop : 31 ≤ op ∧ op ≤ 36) :
    Calls Try.prog 12 #[v, .int .i64 op] w fun e w' => e = .returned (.bool true) ∧ Below w.heap.size w w' := by
  rcases h with ⟨A, c, rfl⟩ | ⟨b, off, n, c, D, E, rfl, ha, hb, hn⟩
  · exact un_zero A c op w
  · exact un_some b off n c D E op w ha hb hn hop
end Go.Proofs.Ytcofedinjcagoac
