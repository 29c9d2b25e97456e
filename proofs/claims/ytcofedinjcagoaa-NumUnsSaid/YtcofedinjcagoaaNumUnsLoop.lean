/-
  'NumUns': what is cut off any number, twice.
-/
import Derived.Test.YtcofedinjcagoaaUnAny
import Derived.Test.YtcofedinjcagoaaFrame
namespace Go.Proofs.Ytcofedinjcagoaa
open Go.RowKit
set_option linter.unusedVariables false

theorem isUn_yes (op : Int) (h : 31 ≤ op ∧ op ≤ 36) (w : World) : Calls Try.prog 25 #[.int .i64 op] w fun e w' => e = .returned (.bool true) ∧ w = w' := by
  obtain ⟨h1, h2⟩ := h
  go_enter Try.func25, Try.ntmps25
  go_wp2
  go_ret
  exact ⟨rfl, rfl⟩
theorem isUn_no (op : Int) (h : ¬ (31 ≤ op ∧ op ≤ 36)) (w : World) : Calls Try.prog 25 #[.int .i64 op] w fun e w' => e = .returned (.bool false) ∧ w = w' := by
  by_cases h1 : 31 ≤ op
  · have h2 : ¬ op ≤ 36 := fun h2 => h ⟨h1, h2⟩
    clear h
    go_enter Try.func25, Try.ntmps25
    go_wp2
    go_ret
    exact ⟨rfl, rfl⟩
  · clear h
    go_enter Try.func25, Try.ntmps25
    go_wp2
    go_ret
    exact ⟨rfl, rfl⟩
theorem un_again (op n : Int) (h : 31 ≤ op ∧ op ≤ 36) (w : World) : Calls Try.prog 24 #[.int .i64 op, .int .i64 (unV op n)] w fun e w' => e = .returned (.tuple #[.int .i64 (unV op n), .int .i64 0]) ∧ Below w.heap.size w w' := by
  have c := un_any op (unV op n) h w
  rw [unV_twice op n h] at c
  exact c

set_option maxRecDepth 100000 in
theorem numUns_some (b off n c : Nat) (D E : Nat → Int) (w : World) (h : Asks w b off n D E) (hb : b < w.heap.size) (hn : n ≤ 9223372036854775807) :
    Calls Try.prog 8 #[.slice (some ⟨b, off, none⟩) n c] w fun e w' => e = .returned (.bool true) ∧ Below w.heap.size w w' := by
  go_enter Try.func8, Try.ntmps8
  go_wp2
  go_loopw [3] (fun i wr => ∃ k : Nat, k ≤ n ∧ k ≤ 12 ∧ i = .int .i64 k ∧ Below w.heap.size w wr) (fun i _ => 12 - (intOf i).toNat)
  case atStart => exact ⟨0, Nat.zero_le _, by omega, rfl, Below.refl _ _⟩
  case round =>
    obtain ⟨k, hk, hk12, rfl, hbel⟩ := hrel
    obtain ⟨w1, rfl⟩ : ∃ w1 : World, w1 = wr := ⟨_, rfl⟩
    by_cases h12 : k < 12
    · by_cases hlt : k < n
      · have hd12 : decide ((k : Int) < 12) = true := by simp; omega
        have hBel : Hid (Below w.heap.size w w1) := hbel
        clear hbel
        go_wp2
        go_loopw [4] (fun o wr => ∃ q : Int, 0 ≤ q ∧ q ≤ 38 ∧ o = .int .i64 q ∧ Below w.heap.size w wr) (fun o _ => (38 - intOf o).toNat)
        case atStart => exact ⟨0, by omega, by omega, rfl, hBel⟩
        case round =>
          obtain ⟨q, hq0, hq38, rfl, hbel⟩ := hrel
          obtain ⟨w2, rfl⟩ : ∃ w2 : World, w2 = wr := ⟨_, rfl⟩
          by_cases hq : q ≤ 37
          · have hA : w2.cell? ⟨b, off + k * 4, none⟩ = some (.int .i64 (D k)) := (hbel.cell hb).trans (h.cellA k hlt)
            have hdq : decide (q ≤ 37) = true := by simpa using hq
            by_cases hop0 : 31 ≤ q ∧ q ≤ 36
            · have hop := Lib.hid hop0
              have HB := Lib.hid hbel
              clear hop0 hbel
              go_wp2_with fail
              refine (un_any q (D k) hop.out _).mono ?_
              rintro e w3 ⟨rfl, hb1⟩
              have hA3 : w3.cell? ⟨b, off + k * 4, none⟩ = some (.int .i64 (D k)) := ((HB.out.trans (hb1.mono HB.out.size)).cell hb).trans (h.cellA k hlt)
              have HB1 := Lib.hid (HB.out.trans (hb1.mono HB.out.size))
              clear hb1 hA HB
              go_wp2_with fail
              refine (isUn_yes q hop.out _).mono ?_
              rintro e w' ⟨rfl, rfl⟩
              go_wp2_with fail
              refine (run_any q (D k) hop.out _).mono ?_
              rintro e w' ⟨rfl, rfl⟩
              go_wp2_with fail
              refine (un_again q (D k) hop.out _).mono ?_
              rintro e w4 ⟨rfl, hb2⟩
              have HB2 := Lib.hid (HB1.out.trans (hb2.mono HB1.out.size))
              clear hb2 hA3
              go_wp2
              go_roundw
              case rel => exact ⟨q + 1, by omega, by omega, rfl, HB2.out⟩
              case measure => simp [intOf]; omega
            · have hop := Lib.hid hop0
              have HB := Lib.hid hbel
              clear hop0 hbel
              go_wp2_with fail
              refine (un_no q (D k) hop.out _).mono ?_
              rintro e w3 ⟨rfl, hb1⟩
              have HB1 := Lib.hid (HB.out.trans (hb1.mono HB.out.size))
              clear hb1 hA HB
              go_wp2_with fail
              refine (isUn_no q hop.out _).mono ?_
              rintro e w' ⟨rfl, rfl⟩
              go_wp2
              go_roundw
              case rel => exact ⟨q + 1, by omega, by omega, rfl, HB1.out⟩
              case measure => simp [intOf]; omega
          · go_wp2
            go_roundw
            case rel => exact ⟨k + 1, by omega, by omega, by go_num, hbel⟩
            case measure => simp [intOf]; omega
      · go_wp2_with (go_at_call 22; refine (wakes_any _).mono ?_; rintro e w' ⟨rfl, rfl⟩)
        go_ret
        exact ⟨rfl, hbel⟩
    · go_wp2_with (go_at_call 22; refine (wakes_any _).mono ?_; rintro e w' ⟨rfl, rfl⟩)
      all_goals
        go_ret
        exact ⟨rfl, hbel⟩
theorem numUns_zero (A : Option Addr) (c : Nat) (w : World) :
    Calls Try.prog 8 #[.slice A 0 c] w fun e w' => e = .returned (.bool true) ∧ Below w.heap.size w w' := by
  go_enter Try.func8, Try.ntmps8
  go_wp2
  go_loop [3] (fun i => i = .int .i64 0) (fun _ => 0)
  case atStart => exact rfl
  case round =>
    obtain rfl := hrel
    go_wp2_with (go_at_call 22; refine (wakes_any _).mono ?_; rintro e w' ⟨rfl, rfl⟩)
    go_ret
    exact ⟨rfl, Below.refl _ _⟩
theorem numUns_any {v : Value} {w : World} (h : AskArg w v) :
    Calls Try.prog 8 #[v] w fun e w' => e = .returned (.bool true) ∧ Below w.heap.size w w' := by
  rcases h with ⟨A, c, rfl⟩ | ⟨b, off, n, c, D, E, rfl, ha, hb, hn⟩
  · exact numUns_zero A c w
  · exact numUns_some b off n c D E w ha hb hn
end Go.Proofs.Ytcofedinjcagoaa
