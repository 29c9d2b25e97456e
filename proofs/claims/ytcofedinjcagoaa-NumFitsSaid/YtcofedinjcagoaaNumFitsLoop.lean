/-
  'NumFits': the bytes, the sign, and what any number is, of each kind.
-/
import Derived.Test.YtcofedinjcagoaaKindsOf
import Derived.Deep.QuietTactic
import Derived.BigQuiet
namespace Go.Proofs.Ytcofedinjcagoaa
open Go.RowKit
set_option linter.unusedVariables false

theorem quiet_left {P : Program} {f : FuncId} {args : Array Value} {w : World} {n : Nat} {v : Value}
    (h : Calls P f args (w.drewN n) fun e w' => e = .returned v ∧ w.drewN n = w') : Calls P f args (w.drewN n) fun e w'' => e = .returned v ∧ ∃ m, w'' = w.drewN m :=
  h.mono fun _ _ ⟨he, hm⟩ => ⟨he, n, hm.symm⟩

set_option maxRecDepth 100000 in
theorem numFits_some (b off n c : Nat) (D E : Nat → Int) (w : World) (h : Asks w b off n D E) (hb : b < w.heap.size) (hn : n ≤ 9223372036854775807) :
    Calls Try.prog 3 #[.slice (some ⟨b, off, none⟩) n c] w fun e w' => e = .returned (.bool true) ∧ Below w.heap.size w w' := by
  go_enter Try.func3, Try.ntmps3
  go_wp2
  go_loopw [3] (fun i wr => ∃ k : Nat, k ≤ n ∧ k ≤ 12 ∧ i = .int .i64 k ∧ Below w.heap.size w wr) (fun i _ => 12 - (intOf i).toNat)
  case atStart => exact ⟨0, Nat.zero_le _, by omega, rfl, Below.refl _ _⟩
  case round =>
    obtain ⟨k, hk, hk12, rfl, hbel⟩ := hrel
    obtain ⟨w1, rfl⟩ : ∃ w1 : World, w1 = wr := ⟨_, rfl⟩
    by_cases h12 : k < 12
    · by_cases hlt : k < n
      · have hd12 : decide ((k : Int) < 12) = true := by simp; omega
        have hBel : Hid (Below w.heap.size w w1) := hbel
        clear hbel
        go_wp2
        go_loopw [4] (fun o wr => ∃ q : Int, -1 ≤ q ∧ q ≤ 10 ∧ o = .int .i64 q ∧ Below w.heap.size w wr) (fun o _ => (10 - intOf o).toNat)
        case atStart => exact ⟨-1, by omega, by omega, rfl, hBel⟩
        case round =>
          obtain ⟨q, hq0, hq10, rfl, hbel⟩ := hrel
          obtain ⟨w2, rfl⟩ : ∃ w2 : World, w2 = wr := ⟨_, rfl⟩
          by_cases hq : q ≤ 9
          · have hdq : decide (q ≤ 9) = true := by simpa using hq
            have HB := Lib.hid hbel
            clear hbel
            by_cases hop0 : 1 ≤ q ∧ q ≤ 8
            · have C1 := fun W => Lib.hid (byAny q hop0 W)
              have C2 := fun W => Lib.hid (sgAny q hop0 W)
              have C3 := fun W => Lib.hid (ftAny q (D k) hop0 W)
              have C4 := fun W => Lib.hid (rkYes q hop0 W)
              have C5 := fun W => Lib.hid (rbyAny q hop0 W)
              have C6 := fun W => Lib.hid (rsgAny q hop0 W)
              have C7 := fun W => Lib.hid (rftAny q (D k) hop0 W)
              revert C1 C2 C3 C4 C5 C6 C7
              generalize bytesV q = x1
              generalize signV q = x2
              generalize fitV q (D k) = x3
              intro C1 C2 C3 C4 C5 C6 C7
              clear hop0
              go_wp2_with fail
              refine (C1 _).out.mono ?_
              rintro e w3 ⟨rfl, hb1⟩
              have HB1 := Lib.hid (HB.out.trans (hb1.mono HB.out.size))
              clear hb1 HB
              go_wp2_with fail
              refine (C2 _).out.mono ?_
              rintro e w4 ⟨rfl, hb1⟩
              have HB2 := Lib.hid (HB1.out.trans (hb1.mono HB1.out.size))
              have hA : w4.cell? ⟨b, off + k * 4, none⟩ = some (.int .i64 (D k)) := (HB2.out.cell hb).trans (h.cellA k hlt)
              clear hb1 HB1
              go_wp2_with fail
              refine (C3 _).out.mono ?_
              rintro e w' ⟨rfl, rfl⟩
              go_wp2_with fail
              refine (C4 _).out.mono ?_
              rintro e w' ⟨rfl, rfl⟩
              go_wp2_with fail
              go_quiet ((first | (go_at_call 19; exact quiet_left (C5 _).out) | (go_at_call 20; exact quiet_left (C6 _).out) | (go_at_call 21; exact quiet_left (C7 _).out)))
              go_wp2
              go_roundw
              case rel => exact ⟨q + 1, by omega, by omega, rfl, below_drewN HB2.out _⟩
              case measure => simp [intOf]; omega
            · have C1 := fun W => Lib.hid (byNo q hop0 W)
              have C2 := fun W => Lib.hid (sgNo q hop0 W)
              have C3 := fun W => Lib.hid (ftNo q (D k) hop0 W)
              have C4 := fun W => Lib.hid (rkNo q hop0 W)
              clear hop0
              go_wp2_with fail
              refine (C1 _).out.mono ?_
              rintro e w3 ⟨rfl, hb1⟩
              have HB1 := Lib.hid (HB.out.trans (hb1.mono HB.out.size))
              clear hb1 HB
              go_wp2_with fail
              refine (C2 _).out.mono ?_
              rintro e w4 ⟨rfl, hb1⟩
              have HB2 := Lib.hid (HB1.out.trans (hb1.mono HB1.out.size))
              have hA : w4.cell? ⟨b, off + k * 4, none⟩ = some (.int .i64 (D k)) := (HB2.out.cell hb).trans (h.cellA k hlt)
              clear hb1 HB1
              go_wp2_with fail
              refine (C3 _).out.mono ?_
              rintro e w' ⟨rfl, rfl⟩
              go_wp2_with fail
              refine (C4 _).out.mono ?_
              rintro e w' ⟨rfl, rfl⟩
              go_wp2
              go_roundw
              case rel => exact ⟨q + 1, by omega, by omega, rfl, HB2.out⟩
              case measure => simp [intOf]; omega
          · go_wp2
            go_roundw
            case rel => exact ⟨k + 1, by omega, by omega, by go_num, hbel⟩
            case measure => simp [intOf]; omega
      · go_wp2_with (go_at_call 22; refine (wakes_any _).mono ?_; rintro e w' ⟨rfl, rfl⟩)
        go_ret
        exact ⟨rfl, hbel⟩
    · go_wp2_with (go_at_call 22; refine (wakes_any _).mono ?_; rintro e w' ⟨rfl, rfl⟩)
      all_goals
        go_ret
        exact ⟨rfl, hbel⟩
theorem numFits_zero (A : Option Addr) (c : Nat) (w : World) :
    Calls Try.prog 3 #[.slice A 0 c] w fun e w' => e = .returned (.bool true) ∧ Below w.heap.size w w' := by
  go_enter Try.func3, Try.ntmps3
  go_wp2
  go_loop [3] (fun i => i = .int .i64 0) (fun _ => 0)
  case atStart => exact rfl
  case round =>
    obtain rfl := hrel
    go_wp2_with (go_at_call 22; refine (wakes_any _).mono ?_; rintro e w' ⟨rfl, rfl⟩)
    go_ret
    exact ⟨rfl, Below.refl _ _⟩
theorem numFits_any {v : Value} {w : World} (h : AskArg w v) :
    Calls Try.prog 3 #[v] w fun e w' => e = .returned (.bool true) ∧ Below w.heap.size w w' := by
  rcases h with ⟨A, c, rfl⟩ | ⟨b, off, n, c, D, E, rfl, ha, hb, hn⟩
  · exact numFits_zero A c w
  · exact numFits_some b off n c D E w ha hb hn
end Go.Proofs.Ytcofedinjcagoaa
