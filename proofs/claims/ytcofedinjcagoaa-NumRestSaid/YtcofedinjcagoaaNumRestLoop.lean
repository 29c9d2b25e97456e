/-
  'NumRest': a quotient times what it was divided by, and what is left, is the number.
-/
import Derived.Test.YtcofedinjcagoaaBins
import Derived.Test.YtcofedinjcagoaaFrame
namespace Go.Proofs.Ytcofedinjcagoaa
open Go.RowKit
set_option linter.unusedVariables false

theorem wrap_mod (x : Int) : ∃ t : Int, wrap64 x = x + t * 18446744073709551616 := ⟨-((x + 9223372036854775808) / 18446744073709551616), by unfold wrap64; omega⟩
theorem wrap_eq {x a : Int} (ha : (Lit.int .i64 a).wf = true) (t : Int) (h : x = a + t * 18446744073709551616) : wrap64 x = a := by
  have := fits a ha
  unfold wrap64
  omega
theorem rest_s (a b : Int) (ha : (Lit.int .i64 a).wf = true) (hb : ¬ b = 0) : wrap64 (binV 15 a b * b + binV 17 a b) = a := by
  rw [binV15, binV17, if_neg hb, if_neg hb]
  obtain ⟨t, ht⟩ := wrap_mod (a.tdiv b)
  have hd := Int.tdiv_mul_add_tmod a b
  refine wrap_eq ha (t * b) ?_
  rw [ht, Int.add_mul]
  have : t * 18446744073709551616 * b = t * b * 18446744073709551616 := by rw [Int.mul_assoc, Int.mul_comm 18446744073709551616 b, ← Int.mul_assoc]
  omega
theorem u64_mod (a : Int) : ∃ t : Int, IntKind.u64.wrap a = a + t * 18446744073709551616 := ⟨-(a / 18446744073709551616), by rw [u64_eq]; omega⟩
theorem rest_u (a b : Int) (ha : (Lit.int .i64 a).wf = true) (hb : ¬ b = 0) : wrap64 (binV 16 a b * b + binV 18 a b) = a := by
  rw [binV16, binV18, if_neg hb, if_neg hb]
  have hd := Int.tdiv_mul_add_tmod (IntKind.u64.wrap a) (IntKind.u64.wrap b)
  obtain ⟨ta, hta⟩ := u64_mod a
  obtain ⟨tb, htb⟩ := u64_mod b
  generalize hq : (IntKind.u64.wrap a).tdiv (IntKind.u64.wrap b) = q at *
  generalize hr : (IntKind.u64.wrap a).tmod (IntKind.u64.wrap b) = r at *
  obtain ⟨t1, h1⟩ := wrap_mod (IntKind.u64.wrap q)
  obtain ⟨t2, h2⟩ := u64_mod q
  obtain ⟨t3, h3⟩ := wrap_mod r
  rw [h1, h2, h3]
  rw [hta, htb] at hd
  refine wrap_eq ha (ta - q * tb + (t2 + t1) * b + t3) ?_
  have e1 : (q + t2 * 18446744073709551616 + t1 * 18446744073709551616) * b = q * b + (t2 + t1) * b * 18446744073709551616 := by
    rw [Int.add_mul, Int.add_mul, Int.add_mul, Int.add_mul]
    have x1 : t2 * 18446744073709551616 * b = t2 * b * 18446744073709551616 := by rw [Int.mul_assoc, Int.mul_comm 18446744073709551616 b, ← Int.mul_assoc]
    have x2 : t1 * 18446744073709551616 * b = t1 * b * 18446744073709551616 := by rw [Int.mul_assoc, Int.mul_comm 18446744073709551616 b, ← Int.mul_assoc]
    omega
  have e2 : q * (b + tb * 18446744073709551616) = q * b + q * tb * 18446744073709551616 := by rw [Int.mul_add, ← Int.mul_assoc]
  rw [e2] at hd
  rw [e1]
  have e3 : (ta - q * tb + (t2 + t1) * b + t3) * 18446744073709551616 = ta * 18446744073709551616 - q * tb * 18446744073709551616 + (t2 + t1) * b * 18446744073709551616 + t3 * 18446744073709551616 := by
    rw [Int.add_mul, Int.add_mul, Int.sub_mul]
  omega
theorem zero_q (a b : Int) (hb : b = 0) : binV 15 a b = -1 ∧ binV 16 a b = -1 ∧ binV 17 a b = a ∧ binV 18 a b = a := by
  rw [binV15, binV16, binV17, binV18, if_pos hb, if_pos hb, if_pos hb, if_pos hb]; exact ⟨rfl, rfl, rfl, rfl⟩

theorem ops_cells (w : World) : (w.alloc (Obj.cells #[.int .i64 15, .int .i64 17, .int .i64 16, .int .i64 18] 38)).drew.cell? ⟨w.heap.size, 0, none⟩ = some (.int .i64 15) ∧
    (w.alloc (Obj.cells #[.int .i64 15, .int .i64 17, .int .i64 16, .int .i64 18] 38)).drew.cell? ⟨w.heap.size, 1, none⟩ = some (.int .i64 17) ∧
    (w.alloc (Obj.cells #[.int .i64 15, .int .i64 17, .int .i64 16, .int .i64 18] 38)).drew.cell? ⟨w.heap.size, 2, none⟩ = some (.int .i64 16) ∧
    (w.alloc (Obj.cells #[.int .i64 15, .int .i64 17, .int .i64 16, .int .i64 18] 38)).drew.cell? ⟨w.heap.size, 3, none⟩ = some (.int .i64 18) := by
  refine ⟨?_, ?_, ?_, ?_⟩ <;> simp
theorem wrap_add (x y : Int) : wrap64 (wrap64 x + y) = wrap64 (x + y) := by unfold wrap64; omega

set_option maxRecDepth 100000 in
theorem numRest_some (b off n c : Nat) (D E : Nat → Int) (w : World) (h : Asks w b off n D E) (hb : b < w.heap.size) (hn : n ≤ 9223372036854775807) :
    Calls Try.prog 9 #[.slice (some ⟨b, off, none⟩) n c] w fun e w' => e = .returned (.bool true) ∧ Below w.heap.size w w' := by
  go_enter Try.func9, Try.ntmps9
  go_wp2
  go_loopw [3] (fun i wr => ∃ k : Nat, k ≤ n ∧ k ≤ 12 ∧ i = .int .i64 k ∧ Below w.heap.size w wr) (fun i _ => 12 - (intOf i).toNat)
  case atStart => exact ⟨0, Nat.zero_le _, by omega, rfl, Below.refl _ _⟩
  case round =>
    obtain ⟨k, hk, hk12, rfl, hbel⟩ := hrel
    obtain ⟨w1, rfl⟩ : ∃ w1 : World, w1 = wr := ⟨_, rfl⟩
    by_cases h12 : k < 12
    · by_cases hlt : k < n
      · have hd12 : decide ((k : Int) < 12) = true := by simp; omega
        have hA : w1.cell? ⟨b, off + k * 4, none⟩ = some (.int .i64 (D k)) := (hbel.cell hb).trans (h.cellA k hlt)
        have hB : w1.cell? ⟨b, off + k * 4 + 1, none⟩ = some (.int .i64 (E k)) := (hbel.cell hb).trans (h.cellB k hlt)
        have hBel : Hid (Below w.heap.size w w1) := hbel
        clear hbel
        go_wp2
        go_region
        go_wp2
        have hw3 : Below w.heap.size w (w1.alloc (Obj.cells #[.int .i64 15, .int .i64 17, .int .i64 16, .int .i64 18] 38)).drew := (hBel.out.alloc hBel.out.size _).drew
        have hc3 := ops_cells w1
        revert hw3 hc3
        generalize (w1.alloc (Obj.cells #[.int .i64 15, .int .i64 17, .int .i64 16, .int .i64 18] 38)).drew = W3
        generalize w1.heap.size = g
        rintro hw3 ⟨c0, c1, c2, c3⟩
        have HW3 := Lib.hid hw3
        have wa := h.wfA k
        have wb := h.wfB k
        clear hw3 hA hB
        go_loop [7] (fun o => ∃ m : Nat, m ≤ 2 ∧ o = .int .i64 m) (fun o => 2 - (intOf o).toNat)
        case atStart => exact ⟨0, by omega, rfl⟩
        case round =>
          obtain ⟨m, hm, rfl⟩ := hrel
          have hm3 : m = 0 ∨ m = 1 ∨ m = 2 := by omega
          rcases hm3 with rfl | rfl | rfl
          · by_cases hz : E k = 0
            · obtain ⟨z1, z2, z3, z4⟩ := zero_q (D k) (E k) hz
              have P1 := fun W => Lib.hid (p_any 15 (D k) (E k) (by omega) (by omega) wb W)
              have P2 := fun W => Lib.hid (p_any 17 (D k) (E k) (by omega) (by omega) wb W)
              rw [z1] at P1
              rw [z3] at P2
              rw [hz] at P1 P2 ⊢
              clear z1 z2 z3 z4 hz wb wa
              go_wp2_with fail
              refine (P1 _).out.mono ?_
              rintro e w' ⟨rfl, rfl⟩
              go_wp2_with fail
              refine (P2 _).out.mono ?_
              rintro e w' ⟨rfl, rfl⟩
              go_wp2
              go_round
              case rel => exact ⟨1, by omega, by go_num⟩
              case measure => simp [intOf]
            · have R := rest_s (D k) (E k) wa hz
              have P1 := fun W => Lib.hid (p_any 15 (D k) (E k) (by omega) (by omega) wb W)
              have P2 := fun W => Lib.hid (p_any 17 (D k) (E k) (by omega) (by omega) wb W)
              revert R P1 P2
              generalize binV 15 (D k) (E k) = x
              generalize binV 17 (D k) (E k) = y
              intro R P1 P2
              have hz1 : (E k != 0) = true := by simpa using hz
              have hz2 : (E k == 0) = false := by simpa using hz
              have hR : (wrap64 (wrap64 (x * E k) + y) != D k) = false := by rw [wrap_add, R]; simp
              have hR2 : (wrap64 (x * E k + y) != D k) = false := by rw [R]; simp
              clear R wa wb hz
              go_wp2_with fail
              refine (P1 _).out.mono ?_
              rintro e w' ⟨rfl, rfl⟩
              go_wp2_with fail
              refine (P2 _).out.mono ?_
              rintro e w' ⟨rfl, rfl⟩
              go_wp2
              go_round
              case rel => exact ⟨1, by omega, by go_num⟩
              case measure => simp [intOf]
          · by_cases hz : E k = 0
            · obtain ⟨z1, z2, z3, z4⟩ := zero_q (D k) (E k) hz
              have P1 := fun W => Lib.hid (p_any 16 (D k) (E k) (by omega) (by omega) wb W)
              have P2 := fun W => Lib.hid (p_any 18 (D k) (E k) (by omega) (by omega) wb W)
              rw [z2] at P1
              rw [z4] at P2
              rw [hz] at P1 P2 ⊢
              clear z1 z2 z3 z4 hz wb wa
              go_wp2_with fail
              refine (P1 _).out.mono ?_
              rintro e w' ⟨rfl, rfl⟩
              go_wp2_with fail
              refine (P2 _).out.mono ?_
              rintro e w' ⟨rfl, rfl⟩
              go_wp2
              go_round
              case rel => exact ⟨2, by omega, by go_num⟩
              case measure => simp [intOf]
            · have R := rest_u (D k) (E k) wa hz
              have P1 := fun W => Lib.hid (p_any 16 (D k) (E k) (by omega) (by omega) wb W)
              have P2 := fun W => Lib.hid (p_any 18 (D k) (E k) (by omega) (by omega) wb W)
              revert R P1 P2
              generalize binV 16 (D k) (E k) = x
              generalize binV 18 (D k) (E k) = y
              intro R P1 P2
              have hz1 : (E k != 0) = true := by simpa using hz
              have hz2 : (E k == 0) = false := by simpa using hz
              have hR : (wrap64 (wrap64 (x * E k) + y) != D k) = false := by rw [wrap_add, R]; simp
              have hR2 : (wrap64 (x * E k + y) != D k) = false := by rw [R]; simp
              clear R wa wb hz
              go_wp2_with fail
              refine (P1 _).out.mono ?_
              rintro e w' ⟨rfl, rfl⟩
              go_wp2_with fail
              refine (P2 _).out.mono ?_
              rintro e w' ⟨rfl, rfl⟩
              go_wp2
              go_round
              case rel => exact ⟨2, by omega, by go_num⟩
              case measure => simp [intOf]
          · go_wp2
            go_roundw
            case rel => exact ⟨k + 1, by omega, by omega, by go_num, HW3.out⟩
            case measure => simp [intOf]; omega
      · go_wp2_with (go_at_call 22; refine (wakes_any _).mono ?_; rintro e w' ⟨rfl, rfl⟩)
        go_ret
        exact ⟨rfl, hbel⟩
    · go_wp2_with (go_at_call 22; refine (wakes_any _).mono ?_; rintro e w' ⟨rfl, rfl⟩)
      all_goals
        go_ret
        exact ⟨rfl, hbel⟩
theorem numRest_zero (A : Option Addr) (c : Nat) (w : World) :
    Calls Try.prog 9 #[.slice A 0 c] w fun e w' => e = .returned (.bool true) ∧ Below w.heap.size w w' := by
  go_enter Try.func9, Try.ntmps9
  go_wp2
  go_loop [3] (fun i => i = .int .i64 0) (fun _ => 0)
  case atStart => exact rfl
  case round =>
    obtain rfl := hrel
    go_wp2_with (go_at_call 22; refine (wakes_any _).mono ?_; rintro e w' ⟨rfl, rfl⟩)
    go_ret
    exact ⟨rfl, Below.refl _ _⟩
theorem numRest_any {v : Value} {w : World} (h : AskArg w v) :
    Calls Try.prog 9 #[v] w fun e w' => e = .returned (.bool true) ∧ Below w.heap.size w w' := by
  rcases h with ⟨A, c, rfl⟩ | ⟨b, off, n, c, D, E, rfl, ha, hb, hn⟩
  · exact numRest_zero A c w
  · exact numRest_some b off n c D E w ha hb hn
end Go.Proofs.Ytcofedinjcagoaa
