/-
  'pastBlanks', 'pastName', 'number' of lex.
-/
import Derived.Test.YtkkhohbngcdecaaDoorLxA
namespace Go.Proofs.YtkkhohbngcdecaaDoor
open Go.RowKit
set_option linter.unusedVariables false
theorem ret_int {k : IntKind} {a b : Int} (h : a = b) : Ending.returned (.int k a) = .returned (.int k b) := by rw [h]

theorem pastBlanks_any (s : ByteArray) (k : Nat) (w : World) (hs : s.size ≤ maxLen) (hk : k ≤ s.size) :
    Calls Tryd.prog 14 #[.string s, .int .i64 k] w fun e w' => e = .returned (.int .i64 ((k + cnt isBl (s.data.toList.drop k) : Nat) : Int)) ∧ w = w' := by
  unfold maxLen at hs
  go_enter Tryd.func14, Tryd.ntmps14
  go_wp2
  go_loop [1] (fun i => ∃ j : Nat, j ≤ s.size ∧ i = .int .i64 j ∧ j + cnt isBl (s.data.toList.drop j) = k + cnt isBl (s.data.toList.drop k)) (fun i => s.size - (intOf i).toNat)
  case atStart => exact ⟨k, hk, rfl, rfl⟩
  case round =>
    obtain ⟨j, hj, rfl, hr⟩ := hrel
    have H := Lib.hid hr
    clear hr
    by_cases hlt : j < s.size
    · cases hb : isBl s[j] with
      | true =>
        have H2 := Lib.hid hb
        have h1 := (bl_bits s[j]).trans hb
        clear hb
        go_wp2
        go_round
        case rel => exact ⟨j + 1, by omega, by go_num, by have := H.out; rw [drop_cons s hlt, cnt_yes H2.out] at this; omega⟩
        case measure => simp [intOf]; omega
      | false =>
        have H2 := Lib.hid hb
        have h1 := (bl_bits s[j]).trans hb
        clear hb
        go_wp2
        go_ret
        exact ⟨ret_int (by have := H.out; rw [drop_cons s hlt, cnt_no H2.out] at this; omega), rfl⟩
    · go_wp2
      go_ret
      exact ⟨ret_int (by have := H.out; rw [drop_nil s hlt, cnt_nil] at this; omega), rfl⟩

theorem pastName_any (s : ByteArray) (k : Nat) (w : World) (hs : s.size ≤ maxLen) (hk : k ≤ s.size) :
    Calls Tryd.prog 23 #[.string s, .int .i64 k] w fun e w' => e = .returned (.int .i64 ((k + cnt isAl (s.data.toList.drop k) : Nat) : Int)) ∧ w = w' := by
  unfold maxLen at hs
  go_enter Tryd.func23, Tryd.ntmps23
  go_wp2
  go_loop [1] (fun i => ∃ j : Nat, j ≤ s.size ∧ i = .int .i64 j ∧ j + cnt isAl (s.data.toList.drop j) = k + cnt isAl (s.data.toList.drop k)) (fun i => s.size - (intOf i).toNat)
  case atStart => exact ⟨k, hk, rfl, rfl⟩
  case round =>
    obtain ⟨j, hj, rfl, hr⟩ := hrel
    have H := Lib.hid hr
    clear hr
    by_cases hlt : j < s.size
    · have cl := fun W => isLetter_any s[j] W
      have cd := fun W => isDigit_any s[j] W
      cases hb : isLet s[j] with
      | true =>
        have H2 := Lib.hid hb
        rw [hb] at cl
        have CL := fun W => Lib.hid (cl W)
        clear hb cl cd
        go_wp2_with (go_at_call 22; refine ((CL _).out).mono ?_; rintro e w' ⟨rfl, rfl⟩)
        go_round
        case rel => exact ⟨j + 1, by omega, by go_num, by have := H.out; rw [drop_cons s hlt, cnt_yes (by simp [isAl, H2.out])] at this; omega⟩
        case measure => simp [intOf]; omega
      | false =>
        cases hd : isDig s[j] with
        | true =>
          have H2 := Lib.hid hb
          have H3 := Lib.hid hd
          rw [hb] at cl
          rw [hd] at cd
          have CL := fun W => Lib.hid (cl W)
          have CD := fun W => Lib.hid (cd W)
          clear hb hd cl cd
          go_wp2_with (first | (go_at_call 22; refine ((CL _).out).mono ?_; rintro e w' ⟨rfl, rfl⟩) | (go_at_call 26; refine ((CD _).out).mono ?_; rintro e w' ⟨rfl, rfl⟩))
          go_round
          case rel => exact ⟨j + 1, by omega, by go_num, by have := H.out; rw [drop_cons s hlt, cnt_yes (by simp [isAl, H3.out])] at this; omega⟩
          case measure => simp [intOf]; omega
        | false =>
          have H2 := Lib.hid hb
          have H3 := Lib.hid hd
          rw [hb] at cl
          rw [hd] at cd
          have CL := fun W => Lib.hid (cl W)
          have CD := fun W => Lib.hid (cd W)
          clear hb hd cl cd
          go_wp2_with (first | (go_at_call 22; refine ((CL _).out).mono ?_; rintro e w' ⟨rfl, rfl⟩) | (go_at_call 26; refine ((CD _).out).mono ?_; rintro e w' ⟨rfl, rfl⟩))
          go_ret
          exact ⟨ret_int (by have := H.out; rw [drop_cons s hlt, cnt_no (by simp [isAl, H2.out, H3.out])] at this; omega), rfl⟩
    · go_wp2
      go_ret
      exact ⟨ret_int (by have := H.out; rw [drop_nil s hlt, cnt_nil] at this; omega), rfl⟩

end Go.Proofs.YtkkhohbngcdecaaDoor
