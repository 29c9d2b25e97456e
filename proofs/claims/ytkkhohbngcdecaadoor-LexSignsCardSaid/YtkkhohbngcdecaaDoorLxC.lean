/-
  'number' of lex.
-/
import Derived.Test.YtkkhohbngcdecaaDoorLxB
namespace Go.Proofs.YtkkhohbngcdecaaDoor
open Go.RowKit
set_option linter.unusedVariables false
theorem tri {a b c a' b' c' : Int} (h : a = a' ∧ b = b' ∧ c = c') : Ending.returned (.tuple #[.int .i64 a, .int .i64 b, .int .i64 c]) = .returned (.tuple #[.int .i64 a', .int .i64 b', .int .i64 c']) := by
  obtain ⟨rfl, rfl, rfl⟩ := h; rfl
theorem number_any (s : ByteArray) (k : Nat) (w : World) (hs : s.size ≤ maxLen) (hk : k ≤ s.size) :
    Calls Tryd.prog 27 #[.string s, .int .i64 k] w fun e w' => e = .returned (.tuple #[.int .i64 (numN (s.data.toList.drop k)), .int .i64 (numP (s.data.toList.drop k) k : Nat), .int .i64 (numE (s.data.toList.drop k))]) ∧ w = w' := by
  unfold maxLen at hs
  go_enter Tryd.func27, Tryd.ntmps27
  go_wp2
  go_loop [1, 7, 8, 9] (fun i n o g => ∃ j : Nat, ∃ (N : Int) (O : Bool), j ≤ s.size ∧ i = .int .i64 j ∧ n = .int .u64 N ∧ o = .bool O ∧ ((s.data.toList.drop j).takeWhile isDig).foldl numStep (N, O) = numOf ((s.data.toList.drop k).takeWhile isDig) ∧ j + cnt isDig (s.data.toList.drop j) = k + cnt isDig (s.data.toList.drop k)) (fun i _ _ _ => s.size - (intOf i).toNat)
  case atStart => exact ⟨k, 0, false, hk, rfl, rfl, rfl, rfl, rfl⟩
  case round =>
    obtain ⟨j, N, O, hj, rfl, rfl, rfl, hr, hc⟩ := hrel
    have H := Lib.hid hr
    have HC := Lib.hid hc
    clear hr hc
    by_cases hlt : j < s.size
    · have cd := fun W => isDigit_any s[j] W
      cases hd : isDig s[j] with
      | true =>
        have H3 := Lib.hid hd
        rw [hd] at cd
        have CD := fun W => Lib.hid (cd W)
        clear hd cd
        cases O
        · go_wp2_with (go_at_call 26; refine ((CD _).out).mono ?_; rintro e w' ⟨rfl, rfl⟩)
          go_round
          case rel =>
            exact ⟨j + 1, _, _, by omega, by go_num, rfl, rfl, by have := H.out; rw [drop_cons s hlt, tw_yes H3.out] at this; exact this, by have := HC.out; rw [drop_cons s hlt, cnt_yes H3.out] at this; omega⟩
          case measure => simp [intOf]; omega
        · go_wp2_with (go_at_call 26; refine ((CD _).out).mono ?_; rintro e w' ⟨rfl, rfl⟩)
          go_round
          case rel =>
            exact ⟨j + 1, _, _, by omega, by go_num, rfl, rfl, by have := H.out; rw [drop_cons s hlt, tw_yes H3.out] at this; exact this, by have := HC.out; rw [drop_cons s hlt, cnt_yes H3.out] at this; omega⟩
          case measure => simp [intOf]; omega
      | false =>
        have h4 : (N, O) = numOf ((s.data.toList.drop k).takeWhile isDig) := by have := H.out; rw [drop_cons s hlt, tw_no hd] at this; exact this
        have h5 : j = k + cnt isDig (s.data.toList.drop k) := by have := HC.out; rw [drop_cons s hlt, cnt_no hd] at this; omega
        have h6 : (s.data.toList.drop k).getD (cnt isDig (s.data.toList.drop k)) 0 = s[j] := by rw [getD_drop, ← h5, getD_in s hlt]
        rw [hd] at cd
        have CD := fun W => Lib.hid (cd W)
        have H4 := Lib.hid h4
        have H5 := Lib.hid h5
        have H6 := Lib.hid h6
        clear hd cd h4 h5 h6
        cases O
        · have cl := fun W => isLetter_any s[j] W
          cases hl : isLet s[j] with
          | true =>
            have HL := Lib.hid hl
            rw [hl] at cl
            have CL := fun W => Lib.hid (cl W)
            clear hl cl
            go_wp2_with (first | (go_at_call 26; refine ((CD _).out).mono ?_; rintro e w' ⟨rfl, rfl⟩) | (go_at_call 22; refine ((CL _).out).mono ?_; rintro e w' ⟨rfl, rfl⟩))
            go_ret3
            refine ⟨tri ?_, rfl⟩
            have := num_let k (r := s.data.toList.drop k) (by rw [← H4.out]) (by rw [H6.out]; exact HL.out)
            obtain ⟨a, b, c⟩ := this
            rw [a, b, c]
            exact ⟨rfl, rfl, rfl⟩
          | false =>
            have HL := Lib.hid hl
            rw [hl] at cl
            have CL := fun W => Lib.hid (cl W)
            clear hl cl
            go_wp2_with (first | (go_at_call 26; refine ((CD _).out).mono ?_; rintro e w' ⟨rfl, rfl⟩) | (go_at_call 22; refine ((CL _).out).mono ?_; rintro e w' ⟨rfl, rfl⟩))
            go_ret3
            refine ⟨tri ?_, rfl⟩
            have := num_ok k (r := s.data.toList.drop k) (by rw [← H4.out]) (by rw [H6.out]; exact HL.out)
            obtain ⟨a, b, c⟩ := this
            rw [a, b, c, ← H4.out, ← H5.out]
            exact ⟨rfl, rfl, rfl⟩
        · go_wp2_with (first | (go_at_call 26; refine ((CD _).out).mono ?_; rintro e w' ⟨rfl, rfl⟩))
          go_ret3
          refine ⟨tri ?_, rfl⟩
          have := num_over k (r := s.data.toList.drop k) (by rw [← H4.out])
          obtain ⟨a, b, c⟩ := this
          rw [a, b, c]
          exact ⟨rfl, rfl, rfl⟩
    · have h4 : (N, O) = numOf ((s.data.toList.drop k).takeWhile isDig) := by have := H.out; rw [drop_nil s hlt] at this; exact this
      have h5 : j = k + cnt isDig (s.data.toList.drop k) := by have := HC.out; rw [drop_nil s hlt, cnt_nil] at this; omega
      have h6 : (s.data.toList.drop k).getD (cnt isDig (s.data.toList.drop k)) 0 = 0 := by rw [getD_drop, ← h5, getD_out s hlt]
      have H4 := Lib.hid h4
      have H5 := Lib.hid h5
      have H6 := Lib.hid h6
      clear h4 h5 h6
      cases O
      · go_wp2
        go_ret3
        refine ⟨tri ?_, rfl⟩
        have := num_ok k (r := s.data.toList.drop k) (by rw [← H4.out]) (by rw [H6.out]; decide)
        obtain ⟨a, b, c⟩ := this
        rw [a, b, c, ← H4.out, ← H5.out]
        exact ⟨rfl, rfl, rfl⟩
      · go_wp2
        go_ret3
        refine ⟨tri ?_, rfl⟩
        have := num_over k (r := s.data.toList.drop k) (by rw [← H4.out])
        obtain ⟨a, b, c⟩ := this
        rw [a, b, c]
        exact ⟨rfl, rfl, rfl⟩
end Go.Proofs.YtkkhohbngcdecaaDoor
