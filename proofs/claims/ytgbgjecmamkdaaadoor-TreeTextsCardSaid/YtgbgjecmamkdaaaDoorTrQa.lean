/-
  The page's words and ops.
-/
import Derived.Test.YtgbgjecmamkdaaaDoorTrPe
import Derived.Lib.Zigzag
import Derived.Laws.BitsAllLaws
namespace Go.Proofs.YtgbgjecmamkdaaaDoor
open Go.RowKit
set_option linter.unusedVariables false
set_option linter.unusedSimpArgs false
set_option maxRecDepth 100000
set_option maxHeartbeats 2000000

def words36 : Array Value := ((wordsL.drop 1).map fun s => Value.string ⟨s.toArray⟩).toArray
theorem words36_get (o : Nat) (h1 : 1 ≤ o) (h2 : o ≤ 36) : words36[o - 1]? = some (.string ⟨(wordV (o : Int)).toArray⟩) := by
  unfold words36 wordV
  have hl : wordsL.length = 37 := by decide
  rw [List.getElem?_toArray, List.getElem?_map, List.getElem?_drop, show 1 + (o - 1) = o by omega, List.getElem?_eq_getElem (by omega)]
  simp [List.getD, List.getElem?_eq_getElem (show o < wordsL.length by omega)]
theorem word_page (o : Nat) (h1 : 1 ≤ o) (h2 : o ≤ 36) (w : World) : Calls Tryd.prog 34 #[.int .i64 (o : Int)] w fun e w' => e = .returned (.string ⟨(wordV (o : Int)).toArray⟩) ∧ Below w.heap.size w w' := by
  have O := (OwnB.new (w := w) (cs := words36) (T := 9) rfl).facts.1
  have hg := O (o - 1)
  rw [words36_get o h1 h2] at hg
  unfold words36 wordsL at hg
  simp only [List.drop, List.map] at hg
  clear O
  have e1 : (o : Int) - 1 = ((o - 1 : Nat) : Int) := by omega
  have hlt : ((o - 1 : Nat) : Int) < 36 := by omega
  have h0 : (0 : Int) ≤ ((o - 1 : Nat) : Int) := by omega
  go_enter Tryd.func34, Tryd.ntmps34
  go_wp2_with fail
  go_ret
  exact ⟨rfl, (Keeps.au (G := [])).below⟩
theorem word_inj (o k : Nat) (h1 : 1 ≤ o) (h2 : o ≤ 36) (h3 : 1 ≤ k) (h4 : k ≤ 36) (h : wordV (o : Int) = wordV (k : Int)) : o = k := by
  have h5 := opK_word o h1 h2
  have h6 := opK_word k h3 h4
  rw [h, h6] at h5
  omega
theorem op_page (s : List UInt8) (w : World) : Calls Tryd.prog 55 #[.string ⟨s.toArray⟩] w fun e w' => ∃ r : Int, e = .returned (.int .i64 r) ∧ 0 ≤ r ∧ r ≤ 36 ∧ (∀ o : Nat, 1 ≤ o → o ≤ 36 → s = wordV (o : Int) → r = o) ∧ Below w.heap.size w w' := by
  have CW := fun (o : Nat) (h1 : 1 ≤ o) (h2 : o ≤ 36) (w : World) => Lib.hid (word_page o h1 h2 w)
  go_enter Tryd.func55, Tryd.ntmps55
  go_wp2_with fail
  go_loopw [3, 4, 5, 6, 7, 8, 9, 10, 11, 12] (fun i _ _ _ _ _ _ _ _ _ wr => ∃ o : Nat, 1 ≤ o ∧ o ≤ 37 ∧ i = .int .i64 (o : Int) ∧ (∀ k : Nat, 1 ≤ k → k < o → wordV (k : Int) ≠ s) ∧ Below w.heap.size w wr) (fun i _ _ _ _ _ _ _ _ _ _ => 37 - (intOf i).toNat)
  case atStart => exact ⟨1, Nat.le_refl _, by omega, rfl, fun k h1 h2 => by omega, Below.refl _ _⟩
  case round =>
    obtain ⟨o, h1, h2, rfl, hk, hb⟩ := hrel
    by_cases hlt : o ≤ 36
    · have CO := CW o h1 hlt wr
      have HB := Lib.hid hb
      have HK := Lib.hid hk
      clear hb hk CW
      by_cases hs : wordV (o : Int) = s
      · have hs2 : (wordV (o : Int) == s) = true := by simpa using hs
        go_wp2_with fail
        refine CO.out.mono ?_
        rintro e w1 ⟨rfl, hb1⟩
        have HB1 := Lib.hid (HB.out.trans (hb1.mono HB.out.size))
        clear hb1
        go_wp2_with fail
        go_ret
        exact ⟨(o : Int), rfl, by omega, by omega, fun k h3 h4 h => by have := word_inj k o h3 h4 h1 hlt (by rw [← h, hs]); omega, HB1.out⟩
      · have hs2 : (wordV (o : Int) == s) = false := by simpa using hs
        go_wp2_with fail
        refine CO.out.mono ?_
        rintro e w1 ⟨rfl, hb1⟩
        have HB1 := Lib.hid (HB.out.trans (hb1.mono HB.out.size))
        clear hb1
        go_wp2_with fail
        go_roundw
        case measure => simp [intOf]; omega
        case rel =>
          refine ⟨o + 1, by omega, by omega, by simp, fun k h3 h4 => ?_, HB1.out⟩
          by_cases he : k = o
          · rw [he]; exact hs
          · exact HK.out k h3 (by omega)
    · have HB := Lib.hid hb
      have HK := Lib.hid hk
      clear hb hk CW
      go_wp2_with fail
      go_ret
      exact ⟨0, rfl, by omega, by omega, fun k h3 h4 h => absurd h.symm (HK.out k h3 (by omega)), HB.out⟩
end Go.Proofs.YtgbgjecmamkdaaaDoor
