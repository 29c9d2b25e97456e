/-
  'kindOf' of lex; strings.Clone.
-/
import Derived.Test.YtkkhohbngcdecaaDoorLxC
import Derived.Test.YtkkhohbngcdecaaDoorLxShelf
namespace Go.Proofs.YtkkhohbngcdecaaDoor
open Go.RowKit
set_option linter.unusedVariables false
theorem no_word {s : ByteArray} (h : isWord s.data.toList = false) : ∀ t ∈ wordsL, (s.toList == t) = false := by
  intro t ht
  rw [ByteArray.toList_eq]
  cases e : (s.data.toList == t) with
  | false => rfl
  | true =>
    have : s.data.toList = t := by simpa using e
    rw [this] at h
    have h2 : isWord t = true := by unfold isWord; exact List.contains_iff_mem.2 ht
    rw [h2] at h; cases h
theorem kindOf_no (s : ByteArray) (w : World) (h : isWord s.data.toList = false) : Calls Tryd.prog 25 #[.string s] w fun e w' => e = .returned (.int .i64 1) ∧ w = w' := by
  have H := no_word h
  have h0 := H [118, 111, 105, 100] (by decide)
  have h1 := H [99, 104, 97, 114] (by decide)
  have h2 := H [115, 104, 111, 114, 116] (by decide)
  have h3 := H [105, 110, 116] (by decide)
  have h4 := H [108, 111, 110, 103] (by decide)
  have h5 := H [117, 110, 115, 105, 103, 110, 101, 100] (by decide)
  have h6 := H [105, 102] (by decide)
  have h7 := H [101, 108, 115, 101] (by decide)
  have h8 := H [119, 104, 105, 108, 101] (by decide)
  have h9 := H [100, 111] (by decide)
  have h10 := H [102, 111, 114] (by decide)
  have h11 := H [115, 119, 105, 116, 99, 104] (by decide)
  have h12 := H [99, 97, 115, 101] (by decide)
  have h13 := H [100, 101, 102, 97, 117, 108, 116] (by decide)
  have h14 := H [98, 114, 101, 97, 107] (by decide)
  have h15 := H [99, 111, 110, 116, 105, 110, 117, 101] (by decide)
  have h16 := H [114, 101, 116, 117, 114, 110] (by decide)
  have h17 := H [103, 111, 116, 111] (by decide)
  have h18 := H [115, 105, 122, 101, 111, 102] (by decide)
  clear H h
  go_enter Tryd.func25, Tryd.ntmps25
  go_wp2
  go_ret
  exact ⟨rfl, rfl⟩
theorem kindOf_yes (t : List UInt8) (w : World) (h : t ∈ wordsL) : Calls Tryd.prog 25 #[.string ⟨t.toArray⟩] w fun e w' => e = .returned (.int .i64 4) ∧ w = w' := by
  simp only [wordsL, List.mem_cons, List.not_mem_nil, or_false] at h
  rcases h with rfl | rfl | rfl | rfl | rfl | rfl | rfl | rfl | rfl | rfl | rfl | rfl | rfl | rfl | rfl | rfl | rfl | rfl | rfl
  all_goals (
    go_enter Tryd.func25, Tryd.ntmps25
    go_wp2
    go_ret
    exact ⟨rfl, rfl⟩)
theorem kindOf_any (s : ByteArray) (w : World) : Calls Tryd.prog 25 #[.string s] w fun e w' => e = .returned (.int .i64 (if isWord s.data.toList then 4 else 1)) ∧ w = w' := by
  cases h : isWord s.data.toList with
  | false => exact kindOf_no s w h
  | true =>
    have := kindOf_yes s.data.toList w (List.contains_iff_mem.1 h)
    exact this
theorem clone_any (s : ByteArray) (w : World) (h : s.size ≤ 281474976710656) : Calls Tryd.prog 24 #[.string s] w fun e w' => e = .returned (.string s) ∧ Below w.heap.size w w' := by
  go_enter Tryd.func24, Tryd.ntmps24
  go_wp2_with (go_at_call 31; refine (Tryd.stringslite_Clone s _ h).mono ?_; rintro e w' ⟨rfl, hb⟩)
  go_ret
  exact ⟨rfl, hb⟩
end Go.Proofs.YtkkhohbngcdecaaDoor
