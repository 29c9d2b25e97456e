/-
  'words', 'signs', 'among' of the reference.
-/
import Derived.Test.YtkkhohbngcdecaaDoorLxH
namespace Go.Proofs.YtkkhohbngcdecaaDoor
open Go.RowKit Go.Maps
set_option linter.unusedVariables false

theorem words_any (w : World) : Calls Tryd.prog 19 #[] w fun e w' => e = .returned (.slice (some ⟨w.heap.size, 0, none⟩) 19 19) ∧ w' = w.alloc (.cells (wordsL.map fun l => Value.string ⟨l.toArray⟩).toArray 9) := by
  go_enter Tryd.func19, Tryd.ntmps19
  go_wp2
  go_ret
  exact ⟨rfl, rfl⟩
theorem refSigns_any (w : World) : Calls Tryd.prog 20 #[] w fun e w' => e = .returned (.slice (some ⟨w.heap.size, 0, none⟩) 43 43) ∧ w' = w.alloc (.cells (signsL.map fun l => Value.string ⟨l.toArray⟩).toArray 9) := by
  go_enter Tryd.func20, Tryd.ntmps20
  go_wp2
  go_ret
  exact ⟨rfl, rfl⟩
/-- Texts that lie in a block. -/
def Texts (w : World) (b : Nat) (xs : List (List UInt8)) : Prop := ∀ k t, xs[k]? = some t → w.cell? ⟨b, k, none⟩ = some (.string ⟨t.toArray⟩)
theorem ret_bool {a b : Bool} (h : a = b) : Ending.returned (.bool a) = .returned (.bool b) := by rw [h]
theorem texts_new (w : World) (T : TypeId) (xs : List (List UInt8)) : Texts (w.alloc (.cells (xs.map fun l => Value.string ⟨l.toArray⟩).toArray T)) w.heap.size xs := by
  intro k t h
  rw [cell_of_row _ _ _ _ _ _ (heap_alloc_new w _)]
  simp [h]
theorem words_lie (w : World) : Calls Tryd.prog 19 #[] w fun e w' => e = .returned (.slice (some ⟨w.heap.size, 0, none⟩) 19 19) ∧ Texts w' w.heap.size wordsL ∧ Below w.heap.size w w' := by
  refine (words_any w).mono ?_
  rintro e w' ⟨rfl, rfl⟩
  exact ⟨rfl, texts_new _ _ _, (Below.refl _ _).alloc (Nat.le_refl _) _⟩
theorem refSigns_lie (w : World) : Calls Tryd.prog 20 #[] w fun e w' => e = .returned (.slice (some ⟨w.heap.size, 0, none⟩) 43 43) ∧ Texts w' w.heap.size signsL ∧ Below w.heap.size w w' := by
  refine (refSigns_any w).mono ?_
  rintro e w' ⟨rfl, rfl⟩
  exact ⟨rfl, texts_new _ _ _, (Below.refl _ _).alloc (Nat.le_refl _) _⟩
def inB (xs : List (List UInt8)) (s : ByteArray) : Bool := xs.contains s.data.toList
theorem inB_yes {xs : List (List UInt8)} {s : ByteArray} {t : List UInt8} {k : Nat} (h : xs[k]? = some t) (ht : (t == s.toList) = true) : inB xs s = true := by
  rw [ByteArray.toList_eq] at ht
  have e : t = s.data.toList := by simpa using ht
  subst e
  exact List.contains_iff_mem.2 (List.mem_of_getElem? h)
theorem inB_step {xs : List (List UInt8)} {s : ByteArray} {t : List UInt8} {k : Nat} (h : xs[k]? = some t) (ht : (t == s.toList) = false) (hn : inB (xs.take k) s = false) : inB (xs.take (k + 1)) s = false := by
  rw [ByteArray.toList_eq] at ht
  have hk : k < xs.length := (List.getElem?_eq_some_iff.1 h).1
  have e : xs.take (k + 1) = xs.take k ++ [t] := by
    rw [List.take_succ_eq_append_getElem hk, (List.getElem?_eq_some_iff.1 h).2]
  unfold inB at hn ⊢
  rw [List.contains_eq_any_beq] at hn ⊢
  rw [e, List.any_append, hn]
  have : (s.data.toList == t) = false := by
    cases hq : (s.data.toList == t) with
    | false => rfl
    | true =>
      have : s.data.toList = t := by simpa using hq
      rw [this] at ht; simp at ht
  simp [this]
theorem among_any (w : World) (b n c : Nat) (xs : List (List UInt8)) (s : ByteArray) (hx : Texts w b xs) (hn : xs.length = n) (hm : n ≤ 1000) :
    Calls Tryd.prog 18 #[.slice (some ⟨b, 0, none⟩) n c, .string s] w fun e w' => e = .returned (.bool (inB xs s)) ∧ w = w' := by
  have HX := Lib.hid hx
  have HN := Lib.hid hn
  clear hx hn
  go_enter Tryd.func18, Tryd.ntmps18
  go_wp2
  go_loop [5] (fun i => ∃ k : Nat, k ≤ n ∧ i = .int .i64 k ∧ inB (xs.take k) s = false) (fun i => n - (intOf i).toNat)
  case atStart => exact ⟨0, Nat.zero_le _, rfl, rfl⟩
  case round =>
    obtain ⟨k, hk, rfl, hno⟩ := hrel
    have HNo := Lib.hid hno
    clear hno
    by_cases hlt : k < n
    · have hkx : k < xs.length := by rw [HN.out]; exact hlt
      obtain ⟨t, ht⟩ : ∃ t, xs[k]? = some t := ⟨_, List.getElem?_eq_getElem hkx⟩
      have hcell := HX.out k t ht
      have HT := Lib.hid ht
      clear ht
      cases he : (t == s.toList) with
      | true =>
        have HY := Lib.hid (inB_yes HT.out he)
        go_wp2
        go_ret
        exact ⟨ret_bool HY.out.symm, rfl⟩
      | false =>
        have HY := Lib.hid (inB_step HT.out he HNo.out)
        go_wp2
        go_round
        case rel => exact ⟨k + 1, by omega, by go_num, HY.out⟩
        case measure => simp [intOf]; omega
    · have HY : Hid (inB xs s = false) := by
        refine Lib.hid ?_
        have := HNo.out
        rwa [List.take_of_length_le (by rw [HN.out]; omega)] at this
      go_wp2
      go_ret
      exact ⟨ret_bool HY.out.symm, rfl⟩
theorem among_words (w : World) (b : Nat) (s : ByteArray) (hx : Texts w b wordsL) :
    Calls Tryd.prog 18 #[.slice (some ⟨b, 0, none⟩) 19 19, .string s] w fun e w' => e = .returned (.bool (inB wordsL s)) ∧ w = w' := among_any w b 19 19 wordsL s hx rfl (by omega)
end Go.Proofs.YtkkhohbngcdecaaDoor
