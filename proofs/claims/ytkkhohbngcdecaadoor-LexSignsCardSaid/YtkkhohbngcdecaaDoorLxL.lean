/-
  An argument that is a slice of strings; 'Heavy', 'wakes'; the spoiler of what was told.
-/
import Derived.Test.YtkkhohbngcdecaaDoorLxK
import Derived.Test.YtkkhohbngcdecaaDoorLxH
import Derived.SliceStrings
namespace Go.Proofs.YtkkhohbngcdecaaDoor
open Go.ChangeShapes Go.WideShapes Go.ChangeAt Go.RowKit Go.Deep Go.Maps
set_option linter.unusedVariables false

/-- What an argument of strings is, as a value. -/
def StrArg (W : World) (v : Value) : Prop :=
  (∃ (A : Option Addr) (c : Nat), v = .slice A 0 c) ∨
  ∃ (b off n c : Nat) (D : Nat → ByteArray), v = .slice (some ⟨b, off, none⟩) n c ∧ (∀ i, i < n → W.cell? ⟨b, off + i, none⟩ = some (.string (D i))) ∧ b < W.heap.size ∧ n ≤ 9223372036854775807 ∧ ∀ i, (D i).size ≤ maxLen
theorem lt_of_cell {w : World} {a : Addr} {v : Value} (h : w.cell? a = some v) : a.block < w.heap.size := by
  rcases Nat.lt_or_ge a.block w.heap.size with hl | hg
  · exact hl
  · have : w.heap[a.block]? = none := Array.getElem?_eq_none hg
    simp [World.cell?, this] at h
theorem strs_of {H : Type} {enc : TypeId × Value → H} {W : World} {v : Value} {d : DataW H} {p : List MemPlace} (hv : Value.okWide Tryd.prog W .any 0 22 v)
    (h : DataW.Trod enc Tryd.prog W 0 (fun _ => true) true 22 v d p) : StrArg W v := by
  obtain ⟨a0, len0, cap0, rfl⟩ := okWide_slice Tryd.underlying22 hv
  obtain ⟨fuel, hf⟩ := h
  rcases open_strings Tryd.underlying22 Tryd.underlying9 (by kernel_rfl) hf with ⟨hcs, _⟩ | ⟨a, len, cap, ss, hcs, hb, hl, hm, hlen, hx, hcell, hsz⟩
  · have : Value.slice a0 len0 cap0 = Value.slice none 0 0 := by simpa [Value.cells] using hcs
    exact .inl ⟨_, _, this⟩
  · have hval : Value.slice a0 len0 cap0 = Value.slice (some a) len cap := by simpa [Value.cells] using hcs
    rw [hval]
    have hmc : ss.length = cap := by simpa using hlen
    rcases Nat.eq_zero_or_pos len with h0 | hpos
    · subst h0
      exact .inl ⟨_, _, rfl⟩
    · have hc0 := hcell 0 (by omega)
      obtain ⟨b, off, spot⟩ := a
      have hspot : spot = none := by simpa [Addr.add] using World.cell?_spot hc0
      subst hspot
      have hcell' : ∀ i, i < len → W.cell? ⟨b, off + i, none⟩ = some (.string (ss.getD i ByteArray.empty)) := by
        intro i hil
        have := hcell i (by omega)
        rwa [Go.WideShapes.add_plain] at this
      refine .inr ⟨b, off, len, cap, fun i => ss.getD i ByteArray.empty, rfl, hcell', lt_of_cell (hcell' 0 hpos), by unfold maxLen at hm; omega, fun i => ?_⟩
      show (ss.getD i ByteArray.empty).size ≤ maxLen
      by_cases hi : i < ss.length
      · have : ss.getD i ByteArray.empty = ss[i] := by simp [List.getD, hi]
        rw [this]; exact hsz _ (List.getElem_mem _)
      · have : ss.getD i ByteArray.empty = ByteArray.empty := by simp [List.getD]; rw [List.getElem?_eq_none (by omega)]; rfl
        rw [this]; exact Nat.zero_le _
/-- Some bool, and nothing turns. -/
def SomeBool (w : World) (e : Ending) (w' : World) : Prop := ∃ b, e = .returned (.bool b) ∧ w = w'
theorem heavy_some (w : World) (b off n c : Nat) (D : Nat → ByteArray) (hc : ∀ i, i < n → w.cell? ⟨b, off + i, none⟩ = some (.string (D i))) (hn : n ≤ 9223372036854775807) (hs : ∀ i, (D i).size ≤ maxLen) :
    Calls Tryd.prog 6 #[.slice (some ⟨b, off, none⟩) n c] w (SomeBool w) := by
  unfold maxLen at hs
  have HC := Lib.hid hc
  have HS := Lib.hid hs
  clear hc hs
  go_enter Tryd.func6, Tryd.ntmps6
  go_wp2_with fail
  go_loop [3, 4] (fun m i => ∃ (k : Nat) (N : Int), k ≤ n ∧ i = .int .i64 k ∧ m = .int .i64 N) (fun _ i => n - (intOf i).toNat)
  case atStart => exact ⟨0, _, Nat.zero_le _, rfl, rfl⟩
  case round =>
    obtain ⟨k, N, hk, rfl, rfl⟩ := hrel
    by_cases hlt : k < n
    · by_cases hN : N < 1048576
      · have hcell := HC.out k hlt
        have hsz := HS.out k
        have hdN : decide (N < 1048576) = true := by simpa using hN
        go_wp2_with fail
        go_round
        case rel => exact ⟨k + 1, _, by omega, by go_num, rfl⟩
        case measure => simp [intOf]; omega
      · have hdN : decide (N < 1048576) = false := by simpa using hN
        go_wp2_with fail
        go_ret
        exact ⟨_, rfl, rfl⟩
    · go_wp2_with fail
      go_ret
      exact ⟨_, rfl, rfl⟩
theorem heavy_none (w : World) (A : Option Addr) (c : Nat) : Calls Tryd.prog 6 #[.slice A 0 c] w (SomeBool w) := by
  go_enter Tryd.func6, Tryd.ntmps6
  go_wp2_with fail
  go_loop [3, 4] (fun m i => m = .int .i64 0 ∧ i = .int .i64 0) (fun _ _ => 0)
  case atStart => exact ⟨rfl, rfl⟩
  case round =>
    obtain ⟨rfl, rfl⟩ := hrel
    go_wp2_with fail
    go_ret
    exact ⟨_, rfl, rfl⟩
theorem spoil_any (w : World) (base : Nat) (v : Value) (n : Nat) (xs : List Value) (h : w.ownsRow base 34 4 v n xs) :
    Calls Tryd.prog 10 #[v] w fun e w' => e = .returned (.tuple #[]) ∧ w.grownBy w' v.ownBlock := by
  rcases h.2 with ⟨rfl, _⟩ | ⟨g, cap, cur, rfl, _, hg, hn, hc, hs, _⟩
  · go_enter Tryd.func10, Tryd.ntmps10
    go_wp2_with fail
    go_loop [2] (fun i => i = .int .i64 0) (fun _ => 0)
    case atStart => exact rfl
    case round =>
      obtain rfl := hrel
      go_wp2_with fail
      go_end0
      exact ⟨rfl, World.grownBy.refl _ _⟩
  · exact spoil_try w g n cap cur hg hs hn hc
theorem lex_wakes : lexR [97, 43, 61, 49] = .ok [⟨1, [97], 0, 0⟩, ⟨3, [43, 61], 0, 1⟩, ⟨2, [], 1, 3⟩, ⟨0, [], 0, 4⟩] := by decide +kernel
theorem own_cells {w : World} {base n : Nat} {v : Value} {l : List Tok} (h : w.ownsRow base 34 4 v n (toksC l)) (hn : 0 < n) : ∃ g cap, v = .slice (some ⟨g, 0, none⟩) n cap ∧ g < w.heap.size ∧ base ≤ g ∧ ∀ j u, (toksC l)[j]? = some u → w.cell? ⟨g, j, none⟩ = some u := by
  obtain ⟨g, cap, e1, hb, hlt⟩ := h.form hn
  subst e1
  refine ⟨g, cap, rfl, hlt, hb, fun j u hu => ?_⟩
  have add0 : (⟨g, 0, none⟩ : Addr).add j = ⟨g, j, none⟩ := by unfold Addr.add; split <;> simp_all
  have := h.cells (g := g) rfl j u hu
  rwa [add0] at this
theorem wakes_any (w : World) (htab : Lib.TabIs Tryd.prog w "strings.asciiSpace" .u8 Lib.asciiSpaceTab) : Calls Tryd.prog 11 #[] w fun e w' => e = .returned (.bool true) ∧ Below w.heap.size w w' := by
  have c := lexTokens_any ⟨#[97, 43, 61, 49]⟩ w (by decide) htab
  rw [show (ByteArray.mk #[97, 43, 61, 49]).data.toList = [97, 43, 61, 49] from rfl, lex_wakes] at c
  have C := Lib.hid c
  clear c htab
  go_enter Tryd.func11, Tryd.ntmps11
  go_wp2_with fail
  refine C.out.mono ?_
  rintro e w1 ⟨v, rfl, hown, hb⟩
  obtain ⟨g, cap, rfl, hg, hbg, hcells⟩ := own_cells hown (by decide)
  have c5 := hcells 5 _ rfl
  have HB := Lib.hid hb
  clear hown hb hcells
  go_wp2_with fail
  go_ret
  exact ⟨rfl, HB.out.alloc HB.out.size _⟩
end Go.Proofs.YtkkhohbngcdecaaDoor
