/-
  The page's reader: until.
-/
import Derived.Test.YtgbgjecmamkdaaaDoorTrQc
namespace Go.Proofs.YtgbgjecmamkdaaaDoor
open Go.RowKit
set_option linter.unusedVariables false
set_option linter.unusedSimpArgs false
set_option maxRecDepth 100000
set_option maxHeartbeats 2000000

theorem ext_take (l : List UInt8) (k : Nat) : (⟨l.toArray⟩ : ByteArray).extract 0 k = ⟨(l.take k).toArray⟩ := by
  apply ByteArray.ext
  simp [ByteArray.data_extract]
theorem ext_drop (l : List UInt8) (k : Nat) : (⟨l.toArray⟩ : ByteArray).extract k l.length = ⟨(l.drop k).toArray⟩ := by
  apply ByteArray.ext
  simp [ByteArray.data_extract]
  exact List.take_of_length_le (by simp)
theorem first_at {rest a0 r0 : List UInt8} {c : UInt8} {k : Nat} (hk : k < rest.length) (h1 : ∀ x ∈ rest.take k, x ≠ c) (h2 : rest[k] = c) (hr : rest = a0 ++ c :: r0) (h0 : ∀ x ∈ a0, x ≠ c) : rest.take k = a0 ∧ rest.drop (k + 1) = r0 := by
  subst hr
  rcases Nat.lt_trichotomy k a0.length with h | h | h
  · rw [List.getElem_append_left h] at h2
    exact absurd h2 (h0 _ (List.getElem_mem _))
  · subst h
    simp
  · refine absurd rfl (h1 c ?_)
    rw [List.take_append]
    refine List.mem_append_right _ ?_
    obtain ⟨j, hj⟩ : ∃ j, k - a0.length = j + 1 := ⟨k - a0.length - 1, by omega⟩
    rw [hj]
    simp
/-- What 'until' does. -/
def UntilP (g : Nat) (rest : List UInt8) (n : Int) (c : UInt8) (w : World) (e : Ending) (w' : World) : Prop :=
  ∃ (a r : List UInt8) (b : Bool), e = .returned (.tuple #[.string ⟨a.toArray⟩, .bool b]) ∧ OwnB w' g #[.string ⟨r.toArray⟩, .int .i64 n] 78 ∧ Keeps [g] w w' ∧ r.length ≤ rest.length ∧ a.length ≤ rest.length ∧
    (∀ a0 r0, rest = a0 ++ c :: r0 → (∀ x ∈ a0, x ≠ c) → a = a0 ∧ b = true ∧ r = r0)
theorem until_page (g : Nat) (rest : List UInt8) (n : Int) (c : UInt8) (w : World) (hO : OwnB w g #[.string ⟨rest.toArray⟩, .int .i64 n] 78) (hlen : rest.length < 4294967281) :
    Calls Tryd.prog 54 #[.pointer (some ⟨g, 0, none⟩), .int .u8 (c.toNat : Int)] w (UntilP g rest n c w) := by
  obtain ⟨y0, x0, z0⟩ := hO.facts
  have HO := Lib.hid hO
  clear hO
  go_enter Tryd.func54, Tryd.ntmps54
  go_wp2_with fail
  go_loopw [6, 7, 8, 9, 10, 11, 12, 13, 14, 15, 16, 17, 18, 19, 20, 21, 22, 23, 24, 25, 26, 27, 28, 29, 30, 31, 32, 33, 34, 35, 36, 37, 38, 39, 40, 41] (fun i _ _ _ _ _ _ _ _ _ _ _ _ _ _ _ _ _ _ _ _ _ _ _ _ _ _ _ _ _ _ _ _ _ _ _ wr => ∃ k : Nat, k ≤ rest.length ∧ i = .int .i64 (k : Int) ∧ (∀ x ∈ rest.take k, x ≠ c) ∧ wr = w) (fun i _ _ _ _ _ _ _ _ _ _ _ _ _ _ _ _ _ _ _ _ _ _ _ _ _ _ _ _ _ _ _ _ _ _ _ _ => rest.length - (intOf i).toNat)
  case atStart => exact ⟨0, Nat.zero_le _, rfl, fun x hx => by simp at hx, rfl⟩
  case round =>
    obtain ⟨k, hk, rfl, hx, rfl⟩ := hrel
    have HX := Lib.hid hx
    clear hx
    by_cases hlt : k < rest.length
    · obtain ⟨q, hq⟩ : ∃ q, rest[k] = q := ⟨_, rfl⟩
      have hqi : ∀ h, (({ data := rest.toArray } : ByteArray)[k]'h).toNat = q.toNat := fun _ => congrArg UInt8.toNat hq
      have hqd : decide ((k : Int) < (rest.length : Int)) = true := by simp; omega
      by_cases hc : q = c
      · have hcd : ((q.toNat : Int) == (c.toNat : Int)) = true := by rw [hc]; simp
        have e1 := ext_take rest k
        have e2 := ext_drop rest (k + 1)
        go_wp2_with fail
        go_ret2
        refine ⟨rest.take k, rest.drop (k + 1), true, rfl, HO.out.set 0 _, Keeps.au, by simp <;> omega, by simp <;> omega, fun a0 r0 hr h0 => ?_⟩
        obtain ⟨h1, h2⟩ := first_at hlt HX.out (hq.trans hc) hr h0
        exact ⟨h1, rfl, h2⟩
      · have hcd : ((q.toNat : Int) == (c.toNat : Int)) = false := by
          simp only [beq_eq_false_iff_ne, ne_eq]
          exact fun h => hc (UInt8.toNat_inj.1 (Int.ofNat_inj.1 h))
        go_wp2_with fail
        go_roundw
        case measure => simp [intOf]; omega
        case rel =>
          refine ⟨k + 1, by omega, by simp, fun x hx => ?_, by trivial⟩
          rw [List.take_succ_eq_append_getElem hlt] at hx
          rcases List.mem_append.1 hx with hx | hx
          · exact HX.out x hx
          · obtain rfl : x = rest[k] := by simpa using hx
            rw [hq]; exact hc
    · have hqd : decide ((k : Int) < (rest.length : Int)) = false := by simp; omega
      go_wp2_with fail
      go_ret2
      refine ⟨[], rest, false, rfl, HO.out, Keeps.refl _ _, Nat.le_refl _, Nat.zero_le _, fun a0 r0 hr h0 => ?_⟩
      refine absurd rfl (HX.out c ?_)
      rw [show k = rest.length by omega, List.take_length, hr]
      simp
end Go.Proofs.YtgbgjecmamkdaaaDoor
