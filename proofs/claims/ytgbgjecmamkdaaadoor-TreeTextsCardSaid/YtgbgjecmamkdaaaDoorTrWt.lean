/-
  How much is played: TreeWeight.
-/
import Derived.Test.YtgbgjecmamkdaaaDoorTrRefV
namespace Go.Proofs.YtgbgjecmamkdaaaDoor
open Go.RowKit
set_option linter.unusedVariables false
set_option linter.unusedSimpArgs false
set_option maxRecDepth 100000
set_option maxHeartbeats 1000000

theorem Trs.size_snoc (t : Tr) : ∀ x : Trs, (x.snoc t).size = x.size + (t.kids.size + 1) := by
  intro x
  induction x with
  | nil => simp [Trs.snoc, Trs.add, Trs.size]
  | cons op n k r _ ih => simp only [Trs.snoc, Trs.size, ih]; omega
/-- What TreeWeight tells. -/
structure Wt (s : Nat) (d r : Int) : Prop where
  lo : 1 ≤ r
  hi : r ≤ (d + 1) * 1048576
  eq : r < 1048576 → r = s
def WtPost (s : Nat) (d : Int) (w : World) (e : Ending) (w' : World) : Prop := ∃ r : Int, e = .returned (.int .i64 r) ∧ Wt s d r ∧ Below w.heap.size w w'
def WeightC (n : Nat) : Prop := ∀ (t : Tr), t.kids.size < n → ∀ (d : Int), 0 ≤ d → d ≤ 300 → ∀ (w : World) (A : Option Addr) (c : Nat), TrR w t A c →
  Calls Tryd.prog 22 #[trV t A c, .int .i64 d] w (WtPost (t.kids.size + 1) d w)
theorem weight_step (n : Nat) (IH : WeightC n) : WeightC (n + 1) := by
  intro t ht d d0 d1 w A c hT
  have hcap := hT.cap
  have hle := hT.le
  unfold maxLen at hcap
  have HT := Lib.hid hT
  have HH := Lib.hid ht
  clear hT ht
  obtain ⟨op, nn, kids⟩ := t
  simp only at hle ⊢
  by_cases hd : d = 0
  · subst hd
    go_enter Tryd.func22, Tryd.ntmps22
    go_wp2_with fail
    go_ret
    exact ⟨1048576, rfl, ⟨by decide, by decide, fun h => absurd h (by decide)⟩, (Keeps.au (G := [])).below⟩
  · have hd' : (d == 0) = false := by simpa using hd
    have hd2 : 1 ≤ d := by omega
    clear hd
    go_enter Tryd.func22, Tryd.ntmps22
    go_wp2_with fail
    go_loopw [5, 6, 9, 10, 11, 12, 13, 14, 15, 16, 17, 18, 19, 20, 21, 22, 23, 24, 25, 26, 27, 28, 29] (fun rv i _ _ _ _ _ _ _ _ _ _ _ _ _ _ _ _ _ _ _ _ _ wr => ∃ (k : Nat) (r : Int), k ≤ kids.len ∧ rv = .int .i64 r ∧ i = .int .i64 k ∧ Wt ((Trs.ofL (kids.toL.take k)).size + 1) d r ∧ OwnB wr w.heap.size #[.int .i64 op, .int .i64 nn, .slice A kids.len c] 28 ∧ Below w.heap.size w wr) (fun _ i _ _ _ _ _ _ _ _ _ _ _ _ _ _ _ _ _ _ _ _ _ _ => kids.len - (intOf i).toNat)
    case atStart => exact ⟨0, 1, by omega, rfl, rfl, ⟨by decide, by omega, fun _ => rfl⟩, OwnB.au, (Keeps.au (G := [])).below⟩
    case round =>
      obtain ⟨k, r, hk, rfl, rfl, hW, hO, hb⟩ := hrel
      have HB1 := Lib.hid hb
      have HW := Lib.hid hW
      have hr0 := hW.lo
      have hr1 := hW.hi
      obtain ⟨y1, x1, z1⟩ := hO.facts
      have HO := Lib.hid hO
      clear hW hO
      by_cases hlt : k < kids.len
      · by_cases hr : r < 1048576
        · obtain ⟨t2, b, off, B, c2, hget, rfl, hbs, f0, f1, f2, hT2⟩ := (HT.out.kid.low hb).get hlt
          have HG := Lib.hid hget
          have HT2 := Lib.hid hT2
          clear hget hT2 hb
          have hm : t2.kids.size < n := by
            have h1 := Trs.size_mem kids t2 (List.mem_of_getElem? HG.out)
            have h2 := HH.out
            omega
          have HC := fun w1 (hb : Below wr.heap.size wr w1) => Lib.hid (IH t2 hm (d - 1) (by omega) (by omega) w1 B c2 (HT2.out.low hb))
          clear hm
          go_wp2_with fail
          refine (HC _ (Keeps.au (G := [])).below).out.mono ?_
          rintro e w2 ⟨q, rfl, hq, hb2⟩
          have hq0 := hq.lo
          have hq1 := hq.hi
          have HQ := Lib.hid hq
          have HB2 := Lib.hid hb2
          clear hb2 hq
          go_wp2_with fail
          go_roundw
          case rel =>
            refine ⟨k + 1, r + q, by omega, rfl, by go_num, ⟨by omega, by omega, fun h => ?_⟩, OwnB.call (G := []) HO.out (Keeps.of_below HB2.out) (by simp), ?_⟩
            · have h1 := HW.out.eq hr
              have h2 := HQ.out.eq (by omega)
              rw [ofL_take_succ HG.out, Trs.size_snoc, h1, h2]
              omega
            · exact ((Keeps.of_below (G := []) HB1.out).then_ (H := []) ((Keeps.au (G := [])).trans (Keeps.of_below HB2.out)) (by simp)).below
          case measure => simp [intOf]; omega
        · go_wp2_with fail
          go_ret
          exact ⟨r, rfl, ⟨hr0, hr1, fun h => absurd h (by omega)⟩, HB1.out⟩
      · have hk2 : k = kids.len := by omega
        subst hk2
        go_wp2_with fail
        go_ret
        refine ⟨r, rfl, ⟨hr0, hr1, fun h => ?_⟩, HB1.out⟩
        have h1 := HW.out.eq h
        rwa [List.take_of_length_le (by rw [Trs.toL_len]; exact Nat.le_refl _), Trs.ofL_toL] at h1
theorem weight_any : ∀ n, WeightC n := by
  intro n
  induction n with
  | zero => intro t h; exact absurd h (by omega)
  | succ n ih => exact weight_step n ih
end Go.Proofs.YtgbgjecmamkdaaaDoor
