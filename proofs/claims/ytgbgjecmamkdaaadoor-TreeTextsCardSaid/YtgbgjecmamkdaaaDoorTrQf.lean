/-
  The page's Text of a tree that may be.
-/
import Derived.Test.YtgbgjecmamkdaaaDoorTrQb
import Derived.Lib.ItoaLen
namespace Go.Proofs.YtgbgjecmamkdaaaDoor
open Go.RowKit
set_option linter.unusedVariables false
set_option linter.unusedSimpArgs false
set_option maxRecDepth 100000
set_option maxHeartbeats 2000000

def RTextC (m : Nat) : Prop := ∀ (t : Tr), t.kids.size < m → okT t = true → (textT t).length ≤ 1000000 → ∀ (w : World) (A : Option Addr) (c : Nat), TrR w t A c →
  Calls Tryd.prog 19 #[trV t A c] w fun e w' => e = .returned (.string ⟨(textT t).toArray⟩) ∧ Below w.heap.size w w'
theorem join_len_mem : ∀ (l : List (List UInt8)) (a : List UInt8), a ∈ l → a.length ≤ (joinC l).length := by
  intro l
  induction l with
  | nil => intro a h; cases h
  | cons b r ih =>
    intro a h
    have h1 := joinC_cons_len b r
    rcases List.mem_cons.1 h with rfl | h
    · exact h1.2
    · exact Nat.le_trans (ih a h) h1.1
theorem rtext_step (m : Nat) (IH : RTextC m) : RTextC (m + 1) := by
  intro t ht ho hlen w A c hT
  have ho2 := ho
  rw [okT] at ho
  simp only [Bool.and_eq_true] at ho
  have h1 := (node_op ho.1).1
  have h2 := (node_op ho.1).2.1
  have h3 := (op_pos ho2).2
  have hw7 := word_len t.op
  obtain ⟨k, hk⟩ : ∃ k : Nat, t.op = (k : Int) := ⟨t.op.toNat, by omega⟩
  have CW := fun w => Lib.hid (word_page k (by omega) (by omega) w)
  rw [← hk] at CW
  clear hk
  have happ := @ba_app
  have hnl := Lib.itoa_length_le t.n hT.n.1 hT.n.2
  have CD := fun w => Lib.hid (decimal_page t.n hT.n w)
  have HT := Lib.hid hT
  have hjl : (joinC (textsL t.kids)).length ≤ 1000000 := by
    have := hlen
    unfold textT at this
    simp only [List.length_append] at this
    omega
  by_cases h4 : t.op ≤ 4
  · have hx : textT t = wordV t.op ++ [40] ++ Lib.itoa t.n ++ [41] := by
      have hk0 : t.kids = .nil := by
        cases h : t.kids with
        | nil => rfl
        | cons _ _ _ _ =>
          rw [h] at h3
          unfold ariV at h3
          rw [if_pos (by omega)] at h3
          simp only [Trs.len] at h3
          omega
      unfold textT headT
      rw [hk0, if_pos (by unfold leafB; simp; omega)]
      simp [textsL, joinC]
    rw [hx]
    have h4d : decide (t.op ≤ 4) = true := by simp; omega
    clear hx IH
    obtain ⟨op, n, kids⟩ := t
    simp only at *
    go_enter Tryd.func19, Tryd.ntmps19
    go_wp2_with fail
    refine (CW _).out.mono ?_
    rintro e w1 ⟨rfl, hb⟩
    have O1 : OwnB w1 w.heap.size #[.int .i64 op, .int .i64 n, .slice A kids.len c] 28 := OwnB.call (G := []) OwnB.au (Keeps.of_below hb) (by simp)
    obtain ⟨y1, x1, z1⟩ := O1.facts
    have HB := Lib.hid (((Keeps.au (G := [])).trans (Keeps.of_below hb)).below : Below w.heap.size w w1)
    clear hb O1
    go_wp2_with fail
    refine (CD _).out.mono ?_
    rintro e w2 ⟨rfl, hb⟩
    have HB2 := Lib.hid (HB.out.trans (hb.mono HB.out.size))
    clear hb
    go_wp2_with fail
    go_ret
    exact ⟨by simp [List.append_assoc], HB2.out⟩
  · have hx : textT t = wordV t.op ++ 40 :: (joinC (textsL t.kids) ++ [41]) := by
      unfold textT headT
      rw [if_neg (by unfold leafB; simp; omega)]
      simp
    rw [hx]
    have h4d : decide (t.op ≤ 4) = false := by simp; omega
    have hk2 : t.kids.len ≤ 2 := by
      unfold ariV at h3
      repeat' split at h3
      all_goals omega
    clear hx CD hnl
    obtain ⟨op, n, kids⟩ := t
    simp only at *
    go_enter Tryd.func19, Tryd.ntmps19
    go_wp2_with fail
    refine (CW _).out.mono ?_
    rintro e w1 ⟨rfl, hb⟩
    have O1 : OwnB w1 w.heap.size #[.int .i64 op, .int .i64 n, .slice A kids.len c] 28 := OwnB.call (G := []) OwnB.au (Keeps.of_below hb) (by simp)
    obtain ⟨y1, x1, z1⟩ := O1.facts
    have HB := Lib.hid (((Keeps.au (G := [])).trans (Keeps.of_below hb)).below : Below w.heap.size w w1)
    have HO1 := Lib.hid O1
    clear hb O1
    go_wp2_with fail
    go_loopw [3, 4, 18, 19, 20, 21, 22, 23, 24, 25, 26, 27, 28, 29, 30, 31, 32, 33, 34, 35, 36] (fun s i _ _ _ _ _ _ _ _ _ _ _ _ _ _ _ _ _ _ _ wr => ∃ j : Nat, j ≤ kids.len ∧ i = .int .i64 (j : Int) ∧ s = .string ⟨(wordV op ++ 40 :: joinC ((textsL kids).take j)).toArray⟩ ∧ OwnB wr w.heap.size #[.int .i64 op, .int .i64 n, .slice A kids.len c] 28 ∧ Below w.heap.size w wr) (fun s i _ _ _ _ _ _ _ _ _ _ _ _ _ _ _ _ _ _ _ _ => kids.len - (intOf i).toNat)
    case atStart => exact ⟨0, Nat.zero_le _, rfl, by simp [joinC], HO1.out, HB.out⟩
    case round =>
      clear HO1 HB y1 x1
      obtain ⟨j, hj, rfl, rfl, hO, hb⟩ := hrel
      obtain ⟨y1, x1, z2⟩ := hO.facts
      have HO := Lib.hid hO
      have HB := Lib.hid hb
      have hjk := joinC_take_len (textsL kids) j
      by_cases hlt : j < kids.len
      · have hjd : decide ((j : Int) < (kids.len : Int)) = true := by simp; omega
        obtain ⟨t2, b, off, D, c2, hget, rfl, hbs, f0, f1, f2, hT2⟩ := (HT.out.kid.low hb).get hlt
        have hm := Trs.size_mem kids t2 (List.mem_of_getElem? hget)
        have hg2 := textsL_get kids j t2 hget
        have hl2 := join_len_mem _ _ (List.mem_of_getElem? hg2)
        have hjt := joinC_take _ _ _ hg2
        have hok2 := okL_mem kids t2 (List.mem_of_getElem? hget) ho.2
        have CI := Lib.hid (IH t2 (by omega) hok2 (by omega) wr D c2 hT2)
        have HJ := Lib.hid hjt
        have hlt2 : (textT t2).length ≤ 1000000 := by omega
        clear hT2 hm hget hg2 hok2 hjt hO hb IH
        by_cases hj0 : 0 < j
        · have hj0d : decide (0 < (j : Int)) = true := by simp; omega
          go_wp2_with fail
          refine CI.out.mono ?_
          rintro e w3 ⟨rfl, hb3⟩
          go_wp2_with fail
          go_roundw
          case measure => simp [intOf]; omega
          case rel =>
            refine ⟨j + 1, by omega, by simp, ?_, OwnB.call (G := []) HO.out (Keeps.of_below hb3) (by simp), HB.out.trans (hb3.mono HB.out.size)⟩
            rw [HJ.out, if_pos hj0]
            try simp
        · have hj0d : decide (0 < (j : Int)) = false := by simp; omega
          go_wp2_with fail
          refine CI.out.mono ?_
          rintro e w3 ⟨rfl, hb3⟩
          go_wp2_with fail
          go_roundw
          case measure => simp [intOf]; omega
          case rel =>
            refine ⟨j + 1, by omega, by simp, ?_, OwnB.call (G := []) HO.out (Keeps.of_below hb3) (by simp), HB.out.trans (hb3.mono HB.out.size)⟩
            rw [HJ.out, if_neg hj0]
            try simp
      · have hjd : decide ((j : Int) < (kids.len : Int)) = false := by simp; omega
        have htk : (textsL kids).take j = textsL kids := List.take_of_length_le (by rw [textsL_len]; omega)
        rw [htk]
        go_wp2_with fail
        go_ret
        exact ⟨by simp, HB.out⟩
theorem rtext_all : ∀ m, RTextC m := by
  intro m
  induction m with
  | zero => intro t h; exact absurd h (by omega)
  | succ m ih => exact rtext_step m ih
end Go.Proofs.YtgbgjecmamkdaaaDoor
