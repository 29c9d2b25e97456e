/-
  The project's Text; and that it wakes.
-/
import Derived.Test.YtgbgjecmamkdaaaDoorTrWr
namespace Go.Proofs.YtgbgjecmamkdaaaDoor
open Go.RowKit
set_option linter.unusedVariables false
set_option linter.unusedSimpArgs false
set_option maxRecDepth 100000
set_option maxHeartbeats 1000000

theorem RowR.rowP {w : World} {B : Nat} (hB : w.heap.size ≤ B) : ∀ (x : Trs) (b off : Nat), RowR w x b off → RowP (· < B) w x b off := by
  intro x
  induction x with
  | nil => intro b off _; trivial
  | cons op n kids rest ihk ih =>
    rintro b off ⟨h1, h2, ⟨A, c, c0, c1, c2, hl, hc, hk⟩, hr⟩
    refine ⟨by have := lt_of_cell c0; simp only at this; omega, h1, h2, ⟨A, c, c0, c1, c2, hl, hc, fun h => ?_⟩, ih _ _ hr⟩
    obtain ⟨b1, off1, e, h3⟩ := hk h
    exact ⟨b1, off1, e, ihk _ _ h3⟩
theorem TrR.trP {w : World} {B : Nat} {t : Tr} {A : Option Addr} {c : Nat} (h : TrR w t A c) (hB : w.heap.size ≤ B) : TrP (· < B) w t A c :=
  ⟨h.op, h.n, h.le, h.cap, fun h0 => by
    obtain ⟨b, off, e, h1⟩ := h.kid h0
    exact ⟨b, off, e, h1.rowP hB _ _ _⟩⟩
theorem count_size : ∀ (x : Trs) (n : Int), (countL x n).2 = true → (countL x n).1 = n + x.size := by
  intro x
  induction x with
  | nil => intro n _; simp [countL, Trs.size]
  | cons op v kids rest ihk ihr =>
    intro n h
    rw [countL] at h ⊢
    by_cases hc : 200 < n + 1 ∨ nodeB op v kids.len = false
    · rw [if_pos hc] at h; cases h
    · rw [if_neg hc] at h ⊢
      cases hk : (countL kids (n + 1)).2 with
      | true =>
        have hk' : countL kids (n + 1) = ((countL kids (n + 1)).1, true) := by rw [← hk]
        rw [hk'] at h ⊢
        rw [ihr _ h, ihk _ hk]
        simp only [Trs.size]
        omega
      | false =>
        have hk' : countL kids (n + 1) = ((countL kids (n + 1)).1, false) := by rw [← hk]
        rw [hk'] at h; cases h
theorem many_size (t : Tr) (h : okB t = true) : many t = t.kids.size + 1 := by
  have h1 := count_size (.add t .nil) 0 (by rw [countL_add]; unfold okB at h; cases hc : countT t 0 with
    | mk a b => rw [hc] at h; simp only at h; subst h; rfl)
  rw [countL_add] at h1
  unfold okB at h
  unfold many
  have hk' : countT t 0 = ((countT t 0).1, true) := by rw [← h]
  rw [hk'] at h1
  simp only [countL, Trs.add, Trs.size] at h1
  omega
theorem texts_len : ∀ x : Trs, wfL x → (joinC (textsL x)).length ≤ 40 * x.size := by
  intro x
  induction x with
  | nil => intro _; simp [textsL, joinC]
  | cons op n kids rest ihk ihr =>
    rintro ⟨h1, h2, h3⟩
    have e1 := ihk h2
    have e2 := ihr h3
    have e3 := head_len op n h1.1 h1.2
    simp only [textsL, Trs.size]
    cases hr : textsL rest with
    | nil =>
      simp only [joinC, List.length_append, List.length_cons, List.length_nil]
      omega
    | cons a r =>
      rw [hr] at e2
      simp only [joinC, List.length_append, List.length_cons, List.length_nil] at e2 ⊢
      omega
theorem text_len (t : Tr) (hn : I64 t.n) (hw : wfL t.kids) : (textT t).length ≤ 40 * (t.kids.size + 1) := by
  have := texts_len (.add t .nil) ⟨hn, hw, trivial⟩
  rw [textsL_add] at this
  simpa [textsL, joinC, Trs.add, Trs.size] using this
theorem text_ok (t : Tr) (h : okB t = true) (w : World) (A : Option Addr) (c : Nat) (hT : TrR w t A c) (hE : Env w w.heap.size) :
    Calls Tryd.prog 18 #[trV t A c] w fun e w' => e = .returned (.tuple #[.string ⟨(textT t).toArray⟩, .int .i64 0]) ∧ Below w.heap.size w w' := by
  have hok := ok_countT t 0 h
  have hlen : (textT t).length ≤ 1000000 := by
    have h1 := text_len t hT.n hT.kid.wf
    have h2 := many_size t h
    have h3 := many_ok t h
    omega
  have HOK := Lib.hid hok
  have HLN := Lib.hid hlen
  have HT := Lib.hid hT
  have HE := Lib.hid hE
  have C := fun w1 (hb : Below w.heap.size w w1) => Lib.hid (check_any t true h w1 A c (hT.low hb))
  clear hT h hE hlen hok
  have HX := Lib.hid (rfl : textT t = textT t)
  obtain ⟨op, n, kids⟩ := t
  go_enter Tryd.func18, Tryd.ntmps18
  go_wp2_with fail
  refine (C _ (Keeps.au (G := [])).below).out.mono ?_
  rintro e w1 ⟨rfl, hb⟩
  have O1 : OwnB w1 w.heap.size #[.int .i64 op, .int .i64 n, .slice A kids.len c] 28 := OwnB.call (G := []) OwnB.au (Keeps.of_below hb) (by simp)
  obtain ⟨y1, x1, z1⟩ := O1.facts
  have HB := Lib.hid (((Keeps.au (G := [])).trans (Keeps.of_below hb)).below : Below w.heap.size w w1)
  clear hb
  go_wp2_with fail
  have hb2 := (Below.refl w1.heap.size w1).alloc (Nat.le_refl _) (.cells #[.pointer none, .slice none 0 0] 66 (0, 0))
  refine (write_any _ ⟨op, n, kids⟩ (Nat.lt_succ_self _) HOK.out _ w1.heap.size w1.heap.size [] A c (((HT.out.low HB.out).trP (Nat.le_refl _)).low hb2) (Lib.fresh_isBuilder _ _ w1) (by simpa using HLN.out) (((HE.out.low HB.out).mono HB.out.size).low hb2)).mono ?_
  rintro e w2 ⟨rfl, hW⟩
  rw [List.nil_append] at hW
  have HW := Lib.hid hW
  clear hW hb2
  go_wp2_with fail
  refine (Tryd.Builder_String_any w1.heap.size w1.heap.size _ w2 HW.out.bd (by have := HW.out.bd.lt.2; omega)).mono ?_
  rintro e w3 ⟨rfl, hb3⟩
  have HF := Lib.hid (show Below w1.heap.size w1 w3 from ((Below.refl w1.heap.size w1).alloc (Nat.le_refl _) _).trans (HW.out.low.trans hb3))
  clear hb3
  go_wp2_with fail
  go_ret2
  exact ⟨rfl, HB.out.trans (HF.out.mono HB.out.size)⟩
theorem text_no (t : Tr) (h : okB t = false) (w : World) (A : Option Addr) (c : Nat) (hT : TrR w t A c) :
    Calls Tryd.prog 18 #[trV t A c] w fun e w' => e = .returned (.tuple #[.string ⟨#[]⟩, .int .i64 1]) ∧ Below w.heap.size w w' := by
  have C := fun w1 (hb : Below w.heap.size w w1) => Lib.hid (check_any t false h w1 A c (hT.low hb))
  clear hT h
  obtain ⟨op, n, kids⟩ := t
  go_enter Tryd.func18, Tryd.ntmps18
  go_wp2_with fail
  refine (C _ (Keeps.au (G := [])).below).out.mono ?_
  rintro e w1 ⟨rfl, hb⟩
  go_wp2_with fail
  go_ret2
  exact ⟨rfl, ((Keeps.au (G := [])).trans (Keeps.of_below hb)).below⟩
theorem num_any (n : Int) (w : World) : Calls Tryd.prog 13 #[.int .i64 n] w fun e w' => e = .returned (.int .i64 n) ∧ w = w' := by
  go_enter Tryd.func13, Tryd.ntmps13
  go_wp2
  go_ret
  exact ⟨rfl, rfl⟩
/-- 1 + 2. -/
def sumT : Tr := ⟨12, 0, .cons 1 1 .nil (.cons 1 2 .nil .nil)⟩
theorem wakes_any (w : World) (hE : Env w w.heap.size) : Calls Tryd.prog 16 #[] w fun e w' => e = .returned (.bool true) ∧ Below w.heap.size w w' := by
  have hb0 := (Below.refl w.heap.size w).alloc (Nat.le_refl _) (.cells #[.int .i64 1, .int .i64 1, .slice none 0 0, .int .i64 1, .int .i64 2, .slice none 0 0] 28 (0, 0))
  have O : OwnB (w.alloc (.cells #[.int .i64 1, .int .i64 1, .slice none 0 0, .int .i64 1, .int .i64 2, .slice none 0 0] 28 (0, 0))) w.heap.size _ _ := OwnB.new rfl
  obtain ⟨y0, _, _⟩ := O.facts
  have hT : TrR (w.alloc (.cells #[.int .i64 1, .int .i64 1, .slice none 0 0, .int .i64 1, .int .i64 2, .slice none 0 0] 28 (0, 0))) sumT (some ⟨w.heap.size, 0, none⟩) 2 := by
    refine ⟨⟨by decide, by decide⟩, ⟨by decide, by decide⟩, by decide, by decide, fun _ => ⟨w.heap.size, 0, rfl, ?_⟩⟩
    refine ⟨⟨by decide, by decide⟩, ⟨by decide, by decide⟩, ⟨none, 0, y0 0, y0 1, y0 2, Nat.le_refl _, Nat.zero_le _, fun h => absurd h (by decide)⟩, ?_⟩
    exact ⟨⟨by decide, by decide⟩, ⟨by decide, by decide⟩, ⟨none, 0, y0 3, y0 4, y0 5, Nat.le_refl _, Nat.zero_le _, fun h => absurd h (by decide)⟩, trivial⟩
  have C := Lib.hid (text_ok sumT (by decide) _ _ _ hT (((hE.low hb0)).mono hb0.size))
  have HN := fun w => Lib.hid (num_any 0 w)
  have HB := Lib.hid hb0
  have HS := Lib.hid (show (⟨(textT sumT).toArray⟩ : ByteArray) = ⟨#[97, 100, 100, 40, 99, 111, 110, 40, 49, 41, 44, 32, 99, 111, 110, 40, 50, 41, 41]⟩ by
    have : textT sumT = [97, 100, 100, 40, 99, 111, 110, 40, 49, 41, 44, 32, 99, 111, 110, 40, 50, 41, 41] := by
      simp only [textT, sumT, textsL, headT, joinC, wordV, wordsL, leafB, Lib.itoa]
      simp [Lib.decDigits]
    rw [this])
  rw [HS.out] at C
  clear hT O y0 hb0 hE HS
  go_enter Tryd.func16, Tryd.ntmps16
  go_wp2_with fail
  refine C.out.mono ?_
  rintro e w1 ⟨rfl, hb⟩
  go_wp2_with (go_at_call 13; refine (HN _).out.mono ?_; rintro e w' ⟨rfl, rfl⟩)
  go_ret
  exact ⟨rfl, HB.out.trans (hb.mono HB.out.size)⟩
end Go.Proofs.YtgbgjecmamkdaaaDoor
