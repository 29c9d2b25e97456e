/-
  Size, Check, Pure: how many nodes a tree has, and whether it is pure.
-/
import Derived.Test.YtgbgjecmamkdaaaDoorTrRoom
import Derived.Laws.BitsAllLaws
import Derived.Laws.BitsLemmas
namespace Go.Proofs.YtgbgjecmamkdaaaDoor
open Go.RowKit
set_option linter.unusedVariables false
set_option maxRecDepth 100000
set_option maxHeartbeats 1000000

/-- May it be? How many nodes? -/
def okB (t : Tr) : Bool := (countT t 0).2
def many (t : Tr) : Int := (countT t 0).1
theorem many_ok (t : Tr) (h : okB t = true) : 1 ≤ many t ∧ many t ≤ 200 ∧ roomT t 200 = 200 - many t := by
  obtain ⟨a, b, _⟩ := room_countT t
  exact ⟨a, (b h).1, (b h).2⟩
theorem many_no (t : Tr) (h : okB t = false) : roomT t 200 = -1 := (room_countT t).2.2 h
theorem room_any' (t : Tr) (l r : Int) (hr : roomT t l = r) (h0 : -1 ≤ l) (h1 : l ≤ 200) (w : World) (A : Option Addr) (c : Nat) (hT : TrR w t A c) :
    Calls Tryd.prog 24 #[trV t A c, .int .i64 l] w fun e w' => e = .returned (.int .i64 r) ∧ Below w.heap.size w w' := by
  subst hr
  exact room_any _ t (Nat.lt_succ_self _) l h0 h1 w A c hT
theorem size_ok (t : Tr) (h : okB t = true) (w : World) (A : Option Addr) (c : Nat) (hT : TrR w t A c) :
    Calls Tryd.prog 7 #[trV t A c] w fun e w' => e = .returned (.tuple #[.int .i64 (many t), .int .i64 0]) ∧ Below w.heap.size w w' := by
  obtain ⟨m1, m2, m3⟩ := many_ok t h
  have C := fun w1 (hb : Below w.heap.size w w1) => Lib.hid (room_any' t 200 _ m3 (by decide) (by decide) w1 A c (hT.low hb))
  clear hT m3 h
  generalize many t = m at *
  obtain ⟨op, n, kids⟩ := t
  go_enter Tryd.func7, Tryd.ntmps7
  go_wp2_with fail
  refine (C _ (Keeps.au (G := [])).below).out.mono ?_
  rintro e w1 ⟨rfl, hb⟩
  have e1 : decide (200 - m < 0) = false := decide_eq_false (by omega)
  go_wp2_with fail
  go_ret2
  refine ⟨?_, ((Keeps.au (G := [])).trans (Keeps.of_below hb)).below⟩
  show Ending.returned (.tuple #[.int .i64 (200 - (200 - m)), .int .i64 0]) = _
  rw [show (200 : Int) - (200 - m) = m by omega]
theorem size_no (t : Tr) (h : okB t = false) (w : World) (A : Option Addr) (c : Nat) (hT : TrR w t A c) :
    Calls Tryd.prog 7 #[trV t A c] w fun e w' => e = .returned (.tuple #[.int .i64 0, .int .i64 1]) ∧ Below w.heap.size w w' := by
  have C := fun w1 (hb : Below w.heap.size w w1) => Lib.hid (room_any' t 200 _ (many_no t h) (by decide) (by decide) w1 A c (hT.low hb))
  clear hT h
  obtain ⟨op, n, kids⟩ := t
  go_enter Tryd.func7, Tryd.ntmps7
  go_wp2_with fail
  refine (C _ (Keeps.au (G := [])).below).out.mono ?_
  rintro e w1 ⟨rfl, hb⟩
  go_wp2_with fail
  go_ret2
  exact ⟨rfl, ((Keeps.au (G := [])).trans (Keeps.of_below hb)).below⟩
theorem check_any (t : Tr) (b : Bool) (h : okB t = b) (w : World) (A : Option Addr) (c : Nat) (hT : TrR w t A c) :
    Calls Tryd.prog 14 #[trV t A c] w fun e w' => e = .returned (.int .i64 (if b then 0 else 1)) ∧ Below w.heap.size w w' := by
  cases b with
  | true =>
    have C := fun w1 (hb : Below w.heap.size w w1) => Lib.hid (size_ok t h w1 A c (hT.low hb))
    clear hT h
    generalize many t = m at *
    obtain ⟨op, n, kids⟩ := t
    go_enter Tryd.func14, Tryd.ntmps14
    go_wp2_with fail
    refine (C _ (Keeps.au (G := [])).below).out.mono ?_
    rintro e w1 ⟨rfl, hb⟩
    go_wp2_with fail
    go_ret
    exact ⟨rfl, ((Keeps.au (G := [])).trans (Keeps.of_below hb)).below⟩
  | false =>
    have C := fun w1 (hb : Below w.heap.size w w1) => Lib.hid (size_no t h w1 A c (hT.low hb))
    clear hT h
    obtain ⟨op, n, kids⟩ := t
    go_enter Tryd.func14, Tryd.ntmps14
    go_wp2_with fail
    refine (C _ (Keeps.au (G := [])).below).out.mono ?_
    rintro e w1 ⟨rfl, hb⟩
    go_wp2_with fail
    go_ret
    exact ⟨rfl, ((Keeps.au (G := [])).trans (Keeps.of_below hb)).below⟩
theorem wrap_pow (o : Nat) (h : 2 ^ o < 2 ^ 37) : IntKind.u64.wrap (2 ^ o : Int) = ((2 ^ o : Nat) : Int) := by
  have e : (2 ^ o : Int) = ((2 ^ o : Nat) : Int) := by simp
  rw [e, show IntKind.u64.wrap ((2 ^ o : Nat) : Int) = ((2 ^ o : Nat) : Int) % 18446744073709551616 by simp [IntKind.wrap, IntKind.bits, IntKind.signed]]
  generalize 2 ^ o = p at *
  omega
theorem okL_all : ∀ l : List Tr, okL (Trs.ofL l) = l.all okT := by
  intro l
  induction l with
  | nil => rfl
  | cons t r ih => rw [Trs.ofL, okL_add, ih]; rfl
theorem okL_take (x : Trs) (k : Nat) (h : okL x = true) : okL (Trs.ofL (x.toL.take k)) = true := by
  rw [okL_all]
  rw [← Trs.ofL_toL x, okL_all] at h
  rw [List.all_eq_true] at h ⊢
  intro t ht
  exact h t (List.mem_of_mem_take ht)
theorem or_u64 (a b : Nat) (h1 : a < 2 ^ 37) (h2 : b < 2 ^ 37) (e : Nat) (he : (a ||| b) = e) : Value.int IntKind.u64 (bits BinOp.or IntKind.u64 (a : Int) (b : Int)) = .int .u64 (e : Int) := by
  rw [u64_or_nat a b (Nat.lt_of_lt_of_le h1 (by decide)) (Nat.lt_of_lt_of_le h2 (by decide)), he]
/-- What opsOf does. -/
def OpsC (n : Nat) : Prop := ∀ (t : Tr), t.kids.size < n → okT t = true → ∀ (w : World) (A : Option Addr) (c : Nat), TrR w t A c →
  Calls Tryd.prog 25 #[trV t A c] w fun e w' => e = .returned (.int .u64 (opsT t : Int)) ∧ Below w.heap.size w w'
theorem ofL_take_succ {x : Trs} {k : Nat} {t : Tr} (h : x.toL[k]? = some t) : Trs.ofL (x.toL.take (k + 1)) = (Trs.ofL (x.toL.take k)).snoc t := by
  obtain ⟨hk, rfl⟩ := List.getElem?_eq_some_iff.1 h
  rw [List.take_succ_eq_append_getElem hk, Trs.ofL_snoc]
theorem ops_step (n : Nat) (IH : OpsC n) : OpsC (n + 1) := by
  intro t ht hok w A c hT
  have hok' := hok
  rw [okT] at hok'
  simp only [Bool.and_eq_true] at hok'
  obtain ⟨hn, hko⟩ := hok'
  have ho1 := (node_op hn).1
  have ho2 := (node_op hn).2.1
  have HK := Lib.hid hko
  have HH := Lib.hid ht
  have HT := Lib.hid hT
  have hcap := hT.cap
  have hle := hT.le
  unfold maxLen at hcap
  clear hT ht hn hko hok
  obtain ⟨op, nn, kids⟩ := t
  simp only at hle ho1 ho2 ⊢
  obtain ⟨o, rfl⟩ : ∃ o : Nat, op = (o : Int) := ⟨op.toNat, by omega⟩
  go_enter Tryd.func25, Tryd.ntmps25
  go_wp2_with fail
  have h36 : (2 : Nat) ^ o < 2 ^ 37 := Nat.pow_lt_pow_right (by decide) (by omega)
  have HO := Lib.hid h36
  clear h36
  go_loopw [3, 5, 12, 13, 14, 15, 16, 17, 18, 19, 20] (fun s _ i _ _ _ _ _ _ _ _ wr => ∃ (k : Nat), k ≤ kids.len ∧ s = .int .u64 ((2 ^ o ||| opsL (Trs.ofL (kids.toL.take k)) : Nat) : Int) ∧ i = .int .i64 k ∧ Below w.heap.size w wr) (fun _ _ i _ _ _ _ _ _ _ _ _ => kids.len - (intOf i).toNat)
  case atStart =>
    refine ⟨0, by omega, ?_, rfl, (Keeps.au (G := [])).below⟩
    have h1 := HO.out
    simp only [List.take_zero, Trs.ofL, opsL, Nat.or_zero]
    rw [wrap_pow o h1]
  case round =>
    obtain ⟨k, hk, rfl, rfl, hb⟩ := hrel
    have HB1 := Lib.hid hb
    by_cases hlt : k < kids.len
    · obtain ⟨t2, b, off, B, c2, hget, rfl, hbs, f0, f1, f2, hT2⟩ := (HT.out.kid.low hb).get hlt
      have HG := Lib.hid hget
      have HT2 := Lib.hid hT2
      clear hget hT2 hb
      have hm : t2.kids.size < n := by
        have h1 := Trs.size_mem kids t2 (List.mem_of_getElem? HG.out)
        have h2 := HH.out
        omega
      have HO2 := Lib.hid (okL_mem kids t2 (List.mem_of_getElem? HG.out) HK.out)
      have HL := Lib.hid (Nat.or_lt_two_pow HO.out (opsL_lt _ (okL_take kids k HK.out)))
      generalize hacc : (2 ^ o ||| opsL (Trs.ofL (kids.toL.take k)) : Nat) = acc
      have HA := Lib.hid hacc
      rw [hacc] at HL
      clear hacc
      go_wp2_with fail
      refine (IH t2 hm HO2.out _ B c2 (HT2.out.low (Keeps.au (G := [])).below)).mono ?_
      rintro e w2 ⟨rfl, hb2⟩
      have HB2 := Lib.hid hb2
      clear hb2 hm
      go_wp2_with fail
      go_roundw
      case rel =>
        refine ⟨k + 1, by omega, ?_, by go_num, ?_⟩
        · exact or_u64 _ _ HL.out (opsT_lt t2 HO2.out) _ (by rw [ofL_take_succ HG.out, opsL_snoc, ← Nat.or_assoc, HA.out])
        · exact ((Keeps.of_below (G := []) HB1.out).then_ (H := []) ((Keeps.au (G := [])).trans (Keeps.of_below HB2.out)) (by simp)).below
      case measure => simp [intOf]; omega
    · have hk2 : k = kids.len := by omega
      subst hk2
      go_wp2_with fail
      go_ret
      refine ⟨?_, HB1.out⟩
      rw [List.take_of_length_le (by rw [Trs.toL_len]; exact Nat.le_refl _), Trs.ofL_toL]
      rfl
theorem ops_any : ∀ n, OpsC n := by
  intro n
  induction n with
  | zero => intro t h; exact absurd h (by omega)
  | succ n ih => exact ops_step n ih
end Go.Proofs.YtgbgjecmamkdaaaDoor
