/-
  May a tree be, and how many nodes does it have? The project's isNode, room, Size, Check.
-/
import Derived.Test.YtgbgjecmamkdaaaDoorTrOps
namespace Go.Proofs.YtgbgjecmamkdaaaDoor
open Go.RowKit
set_option linter.unusedVariables false
set_option maxRecDepth 100000
set_option maxHeartbeats 1000000

theorem drop_cons {α : Type} {l : List α} {k : Nat} {t : α} (h : l[k]? = some t) : l.drop k = t :: l.drop (k + 1) := by
  obtain ⟨hk, rfl⟩ := List.getElem?_eq_some_iff.1 h
  exact List.drop_eq_getElem_cons hk
theorem ret_int {a b : Int} (h : a = b) : Ending.returned (.int .i64 a) = .returned (.int .i64 b) := by rw [h]
theorem isNode_no (t : Tr) (A : Option Addr) (c : Nat) (ho : I64 t.op) (w : World) (h : ((t.kids.len : Int) == ariV t.op) = false) :
    Calls Tryd.prog 39 #[trV t A c] w fun e w' => e = .returned (.bool false) ∧ Below w.heap.size w w' := by
  obtain ⟨op, n, kids⟩ := t
  have CA := fun w => Lib.hid (arity_any op ho w)
  clear ho
  simp only at h
  go_enter Tryd.func39, Tryd.ntmps39
  go_wp2_with fail
  go_quiet ((go_at_call 40; exact Calls.quiet_of_same ((CA _).out.mono fun _ _ h => ⟨h.1, h.2.symm⟩)))
  go_wp2_with fail
  go_ret
  exact ⟨rfl, (Keeps.au (G := [])).below⟩
theorem isNode_yes (t : Tr) (A : Option Addr) (c : Nat) (ho : I64 t.op) (w : World) (h : ((t.kids.len : Int) == ariV t.op) = true) :
    Calls Tryd.prog 39 #[trV t A c] w fun e w' => e = .returned (.bool (mayB t.op t.n)) ∧ Below w.heap.size w w' := by
  obtain ⟨op, n, kids⟩ := t
  have CA := fun w => Lib.hid (arity_any op ho w)
  have CM := fun w => Lib.hid (mayHave_any op n ho w)
  clear ho
  simp only at h
  go_enter Tryd.func39, Tryd.ntmps39
  go_wp2_with fail
  go_quiet (first | (go_at_call 40; exact Calls.quiet_of_same ((CA _).out.mono fun _ _ h => ⟨h.1, h.2.symm⟩)) | (go_at_call 57; exact Calls.quiet_of_same ((CM _).out.mono fun _ _ h => ⟨h.1, h.2.symm⟩)))
  go_wp2_with fail
  go_ret
  exact ⟨rfl, (Keeps.au (G := [])).below⟩
theorem isNode_any (t : Tr) (A : Option Addr) (c : Nat) (ho : I64 t.op) (w : World) (b : Bool) (hb : nodeB t.op t.n t.kids.len = b) :
    Calls Tryd.prog 39 #[trV t A c] w fun e w' => e = .returned (.bool b) ∧ Below w.heap.size w w' := by
  subst hb
  by_cases h : (t.kids.len : Int) = ariV t.op
  · have e : nodeB t.op t.n t.kids.len = mayB t.op t.n := by rw [nodeB, decide_eq_true h]; rfl
    rw [e]
    exact isNode_yes t A c ho w (by simpa using h)
  · have e : nodeB t.op t.n t.kids.len = false := by rw [nodeB, decide_eq_false h]; rfl
    rw [e]
    exact isNode_no t A c ho w (by simpa using h)
/-- What room does. -/
def RoomC (n : Nat) : Prop := ∀ (t : Tr), t.kids.size < n → ∀ (l : Int), -1 ≤ l → l ≤ 200 → ∀ (w : World) (A : Option Addr) (c : Nat), TrR w t A c →
  Calls Tryd.prog 24 #[trV t A c, .int .i64 l] w fun e w' => e = .returned (.int .i64 (roomT t l)) ∧ Below w.heap.size w w'
theorem room_step (n : Nat) (IH : RoomC n) : RoomC (n + 1) := by
  intro t ht l h0 h1 w A c hT
  have CN := fun b hb w => Lib.hid (isNode_any t A c hT.op w b hb)
  by_cases hl : l ≤ 0
  · have e : roomT t l = -1 := if_pos (.inl hl)
    rw [e]
    clear CN e
    obtain ⟨op, n, kids⟩ := t
    go_enter Tryd.func24, Tryd.ntmps24
    go_wp2_with fail
    go_ret
    exact ⟨rfl, (Keeps.au (G := [])).below⟩
  · cases hn : nodeB t.op t.n t.kids.len with
    | false =>
      have e : roomT t l = -1 := if_pos (.inr hn)
      rw [e]
      have C1 := CN _ hn
      clear CN e hn
      obtain ⟨op, n, kids⟩ := t
      go_enter Tryd.func24, Tryd.ntmps24
      go_wp2_with fail
      refine (C1 _).out.mono ?_
      rintro e w1 ⟨rfl, hb⟩
      go_wp2_with fail
      go_ret
      exact ⟨rfl, ((Keeps.au (G := [])).trans (Keeps.of_below hb)).below⟩
    | true =>
      have e : roomT t l = roomL t.kids (l - 1) := if_neg (fun h => h.elim hl (fun h => by rw [hn] at h; cases h))
      rw [e]
      have C1 := CN _ hn
      clear CN e hn
      have HT := Lib.hid hT
      have HH := Lib.hid ht
      have hcap := hT.cap
      have hle := hT.le
      unfold maxLen at hcap
      clear hT ht
      obtain ⟨op, nn, kids⟩ := t
      simp only at hle ⊢
      go_enter Tryd.func24, Tryd.ntmps24
      go_wp2_with fail
      refine (C1 _).out.mono ?_
      rintro e w1 ⟨rfl, hb⟩
      have O1 : OwnB w1 w.heap.size #[.int .i64 op, .int .i64 nn, .slice A kids.len c] 28 := OwnB.call (G := []) OwnB.au (Keeps.of_below hb) (by simp)
      obtain ⟨y1, x1, z1⟩ := O1.facts
      have HB := Lib.hid (((Keeps.au (G := [])).trans (Keeps.of_below hb)).below : Below w.heap.size w w1)
      clear hb
      go_wp2_with fail
      go_loopw [1, 6, 19, 20, 21, 22, 23, 24, 25, 26] (fun lv _ i _ _ _ _ _ _ _ wr => ∃ (k : Nat) (r : Int), k ≤ kids.len ∧ lv = .int .i64 r ∧ i = .int .i64 k ∧ -1 ≤ r ∧ r ≤ 200 ∧ roomL (Trs.ofL (kids.toL.drop k)) r = roomL kids (l - 1) ∧ Below w.heap.size w wr) (fun _ _ i _ _ _ _ _ _ _ _ => kids.len - (intOf i).toNat)
      case atStart => exact ⟨0, l - 1, by omega, rfl, rfl, by omega, by omega, by rw [List.drop_zero, Trs.ofL_toL], HB.out⟩
      case round =>
        obtain ⟨k, r, hk, rfl, rfl, hr0, hr1, hr, hb⟩ := hrel
        have HR := Lib.hid hr
        have HB1 := Lib.hid hb
        clear hr
        by_cases hlt : k < kids.len
        · obtain ⟨t2, b, off, B, c2, hget, rfl, hbs, f0, f1, f2, hT2⟩ := (HT.out.kid.low hb).get hlt
          have HG := Lib.hid hget
          have HT2 := Lib.hid hT2
          clear hget hT2 hb
          go_wp2_with fail
          have hm : t2.kids.size < n := by
            have h1 := Trs.size_mem kids t2 (List.mem_of_getElem? HG.out)
            have h2 := HH.out
            omega
          refine (IH t2 hm r hr0 hr1 _ B c2 (HT2.out.low (Keeps.au (G := [])).below)).mono ?_
          rintro e w2 ⟨rfl, hb2⟩
          have HB2 := Lib.hid hb2
          clear hb2 hm
          go_wp2_with fail
          go_roundw
          case rel =>
            have hb3 := roomT_le t2 r hr0
            refine ⟨k + 1, roomT t2 r, by omega, rfl, by go_num, by omega, by omega, ?_, ?_⟩
            · rw [← HR.out, drop_cons HG.out]; rfl
            · exact ((Keeps.of_below (G := []) HB1.out).then_ (H := []) ((Keeps.au (G := [])).trans (Keeps.of_below HB2.out)) (by simp)).below
          case measure => simp [intOf]; omega
        · have hk2 : k = kids.len := by omega
          subst hk2
          go_wp2_with fail
          go_ret
          refine ⟨?_, HB1.out⟩
          have := HR.out
          rw [List.drop_eq_nil_of_le (by rw [Trs.toL_len]; exact Nat.le_refl _)] at this
          exact ret_int this
theorem room_any : ∀ n, RoomC n := by
  intro n
  induction n with
  | zero => intro t h; exact absurd h (by omega)
  | succ n ih => exact room_step n ih
end Go.Proofs.YtgbgjecmamkdaaaDoor
