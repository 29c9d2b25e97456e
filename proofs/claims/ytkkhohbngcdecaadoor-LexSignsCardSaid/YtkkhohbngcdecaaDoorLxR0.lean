/-
  What the reference's rounds lean on.
-/
import Derived.Test.YtkkhohbngcdecaaDoorLxI
import Derived.Deep.RegionHeld3
import Derived.Deep.QuietTactic
import Derived.BigQuiet
namespace Go.Proofs.YtkkhohbngcdecaaDoor
open Go.RowKit Go.Maps
set_option linter.unusedVariables false
set_option maxRecDepth 100000 in
theorem refTokens_long (s : ByteArray) (w : World) (hs : 2000 < s.size) (hm : s.size ≤ maxLen) :
    Calls Tryd.prog 8 #[.string s] w fun e w' => e = .returned (.tuple #[.slice none 0 0, .agg #[.int .i64 2, .int .i64 0]]) ∧ Below w.heap.size w w' := by
  unfold maxLen at hm
  go_enter Tryd.func8, Tryd.ntmps8
  go_wp2_with fail
  refine bodyPost_ret (v := .tuple #[.slice none 0 0, .agg #[.int .i64 2, .int .i64 0]]) (by simp [results, Tryd.results8, go_sem]) rfl ⟨rfl, ?_⟩
  exact (Below.refl _ _).alloc (Nat.le_refl _) _
theorem bl_no {c : UInt8} (h : isBl c = false) : (((c.toNat : Int) == 32) = false ∧ ((c.toNat : Int) == 9) = false) ∧ ((c.toNat : Int) == 10) = false ∧ ((c.toNat : Int) == 13) = false := by
  have H : ∀ n, n < 256 → isBl (UInt8.ofNat n) = false → n ≠ 32 ∧ n ≠ 9 ∧ n ≠ 10 ∧ n ≠ 13 := by decide +kernel
  have := H c.toNat c.toNat_lt (by simpa using h)
  simp; omega
theorem bl_yes {c : UInt8} (h : isBl c = true) : c.toNat = 32 ∨ c.toNat = 9 ∨ c.toNat = 10 ∨ c.toNat = 13 := by
  have H : ∀ n, n < 256 → isBl (UInt8.ofNat n) = true → n = 32 ∨ n = 9 ∨ n = 10 ∨ n = 13 := by decide +kernel
  exact H c.toNat c.toNat_lt (by simpa using h)
/-- Where the reference is: at k, with tokens so far. -/
structure AtR (s : ByteArray) (k : Nat) (acc : List Tok) : Prop where
  le : k ≤ s.size
  few : acc.length ≤ k
  same : SS (s.data.toList.drop k) k acc = SS s.data.toList 0 []
theorem AtR.step {s : ByteArray} {k E : Nat} {acc : List Tok} {t : Tok} (h : AtR s k acc) (h1 : k + 1 ≤ E) (h2 : E ≤ s.size) (hR : SS (s.data.toList.drop k) k acc = SS (s.data.toList.drop E) E (acc ++ [t])) : AtR s E (acc ++ [t]) :=
  ⟨h2, by have := h.few; simp; omega, by rw [← hR, h.same]⟩
theorem AtR.done {s : ByteArray} {k : Nat} {acc : List Tok} (h : AtR s k acc) (hk : ¬ k < s.size) : SS s.data.toList 0 [] = .ok (acc ++ [⟨0, [], 0, s.size⟩]) := by
  rw [← h.same, drop_nil s hk, SS_nil, show k = s.size from by have := h.le; omega]
theorem own_far {w : World} {base : Nat} {e : TypeId} {size : Nat} {v : Value} {n : Nat} {xs : List Value} (h : w.ownsRow base e size v n xs) {a : Addr} (hne : v.ownBlock ≠ some a.block) (u : Value) : (w.setCell a u).ownsRow base e size v n xs :=
  h.kept (row := some a.block) ⟨rfl, rfl, rfl, by simp [World.setCell], fun k _ hk => Below.heap_setCell w a u k (fun e => hk (by rw [e]))⟩ (.inr hne)
theorem news_set (w : World) (a : Addr) (u : Value) (T : TypeId) (t : Tok) : ∀ j v, (tokC t)[j]? = some v → ((w.setCell a u).alloc (.cells #[.int .i64 t.kind, .string ⟨t.text.toArray⟩, .int .i64 t.n, .int .i64 t.pos] T)).cell? ((⟨w.heap.size, 0, none⟩ : Addr).add j) = some v := by
  have h := news_at (w.setCell a u) T t
  rw [show (w.setCell a u).heap.size = w.heap.size from by simp [World.setCell]] at h
  exact h
/-- None of the first q signs begins here. -/
def NoSign (s : ByteArray) (k q : Nat) : Prop := ∀ u ∈ signsL.take q, ¬ u <+: s.data.toList.drop k
theorem NoSign.zero (s : ByteArray) (k : Nat) : NoSign s k 0 := fun u h => by simp at h
theorem NoSign.step {s : ByteArray} {k q : Nat} {t : List UInt8} (h : signsL[q]? = some t) (hn : NoSign s k q) (ht : ¬ t <+: s.data.toList.drop k) : NoSign s k (q + 1) := by
  intro u hu
  have hq : q < signsL.length := (List.getElem?_eq_some_iff.1 h).1
  rw [List.take_succ_eq_append_getElem hq, (List.getElem?_eq_some_iff.1 h).2] at hu
  rcases List.mem_append.1 hu with hu | hu
  · exact hn u hu
  · simp at hu; subst hu; exact ht
theorem NoSign.short {s : ByteArray} {k : Nat} {t : List UInt8} (h : s.size - k < t.length) : ¬ t <+: s.data.toList.drop k := by
  intro hp
  have := hp.length_le
  have e : s.data.toList.length = s.size := by simp
  rw [List.length_drop, e] at this
  omega
theorem NoSign.none_ {s : ByteArray} {k : Nat} (h : NoSign s k 43) : sgT (s.data.toList.drop k) = none := by
  refine List.find?_eq_none.2 fun u hu hp => ?_
  exact h u (by rw [List.take_of_length_le (by decide)]; exact hu) (List.isPrefixOf_iff_prefix.1 hp)
theorem NoSign.some_ {s : ByteArray} {k q : Nat} {t : List UInt8} (h : NoSign s k q) (ht : signsL[q]? = some t) (hp : t <+: s.data.toList.drop k) : sgT (s.data.toList.drop k) = some t := by
  have hq : q < signsL.length := (List.getElem?_eq_some_iff.1 ht).1
  have e : signsL = signsL.take q ++ t :: signsL.drop (q + 1) := by
    have h1 := (List.take_append_drop q signsL).symm
    rw [List.drop_eq_getElem_cons hq, (List.getElem?_eq_some_iff.1 ht).2] at h1
    exact h1
  unfold sgT
  rw [e, List.find?_append]
  have hn : (signsL.take q).find? (fun t => t.isPrefixOf (s.data.toList.drop k)) = none := List.find?_eq_none.2 fun u hu hp' => h u hu (List.isPrefixOf_iff_prefix.1 hp')
  rw [hn, Option.none_or, List.find?_cons, List.isPrefixOf_iff_prefix.2 hp]
theorem ext_eq (s : ByteArray) (k : Nat) (t : List UInt8) : ((s.extract k (k + t.length)).toList == t) = t.isPrefixOf (s.data.toList.drop k) := by
  rw [ByteArray.toList_eq, Lib.extract_data, Nat.add_sub_cancel_left, Bool.eq_iff_iff, beq_iff_eq, List.isPrefixOf_iff_prefix, List.prefix_iff_eq_take]
  exact eq_comm
theorem lt_of_texts {w : World} {b : Nat} (h : Texts w b signsL) : b < w.heap.size := World.block_lt_of_cell? w _ (h 0 _ rfl)
theorem below_drewN {B : Nat} {a w : World} (h : Below B a w) (n : Nat) : Below B a (w.drewN n) := ⟨h.os, h.tape, h.output, h.size, h.block⟩
theorem num_swap (N : Int) : IntKind.u64.wrap (10 * N) = IntKind.u64.wrap (N * 10) := by rw [Int.mul_comm]
def firstLoop : Code → Option Code
  | .loop c => some c
  | .seq a b => match firstLoop a with
    | some c => some c
    | none => firstLoop b
  | .block _ c => firstLoop c
  | .scope c => firstLoop c
  | .cond _ a b => match firstLoop a with
    | some c => some c
    | none => firstLoop b
  | _ => none
noncomputable def rbody : Code := ((Tryd.f8.body.bind firstLoop).getD .skip)
end Go.Proofs.YtkkhohbngcdecaaDoor
