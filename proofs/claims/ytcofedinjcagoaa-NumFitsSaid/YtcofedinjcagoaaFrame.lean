/-
  An argument that is a slice of asks, opened to its cells; the step from a walk to the row.
-/
import Derived.Test.YtcofedinjcagoaaLoop
import Derived.ProofKit
import Derived.Deep.Slices
import Derived.Deep.Fields
import Derived.ChangeSame
namespace Go.Proofs.Ytcofedinjcagoaa
open Go.ChangeShapes Go.WideShapes Go.ChangeAt Go.RowKit Go.Deep
set_option linter.unusedVariables false

section
variable {H : Type} {enc : TypeId × Value → H} {P : Program} {w : World} {base : Nat} {spare : Nat → Bool} {held : Bool}
theorem open_slice_fields {t e : TypeId} {fs : Array Field} {fuel : Nat} {cs : List Value} {x : DataW H × List MemPlace} (ht : P.underlying t = some (.slice e)) (he : P.underlying e = some (.struct fs))
    (hone : oneCellFields P fs = true) (hC : P.cellsOf e = fs.size) (h : DataW.trod enc P w base spare held fuel t cs = some x) :
    (cs = [.slice none 0 0] ∧ x = (.nil, [])) ∨
    ∃ (a : Addr) (len cap m : Nat) (D : Nat → DataW H) (Pl : Nat → List MemPlace), cs = [.slice (some a) len cap] ∧ base ≤ a.block ∧ len ≤ cap ∧ cap ≤ maxLen ∧ m = (if spare a.block then cap else len) ∧
      x = (.slice ((List.range len).map D) ((List.range (m - len)).map fun j => D (len + j)), MemPlace.row a (m * fs.size) ++ (List.range m).flatMap Pl) ∧
      ∀ i, i < m → ∃ (ys : List (DataW H × List MemPlace)) (n : Nat), D i = .agg (ys.map (·.1)) ∧ Pl i = ys.flatMap (·.2) ∧ ys.length = fs.size ∧
        ∀ (j : Nat) (f : Field), fs[j]? = some f → ∃ (v : Value) (y : DataW H × List MemPlace), w.cell? (a.add (i * fs.size + j)) = some v ∧ ys[j]? = some y ∧ DataW.trod enc P w base spare held n f.type [v] = some y := by
  rcases open_slice ht h with h0 | ⟨a, len, cap, m, n, D, Pl, hcs, hb, hl, hm, hmm, hx, hi⟩
  · exact .inl h0
  · refine .inr ⟨a, len, cap, m, D, Pl, hcs, hb, hl, hm, hmm, by rw [hC] at hx; exact hx, fun i him => ?_⟩
    obtain ⟨cs', hc, ht'⟩ := hi i him
    rw [hC] at hc
    obtain ⟨ys, n', hn', hy, hlen, hyl, hf⟩ := DataW.trod_struct he ht'
    obtain ⟨_, hcl, hat⟩ := World.cells?_some hc
    simp only [Prod.mk.injEq] at hy
    refine ⟨ys, n', hy.1, hy.2, hyl, fun j f hj => ?_⟩
    obtain ⟨ho, hk⟩ := hone_of hone j f hj
    have hjl : j < fs.size := (Array.getElem?_eq_some_iff.1 hj).1
    have hcell := hat j hjl
    have hv : cs'[j]? = some (cs'[j]'(by omega)) := List.getElem?_eq_getElem (by omega)
    have h1 := hf j f hj
    rw [ho, hk] at h1
    have hone' : (cs'.drop j).take 1 = [cs'[j]'(by omega)] := by
      rw [List.drop_eq_getElem_cons (by omega)]
      rfl
    rw [hone'] at h1
    have hys : ys[j]? = some (ys[j]'(by omega)) := List.getElem?_eq_getElem (by omega)
    refine ⟨_, _, ?_, hys, h1.trans hys⟩
    rw [← Go.Deep.add_add, hcell, hv]
end

/-- What an argument of asks is, as a value. -/
def AskArg (W : World) (v : Value) : Prop :=
  (∃ (A : Option Addr) (c : Nat), v = .slice A 0 c) ∨
  ∃ (b off n c : Nat) (D E : Nat → Int), v = .slice (some ⟨b, off, none⟩) n c ∧ Asks W b off n D E ∧ b < W.heap.size ∧ n ≤ 9223372036854775807

theorem lt_of_cell {w : World} {a : Addr} {v : Value} (h : w.cell? a = some v) : a.block < w.heap.size := by
  rcases Nat.lt_or_ge a.block w.heap.size with hl | hg
  · exact hl
  · have : w.heap[a.block]? = none := Array.getElem?_eq_none hg
    simp [World.cell?, this] at h
theorem ask_of {H : Type} {enc : TypeId × Value → H} {W : World} {v : Value} {d : DataW H} {p : List MemPlace} (hv : Value.okWide Try.prog W .any 0 22 v)
    (h : DataW.Trod enc Try.prog W 0 (fun _ => true) true 22 v d p) : AskArg W v := by
  obtain ⟨a0, len0, cap0, rfl⟩ := okWide_slice Try.underlying22 hv
  obtain ⟨fuel, hf⟩ := h
  rcases open_slice_fields Try.underlying22 Try.underlying31 (by kernel_rfl) (by kernel_rfl) hf with ⟨hcs, _⟩ | ⟨a, len, cap, m, D, Pl, hcs, hb, hl, hm, hmm, hx, hi⟩
  · have : Value.slice a0 len0 cap0 = Value.slice none 0 0 := by simpa [Value.cells] using hcs
    exact .inl ⟨_, _, this⟩
  · have hval : Value.slice a0 len0 cap0 = Value.slice (some a) len cap := by simpa [Value.cells] using hcs
    rw [hval]
    have hmc : m = cap := by simpa using hmm
    have hmax : cap ≤ 9223372036854775807 := by unfold maxLen at hm; exact hm
    have hcell : ∀ i, i < len → ∃ x y : Int, W.cell? (a.add (i * 4)) = some (.int .i64 x) ∧ W.cell? (a.add (i * 4 + 1)) = some (.int .i64 y) ∧ (Lit.int .i64 x).wf = true ∧ (Lit.int .i64 y).wf = true := by
      intro i hil
      obtain ⟨ys, n, _, _, hlen, hf⟩ := hi i (by omega)
      obtain ⟨v0, y0, c0, _, t0⟩ := hf 0 _ rfl
      obtain ⟨v1, y1, c1, _, t1⟩ := hf 1 _ rfl
      obtain ⟨x, e0, _, w0⟩ := DataW.trod_int Try.underlying2 t0
      obtain ⟨y, e1, _, w1⟩ := DataW.trod_int Try.underlying2 t1
      simp only [List.cons.injEq, and_true] at e0 e1
      subst e0; subst e1
      exact ⟨x, y, c0, c1, w0, w1⟩
    rcases Nat.eq_zero_or_pos len with h0 | hpos
    · subst h0
      exact .inl ⟨_, _, rfl⟩
    · obtain ⟨x0, y0, hc0, _⟩ := hcell 0 hpos
      obtain ⟨b, off, spot⟩ := a
      have hspot : spot = none := by simpa [Addr.add] using World.cell?_spot hc0
      subst hspot
      have hcell' : ∀ i, i < len → ∃ x y : Int, W.cell? ⟨b, off + i * 4, none⟩ = some (.int .i64 x) ∧ W.cell? ⟨b, off + i * 4 + 1, none⟩ = some (.int .i64 y) ∧ (Lit.int .i64 x).wf = true ∧ (Lit.int .i64 y).wf = true := by
        intro i hil
        obtain ⟨x, y, e1, e2, e3, e4⟩ := hcell i hil
        rw [Go.WideShapes.add_plain] at e1 e2
        exact ⟨x, y, e1, e2, e3, e4⟩
      have hblock : b < W.heap.size := by
        obtain ⟨x, y, e1, _⟩ := hcell' 0 hpos
        exact lt_of_cell e1
      clear hcell
      refine .inr ⟨b, off, len, cap, fun i => if h : i < len then (hcell' i h).choose else 0, fun i => if h : i < len then (hcell' i h).choose_spec.choose else 0, rfl, ⟨?_, ?_, ?_, ?_⟩, hblock, by omega⟩
      · intro i hil
        simp only [dif_pos hil]
        exact (hcell' i hil).choose_spec.choose_spec.1
      · intro i hil
        simp only [dif_pos hil]
        exact (hcell' i hil).choose_spec.choose_spec.2.1
      · intro i
        by_cases hil : i < len
        · simp only [dif_pos hil]; exact (hcell' i hil).choose_spec.choose_spec.2.2.1
        · simp only [dif_neg hil]; decide
      · intro i
        by_cases hil : i < len
        · simp only [dif_pos hil]; exact (hcell' i hil).choose_spec.choose_spec.2.2.2
        · simp only [dif_neg hil]; decide

theorem Try.own : ownKnob Try.prog.godebug = none := by kernel_rfl
theorem Try.laidOut : laidOutB Try.prog = true := by kernel_rfl

theorem bins_zero (A : Option Addr) (c : Nat) (lo hi : Int) (w : World) :
    Calls Try.prog 23 #[.slice A 0 c, .int .i64 lo, .int .i64 hi] w fun e w' => e = .returned (.bool true) ∧ Below w.heap.size w w' := by
  go_enter Try.func23, Try.ntmps23
  go_wp2
  go_loop [7] (fun i => i = .int .i64 0) (fun _ => 0)
  case atStart => exact rfl
  case round =>
    obtain rfl := hrel
    go_wp2_with (go_at_call 22; refine (wakes_any _).mono ?_; rintro e w' ⟨rfl, rfl⟩)
    go_ret
    exact ⟨rfl, Below.refl _ _⟩
theorem bins_any {v : Value} {w : World} (h : AskArg w v) (lo hi : Int) (hlo : 0 ≤ lo) (hl1 : lo ≤ 100) (hhi : hi ≤ 100) :
    Calls Try.prog 23 #[v, .int .i64 lo, .int .i64 hi] w fun e w' => e = .returned (.bool true) ∧ Below w.heap.size w w' := by
  rcases h with ⟨A, c, rfl⟩ | ⟨b, off, n, c, D, E, rfl, ha, hb, hn⟩
  · exact bins_zero A c lo hi w
  · exact bins_some b off n c D E lo hi w ha hb hn hlo hl1 hhi
end Go.Proofs.Ytcofedinjcagoaa
