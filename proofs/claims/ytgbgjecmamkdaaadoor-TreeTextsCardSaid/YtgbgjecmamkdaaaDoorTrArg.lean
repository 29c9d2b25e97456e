/-
  The argument: trees and strings, as they read.
-/
import Derived.Test.YtgbgjecmamkdaaaDoorTrMem
import Derived.SliceStrings
import Derived.ProofKit
import Derived.WideShapes
import Derived.Deep.Strs
import Derived.SizedLaws
import Derived.Lib.SmallJoins
namespace Go.Proofs.YtgbgjecmamkdaaaDoor
open Go.ChangeShapes Go.WideShapes Go.ChangeAt Go.RowKit Go.Deep Go.Joins
set_option linter.unusedVariables false
set_option maxRecDepth 100000

def ElemAt (w : World) (t : Tr) (b o : Nat) : Prop := I64 t.op ∧ I64 t.n ∧ ∃ (A : Option Addr) (c : Nat), w.cell? ⟨b, o, none⟩ = some (.int .i64 t.op) ∧ w.cell? ⟨b, o + 1, none⟩ = some (.int .i64 t.n) ∧ w.cell? ⟨b, o + 2, none⟩ = some (.slice A t.kids.len c) ∧ t.kids.len ≤ c ∧ c ≤ maxLen ∧ KidR w t.kids A
theorem rowR_mk {w : World} {b : Nat} : ∀ (l : List Tr) (off : Nat), (∀ i t, l[i]? = some t → ElemAt w t b (off + i * 3)) → RowR w (Trs.ofL l) b off := by
  intro l
  induction l with
  | nil => intro off _; trivial
  | cons t r ih =>
    intro off h
    obtain ⟨h1, h2, A, c, c0, c1, c2, hl, hc, hk⟩ := h 0 t rfl
    rw [Nat.zero_mul, Nat.add_zero] at c0 c1 c2
    refine ⟨h1, h2, ⟨A, c, c0, c1, c2, hl, hc, hk⟩, ih (off + 3) fun i u hu => ?_⟩
    have := h (i + 1) u (by simpa using hu)
    rwa [show off + (i + 1) * 3 = off + 3 + i * 3 by omega] at this
section
variable {H : Type} {enc : TypeId × Value → H} {w : World} {spare : Nat → Bool} {held : Bool}
theorem trees_of : ∀ (fuel : Nat) (cs : List Value) (x : DataW H × List MemPlace), DataW.trod enc Tryd.prog w 0 spare held fuel 22 cs = some x → ∃ (X : Trs) (A : Option Addr) (c : Nat), cs = [.slice A X.len c] ∧ X.len ≤ c ∧ c ≤ maxLen ∧ KidR w X A ∧ (X.len = 0 ∨ ∃ el sp : List (DataW H), x.1 = .slice el sp ∧ el.length = X.len) := by
  intro fuel
  induction fuel using Nat.strongRecOn with
  | _ fuel ih =>
    intro cs x h
    rcases DataW.trod_slice Tryd.underlying22 h with ⟨rfl, _⟩ | ⟨a, len, cap, elems, rest, n, hf, rfl, hxx, _, hl, hm, hlen, hel, _, _⟩
    · exact ⟨.nil, none, 0, rfl, Nat.le_refl _, Nat.zero_le _, fun h => absurd h (by decide), .inl rfl⟩
    · have hC : Tryd.prog.cellsOf 28 = 3 := by kernel_rfl
      have one : ∀ i, i < len → ∃ t : Tr, (i = 0 → a.spot = none) ∧ ElemAt w t a.block (a.off + i * 3) := by
        intro i hi
        have h1 := hel i hi
        rw [List.getElem?_eq_getElem (by omega), hC] at h1
        obtain ⟨cs', h2, h3⟩ := Option.bind_eq_some_iff.1 h1
        obtain ⟨_, hcl, hat⟩ := World.cells?_some h2
        obtain ⟨xs, n', hn', _, _, hxl, hfs⟩ := DataW.trod_struct Tryd.underlying28 h3
        have c0 := hat 0 (by omega)
        have c1 := hat 1 (by omega)
        have c2 := hat 2 (by omega)
        match cs', hcl with
        | [u0, u1, u2], _ =>
          have hx3 : xs.length = 3 := hxl
          match xs, hx3 with
          | [x0, x1, x2], _ =>
            have e1 : Tryd.prog.cellsOf 3 = 1 := by kernel_rfl
            have e2 : Tryd.prog.cellsOf 2 = 1 := by kernel_rfl
            have e3 : Tryd.prog.cellsOf 22 = 1 := by kernel_rfl
            have f0 : DataW.trod enc Tryd.prog w 0 spare held n' 3 (([u0, u1, u2].drop 0).take (Tryd.prog.cellsOf 3)) = [x0, x1, x2][0]? := hfs 0 _ rfl
            have f1 : DataW.trod enc Tryd.prog w 0 spare held n' 2 (([u0, u1, u2].drop 1).take (Tryd.prog.cellsOf 2)) = [x0, x1, x2][1]? := hfs 1 _ rfl
            have f2 : DataW.trod enc Tryd.prog w 0 spare held n' 22 (([u0, u1, u2].drop 2).take (Tryd.prog.cellsOf 22)) = [x0, x1, x2][2]? := hfs 2 _ rfl
            rw [e1] at f0
            rw [e2] at f1
            rw [e3] at f2
            obtain ⟨m0, q0, _, w0⟩ := DataW.trod_int Tryd.underlying3 (show DataW.trod enc Tryd.prog w 0 spare held n' 3 [u0] = some x0 from f0)
            obtain ⟨m1, q1, _, w1⟩ := DataW.trod_int Tryd.underlying2 (show DataW.trod enc Tryd.prog w 0 spare held n' 2 [u1] = some x1 from f1)
            obtain ⟨X, A, c, q2, hXc, hcm, hX, _⟩ := ih n' (by omega) _ _ (show DataW.trod enc Tryd.prog w 0 spare held n' 22 [u2] = some x2 from f2)
            simp only [List.cons.injEq, and_true] at q0 q1 q2
            subst q0 q1 q2
            simp only [List.getElem?_cons_zero, List.getElem?_cons_succ] at c0 c1 c2
            have hsp : i = 0 → a.spot = none := by
              rintro rfl
              have := World.cell?_spot c0
              simpa [Addr.add] using this
            have had : a.add (i * 3) = ⟨a.block, a.off + i * 3, none⟩ := by
              obtain ⟨b, off, spot⟩ := a
              by_cases h0 : i = 0
              · have := hsp h0
                simp only at this
                subst h0 this
                rfl
              · unfold Addr.add
                rw [if_neg (by omega)]
            rw [had] at c0 c1 c2
            simp only [Go.WideShapes.add_plain, Nat.add_zero] at c0 c1 c2
            exact ⟨⟨m0, m1, X⟩, hsp, I64.of_wf w0, I64.of_wf w1, A, c, c0, c1, c2, hXc, hcm, hX⟩
      have ⟨f, hfall⟩ : ∃ f : Nat → Tr, ∀ i, i < len → ElemAt w (f i) a.block (a.off + i * 3) := by
        refine ⟨fun i => if h : i < len then Classical.choose (one i h) else ⟨0, 0, .nil⟩, fun i hi => ?_⟩
        simp only [dif_pos hi]
        exact (Classical.choose_spec (one i hi)).2
      have hXl : (Trs.ofL ((List.range len).map f)).len = len := by rw [Trs.ofL_len]; simp
      refine ⟨Trs.ofL ((List.range len).map f), some a, cap, by rw [hXl], by rw [hXl]; exact hl, hm, fun h0 => ?_, .inr ⟨elems.map (·.1), rest.map (·.1), by rw [hxx], by rw [hXl]; simpa using hlen⟩⟩
      rw [hXl] at h0
      obtain ⟨_, hsp, _⟩ := one 0 h0
      obtain ⟨b, off, spot⟩ := a
      have hsp := hsp rfl
      simp only at hsp
      subst hsp
      refine ⟨b, off, rfl, rowR_mk _ _ fun i t ht => ?_⟩
      have hi : i < len := by
        have := (List.getElem?_eq_some_iff.1 ht).1
        simpa using this
      have : f i = t := by simpa [hi] using ht
      rw [← this]
      exact hfall i hi
/-- Strings that were read. -/
theorem strings_of {fuel : Nat} {cs : List Value} {x : DataW H × List MemPlace} (h : DataW.trod enc Tryd.prog w 0 spare held fuel 23 cs = some x) :
    ∃ (ss : List (List UInt8)) (B : Option Addr) (d : Nat), cs = [.slice B ss.length d] ∧ ss.length ≤ d ∧ d ≤ maxLen ∧ (0 < ss.length → ∃ b off, B = some ⟨b, off, none⟩ ∧ ∀ i s, ss[i]? = some s → w.cell? ⟨b, off + i, none⟩ = some (.string ⟨s.toArray⟩)) ∧
      ((ss = [] ∧ d = 0) ∨ ∃ sp : List (DataW H), x.1 = .slice (ss.map fun s => .lit (.string s)) sp) := by
  rcases open_strings Tryd.underlying23 Tryd.underlying9 (by kernel_rfl) h with ⟨hcs, hx⟩ | ⟨a, len, cap, ss, hcs, hb, hl, hm, hlen, hx, hcell, hsz⟩
  · exact ⟨[], none, 0, hcs, Nat.le_refl _, Nat.zero_le _, fun h => absurd h (by decide), .inl ⟨rfl, rfl⟩⟩
  · have hsl : len ≤ ss.length := by rw [hlen]; split <;> omega
    have hl2 : ((ss.take len).map fun s => s.data.toList).length = len := by simp; omega
    refine ⟨(ss.take len).map fun s => s.data.toList, some a, cap, by rw [hl2]; exact hcs, by rw [hl2]; exact hl, hm, fun h0 => ?_, .inr ⟨strs (ss.drop len), ?_⟩⟩
    · rw [hl2] at h0
      have hc0 := hcell 0 (by omega)
      obtain ⟨b, off, spot⟩ := a
      have hspot : spot = none := by simpa [Addr.add] using World.cell?_spot hc0
      subst hspot
      refine ⟨b, off, rfl, fun i s hs => ?_⟩
      have hil : i < len := by
        have := (List.getElem?_eq_some_iff.1 hs).1
        omega
      have h3 := hcell i (by omega)
      rw [Go.WideShapes.add_plain] at h3
      rw [h3]
      have hg : ss[i]? = some ss[i] := List.getElem?_eq_getElem (by omega)
      have : s = ss[i].data.toList := by
        rw [List.getElem?_map, List.getElem?_take_of_lt hil, hg] at hs
        exact (Option.some.inj hs).symm
      rw [this]
      simp [List.getD, hg]
    · rw [hx]
      simp only [strs, List.map_map]
      rfl
end
/-- Strings lie at this address. -/
def StrsR (w : World) (ss : List (List UInt8)) (B : Option Addr) : Prop := 0 < ss.length → ∃ b off, B = some ⟨b, off, none⟩ ∧ ∀ i s, ss[i]? = some s → w.cell? ⟨b, off + i, none⟩ = some (.string ⟨s.toArray⟩)
theorem StrsR.low {w W : World} {ss : List (List UInt8)} {B : Option Addr} (h : StrsR w ss B) (hb : Below w.heap.size w W) : StrsR W ss B := fun h0 => by
  obtain ⟨b, off, e, h1⟩ := h h0
  exact ⟨b, off, e, fun i s hs => below_some hb _ _ (h1 i s hs)⟩
/-- What an argument is. -/
structure AskR (w : World) (x : Trs) (ss : List (List UInt8)) (A : Option Addr) (c : Nat) (B : Option Addr) (d : Nat) : Prop where
  le : x.len ≤ c
  cap : c ≤ maxLen
  len : x.len ≤ 140737488355328
  kid : KidR w x A
  sle : ss.length ≤ d
  scap : d ≤ maxLen
  slen : ss.length ≤ 140737488355328
  strs : StrsR w ss B
  few : ∀ s ∈ ss, s.length ≤ 140737488355328
theorem AskR.low {w W : World} {x : Trs} {ss : List (List UInt8)} {A : Option Addr} {c : Nat} {B : Option Addr} {d : Nat} (h : AskR w x ss A c B d) (hb : Below w.heap.size w W) : AskR W x ss A c B d :=
  ⟨h.le, h.cap, h.len, h.kid.low hb, h.sle, h.scap, h.slen, h.strs.low hb, h.few⟩
abbrev askV (x : Trs) (ss : List (List UInt8)) (A : Option Addr) (c : Nat) (B : Option Addr) (d : Nat) : Value := .agg #[.slice A x.len c, .slice B ss.length d]
theorem weights_all_mem {H : Type} {P : Program} {e : TypeId} : ∀ (l : List (DataW H)) (d : DataW H), d ∈ l → ∀ n ∈ d.weights P e, n ∈ DataW.weightsAll P e l := by
  intro l
  induction l with
  | nil => intro d h; cases h
  | cons a r ih =>
    intro d h n hn
    rw [DataW.weightsAll]
    rcases List.mem_cons.1 h with rfl | h
    · exact List.mem_append_left _ hn
    · exact List.mem_append_right _ (ih d h n hn)
theorem ask_of {H : Type} {enc : TypeId × Value → H} {W : World} {v : Value} {d : DataW H} {p : List MemPlace} (hv : Value.okWide Tryd.prog W .any 0 25 v)
    (h : DataW.Trod enc Tryd.prog W 0 (fun _ => true) true 25 v d p) (hw : (d.weights Tryd.prog 25).all (· ≤ reachBytes) = true) : ∃ x ss A c B e, v = askV x ss A c B e ∧ AskR W x ss A c B e := by
  obtain ⟨v0, v1, y0, y1, n, rfl, rfl, _, h0, h1⟩ := open_agg2 Tryd.underlying25 (by kernel_rfl) (by kernel_rfl) hv h
  obtain ⟨x, A, c, q0, l0, m0, k0, e0⟩ := trees_of _ _ _ h0
  obtain ⟨ss, B, e, q1, l1, m1, k1, e1⟩ := strings_of h1
  simp only [List.cons.injEq, and_true] at q0 q1
  subst q0 q1
  rw [List.all_eq_true] at hw
  have hall : ∀ m, (m ∈ y0.1.weights Tryd.prog 22 ∨ m ∈ y1.1.weights Tryd.prog 23) → m ≤ reachBytes := by
    intro m hm
    have := hw m (by
      rw [DataW.weights, Tryd.underlying25]
      show m ∈ DataW.weightsEach _ [22, 23] [y0.1, y1.1]
      simp only [DataW.weightsEach, List.append_nil, List.mem_append]
      exact hm)
    simpa using this
  refine ⟨x, ss, A, c, B, e, rfl, l0, m0, ?_, k0, l1, m1, ?_, k1, ?_⟩
  · rcases e0 with e0 | ⟨el, sp, e0, e2⟩
    · omega
    · have h2 := hall ((el.length + sp.length) * Tryd.prog.bytesOf 28) (.inl (by rw [e0, DataW.weights, Tryd.underlying22]; simp))
      rw [show Tryd.prog.bytesOf 28 = 40 by kernel_rfl] at h2
      unfold reachBytes at h2
      omega
  · rcases e1 with ⟨rfl, _⟩ | ⟨sp, e1⟩
    · simp
    · have h2 := hall (((ss.map fun s => (DataW.lit (.string s) : DataW H)).length + sp.length) * Tryd.prog.bytesOf 9) (.inr (by rw [e1, DataW.weights, Tryd.underlying23]; simp))
      rw [show Tryd.prog.bytesOf 9 = 16 by kernel_rfl, List.length_map] at h2
      unfold reachBytes at h2
      omega
  · intro s hs
    rcases e1 with ⟨rfl, _⟩ | ⟨sp, e1⟩
    · cases hs
    · have h2 := hall s.length (.inr (by
        rw [e1, DataW.weights, Tryd.underlying23]
        simp only [List.mem_cons, List.mem_append]
        right; left
        exact weights_all_mem _ _ (List.mem_map.2 ⟨s, hs, rfl⟩) _ (by simp [DataW.weights])))
      unfold reachBytes at h2
      omega
end Go.Proofs.YtgbgjecmamkdaaaDoor
