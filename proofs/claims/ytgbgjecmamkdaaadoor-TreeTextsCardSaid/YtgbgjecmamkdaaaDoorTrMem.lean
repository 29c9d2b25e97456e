/-
  Memory: what a walk keeps, own blocks; trees that lie in memory.
-/
import Derived.Test.YtgbgjecmamkdaaaDoorTrEval
import Derived.Test.YtgbgjecmamkdaaaDoorChecked
import Derived.Below
import Derived.OwnWalk
import Derived.Deep.AppendLies
import Derived.Deep.RegionHeld3
import Derived.Deep.QuietTactic
import Derived.Deep.LoopGhost
import Derived.BigQuiet
import Derived.RegionTactic
import Derived.BigRegion
import Derived.LoopTactic
import Derived.BigGuard
import Derived.Outline
import Derived.Lib.Hide
import Derived.WalkSpells
import Derived.WalkKit
namespace Go.Proofs.YtgbgjecmamkdaaaDoor
open Go.RowKit
set_option linter.unusedVariables false

theorem cellB {w1 : World} {g : Nat} {cs : Array Value} {T : TypeId} (h : w1.heap[g]? = some (.cells cs T (0, 0))) (i : Nat) : w1.cell? ⟨g, i, none⟩ = cs[i]? := cell_of_row w1 g i cs T (0, 0) h
theorem frozB {w1 : World} {g : Nat} {cs : Array Value} {T : TypeId} (h : w1.heap[g]? = some (.cells cs T (0, 0))) (i : Nat) : w1.frozen? ⟨g, i, none⟩ = false := by simp [World.frozen?, h]
/-- Below the world's own size only the blocks of G may have changed. -/
structure Keeps (G : List Nat) (w w' : World) : Prop where
  os : w'.os = w.os
  tape : w'.tape = w.tape
  output : w'.output = w.output
  size : w.heap.size ≤ w'.heap.size
  block : ∀ k, k < w.heap.size → k ∉ G → w'.heap[k]? = w.heap[k]?
theorem Keeps.of_below {G : List Nat} {w w' : World} (h : Below w.heap.size w w') : Keeps G w w' := ⟨h.os, h.tape, h.output, h.size, fun k hk _ => h.block k hk⟩
theorem Keeps.below {w w' : World} (h : Keeps [] w w') : Below w.heap.size w w' := ⟨h.os, h.tape, h.output, h.size, fun k hk => h.block k hk (by simp)⟩
theorem Keeps.refl (G : List Nat) (w : World) : Keeps G w w := ⟨rfl, rfl, rfl, Nat.le_refl _, fun _ _ _ => rfl⟩
theorem Keeps.trans {G : List Nat} {a b c : World} (h : Keeps G a b) (k : Keeps G b c) : Keeps G a c :=
  ⟨k.os.trans h.os, k.tape.trans h.tape, k.output.trans h.output, Nat.le_trans h.size k.size, fun i hi hg => (k.block i (Nat.lt_of_lt_of_le hi h.size) hg).trans (h.block i hi hg)⟩
theorem lt_of_blk {w : World} {k : Nat} {o : Obj} (h : w.heap[k]? = some o) : k < w.heap.size := by
  rcases Nat.lt_or_ge k w.heap.size with h1 | h1
  · exact h1
  · rw [Array.getElem?_eq_none h1] at h; cases h
theorem Keeps.alloc {G : List Nat} {w w' : World} (h : Keeps G w w') (o : Obj) : Keeps G w (w'.alloc o) :=
  ⟨h.os, h.tape, h.output, by have := h.size; rw [World.size_alloc]; omega, fun k hk hg => by
    have h1 := h.block k hk hg
    rw [← h1]
    show (w'.heap.push o)[k]? = _
    rw [Array.getElem?_push, if_neg (by have := h.size; omega)]⟩
theorem Keeps.drew {G : List Nat} {w w' : World} (h : Keeps G w w') : Keeps G w w'.drew := ⟨h.os, h.tape, h.output, h.size, h.block⟩
theorem Keeps.drewN {G : List Nat} {w w' : World} (h : Keeps G w w') (n : Nat) : Keeps G w (w'.drewN n) := ⟨h.os, h.tape, h.output, h.size, h.block⟩
/-- A store into a block of G, or into a new one. -/
theorem Keeps.setCell {G : List Nat} {w w' : World} (h : Keeps G w w') (a : Addr) (ha : w.heap.size ≤ a.block ∨ a.block ∈ G) (v : Value) : Keeps G w (w'.setCell a v) :=
  ⟨h.os, h.tape, h.output, by have := h.size; rw [World.size_setCell]; omega, fun k hk hg => by
    rw [← h.block k hk hg]
    refine Below.heap_setCell w' a v k ?_
    rintro rfl
    rcases ha with ha | ha
    · omega
    · exact hg ha⟩
theorem Keeps.mono {G H : List Nat} {w w' : World} (h : Keeps G w w') (hh : ∀ k ∈ G, k ∈ H) : Keeps H w w' := ⟨h.os, h.tape, h.output, h.size, fun k hk hg => h.block k hk (fun x => hg (hh k x))⟩
theorem Keeps.empty {G : List Nat} {w w' : World} (h : Keeps [] w w') : Keeps G w w' := h.mono (by simp)
/-- What a walk keeps, step by step of its worlds. -/
theorem Keeps.au {G : List Nat} {w w' : World} (h : Keeps G w w' := by repeat (first | with_reducible exact Keeps.refl _ _ | with_reducible refine Keeps.alloc ?_ _ | with_reducible refine Keeps.drew ?_ | with_reducible refine Keeps.drewN ?_ _ | with_reducible refine Keeps.setCell ?_ _ ?_ _ | exact Or.inr (List.Mem.head _) | exact Or.inr (List.Mem.tail _ (List.Mem.head _)) | exact Or.inr (List.Mem.tail _ (List.Mem.tail _ (List.Mem.head _))) | exact Or.inr (List.Mem.tail _ (List.Mem.tail _ (List.Mem.tail _ (List.Mem.head _)))) | exact Or.inr (List.Mem.tail _ (List.Mem.tail _ (List.Mem.tail _ (List.Mem.tail _ (List.Mem.head _))))) | exact Or.inr (List.Mem.tail _ (List.Mem.tail _ (List.Mem.tail _ (List.Mem.tail _ (List.Mem.tail _ (List.Mem.head _)))))) | exact Or.inr (List.Mem.tail _ (List.Mem.tail _ (List.Mem.tail _ (List.Mem.tail _ (List.Mem.tail _ (List.Mem.tail _ (List.Mem.head _))))))) | (left; dsimp only; omega))) : Keeps G w w' := h
/-- What a part of a walk keeps is kept by the walk, if it writes into new blocks besides. -/
theorem Keeps.then_ {G H : List Nat} {a b c : World} (h : Keeps G a b) (k : Keeps H b c) (hh : ∀ x ∈ H, x ∈ G ∨ a.heap.size ≤ x) : Keeps G a c :=
  ⟨k.os.trans h.os, k.tape.trans h.tape, k.output.trans h.output, Nat.le_trans h.size k.size, fun i hi hg => (k.block i (Nat.lt_of_lt_of_le hi h.size) (fun hx => by
    rcases hh i hx with h1 | h1
    · exact hg h1
    · omega)).trans (h.block i hi hg)⟩
theorem Keeps.own {G : List Nat} {w w' : World} (h : Keeps G w w') (b : Nat) (hb : b < w.heap.size) (hg : b ∉ G) :
    (∀ i, w'.cell? ⟨b, i, none⟩ = w.cell? ⟨b, i, none⟩) ∧ (∀ i, w'.frozen? ⟨b, i, none⟩ = w.frozen? ⟨b, i, none⟩) := by
  have e := h.block b hb hg
  exact ⟨fun i => by simp [World.cell?, e], fun i => by simp [World.frozen?, e]⟩
/-- Block b holds these cells. -/
structure OwnB (w : World) (b : Nat) (cs : Array Value) (T : TypeId) : Prop where
  blk : w.heap[b]? = some (.cells cs T (0, 0))
section
variable {w w' : World} {b : Nat} {cs : Array Value} {T : TypeId} {G : List Nat}
theorem OwnB.new (hb : b = w.heap.size) : OwnB (w.alloc (.cells cs T (0, 0))) b cs T := by subst hb; exact ⟨by show (w.heap.push _)[w.heap.size]? = _; simp⟩
theorem OwnB.alloc (h : OwnB w b cs T) (o : Obj) : OwnB (w.alloc o) b cs T := ⟨(((Keeps.refl [] w).alloc o).block b (lt_of_blk h.blk) (by simp)).trans h.blk⟩
theorem OwnB.drew (h : OwnB w b cs T) : OwnB w.drew b cs T := ⟨h.blk⟩
theorem OwnB.drewN (h : OwnB w b cs T) (n : Nat) : OwnB (w.drewN n) b cs T := ⟨h.blk⟩
theorem OwnB.setCell (h : OwnB w b cs T) (a : Addr) (v : Value) (hne : a.block ≠ b) : OwnB (w.setCell a v) b cs T := ⟨(Below.heap_setCell w a v b (fun e => hne e.symm)).trans h.blk⟩
theorem OwnB.call (h : OwnB w b cs T) (k : Keeps G w w') (hg : b ∉ G) : OwnB w' b cs T := ⟨(k.block b (lt_of_blk h.blk) hg).trans h.blk⟩
theorem OwnB.facts (h : OwnB w b cs T) : (∀ i, w.cell? ⟨b, i, none⟩ = cs[i]?) ∧ (∀ i, w.frozen? ⟨b, i, none⟩ = false) ∧ b < w.heap.size := ⟨cellB h.blk, frozB h.blk, lt_of_blk h.blk⟩
end
/-- An own block, through a walk's steps. -/
theorem OwnB.au {w : World} {b : Nat} {cs : Array Value} {T : TypeId} (h : OwnB w b cs T := by repeat (first | with_reducible assumption | (with_reducible refine OwnB.new ?_; (first | with_reducible rfl | (simp only [World.size_alloc, World.size_setCell, World.size_drew, World.heap_drewN]; done) | (simp only [World.size_alloc, World.size_setCell, World.size_drew, World.heap_drewN]; omega))) | with_reducible refine OwnB.alloc ?_ _ | with_reducible refine OwnB.drew ?_ | with_reducible refine OwnB.drewN ?_ _ | with_reducible refine OwnB.setCell ?_ _ _ ?_ | (dsimp only; omega) | omega)) : OwnB w b cs T := h
theorem lt_of_cell {w : World} {a : Addr} {v : Value} (h : w.cell? a = some v) : a.block < w.heap.size := by
  rcases Nat.lt_or_ge a.block w.heap.size with hl | hg
  · exact hl
  · have : w.heap[a.block]? = none := Array.getElem?_eq_none hg
    simp [World.cell?, this] at h
theorem below_some {w W : World} (hb : Below w.heap.size w W) (p : Addr) (v : Value) (h : w.cell? p = some v) : W.cell? p = some v := (hb.cell (lt_of_cell h)).trans h

/-- Trees lie from this place on. -/
def RowR (w : World) : Trs → Nat → Nat → Prop
  | .nil, _, _ => True
  | .cons op n kids rest, b, off => I64 op ∧ I64 n ∧ (∃ (A : Option Addr) (c : Nat), w.cell? ⟨b, off, none⟩ = some (.int .i64 op) ∧ w.cell? ⟨b, off + 1, none⟩ = some (.int .i64 n) ∧ w.cell? ⟨b, off + 2, none⟩ = some (.slice A kids.len c) ∧
      kids.len ≤ c ∧ c ≤ maxLen ∧ (0 < kids.len → ∃ b1 off1, A = some ⟨b1, off1, none⟩ ∧ RowR w kids b1 off1)) ∧ RowR w rest b (off + 3)
/-- A slice at this address holds these trees. -/
def KidR (w : World) (x : Trs) (A : Option Addr) : Prop := 0 < x.len → ∃ b off, A = some ⟨b, off, none⟩ ∧ RowR w x b off
/-- A tree, whose kids lie in memory. -/
structure TrR (w : World) (t : Tr) (A : Option Addr) (c : Nat) : Prop where
  op : I64 t.op
  n : I64 t.n
  le : t.kids.len ≤ c
  cap : c ≤ maxLen
  kid : KidR w t.kids A
abbrev trV (t : Tr) (A : Option Addr) (c : Nat) : Value := .agg #[.int .i64 t.op, .int .i64 t.n, .slice A t.kids.len c]
theorem RowR.get {w : World} : ∀ (x : Trs) (b off : Nat), RowR w x b off → ∀ (k : Nat) (t : Tr), x.toL[k]? = some t → ∃ (A : Option Addr) (c : Nat), w.cell? ⟨b, off + k * 3, none⟩ = some (.int .i64 t.op) ∧ w.cell? ⟨b, off + k * 3 + 1, none⟩ = some (.int .i64 t.n) ∧ w.cell? ⟨b, off + k * 3 + 2, none⟩ = some (.slice A t.kids.len c) ∧ TrR w t A c := by
  intro x
  induction x with
  | nil => intro b off _ k t h; simp [Trs.toL] at h
  | cons op n kids rest _ ih =>
    rintro b off ⟨h1, h2, ⟨A, c, c0, c1, c2, hl, hc, hk⟩, hr⟩ k t h
    cases k with
    | zero =>
      obtain rfl : (⟨op, n, kids⟩ : Tr) = t := by simpa [Trs.toL] using h
      exact ⟨A, c, by simpa using c0, by simpa using c1, by simpa using c2, h1, h2, hl, hc, hk⟩
    | succ k =>
      have := ih b (off + 3) hr k t (by simpa [Trs.toL] using h)
      have e : off + 3 + k * 3 = off + (k + 1) * 3 := by omega
      rwa [e] at this
theorem RowR.keep {w W : World} (hw : ∀ p v, w.cell? p = some v → W.cell? p = some v) : ∀ (x : Trs) (b off : Nat), RowR w x b off → RowR W x b off := by
  intro x
  induction x with
  | nil => intro b off _; trivial
  | cons op n kids rest ihk ih =>
    rintro b off ⟨h1, h2, ⟨A, c, c0, c1, c2, hl, hc, hk⟩, hr⟩
    refine ⟨h1, h2, ⟨A, c, hw _ _ c0, hw _ _ c1, hw _ _ c2, hl, hc, fun h => ?_⟩, ih _ _ hr⟩
    obtain ⟨b1, off1, e, h3⟩ := hk h
    exact ⟨b1, off1, e, ihk _ _ h3⟩
theorem KidR.low {w W : World} {x : Trs} {A : Option Addr} (h : KidR w x A) (hb : Below w.heap.size w W) : KidR W x A := fun h0 => by
  obtain ⟨b, off, e, h1⟩ := h h0
  exact ⟨b, off, e, h1.keep (below_some hb) _ _ _⟩
theorem TrR.low {w W : World} {t : Tr} {A : Option Addr} {c : Nat} (h : TrR w t A c) (hb : Below w.heap.size w W) : TrR W t A c := ⟨h.op, h.n, h.le, h.cap, h.kid.low hb⟩
/-- One of them. -/
theorem KidR.get {w : World} {x : Trs} {A : Option Addr} (h : KidR w x A) {k : Nat} (hk : k < x.len) : ∃ (t : Tr) (b off : Nat) (B : Option Addr) (c : Nat), x.toL[k]? = some t ∧ A = some ⟨b, off, none⟩ ∧ b < w.heap.size ∧
    w.cell? ⟨b, off + k * 3, none⟩ = some (.int .i64 t.op) ∧ w.cell? ⟨b, off + k * 3 + 1, none⟩ = some (.int .i64 t.n) ∧ w.cell? ⟨b, off + k * 3 + 2, none⟩ = some (.slice B t.kids.len c) ∧ TrR w t B c := by
  obtain ⟨b, off, e, h1⟩ := h (by omega)
  have hl : k < x.toL.length := by rw [Trs.toL_len]; exact hk
  obtain ⟨B, c, h2, h3, h4, h5⟩ := h1.get _ _ _ k _ (List.getElem?_eq_getElem hl)
  exact ⟨_, b, off, B, c, List.getElem?_eq_getElem hl, e, lt_of_cell h2, h2, h3, h4, h5⟩
theorem RowR.wf {w : World} : ∀ (x : Trs) (b off : Nat), RowR w x b off → wfL x := by
  intro x
  induction x with
  | nil => intro b off _; trivial
  | cons op n kids rest ihk ih =>
    rintro b off ⟨h1, h2, ⟨A, c, c0, c1, c2, hl, hc, hk⟩, hr⟩
    refine ⟨h2, ?_, ih _ _ hr⟩
    cases kids with
    | nil => trivial
    | cons _ _ _ _ =>
      obtain ⟨b1, off1, _, h3⟩ := hk (by simp [Trs.len])
      exact ihk _ _ h3
theorem KidR.wf {w : World} {x : Trs} {A : Option Addr} (h : KidR w x A) : wfL x := by
  cases x with
  | nil => trivial
  | cons _ _ _ _ =>
    obtain ⟨b1, off1, _, h3⟩ := h (by simp [Trs.len])
    exact h3.wf
theorem TrR.evalI {w : World} {t : Tr} {A : Option Addr} {c : Nat} (h : TrR w t A c) (ho : okT t = true) (hp : pureT t = true) : I64 (evalT t) := evalT_wf t ho hp h.n h.kid.wf
end Go.Proofs.YtgbgjecmamkdaaaDoor
