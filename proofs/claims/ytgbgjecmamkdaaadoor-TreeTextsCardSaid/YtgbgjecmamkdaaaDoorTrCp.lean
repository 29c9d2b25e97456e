/-
  The page's CopyTree, CopyTrees: the same in new memory.
-/
import Derived.Test.YtgbgjecmamkdaaaDoorTrRefV
namespace Go.Proofs.YtgbgjecmamkdaaaDoor
open Go.RowKit
set_option linter.unusedVariables false
set_option linter.unusedSimpArgs false
set_option maxRecDepth 100000
set_option maxHeartbeats 1000000

theorem keeps_some {G : List Nat} {w W : World} (k : Keeps G w W) (p : Addr) (v : Value) (h : w.cell? p = some v) (hg : p.block ∉ G) : W.cell? p = some v :=
  (World.cell?_of_block (k.block p.block (lt_of_cell h) hg)).trans h
/-- Trees lie from this place on, in blocks of P alone. -/
def RowP (P : Nat → Prop) (w : World) : Trs → Nat → Nat → Prop
  | .nil, _, _ => True
  | .cons op n kids rest, b, off => P b ∧ I64 op ∧ I64 n ∧ (∃ (A : Option Addr) (c : Nat), w.cell? ⟨b, off, none⟩ = some (.int .i64 op) ∧ w.cell? ⟨b, off + 1, none⟩ = some (.int .i64 n) ∧ w.cell? ⟨b, off + 2, none⟩ = some (.slice A kids.len c) ∧
      kids.len ≤ c ∧ c ≤ maxLen ∧ (0 < kids.len → ∃ b1 off1, A = some ⟨b1, off1, none⟩ ∧ RowP P w kids b1 off1)) ∧ RowP P w rest b (off + 3)
def KidP (P : Nat → Prop) (w : World) (x : Trs) (A : Option Addr) : Prop := 0 < x.len → ∃ b off, A = some ⟨b, off, none⟩ ∧ RowP P w x b off
theorem RowP.row {P : Nat → Prop} {w : World} : ∀ (x : Trs) (b off : Nat), RowP P w x b off → RowR w x b off := by
  intro x
  induction x with
  | nil => intro b off _; trivial
  | cons op n kids rest ihk ih =>
    rintro b off ⟨_, h1, h2, ⟨A, c, c0, c1, c2, hl, hc, hk⟩, hr⟩
    refine ⟨h1, h2, ⟨A, c, c0, c1, c2, hl, hc, fun h => ?_⟩, ih _ _ hr⟩
    obtain ⟨b1, off1, e, h3⟩ := hk h
    exact ⟨b1, off1, e, ihk _ _ h3⟩
theorem RowP.keep {P Q : Nat → Prop} {w W : World} (hw : ∀ p v, P p.block → w.cell? p = some v → W.cell? p = some v) (hq : ∀ b, P b → b < w.heap.size → Q b) : ∀ (x : Trs) (b off : Nat), RowP P w x b off → RowP Q W x b off := by
  intro x
  induction x with
  | nil => intro b off _; trivial
  | cons op n kids rest ihk ih =>
    rintro b off ⟨hp, h1, h2, ⟨A, c, c0, c1, c2, hl, hc, hk⟩, hr⟩
    refine ⟨hq _ hp (lt_of_cell c0), h1, h2, ⟨A, c, hw _ _ hp c0, hw _ _ hp c1, hw _ _ hp c2, hl, hc, fun h => ?_⟩, ih _ _ hr⟩
    obtain ⟨b1, off1, e, h3⟩ := hk h
    exact ⟨b1, off1, e, ihk _ _ h3⟩
theorem KidP.kid {P : Nat → Prop} {w : World} {x : Trs} {A : Option Addr} (h : KidP P w x A) : KidR w x A := fun h0 => by
  obtain ⟨b, off, e, h1⟩ := h h0
  exact ⟨b, off, e, h1.row _ _ _⟩
theorem KidP.keep {P Q : Nat → Prop} {w W : World} {x : Trs} {A : Option Addr} (h : KidP P w x A) (hw : ∀ p v, P p.block → w.cell? p = some v → W.cell? p = some v) (hq : ∀ b, P b → b < w.heap.size → Q b) : KidP Q W x A := fun h0 => by
  obtain ⟨b, off, e, h1⟩ := h h0
  exact ⟨b, off, e, h1.keep hw hq _ _ _⟩
def trC (t : Tr) (A : Option Addr) (c : Nat) : List Value := [.int .i64 t.op, .int .i64 t.n, .slice A t.kids.len c]
/-- Cells of trees, what hangs below them in blocks of P alone. -/
def TsP (P : Nat → Prop) (w : World) : Trs → List Value → Prop
  | .nil, xs => xs = []
  | .cons op n kids rest, xs => I64 op ∧ I64 n ∧ ∃ (A : Option Addr) (c : Nat) (xs' : List Value), xs = trC ⟨op, n, kids⟩ A c ++ xs' ∧ kids.len ≤ c ∧ c ≤ maxLen ∧ KidP P w kids A ∧ TsP P w rest xs'
theorem TsP.snoc {P : Nat → Prop} {w : World} {t : Tr} {A : Option Addr} {c : Nat} (h1 : I64 t.op) (h2 : I64 t.n) (h3 : t.kids.len ≤ c) (h4 : c ≤ maxLen) (h5 : KidP P w t.kids A) : ∀ (x : Trs) (xs : List Value), TsP P w x xs → TsP P w (x.snoc t) (xs ++ trC t A c) := by
  intro x
  induction x with
  | nil =>
    rintro xs rfl
    exact ⟨h1, h2, A, c, [], by simp, h3, h4, h5, rfl⟩
  | cons op n kids rest _ ih =>
    rintro xs ⟨g1, g2, B, d, xs', rfl, g3, g4, g5, g6⟩
    exact ⟨g1, g2, B, d, _, by simp, g3, g4, g5, ih _ g6⟩
theorem TsP.keep {P Q : Nat → Prop} {w W : World} (hw : ∀ p v, P p.block → w.cell? p = some v → W.cell? p = some v) (hq : ∀ b, P b → b < w.heap.size → Q b) : ∀ (x : Trs) (xs : List Value), TsP P w x xs → TsP Q W x xs := by
  intro x
  induction x with
  | nil => intro xs h; exact h
  | cons op n kids rest _ ih =>
    rintro xs ⟨g1, g2, B, d, xs', rfl, g3, g4, g5, g6⟩
    exact ⟨g1, g2, B, d, xs', rfl, g3, g4, g5.keep hw hq, ih _ g6⟩
theorem TsP.row {P Q : Nat → Prop} {w : World} (hq : ∀ b, P b → b < w.heap.size → Q b) {g : Nat} (hg : Q g) : ∀ (x : Trs) (xs : List Value) (off : Nat), TsP P w x xs → (∀ j u, xs[j]? = some u → w.cell? ⟨g, off + j, none⟩ = some u) → RowP Q w x g off := by
  intro x
  induction x with
  | nil => intro xs off _ _; trivial
  | cons op n kids rest _ ih =>
    rintro xs off ⟨g1, g2, B, d, xs', rfl, g3, g4, g5, g6⟩ hc
    refine ⟨hg, g1, g2, ⟨B, d, hc 0 _ rfl, hc 1 _ rfl, hc 2 _ rfl, g3, g4, fun h => ?_⟩, ih xs' (off + 3) g6 fun j u hu => ?_⟩
    · obtain ⟨b, off1, e, h1⟩ := g5 h
      exact ⟨b, off1, e, h1.keep (fun _ _ _ h => h) hq _ _ _⟩
    · have := hc (j + 3) u (by simpa [trC] using hu)
      rwa [show off + (j + 3) = off + 3 + j by omega] at this
theorem TsP.len {P : Nat → Prop} {w : World} : ∀ (x : Trs) (xs : List Value), TsP P w x xs → xs.length = x.len * 3 := by
  intro x
  induction x with
  | nil => rintro xs rfl; rfl
  | cons op n kids rest _ ih =>
    rintro xs ⟨g1, g2, B, d, xs', rfl, g3, g4, g5, g6⟩
    rw [List.length_append, ih _ g6]
    simp [trC, Trs.len]; omega
/-- What a call does that copies a tree. -/
def CpPost (t : Tr) (w : World) (e : Ending) (w' : World) : Prop := ∃ (A : Option Addr) (c : Nat), e = .returned (trV t A c) ∧ t.kids.len ≤ c ∧ c ≤ maxLen ∧ KidP (fun b => w.heap.size ≤ b) w' t.kids A ∧ Below w.heap.size w w'
def CpsPost (x : Trs) (w : World) (e : Ending) (w' : World) : Prop := ∃ (A : Option Addr) (c : Nat), e = .returned (.slice A x.len c) ∧ x.len ≤ c ∧ c ≤ maxLen ∧ KidP (fun b => w.heap.size ≤ b) w' x A ∧ Below w.heap.size w w'
def CpsC (n : Nat) : Prop := ∀ (x : Trs), x.size < n → x.size ≤ 1000000000 → ∀ (w : World) (A : Option Addr) (c : Nat), x.len ≤ c → c ≤ maxLen → KidR w x A → Calls Tryd.prog 23 #[.slice A x.len c] w (CpsPost x w)
theorem copyTree_step (n : Nat) (IH : CpsC n) (t : Tr) (ht : t.kids.size < n) (hs : t.kids.size ≤ 1000000000) (w : World) (A : Option Addr) (c : Nat) (hT : TrR w t A c) :
    Calls Tryd.prog 6 #[trV t A c] w (CpPost t w) := by
  have C := fun w1 (hb : Below w.heap.size w w1) => Lib.hid (IH t.kids ht hs w1 A c hT.le hT.cap (hT.kid.low hb))
  clear hT ht hs
  obtain ⟨op, nn, kids⟩ := t
  go_enter Tryd.func6, Tryd.ntmps6
  go_wp2_with fail
  refine (C _ (Keeps.au (G := [])).below).out.mono ?_
  rintro e w1 ⟨B, d, rfl, q1, q2, q3, hb⟩
  have O1 : OwnB w1 (w.heap.size + 1) #[.int .i64 0, .int .i64 0, .slice none 0 0] 28 := OwnB.call (G := []) OwnB.au (Keeps.of_below hb) (by simp)
  have O2 : OwnB w1 (w.heap.size + 1 + 1) #[.int .i64 op, .int .i64 nn, .slice A kids.len c] 28 := OwnB.call (G := []) OwnB.au (Keeps.of_below hb) (by simp)
  obtain ⟨y1, x1, z1⟩ := O1.facts
  obtain ⟨y2, x2, z2⟩ := O2.facts
  have hz := hb.size
  simp only [World.size_alloc] at hz
  have Q1 := Lib.hid q1
  have Q2 := Lib.hid q2
  have Q3 := Lib.hid q3
  have HB := Lib.hid (((Keeps.au (G := [])).trans (Keeps.of_below hb)).below : Below w.heap.size w w1)
  clear hb q1 q2 q3
  go_wp2_with fail
  refine bodyPost_ret (v := trV ⟨op, nn, kids⟩ B d) (by simp [results, Tryd.results6, go_sem, *]) rfl ?_
  refine ⟨B, d, rfl, Q1.out, Q2.out, Q3.out.keep (fun p v hp h => keeps_some (Keeps.au (G := [w.heap.size + 1, w.heap.size + 1 + 1])) p v h (by simp only [World.size_alloc] at hp; simp; omega)) (fun b hb _ => by simp only [World.size_alloc] at hb; omega), ?_⟩
  exact ((Keeps.of_below (G := []) HB.out).then_ (H := [w.heap.size + 1, w.heap.size + 1 + 1]) Keeps.au (by simp <;> omega)).below
theorem infoTr : (Tryd.prog.info? 28).map (fun i => (i.zero, i.size, i.bytes)) = some (some (.agg #[.int .i64 0, .int .i64 0, .slice none 0 0]), 3, 40) := by kernel_rfl
theorem rebase {w : World} {base base' n : Nat} {T : TypeId} {sz : Nat} {v : Value} {xs : List Value} (h : w.ownsRow base T sz v n xs) (hb : ∀ b, v.ownBlock = some b → base' ≤ b) : w.ownsRow base' T sz v n xs := by
  refine ⟨h.1, ?_⟩
  rcases h.2 with h2 | ⟨g, cap, cur, rfl, a, b, c⟩
  · exact .inl h2
  · exact .inr ⟨g, cap, cur, rfl, hb g rfl, b, c⟩
theorem ownsRow_at {w w' : World} {base n : Nat} {T : TypeId} {sz : Nat} {v : Value} {xs : List Value} (h : w.ownsRow base T sz v n xs) (hb : ∀ b, v.ownBlock = some b → b < w.heap.size → w'.heap[b]? = w.heap[b]?) : w'.ownsRow base T sz v n xs := by
  refine ⟨h.1, ?_⟩
  rcases h.2 with h2 | ⟨g, cap, cur, rfl, a, b, c⟩
  · exact .inl h2
  · exact .inr ⟨g, cap, cur, rfl, a, by rw [hb g rfl (lt_of_blk b)]; exact b, c⟩
theorem own_lt {w : World} {base n : Nat} {T : TypeId} {sz : Nat} {v : Value} {xs : List Value} (h : w.ownsRow base T sz v n xs) : ∀ b, v.ownBlock = some b → base ≤ b ∧ b < w.heap.size := by
  rcases h.2 with ⟨rfl, _⟩ | ⟨g, cap, cur, rfl, a, b, _⟩
  · intro b hb; cases hb
  · intro b' hb'
    obtain rfl : g = b' := Option.some.inj hb'
    exact ⟨a, lt_of_blk b⟩
theorem own_get {w : World} {base : Nat} {T : TypeId} {sz n : Nat} {v : Value} {xs : List Value} (h : w.ownsRow base T sz v n xs) (hn : 0 < n) : ∃ g cap, v = .slice (some ⟨g, 0, none⟩) n cap ∧ base ≤ g ∧ n ≤ cap ∧ cap ≤ maxLen ∧ ∀ j u, xs[j]? = some u → w.cell? ⟨g, j, none⟩ = some u := by
  rcases h.2 with ⟨_, h0⟩ | ⟨g, cap, cur, rfl, a, hb, hc, hm, hs, ht⟩
  · omega
  · refine ⟨g, cap, rfl, a, hc, hm, fun j u hu => ?_⟩
    rw [cellB hb, ← Array.getElem?_toList]
    rw [← ht, List.getElem?_take] at hu
    split at hu
    · exact hu
    · cases hu
/-- A copied row: k trees in new memory. -/
structure CpRow (lo : Nat) (x : Trs) (k : Nat) (v : Value) (w : World) : Prop where
  row : ∃ xs, w.ownsRow lo 28 3 v k xs ∧ TsP (fun b => lo ≤ b ∧ some b ≠ v.ownBlock) w (Trs.ofL (x.toL.take k)) xs
theorem CpRow.below {lo : Nat} {x : Trs} {k : Nat} {v : Value} {w W : World} (h : CpRow lo x k v w) (hb : Below w.heap.size w W) : CpRow lo x k v W := by
  obtain ⟨xs, h1, h2⟩ := h.row
  exact ⟨xs, ownsRow_at h1 (fun b _ hl => hb.block b hl), h2.keep (fun p v _ h => below_some hb p v h) (fun b hp _ => hp) _ _⟩
/-- One more. -/
theorem CpRow.more {lo : Nat} {x : Trs} {k : Nat} {v : Value} {W : World} {t : Tr} {A : Option Addr} {c lo2 : Nat} (h : CpRow lo x k v W) (ht : x.toL[k]? = some t) (h1 : I64 t.op) (h2 : I64 t.n) (h3 : t.kids.len ≤ c) (h4 : c ≤ maxLen) (h5 : KidP (fun b => lo2 ≤ b) W t.kids A)
    (hlo : lo ≤ lo2) (hv : ∀ b, v.ownBlock = some b → b < lo2) : ∃ xs, W.ownsRow lo 28 3 v k xs ∧
    ∀ (g cap : Nat) (w' : World), w'.ownsRow lo 28 3 (.slice (some ⟨g, 0, none⟩) (k + 1) cap) (k + 1) (xs ++ trC t A c) → W.grownBy w' v.ownBlock → (v.ownBlock = some g ∨ g = W.heap.size) → CpRow lo x (k + 1) (.slice (some ⟨g, 0, none⟩) (k + 1) cap) w' := by
  obtain ⟨xs, r1, r2⟩ := h.row
  refine ⟨xs, r1, fun g cap w' r3 hg hgo => ⟨_, r3, ?_⟩⟩
  have r4 := TsP.snoc h1 h2 h3 h4 (h5.keep (Q := fun b => lo ≤ b ∧ some b ≠ v.ownBlock) (fun _ _ _ h => h) (fun b hb _ => ⟨by omega, fun e => by have := hv b e.symm; omega⟩)) _ _ r2
  rw [ofL_take_succ ht]
  refine r4.keep (fun p u hp hu => ?_) (fun b hp hl => ⟨hp.1, fun e => ?_⟩) _ _
  · exact (World.cell?_of_block (hg.block p.block (lt_of_cell hu) hp.2)).trans hu
  · have e2 : b = g := Option.some.inj e
    rcases hgo with hgo | hgo
    · exact hp.2 (by rw [e2, hgo])
    · omega
theorem wpList_appendT {ops : Array Oper} {rest : List Oper} {o : Oper} {a : Act} {Q : Exit → Act → World → Prop} {W : World} (hgd : o.guard = none) (sO xO : Operand)
    (ho : o.op = .call { callee := .builtin .append, args := #[sO, xO], argTypes := #[22, 22] })
    {lo n : Nat} {av : Option Addr} {cap gb cb : Nat} {xs zs : List Value} (hs : a.eval sO = .slice av n cap) (hx : a.eval xO = .slice (some ⟨gb, 0, none⟩) 1 cb)
    (hrow : W.ownsRow lo 28 3 (.slice av n cap) n xs) (hb : OwnB W gb zs.toArray 28) (hzl : zs.length = 3) (hone : ∀ u ∈ zs, u.oneCell' = true) (hlo : lo ≤ W.heap.size) (hlen : n ≤ 1000000000)
    (hK : ∀ g cap' w', w'.ownsRow lo 28 3 (.slice (some ⟨g, 0, none⟩) (n + 1) cap') (n + 1) (xs ++ zs) → W.grownBy w' (Value.slice av n cap).ownBlock → ((Value.slice av n cap).ownBlock = some g ∨ g = W.heap.size) →
      wpList Tryd.prog ops Q rest (a.put o.dst (.slice (some ⟨g, 0, none⟩) (n + 1) cap')) w') :
    wpList Tryd.prog ops Q (o :: rest) a W := by
  obtain ⟨i0, hinf, hz⟩ : ∃ i, Tryd.prog.info? 28 = some i ∧ (i.zero, i.size, i.bytes) = (some (.agg #[.int .i64 0, .int .i64 0, .slice none 0 0]), 3, 40) := by
    have := infoTr
    cases hq : Tryd.prog.info? 28 with
    | none => simp [hq] at this
    | some i => exact ⟨i, rfl, by simpa [hq] using this⟩
  simp only [Prod.mk.injEq] at hz
  obtain ⟨hz0, hz1, hz2⟩ := hz
  refine wpList_append_lies W hgd sO xO 22 ho lo 28 i0 _ 3 40 Tryd.underlying22 hinf hz0 hz1 hz2 rfl (by decide) _ n xs hs hrow ⟨gb, 0, none⟩ 1 cb zs hx (by omega)
    (World.news_of_block hb.blk) hone (by decide) (by unfold maxLen; omega) (by omega) hlo _ rfl ?_
  intro g cap' w' hown' hgr hg hgw
  exact hK g cap' w' hown' hgr hg
theorem below_grown {lo n : Nat} {T : TypeId} {sz : Nat} {v : Value} {xs : List Value} {w W w' : World} (hB : Below lo w W) (hlo : lo ≤ W.heap.size) (hr : W.ownsRow lo T sz v n xs) (hg : W.grownBy w' v.ownBlock) : Below lo w w' :=
  hB.trans ⟨hg.os, hg.tape, hg.output, hg.size, fun b h1 => hg.block b (Nat.lt_of_lt_of_le h1 hlo) (fun e => by have := (own_lt hr b e.symm).1; omega)⟩
theorem trC_one (t : Tr) (A : Option Addr) (c : Nat) : ∀ u ∈ trC t A c, u.oneCell' = true := by
  intro u hu
  simp only [trC, List.mem_cons, List.not_mem_nil, or_false] at hu
  rcases hu with rfl | rfl | rfl <;> rfl
theorem copyTrees_step (n : Nat) (IH : CpsC n) : CpsC (n + 1) := by
  intro x hx hs w A c l1 m1 k1
  have HK := Lib.hid k1
  have HX := Lib.hid hx
  have HS := Lib.hid hs
  unfold maxLen at m1
  clear k1 hx hs
  go_enter Tryd.func23, Tryd.ntmps23
  go_wp2_with fail
  go_loopw [3, 4, 5, 6, 7, 8, 9, 10, 11, 12, 13, 14, 15, 16, 17, 18] (fun lv i _ _ _ _ _ _ _ _ _ _ _ _ _ _ wr => ∃ (k : Nat) (la : Option Addr) (lc : Nat), k ≤ x.len ∧ i = .int .i64 k ∧ lv = .slice la k lc ∧ CpRow w.heap.size x k (.slice la k lc) wr ∧ Below w.heap.size w wr) (fun _ i _ _ _ _ _ _ _ _ _ _ _ _ _ _ _ => x.len - (intOf i).toNat)
  case atStart => exact ⟨0, none, 0, by omega, rfl, rfl, ⟨[], World.ownsRow_nil _ _ _ _, rfl⟩, Below.refl _ _⟩
  case round =>
    obtain ⟨k, la, lc, hk, rfl, rfl, hR, hb⟩ := hrel
    have HB := Lib.hid hb
    have HR := Lib.hid hR
    have hlo := hb.size
    clear hR
    by_cases hlt : k < x.len
    · have hd1 : decide ((k : Int) < (x.len : Int)) = true := by simp; omega
      have hk0 : (0 : Int) ≤ (k : Int) := by omega
      have hk1 : (k : Int) < (x.len : Int) := by omega
      obtain ⟨t2, b, off, D, c2, hget, rfl, hbs, f0, f1, f2, hT2⟩ := (HK.out.low hb).get hlt
      have hkl : k ≤ 1000000000 := by have := Trs.len_size x; have := HS.out; omega
      have hm := Trs.size_mem x t2 (List.mem_of_getElem? hget)
      have CE := Lib.hid (copyTree_step n IH t2 (by have := HX.out; omega) (by have := HS.out; omega) wr D c2 hT2)
      have HO := Lib.hid hT2.op
      have HN := Lib.hid hT2.n
      have HG := Lib.hid hget
      clear hget hT2 hb hm
      obtain ⟨op2, n2, kids2⟩ := t2
      simp only at f0 f1 f2
      go_wp2_with fail
      refine CE.out.mono ?_
      rintro e1 w1 ⟨B, d, rfl, q1, q2, q3, hb1⟩
      have HR1 := (HR.out.below hb1).below (((Below.refl w1.heap.size w1).alloc (Nat.le_refl _) (.cells (trC ⟨op2, n2, kids2⟩ B d).toArray 28 (0, 0))))
      have hown : ∀ b, (Value.slice la k lc).ownBlock = some b → b < wr.heap.size := fun b hb => by
        obtain ⟨xs, r1, _⟩ := HR.out.row
        exact (own_lt r1 b hb).2
      obtain ⟨xs, r1, r2⟩ := HR1.more (lo2 := wr.heap.size) HG.out HO.out HN.out q1 q2 (q3.keep (W := w1.alloc (.cells (trC ⟨op2, n2, kids2⟩ B d).toArray 28 (0, 0))) (fun p v _ h => below_some ((Below.refl w1.heap.size w1).alloc (Nat.le_refl _) _) p v h) (fun b hb _ => hb)) hlo hown
      have R2 := Lib.hid r2
      have HB1 := Lib.hid (HB.out.trans (hb1.mono hlo))
      have hz1 := HB1.out.size
      have hnews : OwnB (w1.alloc (.cells (trC ⟨op2, n2, kids2⟩ B d).toArray 28 (0, 0))) w1.heap.size (trC ⟨op2, n2, kids2⟩ B d).toArray 28 := OwnB.new rfl
      have hlo2 : w.heap.size ≤ (w1.alloc (.cells (trC ⟨op2, n2, kids2⟩ B d).toArray 28 (0, 0))).heap.size := by rw [World.size_alloc]; omega
      have HB2 := Lib.hid (HB1.out.alloc hz1 (.cells (trC ⟨op2, n2, kids2⟩ B d).toArray 28 (0, 0)))
      clear r2 q1 q2 q3 hb1 HR1 hown
      go_wp2_with (at_builtin; refine wpList_appendT rfl _ _ rfl rfl rfl r1 hnews rfl (trC_one _ _ _) hlo2 hkl ?_; intro g2 cap' w2 hrow3 hgr hgo)
      have HR3 := R2.out g2 cap' w2 hrow3 hgr hgo
      have HB3 : Below w.heap.size w w2 := below_grown HB2.out hlo2 r1 hgr
      go_roundw
      case measure => simp [intOf]; omega
      case rel => exact ⟨k + 1, some ⟨g2, 0, none⟩, cap', by omega, by simp, rfl, HR3, HB3⟩
    · have hk2 : k = x.len := by omega
      subst hk2
      go_wp2_with fail
      go_ret
      obtain ⟨xs, r1, r2⟩ := HR.out.row
      rw [List.take_of_length_le (by rw [Trs.toL_len]; exact Nat.le_refl _), Trs.ofL_toL] at r2
      rcases Nat.eq_zero_or_pos x.len with h0 | h0
      · rcases r1.2 with ⟨e, _⟩ | ⟨g, cap, cur, e, _, _, h1, h2, _⟩
        · injection e with e1 e2 e3
          exact ⟨la, lc, rfl, by omega, by rw [e3]; exact Nat.zero_le _, fun h => absurd h (by omega), HB.out⟩
        · injection e with e1 e2 e3
          exact ⟨la, lc, rfl, by omega, by rw [e3]; exact h2, fun h => absurd h (by omega), HB.out⟩
      · obtain ⟨g, cap, e, h1, h2, h3, h4⟩ := own_get r1 h0
        injection e with e1 e2 e3
        subst e1 e3
        exact ⟨_, _, rfl, h2, h3, fun _ => ⟨g, 0, rfl, r2.row (fun b hb _ => hb.1) h1 _ _ 0 (fun j u hu => by rw [Nat.zero_add]; exact h4 j u hu)⟩, HB.out⟩
theorem copyTrees_any : ∀ n, CpsC n := by
  intro n
  induction n with
  | zero => intro t h; exact absurd h (by omega)
  | succ n ih => exact copyTrees_step n ih
theorem copyTree_any (t : Tr) (hs : t.kids.size ≤ 1000000000) (w : World) (A : Option Addr) (c : Nat) (hT : TrR w t A c) : Calls Tryd.prog 6 #[trV t A c] w (CpPost t w) :=
  copyTree_step _ (copyTrees_any _) t (Nat.lt_succ_self _) hs w A c hT
end Go.Proofs.YtgbgjecmamkdaaaDoor
