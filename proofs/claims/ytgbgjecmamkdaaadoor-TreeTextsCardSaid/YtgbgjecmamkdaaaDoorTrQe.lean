/-
  The page's reader: tree.
-/
import Derived.Test.YtgbgjecmamkdaaaDoorTrQd
import Derived.Test.YtgbgjecmamkdaaaDoorTrRef
namespace Go.Proofs.YtgbgjecmamkdaaaDoor
open Go.RowKit
set_option linter.unusedVariables false
set_option linter.unusedSimpArgs false
set_option maxRecDepth 100000
set_option maxHeartbeats 2000000

abbrev RdC (rest : List UInt8) (n : Int) : Array Value := #[.string ⟨rest.toArray⟩, .int .i64 n]
/-- What reading a tree does, by the page. -/
def QPost (w : World) (g : Nat) (rest : List UInt8) (n : Int) (e : Ending) (w' : World) : Prop :=
  ∃ (b : Bool) (t : Tr) (A : Option Addr) (c : Nat) (rest' : List UInt8) (n' : Int), e = .returned (.tuple #[trV t A c, .bool b]) ∧ OwnB w' g (RdC rest' n') 78 ∧ Keeps [g] w w' ∧ rest'.length ≤ rest.length ∧
    (b = true → I64 t.op ∧ I64 t.n ∧ t.kids.len ≤ c ∧ c ≤ maxLen ∧ KidP (fun k => w.heap.size ≤ k) w' t.kids A ∧ n < n' ∧ n' ≤ 200) ∧
    (∀ (t0 : Tr) (r : List UInt8), okT t0 = true → wfT t0 → rest = textT t0 ++ r → n + ((t0.kids.size + 1 : Nat) : Int) ≤ 200 → b = true ∧ t = t0 ∧ rest' = r ∧ n' = n + ((t0.kids.size + 1 : Nat) : Int))
def QC (m : Nat) : Prop := ∀ (w : World) (g : Nat) (rest : List UInt8) (n : Int), 200 - n < m → 0 ≤ n → n ≤ 200 → OwnB w g (RdC rest n) 78 → rest.length < 4294967281 →
  Calls Tryd.prog 38 #[.pointer (some ⟨g, 0, none⟩)] w (QPost w g rest n)
/-- Nothing is found. -/
theorem q_no {w W : World} {g : Nat} {rest r : List UInt8} {n n' : Int} (hO : OwnB W g (RdC r n') 78) (hK : Keeps [g] w W) (hl : r.length ≤ rest.length) (t : Tr) (A : Option Addr) (c : Nat)
    (hno : ∀ (t0 : Tr) (r : List UInt8), okT t0 = true → wfT t0 → rest = textT t0 ++ r → n + ((t0.kids.size + 1 : Nat) : Int) ≤ 200 → False) :
    QPost w g rest n (.returned (.tuple #[trV t A c, .bool false])) W :=
  ⟨false, t, A, c, r, n', rfl, hO, hK, hl, fun h => (by cases h), fun t0 r h1 h2 h3 h4 => (hno t0 r h1 h2 h3 h4).elim⟩
/-- A tree is found, or, if b is false, none. -/
theorem q_yes {w W : World} {g : Nat} {rest r : List UInt8} {n n' : Int} (hO : OwnB W g (RdC r n') 78) (hK : Keeps [g] w W) (hl : r.length ≤ rest.length) (b : Bool) (t : Tr) (A : Option Addr) (c : Nat)
    (h1 : I64 t.op) (h2 : I64 t.n) (h3 : t.kids.len ≤ c) (h4 : c ≤ maxLen) (h5 : KidP (fun k => w.heap.size ≤ k) W t.kids A) (h6 : n < n' ∧ n' ≤ 200)
    (hb : ∀ (t0 : Tr) (r' : List UInt8), okT t0 = true → wfT t0 → rest = textT t0 ++ r' → n + ((t0.kids.size + 1 : Nat) : Int) ≤ 200 → b = true ∧ t = t0 ∧ r = r' ∧ n' = n + ((t0.kids.size + 1 : Nat) : Int)) :
    QPost w g rest n (.returned (.tuple #[trV t A c, .bool b])) W :=
  ⟨b, t, A, c, r, n', rfl, hO, hK, hl, fun _ => ⟨h1, h2, h3, h4, h5, h6.1, h6.2⟩, hb⟩
/-- The head of a tree's text, read. -/
theorem page_head {rest a r1 : List UInt8} {b1 : Bool} {o : Int} (hU : ∀ a0 r0, rest = a0 ++ 40 :: r0 → (∀ x ∈ a0, x ≠ 40) → a = a0 ∧ b1 = true ∧ r1 = r0) (hP : ∀ k : Nat, 1 ≤ k → k ≤ 36 → a = wordV (k : Int) → o = k) :
    ∀ (t0 : Tr) (r : List UInt8), okT t0 = true → rest = textT t0 ++ r → b1 = true ∧ o = t0.op ∧ r1 = (if leafB t0.op then Lib.itoa t0.n else []) ++ (joinC (textsL t0.kids) ++ (41 :: r)) := by
  intro t0 r ho hr
  have ho0 := ho
  rw [okT] at ho
  simp only [Bool.and_eq_true] at ho
  have h1 := (node_op ho.1).1
  have h2 := (node_op ho.1).2.1
  obtain ⟨k, hk⟩ : ∃ k : Nat, t0.op = (k : Int) := ⟨t0.op.toNat, by omega⟩
  obtain ⟨e1, e2, e3⟩ := hU (wordV t0.op) ((if leafB t0.op then Lib.itoa t0.n else []) ++ (joinC (textsL t0.kids) ++ (41 :: r))) (by rw [hr, textT, headT]; simp [List.append_assoc]) (by rw [hk]; exact word_paren k (by omega))
  exact ⟨e2, by rw [hk]; exact hP k (by omega) (by omega) (by rw [e1, hk]), e3⟩
theorem OwnB.grown {W w' : World} {b : Nat} {cs : Array Value} {T : TypeId} {ob : Option Nat} (h : OwnB W b cs T) (hg : W.grownBy w' ob) (hne : some b ≠ ob) : OwnB w' b cs T := ⟨(hg.block b (lt_of_blk h.blk) hne).trans h.blk⟩
theorem Keeps.grown {w W w' : World} {G : List Nat} {ob : Option Nat} (h : Keeps G w W) (hg : W.grownBy w' ob) (hob : ∀ b, ob = some b → w.heap.size ≤ b) : Keeps G w w' :=
  ⟨hg.os.trans h.os, hg.tape.trans h.tape, hg.output.trans h.output, Nat.le_trans h.size hg.size, fun k hk hk2 => (hg.block k (Nat.lt_of_lt_of_le hk h.size) (fun e => by have := hob k e.symm; omega)).trans (h.block k hk hk2)⟩
/-- Kids that were read, in memory from lo on. -/
structure RdRow (lo : Nat) (x : Trs) (la : Option Addr) (k lc : Nat) (w : World) : Prop where
  row : ∃ xs, w.ownsRow lo 28 3 (.slice la k lc) k xs ∧ TsP (fun b => lo ≤ b ∧ some b ≠ (Value.slice la k lc).ownBlock) w x xs
theorem RdRow.kp {lo : Nat} {x : Trs} {la : Option Addr} {k lc : Nat} {w W : World} {G : List Nat} (h : RdRow lo x la k lc w) (hk : Keeps G w W) (hG : ∀ b ∈ G, b < lo) : RdRow lo x la k lc W := by
  obtain ⟨xs, h1, h2⟩ := h.row
  exact ⟨xs, ownsRow_at h1 (fun b hb hl => hk.block b hl (fun hg => by have := (own_lt h1 b hb).1; have := hG b hg; omega)), h2.keep (fun p v hp h => keeps_some hk p v h (fun hg => by have := hG _ hg; have := hp.1; omega)) (fun b hp _ => hp) _ _⟩
theorem RdRow.more {lo : Nat} {x : Trs} {la : Option Addr} {k lc : Nat} {W : World} {t : Tr} {A : Option Addr} {c lo2 : Nat} (h : RdRow lo x la k lc W) (h1 : I64 t.op) (h2 : I64 t.n) (h3 : t.kids.len ≤ c) (h4 : c ≤ maxLen) (h5 : KidP (fun b => lo2 ≤ b) W t.kids A)
    (hlo : lo ≤ lo2) (hv : ∀ b, (Value.slice la k lc).ownBlock = some b → b < lo2) : ∃ xs, W.ownsRow lo 28 3 (.slice la k lc) k xs ∧
    ∀ (g cap : Nat) (w' : World), w'.ownsRow lo 28 3 (.slice (some ⟨g, 0, none⟩) (k + 1) cap) (k + 1) (xs ++ trC t A c) → W.grownBy w' (Value.slice la k lc).ownBlock → ((Value.slice la k lc).ownBlock = some g ∨ g = W.heap.size) → RdRow lo (x.snoc t) (some ⟨g, 0, none⟩) (k + 1) cap w' := by
  obtain ⟨xs, r1, r2⟩ := h.row
  refine ⟨xs, r1, fun g cap w' r3 hg hgo => ⟨_, r3, ?_⟩⟩
  have r4 := TsP.snoc h1 h2 h3 h4 (h5.keep (Q := fun b => lo ≤ b ∧ some b ≠ (Value.slice la k lc).ownBlock) (fun _ _ _ h => h) (fun b hb _ => ⟨by omega, fun e => by have := hv b e.symm; omega⟩)) _ _ r2
  refine r4.keep (fun p u hp hu => ?_) (fun b hp hl => ⟨hp.1, fun e => ?_⟩) _ _
  · exact (World.cell?_of_block (hg.block p.block (lt_of_cell hu) hp.2)).trans hu
  · have e2 : b = g := Option.some.inj e
    rcases hgo with hgo | hgo
    · exact hp.2 (by rw [e2, hgo])
    · omega
theorem RdRow.kid {lo : Nat} {x : Trs} {la : Option Addr} {k lc base : Nat} {W : World} (h : RdRow lo x la k lc W) (hx : x.len = k) (h0 : 0 < k) (hb : base ≤ lo) : k ≤ lc ∧ lc ≤ maxLen ∧ KidP (fun b => base ≤ b) W x la := by
  obtain ⟨xs, r1, r2⟩ := h.row
  obtain ⟨g, cap, e, h1, h2, h3, h4⟩ := own_get r1 h0
  injection e with e1 e2 e3
  subst e1 e3
  exact ⟨h2, h3, fun _ => ⟨g, 0, rfl, r2.row (Q := fun b => base ≤ b) (fun b hb' _ => Nat.le_trans hb hb'.1) (Nat.le_trans hb h1) _ _ 0 (fun j u hu => by rw [Nat.zero_add]; exact h4 j u hu)⟩⟩
/-- What the kids that were read tell of the text. -/
def BK (r1 : List UInt8) (n1 : Int) (x : Trs) (rk : List UInt8) (nk : Int) : Prop := ∀ (x0 : Trs) (r' : List UInt8), x0.len = x.len → okL x0 = true → wfL x0 → r1 = joinC (textsL x0) ++ r' → n1 + (x0.size : Int) ≤ 200 → x = x0 ∧ rk = r' ∧ nk = n1 + (x0.size : Int)
/-- The state of the loop over the kids. -/
structure QSt (w : World) (g tb lo : Nat) (o : Int) (r1 : List UInt8) (n1 : Int) (wr : World) (k : Nat) (x : Trs) (la : Option Addr) (lc : Nat) (rk : List UInt8) (nk : Int) : Prop where
  own : OwnB wr g (RdC rk nk) 78
  tbo : OwnB wr tb #[.int .i64 o, .int .i64 0, .slice la k lc] 28
  rbo : OwnB wr w.heap.size #[.int .i64 0, .int .i64 0, .slice none 0 0] 28
  kp : Keeps [g] w wr
  row : RdRow lo x la k lc wr
  len : rk.length ≤ r1.length
  n0 : n1 ≤ nk
  n2 : nk ≤ 200
  xl : x.len = k
  bk : BK r1 n1 x rk nk
theorem BK.first {r1 : List UInt8} {n1 : Int} : BK r1 n1 .nil r1 n1 := by
  intro x0 r' h1 _ _ h2 _
  cases x0 with
  | nil => exact ⟨rfl, by simpa [textsL, joinC] using h2, by simp [Trs.size]⟩
  | cons _ _ _ _ => simp [Trs.len] at h1
theorem okT_of {op n : Int} {k r : Trs} (h : okL (.cons op n k r) = true) : okT ⟨op, n, k⟩ = true ∧ okL r = true := by
  rw [okL] at h
  simp only [Bool.and_eq_true] at h
  exact ⟨by rw [okT]; simp [h.1.1, h.1.2], h.2⟩
theorem BK.one {r1 rk rk2 : List UInt8} {n1 nk nk2 : Int} {t : Tr} (h : BK r1 n1 .nil rk nk)
    (hb : ∀ (t0 : Tr) (r : List UInt8), okT t0 = true → wfT t0 → rk = textT t0 ++ r → nk + ((t0.kids.size + 1 : Nat) : Int) ≤ 200 → t = t0 ∧ rk2 = r ∧ nk2 = nk + ((t0.kids.size + 1 : Nat) : Int)) : BK r1 n1 (.cons t.op t.n t.kids .nil) rk2 nk2 := by
  intro x0 r' h1 h2 h3 h4 h5
  match x0, h1 with
  | .cons a b k .nil, _ =>
    obtain ⟨_, e1, e2⟩ := h .nil r1 rfl rfl trivial (by simp [textsL, joinC]) (by simp only [Trs.size] at h5 ⊢; omega)
    simp only [Trs.size] at e2 h5
    obtain ⟨f1, f2, f3⟩ := hb ⟨a, b, k⟩ r' (okT_of h2).1 ⟨h3.1, h3.2.1⟩ (by rw [e1, h4]; simp [textsL, joinC, textT]) (by simp only; omega)
    subst f1
    exact ⟨rfl, f2, by rw [f3]; simp only [Trs.size]; omega⟩
theorem BK.kid0 {r1 rk : List UInt8} {n1 nk : Int} {x : Trs} (h : BK r1 n1 x rk nk) {x0 : Trs} {r' : List UInt8} (h0 : 1 ≤ x0.len) (h2 : okL x0 = true) (h3 : wfL x0) (h4 : r1 = joinC (textsL x0) ++ r') (h5 : n1 + (x0.size : Int) ≤ 200) (hx : x.len = 0 := by assumption) : ∃ (a : Tr) (rr : List UInt8), okT a = true ∧ wfT a ∧ rk = textT a ++ rr ∧ nk + ((a.kids.size + 1 : Nat) : Int) ≤ 200 := by
  obtain ⟨_, e1, e2⟩ := h .nil r1 (by rw [hx]; rfl) rfl trivial (by simp [textsL, joinC]) (by simp only [Trs.size]; omega)
  cases x0 with
  | nil => simp [Trs.len] at h0
  | cons a b k r =>
    simp only [Trs.size] at h5 e2
    refine ⟨⟨a, b, k⟩, (match textsL r with | [] => r' | c :: l => (44 :: 32 :: joinC (c :: l)) ++ r'), (okT_of h2).1, ⟨h3.1, h3.2.1⟩, ?_, by simp only; omega⟩
    rw [e1, h4]
    simp only [textsL]
    cases textsL r with
    | nil => simp [joinC, textT]
    | cons c l => simp [joinC, textT]
/-- Behind the first of two stands ", ". -/
theorem BK.sep {r1 rk : List UInt8} {n1 nk : Int} {x : Trs} (hx : x.len = 1) (h : BK r1 n1 x rk nk) {x0 : Trs} {r' : List UInt8} (h1 : x0.len = 2) (h2 : okL x0 = true) (h3 : wfL x0) (h4 : r1 = joinC (textsL x0) ++ r') (h5 : n1 + (x0.size : Int) ≤ 200) :
    ∃ a b : Tr, x0 = .cons a.op a.n a.kids (.cons b.op b.n b.kids .nil) ∧ x = .cons a.op a.n a.kids .nil ∧ rk = 44 :: 32 :: (textT b ++ r') ∧ okT b = true ∧ wfT b ∧ nk = n1 + ((a.kids.size + 1 : Nat) : Int) ∧ nk + ((b.kids.size + 1 : Nat) : Int) = n1 + (x0.size : Int) := by
  match x0, h1 with
  | .cons a b k (.cons a2 b2 k2 .nil), _ =>
    simp only [Trs.size] at h5
    obtain ⟨e1, e2, e3⟩ := h (.cons a b k .nil) (44 :: 32 :: (textT ⟨a2, b2, k2⟩ ++ r')) (by rw [hx]; rfl) (by rw [okL]; have := h2; rw [okL] at this; simp only [Bool.and_eq_true] at this; simp [this.1.1, this.1.2, okL]) ⟨h3.1, h3.2.1, trivial⟩ (by rw [h4]; simp [textsL, joinC, textT]) (by simp only [Trs.size]; omega)
    simp only [Trs.size] at e3 ⊢
    exact ⟨⟨a, b, k⟩, ⟨a2, b2, k2⟩, rfl, e1, e2, (okT_of (okT_of h2).2).1, ⟨h3.2.2.1, h3.2.2.2.1⟩, by omega, by simp only; omega⟩
theorem BK.two {r1 rk rk2 rk3 : List UInt8} {n1 nk nk2 : Int} {t : Tr} {x : Trs} (hx : x.len = 1) (h : BK r1 n1 x rk nk) (hd : rk = 44 :: 32 :: rk2)
    (hb : ∀ (t0 : Tr) (r : List UInt8), okT t0 = true → wfT t0 → rk2 = textT t0 ++ r → nk + ((t0.kids.size + 1 : Nat) : Int) ≤ 200 → t = t0 ∧ rk3 = r ∧ nk2 = nk + ((t0.kids.size + 1 : Nat) : Int)) : BK r1 n1 (x.snoc t) rk3 nk2 := by
  intro x0 r' h1 h2 h3 h4 h5
  rw [Trs.snoc_len, hx] at h1
  obtain ⟨a, b, e1, e2, e3, e4, e5, e6, e7⟩ := h.sep hx h1 h2 h3 h4 h5
  rw [hd] at e3
  injection e3 with _ e3
  injection e3 with _ e3
  obtain ⟨f1, f2, f3⟩ := hb b r' e4 e5 e3 (by omega)
  subst f1
  exact ⟨by rw [e1, e2]; rfl, f2, by omega⟩
theorem ari_kids {o : Int} (h : 4 < o) (h2 : o ≤ 36) : ∃ ar : Nat, ariV o = (ar : Int) ∧ 1 ≤ ar ∧ ar ≤ 2 := by
  unfold ariV
  by_cases h3 : 12 ≤ o ∧ o ≤ 30
  · exact ⟨2, by rw [if_neg (by omega), if_neg (by omega), if_pos h3]; rfl, by omega, by omega⟩
  · exact ⟨1, by rw [if_neg (by omega), if_pos (by omega)]; rfl, by omega, by omega⟩
theorem kid_head {t0 : Tr} {o : Int} {r1 r : List UInt8} (k1 : okT t0 = true) (h4 : 4 < o) (h : o = t0.op) (hr : r1 = (if leafB t0.op then Lib.itoa t0.n else []) ++ (joinC (textsL t0.kids) ++ (41 :: r))) : okL t0.kids = true ∧ t0.n = 0 ∧ r1 = joinC (textsL t0.kids) ++ (41 :: r) := by
  have k2 := k1
  rw [okT] at k1
  simp only [Bool.and_eq_true] at k1
  have h2 := k1.1
  unfold nodeB mayB at h2
  simp only [Bool.and_eq_true, Bool.or_eq_true, decide_eq_true_eq] at h2
  rw [if_neg (by omega)] at h2
  refine ⟨k1.2, ?_, ?_⟩
  · rcases h2.2 with h | h
    · omega
    · simpa using h
  · rw [hr, if_neg (by unfold leafB; simp; omega)]
    rfl
theorem leaf_text {rest r1 sd r2 : List UInt8} {b2 : Bool} {o : Int} (hB : ∀ (t0 : Tr) (r : List UInt8), okT t0 = true → rest = textT t0 ++ r → o = t0.op ∧ r1 = (if leafB t0.op then Lib.itoa t0.n else []) ++ (joinC (textsL t0.kids) ++ (41 :: r))) (h1 : 1 ≤ o) (h4 : o ≤ 4)
    (hV : ∀ a0 r0, r1 = a0 ++ 41 :: r0 → (∀ x ∈ a0, x ≠ 41) → sd = a0 ∧ b2 = true ∧ r2 = r0) (t0 : Tr) (r : List UInt8) (k1 : okT t0 = true) (k3 : rest = textT t0 ++ r) : o = t0.op ∧ b2 = true ∧ sd = Lib.itoa t0.n ∧ r2 = r ∧ t0.kids = .nil := by
  obtain ⟨e1, e2⟩ := hB t0 r k1 k3
  have h2 := (op_pos k1).2
  have hl : leafB t0.op = true := by unfold leafB; simp; omega
  have ha : ariV t0.op = 0 := by unfold ariV; rw [if_pos (by omega)]
  have hk : t0.kids = .nil := by
    cases h : t0.kids with
    | nil => rfl
    | cons _ _ _ _ =>
      rw [h, ha] at h2
      simp only [Trs.len] at h2
      omega
  rw [if_pos hl, hk] at e2
  obtain ⟨f1, f2, f3⟩ := hV (Lib.itoa t0.n) r e2 (itoa_paren _)
  exact ⟨e1, f2, f1, f3, hk⟩
theorem q_step (m : Nat) (IH : QC m) : QC (m + 1) := by
  intro w g rest n hn hn0 hn1 hO hlen
  obtain ⟨y0, x0, z0⟩ := hO.facts
  have hW1 : OwnB ((w.setCell ⟨g, 1, none⟩ (.int .i64 (n + 1))).alloc (.cells #[.int .i64 0, .int .i64 0, .slice none 0 0] 28)) g (RdC rest (n + 1)) 78 := (hO.set 1 _).alloc _
  have CU : Hid (Calls Tryd.prog 54 #[.pointer (some ⟨g, 0, none⟩), .int .u8 40] _ _) := Lib.hid (until_page g rest (n + 1) 40 _ hW1 hlen)
  have HO := Lib.hid hO
  have HL := Lib.hid hlen
  have hni : IntKind.i64.wrap (n + 1) = n + 1 := by simp [IntKind.wrap, IntKind.signed, IntKind.bits]; omega
  clear hO hlen hW1
  go_enter Tryd.func38, Tryd.ntmps38
  go_wp2_with fail
  refine CU.out.mono ?_
  rintro e w1 ⟨wd, r1, b1, rfl, hO1, hK1, hl1, hwl, hU⟩
  have hz1 := hK1.size
  simp only [World.size_alloc, World.size_setCell] at hz1
  have hR1 : OwnB w1 w.heap.size #[.int .i64 0, .int .i64 0, .slice none 0 0] 28 := OwnB.call (OwnB.new (by simp)) hK1 (by simp; omega)
  have hKw1 : Keeps [g] w w1 := (Keeps.au (G := [g])).trans hK1
  have HO1 := Lib.hid hO1
  have HR1 := Lib.hid hR1
  have HK1 := Lib.hid hKw1
  have HU := Lib.hid hU
  clear hO1 hR1 hK1 hKw1 hU CU
  have CO := Lib.hid (op_page wd w1)
  go_wp2_with fail
  refine CO.out.mono ?_
  rintro e w2 ⟨o, rfl, ho0, ho1, hP, hb2⟩
  have hbk := page_head HU.out hP
  have HBk := Lib.hid (fun (t0 : Tr) (r : List UInt8) (h1 : okT t0 = true) (h2 : rest = textT t0 ++ r) => hbk t0 r h1 h2)
  have hO2 : OwnB w2 g (RdC r1 (n + 1)) 78 := OwnB.call (G := []) HO1.out (Keeps.of_below hb2) (by simp)
  have hR2 : OwnB w2 w.heap.size #[.int .i64 0, .int .i64 0, .slice none 0 0] 28 := OwnB.call (G := []) HR1.out (Keeps.of_below hb2) (by simp)
  obtain ⟨y2, x2, z2⟩ := hO2.facts
  obtain ⟨y3, x3, z3⟩ := hR2.facts
  have HO2 := Lib.hid hO2
  have HR2 := Lib.hid hR2
  have HK2 := Lib.hid (HK1.out.trans (Keeps.of_below hb2))
  have hoI : I64 o := ⟨by omega, by omega⟩
  clear hO2 hR2 hb2 hbk hP HU HK1 HO1 HR1 CO hni y0 x0
  cases b1 with
  | false =>
    go_wp2_with fail
    refine bodyPost_ret (v := .tuple #[trV ⟨o, 0, .nil⟩ none 0, .bool false]) (by simp [results, Tryd.results38, go_sem, Trs.len, *]) rfl ?_
    have hO2 := HO2.out
    exact q_no (n' := n + 1) (r := r1) OwnB.au (HK2.out.then_ (H := [g, w.heap.size]) Keeps.au (by simp)) hl1 _ _ _ (fun t0 r k1 k2 k3 k4 => by have := (HBk.out t0 r k1 k3).1; cases this)
  | true =>
    by_cases h0 : o = 0
    · have h0d : (o == 0) = true := by simp [h0]
      go_wp2_with fail
      refine bodyPost_ret (v := .tuple #[trV ⟨o, 0, .nil⟩ none 0, .bool false]) (by simp [results, Tryd.results38, go_sem, Trs.len, *]) rfl ?_
      have hO2 := HO2.out
      exact q_no (n' := n + 1) (r := r1) OwnB.au (HK2.out.then_ (H := [g, w.heap.size]) Keeps.au (by simp)) hl1 _ _ _ (fun t0 r k1 k2 k3 k4 => by have h5 := (HBk.out t0 r k1 k3).2.1; have h6 := (op_pos k1).1; omega)
    · have h0d : (o == 0) = false := by simp [h0]
      by_cases h2 : 200 < n + 1
      · have h2d : decide (200 < n + 1) = true := by simp; omega
        go_wp2_with fail
        refine bodyPost_ret (v := .tuple #[trV ⟨o, 0, .nil⟩ none 0, .bool false]) (by simp [results, Tryd.results38, go_sem, Trs.len, *]) rfl ?_
        have hO2 := HO2.out
        exact q_no (n' := n + 1) (r := r1) OwnB.au (HK2.out.then_ (H := [g, w.heap.size]) Keeps.au (by simp)) hl1 _ _ _ (fun t0 r k1 k2 k3 k4 => by omega)
      · have h2d : decide (200 < n + 1) = false := by simp; omega
        by_cases h4 : o ≤ 4
        · have h4d : decide (o ≤ 4) = true := by simp; omega
          have CV : Hid (Calls Tryd.prog 54 #[.pointer (some ⟨g, 0, none⟩), .int .u8 41] _ _) := Lib.hid (until_page g r1 (n + 1) 41 (w2.alloc (.cells #[.int .i64 o, .int .i64 0, .slice none 0 0] 28)) (HO2.out.alloc _) (by have := HL.out; omega))
          go_wp2_with fail
          refine CV.out.mono ?_
          rintro e w3 ⟨sd, r2, b2, rfl, hO3, hK3, hl2, hsl, hV⟩
          have hT3 : OwnB w3 w2.heap.size #[.int .i64 o, .int .i64 0, .slice none 0 0] 28 := OwnB.call (OwnB.new rfl) hK3 (by simp; omega)
          have hR3 : OwnB w3 w.heap.size #[.int .i64 0, .int .i64 0, .slice none 0 0] 28 := OwnB.call (HR2.out.alloc _) hK3 (by simp; omega)
          have HO3 := Lib.hid hO3
          have HK3 := Lib.hid ((HK2.out.alloc _).trans hK3)
          have HV := Lib.hid hV
          have HT3 := Lib.hid hT3
          have HR3 := Lib.hid hR3
          have HLf := Lib.hid (fun (t0 : Tr) (r : List UInt8) (k1 : okT t0 = true) (k3 : rest = textT t0 ++ r) => leaf_text (fun t0 r k1 k3 => (HBk.out t0 r k1 k3).2) (by omega) h4 hV t0 r k1 k3)
          clear hO3 hK3 hV
          cases b2 with
          | false =>
            obtain ⟨y4, x4, z4⟩ := hT3.facts
            obtain ⟨y5, x5, z5⟩ := hR3.facts
            clear hT3 hR3
            go_wp2_with fail
            refine bodyPost_ret (v := .tuple #[trV ⟨o, 0, .nil⟩ none 0, .bool false]) (by simp [results, Tryd.results38, go_sem, Trs.len, *]) rfl ?_
            have hO3 := HO3.out
            exact q_no (n' := n + 1) (r := r2) OwnB.au (HK3.out.then_ (H := [g, w.heap.size]) Keeps.au (by simp)) (by omega) _ _ _ (fun t0 r k1 k2 k3 k4 => by have := (HLf.out t0 r k1 k3).2.1; cases this)
          | true =>
            clear hT3 hR3
            have CN := Lib.hid (number_page sd (by have := HL.out; omega) w3)
            go_wp2_with fail
            refine CN.out.mono ?_
            rintro e w4 ⟨v, b3, rfl, hv, hvb, hb4⟩
            have hT4 : OwnB w4 w2.heap.size #[.int .i64 o, .int .i64 0, .slice none 0 0] 28 := OwnB.call (G := []) HT3.out (Keeps.of_below hb4) (by simp)
            have hR4 : OwnB w4 w.heap.size #[.int .i64 0, .int .i64 0, .slice none 0 0] 28 := OwnB.call (G := []) HR3.out (Keeps.of_below hb4) (by simp)
            obtain ⟨y4, x4, z4⟩ := hT4.facts
            obtain ⟨y5, x5, z5⟩ := hR4.facts
            have HO4 := Lib.hid (show OwnB w4 g (RdC r2 (n + 1)) 78 from OwnB.call (G := []) HO3.out (Keeps.of_below hb4) (by simp))
            have HK4 := Lib.hid (HK3.out.trans (Keeps.of_below hb4))
            have HVb := Lib.hid hvb
            have HVi := Lib.hid hv
            clear hT4 hR4 hb4 hvb hv
            go_wp2_with fail
            refine bodyPost_ret (v := .tuple #[trV ⟨o, v, .nil⟩ none 0, .bool b3]) (by simp [results, Tryd.results38, go_sem, Trs.len, *]) rfl ?_
            have hO4 := HO4.out
            refine q_yes (n' := n + 1) (r := r2) OwnB.au (HK4.out.then_ (H := [g, w.heap.size, w2.heap.size]) Keeps.au (by simp; omega)) (by omega) b3 ⟨o, v, .nil⟩ none 0 hoI HVi.out (Nat.le_refl _) (by decide) (fun h => absurd h (by simp [Trs.len])) (by omega) ?_
            intro t0 r k1 k2 k3 k4
            obtain ⟨e1, e2, e3, e4, e5⟩ := HLf.out t0 r k1 k3
            obtain ⟨f1, f2⟩ := HVb.out t0.n k2.1 e3
            obtain ⟨p, q, s⟩ := t0
            simp only at e1 e5 f1
            subst e1 e5 f1
            exact ⟨f2, rfl, e4, by simp [Trs.size]⟩
        · have h4d : decide (o ≤ 4) = false := by simp; omega
          obtain ⟨ar, har, ha1, ha2⟩ : ∃ ar : Nat, ariV o = (ar : Int) ∧ 1 ≤ ar ∧ ar ≤ 2 := ari_kids (by omega) (by omega)
          have CK := fun w => Lib.hid (kids_any o w)
          rw [har] at CK
          have hQ0 : QSt w g w2.heap.size (w2.heap.size + 1) o r1 (n + 1) (w2.alloc (.cells #[.int .i64 o, .int .i64 0, .slice none 0 0] 28)) 0 .nil none 0 r1 (n + 1) := ⟨HO2.out.alloc _, OwnB.new rfl, HR2.out.alloc _, HK2.out.alloc _, ⟨[], World.ownsRow_nil _ _ _ _, rfl⟩, Nat.le_refl _, by omega, by omega, rfl, BK.first⟩
          have HQ0 := Lib.hid hQ0
          clear hQ0
          go_wp2_with fail
          go_loopw [9, 10, 11, 61, 62, 63, 64, 65, 66, 67, 68, 69, 70, 71, 72, 73, 74, 75, 76, 77, 78, 79, 80, 81, 82, 83, 84, 85, 86, 87, 88, 89, 90, 91, 92, 93, 94, 95, 96, 97, 98, 99, 100, 101, 102, 103, 104, 105, 106] (fun i _ _ _ _ _ _ _ _ _ _ _ _ _ _ _ _ _ _ _ _ _ _ _ _ _ _ _ _ _ _ _ _ _ _ _ _ _ _ _ _ _ _ _ _ _ _ _ _ wr => ∃ (k : Nat) (x : Trs) (la : Option Addr) (lc : Nat) (rk : List UInt8) (nk : Int), k ≤ ar ∧ i = .int .i64 (k : Int) ∧ QSt w g w2.heap.size (w2.heap.size + 1) o r1 (n + 1) wr k x la lc rk nk) (fun i _ _ _ _ _ _ _ _ _ _ _ _ _ _ _ _ _ _ _ _ _ _ _ _ _ _ _ _ _ _ _ _ _ _ _ _ _ _ _ _ _ _ _ _ _ _ _ _ _ => ar - (intOf i).toNat)
          case atStart => exact ⟨0, .nil, none, 0, r1, n + 1, by omega, rfl, HQ0.out⟩
          case round =>
            obtain ⟨k, x, la, lc, rk, nk, hk, rfl, hS⟩ := hrel
            obtain ⟨a0, a1, a2⟩ := hS.own.facts
            obtain ⟨b0, b1, b2⟩ := hS.tbo.facts
            obtain ⟨c0, c1, c2⟩ := hS.rbo.facts
            have hxl := hS.xl
            have HS := Lib.hid hS
            have hsz : w2.heap.size < wr.heap.size := b2
            clear hS HQ0
            by_cases hlt : k < ar
            · obtain rfl | rfl : k = 0 ∨ k = 1 := by omega
              · have hkd : decide ((0 : Int) < (ar : Int)) = true := by simp; omega
                have hxn : x = .nil := by
                  cases x with
                  | nil => rfl
                  | cons _ _ _ _ => simp [Trs.len] at hxl
                subst hxn
                have CT := Lib.hid (IH wr g rk nk (by have := HS.out.n0; omega) (by have := HS.out.n0; omega) HS.out.n2 HS.out.own (by have := HS.out.len; have := HL.out; omega))
                go_wp2_with (go_at_call 43; refine (CK _).out.mono ?_; rintro e w' ⟨rfl, rfl⟩)
                refine CT.out.mono ?_
                rintro e w3 ⟨b3, t, A, c, rk3, nk3, rfl, hO3, hK3, hl3, hy, hbk3⟩
                have hz3 := hK3.size
                have hT3 : OwnB w3 w2.heap.size #[.int .i64 o, .int .i64 0, .slice la 0 lc] 28 := OwnB.call HS.out.tbo hK3 (by simp; omega)
                have hR3 : OwnB w3 w.heap.size #[.int .i64 0, .int .i64 0, .slice none 0 0] 28 := OwnB.call HS.out.rbo hK3 (by simp; omega)
                obtain ⟨p0, p1, p2⟩ := hT3.facts
                obtain ⟨q0, q1, q2⟩ := hR3.facts
                have HO3 := Lib.hid hO3
                have HT3 := Lib.hid hT3
                have HR3 := Lib.hid hR3
                have HK3 := Lib.hid (HS.out.kp.trans hK3)
                have HW3 := Lib.hid ((HS.out.row).kp hK3 (by simp; omega))
                have HY := Lib.hid hy
                have HB3 := Lib.hid (fun (t0 : Tr) (r : List UInt8) (k1 : okT t0 = true) (k2 : wfT t0) (k3 : rk = textT t0 ++ r) (k4 : nk + ((t0.kids.size + 1 : Nat) : Int) ≤ 200) => hbk3 t0 r k1 k2 k3 k4)
                clear hO3 hK3 hT3 hR3 hy hbk3 CT
                cases b3 with
                | false =>
                  go_wp2_with fail
                  refine bodyPost_ret (v := .tuple #[trV ⟨o, 0, Trs.nil⟩ la lc, .bool false]) (by simp [results, Tryd.results38, go_sem, Trs.len, *]) rfl ?_
                  have hOg := HO3.out
                  exact q_no (n' := nk3) (r := rk3) OwnB.au (HK3.out.then_ (H := [g, w.heap.size]) Keeps.au (by simp)) (by have := HS.out.len; omega) _ _ _ (fun t0 r k1 k2 k3 k4 => by
                    obtain ⟨f1, f2, f3⟩ := HBk.out t0 r k1 k3
                    obtain ⟨g1, g2, g3⟩ := kid_head k1 (by omega) f2 f3
                    have g4 := (op_pos k1).2
                    rw [← f2, har] at g4
                    obtain ⟨a, rr, h1, h2, h3, h4⟩ := HS.out.bk.kid0 (x0 := t0.kids) (r' := 41 :: r) (by omega) g1 k2.2 g3 (by omega) rfl
                    have h5 := (HB3.out a rr h1 h2 h3 (by omega)).1
                    cases h5)
                | true =>
                  obtain ⟨e1, e2, e3, e4, e5, e6, e7⟩ := HY.out rfl
                  have hbA : Below w3.heap.size w3 ((w3.alloc (.cells #[.int .i64 t.op, .int .i64 t.n, .slice A t.kids.len c] 28)).alloc (.cells (trC t A c).toArray 28)) := ((Below.refl w3.heap.size w3).alloc (Nat.le_refl _) _).alloc (by simp) _
                  have hown0 : ∀ b, (Value.slice la 0 lc).ownBlock = some b → w2.heap.size + 1 ≤ b ∧ b < (wr).heap.size := fun b hb => by
                    obtain ⟨xs, r1, _⟩ := (HS.out.row).row
                    exact ⟨(own_lt r1 b hb).1, by have := (own_lt r1 b hb).2; (try simp only [World.size_setCell]); omega⟩
                  obtain ⟨xs, ro1, ro2⟩ := (HW3.out.kp (Keeps.of_below (G := []) hbA) (by simp)).more (lo2 := (wr).heap.size) e1 e2 e3 e4 (e5.keep (fun p v _ h => below_some hbA p v h) (fun b hb _ => hb)) (by (try simp); omega) (fun b hb => (hown0 b hb).2)
                  have RO2 := Lib.hid ro2
                  have E67 := Lib.hid (And.intro e6 e7)
                  have HKA := Lib.hid (HK3.out.trans (Keeps.of_below hbA))
                  have HOW := Lib.hid hown0
                  have HTA := Lib.hid (OwnB.call (G := []) HT3.out (Keeps.of_below hbA) (by simp))
                  have HRA := Lib.hid (OwnB.call (G := []) HR3.out (Keeps.of_below hbA) (by simp))
                  have HOA := Lib.hid (OwnB.call (G := []) HO3.out (Keeps.of_below hbA) (by simp))
                  have hnews : OwnB ((w3.alloc (.cells #[.int .i64 t.op, .int .i64 t.n, .slice A t.kids.len c] 28)).alloc (.cells (trC t A c).toArray 28)) (w3.heap.size + 1) (trC t A c).toArray 28 := OwnB.new (by simp)
                  have hlo2 : w2.heap.size + 1 ≤ ((w3.alloc (.cells #[.int .i64 t.op, .int .i64 t.n, .slice A t.kids.len c] 28)).alloc (.cells (trC t A c).toArray 28)).heap.size := by simp; omega
                  clear e1 e2 e3 e4 e5 e6 e7 ro2 hbA hown0 HY
                  go_wp2_with (at_builtin; refine wpList_appendT rfl _ _ rfl rfl rfl ro1 hnews rfl (trC_one _ _ _) hlo2 (by decide) ?_; intro g2 cap' w4 hrow4 hgr hgo; have HT4 := Lib.hid (HTA.out.grown hgr (fun e => by have := HOW.out _ e.symm; omega)); obtain ⟨s0, s1, s2⟩ := HT4.out.facts)
                  go_roundw
                  case measure => simp [intOf]; omega
                  case rel =>
                    have hz4 := hgr.size
                    have hzA : ((w3.alloc (.cells #[.int .i64 t.op, .int .i64 t.n, .slice A t.kids.len c] 28)).alloc (.cells (trC t A c).toArray 28)).heap.size = w3.heap.size + 1 + 1 := by simp
                    have hob : ∀ b, (Value.slice la 0 lc).ownBlock = some b → w2.heap.size + 1 ≤ b := fun b hb => (HOW.out b hb).1
                    refine ⟨0 + 1, (Trs.nil).snoc t, some ⟨g2, 0, none⟩, cap', rk3, nk3, by omega, by simp, ⟨?_, ?_, ?_, ?_, ?_, ?_, ?_, ?_, ?_, ?_⟩⟩
                    · exact (HOA.out.grown hgr (fun e => by have := hob _ e.symm; omega)).setCell _ _ (by simp; omega)
                    · exact HT4.out.set 2 _
                    · exact (HRA.out.grown hgr (fun e => by have := hob _ e.symm; omega)).setCell _ _ (by simp; omega)
                    · exact (HKA.out.grown hgr (fun b hb => by have := hob b hb; omega)).setCell _ (.inl (by show w.heap.size ≤ w2.heap.size; omega)) _
                    · exact (RO2.out g2 cap' w4 hrow4 hgr hgo).kp (G := [w2.heap.size]) Keeps.au (by simp)
                    · have := HS.out.len; omega
                    · have := E67.out.1; have := HS.out.n0; omega
                    · exact E67.out.2
                    · rw [Trs.snoc_len, hxl]
                    · exact BK.one HS.out.bk (fun t0 r k1 k2 k3 k4 => (HB3.out t0 r k1 k2 k3 k4).2)
              · rcases rk with _ | ⟨c1, _ | ⟨c2, rr⟩⟩
                · go_wp2_with (go_at_call 43; refine (CK _).out.mono ?_; rintro e w' ⟨rfl, rfl⟩)
                  refine bodyPost_ret (v := .tuple #[trV ⟨o, 0, x⟩ la lc, .bool false]) (by simp [results, Tryd.results38, go_sem, Trs.len, *]) rfl ?_
                  have hOg := HS.out.own
                  exact q_no (n' := nk) (r := []) OwnB.au (HS.out.kp.then_ (H := [g, w.heap.size]) Keeps.au (by simp)) (by have := HS.out.len; omega) _ _ _ (fun t0 r k1 k2 k3 k4 => by
                    obtain ⟨f1, f2, f3⟩ := HBk.out t0 r k1 k3
                    obtain ⟨g1, g2, g3⟩ := kid_head k1 (by omega) f2 f3
                    have g4 := (op_pos k1).2
                    rw [← f2, har] at g4
                    obtain ⟨a, b', h1, h2, h3, h4, h5, h6, h7⟩ := HS.out.bk.sep hxl (x0 := t0.kids) (r' := 41 :: r) (by omega) g1 k2.2 g3 (by omega)
                    cases h3)
                · go_wp2_with (go_at_call 43; refine (CK _).out.mono ?_; rintro e w' ⟨rfl, rfl⟩)
                  refine bodyPost_ret (v := .tuple #[trV ⟨o, 0, x⟩ la lc, .bool false]) (by simp [results, Tryd.results38, go_sem, Trs.len, *]) rfl ?_
                  have hOg := HS.out.own
                  exact q_no (n' := nk) (r := [c1]) OwnB.au (HS.out.kp.then_ (H := [g, w.heap.size]) Keeps.au (by simp)) (by have := HS.out.len; omega) _ _ _ (fun t0 r k1 k2 k3 k4 => by
                    obtain ⟨f1, f2, f3⟩ := HBk.out t0 r k1 k3
                    obtain ⟨g1, g2, g3⟩ := kid_head k1 (by omega) f2 f3
                    have g4 := (op_pos k1).2
                    rw [← f2, har] at g4
                    obtain ⟨a, b', h1, h2, h3, h4, h5, h6, h7⟩ := HS.out.bk.sep hxl (x0 := t0.kids) (r' := 41 :: r) (by omega) g1 k2.2 g3 (by omega)
                    injection h3 with h8 h9
                    cases h9)
                · by_cases hcc : c1 = 44 ∧ c2 = 32
                  · obtain ⟨rfl, rfl⟩ := hcc
                    have hx2 : ({ data := (44 :: 32 :: rr).toArray } : ByteArray).extract 0 2 = ⟨#[44, 32]⟩ := ext_take (44 :: 32 :: rr) 2
                    have hx3 : ({ data := (44 :: 32 :: rr).toArray } : ByteArray).extract 2 (rr.length + 1 + 1) = ⟨rr.toArray⟩ := ext_drop (44 :: 32 :: rr) 2
                    have hkd2 : decide ((1 : Int) < (ar : Int)) = true := by simp; omega
                    have hW : OwnB (wr.setCell ⟨g, 0, none⟩ (.string ⟨rr.toArray⟩)) g (RdC rr nk) 78 := HS.out.own.set 0 _
                    have CT := Lib.hid (IH (wr.setCell ⟨g, 0, none⟩ (.string ⟨rr.toArray⟩)) g rr nk (by have := HS.out.n0; omega) (by have := HS.out.n0; omega) HS.out.n2 hW (by have := HS.out.len; have := HL.out; simp only [List.length_cons] at *; omega))
                    go_wp2_with (go_at_call 43; refine (CK _).out.mono ?_; rintro e w' ⟨rfl, rfl⟩)
                    refine CT.out.mono ?_
                    rintro e w3 ⟨b3, t, A, c, rk3, nk3, rfl, hO3, hK3, hl3, hy, hbk3⟩
                    have hz3 := hK3.size
                    simp only [World.size_setCell] at hz3
                    have hT3 : OwnB w3 w2.heap.size #[.int .i64 o, .int .i64 0, .slice la 1 lc] 28 := OwnB.call (HS.out.tbo.setCell _ _ (by simp; omega)) hK3 (by simp; omega)
                    have hR3 : OwnB w3 w.heap.size #[.int .i64 0, .int .i64 0, .slice none 0 0] 28 := OwnB.call (HS.out.rbo.setCell _ _ (by simp; omega)) hK3 (by simp; omega)
                    obtain ⟨p0, p1, p2⟩ := hT3.facts
                    obtain ⟨q0, q1, q2⟩ := hR3.facts
                    have HO3 := Lib.hid hO3
                    have HT3 := Lib.hid hT3
                    have HR3 := Lib.hid hR3
                    have HK3 := Lib.hid ((HS.out.kp.setCell _ (.inr (List.Mem.head _)) _).trans hK3)
                    have HW3 := Lib.hid ((HS.out.row.kp (G := [g]) Keeps.au (by simp; omega)).kp hK3 (by simp; omega))
                    have HY := Lib.hid hy
                    have HB3 := Lib.hid (fun (t0 : Tr) (r : List UInt8) (k1 : okT t0 = true) (k2 : wfT t0) (k3 : rr = textT t0 ++ r) (k4 : nk + ((t0.kids.size + 1 : Nat) : Int) ≤ 200) => hbk3 t0 r k1 k2 k3 k4)
                    clear hO3 hK3 hT3 hR3 hy hbk3 CT
                    cases b3 with
                    | false =>
                      go_wp2_with fail
                      refine bodyPost_ret (v := .tuple #[trV ⟨o, 0, x⟩ la lc, .bool false]) (by simp [results, Tryd.results38, go_sem, Trs.len, *]) rfl ?_
                      have hOg := HO3.out
                      exact q_no (n' := nk3) (r := rk3) OwnB.au (HK3.out.then_ (H := [g, w.heap.size]) Keeps.au (by simp)) (by have := HS.out.len; simp only [List.length_cons] at *; omega) _ _ _ (fun t0 r k1 k2 k3 k4 => by
                        obtain ⟨f1, f2, f3⟩ := HBk.out t0 r k1 k3
                        obtain ⟨g1, g2, g3⟩ := kid_head k1 (by omega) f2 f3
                        have g4 := (op_pos k1).2
                        rw [← f2, har] at g4
                        obtain ⟨a, b', h1, h2, h3, h4, h5, h6, h7⟩ := HS.out.bk.sep hxl (x0 := t0.kids) (r' := 41 :: r) (by omega) g1 k2.2 g3 (by omega)
                        injection h3 with _ h8
                        injection h8 with _ h8
                        have h9 := (HB3.out b' (41 :: r) h4 h5 h8 (by omega)).1
                        cases h9)
                    | true =>
                      obtain ⟨e1, e2, e3, e4, e5, e6, e7⟩ := HY.out rfl
                      have hbA : Below w3.heap.size w3 ((w3.alloc (.cells #[.int .i64 t.op, .int .i64 t.n, .slice A t.kids.len c] 28)).alloc (.cells (trC t A c).toArray 28)) := ((Below.refl w3.heap.size w3).alloc (Nat.le_refl _) _).alloc (by simp) _
                      have hown0 : ∀ b, (Value.slice la 1 lc).ownBlock = some b → w2.heap.size + 1 ≤ b ∧ b < ((wr.setCell ⟨g, 0, none⟩ (.string ⟨rr.toArray⟩))).heap.size := fun b hb => by
                        obtain ⟨xs, r1, _⟩ := (HS.out.row.kp (G := [g]) Keeps.au (by simp; omega)).row
                        exact ⟨(own_lt r1 b hb).1, by have := (own_lt r1 b hb).2; (try simp only [World.size_setCell]); omega⟩
                      obtain ⟨xs, ro1, ro2⟩ := (HW3.out.kp (Keeps.of_below (G := []) hbA) (by simp)).more (lo2 := ((wr.setCell ⟨g, 0, none⟩ (.string ⟨rr.toArray⟩))).heap.size) e1 e2 e3 e4 (e5.keep (fun p v _ h => below_some hbA p v h) (fun b hb _ => hb)) (by (try simp); omega) (fun b hb => (hown0 b hb).2)
                      have RO2 := Lib.hid ro2
                      have E67 := Lib.hid (And.intro e6 e7)
                      have HKA := Lib.hid (HK3.out.trans (Keeps.of_below hbA))
                      have HOW := Lib.hid hown0
                      have HTA := Lib.hid (OwnB.call (G := []) HT3.out (Keeps.of_below hbA) (by simp))
                      have HRA := Lib.hid (OwnB.call (G := []) HR3.out (Keeps.of_below hbA) (by simp))
                      have HOA := Lib.hid (OwnB.call (G := []) HO3.out (Keeps.of_below hbA) (by simp))
                      have hnews : OwnB ((w3.alloc (.cells #[.int .i64 t.op, .int .i64 t.n, .slice A t.kids.len c] 28)).alloc (.cells (trC t A c).toArray 28)) (w3.heap.size + 1) (trC t A c).toArray 28 := OwnB.new (by simp)
                      have hlo2 : w2.heap.size + 1 ≤ ((w3.alloc (.cells #[.int .i64 t.op, .int .i64 t.n, .slice A t.kids.len c] 28)).alloc (.cells (trC t A c).toArray 28)).heap.size := by simp; omega
                      clear e1 e2 e3 e4 e5 e6 e7 ro2 hbA hown0 HY
                      go_wp2_with (at_builtin; refine wpList_appendT rfl _ _ rfl rfl rfl ro1 hnews rfl (trC_one _ _ _) hlo2 (by decide) ?_; intro g2 cap' w4 hrow4 hgr hgo; have HT4 := Lib.hid (HTA.out.grown hgr (fun e => by have := HOW.out _ e.symm; omega)); obtain ⟨s0, s1, s2⟩ := HT4.out.facts)
                      go_roundw
                      case measure => simp [intOf]; omega
                      case rel =>
                        have hz4 := hgr.size
                        have hzA : ((w3.alloc (.cells #[.int .i64 t.op, .int .i64 t.n, .slice A t.kids.len c] 28)).alloc (.cells (trC t A c).toArray 28)).heap.size = w3.heap.size + 1 + 1 := by simp
                        have hob : ∀ b, (Value.slice la 1 lc).ownBlock = some b → w2.heap.size + 1 ≤ b := fun b hb => (HOW.out b hb).1
                        refine ⟨1 + 1, (x).snoc t, some ⟨g2, 0, none⟩, cap', rk3, nk3, by omega, by simp, ⟨?_, ?_, ?_, ?_, ?_, ?_, ?_, ?_, ?_, ?_⟩⟩
                        · exact (HOA.out.grown hgr (fun e => by have := hob _ e.symm; omega)).setCell _ _ (by simp; omega)
                        · exact HT4.out.set 2 _
                        · exact (HRA.out.grown hgr (fun e => by have := hob _ e.symm; omega)).setCell _ _ (by simp; omega)
                        · exact (HKA.out.grown hgr (fun b hb => by have := hob b hb; omega)).setCell _ (.inl (by show w.heap.size ≤ w2.heap.size; omega)) _
                        · exact (RO2.out g2 cap' w4 hrow4 hgr hgo).kp (G := [w2.heap.size]) Keeps.au (by simp)
                        · have := HS.out.len; simp only [List.length_cons] at *; omega
                        · have := E67.out.1; have := HS.out.n0; omega
                        · exact E67.out.2
                        · rw [Trs.snoc_len, hxl]
                        · exact BK.two hxl HS.out.bk rfl (fun t0 r k1 k2 k3 k4 => (HB3.out t0 r k1 k2 k3 k4).2)
                  · have hx2 : ({ data := (c1 :: c2 :: rr).toArray } : ByteArray).extract 0 2 = ⟨#[c1, c2]⟩ := ext_take (c1 :: c2 :: rr) 2
                    have hkd2 : decide ((1 : Int) < (ar : Int)) = true := by simp; omega
                    by_cases hc1 : c1 = 44
                    · subst hc1
                      have hc2 : (c2 == 32) = false := by simp; exact fun h => hcc ⟨rfl, h⟩
                      go_wp2_with (go_at_call 43; refine (CK _).out.mono ?_; rintro e w' ⟨rfl, rfl⟩)
                      refine bodyPost_ret (v := .tuple #[trV ⟨o, 0, x⟩ la lc, .bool false]) (by simp [results, Tryd.results38, go_sem, Trs.len, *]) rfl ?_
                      have hOg := HS.out.own
                      exact q_no (n' := nk) (r := (44 :: c2 :: rr)) OwnB.au (HS.out.kp.then_ (H := [g, w.heap.size]) Keeps.au (by simp)) (by have := HS.out.len; omega) _ _ _ (fun t0 r k1 k2 k3 k4 => by
                        obtain ⟨f1, f2, f3⟩ := HBk.out t0 r k1 k3
                        obtain ⟨g1, g2, g3⟩ := kid_head k1 (by omega) f2 f3
                        have g4 := (op_pos k1).2
                        rw [← f2, har] at g4
                        obtain ⟨a, b', h1, h2, h3, h4, h5, h6, h7⟩ := HS.out.bk.sep hxl (x0 := t0.kids) (r' := 41 :: r) (by omega) g1 k2.2 g3 (by omega)
                        exact hcc (by have i1 := (List.cons.inj h3).1; have i2 := (List.cons.inj (List.cons.inj h3).2).1; simp [i1, i2]))
                    · have hc2 : (c1 == 44) = false := by simpa using hc1
                      go_wp2_with (go_at_call 43; refine (CK _).out.mono ?_; rintro e w' ⟨rfl, rfl⟩)
                      refine bodyPost_ret (v := .tuple #[trV ⟨o, 0, x⟩ la lc, .bool false]) (by simp [results, Tryd.results38, go_sem, Trs.len, *]) rfl ?_
                      have hOg := HS.out.own
                      exact q_no (n' := nk) (r := (c1 :: c2 :: rr)) OwnB.au (HS.out.kp.then_ (H := [g, w.heap.size]) Keeps.au (by simp)) (by have := HS.out.len; omega) _ _ _ (fun t0 r k1 k2 k3 k4 => by
                        obtain ⟨f1, f2, f3⟩ := HBk.out t0 r k1 k3
                        obtain ⟨g1, g2, g3⟩ := kid_head k1 (by omega) f2 f3
                        have g4 := (op_pos k1).2
                        rw [← f2, har] at g4
                        obtain ⟨a, b', h1, h2, h3, h4, h5, h6, h7⟩ := HS.out.bk.sep hxl (x0 := t0.kids) (r' := 41 :: r) (by omega) g1 k2.2 g3 (by omega)
                        exact hcc (by have i1 := (List.cons.inj h3).1; have i2 := (List.cons.inj (List.cons.inj h3).2).1; simp [i1, i2]))
            · obtain rfl : k = ar := by omega
              have hkd : decide ((k : Int) < (k : Int)) = false := by simp
              rcases rk with _ | ⟨c1, rr⟩
              · go_wp2_with (go_at_call 43; refine (CK _).out.mono ?_; rintro e w' ⟨rfl, rfl⟩)
                refine bodyPost_ret (v := .tuple #[trV ⟨o, 0, x⟩ la lc, .bool false]) (by simp [results, Tryd.results38, go_sem, Trs.len, *]) rfl ?_
                have hOg := HS.out.own
                exact q_no (n' := nk) (r := []) OwnB.au (HS.out.kp.then_ (H := [g, w.heap.size]) Keeps.au (by simp)) (by have := HS.out.len; omega) _ _ _ (fun t0 r k1 k2 k3 k4 => by
                  obtain ⟨f1, f2, f3⟩ := HBk.out t0 r k1 k3
                  obtain ⟨g1, g2, g3⟩ := kid_head k1 (by omega) f2 f3
                  have g4 := (op_pos k1).2
                  rw [← f2, har] at g4
                  obtain ⟨h1, h2, h3⟩ := HS.out.bk t0.kids (41 :: r) (by omega) g1 k2.2 g3 (by omega)
                  cases h2)
              · have hb0 : ∀ h, (({ data := (c1 :: rr).toArray } : ByteArray)[0]'h).toNat = c1.toNat := fun _ => rfl
                by_cases hc : c1 = 41
                · subst hc
                  have hx3 : ({ data := (41 :: rr).toArray } : ByteArray).extract 1 (rr.length + 1) = ⟨rr.toArray⟩ := cut1 41 rr
                  have hb1 : ∀ h, (({ data := (41 :: rr).toArray } : ByteArray)[0]'h).toNat = 41 := fun _ => rfl
                  go_wp2_with (go_at_call 43; refine (CK _).out.mono ?_; rintro e w' ⟨rfl, rfl⟩)
                  refine bodyPost_ret (v := .tuple #[trV ⟨o, 0, x⟩ la lc, .bool true]) (by simp [results, Tryd.results38, go_sem, Trs.len, *]) rfl ?_
                  have hW : OwnB (wr.setCell ⟨g, 0, none⟩ (.string ⟨rr.toArray⟩)) g (RdC rr nk) 78 := HS.out.own.set 0 _
                  have hRf := HS.out.row.kp (G := [g, w.heap.size]) (W := (((wr.setCell ⟨g, 0, none⟩ (.string ⟨rr.toArray⟩)).setCell ⟨w.heap.size, 0, none⟩ (.int .i64 o)).setCell ⟨w.heap.size, 1, none⟩ (.int .i64 0)).setCell ⟨w.heap.size, 2, none⟩ (.slice la k lc)) Keeps.au (by simp; omega)
                  obtain ⟨i1, i2, i3⟩ := hRf.kid (base := w.heap.size) hxl (by omega) (by omega)
                  refine q_yes (n' := nk) (r := rr) OwnB.au (HS.out.kp.then_ (H := [g, w.heap.size]) Keeps.au (by simp)) (by have := HS.out.len; simp only [List.length_cons] at this; omega) true ⟨o, 0, x⟩ la lc hoI (show I64 0 from ⟨by decide, by decide⟩) (by show x.len ≤ lc; omega) i2 i3 ⟨by have := HS.out.n0; omega, HS.out.n2⟩ (fun t0 r k1 k2 k3 k4 => ?_)
                  obtain ⟨f1, f2, f3⟩ := HBk.out t0 r k1 k3
                  obtain ⟨g1, g2, g3⟩ := kid_head k1 (by omega) f2 f3
                  have g4 := (op_pos k1).2
                  rw [← f2, har] at g4
                  obtain ⟨h1, h2, h3⟩ := HS.out.bk t0.kids (41 :: r) (by omega) g1 k2.2 g3 (by omega)
                  injection h2 with _ h2
                  obtain ⟨p, q, s⟩ := t0
                  simp only at f2 g2 h1
                  subst f2 g2 h1
                  exact ⟨rfl, rfl, h2, by rw [h3]; simp only; omega⟩
                · have hcd : ((c1.toNat : Int) != 41) = true := by
                    simp only [bne_iff_ne, ne_eq]
                    exact fun h => hc (UInt8.toNat_inj.1 (by simpa using (Int.ofNat_inj.1 h)))
                  go_wp2_with (go_at_call 43; refine (CK _).out.mono ?_; rintro e w' ⟨rfl, rfl⟩)
                  refine bodyPost_ret (v := .tuple #[trV ⟨o, 0, x⟩ la lc, .bool false]) (by simp [results, Tryd.results38, go_sem, Trs.len, *]) rfl ?_
                  have hOg := HS.out.own
                  exact q_no (n' := nk) (r := (c1 :: rr)) OwnB.au (HS.out.kp.then_ (H := [g, w.heap.size]) Keeps.au (by simp)) (by have := HS.out.len; omega) _ _ _ (fun t0 r k1 k2 k3 k4 => by
                    obtain ⟨f1, f2, f3⟩ := HBk.out t0 r k1 k3
                    obtain ⟨g1, g2, g3⟩ := kid_head k1 (by omega) f2 f3
                    have g4 := (op_pos k1).2
                    rw [← f2, har] at g4
                    obtain ⟨h1, h2, h3⟩ := HS.out.bk t0.kids (41 :: r) (by omega) g1 k2.2 g3 (by omega)
                    injection h2 with h2 _
                    exact hc h2)
theorem q_all : ∀ m, QC m := by
  intro m
  induction m with
  | zero => intro w g rest n h1 h2 h3; exact absurd h1 (by omega)
  | succ m ih => exact q_step m ih
end Go.Proofs.YtgbgjecmamkdaaaDoor
