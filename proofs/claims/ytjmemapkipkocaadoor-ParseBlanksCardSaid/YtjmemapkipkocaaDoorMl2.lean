/-
  Texts that lead to it, 2: PsReg PsX3 PsX2 PsX5 PsX6 PsX7 PsX8 PsS1 PsT3 PsApi PsT4 PsT5 PsFns PsUni PsBr PsQ1.
-/
import Derived.Test.YtjmemapkipkocaaDoorMl1
import Derived.StillTail
import Derived.Lib.Hide
import Derived.Deep.LoopGhost
import Derived.Laws.OwnMore

/-
  A region that draws its order, with a store at its end: a condition that holds up to that store.
-/
namespace Go.Proofs.YtjmemapkipkocaaDoor
open Go.RowKit Go.Maps
set_option linter.unusedVariables false
set_option linter.unusedSimpArgs false

section
variable {P : Program} {ops : Array Oper} {Q : Exit → Act → World → Prop} {md : Region.Mode} {S : World → Prop} {n : Nat}
/-- In whatever order the rest comes up; S holds behind each that comes up ahead of number n. -/
def wpTo (P : Program) (md : Region.Mode) (ops : Array Oper) (Q : Exit → Act → World → Prop) (S : World → Prop) (n : Nat) : Nat → Array Bool → Act → World → Prop
  | 0, listed, a, w => Region.ready md ops listed = [] ∧ Q .normal a w
  | k + 1, listed, a, w => (Region.ready md ops listed = [] → Q .normal a w) ∧
      ∀ i ∈ Region.ready md ops listed, wpOp P ops Q i (fun a' w' => (i ≠ n → listed.getD n true = false → S w') ∧ wpTo P md ops Q S n k (listed.setIfInBounds i true) a' w') a w
theorem wpTo_any : ∀ (k : Nat) (listed : Array Bool) (a : Act) (w : World), wpTo P md ops Q S n k listed a w → wpAny P md ops Q k listed a w
  | 0, _, _, _, h => h
  | k + 1, _, _, _, h => ⟨h.1, fun i hi => wpOp_mono (fun a' w' h' => wpTo_any k _ a' w' h'.2) (h.2 i hi)⟩
theorem wpTo_first {i : Nat} {oi : Oper} {v : Value} (hi : ops[i]? = some oi) (hsel : ∀ (j : Nat) (o : Oper) cs b, ops[j]? = some o → o.op ≠ .select cs b)
    (hQ : ∀ c a w, Q (.panic c) (a.put oi.dst v) w → Q (.panic c) a w) (hn : Region.waitsFor md ops n i = true) (hin : i ≠ n) : ∀ (k : Nat) (listed : Array Bool) (a : Act) (w : World),
      (∀ j oj, ops[j]? = some oj → j ≠ i → listed.getD j true = false → (∀ e ∈ oj.after, Region.binds md e = true → e.on ≠ i) → oi.apart ops oj = true) →
      i ∈ Region.ready md ops listed → listed.getD n true = false → YieldsIf P ops S oi v a → S w →
      wpTo P md ops Q S n k (listed.setIfInBounds i true) (a.put oi.dst v) w → wpTo P md ops Q S n (k + 1) listed a w := by
  intro k
  induction k with
  | zero =>
    intro listed a w _ hr _ hy hS H
    refine ⟨fun h => (by rw [h] at hr; cases hr), fun j hj => ?_⟩
    by_cases hji : j = i
    · subst hji; exact hy.wpOp hi hS ⟨fun _ _ => hS, H⟩
    · have hx := ready_mono hj hji
      rw [H.1] at hx
      cases hx
  | succ k ih =>
    intro listed a w hfree hr hln hy hS H
    refine ⟨fun h => (by rw [h] at hr; cases hr), fun j hj => ?_⟩
    by_cases hji : j = i
    · subst hji; exact hy.wpOp hi hS ⟨fun _ _ => hS, H⟩
    · obtain ⟨hjun, oj, hoj, hall⟩ := mem_ready.1 hj
      have hnot : ∀ e ∈ oj.after, Region.binds md e = true → e.on ≠ i := fun e he hb heq => by
        have h1 := hall e he hb
        have h0 := (mem_ready.1 hr).1
        rw [heq] at h1
        rcases Nat.lt_or_ge i listed.size with h' | h'
        · simp [h'] at h0 h1; rw [h0] at h1; cases h1
        · simp [Array.getElem?_eq_none h'] at h1
      have hjn : j ≠ n := by
        rintro rfl
        obtain ⟨ok, hk, e, he, hb, heq⟩ := Region.waitsFor_spec hn
        rw [hoj] at hk
        obtain rfl := Option.some.inj hk
        exact hnot e he hb heq
      have h2 := wpOp_putIf hoj (hfree j oj hoj hji hjun hnot) (fun cs b => hsel i oi cs b hi) (fun cs b => hsel j oj cs b hoj) hQ hy (H.2 j (ready_mono hj hji))
      have hl1 : (listed.setIfInBounds i true).getD n true = false := by rw [getD_set_ne true hin]; exact hln
      refine wpOp_mono (fun a' w' h3 => ⟨fun _ _ => h3.2.1 hjn hl1, ih (listed.setIfInBounds j true) a' w' ?_ (ready_mono hr (Ne.symm hji)) (by rw [getD_set_ne true hjn]; exact hln) h3.1 (h3.2.1 hjn hl1) ?_⟩) h2
      · intro m om hm hmi hun hno
        refine hfree m om hm hmi ?_ hno
        by_cases hjm : j = m
        · subst hjm; exact hjun
        · rw [getD_set_ne true hjm] at hun; exact hun
      · rw [Array.setIfInBounds_comm _ _ hji]
        exact h3.2.2
/-- One that yields in whatever world. -/
theorem wpTo_ever {i : Nat} {oi : Oper} {v : Value} (hi : ops[i]? = some oi) (hsel : ∀ (j : Nat) (o : Oper) cs b, ops[j]? = some o → o.op ≠ .select cs b)
    (hQ : ∀ c a w, Q (.panic c) (a.put oi.dst v) w → Q (.panic c) a w) (hin : i ≠ n) : ∀ (k : Nat) (listed : Array Bool) (a : Act) (w : World),
      (∀ j oj, ops[j]? = some oj → j ≠ i → listed.getD j true = false → (∀ e ∈ oj.after, Region.binds md e = true → e.on ≠ i) → oi.apart ops oj = true) →
      i ∈ Region.ready md ops listed → YieldsIf P ops (fun _ => True) oi v a → (listed.getD n true = false → S w) →
      wpTo P md ops Q S n k (listed.setIfInBounds i true) (a.put oi.dst v) w → wpTo P md ops Q S n (k + 1) listed a w := by
  intro k
  induction k with
  | zero =>
    intro listed a w _ hr hy hS H
    refine ⟨fun h => (by rw [h] at hr; cases hr), fun j hj => ?_⟩
    by_cases hji : j = i
    · subst hji; exact hy.wpOp hi trivial ⟨fun _ h => hS h, H⟩
    · have hx := ready_mono hj hji
      rw [H.1] at hx
      cases hx
  | succ k ih =>
    intro listed a w hfree hr hy hS H
    refine ⟨fun h => (by rw [h] at hr; cases hr), fun j hj => ?_⟩
    by_cases hji : j = i
    · subst hji; exact hy.wpOp hi trivial ⟨fun _ h => hS h, H⟩
    · obtain ⟨hjun, oj, hoj, hall⟩ := mem_ready.1 hj
      have hnot : ∀ e ∈ oj.after, Region.binds md e = true → e.on ≠ i := fun e he hb heq => by
        have h1 := hall e he hb
        have h0 := (mem_ready.1 hr).1
        rw [heq] at h1
        rcases Nat.lt_or_ge i listed.size with h' | h'
        · simp [h'] at h0 h1; rw [h0] at h1; cases h1
        · simp [Array.getElem?_eq_none h'] at h1
      have h2 := wpOp_putIf hoj (hfree j oj hoj hji hjun hnot) (fun cs b => hsel i oi cs b hi) (fun cs b => hsel j oj cs b hoj) hQ hy (H.2 j (ready_mono hj hji))
      refine wpOp_mono (fun a' w' h3 => ⟨fun hjn hl => h3.2.1 hjn (by rw [getD_set_ne true hin]; exact hl), ih (listed.setIfInBounds j true) a' w' ?_ (ready_mono hr (Ne.symm hji)) h3.1 (fun hl => ?_) ?_⟩) h2
      · intro m om hm hmi hun hno
        refine hfree m om hm hmi ?_ hno
        by_cases hjm : j = m
        · subst hjm; exact hjun
        · rw [getD_set_ne true hjm] at hun; exact hun
      · by_cases hjn : j = n
        · subst hjn
          exfalso
          rcases Nat.lt_or_ge j listed.size with h' | h'
          · simp [h'] at hl
          · simp [Array.getElem?_eq_none h'] at hl
        · rw [getD_set_ne true hjn] at hl
          exact h3.2.1 hjn (by rw [getD_set_ne true hin]; exact hl)
      · rw [Array.setIfInBounds_comm _ _ hji]
        exact h3.2.2
/-- Number i is taken ahead of all others. -/
theorem wpTo_take {l : List Oper} (i : Nat) {oi : Oper} {v : Value} {k : Nat} {listed : Array Bool} {a : Act} {w : World} (hr : (Region.ready md l.toArray listed).contains i = true) (hn : (Region.waitsFor md l.toArray n i && !listed.getD n true) = true) (hin : (i == n) = false)
    (hs : Region.noSelect l.toArray = true) (hf : Region.free md l.toArray listed i = true) (hi : l[i]? = some oi)
    (hQ : ∀ c a w, Q (.panic c) (a.put oi.dst v) w → Q (.panic c) a w) (hy : YieldsIf P l.toArray S oi v a) (hS : S w)
    (h : wpTo P md l.toArray Q S n k (listed.setIfInBounds i true) (a.put oi.dst v) w) : wpTo P md l.toArray Q S n (k + 1) listed a w := by
  simp only [Bool.and_eq_true, Bool.not_eq_true'] at hn
  exact wpTo_first (by simpa using hi) (Region.noSelect_spec hs) hQ hn.1 (by simpa using hin) k listed a w (Region.free_spec (by simpa using hi) hf) (by simpa using hr) hn.2 hy hS h
theorem wpTo_takeE {l : List Oper} (i : Nat) {oi : Oper} {v : Value} {k : Nat} {listed : Array Bool} {a : Act} {w : World} (hr : (Region.ready md l.toArray listed).contains i = true) (hin : (i == n) = false)
    (hs : Region.noSelect l.toArray = true) (hf : Region.free md l.toArray listed i = true) (hi : l[i]? = some oi)
    (hQ : ∀ c a w, Q (.panic c) (a.put oi.dst v) w → Q (.panic c) a w) (hy : YieldsIf P l.toArray (fun _ => True) oi v a) (hS : listed.getD n true = false → S w)
    (h : wpTo P md l.toArray Q S n k (listed.setIfInBounds i true) (a.put oi.dst v) w) : wpTo P md l.toArray Q S n (k + 1) listed a w :=
  wpTo_ever (by simpa using hi) (Region.noSelect_spec hs) hQ (by simpa using hin) k listed a w (Region.free_spec (by simpa using hi) hf) (by simpa using hr) hy hS h
/-- Number i alone may come up. -/
theorem wpTo_one {l : List Oper} (i : Nat) {oi : Oper} {k : Nat} {listed : Array Bool} {a : Act} {w : World} (hr : Region.ready md l.toArray listed = [i]) (hi : l[i]? = some oi)
    (h : ∀ K' : Act → World → Prop, Shut (∀ a w, (i ≠ n → listed.getD n true = false → S w) → wpTo P md l.toArray Q S n k (listed.setIfInBounds i true) a w → K' a w) → if Region.wanted oi (yielded l.toArray a.tmps) = true then Oper.wp P oi a w K' Q else K' (a.put oi.dst undef) w) :
    wpTo P md l.toArray Q S n (k + 1) listed a w := by
  refine ⟨fun h0 => by (rw [hr] at h0; cases h0), fun j hj => ?_⟩
  rw [hr, List.mem_singleton] at hj
  subst hj
  exact wpOp_step (by simpa using hi) fun K' hK => h K' (fun a w hS hW => hK a w ⟨hS, hW⟩)
/-- Two may come up. -/
theorem wpTo_two {l : List Oper} (i j : Nat) {oi oj : Oper} {k : Nat} {listed : Array Bool} {a : Act} {w : World} (hr : Region.ready md l.toArray listed = [i, j]) (hi : l[i]? = some oi) (hj : l[j]? = some oj)
    (h : ∀ K' : Act → World → Prop, Shut (∀ a w, (i ≠ n → listed.getD n true = false → S w) → wpTo P md l.toArray Q S n k (listed.setIfInBounds i true) a w → K' a w) → if Region.wanted oi (yielded l.toArray a.tmps) = true then Oper.wp P oi a w K' Q else K' (a.put oi.dst undef) w)
    (h' : ∀ K' : Act → World → Prop, Shut (∀ a w, (j ≠ n → listed.getD n true = false → S w) → wpTo P md l.toArray Q S n k (listed.setIfInBounds j true) a w → K' a w) → if Region.wanted oj (yielded l.toArray a.tmps) = true then Oper.wp P oj a w K' Q else K' (a.put oj.dst undef) w) :
    wpTo P md l.toArray Q S n (k + 1) listed a w := by
  refine ⟨fun h0 => by (rw [hr] at h0; cases h0), fun m hm => ?_⟩
  rw [hr, List.mem_cons, List.mem_singleton] at hm
  rcases hm with rfl | rfl
  · exact wpOp_step (by simpa using hi) fun K' hK => h K' (fun a w hS hW => hK a w ⟨hS, hW⟩)
  · exact wpOp_step (by simpa using hj) fun K' hK => h' K' (fun a w hS hW => hK a w ⟨hS, hW⟩)
/-- All have come up. -/
theorem wpTo_done {listed : Array Bool} {a : Act} {w : World} (hr : Region.ready md ops listed = []) (h : Q .normal a w) : ∀ k, wpTo P md ops Q S n k listed a w
  | 0 => ⟨hr, h⟩
  | _ + 1 => ⟨fun _ => h, fun j hj => by rw [hr] at hj; cases hj⟩
theorem wpTo_start (S : World → Prop) (n : Nat) {id : Nat} {a : Act} {w : World} (hm : P.follows .mixedOrders = true) (hS : S w.drew) (h : S w.drew → wpTo P .any ops Q S n ops.size (Array.replicate ops.size false) a w.drew) : (Code.region id ops true).wp P Q a w :=
  wp_region_any hm (wpTo_any _ _ _ _ (h hS))
end
theorem setCell_comm (w : World) (a b : Addr) (u v : Value) (h : a.block ≠ b.block) : (w.setCell a u).setCell b v = (w.setCell b v).setCell a u := by
  simp only [World.setCell]
  congr 1
  refine Array.ext_getElem? fun k => ?_
  simp only [Array.getElem?_modify]
  by_cases h1 : a.block = k <;> by_cases h2 : b.block = k <;> simp [h1, h2]
  exact absurd (h1.trans h2.symm) h
end Go.Proofs.YtjmemapkipkocaaDoor

/-
  Expressions: 'binary'.
-/
namespace Go.Proofs.YtjmemapkipkocaaDoor
open Go.RowKit Go.Maps
set_option linter.unusedVariables false
set_option linter.unusedSimpArgs false
set_option maxRecDepth 100000
set_option maxHeartbeats 1000000

/-- Where the loop of 'binary' is. -/
structure BinAt (c : Cx) (w : World) (r1 : Nat) (lv d : Int) (R : Ex × St) (k : Nat) (t8 t9 : Value) (wr : World) : Prop where
  ex : ∃ (b8 b9 : Nat) (s0 : St) (left : Ex) (a : Option Addr) (n cp lo hi : Nat), t8 = .pointer (some ⟨b8, 0, none⟩) ∧ t9 = .pointer (some ⟨b9, 0, none⟩) ∧
    NowQ c w (P.sign c.l lv s0) [kq lo hi [r1] left.kids (.slice a n cp)] wr ∧
    OwnB wr b8 #[.int .i64 (P.tok c.l s0).kind, .string ⟨(P.tok c.l s0).text.toArray⟩, .int .i64 (P.tok c.l s0).n, .int .i64 (P.tok c.l s0).pos] 60 ∧
    OwnB wr b9 #[.int .i64 (P.signM c.l lv s0).1, .int .i64 (P.signM c.l lv s0).2] 69 ∧
    OwnB wr r1 #[.int .i64 left.op, .int .i64 left.ty.kind, .int .i64 left.ty.ptr, .int .i64 left.ty.len, .string ⟨left.nm.toArray⟩, .int .i64 left.n, .slice a n cp, .int .i64 left.pos] 105 ∧
    OwnB wr w.heap.size #[.int .i64 0, .int .i64 0, .int .i64 0, .int .i64 0, .string ⟨#[]⟩, .int .i64 0, .slice none 0 0, .int .i64 0] 105 ∧
    (P.recs c.l k).binL lv d left s0 = some R ∧ w.heap.size < lo ∧ hi ≤ b8 ∧ hi ≤ b9 ∧ lo ≤ hi ∧ r1 < b8 ∧ r1 < b9 ∧ b8 ≠ b9
theorem binary_step (c : Cx) (hc : c.Ok) (f : Nat) (GA : ∀ k, k ≤ f → GoodE c k) (lv d : Int) (s : St) (R : Ex × St) (w : World) (hl0 : 0 ≤ lv) (hl1 : lv ≤ 12) (h0 : 0 ≤ d) (hd : d + (f + 1) ≤ 1000000000)
    (hR : P.bin (P.recs c.l f) lv d s = some R) (h : PIn w c s) : Calls Tryd.prog 92 #[pv c, .int .i64 lv, .int .i64 d] w (DoesE c R w) := by
  have HN := Lib.hid (NowQ.start h)
  have hg := HN.out.now.g
  have hgt := HN.out.now.gt
  unfold P.bin at hR
  by_cases hlv : lv = 12
  · rw [if_pos hlv] at hR
    have CU := fun W H => Lib.hid ((GA f (Nat.le_refl _)).unary d s R W h0 (by omega) hR H)
    have hl2 : (lv == 12) = true := by simp [hlv]
    clear h hR hlv GA
    unfold pv
    go_enter Tryd.func92, Tryd.ntmps92
    go_wp2_with fail
    refine (CU _ (NowQ.pin (NowQ.to HN.out [w.heap.size] Keeps.au (by simp <;> omega) (by simp [kq] <;> omega)))).out.mono ?_
    rintro e w1 ⟨a1, n1, p1, rfl, hP, hK, hT⟩
    have hz_w1 := hK.size
    try simp only [World.size_alloc, World.size_setCell, World.size_drew, World.heap_drewN] at hz_w1
    have O_w1_0 : OwnB w1 (w.heap.size) #[.int .i64 0, .int .i64 0, .int .i64 0, .int .i64 0, .string ⟨#[]⟩, .int .i64 0, .slice none 0 0, .int .i64 0] 105 := OwnB.call OwnB.au hK (by simp only [List.mem_singleton]; omega)
    obtain ⟨y_w1_0, x_w1_0, b_w1_0⟩ := O_w1_0.facts
    have HN1 := Lib.hid (NowQ.callE (NowQ.to HN.out [w.heap.size] Keeps.au (by simp <;> omega) (by simp [kq] <;> omega)) hP hK hT)
    clear hP hK hT
    go_wp2_with fail
    refine bodyPost_ret (v := (.agg #[.int .i64 (R.1).op, .int .i64 (R.1).ty.kind, .int .i64 (R.1).ty.ptr, .int .i64 (R.1).ty.len, .string ⟨(R.1).nm.toArray⟩, .int .i64 (R.1).n, .slice a1 n1 p1, .int .i64 (R.1).pos])) (by simp [results, Tryd.results92, go_sem, *]) rfl ?_
    exact NowQ.fin0 (NowQ.to HN1.out [w.heap.size] Keeps.au (by simp <;> omega) (by simp [kq] <;> omega))
  · rw [if_neg hlv] at hR
    obtain ⟨A, hA, hR⟩ := Option.bind_eq_some_iff.1 hR
    have CC := fun W H => Lib.hid ((GA f (Nat.le_refl _)).bin (lv + 1) d s A W (by omega) (by omega) h0 (by omega) hA H)
    have CS := fun (s0 : St) W H => Lib.hid (sign_any c hc s0 W H lv)
    have CS1 := CS A.2
    have hl2 : (lv == 12) = false := by simp [hlv]
    have hlv2 : lv ≤ 11 := by omega
    have hw : wrap64 (lv + 1) = lv + 1 := wrapJ (by omega) (by omega)
    have hw' : IntKind.i64.wrap (lv + 1) = lv + 1 := wrapI (by omega) (by omega)
    have HR := Lib.hid hR
    have HGA := Lib.hid GA
    clear h hA hR hlv GA
    unfold pv
    go_enter Tryd.func92, Tryd.ntmps92
    go_wp2_with fail
    refine (CC _ (NowQ.pin (NowQ.to HN.out [w.heap.size] Keeps.au (by simp <;> omega) (by simp [kq] <;> omega)))).out.mono ?_
    rintro e w1 ⟨a1, n1, p1, rfl, hP, hK, hT⟩
    have hz_w1 := hK.size
    try simp only [World.size_alloc, World.size_setCell, World.size_drew, World.heap_drewN] at hz_w1
    have O_w1_0 : OwnB w1 (w.heap.size) #[.int .i64 0, .int .i64 0, .int .i64 0, .int .i64 0, .string ⟨#[]⟩, .int .i64 0, .slice none 0 0, .int .i64 0] 105 := OwnB.call OwnB.au hK (by simp only [List.mem_singleton]; omega)
    obtain ⟨y_w1_0, x_w1_0, b_w1_0⟩ := O_w1_0.facts
    have HN1 := Lib.hid (NowQ.callE (NowQ.to HN.out [w.heap.size] Keeps.au (by simp <;> omega) (by simp [kq] <;> omega)) hP hK hT)
    clear hP hK hT
    go_wp2_with fail
    refine (CS1 _ (NowQ.pin (NowQ.to HN1.out [w.heap.size, w1.heap.size] Keeps.au (by simp <;> omega) (by simp [kq] <;> omega)))).out.mono ?_
    rintro e w2 ⟨rfl, hP, hK⟩
    have hz_w2 := hK.size
    try simp only [World.size_alloc, World.size_setCell, World.size_drew, World.heap_drewN] at hz_w2
    have O_w2_0 : OwnB w2 (w.heap.size) #[.int .i64 0, .int .i64 0, .int .i64 0, .int .i64 0, .string ⟨#[]⟩, .int .i64 0, .slice none 0 0, .int .i64 0] 105 := OwnB.call OwnB.au hK (by simp only [List.mem_singleton]; omega)
    obtain ⟨y_w2_0, x_w2_0, b_w2_0⟩ := O_w2_0.facts
    have O_w2_1 : OwnB w2 (w1.heap.size) #[.int .i64 (A.1).op, .int .i64 (A.1).ty.kind, .int .i64 (A.1).ty.ptr, .int .i64 (A.1).ty.len, .string ⟨(A.1).nm.toArray⟩, .int .i64 (A.1).n, .slice a1 n1 p1, .int .i64 (A.1).pos] 105 := OwnB.call OwnB.au hK (by simp only [List.mem_singleton]; omega)
    obtain ⟨y_w2_1, x_w2_1, b_w2_1⟩ := O_w2_1.facts
    have HN2 := Lib.hid (NowQ.call (NowQ.to HN1.out [w.heap.size, w1.heap.size] Keeps.au (by simp <;> omega) (by simp [kq] <;> omega)) hP hK)
    clear hP hK
    go_wp2_with fail
    go_loopg [8, 9] f (fun k t8 t9 wr => k ≤ f ∧ BinAt c w w1.heap.size lv d R k t8 t9 wr)
    case atStart =>
      exact ⟨Nat.le_refl _, ⟨_, _, A.2, A.1, a1, n1, p1, _, _, rfl, rfl, NowQ.hole (NowQ.to HN2.out [w.heap.size, w1.heap.size, w2.heap.size, w2.heap.size+1] Keeps.au (by simp <;> omega) (by simp [kq] <;> omega)) [w1.heap.size] (by simp), OwnB.au, OwnB.au, OwnB.au, OwnB.au, HR.out, (by (try simp only [World.size_alloc, World.size_setCell, World.size_drew, World.heap_drewN]); omega), (by (try simp only [World.size_alloc, World.size_setCell, World.size_drew, World.heap_drewN]); omega), (by (try simp only [World.size_alloc, World.size_setCell, World.size_drew, World.heap_drewN]); omega), (by (try simp only [World.size_alloc, World.size_setCell, World.size_drew, World.heap_drewN]); omega), (by (try simp only [World.size_alloc, World.size_setCell, World.size_drew, World.heap_drewN]); omega), (by (try simp only [World.size_alloc, World.size_setCell, World.size_drew, World.heap_drewN]); omega), (by (try simp only [World.size_alloc, World.size_setCell, World.size_drew, World.heap_drewN]); omega)⟩⟩
    case round =>
      obtain ⟨hkf, ⟨b8, b9, s0, left, a, n, cp, lo, hi, rfl, rfl, hN, O8, O9, O7, O6, hb, m1, m2, m3, m4, m5, m6, m7⟩⟩ := hrel
      clear O_w1_0 y_w1_0 x_w1_0 b_w1_0 O_w2_0 y_w2_0 x_w2_0 b_w2_0 O_w2_1 y_w2_1 x_w2_1 b_w2_1
      have HNr := Lib.hid hN
      have HB := Lib.hid hb
      clear hN hb
      obtain ⟨y8, x8, z8⟩ := O8.facts
      obtain ⟨y9, x9, z9⟩ := O9.facts
      obtain ⟨y7, x7, z7⟩ := O7.facts
      obtain ⟨y6, x6, z6⟩ := O6.facts
      have hsw : w.heap.size ≤ wr.heap.size := HNr.out.now.kp.size
      obtain ⟨T, hT⟩ : ∃ T, T = P.tok c.l s0 := ⟨_, rfl⟩
      obtain ⟨M, hM⟩ : ∃ M, M = P.signM c.l lv s0 := ⟨_, rfl⟩
      rw [← hT] at O8 y8
      rw [← hM] at O9 y9
      obtain ⟨k, rfl⟩ : ∃ k, gk = k + 1 := by
        cases gk with
        | zero => cases HB.out
        | succ k => exact ⟨k, rfl⟩
      have hB2 : P.binL c.l (P.recs c.l k) lv d left s0 = some R := HB.out
      unfold P.binL at hB2
      rw [← hM, ← hT] at hB2
      by_cases hm : M.1 = 0
      · rw [if_pos hm] at hB2
        obtain rfl := Option.some.inj hB2
        have e : P.sign c.l lv s0 = s0 := by rw [P.sign, ← hM, if_pos hm]
        rw [e] at HNr
        have hm1 : (M.1 != 0) = false := by simp [hm]
        clear hB2 hm hT hM e HB
        go_wp2_with fail
        refine bodyPost_ret (v := (.agg #[.int .i64 (left).op, .int .i64 (left).ty.kind, .int .i64 (left).ty.ptr, .int .i64 (left).ty.len, .string ⟨(left).nm.toArray⟩, .int .i64 (left).n, .slice a n cp, .int .i64 (left).pos])) (by simp [results, Tryd.results92, go_sem, *]) rfl ?_
        exact NowQ.fin0 (R := (left, s0)) (NowQ.to HNr.out [w.heap.size, w1.heap.size, b8, b9] Keeps.au (by simp <;> omega) (by simp [kq] <;> omega))
      · rw [if_neg hm] at hB2
        obtain ⟨B, hB, hR⟩ := Option.bind_eq_some_iff.1 hB2
        have CB := fun W H => Lib.hid ((HGA.out k (by omega)).bin (lv + 1) d (P.next c.l s0) B W (by omega) (by omega) h0 (by omega) hB H)
        have CS2 := CS B.2
        have e : P.sign c.l lv s0 = P.next c.l s0 := by rw [P.sign, ← hM, if_neg hm]
        rw [e] at HNr
        have hm1 : (M.1 != 0) = true := by simp [hm]
        have HR2 := Lib.hid hR
        clear hB2 hm hT hM e HB hB hR
        go_wp2_with fail
        have ne_0_1 : ¬ (w.heap.size : Nat) = w1.heap.size := by omega
        have ne_0_2 : ¬ (w.heap.size : Nat) = b8 := by omega
        have ne_0_3 : ¬ (w.heap.size : Nat) = b9 := by omega
        have ne_1_0 : ¬ (w1.heap.size : Nat) = w.heap.size := by omega
        have ne_1_2 : ¬ (w1.heap.size : Nat) = b8 := by omega
        have ne_1_3 : ¬ (w1.heap.size : Nat) = b9 := by omega
        have ne_2_0 : ¬ (b8 : Nat) = w.heap.size := by omega
        have ne_2_1 : ¬ (b8 : Nat) = w1.heap.size := by omega
        have ne_2_3 : ¬ (b8 : Nat) = b9 := by omega
        have ne_3_0 : ¬ (b9 : Nat) = w.heap.size := by omega
        have ne_3_1 : ¬ (b9 : Nat) = w1.heap.size := by omega
        have ne_3_2 : ¬ (b9 : Nat) = b8 := by omega
        refine wpTo_start (fun w' => OwnB w' (w1.heap.size) #[.int .i64 (left).op, .int .i64 (left).ty.kind, .int .i64 (left).ty.ptr, .int .i64 (left).ty.len, .string ⟨(left).nm.toArray⟩, .int .i64 (left).n, .slice a n cp, .int .i64 (left).pos] 105 ∧ OwnB w' (b8) #[.int .i64 (T).kind, .string ⟨(T).text.toArray⟩, .int .i64 (T).n, .int .i64 (T).pos] 60 ∧ OwnB w' (b9) #[.int .i64 (M).1, .int .i64 (M).2] 69) 12 (by kernel_rfl) ⟨OwnB.au, OwnB.au, OwnB.au⟩ (fun hHeld => ?_)
        refine wpTo_take 0 (v := ?_) (by kernel_rfl) (by kernel_rfl) rfl (by kernel_rfl) (by kernel_rfl) rfl (fun _ _ _ h => h) (Or.inl ⟨by rfl, ?_⟩) hHeld ?_
        rotate_left
        · (intro w' ⟨h0, h1, h2⟩; obtain ⟨ya0, yb0, yc0⟩ := h0.facts; obtain ⟨ya1, yb1, yc1⟩ := h1.facts; obtain ⟨ya2, yb2, yc2⟩ := h2.facts; go_simp; try with_reducible rfl)
        try simp only [Act.put, List.setIfInBounds_toArray, List.set_cons_zero, List.set_cons_succ]
        refine wpTo_take 1 (v := ?_) (by kernel_rfl) (by kernel_rfl) rfl (by kernel_rfl) (by kernel_rfl) rfl (fun _ _ _ h => h) (Or.inl ⟨by rfl, ?_⟩) hHeld ?_
        rotate_left
        · (intro w' ⟨h0, h1, h2⟩; obtain ⟨ya0, yb0, yc0⟩ := h0.facts; obtain ⟨ya1, yb1, yc1⟩ := h1.facts; obtain ⟨ya2, yb2, yc2⟩ := h2.facts; go_simp; try with_reducible rfl)
        try simp only [Act.put, List.setIfInBounds_toArray, List.set_cons_zero, List.set_cons_succ]
        refine wpTo_take 2 (v := ?_) (by kernel_rfl) (by kernel_rfl) rfl (by kernel_rfl) (by kernel_rfl) rfl (fun _ _ _ h => h) (Or.inl ⟨by rfl, ?_⟩) hHeld ?_
        rotate_left
        · (intro w' ⟨h0, h1, h2⟩; obtain ⟨ya0, yb0, yc0⟩ := h0.facts; obtain ⟨ya1, yb1, yc1⟩ := h1.facts; obtain ⟨ya2, yb2, yc2⟩ := h2.facts; go_simp; try with_reducible rfl)
        try simp only [Act.put, List.setIfInBounds_toArray, List.set_cons_zero, List.set_cons_succ]
        refine wpTo_take 3 (v := ?_) (by kernel_rfl) (by kernel_rfl) rfl (by kernel_rfl) (by kernel_rfl) rfl (fun _ _ _ h => h) (Or.inl ⟨by rfl, ?_⟩) hHeld ?_
        rotate_left
        · (intro w' ⟨h0, h1, h2⟩; obtain ⟨ya0, yb0, yc0⟩ := h0.facts; obtain ⟨ya1, yb1, yc1⟩ := h1.facts; obtain ⟨ya2, yb2, yc2⟩ := h2.facts; go_simp; try with_reducible rfl)
        try simp only [Act.put, List.setIfInBounds_toArray, List.set_cons_zero, List.set_cons_succ]
        refine wpTo_take 4 (v := ?_) (by kernel_rfl) (by kernel_rfl) rfl (by kernel_rfl) (by kernel_rfl) rfl (fun _ _ _ h => h) (Or.inl ⟨by rfl, ?_⟩) hHeld ?_
        rotate_left
        · (intro w' ⟨h0, h1, h2⟩; obtain ⟨ya0, yb0, yc0⟩ := h0.facts; obtain ⟨ya1, yb1, yc1⟩ := h1.facts; obtain ⟨ya2, yb2, yc2⟩ := h2.facts; go_simp; try with_reducible rfl)
        try simp only [Act.put, List.setIfInBounds_toArray, List.set_cons_zero, List.set_cons_succ]
        refine wpTo_take 5 (v := ?_) (by kernel_rfl) (by kernel_rfl) rfl (by kernel_rfl) (by kernel_rfl) rfl (fun _ _ _ h => h) (Or.inl ⟨by rfl, ?_⟩) hHeld ?_
        rotate_left
        · (intro w' ⟨h0, h1, h2⟩; obtain ⟨ya0, yb0, yc0⟩ := h0.facts; obtain ⟨ya1, yb1, yc1⟩ := h1.facts; obtain ⟨ya2, yb2, yc2⟩ := h2.facts; go_simp; try with_reducible rfl)
        try simp only [Act.put, List.setIfInBounds_toArray, List.set_cons_zero, List.set_cons_succ]
        refine wpTo_take 6 (v := ?_) (by kernel_rfl) (by kernel_rfl) rfl (by kernel_rfl) (by kernel_rfl) rfl (fun _ _ _ h => h) (Or.inl ⟨by rfl, ?_⟩) hHeld ?_
        rotate_left
        · (intro w' ⟨h0, h1, h2⟩; obtain ⟨ya0, yb0, yc0⟩ := h0.facts; obtain ⟨ya1, yb1, yc1⟩ := h1.facts; obtain ⟨ya2, yb2, yc2⟩ := h2.facts; go_simp; try with_reducible rfl)
        try simp only [Act.put, List.setIfInBounds_toArray, List.set_cons_zero, List.set_cons_succ]
        refine wpTo_take 9 (v := ?_) (by kernel_rfl) (by kernel_rfl) rfl (by kernel_rfl) (by kernel_rfl) rfl (fun _ _ _ h => h) (Or.inl ⟨by rfl, ?_⟩) hHeld ?_
        rotate_left
        · (intro w' ⟨h0, h1, h2⟩; obtain ⟨ya0, yb0, yc0⟩ := h0.facts; obtain ⟨ya1, yb1, yc1⟩ := h1.facts; obtain ⟨ya2, yb2, yc2⟩ := h2.facts; go_simp; try with_reducible rfl)
        try simp only [Act.put, List.setIfInBounds_toArray, List.set_cons_zero, List.set_cons_succ]
        refine wpTo_take 10 (v := ?_) (by kernel_rfl) (by kernel_rfl) rfl (by kernel_rfl) (by kernel_rfl) rfl (fun _ _ _ h => h) (Or.inl ⟨by rfl, ?_⟩) hHeld ?_
        rotate_left
        · (intro w' ⟨h0, h1, h2⟩; obtain ⟨ya0, yb0, yc0⟩ := h0.facts; obtain ⟨ya1, yb1, yc1⟩ := h1.facts; obtain ⟨ya2, yb2, yc2⟩ := h2.facts; go_simp; try with_reducible rfl)
        try simp only [Act.put, List.setIfInBounds_toArray, List.set_cons_zero, List.set_cons_succ]
        refine wpTo_one 7 (by kernel_rfl) rfl (fun K hKo => ?_)
        go_simp
        go_at_call 92
        refine (CB _ (NowQ.pin (NowQ.to HNr.out [w.heap.size, w1.heap.size, b8, b9] Keeps.au (by simp <;> omega) (by simp [kq] <;> omega)))).out.mono ?_
        rintro e w3 ⟨a2, n2, p2, rfl, hP, hK, hT⟩
        have hz_w3 := hK.size
        try simp only [World.size_alloc, World.size_setCell, World.size_drew, World.heap_drewN] at hz_w3
        have O_w3_0 : OwnB w3 (w.heap.size) #[.int .i64 0, .int .i64 0, .int .i64 0, .int .i64 0, .string ⟨#[]⟩, .int .i64 0, .slice none 0 0, .int .i64 0] 105 := OwnB.call OwnB.au hK (by simp only [List.mem_singleton]; omega)
        obtain ⟨y_w3_0, x_w3_0, b_w3_0⟩ := O_w3_0.facts
        have O_w3_1 : OwnB w3 (w1.heap.size) #[.int .i64 (left).op, .int .i64 (left).ty.kind, .int .i64 (left).ty.ptr, .int .i64 (left).ty.len, .string ⟨(left).nm.toArray⟩, .int .i64 (left).n, .slice a n cp, .int .i64 (left).pos] 105 := OwnB.call OwnB.au hK (by simp only [List.mem_singleton]; omega)
        obtain ⟨y_w3_1, x_w3_1, b_w3_1⟩ := O_w3_1.facts
        have O_w3_2 : OwnB w3 (b8) #[.int .i64 (T).kind, .string ⟨(T).text.toArray⟩, .int .i64 (T).n, .int .i64 (T).pos] 60 := OwnB.call OwnB.au hK (by simp only [List.mem_singleton]; omega)
        obtain ⟨y_w3_2, x_w3_2, b_w3_2⟩ := O_w3_2.facts
        have O_w3_3 : OwnB w3 (b9) #[.int .i64 (M).1, .int .i64 (M).2] 69 := OwnB.call OwnB.au hK (by simp only [List.mem_singleton]; omega)
        obtain ⟨y_w3_3, x_w3_3, b_w3_3⟩ := O_w3_3.facts
        have HN3 := Lib.hid (NowQ.callE (NowQ.to HNr.out [w.heap.size, w1.heap.size, b8, b9] Keeps.au (by simp <;> omega) (by simp [kq] <;> omega)) hP hK hT)
        clear hP hK hT
        go_wp2_with fail
        refine Shut.out hKo _ _ (fun _ _ => ⟨OwnB.au, OwnB.au, OwnB.au⟩) ?_
        clear hKo K
        try simp only [Act.put, List.setIfInBounds_toArray, List.set_cons_zero, List.set_cons_succ]
        refine wpTo_one 8 (by kernel_rfl) rfl (fun K hKo => ?_)
        go_simp
        refine Shut.out hKo _ _ (fun _ _ => ⟨OwnB.au, OwnB.au, OwnB.au⟩) ?_
        clear hKo K
        try simp only [Act.put, List.setIfInBounds_toArray, List.set_cons_zero, List.set_cons_succ]
        refine wpTo_one 11 (by kernel_rfl) rfl (fun K hKo => ?_)
        go_simp
        refine Shut.out hKo _ _ (fun _ _ => ⟨OwnB.au, OwnB.au, OwnB.au⟩) ?_
        clear hKo K
        try simp only [Act.put, List.setIfInBounds_toArray, List.set_cons_zero, List.set_cons_succ]
        refine wpTo_one 12 (by kernel_rfl) rfl (fun K hKo => ?_)
        go_simp
        refine Shut.out hKo _ _ (fun h _ => absurd rfl h) ?_
        clear hKo K
        try simp only [Act.put, List.setIfInBounds_toArray, List.set_cons_zero, List.set_cons_succ]
        refine wpTo_done (by kernel_rfl) ?_ _
        go_wp2_with fail
        refine (CS2 _ (NowQ.pin (NowQ.to HN3.out [w.heap.size, w1.heap.size, w3.heap.size, w3.heap.size+1, w3.heap.size+2] Keeps.au (by simp <;> omega) (by simp [kq] <;> omega)))).out.mono ?_
        rintro e w4 ⟨rfl, hP, hK⟩
        have hz_w4 := hK.size
        try simp only [World.size_alloc, World.size_setCell, World.size_drew, World.heap_drewN] at hz_w4
        have O_w4_0 : OwnB w4 (w.heap.size) #[.int .i64 0, .int .i64 0, .int .i64 0, .int .i64 0, .string ⟨#[]⟩, .int .i64 0, .slice none 0 0, .int .i64 0] 105 := OwnB.call OwnB.au hK (by simp only [List.mem_singleton]; omega)
        obtain ⟨y_w4_0, x_w4_0, b_w4_0⟩ := O_w4_0.facts
        have O_w4_1 : OwnB w4 (w1.heap.size) #[.int .i64 M.1, .int .i64 0, .int .i64 0, .int .i64 0, .string ⟨#[]⟩, .int .i64 0, .slice (some ⟨w3.heap.size, 0, none⟩) 2 2, .int .i64 T.pos] 105 := OwnB.call (by repeat (first | with_reducible apply OwnB.set8 | with_reducible assumption | (with_reducible refine OwnB.new ?_; (first | with_reducible rfl | (simp only [World.size_alloc, World.size_setCell, World.size_drew, World.heap_drewN]; done) | (simp only [World.size_alloc, World.size_setCell, World.size_drew, World.heap_drewN]; omega))) | with_reducible refine OwnB.alloc ?_ _ | with_reducible refine OwnB.drew ?_ | with_reducible refine OwnB.drewN ?_ _ | with_reducible refine OwnB.setCell ?_ _ _ ?_ | (dsimp only; omega) | omega)) hK (by simp only [List.mem_singleton]; omega)
        obtain ⟨y_w4_1, x_w4_1, b_w4_1⟩ := O_w4_1.facts
        have O_w4_2 : OwnB w4 (w3.heap.size) #[.int .i64 (left).op, .int .i64 (left).ty.kind, .int .i64 (left).ty.ptr, .int .i64 (left).ty.len, .string ⟨(left).nm.toArray⟩, .int .i64 (left).n, .slice a n cp, .int .i64 (left).pos, .int .i64 (B.1).op, .int .i64 (B.1).ty.kind, .int .i64 (B.1).ty.ptr, .int .i64 (B.1).ty.len, .string ⟨(B.1).nm.toArray⟩, .int .i64 (B.1).n, .slice a2 n2 p2, .int .i64 (B.1).pos] 105 := OwnB.call OwnB.au hK (by simp only [List.mem_singleton]; omega)
        obtain ⟨y_w4_2, x_w4_2, b_w4_2⟩ := O_w4_2.facts
        have O_w4_3 : OwnB w4 (w3.heap.size+1) #[.int .i64 (T).kind, .string ⟨(T).text.toArray⟩, .int .i64 (T).n, .int .i64 (T).pos] 60 := OwnB.call OwnB.au hK (by simp only [List.mem_singleton]; omega)
        obtain ⟨y_w4_3, x_w4_3, b_w4_3⟩ := O_w4_3.facts
        have O_w4_4 : OwnB w4 (w3.heap.size+2) #[.int .i64 (M).1, .int .i64 (M).2] 69 := OwnB.call OwnB.au hK (by simp only [List.mem_singleton]; omega)
        obtain ⟨y_w4_4, x_w4_4, b_w4_4⟩ := O_w4_4.facts
        have HN4 := Lib.hid (NowQ.call (NowQ.to HN3.out [w.heap.size, w1.heap.size, w3.heap.size, w3.heap.size+1, w3.heap.size+2] Keeps.au (by simp <;> omega) (by simp [kq] <;> omega)) hP hK)
        clear hP hK
        go_wp2_with fail
        go_roundg k
        case measure => omega
        case rel =>
          exact ⟨by omega, ⟨_, _, B.2, ⟨M.1, ty0, [], 0, two left B.1, T.pos⟩, _, _, _, _, _, rfl, rfl, NowQ.joinTwo (g := w3.heap.size) (NowQ.to HN4.out [w.heap.size, w1.heap.size, w3.heap.size, w3.heap.size+1, w3.heap.size+2] Keeps.au (by simp <;> omega) (by simp [kq] <;> omega)) OwnB.au (by refine ⟨?_, ?_, ?_, ?_⟩ <;> (try simp only [World.size_alloc, World.size_setCell, World.size_drew, World.heap_drewN]) <;> omega) [w1.heap.size] (by intro x hx; simp at hx; subst hx; refine ⟨.inr (.inr (by simp)), .inl (by (try simp); omega), by omega⟩), (by repeat (first | with_reducible apply OwnB.set4 | with_reducible assumption | (with_reducible refine OwnB.new ?_; (first | with_reducible rfl | (simp only [World.size_alloc, World.size_setCell, World.size_drew, World.heap_drewN]; done) | (simp only [World.size_alloc, World.size_setCell, World.size_drew, World.heap_drewN]; omega))) | with_reducible refine OwnB.alloc ?_ _ | with_reducible refine OwnB.drew ?_ | with_reducible refine OwnB.drewN ?_ _ | with_reducible refine OwnB.setCell ?_ _ _ ?_ | (dsimp only; omega) | omega)), (by repeat (first | with_reducible apply OwnB.set2 | with_reducible assumption | (with_reducible refine OwnB.new ?_; (first | with_reducible rfl | (simp only [World.size_alloc, World.size_setCell, World.size_drew, World.heap_drewN]; done) | (simp only [World.size_alloc, World.size_setCell, World.size_drew, World.heap_drewN]; omega))) | with_reducible refine OwnB.alloc ?_ _ | with_reducible refine OwnB.drew ?_ | with_reducible refine OwnB.drewN ?_ _ | with_reducible refine OwnB.setCell ?_ _ _ ?_ | (dsimp only; omega) | omega)), (show OwnB _ (w1.heap.size) #[.int .i64 M.1, .int .i64 0, .int .i64 0, .int .i64 0, .string ⟨#[]⟩, .int .i64 0, .slice (some ⟨w3.heap.size, 0, none⟩) 2 2, .int .i64 T.pos] 105 from OwnB.au), OwnB.au, HR2.out, (by (try simp only [World.size_alloc, World.size_setCell, World.size_drew, World.heap_drewN]); omega), (by (try simp only [World.size_alloc, World.size_setCell, World.size_drew, World.heap_drewN]); omega), (by (try simp only [World.size_alloc, World.size_setCell, World.size_drew, World.heap_drewN]); omega), (by (try simp only [World.size_alloc, World.size_setCell, World.size_drew, World.heap_drewN]); omega), (by (try simp only [World.size_alloc, World.size_setCell, World.size_drew, World.heap_drewN]); omega), (by (try simp only [World.size_alloc, World.size_setCell, World.size_drew, World.heap_drewN]); omega), (by (try simp only [World.size_alloc, World.size_setCell, World.size_drew, World.heap_drewN]); omega)⟩⟩
end Go.Proofs.YtjmemapkipkocaaDoor

/-
  Expressions: 'cond', 'within'.
-/
namespace Go.Proofs.YtjmemapkipkocaaDoor
open Go.RowKit Go.Maps
set_option linter.unusedVariables false
set_option linter.unusedSimpArgs false
set_option maxRecDepth 100000
set_option maxHeartbeats 600000

theorem within_step (c : Cx) (hc : c.Ok) (f : Nat) (G : GoodE c f) (d : Int) (s : St) (R : Ex × St) (w : World) (h0 : 0 ≤ d) (hd : d + f ≤ 1000000000)
    (hR : P.paren c.l (P.recs c.l f) d s = some R) (h : PIn w c s) : Calls Tryd.prog 91 #[pv c, .int .i64 d] w (DoesE c R w) := by
  have HN := Lib.hid (NowQ.start h)
  have hg := HN.out.now.g
  have hgt := HN.out.now.gt
  unfold P.paren at hR
  obtain ⟨A, hA, hR⟩ := Option.bind_eq_some_iff.1 hR
  obtain rfl := Option.some.inj hR
  have CN := fun W H => Lib.hid (need_any c hc s W H [40])
  have CE := fun W H => Lib.hid (G.expr d (P.need c.l [40] s) A W h0 hd hA H)
  have CM := fun W H => Lib.hid (need_any c hc A.2 W H [41])
  clear h hA hR
  unfold pv
  go_enter Tryd.func91, Tryd.ntmps91
  go_wp2_with fail
  refine (CN _ (NowQ.pin (NowQ.to HN.out [w.heap.size] Keeps.au (by simp <;> omega) (by simp [kq] <;> omega)))).out.mono ?_
  rintro e w1 ⟨rfl, hP, hK⟩
  have hz_w1 := hK.size
  try simp only [World.size_alloc, World.size_setCell, World.size_drew, World.heap_drewN] at hz_w1
  have O_w1_0 : OwnB w1 (w.heap.size) #[.int .i64 0, .int .i64 0, .int .i64 0, .int .i64 0, .string ⟨#[]⟩, .int .i64 0, .slice none 0 0, .int .i64 0] 105 := OwnB.call OwnB.au hK (by simp only [List.mem_singleton]; omega)
  obtain ⟨y_w1_0, x_w1_0, b_w1_0⟩ := O_w1_0.facts
  have HN1 := Lib.hid (NowQ.call (NowQ.to HN.out [w.heap.size] Keeps.au (by simp <;> omega) (by simp [kq] <;> omega)) hP hK)
  clear hP hK
  go_wp2_with fail
  refine (CE _ (NowQ.pin (NowQ.to HN1.out [w.heap.size] Keeps.au (by simp <;> omega) (by simp [kq] <;> omega)))).out.mono ?_
  rintro e w2 ⟨a1, n1, p1, rfl, hP, hK, hT⟩
  have hz_w2 := hK.size
  try simp only [World.size_alloc, World.size_setCell, World.size_drew, World.heap_drewN] at hz_w2
  have O_w2_0 : OwnB w2 (w.heap.size) #[.int .i64 0, .int .i64 0, .int .i64 0, .int .i64 0, .string ⟨#[]⟩, .int .i64 0, .slice none 0 0, .int .i64 0] 105 := OwnB.call OwnB.au hK (by simp only [List.mem_singleton]; omega)
  obtain ⟨y_w2_0, x_w2_0, b_w2_0⟩ := O_w2_0.facts
  have HN2 := Lib.hid (NowQ.callE (NowQ.to HN1.out [w.heap.size] Keeps.au (by simp <;> omega) (by simp [kq] <;> omega)) hP hK hT)
  clear hP hK hT
  go_wp2_with fail
  refine (CM _ (NowQ.pin (NowQ.to HN2.out [w.heap.size, w2.heap.size] Keeps.au (by simp <;> omega) (by simp [kq] <;> omega)))).out.mono ?_
  rintro e w3 ⟨rfl, hP, hK⟩
  have hz_w3 := hK.size
  try simp only [World.size_alloc, World.size_setCell, World.size_drew, World.heap_drewN] at hz_w3
  have O_w3_0 : OwnB w3 (w.heap.size) #[.int .i64 0, .int .i64 0, .int .i64 0, .int .i64 0, .string ⟨#[]⟩, .int .i64 0, .slice none 0 0, .int .i64 0] 105 := OwnB.call OwnB.au hK (by simp only [List.mem_singleton]; omega)
  obtain ⟨y_w3_0, x_w3_0, b_w3_0⟩ := O_w3_0.facts
  have O_w3_1 : OwnB w3 (w2.heap.size) #[.int .i64 (A.1).op, .int .i64 (A.1).ty.kind, .int .i64 (A.1).ty.ptr, .int .i64 (A.1).ty.len, .string ⟨(A.1).nm.toArray⟩, .int .i64 (A.1).n, .slice a1 n1 p1, .int .i64 (A.1).pos] 105 := OwnB.call OwnB.au hK (by simp only [List.mem_singleton]; omega)
  obtain ⟨y_w3_1, x_w3_1, b_w3_1⟩ := O_w3_1.facts
  have HN3 := Lib.hid (NowQ.call (NowQ.to HN2.out [w.heap.size, w2.heap.size] Keeps.au (by simp <;> omega) (by simp [kq] <;> omega)) hP hK)
  clear hP hK
  go_wp2_with fail
  refine bodyPost_ret (v := (.agg #[.int .i64 (A.1).op, .int .i64 (A.1).ty.kind, .int .i64 (A.1).ty.ptr, .int .i64 (A.1).ty.len, .string ⟨(A.1).nm.toArray⟩, .int .i64 (A.1).n, .slice a1 n1 p1, .int .i64 (A.1).pos])) (by simp [results, Tryd.results91, go_sem, *]) rfl ?_
  exact NowQ.fin0 (R := (A.1, P.need c.l [41] A.2)) (NowQ.to HN3.out [w.heap.size, w2.heap.size] Keeps.au (by simp <;> omega) (by simp [kq] <;> omega))
theorem cond_step (c : Cx) (hc : c.Ok) (f : Nat) (G : GoodE c f) (d : Int) (s : St) (R : Ex × St) (w : World) (h0 : 0 ≤ d) (hd : d + (f + 1) ≤ 1000000000)
    (hR : P.cond c.l (P.recs c.l f) d s = some R) (h : PIn w c s) : Calls Tryd.prog 89 #[pv c, .int .i64 d] w (DoesE c R w) := by
  have HN := Lib.hid (NowQ.start h)
  have hg := HN.out.now.g
  have hgt := HN.out.now.gt
  unfold P.cond at hR
  obtain ⟨A, hA, hR⟩ := Option.bind_eq_some_iff.1 hR
  have CC := fun W H => Lib.hid (G.bin 2 d s A W (by omega) (by omega) h0 (by omega) hA H)
  have CS := fun W H => Lib.hid (sign_any c hc A.2 W H 1)
  obtain ⟨T, hT⟩ : ∃ T, T = P.tok c.l A.2 := ⟨_, rfl⟩
  obtain ⟨M, hM⟩ : ∃ M, M = P.signM c.l 1 A.2 := ⟨_, rfl⟩
  rw [← hM] at hR
  rw [← hT] at hR
  rw [← hM, ← hT] at CS
  by_cases hm : M.1 = 0
  · rw [if_pos hm] at hR
    obtain rfl := Option.some.inj hR
    have e : P.sign c.l 1 A.2 = A.2 := by rw [P.sign, ← hM, if_pos hm]
    rw [e] at CS
    have hm1 : (M.1 == 0) = true := by simp [hm]
    clear h hA hR hm hT hM e
    unfold pv
    go_enter Tryd.func89, Tryd.ntmps89
    go_wp2_with fail
    refine (CC _ (NowQ.pin (NowQ.to HN.out [w.heap.size] Keeps.au (by simp <;> omega) (by simp [kq] <;> omega)))).out.mono ?_
    rintro e w1 ⟨a1, n1, p1, rfl, hP, hK, hT⟩
    have hz_w1 := hK.size
    try simp only [World.size_alloc, World.size_setCell, World.size_drew, World.heap_drewN] at hz_w1
    have O_w1_0 : OwnB w1 (w.heap.size) #[.int .i64 0, .int .i64 0, .int .i64 0, .int .i64 0, .string ⟨#[]⟩, .int .i64 0, .slice none 0 0, .int .i64 0] 105 := OwnB.call OwnB.au hK (by simp only [List.mem_singleton]; omega)
    obtain ⟨y_w1_0, x_w1_0, b_w1_0⟩ := O_w1_0.facts
    have HN1 := Lib.hid (NowQ.callE (NowQ.to HN.out [w.heap.size] Keeps.au (by simp <;> omega) (by simp [kq] <;> omega)) hP hK hT)
    clear hP hK hT
    go_wp2_with fail
    refine (CS _ (NowQ.pin (NowQ.to HN1.out [w.heap.size, w1.heap.size] Keeps.au (by simp <;> omega) (by simp [kq] <;> omega)))).out.mono ?_
    rintro e w2 ⟨rfl, hP, hK⟩
    have hz_w2 := hK.size
    try simp only [World.size_alloc, World.size_setCell, World.size_drew, World.heap_drewN] at hz_w2
    have O_w2_0 : OwnB w2 (w.heap.size) #[.int .i64 0, .int .i64 0, .int .i64 0, .int .i64 0, .string ⟨#[]⟩, .int .i64 0, .slice none 0 0, .int .i64 0] 105 := OwnB.call OwnB.au hK (by simp only [List.mem_singleton]; omega)
    obtain ⟨y_w2_0, x_w2_0, b_w2_0⟩ := O_w2_0.facts
    have O_w2_1 : OwnB w2 (w1.heap.size) #[.int .i64 (A.1).op, .int .i64 (A.1).ty.kind, .int .i64 (A.1).ty.ptr, .int .i64 (A.1).ty.len, .string ⟨(A.1).nm.toArray⟩, .int .i64 (A.1).n, .slice a1 n1 p1, .int .i64 (A.1).pos] 105 := OwnB.call OwnB.au hK (by simp only [List.mem_singleton]; omega)
    obtain ⟨y_w2_1, x_w2_1, b_w2_1⟩ := O_w2_1.facts
    have HN2 := Lib.hid (NowQ.call (NowQ.to HN1.out [w.heap.size, w1.heap.size] Keeps.au (by simp <;> omega) (by simp [kq] <;> omega)) hP hK)
    clear hP hK
    go_wp2_with fail
    refine bodyPost_ret (v := (.agg #[.int .i64 (A.1).op, .int .i64 (A.1).ty.kind, .int .i64 (A.1).ty.ptr, .int .i64 (A.1).ty.len, .string ⟨(A.1).nm.toArray⟩, .int .i64 (A.1).n, .slice a1 n1 p1, .int .i64 (A.1).pos])) (by simp [results, Tryd.results89, go_sem, *]) rfl ?_
    exact NowQ.fin0 (NowQ.to HN2.out [w.heap.size, w1.heap.size] Keeps.au (by simp <;> omega) (by simp [kq] <;> omega))
  · rw [if_neg hm] at hR
    obtain ⟨B, hB, hR⟩ := Option.bind_eq_some_iff.1 hR
    obtain ⟨D, hD, hR⟩ := Option.bind_eq_some_iff.1 hR
    obtain rfl := Option.some.inj hR
    have e : P.sign c.l 1 A.2 = P.next c.l A.2 := by rw [P.sign, ← hM, if_neg hm]
    rw [e] at CS
    have CE := fun W H => Lib.hid (G.expr (d + 1) (P.next c.l A.2) B W (by omega) (by omega) hB H)
    have CN := fun W H => Lib.hid (need_any c hc B.2 W H [58])
    have CD := fun W H => Lib.hid (G.cond (d + 1) (P.need c.l [58] B.2) D W (by omega) (by omega) hD H)
    have hw : wrap64 (d + 1) = d + 1 := wrapJ (by omega) (by omega)
    have hm1 : (M.1 == 0) = false := by simp [hm]
    clear h hA hB hR hm hT hM e hD
    unfold pv
    go_enter Tryd.func89, Tryd.ntmps89
    go_wp2_with fail
    refine (CC _ (NowQ.pin (NowQ.to HN.out [w.heap.size] Keeps.au (by simp <;> omega) (by simp [kq] <;> omega)))).out.mono ?_
    rintro e w1 ⟨a1, n1, p1, rfl, hP, hK, hT⟩
    have hz_w1 := hK.size
    try simp only [World.size_alloc, World.size_setCell, World.size_drew, World.heap_drewN] at hz_w1
    have O_w1_0 : OwnB w1 (w.heap.size) #[.int .i64 0, .int .i64 0, .int .i64 0, .int .i64 0, .string ⟨#[]⟩, .int .i64 0, .slice none 0 0, .int .i64 0] 105 := OwnB.call OwnB.au hK (by simp only [List.mem_singleton]; omega)
    obtain ⟨y_w1_0, x_w1_0, b_w1_0⟩ := O_w1_0.facts
    have HN1 := Lib.hid (NowQ.callE (NowQ.to HN.out [w.heap.size] Keeps.au (by simp <;> omega) (by simp [kq] <;> omega)) hP hK hT)
    clear hP hK hT
    go_wp2_with fail
    refine (CS _ (NowQ.pin (NowQ.to HN1.out [w.heap.size, w1.heap.size] Keeps.au (by simp <;> omega) (by simp [kq] <;> omega)))).out.mono ?_
    rintro e w2 ⟨rfl, hP, hK⟩
    have hz_w2 := hK.size
    try simp only [World.size_alloc, World.size_setCell, World.size_drew, World.heap_drewN] at hz_w2
    have O_w2_0 : OwnB w2 (w.heap.size) #[.int .i64 0, .int .i64 0, .int .i64 0, .int .i64 0, .string ⟨#[]⟩, .int .i64 0, .slice none 0 0, .int .i64 0] 105 := OwnB.call OwnB.au hK (by simp only [List.mem_singleton]; omega)
    obtain ⟨y_w2_0, x_w2_0, b_w2_0⟩ := O_w2_0.facts
    have O_w2_1 : OwnB w2 (w1.heap.size) #[.int .i64 (A.1).op, .int .i64 (A.1).ty.kind, .int .i64 (A.1).ty.ptr, .int .i64 (A.1).ty.len, .string ⟨(A.1).nm.toArray⟩, .int .i64 (A.1).n, .slice a1 n1 p1, .int .i64 (A.1).pos] 105 := OwnB.call OwnB.au hK (by simp only [List.mem_singleton]; omega)
    obtain ⟨y_w2_1, x_w2_1, b_w2_1⟩ := O_w2_1.facts
    have HN2 := Lib.hid (NowQ.call (NowQ.to HN1.out [w.heap.size, w1.heap.size] Keeps.au (by simp <;> omega) (by simp [kq] <;> omega)) hP hK)
    clear hP hK
    go_wp2_with fail
    refine (CE _ (NowQ.pin (NowQ.to HN2.out [w.heap.size, w1.heap.size, w2.heap.size, w2.heap.size+1] Keeps.au (by simp <;> omega) (by simp [kq] <;> omega)))).out.mono ?_
    rintro e w3 ⟨a2, n2, p2, rfl, hP, hK, hT⟩
    have hz_w3 := hK.size
    try simp only [World.size_alloc, World.size_setCell, World.size_drew, World.heap_drewN] at hz_w3
    have O_w3_0 : OwnB w3 (w.heap.size) #[.int .i64 0, .int .i64 0, .int .i64 0, .int .i64 0, .string ⟨#[]⟩, .int .i64 0, .slice none 0 0, .int .i64 0] 105 := OwnB.call OwnB.au hK (by simp only [List.mem_singleton]; omega)
    obtain ⟨y_w3_0, x_w3_0, b_w3_0⟩ := O_w3_0.facts
    have O_w3_1 : OwnB w3 (w1.heap.size) #[.int .i64 (A.1).op, .int .i64 (A.1).ty.kind, .int .i64 (A.1).ty.ptr, .int .i64 (A.1).ty.len, .string ⟨(A.1).nm.toArray⟩, .int .i64 (A.1).n, .slice a1 n1 p1, .int .i64 (A.1).pos] 105 := OwnB.call OwnB.au hK (by simp only [List.mem_singleton]; omega)
    obtain ⟨y_w3_1, x_w3_1, b_w3_1⟩ := O_w3_1.facts
    have O_w3_2 : OwnB w3 (w2.heap.size) #[.int .i64 (T).kind, .string ⟨(T).text.toArray⟩, .int .i64 (T).n, .int .i64 (T).pos] 60 := OwnB.call OwnB.au hK (by simp only [List.mem_singleton]; omega)
    obtain ⟨y_w3_2, x_w3_2, b_w3_2⟩ := O_w3_2.facts
    have O_w3_3 : OwnB w3 (w2.heap.size+1) #[.int .i64 (M).1, .int .i64 (M).2] 69 := OwnB.call OwnB.au hK (by simp only [List.mem_singleton]; omega)
    obtain ⟨y_w3_3, x_w3_3, b_w3_3⟩ := O_w3_3.facts
    have HN3 := Lib.hid (NowQ.callE (NowQ.to HN2.out [w.heap.size, w1.heap.size, w2.heap.size, w2.heap.size+1] Keeps.au (by simp <;> omega) (by simp [kq] <;> omega)) hP hK hT)
    clear hP hK hT
    go_wp2_with fail
    refine (CN _ (NowQ.pin (NowQ.to HN3.out [w.heap.size, w1.heap.size, w2.heap.size, w2.heap.size+1, w3.heap.size] Keeps.au (by simp <;> omega) (by simp [kq] <;> omega)))).out.mono ?_
    rintro e w4 ⟨rfl, hP, hK⟩
    have hz_w4 := hK.size
    try simp only [World.size_alloc, World.size_setCell, World.size_drew, World.heap_drewN] at hz_w4
    have O_w4_0 : OwnB w4 (w.heap.size) #[.int .i64 0, .int .i64 0, .int .i64 0, .int .i64 0, .string ⟨#[]⟩, .int .i64 0, .slice none 0 0, .int .i64 0] 105 := OwnB.call OwnB.au hK (by simp only [List.mem_singleton]; omega)
    obtain ⟨y_w4_0, x_w4_0, b_w4_0⟩ := O_w4_0.facts
    have O_w4_1 : OwnB w4 (w1.heap.size) #[.int .i64 (A.1).op, .int .i64 (A.1).ty.kind, .int .i64 (A.1).ty.ptr, .int .i64 (A.1).ty.len, .string ⟨(A.1).nm.toArray⟩, .int .i64 (A.1).n, .slice a1 n1 p1, .int .i64 (A.1).pos] 105 := OwnB.call OwnB.au hK (by simp only [List.mem_singleton]; omega)
    obtain ⟨y_w4_1, x_w4_1, b_w4_1⟩ := O_w4_1.facts
    have O_w4_2 : OwnB w4 (w2.heap.size) #[.int .i64 (T).kind, .string ⟨(T).text.toArray⟩, .int .i64 (T).n, .int .i64 (T).pos] 60 := OwnB.call OwnB.au hK (by simp only [List.mem_singleton]; omega)
    obtain ⟨y_w4_2, x_w4_2, b_w4_2⟩ := O_w4_2.facts
    have O_w4_3 : OwnB w4 (w2.heap.size+1) #[.int .i64 (M).1, .int .i64 (M).2] 69 := OwnB.call OwnB.au hK (by simp only [List.mem_singleton]; omega)
    obtain ⟨y_w4_3, x_w4_3, b_w4_3⟩ := O_w4_3.facts
    have O_w4_4 : OwnB w4 (w3.heap.size) #[.int .i64 (B.1).op, .int .i64 (B.1).ty.kind, .int .i64 (B.1).ty.ptr, .int .i64 (B.1).ty.len, .string ⟨(B.1).nm.toArray⟩, .int .i64 (B.1).n, .slice a2 n2 p2, .int .i64 (B.1).pos] 105 := OwnB.call OwnB.au hK (by simp only [List.mem_singleton]; omega)
    obtain ⟨y_w4_4, x_w4_4, b_w4_4⟩ := O_w4_4.facts
    have HN4 := Lib.hid (NowQ.call (NowQ.to HN3.out [w.heap.size, w1.heap.size, w2.heap.size, w2.heap.size+1, w3.heap.size] Keeps.au (by simp <;> omega) (by simp [kq] <;> omega)) hP hK)
    clear hP hK
    go_wp2_with fail
    refine (CD _ (NowQ.pin (NowQ.to HN4.out [w.heap.size, w1.heap.size, w2.heap.size, w2.heap.size+1, w3.heap.size] Keeps.au (by simp <;> omega) (by simp [kq] <;> omega)))).out.mono ?_
    rintro e w5 ⟨a3, n3, p3, rfl, hP, hK, hT⟩
    have hz_w5 := hK.size
    try simp only [World.size_alloc, World.size_setCell, World.size_drew, World.heap_drewN] at hz_w5
    have O_w5_0 : OwnB w5 (w.heap.size) #[.int .i64 0, .int .i64 0, .int .i64 0, .int .i64 0, .string ⟨#[]⟩, .int .i64 0, .slice none 0 0, .int .i64 0] 105 := OwnB.call OwnB.au hK (by simp only [List.mem_singleton]; omega)
    obtain ⟨y_w5_0, x_w5_0, b_w5_0⟩ := O_w5_0.facts
    have O_w5_1 : OwnB w5 (w1.heap.size) #[.int .i64 (A.1).op, .int .i64 (A.1).ty.kind, .int .i64 (A.1).ty.ptr, .int .i64 (A.1).ty.len, .string ⟨(A.1).nm.toArray⟩, .int .i64 (A.1).n, .slice a1 n1 p1, .int .i64 (A.1).pos] 105 := OwnB.call OwnB.au hK (by simp only [List.mem_singleton]; omega)
    obtain ⟨y_w5_1, x_w5_1, b_w5_1⟩ := O_w5_1.facts
    have O_w5_2 : OwnB w5 (w2.heap.size) #[.int .i64 (T).kind, .string ⟨(T).text.toArray⟩, .int .i64 (T).n, .int .i64 (T).pos] 60 := OwnB.call OwnB.au hK (by simp only [List.mem_singleton]; omega)
    obtain ⟨y_w5_2, x_w5_2, b_w5_2⟩ := O_w5_2.facts
    have O_w5_3 : OwnB w5 (w2.heap.size+1) #[.int .i64 (M).1, .int .i64 (M).2] 69 := OwnB.call OwnB.au hK (by simp only [List.mem_singleton]; omega)
    obtain ⟨y_w5_3, x_w5_3, b_w5_3⟩ := O_w5_3.facts
    have O_w5_4 : OwnB w5 (w3.heap.size) #[.int .i64 (B.1).op, .int .i64 (B.1).ty.kind, .int .i64 (B.1).ty.ptr, .int .i64 (B.1).ty.len, .string ⟨(B.1).nm.toArray⟩, .int .i64 (B.1).n, .slice a2 n2 p2, .int .i64 (B.1).pos] 105 := OwnB.call OwnB.au hK (by simp only [List.mem_singleton]; omega)
    obtain ⟨y_w5_4, x_w5_4, b_w5_4⟩ := O_w5_4.facts
    have HN5 := Lib.hid (NowQ.callE (NowQ.to HN4.out [w.heap.size, w1.heap.size, w2.heap.size, w2.heap.size+1, w3.heap.size] Keeps.au (by simp <;> omega) (by simp [kq] <;> omega)) hP hK hT)
    clear hP hK hT
    go_wp2_with fail
    refine bodyPost_ret (v := .agg #[.int .i64 M.1, .int .i64 0, .int .i64 0, .int .i64 0, .string ⟨#[]⟩, .int .i64 0, .slice (some ⟨w5.heap.size+1, 0, none⟩) 3 3, .int .i64 T.pos]) (by simp [results, Tryd.results89, go_sem, *]) rfl ?_
    exact NowQ.finThree (NowQ.to HN5.out [w.heap.size, w1.heap.size, w2.heap.size, w2.heap.size+1, w3.heap.size, w5.heap.size] Keeps.au (by simp <;> omega) (by simp [kq] <;> omega)) OwnB.au (by refine ⟨?_, ?_, ?_, ?_, ?_, ?_⟩ <;> (try simp only [World.size_alloc, World.size_setCell, World.size_drew, World.heap_drewN]) <;> omega) (by (try simp only [World.size_alloc, World.size_setCell, World.size_drew, World.heap_drewN]); omega)
end Go.Proofs.YtjmemapkipkocaaDoor

/-
  Expressions: 'primary'.
-/
namespace Go.Proofs.YtjmemapkipkocaaDoor
open Go.RowKit Go.Maps
set_option linter.unusedVariables false
set_option linter.unusedSimpArgs false
set_option maxRecDepth 100000
set_option maxHeartbeats 1000000

theorem NowQ.finLeaf {c : Cx} {w W : World} {s : St} {L : List KQ} {op n pos : Int} {nm : List UInt8} {ty : Ty} (h : NowQ c w s L W) :
    DoesE c (⟨op, ty, nm, n, .nil, pos⟩, s) w (.returned (.agg #[.int .i64 op, .int .i64 ty.kind, .int .i64 ty.ptr, .int .i64 ty.len, .string ⟨nm.toArray⟩, .int .i64 n, .slice none 0 0, .int .i64 pos])) W :=
  NowQ.finE (R := (⟨op, ty, nm, n, .nil, pos⟩, s)) h (KidsIn.none_ (Nat.le_refl _))
theorem NowQ.finKids {c : Cx} {w W : World} {s : St} {L : List KQ} {op n pos : Int} {nm : List UInt8} {ty : Ty} {ks : Exs} {a : Option Addr} {m cp lo hi : Nat} {X : List Nat} (h : NowQ c w s (kq lo hi X ks (.slice a m cp) :: L) W) :
    DoesE c (⟨op, ty, nm, n, ks, pos⟩, s) w (.returned (.agg #[.int .i64 op, .int .i64 ty.kind, .int .i64 ty.ptr, .int .i64 ty.len, .string ⟨nm.toArray⟩, .int .i64 n, .slice a m cp, .int .i64 pos])) W :=
  NowQ.fin0 (R := (⟨op, ty, nm, n, ks, pos⟩, s)) h
theorem primary_step (c : Cx) (hc : c.Ok) (f : Nat) (GA : ∀ k, k ≤ f → GoodE c k) (d : Int) (s : St) (R : Ex × St) (w : World) (h0 : 0 ≤ d) (hd : d + (f + 1) ≤ 1000000000)
    (hR : P.primary c.l (P.recs c.l f) d s = some R) (h : PIn w c s) : Calls Tryd.prog 96 #[pv c, .int .i64 d] w (DoesE c R w) := by
  have HN := Lib.hid (NowQ.start h)
  have hg := HN.out.now.g
  have hgt := HN.out.now.gt
  have CT := fun W H => Lib.hid (token_any c hc s W H)
  have CX := fun W H => Lib.hid (next_any c hc s W H)
  have CS := fun W H => Lib.hid (second_any c hc s W H)
  unfold P.primary at hR
  obtain ⟨T, hT⟩ : ∃ T, T = P.tok c.l s := ⟨_, rfl⟩
  have hw : wrap64 (d + 1) = d + 1 := wrapJ (by omega) (by omega)
  have hw' : IntKind.i64.wrap (d + 1) = d + 1 := wrapI (by omega) (by omega)
  rw [← hT] at hR CT CX
  by_cases h2 : T.kind = 2
  · rw [if_pos h2] at hR
    obtain rfl := Option.some.inj hR
    have k2 : (T.kind == 2) = true := by simp [h2]
    clear h hR h2 hT
    unfold pv
    go_enter Tryd.func96, Tryd.ntmps96
    go_wp2_with fail
    refine (CT _ (NowQ.pin (NowQ.to HN.out [w.heap.size] Keeps.au (by simp <;> omega) (by simp [kq] <;> omega)))).out.mono ?_
    rintro e w1 ⟨rfl, hP, hK⟩
    have hz_w1 := hK.size
    try simp only [World.size_alloc, World.size_setCell, World.size_drew, World.heap_drewN] at hz_w1
    have O_w1_0 : OwnB w1 (w.heap.size) #[.int .i64 0, .int .i64 0, .int .i64 0, .int .i64 0, .string ⟨#[]⟩, .int .i64 0, .slice none 0 0, .int .i64 0] 105 := OwnB.call OwnB.au hK (by simp only [List.mem_singleton]; omega)
    obtain ⟨y_w1_0, x_w1_0, b_w1_0⟩ := O_w1_0.facts
    have HN1 := Lib.hid (NowQ.call (NowQ.to HN.out [w.heap.size] Keeps.au (by simp <;> omega) (by simp [kq] <;> omega)) hP hK)
    clear hP hK
    go_wp2_with fail
    refine (CX _ (NowQ.pin (NowQ.to HN1.out [w.heap.size, w1.heap.size] Keeps.au (by simp <;> omega) (by simp [kq] <;> omega)))).out.mono ?_
    rintro e w2 ⟨rfl, hP, hK⟩
    have hz_w2 := hK.size
    try simp only [World.size_alloc, World.size_setCell, World.size_drew, World.heap_drewN] at hz_w2
    have O_w2_0 : OwnB w2 (w.heap.size) #[.int .i64 0, .int .i64 0, .int .i64 0, .int .i64 0, .string ⟨#[]⟩, .int .i64 0, .slice none 0 0, .int .i64 0] 105 := OwnB.call OwnB.au hK (by simp only [List.mem_singleton]; omega)
    obtain ⟨y_w2_0, x_w2_0, b_w2_0⟩ := O_w2_0.facts
    have O_w2_1 : OwnB w2 (w1.heap.size) #[.int .i64 (T).kind, .string ⟨(T).text.toArray⟩, .int .i64 (T).n, .int .i64 (T).pos] 60 := OwnB.call OwnB.au hK (by simp only [List.mem_singleton]; omega)
    obtain ⟨y_w2_1, x_w2_1, b_w2_1⟩ := O_w2_1.facts
    have HN2 := Lib.hid (NowQ.call (NowQ.to HN1.out [w.heap.size, w1.heap.size] Keeps.au (by simp <;> omega) (by simp [kq] <;> omega)) hP hK)
    clear hP hK
    go_wp2_with fail
    refine bodyPost_ret (v := .agg #[.int .i64 1, .int .i64 0, .int .i64 0, .int .i64 0, .string ⟨#[]⟩, .int .i64 T.n, .slice none 0 0, .int .i64 T.pos]) (by simp [results, Tryd.results96, go_sem, *]) rfl ?_
    exact NowQ.finLeaf (ty := ty0) (nm := []) (NowQ.to HN2.out [w.heap.size, w1.heap.size] Keeps.au (by simp <;> omega) (by simp [kq] <;> omega))
  · rw [if_neg h2] at hR
    have k2 : (T.kind == 2) = false := by simp [h2]
    by_cases h1 : T.kind = 1
    · rw [if_pos h1] at hR
      have k1 : (T.kind == 1) = true := by simp [h1]
      obtain ⟨U, hU⟩ : ∃ U, U = P.snd c.l s := ⟨_, rfl⟩
      rw [← hU] at hR CS
      have tk0 := tok_field0
      have tk1 := tok_field1
      have tk2 := tok_field2
      have tk3 := tok_field3
      cases hp : U.text == [40] with
      | true =>
        rw [hp, if_pos rfl] at hR
        obtain ⟨A, hA, hR⟩ := Option.bind_eq_some_iff.1 hR
        obtain rfl := Option.some.inj hR
        have CA := fun W H => Lib.hid (arguments_step c hc f GA (d + 1) (P.next c.l s) A W (by omega) (by omega) hA H)
        clear h hR h2 hT h1 hU hA GA
        unfold pv
        go_enter Tryd.func96, Tryd.ntmps96
        go_wp2_with fail
        refine (CT _ (NowQ.pin (NowQ.to HN.out [w.heap.size] Keeps.au (by simp <;> omega) (by simp [kq] <;> omega)))).out.mono ?_
        rintro e w1 ⟨rfl, hP, hK⟩
        have hz_w1 := hK.size
        try simp only [World.size_alloc, World.size_setCell, World.size_drew, World.heap_drewN] at hz_w1
        have O_w1_0 : OwnB w1 (w.heap.size) #[.int .i64 0, .int .i64 0, .int .i64 0, .int .i64 0, .string ⟨#[]⟩, .int .i64 0, .slice none 0 0, .int .i64 0] 105 := OwnB.call OwnB.au hK (by simp only [List.mem_singleton]; omega)
        obtain ⟨y_w1_0, x_w1_0, b_w1_0⟩ := O_w1_0.facts
        have HN1 := Lib.hid (NowQ.call (NowQ.to HN.out [w.heap.size] Keeps.au (by simp <;> omega) (by simp [kq] <;> omega)) hP hK)
        clear hP hK
        go_wp2_with fail
        refine (CS _ (NowQ.pin (NowQ.to HN1.out [w.heap.size, w1.heap.size] Keeps.au (by simp <;> omega) (by simp [kq] <;> omega)))).out.mono ?_
        rintro e w2 ⟨rfl, hP, hK⟩
        have hz_w2 := hK.size
        try simp only [World.size_alloc, World.size_setCell, World.size_drew, World.heap_drewN] at hz_w2
        have O_w2_0 : OwnB w2 (w.heap.size) #[.int .i64 0, .int .i64 0, .int .i64 0, .int .i64 0, .string ⟨#[]⟩, .int .i64 0, .slice none 0 0, .int .i64 0] 105 := OwnB.call OwnB.au hK (by simp only [List.mem_singleton]; omega)
        obtain ⟨y_w2_0, x_w2_0, b_w2_0⟩ := O_w2_0.facts
        have O_w2_1 : OwnB w2 (w1.heap.size) #[.int .i64 (T).kind, .string ⟨(T).text.toArray⟩, .int .i64 (T).n, .int .i64 (T).pos] 60 := OwnB.call OwnB.au hK (by simp only [List.mem_singleton]; omega)
        obtain ⟨y_w2_1, x_w2_1, b_w2_1⟩ := O_w2_1.facts
        have HN2 := Lib.hid (NowQ.call (NowQ.to HN1.out [w.heap.size, w1.heap.size] Keeps.au (by simp <;> omega) (by simp [kq] <;> omega)) hP hK)
        clear hP hK
        go_wp2_with fail
        refine (CX _ (NowQ.pin (NowQ.to HN2.out [w.heap.size, w1.heap.size] Keeps.au (by simp <;> omega) (by simp [kq] <;> omega)))).out.mono ?_
        rintro e w3 ⟨rfl, hP, hK⟩
        have hz_w3 := hK.size
        try simp only [World.size_alloc, World.size_setCell, World.size_drew, World.heap_drewN] at hz_w3
        have O_w3_0 : OwnB w3 (w.heap.size) #[.int .i64 0, .int .i64 0, .int .i64 0, .int .i64 0, .string ⟨#[]⟩, .int .i64 0, .slice none 0 0, .int .i64 0] 105 := OwnB.call OwnB.au hK (by simp only [List.mem_singleton]; omega)
        obtain ⟨y_w3_0, x_w3_0, b_w3_0⟩ := O_w3_0.facts
        have O_w3_1 : OwnB w3 (w1.heap.size) #[.int .i64 (T).kind, .string ⟨(T).text.toArray⟩, .int .i64 (T).n, .int .i64 (T).pos] 60 := OwnB.call OwnB.au hK (by simp only [List.mem_singleton]; omega)
        obtain ⟨y_w3_1, x_w3_1, b_w3_1⟩ := O_w3_1.facts
        have HN3 := Lib.hid (NowQ.call (NowQ.to HN2.out [w.heap.size, w1.heap.size] Keeps.au (by simp <;> omega) (by simp [kq] <;> omega)) hP hK)
        clear hP hK
        go_wp2_with fail
        have ne_0_1 : ¬ (w.heap.size : Nat) = w1.heap.size := by omega
        have ne_1_0 : ¬ (w1.heap.size : Nat) = w.heap.size := by omega
        go_region_held3 (fun w' => w'.cell? ⟨w1.heap.size, 0, none⟩ = some (.int .i64 (T).kind) ∧ w'.cell? ⟨w1.heap.size, 1, none⟩ = some (.string ⟨(T).text.toArray⟩) ∧ w'.cell? ⟨w1.heap.size, 2, none⟩ = some (.int .i64 (T).n) ∧ w'.cell? ⟨w1.heap.size, 3, none⟩ = some (.int .i64 (T).pos)) (go_keep) ((first | ((go_at_call 97); (with_reducible refine (CA _ (NowQ.pin (NowQ.to HN3.out [w.heap.size, w1.heap.size] Keeps.au (by simp <;> omega) (by simp [kq] <;> omega)))).out.mono ?_); (rintro e w4 ⟨a2, n2, p2, rfl, hP, hK, hT⟩); (have hz_w4 := hK.size); (try simp only [World.size_alloc, World.size_setCell, World.size_drew, World.heap_drewN] at hz_w4); (have O_w4_0 : OwnB w4 (w.heap.size) #[.int .i64 0, .int .i64 0, .int .i64 0, .int .i64 0, .string ⟨#[]⟩, .int .i64 0, .slice none 0 0, .int .i64 0] 105 := OwnB.call OwnB.au hK (by simp only [List.mem_singleton]; omega)); (obtain ⟨y_w4_0, x_w4_0, b_w4_0⟩ := O_w4_0.facts); (have O_w4_1 : OwnB w4 (w1.heap.size) #[.int .i64 (T).kind, .string ⟨(T).text.toArray⟩, .int .i64 (T).n, .int .i64 (T).pos] 60 := OwnB.call OwnB.au hK (by simp only [List.mem_singleton]; omega)); (obtain ⟨y_w4_1, x_w4_1, b_w4_1⟩ := O_w4_1.facts); (have HN4 := Lib.hid (NowQ.callE (NowQ.to HN3.out [w.heap.size, w1.heap.size] Keeps.au (by simp <;> omega) (by simp [kq] <;> omega)) hP hK hT)); (clear hP hK hT))))
        go_wp2_with fail
        refine bodyPost_ret (v := .agg #[.int .i64 35, .int .i64 0, .int .i64 0, .int .i64 0, .string ⟨T.text.toArray⟩, .int .i64 0, .slice a2 n2 p2, .int .i64 T.pos]) (by simp [results, Tryd.results96, go_sem, *]) rfl ?_
        exact NowQ.finKids (ty := ty0) (NowQ.to HN4.out [w.heap.size, w1.heap.size] Keeps.au (by simp <;> omega) (by simp [kq] <;> omega))
      | false =>
        rw [hp, if_neg (by simp)] at hR
        obtain rfl := Option.some.inj hR
        clear h hR h2 hT h1 hU GA
        unfold pv
        go_enter Tryd.func96, Tryd.ntmps96
        go_wp2_with fail
        refine (CT _ (NowQ.pin (NowQ.to HN.out [w.heap.size] Keeps.au (by simp <;> omega) (by simp [kq] <;> omega)))).out.mono ?_
        rintro e w1 ⟨rfl, hP, hK⟩
        have hz_w1 := hK.size
        try simp only [World.size_alloc, World.size_setCell, World.size_drew, World.heap_drewN] at hz_w1
        have O_w1_0 : OwnB w1 (w.heap.size) #[.int .i64 0, .int .i64 0, .int .i64 0, .int .i64 0, .string ⟨#[]⟩, .int .i64 0, .slice none 0 0, .int .i64 0] 105 := OwnB.call OwnB.au hK (by simp only [List.mem_singleton]; omega)
        obtain ⟨y_w1_0, x_w1_0, b_w1_0⟩ := O_w1_0.facts
        have HN1 := Lib.hid (NowQ.call (NowQ.to HN.out [w.heap.size] Keeps.au (by simp <;> omega) (by simp [kq] <;> omega)) hP hK)
        clear hP hK
        go_wp2_with fail
        refine (CS _ (NowQ.pin (NowQ.to HN1.out [w.heap.size, w1.heap.size] Keeps.au (by simp <;> omega) (by simp [kq] <;> omega)))).out.mono ?_
        rintro e w2 ⟨rfl, hP, hK⟩
        have hz_w2 := hK.size
        try simp only [World.size_alloc, World.size_setCell, World.size_drew, World.heap_drewN] at hz_w2
        have O_w2_0 : OwnB w2 (w.heap.size) #[.int .i64 0, .int .i64 0, .int .i64 0, .int .i64 0, .string ⟨#[]⟩, .int .i64 0, .slice none 0 0, .int .i64 0] 105 := OwnB.call OwnB.au hK (by simp only [List.mem_singleton]; omega)
        obtain ⟨y_w2_0, x_w2_0, b_w2_0⟩ := O_w2_0.facts
        have O_w2_1 : OwnB w2 (w1.heap.size) #[.int .i64 (T).kind, .string ⟨(T).text.toArray⟩, .int .i64 (T).n, .int .i64 (T).pos] 60 := OwnB.call OwnB.au hK (by simp only [List.mem_singleton]; omega)
        obtain ⟨y_w2_1, x_w2_1, b_w2_1⟩ := O_w2_1.facts
        have HN2 := Lib.hid (NowQ.call (NowQ.to HN1.out [w.heap.size, w1.heap.size] Keeps.au (by simp <;> omega) (by simp [kq] <;> omega)) hP hK)
        clear hP hK
        go_wp2_with fail
        refine (CX _ (NowQ.pin (NowQ.to HN2.out [w.heap.size, w1.heap.size] Keeps.au (by simp <;> omega) (by simp [kq] <;> omega)))).out.mono ?_
        rintro e w3 ⟨rfl, hP, hK⟩
        have hz_w3 := hK.size
        try simp only [World.size_alloc, World.size_setCell, World.size_drew, World.heap_drewN] at hz_w3
        have O_w3_0 : OwnB w3 (w.heap.size) #[.int .i64 0, .int .i64 0, .int .i64 0, .int .i64 0, .string ⟨#[]⟩, .int .i64 0, .slice none 0 0, .int .i64 0] 105 := OwnB.call OwnB.au hK (by simp only [List.mem_singleton]; omega)
        obtain ⟨y_w3_0, x_w3_0, b_w3_0⟩ := O_w3_0.facts
        have O_w3_1 : OwnB w3 (w1.heap.size) #[.int .i64 (T).kind, .string ⟨(T).text.toArray⟩, .int .i64 (T).n, .int .i64 (T).pos] 60 := OwnB.call OwnB.au hK (by simp only [List.mem_singleton]; omega)
        obtain ⟨y_w3_1, x_w3_1, b_w3_1⟩ := O_w3_1.facts
        have HN3 := Lib.hid (NowQ.call (NowQ.to HN2.out [w.heap.size, w1.heap.size] Keeps.au (by simp <;> omega) (by simp [kq] <;> omega)) hP hK)
        clear hP hK
        go_wp2_with fail
        refine bodyPost_ret (v := .agg #[.int .i64 2, .int .i64 0, .int .i64 0, .int .i64 0, .string ⟨T.text.toArray⟩, .int .i64 0, .slice none 0 0, .int .i64 T.pos]) (by simp [results, Tryd.results96, go_sem, *]) rfl ?_
        exact NowQ.finLeaf (ty := ty0) (NowQ.to HN3.out [w.heap.size, w1.heap.size] Keeps.au (by simp <;> omega) (by simp [kq] <;> omega))
    · rw [if_neg h1] at hR
      have k1 : (T.kind == 1) = false := by simp [h1]
      have hi : P.is c.l [40] s = (T.text == [40]) := by rw [hT]; rfl
      rw [hi] at hR
      cases hp : T.text == [40] with
      | true =>
        rw [hp, if_pos rfl] at hR
        have CW := fun W H => Lib.hid (within_step c hc f (GA f (Nat.le_refl _)) (d + 1) s R W (by omega) (by omega) hR H)
        clear h hR h2 hT h1 hi GA
        unfold pv
        go_enter Tryd.func96, Tryd.ntmps96
        go_wp2_with fail
        refine (CT _ (NowQ.pin (NowQ.to HN.out [w.heap.size] Keeps.au (by simp <;> omega) (by simp [kq] <;> omega)))).out.mono ?_
        rintro e w1 ⟨rfl, hP, hK⟩
        have hz_w1 := hK.size
        try simp only [World.size_alloc, World.size_setCell, World.size_drew, World.heap_drewN] at hz_w1
        have O_w1_0 : OwnB w1 (w.heap.size) #[.int .i64 0, .int .i64 0, .int .i64 0, .int .i64 0, .string ⟨#[]⟩, .int .i64 0, .slice none 0 0, .int .i64 0] 105 := OwnB.call OwnB.au hK (by simp only [List.mem_singleton]; omega)
        obtain ⟨y_w1_0, x_w1_0, b_w1_0⟩ := O_w1_0.facts
        have HN1 := Lib.hid (NowQ.call (NowQ.to HN.out [w.heap.size] Keeps.au (by simp <;> omega) (by simp [kq] <;> omega)) hP hK)
        clear hP hK
        go_wp2_with fail
        refine (CW _ (NowQ.pin (NowQ.to HN1.out [w.heap.size, w1.heap.size] Keeps.au (by simp <;> omega) (by simp [kq] <;> omega)))).out.mono ?_
        rintro e w2 ⟨a1, n1, p1, rfl, hP, hK, hT⟩
        have hz_w2 := hK.size
        try simp only [World.size_alloc, World.size_setCell, World.size_drew, World.heap_drewN] at hz_w2
        have O_w2_0 : OwnB w2 (w.heap.size) #[.int .i64 0, .int .i64 0, .int .i64 0, .int .i64 0, .string ⟨#[]⟩, .int .i64 0, .slice none 0 0, .int .i64 0] 105 := OwnB.call OwnB.au hK (by simp only [List.mem_singleton]; omega)
        obtain ⟨y_w2_0, x_w2_0, b_w2_0⟩ := O_w2_0.facts
        have O_w2_1 : OwnB w2 (w1.heap.size) #[.int .i64 (T).kind, .string ⟨(T).text.toArray⟩, .int .i64 (T).n, .int .i64 (T).pos] 60 := OwnB.call OwnB.au hK (by simp only [List.mem_singleton]; omega)
        obtain ⟨y_w2_1, x_w2_1, b_w2_1⟩ := O_w2_1.facts
        have HN2 := Lib.hid (NowQ.callE (NowQ.to HN1.out [w.heap.size, w1.heap.size] Keeps.au (by simp <;> omega) (by simp [kq] <;> omega)) hP hK hT)
        clear hP hK hT
        go_wp2_with fail
        refine bodyPost_ret (v := (.agg #[.int .i64 (R.1).op, .int .i64 (R.1).ty.kind, .int .i64 (R.1).ty.ptr, .int .i64 (R.1).ty.len, .string ⟨(R.1).nm.toArray⟩, .int .i64 (R.1).n, .slice a1 n1 p1, .int .i64 (R.1).pos])) (by simp [results, Tryd.results96, go_sem, *]) rfl ?_
        exact NowQ.fin0 (NowQ.to HN2.out [w.heap.size, w1.heap.size] Keeps.au (by simp <;> omega) (by simp [kq] <;> omega))
      | false =>
        rw [hp, if_neg (by simp)] at hR
        obtain rfl := Option.some.inj hR
        have CR := fun W H => Lib.hid (refuse_any c hc s W H)
        clear h hR h2 hT h1 hi GA
        unfold pv
        go_enter Tryd.func96, Tryd.ntmps96
        go_wp2_with fail
        refine (CT _ (NowQ.pin (NowQ.to HN.out [w.heap.size] Keeps.au (by simp <;> omega) (by simp [kq] <;> omega)))).out.mono ?_
        rintro e w1 ⟨rfl, hP, hK⟩
        have hz_w1 := hK.size
        try simp only [World.size_alloc, World.size_setCell, World.size_drew, World.heap_drewN] at hz_w1
        have O_w1_0 : OwnB w1 (w.heap.size) #[.int .i64 0, .int .i64 0, .int .i64 0, .int .i64 0, .string ⟨#[]⟩, .int .i64 0, .slice none 0 0, .int .i64 0] 105 := OwnB.call OwnB.au hK (by simp only [List.mem_singleton]; omega)
        obtain ⟨y_w1_0, x_w1_0, b_w1_0⟩ := O_w1_0.facts
        have HN1 := Lib.hid (NowQ.call (NowQ.to HN.out [w.heap.size] Keeps.au (by simp <;> omega) (by simp [kq] <;> omega)) hP hK)
        clear hP hK
        go_wp2_with fail
        refine (CR _ (NowQ.pin (NowQ.to HN1.out [w.heap.size, w1.heap.size] Keeps.au (by simp <;> omega) (by simp [kq] <;> omega)))).out.mono ?_
        rintro e w2 ⟨rfl, hP, hK⟩
        have hz_w2 := hK.size
        try simp only [World.size_alloc, World.size_setCell, World.size_drew, World.heap_drewN] at hz_w2
        have O_w2_0 : OwnB w2 (w.heap.size) #[.int .i64 0, .int .i64 0, .int .i64 0, .int .i64 0, .string ⟨#[]⟩, .int .i64 0, .slice none 0 0, .int .i64 0] 105 := OwnB.call OwnB.au hK (by simp only [List.mem_singleton]; omega)
        obtain ⟨y_w2_0, x_w2_0, b_w2_0⟩ := O_w2_0.facts
        have O_w2_1 : OwnB w2 (w1.heap.size) #[.int .i64 (T).kind, .string ⟨(T).text.toArray⟩, .int .i64 (T).n, .int .i64 (T).pos] 60 := OwnB.call OwnB.au hK (by simp only [List.mem_singleton]; omega)
        obtain ⟨y_w2_1, x_w2_1, b_w2_1⟩ := O_w2_1.facts
        have HN2 := Lib.hid (NowQ.call (NowQ.to HN1.out [w.heap.size, w1.heap.size] Keeps.au (by simp <;> omega) (by simp [kq] <;> omega)) hP hK)
        clear hP hK
        go_wp2_with fail
        refine bodyPost_ret (v := .agg #[.int .i64 0, .int .i64 0, .int .i64 0, .int .i64 0, .string ⟨#[]⟩, .int .i64 0, .slice none 0 0, .int .i64 0]) (by simp [results, Tryd.results96, go_sem, *]) rfl ?_
        exact NowQ.finLeaf (ty := ty0) (nm := []) (NowQ.to HN2.out [w.heap.size, w1.heap.size] Keeps.au (by simp <;> omega) (by simp [kq] <;> omega))
end Go.Proofs.YtjmemapkipkocaaDoor

/-
  Expressions: 'postfix'.
-/
namespace Go.Proofs.YtjmemapkipkocaaDoor
open Go.RowKit Go.Maps
set_option linter.unusedVariables false
set_option linter.unusedSimpArgs false
set_option maxRecDepth 100000
set_option maxHeartbeats 1000000

/-- Where the loop of 'postfix' is. -/
structure PostAt (c : Cx) (w : World) (r1 : Nat) (d : Int) (R : Ex × St) (k : Nat) (t6 t7 : Value) (wr : World) : Prop where
  ex : ∃ (b6 b7 : Nat) (s0 : St) (left : Ex) (a : Option Addr) (n cp lo hi : Nat), t6 = .pointer (some ⟨b6, 0, none⟩) ∧ t7 = .pointer (some ⟨b7, 0, none⟩) ∧
    NowQ c w (P.sign c.l 13 s0) [kq lo hi [r1] left.kids (.slice a n cp)] wr ∧
    OwnB wr b6 #[.int .i64 (P.tok c.l s0).kind, .string ⟨(P.tok c.l s0).text.toArray⟩, .int .i64 (P.tok c.l s0).n, .int .i64 (P.tok c.l s0).pos] 60 ∧
    OwnB wr b7 #[.int .i64 (P.signM c.l 13 s0).1, .int .i64 (P.signM c.l 13 s0).2] 69 ∧
    OwnB wr r1 #[.int .i64 left.op, .int .i64 left.ty.kind, .int .i64 left.ty.ptr, .int .i64 left.ty.len, .string ⟨left.nm.toArray⟩, .int .i64 left.n, .slice a n cp, .int .i64 left.pos] 105 ∧
    OwnB wr w.heap.size #[.int .i64 0, .int .i64 0, .int .i64 0, .int .i64 0, .string ⟨#[]⟩, .int .i64 0, .slice none 0 0, .int .i64 0] 105 ∧
    (P.recs c.l k).postL d left s0 = some R ∧ w.heap.size < lo ∧ hi ≤ b6 ∧ hi ≤ b7 ∧ lo ≤ hi ∧ r1 < b6 ∧ r1 < b7 ∧ b6 ≠ b7
theorem one_snoc (a b : Ex) : (one a).snoc b = two a b := rfl
theorem postfix_step (c : Cx) (hc : c.Ok) (f : Nat) (GA : ∀ k, k ≤ f → GoodE c k) (d : Int) (s : St) (R : Ex × St) (w : World) (h0 : 0 ≤ d) (hd : d + (f + 1) ≤ 1000000000)
    (hR : P.postE c.l (P.recs c.l f) d s = some R) (h : PIn w c s) : Calls Tryd.prog 95 #[pv c, .int .i64 d] w (DoesE c R w) := by
  have HN := Lib.hid (NowQ.start h)
  have hg := HN.out.now.g
  have hgt := HN.out.now.gt
  unfold P.postE at hR
  obtain ⟨A, hA, hR⟩ := Option.bind_eq_some_iff.1 hR
  have CC := fun W H => Lib.hid (primary_step c hc f GA d s A W h0 hd hA H)
  have CS := fun (s0 : St) W H => Lib.hid (sign_any c hc s0 W H 13)
  have CS1 := CS A.2
  have hw : wrap64 (d + 1) = d + 1 := wrapJ (by omega) (by omega)
  have HR := Lib.hid hR
  have HGA := Lib.hid GA
  clear h hA hR GA
  unfold pv
  go_enter Tryd.func95, Tryd.ntmps95
  go_wp2_with fail
  refine (CC _ (NowQ.pin (NowQ.to HN.out [w.heap.size] Keeps.au (by simp <;> omega) (by simp [kq] <;> omega)))).out.mono ?_
  rintro e w1 ⟨a1, n1, p1, rfl, hP, hK, hT⟩
  have hz_w1 := hK.size
  try simp only [World.size_alloc, World.size_setCell, World.size_drew, World.heap_drewN] at hz_w1
  have O_w1_0 : OwnB w1 (w.heap.size) #[.int .i64 0, .int .i64 0, .int .i64 0, .int .i64 0, .string ⟨#[]⟩, .int .i64 0, .slice none 0 0, .int .i64 0] 105 := OwnB.call OwnB.au hK (by simp only [List.mem_singleton]; omega)
  obtain ⟨y_w1_0, x_w1_0, b_w1_0⟩ := O_w1_0.facts
  have HN1 := Lib.hid (NowQ.callE (NowQ.to HN.out [w.heap.size] Keeps.au (by simp <;> omega) (by simp [kq] <;> omega)) hP hK hT)
  clear hP hK hT
  go_wp2_with fail
  refine (CS1 _ (NowQ.pin (NowQ.to HN1.out [w.heap.size, w1.heap.size] Keeps.au (by simp <;> omega) (by simp [kq] <;> omega)))).out.mono ?_
  rintro e w2 ⟨rfl, hP, hK⟩
  have hz_w2 := hK.size
  try simp only [World.size_alloc, World.size_setCell, World.size_drew, World.heap_drewN] at hz_w2
  have O_w2_0 : OwnB w2 (w.heap.size) #[.int .i64 0, .int .i64 0, .int .i64 0, .int .i64 0, .string ⟨#[]⟩, .int .i64 0, .slice none 0 0, .int .i64 0] 105 := OwnB.call OwnB.au hK (by simp only [List.mem_singleton]; omega)
  obtain ⟨y_w2_0, x_w2_0, b_w2_0⟩ := O_w2_0.facts
  have O_w2_1 : OwnB w2 (w1.heap.size) #[.int .i64 (A.1).op, .int .i64 (A.1).ty.kind, .int .i64 (A.1).ty.ptr, .int .i64 (A.1).ty.len, .string ⟨(A.1).nm.toArray⟩, .int .i64 (A.1).n, .slice a1 n1 p1, .int .i64 (A.1).pos] 105 := OwnB.call OwnB.au hK (by simp only [List.mem_singleton]; omega)
  obtain ⟨y_w2_1, x_w2_1, b_w2_1⟩ := O_w2_1.facts
  have HN2 := Lib.hid (NowQ.call (NowQ.to HN1.out [w.heap.size, w1.heap.size] Keeps.au (by simp <;> omega) (by simp [kq] <;> omega)) hP hK)
  clear hP hK
  go_wp2_with fail
  go_loopg [6, 7] f (fun k t6 t7 wr => k ≤ f ∧ PostAt c w w1.heap.size d R k t6 t7 wr)
  case atStart =>
    exact ⟨Nat.le_refl _, ⟨_, _, A.2, A.1, a1, n1, p1, _, _, rfl, rfl, NowQ.hole (NowQ.to HN2.out [w.heap.size, w1.heap.size, w2.heap.size, w2.heap.size+1] Keeps.au (by simp <;> omega) (by simp [kq] <;> omega)) [w1.heap.size] (by simp), OwnB.au, OwnB.au, OwnB.au, OwnB.au, HR.out, (by (try simp only [World.size_alloc, World.size_setCell, World.size_drew, World.heap_drewN]); omega), (by (try simp only [World.size_alloc, World.size_setCell, World.size_drew, World.heap_drewN]); omega), (by (try simp only [World.size_alloc, World.size_setCell, World.size_drew, World.heap_drewN]); omega), (by (try simp only [World.size_alloc, World.size_setCell, World.size_drew, World.heap_drewN]); omega), (by (try simp only [World.size_alloc, World.size_setCell, World.size_drew, World.heap_drewN]); omega), (by (try simp only [World.size_alloc, World.size_setCell, World.size_drew, World.heap_drewN]); omega), (by (try simp only [World.size_alloc, World.size_setCell, World.size_drew, World.heap_drewN]); omega)⟩⟩
  case round =>
    obtain ⟨hkf, ⟨b6, b7, s0, left, a, n, cp, lo, hi, rfl, rfl, hN, O6, O7, O5, O4, hb, m1, m2, m3, m4, m5, m6, m7⟩⟩ := hrel
    clear O_w1_0 y_w1_0 x_w1_0 b_w1_0 O_w2_0 y_w2_0 x_w2_0 b_w2_0 O_w2_1 y_w2_1 x_w2_1 b_w2_1
    have HNr := Lib.hid hN
    have HB := Lib.hid hb
    clear hN hb
    obtain ⟨y6, x6, z6⟩ := O6.facts
    obtain ⟨y7, x7, z7⟩ := O7.facts
    obtain ⟨y5, x5, z5⟩ := O5.facts
    obtain ⟨y4, x4, z4⟩ := O4.facts
    have hsw : w.heap.size ≤ wr.heap.size := HNr.out.now.kp.size
    have hhi : hi ≤ wr.heap.size := HNr.out.q0.2.1
    have hlo : w.heap.size ≤ lo := HNr.out.q0.1
    obtain ⟨T, hT⟩ : ∃ T, T = P.tok c.l s0 := ⟨_, rfl⟩
    obtain ⟨M, hM⟩ : ∃ M, M = P.signM c.l 13 s0 := ⟨_, rfl⟩
    rw [← hT] at O6 y6
    rw [← hM] at O7 y7
    obtain ⟨k, rfl⟩ : ∃ k, gk = k + 1 := by
      cases gk with
      | zero => cases HB.out
      | succ k => exact ⟨k, rfl⟩
    have hB2 : P.postL c.l (P.recs c.l k) d left s0 = some R := HB.out
    unfold P.postL at hB2
    rw [← hM, ← hT] at hB2
    by_cases hm : M.1 = 0
    · rw [if_pos hm] at hB2
      obtain rfl := Option.some.inj hB2
      have e : P.sign c.l 13 s0 = s0 := by rw [P.sign, ← hM, if_pos hm]
      rw [e] at HNr
      have hm1 : (M.1 != 0) = false := by simp [hm]
      clear hB2 hm hT hM e HB
      go_wp2_with fail
      refine bodyPost_ret (v := (.agg #[.int .i64 (left).op, .int .i64 (left).ty.kind, .int .i64 (left).ty.ptr, .int .i64 (left).ty.len, .string ⟨(left).nm.toArray⟩, .int .i64 (left).n, .slice a n cp, .int .i64 (left).pos])) (by simp [results, Tryd.results95, go_sem, *]) rfl ?_
      exact NowQ.fin0 (R := (left, s0)) (NowQ.to HNr.out [w.heap.size, w1.heap.size, b6, b7] Keeps.au (by simp <;> omega) (by simp [kq] <;> omega))
    · rw [if_neg hm] at hB2
      have e : P.sign c.l 13 s0 = P.next c.l s0 := by rw [P.sign, ← hM, if_neg hm]
      rw [e] at HNr
      have hm1 : (M.1 != 0) = true := by simp [hm]
      have HJ := Lib.hid (NowQ.joinOne (g := wr.heap.size) (a := left) (ka := .slice a n cp) (NowQ.to HNr.out [] ((Keeps.refl _ _).alloc (.cells #[.int .i64 left.op, .int .i64 left.ty.kind, .int .i64 left.ty.ptr, .int .i64 left.ty.len, .string ⟨left.nm.toArray⟩, .int .i64 left.n, .slice a n cp, .int .i64 left.pos] 105)) (fun b hb => absurd hb List.not_mem_nil) (fun q _ b hb => absurd hb List.not_mem_nil)) (OwnB.new rfl) ⟨by omega, by omega⟩ [w1.heap.size, b6, b7] (by
        intro x hx
        simp only [List.mem_cons, List.not_mem_nil, or_false] at hx ⊢
        rcases hx with rfl | rfl | rfl <;> omega))
      by_cases h3 : M.1 = 3
      · rw [if_pos h3] at hB2
        obtain ⟨B, hB, hR⟩ := Option.bind_eq_some_iff.1 hB2
        have CE := fun W H => Lib.hid ((HGA.out k (by omega)).expr (d + 1) (P.next c.l s0) B W (by omega) (by omega) hB H)
        have CN := fun W H => Lib.hid (need_any c hc B.2 W H [93])
        have CS2 := CS (P.need c.l [93] B.2)
        have h3b : (M.1 == 3) = true := by simp [h3]
        have HR2 := Lib.hid (show (P.recs c.l k).postL d ⟨M.1, ty0, [], 0, two left B.1, T.pos⟩ (P.need c.l [93] B.2) = some R by rw [h3]; exact hR)
        clear hB2 hm hT hM e HB hB hR h3
        go_wp2_with fail
        refine (CE _ (NowQ.pin (NowQ.to HJ.out [w.heap.size, w1.heap.size, b6, b7] Keeps.au (by simp <;> omega) (by simp [kq] <;> omega)))).out.mono ?_
        rintro e w3 ⟨a2, n2, p2, rfl, hP, hK, hT⟩
        have hz_w3 := hK.size
        try simp only [World.size_alloc, World.size_setCell, World.size_drew, World.heap_drewN] at hz_w3
        have O_w3_0 : OwnB w3 (w.heap.size) #[.int .i64 0, .int .i64 0, .int .i64 0, .int .i64 0, .string ⟨#[]⟩, .int .i64 0, .slice none 0 0, .int .i64 0] 105 := OwnB.call OwnB.au hK (by simp only [List.mem_singleton]; omega)
        obtain ⟨y_w3_0, x_w3_0, b_w3_0⟩ := O_w3_0.facts
        have O_w3_1 : OwnB w3 (w1.heap.size) #[.int .i64 (left).op, .int .i64 (left).ty.kind, .int .i64 (left).ty.ptr, .int .i64 (left).ty.len, .string ⟨(left).nm.toArray⟩, .int .i64 (left).n, .slice a n cp, .int .i64 (left).pos] 105 := OwnB.call OwnB.au hK (by simp only [List.mem_singleton]; omega)
        obtain ⟨y_w3_1, x_w3_1, b_w3_1⟩ := O_w3_1.facts
        have O_w3_2 : OwnB w3 (b6) #[.int .i64 (T).kind, .string ⟨(T).text.toArray⟩, .int .i64 (T).n, .int .i64 (T).pos] 60 := OwnB.call OwnB.au hK (by simp only [List.mem_singleton]; omega)
        obtain ⟨y_w3_2, x_w3_2, b_w3_2⟩ := O_w3_2.facts
        have O_w3_3 : OwnB w3 (b7) #[.int .i64 (M).1, .int .i64 (M).2] 69 := OwnB.call OwnB.au hK (by simp only [List.mem_singleton]; omega)
        obtain ⟨y_w3_3, x_w3_3, b_w3_3⟩ := O_w3_3.facts
        have HN3 := Lib.hid (NowQ.callE (NowQ.to HJ.out [w.heap.size, w1.heap.size, b6, b7] Keeps.au (by simp <;> omega) (by simp [kq] <;> omega)) hP hK hT)
        clear hP hK hT
        go_wp2_with (at_builtin; refine wpList_appendX (acc := one left) (B := B.1) rfl _ _ rfl rfl rfl (NowQ.to HN3.out [] Keeps.au (fun b hb => absurd hb List.not_mem_nil) (fun q _ b hb => absurd hb List.not_mem_nil)) OwnB.au ⟨by (try simp only [World.size_alloc]); omega, by (try simp only [World.size_alloc]); omega, (by (try simp only [World.size_alloc, World.size_setCell, World.size_drew, World.heap_drewN]); omega)⟩ (by simp [one, Exs.add, Exs.len]) (fun q hq => absurd hq List.not_mem_nil) [w1.heap.size] (by intro x hx; simp only [List.mem_cons, List.not_mem_nil, or_false] at hx; subst hx; refine ⟨?_, .inr (.inr (by simp)), .inl ?_⟩ <;> (try simp only [World.size_alloc]) <;> omega) ?_; intro g cap' w4 hN4 hk4 hz4; (try simp only [World.size_alloc] at hz4); have OA := OwnB.kept (O_w3_0.alloc _) (hk4 w.heap.size (by (try simp only [World.size_alloc, World.size_setCell, World.size_drew, World.heap_drewN]); omega) (.inl (by omega))); have OB := OwnB.kept (O_w3_1.alloc _) (hk4 w1.heap.size (by (try simp only [World.size_alloc, World.size_setCell, World.size_drew, World.heap_drewN]); omega) (.inr (.inr (by simp)))); have OC := OwnB.kept (O_w3_2.alloc _) (hk4 b6 (by (try simp only [World.size_alloc, World.size_setCell, World.size_drew, World.heap_drewN]); omega) (.inr (.inr (by simp)))); have OD := OwnB.kept (O_w3_3.alloc _) (hk4 b7 (by (try simp only [World.size_alloc, World.size_setCell, World.size_drew, World.heap_drewN]); omega) (.inr (.inr (by simp)))); have HN4 := Lib.hid hN4; clear hN4 hk4)
        refine (CN _ (NowQ.pin (NowQ.to HN4.out [w.heap.size, w1.heap.size] Keeps.au (by simp <;> omega) (by simp [kq] <;> omega)))).out.mono ?_
        rintro e w5 ⟨rfl, hP, hK⟩
        have hz_w5 := hK.size
        try simp only [World.size_alloc, World.size_setCell, World.size_drew, World.heap_drewN] at hz_w5
        have O_w5_0 : OwnB w5 (w.heap.size) #[.int .i64 0, .int .i64 0, .int .i64 0, .int .i64 0, .string ⟨#[]⟩, .int .i64 0, .slice none 0 0, .int .i64 0] 105 := OwnB.call OwnB.au hK (by simp only [List.mem_singleton]; omega)
        obtain ⟨y_w5_0, x_w5_0, b_w5_0⟩ := O_w5_0.facts
        have O_w5_1 : OwnB w5 (w1.heap.size) #[.int .i64 (left).op, .int .i64 (left).ty.kind, .int .i64 (left).ty.ptr, .int .i64 (left).ty.len, .string ⟨(left).nm.toArray⟩, .int .i64 (left).n, .slice a n cp, .int .i64 (left).pos] 105 := OwnB.call OwnB.au hK (by simp only [List.mem_singleton]; omega)
        obtain ⟨y_w5_1, x_w5_1, b_w5_1⟩ := O_w5_1.facts
        have O_w5_2 : OwnB w5 (b6) #[.int .i64 (T).kind, .string ⟨(T).text.toArray⟩, .int .i64 (T).n, .int .i64 (T).pos] 60 := OwnB.call OwnB.au hK (by simp only [List.mem_singleton]; omega)
        obtain ⟨y_w5_2, x_w5_2, b_w5_2⟩ := O_w5_2.facts
        have O_w5_3 : OwnB w5 (b7) #[.int .i64 (M).1, .int .i64 (M).2] 69 := OwnB.call OwnB.au hK (by simp only [List.mem_singleton]; omega)
        obtain ⟨y_w5_3, x_w5_3, b_w5_3⟩ := O_w5_3.facts
        have HN5 := Lib.hid (NowQ.call (NowQ.to HN4.out [w.heap.size, w1.heap.size] Keeps.au (by simp <;> omega) (by simp [kq] <;> omega)) hP hK)
        clear hP hK
        go_wp2_with fail
        refine (CS2 _ (NowQ.pin (NowQ.to HN5.out [w.heap.size, w1.heap.size, w5.heap.size, w5.heap.size+1] Keeps.au (by simp <;> omega) (by simp [kq] <;> omega)))).out.mono ?_
        rintro e w6 ⟨rfl, hP, hK⟩
        have hz_w6 := hK.size
        try simp only [World.size_alloc, World.size_setCell, World.size_drew, World.heap_drewN] at hz_w6
        have O_w6_0 : OwnB w6 (w.heap.size) #[.int .i64 0, .int .i64 0, .int .i64 0, .int .i64 0, .string ⟨#[]⟩, .int .i64 0, .slice none 0 0, .int .i64 0] 105 := OwnB.call OwnB.au hK (by simp only [List.mem_singleton]; omega)
        obtain ⟨y_w6_0, x_w6_0, b_w6_0⟩ := O_w6_0.facts
        have O_w6_1 : OwnB w6 (w1.heap.size) #[.int .i64 M.1, .int .i64 0, .int .i64 0, .int .i64 0, .string ⟨#[]⟩, .int .i64 0, (.slice (some ⟨g, 0, none⟩) (Exs.len (one left) + 1) cap'), .int .i64 T.pos] 105 := OwnB.call (by repeat (first | with_reducible apply OwnB.set8 | with_reducible assumption | (with_reducible refine OwnB.new ?_; (first | with_reducible rfl | (simp only [World.size_alloc, World.size_setCell, World.size_drew, World.heap_drewN]; done) | (simp only [World.size_alloc, World.size_setCell, World.size_drew, World.heap_drewN]; omega))) | with_reducible refine OwnB.alloc ?_ _ | with_reducible refine OwnB.drew ?_ | with_reducible refine OwnB.drewN ?_ _ | with_reducible refine OwnB.setCell ?_ _ _ ?_ | (dsimp only; omega) | omega)) hK (by simp only [List.mem_singleton]; omega)
        obtain ⟨y_w6_1, x_w6_1, b_w6_1⟩ := O_w6_1.facts
        have O_w6_2 : OwnB w6 (w5.heap.size) #[.int .i64 (T).kind, .string ⟨(T).text.toArray⟩, .int .i64 (T).n, .int .i64 (T).pos] 60 := OwnB.call OwnB.au hK (by simp only [List.mem_singleton]; omega)
        obtain ⟨y_w6_2, x_w6_2, b_w6_2⟩ := O_w6_2.facts
        have O_w6_3 : OwnB w6 (w5.heap.size+1) #[.int .i64 (M).1, .int .i64 (M).2] 69 := OwnB.call OwnB.au hK (by simp only [List.mem_singleton]; omega)
        obtain ⟨y_w6_3, x_w6_3, b_w6_3⟩ := O_w6_3.facts
        have HN6 := Lib.hid (NowQ.call (NowQ.to HN5.out [w.heap.size, w1.heap.size, w5.heap.size, w5.heap.size+1] Keeps.au (by simp <;> omega) (by simp [kq] <;> omega)) hP hK)
        clear hP hK
        go_wp2_with fail
        go_roundg k
        case measure => omega
        case rel =>
          exact ⟨by omega, ⟨_, _, P.need c.l [93] B.2, ⟨M.1, ty0, [], 0, two left B.1, T.pos⟩, _, _, _, _, _, rfl, rfl, (NowQ.to HN6.out [w.heap.size, w1.heap.size, w5.heap.size, w5.heap.size+1] Keeps.au (by simp <;> omega) (by simp [kq] <;> omega)), (by repeat (first | with_reducible apply OwnB.set4 | with_reducible assumption | (with_reducible refine OwnB.new ?_; (first | with_reducible rfl | (simp only [World.size_alloc, World.size_setCell, World.size_drew, World.heap_drewN]; done) | (simp only [World.size_alloc, World.size_setCell, World.size_drew, World.heap_drewN]; omega))) | with_reducible refine OwnB.alloc ?_ _ | with_reducible refine OwnB.drew ?_ | with_reducible refine OwnB.drewN ?_ _ | with_reducible refine OwnB.setCell ?_ _ _ ?_ | (dsimp only; omega) | omega)), (by repeat (first | with_reducible apply OwnB.set2 | with_reducible assumption | (with_reducible refine OwnB.new ?_; (first | with_reducible rfl | (simp only [World.size_alloc, World.size_setCell, World.size_drew, World.heap_drewN]; done) | (simp only [World.size_alloc, World.size_setCell, World.size_drew, World.heap_drewN]; omega))) | with_reducible refine OwnB.alloc ?_ _ | with_reducible refine OwnB.drew ?_ | with_reducible refine OwnB.drewN ?_ _ | with_reducible refine OwnB.setCell ?_ _ _ ?_ | (dsimp only; omega) | omega)), (show OwnB _ (w1.heap.size) #[.int .i64 M.1, .int .i64 0, .int .i64 0, .int .i64 0, .string ⟨#[]⟩, .int .i64 0, (.slice (some ⟨g, 0, none⟩) (Exs.len (one left) + 1) cap'), .int .i64 T.pos] 105 from OwnB.au), OwnB.au, HR2.out, (by (try simp only [World.size_alloc, World.size_setCell, World.size_drew, World.heap_drewN]); omega), (by (try simp only [World.size_alloc, World.size_setCell, World.size_drew, World.heap_drewN]); omega), (by (try simp only [World.size_alloc, World.size_setCell, World.size_drew, World.heap_drewN]); omega), (by (try simp only [World.size_alloc, World.size_setCell, World.size_drew, World.heap_drewN]); omega), (by (try simp only [World.size_alloc, World.size_setCell, World.size_drew, World.heap_drewN]); omega), (by (try simp only [World.size_alloc, World.size_setCell, World.size_drew, World.heap_drewN]); omega), (by (try simp only [World.size_alloc, World.size_setCell, World.size_drew, World.heap_drewN]); omega)⟩⟩
      · rw [if_neg h3] at hB2
        have CS2 := CS (P.next c.l s0)
        have h3b : (M.1 == 3) = false := by simp [h3]
        have HR2 := Lib.hid hB2
        clear hB2 hm hT hM e HB h3
        go_wp2_with fail
        refine (CS2 _ (NowQ.pin (NowQ.to HNr.out [w.heap.size, w1.heap.size, wr.heap.size, wr.heap.size+1, wr.heap.size+2] Keeps.au (by simp <;> omega) (by simp [kq] <;> omega)))).out.mono ?_
        rintro e w6 ⟨rfl, hP, hK⟩
        have hz_w6 := hK.size
        try simp only [World.size_alloc, World.size_setCell, World.size_drew, World.heap_drewN] at hz_w6
        have O_w6_0 : OwnB w6 (w.heap.size) #[.int .i64 0, .int .i64 0, .int .i64 0, .int .i64 0, .string ⟨#[]⟩, .int .i64 0, .slice none 0 0, .int .i64 0] 105 := OwnB.call OwnB.au hK (by simp only [List.mem_singleton]; omega)
        obtain ⟨y_w6_0, x_w6_0, b_w6_0⟩ := O_w6_0.facts
        have O_w6_1 : OwnB w6 (w1.heap.size) #[.int .i64 M.1, .int .i64 0, .int .i64 0, .int .i64 0, .string ⟨#[]⟩, .int .i64 0, (.slice (some ⟨wr.heap.size, 0, none⟩) 1 1), .int .i64 T.pos] 105 := OwnB.call (by repeat (first | with_reducible apply OwnB.set8 | with_reducible assumption | (with_reducible refine OwnB.new ?_; (first | with_reducible rfl | (simp only [World.size_alloc, World.size_setCell, World.size_drew, World.heap_drewN]; done) | (simp only [World.size_alloc, World.size_setCell, World.size_drew, World.heap_drewN]; omega))) | with_reducible refine OwnB.alloc ?_ _ | with_reducible refine OwnB.drew ?_ | with_reducible refine OwnB.drewN ?_ _ | with_reducible refine OwnB.setCell ?_ _ _ ?_ | (dsimp only; omega) | omega)) hK (by simp only [List.mem_singleton]; omega)
        obtain ⟨y_w6_1, x_w6_1, b_w6_1⟩ := O_w6_1.facts
        have O_w6_2 : OwnB w6 (wr.heap.size) #[.int .i64 (left).op, .int .i64 (left).ty.kind, .int .i64 (left).ty.ptr, .int .i64 (left).ty.len, .string ⟨(left).nm.toArray⟩, .int .i64 (left).n, .slice a n cp, .int .i64 (left).pos] 105 := OwnB.call OwnB.au hK (by simp only [List.mem_singleton]; omega)
        obtain ⟨y_w6_2, x_w6_2, b_w6_2⟩ := O_w6_2.facts
        have O_w6_3 : OwnB w6 (wr.heap.size+1) #[.int .i64 (T).kind, .string ⟨(T).text.toArray⟩, .int .i64 (T).n, .int .i64 (T).pos] 60 := OwnB.call OwnB.au hK (by simp only [List.mem_singleton]; omega)
        obtain ⟨y_w6_3, x_w6_3, b_w6_3⟩ := O_w6_3.facts
        have O_w6_4 : OwnB w6 (wr.heap.size+2) #[.int .i64 (M).1, .int .i64 (M).2] 69 := OwnB.call OwnB.au hK (by simp only [List.mem_singleton]; omega)
        obtain ⟨y_w6_4, x_w6_4, b_w6_4⟩ := O_w6_4.facts
        have HN6 := Lib.hid (NowQ.call (NowQ.to HNr.out [w.heap.size, w1.heap.size, wr.heap.size, wr.heap.size+1, wr.heap.size+2] Keeps.au (by simp <;> omega) (by simp [kq] <;> omega)) hP hK)
        clear hP hK
        go_wp2_with fail
        go_roundg k
        case measure => omega
        case rel =>
          exact ⟨by omega, ⟨_, _, P.next c.l s0, ⟨M.1, ty0, [], 0, one left, T.pos⟩, _, _, _, _, _, rfl, rfl, NowQ.joinOne (g := wr.heap.size) (a := left) (ka := .slice a n cp) (NowQ.to HN6.out [w.heap.size, w1.heap.size, wr.heap.size, wr.heap.size+1, wr.heap.size+2] Keeps.au (by simp <;> omega) (by simp [kq] <;> omega)) OwnB.au ⟨by omega, by omega⟩ [w1.heap.size] (by intro x hx; simp only [List.mem_cons, List.not_mem_nil, or_false] at hx; subst hx; exact ⟨.inr (.inr (by simp)), by omega⟩), (by repeat (first | with_reducible apply OwnB.set4 | with_reducible assumption | (with_reducible refine OwnB.new ?_; (first | with_reducible rfl | (simp only [World.size_alloc, World.size_setCell, World.size_drew, World.heap_drewN]; done) | (simp only [World.size_alloc, World.size_setCell, World.size_drew, World.heap_drewN]; omega))) | with_reducible refine OwnB.alloc ?_ _ | with_reducible refine OwnB.drew ?_ | with_reducible refine OwnB.drewN ?_ _ | with_reducible refine OwnB.setCell ?_ _ _ ?_ | (dsimp only; omega) | omega)), (by repeat (first | with_reducible apply OwnB.set2 | with_reducible assumption | (with_reducible refine OwnB.new ?_; (first | with_reducible rfl | (simp only [World.size_alloc, World.size_setCell, World.size_drew, World.heap_drewN]; done) | (simp only [World.size_alloc, World.size_setCell, World.size_drew, World.heap_drewN]; omega))) | with_reducible refine OwnB.alloc ?_ _ | with_reducible refine OwnB.drew ?_ | with_reducible refine OwnB.drewN ?_ _ | with_reducible refine OwnB.setCell ?_ _ _ ?_ | (dsimp only; omega) | omega)), (show OwnB _ (w1.heap.size) #[.int .i64 M.1, .int .i64 0, .int .i64 0, .int .i64 0, .string ⟨#[]⟩, .int .i64 0, (.slice (some ⟨wr.heap.size, 0, none⟩) 1 1), .int .i64 T.pos] 105 from OwnB.au), OwnB.au, HR2.out, (by (try simp only [World.size_alloc, World.size_setCell, World.size_drew, World.heap_drewN]); omega), (by (try simp only [World.size_alloc, World.size_setCell, World.size_drew, World.heap_drewN]); omega), (by (try simp only [World.size_alloc, World.size_setCell, World.size_drew, World.heap_drewN]); omega), (by (try simp only [World.size_alloc, World.size_setCell, World.size_drew, World.heap_drewN]); omega), (by (try simp only [World.size_alloc, World.size_setCell, World.size_drew, World.heap_drewN]); omega), (by (try simp only [World.size_alloc, World.size_setCell, World.size_drew, World.heap_drewN]); omega), (by (try simp only [World.size_alloc, World.size_setCell, World.size_drew, World.heap_drewN]); omega)⟩⟩
end Go.Proofs.YtjmemapkipkocaaDoor

/-
  Expressions: 'unary'.
-/
namespace Go.Proofs.YtjmemapkipkocaaDoor
open Go.RowKit Go.Maps
set_option linter.unusedVariables false
set_option linter.unusedSimpArgs false
set_option maxRecDepth 100000
set_option maxHeartbeats 1000000

theorem beginsType_does (c : Cx) (s : St) (t : Tok) (W : World) (h : PIn W c s) : Calls Tryd.prog 85 #[(.agg #[.int .i64 (t).kind, .string ⟨(t).text.toArray⟩, .int .i64 (t).n, .int .i64 (t).pos])] W (Does c s (.bool (isType t.text)) W) := by
  refine (beginsType_any t W).mono ?_
  rintro e w' ⟨rfl, hb⟩
  exact ⟨rfl, h.keep (Keeps.of_below hb), Keeps.of_below hb⟩
theorem NowQ.finOneT {c : Cx} {w W : World} {s : St} {L : List KQ} {op n pos : Int} {ty : Ty} {a : Ex} {ka : Value} {lo hi g : Nat} {X : List Nat} (h : NowQ c w s (kq lo hi X a.kids ka :: L) W) (hb : OwnB W g #[.int .i64 a.op, .int .i64 a.ty.kind, .int .i64 a.ty.ptr, .int .i64 a.ty.len, .string ⟨a.nm.toArray⟩, .int .i64 a.n, ka, .int .i64 a.pos] 105) (hg : hi ≤ g ∧ lo ≤ g) :
    DoesE c (⟨op, ty, [], n, one a, pos⟩, s) w (.returned (.agg #[.int .i64 op, .int .i64 ty.kind, .int .i64 ty.ptr, .int .i64 ty.len, .string ⟨#[]⟩, .int .i64 n, .slice (some ⟨g, 0, none⟩) 1 1, .int .i64 pos])) W :=
  NowQ.finE (R := (⟨op, ty, [], n, one a, pos⟩, s)) h (KidsIn.wide (KidsIn.one_ h.q0.2.2 hg.1 hg.2 hb [] (by simp)) h.q0.1 (lt_of_blk hb.blk) (Nat.le_refl _))
theorem unary_step (c : Cx) (hc : c.Ok) (f : Nat) (GA : ∀ k, k ≤ f → GoodE c k) (d : Int) (s : St) (R : Ex × St) (w : World) (h0 : 0 ≤ d) (hd : d + (f + 1) ≤ 1000000000)
    (hR : P.unary c.l (P.recs c.l f) d s = some R) (h : PIn w c s) : Calls Tryd.prog 93 #[pv c, .int .i64 d] w (DoesE c R w) := by
  have HN := Lib.hid (NowQ.start h)
  have hg := HN.out.now.g
  have hgt := HN.out.now.gt
  have CB := fun W H => Lib.hid (begin_any c hc s W H d)
  unfold P.unary at hR
  obtain ⟨s1, hs1⟩ : ∃ s1, s1 = P.begin c.l d s := ⟨_, rfl⟩
  rw [← hs1] at hR CB
  have CS := fun W H => Lib.hid (sign_any c hc s1 W H 12)
  unfold P.unary1 at hR
  obtain ⟨T, hT⟩ : ∃ T, T = P.tok c.l s1 := ⟨_, rfl⟩
  obtain ⟨M, hM⟩ : ∃ M, M = P.signM c.l 12 s1 := ⟨_, rfl⟩
  rw [← hM, ← hT] at hR CS
  have hw : wrap64 (d + 1) = d + 1 := wrapJ (by omega) (by omega)
  have hw' : IntKind.i64.wrap (d + 1) = d + 1 := wrapI (by omega) (by omega)
  by_cases hm : M.1 = 0
  · rw [if_pos hm] at hR
    have e : P.sign c.l 12 s1 = s1 := by rw [P.sign, ← hM, if_pos hm]
    rw [e] at CS
    have hm1 : (M.1 != 0) = false := by simp [hm]
    have CT := fun W H => Lib.hid (token_any c hc s1 W H)
    rw [← hT] at CT
    have CI := fun W H => Lib.hid (is_any c hc s1 W H [40])
    have C2 := fun W H => Lib.hid (second_any c hc s1 W H)
    obtain ⟨U, hU⟩ : ∃ U, U = P.snd c.l s1 := ⟨_, rfl⟩
    have CY := fun W H => Lib.hid (beginsType_does c s1 U W H)
    unfold P.unary2 at hR
    rw [← hU] at hR C2
    rw [← hT] at hR
    have CZ := fun W H => Lib.hid (accept_any c hc s1 W H [115, 105, 122, 101, 111, 102])
    have HGA := Lib.hid GA
    have tk0 := tok_field0
    have tk1 := tok_field1
    have tk2 := tok_field2
    have tk3 := tok_field3
    cases hp : P.is c.l [40] s1 && isType U.text with
    | true =>
      rw [hp, if_pos rfl] at hR
      obtain ⟨hp1, hp2⟩ : P.is c.l [40] s1 = true ∧ isType U.text = true := by simpa using hp
      rw [hp1] at CI
      rw [hp2] at CY
      obtain ⟨Y, hY⟩ : ∃ Y, Y = P.within c.l s1 := ⟨_, rfl⟩
      rw [← hY] at hR
      obtain ⟨A, hA, hR⟩ := Option.bind_eq_some_iff.1 hR
      obtain rfl := Option.some.inj hR
      have CW := fun W H => Lib.hid (typeWithin_any c hc s1 W H)
      rw [← hY] at CW
      have CU := fun W H => Lib.hid ((GA f (Nat.le_refl _)).unary (d + 1) Y.2 A W (by omega) (by omega) hA H)
      clear h hR hm hT hM e hU hs1 hp hp1 hp2 hY hA GA
      unfold pv
      go_enter Tryd.func93, Tryd.ntmps93
      go_wp2_with fail
      refine (CB _ (NowQ.pin (NowQ.to HN.out [w.heap.size] Keeps.au (by simp <;> omega) (by simp [kq] <;> omega)))).out.mono ?_
      rintro e w1 ⟨rfl, hP, hK⟩
      have hz_w1 := hK.size
      try simp only [World.size_alloc, World.size_setCell, World.size_drew, World.heap_drewN] at hz_w1
      have O_w1_0 : OwnB w1 (w.heap.size) #[.int .i64 0, .int .i64 0, .int .i64 0, .int .i64 0, .string ⟨#[]⟩, .int .i64 0, .slice none 0 0, .int .i64 0] 105 := OwnB.call OwnB.au hK (by simp only [List.mem_singleton]; omega)
      obtain ⟨y_w1_0, x_w1_0, b_w1_0⟩ := O_w1_0.facts
      have HN1 := Lib.hid (NowQ.call (NowQ.to HN.out [w.heap.size] Keeps.au (by simp <;> omega) (by simp [kq] <;> omega)) hP hK)
      clear hP hK
      go_wp2_with fail
      refine (CS _ (NowQ.pin (NowQ.to HN1.out [w.heap.size] Keeps.au (by simp <;> omega) (by simp [kq] <;> omega)))).out.mono ?_
      rintro e w2 ⟨rfl, hP, hK⟩
      have hz_w2 := hK.size
      try simp only [World.size_alloc, World.size_setCell, World.size_drew, World.heap_drewN] at hz_w2
      have O_w2_0 : OwnB w2 (w.heap.size) #[.int .i64 0, .int .i64 0, .int .i64 0, .int .i64 0, .string ⟨#[]⟩, .int .i64 0, .slice none 0 0, .int .i64 0] 105 := OwnB.call OwnB.au hK (by simp only [List.mem_singleton]; omega)
      obtain ⟨y_w2_0, x_w2_0, b_w2_0⟩ := O_w2_0.facts
      have HN2 := Lib.hid (NowQ.call (NowQ.to HN1.out [w.heap.size] Keeps.au (by simp <;> omega) (by simp [kq] <;> omega)) hP hK)
      clear hP hK
      go_wp2_with fail
      refine (CT _ (NowQ.pin (NowQ.to HN2.out [w.heap.size, w2.heap.size, w2.heap.size+1] Keeps.au (by simp <;> omega) (by simp [kq] <;> omega)))).out.mono ?_
      rintro e w3 ⟨rfl, hP, hK⟩
      have hz_w3 := hK.size
      try simp only [World.size_alloc, World.size_setCell, World.size_drew, World.heap_drewN] at hz_w3
      have O_w3_0 : OwnB w3 (w.heap.size) #[.int .i64 0, .int .i64 0, .int .i64 0, .int .i64 0, .string ⟨#[]⟩, .int .i64 0, .slice none 0 0, .int .i64 0] 105 := OwnB.call OwnB.au hK (by simp only [List.mem_singleton]; omega)
      obtain ⟨y_w3_0, x_w3_0, b_w3_0⟩ := O_w3_0.facts
      have O_w3_1 : OwnB w3 (w2.heap.size) #[.int .i64 (T).kind, .string ⟨(T).text.toArray⟩, .int .i64 (T).n, .int .i64 (T).pos] 60 := OwnB.call OwnB.au hK (by simp only [List.mem_singleton]; omega)
      obtain ⟨y_w3_1, x_w3_1, b_w3_1⟩ := O_w3_1.facts
      have O_w3_2 : OwnB w3 (w2.heap.size+1) #[.int .i64 (M).1, .int .i64 (M).2] 69 := OwnB.call OwnB.au hK (by simp only [List.mem_singleton]; omega)
      obtain ⟨y_w3_2, x_w3_2, b_w3_2⟩ := O_w3_2.facts
      have HN3 := Lib.hid (NowQ.call (NowQ.to HN2.out [w.heap.size, w2.heap.size, w2.heap.size+1] Keeps.au (by simp <;> omega) (by simp [kq] <;> omega)) hP hK)
      clear hP hK
      go_wp2_with fail
      refine (CI _ (NowQ.pin (NowQ.to HN3.out [w.heap.size, w2.heap.size, w2.heap.size+1] Keeps.au (by simp <;> omega) (by simp [kq] <;> omega)))).out.mono ?_
      rintro e w4 ⟨rfl, hP, hK⟩
      have hz_w4 := hK.size
      try simp only [World.size_alloc, World.size_setCell, World.size_drew, World.heap_drewN] at hz_w4
      have O_w4_0 : OwnB w4 (w.heap.size) #[.int .i64 0, .int .i64 0, .int .i64 0, .int .i64 0, .string ⟨#[]⟩, .int .i64 0, .slice none 0 0, .int .i64 0] 105 := OwnB.call OwnB.au hK (by simp only [List.mem_singleton]; omega)
      obtain ⟨y_w4_0, x_w4_0, b_w4_0⟩ := O_w4_0.facts
      have O_w4_1 : OwnB w4 (w2.heap.size) #[.int .i64 (T).kind, .string ⟨(T).text.toArray⟩, .int .i64 (T).n, .int .i64 (T).pos] 60 := OwnB.call OwnB.au hK (by simp only [List.mem_singleton]; omega)
      obtain ⟨y_w4_1, x_w4_1, b_w4_1⟩ := O_w4_1.facts
      have O_w4_2 : OwnB w4 (w2.heap.size+1) #[.int .i64 (M).1, .int .i64 (M).2] 69 := OwnB.call OwnB.au hK (by simp only [List.mem_singleton]; omega)
      obtain ⟨y_w4_2, x_w4_2, b_w4_2⟩ := O_w4_2.facts
      have HN4 := Lib.hid (NowQ.call (NowQ.to HN3.out [w.heap.size, w2.heap.size, w2.heap.size+1] Keeps.au (by simp <;> omega) (by simp [kq] <;> omega)) hP hK)
      clear hP hK
      go_wp2_with fail
      refine (C2 _ (NowQ.pin (NowQ.to HN4.out [w.heap.size, w2.heap.size, w2.heap.size+1] Keeps.au (by simp <;> omega) (by simp [kq] <;> omega)))).out.mono ?_
      rintro e w5 ⟨rfl, hP, hK⟩
      have hz_w5 := hK.size
      try simp only [World.size_alloc, World.size_setCell, World.size_drew, World.heap_drewN] at hz_w5
      have O_w5_0 : OwnB w5 (w.heap.size) #[.int .i64 0, .int .i64 0, .int .i64 0, .int .i64 0, .string ⟨#[]⟩, .int .i64 0, .slice none 0 0, .int .i64 0] 105 := OwnB.call OwnB.au hK (by simp only [List.mem_singleton]; omega)
      obtain ⟨y_w5_0, x_w5_0, b_w5_0⟩ := O_w5_0.facts
      have O_w5_1 : OwnB w5 (w2.heap.size) #[.int .i64 (T).kind, .string ⟨(T).text.toArray⟩, .int .i64 (T).n, .int .i64 (T).pos] 60 := OwnB.call OwnB.au hK (by simp only [List.mem_singleton]; omega)
      obtain ⟨y_w5_1, x_w5_1, b_w5_1⟩ := O_w5_1.facts
      have O_w5_2 : OwnB w5 (w2.heap.size+1) #[.int .i64 (M).1, .int .i64 (M).2] 69 := OwnB.call OwnB.au hK (by simp only [List.mem_singleton]; omega)
      obtain ⟨y_w5_2, x_w5_2, b_w5_2⟩ := O_w5_2.facts
      have HN5 := Lib.hid (NowQ.call (NowQ.to HN4.out [w.heap.size, w2.heap.size, w2.heap.size+1] Keeps.au (by simp <;> omega) (by simp [kq] <;> omega)) hP hK)
      clear hP hK
      go_wp2_with fail
      refine (CY _ (NowQ.pin (NowQ.to HN5.out [w.heap.size, w2.heap.size, w2.heap.size+1] Keeps.au (by simp <;> omega) (by simp [kq] <;> omega)))).out.mono ?_
      rintro e w6 ⟨rfl, hP, hK⟩
      have hz_w6 := hK.size
      try simp only [World.size_alloc, World.size_setCell, World.size_drew, World.heap_drewN] at hz_w6
      have O_w6_0 : OwnB w6 (w.heap.size) #[.int .i64 0, .int .i64 0, .int .i64 0, .int .i64 0, .string ⟨#[]⟩, .int .i64 0, .slice none 0 0, .int .i64 0] 105 := OwnB.call OwnB.au hK (by simp only [List.mem_singleton]; omega)
      obtain ⟨y_w6_0, x_w6_0, b_w6_0⟩ := O_w6_0.facts
      have O_w6_1 : OwnB w6 (w2.heap.size) #[.int .i64 (T).kind, .string ⟨(T).text.toArray⟩, .int .i64 (T).n, .int .i64 (T).pos] 60 := OwnB.call OwnB.au hK (by simp only [List.mem_singleton]; omega)
      obtain ⟨y_w6_1, x_w6_1, b_w6_1⟩ := O_w6_1.facts
      have O_w6_2 : OwnB w6 (w2.heap.size+1) #[.int .i64 (M).1, .int .i64 (M).2] 69 := OwnB.call OwnB.au hK (by simp only [List.mem_singleton]; omega)
      obtain ⟨y_w6_2, x_w6_2, b_w6_2⟩ := O_w6_2.facts
      have HN6 := Lib.hid (NowQ.call (NowQ.to HN5.out [w.heap.size, w2.heap.size, w2.heap.size+1] Keeps.au (by simp <;> omega) (by simp [kq] <;> omega)) hP hK)
      clear hP hK
      go_wp2_with fail
      refine (CW _ (NowQ.pin (NowQ.to HN6.out [w.heap.size, w2.heap.size, w2.heap.size+1] Keeps.au (by simp <;> omega) (by simp [kq] <;> omega)))).out.mono ?_
      rintro e w7 ⟨rfl, hP, hK⟩
      have hz_w7 := hK.size
      try simp only [World.size_alloc, World.size_setCell, World.size_drew, World.heap_drewN] at hz_w7
      have O_w7_0 : OwnB w7 (w.heap.size) #[.int .i64 0, .int .i64 0, .int .i64 0, .int .i64 0, .string ⟨#[]⟩, .int .i64 0, .slice none 0 0, .int .i64 0] 105 := OwnB.call OwnB.au hK (by simp only [List.mem_singleton]; omega)
      obtain ⟨y_w7_0, x_w7_0, b_w7_0⟩ := O_w7_0.facts
      have O_w7_1 : OwnB w7 (w2.heap.size) #[.int .i64 (T).kind, .string ⟨(T).text.toArray⟩, .int .i64 (T).n, .int .i64 (T).pos] 60 := OwnB.call OwnB.au hK (by simp only [List.mem_singleton]; omega)
      obtain ⟨y_w7_1, x_w7_1, b_w7_1⟩ := O_w7_1.facts
      have O_w7_2 : OwnB w7 (w2.heap.size+1) #[.int .i64 (M).1, .int .i64 (M).2] 69 := OwnB.call OwnB.au hK (by simp only [List.mem_singleton]; omega)
      obtain ⟨y_w7_2, x_w7_2, b_w7_2⟩ := O_w7_2.facts
      have HN7 := Lib.hid (NowQ.call (NowQ.to HN6.out [w.heap.size, w2.heap.size, w2.heap.size+1] Keeps.au (by simp <;> omega) (by simp [kq] <;> omega)) hP hK)
      clear hP hK
      go_wp2_with fail
      have ne_0_1 : ¬ (w.heap.size : Nat) = w2.heap.size := by omega
      have ne_0_2 : ¬ (w.heap.size : Nat) = w2.heap.size+1 := by omega
      have ne_0_3 : ¬ (w.heap.size : Nat) = w7.heap.size := by omega
      have ne_1_0 : ¬ (w2.heap.size : Nat) = w.heap.size := by omega
      have ne_1_2 : ¬ (w2.heap.size : Nat) = w2.heap.size+1 := by omega
      have ne_1_3 : ¬ (w2.heap.size : Nat) = w7.heap.size := by omega
      have ne_2_0 : ¬ (w2.heap.size+1 : Nat) = w.heap.size := by omega
      have ne_2_1 : ¬ (w2.heap.size+1 : Nat) = w2.heap.size := by omega
      have ne_2_3 : ¬ (w2.heap.size+1 : Nat) = w7.heap.size := by omega
      have ne_3_0 : ¬ (w7.heap.size : Nat) = w.heap.size := by omega
      have ne_3_1 : ¬ (w7.heap.size : Nat) = w2.heap.size := by omega
      have ne_3_2 : ¬ (w7.heap.size : Nat) = w2.heap.size+1 := by omega
      go_region_held3 (fun w' => w'.cell? ⟨w7.heap.size, 0, none⟩ = some (.int .i64 Y.1.kind) ∧ w'.cell? ⟨w7.heap.size, 1, none⟩ = some (.int .i64 Y.1.ptr) ∧ w'.cell? ⟨w7.heap.size, 2, none⟩ = some (.int .i64 Y.1.len)) (go_keep) ((first | ((go_at_call 93); (with_reducible refine (CU _ (NowQ.pin (NowQ.to HN7.out [w.heap.size, w2.heap.size, w2.heap.size+1, w7.heap.size] Keeps.au (by simp <;> omega) (by simp [kq] <;> omega)))).out.mono ?_); (rintro e w8 ⟨a2, n2, p2, rfl, hP, hK, hT⟩); (have hz_w8 := hK.size); (try simp only [World.size_alloc, World.size_setCell, World.size_drew, World.heap_drewN] at hz_w8); (have O_w8_0 : OwnB w8 (w.heap.size) #[.int .i64 0, .int .i64 0, .int .i64 0, .int .i64 0, .string ⟨#[]⟩, .int .i64 0, .slice none 0 0, .int .i64 0] 105 := OwnB.call OwnB.au hK (by simp only [List.mem_singleton]; omega)); (obtain ⟨y_w8_0, x_w8_0, b_w8_0⟩ := O_w8_0.facts); (have O_w8_1 : OwnB w8 (w2.heap.size) #[.int .i64 (T).kind, .string ⟨(T).text.toArray⟩, .int .i64 (T).n, .int .i64 (T).pos] 60 := OwnB.call OwnB.au hK (by simp only [List.mem_singleton]; omega)); (obtain ⟨y_w8_1, x_w8_1, b_w8_1⟩ := O_w8_1.facts); (have O_w8_2 : OwnB w8 (w2.heap.size+1) #[.int .i64 (M).1, .int .i64 (M).2] 69 := OwnB.call OwnB.au hK (by simp only [List.mem_singleton]; omega)); (obtain ⟨y_w8_2, x_w8_2, b_w8_2⟩ := O_w8_2.facts); (have O_w8_3 : OwnB w8 (w7.heap.size) #[.int .i64 Y.1.kind, .int .i64 Y.1.ptr, .int .i64 Y.1.len] 47 := OwnB.call OwnB.au hK (by simp only [List.mem_singleton]; omega)); (obtain ⟨y_w8_3, x_w8_3, b_w8_3⟩ := O_w8_3.facts); (have HN8 := Lib.hid (NowQ.callE (NowQ.to HN7.out [w.heap.size, w2.heap.size, w2.heap.size+1, w7.heap.size] Keeps.au (by simp <;> omega) (by simp [kq] <;> omega)) hP hK hT)); (clear hP hK hT))))
      go_wp2_with fail
      refine bodyPost_ret (v := .agg #[.int .i64 9, .int .i64 Y.1.kind, .int .i64 Y.1.ptr, .int .i64 Y.1.len, .string ⟨#[]⟩, .int .i64 0, .slice (some ⟨w8.heap.size, 0, none⟩) 1 1, .int .i64 T.pos]) (by simp [results, Tryd.results93, go_sem, *]) rfl ?_
      exact NowQ.finOneT (ty := Y.1) (NowQ.to HN8.out [w.heap.size, w2.heap.size, w2.heap.size+1, w7.heap.size] Keeps.au (by simp <;> omega) (by simp [kq] <;> omega)) OwnB.au (by refine ⟨?_, ?_⟩ <;> (try simp only [World.size_alloc, World.size_setCell, World.size_drew, World.heap_drewN]) <;> omega)
    | false =>
      rw [hp, if_neg (by simp)] at hR
      have tail : True := trivial
      cases hz : P.is c.l [115, 105, 122, 101, 111, 102] s1 with
      | true =>
        rw [hz, if_pos rfl] at hR
        obtain rfl := Option.some.inj hR
        obtain ⟨s2, hs2⟩ : ∃ s2, s2 = P.next c.l s1 := ⟨_, rfl⟩
        have ez : P.acc c.l [115, 105, 122, 101, 111, 102] s1 = s2 := by simp [P.acc, hz, hs2]
        rw [hz, ez] at CZ
        rw [← hs2]
        have CW := fun W H => Lib.hid (typeWithin_any c hc s2 W H)
        obtain ⟨Y, hY⟩ : ∃ Y, Y = P.within c.l s2 := ⟨_, rfl⟩
        rw [← hY] at CW ⊢
        cases hp1 : P.is c.l [40] s1 with
        | true =>
          have hp2 : isType U.text = false := by rw [hp1] at hp; simpa using hp
          rw [hp1] at CI
          rw [hp2] at CY
          clear h hR hm hT hM e hU hs1 hp hp1 hp2 hY hz hs2 ez GA
          unfold pv
          go_enter Tryd.func93, Tryd.ntmps93
          go_wp2_with fail
          refine (CB _ (NowQ.pin (NowQ.to HN.out [w.heap.size] Keeps.au (by simp <;> omega) (by simp [kq] <;> omega)))).out.mono ?_
          rintro e w1 ⟨rfl, hP, hK⟩
          have hz_w1 := hK.size
          try simp only [World.size_alloc, World.size_setCell, World.size_drew, World.heap_drewN] at hz_w1
          have O_w1_0 : OwnB w1 (w.heap.size) #[.int .i64 0, .int .i64 0, .int .i64 0, .int .i64 0, .string ⟨#[]⟩, .int .i64 0, .slice none 0 0, .int .i64 0] 105 := OwnB.call OwnB.au hK (by simp only [List.mem_singleton]; omega)
          obtain ⟨y_w1_0, x_w1_0, b_w1_0⟩ := O_w1_0.facts
          have HN1 := Lib.hid (NowQ.call (NowQ.to HN.out [w.heap.size] Keeps.au (by simp <;> omega) (by simp [kq] <;> omega)) hP hK)
          clear hP hK
          go_wp2_with fail
          refine (CS _ (NowQ.pin (NowQ.to HN1.out [w.heap.size] Keeps.au (by simp <;> omega) (by simp [kq] <;> omega)))).out.mono ?_
          rintro e w2 ⟨rfl, hP, hK⟩
          have hz_w2 := hK.size
          try simp only [World.size_alloc, World.size_setCell, World.size_drew, World.heap_drewN] at hz_w2
          have O_w2_0 : OwnB w2 (w.heap.size) #[.int .i64 0, .int .i64 0, .int .i64 0, .int .i64 0, .string ⟨#[]⟩, .int .i64 0, .slice none 0 0, .int .i64 0] 105 := OwnB.call OwnB.au hK (by simp only [List.mem_singleton]; omega)
          obtain ⟨y_w2_0, x_w2_0, b_w2_0⟩ := O_w2_0.facts
          have HN2 := Lib.hid (NowQ.call (NowQ.to HN1.out [w.heap.size] Keeps.au (by simp <;> omega) (by simp [kq] <;> omega)) hP hK)
          clear hP hK
          go_wp2_with fail
          refine (CT _ (NowQ.pin (NowQ.to HN2.out [w.heap.size, w2.heap.size, w2.heap.size+1] Keeps.au (by simp <;> omega) (by simp [kq] <;> omega)))).out.mono ?_
          rintro e w3 ⟨rfl, hP, hK⟩
          have hz_w3 := hK.size
          try simp only [World.size_alloc, World.size_setCell, World.size_drew, World.heap_drewN] at hz_w3
          have O_w3_0 : OwnB w3 (w.heap.size) #[.int .i64 0, .int .i64 0, .int .i64 0, .int .i64 0, .string ⟨#[]⟩, .int .i64 0, .slice none 0 0, .int .i64 0] 105 := OwnB.call OwnB.au hK (by simp only [List.mem_singleton]; omega)
          obtain ⟨y_w3_0, x_w3_0, b_w3_0⟩ := O_w3_0.facts
          have O_w3_1 : OwnB w3 (w2.heap.size) #[.int .i64 (T).kind, .string ⟨(T).text.toArray⟩, .int .i64 (T).n, .int .i64 (T).pos] 60 := OwnB.call OwnB.au hK (by simp only [List.mem_singleton]; omega)
          obtain ⟨y_w3_1, x_w3_1, b_w3_1⟩ := O_w3_1.facts
          have O_w3_2 : OwnB w3 (w2.heap.size+1) #[.int .i64 (M).1, .int .i64 (M).2] 69 := OwnB.call OwnB.au hK (by simp only [List.mem_singleton]; omega)
          obtain ⟨y_w3_2, x_w3_2, b_w3_2⟩ := O_w3_2.facts
          have HN3 := Lib.hid (NowQ.call (NowQ.to HN2.out [w.heap.size, w2.heap.size, w2.heap.size+1] Keeps.au (by simp <;> omega) (by simp [kq] <;> omega)) hP hK)
          clear hP hK
          go_wp2_with fail
          refine (CI _ (NowQ.pin (NowQ.to HN3.out [w.heap.size, w2.heap.size, w2.heap.size+1] Keeps.au (by simp <;> omega) (by simp [kq] <;> omega)))).out.mono ?_
          rintro e w4 ⟨rfl, hP, hK⟩
          have hz_w4 := hK.size
          try simp only [World.size_alloc, World.size_setCell, World.size_drew, World.heap_drewN] at hz_w4
          have O_w4_0 : OwnB w4 (w.heap.size) #[.int .i64 0, .int .i64 0, .int .i64 0, .int .i64 0, .string ⟨#[]⟩, .int .i64 0, .slice none 0 0, .int .i64 0] 105 := OwnB.call OwnB.au hK (by simp only [List.mem_singleton]; omega)
          obtain ⟨y_w4_0, x_w4_0, b_w4_0⟩ := O_w4_0.facts
          have O_w4_1 : OwnB w4 (w2.heap.size) #[.int .i64 (T).kind, .string ⟨(T).text.toArray⟩, .int .i64 (T).n, .int .i64 (T).pos] 60 := OwnB.call OwnB.au hK (by simp only [List.mem_singleton]; omega)
          obtain ⟨y_w4_1, x_w4_1, b_w4_1⟩ := O_w4_1.facts
          have O_w4_2 : OwnB w4 (w2.heap.size+1) #[.int .i64 (M).1, .int .i64 (M).2] 69 := OwnB.call OwnB.au hK (by simp only [List.mem_singleton]; omega)
          obtain ⟨y_w4_2, x_w4_2, b_w4_2⟩ := O_w4_2.facts
          have HN4 := Lib.hid (NowQ.call (NowQ.to HN3.out [w.heap.size, w2.heap.size, w2.heap.size+1] Keeps.au (by simp <;> omega) (by simp [kq] <;> omega)) hP hK)
          clear hP hK
          go_wp2_with fail
          refine (C2 _ (NowQ.pin (NowQ.to HN4.out [w.heap.size, w2.heap.size, w2.heap.size+1] Keeps.au (by simp <;> omega) (by simp [kq] <;> omega)))).out.mono ?_
          rintro e w5 ⟨rfl, hP, hK⟩
          have hz_w5 := hK.size
          try simp only [World.size_alloc, World.size_setCell, World.size_drew, World.heap_drewN] at hz_w5
          have O_w5_0 : OwnB w5 (w.heap.size) #[.int .i64 0, .int .i64 0, .int .i64 0, .int .i64 0, .string ⟨#[]⟩, .int .i64 0, .slice none 0 0, .int .i64 0] 105 := OwnB.call OwnB.au hK (by simp only [List.mem_singleton]; omega)
          obtain ⟨y_w5_0, x_w5_0, b_w5_0⟩ := O_w5_0.facts
          have O_w5_1 : OwnB w5 (w2.heap.size) #[.int .i64 (T).kind, .string ⟨(T).text.toArray⟩, .int .i64 (T).n, .int .i64 (T).pos] 60 := OwnB.call OwnB.au hK (by simp only [List.mem_singleton]; omega)
          obtain ⟨y_w5_1, x_w5_1, b_w5_1⟩ := O_w5_1.facts
          have O_w5_2 : OwnB w5 (w2.heap.size+1) #[.int .i64 (M).1, .int .i64 (M).2] 69 := OwnB.call OwnB.au hK (by simp only [List.mem_singleton]; omega)
          obtain ⟨y_w5_2, x_w5_2, b_w5_2⟩ := O_w5_2.facts
          have HN5 := Lib.hid (NowQ.call (NowQ.to HN4.out [w.heap.size, w2.heap.size, w2.heap.size+1] Keeps.au (by simp <;> omega) (by simp [kq] <;> omega)) hP hK)
          clear hP hK
          go_wp2_with fail
          refine (CY _ (NowQ.pin (NowQ.to HN5.out [w.heap.size, w2.heap.size, w2.heap.size+1] Keeps.au (by simp <;> omega) (by simp [kq] <;> omega)))).out.mono ?_
          rintro e w6 ⟨rfl, hP, hK⟩
          have hz_w6 := hK.size
          try simp only [World.size_alloc, World.size_setCell, World.size_drew, World.heap_drewN] at hz_w6
          have O_w6_0 : OwnB w6 (w.heap.size) #[.int .i64 0, .int .i64 0, .int .i64 0, .int .i64 0, .string ⟨#[]⟩, .int .i64 0, .slice none 0 0, .int .i64 0] 105 := OwnB.call OwnB.au hK (by simp only [List.mem_singleton]; omega)
          obtain ⟨y_w6_0, x_w6_0, b_w6_0⟩ := O_w6_0.facts
          have O_w6_1 : OwnB w6 (w2.heap.size) #[.int .i64 (T).kind, .string ⟨(T).text.toArray⟩, .int .i64 (T).n, .int .i64 (T).pos] 60 := OwnB.call OwnB.au hK (by simp only [List.mem_singleton]; omega)
          obtain ⟨y_w6_1, x_w6_1, b_w6_1⟩ := O_w6_1.facts
          have O_w6_2 : OwnB w6 (w2.heap.size+1) #[.int .i64 (M).1, .int .i64 (M).2] 69 := OwnB.call OwnB.au hK (by simp only [List.mem_singleton]; omega)
          obtain ⟨y_w6_2, x_w6_2, b_w6_2⟩ := O_w6_2.facts
          have HN6 := Lib.hid (NowQ.call (NowQ.to HN5.out [w.heap.size, w2.heap.size, w2.heap.size+1] Keeps.au (by simp <;> omega) (by simp [kq] <;> omega)) hP hK)
          clear hP hK
          go_wp2_with fail
          refine (CZ _ (NowQ.pin (NowQ.to HN6.out [w.heap.size, w2.heap.size, w2.heap.size+1] Keeps.au (by simp <;> omega) (by simp [kq] <;> omega)))).out.mono ?_
          rintro e w7 ⟨rfl, hP, hK⟩
          have hz_w7 := hK.size
          try simp only [World.size_alloc, World.size_setCell, World.size_drew, World.heap_drewN] at hz_w7
          have O_w7_0 : OwnB w7 (w.heap.size) #[.int .i64 0, .int .i64 0, .int .i64 0, .int .i64 0, .string ⟨#[]⟩, .int .i64 0, .slice none 0 0, .int .i64 0] 105 := OwnB.call OwnB.au hK (by simp only [List.mem_singleton]; omega)
          obtain ⟨y_w7_0, x_w7_0, b_w7_0⟩ := O_w7_0.facts
          have O_w7_1 : OwnB w7 (w2.heap.size) #[.int .i64 (T).kind, .string ⟨(T).text.toArray⟩, .int .i64 (T).n, .int .i64 (T).pos] 60 := OwnB.call OwnB.au hK (by simp only [List.mem_singleton]; omega)
          obtain ⟨y_w7_1, x_w7_1, b_w7_1⟩ := O_w7_1.facts
          have O_w7_2 : OwnB w7 (w2.heap.size+1) #[.int .i64 (M).1, .int .i64 (M).2] 69 := OwnB.call OwnB.au hK (by simp only [List.mem_singleton]; omega)
          obtain ⟨y_w7_2, x_w7_2, b_w7_2⟩ := O_w7_2.facts
          have HN7 := Lib.hid (NowQ.call (NowQ.to HN6.out [w.heap.size, w2.heap.size, w2.heap.size+1] Keeps.au (by simp <;> omega) (by simp [kq] <;> omega)) hP hK)
          clear hP hK
          go_wp2_with fail
          refine (CW _ (NowQ.pin (NowQ.to HN7.out [w.heap.size, w2.heap.size, w2.heap.size+1] Keeps.au (by simp <;> omega) (by simp [kq] <;> omega)))).out.mono ?_
          rintro e w8 ⟨rfl, hP, hK⟩
          have hz_w8 := hK.size
          try simp only [World.size_alloc, World.size_setCell, World.size_drew, World.heap_drewN] at hz_w8
          have O_w8_0 : OwnB w8 (w.heap.size) #[.int .i64 0, .int .i64 0, .int .i64 0, .int .i64 0, .string ⟨#[]⟩, .int .i64 0, .slice none 0 0, .int .i64 0] 105 := OwnB.call OwnB.au hK (by simp only [List.mem_singleton]; omega)
          obtain ⟨y_w8_0, x_w8_0, b_w8_0⟩ := O_w8_0.facts
          have O_w8_1 : OwnB w8 (w2.heap.size) #[.int .i64 (T).kind, .string ⟨(T).text.toArray⟩, .int .i64 (T).n, .int .i64 (T).pos] 60 := OwnB.call OwnB.au hK (by simp only [List.mem_singleton]; omega)
          obtain ⟨y_w8_1, x_w8_1, b_w8_1⟩ := O_w8_1.facts
          have O_w8_2 : OwnB w8 (w2.heap.size+1) #[.int .i64 (M).1, .int .i64 (M).2] 69 := OwnB.call OwnB.au hK (by simp only [List.mem_singleton]; omega)
          obtain ⟨y_w8_2, x_w8_2, b_w8_2⟩ := O_w8_2.facts
          have HN8 := Lib.hid (NowQ.call (NowQ.to HN7.out [w.heap.size, w2.heap.size, w2.heap.size+1] Keeps.au (by simp <;> omega) (by simp [kq] <;> omega)) hP hK)
          clear hP hK
          go_wp2_with fail
          refine bodyPost_ret (v := .agg #[.int .i64 10, .int .i64 Y.1.kind, .int .i64 Y.1.ptr, .int .i64 Y.1.len, .string ⟨#[]⟩, .int .i64 0, .slice none 0 0, .int .i64 T.pos]) (by simp [results, Tryd.results93, go_sem, *]) rfl ?_
          exact NowQ.finLeaf (ty := Y.1) (nm := []) (NowQ.to HN8.out [w.heap.size, w2.heap.size, w2.heap.size+1] Keeps.au (by simp <;> omega) (by simp [kq] <;> omega))
        | false =>
          rw [hp1] at CI
          clear h hR hm hT hM e hU hs1 hp hp1 hY hz hs2 ez GA
          unfold pv
          go_enter Tryd.func93, Tryd.ntmps93
          go_wp2_with fail
          refine (CB _ (NowQ.pin (NowQ.to HN.out [w.heap.size] Keeps.au (by simp <;> omega) (by simp [kq] <;> omega)))).out.mono ?_
          rintro e w1 ⟨rfl, hP, hK⟩
          have hz_w1 := hK.size
          try simp only [World.size_alloc, World.size_setCell, World.size_drew, World.heap_drewN] at hz_w1
          have O_w1_0 : OwnB w1 (w.heap.size) #[.int .i64 0, .int .i64 0, .int .i64 0, .int .i64 0, .string ⟨#[]⟩, .int .i64 0, .slice none 0 0, .int .i64 0] 105 := OwnB.call OwnB.au hK (by simp only [List.mem_singleton]; omega)
          obtain ⟨y_w1_0, x_w1_0, b_w1_0⟩ := O_w1_0.facts
          have HN1 := Lib.hid (NowQ.call (NowQ.to HN.out [w.heap.size] Keeps.au (by simp <;> omega) (by simp [kq] <;> omega)) hP hK)
          clear hP hK
          go_wp2_with fail
          refine (CS _ (NowQ.pin (NowQ.to HN1.out [w.heap.size] Keeps.au (by simp <;> omega) (by simp [kq] <;> omega)))).out.mono ?_
          rintro e w2 ⟨rfl, hP, hK⟩
          have hz_w2 := hK.size
          try simp only [World.size_alloc, World.size_setCell, World.size_drew, World.heap_drewN] at hz_w2
          have O_w2_0 : OwnB w2 (w.heap.size) #[.int .i64 0, .int .i64 0, .int .i64 0, .int .i64 0, .string ⟨#[]⟩, .int .i64 0, .slice none 0 0, .int .i64 0] 105 := OwnB.call OwnB.au hK (by simp only [List.mem_singleton]; omega)
          obtain ⟨y_w2_0, x_w2_0, b_w2_0⟩ := O_w2_0.facts
          have HN2 := Lib.hid (NowQ.call (NowQ.to HN1.out [w.heap.size] Keeps.au (by simp <;> omega) (by simp [kq] <;> omega)) hP hK)
          clear hP hK
          go_wp2_with fail
          refine (CT _ (NowQ.pin (NowQ.to HN2.out [w.heap.size, w2.heap.size, w2.heap.size+1] Keeps.au (by simp <;> omega) (by simp [kq] <;> omega)))).out.mono ?_
          rintro e w3 ⟨rfl, hP, hK⟩
          have hz_w3 := hK.size
          try simp only [World.size_alloc, World.size_setCell, World.size_drew, World.heap_drewN] at hz_w3
          have O_w3_0 : OwnB w3 (w.heap.size) #[.int .i64 0, .int .i64 0, .int .i64 0, .int .i64 0, .string ⟨#[]⟩, .int .i64 0, .slice none 0 0, .int .i64 0] 105 := OwnB.call OwnB.au hK (by simp only [List.mem_singleton]; omega)
          obtain ⟨y_w3_0, x_w3_0, b_w3_0⟩ := O_w3_0.facts
          have O_w3_1 : OwnB w3 (w2.heap.size) #[.int .i64 (T).kind, .string ⟨(T).text.toArray⟩, .int .i64 (T).n, .int .i64 (T).pos] 60 := OwnB.call OwnB.au hK (by simp only [List.mem_singleton]; omega)
          obtain ⟨y_w3_1, x_w3_1, b_w3_1⟩ := O_w3_1.facts
          have O_w3_2 : OwnB w3 (w2.heap.size+1) #[.int .i64 (M).1, .int .i64 (M).2] 69 := OwnB.call OwnB.au hK (by simp only [List.mem_singleton]; omega)
          obtain ⟨y_w3_2, x_w3_2, b_w3_2⟩ := O_w3_2.facts
          have HN3 := Lib.hid (NowQ.call (NowQ.to HN2.out [w.heap.size, w2.heap.size, w2.heap.size+1] Keeps.au (by simp <;> omega) (by simp [kq] <;> omega)) hP hK)
          clear hP hK
          go_wp2_with fail
          refine (CI _ (NowQ.pin (NowQ.to HN3.out [w.heap.size, w2.heap.size, w2.heap.size+1] Keeps.au (by simp <;> omega) (by simp [kq] <;> omega)))).out.mono ?_
          rintro e w4 ⟨rfl, hP, hK⟩
          have hz_w4 := hK.size
          try simp only [World.size_alloc, World.size_setCell, World.size_drew, World.heap_drewN] at hz_w4
          have O_w4_0 : OwnB w4 (w.heap.size) #[.int .i64 0, .int .i64 0, .int .i64 0, .int .i64 0, .string ⟨#[]⟩, .int .i64 0, .slice none 0 0, .int .i64 0] 105 := OwnB.call OwnB.au hK (by simp only [List.mem_singleton]; omega)
          obtain ⟨y_w4_0, x_w4_0, b_w4_0⟩ := O_w4_0.facts
          have O_w4_1 : OwnB w4 (w2.heap.size) #[.int .i64 (T).kind, .string ⟨(T).text.toArray⟩, .int .i64 (T).n, .int .i64 (T).pos] 60 := OwnB.call OwnB.au hK (by simp only [List.mem_singleton]; omega)
          obtain ⟨y_w4_1, x_w4_1, b_w4_1⟩ := O_w4_1.facts
          have O_w4_2 : OwnB w4 (w2.heap.size+1) #[.int .i64 (M).1, .int .i64 (M).2] 69 := OwnB.call OwnB.au hK (by simp only [List.mem_singleton]; omega)
          obtain ⟨y_w4_2, x_w4_2, b_w4_2⟩ := O_w4_2.facts
          have HN4 := Lib.hid (NowQ.call (NowQ.to HN3.out [w.heap.size, w2.heap.size, w2.heap.size+1] Keeps.au (by simp <;> omega) (by simp [kq] <;> omega)) hP hK)
          clear hP hK
          go_wp2_with fail
          refine (CZ _ (NowQ.pin (NowQ.to HN4.out [w.heap.size, w2.heap.size, w2.heap.size+1] Keeps.au (by simp <;> omega) (by simp [kq] <;> omega)))).out.mono ?_
          rintro e w7 ⟨rfl, hP, hK⟩
          have hz_w7 := hK.size
          try simp only [World.size_alloc, World.size_setCell, World.size_drew, World.heap_drewN] at hz_w7
          have O_w7_0 : OwnB w7 (w.heap.size) #[.int .i64 0, .int .i64 0, .int .i64 0, .int .i64 0, .string ⟨#[]⟩, .int .i64 0, .slice none 0 0, .int .i64 0] 105 := OwnB.call OwnB.au hK (by simp only [List.mem_singleton]; omega)
          obtain ⟨y_w7_0, x_w7_0, b_w7_0⟩ := O_w7_0.facts
          have O_w7_1 : OwnB w7 (w2.heap.size) #[.int .i64 (T).kind, .string ⟨(T).text.toArray⟩, .int .i64 (T).n, .int .i64 (T).pos] 60 := OwnB.call OwnB.au hK (by simp only [List.mem_singleton]; omega)
          obtain ⟨y_w7_1, x_w7_1, b_w7_1⟩ := O_w7_1.facts
          have O_w7_2 : OwnB w7 (w2.heap.size+1) #[.int .i64 (M).1, .int .i64 (M).2] 69 := OwnB.call OwnB.au hK (by simp only [List.mem_singleton]; omega)
          obtain ⟨y_w7_2, x_w7_2, b_w7_2⟩ := O_w7_2.facts
          have HN7 := Lib.hid (NowQ.call (NowQ.to HN4.out [w.heap.size, w2.heap.size, w2.heap.size+1] Keeps.au (by simp <;> omega) (by simp [kq] <;> omega)) hP hK)
          clear hP hK
          go_wp2_with fail
          refine (CW _ (NowQ.pin (NowQ.to HN7.out [w.heap.size, w2.heap.size, w2.heap.size+1] Keeps.au (by simp <;> omega) (by simp [kq] <;> omega)))).out.mono ?_
          rintro e w8 ⟨rfl, hP, hK⟩
          have hz_w8 := hK.size
          try simp only [World.size_alloc, World.size_setCell, World.size_drew, World.heap_drewN] at hz_w8
          have O_w8_0 : OwnB w8 (w.heap.size) #[.int .i64 0, .int .i64 0, .int .i64 0, .int .i64 0, .string ⟨#[]⟩, .int .i64 0, .slice none 0 0, .int .i64 0] 105 := OwnB.call OwnB.au hK (by simp only [List.mem_singleton]; omega)
          obtain ⟨y_w8_0, x_w8_0, b_w8_0⟩ := O_w8_0.facts
          have O_w8_1 : OwnB w8 (w2.heap.size) #[.int .i64 (T).kind, .string ⟨(T).text.toArray⟩, .int .i64 (T).n, .int .i64 (T).pos] 60 := OwnB.call OwnB.au hK (by simp only [List.mem_singleton]; omega)
          obtain ⟨y_w8_1, x_w8_1, b_w8_1⟩ := O_w8_1.facts
          have O_w8_2 : OwnB w8 (w2.heap.size+1) #[.int .i64 (M).1, .int .i64 (M).2] 69 := OwnB.call OwnB.au hK (by simp only [List.mem_singleton]; omega)
          obtain ⟨y_w8_2, x_w8_2, b_w8_2⟩ := O_w8_2.facts
          have HN8 := Lib.hid (NowQ.call (NowQ.to HN7.out [w.heap.size, w2.heap.size, w2.heap.size+1] Keeps.au (by simp <;> omega) (by simp [kq] <;> omega)) hP hK)
          clear hP hK
          go_wp2_with fail
          refine bodyPost_ret (v := .agg #[.int .i64 10, .int .i64 Y.1.kind, .int .i64 Y.1.ptr, .int .i64 Y.1.len, .string ⟨#[]⟩, .int .i64 0, .slice none 0 0, .int .i64 T.pos]) (by simp [results, Tryd.results93, go_sem, *]) rfl ?_
          exact NowQ.finLeaf (ty := Y.1) (nm := []) (NowQ.to HN8.out [w.heap.size, w2.heap.size, w2.heap.size+1] Keeps.au (by simp <;> omega) (by simp [kq] <;> omega))
      | false =>
        rw [hz, if_neg (by simp)] at hR
        have ez : P.acc c.l [115, 105, 122, 101, 111, 102] s1 = s1 := by simp [P.acc, hz]
        rw [hz, ez] at CZ
        have CP := fun W H => Lib.hid (postfix_step c hc f GA d s1 R W h0 hd hR H)
        cases hp1 : P.is c.l [40] s1 with
        | true =>
          have hp2 : isType U.text = false := by rw [hp1] at hp; simpa using hp
          rw [hp1] at CI
          rw [hp2] at CY
          clear h hR hm hT hM e hU hs1 hp hp1 hp2 hz ez GA
          unfold pv
          go_enter Tryd.func93, Tryd.ntmps93
          go_wp2_with fail
          refine (CB _ (NowQ.pin (NowQ.to HN.out [w.heap.size] Keeps.au (by simp <;> omega) (by simp [kq] <;> omega)))).out.mono ?_
          rintro e w1 ⟨rfl, hP, hK⟩
          have hz_w1 := hK.size
          try simp only [World.size_alloc, World.size_setCell, World.size_drew, World.heap_drewN] at hz_w1
          have O_w1_0 : OwnB w1 (w.heap.size) #[.int .i64 0, .int .i64 0, .int .i64 0, .int .i64 0, .string ⟨#[]⟩, .int .i64 0, .slice none 0 0, .int .i64 0] 105 := OwnB.call OwnB.au hK (by simp only [List.mem_singleton]; omega)
          obtain ⟨y_w1_0, x_w1_0, b_w1_0⟩ := O_w1_0.facts
          have HN1 := Lib.hid (NowQ.call (NowQ.to HN.out [w.heap.size] Keeps.au (by simp <;> omega) (by simp [kq] <;> omega)) hP hK)
          clear hP hK
          go_wp2_with fail
          refine (CS _ (NowQ.pin (NowQ.to HN1.out [w.heap.size] Keeps.au (by simp <;> omega) (by simp [kq] <;> omega)))).out.mono ?_
          rintro e w2 ⟨rfl, hP, hK⟩
          have hz_w2 := hK.size
          try simp only [World.size_alloc, World.size_setCell, World.size_drew, World.heap_drewN] at hz_w2
          have O_w2_0 : OwnB w2 (w.heap.size) #[.int .i64 0, .int .i64 0, .int .i64 0, .int .i64 0, .string ⟨#[]⟩, .int .i64 0, .slice none 0 0, .int .i64 0] 105 := OwnB.call OwnB.au hK (by simp only [List.mem_singleton]; omega)
          obtain ⟨y_w2_0, x_w2_0, b_w2_0⟩ := O_w2_0.facts
          have HN2 := Lib.hid (NowQ.call (NowQ.to HN1.out [w.heap.size] Keeps.au (by simp <;> omega) (by simp [kq] <;> omega)) hP hK)
          clear hP hK
          go_wp2_with fail
          refine (CT _ (NowQ.pin (NowQ.to HN2.out [w.heap.size, w2.heap.size, w2.heap.size+1] Keeps.au (by simp <;> omega) (by simp [kq] <;> omega)))).out.mono ?_
          rintro e w3 ⟨rfl, hP, hK⟩
          have hz_w3 := hK.size
          try simp only [World.size_alloc, World.size_setCell, World.size_drew, World.heap_drewN] at hz_w3
          have O_w3_0 : OwnB w3 (w.heap.size) #[.int .i64 0, .int .i64 0, .int .i64 0, .int .i64 0, .string ⟨#[]⟩, .int .i64 0, .slice none 0 0, .int .i64 0] 105 := OwnB.call OwnB.au hK (by simp only [List.mem_singleton]; omega)
          obtain ⟨y_w3_0, x_w3_0, b_w3_0⟩ := O_w3_0.facts
          have O_w3_1 : OwnB w3 (w2.heap.size) #[.int .i64 (T).kind, .string ⟨(T).text.toArray⟩, .int .i64 (T).n, .int .i64 (T).pos] 60 := OwnB.call OwnB.au hK (by simp only [List.mem_singleton]; omega)
          obtain ⟨y_w3_1, x_w3_1, b_w3_1⟩ := O_w3_1.facts
          have O_w3_2 : OwnB w3 (w2.heap.size+1) #[.int .i64 (M).1, .int .i64 (M).2] 69 := OwnB.call OwnB.au hK (by simp only [List.mem_singleton]; omega)
          obtain ⟨y_w3_2, x_w3_2, b_w3_2⟩ := O_w3_2.facts
          have HN3 := Lib.hid (NowQ.call (NowQ.to HN2.out [w.heap.size, w2.heap.size, w2.heap.size+1] Keeps.au (by simp <;> omega) (by simp [kq] <;> omega)) hP hK)
          clear hP hK
          go_wp2_with fail
          refine (CI _ (NowQ.pin (NowQ.to HN3.out [w.heap.size, w2.heap.size, w2.heap.size+1] Keeps.au (by simp <;> omega) (by simp [kq] <;> omega)))).out.mono ?_
          rintro e w4 ⟨rfl, hP, hK⟩
          have hz_w4 := hK.size
          try simp only [World.size_alloc, World.size_setCell, World.size_drew, World.heap_drewN] at hz_w4
          have O_w4_0 : OwnB w4 (w.heap.size) #[.int .i64 0, .int .i64 0, .int .i64 0, .int .i64 0, .string ⟨#[]⟩, .int .i64 0, .slice none 0 0, .int .i64 0] 105 := OwnB.call OwnB.au hK (by simp only [List.mem_singleton]; omega)
          obtain ⟨y_w4_0, x_w4_0, b_w4_0⟩ := O_w4_0.facts
          have O_w4_1 : OwnB w4 (w2.heap.size) #[.int .i64 (T).kind, .string ⟨(T).text.toArray⟩, .int .i64 (T).n, .int .i64 (T).pos] 60 := OwnB.call OwnB.au hK (by simp only [List.mem_singleton]; omega)
          obtain ⟨y_w4_1, x_w4_1, b_w4_1⟩ := O_w4_1.facts
          have O_w4_2 : OwnB w4 (w2.heap.size+1) #[.int .i64 (M).1, .int .i64 (M).2] 69 := OwnB.call OwnB.au hK (by simp only [List.mem_singleton]; omega)
          obtain ⟨y_w4_2, x_w4_2, b_w4_2⟩ := O_w4_2.facts
          have HN4 := Lib.hid (NowQ.call (NowQ.to HN3.out [w.heap.size, w2.heap.size, w2.heap.size+1] Keeps.au (by simp <;> omega) (by simp [kq] <;> omega)) hP hK)
          clear hP hK
          go_wp2_with fail
          refine (C2 _ (NowQ.pin (NowQ.to HN4.out [w.heap.size, w2.heap.size, w2.heap.size+1] Keeps.au (by simp <;> omega) (by simp [kq] <;> omega)))).out.mono ?_
          rintro e w5 ⟨rfl, hP, hK⟩
          have hz_w5 := hK.size
          try simp only [World.size_alloc, World.size_setCell, World.size_drew, World.heap_drewN] at hz_w5
          have O_w5_0 : OwnB w5 (w.heap.size) #[.int .i64 0, .int .i64 0, .int .i64 0, .int .i64 0, .string ⟨#[]⟩, .int .i64 0, .slice none 0 0, .int .i64 0] 105 := OwnB.call OwnB.au hK (by simp only [List.mem_singleton]; omega)
          obtain ⟨y_w5_0, x_w5_0, b_w5_0⟩ := O_w5_0.facts
          have O_w5_1 : OwnB w5 (w2.heap.size) #[.int .i64 (T).kind, .string ⟨(T).text.toArray⟩, .int .i64 (T).n, .int .i64 (T).pos] 60 := OwnB.call OwnB.au hK (by simp only [List.mem_singleton]; omega)
          obtain ⟨y_w5_1, x_w5_1, b_w5_1⟩ := O_w5_1.facts
          have O_w5_2 : OwnB w5 (w2.heap.size+1) #[.int .i64 (M).1, .int .i64 (M).2] 69 := OwnB.call OwnB.au hK (by simp only [List.mem_singleton]; omega)
          obtain ⟨y_w5_2, x_w5_2, b_w5_2⟩ := O_w5_2.facts
          have HN5 := Lib.hid (NowQ.call (NowQ.to HN4.out [w.heap.size, w2.heap.size, w2.heap.size+1] Keeps.au (by simp <;> omega) (by simp [kq] <;> omega)) hP hK)
          clear hP hK
          go_wp2_with fail
          refine (CY _ (NowQ.pin (NowQ.to HN5.out [w.heap.size, w2.heap.size, w2.heap.size+1] Keeps.au (by simp <;> omega) (by simp [kq] <;> omega)))).out.mono ?_
          rintro e w6 ⟨rfl, hP, hK⟩
          have hz_w6 := hK.size
          try simp only [World.size_alloc, World.size_setCell, World.size_drew, World.heap_drewN] at hz_w6
          have O_w6_0 : OwnB w6 (w.heap.size) #[.int .i64 0, .int .i64 0, .int .i64 0, .int .i64 0, .string ⟨#[]⟩, .int .i64 0, .slice none 0 0, .int .i64 0] 105 := OwnB.call OwnB.au hK (by simp only [List.mem_singleton]; omega)
          obtain ⟨y_w6_0, x_w6_0, b_w6_0⟩ := O_w6_0.facts
          have O_w6_1 : OwnB w6 (w2.heap.size) #[.int .i64 (T).kind, .string ⟨(T).text.toArray⟩, .int .i64 (T).n, .int .i64 (T).pos] 60 := OwnB.call OwnB.au hK (by simp only [List.mem_singleton]; omega)
          obtain ⟨y_w6_1, x_w6_1, b_w6_1⟩ := O_w6_1.facts
          have O_w6_2 : OwnB w6 (w2.heap.size+1) #[.int .i64 (M).1, .int .i64 (M).2] 69 := OwnB.call OwnB.au hK (by simp only [List.mem_singleton]; omega)
          obtain ⟨y_w6_2, x_w6_2, b_w6_2⟩ := O_w6_2.facts
          have HN6 := Lib.hid (NowQ.call (NowQ.to HN5.out [w.heap.size, w2.heap.size, w2.heap.size+1] Keeps.au (by simp <;> omega) (by simp [kq] <;> omega)) hP hK)
          clear hP hK
          go_wp2_with fail
          refine (CZ _ (NowQ.pin (NowQ.to HN6.out [w.heap.size, w2.heap.size, w2.heap.size+1] Keeps.au (by simp <;> omega) (by simp [kq] <;> omega)))).out.mono ?_
          rintro e w7 ⟨rfl, hP, hK⟩
          have hz_w7 := hK.size
          try simp only [World.size_alloc, World.size_setCell, World.size_drew, World.heap_drewN] at hz_w7
          have O_w7_0 : OwnB w7 (w.heap.size) #[.int .i64 0, .int .i64 0, .int .i64 0, .int .i64 0, .string ⟨#[]⟩, .int .i64 0, .slice none 0 0, .int .i64 0] 105 := OwnB.call OwnB.au hK (by simp only [List.mem_singleton]; omega)
          obtain ⟨y_w7_0, x_w7_0, b_w7_0⟩ := O_w7_0.facts
          have O_w7_1 : OwnB w7 (w2.heap.size) #[.int .i64 (T).kind, .string ⟨(T).text.toArray⟩, .int .i64 (T).n, .int .i64 (T).pos] 60 := OwnB.call OwnB.au hK (by simp only [List.mem_singleton]; omega)
          obtain ⟨y_w7_1, x_w7_1, b_w7_1⟩ := O_w7_1.facts
          have O_w7_2 : OwnB w7 (w2.heap.size+1) #[.int .i64 (M).1, .int .i64 (M).2] 69 := OwnB.call OwnB.au hK (by simp only [List.mem_singleton]; omega)
          obtain ⟨y_w7_2, x_w7_2, b_w7_2⟩ := O_w7_2.facts
          have HN7 := Lib.hid (NowQ.call (NowQ.to HN6.out [w.heap.size, w2.heap.size, w2.heap.size+1] Keeps.au (by simp <;> omega) (by simp [kq] <;> omega)) hP hK)
          clear hP hK
          go_wp2_with fail
          refine (CP _ (NowQ.pin (NowQ.to HN7.out [w.heap.size, w2.heap.size, w2.heap.size+1] Keeps.au (by simp <;> omega) (by simp [kq] <;> omega)))).out.mono ?_
          rintro e w8 ⟨a1, n1, p1, rfl, hP, hK, hT⟩
          have hz_w8 := hK.size
          try simp only [World.size_alloc, World.size_setCell, World.size_drew, World.heap_drewN] at hz_w8
          have O_w8_0 : OwnB w8 (w.heap.size) #[.int .i64 0, .int .i64 0, .int .i64 0, .int .i64 0, .string ⟨#[]⟩, .int .i64 0, .slice none 0 0, .int .i64 0] 105 := OwnB.call OwnB.au hK (by simp only [List.mem_singleton]; omega)
          obtain ⟨y_w8_0, x_w8_0, b_w8_0⟩ := O_w8_0.facts
          have O_w8_1 : OwnB w8 (w2.heap.size) #[.int .i64 (T).kind, .string ⟨(T).text.toArray⟩, .int .i64 (T).n, .int .i64 (T).pos] 60 := OwnB.call OwnB.au hK (by simp only [List.mem_singleton]; omega)
          obtain ⟨y_w8_1, x_w8_1, b_w8_1⟩ := O_w8_1.facts
          have O_w8_2 : OwnB w8 (w2.heap.size+1) #[.int .i64 (M).1, .int .i64 (M).2] 69 := OwnB.call OwnB.au hK (by simp only [List.mem_singleton]; omega)
          obtain ⟨y_w8_2, x_w8_2, b_w8_2⟩ := O_w8_2.facts
          have HN8 := Lib.hid (NowQ.callE (NowQ.to HN7.out [w.heap.size, w2.heap.size, w2.heap.size+1] Keeps.au (by simp <;> omega) (by simp [kq] <;> omega)) hP hK hT)
          clear hP hK hT
          go_wp2_with fail
          refine bodyPost_ret (v := (.agg #[.int .i64 (R.1).op, .int .i64 (R.1).ty.kind, .int .i64 (R.1).ty.ptr, .int .i64 (R.1).ty.len, .string ⟨(R.1).nm.toArray⟩, .int .i64 (R.1).n, .slice a1 n1 p1, .int .i64 (R.1).pos])) (by simp [results, Tryd.results93, go_sem, *]) rfl ?_
          exact NowQ.fin0 (NowQ.to HN8.out [w.heap.size, w2.heap.size, w2.heap.size+1] Keeps.au (by simp <;> omega) (by simp [kq] <;> omega))
        | false =>
          rw [hp1] at CI
          clear h hR hm hT hM e hU hs1 hp hp1 hz ez GA
          unfold pv
          go_enter Tryd.func93, Tryd.ntmps93
          go_wp2_with fail
          refine (CB _ (NowQ.pin (NowQ.to HN.out [w.heap.size] Keeps.au (by simp <;> omega) (by simp [kq] <;> omega)))).out.mono ?_
          rintro e w1 ⟨rfl, hP, hK⟩
          have hz_w1 := hK.size
          try simp only [World.size_alloc, World.size_setCell, World.size_drew, World.heap_drewN] at hz_w1
          have O_w1_0 : OwnB w1 (w.heap.size) #[.int .i64 0, .int .i64 0, .int .i64 0, .int .i64 0, .string ⟨#[]⟩, .int .i64 0, .slice none 0 0, .int .i64 0] 105 := OwnB.call OwnB.au hK (by simp only [List.mem_singleton]; omega)
          obtain ⟨y_w1_0, x_w1_0, b_w1_0⟩ := O_w1_0.facts
          have HN1 := Lib.hid (NowQ.call (NowQ.to HN.out [w.heap.size] Keeps.au (by simp <;> omega) (by simp [kq] <;> omega)) hP hK)
          clear hP hK
          go_wp2_with fail
          refine (CS _ (NowQ.pin (NowQ.to HN1.out [w.heap.size] Keeps.au (by simp <;> omega) (by simp [kq] <;> omega)))).out.mono ?_
          rintro e w2 ⟨rfl, hP, hK⟩
          have hz_w2 := hK.size
          try simp only [World.size_alloc, World.size_setCell, World.size_drew, World.heap_drewN] at hz_w2
          have O_w2_0 : OwnB w2 (w.heap.size) #[.int .i64 0, .int .i64 0, .int .i64 0, .int .i64 0, .string ⟨#[]⟩, .int .i64 0, .slice none 0 0, .int .i64 0] 105 := OwnB.call OwnB.au hK (by simp only [List.mem_singleton]; omega)
          obtain ⟨y_w2_0, x_w2_0, b_w2_0⟩ := O_w2_0.facts
          have HN2 := Lib.hid (NowQ.call (NowQ.to HN1.out [w.heap.size] Keeps.au (by simp <;> omega) (by simp [kq] <;> omega)) hP hK)
          clear hP hK
          go_wp2_with fail
          refine (CT _ (NowQ.pin (NowQ.to HN2.out [w.heap.size, w2.heap.size, w2.heap.size+1] Keeps.au (by simp <;> omega) (by simp [kq] <;> omega)))).out.mono ?_
          rintro e w3 ⟨rfl, hP, hK⟩
          have hz_w3 := hK.size
          try simp only [World.size_alloc, World.size_setCell, World.size_drew, World.heap_drewN] at hz_w3
          have O_w3_0 : OwnB w3 (w.heap.size) #[.int .i64 0, .int .i64 0, .int .i64 0, .int .i64 0, .string ⟨#[]⟩, .int .i64 0, .slice none 0 0, .int .i64 0] 105 := OwnB.call OwnB.au hK (by simp only [List.mem_singleton]; omega)
          obtain ⟨y_w3_0, x_w3_0, b_w3_0⟩ := O_w3_0.facts
          have O_w3_1 : OwnB w3 (w2.heap.size) #[.int .i64 (T).kind, .string ⟨(T).text.toArray⟩, .int .i64 (T).n, .int .i64 (T).pos] 60 := OwnB.call OwnB.au hK (by simp only [List.mem_singleton]; omega)
          obtain ⟨y_w3_1, x_w3_1, b_w3_1⟩ := O_w3_1.facts
          have O_w3_2 : OwnB w3 (w2.heap.size+1) #[.int .i64 (M).1, .int .i64 (M).2] 69 := OwnB.call OwnB.au hK (by simp only [List.mem_singleton]; omega)
          obtain ⟨y_w3_2, x_w3_2, b_w3_2⟩ := O_w3_2.facts
          have HN3 := Lib.hid (NowQ.call (NowQ.to HN2.out [w.heap.size, w2.heap.size, w2.heap.size+1] Keeps.au (by simp <;> omega) (by simp [kq] <;> omega)) hP hK)
          clear hP hK
          go_wp2_with fail
          refine (CI _ (NowQ.pin (NowQ.to HN3.out [w.heap.size, w2.heap.size, w2.heap.size+1] Keeps.au (by simp <;> omega) (by simp [kq] <;> omega)))).out.mono ?_
          rintro e w4 ⟨rfl, hP, hK⟩
          have hz_w4 := hK.size
          try simp only [World.size_alloc, World.size_setCell, World.size_drew, World.heap_drewN] at hz_w4
          have O_w4_0 : OwnB w4 (w.heap.size) #[.int .i64 0, .int .i64 0, .int .i64 0, .int .i64 0, .string ⟨#[]⟩, .int .i64 0, .slice none 0 0, .int .i64 0] 105 := OwnB.call OwnB.au hK (by simp only [List.mem_singleton]; omega)
          obtain ⟨y_w4_0, x_w4_0, b_w4_0⟩ := O_w4_0.facts
          have O_w4_1 : OwnB w4 (w2.heap.size) #[.int .i64 (T).kind, .string ⟨(T).text.toArray⟩, .int .i64 (T).n, .int .i64 (T).pos] 60 := OwnB.call OwnB.au hK (by simp only [List.mem_singleton]; omega)
          obtain ⟨y_w4_1, x_w4_1, b_w4_1⟩ := O_w4_1.facts
          have O_w4_2 : OwnB w4 (w2.heap.size+1) #[.int .i64 (M).1, .int .i64 (M).2] 69 := OwnB.call OwnB.au hK (by simp only [List.mem_singleton]; omega)
          obtain ⟨y_w4_2, x_w4_2, b_w4_2⟩ := O_w4_2.facts
          have HN4 := Lib.hid (NowQ.call (NowQ.to HN3.out [w.heap.size, w2.heap.size, w2.heap.size+1] Keeps.au (by simp <;> omega) (by simp [kq] <;> omega)) hP hK)
          clear hP hK
          go_wp2_with fail
          refine (CZ _ (NowQ.pin (NowQ.to HN4.out [w.heap.size, w2.heap.size, w2.heap.size+1] Keeps.au (by simp <;> omega) (by simp [kq] <;> omega)))).out.mono ?_
          rintro e w7 ⟨rfl, hP, hK⟩
          have hz_w7 := hK.size
          try simp only [World.size_alloc, World.size_setCell, World.size_drew, World.heap_drewN] at hz_w7
          have O_w7_0 : OwnB w7 (w.heap.size) #[.int .i64 0, .int .i64 0, .int .i64 0, .int .i64 0, .string ⟨#[]⟩, .int .i64 0, .slice none 0 0, .int .i64 0] 105 := OwnB.call OwnB.au hK (by simp only [List.mem_singleton]; omega)
          obtain ⟨y_w7_0, x_w7_0, b_w7_0⟩ := O_w7_0.facts
          have O_w7_1 : OwnB w7 (w2.heap.size) #[.int .i64 (T).kind, .string ⟨(T).text.toArray⟩, .int .i64 (T).n, .int .i64 (T).pos] 60 := OwnB.call OwnB.au hK (by simp only [List.mem_singleton]; omega)
          obtain ⟨y_w7_1, x_w7_1, b_w7_1⟩ := O_w7_1.facts
          have O_w7_2 : OwnB w7 (w2.heap.size+1) #[.int .i64 (M).1, .int .i64 (M).2] 69 := OwnB.call OwnB.au hK (by simp only [List.mem_singleton]; omega)
          obtain ⟨y_w7_2, x_w7_2, b_w7_2⟩ := O_w7_2.facts
          have HN7 := Lib.hid (NowQ.call (NowQ.to HN4.out [w.heap.size, w2.heap.size, w2.heap.size+1] Keeps.au (by simp <;> omega) (by simp [kq] <;> omega)) hP hK)
          clear hP hK
          go_wp2_with fail
          refine (CP _ (NowQ.pin (NowQ.to HN7.out [w.heap.size, w2.heap.size, w2.heap.size+1] Keeps.au (by simp <;> omega) (by simp [kq] <;> omega)))).out.mono ?_
          rintro e w8 ⟨a1, n1, p1, rfl, hP, hK, hT⟩
          have hz_w8 := hK.size
          try simp only [World.size_alloc, World.size_setCell, World.size_drew, World.heap_drewN] at hz_w8
          have O_w8_0 : OwnB w8 (w.heap.size) #[.int .i64 0, .int .i64 0, .int .i64 0, .int .i64 0, .string ⟨#[]⟩, .int .i64 0, .slice none 0 0, .int .i64 0] 105 := OwnB.call OwnB.au hK (by simp only [List.mem_singleton]; omega)
          obtain ⟨y_w8_0, x_w8_0, b_w8_0⟩ := O_w8_0.facts
          have O_w8_1 : OwnB w8 (w2.heap.size) #[.int .i64 (T).kind, .string ⟨(T).text.toArray⟩, .int .i64 (T).n, .int .i64 (T).pos] 60 := OwnB.call OwnB.au hK (by simp only [List.mem_singleton]; omega)
          obtain ⟨y_w8_1, x_w8_1, b_w8_1⟩ := O_w8_1.facts
          have O_w8_2 : OwnB w8 (w2.heap.size+1) #[.int .i64 (M).1, .int .i64 (M).2] 69 := OwnB.call OwnB.au hK (by simp only [List.mem_singleton]; omega)
          obtain ⟨y_w8_2, x_w8_2, b_w8_2⟩ := O_w8_2.facts
          have HN8 := Lib.hid (NowQ.callE (NowQ.to HN7.out [w.heap.size, w2.heap.size, w2.heap.size+1] Keeps.au (by simp <;> omega) (by simp [kq] <;> omega)) hP hK hT)
          clear hP hK hT
          go_wp2_with fail
          refine bodyPost_ret (v := (.agg #[.int .i64 (R.1).op, .int .i64 (R.1).ty.kind, .int .i64 (R.1).ty.ptr, .int .i64 (R.1).ty.len, .string ⟨(R.1).nm.toArray⟩, .int .i64 (R.1).n, .slice a1 n1 p1, .int .i64 (R.1).pos])) (by simp [results, Tryd.results93, go_sem, *]) rfl ?_
          exact NowQ.fin0 (NowQ.to HN8.out [w.heap.size, w2.heap.size, w2.heap.size+1] Keeps.au (by simp <;> omega) (by simp [kq] <;> omega))
  · rw [if_neg hm] at hR
    obtain ⟨A, hA, hR⟩ := Option.bind_eq_some_iff.1 hR
    obtain rfl := Option.some.inj hR
    have e : P.sign c.l 12 s1 = P.next c.l s1 := by rw [P.sign, ← hM, if_neg hm]
    rw [e] at CS
    have CU := fun W H => Lib.hid ((GA f (Nat.le_refl _)).unary (d + 1) (P.next c.l s1) A W (by omega) (by omega) hA H)
    have hm1 : (M.1 != 0) = true := by simp [hm]
    clear h hA hR hm hT hM e GA hs1
    unfold pv
    go_enter Tryd.func93, Tryd.ntmps93
    go_wp2_with fail
    refine (CB _ (NowQ.pin (NowQ.to HN.out [w.heap.size] Keeps.au (by simp <;> omega) (by simp [kq] <;> omega)))).out.mono ?_
    rintro e w1 ⟨rfl, hP, hK⟩
    have hz_w1 := hK.size
    try simp only [World.size_alloc, World.size_setCell, World.size_drew, World.heap_drewN] at hz_w1
    have O_w1_0 : OwnB w1 (w.heap.size) #[.int .i64 0, .int .i64 0, .int .i64 0, .int .i64 0, .string ⟨#[]⟩, .int .i64 0, .slice none 0 0, .int .i64 0] 105 := OwnB.call OwnB.au hK (by simp only [List.mem_singleton]; omega)
    obtain ⟨y_w1_0, x_w1_0, b_w1_0⟩ := O_w1_0.facts
    have HN1 := Lib.hid (NowQ.call (NowQ.to HN.out [w.heap.size] Keeps.au (by simp <;> omega) (by simp [kq] <;> omega)) hP hK)
    clear hP hK
    go_wp2_with fail
    refine (CS _ (NowQ.pin (NowQ.to HN1.out [w.heap.size] Keeps.au (by simp <;> omega) (by simp [kq] <;> omega)))).out.mono ?_
    rintro e w2 ⟨rfl, hP, hK⟩
    have hz_w2 := hK.size
    try simp only [World.size_alloc, World.size_setCell, World.size_drew, World.heap_drewN] at hz_w2
    have O_w2_0 : OwnB w2 (w.heap.size) #[.int .i64 0, .int .i64 0, .int .i64 0, .int .i64 0, .string ⟨#[]⟩, .int .i64 0, .slice none 0 0, .int .i64 0] 105 := OwnB.call OwnB.au hK (by simp only [List.mem_singleton]; omega)
    obtain ⟨y_w2_0, x_w2_0, b_w2_0⟩ := O_w2_0.facts
    have HN2 := Lib.hid (NowQ.call (NowQ.to HN1.out [w.heap.size] Keeps.au (by simp <;> omega) (by simp [kq] <;> omega)) hP hK)
    clear hP hK
    go_wp2_with fail
    have ne_0_1 : ¬ (w.heap.size : Nat) = w2.heap.size := by omega
    have ne_0_2 : ¬ (w.heap.size : Nat) = w2.heap.size+1 := by omega
    have ne_1_0 : ¬ (w2.heap.size : Nat) = w.heap.size := by omega
    have ne_1_2 : ¬ (w2.heap.size : Nat) = w2.heap.size+1 := by omega
    have ne_2_0 : ¬ (w2.heap.size+1 : Nat) = w.heap.size := by omega
    have ne_2_1 : ¬ (w2.heap.size+1 : Nat) = w2.heap.size := by omega
    go_region_held3 (fun w' => w'.cell? ⟨w2.heap.size, 0, none⟩ = some (.int .i64 (T).kind) ∧ w'.cell? ⟨w2.heap.size, 1, none⟩ = some (.string ⟨(T).text.toArray⟩) ∧ w'.cell? ⟨w2.heap.size, 2, none⟩ = some (.int .i64 (T).n) ∧ w'.cell? ⟨w2.heap.size, 3, none⟩ = some (.int .i64 (T).pos) ∧ w'.cell? ⟨w2.heap.size+1, 0, none⟩ = some (.int .i64 (M).1) ∧ w'.cell? ⟨w2.heap.size+1, 1, none⟩ = some (.int .i64 (M).2)) (go_keep) ((first | ((go_at_call 93); (with_reducible refine (CU _ (NowQ.pin (NowQ.to HN2.out [w.heap.size, w2.heap.size, w2.heap.size+1] Keeps.au (by simp <;> omega) (by simp [kq] <;> omega)))).out.mono ?_); (rintro e w3 ⟨a2, n2, p2, rfl, hP, hK, hT⟩); (have hz_w3 := hK.size); (try simp only [World.size_alloc, World.size_setCell, World.size_drew, World.heap_drewN] at hz_w3); (have O_w3_0 : OwnB w3 (w.heap.size) #[.int .i64 0, .int .i64 0, .int .i64 0, .int .i64 0, .string ⟨#[]⟩, .int .i64 0, .slice none 0 0, .int .i64 0] 105 := OwnB.call OwnB.au hK (by simp only [List.mem_singleton]; omega)); (obtain ⟨y_w3_0, x_w3_0, b_w3_0⟩ := O_w3_0.facts); (have O_w3_1 : OwnB w3 (w2.heap.size) #[.int .i64 (T).kind, .string ⟨(T).text.toArray⟩, .int .i64 (T).n, .int .i64 (T).pos] 60 := OwnB.call OwnB.au hK (by simp only [List.mem_singleton]; omega)); (obtain ⟨y_w3_1, x_w3_1, b_w3_1⟩ := O_w3_1.facts); (have O_w3_2 : OwnB w3 (w2.heap.size+1) #[.int .i64 (M).1, .int .i64 (M).2] 69 := OwnB.call OwnB.au hK (by simp only [List.mem_singleton]; omega)); (obtain ⟨y_w3_2, x_w3_2, b_w3_2⟩ := O_w3_2.facts); (have HN3 := Lib.hid (NowQ.callE (NowQ.to HN2.out [w.heap.size, w2.heap.size, w2.heap.size+1] Keeps.au (by simp <;> omega) (by simp [kq] <;> omega)) hP hK hT)); (clear hP hK hT))))
    go_wp2_with fail
    refine bodyPost_ret (v := .agg #[.int .i64 M.1, .int .i64 0, .int .i64 0, .int .i64 0, .string ⟨#[]⟩, .int .i64 0, .slice (some ⟨w3.heap.size, 0, none⟩) 1 1, .int .i64 T.pos]) (by simp [results, Tryd.results93, go_sem, *]) rfl ?_
    exact NowQ.finOneT (ty := ty0) (NowQ.to HN3.out [w.heap.size, w2.heap.size, w2.heap.size+1] Keeps.au (by simp <;> omega) (by simp [kq] <;> omega)) OwnB.au (by refine ⟨?_, ?_⟩ <;> (try simp only [World.size_alloc, World.size_setCell, World.size_drew, World.heap_drewN]) <;> omega)
end Go.Proofs.YtjmemapkipkocaaDoor

/-
  Expressions: all that call themselves.
-/
namespace Go.Proofs.YtjmemapkipkocaaDoor
open Go.RowKit Go.Maps
set_option linter.unusedVariables false

theorem goodE_upto (c : Cx) (hc : c.Ok) : ∀ f : Nat, ∀ k, k ≤ f → GoodE c k := by
  intro f
  induction f with
  | zero =>
    intro k hk
    obtain rfl : k = 0 := by omega
    exact ⟨fun _ _ _ _ _ _ h _ => absurd h (by simp [P.recs, P.rec0]), fun _ _ _ _ _ _ h _ => absurd h (by simp [P.recs, P.rec0]), fun _ _ _ _ _ _ h _ => absurd h (by simp [P.recs, P.rec0]), fun _ _ _ _ _ _ _ _ _ h _ => absurd h (by simp [P.recs, P.rec0])⟩
  | succ f ih =>
    intro k hk
    by_cases hkf : k ≤ f
    · exact ih k hkf
    · obtain rfl : k = f + 1 := by omega
      have G := ih f (Nat.le_refl _)
      exact ⟨fun d s R w h0 hd hR h => expr_step c hc f G d s R w h0 (by omega) hR h, fun d s R w h0 hd hR h => cond_step c hc f G d s R w h0 (by omega) hR h,
        fun d s R w h0 hd hR h => unary_step c hc f ih d s R w h0 (by omega) hR h, fun lv d s R w l0 l1 h0 hd hR h => binary_step c hc f ih lv d s R w l0 l1 h0 (by omega) hR h⟩
theorem goodE (c : Cx) (hc : c.Ok) (f : Nat) : GoodE c f := goodE_upto c hc f f (Nat.le_refl _)
end Go.Proofs.YtjmemapkipkocaaDoor

/-
  Statements: 'told', 'asked', 'body', 'block'.
-/
namespace Go.Proofs.YtjmemapkipkocaaDoor
open Go.RowKit Go.Maps
set_option linter.unusedVariables false
set_option linter.unusedSimpArgs false
set_option maxRecDepth 100000
set_option maxHeartbeats 1000000

theorem NowQ.finRow {c : Cx} {w W : World} {s : St} {L : List KQ} {a : Ex} {ka : Value} {lo hi g : Nat} {X : List Nat} (h : NowQ c w s (kq lo hi X a.kids ka :: L) W)
    (hb : OwnB W g #[.int .i64 a.op, .int .i64 a.ty.kind, .int .i64 a.ty.ptr, .int .i64 a.ty.len, .string ⟨a.nm.toArray⟩, .int .i64 a.n, ka, .int .i64 a.pos] 105) (hg : hi ≤ g ∧ lo ≤ g) :
    DoesL c (one a, s) w (.returned (.slice (some ⟨g, 0, none⟩) 1 1)) W :=
  ⟨_, _, _, rfl, h.now.pin, h.now.kp, KidsIn.wide (KidsIn.one_ h.q0.2.2 hg.1 hg.2 hb [] (by simp)) h.q0.1 (lt_of_blk hb.blk) (Nat.le_refl _)⟩
theorem NowQ.finRowS {c : Cx} {w W : World} {s : St} {L : List KQ} {a : Sm} {ev bv : Value} {lo hi g : Nat} {X : List Nat} (h : NowQ c w s (mq lo hi X a.ex ev a.body bv :: L) W)
    (hb : OwnB W g #[.int .i64 a.op, ev, bv, .int .i64 a.ty.kind, .int .i64 a.ty.ptr, .int .i64 a.ty.len, .string ⟨a.nm.toArray⟩, .int .i64 a.n, .int .i64 a.pos] 82) (hg : hi ≤ g ∧ lo ≤ g) :
    DoesB c (oneS a, s) w (.returned (.slice (some ⟨g, 0, none⟩) 1 1)) W :=
  ⟨_, _, _, rfl, h.now.pin, h.now.kp, MIn.wide (MIn.one_ h.q0.2.2 hg.1 hg.2 hb [] (by simp)) h.q0.1 (lt_of_blk hb.blk) (Nat.le_refl _)⟩
theorem told_step (c : Cx) (hc : c.Ok) (f : Nat) (d : Int) (s : St) (R : Exs × St) (w : World) (h0 : 0 ≤ d) (hd : d + (f + 1) ≤ 1000000000)
    (hR : P.told c.l (P.recs c.l f) d s = some R) (h : PIn w c s) : Calls Tryd.prog 87 #[pv c, .int .i64 d] w (DoesL c R w) := by
  have HN := Lib.hid (NowQ.start h)
  have hg := HN.out.now.g
  have hgt := HN.out.now.gt
  unfold P.told at hR
  obtain ⟨A, hA, hR⟩ := Option.bind_eq_some_iff.1 hR
  obtain rfl := Option.some.inj hR
  have CE := fun W H => Lib.hid ((goodE c hc f).expr (d + 1) s A W (by omega) (by omega) hA H)
  have CN := fun W H => Lib.hid (need_any c hc A.2 W H [59])
  have hw : wrap64 (d + 1) = d + 1 := wrapJ (by omega) (by omega)
  clear h hA hR
  unfold pv
  go_enter Tryd.func87, Tryd.ntmps87
  go_wp2_with fail
  refine (CE _ (NowQ.pin (NowQ.to HN.out [] Keeps.au (fun b hb => absurd hb List.not_mem_nil) (fun q _ b hb => absurd hb List.not_mem_nil)))).out.mono ?_
  rintro e w1 ⟨a1, n1, p1, rfl, hP, hK, hT⟩
  have hz_w1 := hK.size
  try simp only [World.size_alloc, World.size_setCell, World.size_drew, World.heap_drewN] at hz_w1
  have HN1 := Lib.hid (NowQ.callE (NowQ.to HN.out [] Keeps.au (fun b hb => absurd hb List.not_mem_nil) (fun q _ b hb => absurd hb List.not_mem_nil)) hP hK hT)
  clear hP hK hT
  go_wp2_with fail
  refine (CN _ (NowQ.pin (NowQ.to HN1.out [w1.heap.size] Keeps.au (by simp <;> omega) (by simp [kq, mq] <;> omega)))).out.mono ?_
  rintro e w2 ⟨rfl, hP, hK⟩
  have hz_w2 := hK.size
  try simp only [World.size_alloc, World.size_setCell, World.size_drew, World.heap_drewN] at hz_w2
  have O_w2_0 : OwnB w2 (w1.heap.size) #[.int .i64 (A.1).op, .int .i64 (A.1).ty.kind, .int .i64 (A.1).ty.ptr, .int .i64 (A.1).ty.len, .string ⟨(A.1).nm.toArray⟩, .int .i64 (A.1).n, .slice a1 n1 p1, .int .i64 (A.1).pos] 105 := OwnB.call OwnB.au hK (by simp only [List.mem_singleton]; omega)
  obtain ⟨y_w2_0, x_w2_0, b_w2_0⟩ := O_w2_0.facts
  have HN2 := Lib.hid (NowQ.call (NowQ.to HN1.out [w1.heap.size] Keeps.au (by simp <;> omega) (by simp [kq, mq] <;> omega)) hP hK)
  clear hP hK
  go_wp2_with fail
  go_ret
  exact NowQ.finRow (NowQ.to HN2.out [w1.heap.size] Keeps.au (by simp <;> omega) (by simp [kq, mq] <;> omega)) OwnB.au (by refine ⟨?_, ?_⟩ <;> (try simp only [World.size_alloc, World.size_setCell, World.size_drew, World.heap_drewN]) <;> omega)
theorem asked_step (c : Cx) (hc : c.Ok) (f : Nat) (d : Int) (s : St) (R : Exs × St) (w : World) (h0 : 0 ≤ d) (hd : d + (f + 1) ≤ 1000000000)
    (hR : P.asked c.l (P.recs c.l f) d s = some R) (h : PIn w c s) : Calls Tryd.prog 82 #[pv c, .int .i64 d] w (DoesL c R w) := by
  have HN := Lib.hid (NowQ.start h)
  have hg := HN.out.now.g
  have hgt := HN.out.now.gt
  unfold P.asked at hR
  obtain ⟨A, hA, hR⟩ := Option.bind_eq_some_iff.1 hR
  obtain rfl := Option.some.inj hR
  have CE := fun W H => Lib.hid (within_step c hc f (goodE c hc f) (d + 1) s A W (by omega) (by omega) hA H)
  have hw : wrap64 (d + 1) = d + 1 := wrapJ (by omega) (by omega)
  clear h hA hR
  unfold pv
  go_enter Tryd.func82, Tryd.ntmps82
  go_wp2_with fail
  refine (CE _ (NowQ.pin (NowQ.to HN.out [] Keeps.au (fun b hb => absurd hb List.not_mem_nil) (fun q _ b hb => absurd hb List.not_mem_nil)))).out.mono ?_
  rintro e w1 ⟨a1, n1, p1, rfl, hP, hK, hT⟩
  have hz_w1 := hK.size
  try simp only [World.size_alloc, World.size_setCell, World.size_drew, World.heap_drewN] at hz_w1
  have HN1 := Lib.hid (NowQ.callE (NowQ.to HN.out [] Keeps.au (fun b hb => absurd hb List.not_mem_nil) (fun q _ b hb => absurd hb List.not_mem_nil)) hP hK hT)
  clear hP hK hT
  go_wp2_with fail
  go_ret
  exact NowQ.finRow (NowQ.to HN1.out [] Keeps.au (fun b hb => absurd hb List.not_mem_nil) (fun q _ b hb => absurd hb List.not_mem_nil)) OwnB.au (by refine ⟨?_, ?_⟩ <;> (try simp only [World.size_alloc, World.size_setCell, World.size_drew, World.heap_drewN]) <;> omega)
theorem body_step (c : Cx) (hc : c.Ok) (f : Nat) (G : GoodS c f) (d : Int) (s : St) (R : Sts × St) (w : World) (h0 : 0 ≤ d) (hd : d + (f + 1) ≤ 1000000000)
    (hR : P.body (P.recs c.l f) d s = some R) (h : PIn w c s) : Calls Tryd.prog 83 #[pv c, .int .i64 d] w (DoesB c R w) := by
  have HN := Lib.hid (NowQ.start h)
  have hg := HN.out.now.g
  have hgt := HN.out.now.gt
  unfold P.body at hR
  obtain ⟨A, hA, hR⟩ := Option.bind_eq_some_iff.1 hR
  obtain rfl := Option.some.inj hR
  have CE := fun W H => Lib.hid (G.stmt (d + 1) s A W (by omega) (by omega) hA H)
  have hw : wrap64 (d + 1) = d + 1 := wrapJ (by omega) (by omega)
  clear h hA hR
  unfold pv
  go_enter Tryd.func83, Tryd.ntmps83
  go_wp2_with fail
  refine (CE _ (NowQ.pin (NowQ.to HN.out [] Keeps.au (fun b hb => absurd hb List.not_mem_nil) (fun q _ b hb => absurd hb List.not_mem_nil)))).out.mono ?_
  rintro e w1 ⟨a1, n1, p1, b1, m1, r1, rfl, hP, hK, hT⟩
  have hz_w1 := hK.size
  try simp only [World.size_alloc, World.size_setCell, World.size_drew, World.heap_drewN] at hz_w1
  have HN1 := Lib.hid (NowQ.callS (NowQ.to HN.out [] Keeps.au (fun b hb => absurd hb List.not_mem_nil) (fun q _ b hb => absurd hb List.not_mem_nil)) hP hK hT)
  clear hP hK hT
  go_wp2_with fail
  go_ret
  exact NowQ.finRowS (NowQ.to HN1.out [] Keeps.au (fun b hb => absurd hb List.not_mem_nil) (fun q _ b hb => absurd hb List.not_mem_nil)) OwnB.au (by refine ⟨?_, ?_⟩ <;> (try simp only [World.size_alloc, World.size_setCell, World.size_drew, World.heap_drewN]) <;> omega)
/-- Where the loop of 'block' is. -/
structure BlkAt (c : Cx) (w : World) (f : Nat) (d : Int) (A : Sts × St) (k : Nat) (t5 : Value) (wr : World) : Prop where
  ex : ∃ (acc : Sts) (a : Option Addr) (n cp : Nat) (s0 : St) (hi : Nat), t5 = .slice a n cp ∧ NowQ c w s0 [mq w.heap.size hi [] .nil (.slice none 0 0) acc (.slice a n cp)] wr ∧
    (P.recs c.l k).blkL d acc s0 = some A ∧ acc.len + k ≤ f
theorem block_step (c : Cx) (hc : c.Ok) (f : Nat) (GA : ∀ k, k ≤ f → GoodS c k) (d : Int) (s : St) (R : Sts × St) (w : World) (h0 : 0 ≤ d) (hd : d + (f + 1) ≤ 1000000000)
    (hR : P.block c.l (P.recs c.l f) d s = some R) (h : PIn w c s) : Calls Tryd.prog 54 #[pv c, .int .i64 d] w (DoesB c R w) := by
  have HN := Lib.hid (NowQ.start h)
  have hg := HN.out.now.g
  have hgt := HN.out.now.gt
  unfold P.block at hR
  obtain ⟨A, hA, hR⟩ := Option.bind_eq_some_iff.1 hR
  obtain rfl := Option.some.inj hR
  have CN := fun W H => Lib.hid (need_any c hc s W H [123])
  have CM := fun W H => Lib.hid (need_any c hc A.2 W H [125])
  obtain ⟨s1, hs1⟩ : ∃ s1, s1 = P.need c.l [123] s := ⟨_, rfl⟩
  rw [← hs1] at hA CN
  have hw : wrap64 (d + 1) = d + 1 := wrapJ (by omega) (by omega)
  have HA := Lib.hid hA
  have HGA := Lib.hid GA
  clear h hA hR GA hs1
  unfold pv
  go_enter Tryd.func54, Tryd.ntmps54
  go_wp2_with fail
  refine (CN _ (NowQ.pin (NowQ.to HN.out [] Keeps.au (fun b hb => absurd hb List.not_mem_nil) (fun q _ b hb => absurd hb List.not_mem_nil)))).out.mono ?_
  rintro e w1 ⟨rfl, hP, hK⟩
  have hz_w1 := hK.size
  try simp only [World.size_alloc, World.size_setCell, World.size_drew, World.heap_drewN] at hz_w1
  have HN1 := Lib.hid (NowQ.call (NowQ.to HN.out [] Keeps.au (fun b hb => absurd hb List.not_mem_nil) (fun q _ b hb => absurd hb List.not_mem_nil)) hP hK)
  clear hP hK
  go_wp2_with fail
  go_loopg [5] f (fun k t5 wr => BlkAt c w f d A k t5 wr)
  case atStart => exact ⟨.nil, none, 0, 0, s1, w.heap.size, rfl, ⟨HN1.out.now, by simp [mq]; exact ⟨HN1.out.now.kp.size, MIn.nil HN1.out.now.kp.size⟩⟩, HA.out, by simp [Sts.len]⟩
  case round =>
    obtain ⟨acc, a, n, cp, s0, hi, rfl, hN, hb, hlen⟩ := hrel
    have HNr := Lib.hid hN
    have hsw : w.heap.size ≤ wr.heap.size := HNr.out.now.kp.size
    have hhi : hi ≤ wr.heap.size := HNr.out.q0.2.1
    clear hN
    have hnn : n = acc.len := by obtain ⟨_, _, _, Fe, F, _, hr, _⟩ := HNr.out.q0; exact hr.len
    subst hnn
    obtain ⟨k, rfl⟩ : ∃ k, gk = k + 1 := by
      cases gk with
      | zero => cases hb
      | succ k => exact ⟨k, rfl⟩
    have hB2 : P.blkL c.l (P.recs c.l k) d acc s0 = some A := hb
    clear hb
    unfold P.blkL at hB2
    have CI := fun W H => Lib.hid (is_any c hc s0 W H [125])
    have CT := fun W H => Lib.hid (token_any c hc s0 W H)
    obtain ⟨T, hT⟩ : ∃ T, T = P.tok c.l s0 := ⟨_, rfl⟩
    rw [← hT] at hB2 CT
    have tk0 := tok_field0
    have tk1 := tok_field1
    have tk2 := tok_field2
    have tk3 := tok_field3
    cases hp : P.is c.l [125] s0 with
    | true =>
      rw [hp, Bool.true_or, if_pos rfl] at hB2
      obtain rfl := Option.some.inj hB2
      rw [hp] at CI
      clear hB2 hp hT
      go_wp2_with fail
      refine (CI _ (NowQ.pin (NowQ.to HNr.out [] Keeps.au (fun b hb => absurd hb List.not_mem_nil) (fun q _ b hb => absurd hb List.not_mem_nil)))).out.mono ?_
      rintro e w2 ⟨rfl, hP, hK⟩
      have hz_w2 := hK.size
      try simp only [World.size_alloc, World.size_setCell, World.size_drew, World.heap_drewN] at hz_w2
      have HN2 := Lib.hid (NowQ.call (NowQ.to HNr.out [] Keeps.au (fun b hb => absurd hb List.not_mem_nil) (fun q _ b hb => absurd hb List.not_mem_nil)) hP hK)
      clear hP hK
      go_wp2_with fail
      refine (CM _ (NowQ.pin (NowQ.to HN2.out [] Keeps.au (fun b hb => absurd hb List.not_mem_nil) (fun q _ b hb => absurd hb List.not_mem_nil)))).out.mono ?_
      rintro e w3 ⟨rfl, hP, hK⟩
      have hz_w3 := hK.size
      try simp only [World.size_alloc, World.size_setCell, World.size_drew, World.heap_drewN] at hz_w3
      have HN3 := Lib.hid (NowQ.call (NowQ.to HN2.out [] Keeps.au (fun b hb => absurd hb List.not_mem_nil) (fun q _ b hb => absurd hb List.not_mem_nil)) hP hK)
      clear hP hK
      go_wp2_with fail
      go_ret
      exact ⟨_, _, _, rfl, HN3.out.now.pin, HN3.out.now.kp, MIn.wide HN3.out.q0.2.2 HN3.out.q0.1 HN3.out.q0.2.1 (Nat.le_refl _)⟩
    | false =>
      rw [hp, Bool.false_or] at hB2
      rw [hp] at CI
      by_cases hk : T.kind = 0
      · have hk1 : (T.kind != 0) = false := by simp [hk]
        rw [show (T.kind == 0) = true by simp [hk], if_pos rfl] at hB2
        obtain rfl := Option.some.inj hB2
        clear hB2 hp hT hk
        go_wp2_with fail
        refine (CI _ (NowQ.pin (NowQ.to HNr.out [] Keeps.au (fun b hb => absurd hb List.not_mem_nil) (fun q _ b hb => absurd hb List.not_mem_nil)))).out.mono ?_
        rintro e w2 ⟨rfl, hP, hK⟩
        have hz_w2 := hK.size
        try simp only [World.size_alloc, World.size_setCell, World.size_drew, World.heap_drewN] at hz_w2
        have HN2 := Lib.hid (NowQ.call (NowQ.to HNr.out [] Keeps.au (fun b hb => absurd hb List.not_mem_nil) (fun q _ b hb => absurd hb List.not_mem_nil)) hP hK)
        clear hP hK
        go_wp2_with fail
        refine (CT _ (NowQ.pin (NowQ.to HN2.out [] Keeps.au (fun b hb => absurd hb List.not_mem_nil) (fun q _ b hb => absurd hb List.not_mem_nil)))).out.mono ?_
        rintro e w3 ⟨rfl, hP, hK⟩
        have hz_w3 := hK.size
        try simp only [World.size_alloc, World.size_setCell, World.size_drew, World.heap_drewN] at hz_w3
        have HN3 := Lib.hid (NowQ.call (NowQ.to HN2.out [] Keeps.au (fun b hb => absurd hb List.not_mem_nil) (fun q _ b hb => absurd hb List.not_mem_nil)) hP hK)
        clear hP hK
        go_wp2_with fail
        refine (CM _ (NowQ.pin (NowQ.to HN3.out [] Keeps.au (fun b hb => absurd hb List.not_mem_nil) (fun q _ b hb => absurd hb List.not_mem_nil)))).out.mono ?_
        rintro e w4 ⟨rfl, hP, hK⟩
        have hz_w4 := hK.size
        try simp only [World.size_alloc, World.size_setCell, World.size_drew, World.heap_drewN] at hz_w4
        have HN4 := Lib.hid (NowQ.call (NowQ.to HN3.out [] Keeps.au (fun b hb => absurd hb List.not_mem_nil) (fun q _ b hb => absurd hb List.not_mem_nil)) hP hK)
        clear hP hK
        go_wp2_with fail
        go_ret
        exact ⟨_, _, _, rfl, HN4.out.now.pin, HN4.out.now.kp, MIn.wide HN4.out.q0.2.2 HN4.out.q0.1 HN4.out.q0.2.1 (Nat.le_refl _)⟩
      · have hk1 : (T.kind != 0) = true := by simp [hk]
        rw [show (T.kind == 0) = false by simp [hk], if_neg (by simp)] at hB2
        obtain ⟨B, hB, hR⟩ := Option.bind_eq_some_iff.1 hB2
        have CE := fun W H => Lib.hid ((HGA.out k (by omega)).stmt (d + 1) s0 B W (by omega) (by omega) hB H)
        have HR := Lib.hid hR
        clear hB2 hp hT hk hB hR
        go_wp2_with fail
        refine (CI _ (NowQ.pin (NowQ.to HNr.out [] Keeps.au (fun b hb => absurd hb List.not_mem_nil) (fun q _ b hb => absurd hb List.not_mem_nil)))).out.mono ?_
        rintro e w2 ⟨rfl, hP, hK⟩
        have hz_w2 := hK.size
        try simp only [World.size_alloc, World.size_setCell, World.size_drew, World.heap_drewN] at hz_w2
        have HN2 := Lib.hid (NowQ.call (NowQ.to HNr.out [] Keeps.au (fun b hb => absurd hb List.not_mem_nil) (fun q _ b hb => absurd hb List.not_mem_nil)) hP hK)
        clear hP hK
        go_wp2_with fail
        refine (CT _ (NowQ.pin (NowQ.to HN2.out [] Keeps.au (fun b hb => absurd hb List.not_mem_nil) (fun q _ b hb => absurd hb List.not_mem_nil)))).out.mono ?_
        rintro e w3 ⟨rfl, hP, hK⟩
        have hz_w3 := hK.size
        try simp only [World.size_alloc, World.size_setCell, World.size_drew, World.heap_drewN] at hz_w3
        have HN3 := Lib.hid (NowQ.call (NowQ.to HN2.out [] Keeps.au (fun b hb => absurd hb List.not_mem_nil) (fun q _ b hb => absurd hb List.not_mem_nil)) hP hK)
        clear hP hK
        go_wp2_with fail
        refine (CE _ (NowQ.pin (NowQ.to HN3.out [] Keeps.au (fun b hb => absurd hb List.not_mem_nil) (fun q _ b hb => absurd hb List.not_mem_nil)))).out.mono ?_
        rintro e w4 ⟨a2, n2, p2, b2, m2, r2, rfl, hP, hK, hT⟩
        have hz_w4 := hK.size
        try simp only [World.size_alloc, World.size_setCell, World.size_drew, World.heap_drewN] at hz_w4
        have HN4 := Lib.hid (NowQ.callS (NowQ.to HN3.out [] Keeps.au (fun b hb => absurd hb List.not_mem_nil) (fun q _ b hb => absurd hb List.not_mem_nil)) hP hK hT)
        clear hP hK hT
        go_wp2_with (at_builtin; refine wpList_appendS (acc := acc) (B := B.1) rfl _ _ rfl rfl rfl (NowQ.to HN4.out [] Keeps.au (fun b hb => absurd hb List.not_mem_nil) (fun q _ b hb => absurd hb List.not_mem_nil)) OwnB.au ⟨by omega, by omega, (by (try simp only [World.size_alloc, World.size_setCell, World.size_drew, World.heap_drewN]); omega)⟩ (by omega) (fun q hq => absurd hq List.not_mem_nil) [] (fun x hx => absurd hx List.not_mem_nil) ?_; intro g cap' w5 hN5 hk5 hz5; have HN5 := Lib.hid hN5; clear hN5 hk5)
        go_roundg k
        case measure => omega
        case rel => exact ⟨acc.snoc B.1, _, _, _, B.2, _, rfl, HN5.out, HR.out, by rw [Sts.snoc_len]; omega⟩
end Go.Proofs.YtjmemapkipkocaaDoor

/-
  Functions.
-/
namespace Go.Proofs.YtjmemapkipkocaaDoor
open Go.RowKit Go.Maps
set_option linter.unusedVariables false
set_option linter.unusedSimpArgs false
set_option maxRecDepth 100000
set_option maxHeartbeats 1000000

theorem OwnB.s8_0 {w : World} {b : Nat} {u0 u1 u2 u3 u4 u5 u6 u7 v : Value} {T : TypeId} (h : OwnB w b #[u0, u1, u2, u3, u4, u5, u6, u7] T) : OwnB (w.setCell ⟨b, 0, none⟩ v) b #[v, u1, u2, u3, u4, u5, u6, u7] T := h.set 0 v
theorem OwnB.s8_1 {w : World} {b : Nat} {u0 u1 u2 u3 u4 u5 u6 u7 v : Value} {T : TypeId} (h : OwnB w b #[u0, u1, u2, u3, u4, u5, u6, u7] T) : OwnB (w.setCell ⟨b, 1, none⟩ v) b #[u0, v, u2, u3, u4, u5, u6, u7] T := h.set 1 v
theorem OwnB.s8_2 {w : World} {b : Nat} {u0 u1 u2 u3 u4 u5 u6 u7 v : Value} {T : TypeId} (h : OwnB w b #[u0, u1, u2, u3, u4, u5, u6, u7] T) : OwnB (w.setCell ⟨b, 2, none⟩ v) b #[u0, u1, v, u3, u4, u5, u6, u7] T := h.set 2 v
theorem OwnB.s8_3 {w : World} {b : Nat} {u0 u1 u2 u3 u4 u5 u6 u7 v : Value} {T : TypeId} (h : OwnB w b #[u0, u1, u2, u3, u4, u5, u6, u7] T) : OwnB (w.setCell ⟨b, 3, none⟩ v) b #[u0, u1, u2, v, u4, u5, u6, u7] T := h.set 3 v
theorem OwnB.s8_4 {w : World} {b : Nat} {u0 u1 u2 u3 u4 u5 u6 u7 v : Value} {T : TypeId} (h : OwnB w b #[u0, u1, u2, u3, u4, u5, u6, u7] T) : OwnB (w.setCell ⟨b, 4, none⟩ v) b #[u0, u1, u2, u3, v, u5, u6, u7] T := h.set 4 v
theorem OwnB.s8_5 {w : World} {b : Nat} {u0 u1 u2 u3 u4 u5 u6 u7 v : Value} {T : TypeId} (h : OwnB w b #[u0, u1, u2, u3, u4, u5, u6, u7] T) : OwnB (w.setCell ⟨b, 5, none⟩ v) b #[u0, u1, u2, u3, u4, v, u6, u7] T := h.set 5 v
theorem OwnB.s8_6 {w : World} {b : Nat} {u0 u1 u2 u3 u4 u5 u6 u7 v : Value} {T : TypeId} (h : OwnB w b #[u0, u1, u2, u3, u4, u5, u6, u7] T) : OwnB (w.setCell ⟨b, 6, none⟩ v) b #[u0, u1, u2, u3, u4, u5, v, u7] T := h.set 6 v
theorem OwnB.s8_7 {w : World} {b : Nat} {u0 u1 u2 u3 u4 u5 u6 u7 v : Value} {T : TypeId} (h : OwnB w b #[u0, u1, u2, u3, u4, u5, u6, u7] T) : OwnB (w.setCell ⟨b, 7, none⟩ v) b #[u0, u1, u2, u3, u4, u5, u6, v] T := h.set 7 v
theorem OwnB.s6_0 {w : World} {b : Nat} {u0 u1 u2 u3 u4 u5 v : Value} {T : TypeId} (h : OwnB w b #[u0, u1, u2, u3, u4, u5] T) : OwnB (w.setCell ⟨b, 0, none⟩ v) b #[v, u1, u2, u3, u4, u5] T := h.set 0 v
theorem OwnB.s6_1 {w : World} {b : Nat} {u0 u1 u2 u3 u4 u5 v : Value} {T : TypeId} (h : OwnB w b #[u0, u1, u2, u3, u4, u5] T) : OwnB (w.setCell ⟨b, 1, none⟩ v) b #[u0, v, u2, u3, u4, u5] T := h.set 1 v
theorem OwnB.s6_2 {w : World} {b : Nat} {u0 u1 u2 u3 u4 u5 v : Value} {T : TypeId} (h : OwnB w b #[u0, u1, u2, u3, u4, u5] T) : OwnB (w.setCell ⟨b, 2, none⟩ v) b #[u0, u1, v, u3, u4, u5] T := h.set 2 v
theorem OwnB.s6_3 {w : World} {b : Nat} {u0 u1 u2 u3 u4 u5 v : Value} {T : TypeId} (h : OwnB w b #[u0, u1, u2, u3, u4, u5] T) : OwnB (w.setCell ⟨b, 3, none⟩ v) b #[u0, u1, u2, v, u4, u5] T := h.set 3 v
theorem OwnB.s6_4 {w : World} {b : Nat} {u0 u1 u2 u3 u4 u5 v : Value} {T : TypeId} (h : OwnB w b #[u0, u1, u2, u3, u4, u5] T) : OwnB (w.setCell ⟨b, 4, none⟩ v) b #[u0, u1, u2, u3, v, u5] T := h.set 4 v
theorem OwnB.s6_5 {w : World} {b : Nat} {u0 u1 u2 u3 u4 u5 v : Value} {T : TypeId} (h : OwnB w b #[u0, u1, u2, u3, u4, u5] T) : OwnB (w.setCell ⟨b, 5, none⟩ v) b #[u0, u1, u2, u3, u4, v] T := h.set 5 v
/-- The parts of a function. -/
def RowF (w : World) (fn : Fn) (pv bv : Value) (F : List Nat) : Prop := ∃ F1 F2, RowD w fn.params pv F1 ∧ RowS w fn.body bv F2 ∧ F = F1 ++ F2
/-- What a call does that returns a function. -/
def DoesF (c : Cx) (R : Fn × St) (w : World) (e : Ending) (w' : World) : Prop :=
  ∃ a n cp a' n' cp', e = .returned (.agg #[.string ⟨R.1.nm.toArray⟩, .int .i64 R.1.ret.kind, .int .i64 R.1.ret.ptr, .int .i64 R.1.ret.len, .slice a n cp, .slice a' n' cp', .slice none 0 0, .int .i64 R.1.pos]) ∧ PIn w' c R.2 ∧ Keeps [c.g] w w' ∧
    RIn (fun w F => RowF w R.1 (.slice a n cp) (.slice a' n' cp') F) w' w.heap.size w'.heap.size []
theorem RIn.fn {w : World} {lo hi lo2 hi2 l u : Nat} {X X2 : List Nat} {fn : Fn} {pv bv ev : Value} (h : RIn (fun w F => RowD w fn.params pv F) w lo hi X) (h' : MIn w lo2 hi2 X2 .nil ev fn.body bv) (hd : hi ≤ lo2) (hl : l ≤ lo ∧ l ≤ lo2) (hu : hi ≤ u ∧ hi2 ≤ u ∧ u ≤ w.heap.size) :
    RIn (fun w F => RowF w fn pv bv F) w l u [] := by
  obtain ⟨h1, F, h2, h3, h4⟩ := h
  obtain ⟨h1', Fe, Fb, h2a, h2', h3', h4'⟩ := h'
  refine ⟨hu.2.2, F ++ Fb, ⟨F, Fb, h2, h2', rfl⟩, List.nodup_append.2 ⟨h3, (List.nodup_append.1 h3').2.1, fun x hx y hy => ?_⟩, fun x hm => ?_⟩
  · have := h4 x hx; have := h4' y (by simp [hy]); omega
  · rcases List.mem_append.1 hm with hm | hm
    · have := h4 x hm; exact ⟨by omega, by omega, by simp⟩
    · have := h4' x (by simp [hm]); exact ⟨by omega, by omega, by simp⟩
theorem function_step (c : Cx) (hc : c.Ok) (f : Nat) (hf : f + 2 ≤ 1000000000) (GS : ∀ k, k ≤ f → GoodS c k) (ret : Ty) (name : Tok) (s : St) (R : Fn × St) (w : World) (hR : P.func c.l f ret name s = some R) (h : PIn w c s) :
    Calls Tryd.prog 41 #[pv c, (.agg #[.int .i64 (ret).kind, .int .i64 (ret).ptr, .int .i64 (ret).len]), (.agg #[.int .i64 (name).kind, .string ⟨(name).text.toArray⟩, .int .i64 (name).n, .int .i64 (name).pos])] w (DoesF c R w) := by
  have HN := Lib.hid (NowQ.start h)
  have hg := HN.out.now.g
  have hgt := HN.out.now.gt
  unfold P.func at hR
  obtain ⟨A, hA, hR⟩ := Option.bind_eq_some_iff.1 hR
  obtain ⟨B, hB, hR⟩ := Option.bind_eq_some_iff.1 hR
  obtain rfl := Option.some.inj hR
  have CP := fun W H => Lib.hid (params_step c hc f (by omega) s A W hA H)
  have CB := fun W H => Lib.hid (block_step c hc f GS 1 A.2 B W (by decide) (by omega) hB H)
  clear h hA hB hR
  unfold pv
  go_enter Tryd.func41, Tryd.ntmps41
  go_wp2_with fail
  refine (CP _ (NowQ.pin (NowQ.to HN.out [w.heap.size, w.heap.size+1, w.heap.size+2, w.heap.size+3] Keeps.au (by simp <;> omega) (by simp [kq, mq, dq, iq] <;> omega)))).out.mono ?_
  rintro e x1 ⟨a1, n1, p1, rfl, hP, hK, hT⟩
  have hz1 := hK.size
  try simp only [World.size_alloc, World.size_setCell, World.size_drew, World.heap_drewN] at hz1
  have O1 : OwnB x1 (w.heap.size+2) #[.string ⟨#[]⟩, .int .i64 0, .int .i64 0, .int .i64 0, .slice none 0 0, .slice none 0 0, .slice none 0 0, .int .i64 0] 54 := OwnB.call OwnB.au hK (by simp only [List.mem_singleton]; omega)
  have O2 : OwnB x1 (w.heap.size+3) #[.string ⟨name.text.toArray⟩, .int .i64 ret.kind, .int .i64 ret.ptr, .int .i64 ret.len, .slice none 0 0, .slice none 0 0, .slice none 0 0, .int .i64 name.pos] 54 := OwnB.call OwnB.au hK (by simp only [List.mem_singleton]; omega)
  obtain ⟨y1, z1, b1⟩ := O1.facts
  obtain ⟨y2, z2, b2⟩ := O2.facts
  have HN1 := Lib.hid (NowQ.callT (NowQ.to HN.out [w.heap.size, w.heap.size+1, w.heap.size+2, w.heap.size+3] Keeps.au (by simp <;> omega) (by simp [kq, mq, dq, iq] <;> omega)) (dq _ x1.heap.size [] A.1 (.slice a1 n1 p1)) hP hK hT (Nat.le_refl _) (Nat.le_refl _))
  clear hP hK hT
  go_wp2_with fail
  refine (CB _ (NowQ.pin (NowQ.to HN1.out [w.heap.size+2, w.heap.size+3] Keeps.au (by simp <;> omega) (by simp [kq, mq, dq, iq] <;> omega)))).out.mono ?_
  rintro e x2 ⟨a2, n2, p2, rfl, hP, hK, hT⟩
  have hz_x2 := hK.size
  try simp only [World.size_alloc, World.size_setCell, World.size_drew, World.heap_drewN] at hz_x2
  have O_x2_0 : OwnB x2 (w.heap.size+2) #[.string ⟨#[]⟩, .int .i64 0, .int .i64 0, .int .i64 0, .slice none 0 0, .slice none 0 0, .slice none 0 0, .int .i64 0] 54 := OwnB.call OwnB.au hK (by simp only [List.mem_singleton]; omega)
  obtain ⟨y_x2_0, x_x2_0, b_x2_0⟩ := O_x2_0.facts
  have O_x2_1 : OwnB x2 (w.heap.size+3) #[.string ⟨name.text.toArray⟩, .int .i64 ret.kind, .int .i64 ret.ptr, .int .i64 ret.len, .slice a1 n1 p1, .slice none 0 0, .slice none 0 0, .int .i64 name.pos] 54 := OwnB.call (by repeat (first | with_reducible apply OwnB.s8_0 | with_reducible apply OwnB.s8_1 | with_reducible apply OwnB.s8_2 | with_reducible apply OwnB.s8_3 | with_reducible apply OwnB.s8_4 | with_reducible apply OwnB.s8_5 | with_reducible apply OwnB.s8_6 | with_reducible apply OwnB.s8_7 | with_reducible assumption | (with_reducible refine OwnB.new ?_; (first | with_reducible rfl | (simp only [World.size_alloc, World.size_setCell, World.size_drew, World.heap_drewN]; done) | (simp only [World.size_alloc, World.size_setCell, World.size_drew, World.heap_drewN]; omega))) | with_reducible refine OwnB.alloc ?_ _ | with_reducible refine OwnB.drew ?_ | with_reducible refine OwnB.drewN ?_ _ | with_reducible refine OwnB.setCell ?_ _ _ ?_ | (dsimp only; omega) | omega)) hK (by simp only [List.mem_singleton]; omega)
  obtain ⟨y_x2_1, x_x2_1, b_x2_1⟩ := O_x2_1.facts
  have HN2 := Lib.hid (NowQ.callS (NowQ.to HN1.out [w.heap.size+2, w.heap.size+3] Keeps.au (by simp <;> omega) (by simp [kq, mq, dq, iq] <;> omega)) hP hK hT)
  clear hP hK hT
  go_wp2_with fail
  refine bodyPost_ret (v := .agg #[.string ⟨name.text.toArray⟩, .int .i64 ret.kind, .int .i64 ret.ptr, .int .i64 ret.len, .slice a1 n1 p1, .slice a2 n2 p2, .slice none 0 0, .int .i64 name.pos]) (by simp [results, Tryd.results41, go_sem, *]) rfl ?_
  have HF := Lib.hid HN2.out
  refine ⟨a1, n1, p1, a2, n2, p2, rfl, NowQ.pin (NowQ.to HN2.out [w.heap.size+2, w.heap.size+3] Keeps.au (by simp <;> omega) (by simp [kq, mq, dq, iq] <;> omega)), ((NowQ.to HN2.out [w.heap.size+2, w.heap.size+3] Keeps.au (by simp <;> omega) (by simp [kq, mq, dq, iq] <;> omega)) : NowQ c w _ _ _).now.kp, ?_⟩
  exact RIn.fn (fn := ⟨name.text, ret, A.1, B.1, name.pos⟩) (NowQ.q1 (NowQ.to HN2.out [w.heap.size+2, w.heap.size+3] Keeps.au (by simp <;> omega) (by simp [kq, mq, dq, iq] <;> omega))).2.2 (NowQ.q0 (NowQ.to HN2.out [w.heap.size+2, w.heap.size+3] Keeps.au (by simp <;> omega) (by simp [kq, mq, dq, iq] <;> omega))).2.2 (by (try simp only [World.size_alloc, World.size_setCell, World.size_drew, World.heap_drewN]); omega) ⟨(NowQ.q1 (NowQ.to HN2.out [w.heap.size+2, w.heap.size+3] Keeps.au (by simp <;> omega) (by simp [kq, mq, dq, iq] <;> omega))).1, (NowQ.q0 (NowQ.to HN2.out [w.heap.size+2, w.heap.size+3] Keeps.au (by simp <;> omega) (by simp [kq, mq, dq, iq] <;> omega))).1⟩ ⟨(NowQ.q1 (NowQ.to HN2.out [w.heap.size+2, w.heap.size+3] Keeps.au (by simp <;> omega) (by simp [kq, mq, dq, iq] <;> omega))).2.1, (NowQ.q0 (NowQ.to HN2.out [w.heap.size+2, w.heap.size+3] Keeps.au (by simp <;> omega) (by simp [kq, mq, dq, iq] <;> omega))).2.1, Nat.le_refl _⟩
end Go.Proofs.YtjmemapkipkocaaDoor

/-
  'append' to a list of numbers.
-/
namespace Go.Proofs.YtjmemapkipkocaaDoor
open Go.RowKit Go.Maps
set_option linter.unusedVariables false
set_option linter.unusedSimpArgs false

theorem infoIn : (Tryd.prog.info? 2).map (fun i => (i.zero, i.size, i.bytes)) = some (some (.int .i64 0), 1, 8) := by kernel_rfl
theorem wpList_appendI {ops : Array Oper} {rest : List Oper} {o : Oper} {a : Act} {Q : Exit → Act → World → Prop} {c : Cx} {w W : World} {s : St} {L : List KQ} (hgd : o.guard = none) (sO xO : Operand)
    (ho : o.op = .call { callee := .builtin .append, args := #[sO, xO], argTypes := #[48, 48] })
    {lo hi : Nat} {X : List Nat} {acc : List Int} {v : Int} {av : Option Addr} {n cap : Nat} {gb cb : Nat}
    (hs : a.eval sO = .slice av n cap) (hx : a.eval xO = .slice (some ⟨gb, 0, none⟩) 1 cb)
    (hn : NowQ c w s (iq lo hi X acc (.slice av n cap) :: L) W)
    (hb : OwnB W gb #[.int .i64 v] 2)
    (h12 : lo ≤ W.heap.size) (hlen : acc.length ≤ 1000000000) (hL : ∀ q ∈ L, ∀ b, lo ≤ b → b < hi → b ∉ X → b < q.lo ∨ q.hi ≤ b ∨ b ∈ q.X)
    (Y : List Nat) (hY : ∀ x ∈ Y, x < W.heap.size ∧ (x < lo ∨ hi ≤ x ∨ x ∈ X))
    (hK : ∀ g cap' w', NowQ c w s (iq lo w'.heap.size Y (acc ++ [v]) (.slice (some ⟨g, 0, none⟩) (acc.length + 1) cap') :: L) w' → (∀ b, b < W.heap.size → (b < lo ∨ hi ≤ b ∨ b ∈ X) → w'.heap[b]? = W.heap[b]?) → W.heap.size ≤ w'.heap.size →
      wpList Tryd.prog ops Q rest (a.put o.dst (.slice (some ⟨g, 0, none⟩) (acc.length + 1) cap')) w') : wpList Tryd.prog ops Q (o :: rest) a W := by
  obtain ⟨q1, q2, q3⟩ := hn.q0
  have q1' : w.heap.size ≤ lo := q1
  obtain ⟨h1, F, hr, hnd, hF⟩ := q3
  obtain ⟨ho1, rfl⟩ := hr
  obtain rfl := ownsRow_n ho1
  obtain ⟨i0, hinf, hz⟩ : ∃ i, Tryd.prog.info? 2 = some i ∧ (i.zero, i.size, i.bytes) = (some (.int .i64 0), 1, 8) := by
    have := infoIn
    cases hq : Tryd.prog.info? 2 with
    | none => simp [hq] at this
    | some i => exact ⟨i, rfl, by simpa [hq] using this⟩
  simp only [Prod.mk.injEq] at hz
  obtain ⟨hz0, hz1, hz2⟩ := hz
  have hlo : ∀ b ∈ ownF (Value.slice av acc.length cap), lo ≤ b := fun b hm => (hF b hm).1
  have hown := rebase ho1 hlo
  refine wpList_append_lies W hgd sO xO 48 ho lo 2 i0 _ 1 8 Tryd.underlying48 hinf hz0 hz1 hz2 rfl (by decide) _ acc.length (intsC acc) hs hown ⟨gb, 0, none⟩ 1 cb [.int .i64 v] hx rfl
    (World.news_of_block hb.blk) ?_ (by decide) (by unfold maxLen; omega) (by omega) (by omega) _ rfl ?_
  · intro u hu
    simp only [List.mem_cons, List.not_mem_nil, or_false] at hu
    subst hu
    rfl
  · intro g cap' w' hown' hgr hg hgw
    have hsize : W.heap.size ≤ w'.heap.size := hgr.size
    have hkeep : ∀ b, b < W.heap.size → b ∉ ownF (Value.slice av acc.length cap) → w'.heap[b]? = W.heap[b]? := by
      intro b hbs hm
      refine hgr.block b hbs ?_
      intro e
      exact hm (by rw [ownF, ← e]; simp)
    have hkeep2 : ∀ b, b < W.heap.size → (b < lo ∨ hi ≤ b ∨ b ∈ X) → w'.heap[b]? = W.heap[b]? := by
      intro b hbs hbb
      refine hkeep b hbs fun hm => ?_
      have := hF b hm
      rcases hbb with h3 | h3 | h3
      · omega
      · omega
      · exact this.2.2 h3
    have hgF : lo ≤ g ∧ (g = W.heap.size ∨ g ∈ ownF (Value.slice av acc.length cap)) := by
      rcases hg with hg | rfl
      · have hgo : g ∈ ownF (Value.slice av acc.length cap) := by rw [ownF, hg]; simp
        exact ⟨hlo g hgo, .inr hgo⟩
      · exact ⟨by omega, .inl rfl⟩
    have hkn : NowQ c w s L w' := by
      have hne : ∀ b, b < w.heap.size → b < W.heap.size ∧ (b < lo ∨ hi ≤ b ∨ b ∈ X) := fun b hbs => ⟨by have := hn.now.kp.size; omega, .inl (by omega)⟩
      have k : Keeps (ownF (Value.slice av acc.length cap)) W w' := ⟨hgr.os, hgr.tape, hgr.output, hgr.size, hkeep⟩
      have hnL : NowQ c w s L W := ⟨hn.now, fun q hq => hn.all q (by simp [hq])⟩
      exact hnL.to _ k (fun b hm => by have := hlo b hm; omega) (fun q hq b hm => by
        have h5 := hF b hm
        exact hL q hq b h5.1 h5.2.1 h5.2.2)
    refine hK g cap' w' ⟨hkn.now, fun q hq => ?_⟩ hkeep2 hsize
    rcases List.mem_cons.1 hq with rfl | hq
    · refine ⟨q1, Nat.le_refl _, Nat.le_refl _, [g], ⟨?_, rfl⟩, by simp, ?_⟩
      · rw [show intsC (acc ++ [v]) = intsC acc ++ [.int .i64 v] by simp [intsC], List.length_append]
        exact rebase hown' (fun b _ => Nat.zero_le _)
      · intro b hm
        obtain rfl : b = g := by simpa using hm
        refine ⟨hgF.1, hgw, fun hy => ?_⟩
        have h5 := hY _ hy
        rcases hgF.2 with h6 | h6
        · omega
        · have h7 := hF _ h6
          rcases h5.2 with h8 | h8 | h8
          · omega
          · omega
          · exact h7.2.2 h8
    · exact hkn.all q hq
end Go.Proofs.YtjmemapkipkocaaDoor

/-
  What a global is told.
-/
namespace Go.Proofs.YtjmemapkipkocaaDoor
open Go.RowKit Go.Maps
set_option linter.unusedVariables false
set_option linter.unusedSimpArgs false
set_option maxRecDepth 100000
set_option maxHeartbeats 2000000

/-- What a call does that returns a slice of numbers. -/
def DoesI (c : Cx) (R : List Int × St) (w : World) (e : Ending) (w' : World) : Prop :=
  ∃ a n cp, e = .returned (.slice a n cp) ∧ PIn w' c R.2 ∧ Keeps [c.g] w w' ∧ RIn (fun w F => RowI w R.1 (.slice a n cp) F) w' w.heap.size w'.heap.size []
/-- Where the loop of 'initial' is. -/
structure InAt (c : Cx) (w : World) (f : Nat) (n : Int) (A : List Int × St) (k : Nat) (t5 t6 : Value) (wr : World) : Prop where
  ex : ∃ (more : Bool) (acc : List Int) (a : Option Addr) (m cp : Nat) (s0 : St) (hi : Nat), t5 = .slice a m cp ∧ t6 = .bool more ∧ NowQ c w s0 [iq w.heap.size hi [] acc (.slice a m cp)] wr ∧
    (more = true → P.iniL c.l k n acc s0 = some A) ∧ acc.length + k ≤ f ∧ (more = false → A = (acc, s0))
theorem RowI.one {w : World} {g : Nat} {v : Int} (h : OwnB w g #[.int .i64 v] 2) : RowI w [v] (.slice (some ⟨g, 0, none⟩) 1 1) [g] := ⟨ownsRow_lit h.blk rfl (by decide), rfl⟩
theorem initial_step (c : Cx) (hc : c.Ok) (f : Nat) (hf : f ≤ 1000000000) (n : Int) (s : St) (R : List Int × St) (w : World) (hR : P.initial c.l f n s = some R) (h : PIn w c s) :
    Calls Tryd.prog 57 #[pv c, .int .i64 n] w (DoesI c R w) := by
  have HN := Lib.hid (NowQ.start h)
  have hg := HN.out.now.g
  have hgt := HN.out.now.gt
  unfold P.initial at hR
  by_cases hn : n = 0
  · rw [if_pos hn] at hR
    obtain rfl := Option.some.inj hR
    have CV := fun W H => Lib.hid (value_any c hc s W H)
    obtain ⟨V, hV⟩ : ∃ V, V = P.value c.l s := ⟨_, rfl⟩
    rw [← hV] at CV ⊢
    have hn1 : (n == 0) = true := by simp [hn]
    clear h hV hn
    unfold pv
    go_enter Tryd.func57, Tryd.ntmps57
    go_wp2_with fail
    refine (CV _ (NowQ.pin (NowQ.to HN.out [] Keeps.au (fun b hb => absurd hb List.not_mem_nil) (fun q _ b hb => absurd hb List.not_mem_nil)))).out.mono ?_
    rintro e w1 ⟨rfl, hP, hK⟩
    have hz_w1 := hK.size
    try simp only [World.size_alloc, World.size_setCell, World.size_drew, World.heap_drewN] at hz_w1
    have HN1 := Lib.hid (NowQ.call (NowQ.to HN.out [] Keeps.au (fun b hb => absurd hb List.not_mem_nil) (fun q _ b hb => absurd hb List.not_mem_nil)) hP hK)
    clear hP hK
    go_wp2_with fail
    go_ret
    have O1 : OwnB (w1.alloc (.cells #[.int .i64 V.1] 2)) w1.heap.size #[.int .i64 V.1] 2 := OwnB.new rfl
    exact ⟨_, _, _, rfl, NowQ.pin (NowQ.to HN1.out [] Keeps.au (fun b hb => absurd hb List.not_mem_nil) (fun q _ b hb => absurd hb List.not_mem_nil)), ((NowQ.to HN1.out [] Keeps.au (fun b hb => absurd hb List.not_mem_nil) (fun q _ b hb => absurd hb List.not_mem_nil)) : NowQ c w _ [] _).now.kp, ⟨Nat.le_refl _, [w1.heap.size], RowI.one O1, by simp, (by
      intro b hb
      obtain rfl : b = w1.heap.size := by simpa using hb
      have := HN1.out.now.kp.size
      rw [World.size_alloc]
      exact ⟨this, by omega, by simp⟩)⟩⟩
  · rw [if_neg hn] at hR
    obtain ⟨A, hA, hR⟩ := Option.bind_eq_some_iff.1 hR
    obtain rfl := Option.some.inj hR
    have CN := fun W H => Lib.hid (need_any c hc s W H [123])
    have CM := fun W H => Lib.hid (need_any c hc A.2 W H [125])
    obtain ⟨s1, hs1⟩ : ∃ s1, s1 = P.need c.l [123] s := ⟨_, rfl⟩
    rw [← hs1] at hA CN
    have hn1 : (n == 0) = false := by simp [hn]
    have HA := Lib.hid hA
    clear h hA hs1 hn hR
    unfold pv
    go_enter Tryd.func57, Tryd.ntmps57
    go_wp2_with fail
    refine (CN _ (NowQ.pin (NowQ.to HN.out [] Keeps.au (fun b hb => absurd hb List.not_mem_nil) (fun q _ b hb => absurd hb List.not_mem_nil)))).out.mono ?_
    rintro e w1 ⟨rfl, hP, hK⟩
    have hz_w1 := hK.size
    try simp only [World.size_alloc, World.size_setCell, World.size_drew, World.heap_drewN] at hz_w1
    have HN1 := Lib.hid (NowQ.call (NowQ.to HN.out [] Keeps.au (fun b hb => absurd hb List.not_mem_nil) (fun q _ b hb => absurd hb List.not_mem_nil)) hP hK)
    clear hP hK
    go_wp2_with fail
    go_loopg [5, 6] f (fun k t5 t6 wr => InAt c w f n A k t5 t6 wr)
    case atStart => exact ⟨true, [], none, 0, 0, s1, w.heap.size, rfl, rfl, ⟨HN1.out.now, by simp [iq]; exact ⟨HN1.out.now.kp.size, HN1.out.now.kp.size, [], RowI.nil, by simp, by simp⟩⟩, fun _ => HA.out, by simp, (by simp)⟩
    case round =>
      obtain ⟨more, acc, a, m, cp, s0, hi, rfl, rfl, hN, ha, hlen, hf2⟩ := hrel
      have HNr := Lib.hid hN
      have hsw : w.heap.size ≤ wr.heap.size := HNr.out.now.kp.size
      have hhi : hi ≤ wr.heap.size := HNr.out.q0.2.1
      clear hN
      cases more with
      | false =>
        obtain rfl := hf2 rfl
        clear ha hf2
        go_wp2_with fail
        refine (CM _ (NowQ.pin (NowQ.to HNr.out [] Keeps.au (fun b hb => absurd hb List.not_mem_nil) (fun q _ b hb => absurd hb List.not_mem_nil)))).out.mono ?_
        rintro e w2 ⟨rfl, hP, hK⟩
        have hz_w2 := hK.size
        try simp only [World.size_alloc, World.size_setCell, World.size_drew, World.heap_drewN] at hz_w2
        have HN2 := Lib.hid (NowQ.call (NowQ.to HNr.out [] Keeps.au (fun b hb => absurd hb List.not_mem_nil) (fun q _ b hb => absurd hb List.not_mem_nil)) hP hK)
        clear hP hK
        go_wp2_with fail
        go_ret
        exact ⟨_, _, _, rfl, HN2.out.now.pin, HN2.out.now.kp, RIn.wide HN2.out.q0.2.2 (Nat.le_refl _) HN2.out.q0.2.1 (Nat.le_refl _)⟩
      | true =>
        have hb := ha rfl
        clear ha hf2
        obtain ⟨k, rfl⟩ : ∃ k, gk = k + 1 := by
          cases gk with
          | zero => cases hb
          | succ k => exact ⟨k, rfl⟩
        unfold P.iniL at hb
        have hmm : m = acc.length := by obtain ⟨_, _, _, F, hr, _⟩ := HNr.out.q0; exact ownsRow_n hr.1
        subst hmm
        have CT := fun W H => Lib.hid (token_any c hc s0 W H)
        obtain ⟨T, hT⟩ : ∃ T, T = P.tok c.l s0 := ⟨_, rfl⟩
        rw [← hT] at hb CT
        have CI := fun W H => Lib.hid (is_any c hc s0 W H [45])
        by_cases hc1 : (acc.length : Int) = n
        · have hd1 : ((acc.length : Int) == n) = true := by simp [hc1]
          by_cases hc2 : T.kind = 2
          · have hd2 : (T.kind == 2) = true := by simp [hc2]
            rw [if_pos (show (acc.length : Int) = n ∧ (T.kind = 2 ∨ P.is c.l [45] s0 = true) from ⟨hc1, .inl hc2⟩)] at hb
            obtain ⟨sF, hsF⟩ : ∃ sF, sF = P.fail c.l 10 T.pos s0 := ⟨_, rfl⟩
            rw [← hsF] at hb
            have CF := fun W H => Lib.hid (fail_any c hc s0 W H 10 T.pos)
            rw [← hsF] at CF
            obtain ⟨B, hB⟩ : ∃ B, B = P.value c.l sF := ⟨_, rfl⟩
            rw [← hB] at hb
            have CV := fun W H => Lib.hid (value_any c hc sF W H)
            rw [← hB] at CV
            have CA := fun W H => Lib.hid (accept_any c hc B.2 W H [44])
            have HR := Lib.hid hb
            clear hb hB hT hc1 hc2 hsF
            have tk0 := tok_field0
            have tk1 := tok_field1
            have tk2 := tok_field2
            have tk3 := tok_field3
            go_wp2_with fail
            refine (CT _ (NowQ.pin (NowQ.to HNr.out [] Keeps.au (fun b hb => absurd hb List.not_mem_nil) (fun q _ b hb => absurd hb List.not_mem_nil)))).out.mono ?_
            rintro e w2 ⟨rfl, hP, hK⟩
            have hz_w2 := hK.size
            try simp only [World.size_alloc, World.size_setCell, World.size_drew, World.heap_drewN] at hz_w2
            have HN2 := Lib.hid (NowQ.call (NowQ.to HNr.out [] Keeps.au (fun b hb => absurd hb List.not_mem_nil) (fun q _ b hb => absurd hb List.not_mem_nil)) hP hK)
            clear hP hK
            go_wp2_with fail
            refine (CF _ (NowQ.pin (NowQ.to HN2.out [] Keeps.au (fun b hb => absurd hb List.not_mem_nil) (fun q _ b hb => absurd hb List.not_mem_nil)))).out.mono ?_
            rintro e w6 ⟨rfl, hP, hK⟩
            have hz_w6 := hK.size
            try simp only [World.size_alloc, World.size_setCell, World.size_drew, World.heap_drewN] at hz_w6
            have O_w6_0 : OwnB w6 (w2.heap.size) #[.int .i64 (T).kind, .string ⟨(T).text.toArray⟩, .int .i64 (T).n, .int .i64 (T).pos] 60 := OwnB.call OwnB.au hK (by simp only [List.mem_singleton]; omega)
            obtain ⟨y_w6_0, x_w6_0, b_w6_0⟩ := O_w6_0.facts
            have HN6 := Lib.hid (NowQ.call (NowQ.to HN2.out [] Keeps.au (fun b hb => absurd hb List.not_mem_nil) (fun q _ b hb => absurd hb List.not_mem_nil)) hP hK)
            clear hP hK
            go_wp2_with fail
            refine (CV _ (NowQ.pin (NowQ.to HN6.out [] Keeps.au (fun b hb => absurd hb List.not_mem_nil) (fun q _ b hb => absurd hb List.not_mem_nil)))).out.mono ?_
            rintro e w8 ⟨rfl, hP, hK⟩
            have hz_w8 := hK.size
            try simp only [World.size_alloc, World.size_setCell, World.size_drew, World.heap_drewN] at hz_w8
            have O_w8_0 : OwnB w8 (w2.heap.size) #[.int .i64 (T).kind, .string ⟨(T).text.toArray⟩, .int .i64 (T).n, .int .i64 (T).pos] 60 := OwnB.call OwnB.au hK (by simp only [List.mem_singleton]; omega)
            obtain ⟨y_w8_0, x_w8_0, b_w8_0⟩ := O_w8_0.facts
            have HN8 := Lib.hid (NowQ.call (NowQ.to HN6.out [] Keeps.au (fun b hb => absurd hb List.not_mem_nil) (fun q _ b hb => absurd hb List.not_mem_nil)) hP hK)
            clear hP hK
            go_wp2_with (at_builtin; refine wpList_appendI (acc := acc) (v := B.1) rfl _ _ rfl rfl rfl (NowQ.to HN8.out [] Keeps.au (fun b hb => absurd hb List.not_mem_nil) (fun q _ b hb => absurd hb List.not_mem_nil)) OwnB.au (by (try simp only [World.size_alloc]); omega) (by omega) (fun q hq => absurd hq List.not_mem_nil) [] (fun x hx => absurd hx List.not_mem_nil) ?_; intro g cap' w4 hN4 hk4 hz4; have HN4 := Lib.hid hN4; clear hN4 hk4)
            refine (CA _ (NowQ.pin (NowQ.to HN4.out [] Keeps.au (fun b hb => absurd hb List.not_mem_nil) (fun q _ b hb => absurd hb List.not_mem_nil)))).out.mono ?_
            rintro e w5 ⟨rfl, hP, hK⟩
            have hz_w5 := hK.size
            try simp only [World.size_alloc, World.size_setCell, World.size_drew, World.heap_drewN] at hz_w5
            have HN5 := Lib.hid (NowQ.call (NowQ.to HN4.out [] Keeps.au (fun b hb => absurd hb List.not_mem_nil) (fun q _ b hb => absurd hb List.not_mem_nil)) hP hK)
            clear hP hK
            go_wp2_with fail
            go_roundg k
            case measure => omega
            case rel =>
              refine ⟨P.is c.l [44] B.2, acc ++ [B.1], _, _, _, P.acc c.l [44] B.2, _, rfl, rfl, HN5.out, ?_, by rw [List.length_append]; simp; omega, ?_⟩
              · intro hi
                have := HR.out
                rw [hi, if_pos rfl] at this
                rw [show P.acc c.l [44] B.2 = P.next c.l B.2 by simp [P.acc, hi]]
                exact this
              · intro hi
                have := HR.out
                rw [hi, if_neg (by simp)] at this
                rw [show P.acc c.l [44] B.2 = B.2 by simp [P.acc, hi]]
                exact (Option.some.inj this).symm
          · have hd2 : (T.kind == 2) = false := by simp [hc2]
            cases hc3 : P.is c.l [45] s0 with
            | true =>
              rw [if_pos (show (acc.length : Int) = n ∧ (T.kind = 2 ∨ P.is c.l [45] s0 = true) from ⟨hc1, .inr hc3⟩)] at hb
              rw [hc3] at CI
              obtain ⟨sF, hsF⟩ : ∃ sF, sF = P.fail c.l 10 T.pos s0 := ⟨_, rfl⟩
              rw [← hsF] at hb
              have CF := fun W H => Lib.hid (fail_any c hc s0 W H 10 T.pos)
              rw [← hsF] at CF
              obtain ⟨B, hB⟩ : ∃ B, B = P.value c.l sF := ⟨_, rfl⟩
              rw [← hB] at hb
              have CV := fun W H => Lib.hid (value_any c hc sF W H)
              rw [← hB] at CV
              have CA := fun W H => Lib.hid (accept_any c hc B.2 W H [44])
              have HR := Lib.hid hb
              clear hb hB hT hc1 hc2 hsF hc3
              have tk0 := tok_field0
              have tk1 := tok_field1
              have tk2 := tok_field2
              have tk3 := tok_field3
              go_wp2_with fail
              refine (CT _ (NowQ.pin (NowQ.to HNr.out [] Keeps.au (fun b hb => absurd hb List.not_mem_nil) (fun q _ b hb => absurd hb List.not_mem_nil)))).out.mono ?_
              rintro e w2 ⟨rfl, hP, hK⟩
              have hz_w2 := hK.size
              try simp only [World.size_alloc, World.size_setCell, World.size_drew, World.heap_drewN] at hz_w2
              have HN2 := Lib.hid (NowQ.call (NowQ.to HNr.out [] Keeps.au (fun b hb => absurd hb List.not_mem_nil) (fun q _ b hb => absurd hb List.not_mem_nil)) hP hK)
              clear hP hK
              go_wp2_with fail
              refine (CI _ (NowQ.pin (NowQ.to HN2.out [] Keeps.au (fun b hb => absurd hb List.not_mem_nil) (fun q _ b hb => absurd hb List.not_mem_nil)))).out.mono ?_
              rintro e w3 ⟨rfl, hP, hK⟩
              have hz_w3 := hK.size
              try simp only [World.size_alloc, World.size_setCell, World.size_drew, World.heap_drewN] at hz_w3
              have O_w3_0 : OwnB w3 (w2.heap.size) #[.int .i64 (T).kind, .string ⟨(T).text.toArray⟩, .int .i64 (T).n, .int .i64 (T).pos] 60 := OwnB.call OwnB.au hK (by simp only [List.mem_singleton]; omega)
              obtain ⟨y_w3_0, x_w3_0, b_w3_0⟩ := O_w3_0.facts
              have HN3 := Lib.hid (NowQ.call (NowQ.to HN2.out [] Keeps.au (fun b hb => absurd hb List.not_mem_nil) (fun q _ b hb => absurd hb List.not_mem_nil)) hP hK)
              clear hP hK
              go_wp2_with fail
              refine (CF _ (NowQ.pin (NowQ.to HN3.out [] Keeps.au (fun b hb => absurd hb List.not_mem_nil) (fun q _ b hb => absurd hb List.not_mem_nil)))).out.mono ?_
              rintro e w6 ⟨rfl, hP, hK⟩
              have hz_w6 := hK.size
              try simp only [World.size_alloc, World.size_setCell, World.size_drew, World.heap_drewN] at hz_w6
              have O_w6_0 : OwnB w6 (w2.heap.size) #[.int .i64 (T).kind, .string ⟨(T).text.toArray⟩, .int .i64 (T).n, .int .i64 (T).pos] 60 := OwnB.call OwnB.au hK (by simp only [List.mem_singleton]; omega)
              obtain ⟨y_w6_0, x_w6_0, b_w6_0⟩ := O_w6_0.facts
              have HN6 := Lib.hid (NowQ.call (NowQ.to HN3.out [] Keeps.au (fun b hb => absurd hb List.not_mem_nil) (fun q _ b hb => absurd hb List.not_mem_nil)) hP hK)
              clear hP hK
              go_wp2_with fail
              refine (CV _ (NowQ.pin (NowQ.to HN6.out [] Keeps.au (fun b hb => absurd hb List.not_mem_nil) (fun q _ b hb => absurd hb List.not_mem_nil)))).out.mono ?_
              rintro e w8 ⟨rfl, hP, hK⟩
              have hz_w8 := hK.size
              try simp only [World.size_alloc, World.size_setCell, World.size_drew, World.heap_drewN] at hz_w8
              have O_w8_0 : OwnB w8 (w2.heap.size) #[.int .i64 (T).kind, .string ⟨(T).text.toArray⟩, .int .i64 (T).n, .int .i64 (T).pos] 60 := OwnB.call OwnB.au hK (by simp only [List.mem_singleton]; omega)
              obtain ⟨y_w8_0, x_w8_0, b_w8_0⟩ := O_w8_0.facts
              have HN8 := Lib.hid (NowQ.call (NowQ.to HN6.out [] Keeps.au (fun b hb => absurd hb List.not_mem_nil) (fun q _ b hb => absurd hb List.not_mem_nil)) hP hK)
              clear hP hK
              go_wp2_with (at_builtin; refine wpList_appendI (acc := acc) (v := B.1) rfl _ _ rfl rfl rfl (NowQ.to HN8.out [] Keeps.au (fun b hb => absurd hb List.not_mem_nil) (fun q _ b hb => absurd hb List.not_mem_nil)) OwnB.au (by (try simp only [World.size_alloc]); omega) (by omega) (fun q hq => absurd hq List.not_mem_nil) [] (fun x hx => absurd hx List.not_mem_nil) ?_; intro g cap' w4 hN4 hk4 hz4; have HN4 := Lib.hid hN4; clear hN4 hk4)
              refine (CA _ (NowQ.pin (NowQ.to HN4.out [] Keeps.au (fun b hb => absurd hb List.not_mem_nil) (fun q _ b hb => absurd hb List.not_mem_nil)))).out.mono ?_
              rintro e w5 ⟨rfl, hP, hK⟩
              have hz_w5 := hK.size
              try simp only [World.size_alloc, World.size_setCell, World.size_drew, World.heap_drewN] at hz_w5
              have HN5 := Lib.hid (NowQ.call (NowQ.to HN4.out [] Keeps.au (fun b hb => absurd hb List.not_mem_nil) (fun q _ b hb => absurd hb List.not_mem_nil)) hP hK)
              clear hP hK
              go_wp2_with fail
              go_roundg k
              case measure => omega
              case rel =>
                refine ⟨P.is c.l [44] B.2, acc ++ [B.1], _, _, _, P.acc c.l [44] B.2, _, rfl, rfl, HN5.out, ?_, by rw [List.length_append]; simp; omega, ?_⟩
                · intro hi
                  have := HR.out
                  rw [hi, if_pos rfl] at this
                  rw [show P.acc c.l [44] B.2 = P.next c.l B.2 by simp [P.acc, hi]]
                  exact this
                · intro hi
                  have := HR.out
                  rw [hi, if_neg (by simp)] at this
                  rw [show P.acc c.l [44] B.2 = B.2 by simp [P.acc, hi]]
                  exact (Option.some.inj this).symm
            | false =>
              rw [if_neg (show ¬ ((acc.length : Int) = n ∧ (T.kind = 2 ∨ P.is c.l [45] s0 = true)) by rintro ⟨_, h | h⟩; exact hc2 h; rw [hc3] at h; cases h)] at hb
              rw [hc3] at CI
              obtain ⟨B, hB⟩ : ∃ B, B = P.value c.l s0 := ⟨_, rfl⟩
              rw [← hB] at hb
              have CV := fun W H => Lib.hid (value_any c hc s0 W H)
              rw [← hB] at CV
              have CA := fun W H => Lib.hid (accept_any c hc B.2 W H [44])
              have HR := Lib.hid hb
              clear hb hB hT hc1 hc2 hc3
              have tk0 := tok_field0
              have tk1 := tok_field1
              have tk2 := tok_field2
              have tk3 := tok_field3
              go_wp2_with fail
              refine (CT _ (NowQ.pin (NowQ.to HNr.out [] Keeps.au (fun b hb => absurd hb List.not_mem_nil) (fun q _ b hb => absurd hb List.not_mem_nil)))).out.mono ?_
              rintro e w2 ⟨rfl, hP, hK⟩
              have hz_w2 := hK.size
              try simp only [World.size_alloc, World.size_setCell, World.size_drew, World.heap_drewN] at hz_w2
              have HN2 := Lib.hid (NowQ.call (NowQ.to HNr.out [] Keeps.au (fun b hb => absurd hb List.not_mem_nil) (fun q _ b hb => absurd hb List.not_mem_nil)) hP hK)
              clear hP hK
              go_wp2_with fail
              refine (CI _ (NowQ.pin (NowQ.to HN2.out [] Keeps.au (fun b hb => absurd hb List.not_mem_nil) (fun q _ b hb => absurd hb List.not_mem_nil)))).out.mono ?_
              rintro e w3 ⟨rfl, hP, hK⟩
              have hz_w3 := hK.size
              try simp only [World.size_alloc, World.size_setCell, World.size_drew, World.heap_drewN] at hz_w3
              have O_w3_0 : OwnB w3 (w2.heap.size) #[.int .i64 (T).kind, .string ⟨(T).text.toArray⟩, .int .i64 (T).n, .int .i64 (T).pos] 60 := OwnB.call OwnB.au hK (by simp only [List.mem_singleton]; omega)
              obtain ⟨y_w3_0, x_w3_0, b_w3_0⟩ := O_w3_0.facts
              have HN3 := Lib.hid (NowQ.call (NowQ.to HN2.out [] Keeps.au (fun b hb => absurd hb List.not_mem_nil) (fun q _ b hb => absurd hb List.not_mem_nil)) hP hK)
              clear hP hK
              go_wp2_with fail
              refine (CV _ (NowQ.pin (NowQ.to HN3.out [] Keeps.au (fun b hb => absurd hb List.not_mem_nil) (fun q _ b hb => absurd hb List.not_mem_nil)))).out.mono ?_
              rintro e w8 ⟨rfl, hP, hK⟩
              have hz_w8 := hK.size
              try simp only [World.size_alloc, World.size_setCell, World.size_drew, World.heap_drewN] at hz_w8
              have O_w8_0 : OwnB w8 (w2.heap.size) #[.int .i64 (T).kind, .string ⟨(T).text.toArray⟩, .int .i64 (T).n, .int .i64 (T).pos] 60 := OwnB.call OwnB.au hK (by simp only [List.mem_singleton]; omega)
              obtain ⟨y_w8_0, x_w8_0, b_w8_0⟩ := O_w8_0.facts
              have HN8 := Lib.hid (NowQ.call (NowQ.to HN3.out [] Keeps.au (fun b hb => absurd hb List.not_mem_nil) (fun q _ b hb => absurd hb List.not_mem_nil)) hP hK)
              clear hP hK
              go_wp2_with (at_builtin; refine wpList_appendI (acc := acc) (v := B.1) rfl _ _ rfl rfl rfl (NowQ.to HN8.out [] Keeps.au (fun b hb => absurd hb List.not_mem_nil) (fun q _ b hb => absurd hb List.not_mem_nil)) OwnB.au (by (try simp only [World.size_alloc]); omega) (by omega) (fun q hq => absurd hq List.not_mem_nil) [] (fun x hx => absurd hx List.not_mem_nil) ?_; intro g cap' w4 hN4 hk4 hz4; have HN4 := Lib.hid hN4; clear hN4 hk4)
              refine (CA _ (NowQ.pin (NowQ.to HN4.out [] Keeps.au (fun b hb => absurd hb List.not_mem_nil) (fun q _ b hb => absurd hb List.not_mem_nil)))).out.mono ?_
              rintro e w5 ⟨rfl, hP, hK⟩
              have hz_w5 := hK.size
              try simp only [World.size_alloc, World.size_setCell, World.size_drew, World.heap_drewN] at hz_w5
              have HN5 := Lib.hid (NowQ.call (NowQ.to HN4.out [] Keeps.au (fun b hb => absurd hb List.not_mem_nil) (fun q _ b hb => absurd hb List.not_mem_nil)) hP hK)
              clear hP hK
              go_wp2_with fail
              go_roundg k
              case measure => omega
              case rel =>
                refine ⟨P.is c.l [44] B.2, acc ++ [B.1], _, _, _, P.acc c.l [44] B.2, _, rfl, rfl, HN5.out, ?_, by rw [List.length_append]; simp; omega, ?_⟩
                · intro hi
                  have := HR.out
                  rw [hi, if_pos rfl] at this
                  rw [show P.acc c.l [44] B.2 = P.next c.l B.2 by simp [P.acc, hi]]
                  exact this
                · intro hi
                  have := HR.out
                  rw [hi, if_neg (by simp)] at this
                  rw [show P.acc c.l [44] B.2 = B.2 by simp [P.acc, hi]]
                  exact (Option.some.inj this).symm
        · have hd1 : ((acc.length : Int) == n) = false := by simp [hc1]
          rw [if_neg (show ¬ ((acc.length : Int) = n ∧ (T.kind = 2 ∨ P.is c.l [45] s0 = true)) from fun hh => hc1 hh.1)] at hb
          obtain ⟨B, hB⟩ : ∃ B, B = P.value c.l s0 := ⟨_, rfl⟩
          rw [← hB] at hb
          have CV := fun W H => Lib.hid (value_any c hc s0 W H)
          rw [← hB] at CV
          have CA := fun W H => Lib.hid (accept_any c hc B.2 W H [44])
          have HR := Lib.hid hb
          clear hb hB hT hc1
          have tk0 := tok_field0
          have tk1 := tok_field1
          have tk2 := tok_field2
          have tk3 := tok_field3
          go_wp2_with fail
          refine (CT _ (NowQ.pin (NowQ.to HNr.out [] Keeps.au (fun b hb => absurd hb List.not_mem_nil) (fun q _ b hb => absurd hb List.not_mem_nil)))).out.mono ?_
          rintro e w2 ⟨rfl, hP, hK⟩
          have hz_w2 := hK.size
          try simp only [World.size_alloc, World.size_setCell, World.size_drew, World.heap_drewN] at hz_w2
          have HN2 := Lib.hid (NowQ.call (NowQ.to HNr.out [] Keeps.au (fun b hb => absurd hb List.not_mem_nil) (fun q _ b hb => absurd hb List.not_mem_nil)) hP hK)
          clear hP hK
          go_wp2_with fail
          refine (CV _ (NowQ.pin (NowQ.to HN2.out [] Keeps.au (fun b hb => absurd hb List.not_mem_nil) (fun q _ b hb => absurd hb List.not_mem_nil)))).out.mono ?_
          rintro e w8 ⟨rfl, hP, hK⟩
          have hz_w8 := hK.size
          try simp only [World.size_alloc, World.size_setCell, World.size_drew, World.heap_drewN] at hz_w8
          have O_w8_0 : OwnB w8 (w2.heap.size) #[.int .i64 (T).kind, .string ⟨(T).text.toArray⟩, .int .i64 (T).n, .int .i64 (T).pos] 60 := OwnB.call OwnB.au hK (by simp only [List.mem_singleton]; omega)
          obtain ⟨y_w8_0, x_w8_0, b_w8_0⟩ := O_w8_0.facts
          have HN8 := Lib.hid (NowQ.call (NowQ.to HN2.out [] Keeps.au (fun b hb => absurd hb List.not_mem_nil) (fun q _ b hb => absurd hb List.not_mem_nil)) hP hK)
          clear hP hK
          go_wp2_with (at_builtin; refine wpList_appendI (acc := acc) (v := B.1) rfl _ _ rfl rfl rfl (NowQ.to HN8.out [] Keeps.au (fun b hb => absurd hb List.not_mem_nil) (fun q _ b hb => absurd hb List.not_mem_nil)) OwnB.au (by (try simp only [World.size_alloc]); omega) (by omega) (fun q hq => absurd hq List.not_mem_nil) [] (fun x hx => absurd hx List.not_mem_nil) ?_; intro g cap' w4 hN4 hk4 hz4; have HN4 := Lib.hid hN4; clear hN4 hk4)
          refine (CA _ (NowQ.pin (NowQ.to HN4.out [] Keeps.au (fun b hb => absurd hb List.not_mem_nil) (fun q _ b hb => absurd hb List.not_mem_nil)))).out.mono ?_
          rintro e w5 ⟨rfl, hP, hK⟩
          have hz_w5 := hK.size
          try simp only [World.size_alloc, World.size_setCell, World.size_drew, World.heap_drewN] at hz_w5
          have HN5 := Lib.hid (NowQ.call (NowQ.to HN4.out [] Keeps.au (fun b hb => absurd hb List.not_mem_nil) (fun q _ b hb => absurd hb List.not_mem_nil)) hP hK)
          clear hP hK
          go_wp2_with fail
          go_roundg k
          case measure => omega
          case rel =>
            refine ⟨P.is c.l [44] B.2, acc ++ [B.1], _, _, _, P.acc c.l [44] B.2, _, rfl, rfl, HN5.out, ?_, by rw [List.length_append]; simp; omega, ?_⟩
            · intro hi
              have := HR.out
              rw [hi, if_pos rfl] at this
              rw [show P.acc c.l [44] B.2 = P.next c.l B.2 by simp [P.acc, hi]]
              exact this
            · intro hi
              have := HR.out
              rw [hi, if_neg (by simp)] at this
              rw [show P.acc c.l [44] B.2 = B.2 by simp [P.acc, hi]]
              exact (Option.some.inj this).symm
end Go.Proofs.YtjmemapkipkocaaDoor

/-
  Globals.
-/
namespace Go.Proofs.YtjmemapkipkocaaDoor
open Go.RowKit Go.Maps
set_option linter.unusedVariables false
set_option linter.unusedSimpArgs false
set_option maxRecDepth 100000
set_option maxHeartbeats 1000000

/-- What a call does that returns a declaration. -/
def DoesG (c : Cx) (R : Dec × St) (w : World) (e : Ending) (w' : World) : Prop :=
  ∃ a n cp, e = .returned (.agg #[.string ⟨R.1.nm.toArray⟩, .int .i64 R.1.ty.kind, .int .i64 R.1.ty.ptr, .int .i64 R.1.ty.len, .slice a n cp, .int .i64 R.1.pos]) ∧ PIn w' c R.2 ∧ Keeps [c.g] w w' ∧
    RIn (fun w F => RowI w R.1.init (.slice a n cp) F) w' w.heap.size w'.heap.size []
theorem global_step (c : Cx) (hc : c.Ok) (f : Nat) (hf : f ≤ 1000000000) (ret : Ty) (name : Tok) (s : St) (R : Dec × St) (w : World) (hR : P.global c.l f ret name s = some R) (h : PIn w c s) :
    Calls Tryd.prog 42 #[pv c, (.agg #[.int .i64 (ret).kind, .int .i64 (ret).ptr, .int .i64 (ret).len]), (.agg #[.int .i64 (name).kind, .string ⟨(name).text.toArray⟩, .int .i64 (name).n, .int .i64 (name).pos])] w (DoesG c R w) := by
  have HN := Lib.hid (NowQ.start h)
  have hg := HN.out.now.g
  have hgt := HN.out.now.gt
  obtain ⟨G, hG⟩ : ∃ G, G = P.length c.l s := ⟨_, rfl⟩
  have CG := fun W H => Lib.hid (length_any c hc s W H)
  rw [← hG] at CG
  have CA := fun W H => Lib.hid (accept_any c hc G.2 W H [61])
  simp only [P.global, ← hG] at hR
  cases ka : P.is c.l [61] G.2 with
  | true =>
    rw [ka, if_pos rfl] at hR
    rw [ka, show P.acc c.l [61] G.2 = P.next c.l G.2 by simp [P.acc, ka]] at CA
    obtain ⟨A, hA, hR⟩ := Option.bind_eq_some_iff.1 hR
    obtain rfl := Option.some.inj hR
    have CI := fun W H => Lib.hid (initial_step c hc f hf G.1 (P.next c.l G.2) A W hA H)
    have CN := fun W H => Lib.hid (need_any c hc A.2 W H [59])
    clear h hR hA hG ka
    unfold pv
    go_enter Tryd.func42, Tryd.ntmps42
    go_wp2_with fail
    refine (CG _ (NowQ.pin (NowQ.to HN.out [w.heap.size, w.heap.size+1, w.heap.size+2, w.heap.size+3] Keeps.au (by simp <;> omega) (by simp [kq, mq, dq, iq] <;> omega)))).out.mono ?_
    rintro e w1 ⟨rfl, hP, hK⟩
    have hz_w1 := hK.size
    try simp only [World.size_alloc, World.size_setCell, World.size_drew, World.heap_drewN] at hz_w1
    have O_w1_0 : OwnB w1 (w.heap.size) #[.int .i64 ret.kind, .int .i64 ret.ptr, .int .i64 ret.len] 47 := OwnB.call OwnB.au hK (by simp only [List.mem_singleton]; omega)
    obtain ⟨y_w1_0, x_w1_0, b_w1_0⟩ := O_w1_0.facts
    have O_w1_1 : OwnB w1 (w.heap.size+1) #[.int .i64 (name).kind, .string ⟨(name).text.toArray⟩, .int .i64 (name).n, .int .i64 (name).pos] 60 := OwnB.call OwnB.au hK (by simp only [List.mem_singleton]; omega)
    obtain ⟨y_w1_1, x_w1_1, b_w1_1⟩ := O_w1_1.facts
    have O_w1_2 : OwnB w1 (w.heap.size+2) #[.string ⟨#[]⟩, .int .i64 0, .int .i64 0, .int .i64 0, .slice none 0 0, .int .i64 0] 50 := OwnB.call OwnB.au hK (by simp only [List.mem_singleton]; omega)
    obtain ⟨y_w1_2, x_w1_2, b_w1_2⟩ := O_w1_2.facts
    have O_w1_3 : OwnB w1 (w.heap.size+3) #[.string ⟨name.text.toArray⟩, .int .i64 ret.kind, .int .i64 ret.ptr, .int .i64 ret.len, .slice none 0 0, .int .i64 name.pos] 50 := OwnB.call OwnB.au hK (by simp only [List.mem_singleton]; omega)
    obtain ⟨y_w1_3, x_w1_3, b_w1_3⟩ := O_w1_3.facts
    have HN1 := Lib.hid (NowQ.call (NowQ.to HN.out [w.heap.size, w.heap.size+1, w.heap.size+2, w.heap.size+3] Keeps.au (by simp <;> omega) (by simp [kq, mq, dq, iq] <;> omega)) hP hK)
    clear hP hK
    go_wp2_with fail
    refine (CA _ (NowQ.pin (NowQ.to HN1.out [w.heap.size+2, w.heap.size+3] Keeps.au (by simp <;> omega) (by simp [kq, mq, dq, iq] <;> omega)))).out.mono ?_
    rintro e w2 ⟨rfl, hP, hK⟩
    have hz_w2 := hK.size
    try simp only [World.size_alloc, World.size_setCell, World.size_drew, World.heap_drewN] at hz_w2
    have O_w2_0 : OwnB w2 (w.heap.size+2) #[.string ⟨#[]⟩, .int .i64 0, .int .i64 0, .int .i64 0, .slice none 0 0, .int .i64 0] 50 := OwnB.call OwnB.au hK (by simp only [List.mem_singleton]; omega)
    obtain ⟨y_w2_0, x_w2_0, b_w2_0⟩ := O_w2_0.facts
    have O_w2_1 : OwnB w2 (w.heap.size+3) #[.string ⟨name.text.toArray⟩, .int .i64 ret.kind, .int .i64 ret.ptr, .int .i64 G.1, .slice none 0 0, .int .i64 name.pos] 50 := OwnB.call (by repeat (first | with_reducible apply OwnB.s6_0 | with_reducible apply OwnB.s6_1 | with_reducible apply OwnB.s6_2 | with_reducible apply OwnB.s6_3 | with_reducible apply OwnB.s6_4 | with_reducible apply OwnB.s6_5 | with_reducible assumption | (with_reducible refine OwnB.new ?_; (first | with_reducible rfl | (simp only [World.size_alloc, World.size_setCell, World.size_drew, World.heap_drewN]; done) | (simp only [World.size_alloc, World.size_setCell, World.size_drew, World.heap_drewN]; omega))) | with_reducible refine OwnB.alloc ?_ _ | with_reducible refine OwnB.drew ?_ | with_reducible refine OwnB.drewN ?_ _ | with_reducible refine OwnB.setCell ?_ _ _ ?_ | (dsimp only; omega) | omega)) hK (by simp only [List.mem_singleton]; omega)
    obtain ⟨y_w2_1, x_w2_1, b_w2_1⟩ := O_w2_1.facts
    have HN2 := Lib.hid (NowQ.call (NowQ.to HN1.out [w.heap.size+2, w.heap.size+3] Keeps.au (by simp <;> omega) (by simp [kq, mq, dq, iq] <;> omega)) hP hK)
    clear hP hK
    go_wp2_with fail
    refine (CI _ (NowQ.pin (NowQ.to HN2.out [w.heap.size+2, w.heap.size+3] Keeps.au (by simp <;> omega) (by simp [kq, mq, dq, iq] <;> omega)))).out.mono ?_
    rintro e w3 ⟨a1, n1, p1, rfl, hP, hK, hT⟩
    have hz_w3 := hK.size
    have O1 : OwnB w3 (w.heap.size+2) #[.string ⟨#[]⟩, .int .i64 0, .int .i64 0, .int .i64 0, .slice none 0 0, .int .i64 0] 50 := OwnB.call OwnB.au hK (by simp only [List.mem_singleton]; omega)
    have O2 : OwnB w3 (w.heap.size+3) #[.string ⟨name.text.toArray⟩, .int .i64 ret.kind, .int .i64 ret.ptr, .int .i64 G.1, .slice none 0 0, .int .i64 name.pos] 50 := OwnB.call OwnB.au hK (by simp only [List.mem_singleton]; omega)
    obtain ⟨y1, z1, b1⟩ := O1.facts
    obtain ⟨y2, z2, b2⟩ := O2.facts
    have HN3 := Lib.hid (NowQ.callT (NowQ.to HN2.out [w.heap.size+2, w.heap.size+3] Keeps.au (by simp <;> omega) (by simp [kq, mq, dq, iq] <;> omega)) (iq w2.heap.size w3.heap.size [] A.1 (.slice a1 n1 p1)) hP hK hT (Nat.le_refl _) (Nat.le_refl _))
    clear hP hK hT
    go_wp2_with fail
    refine (CN _ (NowQ.pin (NowQ.to HN3.out [w.heap.size+2, w.heap.size+3] Keeps.au (by simp <;> omega) (by simp [kq, mq, dq, iq] <;> omega)))).out.mono ?_
    rintro e w4 ⟨rfl, hP, hK⟩
    have hz_w4 := hK.size
    try simp only [World.size_alloc, World.size_setCell, World.size_drew, World.heap_drewN] at hz_w4
    have O_w4_0 : OwnB w4 (w.heap.size+2) #[.string ⟨#[]⟩, .int .i64 0, .int .i64 0, .int .i64 0, .slice none 0 0, .int .i64 0] 50 := OwnB.call OwnB.au hK (by simp only [List.mem_singleton]; omega)
    obtain ⟨y_w4_0, x_w4_0, b_w4_0⟩ := O_w4_0.facts
    have O_w4_1 : OwnB w4 (w.heap.size+3) #[.string ⟨name.text.toArray⟩, .int .i64 ret.kind, .int .i64 ret.ptr, .int .i64 G.1, .slice a1 n1 p1, .int .i64 name.pos] 50 := OwnB.call (by repeat (first | with_reducible apply OwnB.s6_0 | with_reducible apply OwnB.s6_1 | with_reducible apply OwnB.s6_2 | with_reducible apply OwnB.s6_3 | with_reducible apply OwnB.s6_4 | with_reducible apply OwnB.s6_5 | with_reducible assumption | (with_reducible refine OwnB.new ?_; (first | with_reducible rfl | (simp only [World.size_alloc, World.size_setCell, World.size_drew, World.heap_drewN]; done) | (simp only [World.size_alloc, World.size_setCell, World.size_drew, World.heap_drewN]; omega))) | with_reducible refine OwnB.alloc ?_ _ | with_reducible refine OwnB.drew ?_ | with_reducible refine OwnB.drewN ?_ _ | with_reducible refine OwnB.setCell ?_ _ _ ?_ | (dsimp only; omega) | omega)) hK (by simp only [List.mem_singleton]; omega)
    obtain ⟨y_w4_1, x_w4_1, b_w4_1⟩ := O_w4_1.facts
    have HN4 := Lib.hid (NowQ.call (NowQ.to HN3.out [w.heap.size+2, w.heap.size+3] Keeps.au (by simp <;> omega) (by simp [kq, mq, dq, iq] <;> omega)) hP hK)
    clear hP hK
    go_wp2_with fail
    refine bodyPost_ret (v := .agg #[.string ⟨name.text.toArray⟩, .int .i64 ret.kind, .int .i64 ret.ptr, .int .i64 G.1, .slice a1 n1 p1, .int .i64 name.pos]) (by simp [results, Tryd.results42, go_sem, *]) rfl ?_
    exact ⟨a1, n1, p1, rfl, NowQ.pin (NowQ.to HN4.out [w.heap.size+2, w.heap.size+3] Keeps.au (by simp <;> omega) (by simp [kq, mq, dq, iq] <;> omega)), ((NowQ.to HN4.out [w.heap.size+2, w.heap.size+3] Keeps.au (by simp <;> omega) (by simp [kq, mq, dq, iq] <;> omega)) : NowQ c w _ _ _).now.kp, RIn.wide (NowQ.q0 (NowQ.to HN4.out [w.heap.size+2, w.heap.size+3] Keeps.au (by simp <;> omega) (by simp [kq, mq, dq, iq] <;> omega))).2.2 (NowQ.q0 (NowQ.to HN4.out [w.heap.size+2, w.heap.size+3] Keeps.au (by simp <;> omega) (by simp [kq, mq, dq, iq] <;> omega))).1 (NowQ.q0 (NowQ.to HN4.out [w.heap.size+2, w.heap.size+3] Keeps.au (by simp <;> omega) (by simp [kq, mq, dq, iq] <;> omega))).2.1 (Nat.le_refl _)⟩
  | false =>
    rw [ka, if_neg (by simp)] at hR
    rw [ka, show P.acc c.l [61] G.2 = G.2 by simp [P.acc, ka]] at CA
    obtain rfl := Option.some.inj hR
    have CN := fun W H => Lib.hid (need_any c hc G.2 W H [59])
    clear h hR hG ka
    unfold pv
    go_enter Tryd.func42, Tryd.ntmps42
    go_wp2_with fail
    refine (CG _ (NowQ.pin (NowQ.to HN.out [w.heap.size, w.heap.size+1, w.heap.size+2, w.heap.size+3] Keeps.au (by simp <;> omega) (by simp [kq, mq, dq, iq] <;> omega)))).out.mono ?_
    rintro e w1 ⟨rfl, hP, hK⟩
    have hz_w1 := hK.size
    try simp only [World.size_alloc, World.size_setCell, World.size_drew, World.heap_drewN] at hz_w1
    have O_w1_0 : OwnB w1 (w.heap.size) #[.int .i64 ret.kind, .int .i64 ret.ptr, .int .i64 ret.len] 47 := OwnB.call OwnB.au hK (by simp only [List.mem_singleton]; omega)
    obtain ⟨y_w1_0, x_w1_0, b_w1_0⟩ := O_w1_0.facts
    have O_w1_1 : OwnB w1 (w.heap.size+1) #[.int .i64 (name).kind, .string ⟨(name).text.toArray⟩, .int .i64 (name).n, .int .i64 (name).pos] 60 := OwnB.call OwnB.au hK (by simp only [List.mem_singleton]; omega)
    obtain ⟨y_w1_1, x_w1_1, b_w1_1⟩ := O_w1_1.facts
    have O_w1_2 : OwnB w1 (w.heap.size+2) #[.string ⟨#[]⟩, .int .i64 0, .int .i64 0, .int .i64 0, .slice none 0 0, .int .i64 0] 50 := OwnB.call OwnB.au hK (by simp only [List.mem_singleton]; omega)
    obtain ⟨y_w1_2, x_w1_2, b_w1_2⟩ := O_w1_2.facts
    have O_w1_3 : OwnB w1 (w.heap.size+3) #[.string ⟨name.text.toArray⟩, .int .i64 ret.kind, .int .i64 ret.ptr, .int .i64 ret.len, .slice none 0 0, .int .i64 name.pos] 50 := OwnB.call OwnB.au hK (by simp only [List.mem_singleton]; omega)
    obtain ⟨y_w1_3, x_w1_3, b_w1_3⟩ := O_w1_3.facts
    have HN1 := Lib.hid (NowQ.call (NowQ.to HN.out [w.heap.size, w.heap.size+1, w.heap.size+2, w.heap.size+3] Keeps.au (by simp <;> omega) (by simp [kq, mq, dq, iq] <;> omega)) hP hK)
    clear hP hK
    go_wp2_with fail
    refine (CA _ (NowQ.pin (NowQ.to HN1.out [w.heap.size+2, w.heap.size+3] Keeps.au (by simp <;> omega) (by simp [kq, mq, dq, iq] <;> omega)))).out.mono ?_
    rintro e w2 ⟨rfl, hP, hK⟩
    have hz_w2 := hK.size
    try simp only [World.size_alloc, World.size_setCell, World.size_drew, World.heap_drewN] at hz_w2
    have O_w2_0 : OwnB w2 (w.heap.size+2) #[.string ⟨#[]⟩, .int .i64 0, .int .i64 0, .int .i64 0, .slice none 0 0, .int .i64 0] 50 := OwnB.call OwnB.au hK (by simp only [List.mem_singleton]; omega)
    obtain ⟨y_w2_0, x_w2_0, b_w2_0⟩ := O_w2_0.facts
    have O_w2_1 : OwnB w2 (w.heap.size+3) #[.string ⟨name.text.toArray⟩, .int .i64 ret.kind, .int .i64 ret.ptr, .int .i64 G.1, .slice none 0 0, .int .i64 name.pos] 50 := OwnB.call (by repeat (first | with_reducible apply OwnB.s6_0 | with_reducible apply OwnB.s6_1 | with_reducible apply OwnB.s6_2 | with_reducible apply OwnB.s6_3 | with_reducible apply OwnB.s6_4 | with_reducible apply OwnB.s6_5 | with_reducible assumption | (with_reducible refine OwnB.new ?_; (first | with_reducible rfl | (simp only [World.size_alloc, World.size_setCell, World.size_drew, World.heap_drewN]; done) | (simp only [World.size_alloc, World.size_setCell, World.size_drew, World.heap_drewN]; omega))) | with_reducible refine OwnB.alloc ?_ _ | with_reducible refine OwnB.drew ?_ | with_reducible refine OwnB.drewN ?_ _ | with_reducible refine OwnB.setCell ?_ _ _ ?_ | (dsimp only; omega) | omega)) hK (by simp only [List.mem_singleton]; omega)
    obtain ⟨y_w2_1, x_w2_1, b_w2_1⟩ := O_w2_1.facts
    have HN2 := Lib.hid (NowQ.call (NowQ.to HN1.out [w.heap.size+2, w.heap.size+3] Keeps.au (by simp <;> omega) (by simp [kq, mq, dq, iq] <;> omega)) hP hK)
    clear hP hK
    go_wp2_with fail
    refine (CN _ (NowQ.pin (NowQ.to HN2.out [w.heap.size+2, w.heap.size+3] Keeps.au (by simp <;> omega) (by simp [kq, mq, dq, iq] <;> omega)))).out.mono ?_
    rintro e w4 ⟨rfl, hP, hK⟩
    have hz_w4 := hK.size
    try simp only [World.size_alloc, World.size_setCell, World.size_drew, World.heap_drewN] at hz_w4
    have O_w4_0 : OwnB w4 (w.heap.size+2) #[.string ⟨#[]⟩, .int .i64 0, .int .i64 0, .int .i64 0, .slice none 0 0, .int .i64 0] 50 := OwnB.call OwnB.au hK (by simp only [List.mem_singleton]; omega)
    obtain ⟨y_w4_0, x_w4_0, b_w4_0⟩ := O_w4_0.facts
    have O_w4_1 : OwnB w4 (w.heap.size+3) #[.string ⟨name.text.toArray⟩, .int .i64 ret.kind, .int .i64 ret.ptr, .int .i64 G.1, .slice none 0 0, .int .i64 name.pos] 50 := OwnB.call OwnB.au hK (by simp only [List.mem_singleton]; omega)
    obtain ⟨y_w4_1, x_w4_1, b_w4_1⟩ := O_w4_1.facts
    have HN4 := Lib.hid (NowQ.call (NowQ.to HN2.out [w.heap.size+2, w.heap.size+3] Keeps.au (by simp <;> omega) (by simp [kq, mq, dq, iq] <;> omega)) hP hK)
    clear hP hK
    go_wp2_with fail
    refine bodyPost_ret (v := .agg #[.string ⟨name.text.toArray⟩, .int .i64 ret.kind, .int .i64 ret.ptr, .int .i64 G.1, .slice none 0 0, .int .i64 name.pos]) (by simp [results, Tryd.results42, go_sem, *]) rfl ?_
    exact ⟨none, 0, 0, rfl, NowQ.pin (NowQ.to HN4.out [w.heap.size+2, w.heap.size+3] Keeps.au (by simp <;> omega) (by simp [kq, mq, dq, iq] <;> omega)), ((NowQ.to HN4.out [w.heap.size+2, w.heap.size+3] Keeps.au (by simp <;> omega) (by simp [kq, mq, dq, iq] <;> omega)) : NowQ c w _ _ _).now.kp, ⟨Nat.le_refl _, [], RowI.nil, by simp, by simp⟩⟩
end Go.Proofs.YtjmemapkipkocaaDoor

/-
  Functions in memory; a whole program; 'append' in a region that draws.
-/
namespace Go.Proofs.YtjmemapkipkocaaDoor
open Go.RowKit Go.Maps
set_option linter.unusedVariables false
set_option linter.unusedSimpArgs false

def fnC (d : Fn) (pv bv : Value) : List Value := [.string ⟨d.nm.toArray⟩, .int .i64 d.ret.kind, .int .i64 d.ret.ptr, .int .i64 d.ret.len, pv, bv, .slice none 0 0, .int .i64 d.pos]
/-- Functions lie in these cells. -/
def FnsIn (w : World) : List Fn → List Value → List Nat → Prop
  | [], xs, F => xs = [] ∧ F = []
  | d :: r, xs, F => ∃ pv bv Fi xs' F', xs = fnC d pv bv ++ xs' ∧ F = Fi ++ F' ∧ RowF w d pv bv Fi ∧ FnsIn w r xs' F'
def RowFs (w : World) (ds : List Fn) (dv : Value) (F : List Nat) : Prop := ∃ ks F0, w.ownsRow 0 54 8 dv ds.length ks ∧ FnsIn w ds ks F0 ∧ F = ownF dv ++ F0
theorem RowFs.nil {w : World} : RowFs w [] (.slice none 0 0) [] := ⟨[], [], World.ownsRow_nil _ _ _ _, ⟨rfl, rfl⟩, rfl⟩
theorem RowF.at_ {w w' : World} {d : Fn} {pv bv : Value} {F : List Nat} (h : RowF w d pv bv F) (hb : ∀ b ∈ F, w'.heap[b]? = w.heap[b]?) : RowF w' d pv bv F := by
  obtain ⟨F1, F2, h1, h2, rfl⟩ := h
  exact ⟨F1, F2, h1.at_ (fun b hm => hb b (by simp [hm])), h2.at_ (fun b hm => hb b (by simp [hm])), rfl⟩
theorem FnsIn.at_ {w w' : World} : ∀ (r : List Fn) (xs : List Value) (F : List Nat), FnsIn w r xs F → (∀ b ∈ F, w'.heap[b]? = w.heap[b]?) → FnsIn w' r xs F := by
  intro r
  induction r with
  | nil => rintro xs F h _; exact h
  | cons d r ih =>
    rintro xs F ⟨pv, bv, Fi, xs', F', rfl, rfl, h1, h2⟩ hb
    exact ⟨pv, bv, Fi, xs', F', rfl, rfl, h1.at_ (fun b hm => hb b (by simp [hm])), ih _ _ h2 (fun b hm => hb b (by simp [hm]))⟩
theorem FnsIn.snoc {w : World} {d : Fn} {pv bv : Value} {Fi : List Nat} (h : RowF w d pv bv Fi) : ∀ (r : List Fn) (xs : List Value) (F : List Nat), FnsIn w r xs F → FnsIn w (r ++ [d]) (xs ++ fnC d pv bv) (F ++ Fi) := by
  intro r
  induction r with
  | nil =>
    rintro xs F ⟨rfl, rfl⟩
    exact ⟨pv, bv, Fi, [], [], by simp, by simp, h, rfl, rfl⟩
  | cons d2 r ih =>
    rintro xs F ⟨pv2, bv2, Fi2, xs', F', rfl, rfl, h1, h2⟩
    exact ⟨pv2, bv2, Fi2, xs' ++ fnC d pv bv, F' ++ Fi, by simp, by simp, h1, ih _ _ h2⟩
theorem RowFs.at_ {w w' : World} {ds : List Fn} {dv : Value} {F : List Nat} (h : RowFs w ds dv F) (hb : ∀ b ∈ F, w'.heap[b]? = w.heap[b]?) : RowFs w' ds dv F := by
  obtain ⟨ks, F0, h3, h4, rfl⟩ := h
  exact ⟨ks, F0, ownsRow_at h3 (fun b hm => hb b (by simp [hm])), FnsIn.at_ _ _ _ h4 (fun b hm => hb b (by simp [hm])), rfl⟩
theorem RowFs.len {w : World} {ds : List Fn} {a : Option Addr} {n cp : Nat} {F : List Nat} (h : RowFs w ds (.slice a n cp) F) : n = ds.length := by
  obtain ⟨ks, F0, h1, _, _⟩ := h
  exact ownsRow_n h1
/-- A program's blocks: new since lo, older than hi; no block twice. -/
structure UIn (w : World) (lo hi : Nat) (u : Un) (gv fv : Value) : Prop where
  hle : hi ≤ w.heap.size
  row : ∃ Fg Ff, RowD w u.globals gv Fg ∧ RowFs w u.funcs fv Ff ∧ (Fg ++ Ff).Nodup ∧ ∀ b ∈ Fg ++ Ff, lo ≤ b ∧ b < hi
theorem UIn.of_heap {w w' : World} {lo hi : Nat} {u : Un} {gv fv : Value} (h : UIn w lo hi u gv fv) (hs : w.heap.size ≤ w'.heap.size) (hb : ∀ b, lo ≤ b → b < hi → w'.heap[b]? = w.heap[b]?) : UIn w' lo hi u gv fv := by
  obtain ⟨h1, Fg, Ff, h2, h3, h4, h5⟩ := h
  exact ⟨Nat.le_trans h1 hs, Fg, Ff, h2.at_ (fun b hm => hb b (h5 b (by simp [hm])).1 (h5 b (by simp [hm])).2), h3.at_ (fun b hm => hb b (h5 b (by simp [hm])).1 (h5 b (by simp [hm])).2), h4, h5⟩
theorem UIn.nil {w : World} {lo hi : Nat} (h : hi ≤ w.heap.size) : UIn w lo hi un0 (.slice none 0 0) (.slice none 0 0) := ⟨h, [], [], RowD.nil, RowFs.nil, by simp, by simp⟩
theorem infoFn : (Tryd.prog.info? 54).map (fun i => (i.zero, i.size, i.bytes)) = some (some (.agg #[.string ⟨#[]⟩, .int .i64 0, .int .i64 0, .int .i64 0, .slice none 0 0, .slice none 0 0, .slice none 0 0, .int .i64 0]), 8, 120) := by kernel_rfl
/-- A row with one place more than what lies in it. -/
structure RowG (w : World) (T : TypeId) (sz : Nat) (In : World → List Value → List Nat → Prop) (zs : List Value) (n lo hi : Nat) (g cap : Nat) (ks : List Value) (F0 : List Nat) : Prop where
  own : w.ownsRow 0 T sz (.slice (some ⟨g, 0, none⟩) (n + 1) cap) (n + 1) (ks ++ zs)
  ins : In w ks F0
  nodup : F0.Nodup
  notin : g ∉ F0
  range : ∀ b ∈ F0, lo ≤ b ∧ b < hi
theorem step_appendG {ops : Array Oper} {o : Oper} {a : Act} {K : Act → World → Prop} {Q : Exit → Act → World → Prop} {E : Prop} {W : World} (hgd : o.guard = none) (sO xO : Operand) (ST T : TypeId) (zero : Value) (sz bytes : Nat) (zs : List Value)
    (In : World → List Value → List Nat → Prop) (hIn : ∀ w w' ks F, In w ks F → (∀ b ∈ F, w'.heap[b]? = w.heap[b]?) → In w' ks F)
    (hund : Tryd.prog.underlying ST = some (.slice T)) (hinfo : (Tryd.prog.info? T).map (fun i => (i.zero, i.size, i.bytes)) = some (some zero, sz, bytes)) (hzc : zero.cells.size = sz) (hzl : zs.length = sz) (h0 : 0 < sz) (hby : bytes ≤ 10000)
    (hone : ∀ u ∈ zs, u.oneCell' = true)
    (ho : o.op = .call { callee := .builtin .append, args := #[sO, xO], argTypes := #[ST, ST] })
    {lo hi n : Nat} {av : Option Addr} {cap gb cb : Nat} {ks : List Value} {F0 : List Nat} (hs : a.eval sO = .slice av n cap) (hx : a.eval xO = .slice (some ⟨gb, 0, none⟩) 1 cb)
    (hrow : W.ownsRow 0 T sz (.slice av n cap) n ks) (hin : In W ks F0) (hnd : (ownF (Value.slice av n cap) ++ F0).Nodup) (hF : ∀ b ∈ ownF (Value.slice av n cap) ++ F0, lo ≤ b ∧ b < hi) (hhi : hi ≤ W.heap.size)
    (hb : OwnB W gb zs.toArray T) (hlo : lo ≤ W.heap.size) (hlen : n ≤ 1000000)
    (hK : ∀ g cap' w', RowG w' T sz In zs n lo hi g cap' ks F0 → (g = W.heap.size ∨ g ∈ ownF (Value.slice av n cap)) → g < w'.heap.size → (∀ b, b < W.heap.size → b ∉ ownF (Value.slice av n cap) → w'.heap[b]? = W.heap[b]?) → W.heap.size ≤ w'.heap.size → (w'.os = W.os ∧ w'.tape = W.tape ∧ w'.output = W.output) →
      K (a.put o.dst (.slice (some ⟨g, 0, none⟩) (n + 1) cap')) w') :
    if Region.wanted o (yielded ops a.tmps) = true then Oper.wp Tryd.prog o a W K Q else E := by
  obtain ⟨i0, hinf, hz⟩ : ∃ i, Tryd.prog.info? T = some i ∧ (i.zero, i.size, i.bytes) = (some zero, sz, bytes) := by
    cases hq : Tryd.prog.info? T with
    | none => simp [hq] at hinfo
    | some i => exact ⟨i, rfl, by simpa [hq] using hinfo⟩
  simp only [Prod.mk.injEq] at hz
  obtain ⟨hz0, hz1, hz2⟩ := hz
  have hlob : ∀ b ∈ ownF (Value.slice av n cap), lo ≤ b := fun b hm => (hF b (by simp [hm])).1
  have hown := rebase hrow hlob
  refine step_append_lies W hgd sO xO ST ho lo T i0 zero sz bytes hund hinf hz0 hz1 hz2 hzc h0 _ n ks hs hown ⟨gb, 0, none⟩ 1 cb zs hx (by omega)
    (World.news_of_block hb.blk) hone (by decide) (by unfold maxLen; omega) ?_ hlo _ rfl ?_
  · have h1 : (n + 1) * bytes ≤ 1000001 * 10000 := Nat.mul_le_mul (by omega) hby
    omega
  · intro g cap' w' hown' hgr hg hgw
    have hkeep : ∀ b, b < W.heap.size → b ∉ ownF (Value.slice av n cap) → w'.heap[b]? = W.heap[b]? := by
      intro b hbs hm
      refine hgr.block b hbs ?_
      intro e
      exact hm (by rw [ownF, ← e]; simp)
    have hnd2 := List.nodup_append.1 hnd
    have hF0 : ∀ b ∈ F0, b < W.heap.size ∧ b ∉ ownF (Value.slice av n cap) := fun b hm => ⟨by have := (hF b (by simp [hm])).2; omega, fun h5 => hnd2.2.2 b h5 b hm rfl⟩
    have hgo : g = W.heap.size ∨ g ∈ ownF (Value.slice av n cap) := by
      rcases hg with hg | rfl
      · exact .inr (by rw [ownF, hg]; simp)
      · exact .inl rfl
    refine hK g cap' w' ⟨rebase hown' (fun b _ => Nat.zero_le _), hIn _ _ _ _ hin fun b hm => hkeep b (hF0 b hm).1 (hF0 b hm).2, hnd2.2.1, ?_, fun b hm => hF b (by simp [hm])⟩ hgo hgw hkeep hgr.size ⟨hgr.os, hgr.tape, hgr.output⟩
    intro hm
    rcases hgo with rfl | hg
    · have := (hF0 _ hm).1; omega
    · exact (hF0 g hm).2 hg
end Go.Proofs.YtjmemapkipkocaaDoor

/-
  A program that grows by a function, or by a global.
-/
namespace Go.Proofs.YtjmemapkipkocaaDoor
open Go.RowKit Go.Maps
set_option linter.unusedVariables false
set_option linter.unusedSimpArgs false

def fq (lo hi : Nat) (X : List Nat) (d : Fn) (pv bv : Value) : KQ := ⟨lo, hi, X, fun W => RIn (fun w F => RowF w d pv bv F) W lo hi X, fun _ _ hs hb h => h.of_heap (fun _ _ _ h hb => h.at_ hb) hs hb⟩
/-- What is known of a world in which a program has grown. -/
structure Grew (c : Cx) (q lo : Nat) (w W : World) (s : St) (u : Un) (qv : Array Value) (gv fv : Value) (w' : World) : Prop where
  pin : PIn w' c s
  own : OwnB w' q qv 27
  uin : UIn w' lo w'.heap.size u gv fv
  size : w.heap.size ≤ w'.heap.size
  os : w'.os = w.os ∧ w'.tape = w.tape ∧ w'.output = w.output
  old : ∀ b, b < lo → b ≠ c.g → w'.heap[b]? = w.heap[b]?
  new : ∀ b, w.heap.size ≤ b → b < W.heap.size → w'.heap[b]? = W.heap[b]?
/-- What a call does that adds to a program. -/
def DoesU (c : Cx) (q lo : Nat) (R : Un × St) (w : World) (e : Ending) (w' : World) : Prop :=
  ∃ ga gn gc fa fn fc, e = .returned (.tuple #[]) ∧ PIn w' c R.2 ∧ OwnB w' q #[.slice ga gn gc, .slice fa fn fc] 27 ∧ UIn w' lo w'.heap.size R.1 (.slice ga gn gc) (.slice fa fn fc) ∧
    w.heap.size ≤ w'.heap.size ∧ (w'.os = w.os ∧ w'.tape = w.tape ∧ w'.output = w.output) ∧ (∀ b, b < lo → b ≠ q → b ≠ c.g → w'.heap[b]? = w.heap[b]?)
theorem Grew.fin1 {c : Cx} {q lo : Nat} {w W w' : World} {s : St} {u : Un} {ga g : Option Addr} {gn gc n cp : Nat} {v1 : Value} (h : Grew c q lo w W s u #[.slice ga gn gc, v1] (.slice ga gn gc) (.slice g n cp) w')
    (hn : q ≠ c.g ∧ q ≠ c.gt ∧ q ≠ c.mb ∧ q ≠ 2) (hq : q < lo) : DoesU c q lo (u, s) w (.returned (.tuple #[])) (w'.setCell ⟨q, 1, none⟩ (.slice g n cp)) := by
  have hb : ∀ b, b ≠ q → (w'.setCell ⟨q, 1, none⟩ (.slice g n cp)).heap[b]? = w'.heap[b]? := fun b h1 => Below.heap_setCell _ _ _ _ h1
  have hz : (w'.setCell ⟨q, 1, none⟩ (.slice g n cp)).heap.size = w'.heap.size := World.size_setCell _ _ _
  refine ⟨ga, gn, gc, g, n, cp, rfl, h.pin.setCell _ _ hn.1 hn.2.1 hn.2.2.1 hn.2.2.2, h.own.set 1 _, ?_, by rw [hz]; exact h.size, h.os, fun b h1 h2 h3 => (hb b h2).trans (h.old b h1 h3)⟩
  rw [hz]
  exact h.uin.of_heap (by rw [hz]; exact Nat.le_refl _) (fun b h1 _ => hb b (by omega))
theorem Grew.fin0 {c : Cx} {q lo : Nat} {w W w' : World} {s : St} {u : Un} {ga g : Option Addr} {gn gc n cp : Nat} {v1 : Value} (h : Grew c q lo w W s u #[v1, .slice ga gn gc] (.slice g n cp) (.slice ga gn gc) w')
    (hn : q ≠ c.g ∧ q ≠ c.gt ∧ q ≠ c.mb ∧ q ≠ 2) (hq : q < lo) : DoesU c q lo (u, s) w (.returned (.tuple #[])) (w'.setCell ⟨q, 0, none⟩ (.slice g n cp)) := by
  have hb : ∀ b, b ≠ q → (w'.setCell ⟨q, 0, none⟩ (.slice g n cp)).heap[b]? = w'.heap[b]? := fun b h1 => Below.heap_setCell _ _ _ _ h1
  have hz : (w'.setCell ⟨q, 0, none⟩ (.slice g n cp)).heap.size = w'.heap.size := World.size_setCell _ _ _
  refine ⟨g, n, cp, ga, gn, gc, rfl, h.pin.setCell _ _ hn.1 hn.2.1 hn.2.2.1 hn.2.2.2, h.own.set 0 _, ?_, by rw [hz]; exact h.size, h.os, fun b h1 h2 h3 => (hb b h2).trans (h.old b h1 h3)⟩
  rw [hz]
  exact h.uin.of_heap (by rw [hz]; exact Nat.le_refl _) (fun b h1 _ => hb b (by omega))
theorem step_funcs {ops : Array Oper} {o : Oper} {a : Act} {K : Act → World → Prop} {Q : Exit → Act → World → Prop} {E : Prop} {w W : World} {c : Cx} {s : St} {q lo lo1 hi1 : Nat} {u : Un} {fn : Fn} {pv bv gv : Value} (hgd : o.guard = none) (sO xO : Operand)
    (ho : o.op = .call { callee := .builtin .append, args := #[sO, xO], argTypes := #[25, 25] })
    {fa : Option Addr} {n fc gb cb : Nat} (hs : a.eval sO = .slice fa n fc) (hx : a.eval xO = .slice (some ⟨gb, 0, none⟩) 1 cb)
    (hpv : pv.oneCell' = true) (hbv : bv.oneCell' = true)
    (hn : NowQ c w s [fq lo1 hi1 [] fn pv bv] W) (hU : UIn w lo w.heap.size u gv (.slice fa n fc)) (hb : OwnB W gb (fnC fn pv bv).toArray 54)
    {qv : Array Value} (hq : OwnB W q qv 27) (hlo : q < lo ∧ c.g < lo ∧ c.gt < lo ∧ c.mb < lo ∧ 2 < lo ∧ lo ≤ w.heap.size) (hlen : n ≤ 1000000)
    (hK : ∀ g cap' w', Grew c q lo w W s { u with funcs := u.funcs ++ [fn] } qv gv (.slice (some ⟨g, 0, none⟩) (n + 1) cap') w' → K (a.put o.dst (.slice (some ⟨g, 0, none⟩) (n + 1) cap')) w') :
    if Region.wanted o (yielded ops a.tmps) = true then Oper.wp Tryd.prog o a W K Q else E := by
  have hsW := hn.now.kp.size
  have hold : ∀ b, b < w.heap.size → b ≠ c.g → W.heap[b]? = w.heap[b]? := fun b h1 h2 => hn.now.kp.block b h1 (by simp [h2])
  have hUW : UIn W lo w.heap.size u gv (.slice fa n fc) := hU.of_heap hsW (fun b h1 h2 => hold b h2 (by omega))
  obtain ⟨h0, Fg, Ff, hD, hFs, hnd, hF⟩ := hUW
  obtain rfl := hFs.len
  obtain ⟨ks, F0, hrow, hin, rfl⟩ := hFs
  obtain ⟨p1, p2, p3⟩ := hn.q0
  have p1' : w.heap.size ≤ lo1 := p1
  have p2' : hi1 ≤ W.heap.size := p2
  obtain ⟨p4, Fi, hRi, hndi, hFi⟩ := p3
  have hnd1 := List.nodup_append.1 hnd
  refine step_appendG hgd sO xO 25 54 _ 8 120 (fnC fn pv bv) (fun w xs F => FnsIn w u.funcs xs F) (fun _ _ _ _ h hb => FnsIn.at_ _ _ _ h hb) Tryd.underlying25 infoFn rfl rfl (by decide) (by decide) ?_ ho (lo := lo) (hi := w.heap.size) hs hx hrow hin hnd1.2.1
    (fun b hm => hF b (List.mem_append_right _ hm)) hsW hb (by omega) (by omega) ?_
  · intro v hv
    simp only [fnC, List.mem_cons, List.not_mem_nil, or_false] at hv
    rcases hv with rfl | rfl | rfl | rfl | rfl | rfl | rfl | rfl <;> first | rfl | exact hpv | exact hbv
  · intro g cap' w' hZ hg hgw hk hz hot
    have hown : ∀ b, b < W.heap.size → b < lo ∨ w.heap.size ≤ b → w'.heap[b]? = W.heap[b]? := fun b h1 h2 => hk b h1 (fun hm => by
      have := hF b (by simp [hm]); omega)
    obtain ⟨cur, tb, ts, tt⟩ := hn.now.pin.tok
    have hFg : ∀ b ∈ Fg, w'.heap[b]? = W.heap[b]? := fun b hm => hk b (by have := hF b (by simp [hm]); omega) (fun h2 => hnd1.2.2 b hm b (by simp [h2]) rfl)
    have hFi' : ∀ b ∈ Fi, w'.heap[b]? = W.heap[b]? := fun b hm => hown b (by have := hFi b hm; omega) (.inr (by have := hFi b hm; omega))
    have hgr : lo ≤ g ∧ (w.heap.size ≤ g → g = W.heap.size) := by
      rcases hg with rfl | hg
      · exact ⟨by omega, fun _ => rfl⟩
      · have := hF g (by simp [hg]); exact ⟨this.1, fun h => by omega⟩
    have hgF : g ∉ Fg ∧ g ∉ F0 ∧ g ∉ Fi := by
      refine ⟨fun hm => ?_, hZ.notin, fun hm => ?_⟩
      · rcases hg with rfl | hg
        · have := hF _ (List.mem_append_left _ hm); omega
        · exact hnd1.2.2 g hm g (by simp [hg]) rfl
      · have h1 := hFi g hm
        have := hgr.2 (by omega); omega
    have hnd2 := List.nodup_append.1 hnd1.2.1
    refine hK g cap' w' ⟨⟨(hown _ (by omega) (.inl hlo.2.1)).trans hn.now.pin.blk, ⟨cur, (hown _ (by omega) (.inl hlo.2.2.1)).trans tb, ts, tt⟩, hn.now.pin.lt, (hown _ (by omega) (.inl hlo.2.2.2.1)).trans hn.now.pin.map, (hown _ (by omega) (.inl hlo.2.2.2.2.1)).trans hn.now.pin.siz⟩,
      ⟨(hown _ (by omega) (.inl hlo.1)).trans hq.blk⟩, ⟨Nat.le_refl _, Fg, g :: (F0 ++ Fi), hD.at_ hFg, ⟨ks ++ fnC fn pv bv, F0 ++ Fi, ?_, FnsIn.snoc (hRi.at_ hFi') _ _ _ hZ.ins, rfl⟩, ?_, ?_⟩, by omega, ⟨hot.1.trans hn.now.kp.os, hot.2.1.trans hn.now.kp.tape, hot.2.2.trans hn.now.kp.output⟩,
      fun b h1 h2 => (hown b (by omega) (.inl h1)).trans (hold b (by omega) h2), fun b h1 h2 => hown b h2 (.inr h1)⟩
    · simp only [List.length_append, List.length_cons, List.length_nil]
      exact hZ.own
    · refine List.nodup_append.2 ⟨hnd1.1, List.nodup_cons.2 ⟨?_, List.nodup_append.2 ⟨hnd2.2.1, hndi, fun x hx y hy => ?_⟩⟩, fun x hx y hy => ?_⟩
      · simp only [List.mem_append, not_or]; exact hgF.2
      · have := hZ.range x hx; have := hFi y hy; omega
      · have h1 := hF x (List.mem_append_left _ hx)
        rcases List.mem_cons.1 hy with rfl | hy
        · rintro rfl; exact hgF.1 hx
        · rcases List.mem_append.1 hy with hy | hy
          · exact hnd1.2.2 x hx y (by simp [hy])
          · have := hFi y hy; omega
    · intro b hm
      rcases List.mem_append.1 hm with hm | hm
      · have := hF b (by simp [hm]); exact ⟨this.1, by omega⟩
      · rcases List.mem_cons.1 hm with rfl | hm
        · exact ⟨hgr.1, hgw⟩
        · rcases List.mem_append.1 hm with hm | hm
          · have := hZ.range b hm; exact ⟨this.1, by omega⟩
          · have := hFi b hm; exact ⟨by omega, by omega⟩
theorem step_globals {ops : Array Oper} {o : Oper} {a : Act} {K : Act → World → Prop} {Q : Exit → Act → World → Prop} {E : Prop} {w W : World} {c : Cx} {s : St} {q lo lo1 hi1 : Nat} {u : Un} {fn : Dec} {iv fv : Value} (hgd : o.guard = none) (sO xO : Operand)
    (ho : o.op = .call { callee := .builtin .append, args := #[sO, xO], argTypes := #[24, 24] })
    {fa : Option Addr} {n fc gb cb : Nat} (hs : a.eval sO = .slice fa n fc) (hx : a.eval xO = .slice (some ⟨gb, 0, none⟩) 1 cb)
    (hpv : iv.oneCell' = true)
    (hn : NowQ c w s [iq lo1 hi1 [] fn.init iv] W) (hU : UIn w lo w.heap.size u (.slice fa n fc) fv) (hb : OwnB W gb (dcC fn iv).toArray 50)
    {qv : Array Value} (hq : OwnB W q qv 27) (hlo : q < lo ∧ c.g < lo ∧ c.gt < lo ∧ c.mb < lo ∧ 2 < lo ∧ lo ≤ w.heap.size) (hlen : n ≤ 1000000)
    (hK : ∀ g cap' w', Grew c q lo w W s { u with globals := u.globals ++ [fn] } qv (.slice (some ⟨g, 0, none⟩) (n + 1) cap') fv w' → K (a.put o.dst (.slice (some ⟨g, 0, none⟩) (n + 1) cap')) w') :
    if Region.wanted o (yielded ops a.tmps) = true then Oper.wp Tryd.prog o a W K Q else E := by
  have hsW := hn.now.kp.size
  have hold : ∀ b, b < w.heap.size → b ≠ c.g → W.heap[b]? = w.heap[b]? := fun b h1 h2 => hn.now.kp.block b h1 (by simp [h2])
  have hUW : UIn W lo w.heap.size u (.slice fa n fc) fv := hU.of_heap hsW (fun b h1 h2 => hold b h2 (by omega))
  obtain ⟨h0, Ff, Fg, hFs, hD, hnd', hF'⟩ := hUW
  have hnd : (Fg ++ Ff).Nodup := (List.perm_append_comm.nodup_iff).1 hnd'
  have hF : ∀ b ∈ Fg ++ Ff, lo ≤ b ∧ b < w.heap.size := fun b hm => hF' b (by rcases List.mem_append.1 hm with h | h <;> simp [h])
  obtain rfl := hFs.len
  obtain ⟨ks, F0, hrow, hin, rfl⟩ := hFs
  obtain ⟨p1, p2, p3⟩ := hn.q0
  have p1' : w.heap.size ≤ lo1 := p1
  have p2' : hi1 ≤ W.heap.size := p2
  obtain ⟨p4, Fi, hRi, hndi, hFi⟩ := p3
  have hnd1 := List.nodup_append.1 hnd
  refine step_appendG hgd sO xO 24 50 _ 6 72 (dcC fn iv) (fun w xs F => DcsIn w u.globals xs F) (fun _ _ _ _ h hb => DcsIn.at_ _ _ _ h hb) Tryd.underlying24 infoDc rfl rfl (by decide) (by decide) ?_ ho (lo := lo) (hi := w.heap.size) hs hx hrow hin hnd1.2.1
    (fun b hm => hF b (List.mem_append_right _ hm)) hsW hb (by omega) (by omega) ?_
  · intro v hv
    simp only [dcC, List.mem_cons, List.not_mem_nil, or_false] at hv
    rcases hv with rfl | rfl | rfl | rfl | rfl | rfl <;> first | rfl | exact hpv
  · intro g cap' w' hZ hg hgw hk hz hot
    have hown : ∀ b, b < W.heap.size → b < lo ∨ w.heap.size ≤ b → w'.heap[b]? = W.heap[b]? := fun b h1 h2 => hk b h1 (fun hm => by
      have := hF b (by simp [hm]); omega)
    obtain ⟨cur, tb, ts, tt⟩ := hn.now.pin.tok
    have hFg : ∀ b ∈ Fg, w'.heap[b]? = W.heap[b]? := fun b hm => hk b (by have := hF b (by simp [hm]); omega) (fun h2 => hnd1.2.2 b hm b (by simp [h2]) rfl)
    have hFi' : ∀ b ∈ Fi, w'.heap[b]? = W.heap[b]? := fun b hm => hown b (by have := hFi b hm; omega) (.inr (by have := hFi b hm; omega))
    have hgr : lo ≤ g ∧ (w.heap.size ≤ g → g = W.heap.size) := by
      rcases hg with rfl | hg
      · exact ⟨by omega, fun _ => rfl⟩
      · have := hF g (by simp [hg]); exact ⟨this.1, fun h => by omega⟩
    have hgF : g ∉ Fg ∧ g ∉ F0 ∧ g ∉ Fi := by
      refine ⟨fun hm => ?_, hZ.notin, fun hm => ?_⟩
      · rcases hg with rfl | hg
        · have := hF _ (List.mem_append_left _ hm); omega
        · exact hnd1.2.2 g hm g (by simp [hg]) rfl
      · have h1 := hFi g hm
        have := hgr.2 (by omega); omega
    have hnd2 := List.nodup_append.1 hnd1.2.1
    refine hK g cap' w' ⟨⟨(hown _ (by omega) (.inl hlo.2.1)).trans hn.now.pin.blk, ⟨cur, (hown _ (by omega) (.inl hlo.2.2.1)).trans tb, ts, tt⟩, hn.now.pin.lt, (hown _ (by omega) (.inl hlo.2.2.2.1)).trans hn.now.pin.map, (hown _ (by omega) (.inl hlo.2.2.2.2.1)).trans hn.now.pin.siz⟩,
      ⟨(hown _ (by omega) (.inl hlo.1)).trans hq.blk⟩, ⟨Nat.le_refl _, g :: (F0 ++ Fi), Fg, ⟨ks ++ dcC fn iv, F0 ++ Fi, ?_, DcsIn.snoc (hRi.at_ hFi') _ _ _ hZ.ins, rfl⟩, hD.at_ hFg, ?_, ?_⟩, by omega, ⟨hot.1.trans hn.now.kp.os, hot.2.1.trans hn.now.kp.tape, hot.2.2.trans hn.now.kp.output⟩,
      fun b h1 h2 => (hown b (by omega) (.inl h1)).trans (hold b (by omega) h2), fun b h1 h2 => hown b h2 (.inr h1)⟩
    · simp only [List.length_append, List.length_cons, List.length_nil]
      exact hZ.own
    · refine (List.perm_append_comm.nodup_iff).1 (List.nodup_append.2 ⟨hnd1.1, List.nodup_cons.2 ⟨?_, List.nodup_append.2 ⟨hnd2.2.1, hndi, fun x hx y hy => ?_⟩⟩, fun x hx y hy => ?_⟩)
      · simp only [List.mem_append, not_or]; exact hgF.2
      · have := hZ.range x hx; have := hFi y hy; omega
      · have h1 := hF x (List.mem_append_left _ hx)
        rcases List.mem_cons.1 hy with rfl | hy
        · rintro rfl; exact hgF.1 hx
        · rcases List.mem_append.1 hy with hy | hy
          · exact hnd1.2.2 x hx y (by simp [hy])
          · have := hFi y hy; omega
    · intro b hm0
      have hm : b ∈ Fg ++ g :: (F0 ++ Fi) := by rcases List.mem_append.1 hm0 with h | h <;> simp [h]
      rcases List.mem_append.1 hm with hm | hm
      · have := hF b (by simp [hm]); exact ⟨this.1, by omega⟩
      · rcases List.mem_cons.1 hm with rfl | hm
        · exact ⟨hgr.1, hgw⟩
        · rcases List.mem_append.1 hm with hm | hm
          · have := hZ.range b hm; exact ⟨this.1, by omega⟩
          · have := hFi b hm; exact ⟨by omega, by omega⟩
end Go.Proofs.YtjmemapkipkocaaDoor

/-
  Without positions, plainly.
-/
namespace Go.Proofs.YtjmemapkipkocaaDoor
open Go.RowKit
set_option linter.unusedVariables false
set_option linter.unusedSimpArgs false

def Exs.bare : Exs → Exs
  | .nil => .nil
  | .cons op ty nm n kids pos r => .cons op ty nm n kids.bare 0 r.bare
def Ex.bare (e : Ex) : Ex := ⟨e.op, e.ty, e.nm, e.n, e.kids.bare, 0⟩
def Sts.bare : Sts → Sts
  | .nil => .nil
  | .cons op ex body ty nm n pos r => .cons op ex.bare body.bare ty nm n 0 r.bare
def Sm.bare (e : Sm) : Sm := ⟨e.op, e.ex.bare, e.body.bare, e.ty, e.nm, e.n, 0⟩
def Dec.bare (d : Dec) : Dec := ⟨d.nm, d.ty, d.init, 0⟩
def Fn.bare (f : Fn) : Fn := ⟨f.nm, f.ret, f.params.map Dec.bare, f.body.bare, 0⟩
def Un.bare (u : Un) : Un := ⟨u.globals.map Dec.bare, u.funcs.map Fn.bare⟩
/-- How many nodes. -/
def Exs.size : Exs → Nat
  | .nil => 0
  | .cons _ _ _ _ kids _ r => kids.size + r.size + 1
def Sts.all : Sts → Nat
  | .nil => 0
  | .cons _ ex body _ _ _ _ r => ex.size + body.all + r.all + 1
def Ex.sz (e : Ex) : Nat := e.kids.size + 1
def Sm.sz (e : Sm) : Nat := e.ex.size + e.body.all + 1
theorem Exs.size_add (e : Ex) (r : Exs) : (Exs.add e r).size = e.sz + r.size := by
  show e.kids.size + r.size + 1 = e.kids.size + 1 + r.size
  omega
theorem Exs.size_snoc (e : Ex) : ∀ x : Exs, (x.snoc e).size = x.size + e.sz := by
  intro x
  induction x with
  | nil => show e.kids.size + 0 + 1 = 0 + (e.kids.size + 1); omega
  | cons _ _ _ _ _ _ _ _ ih => simp only [Exs.snoc, size, ih]; omega
theorem Sts.all_add (e : Sm) (r : Sts) : (Sts.add e r).all = e.sz + r.all := by
  show e.ex.size + e.body.all + r.all + 1 = e.ex.size + e.body.all + 1 + r.all
  omega
theorem Sts.all_snoc (e : Sm) : ∀ x : Sts, (x.snoc e).all = x.all + e.sz := by
  intro x
  induction x with
  | nil => show e.ex.size + e.body.all + 0 + 1 = 0 + (e.ex.size + e.body.all + 1); omega
  | cons _ _ _ _ _ _ _ _ _ ih => simp only [Sts.snoc, all, ih]; omega
theorem one_size (a : Ex) : (one a).size = a.sz := by rw [one, Exs.size_add]; rfl
theorem two_size (a b : Ex) : (two a b).size = a.sz + b.sz := by rw [two, Exs.size_add, Exs.size_add]; rfl
theorem three_size (a b c : Ex) : (three a b c).size = a.sz + (b.sz + c.sz) := by rw [three, Exs.size_add, Exs.size_add, Exs.size_add]; rfl
theorem oneS_all (a : Sm) : (oneS a).all = a.sz := by rw [oneS, Sts.all_add]; rfl
theorem Exs.bare_len : ∀ x : Exs, x.bare.len = x.len := by
  intro x
  induction x with
  | nil => rfl
  | cons _ _ _ _ _ _ _ _ ih => simp only [bare, len, ih]
theorem Sts.bare_len : ∀ x : Sts, x.bare.len = x.len := by
  intro x
  induction x with
  | nil => rfl
  | cons _ _ _ _ _ _ _ _ _ ih => simp only [bare, len, ih]
end Go.Proofs.YtjmemapkipkocaaDoor

/-
  Are two lists of expressions the same?
-/
namespace Go.Proofs.YtjmemapkipkocaaDoor
open Go.RowKit Go.Maps
set_option linter.unusedVariables false
set_option linter.unusedSimpArgs false
set_option maxRecDepth 100000
set_option maxHeartbeats 1000000

def Exs.toL : Exs → List Ex
  | .nil => []
  | .cons op ty nm n kids pos r => ⟨op, ty, nm, n, kids, pos⟩ :: r.toL
theorem Exs.toL_len : ∀ x : Exs, x.toL.length = x.len := by
  intro x
  induction x with
  | nil => rfl
  | cons _ _ _ _ _ _ _ _ ih => simp [Exs.toL, Exs.len, ih]
theorem Exs.toL_inj : ∀ x y : Exs, x.toL = y.toL → x = y := by
  intro x
  induction x with
  | nil => intro y h; cases y with
    | nil => rfl
    | cons => cases h
  | cons op ty nm n kids pos r _ ih => intro y h; cases y with
    | nil => cases h
    | cons =>
      simp only [Exs.toL, List.cons.injEq, Ex.mk.injEq] at h
      obtain ⟨⟨rfl, rfl, rfl, rfl, rfl, rfl⟩, h⟩ := h
      rw [ih _ h]
theorem Exs.size_mem : ∀ (x : Exs) (e : Ex), e ∈ x.toL → e.kids.size < x.size := by
  intro x
  induction x with
  | nil => intro e h; cases h
  | cons op ty nm n kids pos r _ ih =>
    intro e h
    rcases List.mem_cons.1 h with rfl | h
    · simp only [Exs.size]; omega
    · have := ih e h; simp only [Exs.size]; omega
theorem ExsIn.get {w : World} : ∀ (x : Exs) (xs : List Value) (F : List Nat), ExsIn w x xs F → ∀ (i : Nat) (e : Ex), x.toL[i]? = some e → ∃ kv Fi, RowX w e.kids kv Fi ∧ (∀ b ∈ Fi, b ∈ F) ∧ ∀ j u, (exC e kv)[j]? = some u → xs[i * 8 + j]? = some u := by
  intro x
  induction x with
  | nil => intro xs F h i e he; simp [Exs.toL] at he
  | cons op ty nm n kids pos r _ ih =>
    rintro xs F ⟨kv, ks, F0, xs', F', rfl, rfl, h3, h4, h5⟩ i e he
    cases i with
    | zero =>
      obtain rfl : (⟨op, ty, nm, n, kids, pos⟩ : Ex) = e := by simpa [Exs.toL] using he
      refine ⟨kv, ownF kv ++ F0, ⟨ks, F0, h3, h4, rfl⟩, fun b hb => List.mem_append_left _ hb, fun j u hu => ?_⟩
      rw [Nat.zero_mul, Nat.zero_add, List.getElem?_append_left (List.getElem?_eq_some_iff.1 hu).1]
      exact hu
    | succ i =>
      obtain ⟨kv2, Fi, h6, h7, h8⟩ := ih _ _ h5 i e (by simpa [Exs.toL] using he)
      refine ⟨kv2, Fi, h6, fun b hb => List.mem_append_right _ (h7 b hb), fun j u hu => ?_⟩
      have hl : (exC ⟨op, ty, nm, n, kids, pos⟩ kv).length = 8 := rfl
      rw [List.getElem?_append_right (by rw [hl]; omega), hl, ← h8 j u hu]
      congr 1; omega
/-- What a slice holds. -/
theorem own_get {w : World} {T : TypeId} {sz n : Nat} {v : Value} {xs : List Value} (h : w.ownsRow 0 T sz v n xs) (hn : 0 < n) : ∃ g cap, v = .slice (some ⟨g, 0, none⟩) n cap ∧ g < w.heap.size ∧ ∀ j u, xs[j]? = some u → w.cell? ⟨g, j, none⟩ = some u := by
  rcases h.2 with ⟨_, h0⟩ | ⟨g, cap, cur, rfl, _, hb, _, _, hs, ht⟩
  · omega
  · refine ⟨g, cap, rfl, lt_of_blk hb, fun j u hu => ?_⟩
    rw [cellB hb, ← Array.getElem?_toList]
    rw [← ht, List.getElem?_take] at hu
    split at hu
    · exact hu
    · cases hu
/-- What a call does that tells whether two things are the same. -/
def Same (b : Bool) (w : World) (e : Ending) (w' : World) : Prop := e = .returned (.bool b) ∧ Below w.heap.size w w'
theorem ownF_lt {w : World} {T : TypeId} {sz n : Nat} {v : Value} {xs : List Value} (h : w.ownsRow 0 T sz v n xs) : ∀ b ∈ ownF v, b < w.heap.size := by
  rcases h.2 with ⟨rfl, _⟩ | ⟨g, cap, cur, rfl, _, hb, _⟩
  · intro b hb; cases hb
  · intro b hm
    obtain rfl : b = g := by simpa [ownF, Value.ownBlock] using hm
    exact lt_of_blk hb
theorem ownLen {w : World} {T : TypeId} {sz n : Nat} {v : Value} {xs : List Value} (h : w.ownsRow 0 T sz v n xs) : n ≤ maxLen := by
  rcases h.2 with ⟨_, h0⟩ | ⟨g, cap, cur, _, _, _, h1, h2, _⟩ <;> omega
theorem ExsIn.lt {w : World} : ∀ (x : Exs) (xs : List Value) (F : List Nat), ExsIn w x xs F → ∀ b ∈ F, b < w.heap.size := by
  intro x
  induction x with
  | nil => rintro xs F ⟨rfl, rfl⟩ b hb; cases hb
  | cons op ty nm n kids pos r ih1 ih =>
    rintro xs F ⟨kv, ks, F0, xs', F', rfl, rfl, h3, h4, h5⟩ b hb
    simp only [List.mem_append] at hb
    rcases hb with (hb | hb) | hb
    · exact ownF_lt h3 b hb
    · exact ih1 _ _ h4 b hb
    · exact ih _ _ h5 b hb
theorem RowX.lt {w : World} {x : Exs} {v : Value} {F : List Nat} (h : RowX w x v F) : ∀ b ∈ F, b < w.heap.size := by
  obtain ⟨ks, F0, h1, h2, rfl⟩ := h
  intro b hb
  rcases List.mem_append.1 hb with hb | hb
  · exact ownF_lt h1 b hb
  · exact ExsIn.lt _ _ _ h2 b hb
theorem RowX.low {w w' : World} {x : Exs} {v : Value} {F : List Nat} (h : RowX w x v F) (hb : Below w.heap.size w w') : RowX w' x v F := h.at_ (fun b hm => hb.block b (h.lt b hm))
def EqEs (n : Nat) : Prop := ∀ (x y : Exs), x.size < n → ∀ (w : World) (v u : Value) (F G : List Nat), RowX w x v F → RowX w y u G → Calls Tryd.prog 71 #[v, u] w (Same (decide (x = y)) w)
theorem eqExpr_step (n : Nat) (IH : EqEs n) (e d : Ex) (he : e.kids.size < n) (w : World) (v u : Value) (F G : List Nat) (hv : RowX w e.kids v F) (hu : RowX w d.kids u G) :
    Calls Tryd.prog 79 #[.agg (exC e v).toArray, .agg (exC d u).toArray] w (Same (decide (e = d)) w) := by
  have hb1 : ∀ W1, Below w.heap.size w W1 → RowX W1 e.kids v F := fun W1 h => hv.low h
  have hb2 : ∀ W1, Below w.heap.size w W1 → RowX W1 d.kids u G := fun W1 h => hu.low h
  have CE := fun W (H : Below w.heap.size w W) => Lib.hid (IH e.kids d.kids he W v u F G (hb1 W H) (hb2 W H))
  clear hb1 hb2 hv hu
  obtain ⟨op, ⟨tk, tp, tl⟩, nm, nn, kids, pos⟩ := e
  obtain ⟨op2, ⟨tk2, tp2, tl2⟩, nm2, nn2, kids2, pos2⟩ := d
  unfold exC
  simp only at CE ⊢
  cases hk : decide (kids = kids2) with
  | true =>
    rw [hk] at CE
    obtain rfl := of_decide_eq_true hk
    go_enter Tryd.func79, Tryd.ntmps79
    go_wp2_with fail
    · refine (CE _ (((Below.refl _ _).alloc (Nat.le_refl _) _).alloc (by simp) _)).out.mono ?_
      rintro e w1 ⟨rfl, hb⟩
      have O0 : OwnB w1 w.heap.size _ 105 := ⟨(hb.block _ (by simp; omega)).trans (OwnB.alloc (OwnB.new rfl) _).blk⟩
      have O1 : OwnB w1 (w.heap.size + 1) _ 105 := ⟨(hb.block _ (by simp)).trans (OwnB.new (by simp)).blk⟩
      obtain ⟨y0, x0, z0⟩ := O0.facts
      obtain ⟨y1, x1, z1⟩ := O1.facts
      have HB := Lib.hid ((((Below.refl w.heap.size w).alloc (Nat.le_refl _) _).alloc (by simp) _).trans (hb.mono (by simp; omega)))
      clear hb
      go_wp2_with fail
      all_goals
        go_ret
        refine ⟨?_, HB.out⟩
        simp [*] <;> rfl
    all_goals
      go_ret
      refine ⟨?_, ((Below.refl _ _).alloc (Nat.le_refl _) _).alloc (by simp) _⟩
      simp [*]
  | false =>
    rw [hk] at CE
    have hk' : ¬ kids = kids2 := of_decide_eq_false hk
    go_enter Tryd.func79, Tryd.ntmps79
    go_wp2_with fail
    · refine (CE _ (((Below.refl _ _).alloc (Nat.le_refl _) _).alloc (by simp) _)).out.mono ?_
      rintro e w1 ⟨rfl, hb⟩
      have HB := Lib.hid ((((Below.refl w.heap.size w).alloc (Nat.le_refl _) _).alloc (by simp) _).trans (hb.mono (by simp; omega)))
      clear hb
      go_wp2_with fail
      all_goals
        go_ret
        refine ⟨?_, HB.out⟩
        simp [*]
    all_goals
      go_ret
      refine ⟨?_, ((Below.refl _ _).alloc (Nat.le_refl _) _).alloc (by simp) _⟩
      simp [*]
theorem eqExprs_step (n : Nat) (IH : EqEs n) (x y : Exs) (hx : x.size < n + 1) (w : World) (v u : Value) (F G : List Nat) (hv : RowX w x v F) (hu : RowX w y u G) : Calls Tryd.prog 71 #[v, u] w (Same (decide (x = y)) w) := by
  have HV := Lib.hid hv
  have HU := Lib.hid hu
  obtain ⟨ks, F0, h1, h2, _⟩ := hv
  obtain ⟨kt, G0, h3, h4, _⟩ := hu
  have hl1 := ownLen h1
  have hl2 := ownLen h3
  unfold maxLen at hl1 hl2
  have e1 : ∃ a c, v = .slice a x.len c := by
    rcases h1.2 with ⟨rfl, h⟩ | ⟨g, cap, cur, rfl, _⟩
    · exact ⟨none, 0, by rw [h]⟩
    · exact ⟨_, _, rfl⟩
  have e2 : ∃ a c, u = .slice a y.len c := by
    rcases h3.2 with ⟨rfl, h⟩ | ⟨g, cap, cur, rfl, _⟩
    · exact ⟨none, 0, by rw [h]⟩
    · exact ⟨_, _, rfl⟩
  obtain ⟨a, c, rfl⟩ := e1
  obtain ⟨a2, c2, rfl⟩ := e2
  by_cases hlen : x.len = y.len
  · have hd : ((x.len : Int) != (y.len : Int)) = false := by simp [hlen]
    have HL := Lib.hid hlen
    clear hlen
    go_enter Tryd.func71, Tryd.ntmps71
    go_wp2_with fail
    go_loopw [5, 11, 12, 13, 14, 15, 16, 17, 18, 19, 20, 21, 22, 23, 24, 25, 26] (fun i _ _ _ _ _ _ _ _ _ _ _ _ _ _ _ _ wr => ∃ k : Nat, k ≤ x.len ∧ i = .int .i64 k ∧ x.toL.take k = y.toL.take k ∧ Below w.heap.size w wr) (fun i _ _ _ _ _ _ _ _ _ _ _ _ _ _ _ _ _ => x.len - (intOf i).toNat)
    case atStart => exact ⟨0, by omega, rfl, rfl, Below.refl _ _⟩
    case round =>
      obtain ⟨k, hk, rfl, htk, hb⟩ := hrel
      by_cases hlt : k < x.len
      · have hd1 : decide ((k : Int) < (x.len : Int)) = true := by simp; omega
        have hd2 : decide ((k : Int) < (y.len : Int)) = true := by have := HL.out; simp; omega
        have hk0 : (0 : Int) ≤ (k : Int) := by omega
        have hk1 : (k : Int) < (x.len : Int) := by omega
        have hk2 : (k : Int) < (y.len : Int) := by have := HL.out; omega
        obtain ⟨e, he⟩ : ∃ e, x.toL[k]? = some e := ⟨_, List.getElem?_eq_getElem (by rw [Exs.toL_len]; exact hlt)⟩
        obtain ⟨d, hdd⟩ : ∃ d, y.toL[k]? = some d := ⟨_, List.getElem?_eq_getElem (by rw [Exs.toL_len]; have := HL.out; omega)⟩
        obtain ⟨js, I0, i1, i2, _⟩ := HV.out.low hb
        obtain ⟨jt, J0, i3, i4, _⟩ := HU.out.low hb
        obtain ⟨kv, Fi, r1, _, r3⟩ := ExsIn.get _ _ _ i2 k e he
        obtain ⟨ku, Gi, r4, _, r6⟩ := ExsIn.get _ _ _ i4 k d hdd
        obtain ⟨g, cap, hg, hgl, hgc⟩ := own_get i1 (by omega)
        obtain ⟨g2, cap2, hg2, hgl2, hgc2⟩ := own_get i3 (by have := HL.out; omega)
        injection hg with q1 q2 q3
        injection hg2 with q4 q5 q6
        subst q1 q3 q4 q6
        have hc1 : ∀ j u, (exC e kv)[j]? = some u → wr.drew.cell? ⟨g, k * 8 + j, none⟩ = some u := fun j u hu => hgc _ _ (r3 j u hu)
        have hc2 : ∀ j u, (exC d ku)[j]? = some u → wr.drew.cell? ⟨g2, k * 8 + j, none⟩ = some u := fun j u hu => hgc2 _ _ (r6 j u hu)
        have hes := Exs.size_mem x e (List.mem_of_getElem? he)
        have CE := Lib.hid (eqExpr_step n IH e d (by omega) wr.drew kv ku Fi Gi (r1.at_ (fun _ _ => rfl)) (r4.at_ (fun _ _ => rfl)))
        unfold exC at CE
        clear i1 i2 i3 i4 r1 r3 r4 r6 hgc hgc2
        cases hb8 : decide (e = d) with
        | true =>
          rw [hb8] at CE
          go_wp2_with fail
          refine wpTo_start (fun w' => (∀ j u, (exC e kv)[j]? = some u → w'.cell? ⟨g, k * 8 + j, none⟩ = some u) ∧ (∀ j u, (exC d ku)[j]? = some u → w'.cell? ⟨g2, k * 8 + j, none⟩ = some u)) 8 (by kernel_rfl) ⟨hc1, hc2⟩ (fun hHeld => ?_)
          refine wpTo_takeE 0 (v := ?_) (by kernel_rfl) rfl (by kernel_rfl) (by kernel_rfl) rfl (fun _ _ _ h => h) (Or.inl ⟨by rfl, ?_⟩) (fun _ => hHeld) ?_
          rotate_left
          · (intro w' hSw; go_simp; try with_reducible rfl)
          try simp only [Act.put, List.setIfInBounds_toArray, List.set_cons_zero, List.set_cons_succ]
          refine wpTo_takeE 1 (v := ?_) (by kernel_rfl) rfl (by kernel_rfl) (by kernel_rfl) rfl (fun _ _ _ h => h) (Or.inl ⟨by rfl, ?_⟩) (fun _ => hHeld) ?_
          rotate_left
          · (intro w' hSw; go_simp; try with_reducible rfl)
          try simp only [Act.put, List.setIfInBounds_toArray, List.set_cons_zero, List.set_cons_succ]
          refine wpTo_takeE 2 (v := ?_) (by kernel_rfl) rfl (by kernel_rfl) (by kernel_rfl) rfl (fun _ _ _ h => h) (Or.inl ⟨by rfl, ?_⟩) (fun _ => hHeld) ?_
          rotate_left
          · (intro w' hSw; go_simp; try with_reducible rfl)
          try simp only [Act.put, List.setIfInBounds_toArray, List.set_cons_zero, List.set_cons_succ]
          refine wpTo_take 3 (v := ?_) (by kernel_rfl) (by kernel_rfl) rfl (by kernel_rfl) (by kernel_rfl) rfl (fun _ _ _ h => h) (Or.inl ⟨by rfl, ?_⟩) hHeld ?_
          rotate_left
          · (intro w' ⟨ha, hb⟩; have a0 := ha 0 _ rfl; have a1 := ha 1 _ rfl; have a2 := ha 2 _ rfl; have a3 := ha 3 _ rfl; have a4 := ha 4 _ rfl; have a5 := ha 5 _ rfl; have a6 := ha 6 _ rfl; have a7 := ha 7 _ rfl; have b0 := hb 0 _ rfl; have b1 := hb 1 _ rfl; have b2 := hb 2 _ rfl; have b3 := hb 3 _ rfl; have b4 := hb 4 _ rfl; have b5 := hb 5 _ rfl; have b6 := hb 6 _ rfl; have b7 := hb 7 _ rfl; simp only [Nat.add_zero] at a0 b0; clear ha hb; go_simp; try with_reducible rfl)
          try simp only [Act.put, List.setIfInBounds_toArray, List.set_cons_zero, List.set_cons_succ]
          refine wpTo_takeE 4 (v := ?_) (by kernel_rfl) rfl (by kernel_rfl) (by kernel_rfl) rfl (fun _ _ _ h => h) (Or.inl ⟨by rfl, ?_⟩) (fun _ => hHeld) ?_
          rotate_left
          · (intro w' hSw; go_simp; try with_reducible rfl)
          try simp only [Act.put, List.setIfInBounds_toArray, List.set_cons_zero, List.set_cons_succ]
          refine wpTo_takeE 5 (v := ?_) (by kernel_rfl) rfl (by kernel_rfl) (by kernel_rfl) rfl (fun _ _ _ h => h) (Or.inl ⟨by rfl, ?_⟩) (fun _ => hHeld) ?_
          rotate_left
          · (intro w' hSw; go_simp; try with_reducible rfl)
          try simp only [Act.put, List.setIfInBounds_toArray, List.set_cons_zero, List.set_cons_succ]
          refine wpTo_takeE 6 (v := ?_) (by kernel_rfl) rfl (by kernel_rfl) (by kernel_rfl) rfl (fun _ _ _ h => h) (Or.inl ⟨by rfl, ?_⟩) (fun _ => hHeld) ?_
          rotate_left
          · (intro w' hSw; go_simp; try with_reducible rfl)
          try simp only [Act.put, List.setIfInBounds_toArray, List.set_cons_zero, List.set_cons_succ]
          refine wpTo_take 7 (v := ?_) (by kernel_rfl) (by kernel_rfl) rfl (by kernel_rfl) (by kernel_rfl) rfl (fun _ _ _ h => h) (Or.inl ⟨by rfl, ?_⟩) hHeld ?_
          rotate_left
          · (intro w' ⟨ha, hb⟩; have a0 := ha 0 _ rfl; have a1 := ha 1 _ rfl; have a2 := ha 2 _ rfl; have a3 := ha 3 _ rfl; have a4 := ha 4 _ rfl; have a5 := ha 5 _ rfl; have a6 := ha 6 _ rfl; have a7 := ha 7 _ rfl; have b0 := hb 0 _ rfl; have b1 := hb 1 _ rfl; have b2 := hb 2 _ rfl; have b3 := hb 3 _ rfl; have b4 := hb 4 _ rfl; have b5 := hb 5 _ rfl; have b6 := hb 6 _ rfl; have b7 := hb 7 _ rfl; simp only [Nat.add_zero] at a0 b0; clear ha hb; go_simp; try with_reducible rfl)
          try simp only [Act.put, List.setIfInBounds_toArray, List.set_cons_zero, List.set_cons_succ]
          refine wpTo_one 8 (by kernel_rfl) rfl (fun K hKo => ?_)
          go_simp
          refine CE.out.mono ?_
          rintro e1 w1 ⟨rfl, hb1⟩
          have HB := Lib.hid (hb.trans ((⟨rfl, rfl, rfl, Nat.le_refl _, fun _ _ => rfl⟩ : Below w.heap.size wr wr.drew).trans (hb1.mono hb.size)))
          clear hb1
          go_wp2_with fail
          refine Shut.out hKo _ _ (fun h _ => absurd rfl h) ?_
          clear hKo K
          try simp only [Act.put, List.setIfInBounds_toArray, List.set_cons_zero, List.set_cons_succ]
          refine wpTo_one 9 (by kernel_rfl) rfl (fun K hKo => ?_)
          go_simp
          refine Shut.out hKo _ _ (fun _ h => absurd h (by decide)) ?_
          clear hKo K
          try simp only [Act.put, List.setIfInBounds_toArray, List.set_cons_zero, List.set_cons_succ]
          refine wpTo_done (by kernel_rfl) ?_ _
          go_wp2_with fail
          go_roundw
          case measure => simp [intOf]; omega
          case rel =>
            refine ⟨k + 1, by omega, by simp, ?_, HB.out⟩
            rw [List.take_add_one, List.take_add_one, htk, he, hdd, of_decide_eq_true hb8]
        | false =>
          rw [hb8] at CE
          go_wp2_with fail
          refine wpTo_start (fun w' => (∀ j u, (exC e kv)[j]? = some u → w'.cell? ⟨g, k * 8 + j, none⟩ = some u) ∧ (∀ j u, (exC d ku)[j]? = some u → w'.cell? ⟨g2, k * 8 + j, none⟩ = some u)) 8 (by kernel_rfl) ⟨hc1, hc2⟩ (fun hHeld => ?_)
          refine wpTo_takeE 0 (v := ?_) (by kernel_rfl) rfl (by kernel_rfl) (by kernel_rfl) rfl (fun _ _ _ h => h) (Or.inl ⟨by rfl, ?_⟩) (fun _ => hHeld) ?_
          rotate_left
          · (intro w' hSw; go_simp; try with_reducible rfl)
          try simp only [Act.put, List.setIfInBounds_toArray, List.set_cons_zero, List.set_cons_succ]
          refine wpTo_takeE 1 (v := ?_) (by kernel_rfl) rfl (by kernel_rfl) (by kernel_rfl) rfl (fun _ _ _ h => h) (Or.inl ⟨by rfl, ?_⟩) (fun _ => hHeld) ?_
          rotate_left
          · (intro w' hSw; go_simp; try with_reducible rfl)
          try simp only [Act.put, List.setIfInBounds_toArray, List.set_cons_zero, List.set_cons_succ]
          refine wpTo_takeE 2 (v := ?_) (by kernel_rfl) rfl (by kernel_rfl) (by kernel_rfl) rfl (fun _ _ _ h => h) (Or.inl ⟨by rfl, ?_⟩) (fun _ => hHeld) ?_
          rotate_left
          · (intro w' hSw; go_simp; try with_reducible rfl)
          try simp only [Act.put, List.setIfInBounds_toArray, List.set_cons_zero, List.set_cons_succ]
          refine wpTo_take 3 (v := ?_) (by kernel_rfl) (by kernel_rfl) rfl (by kernel_rfl) (by kernel_rfl) rfl (fun _ _ _ h => h) (Or.inl ⟨by rfl, ?_⟩) hHeld ?_
          rotate_left
          · (intro w' ⟨ha, hb⟩; have a0 := ha 0 _ rfl; have a1 := ha 1 _ rfl; have a2 := ha 2 _ rfl; have a3 := ha 3 _ rfl; have a4 := ha 4 _ rfl; have a5 := ha 5 _ rfl; have a6 := ha 6 _ rfl; have a7 := ha 7 _ rfl; have b0 := hb 0 _ rfl; have b1 := hb 1 _ rfl; have b2 := hb 2 _ rfl; have b3 := hb 3 _ rfl; have b4 := hb 4 _ rfl; have b5 := hb 5 _ rfl; have b6 := hb 6 _ rfl; have b7 := hb 7 _ rfl; simp only [Nat.add_zero] at a0 b0; clear ha hb; go_simp; try with_reducible rfl)
          try simp only [Act.put, List.setIfInBounds_toArray, List.set_cons_zero, List.set_cons_succ]
          refine wpTo_takeE 4 (v := ?_) (by kernel_rfl) rfl (by kernel_rfl) (by kernel_rfl) rfl (fun _ _ _ h => h) (Or.inl ⟨by rfl, ?_⟩) (fun _ => hHeld) ?_
          rotate_left
          · (intro w' hSw; go_simp; try with_reducible rfl)
          try simp only [Act.put, List.setIfInBounds_toArray, List.set_cons_zero, List.set_cons_succ]
          refine wpTo_takeE 5 (v := ?_) (by kernel_rfl) rfl (by kernel_rfl) (by kernel_rfl) rfl (fun _ _ _ h => h) (Or.inl ⟨by rfl, ?_⟩) (fun _ => hHeld) ?_
          rotate_left
          · (intro w' hSw; go_simp; try with_reducible rfl)
          try simp only [Act.put, List.setIfInBounds_toArray, List.set_cons_zero, List.set_cons_succ]
          refine wpTo_takeE 6 (v := ?_) (by kernel_rfl) rfl (by kernel_rfl) (by kernel_rfl) rfl (fun _ _ _ h => h) (Or.inl ⟨by rfl, ?_⟩) (fun _ => hHeld) ?_
          rotate_left
          · (intro w' hSw; go_simp; try with_reducible rfl)
          try simp only [Act.put, List.setIfInBounds_toArray, List.set_cons_zero, List.set_cons_succ]
          refine wpTo_take 7 (v := ?_) (by kernel_rfl) (by kernel_rfl) rfl (by kernel_rfl) (by kernel_rfl) rfl (fun _ _ _ h => h) (Or.inl ⟨by rfl, ?_⟩) hHeld ?_
          rotate_left
          · (intro w' ⟨ha, hb⟩; have a0 := ha 0 _ rfl; have a1 := ha 1 _ rfl; have a2 := ha 2 _ rfl; have a3 := ha 3 _ rfl; have a4 := ha 4 _ rfl; have a5 := ha 5 _ rfl; have a6 := ha 6 _ rfl; have a7 := ha 7 _ rfl; have b0 := hb 0 _ rfl; have b1 := hb 1 _ rfl; have b2 := hb 2 _ rfl; have b3 := hb 3 _ rfl; have b4 := hb 4 _ rfl; have b5 := hb 5 _ rfl; have b6 := hb 6 _ rfl; have b7 := hb 7 _ rfl; simp only [Nat.add_zero] at a0 b0; clear ha hb; go_simp; try with_reducible rfl)
          try simp only [Act.put, List.setIfInBounds_toArray, List.set_cons_zero, List.set_cons_succ]
          refine wpTo_one 8 (by kernel_rfl) rfl (fun K hKo => ?_)
          go_simp
          refine CE.out.mono ?_
          rintro e1 w1 ⟨rfl, hb1⟩
          have HB := Lib.hid (hb.trans ((⟨rfl, rfl, rfl, Nat.le_refl _, fun _ _ => rfl⟩ : Below w.heap.size wr wr.drew).trans (hb1.mono hb.size)))
          clear hb1
          go_wp2_with fail
          refine Shut.out hKo _ _ (fun h _ => absurd rfl h) ?_
          clear hKo K
          try simp only [Act.put, List.setIfInBounds_toArray, List.set_cons_zero, List.set_cons_succ]
          refine wpTo_one 9 (by kernel_rfl) rfl (fun K hKo => ?_)
          go_simp
          refine Shut.out hKo _ _ (fun _ h => absurd h (by decide)) ?_
          clear hKo K
          try simp only [Act.put, List.setIfInBounds_toArray, List.set_cons_zero, List.set_cons_succ]
          refine wpTo_done (by kernel_rfl) ?_ _
          go_wp2_with fail
          go_ret
          refine ⟨?_, HB.out⟩
          have hne : decide (x = y) = false := by
            apply decide_eq_false
            rintro rfl
            rw [he] at hdd
            exact (of_decide_eq_false hb8) (Option.some.inj hdd)
          rw [hne]
          rfl
      · obtain rfl : k = x.len := by omega
        have hd1 : decide ((x.len : Int) < (x.len : Int)) = false := by simp
        have hd2 : decide ((x.len : Int) < (y.len : Int)) = false := by have := HL.out; simp; omega
        have hxy : x = y := by
          apply Exs.toL_inj
          rw [← Exs.toL_len, List.take_length, Exs.toL_len, HL.out, ← Exs.toL_len, List.take_length] at htk
          exact htk
        go_wp2_with fail
        go_ret
        exact ⟨by rw [decide_eq_true hxy]; rfl, hb⟩
  · have hd : ((x.len : Int) != (y.len : Int)) = true := by simp; omega
    have hne : decide (x = y) = false := by
      apply decide_eq_false
      rintro rfl
      exact hlen rfl
    rw [hne]
    go_enter Tryd.func71, Tryd.ntmps71
    go_wp2_with fail
    go_ret
    exact ⟨rfl, Below.refl _ _⟩
theorem eqEs : ∀ n, EqEs n := by
  intro n
  induction n with
  | zero => intro x y h; omega
  | succ n ih => exact fun x y h w v u F G => eqExprs_step n ih x y h w v u F G
theorem eqExprs_any (x y : Exs) (w : World) (v u : Value) (F G : List Nat) (hv : RowX w x v F) (hu : RowX w y u G) : Calls Tryd.prog 71 #[v, u] w (Same (decide (x = y)) w) := eqEs (x.size + 1) x y (by omega) w v u F G hv hu
end Go.Proofs.YtjmemapkipkocaaDoor
