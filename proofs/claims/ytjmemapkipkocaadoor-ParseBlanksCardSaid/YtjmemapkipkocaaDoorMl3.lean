/-
  Texts that lead to it, 3: PsQ2 PsQ3 PsQ4 PsQ5 PsCp PsC1 PsS3 PsC2 PsC3 PsC4 PsC5 PsC6 PsB1 PsB2 PsB3 PsB4 PsR1 PsR2.
-/
import Derived.Test.YtjmemapkipkocaaDoorMl2
import Derived.Laws.OwnMore

/-
  Are two lists of statements the same?
-/
namespace Go.Proofs.YtjmemapkipkocaaDoor
open Go.RowKit Go.Maps
set_option linter.unusedVariables false
set_option linter.unusedSimpArgs false
set_option maxRecDepth 100000
set_option maxHeartbeats 1000000

def Sts.toL : Sts → List Sm
  | .nil => []
  | .cons op ex body ty nm n pos r => ⟨op, ex, body, ty, nm, n, pos⟩ :: r.toL
def Sts.size : Sts → Nat
  | .nil => 0
  | .cons _ _ body _ _ _ _ r => body.size + r.size + 1
theorem Sts.toL_len : ∀ x : Sts, x.toL.length = x.len := by
  intro x
  induction x with
  | nil => rfl
  | cons _ _ _ _ _ _ _ _ _ ih => simp [Sts.toL, Sts.len, ih]
theorem Sts.toL_inj : ∀ x y : Sts, x.toL = y.toL → x = y := by
  intro x
  induction x with
  | nil => intro y h; cases y with
    | nil => rfl
    | cons => cases h
  | cons op ex body ty nm n pos r _ ih => intro y h; cases y with
    | nil => cases h
    | cons =>
      simp only [Sts.toL, List.cons.injEq, Sm.mk.injEq] at h
      obtain ⟨⟨rfl, rfl, rfl, rfl, rfl, rfl, rfl⟩, h⟩ := h
      rw [ih _ h]
theorem Sts.size_mem : ∀ (x : Sts) (e : Sm), e ∈ x.toL → e.body.size < x.size := by
  intro x
  induction x with
  | nil => intro e h; cases h
  | cons op ex body ty nm n pos r _ ih =>
    intro e h
    rcases List.mem_cons.1 h with rfl | h
    · simp only [Sts.size]; omega
    · have := ih e h; simp only [Sts.size]; omega
theorem StsIn.get {w : World} : ∀ (x : Sts) (xs : List Value) (F : List Nat), StsIn w x xs F → ∀ (i : Nat) (e : Sm), x.toL[i]? = some e → ∃ ev bv Fe Fb, RowX w e.ex ev Fe ∧ RowS w e.body bv Fb ∧ ∀ j u, (stC e ev bv)[j]? = some u → xs[i * 9 + j]? = some u := by
  intro x
  induction x with
  | nil => intro xs F h i e he; simp [Sts.toL] at he
  | cons op ex body ty nm n pos r _ ih =>
    rintro xs F ⟨ev, bv, Fe, ks, F0, xs', F', rfl, rfl, h1, h3, h4, h5⟩ i e he
    cases i with
    | zero =>
      obtain rfl : (⟨op, ex, body, ty, nm, n, pos⟩ : Sm) = e := by simpa [Sts.toL] using he
      refine ⟨ev, bv, Fe, ownF bv ++ F0, h1, ⟨ks, F0, h3, h4, rfl⟩, fun j u hu => ?_⟩
      rw [Nat.zero_mul, Nat.zero_add, List.getElem?_append_left (List.getElem?_eq_some_iff.1 hu).1]
      exact hu
    | succ i =>
      obtain ⟨ev2, bv2, Fe2, Fb2, h6, h7, h8⟩ := ih _ _ h5 i e (by simpa [Sts.toL] using he)
      refine ⟨ev2, bv2, Fe2, Fb2, h6, h7, fun j u hu => ?_⟩
      have hl : (stC ⟨op, ex, body, ty, nm, n, pos⟩ ev bv).length = 9 := rfl
      rw [List.getElem?_append_right (by rw [hl]; omega), hl, ← h8 j u hu]
      congr 1; omega
theorem StsIn.lt {w : World} : ∀ (x : Sts) (xs : List Value) (F : List Nat), StsIn w x xs F → ∀ b ∈ F, b < w.heap.size := by
  intro x
  induction x with
  | nil => rintro xs F ⟨rfl, rfl⟩ b hb; cases hb
  | cons op ex body ty nm n pos r ih1 ih =>
    rintro xs F ⟨ev, bv, Fe, ks, F0, xs', F', rfl, rfl, h1, h3, h4, h5⟩ b hb
    simp only [List.mem_append] at hb
    rcases hb with (hb | hb | hb) | hb
    · exact h1.lt b hb
    · exact ownF_lt h3 b hb
    · exact ih1 _ _ h4 b hb
    · exact ih _ _ h5 b hb
theorem RowS.lt {w : World} {x : Sts} {v : Value} {F : List Nat} (h : RowS w x v F) : ∀ b ∈ F, b < w.heap.size := by
  obtain ⟨ks, F0, h1, h2, rfl⟩ := h
  intro b hb
  rcases List.mem_append.1 hb with hb | hb
  · exact ownF_lt h1 b hb
  · exact StsIn.lt _ _ _ h2 b hb
theorem RowS.low {w w' : World} {x : Sts} {v : Value} {F : List Nat} (h : RowS w x v F) (hb : Below w.heap.size w w') : RowS w' x v F := h.at_ (fun b hm => hb.block b (h.lt b hm))
def EqSs (n : Nat) : Prop := ∀ (x y : Sts), x.size < n → ∀ (w : World) (v u : Value) (F G : List Nat), RowS w x v F → RowS w y u G → Calls Tryd.prog 44 #[v, u] w (Same (decide (x = y)) w)
theorem eqStmt_step (n : Nat) (IH : EqSs n) (e d : Sm) (he : e.body.size < n) (w : World) (v u v2 u2 : Value) (F G F2 G2 : List Nat) (hv : RowX w e.ex v F) (hu : RowX w d.ex u G) (hv2 : RowS w e.body v2 F2) (hu2 : RowS w d.body u2 G2) :
    Calls Tryd.prog 59 #[.agg (stC e v v2).toArray, .agg (stC d u u2).toArray] w (Same (decide (e = d)) w) := by
  have CE := fun W (H : Below w.heap.size w W) => Lib.hid (eqExprs_any e.ex d.ex W v u F G (hv.low H) (hu.low H))
  have CS := fun W (H : Below w.heap.size w W) => Lib.hid (IH e.body d.body he W v2 u2 F2 G2 (hv2.low H) (hu2.low H))
  clear hv hu hv2 hu2
  obtain ⟨op, ex, body, ⟨tk, tp, tl⟩, nm, nn, pos⟩ := e
  obtain ⟨op2, ex2, body2, ⟨tk2, tp2, tl2⟩, nm2, nn2, pos2⟩ := d
  unfold stC
  simp only at CE CS ⊢
  rcases hx : decide (ex = ex2) with _ | _ <;> rcases hk : decide (body = body2) with _ | _
  · skip
    rw [hx] at CE
    rw [hk] at CS
    have hx1 : ¬ ex = ex2 := of_decide_eq_false hx
    have hk1 : ¬ body = body2 := of_decide_eq_false hk
    go_enter Tryd.func59, Tryd.ntmps59
    go_wp2_with fail
    · refine (CE _ (((Below.refl _ _).alloc (Nat.le_refl _) _).alloc (by simp) _)).out.mono ?_
      rintro e w1 ⟨rfl, hb⟩
      have O0 : OwnB w1 w.heap.size _ 82 := ⟨(hb.block _ (by simp; omega)).trans (OwnB.alloc (OwnB.new rfl) _).blk⟩
      have O1 : OwnB w1 (w.heap.size + 1) _ 82 := ⟨(hb.block _ (by simp)).trans (OwnB.new (by simp)).blk⟩
      obtain ⟨y0, x0, z0⟩ := O0.facts
      obtain ⟨y1, x1, z1⟩ := O1.facts
      have HB := Lib.hid ((((Below.refl w.heap.size w).alloc (Nat.le_refl _) _).alloc (by simp) _).trans (hb.mono (by simp; omega)))
      have hz : w.heap.size + 1 < w1.heap.size := lt_of_blk O1.blk
      clear hb
      go_wp2_with fail
      all_goals
        go_ret
        refine ⟨?_, HB.out⟩
        simp [*] <;> rfl
    all_goals
      go_ret
      refine ⟨?_, ((Below.refl _ _).alloc (Nat.le_refl _) _).alloc (by simp) _⟩
      simp [*]
  · skip
    rw [hx] at CE
    rw [hk] at CS
    have hx1 : ¬ ex = ex2 := of_decide_eq_false hx
    obtain rfl := of_decide_eq_true hk
    go_enter Tryd.func59, Tryd.ntmps59
    go_wp2_with fail
    · refine (CE _ (((Below.refl _ _).alloc (Nat.le_refl _) _).alloc (by simp) _)).out.mono ?_
      rintro e w1 ⟨rfl, hb⟩
      have O0 : OwnB w1 w.heap.size _ 82 := ⟨(hb.block _ (by simp; omega)).trans (OwnB.alloc (OwnB.new rfl) _).blk⟩
      have O1 : OwnB w1 (w.heap.size + 1) _ 82 := ⟨(hb.block _ (by simp)).trans (OwnB.new (by simp)).blk⟩
      obtain ⟨y0, x0, z0⟩ := O0.facts
      obtain ⟨y1, x1, z1⟩ := O1.facts
      have HB := Lib.hid ((((Below.refl w.heap.size w).alloc (Nat.le_refl _) _).alloc (by simp) _).trans (hb.mono (by simp; omega)))
      have hz : w.heap.size + 1 < w1.heap.size := lt_of_blk O1.blk
      clear hb
      go_wp2_with fail
      all_goals
        go_ret
        refine ⟨?_, HB.out⟩
        simp [*] <;> rfl
    all_goals
      go_ret
      refine ⟨?_, ((Below.refl _ _).alloc (Nat.le_refl _) _).alloc (by simp) _⟩
      simp [*]
  · skip
    rw [hx] at CE
    rw [hk] at CS
    obtain rfl := of_decide_eq_true hx
    have hk1 : ¬ body = body2 := of_decide_eq_false hk
    go_enter Tryd.func59, Tryd.ntmps59
    go_wp2_with fail
    · refine (CE _ (((Below.refl _ _).alloc (Nat.le_refl _) _).alloc (by simp) _)).out.mono ?_
      rintro e w1 ⟨rfl, hb⟩
      have O0 : OwnB w1 w.heap.size _ 82 := ⟨(hb.block _ (by simp; omega)).trans (OwnB.alloc (OwnB.new rfl) _).blk⟩
      have O1 : OwnB w1 (w.heap.size + 1) _ 82 := ⟨(hb.block _ (by simp)).trans (OwnB.new (by simp)).blk⟩
      obtain ⟨y0, x0, z0⟩ := O0.facts
      obtain ⟨y1, x1, z1⟩ := O1.facts
      have HB := Lib.hid ((((Below.refl w.heap.size w).alloc (Nat.le_refl _) _).alloc (by simp) _).trans (hb.mono (by simp; omega)))
      have hz : w.heap.size + 1 < w1.heap.size := lt_of_blk O1.blk
      clear hb
      go_wp2_with fail
      refine (CS _ HB.out).out.mono ?_
      rintro e w2 ⟨rfl, hb2⟩
      have P0 : OwnB w2 w.heap.size _ 82 := ⟨(hb2.block _ (by omega)).trans O0.blk⟩
      have P1 : OwnB w2 (w.heap.size + 1) _ 82 := ⟨(hb2.block _ (by omega)).trans O1.blk⟩
      obtain ⟨u0, s0, t0⟩ := P0.facts
      obtain ⟨u1, s1, t1⟩ := P1.facts
      have HB2 := Lib.hid (HB.out.trans (hb2.mono HB.out.size))
      clear hb2 HB
      have HB := HB2
      go_wp2_with fail
      all_goals
        go_ret
        refine ⟨?_, HB.out⟩
        simp [*] <;> rfl
    all_goals
      go_ret
      refine ⟨?_, ((Below.refl _ _).alloc (Nat.le_refl _) _).alloc (by simp) _⟩
      simp [*]
  · skip
    rw [hx] at CE
    rw [hk] at CS
    obtain rfl := of_decide_eq_true hx
    obtain rfl := of_decide_eq_true hk
    go_enter Tryd.func59, Tryd.ntmps59
    go_wp2_with fail
    · refine (CE _ (((Below.refl _ _).alloc (Nat.le_refl _) _).alloc (by simp) _)).out.mono ?_
      rintro e w1 ⟨rfl, hb⟩
      have O0 : OwnB w1 w.heap.size _ 82 := ⟨(hb.block _ (by simp; omega)).trans (OwnB.alloc (OwnB.new rfl) _).blk⟩
      have O1 : OwnB w1 (w.heap.size + 1) _ 82 := ⟨(hb.block _ (by simp)).trans (OwnB.new (by simp)).blk⟩
      obtain ⟨y0, x0, z0⟩ := O0.facts
      obtain ⟨y1, x1, z1⟩ := O1.facts
      have HB := Lib.hid ((((Below.refl w.heap.size w).alloc (Nat.le_refl _) _).alloc (by simp) _).trans (hb.mono (by simp; omega)))
      have hz : w.heap.size + 1 < w1.heap.size := lt_of_blk O1.blk
      clear hb
      go_wp2_with fail
      refine (CS _ HB.out).out.mono ?_
      rintro e w2 ⟨rfl, hb2⟩
      have P0 : OwnB w2 w.heap.size _ 82 := ⟨(hb2.block _ (by omega)).trans O0.blk⟩
      have P1 : OwnB w2 (w.heap.size + 1) _ 82 := ⟨(hb2.block _ (by omega)).trans O1.blk⟩
      obtain ⟨u0, s0, t0⟩ := P0.facts
      obtain ⟨u1, s1, t1⟩ := P1.facts
      have HB2 := Lib.hid (HB.out.trans (hb2.mono HB.out.size))
      clear hb2 HB
      have HB := HB2
      go_wp2_with fail
      all_goals
        go_ret
        refine ⟨?_, HB.out⟩
        simp [*] <;> rfl
    all_goals
      go_ret
      refine ⟨?_, ((Below.refl _ _).alloc (Nat.le_refl _) _).alloc (by simp) _⟩
      simp [*]
theorem eqStmts_step (n : Nat) (IH : EqSs n) (x y : Sts) (hx : x.size < n + 1) (w : World) (v u : Value) (F G : List Nat) (hv : RowS w x v F) (hu : RowS w y u G) : Calls Tryd.prog 44 #[v, u] w (Same (decide (x = y)) w) := by
  have HV := Lib.hid hv
  have HU := Lib.hid hu
  obtain ⟨ks, F0, h1, h2, _⟩ := hv
  obtain ⟨kt, G0, h3, h4, _⟩ := hu
  have hl1 := ownLen h1
  have hl2 := ownLen h3
  unfold maxLen at hl1 hl2
  have e1 : ∃ a c, v = .slice a x.len c := by
    rcases h1.2 with ⟨rfl, h⟩ | ⟨g, cap, cur, rfl, _⟩
    · exact ⟨none, 0, by rw [h]⟩
    · exact ⟨_, _, rfl⟩
  have e2 : ∃ a c, u = .slice a y.len c := by
    rcases h3.2 with ⟨rfl, h⟩ | ⟨g, cap, cur, rfl, _⟩
    · exact ⟨none, 0, by rw [h]⟩
    · exact ⟨_, _, rfl⟩
  obtain ⟨a, c, rfl⟩ := e1
  obtain ⟨a2, c2, rfl⟩ := e2
  by_cases hlen : x.len = y.len
  · have hd : ((x.len : Int) != (y.len : Int)) = false := by simp [hlen]
    have HL := Lib.hid hlen
    clear hlen
    go_enter Tryd.func44, Tryd.ntmps44
    go_wp2_with fail
    go_loopw [5, 11, 12, 13, 14, 15, 16, 17, 18, 19, 20, 21, 22, 23, 24, 25, 26] (fun i _ _ _ _ _ _ _ _ _ _ _ _ _ _ _ _ wr => ∃ k : Nat, k ≤ x.len ∧ i = .int .i64 k ∧ x.toL.take k = y.toL.take k ∧ Below w.heap.size w wr) (fun i _ _ _ _ _ _ _ _ _ _ _ _ _ _ _ _ _ => x.len - (intOf i).toNat)
    case atStart => exact ⟨0, by omega, rfl, rfl, Below.refl _ _⟩
    case round =>
      obtain ⟨k, hk, rfl, htk, hb⟩ := hrel
      by_cases hlt : k < x.len
      · have hd1 : decide ((k : Int) < (x.len : Int)) = true := by simp; omega
        have hd2 : decide ((k : Int) < (y.len : Int)) = true := by have := HL.out; simp; omega
        have hk0 : (0 : Int) ≤ (k : Int) := by omega
        have hk1 : (k : Int) < (x.len : Int) := by omega
        have hk2 : (k : Int) < (y.len : Int) := by have := HL.out; omega
        obtain ⟨e, he⟩ : ∃ e, x.toL[k]? = some e := ⟨_, List.getElem?_eq_getElem (by rw [Sts.toL_len]; exact hlt)⟩
        obtain ⟨d, hdd⟩ : ∃ d, y.toL[k]? = some d := ⟨_, List.getElem?_eq_getElem (by rw [Sts.toL_len]; have := HL.out; omega)⟩
        obtain ⟨js, I0, i1, i2, _⟩ := HV.out.low hb
        obtain ⟨jt, J0, i3, i4, _⟩ := HU.out.low hb
        obtain ⟨ev, kv, Fe, Fi, r0, r1, r3⟩ := StsIn.get _ _ _ i2 k e he
        obtain ⟨eu, ku, Ge, Gi, r7, r4, r6⟩ := StsIn.get _ _ _ i4 k d hdd
        obtain ⟨g, cap, hg, hgl, hgc⟩ := own_get i1 (by omega)
        obtain ⟨g2, cap2, hg2, hgl2, hgc2⟩ := own_get i3 (by have := HL.out; omega)
        injection hg with q1 q2 q3
        injection hg2 with q4 q5 q6
        subst q1 q3 q4 q6
        have hc1 : ∀ j u, (stC e ev kv)[j]? = some u → wr.drew.cell? ⟨g, k * 9 + j, none⟩ = some u := fun j u hu => hgc _ _ (r3 j u hu)
        have hc2 : ∀ j u, (stC d eu ku)[j]? = some u → wr.drew.cell? ⟨g2, k * 9 + j, none⟩ = some u := fun j u hu => hgc2 _ _ (r6 j u hu)
        have hes := Sts.size_mem x e (List.mem_of_getElem? he)
        have CE := Lib.hid (eqStmt_step n IH e d (by omega) wr.drew ev eu kv ku Fe Ge Fi Gi (r0.at_ (fun _ _ => rfl)) (r7.at_ (fun _ _ => rfl)) (r1.at_ (fun _ _ => rfl)) (r4.at_ (fun _ _ => rfl)))
        unfold stC at CE
        clear i1 i2 i3 i4 r0 r1 r3 r4 r6 r7 hgc hgc2
        cases hb8 : decide (e = d) with
        | true =>
          rw [hb8] at CE
          go_wp2_with fail
          refine wpTo_start (fun w' => (∀ j u, (stC e ev kv)[j]? = some u → w'.cell? ⟨g, k * 9 + j, none⟩ = some u) ∧ (∀ j u, (stC d eu ku)[j]? = some u → w'.cell? ⟨g2, k * 9 + j, none⟩ = some u)) 8 (by kernel_rfl) ⟨hc1, hc2⟩ (fun hHeld => ?_)
          refine wpTo_takeE 0 (v := ?_) (by kernel_rfl) rfl (by kernel_rfl) (by kernel_rfl) rfl (fun _ _ _ h => h) (Or.inl ⟨by rfl, ?_⟩) (fun _ => hHeld) ?_
          rotate_left
          · (intro w' hSw; go_simp; try with_reducible rfl)
          try simp only [Act.put, List.setIfInBounds_toArray, List.set_cons_zero, List.set_cons_succ]
          refine wpTo_takeE 1 (v := ?_) (by kernel_rfl) rfl (by kernel_rfl) (by kernel_rfl) rfl (fun _ _ _ h => h) (Or.inl ⟨by rfl, ?_⟩) (fun _ => hHeld) ?_
          rotate_left
          · (intro w' hSw; go_simp; try with_reducible rfl)
          try simp only [Act.put, List.setIfInBounds_toArray, List.set_cons_zero, List.set_cons_succ]
          refine wpTo_takeE 2 (v := ?_) (by kernel_rfl) rfl (by kernel_rfl) (by kernel_rfl) rfl (fun _ _ _ h => h) (Or.inl ⟨by rfl, ?_⟩) (fun _ => hHeld) ?_
          rotate_left
          · (intro w' hSw; go_simp; try with_reducible rfl)
          try simp only [Act.put, List.setIfInBounds_toArray, List.set_cons_zero, List.set_cons_succ]
          refine wpTo_take 3 (v := ?_) (by kernel_rfl) (by kernel_rfl) rfl (by kernel_rfl) (by kernel_rfl) rfl (fun _ _ _ h => h) (Or.inl ⟨by rfl, ?_⟩) hHeld ?_
          rotate_left
          · (intro w' ⟨ha, hb⟩; have a0 := ha 0 _ rfl; have a1 := ha 1 _ rfl; have a2 := ha 2 _ rfl; have a3 := ha 3 _ rfl; have a4 := ha 4 _ rfl; have a5 := ha 5 _ rfl; have a6 := ha 6 _ rfl; have a7 := ha 7 _ rfl; have a8 := ha 8 _ rfl; have b0 := hb 0 _ rfl; have b1 := hb 1 _ rfl; have b2 := hb 2 _ rfl; have b3 := hb 3 _ rfl; have b4 := hb 4 _ rfl; have b5 := hb 5 _ rfl; have b6 := hb 6 _ rfl; have b7 := hb 7 _ rfl; have b8 := hb 8 _ rfl; simp only [Nat.add_zero] at a0 b0; clear ha hb; go_simp; try with_reducible rfl)
          try simp only [Act.put, List.setIfInBounds_toArray, List.set_cons_zero, List.set_cons_succ]
          refine wpTo_takeE 4 (v := ?_) (by kernel_rfl) rfl (by kernel_rfl) (by kernel_rfl) rfl (fun _ _ _ h => h) (Or.inl ⟨by rfl, ?_⟩) (fun _ => hHeld) ?_
          rotate_left
          · (intro w' hSw; go_simp; try with_reducible rfl)
          try simp only [Act.put, List.setIfInBounds_toArray, List.set_cons_zero, List.set_cons_succ]
          refine wpTo_takeE 5 (v := ?_) (by kernel_rfl) rfl (by kernel_rfl) (by kernel_rfl) rfl (fun _ _ _ h => h) (Or.inl ⟨by rfl, ?_⟩) (fun _ => hHeld) ?_
          rotate_left
          · (intro w' hSw; go_simp; try with_reducible rfl)
          try simp only [Act.put, List.setIfInBounds_toArray, List.set_cons_zero, List.set_cons_succ]
          refine wpTo_takeE 6 (v := ?_) (by kernel_rfl) rfl (by kernel_rfl) (by kernel_rfl) rfl (fun _ _ _ h => h) (Or.inl ⟨by rfl, ?_⟩) (fun _ => hHeld) ?_
          rotate_left
          · (intro w' hSw; go_simp; try with_reducible rfl)
          try simp only [Act.put, List.setIfInBounds_toArray, List.set_cons_zero, List.set_cons_succ]
          refine wpTo_take 7 (v := ?_) (by kernel_rfl) (by kernel_rfl) rfl (by kernel_rfl) (by kernel_rfl) rfl (fun _ _ _ h => h) (Or.inl ⟨by rfl, ?_⟩) hHeld ?_
          rotate_left
          · (intro w' ⟨ha, hb⟩; have a0 := ha 0 _ rfl; have a1 := ha 1 _ rfl; have a2 := ha 2 _ rfl; have a3 := ha 3 _ rfl; have a4 := ha 4 _ rfl; have a5 := ha 5 _ rfl; have a6 := ha 6 _ rfl; have a7 := ha 7 _ rfl; have a8 := ha 8 _ rfl; have b0 := hb 0 _ rfl; have b1 := hb 1 _ rfl; have b2 := hb 2 _ rfl; have b3 := hb 3 _ rfl; have b4 := hb 4 _ rfl; have b5 := hb 5 _ rfl; have b6 := hb 6 _ rfl; have b7 := hb 7 _ rfl; have b8 := hb 8 _ rfl; simp only [Nat.add_zero] at a0 b0; clear ha hb; go_simp; try with_reducible rfl)
          try simp only [Act.put, List.setIfInBounds_toArray, List.set_cons_zero, List.set_cons_succ]
          refine wpTo_one 8 (by kernel_rfl) rfl (fun K hKo => ?_)
          go_simp
          refine CE.out.mono ?_
          rintro e1 w1 ⟨rfl, hb1⟩
          have HB := Lib.hid (hb.trans ((⟨rfl, rfl, rfl, Nat.le_refl _, fun _ _ => rfl⟩ : Below w.heap.size wr wr.drew).trans (hb1.mono hb.size)))
          clear hb1
          go_wp2_with fail
          refine Shut.out hKo _ _ (fun h _ => absurd rfl h) ?_
          clear hKo K
          try simp only [Act.put, List.setIfInBounds_toArray, List.set_cons_zero, List.set_cons_succ]
          refine wpTo_one 9 (by kernel_rfl) rfl (fun K hKo => ?_)
          go_simp
          refine Shut.out hKo _ _ (fun _ h => absurd h (by decide)) ?_
          clear hKo K
          try simp only [Act.put, List.setIfInBounds_toArray, List.set_cons_zero, List.set_cons_succ]
          refine wpTo_done (by kernel_rfl) ?_ _
          go_wp2_with fail
          go_roundw
          case measure => simp [intOf]; omega
          case rel =>
            refine ⟨k + 1, by omega, by simp, ?_, HB.out⟩
            rw [List.take_add_one, List.take_add_one, htk, he, hdd, of_decide_eq_true hb8]
        | false =>
          rw [hb8] at CE
          go_wp2_with fail
          refine wpTo_start (fun w' => (∀ j u, (stC e ev kv)[j]? = some u → w'.cell? ⟨g, k * 9 + j, none⟩ = some u) ∧ (∀ j u, (stC d eu ku)[j]? = some u → w'.cell? ⟨g2, k * 9 + j, none⟩ = some u)) 8 (by kernel_rfl) ⟨hc1, hc2⟩ (fun hHeld => ?_)
          refine wpTo_takeE 0 (v := ?_) (by kernel_rfl) rfl (by kernel_rfl) (by kernel_rfl) rfl (fun _ _ _ h => h) (Or.inl ⟨by rfl, ?_⟩) (fun _ => hHeld) ?_
          rotate_left
          · (intro w' hSw; go_simp; try with_reducible rfl)
          try simp only [Act.put, List.setIfInBounds_toArray, List.set_cons_zero, List.set_cons_succ]
          refine wpTo_takeE 1 (v := ?_) (by kernel_rfl) rfl (by kernel_rfl) (by kernel_rfl) rfl (fun _ _ _ h => h) (Or.inl ⟨by rfl, ?_⟩) (fun _ => hHeld) ?_
          rotate_left
          · (intro w' hSw; go_simp; try with_reducible rfl)
          try simp only [Act.put, List.setIfInBounds_toArray, List.set_cons_zero, List.set_cons_succ]
          refine wpTo_takeE 2 (v := ?_) (by kernel_rfl) rfl (by kernel_rfl) (by kernel_rfl) rfl (fun _ _ _ h => h) (Or.inl ⟨by rfl, ?_⟩) (fun _ => hHeld) ?_
          rotate_left
          · (intro w' hSw; go_simp; try with_reducible rfl)
          try simp only [Act.put, List.setIfInBounds_toArray, List.set_cons_zero, List.set_cons_succ]
          refine wpTo_take 3 (v := ?_) (by kernel_rfl) (by kernel_rfl) rfl (by kernel_rfl) (by kernel_rfl) rfl (fun _ _ _ h => h) (Or.inl ⟨by rfl, ?_⟩) hHeld ?_
          rotate_left
          · (intro w' ⟨ha, hb⟩; have a0 := ha 0 _ rfl; have a1 := ha 1 _ rfl; have a2 := ha 2 _ rfl; have a3 := ha 3 _ rfl; have a4 := ha 4 _ rfl; have a5 := ha 5 _ rfl; have a6 := ha 6 _ rfl; have a7 := ha 7 _ rfl; have a8 := ha 8 _ rfl; have b0 := hb 0 _ rfl; have b1 := hb 1 _ rfl; have b2 := hb 2 _ rfl; have b3 := hb 3 _ rfl; have b4 := hb 4 _ rfl; have b5 := hb 5 _ rfl; have b6 := hb 6 _ rfl; have b7 := hb 7 _ rfl; have b8 := hb 8 _ rfl; simp only [Nat.add_zero] at a0 b0; clear ha hb; go_simp; try with_reducible rfl)
          try simp only [Act.put, List.setIfInBounds_toArray, List.set_cons_zero, List.set_cons_succ]
          refine wpTo_takeE 4 (v := ?_) (by kernel_rfl) rfl (by kernel_rfl) (by kernel_rfl) rfl (fun _ _ _ h => h) (Or.inl ⟨by rfl, ?_⟩) (fun _ => hHeld) ?_
          rotate_left
          · (intro w' hSw; go_simp; try with_reducible rfl)
          try simp only [Act.put, List.setIfInBounds_toArray, List.set_cons_zero, List.set_cons_succ]
          refine wpTo_takeE 5 (v := ?_) (by kernel_rfl) rfl (by kernel_rfl) (by kernel_rfl) rfl (fun _ _ _ h => h) (Or.inl ⟨by rfl, ?_⟩) (fun _ => hHeld) ?_
          rotate_left
          · (intro w' hSw; go_simp; try with_reducible rfl)
          try simp only [Act.put, List.setIfInBounds_toArray, List.set_cons_zero, List.set_cons_succ]
          refine wpTo_takeE 6 (v := ?_) (by kernel_rfl) rfl (by kernel_rfl) (by kernel_rfl) rfl (fun _ _ _ h => h) (Or.inl ⟨by rfl, ?_⟩) (fun _ => hHeld) ?_
          rotate_left
          · (intro w' hSw; go_simp; try with_reducible rfl)
          try simp only [Act.put, List.setIfInBounds_toArray, List.set_cons_zero, List.set_cons_succ]
          refine wpTo_take 7 (v := ?_) (by kernel_rfl) (by kernel_rfl) rfl (by kernel_rfl) (by kernel_rfl) rfl (fun _ _ _ h => h) (Or.inl ⟨by rfl, ?_⟩) hHeld ?_
          rotate_left
          · (intro w' ⟨ha, hb⟩; have a0 := ha 0 _ rfl; have a1 := ha 1 _ rfl; have a2 := ha 2 _ rfl; have a3 := ha 3 _ rfl; have a4 := ha 4 _ rfl; have a5 := ha 5 _ rfl; have a6 := ha 6 _ rfl; have a7 := ha 7 _ rfl; have a8 := ha 8 _ rfl; have b0 := hb 0 _ rfl; have b1 := hb 1 _ rfl; have b2 := hb 2 _ rfl; have b3 := hb 3 _ rfl; have b4 := hb 4 _ rfl; have b5 := hb 5 _ rfl; have b6 := hb 6 _ rfl; have b7 := hb 7 _ rfl; have b8 := hb 8 _ rfl; simp only [Nat.add_zero] at a0 b0; clear ha hb; go_simp; try with_reducible rfl)
          try simp only [Act.put, List.setIfInBounds_toArray, List.set_cons_zero, List.set_cons_succ]
          refine wpTo_one 8 (by kernel_rfl) rfl (fun K hKo => ?_)
          go_simp
          refine CE.out.mono ?_
          rintro e1 w1 ⟨rfl, hb1⟩
          have HB := Lib.hid (hb.trans ((⟨rfl, rfl, rfl, Nat.le_refl _, fun _ _ => rfl⟩ : Below w.heap.size wr wr.drew).trans (hb1.mono hb.size)))
          clear hb1
          go_wp2_with fail
          refine Shut.out hKo _ _ (fun h _ => absurd rfl h) ?_
          clear hKo K
          try simp only [Act.put, List.setIfInBounds_toArray, List.set_cons_zero, List.set_cons_succ]
          refine wpTo_one 9 (by kernel_rfl) rfl (fun K hKo => ?_)
          go_simp
          refine Shut.out hKo _ _ (fun _ h => absurd h (by decide)) ?_
          clear hKo K
          try simp only [Act.put, List.setIfInBounds_toArray, List.set_cons_zero, List.set_cons_succ]
          refine wpTo_done (by kernel_rfl) ?_ _
          go_wp2_with fail
          go_ret
          refine ⟨?_, HB.out⟩
          have hne : decide (x = y) = false := by
            apply decide_eq_false
            rintro rfl
            rw [he] at hdd
            exact (of_decide_eq_false hb8) (Option.some.inj hdd)
          rw [hne]
          rfl
      · obtain rfl : k = x.len := by omega
        have hd1 : decide ((x.len : Int) < (x.len : Int)) = false := by simp
        have hd2 : decide ((x.len : Int) < (y.len : Int)) = false := by have := HL.out; simp; omega
        have hxy : x = y := by
          apply Sts.toL_inj
          rw [← Sts.toL_len, List.take_length, Sts.toL_len, HL.out, ← Sts.toL_len, List.take_length] at htk
          exact htk
        go_wp2_with fail
        go_ret
        exact ⟨by rw [decide_eq_true hxy]; rfl, hb⟩
  · have hd : ((x.len : Int) != (y.len : Int)) = true := by simp; omega
    have hne : decide (x = y) = false := by
      apply decide_eq_false
      rintro rfl
      exact hlen rfl
    rw [hne]
    go_enter Tryd.func44, Tryd.ntmps44
    go_wp2_with fail
    go_ret
    exact ⟨rfl, Below.refl _ _⟩
theorem eqSs : ∀ n, EqSs n := by
  intro n
  induction n with
  | zero => intro x y h; omega
  | succ n ih => exact fun x y h w v u F G => eqStmts_step n ih x y h w v u F G
theorem eqStmts_any (x y : Sts) (w : World) (v u : Value) (F G : List Nat) (hv : RowS w x v F) (hu : RowS w y u G) : Calls Tryd.prog 44 #[v, u] w (Same (decide (x = y)) w) := eqSs (x.size + 1) x y (by omega) w v u F G hv hu
end Go.Proofs.YtjmemapkipkocaaDoor

/-
  Are two lists of numbers the same?
-/
namespace Go.Proofs.YtjmemapkipkocaaDoor
open Go.RowKit Go.Maps
set_option linter.unusedVariables false
set_option linter.unusedSimpArgs false
set_option maxRecDepth 100000
set_option maxHeartbeats 1000000

theorem RowI.lt {w : World} {x : List Int} {v : Value} {F : List Nat} (h : RowI w x v F) : ∀ b ∈ F, b < w.heap.size := by
  obtain ⟨h1, rfl⟩ := h
  exact ownF_lt h1
theorem RowI.low {w w' : World} {x : List Int} {v : Value} {F : List Nat} (h : RowI w x v F) (hb : Below w.heap.size w w') : RowI w' x v F := h.at_ (fun b hm => hb.block b (h.lt b hm))
theorem DcsIn.lt {w : World} : ∀ (x : List Dec) (xs : List Value) (F : List Nat), DcsIn w x xs F → ∀ b ∈ F, b < w.heap.size := by
  intro x
  induction x with
  | nil => rintro xs F ⟨rfl, rfl⟩ b hb; cases hb
  | cons d r ih =>
    rintro xs F ⟨iv, Fi, xs', F', rfl, rfl, h1, h2⟩ b hb
    rcases List.mem_append.1 hb with hb | hb
    · exact h1.lt b hb
    · exact ih _ _ h2 b hb
theorem RowD.lt {w : World} {x : List Dec} {v : Value} {F : List Nat} (h : RowD w x v F) : ∀ b ∈ F, b < w.heap.size := by
  obtain ⟨ks, F0, h1, h2, rfl⟩ := h
  intro b hb
  rcases List.mem_append.1 hb with hb | hb
  · exact ownF_lt h1 b hb
  · exact DcsIn.lt _ _ _ h2 b hb
theorem RowD.low {w w' : World} {x : List Dec} {v : Value} {F : List Nat} (h : RowD w x v F) (hb : Below w.heap.size w w') : RowD w' x v F := h.at_ (fun b hm => hb.block b (h.lt b hm))
theorem DcsIn.get {w : World} : ∀ (x : List Dec) (xs : List Value) (F : List Nat), DcsIn w x xs F → ∀ (i : Nat) (e : Dec), x[i]? = some e → ∃ iv Fi, RowI w e.init iv Fi ∧ ∀ j u, (dcC e iv)[j]? = some u → xs[i * 6 + j]? = some u := by
  intro x
  induction x with
  | nil => intro xs F h i e he; simp at he
  | cons d r ih =>
    rintro xs F ⟨iv, Fi, xs', F', rfl, rfl, h1, h2⟩ i e he
    cases i with
    | zero =>
      obtain rfl : d = e := by simpa using he
      refine ⟨iv, Fi, h1, fun j u hu => ?_⟩
      rw [Nat.zero_mul, Nat.zero_add, List.getElem?_append_left (List.getElem?_eq_some_iff.1 hu).1]
      exact hu
    | succ i =>
      obtain ⟨iv2, Fi2, h6, h8⟩ := ih _ _ h2 i e (by simpa using he)
      refine ⟨iv2, Fi2, h6, fun j u hu => ?_⟩
      have hl : (dcC d iv).length = 6 := rfl
      rw [List.getElem?_append_right (by rw [hl]; omega), hl, ← h8 j u hu]
      congr 1; omega
theorem RowF.lt {w : World} {d : Fn} {pv bv : Value} {F : List Nat} (h : RowF w d pv bv F) : ∀ b ∈ F, b < w.heap.size := by
  obtain ⟨F1, F2, h1, h2, rfl⟩ := h
  intro b hb
  rcases List.mem_append.1 hb with hb | hb
  · exact h1.lt b hb
  · exact h2.lt b hb
theorem FnsIn.lt {w : World} : ∀ (x : List Fn) (xs : List Value) (F : List Nat), FnsIn w x xs F → ∀ b ∈ F, b < w.heap.size := by
  intro x
  induction x with
  | nil => rintro xs F ⟨rfl, rfl⟩ b hb; cases hb
  | cons d r ih =>
    rintro xs F ⟨pv, bv, Fi, xs', F', rfl, rfl, h1, h2⟩ b hb
    rcases List.mem_append.1 hb with hb | hb
    · exact h1.lt b hb
    · exact ih _ _ h2 b hb
theorem RowFs.lt {w : World} {x : List Fn} {v : Value} {F : List Nat} (h : RowFs w x v F) : ∀ b ∈ F, b < w.heap.size := by
  obtain ⟨ks, F0, h1, h2, rfl⟩ := h
  intro b hb
  rcases List.mem_append.1 hb with hb | hb
  · exact ownF_lt h1 b hb
  · exact FnsIn.lt _ _ _ h2 b hb
theorem RowFs.low {w w' : World} {x : List Fn} {v : Value} {F : List Nat} (h : RowFs w x v F) (hb : Below w.heap.size w w') : RowFs w' x v F := h.at_ (fun b hm => hb.block b (h.lt b hm))
theorem FnsIn.get {w : World} : ∀ (x : List Fn) (xs : List Value) (F : List Nat), FnsIn w x xs F → ∀ (i : Nat) (e : Fn), x[i]? = some e → ∃ pv bv Fi, RowF w e pv bv Fi ∧ ∀ j u, (fnC e pv bv)[j]? = some u → xs[i * 8 + j]? = some u := by
  intro x
  induction x with
  | nil => intro xs F h i e he; simp at he
  | cons d r ih =>
    rintro xs F ⟨pv, bv, Fi, xs', F', rfl, rfl, h1, h2⟩ i e he
    cases i with
    | zero =>
      obtain rfl : d = e := by simpa using he
      refine ⟨pv, bv, Fi, h1, fun j u hu => ?_⟩
      rw [Nat.zero_mul, Nat.zero_add, List.getElem?_append_left (List.getElem?_eq_some_iff.1 hu).1]
      exact hu
    | succ i =>
      obtain ⟨pv2, bv2, Fi2, h6, h8⟩ := ih _ _ h2 i e (by simpa using he)
      refine ⟨pv2, bv2, Fi2, h6, fun j u hu => ?_⟩
      have hl : (fnC d pv bv).length = 8 := rfl
      rw [List.getElem?_append_right (by rw [hl]; omega), hl, ← h8 j u hu]
      congr 1; omega
theorem eqLongs_any (x y : List Int) (w : World) (v u : Value) (F G : List Nat) (hv : RowI w x v F) (hu : RowI w y u G) : Calls Tryd.prog 43 #[v, u] w (Same (decide (x = y)) w) := by
  have h1 := hv.1
  have h3 := hu.1
  have hl1 := ownLen h1
  have hl2 := ownLen h3
  unfold maxLen at hl1 hl2
  have e1 : ∃ a c, v = .slice a x.length c := by
    rcases h1.2 with ⟨rfl, h⟩ | ⟨g, cap, cur, rfl, _⟩
    · exact ⟨none, 0, by rw [h]⟩
    · exact ⟨_, _, rfl⟩
  have e2 : ∃ a c, u = .slice a y.length c := by
    rcases h3.2 with ⟨rfl, h⟩ | ⟨g, cap, cur, rfl, _⟩
    · exact ⟨none, 0, by rw [h]⟩
    · exact ⟨_, _, rfl⟩
  have HV := Lib.hid hv
  have HU := Lib.hid hu
  clear h1 h3 hv hu
  obtain ⟨a, c, rfl⟩ := e1
  obtain ⟨a2, c2, rfl⟩ := e2
  by_cases hlen : x.length = y.length
  · have hd : ((x.length : Int) != (y.length : Int)) = false := by simp [hlen]
    have HL := Lib.hid hlen
    clear hlen
    go_enter Tryd.func43, Tryd.ntmps43
    go_wp2_with fail
    go_loopw [5, 11, 12, 13, 14, 15, 16, 17, 18, 19, 20, 21, 22, 23, 24, 25] (fun i _ _ _ _ _ _ _ _ _ _ _ _ _ _ _ wr => ∃ k : Nat, k ≤ x.length ∧ i = .int .i64 k ∧ x.take k = y.take k ∧ Below w.heap.size w wr) (fun i _ _ _ _ _ _ _ _ _ _ _ _ _ _ _ _ => x.length - (intOf i).toNat)
    case atStart => exact ⟨0, by omega, rfl, rfl, Below.refl _ _⟩
    case round =>
      obtain ⟨k, hk, rfl, htk, hb⟩ := hrel
      by_cases hlt : k < x.length
      · have hd1 : decide ((k : Int) < (x.length : Int)) = true := by simp; omega
        have hd2 : decide ((k : Int) < (y.length : Int)) = true := by have := HL.out; simp; omega
        have hk0 : (0 : Int) ≤ (k : Int) := by omega
        have hk1 : (k : Int) < (x.length : Int) := by omega
        have hk2 : (k : Int) < (y.length : Int) := by have := HL.out; omega
        obtain ⟨e, he⟩ : ∃ e, x[k]? = some e := ⟨_, List.getElem?_eq_getElem hlt⟩
        obtain ⟨d, hdd⟩ : ∃ d, y[k]? = some d := ⟨_, List.getElem?_eq_getElem (by have := HL.out; omega)⟩
        obtain ⟨g, cap, hg, hgl, hgc⟩ := own_get (HV.out.low hb).1 (by omega)
        obtain ⟨g2, cap2, hg2, hgl2, hgc2⟩ := own_get (HU.out.low hb).1 (by have := HL.out; omega)
        injection hg with q1 q2 q3
        injection hg2 with q4 q5 q6
        subst q1 q3 q4 q6
        have hc1 : wr.drew.cell? ⟨g, k, none⟩ = some (.int .i64 e) := hgc _ _ (by simp [intsC, he])
        have hc2 : wr.drew.cell? ⟨g2, k, none⟩ = some (.int .i64 d) := hgc2 _ _ (by simp [intsC, hdd])
        clear hgc hgc2
        by_cases hed : e = d
        · have hb8 : (e != d) = false := by simp [hed]
          go_wp2_with fail
          refine wpTo_start (fun w' => w'.cell? ⟨g, k, none⟩ = some (.int .i64 e) ∧ w'.cell? ⟨g2, k, none⟩ = some (.int .i64 d)) 8 (by kernel_rfl) ⟨hc1, hc2⟩ (fun hHeld => ?_)
          refine wpTo_takeE 0 (v := ?_) (by kernel_rfl) rfl (by kernel_rfl) (by kernel_rfl) rfl (fun _ _ _ h => h) (Or.inl ⟨by rfl, ?_⟩) (fun _ => hHeld) ?_
          rotate_left
          · (intro w' hSw; go_simp; try with_reducible rfl)
          try simp only [Act.put, List.setIfInBounds_toArray, List.set_cons_zero, List.set_cons_succ]
          refine wpTo_takeE 1 (v := ?_) (by kernel_rfl) rfl (by kernel_rfl) (by kernel_rfl) rfl (fun _ _ _ h => h) (Or.inl ⟨by rfl, ?_⟩) (fun _ => hHeld) ?_
          rotate_left
          · (intro w' hSw; go_simp; try with_reducible rfl)
          try simp only [Act.put, List.setIfInBounds_toArray, List.set_cons_zero, List.set_cons_succ]
          refine wpTo_takeE 2 (v := ?_) (by kernel_rfl) rfl (by kernel_rfl) (by kernel_rfl) rfl (fun _ _ _ h => h) (Or.inl ⟨by rfl, ?_⟩) (fun _ => hHeld) ?_
          rotate_left
          · (intro w' hSw; go_simp; try with_reducible rfl)
          try simp only [Act.put, List.setIfInBounds_toArray, List.set_cons_zero, List.set_cons_succ]
          refine wpTo_take 3 (v := ?_) (by kernel_rfl) (by kernel_rfl) rfl (by kernel_rfl) (by kernel_rfl) rfl (fun _ _ _ h => h) (Or.inl ⟨by rfl, ?_⟩) hHeld ?_
          rotate_left
          · (intro w' ⟨ha, hb⟩; go_simp; try with_reducible rfl)
          try simp only [Act.put, List.setIfInBounds_toArray, List.set_cons_zero, List.set_cons_succ]
          refine wpTo_takeE 4 (v := ?_) (by kernel_rfl) rfl (by kernel_rfl) (by kernel_rfl) rfl (fun _ _ _ h => h) (Or.inl ⟨by rfl, ?_⟩) (fun _ => hHeld) ?_
          rotate_left
          · (intro w' hSw; go_simp; try with_reducible rfl)
          try simp only [Act.put, List.setIfInBounds_toArray, List.set_cons_zero, List.set_cons_succ]
          refine wpTo_takeE 5 (v := ?_) (by kernel_rfl) rfl (by kernel_rfl) (by kernel_rfl) rfl (fun _ _ _ h => h) (Or.inl ⟨by rfl, ?_⟩) (fun _ => hHeld) ?_
          rotate_left
          · (intro w' hSw; go_simp; try with_reducible rfl)
          try simp only [Act.put, List.setIfInBounds_toArray, List.set_cons_zero, List.set_cons_succ]
          refine wpTo_takeE 6 (v := ?_) (by kernel_rfl) rfl (by kernel_rfl) (by kernel_rfl) rfl (fun _ _ _ h => h) (Or.inl ⟨by rfl, ?_⟩) (fun _ => hHeld) ?_
          rotate_left
          · (intro w' hSw; go_simp; try with_reducible rfl)
          try simp only [Act.put, List.setIfInBounds_toArray, List.set_cons_zero, List.set_cons_succ]
          refine wpTo_take 7 (v := ?_) (by kernel_rfl) (by kernel_rfl) rfl (by kernel_rfl) (by kernel_rfl) rfl (fun _ _ _ h => h) (Or.inl ⟨by rfl, ?_⟩) hHeld ?_
          rotate_left
          · (intro w' ⟨ha, hb⟩; go_simp; try with_reducible rfl)
          try simp only [Act.put, List.setIfInBounds_toArray, List.set_cons_zero, List.set_cons_succ]
          refine wpTo_one 8 (by kernel_rfl) rfl (fun K hKo => ?_)
          go_simp
          refine Shut.out hKo _ _ (fun h _ => absurd rfl h) ?_
          clear hKo K
          try simp only [Act.put, List.setIfInBounds_toArray, List.set_cons_zero, List.set_cons_succ]
          refine wpTo_done (by kernel_rfl) ?_ _
          go_wp2_with fail
          go_roundw
          case measure => simp [intOf]; omega
          case rel =>
            refine ⟨k + 1, by omega, by simp, ?_, hb.trans ⟨rfl, rfl, rfl, Nat.le_refl _, fun _ _ => rfl⟩⟩
            rw [List.take_add_one, List.take_add_one, htk, he, hdd, hed]
        · have hb8 : (e != d) = true := by simp [hed]
          go_wp2_with fail
          refine wpTo_start (fun w' => w'.cell? ⟨g, k, none⟩ = some (.int .i64 e) ∧ w'.cell? ⟨g2, k, none⟩ = some (.int .i64 d)) 8 (by kernel_rfl) ⟨hc1, hc2⟩ (fun hHeld => ?_)
          refine wpTo_takeE 0 (v := ?_) (by kernel_rfl) rfl (by kernel_rfl) (by kernel_rfl) rfl (fun _ _ _ h => h) (Or.inl ⟨by rfl, ?_⟩) (fun _ => hHeld) ?_
          rotate_left
          · (intro w' hSw; go_simp; try with_reducible rfl)
          try simp only [Act.put, List.setIfInBounds_toArray, List.set_cons_zero, List.set_cons_succ]
          refine wpTo_takeE 1 (v := ?_) (by kernel_rfl) rfl (by kernel_rfl) (by kernel_rfl) rfl (fun _ _ _ h => h) (Or.inl ⟨by rfl, ?_⟩) (fun _ => hHeld) ?_
          rotate_left
          · (intro w' hSw; go_simp; try with_reducible rfl)
          try simp only [Act.put, List.setIfInBounds_toArray, List.set_cons_zero, List.set_cons_succ]
          refine wpTo_takeE 2 (v := ?_) (by kernel_rfl) rfl (by kernel_rfl) (by kernel_rfl) rfl (fun _ _ _ h => h) (Or.inl ⟨by rfl, ?_⟩) (fun _ => hHeld) ?_
          rotate_left
          · (intro w' hSw; go_simp; try with_reducible rfl)
          try simp only [Act.put, List.setIfInBounds_toArray, List.set_cons_zero, List.set_cons_succ]
          refine wpTo_take 3 (v := ?_) (by kernel_rfl) (by kernel_rfl) rfl (by kernel_rfl) (by kernel_rfl) rfl (fun _ _ _ h => h) (Or.inl ⟨by rfl, ?_⟩) hHeld ?_
          rotate_left
          · (intro w' ⟨ha, hb⟩; go_simp; try with_reducible rfl)
          try simp only [Act.put, List.setIfInBounds_toArray, List.set_cons_zero, List.set_cons_succ]
          refine wpTo_takeE 4 (v := ?_) (by kernel_rfl) rfl (by kernel_rfl) (by kernel_rfl) rfl (fun _ _ _ h => h) (Or.inl ⟨by rfl, ?_⟩) (fun _ => hHeld) ?_
          rotate_left
          · (intro w' hSw; go_simp; try with_reducible rfl)
          try simp only [Act.put, List.setIfInBounds_toArray, List.set_cons_zero, List.set_cons_succ]
          refine wpTo_takeE 5 (v := ?_) (by kernel_rfl) rfl (by kernel_rfl) (by kernel_rfl) rfl (fun _ _ _ h => h) (Or.inl ⟨by rfl, ?_⟩) (fun _ => hHeld) ?_
          rotate_left
          · (intro w' hSw; go_simp; try with_reducible rfl)
          try simp only [Act.put, List.setIfInBounds_toArray, List.set_cons_zero, List.set_cons_succ]
          refine wpTo_takeE 6 (v := ?_) (by kernel_rfl) rfl (by kernel_rfl) (by kernel_rfl) rfl (fun _ _ _ h => h) (Or.inl ⟨by rfl, ?_⟩) (fun _ => hHeld) ?_
          rotate_left
          · (intro w' hSw; go_simp; try with_reducible rfl)
          try simp only [Act.put, List.setIfInBounds_toArray, List.set_cons_zero, List.set_cons_succ]
          refine wpTo_take 7 (v := ?_) (by kernel_rfl) (by kernel_rfl) rfl (by kernel_rfl) (by kernel_rfl) rfl (fun _ _ _ h => h) (Or.inl ⟨by rfl, ?_⟩) hHeld ?_
          rotate_left
          · (intro w' ⟨ha, hb⟩; go_simp; try with_reducible rfl)
          try simp only [Act.put, List.setIfInBounds_toArray, List.set_cons_zero, List.set_cons_succ]
          refine wpTo_one 8 (by kernel_rfl) rfl (fun K hKo => ?_)
          go_simp
          refine Shut.out hKo _ _ (fun h _ => absurd rfl h) ?_
          clear hKo K
          try simp only [Act.put, List.setIfInBounds_toArray, List.set_cons_zero, List.set_cons_succ]
          refine wpTo_done (by kernel_rfl) ?_ _
          go_wp2_with fail
          go_ret
          refine ⟨?_, hb.trans ⟨rfl, rfl, rfl, Nat.le_refl _, fun _ _ => rfl⟩⟩
          have hne : decide (x = y) = false := by
            apply decide_eq_false
            rintro rfl
            rw [he] at hdd
            exact hed (Option.some.inj hdd)
          rw [hne]
          rfl
      · obtain rfl : k = x.length := by omega
        have hd1 : decide ((x.length : Int) < (x.length : Int)) = false := by simp
        have hd2 : decide ((x.length : Int) < (y.length : Int)) = false := by have := HL.out; simp; omega
        have hxy : x = y := by
          rw [List.take_length, HL.out, List.take_length] at htk
          exact htk
        go_wp2_with fail
        go_ret
        exact ⟨by rw [decide_eq_true hxy]; rfl, hb⟩
  · have hd : ((x.length : Int) != (y.length : Int)) = true := by simp; omega
    have hne : decide (x = y) = false := by
      apply decide_eq_false
      rintro rfl
      exact hlen rfl
    rw [hne]
    go_enter Tryd.func43, Tryd.ntmps43
    go_wp2_with fail
    go_ret
    exact ⟨rfl, Below.refl _ _⟩
end Go.Proofs.YtjmemapkipkocaaDoor

/-
  Are two lists of declarations the same?
-/
namespace Go.Proofs.YtjmemapkipkocaaDoor
open Go.RowKit Go.Maps
set_option linter.unusedVariables false
set_option linter.unusedSimpArgs false
set_option maxRecDepth 100000
set_option maxHeartbeats 1000000

theorem eqDecl_any (e d : Dec) (w : World) (v u : Value) (F G : List Nat) (hv : RowI w e.init v F) (hu : RowI w d.init u G) :
    Calls Tryd.prog 24 #[.agg (dcC e v).toArray, .agg (dcC d u).toArray] w (Same (decide (e = d)) w) := by
  have CE := fun W (H : Below w.heap.size w W) => Lib.hid (eqLongs_any e.init d.init W v u F G (hv.low H) (hu.low H))
  clear hv hu
  obtain ⟨nm, ⟨tk, tp, tl⟩, init, pos⟩ := e
  obtain ⟨nm2, ⟨tk2, tp2, tl2⟩, init2, pos2⟩ := d
  unfold dcC
  simp only at CE ⊢
  rcases hx : decide (init = init2) with _ | _
  · rw [hx] at CE
    have hx1 : ¬ init = init2 := of_decide_eq_false hx
    go_enter Tryd.func24, Tryd.ntmps24
    go_wp2_with fail
    · refine (CE _ (((Below.refl _ _).alloc (Nat.le_refl _) _).alloc (by simp) _)).out.mono ?_
      rintro e w1 ⟨rfl, hb⟩
      have O0 : OwnB w1 w.heap.size _ 50 := ⟨(hb.block _ (by simp; omega)).trans (OwnB.alloc (OwnB.new rfl) _).blk⟩
      have O1 : OwnB w1 (w.heap.size + 1) _ 50 := ⟨(hb.block _ (by simp)).trans (OwnB.new (by simp)).blk⟩
      obtain ⟨y0, x0, z0⟩ := O0.facts
      obtain ⟨y1, x1, z1⟩ := O1.facts
      have HB := Lib.hid ((((Below.refl w.heap.size w).alloc (Nat.le_refl _) _).alloc (by simp) _).trans (hb.mono (by simp; omega)))
      clear hb
      go_wp2_with fail
      all_goals
        go_ret
        refine ⟨?_, HB.out⟩
        simp [*] <;> rfl
    all_goals
      go_ret
      refine ⟨?_, ((Below.refl _ _).alloc (Nat.le_refl _) _).alloc (by simp) _⟩
      simp [*]
  · rw [hx] at CE
    obtain rfl := of_decide_eq_true hx
    go_enter Tryd.func24, Tryd.ntmps24
    go_wp2_with fail
    · refine (CE _ (((Below.refl _ _).alloc (Nat.le_refl _) _).alloc (by simp) _)).out.mono ?_
      rintro e w1 ⟨rfl, hb⟩
      have O0 : OwnB w1 w.heap.size _ 50 := ⟨(hb.block _ (by simp; omega)).trans (OwnB.alloc (OwnB.new rfl) _).blk⟩
      have O1 : OwnB w1 (w.heap.size + 1) _ 50 := ⟨(hb.block _ (by simp)).trans (OwnB.new (by simp)).blk⟩
      obtain ⟨y0, x0, z0⟩ := O0.facts
      obtain ⟨y1, x1, z1⟩ := O1.facts
      have HB := Lib.hid ((((Below.refl w.heap.size w).alloc (Nat.le_refl _) _).alloc (by simp) _).trans (hb.mono (by simp; omega)))
      clear hb
      go_wp2_with fail
      all_goals
        go_ret
        refine ⟨?_, HB.out⟩
        simp [*] <;> rfl
    all_goals
      go_ret
      refine ⟨?_, ((Below.refl _ _).alloc (Nat.le_refl _) _).alloc (by simp) _⟩
      simp [*]
theorem eqDecls_any (x y : List Dec) (w : World) (v u : Value) (F G : List Nat) (hv : RowD w x v F) (hu : RowD w y u G) : Calls Tryd.prog 14 #[v, u] w (Same (decide (x = y)) w) := by
  have HV := Lib.hid hv
  have HU := Lib.hid hu
  obtain ⟨ks, F0, h1, h2, _⟩ := hv
  obtain ⟨kt, G0, h3, h4, _⟩ := hu
  have hl1 := ownLen h1
  have hl2 := ownLen h3
  unfold maxLen at hl1 hl2
  have e1 : ∃ a c, v = .slice a x.length c := by
    rcases h1.2 with ⟨rfl, h⟩ | ⟨g, cap, cur, rfl, _⟩
    · exact ⟨none, 0, by rw [h]⟩
    · exact ⟨_, _, rfl⟩
  have e2 : ∃ a c, u = .slice a y.length c := by
    rcases h3.2 with ⟨rfl, h⟩ | ⟨g, cap, cur, rfl, _⟩
    · exact ⟨none, 0, by rw [h]⟩
    · exact ⟨_, _, rfl⟩
  obtain ⟨a, c, rfl⟩ := e1
  obtain ⟨a2, c2, rfl⟩ := e2
  by_cases hlen : x.length = y.length
  · have hd : ((x.length : Int) != (y.length : Int)) = false := by simp [hlen]
    have HL := Lib.hid hlen
    clear hlen
    go_enter Tryd.func14, Tryd.ntmps14
    go_wp2_with fail
    go_loopw [5, 11, 12, 13, 14, 15, 16, 17, 18, 19, 20, 21, 22, 23, 24, 25, 26] (fun i _ _ _ _ _ _ _ _ _ _ _ _ _ _ _ _ wr => ∃ k : Nat, k ≤ x.length ∧ i = .int .i64 k ∧ x.take k = y.take k ∧ Below w.heap.size w wr) (fun i _ _ _ _ _ _ _ _ _ _ _ _ _ _ _ _ _ => x.length - (intOf i).toNat)
    case atStart => exact ⟨0, by omega, rfl, rfl, Below.refl _ _⟩
    case round =>
      obtain ⟨k, hk, rfl, htk, hb⟩ := hrel
      by_cases hlt : k < x.length
      · have hd1 : decide ((k : Int) < (x.length : Int)) = true := by simp; omega
        have hd2 : decide ((k : Int) < (y.length : Int)) = true := by have := HL.out; simp; omega
        have hk0 : (0 : Int) ≤ (k : Int) := by omega
        have hk1 : (k : Int) < (x.length : Int) := by omega
        have hk2 : (k : Int) < (y.length : Int) := by have := HL.out; omega
        obtain ⟨e, he⟩ : ∃ e, x[k]? = some e := ⟨_, List.getElem?_eq_getElem (by exact hlt)⟩
        obtain ⟨d, hdd⟩ : ∃ d, y[k]? = some d := ⟨_, List.getElem?_eq_getElem (by have := HL.out; omega)⟩
        obtain ⟨js, I0, i1, i2, _⟩ := HV.out.low hb
        obtain ⟨jt, J0, i3, i4, _⟩ := HU.out.low hb
        obtain ⟨kv, Fi, r1, r3⟩ := DcsIn.get _ _ _ i2 k e he
        obtain ⟨ku, Gi, r4, r6⟩ := DcsIn.get _ _ _ i4 k d hdd
        obtain ⟨g, cap, hg, hgl, hgc⟩ := own_get i1 (by omega)
        obtain ⟨g2, cap2, hg2, hgl2, hgc2⟩ := own_get i3 (by have := HL.out; omega)
        injection hg with q1 q2 q3
        injection hg2 with q4 q5 q6
        subst q1 q3 q4 q6
        have hc1 : ∀ j u, (dcC e kv)[j]? = some u → wr.drew.cell? ⟨g, k * 6 + j, none⟩ = some u := fun j u hu => hgc _ _ (r3 j u hu)
        have hc2 : ∀ j u, (dcC d ku)[j]? = some u → wr.drew.cell? ⟨g2, k * 6 + j, none⟩ = some u := fun j u hu => hgc2 _ _ (r6 j u hu)
        have CE := Lib.hid (eqDecl_any e d wr.drew kv ku Fi Gi (r1.at_ (fun _ _ => rfl)) (r4.at_ (fun _ _ => rfl)))
        unfold dcC at CE
        clear i1 i2 i3 i4 r1 r3 r4 r6 hgc hgc2
        cases hb8 : decide (e = d) with
        | true =>
          rw [hb8] at CE
          go_wp2_with fail
          refine wpTo_start (fun w' => (∀ j u, (dcC e kv)[j]? = some u → w'.cell? ⟨g, k * 6 + j, none⟩ = some u) ∧ (∀ j u, (dcC d ku)[j]? = some u → w'.cell? ⟨g2, k * 6 + j, none⟩ = some u)) 8 (by kernel_rfl) ⟨hc1, hc2⟩ (fun hHeld => ?_)
          refine wpTo_takeE 0 (v := ?_) (by kernel_rfl) rfl (by kernel_rfl) (by kernel_rfl) rfl (fun _ _ _ h => h) (Or.inl ⟨by rfl, ?_⟩) (fun _ => hHeld) ?_
          rotate_left
          · (intro w' hSw; go_simp; try with_reducible rfl)
          try simp only [Act.put, List.setIfInBounds_toArray, List.set_cons_zero, List.set_cons_succ]
          refine wpTo_takeE 1 (v := ?_) (by kernel_rfl) rfl (by kernel_rfl) (by kernel_rfl) rfl (fun _ _ _ h => h) (Or.inl ⟨by rfl, ?_⟩) (fun _ => hHeld) ?_
          rotate_left
          · (intro w' hSw; go_simp; try with_reducible rfl)
          try simp only [Act.put, List.setIfInBounds_toArray, List.set_cons_zero, List.set_cons_succ]
          refine wpTo_takeE 2 (v := ?_) (by kernel_rfl) rfl (by kernel_rfl) (by kernel_rfl) rfl (fun _ _ _ h => h) (Or.inl ⟨by rfl, ?_⟩) (fun _ => hHeld) ?_
          rotate_left
          · (intro w' hSw; go_simp; try with_reducible rfl)
          try simp only [Act.put, List.setIfInBounds_toArray, List.set_cons_zero, List.set_cons_succ]
          refine wpTo_take 3 (v := ?_) (by kernel_rfl) (by kernel_rfl) rfl (by kernel_rfl) (by kernel_rfl) rfl (fun _ _ _ h => h) (Or.inl ⟨by rfl, ?_⟩) hHeld ?_
          rotate_left
          · (intro w' ⟨ha, hb⟩; have a0 := ha 0 _ rfl; have a1 := ha 1 _ rfl; have a2 := ha 2 _ rfl; have a3 := ha 3 _ rfl; have a4 := ha 4 _ rfl; have a5 := ha 5 _ rfl; have b0 := hb 0 _ rfl; have b1 := hb 1 _ rfl; have b2 := hb 2 _ rfl; have b3 := hb 3 _ rfl; have b4 := hb 4 _ rfl; have b5 := hb 5 _ rfl; simp only [Nat.add_zero] at a0 b0; clear ha hb; go_simp; try with_reducible rfl)
          try simp only [Act.put, List.setIfInBounds_toArray, List.set_cons_zero, List.set_cons_succ]
          refine wpTo_takeE 4 (v := ?_) (by kernel_rfl) rfl (by kernel_rfl) (by kernel_rfl) rfl (fun _ _ _ h => h) (Or.inl ⟨by rfl, ?_⟩) (fun _ => hHeld) ?_
          rotate_left
          · (intro w' hSw; go_simp; try with_reducible rfl)
          try simp only [Act.put, List.setIfInBounds_toArray, List.set_cons_zero, List.set_cons_succ]
          refine wpTo_takeE 5 (v := ?_) (by kernel_rfl) rfl (by kernel_rfl) (by kernel_rfl) rfl (fun _ _ _ h => h) (Or.inl ⟨by rfl, ?_⟩) (fun _ => hHeld) ?_
          rotate_left
          · (intro w' hSw; go_simp; try with_reducible rfl)
          try simp only [Act.put, List.setIfInBounds_toArray, List.set_cons_zero, List.set_cons_succ]
          refine wpTo_takeE 6 (v := ?_) (by kernel_rfl) rfl (by kernel_rfl) (by kernel_rfl) rfl (fun _ _ _ h => h) (Or.inl ⟨by rfl, ?_⟩) (fun _ => hHeld) ?_
          rotate_left
          · (intro w' hSw; go_simp; try with_reducible rfl)
          try simp only [Act.put, List.setIfInBounds_toArray, List.set_cons_zero, List.set_cons_succ]
          refine wpTo_take 7 (v := ?_) (by kernel_rfl) (by kernel_rfl) rfl (by kernel_rfl) (by kernel_rfl) rfl (fun _ _ _ h => h) (Or.inl ⟨by rfl, ?_⟩) hHeld ?_
          rotate_left
          · (intro w' ⟨ha, hb⟩; have a0 := ha 0 _ rfl; have a1 := ha 1 _ rfl; have a2 := ha 2 _ rfl; have a3 := ha 3 _ rfl; have a4 := ha 4 _ rfl; have a5 := ha 5 _ rfl; have b0 := hb 0 _ rfl; have b1 := hb 1 _ rfl; have b2 := hb 2 _ rfl; have b3 := hb 3 _ rfl; have b4 := hb 4 _ rfl; have b5 := hb 5 _ rfl; simp only [Nat.add_zero] at a0 b0; clear ha hb; go_simp; try with_reducible rfl)
          try simp only [Act.put, List.setIfInBounds_toArray, List.set_cons_zero, List.set_cons_succ]
          refine wpTo_one 8 (by kernel_rfl) rfl (fun K hKo => ?_)
          go_simp
          refine CE.out.mono ?_
          rintro e1 w1 ⟨rfl, hb1⟩
          have HB := Lib.hid (hb.trans ((⟨rfl, rfl, rfl, Nat.le_refl _, fun _ _ => rfl⟩ : Below w.heap.size wr wr.drew).trans (hb1.mono hb.size)))
          clear hb1
          go_wp2_with fail
          refine Shut.out hKo _ _ (fun h _ => absurd rfl h) ?_
          clear hKo K
          try simp only [Act.put, List.setIfInBounds_toArray, List.set_cons_zero, List.set_cons_succ]
          refine wpTo_one 9 (by kernel_rfl) rfl (fun K hKo => ?_)
          go_simp
          refine Shut.out hKo _ _ (fun _ h => absurd h (by decide)) ?_
          clear hKo K
          try simp only [Act.put, List.setIfInBounds_toArray, List.set_cons_zero, List.set_cons_succ]
          refine wpTo_done (by kernel_rfl) ?_ _
          go_wp2_with fail
          go_roundw
          case measure => simp [intOf]; omega
          case rel =>
            refine ⟨k + 1, by omega, by simp, ?_, HB.out⟩
            rw [List.take_add_one, List.take_add_one, htk, he, hdd, of_decide_eq_true hb8]
        | false =>
          rw [hb8] at CE
          go_wp2_with fail
          refine wpTo_start (fun w' => (∀ j u, (dcC e kv)[j]? = some u → w'.cell? ⟨g, k * 6 + j, none⟩ = some u) ∧ (∀ j u, (dcC d ku)[j]? = some u → w'.cell? ⟨g2, k * 6 + j, none⟩ = some u)) 8 (by kernel_rfl) ⟨hc1, hc2⟩ (fun hHeld => ?_)
          refine wpTo_takeE 0 (v := ?_) (by kernel_rfl) rfl (by kernel_rfl) (by kernel_rfl) rfl (fun _ _ _ h => h) (Or.inl ⟨by rfl, ?_⟩) (fun _ => hHeld) ?_
          rotate_left
          · (intro w' hSw; go_simp; try with_reducible rfl)
          try simp only [Act.put, List.setIfInBounds_toArray, List.set_cons_zero, List.set_cons_succ]
          refine wpTo_takeE 1 (v := ?_) (by kernel_rfl) rfl (by kernel_rfl) (by kernel_rfl) rfl (fun _ _ _ h => h) (Or.inl ⟨by rfl, ?_⟩) (fun _ => hHeld) ?_
          rotate_left
          · (intro w' hSw; go_simp; try with_reducible rfl)
          try simp only [Act.put, List.setIfInBounds_toArray, List.set_cons_zero, List.set_cons_succ]
          refine wpTo_takeE 2 (v := ?_) (by kernel_rfl) rfl (by kernel_rfl) (by kernel_rfl) rfl (fun _ _ _ h => h) (Or.inl ⟨by rfl, ?_⟩) (fun _ => hHeld) ?_
          rotate_left
          · (intro w' hSw; go_simp; try with_reducible rfl)
          try simp only [Act.put, List.setIfInBounds_toArray, List.set_cons_zero, List.set_cons_succ]
          refine wpTo_take 3 (v := ?_) (by kernel_rfl) (by kernel_rfl) rfl (by kernel_rfl) (by kernel_rfl) rfl (fun _ _ _ h => h) (Or.inl ⟨by rfl, ?_⟩) hHeld ?_
          rotate_left
          · (intro w' ⟨ha, hb⟩; have a0 := ha 0 _ rfl; have a1 := ha 1 _ rfl; have a2 := ha 2 _ rfl; have a3 := ha 3 _ rfl; have a4 := ha 4 _ rfl; have a5 := ha 5 _ rfl; have b0 := hb 0 _ rfl; have b1 := hb 1 _ rfl; have b2 := hb 2 _ rfl; have b3 := hb 3 _ rfl; have b4 := hb 4 _ rfl; have b5 := hb 5 _ rfl; simp only [Nat.add_zero] at a0 b0; clear ha hb; go_simp; try with_reducible rfl)
          try simp only [Act.put, List.setIfInBounds_toArray, List.set_cons_zero, List.set_cons_succ]
          refine wpTo_takeE 4 (v := ?_) (by kernel_rfl) rfl (by kernel_rfl) (by kernel_rfl) rfl (fun _ _ _ h => h) (Or.inl ⟨by rfl, ?_⟩) (fun _ => hHeld) ?_
          rotate_left
          · (intro w' hSw; go_simp; try with_reducible rfl)
          try simp only [Act.put, List.setIfInBounds_toArray, List.set_cons_zero, List.set_cons_succ]
          refine wpTo_takeE 5 (v := ?_) (by kernel_rfl) rfl (by kernel_rfl) (by kernel_rfl) rfl (fun _ _ _ h => h) (Or.inl ⟨by rfl, ?_⟩) (fun _ => hHeld) ?_
          rotate_left
          · (intro w' hSw; go_simp; try with_reducible rfl)
          try simp only [Act.put, List.setIfInBounds_toArray, List.set_cons_zero, List.set_cons_succ]
          refine wpTo_takeE 6 (v := ?_) (by kernel_rfl) rfl (by kernel_rfl) (by kernel_rfl) rfl (fun _ _ _ h => h) (Or.inl ⟨by rfl, ?_⟩) (fun _ => hHeld) ?_
          rotate_left
          · (intro w' hSw; go_simp; try with_reducible rfl)
          try simp only [Act.put, List.setIfInBounds_toArray, List.set_cons_zero, List.set_cons_succ]
          refine wpTo_take 7 (v := ?_) (by kernel_rfl) (by kernel_rfl) rfl (by kernel_rfl) (by kernel_rfl) rfl (fun _ _ _ h => h) (Or.inl ⟨by rfl, ?_⟩) hHeld ?_
          rotate_left
          · (intro w' ⟨ha, hb⟩; have a0 := ha 0 _ rfl; have a1 := ha 1 _ rfl; have a2 := ha 2 _ rfl; have a3 := ha 3 _ rfl; have a4 := ha 4 _ rfl; have a5 := ha 5 _ rfl; have b0 := hb 0 _ rfl; have b1 := hb 1 _ rfl; have b2 := hb 2 _ rfl; have b3 := hb 3 _ rfl; have b4 := hb 4 _ rfl; have b5 := hb 5 _ rfl; simp only [Nat.add_zero] at a0 b0; clear ha hb; go_simp; try with_reducible rfl)
          try simp only [Act.put, List.setIfInBounds_toArray, List.set_cons_zero, List.set_cons_succ]
          refine wpTo_one 8 (by kernel_rfl) rfl (fun K hKo => ?_)
          go_simp
          refine CE.out.mono ?_
          rintro e1 w1 ⟨rfl, hb1⟩
          have HB := Lib.hid (hb.trans ((⟨rfl, rfl, rfl, Nat.le_refl _, fun _ _ => rfl⟩ : Below w.heap.size wr wr.drew).trans (hb1.mono hb.size)))
          clear hb1
          go_wp2_with fail
          refine Shut.out hKo _ _ (fun h _ => absurd rfl h) ?_
          clear hKo K
          try simp only [Act.put, List.setIfInBounds_toArray, List.set_cons_zero, List.set_cons_succ]
          refine wpTo_one 9 (by kernel_rfl) rfl (fun K hKo => ?_)
          go_simp
          refine Shut.out hKo _ _ (fun _ h => absurd h (by decide)) ?_
          clear hKo K
          try simp only [Act.put, List.setIfInBounds_toArray, List.set_cons_zero, List.set_cons_succ]
          refine wpTo_done (by kernel_rfl) ?_ _
          go_wp2_with fail
          go_ret
          refine ⟨?_, HB.out⟩
          have hne : decide (x = y) = false := by
            apply decide_eq_false
            rintro rfl
            rw [he] at hdd
            exact (of_decide_eq_false hb8) (Option.some.inj hdd)
          rw [hne]
          rfl
      · obtain rfl : k = x.length := by omega
        have hd1 : decide ((x.length : Int) < (x.length : Int)) = false := by simp
        have hd2 : decide ((x.length : Int) < (y.length : Int)) = false := by have := HL.out; simp; omega
        have hxy : x = y := by
          rw [List.take_length, HL.out, List.take_length] at htk
          exact htk
        go_wp2_with fail
        go_ret
        exact ⟨by rw [decide_eq_true hxy]; rfl, hb⟩
  · have hd : ((x.length : Int) != (y.length : Int)) = true := by simp; omega
    have hne : decide (x = y) = false := by
      apply decide_eq_false
      rintro rfl
      exact hlen rfl
    rw [hne]
    go_enter Tryd.func14, Tryd.ntmps14
    go_wp2_with fail
    go_ret
    exact ⟨rfl, Below.refl _ _⟩
end Go.Proofs.YtjmemapkipkocaaDoor

/-
  Are two programs the same?
-/
namespace Go.Proofs.YtjmemapkipkocaaDoor
open Go.RowKit Go.Maps
set_option linter.unusedVariables false
set_option linter.unusedSimpArgs false
set_option maxRecDepth 100000
set_option maxHeartbeats 1000000

theorem eqFunc_any (e d : Fn) (w : World) (v u v2 u2 : Value) (F G : List Nat) (hv : RowF w e v v2 F) (hu : RowF w d u u2 G) :
    Calls Tryd.prog 25 #[.agg (fnC e v v2).toArray, .agg (fnC d u u2).toArray] w (Same (decide (e = d)) w) := by
  obtain ⟨F1, F2, h1, h2, _⟩ := hv
  obtain ⟨G1, G2, h3, h4, _⟩ := hu
  have CD := fun W (H : Below w.heap.size w W) => Lib.hid (eqDecls_any e.params d.params W v u F1 G1 (h1.low H) (h3.low H))
  have CS := fun W (H : Below w.heap.size w W) => Lib.hid (eqStmts_any e.body d.body W v2 u2 F2 G2 (h2.low H) (h4.low H))
  have CL := fun W => Lib.hid (eqDecls_any [] [] W (.slice none 0 0) (.slice none 0 0) [] [] RowD.nil RowD.nil)
  rw [decide_eq_true rfl] at CL
  clear h1 h2 h3 h4
  obtain ⟨nm, ⟨tk, tp, tl⟩, params, body, pos⟩ := e
  obtain ⟨nm2, ⟨tk2, tp2, tl2⟩, params2, body2, pos2⟩ := d
  unfold fnC
  simp only at CD CS ⊢
  rcases hx : decide (params = params2) with _ | _ <;> rcases hk : decide (body = body2) with _ | _
  · rw [hx] at CD
    rw [hk] at CS
    have hx1 : ¬ params = params2 := of_decide_eq_false hx
    have hk1 : ¬ body = body2 := of_decide_eq_false hk
    go_enter Tryd.func25, Tryd.ntmps25
    go_wp2_with fail
    · refine (CD _ (((Below.refl _ _).alloc (Nat.le_refl _) _).alloc (by simp) _)).out.mono ?_
      rintro e w1 ⟨rfl, hb⟩
      have O0 : OwnB w1 w.heap.size _ 54 := ⟨(hb.block _ (by simp; omega)).trans (OwnB.alloc (OwnB.new rfl) _).blk⟩
      have O1 : OwnB w1 (w.heap.size + 1) _ 54 := ⟨(hb.block _ (by simp)).trans (OwnB.new (by simp)).blk⟩
      obtain ⟨y0, x0, z0⟩ := O0.facts
      obtain ⟨y1, x1, z1⟩ := O1.facts
      have HB := Lib.hid ((((Below.refl w.heap.size w).alloc (Nat.le_refl _) _).alloc (by simp) _).trans (hb.mono (by simp; omega)))
      have hz : w.heap.size + 1 < w1.heap.size := lt_of_blk O1.blk
      clear hb
      go_wp2_with fail
      all_goals
        go_ret
        refine ⟨?_, HB.out⟩
        simp [*] <;> rfl
    all_goals
      go_ret
      refine ⟨?_, ((Below.refl _ _).alloc (Nat.le_refl _) _).alloc (by simp) _⟩
      simp [*]
  · rw [hx] at CD
    rw [hk] at CS
    have hx1 : ¬ params = params2 := of_decide_eq_false hx
    obtain rfl := of_decide_eq_true hk
    go_enter Tryd.func25, Tryd.ntmps25
    go_wp2_with fail
    · refine (CD _ (((Below.refl _ _).alloc (Nat.le_refl _) _).alloc (by simp) _)).out.mono ?_
      rintro e w1 ⟨rfl, hb⟩
      have O0 : OwnB w1 w.heap.size _ 54 := ⟨(hb.block _ (by simp; omega)).trans (OwnB.alloc (OwnB.new rfl) _).blk⟩
      have O1 : OwnB w1 (w.heap.size + 1) _ 54 := ⟨(hb.block _ (by simp)).trans (OwnB.new (by simp)).blk⟩
      obtain ⟨y0, x0, z0⟩ := O0.facts
      obtain ⟨y1, x1, z1⟩ := O1.facts
      have HB := Lib.hid ((((Below.refl w.heap.size w).alloc (Nat.le_refl _) _).alloc (by simp) _).trans (hb.mono (by simp; omega)))
      have hz : w.heap.size + 1 < w1.heap.size := lt_of_blk O1.blk
      clear hb
      go_wp2_with fail
      all_goals
        go_ret
        refine ⟨?_, HB.out⟩
        simp [*] <;> rfl
    all_goals
      go_ret
      refine ⟨?_, ((Below.refl _ _).alloc (Nat.le_refl _) _).alloc (by simp) _⟩
      simp [*]
  · rw [hx] at CD
    rw [hk] at CS
    obtain rfl := of_decide_eq_true hx
    have hk1 : ¬ body = body2 := of_decide_eq_false hk
    go_enter Tryd.func25, Tryd.ntmps25
    go_wp2_with fail
    · refine (CD _ (((Below.refl _ _).alloc (Nat.le_refl _) _).alloc (by simp) _)).out.mono ?_
      rintro e w1 ⟨rfl, hb⟩
      have O0 : OwnB w1 w.heap.size _ 54 := ⟨(hb.block _ (by simp; omega)).trans (OwnB.alloc (OwnB.new rfl) _).blk⟩
      have O1 : OwnB w1 (w.heap.size + 1) _ 54 := ⟨(hb.block _ (by simp)).trans (OwnB.new (by simp)).blk⟩
      obtain ⟨y0, x0, z0⟩ := O0.facts
      obtain ⟨y1, x1, z1⟩ := O1.facts
      have HB := Lib.hid ((((Below.refl w.heap.size w).alloc (Nat.le_refl _) _).alloc (by simp) _).trans (hb.mono (by simp; omega)))
      have hz : w.heap.size + 1 < w1.heap.size := lt_of_blk O1.blk
      clear hb
      go_wp2_with fail
      refine (CS _ HB.out).out.mono ?_
      rintro e w2 ⟨rfl, hb2⟩
      have P0 : OwnB w2 w.heap.size _ 54 := ⟨(hb2.block _ (by omega)).trans O0.blk⟩
      have P1 : OwnB w2 (w.heap.size + 1) _ 54 := ⟨(hb2.block _ (by omega)).trans O1.blk⟩
      obtain ⟨u0, s0, t0⟩ := P0.facts
      obtain ⟨u1, s1, t1⟩ := P1.facts
      have HB2 := Lib.hid (HB.out.trans (hb2.mono HB.out.size))
      have hz2 : w.heap.size + 1 < w2.heap.size := lt_of_blk P1.blk
      clear hb2 HB
      have HB := HB2
      go_wp2_with fail
      all_goals
        go_ret
        refine ⟨?_, HB.out⟩
        simp [*] <;> rfl
    all_goals
      go_ret
      refine ⟨?_, ((Below.refl _ _).alloc (Nat.le_refl _) _).alloc (by simp) _⟩
      simp [*]
  · rw [hx] at CD
    rw [hk] at CS
    obtain rfl := of_decide_eq_true hx
    obtain rfl := of_decide_eq_true hk
    go_enter Tryd.func25, Tryd.ntmps25
    go_wp2_with fail
    · refine (CD _ (((Below.refl _ _).alloc (Nat.le_refl _) _).alloc (by simp) _)).out.mono ?_
      rintro e w1 ⟨rfl, hb⟩
      have O0 : OwnB w1 w.heap.size _ 54 := ⟨(hb.block _ (by simp; omega)).trans (OwnB.alloc (OwnB.new rfl) _).blk⟩
      have O1 : OwnB w1 (w.heap.size + 1) _ 54 := ⟨(hb.block _ (by simp)).trans (OwnB.new (by simp)).blk⟩
      obtain ⟨y0, x0, z0⟩ := O0.facts
      obtain ⟨y1, x1, z1⟩ := O1.facts
      have HB := Lib.hid ((((Below.refl w.heap.size w).alloc (Nat.le_refl _) _).alloc (by simp) _).trans (hb.mono (by simp; omega)))
      have hz : w.heap.size + 1 < w1.heap.size := lt_of_blk O1.blk
      clear hb
      go_wp2_with fail
      refine (CS _ HB.out).out.mono ?_
      rintro e w2 ⟨rfl, hb2⟩
      have P0 : OwnB w2 w.heap.size _ 54 := ⟨(hb2.block _ (by omega)).trans O0.blk⟩
      have P1 : OwnB w2 (w.heap.size + 1) _ 54 := ⟨(hb2.block _ (by omega)).trans O1.blk⟩
      obtain ⟨u0, s0, t0⟩ := P0.facts
      obtain ⟨u1, s1, t1⟩ := P1.facts
      have HB2 := Lib.hid (HB.out.trans (hb2.mono HB.out.size))
      have hz2 : w.heap.size + 1 < w2.heap.size := lt_of_blk P1.blk
      clear hb2 HB
      have HB := HB2
      go_wp2_with fail
      refine (CL _).out.mono ?_
      rintro e w3 ⟨rfl, hb3⟩
      have R0 : OwnB w3 w.heap.size _ 54 := ⟨(hb3.block _ (by omega)).trans P0.blk⟩
      have R1 : OwnB w3 (w.heap.size + 1) _ 54 := ⟨(hb3.block _ (by omega)).trans P1.blk⟩
      obtain ⟨uu0, ss0, tt0⟩ := R0.facts
      obtain ⟨uu1, ss1, tt1⟩ := R1.facts
      have HB3 := Lib.hid (HB.out.trans (hb3.mono HB.out.size))
      clear hb3 HB
      have HB := HB3
      go_wp2_with fail
      all_goals
        go_ret
        refine ⟨?_, HB.out⟩
        simp [*] <;> rfl
    all_goals
      go_ret
      refine ⟨?_, ((Below.refl _ _).alloc (Nat.le_refl _) _).alloc (by simp) _⟩
      simp [*]
theorem eqFuncs_any (x y : List Fn) (w : World) (v u : Value) (F G : List Nat) (hv : RowFs w x v F) (hu : RowFs w y u G) : Calls Tryd.prog 15 #[v, u] w (Same (decide (x = y)) w) := by
  have HV := Lib.hid hv
  have HU := Lib.hid hu
  obtain ⟨ks, F0, h1, h2, _⟩ := hv
  obtain ⟨kt, G0, h3, h4, _⟩ := hu
  have hl1 := ownLen h1
  have hl2 := ownLen h3
  unfold maxLen at hl1 hl2
  have e1 : ∃ a c, v = .slice a x.length c := by
    rcases h1.2 with ⟨rfl, h⟩ | ⟨g, cap, cur, rfl, _⟩
    · exact ⟨none, 0, by rw [h]⟩
    · exact ⟨_, _, rfl⟩
  have e2 : ∃ a c, u = .slice a y.length c := by
    rcases h3.2 with ⟨rfl, h⟩ | ⟨g, cap, cur, rfl, _⟩
    · exact ⟨none, 0, by rw [h]⟩
    · exact ⟨_, _, rfl⟩
  obtain ⟨a, c, rfl⟩ := e1
  obtain ⟨a2, c2, rfl⟩ := e2
  by_cases hlen : x.length = y.length
  · have hd : ((x.length : Int) != (y.length : Int)) = false := by simp [hlen]
    have HL := Lib.hid hlen
    clear hlen
    go_enter Tryd.func15, Tryd.ntmps15
    go_wp2_with fail
    go_loopw [5, 11, 12, 13, 14, 15, 16, 17, 18, 19, 20, 21, 22, 23, 24, 25, 26] (fun i _ _ _ _ _ _ _ _ _ _ _ _ _ _ _ _ wr => ∃ k : Nat, k ≤ x.length ∧ i = .int .i64 k ∧ x.take k = y.take k ∧ Below w.heap.size w wr) (fun i _ _ _ _ _ _ _ _ _ _ _ _ _ _ _ _ _ => x.length - (intOf i).toNat)
    case atStart => exact ⟨0, by omega, rfl, rfl, Below.refl _ _⟩
    case round =>
      obtain ⟨k, hk, rfl, htk, hb⟩ := hrel
      by_cases hlt : k < x.length
      · have hd1 : decide ((k : Int) < (x.length : Int)) = true := by simp; omega
        have hd2 : decide ((k : Int) < (y.length : Int)) = true := by have := HL.out; simp; omega
        have hk0 : (0 : Int) ≤ (k : Int) := by omega
        have hk1 : (k : Int) < (x.length : Int) := by omega
        have hk2 : (k : Int) < (y.length : Int) := by have := HL.out; omega
        obtain ⟨e, he⟩ : ∃ e, x[k]? = some e := ⟨_, List.getElem?_eq_getElem (by exact hlt)⟩
        obtain ⟨d, hdd⟩ : ∃ d, y[k]? = some d := ⟨_, List.getElem?_eq_getElem (by have := HL.out; omega)⟩
        obtain ⟨js, I0, i1, i2, _⟩ := HV.out.low hb
        obtain ⟨jt, J0, i3, i4, _⟩ := HU.out.low hb
        obtain ⟨pv, kv, Fi, r1, r3⟩ := FnsIn.get _ _ _ i2 k e he
        obtain ⟨pu, ku, Gi, r4, r6⟩ := FnsIn.get _ _ _ i4 k d hdd
        obtain ⟨g, cap, hg, hgl, hgc⟩ := own_get i1 (by omega)
        obtain ⟨g2, cap2, hg2, hgl2, hgc2⟩ := own_get i3 (by have := HL.out; omega)
        injection hg with q1 q2 q3
        injection hg2 with q4 q5 q6
        subst q1 q3 q4 q6
        have hc1 : ∀ j u, (fnC e pv kv)[j]? = some u → wr.drew.cell? ⟨g, k * 8 + j, none⟩ = some u := fun j u hu => hgc _ _ (r3 j u hu)
        have hc2 : ∀ j u, (fnC d pu ku)[j]? = some u → wr.drew.cell? ⟨g2, k * 8 + j, none⟩ = some u := fun j u hu => hgc2 _ _ (r6 j u hu)
        have CE := Lib.hid (eqFunc_any e d wr.drew pv pu kv ku Fi Gi (r1.at_ (fun _ _ => rfl)) (r4.at_ (fun _ _ => rfl)))
        unfold fnC at CE
        clear i1 i2 i3 i4 r1 r3 r4 r6 hgc hgc2
        cases hb8 : decide (e = d) with
        | true =>
          rw [hb8] at CE
          go_wp2_with fail
          refine wpTo_start (fun w' => (∀ j u, (fnC e pv kv)[j]? = some u → w'.cell? ⟨g, k * 8 + j, none⟩ = some u) ∧ (∀ j u, (fnC d pu ku)[j]? = some u → w'.cell? ⟨g2, k * 8 + j, none⟩ = some u)) 8 (by kernel_rfl) ⟨hc1, hc2⟩ (fun hHeld => ?_)
          refine wpTo_takeE 0 (v := ?_) (by kernel_rfl) rfl (by kernel_rfl) (by kernel_rfl) rfl (fun _ _ _ h => h) (Or.inl ⟨by rfl, ?_⟩) (fun _ => hHeld) ?_
          rotate_left
          · (intro w' hSw; go_simp; try with_reducible rfl)
          try simp only [Act.put, List.setIfInBounds_toArray, List.set_cons_zero, List.set_cons_succ]
          refine wpTo_takeE 1 (v := ?_) (by kernel_rfl) rfl (by kernel_rfl) (by kernel_rfl) rfl (fun _ _ _ h => h) (Or.inl ⟨by rfl, ?_⟩) (fun _ => hHeld) ?_
          rotate_left
          · (intro w' hSw; go_simp; try with_reducible rfl)
          try simp only [Act.put, List.setIfInBounds_toArray, List.set_cons_zero, List.set_cons_succ]
          refine wpTo_takeE 2 (v := ?_) (by kernel_rfl) rfl (by kernel_rfl) (by kernel_rfl) rfl (fun _ _ _ h => h) (Or.inl ⟨by rfl, ?_⟩) (fun _ => hHeld) ?_
          rotate_left
          · (intro w' hSw; go_simp; try with_reducible rfl)
          try simp only [Act.put, List.setIfInBounds_toArray, List.set_cons_zero, List.set_cons_succ]
          refine wpTo_take 3 (v := ?_) (by kernel_rfl) (by kernel_rfl) rfl (by kernel_rfl) (by kernel_rfl) rfl (fun _ _ _ h => h) (Or.inl ⟨by rfl, ?_⟩) hHeld ?_
          rotate_left
          · (intro w' ⟨ha, hb⟩; have a0 := ha 0 _ rfl; have a1 := ha 1 _ rfl; have a2 := ha 2 _ rfl; have a3 := ha 3 _ rfl; have a4 := ha 4 _ rfl; have a5 := ha 5 _ rfl; have a6 := ha 6 _ rfl; have a7 := ha 7 _ rfl; have b0 := hb 0 _ rfl; have b1 := hb 1 _ rfl; have b2 := hb 2 _ rfl; have b3 := hb 3 _ rfl; have b4 := hb 4 _ rfl; have b5 := hb 5 _ rfl; have b6 := hb 6 _ rfl; have b7 := hb 7 _ rfl; simp only [Nat.add_zero] at a0 b0; clear ha hb; go_simp; try with_reducible rfl)
          try simp only [Act.put, List.setIfInBounds_toArray, List.set_cons_zero, List.set_cons_succ]
          refine wpTo_takeE 4 (v := ?_) (by kernel_rfl) rfl (by kernel_rfl) (by kernel_rfl) rfl (fun _ _ _ h => h) (Or.inl ⟨by rfl, ?_⟩) (fun _ => hHeld) ?_
          rotate_left
          · (intro w' hSw; go_simp; try with_reducible rfl)
          try simp only [Act.put, List.setIfInBounds_toArray, List.set_cons_zero, List.set_cons_succ]
          refine wpTo_takeE 5 (v := ?_) (by kernel_rfl) rfl (by kernel_rfl) (by kernel_rfl) rfl (fun _ _ _ h => h) (Or.inl ⟨by rfl, ?_⟩) (fun _ => hHeld) ?_
          rotate_left
          · (intro w' hSw; go_simp; try with_reducible rfl)
          try simp only [Act.put, List.setIfInBounds_toArray, List.set_cons_zero, List.set_cons_succ]
          refine wpTo_takeE 6 (v := ?_) (by kernel_rfl) rfl (by kernel_rfl) (by kernel_rfl) rfl (fun _ _ _ h => h) (Or.inl ⟨by rfl, ?_⟩) (fun _ => hHeld) ?_
          rotate_left
          · (intro w' hSw; go_simp; try with_reducible rfl)
          try simp only [Act.put, List.setIfInBounds_toArray, List.set_cons_zero, List.set_cons_succ]
          refine wpTo_take 7 (v := ?_) (by kernel_rfl) (by kernel_rfl) rfl (by kernel_rfl) (by kernel_rfl) rfl (fun _ _ _ h => h) (Or.inl ⟨by rfl, ?_⟩) hHeld ?_
          rotate_left
          · (intro w' ⟨ha, hb⟩; have a0 := ha 0 _ rfl; have a1 := ha 1 _ rfl; have a2 := ha 2 _ rfl; have a3 := ha 3 _ rfl; have a4 := ha 4 _ rfl; have a5 := ha 5 _ rfl; have a6 := ha 6 _ rfl; have a7 := ha 7 _ rfl; have b0 := hb 0 _ rfl; have b1 := hb 1 _ rfl; have b2 := hb 2 _ rfl; have b3 := hb 3 _ rfl; have b4 := hb 4 _ rfl; have b5 := hb 5 _ rfl; have b6 := hb 6 _ rfl; have b7 := hb 7 _ rfl; simp only [Nat.add_zero] at a0 b0; clear ha hb; go_simp; try with_reducible rfl)
          try simp only [Act.put, List.setIfInBounds_toArray, List.set_cons_zero, List.set_cons_succ]
          refine wpTo_one 8 (by kernel_rfl) rfl (fun K hKo => ?_)
          go_simp
          refine CE.out.mono ?_
          rintro e1 w1 ⟨rfl, hb1⟩
          have HB := Lib.hid (hb.trans ((⟨rfl, rfl, rfl, Nat.le_refl _, fun _ _ => rfl⟩ : Below w.heap.size wr wr.drew).trans (hb1.mono hb.size)))
          clear hb1
          go_wp2_with fail
          refine Shut.out hKo _ _ (fun h _ => absurd rfl h) ?_
          clear hKo K
          try simp only [Act.put, List.setIfInBounds_toArray, List.set_cons_zero, List.set_cons_succ]
          refine wpTo_one 9 (by kernel_rfl) rfl (fun K hKo => ?_)
          go_simp
          refine Shut.out hKo _ _ (fun _ h => absurd h (by decide)) ?_
          clear hKo K
          try simp only [Act.put, List.setIfInBounds_toArray, List.set_cons_zero, List.set_cons_succ]
          refine wpTo_done (by kernel_rfl) ?_ _
          go_wp2_with fail
          go_roundw
          case measure => simp [intOf]; omega
          case rel =>
            refine ⟨k + 1, by omega, by simp, ?_, HB.out⟩
            rw [List.take_add_one, List.take_add_one, htk, he, hdd, of_decide_eq_true hb8]
        | false =>
          rw [hb8] at CE
          go_wp2_with fail
          refine wpTo_start (fun w' => (∀ j u, (fnC e pv kv)[j]? = some u → w'.cell? ⟨g, k * 8 + j, none⟩ = some u) ∧ (∀ j u, (fnC d pu ku)[j]? = some u → w'.cell? ⟨g2, k * 8 + j, none⟩ = some u)) 8 (by kernel_rfl) ⟨hc1, hc2⟩ (fun hHeld => ?_)
          refine wpTo_takeE 0 (v := ?_) (by kernel_rfl) rfl (by kernel_rfl) (by kernel_rfl) rfl (fun _ _ _ h => h) (Or.inl ⟨by rfl, ?_⟩) (fun _ => hHeld) ?_
          rotate_left
          · (intro w' hSw; go_simp; try with_reducible rfl)
          try simp only [Act.put, List.setIfInBounds_toArray, List.set_cons_zero, List.set_cons_succ]
          refine wpTo_takeE 1 (v := ?_) (by kernel_rfl) rfl (by kernel_rfl) (by kernel_rfl) rfl (fun _ _ _ h => h) (Or.inl ⟨by rfl, ?_⟩) (fun _ => hHeld) ?_
          rotate_left
          · (intro w' hSw; go_simp; try with_reducible rfl)
          try simp only [Act.put, List.setIfInBounds_toArray, List.set_cons_zero, List.set_cons_succ]
          refine wpTo_takeE 2 (v := ?_) (by kernel_rfl) rfl (by kernel_rfl) (by kernel_rfl) rfl (fun _ _ _ h => h) (Or.inl ⟨by rfl, ?_⟩) (fun _ => hHeld) ?_
          rotate_left
          · (intro w' hSw; go_simp; try with_reducible rfl)
          try simp only [Act.put, List.setIfInBounds_toArray, List.set_cons_zero, List.set_cons_succ]
          refine wpTo_take 3 (v := ?_) (by kernel_rfl) (by kernel_rfl) rfl (by kernel_rfl) (by kernel_rfl) rfl (fun _ _ _ h => h) (Or.inl ⟨by rfl, ?_⟩) hHeld ?_
          rotate_left
          · (intro w' ⟨ha, hb⟩; have a0 := ha 0 _ rfl; have a1 := ha 1 _ rfl; have a2 := ha 2 _ rfl; have a3 := ha 3 _ rfl; have a4 := ha 4 _ rfl; have a5 := ha 5 _ rfl; have a6 := ha 6 _ rfl; have a7 := ha 7 _ rfl; have b0 := hb 0 _ rfl; have b1 := hb 1 _ rfl; have b2 := hb 2 _ rfl; have b3 := hb 3 _ rfl; have b4 := hb 4 _ rfl; have b5 := hb 5 _ rfl; have b6 := hb 6 _ rfl; have b7 := hb 7 _ rfl; simp only [Nat.add_zero] at a0 b0; clear ha hb; go_simp; try with_reducible rfl)
          try simp only [Act.put, List.setIfInBounds_toArray, List.set_cons_zero, List.set_cons_succ]
          refine wpTo_takeE 4 (v := ?_) (by kernel_rfl) rfl (by kernel_rfl) (by kernel_rfl) rfl (fun _ _ _ h => h) (Or.inl ⟨by rfl, ?_⟩) (fun _ => hHeld) ?_
          rotate_left
          · (intro w' hSw; go_simp; try with_reducible rfl)
          try simp only [Act.put, List.setIfInBounds_toArray, List.set_cons_zero, List.set_cons_succ]
          refine wpTo_takeE 5 (v := ?_) (by kernel_rfl) rfl (by kernel_rfl) (by kernel_rfl) rfl (fun _ _ _ h => h) (Or.inl ⟨by rfl, ?_⟩) (fun _ => hHeld) ?_
          rotate_left
          · (intro w' hSw; go_simp; try with_reducible rfl)
          try simp only [Act.put, List.setIfInBounds_toArray, List.set_cons_zero, List.set_cons_succ]
          refine wpTo_takeE 6 (v := ?_) (by kernel_rfl) rfl (by kernel_rfl) (by kernel_rfl) rfl (fun _ _ _ h => h) (Or.inl ⟨by rfl, ?_⟩) (fun _ => hHeld) ?_
          rotate_left
          · (intro w' hSw; go_simp; try with_reducible rfl)
          try simp only [Act.put, List.setIfInBounds_toArray, List.set_cons_zero, List.set_cons_succ]
          refine wpTo_take 7 (v := ?_) (by kernel_rfl) (by kernel_rfl) rfl (by kernel_rfl) (by kernel_rfl) rfl (fun _ _ _ h => h) (Or.inl ⟨by rfl, ?_⟩) hHeld ?_
          rotate_left
          · (intro w' ⟨ha, hb⟩; have a0 := ha 0 _ rfl; have a1 := ha 1 _ rfl; have a2 := ha 2 _ rfl; have a3 := ha 3 _ rfl; have a4 := ha 4 _ rfl; have a5 := ha 5 _ rfl; have a6 := ha 6 _ rfl; have a7 := ha 7 _ rfl; have b0 := hb 0 _ rfl; have b1 := hb 1 _ rfl; have b2 := hb 2 _ rfl; have b3 := hb 3 _ rfl; have b4 := hb 4 _ rfl; have b5 := hb 5 _ rfl; have b6 := hb 6 _ rfl; have b7 := hb 7 _ rfl; simp only [Nat.add_zero] at a0 b0; clear ha hb; go_simp; try with_reducible rfl)
          try simp only [Act.put, List.setIfInBounds_toArray, List.set_cons_zero, List.set_cons_succ]
          refine wpTo_one 8 (by kernel_rfl) rfl (fun K hKo => ?_)
          go_simp
          refine CE.out.mono ?_
          rintro e1 w1 ⟨rfl, hb1⟩
          have HB := Lib.hid (hb.trans ((⟨rfl, rfl, rfl, Nat.le_refl _, fun _ _ => rfl⟩ : Below w.heap.size wr wr.drew).trans (hb1.mono hb.size)))
          clear hb1
          go_wp2_with fail
          refine Shut.out hKo _ _ (fun h _ => absurd rfl h) ?_
          clear hKo K
          try simp only [Act.put, List.setIfInBounds_toArray, List.set_cons_zero, List.set_cons_succ]
          refine wpTo_one 9 (by kernel_rfl) rfl (fun K hKo => ?_)
          go_simp
          refine Shut.out hKo _ _ (fun _ h => absurd h (by decide)) ?_
          clear hKo K
          try simp only [Act.put, List.setIfInBounds_toArray, List.set_cons_zero, List.set_cons_succ]
          refine wpTo_done (by kernel_rfl) ?_ _
          go_wp2_with fail
          go_ret
          refine ⟨?_, HB.out⟩
          have hne : decide (x = y) = false := by
            apply decide_eq_false
            rintro rfl
            rw [he] at hdd
            exact (of_decide_eq_false hb8) (Option.some.inj hdd)
          rw [hne]
          rfl
      · obtain rfl : k = x.length := by omega
        have hd1 : decide ((x.length : Int) < (x.length : Int)) = false := by simp
        have hd2 : decide ((x.length : Int) < (y.length : Int)) = false := by have := HL.out; simp; omega
        have hxy : x = y := by
          rw [List.take_length, HL.out, List.take_length] at htk
          exact htk
        go_wp2_with fail
        go_ret
        exact ⟨by rw [decide_eq_true hxy]; rfl, hb⟩
  · have hd : ((x.length : Int) != (y.length : Int)) = true := by simp; omega
    have hne : decide (x = y) = false := by
      apply decide_eq_false
      rintro rfl
      exact hlen rfl
    rw [hne]
    go_enter Tryd.func15, Tryd.ntmps15
    go_wp2_with fail
    go_ret
    exact ⟨rfl, Below.refl _ _⟩
theorem eqUnit_any (x y : Un) (w : World) (gv fv gu fu : Value) (F1 F2 G1 G2 : List Nat) (h1 : RowD w x.globals gv F1) (h2 : RowFs w x.funcs fv F2) (h3 : RowD w y.globals gu G1) (h4 : RowFs w y.funcs fu G2) :
    Calls Tryd.prog 8 #[.agg #[gv, fv], .agg #[gu, fu]] w (Same (decide (x = y)) w) := by
  have CD := fun W (H : Below w.heap.size w W) => Lib.hid (eqDecls_any x.globals y.globals W gv gu F1 G1 (h1.low H) (h3.low H))
  have CF := fun W (H : Below w.heap.size w W) => Lib.hid (eqFuncs_any x.funcs y.funcs W fv fu F2 G2 (h2.low H) (h4.low H))
  clear h1 h2 h3 h4
  obtain ⟨gs, fs⟩ := x
  obtain ⟨gs2, fs2⟩ := y
  simp only at CD CF ⊢
  rcases hx : decide (gs = gs2) with _ | _ <;> rcases hk : decide (fs = fs2) with _ | _
  · rw [hx] at CD
    rw [hk] at CF
    have hx1 : ¬ gs = gs2 := of_decide_eq_false hx
    have hk1 : ¬ fs = fs2 := of_decide_eq_false hk
    go_enter Tryd.func8, Tryd.ntmps8
    go_wp2_with fail
    refine (CD _ (((Below.refl _ _).alloc (Nat.le_refl _) _).alloc (by simp) _)).out.mono ?_
    rintro e w1 ⟨rfl, hb⟩
    have O0 : OwnB w1 w.heap.size _ 27 := ⟨(hb.block _ (by simp; omega)).trans (OwnB.alloc (OwnB.new rfl) _).blk⟩
    have O1 : OwnB w1 (w.heap.size + 1) _ 27 := ⟨(hb.block _ (by simp)).trans (OwnB.new (by simp)).blk⟩
    obtain ⟨y0, x0, z0⟩ := O0.facts
    obtain ⟨y1, x1, z1⟩ := O1.facts
    have HB := Lib.hid ((((Below.refl w.heap.size w).alloc (Nat.le_refl _) _).alloc (by simp) _).trans (hb.mono (by simp; omega)))
    have hz : w.heap.size + 1 < w1.heap.size := lt_of_blk O1.blk
    clear hb
    go_wp2_with fail
    all_goals
      go_ret
      refine ⟨?_, HB.out⟩
      simp [*] <;> rfl
  · rw [hx] at CD
    rw [hk] at CF
    have hx1 : ¬ gs = gs2 := of_decide_eq_false hx
    obtain rfl := of_decide_eq_true hk
    go_enter Tryd.func8, Tryd.ntmps8
    go_wp2_with fail
    refine (CD _ (((Below.refl _ _).alloc (Nat.le_refl _) _).alloc (by simp) _)).out.mono ?_
    rintro e w1 ⟨rfl, hb⟩
    have O0 : OwnB w1 w.heap.size _ 27 := ⟨(hb.block _ (by simp; omega)).trans (OwnB.alloc (OwnB.new rfl) _).blk⟩
    have O1 : OwnB w1 (w.heap.size + 1) _ 27 := ⟨(hb.block _ (by simp)).trans (OwnB.new (by simp)).blk⟩
    obtain ⟨y0, x0, z0⟩ := O0.facts
    obtain ⟨y1, x1, z1⟩ := O1.facts
    have HB := Lib.hid ((((Below.refl w.heap.size w).alloc (Nat.le_refl _) _).alloc (by simp) _).trans (hb.mono (by simp; omega)))
    have hz : w.heap.size + 1 < w1.heap.size := lt_of_blk O1.blk
    clear hb
    go_wp2_with fail
    all_goals
      go_ret
      refine ⟨?_, HB.out⟩
      simp [*] <;> rfl
  · rw [hx] at CD
    rw [hk] at CF
    obtain rfl := of_decide_eq_true hx
    have hk1 : ¬ fs = fs2 := of_decide_eq_false hk
    go_enter Tryd.func8, Tryd.ntmps8
    go_wp2_with fail
    refine (CD _ (((Below.refl _ _).alloc (Nat.le_refl _) _).alloc (by simp) _)).out.mono ?_
    rintro e w1 ⟨rfl, hb⟩
    have O0 : OwnB w1 w.heap.size _ 27 := ⟨(hb.block _ (by simp; omega)).trans (OwnB.alloc (OwnB.new rfl) _).blk⟩
    have O1 : OwnB w1 (w.heap.size + 1) _ 27 := ⟨(hb.block _ (by simp)).trans (OwnB.new (by simp)).blk⟩
    obtain ⟨y0, x0, z0⟩ := O0.facts
    obtain ⟨y1, x1, z1⟩ := O1.facts
    have HB := Lib.hid ((((Below.refl w.heap.size w).alloc (Nat.le_refl _) _).alloc (by simp) _).trans (hb.mono (by simp; omega)))
    have hz : w.heap.size + 1 < w1.heap.size := lt_of_blk O1.blk
    clear hb
    go_wp2_with fail
    refine (CF _ HB.out).out.mono ?_
    rintro e w2 ⟨rfl, hb2⟩
    have HB2 := Lib.hid (HB.out.trans (hb2.mono HB.out.size))
    clear hb2 HB
    have HB := HB2
    go_wp2_with fail
    all_goals
      go_ret
      refine ⟨?_, HB.out⟩
      simp [*] <;> rfl
  · rw [hx] at CD
    rw [hk] at CF
    obtain rfl := of_decide_eq_true hx
    obtain rfl := of_decide_eq_true hk
    go_enter Tryd.func8, Tryd.ntmps8
    go_wp2_with fail
    refine (CD _ (((Below.refl _ _).alloc (Nat.le_refl _) _).alloc (by simp) _)).out.mono ?_
    rintro e w1 ⟨rfl, hb⟩
    have O0 : OwnB w1 w.heap.size _ 27 := ⟨(hb.block _ (by simp; omega)).trans (OwnB.alloc (OwnB.new rfl) _).blk⟩
    have O1 : OwnB w1 (w.heap.size + 1) _ 27 := ⟨(hb.block _ (by simp)).trans (OwnB.new (by simp)).blk⟩
    obtain ⟨y0, x0, z0⟩ := O0.facts
    obtain ⟨y1, x1, z1⟩ := O1.facts
    have HB := Lib.hid ((((Below.refl w.heap.size w).alloc (Nat.le_refl _) _).alloc (by simp) _).trans (hb.mono (by simp; omega)))
    have hz : w.heap.size + 1 < w1.heap.size := lt_of_blk O1.blk
    clear hb
    go_wp2_with fail
    refine (CF _ HB.out).out.mono ?_
    rintro e w2 ⟨rfl, hb2⟩
    have HB2 := Lib.hid (HB.out.trans (hb2.mono HB.out.size))
    clear hb2 HB
    have HB := HB2
    go_wp2_with fail
    all_goals
      go_ret
      refine ⟨?_, HB.out⟩
      simp [*] <;> rfl
end Go.Proofs.YtjmemapkipkocaaDoor

/-
  Copies: what is wanted of each list.
-/
namespace Go.Proofs.YtjmemapkipkocaaDoor
open Go.RowKit Go.Maps
set_option linter.unusedVariables false
set_option linter.unusedSimpArgs false

theorem alloc_old (w : World) (o : Obj) (b : Nat) (h : b < w.heap.size) : (w.alloc o).heap[b]? = w.heap[b]? := ((Keeps.refl [] w).alloc o).block b h (by simp)
theorem grow_fp {W w' : World} {lo hi lo2 hi2 g : Nat} {Fo F0 Fi : List Nat} (hnd : (Fo ++ F0).Nodup) (hF : ∀ b ∈ Fo ++ F0, lo ≤ b ∧ b < hi) (hndi : Fi.Nodup) (hFi : ∀ b ∈ Fi, lo2 ≤ b ∧ b < hi2) (h12 : hi ≤ lo2) (hlo : lo ≤ lo2 ∧ lo ≤ W.heap.size) (hh : hi2 ≤ W.heap.size ∧ hi ≤ W.heap.size)
    (hg : g = W.heap.size ∨ g ∈ Fo) (hgw : g < w'.heap.size) (hz : W.heap.size ≤ w'.heap.size) : (g :: (F0 ++ Fi)).Nodup ∧ ∀ b ∈ g :: (F0 ++ Fi), lo ≤ b ∧ b < w'.heap.size ∧ b ∉ ([] : List Nat) := by
  have hnd2 := List.nodup_append.1 hnd
  refine ⟨List.nodup_cons.2 ⟨fun hm => ?_, List.nodup_append.2 ⟨hnd2.2.1, hndi, fun x hx y hy => ?_⟩⟩, fun b hm => ?_⟩
  · rcases List.mem_append.1 hm with hm | hm
    · rcases hg with rfl | hg
      · have := hF _ (List.mem_append_right _ hm); omega
      · exact hnd2.2.2 g hg g hm rfl
    · have h1 := hFi g hm
      rcases hg with rfl | hg
      · omega
      · have := hF g (List.mem_append_left _ hg); omega
  · have := hF x (List.mem_append_right _ hx); have := hFi y hy; omega
  · rcases List.mem_cons.1 hm with rfl | hm
    · rcases hg with rfl | hg
      · exact ⟨hlo.2, hgw, by simp⟩
      · have := hF _ (List.mem_append_left _ hg); exact ⟨this.1, hgw, by simp⟩
    · rcases List.mem_append.1 hm with hm | hm
      · have := hF b (List.mem_append_right _ hm); exact ⟨this.1, by omega, by simp⟩
      · have := hFi b hm; exact ⟨by omega, by omega, by simp⟩
theorem wpList_appendG {ops : Array Oper} {rest : List Oper} {o : Oper} {a : Act} {Q : Exit → Act → World → Prop} {W : World} (hgd : o.guard = none) (sO xO : Operand) (ST T : TypeId) (zero : Value) (sz bytes : Nat) (zs : List Value)
    (In : World → List Value → List Nat → Prop) (hIn : ∀ w w' ks F, In w ks F → (∀ b ∈ F, w'.heap[b]? = w.heap[b]?) → In w' ks F)
    (hund : Tryd.prog.underlying ST = some (.slice T)) (hinfo : (Tryd.prog.info? T).map (fun i => (i.zero, i.size, i.bytes)) = some (some zero, sz, bytes)) (hzc : zero.cells.size = sz) (hzl : zs.length = sz) (h0 : 0 < sz) (hby : bytes ≤ 10000)
    (hone : ∀ u ∈ zs, u.oneCell' = true)
    (ho : o.op = .call { callee := .builtin .append, args := #[sO, xO], argTypes := #[ST, ST] })
    {lo hi n : Nat} {av : Option Addr} {cap gb cb : Nat} {ks : List Value} {F0 : List Nat} (hs : a.eval sO = .slice av n cap) (hx : a.eval xO = .slice (some ⟨gb, 0, none⟩) 1 cb)
    (hrow : W.ownsRow 0 T sz (.slice av n cap) n ks) (hin : In W ks F0) (hnd : (ownF (Value.slice av n cap) ++ F0).Nodup) (hF : ∀ b ∈ ownF (Value.slice av n cap) ++ F0, lo ≤ b ∧ b < hi) (hhi : hi ≤ W.heap.size)
    (hb : OwnB W gb zs.toArray T) (hlo : lo ≤ W.heap.size) (hlen : n ≤ 1000000000)
    (hK : ∀ g cap' w', w'.ownsRow 0 T sz (.slice (some ⟨g, 0, none⟩) (n + 1) cap') (n + 1) (ks ++ zs) → In w' ks F0 → (g = W.heap.size ∨ g ∈ ownF (Value.slice av n cap)) → g < w'.heap.size → (∀ b, b < W.heap.size → b ∉ ownF (Value.slice av n cap) → w'.heap[b]? = W.heap[b]?) → W.heap.size ≤ w'.heap.size → (w'.os = W.os ∧ w'.tape = W.tape ∧ w'.output = W.output) →
      wpList Tryd.prog ops Q rest (a.put o.dst (.slice (some ⟨g, 0, none⟩) (n + 1) cap')) w') :
    wpList Tryd.prog ops Q (o :: rest) a W := by
  obtain ⟨i0, hinf, hz⟩ : ∃ i, Tryd.prog.info? T = some i ∧ (i.zero, i.size, i.bytes) = (some zero, sz, bytes) := by
    cases hq : Tryd.prog.info? T with
    | none => simp [hq] at hinfo
    | some i => exact ⟨i, rfl, by simpa [hq] using hinfo⟩
  simp only [Prod.mk.injEq] at hz
  obtain ⟨hz0, hz1, hz2⟩ := hz
  have hown := rebase hrow (fun b hm => (hF b (by simp [hm])).1)
  refine wpList_append_lies W hgd sO xO ST ho lo T i0 zero sz bytes hund hinf hz0 hz1 hz2 hzc h0 _ n ks hs hown ⟨gb, 0, none⟩ 1 cb zs hx (by omega)
    (World.news_of_block hb.blk) hone (by decide) (by unfold maxLen; omega) ?_ hlo _ rfl ?_
  · have h1 : (n + 1) * bytes ≤ 1000000001 * 10000 := Nat.mul_le_mul (by omega) hby
    omega
  · intro g cap' w' hown' hgr hg hgw
    have hkeep : ∀ b, b < W.heap.size → b ∉ ownF (Value.slice av n cap) → w'.heap[b]? = W.heap[b]? := by
      intro b hbs hm
      refine hgr.block b hbs ?_
      intro e
      exact hm (by rw [ownF, ← e]; simp)
    have hnd2 := List.nodup_append.1 hnd
    have hF0 : ∀ b ∈ F0, b < W.heap.size ∧ b ∉ ownF (Value.slice av n cap) := fun b hm => ⟨by have := (hF b (by simp [hm])).2; omega, fun h5 => hnd2.2.2 b h5 b hm rfl⟩
    have hgo : g = W.heap.size ∨ g ∈ ownF (Value.slice av n cap) := by
      rcases hg with hg | rfl
      · exact .inr (by rw [ownF, hg]; simp)
      · exact .inl rfl
    exact hK g cap' w' (rebase hown' (fun b _ => Nat.zero_le _)) (hIn _ _ _ _ hin fun b hm => hkeep b (hF0 b hm).1 (hF0 b hm).2) hgo hgw hkeep hgr.size ⟨hgr.os, hgr.tape, hgr.output⟩
/-- A row's blocks: new since lo. -/
def New (R : World → Value → List Nat → Prop) (lo : Nat) (v : Value) (w : World) : Prop := RIn (fun w F => R w v F) w lo w.heap.size []
theorem New.low {R : World → Value → List Nat → Prop} (hR : ∀ w w' v F, R w v F → (∀ b ∈ F, w'.heap[b]? = w.heap[b]?) → R w' v F) {lo : Nat} {v : Value} {w w' : World} (h : New R lo v w) (hb : Below w.heap.size w w') : New R lo v w' :=
  (RIn.of_heap (R := fun w F => R w v F) (fun _ _ _ h h' => hR _ _ _ _ h h') (show RIn (fun w F => R w v F) w lo w.heap.size [] from h) hb.size (fun b _ h1 _ => hb.block b h1)).wide (Nat.le_refl _) hb.size (Nat.le_refl _)
/-- The same, where blocks below it are written. -/
theorem New.to {R : World → Value → List Nat → Prop} (hR : ∀ w w' v F, R w v F → (∀ b ∈ F, w'.heap[b]? = w.heap[b]?) → R w' v F) {lo lo' : Nat} {v : Value} {w w' : World} (h : New R lo v w) {G : List Nat} (k : Keeps G w w') (hG : ∀ b ∈ G, b < lo) (hlo : lo' ≤ lo) : New R lo' v w' :=
  (RIn.of_heap (R := fun w F => R w v F) (fun _ _ _ h h' => hR _ _ _ _ h h') (show RIn (fun w F => R w v F) w lo w.heap.size [] from h) k.size (fun b h0 h1 _ => k.block b h1 (fun hm => by have := hG b hm; omega))).wide hlo k.size (Nat.le_refl _)
end Go.Proofs.YtjmemapkipkocaaDoor

/-
  Copies of expressions.
-/
namespace Go.Proofs.YtjmemapkipkocaaDoor
open Go.RowKit Go.Maps
set_option linter.unusedVariables false
set_option linter.unusedSimpArgs false
set_option maxRecDepth 100000
set_option maxHeartbeats 1000000

def Exs.ofL : List Ex → Exs
  | [] => .nil
  | e :: r => .add e (ofL r)
theorem Exs.ofL_toL : ∀ x : Exs, ofL x.toL = x := by
  intro x
  induction x with
  | nil => rfl
  | cons _ _ _ _ _ _ _ _ ih => simp only [Exs.toL, ofL, ih]; rfl
theorem Exs.ofL_snoc (e : Ex) : ∀ l : List Ex, ofL (l ++ [e]) = (ofL l).snoc e := by
  intro l
  induction l with
  | nil => rfl
  | cons a r ih => simp only [List.cons_append, ofL, ih, Exs.add, Exs.snoc]
theorem Exs.ofL_len : ∀ l : List Ex, (ofL l).len = l.length := by
  intro l
  induction l with
  | nil => rfl
  | cons a r ih => simp only [ofL, Exs.add, Exs.len, ih, List.length_cons]
theorem RowX.form {w : World} {x : Exs} {v : Value} {F : List Nat} (h : RowX w x v F) : ∃ a c, v = .slice a x.len c := by
  obtain ⟨ks, F0, h1, _, _⟩ := h
  rcases h1.2 with ⟨rfl, h⟩ | ⟨g, cap, cur, rfl, _⟩
  · exact ⟨none, 0, by rw [h]⟩
  · exact ⟨_, _, rfl⟩
theorem Exs.len_size : ∀ x : Exs, x.len ≤ x.size := by
  intro x
  induction x with
  | nil => exact Nat.le_refl _
  | cons _ _ _ _ _ _ _ _ ih => simp only [Exs.len, Exs.size]; omega
/-- What a call does that copies. -/
def Copied (R : World → Value → List Nat → Prop) (w : World) (e : Ending) (w' : World) : Prop := ∃ v', e = .returned v' ∧ New R w.heap.size v' w' ∧ Below w.heap.size w w'
def CpEs (n : Nat) : Prop := ∀ (x : Exs), x.size < n → x.size ≤ 1000000000 → ∀ (w : World) (v : Value) (F : List Nat), RowX w x v F → Calls Tryd.prog 80 #[v] w (Copied (fun w v F => RowX w x v F) w)
theorem copyExpr_step (n : Nat) (IH : CpEs n) (e : Ex) (he : e.kids.size < n) (hsm : e.kids.size ≤ 1000000000) (w : World) (v : Value) (F : List Nat) (hv : RowX w e.kids v F) :
    Calls Tryd.prog 88 #[.agg (exC e v).toArray] w fun e1 w' => ∃ v', e1 = .returned (.agg (exC e v').toArray) ∧ New (fun w v F => RowX w e.kids v F) w.heap.size v' w' ∧ Below w.heap.size w w' := by
  obtain ⟨a, c, rfl⟩ := hv.form
  have CE := fun W (H : Below w.heap.size w W) => Lib.hid (IH e.kids he hsm W (.slice a e.kids.len c) F (hv.low H))
  clear hv
  unfold exC
  go_enter Tryd.func88, Tryd.ntmps88
  go_wp2_with fail
  refine (CE _ ((((Below.refl _ _).alloc (Nat.le_refl _) _).alloc (by simp) _).alloc (by simp <;> omega) _)).out.mono ?_
  rintro e1 w1 ⟨v1, rfl, hN, hb⟩
  obtain ⟨a1, c1, rfl⟩ : ∃ a1 c1, v1 = .slice a1 e.kids.len c1 := by obtain ⟨_, _, hr, _⟩ := hN; exact hr.form
  have O1 : OwnB w1 (w.heap.size + 1) _ 105 := ⟨(hb.block _ (by simp <;> omega)).trans (OwnB.alloc (OwnB.new (by simp)) _).blk⟩
  have O2 : OwnB w1 (w.heap.size + 1 + 1) _ 105 := ⟨(hb.block _ (by simp)).trans (OwnB.new (by simp)).blk⟩
  obtain ⟨y1, x1, z1⟩ := O1.facts
  obtain ⟨y2, x2, z2⟩ := O2.facts
  have hz := hb.size
  simp only [World.size_alloc] at hz
  have HN := Lib.hid hN
  have HB := Lib.hid ((((Below.refl w.heap.size w).alloc (Nat.le_refl _) _).alloc (by simp) _).alloc (by simp <;> omega) _ |>.trans (hb.mono (by simp <;> omega)))
  clear hN hb
  go_wp2_with fail
  refine bodyPost_ret (v := .agg #[.int .i64 e.op, .int .i64 e.ty.kind, .int .i64 e.ty.ptr, .int .i64 e.ty.len, .string ⟨e.nm.toArray⟩, .int .i64 e.n, .slice a1 e.kids.len c1, .int .i64 e.pos]) (by simp [results, Tryd.results88, go_sem, *]) rfl ?_
  refine ⟨_, rfl, ?_, ?_⟩
  · exact HN.out.to (fun _ _ _ _ h h' => h.at_ h') (G := [w.heap.size + 1, w.heap.size + 1 + 1]) Keeps.au (by simp) (by simp <;> omega)
  · exact ((Keeps.of_below (G := []) HB.out).then_ (H := [w.heap.size + 1, w.heap.size + 1 + 1]) Keeps.au (by simp <;> omega)).below
theorem copyExprs_step (n : Nat) (IH : CpEs n) (x : Exs) (hx : x.size < n + 1) (hsm : x.size ≤ 1000000000) (w : World) (v : Value) (F : List Nat) (hv : RowX w x v F) : Calls Tryd.prog 80 #[v] w (Copied (fun w v F => RowX w x v F) w) := by
  obtain ⟨a, c, rfl⟩ := hv.form
  have hl1 : x.len ≤ maxLen := by obtain ⟨_, _, h, _⟩ := hv; exact ownLen h
  unfold maxLen at hl1
  have HV := Lib.hid hv
  clear hv
  go_enter Tryd.func80, Tryd.ntmps80
  go_wp2_with fail
  go_loopw [3, 4, 5, 6, 7, 8, 9, 10, 11, 12, 13, 14, 15, 16, 17, 18] (fun lv i _ _ _ _ _ _ _ _ _ _ _ _ _ _ wr => ∃ (k : Nat) (la : Option Addr) (lc hi : Nat), k ≤ x.len ∧ i = .int .i64 k ∧ lv = .slice la k lc ∧ RIn (fun w F => RowX w (Exs.ofL (x.toL.take k)) (.slice la k lc) F) wr w.heap.size hi [] ∧ Below w.heap.size w wr) (fun _ i _ _ _ _ _ _ _ _ _ _ _ _ _ _ _ => x.len - (intOf i).toNat)
  case atStart => exact ⟨0, none, 0, w.heap.size, by omega, rfl, rfl, ⟨Nat.le_refl _, [], RowX.nil, by simp, by simp⟩, Below.refl _ _⟩
  case round =>
    obtain ⟨k, la, lc, hi, hk, rfl, rfl, hA, hb⟩ := hrel
    have HA := Lib.hid hA
    have HB := Lib.hid hb
    clear hA hb
    by_cases hlt : k < x.len
    · have hd1 : decide ((k : Int) < (x.len : Int)) = true := by simp; omega
      have hk0 : (0 : Int) ≤ (k : Int) := by omega
      have hk1 : (k : Int) < (x.len : Int) := by omega
      obtain ⟨e, he⟩ : ∃ e, x.toL[k]? = some e := ⟨_, List.getElem?_eq_getElem (by rw [Exs.toL_len]; exact hlt)⟩
      obtain ⟨js, I0, i1, i2, _⟩ := HV.out.low HB.out
      obtain ⟨kv, Fi, r1, _, r3⟩ := ExsIn.get _ _ _ i2 k e he
      obtain ⟨g, cap, hg, hgl, hgc⟩ := own_get i1 (by omega)
      injection hg with q1 q2 q3
      subst q1 q3
      have hc1 : ∀ j u, (exC e kv)[j]? = some u → wr.cell? ⟨g, k * 8 + j, none⟩ = some u := fun j u hu => hgc _ _ (r3 j u hu)
      have a0 := hc1 0 _ rfl
      have a1 := hc1 1 _ rfl
      have a2 := hc1 2 _ rfl
      have a3 := hc1 3 _ rfl
      have a4 := hc1 4 _ rfl
      have a5 := hc1 5 _ rfl
      have a6 := hc1 6 _ rfl
      have a7 := hc1 7 _ rfl
      simp only [Nat.add_zero] at a0
      have hes := Exs.size_mem x e (List.mem_of_getElem? he)
      have CE := Lib.hid (copyExpr_step n IH e (by omega) (by omega) wr kv Fi r1)
      unfold exC at CE
      clear i1 i2 r1 r3 hgc hc1
      go_wp2_with fail
      refine CE.out.mono ?_
      rintro e1 w1 ⟨v1, rfl, hN, hb1⟩
      obtain ⟨a1, c1, rfl⟩ : ∃ a1 c1, v1 = .slice a1 e.kids.len c1 := by obtain ⟨_, _, hr, _⟩ := hN; exact hr.form
      have hz1 := hb1.size
      have HN := Lib.hid hN
      have HA1 := Lib.hid (RIn.of_heap (R := fun w F => RowX w (Exs.ofL (x.toL.take k)) (.slice la k lc) F) (fun _ _ _ h h' => h.at_ h') HA.out hz1 (fun b _ h1 _ => hb1.block b (by have := HA.out.hle; omega)))
      have HB1 := Lib.hid (HB.out.trans (hb1.mono HB.out.size))
      have hhi := HA.out.hle
      have hsz := HB.out.size
      clear hN hb1 HA
      obtain ⟨hle, Fa, ⟨ks, F0, hrow, hin, rfl⟩, hnd, hF⟩ := HA1.out
      obtain ⟨hle2, Fk, hrk, hndk, hFk⟩ := HN.out
      have hlenk : (Exs.ofL (x.toL.take k)).len = k := by rw [Exs.ofL_len, List.length_take, Exs.toL_len]; omega
      rw [hlenk] at hrow
      have hrow2 : (w1.alloc (.cells (exC e (.slice a1 e.kids.len c1)).toArray 105 (0, 0))).ownsRow 0 105 8 (.slice la k lc) k ks := ownsRow_at hrow (fun b hm => alloc_old w1 _ b (by have := hF b (List.mem_append_left _ hm); omega))
      have hin2 : ExsIn (w1.alloc (.cells (exC e (.slice a1 e.kids.len c1)).toArray 105 (0, 0))) (Exs.ofL (x.toL.take k)) ks F0 := ExsIn.at_ _ _ _ hin (fun b hm => alloc_old w1 _ b (by have := hF b (List.mem_append_right _ hm); omega))
      have hbl : OwnB (w1.alloc (.cells (exC e (.slice a1 e.kids.len c1)).toArray 105 (0, 0))) w1.heap.size (exC e (.slice a1 e.kids.len c1)).toArray 105 := OwnB.new rfl
      have hw1l : w.heap.size ≤ w1.heap.size := HB1.out.size
      have hmx := World.size_alloc w1 (.cells (exC e (.slice a1 e.kids.len c1)).toArray 105 (0, 0))
      have hkl : k ≤ 1000000000 := by have := Exs.len_size x; omega
      clear hrow hin
      go_wp2_with (at_builtin; refine wpList_appendG rfl _ _ 80 105 _ 8 88 (exC e (.slice a1 e.kids.len c1)) (fun w xs F => ExsIn w (Exs.ofL (x.toL.take k)) xs F) (fun _ _ _ _ h h' => ExsIn.at_ _ _ _ h h') Tryd.underlying80 infoEx rfl rfl (by decide) (by decide) (by intro u hu; simp only [exC, List.mem_cons, List.not_mem_nil, or_false] at hu; rcases hu with rfl | rfl | rfl | rfl | rfl | rfl | rfl | rfl <;> rfl) rfl rfl rfl hrow2 hin2 hnd (fun b hm => ⟨(hF b hm).1, (hF b hm).2.1⟩) (by rw [World.size_alloc]; omega) hbl (by rw [World.size_alloc]; omega) hkl ?_; intro g2 cap' w2 hrow3 hin3 hg2 hgw hk2 hz2 hot)
      rw [World.size_alloc] at hg2 hz2
      have hfp := grow_fp (W := w1.alloc (.cells (exC e (.slice a1 e.kids.len c1)).toArray 105 (0, 0))) (w' := w2) (lo := w.heap.size) (hi := hi) (lo2 := wr.heap.size) (hi2 := w1.heap.size) hnd (fun b hm => ⟨(hF b hm).1, (hF b hm).2.1⟩) hndk (fun b hm => ⟨(hFk b hm).1, (hFk b hm).2.1⟩) (by omega) ⟨by omega, by rw [hmx]; omega⟩ ⟨by rw [hmx]; omega, by rw [hmx]; omega⟩ (by rw [hmx]; exact hg2) hgw (by rw [hmx]; exact hz2)
      have hbl2 : ∀ b, b < w1.heap.size → b ∉ ownF (Value.slice la k lc) → w2.heap[b]? = w1.heap[b]? := fun b h1 h2 => (hk2 b (by rw [World.size_alloc]; omega) h2).trans (alloc_old w1 _ b h1)
      have hrk2 : RowX w2 e.kids (.slice a1 e.kids.len c1) Fk := hrk.at_ (fun b hm => hbl2 b (hFk b hm).2.1 (fun h2 => by have := (hF b (List.mem_append_left _ h2)).2.1; have := (hFk b hm).1; omega))
      have hB2 : Below w.heap.size w w2 := HB1.out.trans ⟨hot.1, hot.2.1, hot.2.2, by omega, fun b h1 => hbl2 b (by omega) (fun h2 => by have := (hF b (List.mem_append_left _ h2)).1; omega)⟩
      go_roundw
      case measure => simp [intOf]; omega
      case rel =>
        refine ⟨k + 1, some ⟨g2, 0, none⟩, cap', w2.heap.size, by omega, by simp, rfl, ⟨Nat.le_refl _, g2 :: (F0 ++ Fk), ⟨ks ++ exC e (.slice a1 e.kids.len c1), F0 ++ Fk, ?_, ?_, rfl⟩, hfp.1, hfp.2⟩, hB2⟩
        · rw [Exs.ofL_len, List.length_take, Exs.toL_len, Nat.min_eq_left (by omega)]
          exact hrow3
        · rw [List.take_add_one, he]
          show ExsIn w2 (Exs.ofL (x.toL.take k ++ [e])) _ _
          rw [Exs.ofL_snoc]
          exact ExsIn.snoc hrk2 _ _ _ hin3
    · obtain rfl : k = x.len := by omega
      have hd1 : decide ((x.len : Int) < (x.len : Int)) = false := by simp
      have hA := HA.out
      rw [← Exs.toL_len, List.take_length, Exs.ofL_toL, Exs.toL_len] at hA
      go_wp2_with fail
      go_ret
      exact ⟨_, rfl, hA.wide (Nat.le_refl _) hA.hle (Nat.le_refl _), HB.out⟩
theorem cpEs : ∀ n, CpEs n := by
  intro n
  induction n with
  | zero => intro x h; omega
  | succ n ih => exact fun x h h2 w v F => copyExprs_step n ih x h h2 w v F
theorem copyExprs_any (x : Exs) (hsm : x.size ≤ 1000000000) (w : World) (v : Value) (F : List Nat) (hv : RowX w x v F) : Calls Tryd.prog 80 #[v] w (Copied (fun w v F => RowX w x v F) w) := cpEs (x.size + 1) x (by omega) hsm w v F hv
end Go.Proofs.YtjmemapkipkocaaDoor

/-
  Statements: 'short'.
-/
namespace Go.Proofs.YtjmemapkipkocaaDoor
open Go.RowKit Go.Maps
set_option linter.unusedVariables false
set_option linter.unusedSimpArgs false
set_option maxRecDepth 100000
set_option maxHeartbeats 2000000

theorem OwnB.s9_0 {w : World} {b : Nat} {u0 u1 u2 u3 u4 u5 u6 u7 u8 v : Value} {T : TypeId} (h : OwnB w b #[u0, u1, u2, u3, u4, u5, u6, u7, u8] T) : OwnB (w.setCell ⟨b, 0, none⟩ v) b #[v, u1, u2, u3, u4, u5, u6, u7, u8] T := h.set 0 v
theorem OwnB.s9_1 {w : World} {b : Nat} {u0 u1 u2 u3 u4 u5 u6 u7 u8 v : Value} {T : TypeId} (h : OwnB w b #[u0, u1, u2, u3, u4, u5, u6, u7, u8] T) : OwnB (w.setCell ⟨b, 1, none⟩ v) b #[u0, v, u2, u3, u4, u5, u6, u7, u8] T := h.set 1 v
theorem OwnB.s9_2 {w : World} {b : Nat} {u0 u1 u2 u3 u4 u5 u6 u7 u8 v : Value} {T : TypeId} (h : OwnB w b #[u0, u1, u2, u3, u4, u5, u6, u7, u8] T) : OwnB (w.setCell ⟨b, 2, none⟩ v) b #[u0, u1, v, u3, u4, u5, u6, u7, u8] T := h.set 2 v
theorem OwnB.s9_3 {w : World} {b : Nat} {u0 u1 u2 u3 u4 u5 u6 u7 u8 v : Value} {T : TypeId} (h : OwnB w b #[u0, u1, u2, u3, u4, u5, u6, u7, u8] T) : OwnB (w.setCell ⟨b, 3, none⟩ v) b #[u0, u1, u2, v, u4, u5, u6, u7, u8] T := h.set 3 v
theorem OwnB.s9_4 {w : World} {b : Nat} {u0 u1 u2 u3 u4 u5 u6 u7 u8 v : Value} {T : TypeId} (h : OwnB w b #[u0, u1, u2, u3, u4, u5, u6, u7, u8] T) : OwnB (w.setCell ⟨b, 4, none⟩ v) b #[u0, u1, u2, u3, v, u5, u6, u7, u8] T := h.set 4 v
theorem OwnB.s9_5 {w : World} {b : Nat} {u0 u1 u2 u3 u4 u5 u6 u7 u8 v : Value} {T : TypeId} (h : OwnB w b #[u0, u1, u2, u3, u4, u5, u6, u7, u8] T) : OwnB (w.setCell ⟨b, 5, none⟩ v) b #[u0, u1, u2, u3, u4, v, u6, u7, u8] T := h.set 5 v
theorem OwnB.s9_6 {w : World} {b : Nat} {u0 u1 u2 u3 u4 u5 u6 u7 u8 v : Value} {T : TypeId} (h : OwnB w b #[u0, u1, u2, u3, u4, u5, u6, u7, u8] T) : OwnB (w.setCell ⟨b, 6, none⟩ v) b #[u0, u1, u2, u3, u4, u5, v, u7, u8] T := h.set 6 v
theorem OwnB.s9_7 {w : World} {b : Nat} {u0 u1 u2 u3 u4 u5 u6 u7 u8 v : Value} {T : TypeId} (h : OwnB w b #[u0, u1, u2, u3, u4, u5, u6, u7, u8] T) : OwnB (w.setCell ⟨b, 7, none⟩ v) b #[u0, u1, u2, u3, u4, u5, u6, v, u8] T := h.set 7 v
theorem OwnB.s9_8 {w : World} {b : Nat} {u0 u1 u2 u3 u4 u5 u6 u7 u8 v : Value} {T : TypeId} (h : OwnB w b #[u0, u1, u2, u3, u4, u5, u6, u7, u8] T) : OwnB (w.setCell ⟨b, 8, none⟩ v) b #[u0, u1, u2, u3, u4, u5, u6, u7, v] T := h.set 8 v
theorem NowS.finP {c : Cx} {q : Nat} {w W : World} {L : List KQ} {m : Sm} {s : St} {R : Sm × St} {a a' : Option Addr} {n cp n' cp' : Nat} (h : NowS c q w R.2 L W) (hb : OwnB W q #[.int .i64 R.1.op, .slice a n cp, .slice a' n' cp', .int .i64 R.1.ty.kind, .int .i64 R.1.ty.ptr, .int .i64 R.1.ty.len, .string ⟨R.1.nm.toArray⟩, .int .i64 R.1.n, .int .i64 R.1.pos] 82)
    (hm : MIn W w.heap.size W.heap.size [] R.1.ex (.slice a n cp) R.1.body (.slice a' n' cp')) : DoesP c q m s (some R) w (.returned (.bool true)) W := ⟨a, n, cp, a', n', cp', rfl, h.pin, h.kp, hb, hm⟩
theorem NowS.finW {c : Cx} {q : Nat} {w W : World} {L : List KQ} {R : Sm × St} {a a' : Option Addr} {n cp n' cp' : Nat} (h : NowS c q w R.2 L W) (hb : OwnB W q #[.int .i64 R.1.op, .slice a n cp, .slice a' n' cp', .int .i64 R.1.ty.kind, .int .i64 R.1.ty.ptr, .int .i64 R.1.ty.len, .string ⟨R.1.nm.toArray⟩, .int .i64 R.1.n, .int .i64 R.1.pos] 82)
    (hm : MIn W w.heap.size W.heap.size [] R.1.ex (.slice a n cp) R.1.body (.slice a' n' cp')) : DoesW c q R w (.returned (.tuple #[])) W := ⟨a, n, cp, a', n', cp', rfl, h.pin, h.kp, hb, hm⟩
theorem NowS.size {c : Cx} {q : Nat} {w W : World} {s : St} {L : List KQ} (h : NowS c q w s L W) : w.heap.size ≤ W.heap.size := h.kp.size

theorem short_default_ (c : Cx) (hc : c.Ok) (f : Nat) (d p : Int) (s : St) (R : Option (Sm × St)) (w : World) (q : Nat) (h0 : 0 ≤ d) (hd : d + (f + 1) ≤ 1000000000) (hq : OwnB w q #[.int .i64 0, .slice none 0 0, .slice none 0 0, .int .i64 0, .int .i64 0, .int .i64 0, .string ⟨#[]⟩, .int .i64 0, .int .i64 p] 82)
    (hn : q ≠ c.g ∧ q ≠ c.gt ∧ q ≠ c.mb ∧ q ≠ 2) (hR : P.short c.l (P.recs c.l f) d s { sm0 with pos := p } = some R) (h : PIn w c s) (k0 : P.is c.l [99, 97, 115, 101] s = false) (k1 : P.is c.l [100, 101, 102, 97, 117, 108, 116] s = true) : Calls Tryd.prog 76 #[pv c, .pointer (some ⟨q, 0, none⟩), .int .i64 d] w (DoesP c q { sm0 with pos := p } s R w) := by
  have hqlt := lt_of_blk hq.blk
  have hq1 : q ≠ c.g := hn.1
  have HN := Lib.hid (NowQ.start h)
  have HS := Lib.hid (NowS.start h hqlt hn)
  have hg := HS.out.g
  have hgt := HS.out.gt
  obtain ⟨yq, xq, zq⟩ := hq.facts
  have hw : wrap64 (d + 1) = d + 1 := wrapJ (by omega) (by omega)
  unfold P.short at hR
  have CA0 := fun W H => Lib.hid (accept_any c hc s W H [99, 97, 115, 101])
  rw [k0, show P.acc c.l [99, 97, 115, 101] s = s by simp [P.acc, k0]] at CA0
  rw [k0, if_neg (by simp)] at hR
  obtain ⟨s1, hs1⟩ : ∃ s1, s1 = P.next c.l s := ⟨_, rfl⟩
  have CA1 := fun W H => Lib.hid (accept_any c hc s W H [100, 101, 102, 97, 117, 108, 116])
  rw [k1, show P.acc c.l [100, 101, 102, 97, 117, 108, 116] s = s1 by simp [P.acc, k1, hs1]] at CA1
  rw [k1, if_pos rfl, ← hs1] at hR
  obtain rfl := Option.some.inj hR
  have CN := fun W H => Lib.hid (need_any c hc s1 W H [58])
  clear h hR hs1 k0 k1
  unfold pv
  go_enter Tryd.func76, Tryd.ntmps76
  go_wp2_with fail
  refine (CA0 _ (NowS.pin (NowS.to HS.out [q] Keeps.au (by simp <;> omega) (by simp [kq, mq] <;> omega)))).out.mono ?_
  rintro e v0 ⟨rfl, hP, hK⟩
  have hz_v0 := hK.size
  try simp only [World.size_alloc, World.size_setCell, World.size_drew, World.heap_drewN] at hz_v0
  have O_v0_0 : OwnB v0 (q) #[.int .i64 0, .slice none 0 0, .slice none 0 0, .int .i64 0, .int .i64 0, .int .i64 0, .string ⟨#[]⟩, .int .i64 0, .int .i64 p] 82 := OwnB.call OwnB.au hK (by simp only [List.mem_singleton]; omega)
  obtain ⟨y_v0_0, x_v0_0, b_v0_0⟩ := O_v0_0.facts
  have HS0 := Lib.hid (NowS.call (NowS.to HS.out [q] Keeps.au (by simp <;> omega) (by simp [kq, mq] <;> omega)) hP hK)
  clear hP hK
  go_wp2_with fail
  refine (CA1 _ (NowS.pin (NowS.to HS0.out [q] Keeps.au (by simp <;> omega) (by simp [kq, mq] <;> omega)))).out.mono ?_
  rintro e v1 ⟨rfl, hP, hK⟩
  have hz_v1 := hK.size
  try simp only [World.size_alloc, World.size_setCell, World.size_drew, World.heap_drewN] at hz_v1
  have O_v1_0 : OwnB v1 (q) #[.int .i64 0, .slice none 0 0, .slice none 0 0, .int .i64 0, .int .i64 0, .int .i64 0, .string ⟨#[]⟩, .int .i64 0, .int .i64 p] 82 := OwnB.call OwnB.au hK (by simp only [List.mem_singleton]; omega)
  obtain ⟨y_v1_0, x_v1_0, b_v1_0⟩ := O_v1_0.facts
  have HS1 := Lib.hid (NowS.call (NowS.to HS0.out [q] Keeps.au (by simp <;> omega) (by simp [kq, mq] <;> omega)) hP hK)
  clear hP hK
  go_wp2_with fail
  refine (CN _ (NowS.pin (NowS.to HS1.out [q] Keeps.au (by simp <;> omega) (by simp [kq, mq] <;> omega)))).out.mono ?_
  rintro e x1 ⟨rfl, hP, hK⟩
  have hz_x1 := hK.size
  try simp only [World.size_alloc, World.size_setCell, World.size_drew, World.heap_drewN] at hz_x1
  have O_x1_0 : OwnB x1 (q) #[.int .i64 10, .slice none 0 0, .slice none 0 0, .int .i64 0, .int .i64 0, .int .i64 0, .string ⟨#[]⟩, .int .i64 0, .int .i64 p] 82 := OwnB.call (by repeat (first | with_reducible apply OwnB.s9_0 | with_reducible apply OwnB.s9_1 | with_reducible apply OwnB.s9_2 | with_reducible apply OwnB.s9_3 | with_reducible apply OwnB.s9_4 | with_reducible apply OwnB.s9_5 | with_reducible apply OwnB.s9_6 | with_reducible apply OwnB.s9_7 | with_reducible apply OwnB.s9_8 | with_reducible assumption | (with_reducible refine OwnB.new ?_; (first | with_reducible rfl | (simp only [World.size_alloc, World.size_setCell, World.size_drew, World.heap_drewN]; done) | (simp only [World.size_alloc, World.size_setCell, World.size_drew, World.heap_drewN]; omega))) | with_reducible refine OwnB.alloc ?_ _ | with_reducible refine OwnB.drew ?_ | with_reducible refine OwnB.drewN ?_ _ | with_reducible refine OwnB.setCell ?_ _ _ ?_ | (dsimp only; omega) | omega)) hK (by simp only [List.mem_singleton]; omega)
  obtain ⟨y_x1_0, x_x1_0, b_x1_0⟩ := O_x1_0.facts
  have HSx := Lib.hid (NowS.call (NowS.to HS1.out [q] Keeps.au (by simp <;> omega) (by simp [kq, mq] <;> omega)) hP hK)
  clear hP hK
  go_wp2_with fail
  go_ret
  exact NowS.finP (R := (({ sm0 with op := 10, pos := p } : Sm), P.need c.l [58] s1)) HSx.out O_x1_0 (MIn.nil (Nat.le_refl _))

theorem short_break_ (c : Cx) (hc : c.Ok) (f : Nat) (d p : Int) (s : St) (R : Option (Sm × St)) (w : World) (q : Nat) (h0 : 0 ≤ d) (hd : d + (f + 1) ≤ 1000000000) (hq : OwnB w q #[.int .i64 0, .slice none 0 0, .slice none 0 0, .int .i64 0, .int .i64 0, .int .i64 0, .string ⟨#[]⟩, .int .i64 0, .int .i64 p] 82)
    (hn : q ≠ c.g ∧ q ≠ c.gt ∧ q ≠ c.mb ∧ q ≠ 2) (hR : P.short c.l (P.recs c.l f) d s { sm0 with pos := p } = some R) (h : PIn w c s) (k0 : P.is c.l [99, 97, 115, 101] s = false) (k1 : P.is c.l [100, 101, 102, 97, 117, 108, 116] s = false) (k2 : P.is c.l [98, 114, 101, 97, 107] s = true) : Calls Tryd.prog 76 #[pv c, .pointer (some ⟨q, 0, none⟩), .int .i64 d] w (DoesP c q { sm0 with pos := p } s R w) := by
  have hqlt := lt_of_blk hq.blk
  have hq1 : q ≠ c.g := hn.1
  have HN := Lib.hid (NowQ.start h)
  have HS := Lib.hid (NowS.start h hqlt hn)
  have hg := HS.out.g
  have hgt := HS.out.gt
  obtain ⟨yq, xq, zq⟩ := hq.facts
  have hw : wrap64 (d + 1) = d + 1 := wrapJ (by omega) (by omega)
  unfold P.short at hR
  have CA0 := fun W H => Lib.hid (accept_any c hc s W H [99, 97, 115, 101])
  rw [k0, show P.acc c.l [99, 97, 115, 101] s = s by simp [P.acc, k0]] at CA0
  rw [k0, if_neg (by simp)] at hR
  have CA1 := fun W H => Lib.hid (accept_any c hc s W H [100, 101, 102, 97, 117, 108, 116])
  rw [k1, show P.acc c.l [100, 101, 102, 97, 117, 108, 116] s = s by simp [P.acc, k1]] at CA1
  rw [k1, if_neg (by simp)] at hR
  obtain ⟨s1, hs1⟩ : ∃ s1, s1 = P.next c.l s := ⟨_, rfl⟩
  have CA2 := fun W H => Lib.hid (accept_any c hc s W H [98, 114, 101, 97, 107])
  rw [k2, show P.acc c.l [98, 114, 101, 97, 107] s = s1 by simp [P.acc, k2, hs1]] at CA2
  rw [k2, if_pos rfl, ← hs1] at hR
  obtain rfl := Option.some.inj hR
  have CN := fun W H => Lib.hid (need_any c hc s1 W H [59])
  clear h hR hs1 k0 k1 k2
  unfold pv
  go_enter Tryd.func76, Tryd.ntmps76
  go_wp2_with fail
  refine (CA0 _ (NowS.pin (NowS.to HS.out [q] Keeps.au (by simp <;> omega) (by simp [kq, mq] <;> omega)))).out.mono ?_
  rintro e v0 ⟨rfl, hP, hK⟩
  have hz_v0 := hK.size
  try simp only [World.size_alloc, World.size_setCell, World.size_drew, World.heap_drewN] at hz_v0
  have O_v0_0 : OwnB v0 (q) #[.int .i64 0, .slice none 0 0, .slice none 0 0, .int .i64 0, .int .i64 0, .int .i64 0, .string ⟨#[]⟩, .int .i64 0, .int .i64 p] 82 := OwnB.call OwnB.au hK (by simp only [List.mem_singleton]; omega)
  obtain ⟨y_v0_0, x_v0_0, b_v0_0⟩ := O_v0_0.facts
  have HS0 := Lib.hid (NowS.call (NowS.to HS.out [q] Keeps.au (by simp <;> omega) (by simp [kq, mq] <;> omega)) hP hK)
  clear hP hK
  go_wp2_with fail
  refine (CA1 _ (NowS.pin (NowS.to HS0.out [q] Keeps.au (by simp <;> omega) (by simp [kq, mq] <;> omega)))).out.mono ?_
  rintro e v1 ⟨rfl, hP, hK⟩
  have hz_v1 := hK.size
  try simp only [World.size_alloc, World.size_setCell, World.size_drew, World.heap_drewN] at hz_v1
  have O_v1_0 : OwnB v1 (q) #[.int .i64 0, .slice none 0 0, .slice none 0 0, .int .i64 0, .int .i64 0, .int .i64 0, .string ⟨#[]⟩, .int .i64 0, .int .i64 p] 82 := OwnB.call OwnB.au hK (by simp only [List.mem_singleton]; omega)
  obtain ⟨y_v1_0, x_v1_0, b_v1_0⟩ := O_v1_0.facts
  have HS1 := Lib.hid (NowS.call (NowS.to HS0.out [q] Keeps.au (by simp <;> omega) (by simp [kq, mq] <;> omega)) hP hK)
  clear hP hK
  go_wp2_with fail
  refine (CA2 _ (NowS.pin (NowS.to HS1.out [q] Keeps.au (by simp <;> omega) (by simp [kq, mq] <;> omega)))).out.mono ?_
  rintro e v2 ⟨rfl, hP, hK⟩
  have hz_v2 := hK.size
  try simp only [World.size_alloc, World.size_setCell, World.size_drew, World.heap_drewN] at hz_v2
  have O_v2_0 : OwnB v2 (q) #[.int .i64 0, .slice none 0 0, .slice none 0 0, .int .i64 0, .int .i64 0, .int .i64 0, .string ⟨#[]⟩, .int .i64 0, .int .i64 p] 82 := OwnB.call OwnB.au hK (by simp only [List.mem_singleton]; omega)
  obtain ⟨y_v2_0, x_v2_0, b_v2_0⟩ := O_v2_0.facts
  have HS2 := Lib.hid (NowS.call (NowS.to HS1.out [q] Keeps.au (by simp <;> omega) (by simp [kq, mq] <;> omega)) hP hK)
  clear hP hK
  go_wp2_with fail
  refine (CN _ (NowS.pin (NowS.to HS2.out [q] Keeps.au (by simp <;> omega) (by simp [kq, mq] <;> omega)))).out.mono ?_
  rintro e x1 ⟨rfl, hP, hK⟩
  have hz_x1 := hK.size
  try simp only [World.size_alloc, World.size_setCell, World.size_drew, World.heap_drewN] at hz_x1
  have O_x1_0 : OwnB x1 (q) #[.int .i64 11, .slice none 0 0, .slice none 0 0, .int .i64 0, .int .i64 0, .int .i64 0, .string ⟨#[]⟩, .int .i64 0, .int .i64 p] 82 := OwnB.call (by repeat (first | with_reducible apply OwnB.s9_0 | with_reducible apply OwnB.s9_1 | with_reducible apply OwnB.s9_2 | with_reducible apply OwnB.s9_3 | with_reducible apply OwnB.s9_4 | with_reducible apply OwnB.s9_5 | with_reducible apply OwnB.s9_6 | with_reducible apply OwnB.s9_7 | with_reducible apply OwnB.s9_8 | with_reducible assumption | (with_reducible refine OwnB.new ?_; (first | with_reducible rfl | (simp only [World.size_alloc, World.size_setCell, World.size_drew, World.heap_drewN]; done) | (simp only [World.size_alloc, World.size_setCell, World.size_drew, World.heap_drewN]; omega))) | with_reducible refine OwnB.alloc ?_ _ | with_reducible refine OwnB.drew ?_ | with_reducible refine OwnB.drewN ?_ _ | with_reducible refine OwnB.setCell ?_ _ _ ?_ | (dsimp only; omega) | omega)) hK (by simp only [List.mem_singleton]; omega)
  obtain ⟨y_x1_0, x_x1_0, b_x1_0⟩ := O_x1_0.facts
  have HSx := Lib.hid (NowS.call (NowS.to HS2.out [q] Keeps.au (by simp <;> omega) (by simp [kq, mq] <;> omega)) hP hK)
  clear hP hK
  go_wp2_with fail
  go_ret
  exact NowS.finP (R := (({ sm0 with op := 11, pos := p } : Sm), P.need c.l [59] s1)) HSx.out O_x1_0 (MIn.nil (Nat.le_refl _))

theorem short_continue_ (c : Cx) (hc : c.Ok) (f : Nat) (d p : Int) (s : St) (R : Option (Sm × St)) (w : World) (q : Nat) (h0 : 0 ≤ d) (hd : d + (f + 1) ≤ 1000000000) (hq : OwnB w q #[.int .i64 0, .slice none 0 0, .slice none 0 0, .int .i64 0, .int .i64 0, .int .i64 0, .string ⟨#[]⟩, .int .i64 0, .int .i64 p] 82)
    (hn : q ≠ c.g ∧ q ≠ c.gt ∧ q ≠ c.mb ∧ q ≠ 2) (hR : P.short c.l (P.recs c.l f) d s { sm0 with pos := p } = some R) (h : PIn w c s) (k0 : P.is c.l [99, 97, 115, 101] s = false) (k1 : P.is c.l [100, 101, 102, 97, 117, 108, 116] s = false) (k2 : P.is c.l [98, 114, 101, 97, 107] s = false) (k3 : P.is c.l [99, 111, 110, 116, 105, 110, 117, 101] s = true) : Calls Tryd.prog 76 #[pv c, .pointer (some ⟨q, 0, none⟩), .int .i64 d] w (DoesP c q { sm0 with pos := p } s R w) := by
  have hqlt := lt_of_blk hq.blk
  have hq1 : q ≠ c.g := hn.1
  have HN := Lib.hid (NowQ.start h)
  have HS := Lib.hid (NowS.start h hqlt hn)
  have hg := HS.out.g
  have hgt := HS.out.gt
  obtain ⟨yq, xq, zq⟩ := hq.facts
  have hw : wrap64 (d + 1) = d + 1 := wrapJ (by omega) (by omega)
  unfold P.short at hR
  have CA0 := fun W H => Lib.hid (accept_any c hc s W H [99, 97, 115, 101])
  rw [k0, show P.acc c.l [99, 97, 115, 101] s = s by simp [P.acc, k0]] at CA0
  rw [k0, if_neg (by simp)] at hR
  have CA1 := fun W H => Lib.hid (accept_any c hc s W H [100, 101, 102, 97, 117, 108, 116])
  rw [k1, show P.acc c.l [100, 101, 102, 97, 117, 108, 116] s = s by simp [P.acc, k1]] at CA1
  rw [k1, if_neg (by simp)] at hR
  have CA2 := fun W H => Lib.hid (accept_any c hc s W H [98, 114, 101, 97, 107])
  rw [k2, show P.acc c.l [98, 114, 101, 97, 107] s = s by simp [P.acc, k2]] at CA2
  rw [k2, if_neg (by simp)] at hR
  obtain ⟨s1, hs1⟩ : ∃ s1, s1 = P.next c.l s := ⟨_, rfl⟩
  have CA3 := fun W H => Lib.hid (accept_any c hc s W H [99, 111, 110, 116, 105, 110, 117, 101])
  rw [k3, show P.acc c.l [99, 111, 110, 116, 105, 110, 117, 101] s = s1 by simp [P.acc, k3, hs1]] at CA3
  rw [k3, if_pos rfl, ← hs1] at hR
  obtain rfl := Option.some.inj hR
  have CN := fun W H => Lib.hid (need_any c hc s1 W H [59])
  clear h hR hs1 k0 k1 k2 k3
  unfold pv
  go_enter Tryd.func76, Tryd.ntmps76
  go_wp2_with fail
  refine (CA0 _ (NowS.pin (NowS.to HS.out [q] Keeps.au (by simp <;> omega) (by simp [kq, mq] <;> omega)))).out.mono ?_
  rintro e v0 ⟨rfl, hP, hK⟩
  have hz_v0 := hK.size
  try simp only [World.size_alloc, World.size_setCell, World.size_drew, World.heap_drewN] at hz_v0
  have O_v0_0 : OwnB v0 (q) #[.int .i64 0, .slice none 0 0, .slice none 0 0, .int .i64 0, .int .i64 0, .int .i64 0, .string ⟨#[]⟩, .int .i64 0, .int .i64 p] 82 := OwnB.call OwnB.au hK (by simp only [List.mem_singleton]; omega)
  obtain ⟨y_v0_0, x_v0_0, b_v0_0⟩ := O_v0_0.facts
  have HS0 := Lib.hid (NowS.call (NowS.to HS.out [q] Keeps.au (by simp <;> omega) (by simp [kq, mq] <;> omega)) hP hK)
  clear hP hK
  go_wp2_with fail
  refine (CA1 _ (NowS.pin (NowS.to HS0.out [q] Keeps.au (by simp <;> omega) (by simp [kq, mq] <;> omega)))).out.mono ?_
  rintro e v1 ⟨rfl, hP, hK⟩
  have hz_v1 := hK.size
  try simp only [World.size_alloc, World.size_setCell, World.size_drew, World.heap_drewN] at hz_v1
  have O_v1_0 : OwnB v1 (q) #[.int .i64 0, .slice none 0 0, .slice none 0 0, .int .i64 0, .int .i64 0, .int .i64 0, .string ⟨#[]⟩, .int .i64 0, .int .i64 p] 82 := OwnB.call OwnB.au hK (by simp only [List.mem_singleton]; omega)
  obtain ⟨y_v1_0, x_v1_0, b_v1_0⟩ := O_v1_0.facts
  have HS1 := Lib.hid (NowS.call (NowS.to HS0.out [q] Keeps.au (by simp <;> omega) (by simp [kq, mq] <;> omega)) hP hK)
  clear hP hK
  go_wp2_with fail
  refine (CA2 _ (NowS.pin (NowS.to HS1.out [q] Keeps.au (by simp <;> omega) (by simp [kq, mq] <;> omega)))).out.mono ?_
  rintro e v2 ⟨rfl, hP, hK⟩
  have hz_v2 := hK.size
  try simp only [World.size_alloc, World.size_setCell, World.size_drew, World.heap_drewN] at hz_v2
  have O_v2_0 : OwnB v2 (q) #[.int .i64 0, .slice none 0 0, .slice none 0 0, .int .i64 0, .int .i64 0, .int .i64 0, .string ⟨#[]⟩, .int .i64 0, .int .i64 p] 82 := OwnB.call OwnB.au hK (by simp only [List.mem_singleton]; omega)
  obtain ⟨y_v2_0, x_v2_0, b_v2_0⟩ := O_v2_0.facts
  have HS2 := Lib.hid (NowS.call (NowS.to HS1.out [q] Keeps.au (by simp <;> omega) (by simp [kq, mq] <;> omega)) hP hK)
  clear hP hK
  go_wp2_with fail
  refine (CA3 _ (NowS.pin (NowS.to HS2.out [q] Keeps.au (by simp <;> omega) (by simp [kq, mq] <;> omega)))).out.mono ?_
  rintro e v3 ⟨rfl, hP, hK⟩
  have hz_v3 := hK.size
  try simp only [World.size_alloc, World.size_setCell, World.size_drew, World.heap_drewN] at hz_v3
  have O_v3_0 : OwnB v3 (q) #[.int .i64 0, .slice none 0 0, .slice none 0 0, .int .i64 0, .int .i64 0, .int .i64 0, .string ⟨#[]⟩, .int .i64 0, .int .i64 p] 82 := OwnB.call OwnB.au hK (by simp only [List.mem_singleton]; omega)
  obtain ⟨y_v3_0, x_v3_0, b_v3_0⟩ := O_v3_0.facts
  have HS3 := Lib.hid (NowS.call (NowS.to HS2.out [q] Keeps.au (by simp <;> omega) (by simp [kq, mq] <;> omega)) hP hK)
  clear hP hK
  go_wp2_with fail
  refine (CN _ (NowS.pin (NowS.to HS3.out [q] Keeps.au (by simp <;> omega) (by simp [kq, mq] <;> omega)))).out.mono ?_
  rintro e x1 ⟨rfl, hP, hK⟩
  have hz_x1 := hK.size
  try simp only [World.size_alloc, World.size_setCell, World.size_drew, World.heap_drewN] at hz_x1
  have O_x1_0 : OwnB x1 (q) #[.int .i64 12, .slice none 0 0, .slice none 0 0, .int .i64 0, .int .i64 0, .int .i64 0, .string ⟨#[]⟩, .int .i64 0, .int .i64 p] 82 := OwnB.call (by repeat (first | with_reducible apply OwnB.s9_0 | with_reducible apply OwnB.s9_1 | with_reducible apply OwnB.s9_2 | with_reducible apply OwnB.s9_3 | with_reducible apply OwnB.s9_4 | with_reducible apply OwnB.s9_5 | with_reducible apply OwnB.s9_6 | with_reducible apply OwnB.s9_7 | with_reducible apply OwnB.s9_8 | with_reducible assumption | (with_reducible refine OwnB.new ?_; (first | with_reducible rfl | (simp only [World.size_alloc, World.size_setCell, World.size_drew, World.heap_drewN]; done) | (simp only [World.size_alloc, World.size_setCell, World.size_drew, World.heap_drewN]; omega))) | with_reducible refine OwnB.alloc ?_ _ | with_reducible refine OwnB.drew ?_ | with_reducible refine OwnB.drewN ?_ _ | with_reducible refine OwnB.setCell ?_ _ _ ?_ | (dsimp only; omega) | omega)) hK (by simp only [List.mem_singleton]; omega)
  obtain ⟨y_x1_0, x_x1_0, b_x1_0⟩ := O_x1_0.facts
  have HSx := Lib.hid (NowS.call (NowS.to HS3.out [q] Keeps.au (by simp <;> omega) (by simp [kq, mq] <;> omega)) hP hK)
  clear hP hK
  go_wp2_with fail
  go_ret
  exact NowS.finP (R := (({ sm0 with op := 12, pos := p } : Sm), P.need c.l [59] s1)) HSx.out O_x1_0 (MIn.nil (Nat.le_refl _))

theorem short_case_ (c : Cx) (hc : c.Ok) (f : Nat) (d p : Int) (s : St) (R : Option (Sm × St)) (w : World) (q : Nat) (h0 : 0 ≤ d) (hd : d + (f + 1) ≤ 1000000000) (hq : OwnB w q #[.int .i64 0, .slice none 0 0, .slice none 0 0, .int .i64 0, .int .i64 0, .int .i64 0, .string ⟨#[]⟩, .int .i64 0, .int .i64 p] 82)
    (hn : q ≠ c.g ∧ q ≠ c.gt ∧ q ≠ c.mb ∧ q ≠ 2) (hR : P.short c.l (P.recs c.l f) d s { sm0 with pos := p } = some R) (h : PIn w c s) (k0 : P.is c.l [99, 97, 115, 101] s = true) : Calls Tryd.prog 76 #[pv c, .pointer (some ⟨q, 0, none⟩), .int .i64 d] w (DoesP c q { sm0 with pos := p } s R w) := by
  have hqlt := lt_of_blk hq.blk
  have hq1 : q ≠ c.g := hn.1
  have HN := Lib.hid (NowQ.start h)
  have HS := Lib.hid (NowS.start h hqlt hn)
  have hg := HS.out.g
  have hgt := HS.out.gt
  obtain ⟨yq, xq, zq⟩ := hq.facts
  have hw : wrap64 (d + 1) = d + 1 := wrapJ (by omega) (by omega)
  unfold P.short at hR
  obtain ⟨s1, hs1⟩ : ∃ s1, s1 = P.next c.l s := ⟨_, rfl⟩
  have CA0 := fun W H => Lib.hid (accept_any c hc s W H [99, 97, 115, 101])
  rw [k0, show P.acc c.l [99, 97, 115, 101] s = s1 by simp [P.acc, k0, hs1]] at CA0
  rw [k0, if_pos rfl, ← hs1] at hR
  obtain ⟨V, hV⟩ : ∃ V, V = P.value c.l s1 := ⟨_, rfl⟩
  have CV := fun W H => Lib.hid (value_any c hc s1 W H)
  rw [← hV] at CV hR
  obtain rfl := Option.some.inj hR
  have CN := fun W H => Lib.hid (need_any c hc V.2 W H [58])
  clear h hR hs1 hV k0
  unfold pv
  go_enter Tryd.func76, Tryd.ntmps76
  go_wp2_with fail
  refine (CA0 _ (NowS.pin (NowS.to HS.out [q] Keeps.au (by simp <;> omega) (by simp [kq, mq] <;> omega)))).out.mono ?_
  rintro e v0 ⟨rfl, hP, hK⟩
  have hz_v0 := hK.size
  try simp only [World.size_alloc, World.size_setCell, World.size_drew, World.heap_drewN] at hz_v0
  have O_v0_0 : OwnB v0 (q) #[.int .i64 0, .slice none 0 0, .slice none 0 0, .int .i64 0, .int .i64 0, .int .i64 0, .string ⟨#[]⟩, .int .i64 0, .int .i64 p] 82 := OwnB.call OwnB.au hK (by simp only [List.mem_singleton]; omega)
  obtain ⟨y_v0_0, x_v0_0, b_v0_0⟩ := O_v0_0.facts
  have HS0 := Lib.hid (NowS.call (NowS.to HS.out [q] Keeps.au (by simp <;> omega) (by simp [kq, mq] <;> omega)) hP hK)
  clear hP hK
  go_wp2_with fail
  refine (CV _ (NowS.pin (NowS.to HS0.out [q] Keeps.au (by simp <;> omega) (by simp [kq, mq] <;> omega)))).out.mono ?_
  rintro e x0 ⟨rfl, hP, hK⟩
  have hz_x0 := hK.size
  try simp only [World.size_alloc, World.size_setCell, World.size_drew, World.heap_drewN] at hz_x0
  have O_x0_0 : OwnB x0 (q) #[.int .i64 0, .slice none 0 0, .slice none 0 0, .int .i64 0, .int .i64 0, .int .i64 0, .string ⟨#[]⟩, .int .i64 0, .int .i64 p] 82 := OwnB.call OwnB.au hK (by simp only [List.mem_singleton]; omega)
  obtain ⟨y_x0_0, x_x0_0, b_x0_0⟩ := O_x0_0.facts
  have HSy := Lib.hid (NowS.call (NowS.to HS0.out [q] Keeps.au (by simp <;> omega) (by simp [kq, mq] <;> omega)) hP hK)
  clear hP hK
  go_wp2_with fail
  refine (CN _ (NowS.pin (NowS.to HSy.out [q] Keeps.au (by simp <;> omega) (by simp [kq, mq] <;> omega)))).out.mono ?_
  rintro e x1 ⟨rfl, hP, hK⟩
  have hz_x1 := hK.size
  try simp only [World.size_alloc, World.size_setCell, World.size_drew, World.heap_drewN] at hz_x1
  have O_x1_0 : OwnB x1 (q) #[.int .i64 9, .slice none 0 0, .slice none 0 0, .int .i64 0, .int .i64 0, .int .i64 0, .string ⟨#[]⟩, .int .i64 V.1, .int .i64 p] 82 := OwnB.call (by repeat (first | with_reducible apply OwnB.s9_0 | with_reducible apply OwnB.s9_1 | with_reducible apply OwnB.s9_2 | with_reducible apply OwnB.s9_3 | with_reducible apply OwnB.s9_4 | with_reducible apply OwnB.s9_5 | with_reducible apply OwnB.s9_6 | with_reducible apply OwnB.s9_7 | with_reducible apply OwnB.s9_8 | with_reducible assumption | (with_reducible refine OwnB.new ?_; (first | with_reducible rfl | (simp only [World.size_alloc, World.size_setCell, World.size_drew, World.heap_drewN]; done) | (simp only [World.size_alloc, World.size_setCell, World.size_drew, World.heap_drewN]; omega))) | with_reducible refine OwnB.alloc ?_ _ | with_reducible refine OwnB.drew ?_ | with_reducible refine OwnB.drewN ?_ _ | with_reducible refine OwnB.setCell ?_ _ _ ?_ | (dsimp only; omega) | omega)) hK (by simp only [List.mem_singleton]; omega)
  obtain ⟨y_x1_0, x_x1_0, b_x1_0⟩ := O_x1_0.facts
  have HSx := Lib.hid (NowS.call (NowS.to HSy.out [q] Keeps.au (by simp <;> omega) (by simp [kq, mq] <;> omega)) hP hK)
  clear hP hK
  go_wp2_with fail
  go_ret
  exact NowS.finP (R := (({ sm0 with op := 9, n := V.1, pos := p } : Sm), P.need c.l [58] V.2)) HSx.out O_x1_0 (MIn.nil (Nat.le_refl _))

theorem short_goto_ (c : Cx) (hc : c.Ok) (f : Nat) (d p : Int) (s : St) (R : Option (Sm × St)) (w : World) (q : Nat) (h0 : 0 ≤ d) (hd : d + (f + 1) ≤ 1000000000) (hq : OwnB w q #[.int .i64 0, .slice none 0 0, .slice none 0 0, .int .i64 0, .int .i64 0, .int .i64 0, .string ⟨#[]⟩, .int .i64 0, .int .i64 p] 82)
    (hn : q ≠ c.g ∧ q ≠ c.gt ∧ q ≠ c.mb ∧ q ≠ 2) (hR : P.short c.l (P.recs c.l f) d s { sm0 with pos := p } = some R) (h : PIn w c s) (k0 : P.is c.l [99, 97, 115, 101] s = false) (k1 : P.is c.l [100, 101, 102, 97, 117, 108, 116] s = false) (k2 : P.is c.l [98, 114, 101, 97, 107] s = false) (k3 : P.is c.l [99, 111, 110, 116, 105, 110, 117, 101] s = false) (k4 : P.is c.l [103, 111, 116, 111] s = true) : Calls Tryd.prog 76 #[pv c, .pointer (some ⟨q, 0, none⟩), .int .i64 d] w (DoesP c q { sm0 with pos := p } s R w) := by
  have hqlt := lt_of_blk hq.blk
  have hq1 : q ≠ c.g := hn.1
  have HN := Lib.hid (NowQ.start h)
  have HS := Lib.hid (NowS.start h hqlt hn)
  have hg := HS.out.g
  have hgt := HS.out.gt
  obtain ⟨yq, xq, zq⟩ := hq.facts
  have hw : wrap64 (d + 1) = d + 1 := wrapJ (by omega) (by omega)
  unfold P.short at hR
  have CA0 := fun W H => Lib.hid (accept_any c hc s W H [99, 97, 115, 101])
  rw [k0, show P.acc c.l [99, 97, 115, 101] s = s by simp [P.acc, k0]] at CA0
  rw [k0, if_neg (by simp)] at hR
  have CA1 := fun W H => Lib.hid (accept_any c hc s W H [100, 101, 102, 97, 117, 108, 116])
  rw [k1, show P.acc c.l [100, 101, 102, 97, 117, 108, 116] s = s by simp [P.acc, k1]] at CA1
  rw [k1, if_neg (by simp)] at hR
  have CA2 := fun W H => Lib.hid (accept_any c hc s W H [98, 114, 101, 97, 107])
  rw [k2, show P.acc c.l [98, 114, 101, 97, 107] s = s by simp [P.acc, k2]] at CA2
  rw [k2, if_neg (by simp)] at hR
  have CA3 := fun W H => Lib.hid (accept_any c hc s W H [99, 111, 110, 116, 105, 110, 117, 101])
  rw [k3, show P.acc c.l [99, 111, 110, 116, 105, 110, 117, 101] s = s by simp [P.acc, k3]] at CA3
  rw [k3, if_neg (by simp)] at hR
  obtain ⟨s1, hs1⟩ : ∃ s1, s1 = P.next c.l s := ⟨_, rfl⟩
  have CA4 := fun W H => Lib.hid (accept_any c hc s W H [103, 111, 116, 111])
  rw [k4, show P.acc c.l [103, 111, 116, 111] s = s1 by simp [P.acc, k4, hs1]] at CA4
  rw [k4, if_pos rfl, ← hs1] at hR
  obtain ⟨V, hV⟩ : ∃ V, V = P.kindT c.l 1 s1 := ⟨_, rfl⟩
  obtain ⟨s2, hs2⟩ : ∃ s2, s2 = P.kind c.l 1 s1 := ⟨_, rfl⟩
  have CV := fun W H => Lib.hid (name_any c hc s1 W H)
  rw [← hV, ← hs2] at CV hR
  obtain rfl := Option.some.inj hR
  have CN := fun W H => Lib.hid (need_any c hc s2 W H [59])
  clear h hR hs1 hV hs2 k0 k1 k2 k3 k4
  have tk0 := tok_field0
  have tk1 := tok_field1
  have tk2 := tok_field2
  have tk3 := tok_field3
  unfold pv
  go_enter Tryd.func76, Tryd.ntmps76
  go_wp2_with fail
  refine (CA0 _ (NowS.pin (NowS.to HS.out [q] Keeps.au (by simp <;> omega) (by simp [kq, mq] <;> omega)))).out.mono ?_
  rintro e v0 ⟨rfl, hP, hK⟩
  have hz_v0 := hK.size
  try simp only [World.size_alloc, World.size_setCell, World.size_drew, World.heap_drewN] at hz_v0
  have O_v0_0 : OwnB v0 (q) #[.int .i64 0, .slice none 0 0, .slice none 0 0, .int .i64 0, .int .i64 0, .int .i64 0, .string ⟨#[]⟩, .int .i64 0, .int .i64 p] 82 := OwnB.call OwnB.au hK (by simp only [List.mem_singleton]; omega)
  obtain ⟨y_v0_0, x_v0_0, b_v0_0⟩ := O_v0_0.facts
  have HS0 := Lib.hid (NowS.call (NowS.to HS.out [q] Keeps.au (by simp <;> omega) (by simp [kq, mq] <;> omega)) hP hK)
  clear hP hK
  go_wp2_with fail
  refine (CA1 _ (NowS.pin (NowS.to HS0.out [q] Keeps.au (by simp <;> omega) (by simp [kq, mq] <;> omega)))).out.mono ?_
  rintro e v1 ⟨rfl, hP, hK⟩
  have hz_v1 := hK.size
  try simp only [World.size_alloc, World.size_setCell, World.size_drew, World.heap_drewN] at hz_v1
  have O_v1_0 : OwnB v1 (q) #[.int .i64 0, .slice none 0 0, .slice none 0 0, .int .i64 0, .int .i64 0, .int .i64 0, .string ⟨#[]⟩, .int .i64 0, .int .i64 p] 82 := OwnB.call OwnB.au hK (by simp only [List.mem_singleton]; omega)
  obtain ⟨y_v1_0, x_v1_0, b_v1_0⟩ := O_v1_0.facts
  have HS1 := Lib.hid (NowS.call (NowS.to HS0.out [q] Keeps.au (by simp <;> omega) (by simp [kq, mq] <;> omega)) hP hK)
  clear hP hK
  go_wp2_with fail
  refine (CA2 _ (NowS.pin (NowS.to HS1.out [q] Keeps.au (by simp <;> omega) (by simp [kq, mq] <;> omega)))).out.mono ?_
  rintro e v2 ⟨rfl, hP, hK⟩
  have hz_v2 := hK.size
  try simp only [World.size_alloc, World.size_setCell, World.size_drew, World.heap_drewN] at hz_v2
  have O_v2_0 : OwnB v2 (q) #[.int .i64 0, .slice none 0 0, .slice none 0 0, .int .i64 0, .int .i64 0, .int .i64 0, .string ⟨#[]⟩, .int .i64 0, .int .i64 p] 82 := OwnB.call OwnB.au hK (by simp only [List.mem_singleton]; omega)
  obtain ⟨y_v2_0, x_v2_0, b_v2_0⟩ := O_v2_0.facts
  have HS2 := Lib.hid (NowS.call (NowS.to HS1.out [q] Keeps.au (by simp <;> omega) (by simp [kq, mq] <;> omega)) hP hK)
  clear hP hK
  go_wp2_with fail
  refine (CA3 _ (NowS.pin (NowS.to HS2.out [q] Keeps.au (by simp <;> omega) (by simp [kq, mq] <;> omega)))).out.mono ?_
  rintro e v3 ⟨rfl, hP, hK⟩
  have hz_v3 := hK.size
  try simp only [World.size_alloc, World.size_setCell, World.size_drew, World.heap_drewN] at hz_v3
  have O_v3_0 : OwnB v3 (q) #[.int .i64 0, .slice none 0 0, .slice none 0 0, .int .i64 0, .int .i64 0, .int .i64 0, .string ⟨#[]⟩, .int .i64 0, .int .i64 p] 82 := OwnB.call OwnB.au hK (by simp only [List.mem_singleton]; omega)
  obtain ⟨y_v3_0, x_v3_0, b_v3_0⟩ := O_v3_0.facts
  have HS3 := Lib.hid (NowS.call (NowS.to HS2.out [q] Keeps.au (by simp <;> omega) (by simp [kq, mq] <;> omega)) hP hK)
  clear hP hK
  go_wp2_with fail
  refine (CA4 _ (NowS.pin (NowS.to HS3.out [q] Keeps.au (by simp <;> omega) (by simp [kq, mq] <;> omega)))).out.mono ?_
  rintro e v4 ⟨rfl, hP, hK⟩
  have hz_v4 := hK.size
  try simp only [World.size_alloc, World.size_setCell, World.size_drew, World.heap_drewN] at hz_v4
  have O_v4_0 : OwnB v4 (q) #[.int .i64 0, .slice none 0 0, .slice none 0 0, .int .i64 0, .int .i64 0, .int .i64 0, .string ⟨#[]⟩, .int .i64 0, .int .i64 p] 82 := OwnB.call OwnB.au hK (by simp only [List.mem_singleton]; omega)
  obtain ⟨y_v4_0, x_v4_0, b_v4_0⟩ := O_v4_0.facts
  have HS4 := Lib.hid (NowS.call (NowS.to HS3.out [q] Keeps.au (by simp <;> omega) (by simp [kq, mq] <;> omega)) hP hK)
  clear hP hK
  go_wp2_with fail
  refine (CV _ (NowS.pin (NowS.to HS4.out [q] Keeps.au (by simp <;> omega) (by simp [kq, mq] <;> omega)))).out.mono ?_
  rintro e x0 ⟨rfl, hP, hK⟩
  have hz_x0 := hK.size
  try simp only [World.size_alloc, World.size_setCell, World.size_drew, World.heap_drewN] at hz_x0
  have O_x0_0 : OwnB x0 (q) #[.int .i64 0, .slice none 0 0, .slice none 0 0, .int .i64 0, .int .i64 0, .int .i64 0, .string ⟨#[]⟩, .int .i64 0, .int .i64 p] 82 := OwnB.call OwnB.au hK (by simp only [List.mem_singleton]; omega)
  obtain ⟨y_x0_0, x_x0_0, b_x0_0⟩ := O_x0_0.facts
  have HSy := Lib.hid (NowS.call (NowS.to HS4.out [q] Keeps.au (by simp <;> omega) (by simp [kq, mq] <;> omega)) hP hK)
  clear hP hK
  go_wp2_with fail
  refine (CN _ (NowS.pin (NowS.to HSy.out [q] Keeps.au (by simp <;> omega) (by simp [kq, mq] <;> omega)))).out.mono ?_
  rintro e x1 ⟨rfl, hP, hK⟩
  have hz_x1 := hK.size
  try simp only [World.size_alloc, World.size_setCell, World.size_drew, World.heap_drewN] at hz_x1
  have O_x1_0 : OwnB x1 (q) #[.int .i64 14, .slice none 0 0, .slice none 0 0, .int .i64 0, .int .i64 0, .int .i64 0, .string ⟨V.text.toArray⟩, .int .i64 0, .int .i64 p] 82 := OwnB.call (by repeat (first | with_reducible apply OwnB.s9_0 | with_reducible apply OwnB.s9_1 | with_reducible apply OwnB.s9_2 | with_reducible apply OwnB.s9_3 | with_reducible apply OwnB.s9_4 | with_reducible apply OwnB.s9_5 | with_reducible apply OwnB.s9_6 | with_reducible apply OwnB.s9_7 | with_reducible apply OwnB.s9_8 | with_reducible assumption | (with_reducible refine OwnB.new ?_; (first | with_reducible rfl | (simp only [World.size_alloc, World.size_setCell, World.size_drew, World.heap_drewN]; done) | (simp only [World.size_alloc, World.size_setCell, World.size_drew, World.heap_drewN]; omega))) | with_reducible refine OwnB.alloc ?_ _ | with_reducible refine OwnB.drew ?_ | with_reducible refine OwnB.drewN ?_ _ | with_reducible refine OwnB.setCell ?_ _ _ ?_ | (dsimp only; omega) | omega)) hK (by simp only [List.mem_singleton]; omega)
  obtain ⟨y_x1_0, x_x1_0, b_x1_0⟩ := O_x1_0.facts
  have HSx := Lib.hid (NowS.call (NowS.to HSy.out [q] Keeps.au (by simp <;> omega) (by simp [kq, mq] <;> omega)) hP hK)
  clear hP hK
  go_wp2_with fail
  go_ret
  exact NowS.finP (R := (({ sm0 with op := 14, nm := V.text, pos := p } : Sm), P.need c.l [59] s2)) HSx.out O_x1_0 (MIn.nil (Nat.le_refl _))

theorem short_ret_ (c : Cx) (hc : c.Ok) (f : Nat) (d p : Int) (s : St) (R : Option (Sm × St)) (w : World) (q : Nat) (h0 : 0 ≤ d) (hd : d + (f + 1) ≤ 1000000000) (hq : OwnB w q #[.int .i64 0, .slice none 0 0, .slice none 0 0, .int .i64 0, .int .i64 0, .int .i64 0, .string ⟨#[]⟩, .int .i64 0, .int .i64 p] 82)
    (hn : q ≠ c.g ∧ q ≠ c.gt ∧ q ≠ c.mb ∧ q ≠ 2) (hR : P.short c.l (P.recs c.l f) d s { sm0 with pos := p } = some R) (h : PIn w c s) (k0 : P.is c.l [99, 97, 115, 101] s = false) (k1 : P.is c.l [100, 101, 102, 97, 117, 108, 116] s = false) (k2 : P.is c.l [98, 114, 101, 97, 107] s = false) (k3 : P.is c.l [99, 111, 110, 116, 105, 110, 117, 101] s = false) (k4 : P.is c.l [103, 111, 116, 111] s = false) (k5 : P.is c.l [114, 101, 116, 117, 114, 110] s = true) : Calls Tryd.prog 76 #[pv c, .pointer (some ⟨q, 0, none⟩), .int .i64 d] w (DoesP c q { sm0 with pos := p } s R w) := by
  have hqlt := lt_of_blk hq.blk
  have hq1 : q ≠ c.g := hn.1
  have HN := Lib.hid (NowQ.start h)
  have HS := Lib.hid (NowS.start h hqlt hn)
  have hg := HS.out.g
  have hgt := HS.out.gt
  obtain ⟨yq, xq, zq⟩ := hq.facts
  have hw : wrap64 (d + 1) = d + 1 := wrapJ (by omega) (by omega)
  unfold P.short at hR
  have CA0 := fun W H => Lib.hid (accept_any c hc s W H [99, 97, 115, 101])
  rw [k0, show P.acc c.l [99, 97, 115, 101] s = s by simp [P.acc, k0]] at CA0
  rw [k0, if_neg (by simp)] at hR
  have CA1 := fun W H => Lib.hid (accept_any c hc s W H [100, 101, 102, 97, 117, 108, 116])
  rw [k1, show P.acc c.l [100, 101, 102, 97, 117, 108, 116] s = s by simp [P.acc, k1]] at CA1
  rw [k1, if_neg (by simp)] at hR
  have CA2 := fun W H => Lib.hid (accept_any c hc s W H [98, 114, 101, 97, 107])
  rw [k2, show P.acc c.l [98, 114, 101, 97, 107] s = s by simp [P.acc, k2]] at CA2
  rw [k2, if_neg (by simp)] at hR
  have CA3 := fun W H => Lib.hid (accept_any c hc s W H [99, 111, 110, 116, 105, 110, 117, 101])
  rw [k3, show P.acc c.l [99, 111, 110, 116, 105, 110, 117, 101] s = s by simp [P.acc, k3]] at CA3
  rw [k3, if_neg (by simp)] at hR
  have CA4 := fun W H => Lib.hid (accept_any c hc s W H [103, 111, 116, 111])
  rw [k4, show P.acc c.l [103, 111, 116, 111] s = s by simp [P.acc, k4]] at CA4
  rw [k4, if_neg (by simp)] at hR
  obtain ⟨s1, hs1⟩ : ∃ s1, s1 = P.next c.l s := ⟨_, rfl⟩
  have CA5 := fun W H => Lib.hid (accept_any c hc s W H [114, 101, 116, 117, 114, 110])
  rw [k5, show P.acc c.l [114, 101, 116, 117, 114, 110] s = s1 by simp [P.acc, k5, hs1]] at CA5
  rw [k5, if_pos rfl, ← hs1] at hR
  have CI := fun W H => Lib.hid (is_any c hc s1 W H [59])
  cases ki : P.is c.l [59] s1 with
  | true =>
    rw [ki, if_pos rfl] at hR
    rw [ki] at CI
    obtain rfl := Option.some.inj hR
    have CN := fun W H => Lib.hid (need_any c hc s1 W H [59])
    clear h hR hs1 ki k0 k1 k2 k3 k4 k5
    unfold pv
    go_enter Tryd.func76, Tryd.ntmps76
    go_wp2_with fail
    refine (CA0 _ (NowS.pin (NowS.to HS.out [q] Keeps.au (by simp <;> omega) (by simp [kq, mq] <;> omega)))).out.mono ?_
    rintro e v0 ⟨rfl, hP, hK⟩
    have hz_v0 := hK.size
    try simp only [World.size_alloc, World.size_setCell, World.size_drew, World.heap_drewN] at hz_v0
    have O_v0_0 : OwnB v0 (q) #[.int .i64 0, .slice none 0 0, .slice none 0 0, .int .i64 0, .int .i64 0, .int .i64 0, .string ⟨#[]⟩, .int .i64 0, .int .i64 p] 82 := OwnB.call OwnB.au hK (by simp only [List.mem_singleton]; omega)
    obtain ⟨y_v0_0, x_v0_0, b_v0_0⟩ := O_v0_0.facts
    have HS0 := Lib.hid (NowS.call (NowS.to HS.out [q] Keeps.au (by simp <;> omega) (by simp [kq, mq] <;> omega)) hP hK)
    clear hP hK
    go_wp2_with fail
    refine (CA1 _ (NowS.pin (NowS.to HS0.out [q] Keeps.au (by simp <;> omega) (by simp [kq, mq] <;> omega)))).out.mono ?_
    rintro e v1 ⟨rfl, hP, hK⟩
    have hz_v1 := hK.size
    try simp only [World.size_alloc, World.size_setCell, World.size_drew, World.heap_drewN] at hz_v1
    have O_v1_0 : OwnB v1 (q) #[.int .i64 0, .slice none 0 0, .slice none 0 0, .int .i64 0, .int .i64 0, .int .i64 0, .string ⟨#[]⟩, .int .i64 0, .int .i64 p] 82 := OwnB.call OwnB.au hK (by simp only [List.mem_singleton]; omega)
    obtain ⟨y_v1_0, x_v1_0, b_v1_0⟩ := O_v1_0.facts
    have HS1 := Lib.hid (NowS.call (NowS.to HS0.out [q] Keeps.au (by simp <;> omega) (by simp [kq, mq] <;> omega)) hP hK)
    clear hP hK
    go_wp2_with fail
    refine (CA2 _ (NowS.pin (NowS.to HS1.out [q] Keeps.au (by simp <;> omega) (by simp [kq, mq] <;> omega)))).out.mono ?_
    rintro e v2 ⟨rfl, hP, hK⟩
    have hz_v2 := hK.size
    try simp only [World.size_alloc, World.size_setCell, World.size_drew, World.heap_drewN] at hz_v2
    have O_v2_0 : OwnB v2 (q) #[.int .i64 0, .slice none 0 0, .slice none 0 0, .int .i64 0, .int .i64 0, .int .i64 0, .string ⟨#[]⟩, .int .i64 0, .int .i64 p] 82 := OwnB.call OwnB.au hK (by simp only [List.mem_singleton]; omega)
    obtain ⟨y_v2_0, x_v2_0, b_v2_0⟩ := O_v2_0.facts
    have HS2 := Lib.hid (NowS.call (NowS.to HS1.out [q] Keeps.au (by simp <;> omega) (by simp [kq, mq] <;> omega)) hP hK)
    clear hP hK
    go_wp2_with fail
    refine (CA3 _ (NowS.pin (NowS.to HS2.out [q] Keeps.au (by simp <;> omega) (by simp [kq, mq] <;> omega)))).out.mono ?_
    rintro e v3 ⟨rfl, hP, hK⟩
    have hz_v3 := hK.size
    try simp only [World.size_alloc, World.size_setCell, World.size_drew, World.heap_drewN] at hz_v3
    have O_v3_0 : OwnB v3 (q) #[.int .i64 0, .slice none 0 0, .slice none 0 0, .int .i64 0, .int .i64 0, .int .i64 0, .string ⟨#[]⟩, .int .i64 0, .int .i64 p] 82 := OwnB.call OwnB.au hK (by simp only [List.mem_singleton]; omega)
    obtain ⟨y_v3_0, x_v3_0, b_v3_0⟩ := O_v3_0.facts
    have HS3 := Lib.hid (NowS.call (NowS.to HS2.out [q] Keeps.au (by simp <;> omega) (by simp [kq, mq] <;> omega)) hP hK)
    clear hP hK
    go_wp2_with fail
    refine (CA4 _ (NowS.pin (NowS.to HS3.out [q] Keeps.au (by simp <;> omega) (by simp [kq, mq] <;> omega)))).out.mono ?_
    rintro e v4 ⟨rfl, hP, hK⟩
    have hz_v4 := hK.size
    try simp only [World.size_alloc, World.size_setCell, World.size_drew, World.heap_drewN] at hz_v4
    have O_v4_0 : OwnB v4 (q) #[.int .i64 0, .slice none 0 0, .slice none 0 0, .int .i64 0, .int .i64 0, .int .i64 0, .string ⟨#[]⟩, .int .i64 0, .int .i64 p] 82 := OwnB.call OwnB.au hK (by simp only [List.mem_singleton]; omega)
    obtain ⟨y_v4_0, x_v4_0, b_v4_0⟩ := O_v4_0.facts
    have HS4 := Lib.hid (NowS.call (NowS.to HS3.out [q] Keeps.au (by simp <;> omega) (by simp [kq, mq] <;> omega)) hP hK)
    clear hP hK
    go_wp2_with fail
    refine (CA5 _ (NowS.pin (NowS.to HS4.out [q] Keeps.au (by simp <;> omega) (by simp [kq, mq] <;> omega)))).out.mono ?_
    rintro e v5 ⟨rfl, hP, hK⟩
    have hz_v5 := hK.size
    try simp only [World.size_alloc, World.size_setCell, World.size_drew, World.heap_drewN] at hz_v5
    have O_v5_0 : OwnB v5 (q) #[.int .i64 0, .slice none 0 0, .slice none 0 0, .int .i64 0, .int .i64 0, .int .i64 0, .string ⟨#[]⟩, .int .i64 0, .int .i64 p] 82 := OwnB.call OwnB.au hK (by simp only [List.mem_singleton]; omega)
    obtain ⟨y_v5_0, x_v5_0, b_v5_0⟩ := O_v5_0.facts
    have HS5 := Lib.hid (NowS.call (NowS.to HS4.out [q] Keeps.au (by simp <;> omega) (by simp [kq, mq] <;> omega)) hP hK)
    clear hP hK
    go_wp2_with fail
    refine (CI _ (NowS.pin (NowS.to HS5.out [q] Keeps.au (by simp <;> omega) (by simp [kq, mq] <;> omega)))).out.mono ?_
    rintro e x0 ⟨rfl, hP, hK⟩
    have hz_x0 := hK.size
    try simp only [World.size_alloc, World.size_setCell, World.size_drew, World.heap_drewN] at hz_x0
    have O_x0_0 : OwnB x0 (q) #[.int .i64 13, .slice none 0 0, .slice none 0 0, .int .i64 0, .int .i64 0, .int .i64 0, .string ⟨#[]⟩, .int .i64 0, .int .i64 p] 82 := OwnB.call (by repeat (first | with_reducible apply OwnB.s9_0 | with_reducible apply OwnB.s9_1 | with_reducible apply OwnB.s9_2 | with_reducible apply OwnB.s9_3 | with_reducible apply OwnB.s9_4 | with_reducible apply OwnB.s9_5 | with_reducible apply OwnB.s9_6 | with_reducible apply OwnB.s9_7 | with_reducible apply OwnB.s9_8 | with_reducible assumption | (with_reducible refine OwnB.new ?_; (first | with_reducible rfl | (simp only [World.size_alloc, World.size_setCell, World.size_drew, World.heap_drewN]; done) | (simp only [World.size_alloc, World.size_setCell, World.size_drew, World.heap_drewN]; omega))) | with_reducible refine OwnB.alloc ?_ _ | with_reducible refine OwnB.drew ?_ | with_reducible refine OwnB.drewN ?_ _ | with_reducible refine OwnB.setCell ?_ _ _ ?_ | (dsimp only; omega) | omega)) hK (by simp only [List.mem_singleton]; omega)
    obtain ⟨y_x0_0, x_x0_0, b_x0_0⟩ := O_x0_0.facts
    have HSy := Lib.hid (NowS.call (NowS.to HS5.out [q] Keeps.au (by simp <;> omega) (by simp [kq, mq] <;> omega)) hP hK)
    clear hP hK
    go_wp2_with fail
    refine (CN _ (NowS.pin (NowS.to HSy.out [q] Keeps.au (by simp <;> omega) (by simp [kq, mq] <;> omega)))).out.mono ?_
    rintro e x1 ⟨rfl, hP, hK⟩
    have hz_x1 := hK.size
    try simp only [World.size_alloc, World.size_setCell, World.size_drew, World.heap_drewN] at hz_x1
    have O_x1_0 : OwnB x1 (q) #[.int .i64 13, .slice none 0 0, .slice none 0 0, .int .i64 0, .int .i64 0, .int .i64 0, .string ⟨#[]⟩, .int .i64 0, .int .i64 p] 82 := OwnB.call OwnB.au hK (by simp only [List.mem_singleton]; omega)
    obtain ⟨y_x1_0, x_x1_0, b_x1_0⟩ := O_x1_0.facts
    have HSx := Lib.hid (NowS.call (NowS.to HSy.out [q] Keeps.au (by simp <;> omega) (by simp [kq, mq] <;> omega)) hP hK)
    clear hP hK
    go_wp2_with fail
    go_ret
    exact NowS.finP (R := (({ sm0 with op := 13, pos := p } : Sm), P.need c.l [59] s1)) HSx.out O_x1_0 (MIn.nil (Nat.le_refl _))
  | false =>
    rw [ki, if_neg (by simp)] at hR
    rw [ki] at CI
    obtain ⟨A, hA, hR⟩ := Option.bind_eq_some_iff.1 hR
    obtain rfl := Option.some.inj hR
    have CE := fun W H => Lib.hid ((goodE c hc f).expr (d + 1) s1 A W (by omega) (by omega) hA H)
    have CN := fun W H => Lib.hid (need_any c hc A.2 W H [59])
    clear h hR hs1 ki hA k0 k1 k2 k3 k4 k5
    unfold pv
    go_enter Tryd.func76, Tryd.ntmps76
    go_wp2_with fail
    refine (CA0 _ (NowS.pin (NowS.to HS.out [q] Keeps.au (by simp <;> omega) (by simp [kq, mq] <;> omega)))).out.mono ?_
    rintro e v0 ⟨rfl, hP, hK⟩
    have hz_v0 := hK.size
    try simp only [World.size_alloc, World.size_setCell, World.size_drew, World.heap_drewN] at hz_v0
    have O_v0_0 : OwnB v0 (q) #[.int .i64 0, .slice none 0 0, .slice none 0 0, .int .i64 0, .int .i64 0, .int .i64 0, .string ⟨#[]⟩, .int .i64 0, .int .i64 p] 82 := OwnB.call OwnB.au hK (by simp only [List.mem_singleton]; omega)
    obtain ⟨y_v0_0, x_v0_0, b_v0_0⟩ := O_v0_0.facts
    have HS0 := Lib.hid (NowS.call (NowS.to HS.out [q] Keeps.au (by simp <;> omega) (by simp [kq, mq] <;> omega)) hP hK)
    clear hP hK
    go_wp2_with fail
    refine (CA1 _ (NowS.pin (NowS.to HS0.out [q] Keeps.au (by simp <;> omega) (by simp [kq, mq] <;> omega)))).out.mono ?_
    rintro e v1 ⟨rfl, hP, hK⟩
    have hz_v1 := hK.size
    try simp only [World.size_alloc, World.size_setCell, World.size_drew, World.heap_drewN] at hz_v1
    have O_v1_0 : OwnB v1 (q) #[.int .i64 0, .slice none 0 0, .slice none 0 0, .int .i64 0, .int .i64 0, .int .i64 0, .string ⟨#[]⟩, .int .i64 0, .int .i64 p] 82 := OwnB.call OwnB.au hK (by simp only [List.mem_singleton]; omega)
    obtain ⟨y_v1_0, x_v1_0, b_v1_0⟩ := O_v1_0.facts
    have HS1 := Lib.hid (NowS.call (NowS.to HS0.out [q] Keeps.au (by simp <;> omega) (by simp [kq, mq] <;> omega)) hP hK)
    clear hP hK
    go_wp2_with fail
    refine (CA2 _ (NowS.pin (NowS.to HS1.out [q] Keeps.au (by simp <;> omega) (by simp [kq, mq] <;> omega)))).out.mono ?_
    rintro e v2 ⟨rfl, hP, hK⟩
    have hz_v2 := hK.size
    try simp only [World.size_alloc, World.size_setCell, World.size_drew, World.heap_drewN] at hz_v2
    have O_v2_0 : OwnB v2 (q) #[.int .i64 0, .slice none 0 0, .slice none 0 0, .int .i64 0, .int .i64 0, .int .i64 0, .string ⟨#[]⟩, .int .i64 0, .int .i64 p] 82 := OwnB.call OwnB.au hK (by simp only [List.mem_singleton]; omega)
    obtain ⟨y_v2_0, x_v2_0, b_v2_0⟩ := O_v2_0.facts
    have HS2 := Lib.hid (NowS.call (NowS.to HS1.out [q] Keeps.au (by simp <;> omega) (by simp [kq, mq] <;> omega)) hP hK)
    clear hP hK
    go_wp2_with fail
    refine (CA3 _ (NowS.pin (NowS.to HS2.out [q] Keeps.au (by simp <;> omega) (by simp [kq, mq] <;> omega)))).out.mono ?_
    rintro e v3 ⟨rfl, hP, hK⟩
    have hz_v3 := hK.size
    try simp only [World.size_alloc, World.size_setCell, World.size_drew, World.heap_drewN] at hz_v3
    have O_v3_0 : OwnB v3 (q) #[.int .i64 0, .slice none 0 0, .slice none 0 0, .int .i64 0, .int .i64 0, .int .i64 0, .string ⟨#[]⟩, .int .i64 0, .int .i64 p] 82 := OwnB.call OwnB.au hK (by simp only [List.mem_singleton]; omega)
    obtain ⟨y_v3_0, x_v3_0, b_v3_0⟩ := O_v3_0.facts
    have HS3 := Lib.hid (NowS.call (NowS.to HS2.out [q] Keeps.au (by simp <;> omega) (by simp [kq, mq] <;> omega)) hP hK)
    clear hP hK
    go_wp2_with fail
    refine (CA4 _ (NowS.pin (NowS.to HS3.out [q] Keeps.au (by simp <;> omega) (by simp [kq, mq] <;> omega)))).out.mono ?_
    rintro e v4 ⟨rfl, hP, hK⟩
    have hz_v4 := hK.size
    try simp only [World.size_alloc, World.size_setCell, World.size_drew, World.heap_drewN] at hz_v4
    have O_v4_0 : OwnB v4 (q) #[.int .i64 0, .slice none 0 0, .slice none 0 0, .int .i64 0, .int .i64 0, .int .i64 0, .string ⟨#[]⟩, .int .i64 0, .int .i64 p] 82 := OwnB.call OwnB.au hK (by simp only [List.mem_singleton]; omega)
    obtain ⟨y_v4_0, x_v4_0, b_v4_0⟩ := O_v4_0.facts
    have HS4 := Lib.hid (NowS.call (NowS.to HS3.out [q] Keeps.au (by simp <;> omega) (by simp [kq, mq] <;> omega)) hP hK)
    clear hP hK
    go_wp2_with fail
    refine (CA5 _ (NowS.pin (NowS.to HS4.out [q] Keeps.au (by simp <;> omega) (by simp [kq, mq] <;> omega)))).out.mono ?_
    rintro e v5 ⟨rfl, hP, hK⟩
    have hz_v5 := hK.size
    try simp only [World.size_alloc, World.size_setCell, World.size_drew, World.heap_drewN] at hz_v5
    have O_v5_0 : OwnB v5 (q) #[.int .i64 0, .slice none 0 0, .slice none 0 0, .int .i64 0, .int .i64 0, .int .i64 0, .string ⟨#[]⟩, .int .i64 0, .int .i64 p] 82 := OwnB.call OwnB.au hK (by simp only [List.mem_singleton]; omega)
    obtain ⟨y_v5_0, x_v5_0, b_v5_0⟩ := O_v5_0.facts
    have HS5 := Lib.hid (NowS.call (NowS.to HS4.out [q] Keeps.au (by simp <;> omega) (by simp [kq, mq] <;> omega)) hP hK)
    clear hP hK
    go_wp2_with fail
    refine (CI _ (NowS.pin (NowS.to HS5.out [q] Keeps.au (by simp <;> omega) (by simp [kq, mq] <;> omega)))).out.mono ?_
    rintro e x0 ⟨rfl, hP, hK⟩
    have hz_x0 := hK.size
    try simp only [World.size_alloc, World.size_setCell, World.size_drew, World.heap_drewN] at hz_x0
    have O_x0_0 : OwnB x0 (q) #[.int .i64 13, .slice none 0 0, .slice none 0 0, .int .i64 0, .int .i64 0, .int .i64 0, .string ⟨#[]⟩, .int .i64 0, .int .i64 p] 82 := OwnB.call (by repeat (first | with_reducible apply OwnB.s9_0 | with_reducible apply OwnB.s9_1 | with_reducible apply OwnB.s9_2 | with_reducible apply OwnB.s9_3 | with_reducible apply OwnB.s9_4 | with_reducible apply OwnB.s9_5 | with_reducible apply OwnB.s9_6 | with_reducible apply OwnB.s9_7 | with_reducible apply OwnB.s9_8 | with_reducible assumption | (with_reducible refine OwnB.new ?_; (first | with_reducible rfl | (simp only [World.size_alloc, World.size_setCell, World.size_drew, World.heap_drewN]; done) | (simp only [World.size_alloc, World.size_setCell, World.size_drew, World.heap_drewN]; omega))) | with_reducible refine OwnB.alloc ?_ _ | with_reducible refine OwnB.drew ?_ | with_reducible refine OwnB.drewN ?_ _ | with_reducible refine OwnB.setCell ?_ _ _ ?_ | (dsimp only; omega) | omega)) hK (by simp only [List.mem_singleton]; omega)
    obtain ⟨y_x0_0, x_x0_0, b_x0_0⟩ := O_x0_0.facts
    have HSy := Lib.hid (NowS.call (NowS.to HS5.out [q] Keeps.au (by simp <;> omega) (by simp [kq, mq] <;> omega)) hP hK)
    clear hP hK
    go_wp2_with fail
    refine (CE _ (NowS.pin (NowS.to HSy.out [q] Keeps.au (by simp <;> omega) (by simp [kq, mq] <;> omega)))).out.mono ?_
    rintro e x2 ⟨a1, n1, p1, rfl, hP, hK, hT⟩
    have hz_x2 := hK.size
    try simp only [World.size_alloc, World.size_setCell, World.size_drew, World.heap_drewN] at hz_x2
    have O_x2_0 : OwnB x2 (q) #[.int .i64 13, .slice none 0 0, .slice none 0 0, .int .i64 0, .int .i64 0, .int .i64 0, .string ⟨#[]⟩, .int .i64 0, .int .i64 p] 82 := OwnB.call OwnB.au hK (by simp only [List.mem_singleton]; omega)
    obtain ⟨y_x2_0, x_x2_0, b_x2_0⟩ := O_x2_0.facts
    have HSz := Lib.hid (NowS.callE (NowS.to HSy.out [q] Keeps.au (by simp <;> omega) (by simp [kq, mq] <;> omega)) hP hK hT)
    clear hP hK hT
    go_wp2_with fail
    refine (CN _ (NowS.pin (NowS.to HSz.out [q] Keeps.au (by simp <;> omega) (by simp [kq, mq] <;> omega)))).out.mono ?_
    rintro e x1 ⟨rfl, hP, hK⟩
    have hz_x1 := hK.size
    try simp only [World.size_alloc, World.size_setCell, World.size_drew, World.heap_drewN] at hz_x1
    have O_x1_0 : OwnB x1 (q) #[.int .i64 13, .slice (some ⟨x2.heap.size, 0, none⟩) 1 1, .slice none 0 0, .int .i64 0, .int .i64 0, .int .i64 0, .string ⟨#[]⟩, .int .i64 0, .int .i64 p] 82 := OwnB.call (by repeat (first | with_reducible apply OwnB.s9_0 | with_reducible apply OwnB.s9_1 | with_reducible apply OwnB.s9_2 | with_reducible apply OwnB.s9_3 | with_reducible apply OwnB.s9_4 | with_reducible apply OwnB.s9_5 | with_reducible apply OwnB.s9_6 | with_reducible apply OwnB.s9_7 | with_reducible apply OwnB.s9_8 | with_reducible assumption | (with_reducible refine OwnB.new ?_; (first | with_reducible rfl | (simp only [World.size_alloc, World.size_setCell, World.size_drew, World.heap_drewN]; done) | (simp only [World.size_alloc, World.size_setCell, World.size_drew, World.heap_drewN]; omega))) | with_reducible refine OwnB.alloc ?_ _ | with_reducible refine OwnB.drew ?_ | with_reducible refine OwnB.drewN ?_ _ | with_reducible refine OwnB.setCell ?_ _ _ ?_ | (dsimp only; omega) | omega)) hK (by simp only [List.mem_singleton]; omega)
    obtain ⟨y_x1_0, x_x1_0, b_x1_0⟩ := O_x1_0.facts
    have O_x1_1 : OwnB x1 (x2.heap.size) #[.int .i64 (A.1).op, .int .i64 (A.1).ty.kind, .int .i64 (A.1).ty.ptr, .int .i64 (A.1).ty.len, .string ⟨(A.1).nm.toArray⟩, .int .i64 (A.1).n, .slice a1 n1 p1, .int .i64 (A.1).pos] 105 := OwnB.call OwnB.au hK (by simp only [List.mem_singleton]; omega)
    obtain ⟨y_x1_1, x_x1_1, b_x1_1⟩ := O_x1_1.facts
    have HSx := Lib.hid (NowS.call (NowS.to HSz.out [q] Keeps.au (by simp <;> omega) (by simp [kq, mq] <;> omega)) hP hK)
    clear hP hK
    go_wp2_with fail
    go_ret
    exact NowS.finP (R := (({ sm0 with op := 13, ex := one A.1, pos := p } : Sm), P.need c.l [59] A.2)) HSx.out O_x1_0 (MIn.of_ex (KidsIn.wide (KidsIn.one_ HSx.out.q0.2.2 (by first | exact Nat.le_refl _ | (try simp only [kq]); omega) (by omega) O_x1_1 [] (by simp)) HSx.out.q0.1 (lt_of_blk O_x1_1.blk) (Nat.le_refl _)))

theorem short_none_ (c : Cx) (hc : c.Ok) (f : Nat) (d p : Int) (s : St) (R : Option (Sm × St)) (w : World) (q : Nat) (h0 : 0 ≤ d) (hd : d + (f + 1) ≤ 1000000000) (hq : OwnB w q #[.int .i64 0, .slice none 0 0, .slice none 0 0, .int .i64 0, .int .i64 0, .int .i64 0, .string ⟨#[]⟩, .int .i64 0, .int .i64 p] 82)
    (hn : q ≠ c.g ∧ q ≠ c.gt ∧ q ≠ c.mb ∧ q ≠ 2) (hR : P.short c.l (P.recs c.l f) d s { sm0 with pos := p } = some R) (h : PIn w c s) (k0 : P.is c.l [99, 97, 115, 101] s = false) (k1 : P.is c.l [100, 101, 102, 97, 117, 108, 116] s = false) (k2 : P.is c.l [98, 114, 101, 97, 107] s = false) (k3 : P.is c.l [99, 111, 110, 116, 105, 110, 117, 101] s = false) (k4 : P.is c.l [103, 111, 116, 111] s = false) (k5 : P.is c.l [114, 101, 116, 117, 114, 110] s = false) : Calls Tryd.prog 76 #[pv c, .pointer (some ⟨q, 0, none⟩), .int .i64 d] w (DoesP c q { sm0 with pos := p } s R w) := by
  have hqlt := lt_of_blk hq.blk
  have hq1 : q ≠ c.g := hn.1
  have HN := Lib.hid (NowQ.start h)
  have HS := Lib.hid (NowS.start h hqlt hn)
  have hg := HS.out.g
  have hgt := HS.out.gt
  obtain ⟨yq, xq, zq⟩ := hq.facts
  have hw : wrap64 (d + 1) = d + 1 := wrapJ (by omega) (by omega)
  unfold P.short at hR
  have CA0 := fun W H => Lib.hid (accept_any c hc s W H [99, 97, 115, 101])
  rw [k0, show P.acc c.l [99, 97, 115, 101] s = s by simp [P.acc, k0]] at CA0
  rw [k0, if_neg (by simp)] at hR
  have CA1 := fun W H => Lib.hid (accept_any c hc s W H [100, 101, 102, 97, 117, 108, 116])
  rw [k1, show P.acc c.l [100, 101, 102, 97, 117, 108, 116] s = s by simp [P.acc, k1]] at CA1
  rw [k1, if_neg (by simp)] at hR
  have CA2 := fun W H => Lib.hid (accept_any c hc s W H [98, 114, 101, 97, 107])
  rw [k2, show P.acc c.l [98, 114, 101, 97, 107] s = s by simp [P.acc, k2]] at CA2
  rw [k2, if_neg (by simp)] at hR
  have CA3 := fun W H => Lib.hid (accept_any c hc s W H [99, 111, 110, 116, 105, 110, 117, 101])
  rw [k3, show P.acc c.l [99, 111, 110, 116, 105, 110, 117, 101] s = s by simp [P.acc, k3]] at CA3
  rw [k3, if_neg (by simp)] at hR
  have CA4 := fun W H => Lib.hid (accept_any c hc s W H [103, 111, 116, 111])
  rw [k4, show P.acc c.l [103, 111, 116, 111] s = s by simp [P.acc, k4]] at CA4
  rw [k4, if_neg (by simp)] at hR
  have CA5 := fun W H => Lib.hid (accept_any c hc s W H [114, 101, 116, 117, 114, 110])
  rw [k5, show P.acc c.l [114, 101, 116, 117, 114, 110] s = s by simp [P.acc, k5]] at CA5
  rw [k5, if_neg (by simp)] at hR
  obtain rfl := Option.some.inj hR
  clear h hR k0 k1 k2 k3 k4 k5
  unfold pv
  go_enter Tryd.func76, Tryd.ntmps76
  go_wp2_with fail
  refine (CA0 _ (NowQ.pin (NowQ.to HN.out [] Keeps.au (fun b hb => absurd hb List.not_mem_nil) (fun q _ b hb => absurd hb List.not_mem_nil)))).out.mono ?_
  rintro e v0 ⟨rfl, hP, hK⟩
  have hz_v0 := hK.size
  try simp only [World.size_alloc, World.size_setCell, World.size_drew, World.heap_drewN] at hz_v0
  have HN0 := Lib.hid (NowQ.call (NowQ.to HN.out [] Keeps.au (fun b hb => absurd hb List.not_mem_nil) (fun q _ b hb => absurd hb List.not_mem_nil)) hP hK)
  clear hP hK
  go_wp2_with fail
  refine (CA1 _ (NowQ.pin (NowQ.to HN0.out [] Keeps.au (fun b hb => absurd hb List.not_mem_nil) (fun q _ b hb => absurd hb List.not_mem_nil)))).out.mono ?_
  rintro e v1 ⟨rfl, hP, hK⟩
  have hz_v1 := hK.size
  try simp only [World.size_alloc, World.size_setCell, World.size_drew, World.heap_drewN] at hz_v1
  have HN1 := Lib.hid (NowQ.call (NowQ.to HN0.out [] Keeps.au (fun b hb => absurd hb List.not_mem_nil) (fun q _ b hb => absurd hb List.not_mem_nil)) hP hK)
  clear hP hK
  go_wp2_with fail
  refine (CA2 _ (NowQ.pin (NowQ.to HN1.out [] Keeps.au (fun b hb => absurd hb List.not_mem_nil) (fun q _ b hb => absurd hb List.not_mem_nil)))).out.mono ?_
  rintro e v2 ⟨rfl, hP, hK⟩
  have hz_v2 := hK.size
  try simp only [World.size_alloc, World.size_setCell, World.size_drew, World.heap_drewN] at hz_v2
  have HN2 := Lib.hid (NowQ.call (NowQ.to HN1.out [] Keeps.au (fun b hb => absurd hb List.not_mem_nil) (fun q _ b hb => absurd hb List.not_mem_nil)) hP hK)
  clear hP hK
  go_wp2_with fail
  refine (CA3 _ (NowQ.pin (NowQ.to HN2.out [] Keeps.au (fun b hb => absurd hb List.not_mem_nil) (fun q _ b hb => absurd hb List.not_mem_nil)))).out.mono ?_
  rintro e v3 ⟨rfl, hP, hK⟩
  have hz_v3 := hK.size
  try simp only [World.size_alloc, World.size_setCell, World.size_drew, World.heap_drewN] at hz_v3
  have HN3 := Lib.hid (NowQ.call (NowQ.to HN2.out [] Keeps.au (fun b hb => absurd hb List.not_mem_nil) (fun q _ b hb => absurd hb List.not_mem_nil)) hP hK)
  clear hP hK
  go_wp2_with fail
  refine (CA4 _ (NowQ.pin (NowQ.to HN3.out [] Keeps.au (fun b hb => absurd hb List.not_mem_nil) (fun q _ b hb => absurd hb List.not_mem_nil)))).out.mono ?_
  rintro e v4 ⟨rfl, hP, hK⟩
  have hz_v4 := hK.size
  try simp only [World.size_alloc, World.size_setCell, World.size_drew, World.heap_drewN] at hz_v4
  have HN4 := Lib.hid (NowQ.call (NowQ.to HN3.out [] Keeps.au (fun b hb => absurd hb List.not_mem_nil) (fun q _ b hb => absurd hb List.not_mem_nil)) hP hK)
  clear hP hK
  go_wp2_with fail
  refine (CA5 _ (NowQ.pin (NowQ.to HN4.out [] Keeps.au (fun b hb => absurd hb List.not_mem_nil) (fun q _ b hb => absurd hb List.not_mem_nil)))).out.mono ?_
  rintro e v5 ⟨rfl, hP, hK⟩
  have hz_v5 := hK.size
  try simp only [World.size_alloc, World.size_setCell, World.size_drew, World.heap_drewN] at hz_v5
  have HN5 := Lib.hid (NowQ.call (NowQ.to HN4.out [] Keeps.au (fun b hb => absurd hb List.not_mem_nil) (fun q _ b hb => absurd hb List.not_mem_nil)) hP hK)
  clear hP hK
  go_wp2_with fail
  go_ret
  exact ⟨rfl, HN5.out.now.pin, HN5.out.now.kp⟩

theorem short_step (c : Cx) (hc : c.Ok) (f : Nat) (d p : Int) (s : St) (R : Option (Sm × St)) (w : World) (q : Nat) (h0 : 0 ≤ d) (hd : d + (f + 1) ≤ 1000000000) (hq : OwnB w q #[.int .i64 0, .slice none 0 0, .slice none 0 0, .int .i64 0, .int .i64 0, .int .i64 0, .string ⟨#[]⟩, .int .i64 0, .int .i64 p] 82)
    (hn : q ≠ c.g ∧ q ≠ c.gt ∧ q ≠ c.mb ∧ q ≠ 2) (hR : P.short c.l (P.recs c.l f) d s { sm0 with pos := p } = some R) (h : PIn w c s) : Calls Tryd.prog 76 #[pv c, .pointer (some ⟨q, 0, none⟩), .int .i64 d] w (DoesP c q { sm0 with pos := p } s R w) := by
  cases k0 : P.is c.l [99, 97, 115, 101] s with
  | true => exact short_case_ c hc f d p s R w q h0 hd hq hn hR h k0
  | false =>
    cases k1 : P.is c.l [100, 101, 102, 97, 117, 108, 116] s with
    | true => exact short_default_ c hc f d p s R w q h0 hd hq hn hR h k0 k1
    | false =>
      cases k2 : P.is c.l [98, 114, 101, 97, 107] s with
      | true => exact short_break_ c hc f d p s R w q h0 hd hq hn hR h k0 k1 k2
      | false =>
        cases k3 : P.is c.l [99, 111, 110, 116, 105, 110, 117, 101] s with
        | true => exact short_continue_ c hc f d p s R w q h0 hd hq hn hR h k0 k1 k2 k3
        | false =>
          cases k4 : P.is c.l [103, 111, 116, 111] s with
          | true => exact short_goto_ c hc f d p s R w q h0 hd hq hn hR h k0 k1 k2 k3 k4
          | false =>
            cases k5 : P.is c.l [114, 101, 116, 117, 114, 110] s with
            | true => exact short_ret_ c hc f d p s R w q h0 hd hq hn hR h k0 k1 k2 k3 k4 k5
            | false =>
              exact short_none_ c hc f d p s R w q h0 hd hq hn hR h k0 k1 k2 k3 k4 k5

end Go.Proofs.YtjmemapkipkocaaDoor

/-
  Copies of statements.
-/
namespace Go.Proofs.YtjmemapkipkocaaDoor
open Go.RowKit Go.Maps
set_option linter.unusedVariables false
set_option linter.unusedSimpArgs false
set_option maxRecDepth 100000
set_option maxHeartbeats 1000000

theorem RIn.join2 {R1 R2 : World → List Nat → Prop} {w : World} {lo hi1 lo2 hi2 : Nat} (h1 : RIn R1 w lo hi1 []) (h2 : RIn R2 w lo2 hi2 []) (h12 : hi1 ≤ lo2) (hlo : lo ≤ lo2) (hh : hi1 ≤ hi2) : RIn (fun w F => ∃ F1 F2, R1 w F1 ∧ R2 w F2 ∧ F = F1 ++ F2) w lo hi2 [] := by
  obtain ⟨a1, F1, a2, a3, a4⟩ := h1
  obtain ⟨b1, F2, b2, b3, b4⟩ := h2
  refine ⟨b1, F1 ++ F2, ⟨F1, F2, a2, b2, rfl⟩, List.nodup_append.2 ⟨a3, b3, fun x hx y hy => ?_⟩, fun b hm => ?_⟩
  · have := a4 x hx; have := b4 y hy; omega
  · rcases List.mem_append.1 hm with hm | hm
    · have := a4 b hm; exact ⟨this.1, by omega, by simp⟩
    · have := b4 b hm; exact ⟨by omega, this.2.1, by simp⟩
def Sts.ofL : List Sm → Sts
  | [] => .nil
  | e :: r => .add e (ofL r)
theorem Sts.ofL_toL : ∀ x : Sts, ofL x.toL = x := by
  intro x
  induction x with
  | nil => rfl
  | cons _ _ _ _ _ _ _ _ _ ih => simp only [Sts.toL, ofL, ih]; rfl
theorem Sts.ofL_snoc (e : Sm) : ∀ l : List Sm, ofL (l ++ [e]) = (ofL l).snoc e := by
  intro l
  induction l with
  | nil => rfl
  | cons a r ih => simp only [List.cons_append, ofL, ih, Sts.add, Sts.snoc]
theorem Sts.ofL_len : ∀ l : List Sm, (ofL l).len = l.length := by
  intro l
  induction l with
  | nil => rfl
  | cons a r ih => simp only [ofL, Sts.add, Sts.len, ih, List.length_cons]
theorem RowS.form {w : World} {x : Sts} {v : Value} {F : List Nat} (h : RowS w x v F) : ∃ a c, v = .slice a x.len c := by
  obtain ⟨ks, F0, h1, _, _⟩ := h
  rcases h1.2 with ⟨rfl, h⟩ | ⟨g, cap, cur, rfl, _⟩
  · exact ⟨none, 0, by rw [h]⟩
  · exact ⟨_, _, rfl⟩
/-- All nodes of statements. -/
theorem Sts.len_all : ∀ x : Sts, x.len ≤ x.all := by
  intro x
  induction x with
  | nil => exact Nat.le_refl _
  | cons _ _ _ _ _ _ _ _ _ ih => simp only [Sts.len, Sts.all]; omega
theorem Sts.all_mem : ∀ (x : Sts) (e : Sm), e ∈ x.toL → e.body.all < x.all ∧ e.ex.size < x.all := by
  intro x
  induction x with
  | nil => intro e h; cases h
  | cons op ex body ty nm n pos r _ ih =>
    intro e h
    rcases List.mem_cons.1 h with rfl | h
    · simp only [Sts.all]; omega
    · have := ih e h; simp only [Sts.all]; omega
def CpSs (n : Nat) : Prop := ∀ (x : Sts), x.all < n → x.all ≤ 1000000000 → ∀ (w : World) (v : Value) (F : List Nat), RowS w x v F → Calls Tryd.prog 61 #[v] w (Copied (fun w v F => RowS w x v F) w)
theorem copyStmt_step (n : Nat) (IH : CpSs n) (e : Sm) (he : e.body.all < n) (hsm : e.body.all ≤ 1000000000) (hse : e.ex.size ≤ 1000000000) (w : World) (v u : Value) (F G : List Nat) (hv : RowX w e.ex v F) (hu : RowS w e.body u G) :
    Calls Tryd.prog 72 #[.agg (stC e v u).toArray] w fun e1 w' => ∃ v' u', e1 = .returned (.agg (stC e v' u').toArray) ∧ (∃ a c, v' = .slice a e.ex.len c) ∧ (∃ a c, u' = .slice a e.body.len c) ∧ RIn (fun w F => ∃ F1 F2, RowX w e.ex v' F1 ∧ RowS w e.body u' F2 ∧ F = F1 ++ F2) w' w.heap.size w'.heap.size [] ∧ Below w.heap.size w w' := by
  obtain ⟨a, c, rfl⟩ := hv.form
  obtain ⟨b, d, rfl⟩ := hu.form
  have CE := fun W (H : Below w.heap.size w W) => Lib.hid (copyExprs_any e.ex hse W (.slice a e.ex.len c) F (hv.low H))
  have CS := fun W (H : Below w.heap.size w W) => Lib.hid (IH e.body he hsm W (.slice b e.body.len d) G (hu.low H))
  clear hv hu
  unfold stC
  go_enter Tryd.func72, Tryd.ntmps72
  go_wp2_with fail
  refine (CE _ ((((Below.refl _ _).alloc (Nat.le_refl _) _).alloc (by simp) _).alloc (by simp <;> omega) _)).out.mono ?_
  rintro e1 w1 ⟨v1, rfl, hN, hb⟩
  obtain ⟨a1, c1, rfl⟩ : ∃ a1 c1, v1 = .slice a1 e.ex.len c1 := by obtain ⟨_, _, hr, _⟩ := hN; exact hr.form
  have O0 : OwnB w1 w.heap.size _ 82 := ⟨(hb.block _ (by simp <;> omega)).trans (OwnB.alloc (OwnB.alloc (OwnB.new rfl) _) _).blk⟩
  have O1 : OwnB w1 (w.heap.size + 1) _ 82 := ⟨(hb.block _ (by simp <;> omega)).trans (OwnB.alloc (OwnB.new (by simp)) _).blk⟩
  have O2 : OwnB w1 (w.heap.size + 1 + 1) _ 82 := ⟨(hb.block _ (by simp <;> omega)).trans (OwnB.new (by simp)).blk⟩
  obtain ⟨y0, x0, z0⟩ := O0.facts
  obtain ⟨y1, x1, z1⟩ := O1.facts
  obtain ⟨y2, x2, z2⟩ := O2.facts
  have hz := hb.size
  simp only [World.size_alloc] at hz
  have HN := Lib.hid hN
  have HB := Lib.hid ((((Below.refl w.heap.size w).alloc (Nat.le_refl _) _).alloc (by simp) _).alloc (by simp <;> omega) _ |>.trans (hb.mono (by simp <;> omega)))
  clear hN hb
  go_wp2_with fail
  have kW : Keeps [w.heap.size + 1 + 1] w1 (w1.setCell ⟨w.heap.size + 1 + 1, 1, none⟩ (.slice a1 e.ex.len c1)) := Keeps.au
  have bW : Below w.heap.size w (w1.setCell ⟨w.heap.size + 1 + 1, 1, none⟩ (.slice a1 e.ex.len c1)) := ((Keeps.of_below (G := []) HB.out).then_ kW (by simp <;> omega)).below
  refine (CS _ bW).out.mono ?_
  rintro e2 w2 ⟨u1, rfl, hN2, hb2⟩
  obtain ⟨b1, d1, rfl⟩ : ∃ b1 d1, u1 = .slice b1 e.body.len d1 := by obtain ⟨_, _, hr, _⟩ := hN2; exact hr.form
  have P1 : OwnB w2 (w.heap.size + 1) _ 82 := ⟨(hb2.block _ (by rw [World.size_setCell]; omega)).trans (OwnB.setCell O1 _ _ (by dsimp only; omega)).blk⟩
  have P2 : OwnB w2 (w.heap.size + 1 + 1) _ 82 := ⟨(hb2.block _ (by rw [World.size_setCell]; omega)).trans (OwnB.s9_1 O2).blk⟩
  obtain ⟨yy1, xx1, zz1⟩ := P1.facts
  obtain ⟨yy2, xx2, zz2⟩ := P2.facts
  have hz2 := hb2.size
  rw [World.size_setCell] at hz2
  have hn1 : RIn (fun w F => RowX w e.ex (.slice a1 e.ex.len c1) F) w2 (w.heap.size + 1 + 1 + 1) w1.heap.size [] := by
    have h1 := HN.out.to (fun _ _ _ _ h h' => h.at_ h') (lo' := w.heap.size + 1 + 1 + 1) kW (by simp <;> omega) (by simp <;> omega)
    have h2 : RIn (fun w F => RowX w e.ex (.slice a1 e.ex.len c1) F) (w1.setCell ⟨w.heap.size + 1 + 1, 1, none⟩ (.slice a1 e.ex.len c1)) (w.heap.size + 1 + 1 + 1) w1.heap.size [] := by
      have h3 := h1
      unfold New at h3
      rw [World.size_setCell] at h3
      exact h3
    exact h2.of_heap (fun _ _ _ h h' => h.at_ h') hb2.size (fun b _ h5 _ => hb2.block b (by rw [World.size_setCell]; exact h5))
  have hn2 : RIn (fun w F => RowS w e.body (.slice b1 e.body.len d1) F) w2 w1.heap.size w2.heap.size [] := by
    have h3 := hN2
    unfold New at h3
    rw [World.size_setCell] at h3
    exact h3
  have HJ := Lib.hid (RIn.join2 hn1 hn2 (Nat.le_refl _) (by omega) hz2)
  have HB2 := Lib.hid (bW.trans (hb2.mono bW.size))
  clear hN2 hb2 hn1 hn2 kW bW
  go_wp2_with fail
  refine bodyPost_ret (v := .agg #[.int .i64 e.op, .slice a1 e.ex.len c1, .slice b1 e.body.len d1, .int .i64 e.ty.kind, .int .i64 e.ty.ptr, .int .i64 e.ty.len, .string ⟨e.nm.toArray⟩, .int .i64 e.n, .int .i64 e.pos]) (by simp [results, Tryd.results72, go_sem, *]) rfl ?_
  refine ⟨_, _, rfl, ⟨_, _, rfl⟩, ⟨_, _, rfl⟩, ?_, ?_⟩
  · have hR : ∀ w w' F, (∃ F1 F2, RowX w e.ex (.slice a1 e.ex.len c1) F1 ∧ RowS w e.body (.slice b1 e.body.len d1) F2 ∧ F = F1 ++ F2) → (∀ b ∈ F, w'.heap[b]? = w.heap[b]?) → ∃ F1 F2, RowX w' e.ex (.slice a1 e.ex.len c1) F1 ∧ RowS w' e.body (.slice b1 e.body.len d1) F2 ∧ F = F1 ++ F2 := by
      rintro w w' F ⟨F1, F2, h1, h2, rfl⟩ h3
      exact ⟨F1, F2, h1.at_ (fun b hm => h3 b (by simp [hm])), h2.at_ (fun b hm => h3 b (by simp [hm])), rfl⟩
    have hK : ∀ V, Keeps [w.heap.size + 1, w.heap.size + 1 + 1] w2 V → RIn (fun w F => ∃ F1 F2, RowX w e.ex (.slice a1 e.ex.len c1) F1 ∧ RowS w e.body (.slice b1 e.body.len d1) F2 ∧ F = F1 ++ F2) V w.heap.size V.heap.size [] := fun V k =>
      (RIn.of_heap hR HJ.out k.size (fun b h1 h2 _ => k.block b h2 (by simp only [List.mem_cons, List.not_mem_nil, or_false]; omega))).wide (by omega) k.size (Nat.le_refl _)
    exact hK _ Keeps.au
  · exact ((Keeps.of_below (G := []) HB2.out).then_ (H := [w.heap.size + 1, w.heap.size + 1 + 1]) Keeps.au (by simp <;> omega)).below
theorem copyStmts_step (n : Nat) (IH : CpSs n) (x : Sts) (hx : x.all < n + 1) (hsm : x.all ≤ 1000000000) (w : World) (v : Value) (F : List Nat) (hv : RowS w x v F) : Calls Tryd.prog 61 #[v] w (Copied (fun w v F => RowS w x v F) w) := by
  obtain ⟨a, c, rfl⟩ := hv.form
  have hl1 : x.len ≤ maxLen := by obtain ⟨_, _, h, _⟩ := hv; exact ownLen h
  unfold maxLen at hl1
  have HV := Lib.hid hv
  clear hv
  go_enter Tryd.func61, Tryd.ntmps61
  go_wp2_with fail
  go_loopw [3, 4, 5, 6, 7, 8, 9, 10, 11, 12, 13, 14, 15, 16, 17, 18] (fun lv i _ _ _ _ _ _ _ _ _ _ _ _ _ _ wr => ∃ (k : Nat) (la : Option Addr) (lc hi : Nat), k ≤ x.len ∧ i = .int .i64 k ∧ lv = .slice la k lc ∧ RIn (fun w F => RowS w (Sts.ofL (x.toL.take k)) (.slice la k lc) F) wr w.heap.size hi [] ∧ Below w.heap.size w wr) (fun _ i _ _ _ _ _ _ _ _ _ _ _ _ _ _ _ => x.len - (intOf i).toNat)
  case atStart => exact ⟨0, none, 0, w.heap.size, by omega, rfl, rfl, ⟨Nat.le_refl _, [], RowS.nil, by simp, by simp⟩, Below.refl _ _⟩
  case round =>
    obtain ⟨k, la, lc, hi, hk, rfl, rfl, hA, hb⟩ := hrel
    have HA := Lib.hid hA
    have HB := Lib.hid hb
    clear hA hb
    by_cases hlt : k < x.len
    · have hd1 : decide ((k : Int) < (x.len : Int)) = true := by simp; omega
      have hk0 : (0 : Int) ≤ (k : Int) := by omega
      have hk1 : (k : Int) < (x.len : Int) := by omega
      obtain ⟨e, he⟩ : ∃ e, x.toL[k]? = some e := ⟨_, List.getElem?_eq_getElem (by rw [Sts.toL_len]; exact hlt)⟩
      obtain ⟨js, I0, i1, i2, _⟩ := HV.out.low HB.out
      obtain ⟨ev, kv, Fe, Fi, r0, r1, r3⟩ := StsIn.get _ _ _ i2 k e he
      obtain ⟨g, cap, hg, hgl, hgc⟩ := own_get i1 (by omega)
      injection hg with q1 q2 q3
      subst q1 q3
      have hc1 : ∀ j u, (stC e ev kv)[j]? = some u → wr.cell? ⟨g, k * 9 + j, none⟩ = some u := fun j u hu => hgc _ _ (r3 j u hu)
      have a0 := hc1 0 _ rfl
      have a1 := hc1 1 _ rfl
      have a2 := hc1 2 _ rfl
      have a3 := hc1 3 _ rfl
      have a4 := hc1 4 _ rfl
      have a5 := hc1 5 _ rfl
      have a6 := hc1 6 _ rfl
      have a7 := hc1 7 _ rfl
      have a8 := hc1 8 _ rfl
      simp only [Nat.add_zero] at a0
      have hes := Sts.all_mem x e (List.mem_of_getElem? he)
      have CE := Lib.hid (copyStmt_step n IH e (by omega) (by omega) (by omega) wr ev kv Fe Fi r0 r1)
      unfold stC at CE
      clear i1 i2 r0 r1 r3 hgc hc1
      go_wp2_with fail
      refine CE.out.mono ?_
      rintro e1 w1 ⟨v1, v2, rfl, ⟨ae, ce, rfl⟩, ⟨a1, c1, rfl⟩, hN, hb1⟩
      have hz1 := hb1.size
      have HN := Lib.hid hN
      have HA1 := Lib.hid (RIn.of_heap (R := fun w F => RowS w (Sts.ofL (x.toL.take k)) (.slice la k lc) F) (fun _ _ _ h h' => h.at_ h') HA.out hz1 (fun b _ h1 _ => hb1.block b (by have := HA.out.hle; omega)))
      have HB1 := Lib.hid (HB.out.trans (hb1.mono HB.out.size))
      have hhi := HA.out.hle
      have hsz := HB.out.size
      clear hN hb1 HA
      obtain ⟨hle, Fa, ⟨ks, F0, hrow, hin, rfl⟩, hnd, hF⟩ := HA1.out
      obtain ⟨hle2, Fk, ⟨Fk1, Fk2, hrk1, hrk, rfl⟩, hndk, hFk⟩ := HN.out
      have hlenk : (Sts.ofL (x.toL.take k)).len = k := by rw [Sts.ofL_len, List.length_take, Sts.toL_len]; omega
      rw [hlenk] at hrow
      have hrow2 : (w1.alloc (.cells (stC e (.slice ae e.ex.len ce) (.slice a1 e.body.len c1)).toArray 82 (0, 0))).ownsRow 0 82 9 (.slice la k lc) k ks := ownsRow_at hrow (fun b hm => alloc_old w1 _ b (by have := hF b (List.mem_append_left _ hm); omega))
      have hin2 : StsIn (w1.alloc (.cells (stC e (.slice ae e.ex.len ce) (.slice a1 e.body.len c1)).toArray 82 (0, 0))) (Sts.ofL (x.toL.take k)) ks F0 := StsIn.at_ _ _ _ hin (fun b hm => alloc_old w1 _ b (by have := hF b (List.mem_append_right _ hm); omega))
      have hbl : OwnB (w1.alloc (.cells (stC e (.slice ae e.ex.len ce) (.slice a1 e.body.len c1)).toArray 82 (0, 0))) w1.heap.size (stC e (.slice ae e.ex.len ce) (.slice a1 e.body.len c1)).toArray 82 := OwnB.new rfl
      have hw1l : w.heap.size ≤ w1.heap.size := HB1.out.size
      have hmx := World.size_alloc w1 (.cells (stC e (.slice ae e.ex.len ce) (.slice a1 e.body.len c1)).toArray 82 (0, 0))
      have hkl : k ≤ 1000000000 := by have := Sts.len_all x; omega
      clear hrow hin
      go_wp2_with (at_builtin; refine wpList_appendG rfl _ _ 52 82 _ 9 112 (stC e (.slice ae e.ex.len ce) (.slice a1 e.body.len c1)) (fun w xs F => StsIn w (Sts.ofL (x.toL.take k)) xs F) (fun _ _ _ _ h h' => StsIn.at_ _ _ _ h h') Tryd.underlying52 infoSt rfl rfl (by decide) (by decide) (by intro u hu; simp only [stC, List.mem_cons, List.not_mem_nil, or_false] at hu; rcases hu with rfl | rfl | rfl | rfl | rfl | rfl | rfl | rfl | rfl <;> rfl) rfl rfl rfl hrow2 hin2 hnd (fun b hm => ⟨(hF b hm).1, (hF b hm).2.1⟩) (by rw [World.size_alloc]; omega) hbl (by rw [World.size_alloc]; omega) hkl ?_; intro g2 cap' w2 hrow3 hin3 hg2 hgw hk2 hz2 hot)
      rw [World.size_alloc] at hg2 hz2
      have hfp := grow_fp (W := w1.alloc (.cells (stC e (.slice ae e.ex.len ce) (.slice a1 e.body.len c1)).toArray 82 (0, 0))) (w' := w2) (lo := w.heap.size) (hi := hi) (lo2 := wr.heap.size) (hi2 := w1.heap.size) hnd (fun b hm => ⟨(hF b hm).1, (hF b hm).2.1⟩) hndk (fun b hm => ⟨(hFk b hm).1, (hFk b hm).2.1⟩) (by omega) ⟨by omega, by rw [hmx]; omega⟩ ⟨by rw [hmx]; omega, by rw [hmx]; omega⟩ (by rw [hmx]; exact hg2) hgw (by rw [hmx]; exact hz2)
      have hbl2 : ∀ b, b < w1.heap.size → b ∉ ownF (Value.slice la k lc) → w2.heap[b]? = w1.heap[b]? := fun b h1 h2 => (hk2 b (by rw [World.size_alloc]; omega) h2).trans (alloc_old w1 _ b h1)
      have hbk : ∀ b ∈ Fk1 ++ Fk2, w2.heap[b]? = w1.heap[b]? := fun b hm => hbl2 b (hFk b hm).2.1 (fun h2 => by have := (hF b (List.mem_append_left _ h2)).2.1; have := (hFk b hm).1; omega)
      have hrk1' : RowX w2 e.ex (.slice ae e.ex.len ce) Fk1 := hrk1.at_ (fun b hm => hbk b (List.mem_append_left _ hm))
      have hrk2 : RowS w2 e.body (.slice a1 e.body.len c1) Fk2 := hrk.at_ (fun b hm => hbk b (List.mem_append_right _ hm))
      have hB2 : Below w.heap.size w w2 := HB1.out.trans ⟨hot.1, hot.2.1, hot.2.2, by omega, fun b h1 => hbl2 b (by omega) (fun h2 => by have := (hF b (List.mem_append_left _ h2)).1; omega)⟩
      go_roundw
      case measure => simp [intOf]; omega
      case rel =>
        refine ⟨k + 1, some ⟨g2, 0, none⟩, cap', w2.heap.size, by omega, by simp, rfl, ⟨Nat.le_refl _, g2 :: (F0 ++ (Fk1 ++ Fk2)), ⟨ks ++ stC e (.slice ae e.ex.len ce) (.slice a1 e.body.len c1), F0 ++ (Fk1 ++ Fk2), ?_, ?_, rfl⟩, hfp.1, hfp.2⟩, hB2⟩
        · rw [Sts.ofL_len, List.length_take, Sts.toL_len, Nat.min_eq_left (by omega)]
          exact hrow3
        · rw [List.take_add_one, he]
          show StsIn w2 (Sts.ofL (x.toL.take k ++ [e])) _ _
          rw [Sts.ofL_snoc]
          exact StsIn.snoc hrk1' hrk2 _ _ _ hin3
    · obtain rfl : k = x.len := by omega
      have hd1 : decide ((x.len : Int) < (x.len : Int)) = false := by simp
      have hA := HA.out
      rw [← Sts.toL_len, List.take_length, Sts.ofL_toL, Sts.toL_len] at hA
      go_wp2_with fail
      go_ret
      exact ⟨_, rfl, hA.wide (Nat.le_refl _) hA.hle (Nat.le_refl _), HB.out⟩
theorem cpSs : ∀ n, CpSs n := by
  intro n
  induction n with
  | zero => intro x h; omega
  | succ n ih => exact fun x h h2 w v F => copyStmts_step n ih x h h2 w v F
theorem copyStmts_any (x : Sts) (hsm : x.all ≤ 1000000000) (w : World) (v : Value) (F : List Nat) (hv : RowS w x v F) : Calls Tryd.prog 61 #[v] w (Copied (fun w v F => RowS w x v F) w) := cpSs (x.all + 1) x (by omega) hsm w v F hv
end Go.Proofs.YtjmemapkipkocaaDoor

/-
  Copies of numbers.
-/
namespace Go.Proofs.YtjmemapkipkocaaDoor
open Go.RowKit Go.Maps
set_option linter.unusedVariables false
set_option linter.unusedSimpArgs false
set_option maxRecDepth 100000
set_option maxHeartbeats 1000000

theorem RowI.form {w : World} {x : List Int} {v : Value} {F : List Nat} (h : RowI w x v F) : ∃ a c, v = .slice a x.length c := by
  obtain ⟨h1, _⟩ := h
  rcases h1.2 with ⟨rfl, h⟩ | ⟨g, cap, cur, rfl, _⟩
  · exact ⟨none, 0, by rw [h]⟩
  · exact ⟨_, _, rfl⟩
theorem copyLongs_any (x : List Int) (hsm : x.length ≤ 1000000000) (w : World) (v : Value) (F : List Nat) (hv : RowI w x v F) : Calls Tryd.prog 60 #[v] w (Copied (fun w v F => RowI w x v F) w) := by
  obtain ⟨a, c, rfl⟩ := hv.form
  have HV := Lib.hid hv
  clear hv
  go_enter Tryd.func60, Tryd.ntmps60
  go_wp2_with fail
  go_loopw [3, 4, 5, 6, 7, 8, 9, 10, 11, 12, 13, 14, 15, 16] (fun lv i _ _ _ _ _ _ _ _ _ _ _ _ wr => ∃ (k : Nat) (la : Option Addr) (lc hi : Nat), k ≤ x.length ∧ i = .int .i64 k ∧ lv = .slice la k lc ∧ RIn (fun w F => RowI w (x.take k) (.slice la k lc) F) wr w.heap.size hi [] ∧ Below w.heap.size w wr) (fun _ i _ _ _ _ _ _ _ _ _ _ _ _ _ => x.length - (intOf i).toNat)
  case atStart => exact ⟨0, none, 0, w.heap.size, by omega, rfl, rfl, ⟨Nat.le_refl _, [], RowI.nil, by simp, by simp⟩, Below.refl _ _⟩
  case round =>
    obtain ⟨k, la, lc, hi, hk, rfl, rfl, hA, hb⟩ := hrel
    have HA := Lib.hid hA
    have HB := Lib.hid hb
    clear hA hb
    by_cases hlt : k < x.length
    · have hd1 : decide ((k : Int) < (x.length : Int)) = true := by simp; omega
      have hk0 : (0 : Int) ≤ (k : Int) := by omega
      have hk1 : (k : Int) < (x.length : Int) := by omega
      obtain ⟨e, he⟩ : ∃ e, x[k]? = some e := ⟨_, List.getElem?_eq_getElem hlt⟩
      obtain ⟨g, cap, hg, hgl, hgc⟩ := own_get (HV.out.low HB.out).1 (by omega)
      injection hg with q1 q2 q3
      subst q1 q3
      have a0 : wr.cell? ⟨g, k, none⟩ = some (.int .i64 e) := hgc _ _ (by simp [intsC, he])
      have hhi := HA.out.hle
      have hsz := HB.out.size
      obtain ⟨hle, Fa, ⟨hrow, rfl⟩, hnd, hF⟩ := HA.out
      have hlenk : (x.take k).length = k := by rw [List.length_take]; omega
      rw [hlenk] at hrow
      have hrow2 : (wr.alloc (.cells #[.int .i64 e] 2 (0, 0))).ownsRow 0 2 1 (.slice la k lc) k (intsC (x.take k)) := ownsRow_at hrow (fun b hm => alloc_old wr _ b (by have := hF b hm; omega))
      have hbl : OwnB (wr.alloc (.cells #[.int .i64 e] 2 (0, 0))) wr.heap.size #[.int .i64 e] 2 := OwnB.new rfl
      have hmx := World.size_alloc wr (.cells #[.int .i64 e] 2 (0, 0))
      have hkl : k ≤ 1000000000 := by omega
      clear hrow hgc
      go_wp2_with (at_builtin; refine wpList_appendG rfl _ _ 48 2 _ 1 8 [.int .i64 e] (fun w xs F => F = []) (fun _ _ _ _ h _ => h) Tryd.underlying48 infoIn rfl rfl (by decide) (by decide) (by intro u hu; simp only [List.mem_cons, List.not_mem_nil, or_false] at hu; subst hu; rfl) rfl rfl rfl hrow2 rfl (by simpa using hnd) (fun b hm => ⟨(hF b (by simpa using hm)).1, (hF b (by simpa using hm)).2.1⟩) (by rw [World.size_alloc]; omega) hbl (by rw [World.size_alloc]; omega) hkl ?_; intro g2 cap' w2 hrow3 hin3 hg2 hgw hk2 hz2 hot)
      rw [World.size_alloc] at hg2 hz2
      have hfp := grow_fp (W := wr.alloc (.cells #[.int .i64 e] 2 (0, 0))) (w' := w2) (lo := w.heap.size) (hi := hi) (lo2 := wr.heap.size) (hi2 := wr.heap.size) (Fo := ownF (Value.slice la k lc)) (F0 := []) (Fi := []) (by simpa using hnd) (fun b hm => ⟨(hF b (by simpa using hm)).1, (hF b (by simpa using hm)).2.1⟩) (by simp) (by simp) (by omega) ⟨by omega, by rw [hmx]; omega⟩ ⟨by rw [hmx]; omega, by rw [hmx]; omega⟩ (by rw [hmx]; exact hg2) hgw (by rw [hmx]; exact hz2)
      have hbl2 : ∀ b, b < wr.heap.size → b ∉ ownF (Value.slice la k lc) → w2.heap[b]? = wr.heap[b]? := fun b h1 h2 => (hk2 b (by rw [World.size_alloc]; omega) h2).trans (alloc_old wr _ b h1)
      have hB2 : Below w.heap.size w w2 := HB.out.trans ⟨hot.1, hot.2.1, hot.2.2, by omega, fun b h1 => hbl2 b (by omega) (fun h2 => by have := (hF b h2).1; omega)⟩
      go_roundw
      case measure => simp [intOf]; omega
      case rel =>
        refine ⟨k + 1, some ⟨g2, 0, none⟩, cap', w2.heap.size, by omega, by simp, rfl, ⟨Nat.le_refl _, [g2], ⟨?_, rfl⟩, by simp, by simpa using hfp.2⟩, hB2⟩
        rw [List.length_take, Nat.min_eq_left (by omega), List.take_add_one, he]
        have e2 : intsC (x.take k ++ (some e).toList) = intsC (x.take k) ++ [.int .i64 e] := by simp [intsC]
        rw [e2]
        exact hrow3
    · obtain rfl : k = x.length := by omega
      have hd1 : decide ((x.length : Int) < (x.length : Int)) = false := by simp
      have hA := HA.out
      rw [List.take_length] at hA
      go_wp2_with fail
      go_ret
      exact ⟨_, rfl, hA.wide (Nat.le_refl _) hA.hle (Nat.le_refl _), HB.out⟩
end Go.Proofs.YtjmemapkipkocaaDoor

/-
  Copies of declarations.
-/
namespace Go.Proofs.YtjmemapkipkocaaDoor
open Go.RowKit Go.Maps
set_option linter.unusedVariables false
set_option linter.unusedSimpArgs false
set_option maxRecDepth 100000
set_option maxHeartbeats 1000000

theorem RowD.form {w : World} {x : List Dec} {v : Value} {F : List Nat} (h : RowD w x v F) : ∃ a c, v = .slice a x.length c := by
  obtain ⟨ks, F0, h1, _, _⟩ := h
  rcases h1.2 with ⟨rfl, h⟩ | ⟨g, cap, cur, rfl, _⟩
  · exact ⟨none, 0, by rw [h]⟩
  · exact ⟨_, _, rfl⟩
theorem copyDecl_any (e : Dec) (hsm : e.init.length ≤ 1000000000) (w : World) (v : Value) (F : List Nat) (hv : RowI w e.init v F) :
    Calls Tryd.prog 45 #[.agg (dcC e v).toArray] w fun e1 w' => ∃ v', e1 = .returned (.agg (dcC e v').toArray) ∧ New (fun w v F => RowI w e.init v F) w.heap.size v' w' ∧ Below w.heap.size w w' := by
  obtain ⟨a, c, rfl⟩ := hv.form
  have CE := fun W (H : Below w.heap.size w W) => Lib.hid (copyLongs_any e.init hsm W (.slice a e.init.length c) F (hv.low H))
  clear hv
  unfold dcC
  go_enter Tryd.func45, Tryd.ntmps45
  go_wp2_with fail
  refine (CE _ ((((Below.refl _ _).alloc (Nat.le_refl _) _).alloc (by simp) _).alloc (by simp <;> omega) _)).out.mono ?_
  rintro e1 w1 ⟨v1, rfl, hN, hb⟩
  obtain ⟨a1, c1, rfl⟩ : ∃ a1 c1, v1 = .slice a1 e.init.length c1 := by obtain ⟨_, _, hr, _⟩ := hN; exact hr.form
  have O1 : OwnB w1 (w.heap.size + 1) _ 50 := ⟨(hb.block _ (by simp <;> omega)).trans (OwnB.alloc (OwnB.new (by simp)) _).blk⟩
  have O2 : OwnB w1 (w.heap.size + 1 + 1) _ 50 := ⟨(hb.block _ (by simp)).trans (OwnB.new (by simp)).blk⟩
  obtain ⟨y1, x1, z1⟩ := O1.facts
  obtain ⟨y2, x2, z2⟩ := O2.facts
  have hz := hb.size
  simp only [World.size_alloc] at hz
  have HN := Lib.hid hN
  have HB := Lib.hid ((((Below.refl w.heap.size w).alloc (Nat.le_refl _) _).alloc (by simp) _).alloc (by simp <;> omega) _ |>.trans (hb.mono (by simp <;> omega)))
  clear hN hb
  go_wp2_with fail
  refine bodyPost_ret (v := .agg #[.string ⟨e.nm.toArray⟩, .int .i64 e.ty.kind, .int .i64 e.ty.ptr, .int .i64 e.ty.len, .slice a1 e.init.length c1, .int .i64 e.pos]) (by simp [results, Tryd.results45, go_sem, *]) rfl ?_
  refine ⟨_, rfl, ?_, ?_⟩
  · exact HN.out.to (fun _ _ _ _ h h' => h.at_ h') (G := [w.heap.size + 1, w.heap.size + 1 + 1]) Keeps.au (by simp) (by simp <;> omega)
  · exact ((Keeps.of_below (G := []) HB.out).then_ (H := [w.heap.size + 1, w.heap.size + 1 + 1]) Keeps.au (by simp <;> omega)).below
theorem copyDecls_any (x : List Dec) (hsm : x.length ≤ 1000000000 ∧ ∀ e ∈ x, e.init.length ≤ 1000000000) (w : World) (v : Value) (F : List Nat) (hv : RowD w x v F) : Calls Tryd.prog 26 #[v] w (Copied (fun w v F => RowD w x v F) w) := by
  obtain ⟨a, c, rfl⟩ := hv.form
  have hl1 : x.length ≤ 1000000000 := hsm.1
  have HV := Lib.hid hv
  clear hv
  go_enter Tryd.func26, Tryd.ntmps26
  go_wp2_with fail
  go_loopw [3, 4, 5, 6, 7, 8, 9, 10, 11, 12, 13, 14, 15, 16, 17, 18] (fun lv i _ _ _ _ _ _ _ _ _ _ _ _ _ _ wr => ∃ (k : Nat) (la : Option Addr) (lc hi : Nat), k ≤ x.length ∧ i = .int .i64 k ∧ lv = .slice la k lc ∧ RIn (fun w F => RowD w (x.take k) (.slice la k lc) F) wr w.heap.size hi [] ∧ Below w.heap.size w wr) (fun _ i _ _ _ _ _ _ _ _ _ _ _ _ _ _ _ => x.length - (intOf i).toNat)
  case atStart => exact ⟨0, none, 0, w.heap.size, by omega, rfl, rfl, ⟨Nat.le_refl _, [], RowD.nil, by simp, by simp⟩, Below.refl _ _⟩
  case round =>
    obtain ⟨k, la, lc, hi, hk, rfl, rfl, hA, hb⟩ := hrel
    have HA := Lib.hid hA
    have HB := Lib.hid hb
    clear hA hb
    by_cases hlt : k < x.length
    · have hd1 : decide ((k : Int) < (x.length : Int)) = true := by simp; omega
      have hk0 : (0 : Int) ≤ (k : Int) := by omega
      have hk1 : (k : Int) < (x.length : Int) := by omega
      obtain ⟨e, he⟩ : ∃ e, x[k]? = some e := ⟨_, List.getElem?_eq_getElem hlt⟩
      obtain ⟨js, I0, i1, i2, _⟩ := HV.out.low HB.out
      obtain ⟨kv, Fi, r1, r3⟩ := DcsIn.get _ _ _ i2 k e he
      obtain ⟨g, cap, hg, hgl, hgc⟩ := own_get i1 (by omega)
      injection hg with q1 q2 q3
      subst q1 q3
      have hc1 : ∀ j u, (dcC e kv)[j]? = some u → wr.cell? ⟨g, k * 6 + j, none⟩ = some u := fun j u hu => hgc _ _ (r3 j u hu)
      have a0 := hc1 0 _ rfl
      have a1 := hc1 1 _ rfl
      have a2 := hc1 2 _ rfl
      have a3 := hc1 3 _ rfl
      have a4 := hc1 4 _ rfl
      have a5 := hc1 5 _ rfl
      simp only [Nat.add_zero] at a0
      have hes := hsm.2 e (List.mem_of_getElem? he)
      have CE := Lib.hid (copyDecl_any e hes wr kv Fi r1)
      unfold dcC at CE
      clear i1 i2 r1 r3 hgc hc1
      go_wp2_with fail
      refine CE.out.mono ?_
      rintro e1 w1 ⟨v1, rfl, hN, hb1⟩
      obtain ⟨a1, c1, rfl⟩ : ∃ a1 c1, v1 = .slice a1 e.init.length c1 := by obtain ⟨_, _, hr, _⟩ := hN; exact hr.form
      have hz1 := hb1.size
      have HN := Lib.hid hN
      have HA1 := Lib.hid (RIn.of_heap (R := fun w F => RowD w (x.take k) (.slice la k lc) F) (fun _ _ _ h h' => h.at_ h') HA.out hz1 (fun b _ h1 _ => hb1.block b (by have := HA.out.hle; omega)))
      have HB1 := Lib.hid (HB.out.trans (hb1.mono HB.out.size))
      have hhi := HA.out.hle
      have hsz := HB.out.size
      clear hN hb1 HA
      obtain ⟨hle, Fa, ⟨ks, F0, hrow, hin, rfl⟩, hnd, hF⟩ := HA1.out
      obtain ⟨hle2, Fk, hrk, hndk, hFk⟩ := HN.out
      have hlenk : (x.take k).length = k := by rw [List.length_take]; omega
      rw [hlenk] at hrow
      have hrow2 : (w1.alloc (.cells (dcC e (.slice a1 e.init.length c1)).toArray 50 (0, 0))).ownsRow 0 50 6 (.slice la k lc) k ks := ownsRow_at hrow (fun b hm => alloc_old w1 _ b (by have := hF b (List.mem_append_left _ hm); omega))
      have hin2 : DcsIn (w1.alloc (.cells (dcC e (.slice a1 e.init.length c1)).toArray 50 (0, 0))) (x.take k) ks F0 := DcsIn.at_ _ _ _ hin (fun b hm => alloc_old w1 _ b (by have := hF b (List.mem_append_right _ hm); omega))
      have hbl : OwnB (w1.alloc (.cells (dcC e (.slice a1 e.init.length c1)).toArray 50 (0, 0))) w1.heap.size (dcC e (.slice a1 e.init.length c1)).toArray 50 := OwnB.new rfl
      have hw1l : w.heap.size ≤ w1.heap.size := HB1.out.size
      have hmx := World.size_alloc w1 (.cells (dcC e (.slice a1 e.init.length c1)).toArray 50 (0, 0))
      have hkl : k ≤ 1000000000 := by have := hsm.1; omega
      clear hrow hin
      go_wp2_with (at_builtin; refine wpList_appendG rfl _ _ 24 50 _ 6 72 (dcC e (.slice a1 e.init.length c1)) (fun w xs F => DcsIn w (x.take k) xs F) (fun _ _ _ _ h h' => DcsIn.at_ _ _ _ h h') Tryd.underlying24 infoDc rfl rfl (by decide) (by decide) (by intro u hu; simp only [dcC, List.mem_cons, List.not_mem_nil, or_false] at hu; rcases hu with rfl | rfl | rfl | rfl | rfl | rfl <;> rfl) rfl rfl rfl hrow2 hin2 hnd (fun b hm => ⟨(hF b hm).1, (hF b hm).2.1⟩) (by rw [World.size_alloc]; omega) hbl (by rw [World.size_alloc]; omega) hkl ?_; intro g2 cap' w2 hrow3 hin3 hg2 hgw hk2 hz2 hot)
      rw [World.size_alloc] at hg2 hz2
      have hfp := grow_fp (W := w1.alloc (.cells (dcC e (.slice a1 e.init.length c1)).toArray 50 (0, 0))) (w' := w2) (lo := w.heap.size) (hi := hi) (lo2 := wr.heap.size) (hi2 := w1.heap.size) hnd (fun b hm => ⟨(hF b hm).1, (hF b hm).2.1⟩) hndk (fun b hm => ⟨(hFk b hm).1, (hFk b hm).2.1⟩) (by omega) ⟨by omega, by rw [hmx]; omega⟩ ⟨by rw [hmx]; omega, by rw [hmx]; omega⟩ (by rw [hmx]; exact hg2) hgw (by rw [hmx]; exact hz2)
      have hbl2 : ∀ b, b < w1.heap.size → b ∉ ownF (Value.slice la k lc) → w2.heap[b]? = w1.heap[b]? := fun b h1 h2 => (hk2 b (by rw [World.size_alloc]; omega) h2).trans (alloc_old w1 _ b h1)
      have hrk2 : RowI w2 e.init (.slice a1 e.init.length c1) Fk := hrk.at_ (fun b hm => hbl2 b (hFk b hm).2.1 (fun h2 => by have := (hF b (List.mem_append_left _ h2)).2.1; have := (hFk b hm).1; omega))
      have hB2 : Below w.heap.size w w2 := HB1.out.trans ⟨hot.1, hot.2.1, hot.2.2, by omega, fun b h1 => hbl2 b (by omega) (fun h2 => by have := (hF b (List.mem_append_left _ h2)).1; omega)⟩
      go_roundw
      case measure => simp [intOf]; omega
      case rel =>
        refine ⟨k + 1, some ⟨g2, 0, none⟩, cap', w2.heap.size, by omega, by simp, rfl, ⟨Nat.le_refl _, g2 :: (F0 ++ Fk), ⟨ks ++ dcC e (.slice a1 e.init.length c1), F0 ++ Fk, ?_, ?_, rfl⟩, hfp.1, hfp.2⟩, hB2⟩
        · rw [List.length_take, Nat.min_eq_left (by omega)]
          exact hrow3
        · rw [List.take_add_one, he]
          exact DcsIn.snoc hrk2 _ _ _ hin3
    · obtain rfl : k = x.length := by omega
      have hd1 : decide ((x.length : Int) < (x.length : Int)) = false := by simp
      have hA := HA.out
      rw [List.take_length] at hA
      go_wp2_with fail
      go_ret
      exact ⟨_, rfl, hA.wide (Nat.le_refl _) hA.hle (Nat.le_refl _), HB.out⟩
end Go.Proofs.YtjmemapkipkocaaDoor

/-
  Copies of functions.
-/
namespace Go.Proofs.YtjmemapkipkocaaDoor
open Go.RowKit Go.Maps
set_option linter.unusedVariables false
set_option linter.unusedSimpArgs false
set_option maxRecDepth 100000
set_option maxHeartbeats 1000000

theorem RowFs.form {w : World} {x : List Fn} {v : Value} {F : List Nat} (h : RowFs w x v F) : ∃ a c, v = .slice a x.length c := by
  obtain ⟨ks, F0, h1, _, _⟩ := h
  rcases h1.2 with ⟨rfl, h⟩ | ⟨g, cap, cur, rfl, _⟩
  · exact ⟨none, 0, by rw [h]⟩
  · exact ⟨_, _, rfl⟩
theorem copyDecls_nil (w : World) : Calls Tryd.prog 26 #[.slice none 0 0] w fun e w' => e = .returned (.slice none 0 0) ∧ w' = w := by
  go_enter Tryd.func26, Tryd.ntmps26
  go_wp2_with fail
  go_loopw [3, 4, 5, 6, 7, 8, 9, 10, 11, 12, 13, 14, 15, 16, 17, 18] (fun lv i _ _ _ _ _ _ _ _ _ _ _ _ _ _ wr => lv = .slice none 0 0 ∧ i = .int .i64 0 ∧ wr = w) (fun _ _ _ _ _ _ _ _ _ _ _ _ _ _ _ _ _ => 0)
  case atStart => exact ⟨rfl, rfl, rfl⟩
  case round =>
    obtain ⟨rfl, rfl, rfl⟩ := hrel
    go_wp2_with fail
    go_ret
    exact ⟨rfl, rfl⟩
/-- How many nodes a function has. -/
def Fn.Small (e : Fn) : Prop := (e.params.length ≤ 1000000000 ∧ ∀ d ∈ e.params, d.init.length ≤ 1000000000) ∧ e.body.all ≤ 1000000000
theorem copyFunc_any (e : Fn) (hsm : e.Small) (w : World) (v u : Value) (F : List Nat) (hv0 : RowF w e v u F) :
    Calls Tryd.prog 46 #[.agg (fnC e v u).toArray] w fun e1 w' => ∃ v' u', e1 = .returned (.agg (fnC e v' u').toArray) ∧ (∃ a c, v' = .slice a e.params.length c) ∧ (∃ a c, u' = .slice a e.body.len c) ∧ RIn (fun w F => RowF w e v' u' F) w' w.heap.size w'.heap.size [] ∧ Below w.heap.size w w' := by
  obtain ⟨F1, F2, hv, hu, _⟩ := hv0
  obtain ⟨a, c, rfl⟩ := hv.form
  obtain ⟨b, d, rfl⟩ := hu.form
  have CE := fun W (H : Below w.heap.size w W) => Lib.hid (copyDecls_any e.params hsm.1 W (.slice a e.params.length c) F1 (hv.low H))
  have CS := fun W (H : Below w.heap.size w W) => Lib.hid (copyStmts_any e.body hsm.2 W (.slice b e.body.len d) F2 (hu.low H))
  have CN := fun W => Lib.hid (copyDecls_nil W)
  clear hv hu
  unfold fnC
  go_enter Tryd.func46, Tryd.ntmps46
  go_wp2_with fail
  refine (CE _ ((((Below.refl _ _).alloc (Nat.le_refl _) _).alloc (by simp) _).alloc (by simp <;> omega) _)).out.mono ?_
  rintro e1 w1 ⟨v1, rfl, hN, hb⟩
  obtain ⟨a1, c1, rfl⟩ : ∃ a1 c1, v1 = .slice a1 e.params.length c1 := by obtain ⟨_, _, hr, _⟩ := hN; exact hr.form
  have O0 : OwnB w1 w.heap.size _ 54 := ⟨(hb.block _ (by simp <;> omega)).trans (OwnB.alloc (OwnB.alloc (OwnB.new rfl) _) _).blk⟩
  have O1 : OwnB w1 (w.heap.size + 1) _ 54 := ⟨(hb.block _ (by simp <;> omega)).trans (OwnB.alloc (OwnB.new (by simp)) _).blk⟩
  have O2 : OwnB w1 (w.heap.size + 1 + 1) _ 54 := ⟨(hb.block _ (by simp <;> omega)).trans (OwnB.new (by simp)).blk⟩
  obtain ⟨y0, x0, z0⟩ := O0.facts
  obtain ⟨y1, x1, z1⟩ := O1.facts
  obtain ⟨y2, x2, z2⟩ := O2.facts
  have hz := hb.size
  simp only [World.size_alloc] at hz
  have HN := Lib.hid hN
  have HB := Lib.hid ((((Below.refl w.heap.size w).alloc (Nat.le_refl _) _).alloc (by simp) _).alloc (by simp <;> omega) _ |>.trans (hb.mono (by simp <;> omega)))
  clear hN hb
  go_wp2_with fail
  have kW : Keeps [w.heap.size + 1 + 1] w1 (w1.setCell ⟨w.heap.size + 1 + 1, 4, none⟩ (.slice a1 e.params.length c1)) := Keeps.au
  have bW : Below w.heap.size w (w1.setCell ⟨w.heap.size + 1 + 1, 4, none⟩ (.slice a1 e.params.length c1)) := ((Keeps.of_below (G := []) HB.out).then_ kW (by simp <;> omega)).below
  refine (CS _ bW).out.mono ?_
  rintro e2 w2 ⟨u1, rfl, hN2, hb2⟩
  obtain ⟨b1, d1, rfl⟩ : ∃ b1 d1, u1 = .slice b1 e.body.len d1 := by obtain ⟨_, _, hr, _⟩ := hN2; exact hr.form
  have P0 : OwnB w2 w.heap.size _ 54 := ⟨(hb2.block _ (by rw [World.size_setCell]; omega)).trans (OwnB.setCell O0 _ _ (by dsimp only; omega)).blk⟩
  have P1 : OwnB w2 (w.heap.size + 1) _ 54 := ⟨(hb2.block _ (by rw [World.size_setCell]; omega)).trans (OwnB.setCell O1 _ _ (by dsimp only; omega)).blk⟩
  have P2 : OwnB w2 (w.heap.size + 1 + 1) _ 54 := ⟨(hb2.block _ (by rw [World.size_setCell]; omega)).trans (OwnB.s8_4 O2).blk⟩
  obtain ⟨yy0, xx0, zz0⟩ := P0.facts
  obtain ⟨yy1, xx1, zz1⟩ := P1.facts
  obtain ⟨yy2, xx2, zz2⟩ := P2.facts
  have hz2 := hb2.size
  rw [World.size_setCell] at hz2
  have hn1 : RIn (fun w F => RowD w e.params (.slice a1 e.params.length c1) F) w2 (w.heap.size + 1 + 1 + 1) w1.heap.size [] := by
    have h1 := HN.out.to (fun _ _ _ _ h h' => h.at_ h') (lo' := w.heap.size + 1 + 1 + 1) kW (by simp <;> omega) (by simp <;> omega)
    have h2 : RIn (fun w F => RowD w e.params (.slice a1 e.params.length c1) F) (w1.setCell ⟨w.heap.size + 1 + 1, 4, none⟩ (.slice a1 e.params.length c1)) (w.heap.size + 1 + 1 + 1) w1.heap.size [] := by
      have h3 := h1
      unfold New at h3
      rw [World.size_setCell] at h3
      exact h3
    exact h2.of_heap (fun _ _ _ h h' => h.at_ h') hb2.size (fun b _ h5 _ => hb2.block b (by rw [World.size_setCell]; exact h5))
  have hn2 : RIn (fun w F => RowS w e.body (.slice b1 e.body.len d1) F) w2 w1.heap.size w2.heap.size [] := by
    have h3 := hN2
    unfold New at h3
    rw [World.size_setCell] at h3
    exact h3
  have HJ := Lib.hid (RIn.join2 hn1 hn2 (Nat.le_refl _) (by omega) hz2)
  have HB2 := Lib.hid (bW.trans (hb2.mono bW.size))
  clear hN2 hb2 hn1 hn2 kW bW
  go_wp2_with fail
  refine (CN _).out.mono ?_
  rintro e3 w3 ⟨rfl, rfl⟩
  go_wp2_with fail
  refine bodyPost_ret (v := .agg #[.string ⟨e.nm.toArray⟩, .int .i64 e.ret.kind, .int .i64 e.ret.ptr, .int .i64 e.ret.len, .slice a1 e.params.length c1, .slice b1 e.body.len d1, .slice none 0 0, .int .i64 e.pos]) (by simp [results, Tryd.results46, go_sem, *]) rfl ?_
  refine ⟨_, _, rfl, ⟨_, _, rfl⟩, ⟨_, _, rfl⟩, ?_, ?_⟩
  · have hR : ∀ w w' F, (∃ F1 F2, RowD w e.params (.slice a1 e.params.length c1) F1 ∧ RowS w e.body (.slice b1 e.body.len d1) F2 ∧ F = F1 ++ F2) → (∀ b ∈ F, w'.heap[b]? = w.heap[b]?) → ∃ F1 F2, RowD w' e.params (.slice a1 e.params.length c1) F1 ∧ RowS w' e.body (.slice b1 e.body.len d1) F2 ∧ F = F1 ++ F2 := by
      rintro w w' F ⟨F1, F2, h1, h2, rfl⟩ h3
      exact ⟨F1, F2, h1.at_ (fun b hm => h3 b (by simp [hm])), h2.at_ (fun b hm => h3 b (by simp [hm])), rfl⟩
    have hK : ∀ V, Keeps [w.heap.size + 1, w.heap.size + 1 + 1] w2 V → RIn (fun w F => RowF w e (.slice a1 e.params.length c1) (.slice b1 e.body.len d1) F) V w.heap.size V.heap.size [] := fun V k =>
      (RIn.of_heap hR HJ.out k.size (fun b h1 h2 _ => k.block b h2 (by simp only [List.mem_cons, List.not_mem_nil, or_false]; omega))).wide (by omega) k.size (Nat.le_refl _)
    exact hK _ Keeps.au
  · exact ((Keeps.of_below (G := []) HB2.out).then_ (H := [w.heap.size + 1, w.heap.size + 1 + 1]) Keeps.au (by simp <;> omega)).below
theorem copyFuncs_any (x : List Fn) (hsm : x.length ≤ 1000000000 ∧ ∀ e ∈ x, e.Small) (w : World) (v : Value) (F : List Nat) (hv : RowFs w x v F) : Calls Tryd.prog 27 #[v] w (Copied (fun w v F => RowFs w x v F) w) := by
  obtain ⟨a, c, rfl⟩ := hv.form
  have hl1 : x.length ≤ 1000000000 := hsm.1
  have HV := Lib.hid hv
  clear hv
  go_enter Tryd.func27, Tryd.ntmps27
  go_wp2_with fail
  go_loopw [3, 4, 5, 6, 7, 8, 9, 10, 11, 12, 13, 14, 15, 16, 17, 18] (fun lv i _ _ _ _ _ _ _ _ _ _ _ _ _ _ wr => ∃ (k : Nat) (la : Option Addr) (lc hi : Nat), k ≤ x.length ∧ i = .int .i64 k ∧ lv = .slice la k lc ∧ RIn (fun w F => RowFs w (x.take k) (.slice la k lc) F) wr w.heap.size hi [] ∧ Below w.heap.size w wr) (fun _ i _ _ _ _ _ _ _ _ _ _ _ _ _ _ _ => x.length - (intOf i).toNat)
  case atStart => exact ⟨0, none, 0, w.heap.size, by omega, rfl, rfl, ⟨Nat.le_refl _, [], RowFs.nil, by simp, by simp⟩, Below.refl _ _⟩
  case round =>
    obtain ⟨k, la, lc, hi, hk, rfl, rfl, hA, hb⟩ := hrel
    have HA := Lib.hid hA
    have HB := Lib.hid hb
    clear hA hb
    by_cases hlt : k < x.length
    · have hd1 : decide ((k : Int) < (x.length : Int)) = true := by simp; omega
      have hk0 : (0 : Int) ≤ (k : Int) := by omega
      have hk1 : (k : Int) < (x.length : Int) := by omega
      obtain ⟨e, he⟩ : ∃ e, x[k]? = some e := ⟨_, List.getElem?_eq_getElem hlt⟩
      obtain ⟨js, I0, i1, i2, _⟩ := HV.out.low HB.out
      obtain ⟨ev, kv, Fi, r1, r3⟩ := FnsIn.get _ _ _ i2 k e he
      obtain ⟨g, cap, hg, hgl, hgc⟩ := own_get i1 (by omega)
      injection hg with q1 q2 q3
      subst q1 q3
      have hc1 : ∀ j u, (fnC e ev kv)[j]? = some u → wr.cell? ⟨g, k * 8 + j, none⟩ = some u := fun j u hu => hgc _ _ (r3 j u hu)
      have a0 := hc1 0 _ rfl
      have a1 := hc1 1 _ rfl
      have a2 := hc1 2 _ rfl
      have a3 := hc1 3 _ rfl
      have a4 := hc1 4 _ rfl
      have a5 := hc1 5 _ rfl
      have a6 := hc1 6 _ rfl
      have a7 := hc1 7 _ rfl
      simp only [Nat.add_zero] at a0
      have hes := hsm.2 e (List.mem_of_getElem? he)
      have CE := Lib.hid (copyFunc_any e hes wr ev kv Fi r1)
      unfold fnC at CE
      clear i1 i2 r1 r3 hgc hc1
      go_wp2_with fail
      refine CE.out.mono ?_
      rintro e1 w1 ⟨v1, v2, rfl, ⟨ae, ce, rfl⟩, ⟨a1, c1, rfl⟩, hN, hb1⟩
      have hz1 := hb1.size
      have HN := Lib.hid hN
      have HA1 := Lib.hid (RIn.of_heap (R := fun w F => RowFs w (x.take k) (.slice la k lc) F) (fun _ _ _ h h' => h.at_ h') HA.out hz1 (fun b _ h1 _ => hb1.block b (by have := HA.out.hle; omega)))
      have HB1 := Lib.hid (HB.out.trans (hb1.mono HB.out.size))
      have hhi := HA.out.hle
      have hsz := HB.out.size
      clear hN hb1 HA
      obtain ⟨hle, Fa, ⟨ks, F0, hrow, hin, rfl⟩, hnd, hF⟩ := HA1.out
      obtain ⟨hle2, Fk, hrk, hndk, hFk⟩ := HN.out
      have hlenk : (x.take k).length = k := by rw [List.length_take]; omega
      rw [hlenk] at hrow
      have hrow2 : (w1.alloc (.cells (fnC e (.slice ae e.params.length ce) (.slice a1 e.body.len c1)).toArray 54 (0, 0))).ownsRow 0 54 8 (.slice la k lc) k ks := ownsRow_at hrow (fun b hm => alloc_old w1 _ b (by have := hF b (List.mem_append_left _ hm); omega))
      have hin2 : FnsIn (w1.alloc (.cells (fnC e (.slice ae e.params.length ce) (.slice a1 e.body.len c1)).toArray 54 (0, 0))) (x.take k) ks F0 := FnsIn.at_ _ _ _ hin (fun b hm => alloc_old w1 _ b (by have := hF b (List.mem_append_right _ hm); omega))
      have hbl : OwnB (w1.alloc (.cells (fnC e (.slice ae e.params.length ce) (.slice a1 e.body.len c1)).toArray 54 (0, 0))) w1.heap.size (fnC e (.slice ae e.params.length ce) (.slice a1 e.body.len c1)).toArray 54 := OwnB.new rfl
      have hw1l : w.heap.size ≤ w1.heap.size := HB1.out.size
      have hmx := World.size_alloc w1 (.cells (fnC e (.slice ae e.params.length ce) (.slice a1 e.body.len c1)).toArray 54 (0, 0))
      have hkl : k ≤ 1000000000 := by have := hsm.1; omega
      clear hrow hin
      go_wp2_with (at_builtin; refine wpList_appendG rfl _ _ 25 54 _ 8 120 (fnC e (.slice ae e.params.length ce) (.slice a1 e.body.len c1)) (fun w xs F => FnsIn w (x.take k) xs F) (fun _ _ _ _ h h' => FnsIn.at_ _ _ _ h h') Tryd.underlying25 infoFn rfl rfl (by decide) (by decide) (by intro u hu; simp only [fnC, List.mem_cons, List.not_mem_nil, or_false] at hu; rcases hu with rfl | rfl | rfl | rfl | rfl | rfl | rfl | rfl <;> rfl) rfl rfl rfl hrow2 hin2 hnd (fun b hm => ⟨(hF b hm).1, (hF b hm).2.1⟩) (by rw [World.size_alloc]; omega) hbl (by rw [World.size_alloc]; omega) hkl ?_; intro g2 cap' w2 hrow3 hin3 hg2 hgw hk2 hz2 hot)
      rw [World.size_alloc] at hg2 hz2
      have hfp := grow_fp (W := w1.alloc (.cells (fnC e (.slice ae e.params.length ce) (.slice a1 e.body.len c1)).toArray 54 (0, 0))) (w' := w2) (lo := w.heap.size) (hi := hi) (lo2 := wr.heap.size) (hi2 := w1.heap.size) hnd (fun b hm => ⟨(hF b hm).1, (hF b hm).2.1⟩) hndk (fun b hm => ⟨(hFk b hm).1, (hFk b hm).2.1⟩) (by omega) ⟨by omega, by rw [hmx]; omega⟩ ⟨by rw [hmx]; omega, by rw [hmx]; omega⟩ (by rw [hmx]; exact hg2) hgw (by rw [hmx]; exact hz2)
      have hbl2 : ∀ b, b < w1.heap.size → b ∉ ownF (Value.slice la k lc) → w2.heap[b]? = w1.heap[b]? := fun b h1 h2 => (hk2 b (by rw [World.size_alloc]; omega) h2).trans (alloc_old w1 _ b h1)
      have hbk : ∀ b ∈ Fk, w2.heap[b]? = w1.heap[b]? := fun b hm => hbl2 b (hFk b hm).2.1 (fun h2 => by have := (hF b (List.mem_append_left _ h2)).2.1; have := (hFk b hm).1; omega)
      have hrk2 : RowF w2 e (.slice ae e.params.length ce) (.slice a1 e.body.len c1) Fk := hrk.at_ hbk
      have hB2 : Below w.heap.size w w2 := HB1.out.trans ⟨hot.1, hot.2.1, hot.2.2, by omega, fun b h1 => hbl2 b (by omega) (fun h2 => by have := (hF b (List.mem_append_left _ h2)).1; omega)⟩
      go_roundw
      case measure => simp [intOf]; omega
      case rel =>
        refine ⟨k + 1, some ⟨g2, 0, none⟩, cap', w2.heap.size, by omega, by simp, rfl, ⟨Nat.le_refl _, g2 :: (F0 ++ Fk), ⟨ks ++ fnC e (.slice ae e.params.length ce) (.slice a1 e.body.len c1), F0 ++ (Fk), ?_, ?_, rfl⟩, hfp.1, hfp.2⟩, hB2⟩
        · rw [List.length_take, Nat.min_eq_left (by omega)]
          exact hrow3
        · rw [List.take_add_one, he]
          exact FnsIn.snoc hrk2 _ _ _ hin3
    · obtain rfl : k = x.length := by omega
      have hd1 : decide ((x.length : Int) < (x.length : Int)) = false := by simp
      have hA := HA.out
      rw [List.take_length] at hA
      go_wp2_with fail
      go_ret
      exact ⟨_, rfl, hA.wide (Nat.le_refl _) hA.hle (Nat.le_refl _), HB.out⟩
end Go.Proofs.YtjmemapkipkocaaDoor

/-
  Copies of programs.
-/
namespace Go.Proofs.YtjmemapkipkocaaDoor
open Go.RowKit Go.Maps
set_option linter.unusedVariables false
set_option linter.unusedSimpArgs false
set_option maxRecDepth 100000
set_option maxHeartbeats 1000000

/-- How many nodes a program has. -/
def Un.Small (u : Un) : Prop := (u.globals.length ≤ 1000000000 ∧ ∀ d ∈ u.globals, d.init.length ≤ 1000000000) ∧ (u.funcs.length ≤ 1000000000 ∧ ∀ e ∈ u.funcs, e.Small)
theorem OwnB.s2_0 {w : World} {b : Nat} {u0 u1 v : Value} {T : TypeId} (h : OwnB w b #[u0, u1] T) : OwnB (w.setCell ⟨b, 0, none⟩ v) b #[v, u1] T := h.set 0 v
theorem OwnB.s2_1 {w : World} {b : Nat} {u0 u1 v : Value} {T : TypeId} (h : OwnB w b #[u0, u1] T) : OwnB (w.setCell ⟨b, 1, none⟩ v) b #[u0, v] T := h.set 1 v
theorem copyUnit_any (u : Un) (hsm : u.Small) (w : World) (gv fv : Value) (F1 F2 : List Nat) (hg : RowD w u.globals gv F1) (hf : RowFs w u.funcs fv F2) :
    Calls Tryd.prog 16 #[.agg #[gv, fv]] w fun e1 w' => ∃ ga gc fa fc, e1 = .returned (.agg #[.slice ga u.globals.length gc, .slice fa u.funcs.length fc]) ∧ UIn w' w.heap.size w'.heap.size u (.slice ga u.globals.length gc) (.slice fa u.funcs.length fc) ∧ Below w.heap.size w w' := by
  obtain ⟨a, c, rfl⟩ := hg.form
  obtain ⟨b, d, rfl⟩ := hf.form
  have CE := fun W (H : Below w.heap.size w W) => Lib.hid (copyDecls_any u.globals hsm.1 W (.slice a u.globals.length c) F1 (hg.low H))
  have CS := fun W (H : Below w.heap.size w W) => Lib.hid (copyFuncs_any u.funcs hsm.2 W (.slice b u.funcs.length d) F2 (hf.low H))
  clear hg hf
  go_enter Tryd.func16, Tryd.ntmps16
  go_wp2_with fail
  refine (CE _ ((((Below.refl _ _).alloc (Nat.le_refl _) _).alloc (by simp) _).alloc (by simp <;> omega) _)).out.mono ?_
  rintro e1 w1 ⟨v1, rfl, hN, hb⟩
  obtain ⟨a1, c1, rfl⟩ : ∃ a1 c1, v1 = .slice a1 u.globals.length c1 := by obtain ⟨_, _, hr, _⟩ := hN; exact hr.form
  have O0 : OwnB w1 w.heap.size _ 27 := ⟨(hb.block _ (by simp <;> omega)).trans (OwnB.alloc (OwnB.alloc (OwnB.new rfl) _) _).blk⟩
  have O1 : OwnB w1 (w.heap.size + 1) _ 27 := ⟨(hb.block _ (by simp <;> omega)).trans (OwnB.alloc (OwnB.new (by simp)) _).blk⟩
  have O2 : OwnB w1 (w.heap.size + 1 + 1) _ 27 := ⟨(hb.block _ (by simp <;> omega)).trans (OwnB.new (by simp)).blk⟩
  obtain ⟨y0, x0, z0⟩ := O0.facts
  obtain ⟨y1, x1, z1⟩ := O1.facts
  obtain ⟨y2, x2, z2⟩ := O2.facts
  have hz := hb.size
  simp only [World.size_alloc] at hz
  have HN := Lib.hid hN
  have HB := Lib.hid ((((Below.refl w.heap.size w).alloc (Nat.le_refl _) _).alloc (by simp) _).alloc (by simp <;> omega) _ |>.trans (hb.mono (by simp <;> omega)))
  clear hN hb
  go_wp2_with fail
  have kW : Keeps [w.heap.size + 1 + 1] w1 (w1.setCell ⟨w.heap.size + 1 + 1, 0, none⟩ (.slice a1 u.globals.length c1)) := Keeps.au
  have bW : Below w.heap.size w (w1.setCell ⟨w.heap.size + 1 + 1, 0, none⟩ (.slice a1 u.globals.length c1)) := ((Keeps.of_below (G := []) HB.out).then_ kW (by simp <;> omega)).below
  refine (CS _ bW).out.mono ?_
  rintro e2 w2 ⟨u1, rfl, hN2, hb2⟩
  obtain ⟨b1, d1, rfl⟩ : ∃ b1 d1, u1 = .slice b1 u.funcs.length d1 := by obtain ⟨_, _, hr, _⟩ := hN2; exact hr.form
  have P1 : OwnB w2 (w.heap.size + 1) _ 27 := ⟨(hb2.block _ (by rw [World.size_setCell]; omega)).trans (OwnB.setCell O1 _ _ (by dsimp only; omega)).blk⟩
  have P2 : OwnB w2 (w.heap.size + 1 + 1) _ 27 := ⟨(hb2.block _ (by rw [World.size_setCell]; omega)).trans (OwnB.s2_0 O2).blk⟩
  obtain ⟨yy1, xx1, zz1⟩ := P1.facts
  obtain ⟨yy2, xx2, zz2⟩ := P2.facts
  have hz2 := hb2.size
  rw [World.size_setCell] at hz2
  have hn1 : RIn (fun w F => RowD w u.globals (.slice a1 u.globals.length c1) F) w2 (w.heap.size + 1 + 1 + 1) w1.heap.size [] := by
    have h1 := HN.out.to (fun _ _ _ _ h h' => h.at_ h') (lo' := w.heap.size + 1 + 1 + 1) kW (by simp <;> omega) (by simp <;> omega)
    have h2 : RIn (fun w F => RowD w u.globals (.slice a1 u.globals.length c1) F) (w1.setCell ⟨w.heap.size + 1 + 1, 0, none⟩ (.slice a1 u.globals.length c1)) (w.heap.size + 1 + 1 + 1) w1.heap.size [] := by
      have h3 := h1
      unfold New at h3
      rw [World.size_setCell] at h3
      exact h3
    exact h2.of_heap (fun _ _ _ h h' => h.at_ h') hb2.size (fun b _ h5 _ => hb2.block b (by rw [World.size_setCell]; exact h5))
  have hn2 : RIn (fun w F => RowFs w u.funcs (.slice b1 u.funcs.length d1) F) w2 w1.heap.size w2.heap.size [] := by
    have h3 := hN2
    unfold New at h3
    rw [World.size_setCell] at h3
    exact h3
  have HJ := Lib.hid (RIn.join2 hn1 hn2 (Nat.le_refl _) (by omega) hz2)
  have HB2 := Lib.hid (bW.trans (hb2.mono bW.size))
  clear hN2 hb2 hn1 hn2 kW bW
  go_wp2_with fail
  refine bodyPost_ret (v := .agg #[.slice a1 u.globals.length c1, .slice b1 u.funcs.length d1]) (by simp [results, Tryd.results16, go_sem, *]) rfl ?_
  refine ⟨_, _, _, _, rfl, ?_, ?_⟩
  · have hK : ∀ V, Keeps [w.heap.size + 1, w.heap.size + 1 + 1] w2 V → UIn V w.heap.size V.heap.size u (.slice a1 u.globals.length c1) (.slice b1 u.funcs.length d1) := by
      intro V k
      obtain ⟨_, F, ⟨G1, G2, g1, g2, rfl⟩, g3, g4⟩ := HJ.out
      have hk : ∀ b ∈ G1 ++ G2, V.heap[b]? = w2.heap[b]? := fun b hm => k.block b (g4 b hm).2.1 (by have := (g4 b hm).1; simp only [List.mem_cons, List.not_mem_nil, or_false]; omega)
      exact ⟨Nat.le_refl _, G1, G2, g1.at_ (fun b hm => hk b (by simp [hm])), g2.at_ (fun b hm => hk b (by simp [hm])), g3, fun b hm => ⟨by have := (g4 b hm).1; omega, by have := (g4 b hm).2.1; have := k.size; omega⟩⟩
    exact hK _ Keeps.au
  · exact ((Keeps.of_below (G := []) HB2.out).then_ (H := [w.heap.size + 1, w.heap.size + 1 + 1]) Keeps.au (by simp <;> omega)).below
end Go.Proofs.YtjmemapkipkocaaDoor

/-
  Without positions: plainly; and rows taken apart at a place.
-/
namespace Go.Proofs.YtjmemapkipkocaaDoor
open Go.RowKit Go.Maps
set_option linter.unusedVariables false
set_option linter.unusedSimpArgs false

theorem Exs.bare_ofL : ∀ l : List Ex, (ofL l).bare = ofL (l.map Ex.bare) := by
  intro l
  induction l with
  | nil => rfl
  | cons a r ih => simp only [List.map_cons, ofL, ← ih]; rfl
theorem Exs.bare_toL (x : Exs) : ofL (x.toL.map Ex.bare) = x.bare := by rw [← bare_ofL, ofL_toL]
theorem Sts.bare_ofL : ∀ l : List Sm, (ofL l).bare = ofL (l.map Sm.bare) := by
  intro l
  induction l with
  | nil => rfl
  | cons a r ih => simp only [List.map_cons, ofL, ← ih]; rfl
theorem Sts.bare_toL (x : Sts) : ofL (x.toL.map Sm.bare) = x.bare := by rw [← bare_ofL, ofL_toL]
/-- A row of expressions, taken apart at one of them. -/
theorem ExsIn.split {w : World} (e : Ex) (l2 : List Ex) : ∀ (l1 : List Ex) (xs : List Value) (F : List Nat), ExsIn w (Exs.ofL (l1 ++ e :: l2)) xs F →
    ∃ xs1 xs2 F1 Fk F2 kv, xs = xs1 ++ (exC e kv ++ xs2) ∧ F = F1 ++ (Fk ++ F2) ∧ xs1.length = l1.length * 8 ∧ ExsIn w (Exs.ofL l1) xs1 F1 ∧ RowX w e.kids kv Fk ∧ ExsIn w (Exs.ofL l2) xs2 F2 := by
  intro l1
  induction l1 with
  | nil =>
    rintro xs F ⟨kv, ks, F0, xs', F', rfl, rfl, h1, h2, h3⟩
    exact ⟨[], xs', [], ownF kv ++ F0, F', kv, rfl, rfl, rfl, ExsIn.nil, ⟨ks, F0, h1, h2, rfl⟩, h3⟩
  | cons a r ih =>
    rintro xs F ⟨kv, ks, F0, xs', F', rfl, rfl, h1, h2, h3⟩
    obtain ⟨ys1, ys2, G1, Gk, G2, ku, rfl, rfl, g0, g1, g2, g3⟩ := ih _ _ h3
    exact ⟨exC a kv ++ ys1, ys2, (ownF kv ++ F0) ++ G1, Gk, G2, ku, by rw [List.append_assoc], by simp only [List.append_assoc], by simp [exC, g0]; omega, ⟨kv, ks, F0, ys1, G1, rfl, rfl, h1, h2, g1⟩, g2, g3⟩
theorem ExsIn.cat {w : World} {e : Ex} {l2 : List Ex} {kv : Value} {xs2 : List Value} {Fk F2 : List Nat} (hk : RowX w e.kids kv Fk) (h2 : ExsIn w (Exs.ofL l2) xs2 F2) : ∀ (l1 : List Ex) (xs1 : List Value) (F1 : List Nat), ExsIn w (Exs.ofL l1) xs1 F1 →
    ExsIn w (Exs.ofL (l1 ++ e :: l2)) (xs1 ++ (exC e kv ++ xs2)) (F1 ++ (Fk ++ F2)) := by
  intro l1
  induction l1 with
  | nil =>
    rintro xs F ⟨rfl, rfl⟩
    exact (ExsIn.add hk h2 : ExsIn w (Exs.add e (Exs.ofL l2)) (exC e kv ++ xs2) (Fk ++ F2))
  | cons a r ih =>
    rintro xs F ⟨kv, ks, F0, xs', F', rfl, rfl, g1, g2, g3⟩
    have := ih _ _ g3
    exact ⟨kv, ks, F0, xs' ++ (exC e _ ++ xs2), F' ++ (Fk ++ F2), by rw [List.append_assoc], by simp only [List.append_assoc], g1, g2, this⟩
theorem StsIn.split {w : World} (e : Sm) (l2 : List Sm) : ∀ (l1 : List Sm) (xs : List Value) (F : List Nat), StsIn w (Sts.ofL (l1 ++ e :: l2)) xs F →
    ∃ xs1 xs2 F1 Fe Fk F2 ev kv, xs = xs1 ++ (stC e ev kv ++ xs2) ∧ F = F1 ++ ((Fe ++ Fk) ++ F2) ∧ xs1.length = l1.length * 9 ∧ StsIn w (Sts.ofL l1) xs1 F1 ∧ RowX w e.ex ev Fe ∧ RowS w e.body kv Fk ∧ StsIn w (Sts.ofL l2) xs2 F2 := by
  intro l1
  induction l1 with
  | nil =>
    rintro xs F ⟨ev, bv, Fe, bs, F0, xs', F', rfl, rfl, h0, h1, h2, h3⟩
    exact ⟨[], xs', [], Fe, ownF bv ++ F0, F', ev, bv, rfl, rfl, rfl, StsIn.nil, h0, ⟨bs, F0, h1, h2, rfl⟩, h3⟩
  | cons a r ih =>
    rintro xs F ⟨ev, bv, Fe, bs, F0, xs', F', rfl, rfl, h0, h1, h2, h3⟩
    obtain ⟨ys1, ys2, G1, Ge, Gk, G2, eu, ku, rfl, rfl, g0, g1, ge, g2, g3⟩ := ih _ _ h3
    exact ⟨stC a ev bv ++ ys1, ys2, (Fe ++ (ownF bv ++ F0)) ++ G1, Ge, Gk, G2, eu, ku, by rw [List.append_assoc], by simp only [List.append_assoc], by simp [stC, g0]; omega, ⟨ev, bv, Fe, bs, F0, ys1, G1, rfl, rfl, h0, h1, h2, g1⟩, ge, g2, g3⟩
theorem StsIn.cat {w : World} {e : Sm} {l2 : List Sm} {ev kv : Value} {xs2 : List Value} {Fe Fk F2 : List Nat} (he : RowX w e.ex ev Fe) (hk : RowS w e.body kv Fk) (h2 : StsIn w (Sts.ofL l2) xs2 F2) : ∀ (l1 : List Sm) (xs1 : List Value) (F1 : List Nat), StsIn w (Sts.ofL l1) xs1 F1 →
    StsIn w (Sts.ofL (l1 ++ e :: l2)) (xs1 ++ (stC e ev kv ++ xs2)) (F1 ++ ((Fe ++ Fk) ++ F2)) := by
  intro l1
  induction l1 with
  | nil =>
    rintro xs F ⟨rfl, rfl⟩
    exact (StsIn.add he hk h2 : StsIn w (Sts.add e (Sts.ofL l2)) (stC e ev kv ++ xs2) ((Fe ++ Fk) ++ F2))
  | cons a r ih =>
    rintro xs F ⟨ev2, bv, Fe2, bs, F0, xs', F', rfl, rfl, g0, g1, g2, g3⟩
    have := ih _ _ g3
    exact ⟨ev2, bv, Fe2, bs, F0, xs' ++ (stC e _ _ ++ xs2), F' ++ ((Fe ++ Fk) ++ F2), by rw [List.append_assoc], by simp only [List.append_assoc], g0, g1, g2, this⟩
theorem DcsIn.split {w : World} (e : Dec) (l2 : List Dec) : ∀ (l1 : List Dec) (xs : List Value) (F : List Nat), DcsIn w (l1 ++ e :: l2) xs F →
    ∃ xs1 xs2 F1 Fk F2 kv, xs = xs1 ++ (dcC e kv ++ xs2) ∧ F = F1 ++ (Fk ++ F2) ∧ xs1.length = l1.length * 6 ∧ DcsIn w l1 xs1 F1 ∧ RowI w e.init kv Fk ∧ DcsIn w l2 xs2 F2 := by
  intro l1
  induction l1 with
  | nil =>
    rintro xs F ⟨iv, Fi, xs', F', rfl, rfl, h1, h2⟩
    exact ⟨[], xs', [], Fi, F', iv, rfl, rfl, rfl, ⟨rfl, rfl⟩, h1, h2⟩
  | cons a r ih =>
    rintro xs F ⟨iv, Fi, xs', F', rfl, rfl, h1, h2⟩
    obtain ⟨ys1, ys2, G1, Gk, G2, ku, rfl, rfl, g0, g1, g2, g3⟩ := ih _ _ h2
    exact ⟨dcC a iv ++ ys1, ys2, Fi ++ G1, Gk, G2, ku, by rw [List.append_assoc], by simp only [List.append_assoc], by simp [dcC, g0]; omega, ⟨iv, Fi, ys1, G1, rfl, rfl, h1, g1⟩, g2, g3⟩
theorem DcsIn.cat {w : World} {e : Dec} {l2 : List Dec} {kv : Value} {xs2 : List Value} {Fk F2 : List Nat} (hk : RowI w e.init kv Fk) (h2 : DcsIn w l2 xs2 F2) : ∀ (l1 : List Dec) (xs1 : List Value) (F1 : List Nat), DcsIn w l1 xs1 F1 →
    DcsIn w (l1 ++ e :: l2) (xs1 ++ (dcC e kv ++ xs2)) (F1 ++ (Fk ++ F2)) := by
  intro l1
  induction l1 with
  | nil =>
    rintro xs F ⟨rfl, rfl⟩
    exact ⟨kv, Fk, xs2, F2, rfl, rfl, hk, h2⟩
  | cons a r ih =>
    rintro xs F ⟨iv, Fi, xs', F', rfl, rfl, g1, g2⟩
    exact ⟨iv, Fi, _, _, by rw [List.append_assoc], by simp only [List.append_assoc], g1, ih _ _ g2⟩
theorem FnsIn.split {w : World} (e : Fn) (l2 : List Fn) : ∀ (l1 : List Fn) (xs : List Value) (F : List Nat), FnsIn w (l1 ++ e :: l2) xs F →
    ∃ xs1 xs2 F1 Fk F2 pv bv, xs = xs1 ++ (fnC e pv bv ++ xs2) ∧ F = F1 ++ (Fk ++ F2) ∧ xs1.length = l1.length * 8 ∧ FnsIn w l1 xs1 F1 ∧ RowF w e pv bv Fk ∧ FnsIn w l2 xs2 F2 := by
  intro l1
  induction l1 with
  | nil =>
    rintro xs F ⟨pv, bv, Fi, xs', F', rfl, rfl, h1, h2⟩
    exact ⟨[], xs', [], Fi, F', pv, bv, rfl, rfl, rfl, ⟨rfl, rfl⟩, h1, h2⟩
  | cons a r ih =>
    rintro xs F ⟨pv, bv, Fi, xs', F', rfl, rfl, h1, h2⟩
    obtain ⟨ys1, ys2, G1, Gk, G2, pu, bu, rfl, rfl, g0, g1, g2, g3⟩ := ih _ _ h2
    exact ⟨fnC a pv bv ++ ys1, ys2, Fi ++ G1, Gk, G2, pu, bu, by rw [List.append_assoc], by simp only [List.append_assoc], by simp [fnC, g0]; omega, ⟨pv, bv, Fi, ys1, G1, rfl, rfl, h1, g1⟩, g2, g3⟩
theorem FnsIn.cat {w : World} {e : Fn} {l2 : List Fn} {pv bv : Value} {xs2 : List Value} {Fk F2 : List Nat} (hk : RowF w e pv bv Fk) (h2 : FnsIn w l2 xs2 F2) : ∀ (l1 : List Fn) (xs1 : List Value) (F1 : List Nat), FnsIn w l1 xs1 F1 →
    FnsIn w (l1 ++ e :: l2) (xs1 ++ (fnC e pv bv ++ xs2)) (F1 ++ (Fk ++ F2)) := by
  intro l1
  induction l1 with
  | nil =>
    rintro xs F ⟨rfl, rfl⟩
    exact ⟨pv, bv, Fk, xs2, F2, rfl, rfl, hk, h2⟩
  | cons a r ih =>
    rintro xs F ⟨pv2, bv2, Fi, xs', F', rfl, rfl, g1, g2⟩
    exact ⟨pv2, bv2, Fi, _, _, by rw [List.append_assoc], by simp only [List.append_assoc], g1, ih _ _ g2⟩
/-- A store into a row's block. -/
theorem own_stored {w : World} {T : TypeId} {sz n cap g : Nat} {xs : List Value} (h : w.ownsRow 0 T sz (.slice (some ⟨g, 0, none⟩) n cap) n xs) (j : Nat) (u : Value) : (w.setCell ⟨g, j, none⟩ u).ownsRow 0 T sz (.slice (some ⟨g, 0, none⟩) n cap) n (xs.set j u) := (h.stored j u).1
theorem set_mid (xs1 ys xs2 : List Value) (n j k : Nat) (u : Value) (hn : xs1.length = n) (hk : k = n + j) (hj : j < ys.length) : (xs1 ++ (ys ++ xs2)).set k u = xs1 ++ (ys.set j u ++ xs2) := by
  subst hk hn
  rw [List.set_append_right _ _ (by omega), Nat.add_sub_cancel_left, List.set_append_left _ _ hj]
theorem at_mid (xs1 ys xs2 : List Value) (n j : Nat) (u : Value) (hn : xs1.length = n) (hu : ys[j]? = some u) : (xs1 ++ (ys ++ xs2))[n + j]? = some u := by
  subst hn
  have hj : j < ys.length := (List.getElem?_eq_some_iff.1 hu).1
  rw [List.getElem?_append_right (by omega), Nat.add_sub_cancel_left, List.getElem?_append_left hj]
  exact hu
/-- Blocks of a footprint: what is written lies in it. -/
theorem Keeps.sub {G H : List Nat} {a b c : World} (h : Keeps G a b) (k : Keeps H b c) (hh : ∀ x ∈ H, x ∈ G) : Keeps G a c := h.then_ k (fun x hx => .inl (hh x hx))
theorem setCell_other (w : World) (g j b : Nat) (v : Value) (h : b ≠ g) : (w.setCell ⟨g, j, none⟩ v).heap[b]? = w.heap[b]? := Below.heap_setCell w ⟨g, j, none⟩ v b h
/-- What a call does that writes into a row. -/
def Bared (R : World → Prop) (F : List Nat) (w : World) (e : Ending) (w' : World) : Prop := e = .returned (.tuple #[]) ∧ R w' ∧ Keeps F w w'
end Go.Proofs.YtjmemapkipkocaaDoor

/-
  Positions taken out of expressions, in place.
-/
namespace Go.Proofs.YtjmemapkipkocaaDoor
open Go.RowKit Go.Maps
set_option linter.unusedVariables false
set_option linter.unusedSimpArgs false
set_option maxRecDepth 100000
set_option maxHeartbeats 1000000

theorem half_len {α : Type} (l : List α) (f : α → α) (k : Nat) (h : k ≤ l.length) : ((l.take k).map f ++ l.drop k).length = l.length := by
  rw [List.length_append, List.length_map, List.length_take, List.length_drop]; omega
theorem half_next {α : Type} (l : List α) (f : α → α) (k : Nat) (e : α) (h : l[k]? = some e) : (l.take (k + 1)).map f ++ l.drop (k + 1) = (l.take k).map f ++ f e :: l.drop (k + 1) := by
  rw [List.take_add_one, h]; simp
theorem half_at {α : Type} (l : List α) (f : α → α) (k : Nat) (e : α) (h : l[k]? = some e) : (l.take k).map f ++ l.drop k = (l.take k).map f ++ e :: l.drop (k + 1) := by
  have hk : k < l.length := (List.getElem?_eq_some_iff.1 h).1
  rw [List.drop_eq_getElem_cons hk]
  rw [List.getElem?_eq_getElem hk] at h
  rw [Option.some.inj h]
theorem half_all {α : Type} (l : List α) (f : α → α) (k : Nat) (h : k = l.length) : (l.take k).map f ++ l.drop k = l.map f := by
  subst h; simp
/-- One of a row, written into, its parts' blocks written, too. -/
theorem RowX.bareAt {w w2 : World} {l1 l2 : List Ex} {e : Ex} {g c k : Nat} {xs1 xs2 : List Value} {F1 Fk F2 : List Nat} {kv : Value} (hl : l1.length = k)
    (ho : w.ownsRow 0 105 8 (.slice (some ⟨g, 0, none⟩) (Exs.ofL (l1 ++ e :: l2)).len c) (Exs.ofL (l1 ++ e :: l2)).len (xs1 ++ (exC e kv ++ xs2))) (hx1 : xs1.length = l1.length * 8)
    (i1 : ExsIn w (Exs.ofL l1) xs1 F1) (i3 : ExsIn w (Exs.ofL l2) xs2 F2) (hnd : (g :: (F1 ++ (Fk ++ F2))).Nodup) (hF : ∀ b ∈ g :: (F1 ++ (Fk ++ F2)), b < w.heap.size)
    (hk2 : RowX w2 e.kids.bare kv Fk) (k2 : Keeps Fk (w.setCell ⟨g, k * 8 + 7, none⟩ (.int .i64 0)) w2) :
    RowX w2 (Exs.ofL (l1 ++ e.bare :: l2)) (.slice (some ⟨g, 0, none⟩) (Exs.ofL (l1 ++ e :: l2)).len c) (g :: (F1 ++ (Fk ++ F2))) ∧ Keeps (g :: (F1 ++ (Fk ++ F2))) w w2 := by
  have hn := List.nodup_cons.1 hnd
  have hn2 := List.nodup_append.1 hn.2
  have hn3 := List.nodup_append.1 hn2.2.1
  have hs : ∀ b ∈ F1 ++ F2, w2.heap[b]? = w.heap[b]? := by
    intro b hm
    have hbg : b ≠ g := by rintro rfl; exact hn.1 (by simp at hm ⊢; rcases hm with h | h <;> simp [h])
    have hbk : b ∉ Fk := by
      intro hk
      rcases List.mem_append.1 hm with h | h
      · exact hn2.2.2 b h b (by simp [hk]) rfl
      · exact hn3.2.2 b hk b h rfl
    rw [k2.block b (by rw [World.size_setCell]; exact hF b (by simp at hm ⊢; rcases hm with h | h <;> simp [h])) hbk, setCell_other _ _ _ _ _ hbg]
  have hg : g ∉ Fk := fun h => hn.1 (by simp [h])
  have ho2 := own_stored ho (k * 8 + 7) (.int .i64 0)
  rw [set_mid _ _ _ (k * 8) 7 _ _ (by rw [hx1, hl]) rfl (by simp [exC])] at ho2
  have hlen : (Exs.ofL (l1 ++ e.bare :: l2)).len = (Exs.ofL (l1 ++ e :: l2)).len := by simp [Exs.ofL_len]
  refine ⟨⟨xs1 ++ (exC e.bare kv ++ xs2), F1 ++ (Fk ++ F2), ?_, ExsIn.cat (e := e.bare) hk2 (ExsIn.at_ _ _ _ i3 (fun b hm => hs b (by simp [hm]))) _ _ _ (ExsIn.at_ _ _ _ i1 (fun b hm => hs b (by simp [hm]))), rfl⟩, ?_⟩
  · rw [hlen]
    refine ownsRow_at ho2 (fun b hm => ?_)
    obtain rfl : b = g := by simpa [ownF, Value.ownBlock] using hm
    exact k2.block b (by rw [World.size_setCell]; exact hF b (by simp)) hg
  · exact ((Keeps.refl _ _).setCell _ (.inr (by simp)) _).sub k2 (fun b hm => by simp [hm])
def BrX (n : Nat) : Prop := ∀ (x : Exs), x.size < n → ∀ (w : World) (v : Value) (F : List Nat), RowX w x v F → F.Nodup → Calls Tryd.prog 28 #[v] w (Bared (fun w' => RowX w' x.bare v F) F w)
theorem bareExprs_step (n : Nat) (IH : BrX n) (x : Exs) (hx : x.size < n + 1) (w : World) (v : Value) (F : List Nat) (hv : RowX w x v F) (hnd : F.Nodup) : Calls Tryd.prog 28 #[v] w (Bared (fun w' => RowX w' x.bare v F) F w) := by
  obtain ⟨a, c, rfl⟩ := hv.form
  have hl1 : x.len ≤ maxLen := by obtain ⟨_, _, h, _⟩ := hv; exact ownLen h
  unfold maxLen at hl1
  have HV := Lib.hid hv
  have HN := Lib.hid hnd
  clear hv hnd
  go_enter Tryd.func28, Tryd.ntmps28
  go_wp2_with fail
  go_loopw [2, 3, 4, 5, 6, 7, 8, 9, 10, 11, 12, 13, 14, 15, 16, 17, 18] (fun i _ _ _ _ _ _ _ _ _ _ _ _ _ _ _ _ wr => ∃ k : Nat, k ≤ x.len ∧ i = .int .i64 k ∧ RowX wr (Exs.ofL ((x.toL.take k).map Ex.bare ++ x.toL.drop k)) (.slice a x.len c) F ∧ Keeps F w wr) (fun i _ _ _ _ _ _ _ _ _ _ _ _ _ _ _ _ _ => x.len - (intOf i).toNat)
  case atStart => exact ⟨0, by omega, rfl, by simpa [Exs.ofL_toL] using HV.out, Keeps.refl _ _⟩
  case round =>
    obtain ⟨k, hk, rfl, hA, hb⟩ := hrel
    have HB := Lib.hid hb
    clear hb
    by_cases hlt : k < x.len
    · have hd1 : decide ((k : Int) < (x.len : Int)) = true := by simp; omega
      have hk0 : (0 : Int) ≤ (k : Int) := by omega
      have hk1 : (k : Int) < (x.len : Int) := by omega
      obtain ⟨e, he⟩ : ∃ e, x.toL[k]? = some e := ⟨_, List.getElem?_eq_getElem (by rw [Exs.toL_len]; exact hlt)⟩
      have hes := Exs.size_mem x e (List.mem_of_getElem? he)
      rw [half_at _ _ _ _ he] at hA
      obtain ⟨l1, hl1e⟩ : ∃ l1, l1 = (x.toL.take k).map Ex.bare := ⟨_, rfl⟩
      obtain ⟨l2, hl2e⟩ : ∃ l2, l2 = x.toL.drop (k + 1) := ⟨_, rfl⟩
      have hlk : l1.length = k := by rw [hl1e, List.length_map, List.length_take, Exs.toL_len]; omega
      have hlen : (Exs.ofL (l1 ++ e :: l2)).len = x.len := by rw [Exs.ofL_len, List.length_append, List.length_cons, hlk, hl2e, List.length_drop, Exs.toL_len]; omega
      have hnx : (x.toL.take (k + 1)).map Ex.bare ++ x.toL.drop (k + 1) = l1 ++ e.bare :: l2 := by rw [hl1e, hl2e]; exact half_next _ _ _ _ he
      rw [← hl1e, ← hl2e] at hA
      have HNX := Lib.hid hnx
      clear hnx hl1e hl2e
      have hlt2 := hA.lt
      obtain ⟨ks, F0, ho, hi, hF⟩ := hA
      obtain ⟨g, cap, hg, hgl, hgc⟩ := own_get ho (by rw [hlen]; omega)
      injection hg with q1 q2 q3
      subst q1 q3
      clear q2
      obtain ⟨xs1, xs2, F1, Fk, F2, kv, rfl, rfl, hx1, i1, i2, i3⟩ := ExsIn.split e _ _ _ _ hi
      rw [show ownF (Value.slice (some ⟨g, 0, none⟩) x.len c) = [g] from rfl] at hF
      obtain rfl : F = g :: (F1 ++ (Fk ++ F2)) := hF
      have hn := List.nodup_cons.1 HN.out
      rw [hlen] at ho
      have hcell : ∀ j u, (exC e kv)[j]? = some u → wr.cell? ⟨g, k * 8 + j, none⟩ = some u := fun j u hu => hgc _ _ (by rw [← hlk, ← hx1]; exact at_mid _ _ _ _ _ _ rfl hu)
      have c6 := hcell 6 _ rfl
      have c7 := hcell 7 _ rfl
      have hfz := fun j => ho.frozenAt j
      have hc6 : (wr.setCell ⟨g, k * 8 + 7, none⟩ (.int .i64 0)).cell? ⟨g, k * 8 + 6, none⟩ = some kv := (World.cell?_setCell_other wr _ _ _ (by simp)).trans c6
      have hk2 : RowX (wr.setCell ⟨g, k * 8 + 7, none⟩ (.int .i64 0)) e.kids kv Fk := i2.at_ (fun b hm => setCell_other _ _ _ _ _ (by rintro rfl; exact hn.1 (by simp [hm])))
      have hndk : Fk.Nodup := (List.nodup_append.1 (List.nodup_append.1 hn.2).2.1).1
      have CE := Lib.hid (IH e.kids (by omega) _ kv Fk hk2 hndk)
      have HO := Lib.hid (And.intro ho (And.intro i1 i3))
      have HL := Lib.hid hlt2
      have HE := Lib.hid (And.intro hlk (And.intro hlen hx1))
      clear ho hi i1 i2 i3 hgc hcell hk2 hndk hlt2 hn hlk hlen hx1
      go_wp2_with fail
      refine CE.out.mono ?_
      rintro e1 w1 ⟨rfl, hR, hK⟩
      have hz := RowX.bareAt HE.out.1 (by rw [HE.out.2.1]; exact HO.out.1) HE.out.2.2 HO.out.2.1 HO.out.2.2 HN.out HL.out hR hK
      have HZ := Lib.hid hz
      clear hz hR hK
      go_wp2_with fail
      go_roundw
      case measure => simp [intOf]; omega
      case rel =>
        refine ⟨k + 1, by omega, by simp, ?_, HB.out.sub HZ.out.2 (fun _ h => h)⟩
        rw [HNX.out]
        have h9 := HZ.out.1
        rw [HE.out.2.1] at h9
        exact h9
    · obtain rfl : k = x.len := by omega
      have hd1 : decide ((x.len : Int) < (x.len : Int)) = false := by simp
      rw [half_all _ _ _ (Exs.toL_len x).symm, Exs.bare_toL] at hA
      go_wp2_with fail
      refine bodyPost_ret (v := .tuple #[]) (by simp [results, Tryd.results28, go_sem, *]) rfl ?_
      exact ⟨rfl, hA, HB.out⟩
theorem brX : ∀ n, BrX n := by
  intro n
  induction n with
  | zero => intro x h; omega
  | succ n ih => exact fun x h w v F hv hn => bareExprs_step n ih x h w v F hv hn
theorem bareExprs_any (x : Exs) (w : World) (v : Value) (F : List Nat) (hv : RowX w x v F) (hnd : F.Nodup) : Calls Tryd.prog 28 #[v] w (Bared (fun w' => RowX w' x.bare v F) F w) := brX (x.size + 1) x (by omega) w v F hv hnd
end Go.Proofs.YtjmemapkipkocaaDoor

/-
  Positions taken out of statements, in place.
-/
namespace Go.Proofs.YtjmemapkipkocaaDoor
open Go.RowKit Go.Maps
set_option linter.unusedVariables false
set_option linter.unusedSimpArgs false
set_option maxRecDepth 100000
set_option maxHeartbeats 1000000

theorem RowS.bareAt {w w2 w3 : World} {l1 l2 : List Sm} {e : Sm} {g c k : Nat} {xs1 xs2 : List Value} {F1 Fe Fk F2 : List Nat} {ev kv : Value} (hl : l1.length = k)
    (ho : w.ownsRow 0 82 9 (.slice (some ⟨g, 0, none⟩) (Sts.ofL (l1 ++ e :: l2)).len c) (Sts.ofL (l1 ++ e :: l2)).len (xs1 ++ (stC e ev kv ++ xs2))) (hx1 : xs1.length = l1.length * 9)
    (i1 : StsIn w (Sts.ofL l1) xs1 F1) (i3 : StsIn w (Sts.ofL l2) xs2 F2) (hnd : (g :: (F1 ++ ((Fe ++ Fk) ++ F2))).Nodup) (hF : ∀ b ∈ g :: (F1 ++ ((Fe ++ Fk) ++ F2)), b < w.heap.size)
    (hk2 : RowX w2 e.ex.bare ev Fe) (k2 : Keeps Fe (w.setCell ⟨g, k * 9 + 8, none⟩ (.int .i64 0)) w2) (hk3 : RowS w3 e.body.bare kv Fk) (k3 : Keeps Fk w2 w3) :
    RowS w3 (Sts.ofL (l1 ++ e.bare :: l2)) (.slice (some ⟨g, 0, none⟩) (Sts.ofL (l1 ++ e :: l2)).len c) (g :: (F1 ++ ((Fe ++ Fk) ++ F2))) ∧ Keeps (g :: (F1 ++ ((Fe ++ Fk) ++ F2))) w w3 := by
  have hn := List.nodup_cons.1 hnd
  have hn2 := List.nodup_append.1 hn.2
  have hn3 := List.nodup_append.1 hn2.2.1
  have hn4 := List.nodup_append.1 hn3.1
  have k23 : Keeps (Fe ++ Fk) (w.setCell ⟨g, k * 9 + 8, none⟩ (.int .i64 0)) w3 := (k2.mono (H := Fe ++ Fk) (fun b hm => by simp [hm])).trans (k3.mono (fun b hm => by simp [hm]))
  have hs : ∀ b ∈ F1 ++ F2, w3.heap[b]? = w.heap[b]? := by
    intro b hm
    have hbg : b ≠ g := by rintro rfl; exact hn.1 (by simp at hm ⊢; rcases hm with h | h <;> simp [h])
    have hbk : b ∉ Fe ++ Fk := by
      intro hk
      rcases List.mem_append.1 hm with h | h
      · exact hn2.2.2 b h b (List.mem_append_left _ hk) rfl
      · exact hn3.2.2 b hk b h rfl
    rw [k23.block b (by rw [World.size_setCell]; exact hF b (by simp at hm ⊢; rcases hm with h | h <;> simp [h])) hbk, setCell_other _ _ _ _ _ hbg]
  have hg : g ∉ Fe ++ Fk := fun h => hn.1 (by simp at h ⊢; rcases h with h | h <;> simp [h])
  have ho2 := own_stored ho (k * 9 + 8) (.int .i64 0)
  rw [set_mid _ _ _ (k * 9) 8 _ _ (by rw [hx1, hl]) rfl (by simp [stC])] at ho2
  have hlen : (Sts.ofL (l1 ++ e.bare :: l2)).len = (Sts.ofL (l1 ++ e :: l2)).len := by simp [Sts.ofL_len]
  have he3 : RowX w3 e.ex.bare ev Fe := hk2.at_ (fun b hm => k3.block b (hk2.lt b hm) (fun h => hn4.2.2 b hm b h rfl))
  refine ⟨⟨xs1 ++ (stC e.bare ev kv ++ xs2), F1 ++ ((Fe ++ Fk) ++ F2), ?_, StsIn.cat (e := e.bare) he3 hk3 (StsIn.at_ _ _ _ i3 (fun b hm => hs b (by simp [hm]))) _ _ _ (StsIn.at_ _ _ _ i1 (fun b hm => hs b (by simp [hm]))), rfl⟩, ?_⟩
  · rw [hlen]
    refine ownsRow_at ho2 (fun b hm => ?_)
    obtain rfl : b = g := by simpa [ownF, Value.ownBlock] using hm
    exact k23.block b (by rw [World.size_setCell]; exact hF b (by simp)) hg
  · exact ((Keeps.refl _ _).setCell _ (.inr (by simp)) _).sub k23 (fun b hm => by simp at hm ⊢; rcases hm with h | h <;> simp [h])
/-- A declaration's position, written. -/
theorem RowD.bareAt {w : World} {l1 l2 : List Dec} {e : Dec} {g c k : Nat} {v : Value} {F : List Nat} (hl : l1.length = k) (h : RowD w (l1 ++ e :: l2) (.slice (some ⟨g, 0, none⟩) (l1 ++ e :: l2).length c) F) (hnd : F.Nodup) :
    RowD (w.setCell ⟨g, k * 6 + 5, none⟩ (.int .i64 0)) (l1 ++ e.bare :: l2) (.slice (some ⟨g, 0, none⟩) (l1 ++ e :: l2).length c) F ∧ g ∈ F := by
  obtain ⟨ks, F0, ho, hi, rfl⟩ := h
  have hg0 : ownF (Value.slice (some ⟨g, 0, none⟩) (l1 ++ e :: l2).length c) = [g] := rfl
  rw [hg0] at hnd ⊢
  obtain ⟨xs1, xs2, F1, Fk, F2, kv, rfl, rfl, hx1, i1, i2, i3⟩ := DcsIn.split e _ _ _ _ hi
  have hn := List.nodup_cons.1 hnd
  have hs : ∀ b ∈ F1 ++ (Fk ++ F2), (w.setCell ⟨g, k * 6 + 5, none⟩ (.int .i64 0)).heap[b]? = w.heap[b]? := fun b hm => setCell_other _ _ _ _ _ (by rintro rfl; exact hn.1 hm)
  have ho2 := own_stored ho (k * 6 + 5) (.int .i64 0)
  rw [set_mid _ _ _ (k * 6) 5 _ _ (by rw [hx1, hl]) rfl (by simp [dcC])] at ho2
  have hlen : (l1 ++ e.bare :: l2).length = (l1 ++ e :: l2).length := by simp
  have i2' : RowI (w.setCell ⟨g, k * 6 + 5, none⟩ (.int .i64 0)) e.bare.init kv Fk := i2.at_ (fun b hm => hs b (by simp [hm]))
  refine ⟨⟨xs1 ++ (dcC e.bare kv ++ xs2), F1 ++ (Fk ++ F2), ?_, DcsIn.cat (e := e.bare) i2' (DcsIn.at_ _ _ _ i3 (fun b hm => hs b (by simp [hm]))) _ _ _ (DcsIn.at_ _ _ _ i1 (fun b hm => hs b (by simp [hm]))), rfl⟩, by simp⟩
  rw [hlen]
  exact ho2
def BrS (n : Nat) : Prop := ∀ (x : Sts), x.all < n → ∀ (w : World) (v : Value) (F : List Nat), RowS w x v F → F.Nodup → Calls Tryd.prog 17 #[v] w (Bared (fun w' => RowS w' x.bare v F) F w)
theorem bareStmts_step (n : Nat) (IH : BrS n) (x : Sts) (hx : x.all < n + 1) (w : World) (v : Value) (F : List Nat) (hv : RowS w x v F) (hnd : F.Nodup) : Calls Tryd.prog 17 #[v] w (Bared (fun w' => RowS w' x.bare v F) F w) := by
  obtain ⟨a, c, rfl⟩ := hv.form
  have hl1 : x.len ≤ maxLen := by obtain ⟨_, _, h, _⟩ := hv; exact ownLen h
  unfold maxLen at hl1
  have HV := Lib.hid hv
  have HN := Lib.hid hnd
  clear hv hnd
  go_enter Tryd.func17, Tryd.ntmps17
  go_wp2_with fail
  go_loopw [2, 3, 4, 5, 6, 7, 8, 9, 10, 11, 12, 13, 14, 15, 16, 17, 18, 19, 20, 21, 22, 23, 24] (fun i _ _ _ _ _ _ _ _ _ _ _ _ _ _ _ _ _ _ _ _ _ _ wr => ∃ k : Nat, k ≤ x.len ∧ i = .int .i64 k ∧ RowS wr (Sts.ofL ((x.toL.take k).map Sm.bare ++ x.toL.drop k)) (.slice a x.len c) F ∧ Keeps F w wr) (fun i _ _ _ _ _ _ _ _ _ _ _ _ _ _ _ _ _ _ _ _ _ _ _ => x.len - (intOf i).toNat)
  case atStart => exact ⟨0, by omega, rfl, by simpa [Sts.ofL_toL] using HV.out, Keeps.refl _ _⟩
  case round =>
    obtain ⟨k, hk, rfl, hA, hb⟩ := hrel
    have HB := Lib.hid hb
    clear hb
    by_cases hlt : k < x.len
    · have hd1 : decide ((k : Int) < (x.len : Int)) = true := by simp; omega
      have hk0 : (0 : Int) ≤ (k : Int) := by omega
      have hk1 : (k : Int) < (x.len : Int) := by omega
      obtain ⟨e, he⟩ : ∃ e, x.toL[k]? = some e := ⟨_, List.getElem?_eq_getElem (by rw [Sts.toL_len]; exact hlt)⟩
      have hes := (Sts.all_mem x e (List.mem_of_getElem? he)).1
      rw [half_at _ _ _ _ he] at hA
      obtain ⟨l1, hl1e⟩ : ∃ l1, l1 = (x.toL.take k).map Sm.bare := ⟨_, rfl⟩
      obtain ⟨l2, hl2e⟩ : ∃ l2, l2 = x.toL.drop (k + 1) := ⟨_, rfl⟩
      have hlk : l1.length = k := by rw [hl1e, List.length_map, List.length_take, Sts.toL_len]; omega
      have hlen : (Sts.ofL (l1 ++ e :: l2)).len = x.len := by rw [Sts.ofL_len, List.length_append, List.length_cons, hlk, hl2e, List.length_drop, Sts.toL_len]; omega
      have hnx : (x.toL.take (k + 1)).map Sm.bare ++ x.toL.drop (k + 1) = l1 ++ e.bare :: l2 := by rw [hl1e, hl2e]; exact half_next _ _ _ _ he
      rw [← hl1e, ← hl2e] at hA
      have HNX := Lib.hid hnx
      clear hnx hl1e hl2e
      have hlt2 := hA.lt
      obtain ⟨ks, F0, ho, hi, hF⟩ := hA
      obtain ⟨g, cap, hg, hgl, hgc⟩ := own_get ho (by rw [hlen]; omega)
      injection hg with q1 q2 q3
      subst q1 q3
      clear q2
      obtain ⟨xs1, xs2, F1, Fe, Fk, F2, ev, kv, rfl, rfl, hx1, i1, ie, i2, i3⟩ := StsIn.split e _ _ _ _ hi
      rw [show ownF (Value.slice (some ⟨g, 0, none⟩) x.len c) = [g] from rfl] at hF
      obtain rfl : F = g :: (F1 ++ ((Fe ++ Fk) ++ F2)) := hF
      have hn := List.nodup_cons.1 HN.out
      rw [hlen] at ho
      have hcell : ∀ j u, (stC e ev kv)[j]? = some u → wr.cell? ⟨g, k * 9 + j, none⟩ = some u := fun j u hu => hgc _ _ (by rw [← hlk, ← hx1]; exact at_mid _ _ _ _ _ _ rfl hu)
      have c1 := hcell 1 _ rfl
      have c2 := hcell 2 _ rfl
      have c8 := hcell 8 _ rfl
      have hfz := fun j => ho.frozenAt j
      have hc1 : (wr.setCell ⟨g, k * 9 + 8, none⟩ (.int .i64 0)).cell? ⟨g, k * 9 + 1, none⟩ = some ev := (World.cell?_setCell_other wr _ _ _ (by simp)).trans c1
      have hc2 : (wr.setCell ⟨g, k * 9 + 8, none⟩ (.int .i64 0)).cell? ⟨g, k * 9 + 2, none⟩ = some kv := (World.cell?_setCell_other wr _ _ _ (by simp)).trans c2
      have hke : RowX (wr.setCell ⟨g, k * 9 + 8, none⟩ (.int .i64 0)) e.ex ev Fe := ie.at_ (fun b hm => setCell_other _ _ _ _ _ (by rintro rfl; exact hn.1 (by simp [hm])))
      have hn3 := List.nodup_append.1 (List.nodup_append.1 (List.nodup_append.1 hn.2).2.1).1
      have hgs : g < (wr.setCell ⟨g, k * 9 + 8, none⟩ (.int .i64 0)).heap.size := by rw [World.size_setCell]; exact hgl
      have CX := Lib.hid (bareExprs_any e.ex _ ev Fe hke hn3.1)
      have HG := Lib.hid (show g ∉ Fe from fun h => hn.1 (by simp [h]))
      have HK := Lib.hid (show RowS (wr.setCell ⟨g, k * 9 + 8, none⟩ (.int .i64 0)) e.body kv Fk from i2.at_ (fun b hm => setCell_other _ _ _ _ _ (by rintro rfl; exact hn.1 (by simp [hm]))))
      have HD := Lib.hid hn3
      have HO := Lib.hid (And.intro ho (And.intro i1 i3))
      have HL := Lib.hid hlt2
      have HE := Lib.hid (And.intro hlk (And.intro hlen hx1))
      clear ho hi i1 ie i2 i3 hgc hcell hke hlt2 hn hn3 hlk hlen hx1
      go_wp2_with fail
      refine CX.out.mono ?_
      rintro e1 w1 ⟨rfl, hRX, hKX⟩
      have hc3 : w1.cell? ⟨g, k * 9 + 2, none⟩ = some kv := (((hKX.own g hgs HG.out).1) _).trans hc2
      have CS := Lib.hid (IH e.body (by omega) w1 kv Fk (HK.out.at_ (fun b hm => hKX.block b (HK.out.lt b hm) (fun h => HD.out.2.2 b h b hm rfl))) HD.out.2.1)
      have HX := Lib.hid (And.intro hRX hKX)
      clear hRX hKX hc1 hc2 hfz
      go_wp2_with fail
      refine CS.out.mono ?_
      rintro e2 w2 ⟨rfl, hR, hK⟩
      have hz := RowS.bareAt HE.out.1 (by rw [HE.out.2.1]; exact HO.out.1) HE.out.2.2 HO.out.2.1 HO.out.2.2 HN.out HL.out HX.out.1 HX.out.2 hR hK
      have HZ := Lib.hid hz
      clear hz hR hK
      go_wp2_with fail
      go_roundw
      case measure => simp [intOf]; omega
      case rel =>
        refine ⟨k + 1, by omega, by simp, ?_, HB.out.sub HZ.out.2 (fun _ h => h)⟩
        rw [HNX.out]
        have h9 := HZ.out.1
        rw [HE.out.2.1] at h9
        exact h9
    · obtain rfl : k = x.len := by omega
      have hd1 : decide ((x.len : Int) < (x.len : Int)) = false := by simp
      rw [half_all _ _ _ (Sts.toL_len x).symm, Sts.bare_toL] at hA
      go_wp2_with fail
      refine bodyPost_ret (v := .tuple #[]) (by simp [results, Tryd.results17, go_sem, *]) rfl ?_
      exact ⟨rfl, hA, HB.out⟩
theorem brS : ∀ n, BrS n := by
  intro n
  induction n with
  | zero => intro x h; omega
  | succ n ih => exact fun x h w v F hv hn => bareStmts_step n ih x h w v F hv hn
theorem bareStmts_any (x : Sts) (w : World) (v : Value) (F : List Nat) (hv : RowS w x v F) (hnd : F.Nodup) : Calls Tryd.prog 17 #[v] w (Bared (fun w' => RowS w' x.bare v F) F w) := brS (x.all + 1) x (by omega) w v F hv hnd
end Go.Proofs.YtjmemapkipkocaaDoor

/-
  A program without positions.
-/
namespace Go.Proofs.YtjmemapkipkocaaDoor
open Go.RowKit Go.Maps
set_option linter.unusedVariables false
set_option linter.unusedSimpArgs false
set_option maxRecDepth 100000
set_option maxHeartbeats 1000000

theorem RowFs.bareAt {w w2 w3 : World} {l1 l2 : List Fn} {e : Fn} {g c k : Nat} {xs1 xs2 : List Value} {F1 Fe Fk F2 : List Nat} {ev kv : Value} (hl : l1.length = k)
    (ho : w.ownsRow 0 54 8 (.slice (some ⟨g, 0, none⟩) (l1 ++ e :: l2).length c) (l1 ++ e :: l2).length (xs1 ++ (fnC e ev kv ++ xs2))) (hx1 : xs1.length = l1.length * 8)
    (i1 : FnsIn w l1 xs1 F1) (i3 : FnsIn w l2 xs2 F2) (hnd : (g :: (F1 ++ ((Fe ++ Fk) ++ F2))).Nodup) (hF : ∀ b ∈ g :: (F1 ++ ((Fe ++ Fk) ++ F2)), b < w.heap.size)
    (hk2 : RowD w2 (e.params.map Dec.bare) ev Fe) (k2 : Keeps Fe (w.setCell ⟨g, k * 8 + 7, none⟩ (.int .i64 0)) w2) (hk3 : RowS w3 e.body.bare kv Fk) (k3 : Keeps Fk w2 w3) :
    RowFs w3 (l1 ++ e.bare :: l2) (.slice (some ⟨g, 0, none⟩) (l1 ++ e :: l2).length c) (g :: (F1 ++ ((Fe ++ Fk) ++ F2))) ∧ Keeps (g :: (F1 ++ ((Fe ++ Fk) ++ F2))) w w3 := by
  have hn := List.nodup_cons.1 hnd
  have hn2 := List.nodup_append.1 hn.2
  have hn3 := List.nodup_append.1 hn2.2.1
  have hn4 := List.nodup_append.1 hn3.1
  have k23 : Keeps (Fe ++ Fk) (w.setCell ⟨g, k * 8 + 7, none⟩ (.int .i64 0)) w3 := (k2.mono (H := Fe ++ Fk) (fun b hm => by simp [hm])).trans (k3.mono (fun b hm => by simp [hm]))
  have hs : ∀ b ∈ F1 ++ F2, w3.heap[b]? = w.heap[b]? := by
    intro b hm
    have hbg : b ≠ g := by rintro rfl; exact hn.1 (by simp at hm ⊢; rcases hm with h | h <;> simp [h])
    have hbk : b ∉ Fe ++ Fk := by
      intro hk
      rcases List.mem_append.1 hm with h | h
      · exact hn2.2.2 b h b (List.mem_append_left _ hk) rfl
      · exact hn3.2.2 b hk b h rfl
    rw [k23.block b (by rw [World.size_setCell]; exact hF b (by simp at hm ⊢; rcases hm with h | h <;> simp [h])) hbk, setCell_other _ _ _ _ _ hbg]
  have hg : g ∉ Fe ++ Fk := fun h => hn.1 (by simp at h ⊢; rcases h with h | h <;> simp [h])
  have ho2 := own_stored ho (k * 8 + 7) (.int .i64 0)
  rw [set_mid _ _ _ (k * 8) 7 _ _ (by rw [hx1, hl]) rfl (by simp [fnC])] at ho2
  have hlen : (l1 ++ e.bare :: l2).length = (l1 ++ e :: l2).length := by simp
  have he3 : RowD w3 (e.params.map Dec.bare) ev Fe := hk2.at_ (fun b hm => k3.block b (hk2.lt b hm) (fun h => hn4.2.2 b hm b h rfl))
  refine ⟨⟨xs1 ++ (fnC e.bare ev kv ++ xs2), F1 ++ ((Fe ++ Fk) ++ F2), ?_, FnsIn.cat (e := e.bare) ⟨Fe, Fk, he3, hk3, rfl⟩ (FnsIn.at_ _ _ _ i3 (fun b hm => hs b (by simp [hm]))) _ _ _ (FnsIn.at_ _ _ _ i1 (fun b hm => hs b (by simp [hm]))), rfl⟩, ?_⟩
  · rw [hlen]
    refine ownsRow_at ho2 (fun b hm => ?_)
    obtain rfl : b = g := by simpa [ownF, Value.ownBlock] using hm
    exact k23.block b (by rw [World.size_setCell]; exact hF b (by simp)) hg
  · exact ((Keeps.refl _ _).setCell _ (.inr (by simp)) _).sub k23 (fun b hm => by simp at hm ⊢; rcases hm with h | h <;> simp [h])
/-- How far 'Bare' has come. -/
structure BA (w : World) (X : Nat) (gv fv : Value) (Fg Ff : List Nat) (D : List Dec) (U : List Fn) (wr : World) : Prop where
  own : OwnB wr X #[gv, fv] 27
  res : OwnB wr (w.heap.size + 1) #[.slice none 0 0, .slice none 0 0] 27
  gl : RowD wr D gv Fg
  fs : RowFs wr U fv Ff
  low : Below w.heap.size w wr
theorem BA.glob {w wr : World} {X g c k n : Nat} {fv : Value} {Fg Ff : List Nat} {l1 l2 : List Dec} {e : Dec} {U : List Fn} (hr : ∀ b ∈ Fg ++ Ff, w.heap.size + 2 ≤ b ∧ b < X) (hnd : (Fg ++ Ff).Nodup) (hl : l1.length = k) (hn : (l1 ++ e :: l2).length = n)
    (h : BA w X (.slice (some ⟨g, 0, none⟩) n c) fv Fg Ff (l1 ++ e :: l2) U wr) : BA w X (.slice (some ⟨g, 0, none⟩) n c) fv Fg Ff (l1 ++ e.bare :: l2) U (wr.setCell ⟨g, k * 6 + 5, none⟩ (.int .i64 0)) := by
  subst hn
  have hd := List.nodup_append.1 hnd
  obtain ⟨h1, h2⟩ := RowD.bareAt (v := .slice none 0 0) hl h.gl hd.1
  have hg := hr g (by simp [h2])
  have hk : Keeps [g] wr (wr.setCell ⟨g, k * 6 + 5, none⟩ (.int .i64 0)) := (Keeps.refl _ _).setCell _ (.inr (by simp)) _
  exact ⟨h.own.setCell _ _ (by show g ≠ X; omega), h.res.setCell _ _ (by show g ≠ w.heap.size + 1; omega), h1, h.fs.at_ (fun b hm => setCell_other _ _ _ _ _ (by rintro rfl; exact hd.2.2 b h2 b hm rfl)), ((Keeps.of_below (G := []) h.low).then_ hk (fun x hx => .inr (by rw [List.mem_singleton] at hx; omega))).below⟩
theorem BA.func {w wr w3 : World} {X : Nat} {gv fv : Value} {Fg Ff : List Nat} {D : List Dec} {U U' : List Fn} (hr : ∀ b ∈ Fg ++ Ff, w.heap.size + 2 ≤ b ∧ b < X) (hnd : (Fg ++ Ff).Nodup) (h : BA w X gv fv Fg Ff D U wr) (k : Keeps Ff wr w3) (h3 : RowFs w3 U' fv Ff) : BA w X gv fv Fg Ff D U' w3 := by
  have hd := List.nodup_append.1 hnd
  refine ⟨h.own.call k (fun hm => by have := hr X (by simp [hm]); omega), h.res.call k (fun hm => by have := hr (w.heap.size + 1) (by simp [hm]); omega), h.gl.at_ (fun b hm => k.block b (h.gl.lt b hm) (fun hm2 => hd.2.2 b hm b hm2 rfl)), h3, ((Keeps.of_below (G := []) h.low).then_ k (fun x hx => .inr (by have := hr x (by simp [hx]); omega))).below⟩
theorem bare_any (u : Un) (hsm : u.Small) (w : World) (gv fv : Value) (F1 F2 : List Nat) (hg : RowD w u.globals gv F1) (hf : RowFs w u.funcs fv F2) :
    Calls Tryd.prog 9 #[.agg #[gv, fv]] w fun e1 w' => ∃ ga gc fa fc, e1 = .returned (.agg #[.slice ga u.globals.length gc, .slice fa u.funcs.length fc]) ∧ UIn w' w.heap.size w'.heap.size u.bare (.slice ga u.globals.length gc) (.slice fa u.funcs.length fc) ∧ Below w.heap.size w w' := by
  obtain ⟨a, c, rfl⟩ := hg.form
  obtain ⟨b, d, rfl⟩ := hf.form
  have CU := fun W (H : Below w.heap.size w W) => Lib.hid (copyUnit_any u hsm W _ _ F1 F2 (hg.low H) (hf.low H))
  clear hg hf
  go_enter Tryd.func9, Tryd.ntmps9
  go_wp2_with fail
  refine (CU _ (((Below.refl _ _).alloc (Nat.le_refl _) _).alloc (by simp) _)).out.mono ?_
  rintro e1 w1 ⟨ga, gc, fa, fc, rfl, hU, hb⟩
  obtain ⟨hle, Fg, Ff, hG, hF, hnd, hR⟩ := hU
  have O1 : OwnB w1 (w.heap.size + 1) #[.slice none 0 0, .slice none 0 0] 27 := ⟨(hb.block _ (by simp <;> omega)).trans (OwnB.new (by simp)).blk⟩
  obtain ⟨y1, x1, z1⟩ := O1.facts
  have hz := hb.size
  simp only [World.size_alloc] at hz
  have HB := Lib.hid ((((Below.refl w.heap.size w).alloc (Nat.le_refl _) _).alloc (by simp) _).trans (hb.mono (by simp <;> omega)))
  simp only [World.size_alloc] at hR
  have HR := Lib.hid hR
  have HN := Lib.hid hnd
  have HG := Lib.hid hG
  have HF := Lib.hid hF
  clear hb hR hnd hG hF hle
  have HA0 : BA w w1.heap.size (.slice ga u.globals.length gc) (.slice fa u.funcs.length fc) Fg Ff u.globals u.funcs (w1.alloc (.cells #[.slice ga u.globals.length gc, .slice fa u.funcs.length fc] 27 (0, 0))) :=
    ⟨OwnB.new rfl, O1.alloc _, HG.out.at_ (fun b hm => alloc_old _ _ _ (HG.out.lt b hm)), HF.out.at_ (fun b hm => alloc_old _ _ _ (HF.out.lt b hm)), HB.out.alloc (by omega) _⟩
  have HR2 := Lib.hid (show ∀ b ∈ Fg ++ Ff, w.heap.size + 2 ≤ b ∧ b < w1.heap.size from fun b hm => ⟨by have := (HR.out b hm).1; omega, (HR.out b hm).2⟩)
  have H0 := Lib.hid HA0
  have hlg : u.globals.length ≤ maxLen := by obtain ⟨_, _, h, _⟩ := HG.out; exact ownLen h
  have hlf : u.funcs.length ≤ maxLen := by obtain ⟨_, _, h, _⟩ := HF.out; exact ownLen h
  unfold maxLen at hlg hlf
  clear HA0 y1 x1 HG HF HR O1
  go_wp2_with fail
  go_loopw [4, 11, 12, 13, 14, 15, 16, 17, 18, 19, 20, 21, 22] (fun i _ _ _ _ _ _ _ _ _ _ _ _ wr => ∃ k : Nat, k ≤ u.globals.length ∧ i = .int .i64 k ∧ BA w w1.heap.size (.slice ga u.globals.length gc) (.slice fa u.funcs.length fc) Fg Ff ((u.globals.take k).map Dec.bare ++ u.globals.drop k) u.funcs wr) (fun i _ _ _ _ _ _ _ _ _ _ _ _ _ => u.globals.length - (intOf i).toNat)
  case atStart => exact ⟨0, by omega, rfl, by simpa using H0.out⟩
  case round =>
    obtain ⟨k, hk, rfl, hA⟩ := hrel
    have HA := Lib.hid hA
    obtain ⟨ya, xa, za⟩ := hA.own.facts
    clear hA
    by_cases hlt : k < u.globals.length
    · have hd1 : decide ((k : Int) < (u.globals.length : Int)) = true := by simp; omega
      have hk0 : (0 : Int) ≤ (k : Int) := by omega
      have hk1 : (k : Int) < (u.globals.length : Int) := by omega
      obtain ⟨e, he⟩ : ∃ e, u.globals[k]? = some e := ⟨_, List.getElem?_eq_getElem hlt⟩
      have hA := HA.out
      rw [half_at _ _ _ _ he] at hA
      have hlk : ((u.globals.take k).map Dec.bare).length = k := by rw [List.length_map, List.length_take]; omega
      have hn : ((u.globals.take k).map Dec.bare ++ e :: u.globals.drop (k + 1)).length = u.globals.length := by rw [← half_at _ _ _ _ he, half_len _ _ _ (by omega)]
      obtain ⟨ks, F0, ho, hi, hF⟩ := hA.gl
      obtain ⟨g, cap, hg, hgl, hgc⟩ := own_get ho (by rw [hn]; omega)
      injection hg with q1 q2 q3
      subst q1 q3
      obtain ⟨xs1, xs2, G1, Gk, G2, kv, rfl, _, hx1, _⟩ := DcsIn.split e _ _ _ _ hi
      have hcell : ∀ j v, (dcC e kv)[j]? = some v → wr.cell? ⟨g, k * 6 + j, none⟩ = some v := fun j v hv => hgc _ _ (by rw [← hlk, ← hx1]; exact at_mid _ _ _ _ _ _ rfl hv)
      have c5 := hcell 5 _ rfl
      rw [hn] at ho
      have hfz := fun j => ho.frozenAt j
      have HZ := Lib.hid (BA.glob HR2.out HN.out hlk hn hA)
      have HE := Lib.hid he
      clear q2 hA hlk hn ho hi hF hgc hx1 hcell he
      go_wp2_with fail
      go_roundw
      case measure => simp [intOf]; omega
      case rel =>
        refine ⟨k + 1, by omega, by simp, ?_⟩
        rw [half_next _ _ _ _ HE.out]
        exact HZ.out
    · obtain rfl : k = u.globals.length := by omega
      have hd1 : decide ((u.globals.length : Int) < (u.globals.length : Int)) = false := by simp
      have H1 := HA.out
      rw [half_all _ _ _ rfl] at H1
      have H1 := Lib.hid H1
      clear HA H0
      go_wp2_with fail
      clear ya xa za
      go_loopw [5, 6, 7, 8, 23, 24, 25, 26, 27, 28, 29, 30, 31, 32, 33, 34, 35, 36, 37, 38, 39, 40, 41, 42, 43, 44, 45, 46, 47, 48, 49, 50, 51, 52, 53, 54, 55, 56, 57, 58, 59, 60, 61, 62, 63, 64, 65, 66, 67, 68, 69, 70, 71, 72, 73] (fun i _ _ _ _ _ _ _ _ _ _ _ _ _ _ _ _ _ _ _ _ _ _ _ _ _ _ _ _ _ _ _ _ _ _ _ _ _ _ _ _ _ _ _ _ _ _ _ _ _ _ _ _ _ _ wr => ∃ k : Nat, k ≤ u.funcs.length ∧ i = .int .i64 k ∧ BA w w1.heap.size (.slice ga u.globals.length gc) (.slice fa u.funcs.length fc) Fg Ff (u.globals.map Dec.bare) ((u.funcs.take k).map Fn.bare ++ u.funcs.drop k) wr) (fun i _ _ _ _ _ _ _ _ _ _ _ _ _ _ _ _ _ _ _ _ _ _ _ _ _ _ _ _ _ _ _ _ _ _ _ _ _ _ _ _ _ _ _ _ _ _ _ _ _ _ _ _ _ _ _ => u.funcs.length - (intOf i).toNat)
      case atStart => exact ⟨0, by omega, rfl, by simpa using H1.out⟩
      case round =>
        clear hk hlt hd1 H1
        obtain ⟨k, hk, rfl, hA⟩ := hrel
        have HA := Lib.hid hA
        obtain ⟨ya, xa, za⟩ := hA.own.facts
        clear hA
        by_cases hlt : k < u.funcs.length
        · have hd1 : decide ((k : Int) < (u.funcs.length : Int)) = true := by simp; omega
          have hk0 : (0 : Int) ≤ (k : Int) := by omega
          have hk1 : (k : Int) < (u.funcs.length : Int) := by omega
          obtain ⟨e, he⟩ : ∃ e, u.funcs[k]? = some e := ⟨_, List.getElem?_eq_getElem hlt⟩
          have hA := HA.out
          rw [half_at _ _ _ _ he] at hA
          have hlk : ((u.funcs.take k).map Fn.bare).length = k := by rw [List.length_map, List.length_take]; omega
          have hn : ((u.funcs.take k).map Fn.bare ++ e :: u.funcs.drop (k + 1)).length = u.funcs.length := by rw [← half_at _ _ _ _ he, half_len _ _ _ (by omega)]
          have hnx := half_next u.funcs Fn.bare k e he
          obtain ⟨ks, F0, ho, hi, hF⟩ := hA.fs
          obtain ⟨g, cap, hg, hgl, hgc⟩ := own_get ho (by rw [hn]; omega)
          injection hg with q1 q2 q3
          subst q1 q3
          obtain ⟨xs1, xs2, Fa, Fk, Fb, pv, bv, rfl, rfl, hx1, i1, ⟨Fp, Fs, ip, is_, rfl⟩, i3⟩ := FnsIn.split e _ _ _ _ hi
          obtain ⟨pa, pc, rfl⟩ := ip.form
          obtain ⟨ba, bc, rfl⟩ := is_.form
          rw [show ownF (Value.slice (some ⟨g, 0, none⟩) u.funcs.length fc) = [g] from rfl] at hF
          obtain rfl : Ff = g :: (Fa ++ ((Fp ++ Fs) ++ Fb)) := hF
          have hndf := (List.nodup_append.1 HN.out).2.1
          have hn1 := List.nodup_cons.1 hndf
          have hn3 := List.nodup_append.1 (List.nodup_append.1 (List.nodup_append.1 hn1.2).2.1).1
          rw [hn] at ho
          have hcell : ∀ j v, (fnC e (.slice pa e.params.length pc) (.slice ba e.body.len bc))[j]? = some v → wr.cell? ⟨g, k * 8 + j, none⟩ = some v := fun j v hv => hgc _ _ (by rw [← hlk, ← hx1]; exact at_mid _ _ _ _ _ _ rfl hv)
          have c4 := hcell 4 _ rfl
          have c5 := hcell 5 _ rfl
          have c6 := hcell 6 _ rfl
          have c7 := hcell 7 _ rfl
          have hfz := fun j => ho.frozenAt j
          have hlp : e.params.length ≤ maxLen := by obtain ⟨_, _, h, _⟩ := ip; exact ownLen h
          have hls : e.body.len ≤ maxLen := by obtain ⟨_, _, h, _⟩ := is_; exact ownLen h
          unfold maxLen at hlp hls
          obtain ⟨W1, hW1⟩ : ∃ W1, W1 = wr.setCell ⟨g, k * 8 + 7, none⟩ (.int .i64 0) := ⟨_, rfl⟩
          have d4 : W1.cell? ⟨g, k * 8 + 4, none⟩ = some (.slice pa e.params.length pc) := by rw [hW1]; exact (World.cell?_setCell_other wr _ _ _ (by simp)).trans c4
          have d5 : W1.cell? ⟨g, k * 8 + 5, none⟩ = some (.slice ba e.body.len bc) := by rw [hW1]; exact (World.cell?_setCell_other wr _ _ _ (by simp)).trans c5
          have d6 : W1.cell? ⟨g, k * 8 + 6, none⟩ = some (.slice none 0 0) := by rw [hW1]; exact (World.cell?_setCell_other wr _ _ _ (by simp)).trans c6
          have hgs : g < W1.heap.size := by rw [hW1, World.size_setCell]; exact hgl
          have HIP := Lib.hid (show RowD W1 e.params (.slice pa e.params.length pc) Fp from by rw [hW1]; exact ip.at_ (fun b hm => setCell_other _ _ _ _ _ (by rintro rfl; exact hn1.1 (by simp [hm]))))
          have HIS := Lib.hid (show RowS W1 e.body (.slice ba e.body.len bc) Fs from by rw [hW1]; exact is_.at_ (fun b hm => setCell_other _ _ _ _ _ (by rintro rfl; exact hn1.1 (by simp [hm]))))
          have HGP := Lib.hid (show g ∉ Fp from fun h => hn1.1 (by simp [h]))
          have HD := Lib.hid hn3
          have HO := Lib.hid (And.intro ho (And.intro i1 i3))
          have HE := Lib.hid (And.intro hlk (And.intro hn (And.intro hx1 hnx)))
          have HL := Lib.hid hA.fs.lt
          have HA2 := Lib.hid hA
          have HND := Lib.hid hndf
          clear q2 hA hlk hn hnx ho hi hgc hx1 hcell he i1 i3 ip is_ hn1 hn3 hndf HA
          go_wp2_with fail
          rw [← hW1]
          go_loopw [7, 37, 38, 39, 40, 41, 42, 43, 44, 45, 46, 47, 48, 49, 50, 51, 52] (fun i _ _ _ _ _ _ _ _ _ _ _ _ _ _ _ _ wr => ∃ j : Nat, j ≤ e.params.length ∧ i = .int .i64 j ∧ RowD wr ((e.params.take j).map Dec.bare ++ e.params.drop j) (.slice pa e.params.length pc) Fp ∧ Keeps Fp W1 wr) (fun i _ _ _ _ _ _ _ _ _ _ _ _ _ _ _ _ _ => e.params.length - (intOf i).toNat)
          case atStart => exact ⟨0, by omega, rfl, by simpa using HIP.out, Keeps.refl _ _⟩
          case round =>
            clear c4 c5 c6 c7 hfz ya xa za
            obtain ⟨j, hj, rfl, hP, hKP⟩ := hrel
            have c4 := ((hKP.own g hgs HGP.out).1 (k * 8 + 4)).trans d4
            have c5 := ((hKP.own g hgs HGP.out).1 (k * 8 + 5)).trans d5
            have c6 := ((hKP.own g hgs HGP.out).1 (k * 8 + 6)).trans d6
            have HKP := Lib.hid hKP
            clear hKP
            by_cases hjt : j < e.params.length
            · have hd2 : decide ((j : Int) < (e.params.length : Int)) = true := by simp; omega
              have hj0 : (0 : Int) ≤ (j : Int) := by omega
              have hj1 : (j : Int) < (e.params.length : Int) := by omega
              obtain ⟨d1, hde⟩ : ∃ d1, e.params[j]? = some d1 := ⟨_, List.getElem?_eq_getElem hjt⟩
              rw [half_at _ _ _ _ hde] at hP
              have hlk : ((e.params.take j).map Dec.bare).length = j := by rw [List.length_map, List.length_take]; omega
              have hn : ((e.params.take j).map Dec.bare ++ d1 :: e.params.drop (j + 1)).length = e.params.length := by rw [← half_at _ _ _ _ hde, half_len _ _ _ (by omega)]
              obtain ⟨ks, F0, ho, hi, hF⟩ := hP
              obtain ⟨gp, cap, hg, hgl2, hgc⟩ := own_get ho (by rw [hn]; omega)
              injection hg with q1 q2 q3
              subst q1 q3
              obtain ⟨ys1, ys2, G1, Gk, G2, kv, rfl, _, hx1, _⟩ := DcsIn.split d1 _ _ _ _ hi
              have hcell : ∀ i v, (dcC d1 kv)[i]? = some v → wr.cell? ⟨gp, j * 6 + i, none⟩ = some v := fun i v hv => hgc _ _ (by rw [← hlk, ← hx1]; exact at_mid _ _ _ _ _ _ rfl hv)
              have p5 := hcell 5 _ rfl
              have hzz := RowD.bareAt (v := .slice none 0 0) hlk (by rw [hn]; exact ⟨_, F0, by rw [← hn] at ho ⊢; exact ho, hi, hF⟩) HD.out.1
              rw [hn] at ho hzz
              have hfz := fun j => ho.frozenAt j
              have HZ := Lib.hid hzz
              have HNX := Lib.hid (half_next e.params Dec.bare j d1 hde)
              clear q2 hlk hn ho hi hF hgc hx1 hcell hde hzz
              go_wp2_with fail
              go_roundw
              case measure => simp [intOf]; omega
              case rel =>
                refine ⟨j + 1, by omega, by simp, ?_, HKP.out.sub ((Keeps.refl [gp] _).setCell _ (.inr (by simp)) _) (fun b hm => by rw [List.mem_singleton] at hm; rw [hm]; exact HZ.out.2)⟩
                rw [HNX.out]
                exact HZ.out.1
            · obtain rfl : j = e.params.length := by omega
              have hd2 : decide ((e.params.length : Int) < (e.params.length : Int)) = false := by simp
              rw [half_all _ _ _ rfl] at hP
              have HP := Lib.hid hP
              clear hP
              obtain ⟨wo, rfl⟩ : ∃ wo : World, wo = wr := ⟨_, rfl⟩
              go_wp2_with fail
              go_loop [8, 53, 54, 55, 56, 57, 58, 59, 60, 61, 62, 63, 64, 65, 66, 67, 68] (fun i _ _ _ _ _ _ _ _ _ _ _ _ _ _ _ _ => i = .int .i64 0) (fun i _ _ _ _ _ _ _ _ _ _ _ _ _ _ _ _ => 0)
              case atStart => exact rfl
              case round =>
                obtain rfl := hrel
                have hd3 : decide ((0 : Int) < (0 : Int)) = false := by decide
                have CS := Lib.hid (bareStmts_any e.body wo (.slice ba e.body.len bc) Fs (HIS.out.at_ (fun b hm => HKP.out.block b (HIS.out.lt b hm) (fun h => HD.out.2.2 b h b hm rfl))) HD.out.2.1)
                go_wp2_with fail
                refine CS.out.mono ?_
                rintro e2 w2 ⟨rfl, hRS, hKS⟩
                rw [hW1] at HKP
                have hzf := RowFs.bareAt HE.out.1 (by rw [HE.out.2.1]; exact HO.out.1) HE.out.2.2.1 HO.out.2.1 HO.out.2.2 HND.out HL.out HP.out HKP.out hRS hKS
                rw [HE.out.2.1, ← HE.out.2.2.2] at hzf
                have HB2 := Lib.hid (BA.func HR2.out HN.out HA2.out hzf.2 hzf.1)
                clear hzf hRS hKS
                go_wp2_with fail
                go_roundw
                case measure => simp [intOf]; omega
                case rel => exact ⟨k + 1, by omega, by simp, HB2.out⟩
        · obtain rfl : k = u.funcs.length := by omega
          have hd1 : decide ((u.funcs.length : Int) < (u.funcs.length : Int)) = false := by simp
          have H1 := HA.out
          rw [half_all _ _ _ rfl] at H1
          obtain ⟨yb, xb, zb⟩ := H1.res.facts
          have H1 := Lib.hid H1
          clear HA
          go_wp2_with fail
          refine bodyPost_ret (v := .agg #[.slice ga u.globals.length gc, .slice fa u.funcs.length fc]) (by simp [results, Tryd.results9, go_sem, *]) rfl ?_
          refine ⟨_, _, _, _, rfl, ?_, ?_⟩
          · have hK : ∀ V, Keeps [w.heap.size + 1] wr V → UIn V w.heap.size V.heap.size u.bare (.slice ga u.globals.length gc) (.slice fa u.funcs.length fc) := by
              intro V kv
              have hlt : ∀ b ∈ Fg ++ Ff, b < wr.heap.size := fun b hm => by
                rcases List.mem_append.1 hm with hm | hm
                · exact H1.out.gl.lt b hm
                · exact H1.out.fs.lt b hm
              have hk : ∀ b ∈ Fg ++ Ff, V.heap[b]? = wr.heap[b]? := fun b hm => kv.block b (hlt b hm) (by have := (HR2.out b hm).1; simp only [List.mem_singleton]; omega)
              exact ⟨Nat.le_refl _, Fg, Ff, H1.out.gl.at_ (fun b hm => hk b (by simp [hm])), H1.out.fs.at_ (fun b hm => hk b (by simp [hm])), HN.out, fun b hm => ⟨by have := (HR2.out b hm).1; omega, by have := hlt b hm; have := kv.size; omega⟩⟩
            exact hK _ Keeps.au
          · exact ((Keeps.of_below (G := []) H1.out.low).then_ (H := [w.heap.size + 1]) Keeps.au (by simp <;> omega)).below
end Go.Proofs.YtjmemapkipkocaaDoor

/-
  Two lists of tokens that differ in positions alone: what is parsed differs in positions alone. First: what calls nothing.
-/
namespace Go.Proofs.YtjmemapkipkocaaDoor
open Go.RowKit
set_option linter.unusedVariables false
set_option linter.unusedSimpArgs false

/-- The same tokens, the positions in a relation. -/
structure Tw (l l' : List Tok) (Q : Int → Int → Prop) : Prop where
  len : l'.length = l.length
  pos : 0 < l.length
  last : (l.getD (l.length - 1) P.eTok).kind = 0
  tok : ∀ k, k < l.length → (l'.getD k P.eTok).kind = (l.getD k P.eTok).kind ∧ (l'.getD k P.eTok).text = (l.getD k P.eTok).text ∧ (l'.getD k P.eTok).n = (l.getD k P.eTok).n ∧ Q (l.getD k P.eTok).pos (l'.getD k P.eTok).pos
/-- The same state, the fault's positions in the relation. -/
structure SR (l : List Tok) (Q : Int → Int → Prop) (s s' : St) : Prop where
  here : s'.here = s.here
  lt : s.here < l.length
  err : s'.err = s.err
  pos : s.err ≠ 0 → Q s.pos s'.pos
section
variable {l l' : List Tok} {Q : Int → Int → Prop} {s s' : St}
theorem SR.tok (h : SR l Q s s') (T : Tw l l' Q) : (P.tok l' s').kind = (P.tok l s).kind ∧ (P.tok l' s').text = (P.tok l s).text ∧ (P.tok l' s').n = (P.tok l s).n ∧ Q (P.tok l s).pos (P.tok l' s').pos := by
  unfold P.tok
  rw [h.here]
  exact T.tok _ h.lt
theorem SR.snd (h : SR l Q s s') (T : Tw l l' Q) : (P.snd l' s').text = (P.snd l s).text := by
  unfold P.snd
  rw [h.here, T.len]
  exact (T.tok _ (by have := T.pos; omega)).2.1
theorem SR.is (h : SR l Q s s') (T : Tw l l' Q) (t : List UInt8) : P.is l' t s' = P.is l t s := by unfold P.is; rw [(h.tok T).2.1]
theorem SR.signM (h : SR l Q s s') (T : Tw l l' Q) (lv : Int) : P.signM l' lv s' = P.signM l lv s := by unfold P.signM; rw [(h.tok T).2.1]
theorem SR.next (h : SR l Q s s') (T : Tw l l' Q) : SR l Q (P.next l s) (P.next l' s') := by
  unfold P.next
  rw [(h.tok T).1]
  split
  · exact h
  · rename_i hk
    refine ⟨by simp [h.here], ?_, h.err, h.pos⟩
    have h1 : s.here ≠ l.length - 1 := by
      intro e
      apply hk
      unfold P.tok
      rw [e]
      exact T.last
    have := h.lt
    show s.here + 1 < l.length
    omega
theorem SR.fail (h : SR l Q s s') (T : Tw l l' Q) (e p p' : Int) (he : e ≠ 0) (hp : s.err = 0 → Q p p') : SR l Q (P.fail l e p s) (P.fail l' e p' s') := by
  unfold P.fail
  rw [h.err, T.len]
  refine ⟨rfl, by have := T.pos; show l.length - 1 < l.length; omega, rfl, fun _ => ?_⟩
  by_cases h0 : s.err = 0
  · simp only [h0, if_true]; exact hp h0
  · simp only [h0, if_false]; exact h.pos h0
theorem SR.refuse (h : SR l Q s s') (T : Tw l l' Q) : SR l Q (P.refuse l s) (P.refuse l' s') := h.fail T _ _ _ (by decide) (fun _ => (h.tok T).2.2.2)
theorem SR.begin (h : SR l Q s s') (T : Tw l l' Q) (d : Int) : SR l Q (P.begin l d s) (P.begin l' d s') := by
  unfold P.begin
  split
  · exact h.fail T _ _ _ (by decide) (fun _ => (h.tok T).2.2.2)
  · exact h
theorem SR.acc (h : SR l Q s s') (T : Tw l l' Q) (t : List UInt8) : SR l Q (P.acc l t s) (P.acc l' t s') := by
  unfold P.acc
  rw [h.is T]
  split
  · exact h.next T
  · exact h
theorem SR.need (h : SR l Q s s') (T : Tw l l' Q) (t : List UInt8) : SR l Q (P.need l t s) (P.need l' t s') := by
  unfold P.need
  rw [h.is T]
  split
  · exact h.next T
  · exact h.refuse T
theorem SR.kind (h : SR l Q s s') (T : Tw l l' Q) (k : Int) : SR l Q (P.kind l k s) (P.kind l' k s') := by
  unfold P.kind
  rw [(h.tok T).1]
  split
  · exact h.next T
  · exact h.refuse T
theorem refuse_err (l : List Tok) (s : St) : (P.refuse l s).err ≠ 0 := by
  unfold P.refuse P.fail
  dsimp only
  split
  · decide
  · assumption
theorem SR.kindT (h : SR l Q s s') (T : Tw l l' Q) (k : Int) : (P.kindT l' k s').text = (P.kindT l k s).text ∧ (P.kindT l' k s').n = (P.kindT l k s).n ∧ ((P.kind l k s).err = 0 → Q (P.kindT l k s).pos (P.kindT l' k s').pos) := by
  unfold P.kindT P.kind
  rw [(h.tok T).1]
  split
  · exact ⟨(h.tok T).2.1, (h.tok T).2.2.1, fun _ => (h.tok T).2.2.2⟩
  · exact ⟨rfl, rfl, fun e => absurd e (refuse_err _ _)⟩
theorem SR.value (h : SR l Q s s') (T : Tw l l' Q) : (P.value l' s').1 = (P.value l s).1 ∧ SR l Q (P.value l s).2 (P.value l' s').2 := by
  unfold P.value
  rw [h.is T]
  split
  · exact ⟨by rw [((h.next T).kindT T 2).2.1], (h.next T).kind T 2⟩
  · exact ⟨by rw [(h.kindT T 2).2.1], h.kind T 2⟩
theorem SR.base2 (h : SR l Q s s') (T : Tw l l' Q) (u : Int) : (P.base2 l' u s').1 = (P.base2 l u s).1 ∧ SR l Q (P.base2 l u s).2 (P.base2 l' u s').2 := by
  unfold P.base2
  simp only [h.is T]
  repeat' split
  all_goals first | exact ⟨rfl, h.next T⟩ | exact ⟨rfl, h.refuse T⟩
theorem SR.base (h : SR l Q s s') (T : Tw l l' Q) : (P.base l' s').1 = (P.base l s).1 ∧ SR l Q (P.base l s).2 (P.base l' s').2 := by
  unfold P.base
  simp only [h.is T]
  split
  · exact ⟨rfl, h.next T⟩
  · exact (h.acc T _).base2 T _
theorem SR.stars (T : Tw l l' Q) : ∀ (f : Nat) (p : Int) (s s' : St), SR l Q s s' → (P.stars l' f p s').1 = (P.stars l f p s).1 ∧ SR l Q (P.stars l f p s).2 (P.stars l' f p s').2 := by
  intro f
  induction f with
  | zero => intro p s s' h; exact ⟨rfl, h⟩
  | succ f ih =>
    intro p s s' h
    unfold P.stars
    rw [h.is T]
    split
    · split
      · exact ⟨rfl, h.fail T _ _ _ (by decide) (fun _ => (h.tok T).2.2.2)⟩
      · exact ih _ _ _ (h.next T)
    · exact ⟨rfl, h⟩
theorem SR.typ (h : SR l Q s s') (T : Tw l l' Q) : (P.typ l' s').1 = (P.typ l s).1 ∧ SR l Q (P.typ l s).2 (P.typ l' s').2 := by
  unfold P.typ
  have h1 := h.base T
  have h2 := SR.stars T 4 0 _ _ h1.2
  exact ⟨by rw [h1.1, h2.1], h2.2⟩
theorem SR.within (h : SR l Q s s') (T : Tw l l' Q) : (P.within l' s').1 = (P.within l s).1 ∧ SR l Q (P.within l s).2 (P.within l' s').2 := by
  unfold P.within
  have h1 := (h.need T [40]).typ T
  exact ⟨h1.1, h1.2.need T _⟩
theorem SR.length2 (h : SR l Q s s') (T : Tw l l' Q) : (P.length2 l' s').1 = (P.length2 l s).1 ∧ SR l Q (P.length2 l s).2 (P.length2 l' s').2 := by
  unfold P.length2
  have h1 := h.kindT T 2
  have h2 := h.kind T 2
  rw [h1.2.1]
  refine ⟨rfl, ?_⟩
  dsimp only
  split
  · exact (h2.fail T _ _ _ (by decide) h1.2.2).need T _
  · exact h2.need T _
theorem SR.length (h : SR l Q s s') (T : Tw l l' Q) : (P.length l' s').1 = (P.length l s).1 ∧ SR l Q (P.length l s).2 (P.length l' s').2 := by
  unfold P.length
  rw [h.is T]
  split
  · exact (h.next T).length2 T
  · exact ⟨rfl, h⟩
end
end Go.Proofs.YtjmemapkipkocaaDoor

/-
  Two lists of tokens that differ in positions alone: what calls itself.
-/
namespace Go.Proofs.YtjmemapkipkocaaDoor
open Go.RowKit
set_option linter.unusedVariables false
set_option linter.unusedSimpArgs false

/-- Two outcomes: none both, or related. -/
def OR {α β : Type} (R : α → α → Prop) (S : β → β → Prop) : Option (α × β) → Option (α × β) → Prop
  | none, none => True
  | some a, some b => R a.1 b.1 ∧ S a.2 b.2
  | _, _ => False
theorem OR.bind {α β γ δ : Type} {R : α → α → Prop} {S : β → β → Prop} {R2 : γ → γ → Prop} {S2 : δ → δ → Prop} {o o' : Option (α × β)} {k k' : α × β → Option (γ × δ)} (h : OR R S o o') (hk : ∀ a b a' b', R a a' → S b b' → OR R2 S2 (k (a, b)) (k' (a', b'))) : OR R2 S2 (o.bind k) (o'.bind k') := by
  cases o with
  | none => cases o' with
    | none => trivial
    | some b => cases h
  | some a => cases o' with
    | none => cases h
    | some b => exact hk _ _ _ _ h.1 h.2
abbrev ER (a b : Ex) : Prop := a.bare = b.bare
abbrev EsR (a b : Exs) : Prop := a.bare = b.bare
abbrev MR (a b : Sm) : Prop := a.bare = b.bare
abbrev MsR (a b : Sts) : Prop := a.bare = b.bare
theorem Exs.bare_snoc (e : Ex) : ∀ x : Exs, (x.snoc e).bare = x.bare.snoc e.bare := by
  intro x
  induction x with
  | nil => rfl
  | cons _ _ _ _ _ _ _ _ ih => simp only [Exs.snoc, Exs.bare, ih]
theorem Sts.bare_snoc (e : Sm) : ∀ x : Sts, (x.snoc e).bare = x.bare.snoc e.bare := by
  intro x
  induction x with
  | nil => rfl
  | cons _ _ _ _ _ _ _ _ _ ih => simp only [Sts.snoc, Sts.bare, ih]
theorem Exs.bare_add (e : Ex) (x : Exs) : (Exs.add e x).bare = Exs.add e.bare x.bare := rfl
theorem Sts.bare_add (e : Sm) (x : Sts) : (Sts.add e x).bare = Sts.add e.bare x.bare := rfl
theorem EsR.len {a b : Exs} (h : EsR a b) : b.len = a.len := by rw [← Exs.bare_len, ← h, Exs.bare_len]
theorem EsR.one {a b : Ex} (h : ER a b) : EsR (one a) (one b) := by simp only [EsR, Go.Proofs.YtjmemapkipkocaaDoor.one, Exs.bare_add, h]
theorem EsR.two {a b c d : Ex} (h : ER a b) (h2 : ER c d) : EsR (two a c) (two b d) := by simp only [EsR, Go.Proofs.YtjmemapkipkocaaDoor.two, Exs.bare_add, h, h2]
theorem EsR.three {a b c d e f : Ex} (h : ER a b) (h2 : ER c d) (h3 : ER e f) : EsR (three a c e) (three b d f) := by simp only [EsR, Go.Proofs.YtjmemapkipkocaaDoor.three, Exs.bare_add, h, h2, h3]
theorem EsR.snoc {a b : Exs} {c d : Ex} (h : EsR a b) (h2 : ER c d) : EsR (a.snoc c) (b.snoc d) := by simp only [EsR, Exs.bare_snoc, h, h2]
theorem MsR.snoc {a b : Sts} {c d : Sm} (h : MsR a b) (h2 : MR c d) : MsR (a.snoc c) (b.snoc d) := by simp only [MsR, Sts.bare_snoc, h, h2]
theorem MsR.one {a b : Sm} (h : MR a b) : MsR (oneS a) (oneS b) := by simp only [MsR, oneS, Sts.bare_add, h]
theorem ER.mk {op n p p' : Int} {t : Ty} {nm : List UInt8} {x y : Exs} (h : EsR x y) : ER ⟨op, t, nm, n, x, p⟩ ⟨op, t, nm, n, y, p'⟩ := by simp only [ER, Ex.bare, show x.bare = y.bare from h]
theorem MR.mk {op n p p' : Int} {t : Ty} {nm : List UInt8} {x y : Exs} {u v : Sts} (h : EsR x y) (h2 : MsR u v) : MR ⟨op, x, u, t, nm, n, p⟩ ⟨op, y, v, t, nm, n, p'⟩ := by simp only [MR, Sm.bare, show x.bare = y.bare from h, show u.bare = v.bare from h2]
/-- A statement that has only a position yet. -/
def M0 (m : Sm) : Prop := ∃ p, m = ⟨0, .nil, .nil, ty0, [], 0, p⟩
section
variable (l l' : List Tok) (Q : Int → Int → Prop)
structure RR (r r' : P.Rec) : Prop where
  expr : ∀ d s s', SR l Q s s' → OR ER (SR l Q) (r.expr d s) (r'.expr d s')
  cond : ∀ d s s', SR l Q s s' → OR ER (SR l Q) (r.cond d s) (r'.cond d s')
  bin : ∀ lv d s s', SR l Q s s' → OR ER (SR l Q) (r.bin lv d s) (r'.bin lv d s')
  binL : ∀ lv d e e' s s', ER e e' → SR l Q s s' → OR ER (SR l Q) (r.binL lv d e s) (r'.binL lv d e' s')
  unary : ∀ d s s', SR l Q s s' → OR ER (SR l Q) (r.unary d s) (r'.unary d s')
  postL : ∀ d e e' s s', ER e e' → SR l Q s s' → OR ER (SR l Q) (r.postL d e s) (r'.postL d e' s')
  argL : ∀ d e e' s s', EsR e e' → SR l Q s s' → OR EsR (SR l Q) (r.argL d e s) (r'.argL d e' s')
  stmt : ∀ d s s', SR l Q s s' → OR MR (SR l Q) (r.stmt d s) (r'.stmt d s')
  blkL : ∀ d e e' s s', MsR e e' → SR l Q s s' → OR MsR (SR l Q) (r.blkL d e s) (r'.blkL d e' s')
end
theorem RR.bin1 {l l' : List Tok} {Q : Int → Int → Prop} {r r' : P.Rec} (T : Tw l l' Q) (I : RR l Q r r') (lv d : Int) (s s' : St) (h : SR l Q s s') : OR ER (SR l Q) (P.bin r lv d s) (P.bin r' lv d s') := by
  unfold P.bin
  split
  · exact I.unary _ _ _ h
  · exact (I.bin _ _ _ _ h).bind fun a b a' b' ha hb => I.binL _ _ _ _ _ _ ha hb
theorem RR.body {l l' : List Tok} {Q : Int → Int → Prop} {r r' : P.Rec} (T : Tw l l' Q) (I : RR l Q r r') (d : Int) (s s' : St) (h : SR l Q s s') : OR MsR (SR l Q) (P.body r d s) (P.body r' d s') := by
  unfold P.body
  exact (I.stmt _ _ _ h).bind fun a b a' b' ha hb => ⟨MsR.one ha, hb⟩
section
variable {l l' : List Tok} {Q : Int → Int → Prop} {r r' : P.Rec} (T : Tw l l' Q) (I : RR l Q r r')
include T I
theorem RR.expr1 (d : Int) (s s' : St) (h : SR l Q s s') : OR ER (SR l Q) (P.expr l r d s) (P.expr l' r' d s') := by
  unfold P.expr
  refine (I.cond d _ _ h).bind fun a b a' b' ha hb => ?_
  simp only [hb.signM T]
  split
  · exact ⟨ha, hb⟩
  · exact (I.expr _ _ _ (hb.next T)).bind fun c b2 c' b2' hc hb2 => ⟨ER.mk (EsR.two ha hc), hb2⟩
theorem RR.cond1 (d : Int) (s s' : St) (h : SR l Q s s') : OR ER (SR l Q) (P.cond l r d s) (P.cond l' r' d s') := by
  unfold P.cond
  refine (I.bin 2 d _ _ h).bind fun a b a' b' ha hb => ?_
  simp only [hb.signM T]
  split
  · exact ⟨ha, hb⟩
  · exact (I.expr _ _ _ (hb.next T)).bind fun c b2 c' b2' hc hb2 => (I.cond _ _ _ (hb2.need T _)).bind fun e b3 e' b3' he hb3 => ⟨ER.mk (EsR.three ha hc he), hb3⟩
theorem RR.binL1 (lv d : Int) (e e' : Ex) (s s' : St) (he : ER e e') (h : SR l Q s s') : OR ER (SR l Q) (P.binL l r lv d e s) (P.binL l' r' lv d e' s') := by
  unfold P.binL
  simp only [h.signM T]
  split
  · exact ⟨he, h⟩
  · exact (I.bin _ _ _ _ (h.next T)).bind fun a b a' b' ha hb => I.binL _ _ _ _ _ _ (ER.mk (EsR.two he ha)) hb
theorem RR.paren (d : Int) (s s' : St) (h : SR l Q s s') : OR ER (SR l Q) (P.paren l r d s) (P.paren l' r' d s') := by
  unfold P.paren
  exact (I.expr _ _ _ (h.need T _)).bind fun a b a' b' ha hb => ⟨ha, hb.need T _⟩
theorem RR.args (d : Int) (s s' : St) (h : SR l Q s s') : OR EsR (SR l Q) (P.args l r d s) (P.args l' r' d s') := by
  unfold P.args
  have h1 := h.need T [40]
  simp only [h1.is T]
  split
  · exact ⟨rfl, h1.next T⟩
  · exact (I.argL _ _ _ _ _ rfl h1).bind fun a b a' b' ha hb => ⟨ha, hb.need T _⟩
theorem RR.argL1 (d : Int) (e e' : Exs) (s s' : St) (he : EsR e e') (h : SR l Q s s') : OR EsR (SR l Q) (P.argL l r d e s) (P.argL l' r' d e' s') := by
  unfold P.argL
  rw [he.len]
  have h1 : SR l Q (if e.len = 4 then P.fail l 2 (P.tok l s).pos s else s) (if e.len = 4 then P.fail l' 2 (P.tok l' s').pos s' else s') := by
    split
    · exact h.fail T _ _ _ (by decide) (fun _ => (h.tok T).2.2.2)
    · exact h
  refine (I.expr _ _ _ h1).bind fun a b a' b' ha hb => ?_
  simp only [hb.is T]
  split
  · exact I.argL _ _ _ _ _ (he.snoc ha) (hb.next T)
  · exact ⟨he.snoc ha, hb⟩
theorem RR.primary (d : Int) (s s' : St) (h : SR l Q s s') : OR ER (SR l Q) (P.primary l r d s) (P.primary l' r' d s') := by
  unfold P.primary
  simp only [(h.tok T).1, (h.tok T).2.1, (h.tok T).2.2.1, h.snd T, h.is T]
  split
  · exact ⟨ER.mk rfl, h.next T⟩
  · split
    · split
      · exact (RR.args T I _ _ _ (h.next T)).bind fun a b a' b' ha hb => ⟨ER.mk ha, hb⟩
      · exact ⟨ER.mk rfl, h.next T⟩
    · split
      · exact RR.paren T I _ _ _ h
      · exact ⟨rfl, h.refuse T⟩
theorem RR.postL1 (d : Int) (e e' : Ex) (s s' : St) (he : ER e e') (h : SR l Q s s') : OR ER (SR l Q) (P.postL l r d e s) (P.postL l' r' d e' s') := by
  unfold P.postL
  simp only [h.signM T]
  split
  · exact ⟨he, h⟩
  · split
    · exact (I.expr _ _ _ (h.next T)).bind fun a b a' b' ha hb => I.postL _ _ _ _ _ (ER.mk (EsR.two he ha)) (hb.need T _)
    · exact I.postL _ _ _ _ _ (ER.mk (EsR.one he)) (h.next T)
theorem RR.unary1 (d : Int) (s s' : St) (h0 : SR l Q s s') : OR ER (SR l Q) (P.unary l r d s) (P.unary l' r' d s') := by
  unfold P.unary P.unary1 P.unary2 P.postE
  have h := h0.begin T d
  have hn := h.next T
  simp only [h.signM T, h.is T, h.snd T, (hn.within T).1, (h.within T).1]
  split
  · split
    · exact (I.unary _ _ _ (h.within T).2).bind fun a b a' b' ha hb => ⟨ER.mk (EsR.one ha), hb⟩
    · split
      · exact ⟨ER.mk rfl, (hn.within T).2⟩
      · exact (RR.primary T I _ _ _ h).bind fun a b a' b' ha hb => I.postL _ _ _ _ _ ha hb
  · exact (I.unary _ _ _ hn).bind fun a b a' b' ha hb => ⟨ER.mk (EsR.one ha), hb⟩
theorem RR.told (d : Int) (s s' : St) (h : SR l Q s s') : OR EsR (SR l Q) (P.told l r d s) (P.told l' r' d s') := by
  unfold P.told
  exact (I.expr _ _ _ h).bind fun a b a' b' ha hb => ⟨EsR.one ha, hb.need T _⟩
theorem RR.asked (d : Int) (s s' : St) (h : SR l Q s s') : OR EsR (SR l Q) (P.asked l r d s) (P.asked l' r' d s') := by
  unfold P.asked
  exact (RR.paren T I _ _ _ h).bind fun a b a' b' ha hb => ⟨EsR.one ha, hb⟩
theorem RR.block (d : Int) (s s' : St) (h : SR l Q s s') : OR MsR (SR l Q) (P.block l r d s) (P.block l' r' d s') := by
  unfold P.block
  exact (I.blkL _ _ _ _ _ rfl (h.need T _)).bind fun a b a' b' ha hb => ⟨ha, hb.need T _⟩
theorem RR.blkL1 (d : Int) (e e' : Sts) (s s' : St) (he : MsR e e') (h : SR l Q s s') : OR MsR (SR l Q) (P.blkL l r d e s) (P.blkL l' r' d e' s') := by
  unfold P.blkL
  simp only [h.is T, (h.tok T).1]
  split
  · exact ⟨he, h⟩
  · exact (I.stmt _ _ _ h).bind fun a b a' b' ha hb => I.blkL _ _ _ _ _ (he.snoc ha) hb
theorem RR.maybe (d : Int) (t : List UInt8) (s s' : St) (h : SR l Q s s') : OR ER (SR l Q) (P.maybe l r d t s) (P.maybe l' r' d t s') := by
  unfold P.maybe
  simp only [h.is T]
  split
  · exact ⟨rfl, h.need T _⟩
  · exact (I.expr _ _ _ h).bind fun a b a' b' ha hb => ⟨ha, hb.need T _⟩
theorem RR.course (d : Int) (s s' : St) (h : SR l Q s s') : OR EsR (SR l Q) (P.course l r d s) (P.course l' r' d s') := by
  unfold P.course
  exact (RR.maybe T I _ _ _ _ (h.need T _)).bind fun a b a' b' ha hb => (RR.maybe T I _ _ _ _ hb).bind fun c b2 c' b2' hc hb2 => (RR.maybe T I _ _ _ _ hb2).bind fun e b3 e' b3' he hb3 => ⟨EsR.three ha hc he, hb3⟩
end
end Go.Proofs.YtjmemapkipkocaaDoor
