/-
  Texts that lead to it, 4: PsT7 PsT6 PsT8 PsT9 PsS4 PsS5 PsS2 PsElse PsS6e PsS6.
-/
import Derived.Test.YtjmemapkipkocaaDoorMb3
import Derived.LoopTactic
import Derived.Outline
import Derived.Lib.Hide
import Derived.WalkSpells
import Derived.Maps.OwnOps
import Derived.Carry
import Derived.Deep.LoopGhost
import Derived.Laws.OwnMore

/-
  Functions and globals: one of them.
-/
namespace Go.Proofs.YtjmemapkipkocaaDoor
open Go.RowKit Go.Maps
set_option linter.unusedVariables false
set_option linter.unusedSimpArgs false
set_option maxRecDepth 100000
set_option maxHeartbeats 1000000

theorem item_step (c : Cx) (hc : c.Ok) (f : Nat) (hf : f + 2 ≤ 1000000000) (GS : ∀ k, k ≤ f → GoodS c k) (q lo : Nat) (u : Un) (s : St) (R : Un × St) (w : World) (ga fa : Option Addr) (gn gc fn fc : Nat)
    (hu : u.funcs.length ≤ 1000000 ∧ u.globals.length ≤ 1000000) (hR : P.item c.l f u s = some R) (h : PIn w c s) (hq : OwnB w q #[.slice ga gn gc, .slice fa fn fc] 27)
    (hn : q ≠ c.g ∧ q ≠ c.gt ∧ q ≠ c.mb ∧ q ≠ 2) (hlo : q < lo ∧ c.g < lo ∧ c.gt < lo ∧ c.mb < lo ∧ 2 < lo ∧ lo ≤ w.heap.size) (hU : UIn w lo w.heap.size u (.slice ga gn gc) (.slice fa fn fc)) :
    Calls Tryd.prog 23 #[pv c, .pointer (some ⟨q, 0, none⟩)] w (DoesU c q lo R w) := by
  have HN := Lib.hid (NowQ.start h)
  have hg := HN.out.now.g
  have hgt := HN.out.now.gt
  have hqlt := lt_of_blk hq.blk
  have hq1 : q ≠ c.g := hn.1
  obtain ⟨yq, xq, zq⟩ := hq.facts
  obtain ⟨T, hT⟩ : ∃ T, T = P.typ c.l s := ⟨_, rfl⟩
  have CT := fun W H => Lib.hid (typeOf_any c hc s W H)
  rw [← hT] at CT
  have CN := fun W H => Lib.hid (name_any c hc T.2 W H)
  obtain ⟨N, hN⟩ : ∃ N, N = P.kindT c.l 1 T.2 := ⟨_, rfl⟩
  obtain ⟨s2, hs2⟩ : ∃ s2, s2 = P.kind c.l 1 T.2 := ⟨_, rfl⟩
  rw [← hN, ← hs2] at CN
  have CI := fun W H => Lib.hid (is_any c hc s2 W H [40])
  simp only [P.item, ← hT, ← hN, ← hs2] at hR
  have hfl : fn = u.funcs.length := by obtain ⟨_, _, _, _, h3, _⟩ := hU; exact h3.len
  have hgl : gn = u.globals.length := by obtain ⟨_, _, _, h3, _⟩ := hU; exact h3.len
  subst hfl hgl
  have HU := Lib.hid hU
  clear h hU hN hs2 hT
  cases ki : P.is c.l [40] s2 with
  | true =>
    rw [ki, if_pos rfl] at hR
    rw [ki] at CI
    by_cases h8 : u.funcs.length = 8
    · rw [if_pos h8] at hR
      obtain ⟨F, hF, hR⟩ := Option.bind_eq_some_iff.1 hR
      obtain rfl := Option.some.inj hR
      have h8' : ((u.funcs.length : Int) == 8) = true := by simp [h8]
      have CF := fun W H => Lib.hid (fail_any c hc s2 W H 2 N.pos)
      have CX := fun W H => Lib.hid (function_step c hc f hf GS T.1 N _ F W hF H)
      clear hR hF ki h8
      unfold pv
      go_enter Tryd.func23, Tryd.ntmps23
      go_wp2_with fail
      refine (CT _ (NowQ.pin (NowQ.to HN.out [] Keeps.au (fun b hb => absurd hb List.not_mem_nil) (fun q _ b hb => absurd hb List.not_mem_nil)))).out.mono ?_
      rintro e w1 ⟨rfl, hP, hK⟩
      have hz_w1 := hK.size
      try simp only [World.size_alloc, World.size_setCell, World.size_drew, World.heap_drewN] at hz_w1
      have O_w1_0 : OwnB w1 (q) #[.slice ga u.globals.length gc, .slice fa u.funcs.length fc] 27 := OwnB.call OwnB.au hK (by simp only [List.mem_singleton]; omega)
      obtain ⟨y_w1_0, x_w1_0, b_w1_0⟩ := O_w1_0.facts
      have HN1 := Lib.hid (NowQ.call (NowQ.to HN.out [] Keeps.au (fun b hb => absurd hb List.not_mem_nil) (fun q _ b hb => absurd hb List.not_mem_nil)) hP hK)
      clear hP hK
      go_wp2_with fail
      refine (CN _ (NowQ.pin (NowQ.to HN1.out [w1.heap.size] Keeps.au (by simp <;> omega) (by simp [kq, mq, dq, iq, fq] <;> omega)))).out.mono ?_
      rintro e w2 ⟨rfl, hP, hK⟩
      have hz_w2 := hK.size
      try simp only [World.size_alloc, World.size_setCell, World.size_drew, World.heap_drewN] at hz_w2
      have O_w2_0 : OwnB w2 (w1.heap.size) #[.int .i64 T.1.kind, .int .i64 T.1.ptr, .int .i64 T.1.len] 47 := OwnB.call OwnB.au hK (by simp only [List.mem_singleton]; omega)
      obtain ⟨y_w2_0, x_w2_0, b_w2_0⟩ := O_w2_0.facts
      have O_w2_1 : OwnB w2 (q) #[.slice ga u.globals.length gc, .slice fa u.funcs.length fc] 27 := OwnB.call OwnB.au hK (by simp only [List.mem_singleton]; omega)
      obtain ⟨y_w2_1, x_w2_1, b_w2_1⟩ := O_w2_1.facts
      have HN2 := Lib.hid (NowQ.call (NowQ.to HN1.out [w1.heap.size] Keeps.au (by simp <;> omega) (by simp [kq, mq, dq, iq, fq] <;> omega)) hP hK)
      clear hP hK
      go_wp2_with fail
      refine (CI _ (NowQ.pin (NowQ.to HN2.out [w1.heap.size, w2.heap.size] Keeps.au (by simp <;> omega) (by simp [kq, mq, dq, iq, fq] <;> omega)))).out.mono ?_
      rintro e w3 ⟨rfl, hP, hK⟩
      have hz_w3 := hK.size
      try simp only [World.size_alloc, World.size_setCell, World.size_drew, World.heap_drewN] at hz_w3
      have O_w3_0 : OwnB w3 (w1.heap.size) #[.int .i64 T.1.kind, .int .i64 T.1.ptr, .int .i64 T.1.len] 47 := OwnB.call OwnB.au hK (by simp only [List.mem_singleton]; omega)
      obtain ⟨y_w3_0, x_w3_0, b_w3_0⟩ := O_w3_0.facts
      have O_w3_1 : OwnB w3 (w2.heap.size) #[.int .i64 (N).kind, .string ⟨(N).text.toArray⟩, .int .i64 (N).n, .int .i64 (N).pos] 60 := OwnB.call OwnB.au hK (by simp only [List.mem_singleton]; omega)
      obtain ⟨y_w3_1, x_w3_1, b_w3_1⟩ := O_w3_1.facts
      have O_w3_2 : OwnB w3 (q) #[.slice ga u.globals.length gc, .slice fa u.funcs.length fc] 27 := OwnB.call OwnB.au hK (by simp only [List.mem_singleton]; omega)
      obtain ⟨y_w3_2, x_w3_2, b_w3_2⟩ := O_w3_2.facts
      have HN3 := Lib.hid (NowQ.call (NowQ.to HN2.out [w1.heap.size, w2.heap.size] Keeps.au (by simp <;> omega) (by simp [kq, mq, dq, iq, fq] <;> omega)) hP hK)
      clear hP hK
      go_wp2_with fail
      refine (CF _ (NowQ.pin (NowQ.to HN3.out [w1.heap.size, w2.heap.size] Keeps.au (by simp <;> omega) (by simp [kq, mq, dq, iq, fq] <;> omega)))).out.mono ?_
      rintro e w4 ⟨rfl, hP, hK⟩
      have hz_w4 := hK.size
      try simp only [World.size_alloc, World.size_setCell, World.size_drew, World.heap_drewN] at hz_w4
      have O_w4_0 : OwnB w4 (w1.heap.size) #[.int .i64 T.1.kind, .int .i64 T.1.ptr, .int .i64 T.1.len] 47 := OwnB.call OwnB.au hK (by simp only [List.mem_singleton]; omega)
      obtain ⟨y_w4_0, x_w4_0, b_w4_0⟩ := O_w4_0.facts
      have O_w4_1 : OwnB w4 (w2.heap.size) #[.int .i64 (N).kind, .string ⟨(N).text.toArray⟩, .int .i64 (N).n, .int .i64 (N).pos] 60 := OwnB.call OwnB.au hK (by simp only [List.mem_singleton]; omega)
      obtain ⟨y_w4_1, x_w4_1, b_w4_1⟩ := O_w4_1.facts
      have O_w4_2 : OwnB w4 (q) #[.slice ga u.globals.length gc, .slice fa u.funcs.length fc] 27 := OwnB.call OwnB.au hK (by simp only [List.mem_singleton]; omega)
      obtain ⟨y_w4_2, x_w4_2, b_w4_2⟩ := O_w4_2.facts
      have HN4 := Lib.hid (NowQ.call (NowQ.to HN3.out [w1.heap.size, w2.heap.size] Keeps.au (by simp <;> omega) (by simp [kq, mq, dq, iq, fq] <;> omega)) hP hK)
      clear hP hK
      go_wp2_with fail
      refine wpTo_start (fun w' => OwnB w' (w1.heap.size) #[.int .i64 T.1.kind, .int .i64 T.1.ptr, .int .i64 T.1.len] 47 ∧ OwnB w' (w2.heap.size) #[.int .i64 (N).kind, .string ⟨(N).text.toArray⟩, .int .i64 (N).n, .int .i64 (N).pos] 60 ∧ OwnB w' (q) #[.slice ga u.globals.length gc, .slice fa u.funcs.length fc] 27) 13 (by kernel_rfl) ⟨OwnB.au, OwnB.au, OwnB.au⟩ (fun hHeld => ?_)
      refine wpTo_take 0 (v := ?_) (by kernel_rfl) (by kernel_rfl) rfl (by kernel_rfl) (by kernel_rfl) rfl (fun _ _ _ h => h) (Or.inl ⟨by rfl, ?_⟩) hHeld ?_
      rotate_left
      · (intro w' ⟨h0, h1, h2⟩; obtain ⟨ya0, yb0, yc0⟩ := h0.facts; obtain ⟨ya1, yb1, yc1⟩ := h1.facts; obtain ⟨ya2, yb2, yc2⟩ := h2.facts; go_simp; try with_reducible rfl)
      try simp only [Act.put, List.setIfInBounds_toArray, List.set_cons_zero, List.set_cons_succ]
      refine wpTo_take 1 (v := ?_) (by kernel_rfl) (by kernel_rfl) rfl (by kernel_rfl) (by kernel_rfl) rfl (fun _ _ _ h => h) (Or.inl ⟨by rfl, ?_⟩) hHeld ?_
      rotate_left
      · (intro w' ⟨h0, h1, h2⟩; obtain ⟨ya0, yb0, yc0⟩ := h0.facts; obtain ⟨ya1, yb1, yc1⟩ := h1.facts; obtain ⟨ya2, yb2, yc2⟩ := h2.facts; go_simp; try with_reducible rfl)
      try simp only [Act.put, List.setIfInBounds_toArray, List.set_cons_zero, List.set_cons_succ]
      refine wpTo_take 2 (v := ?_) (by kernel_rfl) (by kernel_rfl) rfl (by kernel_rfl) (by kernel_rfl) rfl (fun _ _ _ h => h) (Or.inl ⟨by rfl, ?_⟩) hHeld ?_
      rotate_left
      · (intro w' ⟨h0, h1, h2⟩; obtain ⟨ya0, yb0, yc0⟩ := h0.facts; obtain ⟨ya1, yb1, yc1⟩ := h1.facts; obtain ⟨ya2, yb2, yc2⟩ := h2.facts; go_simp; try with_reducible rfl)
      try simp only [Act.put, List.setIfInBounds_toArray, List.set_cons_zero, List.set_cons_succ]
      refine wpTo_take 3 (v := ?_) (by kernel_rfl) (by kernel_rfl) rfl (by kernel_rfl) (by kernel_rfl) rfl (fun _ _ _ h => h) (Or.inl ⟨by rfl, ?_⟩) hHeld ?_
      rotate_left
      · (intro w' ⟨h0, h1, h2⟩; obtain ⟨ya0, yb0, yc0⟩ := h0.facts; obtain ⟨ya1, yb1, yc1⟩ := h1.facts; obtain ⟨ya2, yb2, yc2⟩ := h2.facts; go_simp; try with_reducible rfl)
      try simp only [Act.put, List.setIfInBounds_toArray, List.set_cons_zero, List.set_cons_succ]
      refine wpTo_take 4 (v := ?_) (by kernel_rfl) (by kernel_rfl) rfl (by kernel_rfl) (by kernel_rfl) rfl (fun _ _ _ h => h) (Or.inl ⟨by rfl, ?_⟩) hHeld ?_
      rotate_left
      · (intro w' ⟨h0, h1, h2⟩; obtain ⟨ya0, yb0, yc0⟩ := h0.facts; obtain ⟨ya1, yb1, yc1⟩ := h1.facts; obtain ⟨ya2, yb2, yc2⟩ := h2.facts; go_simp; try with_reducible rfl)
      try simp only [Act.put, List.setIfInBounds_toArray, List.set_cons_zero, List.set_cons_succ]
      refine wpTo_take 5 (v := ?_) (by kernel_rfl) (by kernel_rfl) rfl (by kernel_rfl) (by kernel_rfl) rfl (fun _ _ _ h => h) (Or.inl ⟨by rfl, ?_⟩) hHeld ?_
      rotate_left
      · (intro w' ⟨h0, h1, h2⟩; obtain ⟨ya0, yb0, yc0⟩ := h0.facts; obtain ⟨ya1, yb1, yc1⟩ := h1.facts; obtain ⟨ya2, yb2, yc2⟩ := h2.facts; go_simp; try with_reducible rfl)
      try simp only [Act.put, List.setIfInBounds_toArray, List.set_cons_zero, List.set_cons_succ]
      refine wpTo_take 6 (v := ?_) (by kernel_rfl) (by kernel_rfl) rfl (by kernel_rfl) (by kernel_rfl) rfl (fun _ _ _ h => h) (Or.inl ⟨by rfl, ?_⟩) hHeld ?_
      rotate_left
      · (intro w' ⟨h0, h1, h2⟩; obtain ⟨ya0, yb0, yc0⟩ := h0.facts; obtain ⟨ya1, yb1, yc1⟩ := h1.facts; obtain ⟨ya2, yb2, yc2⟩ := h2.facts; go_simp; try with_reducible rfl)
      try simp only [Act.put, List.setIfInBounds_toArray, List.set_cons_zero, List.set_cons_succ]
      refine wpTo_take 7 (v := ?_) (by kernel_rfl) (by kernel_rfl) rfl (by kernel_rfl) (by kernel_rfl) rfl (fun _ _ _ h => h) (Or.inl ⟨by rfl, ?_⟩) hHeld ?_
      rotate_left
      · (intro w' ⟨h0, h1, h2⟩; obtain ⟨ya0, yb0, yc0⟩ := h0.facts; obtain ⟨ya1, yb1, yc1⟩ := h1.facts; obtain ⟨ya2, yb2, yc2⟩ := h2.facts; go_simp; try with_reducible rfl)
      try simp only [Act.put, List.setIfInBounds_toArray, List.set_cons_zero, List.set_cons_succ]
      refine wpTo_one 8 (by kernel_rfl) rfl (fun K hKo => ?_)
      go_simp
      go_at_call 41
      refine (CX _ (NowQ.pin (NowQ.to HN4.out [w1.heap.size, w2.heap.size] Keeps.au (by simp <;> omega) (by simp [kq, mq, dq, iq, fq] <;> omega)))).out.mono ?_
      rintro e w5 ⟨a1, n1, p1, a2, n2, p2, rfl, hP, hKk, hT⟩
      have hz_w5 := hKk.size
      try simp only [World.size_alloc, World.size_setCell, World.size_drew, World.heap_drewN] at hz_w5
      have O_w5_0 : OwnB w5 w1.heap.size #[.int .i64 T.1.kind, .int .i64 T.1.ptr, .int .i64 T.1.len] 47 := OwnB.call OwnB.au hKk (by simp only [List.mem_singleton]; omega)
      have O_w5_1 : OwnB w5 w2.heap.size #[.int .i64 (N).kind, .string ⟨(N).text.toArray⟩, .int .i64 (N).n, .int .i64 (N).pos] 60 := OwnB.call OwnB.au hKk (by simp only [List.mem_singleton]; omega)
      have O_w5_2 : OwnB w5 q #[.slice ga u.globals.length gc, .slice fa u.funcs.length fc] 27 := OwnB.call OwnB.au hKk (by simp only [List.mem_singleton]; omega)
      obtain ⟨y_w5_2, x_w5_2, b_w5_2⟩ := O_w5_2.facts
      have HN5 := Lib.hid (NowQ.callT (NowQ.to HN4.out [w1.heap.size, w2.heap.size] Keeps.au (by simp <;> omega) (by simp [kq, mq, dq, iq, fq] <;> omega)) (fq _ w5.heap.size [] F.1 (.slice a1 n1 p1) (.slice a2 n2 p2)) hP hKk hT (Nat.le_refl _) (Nat.le_refl _))
      clear hP hKk hT
      refine Shut.out hKo _ _ (fun _ _ => ⟨OwnB.au, OwnB.au, OwnB.au⟩) ?_
      clear hKo K
      try simp only [Act.put, List.setIfInBounds_toArray, List.set_cons_zero, List.set_cons_succ]
      refine wpTo_one 9 (by kernel_rfl) rfl (fun K hKo => ?_)
      go_simp
      refine Shut.out hKo _ _ (fun _ _ => ⟨OwnB.au, OwnB.au, OwnB.au⟩) ?_
      clear hKo K
      try simp only [Act.put, List.setIfInBounds_toArray, List.set_cons_zero, List.set_cons_succ]
      refine wpTo_one 10 (by kernel_rfl) rfl (fun K hKo => ?_)
      refine step_funcs rfl _ _ rfl rfl rfl rfl rfl (NowQ.to HN5.out [w1.heap.size, w2.heap.size] Keeps.au (by simp <;> omega) (by simp [kq, mq, dq, iq, fq] <;> omega)) HU.out (show OwnB _ (w5.heap.size) #[.string ⟨F.1.nm.toArray⟩, .int .i64 F.1.ret.kind, .int .i64 F.1.ret.ptr, .int .i64 F.1.ret.len, .slice a1 n1 p1, .slice a2 n2 p2, .slice none 0 0, .int .i64 F.1.pos] 54 from OwnB.au) (qv := #[.slice ga u.globals.length gc, .slice fa u.funcs.length fc]) OwnB.au hlo (by omega) ?_
      intro g cap' w6 hG
      try simp only [Act.put, List.setIfInBounds_toArray, List.set_cons_zero, List.set_cons_succ]
      have O6 := hG.own
      have O6a : OwnB w6 w1.heap.size #[.int .i64 T.1.kind, .int .i64 T.1.ptr, .int .i64 T.1.len] 47 := ⟨(hG.new _ (by omega) (by rw [World.size_alloc]; omega)).trans (OwnB.alloc O_w5_0 _).blk⟩
      have O6b : OwnB w6 w2.heap.size #[.int .i64 (N).kind, .string ⟨(N).text.toArray⟩, .int .i64 (N).n, .int .i64 (N).pos] 60 := ⟨(hG.new _ (by omega) (by rw [World.size_alloc]; omega)).trans (OwnB.alloc O_w5_1 _).blk⟩
      have HG := Lib.hid hG
      clear hG
      refine Shut.out hKo _ _ (fun _ _ => ⟨O6a, O6b, O6⟩) ?_
      clear hKo K
      try simp only [Act.put, List.setIfInBounds_toArray, List.set_cons_zero, List.set_cons_succ]
      refine wpTo_one 11 (by kernel_rfl) rfl (fun K hKo => ?_)
      go_simp
      refine Shut.out hKo _ _ (fun _ _ => ⟨O6a, O6b, O6⟩) ?_
      clear hKo K
      try simp only [Act.put, List.setIfInBounds_toArray, List.set_cons_zero, List.set_cons_succ]
      refine wpTo_one 12 (by kernel_rfl) rfl (fun K hKo => ?_)
      go_simp
      refine Shut.out hKo _ _ (fun _ _ => ⟨O6a, O6b, O6⟩) ?_
      clear hKo K
      try simp only [Act.put, List.setIfInBounds_toArray, List.set_cons_zero, List.set_cons_succ]
      obtain ⟨y6, x6, z6⟩ := O6.facts
      refine wpTo_one 13 (by kernel_rfl) rfl (fun K hKo => ?_)
      go_simp
      refine Shut.out hKo _ _ (fun h _ => absurd rfl h) ?_
      clear hKo K
      try simp only [Act.put, List.setIfInBounds_toArray, List.set_cons_zero, List.set_cons_succ]
      refine wpTo_done (by kernel_rfl) ?_ _
      go_wp2_with fail
      refine bodyPost_ret (v := .tuple #[]) (by simp [results, Tryd.results23, go_sem]) rfl ?_
      exact HG.out.fin1 hn hlo.1
    · rw [if_neg h8] at hR
      obtain ⟨F, hF, hR⟩ := Option.bind_eq_some_iff.1 hR
      obtain rfl := Option.some.inj hR
      have h8' : ((u.funcs.length : Int) == 8) = false := by simp; omega
      have CX := fun W H => Lib.hid (function_step c hc f hf GS T.1 N _ F W hF H)
      clear hR hF ki h8
      unfold pv
      go_enter Tryd.func23, Tryd.ntmps23
      go_wp2_with fail
      refine (CT _ (NowQ.pin (NowQ.to HN.out [] Keeps.au (fun b hb => absurd hb List.not_mem_nil) (fun q _ b hb => absurd hb List.not_mem_nil)))).out.mono ?_
      rintro e w1 ⟨rfl, hP, hK⟩
      have hz_w1 := hK.size
      try simp only [World.size_alloc, World.size_setCell, World.size_drew, World.heap_drewN] at hz_w1
      have O_w1_0 : OwnB w1 (q) #[.slice ga u.globals.length gc, .slice fa u.funcs.length fc] 27 := OwnB.call OwnB.au hK (by simp only [List.mem_singleton]; omega)
      obtain ⟨y_w1_0, x_w1_0, b_w1_0⟩ := O_w1_0.facts
      have HN1 := Lib.hid (NowQ.call (NowQ.to HN.out [] Keeps.au (fun b hb => absurd hb List.not_mem_nil) (fun q _ b hb => absurd hb List.not_mem_nil)) hP hK)
      clear hP hK
      go_wp2_with fail
      refine (CN _ (NowQ.pin (NowQ.to HN1.out [w1.heap.size] Keeps.au (by simp <;> omega) (by simp [kq, mq, dq, iq, fq] <;> omega)))).out.mono ?_
      rintro e w2 ⟨rfl, hP, hK⟩
      have hz_w2 := hK.size
      try simp only [World.size_alloc, World.size_setCell, World.size_drew, World.heap_drewN] at hz_w2
      have O_w2_0 : OwnB w2 (w1.heap.size) #[.int .i64 T.1.kind, .int .i64 T.1.ptr, .int .i64 T.1.len] 47 := OwnB.call OwnB.au hK (by simp only [List.mem_singleton]; omega)
      obtain ⟨y_w2_0, x_w2_0, b_w2_0⟩ := O_w2_0.facts
      have O_w2_1 : OwnB w2 (q) #[.slice ga u.globals.length gc, .slice fa u.funcs.length fc] 27 := OwnB.call OwnB.au hK (by simp only [List.mem_singleton]; omega)
      obtain ⟨y_w2_1, x_w2_1, b_w2_1⟩ := O_w2_1.facts
      have HN2 := Lib.hid (NowQ.call (NowQ.to HN1.out [w1.heap.size] Keeps.au (by simp <;> omega) (by simp [kq, mq, dq, iq, fq] <;> omega)) hP hK)
      clear hP hK
      go_wp2_with fail
      refine (CI _ (NowQ.pin (NowQ.to HN2.out [w1.heap.size, w2.heap.size] Keeps.au (by simp <;> omega) (by simp [kq, mq, dq, iq, fq] <;> omega)))).out.mono ?_
      rintro e w3 ⟨rfl, hP, hK⟩
      have hz_w3 := hK.size
      try simp only [World.size_alloc, World.size_setCell, World.size_drew, World.heap_drewN] at hz_w3
      have O_w3_0 : OwnB w3 (w1.heap.size) #[.int .i64 T.1.kind, .int .i64 T.1.ptr, .int .i64 T.1.len] 47 := OwnB.call OwnB.au hK (by simp only [List.mem_singleton]; omega)
      obtain ⟨y_w3_0, x_w3_0, b_w3_0⟩ := O_w3_0.facts
      have O_w3_1 : OwnB w3 (w2.heap.size) #[.int .i64 (N).kind, .string ⟨(N).text.toArray⟩, .int .i64 (N).n, .int .i64 (N).pos] 60 := OwnB.call OwnB.au hK (by simp only [List.mem_singleton]; omega)
      obtain ⟨y_w3_1, x_w3_1, b_w3_1⟩ := O_w3_1.facts
      have O_w3_2 : OwnB w3 (q) #[.slice ga u.globals.length gc, .slice fa u.funcs.length fc] 27 := OwnB.call OwnB.au hK (by simp only [List.mem_singleton]; omega)
      obtain ⟨y_w3_2, x_w3_2, b_w3_2⟩ := O_w3_2.facts
      have HN3 := Lib.hid (NowQ.call (NowQ.to HN2.out [w1.heap.size, w2.heap.size] Keeps.au (by simp <;> omega) (by simp [kq, mq, dq, iq, fq] <;> omega)) hP hK)
      clear hP hK
      go_wp2_with fail
      refine wpTo_start (fun w' => OwnB w' (w1.heap.size) #[.int .i64 T.1.kind, .int .i64 T.1.ptr, .int .i64 T.1.len] 47 ∧ OwnB w' (w2.heap.size) #[.int .i64 (N).kind, .string ⟨(N).text.toArray⟩, .int .i64 (N).n, .int .i64 (N).pos] 60 ∧ OwnB w' (q) #[.slice ga u.globals.length gc, .slice fa u.funcs.length fc] 27) 13 (by kernel_rfl) ⟨OwnB.au, OwnB.au, OwnB.au⟩ (fun hHeld => ?_)
      refine wpTo_take 0 (v := ?_) (by kernel_rfl) (by kernel_rfl) rfl (by kernel_rfl) (by kernel_rfl) rfl (fun _ _ _ h => h) (Or.inl ⟨by rfl, ?_⟩) hHeld ?_
      rotate_left
      · (intro w' ⟨h0, h1, h2⟩; obtain ⟨ya0, yb0, yc0⟩ := h0.facts; obtain ⟨ya1, yb1, yc1⟩ := h1.facts; obtain ⟨ya2, yb2, yc2⟩ := h2.facts; go_simp; try with_reducible rfl)
      try simp only [Act.put, List.setIfInBounds_toArray, List.set_cons_zero, List.set_cons_succ]
      refine wpTo_take 1 (v := ?_) (by kernel_rfl) (by kernel_rfl) rfl (by kernel_rfl) (by kernel_rfl) rfl (fun _ _ _ h => h) (Or.inl ⟨by rfl, ?_⟩) hHeld ?_
      rotate_left
      · (intro w' ⟨h0, h1, h2⟩; obtain ⟨ya0, yb0, yc0⟩ := h0.facts; obtain ⟨ya1, yb1, yc1⟩ := h1.facts; obtain ⟨ya2, yb2, yc2⟩ := h2.facts; go_simp; try with_reducible rfl)
      try simp only [Act.put, List.setIfInBounds_toArray, List.set_cons_zero, List.set_cons_succ]
      refine wpTo_take 2 (v := ?_) (by kernel_rfl) (by kernel_rfl) rfl (by kernel_rfl) (by kernel_rfl) rfl (fun _ _ _ h => h) (Or.inl ⟨by rfl, ?_⟩) hHeld ?_
      rotate_left
      · (intro w' ⟨h0, h1, h2⟩; obtain ⟨ya0, yb0, yc0⟩ := h0.facts; obtain ⟨ya1, yb1, yc1⟩ := h1.facts; obtain ⟨ya2, yb2, yc2⟩ := h2.facts; go_simp; try with_reducible rfl)
      try simp only [Act.put, List.setIfInBounds_toArray, List.set_cons_zero, List.set_cons_succ]
      refine wpTo_take 3 (v := ?_) (by kernel_rfl) (by kernel_rfl) rfl (by kernel_rfl) (by kernel_rfl) rfl (fun _ _ _ h => h) (Or.inl ⟨by rfl, ?_⟩) hHeld ?_
      rotate_left
      · (intro w' ⟨h0, h1, h2⟩; obtain ⟨ya0, yb0, yc0⟩ := h0.facts; obtain ⟨ya1, yb1, yc1⟩ := h1.facts; obtain ⟨ya2, yb2, yc2⟩ := h2.facts; go_simp; try with_reducible rfl)
      try simp only [Act.put, List.setIfInBounds_toArray, List.set_cons_zero, List.set_cons_succ]
      refine wpTo_take 4 (v := ?_) (by kernel_rfl) (by kernel_rfl) rfl (by kernel_rfl) (by kernel_rfl) rfl (fun _ _ _ h => h) (Or.inl ⟨by rfl, ?_⟩) hHeld ?_
      rotate_left
      · (intro w' ⟨h0, h1, h2⟩; obtain ⟨ya0, yb0, yc0⟩ := h0.facts; obtain ⟨ya1, yb1, yc1⟩ := h1.facts; obtain ⟨ya2, yb2, yc2⟩ := h2.facts; go_simp; try with_reducible rfl)
      try simp only [Act.put, List.setIfInBounds_toArray, List.set_cons_zero, List.set_cons_succ]
      refine wpTo_take 5 (v := ?_) (by kernel_rfl) (by kernel_rfl) rfl (by kernel_rfl) (by kernel_rfl) rfl (fun _ _ _ h => h) (Or.inl ⟨by rfl, ?_⟩) hHeld ?_
      rotate_left
      · (intro w' ⟨h0, h1, h2⟩; obtain ⟨ya0, yb0, yc0⟩ := h0.facts; obtain ⟨ya1, yb1, yc1⟩ := h1.facts; obtain ⟨ya2, yb2, yc2⟩ := h2.facts; go_simp; try with_reducible rfl)
      try simp only [Act.put, List.setIfInBounds_toArray, List.set_cons_zero, List.set_cons_succ]
      refine wpTo_take 6 (v := ?_) (by kernel_rfl) (by kernel_rfl) rfl (by kernel_rfl) (by kernel_rfl) rfl (fun _ _ _ h => h) (Or.inl ⟨by rfl, ?_⟩) hHeld ?_
      rotate_left
      · (intro w' ⟨h0, h1, h2⟩; obtain ⟨ya0, yb0, yc0⟩ := h0.facts; obtain ⟨ya1, yb1, yc1⟩ := h1.facts; obtain ⟨ya2, yb2, yc2⟩ := h2.facts; go_simp; try with_reducible rfl)
      try simp only [Act.put, List.setIfInBounds_toArray, List.set_cons_zero, List.set_cons_succ]
      refine wpTo_take 7 (v := ?_) (by kernel_rfl) (by kernel_rfl) rfl (by kernel_rfl) (by kernel_rfl) rfl (fun _ _ _ h => h) (Or.inl ⟨by rfl, ?_⟩) hHeld ?_
      rotate_left
      · (intro w' ⟨h0, h1, h2⟩; obtain ⟨ya0, yb0, yc0⟩ := h0.facts; obtain ⟨ya1, yb1, yc1⟩ := h1.facts; obtain ⟨ya2, yb2, yc2⟩ := h2.facts; go_simp; try with_reducible rfl)
      try simp only [Act.put, List.setIfInBounds_toArray, List.set_cons_zero, List.set_cons_succ]
      refine wpTo_one 8 (by kernel_rfl) rfl (fun K hKo => ?_)
      go_simp
      go_at_call 41
      refine (CX _ (NowQ.pin (NowQ.to HN3.out [w1.heap.size, w2.heap.size] Keeps.au (by simp <;> omega) (by simp [kq, mq, dq, iq, fq] <;> omega)))).out.mono ?_
      rintro e w5 ⟨a1, n1, p1, a2, n2, p2, rfl, hP, hKk, hT⟩
      have hz_w5 := hKk.size
      try simp only [World.size_alloc, World.size_setCell, World.size_drew, World.heap_drewN] at hz_w5
      have O_w5_0 : OwnB w5 w1.heap.size #[.int .i64 T.1.kind, .int .i64 T.1.ptr, .int .i64 T.1.len] 47 := OwnB.call OwnB.au hKk (by simp only [List.mem_singleton]; omega)
      have O_w5_1 : OwnB w5 w2.heap.size #[.int .i64 (N).kind, .string ⟨(N).text.toArray⟩, .int .i64 (N).n, .int .i64 (N).pos] 60 := OwnB.call OwnB.au hKk (by simp only [List.mem_singleton]; omega)
      have O_w5_2 : OwnB w5 q #[.slice ga u.globals.length gc, .slice fa u.funcs.length fc] 27 := OwnB.call OwnB.au hKk (by simp only [List.mem_singleton]; omega)
      obtain ⟨y_w5_2, x_w5_2, b_w5_2⟩ := O_w5_2.facts
      have HN5 := Lib.hid (NowQ.callT (NowQ.to HN3.out [w1.heap.size, w2.heap.size] Keeps.au (by simp <;> omega) (by simp [kq, mq, dq, iq, fq] <;> omega)) (fq _ w5.heap.size [] F.1 (.slice a1 n1 p1) (.slice a2 n2 p2)) hP hKk hT (Nat.le_refl _) (Nat.le_refl _))
      clear hP hKk hT
      refine Shut.out hKo _ _ (fun _ _ => ⟨OwnB.au, OwnB.au, OwnB.au⟩) ?_
      clear hKo K
      try simp only [Act.put, List.setIfInBounds_toArray, List.set_cons_zero, List.set_cons_succ]
      refine wpTo_one 9 (by kernel_rfl) rfl (fun K hKo => ?_)
      go_simp
      refine Shut.out hKo _ _ (fun _ _ => ⟨OwnB.au, OwnB.au, OwnB.au⟩) ?_
      clear hKo K
      try simp only [Act.put, List.setIfInBounds_toArray, List.set_cons_zero, List.set_cons_succ]
      refine wpTo_one 10 (by kernel_rfl) rfl (fun K hKo => ?_)
      refine step_funcs rfl _ _ rfl rfl rfl rfl rfl (NowQ.to HN5.out [w1.heap.size, w2.heap.size] Keeps.au (by simp <;> omega) (by simp [kq, mq, dq, iq, fq] <;> omega)) HU.out (show OwnB _ (w5.heap.size) #[.string ⟨F.1.nm.toArray⟩, .int .i64 F.1.ret.kind, .int .i64 F.1.ret.ptr, .int .i64 F.1.ret.len, .slice a1 n1 p1, .slice a2 n2 p2, .slice none 0 0, .int .i64 F.1.pos] 54 from OwnB.au) (qv := #[.slice ga u.globals.length gc, .slice fa u.funcs.length fc]) OwnB.au hlo (by omega) ?_
      intro g cap' w6 hG
      try simp only [Act.put, List.setIfInBounds_toArray, List.set_cons_zero, List.set_cons_succ]
      have O6 := hG.own
      have O6a : OwnB w6 w1.heap.size #[.int .i64 T.1.kind, .int .i64 T.1.ptr, .int .i64 T.1.len] 47 := ⟨(hG.new _ (by omega) (by rw [World.size_alloc]; omega)).trans (OwnB.alloc O_w5_0 _).blk⟩
      have O6b : OwnB w6 w2.heap.size #[.int .i64 (N).kind, .string ⟨(N).text.toArray⟩, .int .i64 (N).n, .int .i64 (N).pos] 60 := ⟨(hG.new _ (by omega) (by rw [World.size_alloc]; omega)).trans (OwnB.alloc O_w5_1 _).blk⟩
      have HG := Lib.hid hG
      clear hG
      refine Shut.out hKo _ _ (fun _ _ => ⟨O6a, O6b, O6⟩) ?_
      clear hKo K
      try simp only [Act.put, List.setIfInBounds_toArray, List.set_cons_zero, List.set_cons_succ]
      refine wpTo_one 11 (by kernel_rfl) rfl (fun K hKo => ?_)
      go_simp
      refine Shut.out hKo _ _ (fun _ _ => ⟨O6a, O6b, O6⟩) ?_
      clear hKo K
      try simp only [Act.put, List.setIfInBounds_toArray, List.set_cons_zero, List.set_cons_succ]
      refine wpTo_one 12 (by kernel_rfl) rfl (fun K hKo => ?_)
      go_simp
      refine Shut.out hKo _ _ (fun _ _ => ⟨O6a, O6b, O6⟩) ?_
      clear hKo K
      try simp only [Act.put, List.setIfInBounds_toArray, List.set_cons_zero, List.set_cons_succ]
      obtain ⟨y6, x6, z6⟩ := O6.facts
      refine wpTo_one 13 (by kernel_rfl) rfl (fun K hKo => ?_)
      go_simp
      refine Shut.out hKo _ _ (fun h _ => absurd rfl h) ?_
      clear hKo K
      try simp only [Act.put, List.setIfInBounds_toArray, List.set_cons_zero, List.set_cons_succ]
      refine wpTo_done (by kernel_rfl) ?_ _
      go_wp2_with fail
      refine bodyPost_ret (v := .tuple #[]) (by simp [results, Tryd.results23, go_sem]) rfl ?_
      exact HG.out.fin1 hn hlo.1
  | false =>
    rw [ki, if_neg (by simp)] at hR
    rw [ki] at CI
    by_cases h8 : u.globals.length = 16
    · rw [if_pos h8] at hR
      obtain ⟨F, hF, hR⟩ := Option.bind_eq_some_iff.1 hR
      obtain rfl := Option.some.inj hR
      have h8' : ((u.globals.length : Int) == 16) = true := by simp [h8]
      have CF := fun W H => Lib.hid (fail_any c hc s2 W H 2 N.pos)
      have CX := fun W H => Lib.hid (global_step c hc f (by omega) T.1 N _ F W hF H)
      clear hR hF ki h8
      unfold pv
      go_enter Tryd.func23, Tryd.ntmps23
      go_wp2_with fail
      refine (CT _ (NowQ.pin (NowQ.to HN.out [] Keeps.au (fun b hb => absurd hb List.not_mem_nil) (fun q _ b hb => absurd hb List.not_mem_nil)))).out.mono ?_
      rintro e w1 ⟨rfl, hP, hK⟩
      have hz_w1 := hK.size
      try simp only [World.size_alloc, World.size_setCell, World.size_drew, World.heap_drewN] at hz_w1
      have O_w1_0 : OwnB w1 (q) #[.slice ga u.globals.length gc, .slice fa u.funcs.length fc] 27 := OwnB.call OwnB.au hK (by simp only [List.mem_singleton]; omega)
      obtain ⟨y_w1_0, x_w1_0, b_w1_0⟩ := O_w1_0.facts
      have HN1 := Lib.hid (NowQ.call (NowQ.to HN.out [] Keeps.au (fun b hb => absurd hb List.not_mem_nil) (fun q _ b hb => absurd hb List.not_mem_nil)) hP hK)
      clear hP hK
      go_wp2_with fail
      refine (CN _ (NowQ.pin (NowQ.to HN1.out [w1.heap.size] Keeps.au (by simp <;> omega) (by simp [kq, mq, dq, iq, fq] <;> omega)))).out.mono ?_
      rintro e w2 ⟨rfl, hP, hK⟩
      have hz_w2 := hK.size
      try simp only [World.size_alloc, World.size_setCell, World.size_drew, World.heap_drewN] at hz_w2
      have O_w2_0 : OwnB w2 (w1.heap.size) #[.int .i64 T.1.kind, .int .i64 T.1.ptr, .int .i64 T.1.len] 47 := OwnB.call OwnB.au hK (by simp only [List.mem_singleton]; omega)
      obtain ⟨y_w2_0, x_w2_0, b_w2_0⟩ := O_w2_0.facts
      have O_w2_1 : OwnB w2 (q) #[.slice ga u.globals.length gc, .slice fa u.funcs.length fc] 27 := OwnB.call OwnB.au hK (by simp only [List.mem_singleton]; omega)
      obtain ⟨y_w2_1, x_w2_1, b_w2_1⟩ := O_w2_1.facts
      have HN2 := Lib.hid (NowQ.call (NowQ.to HN1.out [w1.heap.size] Keeps.au (by simp <;> omega) (by simp [kq, mq, dq, iq, fq] <;> omega)) hP hK)
      clear hP hK
      go_wp2_with fail
      refine (CI _ (NowQ.pin (NowQ.to HN2.out [w1.heap.size, w2.heap.size] Keeps.au (by simp <;> omega) (by simp [kq, mq, dq, iq, fq] <;> omega)))).out.mono ?_
      rintro e w3 ⟨rfl, hP, hK⟩
      have hz_w3 := hK.size
      try simp only [World.size_alloc, World.size_setCell, World.size_drew, World.heap_drewN] at hz_w3
      have O_w3_0 : OwnB w3 (w1.heap.size) #[.int .i64 T.1.kind, .int .i64 T.1.ptr, .int .i64 T.1.len] 47 := OwnB.call OwnB.au hK (by simp only [List.mem_singleton]; omega)
      obtain ⟨y_w3_0, x_w3_0, b_w3_0⟩ := O_w3_0.facts
      have O_w3_1 : OwnB w3 (w2.heap.size) #[.int .i64 (N).kind, .string ⟨(N).text.toArray⟩, .int .i64 (N).n, .int .i64 (N).pos] 60 := OwnB.call OwnB.au hK (by simp only [List.mem_singleton]; omega)
      obtain ⟨y_w3_1, x_w3_1, b_w3_1⟩ := O_w3_1.facts
      have O_w3_2 : OwnB w3 (q) #[.slice ga u.globals.length gc, .slice fa u.funcs.length fc] 27 := OwnB.call OwnB.au hK (by simp only [List.mem_singleton]; omega)
      obtain ⟨y_w3_2, x_w3_2, b_w3_2⟩ := O_w3_2.facts
      have HN3 := Lib.hid (NowQ.call (NowQ.to HN2.out [w1.heap.size, w2.heap.size] Keeps.au (by simp <;> omega) (by simp [kq, mq, dq, iq, fq] <;> omega)) hP hK)
      clear hP hK
      go_wp2_with fail
      refine (CF _ (NowQ.pin (NowQ.to HN3.out [w1.heap.size, w2.heap.size] Keeps.au (by simp <;> omega) (by simp [kq, mq, dq, iq, fq] <;> omega)))).out.mono ?_
      rintro e w4 ⟨rfl, hP, hK⟩
      have hz_w4 := hK.size
      try simp only [World.size_alloc, World.size_setCell, World.size_drew, World.heap_drewN] at hz_w4
      have O_w4_0 : OwnB w4 (w1.heap.size) #[.int .i64 T.1.kind, .int .i64 T.1.ptr, .int .i64 T.1.len] 47 := OwnB.call OwnB.au hK (by simp only [List.mem_singleton]; omega)
      obtain ⟨y_w4_0, x_w4_0, b_w4_0⟩ := O_w4_0.facts
      have O_w4_1 : OwnB w4 (w2.heap.size) #[.int .i64 (N).kind, .string ⟨(N).text.toArray⟩, .int .i64 (N).n, .int .i64 (N).pos] 60 := OwnB.call OwnB.au hK (by simp only [List.mem_singleton]; omega)
      obtain ⟨y_w4_1, x_w4_1, b_w4_1⟩ := O_w4_1.facts
      have O_w4_2 : OwnB w4 (q) #[.slice ga u.globals.length gc, .slice fa u.funcs.length fc] 27 := OwnB.call OwnB.au hK (by simp only [List.mem_singleton]; omega)
      obtain ⟨y_w4_2, x_w4_2, b_w4_2⟩ := O_w4_2.facts
      have HN4 := Lib.hid (NowQ.call (NowQ.to HN3.out [w1.heap.size, w2.heap.size] Keeps.au (by simp <;> omega) (by simp [kq, mq, dq, iq, fq] <;> omega)) hP hK)
      clear hP hK
      go_wp2_with fail
      refine wpTo_start (fun w' => OwnB w' (w1.heap.size) #[.int .i64 T.1.kind, .int .i64 T.1.ptr, .int .i64 T.1.len] 47 ∧ OwnB w' (w2.heap.size) #[.int .i64 (N).kind, .string ⟨(N).text.toArray⟩, .int .i64 (N).n, .int .i64 (N).pos] 60 ∧ OwnB w' (q) #[.slice ga u.globals.length gc, .slice fa u.funcs.length fc] 27) 13 (by kernel_rfl) ⟨OwnB.au, OwnB.au, OwnB.au⟩ (fun hHeld => ?_)
      refine wpTo_take 0 (v := ?_) (by kernel_rfl) (by kernel_rfl) rfl (by kernel_rfl) (by kernel_rfl) rfl (fun _ _ _ h => h) (Or.inl ⟨by rfl, ?_⟩) hHeld ?_
      rotate_left
      · (intro w' ⟨h0, h1, h2⟩; obtain ⟨ya0, yb0, yc0⟩ := h0.facts; obtain ⟨ya1, yb1, yc1⟩ := h1.facts; obtain ⟨ya2, yb2, yc2⟩ := h2.facts; go_simp; try with_reducible rfl)
      try simp only [Act.put, List.setIfInBounds_toArray, List.set_cons_zero, List.set_cons_succ]
      refine wpTo_take 1 (v := ?_) (by kernel_rfl) (by kernel_rfl) rfl (by kernel_rfl) (by kernel_rfl) rfl (fun _ _ _ h => h) (Or.inl ⟨by rfl, ?_⟩) hHeld ?_
      rotate_left
      · (intro w' ⟨h0, h1, h2⟩; obtain ⟨ya0, yb0, yc0⟩ := h0.facts; obtain ⟨ya1, yb1, yc1⟩ := h1.facts; obtain ⟨ya2, yb2, yc2⟩ := h2.facts; go_simp; try with_reducible rfl)
      try simp only [Act.put, List.setIfInBounds_toArray, List.set_cons_zero, List.set_cons_succ]
      refine wpTo_take 2 (v := ?_) (by kernel_rfl) (by kernel_rfl) rfl (by kernel_rfl) (by kernel_rfl) rfl (fun _ _ _ h => h) (Or.inl ⟨by rfl, ?_⟩) hHeld ?_
      rotate_left
      · (intro w' ⟨h0, h1, h2⟩; obtain ⟨ya0, yb0, yc0⟩ := h0.facts; obtain ⟨ya1, yb1, yc1⟩ := h1.facts; obtain ⟨ya2, yb2, yc2⟩ := h2.facts; go_simp; try with_reducible rfl)
      try simp only [Act.put, List.setIfInBounds_toArray, List.set_cons_zero, List.set_cons_succ]
      refine wpTo_take 3 (v := ?_) (by kernel_rfl) (by kernel_rfl) rfl (by kernel_rfl) (by kernel_rfl) rfl (fun _ _ _ h => h) (Or.inl ⟨by rfl, ?_⟩) hHeld ?_
      rotate_left
      · (intro w' ⟨h0, h1, h2⟩; obtain ⟨ya0, yb0, yc0⟩ := h0.facts; obtain ⟨ya1, yb1, yc1⟩ := h1.facts; obtain ⟨ya2, yb2, yc2⟩ := h2.facts; go_simp; try with_reducible rfl)
      try simp only [Act.put, List.setIfInBounds_toArray, List.set_cons_zero, List.set_cons_succ]
      refine wpTo_take 4 (v := ?_) (by kernel_rfl) (by kernel_rfl) rfl (by kernel_rfl) (by kernel_rfl) rfl (fun _ _ _ h => h) (Or.inl ⟨by rfl, ?_⟩) hHeld ?_
      rotate_left
      · (intro w' ⟨h0, h1, h2⟩; obtain ⟨ya0, yb0, yc0⟩ := h0.facts; obtain ⟨ya1, yb1, yc1⟩ := h1.facts; obtain ⟨ya2, yb2, yc2⟩ := h2.facts; go_simp; try with_reducible rfl)
      try simp only [Act.put, List.setIfInBounds_toArray, List.set_cons_zero, List.set_cons_succ]
      refine wpTo_take 5 (v := ?_) (by kernel_rfl) (by kernel_rfl) rfl (by kernel_rfl) (by kernel_rfl) rfl (fun _ _ _ h => h) (Or.inl ⟨by rfl, ?_⟩) hHeld ?_
      rotate_left
      · (intro w' ⟨h0, h1, h2⟩; obtain ⟨ya0, yb0, yc0⟩ := h0.facts; obtain ⟨ya1, yb1, yc1⟩ := h1.facts; obtain ⟨ya2, yb2, yc2⟩ := h2.facts; go_simp; try with_reducible rfl)
      try simp only [Act.put, List.setIfInBounds_toArray, List.set_cons_zero, List.set_cons_succ]
      refine wpTo_take 6 (v := ?_) (by kernel_rfl) (by kernel_rfl) rfl (by kernel_rfl) (by kernel_rfl) rfl (fun _ _ _ h => h) (Or.inl ⟨by rfl, ?_⟩) hHeld ?_
      rotate_left
      · (intro w' ⟨h0, h1, h2⟩; obtain ⟨ya0, yb0, yc0⟩ := h0.facts; obtain ⟨ya1, yb1, yc1⟩ := h1.facts; obtain ⟨ya2, yb2, yc2⟩ := h2.facts; go_simp; try with_reducible rfl)
      try simp only [Act.put, List.setIfInBounds_toArray, List.set_cons_zero, List.set_cons_succ]
      refine wpTo_take 7 (v := ?_) (by kernel_rfl) (by kernel_rfl) rfl (by kernel_rfl) (by kernel_rfl) rfl (fun _ _ _ h => h) (Or.inl ⟨by rfl, ?_⟩) hHeld ?_
      rotate_left
      · (intro w' ⟨h0, h1, h2⟩; obtain ⟨ya0, yb0, yc0⟩ := h0.facts; obtain ⟨ya1, yb1, yc1⟩ := h1.facts; obtain ⟨ya2, yb2, yc2⟩ := h2.facts; go_simp; try with_reducible rfl)
      try simp only [Act.put, List.setIfInBounds_toArray, List.set_cons_zero, List.set_cons_succ]
      refine wpTo_one 8 (by kernel_rfl) rfl (fun K hKo => ?_)
      go_simp
      go_at_call 42
      refine (CX _ (NowQ.pin (NowQ.to HN4.out [w1.heap.size, w2.heap.size] Keeps.au (by simp <;> omega) (by simp [kq, mq, dq, iq, fq] <;> omega)))).out.mono ?_
      rintro e w5 ⟨a1, n1, p1, rfl, hP, hKk, hT⟩
      have hz_w5 := hKk.size
      try simp only [World.size_alloc, World.size_setCell, World.size_drew, World.heap_drewN] at hz_w5
      have O_w5_0 : OwnB w5 w1.heap.size #[.int .i64 T.1.kind, .int .i64 T.1.ptr, .int .i64 T.1.len] 47 := OwnB.call OwnB.au hKk (by simp only [List.mem_singleton]; omega)
      have O_w5_1 : OwnB w5 w2.heap.size #[.int .i64 (N).kind, .string ⟨(N).text.toArray⟩, .int .i64 (N).n, .int .i64 (N).pos] 60 := OwnB.call OwnB.au hKk (by simp only [List.mem_singleton]; omega)
      have O_w5_2 : OwnB w5 q #[.slice ga u.globals.length gc, .slice fa u.funcs.length fc] 27 := OwnB.call OwnB.au hKk (by simp only [List.mem_singleton]; omega)
      obtain ⟨y_w5_2, x_w5_2, b_w5_2⟩ := O_w5_2.facts
      have HN5 := Lib.hid (NowQ.callT (NowQ.to HN4.out [w1.heap.size, w2.heap.size] Keeps.au (by simp <;> omega) (by simp [kq, mq, dq, iq, fq] <;> omega)) (iq _ w5.heap.size [] F.1.init (.slice a1 n1 p1)) hP hKk hT (Nat.le_refl _) (Nat.le_refl _))
      clear hP hKk hT
      refine Shut.out hKo _ _ (fun _ _ => ⟨OwnB.au, OwnB.au, OwnB.au⟩) ?_
      clear hKo K
      try simp only [Act.put, List.setIfInBounds_toArray, List.set_cons_zero, List.set_cons_succ]
      refine wpTo_one 9 (by kernel_rfl) rfl (fun K hKo => ?_)
      go_simp
      refine Shut.out hKo _ _ (fun _ _ => ⟨OwnB.au, OwnB.au, OwnB.au⟩) ?_
      clear hKo K
      try simp only [Act.put, List.setIfInBounds_toArray, List.set_cons_zero, List.set_cons_succ]
      refine wpTo_one 10 (by kernel_rfl) rfl (fun K hKo => ?_)
      refine step_globals rfl _ _ rfl rfl rfl rfl (NowQ.to HN5.out [w1.heap.size, w2.heap.size] Keeps.au (by simp <;> omega) (by simp [kq, mq, dq, iq, fq] <;> omega)) HU.out (show OwnB _ (w5.heap.size) #[.string ⟨F.1.nm.toArray⟩, .int .i64 F.1.ty.kind, .int .i64 F.1.ty.ptr, .int .i64 F.1.ty.len, .slice a1 n1 p1, .int .i64 F.1.pos] 50 from OwnB.au) (qv := #[.slice ga u.globals.length gc, .slice fa u.funcs.length fc]) OwnB.au hlo (by omega) ?_
      intro g cap' w6 hG
      try simp only [Act.put, List.setIfInBounds_toArray, List.set_cons_zero, List.set_cons_succ]
      have O6 := hG.own
      have O6a : OwnB w6 w1.heap.size #[.int .i64 T.1.kind, .int .i64 T.1.ptr, .int .i64 T.1.len] 47 := ⟨(hG.new _ (by omega) (by rw [World.size_alloc]; omega)).trans (OwnB.alloc O_w5_0 _).blk⟩
      have O6b : OwnB w6 w2.heap.size #[.int .i64 (N).kind, .string ⟨(N).text.toArray⟩, .int .i64 (N).n, .int .i64 (N).pos] 60 := ⟨(hG.new _ (by omega) (by rw [World.size_alloc]; omega)).trans (OwnB.alloc O_w5_1 _).blk⟩
      have HG := Lib.hid hG
      clear hG
      refine Shut.out hKo _ _ (fun _ _ => ⟨O6a, O6b, O6⟩) ?_
      clear hKo K
      try simp only [Act.put, List.setIfInBounds_toArray, List.set_cons_zero, List.set_cons_succ]
      refine wpTo_one 11 (by kernel_rfl) rfl (fun K hKo => ?_)
      go_simp
      refine Shut.out hKo _ _ (fun _ _ => ⟨O6a, O6b, O6⟩) ?_
      clear hKo K
      try simp only [Act.put, List.setIfInBounds_toArray, List.set_cons_zero, List.set_cons_succ]
      refine wpTo_one 12 (by kernel_rfl) rfl (fun K hKo => ?_)
      go_simp
      refine Shut.out hKo _ _ (fun _ _ => ⟨O6a, O6b, O6⟩) ?_
      clear hKo K
      try simp only [Act.put, List.setIfInBounds_toArray, List.set_cons_zero, List.set_cons_succ]
      obtain ⟨y6, x6, z6⟩ := O6.facts
      refine wpTo_one 13 (by kernel_rfl) rfl (fun K hKo => ?_)
      go_simp
      refine Shut.out hKo _ _ (fun h _ => absurd rfl h) ?_
      clear hKo K
      try simp only [Act.put, List.setIfInBounds_toArray, List.set_cons_zero, List.set_cons_succ]
      refine wpTo_done (by kernel_rfl) ?_ _
      go_wp2_with fail
      refine bodyPost_ret (v := .tuple #[]) (by simp [results, Tryd.results23, go_sem]) rfl ?_
      exact HG.out.fin0 hn hlo.1
    · rw [if_neg h8] at hR
      obtain ⟨F, hF, hR⟩ := Option.bind_eq_some_iff.1 hR
      obtain rfl := Option.some.inj hR
      have h8' : ((u.globals.length : Int) == 16) = false := by simp; omega
      have CX := fun W H => Lib.hid (global_step c hc f (by omega) T.1 N _ F W hF H)
      clear hR hF ki h8
      unfold pv
      go_enter Tryd.func23, Tryd.ntmps23
      go_wp2_with fail
      refine (CT _ (NowQ.pin (NowQ.to HN.out [] Keeps.au (fun b hb => absurd hb List.not_mem_nil) (fun q _ b hb => absurd hb List.not_mem_nil)))).out.mono ?_
      rintro e w1 ⟨rfl, hP, hK⟩
      have hz_w1 := hK.size
      try simp only [World.size_alloc, World.size_setCell, World.size_drew, World.heap_drewN] at hz_w1
      have O_w1_0 : OwnB w1 (q) #[.slice ga u.globals.length gc, .slice fa u.funcs.length fc] 27 := OwnB.call OwnB.au hK (by simp only [List.mem_singleton]; omega)
      obtain ⟨y_w1_0, x_w1_0, b_w1_0⟩ := O_w1_0.facts
      have HN1 := Lib.hid (NowQ.call (NowQ.to HN.out [] Keeps.au (fun b hb => absurd hb List.not_mem_nil) (fun q _ b hb => absurd hb List.not_mem_nil)) hP hK)
      clear hP hK
      go_wp2_with fail
      refine (CN _ (NowQ.pin (NowQ.to HN1.out [w1.heap.size] Keeps.au (by simp <;> omega) (by simp [kq, mq, dq, iq, fq] <;> omega)))).out.mono ?_
      rintro e w2 ⟨rfl, hP, hK⟩
      have hz_w2 := hK.size
      try simp only [World.size_alloc, World.size_setCell, World.size_drew, World.heap_drewN] at hz_w2
      have O_w2_0 : OwnB w2 (w1.heap.size) #[.int .i64 T.1.kind, .int .i64 T.1.ptr, .int .i64 T.1.len] 47 := OwnB.call OwnB.au hK (by simp only [List.mem_singleton]; omega)
      obtain ⟨y_w2_0, x_w2_0, b_w2_0⟩ := O_w2_0.facts
      have O_w2_1 : OwnB w2 (q) #[.slice ga u.globals.length gc, .slice fa u.funcs.length fc] 27 := OwnB.call OwnB.au hK (by simp only [List.mem_singleton]; omega)
      obtain ⟨y_w2_1, x_w2_1, b_w2_1⟩ := O_w2_1.facts
      have HN2 := Lib.hid (NowQ.call (NowQ.to HN1.out [w1.heap.size] Keeps.au (by simp <;> omega) (by simp [kq, mq, dq, iq, fq] <;> omega)) hP hK)
      clear hP hK
      go_wp2_with fail
      refine (CI _ (NowQ.pin (NowQ.to HN2.out [w1.heap.size, w2.heap.size] Keeps.au (by simp <;> omega) (by simp [kq, mq, dq, iq, fq] <;> omega)))).out.mono ?_
      rintro e w3 ⟨rfl, hP, hK⟩
      have hz_w3 := hK.size
      try simp only [World.size_alloc, World.size_setCell, World.size_drew, World.heap_drewN] at hz_w3
      have O_w3_0 : OwnB w3 (w1.heap.size) #[.int .i64 T.1.kind, .int .i64 T.1.ptr, .int .i64 T.1.len] 47 := OwnB.call OwnB.au hK (by simp only [List.mem_singleton]; omega)
      obtain ⟨y_w3_0, x_w3_0, b_w3_0⟩ := O_w3_0.facts
      have O_w3_1 : OwnB w3 (w2.heap.size) #[.int .i64 (N).kind, .string ⟨(N).text.toArray⟩, .int .i64 (N).n, .int .i64 (N).pos] 60 := OwnB.call OwnB.au hK (by simp only [List.mem_singleton]; omega)
      obtain ⟨y_w3_1, x_w3_1, b_w3_1⟩ := O_w3_1.facts
      have O_w3_2 : OwnB w3 (q) #[.slice ga u.globals.length gc, .slice fa u.funcs.length fc] 27 := OwnB.call OwnB.au hK (by simp only [List.mem_singleton]; omega)
      obtain ⟨y_w3_2, x_w3_2, b_w3_2⟩ := O_w3_2.facts
      have HN3 := Lib.hid (NowQ.call (NowQ.to HN2.out [w1.heap.size, w2.heap.size] Keeps.au (by simp <;> omega) (by simp [kq, mq, dq, iq, fq] <;> omega)) hP hK)
      clear hP hK
      go_wp2_with fail
      refine wpTo_start (fun w' => OwnB w' (w1.heap.size) #[.int .i64 T.1.kind, .int .i64 T.1.ptr, .int .i64 T.1.len] 47 ∧ OwnB w' (w2.heap.size) #[.int .i64 (N).kind, .string ⟨(N).text.toArray⟩, .int .i64 (N).n, .int .i64 (N).pos] 60 ∧ OwnB w' (q) #[.slice ga u.globals.length gc, .slice fa u.funcs.length fc] 27) 13 (by kernel_rfl) ⟨OwnB.au, OwnB.au, OwnB.au⟩ (fun hHeld => ?_)
      refine wpTo_take 0 (v := ?_) (by kernel_rfl) (by kernel_rfl) rfl (by kernel_rfl) (by kernel_rfl) rfl (fun _ _ _ h => h) (Or.inl ⟨by rfl, ?_⟩) hHeld ?_
      rotate_left
      · (intro w' ⟨h0, h1, h2⟩; obtain ⟨ya0, yb0, yc0⟩ := h0.facts; obtain ⟨ya1, yb1, yc1⟩ := h1.facts; obtain ⟨ya2, yb2, yc2⟩ := h2.facts; go_simp; try with_reducible rfl)
      try simp only [Act.put, List.setIfInBounds_toArray, List.set_cons_zero, List.set_cons_succ]
      refine wpTo_take 1 (v := ?_) (by kernel_rfl) (by kernel_rfl) rfl (by kernel_rfl) (by kernel_rfl) rfl (fun _ _ _ h => h) (Or.inl ⟨by rfl, ?_⟩) hHeld ?_
      rotate_left
      · (intro w' ⟨h0, h1, h2⟩; obtain ⟨ya0, yb0, yc0⟩ := h0.facts; obtain ⟨ya1, yb1, yc1⟩ := h1.facts; obtain ⟨ya2, yb2, yc2⟩ := h2.facts; go_simp; try with_reducible rfl)
      try simp only [Act.put, List.setIfInBounds_toArray, List.set_cons_zero, List.set_cons_succ]
      refine wpTo_take 2 (v := ?_) (by kernel_rfl) (by kernel_rfl) rfl (by kernel_rfl) (by kernel_rfl) rfl (fun _ _ _ h => h) (Or.inl ⟨by rfl, ?_⟩) hHeld ?_
      rotate_left
      · (intro w' ⟨h0, h1, h2⟩; obtain ⟨ya0, yb0, yc0⟩ := h0.facts; obtain ⟨ya1, yb1, yc1⟩ := h1.facts; obtain ⟨ya2, yb2, yc2⟩ := h2.facts; go_simp; try with_reducible rfl)
      try simp only [Act.put, List.setIfInBounds_toArray, List.set_cons_zero, List.set_cons_succ]
      refine wpTo_take 3 (v := ?_) (by kernel_rfl) (by kernel_rfl) rfl (by kernel_rfl) (by kernel_rfl) rfl (fun _ _ _ h => h) (Or.inl ⟨by rfl, ?_⟩) hHeld ?_
      rotate_left
      · (intro w' ⟨h0, h1, h2⟩; obtain ⟨ya0, yb0, yc0⟩ := h0.facts; obtain ⟨ya1, yb1, yc1⟩ := h1.facts; obtain ⟨ya2, yb2, yc2⟩ := h2.facts; go_simp; try with_reducible rfl)
      try simp only [Act.put, List.setIfInBounds_toArray, List.set_cons_zero, List.set_cons_succ]
      refine wpTo_take 4 (v := ?_) (by kernel_rfl) (by kernel_rfl) rfl (by kernel_rfl) (by kernel_rfl) rfl (fun _ _ _ h => h) (Or.inl ⟨by rfl, ?_⟩) hHeld ?_
      rotate_left
      · (intro w' ⟨h0, h1, h2⟩; obtain ⟨ya0, yb0, yc0⟩ := h0.facts; obtain ⟨ya1, yb1, yc1⟩ := h1.facts; obtain ⟨ya2, yb2, yc2⟩ := h2.facts; go_simp; try with_reducible rfl)
      try simp only [Act.put, List.setIfInBounds_toArray, List.set_cons_zero, List.set_cons_succ]
      refine wpTo_take 5 (v := ?_) (by kernel_rfl) (by kernel_rfl) rfl (by kernel_rfl) (by kernel_rfl) rfl (fun _ _ _ h => h) (Or.inl ⟨by rfl, ?_⟩) hHeld ?_
      rotate_left
      · (intro w' ⟨h0, h1, h2⟩; obtain ⟨ya0, yb0, yc0⟩ := h0.facts; obtain ⟨ya1, yb1, yc1⟩ := h1.facts; obtain ⟨ya2, yb2, yc2⟩ := h2.facts; go_simp; try with_reducible rfl)
      try simp only [Act.put, List.setIfInBounds_toArray, List.set_cons_zero, List.set_cons_succ]
      refine wpTo_take 6 (v := ?_) (by kernel_rfl) (by kernel_rfl) rfl (by kernel_rfl) (by kernel_rfl) rfl (fun _ _ _ h => h) (Or.inl ⟨by rfl, ?_⟩) hHeld ?_
      rotate_left
      · (intro w' ⟨h0, h1, h2⟩; obtain ⟨ya0, yb0, yc0⟩ := h0.facts; obtain ⟨ya1, yb1, yc1⟩ := h1.facts; obtain ⟨ya2, yb2, yc2⟩ := h2.facts; go_simp; try with_reducible rfl)
      try simp only [Act.put, List.setIfInBounds_toArray, List.set_cons_zero, List.set_cons_succ]
      refine wpTo_take 7 (v := ?_) (by kernel_rfl) (by kernel_rfl) rfl (by kernel_rfl) (by kernel_rfl) rfl (fun _ _ _ h => h) (Or.inl ⟨by rfl, ?_⟩) hHeld ?_
      rotate_left
      · (intro w' ⟨h0, h1, h2⟩; obtain ⟨ya0, yb0, yc0⟩ := h0.facts; obtain ⟨ya1, yb1, yc1⟩ := h1.facts; obtain ⟨ya2, yb2, yc2⟩ := h2.facts; go_simp; try with_reducible rfl)
      try simp only [Act.put, List.setIfInBounds_toArray, List.set_cons_zero, List.set_cons_succ]
      refine wpTo_one 8 (by kernel_rfl) rfl (fun K hKo => ?_)
      go_simp
      go_at_call 42
      refine (CX _ (NowQ.pin (NowQ.to HN3.out [w1.heap.size, w2.heap.size] Keeps.au (by simp <;> omega) (by simp [kq, mq, dq, iq, fq] <;> omega)))).out.mono ?_
      rintro e w5 ⟨a1, n1, p1, rfl, hP, hKk, hT⟩
      have hz_w5 := hKk.size
      try simp only [World.size_alloc, World.size_setCell, World.size_drew, World.heap_drewN] at hz_w5
      have O_w5_0 : OwnB w5 w1.heap.size #[.int .i64 T.1.kind, .int .i64 T.1.ptr, .int .i64 T.1.len] 47 := OwnB.call OwnB.au hKk (by simp only [List.mem_singleton]; omega)
      have O_w5_1 : OwnB w5 w2.heap.size #[.int .i64 (N).kind, .string ⟨(N).text.toArray⟩, .int .i64 (N).n, .int .i64 (N).pos] 60 := OwnB.call OwnB.au hKk (by simp only [List.mem_singleton]; omega)
      have O_w5_2 : OwnB w5 q #[.slice ga u.globals.length gc, .slice fa u.funcs.length fc] 27 := OwnB.call OwnB.au hKk (by simp only [List.mem_singleton]; omega)
      obtain ⟨y_w5_2, x_w5_2, b_w5_2⟩ := O_w5_2.facts
      have HN5 := Lib.hid (NowQ.callT (NowQ.to HN3.out [w1.heap.size, w2.heap.size] Keeps.au (by simp <;> omega) (by simp [kq, mq, dq, iq, fq] <;> omega)) (iq _ w5.heap.size [] F.1.init (.slice a1 n1 p1)) hP hKk hT (Nat.le_refl _) (Nat.le_refl _))
      clear hP hKk hT
      refine Shut.out hKo _ _ (fun _ _ => ⟨OwnB.au, OwnB.au, OwnB.au⟩) ?_
      clear hKo K
      try simp only [Act.put, List.setIfInBounds_toArray, List.set_cons_zero, List.set_cons_succ]
      refine wpTo_one 9 (by kernel_rfl) rfl (fun K hKo => ?_)
      go_simp
      refine Shut.out hKo _ _ (fun _ _ => ⟨OwnB.au, OwnB.au, OwnB.au⟩) ?_
      clear hKo K
      try simp only [Act.put, List.setIfInBounds_toArray, List.set_cons_zero, List.set_cons_succ]
      refine wpTo_one 10 (by kernel_rfl) rfl (fun K hKo => ?_)
      refine step_globals rfl _ _ rfl rfl rfl rfl (NowQ.to HN5.out [w1.heap.size, w2.heap.size] Keeps.au (by simp <;> omega) (by simp [kq, mq, dq, iq, fq] <;> omega)) HU.out (show OwnB _ (w5.heap.size) #[.string ⟨F.1.nm.toArray⟩, .int .i64 F.1.ty.kind, .int .i64 F.1.ty.ptr, .int .i64 F.1.ty.len, .slice a1 n1 p1, .int .i64 F.1.pos] 50 from OwnB.au) (qv := #[.slice ga u.globals.length gc, .slice fa u.funcs.length fc]) OwnB.au hlo (by omega) ?_
      intro g cap' w6 hG
      try simp only [Act.put, List.setIfInBounds_toArray, List.set_cons_zero, List.set_cons_succ]
      have O6 := hG.own
      have O6a : OwnB w6 w1.heap.size #[.int .i64 T.1.kind, .int .i64 T.1.ptr, .int .i64 T.1.len] 47 := ⟨(hG.new _ (by omega) (by rw [World.size_alloc]; omega)).trans (OwnB.alloc O_w5_0 _).blk⟩
      have O6b : OwnB w6 w2.heap.size #[.int .i64 (N).kind, .string ⟨(N).text.toArray⟩, .int .i64 (N).n, .int .i64 (N).pos] 60 := ⟨(hG.new _ (by omega) (by rw [World.size_alloc]; omega)).trans (OwnB.alloc O_w5_1 _).blk⟩
      have HG := Lib.hid hG
      clear hG
      refine Shut.out hKo _ _ (fun _ _ => ⟨O6a, O6b, O6⟩) ?_
      clear hKo K
      try simp only [Act.put, List.setIfInBounds_toArray, List.set_cons_zero, List.set_cons_succ]
      refine wpTo_one 11 (by kernel_rfl) rfl (fun K hKo => ?_)
      go_simp
      refine Shut.out hKo _ _ (fun _ _ => ⟨O6a, O6b, O6⟩) ?_
      clear hKo K
      try simp only [Act.put, List.setIfInBounds_toArray, List.set_cons_zero, List.set_cons_succ]
      refine wpTo_one 12 (by kernel_rfl) rfl (fun K hKo => ?_)
      go_simp
      refine Shut.out hKo _ _ (fun _ _ => ⟨O6a, O6b, O6⟩) ?_
      clear hKo K
      try simp only [Act.put, List.setIfInBounds_toArray, List.set_cons_zero, List.set_cons_succ]
      obtain ⟨y6, x6, z6⟩ := O6.facts
      refine wpTo_one 13 (by kernel_rfl) rfl (fun K hKo => ?_)
      go_simp
      refine Shut.out hKo _ _ (fun h _ => absurd rfl h) ?_
      clear hKo K
      try simp only [Act.put, List.setIfInBounds_toArray, List.set_cons_zero, List.set_cons_succ]
      refine wpTo_done (by kernel_rfl) ?_ _
      go_wp2_with fail
      refine bodyPost_ret (v := .tuple #[]) (by simp [results, Tryd.results23, go_sem]) rfl ?_
      exact HG.out.fin0 hn hlo.1
end Go.Proofs.YtjmemapkipkocaaDoor

/-
  The map of meanings, made.
-/
namespace Go.Proofs.YtjmemapkipkocaaDoor
open Go.RowKit Go.Maps
set_option linter.unusedVariables false
set_option linter.unusedSimpArgs false
set_option maxRecDepth 100000
set_option maxHeartbeats 4000000

def signC (l : List MRow) : List Value := l.flatMap fun m => [.int .i64 m.1.1, .string ⟨m.1.2.toArray⟩, .int .i64 m.2.1, .int .i64 m.2.2]
theorem wp_lit {P : Program} {o : Oper} {a : Act} {w w' : World} {v : Value} {next : Act → World → Prop} {Q : Exit → Act → World → Prop}
    (h : (execOp a.eval o).run P w = .ok (.value v) w') (hn : next (a.put o.dst v) w') : Oper.wp P o a w next Q := by
  unfold Oper.wp; rw [h]; exact hn
theorem allSigned_any (w : World) : Calls Tryd.prog 21 #[] w fun e w' => e = .returned (.slice (some ⟨w.heap.size, 0, none⟩) 40 40) ∧ w' = w.alloc (.cells (signC meanL).toArray 71) := by
  go_enter Tryd.func21, Tryd.ntmps21
  go_wp2_with fail
  refine wp_lit (v := .slice (some ⟨w.heap.size, 0, none⟩) 40 40) (w' := w.alloc (.cells (signC meanL).toArray 71)) (by kernel_rfl) ?_
  first
    | (go_wp2_with fail; go_ret; exact ⟨rfl, rfl⟩)
    | (go_wp2_with fail; go_outline)
    | go_outline
end Go.Proofs.YtjmemapkipkocaaDoor

/-
  The map of meanings.
-/
namespace Go.Proofs.YtjmemapkipkocaaDoor
open Go.RowKit Go.Maps
set_option linter.unusedVariables false
set_option linter.unusedSimpArgs false
set_option maxRecDepth 100000
set_option maxHeartbeats 1000000

theorem signC_get : ∀ (l : List MRow) (k : Nat) (m : MRow) (j : Nat) (u : Value), l[k]? = some m → [Value.int .i64 m.1.1, .string ⟨m.1.2.toArray⟩, .int .i64 m.2.1, .int .i64 m.2.2][j]? = some u → (signC l)[k * 4 + j]? = some u := by
  intro l
  induction l with
  | nil => intro k m j u h; cases h
  | cons t l ih =>
    intro k m j u hk hu
    have hj : j < 4 := (List.getElem?_eq_some_iff.1 hu).1
    cases k with
    | zero =>
      obtain rfl : t = m := by simpa using hk
      simp only [signC, List.flatMap_cons, Nat.zero_mul, Nat.zero_add]
      rw [List.getElem?_append_left (by simpa using hj)]
      exact hu
    | succ k =>
      simp only [signC, List.flatMap_cons]
      rw [List.getElem?_append_right (by simp; omega)]
      have := ih k m j u (by simpa using hk) hu
      rw [← this]
      simp only [signC]
      congr 1
      simp; omega
theorem mean_new : ∀ k, k < 40 → (meanL.take k).find? (fun x => x.1 == (meanL.getD k ((0, []), (0, 0))).1) = none := by decide +kernel
theorem meanings_any (w : World) : Calls Tryd.prog 12 #[] w fun e w' => ∃ b, e = .returned (.map (some b)) ∧ w.heap.size ≤ b ∧ w'.heap[b]? = some (mapObj meanL) ∧ Below w.heap.size w w' := by
  have CA := fun W => Lib.hid (allSigned_any W)
  have hmm := @run_makeMap Tryd.prog
  go_enter Tryd.func12, Tryd.ntmps12
  go_wp2_with fail
  refine (CA _).out.mono ?_
  rintro e w1 ⟨rfl, hw1⟩
  go_wp2_with fail
  have hsz : w1.heap.size = w.heap.size + 2 := by rw [hw1]; simp
  go_loopw [3, 7, 8, 9, 10, 11, 12, 13, 14, 15, 16] (fun _ i _ _ _ _ _ _ _ _ _ wr => ∃ k : Nat, k ≤ 40 ∧ i = .int .i64 k ∧ wr.heap[w.heap.size]? = some (mapObj (meanL.take k)) ∧ wr.heap[w.heap.size + 1]? = some (.cells (signC meanL).toArray 71 (0, 0)) ∧ Below w.heap.size w wr) (fun _ i _ _ _ _ _ _ _ _ _ _ => 40 - (intOf i).toNat)
  case atStart => exact ⟨0, by omega, rfl, by (show ((w.heap.push _).push _)[w.heap.size]? = _; rw [Array.getElem?_push, if_neg (by simp), Array.getElem?_push, if_pos rfl]; rfl), by (show ((w.heap.push _).push _)[w.heap.size + 1]? = _; rw [Array.getElem?_push, if_pos (by simp)]), (((Below.refl _ _).alloc (Nat.le_refl _) _).alloc (by simp) _)⟩
  case round =>
    obtain ⟨k, hk, rfl, hm, hc, hb⟩ := hrel
    by_cases hlt : k < 40
    · obtain ⟨m, hmk⟩ : ∃ m, meanL[k]? = some m := ⟨_, List.getElem?_eq_getElem (by show k < 40; exact hlt)⟩
      have hcell : ∀ (j : Nat) (u : Value), [Value.int .i64 m.1.1, .string ⟨m.1.2.toArray⟩, .int .i64 m.2.1, .int .i64 m.2.2][j]? = some u → wr.cell? ⟨w.heap.size + 1, k * 4 + j, none⟩ = some u := fun j u hu => by
        rw [cellB hc]
        simpa using signC_get meanL k m j u hmk hu
      have c0 := hcell 0 _ rfl
      have c1 := hcell 1 _ rfl
      have c2 := hcell 2 _ rfl
      have c3 := hcell 3 _ rfl
      simp only [Nat.add_zero] at c0
      have hnew : (meanL.take k).find? (fun x => x.1 == m.1) = none := by
        have h1 := mean_new k hlt
        rw [List.getD_eq_getElem?_getD, hmk] at h1
        exact h1
      have hput := fun (W : World) (h : W.heap[w.heap.size]? = some (mapObj (meanL.take k))) => put_mean W w.heap.size _ m h hnew
      have ht1 : meanL.take k ++ [m] = meanL.take (k + 1) := by
        rw [List.take_add_one, hmk]; rfl
      rw [ht1] at hput
      simp only [keyV, valV] at hput
      have hd : decide ((k : Int) < 40) = true := by simp; omega
      have hk0 : (0 : Int) ≤ (k : Int) := by omega
      have hk40 : (k : Int) < 40 := by omega
      have hbl : w.heap.size + 2 ≤ wr.heap.size := by have := lt_of_blk hc; omega
      clear hcell hnew hmk ht1
      go_wp2_with fail
      rw [hput _ (by show (wr.heap.push _)[w.heap.size]? = _; rw [Array.getElem?_push, if_neg (by omega)]; exact hm)]
      simp only [Result.andThen_ok, Oper.upon]
      go_wp2_with fail
      go_roundw
      case measure => simp [intOf]; omega
      case rel =>
        refine ⟨k + 1, by omega, by simp, ?_, ?_, ?_⟩
        · rw [Array.getElem?_setIfInBounds, if_pos rfl, if_pos (by rw [World.size_alloc]; omega)]
        · rw [Array.getElem?_setIfInBounds, if_neg (by omega)]
          show (wr.heap.push _)[w.heap.size + 1]? = _
          rw [Array.getElem?_push, if_neg (by omega)]
          exact hc
        · refine hb.trans ⟨rfl, rfl, rfl, ?_, fun i hi => ?_⟩
          · show _ ≤ (Array.setIfInBounds _ _ _).size
            rw [Array.size_setIfInBounds, World.size_alloc]; omega
          · show (Array.setIfInBounds _ _ _)[i]? = _
            rw [Array.getElem?_setIfInBounds, if_neg (by omega)]
            show (wr.heap.push _)[i]? = _
            rw [Array.getElem?_push, if_neg (by omega)]
    · obtain rfl : k = 40 := by omega
      have hd : decide (((40 : Nat) : Int) < 40) = false := by decide
      rw [show meanL.take 40 = meanL from rfl] at hm
      go_wp2_with fail
      go_ret
      exact ⟨_, rfl, Nat.le_refl _, hm, hb⟩
end Go.Proofs.YtjmemapkipkocaaDoor

/-
  A whole program.
-/
namespace Go.Proofs.YtjmemapkipkocaaDoor
open Go.RowKit Go.Maps
set_option linter.unusedVariables false
set_option linter.unusedSimpArgs false
set_option maxRecDepth 100000
set_option maxHeartbeats 1000000

theorem item_len (l : List Tok) (f : Nat) (u : Un) (s : St) (R : Un × St) (h : P.item l f u s = some R) : R.1.funcs.length ≤ u.funcs.length + 1 ∧ R.1.globals.length ≤ u.globals.length + 1 := by
  simp only [P.item] at h
  split at h <;> (obtain ⟨F, hF, h⟩ := Option.bind_eq_some_iff.1 h; obtain rfl := Option.some.inj h; simp)
/-- What a call does that returns a program. -/
def DoesN (c : Cx) (R : Un × St) (w : World) (e : Ending) (w' : World) : Prop :=
  ∃ ga gn gc fa fn fc, e = .returned (.agg #[.slice ga gn gc, .slice fa fn fc]) ∧ PIn w' c R.2 ∧ Keeps [c.g] w w' ∧ UIn w' w.heap.size w'.heap.size R.1 (.slice ga gn gc) (.slice fa fn fc)
theorem UIn.wide {w : World} {lo hi lo' hi' : Nat} {u : Un} {gv fv : Value} (h : UIn w lo hi u gv fv) (h1 : lo' ≤ lo) (h2 : hi ≤ hi') (h3 : hi' ≤ w.heap.size) : UIn w lo' hi' u gv fv := by
  obtain ⟨_, Fg, Ff, h4, h5, h6, h7⟩ := h
  exact ⟨h3, Fg, Ff, h4, h5, h6, fun b hm => by have := h7 b hm; omega⟩
/-- Where the loop is. -/
structure UAt (c : Cx) (w : World) (f : Nat) (R : Un × St) (k : Nat) (wr : World) : Prop where
  ex : ∃ (u : Un) (s0 : St) (ga fa : Option Addr) (gn gc fn fc : Nat), PIn wr c s0 ∧ OwnB wr w.heap.size #[.slice none 0 0, .slice none 0 0] 27 ∧ OwnB wr (w.heap.size + 1) #[.slice ga gn gc, .slice fa fn fc] 27 ∧ UIn wr (w.heap.size + 2) wr.heap.size u (.slice ga gn gc) (.slice fa fn fc) ∧
    Keeps [c.g] w wr ∧ P.unitL c.l f k u s0 = some R ∧ u.funcs.length + k ≤ 1000000 ∧ u.globals.length + k ≤ 1000000
theorem unit_step (c : Cx) (hc : c.Ok) (f : Nat) (hf : f + 2 ≤ 1000000000) (GS : ∀ k, k ≤ f → GoodS c k) (g : Nat) (hg : g ≤ 900000) (s : St) (R : Un × St) (w : World) (hR : P.unitL c.l f g un0 s = some R) (h : PIn w c s) :
    Calls Tryd.prog 13 #[pv c] w (DoesN c R w) := by
  have hlg := lt_of_blk h.blk
  have hlt := lt_of_blk h.tok.choose_spec.1
  have hlm := lt_of_blk h.map
  have hlz := lt_of_blk h.siz
  have HP := Lib.hid h
  have HR := Lib.hid hR
  clear h hR
  unfold pv
  go_enter Tryd.func13, Tryd.ntmps13
  go_wp2_with fail
  go_loopg [4, 5, 6, 7, 8, 9] g (fun k _ _ _ _ _ _ wr => UAt c w f R k wr)
  case atStart => exact ⟨un0, s, none, none, 0, 0, 0, 0, (HP.out.alloc _).alloc _, OwnB.alloc (OwnB.new rfl) _, OwnB.new (by simp), UIn.nil (Nat.le_refl _), ((Keeps.refl _ _).alloc _).alloc _, HR.out, by simp [un0]; omega, by simp [un0]; omega⟩
  case round =>
    obtain ⟨u, s0, ga, fa, gn, gc, fn, fc, hP, hO0, hO1, hU, hK, hu, hb1, hb2⟩ := hrel
    have hsz := lt_of_blk hO1.blk
    have CT := fun W H => Lib.hid (token_any c hc s0 W H)
    obtain ⟨T, hT⟩ : ∃ T, T = P.tok c.l s0 := ⟨_, rfl⟩
    rw [← hT] at CT
    obtain ⟨k, rfl⟩ : ∃ k, gk = k + 1 := by
      cases gk with
      | zero => cases hu
      | succ k => exact ⟨k, rfl⟩
    unfold P.unitL at hu
    rw [← hT] at hu
    have HPr := Lib.hid hP
    have HK := Lib.hid hK
    have HU := Lib.hid hU
    have tk0 := tok_field0
    have tk1 := tok_field1
    have tk2 := tok_field2
    have tk3 := tok_field3
    by_cases hk0 : T.kind = 0
    · rw [if_pos hk0] at hu
      obtain rfl := Option.some.inj hu
      have hk1 : (T.kind != 0) = false := by simp [hk0]
      clear hP hK hU hT hk0 hu
      go_wp2_with fail
      refine (CT _ HPr.out).out.mono ?_
      rintro e w1 ⟨rfl, hP1, hK1⟩
      have O0 : OwnB w1 w.heap.size #[.slice none 0 0, .slice none 0 0] 27 := OwnB.call hO0 hK1 (by simp only [List.mem_singleton]; omega)
      have O1 : OwnB w1 (w.heap.size + 1) #[.slice ga gn gc, .slice fa fn fc] 27 := OwnB.call hO1 hK1 (by simp only [List.mem_singleton]; omega)
      obtain ⟨y0, x0, z0⟩ := O0.facts
      obtain ⟨y1, x1, z1⟩ := O1.facts
      have hz1 := hK1.size
      have HP1 := Lib.hid hP1
      have HK1 := Lib.hid hK1
      clear hP1 hK1
      go_wp2_with fail
      refine bodyPost_ret (v := .agg #[.slice ga gn gc, .slice fa fn fc]) (by simp [results, Tryd.results13, go_sem, *]) rfl ?_
      have hb : ∀ b, b ≠ w.heap.size → ((w1.setCell ⟨w.heap.size, 0, none⟩ (.slice ga gn gc)).setCell ⟨w.heap.size, 1, none⟩ (.slice fa fn fc)).heap[b]? = w1.heap[b]? := fun b h => (Below.heap_setCell _ _ _ _ h).trans (Below.heap_setCell _ _ _ _ h)
      have hz : ((w1.setCell ⟨w.heap.size, 0, none⟩ (.slice ga gn gc)).setCell ⟨w.heap.size, 1, none⟩ (.slice fa fn fc)).heap.size = w1.heap.size := by simp only [World.size_setCell]
      refine ⟨ga, gn, gc, fa, fn, fc, rfl, (HP1.out.setCell _ _ (by show w.heap.size ≠ _; omega) (by show w.heap.size ≠ _; omega) (by show w.heap.size ≠ _; omega) (by show w.heap.size ≠ _; omega)).setCell _ _ (by show w.heap.size ≠ _; omega) (by show w.heap.size ≠ _; omega) (by show w.heap.size ≠ _; omega) (by show w.heap.size ≠ _; omega),
        ((HK.out.trans HK1.out).setCell _ (.inl (Nat.le_refl _)) _).setCell _ (.inl (Nat.le_refl _)) _, ?_⟩
      have h5 : UIn w1 (w.heap.size + 2) wr.heap.size u (.slice ga gn gc) (.slice fa fn fc) := HU.out.of_heap hz1 (fun b h1 h2 => HK1.out.block b h2 (by simp; omega))
      exact (h5.of_heap (by rw [hz]; exact Nat.le_refl _) (fun b h1 _ => hb b (by omega))).wide (by omega) (by rw [hz]; exact hz1) (Nat.le_refl _)
    · rw [if_neg hk0] at hu
      obtain ⟨A, hA, hu⟩ := Option.bind_eq_some_iff.1 hu
      have hk1 : (T.kind != 0) = true := by simp [hk0]
      have hln := item_len c.l f u s0 A hA
      have HA := Lib.hid hA
      have Hu := Lib.hid hu
      clear hP hK hU hT hk0 hu hA
      go_wp2_with fail
      refine (CT _ HPr.out).out.mono ?_
      rintro e w1 ⟨rfl, hP1, hK1⟩
      have O0 : OwnB w1 w.heap.size #[.slice none 0 0, .slice none 0 0] 27 := OwnB.call hO0 hK1 (by simp only [List.mem_singleton]; omega)
      have O1 : OwnB w1 (w.heap.size + 1) #[.slice ga gn gc, .slice fa fn fc] 27 := OwnB.call hO1 hK1 (by simp only [List.mem_singleton]; omega)
      have hz1 := hK1.size
      have h5 : UIn w1 (w.heap.size + 2) w1.heap.size u (.slice ga gn gc) (.slice fa fn fc) := (HU.out.of_heap hz1 (fun b h1 h2 => hK1.block b h2 (by simp; omega))).wide (Nat.le_refl _) hz1 (Nat.le_refl _)
      have CI := Lib.hid (item_step c hc f hf GS (w.heap.size + 1) (w.heap.size + 2) u s0 A w1 ga fa gn gc fn fc ⟨by omega, by omega⟩ HA.out hP1 O1 ⟨by omega, by omega, by omega, by omega⟩ ⟨by omega, by omega, by omega, by omega, by omega, by omega⟩ h5)
      have HK1 := Lib.hid (HK.out.trans hK1)
      clear hP1 hK1 h5
      go_wp2_with fail
      refine CI.out.mono ?_
      rintro e w2 ⟨ga2, gn2, gc2, fa2, fn2, fc2, rfl, hP2, hO2, hU2, hz2, hot, hold⟩
      have HP2 := Lib.hid hP2
      have HU2 := Lib.hid hU2
      have HO := Lib.hid hold
      clear hP2 hU2 hold
      go_wp2_with fail
      go_roundg k
      case measure => omega
      case rel =>
        refine ⟨A.1, A.2, ga2, fa2, gn2, gc2, fn2, fc2, HP2.out, ⟨(HO.out _ (by omega) (by omega) (by omega)).trans O0.blk⟩, hO2, HU2.out, ⟨hot.1.trans HK1.out.os, hot.2.1.trans HK1.out.tape, hot.2.2.trans HK1.out.output, by omega, fun b h1 h2 => ?_⟩, Hu.out, by omega, by omega⟩
        simp only [List.mem_singleton] at h2
        exact (HO.out b (by omega) (by omega) h2).trans (HK1.out.block b h1 (by simp [h2]))
end Go.Proofs.YtjmemapkipkocaaDoor

/-
  Statements: 'local'.
-/
namespace Go.Proofs.YtjmemapkipkocaaDoor
open Go.RowKit Go.Maps
set_option linter.unusedVariables false
set_option linter.unusedSimpArgs false
set_option maxRecDepth 100000
set_option maxHeartbeats 2000000

theorem local_step (c : Cx) (hc : c.Ok) (f : Nat) (d p : Int) (s : St) (R : Sm × St) (w : World) (q : Nat) (h0 : 0 ≤ d) (hd : d + (f + 1) ≤ 1000000000) (hq : OwnB w q #[.int .i64 0, .slice none 0 0, .slice none 0 0, .int .i64 0, .int .i64 0, .int .i64 0, .string ⟨#[]⟩, .int .i64 0, .int .i64 p] 82)
    (hn : q ≠ c.g ∧ q ≠ c.gt ∧ q ≠ c.mb ∧ q ≠ 2) (hR : P.loc c.l (P.recs c.l f) d s { sm0 with pos := p } = some R) (h : PIn w c s) : Calls Tryd.prog 86 #[pv c, .pointer (some ⟨q, 0, none⟩), .int .i64 d] w (DoesW c q R w) := by
  have hqlt := lt_of_blk hq.blk
  have hq1 : q ≠ c.g := hn.1
  have HS := Lib.hid (NowS.start h hqlt hn)
  have hg := HS.out.g
  have hgt := HS.out.gt
  obtain ⟨yq, xq, zq⟩ := hq.facts
  have hw : wrap64 (d + 1) = d + 1 := wrapJ (by omega) (by omega)
  obtain ⟨Y, hY⟩ : ∃ Y, Y = P.typ c.l s := ⟨_, rfl⟩
  obtain ⟨V, hV⟩ : ∃ V, V = P.kindT c.l 1 Y.2 := ⟨_, rfl⟩
  obtain ⟨s2, hs2⟩ : ∃ s2, s2 = P.kind c.l 1 Y.2 := ⟨_, rfl⟩
  obtain ⟨G, hG⟩ : ∃ G, G = P.length c.l s2 := ⟨_, rfl⟩
  have CT := fun W H => Lib.hid (typeOf_any c hc s W H)
  have CV := fun W H => Lib.hid (name_any c hc Y.2 W H)
  have CG := fun W H => Lib.hid (length_any c hc s2 W H)
  rw [← hY] at CT
  rw [← hV, ← hs2] at CV
  rw [← hG] at CG
  have CE := fun W H => Lib.hid (accept_any c hc G.2 W H [61])
  simp only [P.loc, ← hY, ← hV, ← hs2, ← hG] at hR
  have tk0 := tok_field0
  have tk1 := tok_field1
  have tk2 := tok_field2
  have tk3 := tok_field3
  by_cases hz : G.1 = 0
  · have hz1 : (G.1 == 0) = true := by simp [hz]
    cases ki : P.is c.l [61] G.2 with
    | true =>
      rw [ki, if_pos ⟨hz, rfl⟩] at hR
      obtain ⟨A, hA, hR⟩ := Option.bind_eq_some_iff.1 hR
      obtain rfl := Option.some.inj hR
      rw [ki, show P.acc c.l [61] G.2 = P.next c.l G.2 by simp [P.acc, ki]] at CE
      have CD := fun W H => Lib.hid (told_step c hc f d (P.next c.l G.2) A W h0 hd hA H)
      clear h hR hA hz hY hV hs2 hG ki
      unfold pv
      go_enter Tryd.func86, Tryd.ntmps86
      go_wp2_with fail
      refine (CT _ (NowS.pin (NowS.to HS.out [q] Keeps.au (by simp <;> omega) (by simp [kq, mq] <;> omega)))).out.mono ?_
      rintro e x1 ⟨rfl, hP, hK⟩
      have hz_x1 := hK.size
      try simp only [World.size_alloc, World.size_setCell, World.size_drew, World.heap_drewN] at hz_x1
      have O_x1_0 : OwnB x1 (q) #[.int .i64 0, .slice none 0 0, .slice none 0 0, .int .i64 0, .int .i64 0, .int .i64 0, .string ⟨#[]⟩, .int .i64 0, .int .i64 p] 82 := OwnB.call OwnB.au hK (by simp only [List.mem_singleton]; omega)
      obtain ⟨y_x1_0, x_x1_0, b_x1_0⟩ := O_x1_0.facts
      have HS1 := Lib.hid (NowS.call (NowS.to HS.out [q] Keeps.au (by simp <;> omega) (by simp [kq, mq] <;> omega)) hP hK)
      clear hP hK
      go_wp2_with fail
      refine (CV _ (NowS.pin (NowS.to HS1.out [q] Keeps.au (by simp <;> omega) (by simp [kq, mq] <;> omega)))).out.mono ?_
      rintro e x2 ⟨rfl, hP, hK⟩
      have hz_x2 := hK.size
      try simp only [World.size_alloc, World.size_setCell, World.size_drew, World.heap_drewN] at hz_x2
      have O_x2_0 : OwnB x2 (q) #[.int .i64 2, .slice none 0 0, .slice none 0 0, .int .i64 Y.1.kind, .int .i64 Y.1.ptr, .int .i64 Y.1.len, .string ⟨#[]⟩, .int .i64 0, .int .i64 p] 82 := OwnB.call (by repeat (first | with_reducible apply OwnB.s9_0 | with_reducible apply OwnB.s9_1 | with_reducible apply OwnB.s9_2 | with_reducible apply OwnB.s9_3 | with_reducible apply OwnB.s9_4 | with_reducible apply OwnB.s9_5 | with_reducible apply OwnB.s9_6 | with_reducible apply OwnB.s9_7 | with_reducible apply OwnB.s9_8 | with_reducible assumption | (with_reducible refine OwnB.new ?_; (first | with_reducible rfl | (simp only [World.size_alloc, World.size_setCell, World.size_drew, World.heap_drewN]; done) | (simp only [World.size_alloc, World.size_setCell, World.size_drew, World.heap_drewN]; omega))) | with_reducible refine OwnB.alloc ?_ _ | with_reducible refine OwnB.drew ?_ | with_reducible refine OwnB.drewN ?_ _ | with_reducible refine OwnB.setCell ?_ _ _ ?_ | (dsimp only; omega) | omega)) hK (by simp only [List.mem_singleton]; omega)
      obtain ⟨y_x2_0, x_x2_0, b_x2_0⟩ := O_x2_0.facts
      have HS2 := Lib.hid (NowS.call (NowS.to HS1.out [q] Keeps.au (by simp <;> omega) (by simp [kq, mq] <;> omega)) hP hK)
      clear hP hK
      go_wp2_with fail
      refine (CG _ (NowS.pin (NowS.to HS2.out [q] Keeps.au (by simp <;> omega) (by simp [kq, mq] <;> omega)))).out.mono ?_
      rintro e x3 ⟨rfl, hP, hK⟩
      have hz_x3 := hK.size
      try simp only [World.size_alloc, World.size_setCell, World.size_drew, World.heap_drewN] at hz_x3
      have O_x3_0 : OwnB x3 (q) #[.int .i64 2, .slice none 0 0, .slice none 0 0, .int .i64 Y.1.kind, .int .i64 Y.1.ptr, .int .i64 Y.1.len, .string ⟨V.text.toArray⟩, .int .i64 0, .int .i64 p] 82 := OwnB.call (by repeat (first | with_reducible apply OwnB.s9_0 | with_reducible apply OwnB.s9_1 | with_reducible apply OwnB.s9_2 | with_reducible apply OwnB.s9_3 | with_reducible apply OwnB.s9_4 | with_reducible apply OwnB.s9_5 | with_reducible apply OwnB.s9_6 | with_reducible apply OwnB.s9_7 | with_reducible apply OwnB.s9_8 | with_reducible assumption | (with_reducible refine OwnB.new ?_; (first | with_reducible rfl | (simp only [World.size_alloc, World.size_setCell, World.size_drew, World.heap_drewN]; done) | (simp only [World.size_alloc, World.size_setCell, World.size_drew, World.heap_drewN]; omega))) | with_reducible refine OwnB.alloc ?_ _ | with_reducible refine OwnB.drew ?_ | with_reducible refine OwnB.drewN ?_ _ | with_reducible refine OwnB.setCell ?_ _ _ ?_ | (dsimp only; omega) | omega)) hK (by simp only [List.mem_singleton]; omega)
      obtain ⟨y_x3_0, x_x3_0, b_x3_0⟩ := O_x3_0.facts
      have HS3 := Lib.hid (NowS.call (NowS.to HS2.out [q] Keeps.au (by simp <;> omega) (by simp [kq, mq] <;> omega)) hP hK)
      clear hP hK
      go_wp2_with fail
      refine (CE _ (NowS.pin (NowS.to HS3.out [q] Keeps.au (by simp <;> omega) (by simp [kq, mq] <;> omega)))).out.mono ?_
      rintro e x4 ⟨rfl, hP, hK⟩
      have hz_x4 := hK.size
      try simp only [World.size_alloc, World.size_setCell, World.size_drew, World.heap_drewN] at hz_x4
      have O_x4_0 : OwnB x4 (q) #[.int .i64 2, .slice none 0 0, .slice none 0 0, .int .i64 Y.1.kind, .int .i64 Y.1.ptr, .int .i64 G.1, .string ⟨V.text.toArray⟩, .int .i64 0, .int .i64 p] 82 := OwnB.call (by repeat (first | with_reducible apply OwnB.s9_0 | with_reducible apply OwnB.s9_1 | with_reducible apply OwnB.s9_2 | with_reducible apply OwnB.s9_3 | with_reducible apply OwnB.s9_4 | with_reducible apply OwnB.s9_5 | with_reducible apply OwnB.s9_6 | with_reducible apply OwnB.s9_7 | with_reducible apply OwnB.s9_8 | with_reducible assumption | (with_reducible refine OwnB.new ?_; (first | with_reducible rfl | (simp only [World.size_alloc, World.size_setCell, World.size_drew, World.heap_drewN]; done) | (simp only [World.size_alloc, World.size_setCell, World.size_drew, World.heap_drewN]; omega))) | with_reducible refine OwnB.alloc ?_ _ | with_reducible refine OwnB.drew ?_ | with_reducible refine OwnB.drewN ?_ _ | with_reducible refine OwnB.setCell ?_ _ _ ?_ | (dsimp only; omega) | omega)) hK (by simp only [List.mem_singleton]; omega)
      obtain ⟨y_x4_0, x_x4_0, b_x4_0⟩ := O_x4_0.facts
      have HS4 := Lib.hid (NowS.call (NowS.to HS3.out [q] Keeps.au (by simp <;> omega) (by simp [kq, mq] <;> omega)) hP hK)
      clear hP hK
      go_wp2_with fail
      refine (CD _ (NowS.pin (NowS.to HS4.out [q] Keeps.au (by simp <;> omega) (by simp [kq, mq] <;> omega)))).out.mono ?_
      rintro e x5 ⟨a1, n1, p1, rfl, hP, hK, hT⟩
      have hz_x5 := hK.size
      try simp only [World.size_alloc, World.size_setCell, World.size_drew, World.heap_drewN] at hz_x5
      have O_x5_0 : OwnB x5 (q) #[.int .i64 2, .slice none 0 0, .slice none 0 0, .int .i64 Y.1.kind, .int .i64 Y.1.ptr, .int .i64 G.1, .string ⟨V.text.toArray⟩, .int .i64 0, .int .i64 p] 82 := OwnB.call OwnB.au hK (by simp only [List.mem_singleton]; omega)
      obtain ⟨y_x5_0, x_x5_0, b_x5_0⟩ := O_x5_0.facts
      have HS5 := Lib.hid (NowS.callE (NowS.to HS4.out [q] Keeps.au (by simp <;> omega) (by simp [kq, mq] <;> omega)) hP hK hT)
      clear hP hK hT
      go_wp2_with fail
      go_end0
      exact NowS.finW (R := (({ sm0 with op := 2, ty := { Y.1 with len := G.1 }, nm := V.text, ex := A.1, pos := p } : Sm), A.2)) (NowS.to HS5.out [q] Keeps.au (by simp <;> omega) (by simp [kq, mq] <;> omega)) (show OwnB _ (q) #[.int .i64 2, .slice a1 n1 p1, .slice none 0 0, .int .i64 Y.1.kind, .int .i64 Y.1.ptr, .int .i64 G.1, .string ⟨V.text.toArray⟩, .int .i64 0, .int .i64 p] 82 from (by repeat (first | with_reducible apply OwnB.s9_0 | with_reducible apply OwnB.s9_1 | with_reducible apply OwnB.s9_2 | with_reducible apply OwnB.s9_3 | with_reducible apply OwnB.s9_4 | with_reducible apply OwnB.s9_5 | with_reducible apply OwnB.s9_6 | with_reducible apply OwnB.s9_7 | with_reducible apply OwnB.s9_8 | with_reducible assumption | (with_reducible refine OwnB.new ?_; (first | with_reducible rfl | (simp only [World.size_alloc, World.size_setCell, World.size_drew, World.heap_drewN]; done) | (simp only [World.size_alloc, World.size_setCell, World.size_drew, World.heap_drewN]; omega))) | with_reducible refine OwnB.alloc ?_ _ | with_reducible refine OwnB.drew ?_ | with_reducible refine OwnB.drewN ?_ _ | with_reducible refine OwnB.setCell ?_ _ _ ?_ | (dsimp only; omega) | omega))) (MIn.of_ex (KidsIn.wide (NowS.q0 (NowS.to HS5.out [q] Keeps.au (by simp <;> omega) (by simp [kq, mq] <;> omega))).2.2 (NowS.q0 (NowS.to HS5.out [q] Keeps.au (by simp <;> omega) (by simp [kq, mq] <;> omega))).1 (NowS.q0 (NowS.to HS5.out [q] Keeps.au (by simp <;> omega) (by simp [kq, mq] <;> omega))).2.1 (Nat.le_refl _)))
    | false =>
      rw [ki, if_neg (by simp)] at hR
      obtain rfl := Option.some.inj hR
      rw [ki, show P.acc c.l [61] G.2 = G.2 by simp [P.acc, ki]] at CE
      have CN := fun W H => Lib.hid (need_any c hc G.2 W H [59])
      clear h hR hz hY hV hs2 hG ki
      unfold pv
      go_enter Tryd.func86, Tryd.ntmps86
      go_wp2_with fail
      refine (CT _ (NowS.pin (NowS.to HS.out [q] Keeps.au (by simp <;> omega) (by simp [kq, mq] <;> omega)))).out.mono ?_
      rintro e x1 ⟨rfl, hP, hK⟩
      have hz_x1 := hK.size
      try simp only [World.size_alloc, World.size_setCell, World.size_drew, World.heap_drewN] at hz_x1
      have O_x1_0 : OwnB x1 (q) #[.int .i64 0, .slice none 0 0, .slice none 0 0, .int .i64 0, .int .i64 0, .int .i64 0, .string ⟨#[]⟩, .int .i64 0, .int .i64 p] 82 := OwnB.call OwnB.au hK (by simp only [List.mem_singleton]; omega)
      obtain ⟨y_x1_0, x_x1_0, b_x1_0⟩ := O_x1_0.facts
      have HS1 := Lib.hid (NowS.call (NowS.to HS.out [q] Keeps.au (by simp <;> omega) (by simp [kq, mq] <;> omega)) hP hK)
      clear hP hK
      go_wp2_with fail
      refine (CV _ (NowS.pin (NowS.to HS1.out [q] Keeps.au (by simp <;> omega) (by simp [kq, mq] <;> omega)))).out.mono ?_
      rintro e x2 ⟨rfl, hP, hK⟩
      have hz_x2 := hK.size
      try simp only [World.size_alloc, World.size_setCell, World.size_drew, World.heap_drewN] at hz_x2
      have O_x2_0 : OwnB x2 (q) #[.int .i64 2, .slice none 0 0, .slice none 0 0, .int .i64 Y.1.kind, .int .i64 Y.1.ptr, .int .i64 Y.1.len, .string ⟨#[]⟩, .int .i64 0, .int .i64 p] 82 := OwnB.call (by repeat (first | with_reducible apply OwnB.s9_0 | with_reducible apply OwnB.s9_1 | with_reducible apply OwnB.s9_2 | with_reducible apply OwnB.s9_3 | with_reducible apply OwnB.s9_4 | with_reducible apply OwnB.s9_5 | with_reducible apply OwnB.s9_6 | with_reducible apply OwnB.s9_7 | with_reducible apply OwnB.s9_8 | with_reducible assumption | (with_reducible refine OwnB.new ?_; (first | with_reducible rfl | (simp only [World.size_alloc, World.size_setCell, World.size_drew, World.heap_drewN]; done) | (simp only [World.size_alloc, World.size_setCell, World.size_drew, World.heap_drewN]; omega))) | with_reducible refine OwnB.alloc ?_ _ | with_reducible refine OwnB.drew ?_ | with_reducible refine OwnB.drewN ?_ _ | with_reducible refine OwnB.setCell ?_ _ _ ?_ | (dsimp only; omega) | omega)) hK (by simp only [List.mem_singleton]; omega)
      obtain ⟨y_x2_0, x_x2_0, b_x2_0⟩ := O_x2_0.facts
      have HS2 := Lib.hid (NowS.call (NowS.to HS1.out [q] Keeps.au (by simp <;> omega) (by simp [kq, mq] <;> omega)) hP hK)
      clear hP hK
      go_wp2_with fail
      refine (CG _ (NowS.pin (NowS.to HS2.out [q] Keeps.au (by simp <;> omega) (by simp [kq, mq] <;> omega)))).out.mono ?_
      rintro e x3 ⟨rfl, hP, hK⟩
      have hz_x3 := hK.size
      try simp only [World.size_alloc, World.size_setCell, World.size_drew, World.heap_drewN] at hz_x3
      have O_x3_0 : OwnB x3 (q) #[.int .i64 2, .slice none 0 0, .slice none 0 0, .int .i64 Y.1.kind, .int .i64 Y.1.ptr, .int .i64 Y.1.len, .string ⟨V.text.toArray⟩, .int .i64 0, .int .i64 p] 82 := OwnB.call (by repeat (first | with_reducible apply OwnB.s9_0 | with_reducible apply OwnB.s9_1 | with_reducible apply OwnB.s9_2 | with_reducible apply OwnB.s9_3 | with_reducible apply OwnB.s9_4 | with_reducible apply OwnB.s9_5 | with_reducible apply OwnB.s9_6 | with_reducible apply OwnB.s9_7 | with_reducible apply OwnB.s9_8 | with_reducible assumption | (with_reducible refine OwnB.new ?_; (first | with_reducible rfl | (simp only [World.size_alloc, World.size_setCell, World.size_drew, World.heap_drewN]; done) | (simp only [World.size_alloc, World.size_setCell, World.size_drew, World.heap_drewN]; omega))) | with_reducible refine OwnB.alloc ?_ _ | with_reducible refine OwnB.drew ?_ | with_reducible refine OwnB.drewN ?_ _ | with_reducible refine OwnB.setCell ?_ _ _ ?_ | (dsimp only; omega) | omega)) hK (by simp only [List.mem_singleton]; omega)
      obtain ⟨y_x3_0, x_x3_0, b_x3_0⟩ := O_x3_0.facts
      have HS3 := Lib.hid (NowS.call (NowS.to HS2.out [q] Keeps.au (by simp <;> omega) (by simp [kq, mq] <;> omega)) hP hK)
      clear hP hK
      go_wp2_with fail
      refine (CE _ (NowS.pin (NowS.to HS3.out [q] Keeps.au (by simp <;> omega) (by simp [kq, mq] <;> omega)))).out.mono ?_
      rintro e x4 ⟨rfl, hP, hK⟩
      have hz_x4 := hK.size
      try simp only [World.size_alloc, World.size_setCell, World.size_drew, World.heap_drewN] at hz_x4
      have O_x4_0 : OwnB x4 (q) #[.int .i64 2, .slice none 0 0, .slice none 0 0, .int .i64 Y.1.kind, .int .i64 Y.1.ptr, .int .i64 G.1, .string ⟨V.text.toArray⟩, .int .i64 0, .int .i64 p] 82 := OwnB.call (by repeat (first | with_reducible apply OwnB.s9_0 | with_reducible apply OwnB.s9_1 | with_reducible apply OwnB.s9_2 | with_reducible apply OwnB.s9_3 | with_reducible apply OwnB.s9_4 | with_reducible apply OwnB.s9_5 | with_reducible apply OwnB.s9_6 | with_reducible apply OwnB.s9_7 | with_reducible apply OwnB.s9_8 | with_reducible assumption | (with_reducible refine OwnB.new ?_; (first | with_reducible rfl | (simp only [World.size_alloc, World.size_setCell, World.size_drew, World.heap_drewN]; done) | (simp only [World.size_alloc, World.size_setCell, World.size_drew, World.heap_drewN]; omega))) | with_reducible refine OwnB.alloc ?_ _ | with_reducible refine OwnB.drew ?_ | with_reducible refine OwnB.drewN ?_ _ | with_reducible refine OwnB.setCell ?_ _ _ ?_ | (dsimp only; omega) | omega)) hK (by simp only [List.mem_singleton]; omega)
      obtain ⟨y_x4_0, x_x4_0, b_x4_0⟩ := O_x4_0.facts
      have HS4 := Lib.hid (NowS.call (NowS.to HS3.out [q] Keeps.au (by simp <;> omega) (by simp [kq, mq] <;> omega)) hP hK)
      clear hP hK
      go_wp2_with fail
      refine (CN _ (NowS.pin (NowS.to HS4.out [q] Keeps.au (by simp <;> omega) (by simp [kq, mq] <;> omega)))).out.mono ?_
      rintro e x5 ⟨rfl, hP, hK⟩
      have hz_x5 := hK.size
      try simp only [World.size_alloc, World.size_setCell, World.size_drew, World.heap_drewN] at hz_x5
      have O_x5_0 : OwnB x5 (q) #[.int .i64 2, .slice none 0 0, .slice none 0 0, .int .i64 Y.1.kind, .int .i64 Y.1.ptr, .int .i64 G.1, .string ⟨V.text.toArray⟩, .int .i64 0, .int .i64 p] 82 := OwnB.call OwnB.au hK (by simp only [List.mem_singleton]; omega)
      obtain ⟨y_x5_0, x_x5_0, b_x5_0⟩ := O_x5_0.facts
      have HS5 := Lib.hid (NowS.call (NowS.to HS4.out [q] Keeps.au (by simp <;> omega) (by simp [kq, mq] <;> omega)) hP hK)
      clear hP hK
      go_wp2_with fail
      go_end0
      exact NowS.finW (R := (({ sm0 with op := 2, ty := { Y.1 with len := G.1 }, nm := V.text, pos := p } : Sm), P.need c.l [59] G.2)) HS5.out O_x5_0 (MIn.nil (Nat.le_refl _))
  · have hz1 : (G.1 == 0) = false := by simp [hz]
    rw [if_neg (fun hh => hz hh.1)] at hR
    obtain rfl := Option.some.inj hR
    have CN := fun W H => Lib.hid (need_any c hc G.2 W H [59])
    clear h hR hz hY hV hs2 hG
    unfold pv
    go_enter Tryd.func86, Tryd.ntmps86
    go_wp2_with fail
    refine (CT _ (NowS.pin (NowS.to HS.out [q] Keeps.au (by simp <;> omega) (by simp [kq, mq] <;> omega)))).out.mono ?_
    rintro e x1 ⟨rfl, hP, hK⟩
    have hz_x1 := hK.size
    try simp only [World.size_alloc, World.size_setCell, World.size_drew, World.heap_drewN] at hz_x1
    have O_x1_0 : OwnB x1 (q) #[.int .i64 0, .slice none 0 0, .slice none 0 0, .int .i64 0, .int .i64 0, .int .i64 0, .string ⟨#[]⟩, .int .i64 0, .int .i64 p] 82 := OwnB.call OwnB.au hK (by simp only [List.mem_singleton]; omega)
    obtain ⟨y_x1_0, x_x1_0, b_x1_0⟩ := O_x1_0.facts
    have HS1 := Lib.hid (NowS.call (NowS.to HS.out [q] Keeps.au (by simp <;> omega) (by simp [kq, mq] <;> omega)) hP hK)
    clear hP hK
    go_wp2_with fail
    refine (CV _ (NowS.pin (NowS.to HS1.out [q] Keeps.au (by simp <;> omega) (by simp [kq, mq] <;> omega)))).out.mono ?_
    rintro e x2 ⟨rfl, hP, hK⟩
    have hz_x2 := hK.size
    try simp only [World.size_alloc, World.size_setCell, World.size_drew, World.heap_drewN] at hz_x2
    have O_x2_0 : OwnB x2 (q) #[.int .i64 2, .slice none 0 0, .slice none 0 0, .int .i64 Y.1.kind, .int .i64 Y.1.ptr, .int .i64 Y.1.len, .string ⟨#[]⟩, .int .i64 0, .int .i64 p] 82 := OwnB.call (by repeat (first | with_reducible apply OwnB.s9_0 | with_reducible apply OwnB.s9_1 | with_reducible apply OwnB.s9_2 | with_reducible apply OwnB.s9_3 | with_reducible apply OwnB.s9_4 | with_reducible apply OwnB.s9_5 | with_reducible apply OwnB.s9_6 | with_reducible apply OwnB.s9_7 | with_reducible apply OwnB.s9_8 | with_reducible assumption | (with_reducible refine OwnB.new ?_; (first | with_reducible rfl | (simp only [World.size_alloc, World.size_setCell, World.size_drew, World.heap_drewN]; done) | (simp only [World.size_alloc, World.size_setCell, World.size_drew, World.heap_drewN]; omega))) | with_reducible refine OwnB.alloc ?_ _ | with_reducible refine OwnB.drew ?_ | with_reducible refine OwnB.drewN ?_ _ | with_reducible refine OwnB.setCell ?_ _ _ ?_ | (dsimp only; omega) | omega)) hK (by simp only [List.mem_singleton]; omega)
    obtain ⟨y_x2_0, x_x2_0, b_x2_0⟩ := O_x2_0.facts
    have HS2 := Lib.hid (NowS.call (NowS.to HS1.out [q] Keeps.au (by simp <;> omega) (by simp [kq, mq] <;> omega)) hP hK)
    clear hP hK
    go_wp2_with fail
    refine (CG _ (NowS.pin (NowS.to HS2.out [q] Keeps.au (by simp <;> omega) (by simp [kq, mq] <;> omega)))).out.mono ?_
    rintro e x3 ⟨rfl, hP, hK⟩
    have hz_x3 := hK.size
    try simp only [World.size_alloc, World.size_setCell, World.size_drew, World.heap_drewN] at hz_x3
    have O_x3_0 : OwnB x3 (q) #[.int .i64 2, .slice none 0 0, .slice none 0 0, .int .i64 Y.1.kind, .int .i64 Y.1.ptr, .int .i64 Y.1.len, .string ⟨V.text.toArray⟩, .int .i64 0, .int .i64 p] 82 := OwnB.call (by repeat (first | with_reducible apply OwnB.s9_0 | with_reducible apply OwnB.s9_1 | with_reducible apply OwnB.s9_2 | with_reducible apply OwnB.s9_3 | with_reducible apply OwnB.s9_4 | with_reducible apply OwnB.s9_5 | with_reducible apply OwnB.s9_6 | with_reducible apply OwnB.s9_7 | with_reducible apply OwnB.s9_8 | with_reducible assumption | (with_reducible refine OwnB.new ?_; (first | with_reducible rfl | (simp only [World.size_alloc, World.size_setCell, World.size_drew, World.heap_drewN]; done) | (simp only [World.size_alloc, World.size_setCell, World.size_drew, World.heap_drewN]; omega))) | with_reducible refine OwnB.alloc ?_ _ | with_reducible refine OwnB.drew ?_ | with_reducible refine OwnB.drewN ?_ _ | with_reducible refine OwnB.setCell ?_ _ _ ?_ | (dsimp only; omega) | omega)) hK (by simp only [List.mem_singleton]; omega)
    obtain ⟨y_x3_0, x_x3_0, b_x3_0⟩ := O_x3_0.facts
    have HS3 := Lib.hid (NowS.call (NowS.to HS2.out [q] Keeps.au (by simp <;> omega) (by simp [kq, mq] <;> omega)) hP hK)
    clear hP hK
    go_wp2_with fail
    refine (CN _ (NowS.pin (NowS.to HS3.out [q] Keeps.au (by simp <;> omega) (by simp [kq, mq] <;> omega)))).out.mono ?_
    rintro e x5 ⟨rfl, hP, hK⟩
    have hz_x5 := hK.size
    try simp only [World.size_alloc, World.size_setCell, World.size_drew, World.heap_drewN] at hz_x5
    have O_x5_0 : OwnB x5 (q) #[.int .i64 2, .slice none 0 0, .slice none 0 0, .int .i64 Y.1.kind, .int .i64 Y.1.ptr, .int .i64 G.1, .string ⟨V.text.toArray⟩, .int .i64 0, .int .i64 p] 82 := OwnB.call (by repeat (first | with_reducible apply OwnB.s9_0 | with_reducible apply OwnB.s9_1 | with_reducible apply OwnB.s9_2 | with_reducible apply OwnB.s9_3 | with_reducible apply OwnB.s9_4 | with_reducible apply OwnB.s9_5 | with_reducible apply OwnB.s9_6 | with_reducible apply OwnB.s9_7 | with_reducible apply OwnB.s9_8 | with_reducible assumption | (with_reducible refine OwnB.new ?_; (first | with_reducible rfl | (simp only [World.size_alloc, World.size_setCell, World.size_drew, World.heap_drewN]; done) | (simp only [World.size_alloc, World.size_setCell, World.size_drew, World.heap_drewN]; omega))) | with_reducible refine OwnB.alloc ?_ _ | with_reducible refine OwnB.drew ?_ | with_reducible refine OwnB.drewN ?_ _ | with_reducible refine OwnB.setCell ?_ _ _ ?_ | (dsimp only; omega) | omega)) hK (by simp only [List.mem_singleton]; omega)
    obtain ⟨y_x5_0, x_x5_0, b_x5_0⟩ := O_x5_0.facts
    have HS5 := Lib.hid (NowS.call (NowS.to HS3.out [q] Keeps.au (by simp <;> omega) (by simp [kq, mq] <;> omega)) hP hK)
    clear hP hK
    go_wp2_with fail
    go_end0
    exact NowS.finW (R := (({ sm0 with op := 2, ty := { Y.1 with len := G.1 }, nm := V.text, pos := p } : Sm), P.need c.l [59] G.2)) HS5.out O_x5_0 (MIn.nil (Nat.le_refl _))

end Go.Proofs.YtjmemapkipkocaaDoor

/-
  Statements: 'wordless'.
-/
namespace Go.Proofs.YtjmemapkipkocaaDoor
open Go.RowKit Go.Maps
set_option linter.unusedVariables false
set_option linter.unusedSimpArgs false
set_option maxRecDepth 100000
set_option maxHeartbeats 2000000

theorem NowS.callW {c : Cx} {q : Nat} {w W W' : World} {s s' : St} {L : List KQ} (h : NowS c q w s L W) {ex : Exs} {ev : Value} {body : Sts} {bv : Value} (h1 : PIn W' c s') (h2 : Keeps [c.g, q] W W') (h3 : MIn W' W.heap.size W'.heap.size [] ex ev body bv) :
    NowS c q w s' (mq W.heap.size W'.heap.size [] ex ev body bv :: L) W' := by
  refine ⟨h1, h.kp.trans h2, h.g, h.gt, h.mb, h.sz, h.qlt, h.qne, fun p hp => ?_⟩
  rcases List.mem_cons.1 hp with rfl | hp
  · exact ⟨h.kp.size, Nat.le_refl _, h3⟩
  · obtain ⟨h4, h5, h6⟩ := h.all p hp
    exact ⟨h4, Nat.le_trans h5 h2.size, p.st W W' h2.size (fun b hl hh _ => h2.block b (by omega) (by simp only [List.mem_cons, List.not_mem_nil, or_false]; have := h.g; have := h.qlt; omega)) h6⟩

theorem wordless_step (c : Cx) (hc : c.Ok) (f : Nat) (d p : Int) (s : St) (R : Sm × St) (w : World) (q : Nat) (h0 : 0 ≤ d) (hd : d + (f + 1) ≤ 1000000000) (hq : OwnB w q #[.int .i64 0, .slice none 0 0, .slice none 0 0, .int .i64 0, .int .i64 0, .int .i64 0, .string ⟨#[]⟩, .int .i64 0, .int .i64 p] 82)
    (hn : q ≠ c.g ∧ q ≠ c.gt ∧ q ≠ c.mb ∧ q ≠ 2) (GA : ∀ k, k ≤ f → GoodS c k) (hR : P.wordless c.l (P.recs c.l f) d s { sm0 with pos := p } = some R) (h : PIn w c s) : Calls Tryd.prog 78 #[pv c, .pointer (some ⟨q, 0, none⟩), .int .i64 d] w (DoesW c q R w) := by
  have hqlt := lt_of_blk hq.blk
  have hq1 : q ≠ c.g := hn.1
  have HS := Lib.hid (NowS.start h hqlt hn)
  have hg := HS.out.g
  have hgt := HS.out.gt
  obtain ⟨yq, xq, zq⟩ := hq.facts
  have hw : wrap64 (d + 1) = d + 1 := wrapJ (by omega) (by omega)
  obtain ⟨U, hU⟩ : ∃ U, U = P.tok c.l s := ⟨_, rfl⟩
  have CT := fun W H => Lib.hid (token_any c hc s W H)
  have CX := fun W H => Lib.hid (next_any c hc s W H)
  rw [← hU] at CT CX
  have C2 := fun W H => Lib.hid (second_any c hc s W H)
  obtain ⟨V, hV⟩ : ∃ V, V = P.snd c.l s := ⟨_, rfl⟩
  rw [← hV] at C2
  have CY := fun W H => Lib.hid (beginsType_does c s U W H)
  unfold P.wordless at hR
  rw [← hU, ← hV] at hR
  clear hV
  have HC := Lib.hid hn
  have tk0 := tok_field0
  have tk1 := tok_field1
  have tk2 := tok_field2
  have tk3 := tok_field3
  by_cases hk : U.kind = 1
  · have k1 : (U.kind == 1) = true := by simp [hk]
    by_cases hv : V.text = [58]
    · have k2 : (V.text == [58]) = true := by simp [hv]
      rw [if_pos ⟨hk, hv⟩] at hR
      obtain rfl := Option.some.inj hR
      have CN := fun W H => Lib.hid (need_any c hc (P.next c.l s) W H [58])
      clear h hR hU hk hv HC GA
      unfold pv
      go_enter Tryd.func78, Tryd.ntmps78
      go_wp2_with fail
      refine (CT _ (NowS.pin (NowS.to HS.out [q] Keeps.au (by simp <;> omega) (by simp [kq, mq] <;> omega)))).out.mono ?_
      rintro e x1 ⟨rfl, hP, hK⟩
      have hz_x1 := hK.size
      try simp only [World.size_alloc, World.size_setCell, World.size_drew, World.heap_drewN] at hz_x1
      have O_x1_0 : OwnB x1 (q) #[.int .i64 0, .slice none 0 0, .slice none 0 0, .int .i64 0, .int .i64 0, .int .i64 0, .string ⟨#[]⟩, .int .i64 0, .int .i64 p] 82 := OwnB.call OwnB.au hK (by simp only [List.mem_singleton]; omega)
      obtain ⟨y_x1_0, x_x1_0, b_x1_0⟩ := O_x1_0.facts
      have HS1 := Lib.hid (NowS.call (NowS.to HS.out [q] Keeps.au (by simp <;> omega) (by simp [kq, mq] <;> omega)) hP hK)
      clear hP hK
      go_wp2_with fail
      refine (C2 _ (NowS.pin (NowS.to HS1.out [q, x1.heap.size] Keeps.au (by simp <;> omega) (by simp [kq, mq] <;> omega)))).out.mono ?_
      rintro e x2 ⟨rfl, hP, hK⟩
      have hz_x2 := hK.size
      try simp only [World.size_alloc, World.size_setCell, World.size_drew, World.heap_drewN] at hz_x2
      have O_x2_0 : OwnB x2 (q) #[.int .i64 0, .slice none 0 0, .slice none 0 0, .int .i64 0, .int .i64 0, .int .i64 0, .string ⟨#[]⟩, .int .i64 0, .int .i64 p] 82 := OwnB.call OwnB.au hK (by simp only [List.mem_singleton]; omega)
      obtain ⟨y_x2_0, x_x2_0, b_x2_0⟩ := O_x2_0.facts
      have O_x2_1 : OwnB x2 (x1.heap.size) #[.int .i64 (U).kind, .string ⟨(U).text.toArray⟩, .int .i64 (U).n, .int .i64 (U).pos] 60 := OwnB.call OwnB.au hK (by simp only [List.mem_singleton]; omega)
      obtain ⟨y_x2_1, x_x2_1, b_x2_1⟩ := O_x2_1.facts
      have HS2 := Lib.hid (NowS.call (NowS.to HS1.out [q, x1.heap.size] Keeps.au (by simp <;> omega) (by simp [kq, mq] <;> omega)) hP hK)
      clear hP hK
      go_wp2_with fail
      refine (CX _ (NowS.pin (NowS.to HS2.out [q, x1.heap.size] Keeps.au (by simp <;> omega) (by simp [kq, mq] <;> omega)))).out.mono ?_
      rintro e x3 ⟨rfl, hP, hK⟩
      have hz_x3 := hK.size
      try simp only [World.size_alloc, World.size_setCell, World.size_drew, World.heap_drewN] at hz_x3
      have O_x3_0 : OwnB x3 (q) #[.int .i64 0, .slice none 0 0, .slice none 0 0, .int .i64 0, .int .i64 0, .int .i64 0, .string ⟨#[]⟩, .int .i64 0, .int .i64 p] 82 := OwnB.call OwnB.au hK (by simp only [List.mem_singleton]; omega)
      obtain ⟨y_x3_0, x_x3_0, b_x3_0⟩ := O_x3_0.facts
      have O_x3_1 : OwnB x3 (x1.heap.size) #[.int .i64 (U).kind, .string ⟨(U).text.toArray⟩, .int .i64 (U).n, .int .i64 (U).pos] 60 := OwnB.call OwnB.au hK (by simp only [List.mem_singleton]; omega)
      obtain ⟨y_x3_1, x_x3_1, b_x3_1⟩ := O_x3_1.facts
      have HS3 := Lib.hid (NowS.call (NowS.to HS2.out [q, x1.heap.size] Keeps.au (by simp <;> omega) (by simp [kq, mq] <;> omega)) hP hK)
      clear hP hK
      go_wp2_with fail
      refine (CN _ (NowS.pin (NowS.to HS3.out [q, x1.heap.size] Keeps.au (by simp <;> omega) (by simp [kq, mq] <;> omega)))).out.mono ?_
      rintro e x4 ⟨rfl, hP, hK⟩
      have hz_x4 := hK.size
      try simp only [World.size_alloc, World.size_setCell, World.size_drew, World.heap_drewN] at hz_x4
      have O_x4_0 : OwnB x4 (q) #[.int .i64 15, .slice none 0 0, .slice none 0 0, .int .i64 0, .int .i64 0, .int .i64 0, .string ⟨U.text.toArray⟩, .int .i64 0, .int .i64 p] 82 := OwnB.call (by repeat (first | with_reducible apply OwnB.s9_0 | with_reducible apply OwnB.s9_1 | with_reducible apply OwnB.s9_2 | with_reducible apply OwnB.s9_3 | with_reducible apply OwnB.s9_4 | with_reducible apply OwnB.s9_5 | with_reducible apply OwnB.s9_6 | with_reducible apply OwnB.s9_7 | with_reducible apply OwnB.s9_8 | with_reducible assumption | (with_reducible refine OwnB.new ?_; (first | with_reducible rfl | (simp only [World.size_alloc, World.size_setCell, World.size_drew, World.heap_drewN]; done) | (simp only [World.size_alloc, World.size_setCell, World.size_drew, World.heap_drewN]; omega))) | with_reducible refine OwnB.alloc ?_ _ | with_reducible refine OwnB.drew ?_ | with_reducible refine OwnB.drewN ?_ _ | with_reducible refine OwnB.setCell ?_ _ _ ?_ | (dsimp only; omega) | omega)) hK (by simp only [List.mem_singleton]; omega)
      obtain ⟨y_x4_0, x_x4_0, b_x4_0⟩ := O_x4_0.facts
      have O_x4_1 : OwnB x4 (x1.heap.size) #[.int .i64 (U).kind, .string ⟨(U).text.toArray⟩, .int .i64 (U).n, .int .i64 (U).pos] 60 := OwnB.call OwnB.au hK (by simp only [List.mem_singleton]; omega)
      obtain ⟨y_x4_1, x_x4_1, b_x4_1⟩ := O_x4_1.facts
      have HS4 := Lib.hid (NowS.call (NowS.to HS3.out [q, x1.heap.size] Keeps.au (by simp <;> omega) (by simp [kq, mq] <;> omega)) hP hK)
      clear hP hK
      go_wp2_with fail
      go_end0
      exact NowS.finW (R := (({ sm0 with op := 15, nm := U.text, pos := p } : Sm), P.need c.l [58] (P.next c.l s))) HS4.out O_x4_0 (MIn.nil (Nat.le_refl _))
    · have k2 : (V.text == [58]) = false := by simp [hv]
      rw [if_neg (fun hh => hv hh.2)] at hR
      clear hv hk
      cases ky : isType U.text with
      | true =>
        rw [ky, if_pos rfl] at hR
        rw [ky] at CY
        have CL := fun W H HO => Lib.hid (local_step c hc f d p s R W q h0 hd HO hn hR H)
        clear h hR hU ky HC GA
        unfold pv
        go_enter Tryd.func78, Tryd.ntmps78
        go_wp2_with fail
        refine (CT _ (NowS.pin (NowS.to HS.out [q] Keeps.au (by simp <;> omega) (by simp [kq, mq] <;> omega)))).out.mono ?_
        rintro e x1 ⟨rfl, hP, hK⟩
        have hz_x1 := hK.size
        try simp only [World.size_alloc, World.size_setCell, World.size_drew, World.heap_drewN] at hz_x1
        have O_x1_0 : OwnB x1 (q) #[.int .i64 0, .slice none 0 0, .slice none 0 0, .int .i64 0, .int .i64 0, .int .i64 0, .string ⟨#[]⟩, .int .i64 0, .int .i64 p] 82 := OwnB.call OwnB.au hK (by simp only [List.mem_singleton]; omega)
        obtain ⟨y_x1_0, x_x1_0, b_x1_0⟩ := O_x1_0.facts
        have HS1 := Lib.hid (NowS.call (NowS.to HS.out [q] Keeps.au (by simp <;> omega) (by simp [kq, mq] <;> omega)) hP hK)
        clear hP hK
        go_wp2_with fail
        refine (C2 _ (NowS.pin (NowS.to HS1.out [q, x1.heap.size] Keeps.au (by simp <;> omega) (by simp [kq, mq] <;> omega)))).out.mono ?_
        rintro e x2 ⟨rfl, hP, hK⟩
        have hz_x2 := hK.size
        try simp only [World.size_alloc, World.size_setCell, World.size_drew, World.heap_drewN] at hz_x2
        have O_x2_0 : OwnB x2 (q) #[.int .i64 0, .slice none 0 0, .slice none 0 0, .int .i64 0, .int .i64 0, .int .i64 0, .string ⟨#[]⟩, .int .i64 0, .int .i64 p] 82 := OwnB.call OwnB.au hK (by simp only [List.mem_singleton]; omega)
        obtain ⟨y_x2_0, x_x2_0, b_x2_0⟩ := O_x2_0.facts
        have O_x2_1 : OwnB x2 (x1.heap.size) #[.int .i64 (U).kind, .string ⟨(U).text.toArray⟩, .int .i64 (U).n, .int .i64 (U).pos] 60 := OwnB.call OwnB.au hK (by simp only [List.mem_singleton]; omega)
        obtain ⟨y_x2_1, x_x2_1, b_x2_1⟩ := O_x2_1.facts
        have HS2 := Lib.hid (NowS.call (NowS.to HS1.out [q, x1.heap.size] Keeps.au (by simp <;> omega) (by simp [kq, mq] <;> omega)) hP hK)
        clear hP hK
        go_wp2_with fail
        refine (CY _ (NowS.pin (NowS.to HS2.out [q, x1.heap.size] Keeps.au (by simp <;> omega) (by simp [kq, mq] <;> omega)))).out.mono ?_
        rintro e x3 ⟨rfl, hP, hK⟩
        have hz_x3 := hK.size
        try simp only [World.size_alloc, World.size_setCell, World.size_drew, World.heap_drewN] at hz_x3
        have O_x3_0 : OwnB x3 (q) #[.int .i64 0, .slice none 0 0, .slice none 0 0, .int .i64 0, .int .i64 0, .int .i64 0, .string ⟨#[]⟩, .int .i64 0, .int .i64 p] 82 := OwnB.call OwnB.au hK (by simp only [List.mem_singleton]; omega)
        obtain ⟨y_x3_0, x_x3_0, b_x3_0⟩ := O_x3_0.facts
        have O_x3_1 : OwnB x3 (x1.heap.size) #[.int .i64 (U).kind, .string ⟨(U).text.toArray⟩, .int .i64 (U).n, .int .i64 (U).pos] 60 := OwnB.call OwnB.au hK (by simp only [List.mem_singleton]; omega)
        obtain ⟨y_x3_1, x_x3_1, b_x3_1⟩ := O_x3_1.facts
        have HS3 := Lib.hid (NowS.call (NowS.to HS2.out [q, x1.heap.size] Keeps.au (by simp <;> omega) (by simp [kq, mq] <;> omega)) hP hK)
        clear hP hK
        go_wp2_with fail
        refine (CL _ (NowS.pin (NowS.to HS3.out [q, x1.heap.size] Keeps.au (by simp <;> omega) (by simp [kq, mq] <;> omega))) O_x3_0).out.mono ?_
        rintro e x4 ⟨a1, n1, p1, a2, n2, p2, rfl, hP, hK, hO, hT⟩
        have HS4 := Lib.hid (NowS.callW HS3.out hP hK hT)
        have HO := Lib.hid hO
        clear hP hK hT hO
        go_wp2_with fail
        go_end0
        exact NowS.finW (R := R) HS4.out HO.out (MIn.wide HS4.out.q0.2.2 HS4.out.q0.1 HS4.out.q0.2.1 (Nat.le_refl _))
      | false =>
        rw [ky, if_neg (by simp)] at hR
        rw [ky] at CY
        have CI := fun W H => Lib.hid (is_any c hc s W H [123])
        have CZ := fun W H => Lib.hid (accept_any c hc s W H [59])
        cases kb : P.is c.l [123] s with
        | true =>
          rw [kb, if_pos rfl] at hR
          rw [kb] at CI
          obtain ⟨A, hA, hR⟩ := Option.bind_eq_some_iff.1 hR
          obtain rfl := Option.some.inj hR
          have CB := fun W H => Lib.hid (block_step c hc f GA d s A W h0 hd hA H)
          clear h hR hU ky kb HC GA hA
          unfold pv
          go_enter Tryd.func78, Tryd.ntmps78
          go_wp2_with fail
          refine (CT _ (NowS.pin (NowS.to HS.out [q] Keeps.au (by simp <;> omega) (by simp [kq, mq] <;> omega)))).out.mono ?_
          rintro e x1 ⟨rfl, hP, hK⟩
          have hz_x1 := hK.size
          try simp only [World.size_alloc, World.size_setCell, World.size_drew, World.heap_drewN] at hz_x1
          have O_x1_0 : OwnB x1 (q) #[.int .i64 0, .slice none 0 0, .slice none 0 0, .int .i64 0, .int .i64 0, .int .i64 0, .string ⟨#[]⟩, .int .i64 0, .int .i64 p] 82 := OwnB.call OwnB.au hK (by simp only [List.mem_singleton]; omega)
          obtain ⟨y_x1_0, x_x1_0, b_x1_0⟩ := O_x1_0.facts
          have HS1 := Lib.hid (NowS.call (NowS.to HS.out [q] Keeps.au (by simp <;> omega) (by simp [kq, mq] <;> omega)) hP hK)
          clear hP hK
          go_wp2_with fail
          refine (C2 _ (NowS.pin (NowS.to HS1.out [q, x1.heap.size] Keeps.au (by simp <;> omega) (by simp [kq, mq] <;> omega)))).out.mono ?_
          rintro e x2 ⟨rfl, hP, hK⟩
          have hz_x2 := hK.size
          try simp only [World.size_alloc, World.size_setCell, World.size_drew, World.heap_drewN] at hz_x2
          have O_x2_0 : OwnB x2 (q) #[.int .i64 0, .slice none 0 0, .slice none 0 0, .int .i64 0, .int .i64 0, .int .i64 0, .string ⟨#[]⟩, .int .i64 0, .int .i64 p] 82 := OwnB.call OwnB.au hK (by simp only [List.mem_singleton]; omega)
          obtain ⟨y_x2_0, x_x2_0, b_x2_0⟩ := O_x2_0.facts
          have O_x2_1 : OwnB x2 (x1.heap.size) #[.int .i64 (U).kind, .string ⟨(U).text.toArray⟩, .int .i64 (U).n, .int .i64 (U).pos] 60 := OwnB.call OwnB.au hK (by simp only [List.mem_singleton]; omega)
          obtain ⟨y_x2_1, x_x2_1, b_x2_1⟩ := O_x2_1.facts
          have HS2 := Lib.hid (NowS.call (NowS.to HS1.out [q, x1.heap.size] Keeps.au (by simp <;> omega) (by simp [kq, mq] <;> omega)) hP hK)
          clear hP hK
          go_wp2_with fail
          refine (CY _ (NowS.pin (NowS.to HS2.out [q, x1.heap.size] Keeps.au (by simp <;> omega) (by simp [kq, mq] <;> omega)))).out.mono ?_
          rintro e x3 ⟨rfl, hP, hK⟩
          have hz_x3 := hK.size
          try simp only [World.size_alloc, World.size_setCell, World.size_drew, World.heap_drewN] at hz_x3
          have O_x3_0 : OwnB x3 (q) #[.int .i64 0, .slice none 0 0, .slice none 0 0, .int .i64 0, .int .i64 0, .int .i64 0, .string ⟨#[]⟩, .int .i64 0, .int .i64 p] 82 := OwnB.call OwnB.au hK (by simp only [List.mem_singleton]; omega)
          obtain ⟨y_x3_0, x_x3_0, b_x3_0⟩ := O_x3_0.facts
          have O_x3_1 : OwnB x3 (x1.heap.size) #[.int .i64 (U).kind, .string ⟨(U).text.toArray⟩, .int .i64 (U).n, .int .i64 (U).pos] 60 := OwnB.call OwnB.au hK (by simp only [List.mem_singleton]; omega)
          obtain ⟨y_x3_1, x_x3_1, b_x3_1⟩ := O_x3_1.facts
          have HS3 := Lib.hid (NowS.call (NowS.to HS2.out [q, x1.heap.size] Keeps.au (by simp <;> omega) (by simp [kq, mq] <;> omega)) hP hK)
          clear hP hK
          go_wp2_with fail
          refine (CI _ (NowS.pin (NowS.to HS3.out [q, x1.heap.size] Keeps.au (by simp <;> omega) (by simp [kq, mq] <;> omega)))).out.mono ?_
          rintro e x4 ⟨rfl, hP, hK⟩
          have hz_x4 := hK.size
          try simp only [World.size_alloc, World.size_setCell, World.size_drew, World.heap_drewN] at hz_x4
          have O_x4_0 : OwnB x4 (q) #[.int .i64 0, .slice none 0 0, .slice none 0 0, .int .i64 0, .int .i64 0, .int .i64 0, .string ⟨#[]⟩, .int .i64 0, .int .i64 p] 82 := OwnB.call OwnB.au hK (by simp only [List.mem_singleton]; omega)
          obtain ⟨y_x4_0, x_x4_0, b_x4_0⟩ := O_x4_0.facts
          have O_x4_1 : OwnB x4 (x1.heap.size) #[.int .i64 (U).kind, .string ⟨(U).text.toArray⟩, .int .i64 (U).n, .int .i64 (U).pos] 60 := OwnB.call OwnB.au hK (by simp only [List.mem_singleton]; omega)
          obtain ⟨y_x4_1, x_x4_1, b_x4_1⟩ := O_x4_1.facts
          have HS4 := Lib.hid (NowS.call (NowS.to HS3.out [q, x1.heap.size] Keeps.au (by simp <;> omega) (by simp [kq, mq] <;> omega)) hP hK)
          clear hP hK
          go_wp2_with fail
          refine (CB _ (NowS.pin (NowS.to HS4.out [q, x1.heap.size] Keeps.au (by simp <;> omega) (by simp [kq, mq] <;> omega)))).out.mono ?_
          rintro e x5 ⟨a1, n1, p1, rfl, hP, hK, hT⟩
          have hz_x5 := hK.size
          try simp only [World.size_alloc, World.size_setCell, World.size_drew, World.heap_drewN] at hz_x5
          have O_x5_0 : OwnB x5 (q) #[.int .i64 0, .slice none 0 0, .slice none 0 0, .int .i64 0, .int .i64 0, .int .i64 0, .string ⟨#[]⟩, .int .i64 0, .int .i64 p] 82 := OwnB.call OwnB.au hK (by simp only [List.mem_singleton]; omega)
          obtain ⟨y_x5_0, x_x5_0, b_x5_0⟩ := O_x5_0.facts
          have O_x5_1 : OwnB x5 (x1.heap.size) #[.int .i64 (U).kind, .string ⟨(U).text.toArray⟩, .int .i64 (U).n, .int .i64 (U).pos] 60 := OwnB.call OwnB.au hK (by simp only [List.mem_singleton]; omega)
          obtain ⟨y_x5_1, x_x5_1, b_x5_1⟩ := O_x5_1.facts
          have HS5 := Lib.hid (NowS.callS (NowS.to HS4.out [q, x1.heap.size] Keeps.au (by simp <;> omega) (by simp [kq, mq] <;> omega)) hP hK hT)
          clear hP hK hT
          go_wp2_with fail
          go_end0
          exact NowS.finW (R := (({ sm0 with op := 3, body := A.1, pos := p } : Sm), A.2)) (NowS.to HS5.out [q] Keeps.au (by simp <;> omega) (by simp [kq, mq] <;> omega)) (show OwnB _ (q) #[.int .i64 3, .slice none 0 0, .slice a1 n1 p1, .int .i64 0, .int .i64 0, .int .i64 0, .string ⟨#[]⟩, .int .i64 0, .int .i64 p] 82 from (by repeat (first | with_reducible apply OwnB.s9_0 | with_reducible apply OwnB.s9_1 | with_reducible apply OwnB.s9_2 | with_reducible apply OwnB.s9_3 | with_reducible apply OwnB.s9_4 | with_reducible apply OwnB.s9_5 | with_reducible apply OwnB.s9_6 | with_reducible apply OwnB.s9_7 | with_reducible apply OwnB.s9_8 | with_reducible assumption | (with_reducible refine OwnB.new ?_; (first | with_reducible rfl | (simp only [World.size_alloc, World.size_setCell, World.size_drew, World.heap_drewN]; done) | (simp only [World.size_alloc, World.size_setCell, World.size_drew, World.heap_drewN]; omega))) | with_reducible refine OwnB.alloc ?_ _ | with_reducible refine OwnB.drew ?_ | with_reducible refine OwnB.drewN ?_ _ | with_reducible refine OwnB.setCell ?_ _ _ ?_ | (dsimp only; omega) | omega))) (MIn.wide (NowS.q0 (NowS.to HS5.out [q] Keeps.au (by simp <;> omega) (by simp [kq, mq] <;> omega))).2.2 (NowS.q0 (NowS.to HS5.out [q] Keeps.au (by simp <;> omega) (by simp [kq, mq] <;> omega))).1 (NowS.q0 (NowS.to HS5.out [q] Keeps.au (by simp <;> omega) (by simp [kq, mq] <;> omega))).2.1 (Nat.le_refl _))
        | false =>
          rw [kb, if_neg (by simp)] at hR
          rw [kb] at CI
          cases kz : P.is c.l [59] s with
          | true =>
            rw [kz, if_pos rfl] at hR
            rw [kz, show P.acc c.l [59] s = P.next c.l s by simp [P.acc, kz]] at CZ
            obtain rfl := Option.some.inj hR
            clear h hR hU ky kb kz HC GA
            unfold pv
            go_enter Tryd.func78, Tryd.ntmps78
            go_wp2_with fail
            refine (CT _ (NowS.pin (NowS.to HS.out [q] Keeps.au (by simp <;> omega) (by simp [kq, mq] <;> omega)))).out.mono ?_
            rintro e x1 ⟨rfl, hP, hK⟩
            have hz_x1 := hK.size
            try simp only [World.size_alloc, World.size_setCell, World.size_drew, World.heap_drewN] at hz_x1
            have O_x1_0 : OwnB x1 (q) #[.int .i64 0, .slice none 0 0, .slice none 0 0, .int .i64 0, .int .i64 0, .int .i64 0, .string ⟨#[]⟩, .int .i64 0, .int .i64 p] 82 := OwnB.call OwnB.au hK (by simp only [List.mem_singleton]; omega)
            obtain ⟨y_x1_0, x_x1_0, b_x1_0⟩ := O_x1_0.facts
            have HS1 := Lib.hid (NowS.call (NowS.to HS.out [q] Keeps.au (by simp <;> omega) (by simp [kq, mq] <;> omega)) hP hK)
            clear hP hK
            go_wp2_with fail
            refine (C2 _ (NowS.pin (NowS.to HS1.out [q, x1.heap.size] Keeps.au (by simp <;> omega) (by simp [kq, mq] <;> omega)))).out.mono ?_
            rintro e x2 ⟨rfl, hP, hK⟩
            have hz_x2 := hK.size
            try simp only [World.size_alloc, World.size_setCell, World.size_drew, World.heap_drewN] at hz_x2
            have O_x2_0 : OwnB x2 (q) #[.int .i64 0, .slice none 0 0, .slice none 0 0, .int .i64 0, .int .i64 0, .int .i64 0, .string ⟨#[]⟩, .int .i64 0, .int .i64 p] 82 := OwnB.call OwnB.au hK (by simp only [List.mem_singleton]; omega)
            obtain ⟨y_x2_0, x_x2_0, b_x2_0⟩ := O_x2_0.facts
            have O_x2_1 : OwnB x2 (x1.heap.size) #[.int .i64 (U).kind, .string ⟨(U).text.toArray⟩, .int .i64 (U).n, .int .i64 (U).pos] 60 := OwnB.call OwnB.au hK (by simp only [List.mem_singleton]; omega)
            obtain ⟨y_x2_1, x_x2_1, b_x2_1⟩ := O_x2_1.facts
            have HS2 := Lib.hid (NowS.call (NowS.to HS1.out [q, x1.heap.size] Keeps.au (by simp <;> omega) (by simp [kq, mq] <;> omega)) hP hK)
            clear hP hK
            go_wp2_with fail
            refine (CY _ (NowS.pin (NowS.to HS2.out [q, x1.heap.size] Keeps.au (by simp <;> omega) (by simp [kq, mq] <;> omega)))).out.mono ?_
            rintro e x3 ⟨rfl, hP, hK⟩
            have hz_x3 := hK.size
            try simp only [World.size_alloc, World.size_setCell, World.size_drew, World.heap_drewN] at hz_x3
            have O_x3_0 : OwnB x3 (q) #[.int .i64 0, .slice none 0 0, .slice none 0 0, .int .i64 0, .int .i64 0, .int .i64 0, .string ⟨#[]⟩, .int .i64 0, .int .i64 p] 82 := OwnB.call OwnB.au hK (by simp only [List.mem_singleton]; omega)
            obtain ⟨y_x3_0, x_x3_0, b_x3_0⟩ := O_x3_0.facts
            have O_x3_1 : OwnB x3 (x1.heap.size) #[.int .i64 (U).kind, .string ⟨(U).text.toArray⟩, .int .i64 (U).n, .int .i64 (U).pos] 60 := OwnB.call OwnB.au hK (by simp only [List.mem_singleton]; omega)
            obtain ⟨y_x3_1, x_x3_1, b_x3_1⟩ := O_x3_1.facts
            have HS3 := Lib.hid (NowS.call (NowS.to HS2.out [q, x1.heap.size] Keeps.au (by simp <;> omega) (by simp [kq, mq] <;> omega)) hP hK)
            clear hP hK
            go_wp2_with fail
            refine (CI _ (NowS.pin (NowS.to HS3.out [q, x1.heap.size] Keeps.au (by simp <;> omega) (by simp [kq, mq] <;> omega)))).out.mono ?_
            rintro e x4 ⟨rfl, hP, hK⟩
            have hz_x4 := hK.size
            try simp only [World.size_alloc, World.size_setCell, World.size_drew, World.heap_drewN] at hz_x4
            have O_x4_0 : OwnB x4 (q) #[.int .i64 0, .slice none 0 0, .slice none 0 0, .int .i64 0, .int .i64 0, .int .i64 0, .string ⟨#[]⟩, .int .i64 0, .int .i64 p] 82 := OwnB.call OwnB.au hK (by simp only [List.mem_singleton]; omega)
            obtain ⟨y_x4_0, x_x4_0, b_x4_0⟩ := O_x4_0.facts
            have O_x4_1 : OwnB x4 (x1.heap.size) #[.int .i64 (U).kind, .string ⟨(U).text.toArray⟩, .int .i64 (U).n, .int .i64 (U).pos] 60 := OwnB.call OwnB.au hK (by simp only [List.mem_singleton]; omega)
            obtain ⟨y_x4_1, x_x4_1, b_x4_1⟩ := O_x4_1.facts
            have HS4 := Lib.hid (NowS.call (NowS.to HS3.out [q, x1.heap.size] Keeps.au (by simp <;> omega) (by simp [kq, mq] <;> omega)) hP hK)
            clear hP hK
            go_wp2_with fail
            refine (CZ _ (NowS.pin (NowS.to HS4.out [q, x1.heap.size] Keeps.au (by simp <;> omega) (by simp [kq, mq] <;> omega)))).out.mono ?_
            rintro e x5 ⟨rfl, hP, hK⟩
            have hz_x5 := hK.size
            try simp only [World.size_alloc, World.size_setCell, World.size_drew, World.heap_drewN] at hz_x5
            have O_x5_0 : OwnB x5 (q) #[.int .i64 0, .slice none 0 0, .slice none 0 0, .int .i64 0, .int .i64 0, .int .i64 0, .string ⟨#[]⟩, .int .i64 0, .int .i64 p] 82 := OwnB.call OwnB.au hK (by simp only [List.mem_singleton]; omega)
            obtain ⟨y_x5_0, x_x5_0, b_x5_0⟩ := O_x5_0.facts
            have O_x5_1 : OwnB x5 (x1.heap.size) #[.int .i64 (U).kind, .string ⟨(U).text.toArray⟩, .int .i64 (U).n, .int .i64 (U).pos] 60 := OwnB.call OwnB.au hK (by simp only [List.mem_singleton]; omega)
            obtain ⟨y_x5_1, x_x5_1, b_x5_1⟩ := O_x5_1.facts
            have HS5 := Lib.hid (NowS.call (NowS.to HS4.out [q, x1.heap.size] Keeps.au (by simp <;> omega) (by simp [kq, mq] <;> omega)) hP hK)
            clear hP hK
            go_wp2_with fail
            go_end0
            exact NowS.finW (R := (({ sm0 with op := 16, pos := p } : Sm), P.next c.l s)) (NowS.to HS5.out [q] Keeps.au (by simp <;> omega) (by simp [kq, mq] <;> omega)) (show OwnB _ (q) #[.int .i64 16, .slice none 0 0, .slice none 0 0, .int .i64 0, .int .i64 0, .int .i64 0, .string ⟨#[]⟩, .int .i64 0, .int .i64 p] 82 from (by repeat (first | with_reducible apply OwnB.s9_0 | with_reducible apply OwnB.s9_1 | with_reducible apply OwnB.s9_2 | with_reducible apply OwnB.s9_3 | with_reducible apply OwnB.s9_4 | with_reducible apply OwnB.s9_5 | with_reducible apply OwnB.s9_6 | with_reducible apply OwnB.s9_7 | with_reducible apply OwnB.s9_8 | with_reducible assumption | (with_reducible refine OwnB.new ?_; (first | with_reducible rfl | (simp only [World.size_alloc, World.size_setCell, World.size_drew, World.heap_drewN]; done) | (simp only [World.size_alloc, World.size_setCell, World.size_drew, World.heap_drewN]; omega))) | with_reducible refine OwnB.alloc ?_ _ | with_reducible refine OwnB.drew ?_ | with_reducible refine OwnB.drewN ?_ _ | with_reducible refine OwnB.setCell ?_ _ _ ?_ | (dsimp only; omega) | omega))) (MIn.nil (Nat.le_refl _))
          | false =>
            rw [kz, if_neg (by simp)] at hR
            rw [kz, show P.acc c.l [59] s = s by simp [P.acc, kz]] at CZ
            obtain ⟨A, hA, hR⟩ := Option.bind_eq_some_iff.1 hR
            obtain rfl := Option.some.inj hR
            have CD := fun W H => Lib.hid (told_step c hc f d s A W h0 hd hA H)
            clear h hR hU ky kb kz HC GA hA
            unfold pv
            go_enter Tryd.func78, Tryd.ntmps78
            go_wp2_with fail
            refine (CT _ (NowS.pin (NowS.to HS.out [q] Keeps.au (by simp <;> omega) (by simp [kq, mq] <;> omega)))).out.mono ?_
            rintro e x1 ⟨rfl, hP, hK⟩
            have hz_x1 := hK.size
            try simp only [World.size_alloc, World.size_setCell, World.size_drew, World.heap_drewN] at hz_x1
            have O_x1_0 : OwnB x1 (q) #[.int .i64 0, .slice none 0 0, .slice none 0 0, .int .i64 0, .int .i64 0, .int .i64 0, .string ⟨#[]⟩, .int .i64 0, .int .i64 p] 82 := OwnB.call OwnB.au hK (by simp only [List.mem_singleton]; omega)
            obtain ⟨y_x1_0, x_x1_0, b_x1_0⟩ := O_x1_0.facts
            have HS1 := Lib.hid (NowS.call (NowS.to HS.out [q] Keeps.au (by simp <;> omega) (by simp [kq, mq] <;> omega)) hP hK)
            clear hP hK
            go_wp2_with fail
            refine (C2 _ (NowS.pin (NowS.to HS1.out [q, x1.heap.size] Keeps.au (by simp <;> omega) (by simp [kq, mq] <;> omega)))).out.mono ?_
            rintro e x2 ⟨rfl, hP, hK⟩
            have hz_x2 := hK.size
            try simp only [World.size_alloc, World.size_setCell, World.size_drew, World.heap_drewN] at hz_x2
            have O_x2_0 : OwnB x2 (q) #[.int .i64 0, .slice none 0 0, .slice none 0 0, .int .i64 0, .int .i64 0, .int .i64 0, .string ⟨#[]⟩, .int .i64 0, .int .i64 p] 82 := OwnB.call OwnB.au hK (by simp only [List.mem_singleton]; omega)
            obtain ⟨y_x2_0, x_x2_0, b_x2_0⟩ := O_x2_0.facts
            have O_x2_1 : OwnB x2 (x1.heap.size) #[.int .i64 (U).kind, .string ⟨(U).text.toArray⟩, .int .i64 (U).n, .int .i64 (U).pos] 60 := OwnB.call OwnB.au hK (by simp only [List.mem_singleton]; omega)
            obtain ⟨y_x2_1, x_x2_1, b_x2_1⟩ := O_x2_1.facts
            have HS2 := Lib.hid (NowS.call (NowS.to HS1.out [q, x1.heap.size] Keeps.au (by simp <;> omega) (by simp [kq, mq] <;> omega)) hP hK)
            clear hP hK
            go_wp2_with fail
            refine (CY _ (NowS.pin (NowS.to HS2.out [q, x1.heap.size] Keeps.au (by simp <;> omega) (by simp [kq, mq] <;> omega)))).out.mono ?_
            rintro e x3 ⟨rfl, hP, hK⟩
            have hz_x3 := hK.size
            try simp only [World.size_alloc, World.size_setCell, World.size_drew, World.heap_drewN] at hz_x3
            have O_x3_0 : OwnB x3 (q) #[.int .i64 0, .slice none 0 0, .slice none 0 0, .int .i64 0, .int .i64 0, .int .i64 0, .string ⟨#[]⟩, .int .i64 0, .int .i64 p] 82 := OwnB.call OwnB.au hK (by simp only [List.mem_singleton]; omega)
            obtain ⟨y_x3_0, x_x3_0, b_x3_0⟩ := O_x3_0.facts
            have O_x3_1 : OwnB x3 (x1.heap.size) #[.int .i64 (U).kind, .string ⟨(U).text.toArray⟩, .int .i64 (U).n, .int .i64 (U).pos] 60 := OwnB.call OwnB.au hK (by simp only [List.mem_singleton]; omega)
            obtain ⟨y_x3_1, x_x3_1, b_x3_1⟩ := O_x3_1.facts
            have HS3 := Lib.hid (NowS.call (NowS.to HS2.out [q, x1.heap.size] Keeps.au (by simp <;> omega) (by simp [kq, mq] <;> omega)) hP hK)
            clear hP hK
            go_wp2_with fail
            refine (CI _ (NowS.pin (NowS.to HS3.out [q, x1.heap.size] Keeps.au (by simp <;> omega) (by simp [kq, mq] <;> omega)))).out.mono ?_
            rintro e x4 ⟨rfl, hP, hK⟩
            have hz_x4 := hK.size
            try simp only [World.size_alloc, World.size_setCell, World.size_drew, World.heap_drewN] at hz_x4
            have O_x4_0 : OwnB x4 (q) #[.int .i64 0, .slice none 0 0, .slice none 0 0, .int .i64 0, .int .i64 0, .int .i64 0, .string ⟨#[]⟩, .int .i64 0, .int .i64 p] 82 := OwnB.call OwnB.au hK (by simp only [List.mem_singleton]; omega)
            obtain ⟨y_x4_0, x_x4_0, b_x4_0⟩ := O_x4_0.facts
            have O_x4_1 : OwnB x4 (x1.heap.size) #[.int .i64 (U).kind, .string ⟨(U).text.toArray⟩, .int .i64 (U).n, .int .i64 (U).pos] 60 := OwnB.call OwnB.au hK (by simp only [List.mem_singleton]; omega)
            obtain ⟨y_x4_1, x_x4_1, b_x4_1⟩ := O_x4_1.facts
            have HS4 := Lib.hid (NowS.call (NowS.to HS3.out [q, x1.heap.size] Keeps.au (by simp <;> omega) (by simp [kq, mq] <;> omega)) hP hK)
            clear hP hK
            go_wp2_with fail
            refine (CZ _ (NowS.pin (NowS.to HS4.out [q, x1.heap.size] Keeps.au (by simp <;> omega) (by simp [kq, mq] <;> omega)))).out.mono ?_
            rintro e x5 ⟨rfl, hP, hK⟩
            have hz_x5 := hK.size
            try simp only [World.size_alloc, World.size_setCell, World.size_drew, World.heap_drewN] at hz_x5
            have O_x5_0 : OwnB x5 (q) #[.int .i64 0, .slice none 0 0, .slice none 0 0, .int .i64 0, .int .i64 0, .int .i64 0, .string ⟨#[]⟩, .int .i64 0, .int .i64 p] 82 := OwnB.call OwnB.au hK (by simp only [List.mem_singleton]; omega)
            obtain ⟨y_x5_0, x_x5_0, b_x5_0⟩ := O_x5_0.facts
            have O_x5_1 : OwnB x5 (x1.heap.size) #[.int .i64 (U).kind, .string ⟨(U).text.toArray⟩, .int .i64 (U).n, .int .i64 (U).pos] 60 := OwnB.call OwnB.au hK (by simp only [List.mem_singleton]; omega)
            obtain ⟨y_x5_1, x_x5_1, b_x5_1⟩ := O_x5_1.facts
            have HS5 := Lib.hid (NowS.call (NowS.to HS4.out [q, x1.heap.size] Keeps.au (by simp <;> omega) (by simp [kq, mq] <;> omega)) hP hK)
            clear hP hK
            go_wp2_with fail
            refine (CD _ (NowS.pin (NowS.to HS5.out [q, x1.heap.size] Keeps.au (by simp <;> omega) (by simp [kq, mq] <;> omega)))).out.mono ?_
            rintro e x6 ⟨a1, n1, p1, rfl, hP, hK, hT⟩
            have hz_x6 := hK.size
            try simp only [World.size_alloc, World.size_setCell, World.size_drew, World.heap_drewN] at hz_x6
            have O_x6_0 : OwnB x6 (q) #[.int .i64 0, .slice none 0 0, .slice none 0 0, .int .i64 0, .int .i64 0, .int .i64 0, .string ⟨#[]⟩, .int .i64 0, .int .i64 p] 82 := OwnB.call OwnB.au hK (by simp only [List.mem_singleton]; omega)
            obtain ⟨y_x6_0, x_x6_0, b_x6_0⟩ := O_x6_0.facts
            have O_x6_1 : OwnB x6 (x1.heap.size) #[.int .i64 (U).kind, .string ⟨(U).text.toArray⟩, .int .i64 (U).n, .int .i64 (U).pos] 60 := OwnB.call OwnB.au hK (by simp only [List.mem_singleton]; omega)
            obtain ⟨y_x6_1, x_x6_1, b_x6_1⟩ := O_x6_1.facts
            have HS6 := Lib.hid (NowS.callE (NowS.to HS5.out [q, x1.heap.size] Keeps.au (by simp <;> omega) (by simp [kq, mq] <;> omega)) hP hK hT)
            clear hP hK hT
            go_wp2_with fail
            go_end0
            exact NowS.finW (R := (({ sm0 with op := 1, ex := A.1, pos := p } : Sm), A.2)) (NowS.to HS6.out [q] Keeps.au (by simp <;> omega) (by simp [kq, mq] <;> omega)) (show OwnB _ (q) #[.int .i64 1, .slice a1 n1 p1, .slice none 0 0, .int .i64 0, .int .i64 0, .int .i64 0, .string ⟨#[]⟩, .int .i64 0, .int .i64 p] 82 from (by repeat (first | with_reducible apply OwnB.s9_0 | with_reducible apply OwnB.s9_1 | with_reducible apply OwnB.s9_2 | with_reducible apply OwnB.s9_3 | with_reducible apply OwnB.s9_4 | with_reducible apply OwnB.s9_5 | with_reducible apply OwnB.s9_6 | with_reducible apply OwnB.s9_7 | with_reducible apply OwnB.s9_8 | with_reducible assumption | (with_reducible refine OwnB.new ?_; (first | with_reducible rfl | (simp only [World.size_alloc, World.size_setCell, World.size_drew, World.heap_drewN]; done) | (simp only [World.size_alloc, World.size_setCell, World.size_drew, World.heap_drewN]; omega))) | with_reducible refine OwnB.alloc ?_ _ | with_reducible refine OwnB.drew ?_ | with_reducible refine OwnB.drewN ?_ _ | with_reducible refine OwnB.setCell ?_ _ _ ?_ | (dsimp only; omega) | omega))) (MIn.of_ex (KidsIn.wide (NowS.q0 (NowS.to HS6.out [q] Keeps.au (by simp <;> omega) (by simp [kq, mq] <;> omega))).2.2 (NowS.q0 (NowS.to HS6.out [q] Keeps.au (by simp <;> omega) (by simp [kq, mq] <;> omega))).1 (NowS.q0 (NowS.to HS6.out [q] Keeps.au (by simp <;> omega) (by simp [kq, mq] <;> omega))).2.1 (Nat.le_refl _)))

  · have k1 : (U.kind == 1) = false := by simp [hk]
    rw [if_neg (fun hh => hk hh.1)] at hR
    clear hk
    cases ky : isType U.text with
    | true =>
      rw [ky, if_pos rfl] at hR
      rw [ky] at CY
      have CL := fun W H HO => Lib.hid (local_step c hc f d p s R W q h0 hd HO hn hR H)
      clear h hR hU ky HC GA
      unfold pv
      go_enter Tryd.func78, Tryd.ntmps78
      go_wp2_with fail
      refine (CT _ (NowS.pin (NowS.to HS.out [q] Keeps.au (by simp <;> omega) (by simp [kq, mq] <;> omega)))).out.mono ?_
      rintro e x1 ⟨rfl, hP, hK⟩
      have hz_x1 := hK.size
      try simp only [World.size_alloc, World.size_setCell, World.size_drew, World.heap_drewN] at hz_x1
      have O_x1_0 : OwnB x1 (q) #[.int .i64 0, .slice none 0 0, .slice none 0 0, .int .i64 0, .int .i64 0, .int .i64 0, .string ⟨#[]⟩, .int .i64 0, .int .i64 p] 82 := OwnB.call OwnB.au hK (by simp only [List.mem_singleton]; omega)
      obtain ⟨y_x1_0, x_x1_0, b_x1_0⟩ := O_x1_0.facts
      have HS1 := Lib.hid (NowS.call (NowS.to HS.out [q] Keeps.au (by simp <;> omega) (by simp [kq, mq] <;> omega)) hP hK)
      clear hP hK
      go_wp2_with fail
      refine (CY _ (NowS.pin (NowS.to HS1.out [q, x1.heap.size] Keeps.au (by simp <;> omega) (by simp [kq, mq] <;> omega)))).out.mono ?_
      rintro e x3 ⟨rfl, hP, hK⟩
      have hz_x3 := hK.size
      try simp only [World.size_alloc, World.size_setCell, World.size_drew, World.heap_drewN] at hz_x3
      have O_x3_0 : OwnB x3 (q) #[.int .i64 0, .slice none 0 0, .slice none 0 0, .int .i64 0, .int .i64 0, .int .i64 0, .string ⟨#[]⟩, .int .i64 0, .int .i64 p] 82 := OwnB.call OwnB.au hK (by simp only [List.mem_singleton]; omega)
      obtain ⟨y_x3_0, x_x3_0, b_x3_0⟩ := O_x3_0.facts
      have O_x3_1 : OwnB x3 (x1.heap.size) #[.int .i64 (U).kind, .string ⟨(U).text.toArray⟩, .int .i64 (U).n, .int .i64 (U).pos] 60 := OwnB.call OwnB.au hK (by simp only [List.mem_singleton]; omega)
      obtain ⟨y_x3_1, x_x3_1, b_x3_1⟩ := O_x3_1.facts
      have HS3 := Lib.hid (NowS.call (NowS.to HS1.out [q, x1.heap.size] Keeps.au (by simp <;> omega) (by simp [kq, mq] <;> omega)) hP hK)
      clear hP hK
      go_wp2_with fail
      refine (CL _ (NowS.pin (NowS.to HS3.out [q, x1.heap.size] Keeps.au (by simp <;> omega) (by simp [kq, mq] <;> omega))) O_x3_0).out.mono ?_
      rintro e x4 ⟨a1, n1, p1, a2, n2, p2, rfl, hP, hK, hO, hT⟩
      have HS4 := Lib.hid (NowS.callW HS3.out hP hK hT)
      have HO := Lib.hid hO
      clear hP hK hT hO
      go_wp2_with fail
      go_end0
      exact NowS.finW (R := R) HS4.out HO.out (MIn.wide HS4.out.q0.2.2 HS4.out.q0.1 HS4.out.q0.2.1 (Nat.le_refl _))
    | false =>
      rw [ky, if_neg (by simp)] at hR
      rw [ky] at CY
      have CI := fun W H => Lib.hid (is_any c hc s W H [123])
      have CZ := fun W H => Lib.hid (accept_any c hc s W H [59])
      cases kb : P.is c.l [123] s with
      | true =>
        rw [kb, if_pos rfl] at hR
        rw [kb] at CI
        obtain ⟨A, hA, hR⟩ := Option.bind_eq_some_iff.1 hR
        obtain rfl := Option.some.inj hR
        have CB := fun W H => Lib.hid (block_step c hc f GA d s A W h0 hd hA H)
        clear h hR hU ky kb HC GA hA
        unfold pv
        go_enter Tryd.func78, Tryd.ntmps78
        go_wp2_with fail
        refine (CT _ (NowS.pin (NowS.to HS.out [q] Keeps.au (by simp <;> omega) (by simp [kq, mq] <;> omega)))).out.mono ?_
        rintro e x1 ⟨rfl, hP, hK⟩
        have hz_x1 := hK.size
        try simp only [World.size_alloc, World.size_setCell, World.size_drew, World.heap_drewN] at hz_x1
        have O_x1_0 : OwnB x1 (q) #[.int .i64 0, .slice none 0 0, .slice none 0 0, .int .i64 0, .int .i64 0, .int .i64 0, .string ⟨#[]⟩, .int .i64 0, .int .i64 p] 82 := OwnB.call OwnB.au hK (by simp only [List.mem_singleton]; omega)
        obtain ⟨y_x1_0, x_x1_0, b_x1_0⟩ := O_x1_0.facts
        have HS1 := Lib.hid (NowS.call (NowS.to HS.out [q] Keeps.au (by simp <;> omega) (by simp [kq, mq] <;> omega)) hP hK)
        clear hP hK
        go_wp2_with fail
        refine (CY _ (NowS.pin (NowS.to HS1.out [q, x1.heap.size] Keeps.au (by simp <;> omega) (by simp [kq, mq] <;> omega)))).out.mono ?_
        rintro e x3 ⟨rfl, hP, hK⟩
        have hz_x3 := hK.size
        try simp only [World.size_alloc, World.size_setCell, World.size_drew, World.heap_drewN] at hz_x3
        have O_x3_0 : OwnB x3 (q) #[.int .i64 0, .slice none 0 0, .slice none 0 0, .int .i64 0, .int .i64 0, .int .i64 0, .string ⟨#[]⟩, .int .i64 0, .int .i64 p] 82 := OwnB.call OwnB.au hK (by simp only [List.mem_singleton]; omega)
        obtain ⟨y_x3_0, x_x3_0, b_x3_0⟩ := O_x3_0.facts
        have O_x3_1 : OwnB x3 (x1.heap.size) #[.int .i64 (U).kind, .string ⟨(U).text.toArray⟩, .int .i64 (U).n, .int .i64 (U).pos] 60 := OwnB.call OwnB.au hK (by simp only [List.mem_singleton]; omega)
        obtain ⟨y_x3_1, x_x3_1, b_x3_1⟩ := O_x3_1.facts
        have HS3 := Lib.hid (NowS.call (NowS.to HS1.out [q, x1.heap.size] Keeps.au (by simp <;> omega) (by simp [kq, mq] <;> omega)) hP hK)
        clear hP hK
        go_wp2_with fail
        refine (CI _ (NowS.pin (NowS.to HS3.out [q, x1.heap.size] Keeps.au (by simp <;> omega) (by simp [kq, mq] <;> omega)))).out.mono ?_
        rintro e x4 ⟨rfl, hP, hK⟩
        have hz_x4 := hK.size
        try simp only [World.size_alloc, World.size_setCell, World.size_drew, World.heap_drewN] at hz_x4
        have O_x4_0 : OwnB x4 (q) #[.int .i64 0, .slice none 0 0, .slice none 0 0, .int .i64 0, .int .i64 0, .int .i64 0, .string ⟨#[]⟩, .int .i64 0, .int .i64 p] 82 := OwnB.call OwnB.au hK (by simp only [List.mem_singleton]; omega)
        obtain ⟨y_x4_0, x_x4_0, b_x4_0⟩ := O_x4_0.facts
        have O_x4_1 : OwnB x4 (x1.heap.size) #[.int .i64 (U).kind, .string ⟨(U).text.toArray⟩, .int .i64 (U).n, .int .i64 (U).pos] 60 := OwnB.call OwnB.au hK (by simp only [List.mem_singleton]; omega)
        obtain ⟨y_x4_1, x_x4_1, b_x4_1⟩ := O_x4_1.facts
        have HS4 := Lib.hid (NowS.call (NowS.to HS3.out [q, x1.heap.size] Keeps.au (by simp <;> omega) (by simp [kq, mq] <;> omega)) hP hK)
        clear hP hK
        go_wp2_with fail
        refine (CB _ (NowS.pin (NowS.to HS4.out [q, x1.heap.size] Keeps.au (by simp <;> omega) (by simp [kq, mq] <;> omega)))).out.mono ?_
        rintro e x5 ⟨a1, n1, p1, rfl, hP, hK, hT⟩
        have hz_x5 := hK.size
        try simp only [World.size_alloc, World.size_setCell, World.size_drew, World.heap_drewN] at hz_x5
        have O_x5_0 : OwnB x5 (q) #[.int .i64 0, .slice none 0 0, .slice none 0 0, .int .i64 0, .int .i64 0, .int .i64 0, .string ⟨#[]⟩, .int .i64 0, .int .i64 p] 82 := OwnB.call OwnB.au hK (by simp only [List.mem_singleton]; omega)
        obtain ⟨y_x5_0, x_x5_0, b_x5_0⟩ := O_x5_0.facts
        have O_x5_1 : OwnB x5 (x1.heap.size) #[.int .i64 (U).kind, .string ⟨(U).text.toArray⟩, .int .i64 (U).n, .int .i64 (U).pos] 60 := OwnB.call OwnB.au hK (by simp only [List.mem_singleton]; omega)
        obtain ⟨y_x5_1, x_x5_1, b_x5_1⟩ := O_x5_1.facts
        have HS5 := Lib.hid (NowS.callS (NowS.to HS4.out [q, x1.heap.size] Keeps.au (by simp <;> omega) (by simp [kq, mq] <;> omega)) hP hK hT)
        clear hP hK hT
        go_wp2_with fail
        go_end0
        exact NowS.finW (R := (({ sm0 with op := 3, body := A.1, pos := p } : Sm), A.2)) (NowS.to HS5.out [q] Keeps.au (by simp <;> omega) (by simp [kq, mq] <;> omega)) (show OwnB _ (q) #[.int .i64 3, .slice none 0 0, .slice a1 n1 p1, .int .i64 0, .int .i64 0, .int .i64 0, .string ⟨#[]⟩, .int .i64 0, .int .i64 p] 82 from (by repeat (first | with_reducible apply OwnB.s9_0 | with_reducible apply OwnB.s9_1 | with_reducible apply OwnB.s9_2 | with_reducible apply OwnB.s9_3 | with_reducible apply OwnB.s9_4 | with_reducible apply OwnB.s9_5 | with_reducible apply OwnB.s9_6 | with_reducible apply OwnB.s9_7 | with_reducible apply OwnB.s9_8 | with_reducible assumption | (with_reducible refine OwnB.new ?_; (first | with_reducible rfl | (simp only [World.size_alloc, World.size_setCell, World.size_drew, World.heap_drewN]; done) | (simp only [World.size_alloc, World.size_setCell, World.size_drew, World.heap_drewN]; omega))) | with_reducible refine OwnB.alloc ?_ _ | with_reducible refine OwnB.drew ?_ | with_reducible refine OwnB.drewN ?_ _ | with_reducible refine OwnB.setCell ?_ _ _ ?_ | (dsimp only; omega) | omega))) (MIn.wide (NowS.q0 (NowS.to HS5.out [q] Keeps.au (by simp <;> omega) (by simp [kq, mq] <;> omega))).2.2 (NowS.q0 (NowS.to HS5.out [q] Keeps.au (by simp <;> omega) (by simp [kq, mq] <;> omega))).1 (NowS.q0 (NowS.to HS5.out [q] Keeps.au (by simp <;> omega) (by simp [kq, mq] <;> omega))).2.1 (Nat.le_refl _))
      | false =>
        rw [kb, if_neg (by simp)] at hR
        rw [kb] at CI
        cases kz : P.is c.l [59] s with
        | true =>
          rw [kz, if_pos rfl] at hR
          rw [kz, show P.acc c.l [59] s = P.next c.l s by simp [P.acc, kz]] at CZ
          obtain rfl := Option.some.inj hR
          clear h hR hU ky kb kz HC GA
          unfold pv
          go_enter Tryd.func78, Tryd.ntmps78
          go_wp2_with fail
          refine (CT _ (NowS.pin (NowS.to HS.out [q] Keeps.au (by simp <;> omega) (by simp [kq, mq] <;> omega)))).out.mono ?_
          rintro e x1 ⟨rfl, hP, hK⟩
          have hz_x1 := hK.size
          try simp only [World.size_alloc, World.size_setCell, World.size_drew, World.heap_drewN] at hz_x1
          have O_x1_0 : OwnB x1 (q) #[.int .i64 0, .slice none 0 0, .slice none 0 0, .int .i64 0, .int .i64 0, .int .i64 0, .string ⟨#[]⟩, .int .i64 0, .int .i64 p] 82 := OwnB.call OwnB.au hK (by simp only [List.mem_singleton]; omega)
          obtain ⟨y_x1_0, x_x1_0, b_x1_0⟩ := O_x1_0.facts
          have HS1 := Lib.hid (NowS.call (NowS.to HS.out [q] Keeps.au (by simp <;> omega) (by simp [kq, mq] <;> omega)) hP hK)
          clear hP hK
          go_wp2_with fail
          refine (CY _ (NowS.pin (NowS.to HS1.out [q, x1.heap.size] Keeps.au (by simp <;> omega) (by simp [kq, mq] <;> omega)))).out.mono ?_
          rintro e x3 ⟨rfl, hP, hK⟩
          have hz_x3 := hK.size
          try simp only [World.size_alloc, World.size_setCell, World.size_drew, World.heap_drewN] at hz_x3
          have O_x3_0 : OwnB x3 (q) #[.int .i64 0, .slice none 0 0, .slice none 0 0, .int .i64 0, .int .i64 0, .int .i64 0, .string ⟨#[]⟩, .int .i64 0, .int .i64 p] 82 := OwnB.call OwnB.au hK (by simp only [List.mem_singleton]; omega)
          obtain ⟨y_x3_0, x_x3_0, b_x3_0⟩ := O_x3_0.facts
          have O_x3_1 : OwnB x3 (x1.heap.size) #[.int .i64 (U).kind, .string ⟨(U).text.toArray⟩, .int .i64 (U).n, .int .i64 (U).pos] 60 := OwnB.call OwnB.au hK (by simp only [List.mem_singleton]; omega)
          obtain ⟨y_x3_1, x_x3_1, b_x3_1⟩ := O_x3_1.facts
          have HS3 := Lib.hid (NowS.call (NowS.to HS1.out [q, x1.heap.size] Keeps.au (by simp <;> omega) (by simp [kq, mq] <;> omega)) hP hK)
          clear hP hK
          go_wp2_with fail
          refine (CI _ (NowS.pin (NowS.to HS3.out [q, x1.heap.size] Keeps.au (by simp <;> omega) (by simp [kq, mq] <;> omega)))).out.mono ?_
          rintro e x4 ⟨rfl, hP, hK⟩
          have hz_x4 := hK.size
          try simp only [World.size_alloc, World.size_setCell, World.size_drew, World.heap_drewN] at hz_x4
          have O_x4_0 : OwnB x4 (q) #[.int .i64 0, .slice none 0 0, .slice none 0 0, .int .i64 0, .int .i64 0, .int .i64 0, .string ⟨#[]⟩, .int .i64 0, .int .i64 p] 82 := OwnB.call OwnB.au hK (by simp only [List.mem_singleton]; omega)
          obtain ⟨y_x4_0, x_x4_0, b_x4_0⟩ := O_x4_0.facts
          have O_x4_1 : OwnB x4 (x1.heap.size) #[.int .i64 (U).kind, .string ⟨(U).text.toArray⟩, .int .i64 (U).n, .int .i64 (U).pos] 60 := OwnB.call OwnB.au hK (by simp only [List.mem_singleton]; omega)
          obtain ⟨y_x4_1, x_x4_1, b_x4_1⟩ := O_x4_1.facts
          have HS4 := Lib.hid (NowS.call (NowS.to HS3.out [q, x1.heap.size] Keeps.au (by simp <;> omega) (by simp [kq, mq] <;> omega)) hP hK)
          clear hP hK
          go_wp2_with fail
          refine (CZ _ (NowS.pin (NowS.to HS4.out [q, x1.heap.size] Keeps.au (by simp <;> omega) (by simp [kq, mq] <;> omega)))).out.mono ?_
          rintro e x5 ⟨rfl, hP, hK⟩
          have hz_x5 := hK.size
          try simp only [World.size_alloc, World.size_setCell, World.size_drew, World.heap_drewN] at hz_x5
          have O_x5_0 : OwnB x5 (q) #[.int .i64 0, .slice none 0 0, .slice none 0 0, .int .i64 0, .int .i64 0, .int .i64 0, .string ⟨#[]⟩, .int .i64 0, .int .i64 p] 82 := OwnB.call OwnB.au hK (by simp only [List.mem_singleton]; omega)
          obtain ⟨y_x5_0, x_x5_0, b_x5_0⟩ := O_x5_0.facts
          have O_x5_1 : OwnB x5 (x1.heap.size) #[.int .i64 (U).kind, .string ⟨(U).text.toArray⟩, .int .i64 (U).n, .int .i64 (U).pos] 60 := OwnB.call OwnB.au hK (by simp only [List.mem_singleton]; omega)
          obtain ⟨y_x5_1, x_x5_1, b_x5_1⟩ := O_x5_1.facts
          have HS5 := Lib.hid (NowS.call (NowS.to HS4.out [q, x1.heap.size] Keeps.au (by simp <;> omega) (by simp [kq, mq] <;> omega)) hP hK)
          clear hP hK
          go_wp2_with fail
          go_end0
          exact NowS.finW (R := (({ sm0 with op := 16, pos := p } : Sm), P.next c.l s)) (NowS.to HS5.out [q] Keeps.au (by simp <;> omega) (by simp [kq, mq] <;> omega)) (show OwnB _ (q) #[.int .i64 16, .slice none 0 0, .slice none 0 0, .int .i64 0, .int .i64 0, .int .i64 0, .string ⟨#[]⟩, .int .i64 0, .int .i64 p] 82 from (by repeat (first | with_reducible apply OwnB.s9_0 | with_reducible apply OwnB.s9_1 | with_reducible apply OwnB.s9_2 | with_reducible apply OwnB.s9_3 | with_reducible apply OwnB.s9_4 | with_reducible apply OwnB.s9_5 | with_reducible apply OwnB.s9_6 | with_reducible apply OwnB.s9_7 | with_reducible apply OwnB.s9_8 | with_reducible assumption | (with_reducible refine OwnB.new ?_; (first | with_reducible rfl | (simp only [World.size_alloc, World.size_setCell, World.size_drew, World.heap_drewN]; done) | (simp only [World.size_alloc, World.size_setCell, World.size_drew, World.heap_drewN]; omega))) | with_reducible refine OwnB.alloc ?_ _ | with_reducible refine OwnB.drew ?_ | with_reducible refine OwnB.drewN ?_ _ | with_reducible refine OwnB.setCell ?_ _ _ ?_ | (dsimp only; omega) | omega))) (MIn.nil (Nat.le_refl _))
        | false =>
          rw [kz, if_neg (by simp)] at hR
          rw [kz, show P.acc c.l [59] s = s by simp [P.acc, kz]] at CZ
          obtain ⟨A, hA, hR⟩ := Option.bind_eq_some_iff.1 hR
          obtain rfl := Option.some.inj hR
          have CD := fun W H => Lib.hid (told_step c hc f d s A W h0 hd hA H)
          clear h hR hU ky kb kz HC GA hA
          unfold pv
          go_enter Tryd.func78, Tryd.ntmps78
          go_wp2_with fail
          refine (CT _ (NowS.pin (NowS.to HS.out [q] Keeps.au (by simp <;> omega) (by simp [kq, mq] <;> omega)))).out.mono ?_
          rintro e x1 ⟨rfl, hP, hK⟩
          have hz_x1 := hK.size
          try simp only [World.size_alloc, World.size_setCell, World.size_drew, World.heap_drewN] at hz_x1
          have O_x1_0 : OwnB x1 (q) #[.int .i64 0, .slice none 0 0, .slice none 0 0, .int .i64 0, .int .i64 0, .int .i64 0, .string ⟨#[]⟩, .int .i64 0, .int .i64 p] 82 := OwnB.call OwnB.au hK (by simp only [List.mem_singleton]; omega)
          obtain ⟨y_x1_0, x_x1_0, b_x1_0⟩ := O_x1_0.facts
          have HS1 := Lib.hid (NowS.call (NowS.to HS.out [q] Keeps.au (by simp <;> omega) (by simp [kq, mq] <;> omega)) hP hK)
          clear hP hK
          go_wp2_with fail
          refine (CY _ (NowS.pin (NowS.to HS1.out [q, x1.heap.size] Keeps.au (by simp <;> omega) (by simp [kq, mq] <;> omega)))).out.mono ?_
          rintro e x3 ⟨rfl, hP, hK⟩
          have hz_x3 := hK.size
          try simp only [World.size_alloc, World.size_setCell, World.size_drew, World.heap_drewN] at hz_x3
          have O_x3_0 : OwnB x3 (q) #[.int .i64 0, .slice none 0 0, .slice none 0 0, .int .i64 0, .int .i64 0, .int .i64 0, .string ⟨#[]⟩, .int .i64 0, .int .i64 p] 82 := OwnB.call OwnB.au hK (by simp only [List.mem_singleton]; omega)
          obtain ⟨y_x3_0, x_x3_0, b_x3_0⟩ := O_x3_0.facts
          have O_x3_1 : OwnB x3 (x1.heap.size) #[.int .i64 (U).kind, .string ⟨(U).text.toArray⟩, .int .i64 (U).n, .int .i64 (U).pos] 60 := OwnB.call OwnB.au hK (by simp only [List.mem_singleton]; omega)
          obtain ⟨y_x3_1, x_x3_1, b_x3_1⟩ := O_x3_1.facts
          have HS3 := Lib.hid (NowS.call (NowS.to HS1.out [q, x1.heap.size] Keeps.au (by simp <;> omega) (by simp [kq, mq] <;> omega)) hP hK)
          clear hP hK
          go_wp2_with fail
          refine (CI _ (NowS.pin (NowS.to HS3.out [q, x1.heap.size] Keeps.au (by simp <;> omega) (by simp [kq, mq] <;> omega)))).out.mono ?_
          rintro e x4 ⟨rfl, hP, hK⟩
          have hz_x4 := hK.size
          try simp only [World.size_alloc, World.size_setCell, World.size_drew, World.heap_drewN] at hz_x4
          have O_x4_0 : OwnB x4 (q) #[.int .i64 0, .slice none 0 0, .slice none 0 0, .int .i64 0, .int .i64 0, .int .i64 0, .string ⟨#[]⟩, .int .i64 0, .int .i64 p] 82 := OwnB.call OwnB.au hK (by simp only [List.mem_singleton]; omega)
          obtain ⟨y_x4_0, x_x4_0, b_x4_0⟩ := O_x4_0.facts
          have O_x4_1 : OwnB x4 (x1.heap.size) #[.int .i64 (U).kind, .string ⟨(U).text.toArray⟩, .int .i64 (U).n, .int .i64 (U).pos] 60 := OwnB.call OwnB.au hK (by simp only [List.mem_singleton]; omega)
          obtain ⟨y_x4_1, x_x4_1, b_x4_1⟩ := O_x4_1.facts
          have HS4 := Lib.hid (NowS.call (NowS.to HS3.out [q, x1.heap.size] Keeps.au (by simp <;> omega) (by simp [kq, mq] <;> omega)) hP hK)
          clear hP hK
          go_wp2_with fail
          refine (CZ _ (NowS.pin (NowS.to HS4.out [q, x1.heap.size] Keeps.au (by simp <;> omega) (by simp [kq, mq] <;> omega)))).out.mono ?_
          rintro e x5 ⟨rfl, hP, hK⟩
          have hz_x5 := hK.size
          try simp only [World.size_alloc, World.size_setCell, World.size_drew, World.heap_drewN] at hz_x5
          have O_x5_0 : OwnB x5 (q) #[.int .i64 0, .slice none 0 0, .slice none 0 0, .int .i64 0, .int .i64 0, .int .i64 0, .string ⟨#[]⟩, .int .i64 0, .int .i64 p] 82 := OwnB.call OwnB.au hK (by simp only [List.mem_singleton]; omega)
          obtain ⟨y_x5_0, x_x5_0, b_x5_0⟩ := O_x5_0.facts
          have O_x5_1 : OwnB x5 (x1.heap.size) #[.int .i64 (U).kind, .string ⟨(U).text.toArray⟩, .int .i64 (U).n, .int .i64 (U).pos] 60 := OwnB.call OwnB.au hK (by simp only [List.mem_singleton]; omega)
          obtain ⟨y_x5_1, x_x5_1, b_x5_1⟩ := O_x5_1.facts
          have HS5 := Lib.hid (NowS.call (NowS.to HS4.out [q, x1.heap.size] Keeps.au (by simp <;> omega) (by simp [kq, mq] <;> omega)) hP hK)
          clear hP hK
          go_wp2_with fail
          refine (CD _ (NowS.pin (NowS.to HS5.out [q, x1.heap.size] Keeps.au (by simp <;> omega) (by simp [kq, mq] <;> omega)))).out.mono ?_
          rintro e x6 ⟨a1, n1, p1, rfl, hP, hK, hT⟩
          have hz_x6 := hK.size
          try simp only [World.size_alloc, World.size_setCell, World.size_drew, World.heap_drewN] at hz_x6
          have O_x6_0 : OwnB x6 (q) #[.int .i64 0, .slice none 0 0, .slice none 0 0, .int .i64 0, .int .i64 0, .int .i64 0, .string ⟨#[]⟩, .int .i64 0, .int .i64 p] 82 := OwnB.call OwnB.au hK (by simp only [List.mem_singleton]; omega)
          obtain ⟨y_x6_0, x_x6_0, b_x6_0⟩ := O_x6_0.facts
          have O_x6_1 : OwnB x6 (x1.heap.size) #[.int .i64 (U).kind, .string ⟨(U).text.toArray⟩, .int .i64 (U).n, .int .i64 (U).pos] 60 := OwnB.call OwnB.au hK (by simp only [List.mem_singleton]; omega)
          obtain ⟨y_x6_1, x_x6_1, b_x6_1⟩ := O_x6_1.facts
          have HS6 := Lib.hid (NowS.callE (NowS.to HS5.out [q, x1.heap.size] Keeps.au (by simp <;> omega) (by simp [kq, mq] <;> omega)) hP hK hT)
          clear hP hK hT
          go_wp2_with fail
          go_end0
          exact NowS.finW (R := (({ sm0 with op := 1, ex := A.1, pos := p } : Sm), A.2)) (NowS.to HS6.out [q] Keeps.au (by simp <;> omega) (by simp [kq, mq] <;> omega)) (show OwnB _ (q) #[.int .i64 1, .slice a1 n1 p1, .slice none 0 0, .int .i64 0, .int .i64 0, .int .i64 0, .string ⟨#[]⟩, .int .i64 0, .int .i64 p] 82 from (by repeat (first | with_reducible apply OwnB.s9_0 | with_reducible apply OwnB.s9_1 | with_reducible apply OwnB.s9_2 | with_reducible apply OwnB.s9_3 | with_reducible apply OwnB.s9_4 | with_reducible apply OwnB.s9_5 | with_reducible apply OwnB.s9_6 | with_reducible apply OwnB.s9_7 | with_reducible apply OwnB.s9_8 | with_reducible assumption | (with_reducible refine OwnB.new ?_; (first | with_reducible rfl | (simp only [World.size_alloc, World.size_setCell, World.size_drew, World.heap_drewN]; done) | (simp only [World.size_alloc, World.size_setCell, World.size_drew, World.heap_drewN]; omega))) | with_reducible refine OwnB.alloc ?_ _ | with_reducible refine OwnB.drew ?_ | with_reducible refine OwnB.drewN ?_ _ | with_reducible refine OwnB.setCell ?_ _ _ ?_ | (dsimp only; omega) | omega))) (MIn.of_ex (KidsIn.wide (NowS.q0 (NowS.to HS6.out [q] Keeps.au (by simp <;> omega) (by simp [kq, mq] <;> omega))).2.2 (NowS.q0 (NowS.to HS6.out [q] Keeps.au (by simp <;> omega) (by simp [kq, mq] <;> omega))).1 (NowS.q0 (NowS.to HS6.out [q] Keeps.au (by simp <;> omega) (by simp [kq, mq] <;> omega))).2.1 (Nat.le_refl _)))

end Go.Proofs.YtjmemapkipkocaaDoor

/-
  Statements: 'course'.
-/
namespace Go.Proofs.YtjmemapkipkocaaDoor
open Go.RowKit Go.Maps
set_option linter.unusedVariables false
set_option linter.unusedSimpArgs false
set_option maxRecDepth 100000
set_option maxHeartbeats 2000000

theorem make3 (w : World) : (Instr.makeSlice 80 (.int .i64 3) (.int .i64 3)).run Tryd.prog w = .ok (.slice (some ⟨w.heap.size, 0, none⟩) 3 3) (w.alloc (.cells #[.int .i64 0, .int .i64 0, .int .i64 0, .int .i64 0, .string ⟨#[]⟩, .int .i64 0, .slice none 0 0, .int .i64 0, .int .i64 0, .int .i64 0, .int .i64 0, .int .i64 0, .string ⟨#[]⟩, .int .i64 0, .slice none 0 0, .int .i64 0, .int .i64 0, .int .i64 0, .int .i64 0, .int .i64 0, .string ⟨#[]⟩, .int .i64 0, .slice none 0 0, .int .i64 0] 105)) := by kernel_rfl
theorem ends0 (w : World) : (Instr.index 159 (.agg #[.string ⟨#[59]⟩, .string ⟨#[59]⟩, .string ⟨#[41]⟩]) (.int .i64 0)).run Tryd.prog w = .ok (.string ⟨#[59]⟩) w := by kernel_rfl
theorem ends1 (w : World) : (Instr.index 159 (.agg #[.string ⟨#[59]⟩, .string ⟨#[59]⟩, .string ⟨#[41]⟩]) (.int .i64 1)).run Tryd.prog w = .ok (.string ⟨#[59]⟩) w := by kernel_rfl
theorem ends2 (w : World) : (Instr.index 159 (.agg #[.string ⟨#[59]⟩, .string ⟨#[59]⟩, .string ⟨#[41]⟩]) (.int .i64 2)).run Tryd.prog w = .ok (.string ⟨#[41]⟩) w := by kernel_rfl
theorem OwnB.set24_0 {w : World} {b : Nat} {u0 u1 u2 u3 u4 u5 u6 u7 u8 u9 u10 u11 u12 u13 u14 u15 u16 u17 u18 u19 u20 u21 u22 u23 v0 v1 v2 v3 v4 v5 v6 v7 : Value} {T : TypeId} (h : OwnB w b #[u0, u1, u2, u3, u4, u5, u6, u7, u8, u9, u10, u11, u12, u13, u14, u15, u16, u17, u18, u19, u20, u21, u22, u23] T) : OwnB ((((((((w.setCell ⟨b, 0, none⟩ v0).setCell ⟨b, 1, none⟩ v1).setCell ⟨b, 2, none⟩ v2).setCell ⟨b, 3, none⟩ v3).setCell ⟨b, 4, none⟩ v4).setCell ⟨b, 5, none⟩ v5).setCell ⟨b, 6, none⟩ v6).setCell ⟨b, 7, none⟩ v7) b #[v0, v1, v2, v3, v4, v5, v6, v7, u8, u9, u10, u11, u12, u13, u14, u15, u16, u17, u18, u19, u20, u21, u22, u23] T := by
  have h0 : OwnB _ b #[v0, u1, u2, u3, u4, u5, u6, u7, u8, u9, u10, u11, u12, u13, u14, u15, u16, u17, u18, u19, u20, u21, u22, u23] T := h.set 0 v0
  have h1 : OwnB _ b #[v0, v1, u2, u3, u4, u5, u6, u7, u8, u9, u10, u11, u12, u13, u14, u15, u16, u17, u18, u19, u20, u21, u22, u23] T := h0.set 1 v1
  have h2 : OwnB _ b #[v0, v1, v2, u3, u4, u5, u6, u7, u8, u9, u10, u11, u12, u13, u14, u15, u16, u17, u18, u19, u20, u21, u22, u23] T := h1.set 2 v2
  have h3 : OwnB _ b #[v0, v1, v2, v3, u4, u5, u6, u7, u8, u9, u10, u11, u12, u13, u14, u15, u16, u17, u18, u19, u20, u21, u22, u23] T := h2.set 3 v3
  have h4 : OwnB _ b #[v0, v1, v2, v3, v4, u5, u6, u7, u8, u9, u10, u11, u12, u13, u14, u15, u16, u17, u18, u19, u20, u21, u22, u23] T := h3.set 4 v4
  have h5 : OwnB _ b #[v0, v1, v2, v3, v4, v5, u6, u7, u8, u9, u10, u11, u12, u13, u14, u15, u16, u17, u18, u19, u20, u21, u22, u23] T := h4.set 5 v5
  have h6 : OwnB _ b #[v0, v1, v2, v3, v4, v5, v6, u7, u8, u9, u10, u11, u12, u13, u14, u15, u16, u17, u18, u19, u20, u21, u22, u23] T := h5.set 6 v6
  have h7 : OwnB _ b #[v0, v1, v2, v3, v4, v5, v6, v7, u8, u9, u10, u11, u12, u13, u14, u15, u16, u17, u18, u19, u20, u21, u22, u23] T := h6.set 7 v7
  exact h7
theorem OwnB.set24_1 {w : World} {b : Nat} {u0 u1 u2 u3 u4 u5 u6 u7 u8 u9 u10 u11 u12 u13 u14 u15 u16 u17 u18 u19 u20 u21 u22 u23 v0 v1 v2 v3 v4 v5 v6 v7 : Value} {T : TypeId} (h : OwnB w b #[u0, u1, u2, u3, u4, u5, u6, u7, u8, u9, u10, u11, u12, u13, u14, u15, u16, u17, u18, u19, u20, u21, u22, u23] T) : OwnB ((((((((w.setCell ⟨b, 8, none⟩ v0).setCell ⟨b, 9, none⟩ v1).setCell ⟨b, 10, none⟩ v2).setCell ⟨b, 11, none⟩ v3).setCell ⟨b, 12, none⟩ v4).setCell ⟨b, 13, none⟩ v5).setCell ⟨b, 14, none⟩ v6).setCell ⟨b, 15, none⟩ v7) b #[u0, u1, u2, u3, u4, u5, u6, u7, v0, v1, v2, v3, v4, v5, v6, v7, u16, u17, u18, u19, u20, u21, u22, u23] T := by
  have h0 : OwnB _ b #[u0, u1, u2, u3, u4, u5, u6, u7, v0, u9, u10, u11, u12, u13, u14, u15, u16, u17, u18, u19, u20, u21, u22, u23] T := h.set 8 v0
  have h1 : OwnB _ b #[u0, u1, u2, u3, u4, u5, u6, u7, v0, v1, u10, u11, u12, u13, u14, u15, u16, u17, u18, u19, u20, u21, u22, u23] T := h0.set 9 v1
  have h2 : OwnB _ b #[u0, u1, u2, u3, u4, u5, u6, u7, v0, v1, v2, u11, u12, u13, u14, u15, u16, u17, u18, u19, u20, u21, u22, u23] T := h1.set 10 v2
  have h3 : OwnB _ b #[u0, u1, u2, u3, u4, u5, u6, u7, v0, v1, v2, v3, u12, u13, u14, u15, u16, u17, u18, u19, u20, u21, u22, u23] T := h2.set 11 v3
  have h4 : OwnB _ b #[u0, u1, u2, u3, u4, u5, u6, u7, v0, v1, v2, v3, v4, u13, u14, u15, u16, u17, u18, u19, u20, u21, u22, u23] T := h3.set 12 v4
  have h5 : OwnB _ b #[u0, u1, u2, u3, u4, u5, u6, u7, v0, v1, v2, v3, v4, v5, u14, u15, u16, u17, u18, u19, u20, u21, u22, u23] T := h4.set 13 v5
  have h6 : OwnB _ b #[u0, u1, u2, u3, u4, u5, u6, u7, v0, v1, v2, v3, v4, v5, v6, u15, u16, u17, u18, u19, u20, u21, u22, u23] T := h5.set 14 v6
  have h7 : OwnB _ b #[u0, u1, u2, u3, u4, u5, u6, u7, v0, v1, v2, v3, v4, v5, v6, v7, u16, u17, u18, u19, u20, u21, u22, u23] T := h6.set 15 v7
  exact h7
theorem OwnB.set24_2 {w : World} {b : Nat} {u0 u1 u2 u3 u4 u5 u6 u7 u8 u9 u10 u11 u12 u13 u14 u15 u16 u17 u18 u19 u20 u21 u22 u23 v0 v1 v2 v3 v4 v5 v6 v7 : Value} {T : TypeId} (h : OwnB w b #[u0, u1, u2, u3, u4, u5, u6, u7, u8, u9, u10, u11, u12, u13, u14, u15, u16, u17, u18, u19, u20, u21, u22, u23] T) : OwnB ((((((((w.setCell ⟨b, 16, none⟩ v0).setCell ⟨b, 17, none⟩ v1).setCell ⟨b, 18, none⟩ v2).setCell ⟨b, 19, none⟩ v3).setCell ⟨b, 20, none⟩ v4).setCell ⟨b, 21, none⟩ v5).setCell ⟨b, 22, none⟩ v6).setCell ⟨b, 23, none⟩ v7) b #[u0, u1, u2, u3, u4, u5, u6, u7, u8, u9, u10, u11, u12, u13, u14, u15, v0, v1, v2, v3, v4, v5, v6, v7] T := by
  have h0 : OwnB _ b #[u0, u1, u2, u3, u4, u5, u6, u7, u8, u9, u10, u11, u12, u13, u14, u15, v0, u17, u18, u19, u20, u21, u22, u23] T := h.set 16 v0
  have h1 : OwnB _ b #[u0, u1, u2, u3, u4, u5, u6, u7, u8, u9, u10, u11, u12, u13, u14, u15, v0, v1, u18, u19, u20, u21, u22, u23] T := h0.set 17 v1
  have h2 : OwnB _ b #[u0, u1, u2, u3, u4, u5, u6, u7, u8, u9, u10, u11, u12, u13, u14, u15, v0, v1, v2, u19, u20, u21, u22, u23] T := h1.set 18 v2
  have h3 : OwnB _ b #[u0, u1, u2, u3, u4, u5, u6, u7, u8, u9, u10, u11, u12, u13, u14, u15, v0, v1, v2, v3, u20, u21, u22, u23] T := h2.set 19 v3
  have h4 : OwnB _ b #[u0, u1, u2, u3, u4, u5, u6, u7, u8, u9, u10, u11, u12, u13, u14, u15, v0, v1, v2, v3, v4, u21, u22, u23] T := h3.set 20 v4
  have h5 : OwnB _ b #[u0, u1, u2, u3, u4, u5, u6, u7, u8, u9, u10, u11, u12, u13, u14, u15, v0, v1, v2, v3, v4, v5, u22, u23] T := h4.set 21 v5
  have h6 : OwnB _ b #[u0, u1, u2, u3, u4, u5, u6, u7, u8, u9, u10, u11, u12, u13, u14, u15, v0, v1, v2, v3, v4, v5, v6, u23] T := h5.set 22 v6
  have h7 : OwnB _ b #[u0, u1, u2, u3, u4, u5, u6, u7, u8, u9, u10, u11, u12, u13, u14, u15, v0, v1, v2, v3, v4, v5, v6, v7] T := h6.set 23 v7
  exact h7
theorem NowQ.addNil {c : Cx} {w W : World} {s : St} {L : List KQ} (h : NowQ c w s L W) : NowQ c w s (kq W.heap.size W.heap.size [] .nil (.slice none 0 0) :: L) W := by
  refine ⟨h.now, fun p hp => ?_⟩
  rcases List.mem_cons.1 hp with rfl | hp
  · exact ⟨h.now.kp.size, Nat.le_refl _, KidsIn.none_ (Nat.le_refl _)⟩
  · exact h.all p hp
theorem KidsIn.threeG {w : World} {lo hi lo2 hi2 lo3 hi3 g l u : Nat} {X X2 X3 : List Nat} {a b d : Ex} {ka kb kd : Value} (h : KidsIn w lo hi X a.kids ka) (h' : KidsIn w lo2 hi2 X2 b.kids kb) (h'' : KidsIn w lo3 hi3 X3 d.kids kd)
    (h12 : hi ≤ lo2) (h23 : hi2 ≤ lo3) (h13 : hi ≤ lo3) (hg : g < lo ∧ g < lo2 ∧ g < lo3) (hl : l ≤ g ∧ l ≤ lo ∧ l ≤ lo2 ∧ l ≤ lo3) (hu : g < u ∧ hi ≤ u ∧ hi2 ≤ u ∧ hi3 ≤ u ∧ u ≤ w.heap.size)
    (hb : OwnB w g (exC a ka ++ exC b kb ++ exC d kd).toArray 105) : KidsIn w l u [] (three a b d) (.slice (some ⟨g, 0, none⟩) 3 3) := by
  obtain ⟨h1, F, h2, h3, h4⟩ := h
  obtain ⟨h1', F', h2', h3', h4'⟩ := h'
  obtain ⟨h1'', F'', h2'', h3'', h4''⟩ := h''
  have hx := ExsIn.add h2 (ExsIn.add h2' (ExsIn.add h2'' (ExsIn.nil (w := w))))
  simp only [List.append_nil] at hx
  refine ⟨hu.2.2.2.2, g :: (F ++ (F' ++ F'')), ⟨exC a ka ++ exC b kb ++ exC d kd, F ++ (F' ++ F''), ownsRow_lit hb.blk (by simp [exC, three, Exs.add, Exs.len]) (by decide), by rw [List.append_assoc]; exact hx, rfl⟩, ?_, ?_⟩
  · refine List.nodup_cons.2 ⟨fun hm => ?_, List.nodup_append.2 ⟨h3, List.nodup_append.2 ⟨h3', h3'', ?_⟩, ?_⟩⟩
    · rcases List.mem_append.1 hm with hm | hm
      · have := (h4 g hm).1; omega
      · rcases List.mem_append.1 hm with hm | hm
        · have := (h4' g hm).1; omega
        · have := (h4'' g hm).1; omega
    · intro x hx y hy
      have := (h4' x hx).2.1; have := (h4'' y hy).1; omega
    · intro x hx y hy
      rcases List.mem_append.1 hy with hy | hy
      · have := (h4 x hx).2.1; have := (h4' y hy).1; omega
      · have := (h4 x hx).2.1; have := (h4'' y hy).1; omega
  · intro x hm
    refine ⟨?_, ?_, by simp⟩
    all_goals
      rcases List.mem_cons.1 hm with rfl | hm
      · omega
      · rcases List.mem_append.1 hm with hm | hm
        · have := h4 x hm; omega
        · rcases List.mem_append.1 hm with hm | hm
          · have := h4' x hm; omega
          · have := h4'' x hm; omega
/-- Where the loop of 'course' is. -/
structure CouAt (c : Cx) (w : World) (g : Nat) (s1 : St) (A B D : Ex × St) (k : Nat) (i : Value) (wr : World) : Prop where
  ex : (k = 3 ∧ i = .int .i64 0 ∧ NowQ c w s1 [] wr ∧ OwnB wr g #[.int .i64 0, .int .i64 0, .int .i64 0, .int .i64 0, .string ⟨#[]⟩, .int .i64 0, .slice none 0 0, .int .i64 0, .int .i64 0, .int .i64 0, .int .i64 0, .int .i64 0, .string ⟨#[]⟩, .int .i64 0, .slice none 0 0, .int .i64 0, .int .i64 0, .int .i64 0, .int .i64 0, .int .i64 0, .string ⟨#[]⟩, .int .i64 0, .slice none 0 0, .int .i64 0] 105) ∨
    (k = 2 ∧ i = .int .i64 1 ∧ ∃ a1 n1 p1 l1 u1, NowQ c w A.2 [kq l1 u1 [] A.1.kids (.slice a1 n1 p1)] wr ∧ g < l1 ∧ OwnB wr g #[.int .i64 (A.1).op, .int .i64 (A.1).ty.kind, .int .i64 (A.1).ty.ptr, .int .i64 (A.1).ty.len, .string ⟨(A.1).nm.toArray⟩, .int .i64 (A.1).n, .slice a1 n1 p1, .int .i64 (A.1).pos, .int .i64 0, .int .i64 0, .int .i64 0, .int .i64 0, .string ⟨#[]⟩, .int .i64 0, .slice none 0 0, .int .i64 0, .int .i64 0, .int .i64 0, .int .i64 0, .int .i64 0, .string ⟨#[]⟩, .int .i64 0, .slice none 0 0, .int .i64 0] 105) ∨
    (k = 1 ∧ i = .int .i64 2 ∧ ∃ a1 n1 p1 l1 u1 a2 n2 p2 l2 u2, NowQ c w B.2 [kq l2 u2 [] B.1.kids (.slice a2 n2 p2), kq l1 u1 [] A.1.kids (.slice a1 n1 p1)] wr ∧ (g < l1 ∧ g < l2 ∧ u1 ≤ l2) ∧ OwnB wr g #[.int .i64 (A.1).op, .int .i64 (A.1).ty.kind, .int .i64 (A.1).ty.ptr, .int .i64 (A.1).ty.len, .string ⟨(A.1).nm.toArray⟩, .int .i64 (A.1).n, .slice a1 n1 p1, .int .i64 (A.1).pos, .int .i64 (B.1).op, .int .i64 (B.1).ty.kind, .int .i64 (B.1).ty.ptr, .int .i64 (B.1).ty.len, .string ⟨(B.1).nm.toArray⟩, .int .i64 (B.1).n, .slice a2 n2 p2, .int .i64 (B.1).pos, .int .i64 0, .int .i64 0, .int .i64 0, .int .i64 0, .string ⟨#[]⟩, .int .i64 0, .slice none 0 0, .int .i64 0] 105) ∨
    (k = 0 ∧ i = .int .i64 3 ∧ ∃ a1 n1 p1 l1 u1 a2 n2 p2 l2 u2 a3 n3 p3 l3 u3, NowQ c w D.2 [kq l3 u3 [] D.1.kids (.slice a3 n3 p3), kq l2 u2 [] B.1.kids (.slice a2 n2 p2), kq l1 u1 [] A.1.kids (.slice a1 n1 p1)] wr ∧ (g < l1 ∧ g < l2 ∧ g < l3 ∧ u1 ≤ l2 ∧ u2 ≤ l3 ∧ u1 ≤ l3) ∧ OwnB wr g #[.int .i64 (A.1).op, .int .i64 (A.1).ty.kind, .int .i64 (A.1).ty.ptr, .int .i64 (A.1).ty.len, .string ⟨(A.1).nm.toArray⟩, .int .i64 (A.1).n, .slice a1 n1 p1, .int .i64 (A.1).pos, .int .i64 (B.1).op, .int .i64 (B.1).ty.kind, .int .i64 (B.1).ty.ptr, .int .i64 (B.1).ty.len, .string ⟨(B.1).nm.toArray⟩, .int .i64 (B.1).n, .slice a2 n2 p2, .int .i64 (B.1).pos, .int .i64 (D.1).op, .int .i64 (D.1).ty.kind, .int .i64 (D.1).ty.ptr, .int .i64 (D.1).ty.len, .string ⟨(D.1).nm.toArray⟩, .int .i64 (D.1).n, .slice a3 n3 p3, .int .i64 (D.1).pos] 105)
/-- A round's expression. -/
theorem maybe_is {l : List Tok} {r : P.Rec} {d : Int} {t : List UInt8} {s : St} {R : Ex × St} (h : P.maybe l r d t s = some R) (hi : P.is l t s = true) : R = (ex0, P.need l t s) := by
  unfold P.maybe at h
  rw [hi, if_pos rfl] at h
  exact (Option.some.inj h).symm
theorem maybe_not {l : List Tok} {r : P.Rec} {d : Int} {t : List UInt8} {s : St} {R : Ex × St} (h : P.maybe l r d t s = some R) (hi : P.is l t s = false) : ∃ B, r.expr (d + 1) s = some B ∧ R = (B.1, P.need l t B.2) := by
  unfold P.maybe at h
  rw [hi, if_neg (by simp)] at h
  obtain ⟨B, hB, hR⟩ := Option.bind_eq_some_iff.1 h
  exact ⟨B, hB, (Option.some.inj hR).symm⟩
theorem course_step (c : Cx) (hc : c.Ok) (f : Nat) (d : Int) (s : St) (R : Exs × St) (w : World) (h0 : 0 ≤ d) (hd : d + (f + 1) ≤ 1000000000)
    (hR : P.course c.l (P.recs c.l f) d s = some R) (h : PIn w c s) : Calls Tryd.prog 84 #[pv c, .int .i64 d] w (DoesL c R w) := by
  have HN := Lib.hid (NowQ.start h)
  have hg := HN.out.now.g
  have hgt := HN.out.now.gt
  have mk := make3
  have e0 := ends0
  have e1 := ends1
  have e2 := ends2
  unfold P.course at hR
  obtain ⟨A, hA, hR⟩ := Option.bind_eq_some_iff.1 hR
  obtain ⟨B, hB, hR⟩ := Option.bind_eq_some_iff.1 hR
  obtain ⟨D, hD, hR⟩ := Option.bind_eq_some_iff.1 hR
  obtain rfl := Option.some.inj hR
  have CN := fun W H => Lib.hid (need_any c hc s W H [40])
  obtain ⟨s1, hs1⟩ : ∃ s1, s1 = P.need c.l [40] s := ⟨_, rfl⟩
  rw [← hs1] at hA CN
  have hw : wrap64 (d + 1) = d + 1 := wrapJ (by omega) (by omega)
  have HA := Lib.hid hA
  have HB := Lib.hid hB
  have HD := Lib.hid hD
  clear h hR hs1 hA hB hD
  unfold pv
  go_enter Tryd.func84, Tryd.ntmps84
  go_wp2_with fail
  refine (CN _ (NowQ.pin (NowQ.to HN.out [w.heap.size] Keeps.au (by simp <;> omega) (by simp [kq, mq] <;> omega)))).out.mono ?_
  rintro e w1 ⟨rfl, hP, hK⟩
  have hz_w1 := hK.size
  try simp only [World.size_alloc, World.size_setCell, World.size_drew, World.heap_drewN] at hz_w1
  have O_w1_0 : OwnB w1 (w.heap.size) #[.int .i64 0, .int .i64 0, .int .i64 0, .int .i64 0, .string ⟨#[]⟩, .int .i64 0, .slice none 0 0, .int .i64 0, .int .i64 0, .int .i64 0, .int .i64 0, .int .i64 0, .string ⟨#[]⟩, .int .i64 0, .slice none 0 0, .int .i64 0, .int .i64 0, .int .i64 0, .int .i64 0, .int .i64 0, .string ⟨#[]⟩, .int .i64 0, .slice none 0 0, .int .i64 0] 105 := OwnB.call OwnB.au hK (by simp only [List.mem_singleton]; omega)
  obtain ⟨y_w1_0, x_w1_0, b_w1_0⟩ := O_w1_0.facts
  have HN1 := Lib.hid (NowQ.call (NowQ.to HN.out [w.heap.size] Keeps.au (by simp <;> omega) (by simp [kq, mq] <;> omega)) hP hK)
  clear hP hK
  go_wp2_with fail
  go_loopg [12] 3 (fun k i wr => CouAt c w w.heap.size s1 A B D k i wr)
  case atStart => exact ⟨.inl ⟨rfl, rfl, HN1.out, O_w1_0⟩⟩
  case round =>
    obtain ⟨hrel⟩ := hrel
    clear O_w1_0 y_w1_0 x_w1_0 b_w1_0
    rcases hrel with ⟨rfl, rfl, hN, O⟩ | ⟨rfl, rfl, a1, n1, p1, l1, u1, hN, hl, O⟩ | ⟨rfl, rfl, a1, n1, p1, l1, u1, a2, n2, p2, l2, u2, hN, hl, O⟩ | ⟨rfl, rfl, a1, n1, p1, l1, u1, a2, n2, p2, l2, u2, a3, n3, p3, l3, u3, hN, hl, O⟩
    · have HNr := Lib.hid hN
      have hsw : w.heap.size < wr.heap.size := lt_of_blk O.blk
      have hal := HNr.out.all
      obtain ⟨y0, x0, z0⟩ := O.facts
      have CI := fun W H => Lib.hid (is_any c hc s1 W H [59])
      skip
      skip
      clear hN hal
      cases hi : P.is c.l [59] (s1) with
      | true =>
        have hE := maybe_is HA.out hi
        have CM := fun W H => Lib.hid (need_any c hc (s1) W H [59])
        rw [hi] at CI
        have HE := Lib.hid hE
        clear hi hE
        go_wp2_with fail
        refine (CI _ (NowQ.pin (NowQ.to HNr.out [w.heap.size] Keeps.au (by simp <;> omega) (by simp [kq, mq] <;> omega)))).out.mono ?_
        rintro e w2 ⟨rfl, hP, hK⟩
        have hz_w2 := hK.size
        try simp only [World.size_alloc, World.size_setCell, World.size_drew, World.heap_drewN] at hz_w2
        have O_w2_0 : OwnB w2 (w.heap.size) #[.int .i64 0, .int .i64 0, .int .i64 0, .int .i64 0, .string ⟨#[]⟩, .int .i64 0, .slice none 0 0, .int .i64 0, .int .i64 0, .int .i64 0, .int .i64 0, .int .i64 0, .string ⟨#[]⟩, .int .i64 0, .slice none 0 0, .int .i64 0, .int .i64 0, .int .i64 0, .int .i64 0, .int .i64 0, .string ⟨#[]⟩, .int .i64 0, .slice none 0 0, .int .i64 0] 105 := OwnB.call OwnB.au hK (by simp only [List.mem_singleton]; omega)
        obtain ⟨y_w2_0, x_w2_0, b_w2_0⟩ := O_w2_0.facts
        have HN2 := Lib.hid (NowQ.call (NowQ.to HNr.out [w.heap.size] Keeps.au (by simp <;> omega) (by simp [kq, mq] <;> omega)) hP hK)
        clear hP hK
        go_wp2_with fail
        refine (CM _ (NowQ.pin (NowQ.to HN2.out [w.heap.size] Keeps.au (by simp <;> omega) (by simp [kq, mq] <;> omega)))).out.mono ?_
        rintro e w3 ⟨rfl, hP, hK⟩
        have hz_w3 := hK.size
        try simp only [World.size_alloc, World.size_setCell, World.size_drew, World.heap_drewN] at hz_w3
        have O_w3_0 : OwnB w3 (w.heap.size) #[.int .i64 0, .int .i64 0, .int .i64 0, .int .i64 0, .string ⟨#[]⟩, .int .i64 0, .slice none 0 0, .int .i64 0, .int .i64 0, .int .i64 0, .int .i64 0, .int .i64 0, .string ⟨#[]⟩, .int .i64 0, .slice none 0 0, .int .i64 0, .int .i64 0, .int .i64 0, .int .i64 0, .int .i64 0, .string ⟨#[]⟩, .int .i64 0, .slice none 0 0, .int .i64 0] 105 := OwnB.call OwnB.au hK (by simp only [List.mem_singleton]; omega)
        obtain ⟨y_w3_0, x_w3_0, b_w3_0⟩ := O_w3_0.facts
        have HN3 := Lib.hid (NowQ.call (NowQ.to HN2.out [w.heap.size] Keeps.au (by simp <;> omega) (by simp [kq, mq] <;> omega)) hP hK)
        clear hP hK
        go_wp2_with fail
        go_roundg 2
        case measure => omega
        case rel =>
          rw [show A = (ex0, P.need c.l [59] (s1)) from HE.out]
          exact ⟨.inr (.inl ⟨rfl, by go_num, ⟨none, 0, 0, _, _, NowQ.addNil HN3.out, (by (try simp only [World.size_alloc, World.size_setCell]); omega), O_w3_0⟩⟩)⟩
      | false =>
        obtain ⟨V, hV, hE⟩ := maybe_not HA.out hi
        have CE := fun W H => Lib.hid ((goodE c hc f).expr (d + 1) (s1) V W (by omega) (by omega) hV H)
        have CM := fun W H => Lib.hid (need_any c hc V.2 W H [59])
        rw [hi] at CI
        have HE := Lib.hid hE
        clear hi hE hV
        go_wp2_with fail
        refine (CI _ (NowQ.pin (NowQ.to HNr.out [w.heap.size] Keeps.au (by simp <;> omega) (by simp [kq, mq] <;> omega)))).out.mono ?_
        rintro e w2 ⟨rfl, hP, hK⟩
        have hz_w2 := hK.size
        try simp only [World.size_alloc, World.size_setCell, World.size_drew, World.heap_drewN] at hz_w2
        have O_w2_0 : OwnB w2 (w.heap.size) #[.int .i64 0, .int .i64 0, .int .i64 0, .int .i64 0, .string ⟨#[]⟩, .int .i64 0, .slice none 0 0, .int .i64 0, .int .i64 0, .int .i64 0, .int .i64 0, .int .i64 0, .string ⟨#[]⟩, .int .i64 0, .slice none 0 0, .int .i64 0, .int .i64 0, .int .i64 0, .int .i64 0, .int .i64 0, .string ⟨#[]⟩, .int .i64 0, .slice none 0 0, .int .i64 0] 105 := OwnB.call OwnB.au hK (by simp only [List.mem_singleton]; omega)
        obtain ⟨y_w2_0, x_w2_0, b_w2_0⟩ := O_w2_0.facts
        have HN2 := Lib.hid (NowQ.call (NowQ.to HNr.out [w.heap.size] Keeps.au (by simp <;> omega) (by simp [kq, mq] <;> omega)) hP hK)
        clear hP hK
        go_wp2_with fail
        refine (CE _ (NowQ.pin (NowQ.to HN2.out [w.heap.size] Keeps.au (by simp <;> omega) (by simp [kq, mq] <;> omega)))).out.mono ?_
        rintro e w3 ⟨a9, n9, p9, rfl, hP, hK, hT⟩
        have hz_w3 := hK.size
        try simp only [World.size_alloc, World.size_setCell, World.size_drew, World.heap_drewN] at hz_w3
        have O_w3_0 : OwnB w3 (w.heap.size) #[.int .i64 0, .int .i64 0, .int .i64 0, .int .i64 0, .string ⟨#[]⟩, .int .i64 0, .slice none 0 0, .int .i64 0, .int .i64 0, .int .i64 0, .int .i64 0, .int .i64 0, .string ⟨#[]⟩, .int .i64 0, .slice none 0 0, .int .i64 0, .int .i64 0, .int .i64 0, .int .i64 0, .int .i64 0, .string ⟨#[]⟩, .int .i64 0, .slice none 0 0, .int .i64 0] 105 := OwnB.call OwnB.au hK (by simp only [List.mem_singleton]; omega)
        obtain ⟨y_w3_0, x_w3_0, b_w3_0⟩ := O_w3_0.facts
        have HN3 := Lib.hid (NowQ.callE (NowQ.to HN2.out [w.heap.size] Keeps.au (by simp <;> omega) (by simp [kq, mq] <;> omega)) hP hK hT)
        clear hP hK hT
        go_wp2_with fail
        refine (CM _ (NowQ.pin (NowQ.to HN3.out [w.heap.size] Keeps.au (by simp <;> omega) (by simp [kq, mq] <;> omega)))).out.mono ?_
        rintro e w4 ⟨rfl, hP, hK⟩
        have hz_w4 := hK.size
        try simp only [World.size_alloc, World.size_setCell, World.size_drew, World.heap_drewN] at hz_w4
        have O_w4_0 : OwnB w4 (w.heap.size) #[.int .i64 (V.1).op, .int .i64 (V.1).ty.kind, .int .i64 (V.1).ty.ptr, .int .i64 (V.1).ty.len, .string ⟨(V.1).nm.toArray⟩, .int .i64 (V.1).n, .slice a9 n9 p9, .int .i64 (V.1).pos, .int .i64 0, .int .i64 0, .int .i64 0, .int .i64 0, .string ⟨#[]⟩, .int .i64 0, .slice none 0 0, .int .i64 0, .int .i64 0, .int .i64 0, .int .i64 0, .int .i64 0, .string ⟨#[]⟩, .int .i64 0, .slice none 0 0, .int .i64 0] 105 := OwnB.call (by repeat (first | with_reducible apply OwnB.set24_0 | with_reducible assumption | (with_reducible refine OwnB.new ?_; (first | with_reducible rfl | (simp only [World.size_alloc, World.size_setCell, World.size_drew, World.heap_drewN]; done) | (simp only [World.size_alloc, World.size_setCell, World.size_drew, World.heap_drewN]; omega))) | with_reducible refine OwnB.alloc ?_ _ | with_reducible refine OwnB.drew ?_ | with_reducible refine OwnB.drewN ?_ _ | with_reducible refine OwnB.setCell ?_ _ _ ?_ | (dsimp only; omega) | omega)) hK (by simp only [List.mem_singleton]; omega)
        obtain ⟨y_w4_0, x_w4_0, b_w4_0⟩ := O_w4_0.facts
        have HN4 := Lib.hid (NowQ.call (NowQ.to HN3.out [w.heap.size] Keeps.au (by simp <;> omega) (by simp [kq, mq] <;> omega)) hP hK)
        clear hP hK
        go_wp2_with fail
        go_roundg 2
        case measure => omega
        case rel =>
          rw [show A = (V.1, P.need c.l [59] V.2) from HE.out]
          exact ⟨.inr (.inl ⟨rfl, by go_num, ⟨_, _, _, _, _, HN4.out, (by (try simp only [World.size_alloc, World.size_setCell]); omega), O_w4_0⟩⟩)⟩
    · have HNr := Lib.hid hN
      have hsw : w.heap.size < wr.heap.size := lt_of_blk O.blk
      have hal := HNr.out.all
      obtain ⟨y0, x0, z0⟩ := O.facts
      have CI := fun W H => Lib.hid (is_any c hc A.2 W H [59])
      have hu1 : u1 ≤ wr.heap.size := HNr.out.q0.2.1
      skip
      clear hN hal
      cases hi : P.is c.l [59] (A.2) with
      | true =>
        have hE := maybe_is HB.out hi
        have CM := fun W H => Lib.hid (need_any c hc (A.2) W H [59])
        rw [hi] at CI
        have HE := Lib.hid hE
        clear hi hE
        go_wp2_with fail
        refine (CI _ (NowQ.pin (NowQ.to HNr.out [w.heap.size] Keeps.au (by simp <;> omega) (by simp [kq, mq] <;> omega)))).out.mono ?_
        rintro e w2 ⟨rfl, hP, hK⟩
        have hz_w2 := hK.size
        try simp only [World.size_alloc, World.size_setCell, World.size_drew, World.heap_drewN] at hz_w2
        have O_w2_0 : OwnB w2 (w.heap.size) #[.int .i64 (A.1).op, .int .i64 (A.1).ty.kind, .int .i64 (A.1).ty.ptr, .int .i64 (A.1).ty.len, .string ⟨(A.1).nm.toArray⟩, .int .i64 (A.1).n, .slice a1 n1 p1, .int .i64 (A.1).pos, .int .i64 0, .int .i64 0, .int .i64 0, .int .i64 0, .string ⟨#[]⟩, .int .i64 0, .slice none 0 0, .int .i64 0, .int .i64 0, .int .i64 0, .int .i64 0, .int .i64 0, .string ⟨#[]⟩, .int .i64 0, .slice none 0 0, .int .i64 0] 105 := OwnB.call OwnB.au hK (by simp only [List.mem_singleton]; omega)
        obtain ⟨y_w2_0, x_w2_0, b_w2_0⟩ := O_w2_0.facts
        have HN2 := Lib.hid (NowQ.call (NowQ.to HNr.out [w.heap.size] Keeps.au (by simp <;> omega) (by simp [kq, mq] <;> omega)) hP hK)
        clear hP hK
        go_wp2_with fail
        refine (CM _ (NowQ.pin (NowQ.to HN2.out [w.heap.size] Keeps.au (by simp <;> omega) (by simp [kq, mq] <;> omega)))).out.mono ?_
        rintro e w3 ⟨rfl, hP, hK⟩
        have hz_w3 := hK.size
        try simp only [World.size_alloc, World.size_setCell, World.size_drew, World.heap_drewN] at hz_w3
        have O_w3_0 : OwnB w3 (w.heap.size) #[.int .i64 (A.1).op, .int .i64 (A.1).ty.kind, .int .i64 (A.1).ty.ptr, .int .i64 (A.1).ty.len, .string ⟨(A.1).nm.toArray⟩, .int .i64 (A.1).n, .slice a1 n1 p1, .int .i64 (A.1).pos, .int .i64 0, .int .i64 0, .int .i64 0, .int .i64 0, .string ⟨#[]⟩, .int .i64 0, .slice none 0 0, .int .i64 0, .int .i64 0, .int .i64 0, .int .i64 0, .int .i64 0, .string ⟨#[]⟩, .int .i64 0, .slice none 0 0, .int .i64 0] 105 := OwnB.call OwnB.au hK (by simp only [List.mem_singleton]; omega)
        obtain ⟨y_w3_0, x_w3_0, b_w3_0⟩ := O_w3_0.facts
        have HN3 := Lib.hid (NowQ.call (NowQ.to HN2.out [w.heap.size] Keeps.au (by simp <;> omega) (by simp [kq, mq] <;> omega)) hP hK)
        clear hP hK
        go_wp2_with fail
        go_roundg 1
        case measure => omega
        case rel =>
          rw [show B = (ex0, P.need c.l [59] (A.2)) from HE.out]
          exact ⟨.inr (.inr (.inl ⟨rfl, by go_num, ⟨a1, n1, p1, l1, u1, none, 0, 0, _, _, NowQ.addNil HN3.out, (by (try simp only [World.size_alloc, World.size_setCell]); omega), O_w3_0⟩⟩))⟩
      | false =>
        obtain ⟨V, hV, hE⟩ := maybe_not HB.out hi
        have CE := fun W H => Lib.hid ((goodE c hc f).expr (d + 1) (A.2) V W (by omega) (by omega) hV H)
        have CM := fun W H => Lib.hid (need_any c hc V.2 W H [59])
        rw [hi] at CI
        have HE := Lib.hid hE
        clear hi hE hV
        go_wp2_with fail
        refine (CI _ (NowQ.pin (NowQ.to HNr.out [w.heap.size] Keeps.au (by simp <;> omega) (by simp [kq, mq] <;> omega)))).out.mono ?_
        rintro e w2 ⟨rfl, hP, hK⟩
        have hz_w2 := hK.size
        try simp only [World.size_alloc, World.size_setCell, World.size_drew, World.heap_drewN] at hz_w2
        have O_w2_0 : OwnB w2 (w.heap.size) #[.int .i64 (A.1).op, .int .i64 (A.1).ty.kind, .int .i64 (A.1).ty.ptr, .int .i64 (A.1).ty.len, .string ⟨(A.1).nm.toArray⟩, .int .i64 (A.1).n, .slice a1 n1 p1, .int .i64 (A.1).pos, .int .i64 0, .int .i64 0, .int .i64 0, .int .i64 0, .string ⟨#[]⟩, .int .i64 0, .slice none 0 0, .int .i64 0, .int .i64 0, .int .i64 0, .int .i64 0, .int .i64 0, .string ⟨#[]⟩, .int .i64 0, .slice none 0 0, .int .i64 0] 105 := OwnB.call OwnB.au hK (by simp only [List.mem_singleton]; omega)
        obtain ⟨y_w2_0, x_w2_0, b_w2_0⟩ := O_w2_0.facts
        have HN2 := Lib.hid (NowQ.call (NowQ.to HNr.out [w.heap.size] Keeps.au (by simp <;> omega) (by simp [kq, mq] <;> omega)) hP hK)
        clear hP hK
        go_wp2_with fail
        refine (CE _ (NowQ.pin (NowQ.to HN2.out [w.heap.size] Keeps.au (by simp <;> omega) (by simp [kq, mq] <;> omega)))).out.mono ?_
        rintro e w3 ⟨a9, n9, p9, rfl, hP, hK, hT⟩
        have hz_w3 := hK.size
        try simp only [World.size_alloc, World.size_setCell, World.size_drew, World.heap_drewN] at hz_w3
        have O_w3_0 : OwnB w3 (w.heap.size) #[.int .i64 (A.1).op, .int .i64 (A.1).ty.kind, .int .i64 (A.1).ty.ptr, .int .i64 (A.1).ty.len, .string ⟨(A.1).nm.toArray⟩, .int .i64 (A.1).n, .slice a1 n1 p1, .int .i64 (A.1).pos, .int .i64 0, .int .i64 0, .int .i64 0, .int .i64 0, .string ⟨#[]⟩, .int .i64 0, .slice none 0 0, .int .i64 0, .int .i64 0, .int .i64 0, .int .i64 0, .int .i64 0, .string ⟨#[]⟩, .int .i64 0, .slice none 0 0, .int .i64 0] 105 := OwnB.call OwnB.au hK (by simp only [List.mem_singleton]; omega)
        obtain ⟨y_w3_0, x_w3_0, b_w3_0⟩ := O_w3_0.facts
        have HN3 := Lib.hid (NowQ.callE (NowQ.to HN2.out [w.heap.size] Keeps.au (by simp <;> omega) (by simp [kq, mq] <;> omega)) hP hK hT)
        clear hP hK hT
        go_wp2_with fail
        refine (CM _ (NowQ.pin (NowQ.to HN3.out [w.heap.size] Keeps.au (by simp <;> omega) (by simp [kq, mq] <;> omega)))).out.mono ?_
        rintro e w4 ⟨rfl, hP, hK⟩
        have hz_w4 := hK.size
        try simp only [World.size_alloc, World.size_setCell, World.size_drew, World.heap_drewN] at hz_w4
        have O_w4_0 : OwnB w4 (w.heap.size) #[.int .i64 (A.1).op, .int .i64 (A.1).ty.kind, .int .i64 (A.1).ty.ptr, .int .i64 (A.1).ty.len, .string ⟨(A.1).nm.toArray⟩, .int .i64 (A.1).n, .slice a1 n1 p1, .int .i64 (A.1).pos, .int .i64 (V.1).op, .int .i64 (V.1).ty.kind, .int .i64 (V.1).ty.ptr, .int .i64 (V.1).ty.len, .string ⟨(V.1).nm.toArray⟩, .int .i64 (V.1).n, .slice a9 n9 p9, .int .i64 (V.1).pos, .int .i64 0, .int .i64 0, .int .i64 0, .int .i64 0, .string ⟨#[]⟩, .int .i64 0, .slice none 0 0, .int .i64 0] 105 := OwnB.call (by repeat (first | with_reducible apply OwnB.set24_1 | with_reducible assumption | (with_reducible refine OwnB.new ?_; (first | with_reducible rfl | (simp only [World.size_alloc, World.size_setCell, World.size_drew, World.heap_drewN]; done) | (simp only [World.size_alloc, World.size_setCell, World.size_drew, World.heap_drewN]; omega))) | with_reducible refine OwnB.alloc ?_ _ | with_reducible refine OwnB.drew ?_ | with_reducible refine OwnB.drewN ?_ _ | with_reducible refine OwnB.setCell ?_ _ _ ?_ | (dsimp only; omega) | omega)) hK (by simp only [List.mem_singleton]; omega)
        obtain ⟨y_w4_0, x_w4_0, b_w4_0⟩ := O_w4_0.facts
        have HN4 := Lib.hid (NowQ.call (NowQ.to HN3.out [w.heap.size] Keeps.au (by simp <;> omega) (by simp [kq, mq] <;> omega)) hP hK)
        clear hP hK
        go_wp2_with fail
        go_roundg 1
        case measure => omega
        case rel =>
          rw [show B = (V.1, P.need c.l [59] V.2) from HE.out]
          exact ⟨.inr (.inr (.inl ⟨rfl, by go_num, ⟨a1, n1, p1, l1, u1, _, _, _, _, _, HN4.out, (by (try simp only [World.size_alloc, World.size_setCell]); omega), O_w4_0⟩⟩))⟩
    · have HNr := Lib.hid hN
      have hsw : w.heap.size < wr.heap.size := lt_of_blk O.blk
      have hal := HNr.out.all
      obtain ⟨y0, x0, z0⟩ := O.facts
      have CI := fun W H => Lib.hid (is_any c hc B.2 W H [41])
      have hu2 : u2 ≤ wr.heap.size := HNr.out.q0.2.1
      have hu1 : u1 ≤ wr.heap.size := HNr.out.q1.2.1
      clear hN hal
      cases hi : P.is c.l [41] (B.2) with
      | true =>
        have hE := maybe_is HD.out hi
        have CM := fun W H => Lib.hid (need_any c hc (B.2) W H [41])
        rw [hi] at CI
        have HE := Lib.hid hE
        clear hi hE
        go_wp2_with fail
        refine (CI _ (NowQ.pin (NowQ.to HNr.out [w.heap.size] Keeps.au (by simp <;> omega) (by simp [kq, mq] <;> omega)))).out.mono ?_
        rintro e w2 ⟨rfl, hP, hK⟩
        have hz_w2 := hK.size
        try simp only [World.size_alloc, World.size_setCell, World.size_drew, World.heap_drewN] at hz_w2
        have O_w2_0 : OwnB w2 (w.heap.size) #[.int .i64 (A.1).op, .int .i64 (A.1).ty.kind, .int .i64 (A.1).ty.ptr, .int .i64 (A.1).ty.len, .string ⟨(A.1).nm.toArray⟩, .int .i64 (A.1).n, .slice a1 n1 p1, .int .i64 (A.1).pos, .int .i64 (B.1).op, .int .i64 (B.1).ty.kind, .int .i64 (B.1).ty.ptr, .int .i64 (B.1).ty.len, .string ⟨(B.1).nm.toArray⟩, .int .i64 (B.1).n, .slice a2 n2 p2, .int .i64 (B.1).pos, .int .i64 0, .int .i64 0, .int .i64 0, .int .i64 0, .string ⟨#[]⟩, .int .i64 0, .slice none 0 0, .int .i64 0] 105 := OwnB.call OwnB.au hK (by simp only [List.mem_singleton]; omega)
        obtain ⟨y_w2_0, x_w2_0, b_w2_0⟩ := O_w2_0.facts
        have HN2 := Lib.hid (NowQ.call (NowQ.to HNr.out [w.heap.size] Keeps.au (by simp <;> omega) (by simp [kq, mq] <;> omega)) hP hK)
        clear hP hK
        go_wp2_with fail
        refine (CM _ (NowQ.pin (NowQ.to HN2.out [w.heap.size] Keeps.au (by simp <;> omega) (by simp [kq, mq] <;> omega)))).out.mono ?_
        rintro e w3 ⟨rfl, hP, hK⟩
        have hz_w3 := hK.size
        try simp only [World.size_alloc, World.size_setCell, World.size_drew, World.heap_drewN] at hz_w3
        have O_w3_0 : OwnB w3 (w.heap.size) #[.int .i64 (A.1).op, .int .i64 (A.1).ty.kind, .int .i64 (A.1).ty.ptr, .int .i64 (A.1).ty.len, .string ⟨(A.1).nm.toArray⟩, .int .i64 (A.1).n, .slice a1 n1 p1, .int .i64 (A.1).pos, .int .i64 (B.1).op, .int .i64 (B.1).ty.kind, .int .i64 (B.1).ty.ptr, .int .i64 (B.1).ty.len, .string ⟨(B.1).nm.toArray⟩, .int .i64 (B.1).n, .slice a2 n2 p2, .int .i64 (B.1).pos, .int .i64 0, .int .i64 0, .int .i64 0, .int .i64 0, .string ⟨#[]⟩, .int .i64 0, .slice none 0 0, .int .i64 0] 105 := OwnB.call OwnB.au hK (by simp only [List.mem_singleton]; omega)
        obtain ⟨y_w3_0, x_w3_0, b_w3_0⟩ := O_w3_0.facts
        have HN3 := Lib.hid (NowQ.call (NowQ.to HN2.out [w.heap.size] Keeps.au (by simp <;> omega) (by simp [kq, mq] <;> omega)) hP hK)
        clear hP hK
        go_wp2_with fail
        go_roundg 0
        case measure => omega
        case rel =>
          rw [show D = (ex0, P.need c.l [41] (B.2)) from HE.out]
          exact ⟨.inr (.inr (.inr ⟨rfl, by go_num, ⟨a1, n1, p1, l1, u1, a2, n2, p2, l2, u2, none, 0, 0, _, _, NowQ.addNil HN3.out, (by (try simp only [World.size_alloc, World.size_setCell]); omega), O_w3_0⟩⟩))⟩
      | false =>
        obtain ⟨V, hV, hE⟩ := maybe_not HD.out hi
        have CE := fun W H => Lib.hid ((goodE c hc f).expr (d + 1) (B.2) V W (by omega) (by omega) hV H)
        have CM := fun W H => Lib.hid (need_any c hc V.2 W H [41])
        rw [hi] at CI
        have HE := Lib.hid hE
        clear hi hE hV
        go_wp2_with fail
        refine (CI _ (NowQ.pin (NowQ.to HNr.out [w.heap.size] Keeps.au (by simp <;> omega) (by simp [kq, mq] <;> omega)))).out.mono ?_
        rintro e w2 ⟨rfl, hP, hK⟩
        have hz_w2 := hK.size
        try simp only [World.size_alloc, World.size_setCell, World.size_drew, World.heap_drewN] at hz_w2
        have O_w2_0 : OwnB w2 (w.heap.size) #[.int .i64 (A.1).op, .int .i64 (A.1).ty.kind, .int .i64 (A.1).ty.ptr, .int .i64 (A.1).ty.len, .string ⟨(A.1).nm.toArray⟩, .int .i64 (A.1).n, .slice a1 n1 p1, .int .i64 (A.1).pos, .int .i64 (B.1).op, .int .i64 (B.1).ty.kind, .int .i64 (B.1).ty.ptr, .int .i64 (B.1).ty.len, .string ⟨(B.1).nm.toArray⟩, .int .i64 (B.1).n, .slice a2 n2 p2, .int .i64 (B.1).pos, .int .i64 0, .int .i64 0, .int .i64 0, .int .i64 0, .string ⟨#[]⟩, .int .i64 0, .slice none 0 0, .int .i64 0] 105 := OwnB.call OwnB.au hK (by simp only [List.mem_singleton]; omega)
        obtain ⟨y_w2_0, x_w2_0, b_w2_0⟩ := O_w2_0.facts
        have HN2 := Lib.hid (NowQ.call (NowQ.to HNr.out [w.heap.size] Keeps.au (by simp <;> omega) (by simp [kq, mq] <;> omega)) hP hK)
        clear hP hK
        go_wp2_with fail
        refine (CE _ (NowQ.pin (NowQ.to HN2.out [w.heap.size] Keeps.au (by simp <;> omega) (by simp [kq, mq] <;> omega)))).out.mono ?_
        rintro e w3 ⟨a9, n9, p9, rfl, hP, hK, hT⟩
        have hz_w3 := hK.size
        try simp only [World.size_alloc, World.size_setCell, World.size_drew, World.heap_drewN] at hz_w3
        have O_w3_0 : OwnB w3 (w.heap.size) #[.int .i64 (A.1).op, .int .i64 (A.1).ty.kind, .int .i64 (A.1).ty.ptr, .int .i64 (A.1).ty.len, .string ⟨(A.1).nm.toArray⟩, .int .i64 (A.1).n, .slice a1 n1 p1, .int .i64 (A.1).pos, .int .i64 (B.1).op, .int .i64 (B.1).ty.kind, .int .i64 (B.1).ty.ptr, .int .i64 (B.1).ty.len, .string ⟨(B.1).nm.toArray⟩, .int .i64 (B.1).n, .slice a2 n2 p2, .int .i64 (B.1).pos, .int .i64 0, .int .i64 0, .int .i64 0, .int .i64 0, .string ⟨#[]⟩, .int .i64 0, .slice none 0 0, .int .i64 0] 105 := OwnB.call OwnB.au hK (by simp only [List.mem_singleton]; omega)
        obtain ⟨y_w3_0, x_w3_0, b_w3_0⟩ := O_w3_0.facts
        have HN3 := Lib.hid (NowQ.callE (NowQ.to HN2.out [w.heap.size] Keeps.au (by simp <;> omega) (by simp [kq, mq] <;> omega)) hP hK hT)
        clear hP hK hT
        go_wp2_with fail
        refine (CM _ (NowQ.pin (NowQ.to HN3.out [w.heap.size] Keeps.au (by simp <;> omega) (by simp [kq, mq] <;> omega)))).out.mono ?_
        rintro e w4 ⟨rfl, hP, hK⟩
        have hz_w4 := hK.size
        try simp only [World.size_alloc, World.size_setCell, World.size_drew, World.heap_drewN] at hz_w4
        have O_w4_0 : OwnB w4 (w.heap.size) #[.int .i64 (A.1).op, .int .i64 (A.1).ty.kind, .int .i64 (A.1).ty.ptr, .int .i64 (A.1).ty.len, .string ⟨(A.1).nm.toArray⟩, .int .i64 (A.1).n, .slice a1 n1 p1, .int .i64 (A.1).pos, .int .i64 (B.1).op, .int .i64 (B.1).ty.kind, .int .i64 (B.1).ty.ptr, .int .i64 (B.1).ty.len, .string ⟨(B.1).nm.toArray⟩, .int .i64 (B.1).n, .slice a2 n2 p2, .int .i64 (B.1).pos, .int .i64 (V.1).op, .int .i64 (V.1).ty.kind, .int .i64 (V.1).ty.ptr, .int .i64 (V.1).ty.len, .string ⟨(V.1).nm.toArray⟩, .int .i64 (V.1).n, .slice a9 n9 p9, .int .i64 (V.1).pos] 105 := OwnB.call (by repeat (first | with_reducible apply OwnB.set24_2 | with_reducible assumption | (with_reducible refine OwnB.new ?_; (first | with_reducible rfl | (simp only [World.size_alloc, World.size_setCell, World.size_drew, World.heap_drewN]; done) | (simp only [World.size_alloc, World.size_setCell, World.size_drew, World.heap_drewN]; omega))) | with_reducible refine OwnB.alloc ?_ _ | with_reducible refine OwnB.drew ?_ | with_reducible refine OwnB.drewN ?_ _ | with_reducible refine OwnB.setCell ?_ _ _ ?_ | (dsimp only; omega) | omega)) hK (by simp only [List.mem_singleton]; omega)
        obtain ⟨y_w4_0, x_w4_0, b_w4_0⟩ := O_w4_0.facts
        have HN4 := Lib.hid (NowQ.call (NowQ.to HN3.out [w.heap.size] Keeps.au (by simp <;> omega) (by simp [kq, mq] <;> omega)) hP hK)
        clear hP hK
        go_wp2_with fail
        go_roundg 0
        case measure => omega
        case rel =>
          rw [show D = (V.1, P.need c.l [41] V.2) from HE.out]
          exact ⟨.inr (.inr (.inr ⟨rfl, by go_num, ⟨a1, n1, p1, l1, u1, a2, n2, p2, l2, u2, _, _, _, _, _, HN4.out, (by (try simp only [World.size_alloc, World.size_setCell]); omega), O_w4_0⟩⟩))⟩
    · have HNr := Lib.hid hN
      have hsw : w.heap.size < wr.heap.size := lt_of_blk O.blk
      have hu3 : u3 ≤ wr.heap.size := HNr.out.q0.2.1
      have hu2 : u2 ≤ wr.heap.size := HNr.out.q1.2.1
      have hu1 : u1 ≤ wr.heap.size := HNr.out.q2.2.1
      have HO := Lib.hid O
      clear hN O
      go_wp2_with fail
      go_ret
      exact ⟨_, _, _, rfl, HNr.out.now.pin, HNr.out.now.kp, KidsIn.threeG HNr.out.q2.2.2 HNr.out.q1.2.2 HNr.out.q0.2.2 (by omega) (by omega) (by omega) ⟨by omega, by omega, by omega⟩ ⟨by omega, by omega, by omega, by omega⟩ ⟨by omega, by omega, by omega, by omega, by omega⟩ HO.out⟩
end Go.Proofs.YtjmemapkipkocaaDoor

/-
  'append' of a statement that is written behind it, in a region that draws its order.
-/
namespace Go.Proofs.YtjmemapkipkocaaDoor
open Go.RowKit Go.Maps
set_option linter.unusedVariables false
set_option linter.unusedSimpArgs false

def zSt : List Value := [.int .i64 0, .slice none 0 0, .slice none 0 0, .int .i64 0, .int .i64 0, .int .i64 0, .string ⟨#[]⟩, .int .i64 0, .int .i64 0]
/-- A row with one place more than its statements. -/
structure RowZ (w : World) (lo hi : Nat) (acc : Sts) (g cap : Nat) (ks : List Value) (F0 : List Nat) : Prop where
  own : w.ownsRow 0 82 9 (.slice (some ⟨g, 0, none⟩) (acc.len + 1) cap) (acc.len + 1) (ks ++ zSt)
  len : ks.length = acc.len * 9
  sts : StsIn w acc ks F0
  nodup : F0.Nodup
  notin : g ∉ F0
  range : ∀ b ∈ F0, lo ≤ b ∧ b < hi
theorem step_appendZ {ops : Array Oper} {o : Oper} {a : Act} {K : Act → World → Prop} {Q : Exit → Act → World → Prop} {E : Prop} {c : Cx} {q : Nat} {w W : World} {s : St} {L : List KQ} {p1 : KQ} (hgd : o.guard = none) (sO xO : Operand)
    (ho : o.op = .call { callee := .builtin .append, args := #[sO, xO], argTypes := #[52, 52] })
    {lo hi : Nat} {X : List Nat} {acc : Sts} {av : Option Addr} {n cap gb cb : Nat} (hs : a.eval sO = .slice av n cap) (hx : a.eval xO = .slice (some ⟨gb, 0, none⟩) 1 cb)
    (hn : NowS c q w s (p1 :: mq lo hi X .nil (.slice none 0 0) acc (.slice av n cap) :: L) W)
    (hb : OwnB W gb #[.int .i64 0, .slice none 0 0, .slice none 0 0, .int .i64 0, .int .i64 0, .int .i64 0, .string ⟨#[]⟩, .int .i64 0, .int .i64 0] 82) (hlo : lo ≤ W.heap.size) (hlen : acc.len ≤ 1000000000)
    (hK : ∀ g cap' w' ks F0, RowZ w' lo hi acc g cap' ks F0 → (g = W.heap.size ∨ lo ≤ g ∧ g < hi) → g < w'.heap.size → (∀ b, b < W.heap.size → (b < lo ∨ hi ≤ b) → w'.heap[b]? = W.heap[b]?) → W.heap.size ≤ w'.heap.size → (w'.os = W.os ∧ w'.tape = W.tape ∧ w'.output = W.output) →
      n = acc.len → K (a.put o.dst (.slice (some ⟨g, 0, none⟩) (n + 1) cap')) w') :
    if Region.wanted o (yielded ops a.tmps) = true then Oper.wp Tryd.prog o a W K Q else E := by
  obtain ⟨q1, q2, q3⟩ := hn.q1
  have q1' : w.heap.size ≤ lo := q1
  obtain ⟨h1, Fe0, F, hr0, hr, hnd0, hF1⟩ := q3
  have hnd := (List.nodup_append.1 hnd0).2.1
  have hF : ∀ b ∈ F, lo ≤ b ∧ b < hi ∧ b ∉ X := fun b hm => hF1 b (by simp [hm])
  obtain rfl := hr.len
  obtain ⟨ks, F0, ho1, ho2, rfl⟩ := hr
  obtain ⟨i0, hinf, hz⟩ : ∃ i, Tryd.prog.info? 82 = some i ∧ (i.zero, i.size, i.bytes) = (some (.agg #[.int .i64 0, .slice none 0 0, .slice none 0 0, .int .i64 0, .int .i64 0, .int .i64 0, .string ⟨#[]⟩, .int .i64 0, .int .i64 0]), 9, 112) := by
    have := infoSt
    cases hq : Tryd.prog.info? 82 with
    | none => simp [hq] at this
    | some i => exact ⟨i, rfl, by simpa [hq] using this⟩
  simp only [Prod.mk.injEq] at hz
  obtain ⟨hz0, hz1, hz2⟩ := hz
  have hlob : ∀ b ∈ ownF (Value.slice av acc.len cap), lo ≤ b := fun b hm => (hF b (by simp [hm])).1
  have hown := rebase ho1 hlob
  refine step_append_lies W hgd sO xO 52 ho lo 82 i0 _ 9 112 Tryd.underlying52 hinf hz0 hz1 hz2 rfl (by decide) _ acc.len ks hs hown ⟨gb, 0, none⟩ 1 cb zSt hx rfl
    (World.news_of_block hb.blk) ?_ (by decide) (by unfold maxLen; omega) (by omega) (by omega) _ rfl ?_
  · intro u hu
    simp only [zSt, List.mem_cons, List.not_mem_nil, or_false] at hu
    rcases hu with rfl | rfl | rfl | rfl | rfl | rfl | rfl | rfl | rfl <;> rfl
  · intro g cap' w' hown' hgr hg hgw
    have hkeep : ∀ b, b < W.heap.size → b ∉ ownF (Value.slice av acc.len cap) → w'.heap[b]? = W.heap[b]? := by
      intro b hbs hm
      refine hgr.block b hbs ?_
      intro e
      exact hm (by rw [ownF, ← e]; simp)
    have hnd2 := List.nodup_append.1 hnd
    have hF0 : ∀ b ∈ F0, b < W.heap.size ∧ b ∉ ownF (Value.slice av acc.len cap) := fun b hm => ⟨by have := (hF b (by simp [hm])).2.1; omega, fun h5 => hnd2.2.2 b h5 b hm rfl⟩
    refine hK g cap' w' ks F0 ⟨rebase hown' (fun b _ => Nat.zero_le _), hown.1, StsIn.at_ _ _ _ ho2 fun b hm => hkeep b (hF0 b hm).1 (hF0 b hm).2, hnd2.2.1, ?_, fun b hm => ⟨(hF b (by simp [hm])).1, (hF b (by simp [hm])).2.1⟩⟩ ?_ hgw ?_ hgr.size ⟨hgr.os, hgr.tape, hgr.output⟩ rfl
    · intro hm
      rcases hg with hg | rfl
      · exact (hF0 g hm).2 (by rw [ownF, hg]; simp)
      · have := (hF0 _ hm).1; omega
    · rcases hg with hg | rfl
      · have hgo : g ∈ ownF (Value.slice av acc.len cap) := by rw [ownF, hg]; simp
        exact .inr ⟨hlob g hgo, (hF g (by simp [hgo])).2.1⟩
      · exact .inl rfl
    · intro b hbs hbb
      refine hkeep b hbs fun hm => ?_
      have := hF b (by simp [hm])
      omega
/-- The place is written: a statement more. -/
theorem RowZ.done {w w' : World} {lo hi lo2 hi2 l u : Nat} {X2 : List Nat} {acc : Sts} {g cap : Nat} {ks : List Value} {F0 : List Nat} {D : Sm} {ev bv : Value} (h : RowZ w lo hi acc g cap ks F0)
    (hD : MIn w lo2 hi2 X2 D.ex ev D.body bv) (h12 : hi ≤ lo2) (hg : hi2 ≤ g ∨ lo ≤ g ∧ g < hi) (hsz : w.heap.size ≤ w'.heap.size) (hk : ∀ b, b < w.heap.size → b ≠ g → (l ≤ b) → w'.heap[b]? = w.heap[b]?)
    (hrow : w'.ownsRow 0 82 9 (.slice (some ⟨g, 0, none⟩) (acc.len + 1) cap) (acc.len + 1) (ks ++ stC D ev bv)) (hl : l ≤ lo ∧ l ≤ lo2 ∧ l ≤ g) (hu : hi ≤ u ∧ hi2 ≤ u ∧ g < u ∧ u ≤ w'.heap.size) (hhi : hi ≤ w.heap.size) :
    MIn w' l u [] .nil (.slice none 0 0) (acc.snoc D) (.slice (some ⟨g, 0, none⟩) (acc.len + 1) cap) := by
  obtain ⟨h1, Fe, Fb, he, hb, hnd, hF⟩ := hD
  have keepD : ∀ b ∈ Fe ++ Fb, w'.heap[b]? = w.heap[b]? := fun b hm => by
    have := hF b hm
    exact hk b (by omega) (by omega) (by omega)
  have keep0 : ∀ b ∈ F0, w'.heap[b]? = w.heap[b]? := fun b hm => by
    have := h.range b hm
    exact hk b (by omega) (fun e => h.notin (e ▸ hm)) (by omega)
  have hs := StsIn.snoc (he.at_ fun b hm => keepD b (by simp [hm])) (hb.at_ fun b hm => keepD b (by simp [hm])) acc ks F0 (StsIn.at_ _ _ _ h.sts keep0)
  refine ⟨hu.2.2.2, [], g :: (F0 ++ (Fe ++ Fb)), RowX.nil, ⟨ks ++ stC D ev bv, F0 ++ (Fe ++ Fb), by rw [Sts.snoc_len]; exact hrow, hs, rfl⟩, ?_, ?_⟩
  · simp only [List.nil_append]
    refine List.nodup_cons.2 ⟨fun hm => ?_, List.nodup_append.2 ⟨h.nodup, hnd, fun x hx y hy => ?_⟩⟩
    · rcases List.mem_append.1 hm with hm | hm
      · exact h.notin hm
      · have := hF g hm; omega
    · have := h.range x hx; have := hF y hy; omega
  · intro x hm
    simp only [List.nil_append] at hm
    refine ⟨?_, ?_, by simp⟩
    all_goals
      rcases List.mem_cons.1 hm with rfl | hm
      · omega
      · rcases List.mem_append.1 hm with hm | hm
        · have := h.range x hm; omega
        · have := hF x hm; omega
theorem set9 (ks : List Value) (h : ks.length = 9) (v0 v1 v2 v3 v4 v5 v6 v7 v8 : Value) : ((((((((((ks ++ zSt).set 9 v0).set 10 v1).set 11 v2).set 12 v3).set 13 v4).set 14 v5).set 15 v6).set 16 v7).set 17 v8) = ks ++ [v0, v1, v2, v3, v4, v5, v6, v7, v8] := by
  simp [List.set_append, h, zSt]
theorem RowZ.stored {w : World} {lo hi : Nat} {acc : Sts} {g cap : Nat} {ks : List Value} {F0 : List Nat} (h : RowZ w lo hi acc g cap ks F0) (h1 : acc.len = 1) (v0 v1 v2 v3 v4 v5 v6 v7 v8 : Value) :
    (((((((((w.setCell ⟨g, 9, none⟩ v0).setCell ⟨g, 10, none⟩ v1).setCell ⟨g, 11, none⟩ v2).setCell ⟨g, 12, none⟩ v3).setCell ⟨g, 13, none⟩ v4).setCell ⟨g, 14, none⟩ v5).setCell ⟨g, 15, none⟩ v6).setCell ⟨g, 16, none⟩ v7).setCell ⟨g, 17, none⟩ v8).ownsRow 0 82 9 (.slice (some ⟨g, 0, none⟩) (acc.len + 1) cap) (acc.len + 1) (ks ++ [v0, v1, v2, v3, v4, v5, v6, v7, v8]) := by
  have h2 := (World.ownsRow.stored (World.ownsRow.stored (World.ownsRow.stored (World.ownsRow.stored (World.ownsRow.stored (World.ownsRow.stored (World.ownsRow.stored (World.ownsRow.stored (World.ownsRow.stored h.own 9 v0).1 10 v1).1 11 v2).1 12 v3).1 13 v4).1 14 v5).1 15 v6).1 16 v7).1 17 v8).1
  rw [set9 ks (by rw [h.len, h1])] at h2
  exact h2
theorem RowZ.cells {w : World} {lo hi : Nat} {acc : Sts} {g cap : Nat} {ks : List Value} {F0 : List Nat} (h : RowZ w lo hi acc g cap ks F0) (h1 : acc.len = 1) (i : Nat) (hi9 : i < 9) : w.cell? ⟨g, 9 + i, none⟩ = zSt[i]? := by
  rw [World.ownsRow.cellAt h.own (9 + i) (by rw [h1]; omega), List.getElem?_append_right (by rw [h.len, h1]; omega), h.len, h1]
  congr 1
  omega
set_option maxHeartbeats 1000000 in
theorem NowS.finElse {c : Cx} {q : Nat} {w W x5 : World} {s s0 : St} {L : List KQ} {m : Sm} {ex : Exs} {acc : Sts} {D : Sm} {lo hi lo1 hi1 lo3 hi3 g cap' : Nat} {X X1 X3 : List Nat} {av a1 a2 ae ab : Option Addr} {n cap n1 p1 p2 ne pe nb pb : Nat} {p : Int} {ks : List Value} {F0 : List Nat}
    (hn : NowS c q w s (mq lo3 hi3 X3 D.ex (.slice ae ne pe) D.body (.slice ab nb pb) :: mq lo hi X .nil (.slice none 0 0) acc (.slice av n cap) :: kq lo1 hi1 X1 ex (.slice a1 n1 p1) :: L) W)
    (hZ : RowZ x5 lo hi acc g cap' ks F0) (hg : g = W.heap.size ∨ lo ≤ g ∧ g < hi) (hk5 : ∀ b, b < W.heap.size → (b < lo ∨ hi ≤ b) → x5.heap[b]? = W.heap[b]?) (hz5 : W.heap.size ≤ x5.heap.size) (hot : x5.os = W.os ∧ x5.tape = W.tape ∧ x5.output = W.output)
    (hgw : g < x5.heap.size) (hlen1 : acc.len = 1) (O5 : OwnB x5 q #[.int .i64 4, .slice a1 n1 p1, .slice a2 1 p2, .int .i64 0, .int .i64 0, .int .i64 0, .string ⟨#[]⟩, .int .i64 0, .int .i64 p] 82) (h13 : hi1 ≤ lo ∧ hi ≤ lo3 ∧ hi1 ≤ lo3 ∧ lo ≤ lo3 ∧ lo ≤ W.heap.size) :
    DoesP c q m s0 (some ((Sm.mk 4 ex (acc.snoc D) sm0.ty sm0.nm sm0.n p), s)) w (.returned (.bool true)) ((((((((((x5.setCell ⟨g, 9, none⟩ (.int .i64 D.op)).setCell ⟨g, 10, none⟩ (.slice ae ne pe)).setCell ⟨g, 11, none⟩ (.slice ab nb pb)).setCell ⟨g, 12, none⟩ (.int .i64 D.ty.kind)).setCell ⟨g, 13, none⟩ (.int .i64 D.ty.ptr)).setCell ⟨g, 14, none⟩ (.int .i64 D.ty.len)).setCell ⟨g, 15, none⟩ (.string ⟨D.nm.toArray⟩)).setCell ⟨g, 16, none⟩ (.int .i64 D.n)).setCell ⟨g, 17, none⟩ (.int .i64 D.pos)).setCell ⟨q, 2, none⟩ (.slice (some ⟨g, 0, none⟩) 2 cap')) := by
  obtain ⟨e1, e2, e3⟩ := hn.q0
  obtain ⟨f1, f2, f3⟩ := hn.q1
  obtain ⟨k1, k2, k3⟩ := hn.all (kq lo1 hi1 X1 ex (.slice a1 n1 p1)) (by simp)
  simp only [mq, kq] at e1 e2 e3 f1 f2 f3 k1 k2 k3
  have hqlt := hn.qlt
  have hsW := hn.kp.size
  have hgl : w.heap.size ≤ g := by omega
  have hqg : q ≠ g := by omega
  have kV : Keeps [g, q] x5 ((((((((((x5.setCell ⟨g, 9, none⟩ (.int .i64 D.op)).setCell ⟨g, 10, none⟩ (.slice ae ne pe)).setCell ⟨g, 11, none⟩ (.slice ab nb pb)).setCell ⟨g, 12, none⟩ (.int .i64 D.ty.kind)).setCell ⟨g, 13, none⟩ (.int .i64 D.ty.ptr)).setCell ⟨g, 14, none⟩ (.int .i64 D.ty.len)).setCell ⟨g, 15, none⟩ (.string ⟨D.nm.toArray⟩)).setCell ⟨g, 16, none⟩ (.int .i64 D.n)).setCell ⟨g, 17, none⟩ (.int .i64 D.pos)).setCell ⟨q, 2, none⟩ (.slice (some ⟨g, 0, none⟩) 2 cap')) := by
    repeat (first | with_reducible exact Keeps.refl _ _ | with_reducible refine Keeps.setCell ?_ _ ?_ _ | exact Or.inr (List.Mem.head _) | exact Or.inr (List.Mem.tail _ (List.Mem.head _)))
  obtain ⟨q1, q2, q3, q4⟩ := hn.qne
  obtain ⟨cur, hb, hs, ht⟩ := hn.pin.tok
  have lg := hn.g
  have lt := hn.gt
  have lm := hn.mb
  have lz := hn.sz
  obtain ⟨V, hVe⟩ : ∃ V, V = ((((((((((x5.setCell ⟨g, 9, none⟩ (.int .i64 D.op)).setCell ⟨g, 10, none⟩ (.slice ae ne pe)).setCell ⟨g, 11, none⟩ (.slice ab nb pb)).setCell ⟨g, 12, none⟩ (.int .i64 D.ty.kind)).setCell ⟨g, 13, none⟩ (.int .i64 D.ty.ptr)).setCell ⟨g, 14, none⟩ (.int .i64 D.ty.len)).setCell ⟨g, 15, none⟩ (.string ⟨D.nm.toArray⟩)).setCell ⟨g, 16, none⟩ (.int .i64 D.n)).setCell ⟨g, 17, none⟩ (.int .i64 D.pos)).setCell ⟨q, 2, none⟩ (.slice (some ⟨g, 0, none⟩) 2 cap')) := ⟨_, rfl⟩
  have hrow : V.ownsRow 0 82 9 (.slice (some ⟨g, 0, none⟩) (acc.len + 1) cap') (acc.len + 1) (ks ++ stC D (.slice ae ne pe) (.slice ab nb pb)) := by
    rw [hVe]
    exact ownsRow_at (hZ.stored hlen1 _ _ _ _ _ _ _ _ _) (fun b hm => by
      obtain rfl : b = g := by simpa [ownF, Value.ownBlock] using hm
      exact Below.heap_setCell _ _ _ _ (Ne.symm hqg))
  have hq5 : OwnB V q #[.int .i64 4, .slice a1 n1 p1, .slice (some ⟨g, 0, none⟩) 2 cap', .int .i64 0, .int .i64 0, .int .i64 0, .string ⟨#[]⟩, .int .i64 0, .int .i64 p] 82 := by
    rw [hVe]
    refine OwnB.s9_2 (u2 := .slice a2 1 p2) ?_
    iterate 9 refine OwnB.setCell ?_ _ _ (Ne.symm hqg)
    exact O5
  rw [← hVe] at kV ⊢
  have hVs := kV.size
  have hV : ∀ b, b < x5.heap.size → b ≠ g → b ≠ q → V.heap[b]? = x5.heap[b]? := fun b h0 h1 h2 => kV.block b h0 (by simp [h1, h2])
  have hVW : ∀ b, b < W.heap.size → (b < lo ∨ hi ≤ b) → b ≠ q → b ≠ g → V.heap[b]? = W.heap[b]? := fun b h1 h2 h3 h4 => (hV b (by omega) h4 h3).trans (hk5 b h1 h2)
  have hkp : Keeps [c.g, q] w V := by
    refine ⟨kV.os.trans (hot.1.trans hn.kp.os), kV.tape.trans (hot.2.1.trans hn.kp.tape), kV.output.trans (hot.2.2.trans hn.kp.output), by omega, fun b hb1 hb2 => ?_⟩
    simp only [List.mem_cons, List.not_mem_nil, or_false, not_or] at hb2
    exact (hVW b (by omega) (.inl (by omega)) hb2.2 (by omega)).trans (hn.kp.block b hb1 (by simp [hb2]))
  refine ⟨a1, n1, p1, _, 2, cap', rfl, ⟨(hVW _ (by omega) (.inl (by omega)) (Ne.symm q1) (by omega)).trans hn.pin.blk, ⟨cur, (hVW _ (by omega) (.inl (by omega)) (Ne.symm q2) (by omega)).trans hb, hs, ht⟩, hn.pin.lt,
    (hVW _ (by omega) (.inl (by omega)) (Ne.symm q3) (by omega)).trans hn.pin.map, (hVW _ (by omega) (.inl (by omega)) (Ne.symm q4) (by omega)).trans hn.pin.siz⟩, hkp, hq5, ?_⟩
  have hD5 : MIn x5 lo3 hi3 X3 D.ex (.slice ae ne pe) D.body (.slice ab nb pb) := e3.of_heap hz5 (fun b h1 h2 _ => hk5 b (by omega) (.inr (by omega)))
  have hbd := RowZ.done (w' := V) (l := lo) (u := V.heap.size) hZ hD5 h13.2.1 (by omega) (by omega) (fun b h1 h2 h3 => hV b h1 h2 (by omega)) hrow ⟨by omega, by omega, by omega⟩ ⟨by omega, by omega, by omega, Nat.le_refl _⟩ (by omega)
  rw [hlen1] at hbd
  have hex : KidsIn V lo1 hi1 X1 ex (.slice a1 n1 p1) := k3.of_heap (by omega) (fun b h1 h2 _ => hVW b (by omega) (.inl (by omega)) (by omega) (by omega))
  exact MIn.both (bv2 := .nilFunc) hex hbd (.inl h13.1) ⟨k1, by omega⟩ ⟨by omega, Nat.le_refl _, Nat.le_refl _⟩
end Go.Proofs.YtjmemapkipkocaaDoor

/-
  Statements: 'if' with an else.
-/
namespace Go.Proofs.YtjmemapkipkocaaDoor
open Go.RowKit Go.Maps
set_option linter.unusedVariables false
set_option linter.unusedSimpArgs false
set_option maxRecDepth 100000
set_option maxHeartbeats 4000000

theorem holding_else_ (c : Cx) (hc : c.Ok) (f : Nat) (GA : ∀ k, k ≤ f → GoodS c k) (d p : Int) (s : St)  (w : World) (q : Nat) (h0 : 0 ≤ d) (hd : d + (f + 1) ≤ 1000000000) (hq : OwnB w q #[.int .i64 0, .slice none 0 0, .slice none 0 0, .int .i64 0, .int .i64 0, .int .i64 0, .string ⟨#[]⟩, .int .i64 0, .int .i64 p] 82)
    (hn : q ≠ c.g ∧ q ≠ c.gt ∧ q ≠ c.mb ∧ q ≠ 2) (h : PIn w c s) (k0 : P.is c.l [105, 102] s = true) (s1 : St) (hs1 : s1 = P.next c.l s) (A : Exs × St) (hA : P.asked c.l (P.recs c.l f) d s1 = some A) (B : Sts × St) (hB : P.body (P.recs c.l f) d A.2 = some B) (ke : P.is c.l [101, 108, 115, 101] B.2 = true) (D : Sm × St) (hD : (P.recs c.l f).stmt (d + 1) (P.next c.l B.2) = some D) : Calls Tryd.prog 77 #[pv c, .pointer (some ⟨q, 0, none⟩), .int .i64 d] w (DoesP c q { sm0 with pos := p } s (some (({ sm0 with op := 4, ex := A.1, body := B.1.snoc D.1, pos := p } : Sm), D.2)) w) := by
  have hqlt := lt_of_blk hq.blk
  have hq1 : q ≠ c.g := hn.1
  have HN := Lib.hid (NowQ.start h)
  have HS := Lib.hid (NowS.start h hqlt hn)
  have hg := HS.out.g
  have hgt := HS.out.gt
  obtain ⟨yq, xq, zq⟩ := hq.facts
  have hw : wrap64 (d + 1) = d + 1 := wrapJ (by omega) (by omega)
  have hw' : IntKind.i64.wrap (d + 1) = d + 1 := wrapI (by omega) (by omega)
  have CA0 := fun W H => Lib.hid (accept_any c hc s W H [105, 102])
  rw [k0, show P.acc c.l [105, 102] s = s1 by simp [P.acc, k0, hs1]] at CA0
  have CE := fun W H => Lib.hid (asked_step c hc f d s1 A W h0 hd hA H)
  have CB := fun W H => Lib.hid (body_step c hc f (GA f (Nat.le_refl _)) d A.2 B W h0 hd hB H)
  have CZ := fun W H => Lib.hid (accept_any c hc B.2 W H [101, 108, 115, 101])
  rw [ke, show P.acc c.l [101, 108, 115, 101] B.2 = P.next c.l B.2 by simp [P.acc, ke]] at CZ
  have CD := fun W H => Lib.hid ((GA f (Nat.le_refl _)).stmt (d + 1) (P.next c.l B.2) D W (by omega) (by omega) hD H)
  have HBB := Lib.hid hB
  clear h hA hB hs1 GA k0 ke hD
  unfold pv
  go_enter Tryd.func77, Tryd.ntmps77
  go_wp2_with fail
  refine (CA0 _ (NowS.pin (NowS.to HS.out [q] Keeps.au (by simp <;> omega) (by simp [kq, mq] <;> omega)))).out.mono ?_
  rintro e v0 ⟨rfl, hP, hK⟩
  have hz_v0 := hK.size
  try simp only [World.size_alloc, World.size_setCell, World.size_drew, World.heap_drewN] at hz_v0
  have O_v0_0 : OwnB v0 (q) #[.int .i64 0, .slice none 0 0, .slice none 0 0, .int .i64 0, .int .i64 0, .int .i64 0, .string ⟨#[]⟩, .int .i64 0, .int .i64 p] 82 := OwnB.call OwnB.au hK (by simp only [List.mem_singleton]; omega)
  obtain ⟨y_v0_0, x_v0_0, b_v0_0⟩ := O_v0_0.facts
  have HS0 := Lib.hid (NowS.call (NowS.to HS.out [q] Keeps.au (by simp <;> omega) (by simp [kq, mq] <;> omega)) hP hK)
  clear hP hK
  go_wp2_with fail
  refine (CE _ (NowS.pin (NowS.to HS0.out [q] Keeps.au (by simp <;> omega) (by simp [kq, mq] <;> omega)))).out.mono ?_
  rintro e x1 ⟨a1, n1, p1, rfl, hP, hK, hT⟩
  have hz_x1 := hK.size
  try simp only [World.size_alloc, World.size_setCell, World.size_drew, World.heap_drewN] at hz_x1
  have O_x1_0 : OwnB x1 (q) #[.int .i64 0, .slice none 0 0, .slice none 0 0, .int .i64 0, .int .i64 0, .int .i64 0, .string ⟨#[]⟩, .int .i64 0, .int .i64 p] 82 := OwnB.call OwnB.au hK (by simp only [List.mem_singleton]; omega)
  obtain ⟨y_x1_0, x_x1_0, b_x1_0⟩ := O_x1_0.facts
  have HSa := Lib.hid (NowS.callE (NowS.to HS0.out [q] Keeps.au (by simp <;> omega) (by simp [kq, mq] <;> omega)) hP hK hT)
  clear hP hK hT
  go_wp2_with fail
  refine (CB _ (NowS.pin (NowS.to HSa.out [q] Keeps.au (by simp <;> omega) (by simp [kq, mq] <;> omega)))).out.mono ?_
  rintro e x2 ⟨a2, n2, p2, rfl, hP, hK, hT⟩
  have hz_x2 := hK.size
  try simp only [World.size_alloc, World.size_setCell, World.size_drew, World.heap_drewN] at hz_x2
  have O_x2_0 : OwnB x2 (q) #[.int .i64 4, .slice a1 n1 p1, .slice none 0 0, .int .i64 0, .int .i64 0, .int .i64 0, .string ⟨#[]⟩, .int .i64 0, .int .i64 p] 82 := OwnB.call (by repeat (first | with_reducible apply OwnB.s9_0 | with_reducible apply OwnB.s9_1 | with_reducible apply OwnB.s9_2 | with_reducible apply OwnB.s9_3 | with_reducible apply OwnB.s9_4 | with_reducible apply OwnB.s9_5 | with_reducible apply OwnB.s9_6 | with_reducible apply OwnB.s9_7 | with_reducible apply OwnB.s9_8 | with_reducible assumption | (with_reducible refine OwnB.new ?_; (first | with_reducible rfl | (simp only [World.size_alloc, World.size_setCell, World.size_drew, World.heap_drewN]; done) | (simp only [World.size_alloc, World.size_setCell, World.size_drew, World.heap_drewN]; omega))) | with_reducible refine OwnB.alloc ?_ _ | with_reducible refine OwnB.drew ?_ | with_reducible refine OwnB.drewN ?_ _ | with_reducible refine OwnB.setCell ?_ _ _ ?_ | (dsimp only; omega) | omega)) hK (by simp only [List.mem_singleton]; omega)
  obtain ⟨y_x2_0, x_x2_0, b_x2_0⟩ := O_x2_0.facts
  have HSb := Lib.hid (NowS.callS (NowS.to HSa.out [q] Keeps.au (by simp <;> omega) (by simp [kq, mq] <;> omega)) hP hK hT)
  clear hP hK hT
  go_wp2_with fail
  refine (CZ _ (NowS.pin (NowS.to HSb.out [q] Keeps.au (by simp <;> omega) (by simp [kq, mq] <;> omega)))).out.mono ?_
  rintro e x3 ⟨rfl, hP, hK⟩
  have hz_x3 := hK.size
  try simp only [World.size_alloc, World.size_setCell, World.size_drew, World.heap_drewN] at hz_x3
  have O_x3_0 : OwnB x3 (q) #[.int .i64 4, .slice a1 n1 p1, .slice a2 n2 p2, .int .i64 0, .int .i64 0, .int .i64 0, .string ⟨#[]⟩, .int .i64 0, .int .i64 p] 82 := OwnB.call (by repeat (first | with_reducible apply OwnB.s9_0 | with_reducible apply OwnB.s9_1 | with_reducible apply OwnB.s9_2 | with_reducible apply OwnB.s9_3 | with_reducible apply OwnB.s9_4 | with_reducible apply OwnB.s9_5 | with_reducible apply OwnB.s9_6 | with_reducible apply OwnB.s9_7 | with_reducible apply OwnB.s9_8 | with_reducible assumption | (with_reducible refine OwnB.new ?_; (first | with_reducible rfl | (simp only [World.size_alloc, World.size_setCell, World.size_drew, World.heap_drewN]; done) | (simp only [World.size_alloc, World.size_setCell, World.size_drew, World.heap_drewN]; omega))) | with_reducible refine OwnB.alloc ?_ _ | with_reducible refine OwnB.drew ?_ | with_reducible refine OwnB.drewN ?_ _ | with_reducible refine OwnB.setCell ?_ _ _ ?_ | (dsimp only; omega) | omega)) hK (by simp only [List.mem_singleton]; omega)
  obtain ⟨y_x3_0, x_x3_0, b_x3_0⟩ := O_x3_0.facts
  have HSc := Lib.hid (NowS.call (NowS.to HSb.out [q] Keeps.au (by simp <;> omega) (by simp [kq, mq] <;> omega)) hP hK)
  clear hP hK
  go_wp2_with fail
  have hq2 := HSc.out.q1
  have hlen1 : B.1.len = 1 := by
    unfold P.body at HBB
    obtain ⟨b0, _, hb0⟩ := Option.bind_eq_some_iff.1 HBB.out
    rw [← Option.some.inj hb0]
    rfl
  have hn2 : n2 = 1 := by
    obtain ⟨_, _, _, Fe, F, _, hr, _⟩ := HSc.out.q0
    rw [hr.len, hlen1]
  subst hn2
  have hu2 : x2.heap.size ≤ x3.heap.size := hz_x3
  clear hq2
  refine wpTo_start (fun w' => OwnB w' (q) #[.int .i64 4, .slice a1 n1 p1, .slice a2 1 p2, .int .i64 0, .int .i64 0, .int .i64 0, .string ⟨#[]⟩, .int .i64 0, .int .i64 p] 82) 15 (by kernel_rfl) OwnB.au (fun hHeld => ?_)
  refine wpTo_take 0 (v := ?_) (by kernel_rfl) (by kernel_rfl) rfl (by kernel_rfl) (by kernel_rfl) rfl (fun _ _ _ h => h) (Or.inl ⟨by rfl, ?_⟩) hHeld ?_
  rotate_left
  · (intro w' hSw; obtain ⟨ya0, yb0, yc0⟩ := hSw.facts; go_simp; try with_reducible rfl)
  try simp only [Act.put, List.setIfInBounds_toArray, List.set_cons_zero, List.set_cons_succ]
  refine wpTo_take 1 (v := ?_) (by kernel_rfl) (by kernel_rfl) rfl (by kernel_rfl) (by kernel_rfl) rfl (fun _ _ _ h => h) (Or.inl ⟨by rfl, ?_⟩) hHeld ?_
  rotate_left
  · (intro w' hSw; obtain ⟨ya0, yb0, yc0⟩ := hSw.facts; go_simp; try with_reducible rfl)
  try simp only [Act.put, List.setIfInBounds_toArray, List.set_cons_zero, List.set_cons_succ]
  refine wpTo_take 2 (v := ?_) (by kernel_rfl) (by kernel_rfl) rfl (by kernel_rfl) (by kernel_rfl) rfl (fun _ _ _ h => h) (Or.inl ⟨by rfl, ?_⟩) hHeld ?_
  rotate_left
  · (intro w' hSw; obtain ⟨ya0, yb0, yc0⟩ := hSw.facts; go_simp; try with_reducible rfl)
  try simp only [Act.put, List.setIfInBounds_toArray, List.set_cons_zero, List.set_cons_succ]
  refine wpTo_take 3 (v := ?_) (by kernel_rfl) (by kernel_rfl) rfl (by kernel_rfl) (by kernel_rfl) rfl (fun _ _ _ h => h) (Or.inl ⟨by rfl, ?_⟩) hHeld ?_
  rotate_left
  · (intro w' hSw; obtain ⟨ya0, yb0, yc0⟩ := hSw.facts; go_simp; try with_reducible rfl)
  try simp only [Act.put, List.setIfInBounds_toArray, List.set_cons_zero, List.set_cons_succ]
  refine wpTo_take 4 (v := ?_) (by kernel_rfl) (by kernel_rfl) rfl (by kernel_rfl) (by kernel_rfl) rfl (fun _ _ _ h => h) (Or.inl ⟨by rfl, ?_⟩) hHeld ?_
  rotate_left
  · (intro w' hSw; obtain ⟨ya0, yb0, yc0⟩ := hSw.facts; go_simp; try with_reducible rfl)
  try simp only [Act.put, List.setIfInBounds_toArray, List.set_cons_zero, List.set_cons_succ]
  refine wpTo_take 5 (v := ?_) (by kernel_rfl) (by kernel_rfl) rfl (by kernel_rfl) (by kernel_rfl) rfl (fun _ _ _ h => h) (Or.inl ⟨by rfl, ?_⟩) hHeld ?_
  rotate_left
  · (intro w' hSw; obtain ⟨ya0, yb0, yc0⟩ := hSw.facts; go_simp; try with_reducible rfl)
  try simp only [Act.put, List.setIfInBounds_toArray, List.set_cons_zero, List.set_cons_succ]
  refine wpTo_take 6 (v := ?_) (by kernel_rfl) (by kernel_rfl) rfl (by kernel_rfl) (by kernel_rfl) rfl (fun _ _ _ h => h) (Or.inl ⟨by rfl, ?_⟩) hHeld ?_
  rotate_left
  · (intro w' hSw; obtain ⟨ya0, yb0, yc0⟩ := hSw.facts; go_simp; try with_reducible rfl)
  try simp only [Act.put, List.setIfInBounds_toArray, List.set_cons_zero, List.set_cons_succ]
  refine wpTo_take 8 (v := ?_) (by kernel_rfl) (by kernel_rfl) rfl (by kernel_rfl) (by kernel_rfl) rfl (fun _ _ _ h => h) (Or.inl ⟨by rfl, ?_⟩) hHeld ?_
  rotate_left
  · (intro w' hSw; obtain ⟨ya0, yb0, yc0⟩ := hSw.facts; go_simp; try with_reducible rfl)
  try simp only [Act.put, List.setIfInBounds_toArray, List.set_cons_zero, List.set_cons_succ]
  refine wpTo_two 7 9 (by kernel_rfl) rfl rfl (fun K hKo => ?_) (fun K hKo => ?_)
  · go_simp
    go_at_call 68
    refine (CD _ (NowS.pin (NowS.to HSc.out [q] Keeps.au (by simp <;> omega) (by simp [kq, mq] <;> omega)))).out.mono ?_
    rintro e x4 ⟨a3, n3, p3, b3, m3, r3, rfl, hP, hKk, hT⟩
    have hz_x4 := hKk.size
    try simp only [World.size_alloc, World.size_setCell, World.size_drew, World.heap_drewN] at hz_x4
    have O_x4_0 : OwnB x4 q #[.int .i64 4, .slice a1 n1 p1, .slice a2 1 p2, .int .i64 0, .int .i64 0, .int .i64 0, .string ⟨#[]⟩, .int .i64 0, .int .i64 p] 82 := OwnB.call OwnB.au hKk (by simp only [List.mem_singleton]; omega)
    obtain ⟨y_x4_0, x_x4_0, b_x4_0⟩ := O_x4_0.facts
    have HSd := Lib.hid (NowS.callS (NowS.to HSc.out [q] Keeps.au (by simp <;> omega) (by simp [kq, mq] <;> omega)) hP hKk hT)
    clear hP hKk hT
    go_wp2_with fail
    refine Shut.out hKo _ _ (fun _ _ => OwnB.au) ?_
    clear hKo K
    try simp only [Act.put, List.setIfInBounds_toArray, List.set_cons_zero, List.set_cons_succ]
    refine wpTo_one 9 (by kernel_rfl) rfl (fun K hKo => ?_)
    go_simp
    refine Shut.out hKo _ _ (fun _ _ => OwnB.au) ?_
    clear hKo K
    try simp only [Act.put, List.setIfInBounds_toArray, List.set_cons_zero, List.set_cons_succ]
    refine wpTo_one 10 (by kernel_rfl) rfl (fun K hKo => ?_)
    refine step_appendZ rfl _ _ rfl rfl rfl (NowS.to HSd.out [] Keeps.au (fun b hb => absurd hb List.not_mem_nil) (fun q _ b hb => absurd hb List.not_mem_nil)) OwnB.au (by (try simp only [World.size_alloc, World.size_setCell, World.size_drew, World.heap_drewN]); omega) (by omega) ?_
    intro g cap' x5 ks F0 hZ hg hgw hk5 hz5 hot hbad
    clear hbad
    have c5_0 : x5.cell? ⟨g, 9, none⟩ = some (.int .i64 0) := hZ.cells hlen1 0 (by decide)
    have c5_1 : x5.cell? ⟨g, 10, none⟩ = some (.slice none 0 0) := hZ.cells hlen1 1 (by decide)
    have c5_2 : x5.cell? ⟨g, 11, none⟩ = some (.slice none 0 0) := hZ.cells hlen1 2 (by decide)
    have c5_3 : x5.cell? ⟨g, 12, none⟩ = some (.int .i64 0) := hZ.cells hlen1 3 (by decide)
    have c5_4 : x5.cell? ⟨g, 13, none⟩ = some (.int .i64 0) := hZ.cells hlen1 4 (by decide)
    have c5_5 : x5.cell? ⟨g, 14, none⟩ = some (.int .i64 0) := hZ.cells hlen1 5 (by decide)
    have c5_6 : x5.cell? ⟨g, 15, none⟩ = some (.string ⟨#[]⟩) := hZ.cells hlen1 6 (by decide)
    have c5_7 : x5.cell? ⟨g, 16, none⟩ = some (.int .i64 0) := hZ.cells hlen1 7 (by decide)
    have c5_8 : x5.cell? ⟨g, 17, none⟩ = some (.int .i64 0) := hZ.cells hlen1 8 (by decide)
    have fz5 := fun j => World.ownsRow.frozenAt hZ.own j
    have hl5 := HSd.out.q1.1
    simp only [mq, World.size_alloc, World.size_setCell] at hl5
    try simp only [World.size_alloc, World.size_setCell, World.size_drew, World.heap_drewN] at hz5 hg
    have O5 : OwnB x5 q #[.int .i64 4, .slice a1 n1 p1, .slice a2 1 p2, .int .i64 0, .int .i64 0, .int .i64 0, .string ⟨#[]⟩, .int .i64 0, .int .i64 p] 82 := OwnB.kept OwnB.au (hk5 q (by (try simp only [World.size_alloc, World.size_setCell, World.size_drew, World.heap_drewN]); omega) (.inl (by (try simp only [World.size_alloc, World.size_setCell, World.size_drew, World.heap_drewN]); omega)))
    obtain ⟨y5, z5, b5⟩ := O5.facts
    have ng1 : ¬ g = q := by omega
    have ng2 : ¬ q = g := by omega
    have H5 := Lib.hid (And.intro hZ (And.intro hg (And.intro hk5 (And.intro hz5 hot))))
    clear hZ hg hk5 hot
    refine Shut.out hKo _ _ (fun _ _ => OwnB.au) ?_
    clear hKo K
    try simp only [Act.put, List.setIfInBounds_toArray, List.set_cons_zero, List.set_cons_succ]
    refine wpTo_takeE 11 (v := ?_) (by kernel_rfl) rfl (by kernel_rfl) (by kernel_rfl) rfl (fun _ _ _ h => h) (Or.inl ⟨by rfl, ?_⟩) (fun _ => OwnB.au) ?_
    rotate_left
    · (intro w' hSw; go_simp; try with_reducible rfl)
    try simp only [Act.put, List.setIfInBounds_toArray, List.set_cons_zero, List.set_cons_succ]
    refine wpTo_takeE 13 (v := ?_) (by kernel_rfl) rfl (by kernel_rfl) (by kernel_rfl) rfl (fun _ _ _ h => h) (Or.inl ⟨by rfl, ?_⟩) (fun _ => OwnB.au) ?_
    rotate_left
    · (intro w' hSw; go_simp; try with_reducible rfl)
    try simp only [Act.put, List.setIfInBounds_toArray, List.set_cons_zero, List.set_cons_succ]
    refine wpTo_takeE 14 (v := ?_) (by kernel_rfl) rfl (by kernel_rfl) (by kernel_rfl) rfl (fun _ _ _ h => h) (Or.inl ⟨by rfl, ?_⟩) (fun _ => OwnB.au) ?_
    rotate_left
    · (intro w' hSw; go_simp; try with_reducible rfl)
    try simp only [Act.put, List.setIfInBounds_toArray, List.set_cons_zero, List.set_cons_succ]
    refine wpTo_two 12 15 (by kernel_rfl) rfl rfl (fun K hKo => ?_) (fun K hKo => ?_)
    · go_simp
      refine Shut.out hKo _ _ (fun _ _ => OwnB.au) ?_
      clear hKo K
      try simp only [Act.put, List.setIfInBounds_toArray, List.set_cons_zero, List.set_cons_succ]
      refine wpTo_one 15 (by kernel_rfl) rfl (fun K hKo => ?_)
      go_simp
      refine Shut.out hKo _ _ (fun h _ => absurd rfl h) ?_
      clear hKo K
      try simp only [Act.put, List.setIfInBounds_toArray, List.set_cons_zero, List.set_cons_succ]
      refine wpTo_done (by kernel_rfl) ?_ _
      go_wp2_with fail
      go_ret
      exact NowS.finElse (NowS.to HSd.out [] Keeps.au (fun b hb => absurd hb List.not_mem_nil) (fun q _ b hb => absurd hb List.not_mem_nil)) H5.out.1 (by have h5 := H5.out.2.1; (try simp only [World.size_alloc, World.size_setCell, World.size_drew, World.heap_drewN]); omega) H5.out.2.2.1 (by have h5 := H5.out.2.2.2.1; (try simp only [World.size_alloc, World.size_setCell, World.size_drew, World.heap_drewN]); omega) H5.out.2.2.2.2 hgw hlen1 O5 (by refine ⟨?_, ?_, ?_, ?_, ?_⟩ <;> (try simp only [World.size_alloc, World.size_setCell, World.size_drew, World.heap_drewN]) <;> omega)
    · go_simp
      refine Shut.out hKo _ _ (fun h _ => absurd rfl h) ?_
      clear hKo K
      try simp only [Act.put, List.setIfInBounds_toArray, List.set_cons_zero, List.set_cons_succ]
      refine wpTo_one 12 (by kernel_rfl) rfl (fun K hKo => ?_)
      go_simp
      refine Shut.out hKo _ _ (fun _ h => absurd h (by decide)) ?_
      clear hKo K
      try simp only [Act.put, List.setIfInBounds_toArray, List.set_cons_zero, List.set_cons_succ]
      refine wpTo_done (by kernel_rfl) ?_ _
      go_wp2_with fail
      go_ret
      rw [setCell_comm _ ⟨q, 2, none⟩ ⟨g, 9, none⟩ _ _ ng2]
      rw [setCell_comm _ ⟨q, 2, none⟩ ⟨g, 10, none⟩ _ _ ng2]
      rw [setCell_comm _ ⟨q, 2, none⟩ ⟨g, 11, none⟩ _ _ ng2]
      rw [setCell_comm _ ⟨q, 2, none⟩ ⟨g, 12, none⟩ _ _ ng2]
      rw [setCell_comm _ ⟨q, 2, none⟩ ⟨g, 13, none⟩ _ _ ng2]
      rw [setCell_comm _ ⟨q, 2, none⟩ ⟨g, 14, none⟩ _ _ ng2]
      rw [setCell_comm _ ⟨q, 2, none⟩ ⟨g, 15, none⟩ _ _ ng2]
      rw [setCell_comm _ ⟨q, 2, none⟩ ⟨g, 16, none⟩ _ _ ng2]
      rw [setCell_comm _ ⟨q, 2, none⟩ ⟨g, 17, none⟩ _ _ ng2]
      exact NowS.finElse (NowS.to HSd.out [] Keeps.au (fun b hb => absurd hb List.not_mem_nil) (fun q _ b hb => absurd hb List.not_mem_nil)) H5.out.1 (by have h5 := H5.out.2.1; (try simp only [World.size_alloc, World.size_setCell, World.size_drew, World.heap_drewN]); omega) H5.out.2.2.1 (by have h5 := H5.out.2.2.2.1; (try simp only [World.size_alloc, World.size_setCell, World.size_drew, World.heap_drewN]); omega) H5.out.2.2.2.2 hgw hlen1 O5 (by refine ⟨?_, ?_, ?_, ?_, ?_⟩ <;> (try simp only [World.size_alloc, World.size_setCell, World.size_drew, World.heap_drewN]) <;> omega)
  · go_simp
    refine Shut.out hKo _ _ (fun _ _ => OwnB.au) ?_
    clear hKo K
    try simp only [Act.put, List.setIfInBounds_toArray, List.set_cons_zero, List.set_cons_succ]
    refine wpTo_one 7 (by kernel_rfl) rfl (fun K hKo => ?_)
    go_simp
    go_at_call 68
    refine (CD _ (NowS.pin (NowS.to HSc.out [q] Keeps.au (by simp <;> omega) (by simp [kq, mq] <;> omega)))).out.mono ?_
    rintro e x4 ⟨a3, n3, p3, b3, m3, r3, rfl, hP, hKk, hT⟩
    have hz_x4 := hKk.size
    try simp only [World.size_alloc, World.size_setCell, World.size_drew, World.heap_drewN] at hz_x4
    have O_x4_0 : OwnB x4 q #[.int .i64 4, .slice a1 n1 p1, .slice a2 1 p2, .int .i64 0, .int .i64 0, .int .i64 0, .string ⟨#[]⟩, .int .i64 0, .int .i64 p] 82 := OwnB.call OwnB.au hKk (by simp only [List.mem_singleton]; omega)
    obtain ⟨y_x4_0, x_x4_0, b_x4_0⟩ := O_x4_0.facts
    have O_x4_z : OwnB x4 x3.heap.size #[.int .i64 0, .slice none 0 0, .slice none 0 0, .int .i64 0, .int .i64 0, .int .i64 0, .string ⟨#[]⟩, .int .i64 0, .int .i64 0] 82 := OwnB.call OwnB.au hKk (by simp only [List.mem_singleton]; omega)
    have HSd := Lib.hid (NowS.callS (NowS.to HSc.out [q] Keeps.au (by simp <;> omega) (by simp [kq, mq] <;> omega)) hP hKk hT)
    clear hP hKk hT
    go_wp2_with fail
    refine Shut.out hKo _ _ (fun _ _ => OwnB.au) ?_
    clear hKo K
    try simp only [Act.put, List.setIfInBounds_toArray, List.set_cons_zero, List.set_cons_succ]
    refine wpTo_one 10 (by kernel_rfl) rfl (fun K hKo => ?_)
    refine step_appendZ rfl _ _ rfl rfl rfl (NowS.to HSd.out [] Keeps.au (fun b hb => absurd hb List.not_mem_nil) (fun q _ b hb => absurd hb List.not_mem_nil)) OwnB.au (by (try simp only [World.size_alloc, World.size_setCell, World.size_drew, World.heap_drewN]); omega) (by omega) ?_
    intro g cap' x5 ks F0 hZ hg hgw hk5 hz5 hot hbad
    clear hbad
    have c5_0 : x5.cell? ⟨g, 9, none⟩ = some (.int .i64 0) := hZ.cells hlen1 0 (by decide)
    have c5_1 : x5.cell? ⟨g, 10, none⟩ = some (.slice none 0 0) := hZ.cells hlen1 1 (by decide)
    have c5_2 : x5.cell? ⟨g, 11, none⟩ = some (.slice none 0 0) := hZ.cells hlen1 2 (by decide)
    have c5_3 : x5.cell? ⟨g, 12, none⟩ = some (.int .i64 0) := hZ.cells hlen1 3 (by decide)
    have c5_4 : x5.cell? ⟨g, 13, none⟩ = some (.int .i64 0) := hZ.cells hlen1 4 (by decide)
    have c5_5 : x5.cell? ⟨g, 14, none⟩ = some (.int .i64 0) := hZ.cells hlen1 5 (by decide)
    have c5_6 : x5.cell? ⟨g, 15, none⟩ = some (.string ⟨#[]⟩) := hZ.cells hlen1 6 (by decide)
    have c5_7 : x5.cell? ⟨g, 16, none⟩ = some (.int .i64 0) := hZ.cells hlen1 7 (by decide)
    have c5_8 : x5.cell? ⟨g, 17, none⟩ = some (.int .i64 0) := hZ.cells hlen1 8 (by decide)
    have fz5 := fun j => World.ownsRow.frozenAt hZ.own j
    have hl5 := HSd.out.q1.1
    simp only [mq, World.size_alloc, World.size_setCell] at hl5
    try simp only [World.size_alloc, World.size_setCell, World.size_drew, World.heap_drewN] at hz5 hg
    have O5 : OwnB x5 q #[.int .i64 4, .slice a1 n1 p1, .slice a2 1 p2, .int .i64 0, .int .i64 0, .int .i64 0, .string ⟨#[]⟩, .int .i64 0, .int .i64 p] 82 := OwnB.kept OwnB.au (hk5 q (by (try simp only [World.size_alloc, World.size_setCell, World.size_drew, World.heap_drewN]); omega) (.inl (by (try simp only [World.size_alloc, World.size_setCell, World.size_drew, World.heap_drewN]); omega)))
    obtain ⟨y5, z5, b5⟩ := O5.facts
    have ng1 : ¬ g = q := by omega
    have ng2 : ¬ q = g := by omega
    have H5 := Lib.hid (And.intro hZ (And.intro hg (And.intro hk5 (And.intro hz5 hot))))
    clear hZ hg hk5 hot
    refine Shut.out hKo _ _ (fun _ _ => OwnB.au) ?_
    clear hKo K
    try simp only [Act.put, List.setIfInBounds_toArray, List.set_cons_zero, List.set_cons_succ]
    refine wpTo_takeE 11 (v := ?_) (by kernel_rfl) rfl (by kernel_rfl) (by kernel_rfl) rfl (fun _ _ _ h => h) (Or.inl ⟨by rfl, ?_⟩) (fun _ => OwnB.au) ?_
    rotate_left
    · (intro w' hSw; go_simp; try with_reducible rfl)
    try simp only [Act.put, List.setIfInBounds_toArray, List.set_cons_zero, List.set_cons_succ]
    refine wpTo_takeE 13 (v := ?_) (by kernel_rfl) rfl (by kernel_rfl) (by kernel_rfl) rfl (fun _ _ _ h => h) (Or.inl ⟨by rfl, ?_⟩) (fun _ => OwnB.au) ?_
    rotate_left
    · (intro w' hSw; go_simp; try with_reducible rfl)
    try simp only [Act.put, List.setIfInBounds_toArray, List.set_cons_zero, List.set_cons_succ]
    refine wpTo_takeE 14 (v := ?_) (by kernel_rfl) rfl (by kernel_rfl) (by kernel_rfl) rfl (fun _ _ _ h => h) (Or.inl ⟨by rfl, ?_⟩) (fun _ => OwnB.au) ?_
    rotate_left
    · (intro w' hSw; go_simp; try with_reducible rfl)
    try simp only [Act.put, List.setIfInBounds_toArray, List.set_cons_zero, List.set_cons_succ]
    refine wpTo_two 12 15 (by kernel_rfl) rfl rfl (fun K hKo => ?_) (fun K hKo => ?_)
    · go_simp
      refine Shut.out hKo _ _ (fun _ _ => OwnB.au) ?_
      clear hKo K
      try simp only [Act.put, List.setIfInBounds_toArray, List.set_cons_zero, List.set_cons_succ]
      refine wpTo_one 15 (by kernel_rfl) rfl (fun K hKo => ?_)
      go_simp
      refine Shut.out hKo _ _ (fun h _ => absurd rfl h) ?_
      clear hKo K
      try simp only [Act.put, List.setIfInBounds_toArray, List.set_cons_zero, List.set_cons_succ]
      refine wpTo_done (by kernel_rfl) ?_ _
      go_wp2_with fail
      go_ret
      exact NowS.finElse (NowS.to HSd.out [] Keeps.au (fun b hb => absurd hb List.not_mem_nil) (fun q _ b hb => absurd hb List.not_mem_nil)) H5.out.1 (by have h5 := H5.out.2.1; (try simp only [World.size_alloc, World.size_setCell, World.size_drew, World.heap_drewN]); omega) H5.out.2.2.1 (by have h5 := H5.out.2.2.2.1; (try simp only [World.size_alloc, World.size_setCell, World.size_drew, World.heap_drewN]); omega) H5.out.2.2.2.2 hgw hlen1 O5 (by refine ⟨?_, ?_, ?_, ?_, ?_⟩ <;> (try simp only [World.size_alloc, World.size_setCell, World.size_drew, World.heap_drewN]) <;> omega)
    · go_simp
      refine Shut.out hKo _ _ (fun h _ => absurd rfl h) ?_
      clear hKo K
      try simp only [Act.put, List.setIfInBounds_toArray, List.set_cons_zero, List.set_cons_succ]
      refine wpTo_one 12 (by kernel_rfl) rfl (fun K hKo => ?_)
      go_simp
      refine Shut.out hKo _ _ (fun _ h => absurd h (by decide)) ?_
      clear hKo K
      try simp only [Act.put, List.setIfInBounds_toArray, List.set_cons_zero, List.set_cons_succ]
      refine wpTo_done (by kernel_rfl) ?_ _
      go_wp2_with fail
      go_ret
      rw [setCell_comm _ ⟨q, 2, none⟩ ⟨g, 9, none⟩ _ _ ng2]
      rw [setCell_comm _ ⟨q, 2, none⟩ ⟨g, 10, none⟩ _ _ ng2]
      rw [setCell_comm _ ⟨q, 2, none⟩ ⟨g, 11, none⟩ _ _ ng2]
      rw [setCell_comm _ ⟨q, 2, none⟩ ⟨g, 12, none⟩ _ _ ng2]
      rw [setCell_comm _ ⟨q, 2, none⟩ ⟨g, 13, none⟩ _ _ ng2]
      rw [setCell_comm _ ⟨q, 2, none⟩ ⟨g, 14, none⟩ _ _ ng2]
      rw [setCell_comm _ ⟨q, 2, none⟩ ⟨g, 15, none⟩ _ _ ng2]
      rw [setCell_comm _ ⟨q, 2, none⟩ ⟨g, 16, none⟩ _ _ ng2]
      rw [setCell_comm _ ⟨q, 2, none⟩ ⟨g, 17, none⟩ _ _ ng2]
      exact NowS.finElse (NowS.to HSd.out [] Keeps.au (fun b hb => absurd hb List.not_mem_nil) (fun q _ b hb => absurd hb List.not_mem_nil)) H5.out.1 (by have h5 := H5.out.2.1; (try simp only [World.size_alloc, World.size_setCell, World.size_drew, World.heap_drewN]); omega) H5.out.2.2.1 (by have h5 := H5.out.2.2.2.1; (try simp only [World.size_alloc, World.size_setCell, World.size_drew, World.heap_drewN]); omega) H5.out.2.2.2.2 hgw hlen1 O5 (by refine ⟨?_, ?_, ?_, ?_, ?_⟩ <;> (try simp only [World.size_alloc, World.size_setCell, World.size_drew, World.heap_drewN]) <;> omega)
end Go.Proofs.YtjmemapkipkocaaDoor

/-
  Statements: 'holding'.
-/
namespace Go.Proofs.YtjmemapkipkocaaDoor
open Go.RowKit Go.Maps
set_option linter.unusedVariables false
set_option linter.unusedSimpArgs false
set_option maxRecDepth 100000
set_option maxHeartbeats 4000000

theorem NowS.finBoth {c : Cx} {q : Nat} {w W : World} {L : List KQ} {m : Sm} {s : St} {R : Sm × St} {a a' : Option Addr} {n cp n' cp' lo hi lo2 hi2 : Nat} {X X2 : List Nat} {ev2 : Value}
    (h : NowS c q w R.2 (mq lo2 hi2 X2 .nil ev2 R.1.body (.slice a' n' cp') :: kq lo hi X R.1.ex (.slice a n cp) :: L) W) (hb : OwnB W q #[.int .i64 R.1.op, .slice a n cp, .slice a' n' cp', .int .i64 R.1.ty.kind, .int .i64 R.1.ty.ptr, .int .i64 R.1.ty.len, .string ⟨R.1.nm.toArray⟩, .int .i64 R.1.n, .int .i64 R.1.pos] 82) (hd : hi ≤ lo2) : DoesP c q m s (some R) w (.returned (.bool true)) W :=
  ⟨a, n, cp, a', n', cp', rfl, h.pin, h.kp, hb, MIn.both (bv2 := .nilFunc) h.q1.2.2 h.q0.2.2 (.inl hd) ⟨h.q1.1, h.q0.1⟩ ⟨h.q1.2.1, h.q0.2.1, Nat.le_refl _⟩⟩
theorem NowS.finBoth' {c : Cx} {q : Nat} {w W : World} {L : List KQ} {m : Sm} {s : St} {R : Sm × St} {a a' : Option Addr} {n cp n' cp' lo hi lo2 hi2 : Nat} {X X2 : List Nat} {ev2 : Value}
    (h : NowS c q w R.2 (kq lo hi X R.1.ex (.slice a n cp) :: mq lo2 hi2 X2 .nil ev2 R.1.body (.slice a' n' cp') :: L) W) (hb : OwnB W q #[.int .i64 R.1.op, .slice a n cp, .slice a' n' cp', .int .i64 R.1.ty.kind, .int .i64 R.1.ty.ptr, .int .i64 R.1.ty.len, .string ⟨R.1.nm.toArray⟩, .int .i64 R.1.n, .int .i64 R.1.pos] 82) (hd : hi2 ≤ lo) : DoesP c q m s (some R) w (.returned (.bool true)) W :=
  ⟨a, n, cp, a', n', cp', rfl, h.pin, h.kp, hb, MIn.both (bv2 := .nilFunc) h.q0.2.2 h.q1.2.2 (.inr hd) ⟨h.q0.1, h.q1.1⟩ ⟨h.q0.2.1, h.q1.2.1, Nat.le_refl _⟩⟩

theorem holding_while_ (c : Cx) (hc : c.Ok) (f : Nat) (GA : ∀ k, k ≤ f → GoodS c k) (d p : Int) (s : St) (R : Option (Sm × St)) (w : World) (q : Nat) (h0 : 0 ≤ d) (hd : d + (f + 1) ≤ 1000000000) (hq : OwnB w q #[.int .i64 0, .slice none 0 0, .slice none 0 0, .int .i64 0, .int .i64 0, .int .i64 0, .string ⟨#[]⟩, .int .i64 0, .int .i64 p] 82)
    (hn : q ≠ c.g ∧ q ≠ c.gt ∧ q ≠ c.mb ∧ q ≠ 2) (hR : P.holding c.l (P.recs c.l f) d s { sm0 with pos := p } = some R) (h : PIn w c s) (k0 : P.is c.l [105, 102] s = false) (k1 : P.is c.l [119, 104, 105, 108, 101] s = true) : Calls Tryd.prog 77 #[pv c, .pointer (some ⟨q, 0, none⟩), .int .i64 d] w (DoesP c q { sm0 with pos := p } s R w) := by
  have hqlt := lt_of_blk hq.blk
  have hq1 : q ≠ c.g := hn.1
  have HN := Lib.hid (NowQ.start h)
  have HS := Lib.hid (NowS.start h hqlt hn)
  have hg := HS.out.g
  have hgt := HS.out.gt
  obtain ⟨yq, xq, zq⟩ := hq.facts
  have hw : wrap64 (d + 1) = d + 1 := wrapJ (by omega) (by omega)
  have hw' : IntKind.i64.wrap (d + 1) = d + 1 := wrapI (by omega) (by omega)
  unfold P.holding at hR
  have CA0 := fun W H => Lib.hid (accept_any c hc s W H [105, 102])
  rw [k0, show P.acc c.l [105, 102] s = s by simp [P.acc, k0]] at CA0
  rw [k0, if_neg (by simp)] at hR
  obtain ⟨s1, hs1⟩ : ∃ s1, s1 = P.next c.l s := ⟨_, rfl⟩
  have CA1 := fun W H => Lib.hid (accept_any c hc s W H [119, 104, 105, 108, 101])
  rw [k1, show P.acc c.l [119, 104, 105, 108, 101] s = s1 by simp [P.acc, k1, hs1]] at CA1
  rw [k1, if_pos rfl, ← hs1] at hR
  obtain ⟨V, hV, hR⟩ : ∃ V, P.whileS c.l (P.recs c.l f) 5 d s1 { sm0 with pos := p } = some V ∧ some V = R := by
    cases hx : P.whileS c.l (P.recs c.l f) 5 d s1 { sm0 with pos := p } with
    | none => rw [hx] at hR; cases hR
    | some V => rw [hx] at hR; exact ⟨V, rfl, Option.some.inj hR⟩
  obtain rfl := hR
  unfold P.whileS at hV
  obtain ⟨A, hA, hV⟩ := Option.bind_eq_some_iff.1 hV
  obtain ⟨B, hB, hV⟩ := Option.bind_eq_some_iff.1 hV
  obtain rfl := Option.some.inj hV
  have CE := fun W H => Lib.hid (asked_step c hc f d s1 A W h0 hd hA H)
  have CB := fun W H => Lib.hid (body_step c hc f (GA f (Nat.le_refl _)) d A.2 B W h0 hd hB H)
  clear h hV hA hB hs1 GA k0 k1
  unfold pv
  go_enter Tryd.func77, Tryd.ntmps77
  go_wp2_with fail
  refine (CA0 _ (NowS.pin (NowS.to HS.out [q] Keeps.au (by simp <;> omega) (by simp [kq, mq] <;> omega)))).out.mono ?_
  rintro e v0 ⟨rfl, hP, hK⟩
  have hz_v0 := hK.size
  try simp only [World.size_alloc, World.size_setCell, World.size_drew, World.heap_drewN] at hz_v0
  have O_v0_0 : OwnB v0 (q) #[.int .i64 0, .slice none 0 0, .slice none 0 0, .int .i64 0, .int .i64 0, .int .i64 0, .string ⟨#[]⟩, .int .i64 0, .int .i64 p] 82 := OwnB.call OwnB.au hK (by simp only [List.mem_singleton]; omega)
  obtain ⟨y_v0_0, x_v0_0, b_v0_0⟩ := O_v0_0.facts
  have HS0 := Lib.hid (NowS.call (NowS.to HS.out [q] Keeps.au (by simp <;> omega) (by simp [kq, mq] <;> omega)) hP hK)
  clear hP hK
  go_wp2_with fail
  refine (CA1 _ (NowS.pin (NowS.to HS0.out [q] Keeps.au (by simp <;> omega) (by simp [kq, mq] <;> omega)))).out.mono ?_
  rintro e v1 ⟨rfl, hP, hK⟩
  have hz_v1 := hK.size
  try simp only [World.size_alloc, World.size_setCell, World.size_drew, World.heap_drewN] at hz_v1
  have O_v1_0 : OwnB v1 (q) #[.int .i64 0, .slice none 0 0, .slice none 0 0, .int .i64 0, .int .i64 0, .int .i64 0, .string ⟨#[]⟩, .int .i64 0, .int .i64 p] 82 := OwnB.call OwnB.au hK (by simp only [List.mem_singleton]; omega)
  obtain ⟨y_v1_0, x_v1_0, b_v1_0⟩ := O_v1_0.facts
  have HS1 := Lib.hid (NowS.call (NowS.to HS0.out [q] Keeps.au (by simp <;> omega) (by simp [kq, mq] <;> omega)) hP hK)
  clear hP hK
  go_wp2_with fail
  refine (CE _ (NowS.pin (NowS.to HS1.out [q] Keeps.au (by simp <;> omega) (by simp [kq, mq] <;> omega)))).out.mono ?_
  rintro e x1 ⟨a1, n1, p1, rfl, hP, hK, hT⟩
  have hz_x1 := hK.size
  try simp only [World.size_alloc, World.size_setCell, World.size_drew, World.heap_drewN] at hz_x1
  have O_x1_0 : OwnB x1 (q) #[.int .i64 0, .slice none 0 0, .slice none 0 0, .int .i64 0, .int .i64 0, .int .i64 0, .string ⟨#[]⟩, .int .i64 0, .int .i64 p] 82 := OwnB.call OwnB.au hK (by simp only [List.mem_singleton]; omega)
  obtain ⟨y_x1_0, x_x1_0, b_x1_0⟩ := O_x1_0.facts
  have HSa := Lib.hid (NowS.callE (NowS.to HS1.out [q] Keeps.au (by simp <;> omega) (by simp [kq, mq] <;> omega)) hP hK hT)
  clear hP hK hT
  go_wp2_with fail
  refine (CB _ (NowS.pin (NowS.to HSa.out [q] Keeps.au (by simp <;> omega) (by simp [kq, mq] <;> omega)))).out.mono ?_
  rintro e x2 ⟨a2, n2, p2, rfl, hP, hK, hT⟩
  have hz_x2 := hK.size
  try simp only [World.size_alloc, World.size_setCell, World.size_drew, World.heap_drewN] at hz_x2
  have O_x2_0 : OwnB x2 (q) #[.int .i64 5, .slice a1 n1 p1, .slice none 0 0, .int .i64 0, .int .i64 0, .int .i64 0, .string ⟨#[]⟩, .int .i64 0, .int .i64 p] 82 := OwnB.call (by repeat (first | with_reducible apply OwnB.s9_0 | with_reducible apply OwnB.s9_1 | with_reducible apply OwnB.s9_2 | with_reducible apply OwnB.s9_3 | with_reducible apply OwnB.s9_4 | with_reducible apply OwnB.s9_5 | with_reducible apply OwnB.s9_6 | with_reducible apply OwnB.s9_7 | with_reducible apply OwnB.s9_8 | with_reducible assumption | (with_reducible refine OwnB.new ?_; (first | with_reducible rfl | (simp only [World.size_alloc, World.size_setCell, World.size_drew, World.heap_drewN]; done) | (simp only [World.size_alloc, World.size_setCell, World.size_drew, World.heap_drewN]; omega))) | with_reducible refine OwnB.alloc ?_ _ | with_reducible refine OwnB.drew ?_ | with_reducible refine OwnB.drewN ?_ _ | with_reducible refine OwnB.setCell ?_ _ _ ?_ | (dsimp only; omega) | omega)) hK (by simp only [List.mem_singleton]; omega)
  obtain ⟨y_x2_0, x_x2_0, b_x2_0⟩ := O_x2_0.facts
  have HSb := Lib.hid (NowS.callS (NowS.to HSa.out [q] Keeps.au (by simp <;> omega) (by simp [kq, mq] <;> omega)) hP hK hT)
  clear hP hK hT
  go_wp2_with fail
  go_ret
  exact NowS.finBoth (R := (({ sm0 with op := 5, ex := A.1, body := B.1, pos := p } : Sm), B.2)) (NowS.to HSb.out [q] Keeps.au (by simp <;> omega) (by simp [kq, mq] <;> omega)) (show OwnB _ (q) #[.int .i64 5, .slice a1 n1 p1, .slice a2 n2 p2, .int .i64 0, .int .i64 0, .int .i64 0, .string ⟨#[]⟩, .int .i64 0, .int .i64 p] 82 from (by repeat (first | with_reducible apply OwnB.s9_0 | with_reducible apply OwnB.s9_1 | with_reducible apply OwnB.s9_2 | with_reducible apply OwnB.s9_3 | with_reducible apply OwnB.s9_4 | with_reducible apply OwnB.s9_5 | with_reducible apply OwnB.s9_6 | with_reducible apply OwnB.s9_7 | with_reducible apply OwnB.s9_8 | with_reducible assumption | (with_reducible refine OwnB.new ?_; (first | with_reducible rfl | (simp only [World.size_alloc, World.size_setCell, World.size_drew, World.heap_drewN]; done) | (simp only [World.size_alloc, World.size_setCell, World.size_drew, World.heap_drewN]; omega))) | with_reducible refine OwnB.alloc ?_ _ | with_reducible refine OwnB.drew ?_ | with_reducible refine OwnB.drewN ?_ _ | with_reducible refine OwnB.setCell ?_ _ _ ?_ | (dsimp only; omega) | omega))) (by (try simp only [World.size_alloc, World.size_setCell, World.size_drew, World.heap_drewN]); omega)

theorem holding_switch_ (c : Cx) (hc : c.Ok) (f : Nat) (GA : ∀ k, k ≤ f → GoodS c k) (d p : Int) (s : St) (R : Option (Sm × St)) (w : World) (q : Nat) (h0 : 0 ≤ d) (hd : d + (f + 1) ≤ 1000000000) (hq : OwnB w q #[.int .i64 0, .slice none 0 0, .slice none 0 0, .int .i64 0, .int .i64 0, .int .i64 0, .string ⟨#[]⟩, .int .i64 0, .int .i64 p] 82)
    (hn : q ≠ c.g ∧ q ≠ c.gt ∧ q ≠ c.mb ∧ q ≠ 2) (hR : P.holding c.l (P.recs c.l f) d s { sm0 with pos := p } = some R) (h : PIn w c s) (k0 : P.is c.l [105, 102] s = false) (k1 : P.is c.l [119, 104, 105, 108, 101] s = false) (k2 : P.is c.l [115, 119, 105, 116, 99, 104] s = true) : Calls Tryd.prog 77 #[pv c, .pointer (some ⟨q, 0, none⟩), .int .i64 d] w (DoesP c q { sm0 with pos := p } s R w) := by
  have hqlt := lt_of_blk hq.blk
  have hq1 : q ≠ c.g := hn.1
  have HN := Lib.hid (NowQ.start h)
  have HS := Lib.hid (NowS.start h hqlt hn)
  have hg := HS.out.g
  have hgt := HS.out.gt
  obtain ⟨yq, xq, zq⟩ := hq.facts
  have hw : wrap64 (d + 1) = d + 1 := wrapJ (by omega) (by omega)
  have hw' : IntKind.i64.wrap (d + 1) = d + 1 := wrapI (by omega) (by omega)
  unfold P.holding at hR
  have CA0 := fun W H => Lib.hid (accept_any c hc s W H [105, 102])
  rw [k0, show P.acc c.l [105, 102] s = s by simp [P.acc, k0]] at CA0
  rw [k0, if_neg (by simp)] at hR
  have CA1 := fun W H => Lib.hid (accept_any c hc s W H [119, 104, 105, 108, 101])
  rw [k1, show P.acc c.l [119, 104, 105, 108, 101] s = s by simp [P.acc, k1]] at CA1
  rw [k1, if_neg (by simp)] at hR
  obtain ⟨s1, hs1⟩ : ∃ s1, s1 = P.next c.l s := ⟨_, rfl⟩
  have CA2 := fun W H => Lib.hid (accept_any c hc s W H [115, 119, 105, 116, 99, 104])
  rw [k2, show P.acc c.l [115, 119, 105, 116, 99, 104] s = s1 by simp [P.acc, k2, hs1]] at CA2
  rw [k2, if_pos rfl, ← hs1] at hR
  obtain ⟨V, hV, hR⟩ : ∃ V, P.whileS c.l (P.recs c.l f) 8 d s1 { sm0 with pos := p } = some V ∧ some V = R := by
    cases hx : P.whileS c.l (P.recs c.l f) 8 d s1 { sm0 with pos := p } with
    | none => rw [hx] at hR; cases hR
    | some V => rw [hx] at hR; exact ⟨V, rfl, Option.some.inj hR⟩
  obtain rfl := hR
  unfold P.whileS at hV
  obtain ⟨A, hA, hV⟩ := Option.bind_eq_some_iff.1 hV
  obtain ⟨B, hB, hV⟩ := Option.bind_eq_some_iff.1 hV
  obtain rfl := Option.some.inj hV
  have CE := fun W H => Lib.hid (asked_step c hc f d s1 A W h0 hd hA H)
  have CB := fun W H => Lib.hid (body_step c hc f (GA f (Nat.le_refl _)) d A.2 B W h0 hd hB H)
  clear h hV hA hB hs1 GA k0 k1 k2
  unfold pv
  go_enter Tryd.func77, Tryd.ntmps77
  go_wp2_with fail
  refine (CA0 _ (NowS.pin (NowS.to HS.out [q] Keeps.au (by simp <;> omega) (by simp [kq, mq] <;> omega)))).out.mono ?_
  rintro e v0 ⟨rfl, hP, hK⟩
  have hz_v0 := hK.size
  try simp only [World.size_alloc, World.size_setCell, World.size_drew, World.heap_drewN] at hz_v0
  have O_v0_0 : OwnB v0 (q) #[.int .i64 0, .slice none 0 0, .slice none 0 0, .int .i64 0, .int .i64 0, .int .i64 0, .string ⟨#[]⟩, .int .i64 0, .int .i64 p] 82 := OwnB.call OwnB.au hK (by simp only [List.mem_singleton]; omega)
  obtain ⟨y_v0_0, x_v0_0, b_v0_0⟩ := O_v0_0.facts
  have HS0 := Lib.hid (NowS.call (NowS.to HS.out [q] Keeps.au (by simp <;> omega) (by simp [kq, mq] <;> omega)) hP hK)
  clear hP hK
  go_wp2_with fail
  refine (CA1 _ (NowS.pin (NowS.to HS0.out [q] Keeps.au (by simp <;> omega) (by simp [kq, mq] <;> omega)))).out.mono ?_
  rintro e v1 ⟨rfl, hP, hK⟩
  have hz_v1 := hK.size
  try simp only [World.size_alloc, World.size_setCell, World.size_drew, World.heap_drewN] at hz_v1
  have O_v1_0 : OwnB v1 (q) #[.int .i64 0, .slice none 0 0, .slice none 0 0, .int .i64 0, .int .i64 0, .int .i64 0, .string ⟨#[]⟩, .int .i64 0, .int .i64 p] 82 := OwnB.call OwnB.au hK (by simp only [List.mem_singleton]; omega)
  obtain ⟨y_v1_0, x_v1_0, b_v1_0⟩ := O_v1_0.facts
  have HS1 := Lib.hid (NowS.call (NowS.to HS0.out [q] Keeps.au (by simp <;> omega) (by simp [kq, mq] <;> omega)) hP hK)
  clear hP hK
  go_wp2_with fail
  refine (CA2 _ (NowS.pin (NowS.to HS1.out [q] Keeps.au (by simp <;> omega) (by simp [kq, mq] <;> omega)))).out.mono ?_
  rintro e v2 ⟨rfl, hP, hK⟩
  have hz_v2 := hK.size
  try simp only [World.size_alloc, World.size_setCell, World.size_drew, World.heap_drewN] at hz_v2
  have O_v2_0 : OwnB v2 (q) #[.int .i64 0, .slice none 0 0, .slice none 0 0, .int .i64 0, .int .i64 0, .int .i64 0, .string ⟨#[]⟩, .int .i64 0, .int .i64 p] 82 := OwnB.call OwnB.au hK (by simp only [List.mem_singleton]; omega)
  obtain ⟨y_v2_0, x_v2_0, b_v2_0⟩ := O_v2_0.facts
  have HS2 := Lib.hid (NowS.call (NowS.to HS1.out [q] Keeps.au (by simp <;> omega) (by simp [kq, mq] <;> omega)) hP hK)
  clear hP hK
  go_wp2_with fail
  refine (CE _ (NowS.pin (NowS.to HS2.out [q] Keeps.au (by simp <;> omega) (by simp [kq, mq] <;> omega)))).out.mono ?_
  rintro e x1 ⟨a1, n1, p1, rfl, hP, hK, hT⟩
  have hz_x1 := hK.size
  try simp only [World.size_alloc, World.size_setCell, World.size_drew, World.heap_drewN] at hz_x1
  have O_x1_0 : OwnB x1 (q) #[.int .i64 0, .slice none 0 0, .slice none 0 0, .int .i64 0, .int .i64 0, .int .i64 0, .string ⟨#[]⟩, .int .i64 0, .int .i64 p] 82 := OwnB.call OwnB.au hK (by simp only [List.mem_singleton]; omega)
  obtain ⟨y_x1_0, x_x1_0, b_x1_0⟩ := O_x1_0.facts
  have HSa := Lib.hid (NowS.callE (NowS.to HS2.out [q] Keeps.au (by simp <;> omega) (by simp [kq, mq] <;> omega)) hP hK hT)
  clear hP hK hT
  go_wp2_with fail
  refine (CB _ (NowS.pin (NowS.to HSa.out [q] Keeps.au (by simp <;> omega) (by simp [kq, mq] <;> omega)))).out.mono ?_
  rintro e x2 ⟨a2, n2, p2, rfl, hP, hK, hT⟩
  have hz_x2 := hK.size
  try simp only [World.size_alloc, World.size_setCell, World.size_drew, World.heap_drewN] at hz_x2
  have O_x2_0 : OwnB x2 (q) #[.int .i64 8, .slice a1 n1 p1, .slice none 0 0, .int .i64 0, .int .i64 0, .int .i64 0, .string ⟨#[]⟩, .int .i64 0, .int .i64 p] 82 := OwnB.call (by repeat (first | with_reducible apply OwnB.s9_0 | with_reducible apply OwnB.s9_1 | with_reducible apply OwnB.s9_2 | with_reducible apply OwnB.s9_3 | with_reducible apply OwnB.s9_4 | with_reducible apply OwnB.s9_5 | with_reducible apply OwnB.s9_6 | with_reducible apply OwnB.s9_7 | with_reducible apply OwnB.s9_8 | with_reducible assumption | (with_reducible refine OwnB.new ?_; (first | with_reducible rfl | (simp only [World.size_alloc, World.size_setCell, World.size_drew, World.heap_drewN]; done) | (simp only [World.size_alloc, World.size_setCell, World.size_drew, World.heap_drewN]; omega))) | with_reducible refine OwnB.alloc ?_ _ | with_reducible refine OwnB.drew ?_ | with_reducible refine OwnB.drewN ?_ _ | with_reducible refine OwnB.setCell ?_ _ _ ?_ | (dsimp only; omega) | omega)) hK (by simp only [List.mem_singleton]; omega)
  obtain ⟨y_x2_0, x_x2_0, b_x2_0⟩ := O_x2_0.facts
  have HSb := Lib.hid (NowS.callS (NowS.to HSa.out [q] Keeps.au (by simp <;> omega) (by simp [kq, mq] <;> omega)) hP hK hT)
  clear hP hK hT
  go_wp2_with fail
  go_ret
  exact NowS.finBoth (R := (({ sm0 with op := 8, ex := A.1, body := B.1, pos := p } : Sm), B.2)) (NowS.to HSb.out [q] Keeps.au (by simp <;> omega) (by simp [kq, mq] <;> omega)) (show OwnB _ (q) #[.int .i64 8, .slice a1 n1 p1, .slice a2 n2 p2, .int .i64 0, .int .i64 0, .int .i64 0, .string ⟨#[]⟩, .int .i64 0, .int .i64 p] 82 from (by repeat (first | with_reducible apply OwnB.s9_0 | with_reducible apply OwnB.s9_1 | with_reducible apply OwnB.s9_2 | with_reducible apply OwnB.s9_3 | with_reducible apply OwnB.s9_4 | with_reducible apply OwnB.s9_5 | with_reducible apply OwnB.s9_6 | with_reducible apply OwnB.s9_7 | with_reducible apply OwnB.s9_8 | with_reducible assumption | (with_reducible refine OwnB.new ?_; (first | with_reducible rfl | (simp only [World.size_alloc, World.size_setCell, World.size_drew, World.heap_drewN]; done) | (simp only [World.size_alloc, World.size_setCell, World.size_drew, World.heap_drewN]; omega))) | with_reducible refine OwnB.alloc ?_ _ | with_reducible refine OwnB.drew ?_ | with_reducible refine OwnB.drewN ?_ _ | with_reducible refine OwnB.setCell ?_ _ _ ?_ | (dsimp only; omega) | omega))) (by (try simp only [World.size_alloc, World.size_setCell, World.size_drew, World.heap_drewN]); omega)

theorem holding_for_ (c : Cx) (hc : c.Ok) (f : Nat) (GA : ∀ k, k ≤ f → GoodS c k) (d p : Int) (s : St) (R : Option (Sm × St)) (w : World) (q : Nat) (h0 : 0 ≤ d) (hd : d + (f + 1) ≤ 1000000000) (hq : OwnB w q #[.int .i64 0, .slice none 0 0, .slice none 0 0, .int .i64 0, .int .i64 0, .int .i64 0, .string ⟨#[]⟩, .int .i64 0, .int .i64 p] 82)
    (hn : q ≠ c.g ∧ q ≠ c.gt ∧ q ≠ c.mb ∧ q ≠ 2) (hR : P.holding c.l (P.recs c.l f) d s { sm0 with pos := p } = some R) (h : PIn w c s) (k0 : P.is c.l [105, 102] s = false) (k1 : P.is c.l [119, 104, 105, 108, 101] s = false) (k2 : P.is c.l [115, 119, 105, 116, 99, 104] s = false) (k3 : P.is c.l [102, 111, 114] s = true) : Calls Tryd.prog 77 #[pv c, .pointer (some ⟨q, 0, none⟩), .int .i64 d] w (DoesP c q { sm0 with pos := p } s R w) := by
  have hqlt := lt_of_blk hq.blk
  have hq1 : q ≠ c.g := hn.1
  have HN := Lib.hid (NowQ.start h)
  have HS := Lib.hid (NowS.start h hqlt hn)
  have hg := HS.out.g
  have hgt := HS.out.gt
  obtain ⟨yq, xq, zq⟩ := hq.facts
  have hw : wrap64 (d + 1) = d + 1 := wrapJ (by omega) (by omega)
  have hw' : IntKind.i64.wrap (d + 1) = d + 1 := wrapI (by omega) (by omega)
  unfold P.holding at hR
  have CA0 := fun W H => Lib.hid (accept_any c hc s W H [105, 102])
  rw [k0, show P.acc c.l [105, 102] s = s by simp [P.acc, k0]] at CA0
  rw [k0, if_neg (by simp)] at hR
  have CA1 := fun W H => Lib.hid (accept_any c hc s W H [119, 104, 105, 108, 101])
  rw [k1, show P.acc c.l [119, 104, 105, 108, 101] s = s by simp [P.acc, k1]] at CA1
  rw [k1, if_neg (by simp)] at hR
  have CA2 := fun W H => Lib.hid (accept_any c hc s W H [115, 119, 105, 116, 99, 104])
  rw [k2, show P.acc c.l [115, 119, 105, 116, 99, 104] s = s by simp [P.acc, k2]] at CA2
  rw [k2, if_neg (by simp)] at hR
  obtain ⟨s1, hs1⟩ : ∃ s1, s1 = P.next c.l s := ⟨_, rfl⟩
  have CA3 := fun W H => Lib.hid (accept_any c hc s W H [102, 111, 114])
  rw [k3, show P.acc c.l [102, 111, 114] s = s1 by simp [P.acc, k3, hs1]] at CA3
  rw [k3, if_pos rfl, ← hs1] at hR
  obtain ⟨V, hV, hR⟩ : ∃ V, P.forS c.l (P.recs c.l f) d s1 { sm0 with pos := p } = some V ∧ some V = R := by
    cases hx : P.forS c.l (P.recs c.l f) d s1 { sm0 with pos := p } with
    | none => rw [hx] at hR; cases hR
    | some V => rw [hx] at hR; exact ⟨V, rfl, Option.some.inj hR⟩
  obtain rfl := hR
  unfold P.forS at hV
  obtain ⟨A, hA, hV⟩ := Option.bind_eq_some_iff.1 hV
  obtain ⟨B, hB, hV⟩ := Option.bind_eq_some_iff.1 hV
  obtain rfl := Option.some.inj hV
  have CE := fun W H => Lib.hid (course_step c hc f d s1 A W h0 hd hA H)
  have CB := fun W H => Lib.hid (body_step c hc f (GA f (Nat.le_refl _)) d A.2 B W h0 hd hB H)
  clear h hV hA hB hs1 GA k0 k1 k2 k3
  unfold pv
  go_enter Tryd.func77, Tryd.ntmps77
  go_wp2_with fail
  refine (CA0 _ (NowS.pin (NowS.to HS.out [q] Keeps.au (by simp <;> omega) (by simp [kq, mq] <;> omega)))).out.mono ?_
  rintro e v0 ⟨rfl, hP, hK⟩
  have hz_v0 := hK.size
  try simp only [World.size_alloc, World.size_setCell, World.size_drew, World.heap_drewN] at hz_v0
  have O_v0_0 : OwnB v0 (q) #[.int .i64 0, .slice none 0 0, .slice none 0 0, .int .i64 0, .int .i64 0, .int .i64 0, .string ⟨#[]⟩, .int .i64 0, .int .i64 p] 82 := OwnB.call OwnB.au hK (by simp only [List.mem_singleton]; omega)
  obtain ⟨y_v0_0, x_v0_0, b_v0_0⟩ := O_v0_0.facts
  have HS0 := Lib.hid (NowS.call (NowS.to HS.out [q] Keeps.au (by simp <;> omega) (by simp [kq, mq] <;> omega)) hP hK)
  clear hP hK
  go_wp2_with fail
  refine (CA1 _ (NowS.pin (NowS.to HS0.out [q] Keeps.au (by simp <;> omega) (by simp [kq, mq] <;> omega)))).out.mono ?_
  rintro e v1 ⟨rfl, hP, hK⟩
  have hz_v1 := hK.size
  try simp only [World.size_alloc, World.size_setCell, World.size_drew, World.heap_drewN] at hz_v1
  have O_v1_0 : OwnB v1 (q) #[.int .i64 0, .slice none 0 0, .slice none 0 0, .int .i64 0, .int .i64 0, .int .i64 0, .string ⟨#[]⟩, .int .i64 0, .int .i64 p] 82 := OwnB.call OwnB.au hK (by simp only [List.mem_singleton]; omega)
  obtain ⟨y_v1_0, x_v1_0, b_v1_0⟩ := O_v1_0.facts
  have HS1 := Lib.hid (NowS.call (NowS.to HS0.out [q] Keeps.au (by simp <;> omega) (by simp [kq, mq] <;> omega)) hP hK)
  clear hP hK
  go_wp2_with fail
  refine (CA2 _ (NowS.pin (NowS.to HS1.out [q] Keeps.au (by simp <;> omega) (by simp [kq, mq] <;> omega)))).out.mono ?_
  rintro e v2 ⟨rfl, hP, hK⟩
  have hz_v2 := hK.size
  try simp only [World.size_alloc, World.size_setCell, World.size_drew, World.heap_drewN] at hz_v2
  have O_v2_0 : OwnB v2 (q) #[.int .i64 0, .slice none 0 0, .slice none 0 0, .int .i64 0, .int .i64 0, .int .i64 0, .string ⟨#[]⟩, .int .i64 0, .int .i64 p] 82 := OwnB.call OwnB.au hK (by simp only [List.mem_singleton]; omega)
  obtain ⟨y_v2_0, x_v2_0, b_v2_0⟩ := O_v2_0.facts
  have HS2 := Lib.hid (NowS.call (NowS.to HS1.out [q] Keeps.au (by simp <;> omega) (by simp [kq, mq] <;> omega)) hP hK)
  clear hP hK
  go_wp2_with fail
  refine (CA3 _ (NowS.pin (NowS.to HS2.out [q] Keeps.au (by simp <;> omega) (by simp [kq, mq] <;> omega)))).out.mono ?_
  rintro e v3 ⟨rfl, hP, hK⟩
  have hz_v3 := hK.size
  try simp only [World.size_alloc, World.size_setCell, World.size_drew, World.heap_drewN] at hz_v3
  have O_v3_0 : OwnB v3 (q) #[.int .i64 0, .slice none 0 0, .slice none 0 0, .int .i64 0, .int .i64 0, .int .i64 0, .string ⟨#[]⟩, .int .i64 0, .int .i64 p] 82 := OwnB.call OwnB.au hK (by simp only [List.mem_singleton]; omega)
  obtain ⟨y_v3_0, x_v3_0, b_v3_0⟩ := O_v3_0.facts
  have HS3 := Lib.hid (NowS.call (NowS.to HS2.out [q] Keeps.au (by simp <;> omega) (by simp [kq, mq] <;> omega)) hP hK)
  clear hP hK
  go_wp2_with fail
  refine (CE _ (NowS.pin (NowS.to HS3.out [q] Keeps.au (by simp <;> omega) (by simp [kq, mq] <;> omega)))).out.mono ?_
  rintro e x1 ⟨a1, n1, p1, rfl, hP, hK, hT⟩
  have hz_x1 := hK.size
  try simp only [World.size_alloc, World.size_setCell, World.size_drew, World.heap_drewN] at hz_x1
  have O_x1_0 : OwnB x1 (q) #[.int .i64 0, .slice none 0 0, .slice none 0 0, .int .i64 0, .int .i64 0, .int .i64 0, .string ⟨#[]⟩, .int .i64 0, .int .i64 p] 82 := OwnB.call OwnB.au hK (by simp only [List.mem_singleton]; omega)
  obtain ⟨y_x1_0, x_x1_0, b_x1_0⟩ := O_x1_0.facts
  have HSa := Lib.hid (NowS.callE (NowS.to HS3.out [q] Keeps.au (by simp <;> omega) (by simp [kq, mq] <;> omega)) hP hK hT)
  clear hP hK hT
  go_wp2_with fail
  refine (CB _ (NowS.pin (NowS.to HSa.out [q] Keeps.au (by simp <;> omega) (by simp [kq, mq] <;> omega)))).out.mono ?_
  rintro e x2 ⟨a2, n2, p2, rfl, hP, hK, hT⟩
  have hz_x2 := hK.size
  try simp only [World.size_alloc, World.size_setCell, World.size_drew, World.heap_drewN] at hz_x2
  have O_x2_0 : OwnB x2 (q) #[.int .i64 7, .slice a1 n1 p1, .slice none 0 0, .int .i64 0, .int .i64 0, .int .i64 0, .string ⟨#[]⟩, .int .i64 0, .int .i64 p] 82 := OwnB.call (by repeat (first | with_reducible apply OwnB.s9_0 | with_reducible apply OwnB.s9_1 | with_reducible apply OwnB.s9_2 | with_reducible apply OwnB.s9_3 | with_reducible apply OwnB.s9_4 | with_reducible apply OwnB.s9_5 | with_reducible apply OwnB.s9_6 | with_reducible apply OwnB.s9_7 | with_reducible apply OwnB.s9_8 | with_reducible assumption | (with_reducible refine OwnB.new ?_; (first | with_reducible rfl | (simp only [World.size_alloc, World.size_setCell, World.size_drew, World.heap_drewN]; done) | (simp only [World.size_alloc, World.size_setCell, World.size_drew, World.heap_drewN]; omega))) | with_reducible refine OwnB.alloc ?_ _ | with_reducible refine OwnB.drew ?_ | with_reducible refine OwnB.drewN ?_ _ | with_reducible refine OwnB.setCell ?_ _ _ ?_ | (dsimp only; omega) | omega)) hK (by simp only [List.mem_singleton]; omega)
  obtain ⟨y_x2_0, x_x2_0, b_x2_0⟩ := O_x2_0.facts
  have HSb := Lib.hid (NowS.callS (NowS.to HSa.out [q] Keeps.au (by simp <;> omega) (by simp [kq, mq] <;> omega)) hP hK hT)
  clear hP hK hT
  go_wp2_with fail
  go_ret
  exact NowS.finBoth (R := (({ sm0 with op := 7, ex := A.1, body := B.1, pos := p } : Sm), B.2)) (NowS.to HSb.out [q] Keeps.au (by simp <;> omega) (by simp [kq, mq] <;> omega)) (show OwnB _ (q) #[.int .i64 7, .slice a1 n1 p1, .slice a2 n2 p2, .int .i64 0, .int .i64 0, .int .i64 0, .string ⟨#[]⟩, .int .i64 0, .int .i64 p] 82 from (by repeat (first | with_reducible apply OwnB.s9_0 | with_reducible apply OwnB.s9_1 | with_reducible apply OwnB.s9_2 | with_reducible apply OwnB.s9_3 | with_reducible apply OwnB.s9_4 | with_reducible apply OwnB.s9_5 | with_reducible apply OwnB.s9_6 | with_reducible apply OwnB.s9_7 | with_reducible apply OwnB.s9_8 | with_reducible assumption | (with_reducible refine OwnB.new ?_; (first | with_reducible rfl | (simp only [World.size_alloc, World.size_setCell, World.size_drew, World.heap_drewN]; done) | (simp only [World.size_alloc, World.size_setCell, World.size_drew, World.heap_drewN]; omega))) | with_reducible refine OwnB.alloc ?_ _ | with_reducible refine OwnB.drew ?_ | with_reducible refine OwnB.drewN ?_ _ | with_reducible refine OwnB.setCell ?_ _ _ ?_ | (dsimp only; omega) | omega))) (by (try simp only [World.size_alloc, World.size_setCell, World.size_drew, World.heap_drewN]); omega)

theorem holding_do_ (c : Cx) (hc : c.Ok) (f : Nat) (GA : ∀ k, k ≤ f → GoodS c k) (d p : Int) (s : St) (R : Option (Sm × St)) (w : World) (q : Nat) (h0 : 0 ≤ d) (hd : d + (f + 1) ≤ 1000000000) (hq : OwnB w q #[.int .i64 0, .slice none 0 0, .slice none 0 0, .int .i64 0, .int .i64 0, .int .i64 0, .string ⟨#[]⟩, .int .i64 0, .int .i64 p] 82)
    (hn : q ≠ c.g ∧ q ≠ c.gt ∧ q ≠ c.mb ∧ q ≠ 2) (hR : P.holding c.l (P.recs c.l f) d s { sm0 with pos := p } = some R) (h : PIn w c s) (k0 : P.is c.l [105, 102] s = false) (k1 : P.is c.l [119, 104, 105, 108, 101] s = false) (k2 : P.is c.l [115, 119, 105, 116, 99, 104] s = false) (k3 : P.is c.l [102, 111, 114] s = false) (k4 : P.is c.l [100, 111] s = true) : Calls Tryd.prog 77 #[pv c, .pointer (some ⟨q, 0, none⟩), .int .i64 d] w (DoesP c q { sm0 with pos := p } s R w) := by
  have hqlt := lt_of_blk hq.blk
  have hq1 : q ≠ c.g := hn.1
  have HN := Lib.hid (NowQ.start h)
  have HS := Lib.hid (NowS.start h hqlt hn)
  have hg := HS.out.g
  have hgt := HS.out.gt
  obtain ⟨yq, xq, zq⟩ := hq.facts
  have hw : wrap64 (d + 1) = d + 1 := wrapJ (by omega) (by omega)
  have hw' : IntKind.i64.wrap (d + 1) = d + 1 := wrapI (by omega) (by omega)
  unfold P.holding at hR
  have CA0 := fun W H => Lib.hid (accept_any c hc s W H [105, 102])
  rw [k0, show P.acc c.l [105, 102] s = s by simp [P.acc, k0]] at CA0
  rw [k0, if_neg (by simp)] at hR
  have CA1 := fun W H => Lib.hid (accept_any c hc s W H [119, 104, 105, 108, 101])
  rw [k1, show P.acc c.l [119, 104, 105, 108, 101] s = s by simp [P.acc, k1]] at CA1
  rw [k1, if_neg (by simp)] at hR
  have CA2 := fun W H => Lib.hid (accept_any c hc s W H [115, 119, 105, 116, 99, 104])
  rw [k2, show P.acc c.l [115, 119, 105, 116, 99, 104] s = s by simp [P.acc, k2]] at CA2
  rw [k2, if_neg (by simp)] at hR
  have CA3 := fun W H => Lib.hid (accept_any c hc s W H [102, 111, 114])
  rw [k3, show P.acc c.l [102, 111, 114] s = s by simp [P.acc, k3]] at CA3
  rw [k3, if_neg (by simp)] at hR
  obtain ⟨s1, hs1⟩ : ∃ s1, s1 = P.next c.l s := ⟨_, rfl⟩
  have CA4 := fun W H => Lib.hid (accept_any c hc s W H [100, 111])
  rw [k4, show P.acc c.l [100, 111] s = s1 by simp [P.acc, k4, hs1]] at CA4
  rw [k4, if_pos rfl, ← hs1] at hR
  obtain ⟨V, hV, hR⟩ : ∃ V, P.doS c.l (P.recs c.l f) d s1 { sm0 with pos := p } = some V ∧ some V = R := by
    cases hx : P.doS c.l (P.recs c.l f) d s1 { sm0 with pos := p } with
    | none => rw [hx] at hR; cases hR
    | some V => rw [hx] at hR; exact ⟨V, rfl, Option.some.inj hR⟩
  obtain rfl := hR
  unfold P.doS at hV
  obtain ⟨B, hB, hV⟩ := Option.bind_eq_some_iff.1 hV
  obtain ⟨A, hA, hV⟩ := Option.bind_eq_some_iff.1 hV
  obtain rfl := Option.some.inj hV
  have CB := fun W H => Lib.hid (body_step c hc f (GA f (Nat.le_refl _)) d s1 B W h0 hd hB H)
  have CN := fun W H => Lib.hid (need_any c hc B.2 W H [119, 104, 105, 108, 101])
  have CE := fun W H => Lib.hid (asked_step c hc f d (P.need c.l [119, 104, 105, 108, 101] B.2) A W h0 hd hA H)
  have CM := fun W H => Lib.hid (need_any c hc A.2 W H [59])
  clear h hV hA hB hs1 GA k0 k1 k2 k3 k4
  unfold pv
  go_enter Tryd.func77, Tryd.ntmps77
  go_wp2_with fail
  refine (CA0 _ (NowS.pin (NowS.to HS.out [q] Keeps.au (by simp <;> omega) (by simp [kq, mq] <;> omega)))).out.mono ?_
  rintro e v0 ⟨rfl, hP, hK⟩
  have hz_v0 := hK.size
  try simp only [World.size_alloc, World.size_setCell, World.size_drew, World.heap_drewN] at hz_v0
  have O_v0_0 : OwnB v0 (q) #[.int .i64 0, .slice none 0 0, .slice none 0 0, .int .i64 0, .int .i64 0, .int .i64 0, .string ⟨#[]⟩, .int .i64 0, .int .i64 p] 82 := OwnB.call OwnB.au hK (by simp only [List.mem_singleton]; omega)
  obtain ⟨y_v0_0, x_v0_0, b_v0_0⟩ := O_v0_0.facts
  have HS0 := Lib.hid (NowS.call (NowS.to HS.out [q] Keeps.au (by simp <;> omega) (by simp [kq, mq] <;> omega)) hP hK)
  clear hP hK
  go_wp2_with fail
  refine (CA1 _ (NowS.pin (NowS.to HS0.out [q] Keeps.au (by simp <;> omega) (by simp [kq, mq] <;> omega)))).out.mono ?_
  rintro e v1 ⟨rfl, hP, hK⟩
  have hz_v1 := hK.size
  try simp only [World.size_alloc, World.size_setCell, World.size_drew, World.heap_drewN] at hz_v1
  have O_v1_0 : OwnB v1 (q) #[.int .i64 0, .slice none 0 0, .slice none 0 0, .int .i64 0, .int .i64 0, .int .i64 0, .string ⟨#[]⟩, .int .i64 0, .int .i64 p] 82 := OwnB.call OwnB.au hK (by simp only [List.mem_singleton]; omega)
  obtain ⟨y_v1_0, x_v1_0, b_v1_0⟩ := O_v1_0.facts
  have HS1 := Lib.hid (NowS.call (NowS.to HS0.out [q] Keeps.au (by simp <;> omega) (by simp [kq, mq] <;> omega)) hP hK)
  clear hP hK
  go_wp2_with fail
  refine (CA2 _ (NowS.pin (NowS.to HS1.out [q] Keeps.au (by simp <;> omega) (by simp [kq, mq] <;> omega)))).out.mono ?_
  rintro e v2 ⟨rfl, hP, hK⟩
  have hz_v2 := hK.size
  try simp only [World.size_alloc, World.size_setCell, World.size_drew, World.heap_drewN] at hz_v2
  have O_v2_0 : OwnB v2 (q) #[.int .i64 0, .slice none 0 0, .slice none 0 0, .int .i64 0, .int .i64 0, .int .i64 0, .string ⟨#[]⟩, .int .i64 0, .int .i64 p] 82 := OwnB.call OwnB.au hK (by simp only [List.mem_singleton]; omega)
  obtain ⟨y_v2_0, x_v2_0, b_v2_0⟩ := O_v2_0.facts
  have HS2 := Lib.hid (NowS.call (NowS.to HS1.out [q] Keeps.au (by simp <;> omega) (by simp [kq, mq] <;> omega)) hP hK)
  clear hP hK
  go_wp2_with fail
  refine (CA3 _ (NowS.pin (NowS.to HS2.out [q] Keeps.au (by simp <;> omega) (by simp [kq, mq] <;> omega)))).out.mono ?_
  rintro e v3 ⟨rfl, hP, hK⟩
  have hz_v3 := hK.size
  try simp only [World.size_alloc, World.size_setCell, World.size_drew, World.heap_drewN] at hz_v3
  have O_v3_0 : OwnB v3 (q) #[.int .i64 0, .slice none 0 0, .slice none 0 0, .int .i64 0, .int .i64 0, .int .i64 0, .string ⟨#[]⟩, .int .i64 0, .int .i64 p] 82 := OwnB.call OwnB.au hK (by simp only [List.mem_singleton]; omega)
  obtain ⟨y_v3_0, x_v3_0, b_v3_0⟩ := O_v3_0.facts
  have HS3 := Lib.hid (NowS.call (NowS.to HS2.out [q] Keeps.au (by simp <;> omega) (by simp [kq, mq] <;> omega)) hP hK)
  clear hP hK
  go_wp2_with fail
  refine (CA4 _ (NowS.pin (NowS.to HS3.out [q] Keeps.au (by simp <;> omega) (by simp [kq, mq] <;> omega)))).out.mono ?_
  rintro e v4 ⟨rfl, hP, hK⟩
  have hz_v4 := hK.size
  try simp only [World.size_alloc, World.size_setCell, World.size_drew, World.heap_drewN] at hz_v4
  have O_v4_0 : OwnB v4 (q) #[.int .i64 0, .slice none 0 0, .slice none 0 0, .int .i64 0, .int .i64 0, .int .i64 0, .string ⟨#[]⟩, .int .i64 0, .int .i64 p] 82 := OwnB.call OwnB.au hK (by simp only [List.mem_singleton]; omega)
  obtain ⟨y_v4_0, x_v4_0, b_v4_0⟩ := O_v4_0.facts
  have HS4 := Lib.hid (NowS.call (NowS.to HS3.out [q] Keeps.au (by simp <;> omega) (by simp [kq, mq] <;> omega)) hP hK)
  clear hP hK
  go_wp2_with fail
  refine (CB _ (NowS.pin (NowS.to HS4.out [q] Keeps.au (by simp <;> omega) (by simp [kq, mq] <;> omega)))).out.mono ?_
  rintro e x1 ⟨a1, n1, p1, rfl, hP, hK, hT⟩
  have hz_x1 := hK.size
  try simp only [World.size_alloc, World.size_setCell, World.size_drew, World.heap_drewN] at hz_x1
  have O_x1_0 : OwnB x1 (q) #[.int .i64 0, .slice none 0 0, .slice none 0 0, .int .i64 0, .int .i64 0, .int .i64 0, .string ⟨#[]⟩, .int .i64 0, .int .i64 p] 82 := OwnB.call OwnB.au hK (by simp only [List.mem_singleton]; omega)
  obtain ⟨y_x1_0, x_x1_0, b_x1_0⟩ := O_x1_0.facts
  have HSa := Lib.hid (NowS.callS (NowS.to HS4.out [q] Keeps.au (by simp <;> omega) (by simp [kq, mq] <;> omega)) hP hK hT)
  clear hP hK hT
  go_wp2_with fail
  refine (CN _ (NowS.pin (NowS.to HSa.out [q] Keeps.au (by simp <;> omega) (by simp [kq, mq] <;> omega)))).out.mono ?_
  rintro e x2 ⟨rfl, hP, hK⟩
  have hz_x2 := hK.size
  try simp only [World.size_alloc, World.size_setCell, World.size_drew, World.heap_drewN] at hz_x2
  have O_x2_0 : OwnB x2 (q) #[.int .i64 6, .slice none 0 0, .slice a1 n1 p1, .int .i64 0, .int .i64 0, .int .i64 0, .string ⟨#[]⟩, .int .i64 0, .int .i64 p] 82 := OwnB.call (by repeat (first | with_reducible apply OwnB.s9_0 | with_reducible apply OwnB.s9_1 | with_reducible apply OwnB.s9_2 | with_reducible apply OwnB.s9_3 | with_reducible apply OwnB.s9_4 | with_reducible apply OwnB.s9_5 | with_reducible apply OwnB.s9_6 | with_reducible apply OwnB.s9_7 | with_reducible apply OwnB.s9_8 | with_reducible assumption | (with_reducible refine OwnB.new ?_; (first | with_reducible rfl | (simp only [World.size_alloc, World.size_setCell, World.size_drew, World.heap_drewN]; done) | (simp only [World.size_alloc, World.size_setCell, World.size_drew, World.heap_drewN]; omega))) | with_reducible refine OwnB.alloc ?_ _ | with_reducible refine OwnB.drew ?_ | with_reducible refine OwnB.drewN ?_ _ | with_reducible refine OwnB.setCell ?_ _ _ ?_ | (dsimp only; omega) | omega)) hK (by simp only [List.mem_singleton]; omega)
  obtain ⟨y_x2_0, x_x2_0, b_x2_0⟩ := O_x2_0.facts
  have HSb := Lib.hid (NowS.call (NowS.to HSa.out [q] Keeps.au (by simp <;> omega) (by simp [kq, mq] <;> omega)) hP hK)
  clear hP hK
  go_wp2_with fail
  refine (CE _ (NowS.pin (NowS.to HSb.out [q] Keeps.au (by simp <;> omega) (by simp [kq, mq] <;> omega)))).out.mono ?_
  rintro e x3 ⟨a2, n2, p2, rfl, hP, hK, hT⟩
  have hz_x3 := hK.size
  try simp only [World.size_alloc, World.size_setCell, World.size_drew, World.heap_drewN] at hz_x3
  have O_x3_0 : OwnB x3 (q) #[.int .i64 6, .slice none 0 0, .slice a1 n1 p1, .int .i64 0, .int .i64 0, .int .i64 0, .string ⟨#[]⟩, .int .i64 0, .int .i64 p] 82 := OwnB.call OwnB.au hK (by simp only [List.mem_singleton]; omega)
  obtain ⟨y_x3_0, x_x3_0, b_x3_0⟩ := O_x3_0.facts
  have HSc := Lib.hid (NowS.callE (NowS.to HSb.out [q] Keeps.au (by simp <;> omega) (by simp [kq, mq] <;> omega)) hP hK hT)
  clear hP hK hT
  go_wp2_with fail
  refine (CM _ (NowS.pin (NowS.to HSc.out [q] Keeps.au (by simp <;> omega) (by simp [kq, mq] <;> omega)))).out.mono ?_
  rintro e x4 ⟨rfl, hP, hK⟩
  have hz_x4 := hK.size
  try simp only [World.size_alloc, World.size_setCell, World.size_drew, World.heap_drewN] at hz_x4
  have O_x4_0 : OwnB x4 (q) #[.int .i64 6, .slice a2 n2 p2, .slice a1 n1 p1, .int .i64 0, .int .i64 0, .int .i64 0, .string ⟨#[]⟩, .int .i64 0, .int .i64 p] 82 := OwnB.call (by repeat (first | with_reducible apply OwnB.s9_0 | with_reducible apply OwnB.s9_1 | with_reducible apply OwnB.s9_2 | with_reducible apply OwnB.s9_3 | with_reducible apply OwnB.s9_4 | with_reducible apply OwnB.s9_5 | with_reducible apply OwnB.s9_6 | with_reducible apply OwnB.s9_7 | with_reducible apply OwnB.s9_8 | with_reducible assumption | (with_reducible refine OwnB.new ?_; (first | with_reducible rfl | (simp only [World.size_alloc, World.size_setCell, World.size_drew, World.heap_drewN]; done) | (simp only [World.size_alloc, World.size_setCell, World.size_drew, World.heap_drewN]; omega))) | with_reducible refine OwnB.alloc ?_ _ | with_reducible refine OwnB.drew ?_ | with_reducible refine OwnB.drewN ?_ _ | with_reducible refine OwnB.setCell ?_ _ _ ?_ | (dsimp only; omega) | omega)) hK (by simp only [List.mem_singleton]; omega)
  obtain ⟨y_x4_0, x_x4_0, b_x4_0⟩ := O_x4_0.facts
  have HSd := Lib.hid (NowS.call (NowS.to HSc.out [q] Keeps.au (by simp <;> omega) (by simp [kq, mq] <;> omega)) hP hK)
  clear hP hK
  go_wp2_with fail
  go_ret
  exact NowS.finBoth' (R := (({ sm0 with op := 6, ex := A.1, body := B.1, pos := p } : Sm), P.need c.l [59] A.2)) HSd.out O_x4_0 (by (try simp only [World.size_alloc, World.size_setCell, World.size_drew, World.heap_drewN]); omega)

theorem holding_if_ (c : Cx) (hc : c.Ok) (f : Nat) (GA : ∀ k, k ≤ f → GoodS c k) (d p : Int) (s : St) (R : Option (Sm × St)) (w : World) (q : Nat) (h0 : 0 ≤ d) (hd : d + (f + 1) ≤ 1000000000) (hq : OwnB w q #[.int .i64 0, .slice none 0 0, .slice none 0 0, .int .i64 0, .int .i64 0, .int .i64 0, .string ⟨#[]⟩, .int .i64 0, .int .i64 p] 82)
    (hn : q ≠ c.g ∧ q ≠ c.gt ∧ q ≠ c.mb ∧ q ≠ 2) (hR : P.holding c.l (P.recs c.l f) d s { sm0 with pos := p } = some R) (h : PIn w c s) (k0 : P.is c.l [105, 102] s = true) : Calls Tryd.prog 77 #[pv c, .pointer (some ⟨q, 0, none⟩), .int .i64 d] w (DoesP c q { sm0 with pos := p } s R w) := by
  have hqlt := lt_of_blk hq.blk
  have hq1 : q ≠ c.g := hn.1
  have HN := Lib.hid (NowQ.start h)
  have HS := Lib.hid (NowS.start h hqlt hn)
  have hg := HS.out.g
  have hgt := HS.out.gt
  obtain ⟨yq, xq, zq⟩ := hq.facts
  have hw : wrap64 (d + 1) = d + 1 := wrapJ (by omega) (by omega)
  have hw' : IntKind.i64.wrap (d + 1) = d + 1 := wrapI (by omega) (by omega)
  unfold P.holding at hR
  obtain ⟨s1, hs1⟩ : ∃ s1, s1 = P.next c.l s := ⟨_, rfl⟩
  have CA0 := fun W H => Lib.hid (accept_any c hc s W H [105, 102])
  rw [k0, show P.acc c.l [105, 102] s = s1 by simp [P.acc, k0, hs1]] at CA0
  rw [k0, if_pos rfl, ← hs1] at hR
  obtain ⟨V, hV, hR⟩ : ∃ V, P.ifS c.l (P.recs c.l f) d s1 { sm0 with pos := p } = some V ∧ some V = R := by
    cases hx : P.ifS c.l (P.recs c.l f) d s1 { sm0 with pos := p } with
    | none => rw [hx] at hR; cases hR
    | some V => rw [hx] at hR; exact ⟨V, rfl, Option.some.inj hR⟩
  obtain rfl := hR
  unfold P.ifS at hV
  obtain ⟨A, hA, hV⟩ := Option.bind_eq_some_iff.1 hV
  obtain ⟨B, hB, hV⟩ := Option.bind_eq_some_iff.1 hV
  have CE := fun W H => Lib.hid (asked_step c hc f d s1 A W h0 hd hA H)
  have CB := fun W H => Lib.hid (body_step c hc f (GA f (Nat.le_refl _)) d A.2 B W h0 hd hB H)
  have CZ := fun W H => Lib.hid (accept_any c hc B.2 W H [101, 108, 115, 101])
  cases ke : P.is c.l [101, 108, 115, 101] B.2 with
  | false =>
    rw [ke, if_neg (by simp)] at hV
    obtain rfl := Option.some.inj hV
    rw [ke, show P.acc c.l [101, 108, 115, 101] B.2 = B.2 by simp [P.acc, ke]] at CZ
    clear h hV hA hB hs1 GA k0 ke
    unfold pv
    go_enter Tryd.func77, Tryd.ntmps77
    go_wp2_with fail
    refine (CA0 _ (NowS.pin (NowS.to HS.out [q] Keeps.au (by simp <;> omega) (by simp [kq, mq] <;> omega)))).out.mono ?_
    rintro e v0 ⟨rfl, hP, hK⟩
    have hz_v0 := hK.size
    try simp only [World.size_alloc, World.size_setCell, World.size_drew, World.heap_drewN] at hz_v0
    have O_v0_0 : OwnB v0 (q) #[.int .i64 0, .slice none 0 0, .slice none 0 0, .int .i64 0, .int .i64 0, .int .i64 0, .string ⟨#[]⟩, .int .i64 0, .int .i64 p] 82 := OwnB.call OwnB.au hK (by simp only [List.mem_singleton]; omega)
    obtain ⟨y_v0_0, x_v0_0, b_v0_0⟩ := O_v0_0.facts
    have HS0 := Lib.hid (NowS.call (NowS.to HS.out [q] Keeps.au (by simp <;> omega) (by simp [kq, mq] <;> omega)) hP hK)
    clear hP hK
    go_wp2_with fail
    refine (CE _ (NowS.pin (NowS.to HS0.out [q] Keeps.au (by simp <;> omega) (by simp [kq, mq] <;> omega)))).out.mono ?_
    rintro e x1 ⟨a1, n1, p1, rfl, hP, hK, hT⟩
    have hz_x1 := hK.size
    try simp only [World.size_alloc, World.size_setCell, World.size_drew, World.heap_drewN] at hz_x1
    have O_x1_0 : OwnB x1 (q) #[.int .i64 0, .slice none 0 0, .slice none 0 0, .int .i64 0, .int .i64 0, .int .i64 0, .string ⟨#[]⟩, .int .i64 0, .int .i64 p] 82 := OwnB.call OwnB.au hK (by simp only [List.mem_singleton]; omega)
    obtain ⟨y_x1_0, x_x1_0, b_x1_0⟩ := O_x1_0.facts
    have HSa := Lib.hid (NowS.callE (NowS.to HS0.out [q] Keeps.au (by simp <;> omega) (by simp [kq, mq] <;> omega)) hP hK hT)
    clear hP hK hT
    go_wp2_with fail
    refine (CB _ (NowS.pin (NowS.to HSa.out [q] Keeps.au (by simp <;> omega) (by simp [kq, mq] <;> omega)))).out.mono ?_
    rintro e x2 ⟨a2, n2, p2, rfl, hP, hK, hT⟩
    have hz_x2 := hK.size
    try simp only [World.size_alloc, World.size_setCell, World.size_drew, World.heap_drewN] at hz_x2
    have O_x2_0 : OwnB x2 (q) #[.int .i64 4, .slice a1 n1 p1, .slice none 0 0, .int .i64 0, .int .i64 0, .int .i64 0, .string ⟨#[]⟩, .int .i64 0, .int .i64 p] 82 := OwnB.call (by repeat (first | with_reducible apply OwnB.s9_0 | with_reducible apply OwnB.s9_1 | with_reducible apply OwnB.s9_2 | with_reducible apply OwnB.s9_3 | with_reducible apply OwnB.s9_4 | with_reducible apply OwnB.s9_5 | with_reducible apply OwnB.s9_6 | with_reducible apply OwnB.s9_7 | with_reducible apply OwnB.s9_8 | with_reducible assumption | (with_reducible refine OwnB.new ?_; (first | with_reducible rfl | (simp only [World.size_alloc, World.size_setCell, World.size_drew, World.heap_drewN]; done) | (simp only [World.size_alloc, World.size_setCell, World.size_drew, World.heap_drewN]; omega))) | with_reducible refine OwnB.alloc ?_ _ | with_reducible refine OwnB.drew ?_ | with_reducible refine OwnB.drewN ?_ _ | with_reducible refine OwnB.setCell ?_ _ _ ?_ | (dsimp only; omega) | omega)) hK (by simp only [List.mem_singleton]; omega)
    obtain ⟨y_x2_0, x_x2_0, b_x2_0⟩ := O_x2_0.facts
    have HSb := Lib.hid (NowS.callS (NowS.to HSa.out [q] Keeps.au (by simp <;> omega) (by simp [kq, mq] <;> omega)) hP hK hT)
    clear hP hK hT
    go_wp2_with fail
    refine (CZ _ (NowS.pin (NowS.to HSb.out [q] Keeps.au (by simp <;> omega) (by simp [kq, mq] <;> omega)))).out.mono ?_
    rintro e x3 ⟨rfl, hP, hK⟩
    have hz_x3 := hK.size
    try simp only [World.size_alloc, World.size_setCell, World.size_drew, World.heap_drewN] at hz_x3
    have O_x3_0 : OwnB x3 (q) #[.int .i64 4, .slice a1 n1 p1, .slice a2 n2 p2, .int .i64 0, .int .i64 0, .int .i64 0, .string ⟨#[]⟩, .int .i64 0, .int .i64 p] 82 := OwnB.call (by repeat (first | with_reducible apply OwnB.s9_0 | with_reducible apply OwnB.s9_1 | with_reducible apply OwnB.s9_2 | with_reducible apply OwnB.s9_3 | with_reducible apply OwnB.s9_4 | with_reducible apply OwnB.s9_5 | with_reducible apply OwnB.s9_6 | with_reducible apply OwnB.s9_7 | with_reducible apply OwnB.s9_8 | with_reducible assumption | (with_reducible refine OwnB.new ?_; (first | with_reducible rfl | (simp only [World.size_alloc, World.size_setCell, World.size_drew, World.heap_drewN]; done) | (simp only [World.size_alloc, World.size_setCell, World.size_drew, World.heap_drewN]; omega))) | with_reducible refine OwnB.alloc ?_ _ | with_reducible refine OwnB.drew ?_ | with_reducible refine OwnB.drewN ?_ _ | with_reducible refine OwnB.setCell ?_ _ _ ?_ | (dsimp only; omega) | omega)) hK (by simp only [List.mem_singleton]; omega)
    obtain ⟨y_x3_0, x_x3_0, b_x3_0⟩ := O_x3_0.facts
    have HSc := Lib.hid (NowS.call (NowS.to HSb.out [q] Keeps.au (by simp <;> omega) (by simp [kq, mq] <;> omega)) hP hK)
    clear hP hK
    go_wp2_with fail
    go_ret
    exact NowS.finBoth (R := (({ sm0 with op := 4, ex := A.1, body := B.1, pos := p } : Sm), B.2)) HSc.out O_x3_0 (by (try simp only [World.size_alloc, World.size_setCell, World.size_drew, World.heap_drewN]); omega)
  | true =>
    rw [ke, if_pos rfl] at hV
    obtain ⟨D, hD, hV⟩ := Option.bind_eq_some_iff.1 hV
    obtain rfl := Option.some.inj hV
    exact holding_else_ c hc f GA d p s w q h0 hd hq hn h k0 s1 hs1 A hA B hB ke D hD

theorem holding_none_ (c : Cx) (hc : c.Ok) (f : Nat) (GA : ∀ k, k ≤ f → GoodS c k) (d p : Int) (s : St) (R : Option (Sm × St)) (w : World) (q : Nat) (h0 : 0 ≤ d) (hd : d + (f + 1) ≤ 1000000000) (hq : OwnB w q #[.int .i64 0, .slice none 0 0, .slice none 0 0, .int .i64 0, .int .i64 0, .int .i64 0, .string ⟨#[]⟩, .int .i64 0, .int .i64 p] 82)
    (hn : q ≠ c.g ∧ q ≠ c.gt ∧ q ≠ c.mb ∧ q ≠ 2) (hR : P.holding c.l (P.recs c.l f) d s { sm0 with pos := p } = some R) (h : PIn w c s) (k0 : P.is c.l [105, 102] s = false) (k1 : P.is c.l [119, 104, 105, 108, 101] s = false) (k2 : P.is c.l [115, 119, 105, 116, 99, 104] s = false) (k3 : P.is c.l [102, 111, 114] s = false) (k4 : P.is c.l [100, 111] s = false) : Calls Tryd.prog 77 #[pv c, .pointer (some ⟨q, 0, none⟩), .int .i64 d] w (DoesP c q { sm0 with pos := p } s R w) := by
  have hqlt := lt_of_blk hq.blk
  have hq1 : q ≠ c.g := hn.1
  have HN := Lib.hid (NowQ.start h)
  have HS := Lib.hid (NowS.start h hqlt hn)
  have hg := HS.out.g
  have hgt := HS.out.gt
  obtain ⟨yq, xq, zq⟩ := hq.facts
  have hw : wrap64 (d + 1) = d + 1 := wrapJ (by omega) (by omega)
  have hw' : IntKind.i64.wrap (d + 1) = d + 1 := wrapI (by omega) (by omega)
  unfold P.holding at hR
  have CA0 := fun W H => Lib.hid (accept_any c hc s W H [105, 102])
  rw [k0, show P.acc c.l [105, 102] s = s by simp [P.acc, k0]] at CA0
  rw [k0, if_neg (by simp)] at hR
  have CA1 := fun W H => Lib.hid (accept_any c hc s W H [119, 104, 105, 108, 101])
  rw [k1, show P.acc c.l [119, 104, 105, 108, 101] s = s by simp [P.acc, k1]] at CA1
  rw [k1, if_neg (by simp)] at hR
  have CA2 := fun W H => Lib.hid (accept_any c hc s W H [115, 119, 105, 116, 99, 104])
  rw [k2, show P.acc c.l [115, 119, 105, 116, 99, 104] s = s by simp [P.acc, k2]] at CA2
  rw [k2, if_neg (by simp)] at hR
  have CA3 := fun W H => Lib.hid (accept_any c hc s W H [102, 111, 114])
  rw [k3, show P.acc c.l [102, 111, 114] s = s by simp [P.acc, k3]] at CA3
  rw [k3, if_neg (by simp)] at hR
  have CA4 := fun W H => Lib.hid (accept_any c hc s W H [100, 111])
  rw [k4, show P.acc c.l [100, 111] s = s by simp [P.acc, k4]] at CA4
  rw [k4, if_neg (by simp)] at hR
  obtain rfl := Option.some.inj hR
  clear h hR k0 k1 k2 k3 k4
  unfold pv
  go_enter Tryd.func77, Tryd.ntmps77
  go_wp2_with fail
  refine (CA0 _ (NowQ.pin (NowQ.to HN.out [] Keeps.au (fun b hb => absurd hb List.not_mem_nil) (fun q _ b hb => absurd hb List.not_mem_nil)))).out.mono ?_
  rintro e v0 ⟨rfl, hP, hK⟩
  have hz_v0 := hK.size
  try simp only [World.size_alloc, World.size_setCell, World.size_drew, World.heap_drewN] at hz_v0
  have HN0 := Lib.hid (NowQ.call (NowQ.to HN.out [] Keeps.au (fun b hb => absurd hb List.not_mem_nil) (fun q _ b hb => absurd hb List.not_mem_nil)) hP hK)
  clear hP hK
  go_wp2_with fail
  refine (CA1 _ (NowQ.pin (NowQ.to HN0.out [] Keeps.au (fun b hb => absurd hb List.not_mem_nil) (fun q _ b hb => absurd hb List.not_mem_nil)))).out.mono ?_
  rintro e v1 ⟨rfl, hP, hK⟩
  have hz_v1 := hK.size
  try simp only [World.size_alloc, World.size_setCell, World.size_drew, World.heap_drewN] at hz_v1
  have HN1 := Lib.hid (NowQ.call (NowQ.to HN0.out [] Keeps.au (fun b hb => absurd hb List.not_mem_nil) (fun q _ b hb => absurd hb List.not_mem_nil)) hP hK)
  clear hP hK
  go_wp2_with fail
  refine (CA2 _ (NowQ.pin (NowQ.to HN1.out [] Keeps.au (fun b hb => absurd hb List.not_mem_nil) (fun q _ b hb => absurd hb List.not_mem_nil)))).out.mono ?_
  rintro e v2 ⟨rfl, hP, hK⟩
  have hz_v2 := hK.size
  try simp only [World.size_alloc, World.size_setCell, World.size_drew, World.heap_drewN] at hz_v2
  have HN2 := Lib.hid (NowQ.call (NowQ.to HN1.out [] Keeps.au (fun b hb => absurd hb List.not_mem_nil) (fun q _ b hb => absurd hb List.not_mem_nil)) hP hK)
  clear hP hK
  go_wp2_with fail
  refine (CA3 _ (NowQ.pin (NowQ.to HN2.out [] Keeps.au (fun b hb => absurd hb List.not_mem_nil) (fun q _ b hb => absurd hb List.not_mem_nil)))).out.mono ?_
  rintro e v3 ⟨rfl, hP, hK⟩
  have hz_v3 := hK.size
  try simp only [World.size_alloc, World.size_setCell, World.size_drew, World.heap_drewN] at hz_v3
  have HN3 := Lib.hid (NowQ.call (NowQ.to HN2.out [] Keeps.au (fun b hb => absurd hb List.not_mem_nil) (fun q _ b hb => absurd hb List.not_mem_nil)) hP hK)
  clear hP hK
  go_wp2_with fail
  refine (CA4 _ (NowQ.pin (NowQ.to HN3.out [] Keeps.au (fun b hb => absurd hb List.not_mem_nil) (fun q _ b hb => absurd hb List.not_mem_nil)))).out.mono ?_
  rintro e v4 ⟨rfl, hP, hK⟩
  have hz_v4 := hK.size
  try simp only [World.size_alloc, World.size_setCell, World.size_drew, World.heap_drewN] at hz_v4
  have HN4 := Lib.hid (NowQ.call (NowQ.to HN3.out [] Keeps.au (fun b hb => absurd hb List.not_mem_nil) (fun q _ b hb => absurd hb List.not_mem_nil)) hP hK)
  clear hP hK
  go_wp2_with fail
  go_ret
  exact ⟨rfl, HN4.out.now.pin, HN4.out.now.kp⟩

theorem holding_step (c : Cx) (hc : c.Ok) (f : Nat) (GA : ∀ k, k ≤ f → GoodS c k) (d p : Int) (s : St) (R : Option (Sm × St)) (w : World) (q : Nat) (h0 : 0 ≤ d) (hd : d + (f + 1) ≤ 1000000000) (hq : OwnB w q #[.int .i64 0, .slice none 0 0, .slice none 0 0, .int .i64 0, .int .i64 0, .int .i64 0, .string ⟨#[]⟩, .int .i64 0, .int .i64 p] 82)
    (hn : q ≠ c.g ∧ q ≠ c.gt ∧ q ≠ c.mb ∧ q ≠ 2) (hR : P.holding c.l (P.recs c.l f) d s { sm0 with pos := p } = some R) (h : PIn w c s) : Calls Tryd.prog 77 #[pv c, .pointer (some ⟨q, 0, none⟩), .int .i64 d] w (DoesP c q { sm0 with pos := p } s R w) := by
  cases k0 : P.is c.l [105, 102] s with
  | true => exact holding_if_ c hc f GA d p s R w q h0 hd hq hn hR h k0
  | false =>
    cases k1 : P.is c.l [119, 104, 105, 108, 101] s with
    | true => exact holding_while_ c hc f GA d p s R w q h0 hd hq hn hR h k0 k1
    | false =>
      cases k2 : P.is c.l [115, 119, 105, 116, 99, 104] s with
      | true => exact holding_switch_ c hc f GA d p s R w q h0 hd hq hn hR h k0 k1 k2
      | false =>
        cases k3 : P.is c.l [102, 111, 114] s with
        | true => exact holding_for_ c hc f GA d p s R w q h0 hd hq hn hR h k0 k1 k2 k3
        | false =>
          cases k4 : P.is c.l [100, 111] s with
          | true => exact holding_do_ c hc f GA d p s R w q h0 hd hq hn hR h k0 k1 k2 k3 k4
          | false =>
            exact holding_none_ c hc f GA d p s R w q h0 hd hq hn hR h k0 k1 k2 k3 k4

end Go.Proofs.YtjmemapkipkocaaDoor
