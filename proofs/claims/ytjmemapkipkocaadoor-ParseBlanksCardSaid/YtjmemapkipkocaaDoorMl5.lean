/-
  'ParseBlanks' returns true for every list of texts, and the texts read as they did; the three tables tied to the program's text.
-/
import Derived.Test.YtjmemapkipkocaaDoorMl4
import Derived.Test.YtjmemapkipkocaaDoorProg
import Derived.LoopTactic
import Derived.RegionTactic
import Derived.Deep.QuietTactic
import Derived.BigQuiet
import Derived.BigGuard
import Derived.Outline
import Derived.Lib.Hide
import Derived.WalkSpells
import Derived.Shelf.LaysM
import Derived.Shelf.Strconv.Clone
import Derived.Shelf.Strings.Fields
import Derived.Shelf.Strings.SplitShaped
import Derived.Shelf.Unicode.Latin
import Derived.Shelf.Unicode.Is16White
import Derived.Shelf.Unicode.IsSpaceAny
import Derived.Shelf.Unicode.Is16Any
import Derived.Shelf.Unicode.Is32Any
import Derived.Shelf.Unicode.ExclAny
import Derived.Maps.OwnOps
import Derived.Maps.Views
import Derived.WideKeyArr
import Derived.Lib.BufferWrite
import Derived.Deep.WholeRow
import Derived.Lib.LaidTab
import Derived.Laws.OwnMore
import Derived.OwnWalk
import Derived.Lib.SmallJoins
import Derived.Deep.AppendLies
import Derived.Test.YtjmemapkipkocaaDoorChecked
import Derived.SliceStrings
import Derived.ProofKit
import Derived.Below
import Derived.WideShapes
import Derived.Deep.Strs
import Derived.WalkKit
import Derived.IntWalk
import Derived.Test.YtjmemapkipkocaaDoorRows
import Derived.Lib.LaidU8
import Derived.Lib.LaidIn
import Derived.LaidLaws
import Derived.Handed
import Derived.KernelRfl
import Derived.Laws.IdiomArrays
import Derived.OpenShut
import Derived.Test.YtjmemapkipkocaaDoorCards
import Derived.Test.YtjmemapkipkocaaDoorTie
import Derived.SevenTiedAt

/-
  Statements: 'if' with an else.
-/
namespace Go.Proofs.YtjmemapkipkocaaDoor
open Go.RowKit Go.Maps
set_option linter.unusedVariables false
set_option linter.unusedSimpArgs false
set_option maxRecDepth 100000
set_option maxHeartbeats 4000000

theorem holding_else_ (c : Cx) (hc : c.Ok) (f : Nat) (GA : ∀ k, k ≤ f → GoodS c k) (d p : Int) (s : St)  (w : World) (q : Nat) (h0 : 0 ≤ d) (hd : d + (f + 1) ≤ 1000000000) (hq : OwnB w q #[.int .i64 0, .slice none 0 0, .slice none 0 0, .int .i64 0, .int .i64 0, .int .i64 0, .string ⟨#[]⟩, .int .i64 0, .int .i64 p] 82)
    (hn : q ≠ c.g ∧ q ≠ c.gt ∧ q ≠ c.mb ∧ q ≠ 2) (h : PIn w c s) (k0 : P.is c.l [105, 102] s = true) (s1 : St) (hs1 : s1 = P.next c.l s) (A : Exs × St) (hA : P.asked c.l (P.recs c.l f) d s1 = some A) (B : Sts × St) (hB : P.body (P.recs c.l f) d A.2 = some B) (ke : P.is c.l [101, 108, 115, 101] B.2 = true) (D : Sm × St) (hD : (P.recs c.l f).stmt (d + 1) (P.next c.l B.2) = some D) : Calls Tryd.prog 77 #[pv c, .pointer (some ⟨q, 0, none⟩), .int .i64 d] w (DoesP c q { sm0 with pos := p } s (some (({ sm0 with op := 4, ex := A.1, body := B.1.snoc D.1, pos := p } : Sm), D.2)) w) := by
  have hqlt := lt_of_blk hq.blk
  have hq1 : q ≠ c.g := hn.1
  have HN := Lib.hid (NowQ.start h)
  have HS := Lib.hid (NowS.start h hqlt hn)
  have hg := HS.out.g
  have hgt := HS.out.gt
  obtain ⟨yq, xq, zq⟩ := hq.facts
  have hw : wrap64 (d + 1) = d + 1 := wrapJ (by omega) (by omega)
  have hw' : IntKind.i64.wrap (d + 1) = d + 1 := wrapI (by omega) (by omega)
  have CA0 := fun W H => Lib.hid (accept_any c hc s W H [105, 102])
  rw [k0, show P.acc c.l [105, 102] s = s1 by simp [P.acc, k0, hs1]] at CA0
  have CE := fun W H => Lib.hid (asked_step c hc f d s1 A W h0 hd hA H)
  have CB := fun W H => Lib.hid (body_step c hc f (GA f (Nat.le_refl _)) d A.2 B W h0 hd hB H)
  have CZ := fun W H => Lib.hid (accept_any c hc B.2 W H [101, 108, 115, 101])
  rw [ke, show P.acc c.l [101, 108, 115, 101] B.2 = P.next c.l B.2 by simp [P.acc, ke]] at CZ
  have CD := fun W H => Lib.hid ((GA f (Nat.le_refl _)).stmt (d + 1) (P.next c.l B.2) D W (by omega) (by omega) hD H)
  have HBB := Lib.hid hB
  clear h hA hB hs1 GA k0 ke hD
  unfold pv
  go_enter Tryd.func77, Tryd.ntmps77
  go_wp2_with fail
  refine (CA0 _ (NowS.pin (NowS.to HS.out [q] Keeps.au (by simp <;> omega) (by simp [kq, mq] <;> omega)))).out.mono ?_
  rintro e v0 ⟨rfl, hP, hK⟩
  have hz_v0 := hK.size
  try simp only [World.size_alloc, World.size_setCell, World.size_drew, World.heap_drewN] at hz_v0
  have O_v0_0 : OwnB v0 (q) #[.int .i64 0, .slice none 0 0, .slice none 0 0, .int .i64 0, .int .i64 0, .int .i64 0, .string ⟨#[]⟩, .int .i64 0, .int .i64 p] 82 := OwnB.call OwnB.au hK (by simp only [List.mem_singleton]; omega)
  obtain ⟨y_v0_0, x_v0_0, b_v0_0⟩ := O_v0_0.facts
  have HS0 := Lib.hid (NowS.call (NowS.to HS.out [q] Keeps.au (by simp <;> omega) (by simp [kq, mq] <;> omega)) hP hK)
  clear hP hK
  go_wp2_with fail
  refine (CE _ (NowS.pin (NowS.to HS0.out [q] Keeps.au (by simp <;> omega) (by simp [kq, mq] <;> omega)))).out.mono ?_
  rintro e x1 ⟨a1, n1, p1, rfl, hP, hK, hT⟩
  have hz_x1 := hK.size
  try simp only [World.size_alloc, World.size_setCell, World.size_drew, World.heap_drewN] at hz_x1
  have O_x1_0 : OwnB x1 (q) #[.int .i64 0, .slice none 0 0, .slice none 0 0, .int .i64 0, .int .i64 0, .int .i64 0, .string ⟨#[]⟩, .int .i64 0, .int .i64 p] 82 := OwnB.call OwnB.au hK (by simp only [List.mem_singleton]; omega)
  obtain ⟨y_x1_0, x_x1_0, b_x1_0⟩ := O_x1_0.facts
  have HSa := Lib.hid (NowS.callE (NowS.to HS0.out [q] Keeps.au (by simp <;> omega) (by simp [kq, mq] <;> omega)) hP hK hT)
  clear hP hK hT
  go_wp2_with fail
  refine (CB _ (NowS.pin (NowS.to HSa.out [q] Keeps.au (by simp <;> omega) (by simp [kq, mq] <;> omega)))).out.mono ?_
  rintro e x2 ⟨a2, n2, p2, rfl, hP, hK, hT⟩
  have hz_x2 := hK.size
  try simp only [World.size_alloc, World.size_setCell, World.size_drew, World.heap_drewN] at hz_x2
  have O_x2_0 : OwnB x2 (q) #[.int .i64 4, .slice a1 n1 p1, .slice none 0 0, .int .i64 0, .int .i64 0, .int .i64 0, .string ⟨#[]⟩, .int .i64 0, .int .i64 p] 82 := OwnB.call (by repeat (first | with_reducible apply OwnB.s9_0 | with_reducible apply OwnB.s9_1 | with_reducible apply OwnB.s9_2 | with_reducible apply OwnB.s9_3 | with_reducible apply OwnB.s9_4 | with_reducible apply OwnB.s9_5 | with_reducible apply OwnB.s9_6 | with_reducible apply OwnB.s9_7 | with_reducible apply OwnB.s9_8 | with_reducible assumption | (with_reducible refine OwnB.new ?_; (first | with_reducible rfl | (simp only [World.size_alloc, World.size_setCell, World.size_drew, World.heap_drewN]; done) | (simp only [World.size_alloc, World.size_setCell, World.size_drew, World.heap_drewN]; omega))) | with_reducible refine OwnB.alloc ?_ _ | with_reducible refine OwnB.drew ?_ | with_reducible refine OwnB.drewN ?_ _ | with_reducible refine OwnB.setCell ?_ _ _ ?_ | (dsimp only; omega) | omega)) hK (by simp only [List.mem_singleton]; omega)
  obtain ⟨y_x2_0, x_x2_0, b_x2_0⟩ := O_x2_0.facts
  have HSb := Lib.hid (NowS.callS (NowS.to HSa.out [q] Keeps.au (by simp <;> omega) (by simp [kq, mq] <;> omega)) hP hK hT)
  clear hP hK hT
  go_wp2_with fail
  refine (CZ _ (NowS.pin (NowS.to HSb.out [q] Keeps.au (by simp <;> omega) (by simp [kq, mq] <;> omega)))).out.mono ?_
  rintro e x3 ⟨rfl, hP, hK⟩
  have hz_x3 := hK.size
  try simp only [World.size_alloc, World.size_setCell, World.size_drew, World.heap_drewN] at hz_x3
  have O_x3_0 : OwnB x3 (q) #[.int .i64 4, .slice a1 n1 p1, .slice a2 n2 p2, .int .i64 0, .int .i64 0, .int .i64 0, .string ⟨#[]⟩, .int .i64 0, .int .i64 p] 82 := OwnB.call (by repeat (first | with_reducible apply OwnB.s9_0 | with_reducible apply OwnB.s9_1 | with_reducible apply OwnB.s9_2 | with_reducible apply OwnB.s9_3 | with_reducible apply OwnB.s9_4 | with_reducible apply OwnB.s9_5 | with_reducible apply OwnB.s9_6 | with_reducible apply OwnB.s9_7 | with_reducible apply OwnB.s9_8 | with_reducible assumption | (with_reducible refine OwnB.new ?_; (first | with_reducible rfl | (simp only [World.size_alloc, World.size_setCell, World.size_drew, World.heap_drewN]; done) | (simp only [World.size_alloc, World.size_setCell, World.size_drew, World.heap_drewN]; omega))) | with_reducible refine OwnB.alloc ?_ _ | with_reducible refine OwnB.drew ?_ | with_reducible refine OwnB.drewN ?_ _ | with_reducible refine OwnB.setCell ?_ _ _ ?_ | (dsimp only; omega) | omega)) hK (by simp only [List.mem_singleton]; omega)
  obtain ⟨y_x3_0, x_x3_0, b_x3_0⟩ := O_x3_0.facts
  have HSc := Lib.hid (NowS.call (NowS.to HSb.out [q] Keeps.au (by simp <;> omega) (by simp [kq, mq] <;> omega)) hP hK)
  clear hP hK
  go_wp2_with fail
  have hq2 := HSc.out.q1
  have hlen1 : B.1.len = 1 := by
    unfold P.body at HBB
    obtain ⟨b0, _, hb0⟩ := Option.bind_eq_some_iff.1 HBB.out
    rw [← Option.some.inj hb0]
    rfl
  have hn2 : n2 = 1 := by
    obtain ⟨_, _, _, Fe, F, _, hr, _⟩ := HSc.out.q0
    rw [hr.len, hlen1]
  subst hn2
  have hu2 : x2.heap.size ≤ x3.heap.size := hz_x3
  clear hq2
  refine wpTo_start (fun w' => OwnB w' (q) #[.int .i64 4, .slice a1 n1 p1, .slice a2 1 p2, .int .i64 0, .int .i64 0, .int .i64 0, .string ⟨#[]⟩, .int .i64 0, .int .i64 p] 82) 15 (by kernel_rfl) OwnB.au (fun hHeld => ?_)
  refine wpTo_take 0 (v := ?_) (by kernel_rfl) (by kernel_rfl) rfl (by kernel_rfl) (by kernel_rfl) rfl (fun _ _ _ h => h) (Or.inl ⟨by rfl, ?_⟩) hHeld ?_
  rotate_left
  · (intro w' hSw; obtain ⟨ya0, yb0, yc0⟩ := hSw.facts; go_simp; try with_reducible rfl)
  try simp only [Act.put, List.setIfInBounds_toArray, List.set_cons_zero, List.set_cons_succ]
  refine wpTo_take 1 (v := ?_) (by kernel_rfl) (by kernel_rfl) rfl (by kernel_rfl) (by kernel_rfl) rfl (fun _ _ _ h => h) (Or.inl ⟨by rfl, ?_⟩) hHeld ?_
  rotate_left
  · (intro w' hSw; obtain ⟨ya0, yb0, yc0⟩ := hSw.facts; go_simp; try with_reducible rfl)
  try simp only [Act.put, List.setIfInBounds_toArray, List.set_cons_zero, List.set_cons_succ]
  refine wpTo_take 2 (v := ?_) (by kernel_rfl) (by kernel_rfl) rfl (by kernel_rfl) (by kernel_rfl) rfl (fun _ _ _ h => h) (Or.inl ⟨by rfl, ?_⟩) hHeld ?_
  rotate_left
  · (intro w' hSw; obtain ⟨ya0, yb0, yc0⟩ := hSw.facts; go_simp; try with_reducible rfl)
  try simp only [Act.put, List.setIfInBounds_toArray, List.set_cons_zero, List.set_cons_succ]
  refine wpTo_take 3 (v := ?_) (by kernel_rfl) (by kernel_rfl) rfl (by kernel_rfl) (by kernel_rfl) rfl (fun _ _ _ h => h) (Or.inl ⟨by rfl, ?_⟩) hHeld ?_
  rotate_left
  · (intro w' hSw; obtain ⟨ya0, yb0, yc0⟩ := hSw.facts; go_simp; try with_reducible rfl)
  try simp only [Act.put, List.setIfInBounds_toArray, List.set_cons_zero, List.set_cons_succ]
  refine wpTo_take 4 (v := ?_) (by kernel_rfl) (by kernel_rfl) rfl (by kernel_rfl) (by kernel_rfl) rfl (fun _ _ _ h => h) (Or.inl ⟨by rfl, ?_⟩) hHeld ?_
  rotate_left
  · (intro w' hSw; obtain ⟨ya0, yb0, yc0⟩ := hSw.facts; go_simp; try with_reducible rfl)
  try simp only [Act.put, List.setIfInBounds_toArray, List.set_cons_zero, List.set_cons_succ]
  refine wpTo_take 5 (v := ?_) (by kernel_rfl) (by kernel_rfl) rfl (by kernel_rfl) (by kernel_rfl) rfl (fun _ _ _ h => h) (Or.inl ⟨by rfl, ?_⟩) hHeld ?_
  rotate_left
  · (intro w' hSw; obtain ⟨ya0, yb0, yc0⟩ := hSw.facts; go_simp; try with_reducible rfl)
  try simp only [Act.put, List.setIfInBounds_toArray, List.set_cons_zero, List.set_cons_succ]
  refine wpTo_take 6 (v := ?_) (by kernel_rfl) (by kernel_rfl) rfl (by kernel_rfl) (by kernel_rfl) rfl (fun _ _ _ h => h) (Or.inl ⟨by rfl, ?_⟩) hHeld ?_
  rotate_left
  · (intro w' hSw; obtain ⟨ya0, yb0, yc0⟩ := hSw.facts; go_simp; try with_reducible rfl)
  try simp only [Act.put, List.setIfInBounds_toArray, List.set_cons_zero, List.set_cons_succ]
  refine wpTo_take 8 (v := ?_) (by kernel_rfl) (by kernel_rfl) rfl (by kernel_rfl) (by kernel_rfl) rfl (fun _ _ _ h => h) (Or.inl ⟨by rfl, ?_⟩) hHeld ?_
  rotate_left
  · (intro w' hSw; obtain ⟨ya0, yb0, yc0⟩ := hSw.facts; go_simp; try with_reducible rfl)
  try simp only [Act.put, List.setIfInBounds_toArray, List.set_cons_zero, List.set_cons_succ]
  refine wpTo_two 7 9 (by kernel_rfl) rfl rfl (fun K hKo => ?_) (fun K hKo => ?_)
  · go_simp
    go_at_call 68
    refine (CD _ (NowS.pin (NowS.to HSc.out [q] Keeps.au (by simp <;> omega) (by simp [kq, mq] <;> omega)))).out.mono ?_
    rintro e x4 ⟨a3, n3, p3, b3, m3, r3, rfl, hP, hKk, hT⟩
    have hz_x4 := hKk.size
    try simp only [World.size_alloc, World.size_setCell, World.size_drew, World.heap_drewN] at hz_x4
    have O_x4_0 : OwnB x4 q #[.int .i64 4, .slice a1 n1 p1, .slice a2 1 p2, .int .i64 0, .int .i64 0, .int .i64 0, .string ⟨#[]⟩, .int .i64 0, .int .i64 p] 82 := OwnB.call OwnB.au hKk (by simp only [List.mem_singleton]; omega)
    obtain ⟨y_x4_0, x_x4_0, b_x4_0⟩ := O_x4_0.facts
    have HSd := Lib.hid (NowS.callS (NowS.to HSc.out [q] Keeps.au (by simp <;> omega) (by simp [kq, mq] <;> omega)) hP hKk hT)
    clear hP hKk hT
    go_wp2_with fail
    refine Shut.out hKo _ _ (fun _ _ => OwnB.au) ?_
    clear hKo K
    try simp only [Act.put, List.setIfInBounds_toArray, List.set_cons_zero, List.set_cons_succ]
    refine wpTo_one 9 (by kernel_rfl) rfl (fun K hKo => ?_)
    go_simp
    refine Shut.out hKo _ _ (fun _ _ => OwnB.au) ?_
    clear hKo K
    try simp only [Act.put, List.setIfInBounds_toArray, List.set_cons_zero, List.set_cons_succ]
    refine wpTo_one 10 (by kernel_rfl) rfl (fun K hKo => ?_)
    refine step_appendZ rfl _ _ rfl rfl rfl (NowS.to HSd.out [] Keeps.au (fun b hb => absurd hb List.not_mem_nil) (fun q _ b hb => absurd hb List.not_mem_nil)) OwnB.au (by (try simp only [World.size_alloc, World.size_setCell, World.size_drew, World.heap_drewN]); omega) (by omega) ?_
    intro g cap' x5 ks F0 hZ hg hgw hk5 hz5 hot hbad
    clear hbad
    have c5_0 : x5.cell? ⟨g, 9, none⟩ = some (.int .i64 0) := hZ.cells hlen1 0 (by decide)
    have c5_1 : x5.cell? ⟨g, 10, none⟩ = some (.slice none 0 0) := hZ.cells hlen1 1 (by decide)
    have c5_2 : x5.cell? ⟨g, 11, none⟩ = some (.slice none 0 0) := hZ.cells hlen1 2 (by decide)
    have c5_3 : x5.cell? ⟨g, 12, none⟩ = some (.int .i64 0) := hZ.cells hlen1 3 (by decide)
    have c5_4 : x5.cell? ⟨g, 13, none⟩ = some (.int .i64 0) := hZ.cells hlen1 4 (by decide)
    have c5_5 : x5.cell? ⟨g, 14, none⟩ = some (.int .i64 0) := hZ.cells hlen1 5 (by decide)
    have c5_6 : x5.cell? ⟨g, 15, none⟩ = some (.string ⟨#[]⟩) := hZ.cells hlen1 6 (by decide)
    have c5_7 : x5.cell? ⟨g, 16, none⟩ = some (.int .i64 0) := hZ.cells hlen1 7 (by decide)
    have c5_8 : x5.cell? ⟨g, 17, none⟩ = some (.int .i64 0) := hZ.cells hlen1 8 (by decide)
    have fz5 := fun j => World.ownsRow.frozenAt hZ.own j
    have hl5 := HSd.out.q1.1
    simp only [mq, World.size_alloc, World.size_setCell] at hl5
    try simp only [World.size_alloc, World.size_setCell, World.size_drew, World.heap_drewN] at hz5 hg
    have O5 : OwnB x5 q #[.int .i64 4, .slice a1 n1 p1, .slice a2 1 p2, .int .i64 0, .int .i64 0, .int .i64 0, .string ⟨#[]⟩, .int .i64 0, .int .i64 p] 82 := OwnB.kept OwnB.au (hk5 q (by (try simp only [World.size_alloc, World.size_setCell, World.size_drew, World.heap_drewN]); omega) (.inl (by (try simp only [World.size_alloc, World.size_setCell, World.size_drew, World.heap_drewN]); omega)))
    obtain ⟨y5, z5, b5⟩ := O5.facts
    have ng1 : ¬ g = q := by omega
    have ng2 : ¬ q = g := by omega
    have H5 := Lib.hid (And.intro hZ (And.intro hg (And.intro hk5 (And.intro hz5 hot))))
    clear hZ hg hk5 hot
    refine Shut.out hKo _ _ (fun _ _ => OwnB.au) ?_
    clear hKo K
    try simp only [Act.put, List.setIfInBounds_toArray, List.set_cons_zero, List.set_cons_succ]
    refine wpTo_takeE 11 (v := ?_) (by kernel_rfl) rfl (by kernel_rfl) (by kernel_rfl) rfl (fun _ _ _ h => h) (Or.inl ⟨by rfl, ?_⟩) (fun _ => OwnB.au) ?_
    rotate_left
    · (intro w' hSw; go_simp; try with_reducible rfl)
    try simp only [Act.put, List.setIfInBounds_toArray, List.set_cons_zero, List.set_cons_succ]
    refine wpTo_takeE 13 (v := ?_) (by kernel_rfl) rfl (by kernel_rfl) (by kernel_rfl) rfl (fun _ _ _ h => h) (Or.inl ⟨by rfl, ?_⟩) (fun _ => OwnB.au) ?_
    rotate_left
    · (intro w' hSw; go_simp; try with_reducible rfl)
    try simp only [Act.put, List.setIfInBounds_toArray, List.set_cons_zero, List.set_cons_succ]
    refine wpTo_takeE 14 (v := ?_) (by kernel_rfl) rfl (by kernel_rfl) (by kernel_rfl) rfl (fun _ _ _ h => h) (Or.inl ⟨by rfl, ?_⟩) (fun _ => OwnB.au) ?_
    rotate_left
    · (intro w' hSw; go_simp; try with_reducible rfl)
    try simp only [Act.put, List.setIfInBounds_toArray, List.set_cons_zero, List.set_cons_succ]
    refine wpTo_two 12 15 (by kernel_rfl) rfl rfl (fun K hKo => ?_) (fun K hKo => ?_)
    · go_simp
      refine Shut.out hKo _ _ (fun _ _ => OwnB.au) ?_
      clear hKo K
      try simp only [Act.put, List.setIfInBounds_toArray, List.set_cons_zero, List.set_cons_succ]
      refine wpTo_one 15 (by kernel_rfl) rfl (fun K hKo => ?_)
      go_simp
      refine Shut.out hKo _ _ (fun h _ => absurd rfl h) ?_
      clear hKo K
      try simp only [Act.put, List.setIfInBounds_toArray, List.set_cons_zero, List.set_cons_succ]
      refine wpTo_done (by kernel_rfl) ?_ _
      go_wp2_with fail
      go_ret
      exact NowS.finElse (NowS.to HSd.out [] Keeps.au (fun b hb => absurd hb List.not_mem_nil) (fun q _ b hb => absurd hb List.not_mem_nil)) H5.out.1 (by have h5 := H5.out.2.1; (try simp only [World.size_alloc, World.size_setCell, World.size_drew, World.heap_drewN]); omega) H5.out.2.2.1 (by have h5 := H5.out.2.2.2.1; (try simp only [World.size_alloc, World.size_setCell, World.size_drew, World.heap_drewN]); omega) H5.out.2.2.2.2 hgw hlen1 O5 (by refine ⟨?_, ?_, ?_, ?_, ?_⟩ <;> (try simp only [World.size_alloc, World.size_setCell, World.size_drew, World.heap_drewN]) <;> omega)
    · go_simp
      refine Shut.out hKo _ _ (fun h _ => absurd rfl h) ?_
      clear hKo K
      try simp only [Act.put, List.setIfInBounds_toArray, List.set_cons_zero, List.set_cons_succ]
      refine wpTo_one 12 (by kernel_rfl) rfl (fun K hKo => ?_)
      go_simp
      refine Shut.out hKo _ _ (fun _ h => absurd h (by decide)) ?_
      clear hKo K
      try simp only [Act.put, List.setIfInBounds_toArray, List.set_cons_zero, List.set_cons_succ]
      refine wpTo_done (by kernel_rfl) ?_ _
      go_wp2_with fail
      go_ret
      rw [setCell_comm _ ⟨q, 2, none⟩ ⟨g, 9, none⟩ _ _ ng2]
      rw [setCell_comm _ ⟨q, 2, none⟩ ⟨g, 10, none⟩ _ _ ng2]
      rw [setCell_comm _ ⟨q, 2, none⟩ ⟨g, 11, none⟩ _ _ ng2]
      rw [setCell_comm _ ⟨q, 2, none⟩ ⟨g, 12, none⟩ _ _ ng2]
      rw [setCell_comm _ ⟨q, 2, none⟩ ⟨g, 13, none⟩ _ _ ng2]
      rw [setCell_comm _ ⟨q, 2, none⟩ ⟨g, 14, none⟩ _ _ ng2]
      rw [setCell_comm _ ⟨q, 2, none⟩ ⟨g, 15, none⟩ _ _ ng2]
      rw [setCell_comm _ ⟨q, 2, none⟩ ⟨g, 16, none⟩ _ _ ng2]
      rw [setCell_comm _ ⟨q, 2, none⟩ ⟨g, 17, none⟩ _ _ ng2]
      exact NowS.finElse (NowS.to HSd.out [] Keeps.au (fun b hb => absurd hb List.not_mem_nil) (fun q _ b hb => absurd hb List.not_mem_nil)) H5.out.1 (by have h5 := H5.out.2.1; (try simp only [World.size_alloc, World.size_setCell, World.size_drew, World.heap_drewN]); omega) H5.out.2.2.1 (by have h5 := H5.out.2.2.2.1; (try simp only [World.size_alloc, World.size_setCell, World.size_drew, World.heap_drewN]); omega) H5.out.2.2.2.2 hgw hlen1 O5 (by refine ⟨?_, ?_, ?_, ?_, ?_⟩ <;> (try simp only [World.size_alloc, World.size_setCell, World.size_drew, World.heap_drewN]) <;> omega)
  · go_simp
    refine Shut.out hKo _ _ (fun _ _ => OwnB.au) ?_
    clear hKo K
    try simp only [Act.put, List.setIfInBounds_toArray, List.set_cons_zero, List.set_cons_succ]
    refine wpTo_one 7 (by kernel_rfl) rfl (fun K hKo => ?_)
    go_simp
    go_at_call 68
    refine (CD _ (NowS.pin (NowS.to HSc.out [q] Keeps.au (by simp <;> omega) (by simp [kq, mq] <;> omega)))).out.mono ?_
    rintro e x4 ⟨a3, n3, p3, b3, m3, r3, rfl, hP, hKk, hT⟩
    have hz_x4 := hKk.size
    try simp only [World.size_alloc, World.size_setCell, World.size_drew, World.heap_drewN] at hz_x4
    have O_x4_0 : OwnB x4 q #[.int .i64 4, .slice a1 n1 p1, .slice a2 1 p2, .int .i64 0, .int .i64 0, .int .i64 0, .string ⟨#[]⟩, .int .i64 0, .int .i64 p] 82 := OwnB.call OwnB.au hKk (by simp only [List.mem_singleton]; omega)
    obtain ⟨y_x4_0, x_x4_0, b_x4_0⟩ := O_x4_0.facts
    have O_x4_z : OwnB x4 x3.heap.size #[.int .i64 0, .slice none 0 0, .slice none 0 0, .int .i64 0, .int .i64 0, .int .i64 0, .string ⟨#[]⟩, .int .i64 0, .int .i64 0] 82 := OwnB.call OwnB.au hKk (by simp only [List.mem_singleton]; omega)
    have HSd := Lib.hid (NowS.callS (NowS.to HSc.out [q] Keeps.au (by simp <;> omega) (by simp [kq, mq] <;> omega)) hP hKk hT)
    clear hP hKk hT
    go_wp2_with fail
    refine Shut.out hKo _ _ (fun _ _ => OwnB.au) ?_
    clear hKo K
    try simp only [Act.put, List.setIfInBounds_toArray, List.set_cons_zero, List.set_cons_succ]
    refine wpTo_one 10 (by kernel_rfl) rfl (fun K hKo => ?_)
    refine step_appendZ rfl _ _ rfl rfl rfl (NowS.to HSd.out [] Keeps.au (fun b hb => absurd hb List.not_mem_nil) (fun q _ b hb => absurd hb List.not_mem_nil)) OwnB.au (by (try simp only [World.size_alloc, World.size_setCell, World.size_drew, World.heap_drewN]); omega) (by omega) ?_
    intro g cap' x5 ks F0 hZ hg hgw hk5 hz5 hot hbad
    clear hbad
    have c5_0 : x5.cell? ⟨g, 9, none⟩ = some (.int .i64 0) := hZ.cells hlen1 0 (by decide)
    have c5_1 : x5.cell? ⟨g, 10, none⟩ = some (.slice none 0 0) := hZ.cells hlen1 1 (by decide)
    have c5_2 : x5.cell? ⟨g, 11, none⟩ = some (.slice none 0 0) := hZ.cells hlen1 2 (by decide)
    have c5_3 : x5.cell? ⟨g, 12, none⟩ = some (.int .i64 0) := hZ.cells hlen1 3 (by decide)
    have c5_4 : x5.cell? ⟨g, 13, none⟩ = some (.int .i64 0) := hZ.cells hlen1 4 (by decide)
    have c5_5 : x5.cell? ⟨g, 14, none⟩ = some (.int .i64 0) := hZ.cells hlen1 5 (by decide)
    have c5_6 : x5.cell? ⟨g, 15, none⟩ = some (.string ⟨#[]⟩) := hZ.cells hlen1 6 (by decide)
    have c5_7 : x5.cell? ⟨g, 16, none⟩ = some (.int .i64 0) := hZ.cells hlen1 7 (by decide)
    have c5_8 : x5.cell? ⟨g, 17, none⟩ = some (.int .i64 0) := hZ.cells hlen1 8 (by decide)
    have fz5 := fun j => World.ownsRow.frozenAt hZ.own j
    have hl5 := HSd.out.q1.1
    simp only [mq, World.size_alloc, World.size_setCell] at hl5
    try simp only [World.size_alloc, World.size_setCell, World.size_drew, World.heap_drewN] at hz5 hg
    have O5 : OwnB x5 q #[.int .i64 4, .slice a1 n1 p1, .slice a2 1 p2, .int .i64 0, .int .i64 0, .int .i64 0, .string ⟨#[]⟩, .int .i64 0, .int .i64 p] 82 := OwnB.kept OwnB.au (hk5 q (by (try simp only [World.size_alloc, World.size_setCell, World.size_drew, World.heap_drewN]); omega) (.inl (by (try simp only [World.size_alloc, World.size_setCell, World.size_drew, World.heap_drewN]); omega)))
    obtain ⟨y5, z5, b5⟩ := O5.facts
    have ng1 : ¬ g = q := by omega
    have ng2 : ¬ q = g := by omega
    have H5 := Lib.hid (And.intro hZ (And.intro hg (And.intro hk5 (And.intro hz5 hot))))
    clear hZ hg hk5 hot
    refine Shut.out hKo _ _ (fun _ _ => OwnB.au) ?_
    clear hKo K
    try simp only [Act.put, List.setIfInBounds_toArray, List.set_cons_zero, List.set_cons_succ]
    refine wpTo_takeE 11 (v := ?_) (by kernel_rfl) rfl (by kernel_rfl) (by kernel_rfl) rfl (fun _ _ _ h => h) (Or.inl ⟨by rfl, ?_⟩) (fun _ => OwnB.au) ?_
    rotate_left
    · (intro w' hSw; go_simp; try with_reducible rfl)
    try simp only [Act.put, List.setIfInBounds_toArray, List.set_cons_zero, List.set_cons_succ]
    refine wpTo_takeE 13 (v := ?_) (by kernel_rfl) rfl (by kernel_rfl) (by kernel_rfl) rfl (fun _ _ _ h => h) (Or.inl ⟨by rfl, ?_⟩) (fun _ => OwnB.au) ?_
    rotate_left
    · (intro w' hSw; go_simp; try with_reducible rfl)
    try simp only [Act.put, List.setIfInBounds_toArray, List.set_cons_zero, List.set_cons_succ]
    refine wpTo_takeE 14 (v := ?_) (by kernel_rfl) rfl (by kernel_rfl) (by kernel_rfl) rfl (fun _ _ _ h => h) (Or.inl ⟨by rfl, ?_⟩) (fun _ => OwnB.au) ?_
    rotate_left
    · (intro w' hSw; go_simp; try with_reducible rfl)
    try simp only [Act.put, List.setIfInBounds_toArray, List.set_cons_zero, List.set_cons_succ]
    refine wpTo_two 12 15 (by kernel_rfl) rfl rfl (fun K hKo => ?_) (fun K hKo => ?_)
    · go_simp
      refine Shut.out hKo _ _ (fun _ _ => OwnB.au) ?_
      clear hKo K
      try simp only [Act.put, List.setIfInBounds_toArray, List.set_cons_zero, List.set_cons_succ]
      refine wpTo_one 15 (by kernel_rfl) rfl (fun K hKo => ?_)
      go_simp
      refine Shut.out hKo _ _ (fun h _ => absurd rfl h) ?_
      clear hKo K
      try simp only [Act.put, List.setIfInBounds_toArray, List.set_cons_zero, List.set_cons_succ]
      refine wpTo_done (by kernel_rfl) ?_ _
      go_wp2_with fail
      go_ret
      exact NowS.finElse (NowS.to HSd.out [] Keeps.au (fun b hb => absurd hb List.not_mem_nil) (fun q _ b hb => absurd hb List.not_mem_nil)) H5.out.1 (by have h5 := H5.out.2.1; (try simp only [World.size_alloc, World.size_setCell, World.size_drew, World.heap_drewN]); omega) H5.out.2.2.1 (by have h5 := H5.out.2.2.2.1; (try simp only [World.size_alloc, World.size_setCell, World.size_drew, World.heap_drewN]); omega) H5.out.2.2.2.2 hgw hlen1 O5 (by refine ⟨?_, ?_, ?_, ?_, ?_⟩ <;> (try simp only [World.size_alloc, World.size_setCell, World.size_drew, World.heap_drewN]) <;> omega)
    · go_simp
      refine Shut.out hKo _ _ (fun h _ => absurd rfl h) ?_
      clear hKo K
      try simp only [Act.put, List.setIfInBounds_toArray, List.set_cons_zero, List.set_cons_succ]
      refine wpTo_one 12 (by kernel_rfl) rfl (fun K hKo => ?_)
      go_simp
      refine Shut.out hKo _ _ (fun _ h => absurd h (by decide)) ?_
      clear hKo K
      try simp only [Act.put, List.setIfInBounds_toArray, List.set_cons_zero, List.set_cons_succ]
      refine wpTo_done (by kernel_rfl) ?_ _
      go_wp2_with fail
      go_ret
      rw [setCell_comm _ ⟨q, 2, none⟩ ⟨g, 9, none⟩ _ _ ng2]
      rw [setCell_comm _ ⟨q, 2, none⟩ ⟨g, 10, none⟩ _ _ ng2]
      rw [setCell_comm _ ⟨q, 2, none⟩ ⟨g, 11, none⟩ _ _ ng2]
      rw [setCell_comm _ ⟨q, 2, none⟩ ⟨g, 12, none⟩ _ _ ng2]
      rw [setCell_comm _ ⟨q, 2, none⟩ ⟨g, 13, none⟩ _ _ ng2]
      rw [setCell_comm _ ⟨q, 2, none⟩ ⟨g, 14, none⟩ _ _ ng2]
      rw [setCell_comm _ ⟨q, 2, none⟩ ⟨g, 15, none⟩ _ _ ng2]
      rw [setCell_comm _ ⟨q, 2, none⟩ ⟨g, 16, none⟩ _ _ ng2]
      rw [setCell_comm _ ⟨q, 2, none⟩ ⟨g, 17, none⟩ _ _ ng2]
      exact NowS.finElse (NowS.to HSd.out [] Keeps.au (fun b hb => absurd hb List.not_mem_nil) (fun q _ b hb => absurd hb List.not_mem_nil)) H5.out.1 (by have h5 := H5.out.2.1; (try simp only [World.size_alloc, World.size_setCell, World.size_drew, World.heap_drewN]); omega) H5.out.2.2.1 (by have h5 := H5.out.2.2.2.1; (try simp only [World.size_alloc, World.size_setCell, World.size_drew, World.heap_drewN]); omega) H5.out.2.2.2.2 hgw hlen1 O5 (by refine ⟨?_, ?_, ?_, ?_, ?_⟩ <;> (try simp only [World.size_alloc, World.size_setCell, World.size_drew, World.heap_drewN]) <;> omega)
end Go.Proofs.YtjmemapkipkocaaDoor

/-
  Statements: 'holding'.
-/
namespace Go.Proofs.YtjmemapkipkocaaDoor
open Go.RowKit Go.Maps
set_option linter.unusedVariables false
set_option linter.unusedSimpArgs false
set_option maxRecDepth 100000
set_option maxHeartbeats 4000000

theorem NowS.finBoth {c : Cx} {q : Nat} {w W : World} {L : List KQ} {m : Sm} {s : St} {R : Sm × St} {a a' : Option Addr} {n cp n' cp' lo hi lo2 hi2 : Nat} {X X2 : List Nat} {ev2 : Value}
    (h : NowS c q w R.2 (mq lo2 hi2 X2 .nil ev2 R.1.body (.slice a' n' cp') :: kq lo hi X R.1.ex (.slice a n cp) :: L) W) (hb : OwnB W q #[.int .i64 R.1.op, .slice a n cp, .slice a' n' cp', .int .i64 R.1.ty.kind, .int .i64 R.1.ty.ptr, .int .i64 R.1.ty.len, .string ⟨R.1.nm.toArray⟩, .int .i64 R.1.n, .int .i64 R.1.pos] 82) (hd : hi ≤ lo2) : DoesP c q m s (some R) w (.returned (.bool true)) W :=
  ⟨a, n, cp, a', n', cp', rfl, h.pin, h.kp, hb, MIn.both (bv2 := .nilFunc) h.q1.2.2 h.q0.2.2 (.inl hd) ⟨h.q1.1, h.q0.1⟩ ⟨h.q1.2.1, h.q0.2.1, Nat.le_refl _⟩⟩
theorem NowS.finBoth' {c : Cx} {q : Nat} {w W : World} {L : List KQ} {m : Sm} {s : St} {R : Sm × St} {a a' : Option Addr} {n cp n' cp' lo hi lo2 hi2 : Nat} {X X2 : List Nat} {ev2 : Value}
    (h : NowS c q w R.2 (kq lo hi X R.1.ex (.slice a n cp) :: mq lo2 hi2 X2 .nil ev2 R.1.body (.slice a' n' cp') :: L) W) (hb : OwnB W q #[.int .i64 R.1.op, .slice a n cp, .slice a' n' cp', .int .i64 R.1.ty.kind, .int .i64 R.1.ty.ptr, .int .i64 R.1.ty.len, .string ⟨R.1.nm.toArray⟩, .int .i64 R.1.n, .int .i64 R.1.pos] 82) (hd : hi2 ≤ lo) : DoesP c q m s (some R) w (.returned (.bool true)) W :=
  ⟨a, n, cp, a', n', cp', rfl, h.pin, h.kp, hb, MIn.both (bv2 := .nilFunc) h.q0.2.2 h.q1.2.2 (.inr hd) ⟨h.q0.1, h.q1.1⟩ ⟨h.q0.2.1, h.q1.2.1, Nat.le_refl _⟩⟩

theorem holding_while_ (c : Cx) (hc : c.Ok) (f : Nat) (GA : ∀ k, k ≤ f → GoodS c k) (d p : Int) (s : St) (R : Option (Sm × St)) (w : World) (q : Nat) (h0 : 0 ≤ d) (hd : d + (f + 1) ≤ 1000000000) (hq : OwnB w q #[.int .i64 0, .slice none 0 0, .slice none 0 0, .int .i64 0, .int .i64 0, .int .i64 0, .string ⟨#[]⟩, .int .i64 0, .int .i64 p] 82)
    (hn : q ≠ c.g ∧ q ≠ c.gt ∧ q ≠ c.mb ∧ q ≠ 2) (hR : P.holding c.l (P.recs c.l f) d s { sm0 with pos := p } = some R) (h : PIn w c s) (k0 : P.is c.l [105, 102] s = false) (k1 : P.is c.l [119, 104, 105, 108, 101] s = true) : Calls Tryd.prog 77 #[pv c, .pointer (some ⟨q, 0, none⟩), .int .i64 d] w (DoesP c q { sm0 with pos := p } s R w) := by
  have hqlt := lt_of_blk hq.blk
  have hq1 : q ≠ c.g := hn.1
  have HN := Lib.hid (NowQ.start h)
  have HS := Lib.hid (NowS.start h hqlt hn)
  have hg := HS.out.g
  have hgt := HS.out.gt
  obtain ⟨yq, xq, zq⟩ := hq.facts
  have hw : wrap64 (d + 1) = d + 1 := wrapJ (by omega) (by omega)
  have hw' : IntKind.i64.wrap (d + 1) = d + 1 := wrapI (by omega) (by omega)
  unfold P.holding at hR
  have CA0 := fun W H => Lib.hid (accept_any c hc s W H [105, 102])
  rw [k0, show P.acc c.l [105, 102] s = s by simp [P.acc, k0]] at CA0
  rw [k0, if_neg (by simp)] at hR
  obtain ⟨s1, hs1⟩ : ∃ s1, s1 = P.next c.l s := ⟨_, rfl⟩
  have CA1 := fun W H => Lib.hid (accept_any c hc s W H [119, 104, 105, 108, 101])
  rw [k1, show P.acc c.l [119, 104, 105, 108, 101] s = s1 by simp [P.acc, k1, hs1]] at CA1
  rw [k1, if_pos rfl, ← hs1] at hR
  obtain ⟨V, hV, hR⟩ : ∃ V, P.whileS c.l (P.recs c.l f) 5 d s1 { sm0 with pos := p } = some V ∧ some V = R := by
    cases hx : P.whileS c.l (P.recs c.l f) 5 d s1 { sm0 with pos := p } with
    | none => rw [hx] at hR; cases hR
    | some V => rw [hx] at hR; exact ⟨V, rfl, Option.some.inj hR⟩
  obtain rfl := hR
  unfold P.whileS at hV
  obtain ⟨A, hA, hV⟩ := Option.bind_eq_some_iff.1 hV
  obtain ⟨B, hB, hV⟩ := Option.bind_eq_some_iff.1 hV
  obtain rfl := Option.some.inj hV
  have CE := fun W H => Lib.hid (asked_step c hc f d s1 A W h0 hd hA H)
  have CB := fun W H => Lib.hid (body_step c hc f (GA f (Nat.le_refl _)) d A.2 B W h0 hd hB H)
  clear h hV hA hB hs1 GA k0 k1
  unfold pv
  go_enter Tryd.func77, Tryd.ntmps77
  go_wp2_with fail
  refine (CA0 _ (NowS.pin (NowS.to HS.out [q] Keeps.au (by simp <;> omega) (by simp [kq, mq] <;> omega)))).out.mono ?_
  rintro e v0 ⟨rfl, hP, hK⟩
  have hz_v0 := hK.size
  try simp only [World.size_alloc, World.size_setCell, World.size_drew, World.heap_drewN] at hz_v0
  have O_v0_0 : OwnB v0 (q) #[.int .i64 0, .slice none 0 0, .slice none 0 0, .int .i64 0, .int .i64 0, .int .i64 0, .string ⟨#[]⟩, .int .i64 0, .int .i64 p] 82 := OwnB.call OwnB.au hK (by simp only [List.mem_singleton]; omega)
  obtain ⟨y_v0_0, x_v0_0, b_v0_0⟩ := O_v0_0.facts
  have HS0 := Lib.hid (NowS.call (NowS.to HS.out [q] Keeps.au (by simp <;> omega) (by simp [kq, mq] <;> omega)) hP hK)
  clear hP hK
  go_wp2_with fail
  refine (CA1 _ (NowS.pin (NowS.to HS0.out [q] Keeps.au (by simp <;> omega) (by simp [kq, mq] <;> omega)))).out.mono ?_
  rintro e v1 ⟨rfl, hP, hK⟩
  have hz_v1 := hK.size
  try simp only [World.size_alloc, World.size_setCell, World.size_drew, World.heap_drewN] at hz_v1
  have O_v1_0 : OwnB v1 (q) #[.int .i64 0, .slice none 0 0, .slice none 0 0, .int .i64 0, .int .i64 0, .int .i64 0, .string ⟨#[]⟩, .int .i64 0, .int .i64 p] 82 := OwnB.call OwnB.au hK (by simp only [List.mem_singleton]; omega)
  obtain ⟨y_v1_0, x_v1_0, b_v1_0⟩ := O_v1_0.facts
  have HS1 := Lib.hid (NowS.call (NowS.to HS0.out [q] Keeps.au (by simp <;> omega) (by simp [kq, mq] <;> omega)) hP hK)
  clear hP hK
  go_wp2_with fail
  refine (CE _ (NowS.pin (NowS.to HS1.out [q] Keeps.au (by simp <;> omega) (by simp [kq, mq] <;> omega)))).out.mono ?_
  rintro e x1 ⟨a1, n1, p1, rfl, hP, hK, hT⟩
  have hz_x1 := hK.size
  try simp only [World.size_alloc, World.size_setCell, World.size_drew, World.heap_drewN] at hz_x1
  have O_x1_0 : OwnB x1 (q) #[.int .i64 0, .slice none 0 0, .slice none 0 0, .int .i64 0, .int .i64 0, .int .i64 0, .string ⟨#[]⟩, .int .i64 0, .int .i64 p] 82 := OwnB.call OwnB.au hK (by simp only [List.mem_singleton]; omega)
  obtain ⟨y_x1_0, x_x1_0, b_x1_0⟩ := O_x1_0.facts
  have HSa := Lib.hid (NowS.callE (NowS.to HS1.out [q] Keeps.au (by simp <;> omega) (by simp [kq, mq] <;> omega)) hP hK hT)
  clear hP hK hT
  go_wp2_with fail
  refine (CB _ (NowS.pin (NowS.to HSa.out [q] Keeps.au (by simp <;> omega) (by simp [kq, mq] <;> omega)))).out.mono ?_
  rintro e x2 ⟨a2, n2, p2, rfl, hP, hK, hT⟩
  have hz_x2 := hK.size
  try simp only [World.size_alloc, World.size_setCell, World.size_drew, World.heap_drewN] at hz_x2
  have O_x2_0 : OwnB x2 (q) #[.int .i64 5, .slice a1 n1 p1, .slice none 0 0, .int .i64 0, .int .i64 0, .int .i64 0, .string ⟨#[]⟩, .int .i64 0, .int .i64 p] 82 := OwnB.call (by repeat (first | with_reducible apply OwnB.s9_0 | with_reducible apply OwnB.s9_1 | with_reducible apply OwnB.s9_2 | with_reducible apply OwnB.s9_3 | with_reducible apply OwnB.s9_4 | with_reducible apply OwnB.s9_5 | with_reducible apply OwnB.s9_6 | with_reducible apply OwnB.s9_7 | with_reducible apply OwnB.s9_8 | with_reducible assumption | (with_reducible refine OwnB.new ?_; (first | with_reducible rfl | (simp only [World.size_alloc, World.size_setCell, World.size_drew, World.heap_drewN]; done) | (simp only [World.size_alloc, World.size_setCell, World.size_drew, World.heap_drewN]; omega))) | with_reducible refine OwnB.alloc ?_ _ | with_reducible refine OwnB.drew ?_ | with_reducible refine OwnB.drewN ?_ _ | with_reducible refine OwnB.setCell ?_ _ _ ?_ | (dsimp only; omega) | omega)) hK (by simp only [List.mem_singleton]; omega)
  obtain ⟨y_x2_0, x_x2_0, b_x2_0⟩ := O_x2_0.facts
  have HSb := Lib.hid (NowS.callS (NowS.to HSa.out [q] Keeps.au (by simp <;> omega) (by simp [kq, mq] <;> omega)) hP hK hT)
  clear hP hK hT
  go_wp2_with fail
  go_ret
  exact NowS.finBoth (R := (({ sm0 with op := 5, ex := A.1, body := B.1, pos := p } : Sm), B.2)) (NowS.to HSb.out [q] Keeps.au (by simp <;> omega) (by simp [kq, mq] <;> omega)) (show OwnB _ (q) #[.int .i64 5, .slice a1 n1 p1, .slice a2 n2 p2, .int .i64 0, .int .i64 0, .int .i64 0, .string ⟨#[]⟩, .int .i64 0, .int .i64 p] 82 from (by repeat (first | with_reducible apply OwnB.s9_0 | with_reducible apply OwnB.s9_1 | with_reducible apply OwnB.s9_2 | with_reducible apply OwnB.s9_3 | with_reducible apply OwnB.s9_4 | with_reducible apply OwnB.s9_5 | with_reducible apply OwnB.s9_6 | with_reducible apply OwnB.s9_7 | with_reducible apply OwnB.s9_8 | with_reducible assumption | (with_reducible refine OwnB.new ?_; (first | with_reducible rfl | (simp only [World.size_alloc, World.size_setCell, World.size_drew, World.heap_drewN]; done) | (simp only [World.size_alloc, World.size_setCell, World.size_drew, World.heap_drewN]; omega))) | with_reducible refine OwnB.alloc ?_ _ | with_reducible refine OwnB.drew ?_ | with_reducible refine OwnB.drewN ?_ _ | with_reducible refine OwnB.setCell ?_ _ _ ?_ | (dsimp only; omega) | omega))) (by (try simp only [World.size_alloc, World.size_setCell, World.size_drew, World.heap_drewN]); omega)

theorem holding_switch_ (c : Cx) (hc : c.Ok) (f : Nat) (GA : ∀ k, k ≤ f → GoodS c k) (d p : Int) (s : St) (R : Option (Sm × St)) (w : World) (q : Nat) (h0 : 0 ≤ d) (hd : d + (f + 1) ≤ 1000000000) (hq : OwnB w q #[.int .i64 0, .slice none 0 0, .slice none 0 0, .int .i64 0, .int .i64 0, .int .i64 0, .string ⟨#[]⟩, .int .i64 0, .int .i64 p] 82)
    (hn : q ≠ c.g ∧ q ≠ c.gt ∧ q ≠ c.mb ∧ q ≠ 2) (hR : P.holding c.l (P.recs c.l f) d s { sm0 with pos := p } = some R) (h : PIn w c s) (k0 : P.is c.l [105, 102] s = false) (k1 : P.is c.l [119, 104, 105, 108, 101] s = false) (k2 : P.is c.l [115, 119, 105, 116, 99, 104] s = true) : Calls Tryd.prog 77 #[pv c, .pointer (some ⟨q, 0, none⟩), .int .i64 d] w (DoesP c q { sm0 with pos := p } s R w) := by
  have hqlt := lt_of_blk hq.blk
  have hq1 : q ≠ c.g := hn.1
  have HN := Lib.hid (NowQ.start h)
  have HS := Lib.hid (NowS.start h hqlt hn)
  have hg := HS.out.g
  have hgt := HS.out.gt
  obtain ⟨yq, xq, zq⟩ := hq.facts
  have hw : wrap64 (d + 1) = d + 1 := wrapJ (by omega) (by omega)
  have hw' : IntKind.i64.wrap (d + 1) = d + 1 := wrapI (by omega) (by omega)
  unfold P.holding at hR
  have CA0 := fun W H => Lib.hid (accept_any c hc s W H [105, 102])
  rw [k0, show P.acc c.l [105, 102] s = s by simp [P.acc, k0]] at CA0
  rw [k0, if_neg (by simp)] at hR
  have CA1 := fun W H => Lib.hid (accept_any c hc s W H [119, 104, 105, 108, 101])
  rw [k1, show P.acc c.l [119, 104, 105, 108, 101] s = s by simp [P.acc, k1]] at CA1
  rw [k1, if_neg (by simp)] at hR
  obtain ⟨s1, hs1⟩ : ∃ s1, s1 = P.next c.l s := ⟨_, rfl⟩
  have CA2 := fun W H => Lib.hid (accept_any c hc s W H [115, 119, 105, 116, 99, 104])
  rw [k2, show P.acc c.l [115, 119, 105, 116, 99, 104] s = s1 by simp [P.acc, k2, hs1]] at CA2
  rw [k2, if_pos rfl, ← hs1] at hR
  obtain ⟨V, hV, hR⟩ : ∃ V, P.whileS c.l (P.recs c.l f) 8 d s1 { sm0 with pos := p } = some V ∧ some V = R := by
    cases hx : P.whileS c.l (P.recs c.l f) 8 d s1 { sm0 with pos := p } with
    | none => rw [hx] at hR; cases hR
    | some V => rw [hx] at hR; exact ⟨V, rfl, Option.some.inj hR⟩
  obtain rfl := hR
  unfold P.whileS at hV
  obtain ⟨A, hA, hV⟩ := Option.bind_eq_some_iff.1 hV
  obtain ⟨B, hB, hV⟩ := Option.bind_eq_some_iff.1 hV
  obtain rfl := Option.some.inj hV
  have CE := fun W H => Lib.hid (asked_step c hc f d s1 A W h0 hd hA H)
  have CB := fun W H => Lib.hid (body_step c hc f (GA f (Nat.le_refl _)) d A.2 B W h0 hd hB H)
  clear h hV hA hB hs1 GA k0 k1 k2
  unfold pv
  go_enter Tryd.func77, Tryd.ntmps77
  go_wp2_with fail
  refine (CA0 _ (NowS.pin (NowS.to HS.out [q] Keeps.au (by simp <;> omega) (by simp [kq, mq] <;> omega)))).out.mono ?_
  rintro e v0 ⟨rfl, hP, hK⟩
  have hz_v0 := hK.size
  try simp only [World.size_alloc, World.size_setCell, World.size_drew, World.heap_drewN] at hz_v0
  have O_v0_0 : OwnB v0 (q) #[.int .i64 0, .slice none 0 0, .slice none 0 0, .int .i64 0, .int .i64 0, .int .i64 0, .string ⟨#[]⟩, .int .i64 0, .int .i64 p] 82 := OwnB.call OwnB.au hK (by simp only [List.mem_singleton]; omega)
  obtain ⟨y_v0_0, x_v0_0, b_v0_0⟩ := O_v0_0.facts
  have HS0 := Lib.hid (NowS.call (NowS.to HS.out [q] Keeps.au (by simp <;> omega) (by simp [kq, mq] <;> omega)) hP hK)
  clear hP hK
  go_wp2_with fail
  refine (CA1 _ (NowS.pin (NowS.to HS0.out [q] Keeps.au (by simp <;> omega) (by simp [kq, mq] <;> omega)))).out.mono ?_
  rintro e v1 ⟨rfl, hP, hK⟩
  have hz_v1 := hK.size
  try simp only [World.size_alloc, World.size_setCell, World.size_drew, World.heap_drewN] at hz_v1
  have O_v1_0 : OwnB v1 (q) #[.int .i64 0, .slice none 0 0, .slice none 0 0, .int .i64 0, .int .i64 0, .int .i64 0, .string ⟨#[]⟩, .int .i64 0, .int .i64 p] 82 := OwnB.call OwnB.au hK (by simp only [List.mem_singleton]; omega)
  obtain ⟨y_v1_0, x_v1_0, b_v1_0⟩ := O_v1_0.facts
  have HS1 := Lib.hid (NowS.call (NowS.to HS0.out [q] Keeps.au (by simp <;> omega) (by simp [kq, mq] <;> omega)) hP hK)
  clear hP hK
  go_wp2_with fail
  refine (CA2 _ (NowS.pin (NowS.to HS1.out [q] Keeps.au (by simp <;> omega) (by simp [kq, mq] <;> omega)))).out.mono ?_
  rintro e v2 ⟨rfl, hP, hK⟩
  have hz_v2 := hK.size
  try simp only [World.size_alloc, World.size_setCell, World.size_drew, World.heap_drewN] at hz_v2
  have O_v2_0 : OwnB v2 (q) #[.int .i64 0, .slice none 0 0, .slice none 0 0, .int .i64 0, .int .i64 0, .int .i64 0, .string ⟨#[]⟩, .int .i64 0, .int .i64 p] 82 := OwnB.call OwnB.au hK (by simp only [List.mem_singleton]; omega)
  obtain ⟨y_v2_0, x_v2_0, b_v2_0⟩ := O_v2_0.facts
  have HS2 := Lib.hid (NowS.call (NowS.to HS1.out [q] Keeps.au (by simp <;> omega) (by simp [kq, mq] <;> omega)) hP hK)
  clear hP hK
  go_wp2_with fail
  refine (CE _ (NowS.pin (NowS.to HS2.out [q] Keeps.au (by simp <;> omega) (by simp [kq, mq] <;> omega)))).out.mono ?_
  rintro e x1 ⟨a1, n1, p1, rfl, hP, hK, hT⟩
  have hz_x1 := hK.size
  try simp only [World.size_alloc, World.size_setCell, World.size_drew, World.heap_drewN] at hz_x1
  have O_x1_0 : OwnB x1 (q) #[.int .i64 0, .slice none 0 0, .slice none 0 0, .int .i64 0, .int .i64 0, .int .i64 0, .string ⟨#[]⟩, .int .i64 0, .int .i64 p] 82 := OwnB.call OwnB.au hK (by simp only [List.mem_singleton]; omega)
  obtain ⟨y_x1_0, x_x1_0, b_x1_0⟩ := O_x1_0.facts
  have HSa := Lib.hid (NowS.callE (NowS.to HS2.out [q] Keeps.au (by simp <;> omega) (by simp [kq, mq] <;> omega)) hP hK hT)
  clear hP hK hT
  go_wp2_with fail
  refine (CB _ (NowS.pin (NowS.to HSa.out [q] Keeps.au (by simp <;> omega) (by simp [kq, mq] <;> omega)))).out.mono ?_
  rintro e x2 ⟨a2, n2, p2, rfl, hP, hK, hT⟩
  have hz_x2 := hK.size
  try simp only [World.size_alloc, World.size_setCell, World.size_drew, World.heap_drewN] at hz_x2
  have O_x2_0 : OwnB x2 (q) #[.int .i64 8, .slice a1 n1 p1, .slice none 0 0, .int .i64 0, .int .i64 0, .int .i64 0, .string ⟨#[]⟩, .int .i64 0, .int .i64 p] 82 := OwnB.call (by repeat (first | with_reducible apply OwnB.s9_0 | with_reducible apply OwnB.s9_1 | with_reducible apply OwnB.s9_2 | with_reducible apply OwnB.s9_3 | with_reducible apply OwnB.s9_4 | with_reducible apply OwnB.s9_5 | with_reducible apply OwnB.s9_6 | with_reducible apply OwnB.s9_7 | with_reducible apply OwnB.s9_8 | with_reducible assumption | (with_reducible refine OwnB.new ?_; (first | with_reducible rfl | (simp only [World.size_alloc, World.size_setCell, World.size_drew, World.heap_drewN]; done) | (simp only [World.size_alloc, World.size_setCell, World.size_drew, World.heap_drewN]; omega))) | with_reducible refine OwnB.alloc ?_ _ | with_reducible refine OwnB.drew ?_ | with_reducible refine OwnB.drewN ?_ _ | with_reducible refine OwnB.setCell ?_ _ _ ?_ | (dsimp only; omega) | omega)) hK (by simp only [List.mem_singleton]; omega)
  obtain ⟨y_x2_0, x_x2_0, b_x2_0⟩ := O_x2_0.facts
  have HSb := Lib.hid (NowS.callS (NowS.to HSa.out [q] Keeps.au (by simp <;> omega) (by simp [kq, mq] <;> omega)) hP hK hT)
  clear hP hK hT
  go_wp2_with fail
  go_ret
  exact NowS.finBoth (R := (({ sm0 with op := 8, ex := A.1, body := B.1, pos := p } : Sm), B.2)) (NowS.to HSb.out [q] Keeps.au (by simp <;> omega) (by simp [kq, mq] <;> omega)) (show OwnB _ (q) #[.int .i64 8, .slice a1 n1 p1, .slice a2 n2 p2, .int .i64 0, .int .i64 0, .int .i64 0, .string ⟨#[]⟩, .int .i64 0, .int .i64 p] 82 from (by repeat (first | with_reducible apply OwnB.s9_0 | with_reducible apply OwnB.s9_1 | with_reducible apply OwnB.s9_2 | with_reducible apply OwnB.s9_3 | with_reducible apply OwnB.s9_4 | with_reducible apply OwnB.s9_5 | with_reducible apply OwnB.s9_6 | with_reducible apply OwnB.s9_7 | with_reducible apply OwnB.s9_8 | with_reducible assumption | (with_reducible refine OwnB.new ?_; (first | with_reducible rfl | (simp only [World.size_alloc, World.size_setCell, World.size_drew, World.heap_drewN]; done) | (simp only [World.size_alloc, World.size_setCell, World.size_drew, World.heap_drewN]; omega))) | with_reducible refine OwnB.alloc ?_ _ | with_reducible refine OwnB.drew ?_ | with_reducible refine OwnB.drewN ?_ _ | with_reducible refine OwnB.setCell ?_ _ _ ?_ | (dsimp only; omega) | omega))) (by (try simp only [World.size_alloc, World.size_setCell, World.size_drew, World.heap_drewN]); omega)

theorem holding_for_ (c : Cx) (hc : c.Ok) (f : Nat) (GA : ∀ k, k ≤ f → GoodS c k) (d p : Int) (s : St) (R : Option (Sm × St)) (w : World) (q : Nat) (h0 : 0 ≤ d) (hd : d + (f + 1) ≤ 1000000000) (hq : OwnB w q #[.int .i64 0, .slice none 0 0, .slice none 0 0, .int .i64 0, .int .i64 0, .int .i64 0, .string ⟨#[]⟩, .int .i64 0, .int .i64 p] 82)
    (hn : q ≠ c.g ∧ q ≠ c.gt ∧ q ≠ c.mb ∧ q ≠ 2) (hR : P.holding c.l (P.recs c.l f) d s { sm0 with pos := p } = some R) (h : PIn w c s) (k0 : P.is c.l [105, 102] s = false) (k1 : P.is c.l [119, 104, 105, 108, 101] s = false) (k2 : P.is c.l [115, 119, 105, 116, 99, 104] s = false) (k3 : P.is c.l [102, 111, 114] s = true) : Calls Tryd.prog 77 #[pv c, .pointer (some ⟨q, 0, none⟩), .int .i64 d] w (DoesP c q { sm0 with pos := p } s R w) := by
  have hqlt := lt_of_blk hq.blk
  have hq1 : q ≠ c.g := hn.1
  have HN := Lib.hid (NowQ.start h)
  have HS := Lib.hid (NowS.start h hqlt hn)
  have hg := HS.out.g
  have hgt := HS.out.gt
  obtain ⟨yq, xq, zq⟩ := hq.facts
  have hw : wrap64 (d + 1) = d + 1 := wrapJ (by omega) (by omega)
  have hw' : IntKind.i64.wrap (d + 1) = d + 1 := wrapI (by omega) (by omega)
  unfold P.holding at hR
  have CA0 := fun W H => Lib.hid (accept_any c hc s W H [105, 102])
  rw [k0, show P.acc c.l [105, 102] s = s by simp [P.acc, k0]] at CA0
  rw [k0, if_neg (by simp)] at hR
  have CA1 := fun W H => Lib.hid (accept_any c hc s W H [119, 104, 105, 108, 101])
  rw [k1, show P.acc c.l [119, 104, 105, 108, 101] s = s by simp [P.acc, k1]] at CA1
  rw [k1, if_neg (by simp)] at hR
  have CA2 := fun W H => Lib.hid (accept_any c hc s W H [115, 119, 105, 116, 99, 104])
  rw [k2, show P.acc c.l [115, 119, 105, 116, 99, 104] s = s by simp [P.acc, k2]] at CA2
  rw [k2, if_neg (by simp)] at hR
  obtain ⟨s1, hs1⟩ : ∃ s1, s1 = P.next c.l s := ⟨_, rfl⟩
  have CA3 := fun W H => Lib.hid (accept_any c hc s W H [102, 111, 114])
  rw [k3, show P.acc c.l [102, 111, 114] s = s1 by simp [P.acc, k3, hs1]] at CA3
  rw [k3, if_pos rfl, ← hs1] at hR
  obtain ⟨V, hV, hR⟩ : ∃ V, P.forS c.l (P.recs c.l f) d s1 { sm0 with pos := p } = some V ∧ some V = R := by
    cases hx : P.forS c.l (P.recs c.l f) d s1 { sm0 with pos := p } with
    | none => rw [hx] at hR; cases hR
    | some V => rw [hx] at hR; exact ⟨V, rfl, Option.some.inj hR⟩
  obtain rfl := hR
  unfold P.forS at hV
  obtain ⟨A, hA, hV⟩ := Option.bind_eq_some_iff.1 hV
  obtain ⟨B, hB, hV⟩ := Option.bind_eq_some_iff.1 hV
  obtain rfl := Option.some.inj hV
  have CE := fun W H => Lib.hid (course_step c hc f d s1 A W h0 hd hA H)
  have CB := fun W H => Lib.hid (body_step c hc f (GA f (Nat.le_refl _)) d A.2 B W h0 hd hB H)
  clear h hV hA hB hs1 GA k0 k1 k2 k3
  unfold pv
  go_enter Tryd.func77, Tryd.ntmps77
  go_wp2_with fail
  refine (CA0 _ (NowS.pin (NowS.to HS.out [q] Keeps.au (by simp <;> omega) (by simp [kq, mq] <;> omega)))).out.mono ?_
  rintro e v0 ⟨rfl, hP, hK⟩
  have hz_v0 := hK.size
  try simp only [World.size_alloc, World.size_setCell, World.size_drew, World.heap_drewN] at hz_v0
  have O_v0_0 : OwnB v0 (q) #[.int .i64 0, .slice none 0 0, .slice none 0 0, .int .i64 0, .int .i64 0, .int .i64 0, .string ⟨#[]⟩, .int .i64 0, .int .i64 p] 82 := OwnB.call OwnB.au hK (by simp only [List.mem_singleton]; omega)
  obtain ⟨y_v0_0, x_v0_0, b_v0_0⟩ := O_v0_0.facts
  have HS0 := Lib.hid (NowS.call (NowS.to HS.out [q] Keeps.au (by simp <;> omega) (by simp [kq, mq] <;> omega)) hP hK)
  clear hP hK
  go_wp2_with fail
  refine (CA1 _ (NowS.pin (NowS.to HS0.out [q] Keeps.au (by simp <;> omega) (by simp [kq, mq] <;> omega)))).out.mono ?_
  rintro e v1 ⟨rfl, hP, hK⟩
  have hz_v1 := hK.size
  try simp only [World.size_alloc, World.size_setCell, World.size_drew, World.heap_drewN] at hz_v1
  have O_v1_0 : OwnB v1 (q) #[.int .i64 0, .slice none 0 0, .slice none 0 0, .int .i64 0, .int .i64 0, .int .i64 0, .string ⟨#[]⟩, .int .i64 0, .int .i64 p] 82 := OwnB.call OwnB.au hK (by simp only [List.mem_singleton]; omega)
  obtain ⟨y_v1_0, x_v1_0, b_v1_0⟩ := O_v1_0.facts
  have HS1 := Lib.hid (NowS.call (NowS.to HS0.out [q] Keeps.au (by simp <;> omega) (by simp [kq, mq] <;> omega)) hP hK)
  clear hP hK
  go_wp2_with fail
  refine (CA2 _ (NowS.pin (NowS.to HS1.out [q] Keeps.au (by simp <;> omega) (by simp [kq, mq] <;> omega)))).out.mono ?_
  rintro e v2 ⟨rfl, hP, hK⟩
  have hz_v2 := hK.size
  try simp only [World.size_alloc, World.size_setCell, World.size_drew, World.heap_drewN] at hz_v2
  have O_v2_0 : OwnB v2 (q) #[.int .i64 0, .slice none 0 0, .slice none 0 0, .int .i64 0, .int .i64 0, .int .i64 0, .string ⟨#[]⟩, .int .i64 0, .int .i64 p] 82 := OwnB.call OwnB.au hK (by simp only [List.mem_singleton]; omega)
  obtain ⟨y_v2_0, x_v2_0, b_v2_0⟩ := O_v2_0.facts
  have HS2 := Lib.hid (NowS.call (NowS.to HS1.out [q] Keeps.au (by simp <;> omega) (by simp [kq, mq] <;> omega)) hP hK)
  clear hP hK
  go_wp2_with fail
  refine (CA3 _ (NowS.pin (NowS.to HS2.out [q] Keeps.au (by simp <;> omega) (by simp [kq, mq] <;> omega)))).out.mono ?_
  rintro e v3 ⟨rfl, hP, hK⟩
  have hz_v3 := hK.size
  try simp only [World.size_alloc, World.size_setCell, World.size_drew, World.heap_drewN] at hz_v3
  have O_v3_0 : OwnB v3 (q) #[.int .i64 0, .slice none 0 0, .slice none 0 0, .int .i64 0, .int .i64 0, .int .i64 0, .string ⟨#[]⟩, .int .i64 0, .int .i64 p] 82 := OwnB.call OwnB.au hK (by simp only [List.mem_singleton]; omega)
  obtain ⟨y_v3_0, x_v3_0, b_v3_0⟩ := O_v3_0.facts
  have HS3 := Lib.hid (NowS.call (NowS.to HS2.out [q] Keeps.au (by simp <;> omega) (by simp [kq, mq] <;> omega)) hP hK)
  clear hP hK
  go_wp2_with fail
  refine (CE _ (NowS.pin (NowS.to HS3.out [q] Keeps.au (by simp <;> omega) (by simp [kq, mq] <;> omega)))).out.mono ?_
  rintro e x1 ⟨a1, n1, p1, rfl, hP, hK, hT⟩
  have hz_x1 := hK.size
  try simp only [World.size_alloc, World.size_setCell, World.size_drew, World.heap_drewN] at hz_x1
  have O_x1_0 : OwnB x1 (q) #[.int .i64 0, .slice none 0 0, .slice none 0 0, .int .i64 0, .int .i64 0, .int .i64 0, .string ⟨#[]⟩, .int .i64 0, .int .i64 p] 82 := OwnB.call OwnB.au hK (by simp only [List.mem_singleton]; omega)
  obtain ⟨y_x1_0, x_x1_0, b_x1_0⟩ := O_x1_0.facts
  have HSa := Lib.hid (NowS.callE (NowS.to HS3.out [q] Keeps.au (by simp <;> omega) (by simp [kq, mq] <;> omega)) hP hK hT)
  clear hP hK hT
  go_wp2_with fail
  refine (CB _ (NowS.pin (NowS.to HSa.out [q] Keeps.au (by simp <;> omega) (by simp [kq, mq] <;> omega)))).out.mono ?_
  rintro e x2 ⟨a2, n2, p2, rfl, hP, hK, hT⟩
  have hz_x2 := hK.size
  try simp only [World.size_alloc, World.size_setCell, World.size_drew, World.heap_drewN] at hz_x2
  have O_x2_0 : OwnB x2 (q) #[.int .i64 7, .slice a1 n1 p1, .slice none 0 0, .int .i64 0, .int .i64 0, .int .i64 0, .string ⟨#[]⟩, .int .i64 0, .int .i64 p] 82 := OwnB.call (by repeat (first | with_reducible apply OwnB.s9_0 | with_reducible apply OwnB.s9_1 | with_reducible apply OwnB.s9_2 | with_reducible apply OwnB.s9_3 | with_reducible apply OwnB.s9_4 | with_reducible apply OwnB.s9_5 | with_reducible apply OwnB.s9_6 | with_reducible apply OwnB.s9_7 | with_reducible apply OwnB.s9_8 | with_reducible assumption | (with_reducible refine OwnB.new ?_; (first | with_reducible rfl | (simp only [World.size_alloc, World.size_setCell, World.size_drew, World.heap_drewN]; done) | (simp only [World.size_alloc, World.size_setCell, World.size_drew, World.heap_drewN]; omega))) | with_reducible refine OwnB.alloc ?_ _ | with_reducible refine OwnB.drew ?_ | with_reducible refine OwnB.drewN ?_ _ | with_reducible refine OwnB.setCell ?_ _ _ ?_ | (dsimp only; omega) | omega)) hK (by simp only [List.mem_singleton]; omega)
  obtain ⟨y_x2_0, x_x2_0, b_x2_0⟩ := O_x2_0.facts
  have HSb := Lib.hid (NowS.callS (NowS.to HSa.out [q] Keeps.au (by simp <;> omega) (by simp [kq, mq] <;> omega)) hP hK hT)
  clear hP hK hT
  go_wp2_with fail
  go_ret
  exact NowS.finBoth (R := (({ sm0 with op := 7, ex := A.1, body := B.1, pos := p } : Sm), B.2)) (NowS.to HSb.out [q] Keeps.au (by simp <;> omega) (by simp [kq, mq] <;> omega)) (show OwnB _ (q) #[.int .i64 7, .slice a1 n1 p1, .slice a2 n2 p2, .int .i64 0, .int .i64 0, .int .i64 0, .string ⟨#[]⟩, .int .i64 0, .int .i64 p] 82 from (by repeat (first | with_reducible apply OwnB.s9_0 | with_reducible apply OwnB.s9_1 | with_reducible apply OwnB.s9_2 | with_reducible apply OwnB.s9_3 | with_reducible apply OwnB.s9_4 | with_reducible apply OwnB.s9_5 | with_reducible apply OwnB.s9_6 | with_reducible apply OwnB.s9_7 | with_reducible apply OwnB.s9_8 | with_reducible assumption | (with_reducible refine OwnB.new ?_; (first | with_reducible rfl | (simp only [World.size_alloc, World.size_setCell, World.size_drew, World.heap_drewN]; done) | (simp only [World.size_alloc, World.size_setCell, World.size_drew, World.heap_drewN]; omega))) | with_reducible refine OwnB.alloc ?_ _ | with_reducible refine OwnB.drew ?_ | with_reducible refine OwnB.drewN ?_ _ | with_reducible refine OwnB.setCell ?_ _ _ ?_ | (dsimp only; omega) | omega))) (by (try simp only [World.size_alloc, World.size_setCell, World.size_drew, World.heap_drewN]); omega)

theorem holding_do_ (c : Cx) (hc : c.Ok) (f : Nat) (GA : ∀ k, k ≤ f → GoodS c k) (d p : Int) (s : St) (R : Option (Sm × St)) (w : World) (q : Nat) (h0 : 0 ≤ d) (hd : d + (f + 1) ≤ 1000000000) (hq : OwnB w q #[.int .i64 0, .slice none 0 0, .slice none 0 0, .int .i64 0, .int .i64 0, .int .i64 0, .string ⟨#[]⟩, .int .i64 0, .int .i64 p] 82)
    (hn : q ≠ c.g ∧ q ≠ c.gt ∧ q ≠ c.mb ∧ q ≠ 2) (hR : P.holding c.l (P.recs c.l f) d s { sm0 with pos := p } = some R) (h : PIn w c s) (k0 : P.is c.l [105, 102] s = false) (k1 : P.is c.l [119, 104, 105, 108, 101] s = false) (k2 : P.is c.l [115, 119, 105, 116, 99, 104] s = false) (k3 : P.is c.l [102, 111, 114] s = false) (k4 : P.is c.l [100, 111] s = true) : Calls Tryd.prog 77 #[pv c, .pointer (some ⟨q, 0, none⟩), .int .i64 d] w (DoesP c q { sm0 with pos := p } s R w) := by
  have hqlt := lt_of_blk hq.blk
  have hq1 : q ≠ c.g := hn.1
  have HN := Lib.hid (NowQ.start h)
  have HS := Lib.hid (NowS.start h hqlt hn)
  have hg := HS.out.g
  have hgt := HS.out.gt
  obtain ⟨yq, xq, zq⟩ := hq.facts
  have hw : wrap64 (d + 1) = d + 1 := wrapJ (by omega) (by omega)
  have hw' : IntKind.i64.wrap (d + 1) = d + 1 := wrapI (by omega) (by omega)
  unfold P.holding at hR
  have CA0 := fun W H => Lib.hid (accept_any c hc s W H [105, 102])
  rw [k0, show P.acc c.l [105, 102] s = s by simp [P.acc, k0]] at CA0
  rw [k0, if_neg (by simp)] at hR
  have CA1 := fun W H => Lib.hid (accept_any c hc s W H [119, 104, 105, 108, 101])
  rw [k1, show P.acc c.l [119, 104, 105, 108, 101] s = s by simp [P.acc, k1]] at CA1
  rw [k1, if_neg (by simp)] at hR
  have CA2 := fun W H => Lib.hid (accept_any c hc s W H [115, 119, 105, 116, 99, 104])
  rw [k2, show P.acc c.l [115, 119, 105, 116, 99, 104] s = s by simp [P.acc, k2]] at CA2
  rw [k2, if_neg (by simp)] at hR
  have CA3 := fun W H => Lib.hid (accept_any c hc s W H [102, 111, 114])
  rw [k3, show P.acc c.l [102, 111, 114] s = s by simp [P.acc, k3]] at CA3
  rw [k3, if_neg (by simp)] at hR
  obtain ⟨s1, hs1⟩ : ∃ s1, s1 = P.next c.l s := ⟨_, rfl⟩
  have CA4 := fun W H => Lib.hid (accept_any c hc s W H [100, 111])
  rw [k4, show P.acc c.l [100, 111] s = s1 by simp [P.acc, k4, hs1]] at CA4
  rw [k4, if_pos rfl, ← hs1] at hR
  obtain ⟨V, hV, hR⟩ : ∃ V, P.doS c.l (P.recs c.l f) d s1 { sm0 with pos := p } = some V ∧ some V = R := by
    cases hx : P.doS c.l (P.recs c.l f) d s1 { sm0 with pos := p } with
    | none => rw [hx] at hR; cases hR
    | some V => rw [hx] at hR; exact ⟨V, rfl, Option.some.inj hR⟩
  obtain rfl := hR
  unfold P.doS at hV
  obtain ⟨B, hB, hV⟩ := Option.bind_eq_some_iff.1 hV
  obtain ⟨A, hA, hV⟩ := Option.bind_eq_some_iff.1 hV
  obtain rfl := Option.some.inj hV
  have CB := fun W H => Lib.hid (body_step c hc f (GA f (Nat.le_refl _)) d s1 B W h0 hd hB H)
  have CN := fun W H => Lib.hid (need_any c hc B.2 W H [119, 104, 105, 108, 101])
  have CE := fun W H => Lib.hid (asked_step c hc f d (P.need c.l [119, 104, 105, 108, 101] B.2) A W h0 hd hA H)
  have CM := fun W H => Lib.hid (need_any c hc A.2 W H [59])
  clear h hV hA hB hs1 GA k0 k1 k2 k3 k4
  unfold pv
  go_enter Tryd.func77, Tryd.ntmps77
  go_wp2_with fail
  refine (CA0 _ (NowS.pin (NowS.to HS.out [q] Keeps.au (by simp <;> omega) (by simp [kq, mq] <;> omega)))).out.mono ?_
  rintro e v0 ⟨rfl, hP, hK⟩
  have hz_v0 := hK.size
  try simp only [World.size_alloc, World.size_setCell, World.size_drew, World.heap_drewN] at hz_v0
  have O_v0_0 : OwnB v0 (q) #[.int .i64 0, .slice none 0 0, .slice none 0 0, .int .i64 0, .int .i64 0, .int .i64 0, .string ⟨#[]⟩, .int .i64 0, .int .i64 p] 82 := OwnB.call OwnB.au hK (by simp only [List.mem_singleton]; omega)
  obtain ⟨y_v0_0, x_v0_0, b_v0_0⟩ := O_v0_0.facts
  have HS0 := Lib.hid (NowS.call (NowS.to HS.out [q] Keeps.au (by simp <;> omega) (by simp [kq, mq] <;> omega)) hP hK)
  clear hP hK
  go_wp2_with fail
  refine (CA1 _ (NowS.pin (NowS.to HS0.out [q] Keeps.au (by simp <;> omega) (by simp [kq, mq] <;> omega)))).out.mono ?_
  rintro e v1 ⟨rfl, hP, hK⟩
  have hz_v1 := hK.size
  try simp only [World.size_alloc, World.size_setCell, World.size_drew, World.heap_drewN] at hz_v1
  have O_v1_0 : OwnB v1 (q) #[.int .i64 0, .slice none 0 0, .slice none 0 0, .int .i64 0, .int .i64 0, .int .i64 0, .string ⟨#[]⟩, .int .i64 0, .int .i64 p] 82 := OwnB.call OwnB.au hK (by simp only [List.mem_singleton]; omega)
  obtain ⟨y_v1_0, x_v1_0, b_v1_0⟩ := O_v1_0.facts
  have HS1 := Lib.hid (NowS.call (NowS.to HS0.out [q] Keeps.au (by simp <;> omega) (by simp [kq, mq] <;> omega)) hP hK)
  clear hP hK
  go_wp2_with fail
  refine (CA2 _ (NowS.pin (NowS.to HS1.out [q] Keeps.au (by simp <;> omega) (by simp [kq, mq] <;> omega)))).out.mono ?_
  rintro e v2 ⟨rfl, hP, hK⟩
  have hz_v2 := hK.size
  try simp only [World.size_alloc, World.size_setCell, World.size_drew, World.heap_drewN] at hz_v2
  have O_v2_0 : OwnB v2 (q) #[.int .i64 0, .slice none 0 0, .slice none 0 0, .int .i64 0, .int .i64 0, .int .i64 0, .string ⟨#[]⟩, .int .i64 0, .int .i64 p] 82 := OwnB.call OwnB.au hK (by simp only [List.mem_singleton]; omega)
  obtain ⟨y_v2_0, x_v2_0, b_v2_0⟩ := O_v2_0.facts
  have HS2 := Lib.hid (NowS.call (NowS.to HS1.out [q] Keeps.au (by simp <;> omega) (by simp [kq, mq] <;> omega)) hP hK)
  clear hP hK
  go_wp2_with fail
  refine (CA3 _ (NowS.pin (NowS.to HS2.out [q] Keeps.au (by simp <;> omega) (by simp [kq, mq] <;> omega)))).out.mono ?_
  rintro e v3 ⟨rfl, hP, hK⟩
  have hz_v3 := hK.size
  try simp only [World.size_alloc, World.size_setCell, World.size_drew, World.heap_drewN] at hz_v3
  have O_v3_0 : OwnB v3 (q) #[.int .i64 0, .slice none 0 0, .slice none 0 0, .int .i64 0, .int .i64 0, .int .i64 0, .string ⟨#[]⟩, .int .i64 0, .int .i64 p] 82 := OwnB.call OwnB.au hK (by simp only [List.mem_singleton]; omega)
  obtain ⟨y_v3_0, x_v3_0, b_v3_0⟩ := O_v3_0.facts
  have HS3 := Lib.hid (NowS.call (NowS.to HS2.out [q] Keeps.au (by simp <;> omega) (by simp [kq, mq] <;> omega)) hP hK)
  clear hP hK
  go_wp2_with fail
  refine (CA4 _ (NowS.pin (NowS.to HS3.out [q] Keeps.au (by simp <;> omega) (by simp [kq, mq] <;> omega)))).out.mono ?_
  rintro e v4 ⟨rfl, hP, hK⟩
  have hz_v4 := hK.size
  try simp only [World.size_alloc, World.size_setCell, World.size_drew, World.heap_drewN] at hz_v4
  have O_v4_0 : OwnB v4 (q) #[.int .i64 0, .slice none 0 0, .slice none 0 0, .int .i64 0, .int .i64 0, .int .i64 0, .string ⟨#[]⟩, .int .i64 0, .int .i64 p] 82 := OwnB.call OwnB.au hK (by simp only [List.mem_singleton]; omega)
  obtain ⟨y_v4_0, x_v4_0, b_v4_0⟩ := O_v4_0.facts
  have HS4 := Lib.hid (NowS.call (NowS.to HS3.out [q] Keeps.au (by simp <;> omega) (by simp [kq, mq] <;> omega)) hP hK)
  clear hP hK
  go_wp2_with fail
  refine (CB _ (NowS.pin (NowS.to HS4.out [q] Keeps.au (by simp <;> omega) (by simp [kq, mq] <;> omega)))).out.mono ?_
  rintro e x1 ⟨a1, n1, p1, rfl, hP, hK, hT⟩
  have hz_x1 := hK.size
  try simp only [World.size_alloc, World.size_setCell, World.size_drew, World.heap_drewN] at hz_x1
  have O_x1_0 : OwnB x1 (q) #[.int .i64 0, .slice none 0 0, .slice none 0 0, .int .i64 0, .int .i64 0, .int .i64 0, .string ⟨#[]⟩, .int .i64 0, .int .i64 p] 82 := OwnB.call OwnB.au hK (by simp only [List.mem_singleton]; omega)
  obtain ⟨y_x1_0, x_x1_0, b_x1_0⟩ := O_x1_0.facts
  have HSa := Lib.hid (NowS.callS (NowS.to HS4.out [q] Keeps.au (by simp <;> omega) (by simp [kq, mq] <;> omega)) hP hK hT)
  clear hP hK hT
  go_wp2_with fail
  refine (CN _ (NowS.pin (NowS.to HSa.out [q] Keeps.au (by simp <;> omega) (by simp [kq, mq] <;> omega)))).out.mono ?_
  rintro e x2 ⟨rfl, hP, hK⟩
  have hz_x2 := hK.size
  try simp only [World.size_alloc, World.size_setCell, World.size_drew, World.heap_drewN] at hz_x2
  have O_x2_0 : OwnB x2 (q) #[.int .i64 6, .slice none 0 0, .slice a1 n1 p1, .int .i64 0, .int .i64 0, .int .i64 0, .string ⟨#[]⟩, .int .i64 0, .int .i64 p] 82 := OwnB.call (by repeat (first | with_reducible apply OwnB.s9_0 | with_reducible apply OwnB.s9_1 | with_reducible apply OwnB.s9_2 | with_reducible apply OwnB.s9_3 | with_reducible apply OwnB.s9_4 | with_reducible apply OwnB.s9_5 | with_reducible apply OwnB.s9_6 | with_reducible apply OwnB.s9_7 | with_reducible apply OwnB.s9_8 | with_reducible assumption | (with_reducible refine OwnB.new ?_; (first | with_reducible rfl | (simp only [World.size_alloc, World.size_setCell, World.size_drew, World.heap_drewN]; done) | (simp only [World.size_alloc, World.size_setCell, World.size_drew, World.heap_drewN]; omega))) | with_reducible refine OwnB.alloc ?_ _ | with_reducible refine OwnB.drew ?_ | with_reducible refine OwnB.drewN ?_ _ | with_reducible refine OwnB.setCell ?_ _ _ ?_ | (dsimp only; omega) | omega)) hK (by simp only [List.mem_singleton]; omega)
  obtain ⟨y_x2_0, x_x2_0, b_x2_0⟩ := O_x2_0.facts
  have HSb := Lib.hid (NowS.call (NowS.to HSa.out [q] Keeps.au (by simp <;> omega) (by simp [kq, mq] <;> omega)) hP hK)
  clear hP hK
  go_wp2_with fail
  refine (CE _ (NowS.pin (NowS.to HSb.out [q] Keeps.au (by simp <;> omega) (by simp [kq, mq] <;> omega)))).out.mono ?_
  rintro e x3 ⟨a2, n2, p2, rfl, hP, hK, hT⟩
  have hz_x3 := hK.size
  try simp only [World.size_alloc, World.size_setCell, World.size_drew, World.heap_drewN] at hz_x3
  have O_x3_0 : OwnB x3 (q) #[.int .i64 6, .slice none 0 0, .slice a1 n1 p1, .int .i64 0, .int .i64 0, .int .i64 0, .string ⟨#[]⟩, .int .i64 0, .int .i64 p] 82 := OwnB.call OwnB.au hK (by simp only [List.mem_singleton]; omega)
  obtain ⟨y_x3_0, x_x3_0, b_x3_0⟩ := O_x3_0.facts
  have HSc := Lib.hid (NowS.callE (NowS.to HSb.out [q] Keeps.au (by simp <;> omega) (by simp [kq, mq] <;> omega)) hP hK hT)
  clear hP hK hT
  go_wp2_with fail
  refine (CM _ (NowS.pin (NowS.to HSc.out [q] Keeps.au (by simp <;> omega) (by simp [kq, mq] <;> omega)))).out.mono ?_
  rintro e x4 ⟨rfl, hP, hK⟩
  have hz_x4 := hK.size
  try simp only [World.size_alloc, World.size_setCell, World.size_drew, World.heap_drewN] at hz_x4
  have O_x4_0 : OwnB x4 (q) #[.int .i64 6, .slice a2 n2 p2, .slice a1 n1 p1, .int .i64 0, .int .i64 0, .int .i64 0, .string ⟨#[]⟩, .int .i64 0, .int .i64 p] 82 := OwnB.call (by repeat (first | with_reducible apply OwnB.s9_0 | with_reducible apply OwnB.s9_1 | with_reducible apply OwnB.s9_2 | with_reducible apply OwnB.s9_3 | with_reducible apply OwnB.s9_4 | with_reducible apply OwnB.s9_5 | with_reducible apply OwnB.s9_6 | with_reducible apply OwnB.s9_7 | with_reducible apply OwnB.s9_8 | with_reducible assumption | (with_reducible refine OwnB.new ?_; (first | with_reducible rfl | (simp only [World.size_alloc, World.size_setCell, World.size_drew, World.heap_drewN]; done) | (simp only [World.size_alloc, World.size_setCell, World.size_drew, World.heap_drewN]; omega))) | with_reducible refine OwnB.alloc ?_ _ | with_reducible refine OwnB.drew ?_ | with_reducible refine OwnB.drewN ?_ _ | with_reducible refine OwnB.setCell ?_ _ _ ?_ | (dsimp only; omega) | omega)) hK (by simp only [List.mem_singleton]; omega)
  obtain ⟨y_x4_0, x_x4_0, b_x4_0⟩ := O_x4_0.facts
  have HSd := Lib.hid (NowS.call (NowS.to HSc.out [q] Keeps.au (by simp <;> omega) (by simp [kq, mq] <;> omega)) hP hK)
  clear hP hK
  go_wp2_with fail
  go_ret
  exact NowS.finBoth' (R := (({ sm0 with op := 6, ex := A.1, body := B.1, pos := p } : Sm), P.need c.l [59] A.2)) HSd.out O_x4_0 (by (try simp only [World.size_alloc, World.size_setCell, World.size_drew, World.heap_drewN]); omega)

theorem holding_if_ (c : Cx) (hc : c.Ok) (f : Nat) (GA : ∀ k, k ≤ f → GoodS c k) (d p : Int) (s : St) (R : Option (Sm × St)) (w : World) (q : Nat) (h0 : 0 ≤ d) (hd : d + (f + 1) ≤ 1000000000) (hq : OwnB w q #[.int .i64 0, .slice none 0 0, .slice none 0 0, .int .i64 0, .int .i64 0, .int .i64 0, .string ⟨#[]⟩, .int .i64 0, .int .i64 p] 82)
    (hn : q ≠ c.g ∧ q ≠ c.gt ∧ q ≠ c.mb ∧ q ≠ 2) (hR : P.holding c.l (P.recs c.l f) d s { sm0 with pos := p } = some R) (h : PIn w c s) (k0 : P.is c.l [105, 102] s = true) : Calls Tryd.prog 77 #[pv c, .pointer (some ⟨q, 0, none⟩), .int .i64 d] w (DoesP c q { sm0 with pos := p } s R w) := by
  have hqlt := lt_of_blk hq.blk
  have hq1 : q ≠ c.g := hn.1
  have HN := Lib.hid (NowQ.start h)
  have HS := Lib.hid (NowS.start h hqlt hn)
  have hg := HS.out.g
  have hgt := HS.out.gt
  obtain ⟨yq, xq, zq⟩ := hq.facts
  have hw : wrap64 (d + 1) = d + 1 := wrapJ (by omega) (by omega)
  have hw' : IntKind.i64.wrap (d + 1) = d + 1 := wrapI (by omega) (by omega)
  unfold P.holding at hR
  obtain ⟨s1, hs1⟩ : ∃ s1, s1 = P.next c.l s := ⟨_, rfl⟩
  have CA0 := fun W H => Lib.hid (accept_any c hc s W H [105, 102])
  rw [k0, show P.acc c.l [105, 102] s = s1 by simp [P.acc, k0, hs1]] at CA0
  rw [k0, if_pos rfl, ← hs1] at hR
  obtain ⟨V, hV, hR⟩ : ∃ V, P.ifS c.l (P.recs c.l f) d s1 { sm0 with pos := p } = some V ∧ some V = R := by
    cases hx : P.ifS c.l (P.recs c.l f) d s1 { sm0 with pos := p } with
    | none => rw [hx] at hR; cases hR
    | some V => rw [hx] at hR; exact ⟨V, rfl, Option.some.inj hR⟩
  obtain rfl := hR
  unfold P.ifS at hV
  obtain ⟨A, hA, hV⟩ := Option.bind_eq_some_iff.1 hV
  obtain ⟨B, hB, hV⟩ := Option.bind_eq_some_iff.1 hV
  have CE := fun W H => Lib.hid (asked_step c hc f d s1 A W h0 hd hA H)
  have CB := fun W H => Lib.hid (body_step c hc f (GA f (Nat.le_refl _)) d A.2 B W h0 hd hB H)
  have CZ := fun W H => Lib.hid (accept_any c hc B.2 W H [101, 108, 115, 101])
  cases ke : P.is c.l [101, 108, 115, 101] B.2 with
  | false =>
    rw [ke, if_neg (by simp)] at hV
    obtain rfl := Option.some.inj hV
    rw [ke, show P.acc c.l [101, 108, 115, 101] B.2 = B.2 by simp [P.acc, ke]] at CZ
    clear h hV hA hB hs1 GA k0 ke
    unfold pv
    go_enter Tryd.func77, Tryd.ntmps77
    go_wp2_with fail
    refine (CA0 _ (NowS.pin (NowS.to HS.out [q] Keeps.au (by simp <;> omega) (by simp [kq, mq] <;> omega)))).out.mono ?_
    rintro e v0 ⟨rfl, hP, hK⟩
    have hz_v0 := hK.size
    try simp only [World.size_alloc, World.size_setCell, World.size_drew, World.heap_drewN] at hz_v0
    have O_v0_0 : OwnB v0 (q) #[.int .i64 0, .slice none 0 0, .slice none 0 0, .int .i64 0, .int .i64 0, .int .i64 0, .string ⟨#[]⟩, .int .i64 0, .int .i64 p] 82 := OwnB.call OwnB.au hK (by simp only [List.mem_singleton]; omega)
    obtain ⟨y_v0_0, x_v0_0, b_v0_0⟩ := O_v0_0.facts
    have HS0 := Lib.hid (NowS.call (NowS.to HS.out [q] Keeps.au (by simp <;> omega) (by simp [kq, mq] <;> omega)) hP hK)
    clear hP hK
    go_wp2_with fail
    refine (CE _ (NowS.pin (NowS.to HS0.out [q] Keeps.au (by simp <;> omega) (by simp [kq, mq] <;> omega)))).out.mono ?_
    rintro e x1 ⟨a1, n1, p1, rfl, hP, hK, hT⟩
    have hz_x1 := hK.size
    try simp only [World.size_alloc, World.size_setCell, World.size_drew, World.heap_drewN] at hz_x1
    have O_x1_0 : OwnB x1 (q) #[.int .i64 0, .slice none 0 0, .slice none 0 0, .int .i64 0, .int .i64 0, .int .i64 0, .string ⟨#[]⟩, .int .i64 0, .int .i64 p] 82 := OwnB.call OwnB.au hK (by simp only [List.mem_singleton]; omega)
    obtain ⟨y_x1_0, x_x1_0, b_x1_0⟩ := O_x1_0.facts
    have HSa := Lib.hid (NowS.callE (NowS.to HS0.out [q] Keeps.au (by simp <;> omega) (by simp [kq, mq] <;> omega)) hP hK hT)
    clear hP hK hT
    go_wp2_with fail
    refine (CB _ (NowS.pin (NowS.to HSa.out [q] Keeps.au (by simp <;> omega) (by simp [kq, mq] <;> omega)))).out.mono ?_
    rintro e x2 ⟨a2, n2, p2, rfl, hP, hK, hT⟩
    have hz_x2 := hK.size
    try simp only [World.size_alloc, World.size_setCell, World.size_drew, World.heap_drewN] at hz_x2
    have O_x2_0 : OwnB x2 (q) #[.int .i64 4, .slice a1 n1 p1, .slice none 0 0, .int .i64 0, .int .i64 0, .int .i64 0, .string ⟨#[]⟩, .int .i64 0, .int .i64 p] 82 := OwnB.call (by repeat (first | with_reducible apply OwnB.s9_0 | with_reducible apply OwnB.s9_1 | with_reducible apply OwnB.s9_2 | with_reducible apply OwnB.s9_3 | with_reducible apply OwnB.s9_4 | with_reducible apply OwnB.s9_5 | with_reducible apply OwnB.s9_6 | with_reducible apply OwnB.s9_7 | with_reducible apply OwnB.s9_8 | with_reducible assumption | (with_reducible refine OwnB.new ?_; (first | with_reducible rfl | (simp only [World.size_alloc, World.size_setCell, World.size_drew, World.heap_drewN]; done) | (simp only [World.size_alloc, World.size_setCell, World.size_drew, World.heap_drewN]; omega))) | with_reducible refine OwnB.alloc ?_ _ | with_reducible refine OwnB.drew ?_ | with_reducible refine OwnB.drewN ?_ _ | with_reducible refine OwnB.setCell ?_ _ _ ?_ | (dsimp only; omega) | omega)) hK (by simp only [List.mem_singleton]; omega)
    obtain ⟨y_x2_0, x_x2_0, b_x2_0⟩ := O_x2_0.facts
    have HSb := Lib.hid (NowS.callS (NowS.to HSa.out [q] Keeps.au (by simp <;> omega) (by simp [kq, mq] <;> omega)) hP hK hT)
    clear hP hK hT
    go_wp2_with fail
    refine (CZ _ (NowS.pin (NowS.to HSb.out [q] Keeps.au (by simp <;> omega) (by simp [kq, mq] <;> omega)))).out.mono ?_
    rintro e x3 ⟨rfl, hP, hK⟩
    have hz_x3 := hK.size
    try simp only [World.size_alloc, World.size_setCell, World.size_drew, World.heap_drewN] at hz_x3
    have O_x3_0 : OwnB x3 (q) #[.int .i64 4, .slice a1 n1 p1, .slice a2 n2 p2, .int .i64 0, .int .i64 0, .int .i64 0, .string ⟨#[]⟩, .int .i64 0, .int .i64 p] 82 := OwnB.call (by repeat (first | with_reducible apply OwnB.s9_0 | with_reducible apply OwnB.s9_1 | with_reducible apply OwnB.s9_2 | with_reducible apply OwnB.s9_3 | with_reducible apply OwnB.s9_4 | with_reducible apply OwnB.s9_5 | with_reducible apply OwnB.s9_6 | with_reducible apply OwnB.s9_7 | with_reducible apply OwnB.s9_8 | with_reducible assumption | (with_reducible refine OwnB.new ?_; (first | with_reducible rfl | (simp only [World.size_alloc, World.size_setCell, World.size_drew, World.heap_drewN]; done) | (simp only [World.size_alloc, World.size_setCell, World.size_drew, World.heap_drewN]; omega))) | with_reducible refine OwnB.alloc ?_ _ | with_reducible refine OwnB.drew ?_ | with_reducible refine OwnB.drewN ?_ _ | with_reducible refine OwnB.setCell ?_ _ _ ?_ | (dsimp only; omega) | omega)) hK (by simp only [List.mem_singleton]; omega)
    obtain ⟨y_x3_0, x_x3_0, b_x3_0⟩ := O_x3_0.facts
    have HSc := Lib.hid (NowS.call (NowS.to HSb.out [q] Keeps.au (by simp <;> omega) (by simp [kq, mq] <;> omega)) hP hK)
    clear hP hK
    go_wp2_with fail
    go_ret
    exact NowS.finBoth (R := (({ sm0 with op := 4, ex := A.1, body := B.1, pos := p } : Sm), B.2)) HSc.out O_x3_0 (by (try simp only [World.size_alloc, World.size_setCell, World.size_drew, World.heap_drewN]); omega)
  | true =>
    rw [ke, if_pos rfl] at hV
    obtain ⟨D, hD, hV⟩ := Option.bind_eq_some_iff.1 hV
    obtain rfl := Option.some.inj hV
    exact holding_else_ c hc f GA d p s w q h0 hd hq hn h k0 s1 hs1 A hA B hB ke D hD

theorem holding_none_ (c : Cx) (hc : c.Ok) (f : Nat) (GA : ∀ k, k ≤ f → GoodS c k) (d p : Int) (s : St) (R : Option (Sm × St)) (w : World) (q : Nat) (h0 : 0 ≤ d) (hd : d + (f + 1) ≤ 1000000000) (hq : OwnB w q #[.int .i64 0, .slice none 0 0, .slice none 0 0, .int .i64 0, .int .i64 0, .int .i64 0, .string ⟨#[]⟩, .int .i64 0, .int .i64 p] 82)
    (hn : q ≠ c.g ∧ q ≠ c.gt ∧ q ≠ c.mb ∧ q ≠ 2) (hR : P.holding c.l (P.recs c.l f) d s { sm0 with pos := p } = some R) (h : PIn w c s) (k0 : P.is c.l [105, 102] s = false) (k1 : P.is c.l [119, 104, 105, 108, 101] s = false) (k2 : P.is c.l [115, 119, 105, 116, 99, 104] s = false) (k3 : P.is c.l [102, 111, 114] s = false) (k4 : P.is c.l [100, 111] s = false) : Calls Tryd.prog 77 #[pv c, .pointer (some ⟨q, 0, none⟩), .int .i64 d] w (DoesP c q { sm0 with pos := p } s R w) := by
  have hqlt := lt_of_blk hq.blk
  have hq1 : q ≠ c.g := hn.1
  have HN := Lib.hid (NowQ.start h)
  have HS := Lib.hid (NowS.start h hqlt hn)
  have hg := HS.out.g
  have hgt := HS.out.gt
  obtain ⟨yq, xq, zq⟩ := hq.facts
  have hw : wrap64 (d + 1) = d + 1 := wrapJ (by omega) (by omega)
  have hw' : IntKind.i64.wrap (d + 1) = d + 1 := wrapI (by omega) (by omega)
  unfold P.holding at hR
  have CA0 := fun W H => Lib.hid (accept_any c hc s W H [105, 102])
  rw [k0, show P.acc c.l [105, 102] s = s by simp [P.acc, k0]] at CA0
  rw [k0, if_neg (by simp)] at hR
  have CA1 := fun W H => Lib.hid (accept_any c hc s W H [119, 104, 105, 108, 101])
  rw [k1, show P.acc c.l [119, 104, 105, 108, 101] s = s by simp [P.acc, k1]] at CA1
  rw [k1, if_neg (by simp)] at hR
  have CA2 := fun W H => Lib.hid (accept_any c hc s W H [115, 119, 105, 116, 99, 104])
  rw [k2, show P.acc c.l [115, 119, 105, 116, 99, 104] s = s by simp [P.acc, k2]] at CA2
  rw [k2, if_neg (by simp)] at hR
  have CA3 := fun W H => Lib.hid (accept_any c hc s W H [102, 111, 114])
  rw [k3, show P.acc c.l [102, 111, 114] s = s by simp [P.acc, k3]] at CA3
  rw [k3, if_neg (by simp)] at hR
  have CA4 := fun W H => Lib.hid (accept_any c hc s W H [100, 111])
  rw [k4, show P.acc c.l [100, 111] s = s by simp [P.acc, k4]] at CA4
  rw [k4, if_neg (by simp)] at hR
  obtain rfl := Option.some.inj hR
  clear h hR k0 k1 k2 k3 k4
  unfold pv
  go_enter Tryd.func77, Tryd.ntmps77
  go_wp2_with fail
  refine (CA0 _ (NowQ.pin (NowQ.to HN.out [] Keeps.au (fun b hb => absurd hb List.not_mem_nil) (fun q _ b hb => absurd hb List.not_mem_nil)))).out.mono ?_
  rintro e v0 ⟨rfl, hP, hK⟩
  have hz_v0 := hK.size
  try simp only [World.size_alloc, World.size_setCell, World.size_drew, World.heap_drewN] at hz_v0
  have HN0 := Lib.hid (NowQ.call (NowQ.to HN.out [] Keeps.au (fun b hb => absurd hb List.not_mem_nil) (fun q _ b hb => absurd hb List.not_mem_nil)) hP hK)
  clear hP hK
  go_wp2_with fail
  refine (CA1 _ (NowQ.pin (NowQ.to HN0.out [] Keeps.au (fun b hb => absurd hb List.not_mem_nil) (fun q _ b hb => absurd hb List.not_mem_nil)))).out.mono ?_
  rintro e v1 ⟨rfl, hP, hK⟩
  have hz_v1 := hK.size
  try simp only [World.size_alloc, World.size_setCell, World.size_drew, World.heap_drewN] at hz_v1
  have HN1 := Lib.hid (NowQ.call (NowQ.to HN0.out [] Keeps.au (fun b hb => absurd hb List.not_mem_nil) (fun q _ b hb => absurd hb List.not_mem_nil)) hP hK)
  clear hP hK
  go_wp2_with fail
  refine (CA2 _ (NowQ.pin (NowQ.to HN1.out [] Keeps.au (fun b hb => absurd hb List.not_mem_nil) (fun q _ b hb => absurd hb List.not_mem_nil)))).out.mono ?_
  rintro e v2 ⟨rfl, hP, hK⟩
  have hz_v2 := hK.size
  try simp only [World.size_alloc, World.size_setCell, World.size_drew, World.heap_drewN] at hz_v2
  have HN2 := Lib.hid (NowQ.call (NowQ.to HN1.out [] Keeps.au (fun b hb => absurd hb List.not_mem_nil) (fun q _ b hb => absurd hb List.not_mem_nil)) hP hK)
  clear hP hK
  go_wp2_with fail
  refine (CA3 _ (NowQ.pin (NowQ.to HN2.out [] Keeps.au (fun b hb => absurd hb List.not_mem_nil) (fun q _ b hb => absurd hb List.not_mem_nil)))).out.mono ?_
  rintro e v3 ⟨rfl, hP, hK⟩
  have hz_v3 := hK.size
  try simp only [World.size_alloc, World.size_setCell, World.size_drew, World.heap_drewN] at hz_v3
  have HN3 := Lib.hid (NowQ.call (NowQ.to HN2.out [] Keeps.au (fun b hb => absurd hb List.not_mem_nil) (fun q _ b hb => absurd hb List.not_mem_nil)) hP hK)
  clear hP hK
  go_wp2_with fail
  refine (CA4 _ (NowQ.pin (NowQ.to HN3.out [] Keeps.au (fun b hb => absurd hb List.not_mem_nil) (fun q _ b hb => absurd hb List.not_mem_nil)))).out.mono ?_
  rintro e v4 ⟨rfl, hP, hK⟩
  have hz_v4 := hK.size
  try simp only [World.size_alloc, World.size_setCell, World.size_drew, World.heap_drewN] at hz_v4
  have HN4 := Lib.hid (NowQ.call (NowQ.to HN3.out [] Keeps.au (fun b hb => absurd hb List.not_mem_nil) (fun q _ b hb => absurd hb List.not_mem_nil)) hP hK)
  clear hP hK
  go_wp2_with fail
  go_ret
  exact ⟨rfl, HN4.out.now.pin, HN4.out.now.kp⟩

theorem holding_step (c : Cx) (hc : c.Ok) (f : Nat) (GA : ∀ k, k ≤ f → GoodS c k) (d p : Int) (s : St) (R : Option (Sm × St)) (w : World) (q : Nat) (h0 : 0 ≤ d) (hd : d + (f + 1) ≤ 1000000000) (hq : OwnB w q #[.int .i64 0, .slice none 0 0, .slice none 0 0, .int .i64 0, .int .i64 0, .int .i64 0, .string ⟨#[]⟩, .int .i64 0, .int .i64 p] 82)
    (hn : q ≠ c.g ∧ q ≠ c.gt ∧ q ≠ c.mb ∧ q ≠ 2) (hR : P.holding c.l (P.recs c.l f) d s { sm0 with pos := p } = some R) (h : PIn w c s) : Calls Tryd.prog 77 #[pv c, .pointer (some ⟨q, 0, none⟩), .int .i64 d] w (DoesP c q { sm0 with pos := p } s R w) := by
  cases k0 : P.is c.l [105, 102] s with
  | true => exact holding_if_ c hc f GA d p s R w q h0 hd hq hn hR h k0
  | false =>
    cases k1 : P.is c.l [119, 104, 105, 108, 101] s with
    | true => exact holding_while_ c hc f GA d p s R w q h0 hd hq hn hR h k0 k1
    | false =>
      cases k2 : P.is c.l [115, 119, 105, 116, 99, 104] s with
      | true => exact holding_switch_ c hc f GA d p s R w q h0 hd hq hn hR h k0 k1 k2
      | false =>
        cases k3 : P.is c.l [102, 111, 114] s with
        | true => exact holding_for_ c hc f GA d p s R w q h0 hd hq hn hR h k0 k1 k2 k3
        | false =>
          cases k4 : P.is c.l [100, 111] s with
          | true => exact holding_do_ c hc f GA d p s R w q h0 hd hq hn hR h k0 k1 k2 k3 k4
          | false =>
            exact holding_none_ c hc f GA d p s R w q h0 hd hq hn hR h k0 k1 k2 k3 k4

end Go.Proofs.YtjmemapkipkocaaDoor

/-
  Statements: 'stmt', and all that call themselves.
-/
namespace Go.Proofs.YtjmemapkipkocaaDoor
open Go.RowKit Go.Maps
set_option linter.unusedVariables false
set_option linter.unusedSimpArgs false
set_option maxRecDepth 100000
set_option maxHeartbeats 2000000

theorem NowQ.finT {c : Cx} {w W : World} {L : List KQ} {R : Sm × St} {a a' : Option Addr} {n cp n' cp' lo hi : Nat} {X : List Nat} (h : NowQ c w R.2 (mq lo hi X R.1.ex (.slice a n cp) R.1.body (.slice a' n' cp') :: L) W) :
    DoesT c R w (.returned (.agg #[.int .i64 R.1.op, .slice a n cp, .slice a' n' cp', .int .i64 R.1.ty.kind, .int .i64 R.1.ty.ptr, .int .i64 R.1.ty.len, .string ⟨R.1.nm.toArray⟩, .int .i64 R.1.n, .int .i64 R.1.pos])) W := ⟨a, n, cp, a', n', cp', rfl, h.now.pin, h.now.kp, MIn.wide h.q0.2.2 h.q0.1 h.q0.2.1 (Nat.le_refl _)⟩
theorem keeps_own {g q : Nat} {W W' : World} {b : Nat} {cs : Array Value} {T : TypeId} (h : OwnB W b cs T) (k : Keeps [g, q] W W') (h1 : b ≠ g) (h2 : b ≠ q) : OwnB W' b cs T := h.call k (by simp [h1, h2])
theorem NowQ.callP {c : Cx} {w W W' : World} {s s' : St} {L : List KQ} {q : Nat} (h : NowQ c w s L W) (hq : w.heap.size ≤ q) (hqL : ∀ p ∈ L, q < p.lo ∨ p.hi ≤ q ∨ q ∈ p.X) {ex : Exs} {ev : Value} {body : Sts} {bv : Value} (h1 : PIn W' c s') (h2 : Keeps [c.g, q] W W') (h3 : MIn W' W.heap.size W'.heap.size [] ex ev body bv) :
    NowQ c w s' (mq W.heap.size W'.heap.size [] ex ev body bv :: L) W' := by
  refine ⟨⟨h1, h.now.kp.then_ h2 (by intro x hx; simp only [List.mem_cons, List.not_mem_nil, or_false] at hx; rcases hx with rfl | rfl <;> simp [*]), h.now.g, h.now.gt, h.now.mb, h.now.sz⟩, fun p hp => ?_⟩
  rcases List.mem_cons.1 hp with rfl | hp
  · exact ⟨h.now.kp.size, Nat.le_refl _, h3⟩
  · obtain ⟨h4, h5, h6⟩ := h.all p hp
    refine ⟨h4, Nat.le_trans h5 h2.size, p.st W W' h2.size (fun b hl hh hx => h2.block b (by omega) ?_) h6⟩
    simp only [List.mem_cons, List.not_mem_nil, or_false]
    have := h.now.g
    rintro (rfl | rfl)
    · omega
    · rcases hqL p hp with h7 | h7 | h7
      · omega
      · omega
      · exact hx h7
theorem stmt_step (c : Cx) (hc : c.Ok) (f : Nat) (GA : ∀ k, k ≤ f → GoodS c k) (d : Int) (s : St) (R : Sm × St) (w : World) (h0 : 0 ≤ d) (hd : d + (f + 1) ≤ 1000000000)
    (hR : P.stmt c.l (P.recs c.l f) d s = some R) (h : PIn w c s) : Calls Tryd.prog 68 #[pv c, .int .i64 d] w (DoesT c R w) := by
  have HN := Lib.hid (NowQ.start h)
  have hg := HN.out.now.g
  have hgt := HN.out.now.gt
  have hmb := HN.out.now.mb
  have hsz := HN.out.now.sz
  have CB := fun W H => Lib.hid (begin_any c hc s W H d)
  unfold P.stmt at hR
  obtain ⟨s1, hs1⟩ : ∃ s1, s1 = P.begin c.l d s := ⟨_, rfl⟩
  rw [← hs1] at hR CB
  have CT := fun W H => Lib.hid (token_any c hc s1 W H)
  obtain ⟨U, hU⟩ : ∃ U, U = P.tok c.l s1 := ⟨_, rfl⟩
  rw [← hU] at hR CT
  unfold P.stmt1 at hR
  obtain ⟨A, hA, hR⟩ := Option.bind_eq_some_iff.1 hR
  have CS := fun W q HO hn H => Lib.hid (short_step c hc f d U.pos s1 A W q h0 hd HO hn hA H)
  have HGA := Lib.hid GA
  have tk0 := tok_field0
  have tk1 := tok_field1
  have tk2 := tok_field2
  have tk3 := tok_field3
  cases A with
  | some V =>
    obtain rfl := Option.some.inj hR
    unfold DoesP at CS
    clear h hR hA hs1 hU GA
    unfold pv
    go_enter Tryd.func68, Tryd.ntmps68
    go_wp2_with fail
    refine (CB _ (NowQ.pin (NowQ.to HN.out [w.heap.size] Keeps.au (by simp <;> omega) (by simp [kq, mq] <;> omega)))).out.mono ?_
    rintro e x1 ⟨rfl, hP, hK⟩
    have hz_x1 := hK.size
    try simp only [World.size_alloc, World.size_setCell, World.size_drew, World.heap_drewN] at hz_x1
    have O_x1_0 : OwnB x1 (w.heap.size) #[.int .i64 0, .slice none 0 0, .slice none 0 0, .int .i64 0, .int .i64 0, .int .i64 0, .string ⟨#[]⟩, .int .i64 0, .int .i64 0] 82 := OwnB.call OwnB.au hK (by simp only [List.mem_singleton]; omega)
    obtain ⟨y_x1_0, x_x1_0, b_x1_0⟩ := O_x1_0.facts
    have HN1 := Lib.hid (NowQ.call (NowQ.to HN.out [w.heap.size] Keeps.au (by simp <;> omega) (by simp [kq, mq] <;> omega)) hP hK)
    clear hP hK
    go_wp2_with fail
    refine (CT _ (NowQ.pin (NowQ.to HN1.out [w.heap.size] Keeps.au (by simp <;> omega) (by simp [kq, mq] <;> omega)))).out.mono ?_
    rintro e x2 ⟨rfl, hP, hK⟩
    have hz_x2 := hK.size
    try simp only [World.size_alloc, World.size_setCell, World.size_drew, World.heap_drewN] at hz_x2
    have O_x2_0 : OwnB x2 (w.heap.size) #[.int .i64 0, .slice none 0 0, .slice none 0 0, .int .i64 0, .int .i64 0, .int .i64 0, .string ⟨#[]⟩, .int .i64 0, .int .i64 0] 82 := OwnB.call OwnB.au hK (by simp only [List.mem_singleton]; omega)
    obtain ⟨y_x2_0, x_x2_0, b_x2_0⟩ := O_x2_0.facts
    have HN2 := Lib.hid (NowQ.call (NowQ.to HN1.out [w.heap.size] Keeps.au (by simp <;> omega) (by simp [kq, mq] <;> omega)) hP hK)
    clear hP hK
    go_wp2_with fail
    refine (CS _ x2.heap.size (OwnB.new rfl) ⟨by omega, by omega, by omega, by omega⟩ (NowQ.pin (NowQ.to HN2.out [w.heap.size, x2.heap.size] Keeps.au (by simp <;> omega) (by simp [kq, mq] <;> omega)))).out.mono ?_
    rintro e x3 ⟨a1, n1, p1, b1, m1, r1, rfl, hP, hK, hO, hT⟩
    have O_w := keeps_own (OwnB.alloc O_x2_0 _) hK (by omega) (by omega)
    have hz3 := hK.size
    try simp only [World.size_alloc, World.size_setCell, World.size_drew, World.heap_drewN] at hz3
    obtain ⟨y3, z3, b3⟩ := hO.facts
    obtain ⟨y4, z4, b4⟩ := O_w.facts
    have HN3 := Lib.hid (NowQ.callP (q := x2.heap.size) (NowQ.to HN2.out [w.heap.size, x2.heap.size] Keeps.au (by simp <;> omega) (by simp [kq, mq] <;> omega)) (by omega) (fun p hp => absurd hp List.not_mem_nil) hP hK hT)
    clear hP hK hT
    go_wp2_with fail
    refine bodyPost_ret (v := .agg #[.int .i64 V.1.op, .slice a1 n1 p1, .slice b1 m1 r1, .int .i64 V.1.ty.kind, .int .i64 V.1.ty.ptr, .int .i64 V.1.ty.len, .string ⟨V.1.nm.toArray⟩, .int .i64 V.1.n, .int .i64 V.1.pos]) (by simp [results, Tryd.results68, go_sem, *]) rfl ?_
    exact NowQ.finT (NowQ.to HN3.out [w.heap.size, x2.heap.size] Keeps.au (by simp <;> omega) (by simp [kq, mq] <;> omega))
  | none =>
    obtain ⟨B, hB, hR⟩ := Option.bind_eq_some_iff.1 hR
    have CH := fun W q HO hn H => Lib.hid (holding_step c hc f GA d U.pos s1 B W q h0 hd HO hn hB H)
    unfold DoesP at CS
    cases B with
    | some V =>
      obtain rfl := Option.some.inj hR
      unfold DoesP at CH
      clear h hR hA hB hs1 hU GA
      unfold pv
      go_enter Tryd.func68, Tryd.ntmps68
      go_wp2_with fail
      refine (CB _ (NowQ.pin (NowQ.to HN.out [w.heap.size] Keeps.au (by simp <;> omega) (by simp [kq, mq] <;> omega)))).out.mono ?_
      rintro e x1 ⟨rfl, hP, hK⟩
      have hz_x1 := hK.size
      try simp only [World.size_alloc, World.size_setCell, World.size_drew, World.heap_drewN] at hz_x1
      have O_x1_0 : OwnB x1 (w.heap.size) #[.int .i64 0, .slice none 0 0, .slice none 0 0, .int .i64 0, .int .i64 0, .int .i64 0, .string ⟨#[]⟩, .int .i64 0, .int .i64 0] 82 := OwnB.call OwnB.au hK (by simp only [List.mem_singleton]; omega)
      obtain ⟨y_x1_0, x_x1_0, b_x1_0⟩ := O_x1_0.facts
      have HN1 := Lib.hid (NowQ.call (NowQ.to HN.out [w.heap.size] Keeps.au (by simp <;> omega) (by simp [kq, mq] <;> omega)) hP hK)
      clear hP hK
      go_wp2_with fail
      refine (CT _ (NowQ.pin (NowQ.to HN1.out [w.heap.size] Keeps.au (by simp <;> omega) (by simp [kq, mq] <;> omega)))).out.mono ?_
      rintro e x2 ⟨rfl, hP, hK⟩
      have hz_x2 := hK.size
      try simp only [World.size_alloc, World.size_setCell, World.size_drew, World.heap_drewN] at hz_x2
      have O_x2_0 : OwnB x2 (w.heap.size) #[.int .i64 0, .slice none 0 0, .slice none 0 0, .int .i64 0, .int .i64 0, .int .i64 0, .string ⟨#[]⟩, .int .i64 0, .int .i64 0] 82 := OwnB.call OwnB.au hK (by simp only [List.mem_singleton]; omega)
      obtain ⟨y_x2_0, x_x2_0, b_x2_0⟩ := O_x2_0.facts
      have HN2 := Lib.hid (NowQ.call (NowQ.to HN1.out [w.heap.size] Keeps.au (by simp <;> omega) (by simp [kq, mq] <;> omega)) hP hK)
      clear hP hK
      go_wp2_with fail
      refine (CS _ x2.heap.size (OwnB.new rfl) ⟨by omega, by omega, by omega, by omega⟩ (NowQ.pin (NowQ.to HN2.out [w.heap.size, x2.heap.size] Keeps.au (by simp <;> omega) (by simp [kq, mq] <;> omega)))).out.mono ?_
      rintro e x4 ⟨rfl, hP, hK⟩
      have hz_x4 := hK.size
      try simp only [World.size_alloc, World.size_setCell, World.size_drew, World.heap_drewN] at hz_x4
      have O_x4_0 : OwnB x4 (w.heap.size) #[.int .i64 0, .slice none 0 0, .slice none 0 0, .int .i64 0, .int .i64 0, .int .i64 0, .string ⟨#[]⟩, .int .i64 0, .int .i64 0] 82 := OwnB.call OwnB.au hK (by simp only [List.mem_singleton]; omega)
      obtain ⟨y_x4_0, x_x4_0, b_x4_0⟩ := O_x4_0.facts
      have O_x4_1 : OwnB x4 (x2.heap.size) #[.int .i64 0, .slice none 0 0, .slice none 0 0, .int .i64 0, .int .i64 0, .int .i64 0, .string ⟨#[]⟩, .int .i64 0, .int .i64 U.pos] 82 := OwnB.call OwnB.au hK (by simp only [List.mem_singleton]; omega)
      obtain ⟨y_x4_1, x_x4_1, b_x4_1⟩ := O_x4_1.facts
      have HN4 := Lib.hid (NowQ.call (NowQ.to HN2.out [w.heap.size, x2.heap.size] Keeps.au (by simp <;> omega) (by simp [kq, mq] <;> omega)) hP hK)
      clear hP hK
      go_wp2_with fail
      refine (CH _ x2.heap.size O_x4_1 ⟨by omega, by omega, by omega, by omega⟩ (NowQ.pin (NowQ.to HN4.out [w.heap.size, x2.heap.size] Keeps.au (by simp <;> omega) (by simp [kq, mq] <;> omega)))).out.mono ?_
      rintro e x3 ⟨a1, n1, p1, b1, m1, r1, rfl, hP, hK, hO, hT⟩
      have O_w := keeps_own O_x4_0 hK (by omega) (by omega)
      have hz3 := hK.size
      try simp only [World.size_alloc, World.size_setCell, World.size_drew, World.heap_drewN] at hz3
      obtain ⟨y3, z3, b3⟩ := hO.facts
      obtain ⟨y4, z4, b4⟩ := O_w.facts
      have HN3 := Lib.hid (NowQ.callP (q := x2.heap.size) (NowQ.to HN4.out [w.heap.size, x2.heap.size] Keeps.au (by simp <;> omega) (by simp [kq, mq] <;> omega)) (by omega) (fun p hp => absurd hp List.not_mem_nil) hP hK hT)
      clear hP hK hT
      go_wp2_with fail
      refine bodyPost_ret (v := .agg #[.int .i64 V.1.op, .slice a1 n1 p1, .slice b1 m1 r1, .int .i64 V.1.ty.kind, .int .i64 V.1.ty.ptr, .int .i64 V.1.ty.len, .string ⟨V.1.nm.toArray⟩, .int .i64 V.1.n, .int .i64 V.1.pos]) (by simp [results, Tryd.results68, go_sem, *]) rfl ?_
      exact NowQ.finT (NowQ.to HN3.out [w.heap.size, x2.heap.size] Keeps.au (by simp <;> omega) (by simp [kq, mq] <;> omega))
    | none =>
      have CW := fun W q HO hn H => Lib.hid (wordless_step c hc f d U.pos s1 R W q h0 hd HO hn GA hR H)
      unfold DoesP at CH
      clear h hR hA hB hs1 hU GA
      unfold pv
      go_enter Tryd.func68, Tryd.ntmps68
      go_wp2_with fail
      refine (CB _ (NowQ.pin (NowQ.to HN.out [w.heap.size] Keeps.au (by simp <;> omega) (by simp [kq, mq] <;> omega)))).out.mono ?_
      rintro e x1 ⟨rfl, hP, hK⟩
      have hz_x1 := hK.size
      try simp only [World.size_alloc, World.size_setCell, World.size_drew, World.heap_drewN] at hz_x1
      have O_x1_0 : OwnB x1 (w.heap.size) #[.int .i64 0, .slice none 0 0, .slice none 0 0, .int .i64 0, .int .i64 0, .int .i64 0, .string ⟨#[]⟩, .int .i64 0, .int .i64 0] 82 := OwnB.call OwnB.au hK (by simp only [List.mem_singleton]; omega)
      obtain ⟨y_x1_0, x_x1_0, b_x1_0⟩ := O_x1_0.facts
      have HN1 := Lib.hid (NowQ.call (NowQ.to HN.out [w.heap.size] Keeps.au (by simp <;> omega) (by simp [kq, mq] <;> omega)) hP hK)
      clear hP hK
      go_wp2_with fail
      refine (CT _ (NowQ.pin (NowQ.to HN1.out [w.heap.size] Keeps.au (by simp <;> omega) (by simp [kq, mq] <;> omega)))).out.mono ?_
      rintro e x2 ⟨rfl, hP, hK⟩
      have hz_x2 := hK.size
      try simp only [World.size_alloc, World.size_setCell, World.size_drew, World.heap_drewN] at hz_x2
      have O_x2_0 : OwnB x2 (w.heap.size) #[.int .i64 0, .slice none 0 0, .slice none 0 0, .int .i64 0, .int .i64 0, .int .i64 0, .string ⟨#[]⟩, .int .i64 0, .int .i64 0] 82 := OwnB.call OwnB.au hK (by simp only [List.mem_singleton]; omega)
      obtain ⟨y_x2_0, x_x2_0, b_x2_0⟩ := O_x2_0.facts
      have HN2 := Lib.hid (NowQ.call (NowQ.to HN1.out [w.heap.size] Keeps.au (by simp <;> omega) (by simp [kq, mq] <;> omega)) hP hK)
      clear hP hK
      go_wp2_with fail
      refine (CS _ x2.heap.size (OwnB.new rfl) ⟨by omega, by omega, by omega, by omega⟩ (NowQ.pin (NowQ.to HN2.out [w.heap.size, x2.heap.size] Keeps.au (by simp <;> omega) (by simp [kq, mq] <;> omega)))).out.mono ?_
      rintro e x4 ⟨rfl, hP, hK⟩
      have hz_x4 := hK.size
      try simp only [World.size_alloc, World.size_setCell, World.size_drew, World.heap_drewN] at hz_x4
      have O_x4_0 : OwnB x4 (w.heap.size) #[.int .i64 0, .slice none 0 0, .slice none 0 0, .int .i64 0, .int .i64 0, .int .i64 0, .string ⟨#[]⟩, .int .i64 0, .int .i64 0] 82 := OwnB.call OwnB.au hK (by simp only [List.mem_singleton]; omega)
      obtain ⟨y_x4_0, x_x4_0, b_x4_0⟩ := O_x4_0.facts
      have O_x4_1 : OwnB x4 (x2.heap.size) #[.int .i64 0, .slice none 0 0, .slice none 0 0, .int .i64 0, .int .i64 0, .int .i64 0, .string ⟨#[]⟩, .int .i64 0, .int .i64 U.pos] 82 := OwnB.call OwnB.au hK (by simp only [List.mem_singleton]; omega)
      obtain ⟨y_x4_1, x_x4_1, b_x4_1⟩ := O_x4_1.facts
      have HN4 := Lib.hid (NowQ.call (NowQ.to HN2.out [w.heap.size, x2.heap.size] Keeps.au (by simp <;> omega) (by simp [kq, mq] <;> omega)) hP hK)
      clear hP hK
      go_wp2_with fail
      refine (CH _ x2.heap.size O_x4_1 ⟨by omega, by omega, by omega, by omega⟩ (NowQ.pin (NowQ.to HN4.out [w.heap.size, x2.heap.size] Keeps.au (by simp <;> omega) (by simp [kq, mq] <;> omega)))).out.mono ?_
      rintro e x5 ⟨rfl, hP, hK⟩
      have hz_x5 := hK.size
      try simp only [World.size_alloc, World.size_setCell, World.size_drew, World.heap_drewN] at hz_x5
      have O_x5_0 : OwnB x5 (w.heap.size) #[.int .i64 0, .slice none 0 0, .slice none 0 0, .int .i64 0, .int .i64 0, .int .i64 0, .string ⟨#[]⟩, .int .i64 0, .int .i64 0] 82 := OwnB.call OwnB.au hK (by simp only [List.mem_singleton]; omega)
      obtain ⟨y_x5_0, x_x5_0, b_x5_0⟩ := O_x5_0.facts
      have O_x5_1 : OwnB x5 (x2.heap.size) #[.int .i64 0, .slice none 0 0, .slice none 0 0, .int .i64 0, .int .i64 0, .int .i64 0, .string ⟨#[]⟩, .int .i64 0, .int .i64 U.pos] 82 := OwnB.call OwnB.au hK (by simp only [List.mem_singleton]; omega)
      obtain ⟨y_x5_1, x_x5_1, b_x5_1⟩ := O_x5_1.facts
      have HN5 := Lib.hid (NowQ.call (NowQ.to HN4.out [w.heap.size, x2.heap.size] Keeps.au (by simp <;> omega) (by simp [kq, mq] <;> omega)) hP hK)
      clear hP hK
      go_wp2_with fail
      refine (CW _ x2.heap.size O_x5_1 ⟨by omega, by omega, by omega, by omega⟩ (NowQ.pin (NowQ.to HN5.out [w.heap.size, x2.heap.size] Keeps.au (by simp <;> omega) (by simp [kq, mq] <;> omega)))).out.mono ?_
      rintro e x3 ⟨a1, n1, p1, b1, m1, r1, rfl, hP, hK, hO, hT⟩
      have O_w := keeps_own O_x5_0 hK (by omega) (by omega)
      have hz3 := hK.size
      try simp only [World.size_alloc, World.size_setCell, World.size_drew, World.heap_drewN] at hz3
      obtain ⟨y3, z3, b3⟩ := hO.facts
      obtain ⟨y4, z4, b4⟩ := O_w.facts
      have HN3 := Lib.hid (NowQ.callP (q := x2.heap.size) (NowQ.to HN5.out [w.heap.size, x2.heap.size] Keeps.au (by simp <;> omega) (by simp [kq, mq] <;> omega)) (by omega) (fun p hp => absurd hp List.not_mem_nil) hP hK hT)
      clear hP hK hT
      go_wp2_with fail
      refine bodyPost_ret (v := .agg #[.int .i64 R.1.op, .slice a1 n1 p1, .slice b1 m1 r1, .int .i64 R.1.ty.kind, .int .i64 R.1.ty.ptr, .int .i64 R.1.ty.len, .string ⟨R.1.nm.toArray⟩, .int .i64 R.1.n, .int .i64 R.1.pos]) (by simp [results, Tryd.results68, go_sem, *]) rfl ?_
      exact NowQ.finT (NowQ.to HN3.out [w.heap.size, x2.heap.size] Keeps.au (by simp <;> omega) (by simp [kq, mq] <;> omega))
theorem goodS_upto (c : Cx) (hc : c.Ok) : ∀ f : Nat, ∀ k, k ≤ f → GoodS c k := by
  intro f
  induction f with
  | zero =>
    intro k hk
    obtain rfl : k = 0 := by omega
    exact ⟨fun _ _ _ _ _ _ h _ => absurd h (by simp [P.recs, P.rec0])⟩
  | succ f ih =>
    intro k hk
    by_cases hkf : k ≤ f
    · exact ih k hkf
    · obtain rfl : k = f + 1 := by omega
      exact ⟨fun d s R w h0 hd hR h => stmt_step c hc f ih d s R w h0 (by omega) hR h⟩
theorem goodS (c : Cx) (hc : c.Ok) (f : Nat) : GoodS c f := goodS_upto c hc f f (Nat.le_refl _)
end Go.Proofs.YtjmemapkipkocaaDoor

/-
  The small functions of lex: letters, digits, blanks.
-/
namespace Go.Proofs.YtjmemapkipkocaaDoor
open Go.RowKit
set_option linter.unusedVariables false
set_option linter.unusedSimpArgs false

/-- What an integer between 48 and 57 is, or a letter's. -/
def digI (x : Int) : Bool := decide (48 ≤ x) && decide (x ≤ 57)
def ltrI (x : Int) : Bool := x == 95 || (decide (97 ≤ x) && decide (x ≤ 122)) || (decide (65 ≤ x) && decide (x ≤ 90))
theorem digI_eq (c : UInt8) : digI c.toNat = isDig c := by
  rw [Bool.eq_iff_iff]; simp [digI, isDig, UInt8.le_iff_toNat_le]; omega
theorem ltrI_eq (c : UInt8) : ltrI c.toNat = isLet c := by
  have e : c = 95 ↔ c.toNat = 95 := ⟨fun h => by rw [h]; rfl, fun h => UInt8.toNat_inj.1 (by rw [h]; rfl)⟩
  rw [Bool.eq_iff_iff]; simp [ltrI, isLet, UInt8.le_iff_toNat_le, e]; omega
theorem isDigitI (x : Int) (w : World) : Calls Tryd.prog 34 #[.int .u8 x] w fun e w' => e = .returned (.bool (digI x)) ∧ w = w' := by
  by_cases h : 48 ≤ x <;> by_cases h2 : x ≤ 57
  all_goals (
    go_enter Tryd.func34, Tryd.ntmps34
    go_wp2
    go_ret
    exact ⟨by simp [digI, h, h2], rfl⟩)
theorem isLetterI (x : Int) (w : World) : Calls Tryd.prog 30 #[.int .u8 x] w fun e w' => e = .returned (.bool (ltrI x)) ∧ w = w' := by
  cases h0 : (x == 95) <;> by_cases h1 : 97 ≤ x <;> by_cases h2 : x ≤ 122 <;> by_cases h3 : 65 ≤ x <;> by_cases h4 : x ≤ 90
  all_goals (
    go_enter Tryd.func30, Tryd.ntmps30
    go_wp2
    go_ret
    exact ⟨by simp [ltrI, h0, h1, h2, h3, h4], rfl⟩)
theorem isLetter_any (c : UInt8) (w : World) : Calls Tryd.prog 30 #[.int .u8 c.toNat] w fun e w' => e = .returned (.bool (isLet c)) ∧ w = w' := by
  rw [← ltrI_eq]; exact isLetterI _ _
theorem isDigit_any (c : UInt8) (w : World) : Calls Tryd.prog 34 #[.int .u8 c.toNat] w fun e w' => e = .returned (.bool (isDig c)) ∧ w = w' := by
  rw [← digI_eq]; exact isDigitI _ _
end Go.Proofs.YtjmemapkipkocaaDoor

/-
  'pastBlanks', 'pastName', 'number' of lex.
-/
namespace Go.Proofs.YtjmemapkipkocaaDoor
open Go.RowKit
set_option linter.unusedVariables false
theorem ret_int {k : IntKind} {a b : Int} (h : a = b) : Ending.returned (.int k a) = .returned (.int k b) := by rw [h]

theorem pastBlanks_any (s : ByteArray) (k : Nat) (w : World) (hs : s.size ≤ maxLen) (hk : k ≤ s.size) :
    Calls Tryd.prog 19 #[.string s, .int .i64 k] w fun e w' => e = .returned (.int .i64 ((k + cnt isBl (s.data.toList.drop k) : Nat) : Int)) ∧ w = w' := by
  unfold maxLen at hs
  go_enter Tryd.func19, Tryd.ntmps19
  go_wp2
  go_loop [1] (fun i => ∃ j : Nat, j ≤ s.size ∧ i = .int .i64 j ∧ j + cnt isBl (s.data.toList.drop j) = k + cnt isBl (s.data.toList.drop k)) (fun i => s.size - (intOf i).toNat)
  case atStart => exact ⟨k, hk, rfl, rfl⟩
  case round =>
    obtain ⟨j, hj, rfl, hr⟩ := hrel
    have H := Lib.hid hr
    clear hr
    by_cases hlt : j < s.size
    · cases hb : isBl s[j] with
      | true =>
        have H2 := Lib.hid hb
        have h1 := (bl_bits s[j]).trans hb
        clear hb
        go_wp2
        go_round
        case rel => exact ⟨j + 1, by omega, by go_num, by have := H.out; rw [drop_cons s hlt, cnt_yes H2.out] at this; omega⟩
        case measure => simp [intOf]; omega
      | false =>
        have H2 := Lib.hid hb
        have h1 := (bl_bits s[j]).trans hb
        clear hb
        go_wp2
        go_ret
        exact ⟨ret_int (by have := H.out; rw [drop_cons s hlt, cnt_no H2.out] at this; omega), rfl⟩
    · go_wp2
      go_ret
      exact ⟨ret_int (by have := H.out; rw [drop_nil s hlt, cnt_nil] at this; omega), rfl⟩

theorem pastName_any (s : ByteArray) (k : Nat) (w : World) (hs : s.size ≤ maxLen) (hk : k ≤ s.size) :
    Calls Tryd.prog 31 #[.string s, .int .i64 k] w fun e w' => e = .returned (.int .i64 ((k + cnt isAl (s.data.toList.drop k) : Nat) : Int)) ∧ w = w' := by
  unfold maxLen at hs
  go_enter Tryd.func31, Tryd.ntmps31
  go_wp2
  go_loop [1] (fun i => ∃ j : Nat, j ≤ s.size ∧ i = .int .i64 j ∧ j + cnt isAl (s.data.toList.drop j) = k + cnt isAl (s.data.toList.drop k)) (fun i => s.size - (intOf i).toNat)
  case atStart => exact ⟨k, hk, rfl, rfl⟩
  case round =>
    obtain ⟨j, hj, rfl, hr⟩ := hrel
    have H := Lib.hid hr
    clear hr
    by_cases hlt : j < s.size
    · have cl := fun W => isLetter_any s[j] W
      have cd := fun W => isDigit_any s[j] W
      cases hb : isLet s[j] with
      | true =>
        have H2 := Lib.hid hb
        rw [hb] at cl
        have CL := fun W => Lib.hid (cl W)
        clear hb cl cd
        go_wp2_with (go_at_call 30; refine ((CL _).out).mono ?_; rintro e w' ⟨rfl, rfl⟩)
        go_round
        case rel => exact ⟨j + 1, by omega, by go_num, by have := H.out; rw [drop_cons s hlt, cnt_yes (by simp [isAl, H2.out])] at this; omega⟩
        case measure => simp [intOf]; omega
      | false =>
        cases hd : isDig s[j] with
        | true =>
          have H2 := Lib.hid hb
          have H3 := Lib.hid hd
          rw [hb] at cl
          rw [hd] at cd
          have CL := fun W => Lib.hid (cl W)
          have CD := fun W => Lib.hid (cd W)
          clear hb hd cl cd
          go_wp2_with (first | (go_at_call 30; refine ((CL _).out).mono ?_; rintro e w' ⟨rfl, rfl⟩) | (go_at_call 34; refine ((CD _).out).mono ?_; rintro e w' ⟨rfl, rfl⟩))
          go_round
          case rel => exact ⟨j + 1, by omega, by go_num, by have := H.out; rw [drop_cons s hlt, cnt_yes (by simp [isAl, H3.out])] at this; omega⟩
          case measure => simp [intOf]; omega
        | false =>
          have H2 := Lib.hid hb
          have H3 := Lib.hid hd
          rw [hb] at cl
          rw [hd] at cd
          have CL := fun W => Lib.hid (cl W)
          have CD := fun W => Lib.hid (cd W)
          clear hb hd cl cd
          go_wp2_with (first | (go_at_call 30; refine ((CL _).out).mono ?_; rintro e w' ⟨rfl, rfl⟩) | (go_at_call 34; refine ((CD _).out).mono ?_; rintro e w' ⟨rfl, rfl⟩))
          go_ret
          exact ⟨ret_int (by have := H.out; rw [drop_cons s hlt, cnt_no (by simp [isAl, H2.out, H3.out])] at this; omega), rfl⟩
    · go_wp2
      go_ret
      exact ⟨ret_int (by have := H.out; rw [drop_nil s hlt, cnt_nil] at this; omega), rfl⟩

end Go.Proofs.YtjmemapkipkocaaDoor

/-
  'number' of lex.
-/
namespace Go.Proofs.YtjmemapkipkocaaDoor
open Go.RowKit
set_option linter.unusedVariables false
theorem tri {a b c a' b' c' : Int} (h : a = a' ∧ b = b' ∧ c = c') : Ending.returned (.tuple #[.int .i64 a, .int .i64 b, .int .i64 c]) = .returned (.tuple #[.int .i64 a', .int .i64 b', .int .i64 c']) := by
  obtain ⟨rfl, rfl, rfl⟩ := h; rfl
theorem lxNumber_any (s : ByteArray) (k : Nat) (w : World) (hs : s.size ≤ maxLen) (hk : k ≤ s.size) :
    Calls Tryd.prog 35 #[.string s, .int .i64 k] w fun e w' => e = .returned (.tuple #[.int .i64 (numN (s.data.toList.drop k)), .int .i64 (numP (s.data.toList.drop k) k : Nat), .int .i64 (numE (s.data.toList.drop k))]) ∧ w = w' := by
  unfold maxLen at hs
  go_enter Tryd.func35, Tryd.ntmps35
  go_wp2
  go_loop [1, 7, 8, 9] (fun i n o g => ∃ j : Nat, ∃ (N : Int) (O : Bool), j ≤ s.size ∧ i = .int .i64 j ∧ n = .int .u64 N ∧ o = .bool O ∧ ((s.data.toList.drop j).takeWhile isDig).foldl numStep (N, O) = numOf ((s.data.toList.drop k).takeWhile isDig) ∧ j + cnt isDig (s.data.toList.drop j) = k + cnt isDig (s.data.toList.drop k)) (fun i _ _ _ => s.size - (intOf i).toNat)
  case atStart => exact ⟨k, 0, false, hk, rfl, rfl, rfl, rfl, rfl⟩
  case round =>
    obtain ⟨j, N, O, hj, rfl, rfl, rfl, hr, hc⟩ := hrel
    have H := Lib.hid hr
    have HC := Lib.hid hc
    clear hr hc
    by_cases hlt : j < s.size
    · have cd := fun W => isDigit_any s[j] W
      cases hd : isDig s[j] with
      | true =>
        have H3 := Lib.hid hd
        rw [hd] at cd
        have CD := fun W => Lib.hid (cd W)
        clear hd cd
        cases O
        · go_wp2_with (go_at_call 34; refine ((CD _).out).mono ?_; rintro e w' ⟨rfl, rfl⟩)
          go_round
          case rel =>
            exact ⟨j + 1, _, _, by omega, by go_num, rfl, rfl, by have := H.out; rw [drop_cons s hlt, tw_yes H3.out] at this; exact this, by have := HC.out; rw [drop_cons s hlt, cnt_yes H3.out] at this; omega⟩
          case measure => simp [intOf]; omega
        · go_wp2_with (go_at_call 34; refine ((CD _).out).mono ?_; rintro e w' ⟨rfl, rfl⟩)
          go_round
          case rel =>
            exact ⟨j + 1, _, _, by omega, by go_num, rfl, rfl, by have := H.out; rw [drop_cons s hlt, tw_yes H3.out] at this; exact this, by have := HC.out; rw [drop_cons s hlt, cnt_yes H3.out] at this; omega⟩
          case measure => simp [intOf]; omega
      | false =>
        have h4 : (N, O) = numOf ((s.data.toList.drop k).takeWhile isDig) := by have := H.out; rw [drop_cons s hlt, tw_no hd] at this; exact this
        have h5 : j = k + cnt isDig (s.data.toList.drop k) := by have := HC.out; rw [drop_cons s hlt, cnt_no hd] at this; omega
        have h6 : (s.data.toList.drop k).getD (cnt isDig (s.data.toList.drop k)) 0 = s[j] := by rw [getD_drop, ← h5, getD_in s hlt]
        rw [hd] at cd
        have CD := fun W => Lib.hid (cd W)
        have H4 := Lib.hid h4
        have H5 := Lib.hid h5
        have H6 := Lib.hid h6
        clear hd cd h4 h5 h6
        cases O
        · have cl := fun W => isLetter_any s[j] W
          cases hl : isLet s[j] with
          | true =>
            have HL := Lib.hid hl
            rw [hl] at cl
            have CL := fun W => Lib.hid (cl W)
            clear hl cl
            go_wp2_with (first | (go_at_call 34; refine ((CD _).out).mono ?_; rintro e w' ⟨rfl, rfl⟩) | (go_at_call 30; refine ((CL _).out).mono ?_; rintro e w' ⟨rfl, rfl⟩))
            go_ret3
            refine ⟨tri ?_, rfl⟩
            have := num_let k (r := s.data.toList.drop k) (by rw [← H4.out]) (by rw [H6.out]; exact HL.out)
            obtain ⟨a, b, c⟩ := this
            rw [a, b, c]
            exact ⟨rfl, rfl, rfl⟩
          | false =>
            have HL := Lib.hid hl
            rw [hl] at cl
            have CL := fun W => Lib.hid (cl W)
            clear hl cl
            go_wp2_with (first | (go_at_call 34; refine ((CD _).out).mono ?_; rintro e w' ⟨rfl, rfl⟩) | (go_at_call 30; refine ((CL _).out).mono ?_; rintro e w' ⟨rfl, rfl⟩))
            go_ret3
            refine ⟨tri ?_, rfl⟩
            have := num_ok k (r := s.data.toList.drop k) (by rw [← H4.out]) (by rw [H6.out]; exact HL.out)
            obtain ⟨a, b, c⟩ := this
            rw [a, b, c, ← H4.out, ← H5.out]
            exact ⟨rfl, rfl, rfl⟩
        · go_wp2_with (first | (go_at_call 34; refine ((CD _).out).mono ?_; rintro e w' ⟨rfl, rfl⟩))
          go_ret3
          refine ⟨tri ?_, rfl⟩
          have := num_over k (r := s.data.toList.drop k) (by rw [← H4.out])
          obtain ⟨a, b, c⟩ := this
          rw [a, b, c]
          exact ⟨rfl, rfl, rfl⟩
    · have h4 : (N, O) = numOf ((s.data.toList.drop k).takeWhile isDig) := by have := H.out; rw [drop_nil s hlt] at this; exact this
      have h5 : j = k + cnt isDig (s.data.toList.drop k) := by have := HC.out; rw [drop_nil s hlt, cnt_nil] at this; omega
      have h6 : (s.data.toList.drop k).getD (cnt isDig (s.data.toList.drop k)) 0 = 0 := by rw [getD_drop, ← h5, getD_out s hlt]
      have H4 := Lib.hid h4
      have H5 := Lib.hid h5
      have H6 := Lib.hid h6
      clear h4 h5 h6
      cases O
      · go_wp2
        go_ret3
        refine ⟨tri ?_, rfl⟩
        have := num_ok k (r := s.data.toList.drop k) (by rw [← H4.out]) (by rw [H6.out]; decide)
        obtain ⟨a, b, c⟩ := this
        rw [a, b, c, ← H4.out, ← H5.out]
        exact ⟨rfl, rfl, rfl⟩
      · go_wp2
        go_ret3
        refine ⟨tri ?_, rfl⟩
        have := num_over k (r := s.data.toList.drop k) (by rw [← H4.out])
        obtain ⟨a, b, c⟩ := this
        rw [a, b, c]
        exact ⟨rfl, rfl, rfl⟩
end Go.Proofs.YtjmemapkipkocaaDoor

/-
  The shelf's contracts at this translation, in plain words.
-/
namespace Go.Proofs
open Go.Shelf
def Tryd.laysM316_ren : Go.Shelf.Ren := ⟨fun | 316 => 49 | n => n, fun | 9 => 9 | 3 => 3 | 4 => 4 | 37 => 87 | 0 => 0 | 127 => 124 | 5 => 5 | n => n, fun | n => n⟩
theorem Tryd.laysM316 : Go.Proofs.LaysM.n316 Tryd.prog Tryd.laysM316_ren := {
  mixed := by kernel_rfl
  f316 := Tryd.func49.trans (congrArg some (by kernel_rfl))
  t0 := Tryd.underlying0
  a0 := Tryd.isAgg0
  z0 := Tryd.sizeOf0
  v0 := Tryd.zeroValue0
  t3 := Tryd.underlying3
  a3 := Tryd.isAgg3
  z3 := Tryd.sizeOf3
  v3 := Tryd.zeroValue3
  t4 := Tryd.underlying4
  a4 := Tryd.isAgg4
  z4 := Tryd.sizeOf4
  v4 := Tryd.zeroValue4
  t9 := Tryd.underlying9
  a9 := Tryd.isAgg9
  z9 := Tryd.sizeOf9
  v9 := Tryd.zeroValue9
  t37 := Tryd.underlying87
  a37 := Tryd.isAgg87
  z37 := Tryd.sizeOf87
  v37 := Tryd.zeroValue87
  t127 := Tryd.underlying124
  a127 := Tryd.isAgg124
  z127 := Tryd.sizeOf124
  v127 := Tryd.zeroValue124
  t5 := Tryd.underlying5
  a5 := Tryd.isAgg5
  z5 := Tryd.sizeOf5
  v5 := Tryd.zeroValue5
  i0 := by kernel_rfl
  i3 := by kernel_rfl
  i4 := by kernel_rfl
  i5 := by kernel_rfl
  i9 := by kernel_rfl
  i37 := by kernel_rfl
  i127 := by kernel_rfl }
open Go.RowKit in
/-- internal/stringslite.Clone (what strings.Clone calls): "Clone returns a fresh copy of s.": THE SAME BYTES. Of what was there nothing has turned (a new row is laid, and frozen, where s is not empty). (LAID: no walk: one application.) -/
theorem Tryd.stringslite_Clone (s : ByteArray) (w : World) (hlim : s.size ≤ 281474976710656) :
    Calls Tryd.prog 49 #[.string s] w fun e w' => e = .returned (.string s) ∧ Below w.heap.size w w' := Any.stringslite_Clone Tryd.laysM316 s w hlim
def Tryd.lays157_ren : Go.Shelf.Ren := ⟨fun | 157 => 29 | 229 => 47 | 199 => 48 | 261 => 62 | 311 => 73 | 312 => 74 | n => n, fun | 9 => 9 | 31 => 22 | 3 => 3 | 5 => 5 | 4 => 4 | 119 => 106 | 0 => 0 | 40 => 108 | 152 => 118 | 21 => 21 | 154 => 120 | 51 => 121 | 141 => 123 | 196 => 136 | 193 => 133 | 198 => 139 | 49 => 137 | 194 => 134 | 201 => 142 | 226 => 151 | 46 => 144 | 227 => 152 | n => n, fun | 0 => 0 | 6 => 1 | n => n⟩
theorem Tryd.lays157 : Go.Proofs.Lays.n157 Tryd.prog Tryd.lays157_ren := {
  mixed := by kernel_rfl
  f157 := Tryd.func29.trans (congrArg some (by kernel_rfl))
  f199 := Tryd.func48.trans (congrArg some (by kernel_rfl))
  f229 := Tryd.func47.trans (congrArg some (by kernel_rfl))
  f261 := Tryd.func62.trans (congrArg some (by kernel_rfl))
  f311 := Tryd.func73.trans (congrArg some (by kernel_rfl))
  f312 := Tryd.func74.trans (congrArg some (by kernel_rfl))
  t0 := Tryd.underlying0
  a0 := Tryd.isAgg0
  z0 := Tryd.sizeOf0
  v0 := Tryd.zeroValue0
  t3 := Tryd.underlying3
  a3 := Tryd.isAgg3
  z3 := Tryd.sizeOf3
  v3 := Tryd.zeroValue3
  t4 := Tryd.underlying4
  a4 := Tryd.isAgg4
  z4 := Tryd.sizeOf4
  v4 := Tryd.zeroValue4
  t5 := Tryd.underlying5
  a5 := Tryd.isAgg5
  z5 := Tryd.sizeOf5
  v5 := Tryd.zeroValue5
  t9 := Tryd.underlying9
  a9 := Tryd.isAgg9
  z9 := Tryd.sizeOf9
  v9 := Tryd.zeroValue9
  t21 := Tryd.underlying21
  a21 := Tryd.isAgg21
  z21 := Tryd.sizeOf21
  v21 := Tryd.zeroValue21
  t31 := Tryd.underlying22
  a31 := Tryd.isAgg22
  z31 := Tryd.sizeOf22
  v31 := Tryd.zeroValue22
  t40 := Tryd.underlying108
  a40 := Tryd.isAgg108
  z40 := Tryd.sizeOf108
  v40 := Tryd.zeroValue108
  t46 := Tryd.underlying144
  a46 := Tryd.isAgg144
  z46 := Tryd.sizeOf144
  v46 := Tryd.zeroValue144
  t49 := Tryd.underlying137
  a49 := Tryd.isAgg137
  z49 := Tryd.sizeOf137
  v49 := Tryd.zeroValue137
  t51 := Tryd.underlying121
  a51 := Tryd.isAgg121
  z51 := Tryd.sizeOf121
  v51 := Tryd.zeroValue121
  t119 := Tryd.underlying106
  a119 := Tryd.isAgg106
  z119 := Tryd.sizeOf106
  t141 := Tryd.underlying123
  a141 := Tryd.isAgg123
  z141 := Tryd.sizeOf123
  v141 := Tryd.zeroValue123
  t152 := Tryd.underlying118
  a152 := Tryd.isAgg118
  z152 := Tryd.sizeOf118
  v152 := Tryd.zeroValue118
  t154 := Tryd.underlying120
  a154 := Tryd.isAgg120
  z154 := Tryd.sizeOf120
  v154 := Tryd.zeroValue120
  t193 := Tryd.underlying133
  a193 := Tryd.isAgg133
  z193 := Tryd.sizeOf133
  v193 := Tryd.zeroValue133
  t194 := Tryd.underlying134
  a194 := Tryd.isAgg134
  z194 := Tryd.sizeOf134
  v194 := Tryd.zeroValue134
  t196 := Tryd.underlying136
  a196 := Tryd.isAgg136
  z196 := Tryd.sizeOf136
  v196 := Tryd.zeroValue136
  t198 := Tryd.underlying139
  a198 := Tryd.isAgg139
  z198 := Tryd.sizeOf139
  v198 := Tryd.zeroValue139
  t201 := Tryd.underlying142
  a201 := Tryd.isAgg142
  z201 := Tryd.sizeOf142
  v201 := Tryd.zeroValue142
  t226 := Tryd.underlying151
  a226 := Tryd.isAgg151
  z226 := Tryd.sizeOf151
  v226 := Tryd.zeroValue151
  t227 := Tryd.underlying152
  a227 := Tryd.isAgg152
  z227 := Tryd.sizeOf152
  v227 := Tryd.zeroValue152
  g0 := by kernel_rfl
  g6 := by kernel_rfl }
open Go.RowKit Go.Lib in
/-- strings.Fields, the table by 'Lib.TabIs' (as strings.TrimSpace's contract). 'hg': the table's number, by its name: at a dump 'by kernel_rfl'. (LAID: no walk: one application.) -/
theorem Tryd.strings_Fields (s : ByteArray) (w : World) (hs : s.size < 4294967281) (hascii : ∀ (j : Nat) b, s.data.toList[j]? = some b → b.toNat < 128) (htab : Lib.TabIs Tryd.prog w "strings.asciiSpace" .u8 Lib.asciiSpaceTab) :
    Calls Tryd.prog 29 #[.string s] w fun e w' =>
      e = .returned (.slice (some ⟨w.heap.size, 0, none⟩) (Lib.fields s.data.toList).length (Lib.fields s.data.toList).length) ∧ w' = w.alloc (.cells ((Lib.fields s.data.toList).map fun l => Value.string ⟨l.toArray⟩).toArray 9) := Any.strings_Fields Tryd.lays157 (by kernel_rfl) (by kernel_rfl) s w hs hascii htab
end Go.Proofs

/-
  'kindOf' of lex; strings.Clone.
-/
namespace Go.Proofs.YtjmemapkipkocaaDoor
open Go.RowKit
set_option linter.unusedVariables false
theorem no_word {s : ByteArray} (h : isWord s.data.toList = false) : ∀ t ∈ wordsL, (s.toList == t) = false := by
  intro t ht
  rw [ByteArray.toList_eq]
  cases e : (s.data.toList == t) with
  | false => rfl
  | true =>
    have : s.data.toList = t := by simpa using e
    rw [this] at h
    have h2 : isWord t = true := by unfold isWord; exact List.contains_iff_mem.2 ht
    rw [h2] at h; cases h
theorem kindOf_no (s : ByteArray) (w : World) (h : isWord s.data.toList = false) : Calls Tryd.prog 33 #[.string s] w fun e w' => e = .returned (.int .i64 1) ∧ w = w' := by
  have H := no_word h
  have h0 := H [118, 111, 105, 100] (by decide)
  have h1 := H [99, 104, 97, 114] (by decide)
  have h2 := H [115, 104, 111, 114, 116] (by decide)
  have h3 := H [105, 110, 116] (by decide)
  have h4 := H [108, 111, 110, 103] (by decide)
  have h5 := H [117, 110, 115, 105, 103, 110, 101, 100] (by decide)
  have h6 := H [105, 102] (by decide)
  have h7 := H [101, 108, 115, 101] (by decide)
  have h8 := H [119, 104, 105, 108, 101] (by decide)
  have h9 := H [100, 111] (by decide)
  have h10 := H [102, 111, 114] (by decide)
  have h11 := H [115, 119, 105, 116, 99, 104] (by decide)
  have h12 := H [99, 97, 115, 101] (by decide)
  have h13 := H [100, 101, 102, 97, 117, 108, 116] (by decide)
  have h14 := H [98, 114, 101, 97, 107] (by decide)
  have h15 := H [99, 111, 110, 116, 105, 110, 117, 101] (by decide)
  have h16 := H [114, 101, 116, 117, 114, 110] (by decide)
  have h17 := H [103, 111, 116, 111] (by decide)
  have h18 := H [115, 105, 122, 101, 111, 102] (by decide)
  clear H h
  go_enter Tryd.func33, Tryd.ntmps33
  go_wp2
  go_ret
  exact ⟨rfl, rfl⟩
theorem kindOf_yes (t : List UInt8) (w : World) (h : t ∈ wordsL) : Calls Tryd.prog 33 #[.string ⟨t.toArray⟩] w fun e w' => e = .returned (.int .i64 4) ∧ w = w' := by
  simp only [wordsL, List.mem_cons, List.not_mem_nil, or_false] at h
  rcases h with rfl | rfl | rfl | rfl | rfl | rfl | rfl | rfl | rfl | rfl | rfl | rfl | rfl | rfl | rfl | rfl | rfl | rfl | rfl
  all_goals (
    go_enter Tryd.func33, Tryd.ntmps33
    go_wp2
    go_ret
    exact ⟨rfl, rfl⟩)
theorem kindOf_any (s : ByteArray) (w : World) : Calls Tryd.prog 33 #[.string s] w fun e w' => e = .returned (.int .i64 (if isWord s.data.toList then 4 else 1)) ∧ w = w' := by
  cases h : isWord s.data.toList with
  | false => exact kindOf_no s w h
  | true =>
    have := kindOf_yes s.data.toList w (List.contains_iff_mem.1 h)
    exact this
theorem clone_any (s : ByteArray) (w : World) (h : s.size ≤ 281474976710656) : Calls Tryd.prog 32 #[.string s] w fun e w' => e = .returned (.string s) ∧ Below w.heap.size w w' := by
  go_enter Tryd.func32, Tryd.ntmps32
  go_wp2_with (go_at_call 49; refine (Tryd.stringslite_Clone s _ h).mono ?_; rintro e w' ⟨rfl, hb⟩)
  go_ret
  exact ⟨rfl, hb⟩
end Go.Proofs.YtjmemapkipkocaaDoor

/-
  Signs, plainly: the longest one, by prefixes and by lxThree bytes.
-/
namespace Go.Proofs.YtjmemapkipkocaaDoor
set_option linter.unusedVariables false
/-- The map's word: how long the sign is that lxThree bytes are. -/
def mark (t : List UInt8) : List UInt8 := [t.getD 0 0, t.getD 1 0, t.getD 2 0]
def tabK (l : List (List UInt8)) (m : List UInt8) : Nat := l.foldl (fun z t => if mark t = m then t.length else z) 0
def tab (m : List UInt8) : Nat := tabK signsL m
theorem tabK_snoc (l : List (List UInt8)) (t m : List UInt8) : tabK (l ++ [t]) m = if mark t = m then t.length else tabK l m := by simp [tabK]

/-- The longest sign that lxThree bytes begin with, asked from the third on, the second on, .. -/
def sg1 (x : UInt8) : Nat := if 0 < tabK signsL [x, 0, 0] then tabK signsL [x, 0, 0] else 0
def sg2 (x y : UInt8) : Nat := if 0 < tabK signsL [x, y, 0] then tabK signsL [x, y, 0] else sg1 x
def sg3 (x y z : UInt8) : Nat := if 0 < tabK signsL [x, y, z] then tabK signsL [x, y, z] else sg2 x y
def sg (r : List UInt8) : Nat := sg3 (r.getD 0 0) (r.getD 1 0) (r.getD 2 0)
section
variable {x y z : UInt8}
theorem sg3_yes (h : 0 < tabK signsL [x, y, z]) : sg3 x y z = tabK signsL [x, y, z] := by rw [sg3, if_pos h]
theorem sg3_no (h : ¬ 0 < tabK signsL [x, y, z]) : sg3 x y z = sg2 x y := by rw [sg3, if_neg h]
theorem sg2_yes (h : 0 < tabK signsL [x, y, 0]) : sg2 x y = tabK signsL [x, y, 0] := by rw [sg2, if_pos h]
theorem sg2_no (h : ¬ 0 < tabK signsL [x, y, 0]) : sg2 x y = sg1 x := by rw [sg2, if_neg h]
theorem sg1_yes (h : 0 < tabK signsL [x, 0, 0]) : sg1 x = tabK signsL [x, 0, 0] := by rw [sg1, if_pos h]
theorem sg1_no (h : ¬ 0 < tabK signsL [x, 0, 0]) : sg1 x = 0 := by rw [sg1, if_neg h]
end
end Go.Proofs.YtjmemapkipkocaaDoor

/-
  'signLength' of lex: the longest sign, asked of a map whose keys are arrays of lxThree bytes.
-/
namespace Go.Proofs.YtjmemapkipkocaaDoor
open Go.RowKit Go.Maps
set_option linter.unusedVariables false

def MapIs (w : World) (b : Nat) (l : List (List UInt8)) : Prop :=
  ∃ (n : Nat) (D : DataW Unit), n ≤ l.length ∧ w.ownsMap Tryd.prog 86 (plainElem Tryd.prog 3) b n D ∧ ∀ m : List UInt8, D.atKey (.string m) (.lit (.int .i64 0)) = .lit (.int .i64 (tabK l m))

theorem markLaw : Keyed Tryd.prog 86 := Keyed.of_law (WideMaps.ArrKey.law (P := Tryd.prog) (k := 86) (e := 5) (n := 3) ⟨by kernel_rfl, by kernel_rfl, by kernel_rfl, by kernel_rfl⟩)
theorem wf_u8 (x : UInt8) : (Lit.int .u8 (x.toNat : Int)).wf = true := by
  have := x.toNat_lt
  simp [Lit.wf, IntKind.min, IntKind.max, IntKind.signed, IntKind.bits]; omega
theorem keyOf_mark (x y z : UInt8) : keyOf Tryd.prog 86 (.agg #[.int .u8 x.toNat, .int .u8 y.toNat, .int .u8 z.toNat]) = some (.string [x, y, z]) := by
  have hk : Tryd.prog.keyType 86 = true := by kernel_rfl
  have hf : (Value.agg #[.int .u8 x.toNat, .int .u8 y.toNat, .int .u8 z.toNat]).formed Tryd.prog 86 = true := by kernel_rfl
  have hx := x.toNat_lt
  have hy := y.toNat_lt
  have hz := z.toNat_lt
  unfold keyOf
  obtain ⟨m, hm⟩ : ∃ m, Tryd.prog.types.size + 1 = m + 2 := ⟨Tryd.prog.types.size - 1, by kernel_rfl⟩
  have hu := Tryd.underlying86
  have h5 := Tryd.underlying5
  have c1 : Tryd.prog.cellsOf 86 = 3 := by kernel_rfl
  have c2 : Tryd.prog.cellsOf 5 = 1 := by kernel_rfl
  simp only [hu, hk, hf, hm]
  have e : Tryd.prog.keyLits (m + 2) 86 [.int .u8 x.toNat, .int .u8 y.toNat, .int .u8 z.toNat] = some [.int .u8 x.toNat, .int .u8 y.toNat, .int .u8 z.toNat] := by
    simp [Program.keyLits, hu, h5, c1, c2, List.range_succ, wf_u8]
  have hc : (Value.agg #[.int .u8 x.toNat, .int .u8 y.toNat, .int .u8 z.toNat]).cells.toList = [.int .u8 x.toNat, .int .u8 y.toNat, .int .u8 z.toNat] := rfl
  rw [hc, e]
  have b : ∀ x : UInt8, Lit.keyBytes (.int .u8 (x.toNat : Int)) = [x] := by
    intro x
    have := x.toNat_lt
    have h : ((x.toNat : Int) % 256).toNat = x.toNat := by omega
    simp [Lit.keyBytes, IntKind.bits, bytesBE, h, bytesLE]
  simp [keyBytes, b]

theorem lxThree (l : List UInt8) : Lib.byteCells (l.take 3) ++ List.drop (Nat.min l.length 3) [Value.int .u8 0, Value.int .u8 0, Value.int .u8 0] = [Value.int .u8 (l.getD 0 0).toNat, Value.int .u8 (l.getD 1 0).toNat, Value.int .u8 (l.getD 2 0).toNat] := by
  rcases l with _ | ⟨a, _ | ⟨b, _ | ⟨c, r⟩⟩⟩
  · rfl
  · rfl
  · rfl
  · have : Nat.min (a :: b :: c :: r).length 3 = 3 := Nat.min_eq_right (by simp)
    rw [this]; rfl
theorem run_copy_mark {P : Program} (w : World) (dT sT ty elem T : TypeId) (s : ByteArray) (hu : P.underlying dT = some (.slice elem)) (hs : (P.info? elem).map (·.size) = some 1) :
    (Builtin.copy_ #[dT, sT] ty #[.slice (some ⟨w.heap.size, 0, none⟩) 3 3, .string s]).run P (w.alloc (.cells #[.int .u8 0, .int .u8 0, .int .u8 0] T)) =
      .ok (goInt (Nat.min s.size 3 : Nat)) (w.alloc (.cells #[.int .u8 (s.data.toList.getD 0 0).toNat, .int .u8 (s.data.toList.getD 1 0).toNat, .int .u8 (s.data.toList.getD 2 0).toNat] T)) := by
  have hsz : s.size = s.data.toList.length := by simp
  have hlen : (Lib.byteCells (s.data.toList.take 3)).length = Nat.min s.size 3 := by rw [Lib.byteCells_length, List.length_take, hsz]; exact Nat.min_comm _ _
  have htk : List.take (Nat.min s.size 3) (List.map (fun b : UInt8 => Value.int IntKind.u8 (b.toNat : Int)) s.data.toList) = Lib.byteCells (s.data.toList.take 3) := by
    unfold Lib.byteCells
    rw [← List.map_take, hsz]
    congr 1
    rcases Nat.le_total s.data.toList.length 3 with h | h
    · rw [show Nat.min s.data.toList.length 3 = s.data.toList.length from Nat.min_eq_left h, List.take_length, List.take_of_length_le h]
    · rw [show Nat.min s.data.toList.length 3 = 3 from Nat.min_eq_right h]
  have hst := run_storeCells_at P w.heap.size 0 T (Lib.byteCells (s.data.toList.take 3)) 0 #[.int .u8 0, .int .u8 0, .int .u8 0] (w.alloc (.cells #[.int .u8 0, .int .u8 0, .int .u8 0] T)) (heap_alloc_new w _) (by rw [hlen]; simp; exact Nat.min_le_right _ _) (Lib.byteCells_one _)
  rw [hlen] at hst
  simp only [Nat.add_zero] at hst
  rw [World.setRow_alloc_new] at hst
  cases hq : P.info? elem with
  | none => simp [hq] at hs
  | some i =>
    have h3 := lxThree s.data.toList
    rw [← hsz] at h3
    obtain ⟨X, hX⟩ : ∃ X : Array Value, X = #[.int .u8 (s.data.toList.getD 0 0).toNat, .int .u8 (s.data.toList.getD 1 0).toNat, .int .u8 (s.data.toList.getD 2 0).toNat] := ⟨_, rfl⟩
    have hX' : X = ([] ++ Lib.byteCells (s.data.toList.take 3) ++ List.drop (Nat.min s.size 3) [Value.int .u8 0, Value.int .u8 0, Value.int .u8 0]).toArray := by rw [List.nil_append, h3, hX]
    rw [← hX, hX']
    simp [Builtin.copy_, run_underlying hu, Builtin.lenOf, Builtin.firstCells, sizeOf, typeInfo, hq]
    rw [htk, hst]
    simp [Result.andThen]

theorem zeroInt (w : World) : (zeroValue 3).run Tryd.prog w = .ok (.int .i64 0) w := by kernel_rfl
theorem info8 : (Tryd.prog.info? 5).map (·.size) = some 1 := by kernel_rfl
theorem goal_int {a b : Int} {w w' : World} {P : Prop} (h : a = b) (hp : P) : Ending.returned (.int .i64 a) = .returned (.int .i64 b) ∧ P := ⟨by rw [h], hp⟩
theorem atKey_nat {D : DataW Unit} {l : Lit} {c : Int} {n : Nat} (h : D.atKey l (.lit (.int .i64 0)) = .lit (.int .i64 c)) (h2 : D.atKey l (.lit (.int .i64 0)) = .lit (.int .i64 n)) : c = n := by
  rw [h] at h2; injection h2 with h2; injection h2
/-- Where the search for the longest sign is. -/
def SLRel (w : World) (x y z : UInt8) (r : List UInt8) (i : Value) (wr : World) : Prop :=
  (i = .int .i64 2 ∧ wr = w.alloc (.cells #[.int .u8 x.toNat, .int .u8 y.toNat, .int .u8 z.toNat] 86) ∧ sg r = sg3 x y z) ∨
  (i = .int .i64 1 ∧ wr = w.alloc (.cells #[.int .u8 x.toNat, .int .u8 y.toNat, .int .u8 0] 86) ∧ sg r = sg2 x y) ∨
  (i = .int .i64 0 ∧ wr = w.alloc (.cells #[.int .u8 x.toNat, .int .u8 0, .int .u8 0] 86) ∧ sg r = sg1 x) ∨
  (i = .int .i64 (-1) ∧ wr = w.alloc (.cells #[.int .u8 0, .int .u8 0, .int .u8 0] 86) ∧ sg r = 0)
set_option maxRecDepth 100000 in
theorem signLength_any (s : ByteArray) (b : Nat) (w : World) (hM : MapIs w b signsL) : Calls Tryd.prog 36 #[.string s, .map (some b)] w fun e w' => e = .returned (.int .i64 (sg s.data.toList)) ∧ Below w.heap.size w w' := by
  obtain ⟨n, D, _, hown0, hD0⟩ := hM
  have hown := Lib.hid hown0
  have hD := Lib.hid hD0
  clear hown0 hD0
  have hcp := run_copy_mark (P := Tryd.prog) w 87 9 3 5 86 s (by kernel_rfl) info8
  obtain ⟨x, hx⟩ : ∃ x, x = s.data.toList.getD 0 0 := ⟨_, rfl⟩
  obtain ⟨y, hy⟩ : ∃ x, x = s.data.toList.getD 1 0 := ⟨_, rfl⟩
  obtain ⟨z, hz⟩ : ∃ x, x = s.data.toList.getD 2 0 := ⟨_, rfl⟩
  rw [← hx, ← hy, ← hz] at hcp
  have HX := Lib.hid hx
  have HY := Lib.hid hy
  have HZ := Lib.hid hz
  clear hx hy hz
  go_enter Tryd.func36, Tryd.ntmps36
  go_wp2
  go_loopw [6, 7] (fun i t wr => SLRel w x y z s.data.toList i wr) (fun i _ _ => (intOf i + 1).toNat)
  case atStart => exact .inl ⟨rfl, rfl, by rw [sg, ← HX.out, ← HY.out, ← HZ.out]⟩
  case round =>
    rcases hrel with hrel | hrel | hrel | hrel
    · obtain ⟨rfl, rfl, hr⟩ := hrel
      have H := Lib.hid hr
      clear hr
      by_cases hp : 0 < tabK signsL [x, y, z]
      · go_wp2_with (at_lookup; refine wpList_lookup_own_int _ rfl _ _ 56 rfl 86 3 .i64 markLaw Tryd.underlying56 Tryd.underlying3 (zeroInt _) b n D rfl (hown.out.alloc _) _ (.string [x, y, z]) rfl (keyOf_mark x y z) ?_; intro c hat hwc; obtain rfl := atKey_nat hat (hD.out _); clear hat hwc)
        go_ret
        exact ⟨ret_int (by rw [H.out, sg3_yes hp]), (Below.refl _ _).alloc (Nat.le_refl _) _⟩
      · go_wp2_with (at_lookup; refine wpList_lookup_own_int _ rfl _ _ 56 rfl 86 3 .i64 markLaw Tryd.underlying56 Tryd.underlying3 (zeroInt _) b n D rfl (hown.out.alloc _) _ (.string [x, y, z]) rfl (keyOf_mark x y z) ?_; intro c hat hwc; obtain rfl := atKey_nat hat (hD.out _); clear hat hwc)
        go_roundw
        case rel => exact .inr (.inl ⟨rfl, rfl, by rw [H.out, sg3_no hp]⟩)
        case measure => simp [intOf]
    · obtain ⟨rfl, rfl, hr⟩ := hrel
      have H := Lib.hid hr
      clear hr
      by_cases hp : 0 < tabK signsL [x, y, 0]
      · go_wp2_with (at_lookup; refine wpList_lookup_own_int _ rfl _ _ 56 rfl 86 3 .i64 markLaw Tryd.underlying56 Tryd.underlying3 (zeroInt _) b n D rfl (hown.out.alloc _) _ (.string [x, y, 0]) rfl (keyOf_mark x y 0) ?_; intro c hat hwc; obtain rfl := atKey_nat hat (hD.out _); clear hat hwc)
        go_ret
        exact ⟨ret_int (by rw [H.out, sg2_yes hp]), (Below.refl _ _).alloc (Nat.le_refl _) _⟩
      · go_wp2_with (at_lookup; refine wpList_lookup_own_int _ rfl _ _ 56 rfl 86 3 .i64 markLaw Tryd.underlying56 Tryd.underlying3 (zeroInt _) b n D rfl (hown.out.alloc _) _ (.string [x, y, 0]) rfl (keyOf_mark x y 0) ?_; intro c hat hwc; obtain rfl := atKey_nat hat (hD.out _); clear hat hwc)
        go_roundw
        case rel => exact .inr (.inr (.inl ⟨rfl, rfl, by rw [H.out, sg2_no hp]⟩))
        case measure => simp [intOf]
    · obtain ⟨rfl, rfl, hr⟩ := hrel
      have H := Lib.hid hr
      clear hr
      by_cases hp : 0 < tabK signsL [x, 0, 0]
      · go_wp2_with (at_lookup; refine wpList_lookup_own_int _ rfl _ _ 56 rfl 86 3 .i64 markLaw Tryd.underlying56 Tryd.underlying3 (zeroInt _) b n D rfl (hown.out.alloc _) _ (.string [x, 0, 0]) rfl (keyOf_mark x 0 0) ?_; intro c hat hwc; obtain rfl := atKey_nat hat (hD.out _); clear hat hwc)
        go_ret
        exact ⟨ret_int (by rw [H.out, sg1_yes hp]), (Below.refl _ _).alloc (Nat.le_refl _) _⟩
      · go_wp2_with (at_lookup; refine wpList_lookup_own_int _ rfl _ _ 56 rfl 86 3 .i64 markLaw Tryd.underlying56 Tryd.underlying3 (zeroInt _) b n D rfl (hown.out.alloc _) _ (.string [x, 0, 0]) rfl (keyOf_mark x 0 0) ?_; intro c hat hwc; obtain rfl := atKey_nat hat (hD.out _); clear hat hwc)
        go_roundw
        case rel => exact .inr (.inr (.inr ⟨rfl, rfl, by rw [H.out, sg1_no hp]⟩))
        case measure => simp [intOf]
    · obtain ⟨rfl, rfl, hr⟩ := hrel
      have H := Lib.hid hr
      clear hr
      go_wp2
      go_ret
      exact ⟨ret_int (by rw [H.out]; rfl), (Below.refl _ _).alloc (Nat.le_refl _) _⟩
end Go.Proofs.YtjmemapkipkocaaDoor

/-
  The longest sign by lxThree bytes is the longest by prefixes.
-/
namespace Go.Proofs.YtjmemapkipkocaaDoor
set_option linter.unusedVariables false

theorem mark_inj : ∀ t ∈ signsL, ∀ u ∈ signsL, mark t = mark u → t = u := by decide +kernel
def nzs : List UInt8 → Bool
  | [a] => a != 0
  | [a, b] => a != 0 && b != 0
  | [a, b, c] => a != 0 && b != 0 && c != 0
  | _ => false
theorem signs_form {t : List UInt8} (h : t ∈ signsL) : (∃ a, a ≠ 0 ∧ t = [a]) ∨ (∃ a b, a ≠ 0 ∧ b ≠ 0 ∧ t = [a, b]) ∨ (∃ a b c, a ≠ 0 ∧ b ≠ 0 ∧ c ≠ 0 ∧ t = [a, b, c]) := by
  have H : ∀ t ∈ signsL, nzs t = true := by decide +kernel
  have := H t h
  rcases t with _ | ⟨a, _ | ⟨b, _ | ⟨c, _ | ⟨d, r⟩⟩⟩⟩
  · cases this
  · exact .inl ⟨a, by simpa [nzs] using this, rfl⟩
  · have := (by simpa [nzs] using this : a ≠ 0 ∧ b ≠ 0)
    exact .inr (.inl ⟨a, b, this.1, this.2, rfl⟩)
  · have := (by simpa [nzs, and_assoc] using this : a ≠ 0 ∧ b ≠ 0 ∧ c ≠ 0)
    exact .inr (.inr ⟨a, b, c, this.1, this.2.1, this.2.2, rfl⟩)
  · cases this
theorem tabK_mem : ∀ (l : List (List UInt8)) (z : Nat) (t : List UInt8), t ∈ l → (∀ u ∈ l, mark u = mark t → u = t) → l.foldl (fun z u => if mark u = mark t then u.length else z) z = t.length
  | [], _, _, h, _ => by cases h
  | v :: l, z, t, h, hi => by
    rw [List.foldl_cons]
    by_cases hm : t ∈ l
    · exact tabK_mem l _ t hm (fun u hu => hi u (List.mem_cons_of_mem _ hu))
    · have e : t = v := by
        rcases List.mem_cons.1 h with e | e
        · exact e
        · exact absurd e hm
      subst e
      rw [if_pos rfl]
      have : ∀ (l' : List (List UInt8)), (∀ u ∈ l', u ∈ l) → l'.foldl (fun z u => if mark u = mark t then u.length else z) t.length = t.length := by
        intro l'
        induction l' with
        | nil => intro _; rfl
        | cons u l' ih =>
          intro hs
          rw [List.foldl_cons, if_neg (fun e => hm (by rw [← hi u (List.mem_cons_of_mem _ (hs u (by simp))) e]; exact hs u (by simp)))]
          exact ih (fun x hx => hs x (by simp [hx]))
      exact this l (fun _ h => h)
theorem tab_yes {t : List UInt8} (h : t ∈ signsL) : tabK signsL (mark t) = t.length := tabK_mem signsL 0 t h (fun u hu e => mark_inj u hu t h e)
theorem tab_no {m : List UInt8} (h : ∀ t ∈ signsL, mark t ≠ m) : tabK signsL m = 0 := by
  have : ∀ l : List (List UInt8), (∀ t ∈ l, mark t ≠ m) → tabK l m = 0 := by
    intro l
    unfold tabK
    induction l with
    | nil => intro _; rfl
    | cons u l ih =>
      intro hl
      rw [List.foldl_cons, if_neg (hl u (by simp))]
      exact ih (fun t ht => hl t (by simp [ht]))
  exact this _ h
theorem tab_cases (m : List UInt8) : (∃ t ∈ signsL, mark t = m ∧ tabK signsL m = t.length) ∨ ((∀ t ∈ signsL, mark t ≠ m) ∧ tabK signsL m = 0) := by
  by_cases h : ∃ t ∈ signsL, mark t = m
  · obtain ⟨t, ht, rfl⟩ := h
    exact .inl ⟨t, ht, rfl, tab_yes ht⟩
  · have h' : ∀ t ∈ signsL, mark t ≠ m := fun t ht e => h ⟨t, ht, e⟩
    exact .inr ⟨h', tab_no h'⟩
theorem pre_of_mark {r t : List UInt8} (h : t ∈ signsL) (hm : mark t = [r.getD 0 0, r.getD 1 0, r.getD 2 0] ∨ mark t = [r.getD 0 0, r.getD 1 0, 0] ∨ mark t = [r.getD 0 0, 0, 0]) : t <+: r := by
  rcases signs_form h with ⟨a, ha, rfl⟩ | ⟨a, b, ha, hb, rfl⟩ | ⟨a, b, c, ha, hb, hc, rfl⟩ <;> rcases r with _ | ⟨x, _ | ⟨y, _ | ⟨z, r⟩⟩⟩ <;> simp_all [mark]
  · rcases hm with e | e <;> simp_all
  · rcases hm with e | e | e <;> simp_all
  · rcases hm with e | e <;> simp_all
theorem mark_of_pre {r t : List UInt8} (h : t ∈ signsL) (hp : t <+: r) : (t.length = 3 ∧ mark t = [r.getD 0 0, r.getD 1 0, r.getD 2 0]) ∨ (t.length = 2 ∧ mark t = [r.getD 0 0, r.getD 1 0, 0]) ∨ (t.length = 1 ∧ mark t = [r.getD 0 0, 0, 0]) := by
  rcases signs_form h with ⟨a, ha, rfl⟩ | ⟨a, b, ha, hb, rfl⟩ | ⟨a, b, c, ha, hb, hc, rfl⟩ <;> rcases r with _ | ⟨x, _ | ⟨y, _ | ⟨z, r⟩⟩⟩ <;> simp_all [mark]
theorem longest {r t : List UInt8} (h : sgT r = some t) : ∀ u ∈ signsL, t.length < u.length → ¬ u <+: r := by
  intro u hu hl hp
  have l3 : ∀ t ∈ L3, t.length = 3 := by decide
  have l2 : ∀ t ∈ L2, t.length = 2 := by decide
  have l1 : ∀ t ∈ L1, t.length = 1 := by decide
  unfold sgT signsL at h
  rw [List.find?_append, List.find?_append] at h
  have hu' : u ∈ L3 ∨ u ∈ L2 ∨ u ∈ L1 := by simpa [signsL] using hu
  have hpb : u.isPrefixOf r = true := List.isPrefixOf_iff_prefix.2 hp
  cases h3 : L3.find? (fun t => t.isPrefixOf r) with
  | some v =>
    have := l3 v (List.mem_of_find?_eq_some h3)
    rw [h3] at h
    simp at h
    subst h
    rcases hu' with e | e | e
    · have := l3 u e; omega
    · have := l2 u e; omega
    · have := l1 u e; omega
  | none =>
    rw [h3] at h
    have n3 := List.find?_eq_none.1 h3
    cases h2 : L2.find? (fun t => t.isPrefixOf r) with
    | some v =>
      have := l2 v (List.mem_of_find?_eq_some h2)
      rw [h2] at h
      simp at h
      subst h
      rcases hu' with e | e | e
      · exact n3 u e hpb
      · have := l2 u e; omega
      · have := l1 u e; omega
    | none =>
      rw [h2] at h
      have n2 := List.find?_eq_none.1 h2
      simp at h
      have := l1 t (List.mem_of_find?_eq_some h)
      rcases hu' with e | e | e
      · exact n3 u e hpb
      · exact n2 u e hpb
      · have := l1 u e; omega
theorem sg_some {r t : List UInt8} (h : sgT r = some t) : sg r = t.length := by
  obtain ⟨ht, hp⟩ := sgT_some h
  have hL := longest h
  have hpos := signs_pos ht
  have key : ∀ m, mark t = m → tabK signsL m = t.length := fun m e => by rw [← e]; exact tab_yes ht
  unfold sg sg3 sg2 sg1
  rcases mark_of_pre ht hp with ⟨hl, hm⟩ | ⟨hl, hm⟩ | ⟨hl, hm⟩
  · rw [if_pos (by rw [key _ hm]; omega), key _ hm]
  · have hy : r.getD 1 0 ≠ 0 := by
      rcases signs_form ht with ⟨a, ha, rfl⟩ | ⟨a, b, ha, hb, rfl⟩ | ⟨a, b, c, ha, hb, hc, rfl⟩
      · cases hl
      · simp only [mark, List.getD_cons_succ, List.getD_cons_zero, List.cons.injEq] at hm
        rw [← hm.2.1]; exact hb
      · cases hl
    rcases tab_cases [r.getD 0 0, r.getD 1 0, r.getD 2 0] with ⟨u, hu, hum, hut⟩ | ⟨_, h0⟩
    · have hup := pre_of_mark hu (.inl hum)
      have hle : u.length ≤ 2 := by rw [← hl]; exact Nat.not_lt.1 fun h => hL u hu h hup
      rcases mark_of_pre hu hup with ⟨hl', hm'⟩ | ⟨hl', hm'⟩ | ⟨hl', hm'⟩
      · omega
      · rw [if_pos (by omega)]; omega
      · rw [hum] at hm'
        simp only [List.cons.injEq] at hm'
        exact absurd hm'.2.1 hy
    · rw [if_neg (by omega), if_pos (by rw [key _ hm]; omega), key _ hm]
  · have one : ∀ m, (m = [r.getD 0 0, r.getD 1 0, r.getD 2 0] ∨ m = [r.getD 0 0, r.getD 1 0, 0] ∨ m = [r.getD 0 0, 0, 0]) → tabK signsL m = 1 ∨ tabK signsL m = 0 := by
      intro m hm
      rcases tab_cases m with ⟨u, hu, hum, hut⟩ | ⟨_, h0⟩
      · have hup := pre_of_mark (r := r) hu (by rw [hum]; exact hm)
        have hle : u.length ≤ 1 := by rw [← hl]; exact Nat.not_lt.1 fun h => hL u hu h hup
        have := signs_pos hu
        omega
      · exact .inr h0
    have o3 := one _ (.inl rfl)
    have o2 := one _ (.inr (.inl rfl))
    have o1 := key _ hm
    repeat' split
    all_goals omega
theorem sg_none {r : List UInt8} (h : sgT r = none) : sg r = 0 := by
  have hn : ∀ u ∈ signsL, ¬ u <+: r := fun u hu hp => (List.find?_eq_none.1 h) u hu (List.isPrefixOf_iff_prefix.2 hp)
  have zero : ∀ m, (m = [r.getD 0 0, r.getD 1 0, r.getD 2 0] ∨ m = [r.getD 0 0, r.getD 1 0, 0] ∨ m = [r.getD 0 0, 0, 0]) → tabK signsL m = 0 := by
    intro m hm
    rcases tab_cases m with ⟨u, hu, hum, hut⟩ | ⟨_, h0⟩
    · exact absurd (pre_of_mark (r := r) hu (by rw [hum]; exact hm)) (hn u hu)
    · exact h0
  have z3 := zero _ (.inl rfl)
  have z2 := zero _ (.inr (.inl rfl))
  have z1 := zero _ (.inr (.inr rfl))
  unfold sg sg3 sg2 sg1
  repeat' split
  all_goals omega
end Go.Proofs.YtjmemapkipkocaaDoor

/-
  'signs' of lex: the map from lxThree bytes to how long the sign is.
-/
namespace Go.Proofs.YtjmemapkipkocaaDoor
open Go.RowKit Go.Maps
set_option linter.unusedVariables false

def allS : List UInt8 := [60, 60, 61, 32, 62, 62, 61, 32, 43, 43, 32, 45, 45, 32, 60, 60, 32, 62, 62, 32, 60, 61, 32, 62, 61, 32, 61, 61, 32, 33, 61, 32, 38, 38, 32, 124, 124, 32, 43, 61, 32, 45, 61, 32, 42, 61, 32, 47, 61, 32, 37, 61, 32, 38, 61, 32, 94, 61, 32, 124, 61, 32, 43, 32, 45, 32, 42, 32, 47, 32, 37, 32, 38, 32, 124, 32, 94, 32, 126, 32, 33, 32, 60, 32, 62, 32, 61, 32, 63, 32, 58, 32, 59, 32, 44, 32, 40, 32, 41, 32, 91, 32, 93, 32, 123, 32, 125]
theorem fields_all : Lib.fields allS = signsL := by decide +kernel
theorem only_alloc {a w : World} {row : Option Nat} (h : a.grownBy w row) (o : Obj) : a.grownBy (w.alloc o) row :=
  ⟨h.os, h.tape, h.output, Nat.le_trans h.size (by simp), fun i hi hne => (Below.heap_alloc w o i (Nat.lt_of_lt_of_le hi h.size)).trans (h.block i hi hne)⟩
theorem only_trans {a b c : World} {g : Nat} (h : a.grownBy b (some g)) (k : b.grownBy c (some g)) : a.grownBy c (some g) :=
  ⟨k.os.trans h.os, k.tape.trans h.tape, k.output.trans h.output, Nat.le_trans h.size k.size, fun i hi hn => (k.block i (Nat.lt_of_lt_of_le hi h.size) hn).trans (h.block i hi hn)⟩
theorem below_of_only {a w : World} {g B : Nat} (h : a.grownBy w (some g)) (hg : B ≤ g) (hB : B ≤ a.heap.size) : Below B a w :=
  ⟨h.os, h.tape, h.output, h.size, fun i hi => h.block i (by omega) (by simp; omega)⟩
theorem mapIs_new (w : World) : MapIs (w.alloc (.map #[] 0)) w.heap.size [] := ⟨0, .map [], Nat.le_refl _, World.ownsMap_made _ _ _ _, fun m => rfl⟩
theorem mapIs_put {w' : World} {b n : Nat} {D : DataW Unit} {l : List (List UInt8)} {t : List UInt8} (hn : n ≤ l.length) (hD : ∀ m : List UInt8, D.atKey (.string m) (.lit (.int .i64 0)) = .lit (.int .i64 (tabK l m))) (hm : Maps.IsMap D)
    (h : w'.ownsMap Tryd.prog 86 (plainElem Tryd.prog 3) b (n + 1) (D.put (.string (mark t)) (.lit (.int .i64 t.length)))) : MapIs w' b (l ++ [t]) := by
  refine ⟨n + 1, _, by simpa using hn, h, fun m => ?_⟩
  rw [tabK_snoc]
  by_cases e : mark t = m
  · subst e
    rw [if_pos rfl, atKey_put_same hm (show WideAt.IsKeyLit (.string (mark t)) from trivial)]
  · rw [if_neg e, atKey_put_other (by intro e'; injection e' with e'; exact e e'.symm)]
    exact hD m
theorem isMap_of_owns {w : World} {P : Program} {k : TypeId} {R : Value → Option (DataW Unit × List MemPlace)} {b n : Nat} {D : DataW Unit} (h : w.ownsMap P k R b n D) : Maps.IsMap D := by
  obtain ⟨es, c, _, _, _, rfl⟩ := h
  exact ⟨_, rfl⟩
theorem signs_at {k : Nat} (hk : k < 43) : ∃ t, signsL[k]? = some t ∧ signsL.take (k + 1) = signsL.take k ++ [t] := by
  have hl : signsL.length = 43 := by decide
  refine ⟨signsL[k], List.getElem?_eq_getElem (by omega), ?_⟩
  rw [List.take_succ_eq_append_getElem (by omega)]; rfl
theorem ascii_all : ∀ (j : Nat) b, (ByteArray.mk allS.toArray).data.toList[j]? = some b → b.toNat < 128 := by
  intro j b h
  have H : ∀ b ∈ allS, b.toNat < 128 := by decide
  exact H b (List.mem_of_getElem? h)
theorem fields_any (w : World) (htab : Lib.TabIs Tryd.prog w "strings.asciiSpace" .u8 Lib.asciiSpaceTab) : Calls Tryd.prog 29 #[.string ⟨allS.toArray⟩] w fun e w' =>
    e = .returned (.slice (some ⟨w.heap.size, 0, none⟩) 43 43) ∧ w' = w.alloc (.cells (signsL.map fun l => Value.string ⟨l.toArray⟩).toArray 9) := by
  have h := Tryd.strings_Fields ⟨allS.toArray⟩ w (by decide) ascii_all htab
  have e : Lib.fields (ByteArray.mk allS.toArray).data.toList = signsL := fields_all
  rw [e] at h
  exact h
theorem tab_alloc {w : World} (o : Obj) (h : Lib.TabIs Tryd.prog w "strings.asciiSpace" .u8 Lib.asciiSpaceTab) : Lib.TabIs Tryd.prog (w.alloc o) "strings.asciiSpace" .u8 Lib.asciiSpaceTab :=
  Joins.tab_stays (g := 0) (by kernel_rfl) h ((Below.refl w.heap.size w).alloc (Nat.le_refl _) o) (Nat.le_refl _)
set_option maxRecDepth 100000 in
theorem signs_any (w : World) (htab : Lib.TabIs Tryd.prog w "strings.asciiSpace" .u8 Lib.asciiSpaceTab) : Calls Tryd.prog 18 #[] w fun e w' => e = .returned (.map (some w.heap.size)) ∧ MapIs w' w.heap.size signsL ∧ Below w.heap.size w w' := by
  have cf := fields_any _ (tab_alloc (.map #[] 0) htab)
  have CF := Lib.hid cf
  clear cf htab
  have hmm := @run_makeMap Tryd.prog
  go_enter Tryd.func18, Tryd.ntmps18
  go_wp2_with fail
  refine CF.out.mono ?_
  rintro e w1 ⟨rfl, hw1⟩
  have HW1 := Lib.hid hw1
  have hM : MapIs w1 w.heap.size [] := by
    obtain ⟨n, D, h1, h2, h3⟩ := mapIs_new w
    rw [hw1]
    exact ⟨n, D, h1, h2.alloc _, h3⟩
  have HM := Lib.hid hM
  have hlt : w.heap.size + 1 < w1.heap.size := by rw [hw1]; simp
  have hcells : Hid (∀ k t, signsL[k]? = some t → w1.cell? ⟨w.heap.size + 1, k, none⟩ = some (.string ⟨t.toArray⟩)) := by
    refine Lib.hid ?_
    intro k t hk
    have : w1.heap[w.heap.size + 1]? = some (.cells (signsL.map fun l => Value.string ⟨l.toArray⟩).toArray 9 (0, 0)) := by
      rw [hw1]
      have := heap_alloc_new (w.alloc (.map #[] 0)) (.cells (signsL.map fun l => Value.string ⟨l.toArray⟩).toArray 9 (0, 0))
      simpa using this
    rw [cell_of_row w1 _ k _ _ _ this]
    simp [hk]
  have hB1 : Hid (Below w.heap.size w w1) := by
    refine Lib.hid ?_
    rw [hw1]
    exact ((Below.refl _ _).alloc (Nat.le_refl _) _).alloc (by simp) _
  clear hw1 hM CF
  have H1 := Lib.hid hlt
  go_wp2_with fail
  go_loopw [3, 4, 8] (fun _ _ i wr => ∃ k : Nat, k ≤ 43 ∧ i = .int .i64 k ∧ MapIs wr w.heap.size (signsL.take k) ∧ w1.grownBy wr (some w.heap.size)) (fun _ _ i _ => 43 - (intOf i).toNat)
  case atStart => exact ⟨0, by omega, rfl, HM.out, World.grownBy.refl _ _⟩
  case round =>
    obtain ⟨k, hk, rfl, hMr, hg⟩ := hrel
    by_cases hk3 : k < 43
    · obtain ⟨t, ht, htake⟩ := signs_at hk3
      have HT := Lib.hid htake
      have hcell : wr.cell? ⟨w.heap.size + 1, k, none⟩ = some (.string ⟨t.toArray⟩) := (World.cell?_of_block (hg.block _ hlt (by simp))).trans (hcells.out k t ht)
      have hd : decide ((k : Int) < 43) = true := by simp; omega
      obtain ⟨n, D, hn, hown, hD⟩ := hMr
      have hmD := isMap_of_owns hown
      have hlen : t.length ≤ 3 := (signs_pos (List.mem_of_getElem? ht)).2
      have hsz : wr.heap.size ≠ w.heap.size := by have := hg.size; omega
      have hcp := run_copy_mark (P := Tryd.prog) wr 87 9 3 5 86 ⟨t.toArray⟩ (by kernel_rfl) info8
      have hwf : (Lit.int .i64 (t.length : Int)).wf = true := by simp [Lit.wf, IntKind.min, IntKind.max, IntKind.signed, IntKind.bits]; omega
      have hnm : n < maxLen := by have : (signsL.take k).length ≤ 43 := by simp; omega
                                  unfold maxLen; omega
      have HOwn := Lib.hid hown
      have HD := Lib.hid hD
      have HG := Lib.hid hg
      have Ht := Lib.hid ht
      clear hown hD hg htake ht
      clear hlt
      go_wp2_with (at_mapUpdate; refine wpList_mapUpdate_own _ rfl _ _ _ 56 rfl 86 3 markLaw Tryd.underlying56 _ _ n D rfl (HOwn.out.alloc _) hnm _ _ (.string (mark t)) rfl rfl (keyOf_mark _ _ _) _ [] (plainElem_int Tryd.underlying3 hwf) ?_; intro w2 hown2 hgrow2)
      go_roundw
      case rel => exact ⟨k + 1, by omega, by go_num, by rw [HT.out]; exact mapIs_put hn HD.out hmD hown2, only_trans (only_alloc HG.out _) hgrow2⟩
      case measure => simp [intOf]; omega
    · have hk43 : k = 43 := by omega
      subst hk43
      go_wp2
      go_ret
      exact ⟨rfl, hMr, hB1.out.trans (below_of_only hg (Nat.le_refl _) (by omega))⟩
end Go.Proofs.YtjmemapkipkocaaDoor

/-
  'next' of lex: the token that begins at a place.
-/
namespace Go.Proofs.YtjmemapkipkocaaDoor
open Go.RowKit Go.Maps
set_option linter.unusedVariables false

theorem mapIs_below {w w' : World} {b : Nat} {l : List (List UInt8)} (h : MapIs w b l) (hb : Below w.heap.size w w') : MapIs w' b l := by
  obtain ⟨n, D, h1, h2, h3⟩ := h
  exact ⟨n, D, h1, h2.kept ⟨hb.os, hb.tape, hb.output, hb.size, fun k hk _ => hb.block k hk⟩ (row := none) (by simp), h3⟩
/-- A token, as a value. -/
def lxTokV (t : Tok) : Value := .agg #[.int .i64 t.kind, .string ⟨t.text.toArray⟩, .int .i64 t.n, .int .i64 t.pos]
theorem run_name (s : ByteArray) (k : Nat) : s.extract k (k + cnt isAl (s.data.toList.drop k)) = ⟨((s.data.toList.drop k).takeWhile isAl).toArray⟩ := by
  have e : (s.extract k (k + cnt isAl (s.data.toList.drop k))).data.toList = (s.data.toList.drop k).takeWhile isAl := by
    rw [Lib.extract_data, Nat.add_sub_cancel_left, take_cnt]
  rw [← e]
theorem cnt_in (p : UInt8 → Bool) (s : ByteArray) (k : Nat) (hk : k ≤ s.size) : k + cnt p (s.data.toList.drop k) ≤ s.size := by
  have h := cnt_le (p := p) (r := s.data.toList.drop k)
  have e : s.data.toList.length = s.size := by simp
  rw [List.length_drop, e] at h
  omega
theorem blk_keep {w w1 : World} {cs : Array Value} {T : TypeId} (hb : Below (w.alloc (.cells cs T)).heap.size (w.alloc (.cells cs T)) w1) : w1.heap[w.heap.size]? = some (.cells cs T (0, 0)) :=
  (hb.block _ (by simp)).trans (heap_alloc_new w _)
theorem blk_cell {w1 : World} {g : Nat} {cs : Array Value} {T : TypeId} (h : w1.heap[g]? = some (.cells cs T (0, 0))) (i : Nat) : w1.cell? ⟨g, i, none⟩ = cs[i]? := cell_of_row w1 g i cs T (0, 0) h
theorem blk_frozen {w1 : World} {g : Nat} {cs : Array Value} {T : TypeId} (h : w1.heap[g]? = some (.cells cs T (0, 0))) (i : Nat) : w1.frozen? ⟨g, i, none⟩ = false := by simp [World.frozen?, h]
set_option maxRecDepth 100000 in
theorem next_name (s : ByteArray) (k b : Nat) (w : World) (hs : s.size ≤ 4096) (hk : k < s.size) (hl : isLet s[k] = true) :
    Calls Tryd.prog 20 #[.string s, .int .i64 k, .map (some b)] w fun e w' =>
      e = .returned (.tuple #[lxTokV ⟨if isWord ((s.data.toList.drop k).takeWhile isAl) then 4 else 1, (s.data.toList.drop k).takeWhile isAl, 0, k⟩, .int .i64 ((k + cnt isAl (s.data.toList.drop k) : Nat) : Int), .int .i64 0]) ∧ Below w.heap.size w w' := by
  have cl := fun W => isLetter_any s[k] W
  rw [hl] at cl
  have CL := fun W => Lib.hid (cl W)
  have cp := fun W => pastName_any s k W (by unfold maxLen; omega) (by omega)
  have hin := cnt_in isAl s k (by omega)
  have hx := run_name s k
  have ck := fun W => kindOf_any (s.extract k (k + cnt isAl (s.data.toList.drop k))) W
  rw [hx] at ck
  obtain ⟨E, hE⟩ : ∃ E, E = k + cnt isAl (s.data.toList.drop k) := ⟨_, rfl⟩
  obtain ⟨K, hK⟩ : ∃ K : Int, K = if isWord ((s.data.toList.drop k).takeWhile isAl) then 4 else 1 := ⟨_, rfl⟩
  obtain ⟨T, hT⟩ : ∃ T, T = (s.data.toList.drop k).takeWhile isAl := ⟨_, rfl⟩
  have ck' : ∀ W, Calls Tryd.prog 33 #[.string ⟨T.toArray⟩] W fun e w' => e = .returned (.int .i64 K) ∧ W = w' := by
    intro W; rw [hK, hT]; exact ck W
  rw [← hK, ← hT]
  rw [← hE] at hin hx cp ⊢
  rw [← hT] at hx
  have hkE : k ≤ E := by omega
  have cc := fun W => clone_any (s.extract k E) W (by rw [ByteArray.size_extract]; omega)
  rw [hx] at cc
  have CP := fun W => Lib.hid (cp W)
  have CK := fun W => Lib.hid (ck' W)
  have CC := fun W => Lib.hid (cc W)
  have HX := Lib.hid hx
  clear cl cp ck ck' cc hx hE hK hT hl
  have hsm : s.size ≤ 9223372036854775807 := by omega
  go_enter Tryd.func20, Tryd.ntmps20
  go_wp2_with fail
  refine (CL _).out.mono ?_
  rintro e w' ⟨rfl, rfl⟩
  go_wp2_with fail
  refine (CP _).out.mono ?_
  rintro e w' ⟨rfl, rfl⟩
  go_wp2_with fail
  rw [HX.out]
  refine (CC _).out.mono ?_
  rintro e w1 ⟨rfl, hb⟩
  have hblk := blk_keep hb
  have c0 : w1.cell? ⟨w.heap.size, 0, none⟩ = some (.int .i64 0) := blk_cell hblk 0
  have c1 : w1.cell? ⟨w.heap.size, 1, none⟩ = some (.string ⟨#[]⟩) := blk_cell hblk 1
  have c2 : w1.cell? ⟨w.heap.size, 2, none⟩ = some (.int .i64 0) := blk_cell hblk 2
  have c3 : w1.cell? ⟨w.heap.size, 3, none⟩ = some (.int .i64 0) := blk_cell hblk 3
  have f0 : w1.frozen? ⟨w.heap.size, 0, none⟩ = false := blk_frozen hblk 0
  have f1 : w1.frozen? ⟨w.heap.size, 1, none⟩ = false := blk_frozen hblk 1
  have f2 : w1.frozen? ⟨w.heap.size, 2, none⟩ = false := blk_frozen hblk 2
  have f3 : w1.frozen? ⟨w.heap.size, 3, none⟩ = false := blk_frozen hblk 3
  have HB : Hid (Below w.heap.size w w1) := Lib.hid (((Below.refl _ _).alloc (Nat.le_refl _) _).trans (hb.mono (by simp)))
  clear hb hblk
  go_wp2_with fail
  refine (CK _).out.mono ?_
  rintro e w' ⟨rfl, rfl⟩
  go_wp2_with fail
  refine bodyPost_ret (v := .tuple #[lxTokV ⟨K, T, 0, k⟩, .int .i64 E, .int .i64 0]) (by simp [results, Tryd.results20, go_sem, lxTokV, c0, c1, c2, c3]) rfl ⟨rfl, ?_⟩
  exact (((HB.out.setCell (Nat.le_refl _) _).setCell (Nat.le_refl _) _).setCell (Nat.le_refl _) _).setCell (Nat.le_refl _) _

set_option maxRecDepth 100000 in
theorem next_num (s : ByteArray) (k b : Nat) (w : World) (hs : s.size ≤ 4096) (hk : k < s.size) (hl : isLet s[k] = false) (hd : isDig s[k] = true) :
    Calls Tryd.prog 20 #[.string s, .int .i64 k, .map (some b)] w fun e w' =>
      e = .returned (.tuple #[lxTokV ⟨2, [], numN (s.data.toList.drop k), k⟩, .int .i64 ((numP (s.data.toList.drop k) k : Nat) : Int), .int .i64 (numE (s.data.toList.drop k))]) ∧ Below w.heap.size w w' := by
  have cl := fun W => isLetter_any s[k] W
  rw [hl] at cl
  have CL := fun W => Lib.hid (cl W)
  have cd := fun W => isDigit_any s[k] W
  rw [hd] at cd
  have CD := fun W => Lib.hid (cd W)
  have cn := fun W => lxNumber_any s k W (by unfold maxLen; omega) (by omega)
  obtain ⟨E, hE⟩ : ∃ E, E = numP (s.data.toList.drop k) k := ⟨_, rfl⟩
  obtain ⟨N, hN⟩ : ∃ N, N = numN (s.data.toList.drop k) := ⟨_, rfl⟩
  obtain ⟨R, hR⟩ : ∃ R, R = numE (s.data.toList.drop k) := ⟨_, rfl⟩
  rw [← hE, ← hN, ← hR] at cn ⊢
  have CN := fun W => Lib.hid (cn W)
  clear cl cn cd hE hN hR hl hd
  have hsm : s.size ≤ 9223372036854775807 := by omega
  go_enter Tryd.func20, Tryd.ntmps20
  go_wp2_with fail
  refine (CL _).out.mono ?_
  rintro e w' ⟨rfl, rfl⟩
  go_wp2_with fail
  refine (CD _).out.mono ?_
  rintro e w' ⟨rfl, rfl⟩
  go_wp2_with fail
  refine (CN _).out.mono ?_
  rintro e w1 ⟨rfl, rfl⟩
  go_wp2_with fail
  refine bodyPost_ret (v := .tuple #[lxTokV ⟨2, [], N, k⟩, .int .i64 E, .int .i64 R]) (by simp [results, Tryd.results20, go_sem, lxTokV]) rfl ⟨rfl, ?_⟩
  exact (Below.refl _ _).alloc (Nat.le_refl _) _

theorem drop_str (s : ByteArray) (k : Nat) : (s.extract k s.size).data.toList = s.data.toList.drop k := by
  rw [Lib.extract_data, List.take_of_length_le (by simp)]
theorem run_sign (s : ByteArray) (k : Nat) (t : List UInt8) (h : t <+: s.data.toList.drop k) : s.extract k (k + t.length) = ⟨t.toArray⟩ := by
  have e : (s.extract k (k + t.length)).data.toList = t := by
    rw [Lib.extract_data, Nat.add_sub_cancel_left, ← List.prefix_iff_eq_take.1 h]
  have := congrArg List.toArray e
  rw [Array.toArray_toList] at this
  rw [← this]
set_option maxRecDepth 100000 in
theorem next_bad (s : ByteArray) (k b : Nat) (w : World) (hs : s.size ≤ 4096) (hk : k < s.size) (hl : isLet s[k] = false) (hd : isDig s[k] = false) (hM : MapIs w b signsL) (hg : sgT (s.data.toList.drop k) = none) :
    Calls Tryd.prog 20 #[.string s, .int .i64 k, .map (some b)] w fun e w' =>
      e = .returned (.tuple #[lxTokV ⟨0, [], 0, 0⟩, .int .i64 0, .int .i64 3]) ∧ Below w.heap.size w w' := by
  have cl := fun W => isLetter_any s[k] W
  rw [hl] at cl
  have CL := fun W => Lib.hid (cl W)
  have cd := fun W => isDigit_any s[k] W
  rw [hd] at cd
  have CD := fun W => Lib.hid (cd W)
  have cs := fun W (h : MapIs W b signsL) => signLength_any (s.extract k s.size) b W h
  rw [drop_str, sg_none hg] at cs
  have CS := fun W h => Lib.hid (cs W h)
  have HM : MapIs (w.alloc (.cells #[.int .i64 0, .string ⟨#[]⟩, .int .i64 0, .int .i64 0] 60)) b signsL := mapIs_below hM ((Below.refl _ _).alloc (Nat.le_refl _) _)
  have HM := Lib.hid HM
  clear cl cs cd hl hd hg hM
  have hsm : s.size ≤ 9223372036854775807 := by omega
  go_enter Tryd.func20, Tryd.ntmps20
  go_wp2_with fail
  refine (CL _).out.mono ?_
  rintro e w' ⟨rfl, rfl⟩
  go_wp2_with fail
  refine (CD _).out.mono ?_
  rintro e w' ⟨rfl, rfl⟩
  go_wp2_with fail
  refine (CS _ HM.out).out.mono ?_
  rintro e w1 ⟨rfl, hb⟩
  have hblk := blk_keep hb
  have c0 : w1.cell? ⟨w.heap.size, 0, none⟩ = some (.int .i64 0) := blk_cell hblk 0
  have c1 : w1.cell? ⟨w.heap.size, 1, none⟩ = some (.string ⟨#[]⟩) := blk_cell hblk 1
  have c2 : w1.cell? ⟨w.heap.size, 2, none⟩ = some (.int .i64 0) := blk_cell hblk 2
  have c3 : w1.cell? ⟨w.heap.size, 3, none⟩ = some (.int .i64 0) := blk_cell hblk 3
  have f0 : w1.frozen? ⟨w.heap.size, 0, none⟩ = false := blk_frozen hblk 0
  have f1 : w1.frozen? ⟨w.heap.size, 1, none⟩ = false := blk_frozen hblk 1
  have f2 : w1.frozen? ⟨w.heap.size, 2, none⟩ = false := blk_frozen hblk 2
  have f3 : w1.frozen? ⟨w.heap.size, 3, none⟩ = false := blk_frozen hblk 3
  have HB : Hid (Below w.heap.size w w1) := Lib.hid (((Below.refl _ _).alloc (Nat.le_refl _) _).trans (hb.mono (by simp)))
  clear hb hblk
  go_wp2_with fail
  refine bodyPost_ret (v := .tuple #[lxTokV ⟨0, [], 0, 0⟩, .int .i64 0, .int .i64 3]) (by simp [results, Tryd.results20, go_sem, lxTokV, c0, c1, c2, c3]) rfl ⟨rfl, ?_⟩
  exact (((HB.out.setCell (Nat.le_refl _) _).setCell (Nat.le_refl _) _).setCell (Nat.le_refl _) _).setCell (Nat.le_refl _) _

set_option maxRecDepth 100000 in
theorem next_sign (s : ByteArray) (k b : Nat) (w : World) (t : List UInt8) (hs : s.size ≤ 4096) (hk : k < s.size) (hl : isLet s[k] = false) (hd : isDig s[k] = false) (hM : MapIs w b signsL) (hg : sgT (s.data.toList.drop k) = some t) :
    Calls Tryd.prog 20 #[.string s, .int .i64 k, .map (some b)] w fun e w' =>
      e = .returned (.tuple #[lxTokV ⟨3, t, 0, k⟩, .int .i64 ((k + t.length : Nat) : Int), .int .i64 0]) ∧ Below w.heap.size w w' := by
  have cl := fun W => isLetter_any s[k] W
  rw [hl] at cl
  have CL := fun W => Lib.hid (cl W)
  have cd := fun W => isDigit_any s[k] W
  rw [hd] at cd
  have CD := fun W => Lib.hid (cd W)
  have cs := fun W (h : MapIs W b signsL) => signLength_any (s.extract k s.size) b W h
  rw [drop_str, sg_some hg] at cs
  have hpre := (sgT_some hg).2
  have hpos := (signs_pos (sgT_some hg).1).1
  have h3 := (signs_pos (sgT_some hg).1).2
  have hle : k + t.length ≤ s.size := by
    have := hpre.length_le
    have e : s.data.toList.length = s.size := by simp
    rw [List.length_drop, e] at this
    omega
  have hx := run_sign s k t hpre
  have cc := fun W => clone_any ⟨t.toArray⟩ W (by show t.toArray.size ≤ _; rw [List.size_toArray]; omega)
  obtain ⟨n, hn⟩ : ∃ n, n = t.length := ⟨_, rfl⟩
  rw [← hn] at cs hx hpos h3 hle ⊢
  have CS := fun W h => Lib.hid (cs W h)
  have CC := fun W => Lib.hid (cc W)
  have HX := Lib.hid hx
  have HM : MapIs (w.alloc (.cells #[.int .i64 0, .string ⟨#[]⟩, .int .i64 0, .int .i64 0] 60)) b signsL := mapIs_below hM ((Below.refl _ _).alloc (Nat.le_refl _) _)
  have HM := Lib.hid HM
  clear cl cs cc cd hl hd hg hM hx hn hpre
  have hsm : s.size ≤ 9223372036854775807 := by omega
  have hne : (((k : Int) + (n : Int)) == (k : Int)) = false := by simp; omega
  go_enter Tryd.func20, Tryd.ntmps20
  go_wp2_with fail
  refine (CL _).out.mono ?_
  rintro e w' ⟨rfl, rfl⟩
  go_wp2_with fail
  refine (CD _).out.mono ?_
  rintro e w' ⟨rfl, rfl⟩
  go_wp2_with fail
  refine (CS _ HM.out).out.mono ?_
  rintro e w0 ⟨rfl, hb0⟩
  have HB0 := Lib.hid hb0
  clear hb0
  go_wp2_with fail
  rw [HX.out]
  refine (CC _).out.mono ?_
  rintro e w1 ⟨rfl, hb1⟩
  have hb := HB0.out.trans (hb1.mono HB0.out.size)
  have hblk := blk_keep hb
  have c0 : w1.cell? ⟨w.heap.size, 0, none⟩ = some (.int .i64 0) := blk_cell hblk 0
  have c1 : w1.cell? ⟨w.heap.size, 1, none⟩ = some (.string ⟨#[]⟩) := blk_cell hblk 1
  have c2 : w1.cell? ⟨w.heap.size, 2, none⟩ = some (.int .i64 0) := blk_cell hblk 2
  have c3 : w1.cell? ⟨w.heap.size, 3, none⟩ = some (.int .i64 0) := blk_cell hblk 3
  have f0 : w1.frozen? ⟨w.heap.size, 0, none⟩ = false := blk_frozen hblk 0
  have f1 : w1.frozen? ⟨w.heap.size, 1, none⟩ = false := blk_frozen hblk 1
  have f2 : w1.frozen? ⟨w.heap.size, 2, none⟩ = false := blk_frozen hblk 2
  have f3 : w1.frozen? ⟨w.heap.size, 3, none⟩ = false := blk_frozen hblk 3
  have HB : Hid (Below w.heap.size w w1) := Lib.hid (((Below.refl _ _).alloc (Nat.le_refl _) _).trans (hb.mono (by simp)))
  clear hb hblk hb1
  go_wp2_with fail
  refine bodyPost_ret (v := .tuple #[lxTokV ⟨3, t, 0, k⟩, .int .i64 ((k + n : Nat) : Int), .int .i64 0]) (by simp [results, Tryd.results20, go_sem, lxTokV, c0, c1, c2, c3]) rfl ⟨rfl, ?_⟩
  exact (((HB.out.setCell (Nat.le_refl _) _).setCell (Nat.le_refl _) _).setCell (Nat.le_refl _) _).setCell (Nat.le_refl _) _
end Go.Proofs.YtjmemapkipkocaaDoor

/-
  'Tokens' of lex: what 'lexR' tells.
-/
namespace Go.Proofs.YtjmemapkipkocaaDoor
open Go.RowKit Go.Maps
set_option linter.unusedVariables false

def tokC (t : Tok) : List Value := [.int .i64 t.kind, .string ⟨t.text.toArray⟩, .int .i64 t.n, .int .i64 t.pos]
def toksC (l : List Tok) : List Value := l.flatMap tokC
theorem toksC_snoc (l : List Tok) (t : Tok) : toksC (l ++ [t]) = toksC l ++ tokC t := by simp [toksC]
theorem toksC_length (l : List Tok) : (toksC l).length = l.length * 4 := by
  induction l with
  | nil => rfl
  | cons t l ih => simp only [toksC, List.flatMap_cons, List.length_append, List.length_cons] at ih ⊢; rw [ih]; simp [tokC]; omega
/-- What a lexer returns: the tokens in new memory, and the fault. -/
def TokRes (w : World) (R : Res) (e : Ending) (w' : World) : Prop :=
  ∃ v, e = .returned (.tuple #[v, .agg #[.int .i64 R.err, .int .i64 R.at]]) ∧ w'.ownsRow w.heap.size 60 4 v R.toks.length (toksC R.toks) ∧ Below w.heap.size w w'
theorem own_below {w w' : World} {base : Nat} {e : TypeId} {size : Nat} {v : Value} {n : Nat} {xs : List Value} (h : w.ownsRow base e size v n xs) (hb : Below w.heap.size w w') : w'.ownsRow base e size v n xs :=
  h.kept (row := none) ⟨hb.os, hb.tape, hb.output, hb.size, fun k hk _ => hb.block k hk⟩ (by cases v.ownBlock <;> simp)
theorem infoTok : (Tryd.prog.info? 60).map (fun i => (i.zero, i.size, i.bytes)) = some (some (.agg #[.int .i64 0, .string ⟨#[]⟩, .int .i64 0, .int .i64 0]), 4, 40) := by kernel_rfl
set_option maxRecDepth 100000 in
theorem lexTokens_long (s : ByteArray) (w : World) (hs : 2000 < s.size) (hm : s.size ≤ maxLen) :
    Calls Tryd.prog 11 #[.string s] w fun e w' => e = .returned (.tuple #[.slice none 0 0, .agg #[.int .i64 2, .int .i64 0]]) ∧ Below w.heap.size w w' := by
  unfold maxLen at hm
  go_enter Tryd.func11, Tryd.ntmps11
  go_wp2_with fail
  refine bodyPost_ret (v := .tuple #[.slice none 0 0, .agg #[.int .i64 2, .int .i64 0]]) (by simp [results, Tryd.results11, go_sem]) rfl ⟨rfl, ?_⟩
  exact (Below.refl _ _).alloc (Nat.le_refl _) _
section
variable (s : ByteArray) (k : Nat) (acc : List Tok) (hk : k < s.size) (hb : isBl s[k] = false)
include hb
theorem round_name (hl : isLet s[k] = true) : SS (s.data.toList.drop k) k acc =
    SS (s.data.toList.drop (k + cnt isAl (s.data.toList.drop k))) (k + cnt isAl (s.data.toList.drop k)) (acc ++ [⟨if isWord ((s.data.toList.drop k).takeWhile isAl) then 4 else 1, (s.data.toList.drop k).takeWhile isAl, 0, k⟩]) := by
  have h := SS_name (r := s.data.toList.drop (k + 1)) k acc hb hl
  rw [← drop_cons s hk, List.drop_drop] at h
  exact h
theorem round_num (hl : isLet s[k] = false) (hd : isDig s[k] = true) : SS (s.data.toList.drop k) k acc =
    if numE (s.data.toList.drop k) = 0 then SS (s.data.toList.drop (numP (s.data.toList.drop k) k)) (numP (s.data.toList.drop k) k) (acc ++ [⟨2, [], numN (s.data.toList.drop k), k⟩]) else .bad (numE (s.data.toList.drop k)) k := by
  have h := SS_num (r := s.data.toList.drop (k + 1)) k acc hb hl hd
  rw [← drop_cons s hk, List.drop_drop] at h
  rw [h]
  cases ho : (numOf ((s.data.toList.drop k).takeWhile isDig)).2 with
  | true =>
    obtain ⟨a, b, c⟩ := num_over k ho
    rw [if_pos rfl, a, if_neg (by decide)]
  | false =>
    rw [if_neg (by simp : ¬ (false = true))]
    cases hl : isLet ((s.data.toList.drop k).getD (cnt isDig (s.data.toList.drop k)) 0) with
    | true =>
      obtain ⟨a, b, c⟩ := num_let k ho hl
      rw [a, if_neg (by decide : ¬ (3 : Int) = 0)]
      exact if_pos hl
    | false =>
      obtain ⟨a, b, c⟩ := num_ok k ho hl
      rw [a, b, c, if_pos rfl]
      rw [if_neg (by rw [show ((s.data.toList.drop k).takeWhile isDig).length = cnt isDig (s.data.toList.drop k) from rfl, hl]; decide)]
      rfl
theorem round_sign (hl : isLet s[k] = false) (hd : isDig s[k] = false) : SS (s.data.toList.drop k) k acc = match sgT (s.data.toList.drop k) with
      | none => .bad 3 k
      | some t => SS (s.data.toList.drop (k + t.length)) (k + t.length) (acc ++ [⟨3, t, 0, k⟩]) := by
  have h := SS_sign (r := s.data.toList.drop (k + 1)) k acc hb hl hd
  rw [← drop_cons s hk] at h
  rw [h]
  cases sgT (s.data.toList.drop k) with
  | none => rfl
  | some t => simp only [List.drop_drop]
end
/-- Where the lexer is: past k, with tokens so far. -/
structure At (s : ByteArray) (k : Nat) (acc : List Tok) : Prop where
  le : k ≤ s.size
  few : acc.length ≤ k
  here : ∀ h : k < s.size, isBl s[k] = false
  same : SS (s.data.toList.drop k) k acc = SS s.data.toList 0 []
theorem At.skip {s : ByteArray} {E : Nat} {acc : List Tok} (h1 : E ≤ s.size) (h2 : acc.length ≤ E) (h : SS (s.data.toList.drop E) E acc = SS s.data.toList 0 []) : At s (E + cnt isBl (s.data.toList.drop E)) acc where
  le := cnt_in isBl s E h1
  few := by omega
  here := fun hlt => head_cnt isBl (s.data.toList.drop E) s[E + cnt isBl (s.data.toList.drop E)] (s.data.toList.drop (E + cnt isBl (s.data.toList.drop E) + 1)) (by rw [List.drop_drop, ← drop_cons s hlt])
  same := by
    have := SS_blanks (s.data.toList.drop E) E acc
    rw [List.drop_drop] at this
    rw [← this, h]
theorem At.start (s : ByteArray) : At s (cnt isBl s.data.toList) [] := by
  have := At.skip (s := s) (E := 0) (acc := []) (Nat.zero_le _) (Nat.le_refl _) rfl
  simpa using this
theorem At.done {s : ByteArray} {k : Nat} {acc : List Tok} (h : At s k acc) (hk : ¬ k < s.size) : SS s.data.toList 0 [] = .ok (acc ++ [⟨0, [], 0, s.size⟩]) := by
  rw [← h.same, drop_nil s hk, SS_nil, show k = s.size from by have := h.le; omega]

theorem TokRes.bad {w : World} {R : Res} {err : Int} {pos : Nat} {w' : World} (hR : R = .bad err pos) (h : Below w.heap.size w w') : TokRes w R (.returned (.tuple #[.slice none 0 0, .agg #[.int .i64 err, .int .i64 pos]])) w' := by
  subst hR
  exact ⟨_, rfl, World.ownsRow_nil _ _ _ _, h⟩
theorem blk_at {w1 w2 : World} {g : Nat} {cs : Array Value} {T : TypeId} (hk : w1.heap[g]? = some (.cells cs T (0, 0))) (hB : Below w1.heap.size w1 w2) : w2.heap[g]? = some (.cells cs T (0, 0)) :=
  (hB.block g (by
    rcases Nat.lt_or_ge g w1.heap.size with h | h
    · exact h
    · rw [Array.getElem?_eq_none h] at hk; cases hk)).trans hk
theorem news_at (w : World) (T : TypeId) (t : Tok) : ∀ j u, (tokC t)[j]? = some u → (w.alloc (.cells #[.int .i64 t.kind, .string ⟨t.text.toArray⟩, .int .i64 t.n, .int .i64 t.pos] T)).cell? ((⟨w.heap.size, 0, none⟩ : Addr).add j) = some u := by
  intro j u h
  have e : (⟨w.heap.size, 0, none⟩ : Addr).add j = ⟨w.heap.size, j, none⟩ := by unfold Addr.add; split <;> simp_all
  rw [e, blk_cell (heap_alloc_new w _), ← h]
  simp [tokC]
theorem news_one (t : Tok) : ∀ u ∈ tokC t, u.oneCell' = true := by
  intro u hu
  simp only [tokC, List.mem_cons, List.not_mem_nil, or_false] at hu
  rcases hu with rfl | rfl | rfl | rfl <;> rfl
theorem own_mono {w : World} {base base' : Nat} {e : TypeId} {size : Nat} {v : Value} {n : Nat} {xs : List Value} (h : w.ownsRow base e size v n xs) (hb : base' ≤ base) : w.ownsRow base' e size v n xs := by
  refine ⟨h.1, ?_⟩
  rcases h.2 with h2 | ⟨g, cap, cur, a, b, c⟩
  · exact .inl h2
  · exact .inr ⟨g, cap, cur, a, by omega, c⟩
theorem TokRes.ok_ {w w1 w2 : World} {R : Res} {acc : List Tok} {t : Tok} {v : Value} (hR : R = .ok (acc ++ [t])) (hw : w.heap.size + 1 ≤ w1.heap.size) (h : w2.ownsRow w1.heap.size 60 4 v (acc.length + 1) (toksC acc ++ tokC t)) (h0 : Below w.heap.size w w1) (hb : Below w1.heap.size w1 w2) (a b : Value) :
    TokRes w R (.returned (.tuple #[v, .agg #[.int .i64 0, .int .i64 0]])) ((w2.setCell ⟨w.heap.size, 0, none⟩ a).setCell ⟨w.heap.size, 1, none⟩ b) := by
  subst hR
  refine ⟨v, rfl, ?_, ((h0.trans (hb.mono h0.size)).setCell (Nat.le_refl _) _).setCell (Nat.le_refl _) _⟩
  have h1 := ownsRow_setCell_below (ownsRow_setCell_below h (a := ⟨w.heap.size, 0, none⟩) (by show w.heap.size < _; omega) a) (a := ⟨w.heap.size, 1, none⟩) (by show w.heap.size < _; omega) b
  have e : Res.toks (.ok (acc ++ [t])) = acc ++ [t] := rfl
  rw [e, toksC_snoc, List.length_append]
  exact own_mono h1 (by omega)
/-- What 'next' returns: a token, or a fault. -/
theorem next_cases (s : ByteArray) (k b : Nat) (hs : s.size ≤ 2000) (hk : k < s.size) (hbl : isBl s[k] = false) :
    (∃ (t : Tok) (E : Nat), k + 1 ≤ E ∧ E ≤ s.size ∧ (∀ acc, SS (s.data.toList.drop k) k acc = SS (s.data.toList.drop E) E (acc ++ [t])) ∧
      ∀ w, MapIs w b signsL → Calls Tryd.prog 20 #[.string s, .int .i64 k, .map (some b)] w fun e w' => e = .returned (.tuple #[.agg #[.int .i64 t.kind, .string ⟨t.text.toArray⟩, .int .i64 t.n, .int .i64 t.pos], .int .i64 E, .int .i64 0]) ∧ Below w.heap.size w w') ∨
    (∃ (t : Tok) (E : Nat) (err : Int), (err == 0) = false ∧ (∀ acc, SS (s.data.toList.drop k) k acc = .bad err k) ∧
      ∀ w, MapIs w b signsL → Calls Tryd.prog 20 #[.string s, .int .i64 k, .map (some b)] w fun e w' => e = .returned (.tuple #[.agg #[.int .i64 t.kind, .string ⟨t.text.toArray⟩, .int .i64 t.n, .int .i64 t.pos], .int .i64 E, .int .i64 err]) ∧ Below w.heap.size w w') := by
  cases hl : isLet s[k] with
  | true =>
    refine .inl ⟨_, _, ?_, cnt_in isAl s k (by omega), fun acc => round_name s k acc hk hbl hl, fun w _ => next_name s k b w (by omega) hk hl⟩
    rw [drop_cons s hk, cnt_yes (by simp [isAl, hl])]; omega
  | false =>
    cases hd : isDig s[k] with
    | true =>
      by_cases he : numE (s.data.toList.drop k) = 0
      · refine .inl ⟨_, _, ?_, ?_, fun acc => by rw [round_num s k acc hk hbl hl hd, if_pos he], fun w _ => ?_⟩
        · rw [numP, if_pos he, drop_cons s hk, cnt_yes hd]; omega
        · rw [numP, if_pos he]; exact cnt_in isDig s k (by omega)
        · have := next_num s k b w (by omega) hk hl hd
          rw [he] at this
          exact this
      · exact .inr ⟨_, _, _, by simpa using he, fun acc => by rw [round_num s k acc hk hbl hl hd, if_neg he], fun w _ => next_num s k b w (by omega) hk hl hd⟩
    | false =>
      cases hg : sgT (s.data.toList.drop k) with
      | none => exact .inr ⟨⟨0, [], 0, 0⟩, 0, 3, by decide, fun acc => by rw [round_sign s k acc hk hbl hl hd, hg], fun w hM => next_bad s k b w (by omega) hk hl hd hM hg⟩
      | some t =>
        refine .inl ⟨_, _, ?_, ?_, fun acc => by rw [round_sign s k acc hk hbl hl hd, hg], fun w hM => next_sign s k b w t (by omega) hk hl hd hM hg⟩
        · have := (signs_pos (sgT_some hg).1).1; omega
        · have := (sgT_some hg).2.length_le
          have e : s.data.toList.length = s.size := by simp
          rw [List.length_drop, e] at this
          omega
theorem At.step {s : ByteArray} {k E : Nat} {acc : List Tok} {t : Tok} (h : At s k acc) (h1 : k + 1 ≤ E) (h2 : E ≤ s.size) (hR : SS (s.data.toList.drop k) k acc = SS (s.data.toList.drop E) E (acc ++ [t])) : At s (E + cnt isBl (s.data.toList.drop E)) (acc ++ [t]) :=
  At.skip h2 (by have := h.few; simp; omega) (by rw [← hR, h.same])
set_option maxRecDepth 100000 in
set_option maxHeartbeats 1000000 in
theorem lexTokens_ok (s : ByteArray) (w : World) (hs : s.size ≤ 2000) (htab : Lib.TabIs Tryd.prog w "strings.asciiSpace" .u8 Lib.asciiSpaceTab) :
    Calls Tryd.prog 11 #[.string s] w (TokRes w (SS s.data.toList 0 [])) := by
  have cs := signs_any _ (tab_alloc (.cells #[.int .i64 0, .int .i64 0] 29) htab)
  have CS := Lib.hid cs
  have CB := fun k (hk : k ≤ s.size) W => Lib.hid (pastBlanks_any s k W (by unfold maxLen; omega) hk)
  obtain ⟨i0, hi, hz0, hz1, hz2⟩ := info_parts infoTok
  clear cs htab
  go_enter Tryd.func11, Tryd.ntmps11
  go_wp2_with fail
  refine CS.out.mono ?_
  rintro e w1 ⟨rfl, hM, hb⟩
  have hblk := blk_keep hb
  have HB0 : Hid (Below w.heap.size w w1) := Lib.hid (((Below.refl _ _).alloc (Nat.le_refl _) _).trans (hb.mono (by simp)))
  have hM' : MapIs w1 (w.heap.size + 1) signsL := by simpa using hM
  have HM := Lib.hid hM'
  have HK := Lib.hid hblk
  have hww : w.heap.size + 1 ≤ w1.heap.size := by have := hb.size; simpa using this
  clear hb hblk hM hM' CS
  go_wp2_with fail
  refine (CB 0 (by omega) _).out.mono ?_
  rintro e w' ⟨rfl, rfl⟩
  go_wp2_with fail
  go_loopw [5, 6, 7, 8, 9] (fun v i _ _ _ wr => ∃ k acc, At s k acc ∧ i = .int .i64 k ∧ wr.ownsRow w1.heap.size 60 4 v acc.length (toksC acc) ∧ Below w1.heap.size w1 wr) (fun _ i _ _ _ _ => s.size - (intOf i).toNat)
  case atStart => exact ⟨cnt isBl s.data.toList, [], At.start s, by simp, World.ownsRow_nil _ _ _ _, Below.refl _ _⟩
  case round =>
    obtain ⟨k, acc, hat, rfl, hown, hbel⟩ := hrel
    have hkle := hat.le
    have hfew := hat.few
    have HA := Lib.hid hat
    have HO := Lib.hid hown
    have HB := Lib.hid hbel
    clear hat hown hbel
    by_cases hlt : k < s.size
    · have hbl := HA.out.here hlt
      have hM : MapIs _ (w.heap.size + 1) signsL := mapIs_below HM.out HB.out
      have HMr := Lib.hid hM
      clear hM
      clear hkle
      rcases next_cases s k (w.heap.size + 1) hs hlt hbl with ⟨t, E, hkE, hEs, hR, cn⟩ | ⟨t, E, err, hne, hR, cn⟩
      · have hR' := hR acc
        have CN := fun W hM => Lib.hid (cn W hM)
        have HR := Lib.hid hR'
        clear hR' hR cn hbl
        go_wp2_with fail
        refine (CN _ HMr.out).out.mono ?_
        rintro e w2 ⟨rfl, hb2⟩
        have hB2 := HB.out.trans (hb2.mono HB.out.size)
        have HB3 := Lib.hid hB2
        have HO1 := Lib.hid (own_below HO.out hb2)
        have hs2 : w1.heap.size ≤ w2.heap.size := hB2.size
        clear hb2 hB2
        have ha := Lib.hid (news_at (w2.alloc (.cells #[.int .i64 t.kind, .string ⟨t.text.toArray⟩, .int .i64 t.n, .int .i64 t.pos] 60)) 60 t)
        go_wp2_with (at_builtin; refine wpList_append_own _ rfl _ _ 36 rfl w1.heap.size 60 i0 _ 4 40 Tryd.underlying36 hi hz0 hz1 hz2 rfl (by decide) _ _ _ rfl ((HO1.out.alloc _).alloc _) ⟨w2.heap.size + 1, 0, none⟩ 1 1 (tokC t) rfl rfl ?c1 ?c2 ?c3 ?c4 ?c5 ?_; rotate_right; intro v' w3 hown' hgrow _; have hB2 : Below w1.heap.size w1 w3 := ((HB3.out.alloc hs2 _).alloc (by simp; omega) _).grown hgrow (by simp; omega) (fun k hk => (HO1.out.lt k hk).1); have HB4 := Lib.hid hB2; have HO2 := Lib.hid hown'; clear hown' hgrow hB2)
        case c1 => have h := ha.out; simpa using h
        case c2 => exact news_one t
        case c3 => unfold maxLen; omega
        case c4 => omega
        case c5 => simp; omega
        go_wp2_with fail
        refine (CB E hEs _).out.mono ?_
        rintro e w' ⟨rfl, rfl⟩
        go_wp2_with fail
        go_roundw
        case rel => exact ⟨_, _, At.step HA.out hkE hEs HR.out, rfl, by rw [toksC_snoc, List.length_append]; exact HO2.out, HB4.out⟩
        case measure => simp [intOf]; omega
      · have hR' := (HA.out.same).symm.trans (hR acc)
        have CN := fun W hM => Lib.hid (cn W hM)
        have HRes := Lib.hid hR'
        clear hR' hR cn hbl
        go_wp2_with fail
        refine (CN _ HMr.out).out.mono ?_
        rintro e w2 ⟨rfl, hb2⟩
        have hB2 := HB.out.trans (hb2.mono HB.out.size)
        have hblk := blk_at (w1 := w1) HK.out hB2
        have c0 : w2.cell? ⟨w.heap.size, 0, none⟩ = some (.int .i64 0) := blk_cell hblk 0
        have c1 : w2.cell? ⟨w.heap.size, 1, none⟩ = some (.int .i64 0) := blk_cell hblk 1
        have f0 : w2.frozen? ⟨w.heap.size, 0, none⟩ = false := blk_frozen hblk 0
        have f1 : w2.frozen? ⟨w.heap.size, 1, none⟩ = false := blk_frozen hblk 1
        have hsz : w.heap.size < w2.heap.size := (by have := hB2.size; omega)
        have HB2 := Lib.hid hB2
        clear hB2 hblk
        clear hb2
        go_wp2_with fail
        refine bodyPost_ret (v := .tuple #[.slice none 0 0, .agg #[.int .i64 err, .int .i64 k]]) (by simp [results, Tryd.results11, go_sem, c0, c1, hsz]) rfl ?_
        exact TokRes.bad HRes.out ((((HB0.out.trans (HB2.out.mono HB0.out.size)).setCell (Nat.le_refl _) _).setCell (Nat.le_refl _) _).alloc (by simp; omega) _)
    · have hR := HA.out.done hlt
      have HRes := Lib.hid hR
      have hdk : decide ((k : Int) < (s.size : Int)) = false := by simp; omega
      have hrs : w1.heap.size ≤ wr.heap.size := HB.out.size
      clear hR
      go_wp2_with (at_builtin; refine wpList_append_own _ rfl _ _ 36 rfl w1.heap.size 60 i0 _ 4 40 Tryd.underlying36 hi hz0 hz1 hz2 rfl (by decide) _ _ _ rfl (HO.out.alloc _) ⟨wr.heap.size, 0, none⟩ 1 1 (tokC ⟨0, [], 0, s.size⟩) rfl rfl ?c1 ?c2 ?c3 ?c4 ?c5 ?_; rotate_right; intro v' w2 hown' hgrow _; have hB2 : Below w1.heap.size w1 w2 := (HB.out.alloc hrs _).grown hgrow (by simp; omega) (fun k hk => (HO.out.lt k hk).1); have hblk := blk_at (w1 := w1) HK.out hB2; have c0 : w2.cell? ⟨w.heap.size, 0, none⟩ = some (.int .i64 0) := blk_cell hblk 0; have c1 : w2.cell? ⟨w.heap.size, 1, none⟩ = some (.int .i64 0) := blk_cell hblk 1; have f0 : w2.frozen? ⟨w.heap.size, 0, none⟩ = false := blk_frozen hblk 0; have f1 : w2.frozen? ⟨w.heap.size, 1, none⟩ = false := blk_frozen hblk 1; have hsz : w.heap.size < w2.heap.size := (by have := hB2.size; omega); have HB2 := Lib.hid hB2; clear hB2 hblk; have HO2 := Lib.hid hown'; clear hown' hgrow)
      case c1 => exact news_at wr 60 ⟨0, [], 0, s.size⟩
      case c2 => exact news_one _
      case c3 => unfold maxLen; omega
      case c4 => omega
      case c5 => simp; omega
      go_wp2_with fail
      refine bodyPost_ret (v := .tuple #[v', .agg #[.int .i64 0, .int .i64 0]]) (by simp [results, Tryd.results11, go_sem, c0, c1]) rfl ?_
      exact TokRes.ok_ HRes.out hww HO2.out HB0.out HB2.out _ _
theorem lexTokens_any (s : ByteArray) (w : World) (hs : s.size ≤ maxLen) (htab : Lib.TabIs Tryd.prog w "strings.asciiSpace" .u8 Lib.asciiSpaceTab) :
    Calls Tryd.prog 11 #[.string s] w (TokRes w (lexR s.data.toList)) := by
  have e : s.data.toList.length = s.size := by simp
  by_cases h : 2000 < s.size
  · refine (lexTokens_long s w h hs).mono ?_
    rintro e' w' ⟨rfl, hb⟩
    exact TokRes.bad (by rw [lexR, if_pos (by omega)]) hb
  · rw [lexR, if_neg (by omega)]
    exact lexTokens_ok s w (by omega) htab
end Go.Proofs.YtjmemapkipkocaaDoor

/-
  'Parse': what 'parseR' tells.
-/
namespace Go.Proofs.YtjmemapkipkocaaDoor
open Go.RowKit Go.Maps
set_option linter.unusedVariables false
set_option linter.unusedSimpArgs false
set_option maxRecDepth 100000
set_option maxHeartbeats 1000000

def URes.err : URes → Int | .bad e _ => e | .ok _ => 0
def URes.at : URes → Int | .bad _ p => p | .ok _ => 0
def URes.un : URes → Un | .bad _ _ => un0 | .ok u => u
/-- What 'Parse' returns: a program in new memory, and the fault. -/
def UnitRes (w : World) (R : URes) (e : Ending) (w' : World) : Prop :=
  ∃ ga gn gc fa fn fc, e = .returned (.tuple #[.agg #[.slice ga gn gc, .slice fa fn fc], .agg #[.int .i64 R.err, .int .i64 R.at]]) ∧ UIn w' w.heap.size w'.heap.size R.un (.slice ga gn gc) (.slice fa fn fc) ∧ Below w.heap.size w w'
theorem OwnB_old (w : World) (o : Obj) (b : Nat) (h : b < w.heap.size) : (w.alloc o).heap[b]? = w.heap[b]? := ((Keeps.refl [] w).alloc o).block b h (by simp)
theorem tab_belowP {w w' : World} (h : Lib.TabIs Tryd.prog w "strings.asciiSpace" .u8 Lib.asciiSpaceTab) (hb : Below w.heap.size w w') : Lib.TabIs Tryd.prog w' "strings.asciiSpace" .u8 Lib.asciiSpaceTab :=
  Joins.tab_stays (g := 0) (by kernel_rfl) h hb (Nat.le_refl _)
theorem unit_fin {w w3 V : World} {lo : Nat} {u : Un} {gv fv : Value} (hk : Keeps [] w w3) (hV : Keeps [w.heap.size, w.heap.size + 1] w3 V) (hU : UIn w3 lo w3.heap.size u gv fv) (hlo : w.heap.size + 2 ≤ lo) : UIn V w.heap.size V.heap.size u gv fv ∧ Below w.heap.size w V :=
  ⟨(hU.of_heap hV.size (fun b h1 h2 => hV.block b h2 (by simp only [List.mem_cons, List.not_mem_nil, or_false]; omega))).wide (by omega) hV.size (Nat.le_refl _),
    (hk.then_ hV (fun x hx => .inr (by simp only [List.mem_cons, List.not_mem_nil, or_false] at hx; omega))).below⟩
theorem parse_bad (t : ByteArray) (w : World) (hs : t.size ≤ maxLen) (htab : Lib.TabIs Tryd.prog w "strings.asciiSpace" .u8 Lib.asciiSpaceTab) (e : Int) (p : Nat) (hl : lexR t.data.toList = .bad e p) :
    Calls Tryd.prog 7 #[.string t] w (UnitRes w (.bad e p)) := by
  have CL := fun W H => Lib.hid (lexTokens_any t W hs H)
  have HT := Lib.hid htab
  have hne : e ≠ 0 := by
    rcases lexR_out t.data.toList with ⟨e', p', h, h0⟩ | ⟨l, p', h, _⟩
    · rw [hl] at h; injection h with h1 h2; rw [h1]; exact h0
    · rw [hl] at h; cases h
  have h1 : (e != 0) = true := by simpa using hne
  rw [hl] at CL
  clear hl hne htab
  go_enter Tryd.func7, Tryd.ntmps7
  go_wp2_with fail
  refine (CL _ (tab_belowP HT.out (((Below.refl _ _).alloc (Nat.le_refl _) _).alloc (by rw [World.size_alloc]; omega) _))).out.mono ?_
  rintro e1 w1 ⟨v, rfl, hown, hb⟩
  simp only [Res.err, Res.at]
  clear hown
  have O0 : OwnB w1 w.heap.size #[.slice none 0 0, .slice none 0 0] 27 := ⟨(hb.block _ (by simp; omega)).trans (OwnB.alloc (OwnB.new rfl) _).blk⟩
  have O1 : OwnB w1 (w.heap.size + 1) #[.int .i64 0, .int .i64 0] 29 := ⟨(hb.block _ (by simp)).trans (OwnB.new (by simp)).blk⟩
  obtain ⟨y0, x0, z0⟩ := O0.facts
  obtain ⟨y1, x1, z1⟩ := O1.facts
  have HB := Lib.hid hb
  clear hb
  have hz1 := HB.out.size
  simp only [World.size_alloc] at hz1
  have hk1 : Keeps [] w w1 := (((Keeps.refl [] w).alloc _).alloc _).trans (Keeps.of_below HB.out)
  go_wp2_with fail
  go_region
  all_goals
    go_wp2_with fail
    refine bodyPost_ret (v := .tuple #[.agg #[.slice none 0 0, .slice none 0 0], .agg #[.int .i64 e, .int .i64 p]]) (by simp [results, Tryd.results7, go_sem, *]) rfl ?_
    exact ⟨none, 0, 0, none, 0, 0, rfl, unit_fin (u := un0) (gv := .slice none 0 0) (fv := .slice none 0 0) (lo := w.heap.size + 2) hk1 Keeps.au (UIn.nil (Nat.le_refl _)) (Nat.le_refl _)⟩
theorem parse_ok (t : ByteArray) (w : World) (hs : t.size ≤ maxLen) (htab : Lib.TabIs Tryd.prog w "strings.asciiSpace" .u8 Lib.asciiSpaceTab) (st : TypeId) (hsiz : w.heap[2]? = some (.cells sizC st (0, 0))) (l : List Tok) (hl : lexR t.data.toList = .ok l)
    (A : Un × St) (hA : P.unitL l fuelP fuelP un0 ⟨0, 0, 0⟩ = some A) :
    Calls Tryd.prog 7 #[.string t] w (UnitRes w (if A.2.err = 0 then .ok A.1 else .bad A.2.err A.2.pos)) := by
  have CL := fun W H => Lib.hid (lexTokens_any t W hs H)
  have HT := Lib.hid htab
  have CM := fun W => Lib.hid (meanings_any W)
  have hlz := lt_of_blk hsiz
  obtain ⟨l0, p0, rfl, hl1, hl2⟩ : ∃ l0 p0, l = l0 ++ [⟨0, [], 0, p0⟩] ∧ l0.length ≤ 2000 ∧ ∀ t ∈ l0, t.kind ≠ 0 := by
    rcases lexR_out t.data.toList with ⟨e', p', h, h0⟩ | ⟨l0, p', h, h1, h2⟩
    · rw [hl] at h; cases h
    · rw [hl] at h; injection h with h; exact ⟨l0, p', h, h1, h2⟩
  rw [hl] at CL
  clear hl
  have HS := Lib.hid hsiz
  obtain ⟨RR, hRR⟩ : ∃ RR, RR = (if A.2.err = 0 then URes.ok A.1 else .bad A.2.err A.2.pos) := ⟨_, rfl⟩
  rw [← hRR]
  have HRR := Lib.hid hRR
  clear hRR
  have HA := Lib.hid hA
  clear hsiz hA htab
  go_enter Tryd.func7, Tryd.ntmps7
  go_wp2_with fail
  refine (CL _ (tab_belowP HT.out (((Below.refl _ _).alloc (Nat.le_refl _) _).alloc (by rw [World.size_alloc]; omega) _))).out.mono ?_
  rintro e1 w1 ⟨v, rfl, hown, hb⟩
  simp only [Res.err, Res.at, Res.toks] at hown ⊢
  obtain ⟨h1, ⟨_, h2⟩ | ⟨gt, cap, cur, rfl, hgt, hblk, hcap, _, hcs, htk⟩⟩ := hown
  · simp at h2
  obtain ⟨ll, hll⟩ : ∃ ll, ll = l0 ++ [(⟨0, [], 0, p0⟩ : Tok)] := ⟨_, rfl⟩
  rw [← hll] at h1 hcap htk HA ⊢
  have HLL := Lib.hid hll
  clear hll
  have O0 : OwnB w1 w.heap.size #[.slice none 0 0, .slice none 0 0] 27 := ⟨(hb.block _ (by simp; omega)).trans (OwnB.alloc (OwnB.new rfl) _).blk⟩
  have O1 : OwnB w1 (w.heap.size + 1) #[.int .i64 0, .int .i64 0] 29 := ⟨(hb.block _ (by simp)).trans (OwnB.new (by simp)).blk⟩
  obtain ⟨y0, x0, z0⟩ := O0.facts
  obtain ⟨y1, x1, z1⟩ := O1.facts
  have HB := Lib.hid hb
  clear hb
  go_wp2_with fail
  refine (CM _).out.mono ?_
  rintro e2 w2 ⟨mb, rfl, hmb, hmo, hb2⟩
  have HB2 := Lib.hid hb2
  clear hb2
  have hz1 := HB.out.size
  simp only [World.size_alloc] at hz1
  have hz2 := HB2.out.size
  simp only [World.size_alloc] at hz2
  have hgl := lt_of_blk hblk
  have hml := lt_of_blk hmo
  have hlen : ll.length ≤ 2001 := by rw [HLL.out]; simp; omega
  have hpos : 0 < ll.length := by rw [HLL.out]; simp
  obtain ⟨c, hcx⟩ : ∃ c : Cx, c = ⟨st, w2.heap.size, gt, cap, mb, ll⟩ := ⟨_, rfl⟩
  have hcg : w2.heap.size = c.g := by rw [hcx]
  have hcgt : gt = c.gt := by rw [hcx]
  have hcl : ll = c.l := by rw [hcx]
  have hcm : mb = c.mb := by rw [hcx]
  have hcc : cap = c.cap := by rw [hcx]
  have hlast : (ll.getD (ll.length - 1) P.eTok).kind = 0 := by rw [HLL.out]; simp
  have hc : c.Ok := ⟨by rw [← hcl]; exact hpos, by rw [← hcl, ← hcc]; exact hcap, by rw [← hcl]; omega, by rw [← hcg, ← hcgt]; omega, by rw [← hcg, ← hcm]; omega, by rw [← hcg]; omega, by rw [← hcl]; exact hlast⟩
  have hk2 : ∀ b, b < w1.heap.size → w2.heap[b]? = w1.heap[b]? := fun b h => (HB2.out.block b (by rw [World.size_alloc]; omega)).trans (OwnB_old w1 _ b h)
  have hkw : ∀ b, b < w.heap.size → w2.heap[b]? = w.heap[b]? := fun b h => (hk2 b (by omega)).trans ((HB.out.block b (by simp only [World.size_alloc]; omega)).trans ((OwnB_old _ _ b (by rw [World.size_alloc]; omega)).trans (OwnB_old w _ b h)))
  have hPI : PIn (w2.alloc (.cells #[.slice (some ⟨gt, 0, none⟩) ll.length cap, .int .i64 0, .int .i64 0, .int .i64 0, .map (some mb)] 42 (0, 0))) c ⟨0, 0, 0⟩ := by
    refine ⟨?_, ⟨cur, ?_, by rw [← hcc]; exact hcs, by rw [← hcl]; exact htk⟩, by rw [← hcl]; exact hpos, ?_, ?_⟩
    · rw [← hcg, ← hcgt, ← hcl, ← hcc, ← hcm]; exact (OwnB.new rfl).blk
    · rw [← hcgt]; exact (OwnB_old w2 _ _ (by omega)).trans ((hk2 _ hgl).trans hblk)
    · rw [← hcm]; exact (OwnB_old w2 _ _ hml).trans hmo
    · rw [show c.st = st by rw [hcx]]; exact (OwnB_old w2 _ _ (by omega)).trans ((hkw _ hlz).trans HS.out)
  have CU := Lib.hid (unit_step c hc fuelP (by decide) (fun k _ => goodS c hc k) fuelP (by decide) ⟨0, 0, 0⟩ A _ (by rw [← hcl]; exact HA.out) hPI)
  have HPI := Lib.hid hPI
  unfold pv at CU
  rw [← hcg] at CU
  have HCG := Lib.hid hcg
  have Oa0 : OwnB w2 w.heap.size #[.slice none 0 0, .slice none 0 0] 27 := ⟨(hk2 _ (by omega)).trans O0.blk⟩
  have Oa1 : OwnB w2 (w.heap.size + 1) #[.int .i64 0, .int .i64 0] 29 := ⟨(hk2 _ (by omega)).trans O1.blk⟩
  clear O0 O1 y0 x0 z0 y1 x1 z1
  clear hPI hlast hcx hcg hcgt hcl hcm hcc hk2 hkw
  go_wp2_with fail
  refine CU.out.mono ?_
  rintro e w3 ⟨ga, gn, gc, fa, fn, fc, rfl, hP3, hK3, hU3⟩
  obtain ⟨c0, c1, c2, c3, c4⟩ := hP3.cells
  rw [← HCG.out] at c0 c1 c2 c3 c4
  have hz3 := hK3.size
  simp only [World.size_alloc] at hz3
  have HK3 := Lib.hid hK3
  have O0 : OwnB w3 w.heap.size #[.slice none 0 0, .slice none 0 0] 27 := ⟨(hK3.block _ (by rw [World.size_alloc]; omega) (by rw [← HCG.out]; simp only [List.mem_singleton]; omega)).trans (OwnB.alloc Oa0 _).blk⟩
  have O1 : OwnB w3 (w.heap.size + 1) #[.int .i64 0, .int .i64 0] 29 := ⟨(hK3.block _ (by rw [World.size_alloc]; omega) (by rw [← HCG.out]; simp only [List.mem_singleton]; omega)).trans (OwnB.alloc Oa1 _).blk⟩
  obtain ⟨y0, x0, z0⟩ := O0.facts
  obtain ⟨y1, x1, z1⟩ := O1.facts
  have hs3 : w2.heap.size < w3.heap.size := by omega
  have hk3 : Keeps [] w w3 := ((((Keeps.refl [] w).alloc _).alloc _).trans (Keeps.of_below HB.out)).trans (((Keeps.refl [] w1).alloc _).trans (Keeps.of_below HB2.out)) |>.then_ (((Keeps.refl [c.g] w2).alloc _).trans HK3.out) (fun x hx => .inr (by rw [List.mem_singleton] at hx; rw [hx, ← HCG.out]; omega))
  have HU3 := Lib.hid hU3
  clear hP3 hK3 hU3
  by_cases hE : A.2.err = 0
  · have hE1 : (A.2.err != 0) = false := by simp [hE]
    go_wp2_with fail
    refine bodyPost_ret (v := .tuple #[.agg #[.slice ga gn gc, .slice fa fn fc], .agg #[.int .i64 0, .int .i64 0]]) (by simp [results, Tryd.results7, go_sem, *]) rfl ?_
    rw [show RR = URes.ok A.1 by rw [HRR.out, if_pos hE]]
    exact ⟨ga, gn, gc, fa, fn, fc, rfl, unit_fin hk3 Keeps.au HU3.out (by rw [World.size_alloc]; omega)⟩
  · have hE1 : (A.2.err != 0) = true := by simp [hE]
    go_wp2_with fail
    go_region
    all_goals
      go_wp2_with fail
      refine bodyPost_ret (v := .tuple #[.agg #[.slice none 0 0, .slice none 0 0], .agg #[.int .i64 A.2.err, .int .i64 A.2.pos]]) (by simp [results, Tryd.results7, go_sem, *]) rfl ?_
      rw [show RR = URes.bad A.2.err A.2.pos by rw [HRR.out, if_neg hE]]
      exact ⟨none, 0, 0, none, 0, 0, rfl, unit_fin (u := un0) (gv := .slice none 0 0) (fv := .slice none 0 0) (lo := w.heap.size + 2) hk3 Keeps.au (UIn.nil (Nat.le_refl _)) (Nat.le_refl _)⟩
theorem parse_any (t : ByteArray) (w : World) (hs : t.size ≤ maxLen) (htab : Lib.TabIs Tryd.prog w "strings.asciiSpace" .u8 Lib.asciiSpaceTab) (st : TypeId) (hsiz : w.heap[2]? = some (.cells sizC st (0, 0))) (R : URes) (hR : parseR t.data.toList = some R) :
    Calls Tryd.prog 7 #[.string t] w (UnitRes w R) := by
  unfold parseR at hR
  cases hl : lexR t.data.toList with
  | bad e p =>
    rw [hl] at hR
    obtain rfl := Option.some.inj hR
    exact parse_bad t w hs htab e p hl
  | ok l =>
    rw [hl] at hR
    obtain ⟨A, hA, rfl⟩ := Option.map_eq_some_iff.1 hR
    exact parse_ok t w hs htab st hsiz l hl A hA
end Go.Proofs.YtjmemapkipkocaaDoor

/-
  The texts of 'ParseEdges', and what they are, plainly.
-/
namespace Go.Proofs.YtjmemapkipkocaaDoor
open Go.RowKit
set_option linter.unusedVariables false
set_option maxRecDepth 100000

def repT : Nat → List UInt8 → List UInt8
  | 0, _ => []
  | n + 1, t => repT n t ++ t
def funcsT : List UInt8 := repT 8 [105, 110, 116, 32, 102, 40, 41, 123, 125, 32]
def globalsT : List UInt8 := repT 16 [105, 110, 116, 32, 103, 59, 32]
def openT : List UInt8 := repT 16 [40]
def shutT : List UInt8 := repT 16 [41]
def goodT : List (List UInt8) := [[], [105, 110, 116, 32, 42, 42, 42, 112, 59], [105, 110, 116, 32, 102, 40, 105, 110, 116, 32, 97, 44, 105, 110, 116, 32, 98, 44, 105, 110, 116, 32, 99, 44, 105, 110, 116, 32, 100, 41, 123, 125], funcsT, globalsT, [105, 110, 116, 32, 97, 91, 54, 52, 93, 59], [105, 110, 116, 32, 97, 91, 50, 93, 61, 123, 49, 44, 45, 50, 125, 59], [105, 110, 116, 32, 109, 97, 105, 110, 40, 41, 123, 120, 61] ++ openT ++ [49] ++ shutT ++ [59, 125]]
def badT : List (List UInt8) := [[105, 110, 116, 32, 42, 42, 42, 42, 112, 59], [105, 110, 116, 32, 102, 40, 105, 110, 116, 32, 97, 44, 105, 110, 116, 32, 98, 44, 105, 110, 116, 32, 99, 44, 105, 110, 116, 32, 100, 44, 105, 110, 116, 32, 101, 41, 123, 125], funcsT ++ [105, 110, 116, 32, 102, 40, 41, 123, 125], globalsT ++ [105, 110, 116, 32, 103, 59], [105, 110, 116, 32, 97, 91, 54, 53, 93, 59], [105, 110, 116, 32, 97, 91, 48, 93, 59], [105, 110, 116, 32, 97, 91, 50, 93, 61, 123, 49, 44, 50, 44, 51, 125, 59], [105, 110, 116, 32, 109, 97, 105, 110, 40, 41, 123, 120, 61, 40] ++ openT ++ [49] ++ shutT ++ [41, 59, 125], [105, 110, 116, 32, 109, 97, 105, 110, 40, 41, 123, 102, 40, 49, 44, 50, 44, 51, 44, 52, 44, 53, 41, 59, 125], [105, 110, 116, 32, 97, 91, 50, 93, 61, 49, 59], [105, 110, 116, 32, 97, 61, 123, 49, 125, 59], [105, 110, 116, 32, 109, 97, 105, 110, 40, 41, 123, 105, 110, 116, 32, 97, 91, 50, 93, 61, 49, 59, 125]]
def wantI : List Int := [2, 2, 2, 2, 10, 10, 10, 2, 2, 4, 4, 4]
def isOk : Option URes → Bool
  | some (.ok _) => true
  | _ => false
def isBad (e : Int) : Option URes → Bool
  | some (.bad e' _) => e' == e
  | _ => false
theorem good_ok : goodT.all (fun t => isOk (parseR t)) = true := by decide +kernel
theorem bad_bad : (badT.zip wantI).all (fun x => isBad x.2 (parseR x.1)) = true := by decide +kernel
theorem main_ok : parseR [105, 110, 116, 32, 109, 97, 105, 110, 40, 41, 123, 114, 101, 116, 117, 114, 110, 32, 49, 59, 125] = some (.ok ⟨[], [⟨[109, 97, 105, 110], ⟨5, 0, 0⟩, [], .cons 13 (.cons 1 ty0 [] 1 .nil 18 .nil) .nil ty0 [] 0 11 .nil, 4⟩]⟩) := by decide +kernel
end Go.Proofs.YtjmemapkipkocaaDoor

/-
  'wakes' of stage 3's statements.
-/
namespace Go.Proofs.YtjmemapkipkocaaDoor
open Go.RowKit Go.Maps
set_option linter.unusedVariables false
set_option linter.unusedSimpArgs false
set_option maxRecDepth 100000
set_option maxHeartbeats 1000000

def mainF : Fn := ⟨[109, 97, 105, 110], ⟨5, 0, 0⟩, [], .cons 13 (.cons 1 ty0 [] 1 .nil 18 .nil) .nil ty0 [] 0 11 .nil, 4⟩
/-- One function that holds one statement, in memory. -/
theorem one_fn {w : World} {lo hi : Nat} {gv : Value} {fa : Option Addr} {fn fc : Nat} (h : UIn w lo hi ⟨[], [mainF]⟩ gv (.slice fa fn fc)) : fn = 1 ∧ ∃ g ab pb, fa = some ⟨g, 0, none⟩ ∧ g < w.heap.size ∧
    w.cell? ⟨g, 0, none⟩ = some (.string ⟨mainF.nm.toArray⟩) ∧ w.cell? ⟨g, 1, none⟩ = some (.int .i64 5) ∧ w.cell? ⟨g, 2, none⟩ = some (.int .i64 0) ∧ w.cell? ⟨g, 3, none⟩ = some (.int .i64 0) ∧ (∃ pv, w.cell? ⟨g, 4, none⟩ = some pv) ∧ w.cell? ⟨g, 5, none⟩ = some (.slice ab 1 pb) ∧ w.cell? ⟨g, 6, none⟩ = some (.slice none 0 0) ∧ w.cell? ⟨g, 7, none⟩ = some (.int .i64 4) := by
  obtain ⟨h1, Fg, Ff, h2, h3, h4, h5⟩ := h
  obtain rfl := h3.len
  obtain ⟨ks, F0, ho, hi, rfl⟩ := h3
  obtain ⟨pv, bv, Fi, xs', F', rfl, rfl, ⟨F1, F2, hp, hb, rfl⟩, rfl, rfl⟩ := hi
  obtain ⟨hl, ⟨_, h6⟩ | ⟨g, cap, cur, he, hg, hblk, hcap, _, hcs, htk⟩⟩ := ho
  · simp at h6
  obtain ⟨hb1, hb2⟩ : ∃ ab pb, bv = .slice ab 1 pb := by
    obtain ⟨kb, F3, hob, _, _⟩ := hb
    rcases hob.2 with ⟨_, h6⟩ | ⟨g2, cap2, cur2, he2, _⟩
    · simp [mainF, Sts.len] at h6
    · exact ⟨_, _, he2⟩
  obtain ⟨pb, rfl⟩ := hb2
  have hcell : ∀ (j : Nat) (u : Value), (fnC mainF pv (.slice hb1 1 pb))[j]? = some u → w.cell? ⟨g, j, none⟩ = some u := fun j u hu => by
    rw [cellB hblk, ← Array.getElem?_toList]
    have hj : j < 8 := (List.getElem?_eq_some_iff.1 hu).1
    have h7 : (cur.toList.take ([mainF].length * 8))[j]? = some u := by rw [htk, List.append_nil]; exact hu
    rw [List.getElem?_take] at h7
    split at h7
    · exact h7
    · cases h7
  injection he with e1 e2 e3
  exact ⟨rfl, g, hb1, pb, e1, lt_of_blk hblk, hcell 0 _ rfl, hcell 1 _ rfl, hcell 2 _ rfl, hcell 3 _ rfl, ⟨pv, hcell 4 _ rfl⟩, hcell 5 _ rfl, hcell 6 _ rfl, hcell 7 _ rfl⟩
theorem wakesP_any (w : World) (htab : Lib.TabIs Tryd.prog w "strings.asciiSpace" .u8 Lib.asciiSpaceTab) (st : TypeId) (hsiz : w.heap[2]? = some (.cells sizC st (0, 0))) :
    Calls Tryd.prog 10 #[] w fun e w' => e = .returned (.bool true) ∧ Below w.heap.size w w' := by
  have CP := Lib.hid (parse_any ⟨([105, 110, 116, 32, 109, 97, 105, 110, 40, 41, 123, 114, 101, 116, 117, 114, 110, 32, 49, 59, 125]).toArray⟩ w (by unfold maxLen; decide) htab st hsiz (.ok ⟨[], [mainF]⟩) main_ok)
  clear htab hsiz
  go_enter Tryd.func10, Tryd.ntmps10
  go_wp2_with fail
  refine CP.out.mono ?_
  rintro e w1 ⟨ga, gn, gc, fa, fn, fc, rfl, hU, hb⟩
  obtain ⟨rfl, g, ab, pb, rfl, hg, c0, c1, c2, c3, ⟨pv, c4⟩, c5, c6, c7⟩ := one_fn hU
  have HB := Lib.hid hb
  clear hb hU
  simp only [URes.err, URes.at]
  go_wp2_with fail
  go_ret
  exact ⟨rfl, (HB.out.alloc HB.out.size _).alloc (by rw [World.size_alloc]; have := HB.out.size; omega) _⟩
end Go.Proofs.YtjmemapkipkocaaDoor

/-
  An argument that is a slice of strings.
-/
namespace Go.Proofs.YtjmemapkipkocaaDoor
open Go.ChangeShapes Go.WideShapes Go.ChangeAt Go.RowKit Go.Deep
set_option linter.unusedVariables false
set_option maxRecDepth 100000

/-- What an argument of strings is, as a value. -/
def StrArg (W : World) (v : Value) : Prop :=
  (∃ (A : Option Addr) (c : Nat), v = .slice A 0 c) ∨
  ∃ (b off n c : Nat) (D : Nat → ByteArray), v = .slice (some ⟨b, off, none⟩) n c ∧ (∀ i, i < n → W.cell? ⟨b, off + i, none⟩ = some (.string (D i))) ∧ b < W.heap.size ∧ n ≤ 9223372036854775807 ∧ ∀ i, (D i).size ≤ maxLen
theorem lt_of_cell {w : World} {a : Addr} {v : Value} (h : w.cell? a = some v) : a.block < w.heap.size := by
  rcases Nat.lt_or_ge a.block w.heap.size with hl | hg
  · exact hl
  · have : w.heap[a.block]? = none := Array.getElem?_eq_none hg
    simp [World.cell?, this] at h
theorem strs_of {H : Type} {enc : TypeId × Value → H} {W : World} {v : Value} {d : DataW H} {p : List MemPlace} (hv : Value.okWide Tryd.prog W .any 0 22 v)
    (h : DataW.Trod enc Tryd.prog W 0 (fun _ => true) true 22 v d p) : StrArg W v := by
  obtain ⟨a0, len0, cap0, rfl⟩ := okWide_slice Tryd.underlying22 hv
  obtain ⟨fuel, hf⟩ := h
  rcases open_strings Tryd.underlying22 Tryd.underlying9 (by kernel_rfl) hf with ⟨hcs, _⟩ | ⟨a, len, cap, ss, hcs, hb, hl, hm, hlen, hx, hcell, hsz⟩
  · have : Value.slice a0 len0 cap0 = Value.slice none 0 0 := by simpa [Value.cells] using hcs
    exact .inl ⟨_, _, this⟩
  · have hval : Value.slice a0 len0 cap0 = Value.slice (some a) len cap := by simpa [Value.cells] using hcs
    rw [hval]
    have hmc : ss.length = cap := by simpa using hlen
    rcases Nat.eq_zero_or_pos len with h0 | hpos
    · subst h0
      exact .inl ⟨_, _, rfl⟩
    · have hc0 := hcell 0 (by omega)
      obtain ⟨b, off, spot⟩ := a
      have hspot : spot = none := by simpa [Addr.add] using World.cell?_spot hc0
      subst hspot
      have hcell' : ∀ i, i < len → W.cell? ⟨b, off + i, none⟩ = some (.string (ss.getD i ByteArray.empty)) := by
        intro i hil
        have := hcell i (by omega)
        rwa [Go.WideShapes.add_plain] at this
      refine .inr ⟨b, off, len, cap, fun i => ss.getD i ByteArray.empty, rfl, hcell', lt_of_cell (hcell' 0 hpos), by unfold maxLen at hm; omega, fun i => ?_⟩
      show (ss.getD i ByteArray.empty).size ≤ maxLen
      by_cases hi : i < ss.length
      · have : ss.getD i ByteArray.empty = ss[i] := by simp [List.getD, hi]
        rw [this]; exact hsz _ (List.getElem_mem _)
      · have : ss.getD i ByteArray.empty = ByteArray.empty := by simp [List.getD]; rw [List.getElem?_eq_none (by omega)]; rfl
        rw [this]; exact Nat.zero_le _
end Go.Proofs.YtjmemapkipkocaaDoor

/-
  'Heavy': some bool, and nothing turns.
-/
namespace Go.Proofs.YtjmemapkipkocaaDoor
open Go.ChangeShapes Go.WideShapes Go.ChangeAt Go.RowKit Go.Deep
set_option linter.unusedVariables false

/-- Some bool, and nothing turns. -/
def SomeBool (w : World) (e : Ending) (w' : World) : Prop := ∃ b, e = .returned (.bool b) ∧ w = w'
theorem heavy_some (w : World) (b off n c : Nat) (D : Nat → ByteArray) (hc : ∀ i, i < n → w.cell? ⟨b, off + i, none⟩ = some (.string (D i))) (hn : n ≤ 9223372036854775807) (hs : ∀ i, (D i).size ≤ maxLen) :
    Calls Tryd.prog 6 #[.slice (some ⟨b, off, none⟩) n c] w (SomeBool w) := by
  unfold maxLen at hs
  have HC := Lib.hid hc
  have HS := Lib.hid hs
  clear hc hs
  go_enter Tryd.func6, Tryd.ntmps6
  go_wp2_with fail
  go_loop [3, 4] (fun m i => ∃ (k : Nat) (N : Int), k ≤ n ∧ i = .int .i64 k ∧ m = .int .i64 N) (fun _ i => n - (intOf i).toNat)
  case atStart => exact ⟨0, _, Nat.zero_le _, rfl, rfl⟩
  case round =>
    obtain ⟨k, N, hk, rfl, rfl⟩ := hrel
    by_cases hlt : k < n
    · by_cases hN : N < 1048576
      · have hcell := HC.out k hlt
        have hsz := HS.out k
        have hdN : decide (N < 1048576) = true := by simpa using hN
        go_wp2_with fail
        go_round
        case rel => exact ⟨k + 1, _, by omega, by go_num, rfl⟩
        case measure => simp [intOf]; omega
      · have hdN : decide (N < 1048576) = false := by simpa using hN
        go_wp2_with fail
        go_ret
        exact ⟨_, rfl, rfl⟩
    · go_wp2_with fail
      go_ret
      exact ⟨_, rfl, rfl⟩
theorem heavy_none (w : World) (A : Option Addr) (c : Nat) : Calls Tryd.prog 6 #[.slice A 0 c] w (SomeBool w) := by
  go_enter Tryd.func6, Tryd.ntmps6
  go_wp2_with fail
  go_loop [3, 4] (fun m i => m = .int .i64 0 ∧ i = .int .i64 0) (fun _ _ => 0)
  case atStart => exact ⟨rfl, rfl⟩
  case round =>
    obtain ⟨rfl, rfl⟩ := hrel
    go_wp2_with fail
    go_ret
    exact ⟨_, rfl, rfl⟩
end Go.Proofs.YtjmemapkipkocaaDoor

/-
  A region that draws its order, all of whose loads read cells that no operation of it writes: step by step in the text's order.
-/
namespace Go.Proofs.YtjmemapkipkocaaDoor
open Go.RowKit Go.Maps
set_option linter.unusedVariables false
set_option linter.unusedSimpArgs false

section
variable {P : Program} {Q : Exit → Act → World → Prop} {md : Region.Mode} {S : World → Prop}
theorem wpH_start (S : World → Prop) {ops : Array Oper} {id : Nat} {a : Act} {w : World} (hm : P.follows .mixedOrders = true) (hS : S w.drew) (h : S w.drew → wpAnyH P .any ops Q S ops.size (Array.replicate ops.size false) a w.drew) : (Code.region id ops true).wp P Q a w :=
  wp_region_held hm (h hS)
/-- Number i is taken ahead of all others. -/
theorem wpH_take {l : List Oper} (i : Nat) {oi : Oper} {v : Value} {k : Nat} {listed : Array Bool} {a : Act} {w : World} (hr : (Region.ready md l.toArray listed).contains i = true)
    (hs : Region.noSelect l.toArray = true) (hf : Region.free md l.toArray listed i = true) (hi : l[i]? = some oi)
    (hQ : ∀ c a w, Q (.panic c) (a.put oi.dst v) w → Q (.panic c) a w) (hy : YieldsIf P l.toArray S oi v a) (hS : S w)
    (h : wpAnyH P md l.toArray Q S k (listed.setIfInBounds i true) (a.put oi.dst v) w) : wpAnyH P md l.toArray Q S (k + 1) listed a w :=
  wpAnyH_take (by simpa using hi) hs hf hr hQ hy hS h
/-- Number i alone may come up. -/
theorem wpH_one {l : List Oper} (i : Nat) {oi : Oper} {k : Nat} {listed : Array Bool} {a : Act} {w : World} (hr : Region.ready md l.toArray listed = [i]) (hi : l[i]? = some oi)
    (h : ∀ K' : Act → World → Prop, Shut (∀ a w, S w → wpAnyH P md l.toArray Q S k (listed.setIfInBounds i true) a w → K' a w) → if Region.wanted oi (yielded l.toArray a.tmps) = true then Oper.wp P oi a w K' Q else K' (a.put oi.dst undef) w) :
    wpAnyH P md l.toArray Q S (k + 1) listed a w := by
  refine ⟨fun h0 => by (rw [hr] at h0; cases h0), fun j hj => ?_⟩
  rw [hr, List.mem_singleton] at hj
  subst hj
  exact wpOp_step (by simpa using hi) fun K' hK => h K' (fun a w hS hW => hK a w ⟨hS, hW⟩)
end
end Go.Proofs.YtjmemapkipkocaaDoor

/-
  'ParseBlanks', walked.
-/
namespace Go.Proofs.YtjmemapkipkocaaDoor
open Go.RowKit Go.Maps
set_option linter.unusedVariables false
set_option linter.unusedSimpArgs false
set_option maxRecDepth 100000
set_option maxHeartbeats 1000000

theorem Un.Bound.small {u : Un} (h : u.Bound) : u.Small :=
  ⟨⟨by have := h.globals; omega, fun d hd => by have := h.inits d hd; omega⟩, by have := h.funcs; omega, fun e he => ⟨⟨by have := h.params e he; omega, fun d hd => by rw [h.none_ e he d hd]; simp⟩, by have := h.body e he; omega⟩⟩
theorem un0_small : un0.Small := ⟨⟨by simp [un0], by simp [un0]⟩, by simp [un0], by simp [un0]⟩
/-- What the two parses come to. -/
structure Blk (t : List UInt8) (R R' : URes) : Prop where
  one : parseR t = some R
  two : parseR ([32, 32] ++ t ++ [10]) = some R'
  err : R.err = R'.err
  bare : R.un.bare = R'.un.bare
  small : R.un.Small
  small2 : R'.un.Small
  pos : R.err = 0 ∨ R.err ≠ 0 ∧ R.at = t.length ∨ R.err ≠ 0 ∧ R.at ≠ t.length ∧ R'.at = R.at + 2 ∧ 0 ≤ R.at ∧ R.at ≤ t.length
theorem blk_of (t : List UInt8) (h : t.length ≤ 1000) : ∃ R R', Blk t R R' := by
  rcases blanks_parse t h with ⟨e, p, p', h1, h2, h3, h4, h5, h6⟩ | ⟨u, u', h1, h2, h3, h4, h5⟩
  · refine ⟨.bad e p, .bad e p', h1, h2, rfl, rfl, un0_small, un0_small, .inr ?_⟩
    by_cases hp : p = t.length
    · exact .inl ⟨h3, hp⟩
    · refine .inr ⟨h3, hp, ?_, h5, h6⟩
      rcases h4 with h4 | h4
      · exact h4
      · exact absurd h4 hp
  · exact ⟨.ok u, .ok u', h1, h2, rfl, h3, h4.small, h5.small, .inl rfl⟩
/-- A program's rows, in any world that has its blocks. -/
theorem UIn.rows {w : World} {lo hi : Nat} {u : Un} {gv fv : Value} (h : UIn w lo hi u gv fv) : ∃ Fg Ff, ∀ W : World, (∀ b, b < hi → W.heap[b]? = w.heap[b]?) → RowD W u.globals gv Fg ∧ RowFs W u.funcs fv Ff := by
  obtain ⟨h1, Fg, Ff, h2, h3, h4, h5⟩ := h
  exact ⟨Fg, Ff, fun W hW => ⟨h2.at_ (fun b hm => hW b (h5 b (by simp [hm])).2), h3.at_ (fun b hm => hW b (h5 b (by simp [hm])).2)⟩⟩
theorem cat_bs (s : ByteArray) : (ByteArray.mk #[32, 32] ++ s ++ ByteArray.mk #[10]).data.toList = [32, 32] ++ s.data.toList ++ [10] := by
  simp [ByteArray.data_append]
theorem blanksLaw_some (w : World) (b off n c : Nat) (D : Nat → ByteArray) (hc : ∀ i, i < n → w.cell? ⟨b, off + i, none⟩ = some (.string (D i))) (hb : b < w.heap.size) (hn : n ≤ 9223372036854775807) (hs : ∀ i, (D i).size ≤ maxLen)
    (htab : Lib.TabIs Tryd.prog w "strings.asciiSpace" .u8 Lib.asciiSpaceTab) (st : TypeId) (hsiz : w.heap[2]? = some (.cells sizC st (0, 0))) :
    Calls Tryd.prog 3 #[.slice (some ⟨b, off, none⟩) n c] w fun e w' => e = .returned (.bool true) ∧ Below w.heap.size w w' := by
  have CH := Lib.hid (heavy_some w b off n c D hc hn hs)
  have CW := fun W (h : Below w.heap.size w W) => Lib.hid (wakesP_any W (tab_belowP htab h) st ((h.block _ (lt_of_blk hsiz)).trans hsiz))
  have HC := Lib.hid hc
  have HS := Lib.hid hs
  have HT := Lib.hid htab
  have HZ := Lib.hid hsiz
  clear hc hs htab hsiz
  go_enter Tryd.func3, Tryd.ntmps3
  go_wp2_with fail
  refine CH.out.mono ?_
  rintro e w' ⟨hv, rfl, rfl⟩
  cases hv with
  | true =>
    go_wp2_with fail
    go_ret
    exact ⟨rfl, Below.refl _ _⟩
  | false =>
    go_wp2_with fail
    go_loopw [3, 4, 5, 6, 7, 10, 11, 12, 13, 14, 15, 16, 17, 18, 19, 20, 21, 22, 23, 24, 25, 26, 27, 28, 29, 30, 31, 32, 33, 34, 35, 36, 37, 38, 39, 40, 41, 42, 43, 44, 45, 46, 47, 48, 49, 50, 51, 52, 53, 54, 55, 56, 57, 58, 59, 60, 61, 62, 63, 64, 65, 66, 67, 68, 69, 70, 71, 72, 73, 74, 75, 76, 77, 78, 79] (fun i _ _ _ _ _ _ _ _ _ _ _ _ _ _ _ _ _ _ _ _ _ _ _ _ _ _ _ _ _ _ _ _ _ _ _ _ _ _ _ _ _ _ _ _ _ _ _ _ _ _ _ _ _ _ _ _ _ _ _ _ _ _ _ _ _ _ _ _ _ _ _ _ _ _ wr => ∃ k : Nat, k ≤ n ∧ k ≤ 8 ∧ i = .int .i64 k ∧ Below w.heap.size w wr) (fun i _ _ _ _ _ _ _ _ _ _ _ _ _ _ _ _ _ _ _ _ _ _ _ _ _ _ _ _ _ _ _ _ _ _ _ _ _ _ _ _ _ _ _ _ _ _ _ _ _ _ _ _ _ _ _ _ _ _ _ _ _ _ _ _ _ _ _ _ _ _ _ _ _ _ _ => 8 - (intOf i).toNat)
    case atStart => exact ⟨0, Nat.zero_le _, by omega, rfl, Below.refl _ _⟩
    case round =>
      obtain ⟨k, hk, hk10, rfl, hbel⟩ := hrel
      obtain ⟨wo, rfl⟩ : ∃ wo : World, wo = wr := ⟨_, rfl⟩
      have HB := Lib.hid hbel
      clear hbel
      by_cases hgo : k < n ∧ k < 8
      · obtain ⟨hlt, h10⟩ := hgo
        have hcell : wo.cell? ⟨b, off + k, none⟩ = some (.string (D k)) := (HB.out.cell hb).trans (HC.out k hlt)
        have hszm := HS.out k
        unfold maxLen at hszm
        have hd1 : decide ((k : Int) < 8) = true := by simp; omega
        by_cases hbig : 1000 < (D k).size
        · have hd2 : decide ((1000 : Int) < ((D k).size : Int)) = true := by simp; omega
          go_wp2_with fail
          go_roundw
          case rel => exact ⟨k + 1, by omega, by omega, by go_num, HB.out⟩
          case measure => simp [intOf]; omega
        · have hd2 : decide ((1000 : Int) < ((D k).size : Int)) = false := by simp; omega
          have hlen : (D k).data.toList.length = (D k).size := by simp
          obtain ⟨R, R', hBlk⟩ := blk_of (D k).data.toList (by omega)
          have hsz2 : ((D k).size : Int) ≤ 8388608 := by omega
          have hcatS : (ByteArray.mk #[32, 32] ++ D k ++ ByteArray.mk #[10]).size = (D k).size + 3 := by simp [ByteArray.size_mk']; omega
          have CL := Lib.hid (parse_any (D k) wo (HS.out k) (tab_belowP HT.out HB.out) st ((HB.out.block _ (lt_of_blk HZ.out)).trans HZ.out) R hBlk.one)
          have CR := fun W (h : Below w.heap.size w W) => Lib.hid (parse_any (ByteArray.mk #[32, 32] ++ D k ++ ByteArray.mk #[10]) W (by rw [hcatS]; unfold maxLen; omega) (tab_belowP HT.out h) st ((h.block _ (lt_of_blk HZ.out)).trans HZ.out) R' (by rw [cat_bs]; exact hBlk.two))
          have HK := Lib.hid hBlk
          have hpos := hBlk.pos
          rw [hlen] at hpos
          have HP := Lib.hid hpos
          clear hBlk hcatS hlen hpos
          go_wp2_with fail
          refine CL.out.mono ?_
          rintro e1 w1 ⟨ga, gn, gc, fa, fn, fc, rfl, hU, hb1⟩
          have HB1 := Lib.hid (HB.out.trans (hb1.mono HB.out.size))
          have HU1 := Lib.hid hU
          have hsw : w.heap.size ≤ w1.heap.size := HB1.out.size
          have hc1 : w1.cell? ⟨b, off + k, none⟩ = some (.string (D k)) := (hb1.cell (by have := HB.out.size; show b < _; omega)).trans hcell
          have hbl : b < w1.heap.size := by omega
          clear hU hb1 hcell
          go_wp2_with fail
          have hB2 : Below w.heap.size w ((w1.alloc (.cells #[.slice ga gn gc, .slice fa fn fc] 27 (0, 0))).alloc (.cells #[.int .i64 R.err, .int .i64 R.at] 29 (0, 0))) := (HB1.out.alloc hsw _).alloc (by rw [World.size_alloc]; omega) _
          refine (CR _ hB2).out.mono ?_
          rintro e2 w2 ⟨xa, xn, xc, ya, yn, yc, rfl, hX, hb2⟩
          have HB2 := Lib.hid (hB2.trans (hb2.mono (by simp; omega)))
          have P0 : OwnB w2 w1.heap.size #[.slice ga gn gc, .slice fa fn fc] 27 := ⟨(hb2.block _ (by simp <;> omega)).trans (OwnB.alloc (OwnB.new rfl) _).blk⟩
          have P1 : OwnB w2 (w1.heap.size + 1) #[.int .i64 R.err, .int .i64 R.at] 29 := ⟨(hb2.block _ (by simp <;> omega)).trans (OwnB.new (by simp)).blk⟩
          have hz2 := hb2.size
          simp only [World.size_alloc] at hz2
          have hO : ∀ b, b < w1.heap.size → w2.heap[b]? = w1.heap[b]? := fun b h => (hb2.block b (by simp <;> omega)).trans ((alloc_old _ _ b (by simp <;> omega)).trans (alloc_old _ _ b h))
          have HO := Lib.hid hO
          have hc2 : w2.cell? ⟨b, off + k, none⟩ = some (.string (D k)) := by rw [← hc1]; simp only [World.cell?, hO b hbl]
          have HX := Lib.hid hX
          clear hX hb2 hB2 hc1 CR hO
          go_wp2_with fail
          obtain ⟨V, hV⟩ : ∃ V : World, V = ((w2.alloc (.cells #[.slice xa xn xc, .slice ya yn yc] 27 (0, 0))).alloc (.cells #[.int .i64 R'.err, .int .i64 R'.at] 29 (0, 0))) := ⟨_, rfl⟩
          have hBV : Below w2.heap.size w2 V := by rw [hV]; exact ((Below.refl _ _).alloc (Nat.le_refl _) _).alloc (by simp) _
          have U0 : OwnB V.drew w1.heap.size #[.slice ga gn gc, .slice fa fn fc] 27 := ⟨(hBV.block _ (by omega)).trans P0.blk⟩
          have F0 : OwnB V.drew (w1.heap.size + 1) #[.int .i64 R.err, .int .i64 R.at] 29 := ⟨(hBV.block _ (by omega)).trans P1.blk⟩
          have U1 : OwnB V.drew w2.heap.size #[.slice xa xn xc, .slice ya yn yc] 27 := by rw [hV]; exact OwnB.drew (OwnB.alloc (OwnB.new rfl) _)
          have F1 : OwnB V.drew (w2.heap.size + 1) #[.int .i64 R'.err, .int .i64 R'.at] 29 := by rw [hV]; exact OwnB.drew (OwnB.new (by simp))
          have hcV : V.drew.cell? ⟨b, off + k, none⟩ = some (.string (D k)) := (hBV.cell (by show b < _; omega)).trans hc2
          rw [← hV]
          have HBV := Lib.hid (show Below w2.heap.size w2 V.drew from hBV.trans ⟨rfl, rfl, rfl, Nat.le_refl _, fun _ _ => rfl⟩)
          have hVs : w2.heap.size + 2 = V.drew.heap.size := by rw [hV]; simp
          obtain ⟨A1, A2, hA12⟩ := HU1.out.rows
          obtain ⟨B1, B2, hB12⟩ := HX.out.rows
          have CA := fun W (h : Below w2.heap.size w2 W) => Lib.hid (bare_any R.un HK.out.small W (.slice ga gn gc) (.slice fa fn fc) A1 A2 (hA12 W (fun b hb => (h.block b (by omega)).trans (HO.out b hb))).1 (hA12 W (fun b hb => (h.block b (by omega)).trans (HO.out b hb))).2)
          have CB := fun W (h : Below w2.heap.size w2 W) => Lib.hid (bare_any R'.un HK.out.small2 W (.slice xa xn xc) (.slice ya yn yc) B1 B2 (hB12 W (fun b hb => h.block b hb)).1 (hB12 W (fun b hb => h.block b hb)).2)
          clear hV hBV P0 P1 HU1 HX hA12 hB12 hc2
          have hk0 : (0 : Int) ≤ (k : Int) := by omega
          have hk1 : (k : Int) < (n : Int) := by omega
          have hee : (R.err != R'.err) = false := by simp [HK.out.err]
          have h0S : OwnB V.drew w1.heap.size #[.slice ga gn gc, .slice fa fn fc] 27 ∧ OwnB V.drew (w1.heap.size + 1) #[.int .i64 R.err, .int .i64 R.at] 29 ∧ OwnB V.drew w2.heap.size #[.slice xa xn xc, .slice ya yn yc] 27 ∧ OwnB V.drew (w2.heap.size + 1) #[.int .i64 R'.err, .int .i64 R'.at] 29 ∧ V.drew.cell? ⟨b, off + k, none⟩ = some (.string (D k)) := ⟨U0, F0, U1, F1, hcV⟩
          have hbs : b < w2.heap.size := by omega
          have hws : w.heap.size ≤ w2.heap.size := HB2.out.size
          clear U0 F0 U1 F1 hcV HB1 CL
          refine wpH_start (fun W' => OwnB W' w1.heap.size #[.slice ga gn gc, .slice fa fn fc] 27 ∧ OwnB W' (w1.heap.size + 1) #[.int .i64 R.err, .int .i64 R.at] 29 ∧ OwnB W' w2.heap.size #[.slice xa xn xc, .slice ya yn yc] 27 ∧ OwnB W' (w2.heap.size + 1) #[.int .i64 R'.err, .int .i64 R'.at] 29 ∧ W'.cell? ⟨b, off + k, none⟩ = some (.string (D k))) (by kernel_rfl) h0S (fun hHeld => ?_)
          clear h0S
          refine wpH_take 0 (v := ?_) (by kernel_rfl) (by kernel_rfl) (by kernel_rfl) rfl (fun _ _ _ h => h) (Or.inl ⟨by rfl, ?_⟩) hHeld ?_
          rotate_left
          · (intro w' ⟨h0, h1, h2, h3, h4⟩; obtain ⟨ya0, yb0, yc0⟩ := h0.facts; obtain ⟨ya1, yb1, yc1⟩ := h1.facts; obtain ⟨ya2, yb2, yc2⟩ := h2.facts; obtain ⟨ya3, yb3, yc3⟩ := h3.facts; go_simp; try with_reducible rfl)
          try simp only [Act.put, List.setIfInBounds_toArray, List.set_cons_zero, List.set_cons_succ]
          refine wpH_take 1 (v := ?_) (by kernel_rfl) (by kernel_rfl) (by kernel_rfl) rfl (fun _ _ _ h => h) (Or.inl ⟨by rfl, ?_⟩) hHeld ?_
          rotate_left
          · (intro w' ⟨h0, h1, h2, h3, h4⟩; obtain ⟨ya0, yb0, yc0⟩ := h0.facts; obtain ⟨ya1, yb1, yc1⟩ := h1.facts; obtain ⟨ya2, yb2, yc2⟩ := h2.facts; obtain ⟨ya3, yb3, yc3⟩ := h3.facts; go_simp; try with_reducible rfl)
          try simp only [Act.put, List.setIfInBounds_toArray, List.set_cons_zero, List.set_cons_succ]
          refine wpH_take 2 (v := ?_) (by kernel_rfl) (by kernel_rfl) (by kernel_rfl) rfl (fun _ _ _ h => h) (Or.inl ⟨by rfl, ?_⟩) hHeld ?_
          rotate_left
          · (intro w' ⟨h0, h1, h2, h3, h4⟩; obtain ⟨ya0, yb0, yc0⟩ := h0.facts; obtain ⟨ya1, yb1, yc1⟩ := h1.facts; obtain ⟨ya2, yb2, yc2⟩ := h2.facts; obtain ⟨ya3, yb3, yc3⟩ := h3.facts; go_simp; try with_reducible rfl)
          try simp only [Act.put, List.setIfInBounds_toArray, List.set_cons_zero, List.set_cons_succ]
          refine wpH_take 3 (v := ?_) (by kernel_rfl) (by kernel_rfl) (by kernel_rfl) rfl (fun _ _ _ h => h) (Or.inl ⟨by rfl, ?_⟩) hHeld ?_
          rotate_left
          · (intro w' ⟨h0, h1, h2, h3, h4⟩; obtain ⟨ya0, yb0, yc0⟩ := h0.facts; obtain ⟨ya1, yb1, yc1⟩ := h1.facts; obtain ⟨ya2, yb2, yc2⟩ := h2.facts; obtain ⟨ya3, yb3, yc3⟩ := h3.facts; go_simp; try with_reducible rfl)
          try simp only [Act.put, List.setIfInBounds_toArray, List.set_cons_zero, List.set_cons_succ]
          refine wpH_take 4 (v := ?_) (by kernel_rfl) (by kernel_rfl) (by kernel_rfl) rfl (fun _ _ _ h => h) (Or.inl ⟨by rfl, ?_⟩) hHeld ?_
          rotate_left
          · (intro w' ⟨h0, h1, h2, h3, h4⟩; obtain ⟨ya0, yb0, yc0⟩ := h0.facts; obtain ⟨ya1, yb1, yc1⟩ := h1.facts; obtain ⟨ya2, yb2, yc2⟩ := h2.facts; obtain ⟨ya3, yb3, yc3⟩ := h3.facts; go_simp; try with_reducible rfl)
          try simp only [Act.put, List.setIfInBounds_toArray, List.set_cons_zero, List.set_cons_succ]
          refine wpH_take 5 (v := ?_) (by kernel_rfl) (by kernel_rfl) (by kernel_rfl) rfl (fun _ _ _ h => h) (Or.inl ⟨by rfl, ?_⟩) hHeld ?_
          rotate_left
          · (intro w' ⟨h0, h1, h2, h3, h4⟩; obtain ⟨ya0, yb0, yc0⟩ := h0.facts; obtain ⟨ya1, yb1, yc1⟩ := h1.facts; obtain ⟨ya2, yb2, yc2⟩ := h2.facts; obtain ⟨ya3, yb3, yc3⟩ := h3.facts; go_simp; try with_reducible rfl)
          try simp only [Act.put, List.setIfInBounds_toArray, List.set_cons_zero, List.set_cons_succ]
          refine wpH_take 6 (v := ?_) (by kernel_rfl) (by kernel_rfl) (by kernel_rfl) rfl (fun _ _ _ h => h) (Or.inl ⟨by rfl, ?_⟩) hHeld ?_
          rotate_left
          · (intro w' ⟨h0, h1, h2, h3, h4⟩; obtain ⟨ya0, yb0, yc0⟩ := h0.facts; obtain ⟨ya1, yb1, yc1⟩ := h1.facts; obtain ⟨ya2, yb2, yc2⟩ := h2.facts; obtain ⟨ya3, yb3, yc3⟩ := h3.facts; go_simp; try with_reducible rfl)
          try simp only [Act.put, List.setIfInBounds_toArray, List.set_cons_zero, List.set_cons_succ]
          refine wpH_take 8 (v := ?_) (by kernel_rfl) (by kernel_rfl) (by kernel_rfl) rfl (fun _ _ _ h => h) (Or.inl ⟨by rfl, ?_⟩) hHeld ?_
          rotate_left
          · (intro w' ⟨h0, h1, h2, h3, h4⟩; obtain ⟨ya0, yb0, yc0⟩ := h0.facts; obtain ⟨ya1, yb1, yc1⟩ := h1.facts; obtain ⟨ya2, yb2, yc2⟩ := h2.facts; obtain ⟨ya3, yb3, yc3⟩ := h3.facts; go_simp; try with_reducible rfl)
          try simp only [Act.put, List.setIfInBounds_toArray, List.set_cons_zero, List.set_cons_succ]
          refine wpH_one 7 (by kernel_rfl) rfl (fun K hKo => ?_)
          go_simp
          refine (CA _ HBV.out).out.mono ?_
          rintro e3 w3 ⟨pa, pc, qa, qc, rfl, hUA, hb3⟩
          have hz3 := hb3.size
          have HB3 := Lib.hid (show Below w2.heap.size w2 w3 from HBV.out.trans (hb3.mono (by omega)))
          have hHeld : OwnB w3 w1.heap.size #[.slice ga gn gc, .slice fa fn fc] 27 ∧ OwnB w3 (w1.heap.size + 1) #[.int .i64 R.err, .int .i64 R.at] 29 ∧ OwnB w3 w2.heap.size #[.slice xa xn xc, .slice ya yn yc] 27 ∧ OwnB w3 (w2.heap.size + 1) #[.int .i64 R'.err, .int .i64 R'.at] 29 ∧ w3.cell? ⟨b, off + k, none⟩ = some (.string (D k)) := ⟨⟨(hb3.block _ (by omega)).trans hHeld.1.blk⟩, ⟨(hb3.block _ (by omega)).trans hHeld.2.1.blk⟩, ⟨(hb3.block _ (by omega)).trans hHeld.2.2.1.blk⟩, ⟨(hb3.block _ (by omega)).trans hHeld.2.2.2.1.blk⟩, (hb3.cell (by show b < _; omega)).trans hHeld.2.2.2.2⟩
          obtain ⟨A3, A4, hA34⟩ := hUA.rows
          clear hUA hb3
          refine Shut.out hKo _ _ hHeld ?_
          clear hKo K
          try simp only [Act.put, List.setIfInBounds_toArray, List.set_cons_zero, List.set_cons_succ]
          refine wpH_one 9 (by kernel_rfl) rfl (fun K hKo => ?_)
          go_simp
          refine (CB _ HB3.out).out.mono ?_
          rintro e4 w4 ⟨pb, pd, qb, qd, rfl, hUB, hb4⟩
          have hz4 := hb4.size
          have HB4 := Lib.hid (show Below w2.heap.size w2 w4 from HB3.out.trans (hb4.mono (by omega)))
          have hHeld : OwnB w4 w1.heap.size #[.slice ga gn gc, .slice fa fn fc] 27 ∧ OwnB w4 (w1.heap.size + 1) #[.int .i64 R.err, .int .i64 R.at] 29 ∧ OwnB w4 w2.heap.size #[.slice xa xn xc, .slice ya yn yc] 27 ∧ OwnB w4 (w2.heap.size + 1) #[.int .i64 R'.err, .int .i64 R'.at] 29 ∧ w4.cell? ⟨b, off + k, none⟩ = some (.string (D k)) := ⟨⟨(hb4.block _ (by omega)).trans hHeld.1.blk⟩, ⟨(hb4.block _ (by omega)).trans hHeld.2.1.blk⟩, ⟨(hb4.block _ (by omega)).trans hHeld.2.2.1.blk⟩, ⟨(hb4.block _ (by omega)).trans hHeld.2.2.2.1.blk⟩, (hb4.cell (by show b < _; omega)).trans hHeld.2.2.2.2⟩
          obtain ⟨B3, B4, hB34⟩ := hUB.rows
          have CE := Lib.hid (eqUnit_any R.un.bare R'.un.bare w4 _ _ _ _ _ _ _ _ (hA34 w4 (fun b hb => hb4.block b hb)).1 (hA34 w4 (fun b hb => hb4.block b hb)).2 (hB34 w4 (fun _ _ => rfl)).1 (hB34 w4 (fun _ _ => rfl)).2)
          rw [decide_eq_true HK.out.bare] at CE
          clear hUB hb4 hA34 hB34
          refine Shut.out hKo _ _ hHeld ?_
          clear hKo K
          try simp only [Act.put, List.setIfInBounds_toArray, List.set_cons_zero, List.set_cons_succ]
          refine wpH_one 10 (by kernel_rfl) rfl (fun K hKo => ?_)
          go_simp
          refine CE.out.mono ?_
          rintro e5 w5 ⟨rfl, hb5⟩
          have hz5 := hb5.size
          have HB5 := Lib.hid (show Below w.heap.size w w5 from HB2.out.trans ((HB4.out.trans (hb5.mono (by omega))).mono hws))
          have hHeld : OwnB w5 w1.heap.size #[.slice ga gn gc, .slice fa fn fc] 27 ∧ OwnB w5 (w1.heap.size + 1) #[.int .i64 R.err, .int .i64 R.at] 29 ∧ OwnB w5 w2.heap.size #[.slice xa xn xc, .slice ya yn yc] 27 ∧ OwnB w5 (w2.heap.size + 1) #[.int .i64 R'.err, .int .i64 R'.at] 29 ∧ w5.cell? ⟨b, off + k, none⟩ = some (.string (D k)) := ⟨⟨(hb5.block _ (by omega)).trans hHeld.1.blk⟩, ⟨(hb5.block _ (by omega)).trans hHeld.2.1.blk⟩, ⟨(hb5.block _ (by omega)).trans hHeld.2.2.1.blk⟩, ⟨(hb5.block _ (by omega)).trans hHeld.2.2.2.1.blk⟩, (hb5.cell (by show b < _; omega)).trans hHeld.2.2.2.2⟩
          clear hb5
          refine Shut.out hKo _ _ hHeld ?_
          clear hKo K
          try simp only [Act.put, List.setIfInBounds_toArray, List.set_cons_zero, List.set_cons_succ]
          rcases HP.out with h0 | ⟨h0, h1⟩ | ⟨h0, h1, h2, h3, h4⟩
          · have hne : (R.err != 0) = false := by simp [h0]
            clear h0
            refine wpH_take 11 (v := ?_) (by kernel_rfl) (by kernel_rfl) (by kernel_rfl) rfl (fun _ _ _ h => h) (Or.inl ⟨by rfl, ?_⟩) hHeld ?_
            rotate_left
            · (intro w' ⟨h0, h1, h2, h3, h4⟩; obtain ⟨ya0, yb0, yc0⟩ := h0.facts; obtain ⟨ya1, yb1, yc1⟩ := h1.facts; obtain ⟨ya2, yb2, yc2⟩ := h2.facts; obtain ⟨ya3, yb3, yc3⟩ := h3.facts; go_simp; try with_reducible rfl)
            try simp only [Act.put, List.setIfInBounds_toArray, List.set_cons_zero, List.set_cons_succ]
            refine wpH_take 12 (v := ?_) (by kernel_rfl) (by kernel_rfl) (by kernel_rfl) rfl (fun _ _ _ h => h) (Or.inl ⟨by rfl, ?_⟩) hHeld ?_
            rotate_left
            · (intro w' ⟨h0, h1, h2, h3, h4⟩; obtain ⟨ya0, yb0, yc0⟩ := h0.facts; obtain ⟨ya1, yb1, yc1⟩ := h1.facts; obtain ⟨ya2, yb2, yc2⟩ := h2.facts; obtain ⟨ya3, yb3, yc3⟩ := h3.facts; go_simp; try with_reducible rfl)
            try simp only [Act.put, List.setIfInBounds_toArray, List.set_cons_zero, List.set_cons_succ]
            refine wpH_take 13 (v := ?_) (by kernel_rfl) (by kernel_rfl) (by kernel_rfl) rfl (fun _ _ _ h => h) (Or.inl ⟨by rfl, ?_⟩) hHeld ?_
            rotate_left
            · (intro w' ⟨h0, h1, h2, h3, h4⟩; obtain ⟨ya0, yb0, yc0⟩ := h0.facts; obtain ⟨ya1, yb1, yc1⟩ := h1.facts; obtain ⟨ya2, yb2, yc2⟩ := h2.facts; obtain ⟨ya3, yb3, yc3⟩ := h3.facts; go_simp; try with_reducible rfl)
            try simp only [Act.put, List.setIfInBounds_toArray, List.set_cons_zero, List.set_cons_succ]
            refine wpH_take 14 (v := ?_) (by kernel_rfl) (by kernel_rfl) (by kernel_rfl) rfl (fun _ _ _ h => h) (Or.inl ⟨by rfl, ?_⟩) hHeld ?_
            rotate_left
            · (intro w' ⟨h0, h1, h2, h3, h4⟩; obtain ⟨ya0, yb0, yc0⟩ := h0.facts; obtain ⟨ya1, yb1, yc1⟩ := h1.facts; obtain ⟨ya2, yb2, yc2⟩ := h2.facts; obtain ⟨ya3, yb3, yc3⟩ := h3.facts; go_simp; try with_reducible rfl)
            try simp only [Act.put, List.setIfInBounds_toArray, List.set_cons_zero, List.set_cons_succ]
            refine wpH_take 15 (v := ?_) (by kernel_rfl) (by kernel_rfl) (by kernel_rfl) rfl (fun _ _ _ h => h) (Or.inl ⟨by rfl, ?_⟩) hHeld ?_
            rotate_left
            · (intro w' ⟨h0, h1, h2, h3, h4⟩; obtain ⟨ya0, yb0, yc0⟩ := h0.facts; obtain ⟨ya1, yb1, yc1⟩ := h1.facts; obtain ⟨ya2, yb2, yc2⟩ := h2.facts; obtain ⟨ya3, yb3, yc3⟩ := h3.facts; go_simp; try with_reducible rfl)
            try simp only [Act.put, List.setIfInBounds_toArray, List.set_cons_zero, List.set_cons_succ]
            refine wpH_take 16 (v := ?_) (by kernel_rfl) (by kernel_rfl) (by kernel_rfl) rfl (fun _ _ _ h => h) (Or.inl ⟨by rfl, ?_⟩) hHeld ?_
            rotate_left
            · (intro w' ⟨h0, h1, h2, h3, h4⟩; obtain ⟨ya0, yb0, yc0⟩ := h0.facts; obtain ⟨ya1, yb1, yc1⟩ := h1.facts; obtain ⟨ya2, yb2, yc2⟩ := h2.facts; obtain ⟨ya3, yb3, yc3⟩ := h3.facts; go_simp; try with_reducible rfl)
            try simp only [Act.put, List.setIfInBounds_toArray, List.set_cons_zero, List.set_cons_succ]
            refine wpH_take 17 (v := ?_) (by kernel_rfl) (by kernel_rfl) (by kernel_rfl) rfl (fun _ _ _ h => h) (Or.inl ⟨by rfl, ?_⟩) hHeld ?_
            rotate_left
            · (intro w' ⟨h0, h1, h2, h3, h4⟩; obtain ⟨ya0, yb0, yc0⟩ := h0.facts; obtain ⟨ya1, yb1, yc1⟩ := h1.facts; obtain ⟨ya2, yb2, yc2⟩ := h2.facts; obtain ⟨ya3, yb3, yc3⟩ := h3.facts; go_simp; try with_reducible rfl)
            try simp only [Act.put, List.setIfInBounds_toArray, List.set_cons_zero, List.set_cons_succ]
            refine wpH_take 18 (v := undef) (by kernel_rfl) (by kernel_rfl) (by kernel_rfl) rfl (fun _ _ _ h => h) (Or.inr ⟨by rfl, rfl⟩) hHeld ?_
            try simp only [Act.put, List.setIfInBounds_toArray, List.set_cons_zero, List.set_cons_succ]
            refine wpH_take 19 (v := undef) (by kernel_rfl) (by kernel_rfl) (by kernel_rfl) rfl (fun _ _ _ h => h) (Or.inr ⟨by rfl, rfl⟩) hHeld ?_
            try simp only [Act.put, List.setIfInBounds_toArray, List.set_cons_zero, List.set_cons_succ]
            refine wpH_take 20 (v := undef) (by kernel_rfl) (by kernel_rfl) (by kernel_rfl) rfl (fun _ _ _ h => h) (Or.inr ⟨by rfl, rfl⟩) hHeld ?_
            try simp only [Act.put, List.setIfInBounds_toArray, List.set_cons_zero, List.set_cons_succ]
            refine wpH_take 21 (v := undef) (by kernel_rfl) (by kernel_rfl) (by kernel_rfl) rfl (fun _ _ _ h => h) (Or.inr ⟨by rfl, rfl⟩) hHeld ?_
            try simp only [Act.put, List.setIfInBounds_toArray, List.set_cons_zero, List.set_cons_succ]
            refine wpH_take 22 (v := undef) (by kernel_rfl) (by kernel_rfl) (by kernel_rfl) rfl (fun _ _ _ h => h) (Or.inr ⟨by rfl, rfl⟩) hHeld ?_
            try simp only [Act.put, List.setIfInBounds_toArray, List.set_cons_zero, List.set_cons_succ]
            refine wpH_take 23 (v := undef) (by kernel_rfl) (by kernel_rfl) (by kernel_rfl) rfl (fun _ _ _ h => h) (Or.inr ⟨by rfl, rfl⟩) hHeld ?_
            try simp only [Act.put, List.setIfInBounds_toArray, List.set_cons_zero, List.set_cons_succ]
            refine wpH_take 24 (v := undef) (by kernel_rfl) (by kernel_rfl) (by kernel_rfl) rfl (fun _ _ _ h => h) (Or.inr ⟨by rfl, rfl⟩) hHeld ?_
            try simp only [Act.put, List.setIfInBounds_toArray, List.set_cons_zero, List.set_cons_succ]
            refine wpH_take 25 (v := undef) (by kernel_rfl) (by kernel_rfl) (by kernel_rfl) rfl (fun _ _ _ h => h) (Or.inr ⟨by rfl, rfl⟩) hHeld ?_
            try simp only [Act.put, List.setIfInBounds_toArray, List.set_cons_zero, List.set_cons_succ]
            refine wpH_take 26 (v := ?_) (by kernel_rfl) (by kernel_rfl) (by kernel_rfl) rfl (fun _ _ _ h => h) (Or.inl ⟨by rfl, ?_⟩) hHeld ?_
            rotate_left
            · (intro w' ⟨h0, h1, h2, h3, h4⟩; obtain ⟨ya0, yb0, yc0⟩ := h0.facts; obtain ⟨ya1, yb1, yc1⟩ := h1.facts; obtain ⟨ya2, yb2, yc2⟩ := h2.facts; obtain ⟨ya3, yb3, yc3⟩ := h3.facts; go_simp; try with_reducible rfl)
            try simp only [Act.put, List.setIfInBounds_toArray, List.set_cons_zero, List.set_cons_succ]
            refine wpH_take 27 (v := ?_) (by kernel_rfl) (by kernel_rfl) (by kernel_rfl) rfl (fun _ _ _ h => h) (Or.inl ⟨by rfl, ?_⟩) hHeld ?_
            rotate_left
            · (intro w' ⟨h0, h1, h2, h3, h4⟩; obtain ⟨ya0, yb0, yc0⟩ := h0.facts; obtain ⟨ya1, yb1, yc1⟩ := h1.facts; obtain ⟨ya2, yb2, yc2⟩ := h2.facts; obtain ⟨ya3, yb3, yc3⟩ := h3.facts; go_simp; try with_reducible rfl)
            try simp only [Act.put, List.setIfInBounds_toArray, List.set_cons_zero, List.set_cons_succ]
            refine wpH_take 28 (v := undef) (by kernel_rfl) (by kernel_rfl) (by kernel_rfl) rfl (fun _ _ _ h => h) (Or.inr ⟨by rfl, rfl⟩) hHeld ?_
            try simp only [Act.put, List.setIfInBounds_toArray, List.set_cons_zero, List.set_cons_succ]
            refine wpH_take 29 (v := undef) (by kernel_rfl) (by kernel_rfl) (by kernel_rfl) rfl (fun _ _ _ h => h) (Or.inr ⟨by rfl, rfl⟩) hHeld ?_
            try simp only [Act.put, List.setIfInBounds_toArray, List.set_cons_zero, List.set_cons_succ]
            refine wpH_take 30 (v := undef) (by kernel_rfl) (by kernel_rfl) (by kernel_rfl) rfl (fun _ _ _ h => h) (Or.inr ⟨by rfl, rfl⟩) hHeld ?_
            try simp only [Act.put, List.setIfInBounds_toArray, List.set_cons_zero, List.set_cons_succ]
            refine wpH_take 31 (v := undef) (by kernel_rfl) (by kernel_rfl) (by kernel_rfl) rfl (fun _ _ _ h => h) (Or.inr ⟨by rfl, rfl⟩) hHeld ?_
            try simp only [Act.put, List.setIfInBounds_toArray, List.set_cons_zero, List.set_cons_succ]
            refine wpH_take 32 (v := undef) (by kernel_rfl) (by kernel_rfl) (by kernel_rfl) rfl (fun _ _ _ h => h) (Or.inr ⟨by rfl, rfl⟩) hHeld ?_
            try simp only [Act.put, List.setIfInBounds_toArray, List.set_cons_zero, List.set_cons_succ]
            refine wpH_take 33 (v := undef) (by kernel_rfl) (by kernel_rfl) (by kernel_rfl) rfl (fun _ _ _ h => h) (Or.inr ⟨by rfl, rfl⟩) hHeld ?_
            try simp only [Act.put, List.setIfInBounds_toArray, List.set_cons_zero, List.set_cons_succ]
            refine wpH_take 34 (v := ?_) (by kernel_rfl) (by kernel_rfl) (by kernel_rfl) rfl (fun _ _ _ h => h) (Or.inl ⟨by rfl, ?_⟩) hHeld ?_
            rotate_left
            · (intro w' ⟨h0, h1, h2, h3, h4⟩; obtain ⟨ya0, yb0, yc0⟩ := h0.facts; obtain ⟨ya1, yb1, yc1⟩ := h1.facts; obtain ⟨ya2, yb2, yc2⟩ := h2.facts; obtain ⟨ya3, yb3, yc3⟩ := h3.facts; go_simp; try with_reducible rfl)
            try simp only [Act.put, List.setIfInBounds_toArray, List.set_cons_zero, List.set_cons_succ]
            refine wpH_take 35 (v := ?_) (by kernel_rfl) (by kernel_rfl) (by kernel_rfl) rfl (fun _ _ _ h => h) (Or.inl ⟨by rfl, ?_⟩) hHeld ?_
            rotate_left
            · (intro w' ⟨h0, h1, h2, h3, h4⟩; obtain ⟨ya0, yb0, yc0⟩ := h0.facts; obtain ⟨ya1, yb1, yc1⟩ := h1.facts; obtain ⟨ya2, yb2, yc2⟩ := h2.facts; obtain ⟨ya3, yb3, yc3⟩ := h3.facts; go_simp; try with_reducible rfl)
            try simp only [Act.put, List.setIfInBounds_toArray, List.set_cons_zero, List.set_cons_succ]
            refine wpAnyH_done (by kernel_rfl) ?_ _
            go_wp2_with fail
            go_roundw
            case rel => exact ⟨k + 1, by omega, by omega, by go_num, HB5.out⟩
            case measure => simp [intOf]; omega
          · have hne : (R.err != 0) = true := by simpa using h0
            have hat : (R.at != ((D k).size : Int)) = false := by simp [h1]
            clear h0 h1
            refine wpH_take 11 (v := ?_) (by kernel_rfl) (by kernel_rfl) (by kernel_rfl) rfl (fun _ _ _ h => h) (Or.inl ⟨by rfl, ?_⟩) hHeld ?_
            rotate_left
            · (intro w' ⟨h0, h1, h2, h3, h4⟩; obtain ⟨ya0, yb0, yc0⟩ := h0.facts; obtain ⟨ya1, yb1, yc1⟩ := h1.facts; obtain ⟨ya2, yb2, yc2⟩ := h2.facts; obtain ⟨ya3, yb3, yc3⟩ := h3.facts; go_simp; try with_reducible rfl)
            try simp only [Act.put, List.setIfInBounds_toArray, List.set_cons_zero, List.set_cons_succ]
            refine wpH_take 12 (v := ?_) (by kernel_rfl) (by kernel_rfl) (by kernel_rfl) rfl (fun _ _ _ h => h) (Or.inl ⟨by rfl, ?_⟩) hHeld ?_
            rotate_left
            · (intro w' ⟨h0, h1, h2, h3, h4⟩; obtain ⟨ya0, yb0, yc0⟩ := h0.facts; obtain ⟨ya1, yb1, yc1⟩ := h1.facts; obtain ⟨ya2, yb2, yc2⟩ := h2.facts; obtain ⟨ya3, yb3, yc3⟩ := h3.facts; go_simp; try with_reducible rfl)
            try simp only [Act.put, List.setIfInBounds_toArray, List.set_cons_zero, List.set_cons_succ]
            refine wpH_take 13 (v := ?_) (by kernel_rfl) (by kernel_rfl) (by kernel_rfl) rfl (fun _ _ _ h => h) (Or.inl ⟨by rfl, ?_⟩) hHeld ?_
            rotate_left
            · (intro w' ⟨h0, h1, h2, h3, h4⟩; obtain ⟨ya0, yb0, yc0⟩ := h0.facts; obtain ⟨ya1, yb1, yc1⟩ := h1.facts; obtain ⟨ya2, yb2, yc2⟩ := h2.facts; obtain ⟨ya3, yb3, yc3⟩ := h3.facts; go_simp; try with_reducible rfl)
            try simp only [Act.put, List.setIfInBounds_toArray, List.set_cons_zero, List.set_cons_succ]
            refine wpH_take 14 (v := ?_) (by kernel_rfl) (by kernel_rfl) (by kernel_rfl) rfl (fun _ _ _ h => h) (Or.inl ⟨by rfl, ?_⟩) hHeld ?_
            rotate_left
            · (intro w' ⟨h0, h1, h2, h3, h4⟩; obtain ⟨ya0, yb0, yc0⟩ := h0.facts; obtain ⟨ya1, yb1, yc1⟩ := h1.facts; obtain ⟨ya2, yb2, yc2⟩ := h2.facts; obtain ⟨ya3, yb3, yc3⟩ := h3.facts; go_simp; try with_reducible rfl)
            try simp only [Act.put, List.setIfInBounds_toArray, List.set_cons_zero, List.set_cons_succ]
            refine wpH_take 15 (v := ?_) (by kernel_rfl) (by kernel_rfl) (by kernel_rfl) rfl (fun _ _ _ h => h) (Or.inl ⟨by rfl, ?_⟩) hHeld ?_
            rotate_left
            · (intro w' ⟨h0, h1, h2, h3, h4⟩; obtain ⟨ya0, yb0, yc0⟩ := h0.facts; obtain ⟨ya1, yb1, yc1⟩ := h1.facts; obtain ⟨ya2, yb2, yc2⟩ := h2.facts; obtain ⟨ya3, yb3, yc3⟩ := h3.facts; go_simp; try with_reducible rfl)
            try simp only [Act.put, List.setIfInBounds_toArray, List.set_cons_zero, List.set_cons_succ]
            refine wpH_take 16 (v := ?_) (by kernel_rfl) (by kernel_rfl) (by kernel_rfl) rfl (fun _ _ _ h => h) (Or.inl ⟨by rfl, ?_⟩) hHeld ?_
            rotate_left
            · (intro w' ⟨h0, h1, h2, h3, h4⟩; obtain ⟨ya0, yb0, yc0⟩ := h0.facts; obtain ⟨ya1, yb1, yc1⟩ := h1.facts; obtain ⟨ya2, yb2, yc2⟩ := h2.facts; obtain ⟨ya3, yb3, yc3⟩ := h3.facts; go_simp; try with_reducible rfl)
            try simp only [Act.put, List.setIfInBounds_toArray, List.set_cons_zero, List.set_cons_succ]
            refine wpH_take 17 (v := ?_) (by kernel_rfl) (by kernel_rfl) (by kernel_rfl) rfl (fun _ _ _ h => h) (Or.inl ⟨by rfl, ?_⟩) hHeld ?_
            rotate_left
            · (intro w' ⟨h0, h1, h2, h3, h4⟩; obtain ⟨ya0, yb0, yc0⟩ := h0.facts; obtain ⟨ya1, yb1, yc1⟩ := h1.facts; obtain ⟨ya2, yb2, yc2⟩ := h2.facts; obtain ⟨ya3, yb3, yc3⟩ := h3.facts; go_simp; try with_reducible rfl)
            try simp only [Act.put, List.setIfInBounds_toArray, List.set_cons_zero, List.set_cons_succ]
            refine wpH_take 18 (v := ?_) (by kernel_rfl) (by kernel_rfl) (by kernel_rfl) rfl (fun _ _ _ h => h) (Or.inl ⟨by rfl, ?_⟩) hHeld ?_
            rotate_left
            · (intro w' ⟨h0, h1, h2, h3, h4⟩; obtain ⟨ya0, yb0, yc0⟩ := h0.facts; obtain ⟨ya1, yb1, yc1⟩ := h1.facts; obtain ⟨ya2, yb2, yc2⟩ := h2.facts; obtain ⟨ya3, yb3, yc3⟩ := h3.facts; go_simp; try with_reducible rfl)
            try simp only [Act.put, List.setIfInBounds_toArray, List.set_cons_zero, List.set_cons_succ]
            refine wpH_take 19 (v := ?_) (by kernel_rfl) (by kernel_rfl) (by kernel_rfl) rfl (fun _ _ _ h => h) (Or.inl ⟨by rfl, ?_⟩) hHeld ?_
            rotate_left
            · (intro w' ⟨h0, h1, h2, h3, h4⟩; obtain ⟨ya0, yb0, yc0⟩ := h0.facts; obtain ⟨ya1, yb1, yc1⟩ := h1.facts; obtain ⟨ya2, yb2, yc2⟩ := h2.facts; obtain ⟨ya3, yb3, yc3⟩ := h3.facts; go_simp; try with_reducible rfl)
            try simp only [Act.put, List.setIfInBounds_toArray, List.set_cons_zero, List.set_cons_succ]
            refine wpH_take 20 (v := ?_) (by kernel_rfl) (by kernel_rfl) (by kernel_rfl) rfl (fun _ _ _ h => h) (Or.inl ⟨by rfl, ?_⟩) hHeld ?_
            rotate_left
            · (intro w' ⟨h0, h1, h2, h3, h4⟩; obtain ⟨ya0, yb0, yc0⟩ := h0.facts; obtain ⟨ya1, yb1, yc1⟩ := h1.facts; obtain ⟨ya2, yb2, yc2⟩ := h2.facts; obtain ⟨ya3, yb3, yc3⟩ := h3.facts; go_simp; try with_reducible rfl)
            try simp only [Act.put, List.setIfInBounds_toArray, List.set_cons_zero, List.set_cons_succ]
            refine wpH_take 21 (v := ?_) (by kernel_rfl) (by kernel_rfl) (by kernel_rfl) rfl (fun _ _ _ h => h) (Or.inl ⟨by rfl, ?_⟩) hHeld ?_
            rotate_left
            · (intro w' ⟨h0, h1, h2, h3, h4⟩; obtain ⟨ya0, yb0, yc0⟩ := h0.facts; obtain ⟨ya1, yb1, yc1⟩ := h1.facts; obtain ⟨ya2, yb2, yc2⟩ := h2.facts; obtain ⟨ya3, yb3, yc3⟩ := h3.facts; go_simp; try with_reducible rfl)
            try simp only [Act.put, List.setIfInBounds_toArray, List.set_cons_zero, List.set_cons_succ]
            refine wpH_take 22 (v := ?_) (by kernel_rfl) (by kernel_rfl) (by kernel_rfl) rfl (fun _ _ _ h => h) (Or.inl ⟨by rfl, ?_⟩) hHeld ?_
            rotate_left
            · (intro w' ⟨h0, h1, h2, h3, h4⟩; obtain ⟨ya0, yb0, yc0⟩ := h0.facts; obtain ⟨ya1, yb1, yc1⟩ := h1.facts; obtain ⟨ya2, yb2, yc2⟩ := h2.facts; obtain ⟨ya3, yb3, yc3⟩ := h3.facts; go_simp; try with_reducible rfl)
            try simp only [Act.put, List.setIfInBounds_toArray, List.set_cons_zero, List.set_cons_succ]
            refine wpH_take 23 (v := ?_) (by kernel_rfl) (by kernel_rfl) (by kernel_rfl) rfl (fun _ _ _ h => h) (Or.inl ⟨by rfl, ?_⟩) hHeld ?_
            rotate_left
            · (intro w' ⟨h0, h1, h2, h3, h4⟩; obtain ⟨ya0, yb0, yc0⟩ := h0.facts; obtain ⟨ya1, yb1, yc1⟩ := h1.facts; obtain ⟨ya2, yb2, yc2⟩ := h2.facts; obtain ⟨ya3, yb3, yc3⟩ := h3.facts; go_simp; try with_reducible rfl)
            try simp only [Act.put, List.setIfInBounds_toArray, List.set_cons_zero, List.set_cons_succ]
            refine wpH_take 24 (v := ?_) (by kernel_rfl) (by kernel_rfl) (by kernel_rfl) rfl (fun _ _ _ h => h) (Or.inl ⟨by rfl, ?_⟩) hHeld ?_
            rotate_left
            · (intro w' ⟨h0, h1, h2, h3, h4⟩; obtain ⟨ya0, yb0, yc0⟩ := h0.facts; obtain ⟨ya1, yb1, yc1⟩ := h1.facts; obtain ⟨ya2, yb2, yc2⟩ := h2.facts; obtain ⟨ya3, yb3, yc3⟩ := h3.facts; go_simp; try with_reducible rfl)
            try simp only [Act.put, List.setIfInBounds_toArray, List.set_cons_zero, List.set_cons_succ]
            refine wpH_take 25 (v := ?_) (by kernel_rfl) (by kernel_rfl) (by kernel_rfl) rfl (fun _ _ _ h => h) (Or.inl ⟨by rfl, ?_⟩) hHeld ?_
            rotate_left
            · (intro w' ⟨h0, h1, h2, h3, h4⟩; obtain ⟨ya0, yb0, yc0⟩ := h0.facts; obtain ⟨ya1, yb1, yc1⟩ := h1.facts; obtain ⟨ya2, yb2, yc2⟩ := h2.facts; obtain ⟨ya3, yb3, yc3⟩ := h3.facts; go_simp; try with_reducible rfl)
            try simp only [Act.put, List.setIfInBounds_toArray, List.set_cons_zero, List.set_cons_succ]
            refine wpH_take 26 (v := ?_) (by kernel_rfl) (by kernel_rfl) (by kernel_rfl) rfl (fun _ _ _ h => h) (Or.inl ⟨by rfl, ?_⟩) hHeld ?_
            rotate_left
            · (intro w' ⟨h0, h1, h2, h3, h4⟩; obtain ⟨ya0, yb0, yc0⟩ := h0.facts; obtain ⟨ya1, yb1, yc1⟩ := h1.facts; obtain ⟨ya2, yb2, yc2⟩ := h2.facts; obtain ⟨ya3, yb3, yc3⟩ := h3.facts; go_simp; try with_reducible rfl)
            try simp only [Act.put, List.setIfInBounds_toArray, List.set_cons_zero, List.set_cons_succ]
            refine wpH_take 27 (v := ?_) (by kernel_rfl) (by kernel_rfl) (by kernel_rfl) rfl (fun _ _ _ h => h) (Or.inl ⟨by rfl, ?_⟩) hHeld ?_
            rotate_left
            · (intro w' ⟨h0, h1, h2, h3, h4⟩; obtain ⟨ya0, yb0, yc0⟩ := h0.facts; obtain ⟨ya1, yb1, yc1⟩ := h1.facts; obtain ⟨ya2, yb2, yc2⟩ := h2.facts; obtain ⟨ya3, yb3, yc3⟩ := h3.facts; go_simp; try with_reducible rfl)
            try simp only [Act.put, List.setIfInBounds_toArray, List.set_cons_zero, List.set_cons_succ]
            refine wpH_take 28 (v := undef) (by kernel_rfl) (by kernel_rfl) (by kernel_rfl) rfl (fun _ _ _ h => h) (Or.inr ⟨by rfl, rfl⟩) hHeld ?_
            try simp only [Act.put, List.setIfInBounds_toArray, List.set_cons_zero, List.set_cons_succ]
            refine wpH_take 29 (v := undef) (by kernel_rfl) (by kernel_rfl) (by kernel_rfl) rfl (fun _ _ _ h => h) (Or.inr ⟨by rfl, rfl⟩) hHeld ?_
            try simp only [Act.put, List.setIfInBounds_toArray, List.set_cons_zero, List.set_cons_succ]
            refine wpH_take 30 (v := undef) (by kernel_rfl) (by kernel_rfl) (by kernel_rfl) rfl (fun _ _ _ h => h) (Or.inr ⟨by rfl, rfl⟩) hHeld ?_
            try simp only [Act.put, List.setIfInBounds_toArray, List.set_cons_zero, List.set_cons_succ]
            refine wpH_take 31 (v := undef) (by kernel_rfl) (by kernel_rfl) (by kernel_rfl) rfl (fun _ _ _ h => h) (Or.inr ⟨by rfl, rfl⟩) hHeld ?_
            try simp only [Act.put, List.setIfInBounds_toArray, List.set_cons_zero, List.set_cons_succ]
            refine wpH_take 32 (v := undef) (by kernel_rfl) (by kernel_rfl) (by kernel_rfl) rfl (fun _ _ _ h => h) (Or.inr ⟨by rfl, rfl⟩) hHeld ?_
            try simp only [Act.put, List.setIfInBounds_toArray, List.set_cons_zero, List.set_cons_succ]
            refine wpH_take 33 (v := undef) (by kernel_rfl) (by kernel_rfl) (by kernel_rfl) rfl (fun _ _ _ h => h) (Or.inr ⟨by rfl, rfl⟩) hHeld ?_
            try simp only [Act.put, List.setIfInBounds_toArray, List.set_cons_zero, List.set_cons_succ]
            refine wpH_take 34 (v := ?_) (by kernel_rfl) (by kernel_rfl) (by kernel_rfl) rfl (fun _ _ _ h => h) (Or.inl ⟨by rfl, ?_⟩) hHeld ?_
            rotate_left
            · (intro w' ⟨h0, h1, h2, h3, h4⟩; obtain ⟨ya0, yb0, yc0⟩ := h0.facts; obtain ⟨ya1, yb1, yc1⟩ := h1.facts; obtain ⟨ya2, yb2, yc2⟩ := h2.facts; obtain ⟨ya3, yb3, yc3⟩ := h3.facts; go_simp; try with_reducible rfl)
            try simp only [Act.put, List.setIfInBounds_toArray, List.set_cons_zero, List.set_cons_succ]
            refine wpH_take 35 (v := ?_) (by kernel_rfl) (by kernel_rfl) (by kernel_rfl) rfl (fun _ _ _ h => h) (Or.inl ⟨by rfl, ?_⟩) hHeld ?_
            rotate_left
            · (intro w' ⟨h0, h1, h2, h3, h4⟩; obtain ⟨ya0, yb0, yc0⟩ := h0.facts; obtain ⟨ya1, yb1, yc1⟩ := h1.facts; obtain ⟨ya2, yb2, yc2⟩ := h2.facts; obtain ⟨ya3, yb3, yc3⟩ := h3.facts; go_simp; try with_reducible rfl)
            try simp only [Act.put, List.setIfInBounds_toArray, List.set_cons_zero, List.set_cons_succ]
            refine wpAnyH_done (by kernel_rfl) ?_ _
            go_wp2_with fail
            go_roundw
            case rel => exact ⟨k + 1, by omega, by omega, by go_num, HB5.out⟩
            case measure => simp [intOf]; omega
          · have hne : (R.err != 0) = true := by simpa using h0
            have hat : (R.at != ((D k).size : Int)) = true := by simpa using h1
            have hq : (R'.at != R.at + 2) = false := by simp [h2]
            have hwr : IntKind.i64.wrap (R.at + 2) = R.at + 2 := IntWalk.i64_in _ (by omega)
            clear h0 h1 h2 h3 h4
            refine wpH_take 11 (v := ?_) (by kernel_rfl) (by kernel_rfl) (by kernel_rfl) rfl (fun _ _ _ h => h) (Or.inl ⟨by rfl, ?_⟩) hHeld ?_
            rotate_left
            · (intro w' ⟨h0, h1, h2, h3, h4⟩; obtain ⟨ya0, yb0, yc0⟩ := h0.facts; obtain ⟨ya1, yb1, yc1⟩ := h1.facts; obtain ⟨ya2, yb2, yc2⟩ := h2.facts; obtain ⟨ya3, yb3, yc3⟩ := h3.facts; go_simp; try with_reducible rfl)
            try simp only [Act.put, List.setIfInBounds_toArray, List.set_cons_zero, List.set_cons_succ]
            refine wpH_take 12 (v := ?_) (by kernel_rfl) (by kernel_rfl) (by kernel_rfl) rfl (fun _ _ _ h => h) (Or.inl ⟨by rfl, ?_⟩) hHeld ?_
            rotate_left
            · (intro w' ⟨h0, h1, h2, h3, h4⟩; obtain ⟨ya0, yb0, yc0⟩ := h0.facts; obtain ⟨ya1, yb1, yc1⟩ := h1.facts; obtain ⟨ya2, yb2, yc2⟩ := h2.facts; obtain ⟨ya3, yb3, yc3⟩ := h3.facts; go_simp; try with_reducible rfl)
            try simp only [Act.put, List.setIfInBounds_toArray, List.set_cons_zero, List.set_cons_succ]
            refine wpH_take 13 (v := ?_) (by kernel_rfl) (by kernel_rfl) (by kernel_rfl) rfl (fun _ _ _ h => h) (Or.inl ⟨by rfl, ?_⟩) hHeld ?_
            rotate_left
            · (intro w' ⟨h0, h1, h2, h3, h4⟩; obtain ⟨ya0, yb0, yc0⟩ := h0.facts; obtain ⟨ya1, yb1, yc1⟩ := h1.facts; obtain ⟨ya2, yb2, yc2⟩ := h2.facts; obtain ⟨ya3, yb3, yc3⟩ := h3.facts; go_simp; try with_reducible rfl)
            try simp only [Act.put, List.setIfInBounds_toArray, List.set_cons_zero, List.set_cons_succ]
            refine wpH_take 14 (v := ?_) (by kernel_rfl) (by kernel_rfl) (by kernel_rfl) rfl (fun _ _ _ h => h) (Or.inl ⟨by rfl, ?_⟩) hHeld ?_
            rotate_left
            · (intro w' ⟨h0, h1, h2, h3, h4⟩; obtain ⟨ya0, yb0, yc0⟩ := h0.facts; obtain ⟨ya1, yb1, yc1⟩ := h1.facts; obtain ⟨ya2, yb2, yc2⟩ := h2.facts; obtain ⟨ya3, yb3, yc3⟩ := h3.facts; go_simp; try with_reducible rfl)
            try simp only [Act.put, List.setIfInBounds_toArray, List.set_cons_zero, List.set_cons_succ]
            refine wpH_take 15 (v := ?_) (by kernel_rfl) (by kernel_rfl) (by kernel_rfl) rfl (fun _ _ _ h => h) (Or.inl ⟨by rfl, ?_⟩) hHeld ?_
            rotate_left
            · (intro w' ⟨h0, h1, h2, h3, h4⟩; obtain ⟨ya0, yb0, yc0⟩ := h0.facts; obtain ⟨ya1, yb1, yc1⟩ := h1.facts; obtain ⟨ya2, yb2, yc2⟩ := h2.facts; obtain ⟨ya3, yb3, yc3⟩ := h3.facts; go_simp; try with_reducible rfl)
            try simp only [Act.put, List.setIfInBounds_toArray, List.set_cons_zero, List.set_cons_succ]
            refine wpH_take 16 (v := ?_) (by kernel_rfl) (by kernel_rfl) (by kernel_rfl) rfl (fun _ _ _ h => h) (Or.inl ⟨by rfl, ?_⟩) hHeld ?_
            rotate_left
            · (intro w' ⟨h0, h1, h2, h3, h4⟩; obtain ⟨ya0, yb0, yc0⟩ := h0.facts; obtain ⟨ya1, yb1, yc1⟩ := h1.facts; obtain ⟨ya2, yb2, yc2⟩ := h2.facts; obtain ⟨ya3, yb3, yc3⟩ := h3.facts; go_simp; try with_reducible rfl)
            try simp only [Act.put, List.setIfInBounds_toArray, List.set_cons_zero, List.set_cons_succ]
            refine wpH_take 17 (v := ?_) (by kernel_rfl) (by kernel_rfl) (by kernel_rfl) rfl (fun _ _ _ h => h) (Or.inl ⟨by rfl, ?_⟩) hHeld ?_
            rotate_left
            · (intro w' ⟨h0, h1, h2, h3, h4⟩; obtain ⟨ya0, yb0, yc0⟩ := h0.facts; obtain ⟨ya1, yb1, yc1⟩ := h1.facts; obtain ⟨ya2, yb2, yc2⟩ := h2.facts; obtain ⟨ya3, yb3, yc3⟩ := h3.facts; go_simp; try with_reducible rfl)
            try simp only [Act.put, List.setIfInBounds_toArray, List.set_cons_zero, List.set_cons_succ]
            refine wpH_take 18 (v := ?_) (by kernel_rfl) (by kernel_rfl) (by kernel_rfl) rfl (fun _ _ _ h => h) (Or.inl ⟨by rfl, ?_⟩) hHeld ?_
            rotate_left
            · (intro w' ⟨h0, h1, h2, h3, h4⟩; obtain ⟨ya0, yb0, yc0⟩ := h0.facts; obtain ⟨ya1, yb1, yc1⟩ := h1.facts; obtain ⟨ya2, yb2, yc2⟩ := h2.facts; obtain ⟨ya3, yb3, yc3⟩ := h3.facts; go_simp; try with_reducible rfl)
            try simp only [Act.put, List.setIfInBounds_toArray, List.set_cons_zero, List.set_cons_succ]
            refine wpH_take 19 (v := ?_) (by kernel_rfl) (by kernel_rfl) (by kernel_rfl) rfl (fun _ _ _ h => h) (Or.inl ⟨by rfl, ?_⟩) hHeld ?_
            rotate_left
            · (intro w' ⟨h0, h1, h2, h3, h4⟩; obtain ⟨ya0, yb0, yc0⟩ := h0.facts; obtain ⟨ya1, yb1, yc1⟩ := h1.facts; obtain ⟨ya2, yb2, yc2⟩ := h2.facts; obtain ⟨ya3, yb3, yc3⟩ := h3.facts; go_simp; try with_reducible rfl)
            try simp only [Act.put, List.setIfInBounds_toArray, List.set_cons_zero, List.set_cons_succ]
            refine wpH_take 20 (v := ?_) (by kernel_rfl) (by kernel_rfl) (by kernel_rfl) rfl (fun _ _ _ h => h) (Or.inl ⟨by rfl, ?_⟩) hHeld ?_
            rotate_left
            · (intro w' ⟨h0, h1, h2, h3, h4⟩; obtain ⟨ya0, yb0, yc0⟩ := h0.facts; obtain ⟨ya1, yb1, yc1⟩ := h1.facts; obtain ⟨ya2, yb2, yc2⟩ := h2.facts; obtain ⟨ya3, yb3, yc3⟩ := h3.facts; go_simp; try with_reducible rfl)
            try simp only [Act.put, List.setIfInBounds_toArray, List.set_cons_zero, List.set_cons_succ]
            refine wpH_take 21 (v := ?_) (by kernel_rfl) (by kernel_rfl) (by kernel_rfl) rfl (fun _ _ _ h => h) (Or.inl ⟨by rfl, ?_⟩) hHeld ?_
            rotate_left
            · (intro w' ⟨h0, h1, h2, h3, h4⟩; obtain ⟨ya0, yb0, yc0⟩ := h0.facts; obtain ⟨ya1, yb1, yc1⟩ := h1.facts; obtain ⟨ya2, yb2, yc2⟩ := h2.facts; obtain ⟨ya3, yb3, yc3⟩ := h3.facts; go_simp; try with_reducible rfl)
            try simp only [Act.put, List.setIfInBounds_toArray, List.set_cons_zero, List.set_cons_succ]
            refine wpH_take 22 (v := ?_) (by kernel_rfl) (by kernel_rfl) (by kernel_rfl) rfl (fun _ _ _ h => h) (Or.inl ⟨by rfl, ?_⟩) hHeld ?_
            rotate_left
            · (intro w' ⟨h0, h1, h2, h3, h4⟩; obtain ⟨ya0, yb0, yc0⟩ := h0.facts; obtain ⟨ya1, yb1, yc1⟩ := h1.facts; obtain ⟨ya2, yb2, yc2⟩ := h2.facts; obtain ⟨ya3, yb3, yc3⟩ := h3.facts; go_simp; try with_reducible rfl)
            try simp only [Act.put, List.setIfInBounds_toArray, List.set_cons_zero, List.set_cons_succ]
            refine wpH_take 23 (v := ?_) (by kernel_rfl) (by kernel_rfl) (by kernel_rfl) rfl (fun _ _ _ h => h) (Or.inl ⟨by rfl, ?_⟩) hHeld ?_
            rotate_left
            · (intro w' ⟨h0, h1, h2, h3, h4⟩; obtain ⟨ya0, yb0, yc0⟩ := h0.facts; obtain ⟨ya1, yb1, yc1⟩ := h1.facts; obtain ⟨ya2, yb2, yc2⟩ := h2.facts; obtain ⟨ya3, yb3, yc3⟩ := h3.facts; go_simp; try with_reducible rfl)
            try simp only [Act.put, List.setIfInBounds_toArray, List.set_cons_zero, List.set_cons_succ]
            refine wpH_take 24 (v := ?_) (by kernel_rfl) (by kernel_rfl) (by kernel_rfl) rfl (fun _ _ _ h => h) (Or.inl ⟨by rfl, ?_⟩) hHeld ?_
            rotate_left
            · (intro w' ⟨h0, h1, h2, h3, h4⟩; obtain ⟨ya0, yb0, yc0⟩ := h0.facts; obtain ⟨ya1, yb1, yc1⟩ := h1.facts; obtain ⟨ya2, yb2, yc2⟩ := h2.facts; obtain ⟨ya3, yb3, yc3⟩ := h3.facts; go_simp; try with_reducible rfl)
            try simp only [Act.put, List.setIfInBounds_toArray, List.set_cons_zero, List.set_cons_succ]
            refine wpH_take 25 (v := ?_) (by kernel_rfl) (by kernel_rfl) (by kernel_rfl) rfl (fun _ _ _ h => h) (Or.inl ⟨by rfl, ?_⟩) hHeld ?_
            rotate_left
            · (intro w' ⟨h0, h1, h2, h3, h4⟩; obtain ⟨ya0, yb0, yc0⟩ := h0.facts; obtain ⟨ya1, yb1, yc1⟩ := h1.facts; obtain ⟨ya2, yb2, yc2⟩ := h2.facts; obtain ⟨ya3, yb3, yc3⟩ := h3.facts; go_simp; try with_reducible rfl)
            try simp only [Act.put, List.setIfInBounds_toArray, List.set_cons_zero, List.set_cons_succ]
            refine wpH_take 26 (v := ?_) (by kernel_rfl) (by kernel_rfl) (by kernel_rfl) rfl (fun _ _ _ h => h) (Or.inl ⟨by rfl, ?_⟩) hHeld ?_
            rotate_left
            · (intro w' ⟨h0, h1, h2, h3, h4⟩; obtain ⟨ya0, yb0, yc0⟩ := h0.facts; obtain ⟨ya1, yb1, yc1⟩ := h1.facts; obtain ⟨ya2, yb2, yc2⟩ := h2.facts; obtain ⟨ya3, yb3, yc3⟩ := h3.facts; go_simp; try with_reducible rfl)
            try simp only [Act.put, List.setIfInBounds_toArray, List.set_cons_zero, List.set_cons_succ]
            refine wpH_take 27 (v := ?_) (by kernel_rfl) (by kernel_rfl) (by kernel_rfl) rfl (fun _ _ _ h => h) (Or.inl ⟨by rfl, ?_⟩) hHeld ?_
            rotate_left
            · (intro w' ⟨h0, h1, h2, h3, h4⟩; obtain ⟨ya0, yb0, yc0⟩ := h0.facts; obtain ⟨ya1, yb1, yc1⟩ := h1.facts; obtain ⟨ya2, yb2, yc2⟩ := h2.facts; obtain ⟨ya3, yb3, yc3⟩ := h3.facts; go_simp; try with_reducible rfl)
            try simp only [Act.put, List.setIfInBounds_toArray, List.set_cons_zero, List.set_cons_succ]
            refine wpH_take 28 (v := ?_) (by kernel_rfl) (by kernel_rfl) (by kernel_rfl) rfl (fun _ _ _ h => h) (Or.inl ⟨by rfl, ?_⟩) hHeld ?_
            rotate_left
            · (intro w' ⟨h0, h1, h2, h3, h4⟩; obtain ⟨ya0, yb0, yc0⟩ := h0.facts; obtain ⟨ya1, yb1, yc1⟩ := h1.facts; obtain ⟨ya2, yb2, yc2⟩ := h2.facts; obtain ⟨ya3, yb3, yc3⟩ := h3.facts; go_simp; try with_reducible rfl)
            try simp only [Act.put, List.setIfInBounds_toArray, List.set_cons_zero, List.set_cons_succ]
            refine wpH_take 29 (v := ?_) (by kernel_rfl) (by kernel_rfl) (by kernel_rfl) rfl (fun _ _ _ h => h) (Or.inl ⟨by rfl, ?_⟩) hHeld ?_
            rotate_left
            · (intro w' ⟨h0, h1, h2, h3, h4⟩; obtain ⟨ya0, yb0, yc0⟩ := h0.facts; obtain ⟨ya1, yb1, yc1⟩ := h1.facts; obtain ⟨ya2, yb2, yc2⟩ := h2.facts; obtain ⟨ya3, yb3, yc3⟩ := h3.facts; go_simp; try with_reducible rfl)
            try simp only [Act.put, List.setIfInBounds_toArray, List.set_cons_zero, List.set_cons_succ]
            refine wpH_take 30 (v := ?_) (by kernel_rfl) (by kernel_rfl) (by kernel_rfl) rfl (fun _ _ _ h => h) (Or.inl ⟨by rfl, ?_⟩) hHeld ?_
            rotate_left
            · (intro w' ⟨h0, h1, h2, h3, h4⟩; obtain ⟨ya0, yb0, yc0⟩ := h0.facts; obtain ⟨ya1, yb1, yc1⟩ := h1.facts; obtain ⟨ya2, yb2, yc2⟩ := h2.facts; obtain ⟨ya3, yb3, yc3⟩ := h3.facts; go_simp; try with_reducible rfl)
            try simp only [Act.put, List.setIfInBounds_toArray, List.set_cons_zero, List.set_cons_succ]
            refine wpH_take 31 (v := ?_) (by kernel_rfl) (by kernel_rfl) (by kernel_rfl) rfl (fun _ _ _ h => h) (Or.inl ⟨by rfl, ?_⟩) hHeld ?_
            rotate_left
            · (intro w' ⟨h0, h1, h2, h3, h4⟩; obtain ⟨ya0, yb0, yc0⟩ := h0.facts; obtain ⟨ya1, yb1, yc1⟩ := h1.facts; obtain ⟨ya2, yb2, yc2⟩ := h2.facts; obtain ⟨ya3, yb3, yc3⟩ := h3.facts; go_simp; try with_reducible rfl)
            try simp only [Act.put, List.setIfInBounds_toArray, List.set_cons_zero, List.set_cons_succ]
            refine wpH_take 32 (v := ?_) (by kernel_rfl) (by kernel_rfl) (by kernel_rfl) rfl (fun _ _ _ h => h) (Or.inl ⟨by rfl, ?_⟩) hHeld ?_
            rotate_left
            · (intro w' ⟨h0, h1, h2, h3, h4⟩; obtain ⟨ya0, yb0, yc0⟩ := h0.facts; obtain ⟨ya1, yb1, yc1⟩ := h1.facts; obtain ⟨ya2, yb2, yc2⟩ := h2.facts; obtain ⟨ya3, yb3, yc3⟩ := h3.facts; go_simp; try with_reducible rfl)
            try simp only [Act.put, List.setIfInBounds_toArray, List.set_cons_zero, List.set_cons_succ]
            refine wpH_take 33 (v := ?_) (by kernel_rfl) (by kernel_rfl) (by kernel_rfl) rfl (fun _ _ _ h => h) (Or.inl ⟨by rfl, ?_⟩) hHeld ?_
            rotate_left
            · (intro w' ⟨h0, h1, h2, h3, h4⟩; obtain ⟨ya0, yb0, yc0⟩ := h0.facts; obtain ⟨ya1, yb1, yc1⟩ := h1.facts; obtain ⟨ya2, yb2, yc2⟩ := h2.facts; obtain ⟨ya3, yb3, yc3⟩ := h3.facts; go_simp; try with_reducible rfl)
            try simp only [Act.put, List.setIfInBounds_toArray, List.set_cons_zero, List.set_cons_succ]
            refine wpH_take 34 (v := ?_) (by kernel_rfl) (by kernel_rfl) (by kernel_rfl) rfl (fun _ _ _ h => h) (Or.inl ⟨by rfl, ?_⟩) hHeld ?_
            rotate_left
            · (intro w' ⟨h0, h1, h2, h3, h4⟩; obtain ⟨ya0, yb0, yc0⟩ := h0.facts; obtain ⟨ya1, yb1, yc1⟩ := h1.facts; obtain ⟨ya2, yb2, yc2⟩ := h2.facts; obtain ⟨ya3, yb3, yc3⟩ := h3.facts; go_simp; try with_reducible rfl)
            try simp only [Act.put, List.setIfInBounds_toArray, List.set_cons_zero, List.set_cons_succ]
            refine wpH_take 35 (v := ?_) (by kernel_rfl) (by kernel_rfl) (by kernel_rfl) rfl (fun _ _ _ h => h) (Or.inl ⟨by rfl, ?_⟩) hHeld ?_
            rotate_left
            · (intro w' ⟨h0, h1, h2, h3, h4⟩; obtain ⟨ya0, yb0, yc0⟩ := h0.facts; obtain ⟨ya1, yb1, yc1⟩ := h1.facts; obtain ⟨ya2, yb2, yc2⟩ := h2.facts; obtain ⟨ya3, yb3, yc3⟩ := h3.facts; go_simp; try with_reducible rfl)
            try simp only [Act.put, List.setIfInBounds_toArray, List.set_cons_zero, List.set_cons_succ]
            refine wpAnyH_done (by kernel_rfl) ?_ _
            go_wp2_with fail
            go_roundw
            case rel => exact ⟨k + 1, by omega, by omega, by go_num, HB5.out⟩
            case measure => simp [intOf]; omega
      · have CW := CW wo HB.out
        by_cases hkn : k < n
        · have hd1 : decide ((k : Int) < (n : Int)) = true := by simp; omega
          have hd2 : decide ((k : Int) < 8) = false := by simp; omega
          go_wp2_with fail
          refine CW.out.mono ?_
          rintro e w2 ⟨rfl, hb2⟩
          have HB2 := Lib.hid (HB.out.trans (hb2.mono HB.out.size))
          clear hb2
          go_wp2_with fail
          go_ret
          exact ⟨rfl, HB2.out⟩
        · have hd1 : decide ((k : Int) < (n : Int)) = false := by simp; omega
          go_wp2_with fail
          refine CW.out.mono ?_
          rintro e w2 ⟨rfl, hb2⟩
          have HB2 := Lib.hid (HB.out.trans (hb2.mono HB.out.size))
          clear hb2
          go_wp2_with fail
          go_ret
          exact ⟨rfl, HB2.out⟩
theorem blanksLaw_none (w : World) (A : Option Addr) (c : Nat) (htab : Lib.TabIs Tryd.prog w "strings.asciiSpace" .u8 Lib.asciiSpaceTab) (st : TypeId) (hsiz : w.heap[2]? = some (.cells sizC st (0, 0))) :
    Calls Tryd.prog 3 #[.slice A 0 c] w fun e w' => e = .returned (.bool true) ∧ Below w.heap.size w w' := by
  have CH := Lib.hid (heavy_none w A c)
  have CW := Lib.hid (wakesP_any w htab st hsiz)
  clear htab hsiz
  go_enter Tryd.func3, Tryd.ntmps3
  go_wp2_with fail
  refine CH.out.mono ?_
  rintro e w' ⟨hv, rfl, rfl⟩
  cases hv with
  | true =>
    go_wp2_with fail
    go_ret
    exact ⟨rfl, Below.refl _ _⟩
  | false =>
    go_wp2_with fail
    go_loop [3, 4, 5, 6, 7, 10, 11, 12, 13, 14, 15, 16, 17, 18, 19, 20, 21, 22, 23, 24, 25, 26, 27, 28, 29, 30, 31, 32, 33, 34, 35, 36, 37, 38, 39, 40, 41, 42, 43, 44, 45, 46, 47, 48, 49, 50, 51, 52, 53, 54, 55, 56, 57, 58, 59, 60, 61, 62, 63, 64, 65, 66, 67, 68, 69, 70, 71, 72, 73, 74, 75, 76, 77, 78, 79] (fun i _ _ _ _ _ _ _ _ _ _ _ _ _ _ _ _ _ _ _ _ _ _ _ _ _ _ _ _ _ _ _ _ _ _ _ _ _ _ _ _ _ _ _ _ _ _ _ _ _ _ _ _ _ _ _ _ _ _ _ _ _ _ _ _ _ _ _ _ _ _ _ _ _ _ => i = .int .i64 0) (fun i _ _ _ _ _ _ _ _ _ _ _ _ _ _ _ _ _ _ _ _ _ _ _ _ _ _ _ _ _ _ _ _ _ _ _ _ _ _ _ _ _ _ _ _ _ _ _ _ _ _ _ _ _ _ _ _ _ _ _ _ _ _ _ _ _ _ _ _ _ _ _ _ _ _ => 0)
    case atStart => exact rfl
    case round =>
      obtain rfl := hrel
      go_wp2_with fail
      refine CW.out.mono ?_
      rintro e w2 ⟨rfl, hb2⟩
      have HB2 := Lib.hid hb2
      clear hb2
      go_wp2_with fail
      go_ret
      exact ⟨rfl, HB2.out⟩
theorem parseBlanksLaw_any {v : Value} {w : World} (h : StrArg w v) (htab : Lib.TabIs Tryd.prog w "strings.asciiSpace" .u8 Lib.asciiSpaceTab) (st : TypeId) (hsiz : w.heap[2]? = some (.cells sizC st (0, 0))) :
    Calls Tryd.prog 3 #[v] w fun e w' => e = .returned (.bool true) ∧ Below w.heap.size w w' := by
  rcases h with ⟨A, c, rfl⟩ | ⟨b, off, n, c, D, rfl, hc, hb, hn, hs⟩
  · exact blanksLaw_none w A c htab st hsiz
  · exact blanksLaw_some w b off n c D hc hb hn hs htab st hsiz
end Go.Proofs.YtjmemapkipkocaaDoor

/-
  The three tables that the rows list, laid: a world in which they lie, and what a listed table is.
-/
namespace Go.Proofs.YtjmemapkipkocaaDoor
open Go.ChangeShapes Go.WideShapes Go.ChangeAt Go.RowKit
set_option linter.unusedVariables false
theorem Tryd.own : ownKnob Tryd.prog.godebug = none := by kernel_rfl
theorem Tryd.laidOut : laidOutB Tryd.prog = true := by kernel_rfl
noncomputable def laidWorld (os : Os) : World :=
  let N := (World.settled Tryd.prog os).heap.size
  let w0 := World.holding Tryd.prog os ⟨#[
    .cells #[.int .u16 9, .int .u16 13, .int .u16 1, .int .u16 32, .int .u16 133, .int .u16 101, .int .u16 160, .int .u16 5760, .int .u16 5600, .int .u16 8192, .int .u16 8202, .int .u16 1, .int .u16 8232, .int .u16 8233, .int .u16 1, .int .u16 8239, .int .u16 8287, .int .u16 48, .int .u16 12288, .int .u16 12288, .int .u16 1] 139,
    .cells #[.slice (some ⟨N, 0, none⟩) 7 7, .slice none 0 0, .int .i64 2] 136], #[], []⟩
  let put (h : Array Obj) (g : Nat) (cs : Array Value) : Array Obj := h.modify g fun
    | .cells _ t frozen => .cells cs t frozen
    | o => o
  { w0 with heap := put (put (put w0.heap 0 (Lib.asciiSpaceTab.map fun z => Value.int .u8 z).toArray) 1 #[.pointer (some ⟨N + 1, 0, none⟩)]) 2 sizC }
noncomputable def theLaid : List (String × DataW Unit) := [("unicode.White_Space", Rows.laid_unicode_White_Space), ("strings.asciiSpace", Rows.laid_strings_asciiSpace), ("gantlet/parse.sizes", Rows.laid_gantlet_parse_sizes)]
noncomputable abbrev N0 : Nat := (World.settled Tryd.prog default).heap.size
theorem laid_met (os : Os) (args : Array Value) : laidMet Tryd.prog theLaid ((laidWorld os).forCall (fun _ _ => 0) ⟨#[], args, []⟩).memory :=
  (LaidIn.of_run [0, 1, 2, N0, N0 + 1] 8 (by kernel_rfl) (by kernel_rfl) (by kernel_rfl) (by kernel_rfl)).met
theorem tab_is {W : World} (h : laidMet Tryd.prog theLaid W) : Lib.TabIs Tryd.prog W "strings.asciiSpace" .u8 Lib.asciiSpaceTab := by
  obtain ⟨g', t', cs, fuel, p, hg', ht', hvar, hd⟩ := Lib.laidMet.reads h (n := "strings.asciiSpace") (d := Rows.laid_strings_asciiSpace) (.tail _ (.head _))
  obtain rfl := Option.some.inj ((show Tryd.prog.globalNamed "strings.asciiSpace" = some 0 by kernel_rfl).symm.trans hg')
  obtain rfl := Option.some.inj ((show (Tryd.prog.globals[0]?).map (·.type) = some 106 by kernel_rfl).symm.trans ht')
  have e : (Rows.laid_strings_asciiSpace : DataW Unit) = Lib.tabData .u8 Lib.asciiSpaceTab := by kernel_rfl
  rw [e] at hd
  unfold Lib.TabIs
  rw [hvar, ← Lib.cells_of_tab Tryd.underlying106 Tryd.underlying5 (by kernel_rfl) (by kernel_rfl) hd]
theorem str_is {H : Type} {enc : TypeId × Value → H} {w : World} {base : Nat} {sp : Nat → Bool} {held : Bool} {m : Nat} {c : Value} {y : DataW H × List MemPlace} {l : List UInt8} (h : DataW.trod enc Tryd.prog w base sp held m 9 [c] = some y) (hy : y.1 = .lit (.string l)) : c = .string ⟨l.toArray⟩ := by
  obtain ⟨s, h1, h2, _⟩ := DataW.trod_string Tryd.underlying9 h
  obtain rfl : c = .string s := by simpa using h1
  rw [h2] at hy
  have e : s.data.toList = l := by simpa using hy
  rw [← e]
theorem siz_is {W : World} (h : laidMet Tryd.prog theLaid W) : ∃ T, W.heap[2]? = some (.cells sizC T (0, 0)) := by
  obtain ⟨ps, hv, _, hf⟩ := h
  simp only [theLaid, DataW.LaidVars] at hv
  obtain ⟨g1, t1, cs1, f1, p1, q1, _, _, _, _, ⟨g2, t2, cs2, f2, p2, q2, _, _, _, _, ⟨g', t', cs, fuel, p, q, hg', ht', hvar, hd, hq, hq2⟩, hq1⟩, hps⟩ := hv
  obtain rfl := Option.some.inj ((show Tryd.prog.globalNamed "gantlet/parse.sizes" = some 2 by kernel_rfl).symm.trans hg')
  obtain rfl := Option.some.inj ((show (Tryd.prog.globals[2]?).map (·.type) = some 125 by kernel_rfl).symm.trans ht')
  have hc1 : Tryd.prog.cellsOf 9 = 1 := by kernel_rfl
  have hc4 : Tryd.prog.cellsOf 125 = 4 := by kernel_rfl
  have hlen : cs.toList.length = 4 := by
    obtain ⟨_, _, _, _, hl, _⟩ := DataW.trod_array Tryd.underlying125 hd
    rw [hl, hc4]
  have hcs : cs = sizC := by
    obtain ⟨c0, c1, c2, c3, hc⟩ : ∃ c0 c1 c2 c3, cs.toList = [c0, c1, c2, c3] := by
      rcases hl : cs.toList with _ | ⟨a, _ | ⟨b, _ | ⟨c, _ | ⟨d, _ | ⟨e, r⟩⟩⟩⟩⟩
      all_goals first | exact ⟨_, _, _, _, rfl⟩ | (rw [hl] at hlen; simp at hlen)
    rw [hc] at hd
    obtain ⟨y0, y1, y2, y3, n, hx, h0, h1, h2, h3⟩ := trod_array4 Tryd.underlying125 hc1 hd
    have hx1 := congrArg Prod.fst hx
    simp only [Rows.laid_gantlet_parse_sizes, DataW.agg.injEq, List.cons.injEq, and_true] at hx1
    obtain ⟨e0, e1, e2, e3⟩ := hx1
    apply Array.ext'
    rw [hc, str_is h0 e0.symm, str_is h1 e1.symm, str_is h2 e2.symm, str_is h3 e3.symm]
    rfl
  have hm : MemPlace.cell 2 0 ∈ ps := by
    rw [hps, hq1, hq2]
    have : MemPlace.cell 2 0 ∈ MemPlace.row ⟨2, 0, none⟩ cs.size := by
      rw [show cs.size = 4 by rw [← Array.length_toList]; exact hlen]
      simp [MemPlace.row, List.range, List.range.loop]
    simp [this]
  obtain ⟨⟨c, t, hb⟩, _⟩ := hf _ _ hm
  refine ⟨t, ?_⟩
  rw [hb]
  have e : c = cs := by
    have h2 := hvar
    unfold World.var? at h2
    rw [hg', Option.bind_some, hb] at h2
    simpa using h2
  rw [e, hcs]
/-- There is an input that fits, where a listed variable is a pointer. -/
theorem witness_ref {H : Type} {enc : TypeId × Value → H} {C : Checked} {f : FuncId} {fn : Func} {s : ChangeSpec} {conds : List PathCond} {apart : Bool} {X : World → Array Value → Prop} (w0 : World) (args : Array Value) (fuel : Nat)
    (hv : (w0.forCall (fun _ _ => 0) ⟨#[], args, []⟩).variablesRefB C.prog = true)
    (hr : ((w0.forCall (fun _ _ => 0) ⟨#[], args, []⟩).heap.toList.drop C.prog.globals.size).take ((begin C.prog (fun _ _ => 0) default).world.heap.size - C.prog.globals.size) = (begin C.prog (fun _ _ => 0) default).world.heap.toList.drop C.prog.globals.size)
    (hok : Input.okWideB C.prog (w0.forCall (fun _ _ => 0) ⟨#[], args, []⟩) f ⟨#[], args, []⟩ = true)
    (hpre : s.preB enc C.prog fn conds apart (w0.forCall (fun _ _ => 0) ⟨#[], args, []⟩).memory args fuel = true)
    (hsz : s.sizedB enc C.prog fn apart (w0.forCall (fun _ _ => 0) ⟨#[], args, []⟩).memory args fuel = true)
    (hx : X (w0.forCall (fun _ _ => 0) ⟨#[], args, []⟩).memory args) :
    ∃ (w : World) (tape : Tape) (i : Input), w.os = w0.os ∧ (w.forCall tape i).Shaped C.prog ∧ i.vars = [] ∧ Input.okWide C.prog (w.forCall tape i) .any w.heap.size f i ∧
      ((s.pre enc C.prog fn conds apart (w.forCall tape i).memory i.args ∧ X (w.forCall tape i).memory i.args) ∧ sizedMet enc C.prog fn (OpenSpec.ofChange s) apart (w.forCall tape i).memory i.args) ∧ ({ modest := false } : Assume).holds C.prog (lone (Frame.enter C.prog f i.args .normal) [] (w.forCall tape i)) := by
  refine ⟨w0, fun _ _ => 0, ⟨#[], args, []⟩, rfl, World.shaped_of_RefB hv hr, (Input.okWide_of_okWideB (base := 0) hok).1, (Input.okWide_of_okWideB hok).2, ⟨⟨ChangeSpec.pre_of_preB hpre, hx⟩, sizedMet_of_sizedB hsz⟩, ?_⟩
  simp only [Assume.holds]
  exact ⟨by simp, by simp, fun _ => Modest.zero, by simp, by simp⟩
end Go.Proofs.YtjmemapkipkocaaDoor

/-
  'ParseBlanks' returns true for every list of texts, and the texts read as they did; the three tables tied to the program's text.
-/
namespace Go.Proofs.YtjmemapkipkocaaDoor
open Go.ChangeShapes Go.WideShapes Go.ChangeAt Go.RowKit Go.Deep
set_option linter.unusedVariables false

set_option maxRecDepth 100000 in
theorem parseBlanks_lifted (os : Os) (started : os.Started) (H : Type) (enc : TypeId × Value → H) :
    ReturnsInHanded {} Tryd.checked os 3 .any (fun w args => (Rows.parseBlanksSpec.pre enc Tryd.prog Tryd.f3 [] false w args ∧ laidMet Tryd.prog theLaid w) ∧ sizedMet enc Tryd.prog Tryd.f3 (OpenSpec.ofChange Rows.parseBlanksSpec) false w args)
      (Rows.parseBlanksSpec.post enc Tryd.prog Tryd.f3 false true false false) := by
  refine returnsInHanded_of_change_and (C := Tryd.checked) (X := fun w _ => laidMet Tryd.prog theLaid w) (fun _ _ _ hh h => h.of_heap hh) Tryd.own started (by kernel_rfl) Tryd.func3
    (witness_ref (enc := enc) (C := Tryd.checked) (X := fun w _ => laidMet Tryd.prog theLaid w) (laidWorld os) #[.slice none 0 0] 8 (by kernel_rfl) (by kernel_rfl) (by kernel_rfl) (by kernel_rfl) (by kernel_rfl) (laid_met os _)) ?_
  intro W base args ds gs before hval0 hW _ _ hL _
  have hval : ∀ (j : Nat) t v, Tryd.f3.params[j]? = some t → args[j]? = some v → Value.okWide Tryd.prog W .any base t v := hval0
  have hW' := hW
  obtain ⟨p, q, hA0, hV, rfl, hfz, hnd⟩ := hW
  have hA : DataW.TrodAll enc Tryd.prog W 0 (fun _ => true) true Tryd.f3.params.toList args.toList ds p := hA0
  rw [Tryd.params3] at hA hval
  obtain ⟨v0, d0, rfl, rfl, h0⟩ := trodAll_one hA
  obtain ⟨rfl, rfl⟩ := trodVars_none hV
  have ha : StrArg W v0 := strs_of (hval 0 22 v0 rfl rfl) h0
  clear hA0 hval0
  have hlt : ∀ x ∈ p, x.block < W.heap.size := fun x hx => hW'.lt x (by simpa using hx)
  simp only [List.append_nil] at hW'
  obtain ⟨st, hst⟩ := siz_is hL
  refine (parseBlanksLaw_any ha (tab_is hL) st hst).mono fun e W' ⟨he, hb⟩ => ?_
  subst he
  exact ⟨_, rfl, _, _, _, [], p, [], hW', trodAll_mk1 (shut_bool Tryd.underlying4 _), trodAll_mk1 (Below.trod Tryd.laidOut (by kernel_rfl) (of_decide_eq_true (by kernel_rfl)) h0 hb hlt), rfl, hb.frame _, fun h => by cases h⟩
theorem parseBlanks_holds : Rows.ParseBlanksSaid :=
  OpenClaim.holds_of_wide 3 Tryd.f3 rfl rfl rfl rfl rfl rfl rfl ⟨rfl, rfl, rfl, rfl, rfl⟩ rfl rfl rfl rfl rfl (by kernel_rfl) Tryd.func3 (by kernel_rfl)
    (of_decide_eq_true (by kernel_rfl)) (by unfold Func.isWrapper; rw [if_neg (of_decide_eq_false (by kernel_rfl))]; exact ⟨rfl, rfl⟩)
    (fun os started H enc _ => parseBlanks_lifted os started H enc)
theorem parseBlanks_card : Rows.ParseBlanksCardSaid :=
  Claim7.holds_tied_plain_at .later [] [.listed, .data, .data] true (true, "8845e7e6fc37a211a61671b83c341b212f0a1ab83a7d477422e3e2b99005c115") false
    parseBlanks_holds (fun _ h => by cases h) (by kernel_rfl) (fun _ h => by cases h) parseBlanks_row_tie rfl ⟨rfl, rfl⟩ (by kernel_rfl) rfl
    (fun f fn hf hfn => by
      obtain rfl : f = 3 := Option.some.inj ((show Tryd.prog.funcNamed "gantlet/gantletlaw3.ParseBlanks" = some 3 by kernel_rfl).symm.trans hf) |>.symm
      obtain rfl : fn = Tryd.f3 := (Option.some.inj (Tryd.func3.symm.trans hfn)).symm
      exact ⟨by kernel_rfl, fun j t ht => by
        rw [Tryd.params3] at ht
        have h3 : t = 22 := by
          rcases j with _ | j
          · simpa using ht.symm
          · simp at ht
        subst h3
        exact (show Tryd.prog.wantsStandIn 22 = false by kernel_rfl)⟩)
    (by kernel_rfl)
end Go.Proofs.YtjmemapkipkocaaDoor
