/-
  The project's Un, by its map of shapes, and the page's own.
-/
import Derived.Test.YtgbgjecmamkdaaaDoorUn
import Derived.BigRegion
namespace Go.Proofs.YtgbgjecmamkdaaaDoor
open Go.RowKit
set_option linter.unusedVariables false
set_option maxRecDepth 100000
theorem shape31 (w : World) : Calls Tryd.prog 58 #[.int .i64 31] w fun e w' => e = .returned (.tuple #[keyN 0, .bool true]) ∧ w' = w.alloc (.cells #[.int .i64 1, .bool true] 107) := by
  go_enter Tryd.func58, Tryd.ntmps58
  go_wp2
  exact bodyPost_ret (v := .tuple #[.agg #[.int .i64 1, .bool true], .bool true]) (by simp [results, Tryd.results58, go_sem]) rfl ⟨rfl, rfl⟩
theorem shape32 (w : World) : Calls Tryd.prog 58 #[.int .i64 32] w fun e w' => e = .returned (.tuple #[keyN 1, .bool true]) ∧ w' = w.alloc (.cells #[.int .i64 2, .bool true] 107) := by
  go_enter Tryd.func58, Tryd.ntmps58
  go_wp2
  exact bodyPost_ret (v := .tuple #[.agg #[.int .i64 2, .bool true], .bool true]) (by simp [results, Tryd.results58, go_sem]) rfl ⟨rfl, rfl⟩
theorem shape33 (w : World) : Calls Tryd.prog 58 #[.int .i64 33] w fun e w' => e = .returned (.tuple #[keyN 2, .bool true]) ∧ w' = w.alloc (.cells #[.int .i64 4, .bool true] 107) := by
  go_enter Tryd.func58, Tryd.ntmps58
  go_wp2
  exact bodyPost_ret (v := .tuple #[.agg #[.int .i64 4, .bool true], .bool true]) (by simp [results, Tryd.results58, go_sem]) rfl ⟨rfl, rfl⟩
theorem shape34 (w : World) : Calls Tryd.prog 58 #[.int .i64 34] w fun e w' => e = .returned (.tuple #[keyN 3, .bool true]) ∧ w' = w.alloc (.cells #[.int .i64 1, .bool false] 107) := by
  go_enter Tryd.func58, Tryd.ntmps58
  go_wp2
  exact bodyPost_ret (v := .tuple #[.agg #[.int .i64 1, .bool false], .bool true]) (by simp [results, Tryd.results58, go_sem]) rfl ⟨rfl, rfl⟩
theorem shape35 (w : World) : Calls Tryd.prog 58 #[.int .i64 35] w fun e w' => e = .returned (.tuple #[keyN 4, .bool true]) ∧ w' = w.alloc (.cells #[.int .i64 2, .bool false] 107) := by
  go_enter Tryd.func58, Tryd.ntmps58
  go_wp2
  exact bodyPost_ret (v := .tuple #[.agg #[.int .i64 2, .bool false], .bool true]) (by simp [results, Tryd.results58, go_sem]) rfl ⟨rfl, rfl⟩
theorem shape36 (w : World) : Calls Tryd.prog 58 #[.int .i64 36] w fun e w' => e = .returned (.tuple #[keyN 5, .bool true]) ∧ w' = w.alloc (.cells #[.int .i64 4, .bool false] 107) := by
  go_enter Tryd.func58, Tryd.ntmps58
  go_wp2
  exact bodyPost_ret (v := .tuple #[.agg #[.int .i64 4, .bool false], .bool true]) (by simp [results, Tryd.results58, go_sem]) rfl ⟨rfl, rfl⟩

theorem kinds_at (w : World) (j : Nat) (hj : j < 6) : Calls Tryd.prog 60 #[] w.drew fun e w' => ∃ es : Array MapEntry, ∃ c : Nat, e = .returned (.map (some w.heap.size)) ∧ w' = (w.alloc (.map es c)).drew.drew ∧
    (Instr.lookup 110 (.map (some w.heap.size)) (keyN j) false).run Tryd.prog (w.alloc (.map es c)).drew.drew = .ok (.int .i64 (kindN j)) (w.alloc (.map es c)).drew.drew :=
  (kinds_any w.drew).mono fun e w' ⟨he, js, h1, h2, hw⟩ => ⟨_, _, he, hw, run_out w _ js j hj h1 (h2 j hj) (map_at w _ _)⟩
theorem two_cells (w : World) (n : Int) (b : Bool) : ((w.alloc (.cells #[.int .i64 n, .bool b] 107)).alloc (.cells #[.int .i64 n, .bool b] 107)).cell? ⟨w.heap.size + 1, 0, none⟩ = some (.int .i64 n) ∧
    ((w.alloc (.cells #[.int .i64 n, .bool b] 107)).alloc (.cells #[.int .i64 n, .bool b] 107)).cell? ⟨w.heap.size + 1, 1, none⟩ = some (.bool b) ∧
    Below w.heap.size w ((w.alloc (.cells #[.int .i64 n, .bool b] 107)).alloc (.cells #[.int .i64 n, .bool b] 107)) ∧ w.heap.size + 1 < ((w.alloc (.cells #[.int .i64 n, .bool b] 107)).alloc (.cells #[.int .i64 n, .bool b] 107)).heap.size := by
  refine ⟨by simp, by simp, ((Below.refl _ _).alloc (Nat.le_refl _) _).alloc (by simp) _, by simp⟩
theorem old_cells (W : World) (g o : Nat) (ob : Obj) (hg : g < W.heap.size) : (W.alloc ob).cell? ⟨g, o, none⟩ = W.cell? ⟨g, o, none⟩ := World.cell?_alloc_lt W ob ⟨g, o, none⟩ hg

theorem un31 (n : Int) (w : World) : Calls Tryd.prog 41 #[.int .i64 31, .int .i64 n] w fun e w' => e = .returned (.tuple #[.int .i64 (IntKind.i8.wrap n), .int .i64 0]) ∧ Below w.heap.size w w' := by
  have HT := two_cells w 1 true
  go_enter Tryd.func41, Tryd.ntmps41
  go_wp2_with (go_at_call 58; refine (shape31 _).mono ?_; rintro e w' ⟨rfl, rfl⟩; unfold keyN)
  revert HT
  generalize (w.alloc (Obj.cells #[.int .i64 1, .bool true] 107)).alloc (Obj.cells #[.int .i64 1, .bool true] 107) = W2
  generalize w.heap.size + 1 = g
  rintro ⟨h0, h1, hb, hg⟩
  have HB := Lib.hid hb
  have old := fun o ob => old_cells W2 g o ob hg
  clear hb
  go_region_with (first | (go_at_call 60; refine (kinds_at _ 0 (by omega)).mono ?_; rintro e w' ⟨es, c, rfl, rfl, hlk⟩; unfold keyN kindN at hlk) | (go_at_call 59; refine (fit1 _ _).mono ?_; rintro e w' ⟨rfl, rfl⟩))
  all_goals
    go_wp2
    go_ret2
    exact ⟨rfl, ((HB.out.alloc HB.out.size _).drew).drew⟩

theorem un32 (n : Int) (w : World) : Calls Tryd.prog 41 #[.int .i64 32, .int .i64 n] w fun e w' => e = .returned (.tuple #[.int .i64 (IntKind.i16.wrap n), .int .i64 0]) ∧ Below w.heap.size w w' := by
  have HT := two_cells w 2 true
  go_enter Tryd.func41, Tryd.ntmps41
  go_wp2_with (go_at_call 58; refine (shape32 _).mono ?_; rintro e w' ⟨rfl, rfl⟩; unfold keyN)
  revert HT
  generalize (w.alloc (Obj.cells #[.int .i64 2, .bool true] 107)).alloc (Obj.cells #[.int .i64 2, .bool true] 107) = W2
  generalize w.heap.size + 1 = g
  rintro ⟨h0, h1, hb, hg⟩
  have HB := Lib.hid hb
  have old := fun o ob => old_cells W2 g o ob hg
  clear hb
  go_region_with (first | (go_at_call 60; refine (kinds_at _ 1 (by omega)).mono ?_; rintro e w' ⟨es, c, rfl, rfl, hlk⟩; unfold keyN kindN at hlk) | (go_at_call 59; refine (fit3 _ _).mono ?_; rintro e w' ⟨rfl, rfl⟩))
  all_goals
    go_wp2
    go_ret2
    exact ⟨rfl, ((HB.out.alloc HB.out.size _).drew).drew⟩

theorem un33 (n : Int) (w : World) : Calls Tryd.prog 41 #[.int .i64 33, .int .i64 n] w fun e w' => e = .returned (.tuple #[.int .i64 (IntKind.i32.wrap n), .int .i64 0]) ∧ Below w.heap.size w w' := by
  have HT := two_cells w 4 true
  go_enter Tryd.func41, Tryd.ntmps41
  go_wp2_with (go_at_call 58; refine (shape33 _).mono ?_; rintro e w' ⟨rfl, rfl⟩; unfold keyN)
  revert HT
  generalize (w.alloc (Obj.cells #[.int .i64 4, .bool true] 107)).alloc (Obj.cells #[.int .i64 4, .bool true] 107) = W2
  generalize w.heap.size + 1 = g
  rintro ⟨h0, h1, hb, hg⟩
  have HB := Lib.hid hb
  have old := fun o ob => old_cells W2 g o ob hg
  clear hb
  go_region_with (first | (go_at_call 60; refine (kinds_at _ 2 (by omega)).mono ?_; rintro e w' ⟨es, c, rfl, rfl, hlk⟩; unfold keyN kindN at hlk) | (go_at_call 59; refine (fit5 _ _).mono ?_; rintro e w' ⟨rfl, rfl⟩))
  all_goals
    go_wp2
    go_ret2
    exact ⟨rfl, ((HB.out.alloc HB.out.size _).drew).drew⟩

theorem un34 (n : Int) (w : World) : Calls Tryd.prog 41 #[.int .i64 34, .int .i64 n] w fun e w' => e = .returned (.tuple #[.int .i64 (IntKind.u8.wrap n), .int .i64 0]) ∧ Below w.heap.size w w' := by
  have HT := two_cells w 1 false
  go_enter Tryd.func41, Tryd.ntmps41
  go_wp2_with (go_at_call 58; refine (shape34 _).mono ?_; rintro e w' ⟨rfl, rfl⟩; unfold keyN)
  revert HT
  generalize (w.alloc (Obj.cells #[.int .i64 1, .bool false] 107)).alloc (Obj.cells #[.int .i64 1, .bool false] 107) = W2
  generalize w.heap.size + 1 = g
  rintro ⟨h0, h1, hb, hg⟩
  have HB := Lib.hid hb
  have old := fun o ob => old_cells W2 g o ob hg
  clear hb
  go_region_with (first | (go_at_call 60; refine (kinds_at _ 3 (by omega)).mono ?_; rintro e w' ⟨es, c, rfl, rfl, hlk⟩; unfold keyN kindN at hlk) | (go_at_call 59; refine (fit2 _ _).mono ?_; rintro e w' ⟨rfl, rfl⟩))
  all_goals
    go_wp2
    go_ret2
    exact ⟨rfl, ((HB.out.alloc HB.out.size _).drew).drew⟩

theorem un35 (n : Int) (w : World) : Calls Tryd.prog 41 #[.int .i64 35, .int .i64 n] w fun e w' => e = .returned (.tuple #[.int .i64 (IntKind.u16.wrap n), .int .i64 0]) ∧ Below w.heap.size w w' := by
  have HT := two_cells w 2 false
  go_enter Tryd.func41, Tryd.ntmps41
  go_wp2_with (go_at_call 58; refine (shape35 _).mono ?_; rintro e w' ⟨rfl, rfl⟩; unfold keyN)
  revert HT
  generalize (w.alloc (Obj.cells #[.int .i64 2, .bool false] 107)).alloc (Obj.cells #[.int .i64 2, .bool false] 107) = W2
  generalize w.heap.size + 1 = g
  rintro ⟨h0, h1, hb, hg⟩
  have HB := Lib.hid hb
  have old := fun o ob => old_cells W2 g o ob hg
  clear hb
  go_region_with (first | (go_at_call 60; refine (kinds_at _ 4 (by omega)).mono ?_; rintro e w' ⟨es, c, rfl, rfl, hlk⟩; unfold keyN kindN at hlk) | (go_at_call 59; refine (fit4 _ _).mono ?_; rintro e w' ⟨rfl, rfl⟩))
  all_goals
    go_wp2
    go_ret2
    exact ⟨rfl, ((HB.out.alloc HB.out.size _).drew).drew⟩

theorem un36 (n : Int) (w : World) : Calls Tryd.prog 41 #[.int .i64 36, .int .i64 n] w fun e w' => e = .returned (.tuple #[.int .i64 (IntKind.u32.wrap n), .int .i64 0]) ∧ Below w.heap.size w w' := by
  have HT := two_cells w 4 false
  go_enter Tryd.func41, Tryd.ntmps41
  go_wp2_with (go_at_call 58; refine (shape36 _).mono ?_; rintro e w' ⟨rfl, rfl⟩; unfold keyN)
  revert HT
  generalize (w.alloc (Obj.cells #[.int .i64 4, .bool false] 107)).alloc (Obj.cells #[.int .i64 4, .bool false] 107) = W2
  generalize w.heap.size + 1 = g
  rintro ⟨h0, h1, hb, hg⟩
  have HB := Lib.hid hb
  have old := fun o ob => old_cells W2 g o ob hg
  clear hb
  go_region_with (first | (go_at_call 60; refine (kinds_at _ 5 (by omega)).mono ?_; rintro e w' ⟨es, c, rfl, rfl, hlk⟩; unfold keyN kindN at hlk) | (go_at_call 59; refine (fit6 _ _).mono ?_; rintro e w' ⟨rfl, rfl⟩))
  all_goals
    go_wp2
    go_ret2
    exact ⟨rfl, ((HB.out.alloc HB.out.size _).drew).drew⟩
end Go.Proofs.YtgbgjecmamkdaaaDoor
