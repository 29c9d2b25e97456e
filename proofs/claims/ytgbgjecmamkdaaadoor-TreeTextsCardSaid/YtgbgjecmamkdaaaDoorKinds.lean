/-
  The project's map of shapes: built in whatever order, asked for each shape that Un gives.
-/
import Derived.Test.YtgbgjecmamkdaaaDoorProg
import Derived.Test.YtgbgjecmamkdaaaDoorRegInv
import Derived.WalkKit
import Derived.WalkLawsBesides
import Derived.MapKept
import Derived.WideKeyRuns
import Derived.KernelRfl
import Derived.Outline
import Derived.Lib.Hide
namespace Go.Proofs.YtgbgjecmamkdaaaDoor
open Go.RowKit
set_option linter.unusedVariables false
set_option maxRecDepth 100000
set_option linter.unusedSimpArgs false

/-- The six shapes, and their kinds. -/
def keyN : Nat → Value
  | 0 => .agg #[.int .i64 1, .bool true]
  | 1 => .agg #[.int .i64 2, .bool true]
  | 2 => .agg #[.int .i64 4, .bool true]
  | 3 => .agg #[.int .i64 1, .bool false]
  | 4 => .agg #[.int .i64 2, .bool false]
  | _ => .agg #[.int .i64 4, .bool false]
def kindN : Nat → Int
  | 0 => 1 | 1 => 3 | 2 => 5 | 3 => 2 | 4 => 4 | _ => 6
/-- The entries that have come up, in their order. -/
def entsFrom : Nat → List Nat → List MapEntry
  | _, [] => []
  | b, j :: js => { key := keyN j, val := .int .i64 (kindN j), born := b } :: entsFrom (b + 1) js
theorem ents_len (js : List Nat) : ∀ b, (entsFrom b js).length = js.length := by
  induction js with
  | nil => intro b; rfl
  | cons j js ih => intro b; simp [entsFrom, ih]
theorem ents_snoc (js : List Nat) (j : Nat) : ∀ b, entsFrom b (js ++ [j]) = entsFrom b js ++ [{ key := keyN j, val := .int .i64 (kindN j), born := b + js.length }] := by
  induction js with
  | nil => intro b; rfl
  | cons i js ih => intro b; simp [entsFrom, ih]; omega

theorem six (j : Nat) (h : j < 6) : j = 0 ∨ j = 1 ∨ j = 2 ∨ j = 3 ∨ j = 4 ∨ j = 5 := by omega
theorem same_key (i j : Nat) (hi : i < 6) (hj : j < 6) : ∀ w : World, (Op.equal 107 (keyN i) (keyN j)).run Tryd.prog w = .ok (i == j) w := by
  rcases six i hi with rfl | rfl | rfl | rfl | rfl | rfl <;> rcases six j hj with rfl | rfl | rfl | rfl | rfl | rfl <;> (intro w; kernel_rfl)
theorem ask_new (j : Nat) (hj : j < 6) (js : List Nat) : (∀ i ∈ js, i < 6) → j ∉ js → ∀ (b k : Nat) (w : World), (Instr.findAsking 107 (keyN j) (entsFrom b js) k).run Tryd.prog w = .ok none w := by
  induction js with
  | nil => intro _ _ b k w; simp [entsFrom, Instr.findAsking]
  | cons i js ih =>
    intro h hn b k w
    have hi : i < 6 := h i (by simp)
    have hne : (j == i) = false := by
      have : j ≠ i := fun e => hn (by simp [e])
      simpa using this
    simp [entsFrom, Instr.findAsking, same_key j i hj hi, hne, ih (fun x hx => h x (by simp [hx])) (fun hx => hn (by simp [hx]))]
theorem ask_old (j : Nat) (hj : j < 6) (js : List Nat) : (∀ i ∈ js, i < 6) → j ∈ js → ∀ (b k : Nat), ∃ n, ∀ w : World, (Instr.findAsking 107 (keyN j) (entsFrom b js) k).run Tryd.prog w = .ok (some (n, .int .i64 (kindN j))) w := by
  induction js with
  | nil => intro _ h; simp at h
  | cons i js ih =>
    intro h hm b k
    have hi : i < 6 := h i (by simp)
    by_cases e : j = i
    · subst e
      exact ⟨k, fun w => by simp [entsFrom, Instr.findAsking, same_key j j hj hi]⟩
    · have hne : (j == i) = false := by simpa using e
      obtain ⟨n, hn⟩ := ih (fun x hx => h x (by simp [hx])) (by simpa [e] using hm) (b + 1) (k + 1)
      exact ⟨n, fun w => by simp [entsFrom, Instr.findAsking, same_key j i hj hi, hne, hn]⟩
theorem wideK : (match Tryd.prog.underlying 107 with | some (.array _ _) | some (.struct _) => true | _ => false) = true := by kernel_rfl
theorem find_new (j : Nat) (hj : j < 6) (js : List Nat) (h : ∀ i ∈ js, i < 6) (hn : j ∉ js) (w : World) : (Instr.findKey 107 (keyN j) (entsFrom 0 js)).run Tryd.prog w = .ok none w :=
  (run_findKey_eq w wideK _ _).trans (ask_new j hj js h hn 0 0 w)
theorem find_old (j : Nat) (hj : j < 6) (js : List Nat) (h : ∀ i ∈ js, i < 6) (hn : j ∈ js) : ∃ n, ∀ w : World, (Instr.findKey 107 (keyN j) (entsFrom 0 js)).run Tryd.prog w = .ok (some (n, .int .i64 (kindN j))) w := by
  obtain ⟨n, hn⟩ := ask_old j hj js h hn 0 0
  exact ⟨n, fun w => (run_findKey_eq w wideK _ _).trans (hn w)⟩
theorem ckey (j : Nat) (hj : j < 6) (e : Bool) : ∀ w : World, (Instr.checkKey e 10000 107 (keyN j)).run Tryd.prog w = .ok () w := by
  rcases six j hj with rfl | rfl | rfl | rfl | rfl | rfl <;> (intro w; kernel_rfl)

theorem run_insert_new {P : Program} {w : World} {B : Nat} {T K E : TypeId} {key v : Value} {es : Array MapEntry} {c : Nat} (hu : P.underlying T = some (.map K E)) (hb : w.heap[B]? = some (.map es c))
    (hk : ∀ w : World, (Instr.checkKey false 10000 K key).run P w = .ok () w) (hf : ∀ w : World, (Instr.findKey K key es.toList).run P w = .ok none w) :
    (Instr.mapUpdate T (.map (some B)) key v).run P w = .ok () { w with heap := w.heap.setIfInBounds B (.map (es.push { key, val := v, born := c }) (c + 1)) } := by
  simp [Instr.mapUpdate, run_underlying hu, MapKept.run_getObj_map hb, hk, hf, MapKept.run_setObj_map _ hb]
theorem run_look {P : Program} {w : World} {B : Nat} {T K E : TypeId} {key v : Value} {es : Array MapEntry} {c i : Nat} (hu : P.underlying T = some (.map K E)) (hb : w.heap[B]? = some (.map es c))
    (hk : ∀ w : World, (Instr.checkKey es.isEmpty 10000 K key).run P w = .ok () w) (hf : ∀ w : World, (Instr.findKey K key es.toList).run P w = .ok (some (i, v)) w) :
    (Instr.lookup T (.map (some B)) key false).run P w = .ok v w := by
  simp [Instr.lookup, run_underlying hu, MapKept.run_getObj_map hb, hk, hf]
theorem set_new (w : World) (o o' : Obj) : { w.alloc o with heap := (w.alloc o).heap.setIfInBounds w.heap.size o' } = w.alloc o' := by
  have h : (w.heap.push o).setIfInBounds w.heap.size o' = w.heap.push o' := by
    apply Array.ext
    · simp
    · intro i h1 h2
      simp only [Array.size_setIfInBounds, Array.size_push] at h1
      by_cases e : i = w.heap.size
      · subst e; simp
      · rw [Array.getElem_setIfInBounds (by simp; omega), if_neg (fun h => e h.symm), Array.getElem_push_lt (by omega), Array.getElem_push_lt (by omega)]
  show { w with heap := (w.heap.push o).setIfInBounds w.heap.size o' } = { w with heap := w.heap.push o' }
  rw [h]
theorem map_at (w : World) (es : Array MapEntry) (c : Nat) : (w.alloc (.map es c)).heap[w.heap.size]? = some (.map es c) := by
  show (w.heap.push _)[w.heap.size]? = _
  simp
/-- The world with the map that holds what has come up. -/
def mapW (w : World) (js : List Nat) : World := (w.alloc (.map (entsFrom 0 js).toArray js.length)).drew
theorem runIns (w : World) (js : List Nat) (j : Nat) (hj : j < 6) (h : ∀ i ∈ js, i < 6) (hn : j ∉ js) :
    (Instr.mapUpdate 110 (.map (some w.heap.size)) (keyN j) (.int .i64 (kindN j))).run Tryd.prog (mapW w js) = .ok () (mapW w (js ++ [j])) := by
  have e : mapW w (js ++ [j]) = (w.alloc (.map ((entsFrom 0 js).toArray.push { key := keyN j, val := .int .i64 (kindN j), born := js.length }) (js.length + 1))).drew := by
    unfold mapW
    rw [ents_snoc]
    simp
  rw [e]
  exact (run_insert_new (w := mapW w js) (B := w.heap.size) (es := (entsFrom 0 js).toArray) (c := js.length) Tryd.underlying110 (map_at w _ _) (ckey j hj false) (fun w' => find_new j hj js h hn w')).trans (congrArg (Result.ok ()) (set_new w.drew _ _))
theorem run_out (w w' : World) (js : List Nat) (j : Nat) (hj : j < 6) (h : ∀ i ∈ js, i < 6) (hn : j ∈ js) (hw : w'.heap[w.heap.size]? = some (.map (entsFrom 0 js).toArray js.length)) :
    (Instr.lookup 110 (.map (some w.heap.size)) (keyN j) false).run Tryd.prog w' = .ok (.int .i64 (kindN j)) w' := by
  obtain ⟨n, hn⟩ := find_old j hj js h hn
  exact run_look Tryd.underlying110 hw (ckey j hj _) hn

/-- What holds of whatever has come up. -/
def kInv (w : World) (L : Nat → Bool) (a : Act) (w' : World) : Prop :=
  ∃ (t0 t1 t2 t3 t4 t5 t6 t7 t8 : Value) (js : List Nat), a = { tmps := #[t0, t1, t2, t3, t4, t5, t6, t7, t8], defers := [] } ∧ (∀ i ∈ js, i < 6) ∧ (L 0 = false → w' = w.drew ∧ js = []) ∧
    (L 0 = true → t1 = .map (some w.heap.size) ∧ w' = mapW w js) ∧ (∀ j, j < 6 → (L (2 * j + 2) = true ↔ j ∈ js)) ∧
    (L 1 = true → t2 = keyN 0) ∧ (L 3 = true → t3 = keyN 1) ∧ (L 5 = true → t4 = keyN 2) ∧ (L 7 = true → t5 = keyN 3) ∧ (L 9 = true → t6 = keyN 4) ∧ (L 11 = true → t7 = keyN 5) ∧
    (L 13 = true → t8 = .map (some w.heap.size)) ∧ (L 14 = true → t0 = .map (some w.heap.size))
def onL (listed : Array Bool) (j : Nat) : Bool := listed.getD j false
theorem onL_set (listed : Array Bool) (i : Nat) (h : i < listed.size) (j : Nat) : onL (listed.setIfInBounds i true) j = if i = j then true else onL listed j := by
  unfold onL
  by_cases e : i = j
  · subst e; simp [Array.getD_eq_getD_getElem?, h]
  · simp [Array.getD_eq_getD_getElem?, Array.getElem?_setIfInBounds, e]
theorem onL_not {listed : Array Bool} {i : Nat} (h : listed.getD i true = false) : i < listed.size ∧ onL listed i = false := by
  unfold onL
  rcases Nat.lt_or_ge i listed.size with hl | hl
  · simp [Array.getD, hl] at h ⊢; exact h
  · simp [Array.getD, Nat.not_lt.2 hl] at h

theorem wpOp_value {P : Program} {ops : Array Oper} {Q : Exit → Act → World → Prop} {i : Nat} {o : Oper} {K : Act → World → Prop} {a : Act} {w w1 : World} {v : Value} (ho : ops[i]? = some o) (hg : o.guard = none)
    (hr : (execOp a.eval o).run P w = .ok (.value v) w1) (hk : K (a.put o.dst v) w1) : wpOp P ops Q i K a w := by
  unfold wpOp
  simp only [ho, Region.wanted, hg, if_true]
  refine Or.inl ?_
  show o.upon P a K Q ((execOp a.eval o).run P w)
  rw [hr]
  exact hk
theorem wpOp_skip {P : Program} {ops : Array Oper} {Q : Exit → Act → World → Prop} {i : Nat} {o : Oper} {K : Act → World → Prop} {a : Act} {w w1 : World} (ho : ops[i]? = some o) (hg : o.guard = none)
    (hr : (execOp a.eval o).run P w = .ok .skip w1) (hk : K (a.put o.dst undef) w1) : wpOp P ops Q i K a w := by
  unfold wpOp
  simp only [ho, Region.wanted, hg, if_true]
  refine Or.inl ?_
  show o.upon P a K Q ((execOp a.eval o).run P w)
  rw [hr]
  exact hk
theorem onL_self (listed : Array Bool) (i : Nat) (h : i < listed.size) : onL (listed.setIfInBounds i true) i = true := by rw [onL_set _ _ h]; simp
theorem onL_keep (listed : Array Bool) (i : Nat) (h : i < listed.size) (j : Nat) (hne : i ≠ j) : onL (listed.setIfInBounds i true) j = onL listed j := by rw [onL_set _ _ h, if_neg hne]
/-- What 'ready' says of the edges: all that the operation waits for has come up. -/
theorem dep_of {ops : Array Oper} {i : Nat} {listed : Array Bool} {o' : Oper} (ho' : ops[i]? = some o') {o : Oper} (ho : ops[i]? = some o) (hdeps : ∀ e ∈ o.after.toList, Region.binds .any e = true → listed.getD e.on false = true)
    (e : Edge) (he : e ∈ o'.after.toList) (hb : Region.binds .any e = true) : onL listed e.on = true := by
  rw [ho'] at ho
  injection ho with ho
  subst ho
  exact hdeps e he hb

theorem onL_rep (n j : Nat) : onL (Array.replicate n false) j = false := by
  unfold onL
  rw [Array.getD_eq_getD_getElem?, Array.getElem?_replicate]
  split <;> rfl
theorem not_ready {ops : Array Oper} {listed : Array Bool} {n i : Nat} {o : Oper} (hn : listed.size = n) (hr : Region.ready .any ops listed = []) (ho : ops[i]? = some o) (hd : ∀ e ∈ o.after.toList, onL listed e.on = true) (hi : i < n) : onL listed i = true := by
  subst hn
  cases hb : onL listed i with
  | true => rfl
  | false =>
    exfalso
    unfold Region.ready at hr
    rw [List.filter_eq_nil_iff] at hr
    have hs : i < ops.size := by
      rcases Nat.lt_or_ge i ops.size with h | h
      · exact h
      · rw [Array.getElem?_eq_none h] at ho; cases ho
    refine hr i (by simpa using hs) ?_
    have e1 : listed.getD i true = false := by
      unfold onL at hb
      simp [Array.getD, hi] at hb ⊢
      exact hb
    rw [e1, ho]
    simp only [Bool.not_false, Bool.true_and, Option.map_some, Option.getD_some, Array.all_eq_true_iff_forall_mem, Bool.or_eq_true]
    intro e he
    exact Or.inr (hd e (by simpa using he))
theorem ins_run {a : Act} {w w1 : World} {x y z : Operand} {M k v : Value} {e : Array Edge} {pos : String} {ty : TypeId} (hx : a.eval x = M) (hy : a.eval y = k) (hz : a.eval z = v)
    (h : (Instr.mapUpdate 110 M k v).run Tryd.prog w = .ok () w1) :
    (execOp a.eval { dst := none, op := .insert 110 x y z, type := ty, pos := pos, after := e, guard := none }).run Tryd.prog w = .ok .skip w1 := by
  subst hx; subst hy; subst hz
  simp [execOp, h]

set_option maxHeartbeats 1000000 in
theorem kinds_any (w : World) : Calls Tryd.prog 60 #[] w fun e w' => e = .returned (.map (some w.heap.size)) ∧ ∃ js : List Nat, (∀ i ∈ js, i < 6) ∧ (∀ j, j < 6 → j ∈ js) ∧ w' = mapW w js := by
  go_enter Tryd.func60, Tryd.ntmps60
  go_wp2
  refine wp_region_inv (by kernel_rfl) (fun listed a w' => listed.size = 15 ∧ kInv w (onL listed) a w') ?_ ?_ ?_
  · refine ⟨by simp, _, _, _, _, _, _, _, _, _, [], rfl, by simp, fun _ => ⟨rfl, rfl⟩, ?_⟩
    simp only [onL_rep]
    simp
  · intro listed a w' ⟨h15, t0, t1, t2, t3, t4, t5, t6, t7, t8, js, ha, hjs, hf0, ht0, hins, h1, h3, h5, h7, h9, h11, h13, h14⟩ i hi
    obtain ⟨hi15, hli, o, ho, hdeps⟩ := ready_spec hi
    obtain ⟨hsz, hL⟩ := onL_not hli
    clear hi hli
    subst ha
    match i, hi15 with
    | 0, _ =>
      obtain ⟨rfl, rfl⟩ := hf0 hL
      refine wpOp_value (v := .map (some w.heap.size)) (w1 := mapW w []) rfl rfl rfl ?_
      refine ⟨by simp [h15], t0, .map (some w.heap.size), t2, t3, t4, t5, t6, t7, t8, [], rfl, by simp, ?_, fun _ => ⟨rfl, rfl⟩, ?_, fun h => h1 (by rwa [onL_keep _ _ hsz _ (by decide)] at h), fun h => h3 (by rwa [onL_keep _ _ hsz _ (by decide)] at h), fun h => h5 (by rwa [onL_keep _ _ hsz _ (by decide)] at h), fun h => h7 (by rwa [onL_keep _ _ hsz _ (by decide)] at h), fun h => h9 (by rwa [onL_keep _ _ hsz _ (by decide)] at h), fun h => h11 (by rwa [onL_keep _ _ hsz _ (by decide)] at h), fun h => h13 (by rwa [onL_keep _ _ hsz _ (by decide)] at h), fun h => h14 (by rwa [onL_keep _ _ hsz _ (by decide)] at h)⟩
      · rw [onL_self _ _ hsz]; simp
      · intro j hj; rw [onL_keep _ _ hsz _ (by omega)]; exact hins j hj
    | 1, _ =>
      refine wpOp_value (v := keyN 0) (w1 := w') rfl rfl (by kernel_rfl) ?_
      refine ⟨by simp [h15], t0, t1, keyN 0, t3, t4, t5, t6, t7, t8, js, rfl, hjs, ?_, ?_, ?_, fun _ => rfl, fun h => h3 (by rwa [onL_keep _ _ hsz _ (by decide)] at h), fun h => h5 (by rwa [onL_keep _ _ hsz _ (by decide)] at h), fun h => h7 (by rwa [onL_keep _ _ hsz _ (by decide)] at h), fun h => h9 (by rwa [onL_keep _ _ hsz _ (by decide)] at h), fun h => h11 (by rwa [onL_keep _ _ hsz _ (by decide)] at h), fun h => h13 (by rwa [onL_keep _ _ hsz _ (by decide)] at h), fun h => h14 (by rwa [onL_keep _ _ hsz _ (by decide)] at h)⟩
      · intro h; exact hf0 (by rwa [onL_keep _ _ hsz _ (by decide)] at h)
      · intro h; exact ht0 (by rwa [onL_keep _ _ hsz _ (by decide)] at h)
      · intro j hj; rw [onL_keep _ _ hsz _ (by omega)]; exact hins j hj
    | 2, _ =>
      have d0 := dep_of (i := 2) rfl ho hdeps ⟨0, .data⟩ (by simp) rfl
      have d1 := dep_of (i := 2) rfl ho hdeps ⟨1, .data⟩ (by simp) rfl
      obtain ⟨rfl, rfl⟩ := ht0 d0
      obtain rfl := h1 d1
      have hn : 0 ∉ js := fun hc => by have := (hins 0 (by omega)).2 hc; rw [hL] at this; cases this
      refine wpOp_skip (w1 := mapW w (js ++ [0])) rfl rfl (ins_run rfl rfl rfl (runIns w js 0 (by omega) hjs hn)) ?_
      refine ⟨by simp [h15], t0, .map (some w.heap.size), keyN 0, t3, t4, t5, t6, t7, t8, js ++ [0], rfl, ?_, ?_, fun _ => ⟨rfl, rfl⟩, ?_, fun _ => rfl, fun h => h3 (by rwa [onL_keep _ _ hsz _ (by decide)] at h), fun h => h5 (by rwa [onL_keep _ _ hsz _ (by decide)] at h), fun h => h7 (by rwa [onL_keep _ _ hsz _ (by decide)] at h), fun h => h9 (by rwa [onL_keep _ _ hsz _ (by decide)] at h), fun h => h11 (by rwa [onL_keep _ _ hsz _ (by decide)] at h), fun h => h13 (by rwa [onL_keep _ _ hsz _ (by decide)] at h), fun h => h14 (by rwa [onL_keep _ _ hsz _ (by decide)] at h)⟩
      · intro x hx
        rcases List.mem_append.1 hx with hx | hx
        · exact hjs x hx
        · have : x = 0 := by simpa using hx
          omega
      · intro h
        rw [onL_keep _ _ hsz _ (by decide), d0] at h
        cases h
      · intro j hj
        by_cases e : j = 0
        · subst e; rw [show 2 * 0 + 2 = 2 from rfl, onL_self _ _ hsz]; simp
        · rw [onL_keep _ _ hsz _ (by omega), hins j hj]; simp [e]
    | 3, _ =>
      refine wpOp_value (v := keyN 1) (w1 := w') rfl rfl (by kernel_rfl) ?_
      refine ⟨by simp [h15], t0, t1, t2, keyN 1, t4, t5, t6, t7, t8, js, rfl, hjs, ?_, ?_, ?_, fun h => h1 (by rwa [onL_keep _ _ hsz _ (by decide)] at h), fun _ => rfl, fun h => h5 (by rwa [onL_keep _ _ hsz _ (by decide)] at h), fun h => h7 (by rwa [onL_keep _ _ hsz _ (by decide)] at h), fun h => h9 (by rwa [onL_keep _ _ hsz _ (by decide)] at h), fun h => h11 (by rwa [onL_keep _ _ hsz _ (by decide)] at h), fun h => h13 (by rwa [onL_keep _ _ hsz _ (by decide)] at h), fun h => h14 (by rwa [onL_keep _ _ hsz _ (by decide)] at h)⟩
      · intro h; exact hf0 (by rwa [onL_keep _ _ hsz _ (by decide)] at h)
      · intro h; exact ht0 (by rwa [onL_keep _ _ hsz _ (by decide)] at h)
      · intro j hj; rw [onL_keep _ _ hsz _ (by omega)]; exact hins j hj
    | 4, _ =>
      have d0 := dep_of (i := 4) rfl ho hdeps ⟨0, .data⟩ (by simp) rfl
      have d1 := dep_of (i := 4) rfl ho hdeps ⟨3, .data⟩ (by simp) rfl
      obtain ⟨rfl, rfl⟩ := ht0 d0
      obtain rfl := h3 d1
      have hn : 1 ∉ js := fun hc => by have := (hins 1 (by omega)).2 hc; rw [hL] at this; cases this
      refine wpOp_skip (w1 := mapW w (js ++ [1])) rfl rfl (ins_run rfl rfl rfl (runIns w js 1 (by omega) hjs hn)) ?_
      refine ⟨by simp [h15], t0, .map (some w.heap.size), t2, keyN 1, t4, t5, t6, t7, t8, js ++ [1], rfl, ?_, ?_, fun _ => ⟨rfl, rfl⟩, ?_, fun h => h1 (by rwa [onL_keep _ _ hsz _ (by decide)] at h), fun _ => rfl, fun h => h5 (by rwa [onL_keep _ _ hsz _ (by decide)] at h), fun h => h7 (by rwa [onL_keep _ _ hsz _ (by decide)] at h), fun h => h9 (by rwa [onL_keep _ _ hsz _ (by decide)] at h), fun h => h11 (by rwa [onL_keep _ _ hsz _ (by decide)] at h), fun h => h13 (by rwa [onL_keep _ _ hsz _ (by decide)] at h), fun h => h14 (by rwa [onL_keep _ _ hsz _ (by decide)] at h)⟩
      · intro x hx
        rcases List.mem_append.1 hx with hx | hx
        · exact hjs x hx
        · have : x = 1 := by simpa using hx
          omega
      · intro h
        rw [onL_keep _ _ hsz _ (by decide), d0] at h
        cases h
      · intro j hj
        by_cases e : j = 1
        · subst e; rw [show 2 * 1 + 2 = 4 from rfl, onL_self _ _ hsz]; simp
        · rw [onL_keep _ _ hsz _ (by omega), hins j hj]; simp [e]
    | 5, _ =>
      refine wpOp_value (v := keyN 2) (w1 := w') rfl rfl (by kernel_rfl) ?_
      refine ⟨by simp [h15], t0, t1, t2, t3, keyN 2, t5, t6, t7, t8, js, rfl, hjs, ?_, ?_, ?_, fun h => h1 (by rwa [onL_keep _ _ hsz _ (by decide)] at h), fun h => h3 (by rwa [onL_keep _ _ hsz _ (by decide)] at h), fun _ => rfl, fun h => h7 (by rwa [onL_keep _ _ hsz _ (by decide)] at h), fun h => h9 (by rwa [onL_keep _ _ hsz _ (by decide)] at h), fun h => h11 (by rwa [onL_keep _ _ hsz _ (by decide)] at h), fun h => h13 (by rwa [onL_keep _ _ hsz _ (by decide)] at h), fun h => h14 (by rwa [onL_keep _ _ hsz _ (by decide)] at h)⟩
      · intro h; exact hf0 (by rwa [onL_keep _ _ hsz _ (by decide)] at h)
      · intro h; exact ht0 (by rwa [onL_keep _ _ hsz _ (by decide)] at h)
      · intro j hj; rw [onL_keep _ _ hsz _ (by omega)]; exact hins j hj
    | 6, _ =>
      have d0 := dep_of (i := 6) rfl ho hdeps ⟨0, .data⟩ (by simp) rfl
      have d1 := dep_of (i := 6) rfl ho hdeps ⟨5, .data⟩ (by simp) rfl
      obtain ⟨rfl, rfl⟩ := ht0 d0
      obtain rfl := h5 d1
      have hn : 2 ∉ js := fun hc => by have := (hins 2 (by omega)).2 hc; rw [hL] at this; cases this
      refine wpOp_skip (w1 := mapW w (js ++ [2])) rfl rfl (ins_run rfl rfl rfl (runIns w js 2 (by omega) hjs hn)) ?_
      refine ⟨by simp [h15], t0, .map (some w.heap.size), t2, t3, keyN 2, t5, t6, t7, t8, js ++ [2], rfl, ?_, ?_, fun _ => ⟨rfl, rfl⟩, ?_, fun h => h1 (by rwa [onL_keep _ _ hsz _ (by decide)] at h), fun h => h3 (by rwa [onL_keep _ _ hsz _ (by decide)] at h), fun _ => rfl, fun h => h7 (by rwa [onL_keep _ _ hsz _ (by decide)] at h), fun h => h9 (by rwa [onL_keep _ _ hsz _ (by decide)] at h), fun h => h11 (by rwa [onL_keep _ _ hsz _ (by decide)] at h), fun h => h13 (by rwa [onL_keep _ _ hsz _ (by decide)] at h), fun h => h14 (by rwa [onL_keep _ _ hsz _ (by decide)] at h)⟩
      · intro x hx
        rcases List.mem_append.1 hx with hx | hx
        · exact hjs x hx
        · have : x = 2 := by simpa using hx
          omega
      · intro h
        rw [onL_keep _ _ hsz _ (by decide), d0] at h
        cases h
      · intro j hj
        by_cases e : j = 2
        · subst e; rw [show 2 * 2 + 2 = 6 from rfl, onL_self _ _ hsz]; simp
        · rw [onL_keep _ _ hsz _ (by omega), hins j hj]; simp [e]
    | 7, _ =>
      refine wpOp_value (v := keyN 3) (w1 := w') rfl rfl (by kernel_rfl) ?_
      refine ⟨by simp [h15], t0, t1, t2, t3, t4, keyN 3, t6, t7, t8, js, rfl, hjs, ?_, ?_, ?_, fun h => h1 (by rwa [onL_keep _ _ hsz _ (by decide)] at h), fun h => h3 (by rwa [onL_keep _ _ hsz _ (by decide)] at h), fun h => h5 (by rwa [onL_keep _ _ hsz _ (by decide)] at h), fun _ => rfl, fun h => h9 (by rwa [onL_keep _ _ hsz _ (by decide)] at h), fun h => h11 (by rwa [onL_keep _ _ hsz _ (by decide)] at h), fun h => h13 (by rwa [onL_keep _ _ hsz _ (by decide)] at h), fun h => h14 (by rwa [onL_keep _ _ hsz _ (by decide)] at h)⟩
      · intro h; exact hf0 (by rwa [onL_keep _ _ hsz _ (by decide)] at h)
      · intro h; exact ht0 (by rwa [onL_keep _ _ hsz _ (by decide)] at h)
      · intro j hj; rw [onL_keep _ _ hsz _ (by omega)]; exact hins j hj
    | 8, _ =>
      have d0 := dep_of (i := 8) rfl ho hdeps ⟨0, .data⟩ (by simp) rfl
      have d1 := dep_of (i := 8) rfl ho hdeps ⟨7, .data⟩ (by simp) rfl
      obtain ⟨rfl, rfl⟩ := ht0 d0
      obtain rfl := h7 d1
      have hn : 3 ∉ js := fun hc => by have := (hins 3 (by omega)).2 hc; rw [hL] at this; cases this
      refine wpOp_skip (w1 := mapW w (js ++ [3])) rfl rfl (ins_run rfl rfl rfl (runIns w js 3 (by omega) hjs hn)) ?_
      refine ⟨by simp [h15], t0, .map (some w.heap.size), t2, t3, t4, keyN 3, t6, t7, t8, js ++ [3], rfl, ?_, ?_, fun _ => ⟨rfl, rfl⟩, ?_, fun h => h1 (by rwa [onL_keep _ _ hsz _ (by decide)] at h), fun h => h3 (by rwa [onL_keep _ _ hsz _ (by decide)] at h), fun h => h5 (by rwa [onL_keep _ _ hsz _ (by decide)] at h), fun _ => rfl, fun h => h9 (by rwa [onL_keep _ _ hsz _ (by decide)] at h), fun h => h11 (by rwa [onL_keep _ _ hsz _ (by decide)] at h), fun h => h13 (by rwa [onL_keep _ _ hsz _ (by decide)] at h), fun h => h14 (by rwa [onL_keep _ _ hsz _ (by decide)] at h)⟩
      · intro x hx
        rcases List.mem_append.1 hx with hx | hx
        · exact hjs x hx
        · have : x = 3 := by simpa using hx
          omega
      · intro h
        rw [onL_keep _ _ hsz _ (by decide), d0] at h
        cases h
      · intro j hj
        by_cases e : j = 3
        · subst e; rw [show 2 * 3 + 2 = 8 from rfl, onL_self _ _ hsz]; simp
        · rw [onL_keep _ _ hsz _ (by omega), hins j hj]; simp [e]
    | 9, _ =>
      refine wpOp_value (v := keyN 4) (w1 := w') rfl rfl (by kernel_rfl) ?_
      refine ⟨by simp [h15], t0, t1, t2, t3, t4, t5, keyN 4, t7, t8, js, rfl, hjs, ?_, ?_, ?_, fun h => h1 (by rwa [onL_keep _ _ hsz _ (by decide)] at h), fun h => h3 (by rwa [onL_keep _ _ hsz _ (by decide)] at h), fun h => h5 (by rwa [onL_keep _ _ hsz _ (by decide)] at h), fun h => h7 (by rwa [onL_keep _ _ hsz _ (by decide)] at h), fun _ => rfl, fun h => h11 (by rwa [onL_keep _ _ hsz _ (by decide)] at h), fun h => h13 (by rwa [onL_keep _ _ hsz _ (by decide)] at h), fun h => h14 (by rwa [onL_keep _ _ hsz _ (by decide)] at h)⟩
      · intro h; exact hf0 (by rwa [onL_keep _ _ hsz _ (by decide)] at h)
      · intro h; exact ht0 (by rwa [onL_keep _ _ hsz _ (by decide)] at h)
      · intro j hj; rw [onL_keep _ _ hsz _ (by omega)]; exact hins j hj
    | 10, _ =>
      have d0 := dep_of (i := 10) rfl ho hdeps ⟨0, .data⟩ (by simp) rfl
      have d1 := dep_of (i := 10) rfl ho hdeps ⟨9, .data⟩ (by simp) rfl
      obtain ⟨rfl, rfl⟩ := ht0 d0
      obtain rfl := h9 d1
      have hn : 4 ∉ js := fun hc => by have := (hins 4 (by omega)).2 hc; rw [hL] at this; cases this
      refine wpOp_skip (w1 := mapW w (js ++ [4])) rfl rfl (ins_run rfl rfl rfl (runIns w js 4 (by omega) hjs hn)) ?_
      refine ⟨by simp [h15], t0, .map (some w.heap.size), t2, t3, t4, t5, keyN 4, t7, t8, js ++ [4], rfl, ?_, ?_, fun _ => ⟨rfl, rfl⟩, ?_, fun h => h1 (by rwa [onL_keep _ _ hsz _ (by decide)] at h), fun h => h3 (by rwa [onL_keep _ _ hsz _ (by decide)] at h), fun h => h5 (by rwa [onL_keep _ _ hsz _ (by decide)] at h), fun h => h7 (by rwa [onL_keep _ _ hsz _ (by decide)] at h), fun _ => rfl, fun h => h11 (by rwa [onL_keep _ _ hsz _ (by decide)] at h), fun h => h13 (by rwa [onL_keep _ _ hsz _ (by decide)] at h), fun h => h14 (by rwa [onL_keep _ _ hsz _ (by decide)] at h)⟩
      · intro x hx
        rcases List.mem_append.1 hx with hx | hx
        · exact hjs x hx
        · have : x = 4 := by simpa using hx
          omega
      · intro h
        rw [onL_keep _ _ hsz _ (by decide), d0] at h
        cases h
      · intro j hj
        by_cases e : j = 4
        · subst e; rw [show 2 * 4 + 2 = 10 from rfl, onL_self _ _ hsz]; simp
        · rw [onL_keep _ _ hsz _ (by omega), hins j hj]; simp [e]
    | 11, _ =>
      refine wpOp_value (v := keyN 5) (w1 := w') rfl rfl (by kernel_rfl) ?_
      refine ⟨by simp [h15], t0, t1, t2, t3, t4, t5, t6, keyN 5, t8, js, rfl, hjs, ?_, ?_, ?_, fun h => h1 (by rwa [onL_keep _ _ hsz _ (by decide)] at h), fun h => h3 (by rwa [onL_keep _ _ hsz _ (by decide)] at h), fun h => h5 (by rwa [onL_keep _ _ hsz _ (by decide)] at h), fun h => h7 (by rwa [onL_keep _ _ hsz _ (by decide)] at h), fun h => h9 (by rwa [onL_keep _ _ hsz _ (by decide)] at h), fun _ => rfl, fun h => h13 (by rwa [onL_keep _ _ hsz _ (by decide)] at h), fun h => h14 (by rwa [onL_keep _ _ hsz _ (by decide)] at h)⟩
      · intro h; exact hf0 (by rwa [onL_keep _ _ hsz _ (by decide)] at h)
      · intro h; exact ht0 (by rwa [onL_keep _ _ hsz _ (by decide)] at h)
      · intro j hj; rw [onL_keep _ _ hsz _ (by omega)]; exact hins j hj
    | 12, _ =>
      have d0 := dep_of (i := 12) rfl ho hdeps ⟨0, .data⟩ (by simp) rfl
      have d1 := dep_of (i := 12) rfl ho hdeps ⟨11, .data⟩ (by simp) rfl
      obtain ⟨rfl, rfl⟩ := ht0 d0
      obtain rfl := h11 d1
      have hn : 5 ∉ js := fun hc => by have := (hins 5 (by omega)).2 hc; rw [hL] at this; cases this
      refine wpOp_skip (w1 := mapW w (js ++ [5])) rfl rfl (ins_run rfl rfl rfl (runIns w js 5 (by omega) hjs hn)) ?_
      refine ⟨by simp [h15], t0, .map (some w.heap.size), t2, t3, t4, t5, t6, keyN 5, t8, js ++ [5], rfl, ?_, ?_, fun _ => ⟨rfl, rfl⟩, ?_, fun h => h1 (by rwa [onL_keep _ _ hsz _ (by decide)] at h), fun h => h3 (by rwa [onL_keep _ _ hsz _ (by decide)] at h), fun h => h5 (by rwa [onL_keep _ _ hsz _ (by decide)] at h), fun h => h7 (by rwa [onL_keep _ _ hsz _ (by decide)] at h), fun h => h9 (by rwa [onL_keep _ _ hsz _ (by decide)] at h), fun _ => rfl, fun h => h13 (by rwa [onL_keep _ _ hsz _ (by decide)] at h), fun h => h14 (by rwa [onL_keep _ _ hsz _ (by decide)] at h)⟩
      · intro x hx
        rcases List.mem_append.1 hx with hx | hx
        · exact hjs x hx
        · have : x = 5 := by simpa using hx
          omega
      · intro h
        rw [onL_keep _ _ hsz _ (by decide), d0] at h
        cases h
      · intro j hj
        by_cases e : j = 5
        · subst e; rw [show 2 * 5 + 2 = 12 from rfl, onL_self _ _ hsz]; simp
        · rw [onL_keep _ _ hsz _ (by omega), hins j hj]; simp [e]
    | 13, _ =>
      have d0 := dep_of (i := 13) rfl ho hdeps ⟨0, .data⟩ (by simp) rfl
      obtain ⟨rfl, rfl⟩ := ht0 d0
      refine wpOp_value (v := .map (some w.heap.size)) (w1 := mapW w js) rfl rfl rfl ?_
      refine ⟨by simp [h15], t0, .map (some w.heap.size), t2, t3, t4, t5, t6, t7, .map (some w.heap.size), js, rfl, hjs, ?_, fun _ => ⟨rfl, rfl⟩, ?_, fun h => h1 (by rwa [onL_keep _ _ hsz _ (by decide)] at h), fun h => h3 (by rwa [onL_keep _ _ hsz _ (by decide)] at h), fun h => h5 (by rwa [onL_keep _ _ hsz _ (by decide)] at h), fun h => h7 (by rwa [onL_keep _ _ hsz _ (by decide)] at h), fun h => h9 (by rwa [onL_keep _ _ hsz _ (by decide)] at h), fun h => h11 (by rwa [onL_keep _ _ hsz _ (by decide)] at h), fun _ => rfl, fun h => h14 (by rwa [onL_keep _ _ hsz _ (by decide)] at h)⟩
      · intro h; exact hf0 (by rwa [onL_keep _ _ hsz _ (by decide)] at h)
      · intro j hj; rw [onL_keep _ _ hsz _ (by omega)]; exact hins j hj
    | 14, _ =>
      have d13 := dep_of (i := 14) rfl ho hdeps ⟨13, .data⟩ (by simp) rfl
      obtain rfl := h13 d13
      refine wpOp_value (v := .map (some w.heap.size)) (w1 := w') rfl rfl rfl ?_
      refine ⟨by simp [h15], .map (some w.heap.size), t1, t2, t3, t4, t5, t6, t7, .map (some w.heap.size), js, rfl, hjs, ?_, ?_, ?_, fun h => h1 (by rwa [onL_keep _ _ hsz _ (by decide)] at h), fun h => h3 (by rwa [onL_keep _ _ hsz _ (by decide)] at h), fun h => h5 (by rwa [onL_keep _ _ hsz _ (by decide)] at h), fun h => h7 (by rwa [onL_keep _ _ hsz _ (by decide)] at h), fun h => h9 (by rwa [onL_keep _ _ hsz _ (by decide)] at h), fun h => h11 (by rwa [onL_keep _ _ hsz _ (by decide)] at h), fun _ => rfl, fun _ => rfl⟩
      · intro h; exact hf0 (by rwa [onL_keep _ _ hsz _ (by decide)] at h)
      · intro h; exact ht0 (by rwa [onL_keep _ _ hsz _ (by decide)] at h)
      · intro j hj; rw [onL_keep _ _ hsz _ (by omega)]; exact hins j hj
    | n + 15, h => exact absurd h (by simp)
  · intro listed a w' ⟨h15, t0, t1, t2, t3, t4, t5, t6, t7, t8, js, ha, hjs, hf0, ht0, hins, h1, h3, h5, h7, h9, h11, h13, h14⟩ hr
    have l0 := not_ready h15 hr (i := 0) rfl (by simp) (by omega)
    have l1 := not_ready h15 hr (i := 1) rfl (by simp) (by omega)
    have l3 := not_ready h15 hr (i := 3) rfl (by simp) (by omega)
    have l5 := not_ready h15 hr (i := 5) rfl (by simp) (by omega)
    have l7 := not_ready h15 hr (i := 7) rfl (by simp) (by omega)
    have l9 := not_ready h15 hr (i := 9) rfl (by simp) (by omega)
    have l11 := not_ready h15 hr (i := 11) rfl (by simp) (by omega)
    have l2 := not_ready h15 hr (i := 2) rfl (by simp [l0, l1]) (by omega)
    have l4 := not_ready h15 hr (i := 4) rfl (by simp [l0, l3]) (by omega)
    have l6 := not_ready h15 hr (i := 6) rfl (by simp [l0, l5]) (by omega)
    have l8 := not_ready h15 hr (i := 8) rfl (by simp [l0, l7]) (by omega)
    have l10 := not_ready h15 hr (i := 10) rfl (by simp [l0, l9]) (by omega)
    have l12 := not_ready h15 hr (i := 12) rfl (by simp [l0, l11]) (by omega)
    have l13 := not_ready h15 hr (i := 13) rfl (by simp [l0, l1, l2, l3, l4, l5, l6, l7, l8, l9, l10, l11, l12]) (by omega)
    have l14 := not_ready h15 hr (i := 14) rfl (by simp [l0, l1, l2, l3, l4, l5, l6, l7, l8, l9, l10, l11, l12, l13]) (by omega)
    obtain ⟨rfl, rfl⟩ := ht0 l0
    obtain rfl := h14 l14
    subst ha
    have hall : ∀ j, j < 6 → j ∈ js := fun j hj => (hins j hj).1 (by
      rcases six j hj with rfl | rfl | rfl | rfl | rfl | rfl
      · exact l2
      · exact l4
      · exact l6
      · exact l8
      · exact l10
      · exact l12)
    have H1 := Lib.hid hall
    have H2 := Lib.hid hjs
    clear hins h1 h3 h5 h7 h9 h11 h13 h14 hf0 ht0 hall hjs l0 l1 l2 l3 l4 l5 l6 l7 l8 l9 l10 l11 l12 l13 l14 hr h15
    go_wp2
    go_ret
    exact ⟨rfl, js, H2.out, H1.out, rfl⟩
end Go.Proofs.YtgbgjecmamkdaaaDoor
