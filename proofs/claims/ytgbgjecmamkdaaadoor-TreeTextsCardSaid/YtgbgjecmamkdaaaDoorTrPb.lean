/-
  The project's reader: upTo, op, number.
-/
import Derived.Test.YtgbgjecmamkdaaaDoorTrPa
import Derived.Test.YtgbgjecmamkdaaaDoorTrHeld
import Derived.Test.YtgbgjecmamkdaaaDoorLxShelp
import Derived.Lib.SmallJoins
namespace Go.Proofs.YtgbgjecmamkdaaaDoor
open Go.RowKit Go.Maps
set_option linter.unusedVariables false
set_option linter.unusedSimpArgs false
set_option maxRecDepth 100000
set_option maxHeartbeats 1000000

theorem OwnB.set {w : World} {b : Nat} {cs : Array Value} {T : TypeId} (h : OwnB w b cs T) (i : Nat) (v : Value) : OwnB (w.setCell ⟨b, i, none⟩ v) b (cs.setIfInBounds i v) T := ⟨by
  have hb := h.blk
  simp [World.setCell, Array.getElem?_modify, hb]⟩
/-- What a reading needs of the world below B. -/
structure EnvP (w : World) (B : Nat) : Prop where
  env : Env w B
  maxl : ∃ m, w.cell? ⟨6, 0, none⟩ = some (.int .i64 m)
  syn : ∃ ev, w.cell? ⟨2, 0, none⟩ = some ev ∧ (ev = .nilIface ∨ ∃ te pe, ev = .iface te pe)
  rng : ∃ ev, w.cell? ⟨3, 0, none⟩ = some ev ∧ (ev = .nilIface ∨ ∃ te pe, ev = .iface te pe)
  l1 : 6 < B
  l2 : 2 < B
  l3 : 3 < B
theorem EnvP.low {w W : World} {B : Nat} (h : EnvP w B) (hb : Below B w W) : EnvP W B := by
  obtain ⟨m, hm⟩ := h.maxl
  obtain ⟨e1, h1, h1'⟩ := h.syn
  obtain ⟨e2, h2, h2'⟩ := h.rng
  exact ⟨h.env.low hb, ⟨m, (hb.cell h.l1).trans hm⟩, ⟨e1, (hb.cell h.l2).trans h1, h1'⟩, ⟨e2, (hb.cell h.l3).trans h2, h2'⟩, h.l1, h.l2, h.l3⟩
theorem EnvP.mono {w : World} {B B' : Nat} (h : EnvP w B) (hB : B ≤ B') : EnvP w B' :=
  ⟨h.env.mono hB, h.maxl, h.syn, h.rng, Nat.lt_of_lt_of_le h.l1 hB, Nat.lt_of_lt_of_le h.l2 hB, Nat.lt_of_lt_of_le h.l3 hB⟩
theorem keeps_low {g B : Nat} {w W : World} (h : Keeps [g] w W) (hg : B ≤ g) (hB : B ≤ w.heap.size) : Below B w W :=
  ⟨h.os, h.tape, h.output, h.size, fun k hk => h.block k (by omega) (by simp; omega)⟩
/-- The project's reader lies in block g: what is left to read, how many nodes may come, its map. -/
structure Rd (w : World) (g mb : Nat) (rest : List UInt8) (room : Int) : Prop where
  own : OwnB w g #[.string ⟨rest.toArray⟩, .int .i64 room, .map (some mb)] 74
  map : OpMap w mb 36
theorem Rd.ne {w : World} {g mb : Nat} {rest : List UInt8} {room : Int} (h : Rd w g mb rest room) : mb ≠ g := by
  rintro rfl
  obtain ⟨n, D, _, ⟨es, c, hb, _⟩, _⟩ := h.map
  have := h.own.blk
  rw [this] at hb
  cases hb
theorem Rd.keep {w W : World} {g mb : Nat} {rest : List UInt8} {room : Int} (h : Rd w g mb rest room) (hb : Below w.heap.size w W) : Rd W g mb rest room :=
  ⟨OwnB.call (G := []) h.own (Keeps.of_below hb) (by simp), h.map.keep (hb.block _ h.map.lt)⟩
/-- What a reading call does. -/
structure Reads (w w' : World) (g mb : Nat) (rest : List UInt8) (room : Int) : Prop where
  rd : Rd w' g mb rest room
  kp : Keeps [g] w w'
theorem Reads.trans {w w1 w2 : World} {g mb : Nat} {r1 r2 : List UInt8} {m1 m2 : Int} (h : Reads w w1 g mb r1 m1) (k : Reads w1 w2 g mb r2 m2) : Reads w w2 g mb r2 m2 := ⟨k.rd, h.kp.trans k.kp⟩
theorem Reads.below {w w1 w2 : World} {g mb : Nat} {r1 : List UInt8} {m1 : Int} (h : Reads w w1 g mb r1 m1) (hb : Below w1.heap.size w1 w2) : Reads w w2 g mb r1 m1 := ⟨h.rd.keep hb, h.kp.trans (Keeps.of_below hb)⟩
theorem keeps_drewN (w : World) (n : Nat) : Below w.heap.size w (w.drewN n) := ⟨rfl, rfl, rfl, Nat.le_refl _, fun _ _ => rfl⟩
theorem upTo_any (w : World) (g mb B : Nat) (rest sep : List UInt8) (room : Int) (hR : Rd w g mb rest room) (hE : EnvP w B) (hlen : rest.length < 4294967281) (hB : B ≤ g) :
    Calls Tryd.prog 68 #[.pointer (some ⟨g, 0, none⟩), .string ⟨sep.toArray⟩] w fun e w' => e = .returned (.string ⟨(Lib.cut rest sep).1.toArray⟩) ∧ Reads w w' g mb (Lib.cut rest sep).2.1 room := by
  obtain ⟨m, hm⟩ := hE.maxl
  have C := Lib.hid (Tryd.strings_Cut ⟨rest.toArray⟩ ⟨sep.toArray⟩ m w (by simpa [ByteArray.size] using hlen) hm)
  obtain ⟨y0, x0, z0⟩ := hR.own.facts
  have HR := Lib.hid hR
  clear hR hE hm
  go_enter Tryd.func68, Tryd.ntmps68
  go_wp2_with fail
  refine C.out.mono ?_
  rintro e w1 ⟨rfl, n, rfl⟩
  have O1 : OwnB (w.drewN n) g #[.string ⟨rest.toArray⟩, .int .i64 room, .map (some mb)] 74 := HR.out.own.drewN n
  obtain ⟨y1, x1, z1⟩ := O1.facts
  have HO := Lib.hid O1
  clear O1
  go_wp2_with fail
  go_ret
  refine ⟨rfl, ⟨?_, HR.out.map.keep ?_⟩, ?_⟩
  · exact HO.out.set 0 _
  · exact Below.heap_setCell _ _ _ _ HR.out.ne
  · exact (Keeps.of_below (keeps_drewN w n)).trans (Keeps.au (G := [g]))
/-- The word that is read next, and its op. -/
def wordR (rest : List UInt8) : List UInt8 := (Lib.cut rest [40]).1
def opR (rest : List UInt8) (room : Int) : Int := if opK 36 (mark7 (wordR rest)) = 0 ∨ room = 0 then 0 else opK 36 (mark7 (wordR rest))
theorem Reads.drew0 {w w' : World} {g mb : Nat} {r : List UInt8} {m : Int} (h : Reads w.drew w' g mb r m) : Reads w w' g mb r m := ⟨h.rd, ⟨h.kp.os, h.kp.tape, h.kp.output, h.kp.size, h.kp.block⟩⟩
theorem look_run {mb : Nat} (m : List UInt8) : ∀ W, OpMap W mb 36 → (Instr.lookup 71 (.map (some mb)) (.agg (markC m)) false).run Tryd.prog W = .ok (.int .i64 (opK 36 (mark7 m))) W := by
  rintro W ⟨n, D, _, hown, hD⟩
  obtain ⟨c, hrun, hat, _⟩ := hown.lookup_int labelLaw Tryd.underlying71 Tryd.underlying3 (zeroInt _) (keyOf7 m)
  rw [hD] at hat
  have : opK 36 (mark7 m) = c := by injection hat with h; injection h
  rw [this]
  exact hrun
theorem op_any (w : World) (g mb B : Nat) (rest : List UInt8) (room : Int) (hR : Rd w g mb rest room) (hE : EnvP w B) (hlen : rest.length < 4294967281) (hB : B ≤ g) (hr0 : 0 ≤ room) (hr1 : room ≤ 200) :
    Calls Tryd.prog 51 #[.pointer (some ⟨g, 0, none⟩)] w fun e w' => e = .returned (.int .i64 (opR rest room)) ∧ Reads w w' g mb (Lib.cut rest [40]).2.1 (if opR rest room = 0 then room else room - 1) := by
  have CU := Lib.hid (upTo_any w.drew g mb B rest [40] room ⟨hR.own.drew, hR.map⟩ ⟨hE.env.low (Below.refl _ _).drew, hE.maxl, hE.syn, hE.rng, hE.l1, hE.l2, hE.l3⟩ hlen hB)
  have hbd := opK_bd 36 (mark7 (wordR rest))
  obtain ⟨y0, x0, z0⟩ := hR.own.facts
  have HR := Lib.hid hR
  clear hR hE
  have HL := Lib.hid (look_run (mb := mb) (wordR rest))
  have hcase : ((opK 36 (mark7 (wordR rest)) == 0) = true ∧ opR rest room = 0) ∨ ((opK 36 (mark7 (wordR rest)) == 0) = false ∧ (room == 0) = true ∧ opR rest room = 0) ∨ ((opK 36 (mark7 (wordR rest)) == 0) = false ∧ (room == 0) = false ∧ opR rest room = opK 36 (mark7 (wordR rest)) ∧ 1 ≤ room ∧ opR rest room ≠ 0) := by
    unfold opR
    by_cases h0 : opK 36 (mark7 (wordR rest)) = 0
    · exact .inl ⟨by simp [h0], if_pos (.inl h0)⟩
    · by_cases h1 : room = 0
      · exact .inr (.inl ⟨by simp [h0], by simp [h1], if_pos (.inr h1)⟩)
      · have : ¬ (opK 36 (mark7 (wordR rest)) = 0 ∨ room = 0) := fun h => h.elim h0 h1
        exact .inr (.inr ⟨by simp [h0], by simp [h1], if_neg this, by omega, by rw [if_neg this]; exact h0⟩)
  generalize opK 36 (mark7 (wordR rest)) = o at *
  rcases hcase with ⟨c1, c2⟩ | ⟨c1, c2, c3⟩ | ⟨c1, c2, c3, c4, c5⟩
  · rw [c2, if_pos rfl]
    clear c2
    go_enter Tryd.func51, Tryd.ntmps51
    go_wp2_with fail
    refine wpH_start (fun w' => w'.cell? ⟨g, 2, none⟩ = some (.map (some mb)) ∧ OpMap w' mb 36) (by kernel_rfl) ⟨by go_simp, HR.out.map⟩ (fun hHeld => ?_)
    refine wpH_take 0 (v := ?_) (by kernel_rfl) (by kernel_rfl) (by kernel_rfl) rfl (fun _ _ _ h => h) (Or.inl ⟨by rfl, ?_⟩) hHeld ?_
    rotate_left
    · (intro w' hSw; obtain ⟨s0, s1⟩ := hSw; go_simp; try with_reducible rfl)
    try simp only [Act.put, List.setIfInBounds_toArray, List.set_cons_zero, List.set_cons_succ]
    refine wpH_take 1 (v := ?_) (by kernel_rfl) (by kernel_rfl) (by kernel_rfl) rfl (fun _ _ _ h => h) (Or.inl ⟨by rfl, ?_⟩) hHeld ?_
    rotate_left
    · (intro w' hSw; obtain ⟨s0, s1⟩ := hSw; go_simp; try with_reducible rfl)
    try simp only [Act.put, List.setIfInBounds_toArray, List.set_cons_zero, List.set_cons_succ]
    refine wpH_take 2 (v := ?_) (by kernel_rfl) (by kernel_rfl) (by kernel_rfl) rfl (fun _ _ _ h => h) (Or.inl ⟨by rfl, ?_⟩) hHeld ?_
    rotate_left
    · (intro w' hSw; obtain ⟨s0, s1⟩ := hSw; go_simp; try with_reducible rfl)
    try simp only [Act.put, List.setIfInBounds_toArray, List.set_cons_zero, List.set_cons_succ]
    refine wpH_take 3 (v := ?_) (by kernel_rfl) (by kernel_rfl) (by kernel_rfl) rfl (fun _ _ _ h => h) (Or.inl ⟨by rfl, ?_⟩) hHeld ?_
    rotate_left
    · (intro w' hSw; obtain ⟨s0, s1⟩ := hSw; go_simp; try with_reducible rfl)
    try simp only [Act.put, List.setIfInBounds_toArray, List.set_cons_zero, List.set_cons_succ]
    refine wpH_take 4 (v := ?_) (by kernel_rfl) (by kernel_rfl) (by kernel_rfl) rfl (fun _ _ _ h => h) (Or.inl ⟨by rfl, ?_⟩) hHeld ?_
    rotate_left
    · (intro w' hSw; obtain ⟨s0, s1⟩ := hSw; go_simp; try with_reducible rfl)
    try simp only [Act.put, List.setIfInBounds_toArray, List.set_cons_zero, List.set_cons_succ]
    refine wpH_one 5 (by kernel_rfl) rfl (fun K hKo => ?_)
    go_simp
    refine CU.out.mono ?_
    rintro e w1 ⟨rfl, hR1⟩
    have HR1 := Lib.hid hR1
    replace hHeld : w1.cell? ⟨g, 2, none⟩ = some (.map (some mb)) ∧ OpMap w1 mb 36 := ⟨hR1.rd.own.facts.1 2, hR1.rd.map⟩
    clear hR1
    refine Shut.out hKo _ _ hHeld ?_
    clear hKo K
    try simp only [Act.put, List.setIfInBounds_toArray, List.set_cons_zero, List.set_cons_succ]
    refine wpH_one 6 (by kernel_rfl) rfl (fun K hKo => ?_)
    go_simp
    refine (label_any _ _).mono ?_
    rintro e w2 ⟨rfl, hb2⟩
    have HR2 := Lib.hid (HR1.out.below hb2)
    replace hHeld : w2.cell? ⟨g, 2, none⟩ = some (.map (some mb)) ∧ OpMap w2 mb 36 := ⟨HR2.out.rd.own.facts.1 2, HR2.out.rd.map⟩
    clear hb2
    refine Shut.out hKo _ _ hHeld ?_
    clear hKo K
    try simp only [Act.put, List.setIfInBounds_toArray, List.set_cons_zero, List.set_cons_succ]
    refine wpH_take 7 (v := .int .i64 o) (by kernel_rfl) (by kernel_rfl) (by kernel_rfl) rfl (fun _ _ _ h => h) (Or.inl ⟨by rfl, ?_⟩) hHeld ?_
    · intro w' hSw
      have hl := HL.out w' hSw.2
      unfold wordR at hl
      go_simp
    try simp only [Act.put, List.setIfInBounds_toArray, List.set_cons_zero, List.set_cons_succ]
    refine wpH_take 8 (v := ?_) (by kernel_rfl) (by kernel_rfl) (by kernel_rfl) rfl (fun _ _ _ h => h) (Or.inl ⟨by rfl, ?_⟩) hHeld ?_
    rotate_left
    · (intro w' hSw; obtain ⟨s0, s1⟩ := hSw; go_simp; try with_reducible rfl)
    try simp only [Act.put, List.setIfInBounds_toArray, List.set_cons_zero, List.set_cons_succ]
    refine wpAnyH_done (by kernel_rfl) ?_ _
    obtain ⟨y2, x2, z2⟩ := HR2.out.rd.own.facts
    clear hHeld y0 x0 z0
    go_wp2_with fail
    go_ret
    exact ⟨rfl, (Reads.drew0 HR2.out)⟩
  · rw [c3, if_pos rfl]
    clear c3
    go_enter Tryd.func51, Tryd.ntmps51
    go_wp2_with fail
    refine wpH_start (fun w' => w'.cell? ⟨g, 2, none⟩ = some (.map (some mb)) ∧ OpMap w' mb 36) (by kernel_rfl) ⟨by go_simp, HR.out.map⟩ (fun hHeld => ?_)
    refine wpH_take 0 (v := ?_) (by kernel_rfl) (by kernel_rfl) (by kernel_rfl) rfl (fun _ _ _ h => h) (Or.inl ⟨by rfl, ?_⟩) hHeld ?_
    rotate_left
    · (intro w' hSw; obtain ⟨s0, s1⟩ := hSw; go_simp; try with_reducible rfl)
    try simp only [Act.put, List.setIfInBounds_toArray, List.set_cons_zero, List.set_cons_succ]
    refine wpH_take 1 (v := ?_) (by kernel_rfl) (by kernel_rfl) (by kernel_rfl) rfl (fun _ _ _ h => h) (Or.inl ⟨by rfl, ?_⟩) hHeld ?_
    rotate_left
    · (intro w' hSw; obtain ⟨s0, s1⟩ := hSw; go_simp; try with_reducible rfl)
    try simp only [Act.put, List.setIfInBounds_toArray, List.set_cons_zero, List.set_cons_succ]
    refine wpH_take 2 (v := ?_) (by kernel_rfl) (by kernel_rfl) (by kernel_rfl) rfl (fun _ _ _ h => h) (Or.inl ⟨by rfl, ?_⟩) hHeld ?_
    rotate_left
    · (intro w' hSw; obtain ⟨s0, s1⟩ := hSw; go_simp; try with_reducible rfl)
    try simp only [Act.put, List.setIfInBounds_toArray, List.set_cons_zero, List.set_cons_succ]
    refine wpH_take 3 (v := ?_) (by kernel_rfl) (by kernel_rfl) (by kernel_rfl) rfl (fun _ _ _ h => h) (Or.inl ⟨by rfl, ?_⟩) hHeld ?_
    rotate_left
    · (intro w' hSw; obtain ⟨s0, s1⟩ := hSw; go_simp; try with_reducible rfl)
    try simp only [Act.put, List.setIfInBounds_toArray, List.set_cons_zero, List.set_cons_succ]
    refine wpH_take 4 (v := ?_) (by kernel_rfl) (by kernel_rfl) (by kernel_rfl) rfl (fun _ _ _ h => h) (Or.inl ⟨by rfl, ?_⟩) hHeld ?_
    rotate_left
    · (intro w' hSw; obtain ⟨s0, s1⟩ := hSw; go_simp; try with_reducible rfl)
    try simp only [Act.put, List.setIfInBounds_toArray, List.set_cons_zero, List.set_cons_succ]
    refine wpH_one 5 (by kernel_rfl) rfl (fun K hKo => ?_)
    go_simp
    refine CU.out.mono ?_
    rintro e w1 ⟨rfl, hR1⟩
    have HR1 := Lib.hid hR1
    replace hHeld : w1.cell? ⟨g, 2, none⟩ = some (.map (some mb)) ∧ OpMap w1 mb 36 := ⟨hR1.rd.own.facts.1 2, hR1.rd.map⟩
    clear hR1
    refine Shut.out hKo _ _ hHeld ?_
    clear hKo K
    try simp only [Act.put, List.setIfInBounds_toArray, List.set_cons_zero, List.set_cons_succ]
    refine wpH_one 6 (by kernel_rfl) rfl (fun K hKo => ?_)
    go_simp
    refine (label_any _ _).mono ?_
    rintro e w2 ⟨rfl, hb2⟩
    have HR2 := Lib.hid (HR1.out.below hb2)
    replace hHeld : w2.cell? ⟨g, 2, none⟩ = some (.map (some mb)) ∧ OpMap w2 mb 36 := ⟨HR2.out.rd.own.facts.1 2, HR2.out.rd.map⟩
    clear hb2
    refine Shut.out hKo _ _ hHeld ?_
    clear hKo K
    try simp only [Act.put, List.setIfInBounds_toArray, List.set_cons_zero, List.set_cons_succ]
    refine wpH_take 7 (v := .int .i64 o) (by kernel_rfl) (by kernel_rfl) (by kernel_rfl) rfl (fun _ _ _ h => h) (Or.inl ⟨by rfl, ?_⟩) hHeld ?_
    · intro w' hSw
      have hl := HL.out w' hSw.2
      unfold wordR at hl
      go_simp
    try simp only [Act.put, List.setIfInBounds_toArray, List.set_cons_zero, List.set_cons_succ]
    refine wpH_take 8 (v := ?_) (by kernel_rfl) (by kernel_rfl) (by kernel_rfl) rfl (fun _ _ _ h => h) (Or.inl ⟨by rfl, ?_⟩) hHeld ?_
    rotate_left
    · (intro w' hSw; obtain ⟨s0, s1⟩ := hSw; go_simp; try with_reducible rfl)
    try simp only [Act.put, List.setIfInBounds_toArray, List.set_cons_zero, List.set_cons_succ]
    refine wpAnyH_done (by kernel_rfl) ?_ _
    obtain ⟨y2, x2, z2⟩ := HR2.out.rd.own.facts
    clear hHeld y0 x0 z0
    go_wp2_with fail
    go_ret
    exact ⟨rfl, (Reads.drew0 HR2.out)⟩
  · rw [if_neg c5, c3]
    clear c3 c5
    go_enter Tryd.func51, Tryd.ntmps51
    go_wp2_with fail
    refine wpH_start (fun w' => w'.cell? ⟨g, 2, none⟩ = some (.map (some mb)) ∧ OpMap w' mb 36) (by kernel_rfl) ⟨by go_simp, HR.out.map⟩ (fun hHeld => ?_)
    refine wpH_take 0 (v := ?_) (by kernel_rfl) (by kernel_rfl) (by kernel_rfl) rfl (fun _ _ _ h => h) (Or.inl ⟨by rfl, ?_⟩) hHeld ?_
    rotate_left
    · (intro w' hSw; obtain ⟨s0, s1⟩ := hSw; go_simp; try with_reducible rfl)
    try simp only [Act.put, List.setIfInBounds_toArray, List.set_cons_zero, List.set_cons_succ]
    refine wpH_take 1 (v := ?_) (by kernel_rfl) (by kernel_rfl) (by kernel_rfl) rfl (fun _ _ _ h => h) (Or.inl ⟨by rfl, ?_⟩) hHeld ?_
    rotate_left
    · (intro w' hSw; obtain ⟨s0, s1⟩ := hSw; go_simp; try with_reducible rfl)
    try simp only [Act.put, List.setIfInBounds_toArray, List.set_cons_zero, List.set_cons_succ]
    refine wpH_take 2 (v := ?_) (by kernel_rfl) (by kernel_rfl) (by kernel_rfl) rfl (fun _ _ _ h => h) (Or.inl ⟨by rfl, ?_⟩) hHeld ?_
    rotate_left
    · (intro w' hSw; obtain ⟨s0, s1⟩ := hSw; go_simp; try with_reducible rfl)
    try simp only [Act.put, List.setIfInBounds_toArray, List.set_cons_zero, List.set_cons_succ]
    refine wpH_take 3 (v := ?_) (by kernel_rfl) (by kernel_rfl) (by kernel_rfl) rfl (fun _ _ _ h => h) (Or.inl ⟨by rfl, ?_⟩) hHeld ?_
    rotate_left
    · (intro w' hSw; obtain ⟨s0, s1⟩ := hSw; go_simp; try with_reducible rfl)
    try simp only [Act.put, List.setIfInBounds_toArray, List.set_cons_zero, List.set_cons_succ]
    refine wpH_take 4 (v := ?_) (by kernel_rfl) (by kernel_rfl) (by kernel_rfl) rfl (fun _ _ _ h => h) (Or.inl ⟨by rfl, ?_⟩) hHeld ?_
    rotate_left
    · (intro w' hSw; obtain ⟨s0, s1⟩ := hSw; go_simp; try with_reducible rfl)
    try simp only [Act.put, List.setIfInBounds_toArray, List.set_cons_zero, List.set_cons_succ]
    refine wpH_one 5 (by kernel_rfl) rfl (fun K hKo => ?_)
    go_simp
    refine CU.out.mono ?_
    rintro e w1 ⟨rfl, hR1⟩
    have HR1 := Lib.hid hR1
    replace hHeld : w1.cell? ⟨g, 2, none⟩ = some (.map (some mb)) ∧ OpMap w1 mb 36 := ⟨hR1.rd.own.facts.1 2, hR1.rd.map⟩
    clear hR1
    refine Shut.out hKo _ _ hHeld ?_
    clear hKo K
    try simp only [Act.put, List.setIfInBounds_toArray, List.set_cons_zero, List.set_cons_succ]
    refine wpH_one 6 (by kernel_rfl) rfl (fun K hKo => ?_)
    go_simp
    refine (label_any _ _).mono ?_
    rintro e w2 ⟨rfl, hb2⟩
    have HR2 := Lib.hid (HR1.out.below hb2)
    replace hHeld : w2.cell? ⟨g, 2, none⟩ = some (.map (some mb)) ∧ OpMap w2 mb 36 := ⟨HR2.out.rd.own.facts.1 2, HR2.out.rd.map⟩
    clear hb2
    refine Shut.out hKo _ _ hHeld ?_
    clear hKo K
    try simp only [Act.put, List.setIfInBounds_toArray, List.set_cons_zero, List.set_cons_succ]
    refine wpH_take 7 (v := .int .i64 o) (by kernel_rfl) (by kernel_rfl) (by kernel_rfl) rfl (fun _ _ _ h => h) (Or.inl ⟨by rfl, ?_⟩) hHeld ?_
    · intro w' hSw
      have hl := HL.out w' hSw.2
      unfold wordR at hl
      go_simp
    try simp only [Act.put, List.setIfInBounds_toArray, List.set_cons_zero, List.set_cons_succ]
    refine wpH_take 8 (v := ?_) (by kernel_rfl) (by kernel_rfl) (by kernel_rfl) rfl (fun _ _ _ h => h) (Or.inl ⟨by rfl, ?_⟩) hHeld ?_
    rotate_left
    · (intro w' hSw; obtain ⟨s0, s1⟩ := hSw; go_simp; try with_reducible rfl)
    try simp only [Act.put, List.setIfInBounds_toArray, List.set_cons_zero, List.set_cons_succ]
    refine wpAnyH_done (by kernel_rfl) ?_ _
    obtain ⟨y2, x2, z2⟩ := HR2.out.rd.own.facts
    clear hHeld y0 x0 z0
    go_wp2_with fail
    go_ret
    refine ⟨rfl, ⟨HR2.out.rd.own.set 1 _, HR2.out.rd.map.keep (Below.heap_setCell _ _ _ _ HR2.out.rd.ne)⟩, ?_⟩
    exact (Reads.drew0 HR2.out).kp.trans (Keeps.au (G := [g]))
/-- A number that is read: some number; of a number's digits that one. -/
theorem parseInt_any (w : World) (B : Nat) (hE : EnvP w B) (s : List UInt8) (hlen : s.length ≤ 281474976710656) :
    Calls Tryd.prog 69 #[.string ⟨s.toArray⟩, .int .i64 10, .int .i64 64] w fun e w' => ∃ n ev, e = .returned (.tuple #[.int .i64 n, ev]) ∧ I64 n ∧ (∀ v, I64 v → s = Lib.itoa v → n = v) ∧ Below w.heap.size w w' := by
  have hs : (⟨s.toArray⟩ : ByteArray).size = s.length := by simp [ByteArray.size]
  rcases hp : Lib.parseIntB 64 s with v | _ | _
  · refine (Tryd.strconv_ParseInt_10_at64_ok ⟨s.toArray⟩ (by rw [hs]; omega) v hp w).mono ?_
    rintro e w' ⟨rfl, hw⟩
    have hb := Lib.parseIntB_bounds hp
    refine ⟨v, _, rfl, ⟨by omega, by omega⟩, fun u hu h => ?_, ?_⟩
    · rw [h, parse_itoa u hu.1 hu.2] at hp
      injection hp with hp
      exact hp.symm
    · rcases hw with rfl | ⟨t, rfl⟩
      · exact Below.refl _ _
      · exact Joins.below_bytesWorld _ _ _ _ (Nat.le_refl _)
  · obtain ⟨ev, h1, h2⟩ := hE.syn
    refine (Tryd.strconv_ParseInt_10_at64_syntax ⟨s.toArray⟩ (by rw [hs]; omega) (fun v h => by have h3 := hp.symm.trans (show Lib.parseIntB 64 s = .ok v from h); cases h3) (fun h => by have h3 := hp.symm.trans (show Lib.parseIntB 64 s = .range from h); cases h3) ev w h1 h2).mono ?_
    rintro e w' ⟨N, rfl, _, _, hb⟩
    refine ⟨0, _, rfl, ⟨by decide, by decide⟩, fun u hu h => ?_, hb⟩
    rw [h, parse_itoa u hu.1 hu.2] at hp
    cases hp
  · obtain ⟨ev, h1, h2⟩ := hE.rng
    refine (Tryd.strconv_ParseInt_10_at64_range ⟨s.toArray⟩ (by rw [hs]; omega) hp ev w h1 h2).mono ?_
    rintro e w' ⟨N, rfl, _, _, hb⟩
    refine ⟨_, _, rfl, ?_, fun u hu h => ?_, hb⟩
    · unfold Lib.intSat
      split <;> exact ⟨by decide, by decide⟩
    · rw [h, parse_itoa u hu.1 hu.2] at hp
      cases hp
def NumPost (w : World) (g mb : Nat) (rest : List UInt8) (room : Int) (e : Ending) (w' : World) : Prop :=
  ∃ n, e = .returned (.int .i64 n) ∧ I64 n ∧ (∀ v, I64 v → (Lib.cut rest [41]).1 = Lib.itoa v → n = v) ∧ Reads w w' g mb (Lib.cut rest [41]).2.1 room
theorem number_any (w : World) (g mb B : Nat) (rest : List UInt8) (room : Int) (hR : Rd w g mb rest room) (hE : EnvP w B) (hlen : rest.length < 4294967281) (hB : B ≤ g) (hBw : B ≤ w.heap.size) :
    Calls Tryd.prog 52 #[.pointer (some ⟨g, 0, none⟩)] w (NumPost w g mb rest room) := by
  have CU := Lib.hid (upTo_any w g mb B rest [41] room hR hE hlen hB)
  have HE := Lib.hid hE
  have HC := Lib.hid (cut_len rest [41])
  clear hR hE
  go_enter Tryd.func52, Tryd.ntmps52
  go_wp2_with fail
  refine CU.out.mono ?_
  rintro e w1 ⟨rfl, hR1⟩
  have HR1 := Lib.hid hR1
  have CI := Lib.hid (parseInt_any w1 B (HE.out.low (keeps_low hR1.kp hB hBw)) (Lib.cut rest [41]).1 (by have := HC.out.1; omega))
  clear hR1
  go_wp2_with fail
  refine CI.out.mono ?_
  rintro e w2 ⟨n, ev, rfl, hn, hv, hb⟩
  have HN := Lib.hid hn
  have HV := Lib.hid hv
  have HB := Lib.hid hb
  clear hn hv hb
  go_wp2_with fail
  go_ret
  exact ⟨n, rfl, HN.out, HV.out, HR1.out.below HB.out⟩
end Go.Proofs.YtgbgjecmamkdaaaDoor
