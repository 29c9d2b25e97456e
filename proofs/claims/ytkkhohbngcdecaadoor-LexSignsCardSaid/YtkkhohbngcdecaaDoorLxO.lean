/-
  'LexSigns', walked.
-/
import Derived.Test.YtkkhohbngcdecaaDoorLxL
import Derived.Test.YtkkhohbngcdecaaDoorLxJ
import Derived.Deep.RegionHeld3
namespace Go.Proofs.YtkkhohbngcdecaaDoor
open Go.ChangeShapes Go.WideShapes Go.ChangeAt Go.RowKit Go.Deep Go.Maps
set_option linter.unusedVariables false
theorem own_far' {w : World} {base : Nat} {e : TypeId} {size : Nat} {v : Value} {n : Nat} {xs : List Value} (h : w.ownsRow base e size v n xs) {a : Addr} (hne : v.ownBlock ≠ some a.block) (u : Value) : (w.setCell a u).ownsRow base e size v n xs :=
  h.kept (row := some a.block) ⟨rfl, rfl, rfl, by simp [World.setCell], fun k _ hk => Below.heap_setCell w a u k (fun e => hk (by rw [e]))⟩ (.inr hne)
theorem tab_below' {w w' : World} (h : Lib.TabIs Tryd.prog w "strings.asciiSpace" .u8 Lib.asciiSpaceTab) (hb : Below w.heap.size w w') : Lib.TabIs Tryd.prog w' "strings.asciiSpace" .u8 Lib.asciiSpaceTab :=
  Joins.tab_stays (g := 0) (by kernel_rfl) h hb (Nat.le_refl _)
theorem TokRes.form {w : World} {l : List Tok} {e : Ending} {w' : World} (h : TokRes w (.ok l) e w') : ∃ v, e = .returned (.tuple #[v, .agg #[.int .i64 0, .int .i64 0]]) ∧ w'.ownsRow w.heap.size 34 4 v l.length (toksC l) ∧ Below w.heap.size w w' := h
def sixty : List (List UInt8) := signsL ++ wordsL ++ [[86, 111, 105, 100], [95], [120, 49]]
def kd (t : List UInt8) : Int := if isLet (t.headD 0) then (if isWord t then 4 else 1) else 3
theorem sixty_lex : ∀ t ∈ sixty, lexR t = .ok [⟨kd t, t, 0, 0⟩, ⟨0, [], 0, t.length⟩] := by decide +kernel
theorem sixty_length : sixty.length = 65 := by decide
theorem sixty_len : ∀ t ∈ sixty, t.length ≤ 10 := by decide +kernel
theorem within_any (n : Nat) (w : World) (hn : n ≤ 9223372036854775807) : Calls Tryd.prog 12 #[.int .i64 n, .int .i64 65] w fun e w' => e = .returned (.int .i64 ((n % 65 : Nat) : Int)) ∧ w = w' := by
  go_enter Tryd.func12, Tryd.ntmps12
  go_wp2
  go_ret
  refine ⟨ret_int ?_, rfl⟩
  omega
set_option maxRecDepth 100000 in
set_option maxHeartbeats 1000000 in
theorem lexSigns_len (w : World) (A : Option Addr) (n c : Nat) (hn : n ≤ 9223372036854775807) (htab : Lib.TabIs Tryd.prog w "strings.asciiSpace" .u8 Lib.asciiSpaceTab) :
    Calls Tryd.prog 5 #[.slice A n c] w fun e w' => e = .returned (.bool true) ∧ Below w.heap.size w w' := by
  have HT := Lib.hid htab
  clear htab
  have CWi := fun W => Lib.hid (within_any n W hn)
  obtain ⟨q, hq⟩ : ∃ q, q = n % 65 := ⟨_, rfl⟩
  have hq65 : q < 65 := by omega
  rw [← hq] at CWi
  clear hq
  obtain ⟨u, hu⟩ : ∃ u, sixty[q]? = some u := ⟨_, List.getElem?_eq_getElem (by rw [sixty_length]; omega)⟩
  have HU := Lib.hid hu
  have hul := sixty_len u (List.mem_of_getElem? hu)
  clear hu
  go_enter Tryd.func5, Tryd.ntmps5
  go_wp2_with fail
  obtain ⟨w1, hw1⟩ : ∃ w1 : World, w1 = w.alloc (.cells (sixty.map fun l => Value.string ⟨l.toArray⟩).toArray 9) := ⟨_, rfl⟩
  have htx : Texts w1 w.heap.size sixty := by rw [hw1]; exact texts_new _ _ _
  have hb1 : Below w.heap.size w w1 := by rw [hw1]; exact (Below.refl _ _).alloc (Nat.le_refl _) _
  have hs1 : w.heap.size < w1.heap.size := by rw [hw1]; simp
  have HTX := Lib.hid htx
  have HB1 := Lib.hid hb1
  refine (CWi _).out.mono ?_
  rintro e w' ⟨rfl, hw'⟩
  have e1 : w' = w1 := by rw [← hw', hw1]; rfl
  subst e1
  clear hw' hw1 htx hb1
  go_wp2_with fail
  go_loopw [5, 6, 7, 8, 9, 10, 11] (fun i _ _ _ _ _ _ wr => ∃ k : Nat, k ≤ 65 ∧ i = .int .i64 k ∧ Below w'.heap.size w' wr) (fun i _ _ _ _ _ _ _ => 65 - (intOf i).toNat)
  case atStart => exact ⟨0, by omega, rfl, Below.refl _ _⟩
  case round =>
    obtain ⟨k, hk, rfl, hbel⟩ := hrel
    have HB := Lib.hid hbel
    clear hbel
    by_cases hlt : k < 65
    · obtain ⟨t, ht⟩ : ∃ t, sixty[k]? = some t := ⟨_, List.getElem?_eq_getElem (by rw [sixty_length]; omega)⟩
      have hcell : wr.cell? ⟨w.heap.size, k, none⟩ = some (.string ⟨t.toArray⟩) := (HB.out.cell hs1).trans (HTX.out k t ht)
      have htl := sixty_len t (List.mem_of_getElem? ht)
      have hd : decide ((k : Int) < 65) = true := by simp; omega
      have cl := lexTokens_any ⟨t.toArray⟩ wr (by show t.toArray.size ≤ _; rw [List.size_toArray]; unfold maxLen; omega) (tab_below' HT.out (HB1.out.trans (HB.out.mono HB1.out.size)))
      have e2 : lexR (ByteArray.mk t.toArray).data.toList = .ok [⟨kd t, t, 0, 0⟩, ⟨0, [], 0, t.length⟩] := sixty_lex t (List.mem_of_getElem? ht)
      rw [e2] at cl
      have CL := Lib.hid cl
      clear cl e2 ht
      go_wp2_with fail
      refine CL.out.mono ?_
      rintro e w2 hres
      obtain ⟨v, rfl, hown, hb⟩ := hres.form
      clear hres
      obtain ⟨g, cap, rfl, hg, hbg, hcells⟩ := own_cells (n := 2) hown (by omega)
      have d1 := hcells 1 _ rfl
      have d7 := hcells 7 _ rfl
      have hc2 : w2.cell? ⟨w.heap.size, k, none⟩ = some (.string ⟨t.toArray⟩) := (hb.cell (by have := HB.out.size; show w.heap.size < _; omega)).trans hcell
      have HB2 := Lib.hid (HB.out.trans (hb.mono HB.out.size))
      clear hown hb hcells
      have hwr : w'.heap.size ≤ wr.heap.size := HB.out.size
      have hs2 : w.heap.size < w2.heap.size := by have := HB2.out.size; omega
      have hk0 : (0 : Int) ≤ (k : Int) := by omega
      have hk65 : (k : Int) < 65 := by omega
      go_wp2_with fail
      go_quiet (fail)
      go_wp2_with fail
      have hB2q : Below w'.heap.size w' ((w2.alloc (.cells #[.int .i64 0, .int .i64 0] 26)).drewN nq) := below_drewN (HB2.out.alloc HB2.out.size _) nq
      have HB2q := Lib.hid hB2q
      have hk2 : ((w2.alloc (.cells #[.int .i64 0, .int .i64 0] 26)).drewN nq).cell? ⟨w.heap.size, k, none⟩ = some (.string ⟨t.toArray⟩) := (World.cell?_alloc_lt _ _ _ hs2).trans hc2
      have hq2 : ((w2.alloc (.cells #[.int .i64 0, .int .i64 0] 26)).drewN nq).cell? ⟨w.heap.size, q, none⟩ = some (.string ⟨u.toArray⟩) := (hB2q.cell hs1).trans (HTX.out q u HU.out)
      clear hB2q
      obtain ⟨W3, hW3⟩ : ∃ W3, W3 = (w2.alloc (.cells #[.int .i64 0, .int .i64 0] 26)).drewN nq := ⟨_, rfl⟩
      rw [← hW3] at hk2 hq2 HB2q ⊢
      have hs3 : w.heap.size < W3.heap.size := by have := HB2q.out.size; omega
      have hne3 : ¬ W3.heap.size = w.heap.size := by omega
      have hne4 : ¬ w.heap.size = W3.heap.size := by omega
      have hq0 : (0 : Int) ≤ (q : Int) := by omega
      have hq65' : (q : Int) < 65 := by omega
      clear hW3 hcell hc2 d1 d7 hg hbg hs2
      have hadd : ¬ (9223372036854775807 < t.length + u.length) := by omega
      have hcat : (ByteArray.mk t.toArray ++ ByteArray.mk u.toArray).size ≤ maxLen := by simp [ByteArray.size_mk']; unfold maxLen; omega
      have cl2 := fun W (h : Lib.TabIs Tryd.prog W "strings.asciiSpace" .u8 Lib.asciiSpaceTab) => lexTokens_any (ByteArray.mk t.toArray ++ ByteArray.mk u.toArray) W hcat h
      have cr2 := fun W => refTokens_any (ByteArray.mk t.toArray ++ ByteArray.mk u.toArray) W hcat
      obtain ⟨R, hR⟩ : ∃ R, R = lexR (ByteArray.mk t.toArray ++ ByteArray.mk u.toArray).data.toList := ⟨_, rfl⟩
      simp only [← hR] at cl2 cr2
      have CL2 := fun W h => Lib.hid (cl2 W h)
      have CR2 := fun W => Lib.hid (cr2 W)
      have HW3 := HB2q
      have kW3 := hk2
      have qW3 := hq2
      have hsW3 := hs3
      clear cl2 cr2 hR hcat HB2q hk2 hq2 hs3
      go_region_held3 (fun w' => w'.cell? ⟨w.heap.size, k, none⟩ = some (.string ⟨t.toArray⟩) ∧ w'.cell? ⟨w.heap.size, q, none⟩ = some (.string ⟨u.toArray⟩)) (go_keep) ((first | (go_at_call 7; (with_reducible refine (CL2 W3.drew (tab_below' HT.out (HB1.out.trans (HW3.out.drew.mono HB1.out.size)))).out.mono ?_); rintro e w4 ⟨v1, rfl, hown1, hb1⟩; have hbb : Below W3.heap.size W3 w4 := (Below.refl _ _).drew.trans hb1; have kw4 : w4.cell? ⟨w.heap.size, k, none⟩ = some (.string ⟨t.toArray⟩) := (hbb.cell hsW3).trans kW3; have qw4 : w4.cell? ⟨w.heap.size, q, none⟩ = some (.string ⟨u.toArray⟩) := (hbb.cell hsW3).trans qW3; have hsw4 : W3.heap.size ≤ w4.heap.size := hbb.size; have Hw4 := Lib.hid (HW3.out.trans (hbb.mono HW3.out.size)); have BBw4 := Lib.hid hbb; have Ow4 := Lib.hid hown1; clear hb1 hown1 hbb) | (go_at_call 7; (with_reducible refine (CL2 (W3.alloc (.cells #[.int .i64 0, .int .i64 0] 26)).drew (tab_below' HT.out (HB1.out.trans (((HW3.out.alloc HW3.out.size _).drew).mono HB1.out.size)))).out.mono ?_); rintro e w4 ⟨v1, rfl, hown1, hb1⟩; have hblk := (hb1.block W3.heap.size (by simp)).trans (heap_alloc_new W3 (.cells #[.int .i64 0, .int .i64 0] 26)); have hbb : Below W3.heap.size W3 w4 := ((Below.refl _ _).alloc (Nat.le_refl _) _).drew.trans (hb1.mono (by simp)); have kw4 : w4.cell? ⟨w.heap.size, k, none⟩ = some (.string ⟨t.toArray⟩) := (hbb.cell hsW3).trans kW3; have qw4 : w4.cell? ⟨w.heap.size, q, none⟩ = some (.string ⟨u.toArray⟩) := (hbb.cell hsW3).trans qW3; have hsw4 : W3.heap.size ≤ w4.heap.size := hbb.size; have Hw4 := Lib.hid (HW3.out.trans (hbb.mono HW3.out.size)); have BBw4 := Lib.hid hbb; have e0 : w4.cell? ⟨W3.heap.size, 0, none⟩ = some (.int .i64 0) := blk_cell hblk 0; have e1 : w4.cell? ⟨W3.heap.size, 1, none⟩ = some (.int .i64 0) := blk_cell hblk 1; have g0 : w4.frozen? ⟨W3.heap.size, 0, none⟩ = false := blk_frozen hblk 0; have g1 : w4.frozen? ⟨W3.heap.size, 1, none⟩ = false := blk_frozen hblk 1; have hltw4 : W3.heap.size < w4.heap.size := (by have := hb1.size; simp at this; omega); have Ow4 := Lib.hid hown1; have Bkw4 := Lib.hid hblk; clear hb1 hown1 hbb hblk)))
      · go_wp2_with fail
        have OX := Lib.hid (Ow4.out.alloc (.cells #[.int .i64 R.err, .int .i64 R.at] 26))
        have HX := Lib.hid (Hw4.out.alloc Hw4.out.size (.cells #[.int .i64 R.err, .int .i64 R.at] 26))
        have hx := heap_alloc_new w4 (.cells #[.int .i64 R.err, .int .i64 R.at] 26)
        have x0 : (w4.alloc (.cells #[.int .i64 R.err, .int .i64 R.at] 26)).cell? ⟨w4.heap.size, 0, none⟩ = some (.int .i64 R.err) := blk_cell hx 0
        have x1 : (w4.alloc (.cells #[.int .i64 R.err, .int .i64 R.at] 26)).cell? ⟨w4.heap.size, 1, none⟩ = some (.int .i64 R.at) := blk_cell hx 1
        have kX : (w4.alloc (.cells #[.int .i64 R.err, .int .i64 R.at] 26)).cell? ⟨w.heap.size, k, none⟩ = some (.string ⟨t.toArray⟩) := (World.cell?_alloc_lt _ _ _ (by show w.heap.size < _; omega)).trans kw4
        have qX : (w4.alloc (.cells #[.int .i64 R.err, .int .i64 R.at] 26)).cell? ⟨w.heap.size, q, none⟩ = some (.string ⟨u.toArray⟩) := (World.cell?_alloc_lt _ _ _ (by show w.heap.size < _; omega)).trans qw4
        have hPX : w4.heap.size < (w4.alloc (.cells #[.int .i64 R.err, .int .i64 R.at] 26)).heap.size := by simp
        clear hx
        obtain ⟨X, hX⟩ : ∃ X, X = (w4.alloc (.cells #[.int .i64 R.err, .int .i64 R.at] 26)) := ⟨_, rfl⟩
        rw [← hX] at OX HX x0 x1 kX qX hPX ⊢
        obtain ⟨P, hP⟩ : ∃ P, P = w4.heap.size := ⟨_, rfl⟩
        rw [← hP] at x0 x1 hPX ⊢
        have hsX : w.heap.size < X.heap.size := by have := HX.out.size; omega
        have hne5 : ¬ X.heap.size = w.heap.size := by omega
        have hne6 : ¬ w.heap.size = X.heap.size := by omega
        have hne7 : ¬ X.heap.size = P := by omega
        have hne8 : ¬ P = X.heap.size := by omega
        clear hX hP kw4 qw4
        go_region_held3 (fun w' => w'.cell? ⟨w.heap.size, k, none⟩ = some (.string ⟨t.toArray⟩) ∧ w'.cell? ⟨w.heap.size, q, none⟩ = some (.string ⟨u.toArray⟩)) (go_keep) ((first | (go_at_call 8; (with_reducible refine (CR2 X.drew).out.mono ?_); rintro e w5 ⟨v2, rfl, hown1, hb1⟩; have hbb : Below X.heap.size X w5 := (Below.refl _ _).drew.trans hb1; have kw5 : w5.cell? ⟨w.heap.size, k, none⟩ = some (.string ⟨t.toArray⟩) := (hbb.cell hsX).trans kX; have qw5 : w5.cell? ⟨w.heap.size, q, none⟩ = some (.string ⟨u.toArray⟩) := (hbb.cell hsX).trans qX; have hsw5 : X.heap.size ≤ w5.heap.size := hbb.size; have Hw5 := Lib.hid (HX.out.trans (hbb.mono HX.out.size)); have BBw5 := Lib.hid hbb; have Ow5 := Lib.hid hown1; clear hb1 hown1 hbb) | (go_at_call 8; (with_reducible refine (CR2 (X.alloc (.cells #[.int .i64 0, .int .i64 0] 26)).drew).out.mono ?_); rintro e w5 ⟨v2, rfl, hown1, hb1⟩; have hblk := (hb1.block X.heap.size (by simp)).trans (heap_alloc_new X (.cells #[.int .i64 0, .int .i64 0] 26)); have hbb : Below X.heap.size X w5 := ((Below.refl _ _).alloc (Nat.le_refl _) _).drew.trans (hb1.mono (by simp)); have kw5 : w5.cell? ⟨w.heap.size, k, none⟩ = some (.string ⟨t.toArray⟩) := (hbb.cell hsX).trans kX; have qw5 : w5.cell? ⟨w.heap.size, q, none⟩ = some (.string ⟨u.toArray⟩) := (hbb.cell hsX).trans qX; have hsw5 : X.heap.size ≤ w5.heap.size := hbb.size; have Hw5 := Lib.hid (HX.out.trans (hbb.mono HX.out.size)); have BBw5 := Lib.hid hbb; have e0 : w5.cell? ⟨X.heap.size, 0, none⟩ = some (.int .i64 0) := blk_cell hblk 0; have e1 : w5.cell? ⟨X.heap.size, 1, none⟩ = some (.int .i64 0) := blk_cell hblk 1; have g0 : w5.frozen? ⟨X.heap.size, 0, none⟩ = false := blk_frozen hblk 0; have g1 : w5.frozen? ⟨X.heap.size, 1, none⟩ = false := blk_frozen hblk 1; have hltw5 : X.heap.size < w5.heap.size := (by have := hb1.size; simp at this; omega); have Ow5 := Lib.hid hown1; have Bkw5 := Lib.hid hblk; clear hb1 hown1 hbb hblk)))
        · have x05 : w5.cell? ⟨P, 0, none⟩ = some (.int .i64 R.err) := (BBw5.out.cell hPX).trans x0
          have x15 : w5.cell? ⟨P, 1, none⟩ = some (.int .i64 R.at) := (BBw5.out.cell hPX).trans x1
          have hP5 : P < w5.heap.size := Nat.lt_of_lt_of_le hPX hsw5
          have hfar : v1.ownBlock ≠ some X.heap.size := fun e => Nat.lt_irrefl _ (OX.out.lt _ e).2
          have CE := Lib.hid (eqTokens_any (w5.alloc (.cells #[.int .i64 R.err, .int .i64 R.at] 26)) _ _ v1 v2 R.toks ((own_below OX.out BBw5.out).alloc (.cells #[.int .i64 R.err, .int .i64 R.at] 26)) (Ow5.out.alloc (.cells #[.int .i64 R.err, .int .i64 R.at] 26)))
          have HY := Lib.hid (Hw5.out.alloc Hw5.out.size (.cells #[.int .i64 R.err, .int .i64 R.at] 26))
          clear hfar x0 x1
          go_wp2_with fail
          refine CE.out.mono ?_
          rintro e w6 ⟨rfl, m, rfl⟩
          go_wp2_with fail
          go_roundw
          case rel => exact ⟨k + 1, by omega, by go_num, below_drewN HY.out m⟩
          case measure => simp [intOf]; omega
        · have x05 : w5.cell? ⟨P, 0, none⟩ = some (.int .i64 R.err) := (BBw5.out.cell hPX).trans x0
          have x15 : w5.cell? ⟨P, 1, none⟩ = some (.int .i64 R.at) := (BBw5.out.cell hPX).trans x1
          have hP5 : P < w5.heap.size := Nat.lt_of_lt_of_le hPX hsw5
          have hfar : v1.ownBlock ≠ some X.heap.size := fun e => Nat.lt_irrefl _ (OX.out.lt _ e).2
          have CE := Lib.hid (eqTokens_any ((w5.setCell ⟨X.heap.size, 0, none⟩ (.int .i64 R.err)).setCell ⟨X.heap.size, 1, none⟩ (.int .i64 R.at)) _ _ v1 v2 R.toks (own_far' (own_far' (own_below OX.out BBw5.out) (a := ⟨X.heap.size, 0, none⟩) hfar _) (a := ⟨X.heap.size, 1, none⟩) hfar _) (ownsRow_setCell_below (ownsRow_setCell_below Ow5.out (a := ⟨X.heap.size, 0, none⟩) (by show X.heap.size < _; simp) _) (a := ⟨X.heap.size, 1, none⟩) (by show X.heap.size < _; simp) _))
          have HY := Lib.hid ((Hw5.out.setCell (p := ⟨X.heap.size, 0, none⟩) HX.out.size (.int .i64 R.err)).setCell (p := ⟨X.heap.size, 1, none⟩) HX.out.size (.int .i64 R.at))
          clear hfar x0 x1
          go_wp2_with fail
          refine CE.out.mono ?_
          rintro e w6 ⟨rfl, m, rfl⟩
          go_wp2_with fail
          go_roundw
          case rel => exact ⟨k + 1, by omega, by go_num, below_drewN HY.out m⟩
          case measure => simp [intOf]; omega
      · go_wp2_with fail
        have OX := Lib.hid (ownsRow_setCell_below (ownsRow_setCell_below Ow4.out (a := ⟨W3.heap.size, 0, none⟩) (by show W3.heap.size < _; simp) (.int .i64 R.err)) (a := ⟨W3.heap.size, 1, none⟩) (by show W3.heap.size < _; simp) (.int .i64 R.at))
        have HX := Lib.hid ((Hw4.out.setCell (p := ⟨W3.heap.size, 0, none⟩) HW3.out.size (.int .i64 R.err)).setCell (p := ⟨W3.heap.size, 1, none⟩) HW3.out.size (.int .i64 R.at))
        have hx := heap_set (heap_set Bkw4.out 0 (.int .i64 R.err)) 1 (.int .i64 R.at)
        have x0 : ((w4.setCell ⟨W3.heap.size, 0, none⟩ (.int .i64 R.err)).setCell ⟨W3.heap.size, 1, none⟩ (.int .i64 R.at)).cell? ⟨W3.heap.size, 0, none⟩ = some (.int .i64 R.err) := blk_cell hx 0
        have x1 : ((w4.setCell ⟨W3.heap.size, 0, none⟩ (.int .i64 R.err)).setCell ⟨W3.heap.size, 1, none⟩ (.int .i64 R.at)).cell? ⟨W3.heap.size, 1, none⟩ = some (.int .i64 R.at) := blk_cell hx 1
        clear hx
        have kX : ((w4.setCell ⟨W3.heap.size, 0, none⟩ (.int .i64 R.err)).setCell ⟨W3.heap.size, 1, none⟩ (.int .i64 R.at)).cell? ⟨w.heap.size, k, none⟩ = some (.string ⟨t.toArray⟩) := by rw [World.cell?_setCell_other _ _ _ _ (by first | (simp; done) | (simp; omega)), World.cell?_setCell_other _ _ _ _ (by first | (simp; done) | (simp; omega))]; exact kw4
        have qX : ((w4.setCell ⟨W3.heap.size, 0, none⟩ (.int .i64 R.err)).setCell ⟨W3.heap.size, 1, none⟩ (.int .i64 R.at)).cell? ⟨w.heap.size, q, none⟩ = some (.string ⟨u.toArray⟩) := by rw [World.cell?_setCell_other _ _ _ _ (by first | (simp; done) | (simp; omega)), World.cell?_setCell_other _ _ _ _ (by first | (simp; done) | (simp; omega))]; exact qw4
        have hPX : W3.heap.size < ((w4.setCell ⟨W3.heap.size, 0, none⟩ (.int .i64 R.err)).setCell ⟨W3.heap.size, 1, none⟩ (.int .i64 R.at)).heap.size := by simp [World.setCell]; exact hltw4
        clear e0 e1 g0 g1
        obtain ⟨X, hX⟩ : ∃ X, X = ((w4.setCell ⟨W3.heap.size, 0, none⟩ (.int .i64 R.err)).setCell ⟨W3.heap.size, 1, none⟩ (.int .i64 R.at)) := ⟨_, rfl⟩
        rw [← hX] at OX HX x0 x1 kX qX hPX ⊢
        obtain ⟨P, hP⟩ : ∃ P, P = W3.heap.size := ⟨_, rfl⟩
        rw [← hP] at x0 x1 hPX ⊢
        have hsX : w.heap.size < X.heap.size := by have := HX.out.size; omega
        have hne5 : ¬ X.heap.size = w.heap.size := by omega
        have hne6 : ¬ w.heap.size = X.heap.size := by omega
        have hne7 : ¬ X.heap.size = P := by omega
        have hne8 : ¬ P = X.heap.size := by omega
        clear hX hP kw4 qw4
        go_region_held3 (fun w' => w'.cell? ⟨w.heap.size, k, none⟩ = some (.string ⟨t.toArray⟩) ∧ w'.cell? ⟨w.heap.size, q, none⟩ = some (.string ⟨u.toArray⟩)) (go_keep) ((first | (go_at_call 8; (with_reducible refine (CR2 X.drew).out.mono ?_); rintro e w5 ⟨v2, rfl, hown1, hb1⟩; have hbb : Below X.heap.size X w5 := (Below.refl _ _).drew.trans hb1; have kw5 : w5.cell? ⟨w.heap.size, k, none⟩ = some (.string ⟨t.toArray⟩) := (hbb.cell hsX).trans kX; have qw5 : w5.cell? ⟨w.heap.size, q, none⟩ = some (.string ⟨u.toArray⟩) := (hbb.cell hsX).trans qX; have hsw5 : X.heap.size ≤ w5.heap.size := hbb.size; have Hw5 := Lib.hid (HX.out.trans (hbb.mono HX.out.size)); have BBw5 := Lib.hid hbb; have Ow5 := Lib.hid hown1; clear hb1 hown1 hbb) | (go_at_call 8; (with_reducible refine (CR2 (X.alloc (.cells #[.int .i64 0, .int .i64 0] 26)).drew).out.mono ?_); rintro e w5 ⟨v2, rfl, hown1, hb1⟩; have hblk := (hb1.block X.heap.size (by simp)).trans (heap_alloc_new X (.cells #[.int .i64 0, .int .i64 0] 26)); have hbb : Below X.heap.size X w5 := ((Below.refl _ _).alloc (Nat.le_refl _) _).drew.trans (hb1.mono (by simp)); have kw5 : w5.cell? ⟨w.heap.size, k, none⟩ = some (.string ⟨t.toArray⟩) := (hbb.cell hsX).trans kX; have qw5 : w5.cell? ⟨w.heap.size, q, none⟩ = some (.string ⟨u.toArray⟩) := (hbb.cell hsX).trans qX; have hsw5 : X.heap.size ≤ w5.heap.size := hbb.size; have Hw5 := Lib.hid (HX.out.trans (hbb.mono HX.out.size)); have BBw5 := Lib.hid hbb; have e0 : w5.cell? ⟨X.heap.size, 0, none⟩ = some (.int .i64 0) := blk_cell hblk 0; have e1 : w5.cell? ⟨X.heap.size, 1, none⟩ = some (.int .i64 0) := blk_cell hblk 1; have g0 : w5.frozen? ⟨X.heap.size, 0, none⟩ = false := blk_frozen hblk 0; have g1 : w5.frozen? ⟨X.heap.size, 1, none⟩ = false := blk_frozen hblk 1; have hltw5 : X.heap.size < w5.heap.size := (by have := hb1.size; simp at this; omega); have Ow5 := Lib.hid hown1; have Bkw5 := Lib.hid hblk; clear hb1 hown1 hbb hblk)))
        · have x05 : w5.cell? ⟨P, 0, none⟩ = some (.int .i64 R.err) := (BBw5.out.cell hPX).trans x0
          have x15 : w5.cell? ⟨P, 1, none⟩ = some (.int .i64 R.at) := (BBw5.out.cell hPX).trans x1
          have hP5 : P < w5.heap.size := Nat.lt_of_lt_of_le hPX hsw5
          have hfar : v1.ownBlock ≠ some X.heap.size := fun e => Nat.lt_irrefl _ (OX.out.lt _ e).2
          have CE := Lib.hid (eqTokens_any (w5.alloc (.cells #[.int .i64 R.err, .int .i64 R.at] 26)) _ _ v1 v2 R.toks ((own_below OX.out BBw5.out).alloc (.cells #[.int .i64 R.err, .int .i64 R.at] 26)) (Ow5.out.alloc (.cells #[.int .i64 R.err, .int .i64 R.at] 26)))
          have HY := Lib.hid (Hw5.out.alloc Hw5.out.size (.cells #[.int .i64 R.err, .int .i64 R.at] 26))
          clear hfar x0 x1
          go_wp2_with fail
          refine CE.out.mono ?_
          rintro e w6 ⟨rfl, m, rfl⟩
          go_wp2_with fail
          go_roundw
          case rel => exact ⟨k + 1, by omega, by go_num, below_drewN HY.out m⟩
          case measure => simp [intOf]; omega
        · have x05 : w5.cell? ⟨P, 0, none⟩ = some (.int .i64 R.err) := (BBw5.out.cell hPX).trans x0
          have x15 : w5.cell? ⟨P, 1, none⟩ = some (.int .i64 R.at) := (BBw5.out.cell hPX).trans x1
          have hP5 : P < w5.heap.size := Nat.lt_of_lt_of_le hPX hsw5
          have hfar : v1.ownBlock ≠ some X.heap.size := fun e => Nat.lt_irrefl _ (OX.out.lt _ e).2
          have CE := Lib.hid (eqTokens_any ((w5.setCell ⟨X.heap.size, 0, none⟩ (.int .i64 R.err)).setCell ⟨X.heap.size, 1, none⟩ (.int .i64 R.at)) _ _ v1 v2 R.toks (own_far' (own_far' (own_below OX.out BBw5.out) (a := ⟨X.heap.size, 0, none⟩) hfar _) (a := ⟨X.heap.size, 1, none⟩) hfar _) (ownsRow_setCell_below (ownsRow_setCell_below Ow5.out (a := ⟨X.heap.size, 0, none⟩) (by show X.heap.size < _; simp) _) (a := ⟨X.heap.size, 1, none⟩) (by show X.heap.size < _; simp) _))
          have HY := Lib.hid ((Hw5.out.setCell (p := ⟨X.heap.size, 0, none⟩) HX.out.size (.int .i64 R.err)).setCell (p := ⟨X.heap.size, 1, none⟩) HX.out.size (.int .i64 R.at))
          clear hfar x0 x1
          go_wp2_with fail
          refine CE.out.mono ?_
          rintro e w6 ⟨rfl, m, rfl⟩
          go_wp2_with fail
          go_roundw
          case rel => exact ⟨k + 1, by omega, by go_num, below_drewN HY.out m⟩
          case measure => simp [intOf]; omega
    · have CW := fun W h => Lib.hid (wakes_any W h)
      go_wp2_with fail
      refine (CW _ (tab_below' HT.out (HB1.out.trans (HB.out.mono HB1.out.size)))).out.mono ?_
      rintro e w2 ⟨rfl, hb2⟩
      have HB2 := Lib.hid (HB.out.trans (hb2.mono HB.out.size))
      clear hb2
      go_wp2_with fail
      go_ret
      exact ⟨rfl, HB1.out.trans (HB2.out.mono HB1.out.size)⟩
theorem lexSignsLaw_any {v : Value} {w : World} (h : StrArg w v) (htab : Lib.TabIs Tryd.prog w "strings.asciiSpace" .u8 Lib.asciiSpaceTab) :
    Calls Tryd.prog 5 #[v] w fun e w' => e = .returned (.bool true) ∧ Below w.heap.size w w' := by
  rcases h with ⟨A, c, rfl⟩ | ⟨b, off, n, c, D, rfl, hc, hb, hn, hs⟩
  · exact lexSigns_len w A 0 c (by omega) htab
  · exact lexSigns_len w _ n c hn htab
end Go.Proofs.YtkkhohbngcdecaaDoor
