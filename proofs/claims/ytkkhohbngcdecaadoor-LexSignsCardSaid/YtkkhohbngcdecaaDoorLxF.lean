/-
  'signs' of lex: the map from three bytes to how long the sign is.
-/
import Derived.Test.YtkkhohbngcdecaaDoorLxE
import Derived.Test.YtkkhohbngcdecaaDoorLxSg
import Derived.Lib.LaidTab
import Derived.Laws.OwnMore
import Derived.OwnWalk
import Derived.Lib.SmallJoins
namespace Go.Proofs.YtkkhohbngcdecaaDoor
open Go.RowKit Go.Maps
set_option linter.unusedVariables false

def allS : List UInt8 := [60, 60, 61, 32, 62, 62, 61, 32, 43, 43, 32, 45, 45, 32, 60, 60, 32, 62, 62, 32, 60, 61, 32, 62, 61, 32, 61, 61, 32, 33, 61, 32, 38, 38, 32, 124, 124, 32, 43, 61, 32, 45, 61, 32, 42, 61, 32, 47, 61, 32, 37, 61, 32, 38, 61, 32, 94, 61, 32, 124, 61, 32, 43, 32, 45, 32, 42, 32, 47, 32, 37, 32, 38, 32, 124, 32, 94, 32, 126, 32, 33, 32, 60, 32, 62, 32, 61, 32, 63, 32, 58, 32, 59, 32, 44, 32, 40, 32, 41, 32, 91, 32, 93, 32, 123, 32, 125]
theorem fields_all : Lib.fields allS = signsL := by decide +kernel
theorem only_alloc {a w : World} {row : Option Nat} (h : a.grownBy w row) (o : Obj) : a.grownBy (w.alloc o) row :=
  ⟨h.os, h.tape, h.output, Nat.le_trans h.size (by simp), fun i hi hne => (Below.heap_alloc w o i (Nat.lt_of_lt_of_le hi h.size)).trans (h.block i hi hne)⟩
theorem only_trans {a b c : World} {g : Nat} (h : a.grownBy b (some g)) (k : b.grownBy c (some g)) : a.grownBy c (some g) :=
  ⟨k.os.trans h.os, k.tape.trans h.tape, k.output.trans h.output, Nat.le_trans h.size k.size, fun i hi hn => (k.block i (Nat.lt_of_lt_of_le hi h.size) hn).trans (h.block i hi hn)⟩
theorem below_of_only {a w : World} {g B : Nat} (h : a.grownBy w (some g)) (hg : B ≤ g) (hB : B ≤ a.heap.size) : Below B a w :=
  ⟨h.os, h.tape, h.output, h.size, fun i hi => h.block i (by omega) (by simp; omega)⟩
theorem mapIs_new (w : World) : MapIs (w.alloc (.map #[] 0)) w.heap.size [] := ⟨0, .map [], Nat.le_refl _, World.ownsMap_made _ _ _ _, fun m => rfl⟩
theorem mapIs_put {w' : World} {b n : Nat} {D : DataW Unit} {l : List (List UInt8)} {t : List UInt8} (hn : n ≤ l.length) (hD : ∀ m : List UInt8, D.atKey (.string m) (.lit (.int .i64 0)) = .lit (.int .i64 (tabK l m))) (hm : Maps.IsMap D)
    (h : w'.ownsMap Tryd.prog 49 (plainElem Tryd.prog 3) b (n + 1) (D.put (.string (mark t)) (.lit (.int .i64 t.length)))) : MapIs w' b (l ++ [t]) := by
  refine ⟨n + 1, _, by simpa using hn, h, fun m => ?_⟩
  rw [tabK_snoc]
  by_cases e : mark t = m
  · subst e
    rw [if_pos rfl, atKey_put_same hm (show WideAt.IsKeyLit (.string (mark t)) from trivial)]
  · rw [if_neg e, atKey_put_other (by intro e'; injection e' with e'; exact e e'.symm)]
    exact hD m
theorem isMap_of_owns {w : World} {P : Program} {k : TypeId} {R : Value → Option (DataW Unit × List MemPlace)} {b n : Nat} {D : DataW Unit} (h : w.ownsMap P k R b n D) : Maps.IsMap D := by
  obtain ⟨es, c, _, _, _, rfl⟩ := h
  exact ⟨_, rfl⟩
theorem signs_at {k : Nat} (hk : k < 43) : ∃ t, signsL[k]? = some t ∧ signsL.take (k + 1) = signsL.take k ++ [t] := by
  have hl : signsL.length = 43 := by decide
  refine ⟨signsL[k], List.getElem?_eq_getElem (by omega), ?_⟩
  rw [List.take_succ_eq_append_getElem (by omega)]; rfl
theorem ascii_all : ∀ (j : Nat) b, (ByteArray.mk allS.toArray).data.toList[j]? = some b → b.toNat < 128 := by
  intro j b h
  have H : ∀ b ∈ allS, b.toNat < 128 := by decide
  exact H b (List.mem_of_getElem? h)
theorem fields_any (w : World) (htab : Lib.TabIs Tryd.prog w "strings.asciiSpace" .u8 Lib.asciiSpaceTab) : Calls Tryd.prog 21 #[.string ⟨allS.toArray⟩] w fun e w' =>
    e = .returned (.slice (some ⟨w.heap.size, 0, none⟩) 43 43) ∧ w' = w.alloc (.cells (signsL.map fun l => Value.string ⟨l.toArray⟩).toArray 9) := by
  have h := Tryd.strings_Fields ⟨allS.toArray⟩ w (by decide) ascii_all htab
  have e : Lib.fields (ByteArray.mk allS.toArray).data.toList = signsL := fields_all
  rw [e] at h
  exact h
theorem tab_alloc {w : World} (o : Obj) (h : Lib.TabIs Tryd.prog w "strings.asciiSpace" .u8 Lib.asciiSpaceTab) : Lib.TabIs Tryd.prog (w.alloc o) "strings.asciiSpace" .u8 Lib.asciiSpaceTab :=
  Joins.tab_stays (g := 0) (by kernel_rfl) h ((Below.refl w.heap.size w).alloc (Nat.le_refl _) o) (Nat.le_refl _)
set_option maxRecDepth 100000 in
theorem signs_any (w : World) (htab : Lib.TabIs Tryd.prog w "strings.asciiSpace" .u8 Lib.asciiSpaceTab) : Calls Tryd.prog 13 #[] w fun e w' => e = .returned (.map (some w.heap.size)) ∧ MapIs w' w.heap.size signsL ∧ Below w.heap.size w w' := by
  have cf := fields_any _ (tab_alloc (.map #[] 0) htab)
  have CF := Lib.hid cf
  clear cf htab
  have hmm := @run_makeMap Tryd.prog
  go_enter Tryd.func13, Tryd.ntmps13
  go_wp2_with fail
  refine CF.out.mono ?_
  rintro e w1 ⟨rfl, hw1⟩
  have HW1 := Lib.hid hw1
  have hM : MapIs w1 w.heap.size [] := by
    obtain ⟨n, D, h1, h2, h3⟩ := mapIs_new w
    rw [hw1]
    exact ⟨n, D, h1, h2.alloc _, h3⟩
  have HM := Lib.hid hM
  have hlt : w.heap.size + 1 < w1.heap.size := by rw [hw1]; simp
  have hcells : Hid (∀ k t, signsL[k]? = some t → w1.cell? ⟨w.heap.size + 1, k, none⟩ = some (.string ⟨t.toArray⟩)) := by
    refine Lib.hid ?_
    intro k t hk
    have : w1.heap[w.heap.size + 1]? = some (.cells (signsL.map fun l => Value.string ⟨l.toArray⟩).toArray 9 (0, 0)) := by
      rw [hw1]
      have := heap_alloc_new (w.alloc (.map #[] 0)) (.cells (signsL.map fun l => Value.string ⟨l.toArray⟩).toArray 9 (0, 0))
      simpa using this
    rw [cell_of_row w1 _ k _ _ _ this]
    simp [hk]
  have hB1 : Hid (Below w.heap.size w w1) := by
    refine Lib.hid ?_
    rw [hw1]
    exact ((Below.refl _ _).alloc (Nat.le_refl _) _).alloc (by simp) _
  clear hw1 hM CF
  have H1 := Lib.hid hlt
  go_wp2_with fail
  go_loopw [3, 4, 8] (fun _ _ i wr => ∃ k : Nat, k ≤ 43 ∧ i = .int .i64 k ∧ MapIs wr w.heap.size (signsL.take k) ∧ w1.grownBy wr (some w.heap.size)) (fun _ _ i _ => 43 - (intOf i).toNat)
  case atStart => exact ⟨0, by omega, rfl, HM.out, World.grownBy.refl _ _⟩
  case round =>
    obtain ⟨k, hk, rfl, hMr, hg⟩ := hrel
    by_cases hk3 : k < 43
    · obtain ⟨t, ht, htake⟩ := signs_at hk3
      have HT := Lib.hid htake
      have hcell : wr.cell? ⟨w.heap.size + 1, k, none⟩ = some (.string ⟨t.toArray⟩) := (World.cell?_of_block (hg.block _ hlt (by simp))).trans (hcells.out k t ht)
      have hd : decide ((k : Int) < 43) = true := by simp; omega
      obtain ⟨n, D, hn, hown, hD⟩ := hMr
      have hmD := isMap_of_owns hown
      have hlen : t.length ≤ 3 := (signs_pos (List.mem_of_getElem? ht)).2
      have hsz : wr.heap.size ≠ w.heap.size := by have := hg.size; omega
      have hcp := run_copy_mark (P := Tryd.prog) wr 31 9 3 5 49 ⟨t.toArray⟩ (by kernel_rfl) info8
      have hwf : (Lit.int .i64 (t.length : Int)).wf = true := by simp [Lit.wf, IntKind.min, IntKind.max, IntKind.signed, IntKind.bits]; omega
      have hnm : n < maxLen := by have : (signsL.take k).length ≤ 43 := by simp; omega
                                  unfold maxLen; omega
      have HOwn := Lib.hid hown
      have HD := Lib.hid hD
      have HG := Lib.hid hg
      have Ht := Lib.hid ht
      clear hown hD hg htake ht
      clear hlt
      go_wp2_with (at_mapUpdate; refine wpList_mapUpdate_own _ rfl _ _ _ 36 rfl 49 3 markLaw Tryd.underlying36 _ _ n D rfl (HOwn.out.alloc _) hnm _ _ (.string (mark t)) rfl rfl (keyOf_mark _ _ _) _ [] (plainElem_int Tryd.underlying3 hwf) ?_; intro w2 hown2 hgrow2)
      go_roundw
      case rel => exact ⟨k + 1, by omega, by go_num, by rw [HT.out]; exact mapIs_put hn HD.out hmD hown2, only_trans (only_alloc HG.out _) hgrow2⟩
      case measure => simp [intOf]; omega
    · have hk43 : k = 43 := by omega
      subst hk43
      go_wp2
      go_ret
      exact ⟨rfl, hMr, hB1.out.trans (below_of_only hg (Nat.le_refl _) (by omega))⟩
end Go.Proofs.YtkkhohbngcdecaaDoor
