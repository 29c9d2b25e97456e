/-
  The project's labels, and the map from labels to ops.
-/
import Derived.Test.YtgbgjecmamkdaaaDoorTrRead
import Derived.Test.YtgbgjecmamkdaaaDoorTrWr
import Derived.Maps.OwnOps
import Derived.Maps.Views
import Derived.WideKeyArr
import Derived.Lib.BufferWrite
import Derived.Deep.WholeRow
import Derived.Laws.OwnMore
namespace Go.Proofs.YtgbgjecmamkdaaaDoor
open Go.RowKit Go.Maps
set_option linter.unusedVariables false
set_option linter.unusedSimpArgs false
set_option maxRecDepth 100000
set_option maxHeartbeats 1000000

def markC (l : List UInt8) : Array Value := #[.int .u8 (l.getD 0 0).toNat, .int .u8 (l.getD 1 0).toNat, .int .u8 (l.getD 2 0).toNat, .int .u8 (l.getD 3 0).toNat, .int .u8 (l.getD 4 0).toNat, .int .u8 (l.getD 5 0).toNat, .int .u8 (l.getD 6 0).toNat]
def zero7 : Array Value := #[.int .u8 0, .int .u8 0, .int .u8 0, .int .u8 0, .int .u8 0, .int .u8 0, .int .u8 0]
theorem labelLaw : Keyed Tryd.prog 94 := Keyed.of_law (WideMaps.ArrKey.law (P := Tryd.prog) (k := 94) (e := 5) (n := 7) ⟨by kernel_rfl, by kernel_rfl, by kernel_rfl, by kernel_rfl⟩)
theorem wf_u8 (x : UInt8) : (Lit.int .u8 (x.toNat : Int)).wf = true := by
  have := x.toNat_lt
  simp [Lit.wf, IntKind.min, IntKind.max, IntKind.signed, IntKind.bits]; omega
theorem keyOf7 (l : List UInt8) : keyOf Tryd.prog 94 (.agg (markC l)) = some (.string (mark7 l)) := by
  unfold markC mark7
  generalize l.getD 0 0 = x0
  generalize l.getD 1 0 = x1
  generalize l.getD 2 0 = x2
  generalize l.getD 3 0 = x3
  generalize l.getD 4 0 = x4
  generalize l.getD 5 0 = x5
  generalize l.getD 6 0 = x6
  have hk : Tryd.prog.keyType 94 = true := by kernel_rfl
  have hf : (Value.agg #[.int .u8 x0.toNat, .int .u8 x1.toNat, .int .u8 x2.toNat, .int .u8 x3.toNat, .int .u8 x4.toNat, .int .u8 x5.toNat, .int .u8 x6.toNat]).formed Tryd.prog 94 = true := by kernel_rfl
  unfold keyOf
  obtain ⟨m, hm⟩ : ∃ m, Tryd.prog.types.size + 1 = m + 2 := ⟨Tryd.prog.types.size - 1, by kernel_rfl⟩
  have hu := Tryd.underlying94
  have h5 := Tryd.underlying5
  have c1 : Tryd.prog.cellsOf 94 = 7 := by kernel_rfl
  have c2 : Tryd.prog.cellsOf 5 = 1 := by kernel_rfl
  simp only [hu, hk, hf, hm]
  have e : Tryd.prog.keyLits (m + 2) 94 [.int .u8 x0.toNat, .int .u8 x1.toNat, .int .u8 x2.toNat, .int .u8 x3.toNat, .int .u8 x4.toNat, .int .u8 x5.toNat, .int .u8 x6.toNat] = some [.int .u8 x0.toNat, .int .u8 x1.toNat, .int .u8 x2.toNat, .int .u8 x3.toNat, .int .u8 x4.toNat, .int .u8 x5.toNat, .int .u8 x6.toNat] := by
    simp [Program.keyLits, hu, h5, c1, c2, List.range_succ, wf_u8]
  have hc : (Value.agg #[.int .u8 x0.toNat, .int .u8 x1.toNat, .int .u8 x2.toNat, .int .u8 x3.toNat, .int .u8 x4.toNat, .int .u8 x5.toNat, .int .u8 x6.toNat]).cells.toList = [.int .u8 x0.toNat, .int .u8 x1.toNat, .int .u8 x2.toNat, .int .u8 x3.toNat, .int .u8 x4.toNat, .int .u8 x5.toNat, .int .u8 x6.toNat] := rfl
  rw [hc, e]
  have b : ∀ x : UInt8, Lit.keyBytes (.int .u8 (x.toNat : Int)) = [x] := by
    intro x
    have := x.toNat_lt
    have h : ((x.toNat : Int) % 256).toNat = x.toNat := by omega
    simp [Lit.keyBytes, IntKind.bits, bytesBE, h, bytesLE]
  simp [keyBytes, b]
theorem seven (l : List UInt8) : Lib.byteCells (l.take 7) ++ List.drop (Nat.min l.length 7) zero7.toList = (markC l).toList := by
  rcases l with _ | ⟨a, _ | ⟨b, _ | ⟨c, _ | ⟨d, _ | ⟨e, _ | ⟨f, _ | ⟨g, r⟩⟩⟩⟩⟩⟩⟩
  · rfl
  · rfl
  · rfl
  · rfl
  · rfl
  · rfl
  · rfl
  · have : Nat.min (a :: b :: c :: d :: e :: f :: g :: r).length 7 = 7 := Nat.min_eq_right (by simp)
    rw [this]; rfl
theorem run_copy7 {P : Program} (w : World) (dT sT ty elem T : TypeId) (s : ByteArray) (hu : P.underlying dT = some (.slice elem)) (hs : (P.info? elem).map (·.size) = some 1) :
    (Builtin.copy_ #[dT, sT] ty #[.slice (some ⟨w.heap.size, 0, none⟩) 7 7, .string s]).run P (w.alloc (.cells zero7 T)) =
      .ok (goInt (Nat.min s.size 7 : Nat)) (w.alloc (.cells (markC s.data.toList) T)) := by
  have hsz : s.size = s.data.toList.length := by simp
  have hlen : (Lib.byteCells (s.data.toList.take 7)).length = Nat.min s.size 7 := by rw [Lib.byteCells_length, List.length_take, hsz]; exact Nat.min_comm _ _
  have htk : List.take (Nat.min s.size 7) (List.map (fun b : UInt8 => Value.int IntKind.u8 (b.toNat : Int)) s.data.toList) = Lib.byteCells (s.data.toList.take 7) := by
    unfold Lib.byteCells
    rw [← List.map_take, hsz]
    congr 1
    rcases Nat.le_total s.data.toList.length 7 with h | h
    · rw [show Nat.min s.data.toList.length 7 = s.data.toList.length from Nat.min_eq_left h, List.take_length, List.take_of_length_le h]
    · rw [show Nat.min s.data.toList.length 7 = 7 from Nat.min_eq_right h]
  have hst := run_storeCells_at P w.heap.size 0 T (Lib.byteCells (s.data.toList.take 7)) 0 zero7 (w.alloc (.cells zero7 T)) (heap_alloc_new w _) (by rw [hlen]; simp [zero7]; exact Nat.min_le_right _ _) (Lib.byteCells_one _)
  rw [hlen] at hst
  simp only [Nat.add_zero] at hst
  rw [World.setRow_alloc_new] at hst
  cases hq : P.info? elem with
  | none => simp [hq] at hs
  | some i =>
    have h3 := seven s.data.toList
    rw [← hsz] at h3
    have hX' : markC s.data.toList = ([] ++ Lib.byteCells (s.data.toList.take 7) ++ List.drop (Nat.min s.size 7) zero7.toList).toArray := by rw [List.nil_append, h3]
    rw [hX']
    unfold zero7 at hst ⊢
    simp [Builtin.copy_, run_underlying hu, Builtin.lenOf, Builtin.firstCells, sizeOf, typeInfo, hq]
    rw [htk, hst]
    simp [Result.andThen]
theorem zeroInt (w : World) : (zeroValue 3).run Tryd.prog w = .ok (.int .i64 0) w := by kernel_rfl
theorem info8 : (Tryd.prog.info? 5).map (·.size) = some 1 := by kernel_rfl
theorem label_any (s : ByteArray) (w : World) : Calls Tryd.prog 50 #[.string s] w fun e w' => e = .returned (.agg (markC s.data.toList)) ∧ Below w.heap.size w w' := by
  have hcp := run_copy7 (P := Tryd.prog) (w.alloc (.cells zero7 94)) 64 9 3 5 94 s (by kernel_rfl) info8
  rw [World.size_alloc] at hcp
  unfold zero7 markC at *
  go_enter Tryd.func50, Tryd.ntmps50
  go_wp2
  refine bodyPost_ret (v := .agg (markC s.data.toList)) (by unfold markC; simp [results, Tryd.results50, go_sem, *]) rfl ?_
  exact ⟨rfl, (Keeps.au (G := [])).below⟩
/-- Block b is a map that tells of each label the op, of the first k. -/
def OpMap (w : World) (b k : Nat) : Prop := ∃ (n : Nat) (D : DataW Unit), n ≤ k ∧ w.ownsMap Tryd.prog 94 (plainElem Tryd.prog 3) b n D ∧ ∀ m : List UInt8, D.atKey (.string m) (.lit (.int .i64 0)) = .lit (.int .i64 (opK k m))
theorem OpMap.lt {w : World} {b k : Nat} (h : OpMap w b k) : b < w.heap.size := by
  obtain ⟨n, D, _, ⟨es, c, hb, _⟩, _⟩ := h
  exact lt_of_blk hb
theorem OpMap.keep {w W : World} {b k : Nat} (h : OpMap w b k) (hb : W.heap[b]? = w.heap[b]?) : OpMap W b k := by
  obtain ⟨n, D, h1, ⟨es, c, h2, h3⟩, h4⟩ := h
  exact ⟨n, D, h1, ⟨es, c, hb.trans h2, h3⟩, h4⟩
theorem isMap_of_owns {w : World} {P : Program} {k : TypeId} {R : Value → Option (DataW Unit × List MemPlace)} {b n : Nat} {D : DataW Unit} (h : w.ownsMap P k R b n D) : Maps.IsMap D := by
  obtain ⟨es, c, _, _, _, rfl⟩ := h
  exact ⟨_, rfl⟩
theorem opMap_put {w' : World} {b n k : Nat} {D : DataW Unit} (hn : n ≤ k) (hD : ∀ m : List UInt8, D.atKey (.string m) (.lit (.int .i64 0)) = .lit (.int .i64 (opK k m))) (hm : Maps.IsMap D)
    (h : w'.ownsMap Tryd.prog 94 (plainElem Tryd.prog 3) b (n + 1) (D.put (.string (mark7 (wordV ((k + 1 : Nat) : Int)))) (.lit (.int .i64 ((k + 1 : Nat) : Int))))) : OpMap w' b (k + 1) := by
  refine ⟨n + 1, _, by omega, h, fun m => ?_⟩
  rw [opK]
  by_cases e : mark7 (wordV ((k + 1 : Nat) : Int)) = m
  · subst e
    rw [if_pos rfl, atKey_put_same hm (show WideAt.IsKeyLit (.string _) from trivial)]
  · rw [if_neg e, atKey_put_other (by intro e'; injection e' with e'; exact e e'.symm)]
    exact hD m
theorem ops_map (w : World) (hE : Env w w.heap.size) : Calls Tryd.prog 36 #[] w fun e w' => e = .returned (.map (some w.heap.size)) ∧ OpMap w' w.heap.size 36 ∧ Below w.heap.size w w' := by
  have hmm := @run_makeMap Tryd.prog
  have HE := Lib.hid hE
  have HM := Lib.hid (show OpMap (w.alloc (.map #[] 0)) w.heap.size 0 from ⟨0, .map [], Nat.le_refl _, World.ownsMap_made _ _ _ _, fun m => rfl⟩)
  clear hE
  go_enter Tryd.func36, Tryd.ntmps36
  go_wp2_with fail
  go_loopw [2, 4, 5, 6, 7, 8, 9, 10, 11, 12, 13] (fun i _ _ _ _ _ _ _ _ _ _ wr => ∃ o : Nat, 1 ≤ o ∧ o ≤ 37 ∧ i = .int .i64 (o : Int) ∧ OpMap wr w.heap.size (o - 1) ∧ Below w.heap.size w wr) (fun i _ _ _ _ _ _ _ _ _ _ _ => 37 - (intOf i).toNat)
  case atStart => exact ⟨1, by omega, by omega, rfl, HM.out, (Below.refl _ _).alloc (Nat.le_refl _) _⟩
  case round =>
    obtain ⟨o, ho1, ho2, rfl, hMr, hb⟩ := hrel
    have HB := Lib.hid hb
    have HMr := Lib.hid hMr
    have hbl := hMr.lt
    have hsz := hb.size
    clear hMr HM
    by_cases hk3 : o ≤ 36
    · have hw := word_cell (HE.out.low hb) o hk3
      have hd : decide ((o : Int) ≤ 36) = true := by simp; omega
      have hz0 : 0 < wr.heap.size := by have := HE.out.wlt; omega
      have hwf : (Lit.int .i64 (o : Int)).wf = true := by simp [Lit.wf, IntKind.min, IntKind.max, IntKind.signed, IntKind.bits]; omega
      have HWF := Lib.hid hwf
      have i0 : (0 : Int) ≤ (o : Int) := by omega
      have i1 : (o : Int) < 37 := by omega
      have CLb := Lib.hid (label_any ⟨(wordV (o : Int)).toArray⟩ wr)
      clear hb hwf
      go_wp2_with fail
      refine CLb.out.mono ?_
      rintro e w1 ⟨rfl, hb1⟩
      have hM1 := HMr.out.keep (hb1.block _ HMr.out.lt)
      have HB1 := Lib.hid hb1
      obtain ⟨n, D, hn, hown, hD⟩ := hM1
      have hmD := isMap_of_owns hown
      have hnm : n < maxLen := by unfold maxLen; omega
      have HOwn := Lib.hid hown
      have HD := Lib.hid hD
      clear hown hD hb1
      go_wp2_with (at_mapUpdate; refine wpList_mapUpdate_own _ rfl _ _ _ 71 rfl 94 3 labelLaw Tryd.underlying71 _ _ n D rfl HOwn.out hnm _ _ (.string (mark7 (wordV (o : Int)))) rfl rfl (keyOf7 _) _ [] (plainElem_int Tryd.underlying3 HWF.out) ?_; intro w2 hown2 hgrow2)
      go_roundw
      case rel =>
        refine ⟨o + 1, by omega, by omega, by go_num, ?_, HB.out.trans (((HB1.out).mono hsz).trans ?_)⟩
        · obtain ⟨k, rfl⟩ : ∃ k, o = k + 1 := ⟨o - 1, by omega⟩
          exact opMap_put hn HD.out hmD hown2
        · exact ⟨hgrow2.os, hgrow2.tape, hgrow2.output, hgrow2.size, fun i hi => hgrow2.block i (by have := HB1.out.size; omega) (by simp; omega)⟩
      case measure => simp [intOf]; omega
    · have hk37 : o = 37 := by omega
      subst hk37
      go_wp2
      go_ret
      exact ⟨rfl, HMr.out, HB.out⟩
end Go.Proofs.YtgbgjecmamkdaaaDoor
