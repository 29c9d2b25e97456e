/-
  'signLength' of lex: the longest sign, asked of a map whose keys are arrays of three bytes.
-/
import Derived.Test.YtkkhohbngcdecaaDoorLxD
import Derived.Test.YtkkhohbngcdecaaDoorLxSigns
import Derived.Maps.OwnOps
import Derived.Maps.Views
import Derived.WideKeyArr
import Derived.Lib.BufferWrite
import Derived.Deep.WholeRow
namespace Go.Proofs.YtkkhohbngcdecaaDoor
open Go.RowKit Go.Maps
set_option linter.unusedVariables false

def MapIs (w : World) (b : Nat) (l : List (List UInt8)) : Prop :=
  ∃ (n : Nat) (D : DataW Unit), n ≤ l.length ∧ w.ownsMap Tryd.prog 49 (plainElem Tryd.prog 3) b n D ∧ ∀ m : List UInt8, D.atKey (.string m) (.lit (.int .i64 0)) = .lit (.int .i64 (tabK l m))

theorem markLaw : Keyed Tryd.prog 49 := Keyed.of_law (WideMaps.ArrKey.law (P := Tryd.prog) (k := 49) (e := 5) (n := 3) ⟨by kernel_rfl, by kernel_rfl, by kernel_rfl, by kernel_rfl⟩)
theorem wf_u8 (x : UInt8) : (Lit.int .u8 (x.toNat : Int)).wf = true := by
  have := x.toNat_lt
  simp [Lit.wf, IntKind.min, IntKind.max, IntKind.signed, IntKind.bits]; omega
theorem keyOf_mark (x y z : UInt8) : keyOf Tryd.prog 49 (.agg #[.int .u8 x.toNat, .int .u8 y.toNat, .int .u8 z.toNat]) = some (.string [x, y, z]) := by
  have hk : Tryd.prog.keyType 49 = true := by kernel_rfl
  have hf : (Value.agg #[.int .u8 x.toNat, .int .u8 y.toNat, .int .u8 z.toNat]).formed Tryd.prog 49 = true := by kernel_rfl
  have hx := x.toNat_lt
  have hy := y.toNat_lt
  have hz := z.toNat_lt
  unfold keyOf
  obtain ⟨m, hm⟩ : ∃ m, Tryd.prog.types.size + 1 = m + 2 := ⟨Tryd.prog.types.size - 1, by kernel_rfl⟩
  have hu := Tryd.underlying49
  have h5 := Tryd.underlying5
  have c1 : Tryd.prog.cellsOf 49 = 3 := by kernel_rfl
  have c2 : Tryd.prog.cellsOf 5 = 1 := by kernel_rfl
  simp only [hu, hk, hf, hm]
  have e : Tryd.prog.keyLits (m + 2) 49 [.int .u8 x.toNat, .int .u8 y.toNat, .int .u8 z.toNat] = some [.int .u8 x.toNat, .int .u8 y.toNat, .int .u8 z.toNat] := by
    simp [Program.keyLits, hu, h5, c1, c2, List.range_succ, wf_u8]
  have hc : (Value.agg #[.int .u8 x.toNat, .int .u8 y.toNat, .int .u8 z.toNat]).cells.toList = [.int .u8 x.toNat, .int .u8 y.toNat, .int .u8 z.toNat] := rfl
  rw [hc, e]
  have b : ∀ x : UInt8, Lit.keyBytes (.int .u8 (x.toNat : Int)) = [x] := by
    intro x
    have := x.toNat_lt
    have h : ((x.toNat : Int) % 256).toNat = x.toNat := by omega
    simp [Lit.keyBytes, IntKind.bits, bytesBE, h, bytesLE]
  simp [keyBytes, b]

theorem three (l : List UInt8) : Lib.byteCells (l.take 3) ++ List.drop (Nat.min l.length 3) [Value.int .u8 0, Value.int .u8 0, Value.int .u8 0] = [Value.int .u8 (l.getD 0 0).toNat, Value.int .u8 (l.getD 1 0).toNat, Value.int .u8 (l.getD 2 0).toNat] := by
  rcases l with _ | ⟨a, _ | ⟨b, _ | ⟨c, r⟩⟩⟩
  · rfl
  · rfl
  · rfl
  · have : Nat.min (a :: b :: c :: r).length 3 = 3 := Nat.min_eq_right (by simp)
    rw [this]; rfl
theorem run_copy_mark {P : Program} (w : World) (dT sT ty elem T : TypeId) (s : ByteArray) (hu : P.underlying dT = some (.slice elem)) (hs : (P.info? elem).map (·.size) = some 1) :
    (Builtin.copy_ #[dT, sT] ty #[.slice (some ⟨w.heap.size, 0, none⟩) 3 3, .string s]).run P (w.alloc (.cells #[.int .u8 0, .int .u8 0, .int .u8 0] T)) =
      .ok (goInt (Nat.min s.size 3 : Nat)) (w.alloc (.cells #[.int .u8 (s.data.toList.getD 0 0).toNat, .int .u8 (s.data.toList.getD 1 0).toNat, .int .u8 (s.data.toList.getD 2 0).toNat] T)) := by
  have hsz : s.size = s.data.toList.length := by simp
  have hlen : (Lib.byteCells (s.data.toList.take 3)).length = Nat.min s.size 3 := by rw [Lib.byteCells_length, List.length_take, hsz]; exact Nat.min_comm _ _
  have htk : List.take (Nat.min s.size 3) (List.map (fun b : UInt8 => Value.int IntKind.u8 (b.toNat : Int)) s.data.toList) = Lib.byteCells (s.data.toList.take 3) := by
    unfold Lib.byteCells
    rw [← List.map_take, hsz]
    congr 1
    rcases Nat.le_total s.data.toList.length 3 with h | h
    · rw [show Nat.min s.data.toList.length 3 = s.data.toList.length from Nat.min_eq_left h, List.take_length, List.take_of_length_le h]
    · rw [show Nat.min s.data.toList.length 3 = 3 from Nat.min_eq_right h]
  have hst := run_storeCells_at P w.heap.size 0 T (Lib.byteCells (s.data.toList.take 3)) 0 #[.int .u8 0, .int .u8 0, .int .u8 0] (w.alloc (.cells #[.int .u8 0, .int .u8 0, .int .u8 0] T)) (heap_alloc_new w _) (by rw [hlen]; simp; exact Nat.min_le_right _ _) (Lib.byteCells_one _)
  rw [hlen] at hst
  simp only [Nat.add_zero] at hst
  rw [World.setRow_alloc_new] at hst
  cases hq : P.info? elem with
  | none => simp [hq] at hs
  | some i =>
    have h3 := three s.data.toList
    rw [← hsz] at h3
    obtain ⟨X, hX⟩ : ∃ X : Array Value, X = #[.int .u8 (s.data.toList.getD 0 0).toNat, .int .u8 (s.data.toList.getD 1 0).toNat, .int .u8 (s.data.toList.getD 2 0).toNat] := ⟨_, rfl⟩
    have hX' : X = ([] ++ Lib.byteCells (s.data.toList.take 3) ++ List.drop (Nat.min s.size 3) [Value.int .u8 0, Value.int .u8 0, Value.int .u8 0]).toArray := by rw [List.nil_append, h3, hX]
    rw [← hX, hX']
    simp [Builtin.copy_, run_underlying hu, Builtin.lenOf, Builtin.firstCells, sizeOf, typeInfo, hq]
    rw [htk, hst]
    simp [Result.andThen]

theorem zeroInt (w : World) : (zeroValue 3).run Tryd.prog w = .ok (.int .i64 0) w := by kernel_rfl
theorem info8 : (Tryd.prog.info? 5).map (·.size) = some 1 := by kernel_rfl
theorem goal_int {a b : Int} {w w' : World} {P : Prop} (h : a = b) (hp : P) : Ending.returned (.int .i64 a) = .returned (.int .i64 b) ∧ P := ⟨by rw [h], hp⟩
theorem atKey_nat {D : DataW Unit} {l : Lit} {c : Int} {n : Nat} (h : D.atKey l (.lit (.int .i64 0)) = .lit (.int .i64 c)) (h2 : D.atKey l (.lit (.int .i64 0)) = .lit (.int .i64 n)) : c = n := by
  rw [h] at h2; injection h2 with h2; injection h2
/-- Where the search for the longest sign is. -/
def SLRel (w : World) (x y z : UInt8) (r : List UInt8) (i : Value) (wr : World) : Prop :=
  (i = .int .i64 2 ∧ wr = w.alloc (.cells #[.int .u8 x.toNat, .int .u8 y.toNat, .int .u8 z.toNat] 49) ∧ sg r = sg3 x y z) ∨
  (i = .int .i64 1 ∧ wr = w.alloc (.cells #[.int .u8 x.toNat, .int .u8 y.toNat, .int .u8 0] 49) ∧ sg r = sg2 x y) ∨
  (i = .int .i64 0 ∧ wr = w.alloc (.cells #[.int .u8 x.toNat, .int .u8 0, .int .u8 0] 49) ∧ sg r = sg1 x) ∨
  (i = .int .i64 (-1) ∧ wr = w.alloc (.cells #[.int .u8 0, .int .u8 0, .int .u8 0] 49) ∧ sg r = 0)
set_option maxRecDepth 100000 in
theorem signLength_any (s : ByteArray) (b : Nat) (w : World) (hM : MapIs w b signsL) : Calls Tryd.prog 28 #[.string s, .map (some b)] w fun e w' => e = .returned (.int .i64 (sg s.data.toList)) ∧ Below w.heap.size w w' := by
  obtain ⟨n, D, _, hown0, hD0⟩ := hM
  have hown := Lib.hid hown0
  have hD := Lib.hid hD0
  clear hown0 hD0
  have hcp := run_copy_mark (P := Tryd.prog) w 31 9 3 5 49 s (by kernel_rfl) info8
  obtain ⟨x, hx⟩ : ∃ x, x = s.data.toList.getD 0 0 := ⟨_, rfl⟩
  obtain ⟨y, hy⟩ : ∃ x, x = s.data.toList.getD 1 0 := ⟨_, rfl⟩
  obtain ⟨z, hz⟩ : ∃ x, x = s.data.toList.getD 2 0 := ⟨_, rfl⟩
  rw [← hx, ← hy, ← hz] at hcp
  have HX := Lib.hid hx
  have HY := Lib.hid hy
  have HZ := Lib.hid hz
  clear hx hy hz
  go_enter Tryd.func28, Tryd.ntmps28
  go_wp2
  go_loopw [6, 7] (fun i t wr => SLRel w x y z s.data.toList i wr) (fun i _ _ => (intOf i + 1).toNat)
  case atStart => exact .inl ⟨rfl, rfl, by rw [sg, ← HX.out, ← HY.out, ← HZ.out]⟩
  case round =>
    rcases hrel with hrel | hrel | hrel | hrel
    · obtain ⟨rfl, rfl, hr⟩ := hrel
      have H := Lib.hid hr
      clear hr
      by_cases hp : 0 < tabK signsL [x, y, z]
      · go_wp2_with (at_lookup; refine wpList_lookup_own_int _ rfl _ _ 36 rfl 49 3 .i64 markLaw Tryd.underlying36 Tryd.underlying3 (zeroInt _) b n D rfl (hown.out.alloc _) _ (.string [x, y, z]) rfl (keyOf_mark x y z) ?_; intro c hat hwc; obtain rfl := atKey_nat hat (hD.out _); clear hat hwc)
        go_ret
        exact ⟨ret_int (by rw [H.out, sg3_yes hp]), (Below.refl _ _).alloc (Nat.le_refl _) _⟩
      · go_wp2_with (at_lookup; refine wpList_lookup_own_int _ rfl _ _ 36 rfl 49 3 .i64 markLaw Tryd.underlying36 Tryd.underlying3 (zeroInt _) b n D rfl (hown.out.alloc _) _ (.string [x, y, z]) rfl (keyOf_mark x y z) ?_; intro c hat hwc; obtain rfl := atKey_nat hat (hD.out _); clear hat hwc)
        go_roundw
        case rel => exact .inr (.inl ⟨rfl, rfl, by rw [H.out, sg3_no hp]⟩)
        case measure => simp [intOf]
    · obtain ⟨rfl, rfl, hr⟩ := hrel
      have H := Lib.hid hr
      clear hr
      by_cases hp : 0 < tabK signsL [x, y, 0]
      · go_wp2_with (at_lookup; refine wpList_lookup_own_int _ rfl _ _ 36 rfl 49 3 .i64 markLaw Tryd.underlying36 Tryd.underlying3 (zeroInt _) b n D rfl (hown.out.alloc _) _ (.string [x, y, 0]) rfl (keyOf_mark x y 0) ?_; intro c hat hwc; obtain rfl := atKey_nat hat (hD.out _); clear hat hwc)
        go_ret
        exact ⟨ret_int (by rw [H.out, sg2_yes hp]), (Below.refl _ _).alloc (Nat.le_refl _) _⟩
      · go_wp2_with (at_lookup; refine wpList_lookup_own_int _ rfl _ _ 36 rfl 49 3 .i64 markLaw Tryd.underlying36 Tryd.underlying3 (zeroInt _) b n D rfl (hown.out.alloc _) _ (.string [x, y, 0]) rfl (keyOf_mark x y 0) ?_; intro c hat hwc; obtain rfl := atKey_nat hat (hD.out _); clear hat hwc)
        go_roundw
        case rel => exact .inr (.inr (.inl ⟨rfl, rfl, by rw [H.out, sg2_no hp]⟩))
        case measure => simp [intOf]
    · obtain ⟨rfl, rfl, hr⟩ := hrel
      have H := Lib.hid hr
      clear hr
      by_cases hp : 0 < tabK signsL [x, 0, 0]
      · go_wp2_with (at_lookup; refine wpList_lookup_own_int _ rfl _ _ 36 rfl 49 3 .i64 markLaw Tryd.underlying36 Tryd.underlying3 (zeroInt _) b n D rfl (hown.out.alloc _) _ (.string [x, 0, 0]) rfl (keyOf_mark x 0 0) ?_; intro c hat hwc; obtain rfl := atKey_nat hat (hD.out _); clear hat hwc)
        go_ret
        exact ⟨ret_int (by rw [H.out, sg1_yes hp]), (Below.refl _ _).alloc (Nat.le_refl _) _⟩
      · go_wp2_with (at_lookup; refine wpList_lookup_own_int _ rfl _ _ 36 rfl 49 3 .i64 markLaw Tryd.underlying36 Tryd.underlying3 (zeroInt _) b n D rfl (hown.out.alloc _) _ (.string [x, 0, 0]) rfl (keyOf_mark x 0 0) ?_; intro c hat hwc; obtain rfl := atKey_nat hat (hD.out _); clear hat hwc)
        go_roundw
        case rel => exact .inr (.inr (.inr ⟨rfl, rfl, by rw [H.out, sg1_no hp]⟩))
        case measure => simp [intOf]
    · obtain ⟨rfl, rfl, hr⟩ := hrel
      have H := Lib.hid hr
      clear hr
      go_wp2
      go_ret
      exact ⟨ret_int (by rw [H.out]; rfl), (Below.refl _ _).alloc (Nat.le_refl _) _⟩
end Go.Proofs.YtkkhohbngcdecaaDoor
