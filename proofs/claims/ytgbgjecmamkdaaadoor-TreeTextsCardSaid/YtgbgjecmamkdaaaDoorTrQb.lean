/-
  The page's numbers.
-/
import Derived.Test.YtgbgjecmamkdaaaDoorTrQa
namespace Go.Proofs.YtgbgjecmamkdaaaDoor
open Go.RowKit
set_option linter.unusedVariables false
set_option linter.unusedSimpArgs false
set_option maxRecDepth 100000
set_option maxHeartbeats 2000000

theorem u64_max : IntKind.u64.max = 18446744073709551615 := by decide
theorem not_u64 (x : Nat) (h : x < 18446744073709551616) : bits .xor .u64 IntKind.u64.max (x : Int) = ((18446744073709551615 - x : Nat) : Int) := by
  rw [u64_max, show (18446744073709551615 : Int) = ((18446744073709551615 : Nat) : Int) from rfl, u64_xor_nat _ _ (by decide) h]
  have := Lib.xor_ones64 x (by omega)
  exact congrArg _ this
theorem neg_u64 (n : Int) (hn : I64 n) (h : n < 0) : IntKind.u64.wrap (bits .xor .u64 IntKind.u64.max (IntKind.u64.wrap n) + 1) = ((n.natAbs : Nat) : Int) := by
  obtain ⟨h1, h2⟩ := hn
  have e : IntKind.u64.wrap n = ((18446744073709551616 - n.natAbs : Nat) : Int) := by
    simp [IntKind.wrap, IntKind.signed, IntKind.bits]; omega
  rw [e, not_u64 _ (by omega)]
  simp [IntKind.wrap, IntKind.signed, IntKind.bits]; omega
theorem pos_u64 (n : Int) (hn : I64 n) (h : 0 ≤ n) : IntKind.u64.wrap n = ((n.natAbs : Nat) : Int) := by
  obtain ⟨h1, h2⟩ := hn
  simp [IntKind.wrap, IntKind.signed, IntKind.bits]; omega
def digB (k : Nat) : UInt8 := UInt8.ofNat (48 + k % 10)
theorem digB_nat (k : Nat) : (digB k).toNat = 48 + k % 10 := by
  unfold digB
  rw [UInt8.toNat_ofNat']
  omega
theorem dig_conv (w : World) (k : Nat) : (convert 64 9 (.slice (some ⟨w.heap.size, 0, none⟩) 1 1)).run Tryd.prog (w.alloc (.cells #[.int .u8 (48 + (k : Int) % 10)] 5)) = .ok (.string ⟨[digB k].toArray⟩) (w.alloc (.cells #[.int .u8 (48 + (k : Int) % 10)] 5)) := by
  refine run_convert_bytes_back _ _ _ 5 ⟨w.heap.size, 0, none⟩ 1 [digB k] Tryd.underlying64 Tryd.underlying5 Tryd.underlying9 ?_
  intro j hj
  obtain rfl : j = 0 := by simpa using hj
  have := (OwnB.new (w := w) (cs := #[.int .u8 (48 + (k : Int) % 10)]) (T := 5) rfl).facts.1 0
  have e := digB_nat k
  rw [show (⟨w.heap.size, 0, none⟩ : Addr).add 0 = ⟨w.heap.size, 0, none⟩ from rfl, this]
  simp [e]
theorem dec_small (k : Nat) (h : k < 10) : Lib.decDigits k = [digB k] := by
  rw [Lib.decDigits, dif_pos h]
  unfold digB
  rw [Nat.mod_eq_of_lt h]
theorem dec_big (k : Nat) (h : ¬ k < 10) : Lib.decDigits k = Lib.decDigits (k / 10) ++ [digB k] := by
  rw [Lib.decDigits, dif_neg h]
  rfl
theorem ba_app (a b : List UInt8) : (⟨a.toArray⟩ : ByteArray) ++ ⟨b.toArray⟩ = ⟨(a ++ b).toArray⟩ := by
  apply ByteArray.ext
  simp [ByteArray.data_append]
theorem dec_len (k : Nat) (h : k ≤ 9223372036854775808) : (Lib.decDigits k).length ≤ 40 := by
  have h1 := head_len 1 (-(k : Int)) (by omega) (by omega)
  have h2 : headT 1 (-(k : Int)) = wordV 1 ++ (40 :: Lib.itoa (-(k : Int))) := rfl
  rw [h2] at h1
  simp only [List.length_append, List.length_cons] at h1
  unfold Lib.itoa at h1
  by_cases h0 : k = 0
  · subst h0
    rw [Lib.decDigits]
    simp
  · rw [if_pos (by omega)] at h1
    have e : (-(k : Int)).natAbs = k := by omega
    rw [e] at h1
    simp only [List.length_cons] at h1
    omega
theorem decimal_page (n : Int) (hn : I64 n) (w : World) : Calls Tryd.prog 35 #[.int .i64 n] w fun e w' => e = .returned (.string ⟨(Lib.itoa n).toArray⟩) ∧ Below w.heap.size w w' := by
  have hn1 := hn.1
  have hn2 := hn.2
  have HL := Lib.hid (dec_len n.natAbs (by omega))
  by_cases hneg : n < 0
  · have hs := neg_u64 n hn hneg
    go_enter Tryd.func35, Tryd.ntmps35
    go_wp2_with fail
    go_loopw [3, 4, 12, 13, 14, 15, 16, 17, 18, 19, 20, 21, 22, 23] (fun u s _ _ _ _ _ _ _ _ _ _ _ _ wr => ∃ (k : Nat) (l : List UInt8), k < 18446744073709551616 ∧ u = .int .u64 (k : Int) ∧ s = .string ⟨l.toArray⟩ ∧ Lib.decDigits n.natAbs = Lib.decDigits k ++ l ∧ Below w.heap.size w wr) (fun u s _ _ _ _ _ _ _ _ _ _ _ _ _ => (intOf u).toNat)
    case atStart => exact ⟨n.natAbs, [], by omega, rfl, rfl, by simp, Below.refl _ _⟩
    case round =>
      obtain ⟨k, l, hk, rfl, rfl, hd, hb⟩ := hrel
      have HB := Lib.hid hb
      have e1 : ((k : Int)).tmod 10 = ((k % 10 : Nat) : Int) := (Int.ofNat_tmod k 10).symm
      have e2 : ((k : Int)).tdiv 10 = ((k / 10 : Nat) : Int) := (Int.ofNat_tdiv k 10).symm
      have hl : l.length ≤ 40 := by
        have h1 := congrArg List.length hd
        rw [List.length_append] at h1
        have h2 := HL.out
        omega
      have happ : (⟨#[digB k]⟩ : ByteArray) ++ ⟨l.toArray⟩ = ⟨(digB k :: l).toArray⟩ := ba_app [digB k] l
      have happ2 : (⟨#[45]⟩ : ByteArray) ++ ⟨(digB k :: l).toArray⟩ = ⟨(45 :: (digB k :: l)).toArray⟩ := ba_app [45] (digB k :: l)
      have hcv := dig_conv wr k
      clear hb
      by_cases hk10 : k < 10
      · have h10 : ((k : Int) / 10 == 0) = true := by simp; omega
        rw [dec_small k hk10] at hd
        go_wp2_with fail
        go_ret
        refine ⟨?_, ((Keeps.of_below HB.out).then_ (G := []) (H := []) Keeps.au (by simp)).below⟩
        unfold Lib.itoa
        rw [if_pos hneg, hd]
        simp
      · have h10 : ((k : Int) / 10 == 0) = false := by simp; omega
        rw [dec_big k hk10, List.append_assoc] at hd
        go_wp2_with fail
        go_roundw
        case measure => simp [intOf]; omega
        case rel => exact ⟨k / 10, digB k :: l, by omega, by simp, rfl, by simpa using hd, ((Keeps.of_below HB.out).then_ (G := []) (H := []) Keeps.au (by simp)).below⟩
  · have h0 : 0 ≤ n := by omega
    have hs := pos_u64 n hn h0
    go_enter Tryd.func35, Tryd.ntmps35
    go_wp2_with fail
    go_loopw [3, 4, 12, 13, 14, 15, 16, 17, 18, 19, 20, 21, 22, 23] (fun u s _ _ _ _ _ _ _ _ _ _ _ _ wr => ∃ (k : Nat) (l : List UInt8), k < 18446744073709551616 ∧ u = .int .u64 (k : Int) ∧ s = .string ⟨l.toArray⟩ ∧ Lib.decDigits n.natAbs = Lib.decDigits k ++ l ∧ Below w.heap.size w wr) (fun u s _ _ _ _ _ _ _ _ _ _ _ _ _ => (intOf u).toNat)
    case atStart => exact ⟨n.natAbs, [], by omega, rfl, rfl, by simp, Below.refl _ _⟩
    case round =>
      obtain ⟨k, l, hk, rfl, rfl, hd, hb⟩ := hrel
      have HB := Lib.hid hb
      have e1 : ((k : Int)).tmod 10 = ((k % 10 : Nat) : Int) := (Int.ofNat_tmod k 10).symm
      have e2 : ((k : Int)).tdiv 10 = ((k / 10 : Nat) : Int) := (Int.ofNat_tdiv k 10).symm
      have hl : l.length ≤ 40 := by
        have h1 := congrArg List.length hd
        rw [List.length_append] at h1
        have h2 := HL.out
        omega
      have happ : (⟨#[digB k]⟩ : ByteArray) ++ ⟨l.toArray⟩ = ⟨(digB k :: l).toArray⟩ := ba_app [digB k] l
      have happ2 : (⟨#[45]⟩ : ByteArray) ++ ⟨(digB k :: l).toArray⟩ = ⟨(45 :: (digB k :: l)).toArray⟩ := ba_app [45] (digB k :: l)
      have hcv := dig_conv wr k
      clear hb
      by_cases hk10 : k < 10
      · have h10 : ((k : Int) / 10 == 0) = true := by simp; omega
        rw [dec_small k hk10] at hd
        go_wp2_with fail
        go_ret
        refine ⟨?_, ((Keeps.of_below HB.out).then_ (G := []) (H := []) Keeps.au (by simp)).below⟩
        unfold Lib.itoa
        rw [if_neg (by omega), show n.toNat = n.natAbs by omega, hd]
        simp
      · have h10 : ((k : Int) / 10 == 0) = false := by simp; omega
        rw [dec_big k hk10, List.append_assoc] at hd
        go_wp2_with fail
        go_roundw
        case measure => simp [intOf]; omega
        case rel => exact ⟨k / 10, digB k :: l, by omega, by simp, rfl, by simpa using hd, ((Keeps.of_below HB.out).then_ (G := []) (H := []) Keeps.au (by simp)).below⟩
end Go.Proofs.YtgbgjecmamkdaaaDoor
