/-
  'Tokens' of the reference: what 'lexR' tells.
-/
import Derived.Test.YtkkhohbngcdecaaDoorLxRb
import Derived.Test.YtkkhohbngcdecaaDoorLxRl
import Derived.Test.YtkkhohbngcdecaaDoorLxRn
import Derived.Test.YtkkhohbngcdecaaDoorLxRs
namespace Go.Proofs.YtkkhohbngcdecaaDoor
open Go.RowKit Go.Maps
set_option linter.unusedVariables false
set_option maxRecDepth 1000000 in
set_option maxHeartbeats 4000000 in
theorem refTokens_ok (s : ByteArray) (w : World) (hs : s.size ≤ 2000) :
    Calls Tryd.prog 8 #[.string s] w (TokRes w (SS s.data.toList 0 [])) := by
  obtain ⟨i0, hi, hz0, hz1, hz2⟩ := info_parts infoTok
  have hsm : s.size ≤ 9223372036854775807 := by omega
  go_enter Tryd.func8, Tryd.ntmps8
  go_wp2_with fail
  obtain ⟨w1, hw1⟩ : ∃ w1 : World, w1 = w.alloc (.cells #[.int .i64 0, .int .i64 0] 26) := ⟨_, rfl⟩
  have hblk : w1.heap[w.heap.size]? = some (.cells #[.int .i64 0, .int .i64 0] 26 (0, 0)) := by rw [hw1]; exact heap_alloc_new w _
  have HB0 : Hid (Below w.heap.size w w1) := Lib.hid (by rw [hw1]; exact (Below.refl _ _).alloc (Nat.le_refl _) _)
  have hww : w.heap.size + 1 ≤ w1.heap.size := by rw [hw1]; simp
  have HK := Lib.hid hblk
  rw [← hw1]
  clear hblk hw1
  go_loopw [4, 5, 6, 7, 8, 9, 10, 11, 12, 13] (fun v i _ _ _ _ _ _ _ _ wr => ∃ k acc, AtR s k acc ∧ i = .int .i64 k ∧ wr.ownsRow w1.heap.size 34 4 v acc.length (toksC acc) ∧ Below w1.heap.size w1 wr) (fun _ i _ _ _ _ _ _ _ _ _ => s.size - (intOf i).toNat)
  case atStart => exact ⟨0, [], ⟨Nat.zero_le _, Nat.le_refl _, rfl⟩, rfl, World.ownsRow_nil _ _ _ _, Below.refl _ _⟩
  case round =>
    obtain ⟨k, acc, hat, rfl, hown, hbel⟩ := hrel
    obtain ⟨wo, rfl⟩ : ∃ wo : World, wo = wr := ⟨_, rfl⟩
    have hkle := hat.le
    have hfew := hat.few
    have HA := Lib.hid hat
    have HO := Lib.hid hown
    have HB := Lib.hid hbel
    clear hat hown hbel
    by_cases hlt : k < s.size
    · cases hbl : isBl s[k] with
      | true => exact round_blank hs hi hz0 hz1 hz2 hsm HB0 hww HK hkle hfew HA HO HB hlt hbl
      | false =>
        cases hl : isLet s[k] with
        | true => exact round_let hs hi hz0 hz1 hz2 hsm HB0 hww HK hkle hfew HA HO HB hlt hbl hl
        | false =>
          cases hd : isDig s[k] with
          | true => exact round_numb hs hi hz0 hz1 hz2 hsm HB0 hww HK hkle hfew HA HO HB hlt hbl hl hd
          | false => exact round_sgn hs hi hz0 hz1 hz2 hsm HB0 hww HK hkle hfew HA HO HB hlt hbl hl hd
    · have hR := HA.out.done hlt
      have HRes := Lib.hid hR
      have hdk : decide ((k : Int) < (s.size : Int)) = false := by simp; omega
      have hrs : w1.heap.size ≤ wo.heap.size := HB.out.size
      clear hR
      go_wp2_with (at_builtin; refine wpList_append_own _ rfl _ _ 24 rfl w1.heap.size 34 i0 _ 4 40 Tryd.underlying24 hi hz0 hz1 hz2 rfl (by decide) _ _ _ rfl (HO.out.alloc _) ⟨wo.heap.size, 0, none⟩ 1 1 (tokC ⟨0, [], 0, s.size⟩) rfl rfl ?c1 ?c2 ?c3 ?c4 ?c5 ?_; rotate_right; intro v' w2 hown' hgrow _; have hB2 : Below w1.heap.size w1 w2 := (HB.out.alloc hrs _).grown hgrow (by simp; omega) (fun k hk => (HO.out.lt k hk).1); have hblk := blk_at (w1 := w1) HK.out hB2; have c0 : w2.cell? ⟨w.heap.size, 0, none⟩ = some (.int .i64 0) := blk_cell hblk 0; have c1 : w2.cell? ⟨w.heap.size, 1, none⟩ = some (.int .i64 0) := blk_cell hblk 1; have f0 : w2.frozen? ⟨w.heap.size, 0, none⟩ = false := blk_frozen hblk 0; have f1 : w2.frozen? ⟨w.heap.size, 1, none⟩ = false := blk_frozen hblk 1; have hsz : w.heap.size < w2.heap.size := (by have := hB2.size; omega); have HB2 := Lib.hid hB2; clear hB2 hblk; have HO2 := Lib.hid hown'; clear hown' hgrow)
      case c1 => exact news_at wo 34 ⟨0, [], 0, s.size⟩
      case c2 => exact news_one _
      case c3 => unfold maxLen; omega
      case c4 => omega
      case c5 => first | omega | (simp; omega)
      go_wp2_with fail
      refine bodyPost_ret (v := .tuple #[v', .agg #[.int .i64 0, .int .i64 0]]) (by simp [results, Tryd.results8, go_sem, c0, c1]) rfl ?_
      exact TokRes.ok_ HRes.out hww HO2.out HB0.out HB2.out _ _
theorem refTokens_any (s : ByteArray) (w : World) (hs : s.size ≤ maxLen) :
    Calls Tryd.prog 8 #[.string s] w (TokRes w (lexR s.data.toList)) := by
  have e : s.data.toList.length = s.size := by simp
  by_cases h : 2000 < s.size
  · refine (refTokens_long s w h hs).mono ?_
    rintro e' w' ⟨rfl, hb⟩
    exact TokRes.bad (by rw [lexR, if_pos (by omega)]) hb
  · rw [lexR, if_neg (by omega)]
    exact refTokens_ok s w (by omega)
end Go.Proofs.YtkkhohbngcdecaaDoor
