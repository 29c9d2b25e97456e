/-
  'LexTokens', walked.
-/
import Derived.Test.YtkkhohbngcdecaaDoorLxL
import Derived.Test.YtkkhohbngcdecaaDoorLxJ
import Derived.Laws.BytesArg
import Derived.Laws.MakeOwn
namespace Go.Proofs.YtkkhohbngcdecaaDoor
open Go.ChangeShapes Go.WideShapes Go.ChangeAt Go.RowKit Go.Deep Go.Maps
set_option linter.unusedVariables false
theorem tab_below {w w' : World} (h : Lib.TabIs Tryd.prog w "strings.asciiSpace" .u8 Lib.asciiSpaceTab) (hb : Below w.heap.size w w') : Lib.TabIs Tryd.prog w' "strings.asciiSpace" .u8 Lib.asciiSpaceTab :=
  Joins.tab_stays (g := 0) (by kernel_rfl) h hb (Nat.le_refl _)
theorem lexLong (w : World) (s : ByteArray) (hs : s.size = 2001) (htab : Lib.TabIs Tryd.prog w "strings.asciiSpace" .u8 Lib.asciiSpaceTab) :
    Calls Tryd.prog 7 #[.string s] w fun e w' => e = .returned (.tuple #[.slice none 0 0, .agg #[.int .i64 2, .int .i64 0]]) ∧ Below w.heap.size w w' := lexTokens_long s w (by omega) (by unfold maxLen; omega)
theorem infoByte : (Tryd.prog.info? 5).map (fun i => (i.zero, i.size, i.bytes)) = some (some (.int .u8 0), 1, 1) := by kernel_rfl
theorem rep0 (N j : Nat) : (List.replicate N (0 : Int)).getD j 0 = 0 := by
  simp only [List.getD, List.getElem?_replicate]; split <;> rfl
/-- make([]byte, 2001), and what a string of it is. -/
theorem zeros : ∃ (Z : Array Value) (Y : ByteArray), Y.size = 2001 ∧
    (∀ W : World, (Instr.makeSlice 31 (.int .i64 2001) (.int .i64 2001)).run Tryd.prog W = .ok (.slice (some ⟨W.heap.size, 0, none⟩) 2001 2001) (W.alloc (.cells Z 5))) ∧
    (∀ W : World, (convert 31 9 (.slice (some ⟨W.heap.size, 0, none⟩) 2001 2001)).run Tryd.prog (W.alloc (.cells Z 5)) = .ok (.string Y) (W.alloc (.cells Z 5))) := by
  obtain ⟨i, hi, hz, hsz, hby⟩ := info_parts infoByte
  refine ⟨madeCells #[.int .u8 0] 2001, strOfNums (List.replicate 2001 0), ?_, ?_, ?_⟩
  · rw [strOfNums_size, List.length_replicate]
  · intro W
    have h := run_make (P := Tryd.prog) W 31 5 i _ Tryd.underlying31 hi hz .i64 .i64 2001 2001 (by omega) (by omega) (by rw [hby]; omega) (by omega)
    rw [hsz] at h
    exact h
  · intro W
    refine run_convert_bytes_arg (P := Tryd.prog) (W.alloc (.cells (madeCells #[.int .u8 0] 2001) 5)) 31 5 Tryd.underlying31 Tryd.underlying5 W.heap.size 0 2001 2001 (List.replicate 2001 0) (List.length_replicate ..) ?_ 9 Tryd.underlying9
    intro j hj
    rw [blk_cell (heap_alloc_new W _)]
    rw [rep0]
    simp only [Nat.zero_add, madeCells]
    rw [Array.getElem?_map, Array.getElem?_range]
    simp [hj, Nat.mod_one]
set_option maxRecDepth 100000 in
theorem lexTokensLaw_some (w : World) (b off n c : Nat) (D : Nat → ByteArray) (hc : ∀ i, i < n → w.cell? ⟨b, off + i, none⟩ = some (.string (D i))) (hb : b < w.heap.size) (hn : n ≤ 9223372036854775807) (hs : ∀ i, (D i).size ≤ maxLen)
    (htab : Lib.TabIs Tryd.prog w "strings.asciiSpace" .u8 Lib.asciiSpaceTab) :
    Calls Tryd.prog 3 #[.slice (some ⟨b, off, none⟩) n c] w fun e w' => e = .returned (.bool true) ∧ Below w.heap.size w w' := by
  have CH := Lib.hid (heavy_some w b off n c D hc hn hs)
  have HC := Lib.hid hc
  have HS := Lib.hid hs
  have HT := Lib.hid htab
  clear hc hs htab
  go_enter Tryd.func3, Tryd.ntmps3
  go_wp2_with fail
  refine CH.out.mono ?_
  rintro e w' ⟨hv, rfl, rfl⟩
  cases hv with
  | true =>
    go_wp2_with fail
    go_ret
    exact ⟨rfl, Below.refl _ _⟩
  | false =>
    go_wp2_with fail
    go_loopw [3, 4, 5, 6, 7] (fun i _ _ _ _ wr => ∃ k : Nat, k ≤ n ∧ k ≤ 10 ∧ i = .int .i64 k ∧ Below w.heap.size w wr) (fun i _ _ _ _ _ => 10 - (intOf i).toNat)
    case atStart => exact ⟨0, Nat.zero_le _, by omega, rfl, Below.refl _ _⟩
    case round =>
      obtain ⟨k, hk, hk10, rfl, hbel⟩ := hrel
      have HB := Lib.hid hbel
      clear hbel
      by_cases hgo : k < n ∧ k < 10
      · obtain ⟨hlt, h10⟩ := hgo
        have hcell : wr.cell? ⟨b, off + k, none⟩ = some (.string (D k)) := (HB.out.cell hb).trans (HC.out k hlt)
        have cl := lexTokens_any (D k) wr (HS.out k) (tab_below HT.out HB.out)
        have cr := fun W => refTokens_any (D k) W (HS.out k)
        obtain ⟨R, hR⟩ : ∃ R, R = lexR (D k).data.toList := ⟨_, rfl⟩
        rw [← hR] at cl cr
        have CL := Lib.hid cl
        have CR := fun W => Lib.hid (cr W)
        clear hR cl cr
        go_wp2_with fail
        refine CL.out.mono ?_
        rintro e w1 ⟨v1, rfl, hown1, hb1⟩
        have hc1 : w1.cell? ⟨b, off + k, none⟩ = some (.string (D k)) := (hb1.cell (by have := HB.out.size; show b < _; omega)).trans hcell
        have HB1 := Lib.hid (HB.out.trans (hb1.mono HB.out.size))
        have HO1 := Lib.hid hown1
        have hs1 : wr.heap.size ≤ w1.heap.size := hb1.size
        have hsw : w.heap.size ≤ wr.heap.size := HB.out.size
        have hbl : b < w1.heap.size := by omega
        clear hb1 hown1 hcell
        go_wp2_with fail
        refine (CR _).out.mono ?_
        rintro e w2 ⟨v2, rfl, hown2, hb2⟩
        have hO1 := own_below (HO1.out.alloc (.cells #[.int .i64 R.err, .int .i64 R.at] 26)) hb2
        have HB2 := Lib.hid ((HB1.out.alloc (by omega) _).trans (hb2.mono (by simp; omega)))
        have hblk : w2.heap[w1.heap.size]? = some (.cells #[.int .i64 R.err, .int .i64 R.at] 26 (0, 0)) := (hb2.block _ (by simp)).trans (heap_alloc_new w1 _)
        have c0 : w2.cell? ⟨w1.heap.size, 0, none⟩ = some (.int .i64 R.err) := blk_cell hblk 0
        have c1 : w2.cell? ⟨w1.heap.size, 1, none⟩ = some (.int .i64 R.at) := blk_cell hblk 1
        have hs2 : w1.heap.size + 1 ≤ w2.heap.size := by have := hb2.size; simpa using this
        have hs3 : w1.heap.size < w2.heap.size := by omega
        have CE := Lib.hid (eqTokens_any _ _ _ _ _ _ (hO1.alloc (.cells #[.int .i64 R.err, .int .i64 R.at] 26)) (hown2.alloc (.cells #[.int .i64 R.err, .int .i64 R.at] 26)))
        have HO := Lib.hid (hO1.alloc (.cells #[.int .i64 R.err, .int .i64 R.at] 26))
        clear hb2 hblk hO1 hown2
        go_wp2_with fail
        refine CE.out.mono ?_
        rintro e w3 ⟨rfl, m, rfl⟩
        have CS := fun W (h : World.ownsRow W wr.heap.size 34 4 v1 R.toks.length (toksC R.toks)) => Lib.hid (spoil_any W wr.heap.size v1 _ _ h)
        go_wp2_with fail
        refine (CS _ (by exact HO.out)).out.mono ?_
        rintro e w4 ⟨rfl, hg⟩
        have HB4 := Lib.hid ((below_drewN (HB2.out.alloc (by omega) (.cells #[.int .i64 R.err, .int .i64 R.at] 26)) m).grown hg (by show _ ≤ (World.alloc _ _).heap.size; simp; omega) (fun g hgg => Nat.le_trans hsw (HO.out.lt g hgg).1))
        clear hg
        go_wp2_with fail
        go_roundw
        case rel => exact ⟨k + 1, by omega, by omega, by go_num, HB4.out⟩
        case measure => simp [intOf]; omega
      · obtain ⟨Z, Y, hY, hmk, hcv⟩ := zeros
        have CL := fun W h => Lib.hid (lexLong W Y hY h)
        have CW := fun W h => Lib.hid (wakes_any W h)
        clear hY
        by_cases hlt : k < n
        · have h10 : ¬ k < 10 := fun h => hgo ⟨hlt, h⟩
          have hd : decide ((k : Int) < 10) = false := by simp; omega
          clear hgo
          go_wp2_with fail
          refine (CL _ (tab_below HT.out (HB.out.alloc HB.out.size _))).out.mono ?_
          rintro e w1 ⟨rfl, hb1⟩
          have HB1 := Lib.hid ((HB.out.alloc HB.out.size (.cells Z 5)).trans (hb1.mono (by simp; have := HB.out.size; omega)))
          clear hb1
          go_wp2_with fail
          refine (CW _ (tab_below HT.out (HB1.out.alloc HB1.out.size _))).out.mono ?_
          rintro e w2 ⟨rfl, hb2⟩
          have HB2 := Lib.hid ((HB1.out.alloc HB1.out.size (.cells #[.int .i64 2, .int .i64 0] 26)).trans (hb2.mono (by simp; have := HB1.out.size; omega)))
          clear hb2
          go_wp2_with fail
          go_ret
          exact ⟨rfl, HB2.out⟩
        · clear hgo
          go_wp2_with fail
          refine (CL _ (tab_below HT.out (HB.out.alloc HB.out.size _))).out.mono ?_
          rintro e w1 ⟨rfl, hb1⟩
          have HB1 := Lib.hid ((HB.out.alloc HB.out.size (.cells Z 5)).trans (hb1.mono (by simp; have := HB.out.size; omega)))
          clear hb1
          go_wp2_with fail
          refine (CW _ (tab_below HT.out (HB1.out.alloc HB1.out.size _))).out.mono ?_
          rintro e w2 ⟨rfl, hb2⟩
          have HB2 := Lib.hid ((HB1.out.alloc HB1.out.size (.cells #[.int .i64 2, .int .i64 0] 26)).trans (hb2.mono (by simp; have := HB1.out.size; omega)))
          clear hb2
          go_wp2_with fail
          go_ret
          exact ⟨rfl, HB2.out⟩
theorem lexTokensLaw_none (w : World) (A : Option Addr) (c : Nat) (htab : Lib.TabIs Tryd.prog w "strings.asciiSpace" .u8 Lib.asciiSpaceTab) :
    Calls Tryd.prog 3 #[.slice A 0 c] w fun e w' => e = .returned (.bool true) ∧ Below w.heap.size w w' := by
  have CH := Lib.hid (heavy_none w A c)
  have HT := Lib.hid htab
  clear htab
  go_enter Tryd.func3, Tryd.ntmps3
  go_wp2_with fail
  refine CH.out.mono ?_
  rintro e w' ⟨hv, rfl, rfl⟩
  cases hv with
  | true =>
    go_wp2_with fail
    go_ret
    exact ⟨rfl, Below.refl _ _⟩
  | false =>
    go_wp2_with fail
    go_loop [3] (fun i => i = .int .i64 0) (fun _ => 0)
    case atStart => exact rfl
    case round =>
      obtain rfl := hrel
      have HB := Lib.hid (Below.refl w.heap.size w)
      obtain ⟨Z, Y, hY, hmk, hcv⟩ := zeros
      have CL := fun W h => Lib.hid (lexLong W Y hY h)
      have CW := fun W h => Lib.hid (wakes_any W h)
      clear hY
      go_wp2_with fail
      refine (CL _ (tab_below HT.out (HB.out.alloc HB.out.size _))).out.mono ?_
      rintro e w1 ⟨rfl, hb1⟩
      have HB1 := Lib.hid ((HB.out.alloc HB.out.size (.cells Z 5)).trans (hb1.mono (by simp)))
      clear hb1
      go_wp2_with fail
      refine (CW _ (tab_below HT.out (HB1.out.alloc HB1.out.size _))).out.mono ?_
      rintro e w2 ⟨rfl, hb2⟩
      have HB2 := Lib.hid ((HB1.out.alloc HB1.out.size (.cells #[.int .i64 2, .int .i64 0] 26)).trans (hb2.mono (by simp; have := HB1.out.size; omega)))
      clear hb2
      go_wp2_with fail
      go_ret
      exact ⟨rfl, HB2.out⟩
theorem lexTokensLaw_any {v : Value} {w : World} (h : StrArg w v) (htab : Lib.TabIs Tryd.prog w "strings.asciiSpace" .u8 Lib.asciiSpaceTab) :
    Calls Tryd.prog 3 #[v] w fun e w' => e = .returned (.bool true) ∧ Below w.heap.size w w' := by
  rcases h with ⟨A, c, rfl⟩ | ⟨b, off, n, c, D, rfl, hc, hb, hn, hs⟩
  · exact lexTokensLaw_none w A c htab
  · exact lexTokensLaw_some w b off n c D hc hb hn hs htab
end Go.Proofs.YtkkhohbngcdecaaDoor
