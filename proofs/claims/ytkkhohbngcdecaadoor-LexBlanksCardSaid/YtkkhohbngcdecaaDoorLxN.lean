/-
  'LexBlanks', walked.
-/
import Derived.Test.YtkkhohbngcdecaaDoorLxL
import Derived.Test.YtkkhohbngcdecaaDoorLxBl
import Derived.Deep.RegionHeld3
namespace Go.Proofs.YtkkhohbngcdecaaDoor
open Go.ChangeShapes Go.WideShapes Go.ChangeAt Go.RowKit Go.Deep Go.Maps
set_option linter.unusedVariables false
theorem tab_below' {w w' : World} (h : Lib.TabIs Tryd.prog w "strings.asciiSpace" .u8 Lib.asciiSpaceTab) (hb : Below w.heap.size w w') : Lib.TabIs Tryd.prog w' "strings.asciiSpace" .u8 Lib.asciiSpaceTab :=
  Joins.tab_stays (g := 0) (by kernel_rfl) h hb (Nat.le_refl _)
theorem below_drewN {B : Nat} {a w : World} (h : Below B a w) (n : Nat) : Below B a (w.drewN n) := ⟨h.os, h.tape, h.output, h.size, h.block⟩
theorem own_form {w : World} {base n : Nat} {v : Value} {xs : List Value} (h : w.ownsRow base 34 4 v n xs) : ∃ A c, v = .slice A n c := by
  rcases h.2 with ⟨rfl, h0⟩ | ⟨g, cap, cur, rfl, _⟩
  · exact ⟨_, _, by rw [h0]⟩
  · exact ⟨_, _, rfl⟩
theorem TokRes.form {w : World} {l : List Tok} {e : Ending} {w' : World} (h : TokRes w (.ok l) e w') : ∃ v, e = .returned (.tuple #[v, .agg #[.int .i64 0, .int .i64 0]]) ∧ w'.ownsRow w.heap.size 34 4 v l.length (toksC l) ∧ Below w.heap.size w w' := h
theorem TokRes.form_bad {w : World} {er : Int} {p : Nat} {e : Ending} {w' : World} (h : TokRes w (.bad er p) e w') : ∃ A c, e = .returned (.tuple #[.slice A 0 c, .agg #[.int .i64 er, .int .i64 p]]) ∧ Below w.heap.size w w' := by
  obtain ⟨v, he, ho, hb⟩ := h
  obtain ⟨A, c, rfl⟩ := own_form ho
  exact ⟨A, c, he, hb⟩
theorem cat_data (s : ByteArray) : (ByteArray.mk #[32, 10] ++ s ++ ByteArray.mk #[9, 32]).data.toList = [32, 10] ++ s.data.toList ++ [9, 32] := by
  simp [ByteArray.data_append]
set_option maxRecDepth 100000 in
set_option maxHeartbeats 2000000 in
theorem lexBlanks_some (w : World) (b off n c : Nat) (D : Nat → ByteArray) (hc : ∀ i, i < n → w.cell? ⟨b, off + i, none⟩ = some (.string (D i))) (hb : b < w.heap.size) (hn : n ≤ 9223372036854775807) (hs : ∀ i, (D i).size ≤ maxLen)
    (htab : Lib.TabIs Tryd.prog w "strings.asciiSpace" .u8 Lib.asciiSpaceTab) :
    Calls Tryd.prog 4 #[.slice (some ⟨b, off, none⟩) n c] w fun e w' => e = .returned (.bool true) ∧ Below w.heap.size w w' := by
  have CH := Lib.hid (heavy_some w b off n c D hc hn hs)
  have CW := fun W h => Lib.hid (wakes_any W h)
  have HC := Lib.hid hc
  have HS := Lib.hid hs
  have HT := Lib.hid htab
  clear hc hs htab
  go_enter Tryd.func4, Tryd.ntmps4
  go_wp2_with fail
  refine CH.out.mono ?_
  rintro e w' ⟨hv, rfl, rfl⟩
  cases hv with
  | true =>
    go_wp2_with fail
    go_ret
    exact ⟨rfl, Below.refl _ _⟩
  | false =>
    go_wp2_with fail
    go_loopw [3, 4, 5, 6, 7, 8, 9, 10] (fun i _ _ _ _ _ _ _ wr => ∃ k : Nat, k ≤ n ∧ k ≤ 10 ∧ i = .int .i64 k ∧ Below w.heap.size w wr) (fun i _ _ _ _ _ _ _ _ => 10 - (intOf i).toNat)
    case atStart => exact ⟨0, Nat.zero_le _, by omega, rfl, Below.refl _ _⟩
    case round =>
      obtain ⟨k, hk, hk10, rfl, hbel⟩ := hrel
      obtain ⟨wo, rfl⟩ : ∃ wo : World, wo = wr := ⟨_, rfl⟩
      have HB := Lib.hid hbel
      clear hbel
      by_cases hgo : k < n ∧ k < 10
      · obtain ⟨hlt, h10⟩ := hgo
        have hcell : wo.cell? ⟨b, off + k, none⟩ = some (.string (D k)) := (HB.out.cell hb).trans (HC.out k hlt)
        have hszm := HS.out k
        unfold maxLen at hszm
        have hd1 : decide ((k : Int) < 10) = true := by simp; omega
        by_cases hbig : 1000 < (D k).size
        · have hd2 : decide ((1000 : Int) < ((D k).size : Int)) = true := by simp; omega
          go_wp2_with fail
          go_roundw
          case rel => exact ⟨k + 1, by omega, by omega, by go_num, HB.out⟩
          case measure => simp [intOf]; omega
        · have hd2 : decide ((1000 : Int) < ((D k).size : Int)) = false := by simp; omega
          have hlen : (D k).data.toList.length = (D k).size := by simp
          have hout := lex_out (D k).data.toList (by omega)
          have hsz2 : ((D k).size : Int) ≤ 8388608 := by omega
          have hcatS : (ByteArray.mk #[32, 10] ++ D k ++ ByteArray.mk #[9, 32]).size = (D k).size + 4 := by simp [ByteArray.size_mk']; omega
          have cl := lexTokens_any (D k) wo (HS.out k) (tab_below' HT.out HB.out)
          have cr := fun W (h : Lib.TabIs Tryd.prog W "strings.asciiSpace" .u8 Lib.asciiSpaceTab) => lexTokens_any (ByteArray.mk #[32, 10] ++ D k ++ ByteArray.mk #[9, 32]) W (by rw [hcatS]; unfold maxLen; omega) h
          rw [cat_data, blanks_around _ (by omega)] at cr
          rcases hout with ⟨er, p, hR, he, hp⟩ | ⟨L, p, hR, hp, hL⟩
          · rw [hR] at cl cr
            have CL := Lib.hid cl
            have CR := fun W h => Lib.hid (cr W h)
            have he0 : (er == 0) = false := by simpa using he
            have he1 : (er != 0) = true := by simpa using he
            clear cl cr hR he hcatS hlen
            go_wp2_with fail
            refine CL.out.mono ?_
            rintro e w1 hres
            obtain ⟨A1, c1, rfl, hb1⟩ := hres.form_bad
            clear hres
            have hc1 : w1.cell? ⟨b, off + k, none⟩ = some (.string (D k)) := (hb1.cell (by have := HB.out.size; show b < _; omega)).trans hcell
            have HB1 := Lib.hid (HB.out.trans (hb1.mono HB.out.size))
            have hsw : w.heap.size ≤ w1.heap.size := HB1.out.size
            have hbl : b < w1.heap.size := by omega
            clear hb1 hcell
            go_wp2_with fail
            refine (CR _ (tab_below' HT.out (HB1.out.alloc hsw _))).out.mono ?_
            rintro e w2 hres
            obtain ⟨A2, c2, rfl, hb2⟩ := TokRes.form_bad (p := p + 2) hres
            clear hres
            have hblk : w2.heap[w1.heap.size]? = some (.cells #[.int .i64 er, .int .i64 p] 26 (0, 0)) := (hb2.block _ (by simp)).trans (heap_alloc_new w1 _)
            have c0 : w2.cell? ⟨w1.heap.size, 0, none⟩ = some (.int .i64 er) := blk_cell hblk 0
            have c1' : w2.cell? ⟨w1.heap.size, 1, none⟩ = some (.int .i64 p) := blk_cell hblk 1
            have hs2 : w1.heap.size < w2.heap.size := by have := hb2.size; simp at this; omega
            have HB2 := Lib.hid ((HB1.out.alloc hsw (.cells #[.int .i64 er, .int .i64 p] 26)).trans (hb2.mono (by simp; omega)))
            clear hb2 hblk
            go_wp2_with fail
            go_loop [8] (fun i => i = .int .i64 0) (fun _ => 0)
            case atStart => exact rfl
            case round =>
              obtain rfl := hrel
              go_wp2_with fail
              go_roundw
              case rel => exact ⟨k + 1, by omega, by omega, by go_num, HB2.out.alloc HB2.out.size _⟩
              case measure => simp [intOf]; omega
          · rw [hR] at cl cr
            have CL := Lib.hid cl
            have CR := fun W h => Lib.hid (cr W h)
            obtain ⟨M, hM⟩ : ∃ M, M = L ++ [(⟨0, [], 0, p⟩ : Tok)] := ⟨_, rfl⟩
            have hMl : 0 < M.length := by rw [hM]; simp
            have hMp : ∀ t ∈ M, t.pos ≤ 1000 := by
              intro t ht
              rw [hM] at ht
              rcases List.mem_append.1 ht with ht | ht
              · exact (hL t ht).2
              · simp at ht; subst ht; exact hp
            have HMp := Lib.hid hMp
            have cl' : Calls Tryd.prog 7 #[.string (D k)] wo (TokRes wo (.ok M)) := by rw [hM]; exact cl
            have cr' : ∀ W, Lib.TabIs Tryd.prog W "strings.asciiSpace" .u8 Lib.asciiSpaceTab → Calls Tryd.prog 7 #[.string (ByteArray.mk #[32, 10] ++ D k ++ ByteArray.mk #[9, 32])] W (TokRes W (.ok (M.map shK))) := by intro W h; rw [hM]; exact cr W h
            have CL := Lib.hid cl'
            have CR := fun W h => Lib.hid (cr' W h)
            clear cl cr cl' cr' hR hcatS hlen hM hMp hL
            go_wp2_with fail
            refine CL.out.mono ?_
            rintro e w1 hres
            obtain ⟨v1, rfl, hown1, hb1⟩ := hres.form
            clear hres
            obtain ⟨g1, cap1, rfl, hg1, hbg1, hcells1⟩ := own_cells hown1 hMl
            have hc1 : w1.cell? ⟨b, off + k, none⟩ = some (.string (D k)) := (hb1.cell (by have := HB.out.size; show b < _; omega)).trans hcell
            have HB1 := Lib.hid (HB.out.trans (hb1.mono HB.out.size))
            have hsw : w.heap.size ≤ w1.heap.size := HB1.out.size
            have hbl : b < w1.heap.size := by omega
            have H1 := Lib.hid hcells1
            clear hb1 hcell hown1 hcells1
            go_wp2_with fail
            refine (CR _ (tab_below' HT.out (HB1.out.alloc hsw _))).out.mono ?_
            rintro e w2 hres
            obtain ⟨v2, rfl, hown2, hb2⟩ := hres.form
            clear hres
            obtain ⟨g2, cap2, rfl, hg2, hbg2, hcells2⟩ := own_cells (n := M.length) (by simpa using hown2) hMl
            have hblk : w2.heap[w1.heap.size]? = some (.cells #[.int .i64 0, .int .i64 0] 26 (0, 0)) := (hb2.block _ (by simp)).trans (heap_alloc_new w1 _)
            have c0 : w2.cell? ⟨w1.heap.size, 0, none⟩ = some (.int .i64 0) := blk_cell hblk 0
            have c1' : w2.cell? ⟨w1.heap.size, 1, none⟩ = some (.int .i64 0) := blk_cell hblk 1
            have hs2 : w1.heap.size < w2.heap.size := by have := hb2.size; simp at this; omega
            have HB2 := Lib.hid ((HB1.out.alloc hsw (.cells #[.int .i64 0, .int .i64 0] 26)).trans (hb2.mono (by simp; omega)))
            have hk1 : ∀ j u, (toksC M)[j]? = some u → w2.cell? ⟨g1, j, none⟩ = some u := fun j u hu => (hb2.cell (by show g1 < (World.alloc _ _).heap.size; simp; omega)).trans ((World.cell?_alloc_lt _ _ _ hg1).trans (H1.out j u hu))
            have hMlen : M.length ≤ 9223372036854775807 := by
              rcases hown2.2 with ⟨_, h⟩ | ⟨_, cap, _, _, _, _, h, h', _⟩
              · rw [List.length_map] at h; omega
              · unfold maxLen at h'; rw [List.length_map] at h; omega
            have H1 := Lib.hid hk1
            have H2 := Lib.hid hcells2
            have hg1' : g1 < w2.heap.size := by omega
            clear hb2 hblk hown2 hcells2 hk1
            go_wp2_with fail
            go_loopw [8, 9, 10] (fun i _ _ wr => ∃ j : Nat, j ≤ M.length ∧ i = .int .i64 j ∧ Below w2.heap.size w2 wr) (fun i _ _ _ => M.length - (intOf i).toNat)
            case atStart => exact ⟨0, Nat.zero_le _, rfl, (Below.refl _ _).alloc (Nat.le_refl _) _⟩
            case round =>
              obtain ⟨j, hj, rfl, hbw⟩ := hrel
              obtain ⟨w3, rfl⟩ : ∃ w3 : World, w3 = wr := ⟨_, rfl⟩
              have HBW := Lib.hid hbw
              clear hbw
              by_cases hjt : j < M.length
              · have hj0 : (0 : Int) ≤ (j : Int) := by omega
                have hjn : (j : Int) < (M.length : Int) := by omega
                obtain ⟨a0, a1, a2, a3⟩ := toksC_get M j M[j] (List.getElem?_eq_getElem hjt)
                obtain ⟨d0, d1, d2, d3⟩ := toksC_get (M.map shK) j (shK M[j]) (by simp [hjt])
                have hpos := HMp.out M[j] (List.getElem_mem _)
                obtain ⟨t, ht⟩ : ∃ t, t = M[j] := ⟨_, rfl⟩
                rw [← ht] at a0 a1 a2 a3 d0 d1 d2 d3 hpos
                clear ht
                obtain ⟨kd, tx, nn, ps⟩ := t
                have bc1 : ∀ q u, (toksC M)[q]? = some u → w3.cell? ⟨g1, q, none⟩ = some u := fun q u hu => (HBW.out.cell hg1').trans (H1.out q u hu)
                have bc2 : ∀ q u, (toksC (M.map shK))[q]? = some u → w3.cell? ⟨g2, q, none⟩ = some u := fun q u hu => (HBW.out.cell hg2).trans (H2.out q u hu)
                replace a0 := bc1 _ _ a0
                replace a1 := bc1 _ _ a1
                replace a2 := bc1 _ _ a2
                replace a3 := bc1 _ _ a3
                replace d0 := bc2 _ _ d0
                replace d1 := bc2 _ _ d1
                replace d2 := bc2 _ _ d2
                replace d3 := bc2 _ _ d3
                clear bc1 bc2
                have hs3 : w2.heap.size ≤ w3.heap.size := HBW.out.size
                have hgw1 : g1 < w3.heap.size := by omega
                have hgw2 : g2 < w3.heap.size := by omega
                simp only at hpos a0 a1 a2 a3
                by_cases hkd : kd = 0
                · have e : shK ⟨kd, tx, nn, ps⟩ = ⟨kd, tx, nn, ps + 4⟩ := by rw [shK, if_pos hkd]
                  have hk0 : (kd == 0) = true := by simpa using hkd
                  rw [e] at d0 d1 d2 d3
                  obtain ⟨ps2, hps2⟩ : ∃ ps2, ps2 = ps + 4 := ⟨_, rfl⟩
                  simp only [← hps2] at d0 d1 d2 d3
                  have hq1 : ps + 4 ≤ ps2 := by omega
                  have hq2 : ps2 ≤ ps + 4 := by omega
                  clear e hkd hps2
                  go_wp2_with fail
                  go_region_held3 (fun w' => w'.cell? ⟨g1, j * 4, none⟩ = some (.int .i64 kd) ∧ w'.cell? ⟨g1, j * 4 + 1, none⟩ = some (.string ⟨tx.toArray⟩) ∧ w'.cell? ⟨g1, j * 4 + 2, none⟩ = some (.int .i64 nn) ∧ w'.cell? ⟨g1, j * 4 + 3, none⟩ = some (.int .i64 ps) ∧ w'.cell? ⟨g2, j * 4, none⟩ = some (.int .i64 kd) ∧ w'.cell? ⟨g2, j * 4 + 1, none⟩ = some (.string ⟨tx.toArray⟩) ∧ w'.cell? ⟨g2, j * 4 + 2, none⟩ = some (.int .i64 nn) ∧ w'.cell? ⟨g2, j * 4 + 3, none⟩ = some (.int .i64 ps2)) (go_keep) (fail)
                  all_goals
                    go_wp2_with fail
                    go_roundw
                    case rel => exact ⟨j + 1, by omega, by go_num, (((HBW.out.alloc hs3 _).alloc (by simp; omega) _).drew)⟩
                    case measure => simp [intOf]; omega
                · have e : shK ⟨kd, tx, nn, ps⟩ = ⟨kd, tx, nn, ps + 2⟩ := by rw [shK, if_neg hkd]; rfl
                  have hk0 : (kd == 0) = false := by simpa using hkd
                  rw [e] at d0 d1 d2 d3
                  obtain ⟨ps2, hps2⟩ : ∃ ps2, ps2 = ps + 2 := ⟨_, rfl⟩
                  simp only [← hps2] at d0 d1 d2 d3
                  have hq1 : ps + 2 ≤ ps2 := by omega
                  have hq2 : ps2 ≤ ps + 2 := by omega
                  clear e hkd hps2
                  go_wp2_with fail
                  go_region_held3 (fun w' => w'.cell? ⟨g1, j * 4, none⟩ = some (.int .i64 kd) ∧ w'.cell? ⟨g1, j * 4 + 1, none⟩ = some (.string ⟨tx.toArray⟩) ∧ w'.cell? ⟨g1, j * 4 + 2, none⟩ = some (.int .i64 nn) ∧ w'.cell? ⟨g1, j * 4 + 3, none⟩ = some (.int .i64 ps) ∧ w'.cell? ⟨g2, j * 4, none⟩ = some (.int .i64 kd) ∧ w'.cell? ⟨g2, j * 4 + 1, none⟩ = some (.string ⟨tx.toArray⟩) ∧ w'.cell? ⟨g2, j * 4 + 2, none⟩ = some (.int .i64 nn) ∧ w'.cell? ⟨g2, j * 4 + 3, none⟩ = some (.int .i64 ps2)) (go_keep) (fail)
                  all_goals
                    go_wp2_with fail
                    go_roundw
                    case rel => exact ⟨j + 1, by omega, by go_num, (((HBW.out.alloc hs3 _).alloc (by simp; omega) _).drew)⟩
                    case measure => simp [intOf]; omega
              · go_wp2_with fail
                go_roundw
                case rel => exact ⟨k + 1, by omega, by omega, by go_num, HB2.out.trans (HBW.out.mono HB2.out.size)⟩
                case measure => simp [intOf]; omega
      · have HB0 := HB
        by_cases hlt : k < n
        · have h10 : ¬ k < 10 := fun h => hgo ⟨hlt, h⟩
          have hd : decide ((k : Int) < 10) = false := by simp; omega
          clear hgo
          go_wp2_with fail
          refine (CW _ (tab_below' HT.out HB.out)).out.mono ?_
          rintro e w2 ⟨rfl, hb2⟩
          have HB2 := Lib.hid (HB.out.trans (hb2.mono HB.out.size))
          clear hb2
          go_wp2_with fail
          go_ret
          exact ⟨rfl, HB2.out⟩
        · clear hgo
          go_wp2_with fail
          refine (CW _ (tab_below' HT.out HB.out)).out.mono ?_
          rintro e w2 ⟨rfl, hb2⟩
          have HB2 := Lib.hid (HB.out.trans (hb2.mono HB.out.size))
          clear hb2
          go_wp2_with fail
          go_ret
          exact ⟨rfl, HB2.out⟩
theorem lexBlanks_none (w : World) (A : Option Addr) (c : Nat) (htab : Lib.TabIs Tryd.prog w "strings.asciiSpace" .u8 Lib.asciiSpaceTab) :
    Calls Tryd.prog 4 #[.slice A 0 c] w fun e w' => e = .returned (.bool true) ∧ Below w.heap.size w w' := by
  have CH := Lib.hid (heavy_none w A c)
  have CW := Lib.hid (wakes_any w htab)
  clear htab
  go_enter Tryd.func4, Tryd.ntmps4
  go_wp2_with fail
  refine CH.out.mono ?_
  rintro e w' ⟨hv, rfl, rfl⟩
  cases hv with
  | true =>
    go_wp2_with fail
    go_ret
    exact ⟨rfl, Below.refl _ _⟩
  | false =>
    go_wp2_with fail
    go_loop [3] (fun i => i = .int .i64 0) (fun _ => 0)
    case atStart => exact rfl
    case round =>
      obtain rfl := hrel
      go_wp2_with fail
      refine CW.out.mono ?_
      rintro e w2 ⟨rfl, hb2⟩
      have HB2 := Lib.hid hb2
      clear hb2
      go_wp2_with fail
      go_ret
      exact ⟨rfl, HB2.out⟩
theorem lexBlanksLaw_any {v : Value} {w : World} (h : StrArg w v) (htab : Lib.TabIs Tryd.prog w "strings.asciiSpace" .u8 Lib.asciiSpaceTab) :
    Calls Tryd.prog 4 #[v] w fun e w' => e = .returned (.bool true) ∧ Below w.heap.size w w' := by
  rcases h with ⟨A, c, rfl⟩ | ⟨b, off, n, c, D, rfl, hc, hb, hn, hs⟩
  · exact lexBlanks_none w A c htab
  · exact lexBlanks_some w b off n c D hc hb hn hs htab
end Go.Proofs.YtkkhohbngcdecaaDoor
