/-
  A round of the reference: a number.
-/
import Derived.Test.YtkkhohbngcdecaaDoorLxR0
namespace Go.Proofs.YtkkhohbngcdecaaDoor
open Go.RowKit Go.Maps
set_option linter.unusedVariables false
set_option maxRecDepth 1000000 in
set_option maxHeartbeats 4000000 in
theorem round_numb {s : ByteArray} {w : World} (hs : s.size ≤ 2000) {i0 : TypeInfo} (hi : Tryd.prog.info? 34 = some i0) (hz0 : i0.zero = some (Value.agg #[Value.int IntKind.i64 0, Value.string ⟨#[]⟩, Value.int IntKind.i64 0, Value.int IntKind.i64 0])) (hz1 : i0.size = 4) (hz2 : i0.bytes = 40)
    (hsm : s.size ≤ 9223372036854775807) {w1 : World} (HB0 : Hid (Below w.heap.size w w1)) (hww : w.heap.size + 1 ≤ w1.heap.size) (HK : Hid (w1.heap[w.heap.size]? = some (Obj.cells #[Value.int IntKind.i64 0, Value.int IntKind.i64 0] 26 (0, 0))))
    {K : Act → World → Prop} {u2 u4 u6 u7 u8 u9 u10 u11 u12 u13 u18 u19 u20 u21 u22 u23 u24 u25 u26 u27 u28 u29 u30 u31 u32 u33 u34 u35 u36 u37 u38 u39 u40 u41 u42 u43 u44 u45 u46 u47 u48 u49 u50 u51 u52 u53 u54 u55 u56 u57 u58 u59 u60 u61 u62 u63 u64 u65 u66 u67 u68 u69 u70 u71 u72 u73 u74 u75 u76 u77 u78 u79 u80 u81 u82 u83 u84 u85 u86 u87 u88 u89 u90 u91 u92 u93 u94 u95 u96 u97 u98 u99 u100 u101 u102 u103 u104 u105 u106 u107 u108 u109 u110 u111 u112 u113 u114 u115 u116 u117 u118 u119 u120 u121 u122 u123 u124 u125 u126 u127 u128 u129 u130 u131 u132 u133 u134 u135 u136 u137 u138 u139 u140 u141 u142 u143 u144 u145 u146 u147 u148 u149 u150 u151 u152 u153 u154 u155 u156 u157 u158 u159 u160 u161 u162 u163 u164 u165 u166 u167 u168 u169 u170 u171 u172 u173 u174 u175 u176 u177 u178 u179 u180 u181 u182 u183 u184 u185 u186 u187 u188 u189 u190 : Value} {k : Nat} {acc : List Tok} {wo : World} (hkle : k ≤ s.size) (hfew : acc.length ≤ k) (HA : Hid (AtR s k acc)) (HO : Hid (wo.ownsRow w1.heap.size 34 4 u4 acc.length (toksC acc))) (HB : Hid (Below w1.heap.size w1 wo))
    (hlt : k < s.size) (hbl : isBl s[k] = false) (hl : isLet s[k] = false) (hd : isDig s[k] = true) :
    Code.wp Tryd.prog rbody (Exit.then (fun a' w' => (∃ u2 u4 u5 u6 u7 u8 u9 u10 u11 u12 u13 u18 u19 u20 u21 u22 u23 u24 u25 u26 u27 u28 u29 u30 u31 u32 u33 u34 u35 u36 u37 u38 u39 u40 u41 u42 u43 u44 u45 u46 u47 u48 u49 u50 u51 u52 u53 u54 u55 u56 u57 u58 u59 u60 u61 u62 u63 u64 u65 u66 u67 u68 u69 u70 u71 u72 u73 u74 u75 u76 u77 u78 u79 u80 u81 u82 u83 u84 u85 u86 u87 u88 u89 u90 u91 u92 u93 u94 u95 u96 u97 u98 u99 u100 u101 u102 u103 u104 u105 u106 u107 u108 u109 u110 u111 u112 u113 u114 u115 u116 u117 u118 u119 u120 u121 u122 u123 u124 u125 u126 u127 u128 u129 u130 u131 u132 u133 u134 u135 u136 u137 u138 u139 u140 u141 u142 u143 u144 u145 u146 u147 u148 u149 u150 u151 u152 u153 u154 u155 u156 u157 u158 u159 u160 u161 u162 u163 u164 u165 u166 u167 u168 u169 u170 u171 u172 u173 u174 u175 u176 u177 u178 u179 u180 u181 u182 u183 u184 u185 u186 u187 u188 u189 u190 : Value, (∃ k acc, AtR s k acc ∧ u5 = Value.int IntKind.i64 (k : Int) ∧ w'.ownsRow w1.heap.size 34 4 u4 acc.length (toksC acc) ∧ Below w1.heap.size w1 w') ∧
        a' = ⟨#[Value.string s, undef, u2, Value.pointer (some ⟨w.heap.size, 0, none⟩), u4, u5, u6, u7, u8, u9, u10, u11, u12, u13, Value.string s, Value.int IntKind.i64 (s.size : Int), Value.bool (decide (2000 < (s.size : Int))), undef, u18, u19, u20, u21, u22, u23, u24, u25, u26, u27, u28, u29, u30, u31, u32, u33, u34, u35, u36, u37, u38, u39, u40, u41, u42, u43, u44, u45, u46, u47, u48, u49, u50, u51, u52, u53, u54, u55, u56, u57, u58, u59, u60, u61, u62, u63, u64, u65, u66, u67, u68, u69, u70, u71, u72, u73, u74, u75, u76, u77, u78, u79, u80, u81, u82, u83, u84, u85, u86, u87, u88, u89, u90, u91, u92, u93, u94, u95, u96, u97, u98, u99, u100, u101, u102, u103, u104, u105, u106, u107, u108, u109, u110, u111, u112, u113, u114, u115, u116, u117, u118, u119, u120, u121, u122, u123, u124, u125, u126, u127, u128, u129, u130, u131, u132, u133, u134, u135, u136, u137, u138, u139, u140, u141, u142, u143, u144, u145, u146, u147, u148, u149, u150, u151, u152, u153, u154, u155, u156, u157, u158, u159, u160, u161, u162, u163, u164, u165, u166, u167, u168, u169, u170, u171, u172, u173, u174, u175, u176, u177, u178, u179, u180, u181, u182, u183, u184, u185, u186, u187, u188, u189, u190, undef, undef, undef, undef, undef, undef, undef], []⟩) ∧ s.size - (intOf (a'.tmps.getD 5 undef)).toNat < s.size - (intOf (#[Value.string s, undef, u2, Value.pointer (some ⟨w.heap.size, 0, none⟩), u4, Value.int IntKind.i64 (k : Int), u6, u7, u8, u9, u10, u11, u12, u13, Value.string s, Value.int IntKind.i64 (s.size : Int), Value.bool (decide (2000 < (s.size : Int))), undef, u18, u19, u20, u21, u22, u23, u24, u25, u26, u27, u28, u29, u30, u31, u32, u33, u34, u35, u36, u37, u38, u39, u40, u41, u42, u43, u44, u45, u46, u47, u48, u49, u50, u51, u52, u53, u54, u55, u56, u57, u58, u59, u60, u61, u62, u63, u64, u65, u66, u67, u68, u69, u70, u71, u72, u73, u74, u75, u76, u77, u78, u79, u80, u81, u82, u83, u84, u85, u86, u87, u88, u89, u90, u91, u92, u93, u94, u95, u96, u97, u98, u99, u100, u101, u102, u103, u104, u105, u106, u107, u108, u109, u110, u111, u112, u113, u114, u115, u116, u117, u118, u119, u120, u121, u122, u123, u124, u125, u126, u127, u128, u129, u130, u131, u132, u133, u134, u135, u136, u137, u138, u139, u140, u141, u142, u143, u144, u145, u146, u147, u148, u149, u150, u151, u152, u153, u154, u155, u156, u157, u158, u159, u160, u161, u162, u163, u164, u165, u166, u167, u168, u169, u170, u171, u172, u173, u174, u175, u176, u177, u178, u179, u180, u181, u182, u183, u184, u185, u186, u187, u188, u189, u190, undef, undef, undef, undef, undef, undef, undef].getD 5 undef)).toNat)
      (Exit.inBlock 0 (Exit.then K (bodyPost Tryd.prog Tryd.f8 (TokRes w (SS s.data.toList 0 [])))))) ⟨#[Value.string s, undef, u2, Value.pointer (some ⟨w.heap.size, 0, none⟩), u4, Value.int IntKind.i64 (k : Int), u6, u7, u8, u9, u10, u11, u12, u13, Value.string s, Value.int IntKind.i64 (s.size : Int), Value.bool (decide (2000 < (s.size : Int))), undef, u18, u19, u20, u21, u22, u23, u24, u25, u26, u27, u28, u29, u30, u31, u32, u33, u34, u35, u36, u37, u38, u39, u40, u41, u42, u43, u44, u45, u46, u47, u48, u49, u50, u51, u52, u53, u54, u55, u56, u57, u58, u59, u60, u61, u62, u63, u64, u65, u66, u67, u68, u69, u70, u71, u72, u73, u74, u75, u76, u77, u78, u79, u80, u81, u82, u83, u84, u85, u86, u87, u88, u89, u90, u91, u92, u93, u94, u95, u96, u97, u98, u99, u100, u101, u102, u103, u104, u105, u106, u107, u108, u109, u110, u111, u112, u113, u114, u115, u116, u117, u118, u119, u120, u121, u122, u123, u124, u125, u126, u127, u128, u129, u130, u131, u132, u133, u134, u135, u136, u137, u138, u139, u140, u141, u142, u143, u144, u145, u146, u147, u148, u149, u150, u151, u152, u153, u154, u155, u156, u157, u158, u159, u160, u161, u162, u163, u164, u165, u166, u167, u168, u169, u170, u171, u172, u173, u174, u175, u176, u177, u178, u179, u180, u181, u182, u183, u184, u185, u186, u187, u188, u189, u190, undef, undef, undef, undef, undef, undef, undef], []⟩ wo := by
  conv => arg 2; whnf
  obtain ⟨⟨b1, b2⟩, b3, b4⟩ := bl_no hbl
  have cl := fun W => refLetter_any s[k] W
  have cd := fun W => refDigit_any s[k] W
  rw [hl] at cl
  rw [hd] at cd
  have CL := fun W => Lib.hid (cl W)
  have CD := fun W => Lib.hid (cd W)
  have hR0 := round_num s k acc hlt hbl hl hd
  have HR0 := Lib.hid hR0
  have HD := Lib.hid hd
  clear hbl hl hd cl cd hR0
  go_wp2_with (first | (go_at_call 16; refine ((CL _).out).mono ?_; rintro e w' ⟨rfl, rfl⟩) | (go_at_call 17; refine ((CD _).out).mono ?_; rintro e w' ⟨rfl, rfl⟩))
  go_loop [5, 9, 10, 11] (fun i n o g => ∃ j : Nat, ∃ (N : Int) (O : Bool), k ≤ j ∧ j ≤ s.size ∧ i = .int .i64 j ∧ n = .int .u64 N ∧ o = .bool O ∧ ((s.data.toList.drop j).takeWhile isDig).foldl numStep (N, O) = numOf ((s.data.toList.drop k).takeWhile isDig) ∧ j + cnt isDig (s.data.toList.drop j) = k + cnt isDig (s.data.toList.drop k)) (fun i _ _ _ => s.size - (intOf i).toNat)
  case atStart => exact ⟨k, 0, false, Nat.le_refl _, by omega, rfl, rfl, rfl, rfl, rfl⟩
  case round =>
    obtain ⟨j, N, O, hkj, hj, rfl, rfl, rfl, hr, hc⟩ := hrel
    have H := Lib.hid hr
    have HC := Lib.hid hc
    clear hr hc
    by_cases hjt : j < s.size
    · have cd := fun W => refDigit_any s[j] W
      cases hjd : isDig s[j] with
      | true =>
        have H3 := Lib.hid hjd
        rw [hjd] at cd
        have CDj := fun W => Lib.hid (cd W)
        clear hjd cd
        cases O with
        | false =>
          go_wp2_with (go_at_call 17; refine ((CDj _).out).mono ?_; rintro e w' ⟨rfl, rfl⟩)
          go_round
          case rel => exact ⟨j + 1, _, _, by omega, by omega, by go_num, rfl, rfl, by have := H.out; rw [drop_cons s hjt, tw_yes H3.out] at this; rw [num_swap]; exact this, by have := HC.out; rw [drop_cons s hjt, cnt_yes H3.out] at this; omega⟩
          case measure => simp [intOf]; omega
        | true =>
          go_wp2_with (go_at_call 17; refine ((CDj _).out).mono ?_; rintro e w' ⟨rfl, rfl⟩)
          go_round
          case rel => exact ⟨j + 1, _, _, by omega, by omega, by go_num, rfl, rfl, by have := H.out; rw [drop_cons s hjt, tw_yes H3.out] at this; rw [num_swap]; exact this, by have := HC.out; rw [drop_cons s hjt, cnt_yes H3.out] at this; omega⟩
          case measure => simp [intOf]; omega
      | false =>
        have h4 : (N, O) = numOf ((s.data.toList.drop k).takeWhile isDig) := by have := H.out; rw [drop_cons s hjt, tw_no hjd] at this; exact this
        have hE : j = k + cnt isDig (s.data.toList.drop k) := by have := HC.out; rw [drop_cons s hjt, cnt_no hjd] at this; omega
        have h6 : (s.data.toList.drop k).getD (cnt isDig (s.data.toList.drop k)) 0 = s[j] := by rw [getD_drop, ← hE, getD_in s hjt]
        have hkE : k + 1 ≤ j := by rw [hE, drop_cons s hlt, cnt_yes HD.out]; omega
        have hR0 := HR0.out
        rw [hjd] at cd
        have CDj := fun W => Lib.hid (cd W)
        have H4 := Lib.hid h4
        clear hjd cd H HC
        cases O with
        | true =>
          have hn := num_over k (r := s.data.toList.drop k) (by rw [← H4.out])
          have hR : SS s.data.toList 0 [] = .bad 10 k := by rw [← HA.out.same, hR0, hn.1, if_neg (by decide)]
          have hblk := blk_at (w1 := w1) HK.out HB.out
          have c0 : wo.cell? ⟨w.heap.size, 0, none⟩ = some (.int .i64 0) := blk_cell hblk 0
          have c1 : wo.cell? ⟨w.heap.size, 1, none⟩ = some (.int .i64 0) := blk_cell hblk 1
          have f0 : wo.frozen? ⟨w.heap.size, 0, none⟩ = false := blk_frozen hblk 0
          have f1 : wo.frozen? ⟨w.heap.size, 1, none⟩ = false := blk_frozen hblk 1
          have hsz : w.heap.size < wo.heap.size := by have := HB.out.size; omega
          have HRes := Lib.hid hR
          clear hblk hR
          clear hn hR0 hE h4 h6
          go_wp2_with (first | (go_at_call 17; refine ((CDj _).out).mono ?_; rintro e w' ⟨rfl, rfl⟩))
          refine bodyPost_ret (v := .tuple #[.slice none 0 0, .agg #[.int .i64 10, .int .i64 k]]) (by simp [results, Tryd.results8, go_sem, c0, c1]) rfl ?_
          exact TokRes.bad HRes.out (((HB0.out.trans (HB.out.mono HB0.out.size)).setCell (Nat.le_refl _) _).setCell (Nat.le_refl _) _)
        | false =>
          have cl := fun W => refLetter_any s[j] W
          cases hjl : isLet s[j] with
          | true =>
            rw [hjl] at cl
            have CLj := fun W => Lib.hid (cl W)
            have hn := num_let k (r := s.data.toList.drop k) (by rw [← H4.out]) (by rw [h6]; exact hjl)
            have hR : SS s.data.toList 0 [] = .bad 3 k := by rw [← HA.out.same, hR0, hn.1, if_neg (by decide)]
            have hblk := blk_at (w1 := w1) HK.out HB.out
            have c0 : wo.cell? ⟨w.heap.size, 0, none⟩ = some (.int .i64 0) := blk_cell hblk 0
            have c1 : wo.cell? ⟨w.heap.size, 1, none⟩ = some (.int .i64 0) := blk_cell hblk 1
            have f0 : wo.frozen? ⟨w.heap.size, 0, none⟩ = false := blk_frozen hblk 0
            have f1 : wo.frozen? ⟨w.heap.size, 1, none⟩ = false := blk_frozen hblk 1
            have hsz : w.heap.size < wo.heap.size := by have := HB.out.size; omega
            have HRes := Lib.hid hR
            clear hblk hR
            clear hn hR0 hE h4 h6 hjl cl
            go_wp2_with (first | (go_at_call 17; refine ((CDj _).out).mono ?_; rintro e w' ⟨rfl, rfl⟩) | (go_at_call 16; refine ((CLj _).out).mono ?_; rintro e w' ⟨rfl, rfl⟩))
            refine bodyPost_ret (v := .tuple #[.slice none 0 0, .agg #[.int .i64 3, .int .i64 k]]) (by simp [results, Tryd.results8, go_sem, c0, c1]) rfl ?_
            exact TokRes.bad HRes.out (((HB0.out.trans (HB.out.mono HB0.out.size)).setCell (Nat.le_refl _) _).setCell (Nat.le_refl _) _)
          | false =>
            rw [hjl] at cl
            have CLj := fun W => Lib.hid (cl W)
            have hn := num_ok k (r := s.data.toList.drop k) (by rw [← H4.out]) (by rw [h6]; exact hjl)
            clear cl hjl
            have hS := AtR.step HA.out (E := j) (t := ⟨2, [], wrap64 N, k⟩) hkE hj (by rw [hR0, if_pos hn.1, hn.2.1, hn.2.2, ← H4.out, ← hE])
            have HS := Lib.hid hS
            have hwo : w1.heap.size ≤ wo.heap.size := HB.out.size
            clear hS hn hR0 hE h4 h6
            go_wp2_with (first | (go_at_call 17; refine ((CDj _).out).mono ?_; rintro e w' ⟨rfl, rfl⟩) | (go_at_call 16; refine ((CLj _).out).mono ?_; rintro e w' ⟨rfl, rfl⟩) | (at_builtin; refine wpList_append_own _ rfl _ _ 24 rfl w1.heap.size 34 i0 _ 4 40 Tryd.underlying24 hi hz0 hz1 hz2 rfl (by decide) _ acc.length (toksC acc) rfl ?hown ⟨wo.heap.size, 0, none⟩ 1 1 (tokC ⟨2, [], wrap64 N, k⟩) rfl rfl ?c1 ?c2 ?c3 ?c4 ?c5 ?_; rotate_right; intro v' w3 hown' hgrow _; have hB3 : Below w1.heap.size w1 w3 := (HB.out.alloc hwo _).grown hgrow (by simp; omega) (fun k hk => (HO.out.lt k hk).1); have HB3 := Lib.hid hB3; have HO3 := Lib.hid hown'; clear hown' hgrow hB3))
            case hown => exact (HO.out.alloc _)
            case c1 => first | exact news_at wo _ ⟨2, [], wrap64 N, k⟩ | (intro j u h; simpa [tokC] using h)
            case c2 => exact news_one _
            case c3 => unfold maxLen; omega
            case c4 => omega
            case c5 => first | omega | (simp; omega)
            go_wp2_with fail
            go_roundw
            case rel => exact ⟨j, _, HS.out, (by go_num), by rw [toksC_snoc, List.length_append]; exact HO3.out, HB3.out⟩
            case measure => simp [intOf]; omega
    · have h4 : (N, O) = numOf ((s.data.toList.drop k).takeWhile isDig) := by have := H.out; rw [drop_nil s hjt] at this; exact this
      have hE : j = k + cnt isDig (s.data.toList.drop k) := by have := HC.out; rw [drop_nil s hjt, cnt_nil] at this; omega
      have h6 : (s.data.toList.drop k).getD (cnt isDig (s.data.toList.drop k)) 0 = 0 := by rw [getD_drop, ← hE, getD_out s hjt]
      have hkE : k + 1 ≤ j := by rw [hE, drop_cons s hlt, cnt_yes HD.out]; omega
      have hR0 := HR0.out
      have H4 := Lib.hid h4
      clear H HC
      cases O with
      | true =>
        have hn := num_over k (r := s.data.toList.drop k) (by rw [← H4.out])
        have hR : SS s.data.toList 0 [] = .bad 10 k := by rw [← HA.out.same, hR0, hn.1, if_neg (by decide)]
        have hblk := blk_at (w1 := w1) HK.out HB.out
        have c0 : wo.cell? ⟨w.heap.size, 0, none⟩ = some (.int .i64 0) := blk_cell hblk 0
        have c1 : wo.cell? ⟨w.heap.size, 1, none⟩ = some (.int .i64 0) := blk_cell hblk 1
        have f0 : wo.frozen? ⟨w.heap.size, 0, none⟩ = false := blk_frozen hblk 0
        have f1 : wo.frozen? ⟨w.heap.size, 1, none⟩ = false := blk_frozen hblk 1
        have hsz : w.heap.size < wo.heap.size := by have := HB.out.size; omega
        have HRes := Lib.hid hR
        clear hblk hR
        clear hn hR0 hE h4 h6
        go_wp2_with fail
        refine bodyPost_ret (v := .tuple #[.slice none 0 0, .agg #[.int .i64 10, .int .i64 k]]) (by simp [results, Tryd.results8, go_sem, c0, c1]) rfl ?_
        exact TokRes.bad HRes.out (((HB0.out.trans (HB.out.mono HB0.out.size)).setCell (Nat.le_refl _) _).setCell (Nat.le_refl _) _)
      | false =>
        have hn := num_ok k (r := s.data.toList.drop k) (by rw [← H4.out]) (by rw [h6]; decide)
        have hS := AtR.step HA.out (E := j) (t := ⟨2, [], wrap64 N, k⟩) hkE hj (by rw [hR0, if_pos hn.1, hn.2.1, hn.2.2, ← H4.out, ← hE])
        have HS := Lib.hid hS
        have hwo : w1.heap.size ≤ wo.heap.size := HB.out.size
        clear hS hn hR0 hE h4 h6
        go_wp2_with (at_builtin; refine wpList_append_own _ rfl _ _ 24 rfl w1.heap.size 34 i0 _ 4 40 Tryd.underlying24 hi hz0 hz1 hz2 rfl (by decide) _ acc.length (toksC acc) rfl ?hown ⟨wo.heap.size, 0, none⟩ 1 1 (tokC ⟨2, [], wrap64 N, k⟩) rfl rfl ?c1 ?c2 ?c3 ?c4 ?c5 ?_; rotate_right; intro v' w3 hown' hgrow _; have hB3 : Below w1.heap.size w1 w3 := (HB.out.alloc hwo _).grown hgrow (by simp; omega) (fun k hk => (HO.out.lt k hk).1); have HB3 := Lib.hid hB3; have HO3 := Lib.hid hown'; clear hown' hgrow hB3)
        case hown => exact (HO.out.alloc _)
        case c1 => first | exact news_at wo _ ⟨2, [], wrap64 N, k⟩ | (intro j u h; simpa [tokC] using h)
        case c2 => exact news_one _
        case c3 => unfold maxLen; omega
        case c4 => omega
        case c5 => first | omega | (simp; omega)
        go_wp2_with fail
        go_roundw
        case rel => exact ⟨j, _, HS.out, (by go_num), by rw [toksC_snoc, List.length_append]; exact HO3.out, HB3.out⟩
        case measure => simp [intOf]; omega
end Go.Proofs.YtkkhohbngcdecaaDoor
