/-
  A round of the reference: a letter.
-/
import Derived.Test.YtkkhohbngcdecaaDoorLxR0
namespace Go.Proofs.YtkkhohbngcdecaaDoor
open Go.RowKit Go.Maps
set_option linter.unusedVariables false
set_option maxRecDepth 1000000 in
set_option maxHeartbeats 4000000 in
theorem round_let {s : ByteArray} {w : World} (hs : s.size ≤ 2000) {i0 : TypeInfo} (hi : Tryd.prog.info? 34 = some i0) (hz0 : i0.zero = some (Value.agg #[Value.int IntKind.i64 0, Value.string ⟨#[]⟩, Value.int IntKind.i64 0, Value.int IntKind.i64 0])) (hz1 : i0.size = 4) (hz2 : i0.bytes = 40)
    (hsm : s.size ≤ 9223372036854775807) {w1 : World} (HB0 : Hid (Below w.heap.size w w1)) (hww : w.heap.size + 1 ≤ w1.heap.size) (HK : Hid (w1.heap[w.heap.size]? = some (Obj.cells #[Value.int IntKind.i64 0, Value.int IntKind.i64 0] 26 (0, 0))))
    {K : Act → World → Prop} {u2 u4 u6 u7 u8 u9 u10 u11 u12 u13 u18 u19 u20 u21 u22 u23 u24 u25 u26 u27 u28 u29 u30 u31 u32 u33 u34 u35 u36 u37 u38 u39 u40 u41 u42 u43 u44 u45 u46 u47 u48 u49 u50 u51 u52 u53 u54 u55 u56 u57 u58 u59 u60 u61 u62 u63 u64 u65 u66 u67 u68 u69 u70 u71 u72 u73 u74 u75 u76 u77 u78 u79 u80 u81 u82 u83 u84 u85 u86 u87 u88 u89 u90 u91 u92 u93 u94 u95 u96 u97 u98 u99 u100 u101 u102 u103 u104 u105 u106 u107 u108 u109 u110 u111 u112 u113 u114 u115 u116 u117 u118 u119 u120 u121 u122 u123 u124 u125 u126 u127 u128 u129 u130 u131 u132 u133 u134 u135 u136 u137 u138 u139 u140 u141 u142 u143 u144 u145 u146 u147 u148 u149 u150 u151 u152 u153 u154 u155 u156 u157 u158 u159 u160 u161 u162 u163 u164 u165 u166 u167 u168 u169 u170 u171 u172 u173 u174 u175 u176 u177 u178 u179 u180 u181 u182 u183 u184 u185 u186 u187 u188 u189 u190 : Value} {k : Nat} {acc : List Tok} {wo : World} (hkle : k ≤ s.size) (hfew : acc.length ≤ k) (HA : Hid (AtR s k acc)) (HO : Hid (wo.ownsRow w1.heap.size 34 4 u4 acc.length (toksC acc))) (HB : Hid (Below w1.heap.size w1 wo))
    (hlt : k < s.size) (hbl : isBl s[k] = false) (hl : isLet s[k] = true) :
    Code.wp Tryd.prog rbody (Exit.then (fun a' w' => (∃ u2 u4 u5 u6 u7 u8 u9 u10 u11 u12 u13 u18 u19 u20 u21 u22 u23 u24 u25 u26 u27 u28 u29 u30 u31 u32 u33 u34 u35 u36 u37 u38 u39 u40 u41 u42 u43 u44 u45 u46 u47 u48 u49 u50 u51 u52 u53 u54 u55 u56 u57 u58 u59 u60 u61 u62 u63 u64 u65 u66 u67 u68 u69 u70 u71 u72 u73 u74 u75 u76 u77 u78 u79 u80 u81 u82 u83 u84 u85 u86 u87 u88 u89 u90 u91 u92 u93 u94 u95 u96 u97 u98 u99 u100 u101 u102 u103 u104 u105 u106 u107 u108 u109 u110 u111 u112 u113 u114 u115 u116 u117 u118 u119 u120 u121 u122 u123 u124 u125 u126 u127 u128 u129 u130 u131 u132 u133 u134 u135 u136 u137 u138 u139 u140 u141 u142 u143 u144 u145 u146 u147 u148 u149 u150 u151 u152 u153 u154 u155 u156 u157 u158 u159 u160 u161 u162 u163 u164 u165 u166 u167 u168 u169 u170 u171 u172 u173 u174 u175 u176 u177 u178 u179 u180 u181 u182 u183 u184 u185 u186 u187 u188 u189 u190 : Value, (∃ k acc, AtR s k acc ∧ u5 = Value.int IntKind.i64 (k : Int) ∧ w'.ownsRow w1.heap.size 34 4 u4 acc.length (toksC acc) ∧ Below w1.heap.size w1 w') ∧
        a' = ⟨#[Value.string s, undef, u2, Value.pointer (some ⟨w.heap.size, 0, none⟩), u4, u5, u6, u7, u8, u9, u10, u11, u12, u13, Value.string s, Value.int IntKind.i64 (s.size : Int), Value.bool (decide (2000 < (s.size : Int))), undef, u18, u19, u20, u21, u22, u23, u24, u25, u26, u27, u28, u29, u30, u31, u32, u33, u34, u35, u36, u37, u38, u39, u40, u41, u42, u43, u44, u45, u46, u47, u48, u49, u50, u51, u52, u53, u54, u55, u56, u57, u58, u59, u60, u61, u62, u63, u64, u65, u66, u67, u68, u69, u70, u71, u72, u73, u74, u75, u76, u77, u78, u79, u80, u81, u82, u83, u84, u85, u86, u87, u88, u89, u90, u91, u92, u93, u94, u95, u96, u97, u98, u99, u100, u101, u102, u103, u104, u105, u106, u107, u108, u109, u110, u111, u112, u113, u114, u115, u116, u117, u118, u119, u120, u121, u122, u123, u124, u125, u126, u127, u128, u129, u130, u131, u132, u133, u134, u135, u136, u137, u138, u139, u140, u141, u142, u143, u144, u145, u146, u147, u148, u149, u150, u151, u152, u153, u154, u155, u156, u157, u158, u159, u160, u161, u162, u163, u164, u165, u166, u167, u168, u169, u170, u171, u172, u173, u174, u175, u176, u177, u178, u179, u180, u181, u182, u183, u184, u185, u186, u187, u188, u189, u190, undef, undef, undef, undef, undef, undef, undef], []⟩) ∧ s.size - (intOf (a'.tmps.getD 5 undef)).toNat < s.size - (intOf (#[Value.string s, undef, u2, Value.pointer (some ⟨w.heap.size, 0, none⟩), u4, Value.int IntKind.i64 (k : Int), u6, u7, u8, u9, u10, u11, u12, u13, Value.string s, Value.int IntKind.i64 (s.size : Int), Value.bool (decide (2000 < (s.size : Int))), undef, u18, u19, u20, u21, u22, u23, u24, u25, u26, u27, u28, u29, u30, u31, u32, u33, u34, u35, u36, u37, u38, u39, u40, u41, u42, u43, u44, u45, u46, u47, u48, u49, u50, u51, u52, u53, u54, u55, u56, u57, u58, u59, u60, u61, u62, u63, u64, u65, u66, u67, u68, u69, u70, u71, u72, u73, u74, u75, u76, u77, u78, u79, u80, u81, u82, u83, u84, u85, u86, u87, u88, u89, u90, u91, u92, u93, u94, u95, u96, u97, u98, u99, u100, u101, u102, u103, u104, u105, u106, u107, u108, u109, u110, u111, u112, u113, u114, u115, u116, u117, u118, u119, u120, u121, u122, u123, u124, u125, u126, u127, u128, u129, u130, u131, u132, u133, u134, u135, u136, u137, u138, u139, u140, u141, u142, u143, u144, u145, u146, u147, u148, u149, u150, u151, u152, u153, u154, u155, u156, u157, u158, u159, u160, u161, u162, u163, u164, u165, u166, u167, u168, u169, u170, u171, u172, u173, u174, u175, u176, u177, u178, u179, u180, u181, u182, u183, u184, u185, u186, u187, u188, u189, u190, undef, undef, undef, undef, undef, undef, undef].getD 5 undef)).toNat)
      (Exit.inBlock 0 (Exit.then K (bodyPost Tryd.prog Tryd.f8 (TokRes w (SS s.data.toList 0 [])))))) ⟨#[Value.string s, undef, u2, Value.pointer (some ⟨w.heap.size, 0, none⟩), u4, Value.int IntKind.i64 (k : Int), u6, u7, u8, u9, u10, u11, u12, u13, Value.string s, Value.int IntKind.i64 (s.size : Int), Value.bool (decide (2000 < (s.size : Int))), undef, u18, u19, u20, u21, u22, u23, u24, u25, u26, u27, u28, u29, u30, u31, u32, u33, u34, u35, u36, u37, u38, u39, u40, u41, u42, u43, u44, u45, u46, u47, u48, u49, u50, u51, u52, u53, u54, u55, u56, u57, u58, u59, u60, u61, u62, u63, u64, u65, u66, u67, u68, u69, u70, u71, u72, u73, u74, u75, u76, u77, u78, u79, u80, u81, u82, u83, u84, u85, u86, u87, u88, u89, u90, u91, u92, u93, u94, u95, u96, u97, u98, u99, u100, u101, u102, u103, u104, u105, u106, u107, u108, u109, u110, u111, u112, u113, u114, u115, u116, u117, u118, u119, u120, u121, u122, u123, u124, u125, u126, u127, u128, u129, u130, u131, u132, u133, u134, u135, u136, u137, u138, u139, u140, u141, u142, u143, u144, u145, u146, u147, u148, u149, u150, u151, u152, u153, u154, u155, u156, u157, u158, u159, u160, u161, u162, u163, u164, u165, u166, u167, u168, u169, u170, u171, u172, u173, u174, u175, u176, u177, u178, u179, u180, u181, u182, u183, u184, u185, u186, u187, u188, u189, u190, undef, undef, undef, undef, undef, undef, undef], []⟩ wo := by
  conv => arg 2; whnf
  obtain ⟨⟨b1, b2⟩, b3, b4⟩ := bl_no hbl
  have cl := fun W => refLetter_any s[k] W
  rw [hl] at cl
  have CL := fun W => Lib.hid (cl W)
  have HL := Lib.hid hl
  have HBl := Lib.hid hbl
  clear hbl hl cl
  go_wp2_with (go_at_call 16; refine ((CL _).out).mono ?_; rintro e w' ⟨rfl, rfl⟩)
  go_loop [5] (fun i => ∃ j : Nat, k ≤ j ∧ j ≤ s.size ∧ i = .int .i64 j ∧ j + cnt isAl (s.data.toList.drop j) = k + cnt isAl (s.data.toList.drop k)) (fun i => s.size - (intOf i).toNat)
  case atStart => exact ⟨k, Nat.le_refl _, by omega, rfl, rfl⟩
  case round =>
    obtain ⟨j, hkj, hj, rfl, hr⟩ := hrel
    have H := Lib.hid hr
    clear hr
    by_cases hjt : j < s.size
    · have cl := fun W => refLetter_any s[j] W
      have cd := fun W => refDigit_any s[j] W
      cases hjl : isLet s[j] with
      | true =>
        have H2 := Lib.hid hjl
        rw [hjl] at cl
        have CL2 := fun W => Lib.hid (cl W)
        clear hjl cl cd
        go_wp2_with (go_at_call 16; refine ((CL2 _).out).mono ?_; rintro e w' ⟨rfl, rfl⟩)
        go_round
        case rel => exact ⟨j + 1, by omega, by omega, by go_num, by have := H.out; rw [drop_cons s hjt, cnt_yes (by simp [isAl, H2.out])] at this; omega⟩
        case measure => simp [intOf]; omega
      | false =>
        cases hjd : isDig s[j] with
        | true =>
          have H2 := Lib.hid hjl
          have H3 := Lib.hid hjd
          rw [hjl] at cl
          rw [hjd] at cd
          have CL2 := fun W => Lib.hid (cl W)
          have CD2 := fun W => Lib.hid (cd W)
          clear hjl hjd cl cd
          go_wp2_with (first | (go_at_call 16; refine ((CL2 _).out).mono ?_; rintro e w' ⟨rfl, rfl⟩) | (go_at_call 17; refine ((CD2 _).out).mono ?_; rintro e w' ⟨rfl, rfl⟩))
          go_round
          case rel => exact ⟨j + 1, by omega, by omega, by go_num, by have := H.out; rw [drop_cons s hjt, cnt_yes (by simp [isAl, H3.out])] at this; omega⟩
          case measure => simp [intOf]; omega
        | false =>
          have hE : j = k + cnt isAl (s.data.toList.drop k) := by have := H.out; rw [drop_cons s hjt, cnt_no (by simp [isAl, hjl, hjd])] at this; omega
          rw [hjl] at cl
          rw [hjd] at cd
          have CLj := fun W => Lib.hid (cl W)
          have CDj := fun W => Lib.hid (cd W)
          clear hjl hjd cl cd H
          have hR := round_name s k acc hlt HBl.out HL.out
          have hkE : k + 1 ≤ j := by rw [hE, drop_cons s hlt, cnt_yes (by simp [isAl, HL.out])]; omega
          have hx := run_name s k
          obtain ⟨T, hT⟩ : ∃ T, T = (s.data.toList.drop k).takeWhile isAl := ⟨_, rfl⟩
          rw [← hE] at hx hR
          rw [← hT] at hx hR
          have HX := Lib.hid hx
          have HR := Lib.hid hR
          clear hE hx hT hR
          have hnew := heap_alloc_new wo (.cells #[.int .i64 1, .string ⟨T.toArray⟩, .int .i64 0, .int .i64 k] 34)
          have ct : (wo.alloc (.cells #[.int .i64 1, .string ⟨T.toArray⟩, .int .i64 0, .int .i64 k] 34)).cell? ⟨wo.heap.size, 1, none⟩ = some (.string ⟨T.toArray⟩) := blk_cell hnew 1
          have hlt2 : wo.heap.size < (wo.alloc (.cells #[.int .i64 1, .string ⟨T.toArray⟩, .int .i64 0, .int .i64 k] 34)).heap.size := by simp
          have hwo : w1.heap.size ≤ wo.heap.size := HB.out.size
          have hfar : Value.ownBlock u4 ≠ some wo.heap.size := fun e => Nat.lt_irrefl _ (HO.out.lt _ e).2
          have HFar := Lib.hid hfar
          clear hfar
          go_wp2_with (first | (go_at_call 16; refine ((CLj _).out).mono ?_; rintro e w' ⟨rfl, rfl⟩) | (go_at_call 17; refine ((CDj _).out).mono ?_; rintro e w' ⟨rfl, rfl⟩))
          rw [HX.out]
          cases hw : inB wordsL ⟨T.toArray⟩ with
          | true =>
            have hS := AtR.step HA.out hkE hj HR.out
            rw [if_pos (show isWord T = true from hw)] at hS
            have HS := Lib.hid hS
            have HW := Lib.hid hw
            clear hS
            go_region_held3 (fun w' => w'.cell? ⟨wo.heap.size, 1, none⟩ = some (.string ⟨T.toArray⟩)) (go_keep) ((first | (go_at_call 19; (with_reducible refine (words_lie _).mono ?_); rintro e w2 ⟨rfl, htx, hb2⟩; have hblk2 := (hb2.block _ hlt2).trans hnew; have c0 : w2.cell? ⟨wo.heap.size, 0, none⟩ = some (.int .i64 1) := blk_cell hblk2 0; have ct2 : w2.cell? ⟨wo.heap.size, 1, none⟩ = some (.string ⟨T.toArray⟩) := blk_cell hblk2 1; have c2 : w2.cell? ⟨wo.heap.size, 2, none⟩ = some (.int .i64 0) := blk_cell hblk2 2; have c3 : w2.cell? ⟨wo.heap.size, 3, none⟩ = some (.int .i64 k) := blk_cell hblk2 3; have f0 : w2.frozen? ⟨wo.heap.size, 0, none⟩ = false := blk_frozen hblk2 0; have hs2 : wo.heap.size + 1 ≤ w2.heap.size := (by have := hb2.size; simpa using this); have hB2 : Below w1.heap.size w1 w2 := (HB.out.alloc HB.out.size _).drew.trans (hb2.mono (by simp; omega)); have HO2 := Lib.hid (own_below (HO.out.alloc _).drew hb2); have htx2 : Texts w2 (wo.heap.size + 1) wordsL := (by simpa using htx); have HB2 := Lib.hid hB2; have HTX := Lib.hid htx2; clear htx htx2 hb2 hB2 hblk2) | (go_at_call 18; (with_reducible refine (among_words _ _ ⟨T.toArray⟩ (by exact HTX.out)).mono ?_); rintro e w' ⟨rfl, rfl⟩)))
            clear hnew ct hlt2
            go_wp2_with (at_builtin; refine wpList_append_own _ rfl _ _ 24 rfl w1.heap.size 34 i0 _ 4 40 Tryd.underlying24 hi hz0 hz1 hz2 rfl (by decide) _ acc.length (toksC acc) rfl ?hown ⟨w2.heap.size, 0, none⟩ 1 1 (tokC ⟨4, T, 0, k⟩) rfl rfl ?c1 ?c2 ?c3 ?c4 ?c5 ?_; rotate_right; intro v' w3 hown' hgrow _; have hB3 : Below w1.heap.size w1 w3 := ((HB2.out.setCell hwo _).alloc (by simp; omega) _).grown hgrow (by simp; omega) (fun k hk => (HO2.out.lt k hk).1); have HB3 := Lib.hid hB3; have HO3 := Lib.hid hown'; clear hown' hgrow hB3)
            case hown => exact ((own_far HO2.out HFar.out _).alloc _)
            case c1 => exact news_set _ _ _ _ ⟨4, T, 0, k⟩
            case c2 => exact news_one _
            case c3 => unfold maxLen; omega
            case c4 => omega
            case c5 => first | omega | (simp; omega)
            go_wp2_with fail
            go_roundw
            case rel => exact ⟨j, _, HS.out, (by go_num), by rw [toksC_snoc, List.length_append]; exact HO3.out, HB3.out⟩
            case measure => simp [intOf]; omega
          | false =>
            have hS := AtR.step HA.out hkE hj HR.out
            rw [if_neg (show ¬ isWord T = true from by rw [show isWord T = false from hw]; decide)] at hS
            have HS := Lib.hid hS
            have HW := Lib.hid hw
            clear hS
            go_region_held3 (fun w' => w'.cell? ⟨wo.heap.size, 1, none⟩ = some (.string ⟨T.toArray⟩)) (go_keep) ((first | (go_at_call 19; (with_reducible refine (words_lie _).mono ?_); rintro e w2 ⟨rfl, htx, hb2⟩; have hblk2 := (hb2.block _ hlt2).trans hnew; have c0 : w2.cell? ⟨wo.heap.size, 0, none⟩ = some (.int .i64 1) := blk_cell hblk2 0; have ct2 : w2.cell? ⟨wo.heap.size, 1, none⟩ = some (.string ⟨T.toArray⟩) := blk_cell hblk2 1; have c2 : w2.cell? ⟨wo.heap.size, 2, none⟩ = some (.int .i64 0) := blk_cell hblk2 2; have c3 : w2.cell? ⟨wo.heap.size, 3, none⟩ = some (.int .i64 k) := blk_cell hblk2 3; have f0 : w2.frozen? ⟨wo.heap.size, 0, none⟩ = false := blk_frozen hblk2 0; have hs2 : wo.heap.size + 1 ≤ w2.heap.size := (by have := hb2.size; simpa using this); have hB2 : Below w1.heap.size w1 w2 := (HB.out.alloc HB.out.size _).drew.trans (hb2.mono (by simp; omega)); have HO2 := Lib.hid (own_below (HO.out.alloc _).drew hb2); have htx2 : Texts w2 (wo.heap.size + 1) wordsL := (by simpa using htx); have HB2 := Lib.hid hB2; have HTX := Lib.hid htx2; clear htx htx2 hb2 hB2 hblk2) | (go_at_call 18; (with_reducible refine (among_words _ _ ⟨T.toArray⟩ (by exact HTX.out)).mono ?_); rintro e w' ⟨rfl, rfl⟩)))
            clear hnew ct hlt2
            go_wp2_with (at_builtin; refine wpList_append_own _ rfl _ _ 24 rfl w1.heap.size 34 i0 _ 4 40 Tryd.underlying24 hi hz0 hz1 hz2 rfl (by decide) _ acc.length (toksC acc) rfl ?hown ⟨w2.heap.size, 0, none⟩ 1 1 (tokC ⟨1, T, 0, k⟩) rfl rfl ?c1 ?c2 ?c3 ?c4 ?c5 ?_; rotate_right; intro v' w3 hown' hgrow _; have hB3 : Below w1.heap.size w1 w3 := (HB2.out.alloc (by omega) _).grown hgrow (by simp; omega) (fun k hk => (HO2.out.lt k hk).1); have HB3 := Lib.hid hB3; have HO3 := Lib.hid hown'; clear hown' hgrow hB3)
            case hown => exact (HO2.out.alloc _)
            case c1 => exact news_at w2 _ ⟨1, T, 0, k⟩
            case c2 => exact news_one _
            case c3 => unfold maxLen; omega
            case c4 => omega
            case c5 => first | omega | (simp; omega)
            go_wp2_with fail
            go_roundw
            case rel => exact ⟨j, _, HS.out, (by go_num), by rw [toksC_snoc, List.length_append]; exact HO3.out, HB3.out⟩
            case measure => simp [intOf]; omega
    · have hE : j = k + cnt isAl (s.data.toList.drop k) := by have := H.out; rw [drop_nil s hjt, cnt_nil] at this; omega
      clear H
      have hR := round_name s k acc hlt HBl.out HL.out
      have hkE : k + 1 ≤ j := by rw [hE, drop_cons s hlt, cnt_yes (by simp [isAl, HL.out])]; omega
      have hx := run_name s k
      obtain ⟨T, hT⟩ : ∃ T, T = (s.data.toList.drop k).takeWhile isAl := ⟨_, rfl⟩
      rw [← hE] at hx hR
      rw [← hT] at hx hR
      have HX := Lib.hid hx
      have HR := Lib.hid hR
      clear hE hx hT hR
      have hnew := heap_alloc_new wo (.cells #[.int .i64 1, .string ⟨T.toArray⟩, .int .i64 0, .int .i64 k] 34)
      have ct : (wo.alloc (.cells #[.int .i64 1, .string ⟨T.toArray⟩, .int .i64 0, .int .i64 k] 34)).cell? ⟨wo.heap.size, 1, none⟩ = some (.string ⟨T.toArray⟩) := blk_cell hnew 1
      have hlt2 : wo.heap.size < (wo.alloc (.cells #[.int .i64 1, .string ⟨T.toArray⟩, .int .i64 0, .int .i64 k] 34)).heap.size := by simp
      have hwo : w1.heap.size ≤ wo.heap.size := HB.out.size
      have hfar : Value.ownBlock u4 ≠ some wo.heap.size := fun e => Nat.lt_irrefl _ (HO.out.lt _ e).2
      have HFar := Lib.hid hfar
      clear hfar
      go_wp2_with fail
      rw [HX.out]
      cases hw : inB wordsL ⟨T.toArray⟩ with
      | true =>
        have hS := AtR.step HA.out hkE hj HR.out
        rw [if_pos (show isWord T = true from hw)] at hS
        have HS := Lib.hid hS
        have HW := Lib.hid hw
        clear hS
        go_region_held3 (fun w' => w'.cell? ⟨wo.heap.size, 1, none⟩ = some (.string ⟨T.toArray⟩)) (go_keep) ((first | (go_at_call 19; (with_reducible refine (words_lie _).mono ?_); rintro e w2 ⟨rfl, htx, hb2⟩; have hblk2 := (hb2.block _ hlt2).trans hnew; have c0 : w2.cell? ⟨wo.heap.size, 0, none⟩ = some (.int .i64 1) := blk_cell hblk2 0; have ct2 : w2.cell? ⟨wo.heap.size, 1, none⟩ = some (.string ⟨T.toArray⟩) := blk_cell hblk2 1; have c2 : w2.cell? ⟨wo.heap.size, 2, none⟩ = some (.int .i64 0) := blk_cell hblk2 2; have c3 : w2.cell? ⟨wo.heap.size, 3, none⟩ = some (.int .i64 k) := blk_cell hblk2 3; have f0 : w2.frozen? ⟨wo.heap.size, 0, none⟩ = false := blk_frozen hblk2 0; have hs2 : wo.heap.size + 1 ≤ w2.heap.size := (by have := hb2.size; simpa using this); have hB2 : Below w1.heap.size w1 w2 := (HB.out.alloc HB.out.size _).drew.trans (hb2.mono (by simp; omega)); have HO2 := Lib.hid (own_below (HO.out.alloc _).drew hb2); have htx2 : Texts w2 (wo.heap.size + 1) wordsL := (by simpa using htx); have HB2 := Lib.hid hB2; have HTX := Lib.hid htx2; clear htx htx2 hb2 hB2 hblk2) | (go_at_call 18; (with_reducible refine (among_words _ _ ⟨T.toArray⟩ (by exact HTX.out)).mono ?_); rintro e w' ⟨rfl, rfl⟩)))
        clear hnew ct hlt2
        go_wp2_with (at_builtin; refine wpList_append_own _ rfl _ _ 24 rfl w1.heap.size 34 i0 _ 4 40 Tryd.underlying24 hi hz0 hz1 hz2 rfl (by decide) _ acc.length (toksC acc) rfl ?hown ⟨w2.heap.size, 0, none⟩ 1 1 (tokC ⟨4, T, 0, k⟩) rfl rfl ?c1 ?c2 ?c3 ?c4 ?c5 ?_; rotate_right; intro v' w3 hown' hgrow _; have hB3 : Below w1.heap.size w1 w3 := ((HB2.out.setCell hwo _).alloc (by simp; omega) _).grown hgrow (by simp; omega) (fun k hk => (HO2.out.lt k hk).1); have HB3 := Lib.hid hB3; have HO3 := Lib.hid hown'; clear hown' hgrow hB3)
        case hown => exact ((own_far HO2.out HFar.out _).alloc _)
        case c1 => exact news_set _ _ _ _ ⟨4, T, 0, k⟩
        case c2 => exact news_one _
        case c3 => unfold maxLen; omega
        case c4 => omega
        case c5 => first | omega | (simp; omega)
        go_wp2_with fail
        go_roundw
        case rel => exact ⟨j, _, HS.out, (by go_num), by rw [toksC_snoc, List.length_append]; exact HO3.out, HB3.out⟩
        case measure => simp [intOf]; omega
      | false =>
        have hS := AtR.step HA.out hkE hj HR.out
        rw [if_neg (show ¬ isWord T = true from by rw [show isWord T = false from hw]; decide)] at hS
        have HS := Lib.hid hS
        have HW := Lib.hid hw
        clear hS
        go_region_held3 (fun w' => w'.cell? ⟨wo.heap.size, 1, none⟩ = some (.string ⟨T.toArray⟩)) (go_keep) ((first | (go_at_call 19; (with_reducible refine (words_lie _).mono ?_); rintro e w2 ⟨rfl, htx, hb2⟩; have hblk2 := (hb2.block _ hlt2).trans hnew; have c0 : w2.cell? ⟨wo.heap.size, 0, none⟩ = some (.int .i64 1) := blk_cell hblk2 0; have ct2 : w2.cell? ⟨wo.heap.size, 1, none⟩ = some (.string ⟨T.toArray⟩) := blk_cell hblk2 1; have c2 : w2.cell? ⟨wo.heap.size, 2, none⟩ = some (.int .i64 0) := blk_cell hblk2 2; have c3 : w2.cell? ⟨wo.heap.size, 3, none⟩ = some (.int .i64 k) := blk_cell hblk2 3; have f0 : w2.frozen? ⟨wo.heap.size, 0, none⟩ = false := blk_frozen hblk2 0; have hs2 : wo.heap.size + 1 ≤ w2.heap.size := (by have := hb2.size; simpa using this); have hB2 : Below w1.heap.size w1 w2 := (HB.out.alloc HB.out.size _).drew.trans (hb2.mono (by simp; omega)); have HO2 := Lib.hid (own_below (HO.out.alloc _).drew hb2); have htx2 : Texts w2 (wo.heap.size + 1) wordsL := (by simpa using htx); have HB2 := Lib.hid hB2; have HTX := Lib.hid htx2; clear htx htx2 hb2 hB2 hblk2) | (go_at_call 18; (with_reducible refine (among_words _ _ ⟨T.toArray⟩ (by exact HTX.out)).mono ?_); rintro e w' ⟨rfl, rfl⟩)))
        clear hnew ct hlt2
        go_wp2_with (at_builtin; refine wpList_append_own _ rfl _ _ 24 rfl w1.heap.size 34 i0 _ 4 40 Tryd.underlying24 hi hz0 hz1 hz2 rfl (by decide) _ acc.length (toksC acc) rfl ?hown ⟨w2.heap.size, 0, none⟩ 1 1 (tokC ⟨1, T, 0, k⟩) rfl rfl ?c1 ?c2 ?c3 ?c4 ?c5 ?_; rotate_right; intro v' w3 hown' hgrow _; have hB3 : Below w1.heap.size w1 w3 := (HB2.out.alloc (by omega) _).grown hgrow (by simp; omega) (fun k hk => (HO2.out.lt k hk).1); have HB3 := Lib.hid hB3; have HO3 := Lib.hid hown'; clear hown' hgrow hB3)
        case hown => exact (HO2.out.alloc _)
        case c1 => exact news_at w2 _ ⟨1, T, 0, k⟩
        case c2 => exact news_one _
        case c3 => unfold maxLen; omega
        case c4 => omega
        case c5 => first | omega | (simp; omega)
        go_wp2_with fail
        go_roundw
        case rel => exact ⟨j, _, HS.out, (by go_num), by rw [toksC_snoc, List.length_append]; exact HO3.out, HB3.out⟩
        case measure => simp [intOf]; omega
end Go.Proofs.YtkkhohbngcdecaaDoor
