/-
  A round of the reference: a sign.
-/
import Derived.Test.YtkkhohbngcdecaaDoorLxR0
namespace Go.Proofs.YtkkhohbngcdecaaDoor
open Go.RowKit Go.Maps
set_option linter.unusedVariables false
set_option maxRecDepth 1000000 in
set_option maxHeartbeats 4000000 in
theorem round_sgn {s : ByteArray} {w : World} (hs : s.size ≤ 2000) {i0 : TypeInfo} (hi : Tryd.prog.info? 34 = some i0) (hz0 : i0.zero = some (Value.agg #[Value.int IntKind.i64 0, Value.string ⟨#[]⟩, Value.int IntKind.i64 0, Value.int IntKind.i64 0])) (hz1 : i0.size = 4) (hz2 : i0.bytes = 40)
    (hsm : s.size ≤ 9223372036854775807) {w1 : World} (HB0 : Hid (Below w.heap.size w w1)) (hww : w.heap.size + 1 ≤ w1.heap.size) (HK : Hid (w1.heap[w.heap.size]? = some (Obj.cells #[Value.int IntKind.i64 0, Value.int IntKind.i64 0] 26 (0, 0))))
    {K : Act → World → Prop} {u2 u4 u6 u7 u8 u9 u10 u11 u12 u13 u18 u19 u20 u21 u22 u23 u24 u25 u26 u27 u28 u29 u30 u31 u32 u33 u34 u35 u36 u37 u38 u39 u40 u41 u42 u43 u44 u45 u46 u47 u48 u49 u50 u51 u52 u53 u54 u55 u56 u57 u58 u59 u60 u61 u62 u63 u64 u65 u66 u67 u68 u69 u70 u71 u72 u73 u74 u75 u76 u77 u78 u79 u80 u81 u82 u83 u84 u85 u86 u87 u88 u89 u90 u91 u92 u93 u94 u95 u96 u97 u98 u99 u100 u101 u102 u103 u104 u105 u106 u107 u108 u109 u110 u111 u112 u113 u114 u115 u116 u117 u118 u119 u120 u121 u122 u123 u124 u125 u126 u127 u128 u129 u130 u131 u132 u133 u134 u135 u136 u137 u138 u139 u140 u141 u142 u143 u144 u145 u146 u147 u148 u149 u150 u151 u152 u153 u154 u155 u156 u157 u158 u159 u160 u161 u162 u163 u164 u165 u166 u167 u168 u169 u170 u171 u172 u173 u174 u175 u176 u177 u178 u179 u180 u181 u182 u183 u184 u185 u186 u187 u188 u189 u190 : Value} {k : Nat} {acc : List Tok} {wo : World} (hkle : k ≤ s.size) (hfew : acc.length ≤ k) (HA : Hid (AtR s k acc)) (HO : Hid (wo.ownsRow w1.heap.size 34 4 u4 acc.length (toksC acc))) (HB : Hid (Below w1.heap.size w1 wo))
    (hlt : k < s.size) (hbl : isBl s[k] = false) (hl : isLet s[k] = false) (hd : isDig s[k] = false) :
    Code.wp Tryd.prog rbody (Exit.then (fun a' w' => (∃ u2 u4 u5 u6 u7 u8 u9 u10 u11 u12 u13 u18 u19 u20 u21 u22 u23 u24 u25 u26 u27 u28 u29 u30 u31 u32 u33 u34 u35 u36 u37 u38 u39 u40 u41 u42 u43 u44 u45 u46 u47 u48 u49 u50 u51 u52 u53 u54 u55 u56 u57 u58 u59 u60 u61 u62 u63 u64 u65 u66 u67 u68 u69 u70 u71 u72 u73 u74 u75 u76 u77 u78 u79 u80 u81 u82 u83 u84 u85 u86 u87 u88 u89 u90 u91 u92 u93 u94 u95 u96 u97 u98 u99 u100 u101 u102 u103 u104 u105 u106 u107 u108 u109 u110 u111 u112 u113 u114 u115 u116 u117 u118 u119 u120 u121 u122 u123 u124 u125 u126 u127 u128 u129 u130 u131 u132 u133 u134 u135 u136 u137 u138 u139 u140 u141 u142 u143 u144 u145 u146 u147 u148 u149 u150 u151 u152 u153 u154 u155 u156 u157 u158 u159 u160 u161 u162 u163 u164 u165 u166 u167 u168 u169 u170 u171 u172 u173 u174 u175 u176 u177 u178 u179 u180 u181 u182 u183 u184 u185 u186 u187 u188 u189 u190 : Value, (∃ k acc, AtR s k acc ∧ u5 = Value.int IntKind.i64 (k : Int) ∧ w'.ownsRow w1.heap.size 34 4 u4 acc.length (toksC acc) ∧ Below w1.heap.size w1 w') ∧
        a' = ⟨#[Value.string s, undef, u2, Value.pointer (some ⟨w.heap.size, 0, none⟩), u4, u5, u6, u7, u8, u9, u10, u11, u12, u13, Value.string s, Value.int IntKind.i64 (s.size : Int), Value.bool (decide (2000 < (s.size : Int))), undef, u18, u19, u20, u21, u22, u23, u24, u25, u26, u27, u28, u29, u30, u31, u32, u33, u34, u35, u36, u37, u38, u39, u40, u41, u42, u43, u44, u45, u46, u47, u48, u49, u50, u51, u52, u53, u54, u55, u56, u57, u58, u59, u60, u61, u62, u63, u64, u65, u66, u67, u68, u69, u70, u71, u72, u73, u74, u75, u76, u77, u78, u79, u80, u81, u82, u83, u84, u85, u86, u87, u88, u89, u90, u91, u92, u93, u94, u95, u96, u97, u98, u99, u100, u101, u102, u103, u104, u105, u106, u107, u108, u109, u110, u111, u112, u113, u114, u115, u116, u117, u118, u119, u120, u121, u122, u123, u124, u125, u126, u127, u128, u129, u130, u131, u132, u133, u134, u135, u136, u137, u138, u139, u140, u141, u142, u143, u144, u145, u146, u147, u148, u149, u150, u151, u152, u153, u154, u155, u156, u157, u158, u159, u160, u161, u162, u163, u164, u165, u166, u167, u168, u169, u170, u171, u172, u173, u174, u175, u176, u177, u178, u179, u180, u181, u182, u183, u184, u185, u186, u187, u188, u189, u190, undef, undef, undef, undef, undef, undef, undef], []⟩) ∧ s.size - (intOf (a'.tmps.getD 5 undef)).toNat < s.size - (intOf (#[Value.string s, undef, u2, Value.pointer (some ⟨w.heap.size, 0, none⟩), u4, Value.int IntKind.i64 (k : Int), u6, u7, u8, u9, u10, u11, u12, u13, Value.string s, Value.int IntKind.i64 (s.size : Int), Value.bool (decide (2000 < (s.size : Int))), undef, u18, u19, u20, u21, u22, u23, u24, u25, u26, u27, u28, u29, u30, u31, u32, u33, u34, u35, u36, u37, u38, u39, u40, u41, u42, u43, u44, u45, u46, u47, u48, u49, u50, u51, u52, u53, u54, u55, u56, u57, u58, u59, u60, u61, u62, u63, u64, u65, u66, u67, u68, u69, u70, u71, u72, u73, u74, u75, u76, u77, u78, u79, u80, u81, u82, u83, u84, u85, u86, u87, u88, u89, u90, u91, u92, u93, u94, u95, u96, u97, u98, u99, u100, u101, u102, u103, u104, u105, u106, u107, u108, u109, u110, u111, u112, u113, u114, u115, u116, u117, u118, u119, u120, u121, u122, u123, u124, u125, u126, u127, u128, u129, u130, u131, u132, u133, u134, u135, u136, u137, u138, u139, u140, u141, u142, u143, u144, u145, u146, u147, u148, u149, u150, u151, u152, u153, u154, u155, u156, u157, u158, u159, u160, u161, u162, u163, u164, u165, u166, u167, u168, u169, u170, u171, u172, u173, u174, u175, u176, u177, u178, u179, u180, u181, u182, u183, u184, u185, u186, u187, u188, u189, u190, undef, undef, undef, undef, undef, undef, undef].getD 5 undef)).toNat)
      (Exit.inBlock 0 (Exit.then K (bodyPost Tryd.prog Tryd.f8 (TokRes w (SS s.data.toList 0 [])))))) ⟨#[Value.string s, undef, u2, Value.pointer (some ⟨w.heap.size, 0, none⟩), u4, Value.int IntKind.i64 (k : Int), u6, u7, u8, u9, u10, u11, u12, u13, Value.string s, Value.int IntKind.i64 (s.size : Int), Value.bool (decide (2000 < (s.size : Int))), undef, u18, u19, u20, u21, u22, u23, u24, u25, u26, u27, u28, u29, u30, u31, u32, u33, u34, u35, u36, u37, u38, u39, u40, u41, u42, u43, u44, u45, u46, u47, u48, u49, u50, u51, u52, u53, u54, u55, u56, u57, u58, u59, u60, u61, u62, u63, u64, u65, u66, u67, u68, u69, u70, u71, u72, u73, u74, u75, u76, u77, u78, u79, u80, u81, u82, u83, u84, u85, u86, u87, u88, u89, u90, u91, u92, u93, u94, u95, u96, u97, u98, u99, u100, u101, u102, u103, u104, u105, u106, u107, u108, u109, u110, u111, u112, u113, u114, u115, u116, u117, u118, u119, u120, u121, u122, u123, u124, u125, u126, u127, u128, u129, u130, u131, u132, u133, u134, u135, u136, u137, u138, u139, u140, u141, u142, u143, u144, u145, u146, u147, u148, u149, u150, u151, u152, u153, u154, u155, u156, u157, u158, u159, u160, u161, u162, u163, u164, u165, u166, u167, u168, u169, u170, u171, u172, u173, u174, u175, u176, u177, u178, u179, u180, u181, u182, u183, u184, u185, u186, u187, u188, u189, u190, undef, undef, undef, undef, undef, undef, undef], []⟩ wo := by
  conv => arg 2; whnf
  obtain ⟨⟨b1, b2⟩, b3, b4⟩ := bl_no hbl
  have cl := fun W => refLetter_any s[k] W
  have cd := fun W => refDigit_any s[k] W
  rw [hl] at cl
  rw [hd] at cd
  have CL := fun W => Lib.hid (cl W)
  have CD := fun W => Lib.hid (cd W)
  have hR0 := round_sign s k acc hlt hbl hl hd
  have HR0 := Lib.hid hR0
  have hwo : w1.heap.size ≤ wo.heap.size := HB.out.size
  clear hbl hl hd cl cd hR0
  go_wp2_with (first | (go_at_call 16; refine ((CL _).out).mono ?_; rintro e w' ⟨rfl, rfl⟩) | (go_at_call 17; refine ((CD _).out).mono ?_; rintro e w' ⟨rfl, rfl⟩) | (go_at_call 20; (with_reducible refine (refSigns_lie _).mono ?_); rintro e w2 ⟨rfl, htx, hb2⟩; have hB2 := HB.out.trans (hb2.mono hwo); have HO2 := Lib.hid (own_below HO.out hb2); have hlt2 : wo.heap.size < w2.heap.size := (lt_of_texts htx); have HB2 := Lib.hid hB2; have HTX := Lib.hid htx; clear htx hb2 hB2))
  go_loopw [13] (fun i wr => ∃ q n : Nat, q ≤ 43 ∧ i = .int .i64 q ∧ wr = w2.drewN n ∧ NoSign s k q) (fun i _ => 43 - (intOf i).toNat)
  case atStart => exact ⟨0, 0, by omega, rfl, rfl, NoSign.zero s k⟩
  case round =>
    obtain ⟨q, nd, hq, rfl, rfl, hno⟩ := hrel
    have HN := Lib.hid hno
    clear hno
    by_cases hq3 : q < 43
    · obtain ⟨t, ht, htake⟩ := signs_at hq3
      have hcell := HTX.out q t ht
      have Ht := Lib.hid ht
      have h3 := (signs_pos (List.mem_of_getElem? ht)).2
      have hpos := (signs_pos (List.mem_of_getElem? ht)).1
      clear ht htake
      have hq0 : (0 : Int) ≤ (q : Int) := by omega
      have hq43 : (q : Int) < 43 := by omega
      have hd1 : decide ((q : Int) < 43) = true := by simp; omega
      by_cases hfit : s.size - k < t.length
      · have hd2 : decide ((s.size : Int) - (k : Int) < (t.length : Int)) = true := by simp; omega
        have HS := Lib.hid (NoSign.step Ht.out HN.out (NoSign.short hfit))
        go_wp2_with fail
        go_quiet (fail)
        go_wp2_with fail
        go_roundw
        case rel => exact ⟨q + 1, _, by omega, by go_num, rfl, HS.out⟩
        case measure => simp [intOf]; omega
      · have hd2 : decide ((s.size : Int) - (k : Int) < (t.length : Int)) = false := by simp; omega
        have hfit2 : k + t.length ≤ s.size := by omega
        cases hp : t.isPrefixOf (s.data.toList.drop k) with
        | false =>
          have he : (!(s.extract k (k + t.length)).toList == t) = true := by rw [ext_eq, hp]; rfl
          have HS := Lib.hid (NoSign.step Ht.out HN.out (fun h => by rw [List.isPrefixOf_iff_prefix.2 h] at hp; cases hp))
          clear hp
          go_wp2_with fail
          go_quiet (fail)
          go_wp2_with fail
          go_roundw
          case rel => exact ⟨q + 1, _, by omega, by go_num, rfl, HS.out⟩
          case measure => simp [intOf]; omega
        | true =>
          have he : (!(s.extract k (k + t.length)).toList == t) = false := by rw [ext_eq, hp]; rfl
          have hS := AtR.step HA.out (E := k + t.length) (t := ⟨3, t, 0, k⟩) (by omega) hfit2 (by rw [HR0.out, NoSign.some_ HN.out Ht.out (List.isPrefixOf_iff_prefix.1 hp)])
          have HS := Lib.hid hS
          have hne : ((q : Int) == 43) = false := by simp; omega
          have hs2 : w1.heap.size ≤ w2.heap.size := HB2.out.size
          have hlt3 : wo.heap.size < w2.heap.size := hlt2
          have HFar : Hid (Value.ownBlock u4 ≠ some wo.heap.size) := Lib.hid (fun e => Nat.lt_irrefl _ (HO.out.lt _ e).2)
          clear hp hS
          go_wp2_with fail
          go_quiet (fail)
          go_wp2_with (at_builtin; refine wpList_append_own _ rfl _ _ 24 rfl w1.heap.size 34 i0 _ 4 40 Tryd.underlying24 hi hz0 hz1 hz2 rfl (by decide) _ acc.length (toksC acc) rfl ?hown ⟨w2.heap.size, 0, none⟩ 1 1 (tokC ⟨3, t, 0, k⟩) rfl rfl ?c1 ?c2 ?c3 ?c4 ?c5 ?_; rotate_right; intro v' w3 hown' hgrow _; have hB3 : Below w1.heap.size w1 w3 := ((below_drewN HB2.out _).alloc hs2 _).grown hgrow (by simp; omega) (fun k hk => (HO2.out.lt k hk).1); have hc3 : w3.cell? ⟨wo.heap.size, q, none⟩ = some (.string ⟨t.toArray⟩) := (World.cell?_of_block (hgrow.block wo.heap.size (by simp; omega) (fun e => HFar.out e.symm))).trans ((World.cell?_alloc_lt _ _ _ hlt3).trans hcell); have HB3 := Lib.hid hB3; have HO3 := Lib.hid hown'; clear hown' hgrow hB3)
          case hown => exact (HO2.out.alloc _)
          case c1 => exact news_at w2 _ ⟨3, t, 0, k⟩
          case c2 => exact news_one _
          case c3 => unfold maxLen; omega
          case c4 => omega
          case c5 => first | omega | (simp; omega)
          go_wp2_with fail
          go_roundw
          case rel => exact ⟨k + t.length, _, HS.out, (by go_num), by rw [toksC_snoc, List.length_append]; exact HO3.out, HB3.out⟩
          case measure => simp [intOf]; omega
    · have hq43 : q = 43 := by omega
      have hd1 : decide ((q : Int) < 43) = false := by simp; omega
      have hd3 : ((q : Int) == 43) = true := by simp; omega
      have hR : SS s.data.toList 0 [] = .bad 3 k := by rw [← HA.out.same, HR0.out, NoSign.none_ (by rw [← hq43]; exact HN.out)]
      have HQ := Lib.hid hq43
      clear hq43
      have hblk := blk_at (w1 := w1) HK.out HB2.out
      have c0 : w2.cell? ⟨w.heap.size, 0, none⟩ = some (.int .i64 0) := blk_cell hblk 0
      have c1 : w2.cell? ⟨w.heap.size, 1, none⟩ = some (.int .i64 0) := blk_cell hblk 1
      have f0 : w2.frozen? ⟨w.heap.size, 0, none⟩ = false := blk_frozen hblk 0
      have f1 : w2.frozen? ⟨w.heap.size, 1, none⟩ = false := blk_frozen hblk 1
      have hsz : w.heap.size < w2.heap.size := by have := HB2.out.size; omega
      have HRes := Lib.hid hR
      clear hblk hR
      go_wp2_with fail
      go_quiet (fail)
      go_wp2_with fail
      refine bodyPost_ret (v := .tuple #[.slice none 0 0, .agg #[.int .i64 3, .int .i64 k]]) (by simp [results, Tryd.results8, go_sem, c0, c1]) rfl ?_
      exact TokRes.bad HRes.out (((HB0.out.trans ((below_drewN HB2.out _).mono HB0.out.size)).setCell (Nat.le_refl _) _).setCell (Nat.le_refl _) _)
end Go.Proofs.YtkkhohbngcdecaaDoor
