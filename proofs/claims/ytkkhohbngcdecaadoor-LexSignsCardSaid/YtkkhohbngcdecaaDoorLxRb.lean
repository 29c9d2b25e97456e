/-
  A round of the reference: a blank.
-/
import Derived.Test.YtkkhohbngcdecaaDoorLxR0
namespace Go.Proofs.YtkkhohbngcdecaaDoor
open Go.RowKit Go.Maps
set_option linter.unusedVariables false
set_option maxRecDepth 1000000 in
set_option maxHeartbeats 4000000 in
theorem round_blank {s : ByteArray} {w : World} (hs : s.size ≤ 2000) {i0 : TypeInfo} (hi : Tryd.prog.info? 34 = some i0) (hz0 : i0.zero = some (Value.agg #[Value.int IntKind.i64 0, Value.string ⟨#[]⟩, Value.int IntKind.i64 0, Value.int IntKind.i64 0])) (hz1 : i0.size = 4) (hz2 : i0.bytes = 40)
    (hsm : s.size ≤ 9223372036854775807) {w1 : World} (HB0 : Hid (Below w.heap.size w w1)) (hww : w.heap.size + 1 ≤ w1.heap.size) (HK : Hid (w1.heap[w.heap.size]? = some (Obj.cells #[Value.int IntKind.i64 0, Value.int IntKind.i64 0] 26 (0, 0))))
    {K : Act → World → Prop} {u2 u4 u6 u7 u8 u9 u10 u11 u12 u13 u18 u19 u20 u21 u22 u23 u24 u25 u26 u27 u28 u29 u30 u31 u32 u33 u34 u35 u36 u37 u38 u39 u40 u41 u42 u43 u44 u45 u46 u47 u48 u49 u50 u51 u52 u53 u54 u55 u56 u57 u58 u59 u60 u61 u62 u63 u64 u65 u66 u67 u68 u69 u70 u71 u72 u73 u74 u75 u76 u77 u78 u79 u80 u81 u82 u83 u84 u85 u86 u87 u88 u89 u90 u91 u92 u93 u94 u95 u96 u97 u98 u99 u100 u101 u102 u103 u104 u105 u106 u107 u108 u109 u110 u111 u112 u113 u114 u115 u116 u117 u118 u119 u120 u121 u122 u123 u124 u125 u126 u127 u128 u129 u130 u131 u132 u133 u134 u135 u136 u137 u138 u139 u140 u141 u142 u143 u144 u145 u146 u147 u148 u149 u150 u151 u152 u153 u154 u155 u156 u157 u158 u159 u160 u161 u162 u163 u164 u165 u166 u167 u168 u169 u170 u171 u172 u173 u174 u175 u176 u177 u178 u179 u180 u181 u182 u183 u184 u185 u186 u187 u188 u189 u190 : Value} {k : Nat} {acc : List Tok} {wo : World} (hkle : k ≤ s.size) (hfew : acc.length ≤ k) (HA : Hid (AtR s k acc)) (HO : Hid (wo.ownsRow w1.heap.size 34 4 u4 acc.length (toksC acc))) (HB : Hid (Below w1.heap.size w1 wo))
    (hlt : k < s.size) (hbl : isBl s[k] = true) :
    Code.wp Tryd.prog rbody (Exit.then (fun a' w' => (∃ u2 u4 u5 u6 u7 u8 u9 u10 u11 u12 u13 u18 u19 u20 u21 u22 u23 u24 u25 u26 u27 u28 u29 u30 u31 u32 u33 u34 u35 u36 u37 u38 u39 u40 u41 u42 u43 u44 u45 u46 u47 u48 u49 u50 u51 u52 u53 u54 u55 u56 u57 u58 u59 u60 u61 u62 u63 u64 u65 u66 u67 u68 u69 u70 u71 u72 u73 u74 u75 u76 u77 u78 u79 u80 u81 u82 u83 u84 u85 u86 u87 u88 u89 u90 u91 u92 u93 u94 u95 u96 u97 u98 u99 u100 u101 u102 u103 u104 u105 u106 u107 u108 u109 u110 u111 u112 u113 u114 u115 u116 u117 u118 u119 u120 u121 u122 u123 u124 u125 u126 u127 u128 u129 u130 u131 u132 u133 u134 u135 u136 u137 u138 u139 u140 u141 u142 u143 u144 u145 u146 u147 u148 u149 u150 u151 u152 u153 u154 u155 u156 u157 u158 u159 u160 u161 u162 u163 u164 u165 u166 u167 u168 u169 u170 u171 u172 u173 u174 u175 u176 u177 u178 u179 u180 u181 u182 u183 u184 u185 u186 u187 u188 u189 u190 : Value, (∃ k acc, AtR s k acc ∧ u5 = Value.int IntKind.i64 (k : Int) ∧ w'.ownsRow w1.heap.size 34 4 u4 acc.length (toksC acc) ∧ Below w1.heap.size w1 w') ∧
        a' = ⟨#[Value.string s, undef, u2, Value.pointer (some ⟨w.heap.size, 0, none⟩), u4, u5, u6, u7, u8, u9, u10, u11, u12, u13, Value.string s, Value.int IntKind.i64 (s.size : Int), Value.bool (decide (2000 < (s.size : Int))), undef, u18, u19, u20, u21, u22, u23, u24, u25, u26, u27, u28, u29, u30, u31, u32, u33, u34, u35, u36, u37, u38, u39, u40, u41, u42, u43, u44, u45, u46, u47, u48, u49, u50, u51, u52, u53, u54, u55, u56, u57, u58, u59, u60, u61, u62, u63, u64, u65, u66, u67, u68, u69, u70, u71, u72, u73, u74, u75, u76, u77, u78, u79, u80, u81, u82, u83, u84, u85, u86, u87, u88, u89, u90, u91, u92, u93, u94, u95, u96, u97, u98, u99, u100, u101, u102, u103, u104, u105, u106, u107, u108, u109, u110, u111, u112, u113, u114, u115, u116, u117, u118, u119, u120, u121, u122, u123, u124, u125, u126, u127, u128, u129, u130, u131, u132, u133, u134, u135, u136, u137, u138, u139, u140, u141, u142, u143, u144, u145, u146, u147, u148, u149, u150, u151, u152, u153, u154, u155, u156, u157, u158, u159, u160, u161, u162, u163, u164, u165, u166, u167, u168, u169, u170, u171, u172, u173, u174, u175, u176, u177, u178, u179, u180, u181, u182, u183, u184, u185, u186, u187, u188, u189, u190, undef, undef, undef, undef, undef, undef, undef], []⟩) ∧ s.size - (intOf (a'.tmps.getD 5 undef)).toNat < s.size - (intOf (#[Value.string s, undef, u2, Value.pointer (some ⟨w.heap.size, 0, none⟩), u4, Value.int IntKind.i64 (k : Int), u6, u7, u8, u9, u10, u11, u12, u13, Value.string s, Value.int IntKind.i64 (s.size : Int), Value.bool (decide (2000 < (s.size : Int))), undef, u18, u19, u20, u21, u22, u23, u24, u25, u26, u27, u28, u29, u30, u31, u32, u33, u34, u35, u36, u37, u38, u39, u40, u41, u42, u43, u44, u45, u46, u47, u48, u49, u50, u51, u52, u53, u54, u55, u56, u57, u58, u59, u60, u61, u62, u63, u64, u65, u66, u67, u68, u69, u70, u71, u72, u73, u74, u75, u76, u77, u78, u79, u80, u81, u82, u83, u84, u85, u86, u87, u88, u89, u90, u91, u92, u93, u94, u95, u96, u97, u98, u99, u100, u101, u102, u103, u104, u105, u106, u107, u108, u109, u110, u111, u112, u113, u114, u115, u116, u117, u118, u119, u120, u121, u122, u123, u124, u125, u126, u127, u128, u129, u130, u131, u132, u133, u134, u135, u136, u137, u138, u139, u140, u141, u142, u143, u144, u145, u146, u147, u148, u149, u150, u151, u152, u153, u154, u155, u156, u157, u158, u159, u160, u161, u162, u163, u164, u165, u166, u167, u168, u169, u170, u171, u172, u173, u174, u175, u176, u177, u178, u179, u180, u181, u182, u183, u184, u185, u186, u187, u188, u189, u190, undef, undef, undef, undef, undef, undef, undef].getD 5 undef)).toNat)
      (Exit.inBlock 0 (Exit.then K (bodyPost Tryd.prog Tryd.f8 (TokRes w (SS s.data.toList 0 [])))))) ⟨#[Value.string s, undef, u2, Value.pointer (some ⟨w.heap.size, 0, none⟩), u4, Value.int IntKind.i64 (k : Int), u6, u7, u8, u9, u10, u11, u12, u13, Value.string s, Value.int IntKind.i64 (s.size : Int), Value.bool (decide (2000 < (s.size : Int))), undef, u18, u19, u20, u21, u22, u23, u24, u25, u26, u27, u28, u29, u30, u31, u32, u33, u34, u35, u36, u37, u38, u39, u40, u41, u42, u43, u44, u45, u46, u47, u48, u49, u50, u51, u52, u53, u54, u55, u56, u57, u58, u59, u60, u61, u62, u63, u64, u65, u66, u67, u68, u69, u70, u71, u72, u73, u74, u75, u76, u77, u78, u79, u80, u81, u82, u83, u84, u85, u86, u87, u88, u89, u90, u91, u92, u93, u94, u95, u96, u97, u98, u99, u100, u101, u102, u103, u104, u105, u106, u107, u108, u109, u110, u111, u112, u113, u114, u115, u116, u117, u118, u119, u120, u121, u122, u123, u124, u125, u126, u127, u128, u129, u130, u131, u132, u133, u134, u135, u136, u137, u138, u139, u140, u141, u142, u143, u144, u145, u146, u147, u148, u149, u150, u151, u152, u153, u154, u155, u156, u157, u158, u159, u160, u161, u162, u163, u164, u165, u166, u167, u168, u169, u170, u171, u172, u173, u174, u175, u176, u177, u178, u179, u180, u181, u182, u183, u184, u185, u186, u187, u188, u189, u190, undef, undef, undef, undef, undef, undef, undef], []⟩ wo := by
  conv => arg 2; whnf
  have hS := SS_blank (r := s.data.toList.drop (k + 1)) k acc hbl
  rw [← drop_cons s hlt] at hS
  have HA' : Hid (AtR s (k + 1) acc) := Lib.hid ⟨by omega, by omega, by rw [← hS, HA.out.same]⟩
  have HY := bl_yes hbl
  clear hS hbl
  rcases HY with e | e | e | e
  · have b32 : ((s[k].toNat : Int) == 32) = true := by rw [e]; rfl
    have E := Lib.hid e
    clear e
    go_wp2_with fail
    go_roundw
    case rel => exact ⟨k + 1, acc, HA'.out, by go_num, HO.out, HB.out⟩
    case measure => simp [intOf]; omega
  · have b32 : ((s[k].toNat : Int) == 32) = false := by rw [e]; rfl
    have b9 : ((s[k].toNat : Int) == 9) = true := by rw [e]; rfl
    have E := Lib.hid e
    clear e
    go_wp2_with fail
    go_roundw
    case rel => exact ⟨k + 1, acc, HA'.out, by go_num, HO.out, HB.out⟩
    case measure => simp [intOf]; omega
  · have b32 : ((s[k].toNat : Int) == 32) = false := by rw [e]; rfl
    have b9 : ((s[k].toNat : Int) == 9) = false := by rw [e]; rfl
    have b10 : ((s[k].toNat : Int) == 10) = true := by rw [e]; rfl
    have E := Lib.hid e
    clear e
    go_wp2_with fail
    go_roundw
    case rel => exact ⟨k + 1, acc, HA'.out, by go_num, HO.out, HB.out⟩
    case measure => simp [intOf]; omega
  · have b32 : ((s[k].toNat : Int) == 32) = false := by rw [e]; rfl
    have b9 : ((s[k].toNat : Int) == 9) = false := by rw [e]; rfl
    have b10 : ((s[k].toNat : Int) == 10) = false := by rw [e]; rfl
    have b13 : ((s[k].toNat : Int) == 13) = true := by rw [e]; rfl
    have E := Lib.hid e
    clear e
    go_wp2_with fail
    go_roundw
    case rel => exact ⟨k + 1, acc, HA'.out, by go_num, HO.out, HB.out⟩
    case measure => simp [intOf]; omega
end Go.Proofs.YtkkhohbngcdecaaDoor
