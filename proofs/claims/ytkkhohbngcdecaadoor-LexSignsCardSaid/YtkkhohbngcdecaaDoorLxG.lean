/-
  'next' of lex: the token that begins at a place.
-/
import Derived.Test.YtkkhohbngcdecaaDoorLxF
namespace Go.Proofs.YtkkhohbngcdecaaDoor
open Go.RowKit Go.Maps
set_option linter.unusedVariables false

theorem mapIs_below {w w' : World} {b : Nat} {l : List (List UInt8)} (h : MapIs w b l) (hb : Below w.heap.size w w') : MapIs w' b l := by
  obtain ⟨n, D, h1, h2, h3⟩ := h
  exact ⟨n, D, h1, h2.kept ⟨hb.os, hb.tape, hb.output, hb.size, fun k hk _ => hb.block k hk⟩ (row := none) (by simp), h3⟩
/-- A token, as a value. -/
def tokV (t : Tok) : Value := .agg #[.int .i64 t.kind, .string ⟨t.text.toArray⟩, .int .i64 t.n, .int .i64 t.pos]
theorem run_name (s : ByteArray) (k : Nat) : s.extract k (k + cnt isAl (s.data.toList.drop k)) = ⟨((s.data.toList.drop k).takeWhile isAl).toArray⟩ := by
  have e : (s.extract k (k + cnt isAl (s.data.toList.drop k))).data.toList = (s.data.toList.drop k).takeWhile isAl := by
    rw [Lib.extract_data, Nat.add_sub_cancel_left, take_cnt]
  rw [← e]
theorem cnt_in (p : UInt8 → Bool) (s : ByteArray) (k : Nat) (hk : k ≤ s.size) : k + cnt p (s.data.toList.drop k) ≤ s.size := by
  have h := cnt_le (p := p) (r := s.data.toList.drop k)
  have e : s.data.toList.length = s.size := by simp
  rw [List.length_drop, e] at h
  omega
theorem blk_keep {w w1 : World} {cs : Array Value} {T : TypeId} (hb : Below (w.alloc (.cells cs T)).heap.size (w.alloc (.cells cs T)) w1) : w1.heap[w.heap.size]? = some (.cells cs T (0, 0)) :=
  (hb.block _ (by simp)).trans (heap_alloc_new w _)
theorem blk_cell {w1 : World} {g : Nat} {cs : Array Value} {T : TypeId} (h : w1.heap[g]? = some (.cells cs T (0, 0))) (i : Nat) : w1.cell? ⟨g, i, none⟩ = cs[i]? := cell_of_row w1 g i cs T (0, 0) h
theorem blk_frozen {w1 : World} {g : Nat} {cs : Array Value} {T : TypeId} (h : w1.heap[g]? = some (.cells cs T (0, 0))) (i : Nat) : w1.frozen? ⟨g, i, none⟩ = false := by simp [World.frozen?, h]
set_option maxRecDepth 100000 in
theorem next_name (s : ByteArray) (k b : Nat) (w : World) (hs : s.size ≤ 4096) (hk : k < s.size) (hl : isLet s[k] = true) :
    Calls Tryd.prog 15 #[.string s, .int .i64 k, .map (some b)] w fun e w' =>
      e = .returned (.tuple #[tokV ⟨if isWord ((s.data.toList.drop k).takeWhile isAl) then 4 else 1, (s.data.toList.drop k).takeWhile isAl, 0, k⟩, .int .i64 ((k + cnt isAl (s.data.toList.drop k) : Nat) : Int), .int .i64 0]) ∧ Below w.heap.size w w' := by
  have cl := fun W => isLetter_any s[k] W
  rw [hl] at cl
  have CL := fun W => Lib.hid (cl W)
  have cp := fun W => pastName_any s k W (by unfold maxLen; omega) (by omega)
  have hin := cnt_in isAl s k (by omega)
  have hx := run_name s k
  have ck := fun W => kindOf_any (s.extract k (k + cnt isAl (s.data.toList.drop k))) W
  rw [hx] at ck
  obtain ⟨E, hE⟩ : ∃ E, E = k + cnt isAl (s.data.toList.drop k) := ⟨_, rfl⟩
  obtain ⟨K, hK⟩ : ∃ K : Int, K = if isWord ((s.data.toList.drop k).takeWhile isAl) then 4 else 1 := ⟨_, rfl⟩
  obtain ⟨T, hT⟩ : ∃ T, T = (s.data.toList.drop k).takeWhile isAl := ⟨_, rfl⟩
  have ck' : ∀ W, Calls Tryd.prog 25 #[.string ⟨T.toArray⟩] W fun e w' => e = .returned (.int .i64 K) ∧ W = w' := by
    intro W; rw [hK, hT]; exact ck W
  rw [← hK, ← hT]
  rw [← hE] at hin hx cp ⊢
  rw [← hT] at hx
  have hkE : k ≤ E := by omega
  have cc := fun W => clone_any (s.extract k E) W (by rw [ByteArray.size_extract]; omega)
  rw [hx] at cc
  have CP := fun W => Lib.hid (cp W)
  have CK := fun W => Lib.hid (ck' W)
  have CC := fun W => Lib.hid (cc W)
  have HX := Lib.hid hx
  clear cl cp ck ck' cc hx hE hK hT hl
  have hsm : s.size ≤ 9223372036854775807 := by omega
  go_enter Tryd.func15, Tryd.ntmps15
  go_wp2_with fail
  refine (CL _).out.mono ?_
  rintro e w' ⟨rfl, rfl⟩
  go_wp2_with fail
  refine (CP _).out.mono ?_
  rintro e w' ⟨rfl, rfl⟩
  go_wp2_with fail
  rw [HX.out]
  refine (CC _).out.mono ?_
  rintro e w1 ⟨rfl, hb⟩
  have hblk := blk_keep hb
  have c0 : w1.cell? ⟨w.heap.size, 0, none⟩ = some (.int .i64 0) := blk_cell hblk 0
  have c1 : w1.cell? ⟨w.heap.size, 1, none⟩ = some (.string ⟨#[]⟩) := blk_cell hblk 1
  have c2 : w1.cell? ⟨w.heap.size, 2, none⟩ = some (.int .i64 0) := blk_cell hblk 2
  have c3 : w1.cell? ⟨w.heap.size, 3, none⟩ = some (.int .i64 0) := blk_cell hblk 3
  have f0 : w1.frozen? ⟨w.heap.size, 0, none⟩ = false := blk_frozen hblk 0
  have f1 : w1.frozen? ⟨w.heap.size, 1, none⟩ = false := blk_frozen hblk 1
  have f2 : w1.frozen? ⟨w.heap.size, 2, none⟩ = false := blk_frozen hblk 2
  have f3 : w1.frozen? ⟨w.heap.size, 3, none⟩ = false := blk_frozen hblk 3
  have HB : Hid (Below w.heap.size w w1) := Lib.hid (((Below.refl _ _).alloc (Nat.le_refl _) _).trans (hb.mono (by simp)))
  clear hb hblk
  go_wp2_with fail
  refine (CK _).out.mono ?_
  rintro e w' ⟨rfl, rfl⟩
  go_wp2_with fail
  refine bodyPost_ret (v := .tuple #[tokV ⟨K, T, 0, k⟩, .int .i64 E, .int .i64 0]) (by simp [results, Tryd.results15, go_sem, tokV, c0, c1, c2, c3]) rfl ⟨rfl, ?_⟩
  exact (((HB.out.setCell (Nat.le_refl _) _).setCell (Nat.le_refl _) _).setCell (Nat.le_refl _) _).setCell (Nat.le_refl _) _

set_option maxRecDepth 100000 in
theorem next_num (s : ByteArray) (k b : Nat) (w : World) (hs : s.size ≤ 4096) (hk : k < s.size) (hl : isLet s[k] = false) (hd : isDig s[k] = true) :
    Calls Tryd.prog 15 #[.string s, .int .i64 k, .map (some b)] w fun e w' =>
      e = .returned (.tuple #[tokV ⟨2, [], numN (s.data.toList.drop k), k⟩, .int .i64 ((numP (s.data.toList.drop k) k : Nat) : Int), .int .i64 (numE (s.data.toList.drop k))]) ∧ Below w.heap.size w w' := by
  have cl := fun W => isLetter_any s[k] W
  rw [hl] at cl
  have CL := fun W => Lib.hid (cl W)
  have cd := fun W => isDigit_any s[k] W
  rw [hd] at cd
  have CD := fun W => Lib.hid (cd W)
  have cn := fun W => number_any s k W (by unfold maxLen; omega) (by omega)
  obtain ⟨E, hE⟩ : ∃ E, E = numP (s.data.toList.drop k) k := ⟨_, rfl⟩
  obtain ⟨N, hN⟩ : ∃ N, N = numN (s.data.toList.drop k) := ⟨_, rfl⟩
  obtain ⟨R, hR⟩ : ∃ R, R = numE (s.data.toList.drop k) := ⟨_, rfl⟩
  rw [← hE, ← hN, ← hR] at cn ⊢
  have CN := fun W => Lib.hid (cn W)
  clear cl cn cd hE hN hR hl hd
  have hsm : s.size ≤ 9223372036854775807 := by omega
  go_enter Tryd.func15, Tryd.ntmps15
  go_wp2_with fail
  refine (CL _).out.mono ?_
  rintro e w' ⟨rfl, rfl⟩
  go_wp2_with fail
  refine (CD _).out.mono ?_
  rintro e w' ⟨rfl, rfl⟩
  go_wp2_with fail
  refine (CN _).out.mono ?_
  rintro e w1 ⟨rfl, rfl⟩
  go_wp2_with fail
  refine bodyPost_ret (v := .tuple #[tokV ⟨2, [], N, k⟩, .int .i64 E, .int .i64 R]) (by simp [results, Tryd.results15, go_sem, tokV]) rfl ⟨rfl, ?_⟩
  exact (Below.refl _ _).alloc (Nat.le_refl _) _

theorem drop_str (s : ByteArray) (k : Nat) : (s.extract k s.size).data.toList = s.data.toList.drop k := by
  rw [Lib.extract_data, List.take_of_length_le (by simp)]
theorem run_sign (s : ByteArray) (k : Nat) (t : List UInt8) (h : t <+: s.data.toList.drop k) : s.extract k (k + t.length) = ⟨t.toArray⟩ := by
  have e : (s.extract k (k + t.length)).data.toList = t := by
    rw [Lib.extract_data, Nat.add_sub_cancel_left, ← List.prefix_iff_eq_take.1 h]
  have := congrArg List.toArray e
  rw [Array.toArray_toList] at this
  rw [← this]
set_option maxRecDepth 100000 in
theorem next_bad (s : ByteArray) (k b : Nat) (w : World) (hs : s.size ≤ 4096) (hk : k < s.size) (hl : isLet s[k] = false) (hd : isDig s[k] = false) (hM : MapIs w b signsL) (hg : sgT (s.data.toList.drop k) = none) :
    Calls Tryd.prog 15 #[.string s, .int .i64 k, .map (some b)] w fun e w' =>
      e = .returned (.tuple #[tokV ⟨0, [], 0, 0⟩, .int .i64 0, .int .i64 3]) ∧ Below w.heap.size w w' := by
  have cl := fun W => isLetter_any s[k] W
  rw [hl] at cl
  have CL := fun W => Lib.hid (cl W)
  have cd := fun W => isDigit_any s[k] W
  rw [hd] at cd
  have CD := fun W => Lib.hid (cd W)
  have cs := fun W (h : MapIs W b signsL) => signLength_any (s.extract k s.size) b W h
  rw [drop_str, sg_none hg] at cs
  have CS := fun W h => Lib.hid (cs W h)
  have HM : MapIs (w.alloc (.cells #[.int .i64 0, .string ⟨#[]⟩, .int .i64 0, .int .i64 0] 34)) b signsL := mapIs_below hM ((Below.refl _ _).alloc (Nat.le_refl _) _)
  have HM := Lib.hid HM
  clear cl cs cd hl hd hg hM
  have hsm : s.size ≤ 9223372036854775807 := by omega
  go_enter Tryd.func15, Tryd.ntmps15
  go_wp2_with fail
  refine (CL _).out.mono ?_
  rintro e w' ⟨rfl, rfl⟩
  go_wp2_with fail
  refine (CD _).out.mono ?_
  rintro e w' ⟨rfl, rfl⟩
  go_wp2_with fail
  refine (CS _ HM.out).out.mono ?_
  rintro e w1 ⟨rfl, hb⟩
  have hblk := blk_keep hb
  have c0 : w1.cell? ⟨w.heap.size, 0, none⟩ = some (.int .i64 0) := blk_cell hblk 0
  have c1 : w1.cell? ⟨w.heap.size, 1, none⟩ = some (.string ⟨#[]⟩) := blk_cell hblk 1
  have c2 : w1.cell? ⟨w.heap.size, 2, none⟩ = some (.int .i64 0) := blk_cell hblk 2
  have c3 : w1.cell? ⟨w.heap.size, 3, none⟩ = some (.int .i64 0) := blk_cell hblk 3
  have f0 : w1.frozen? ⟨w.heap.size, 0, none⟩ = false := blk_frozen hblk 0
  have f1 : w1.frozen? ⟨w.heap.size, 1, none⟩ = false := blk_frozen hblk 1
  have f2 : w1.frozen? ⟨w.heap.size, 2, none⟩ = false := blk_frozen hblk 2
  have f3 : w1.frozen? ⟨w.heap.size, 3, none⟩ = false := blk_frozen hblk 3
  have HB : Hid (Below w.heap.size w w1) := Lib.hid (((Below.refl _ _).alloc (Nat.le_refl _) _).trans (hb.mono (by simp)))
  clear hb hblk
  go_wp2_with fail
  refine bodyPost_ret (v := .tuple #[tokV ⟨0, [], 0, 0⟩, .int .i64 0, .int .i64 3]) (by simp [results, Tryd.results15, go_sem, tokV, c0, c1, c2, c3]) rfl ⟨rfl, ?_⟩
  exact (((HB.out.setCell (Nat.le_refl _) _).setCell (Nat.le_refl _) _).setCell (Nat.le_refl _) _).setCell (Nat.le_refl _) _

set_option maxRecDepth 100000 in
theorem next_sign (s : ByteArray) (k b : Nat) (w : World) (t : List UInt8) (hs : s.size ≤ 4096) (hk : k < s.size) (hl : isLet s[k] = false) (hd : isDig s[k] = false) (hM : MapIs w b signsL) (hg : sgT (s.data.toList.drop k) = some t) :
    Calls Tryd.prog 15 #[.string s, .int .i64 k, .map (some b)] w fun e w' =>
      e = .returned (.tuple #[tokV ⟨3, t, 0, k⟩, .int .i64 ((k + t.length : Nat) : Int), .int .i64 0]) ∧ Below w.heap.size w w' := by
  have cl := fun W => isLetter_any s[k] W
  rw [hl] at cl
  have CL := fun W => Lib.hid (cl W)
  have cd := fun W => isDigit_any s[k] W
  rw [hd] at cd
  have CD := fun W => Lib.hid (cd W)
  have cs := fun W (h : MapIs W b signsL) => signLength_any (s.extract k s.size) b W h
  rw [drop_str, sg_some hg] at cs
  have hpre := (sgT_some hg).2
  have hpos := (signs_pos (sgT_some hg).1).1
  have h3 := (signs_pos (sgT_some hg).1).2
  have hle : k + t.length ≤ s.size := by
    have := hpre.length_le
    have e : s.data.toList.length = s.size := by simp
    rw [List.length_drop, e] at this
    omega
  have hx := run_sign s k t hpre
  have cc := fun W => clone_any ⟨t.toArray⟩ W (by show t.toArray.size ≤ _; rw [List.size_toArray]; omega)
  obtain ⟨n, hn⟩ : ∃ n, n = t.length := ⟨_, rfl⟩
  rw [← hn] at cs hx hpos h3 hle ⊢
  have CS := fun W h => Lib.hid (cs W h)
  have CC := fun W => Lib.hid (cc W)
  have HX := Lib.hid hx
  have HM : MapIs (w.alloc (.cells #[.int .i64 0, .string ⟨#[]⟩, .int .i64 0, .int .i64 0] 34)) b signsL := mapIs_below hM ((Below.refl _ _).alloc (Nat.le_refl _) _)
  have HM := Lib.hid HM
  clear cl cs cc cd hl hd hg hM hx hn hpre
  have hsm : s.size ≤ 9223372036854775807 := by omega
  have hne : (((k : Int) + (n : Int)) == (k : Int)) = false := by simp; omega
  go_enter Tryd.func15, Tryd.ntmps15
  go_wp2_with fail
  refine (CL _).out.mono ?_
  rintro e w' ⟨rfl, rfl⟩
  go_wp2_with fail
  refine (CD _).out.mono ?_
  rintro e w' ⟨rfl, rfl⟩
  go_wp2_with fail
  refine (CS _ HM.out).out.mono ?_
  rintro e w0 ⟨rfl, hb0⟩
  have HB0 := Lib.hid hb0
  clear hb0
  go_wp2_with fail
  rw [HX.out]
  refine (CC _).out.mono ?_
  rintro e w1 ⟨rfl, hb1⟩
  have hb := HB0.out.trans (hb1.mono HB0.out.size)
  have hblk := blk_keep hb
  have c0 : w1.cell? ⟨w.heap.size, 0, none⟩ = some (.int .i64 0) := blk_cell hblk 0
  have c1 : w1.cell? ⟨w.heap.size, 1, none⟩ = some (.string ⟨#[]⟩) := blk_cell hblk 1
  have c2 : w1.cell? ⟨w.heap.size, 2, none⟩ = some (.int .i64 0) := blk_cell hblk 2
  have c3 : w1.cell? ⟨w.heap.size, 3, none⟩ = some (.int .i64 0) := blk_cell hblk 3
  have f0 : w1.frozen? ⟨w.heap.size, 0, none⟩ = false := blk_frozen hblk 0
  have f1 : w1.frozen? ⟨w.heap.size, 1, none⟩ = false := blk_frozen hblk 1
  have f2 : w1.frozen? ⟨w.heap.size, 2, none⟩ = false := blk_frozen hblk 2
  have f3 : w1.frozen? ⟨w.heap.size, 3, none⟩ = false := blk_frozen hblk 3
  have HB : Hid (Below w.heap.size w w1) := Lib.hid (((Below.refl _ _).alloc (Nat.le_refl _) _).trans (hb.mono (by simp)))
  clear hb hblk hb1
  go_wp2_with fail
  refine bodyPost_ret (v := .tuple #[tokV ⟨3, t, 0, k⟩, .int .i64 ((k + n : Nat) : Int), .int .i64 0]) (by simp [results, Tryd.results15, go_sem, tokV, c0, c1, c2, c3]) rfl ⟨rfl, ?_⟩
  exact (((HB.out.setCell (Nat.le_refl _) _).setCell (Nat.le_refl _) _).setCell (Nat.le_refl _) _).setCell (Nat.le_refl _) _
end Go.Proofs.YtkkhohbngcdecaaDoor
