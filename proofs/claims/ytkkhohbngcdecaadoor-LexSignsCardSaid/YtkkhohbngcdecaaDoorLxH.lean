/-
  'Tokens' of lex: what 'lexR' tells.
-/
import Derived.Test.YtkkhohbngcdecaaDoorLxG
import Derived.OwnWalk
import Derived.Deep.AppendLies
namespace Go.Proofs.YtkkhohbngcdecaaDoor
open Go.RowKit Go.Maps
set_option linter.unusedVariables false

def tokC (t : Tok) : List Value := [.int .i64 t.kind, .string ⟨t.text.toArray⟩, .int .i64 t.n, .int .i64 t.pos]
def toksC (l : List Tok) : List Value := l.flatMap tokC
theorem toksC_snoc (l : List Tok) (t : Tok) : toksC (l ++ [t]) = toksC l ++ tokC t := by simp [toksC]
theorem toksC_length (l : List Tok) : (toksC l).length = l.length * 4 := by
  induction l with
  | nil => rfl
  | cons t l ih => simp only [toksC, List.flatMap_cons, List.length_append, List.length_cons] at ih ⊢; rw [ih]; simp [tokC]; omega
/-- What a lexer returns: the tokens in new memory, and the fault. -/
def TokRes (w : World) (R : Res) (e : Ending) (w' : World) : Prop :=
  ∃ v, e = .returned (.tuple #[v, .agg #[.int .i64 R.err, .int .i64 R.at]]) ∧ w'.ownsRow w.heap.size 34 4 v R.toks.length (toksC R.toks) ∧ Below w.heap.size w w'
theorem own_below {w w' : World} {base : Nat} {e : TypeId} {size : Nat} {v : Value} {n : Nat} {xs : List Value} (h : w.ownsRow base e size v n xs) (hb : Below w.heap.size w w') : w'.ownsRow base e size v n xs :=
  h.kept (row := none) ⟨hb.os, hb.tape, hb.output, hb.size, fun k hk _ => hb.block k hk⟩ (by cases v.ownBlock <;> simp)
theorem infoTok : (Tryd.prog.info? 34).map (fun i => (i.zero, i.size, i.bytes)) = some (some (.agg #[.int .i64 0, .string ⟨#[]⟩, .int .i64 0, .int .i64 0]), 4, 40) := by kernel_rfl
set_option maxRecDepth 100000 in
theorem lexTokens_long (s : ByteArray) (w : World) (hs : 2000 < s.size) (hm : s.size ≤ maxLen) :
    Calls Tryd.prog 7 #[.string s] w fun e w' => e = .returned (.tuple #[.slice none 0 0, .agg #[.int .i64 2, .int .i64 0]]) ∧ Below w.heap.size w w' := by
  unfold maxLen at hm
  go_enter Tryd.func7, Tryd.ntmps7
  go_wp2_with fail
  refine bodyPost_ret (v := .tuple #[.slice none 0 0, .agg #[.int .i64 2, .int .i64 0]]) (by simp [results, Tryd.results7, go_sem]) rfl ⟨rfl, ?_⟩
  exact (Below.refl _ _).alloc (Nat.le_refl _) _
section
variable (s : ByteArray) (k : Nat) (acc : List Tok) (hk : k < s.size) (hb : isBl s[k] = false)
include hb
theorem round_name (hl : isLet s[k] = true) : SS (s.data.toList.drop k) k acc =
    SS (s.data.toList.drop (k + cnt isAl (s.data.toList.drop k))) (k + cnt isAl (s.data.toList.drop k)) (acc ++ [⟨if isWord ((s.data.toList.drop k).takeWhile isAl) then 4 else 1, (s.data.toList.drop k).takeWhile isAl, 0, k⟩]) := by
  have h := SS_name (r := s.data.toList.drop (k + 1)) k acc hb hl
  rw [← drop_cons s hk, List.drop_drop] at h
  exact h
theorem round_num (hl : isLet s[k] = false) (hd : isDig s[k] = true) : SS (s.data.toList.drop k) k acc =
    if numE (s.data.toList.drop k) = 0 then SS (s.data.toList.drop (numP (s.data.toList.drop k) k)) (numP (s.data.toList.drop k) k) (acc ++ [⟨2, [], numN (s.data.toList.drop k), k⟩]) else .bad (numE (s.data.toList.drop k)) k := by
  have h := SS_num (r := s.data.toList.drop (k + 1)) k acc hb hl hd
  rw [← drop_cons s hk, List.drop_drop] at h
  rw [h]
  cases ho : (numOf ((s.data.toList.drop k).takeWhile isDig)).2 with
  | true =>
    obtain ⟨a, b, c⟩ := num_over k ho
    rw [if_pos rfl, a, if_neg (by decide)]
  | false =>
    rw [if_neg (by simp : ¬ (false = true))]
    cases hl : isLet ((s.data.toList.drop k).getD (cnt isDig (s.data.toList.drop k)) 0) with
    | true =>
      obtain ⟨a, b, c⟩ := num_let k ho hl
      rw [a, if_neg (by decide : ¬ (3 : Int) = 0)]
      exact if_pos hl
    | false =>
      obtain ⟨a, b, c⟩ := num_ok k ho hl
      rw [a, b, c, if_pos rfl]
      rw [if_neg (by rw [show ((s.data.toList.drop k).takeWhile isDig).length = cnt isDig (s.data.toList.drop k) from rfl, hl]; decide)]
      rfl
theorem round_sign (hl : isLet s[k] = false) (hd : isDig s[k] = false) : SS (s.data.toList.drop k) k acc = match sgT (s.data.toList.drop k) with
      | none => .bad 3 k
      | some t => SS (s.data.toList.drop (k + t.length)) (k + t.length) (acc ++ [⟨3, t, 0, k⟩]) := by
  have h := SS_sign (r := s.data.toList.drop (k + 1)) k acc hb hl hd
  rw [← drop_cons s hk] at h
  rw [h]
  cases sgT (s.data.toList.drop k) with
  | none => rfl
  | some t => simp only [List.drop_drop]
end
/-- Where the lexer is: past k, with tokens so far. -/
structure At (s : ByteArray) (k : Nat) (acc : List Tok) : Prop where
  le : k ≤ s.size
  few : acc.length ≤ k
  here : ∀ h : k < s.size, isBl s[k] = false
  same : SS (s.data.toList.drop k) k acc = SS s.data.toList 0 []
theorem At.skip {s : ByteArray} {E : Nat} {acc : List Tok} (h1 : E ≤ s.size) (h2 : acc.length ≤ E) (h : SS (s.data.toList.drop E) E acc = SS s.data.toList 0 []) : At s (E + cnt isBl (s.data.toList.drop E)) acc where
  le := cnt_in isBl s E h1
  few := by omega
  here := fun hlt => head_cnt isBl (s.data.toList.drop E) s[E + cnt isBl (s.data.toList.drop E)] (s.data.toList.drop (E + cnt isBl (s.data.toList.drop E) + 1)) (by rw [List.drop_drop, ← drop_cons s hlt])
  same := by
    have := SS_blanks (s.data.toList.drop E) E acc
    rw [List.drop_drop] at this
    rw [← this, h]
theorem At.start (s : ByteArray) : At s (cnt isBl s.data.toList) [] := by
  have := At.skip (s := s) (E := 0) (acc := []) (Nat.zero_le _) (Nat.le_refl _) rfl
  simpa using this
theorem At.done {s : ByteArray} {k : Nat} {acc : List Tok} (h : At s k acc) (hk : ¬ k < s.size) : SS s.data.toList 0 [] = .ok (acc ++ [⟨0, [], 0, s.size⟩]) := by
  rw [← h.same, drop_nil s hk, SS_nil, show k = s.size from by have := h.le; omega]

theorem TokRes.bad {w : World} {R : Res} {err : Int} {pos : Nat} {w' : World} (hR : R = .bad err pos) (h : Below w.heap.size w w') : TokRes w R (.returned (.tuple #[.slice none 0 0, .agg #[.int .i64 err, .int .i64 pos]])) w' := by
  subst hR
  exact ⟨_, rfl, World.ownsRow_nil _ _ _ _, h⟩
theorem blk_at {w1 w2 : World} {g : Nat} {cs : Array Value} {T : TypeId} (hk : w1.heap[g]? = some (.cells cs T (0, 0))) (hB : Below w1.heap.size w1 w2) : w2.heap[g]? = some (.cells cs T (0, 0)) :=
  (hB.block g (by
    rcases Nat.lt_or_ge g w1.heap.size with h | h
    · exact h
    · rw [Array.getElem?_eq_none h] at hk; cases hk)).trans hk
theorem news_at (w : World) (T : TypeId) (t : Tok) : ∀ j u, (tokC t)[j]? = some u → (w.alloc (.cells #[.int .i64 t.kind, .string ⟨t.text.toArray⟩, .int .i64 t.n, .int .i64 t.pos] T)).cell? ((⟨w.heap.size, 0, none⟩ : Addr).add j) = some u := by
  intro j u h
  have e : (⟨w.heap.size, 0, none⟩ : Addr).add j = ⟨w.heap.size, j, none⟩ := by unfold Addr.add; split <;> simp_all
  rw [e, blk_cell (heap_alloc_new w _), ← h]
  simp [tokC]
theorem news_one (t : Tok) : ∀ u ∈ tokC t, u.oneCell' = true := by
  intro u hu
  simp only [tokC, List.mem_cons, List.not_mem_nil, or_false] at hu
  rcases hu with rfl | rfl | rfl | rfl <;> rfl
theorem own_mono {w : World} {base base' : Nat} {e : TypeId} {size : Nat} {v : Value} {n : Nat} {xs : List Value} (h : w.ownsRow base e size v n xs) (hb : base' ≤ base) : w.ownsRow base' e size v n xs := by
  refine ⟨h.1, ?_⟩
  rcases h.2 with h2 | ⟨g, cap, cur, a, b, c⟩
  · exact .inl h2
  · exact .inr ⟨g, cap, cur, a, by omega, c⟩
theorem TokRes.ok_ {w w1 w2 : World} {R : Res} {acc : List Tok} {t : Tok} {v : Value} (hR : R = .ok (acc ++ [t])) (hw : w.heap.size + 1 ≤ w1.heap.size) (h : w2.ownsRow w1.heap.size 34 4 v (acc.length + 1) (toksC acc ++ tokC t)) (h0 : Below w.heap.size w w1) (hb : Below w1.heap.size w1 w2) (a b : Value) :
    TokRes w R (.returned (.tuple #[v, .agg #[.int .i64 0, .int .i64 0]])) ((w2.setCell ⟨w.heap.size, 0, none⟩ a).setCell ⟨w.heap.size, 1, none⟩ b) := by
  subst hR
  refine ⟨v, rfl, ?_, ((h0.trans (hb.mono h0.size)).setCell (Nat.le_refl _) _).setCell (Nat.le_refl _) _⟩
  have h1 := ownsRow_setCell_below (ownsRow_setCell_below h (a := ⟨w.heap.size, 0, none⟩) (by show w.heap.size < _; omega) a) (a := ⟨w.heap.size, 1, none⟩) (by show w.heap.size < _; omega) b
  have e : Res.toks (.ok (acc ++ [t])) = acc ++ [t] := rfl
  rw [e, toksC_snoc, List.length_append]
  exact own_mono h1 (by omega)
/-- What 'next' returns: a token, or a fault. -/
theorem next_cases (s : ByteArray) (k b : Nat) (hs : s.size ≤ 2000) (hk : k < s.size) (hbl : isBl s[k] = false) :
    (∃ (t : Tok) (E : Nat), k + 1 ≤ E ∧ E ≤ s.size ∧ (∀ acc, SS (s.data.toList.drop k) k acc = SS (s.data.toList.drop E) E (acc ++ [t])) ∧
      ∀ w, MapIs w b signsL → Calls Tryd.prog 15 #[.string s, .int .i64 k, .map (some b)] w fun e w' => e = .returned (.tuple #[.agg #[.int .i64 t.kind, .string ⟨t.text.toArray⟩, .int .i64 t.n, .int .i64 t.pos], .int .i64 E, .int .i64 0]) ∧ Below w.heap.size w w') ∨
    (∃ (t : Tok) (E : Nat) (err : Int), (err == 0) = false ∧ (∀ acc, SS (s.data.toList.drop k) k acc = .bad err k) ∧
      ∀ w, MapIs w b signsL → Calls Tryd.prog 15 #[.string s, .int .i64 k, .map (some b)] w fun e w' => e = .returned (.tuple #[.agg #[.int .i64 t.kind, .string ⟨t.text.toArray⟩, .int .i64 t.n, .int .i64 t.pos], .int .i64 E, .int .i64 err]) ∧ Below w.heap.size w w') := by
  cases hl : isLet s[k] with
  | true =>
    refine .inl ⟨_, _, ?_, cnt_in isAl s k (by omega), fun acc => round_name s k acc hk hbl hl, fun w _ => next_name s k b w (by omega) hk hl⟩
    rw [drop_cons s hk, cnt_yes (by simp [isAl, hl])]; omega
  | false =>
    cases hd : isDig s[k] with
    | true =>
      by_cases he : numE (s.data.toList.drop k) = 0
      · refine .inl ⟨_, _, ?_, ?_, fun acc => by rw [round_num s k acc hk hbl hl hd, if_pos he], fun w _ => ?_⟩
        · rw [numP, if_pos he, drop_cons s hk, cnt_yes hd]; omega
        · rw [numP, if_pos he]; exact cnt_in isDig s k (by omega)
        · have := next_num s k b w (by omega) hk hl hd
          rw [he] at this
          exact this
      · exact .inr ⟨_, _, _, by simpa using he, fun acc => by rw [round_num s k acc hk hbl hl hd, if_neg he], fun w _ => next_num s k b w (by omega) hk hl hd⟩
    | false =>
      cases hg : sgT (s.data.toList.drop k) with
      | none => exact .inr ⟨⟨0, [], 0, 0⟩, 0, 3, by decide, fun acc => by rw [round_sign s k acc hk hbl hl hd, hg], fun w hM => next_bad s k b w (by omega) hk hl hd hM hg⟩
      | some t =>
        refine .inl ⟨_, _, ?_, ?_, fun acc => by rw [round_sign s k acc hk hbl hl hd, hg], fun w hM => next_sign s k b w t (by omega) hk hl hd hM hg⟩
        · have := (signs_pos (sgT_some hg).1).1; omega
        · have := (sgT_some hg).2.length_le
          have e : s.data.toList.length = s.size := by simp
          rw [List.length_drop, e] at this
          omega
theorem At.step {s : ByteArray} {k E : Nat} {acc : List Tok} {t : Tok} (h : At s k acc) (h1 : k + 1 ≤ E) (h2 : E ≤ s.size) (hR : SS (s.data.toList.drop k) k acc = SS (s.data.toList.drop E) E (acc ++ [t])) : At s (E + cnt isBl (s.data.toList.drop E)) (acc ++ [t]) :=
  At.skip h2 (by have := h.few; simp; omega) (by rw [← hR, h.same])
set_option maxRecDepth 100000 in
set_option maxHeartbeats 1000000 in
theorem lexTokens_ok (s : ByteArray) (w : World) (hs : s.size ≤ 2000) (htab : Lib.TabIs Tryd.prog w "strings.asciiSpace" .u8 Lib.asciiSpaceTab) :
    Calls Tryd.prog 7 #[.string s] w (TokRes w (SS s.data.toList 0 [])) := by
  have cs := signs_any _ (tab_alloc (.cells #[.int .i64 0, .int .i64 0] 26) htab)
  have CS := Lib.hid cs
  have CB := fun k (hk : k ≤ s.size) W => Lib.hid (pastBlanks_any s k W (by unfold maxLen; omega) hk)
  obtain ⟨i0, hi, hz0, hz1, hz2⟩ := info_parts infoTok
  clear cs htab
  go_enter Tryd.func7, Tryd.ntmps7
  go_wp2_with fail
  refine CS.out.mono ?_
  rintro e w1 ⟨rfl, hM, hb⟩
  have hblk := blk_keep hb
  have HB0 : Hid (Below w.heap.size w w1) := Lib.hid (((Below.refl _ _).alloc (Nat.le_refl _) _).trans (hb.mono (by simp)))
  have hM' : MapIs w1 (w.heap.size + 1) signsL := by simpa using hM
  have HM := Lib.hid hM'
  have HK := Lib.hid hblk
  have hww : w.heap.size + 1 ≤ w1.heap.size := by have := hb.size; simpa using this
  clear hb hblk hM hM' CS
  go_wp2_with fail
  refine (CB 0 (by omega) _).out.mono ?_
  rintro e w' ⟨rfl, rfl⟩
  go_wp2_with fail
  go_loopw [5, 6, 7, 8, 9] (fun v i _ _ _ wr => ∃ k acc, At s k acc ∧ i = .int .i64 k ∧ wr.ownsRow w1.heap.size 34 4 v acc.length (toksC acc) ∧ Below w1.heap.size w1 wr) (fun _ i _ _ _ _ => s.size - (intOf i).toNat)
  case atStart => exact ⟨cnt isBl s.data.toList, [], At.start s, by simp, World.ownsRow_nil _ _ _ _, Below.refl _ _⟩
  case round =>
    obtain ⟨k, acc, hat, rfl, hown, hbel⟩ := hrel
    have hkle := hat.le
    have hfew := hat.few
    have HA := Lib.hid hat
    have HO := Lib.hid hown
    have HB := Lib.hid hbel
    clear hat hown hbel
    by_cases hlt : k < s.size
    · have hbl := HA.out.here hlt
      have hM : MapIs _ (w.heap.size + 1) signsL := mapIs_below HM.out HB.out
      have HMr := Lib.hid hM
      clear hM
      clear hkle
      rcases next_cases s k (w.heap.size + 1) hs hlt hbl with ⟨t, E, hkE, hEs, hR, cn⟩ | ⟨t, E, err, hne, hR, cn⟩
      · have hR' := hR acc
        have CN := fun W hM => Lib.hid (cn W hM)
        have HR := Lib.hid hR'
        clear hR' hR cn hbl
        go_wp2_with fail
        refine (CN _ HMr.out).out.mono ?_
        rintro e w2 ⟨rfl, hb2⟩
        have hB2 := HB.out.trans (hb2.mono HB.out.size)
        have HB3 := Lib.hid hB2
        have HO1 := Lib.hid (own_below HO.out hb2)
        have hs2 : w1.heap.size ≤ w2.heap.size := hB2.size
        clear hb2 hB2
        have ha := Lib.hid (news_at (w2.alloc (.cells #[.int .i64 t.kind, .string ⟨t.text.toArray⟩, .int .i64 t.n, .int .i64 t.pos] 34)) 34 t)
        go_wp2_with (at_builtin; refine wpList_append_own _ rfl _ _ 24 rfl w1.heap.size 34 i0 _ 4 40 Tryd.underlying24 hi hz0 hz1 hz2 rfl (by decide) _ _ _ rfl ((HO1.out.alloc _).alloc _) ⟨w2.heap.size + 1, 0, none⟩ 1 1 (tokC t) rfl rfl ?c1 ?c2 ?c3 ?c4 ?c5 ?_; rotate_right; intro v' w3 hown' hgrow _; have hB2 : Below w1.heap.size w1 w3 := ((HB3.out.alloc hs2 _).alloc (by simp; omega) _).grown hgrow (by simp; omega) (fun k hk => (HO1.out.lt k hk).1); have HB4 := Lib.hid hB2; have HO2 := Lib.hid hown'; clear hown' hgrow hB2)
        case c1 => have h := ha.out; simpa using h
        case c2 => exact news_one t
        case c3 => unfold maxLen; omega
        case c4 => omega
        case c5 => simp; omega
        go_wp2_with fail
        refine (CB E hEs _).out.mono ?_
        rintro e w' ⟨rfl, rfl⟩
        go_wp2_with fail
        go_roundw
        case rel => exact ⟨_, _, At.step HA.out hkE hEs HR.out, rfl, by rw [toksC_snoc, List.length_append]; exact HO2.out, HB4.out⟩
        case measure => simp [intOf]; omega
      · have hR' := (HA.out.same).symm.trans (hR acc)
        have CN := fun W hM => Lib.hid (cn W hM)
        have HRes := Lib.hid hR'
        clear hR' hR cn hbl
        go_wp2_with fail
        refine (CN _ HMr.out).out.mono ?_
        rintro e w2 ⟨rfl, hb2⟩
        have hB2 := HB.out.trans (hb2.mono HB.out.size)
        have hblk := blk_at (w1 := w1) HK.out hB2
        have c0 : w2.cell? ⟨w.heap.size, 0, none⟩ = some (.int .i64 0) := blk_cell hblk 0
        have c1 : w2.cell? ⟨w.heap.size, 1, none⟩ = some (.int .i64 0) := blk_cell hblk 1
        have f0 : w2.frozen? ⟨w.heap.size, 0, none⟩ = false := blk_frozen hblk 0
        have f1 : w2.frozen? ⟨w.heap.size, 1, none⟩ = false := blk_frozen hblk 1
        have hsz : w.heap.size < w2.heap.size := (by have := hB2.size; omega)
        have HB2 := Lib.hid hB2
        clear hB2 hblk
        clear hb2
        go_wp2_with fail
        refine bodyPost_ret (v := .tuple #[.slice none 0 0, .agg #[.int .i64 err, .int .i64 k]]) (by simp [results, Tryd.results7, go_sem, c0, c1, hsz]) rfl ?_
        exact TokRes.bad HRes.out ((((HB0.out.trans (HB2.out.mono HB0.out.size)).setCell (Nat.le_refl _) _).setCell (Nat.le_refl _) _).alloc (by simp; omega) _)
    · have hR := HA.out.done hlt
      have HRes := Lib.hid hR
      have hdk : decide ((k : Int) < (s.size : Int)) = false := by simp; omega
      have hrs : w1.heap.size ≤ wr.heap.size := HB.out.size
      clear hR
      go_wp2_with (at_builtin; refine wpList_append_own _ rfl _ _ 24 rfl w1.heap.size 34 i0 _ 4 40 Tryd.underlying24 hi hz0 hz1 hz2 rfl (by decide) _ _ _ rfl (HO.out.alloc _) ⟨wr.heap.size, 0, none⟩ 1 1 (tokC ⟨0, [], 0, s.size⟩) rfl rfl ?c1 ?c2 ?c3 ?c4 ?c5 ?_; rotate_right; intro v' w2 hown' hgrow _; have hB2 : Below w1.heap.size w1 w2 := (HB.out.alloc hrs _).grown hgrow (by simp; omega) (fun k hk => (HO.out.lt k hk).1); have hblk := blk_at (w1 := w1) HK.out hB2; have c0 : w2.cell? ⟨w.heap.size, 0, none⟩ = some (.int .i64 0) := blk_cell hblk 0; have c1 : w2.cell? ⟨w.heap.size, 1, none⟩ = some (.int .i64 0) := blk_cell hblk 1; have f0 : w2.frozen? ⟨w.heap.size, 0, none⟩ = false := blk_frozen hblk 0; have f1 : w2.frozen? ⟨w.heap.size, 1, none⟩ = false := blk_frozen hblk 1; have hsz : w.heap.size < w2.heap.size := (by have := hB2.size; omega); have HB2 := Lib.hid hB2; clear hB2 hblk; have HO2 := Lib.hid hown'; clear hown' hgrow)
      case c1 => exact news_at wr 34 ⟨0, [], 0, s.size⟩
      case c2 => exact news_one _
      case c3 => unfold maxLen; omega
      case c4 => omega
      case c5 => simp; omega
      go_wp2_with fail
      refine bodyPost_ret (v := .tuple #[v', .agg #[.int .i64 0, .int .i64 0]]) (by simp [results, Tryd.results7, go_sem, c0, c1]) rfl ?_
      exact TokRes.ok_ HRes.out hww HO2.out HB0.out HB2.out _ _
theorem lexTokens_any (s : ByteArray) (w : World) (hs : s.size ≤ maxLen) (htab : Lib.TabIs Tryd.prog w "strings.asciiSpace" .u8 Lib.asciiSpaceTab) :
    Calls Tryd.prog 7 #[.string s] w (TokRes w (lexR s.data.toList)) := by
  have e : s.data.toList.length = s.size := by simp
  by_cases h : 2000 < s.size
  · refine (lexTokens_long s w h hs).mono ?_
    rintro e' w' ⟨rfl, hb⟩
    exact TokRes.bad (by rw [lexR, if_pos (by omega)]) hb
  · rw [lexR, if_neg (by omega)]
    exact lexTokens_ok s w (by omega) htab
end Go.Proofs.YtkkhohbngcdecaaDoor
