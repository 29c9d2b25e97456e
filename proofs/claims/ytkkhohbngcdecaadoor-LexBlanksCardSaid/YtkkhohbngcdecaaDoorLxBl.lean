/-
  Blanks around a text, plainly: the same tokens, two further on. Nothing of Go.
-/
import Derived.Test.YtkkhohbngcdecaaDoorLxPlain
namespace Go.Proofs.YtkkhohbngcdecaaDoor
set_option linter.unusedVariables false
def post : List UInt8 := [9, 32]
def sh (t : Tok) : Tok := ⟨t.kind, t.text, t.n, t.pos + 2⟩
def shK (t : Tok) : Tok := if t.kind = 0 then ⟨t.kind, t.text, t.n, t.pos + 4⟩ else sh t
def shR : Res → Res
  | .bad e p => .bad e (p + 2)
  | .ok l => .ok (l.map shK)
theorem tw_app {p : UInt8 → Bool} (h : p 9 = false) (r : List UInt8) : (r ++ post).takeWhile p = r.takeWhile p := by
  induction r with
  | nil => simp [post, h]
  | cons c r ih => cases hc : p c <;> simp [hc, ih]
theorem drop_app (r : List UInt8) (n : Nat) (h : n ≤ r.length) : (r ++ post).drop n = r.drop n ++ post := List.drop_append_of_le_length h
theorem getD_app (r : List UInt8) (n : Nat) (h : n ≤ r.length) : isLet ((r ++ post).getD n 0) = isLet (r.getD n 0) := by
  induction r generalizing n with
  | nil =>
    obtain rfl : n = 0 := by simpa using h
    rfl
  | cons c r ih =>
    cases n with
    | zero => rfl
    | succ n => exact ih n (by simpa using h)
theorem pre_app : ∀ (t r : List UInt8), (9 : UInt8) ∉ t → t.isPrefixOf (r ++ post) = t.isPrefixOf r
  | [], r, _ => by simp
  | a :: t, [], h => by
    have : (a == 9) = false := by
      simp only [List.mem_cons, not_or] at h
      simp [Ne.symm h.1]
    simp [post, List.isPrefixOf, this]
  | a :: t, b :: r, h => by
    simp only [List.cons_append, List.isPrefixOf]
    rw [pre_app t r (fun hm => h (List.mem_cons_of_mem _ hm))]
theorem sg_app (r : List UInt8) : sgT (r ++ post) = sgT r := by
  have H : ∀ t ∈ signsL, (9 : UInt8) ∉ t := by decide +kernel
  unfold sgT
  have : ∀ l : List (List UInt8), (∀ t ∈ l, (9 : UInt8) ∉ t) → l.find? (fun t => t.isPrefixOf (r ++ post)) = l.find? (fun t => t.isPrefixOf r) := by
    intro l
    induction l with
    | nil => intro _; rfl
    | cons t l ih =>
      intro hl
      rw [List.find?_cons, List.find?_cons, pre_app t r (hl t (by simp)), ih (fun u hu => hl u (by simp [hu]))]
  exact this _ H
theorem tw_le (p : UInt8 → Bool) (r : List UInt8) : (r.takeWhile p).length ≤ r.length := cnt_le
theorem map_snoc (acc : List Tok) (t : Tok) : acc.map sh ++ [sh t] = (acc ++ [t]).map sh := by simp
theorem map_end (acc : List Tok) (h : ∀ t ∈ acc, t.kind ≠ 0) (p : Nat) : (acc ++ [(⟨0, [], 0, p⟩ : Tok)]).map shK = acc.map sh ++ [⟨0, [], 0, p + 4⟩] := by
  rw [List.map_append]
  congr 1
  exact List.map_congr_left fun t ht => by rw [shK, if_neg (h t ht)]
theorem kinds_snoc {acc : List Tok} {t : Tok} (h : ∀ t ∈ acc, t.kind ≠ 0) (ht : t.kind ≠ 0) : ∀ u ∈ acc ++ [t], u.kind ≠ 0 := by
  intro u hu
  rcases List.mem_append.1 hu with hu | hu
  · exact h u hu
  · simp at hu; subst hu; exact ht
theorem shift : ∀ (n : Nat) (r : List UInt8) (pos : Nat) (acc : List Tok), r.length ≤ n → (∀ t ∈ acc, t.kind ≠ 0) → SS (r ++ post) (pos + 2) (acc.map sh) = shR (SS r pos acc)
  | n, [], pos, acc, _, hk => by
    rw [SS_nil, shR, map_end acc hk]
    rfl
  | 0, c :: r, pos, acc, hn, _ => by simp at hn
  | n + 1, c :: r, pos, acc, hn, hk => by
    have hr : r.length ≤ n := by simpa using hn
    have go_on : ∀ (m : Nat) (t : Tok), 0 < m → m ≤ (c :: r).length → t.kind ≠ 0 → SS ((c :: r ++ post).drop m) (pos + 2 + m) (acc.map sh ++ [sh t]) = shR (SS ((c :: r).drop m) (pos + m) (acc ++ [t])) := by
      intro m t hm hml ht
      rw [drop_app _ _ hml, map_snoc, Nat.add_right_comm]
      exact shift n _ _ _ (by simp at hml ⊢; omega) (kinds_snoc hk ht)
    cases hb : isBl c with
    | true =>
      rw [List.cons_append, SS_blank _ _ hb, SS_blank _ _ hb, Nat.add_right_comm]
      exact shift n r (pos + 1) acc hr hk
    | false =>
      cases hl : isLet c with
      | true =>
        rw [List.cons_append, SS_name _ _ hb hl, SS_name _ _ hb hl, ← List.cons_append, tw_app (by decide)]
        refine go_on _ ⟨_, _, _, _⟩ (tw_pos (by simp [isAl, hl])) (tw_le _ _) ?_
        show (if _ then (4 : Int) else 1) ≠ 0
        split <;> decide
      | false =>
        cases hd : isDig c with
        | true =>
          rw [List.cons_append, SS_num _ _ hb hl hd, SS_num _ _ hb hl hd, ← List.cons_append, tw_app (by decide), getD_app _ _ (tw_le _ _)]
          split
          · rfl
          split
          · rfl
          exact go_on _ ⟨2, [], _, pos⟩ (tw_pos hd) (tw_le _ _) (by show (2 : Int) ≠ 0; decide)
        | false =>
          rw [List.cons_append, SS_sign _ _ hb hl hd, SS_sign _ _ hb hl hd, ← List.cons_append, sg_app]
          cases hs : sgT (c :: r) with
          | none => rfl
          | some t =>
            have h1 := sgT_some hs
            exact go_on _ ⟨3, t, 0, pos⟩ (signs_pos h1.1).1 h1.2.length_le (by show (3 : Int) ≠ 0; decide)
theorem blanks_around (l : List UInt8) (h : l.length ≤ 1000) : lexR ([32, 10] ++ l ++ [9, 32]) = shR (lexR l) := by
  rw [lexR, if_neg (by simp; omega), lexR, if_neg (by omega)]
  have e : [32, 10] ++ l ++ [9, 32] = 32 :: 10 :: (l ++ post) := by simp [post]
  rw [e, SS_blank _ _ (by decide), SS_blank _ _ (by decide)]
  exact shift l.length l 0 [] (Nat.le_refl _) (by simp)
def Fine (B : Nat) (t : Tok) : Prop := t.kind ≠ 0 ∧ t.pos ≤ B
/-- What comes out: a fault, or tokens and the end; all of it stands in the text. -/
def Out (B : Nat) (R : Res) : Prop := (∃ e p, R = .bad e p ∧ e ≠ 0 ∧ p ≤ B) ∨ ∃ l p, R = .ok (l ++ [⟨0, [], 0, p⟩]) ∧ p ≤ B ∧ ∀ t ∈ l, Fine B t
theorem fine_snoc {B : Nat} {acc : List Tok} {t : Tok} (h : ∀ t ∈ acc, Fine B t) (ht : Fine B t) : ∀ u ∈ acc ++ [t], Fine B u := by
  intro u hu
  rcases List.mem_append.1 hu with hu | hu
  · exact h u hu
  · simp at hu; subst hu; exact ht
theorem kinds_of (B : Nat) : ∀ (n : Nat) (r : List UInt8) (pos : Nat) (acc : List Tok), r.length ≤ n → pos + r.length ≤ B → (∀ t ∈ acc, Fine B t) → Out B (SS r pos acc)
  | n, [], pos, acc, _, hB, hk => .inr ⟨acc, pos, SS_nil pos acc, by simpa using hB, hk⟩
  | 0, c :: r, pos, acc, hn, _, _ => by simp at hn
  | n + 1, c :: r, pos, acc, hn, hB, hk => by
    have hr : r.length ≤ n := by simpa using hn
    have hpB : pos ≤ B := by omega
    have go_on : ∀ (m : Nat) (t : Tok), 0 < m → m ≤ (c :: r).length → Fine B t → Out B (SS ((c :: r).drop m) (pos + m) (acc ++ [t])) :=
      fun m t hm hml ht => kinds_of B n _ _ _ (by simp; omega) (by rw [List.length_drop]; omega) (fine_snoc hk ht)
    cases hb : isBl c with
    | true => rw [SS_blank _ _ hb]; exact kinds_of B n r _ acc hr (by simp at hB; omega) hk
    | false =>
      cases hl : isLet c with
      | true =>
        rw [SS_name _ _ hb hl]
        refine go_on _ ⟨_, _, _, _⟩ (tw_pos (by simp [isAl, hl])) (tw_le _ _) ⟨?_, hpB⟩
        show (if _ then (4 : Int) else 1) ≠ 0
        split <;> decide
      | false =>
        cases hd : isDig c with
        | true =>
          rw [SS_num _ _ hb hl hd]
          split
          · exact .inl ⟨10, pos, rfl, by decide, hpB⟩
          split
          · exact .inl ⟨3, pos, rfl, by decide, hpB⟩
          exact go_on _ ⟨2, [], _, pos⟩ (tw_pos hd) (tw_le _ _) ⟨by show (2 : Int) ≠ 0; decide, hpB⟩
        | false =>
          rw [SS_sign _ _ hb hl hd]
          cases hs : sgT (c :: r) with
          | none => exact .inl ⟨3, pos, rfl, by decide, hpB⟩
          | some t =>
            have h1 := sgT_some hs
            exact go_on _ ⟨3, t, 0, pos⟩ (signs_pos h1.1).1 h1.2.length_le ⟨by show (3 : Int) ≠ 0; decide, hpB⟩
theorem lex_out (l : List UInt8) (h : l.length ≤ 1000) : Out 1000 (lexR l) := by
  rw [lexR, if_neg (by omega)]
  exact kinds_of 1000 l.length l 0 [] (Nat.le_refl _) (by omega) (by simp)
end Go.Proofs.YtkkhohbngcdecaaDoor
