/-
  The longest sign by three bytes is the longest by prefixes.
-/
import Derived.Test.YtkkhohbngcdecaaDoorLxSigns
namespace Go.Proofs.YtkkhohbngcdecaaDoor
set_option linter.unusedVariables false

theorem mark_inj : ∀ t ∈ signsL, ∀ u ∈ signsL, mark t = mark u → t = u := by decide +kernel
def nzs : List UInt8 → Bool
  | [a] => a != 0
  | [a, b] => a != 0 && b != 0
  | [a, b, c] => a != 0 && b != 0 && c != 0
  | _ => false
theorem signs_form {t : List UInt8} (h : t ∈ signsL) : (∃ a, a ≠ 0 ∧ t = [a]) ∨ (∃ a b, a ≠ 0 ∧ b ≠ 0 ∧ t = [a, b]) ∨ (∃ a b c, a ≠ 0 ∧ b ≠ 0 ∧ c ≠ 0 ∧ t = [a, b, c]) := by
  have H : ∀ t ∈ signsL, nzs t = true := by decide +kernel
  have := H t h
  rcases t with _ | ⟨a, _ | ⟨b, _ | ⟨c, _ | ⟨d, r⟩⟩⟩⟩
  · cases this
  · exact .inl ⟨a, by simpa [nzs] using this, rfl⟩
  · have := (by simpa [nzs] using this : a ≠ 0 ∧ b ≠ 0)
    exact .inr (.inl ⟨a, b, this.1, this.2, rfl⟩)
  · have := (by simpa [nzs, and_assoc] using this : a ≠ 0 ∧ b ≠ 0 ∧ c ≠ 0)
    exact .inr (.inr ⟨a, b, c, this.1, this.2.1, this.2.2, rfl⟩)
  · cases this
theorem tabK_mem : ∀ (l : List (List UInt8)) (z : Nat) (t : List UInt8), t ∈ l → (∀ u ∈ l, mark u = mark t → u = t) → l.foldl (fun z u => if mark u = mark t then u.length else z) z = t.length
  | [], _, _, h, _ => by cases h
  | v :: l, z, t, h, hi => by
    rw [List.foldl_cons]
    by_cases hm : t ∈ l
    · exact tabK_mem l _ t hm (fun u hu => hi u (List.mem_cons_of_mem _ hu))
    · have e : t = v := by
        rcases List.mem_cons.1 h with e | e
        · exact e
        · exact absurd e hm
      subst e
      rw [if_pos rfl]
      have : ∀ (l' : List (List UInt8)), (∀ u ∈ l', u ∈ l) → l'.foldl (fun z u => if mark u = mark t then u.length else z) t.length = t.length := by
        intro l'
        induction l' with
        | nil => intro _; rfl
        | cons u l' ih =>
          intro hs
          rw [List.foldl_cons, if_neg (fun e => hm (by rw [← hi u (List.mem_cons_of_mem _ (hs u (by simp))) e]; exact hs u (by simp)))]
          exact ih (fun x hx => hs x (by simp [hx]))
      exact this l (fun _ h => h)
theorem tab_yes {t : List UInt8} (h : t ∈ signsL) : tabK signsL (mark t) = t.length := tabK_mem signsL 0 t h (fun u hu e => mark_inj u hu t h e)
theorem tab_no {m : List UInt8} (h : ∀ t ∈ signsL, mark t ≠ m) : tabK signsL m = 0 := by
  have : ∀ l : List (List UInt8), (∀ t ∈ l, mark t ≠ m) → tabK l m = 0 := by
    intro l
    unfold tabK
    induction l with
    | nil => intro _; rfl
    | cons u l ih =>
      intro hl
      rw [List.foldl_cons, if_neg (hl u (by simp))]
      exact ih (fun t ht => hl t (by simp [ht]))
  exact this _ h
theorem tab_cases (m : List UInt8) : (∃ t ∈ signsL, mark t = m ∧ tabK signsL m = t.length) ∨ ((∀ t ∈ signsL, mark t ≠ m) ∧ tabK signsL m = 0) := by
  by_cases h : ∃ t ∈ signsL, mark t = m
  · obtain ⟨t, ht, rfl⟩ := h
    exact .inl ⟨t, ht, rfl, tab_yes ht⟩
  · have h' : ∀ t ∈ signsL, mark t ≠ m := fun t ht e => h ⟨t, ht, e⟩
    exact .inr ⟨h', tab_no h'⟩
theorem pre_of_mark {r t : List UInt8} (h : t ∈ signsL) (hm : mark t = [r.getD 0 0, r.getD 1 0, r.getD 2 0] ∨ mark t = [r.getD 0 0, r.getD 1 0, 0] ∨ mark t = [r.getD 0 0, 0, 0]) : t <+: r := by
  rcases signs_form h with ⟨a, ha, rfl⟩ | ⟨a, b, ha, hb, rfl⟩ | ⟨a, b, c, ha, hb, hc, rfl⟩ <;> rcases r with _ | ⟨x, _ | ⟨y, _ | ⟨z, r⟩⟩⟩ <;> simp_all [mark]
  · rcases hm with e | e <;> simp_all
  · rcases hm with e | e | e <;> simp_all
  · rcases hm with e | e <;> simp_all
theorem mark_of_pre {r t : List UInt8} (h : t ∈ signsL) (hp : t <+: r) : (t.length = 3 ∧ mark t = [r.getD 0 0, r.getD 1 0, r.getD 2 0]) ∨ (t.length = 2 ∧ mark t = [r.getD 0 0, r.getD 1 0, 0]) ∨ (t.length = 1 ∧ mark t = [r.getD 0 0, 0, 0]) := by
  rcases signs_form h with ⟨a, ha, rfl⟩ | ⟨a, b, ha, hb, rfl⟩ | ⟨a, b, c, ha, hb, hc, rfl⟩ <;> rcases r with _ | ⟨x, _ | ⟨y, _ | ⟨z, r⟩⟩⟩ <;> simp_all [mark]
theorem longest {r t : List UInt8} (h : sgT r = some t) : ∀ u ∈ signsL, t.length < u.length → ¬ u <+: r := by
  intro u hu hl hp
  have l3 : ∀ t ∈ L3, t.length = 3 := by decide
  have l2 : ∀ t ∈ L2, t.length = 2 := by decide
  have l1 : ∀ t ∈ L1, t.length = 1 := by decide
  unfold sgT signsL at h
  rw [List.find?_append, List.find?_append] at h
  have hu' : u ∈ L3 ∨ u ∈ L2 ∨ u ∈ L1 := by simpa [signsL] using hu
  have hpb : u.isPrefixOf r = true := List.isPrefixOf_iff_prefix.2 hp
  cases h3 : L3.find? (fun t => t.isPrefixOf r) with
  | some v =>
    have := l3 v (List.mem_of_find?_eq_some h3)
    rw [h3] at h
    simp at h
    subst h
    rcases hu' with e | e | e
    · have := l3 u e; omega
    · have := l2 u e; omega
    · have := l1 u e; omega
  | none =>
    rw [h3] at h
    have n3 := List.find?_eq_none.1 h3
    cases h2 : L2.find? (fun t => t.isPrefixOf r) with
    | some v =>
      have := l2 v (List.mem_of_find?_eq_some h2)
      rw [h2] at h
      simp at h
      subst h
      rcases hu' with e | e | e
      · exact n3 u e hpb
      · have := l2 u e; omega
      · have := l1 u e; omega
    | none =>
      rw [h2] at h
      have n2 := List.find?_eq_none.1 h2
      simp at h
      have := l1 t (List.mem_of_find?_eq_some h)
      rcases hu' with e | e | e
      · exact n3 u e hpb
      · exact n2 u e hpb
      · have := l1 u e; omega
theorem sg_some {r t : List UInt8} (h : sgT r = some t) : sg r = t.length := by
  obtain ⟨ht, hp⟩ := sgT_some h
  have hL := longest h
  have hpos := signs_pos ht
  have key : ∀ m, mark t = m → tabK signsL m = t.length := fun m e => by rw [← e]; exact tab_yes ht
  unfold sg sg3 sg2 sg1
  rcases mark_of_pre ht hp with ⟨hl, hm⟩ | ⟨hl, hm⟩ | ⟨hl, hm⟩
  · rw [if_pos (by rw [key _ hm]; omega), key _ hm]
  · have hy : r.getD 1 0 ≠ 0 := by
      rcases signs_form ht with ⟨a, ha, rfl⟩ | ⟨a, b, ha, hb, rfl⟩ | ⟨a, b, c, ha, hb, hc, rfl⟩
      · cases hl
      · simp only [mark, List.getD_cons_succ, List.getD_cons_zero, List.cons.injEq] at hm
        rw [← hm.2.1]; exact hb
      · cases hl
    rcases tab_cases [r.getD 0 0, r.getD 1 0, r.getD 2 0] with ⟨u, hu, hum, hut⟩ | ⟨_, h0⟩
    · have hup := pre_of_mark hu (.inl hum)
      have hle : u.length ≤ 2 := by rw [← hl]; exact Nat.not_lt.1 fun h => hL u hu h hup
      rcases mark_of_pre hu hup with ⟨hl', hm'⟩ | ⟨hl', hm'⟩ | ⟨hl', hm'⟩
      · omega
      · rw [if_pos (by omega)]; omega
      · rw [hum] at hm'
        simp only [List.cons.injEq] at hm'
        exact absurd hm'.2.1 hy
    · rw [if_neg (by omega), if_pos (by rw [key _ hm]; omega), key _ hm]
  · have one : ∀ m, (m = [r.getD 0 0, r.getD 1 0, r.getD 2 0] ∨ m = [r.getD 0 0, r.getD 1 0, 0] ∨ m = [r.getD 0 0, 0, 0]) → tabK signsL m = 1 ∨ tabK signsL m = 0 := by
      intro m hm
      rcases tab_cases m with ⟨u, hu, hum, hut⟩ | ⟨_, h0⟩
      · have hup := pre_of_mark (r := r) hu (by rw [hum]; exact hm)
        have hle : u.length ≤ 1 := by rw [← hl]; exact Nat.not_lt.1 fun h => hL u hu h hup
        have := signs_pos hu
        omega
      · exact .inr h0
    have o3 := one _ (.inl rfl)
    have o2 := one _ (.inr (.inl rfl))
    have o1 := key _ hm
    repeat' split
    all_goals omega
theorem sg_none {r : List UInt8} (h : sgT r = none) : sg r = 0 := by
  have hn : ∀ u ∈ signsL, ¬ u <+: r := fun u hu hp => (List.find?_eq_none.1 h) u hu (List.isPrefixOf_iff_prefix.2 hp)
  have zero : ∀ m, (m = [r.getD 0 0, r.getD 1 0, r.getD 2 0] ∨ m = [r.getD 0 0, r.getD 1 0, 0] ∨ m = [r.getD 0 0, 0, 0]) → tabK signsL m = 0 := by
    intro m hm
    rcases tab_cases m with ⟨u, hu, hum, hut⟩ | ⟨_, h0⟩
    · exact absurd (pre_of_mark (r := r) hu (by rw [hum]; exact hm)) (hn u hu)
    · exact h0
  have z3 := zero _ (.inl rfl)
  have z2 := zero _ (.inr (.inl rfl))
  have z1 := zero _ (.inr (.inr rfl))
  unfold sg sg3 sg2 sg1
  repeat' split
  all_goals omega
end Go.Proofs.YtkkhohbngcdecaaDoor
