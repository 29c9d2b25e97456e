/-
  The page's Number.
-/
import Derived.Test.YtgbgjecmamkdaaaDoorTrQb
namespace Go.Proofs.YtgbgjecmamkdaaaDoor
open Go.RowKit
set_option linter.unusedVariables false
set_option linter.unusedSimpArgs false
set_option maxRecDepth 100000
set_option maxHeartbeats 2000000

def digV (l : List UInt8) : Nat := l.foldl (fun a c => 10 * a + (c.toNat - 48)) 0
def digs (l : List UInt8) : Prop := ∀ c ∈ l, 48 ≤ c.toNat ∧ c.toNat ≤ 57
theorem digV_snoc (l : List UInt8) (c : UInt8) : digV (l ++ [c]) = 10 * digV l + (c.toNat - 48) := by simp [digV]
theorem digV_dec (u : Nat) : digV (Lib.decDigits u) = u := by
  induction u using Nat.strongRecOn with
  | _ u ih =>
    by_cases h : u < 10
    · rw [dec_small u h]
      have := digB_nat u
      simp [digV]
      omega
    · rw [dec_big u h, digV_snoc, ih (u / 10) (by omega), digB_nat]
      omega
theorem digV_take {d : List UInt8} {k : Nat} (hk : k < d.length) : digV (d.take (k + 1)) = 10 * digV (d.take k) + (d[k].toNat - 48) := by
  rw [← digV_snoc, ← List.take_succ_eq_append_getElem hk]
theorem digs_take {d : List UInt8} {k : Nat} (hk : k < d.length) (h : digs (d.take k)) (h1 : 48 ≤ d[k].toNat ∧ d[k].toNat ≤ 57) : digs (d.take (k + 1)) := by
  intro c hc
  rw [List.take_succ_eq_append_getElem hk] at hc
  rcases List.mem_append.1 hc with hc | hc
  · exact h c hc
  · obtain rfl : c = d[k] := by simpa using hc
    exact h1
theorem digV_bd : ∀ (d : List UInt8) (k : Nat), k ≤ d.length → digs (d.take k) → digV (d.take k) < 10 ^ k := by
  intro d k
  induction k with
  | zero => intro _ _; simp [digV]
  | succ k ih =>
    intro hk hd
    have e := List.take_succ_eq_append_getElem (show k < d.length by omega)
    have h1 : digs (d.take k) := fun c hc => hd c (by rw [e]; exact List.mem_append_left _ hc)
    have h2 := hd d[k] (by rw [e]; exact List.mem_append_right _ (List.mem_singleton.2 rfl))
    have h3 := ih (by omega) h1
    rw [digV_take (by omega), Nat.pow_succ]
    omega
theorem dec_len_le : ∀ (k u : Nat), u < 10 ^ (k + 1) → (Lib.decDigits u).length ≤ k + 1 := by
  intro k
  induction k with
  | zero => intro u h; rw [dec_small u (by simpa using h)]; simp
  | succ k ih =>
    intro u h
    by_cases h0 : u < 10
    · rw [dec_small u h0]; simp
    · rw [dec_big u h0, List.length_append]
      have := ih (u / 10) (by rw [Nat.pow_succ] at h; omega)
      simp only [List.length_cons, List.length_nil]
      omega
theorem dec19 (u : Nat) (h : u ≤ 9223372036854775808) : (Lib.decDigits u).length ≤ 19 := dec_len_le 18 u (Nat.lt_of_le_of_lt h (by decide))
theorem cut1 (c : UInt8) (r : List UInt8) : (⟨(c :: r).toArray⟩ : ByteArray).extract 1 (r.length + 1) = ⟨r.toArray⟩ := by
  apply ByteArray.ext
  simp [ByteArray.data_extract]
/-- A number's digits, behind its sign. -/
theorem itoa_neg {r : List UInt8} {v : Int} (h : 45 :: r = Lib.itoa v) : v < 0 ∧ r = Lib.decDigits v.natAbs := by
  unfold Lib.itoa at h
  split at h
  · rename_i hv
    injection h with _ h2
    exact ⟨hv, h2⟩
  · have := digits_bd v.toNat 45 (by rw [← h]; simp)
    simp at this
theorem itoa_pos {c : UInt8} {r : List UInt8} {v : Int} (hc : c ≠ 45) (h : c :: r = Lib.itoa v) : 0 ≤ v ∧ c :: r = Lib.decDigits v.natAbs := by
  unfold Lib.itoa at h
  split at h
  · injection h with h1 h2
    exact absurd h1 hc
  · rename_i hv
    exact ⟨by omega, by rw [h, show v.toNat = v.natAbs by omega]⟩
theorem I64.i64wrap (z : Int) : I64 (IntKind.i64.wrap z) := by
  simp [I64, IntKind.wrap, IntKind.signed, IntKind.bits]; omega
theorem step_u64 (V q : Nat) (h : V < 10 ^ 18) (h1 : 48 ≤ q) (h2 : q ≤ 57) : IntKind.u64.wrap (IntKind.u64.wrap (10 * (V : Int)) + ((q : Int) - 48)) = ((10 * V + (q - 48) : Nat) : Int) := by
  simp [IntKind.wrap, IntKind.signed, IntKind.bits]; omega
theorem back_neg (v : Int) (hv : I64 v) (h : v < 0) : wrap64 (IntKind.u64.wrap (bits .xor .u64 IntKind.u64.max ((v.natAbs : Nat) : Int) + 1)) = v := by
  obtain ⟨h1, h2⟩ := hv
  rw [not_u64 _ (by omega)]
  simp [wrap64, IntKind.wrap, IntKind.signed, IntKind.bits]; omega
theorem back_pos (v : Int) (hv : I64 v) (h : 0 ≤ v) : wrap64 ((v.natAbs : Nat) : Int) = v := by
  obtain ⟨h1, h2⟩ := hv
  simp [wrap64, IntKind.wrap, IntKind.signed, IntKind.bits]; omega
def NumP (s : List UInt8) (w : World) (e : Ending) (w' : World) : Prop := ∃ n b, e = .returned (.tuple #[.int .i64 n, .bool b]) ∧ I64 n ∧ (∀ v, I64 v → s = Lib.itoa v → n = v ∧ b = true) ∧ Below w.heap.size w w'
theorem number_page (s : List UInt8) (hs : s.length < 4294967281) (w : World) : Calls Tryd.prog 56 #[.string ⟨s.toArray⟩] w (NumP s w) := by
  rcases s with _ | ⟨c, r⟩
  · go_enter Tryd.func56, Tryd.ntmps56
    go_wp2_with fail
    go_ret2
    exact ⟨0, false, rfl, ⟨by decide, by decide⟩, fun v _ h => absurd h.symm (by unfold Lib.itoa; split; simp; exact dec_ne _), Below.refl _ _⟩
  · simp only [List.length_cons] at hs
    by_cases hc : c = 45
    · subst hc
      have hb0 : ∀ h, (({ data := (45 :: r).toArray } : ByteArray)[0]'h).toNat = 45 := fun _ => rfl
      have hex : ({ data := (45 :: r).toArray } : ByteArray).extract 1 (r.length + 1) = ⟨r.toArray⟩ := cut1 45 r
      by_cases h0 : r.length = 0
      · have h0' : ((r.length : Int) == 0) = true := by simp [h0]
        go_enter Tryd.func56, Tryd.ntmps56
        go_wp2_with fail
        go_ret2
        refine ⟨0, false, rfl, ⟨by decide, by decide⟩, fun v hv h => absurd (itoa_neg h).2 ?_, Below.refl _ _⟩
        intro e
        rw [e] at h0
        exact dec_ne _ (List.length_eq_zero_iff.1 h0)
      · have h0' : ((r.length : Int) == 0) = false := by simp; exact fun e => h0 (by rw [e]; rfl)
        by_cases h19 : 19 < r.length
        · have h19' : decide ((19 : Int) < (r.length : Int)) = true := by simp; omega
          go_enter Tryd.func56, Tryd.ntmps56
          go_wp2_with fail
          go_ret2
          refine ⟨0, false, rfl, ⟨by decide, by decide⟩, fun v hv h => absurd (itoa_neg h).2 ?_, Below.refl _ _⟩
          intro e
          have h1 := dec19 v.natAbs (by have := hv.1; have := hv.2; omega)
          rw [← e] at h1
          omega
        · have h19' : decide ((19 : Int) < (r.length : Int)) = false := by simp; omega
          have hl1 : decide ((r.length : Int) < (r.length : Int) + 1) = true := by simp; omega
          go_enter Tryd.func56, Tryd.ntmps56
          go_wp2_with fail
          go_loopw [4, 6, 27, 28, 29, 30, 31, 32, 33, 34, 35, 36, 37, 38, 39, 40, 41, 42, 43, 44, 45, 46, 47, 48, 49, 50] (fun x k _ _ _ _ _ _ _ _ _ _ _ _ _ _ _ _ _ _ _ _ _ _ _ _ wr => ∃ j : Nat, j ≤ r.length ∧ k = .int .i64 (j : Int) ∧ x = .int .u64 ((digV (r.take j) : Nat) : Int) ∧ digs (r.take j) ∧ wr = w) (fun x k _ _ _ _ _ _ _ _ _ _ _ _ _ _ _ _ _ _ _ _ _ _ _ _ _ => r.length - (intOf k).toNat)
          case atStart => exact ⟨0, Nat.zero_le _, rfl, rfl, fun c hc => by simp at hc, rfl⟩
          case round =>
            obtain ⟨j, hj, rfl, rfl, hd, rfl⟩ := hrel
            have HD := Lib.hid hd
            have hv := digV_bd _ j hj hd
            clear hd
            by_cases hlt : j < r.length
            · obtain ⟨q, hq⟩ : ∃ q, r[j] = q := ⟨_, rfl⟩
              have hqi : ∀ h, (({ data := r.toArray } : ByteArray)[j]'h).toNat = q.toNat := fun _ => congrArg UInt8.toNat hq
              have hql : j < r.length := hlt
              have hqd : decide ((j : Int) < (r.length : Int)) = true := by simp; omega
              by_cases h1 : q.toNat < 48
              · have d1 : decide ((q.toNat : Int) < 48) = true := by simp; omega
                go_wp2_with fail
                go_ret2
                refine ⟨0, false, rfl, ⟨by decide, by decide⟩, fun v hv h => absurd (itoa_neg h).2 ?_, Below.refl _ _⟩
                intro e
                have h2 := digits_bd v.natAbs q (by rw [← e, ← hq]; exact List.getElem_mem _)
                omega
              · have d1 : decide ((q.toNat : Int) < 48) = false := by simp; omega
                by_cases h2 : 57 < q.toNat
                · have d2 : decide (57 < (q.toNat : Int)) = true := by simp; omega
                  go_wp2_with fail
                  go_ret2
                  refine ⟨0, false, rfl, ⟨by decide, by decide⟩, fun v hv h => absurd (itoa_neg h).2 ?_, Below.refl _ _⟩
                  intro e
                  have h3 := digits_bd v.natAbs q (by rw [← e, ← hq]; exact List.getElem_mem _)
                  omega
                · have d2 : decide (57 < (q.toNat : Int)) = false := by simp; omega
                  have g1 : (48 : Int) ≤ (q.toNat : Int) := by omega
                  have g2 : (q.toNat : Int) ≤ 57 := by omega
                  have hw : IntKind.u64.wrap (IntKind.u64.wrap (10 * ((digV ((r).take j) : Nat) : Int)) + ((q.toNat : Int) - 48)) = ((digV ((r).take (j + 1)) : Nat) : Int) := by
                    rw [digV_take hlt, hq]
                    have h10 : (10 : Nat) ^ j ≤ 10 ^ 18 := Nat.pow_le_pow_right (by decide) (by omega)
                    exact step_u64 _ _ (Nat.lt_of_lt_of_le hv h10) (by omega) (by omega)
                  go_wp2_with fail
                  go_roundw
                  case measure => simp [intOf]; omega
                  case rel => exact ⟨j + 1, by omega, by simp, rfl, digs_take hlt HD.out (by rw [hq]; omega), by trivial⟩
            · have hje : j = r.length := by omega
              have htk : (r).take j = r := by rw [hje]; exact List.take_length
              rw [htk] at hv ⊢
              have h10 : (10 : Nat) ^ j ≤ 10 ^ 19 := Nat.pow_le_pow_right (by decide) (by omega)
              have hvb : digV (r) < 18446744073709551616 := by omega
              clear htk
              have hqd : decide ((j : Int) < (r.length : Int)) = false := by simp; omega
              obtain ⟨V, hV⟩ : ∃ V, digV (r) = V := ⟨_, rfl⟩
              rw [hV] at hvb ⊢
              obtain ⟨m, hm⟩ : ∃ m, wrap64 (IntKind.u64.wrap (bits .xor .u64 IntKind.u64.max (V : Int) + 1)) = m := ⟨_, rfl⟩
              have hmi : I64 m := by rw [← hm]; exact I64.wrap _
              have CD := Lib.hid (decimal_page m hmi wr)
              have HMI := Lib.hid hmi
              clear hv h10 hmi
              go_wp2_with fail
              refine CD.out.mono ?_
              rintro e w1 ⟨rfl, hb⟩
              go_wp2_with fail
              go_ret2
              refine ⟨m, _, rfl, HMI.out, fun v hv h => ?_, hb⟩
              have hmv : m = v := by
                obtain ⟨h1, h2⟩ := itoa_neg h
                rw [h2, digV_dec] at hV
                rw [← hm, ← hV]
                exact back_neg v hv h1
              refine ⟨hmv, ?_⟩
              rw [hmv, ← h]
              simp
    · have hb0 : ∀ h, (({ data := (c :: r).toArray } : ByteArray)[0]'h).toNat = c.toNat := fun _ => rfl
      have hc2 : ((c.toNat : Int) == 45) = false := by
        simp only [beq_eq_false_iff_ne, ne_eq]
        exact fun h => hc (UInt8.toNat_inj.1 (by simpa using (Int.ofNat_inj.1 h)))
      by_cases h19 : 19 < r.length + 1
      · have h19' : decide ((19 : Int) < (r.length : Int) + 1) = true := by simp; omega
        have h0' : ((r.length : Int) + 1 == 0) = false := by simp; omega
        go_enter Tryd.func56, Tryd.ntmps56
        go_wp2_with fail
        go_ret2
        refine ⟨0, false, rfl, ⟨by decide, by decide⟩, fun v hv h => absurd (itoa_pos hc h).2 ?_, Below.refl _ _⟩
        intro e
        have h1 := dec19 v.natAbs (by have := hv.1; have := hv.2; omega)
        rw [← e] at h1
        rw [List.length_cons] at h1
        omega
      · have h19' : decide ((19 : Int) < (r.length : Int) + 1) = false := by simp; omega
        have h0' : ((r.length : Int) + 1 == 0) = false := by simp; omega
        go_enter Tryd.func56, Tryd.ntmps56
        go_wp2_with fail
        go_loopw [4, 6, 27, 28, 29, 30, 31, 32, 33, 34, 35, 36, 37, 38, 39, 40, 41, 42, 43, 44, 45, 46, 47, 48, 49, 50] (fun x k _ _ _ _ _ _ _ _ _ _ _ _ _ _ _ _ _ _ _ _ _ _ _ _ wr => ∃ j : Nat, j ≤ (c :: r).length ∧ k = .int .i64 (j : Int) ∧ x = .int .u64 ((digV ((c :: r).take j) : Nat) : Int) ∧ digs ((c :: r).take j) ∧ wr = w) (fun x k _ _ _ _ _ _ _ _ _ _ _ _ _ _ _ _ _ _ _ _ _ _ _ _ _ => (c :: r).length - (intOf k).toNat)
        case atStart => exact ⟨0, Nat.zero_le _, rfl, rfl, fun c hc => by simp at hc, rfl⟩
        case round =>
          obtain ⟨j, hj, rfl, rfl, hd, rfl⟩ := hrel
          have HD := Lib.hid hd
          have hv := digV_bd _ j hj hd
          clear hd
          by_cases hlt : j < (c :: r).length
          · obtain ⟨q, hq⟩ : ∃ q, (c :: r)[j] = q := ⟨_, rfl⟩
            have hqi : ∀ h, (({ data := (c :: r).toArray } : ByteArray)[j]'h).toNat = q.toNat := fun _ => congrArg UInt8.toNat hq
            have hql : j < r.length + 1 := hlt
            have hqd : decide ((j : Int) < (r.length : Int) + 1) = true := by simp; omega
            by_cases h1 : q.toNat < 48
            · have d1 : decide ((q.toNat : Int) < 48) = true := by simp; omega
              go_wp2_with fail
              go_ret2
              refine ⟨0, false, rfl, ⟨by decide, by decide⟩, fun v hv h => absurd (itoa_pos hc h).2 ?_, Below.refl _ _⟩
              intro e
              have h2 := digits_bd v.natAbs q (by rw [← e, ← hq]; exact List.getElem_mem _)
              omega
            · have d1 : decide ((q.toNat : Int) < 48) = false := by simp; omega
              by_cases h2 : 57 < q.toNat
              · have d2 : decide (57 < (q.toNat : Int)) = true := by simp; omega
                go_wp2_with fail
                go_ret2
                refine ⟨0, false, rfl, ⟨by decide, by decide⟩, fun v hv h => absurd (itoa_pos hc h).2 ?_, Below.refl _ _⟩
                intro e
                have h3 := digits_bd v.natAbs q (by rw [← e, ← hq]; exact List.getElem_mem _)
                omega
              · have d2 : decide (57 < (q.toNat : Int)) = false := by simp; omega
                have g1 : (48 : Int) ≤ (q.toNat : Int) := by omega
                have g2 : (q.toNat : Int) ≤ 57 := by omega
                have hw : IntKind.u64.wrap (IntKind.u64.wrap (10 * ((digV (((c :: r)).take j) : Nat) : Int)) + ((q.toNat : Int) - 48)) = ((digV (((c :: r)).take (j + 1)) : Nat) : Int) := by
                  rw [digV_take hlt, hq]
                  have h10 : (10 : Nat) ^ j ≤ 10 ^ 18 := Nat.pow_le_pow_right (by decide) (by simp only [List.length_cons] at hlt; omega)
                  exact step_u64 _ _ (Nat.lt_of_lt_of_le hv h10) (by omega) (by omega)
                go_wp2_with fail
                go_roundw
                case measure => simp [intOf]; simp only [List.length_cons] at hlt; omega
                case rel => exact ⟨j + 1, by omega, by simp, rfl, digs_take hlt HD.out (by rw [hq]; omega), by trivial⟩
          · have hje : j = (c :: r).length := by omega
            have htk : ((c :: r)).take j = (c :: r) := by rw [hje]; exact List.take_length
            rw [htk] at hv ⊢
            have h10 : (10 : Nat) ^ j ≤ 10 ^ 19 := Nat.pow_le_pow_right (by decide) (by simp only [List.length_cons] at hje; omega)
            have hvb : digV ((c :: r)) < 18446744073709551616 := by omega
            clear htk
            have hqd : decide ((j : Int) < (r.length : Int) + 1) = false := by simp only [List.length_cons] at hje; simp; omega
            obtain ⟨V, hV⟩ : ∃ V, digV ((c :: r)) = V := ⟨_, rfl⟩
            rw [hV] at hvb ⊢
            obtain ⟨m, hm⟩ : ∃ m, wrap64 (V : Int) = m := ⟨_, rfl⟩
            have hmi : I64 m := by rw [← hm]; exact I64.wrap _
            have CD := Lib.hid (decimal_page m hmi wr)
            have HMI := Lib.hid hmi
            clear hv h10 hmi
            go_wp2_with fail
            refine CD.out.mono ?_
            rintro e w1 ⟨rfl, hb⟩
            go_wp2_with fail
            go_ret2
            refine ⟨m, _, rfl, HMI.out, fun v hv h => ?_, hb⟩
            have hmv : m = v := by
              obtain ⟨h1, h2⟩ := itoa_pos hc h
              rw [h2, digV_dec] at hV
              rw [← hm, ← hV]
              exact back_pos v hv h1
            refine ⟨hmv, ?_⟩
            rw [hmv, ← h]
            simp
end Go.Proofs.YtgbgjecmamkdaaaDoor
