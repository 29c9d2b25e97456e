/-
  'TreeTexts', walked.
-/
import Derived.Test.YtgbgjecmamkdaaaDoorTrQg
import Derived.Test.YtgbgjecmamkdaaaDoorTrQh
import Derived.Test.YtgbgjecmamkdaaaDoorTrHeavy
import Derived.Test.YtgbgjecmamkdaaaDoorTrEq
namespace Go.Proofs.YtgbgjecmamkdaaaDoor
open Go.RowKit
set_option linter.unusedVariables false
set_option linter.unusedSimpArgs false
set_option maxRecDepth 100000
set_option maxHeartbeats 4000000

/-- What a round loads: the argument's trees, the tree; and with it what was parsed. -/
def G7 (w' : World) (g b o : Nat) (sv : Value) (t : Tr) (ev : Value) : Prop := w'.cell? ⟨g, 0, none⟩ = some sv ∧ w'.cell? ⟨b, o, none⟩ = some (.int .i64 t.op) ∧ w'.cell? ⟨b, o + 1, none⟩ = some (.int .i64 t.n) ∧ w'.cell? ⟨b, o + 2, none⟩ = some ev
theorem G7.low {w' W : World} {g b o : Nat} {sv ev : Value} {t : Tr} (h : G7 w' g b o sv t ev) (hb : Below w'.heap.size w' W) : G7 W g b o sv t ev :=
  ⟨below_some hb _ _ h.1, below_some hb _ _ h.2.1, below_some hb _ _ h.2.2.1, below_some hb _ _ h.2.2.2⟩
def F7 (w' : World) (g g2 b o : Nat) (sv : Value) (t : Tr) (kv ev : Value) : Prop :=
  w'.cell? ⟨g, 0, none⟩ = some sv ∧ w'.cell? ⟨g2, 0, none⟩ = some (.int .i64 t.op) ∧ w'.cell? ⟨g2, 1, none⟩ = some (.int .i64 t.n) ∧ w'.cell? ⟨g2, 2, none⟩ = some kv ∧
    w'.cell? ⟨b, o, none⟩ = some (.int .i64 t.op) ∧ w'.cell? ⟨b, o + 1, none⟩ = some (.int .i64 t.n) ∧ w'.cell? ⟨b, o + 2, none⟩ = some ev
theorem F7.low {w' W : World} {g g2 b o : Nat} {sv kv ev : Value} {t : Tr} (h : F7 w' g g2 b o sv t kv ev) (hb : Below w'.heap.size w' W) : F7 W g g2 b o sv t kv ev :=
  ⟨below_some hb _ _ h.1, below_some hb _ _ h.2.1, below_some hb _ _ h.2.2.1, below_some hb _ _ h.2.2.2.1, below_some hb _ _ h.2.2.2.2.1, below_some hb _ _ h.2.2.2.2.2.1, below_some hb _ _ h.2.2.2.2.2.2⟩
theorem len_le_sum : ∀ {l : List (List UInt8)} {m : List UInt8}, m ∈ l → m.length ≤ (l.map List.length).sum := by
  intro l
  induction l with
  | nil => intro m h; cases h
  | cons a r ih =>
    intro m h
    simp only [List.map_cons, List.sum_cons]
    rcases List.mem_cons.1 h with rfl | h
    · omega
    · have := ih h; omega
theorem zeroTr {w : World} : TrR w ⟨0, 0, .nil⟩ none 0 := ⟨⟨by decide, by decide⟩, ⟨by decide, by decide⟩, Nat.le_refl _, Nat.zero_le _, fun h => absurd h (by simp [Trs.len])⟩
theorem own_ne {w : World} {g n base : Nat} {cs : Array Value} {T : TypeId} {v : Value} {xs : List Value} (h : OwnB w g cs T) (hr : w.ownsRow base 9 1 v n xs) (hT : T ≠ 9 := by decide) : some g ≠ v.ownBlock := by
  intro e
  rcases hr.2 with ⟨rfl, _⟩ | ⟨g', cap, cur, rfl, _, hb, _⟩
  · cases e
  · obtain rfl : g = g' := Option.some.inj e
    have := h.blk
    rw [this] at hb
    injection hb with hb
    injection hb with _ hb
    exact hT hb
theorem treeTextsLaw_any (x : Trs) (ss : List (List UInt8)) (w : World) (A B : Option Addr) (c d : Nat) (hA : AskR w x ss A c B d) (hE : EnvP w w.heap.size) :
    Calls Tryd.prog 4 #[askV x ss A c B d] w fun e w' => e = .returned (.bool true) ∧ Below w.heap.size w w' := by
  have CH := fun w1 (hb : Below w.heap.size w w1) => Lib.hid (heavy_any x ss w1 A B c d (hA.low hb))
  have hcap := hA.cap
  have hle := hA.le
  unfold maxLen at hcap
  have HA := Lib.hid hA
  have HE := Lib.hid hE
  clear hA hE
  go_enter Tryd.func4, Tryd.ntmps4
  go_wp2_with fail
  refine (CH _ (Keeps.au (G := [])).below).out.mono ?_
  rintro e w1 ⟨hv, rfl, hh, hb⟩
  have O1 : OwnB w1 w.heap.size #[.slice A x.len c, .slice B ss.length d] 25 := OwnB.call (G := []) OwnB.au (Keeps.of_below hb) (by simp)
  have HB := Lib.hid (((Keeps.au (G := [])).trans (Keeps.of_below hb)).below : Below w.heap.size w w1)
  have HH := Lib.hid hh
  clear hb hh
  cases hv with
  | true =>
    go_wp2_with fail
    go_ret
    exact ⟨rfl, HB.out⟩
  | false =>
    obtain ⟨hsz, hss, hsl⟩ := HH.out rfl
    have CS := Lib.hid (copyStrings_any ss w1 B d HA.out.sle HA.out.scap hsl (HA.out.strs.low HB.out))
    obtain ⟨y0, x0, z0⟩ := O1.facts
    clear HH
    go_wp2_with fail
    refine CS.out.mono ?_
    rintro e w2 ⟨la, lc, rfl, hr, hb⟩
    have O2 : OwnB w2 w.heap.size #[.slice A x.len c, .slice B ss.length d] 25 := OwnB.call (G := []) O1 (Keeps.of_below hb) (by simp)
    have HB2 := Lib.hid (HB.out.trans (hb.mono HB.out.size))
    have CR := Lib.hid (rebase (base' := w.heap.size) hr (fun b hb => Nat.le_trans HB.out.size (own_lt hr b hb).1))
    clear hb hr O1 HB CS y0 x0 z0
    have O1 := O2
    have HB := HB2
    clear O2 HB2
    go_wp2_with fail
    go_loopw [3, 4, 5, 6, 7, 8, 9, 10, 11, 12, 23, 24, 25, 26, 27, 28, 29, 30, 31, 32, 33, 34, 35, 36, 37, 38, 39, 40, 41, 42, 43, 44, 45, 46, 47, 48, 49, 50, 51, 52, 53, 54, 55, 56, 57, 58, 59, 60, 61, 62, 63, 64, 65, 66, 67, 68, 69, 70, 71, 72, 73, 74, 75, 76, 77, 78, 79, 80, 81, 82, 83, 84, 85, 86, 87, 88, 89, 90, 91, 92, 93, 94, 95, 96, 97] (fun more i _ _ _ _ _ _ _ _ _ _ _ _ _ _ _ _ _ _ _ _ _ _ _ _ _ _ _ _ _ _ _ _ _ _ _ _ _ _ _ _ _ _ _ _ _ _ _ _ _ _ _ _ _ _ _ _ _ _ _ _ _ _ _ _ _ _ _ _ _ _ _ _ _ _ _ _ _ _ _ _ _ _ _ wr => ∃ (k : Nat), k ≤ x.len ∧ k ≤ 8 ∧ i = .int .i64 (k : Int) ∧ OwnB wr w.heap.size #[.slice A x.len c, .slice B ss.length d] 25 ∧ Below w.heap.size w wr ∧ ∃ (la : Option Addr) (lc : Nat) (ms : List (List UInt8)), more = .slice la ms.length lc ∧ wr.ownsRow w.heap.size 9 1 (.slice la ms.length lc) ms.length (ms.map sv) ∧ (∀ m ∈ ms, m.length ≤ 10000) ∧ ms.length ≤ 6000 + 3 * k) (fun more i _ _ _ _ _ _ _ _ _ _ _ _ _ _ _ _ _ _ _ _ _ _ _ _ _ _ _ _ _ _ _ _ _ _ _ _ _ _ _ _ _ _ _ _ _ _ _ _ _ _ _ _ _ _ _ _ _ _ _ _ _ _ _ _ _ _ _ _ _ _ _ _ _ _ _ _ _ _ _ _ _ _ _ _ => 8 - (intOf i).toNat)
    case atStart => exact ⟨0, by omega, by omega, rfl, O1, HB.out, la, lc, ss, rfl, CR.out, fun m hm => Nat.le_trans (len_le_sum hm) (by omega), by omega⟩
    case round =>
      clear O1 HB CR
      obtain ⟨k, hk, hk8, rfl, hO, hb, la, lc, ms, rfl, hR, hM, hml⟩ := hrel
      have HB1 := Lib.hid hb
      obtain ⟨y1, x1, z1⟩ := hO.facts
      have HO := Lib.hid hO
      have HR := Lib.hid hR
      have HM := Lib.hid hM
      have hne : some w.heap.size ≠ (Value.slice la ms.length lc).ownBlock := fun e => (own_ne hO hR) e
      have hbox := lt_of_blk hO.blk
      clear hO hR hM
      by_cases hlt : k < x.len
      · by_cases hlt8 : k < 8
        · obtain ⟨t, b, off, D, c2, hget, hAe, hbs, f0, f1, f2, hT⟩ := (HA.out.kid.low hb).get hlt
          subst hAe
          have HT := Lib.hid hT
          have HG0 : G7 wr w.heap.size b (off + k * 3) (.slice (some ⟨b, off, none⟩) x.len c) t (.slice D t.kids.len c2) := ⟨y1 0, f0, f1, f2⟩
          have HG := fun W (h : Below wr.heap.size wr W) => Lib.hid (HG0.low h)
          have Bwr := Lib.hid (Below.refl wr.heap.size wr)
          have HN := fun (n : Int) w => Lib.hid (num_any n w)
          clear hget hT hb HG0
          cases hok : okB t with
          | false =>
            have CT := fun W (h : Below wr.heap.size wr W) => Lib.hid (text_no t hok W D c2 (HT.out.low h))
            have CM := fun W (h : Below wr.heap.size wr W) => tree_any t W D c2 (HT.out.low h)
            rw [hok] at CM
            go_wp2_with fail
            refine (CT _ Bwr.out).out.mono ?_
            rintro e w1 ⟨rfl, hb⟩
            have Bw1 := Lib.hid (Bwr.out.trans (hb.mono Bwr.out.size))
            obtain ⟨pw1, qw1, rw1, sw1⟩ := (HG _ Bw1.out).out
            clear hb
            go_wp2_with fail
            refine (Lib.hid (CM _ Bw1.out)).out.mono ?_
            rintro e w2 ⟨rfl, hb⟩
            have Bw2 := Lib.hid (Bw1.out.trans (hb.mono Bw1.out.size))
            obtain ⟨pw2, qw2, rw2, sw2⟩ := (HG _ Bw2.out).out
            clear hb
            go_wp2_with (go_at_call 13; refine (HN _ _).out.mono ?_; rintro e w' ⟨rfl, rfl⟩)
            go_roundw
            case measure => simp [intOf]; omega
            case rel => exact ⟨k + 1, by omega, by omega, by simp, ⟨(Bw2.out.block _ hbox).trans HO.out.blk⟩, HB1.out.trans (Bw2.out.mono HB1.out.size), la, lc, ms, rfl, ownsRow_at HR.out (fun b hb hl => Bw2.out.block b hl), HM.out, by omega⟩
          | true =>
            have hlt : (textT t).length ≤ 8000 := by
              have h1 := text_len t HT.out.n HT.out.kid.wf
              have h2 := many_size t hok
              have h3 := many_ok t hok
              omega
            obtain ⟨L, hL⟩ : ∃ L, (textT t).length = L + 1 := ⟨(textT t).length - 1, by
              have : (textT t).length ≠ 0 := by unfold textT; simp
              omega⟩
            have hwt : wfT t := ⟨HT.out.n, HT.out.kid.wf⟩
            have CT := fun W (h : Below wr.heap.size wr W) => Lib.hid (text_ok t hok W D c2 (HT.out.low h) ((HE.out.env.low (HB1.out.trans (h.mono HB1.out.size))).mono (Nat.le_trans HB1.out.size h.size)))
            have CM := fun W (h : Below wr.heap.size wr W) => tree_any t W D c2 (HT.out.low h)
            have CX := fun W (h : Below wr.heap.size wr W) => Lib.hid (rtext_all _ t (Nat.lt_succ_self _) (ok_countT t 0 hok) (by omega) W D c2 (HT.out.low h))
            have CP := fun W (h : Below wr.heap.size wr W) => Lib.hid (parse_any (textT t) W ((HE.out.low (HB1.out.trans (h.mono HB1.out.size))).mono (Nat.le_trans HB1.out.size h.size)) (by omega))
            rw [hok] at CM
            have HLt := Lib.hid hlt
            have hsays : Says (textT t) t := ⟨hok, hwt, rfl⟩
            go_wp2_with fail
            refine (CT _ Bwr.out).out.mono ?_
            rintro e w1 ⟨rfl, hb⟩
            have Bw1 := Lib.hid (Bwr.out.trans (hb.mono Bwr.out.size))
            obtain ⟨pw1, qw1, rw1, sw1⟩ := (HG _ Bw1.out).out
            clear hb
            go_wp2_with fail
            refine (Lib.hid (CM _ Bw1.out)).out.mono ?_
            rintro e w2 ⟨rfl, hb⟩
            have Bw2 := Lib.hid (Bw1.out.trans (hb.mono Bw1.out.size))
            obtain ⟨pw2, qw2, rw2, sw2⟩ := (HG _ Bw2.out).out
            clear hb
            go_wp2_with fail
            refine (CX _ Bw2.out).out.mono ?_
            rintro e w3 ⟨rfl, hb⟩
            have Bw3 := Lib.hid (Bw2.out.trans (hb.mono Bw2.out.size))
            obtain ⟨pw3, qw3, rw3, sw3⟩ := (HG _ Bw3.out).out
            clear hb
            go_wp2_with fail
            refine (CP _ Bw3.out).out.mono ?_
            rintro e w4 ⟨hb, hp⟩
            obtain ⟨A', c', rfl, hT4⟩ : ∃ A' c', e = .returned (.tuple #[trV t A' c', .int .i64 0]) ∧ TrR w4 t A' c' := by
              rcases hp with ⟨t', A', c', h1, h2, h3, h4⟩ | ⟨h1, _⟩
              · rw [h2 t hsays]
                exact ⟨A', c', h3, h4⟩
              · exact absurd hsays (h1 t)
            have Bw4 := Lib.hid (Bw3.out.trans (hb.mono Bw3.out.size))
            have hb5 : Below wr.heap.size wr (w4.alloc (.cells #[.int .i64 t.op, .int .i64 t.n, .slice A' t.kids.len c'] 28)) := Bw4.out.alloc Bw4.out.size _
            have hw5 : OwnB (w4.alloc (.cells #[.int .i64 t.op, .int .i64 t.n, .slice A' t.kids.len c'] 28)) w4.heap.size #[.int .i64 t.op, .int .i64 t.n, .slice A' t.kids.len c'] 28 := OwnB.new rfl
            have hg5 := (HG _ hb5).out
            have HF0 : F7 (w4.alloc (.cells #[.int .i64 t.op, .int .i64 t.n, .slice A' t.kids.len c'] 28)) w.heap.size w4.heap.size b (off + k * 3) (.slice (some ⟨b, off, none⟩) x.len c) t (.slice A' t.kids.len c') (.slice D t.kids.len c2) := ⟨hg5.1, hw5.facts.1 0, hw5.facts.1 1, hw5.facts.1 2, hg5.2.1, hg5.2.2.1, hg5.2.2.2⟩
            have HF := fun W (h : Below (w4.alloc (.cells #[.int .i64 t.op, .int .i64 t.n, .slice A' t.kids.len c'] 28)).heap.size (w4.alloc (.cells #[.int .i64 t.op, .int .i64 t.n, .slice A' t.kids.len c'] 28)) W) => Lib.hid (HF0.low h)
            have hTi : TrR (w4.alloc (.cells #[.int .i64 t.op, .int .i64 t.n, .slice A' t.kids.len c'] 28)) t A' c' := hT4.low ((Below.refl w4.heap.size w4).alloc (Nat.le_refl _) _)
            have CE := fun W (h : Below (w4.alloc (.cells #[.int .i64 t.op, .int .i64 t.n, .slice A' t.kids.len c'] 28)).heap.size (w4.alloc (.cells #[.int .i64 t.op, .int .i64 t.n, .slice A' t.kids.len c'] 28)) W) => Lib.hid (eqTree_any t W A' D c' c2 (hTi.low h) ((HT.out.low hb5).low h))
            have HB5 := Lib.hid hb5
            clear hb hT4 hb5 hw5 hg5 HF0 hTi CT CM CX CP
            go_wp2_with fail
            refine wpH_start (fun w' => F7 w' w.heap.size w4.heap.size b (off + k * 3) (.slice (some ⟨b, off, none⟩) x.len c) t (.slice A' t.kids.len c') (.slice D t.kids.len c2)) (by kernel_rfl) (HF _ (Below.refl _ _).drew).out (fun hHeld => ?_)
            refine wpH_take 0 (v := ?_) (by kernel_rfl) (by kernel_rfl) (by kernel_rfl) rfl (fun _ _ _ h => h) (Or.inl ⟨by rfl, ?_⟩) hHeld ?_
            rotate_left
            · (intro w' hSw; obtain ⟨s0, s1, s2, s3, s4, s5, s6⟩ := hSw; go_simp; try with_reducible rfl)
            try simp only [Act.put, List.setIfInBounds_toArray, List.set_cons_zero, List.set_cons_succ]
            refine wpH_one 1 (by kernel_rfl) rfl (fun K hKo => ?_)
            go_simp
            refine (HN 0 _).out.mono ?_
            rintro e w9 ⟨rfl, rfl⟩
            refine Shut.out hKo _ _ hHeld ?_
            clear hKo K
            try simp only [Act.put, List.setIfInBounds_toArray, List.set_cons_zero, List.set_cons_succ]
            refine wpH_take 2 (v := ?_) (by kernel_rfl) (by kernel_rfl) (by kernel_rfl) rfl (fun _ _ _ h => h) (Or.inl ⟨by rfl, ?_⟩) hHeld ?_
            rotate_left
            · (intro w' hSw; obtain ⟨s0, s1, s2, s3, s4, s5, s6⟩ := hSw; go_simp; try with_reducible rfl)
            try simp only [Act.put, List.setIfInBounds_toArray, List.set_cons_zero, List.set_cons_succ]
            refine wpH_take 3 (v := ?_) (by kernel_rfl) (by kernel_rfl) (by kernel_rfl) rfl (fun _ _ _ h => h) (Or.inl ⟨by rfl, ?_⟩) hHeld ?_
            rotate_left
            · (intro w' hSw; obtain ⟨s0, s1, s2, s3, s4, s5, s6⟩ := hSw; go_simp; try with_reducible rfl)
            try simp only [Act.put, List.setIfInBounds_toArray, List.set_cons_zero, List.set_cons_succ]
            refine wpH_take 4 (v := ?_) (by kernel_rfl) (by kernel_rfl) (by kernel_rfl) rfl (fun _ _ _ h => h) (Or.inl ⟨by rfl, ?_⟩) hHeld ?_
            rotate_left
            · (intro w' hSw; obtain ⟨s0, s1, s2, s3, s4, s5, s6⟩ := hSw; go_simp; try with_reducible rfl)
            try simp only [Act.put, List.setIfInBounds_toArray, List.set_cons_zero, List.set_cons_succ]
            refine wpH_take 5 (v := ?_) (by kernel_rfl) (by kernel_rfl) (by kernel_rfl) rfl (fun _ _ _ h => h) (Or.inl ⟨by rfl, ?_⟩) hHeld ?_
            rotate_left
            · (intro w' hSw; obtain ⟨s0, s1, s2, s3, s4, s5, s6⟩ := hSw; go_simp; try with_reducible rfl)
            try simp only [Act.put, List.setIfInBounds_toArray, List.set_cons_zero, List.set_cons_succ]
            refine wpH_take 6 (v := ?_) (by kernel_rfl) (by kernel_rfl) (by kernel_rfl) rfl (fun _ _ _ h => h) (Or.inl ⟨by rfl, ?_⟩) hHeld ?_
            rotate_left
            · (intro w' hSw; obtain ⟨s0, s1, s2, s3, s4, s5, s6⟩ := hSw; go_simp; try with_reducible rfl)
            try simp only [Act.put, List.setIfInBounds_toArray, List.set_cons_zero, List.set_cons_succ]
            refine wpH_take 7 (v := ?_) (by kernel_rfl) (by kernel_rfl) (by kernel_rfl) rfl (fun _ _ _ h => h) (Or.inl ⟨by rfl, ?_⟩) hHeld ?_
            rotate_left
            · (intro w' hSw; obtain ⟨s0, s1, s2, s3, s4, s5, s6⟩ := hSw; go_simp; try with_reducible rfl)
            try simp only [Act.put, List.setIfInBounds_toArray, List.set_cons_zero, List.set_cons_succ]
            refine wpH_take 8 (v := ?_) (by kernel_rfl) (by kernel_rfl) (by kernel_rfl) rfl (fun _ _ _ h => h) (Or.inl ⟨by rfl, ?_⟩) hHeld ?_
            rotate_left
            · (intro w' hSw; obtain ⟨s0, s1, s2, s3, s4, s5, s6⟩ := hSw; go_simp; try with_reducible rfl)
            try simp only [Act.put, List.setIfInBounds_toArray, List.set_cons_zero, List.set_cons_succ]
            refine wpH_take 9 (v := ?_) (by kernel_rfl) (by kernel_rfl) (by kernel_rfl) rfl (fun _ _ _ h => h) (Or.inl ⟨by rfl, ?_⟩) hHeld ?_
            rotate_left
            · (intro w' hSw; obtain ⟨s0, s1, s2, s3, s4, s5, s6⟩ := hSw; go_simp; try with_reducible rfl)
            try simp only [Act.put, List.setIfInBounds_toArray, List.set_cons_zero, List.set_cons_succ]
            refine wpH_one 10 (by kernel_rfl) rfl (fun K hKo => ?_)
            go_simp
            refine (CE _ (Below.refl _ _).drew).out.mono ?_
            rintro e w6 ⟨rfl, hb⟩
            have Bw6 := Lib.hid (((Below.refl _ _).drew.trans hb : Below (w4.alloc (.cells #[.int .i64 t.op, .int .i64 t.n, .slice A' t.kids.len c'] 28)).heap.size (w4.alloc (.cells #[.int .i64 t.op, .int .i64 t.n, .slice A' t.kids.len c'] 28)) w6))
            have hHeld := (HF _ Bw6.out).out
            clear hb
            refine Shut.out hKo _ _ hHeld ?_
            clear hKo K
            try simp only [Act.put, List.setIfInBounds_toArray, List.set_cons_zero, List.set_cons_succ]
            refine wpH_take 11 (v := ?_) (by kernel_rfl) (by kernel_rfl) (by kernel_rfl) rfl (fun _ _ _ h => h) (Or.inl ⟨by rfl, ?_⟩) hHeld ?_
            rotate_left
            · (intro w' hSw; obtain ⟨s0, s1, s2, s3, s4, s5, s6⟩ := hSw; go_simp; try with_reducible rfl)
            try simp only [Act.put, List.setIfInBounds_toArray, List.set_cons_zero, List.set_cons_succ]
            refine wpH_take 12 (v := ?_) (by kernel_rfl) (by kernel_rfl) (by kernel_rfl) rfl (fun _ _ _ h => h) (Or.inl ⟨by rfl, ?_⟩) hHeld ?_
            rotate_left
            · (intro w' hSw; obtain ⟨s0, s1, s2, s3, s4, s5, s6⟩ := hSw; go_simp; try with_reducible rfl)
            try simp only [Act.put, List.setIfInBounds_toArray, List.set_cons_zero, List.set_cons_succ]
            refine wpAnyH_done (by kernel_rfl) ?_ _
            have hB6 := HB5.out.trans (Bw6.out.mono HB5.out.size)
            have hr1 := ownsRow_at (w' := w6.alloc (.cells ([textT t ++ [41], (textT t).take L, 32 :: textT t].map sv).toArray 9 (0, 0))) HR.out (fun b hb hl => ((hB6.alloc hB6.size _).block b hl))
            have hnews : OwnB (w6.alloc (.cells ([textT t ++ [41], (textT t).take L, 32 :: textT t].map sv).toArray 9 (0, 0))) w6.heap.size ([textT t ++ [41], (textT t).take L, 32 :: textT t].map sv).toArray 9 := OwnB.new rfl
            have hB7 : Below w.heap.size w w6 := HB1.out.trans (hB6.mono HB1.out.size)
            have hlo2 : w.heap.size ≤ (w6.alloc (.cells ([textT t ++ [41], (textT t).take L, 32 :: textT t].map sv).toArray 9 (0, 0))).heap.size := by rw [World.size_alloc]; have := hB7.size; omega
            have HB7 := Lib.hid (hB7.alloc hB7.size (.cells ([textT t ++ [41], (textT t).take L, 32 :: textT t].map sv).toArray 9 (0, 0)))
            have HB6 := Lib.hid (hB6.alloc hB6.size (.cells ([textT t ++ [41], (textT t).take L, 32 :: textT t].map sv).toArray 9 (0, 0)))
            have hx := ext_take (textT t) L
            have happ := @ba_app
            have hkl : ms.length + 3 ≤ 1000000 := by omega
            have happ1 := ba_app (textT t) [41]
            have happ2 := ba_app [32] (textT t)
            clear hB6 hB7
            clear hHeld
            go_wp2_with (first | (at_builtin; refine wpList_appendS rfl _ _ rfl rfl rfl hr1 hnews rfl (by decide) hlo2 hkl ?_; intro g2 cap' w7 hrow3 hgr) | (go_at_call 13; refine (HN _ _).out.mono ?_; rintro e w' ⟨rfl, rfl⟩))
            have hown : ∀ b, (Value.slice la ms.length lc).ownBlock = some b → w.heap.size ≤ b ∧ b < wr.heap.size := fun b hb => own_lt HR.out b hb
            go_roundw
            case measure => simp [intOf]; omega
            case rel =>
              refine ⟨k + 1, by omega, by omega, by simp, ?_, below_grown HB7.out hlo2 hr1 hgr, some ⟨g2, 0, none⟩, cap', ms ++ [textT t ++ [41], (textT t).take L, 32 :: textT t], by simp, by simpa using hrow3, ?_, ?_⟩
              · exact OwnB.grown (⟨(HB6.out.block _ hbox).trans HO.out.blk⟩ : OwnB _ _ _ _) hgr (fun e => hne e)
              · intro m hm
                rcases List.mem_append.1 hm with hm | hm
                · exact HM.out m hm
                · simp only [List.mem_cons, List.not_mem_nil, or_false] at hm
                  have := HLt.out
                  rcases hm with rfl | rfl | rfl <;> simp <;> omega
              · simp only [List.length_append, List.length_cons, List.length_nil]; omega
        · have h8d : decide ((k : Int) < 8) = false := by simp; omega
          have hxd : decide ((k : Int) < (x.len : Int)) = true := by simp; omega
          go_wp2_with fail
          go_loopw [13, 14, 15, 16, 17, 98, 99, 100, 101, 102, 103, 104, 105, 106, 107, 108, 109, 110, 111, 112, 113, 114, 115, 116, 117, 118, 119, 120, 121, 122, 123, 124, 125, 126, 127, 128, 129, 130, 131, 132, 133, 134, 135, 136, 137, 138, 139, 140, 141, 142, 143] (fun i _ _ _ _ _ _ _ _ _ _ _ _ _ _ _ _ _ _ _ _ _ _ _ _ _ _ _ _ _ _ _ _ _ _ _ _ _ _ _ _ _ _ _ _ _ _ _ _ _ _ wr => ∃ (j : Nat), j ≤ ms.length ∧ j ≤ 30 ∧ i = .int .i64 (j : Int) ∧ wr.ownsRow w.heap.size 9 1 (.slice la ms.length lc) ms.length (ms.map sv) ∧ Below w.heap.size w wr) (fun i _ _ _ _ _ _ _ _ _ _ _ _ _ _ _ _ _ _ _ _ _ _ _ _ _ _ _ _ _ _ _ _ _ _ _ _ _ _ _ _ _ _ _ _ _ _ _ _ _ _ _ => 30 - (intOf i).toNat)
          case atStart => exact ⟨0, by omega, by omega, rfl, HR.out, HB1.out⟩
          case round =>
            obtain ⟨j, hj, hj30, rfl, hR2, hb2⟩ := hrel
            have HB2 := Lib.hid hb2
            have HR2 := Lib.hid hR2
            have HN := fun (n : Int) w => Lib.hid (num_any n w)
            by_cases hl1 : j < ms.length
            · have hl1d : decide ((j : Int) < (ms.length : Int)) = true := by simp; omega
              by_cases hl2 : j < 30
              · have hl2d : decide ((j : Int) < 30) = true := by simp; omega
                obtain ⟨g3, cap3, hv, _, _, _, hget⟩ := own_get hR2 (by omega)
                injection hv with hv1 _ hv2
                subst hv1 hv2
                obtain ⟨m, hm⟩ : ∃ m, ms[j]? = some m := ⟨_, List.getElem?_eq_getElem hl1⟩
                have hf : wr.cell? ⟨g3, j, none⟩ = some (.string ⟨m.toArray⟩) := hget j _ (by rw [List.getElem?_map, hm]; rfl)
                have hml2 := HM.out m (List.mem_of_getElem? hm)
                have CP := Lib.hid (parse_any m wr ((HE.out.low hb2).mono hb2.size) (by omega))
                clear hget hR2 hb2 hm
                go_wp2_with fail
                refine CP.out.mono ?_
                rintro e w3 ⟨hb, hp⟩
                rcases hp with ⟨t, A1, c1, hs, hu, rfl, hT1⟩ | ⟨hn, rfl⟩
                · have hbA := (Below.refl w3.heap.size w3).alloc (Nat.le_refl _) (.cells #[.int .i64 (t).op, .int .i64 (t).n, .slice A1 (t).kids.len c1] 28)
                  have hf1 := below_some hb _ _ hf
                  have hg3 : g3 < w3.heap.size := lt_of_cell hf1
                  have hf2 := below_some hbA _ _ hf1
                  have CR := Lib.hid (rparse_any m (w3.alloc (.cells #[.int .i64 (t).op, .int .i64 (t).n, .slice A1 (t).kids.len c1] 28)) (by omega))
                  have HbA := Lib.hid (hb.trans (hbA.mono hb.size))
                  have HT1 := Lib.hid (show TrR (w3.alloc (.cells #[.int .i64 (t).op, .int .i64 (t).n, .slice A1 (t).kids.len c1] 28)) (t) A1 c1 from hT1.low hbA)
                  clear hbA
                  go_wp2_with fail
                  refine CR.out.mono ?_
                  rintro e w4 ⟨hbb, hp2⟩
                  obtain ⟨A2, c2, rfl, hT2⟩ : ∃ A2 c2, e = .returned (.tuple #[trV t A2 c2, .bool true]) ∧ TrR w4 t A2 c2 := by
                    rcases hp2 with ⟨t', A', c', h1, h2, h3, h4⟩ | ⟨h1, _⟩
                    · have := hu t' h1
                      subst this
                      exact ⟨A', c', h3, h4⟩
                    · exact absurd hs (h1 t)
                  have hbB := (Below.refl w4.heap.size w4).alloc (Nat.le_refl _) (.cells #[.int .i64 (t).op, .int .i64 (t).n, .slice A2 (t).kids.len c2] 28)
                  have hB9 : Below wr.heap.size wr (w4.alloc (.cells #[.int .i64 (t).op, .int .i64 (t).n, .slice A2 (t).kids.len c2] 28)) := HbA.out.trans ((hbb.trans (hbB.mono hbb.size)).mono HbA.out.size)
                  have O8 : OwnB (w4.alloc (.cells #[.int .i64 (t).op, .int .i64 (t).n, .slice A2 (t).kids.len c2] 28)) w3.heap.size #[.int .i64 t.op, .int .i64 t.n, .slice A1 t.kids.len c1] 28 := (OwnB.call (G := []) (OwnB.new rfl) (Keeps.of_below hbb) (by simp)).alloc _
                  have O8a : OwnB w4 w3.heap.size #[.int .i64 t.op, .int .i64 t.n, .slice A1 t.kids.len c1] 28 := OwnB.call (G := []) (OwnB.new rfl) (Keeps.of_below hbb) (by simp)
                  obtain ⟨y0', y1', y2'⟩ := O8a.facts
                  have O9 : OwnB (w4.alloc (.cells #[.int .i64 (t).op, .int .i64 (t).n, .slice A2 (t).kids.len c2] 28)) w4.heap.size #[.int .i64 t.op, .int .i64 t.n, .slice A2 t.kids.len c2] 28 := OwnB.new rfl
                  have CE := Lib.hid (eqTree_any t (w4.alloc (.cells #[.int .i64 (t).op, .int .i64 (t).n, .slice A2 (t).kids.len c2] 28)) A1 A2 c1 c2 (TrR.low (HT1.out.low hbb) hbB) (TrR.low hT2 hbB))
                  obtain ⟨z0', z1', z2'⟩ := O8.facts
                  obtain ⟨v0', v1', v2'⟩ := O9.facts
                  have B9 := Lib.hid hB9
                  clear O8 O9 hB9 hbb hb
                  go_wp2_with (go_at_call 13; refine (HN _ _).out.mono ?_; rintro e w' ⟨rfl, rfl⟩)
                  refine CE.out.mono ?_
                  rintro e w6 ⟨rfl, hb⟩
                  have B10 := Lib.hid (B9.out.trans (hb.mono B9.out.size))
                  clear hb
                  go_wp2_with fail
                  go_roundw
                  case measure => simp [intOf]; omega
                  case rel => exact ⟨j + 1, by omega, by omega, by simp, ownsRow_at HR2.out (fun b hb hl => B10.out.block b hl), HB2.out.trans (B10.out.mono HB2.out.size)⟩
                · have hbA := (Below.refl w3.heap.size w3).alloc (Nat.le_refl _) (.cells #[.int .i64 0, .int .i64 0, .slice none 0 0] 28)
                  have hf1 := below_some hb _ _ hf
                  have hg3 : g3 < w3.heap.size := lt_of_cell hf1
                  have hf2 := below_some hbA _ _ hf1
                  have CR := Lib.hid (rparse_any m (w3.alloc (.cells #[.int .i64 0, .int .i64 0, .slice none 0 0] 28)) (by omega))
                  have HbA := Lib.hid (hb.trans (hbA.mono hb.size))
                  clear hbA
                  go_wp2_with fail
                  refine CR.out.mono ?_
                  rintro e w4 ⟨hbb, hp2⟩
                  obtain rfl : e = .returned (.tuple #[trV ⟨0, 0, .nil⟩ none 0, .bool false]) := by
                    rcases hp2 with ⟨t', A', c', h1, h2, h3, h4⟩ | ⟨_, h1⟩
                    · exact absurd h1 (hn t')
                    · exact h1
                  have hbB := (Below.refl w4.heap.size w4).alloc (Nat.le_refl _) (.cells #[.int .i64 0, .int .i64 0, .slice none 0 0] 28)
                  have hB9 : Below wr.heap.size wr (w4.alloc (.cells #[.int .i64 0, .int .i64 0, .slice none 0 0] 28)) := HbA.out.trans ((hbb.trans (hbB.mono hbb.size)).mono HbA.out.size)
                  have O8 : OwnB (w4.alloc (.cells #[.int .i64 0, .int .i64 0, .slice none 0 0] 28)) w3.heap.size #[.int .i64 0, .int .i64 0, .slice none 0 0] 28 := (OwnB.call (G := []) (OwnB.new rfl) (Keeps.of_below hbb) (by simp)).alloc _
                  have O8a : OwnB w4 w3.heap.size #[.int .i64 0, .int .i64 0, .slice none 0 0] 28 := OwnB.call (G := []) (OwnB.new rfl) (Keeps.of_below hbb) (by simp)
                  obtain ⟨y0', y1', y2'⟩ := O8a.facts
                  have O9 : OwnB (w4.alloc (.cells #[.int .i64 0, .int .i64 0, .slice none 0 0] 28)) w4.heap.size #[.int .i64 0, .int .i64 0, .slice none 0 0] 28 := OwnB.new rfl
                  have CE := Lib.hid (eqTree_any ⟨0, 0, .nil⟩ (w4.alloc (.cells #[.int .i64 0, .int .i64 0, .slice none 0 0] 28)) none none 0 0 (TrR.low zeroTr hbB) (TrR.low zeroTr hbB))
                  obtain ⟨z0', z1', z2'⟩ := O8.facts
                  obtain ⟨v0', v1', v2'⟩ := O9.facts
                  have B9 := Lib.hid hB9
                  clear O8 O9 hB9 hbb hb
                  go_wp2_with (go_at_call 13; refine (HN _ _).out.mono ?_; rintro e w' ⟨rfl, rfl⟩)
                  refine CE.out.mono ?_
                  rintro e w6 ⟨rfl, hb⟩
                  have B10 := Lib.hid (B9.out.trans (hb.mono B9.out.size))
                  clear hb
                  go_wp2_with fail
                  go_roundw
                  case measure => simp [intOf]; omega
                  case rel => exact ⟨j + 1, by omega, by omega, by simp, ownsRow_at HR2.out (fun b hb hl => B10.out.block b hl), HB2.out.trans (B10.out.mono HB2.out.size)⟩
              · have hl2d : decide ((j : Int) < 30) = false := by simp; omega
                have CW := Lib.hid (wakes_any wr ((HE.out.env.low hb2).mono hb2.size))
                go_wp2_with fail
                refine CW.out.mono ?_
                rintro e w3 ⟨rfl, hb⟩
                go_wp2_with fail
                go_ret
                exact ⟨rfl, HB2.out.trans (hb.mono HB2.out.size)⟩
            · have hl1d : decide ((j : Int) < (ms.length : Int)) = false := by simp; omega
              have CW := Lib.hid (wakes_any wr ((HE.out.env.low hb2).mono hb2.size))
              go_wp2_with fail
              refine CW.out.mono ?_
              rintro e w3 ⟨rfl, hb⟩
              go_wp2_with fail
              go_ret
              exact ⟨rfl, HB2.out.trans (hb.mono HB2.out.size)⟩
      · have hxd : decide ((k : Int) < (x.len : Int)) = false := by simp; omega
        go_wp2_with fail
        go_loopw [13, 14, 15, 16, 17, 98, 99, 100, 101, 102, 103, 104, 105, 106, 107, 108, 109, 110, 111, 112, 113, 114, 115, 116, 117, 118, 119, 120, 121, 122, 123, 124, 125, 126, 127, 128, 129, 130, 131, 132, 133, 134, 135, 136, 137, 138, 139, 140, 141, 142, 143] (fun i _ _ _ _ _ _ _ _ _ _ _ _ _ _ _ _ _ _ _ _ _ _ _ _ _ _ _ _ _ _ _ _ _ _ _ _ _ _ _ _ _ _ _ _ _ _ _ _ _ _ wr => ∃ (j : Nat), j ≤ ms.length ∧ j ≤ 30 ∧ i = .int .i64 (j : Int) ∧ wr.ownsRow w.heap.size 9 1 (.slice la ms.length lc) ms.length (ms.map sv) ∧ Below w.heap.size w wr) (fun i _ _ _ _ _ _ _ _ _ _ _ _ _ _ _ _ _ _ _ _ _ _ _ _ _ _ _ _ _ _ _ _ _ _ _ _ _ _ _ _ _ _ _ _ _ _ _ _ _ _ _ => 30 - (intOf i).toNat)
        case atStart => exact ⟨0, by omega, by omega, rfl, HR.out, HB1.out⟩
        case round =>
          obtain ⟨j, hj, hj30, rfl, hR2, hb2⟩ := hrel
          have HB2 := Lib.hid hb2
          have HR2 := Lib.hid hR2
          have HN := fun (n : Int) w => Lib.hid (num_any n w)
          by_cases hl1 : j < ms.length
          · have hl1d : decide ((j : Int) < (ms.length : Int)) = true := by simp; omega
            by_cases hl2 : j < 30
            · have hl2d : decide ((j : Int) < 30) = true := by simp; omega
              obtain ⟨g3, cap3, hv, _, _, _, hget⟩ := own_get hR2 (by omega)
              injection hv with hv1 _ hv2
              subst hv1 hv2
              obtain ⟨m, hm⟩ : ∃ m, ms[j]? = some m := ⟨_, List.getElem?_eq_getElem hl1⟩
              have hf : wr.cell? ⟨g3, j, none⟩ = some (.string ⟨m.toArray⟩) := hget j _ (by rw [List.getElem?_map, hm]; rfl)
              have hml2 := HM.out m (List.mem_of_getElem? hm)
              have CP := Lib.hid (parse_any m wr ((HE.out.low hb2).mono hb2.size) (by omega))
              clear hget hR2 hb2 hm
              go_wp2_with fail
              refine CP.out.mono ?_
              rintro e w3 ⟨hb, hp⟩
              rcases hp with ⟨t, A1, c1, hs, hu, rfl, hT1⟩ | ⟨hn, rfl⟩
              · have hbA := (Below.refl w3.heap.size w3).alloc (Nat.le_refl _) (.cells #[.int .i64 (t).op, .int .i64 (t).n, .slice A1 (t).kids.len c1] 28)
                have hf1 := below_some hb _ _ hf
                have hg3 : g3 < w3.heap.size := lt_of_cell hf1
                have hf2 := below_some hbA _ _ hf1
                have CR := Lib.hid (rparse_any m (w3.alloc (.cells #[.int .i64 (t).op, .int .i64 (t).n, .slice A1 (t).kids.len c1] 28)) (by omega))
                have HbA := Lib.hid (hb.trans (hbA.mono hb.size))
                have HT1 := Lib.hid (show TrR (w3.alloc (.cells #[.int .i64 (t).op, .int .i64 (t).n, .slice A1 (t).kids.len c1] 28)) (t) A1 c1 from hT1.low hbA)
                clear hbA
                go_wp2_with fail
                refine CR.out.mono ?_
                rintro e w4 ⟨hbb, hp2⟩
                obtain ⟨A2, c2, rfl, hT2⟩ : ∃ A2 c2, e = .returned (.tuple #[trV t A2 c2, .bool true]) ∧ TrR w4 t A2 c2 := by
                  rcases hp2 with ⟨t', A', c', h1, h2, h3, h4⟩ | ⟨h1, _⟩
                  · have := hu t' h1
                    subst this
                    exact ⟨A', c', h3, h4⟩
                  · exact absurd hs (h1 t)
                have hbB := (Below.refl w4.heap.size w4).alloc (Nat.le_refl _) (.cells #[.int .i64 (t).op, .int .i64 (t).n, .slice A2 (t).kids.len c2] 28)
                have hB9 : Below wr.heap.size wr (w4.alloc (.cells #[.int .i64 (t).op, .int .i64 (t).n, .slice A2 (t).kids.len c2] 28)) := HbA.out.trans ((hbb.trans (hbB.mono hbb.size)).mono HbA.out.size)
                have O8 : OwnB (w4.alloc (.cells #[.int .i64 (t).op, .int .i64 (t).n, .slice A2 (t).kids.len c2] 28)) w3.heap.size #[.int .i64 t.op, .int .i64 t.n, .slice A1 t.kids.len c1] 28 := (OwnB.call (G := []) (OwnB.new rfl) (Keeps.of_below hbb) (by simp)).alloc _
                have O8a : OwnB w4 w3.heap.size #[.int .i64 t.op, .int .i64 t.n, .slice A1 t.kids.len c1] 28 := OwnB.call (G := []) (OwnB.new rfl) (Keeps.of_below hbb) (by simp)
                obtain ⟨y0', y1', y2'⟩ := O8a.facts
                have O9 : OwnB (w4.alloc (.cells #[.int .i64 (t).op, .int .i64 (t).n, .slice A2 (t).kids.len c2] 28)) w4.heap.size #[.int .i64 t.op, .int .i64 t.n, .slice A2 t.kids.len c2] 28 := OwnB.new rfl
                have CE := Lib.hid (eqTree_any t (w4.alloc (.cells #[.int .i64 (t).op, .int .i64 (t).n, .slice A2 (t).kids.len c2] 28)) A1 A2 c1 c2 (TrR.low (HT1.out.low hbb) hbB) (TrR.low hT2 hbB))
                obtain ⟨z0', z1', z2'⟩ := O8.facts
                obtain ⟨v0', v1', v2'⟩ := O9.facts
                have B9 := Lib.hid hB9
                clear O8 O9 hB9 hbb hb
                go_wp2_with (go_at_call 13; refine (HN _ _).out.mono ?_; rintro e w' ⟨rfl, rfl⟩)
                refine CE.out.mono ?_
                rintro e w6 ⟨rfl, hb⟩
                have B10 := Lib.hid (B9.out.trans (hb.mono B9.out.size))
                clear hb
                go_wp2_with fail
                go_roundw
                case measure => simp [intOf]; omega
                case rel => exact ⟨j + 1, by omega, by omega, by simp, ownsRow_at HR2.out (fun b hb hl => B10.out.block b hl), HB2.out.trans (B10.out.mono HB2.out.size)⟩
              · have hbA := (Below.refl w3.heap.size w3).alloc (Nat.le_refl _) (.cells #[.int .i64 0, .int .i64 0, .slice none 0 0] 28)
                have hf1 := below_some hb _ _ hf
                have hg3 : g3 < w3.heap.size := lt_of_cell hf1
                have hf2 := below_some hbA _ _ hf1
                have CR := Lib.hid (rparse_any m (w3.alloc (.cells #[.int .i64 0, .int .i64 0, .slice none 0 0] 28)) (by omega))
                have HbA := Lib.hid (hb.trans (hbA.mono hb.size))
                clear hbA
                go_wp2_with fail
                refine CR.out.mono ?_
                rintro e w4 ⟨hbb, hp2⟩
                obtain rfl : e = .returned (.tuple #[trV ⟨0, 0, .nil⟩ none 0, .bool false]) := by
                  rcases hp2 with ⟨t', A', c', h1, h2, h3, h4⟩ | ⟨_, h1⟩
                  · exact absurd h1 (hn t')
                  · exact h1
                have hbB := (Below.refl w4.heap.size w4).alloc (Nat.le_refl _) (.cells #[.int .i64 0, .int .i64 0, .slice none 0 0] 28)
                have hB9 : Below wr.heap.size wr (w4.alloc (.cells #[.int .i64 0, .int .i64 0, .slice none 0 0] 28)) := HbA.out.trans ((hbb.trans (hbB.mono hbb.size)).mono HbA.out.size)
                have O8 : OwnB (w4.alloc (.cells #[.int .i64 0, .int .i64 0, .slice none 0 0] 28)) w3.heap.size #[.int .i64 0, .int .i64 0, .slice none 0 0] 28 := (OwnB.call (G := []) (OwnB.new rfl) (Keeps.of_below hbb) (by simp)).alloc _
                have O8a : OwnB w4 w3.heap.size #[.int .i64 0, .int .i64 0, .slice none 0 0] 28 := OwnB.call (G := []) (OwnB.new rfl) (Keeps.of_below hbb) (by simp)
                obtain ⟨y0', y1', y2'⟩ := O8a.facts
                have O9 : OwnB (w4.alloc (.cells #[.int .i64 0, .int .i64 0, .slice none 0 0] 28)) w4.heap.size #[.int .i64 0, .int .i64 0, .slice none 0 0] 28 := OwnB.new rfl
                have CE := Lib.hid (eqTree_any ⟨0, 0, .nil⟩ (w4.alloc (.cells #[.int .i64 0, .int .i64 0, .slice none 0 0] 28)) none none 0 0 (TrR.low zeroTr hbB) (TrR.low zeroTr hbB))
                obtain ⟨z0', z1', z2'⟩ := O8.facts
                obtain ⟨v0', v1', v2'⟩ := O9.facts
                have B9 := Lib.hid hB9
                clear O8 O9 hB9 hbb hb
                go_wp2_with (go_at_call 13; refine (HN _ _).out.mono ?_; rintro e w' ⟨rfl, rfl⟩)
                refine CE.out.mono ?_
                rintro e w6 ⟨rfl, hb⟩
                have B10 := Lib.hid (B9.out.trans (hb.mono B9.out.size))
                clear hb
                go_wp2_with fail
                go_roundw
                case measure => simp [intOf]; omega
                case rel => exact ⟨j + 1, by omega, by omega, by simp, ownsRow_at HR2.out (fun b hb hl => B10.out.block b hl), HB2.out.trans (B10.out.mono HB2.out.size)⟩
            · have hl2d : decide ((j : Int) < 30) = false := by simp; omega
              have CW := Lib.hid (wakes_any wr ((HE.out.env.low hb2).mono hb2.size))
              go_wp2_with fail
              refine CW.out.mono ?_
              rintro e w3 ⟨rfl, hb⟩
              go_wp2_with fail
              go_ret
              exact ⟨rfl, HB2.out.trans (hb.mono HB2.out.size)⟩
          · have hl1d : decide ((j : Int) < (ms.length : Int)) = false := by simp; omega
            have CW := Lib.hid (wakes_any wr ((HE.out.env.low hb2).mono hb2.size))
            go_wp2_with fail
            refine CW.out.mono ?_
            rintro e w3 ⟨rfl, hb⟩
            go_wp2_with fail
            go_ret
            exact ⟨rfl, HB2.out.trans (hb.mono HB2.out.size)⟩
end Go.Proofs.YtgbgjecmamkdaaaDoor
