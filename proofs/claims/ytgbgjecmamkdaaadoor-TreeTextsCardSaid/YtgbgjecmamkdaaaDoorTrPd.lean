/-
  The project's reader: tree, whole.
-/
import Derived.Test.YtgbgjecmamkdaaaDoorTrPc
namespace Go.Proofs.YtgbgjecmamkdaaaDoor
open Go.RowKit Go.Maps
set_option linter.unusedVariables false
set_option linter.unusedSimpArgs false
set_option maxRecDepth 100000
set_option maxHeartbeats 2000000

theorem op_back {t0 : Tr} (ho : okT t0 = true) {rest r : List UInt8} (hr : rest = textT t0 ++ r) : wordR rest = wordV t0.op ∧ (Lib.cut rest [40]).2.1 = (if leafB t0.op then Lib.itoa t0.n else []) ++ (joinC (textsL t0.kids) ++ (41 :: r)) := by
  rw [okT] at ho
  simp only [Bool.and_eq_true] at ho
  have h1 := (node_op ho.1).1
  have h2 := (node_op ho.1).2.1
  have e : rest = wordV t0.op ++ (40 :: ((if leafB t0.op then Lib.itoa t0.n else []) ++ (joinC (textsL t0.kids) ++ (41 :: r)))) := by
    rw [hr, textT, headT]
    simp [List.append_assoc]
  obtain ⟨o, ho'⟩ : ∃ o : Nat, t0.op = (o : Int) := ⟨t0.op.toNat, by omega⟩
  have hp := word_paren o (by omega)
  rw [← ho'] at hp
  unfold wordR
  rw [e, cut_one _ _ _ hp]
  exact ⟨rfl, rfl⟩
theorem opR_back {t0 : Tr} (ho : okT t0 = true) {rest r : List UInt8} (hr : rest = textT t0 ++ r) {room : Int} (h : 1 ≤ room) : opR rest room = t0.op := by
  have hw := (op_back ho hr).1
  rw [okT] at ho
  simp only [Bool.and_eq_true] at ho
  have h1 := (node_op ho.1).1
  have h2 := (node_op ho.1).2.1
  obtain ⟨o, ho'⟩ : ∃ o : Nat, t0.op = (o : Int) := ⟨t0.op.toNat, by omega⟩
  unfold opR
  rw [hw, ho', opK_word o (by omega) (by omega)]
  rw [if_neg (by omega)]
theorem opR_bd (rest : List UInt8) (room : Int) : 0 ≤ opR rest room ∧ opR rest room ≤ 36 := by
  unfold opR
  have := opK_bd 36 (mark7 (wordR rest))
  split <;> omega
theorem opR_room {rest : List UInt8} {room : Int} (h : opR rest room ≠ 0) : room ≠ 0 := by
  intro h0
  unfold opR at h
  rw [if_pos (.inr h0)] at h
  exact h rfl
theorem Reads.set {w w1 : World} {g mb : Nat} {r : List UInt8} {m : Int} (h : Reads w w1 g mb r m) (hg : g < w.heap.size) (hm : mb < w.heap.size) (a : Addr) (v : Value) (ha : w.heap.size ≤ a.block) : Reads w (w1.setCell a v) g mb r m :=
  ⟨h.rd.other a v (by omega) (by omega), h.kp.setCell a (.inl ha) v⟩
theorem Reads.alloc {w w1 : World} {g mb : Nat} {r : List UInt8} {m : Int} (h : Reads w w1 g mb r m) (o : Obj) : Reads w (w1.alloc o) g mb r m :=
  ⟨h.rd.keep ((Below.refl w1.heap.size w1).alloc (Nat.le_refl _) o), h.kp.alloc o⟩
theorem Reads.new {w w1 : World} {g mb : Nat} {r : List UInt8} {m : Int} {o : Obj} (h : Reads (w.alloc o) w1 g mb r m) : Reads w w1 g mb r m :=
  ⟨h.rd, (Keeps.of_below ((Below.refl w.heap.size w).alloc (Nat.le_refl _) o)).trans h.kp⟩
theorem op_pos {t0 : Tr} (ho : okT t0 = true) : 1 ≤ t0.op ∧ (t0.kids.len : Int) = ariV t0.op := by
  rw [okT] at ho
  simp only [Bool.and_eq_true] at ho
  exact ⟨(node_op ho.1).1, (node_op ho.1).2.2⟩
theorem leaf_back {t0 : Tr} (ho : okT t0 = true) (ha : ariV t0.op = 0) {rest r : List UInt8} (hr : rest = textT t0 ++ r) : t0.kids = .nil ∧ Lib.cut (Lib.cut rest [40]).2.1 [41] = (Lib.itoa t0.n, r, true) := by
  have h1 := (op_back ho hr).2
  have h2 := op_pos ho
  have hk : t0.kids = .nil := by
    cases h : t0.kids with
    | nil => rfl
    | cons _ _ _ _ =>
      rw [h, ha] at h2
      simp only [Trs.len] at h2
      omega
  have hl : leafB t0.op = true := by
    unfold ariV at ha
    unfold leafB
    by_cases h3 : 1 ≤ t0.op ∧ t0.op ≤ 4
    · simp [h3]
    · rw [if_neg h3] at ha
      split at ha
      · cases ha
      · split at ha <;> cases ha
  refine ⟨hk, ?_⟩
  rw [h1, if_pos hl, hk]
  exact cut_one _ _ _ (itoa_paren _)
theorem kid_back {t0 : Tr} (ho : okT t0 = true) (ha : ariV t0.op = 1 ∨ ariV t0.op = 2) {rest r : List UInt8} (hr : rest = textT t0 ++ r) : t0.n = 0 ∧ okL t0.kids = true ∧ (Lib.cut rest [40]).2.1 = joinC (textsL t0.kids) ++ (41 :: r) := by
  have h1 := (op_back ho hr).2
  have hl : ¬ (1 ≤ t0.op ∧ t0.op ≤ 4) := by
    intro h
    unfold ariV at ha
    rw [if_pos h] at ha
    omega
  rw [okT] at ho
  simp only [Bool.and_eq_true] at ho
  have h2 := ho.1
  have h3 := node_op h2
  unfold nodeB mayB at h2
  simp only [Bool.and_eq_true, Bool.or_eq_true, decide_eq_true_eq] at h2
  rw [if_neg (by omega)] at h2
  refine ⟨?_, ho.2, ?_⟩
  · rcases h2.2 with h | h
    · omega
    · simpa using h
  · rw [h1, if_neg (by unfold leafB; simpa using hl)]
    rfl
theorem tree_step (n : Nat) (IH : TreeC n) : TreeC (n + 1) := by
  intro w g mb B rest room hn hr0 hr1 hR hE hlen hB hBw
  have hb0 := (Below.refl w.heap.size w).alloc (Nat.le_refl _) (.cells #[.int .i64 0, .int .i64 0, .slice none 0 0] 28)
  have CO := Lib.hid (op_any _ g mb B rest room (hR.keep hb0) (hE.low (hb0.mono hBw)) hlen hB hr0 hr1)
  have hg := lt_of_blk hR.own.blk
  have hmb := hR.map.lt
  have HR := Lib.hid hR
  have HE := Lib.hid hE
  have HL := Lib.hid hlen
  have HB0 := Lib.hid hb0
  have HC := Lib.hid (cut_len rest [40])
  have HBk := Lib.hid (fun (t0 : Tr) (r : List UInt8) (ho : okT t0 = true) (hr : rest = textT t0 ++ r) => op_back ho hr)
  have HBo := Lib.hid (fun (t0 : Tr) (r : List UInt8) (ho : okT t0 = true) (hr : rest = textT t0 ++ r) (h : 1 ≤ room) => opR_back ho hr h)
  have hbd := opR_bd rest room
  have HRm := Lib.hid (fun h => opR_room (rest := rest) (room := room) h)
  clear hR hE hlen hb0
  generalize opR rest room = o at *
  have hcase : (o = 0 ∧ ariV o = -1) ∨ (o ≠ 0 ∧ ariV o = 0) ∨ (o ≠ 0 ∧ ariV o = 1) ∨ (o ≠ 0 ∧ ariV o = 2) := by
    unfold ariV
    by_cases h0 : o = 0
    · left; subst h0; exact ⟨rfl, by decide⟩
    · by_cases h1 : o ≤ 4
      · exact .inr (.inl ⟨h0, by rw [if_pos (by omega)]⟩)
      · by_cases h2 : 12 ≤ o ∧ o ≤ 30
        · exact .inr (.inr (.inr ⟨h0, by rw [if_neg (by omega), if_neg (by omega), if_pos h2]⟩))
        · exact .inr (.inr (.inl ⟨h0, by rw [if_neg (by omega), if_pos (by omega)]⟩))
  have hoI : I64 o := ⟨by omega, by omega⟩
  rcases hcase with ⟨h0, ha⟩ | ⟨h0, ha⟩ | ⟨h0, ha⟩ | ⟨h0, ha⟩
  · rw [if_pos h0] at CO
    subst h0
    have CA := fun w => Lib.hid (arity_any 0 hoI w)
    rw [ha] at CA
    go_enter Tryd.func37, Tryd.ntmps37
    go_wp2_with fail
    refine CO.out.mono ?_
    rintro e w1 ⟨rfl, hR1⟩
    have O1 : OwnB w1 w.heap.size #[.int .i64 0, .int .i64 0, .slice none 0 0] 28 := OwnB.call (OwnB.new rfl) hR1.kp (by simp; omega)
    obtain ⟨y1, x1, z1⟩ := O1.facts
    have HR1 := Lib.hid hR1
    have hmb1 := hR1.rd.map.lt
    clear hR1
    go_wp2_with (go_at_call 40; refine (CA _).out.mono ?_; rintro e w' ⟨rfl, rfl⟩)
    refine bodyPost_ret (v := trV ⟨0, 0, .nil⟩ none 0) (by simp [results, Tryd.results37, go_sem, Trs.len, *]) rfl ?_
    refine ⟨⟨0, 0, .nil⟩, none, 0, (Lib.cut rest [40]).2.1, room, rfl, ⟨hoI, hoI, Nat.le_refl _, by decide, fun h => absurd h (by simp [Trs.len]), ?_, HC.out.2, hr0, Int.le_refl _, ?_⟩⟩
    · exact (((HR1.out.new.set hg hmb _ _ (Nat.le_refl _)).set hg hmb _ _ (Nat.le_refl _)).set hg hmb _ _ (Nat.le_refl _)).alloc _
    · intro t0 r ho hw hr hs
      have h1 := HBo.out t0 r ho hr (by omega)
      have h2 := (op_pos ho).1
      omega
  · rw [if_neg h0] at CO
    have CA := fun w => Lib.hid (arity_any o hoI w)
    rw [ha] at CA
    have hrm := HRm.out h0
    go_enter Tryd.func37, Tryd.ntmps37
    go_wp2_with fail
    refine CO.out.mono ?_
    rintro e w1 ⟨rfl, hR1⟩
    have O1 : OwnB w1 w.heap.size #[.int .i64 0, .int .i64 0, .slice none 0 0] 28 := OwnB.call (OwnB.new rfl) hR1.kp (by simp; omega)
    obtain ⟨y1, x1, z1⟩ := O1.facts
    have hmb1 := hR1.rd.map.lt
    have hb1 : Below B w w1 := keeps_low hR1.new.kp hB hBw
    have hb2 := (Below.refl w1.heap.size w1).alloc (Nat.le_refl _) (.cells #[.int .i64 o, .int .i64 0, .slice none 0 0] 28)
    have CN := Lib.hid (number_any _ g mb B (Lib.cut rest [40]).2.1 (room - 1) (hR1.rd.keep hb2) ((HE.out.low hb1).low (hb2.mono (Nat.le_trans hBw hb1.size))) (by have := HC.out.2; have := HL.out; omega) hB (Nat.le_trans hBw (Nat.le_trans hb1.size hb2.size)))
    have HR1 := Lib.hid hR1.new
    have HO1 := Lib.hid O1
    have HB1 := Lib.hid hb1
    have HB2 := Lib.hid hb2
    clear hR1 O1 hb1 hb2
    go_wp2_with (first | (go_at_call 40; refine (CA _).out.mono ?_; rintro e w' ⟨rfl, rfl⟩) | fail)
    refine CN.out.mono ?_
    rintro e w2 ⟨v, rfl, hv, hvb, hR2⟩
    have O2 : OwnB w2 w1.heap.size #[.int .i64 o, .int .i64 0, .slice none 0 0] 28 := OwnB.call (OwnB.new rfl) hR2.kp (by simp; omega)
    obtain ⟨y2, x2, z2⟩ := O2.facts
    have O3 : OwnB w2 w.heap.size #[.int .i64 0, .int .i64 0, .slice none 0 0] 28 := OwnB.call (HO1.out.alloc _) hR2.kp (by simp; omega)
    obtain ⟨y3, x3, z3⟩ := O3.facts
    have HR2 := Lib.hid hR2
    clear hR2 O2 O3
    go_wp2_with fail
    refine bodyPost_ret (v := trV ⟨o, v, .nil⟩ none 0) (by simp [results, Tryd.results37, go_sem, Trs.len, *]) rfl ?_
    refine ⟨⟨o, v, .nil⟩, none, 0, (Lib.cut (Lib.cut rest [40]).2.1 [41]).2.1, room - 1, rfl, ⟨hoI, hv, Nat.le_refl _, by decide, fun h => absurd h (by simp [Trs.len]), ?_, ?_, by omega, by omega, ?_⟩⟩
    · exact ((((HR1.out.trans HR2.out.new).set hg hmb _ _ (by show w.heap.size ≤ w1.heap.size; omega)).set hg hmb _ _ (Nat.le_refl _)).set hg hmb _ _ (Nat.le_refl _)).set hg hmb _ _ (Nat.le_refl _)
    · have := (cut_len (Lib.cut rest [40]).2.1 [41]).2
      have := HC.out.2
      omega
    · intro t0 r ho hw hr hs
      have h1 := HBo.out t0 r ho hr (by omega)
      obtain ⟨h2, h3⟩ := leaf_back ho (by rw [← h1]; exact ha) hr
      have h4 := hvb t0.n hw.1 (by rw [h3])
      obtain ⟨a, b, c⟩ := t0
      simp only at h1 h2 h4
      subst h1 h2 h4
      exact ⟨rfl, by rw [h3], by simp [Trs.size]⟩
  · rw [if_neg h0] at CO
    have CA := fun w => Lib.hid (arity_any o hoI w)
    rw [ha] at CA
    have hrm := HRm.out h0
    go_enter Tryd.func37, Tryd.ntmps37
    go_wp2_with fail
    refine CO.out.mono ?_
    rintro e w1 ⟨rfl, hR1⟩
    have O1 : OwnB w1 w.heap.size #[.int .i64 0, .int .i64 0, .slice none 0 0] 28 := OwnB.call (OwnB.new rfl) hR1.kp (by simp; omega)
    obtain ⟨y1, x1, z1⟩ := O1.facts
    have hmb1 := hR1.rd.map.lt
    have hb1 : Below B w w1 := keeps_low hR1.new.kp hB hBw
    have hb2 := (Below.refl w1.heap.size w1).alloc (Nat.le_refl _) (.cells #[.int .i64 o, .int .i64 0, .slice none 0 0] 28)
    have CN := Lib.hid (kids1 n IH _ g mb B (Lib.cut rest [40]).2.1 (room - 1) (by omega) (by omega) (by omega) (hR1.rd.keep hb2) ((HE.out.low hb1).low (hb2.mono (Nat.le_trans hBw hb1.size))) (by have := HC.out.2; have := HL.out; omega) hB (Nat.le_trans hBw (Nat.le_trans hb1.size hb2.size)))
    have HR1 := Lib.hid hR1.new
    have HO1 := Lib.hid O1
    have HB1 := Lib.hid hb1
    have HB2 := Lib.hid hb2
    clear hR1 O1 hb1 hb2
    go_wp2_with (first | (go_at_call 40; refine (CA _).out.mono ?_; rintro e w' ⟨rfl, rfl⟩) | fail)
    refine CN.out.mono ?_
    rintro e w2 ⟨x, A, c, rest', room', rfl, hT⟩
    have hR2 := hT.rd
    have HT := Lib.hid hT
    have hxl := hT.n
    clear hT
    have O2 : OwnB w2 w1.heap.size #[.int .i64 o, .int .i64 0, .slice none 0 0] 28 := OwnB.call (OwnB.new rfl) hR2.kp (by simp; omega)
    obtain ⟨y2, x2, z2⟩ := O2.facts
    have O3 : OwnB w2 w.heap.size #[.int .i64 0, .int .i64 0, .slice none 0 0] 28 := OwnB.call (HO1.out.alloc _) hR2.kp (by simp; omega)
    obtain ⟨y3, x3, z3⟩ := O3.facts
    have HR2 := Lib.hid hR2
    clear hR2 O2 O3
    go_wp2_with fail
    refine bodyPost_ret (v := trV ⟨o, 0, x⟩ A c) (by simp [results, Tryd.results37, go_sem, *]) rfl ?_
    have hT := HT.out
    refine ⟨⟨o, 0, x⟩, A, c, rest', room', rfl, ⟨hoI, (show I64 0 from ⟨by decide, by decide⟩), hT.le, hT.cap, ?_, ?_, ?_, hT.r0, by have := hT.r1; omega, ?_⟩⟩
    · refine hT.kid.keep (fun p v hp h => keeps_some (Keeps.au (G := [w1.heap.size, w.heap.size])) p v h ?_) (fun b hb _ => ?_)
      · have hp' : (w1.alloc (.cells #[.int .i64 o, .int .i64 0, .slice none 0 0] 28)).heap.size ≤ p.block := hp
        rw [World.size_alloc] at hp'
        simp; omega
      · have hb' : (w1.alloc (.cells #[.int .i64 o, .int .i64 0, .slice none 0 0] 28)).heap.size ≤ b := hb
        rw [World.size_alloc] at hb'
        omega
    · exact ((((HR1.out.trans HR2.out.new).set hg hmb _ _ (by show w.heap.size ≤ w1.heap.size; omega)).set hg hmb _ _ (Nat.le_refl _)).set hg hmb _ _ (Nat.le_refl _)).set hg hmb _ _ (Nat.le_refl _)
    · have h1 := hT.len
      have h2 := HC.out.2
      omega
    · intro t0 r ho hw hr hs
      have h1 := HBo.out t0 r ho hr (by omega)
      obtain ⟨h2, h3, h4⟩ := kid_back ho (by rw [← h1]; simp [ha]) hr
      have h5 := (op_pos ho).2
      obtain ⟨h6, h7, h8⟩ := hT.back t0.kids r (by rw [← h1, ha] at h5; omega) h3 hw.2 h4 (by omega)
      obtain ⟨a, b, c'⟩ := t0
      simp only at h1 h2 h6
      subst h1 h2 h6
      exact ⟨rfl, h7, by rw [h8]; simp only; omega⟩
  · rw [if_neg h0] at CO
    have CA := fun w => Lib.hid (arity_any o hoI w)
    rw [ha] at CA
    have hrm := HRm.out h0
    go_enter Tryd.func37, Tryd.ntmps37
    go_wp2_with fail
    refine CO.out.mono ?_
    rintro e w1 ⟨rfl, hR1⟩
    have O1 : OwnB w1 w.heap.size #[.int .i64 0, .int .i64 0, .slice none 0 0] 28 := OwnB.call (OwnB.new rfl) hR1.kp (by simp; omega)
    obtain ⟨y1, x1, z1⟩ := O1.facts
    have hmb1 := hR1.rd.map.lt
    have hb1 : Below B w w1 := keeps_low hR1.new.kp hB hBw
    have hb2 := (Below.refl w1.heap.size w1).alloc (Nat.le_refl _) (.cells #[.int .i64 o, .int .i64 0, .slice none 0 0] 28)
    have CN := Lib.hid (kids2 n IH _ g mb B (Lib.cut rest [40]).2.1 (room - 1) (by omega) (by omega) (by omega) (hR1.rd.keep hb2) ((HE.out.low hb1).low (hb2.mono (Nat.le_trans hBw hb1.size))) (by have := HC.out.2; have := HL.out; omega) hB (Nat.le_trans hBw (Nat.le_trans hb1.size hb2.size)))
    have HR1 := Lib.hid hR1.new
    have HO1 := Lib.hid O1
    have HB1 := Lib.hid hb1
    have HB2 := Lib.hid hb2
    clear hR1 O1 hb1 hb2
    go_wp2_with (first | (go_at_call 40; refine (CA _).out.mono ?_; rintro e w' ⟨rfl, rfl⟩) | fail)
    refine CN.out.mono ?_
    rintro e w2 ⟨x, A, c, rest', room', rfl, hT⟩
    have hR2 := hT.rd
    have HT := Lib.hid hT
    have hxl := hT.n
    clear hT
    have O2 : OwnB w2 w1.heap.size #[.int .i64 o, .int .i64 0, .slice none 0 0] 28 := OwnB.call (OwnB.new rfl) hR2.kp (by simp; omega)
    obtain ⟨y2, x2, z2⟩ := O2.facts
    have O3 : OwnB w2 w.heap.size #[.int .i64 0, .int .i64 0, .slice none 0 0] 28 := OwnB.call (HO1.out.alloc _) hR2.kp (by simp; omega)
    obtain ⟨y3, x3, z3⟩ := O3.facts
    have HR2 := Lib.hid hR2
    clear hR2 O2 O3
    go_wp2_with fail
    refine bodyPost_ret (v := trV ⟨o, 0, x⟩ A c) (by simp [results, Tryd.results37, go_sem, *]) rfl ?_
    have hT := HT.out
    refine ⟨⟨o, 0, x⟩, A, c, rest', room', rfl, ⟨hoI, (show I64 0 from ⟨by decide, by decide⟩), hT.le, hT.cap, ?_, ?_, ?_, hT.r0, by have := hT.r1; omega, ?_⟩⟩
    · refine hT.kid.keep (fun p v hp h => keeps_some (Keeps.au (G := [w1.heap.size, w.heap.size])) p v h ?_) (fun b hb _ => ?_)
      · have hp' : (w1.alloc (.cells #[.int .i64 o, .int .i64 0, .slice none 0 0] 28)).heap.size ≤ p.block := hp
        rw [World.size_alloc] at hp'
        simp; omega
      · have hb' : (w1.alloc (.cells #[.int .i64 o, .int .i64 0, .slice none 0 0] 28)).heap.size ≤ b := hb
        rw [World.size_alloc] at hb'
        omega
    · exact ((((HR1.out.trans HR2.out.new).set hg hmb _ _ (by show w.heap.size ≤ w1.heap.size; omega)).set hg hmb _ _ (Nat.le_refl _)).set hg hmb _ _ (Nat.le_refl _)).set hg hmb _ _ (Nat.le_refl _)
    · have h1 := hT.len
      have h2 := HC.out.2
      omega
    · intro t0 r ho hw hr hs
      have h1 := HBo.out t0 r ho hr (by omega)
      obtain ⟨h2, h3, h4⟩ := kid_back ho (by rw [← h1]; simp [ha]) hr
      have h5 := (op_pos ho).2
      obtain ⟨h6, h7, h8⟩ := hT.back t0.kids r (by rw [← h1, ha] at h5; omega) h3 hw.2 h4 (by omega)
      obtain ⟨a, b, c'⟩ := t0
      simp only at h1 h2 h6
      subst h1 h2 h6
      exact ⟨rfl, h7, by rw [h8]; simp only; omega⟩
theorem tree_all : ∀ n, TreeC n := by
  intro n
  induction n with
  | zero => intro w g mb B rest room hn hr0; exact absurd hn (by omega)
  | succ n ih => exact tree_step n ih
end Go.Proofs.YtgbgjecmamkdaaaDoor
