/-
  The project's write: a tree's text behind what a builder holds.
-/
import Derived.Test.YtgbgjecmamkdaaaDoorTrBld
import Derived.Test.YtgbgjecmamkdaaaDoorTrTxt
import Derived.Test.YtgbgjecmamkdaaaDoorTrCp
import Derived.Lib.LaidTab
namespace Go.Proofs.YtgbgjecmamkdaaaDoor
open Go.RowKit
set_option linter.unusedVariables false
set_option linter.unusedSimpArgs false
set_option maxRecDepth 100000
set_option maxHeartbeats 1000000

def wordC : Array Value := (wordsL.map fun s => Value.string ⟨s.toArray⟩).toArray
/-- The two tables that a text is made by. -/
structure Env (w : World) (B : Nat) : Prop where
  words : ∃ st fz, w.heap[0]? = some (.cells wordC st fz)
  tab : Lib.TabIs Tryd.prog w "internal/strconv.uint64pow10" .u64 Lib.pow10Tab
  wlt : 0 < B
  tlt : 1 < B
theorem Env.low {w W : World} {B : Nat} (h : Env w B) (hb : Below B w W) : Env W B := by
  obtain ⟨st, fz, hw⟩ := h.words
  refine ⟨⟨st, fz, (hb.block _ h.wlt).trans hw⟩, ?_, h.wlt, h.tlt⟩
  have ht := h.tab
  unfold Lib.TabIs World.var? at ht ⊢
  rw [show Tryd.prog.globalNamed "internal/strconv.uint64pow10" = some 1 by kernel_rfl] at ht ⊢
  simp only [Option.bind_some] at ht ⊢
  rw [hb.block _ h.tlt]
  exact ht
theorem Env.mono {w : World} {B B' : Nat} (h : Env w B) (hB : B ≤ B') : Env w B' := ⟨h.words, h.tab, Nat.lt_of_lt_of_le h.wlt hB, Nat.lt_of_lt_of_le h.tlt hB⟩
theorem word_cell {w : World} {B : Nat} (h : Env w B) (o : Nat) (ho : o ≤ 36) : w.cell? ⟨0, o, none⟩ = some (.string ⟨(wordV (o : Int)).toArray⟩) := by
  obtain ⟨st, fz, hw⟩ := h.words
  rw [cell_of_row w _ o wordC st fz hw]
  have : wordC[o]? = (wordsL.map fun s => Value.string ⟨s.toArray⟩)[o]? := by simp [wordC]
  rw [this, List.getElem?_map]
  have hl : o < wordsL.length := by
    have : wordsL.length = 37 := by decide
    omega
  unfold wordV
  simp [List.getD, hl]
theorem RowP.get {P : Nat → Prop} {w : World} : ∀ (x : Trs) (b off : Nat), RowP P w x b off → ∀ (k : Nat) (t : Tr), x.toL[k]? = some t → ∃ (A : Option Addr) (c : Nat), P b ∧ w.cell? ⟨b, off + k * 3, none⟩ = some (.int .i64 t.op) ∧ w.cell? ⟨b, off + k * 3 + 1, none⟩ = some (.int .i64 t.n) ∧ w.cell? ⟨b, off + k * 3 + 2, none⟩ = some (.slice A t.kids.len c) ∧ I64 t.op ∧ I64 t.n ∧ t.kids.len ≤ c ∧ c ≤ maxLen ∧ KidP P w t.kids A := by
  intro x
  induction x with
  | nil => intro b off _ k t h; simp [Trs.toL] at h
  | cons op n kids rest _ ih =>
    rintro b off ⟨hp, h1, h2, ⟨A, c, c0, c1, c2, hl, hc, hk⟩, hr⟩ k t h
    cases k with
    | zero =>
      obtain rfl : (⟨op, n, kids⟩ : Tr) = t := by simpa [Trs.toL] using h
      exact ⟨A, c, hp, by simpa using c0, by simpa using c1, by simpa using c2, h1, h2, hl, hc, hk⟩
    | succ k =>
      have := ih b (off + 3) hr k t (by simpa [Trs.toL] using h)
      have e : off + 3 + k * 3 = off + (k + 1) * 3 := by omega
      rwa [e] at this
/-- A tree whose kids lie in blocks of P. -/
structure TrP (P : Nat → Prop) (w : World) (t : Tr) (A : Option Addr) (c : Nat) : Prop where
  op : I64 t.op
  n : I64 t.n
  le : t.kids.len ≤ c
  cap : c ≤ maxLen
  kid : KidP P w t.kids A
theorem KidP.get {P : Nat → Prop} {w : World} {x : Trs} {A : Option Addr} (h : KidP P w x A) {k : Nat} (hk : k < x.len) : ∃ (t : Tr) (b off : Nat) (B : Option Addr) (c : Nat), x.toL[k]? = some t ∧ A = some ⟨b, off, none⟩ ∧ P b ∧
    w.cell? ⟨b, off + k * 3, none⟩ = some (.int .i64 t.op) ∧ w.cell? ⟨b, off + k * 3 + 1, none⟩ = some (.int .i64 t.n) ∧ w.cell? ⟨b, off + k * 3 + 2, none⟩ = some (.slice B t.kids.len c) ∧ TrP P w t B c := by
  obtain ⟨b, off, e, h1⟩ := h (by omega)
  have hl : k < x.toL.length := by rw [Trs.toL_len]; exact hk
  obtain ⟨B, c, h2, h3, h4, h5, h6, h7, h8, h9, h10⟩ := h1.get _ _ _ k _ (List.getElem?_eq_getElem hl)
  exact ⟨_, b, off, B, c, List.getElem?_eq_getElem hl, e, h2, h3, h4, h5, h6, h7, h8, h9, h10⟩
theorem TrP.low {w W : World} {B : Nat} {t : Tr} {A : Option Addr} {c : Nat} (h : TrP (· < B) w t A c) (hb : Below B w W) : TrP (· < B) W t A c :=
  ⟨h.op, h.n, h.le, h.cap, h.kid.keep (fun p v hp hu => (hb.cell hp).trans hu) (fun _ hb _ => hb)⟩
theorem KidP.low {w W : World} {B : Nat} {x : Trs} {A : Option Addr} (h : KidP (· < B) w x A) (hb : Below B w W) : KidP (· < B) W x A := h.keep (fun p v hp hu => (hb.cell hp).trans hu) (fun _ hb _ => hb)
theorem bc_app (a b : List UInt8) : Lib.byteCells a ++ Lib.byteCells b = Lib.byteCells (a ++ b) := by simp [Lib.byteCells]
theorem sc_bc (l : List UInt8) : Lib.strCells ⟨l.toArray⟩ = Lib.byteCells l := rfl
theorem Wrote.refl {B b : Nat} {bs : List Value} {w : World} (h : Bd B b bs w) : Wrote B b bs w w := ⟨h, Below.refl _ _, Lib.OthersKept.refl _ _ _⟩
theorem Wrote.trans {B b : Nat} {bs cs : List Value} {w w1 w2 : World} (h : Wrote B b bs w w1) (k : Wrote B b cs w1 w2) : Wrote B b cs w w2 := ⟨k.bd, h.low.trans k.low, h.kept.trans k.kept⟩
/-- An own block that is no row of bytes. -/
theorem OwnB.kept {b' b : Nat} {cs : Array Value} {T : TypeId} {w w' : World} (h : OwnB w b' cs T) (hk : Lib.OthersKept 5 (some b) w w') (hne : b' ≠ b) (hT : T ≠ 5) : OwnB w' b' cs T :=
  ⟨hk b' _ h.blk (fun e => hne (Option.some.inj e)) (fun c fz e => by injection e with e1 e2; exact hT e2)⟩
theorem Bd.alloc {B b : Nat} {bs : List Value} {w : World} (h : Bd B b bs w) (o : Obj) : Bd B b bs (w.alloc o) := by
  have key : ∀ p, Lib.BuilderAt 66 5 B b p bs w → Lib.BuilderAt 66 5 B b p bs (w.alloc o) := by
    rintro p ⟨hB, v, hbk, hown, hne⟩
    exact ⟨hB, v, (Lib.alloc_old w o b (lt_of_blk hbk)).trans hbk, hown.alloc o, hne⟩
  rcases h with h | h
  · exact .inl (key _ h)
  · exact .inr (key _ h)
theorem Bd.lt {B b : Nat} {bs : List Value} {w : World} (h : Bd B b bs w) : B ≤ b ∧ b < w.heap.size := by
  rcases h with h | h
  · exact ⟨h.1, h.lt⟩
  · exact ⟨h.1, h.lt⟩
theorem Bd.below {B b : Nat} {bs : List Value} {w W : World} (h : Bd B b bs w) (hb : Below w.heap.size w W) : Bd B b bs W := by
  have key : ∀ p, Lib.BuilderAt 66 5 B b p bs w → Lib.BuilderAt 66 5 B b p bs W := by
    rintro p ⟨hB, v, hbk, hown, hne⟩
    exact ⟨hB, v, (hb.block b (lt_of_blk hbk)).trans hbk, ownsRow_at hown (fun b _ hl => hb.block b hl), hne⟩
  rcases h with h | h
  · exact .inl (key _ h)
  · exact .inr (key _ h)
theorem kept_below {b : Nat} {w W : World} (hb : Below w.heap.size w W) : Lib.OthersKept 5 (some b) w W := fun k o h _ _ => (hb.block k (lt_of_blk h)).trans h
def WriteC (n : Nat) : Prop := ∀ (t : Tr), t.kids.size < n → okT t = true → ∀ (w : World) (B b : Nat) (l : List UInt8) (A : Option Addr) (c : Nat), TrP (· < B) w t A c → Bd B b (Lib.byteCells l) w → (l ++ textT t).length ≤ 1000000 → Env w B →
  Calls Tryd.prog 32 #[.pointer (some ⟨b, 0, none⟩), trV t A c] w fun e w' => e = .returned (.tuple #[]) ∧ Wrote B b (Lib.byteCells (l ++ textT t)) w w'
theorem write_step (n : Nat) (IH : WriteC n) : WriteC (n + 1) := by
  intro t ht hok w B b l A c hT hBd hlen hE
  have hok' := hok
  rw [okT] at hok'
  simp only [Bool.and_eq_true] at hok'
  obtain ⟨hn, hko⟩ := hok'
  have ho1 := (node_op hn).1
  have ho2 := (node_op hn).2.1
  have hl := has_leaf t.op hT.op
  have CL := fun w => Lib.hid (hasC 30 t.op w (by decide) hT.op _ hl)
  have HK := Lib.hid hko
  have HH := Lib.hid ht
  have HT := Lib.hid hT
  have HE := Lib.hid hE
  have HB := Lib.hid hBd
  have HL := Lib.hid hlen
  have hb1 := hBd.lt.1
  have hb2 := hBd.lt.2
  have hcap := hT.cap
  have hle := hT.le
  unfold maxLen at hcap
  clear hT ht hn hko hok hE hBd hlen hl
  obtain ⟨op, nn, kids⟩ := t
  simp only at *
  obtain ⟨o, rfl⟩ : ∃ o : Nat, op = (o : Int) := ⟨op.toNat, by omega⟩
  have hw := word_cell HE.out o (by omega)
  have hz0 : 0 < w.heap.size := by have := HE.out.wlt; omega
  have hwl := word_len (o : Int)
  have HW := Lib.hid hwl
  clear hwl
  go_enter Tryd.func32, Tryd.ntmps32
  go_wp2_with fail
  have hlen0 : l.length ≤ 1000000 := by have := HL.out; rw [List.length_append] at this; omega
  refine (writeString_any B b _ _ _ (HB.out.alloc _) (by have := HW.out; rw [Lib.byteCells_length]; simp [ByteArray.size]; omega) (by rw [World.size_alloc]; omega)).mono ?_
  rintro e w1 ⟨rfl, hW1⟩
  rw [sc_bc, bc_app] at hW1
  have O1 : OwnB w1 w.heap.size #[.int .i64 (o : Int), .int .i64 nn, .slice A kids.len c] 28 := OwnB.kept (OwnB.new rfl) hW1.kept (by omega) (by decide)
  have HW1 := Lib.hid hW1
  have hs1 : w.heap.size < w1.heap.size := lt_of_blk O1.blk
  obtain ⟨y1, x1, z1⟩ := O1.facts
  clear hW1
  go_wp2_with fail
  refine (writeByte_any B b _ _ _ HW1.out.bd (by have := HW.out; rw [Lib.byteCells_length, List.length_append]; omega) (by omega)).mono ?_
  rintro e w2 ⟨rfl, hW2⟩
  rw [show ([.int .u8 40] : List Value) = Lib.byteCells [40] from rfl, bc_app] at hW2
  have O2 : OwnB w2 w.heap.size #[.int .i64 (o : Int), .int .i64 nn, .slice A kids.len c] 28 := OwnB.kept O1 hW2.kept (by omega) (by decide)
  have HW2 := Lib.hid (Wrote.trans HW1.out hW2)
  have hs2 : w.heap.size < w2.heap.size := lt_of_blk O2.blk
  obtain ⟨y2, x2, z2⟩ := O2.facts
  clear hW2 HW1 y1 x1 O1
  go_wp2_with fail
  have hlow0 := Lib.hid ((Below.refl B w).alloc (show B ≤ w.heap.size by omega) (.cells #[.int .i64 (o : Int), .int .i64 nn, .slice A kids.len c] 28 (0, 0)))
  have hkp0 := Lib.hid (((Lib.OthersKept.refl 5 (some b) w).alloc (.cells #[.int .i64 (o : Int), .int .i64 nn, .slice A kids.len c] 28 (0, 0))))
  have HLH := Lib.hid (show l.length + (wordV (o : Int)).length + 22 + 100 ≤ 1001000 by have := HW.out; omega)
  cases hlf : decide (1 ≤ (o : Int) ∧ (o : Int) ≤ 4) with
  | true =>
    rw [hlf] at CL
    have HD := Lib.hid (show headT (o : Int) nn = wordV (o : Int) ++ (40 :: Lib.itoa nn) by rw [headT, leafB, hlf, if_pos rfl])
    have HI := Lib.hid (Lib.itoa_length_le nn HT.out.n.1 HT.out.n.2)
    clear hlf
    refine (CL _).out.mono ?_
    rintro e w3 ⟨rfl, rfl⟩
    go_wp2_with fail
    refine (format_any nn HT.out.n _ (HE.out.low (hlow0.out.trans HW2.out.low)).tab).mono ?_
    rintro e w4 ⟨rfl, hb4⟩
    have O4 : OwnB w4 w.heap.size #[.int .i64 (o : Int), .int .i64 nn, .slice A kids.len c] 28 := OwnB.call (G := []) O2 (Keeps.of_below hb4) (by simp)
    have hz4 := hb4.size
    have HB4 := Lib.hid hb4
    have HBd4 := Lib.hid (show Bd B b (Lib.byteCells (l ++ wordV (o : Int) ++ [40])) w4 from Bd.below HW2.out.bd hb4)
    clear hb4 y2 x2 z2
    go_wp2_with fail
    refine (writeString_any B b _ _ _ HBd4.out (by have h1 := HLH.out; have h2 := HI.out; rw [Lib.byteCells_length]; simp only [List.length_append, List.length_cons, List.length_nil, ByteArray.size, Array.size, List.length_nil] at h1 h2 ⊢; omega) (by omega)).mono ?_
    rintro e w5 ⟨rfl, hW5⟩
    rw [sc_bc, bc_app] at hW5
    have O5 : OwnB w5 w.heap.size #[.int .i64 (o : Int), .int .i64 nn, .slice A kids.len c] 28 := OwnB.kept O4 hW5.kept (by omega) (by decide)
    obtain ⟨y5, x5, z5⟩ := O5.facts
    have HW5 := Lib.hid (show Wrote B b (Lib.byteCells (l ++ headT (o : Int) nn)) w w5 from ⟨by rw [HD.out]; simpa [List.append_assoc] using hW5.bd, (hlow0.out.trans HW2.out.low).trans ((HB4.out.mono (by omega)).trans hW5.low), (hkp0.out.trans HW2.out.kept).trans ((kept_below HB4.out).trans hW5.kept)⟩)
    clear hW5 O4
    go_wp2_with fail
    go_loopw [4, 5, 25, 26, 27, 28, 29, 30, 31, 32, 33, 34, 35, 36, 37] (fun _ _ i _ _ _ _ _ _ _ _ _ _ _ _ wr => ∃ (k : Nat), k ≤ kids.len ∧ i = .int .i64 k ∧ Wrote B b (Lib.byteCells (l ++ (headT (o : Int) nn ++ joinC ((textsL kids).take k)))) w wr) (fun _ _ i _ _ _ _ _ _ _ _ _ _ _ _ _ => kids.len - (intOf i).toNat)
    case atStart => exact ⟨0, by omega, rfl, by rw [List.take_zero]; simpa [joinC] using HW5.out⟩
    case round =>
      obtain ⟨k, hk, rfl, hR⟩ := hrel
      have HR := Lib.hid hR
      have hbw := hR.bd.lt.2
      clear hR
      by_cases hlt : k < kids.len
      · obtain ⟨t2, bb, off, D, c2, hget, rfl, hbs, f0, f1, f2, hT2⟩ := (HT.out.low HR.out.low).kid.get hlt
        have HG := Lib.hid hget
        have HT2 := Lib.hid hT2
        clear hget hT2
        have hm : t2.kids.size < n := by
          have h1 := Trs.size_mem kids t2 (List.mem_of_getElem? HG.out)
          have h2 := HH.out
          omega
        have HO2 := Lib.hid (okL_mem kids t2 (List.mem_of_getElem? HG.out) HK.out)
        have HJ := Lib.hid (joinC_take _ _ _ (textsL_get _ _ _ HG.out))
        have HJ2 := Lib.hid (joinC_take_len (textsL kids) (k + 1))
        obtain ⟨op2, n2, kids2⟩ := t2
        simp only at f0 f1 f2 hm
        have hbb : bb < wr.heap.size := lt_of_cell f0
        by_cases hk0 : 0 < k
        · have HJ' := Lib.hid (show joinC ((textsL kids).take (k + 1)) = joinC ((textsL kids).take k) ++ (44 :: 32 :: textT ⟨op2, n2, kids2⟩) by rw [HJ.out, if_pos hk0])
          have HLn := Lib.hid (show (l ++ (headT (o : Int) nn ++ joinC ((textsL kids).take k)) ++ [44, 32] ++ textT ⟨op2, n2, kids2⟩).length ≤ 1000000 by
            have h1 := HL.out
            have h2 := HJ2.out
            rw [HJ'.out] at h2
            simp only [textT, List.length_append, List.length_cons, List.length_nil] at h1 h2 ⊢
            omega)
          clear HJ
          go_wp2_with fail
          refine (writeString_any B b _ _ _ (HR.out.bd.alloc _) (by have := HLn.out; rw [Lib.byteCells_length]; simp only [List.length_append, List.length_cons, List.length_nil, ByteArray.size, Array.size] at this ⊢; omega) (by rw [World.size_alloc]; omega)).mono ?_
          rintro e w6 ⟨rfl, hW6⟩
          rw [show Lib.strCells ⟨#[44, 32]⟩ = Lib.byteCells [44, 32] from rfl, bc_app] at hW6
          have O6 : OwnB w6 wr.heap.size #[.int .i64 op2, .int .i64 n2, .slice D kids2.len c2] 28 := OwnB.kept (OwnB.new rfl) hW6.kept (by omega) (by decide)
          have HW6 := Lib.hid hW6
          obtain ⟨y6, x6, z6⟩ := O6.facts
          have hlo6 := Lib.hid (show Below B wr w6 from ((Below.refl B wr).alloc (by omega) _).trans hW6.low)
          clear hW6
          go_wp2_with fail
          refine (IH ⟨op2, n2, kids2⟩ hm HO2.out _ B b _ D c2 (HT2.out.low hlo6.out) HW6.out.bd HLn.out (HE.out.low (HR.out.low.trans hlo6.out))).mono ?_
          rintro e w7 ⟨rfl, hW7⟩
          have HW7 := Lib.hid hW7
          clear hW7
          go_wp2_with fail
          go_roundw
          case rel =>
            refine ⟨k + 1, by omega, by go_num, ?_⟩
            have := HW7.out.bd
            refine ⟨?_, HR.out.low.trans (hlo6.out.trans HW7.out.low), HR.out.kept.trans (((Lib.OthersKept.refl _ _ wr).alloc _).trans (HW6.out.kept.trans HW7.out.kept))⟩
            rw [HJ'.out]
            simpa [List.append_assoc] using this
          case measure => simp [intOf]; omega
        · have hk00 : k = 0 := by omega
          have HJ' := Lib.hid (show joinC ((textsL kids).take (k + 1)) = joinC ((textsL kids).take k) ++ textT ⟨op2, n2, kids2⟩ by rw [HJ.out, if_neg hk0])
          have HLn := Lib.hid (show (l ++ (headT (o : Int) nn ++ joinC ((textsL kids).take k)) ++ textT ⟨op2, n2, kids2⟩).length ≤ 1000000 by
            have h1 := HL.out
            have h2 := HJ2.out
            rw [HJ'.out] at h2
            simp only [textT, List.length_append, List.length_cons, List.length_nil] at h1 h2 ⊢
            omega)
          have hlo6 := Lib.hid ((Below.refl B wr).alloc (show B ≤ wr.heap.size by omega) (.cells #[.int .i64 op2, .int .i64 n2, .slice D kids2.len c2] 28 (0, 0)))
          clear HJ hk00
          have hk01 : decide ((0 : Int) < (k : Int)) = false := by simp; omega
          go_wp2_with fail
          refine (IH ⟨op2, n2, kids2⟩ hm HO2.out _ B b _ D c2 (HT2.out.low hlo6.out) (HR.out.bd.alloc _) HLn.out (HE.out.low (HR.out.low.trans hlo6.out))).mono ?_
          rintro e w7 ⟨rfl, hW7⟩
          have HW7 := Lib.hid hW7
          clear hW7
          go_wp2_with fail
          go_roundw
          case rel =>
            refine ⟨k + 1, by omega, by go_num, ?_⟩
            have := HW7.out.bd
            refine ⟨?_, HR.out.low.trans (hlo6.out.trans HW7.out.low), HR.out.kept.trans (((Lib.OthersKept.refl _ _ wr).alloc _).trans HW7.out.kept)⟩
            rw [HJ'.out]
            simpa [List.append_assoc] using this
          case measure => simp [intOf]; omega
      · have hk2 : k = kids.len := by omega
        subst hk2
        go_wp2_with fail
        refine (writeByte_any B b _ _ _ HR.out.bd (by
          have h1 := HL.out
          have h2 := joinC_take_len (textsL kids) kids.len
          rw [Lib.byteCells_length]
          simp only [textT, List.length_append, List.length_cons, List.length_nil] at h1 h2 ⊢
          omega) (by omega)).mono ?_
        rintro e w8 ⟨rfl, hW8⟩
        have HW8 := Lib.hid (Wrote.trans HR.out hW8)
        clear hW8
        go_wp2_with fail
        go_end0
        refine ⟨rfl, ?_⟩
        have h8 := HW8.out
        rw [show ([.int .u8 41] : List Value) = Lib.byteCells [41] from rfl, bc_app, List.take_of_length_le (by rw [textsL_len]; exact Nat.le_refl _)] at h8
        rw [textT]
        simpa [List.append_assoc] using h8
  | false =>
    rw [hlf] at CL
    have HD := Lib.hid (show headT (o : Int) nn = wordV (o : Int) ++ [40] by rw [headT, leafB, hlf, if_neg (by decide)])
    clear hlf
    refine (CL _).out.mono ?_
    rintro e w3 ⟨rfl, rfl⟩
    have HW5 := Lib.hid (show Wrote B b (Lib.byteCells (l ++ headT (o : Int) nn)) w w2 from ⟨by rw [HD.out]; simpa [List.append_assoc] using HW2.out.bd, hlow0.out.trans HW2.out.low, hkp0.out.trans HW2.out.kept⟩)
    go_wp2_with fail
    go_loopw [4, 5, 25, 26, 27, 28, 29, 30, 31, 32, 33, 34, 35, 36, 37] (fun _ _ i _ _ _ _ _ _ _ _ _ _ _ _ wr => ∃ (k : Nat), k ≤ kids.len ∧ i = .int .i64 k ∧ Wrote B b (Lib.byteCells (l ++ (headT (o : Int) nn ++ joinC ((textsL kids).take k)))) w wr) (fun _ _ i _ _ _ _ _ _ _ _ _ _ _ _ _ => kids.len - (intOf i).toNat)
    case atStart => exact ⟨0, by omega, rfl, by rw [List.take_zero]; simpa [joinC] using HW5.out⟩
    case round =>
      obtain ⟨k, hk, rfl, hR⟩ := hrel
      have HR := Lib.hid hR
      have hbw := hR.bd.lt.2
      clear hR
      by_cases hlt : k < kids.len
      · obtain ⟨t2, bb, off, D, c2, hget, rfl, hbs, f0, f1, f2, hT2⟩ := (HT.out.low HR.out.low).kid.get hlt
        have HG := Lib.hid hget
        have HT2 := Lib.hid hT2
        clear hget hT2
        have hm : t2.kids.size < n := by
          have h1 := Trs.size_mem kids t2 (List.mem_of_getElem? HG.out)
          have h2 := HH.out
          omega
        have HO2 := Lib.hid (okL_mem kids t2 (List.mem_of_getElem? HG.out) HK.out)
        have HJ := Lib.hid (joinC_take _ _ _ (textsL_get _ _ _ HG.out))
        have HJ2 := Lib.hid (joinC_take_len (textsL kids) (k + 1))
        obtain ⟨op2, n2, kids2⟩ := t2
        simp only at f0 f1 f2 hm
        have hbb : bb < wr.heap.size := lt_of_cell f0
        by_cases hk0 : 0 < k
        · have HJ' := Lib.hid (show joinC ((textsL kids).take (k + 1)) = joinC ((textsL kids).take k) ++ (44 :: 32 :: textT ⟨op2, n2, kids2⟩) by rw [HJ.out, if_pos hk0])
          have HLn := Lib.hid (show (l ++ (headT (o : Int) nn ++ joinC ((textsL kids).take k)) ++ [44, 32] ++ textT ⟨op2, n2, kids2⟩).length ≤ 1000000 by
            have h1 := HL.out
            have h2 := HJ2.out
            rw [HJ'.out] at h2
            simp only [textT, List.length_append, List.length_cons, List.length_nil] at h1 h2 ⊢
            omega)
          clear HJ
          go_wp2_with fail
          refine (writeString_any B b _ _ _ (HR.out.bd.alloc _) (by have := HLn.out; rw [Lib.byteCells_length]; simp only [List.length_append, List.length_cons, List.length_nil, ByteArray.size, Array.size] at this ⊢; omega) (by rw [World.size_alloc]; omega)).mono ?_
          rintro e w6 ⟨rfl, hW6⟩
          rw [show Lib.strCells ⟨#[44, 32]⟩ = Lib.byteCells [44, 32] from rfl, bc_app] at hW6
          have O6 : OwnB w6 wr.heap.size #[.int .i64 op2, .int .i64 n2, .slice D kids2.len c2] 28 := OwnB.kept (OwnB.new rfl) hW6.kept (by omega) (by decide)
          have HW6 := Lib.hid hW6
          obtain ⟨y6, x6, z6⟩ := O6.facts
          have hlo6 := Lib.hid (show Below B wr w6 from ((Below.refl B wr).alloc (by omega) _).trans hW6.low)
          clear hW6
          go_wp2_with fail
          refine (IH ⟨op2, n2, kids2⟩ hm HO2.out _ B b _ D c2 (HT2.out.low hlo6.out) HW6.out.bd HLn.out (HE.out.low (HR.out.low.trans hlo6.out))).mono ?_
          rintro e w7 ⟨rfl, hW7⟩
          have HW7 := Lib.hid hW7
          clear hW7
          go_wp2_with fail
          go_roundw
          case rel =>
            refine ⟨k + 1, by omega, by go_num, ?_⟩
            have := HW7.out.bd
            refine ⟨?_, HR.out.low.trans (hlo6.out.trans HW7.out.low), HR.out.kept.trans (((Lib.OthersKept.refl _ _ wr).alloc _).trans (HW6.out.kept.trans HW7.out.kept))⟩
            rw [HJ'.out]
            simpa [List.append_assoc] using this
          case measure => simp [intOf]; omega
        · have hk00 : k = 0 := by omega
          have HJ' := Lib.hid (show joinC ((textsL kids).take (k + 1)) = joinC ((textsL kids).take k) ++ textT ⟨op2, n2, kids2⟩ by rw [HJ.out, if_neg hk0])
          have HLn := Lib.hid (show (l ++ (headT (o : Int) nn ++ joinC ((textsL kids).take k)) ++ textT ⟨op2, n2, kids2⟩).length ≤ 1000000 by
            have h1 := HL.out
            have h2 := HJ2.out
            rw [HJ'.out] at h2
            simp only [textT, List.length_append, List.length_cons, List.length_nil] at h1 h2 ⊢
            omega)
          have hlo6 := Lib.hid ((Below.refl B wr).alloc (show B ≤ wr.heap.size by omega) (.cells #[.int .i64 op2, .int .i64 n2, .slice D kids2.len c2] 28 (0, 0)))
          clear HJ hk00
          have hk01 : decide ((0 : Int) < (k : Int)) = false := by simp; omega
          go_wp2_with fail
          refine (IH ⟨op2, n2, kids2⟩ hm HO2.out _ B b _ D c2 (HT2.out.low hlo6.out) (HR.out.bd.alloc _) HLn.out (HE.out.low (HR.out.low.trans hlo6.out))).mono ?_
          rintro e w7 ⟨rfl, hW7⟩
          have HW7 := Lib.hid hW7
          clear hW7
          go_wp2_with fail
          go_roundw
          case rel =>
            refine ⟨k + 1, by omega, by go_num, ?_⟩
            have := HW7.out.bd
            refine ⟨?_, HR.out.low.trans (hlo6.out.trans HW7.out.low), HR.out.kept.trans (((Lib.OthersKept.refl _ _ wr).alloc _).trans HW7.out.kept)⟩
            rw [HJ'.out]
            simpa [List.append_assoc] using this
          case measure => simp [intOf]; omega
      · have hk2 : k = kids.len := by omega
        subst hk2
        go_wp2_with fail
        refine (writeByte_any B b _ _ _ HR.out.bd (by
          have h1 := HL.out
          have h2 := joinC_take_len (textsL kids) kids.len
          rw [Lib.byteCells_length]
          simp only [textT, List.length_append, List.length_cons, List.length_nil] at h1 h2 ⊢
          omega) (by omega)).mono ?_
        rintro e w8 ⟨rfl, hW8⟩
        have HW8 := Lib.hid (Wrote.trans HR.out hW8)
        clear hW8
        go_wp2_with fail
        go_end0
        refine ⟨rfl, ?_⟩
        have h8 := HW8.out
        rw [show ([.int .u8 41] : List Value) = Lib.byteCells [41] from rfl, bc_app, List.take_of_length_le (by rw [textsL_len]; exact Nat.le_refl _)] at h8
        rw [textT]
        simpa [List.append_assoc] using h8
theorem write_any : ∀ n, WriteC n := by
  intro n
  induction n with
  | zero => intro t h; exact absurd h (by omega)
  | succ n ih => exact write_step n ih
end Go.Proofs.YtgbgjecmamkdaaaDoor
