/-
  The project's Parse.
-/
import Derived.Test.YtgbgjecmamkdaaaDoorTrPd
import Derived.Test.YtgbgjecmamkdaaaDoorTrText
namespace Go.Proofs.YtgbgjecmamkdaaaDoor
open Go.RowKit Go.Maps
set_option linter.unusedVariables false
set_option linter.unusedSimpArgs false
set_option maxRecDepth 100000
set_option maxHeartbeats 2000000

/-- A tree that may be, whose text this is. -/
def Says (s : List UInt8) (t : Tr) : Prop := okB t = true ∧ wfT t ∧ textT t = s
/-- What parsing does; v is what is told of a tree, and z what is told of none. -/
def ParsePost (yes no : Value) (s : List UInt8) (w : World) (e : Ending) (w' : World) : Prop :=
  Below w.heap.size w w' ∧ ((∃ t A c, Says s t ∧ (∀ t', Says s t' → t' = t) ∧ e = .returned (.tuple #[trV t A c, yes]) ∧ TrR w' t A c) ∨ ((∀ t, ¬ Says s t) ∧ e = .returned (.tuple #[trV ⟨0, 0, .nil⟩ none 0, no])))
theorem says_size {s : List UInt8} {t : Tr} (h : Says s t) : okT t = true ∧ t.kids.size + 1 ≤ 200 := by
  refine ⟨ok_countT t 0 h.1, ?_⟩
  have h1 := many_size t h.1
  have h2 := (many_ok t h.1).2.1
  omega
theorem fin_tr {w w3 : World} {b : Nat} {t : Tr} {A : Option Addr} {c : Nat} (v0 v1 v2 : Value) (h : TrR w3 t A c) (hk : KidP (fun k => b < k) w3 t.kids A) :
    TrR (((w3.setCell ⟨b, 0, none⟩ v0).setCell ⟨b, 1, none⟩ v1).setCell ⟨b, 2, none⟩ v2) t A c :=
  ⟨h.op, h.n, h.le, h.cap, (hk.keep (Q := fun _ => True) (fun p v hp h => keeps_some (Keeps.au (G := [b])) p v h (by simp; omega)) (fun _ _ _ => trivial)).kid⟩
theorem fin_bl {w w3 : World} (h : Below w.heap.size w w3) (v0 v1 v2 : Value) : Below w.heap.size w (((w3.setCell ⟨w.heap.size, 0, none⟩ v0).setCell ⟨w.heap.size, 1, none⟩ v1).setCell ⟨w.heap.size, 2, none⟩ v2) :=
  ((((Keeps.of_below (G := []) h).setCell ⟨w.heap.size, 0, none⟩ (.inl (Nat.le_refl _)) v0).setCell ⟨w.heap.size, 1, none⟩ (.inl (Nat.le_refl _)) v1).setCell ⟨w.heap.size, 2, none⟩ (.inl (Nat.le_refl _)) v2).below
theorem parse_any (s : List UInt8) (w : World) (hE : EnvP w w.heap.size) (hlen : s.length < 4294967281) :
    Calls Tryd.prog 20 #[.string ⟨s.toArray⟩] w (ParsePost (.int .i64 0) (.int .i64 1) s w) := by
  have hb0 := (Below.refl w.heap.size w).alloc (Nat.le_refl _) (.cells #[.int .i64 0, .int .i64 0, .slice none 0 0] 28)
  have CM := Lib.hid (ops_map _ ((hE.env.low hb0).mono hb0.size))
  have HE := Lib.hid hE
  have HB0 := Lib.hid hb0
  clear hE hb0
  go_enter Tryd.func20, Tryd.ntmps20
  go_wp2_with fail
  refine CM.out.mono ?_
  rintro e w1 ⟨rfl, hM, hb1⟩
  simp only [World.size_alloc] at hM hb1
  have O1 : OwnB w1 w.heap.size #[.int .i64 0, .int .i64 0, .slice none 0 0] 28 := ⟨(hb1.block _ (by omega)).trans (OwnB.new rfl).blk⟩
  have hz1 := hb1.size
  simp only [World.size_alloc] at hz1
  have hB1 : Below w.heap.size w w1 := HB0.out.trans (hb1.mono (by omega))
  have hb2 := (Below.refl w1.heap.size w1).alloc (Nat.le_refl _) (.cells #[.string ⟨s.toArray⟩, .int .i64 200, .map (some (w.heap.size + 1))] 74)
  have hB2 : Below w.heap.size w (w1.alloc (.cells #[.string ⟨s.toArray⟩, .int .i64 200, .map (some (w.heap.size + 1))] 74)) := hB1.trans (hb2.mono hB1.size)
  have CT := Lib.hid (tree_all 201 _ w1.heap.size (w.heap.size + 1) w.heap.size s 200 (by decide) (by decide) (by decide) ⟨OwnB.new rfl, hM.keep (hb2.block _ hM.lt)⟩ (HE.out.low hB2) hlen (by omega) hB2.size)
  have HO1 := Lib.hid O1
  have HB2 := Lib.hid hB2
  clear hM hb1 O1 hb2 hB2 CM
  go_wp2_with fail
  refine CT.out.mono ?_
  rintro e w2 ⟨t, A, c, rest', room', rfl, hT⟩
  have O2 : OwnB w2 w.heap.size #[.int .i64 0, .int .i64 0, .slice none 0 0] 28 := OwnB.call (HO1.out.alloc _) hT.rd.kp (by simp; omega)
  have hz2 := hT.rd.kp.size
  simp only [World.size_alloc] at hz2
  have hK : Keeps [] w w2 := (Keeps.of_below HB2.out).then_ hT.rd.kp (by simp; omega)
  have hB3 := (hK.alloc (.cells #[.int .i64 t.op, .int .i64 t.n, .slice A t.kids.len c] 28)).below
  have hTr : TrR (w2.alloc (.cells #[.int .i64 t.op, .int .i64 t.n, .slice A t.kids.len c] 28)) t A c := TrR.low ⟨hT.op, hT.n, hT.le, hT.cap, hT.kid.kid⟩ ((Below.refl w2.heap.size w2).alloc (Nat.le_refl _) _)
  have HTr := Lib.hid hTr
  have HKd := Lib.hid (hT.kid.keep (W := w2.alloc (.cells #[.int .i64 t.op, .int .i64 t.n, .slice A t.kids.len c] 28)) (Q := fun k => w.heap.size < k) (fun p v _ h => below_some ((Below.refl w2.heap.size w2).alloc (Nat.le_refl _) _) p v h) (fun b hb _ => by simp only [World.size_alloc] at hb; omega))
  have HBk := Lib.hid hT.back
  have HI := Lib.hid (show I64 t.n from hT.n)
  have HB3 := Lib.hid hB3
  have HO2 := Lib.hid O2
  have hE3 := ((HE.out.low hB3).env.mono hB3.size)
  have HW := Lib.hid (show wfT t from ⟨hT.n, hTr.kid.wf⟩)
  clear hT hK hTr hB3 O2
  cases hok : okB t with
  | true =>
    have CX := Lib.hid (text_ok t hok _ A c HTr.out hE3)
    clear hE3
    by_cases hs : textT t = s
    · subst hs
      go_wp2_with fail
      refine CX.out.mono ?_
      rintro e w3 ⟨rfl, hb3⟩
      have O3 : OwnB w3 w.heap.size #[.int .i64 0, .int .i64 0, .slice none 0 0] 28 := OwnB.call (G := []) (HO2.out.alloc _) (Keeps.of_below hb3) (by simp)
      obtain ⟨y3, x3, z3⟩ := O3.facts
      have O4 : OwnB w3 w2.heap.size #[.int .i64 t.op, .int .i64 t.n, .slice A t.kids.len c] 28 := OwnB.call (G := []) (OwnB.new rfl) (Keeps.of_below hb3) (by simp)
      obtain ⟨y4, x4, z4⟩ := O4.facts
      have HB4 := Lib.hid (HB3.out.trans (hb3.mono HB3.out.size))
      have HT4 := Lib.hid (HTr.out.low hb3)
      have HK4 := Lib.hid (HKd.out.keep (W := w3) (Q := fun k => w.heap.size < k) (fun p v _ h => below_some hb3 p v h) (fun b hb _ => hb))
      clear hb3 O3 O4
      go_wp2_with fail
      refine bodyPost_ret (v := .tuple #[trV t A c, .int .i64 0]) (by simp [results, Tryd.results20, go_sem, *]) rfl ?_
      exact ⟨fin_bl HB4.out _ _ _, .inl ⟨t, A, c, ⟨hok, HW.out, rfl⟩, fun t0 h0 => (HBk.out t0 [] (says_size h0).1 h0.2.1 (by rw [List.append_nil]; exact h0.2.2.symm) (by have := (says_size h0).2; omega)).1.symm, rfl, fin_tr (w := w) _ _ _ HT4.out HK4.out⟩⟩
    · have hs2 : (textT t == s) = false := by simpa using hs
      go_wp2_with fail
      refine CX.out.mono ?_
      rintro e w3 ⟨rfl, hb3⟩
      have O3 : OwnB w3 w.heap.size #[.int .i64 0, .int .i64 0, .slice none 0 0] 28 := OwnB.call (G := []) (HO2.out.alloc _) (Keeps.of_below hb3) (by simp)
      obtain ⟨y3, x3, z3⟩ := O3.facts
      have O4 : OwnB w3 w2.heap.size #[.int .i64 t.op, .int .i64 t.n, .slice A t.kids.len c] 28 := OwnB.call (G := []) (OwnB.new rfl) (Keeps.of_below hb3) (by simp)
      obtain ⟨y4, x4, z4⟩ := O4.facts
      have HB4 := Lib.hid (HB3.out.trans (hb3.mono HB3.out.size))
      have HT4 := Lib.hid (HTr.out.low hb3)
      have HK4 := Lib.hid (HKd.out.keep (W := w3) (Q := fun k => w.heap.size < k) (fun p v _ h => below_some hb3 p v h) (fun b hb _ => hb))
      clear hb3 O3 O4
      go_wp2_with fail
      refine bodyPost_ret (v := .tuple #[trV ⟨0, 0, .nil⟩ none 0, .int .i64 1]) (by simp [results, Tryd.results20, go_sem, Trs.len, *]) rfl ?_
      refine ⟨fin_bl HB4.out _ _ _, .inr ⟨?_, rfl⟩⟩
      intro t0 h0
      have h1 := says_size h0
      obtain ⟨h2, _, _⟩ := HBk.out t0 [] h1.1 h0.2.1 (by rw [List.append_nil]; exact h0.2.2.symm) (by omega)
      subst h2
      exact hs h0.2.2
  | false =>
    · have CX := Lib.hid (text_no t hok _ A c HTr.out)
      clear hE3
      go_wp2_with fail
      refine CX.out.mono ?_
      rintro e w3 ⟨rfl, hb3⟩
      have O3 : OwnB w3 w.heap.size #[.int .i64 0, .int .i64 0, .slice none 0 0] 28 := OwnB.call (G := []) (HO2.out.alloc _) (Keeps.of_below hb3) (by simp)
      obtain ⟨y3, x3, z3⟩ := O3.facts
      have O4 : OwnB w3 w2.heap.size #[.int .i64 t.op, .int .i64 t.n, .slice A t.kids.len c] 28 := OwnB.call (G := []) (OwnB.new rfl) (Keeps.of_below hb3) (by simp)
      obtain ⟨y4, x4, z4⟩ := O4.facts
      have HB4 := Lib.hid (HB3.out.trans (hb3.mono HB3.out.size))
      have HT4 := Lib.hid (HTr.out.low hb3)
      have HK4 := Lib.hid (HKd.out.keep (W := w3) (Q := fun k => w.heap.size < k) (fun p v _ h => below_some hb3 p v h) (fun b hb _ => hb))
      clear hb3 O3 O4
      go_wp2_with fail
      refine bodyPost_ret (v := .tuple #[trV ⟨0, 0, .nil⟩ none 0, .int .i64 1]) (by simp [results, Tryd.results20, go_sem, Trs.len, *]) rfl ?_
      refine ⟨fin_bl HB4.out _ _ _, .inr ⟨?_, rfl⟩⟩
      intro t0 h0
      have h1 := says_size h0
      obtain ⟨h2, _, _⟩ := HBk.out t0 [] h1.1 h0.2.1 (by rw [List.append_nil]; exact h0.2.2.symm) (by omega)
      subst h2
      rw [h0.1] at hok
      cases hok
end Go.Proofs.YtgbgjecmamkdaaaDoor
