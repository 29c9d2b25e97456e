/-
  The page's Parse.
-/
import Derived.Test.YtgbgjecmamkdaaaDoorTrQe
import Derived.Test.YtgbgjecmamkdaaaDoorTrQf
namespace Go.Proofs.YtgbgjecmamkdaaaDoor
open Go.RowKit Go.Maps
set_option linter.unusedVariables false
set_option linter.unusedSimpArgs false
set_option maxRecDepth 100000
set_option maxHeartbeats 2000000

theorem fin_al {w w3 : World} (h : Below w.heap.size w w3) (v0 v1 v2 : Value) (o : Obj) : Below w.heap.size w ((((w3.setCell ⟨w.heap.size, 0, none⟩ v0).setCell ⟨w.heap.size, 1, none⟩ v1).setCell ⟨w.heap.size, 2, none⟩ v2).alloc o) :=
  ((Keeps.of_below (G := []) (fin_bl h v0 v1 v2)).alloc o).below
theorem rparse_any (s : List UInt8) (w : World) (hlen : s.length < 4294967281) :
    Calls Tryd.prog 21 #[.string ⟨s.toArray⟩] w (ParsePost (.bool true) (.bool false) s w) := by
  have hb0 := (Below.refl w.heap.size w).alloc (Nat.le_refl _) (.cells #[.int .i64 0, .int .i64 0, .slice none 0 0] 28)
  have hb1 := hb0.alloc hb0.size (.cells (RdC s 0) 78)
  have CT := Lib.hid (q_all 201 ((w.alloc (.cells #[.int .i64 0, .int .i64 0, .slice none 0 0] 28)).alloc (.cells (RdC s 0) 78)) (w.heap.size + 1) s 0 (by decide) (by decide) (by decide) (OwnB.new (by simp)) hlen)
  have HB1 := Lib.hid hb1
  clear hb0 hb1
  go_enter Tryd.func21, Tryd.ntmps21
  go_wp2_with fail
  refine CT.out.mono ?_
  rintro e w2 ⟨b, t, A, c, rest', n', rfl, hO, hK, hl, hy, hbk⟩
  have hz2 := hK.size
  simp only [World.size_alloc] at hz2
  have O2 : OwnB w2 w.heap.size #[.int .i64 0, .int .i64 0, .slice none 0 0] 28 := OwnB.call (G := [w.heap.size + 1]) ((OwnB.new rfl).alloc _) hK (by simp)
  have hK2 : Keeps [] w w2 := (Keeps.of_below HB1.out).then_ hK (by simp)
  have HK2 := Lib.hid hK2.below
  have HBk := Lib.hid (fun (t0 : Tr) (r : List UInt8) (k1 : okT t0 = true) (k2 : wfT t0) (k3 : s = textT t0 ++ r) (k4 : (0 : Int) + ((t0.kids.size + 1 : Nat) : Int) ≤ 200) => hbk t0 r k1 k2 k3 k4)
  obtain ⟨y2, x2, z2⟩ := O2.facts
  have HO2 := Lib.hid O2
  have HY := Lib.hid hy
  obtain ⟨yg, xg, zg⟩ := hO.facts
  have HOg := Lib.hid hO
  clear hO hK hK2 hbk O2 hy CT
  cases b with
  | false =>
    go_wp2_with fail
    refine bodyPost_ret (v := .tuple #[trV ⟨0, 0, .nil⟩ none 0, .bool false]) (by simp [results, Tryd.results21, go_sem, Trs.len, *]) rfl ?_
    refine ⟨fin_al HK2.out _ _ _ _, .inr ⟨?_, rfl⟩⟩
    intro t0 h0
    have h1 := says_size h0
    obtain ⟨h2, h3, h4, h5⟩ := HBk.out t0 [] h1.1 h0.2.1 (by rw [List.append_nil]; exact h0.2.2.symm) (by omega)
    cases h2
  | true =>
    by_cases hr : rest' = []
    · subst hr
      obtain ⟨k1, k2, k3, k4, k5, k6, k7⟩ := HY.out rfl
      have hTr : TrR (w2.alloc (.cells #[.int .i64 t.op, .int .i64 t.n, .slice A t.kids.len c] 28)) t A c := TrR.low ⟨k1, k2, k3, k4, k5.kid⟩ ((Below.refl w2.heap.size w2).alloc (Nat.le_refl _) _)
      have HTr := Lib.hid hTr
      have HKd := Lib.hid (k5.keep (W := w2.alloc (.cells #[.int .i64 t.op, .int .i64 t.n, .slice A t.kids.len c] 28)) (Q := fun k => w.heap.size < k) (fun p v _ h => below_some ((Below.refl w2.heap.size w2).alloc (Nat.le_refl _) _) p v h) (fun b hb _ => by simp only [World.size_alloc] at hb; omega))
      have HW := Lib.hid (show wfT t from ⟨k2, hTr.kid.wf⟩)
      have CC := Lib.hid (tree_any t _ A c hTr)
      have HB3 := Lib.hid (HK2.out.alloc HK2.out.size (.cells #[.int .i64 t.op, .int .i64 t.n, .slice A t.kids.len c] 28))
      clear k1 k2 k3 k4 k5 k6 k7 hTr HY
      cases hok : okB t with
      | false =>
        rw [hok] at CC
        go_wp2_with fail
        refine CC.out.mono ?_
        rintro e w3 ⟨rfl, hb3⟩
        have O3 : OwnB w3 w.heap.size #[.int .i64 0, .int .i64 0, .slice none 0 0] 28 := OwnB.call (G := []) (HO2.out.alloc _) (Keeps.of_below hb3) (by simp)
        obtain ⟨y3, x3, z3⟩ := O3.facts
        have HB4 := Lib.hid (HB3.out.trans (hb3.mono HB3.out.size))
        clear hb3 O3
        go_wp2_with fail
        refine bodyPost_ret (v := .tuple #[trV ⟨0, 0, .nil⟩ none 0, .bool false]) (by simp [results, Tryd.results21, go_sem, Trs.len, *]) rfl ?_
        refine ⟨fin_bl HB4.out _ _ _, .inr ⟨?_, rfl⟩⟩
        intro t0 h0
        have h1 := says_size h0
        obtain ⟨h2, h3, h4, h5⟩ := HBk.out t0 [] h1.1 h0.2.1 (by rw [List.append_nil]; exact h0.2.2.symm) (by omega)
        subst h3
        rw [h0.1] at hok
        cases hok
      | true =>
        rw [hok] at CC
        have hlt : (textT t).length ≤ 1000000 := by
          have h1 := text_len t HTr.out.n HTr.out.kid.wf
          have h2 := many_size t hok
          have h3 := many_ok t hok
          omega
        have CX := fun w1 (hb : Below (w2.alloc (.cells #[.int .i64 t.op, .int .i64 t.n, .slice A t.kids.len c] 28)).heap.size (w2.alloc (.cells #[.int .i64 t.op, .int .i64 t.n, .slice A t.kids.len c] 28)) w1) => Lib.hid (rtext_all _ t (Nat.lt_succ_self _) (ok_countT t 0 hok) hlt w1 A c (HTr.out.low hb))
        go_wp2_with fail
        refine CC.out.mono ?_
        rintro e w3 ⟨rfl, hb3⟩
        have O3 : OwnB w3 w.heap.size #[.int .i64 0, .int .i64 0, .slice none 0 0] 28 := OwnB.call (G := []) (HO2.out.alloc _) (Keeps.of_below hb3) (by simp)
        have O4 : OwnB w3 w2.heap.size #[.int .i64 t.op, .int .i64 t.n, .slice A t.kids.len c] 28 := OwnB.call (G := []) (OwnB.new rfl) (Keeps.of_below hb3) (by simp)
        obtain ⟨y3, x3, z3⟩ := O3.facts
        obtain ⟨y4, x4, z4⟩ := O4.facts
        have HB4 := Lib.hid (HB3.out.trans (hb3.mono HB3.out.size))
        have HT4 := Lib.hid (HTr.out.low hb3)
        have HK4 := Lib.hid (HKd.out.keep (W := w3) (Q := fun k => w.heap.size < k) (fun p v _ h => below_some hb3 p v h) (fun b hb _ => hb))
        have CX3 := CX w3 hb3
        have HO3 := Lib.hid O3
        have HO4 := Lib.hid O4
        clear hb3 O3 O4 CX CC
        by_cases hs : textT t = s
        · subst hs
          go_wp2_with fail
          refine CX3.out.mono ?_
          rintro e w4 ⟨rfl, hb4⟩
          have O5 : OwnB w4 w.heap.size #[.int .i64 0, .int .i64 0, .slice none 0 0] 28 := OwnB.call (G := []) HO3.out (Keeps.of_below hb4) (by simp)
          obtain ⟨y5, x5, z5⟩ := O5.facts
          have O6 : OwnB w4 w2.heap.size #[.int .i64 t.op, .int .i64 t.n, .slice A t.kids.len c] 28 := OwnB.call (G := []) HO4.out (Keeps.of_below hb4) (by simp)
          obtain ⟨y6, x6, z6⟩ := O6.facts
          have HB5 := Lib.hid (HB4.out.trans (hb4.mono HB4.out.size))
          have HT5 := Lib.hid (HT4.out.low hb4)
          have HK5 := Lib.hid (HK4.out.keep (W := w4) (Q := fun k => w.heap.size < k) (fun p v _ h => below_some hb4 p v h) (fun b hb _ => hb))
          clear hb4 O5 O6
          go_wp2_with fail
          refine bodyPost_ret (v := .tuple #[trV t A c, .bool true]) (by simp [results, Tryd.results21, go_sem, *]) rfl ?_
          exact ⟨fin_bl HB5.out _ _ _, .inl ⟨t, A, c, ⟨hok, HW.out, rfl⟩, fun t0 h0 => (HBk.out t0 [] (says_size h0).1 h0.2.1 (by rw [List.append_nil]; exact h0.2.2.symm) (by have := (says_size h0).2; omega)).2.1.symm, rfl, fin_tr (w := w) _ _ _ HT5.out HK5.out⟩⟩
        · have hs2 : (textT t == s) = false := by simpa using hs
          go_wp2_with fail
          refine CX3.out.mono ?_
          rintro e w4 ⟨rfl, hb4⟩
          have O5 : OwnB w4 w.heap.size #[.int .i64 0, .int .i64 0, .slice none 0 0] 28 := OwnB.call (G := []) HO3.out (Keeps.of_below hb4) (by simp)
          obtain ⟨y5, x5, z5⟩ := O5.facts
          have O6 : OwnB w4 w2.heap.size #[.int .i64 t.op, .int .i64 t.n, .slice A t.kids.len c] 28 := OwnB.call (G := []) HO4.out (Keeps.of_below hb4) (by simp)
          obtain ⟨y6, x6, z6⟩ := O6.facts
          have HB5 := Lib.hid (HB4.out.trans (hb4.mono HB4.out.size))
          have HT5 := Lib.hid (HT4.out.low hb4)
          have HK5 := Lib.hid (HK4.out.keep (W := w4) (Q := fun k => w.heap.size < k) (fun p v _ h => below_some hb4 p v h) (fun b hb _ => hb))
          clear hb4 O5 O6
          go_wp2_with fail
          refine bodyPost_ret (v := .tuple #[trV ⟨0, 0, .nil⟩ none 0, .bool false]) (by simp [results, Tryd.results21, go_sem, Trs.len, *]) rfl ?_
          refine ⟨fin_bl HB5.out _ _ _, .inr ⟨?_, rfl⟩⟩
          intro t0 h0
          have h1 := says_size h0
          obtain ⟨h2, h3, h4, h5⟩ := HBk.out t0 [] h1.1 h0.2.1 (by rw [List.append_nil]; exact h0.2.2.symm) (by omega)
          subst h3
          exact hs h0.2.2
    · have hr2 : (rest' == []) = false := by simpa using hr
      go_wp2_with fail
      refine bodyPost_ret (v := .tuple #[trV ⟨0, 0, .nil⟩ none 0, .bool false]) (by simp [results, Tryd.results21, go_sem, Trs.len, *]) rfl ?_
      refine ⟨fin_al HK2.out _ _ _ _, .inr ⟨?_, rfl⟩⟩
      intro t0 h0
      have h1 := says_size h0
      obtain ⟨h2, h3, h4, h5⟩ := HBk.out t0 [] h1.1 h0.2.1 (by rw [List.append_nil]; exact h0.2.2.symm) (by omega)
      exact hr h4
end Go.Proofs.YtgbgjecmamkdaaaDoor
