/-
  'Heavy': how much is played.
-/
import Derived.Test.YtgbgjecmamkdaaaDoorTrWt
import Derived.Test.YtgbgjecmamkdaaaDoorTrArg
namespace Go.Proofs.YtgbgjecmamkdaaaDoor
open Go.RowKit
set_option linter.unusedVariables false
set_option linter.unusedSimpArgs false
set_option maxRecDepth 100000
set_option maxHeartbeats 1000000

/-- The second loop's sum. -/
structure Sum2 (r : Int) (s : Nat) (q : Int) : Prop where
  lo : 0 ≤ q
  hi : q ≤ 281475293380608
  eq : q < 1048576 → r < 1048576 ∧ q = r + s
/-- The first one's. -/
structure Sum1 (base s : Nat) (r : Int) : Prop where
  lo : 0 ≤ r
  hi : r ≤ 281475293380608
  eq : r < 1048576 → r = base + s
theorem take_sum {ss : List (List UInt8)} {j : Nat} {s : List UInt8} (h : ss[j]? = some s) : ((ss.take (j + 1)).map List.length).sum = ((ss.take j).map List.length).sum + s.length := by
  obtain ⟨hk, rfl⟩ := List.getElem?_eq_some_iff.1 h
  rw [List.take_succ_eq_append_getElem hk, List.map_append, List.sum_append]
  simp only [List.map_cons, List.map_nil, List.sum_cons, List.sum_nil, Nat.add_zero]
def HeavyPost (x : Trs) (ss : List (List UInt8)) (w : World) (e : Ending) (w' : World) : Prop := ∃ b : Bool, e = .returned (.bool b) ∧ (b = false → x.size ≤ 6000 ∧ (ss.map List.length).sum ≤ 6000 ∧ ss.length ≤ 6000) ∧ Below w.heap.size w w'
theorem heavy_any (x : Trs) (ss : List (List UInt8)) (w : World) (A B : Option Addr) (c d : Nat) (hA : AskR w x ss A c B d) :
    Calls Tryd.prog 5 #[askV x ss A c B d] w (HeavyPost x ss w) := by
  have hx1 := hA.len
  have hs1 := hA.slen
  have HA := Lib.hid hA
  clear hA
  go_enter Tryd.func5, Tryd.ntmps5
  go_wp2_with fail
  go_loopw [3, 4, 13, 14, 15, 16, 17, 18, 19, 20, 21, 22, 23, 24, 25, 26, 27, 28, 29, 30, 31] (fun rv i _ _ _ _ _ _ _ _ _ _ _ _ _ _ _ _ _ _ _ wr => ∃ (k : Nat) (r : Int), k ≤ x.len ∧ rv = .int .i64 r ∧ i = .int .i64 k ∧ Sum1 (ss.length + x.len) (Trs.ofL (x.toL.take k)).size r ∧ OwnB wr w.heap.size #[.slice A x.len c, .slice B ss.length d] 25 ∧ Below w.heap.size w wr) (fun _ i _ _ _ _ _ _ _ _ _ _ _ _ _ _ _ _ _ _ _ _ => x.len - (intOf i).toNat)
  case atStart => exact ⟨0, _, by omega, rfl, rfl, ⟨by omega, by omega, fun _ => by simp [Trs.ofL, Trs.size]⟩, OwnB.au, (Keeps.au (G := [])).below⟩
  case round =>
    obtain ⟨k, r, hk, rfl, rfl, hR, hO, hb⟩ := hrel
    have HB1 := Lib.hid hb
    have HR1 := Lib.hid hR
    have hr0 := hR.lo
    have hr1 := hR.hi
    obtain ⟨y1, x1, z1⟩ := hO.facts
    have HO := Lib.hid hO
    clear hR hO
    by_cases hlt : k < x.len
    · by_cases hr : r < 1048576
      · obtain ⟨t2, b, off, D, c2, hget, hAe, hbs, f0, f1, f2, hT2⟩ := (HA.out.kid.low hb).get hlt
        subst hAe
        have HG := Lib.hid hget
        have HT2 := Lib.hid hT2
        clear hget hT2 hb
        have HC := fun w1 (hb : Below wr.heap.size wr w1) => Lib.hid (weight_any _ t2 (Nat.lt_succ_self _) 300 (by decide) (by decide) w1 D c2 (HT2.out.low hb))
        go_wp2_with fail
        refine (HC _ (Keeps.au (G := [])).below).out.mono ?_
        rintro e w2 ⟨q, rfl, hq, hb2⟩
        have hq0 := hq.lo
        have hq1 := hq.hi
        have HQ := Lib.hid hq
        have HB2 := Lib.hid hb2
        clear hb2 hq
        go_wp2_with fail
        go_roundw
        case rel =>
          refine ⟨k + 1, r + q, by omega, rfl, by go_num, ⟨by omega, by omega, fun h => ?_⟩, OwnB.call (G := []) HO.out (Keeps.of_below HB2.out) (by simp), ?_⟩
          · have h1 := HR1.out.eq hr
            have h2 := HQ.out.eq (by omega)
            rw [ofL_take_succ HG.out, Trs.size_snoc, h1, h2]
            omega
          · exact ((Keeps.of_below (G := []) HB1.out).then_ (H := []) ((Keeps.au (G := [])).trans (Keeps.of_below HB2.out)) (by simp)).below
        case measure => simp [intOf]; omega
      · have HR := Lib.hid (show r < 1048576 → r = ((ss.length + x.len : Nat) : Int) + x.size from fun h => absurd h hr)
        clear hb HR1
        go_wp2_with fail
        go_loopw [3, 5, 32, 33, 34, 35, 36, 37, 38, 39, 40, 41, 42, 43, 44, 45, 46, 47, 48, 49, 50] (fun rv i _ _ _ _ _ _ _ _ _ _ _ _ _ _ _ _ _ _ _ wr => ∃ (j : Nat) (q : Int), j ≤ ss.length ∧ rv = .int .i64 q ∧ i = .int .i64 j ∧ Sum2 r ((ss.take j).map List.length).sum q ∧ OwnB wr w.heap.size #[.slice A x.len c, .slice B ss.length d] 25 ∧ Below w.heap.size w wr) (fun _ i _ _ _ _ _ _ _ _ _ _ _ _ _ _ _ _ _ _ _ _ => ss.length - (intOf i).toNat)
        case atStart => exact ⟨0, r, by omega, rfl, rfl, ⟨hr0, hr1, fun h => ⟨h, by simp⟩⟩, HO.out, HB1.out⟩
        case round =>
          obtain ⟨j, q, hj, rfl, rfl, hQ, hO2, hb2⟩ := hrel
          have HB2 := Lib.hid hb2
          have HQ := Lib.hid hQ
          have hq0 := hQ.lo
          have hq1 := hQ.hi
          obtain ⟨y2, x2, z2⟩ := hO2.facts
          have HO2 := Lib.hid hO2
          clear hQ hO2
          by_cases hjl : j < ss.length
          · by_cases hq : q < 1048576
            · obtain ⟨b1, off1, hBe, hcs⟩ := (HA.out.strs.low hb2) (by omega)
              obtain ⟨s, hs⟩ : ∃ s, ss[j]? = some s := ⟨_, List.getElem?_eq_getElem hjl⟩
              subst hBe
              have hc := hcs j s hs
              have hsl := HA.out.few s (List.mem_of_getElem? hs)
              have HS := Lib.hid hs
              clear hcs hs hb2
              go_wp2_with fail
              go_roundw
              case rel =>
                refine ⟨j + 1, q + s.length, by omega, ?_, by go_num, ⟨by omega, by omega, fun h => ?_⟩, HO2.out, HB2.out⟩
                · simp [ByteArray.size]
                · obtain ⟨h1, h2⟩ := HQ.out.eq hq
                  refine ⟨h1, ?_⟩
                  rw [h2, take_sum HS.out]
                  omega
              case measure => simp [intOf]; omega
            · clear hb2
              go_wp2_with fail
              go_ret
              exact ⟨_, rfl, fun h => by exfalso; revert h; simp; omega, HB2.out⟩
          · have hj2 : j = ss.length := by omega
            subst hj2
            clear hb2
            go_wp2_with fail
            go_ret
            refine ⟨_, rfl, fun h => ?_, HB2.out⟩
            have hq6 : q ≤ 6000 := by revert h; simp
            obtain ⟨h1, h2⟩ := HQ.out.eq (by omega)
            have h3 := HR.out h1
            rw [List.take_length] at h2
            exact ⟨by omega, by omega, by omega⟩
    · have hk2 : k = x.len := by omega
      subst hk2
      have HR := Lib.hid (show r < 1048576 → r = ((ss.length + x.len : Nat) : Int) + x.size from fun h => by
        have := HR1.out.eq h
        rwa [List.take_of_length_le (by rw [Trs.toL_len]; exact Nat.le_refl _), Trs.ofL_toL] at this)
      clear hb HR1
      go_wp2_with fail
      go_loopw [3, 5, 32, 33, 34, 35, 36, 37, 38, 39, 40, 41, 42, 43, 44, 45, 46, 47, 48, 49, 50] (fun rv i _ _ _ _ _ _ _ _ _ _ _ _ _ _ _ _ _ _ _ wr => ∃ (j : Nat) (q : Int), j ≤ ss.length ∧ rv = .int .i64 q ∧ i = .int .i64 j ∧ Sum2 r ((ss.take j).map List.length).sum q ∧ OwnB wr w.heap.size #[.slice A x.len c, .slice B ss.length d] 25 ∧ Below w.heap.size w wr) (fun _ i _ _ _ _ _ _ _ _ _ _ _ _ _ _ _ _ _ _ _ _ => ss.length - (intOf i).toNat)
      case atStart => exact ⟨0, r, by omega, rfl, rfl, ⟨hr0, hr1, fun h => ⟨h, by simp⟩⟩, HO.out, HB1.out⟩
      case round =>
        obtain ⟨j, q, hj, rfl, rfl, hQ, hO2, hb2⟩ := hrel
        have HB2 := Lib.hid hb2
        have HQ := Lib.hid hQ
        have hq0 := hQ.lo
        have hq1 := hQ.hi
        obtain ⟨y2, x2, z2⟩ := hO2.facts
        have HO2 := Lib.hid hO2
        clear hQ hO2
        by_cases hjl : j < ss.length
        · by_cases hq : q < 1048576
          · obtain ⟨b1, off1, hBe, hcs⟩ := (HA.out.strs.low hb2) (by omega)
            obtain ⟨s, hs⟩ : ∃ s, ss[j]? = some s := ⟨_, List.getElem?_eq_getElem hjl⟩
            subst hBe
            have hc := hcs j s hs
            have hsl := HA.out.few s (List.mem_of_getElem? hs)
            have HS := Lib.hid hs
            clear hcs hs hb2
            go_wp2_with fail
            go_roundw
            case rel =>
              refine ⟨j + 1, q + s.length, by omega, ?_, by go_num, ⟨by omega, by omega, fun h => ?_⟩, HO2.out, HB2.out⟩
              · simp [ByteArray.size]
              · obtain ⟨h1, h2⟩ := HQ.out.eq hq
                refine ⟨h1, ?_⟩
                rw [h2, take_sum HS.out]
                omega
            case measure => simp [intOf]; omega
          · clear hb2
            go_wp2_with fail
            go_ret
            exact ⟨_, rfl, fun h => by exfalso; revert h; simp; omega, HB2.out⟩
        · have hj2 : j = ss.length := by omega
          subst hj2
          clear hb2
          go_wp2_with fail
          go_ret
          refine ⟨_, rfl, fun h => ?_, HB2.out⟩
          have hq6 : q ≤ 6000 := by revert h; simp
          obtain ⟨h1, h2⟩ := HQ.out.eq (by omega)
          have h3 := HR.out h1
          rw [List.take_length] at h2
          exact ⟨by omega, by omega, by omega⟩
end Go.Proofs.YtgbgjecmamkdaaaDoor
