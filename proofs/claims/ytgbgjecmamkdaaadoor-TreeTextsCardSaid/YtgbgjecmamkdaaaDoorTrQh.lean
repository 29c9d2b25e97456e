/-
  Strings that are copied.
-/
import Derived.Test.YtgbgjecmamkdaaaDoorTrArg
import Derived.Test.YtgbgjecmamkdaaaDoorTrCp
namespace Go.Proofs.YtgbgjecmamkdaaaDoor
open Go.RowKit
set_option linter.unusedVariables false
set_option linter.unusedSimpArgs false
set_option maxRecDepth 100000
set_option maxHeartbeats 2000000

def sv (s : List UInt8) : Value := .string ⟨s.toArray⟩
theorem infoStr : (Tryd.prog.info? 9).map (fun i => (i.zero, i.size, i.bytes)) = some (some (.string ⟨#[]⟩), 1, 16) := by kernel_rfl
theorem sv_one (l : List (List UInt8)) : ∀ u ∈ l.map sv, u.oneCell' = true := by
  intro u hu
  obtain ⟨s, _, rfl⟩ := List.mem_map.1 hu
  rfl
theorem wpList_appendS {ops : Array Oper} {rest : List Oper} {o : Oper} {a : Act} {Q : Exit → Act → World → Prop} {W : World} (hgd : o.guard = none) (sO xO : Operand)
    (ho : o.op = .call { callee := .builtin .append, args := #[sO, xO], argTypes := #[23, 23] })
    {lo n m : Nat} {av : Option Addr} {cap gb cb : Nat} {xs zs : List (List UInt8)} (hs : a.eval sO = .slice av n cap) (hx : a.eval xO = .slice (some ⟨gb, 0, none⟩) m cb)
    (hrow : W.ownsRow lo 9 1 (.slice av n cap) n (xs.map sv)) (hb : OwnB W gb (zs.map sv).toArray 9) (hzl : zs.length = m) (hm : 0 < m) (hlo : lo ≤ W.heap.size) (hlen : n + m ≤ 1000000)
    (hK : ∀ g cap' w', w'.ownsRow lo 9 1 (.slice (some ⟨g, 0, none⟩) (n + m) cap') (n + m) ((xs ++ zs).map sv) → W.grownBy w' (Value.slice av n cap).ownBlock →
      wpList Tryd.prog ops Q rest (a.put o.dst (.slice (some ⟨g, 0, none⟩) (n + m) cap')) w') :
    wpList Tryd.prog ops Q (o :: rest) a W := by
  obtain ⟨i0, hinf, hz⟩ : ∃ i, Tryd.prog.info? 9 = some i ∧ (i.zero, i.size, i.bytes) = (some (.string ⟨#[]⟩), 1, 16) := by
    have := infoStr
    cases hq : Tryd.prog.info? 9 with
    | none => simp [hq] at this
    | some i => exact ⟨i, rfl, by simpa [hq] using this⟩
  simp only [Prod.mk.injEq] at hz
  obtain ⟨hz0, hz1, hz2⟩ := hz
  refine wpList_append_lies W hgd sO xO 23 ho lo 9 i0 _ 1 16 Tryd.underlying23 hinf hz0 hz1 hz2 rfl (by decide) _ n (xs.map sv) hs hrow ⟨gb, 0, none⟩ m cb (zs.map sv) hx (by simp [hzl])
    (World.news_of_block hb.blk) (sv_one zs) hm (by unfold maxLen; omega) (by omega) hlo _ rfl ?_
  intro g cap' w' hown' hgr hg hgw
  exact hK g cap' w' (by rw [List.map_append]; exact hown') hgr
theorem copyStrings_any (ss : List (List UInt8)) (w : World) (B : Option Addr) (d : Nat) (h1 : ss.length ≤ d) (h2 : d ≤ maxLen) (h3 : ss.length ≤ 6000) (hS : StrsR w ss B) :
    Calls Tryd.prog 17 #[.slice B ss.length d] w fun e w' => ∃ (la : Option Addr) (lc : Nat), e = .returned (.slice la ss.length lc) ∧ w'.ownsRow w.heap.size 9 1 (.slice la ss.length lc) ss.length (ss.map sv) ∧ Below w.heap.size w w' := by
  have HS := Lib.hid hS
  unfold maxLen at h2
  clear hS
  go_enter Tryd.func17, Tryd.ntmps17
  go_wp2_with fail
  go_loopw [3, 4, 5, 6, 7, 8, 9, 10, 11, 12, 13, 14, 15, 16, 17] (fun lv i _ _ _ _ _ _ _ _ _ _ _ _ _ wr => ∃ (k : Nat) (la : Option Addr) (lc : Nat), k ≤ ss.length ∧ i = .int .i64 (k : Int) ∧ lv = .slice la k lc ∧ wr.ownsRow w.heap.size 9 1 (.slice la k lc) k ((ss.take k).map sv) ∧ Below w.heap.size w wr) (fun _ i _ _ _ _ _ _ _ _ _ _ _ _ _ _ => ss.length - (intOf i).toNat)
  case atStart => exact ⟨0, none, 0, Nat.zero_le _, rfl, rfl, World.ownsRow_nil _ _ _ _, Below.refl _ _⟩
  case round =>
    obtain ⟨k, la, lc, hk, rfl, rfl, hR, hb⟩ := hrel
    have HB := Lib.hid hb
    have HR := Lib.hid hR
    clear hR
    by_cases hlt : k < ss.length
    · have hkd : decide ((k : Int) < (ss.length : Int)) = true := by simp; omega
      obtain ⟨b, off, rfl, hcs⟩ := (HS.out.low hb) (by omega)
      obtain ⟨s, hs⟩ : ∃ s, ss[k]? = some s := ⟨_, List.getElem?_eq_getElem hlt⟩
      have f0 := hcs k s hs
      have hlo := hb.size
      have hr1 := ownsRow_at (w' := wr.alloc (.cells ([s].map sv).toArray 9 (0, 0))) HR.out (fun b hb hl => ((Below.refl wr.heap.size wr).alloc (Nat.le_refl _) _).block b hl)
      have hnews : OwnB (wr.alloc (.cells ([s].map sv).toArray 9 (0, 0))) wr.heap.size ([s].map sv).toArray 9 := OwnB.new rfl
      have hlo2 : w.heap.size ≤ (wr.alloc (.cells ([s].map sv).toArray 9 (0, 0))).heap.size := by rw [World.size_alloc]; omega
      have HB2 := Lib.hid (HB.out.alloc hlo (.cells ([s].map sv).toArray 9 (0, 0)))
      have htk : ss.take (k + 1) = ss.take k ++ [s] := by
        rw [List.take_succ_eq_append_getElem hlt]
        congr 2
        exact Option.some.inj ((List.getElem?_eq_getElem hlt).symm.trans hs)
      have HTk := Lib.hid htk
      have hkl : k + 1 ≤ 1000000 := by omega
      clear hcs hb hs htk
      go_wp2_with (at_builtin; refine wpList_appendS rfl _ _ rfl rfl rfl hr1 hnews rfl (by decide) hlo2 hkl ?_; intro g2 cap' w2 hrow3 hgr)
      have HB3 : Below w.heap.size w w2 := below_grown HB2.out hlo2 hr1 hgr
      go_roundw
      case measure => simp [intOf]; omega
      case rel => exact ⟨k + 1, some ⟨g2, 0, none⟩, cap', by omega, by simp, rfl, by rw [HTk.out]; exact hrow3, HB3⟩
    · have hk2 : k = ss.length := by omega
      subst hk2
      go_wp2_with fail
      go_ret
      have hr := HR.out
      rw [List.take_length] at hr
      exact ⟨la, lc, rfl, hr, HB.out⟩
end Go.Proofs.YtgbgjecmamkdaaaDoor
