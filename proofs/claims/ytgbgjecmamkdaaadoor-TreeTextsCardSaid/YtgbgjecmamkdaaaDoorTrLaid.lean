/-
  The tables that the rows list, laid: a world in which they lie, and what a listed table is.
-/
import Derived.Test.YtgbgjecmamkdaaaDoorRows
import Derived.Test.YtgbgjecmamkdaaaDoorTrWr
import Derived.Lib.LaidU8
import Derived.Lib.LaidIn
import Derived.LaidLaws
import Derived.Handed
import Derived.ProofKit
import Derived.KernelRfl
import Derived.Laws.IdiomArrays
import Derived.OpenShut
namespace Go.Proofs.YtgbgjecmamkdaaaDoor
open Go.ChangeShapes Go.WideShapes Go.ChangeAt Go.RowKit
set_option linter.unusedVariables false
set_option maxRecDepth 100000
theorem Tryd.own : ownKnob Tryd.prog.godebug = none := by kernel_rfl
theorem Tryd.laidOut : laidOutB Tryd.prog = true := by kernel_rfl
theorem tab_of {W : World} {l : List (String × DataW Unit)} (h : laidMet Tryd.prog l W) (hm : ("internal/strconv.uint64pow10", (Rows.laid_internal_strconv_uint64pow10 : DataW Unit)) ∈ l) : Lib.TabIs Tryd.prog W "internal/strconv.uint64pow10" .u64 Lib.pow10Tab := by
  obtain ⟨g', t', cs, fuel, p, hg', ht', hvar, hd⟩ := Lib.laidMet.reads h hm
  obtain rfl := Option.some.inj ((show Tryd.prog.globalNamed "internal/strconv.uint64pow10" = some 1 by kernel_rfl).symm.trans hg')
  obtain rfl := Option.some.inj ((show (Tryd.prog.globals[1]?).map (·.type) = some 132 by kernel_rfl).symm.trans ht')
  have e : (Rows.laid_internal_strconv_uint64pow10 : DataW Unit) = Lib.tabData .u64 Lib.pow10Tab := by kernel_rfl
  rw [e] at hd
  unfold Lib.TabIs
  rw [hvar, ← Lib.cells_of_tab Tryd.underlying132 Tryd.underlying55 (by kernel_rfl) (by kernel_rfl) hd]
theorem str_is {H : Type} {enc : TypeId × Value → H} {w : World} {base : Nat} {sp : Nat → Bool} {held : Bool} {m : Nat} {c : Value} {y : DataW H × List MemPlace} {l : List UInt8} (h : DataW.trod enc Tryd.prog w base sp held m 9 [c] = some y) (hy : y.1 = .lit (.string l)) : c = .string ⟨l.toArray⟩ := by
  obtain ⟨s, h1, h2, _⟩ := DataW.trod_string Tryd.underlying9 h
  obtain rfl : c = .string s := by simpa using h1
  rw [h2] at hy
  have e : s.data.toList = l := by simpa using hy
  rw [← e]
theorem words37 : wordsL.length = 37 := by decide
theorem words_of {W : World} {l : List (String × DataW Unit)} (h : laidMet Tryd.prog l W) (hm : ("gantlet/tree.words", (Rows.laid_gantlet_tree_words : DataW Unit)) ∈ l) : ∃ st fz, W.heap[0]? = some (.cells wordC st fz) := by
  obtain ⟨g', t', cs, fuel, p, hg', ht', hvar, hd⟩ := Lib.laidMet.reads h hm
  obtain rfl := Option.some.inj ((show Tryd.prog.globalNamed "gantlet/tree.words" = some 0 by kernel_rfl).symm.trans hg')
  obtain rfl := Option.some.inj ((show (Tryd.prog.globals[0]?).map (·.type) = some 89 by kernel_rfl).symm.trans ht')
  have hc1 : Tryd.prog.cellsOf 9 = 1 := by kernel_rfl
  have hc37 : Tryd.prog.cellsOf 89 = 37 := by kernel_rfl
  have e : (Rows.laid_gantlet_tree_words : DataW Unit) = .agg (wordsL.map fun s => .lit (.string s)) := rfl
  rw [e] at hd
  obtain ⟨xs, n, hfn, hx, hl, hxl, hget⟩ := DataW.trod_array Tryd.underlying89 hd
  rw [hc37] at hl
  have hx1 : (wordsL.map fun s => (DataW.lit (.string s) : DataW Unit)) = xs.map (·.1) := by
    have := congrArg Prod.fst hx
    simpa using this
  have hcs : cs = wordC := by
    apply Array.ext'
    refine List.ext_getElem? fun i => ?_
    have hw : wordC.toList = wordsL.map fun s => Value.string ⟨s.toArray⟩ := by simp [wordC]
    rw [hw, List.getElem?_map]
    by_cases hi : i < 37
    · have h1 := hget i hi
      rw [hc1] at h1
      have hv : cs.toList[i]? = some (cs.toList[i]'(by omega)) := List.getElem?_eq_getElem (by omega)
      have hone : (cs.toList.drop (i * 1)).take 1 = [cs.toList[i]'(by omega)] := by
        rw [Nat.mul_one, List.drop_eq_getElem_cons (by omega)]
        rfl
      rw [hone, List.getElem?_eq_getElem (by omega)] at h1
      have hwl : i < wordsL.length := by rw [words37]; omega
      have h2 := congrArg (fun l => l[i]?) hx1
      simp only [List.getElem?_map, List.getElem?_eq_getElem hwl, List.getElem?_eq_getElem (show i < xs.length by omega), Option.map_some, Option.some.injEq] at h2
      rw [hv, str_is h1 h2.symm, List.getElem?_eq_getElem hwl]
      rfl
    · rw [List.getElem?_eq_none (by omega), List.getElem?_eq_none (by rw [words37]; omega)]
      rfl
  unfold World.var? at hvar
  rw [hg', Option.bind_some] at hvar
  split at hvar
  · rename_i cs' t fz hb
    exact ⟨t, fz, by rw [hb, ← hcs]; simp only [Option.some.injEq] at hvar; rw [hvar]⟩
  · cases hvar
theorem env_of {W : World} {l : List (String × DataW Unit)} (h : laidMet Tryd.prog l W) (h1 : ("internal/strconv.uint64pow10", (Rows.laid_internal_strconv_uint64pow10 : DataW Unit)) ∈ l) (h2 : ("gantlet/tree.words", (Rows.laid_gantlet_tree_words : DataW Unit)) ∈ l) : Env W W.heap.size := by
  obtain ⟨st, fz, hw⟩ := words_of h h2
  have ht := tab_of h h1
  refine ⟨⟨st, fz, hw⟩, ht, lt_of_blk hw, ?_⟩
  unfold Lib.TabIs World.var? at ht
  rw [show Tryd.prog.globalNamed "internal/strconv.uint64pow10" = some 1 by kernel_rfl, Option.bind_some] at ht
  split at ht
  · rename_i hb
    exact lt_of_blk hb
  · cases ht
/-- There is an input that fits, where a listed variable is a pointer. -/
theorem witness_ref {H : Type} {enc : TypeId × Value → H} {C : Checked} {f : FuncId} {fn : Func} {s : ChangeSpec} {conds : List PathCond} {apart : Bool} {X : World → Array Value → Prop} (w0 : World) (args : Array Value) (fuel : Nat)
    (hv : (w0.forCall (fun _ _ => 0) ⟨#[], args, []⟩).variablesRefB C.prog = true)
    (hr : ((w0.forCall (fun _ _ => 0) ⟨#[], args, []⟩).heap.toList.drop C.prog.globals.size).take ((begin C.prog (fun _ _ => 0) default).world.heap.size - C.prog.globals.size) = (begin C.prog (fun _ _ => 0) default).world.heap.toList.drop C.prog.globals.size)
    (hok : Input.okWideB C.prog (w0.forCall (fun _ _ => 0) ⟨#[], args, []⟩) f ⟨#[], args, []⟩ = true)
    (hpre : s.preB enc C.prog fn conds apart (w0.forCall (fun _ _ => 0) ⟨#[], args, []⟩).memory args fuel = true)
    (hsz : s.sizedB enc C.prog fn apart (w0.forCall (fun _ _ => 0) ⟨#[], args, []⟩).memory args fuel = true)
    (hx : X (w0.forCall (fun _ _ => 0) ⟨#[], args, []⟩).memory args) :
    ∃ (w : World) (tape : Tape) (i : Input), w.os = w0.os ∧ (w.forCall tape i).Shaped C.prog ∧ i.vars = [] ∧ Input.okWide C.prog (w.forCall tape i) .any w.heap.size f i ∧
      ((s.pre enc C.prog fn conds apart (w.forCall tape i).memory i.args ∧ X (w.forCall tape i).memory i.args) ∧ sizedMet enc C.prog fn (OpenSpec.ofChange s) apart (w.forCall tape i).memory i.args) ∧ ({ modest := false } : Assume).holds C.prog (lone (Frame.enter C.prog f i.args .normal) [] (w.forCall tape i)) := by
  refine ⟨w0, fun _ _ => 0, ⟨#[], args, []⟩, rfl, World.shaped_of_RefB hv hr, (Input.okWide_of_okWideB (base := 0) hok).1, (Input.okWide_of_okWideB hok).2, ⟨⟨ChangeSpec.pre_of_preB hpre, hx⟩, sizedMet_of_sizedB hsz⟩, ?_⟩
  simp only [Assume.holds]
  exact ⟨by simp, by simp, fun _ => Modest.zero, by simp, by simp⟩
end Go.Proofs.YtgbgjecmamkdaaaDoor
