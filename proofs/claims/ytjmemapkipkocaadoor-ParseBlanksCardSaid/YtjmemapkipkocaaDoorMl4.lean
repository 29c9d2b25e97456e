/-
  Texts that lead to it, 4: PsR3 PsR4 PsF1 PsTok PsF2 PsBk PsR5 PsT7 PsT6 PsT8 PsT9 PsS4 PsS5 PsS2 PsElse.
-/
import Derived.Test.YtjmemapkipkocaaDoorMl3
import Derived.LoopTactic
import Derived.Outline
import Derived.Lib.Hide
import Derived.WalkSpells
import Derived.Maps.OwnOps
import Derived.Carry
import Derived.Deep.LoopGhost
import Derived.Laws.OwnMore

/-
  Two lists of tokens that differ in positions alone: statements.
-/
namespace Go.Proofs.YtjmemapkipkocaaDoor
open Go.RowKit
set_option linter.unusedVariables false
set_option linter.unusedSimpArgs false

/-- Two outcomes of a choice. -/
def OO {α β : Type} (R : α → α → Prop) (S : β → β → Prop) : Option (Option (α × β)) → Option (Option (α × β)) → Prop
  | none, none => True
  | some none, some none => True
  | some (some a), some (some b) => R a.1 b.1 ∧ S a.2 b.2
  | _, _ => False
theorem OO.ofOR {α β : Type} {R : α → α → Prop} {S : β → β → Prop} {o o' : Option (α × β)} (h : OR R S o o') : OO R S (o.map some) (o'.map some) := by
  cases o with
  | none => cases o' with
    | none => trivial
    | some b => cases h
  | some a => cases o' with
    | none => cases h
    | some b => exact h
theorem OO.bindS {α β γ δ : Type} {R : α → α → Prop} {S : β → β → Prop} {R2 : γ → γ → Prop} {S2 : δ → δ → Prop} {o o' : Option (α × β)} {k k' : α × β → Option (Option (γ × δ))} (h : OR R S o o') (hk : ∀ a b a' b', R a a' → S b b' → OO R2 S2 (k (a, b)) (k' (a', b'))) : OO R2 S2 (o.bind k) (o'.bind k') := by
  cases o with
  | none => cases o' with
    | none => trivial
    | some b => cases h
  | some a => cases o' with
    | none => cases h
    | some b => exact hk _ _ _ _ h.1 h.2
section
variable {l l' : List Tok} {Q : Int → Int → Prop} {r r' : P.Rec} (T : Tw l l' Q) (I : RR l Q r r')
include T I
theorem RR.short (d : Int) (s s' : St) (m m' : Sm) (hm : M0 m) (hm' : M0 m') (h : SR l Q s s') : OO MR (SR l Q) (P.short l r d s m) (P.short l' r' d s' m') := by
  obtain ⟨p, rfl⟩ := hm
  obtain ⟨p', rfl⟩ := hm'
  unfold P.short
  have hn := h.next T
  have hv := hn.value T
  have hk := hn.kindT T 1
  simp only [h.is T, hn.is T, hv.1, hk.1]
  split
  · exact ⟨MR.mk rfl rfl, hv.2.need T _⟩
  split
  · exact ⟨MR.mk rfl rfl, hn.need T _⟩
  split
  · exact ⟨MR.mk rfl rfl, hn.need T _⟩
  split
  · exact ⟨MR.mk rfl rfl, hn.need T _⟩
  split
  · exact ⟨MR.mk rfl rfl, (hn.kind T _).need T _⟩
  split
  · split
    · exact ⟨MR.mk rfl rfl, hn.need T _⟩
    · exact OO.bindS (I.expr _ _ _ hn) fun a b a' b' ha hb => ⟨MR.mk (EsR.one ha) rfl, hb.need T _⟩
  · trivial
theorem RR.ifS (d : Int) (s s' : St) (m m' : Sm) (hm : M0 m) (hm' : M0 m') (h : SR l Q s s') : OR MR (SR l Q) (P.ifS l r d s m) (P.ifS l' r' d s' m') := by
  obtain ⟨p, rfl⟩ := hm
  obtain ⟨p', rfl⟩ := hm'
  unfold P.ifS
  refine (RR.asked T I d _ _ h).bind fun a b a' b' ha hb => (RR.body T I d _ _ hb).bind fun c b2 c' b2' hc hb2 => ?_
  simp only [hb2.is T]
  split
  · exact (I.stmt _ _ _ (hb2.next T)).bind fun e b3 e' b3' he hb3 => ⟨MR.mk ha (MsR.snoc hc he), hb3⟩
  · exact ⟨MR.mk ha hc, hb2⟩
theorem RR.whileS (op d : Int) (s s' : St) (m m' : Sm) (hm : M0 m) (hm' : M0 m') (h : SR l Q s s') : OR MR (SR l Q) (P.whileS l r op d s m) (P.whileS l' r' op d s' m') := by
  obtain ⟨p, rfl⟩ := hm
  obtain ⟨p', rfl⟩ := hm'
  unfold P.whileS
  exact (RR.asked T I d _ _ h).bind fun a b a' b' ha hb => (RR.body T I d _ _ hb).bind fun c b2 c' b2' hc hb2 => ⟨MR.mk ha hc, hb2⟩
theorem RR.forS (d : Int) (s s' : St) (m m' : Sm) (hm : M0 m) (hm' : M0 m') (h : SR l Q s s') : OR MR (SR l Q) (P.forS l r d s m) (P.forS l' r' d s' m') := by
  obtain ⟨p, rfl⟩ := hm
  obtain ⟨p', rfl⟩ := hm'
  unfold P.forS
  exact (RR.course T I d _ _ h).bind fun a b a' b' ha hb => (RR.body T I d _ _ hb).bind fun c b2 c' b2' hc hb2 => ⟨MR.mk ha hc, hb2⟩
theorem RR.doS (d : Int) (s s' : St) (m m' : Sm) (hm : M0 m) (hm' : M0 m') (h : SR l Q s s') : OR MR (SR l Q) (P.doS l r d s m) (P.doS l' r' d s' m') := by
  obtain ⟨p, rfl⟩ := hm
  obtain ⟨p', rfl⟩ := hm'
  unfold P.doS
  exact (RR.body T I d _ _ h).bind fun a b a' b' ha hb => (RR.asked T I d _ _ (hb.need T _)).bind fun c b2 c' b2' hc hb2 => ⟨MR.mk hc ha, hb2.need T _⟩
theorem RR.holding (d : Int) (s s' : St) (m m' : Sm) (hm : M0 m) (hm' : M0 m') (h : SR l Q s s') : OO MR (SR l Q) (P.holding l r d s m) (P.holding l' r' d s' m') := by
  unfold P.holding
  have hn := h.next T
  simp only [h.is T]
  split
  · exact OO.ofOR (RR.ifS T I _ _ _ _ _ hm hm' hn)
  split
  · exact OO.ofOR (RR.whileS T I _ _ _ _ _ _ hm hm' hn)
  split
  · exact OO.ofOR (RR.whileS T I _ _ _ _ _ _ hm hm' hn)
  split
  · exact OO.ofOR (RR.forS T I _ _ _ _ _ hm hm' hn)
  split
  · exact OO.ofOR (RR.doS T I _ _ _ _ _ hm hm' hn)
  · trivial
theorem RR.loc (d : Int) (s s' : St) (m m' : Sm) (hm : M0 m) (hm' : M0 m') (h : SR l Q s s') : OR MR (SR l Q) (P.loc l r d s m) (P.loc l' r' d s' m') := by
  obtain ⟨p, rfl⟩ := hm
  obtain ⟨p', rfl⟩ := hm'
  unfold P.loc
  have ht := h.typ T
  have hk := ht.2.kindT T 1
  have hg := (ht.2.kind T 1).length T
  simp only [ht.1, hk.1, hg.1, hg.2.is T]
  split
  · exact (RR.told T I _ _ _ (hg.2.next T)).bind fun a b a' b' ha hb => ⟨MR.mk ha rfl, hb⟩
  · exact ⟨MR.mk rfl rfl, hg.2.need T _⟩
theorem RR.wordless (d : Int) (s s' : St) (m m' : Sm) (hm : M0 m) (hm' : M0 m') (h : SR l Q s s') : OR MR (SR l Q) (P.wordless l r d s m) (P.wordless l' r' d s' m') := by
  unfold P.wordless
  have hn := h.next T
  simp only [h.is T, (h.tok T).1, (h.tok T).2.1, h.snd T]
  split
  · obtain ⟨p, rfl⟩ := hm
    obtain ⟨p', rfl⟩ := hm'
    exact ⟨MR.mk rfl rfl, hn.need T _⟩
  split
  · exact RR.loc T I _ _ _ _ _ hm hm' h
  obtain ⟨p, rfl⟩ := hm
  obtain ⟨p', rfl⟩ := hm'
  split
  · exact (RR.block T I _ _ _ h).bind fun a b a' b' ha hb => ⟨MR.mk rfl ha, hb⟩
  split
  · exact ⟨MR.mk rfl rfl, hn⟩
  · exact (RR.told T I _ _ _ h).bind fun a b a' b' ha hb => ⟨MR.mk ha rfl, hb⟩
theorem RR.stmt1 (d : Int) (s s' : St) (h0 : SR l Q s s') : OR MR (SR l Q) (P.stmt l r d s) (P.stmt l' r' d s') := by
  unfold P.stmt P.stmt1
  have h := h0.begin T d
  have hm : M0 { sm0 with pos := (P.tok l (P.begin l d s)).pos } := ⟨_, rfl⟩
  have hm' : M0 { sm0 with pos := (P.tok l' (P.begin l' d s')).pos } := ⟨_, rfl⟩
  have h1 := RR.short T I d _ _ _ _ hm hm' h
  have h2 := RR.holding T I d _ _ _ _ hm hm' h
  have h3 := RR.wordless T I d _ _ _ _ hm hm' h
  revert h1 h2
  generalize P.short l r d (P.begin l d s) _ = o1
  generalize P.short l' r' d (P.begin l' d s') _ = o1'
  generalize P.holding l r d (P.begin l d s) _ = o2
  generalize P.holding l' r' d (P.begin l' d s') _ = o2'
  intro h1 h2
  cases o1 with
  | none => cases o1' with
    | none => trivial
    | some b => cases h1
  | some a => cases o1' with
    | none => cases a <;> cases h1
    | some b =>
      cases a with
      | some x => cases b with
        | some y => exact h1
        | none => cases h1
      | none => cases b with
        | some y => cases h1
        | none =>
          cases o2 with
          | none => cases o2' with
            | none => trivial
            | some b => cases h2
          | some a => cases o2' with
            | none => cases a <;> cases h2
            | some b =>
              cases a with
              | some x => cases b with
                | some y => exact h2
                | none => cases h2
              | none => cases b with
                | some y => cases h2
                | none => exact h3
theorem RR.step : RR l Q ⟨P.expr l r, P.cond l r, P.bin r, P.binL l r, P.unary l r, P.postL l r, P.argL l r, P.stmt l r, P.blkL l r⟩ ⟨P.expr l' r', P.cond l' r', P.bin r', P.binL l' r', P.unary l' r', P.postL l' r', P.argL l' r', P.stmt l' r', P.blkL l' r'⟩ :=
  ⟨fun d s s' h => RR.expr1 T I d s s' h, fun d s s' h => RR.cond1 T I d s s' h, fun lv d s s' h => RR.bin1 T I lv d s s' h, fun lv d e e' s s' he h => RR.binL1 T I lv d e e' s s' he h, fun d s s' h => RR.unary1 T I d s s' h,
    fun d e e' s s' he h => RR.postL1 T I d e e' s s' he h, fun d e e' s s' he h => RR.argL1 T I d e e' s s' he h, fun d s s' h => RR.stmt1 T I d s s' h, fun d e e' s s' he h => RR.blkL1 T I d e e' s s' he h⟩
end
theorem RR.recs {l l' : List Tok} {Q : Int → Int → Prop} (T : Tw l l' Q) : ∀ f, RR l Q (P.recs l f) (P.recs l' f) := by
  intro f
  induction f with
  | zero => exact ⟨fun _ _ _ _ => trivial, fun _ _ _ _ => trivial, fun _ _ _ _ _ => trivial, fun _ _ _ _ _ _ _ _ => trivial, fun _ _ _ _ => trivial, fun _ _ _ _ _ _ _ => trivial, fun _ _ _ _ _ _ _ => trivial, fun _ _ _ _ => trivial, fun _ _ _ _ _ _ _ => trivial⟩
  | succ f ih => exact RR.step T ih
end Go.Proofs.YtjmemapkipkocaaDoor

/-
  Two lists of tokens that differ in positions alone: declarations, and programs.
-/
namespace Go.Proofs.YtjmemapkipkocaaDoor
open Go.RowKit
set_option linter.unusedVariables false
set_option linter.unusedSimpArgs false

abbrev DR (a b : Dec) : Prop := a.bare = b.bare
abbrev DsR (a b : List Dec) : Prop := a.map Dec.bare = b.map Dec.bare
abbrev FR (a b : Fn) : Prop := a.bare = b.bare
abbrev UR (a b : Un) : Prop := a.bare = b.bare
theorem DR.mk {nm : List UInt8} {t : Ty} {i : List Int} {p p' : Int} : DR ⟨nm, t, i, p⟩ ⟨nm, t, i, p'⟩ := rfl
theorem DsR.len {a b : List Dec} (h : DsR a b) : b.length = a.length := by simpa using (congrArg List.length h).symm
theorem DsR.snoc {a b : List Dec} {c d : Dec} (h : DsR a b) (h2 : DR c d) : DsR (a ++ [c]) (b ++ [d]) := by simp only [DsR, List.map_append, List.map_cons, List.map_nil, show a.map Dec.bare = b.map Dec.bare from h, show c.bare = d.bare from h2]
theorem FR.mk {nm : List UInt8} {t : Ty} {a b : List Dec} {x y : Sts} {p p' : Int} (h : DsR a b) (h2 : MsR x y) : FR ⟨nm, t, a, x, p⟩ ⟨nm, t, b, y, p'⟩ := by simp only [FR, Fn.bare, show a.map Dec.bare = b.map Dec.bare from h, show x.bare = y.bare from h2]
section
variable {l l' : List Tok} {Q : Int → Int → Prop} {s s' : St} (T : Tw l l' Q)
include T
theorem SR.failIf (h : SR l Q s s') {c : Prop} [Decidable c] (e : Int) (he : e ≠ 0) : SR l Q (if c then P.fail l e (P.tok l s).pos s else s) (if c then P.fail l' e (P.tok l' s').pos s' else s') := by
  split
  · exact h.fail T _ _ _ he (fun _ => (h.tok T).2.2.2)
  · exact h
theorem SR.param (h : SR l Q s s') : DR (P.param l s).1 (P.param l' s').1 ∧ SR l Q (P.param l s).2 (P.param l' s').2 := by
  unfold P.param
  have ht := h.typ T
  have hk := ht.2.kindT T 1
  rw [ht.1, hk.1]
  exact ⟨DR.mk, ht.2.kind T 1⟩
theorem SR.parL : ∀ (f : Nat) (a a' : List Dec) (s s' : St), DsR a a' → SR l Q s s' → OR DsR (SR l Q) (P.parL l f a s) (P.parL l' f a' s') := by
  intro f
  induction f with
  | zero => intro a a' s s' _ _; trivial
  | succ f ih =>
    intro a a' s s' ha h
    unfold P.parL
    rw [ha.len]
    have h1 := h.failIf T (c := a.length = 4) 2 (by decide)
    revert h1
    dsimp only
    generalize (if a.length = 4 then P.fail l 2 (P.tok l s).pos s else s) = s2
    generalize (if a.length = 4 then P.fail l' 2 (P.tok l' s').pos s' else s') = s2'
    intro h1
    have hp := h1.param T
    rw [hp.2.is T]
    split
    · exact ih _ _ _ _ (ha.snoc hp.1) (hp.2.next T)
    · exact ⟨ha.snoc hp.1, hp.2⟩
theorem SR.params (f : Nat) (h : SR l Q s s') : OR DsR (SR l Q) (P.params l f s) (P.params l' f s') := by
  unfold P.params P.params2
  have h1 := h.need T [40]
  rw [h1.is T, h1.snd T]
  have h2 : SR l Q (if P.is l [118, 111, 105, 100] (P.need l [40] s) && (P.snd l (P.need l [40] s)).text == [41] then P.next l (P.need l [40] s) else P.need l [40] s) (if P.is l [118, 111, 105, 100] (P.need l [40] s) && (P.snd l (P.need l [40] s)).text == [41] then P.next l' (P.need l' [40] s') else P.need l' [40] s') := by
    split
    · exact h1.next T
    · exact h1
  revert h2
  generalize (if P.is l [118, 111, 105, 100] (P.need l [40] s) && (P.snd l (P.need l [40] s)).text == [41] then P.next l (P.need l [40] s) else P.need l [40] s) = s2
  generalize (if P.is l [118, 111, 105, 100] (P.need l [40] s) && (P.snd l (P.need l [40] s)).text == [41] then P.next l' (P.need l' [40] s') else P.need l' [40] s') = s2'
  intro h2
  rw [h2.is T]
  split
  · exact ⟨rfl, h2.next T⟩
  · exact (SR.parL T f _ _ _ _ rfl h2).bind fun a b a' b' ha hb => ⟨ha, hb.need T _⟩
theorem SR.func (f : Nat) (t : Ty) (nm nm' : Tok) (hn : nm'.text = nm.text) (h : SR l Q s s') : OR FR (SR l Q) (P.func l f t nm s) (P.func l' f t nm' s') := by
  unfold P.func
  rw [hn]
  exact (h.params T f).bind fun a b a' b' ha hb => (RR.block T (RR.recs T f) 1 _ _ hb).bind fun c b2 c' b2' hc hb2 => ⟨FR.mk ha hc, hb2⟩
theorem SR.iniL : ∀ (f : Nat) (n : Int) (a : List Int) (s s' : St), SR l Q s s' → OR Eq (SR l Q) (P.iniL l f n a s) (P.iniL l' f n a s') := by
  intro f
  induction f with
  | zero => intro n a s s' _; trivial
  | succ f ih =>
    intro n a s s' h
    unfold P.iniL
    rw [(h.tok T).1, h.is T]
    have h1 := h.failIf T (c := (a.length : Int) = n ∧ ((P.tok l s).kind = 2 ∨ P.is l [45] s = true)) 10 (by decide)
    revert h1
    dsimp only
    generalize (if (a.length : Int) = n ∧ ((P.tok l s).kind = 2 ∨ P.is l [45] s = true) then P.fail l 10 (P.tok l s).pos s else s) = s2
    generalize (if (a.length : Int) = n ∧ ((P.tok l s).kind = 2 ∨ P.is l [45] s = true) then P.fail l' 10 (P.tok l' s').pos s' else s') = s2'
    intro h1
    have hv := h1.value T
    rw [hv.2.is T, hv.1]
    split
    · exact ih _ _ _ _ (hv.2.next T)
    · exact ⟨rfl, hv.2⟩
theorem SR.initial (f : Nat) (n : Int) (h : SR l Q s s') : OR Eq (SR l Q) (P.initial l f n s) (P.initial l' f n s') := by
  unfold P.initial
  split
  · have hv := h.value T
    exact ⟨by rw [hv.1], hv.2⟩
  · exact (SR.iniL T f n [] _ _ (h.need T _)).bind fun a b a' b' ha hb => ⟨ha, hb.need T _⟩
theorem SR.global (f : Nat) (t : Ty) (nm nm' : Tok) (hn : nm'.text = nm.text) (h : SR l Q s s') : OR DR (SR l Q) (P.global l f t nm s) (P.global l' f t nm' s') := by
  unfold P.global
  rw [hn]
  have hg := h.length T
  dsimp only
  rw [hg.2.is T, hg.1]
  split
  · refine ((hg.2.next T).initial T f _).bind fun a b a' b' ha hb => ⟨?_, hb.need T _⟩
    cases ha
    exact DR.mk
  · exact ⟨DR.mk, hg.2.need T _⟩
theorem SR.item (f : Nat) (u u' : Un) (hu : UR u u') (h : SR l Q s s') : OR UR (SR l Q) (P.item l f u s) (P.item l' f u' s') := by
  unfold P.item
  have ht := h.typ T
  have hk := ht.2.kindT T 1
  have h2 := ht.2.kind T 1
  have hg : u.globals.map Dec.bare = u'.globals.map Dec.bare := congrArg Un.globals hu
  have hf : u.funcs.map Fn.bare = u'.funcs.map Fn.bare := congrArg Un.funcs hu
  have hgl : u'.globals.length = u.globals.length := by simpa using (congrArg List.length hg).symm
  have hfl : u'.funcs.length = u.funcs.length := by simpa using (congrArg List.length hf).symm
  dsimp only
  rw [h2.is T, ht.1, hgl, hfl]
  have hfail : ∀ (c : Prop) [Decidable c], SR l Q (if c then P.fail l 2 (P.kindT l 1 (P.typ l s).2).pos (P.kind l 1 (P.typ l s).2) else P.kind l 1 (P.typ l s).2) (if c then P.fail l' 2 (P.kindT l' 1 (P.typ l' s').2).pos (P.kind l' 1 (P.typ l' s').2) else P.kind l' 1 (P.typ l' s').2) := by
    intro c _
    split
    · exact h2.fail T _ _ _ (by decide) hk.2.2
    · exact h2
  split
  · refine ((hfail _).func T f _ _ _ hk.1).bind fun a b a' b' ha hb => ⟨?_, hb⟩
    simp only [UR, Un.bare, List.map_append, hg, hf, List.map_cons, List.map_nil, show a.bare = a'.bare from ha]
  · refine ((hfail _).global T f _ _ _ hk.1).bind fun a b a' b' ha hb => ⟨?_, hb⟩
    simp only [UR, Un.bare, List.map_append, hg, hf, List.map_cons, List.map_nil, show a.bare = a'.bare from ha]
theorem SR.unitL (f : Nat) : ∀ (g : Nat) (u u' : Un) (s s' : St), UR u u' → SR l Q s s' → OR UR (SR l Q) (P.unitL l f g u s) (P.unitL l' f g u' s') := by
  intro g
  induction g with
  | zero => intro u u' s s' _ _; trivial
  | succ g ih =>
    intro u u' s s' hu h
    unfold P.unitL
    rw [(h.tok T).1]
    split
    · exact ⟨hu, h⟩
    · exact (h.item T f _ _ hu).bind fun a b a' b' ha hb => ih _ _ _ _ ha hb
end
end Go.Proofs.YtjmemapkipkocaaDoor

/-
  The plain parser always tells something: its steps suffice. What calls nothing; expressions.
-/
namespace Go.Proofs.YtjmemapkipkocaaDoor
open Go.RowKit
set_option linter.unusedVariables false
set_option linter.unusedSimpArgs false

/-- A list of tokens with an end, and that alone of kind 0. -/
structure Ends (l : List Tok) : Prop where
  pos : 0 < l.length
  last : (l.getD (l.length - 1) P.eTok).kind = 0
  text : (l.getD (l.length - 1) P.eTok).text = []
  else_ : ∀ k, k + 1 < l.length → (l.getD k P.eTok).kind ≠ 0
/-- On, or where it was; and inside. -/
def G (l : List Tok) (s s' : St) : Prop := s.here ≤ s'.here ∧ s'.here < l.length
/-- On, if there is more. -/
def G1 (l : List Tok) (s s' : St) : Prop := s.here ≤ s'.here ∧ s'.here < l.length ∧ (s.here + 1 < l.length → s.here < s'.here)
def Tot {α : Type} (R : α → St → Prop) (o : Option (α × St)) : Prop := ∃ a s', o = some (a, s') ∧ R a s'
theorem Tot.bind {α β : Type} {R : α → St → Prop} {R2 : β → St → Prop} {o : Option (α × St)} {k : α × St → Option (β × St)} (h : Tot R o) (hk : ∀ a b, R a b → Tot R2 (k (a, b))) : Tot R2 (o.bind k) := by
  obtain ⟨a, b, rfl, hb⟩ := h
  exact hk a b hb
theorem Tot.is {α : Type} {R : α → St → Prop} {a : α} {b : St} (h : R a b) : Tot R (some (a, b)) := ⟨a, b, rfl, h⟩
/-- On, and so many nodes at most. -/
def GE (l : List Tok) (s : St) (e : Ex) (s' : St) : Prop := G1 l s s' ∧ e.sz + 3 * s.here ≤ 3 * s'.here + 1
def GEn (l : List Tok) (n : Nat) (s : St) (e : Ex) (s' : St) : Prop := G l s s' ∧ e.sz + 3 * s.here ≤ 3 * s'.here + n
def GX (l : List Tok) (n : Nat) (s : St) (x : Exs) (s' : St) : Prop := G l s s' ∧ x.size + 3 * s.here ≤ 3 * s'.here + n
def GX1 (l : List Tok) (n : Nat) (s : St) (x : Exs) (s' : St) : Prop := G1 l s s' ∧ x.size + 3 * s.here ≤ 3 * s'.here + n
def GM (l : List Tok) (s : St) (m : Sm) (s' : St) : Prop := G1 l s s' ∧ m.sz + 8 * s.here ≤ 8 * s'.here + 2 ∧ (s.here < s'.here → m.sz + 8 * s.here ≤ 8 * s'.here)
def GS (l : List Tok) (n : Nat) (s : St) (x : Sts) (s' : St) : Prop := G l s s' ∧ x.all + 8 * s.here ≤ 8 * s'.here + n
theorem exNil_sz {op n p : Int} {t : Ty} {nm : List UInt8} : (Ex.mk op t nm n .nil p).sz = 1 := rfl
theorem ex0_sz : ex0.sz = 1 := rfl
theorem exOne_sz {op n p : Int} {t : Ty} {nm : List UInt8} {a : Ex} : (Ex.mk op t nm n (one a) p).sz = a.sz + 1 := by rw [Ex.sz, one_size]
theorem exTwo_sz {op n p : Int} {t : Ty} {nm : List UInt8} {a b : Ex} : (Ex.mk op t nm n (two a b) p).sz = a.sz + b.sz + 1 := by rw [Ex.sz, two_size]
theorem exThree_sz {op n p : Int} {t : Ty} {nm : List UInt8} {a b c : Ex} : (Ex.mk op t nm n (three a b c) p).sz = a.sz + (b.sz + c.sz) + 1 := by rw [Ex.sz, three_size]
theorem ex_sz {op n p : Int} {t : Ty} {nm : List UInt8} {x : Exs} : (Ex.mk op t nm n x p).sz = x.size + 1 := rfl
theorem Ends.fail {l : List Tok} {s : St} (E : Ends l) (h : s.here < l.length) (e p : Int) : G1 l s (P.fail l e p s) := by
  unfold P.fail
  refine ⟨?_, ?_, fun h1 => ?_⟩
  · show s.here ≤ l.length - 1; omega
  · show l.length - 1 < l.length; omega
  · show s.here < l.length - 1; omega
theorem mean_nil (lv : Int) : mean lv [] = (0, 0) := by
  have h : ∀ m ∈ meanL, m.1.2 ≠ [] := by decide
  unfold mean
  rw [List.find?_eq_none.2 (fun m hm => by
    intro he
    have h1 : m.1 = (lv, []) := by simpa using he
    exact h m hm (by rw [h1]))]
  rfl
section
variable {l : List Tok} (E : Ends l) {s : St}
include E
theorem Ends.next (h : s.here < l.length) : G1 l s (P.next l s) := by
  unfold P.next
  split
  · rename_i hk
    refine ⟨Nat.le_refl _, h, fun h1 => ?_⟩
    exact absurd hk (E.else_ _ h1)
  · rename_i hk
    have h1 : s.here ≠ l.length - 1 := by
      intro e
      apply hk
      unfold P.tok
      rw [e]
      exact E.last
    have := E.pos
    exact ⟨by show s.here ≤ s.here + 1; omega, by show s.here + 1 < l.length; omega, fun _ => by show s.here < s.here + 1; omega⟩
theorem Ends.is (h : s.here < l.length) (t : List UInt8) (ht : t ≠ []) (hi : P.is l t s = true) : s.here + 1 < l.length := by
  rcases Nat.lt_or_ge (s.here + 1) l.length with h1 | h1
  · exact h1
  · exfalso
    have e : s.here = l.length - 1 := by omega
    unfold P.is P.tok at hi
    rw [e, E.text] at hi
    exact ht (by simpa using hi.symm)
theorem Ends.kindNe (h : s.here < l.length) (hk : (P.tok l s).kind ≠ 0) : s.here + 1 < l.length := by
  rcases Nat.lt_or_ge (s.here + 1) l.length with h1 | h1
  · exact h1
  · exfalso
    have e : s.here = l.length - 1 := by omega
    unfold P.tok at hk
    rw [e] at hk
    exact hk E.last
theorem Ends.sign (h : s.here < l.length) (lv : Int) (hk : ¬ (P.signM l lv s).1 = 0) : s.here + 1 < l.length := by
  rcases Nat.lt_or_ge (s.here + 1) l.length with h1 | h1
  · exact h1
  · exfalso
    have e : s.here = l.length - 1 := by omega
    unfold P.signM P.tok at hk
    rw [e, E.text, mean_nil] at hk
    exact hk rfl
theorem Ends.refuse (h : s.here < l.length) : G1 l s (P.refuse l s) := E.fail h _ _
theorem Ends.begin (h : s.here < l.length) (d : Int) : G l s (P.begin l d s) := by
  unfold P.begin
  split
  · exact ⟨(E.fail h _ _).1, (E.fail h _ _).2.1⟩
  · exact ⟨Nat.le_refl _, h⟩
theorem Ends.acc (h : s.here < l.length) (t : List UInt8) : G l s (P.acc l t s) := by
  unfold P.acc
  split
  · exact ⟨(E.next h).1, (E.next h).2.1⟩
  · exact ⟨Nat.le_refl _, h⟩
theorem Ends.need (h : s.here < l.length) (t : List UInt8) : G1 l s (P.need l t s) := by
  unfold P.need
  split
  · exact E.next h
  · exact E.refuse h
theorem Ends.kind (h : s.here < l.length) (k : Int) : G1 l s (P.kind l k s) := by
  unfold P.kind
  split
  · exact E.next h
  · exact E.refuse h
theorem Ends.value (h : s.here < l.length) : G1 l s (P.value l s).2 := by
  unfold P.value
  have hn := E.next h
  split
  · have hk := E.kind hn.2.1 2
    simp only [G1] at *
    omega
  · exact E.kind h 2
theorem Ends.base2 (h : s.here < l.length) (u : Int) : G1 l s (P.base2 l u s).2 := by
  unfold P.base2
  have hn := E.next h
  repeat' split
  all_goals first | exact hn | exact E.refuse h
theorem Ends.base (h : s.here < l.length) : G1 l s (P.base l s).2 := by
  unfold P.base
  split
  · exact E.next h
  · have ha := E.acc h [117, 110, 115, 105, 103, 110, 101, 100]
    have hb := E.base2 ha.2 (if P.is l [117, 110, 115, 105, 103, 110, 101, 100] s then 1 else 0)
    simp only [G1, G] at *
    omega
theorem Ends.stars : ∀ (f : Nat) (p : Int) (s : St), s.here < l.length → G l s (P.stars l f p s).2 := by
  intro f
  induction f with
  | zero => intro p s h; exact ⟨Nat.le_refl _, h⟩
  | succ f ih =>
    intro p s h
    unfold P.stars
    split
    · split
      · exact ⟨(E.fail h _ _).1, (E.fail h _ _).2.1⟩
      · have hn := E.next h
        have hi := ih (p + 1) _ hn.2.1
        simp only [G1, G] at *
        omega
    · exact ⟨Nat.le_refl _, h⟩
theorem Ends.typ (h : s.here < l.length) : G1 l s (P.typ l s).2 := by
  unfold P.typ
  have hb := E.base h
  have hs := Ends.stars E 4 0 _ hb.2.1
  simp only [G1, G] at *
  omega
theorem Ends.within (h : s.here < l.length) : G1 l s (P.within l s).2 := by
  unfold P.within
  have h1 := E.need h [40]
  have h2 := E.typ h1.2.1
  have h3 := E.need h2.2.1 [41]
  simp only [G1, G] at *
  omega
theorem Ends.length2 (h : s.here < l.length) : G1 l s (P.length2 l s).2 := by
  unfold P.length2
  have h1 := E.kind h 2
  have h2 := E.fail h1.2.1 10 (P.kindT l 2 s).pos
  dsimp only
  split
  · have h3 := E.need h2.2.1 [93]
    simp only [G1, G] at *
    omega
  · have h3 := E.need h1.2.1 [93]
    simp only [G1, G] at *
    omega
theorem Ends.length (h : s.here < l.length) : G l s (P.length l s).2 := by
  unfold P.length
  split
  · have h1 := E.next h
    have h2 := E.length2 h1.2.1
    simp only [G1, G] at *
    omega
  · exact ⟨Nat.le_refl _, h⟩
end
/-- With so much fuel all of them tell something. -/
structure TT (l : List Tok) (r : P.Rec) (f : Nat) : Prop where
  expr : ∀ d s, s.here < l.length → 20 * (l.length - s.here) + 15 ≤ f → Tot (GE l s) (r.expr d s)
  cond : ∀ d s, s.here < l.length → 20 * (l.length - s.here) + 14 ≤ f → Tot (GE l s) (r.cond d s)
  bin : ∀ lv d s, 2 ≤ lv → lv ≤ 12 → s.here < l.length → (20 * (l.length - s.here) : Int) + 15 - lv ≤ f → Tot (GE l s) (r.bin lv d s)
  binL : ∀ lv d e s, 2 ≤ lv → lv ≤ 11 → s.here < l.length → 20 * (l.length - s.here) + 1 ≤ f → Tot (GEn l e.sz s) (r.binL lv d e s)
  unary : ∀ d s, s.here < l.length → 20 * (l.length - s.here) + 2 ≤ f → Tot (GE l s) (r.unary d s)
  postL : ∀ d e s, s.here < l.length → 20 * (l.length - s.here) + 1 ≤ f → Tot (GEn l e.sz s) (r.postL d e s)
  argL : ∀ d e s, s.here < l.length → 20 * (l.length - s.here) + 16 ≤ f → Tot (GX l (e.size + 1) s) (r.argL d e s)
  stmt : ∀ d s, s.here < l.length → 20 * (l.length - s.here) + 17 ≤ f → Tot (GM l s) (r.stmt d s)
  blkL : ∀ d e s, s.here < l.length → 20 * (l.length - s.here) + 18 ≤ f → Tot (GS l e.all s) (r.blkL d e s)
theorem TT.bin1 {l : List Tok} {r : P.Rec} {f : Nat} (E : Ends l) (I : TT l r f) (lv d : Int) (s : St) (hl : 2 ≤ lv) (hl2 : lv ≤ 12) (h : s.here < l.length) (hf : (20 * (l.length - s.here) : Int) + 15 - lv ≤ (f + 1 : Nat)) : Tot (GE l s) (P.bin r lv d s) := by
  unfold P.bin
  split
  · exact I.unary _ _ h (by omega)
  · refine (I.bin (lv + 1) d s (by omega) (by omega) h (by omega)).bind fun a b hb => ?_
    simp only [GE, G1] at hb
    obtain ⟨c, b2, e, hb2⟩ := I.binL lv d a b (by omega) (by omega) hb.1.2.1 (by omega)
    exact ⟨c, b2, e, by simp only [GE, GEn, GX, G1, G, exNil_sz, ex0_sz, exOne_sz, exTwo_sz, exThree_sz, ex_sz, one_size, two_size, three_size, Exs.size_snoc, Exs.size] at *; omega⟩
section
variable {l : List Tok} {r : P.Rec} {f : Nat} (E : Ends l) (I : TT l r f)
include E I
theorem TT.expr1 (d : Int) (s : St) (h : s.here < l.length) (hf : 20 * (l.length - s.here) + 15 ≤ f + 1) : Tot (GE l s) (P.expr l r d s) := by
  unfold P.expr
  refine (I.cond d s h (by omega)).bind fun a b hb => ?_
  dsimp only
  split
  · exact Tot.is hb
  · rename_i hk
    have h1 := E.sign hb.1.2.1 0 hk
    have h2 := E.next hb.1.2.1
    simp only [GE, G1] at hb
    simp only [G1] at h2
    exact (I.expr _ _ h2.2.1 (by omega)).bind fun c b2 hb2 => Tot.is (by simp only [GE, GEn, GX, G1, G, exNil_sz, ex0_sz, exOne_sz, exTwo_sz, exThree_sz, ex_sz, one_size, two_size, three_size, Exs.size_snoc, Exs.size] at *; omega)
theorem TT.cond1 (d : Int) (s : St) (h : s.here < l.length) (hf : 20 * (l.length - s.here) + 14 ≤ f + 1) : Tot (GE l s) (P.cond l r d s) := by
  unfold P.cond
  refine (I.bin 2 d s (by omega) (by omega) h (by omega)).bind fun a b hb => ?_
  dsimp only
  split
  · exact Tot.is hb
  · rename_i hk
    have h1 := E.sign hb.1.2.1 1 hk
    have h2 := E.next hb.1.2.1
    simp only [GE, G1] at hb
    simp only [G1] at h2
    refine (I.expr _ _ h2.2.1 (by omega)).bind fun c b2 hb2 => ?_
    have h3 := E.need hb2.1.2.1 [58]
    simp only [GE, G1] at hb2
    simp only [G1] at h3
    exact (I.cond _ _ h3.2.1 (by omega)).bind fun e b3 hb3 => Tot.is (by simp only [GE, GEn, GX, G1, G, exNil_sz, ex0_sz, exOne_sz, exTwo_sz, exThree_sz, ex_sz, one_size, two_size, three_size, Exs.size_snoc, Exs.size] at *; omega)
theorem TT.binL1 (lv d : Int) (e : Ex) (s : St) (hl : 2 ≤ lv) (hl2 : lv ≤ 11) (h : s.here < l.length) (hf : 20 * (l.length - s.here) + 1 ≤ f + 1) : Tot (GEn l e.sz s) (P.binL l r lv d e s) := by
  unfold P.binL
  split
  · exact Tot.is (by simp only [GE, GEn, GX, G1, G, exNil_sz, ex0_sz, exOne_sz, exTwo_sz, exThree_sz, ex_sz, one_size, two_size, three_size, Exs.size_snoc, Exs.size] at *; omega)
  · rename_i hk
    have h1 := E.sign h lv hk
    have h2 := E.next h
    simp only [G1] at h2
    refine (I.bin (lv + 1) d _ (by omega) (by omega) h2.2.1 (by omega)).bind fun a b hb => ?_
    simp only [GE, G1] at hb
    obtain ⟨c, b2, e, hb2⟩ := I.binL lv d ⟨(P.signM l lv s).1, ty0, [], 0, two e a, (P.tok l s).pos⟩ b (by omega) (by omega) hb.1.2.1 (by omega)
    exact ⟨c, b2, e, by simp only [GE, GEn, GX, G1, G, exNil_sz, ex0_sz, exOne_sz, exTwo_sz, exThree_sz, ex_sz, one_size, two_size, three_size, Exs.size_snoc, Exs.size] at *; omega⟩
theorem TT.paren (d : Int) (s : St) (h : s.here + 1 < l.length) (hf : 20 * (l.length - s.here) ≤ f + 5) : Tot (GE l s) (P.paren l r d s) := by
  unfold P.paren
  have h1 := E.need (s := s) (by omega) [40]
  simp only [G1] at h1
  refine (I.expr _ _ h1.2.1 (by omega)).bind fun a b hb => Tot.is ?_
  have h2 := E.need hb.1.2.1 [41]
  simp only [GE, GEn, GX, G1, G, exNil_sz, ex0_sz, exOne_sz, exTwo_sz, exThree_sz, ex_sz, one_size, two_size, three_size, Exs.size_snoc, Exs.size] at *
  omega
theorem TT.parenAt (d : Int) (s : St) (h : s.here < l.length) (hf : 20 * (l.length - s.here) + 15 ≤ f) : Tot (GEn l 1 s) (P.paren l r d s) := by
  unfold P.paren
  have h1 := E.need h [40]
  simp only [G1] at h1
  refine (I.expr _ _ h1.2.1 (by omega)).bind fun a b hb => Tot.is ?_
  have h2 := E.need hb.1.2.1 [41]
  simp only [GE, GEn, GX, G1, G, exNil_sz, ex0_sz, exOne_sz, exTwo_sz, exThree_sz, ex_sz, one_size, two_size, three_size, Exs.size_snoc, Exs.size] at *
  omega
theorem TT.args (d : Int) (s : St) (h : s.here < l.length) (hf : 20 * (l.length - s.here) + 16 ≤ f) : Tot (GX l 1 s) (P.args l r d s) := by
  unfold P.args
  have h1 := E.need h [40]
  split
  · have h2 := E.next h1.2.1
    exact Tot.is (by simp only [GE, GEn, GX, G1, G, exNil_sz, ex0_sz, exOne_sz, exTwo_sz, exThree_sz, ex_sz, one_size, two_size, three_size, Exs.size_snoc, Exs.size] at *; omega)
  · simp only [G1] at h1
    refine (I.argL _ _ _ h1.2.1 (by omega)).bind fun a b hb => Tot.is ?_
    have h2 := E.need hb.1.2 [41]
    simp only [GE, GEn, GX, G1, G, exNil_sz, ex0_sz, exOne_sz, exTwo_sz, exThree_sz, ex_sz, one_size, two_size, three_size, Exs.size_snoc, Exs.size] at *
    omega
theorem TT.argL1 (d : Int) (e : Exs) (s : St) (h : s.here < l.length) (hf : 20 * (l.length - s.here) + 16 ≤ f + 1) : Tot (GX l (e.size + 1) s) (P.argL l r d e s) := by
  unfold P.argL
  have h1 : G l s (if e.len = 4 then P.fail l 2 (P.tok l s).pos s else s) := by
    split
    · exact ⟨(E.fail h _ _).1, (E.fail h _ _).2.1⟩
    · exact ⟨Nat.le_refl _, h⟩
  simp only [G] at h1
  refine (I.expr _ _ h1.2 (by omega)).bind fun a b hb => ?_
  dsimp only
  split
  · rename_i hi
    have h2 := E.is hb.1.2.1 _ (by decide) hi
    have h3 := E.next hb.1.2.1
    simp only [GE, G1] at hb
    simp only [G1] at h3
    obtain ⟨c, b2, e2, hb2⟩ := I.argL d (e.snoc a) _ h3.2.1 (by omega)
    exact ⟨c, b2, e2, by simp only [GE, GEn, GX, G1, G, exNil_sz, ex0_sz, exOne_sz, exTwo_sz, exThree_sz, ex_sz, one_size, two_size, three_size, Exs.size_snoc, Exs.size] at *; omega⟩
  · exact Tot.is (by simp only [GE, GEn, GX, G1, G, exNil_sz, ex0_sz, exOne_sz, exTwo_sz, exThree_sz, ex_sz, one_size, two_size, three_size, Exs.size_snoc, Exs.size] at *; omega)
theorem TT.primary (d : Int) (s : St) (h : s.here < l.length) (hf : 20 * (l.length - s.here) + 2 ≤ f + 1) : Tot (GE l s) (P.primary l r d s) := by
  unfold P.primary
  have hn := E.next h
  split
  · exact Tot.is (by simp only [GE, GEn, GX, G1, G, exNil_sz, ex0_sz, exOne_sz, exTwo_sz, exThree_sz, ex_sz, one_size, two_size, three_size, Exs.size_snoc, Exs.size] at *; omega)
  · split
    · rename_i hk
      have h1 := E.kindNe h (by rw [hk]; decide)
      split
      · simp only [G1] at hn
        refine (TT.args E I _ _ hn.2.1 (by omega)).bind fun a b hb => Tot.is ?_
        simp only [GE, GEn, GX, G1, G, exNil_sz, ex0_sz, exOne_sz, exTwo_sz, exThree_sz, ex_sz, one_size, two_size, three_size, Exs.size_snoc, Exs.size] at *
        omega
      · exact Tot.is (by simp only [GE, GEn, GX, G1, G, exNil_sz, ex0_sz, exOne_sz, exTwo_sz, exThree_sz, ex_sz, one_size, two_size, three_size, Exs.size_snoc, Exs.size] at *; omega)
    · split
      · rename_i hi
        have h1 := E.is h _ (by decide) hi
        exact TT.paren E I _ _ h1 (by omega)
      · exact Tot.is (by have h9 := E.refuse h; simp only [GE, GEn, GX, G1, G, exNil_sz, ex0_sz, exOne_sz, exTwo_sz, exThree_sz, ex_sz, one_size, two_size, three_size, Exs.size_snoc, Exs.size] at *; omega)
theorem TT.postL1 (d : Int) (e : Ex) (s : St) (h : s.here < l.length) (hf : 20 * (l.length - s.here) + 1 ≤ f + 1) : Tot (GEn l e.sz s) (P.postL l r d e s) := by
  unfold P.postL
  split
  · exact Tot.is (by simp only [GE, GEn, GX, G1, G, exNil_sz, ex0_sz, exOne_sz, exTwo_sz, exThree_sz, ex_sz, one_size, two_size, three_size, Exs.size_snoc, Exs.size] at *; omega)
  · rename_i hk
    have h1 := E.sign h 13 hk
    have h2 := E.next h
    simp only [G1] at h2
    split
    · refine (I.expr _ _ h2.2.1 (by omega)).bind fun a b hb => ?_
      have h3 := E.need hb.1.2.1 [93]
      simp only [GE, G1] at hb
      simp only [G1] at h3
      obtain ⟨c, b2, e2, hb2⟩ := I.postL d ⟨3, ty0, [], 0, two e a, (P.tok l s).pos⟩ _ h3.2.1 (by omega)
      exact ⟨c, b2, e2, by simp only [GE, GEn, GX, G1, G, exNil_sz, ex0_sz, exOne_sz, exTwo_sz, exThree_sz, ex_sz, one_size, two_size, three_size, Exs.size_snoc, Exs.size] at *; omega⟩
    · obtain ⟨c, b2, e2, hb2⟩ := I.postL d ⟨(P.signM l 13 s).1, ty0, [], 0, one e, (P.tok l s).pos⟩ _ h2.2.1 (by omega)
      exact ⟨c, b2, e2, by simp only [GE, GEn, GX, G1, G, exNil_sz, ex0_sz, exOne_sz, exTwo_sz, exThree_sz, ex_sz, one_size, two_size, three_size, Exs.size_snoc, Exs.size] at *; omega⟩
theorem TT.unaryAt (d : Int) (s : St) (h : s.here < l.length) (hf : 20 * (l.length - s.here) + 2 ≤ f + 1) : Tot (GE l s) (P.unary1 l r d s) := by
  unfold P.unary1 P.unary2 P.postE
  have hn := E.next h
  split
  · split
    · rename_i hi
      have h1 := E.is h [40] (by decide) (by simp only [Bool.and_eq_true] at hi; exact hi.1)
      have h2 := E.within h
      simp only [G1] at h2
      refine (I.unary _ _ h2.2.1 (by omega)).bind fun a b hb => Tot.is ?_
      simp only [GE, GEn, GX, G1, G, exNil_sz, ex0_sz, exOne_sz, exTwo_sz, exThree_sz, ex_sz, one_size, two_size, three_size, Exs.size_snoc, Exs.size] at *
      omega
    · split
      · rename_i hi
        have h2 := E.within hn.2.1
        exact Tot.is (by simp only [GE, GEn, GX, G1, G, exNil_sz, ex0_sz, exOne_sz, exTwo_sz, exThree_sz, ex_sz, one_size, two_size, three_size, Exs.size_snoc, Exs.size] at *; omega)
      · refine (TT.primary E I _ _ h hf).bind fun a b hb => ?_
        simp only [GE, G1] at hb
        obtain ⟨c, b2, e2, hb2⟩ := I.postL d a b hb.1.2.1 (by omega)
        exact ⟨c, b2, e2, by simp only [GE, GEn, GX, G1, G, exNil_sz, ex0_sz, exOne_sz, exTwo_sz, exThree_sz, ex_sz, one_size, two_size, three_size, Exs.size_snoc, Exs.size] at *; omega⟩
  · rename_i hk
    have h1 := E.sign h 12 hk
    simp only [G1] at hn
    refine (I.unary _ _ hn.2.1 (by omega)).bind fun a b hb => Tot.is ?_
    simp only [GE, GEn, GX, G1, G, exNil_sz, ex0_sz, exOne_sz, exTwo_sz, exThree_sz, ex_sz, one_size, two_size, three_size, Exs.size_snoc, Exs.size] at *
    omega
theorem TT.unary1 (d : Int) (s : St) (h : s.here < l.length) (hf : 20 * (l.length - s.here) + 2 ≤ f + 1) : Tot (GE l s) (P.unary l r d s) := by
  unfold P.unary
  have hb := E.begin h d
  simp only [G] at hb
  obtain ⟨c, b2, e2, hb2⟩ := TT.unaryAt E I d _ hb.2 (by omega)
  exact ⟨c, b2, e2, by simp only [GE, GEn, GX, G1, G, exNil_sz, ex0_sz, exOne_sz, exTwo_sz, exThree_sz, ex_sz, one_size, two_size, three_size, Exs.size_snoc, Exs.size] at *; omega⟩
end
end Go.Proofs.YtjmemapkipkocaaDoor

/-
  What every list of tokens is like.
-/
namespace Go.Proofs.YtjmemapkipkocaaDoor
open Go.RowKit
set_option linter.unusedVariables false

/-- A fault, or at most so many tokens and the end. -/
def OutN (n : Nat) (R : Res) : Prop := (∃ e p, R = .bad e p ∧ e ≠ 0) ∨ ∃ l p, R = .ok (l ++ [⟨0, [], 0, p⟩]) ∧ l.length ≤ n ∧ ∀ t ∈ l, t.kind ≠ 0
theorem kinds_snocN {l : List Tok} {t : Tok} (h : ∀ t ∈ l, t.kind ≠ 0) (ht : t.kind ≠ 0) : ∀ u ∈ l ++ [t], u.kind ≠ 0 := by
  intro u hu
  rcases List.mem_append.1 hu with hu | hu
  · exact h u hu
  · simp at hu; subst hu; exact ht
theorem outs_of (B : Nat) : ∀ (n : Nat) (r : List UInt8) (pos : Nat) (acc : List Tok), r.length ≤ n → acc.length + r.length ≤ B → (∀ t ∈ acc, t.kind ≠ 0) → OutN B (SS r pos acc)
  | n, [], pos, acc, _, hB, hk => .inr ⟨acc, pos, SS_nil pos acc, by simpa using hB, hk⟩
  | 0, c :: r, pos, acc, hn, _, _ => by simp at hn
  | n + 1, c :: r, pos, acc, hn, hB, hk => by
    have hr : r.length ≤ n := by simpa using hn
    have tl : ∀ p : UInt8 → Bool, ((c :: r).takeWhile p).length ≤ (c :: r).length := fun p => cnt_le
    have go_on : ∀ (m : Nat) (t : Tok), 0 < m → m ≤ (c :: r).length → t.kind ≠ 0 → OutN B (SS ((c :: r).drop m) (pos + m) (acc ++ [t])) :=
      fun m t hm hml ht => outs_of B n _ _ _ (by simp; omega) (by rw [List.length_drop, List.length_append]; simp only [List.length_cons, List.length_nil] at hB hml ⊢; omega) (kinds_snocN hk ht)
    cases hb : isBl c with
    | true => rw [SS_blank _ _ hb]; exact outs_of B n r _ acc hr (by simp at hB; omega) hk
    | false =>
      cases hl : isLet c with
      | true =>
        rw [SS_name _ _ hb hl]
        refine go_on _ ⟨_, _, _, _⟩ (tw_pos (by simp [isAl, hl])) (tl _) ?_
        show (if _ then (4 : Int) else 1) ≠ 0
        split <;> decide
      | false =>
        cases hd : isDig c with
        | true =>
          rw [SS_num _ _ hb hl hd]
          split
          · exact .inl ⟨10, pos, rfl, by decide⟩
          split
          · exact .inl ⟨3, pos, rfl, by decide⟩
          exact go_on _ ⟨2, [], _, pos⟩ (tw_pos hd) (tl _) (by show (2 : Int) ≠ 0; decide)
        | false =>
          rw [SS_sign _ _ hb hl hd]
          cases hs : sgT (c :: r) with
          | none => exact .inl ⟨3, pos, rfl, by decide⟩
          | some t =>
            have h1 := sgT_some hs
            exact go_on _ ⟨3, t, 0, pos⟩ (signs_pos h1.1).1 h1.2.length_le (by show (3 : Int) ≠ 0; decide)
theorem lexR_out (l : List UInt8) : OutN 2000 (lexR l) := by
  rw [lexR]
  split
  · exact .inl ⟨2, 0, rfl, by decide⟩
  · exact outs_of 2000 l.length l 0 [] (Nat.le_refl _) (by simp; omega) (by simp)
end Go.Proofs.YtjmemapkipkocaaDoor

/-
  The plain parser always tells something: statements, declarations, programs.
-/
namespace Go.Proofs.YtjmemapkipkocaaDoor
open Go.RowKit
set_option linter.unusedVariables false
set_option linter.unusedSimpArgs false

/-- A choice that tells something. -/
def TotO {α : Type} (R : α → St → Prop) (o : Option (Option (α × St))) : Prop := o = some none ∨ ∃ a s', o = some (some (a, s')) ∧ R a s'
theorem TotO.is {α : Type} {R : α → St → Prop} {a : α} {b : St} (h : R a b) : TotO R (some (some (a, b))) := .inr ⟨a, b, rfl, h⟩
theorem TotO.bind {α β : Type} {R : α → St → Prop} {R2 : β → St → Prop} {o : Option (α × St)} {k : α × St → Option (Option (β × St))} (h : Tot R o) (hk : ∀ a b, R a b → TotO R2 (k (a, b))) : TotO R2 (o.bind k) := by
  obtain ⟨a, b, rfl, hb⟩ := h
  exact hk a b hb
theorem sm_sz {op n p : Int} {t : Ty} {nm : List UInt8} {x : Exs} {y : Sts} : (Sm.mk op x y t nm n p).sz = x.size + y.all + 1 := rfl
/-- What a body has. -/
def GB (l : List Tok) (s : St) (x : Sts) (s' : St) : Prop := G1 l s s' ∧ x.all + 8 * s.here ≤ 8 * s'.here + 2
/-- What a statement's rest has, its word passed. -/
def GR (l : List Tok) (s : St) (m : Sm) (s' : St) : Prop := G l s s' ∧ m.sz + 8 * s.here ≤ 8 * s'.here + 8
theorem TT.body {l : List Tok} {r : P.Rec} {f : Nat} (E : Ends l) (I : TT l r f) (d : Int) (s : St) (h : s.here < l.length) (hf : 20 * (l.length - s.here) + 17 ≤ f) : Tot (GB l s) (P.body r d s) := by
  unfold P.body
  refine (I.stmt _ _ h hf).bind fun a b hb => Tot.is ?_
  simp only [GM, GS, GB, GR, GE, GEn, GX, GX1, G1, G, exNil_sz, ex0_sz, one_size, two_size, three_size, sm_sz, oneS_all, Exs.size_snoc, Sts.all_snoc, Exs.size, Sts.all] at *
  omega
theorem Tot.up {l : List Tok} {r : P.Rec} {f : Nat} (E : Ends l) (I : TT l r f) {s : St} {o : Option (Sm × St)} (hi : s.here + 1 < l.length) (h : Tot (GR l (P.next l s)) o) : TotO (GM l s) (o.map some) := by
  obtain ⟨a, b, rfl, hb⟩ := h
  have hn := E.next (s := s) (by omega)
  exact TotO.is (by simp only [GM, GS, GB, GR, GE, GEn, GX, GX1, G1, G, exNil_sz, ex0_sz, one_size, two_size, three_size, sm_sz, oneS_all, Exs.size_snoc, Sts.all_snoc, Exs.size, Sts.all] at *; omega)
section
variable {l : List Tok} {r : P.Rec} {f : Nat} (E : Ends l) (I : TT l r f)
include E I
theorem TT.told (d : Int) (s : St) (h : s.here < l.length) (hf : 20 * (l.length - s.here) + 15 ≤ f) : Tot (GX1 l 1 s) (P.told l r d s) := by
  unfold P.told
  refine (I.expr _ _ h hf).bind fun a b hb => Tot.is ?_
  have h2 := E.need hb.1.2.1 [59]
  simp only [GM, GS, GB, GR, GE, GEn, GX, GX1, G1, G, exNil_sz, ex0_sz, one_size, two_size, three_size, sm_sz, oneS_all, Exs.size_snoc, Sts.all_snoc, Exs.size, Sts.all] at *
  omega
theorem TT.asked (d : Int) (s : St) (h : s.here < l.length) (hf : 20 * (l.length - s.here) + 15 ≤ f) : Tot (GX l 1 s) (P.asked l r d s) := by
  unfold P.asked
  refine (TT.parenAt E I _ _ h hf).bind fun a b hb => Tot.is ?_
  simp only [GM, GS, GB, GR, GE, GEn, GX, GX1, G1, G, exNil_sz, ex0_sz, one_size, two_size, three_size, sm_sz, oneS_all, Exs.size_snoc, Sts.all_snoc, Exs.size, Sts.all] at *
  omega
theorem TT.block (d : Int) (s : St) (h : s.here < l.length) (hf : 20 * (l.length - s.here) + 18 ≤ f) : Tot (GS l 0 s) (P.block l r d s) := by
  unfold P.block
  have h1 := E.need h [123]
  simp only [G1] at h1
  refine (I.blkL _ _ _ h1.2.1 (by omega)).bind fun a b hb => Tot.is ?_
  have h2 := E.need hb.1.2 [125]
  simp only [GM, GS, GB, GR, GE, GEn, GX, GX1, G1, G, exNil_sz, ex0_sz, one_size, two_size, three_size, sm_sz, oneS_all, Exs.size_snoc, Sts.all_snoc, Exs.size, Sts.all] at *
  omega
theorem TT.blockAt (d : Int) (s : St) (h : s.here + 1 < l.length) (hf : 20 * (l.length - s.here) ≤ f + 2) : Tot (fun x s' => s.here < s'.here ∧ s'.here < l.length ∧ x.all + 8 * s.here + 8 ≤ 8 * s'.here) (P.block l r d s) := by
  unfold P.block
  have h1 := E.need (s := s) (by omega) [123]
  simp only [G1] at h1
  refine (I.blkL _ _ _ h1.2.1 (by omega)).bind fun a b hb => Tot.is ?_
  have h2 := E.need hb.1.2 [125]
  simp only [GM, GS, GB, GR, GE, GEn, GX, GX1, G1, G, exNil_sz, ex0_sz, one_size, two_size, three_size, sm_sz, oneS_all, Exs.size_snoc, Sts.all_snoc, Exs.size, Sts.all] at *
  omega
theorem TT.blkL1 (d : Int) (e : Sts) (s : St) (h : s.here < l.length) (hf : 20 * (l.length - s.here) + 18 ≤ f + 1) : Tot (GS l e.all s) (P.blkL l r d e s) := by
  unfold P.blkL
  split
  · exact Tot.is (by simp only [GM, GS, GB, GR, GE, GEn, GX, GX1, G1, G, exNil_sz, ex0_sz, one_size, two_size, three_size, sm_sz, oneS_all, Exs.size_snoc, Sts.all_snoc, Exs.size, Sts.all] at *; omega)
  · rename_i hc
    have hk : (P.tok l s).kind ≠ 0 := fun hk => hc (by simp [hk])
    have h1 := E.kindNe h hk
    refine (I.stmt _ _ h (by omega)).bind fun a b hb => ?_
    simp only [GM, G1] at hb
    obtain ⟨c, b2, e2, hb2⟩ := I.blkL d (e.snoc a) b hb.1.2.1 (by omega)
    exact ⟨c, b2, e2, by simp only [GM, GS, GB, GR, GE, GEn, GX, GX1, G1, G, exNil_sz, ex0_sz, one_size, two_size, three_size, sm_sz, oneS_all, Exs.size_snoc, Sts.all_snoc, Exs.size, Sts.all] at *; omega⟩
theorem TT.maybe (d : Int) (t : List UInt8) (s : St) (h : s.here < l.length) (hf : 20 * (l.length - s.here) + 15 ≤ f) : Tot (GEn l 1 s) (P.maybe l r d t s) := by
  unfold P.maybe
  split
  · have h2 := E.need h t
    exact Tot.is (by simp only [GM, GS, GB, GR, GE, GEn, GX, GX1, G1, G, exNil_sz, ex0_sz, one_size, two_size, three_size, sm_sz, oneS_all, Exs.size_snoc, Sts.all_snoc, Exs.size, Sts.all] at *; omega)
  · refine (I.expr _ _ h hf).bind fun a b hb => Tot.is ?_
    have h2 := E.need hb.1.2.1 t
    simp only [GM, GS, GB, GR, GE, GEn, GX, GX1, G1, G, exNil_sz, ex0_sz, one_size, two_size, three_size, sm_sz, oneS_all, Exs.size_snoc, Sts.all_snoc, Exs.size, Sts.all] at *
    omega
theorem TT.course (d : Int) (s : St) (h : s.here < l.length) (hf : 20 * (l.length - s.here) + 15 ≤ f) : Tot (GX l 3 s) (P.course l r d s) := by
  unfold P.course
  have h1 := E.need h [40]
  simp only [G1] at h1
  refine (TT.maybe E I _ _ _ h1.2.1 (by omega)).bind fun a b hb => ?_
  simp only [GEn, G] at hb
  refine (TT.maybe E I _ _ _ hb.1.2 (by omega)).bind fun a b2 hb2 => ?_
  simp only [GEn, G] at hb2
  refine (TT.maybe E I _ _ _ hb2.1.2 (by omega)).bind fun a b3 hb3 => Tot.is ?_
  simp only [GM, GS, GB, GR, GE, GEn, GX, GX1, G1, G, exNil_sz, ex0_sz, one_size, two_size, three_size, sm_sz, oneS_all, Exs.size_snoc, Sts.all_snoc, Exs.size, Sts.all] at *
  omega
theorem TT.short (d : Int) (s : St) (m : Sm) (hm : m.ex = .nil ∧ m.body = .nil) (h : s.here < l.length) (hf : 20 * (l.length - s.here) + 17 ≤ f + 1) : TotO (GM l s) (P.short l r d s m) := by
  obtain ⟨op, ex, body, ty, nm, n, pos⟩ := m
  obtain ⟨rfl, rfl⟩ : ex = .nil ∧ body = .nil := hm
  unfold P.short
  have hn := E.next h
  have hv := E.value hn.2.1
  have hv2 := E.need hv.2.1 [58]
  have h1 := E.need hn.2.1 [58]
  have h2 := E.need hn.2.1 [59]
  have hk := E.kind hn.2.1 1
  have hk2 := E.need hk.2.1 [59]
  split
  · rename_i hi
    have hp := E.is h _ (by decide) hi
    exact TotO.is (by simp only [GM, GS, GB, GR, GE, GEn, GX, GX1, G1, G, exNil_sz, ex0_sz, one_size, two_size, three_size, sm_sz, oneS_all, Exs.size_snoc, Sts.all_snoc, Exs.size, Sts.all] at *; omega)
  split
  · rename_i hi
    have hp := E.is h _ (by decide) hi
    exact TotO.is (by simp only [GM, GS, GB, GR, GE, GEn, GX, GX1, G1, G, exNil_sz, ex0_sz, one_size, two_size, three_size, sm_sz, oneS_all, Exs.size_snoc, Sts.all_snoc, Exs.size, Sts.all] at *; omega)
  split
  · rename_i hi
    have hp := E.is h _ (by decide) hi
    exact TotO.is (by simp only [GM, GS, GB, GR, GE, GEn, GX, GX1, G1, G, exNil_sz, ex0_sz, one_size, two_size, three_size, sm_sz, oneS_all, Exs.size_snoc, Sts.all_snoc, Exs.size, Sts.all] at *; omega)
  split
  · rename_i hi
    have hp := E.is h _ (by decide) hi
    exact TotO.is (by simp only [GM, GS, GB, GR, GE, GEn, GX, GX1, G1, G, exNil_sz, ex0_sz, one_size, two_size, three_size, sm_sz, oneS_all, Exs.size_snoc, Sts.all_snoc, Exs.size, Sts.all] at *; omega)
  split
  · rename_i hi
    have hp := E.is h _ (by decide) hi
    exact TotO.is (by simp only [GM, GS, GB, GR, GE, GEn, GX, GX1, G1, G, exNil_sz, ex0_sz, one_size, two_size, three_size, sm_sz, oneS_all, Exs.size_snoc, Sts.all_snoc, Exs.size, Sts.all] at *; omega)
  split
  · rename_i hi
    have hp := E.is h _ (by decide) hi
    split
    · exact TotO.is (by simp only [GM, GS, GB, GR, GE, GEn, GX, GX1, G1, G, exNil_sz, ex0_sz, one_size, two_size, three_size, sm_sz, oneS_all, Exs.size_snoc, Sts.all_snoc, Exs.size, Sts.all] at *; omega)
    · clear hv hv2 h1 h2 hk hk2
      simp only [G1] at hn
      refine TotO.bind (I.expr _ _ hn.2.1 (by omega)) fun a b hb => TotO.is ?_
      have h2 := E.need hb.1.2.1 [59]
      simp only [GM, GS, GB, GR, GE, GEn, GX, GX1, G1, G, exNil_sz, ex0_sz, one_size, two_size, three_size, sm_sz, oneS_all, Exs.size_snoc, Sts.all_snoc, Exs.size, Sts.all] at *
      omega
  · exact .inl rfl
theorem TT.ifS (d : Int) (s : St) (m : Sm) (h : s.here < l.length) (hf : 20 * (l.length - s.here) + 17 ≤ f) : Tot (GR l s) (P.ifS l r d s m) := by
  unfold P.ifS
  refine (TT.asked E I d s h (by omega)).bind fun a b hb => ?_
  simp only [GX, G] at hb
  refine (TT.body E I d b hb.1.2 (by omega)).bind fun a b2 hb2 => ?_
  simp only [GB, G1] at hb2
  dsimp only
  split
  · rename_i hi
    have hp := E.is hb2.1.2.1 _ (by decide) hi
    have hn := E.next hb2.1.2.1
    simp only [G1] at hn
    refine (I.stmt _ _ hn.2.1 (by omega)).bind fun a b3 hb3 => Tot.is ?_
    simp only [GM, GS, GB, GR, GE, GEn, GX, GX1, G1, G, exNil_sz, ex0_sz, one_size, two_size, three_size, sm_sz, oneS_all, Exs.size_snoc, Sts.all_snoc, Exs.size, Sts.all] at *
    omega
  · exact Tot.is (by simp only [GM, GS, GB, GR, GE, GEn, GX, GX1, G1, G, exNil_sz, ex0_sz, one_size, two_size, three_size, sm_sz, oneS_all, Exs.size_snoc, Sts.all_snoc, Exs.size, Sts.all] at *; omega)
theorem TT.whileS (op d : Int) (s : St) (m : Sm) (h : s.here < l.length) (hf : 20 * (l.length - s.here) + 17 ≤ f) : Tot (GR l s) (P.whileS l r op d s m) := by
  unfold P.whileS
  refine (TT.asked E I d s h (by omega)).bind fun a b hb => ?_
  simp only [GX, G] at hb
  refine (TT.body E I d b hb.1.2 (by omega)).bind fun a b2 hb2 => Tot.is ?_
  simp only [GM, GS, GB, GR, GE, GEn, GX, GX1, G1, G, exNil_sz, ex0_sz, one_size, two_size, three_size, sm_sz, oneS_all, Exs.size_snoc, Sts.all_snoc, Exs.size, Sts.all] at *
  omega
theorem TT.forS (d : Int) (s : St) (m : Sm) (h : s.here < l.length) (hf : 20 * (l.length - s.here) + 17 ≤ f) : Tot (GR l s) (P.forS l r d s m) := by
  unfold P.forS
  refine (TT.course E I d s h (by omega)).bind fun a b hb => ?_
  simp only [GX, G] at hb
  refine (TT.body E I d b hb.1.2 (by omega)).bind fun a b2 hb2 => Tot.is ?_
  simp only [GM, GS, GB, GR, GE, GEn, GX, GX1, G1, G, exNil_sz, ex0_sz, one_size, two_size, three_size, sm_sz, oneS_all, Exs.size_snoc, Sts.all_snoc, Exs.size, Sts.all] at *
  omega
theorem TT.doS (d : Int) (s : St) (m : Sm) (h : s.here < l.length) (hf : 20 * (l.length - s.here) + 17 ≤ f) : Tot (GR l s) (P.doS l r d s m) := by
  unfold P.doS
  refine (TT.body E I d s h (by omega)).bind fun a b hb => ?_
  have h1 := E.need hb.1.2.1 [119, 104, 105, 108, 101]
  simp only [GB, G1] at hb
  simp only [G1] at h1
  refine (TT.asked E I d _ h1.2.1 (by omega)).bind fun a b2 hb2 => Tot.is ?_
  have h2 := E.need hb2.1.2 [59]
  simp only [GM, GS, GB, GR, GE, GEn, GX, GX1, G1, G, exNil_sz, ex0_sz, one_size, two_size, three_size, sm_sz, oneS_all, Exs.size_snoc, Sts.all_snoc, Exs.size, Sts.all] at *
  omega
theorem TT.holding (d : Int) (s : St) (m : Sm) (h : s.here < l.length) (hf : 20 * (l.length - s.here) + 17 ≤ f + 1) : TotO (GM l s) (P.holding l r d s m) := by
  unfold P.holding
  have hn := E.next h
  simp only [G1] at hn
  split
  · rename_i hi
    have hp := E.is h _ (by decide) hi
    exact Tot.up E I hp (TT.ifS E I _ _ _ hn.2.1 (by omega))
  split
  · rename_i hi
    have hp := E.is h _ (by decide) hi
    exact Tot.up E I hp (TT.whileS E I _ _ _ _ hn.2.1 (by omega))
  split
  · rename_i hi
    have hp := E.is h _ (by decide) hi
    exact Tot.up E I hp (TT.whileS E I _ _ _ _ hn.2.1 (by omega))
  split
  · rename_i hi
    have hp := E.is h _ (by decide) hi
    exact Tot.up E I hp (TT.forS E I _ _ _ hn.2.1 (by omega))
  split
  · rename_i hi
    have hp := E.is h _ (by decide) hi
    exact Tot.up E I hp (TT.doS E I _ _ _ hn.2.1 (by omega))
  · exact .inl rfl
theorem TT.loc (d : Int) (s : St) (m : Sm) (hm : m.ex = .nil ∧ m.body = .nil) (h : s.here < l.length) (hf : 20 * (l.length - s.here) + 15 ≤ f) : Tot (GM l s) (P.loc l r d s m) := by
  obtain ⟨op, ex, body, ty, nm, n, pos⟩ := m
  obtain ⟨rfl, rfl⟩ : ex = .nil ∧ body = .nil := hm
  unfold P.loc
  have h1 := E.typ h
  have h2 := E.kind h1.2.1 1
  have h3 := E.length h2.2.1
  dsimp only
  split
  · have h4 := E.next h3.2
    have h5 : G1 l s (P.next l (P.length l (P.kind l 1 (P.typ l s).2)).2) := by simp only [G1, G] at *; omega
    clear h1 h2 h3 h4
    simp only [G1] at h5
    refine (TT.told E I _ _ h5.2.1 (by omega)).bind fun a b hb => Tot.is ?_
    simp only [GM, GS, GB, GR, GE, GEn, GX, GX1, G1, G, exNil_sz, ex0_sz, one_size, two_size, three_size, sm_sz, oneS_all, Exs.size_snoc, Sts.all_snoc, Exs.size, Sts.all] at *
    omega
  · have h4 := E.need h3.2 [59]
    exact Tot.is (by simp only [GM, GS, GB, GR, GE, GEn, GX, GX1, G1, G, exNil_sz, ex0_sz, one_size, two_size, three_size, sm_sz, oneS_all, Exs.size_snoc, Sts.all_snoc, Exs.size, Sts.all] at *; omega)
theorem TT.wordless (d : Int) (s : St) (m : Sm) (hm : m.ex = .nil ∧ m.body = .nil) (h : s.here < l.length) (hf : 20 * (l.length - s.here) + 17 ≤ f + 1) : Tot (GM l s) (P.wordless l r d s m) := by
  unfold P.wordless
  have hn := E.next h
  have h1 := E.need hn.2.1 [58]
  obtain ⟨op, ex, body, ty, nm, n, pos⟩ := m
  obtain ⟨rfl, rfl⟩ : ex = .nil ∧ body = .nil := hm
  split
  · exact Tot.is (by simp only [GM, GS, GB, GR, GE, GEn, GX, GX1, G1, G, exNil_sz, ex0_sz, one_size, two_size, three_size, sm_sz, oneS_all, Exs.size_snoc, Sts.all_snoc, Exs.size, Sts.all] at *; omega)
  split
  · exact TT.loc E I _ _ _ ⟨rfl, rfl⟩ h (by omega)
  split
  · rename_i hi
    have hp := E.is h _ (by decide) hi
    refine (TT.blockAt E I _ _ hp (by omega)).bind fun a b hb => Tot.is ?_
    simp only [GM, GS, GB, GR, GE, GEn, GX, GX1, G1, G, exNil_sz, ex0_sz, one_size, two_size, three_size, sm_sz, oneS_all, Exs.size_snoc, Sts.all_snoc, Exs.size, Sts.all] at *
    omega
  split
  · exact Tot.is (by simp only [GM, GS, GB, GR, GE, GEn, GX, GX1, G1, G, exNil_sz, ex0_sz, one_size, two_size, three_size, sm_sz, oneS_all, Exs.size_snoc, Sts.all_snoc, Exs.size, Sts.all] at *; omega)
  · refine (TT.told E I _ _ h (by omega)).bind fun a b hb => Tot.is ?_
    simp only [GM, GS, GB, GR, GE, GEn, GX, GX1, G1, G, exNil_sz, ex0_sz, one_size, two_size, three_size, sm_sz, oneS_all, Exs.size_snoc, Sts.all_snoc, Exs.size, Sts.all] at *
    omega
theorem TT.stmtAt (d : Int) (s : St) (m : Sm) (hm : m.ex = .nil ∧ m.body = .nil) (h : s.here < l.length) (hf : 20 * (l.length - s.here) + 17 ≤ f + 1) : Tot (GM l s) (P.stmt1 l r d s m) := by
  unfold P.stmt1
  rcases TT.short E I d s m hm h hf with h1 | ⟨a, b, h1, hb⟩
  · rw [h1]
    rcases TT.holding E I d s m h hf with h2 | ⟨a, b, h2, hb⟩
    · simp only [Option.bind_some, h2]
      exact TT.wordless E I d s m hm h hf
    · simp only [Option.bind_some, h2]
      exact Tot.is hb
  · rw [h1]
    exact Tot.is hb
theorem TT.stmt1 (d : Int) (s : St) (h : s.here < l.length) (hf : 20 * (l.length - s.here) + 17 ≤ f + 1) : Tot (GM l s) (P.stmt l r d s) := by
  unfold P.stmt
  have hb := E.begin h d
  simp only [G] at hb
  obtain ⟨c, b2, e2, hb2⟩ := TT.stmtAt E I d _ { sm0 with pos := (P.tok l (P.begin l d s)).pos } ⟨rfl, rfl⟩ hb.2 (by omega)
  exact ⟨c, b2, e2, by simp only [GM, GS, GB, GR, GE, GEn, GX, GX1, G1, G, exNil_sz, ex0_sz, one_size, two_size, three_size, sm_sz, oneS_all, Exs.size_snoc, Sts.all_snoc, Exs.size, Sts.all] at *; omega⟩
theorem TT.step : TT l ⟨P.expr l r, P.cond l r, P.bin r, P.binL l r, P.unary l r, P.postL l r, P.argL l r, P.stmt l r, P.blkL l r⟩ (f + 1) :=
  ⟨fun d s h hf => TT.expr1 E I d s h hf, fun d s h hf => TT.cond1 E I d s h hf, fun lv d s h1 h2 h hf => TT.bin1 E I lv d s h1 h2 h hf, fun lv d e s h1 h2 h hf => TT.binL1 E I lv d e s h1 h2 h hf, fun d s h hf => TT.unary1 E I d s h hf,
    fun d e s h hf => TT.postL1 E I d e s h hf, fun d e s h hf => TT.argL1 E I d e s h hf, fun d s h hf => TT.stmt1 E I d s h hf, fun d e s h hf => TT.blkL1 E I d e s h hf⟩
end
theorem TT.recs {l : List Tok} (E : Ends l) : ∀ f, TT l (P.recs l f) f := by
  intro f
  induction f with
  | zero => exact ⟨fun _ _ h hf => by omega, fun _ _ h hf => by omega, fun _ _ _ _ _ h hf => by omega, fun _ _ _ _ _ _ h hf => by omega, fun _ _ h hf => by omega, fun _ _ _ h hf => by omega, fun _ _ _ h hf => by omega, fun _ _ h hf => by omega, fun _ _ _ h hf => by omega⟩
  | succ f ih => exact TT.step E ih
/-- A function that is not too large. -/
def Fn.Fine (l : List Tok) (e : Fn) : Prop := e.params.length ≤ l.length + 1 ∧ (∀ d ∈ e.params, d.init = []) ∧ e.body.all ≤ 8 * l.length
/-- A program that is not too large. -/
structure Un.Fine (l : List Tok) (k : Nat) (u : Un) : Prop where
  globals : u.globals.length ≤ k
  inits : ∀ d ∈ u.globals, d.init.length ≤ l.length + 1
  funcs : u.funcs.length ≤ k
  fns : ∀ e ∈ u.funcs, e.Fine l
theorem Un.Fine.mono {l : List Tok} {k m : Nat} {u : Un} (h : u.Fine l k) (hm : k ≤ m) : u.Fine l m := ⟨Nat.le_trans h.globals hm, h.inits, Nat.le_trans h.funcs hm, h.fns⟩
section
variable {l : List Tok} (E : Ends l)
include E
theorem Ends.param {s : St} (h : s.here < l.length) : G1 l s (P.param l s).2 := by
  unfold P.param
  have h1 := E.typ h
  have h2 := E.kind h1.2.1 1
  simp only [G1] at *
  omega
theorem Ends.failIf {s : St} (h : s.here < l.length) {c : Prop} [Decidable c] (e p : Int) : G l s (if c then P.fail l e p s else s) := by
  split
  · exact ⟨(E.fail h _ _).1, (E.fail h _ _).2.1⟩
  · exact ⟨Nat.le_refl _, h⟩
theorem Ends.parL : ∀ (f : Nat) (a : List Dec) (s : St), s.here < l.length → l.length - s.here ≤ f → (∀ d ∈ a, d.init = []) → Tot (fun x s' => G l s s' ∧ x.length + s.here ≤ s'.here + a.length + 1 ∧ ∀ d ∈ x, d.init = []) (P.parL l f a s) := by
  intro f
  induction f with
  | zero => intro a s h hf; omega
  | succ f ih =>
    intro a s h hf ha
    unfold P.parL
    have h1 := E.failIf h (c := a.length = 4) 2 (P.tok l s).pos
    revert h1
    dsimp only
    generalize (if a.length = 4 then P.fail l 2 (P.tok l s).pos s else s) = s2
    intro h1
    have hp := E.param h1.2
    have hin : ∀ d ∈ a ++ [(P.param l s2).1], d.init = [] := by
      intro d hd
      rcases List.mem_append.1 hd with hd | hd
      · exact ha d hd
      · rw [List.mem_singleton.1 hd]; rfl
    split
    · rename_i hi
      have h2 := E.is hp.2.1 _ (by decide) hi
      have h3 := E.next hp.2.1
      simp only [G1, G] at h1 hp h3
      obtain ⟨c, b2, e2, hb2⟩ := ih (a ++ [(P.param l s2).1]) _ h3.2.1 (by omega) hin
      refine ⟨c, b2, e2, ?_, ?_, hb2.2.2⟩
      · have := hb2.1; simp only [G] at *; omega
      · have := hb2.2.1; rw [List.length_append, List.length_singleton] at this; omega
    · refine Tot.is ⟨by simp only [G1, G] at *; omega, ?_, hin⟩
      simp only [G1, G] at *
      rw [List.length_append, List.length_singleton]
      omega
theorem Ends.params {s : St} (f : Nat) (h : s.here < l.length) (hf : l.length ≤ f) : Tot (fun x s' => G l s s' ∧ x.length ≤ l.length + 1 ∧ ∀ d ∈ x, d.init = []) (P.params l f s) := by
  unfold P.params P.params2
  have h1 := E.need h [40]
  have h2 : G l s (if P.is l [118, 111, 105, 100] (P.need l [40] s) && (P.snd l (P.need l [40] s)).text == [41] then P.next l (P.need l [40] s) else P.need l [40] s) := by
    split
    · have h2 := E.next h1.2.1
      simp only [G1, G] at *
      omega
    · exact ⟨h1.1, h1.2.1⟩
  clear h1
  revert h2
  generalize (if P.is l [118, 111, 105, 100] (P.need l [40] s) && (P.snd l (P.need l [40] s)).text == [41] then P.next l (P.need l [40] s) else P.need l [40] s) = s2
  intro h2
  split
  · have h3 := E.next h2.2
    exact Tot.is ⟨by simp only [G1, G] at *; omega, by simp, by simp⟩
  · refine (Ends.parL E f [] _ h2.2 (by omega) (by simp)).bind fun a b hb => Tot.is ?_
    have h3 := E.need hb.1.2 [41]
    refine ⟨?_, ?_, hb.2.2⟩
    · have := hb.1; simp only [G1, G] at *; omega
    · have h5 := hb.1; have h6 := hb.2.1; simp only [G, List.length_nil] at *; omega
theorem Ends.func {s : St} (f : Nat) (t : Ty) (nm : Tok) (h : s.here < l.length) (hf : 20 * l.length + 18 ≤ f) : Tot (fun x s' => G l s s' ∧ Fn.Fine l x) (P.func l f t nm s) := by
  unfold P.func
  refine (E.params f h (by omega)).bind fun a b hb => ?_
  obtain ⟨hb, hb5, hb6⟩ := hb
  simp only [G] at hb
  refine (TT.block E (TT.recs E f) 1 b hb.2 (by omega)).bind fun a b2 hb2 => Tot.is ?_
  simp only [GS, G] at hb2
  refine ⟨by simp only [G] at *; omega, hb5, hb6, ?_⟩
  dsimp only
  omega
theorem Ends.iniL : ∀ (f : Nat) (n : Int) (a : List Int) (s : St), s.here < l.length → l.length - s.here ≤ f → Tot (fun x s' => G l s s' ∧ x.length + s.here ≤ s'.here + a.length + 1) (P.iniL l f n a s) := by
  intro f
  induction f with
  | zero => intro n a s h hf; omega
  | succ f ih =>
    intro n a s h hf
    unfold P.iniL
    have h1 := E.failIf h (c := (a.length : Int) = n ∧ ((P.tok l s).kind = 2 ∨ P.is l [45] s = true)) 10 (P.tok l s).pos
    revert h1
    dsimp only
    generalize (if (a.length : Int) = n ∧ ((P.tok l s).kind = 2 ∨ P.is l [45] s = true) then P.fail l 10 (P.tok l s).pos s else s) = s2
    intro h1
    have hp := E.value h1.2
    split
    · rename_i hi
      have h2 := E.is hp.2.1 _ (by decide) hi
      have h3 := E.next hp.2.1
      simp only [G1, G] at h1 hp h3
      obtain ⟨c, b2, e2, hb2⟩ := ih n (a ++ [(P.value l s2).1]) _ h3.2.1 (by omega)
      refine ⟨c, b2, e2, ?_, ?_⟩
      · have := hb2.1; simp only [G] at *; omega
      · have := hb2.2; rw [List.length_append, List.length_singleton] at this; omega
    · refine Tot.is ⟨by simp only [G1, G] at *; omega, ?_⟩
      simp only [G1, G] at *
      rw [List.length_append, List.length_singleton]
      omega
theorem Ends.initial {s : St} (f : Nat) (n : Int) (h : s.here < l.length) (hf : l.length ≤ f) : Tot (fun x s' => G l s s' ∧ x.length ≤ l.length + 1) (P.initial l f n s) := by
  unfold P.initial
  split
  · have h1 := E.value h
    exact Tot.is ⟨⟨h1.1, h1.2.1⟩, by simp⟩
  · have h1 := E.need h [123]
    simp only [G1] at h1
    refine (Ends.iniL E f n [] _ h1.2.1 (by omega)).bind fun a b hb => Tot.is ?_
    have h3 := E.need hb.1.2 [125]
    have h5 := hb.1
    have h6 := hb.2
    refine ⟨by simp only [G1, G] at *; omega, ?_⟩
    simp only [G, List.length_nil] at *
    omega
theorem Ends.global {s : St} (f : Nat) (t : Ty) (nm : Tok) (h : s.here < l.length) (hf : l.length ≤ f) : Tot (fun d s' => G l s s' ∧ d.init.length ≤ l.length + 1) (P.global l f t nm s) := by
  unfold P.global
  have h1 := E.length h
  dsimp only
  split
  · have h2 := E.next h1.2
    refine (E.initial f _ h2.2.1 hf).bind fun a b hb => Tot.is ?_
    have h3 := E.need hb.1.2 [59]
    have h5 := hb.1
    exact ⟨by simp only [G1, G] at *; omega, hb.2⟩
  · have h3 := E.need h1.2 [59]
    exact Tot.is ⟨by simp only [G1, G] at *; omega, by simp⟩
theorem Ends.item {s : St} (f : Nat) (u : Un) (k : Nat) (hu : u.Fine l k) (h : s.here < l.length) (hf : 20 * l.length + 18 ≤ f) : Tot (fun u' s' => G1 l s s' ∧ u'.Fine l (k + 1)) (P.item l f u s) := by
  unfold P.item
  have h1 := E.typ h
  have h2 := E.kind h1.2.1 1
  have h3 := E.failIf h2.2.1 (c := u.funcs.length = 8) 2 (P.kindT l 1 (P.typ l s).2).pos
  have h4 := E.failIf h2.2.1 (c := u.globals.length = 16) 2 (P.kindT l 1 (P.typ l s).2).pos
  dsimp only
  split
  · refine (E.func f _ _ h3.2 hf).bind fun a b hb => Tot.is ⟨?_, ?_⟩
    · have h5 := hb.1; simp only [G1, G] at *; omega
    · refine ⟨Nat.le_succ_of_le hu.globals, hu.inits, by rw [List.length_append, List.length_singleton]; have := hu.funcs; omega, fun e he => ?_⟩
      rcases List.mem_append.1 he with he | he
      · exact hu.fns e he
      · rw [List.mem_singleton.1 he]; exact hb.2
  · refine (E.global f _ _ h4.2 (by omega)).bind fun a b hb => Tot.is ⟨?_, ?_⟩
    · have h5 := hb.1; simp only [G1, G] at *; omega
    · refine ⟨by rw [List.length_append, List.length_singleton]; have := hu.globals; omega, fun e he => ?_, Nat.le_succ_of_le hu.funcs, hu.fns⟩
      rcases List.mem_append.1 he with he | he
      · exact hu.inits e he
      · rw [List.mem_singleton.1 he]; exact hb.2
theorem Ends.unitL (f : Nat) (hf : 20 * l.length + 18 ≤ f) : ∀ (g : Nat) (u : Un) (s : St), s.here < l.length → l.length - s.here ≤ g → u.Fine l s.here → Tot (fun u' s' => u'.Fine l l.length) (P.unitL l f g u s) := by
  intro g
  induction g with
  | zero => intro u s h hg; omega
  | succ g ih =>
    intro u s h hg hu
    unfold P.unitL
    split
    · exact Tot.is (hu.mono (by omega))
    · rename_i hk
      have h1 := E.kindNe h hk
      refine (E.item f u s.here hu h hf).bind fun a b hb => ?_
      have h5 := hb.1
      simp only [G1] at h5
      exact ih a b h5.2.1 (by omega) (hb.2.mono (by omega))
end
theorem getD_left (l m : List Tok) (k : Nat) (h : k < l.length) (t : Tok) : (l ++ m).getD k t = l[k] := by
  rw [List.getD_eq_getElem?_getD, List.getElem?_append_left h, List.getElem?_eq_getElem h]; rfl
theorem ends_of (l0 : List Tok) (p : Nat) (h : ∀ t ∈ l0, t.kind ≠ 0) : Ends (l0 ++ [⟨0, [], 0, p⟩]) := by
  refine ⟨by simp, by simp, by simp, fun k hk => ?_⟩
  have hk2 : k < l0.length := by simpa using hk
  rw [getD_left _ _ _ hk2]
  exact h _ (List.getElem_mem hk2)
/-- What every program is that a text is. -/
structure Un.Bound (u : Un) : Prop where
  globals : u.globals.length ≤ 20000
  inits : ∀ d ∈ u.globals, d.init.length ≤ 20000
  funcs : u.funcs.length ≤ 20000
  params : ∀ e ∈ u.funcs, e.params.length ≤ 20000
  none_ : ∀ e ∈ u.funcs, ∀ d ∈ e.params, d.init = []
  body : ∀ e ∈ u.funcs, e.body.all ≤ 20000
def URes.Bound : URes → Prop
  | .bad _ _ => True
  | .ok u => u.Bound
/-- Each text is something. -/
theorem parseR_some (t : List UInt8) : ∃ R, parseR t = some R ∧ R.Bound := by
  unfold parseR
  rcases lexR_out t with ⟨e, p, h, _⟩ | ⟨l, p, h, hl, hk⟩
  · rw [h]; exact ⟨_, rfl, trivial⟩
  · rw [h]
    have E := ends_of l p hk
    have hlen : (l ++ [(⟨0, [], 0, p⟩ : Tok)]).length ≤ 2001 := by simp; omega
    obtain ⟨a, b, e, hb⟩ := Ends.unitL E fuelP (by unfold fuelP; omega) fuelP un0 ⟨0, 0, 0⟩ (by simp) (by unfold fuelP; omega) ⟨Nat.le_refl _, by simp [un0], Nat.le_refl _, by simp [un0]⟩
    refine ⟨_, by dsimp only; rw [e]; rfl, ?_⟩
    dsimp only
    split
    · exact ⟨by have := hb.globals; omega, fun d hd => by have := hb.inits d hd; omega, by have := hb.funcs; omega, fun e he => by have := (hb.fns e he).1; omega, fun e he => (hb.fns e he).2.1, fun e he => by have := (hb.fns e he).2.2; omega⟩
    · trivial
end Go.Proofs.YtjmemapkipkocaaDoor

/-
  Two blanks ahead of a text and a line's end behind it, plainly: the same tokens, two further on.
-/
namespace Go.Proofs.YtjmemapkipkocaaDoor
set_option linter.unusedVariables false
namespace Bk
def post : List UInt8 := [10]
def sh (t : Tok) : Tok := ⟨t.kind, t.text, t.n, t.pos + 2⟩
def shK (t : Tok) : Tok := if t.kind = 0 then ⟨t.kind, t.text, t.n, t.pos + 3⟩ else sh t
def shR : Res → Res
  | .bad e p => .bad e (p + 2)
  | .ok l => .ok (l.map shK)
theorem tw_app {p : UInt8 → Bool} (h : p 10 = false) (r : List UInt8) : (r ++ post).takeWhile p = r.takeWhile p := by
  induction r with
  | nil => simp [post, h]
  | cons c r ih => cases hc : p c <;> simp [hc, ih]
theorem drop_app (r : List UInt8) (n : Nat) (h : n ≤ r.length) : (r ++ post).drop n = r.drop n ++ post := List.drop_append_of_le_length h
theorem getD_app (r : List UInt8) (n : Nat) (h : n ≤ r.length) : isLet ((r ++ post).getD n 0) = isLet (r.getD n 0) := by
  induction r generalizing n with
  | nil =>
    obtain rfl : n = 0 := by simpa using h
    rfl
  | cons c r ih =>
    cases n with
    | zero => rfl
    | succ n => exact ih n (by simpa using h)
theorem pre_app : ∀ (t r : List UInt8), (10 : UInt8) ∉ t → t.isPrefixOf (r ++ post) = t.isPrefixOf r
  | [], r, _ => by simp
  | a :: t, [], h => by
    have : (a == 10) = false := by
      simp only [List.mem_cons, not_or] at h
      simp [Ne.symm h.1]
    simp [post, List.isPrefixOf, this]
  | a :: t, b :: r, h => by
    simp only [List.cons_append, List.isPrefixOf]
    rw [pre_app t r (fun hm => h (List.mem_cons_of_mem _ hm))]
theorem sg_app (r : List UInt8) : sgT (r ++ post) = sgT r := by
  have H : ∀ t ∈ signsL, (10 : UInt8) ∉ t := by decide +kernel
  unfold sgT
  have : ∀ l : List (List UInt8), (∀ t ∈ l, (10 : UInt8) ∉ t) → l.find? (fun t => t.isPrefixOf (r ++ post)) = l.find? (fun t => t.isPrefixOf r) := by
    intro l
    induction l with
    | nil => intro _; rfl
    | cons t l ih =>
      intro hl
      rw [List.find?_cons, List.find?_cons, pre_app t r (hl t (by simp)), ih (fun u hu => hl u (by simp [hu]))]
  exact this _ H
theorem tw_le (p : UInt8 → Bool) (r : List UInt8) : (r.takeWhile p).length ≤ r.length := cnt_le
theorem map_snoc (acc : List Tok) (t : Tok) : acc.map sh ++ [sh t] = (acc ++ [t]).map sh := by simp
theorem map_end (acc : List Tok) (h : ∀ t ∈ acc, t.kind ≠ 0) (p : Nat) : (acc ++ [(⟨0, [], 0, p⟩ : Tok)]).map shK = acc.map sh ++ [⟨0, [], 0, p + 3⟩] := by
  rw [List.map_append]
  congr 1
  exact List.map_congr_left fun t ht => by rw [shK, if_neg (h t ht)]
theorem kinds_snoc {acc : List Tok} {t : Tok} (h : ∀ t ∈ acc, t.kind ≠ 0) (ht : t.kind ≠ 0) : ∀ u ∈ acc ++ [t], u.kind ≠ 0 := by
  intro u hu
  rcases List.mem_append.1 hu with hu | hu
  · exact h u hu
  · simp at hu; subst hu; exact ht
theorem shift : ∀ (n : Nat) (r : List UInt8) (pos : Nat) (acc : List Tok), r.length ≤ n → (∀ t ∈ acc, t.kind ≠ 0) → SS (r ++ post) (pos + 2) (acc.map sh) = shR (SS r pos acc)
  | n, [], pos, acc, _, hk => by
    rw [SS_nil, shR, map_end acc hk]
    rfl
  | 0, c :: r, pos, acc, hn, _ => by simp at hn
  | n + 1, c :: r, pos, acc, hn, hk => by
    have hr : r.length ≤ n := by simpa using hn
    have go_on : ∀ (m : Nat) (t : Tok), 0 < m → m ≤ (c :: r).length → t.kind ≠ 0 → SS ((c :: r ++ post).drop m) (pos + 2 + m) (acc.map sh ++ [sh t]) = shR (SS ((c :: r).drop m) (pos + m) (acc ++ [t])) := by
      intro m t hm hml ht
      rw [drop_app _ _ hml, map_snoc, Nat.add_right_comm]
      exact shift n _ _ _ (by simp at hml ⊢; omega) (kinds_snoc hk ht)
    cases hb : isBl c with
    | true =>
      rw [List.cons_append, SS_blank _ _ hb, SS_blank _ _ hb, Nat.add_right_comm]
      exact shift n r (pos + 1) acc hr hk
    | false =>
      cases hl : isLet c with
      | true =>
        rw [List.cons_append, SS_name _ _ hb hl, SS_name _ _ hb hl, ← List.cons_append, tw_app (by decide)]
        refine go_on _ ⟨_, _, _, _⟩ (tw_pos (by simp [isAl, hl])) (tw_le _ _) ?_
        show (if _ then (4 : Int) else 1) ≠ 0
        split <;> decide
      | false =>
        cases hd : isDig c with
        | true =>
          rw [List.cons_append, SS_num _ _ hb hl hd, SS_num _ _ hb hl hd, ← List.cons_append, tw_app (by decide), getD_app _ _ (tw_le _ _)]
          split
          · rfl
          split
          · rfl
          exact go_on _ ⟨2, [], _, pos⟩ (tw_pos hd) (tw_le _ _) (by show (2 : Int) ≠ 0; decide)
        | false =>
          rw [List.cons_append, SS_sign _ _ hb hl hd, SS_sign _ _ hb hl hd, ← List.cons_append, sg_app]
          cases hs : sgT (c :: r) with
          | none => rfl
          | some t =>
            have h1 := sgT_some hs
            exact go_on _ ⟨3, t, 0, pos⟩ (signs_pos h1.1).1 h1.2.length_le (by show (3 : Int) ≠ 0; decide)
theorem blanks_around (l : List UInt8) (h : l.length ≤ 1000) : lexR ([32, 32] ++ l ++ [10]) = shR (lexR l) := by
  rw [lexR, if_neg (by simp; omega), lexR, if_neg (by omega)]
  have e : [32, 32] ++ l ++ [10] = 32 :: 32 :: (l ++ post) := by simp [post]
  rw [e, SS_blank _ _ (by decide), SS_blank _ _ (by decide)]
  exact shift l.length l 0 [] (Nat.le_refl _) (by simp)
def Fine (B : Nat) (t : Tok) : Prop := t.kind ≠ 0 ∧ t.pos ≤ B
/-- What comes out: a fault, or tokens and the end, which stands at the text's end; all of it stands in the text. -/
def Out (B : Nat) (R : Res) : Prop := (∃ e p, R = .bad e p ∧ e ≠ 0 ∧ p ≤ B) ∨ ∃ l, R = .ok (l ++ [⟨0, [], 0, B⟩]) ∧ ∀ t ∈ l, Fine B t
theorem fine_snoc {B : Nat} {acc : List Tok} {t : Tok} (h : ∀ t ∈ acc, Fine B t) (ht : Fine B t) : ∀ u ∈ acc ++ [t], Fine B u := by
  intro u hu
  rcases List.mem_append.1 hu with hu | hu
  · exact h u hu
  · simp at hu; subst hu; exact ht
theorem kinds_of (B : Nat) : ∀ (n : Nat) (r : List UInt8) (pos : Nat) (acc : List Tok), r.length ≤ n → pos + r.length = B → (∀ t ∈ acc, Fine B t) → Out B (SS r pos acc)
  | n, [], pos, acc, _, hB, hk => .inr ⟨acc, by rw [SS_nil]; rw [show B = pos by simpa using hB.symm], hk⟩
  | 0, c :: r, pos, acc, hn, _, _ => by simp at hn
  | n + 1, c :: r, pos, acc, hn, hB, hk => by
    have hr : r.length ≤ n := by simpa using hn
    have hpB : pos ≤ B := by omega
    have go_on : ∀ (m : Nat) (t : Tok), 0 < m → m ≤ (c :: r).length → Fine B t → Out B (SS ((c :: r).drop m) (pos + m) (acc ++ [t])) :=
      fun m t hm hml ht => kinds_of B n _ _ _ (by simp; omega) (by rw [List.length_drop]; omega) (fine_snoc hk ht)
    cases hb : isBl c with
    | true => rw [SS_blank _ _ hb]; exact kinds_of B n r _ acc hr (by simp at hB; omega) hk
    | false =>
      cases hl : isLet c with
      | true =>
        rw [SS_name _ _ hb hl]
        refine go_on _ ⟨_, _, _, _⟩ (tw_pos (by simp [isAl, hl])) (tw_le _ _) ⟨?_, hpB⟩
        show (if _ then (4 : Int) else 1) ≠ 0
        split <;> decide
      | false =>
        cases hd : isDig c with
        | true =>
          rw [SS_num _ _ hb hl hd]
          split
          · exact .inl ⟨10, pos, rfl, by decide, hpB⟩
          split
          · exact .inl ⟨3, pos, rfl, by decide, hpB⟩
          exact go_on _ ⟨2, [], _, pos⟩ (tw_pos hd) (tw_le _ _) ⟨by show (2 : Int) ≠ 0; decide, hpB⟩
        | false =>
          rw [SS_sign _ _ hb hl hd]
          cases hs : sgT (c :: r) with
          | none => exact .inl ⟨3, pos, rfl, by decide, hpB⟩
          | some t =>
            have h1 := sgT_some hs
            exact go_on _ ⟨3, t, 0, pos⟩ (signs_pos h1.1).1 h1.2.length_le ⟨by show (3 : Int) ≠ 0; decide, hpB⟩
theorem lex_out (l : List UInt8) (h : l.length ≤ 1000) : Out l.length (lexR l) := by
  rw [lexR, if_neg (by omega)]
  exact kinds_of l.length l.length l 0 [] (Nat.le_refl _) (by omega) (by simp)
end Bk
end Go.Proofs.YtjmemapkipkocaaDoor

/-
  Two blanks ahead of a text and a line's end behind it: the same program but for where things stand, or the same fault.
-/
namespace Go.Proofs.YtjmemapkipkocaaDoor
open Go.RowKit
set_option linter.unusedVariables false
set_option linter.unusedSimpArgs false

theorem tw_blanks (l0 : List Tok) (B : Nat) (h : ∀ t ∈ l0, Bk.Fine B t) : Tw (l0 ++ [(⟨0, [], 0, B⟩ : Tok)]) ((l0 ++ [(⟨0, [], 0, B⟩ : Tok)]).map Bk.shK) (fun p p' => (p' = p + 2 ∨ p = (B : Int)) ∧ 0 ≤ p ∧ p ≤ (B : Int)) := by
  have E := ends_of l0 B (fun t ht => (h t ht).1)
  refine ⟨by simp, E.pos, E.last, fun k hk => ?_⟩
  have h1 : ((l0 ++ [(⟨0, [], 0, B⟩ : Tok)]).map Bk.shK).getD k P.eTok = Bk.shK ((l0 ++ [(⟨0, [], 0, B⟩ : Tok)]).getD k P.eTok) := by
    rw [List.getD_eq_getElem?_getD, List.getD_eq_getElem?_getD, List.getElem?_map, List.getElem?_eq_getElem hk]
    rfl
  rw [h1]
  rcases Nat.lt_or_ge k l0.length with h2 | h2
  · have h3 : (l0 ++ [(⟨0, [], 0, B⟩ : Tok)]).getD k P.eTok = l0[k] := getD_left _ _ _ h2 _
    rw [h3, Bk.shK, if_neg (h _ (List.getElem_mem h2)).1]
    have h5 := (h _ (List.getElem_mem h2)).2
    exact ⟨rfl, rfl, rfl, .inl rfl, by omega, by omega⟩
  · have h4 : k = l0.length := by simp at hk; omega
    subst h4
    have h3 : (l0 ++ [(⟨0, [], 0, B⟩ : Tok)]).getD l0.length P.eTok = ⟨0, [], 0, B⟩ := by simp
    rw [h3]
    exact ⟨rfl, rfl, rfl, .inr rfl, by dsimp only; omega, by dsimp only; omega⟩
theorem blanks_parse (t : List UInt8) (h : t.length ≤ 1000) :
    (∃ (e p p' : Int), parseR t = some (.bad e p) ∧ parseR ([32, 32] ++ t ++ [10]) = some (.bad e p') ∧ e ≠ 0 ∧ (p' = p + 2 ∨ p = t.length) ∧ 0 ≤ p ∧ p ≤ t.length) ∨
    ∃ u u', parseR t = some (.ok u) ∧ parseR ([32, 32] ++ t ++ [10]) = some (.ok u') ∧ u.bare = u'.bare ∧ u.Bound ∧ u'.Bound := by
  obtain ⟨R, hR, hB⟩ := parseR_some t
  obtain ⟨R', hR', hB'⟩ := parseR_some ([32, 32] ++ t ++ [10])
  rw [hR, hR']
  unfold parseR at hR hR'
  rw [Bk.blanks_around t h] at hR'
  rcases Bk.lex_out t h with ⟨e, p, hl, he, hp⟩ | ⟨l, hl, hk⟩
  · rw [hl] at hR hR'
    obtain rfl := Option.some.inj hR
    obtain rfl := Option.some.inj hR'
    exact .inl ⟨e, p, (p + 2 : Nat), rfl, rfl, he, .inl (by simp), by omega, by omega⟩
  · rw [hl] at hR hR'
    obtain ⟨a, ha, hR⟩ := Option.map_eq_some_iff.1 hR
    obtain ⟨b, hb, hR'⟩ := Option.map_eq_some_iff.1 hR'
    have T := tw_blanks l t.length hk
    have h1 := SR.unitL T fuelP fuelP un0 un0 ⟨0, 0, 0⟩ ⟨0, 0, 0⟩ rfl ⟨rfl, T.pos, rfl, fun h => absurd rfl h⟩
    rw [ha, hb] at h1
    obtain ⟨hu, hs⟩ := h1
    rw [hs.err] at hR'
    split at hR
    · rename_i h0
      rw [if_pos h0] at hR'
      subst hR hR'
      exact .inr ⟨_, _, rfl, rfl, hu, hB, hB'⟩
    · rename_i h0
      rw [if_neg h0] at hR'
      subst hR hR'
      exact .inl ⟨_, _, _, rfl, rfl, h0, hs.pos h0⟩
end Go.Proofs.YtjmemapkipkocaaDoor

/-
  Functions and globals: one of them.
-/
namespace Go.Proofs.YtjmemapkipkocaaDoor
open Go.RowKit Go.Maps
set_option linter.unusedVariables false
set_option linter.unusedSimpArgs false
set_option maxRecDepth 100000
set_option maxHeartbeats 1000000

theorem item_step (c : Cx) (hc : c.Ok) (f : Nat) (hf : f + 2 ≤ 1000000000) (GS : ∀ k, k ≤ f → GoodS c k) (q lo : Nat) (u : Un) (s : St) (R : Un × St) (w : World) (ga fa : Option Addr) (gn gc fn fc : Nat)
    (hu : u.funcs.length ≤ 1000000 ∧ u.globals.length ≤ 1000000) (hR : P.item c.l f u s = some R) (h : PIn w c s) (hq : OwnB w q #[.slice ga gn gc, .slice fa fn fc] 27)
    (hn : q ≠ c.g ∧ q ≠ c.gt ∧ q ≠ c.mb ∧ q ≠ 2) (hlo : q < lo ∧ c.g < lo ∧ c.gt < lo ∧ c.mb < lo ∧ 2 < lo ∧ lo ≤ w.heap.size) (hU : UIn w lo w.heap.size u (.slice ga gn gc) (.slice fa fn fc)) :
    Calls Tryd.prog 23 #[pv c, .pointer (some ⟨q, 0, none⟩)] w (DoesU c q lo R w) := by
  have HN := Lib.hid (NowQ.start h)
  have hg := HN.out.now.g
  have hgt := HN.out.now.gt
  have hqlt := lt_of_blk hq.blk
  have hq1 : q ≠ c.g := hn.1
  obtain ⟨yq, xq, zq⟩ := hq.facts
  obtain ⟨T, hT⟩ : ∃ T, T = P.typ c.l s := ⟨_, rfl⟩
  have CT := fun W H => Lib.hid (typeOf_any c hc s W H)
  rw [← hT] at CT
  have CN := fun W H => Lib.hid (name_any c hc T.2 W H)
  obtain ⟨N, hN⟩ : ∃ N, N = P.kindT c.l 1 T.2 := ⟨_, rfl⟩
  obtain ⟨s2, hs2⟩ : ∃ s2, s2 = P.kind c.l 1 T.2 := ⟨_, rfl⟩
  rw [← hN, ← hs2] at CN
  have CI := fun W H => Lib.hid (is_any c hc s2 W H [40])
  simp only [P.item, ← hT, ← hN, ← hs2] at hR
  have hfl : fn = u.funcs.length := by obtain ⟨_, _, _, _, h3, _⟩ := hU; exact h3.len
  have hgl : gn = u.globals.length := by obtain ⟨_, _, _, h3, _⟩ := hU; exact h3.len
  subst hfl hgl
  have HU := Lib.hid hU
  clear h hU hN hs2 hT
  cases ki : P.is c.l [40] s2 with
  | true =>
    rw [ki, if_pos rfl] at hR
    rw [ki] at CI
    by_cases h8 : u.funcs.length = 8
    · rw [if_pos h8] at hR
      obtain ⟨F, hF, hR⟩ := Option.bind_eq_some_iff.1 hR
      obtain rfl := Option.some.inj hR
      have h8' : ((u.funcs.length : Int) == 8) = true := by simp [h8]
      have CF := fun W H => Lib.hid (fail_any c hc s2 W H 2 N.pos)
      have CX := fun W H => Lib.hid (function_step c hc f hf GS T.1 N _ F W hF H)
      clear hR hF ki h8
      unfold pv
      go_enter Tryd.func23, Tryd.ntmps23
      go_wp2_with fail
      refine (CT _ (NowQ.pin (NowQ.to HN.out [] Keeps.au (fun b hb => absurd hb List.not_mem_nil) (fun q _ b hb => absurd hb List.not_mem_nil)))).out.mono ?_
      rintro e w1 ⟨rfl, hP, hK⟩
      have hz_w1 := hK.size
      try simp only [World.size_alloc, World.size_setCell, World.size_drew, World.heap_drewN] at hz_w1
      have O_w1_0 : OwnB w1 (q) #[.slice ga u.globals.length gc, .slice fa u.funcs.length fc] 27 := OwnB.call OwnB.au hK (by simp only [List.mem_singleton]; omega)
      obtain ⟨y_w1_0, x_w1_0, b_w1_0⟩ := O_w1_0.facts
      have HN1 := Lib.hid (NowQ.call (NowQ.to HN.out [] Keeps.au (fun b hb => absurd hb List.not_mem_nil) (fun q _ b hb => absurd hb List.not_mem_nil)) hP hK)
      clear hP hK
      go_wp2_with fail
      refine (CN _ (NowQ.pin (NowQ.to HN1.out [w1.heap.size] Keeps.au (by simp <;> omega) (by simp [kq, mq, dq, iq, fq] <;> omega)))).out.mono ?_
      rintro e w2 ⟨rfl, hP, hK⟩
      have hz_w2 := hK.size
      try simp only [World.size_alloc, World.size_setCell, World.size_drew, World.heap_drewN] at hz_w2
      have O_w2_0 : OwnB w2 (w1.heap.size) #[.int .i64 T.1.kind, .int .i64 T.1.ptr, .int .i64 T.1.len] 47 := OwnB.call OwnB.au hK (by simp only [List.mem_singleton]; omega)
      obtain ⟨y_w2_0, x_w2_0, b_w2_0⟩ := O_w2_0.facts
      have O_w2_1 : OwnB w2 (q) #[.slice ga u.globals.length gc, .slice fa u.funcs.length fc] 27 := OwnB.call OwnB.au hK (by simp only [List.mem_singleton]; omega)
      obtain ⟨y_w2_1, x_w2_1, b_w2_1⟩ := O_w2_1.facts
      have HN2 := Lib.hid (NowQ.call (NowQ.to HN1.out [w1.heap.size] Keeps.au (by simp <;> omega) (by simp [kq, mq, dq, iq, fq] <;> omega)) hP hK)
      clear hP hK
      go_wp2_with fail
      refine (CI _ (NowQ.pin (NowQ.to HN2.out [w1.heap.size, w2.heap.size] Keeps.au (by simp <;> omega) (by simp [kq, mq, dq, iq, fq] <;> omega)))).out.mono ?_
      rintro e w3 ⟨rfl, hP, hK⟩
      have hz_w3 := hK.size
      try simp only [World.size_alloc, World.size_setCell, World.size_drew, World.heap_drewN] at hz_w3
      have O_w3_0 : OwnB w3 (w1.heap.size) #[.int .i64 T.1.kind, .int .i64 T.1.ptr, .int .i64 T.1.len] 47 := OwnB.call OwnB.au hK (by simp only [List.mem_singleton]; omega)
      obtain ⟨y_w3_0, x_w3_0, b_w3_0⟩ := O_w3_0.facts
      have O_w3_1 : OwnB w3 (w2.heap.size) #[.int .i64 (N).kind, .string ⟨(N).text.toArray⟩, .int .i64 (N).n, .int .i64 (N).pos] 60 := OwnB.call OwnB.au hK (by simp only [List.mem_singleton]; omega)
      obtain ⟨y_w3_1, x_w3_1, b_w3_1⟩ := O_w3_1.facts
      have O_w3_2 : OwnB w3 (q) #[.slice ga u.globals.length gc, .slice fa u.funcs.length fc] 27 := OwnB.call OwnB.au hK (by simp only [List.mem_singleton]; omega)
      obtain ⟨y_w3_2, x_w3_2, b_w3_2⟩ := O_w3_2.facts
      have HN3 := Lib.hid (NowQ.call (NowQ.to HN2.out [w1.heap.size, w2.heap.size] Keeps.au (by simp <;> omega) (by simp [kq, mq, dq, iq, fq] <;> omega)) hP hK)
      clear hP hK
      go_wp2_with fail
      refine (CF _ (NowQ.pin (NowQ.to HN3.out [w1.heap.size, w2.heap.size] Keeps.au (by simp <;> omega) (by simp [kq, mq, dq, iq, fq] <;> omega)))).out.mono ?_
      rintro e w4 ⟨rfl, hP, hK⟩
      have hz_w4 := hK.size
      try simp only [World.size_alloc, World.size_setCell, World.size_drew, World.heap_drewN] at hz_w4
      have O_w4_0 : OwnB w4 (w1.heap.size) #[.int .i64 T.1.kind, .int .i64 T.1.ptr, .int .i64 T.1.len] 47 := OwnB.call OwnB.au hK (by simp only [List.mem_singleton]; omega)
      obtain ⟨y_w4_0, x_w4_0, b_w4_0⟩ := O_w4_0.facts
      have O_w4_1 : OwnB w4 (w2.heap.size) #[.int .i64 (N).kind, .string ⟨(N).text.toArray⟩, .int .i64 (N).n, .int .i64 (N).pos] 60 := OwnB.call OwnB.au hK (by simp only [List.mem_singleton]; omega)
      obtain ⟨y_w4_1, x_w4_1, b_w4_1⟩ := O_w4_1.facts
      have O_w4_2 : OwnB w4 (q) #[.slice ga u.globals.length gc, .slice fa u.funcs.length fc] 27 := OwnB.call OwnB.au hK (by simp only [List.mem_singleton]; omega)
      obtain ⟨y_w4_2, x_w4_2, b_w4_2⟩ := O_w4_2.facts
      have HN4 := Lib.hid (NowQ.call (NowQ.to HN3.out [w1.heap.size, w2.heap.size] Keeps.au (by simp <;> omega) (by simp [kq, mq, dq, iq, fq] <;> omega)) hP hK)
      clear hP hK
      go_wp2_with fail
      refine wpTo_start (fun w' => OwnB w' (w1.heap.size) #[.int .i64 T.1.kind, .int .i64 T.1.ptr, .int .i64 T.1.len] 47 ∧ OwnB w' (w2.heap.size) #[.int .i64 (N).kind, .string ⟨(N).text.toArray⟩, .int .i64 (N).n, .int .i64 (N).pos] 60 ∧ OwnB w' (q) #[.slice ga u.globals.length gc, .slice fa u.funcs.length fc] 27) 13 (by kernel_rfl) ⟨OwnB.au, OwnB.au, OwnB.au⟩ (fun hHeld => ?_)
      refine wpTo_take 0 (v := ?_) (by kernel_rfl) (by kernel_rfl) rfl (by kernel_rfl) (by kernel_rfl) rfl (fun _ _ _ h => h) (Or.inl ⟨by rfl, ?_⟩) hHeld ?_
      rotate_left
      · (intro w' ⟨h0, h1, h2⟩; obtain ⟨ya0, yb0, yc0⟩ := h0.facts; obtain ⟨ya1, yb1, yc1⟩ := h1.facts; obtain ⟨ya2, yb2, yc2⟩ := h2.facts; go_simp; try with_reducible rfl)
      try simp only [Act.put, List.setIfInBounds_toArray, List.set_cons_zero, List.set_cons_succ]
      refine wpTo_take 1 (v := ?_) (by kernel_rfl) (by kernel_rfl) rfl (by kernel_rfl) (by kernel_rfl) rfl (fun _ _ _ h => h) (Or.inl ⟨by rfl, ?_⟩) hHeld ?_
      rotate_left
      · (intro w' ⟨h0, h1, h2⟩; obtain ⟨ya0, yb0, yc0⟩ := h0.facts; obtain ⟨ya1, yb1, yc1⟩ := h1.facts; obtain ⟨ya2, yb2, yc2⟩ := h2.facts; go_simp; try with_reducible rfl)
      try simp only [Act.put, List.setIfInBounds_toArray, List.set_cons_zero, List.set_cons_succ]
      refine wpTo_take 2 (v := ?_) (by kernel_rfl) (by kernel_rfl) rfl (by kernel_rfl) (by kernel_rfl) rfl (fun _ _ _ h => h) (Or.inl ⟨by rfl, ?_⟩) hHeld ?_
      rotate_left
      · (intro w' ⟨h0, h1, h2⟩; obtain ⟨ya0, yb0, yc0⟩ := h0.facts; obtain ⟨ya1, yb1, yc1⟩ := h1.facts; obtain ⟨ya2, yb2, yc2⟩ := h2.facts; go_simp; try with_reducible rfl)
      try simp only [Act.put, List.setIfInBounds_toArray, List.set_cons_zero, List.set_cons_succ]
      refine wpTo_take 3 (v := ?_) (by kernel_rfl) (by kernel_rfl) rfl (by kernel_rfl) (by kernel_rfl) rfl (fun _ _ _ h => h) (Or.inl ⟨by rfl, ?_⟩) hHeld ?_
      rotate_left
      · (intro w' ⟨h0, h1, h2⟩; obtain ⟨ya0, yb0, yc0⟩ := h0.facts; obtain ⟨ya1, yb1, yc1⟩ := h1.facts; obtain ⟨ya2, yb2, yc2⟩ := h2.facts; go_simp; try with_reducible rfl)
      try simp only [Act.put, List.setIfInBounds_toArray, List.set_cons_zero, List.set_cons_succ]
      refine wpTo_take 4 (v := ?_) (by kernel_rfl) (by kernel_rfl) rfl (by kernel_rfl) (by kernel_rfl) rfl (fun _ _ _ h => h) (Or.inl ⟨by rfl, ?_⟩) hHeld ?_
      rotate_left
      · (intro w' ⟨h0, h1, h2⟩; obtain ⟨ya0, yb0, yc0⟩ := h0.facts; obtain ⟨ya1, yb1, yc1⟩ := h1.facts; obtain ⟨ya2, yb2, yc2⟩ := h2.facts; go_simp; try with_reducible rfl)
      try simp only [Act.put, List.setIfInBounds_toArray, List.set_cons_zero, List.set_cons_succ]
      refine wpTo_take 5 (v := ?_) (by kernel_rfl) (by kernel_rfl) rfl (by kernel_rfl) (by kernel_rfl) rfl (fun _ _ _ h => h) (Or.inl ⟨by rfl, ?_⟩) hHeld ?_
      rotate_left
      · (intro w' ⟨h0, h1, h2⟩; obtain ⟨ya0, yb0, yc0⟩ := h0.facts; obtain ⟨ya1, yb1, yc1⟩ := h1.facts; obtain ⟨ya2, yb2, yc2⟩ := h2.facts; go_simp; try with_reducible rfl)
      try simp only [Act.put, List.setIfInBounds_toArray, List.set_cons_zero, List.set_cons_succ]
      refine wpTo_take 6 (v := ?_) (by kernel_rfl) (by kernel_rfl) rfl (by kernel_rfl) (by kernel_rfl) rfl (fun _ _ _ h => h) (Or.inl ⟨by rfl, ?_⟩) hHeld ?_
      rotate_left
      · (intro w' ⟨h0, h1, h2⟩; obtain ⟨ya0, yb0, yc0⟩ := h0.facts; obtain ⟨ya1, yb1, yc1⟩ := h1.facts; obtain ⟨ya2, yb2, yc2⟩ := h2.facts; go_simp; try with_reducible rfl)
      try simp only [Act.put, List.setIfInBounds_toArray, List.set_cons_zero, List.set_cons_succ]
      refine wpTo_take 7 (v := ?_) (by kernel_rfl) (by kernel_rfl) rfl (by kernel_rfl) (by kernel_rfl) rfl (fun _ _ _ h => h) (Or.inl ⟨by rfl, ?_⟩) hHeld ?_
      rotate_left
      · (intro w' ⟨h0, h1, h2⟩; obtain ⟨ya0, yb0, yc0⟩ := h0.facts; obtain ⟨ya1, yb1, yc1⟩ := h1.facts; obtain ⟨ya2, yb2, yc2⟩ := h2.facts; go_simp; try with_reducible rfl)
      try simp only [Act.put, List.setIfInBounds_toArray, List.set_cons_zero, List.set_cons_succ]
      refine wpTo_one 8 (by kernel_rfl) rfl (fun K hKo => ?_)
      go_simp
      go_at_call 41
      refine (CX _ (NowQ.pin (NowQ.to HN4.out [w1.heap.size, w2.heap.size] Keeps.au (by simp <;> omega) (by simp [kq, mq, dq, iq, fq] <;> omega)))).out.mono ?_
      rintro e w5 ⟨a1, n1, p1, a2, n2, p2, rfl, hP, hKk, hT⟩
      have hz_w5 := hKk.size
      try simp only [World.size_alloc, World.size_setCell, World.size_drew, World.heap_drewN] at hz_w5
      have O_w5_0 : OwnB w5 w1.heap.size #[.int .i64 T.1.kind, .int .i64 T.1.ptr, .int .i64 T.1.len] 47 := OwnB.call OwnB.au hKk (by simp only [List.mem_singleton]; omega)
      have O_w5_1 : OwnB w5 w2.heap.size #[.int .i64 (N).kind, .string ⟨(N).text.toArray⟩, .int .i64 (N).n, .int .i64 (N).pos] 60 := OwnB.call OwnB.au hKk (by simp only [List.mem_singleton]; omega)
      have O_w5_2 : OwnB w5 q #[.slice ga u.globals.length gc, .slice fa u.funcs.length fc] 27 := OwnB.call OwnB.au hKk (by simp only [List.mem_singleton]; omega)
      obtain ⟨y_w5_2, x_w5_2, b_w5_2⟩ := O_w5_2.facts
      have HN5 := Lib.hid (NowQ.callT (NowQ.to HN4.out [w1.heap.size, w2.heap.size] Keeps.au (by simp <;> omega) (by simp [kq, mq, dq, iq, fq] <;> omega)) (fq _ w5.heap.size [] F.1 (.slice a1 n1 p1) (.slice a2 n2 p2)) hP hKk hT (Nat.le_refl _) (Nat.le_refl _))
      clear hP hKk hT
      refine Shut.out hKo _ _ (fun _ _ => ⟨OwnB.au, OwnB.au, OwnB.au⟩) ?_
      clear hKo K
      try simp only [Act.put, List.setIfInBounds_toArray, List.set_cons_zero, List.set_cons_succ]
      refine wpTo_one 9 (by kernel_rfl) rfl (fun K hKo => ?_)
      go_simp
      refine Shut.out hKo _ _ (fun _ _ => ⟨OwnB.au, OwnB.au, OwnB.au⟩) ?_
      clear hKo K
      try simp only [Act.put, List.setIfInBounds_toArray, List.set_cons_zero, List.set_cons_succ]
      refine wpTo_one 10 (by kernel_rfl) rfl (fun K hKo => ?_)
      refine step_funcs rfl _ _ rfl rfl rfl rfl rfl (NowQ.to HN5.out [w1.heap.size, w2.heap.size] Keeps.au (by simp <;> omega) (by simp [kq, mq, dq, iq, fq] <;> omega)) HU.out (show OwnB _ (w5.heap.size) #[.string ⟨F.1.nm.toArray⟩, .int .i64 F.1.ret.kind, .int .i64 F.1.ret.ptr, .int .i64 F.1.ret.len, .slice a1 n1 p1, .slice a2 n2 p2, .slice none 0 0, .int .i64 F.1.pos] 54 from OwnB.au) (qv := #[.slice ga u.globals.length gc, .slice fa u.funcs.length fc]) OwnB.au hlo (by omega) ?_
      intro g cap' w6 hG
      try simp only [Act.put, List.setIfInBounds_toArray, List.set_cons_zero, List.set_cons_succ]
      have O6 := hG.own
      have O6a : OwnB w6 w1.heap.size #[.int .i64 T.1.kind, .int .i64 T.1.ptr, .int .i64 T.1.len] 47 := ⟨(hG.new _ (by omega) (by rw [World.size_alloc]; omega)).trans (OwnB.alloc O_w5_0 _).blk⟩
      have O6b : OwnB w6 w2.heap.size #[.int .i64 (N).kind, .string ⟨(N).text.toArray⟩, .int .i64 (N).n, .int .i64 (N).pos] 60 := ⟨(hG.new _ (by omega) (by rw [World.size_alloc]; omega)).trans (OwnB.alloc O_w5_1 _).blk⟩
      have HG := Lib.hid hG
      clear hG
      refine Shut.out hKo _ _ (fun _ _ => ⟨O6a, O6b, O6⟩) ?_
      clear hKo K
      try simp only [Act.put, List.setIfInBounds_toArray, List.set_cons_zero, List.set_cons_succ]
      refine wpTo_one 11 (by kernel_rfl) rfl (fun K hKo => ?_)
      go_simp
      refine Shut.out hKo _ _ (fun _ _ => ⟨O6a, O6b, O6⟩) ?_
      clear hKo K
      try simp only [Act.put, List.setIfInBounds_toArray, List.set_cons_zero, List.set_cons_succ]
      refine wpTo_one 12 (by kernel_rfl) rfl (fun K hKo => ?_)
      go_simp
      refine Shut.out hKo _ _ (fun _ _ => ⟨O6a, O6b, O6⟩) ?_
      clear hKo K
      try simp only [Act.put, List.setIfInBounds_toArray, List.set_cons_zero, List.set_cons_succ]
      obtain ⟨y6, x6, z6⟩ := O6.facts
      refine wpTo_one 13 (by kernel_rfl) rfl (fun K hKo => ?_)
      go_simp
      refine Shut.out hKo _ _ (fun h _ => absurd rfl h) ?_
      clear hKo K
      try simp only [Act.put, List.setIfInBounds_toArray, List.set_cons_zero, List.set_cons_succ]
      refine wpTo_done (by kernel_rfl) ?_ _
      go_wp2_with fail
      refine bodyPost_ret (v := .tuple #[]) (by simp [results, Tryd.results23, go_sem]) rfl ?_
      exact HG.out.fin1 hn hlo.1
    · rw [if_neg h8] at hR
      obtain ⟨F, hF, hR⟩ := Option.bind_eq_some_iff.1 hR
      obtain rfl := Option.some.inj hR
      have h8' : ((u.funcs.length : Int) == 8) = false := by simp; omega
      have CX := fun W H => Lib.hid (function_step c hc f hf GS T.1 N _ F W hF H)
      clear hR hF ki h8
      unfold pv
      go_enter Tryd.func23, Tryd.ntmps23
      go_wp2_with fail
      refine (CT _ (NowQ.pin (NowQ.to HN.out [] Keeps.au (fun b hb => absurd hb List.not_mem_nil) (fun q _ b hb => absurd hb List.not_mem_nil)))).out.mono ?_
      rintro e w1 ⟨rfl, hP, hK⟩
      have hz_w1 := hK.size
      try simp only [World.size_alloc, World.size_setCell, World.size_drew, World.heap_drewN] at hz_w1
      have O_w1_0 : OwnB w1 (q) #[.slice ga u.globals.length gc, .slice fa u.funcs.length fc] 27 := OwnB.call OwnB.au hK (by simp only [List.mem_singleton]; omega)
      obtain ⟨y_w1_0, x_w1_0, b_w1_0⟩ := O_w1_0.facts
      have HN1 := Lib.hid (NowQ.call (NowQ.to HN.out [] Keeps.au (fun b hb => absurd hb List.not_mem_nil) (fun q _ b hb => absurd hb List.not_mem_nil)) hP hK)
      clear hP hK
      go_wp2_with fail
      refine (CN _ (NowQ.pin (NowQ.to HN1.out [w1.heap.size] Keeps.au (by simp <;> omega) (by simp [kq, mq, dq, iq, fq] <;> omega)))).out.mono ?_
      rintro e w2 ⟨rfl, hP, hK⟩
      have hz_w2 := hK.size
      try simp only [World.size_alloc, World.size_setCell, World.size_drew, World.heap_drewN] at hz_w2
      have O_w2_0 : OwnB w2 (w1.heap.size) #[.int .i64 T.1.kind, .int .i64 T.1.ptr, .int .i64 T.1.len] 47 := OwnB.call OwnB.au hK (by simp only [List.mem_singleton]; omega)
      obtain ⟨y_w2_0, x_w2_0, b_w2_0⟩ := O_w2_0.facts
      have O_w2_1 : OwnB w2 (q) #[.slice ga u.globals.length gc, .slice fa u.funcs.length fc] 27 := OwnB.call OwnB.au hK (by simp only [List.mem_singleton]; omega)
      obtain ⟨y_w2_1, x_w2_1, b_w2_1⟩ := O_w2_1.facts
      have HN2 := Lib.hid (NowQ.call (NowQ.to HN1.out [w1.heap.size] Keeps.au (by simp <;> omega) (by simp [kq, mq, dq, iq, fq] <;> omega)) hP hK)
      clear hP hK
      go_wp2_with fail
      refine (CI _ (NowQ.pin (NowQ.to HN2.out [w1.heap.size, w2.heap.size] Keeps.au (by simp <;> omega) (by simp [kq, mq, dq, iq, fq] <;> omega)))).out.mono ?_
      rintro e w3 ⟨rfl, hP, hK⟩
      have hz_w3 := hK.size
      try simp only [World.size_alloc, World.size_setCell, World.size_drew, World.heap_drewN] at hz_w3
      have O_w3_0 : OwnB w3 (w1.heap.size) #[.int .i64 T.1.kind, .int .i64 T.1.ptr, .int .i64 T.1.len] 47 := OwnB.call OwnB.au hK (by simp only [List.mem_singleton]; omega)
      obtain ⟨y_w3_0, x_w3_0, b_w3_0⟩ := O_w3_0.facts
      have O_w3_1 : OwnB w3 (w2.heap.size) #[.int .i64 (N).kind, .string ⟨(N).text.toArray⟩, .int .i64 (N).n, .int .i64 (N).pos] 60 := OwnB.call OwnB.au hK (by simp only [List.mem_singleton]; omega)
      obtain ⟨y_w3_1, x_w3_1, b_w3_1⟩ := O_w3_1.facts
      have O_w3_2 : OwnB w3 (q) #[.slice ga u.globals.length gc, .slice fa u.funcs.length fc] 27 := OwnB.call OwnB.au hK (by simp only [List.mem_singleton]; omega)
      obtain ⟨y_w3_2, x_w3_2, b_w3_2⟩ := O_w3_2.facts
      have HN3 := Lib.hid (NowQ.call (NowQ.to HN2.out [w1.heap.size, w2.heap.size] Keeps.au (by simp <;> omega) (by simp [kq, mq, dq, iq, fq] <;> omega)) hP hK)
      clear hP hK
      go_wp2_with fail
      refine wpTo_start (fun w' => OwnB w' (w1.heap.size) #[.int .i64 T.1.kind, .int .i64 T.1.ptr, .int .i64 T.1.len] 47 ∧ OwnB w' (w2.heap.size) #[.int .i64 (N).kind, .string ⟨(N).text.toArray⟩, .int .i64 (N).n, .int .i64 (N).pos] 60 ∧ OwnB w' (q) #[.slice ga u.globals.length gc, .slice fa u.funcs.length fc] 27) 13 (by kernel_rfl) ⟨OwnB.au, OwnB.au, OwnB.au⟩ (fun hHeld => ?_)
      refine wpTo_take 0 (v := ?_) (by kernel_rfl) (by kernel_rfl) rfl (by kernel_rfl) (by kernel_rfl) rfl (fun _ _ _ h => h) (Or.inl ⟨by rfl, ?_⟩) hHeld ?_
      rotate_left
      · (intro w' ⟨h0, h1, h2⟩; obtain ⟨ya0, yb0, yc0⟩ := h0.facts; obtain ⟨ya1, yb1, yc1⟩ := h1.facts; obtain ⟨ya2, yb2, yc2⟩ := h2.facts; go_simp; try with_reducible rfl)
      try simp only [Act.put, List.setIfInBounds_toArray, List.set_cons_zero, List.set_cons_succ]
      refine wpTo_take 1 (v := ?_) (by kernel_rfl) (by kernel_rfl) rfl (by kernel_rfl) (by kernel_rfl) rfl (fun _ _ _ h => h) (Or.inl ⟨by rfl, ?_⟩) hHeld ?_
      rotate_left
      · (intro w' ⟨h0, h1, h2⟩; obtain ⟨ya0, yb0, yc0⟩ := h0.facts; obtain ⟨ya1, yb1, yc1⟩ := h1.facts; obtain ⟨ya2, yb2, yc2⟩ := h2.facts; go_simp; try with_reducible rfl)
      try simp only [Act.put, List.setIfInBounds_toArray, List.set_cons_zero, List.set_cons_succ]
      refine wpTo_take 2 (v := ?_) (by kernel_rfl) (by kernel_rfl) rfl (by kernel_rfl) (by kernel_rfl) rfl (fun _ _ _ h => h) (Or.inl ⟨by rfl, ?_⟩) hHeld ?_
      rotate_left
      · (intro w' ⟨h0, h1, h2⟩; obtain ⟨ya0, yb0, yc0⟩ := h0.facts; obtain ⟨ya1, yb1, yc1⟩ := h1.facts; obtain ⟨ya2, yb2, yc2⟩ := h2.facts; go_simp; try with_reducible rfl)
      try simp only [Act.put, List.setIfInBounds_toArray, List.set_cons_zero, List.set_cons_succ]
      refine wpTo_take 3 (v := ?_) (by kernel_rfl) (by kernel_rfl) rfl (by kernel_rfl) (by kernel_rfl) rfl (fun _ _ _ h => h) (Or.inl ⟨by rfl, ?_⟩) hHeld ?_
      rotate_left
      · (intro w' ⟨h0, h1, h2⟩; obtain ⟨ya0, yb0, yc0⟩ := h0.facts; obtain ⟨ya1, yb1, yc1⟩ := h1.facts; obtain ⟨ya2, yb2, yc2⟩ := h2.facts; go_simp; try with_reducible rfl)
      try simp only [Act.put, List.setIfInBounds_toArray, List.set_cons_zero, List.set_cons_succ]
      refine wpTo_take 4 (v := ?_) (by kernel_rfl) (by kernel_rfl) rfl (by kernel_rfl) (by kernel_rfl) rfl (fun _ _ _ h => h) (Or.inl ⟨by rfl, ?_⟩) hHeld ?_
      rotate_left
      · (intro w' ⟨h0, h1, h2⟩; obtain ⟨ya0, yb0, yc0⟩ := h0.facts; obtain ⟨ya1, yb1, yc1⟩ := h1.facts; obtain ⟨ya2, yb2, yc2⟩ := h2.facts; go_simp; try with_reducible rfl)
      try simp only [Act.put, List.setIfInBounds_toArray, List.set_cons_zero, List.set_cons_succ]
      refine wpTo_take 5 (v := ?_) (by kernel_rfl) (by kernel_rfl) rfl (by kernel_rfl) (by kernel_rfl) rfl (fun _ _ _ h => h) (Or.inl ⟨by rfl, ?_⟩) hHeld ?_
      rotate_left
      · (intro w' ⟨h0, h1, h2⟩; obtain ⟨ya0, yb0, yc0⟩ := h0.facts; obtain ⟨ya1, yb1, yc1⟩ := h1.facts; obtain ⟨ya2, yb2, yc2⟩ := h2.facts; go_simp; try with_reducible rfl)
      try simp only [Act.put, List.setIfInBounds_toArray, List.set_cons_zero, List.set_cons_succ]
      refine wpTo_take 6 (v := ?_) (by kernel_rfl) (by kernel_rfl) rfl (by kernel_rfl) (by kernel_rfl) rfl (fun _ _ _ h => h) (Or.inl ⟨by rfl, ?_⟩) hHeld ?_
      rotate_left
      · (intro w' ⟨h0, h1, h2⟩; obtain ⟨ya0, yb0, yc0⟩ := h0.facts; obtain ⟨ya1, yb1, yc1⟩ := h1.facts; obtain ⟨ya2, yb2, yc2⟩ := h2.facts; go_simp; try with_reducible rfl)
      try simp only [Act.put, List.setIfInBounds_toArray, List.set_cons_zero, List.set_cons_succ]
      refine wpTo_take 7 (v := ?_) (by kernel_rfl) (by kernel_rfl) rfl (by kernel_rfl) (by kernel_rfl) rfl (fun _ _ _ h => h) (Or.inl ⟨by rfl, ?_⟩) hHeld ?_
      rotate_left
      · (intro w' ⟨h0, h1, h2⟩; obtain ⟨ya0, yb0, yc0⟩ := h0.facts; obtain ⟨ya1, yb1, yc1⟩ := h1.facts; obtain ⟨ya2, yb2, yc2⟩ := h2.facts; go_simp; try with_reducible rfl)
      try simp only [Act.put, List.setIfInBounds_toArray, List.set_cons_zero, List.set_cons_succ]
      refine wpTo_one 8 (by kernel_rfl) rfl (fun K hKo => ?_)
      go_simp
      go_at_call 41
      refine (CX _ (NowQ.pin (NowQ.to HN3.out [w1.heap.size, w2.heap.size] Keeps.au (by simp <;> omega) (by simp [kq, mq, dq, iq, fq] <;> omega)))).out.mono ?_
      rintro e w5 ⟨a1, n1, p1, a2, n2, p2, rfl, hP, hKk, hT⟩
      have hz_w5 := hKk.size
      try simp only [World.size_alloc, World.size_setCell, World.size_drew, World.heap_drewN] at hz_w5
      have O_w5_0 : OwnB w5 w1.heap.size #[.int .i64 T.1.kind, .int .i64 T.1.ptr, .int .i64 T.1.len] 47 := OwnB.call OwnB.au hKk (by simp only [List.mem_singleton]; omega)
      have O_w5_1 : OwnB w5 w2.heap.size #[.int .i64 (N).kind, .string ⟨(N).text.toArray⟩, .int .i64 (N).n, .int .i64 (N).pos] 60 := OwnB.call OwnB.au hKk (by simp only [List.mem_singleton]; omega)
      have O_w5_2 : OwnB w5 q #[.slice ga u.globals.length gc, .slice fa u.funcs.length fc] 27 := OwnB.call OwnB.au hKk (by simp only [List.mem_singleton]; omega)
      obtain ⟨y_w5_2, x_w5_2, b_w5_2⟩ := O_w5_2.facts
      have HN5 := Lib.hid (NowQ.callT (NowQ.to HN3.out [w1.heap.size, w2.heap.size] Keeps.au (by simp <;> omega) (by simp [kq, mq, dq, iq, fq] <;> omega)) (fq _ w5.heap.size [] F.1 (.slice a1 n1 p1) (.slice a2 n2 p2)) hP hKk hT (Nat.le_refl _) (Nat.le_refl _))
      clear hP hKk hT
      refine Shut.out hKo _ _ (fun _ _ => ⟨OwnB.au, OwnB.au, OwnB.au⟩) ?_
      clear hKo K
      try simp only [Act.put, List.setIfInBounds_toArray, List.set_cons_zero, List.set_cons_succ]
      refine wpTo_one 9 (by kernel_rfl) rfl (fun K hKo => ?_)
      go_simp
      refine Shut.out hKo _ _ (fun _ _ => ⟨OwnB.au, OwnB.au, OwnB.au⟩) ?_
      clear hKo K
      try simp only [Act.put, List.setIfInBounds_toArray, List.set_cons_zero, List.set_cons_succ]
      refine wpTo_one 10 (by kernel_rfl) rfl (fun K hKo => ?_)
      refine step_funcs rfl _ _ rfl rfl rfl rfl rfl (NowQ.to HN5.out [w1.heap.size, w2.heap.size] Keeps.au (by simp <;> omega) (by simp [kq, mq, dq, iq, fq] <;> omega)) HU.out (show OwnB _ (w5.heap.size) #[.string ⟨F.1.nm.toArray⟩, .int .i64 F.1.ret.kind, .int .i64 F.1.ret.ptr, .int .i64 F.1.ret.len, .slice a1 n1 p1, .slice a2 n2 p2, .slice none 0 0, .int .i64 F.1.pos] 54 from OwnB.au) (qv := #[.slice ga u.globals.length gc, .slice fa u.funcs.length fc]) OwnB.au hlo (by omega) ?_
      intro g cap' w6 hG
      try simp only [Act.put, List.setIfInBounds_toArray, List.set_cons_zero, List.set_cons_succ]
      have O6 := hG.own
      have O6a : OwnB w6 w1.heap.size #[.int .i64 T.1.kind, .int .i64 T.1.ptr, .int .i64 T.1.len] 47 := ⟨(hG.new _ (by omega) (by rw [World.size_alloc]; omega)).trans (OwnB.alloc O_w5_0 _).blk⟩
      have O6b : OwnB w6 w2.heap.size #[.int .i64 (N).kind, .string ⟨(N).text.toArray⟩, .int .i64 (N).n, .int .i64 (N).pos] 60 := ⟨(hG.new _ (by omega) (by rw [World.size_alloc]; omega)).trans (OwnB.alloc O_w5_1 _).blk⟩
      have HG := Lib.hid hG
      clear hG
      refine Shut.out hKo _ _ (fun _ _ => ⟨O6a, O6b, O6⟩) ?_
      clear hKo K
      try simp only [Act.put, List.setIfInBounds_toArray, List.set_cons_zero, List.set_cons_succ]
      refine wpTo_one 11 (by kernel_rfl) rfl (fun K hKo => ?_)
      go_simp
      refine Shut.out hKo _ _ (fun _ _ => ⟨O6a, O6b, O6⟩) ?_
      clear hKo K
      try simp only [Act.put, List.setIfInBounds_toArray, List.set_cons_zero, List.set_cons_succ]
      refine wpTo_one 12 (by kernel_rfl) rfl (fun K hKo => ?_)
      go_simp
      refine Shut.out hKo _ _ (fun _ _ => ⟨O6a, O6b, O6⟩) ?_
      clear hKo K
      try simp only [Act.put, List.setIfInBounds_toArray, List.set_cons_zero, List.set_cons_succ]
      obtain ⟨y6, x6, z6⟩ := O6.facts
      refine wpTo_one 13 (by kernel_rfl) rfl (fun K hKo => ?_)
      go_simp
      refine Shut.out hKo _ _ (fun h _ => absurd rfl h) ?_
      clear hKo K
      try simp only [Act.put, List.setIfInBounds_toArray, List.set_cons_zero, List.set_cons_succ]
      refine wpTo_done (by kernel_rfl) ?_ _
      go_wp2_with fail
      refine bodyPost_ret (v := .tuple #[]) (by simp [results, Tryd.results23, go_sem]) rfl ?_
      exact HG.out.fin1 hn hlo.1
  | false =>
    rw [ki, if_neg (by simp)] at hR
    rw [ki] at CI
    by_cases h8 : u.globals.length = 16
    · rw [if_pos h8] at hR
      obtain ⟨F, hF, hR⟩ := Option.bind_eq_some_iff.1 hR
      obtain rfl := Option.some.inj hR
      have h8' : ((u.globals.length : Int) == 16) = true := by simp [h8]
      have CF := fun W H => Lib.hid (fail_any c hc s2 W H 2 N.pos)
      have CX := fun W H => Lib.hid (global_step c hc f (by omega) T.1 N _ F W hF H)
      clear hR hF ki h8
      unfold pv
      go_enter Tryd.func23, Tryd.ntmps23
      go_wp2_with fail
      refine (CT _ (NowQ.pin (NowQ.to HN.out [] Keeps.au (fun b hb => absurd hb List.not_mem_nil) (fun q _ b hb => absurd hb List.not_mem_nil)))).out.mono ?_
      rintro e w1 ⟨rfl, hP, hK⟩
      have hz_w1 := hK.size
      try simp only [World.size_alloc, World.size_setCell, World.size_drew, World.heap_drewN] at hz_w1
      have O_w1_0 : OwnB w1 (q) #[.slice ga u.globals.length gc, .slice fa u.funcs.length fc] 27 := OwnB.call OwnB.au hK (by simp only [List.mem_singleton]; omega)
      obtain ⟨y_w1_0, x_w1_0, b_w1_0⟩ := O_w1_0.facts
      have HN1 := Lib.hid (NowQ.call (NowQ.to HN.out [] Keeps.au (fun b hb => absurd hb List.not_mem_nil) (fun q _ b hb => absurd hb List.not_mem_nil)) hP hK)
      clear hP hK
      go_wp2_with fail
      refine (CN _ (NowQ.pin (NowQ.to HN1.out [w1.heap.size] Keeps.au (by simp <;> omega) (by simp [kq, mq, dq, iq, fq] <;> omega)))).out.mono ?_
      rintro e w2 ⟨rfl, hP, hK⟩
      have hz_w2 := hK.size
      try simp only [World.size_alloc, World.size_setCell, World.size_drew, World.heap_drewN] at hz_w2
      have O_w2_0 : OwnB w2 (w1.heap.size) #[.int .i64 T.1.kind, .int .i64 T.1.ptr, .int .i64 T.1.len] 47 := OwnB.call OwnB.au hK (by simp only [List.mem_singleton]; omega)
      obtain ⟨y_w2_0, x_w2_0, b_w2_0⟩ := O_w2_0.facts
      have O_w2_1 : OwnB w2 (q) #[.slice ga u.globals.length gc, .slice fa u.funcs.length fc] 27 := OwnB.call OwnB.au hK (by simp only [List.mem_singleton]; omega)
      obtain ⟨y_w2_1, x_w2_1, b_w2_1⟩ := O_w2_1.facts
      have HN2 := Lib.hid (NowQ.call (NowQ.to HN1.out [w1.heap.size] Keeps.au (by simp <;> omega) (by simp [kq, mq, dq, iq, fq] <;> omega)) hP hK)
      clear hP hK
      go_wp2_with fail
      refine (CI _ (NowQ.pin (NowQ.to HN2.out [w1.heap.size, w2.heap.size] Keeps.au (by simp <;> omega) (by simp [kq, mq, dq, iq, fq] <;> omega)))).out.mono ?_
      rintro e w3 ⟨rfl, hP, hK⟩
      have hz_w3 := hK.size
      try simp only [World.size_alloc, World.size_setCell, World.size_drew, World.heap_drewN] at hz_w3
      have O_w3_0 : OwnB w3 (w1.heap.size) #[.int .i64 T.1.kind, .int .i64 T.1.ptr, .int .i64 T.1.len] 47 := OwnB.call OwnB.au hK (by simp only [List.mem_singleton]; omega)
      obtain ⟨y_w3_0, x_w3_0, b_w3_0⟩ := O_w3_0.facts
      have O_w3_1 : OwnB w3 (w2.heap.size) #[.int .i64 (N).kind, .string ⟨(N).text.toArray⟩, .int .i64 (N).n, .int .i64 (N).pos] 60 := OwnB.call OwnB.au hK (by simp only [List.mem_singleton]; omega)
      obtain ⟨y_w3_1, x_w3_1, b_w3_1⟩ := O_w3_1.facts
      have O_w3_2 : OwnB w3 (q) #[.slice ga u.globals.length gc, .slice fa u.funcs.length fc] 27 := OwnB.call OwnB.au hK (by simp only [List.mem_singleton]; omega)
      obtain ⟨y_w3_2, x_w3_2, b_w3_2⟩ := O_w3_2.facts
      have HN3 := Lib.hid (NowQ.call (NowQ.to HN2.out [w1.heap.size, w2.heap.size] Keeps.au (by simp <;> omega) (by simp [kq, mq, dq, iq, fq] <;> omega)) hP hK)
      clear hP hK
      go_wp2_with fail
      refine (CF _ (NowQ.pin (NowQ.to HN3.out [w1.heap.size, w2.heap.size] Keeps.au (by simp <;> omega) (by simp [kq, mq, dq, iq, fq] <;> omega)))).out.mono ?_
      rintro e w4 ⟨rfl, hP, hK⟩
      have hz_w4 := hK.size
      try simp only [World.size_alloc, World.size_setCell, World.size_drew, World.heap_drewN] at hz_w4
      have O_w4_0 : OwnB w4 (w1.heap.size) #[.int .i64 T.1.kind, .int .i64 T.1.ptr, .int .i64 T.1.len] 47 := OwnB.call OwnB.au hK (by simp only [List.mem_singleton]; omega)
      obtain ⟨y_w4_0, x_w4_0, b_w4_0⟩ := O_w4_0.facts
      have O_w4_1 : OwnB w4 (w2.heap.size) #[.int .i64 (N).kind, .string ⟨(N).text.toArray⟩, .int .i64 (N).n, .int .i64 (N).pos] 60 := OwnB.call OwnB.au hK (by simp only [List.mem_singleton]; omega)
      obtain ⟨y_w4_1, x_w4_1, b_w4_1⟩ := O_w4_1.facts
      have O_w4_2 : OwnB w4 (q) #[.slice ga u.globals.length gc, .slice fa u.funcs.length fc] 27 := OwnB.call OwnB.au hK (by simp only [List.mem_singleton]; omega)
      obtain ⟨y_w4_2, x_w4_2, b_w4_2⟩ := O_w4_2.facts
      have HN4 := Lib.hid (NowQ.call (NowQ.to HN3.out [w1.heap.size, w2.heap.size] Keeps.au (by simp <;> omega) (by simp [kq, mq, dq, iq, fq] <;> omega)) hP hK)
      clear hP hK
      go_wp2_with fail
      refine wpTo_start (fun w' => OwnB w' (w1.heap.size) #[.int .i64 T.1.kind, .int .i64 T.1.ptr, .int .i64 T.1.len] 47 ∧ OwnB w' (w2.heap.size) #[.int .i64 (N).kind, .string ⟨(N).text.toArray⟩, .int .i64 (N).n, .int .i64 (N).pos] 60 ∧ OwnB w' (q) #[.slice ga u.globals.length gc, .slice fa u.funcs.length fc] 27) 13 (by kernel_rfl) ⟨OwnB.au, OwnB.au, OwnB.au⟩ (fun hHeld => ?_)
      refine wpTo_take 0 (v := ?_) (by kernel_rfl) (by kernel_rfl) rfl (by kernel_rfl) (by kernel_rfl) rfl (fun _ _ _ h => h) (Or.inl ⟨by rfl, ?_⟩) hHeld ?_
      rotate_left
      · (intro w' ⟨h0, h1, h2⟩; obtain ⟨ya0, yb0, yc0⟩ := h0.facts; obtain ⟨ya1, yb1, yc1⟩ := h1.facts; obtain ⟨ya2, yb2, yc2⟩ := h2.facts; go_simp; try with_reducible rfl)
      try simp only [Act.put, List.setIfInBounds_toArray, List.set_cons_zero, List.set_cons_succ]
      refine wpTo_take 1 (v := ?_) (by kernel_rfl) (by kernel_rfl) rfl (by kernel_rfl) (by kernel_rfl) rfl (fun _ _ _ h => h) (Or.inl ⟨by rfl, ?_⟩) hHeld ?_
      rotate_left
      · (intro w' ⟨h0, h1, h2⟩; obtain ⟨ya0, yb0, yc0⟩ := h0.facts; obtain ⟨ya1, yb1, yc1⟩ := h1.facts; obtain ⟨ya2, yb2, yc2⟩ := h2.facts; go_simp; try with_reducible rfl)
      try simp only [Act.put, List.setIfInBounds_toArray, List.set_cons_zero, List.set_cons_succ]
      refine wpTo_take 2 (v := ?_) (by kernel_rfl) (by kernel_rfl) rfl (by kernel_rfl) (by kernel_rfl) rfl (fun _ _ _ h => h) (Or.inl ⟨by rfl, ?_⟩) hHeld ?_
      rotate_left
      · (intro w' ⟨h0, h1, h2⟩; obtain ⟨ya0, yb0, yc0⟩ := h0.facts; obtain ⟨ya1, yb1, yc1⟩ := h1.facts; obtain ⟨ya2, yb2, yc2⟩ := h2.facts; go_simp; try with_reducible rfl)
      try simp only [Act.put, List.setIfInBounds_toArray, List.set_cons_zero, List.set_cons_succ]
      refine wpTo_take 3 (v := ?_) (by kernel_rfl) (by kernel_rfl) rfl (by kernel_rfl) (by kernel_rfl) rfl (fun _ _ _ h => h) (Or.inl ⟨by rfl, ?_⟩) hHeld ?_
      rotate_left
      · (intro w' ⟨h0, h1, h2⟩; obtain ⟨ya0, yb0, yc0⟩ := h0.facts; obtain ⟨ya1, yb1, yc1⟩ := h1.facts; obtain ⟨ya2, yb2, yc2⟩ := h2.facts; go_simp; try with_reducible rfl)
      try simp only [Act.put, List.setIfInBounds_toArray, List.set_cons_zero, List.set_cons_succ]
      refine wpTo_take 4 (v := ?_) (by kernel_rfl) (by kernel_rfl) rfl (by kernel_rfl) (by kernel_rfl) rfl (fun _ _ _ h => h) (Or.inl ⟨by rfl, ?_⟩) hHeld ?_
      rotate_left
      · (intro w' ⟨h0, h1, h2⟩; obtain ⟨ya0, yb0, yc0⟩ := h0.facts; obtain ⟨ya1, yb1, yc1⟩ := h1.facts; obtain ⟨ya2, yb2, yc2⟩ := h2.facts; go_simp; try with_reducible rfl)
      try simp only [Act.put, List.setIfInBounds_toArray, List.set_cons_zero, List.set_cons_succ]
      refine wpTo_take 5 (v := ?_) (by kernel_rfl) (by kernel_rfl) rfl (by kernel_rfl) (by kernel_rfl) rfl (fun _ _ _ h => h) (Or.inl ⟨by rfl, ?_⟩) hHeld ?_
      rotate_left
      · (intro w' ⟨h0, h1, h2⟩; obtain ⟨ya0, yb0, yc0⟩ := h0.facts; obtain ⟨ya1, yb1, yc1⟩ := h1.facts; obtain ⟨ya2, yb2, yc2⟩ := h2.facts; go_simp; try with_reducible rfl)
      try simp only [Act.put, List.setIfInBounds_toArray, List.set_cons_zero, List.set_cons_succ]
      refine wpTo_take 6 (v := ?_) (by kernel_rfl) (by kernel_rfl) rfl (by kernel_rfl) (by kernel_rfl) rfl (fun _ _ _ h => h) (Or.inl ⟨by rfl, ?_⟩) hHeld ?_
      rotate_left
      · (intro w' ⟨h0, h1, h2⟩; obtain ⟨ya0, yb0, yc0⟩ := h0.facts; obtain ⟨ya1, yb1, yc1⟩ := h1.facts; obtain ⟨ya2, yb2, yc2⟩ := h2.facts; go_simp; try with_reducible rfl)
      try simp only [Act.put, List.setIfInBounds_toArray, List.set_cons_zero, List.set_cons_succ]
      refine wpTo_take 7 (v := ?_) (by kernel_rfl) (by kernel_rfl) rfl (by kernel_rfl) (by kernel_rfl) rfl (fun _ _ _ h => h) (Or.inl ⟨by rfl, ?_⟩) hHeld ?_
      rotate_left
      · (intro w' ⟨h0, h1, h2⟩; obtain ⟨ya0, yb0, yc0⟩ := h0.facts; obtain ⟨ya1, yb1, yc1⟩ := h1.facts; obtain ⟨ya2, yb2, yc2⟩ := h2.facts; go_simp; try with_reducible rfl)
      try simp only [Act.put, List.setIfInBounds_toArray, List.set_cons_zero, List.set_cons_succ]
      refine wpTo_one 8 (by kernel_rfl) rfl (fun K hKo => ?_)
      go_simp
      go_at_call 42
      refine (CX _ (NowQ.pin (NowQ.to HN4.out [w1.heap.size, w2.heap.size] Keeps.au (by simp <;> omega) (by simp [kq, mq, dq, iq, fq] <;> omega)))).out.mono ?_
      rintro e w5 ⟨a1, n1, p1, rfl, hP, hKk, hT⟩
      have hz_w5 := hKk.size
      try simp only [World.size_alloc, World.size_setCell, World.size_drew, World.heap_drewN] at hz_w5
      have O_w5_0 : OwnB w5 w1.heap.size #[.int .i64 T.1.kind, .int .i64 T.1.ptr, .int .i64 T.1.len] 47 := OwnB.call OwnB.au hKk (by simp only [List.mem_singleton]; omega)
      have O_w5_1 : OwnB w5 w2.heap.size #[.int .i64 (N).kind, .string ⟨(N).text.toArray⟩, .int .i64 (N).n, .int .i64 (N).pos] 60 := OwnB.call OwnB.au hKk (by simp only [List.mem_singleton]; omega)
      have O_w5_2 : OwnB w5 q #[.slice ga u.globals.length gc, .slice fa u.funcs.length fc] 27 := OwnB.call OwnB.au hKk (by simp only [List.mem_singleton]; omega)
      obtain ⟨y_w5_2, x_w5_2, b_w5_2⟩ := O_w5_2.facts
      have HN5 := Lib.hid (NowQ.callT (NowQ.to HN4.out [w1.heap.size, w2.heap.size] Keeps.au (by simp <;> omega) (by simp [kq, mq, dq, iq, fq] <;> omega)) (iq _ w5.heap.size [] F.1.init (.slice a1 n1 p1)) hP hKk hT (Nat.le_refl _) (Nat.le_refl _))
      clear hP hKk hT
      refine Shut.out hKo _ _ (fun _ _ => ⟨OwnB.au, OwnB.au, OwnB.au⟩) ?_
      clear hKo K
      try simp only [Act.put, List.setIfInBounds_toArray, List.set_cons_zero, List.set_cons_succ]
      refine wpTo_one 9 (by kernel_rfl) rfl (fun K hKo => ?_)
      go_simp
      refine Shut.out hKo _ _ (fun _ _ => ⟨OwnB.au, OwnB.au, OwnB.au⟩) ?_
      clear hKo K
      try simp only [Act.put, List.setIfInBounds_toArray, List.set_cons_zero, List.set_cons_succ]
      refine wpTo_one 10 (by kernel_rfl) rfl (fun K hKo => ?_)
      refine step_globals rfl _ _ rfl rfl rfl rfl (NowQ.to HN5.out [w1.heap.size, w2.heap.size] Keeps.au (by simp <;> omega) (by simp [kq, mq, dq, iq, fq] <;> omega)) HU.out (show OwnB _ (w5.heap.size) #[.string ⟨F.1.nm.toArray⟩, .int .i64 F.1.ty.kind, .int .i64 F.1.ty.ptr, .int .i64 F.1.ty.len, .slice a1 n1 p1, .int .i64 F.1.pos] 50 from OwnB.au) (qv := #[.slice ga u.globals.length gc, .slice fa u.funcs.length fc]) OwnB.au hlo (by omega) ?_
      intro g cap' w6 hG
      try simp only [Act.put, List.setIfInBounds_toArray, List.set_cons_zero, List.set_cons_succ]
      have O6 := hG.own
      have O6a : OwnB w6 w1.heap.size #[.int .i64 T.1.kind, .int .i64 T.1.ptr, .int .i64 T.1.len] 47 := ⟨(hG.new _ (by omega) (by rw [World.size_alloc]; omega)).trans (OwnB.alloc O_w5_0 _).blk⟩
      have O6b : OwnB w6 w2.heap.size #[.int .i64 (N).kind, .string ⟨(N).text.toArray⟩, .int .i64 (N).n, .int .i64 (N).pos] 60 := ⟨(hG.new _ (by omega) (by rw [World.size_alloc]; omega)).trans (OwnB.alloc O_w5_1 _).blk⟩
      have HG := Lib.hid hG
      clear hG
      refine Shut.out hKo _ _ (fun _ _ => ⟨O6a, O6b, O6⟩) ?_
      clear hKo K
      try simp only [Act.put, List.setIfInBounds_toArray, List.set_cons_zero, List.set_cons_succ]
      refine wpTo_one 11 (by kernel_rfl) rfl (fun K hKo => ?_)
      go_simp
      refine Shut.out hKo _ _ (fun _ _ => ⟨O6a, O6b, O6⟩) ?_
      clear hKo K
      try simp only [Act.put, List.setIfInBounds_toArray, List.set_cons_zero, List.set_cons_succ]
      refine wpTo_one 12 (by kernel_rfl) rfl (fun K hKo => ?_)
      go_simp
      refine Shut.out hKo _ _ (fun _ _ => ⟨O6a, O6b, O6⟩) ?_
      clear hKo K
      try simp only [Act.put, List.setIfInBounds_toArray, List.set_cons_zero, List.set_cons_succ]
      obtain ⟨y6, x6, z6⟩ := O6.facts
      refine wpTo_one 13 (by kernel_rfl) rfl (fun K hKo => ?_)
      go_simp
      refine Shut.out hKo _ _ (fun h _ => absurd rfl h) ?_
      clear hKo K
      try simp only [Act.put, List.setIfInBounds_toArray, List.set_cons_zero, List.set_cons_succ]
      refine wpTo_done (by kernel_rfl) ?_ _
      go_wp2_with fail
      refine bodyPost_ret (v := .tuple #[]) (by simp [results, Tryd.results23, go_sem]) rfl ?_
      exact HG.out.fin0 hn hlo.1
    · rw [if_neg h8] at hR
      obtain ⟨F, hF, hR⟩ := Option.bind_eq_some_iff.1 hR
      obtain rfl := Option.some.inj hR
      have h8' : ((u.globals.length : Int) == 16) = false := by simp; omega
      have CX := fun W H => Lib.hid (global_step c hc f (by omega) T.1 N _ F W hF H)
      clear hR hF ki h8
      unfold pv
      go_enter Tryd.func23, Tryd.ntmps23
      go_wp2_with fail
      refine (CT _ (NowQ.pin (NowQ.to HN.out [] Keeps.au (fun b hb => absurd hb List.not_mem_nil) (fun q _ b hb => absurd hb List.not_mem_nil)))).out.mono ?_
      rintro e w1 ⟨rfl, hP, hK⟩
      have hz_w1 := hK.size
      try simp only [World.size_alloc, World.size_setCell, World.size_drew, World.heap_drewN] at hz_w1
      have O_w1_0 : OwnB w1 (q) #[.slice ga u.globals.length gc, .slice fa u.funcs.length fc] 27 := OwnB.call OwnB.au hK (by simp only [List.mem_singleton]; omega)
      obtain ⟨y_w1_0, x_w1_0, b_w1_0⟩ := O_w1_0.facts
      have HN1 := Lib.hid (NowQ.call (NowQ.to HN.out [] Keeps.au (fun b hb => absurd hb List.not_mem_nil) (fun q _ b hb => absurd hb List.not_mem_nil)) hP hK)
      clear hP hK
      go_wp2_with fail
      refine (CN _ (NowQ.pin (NowQ.to HN1.out [w1.heap.size] Keeps.au (by simp <;> omega) (by simp [kq, mq, dq, iq, fq] <;> omega)))).out.mono ?_
      rintro e w2 ⟨rfl, hP, hK⟩
      have hz_w2 := hK.size
      try simp only [World.size_alloc, World.size_setCell, World.size_drew, World.heap_drewN] at hz_w2
      have O_w2_0 : OwnB w2 (w1.heap.size) #[.int .i64 T.1.kind, .int .i64 T.1.ptr, .int .i64 T.1.len] 47 := OwnB.call OwnB.au hK (by simp only [List.mem_singleton]; omega)
      obtain ⟨y_w2_0, x_w2_0, b_w2_0⟩ := O_w2_0.facts
      have O_w2_1 : OwnB w2 (q) #[.slice ga u.globals.length gc, .slice fa u.funcs.length fc] 27 := OwnB.call OwnB.au hK (by simp only [List.mem_singleton]; omega)
      obtain ⟨y_w2_1, x_w2_1, b_w2_1⟩ := O_w2_1.facts
      have HN2 := Lib.hid (NowQ.call (NowQ.to HN1.out [w1.heap.size] Keeps.au (by simp <;> omega) (by simp [kq, mq, dq, iq, fq] <;> omega)) hP hK)
      clear hP hK
      go_wp2_with fail
      refine (CI _ (NowQ.pin (NowQ.to HN2.out [w1.heap.size, w2.heap.size] Keeps.au (by simp <;> omega) (by simp [kq, mq, dq, iq, fq] <;> omega)))).out.mono ?_
      rintro e w3 ⟨rfl, hP, hK⟩
      have hz_w3 := hK.size
      try simp only [World.size_alloc, World.size_setCell, World.size_drew, World.heap_drewN] at hz_w3
      have O_w3_0 : OwnB w3 (w1.heap.size) #[.int .i64 T.1.kind, .int .i64 T.1.ptr, .int .i64 T.1.len] 47 := OwnB.call OwnB.au hK (by simp only [List.mem_singleton]; omega)
      obtain ⟨y_w3_0, x_w3_0, b_w3_0⟩ := O_w3_0.facts
      have O_w3_1 : OwnB w3 (w2.heap.size) #[.int .i64 (N).kind, .string ⟨(N).text.toArray⟩, .int .i64 (N).n, .int .i64 (N).pos] 60 := OwnB.call OwnB.au hK (by simp only [List.mem_singleton]; omega)
      obtain ⟨y_w3_1, x_w3_1, b_w3_1⟩ := O_w3_1.facts
      have O_w3_2 : OwnB w3 (q) #[.slice ga u.globals.length gc, .slice fa u.funcs.length fc] 27 := OwnB.call OwnB.au hK (by simp only [List.mem_singleton]; omega)
      obtain ⟨y_w3_2, x_w3_2, b_w3_2⟩ := O_w3_2.facts
      have HN3 := Lib.hid (NowQ.call (NowQ.to HN2.out [w1.heap.size, w2.heap.size] Keeps.au (by simp <;> omega) (by simp [kq, mq, dq, iq, fq] <;> omega)) hP hK)
      clear hP hK
      go_wp2_with fail
      refine wpTo_start (fun w' => OwnB w' (w1.heap.size) #[.int .i64 T.1.kind, .int .i64 T.1.ptr, .int .i64 T.1.len] 47 ∧ OwnB w' (w2.heap.size) #[.int .i64 (N).kind, .string ⟨(N).text.toArray⟩, .int .i64 (N).n, .int .i64 (N).pos] 60 ∧ OwnB w' (q) #[.slice ga u.globals.length gc, .slice fa u.funcs.length fc] 27) 13 (by kernel_rfl) ⟨OwnB.au, OwnB.au, OwnB.au⟩ (fun hHeld => ?_)
      refine wpTo_take 0 (v := ?_) (by kernel_rfl) (by kernel_rfl) rfl (by kernel_rfl) (by kernel_rfl) rfl (fun _ _ _ h => h) (Or.inl ⟨by rfl, ?_⟩) hHeld ?_
      rotate_left
      · (intro w' ⟨h0, h1, h2⟩; obtain ⟨ya0, yb0, yc0⟩ := h0.facts; obtain ⟨ya1, yb1, yc1⟩ := h1.facts; obtain ⟨ya2, yb2, yc2⟩ := h2.facts; go_simp; try with_reducible rfl)
      try simp only [Act.put, List.setIfInBounds_toArray, List.set_cons_zero, List.set_cons_succ]
      refine wpTo_take 1 (v := ?_) (by kernel_rfl) (by kernel_rfl) rfl (by kernel_rfl) (by kernel_rfl) rfl (fun _ _ _ h => h) (Or.inl ⟨by rfl, ?_⟩) hHeld ?_
      rotate_left
      · (intro w' ⟨h0, h1, h2⟩; obtain ⟨ya0, yb0, yc0⟩ := h0.facts; obtain ⟨ya1, yb1, yc1⟩ := h1.facts; obtain ⟨ya2, yb2, yc2⟩ := h2.facts; go_simp; try with_reducible rfl)
      try simp only [Act.put, List.setIfInBounds_toArray, List.set_cons_zero, List.set_cons_succ]
      refine wpTo_take 2 (v := ?_) (by kernel_rfl) (by kernel_rfl) rfl (by kernel_rfl) (by kernel_rfl) rfl (fun _ _ _ h => h) (Or.inl ⟨by rfl, ?_⟩) hHeld ?_
      rotate_left
      · (intro w' ⟨h0, h1, h2⟩; obtain ⟨ya0, yb0, yc0⟩ := h0.facts; obtain ⟨ya1, yb1, yc1⟩ := h1.facts; obtain ⟨ya2, yb2, yc2⟩ := h2.facts; go_simp; try with_reducible rfl)
      try simp only [Act.put, List.setIfInBounds_toArray, List.set_cons_zero, List.set_cons_succ]
      refine wpTo_take 3 (v := ?_) (by kernel_rfl) (by kernel_rfl) rfl (by kernel_rfl) (by kernel_rfl) rfl (fun _ _ _ h => h) (Or.inl ⟨by rfl, ?_⟩) hHeld ?_
      rotate_left
      · (intro w' ⟨h0, h1, h2⟩; obtain ⟨ya0, yb0, yc0⟩ := h0.facts; obtain ⟨ya1, yb1, yc1⟩ := h1.facts; obtain ⟨ya2, yb2, yc2⟩ := h2.facts; go_simp; try with_reducible rfl)
      try simp only [Act.put, List.setIfInBounds_toArray, List.set_cons_zero, List.set_cons_succ]
      refine wpTo_take 4 (v := ?_) (by kernel_rfl) (by kernel_rfl) rfl (by kernel_rfl) (by kernel_rfl) rfl (fun _ _ _ h => h) (Or.inl ⟨by rfl, ?_⟩) hHeld ?_
      rotate_left
      · (intro w' ⟨h0, h1, h2⟩; obtain ⟨ya0, yb0, yc0⟩ := h0.facts; obtain ⟨ya1, yb1, yc1⟩ := h1.facts; obtain ⟨ya2, yb2, yc2⟩ := h2.facts; go_simp; try with_reducible rfl)
      try simp only [Act.put, List.setIfInBounds_toArray, List.set_cons_zero, List.set_cons_succ]
      refine wpTo_take 5 (v := ?_) (by kernel_rfl) (by kernel_rfl) rfl (by kernel_rfl) (by kernel_rfl) rfl (fun _ _ _ h => h) (Or.inl ⟨by rfl, ?_⟩) hHeld ?_
      rotate_left
      · (intro w' ⟨h0, h1, h2⟩; obtain ⟨ya0, yb0, yc0⟩ := h0.facts; obtain ⟨ya1, yb1, yc1⟩ := h1.facts; obtain ⟨ya2, yb2, yc2⟩ := h2.facts; go_simp; try with_reducible rfl)
      try simp only [Act.put, List.setIfInBounds_toArray, List.set_cons_zero, List.set_cons_succ]
      refine wpTo_take 6 (v := ?_) (by kernel_rfl) (by kernel_rfl) rfl (by kernel_rfl) (by kernel_rfl) rfl (fun _ _ _ h => h) (Or.inl ⟨by rfl, ?_⟩) hHeld ?_
      rotate_left
      · (intro w' ⟨h0, h1, h2⟩; obtain ⟨ya0, yb0, yc0⟩ := h0.facts; obtain ⟨ya1, yb1, yc1⟩ := h1.facts; obtain ⟨ya2, yb2, yc2⟩ := h2.facts; go_simp; try with_reducible rfl)
      try simp only [Act.put, List.setIfInBounds_toArray, List.set_cons_zero, List.set_cons_succ]
      refine wpTo_take 7 (v := ?_) (by kernel_rfl) (by kernel_rfl) rfl (by kernel_rfl) (by kernel_rfl) rfl (fun _ _ _ h => h) (Or.inl ⟨by rfl, ?_⟩) hHeld ?_
      rotate_left
      · (intro w' ⟨h0, h1, h2⟩; obtain ⟨ya0, yb0, yc0⟩ := h0.facts; obtain ⟨ya1, yb1, yc1⟩ := h1.facts; obtain ⟨ya2, yb2, yc2⟩ := h2.facts; go_simp; try with_reducible rfl)
      try simp only [Act.put, List.setIfInBounds_toArray, List.set_cons_zero, List.set_cons_succ]
      refine wpTo_one 8 (by kernel_rfl) rfl (fun K hKo => ?_)
      go_simp
      go_at_call 42
      refine (CX _ (NowQ.pin (NowQ.to HN3.out [w1.heap.size, w2.heap.size] Keeps.au (by simp <;> omega) (by simp [kq, mq, dq, iq, fq] <;> omega)))).out.mono ?_
      rintro e w5 ⟨a1, n1, p1, rfl, hP, hKk, hT⟩
      have hz_w5 := hKk.size
      try simp only [World.size_alloc, World.size_setCell, World.size_drew, World.heap_drewN] at hz_w5
      have O_w5_0 : OwnB w5 w1.heap.size #[.int .i64 T.1.kind, .int .i64 T.1.ptr, .int .i64 T.1.len] 47 := OwnB.call OwnB.au hKk (by simp only [List.mem_singleton]; omega)
      have O_w5_1 : OwnB w5 w2.heap.size #[.int .i64 (N).kind, .string ⟨(N).text.toArray⟩, .int .i64 (N).n, .int .i64 (N).pos] 60 := OwnB.call OwnB.au hKk (by simp only [List.mem_singleton]; omega)
      have O_w5_2 : OwnB w5 q #[.slice ga u.globals.length gc, .slice fa u.funcs.length fc] 27 := OwnB.call OwnB.au hKk (by simp only [List.mem_singleton]; omega)
      obtain ⟨y_w5_2, x_w5_2, b_w5_2⟩ := O_w5_2.facts
      have HN5 := Lib.hid (NowQ.callT (NowQ.to HN3.out [w1.heap.size, w2.heap.size] Keeps.au (by simp <;> omega) (by simp [kq, mq, dq, iq, fq] <;> omega)) (iq _ w5.heap.size [] F.1.init (.slice a1 n1 p1)) hP hKk hT (Nat.le_refl _) (Nat.le_refl _))
      clear hP hKk hT
      refine Shut.out hKo _ _ (fun _ _ => ⟨OwnB.au, OwnB.au, OwnB.au⟩) ?_
      clear hKo K
      try simp only [Act.put, List.setIfInBounds_toArray, List.set_cons_zero, List.set_cons_succ]
      refine wpTo_one 9 (by kernel_rfl) rfl (fun K hKo => ?_)
      go_simp
      refine Shut.out hKo _ _ (fun _ _ => ⟨OwnB.au, OwnB.au, OwnB.au⟩) ?_
      clear hKo K
      try simp only [Act.put, List.setIfInBounds_toArray, List.set_cons_zero, List.set_cons_succ]
      refine wpTo_one 10 (by kernel_rfl) rfl (fun K hKo => ?_)
      refine step_globals rfl _ _ rfl rfl rfl rfl (NowQ.to HN5.out [w1.heap.size, w2.heap.size] Keeps.au (by simp <;> omega) (by simp [kq, mq, dq, iq, fq] <;> omega)) HU.out (show OwnB _ (w5.heap.size) #[.string ⟨F.1.nm.toArray⟩, .int .i64 F.1.ty.kind, .int .i64 F.1.ty.ptr, .int .i64 F.1.ty.len, .slice a1 n1 p1, .int .i64 F.1.pos] 50 from OwnB.au) (qv := #[.slice ga u.globals.length gc, .slice fa u.funcs.length fc]) OwnB.au hlo (by omega) ?_
      intro g cap' w6 hG
      try simp only [Act.put, List.setIfInBounds_toArray, List.set_cons_zero, List.set_cons_succ]
      have O6 := hG.own
      have O6a : OwnB w6 w1.heap.size #[.int .i64 T.1.kind, .int .i64 T.1.ptr, .int .i64 T.1.len] 47 := ⟨(hG.new _ (by omega) (by rw [World.size_alloc]; omega)).trans (OwnB.alloc O_w5_0 _).blk⟩
      have O6b : OwnB w6 w2.heap.size #[.int .i64 (N).kind, .string ⟨(N).text.toArray⟩, .int .i64 (N).n, .int .i64 (N).pos] 60 := ⟨(hG.new _ (by omega) (by rw [World.size_alloc]; omega)).trans (OwnB.alloc O_w5_1 _).blk⟩
      have HG := Lib.hid hG
      clear hG
      refine Shut.out hKo _ _ (fun _ _ => ⟨O6a, O6b, O6⟩) ?_
      clear hKo K
      try simp only [Act.put, List.setIfInBounds_toArray, List.set_cons_zero, List.set_cons_succ]
      refine wpTo_one 11 (by kernel_rfl) rfl (fun K hKo => ?_)
      go_simp
      refine Shut.out hKo _ _ (fun _ _ => ⟨O6a, O6b, O6⟩) ?_
      clear hKo K
      try simp only [Act.put, List.setIfInBounds_toArray, List.set_cons_zero, List.set_cons_succ]
      refine wpTo_one 12 (by kernel_rfl) rfl (fun K hKo => ?_)
      go_simp
      refine Shut.out hKo _ _ (fun _ _ => ⟨O6a, O6b, O6⟩) ?_
      clear hKo K
      try simp only [Act.put, List.setIfInBounds_toArray, List.set_cons_zero, List.set_cons_succ]
      obtain ⟨y6, x6, z6⟩ := O6.facts
      refine wpTo_one 13 (by kernel_rfl) rfl (fun K hKo => ?_)
      go_simp
      refine Shut.out hKo _ _ (fun h _ => absurd rfl h) ?_
      clear hKo K
      try simp only [Act.put, List.setIfInBounds_toArray, List.set_cons_zero, List.set_cons_succ]
      refine wpTo_done (by kernel_rfl) ?_ _
      go_wp2_with fail
      refine bodyPost_ret (v := .tuple #[]) (by simp [results, Tryd.results23, go_sem]) rfl ?_
      exact HG.out.fin0 hn hlo.1
end Go.Proofs.YtjmemapkipkocaaDoor

/-
  The map of meanings, made.
-/
namespace Go.Proofs.YtjmemapkipkocaaDoor
open Go.RowKit Go.Maps
set_option linter.unusedVariables false
set_option linter.unusedSimpArgs false
set_option maxRecDepth 100000
set_option maxHeartbeats 4000000

def signC (l : List MRow) : List Value := l.flatMap fun m => [.int .i64 m.1.1, .string ⟨m.1.2.toArray⟩, .int .i64 m.2.1, .int .i64 m.2.2]
theorem wp_lit {P : Program} {o : Oper} {a : Act} {w w' : World} {v : Value} {next : Act → World → Prop} {Q : Exit → Act → World → Prop}
    (h : (execOp a.eval o).run P w = .ok (.value v) w') (hn : next (a.put o.dst v) w') : Oper.wp P o a w next Q := by
  unfold Oper.wp; rw [h]; exact hn
theorem allSigned_any (w : World) : Calls Tryd.prog 21 #[] w fun e w' => e = .returned (.slice (some ⟨w.heap.size, 0, none⟩) 40 40) ∧ w' = w.alloc (.cells (signC meanL).toArray 71) := by
  go_enter Tryd.func21, Tryd.ntmps21
  go_wp2_with fail
  refine wp_lit (v := .slice (some ⟨w.heap.size, 0, none⟩) 40 40) (w' := w.alloc (.cells (signC meanL).toArray 71)) (by kernel_rfl) ?_
  first
    | (go_wp2_with fail; go_ret; exact ⟨rfl, rfl⟩)
    | (go_wp2_with fail; go_outline)
    | go_outline
end Go.Proofs.YtjmemapkipkocaaDoor

/-
  The map of meanings.
-/
namespace Go.Proofs.YtjmemapkipkocaaDoor
open Go.RowKit Go.Maps
set_option linter.unusedVariables false
set_option linter.unusedSimpArgs false
set_option maxRecDepth 100000
set_option maxHeartbeats 1000000

theorem signC_get : ∀ (l : List MRow) (k : Nat) (m : MRow) (j : Nat) (u : Value), l[k]? = some m → [Value.int .i64 m.1.1, .string ⟨m.1.2.toArray⟩, .int .i64 m.2.1, .int .i64 m.2.2][j]? = some u → (signC l)[k * 4 + j]? = some u := by
  intro l
  induction l with
  | nil => intro k m j u h; cases h
  | cons t l ih =>
    intro k m j u hk hu
    have hj : j < 4 := (List.getElem?_eq_some_iff.1 hu).1
    cases k with
    | zero =>
      obtain rfl : t = m := by simpa using hk
      simp only [signC, List.flatMap_cons, Nat.zero_mul, Nat.zero_add]
      rw [List.getElem?_append_left (by simpa using hj)]
      exact hu
    | succ k =>
      simp only [signC, List.flatMap_cons]
      rw [List.getElem?_append_right (by simp; omega)]
      have := ih k m j u (by simpa using hk) hu
      rw [← this]
      simp only [signC]
      congr 1
      simp; omega
theorem mean_new : ∀ k, k < 40 → (meanL.take k).find? (fun x => x.1 == (meanL.getD k ((0, []), (0, 0))).1) = none := by decide +kernel
theorem meanings_any (w : World) : Calls Tryd.prog 12 #[] w fun e w' => ∃ b, e = .returned (.map (some b)) ∧ w.heap.size ≤ b ∧ w'.heap[b]? = some (mapObj meanL) ∧ Below w.heap.size w w' := by
  have CA := fun W => Lib.hid (allSigned_any W)
  have hmm := @run_makeMap Tryd.prog
  go_enter Tryd.func12, Tryd.ntmps12
  go_wp2_with fail
  refine (CA _).out.mono ?_
  rintro e w1 ⟨rfl, hw1⟩
  go_wp2_with fail
  have hsz : w1.heap.size = w.heap.size + 2 := by rw [hw1]; simp
  go_loopw [3, 7, 8, 9, 10, 11, 12, 13, 14, 15, 16] (fun _ i _ _ _ _ _ _ _ _ _ wr => ∃ k : Nat, k ≤ 40 ∧ i = .int .i64 k ∧ wr.heap[w.heap.size]? = some (mapObj (meanL.take k)) ∧ wr.heap[w.heap.size + 1]? = some (.cells (signC meanL).toArray 71 (0, 0)) ∧ Below w.heap.size w wr) (fun _ i _ _ _ _ _ _ _ _ _ _ => 40 - (intOf i).toNat)
  case atStart => exact ⟨0, by omega, rfl, by (show ((w.heap.push _).push _)[w.heap.size]? = _; rw [Array.getElem?_push, if_neg (by simp), Array.getElem?_push, if_pos rfl]; rfl), by (show ((w.heap.push _).push _)[w.heap.size + 1]? = _; rw [Array.getElem?_push, if_pos (by simp)]), (((Below.refl _ _).alloc (Nat.le_refl _) _).alloc (by simp) _)⟩
  case round =>
    obtain ⟨k, hk, rfl, hm, hc, hb⟩ := hrel
    by_cases hlt : k < 40
    · obtain ⟨m, hmk⟩ : ∃ m, meanL[k]? = some m := ⟨_, List.getElem?_eq_getElem (by show k < 40; exact hlt)⟩
      have hcell : ∀ (j : Nat) (u : Value), [Value.int .i64 m.1.1, .string ⟨m.1.2.toArray⟩, .int .i64 m.2.1, .int .i64 m.2.2][j]? = some u → wr.cell? ⟨w.heap.size + 1, k * 4 + j, none⟩ = some u := fun j u hu => by
        rw [cellB hc]
        simpa using signC_get meanL k m j u hmk hu
      have c0 := hcell 0 _ rfl
      have c1 := hcell 1 _ rfl
      have c2 := hcell 2 _ rfl
      have c3 := hcell 3 _ rfl
      simp only [Nat.add_zero] at c0
      have hnew : (meanL.take k).find? (fun x => x.1 == m.1) = none := by
        have h1 := mean_new k hlt
        rw [List.getD_eq_getElem?_getD, hmk] at h1
        exact h1
      have hput := fun (W : World) (h : W.heap[w.heap.size]? = some (mapObj (meanL.take k))) => put_mean W w.heap.size _ m h hnew
      have ht1 : meanL.take k ++ [m] = meanL.take (k + 1) := by
        rw [List.take_add_one, hmk]; rfl
      rw [ht1] at hput
      simp only [keyV, valV] at hput
      have hd : decide ((k : Int) < 40) = true := by simp; omega
      have hk0 : (0 : Int) ≤ (k : Int) := by omega
      have hk40 : (k : Int) < 40 := by omega
      have hbl : w.heap.size + 2 ≤ wr.heap.size := by have := lt_of_blk hc; omega
      clear hcell hnew hmk ht1
      go_wp2_with fail
      rw [hput _ (by show (wr.heap.push _)[w.heap.size]? = _; rw [Array.getElem?_push, if_neg (by omega)]; exact hm)]
      simp only [Result.andThen_ok, Oper.upon]
      go_wp2_with fail
      go_roundw
      case measure => simp [intOf]; omega
      case rel =>
        refine ⟨k + 1, by omega, by simp, ?_, ?_, ?_⟩
        · rw [Array.getElem?_setIfInBounds, if_pos rfl, if_pos (by rw [World.size_alloc]; omega)]
        · rw [Array.getElem?_setIfInBounds, if_neg (by omega)]
          show (wr.heap.push _)[w.heap.size + 1]? = _
          rw [Array.getElem?_push, if_neg (by omega)]
          exact hc
        · refine hb.trans ⟨rfl, rfl, rfl, ?_, fun i hi => ?_⟩
          · show _ ≤ (Array.setIfInBounds _ _ _).size
            rw [Array.size_setIfInBounds, World.size_alloc]; omega
          · show (Array.setIfInBounds _ _ _)[i]? = _
            rw [Array.getElem?_setIfInBounds, if_neg (by omega)]
            show (wr.heap.push _)[i]? = _
            rw [Array.getElem?_push, if_neg (by omega)]
    · obtain rfl : k = 40 := by omega
      have hd : decide (((40 : Nat) : Int) < 40) = false := by decide
      rw [show meanL.take 40 = meanL from rfl] at hm
      go_wp2_with fail
      go_ret
      exact ⟨_, rfl, Nat.le_refl _, hm, hb⟩
end Go.Proofs.YtjmemapkipkocaaDoor

/-
  A whole program.
-/
namespace Go.Proofs.YtjmemapkipkocaaDoor
open Go.RowKit Go.Maps
set_option linter.unusedVariables false
set_option linter.unusedSimpArgs false
set_option maxRecDepth 100000
set_option maxHeartbeats 1000000

theorem item_len (l : List Tok) (f : Nat) (u : Un) (s : St) (R : Un × St) (h : P.item l f u s = some R) : R.1.funcs.length ≤ u.funcs.length + 1 ∧ R.1.globals.length ≤ u.globals.length + 1 := by
  simp only [P.item] at h
  split at h <;> (obtain ⟨F, hF, h⟩ := Option.bind_eq_some_iff.1 h; obtain rfl := Option.some.inj h; simp)
/-- What a call does that returns a program. -/
def DoesN (c : Cx) (R : Un × St) (w : World) (e : Ending) (w' : World) : Prop :=
  ∃ ga gn gc fa fn fc, e = .returned (.agg #[.slice ga gn gc, .slice fa fn fc]) ∧ PIn w' c R.2 ∧ Keeps [c.g] w w' ∧ UIn w' w.heap.size w'.heap.size R.1 (.slice ga gn gc) (.slice fa fn fc)
theorem UIn.wide {w : World} {lo hi lo' hi' : Nat} {u : Un} {gv fv : Value} (h : UIn w lo hi u gv fv) (h1 : lo' ≤ lo) (h2 : hi ≤ hi') (h3 : hi' ≤ w.heap.size) : UIn w lo' hi' u gv fv := by
  obtain ⟨_, Fg, Ff, h4, h5, h6, h7⟩ := h
  exact ⟨h3, Fg, Ff, h4, h5, h6, fun b hm => by have := h7 b hm; omega⟩
/-- Where the loop is. -/
structure UAt (c : Cx) (w : World) (f : Nat) (R : Un × St) (k : Nat) (wr : World) : Prop where
  ex : ∃ (u : Un) (s0 : St) (ga fa : Option Addr) (gn gc fn fc : Nat), PIn wr c s0 ∧ OwnB wr w.heap.size #[.slice none 0 0, .slice none 0 0] 27 ∧ OwnB wr (w.heap.size + 1) #[.slice ga gn gc, .slice fa fn fc] 27 ∧ UIn wr (w.heap.size + 2) wr.heap.size u (.slice ga gn gc) (.slice fa fn fc) ∧
    Keeps [c.g] w wr ∧ P.unitL c.l f k u s0 = some R ∧ u.funcs.length + k ≤ 1000000 ∧ u.globals.length + k ≤ 1000000
theorem unit_step (c : Cx) (hc : c.Ok) (f : Nat) (hf : f + 2 ≤ 1000000000) (GS : ∀ k, k ≤ f → GoodS c k) (g : Nat) (hg : g ≤ 900000) (s : St) (R : Un × St) (w : World) (hR : P.unitL c.l f g un0 s = some R) (h : PIn w c s) :
    Calls Tryd.prog 13 #[pv c] w (DoesN c R w) := by
  have hlg := lt_of_blk h.blk
  have hlt := lt_of_blk h.tok.choose_spec.1
  have hlm := lt_of_blk h.map
  have hlz := lt_of_blk h.siz
  have HP := Lib.hid h
  have HR := Lib.hid hR
  clear h hR
  unfold pv
  go_enter Tryd.func13, Tryd.ntmps13
  go_wp2_with fail
  go_loopg [4, 5, 6, 7, 8, 9] g (fun k _ _ _ _ _ _ wr => UAt c w f R k wr)
  case atStart => exact ⟨un0, s, none, none, 0, 0, 0, 0, (HP.out.alloc _).alloc _, OwnB.alloc (OwnB.new rfl) _, OwnB.new (by simp), UIn.nil (Nat.le_refl _), ((Keeps.refl _ _).alloc _).alloc _, HR.out, by simp [un0]; omega, by simp [un0]; omega⟩
  case round =>
    obtain ⟨u, s0, ga, fa, gn, gc, fn, fc, hP, hO0, hO1, hU, hK, hu, hb1, hb2⟩ := hrel
    have hsz := lt_of_blk hO1.blk
    have CT := fun W H => Lib.hid (token_any c hc s0 W H)
    obtain ⟨T, hT⟩ : ∃ T, T = P.tok c.l s0 := ⟨_, rfl⟩
    rw [← hT] at CT
    obtain ⟨k, rfl⟩ : ∃ k, gk = k + 1 := by
      cases gk with
      | zero => cases hu
      | succ k => exact ⟨k, rfl⟩
    unfold P.unitL at hu
    rw [← hT] at hu
    have HPr := Lib.hid hP
    have HK := Lib.hid hK
    have HU := Lib.hid hU
    have tk0 := tok_field0
    have tk1 := tok_field1
    have tk2 := tok_field2
    have tk3 := tok_field3
    by_cases hk0 : T.kind = 0
    · rw [if_pos hk0] at hu
      obtain rfl := Option.some.inj hu
      have hk1 : (T.kind != 0) = false := by simp [hk0]
      clear hP hK hU hT hk0 hu
      go_wp2_with fail
      refine (CT _ HPr.out).out.mono ?_
      rintro e w1 ⟨rfl, hP1, hK1⟩
      have O0 : OwnB w1 w.heap.size #[.slice none 0 0, .slice none 0 0] 27 := OwnB.call hO0 hK1 (by simp only [List.mem_singleton]; omega)
      have O1 : OwnB w1 (w.heap.size + 1) #[.slice ga gn gc, .slice fa fn fc] 27 := OwnB.call hO1 hK1 (by simp only [List.mem_singleton]; omega)
      obtain ⟨y0, x0, z0⟩ := O0.facts
      obtain ⟨y1, x1, z1⟩ := O1.facts
      have hz1 := hK1.size
      have HP1 := Lib.hid hP1
      have HK1 := Lib.hid hK1
      clear hP1 hK1
      go_wp2_with fail
      refine bodyPost_ret (v := .agg #[.slice ga gn gc, .slice fa fn fc]) (by simp [results, Tryd.results13, go_sem, *]) rfl ?_
      have hb : ∀ b, b ≠ w.heap.size → ((w1.setCell ⟨w.heap.size, 0, none⟩ (.slice ga gn gc)).setCell ⟨w.heap.size, 1, none⟩ (.slice fa fn fc)).heap[b]? = w1.heap[b]? := fun b h => (Below.heap_setCell _ _ _ _ h).trans (Below.heap_setCell _ _ _ _ h)
      have hz : ((w1.setCell ⟨w.heap.size, 0, none⟩ (.slice ga gn gc)).setCell ⟨w.heap.size, 1, none⟩ (.slice fa fn fc)).heap.size = w1.heap.size := by simp only [World.size_setCell]
      refine ⟨ga, gn, gc, fa, fn, fc, rfl, (HP1.out.setCell _ _ (by show w.heap.size ≠ _; omega) (by show w.heap.size ≠ _; omega) (by show w.heap.size ≠ _; omega) (by show w.heap.size ≠ _; omega)).setCell _ _ (by show w.heap.size ≠ _; omega) (by show w.heap.size ≠ _; omega) (by show w.heap.size ≠ _; omega) (by show w.heap.size ≠ _; omega),
        ((HK.out.trans HK1.out).setCell _ (.inl (Nat.le_refl _)) _).setCell _ (.inl (Nat.le_refl _)) _, ?_⟩
      have h5 : UIn w1 (w.heap.size + 2) wr.heap.size u (.slice ga gn gc) (.slice fa fn fc) := HU.out.of_heap hz1 (fun b h1 h2 => HK1.out.block b h2 (by simp; omega))
      exact (h5.of_heap (by rw [hz]; exact Nat.le_refl _) (fun b h1 _ => hb b (by omega))).wide (by omega) (by rw [hz]; exact hz1) (Nat.le_refl _)
    · rw [if_neg hk0] at hu
      obtain ⟨A, hA, hu⟩ := Option.bind_eq_some_iff.1 hu
      have hk1 : (T.kind != 0) = true := by simp [hk0]
      have hln := item_len c.l f u s0 A hA
      have HA := Lib.hid hA
      have Hu := Lib.hid hu
      clear hP hK hU hT hk0 hu hA
      go_wp2_with fail
      refine (CT _ HPr.out).out.mono ?_
      rintro e w1 ⟨rfl, hP1, hK1⟩
      have O0 : OwnB w1 w.heap.size #[.slice none 0 0, .slice none 0 0] 27 := OwnB.call hO0 hK1 (by simp only [List.mem_singleton]; omega)
      have O1 : OwnB w1 (w.heap.size + 1) #[.slice ga gn gc, .slice fa fn fc] 27 := OwnB.call hO1 hK1 (by simp only [List.mem_singleton]; omega)
      have hz1 := hK1.size
      have h5 : UIn w1 (w.heap.size + 2) w1.heap.size u (.slice ga gn gc) (.slice fa fn fc) := (HU.out.of_heap hz1 (fun b h1 h2 => hK1.block b h2 (by simp; omega))).wide (Nat.le_refl _) hz1 (Nat.le_refl _)
      have CI := Lib.hid (item_step c hc f hf GS (w.heap.size + 1) (w.heap.size + 2) u s0 A w1 ga fa gn gc fn fc ⟨by omega, by omega⟩ HA.out hP1 O1 ⟨by omega, by omega, by omega, by omega⟩ ⟨by omega, by omega, by omega, by omega, by omega, by omega⟩ h5)
      have HK1 := Lib.hid (HK.out.trans hK1)
      clear hP1 hK1 h5
      go_wp2_with fail
      refine CI.out.mono ?_
      rintro e w2 ⟨ga2, gn2, gc2, fa2, fn2, fc2, rfl, hP2, hO2, hU2, hz2, hot, hold⟩
      have HP2 := Lib.hid hP2
      have HU2 := Lib.hid hU2
      have HO := Lib.hid hold
      clear hP2 hU2 hold
      go_wp2_with fail
      go_roundg k
      case measure => omega
      case rel =>
        refine ⟨A.1, A.2, ga2, fa2, gn2, gc2, fn2, fc2, HP2.out, ⟨(HO.out _ (by omega) (by omega) (by omega)).trans O0.blk⟩, hO2, HU2.out, ⟨hot.1.trans HK1.out.os, hot.2.1.trans HK1.out.tape, hot.2.2.trans HK1.out.output, by omega, fun b h1 h2 => ?_⟩, Hu.out, by omega, by omega⟩
        simp only [List.mem_singleton] at h2
        exact (HO.out b (by omega) (by omega) h2).trans (HK1.out.block b h1 (by simp [h2]))
end Go.Proofs.YtjmemapkipkocaaDoor

/-
  Statements: 'local'.
-/
namespace Go.Proofs.YtjmemapkipkocaaDoor
open Go.RowKit Go.Maps
set_option linter.unusedVariables false
set_option linter.unusedSimpArgs false
set_option maxRecDepth 100000
set_option maxHeartbeats 2000000

theorem local_step (c : Cx) (hc : c.Ok) (f : Nat) (d p : Int) (s : St) (R : Sm × St) (w : World) (q : Nat) (h0 : 0 ≤ d) (hd : d + (f + 1) ≤ 1000000000) (hq : OwnB w q #[.int .i64 0, .slice none 0 0, .slice none 0 0, .int .i64 0, .int .i64 0, .int .i64 0, .string ⟨#[]⟩, .int .i64 0, .int .i64 p] 82)
    (hn : q ≠ c.g ∧ q ≠ c.gt ∧ q ≠ c.mb ∧ q ≠ 2) (hR : P.loc c.l (P.recs c.l f) d s { sm0 with pos := p } = some R) (h : PIn w c s) : Calls Tryd.prog 86 #[pv c, .pointer (some ⟨q, 0, none⟩), .int .i64 d] w (DoesW c q R w) := by
  have hqlt := lt_of_blk hq.blk
  have hq1 : q ≠ c.g := hn.1
  have HS := Lib.hid (NowS.start h hqlt hn)
  have hg := HS.out.g
  have hgt := HS.out.gt
  obtain ⟨yq, xq, zq⟩ := hq.facts
  have hw : wrap64 (d + 1) = d + 1 := wrapJ (by omega) (by omega)
  obtain ⟨Y, hY⟩ : ∃ Y, Y = P.typ c.l s := ⟨_, rfl⟩
  obtain ⟨V, hV⟩ : ∃ V, V = P.kindT c.l 1 Y.2 := ⟨_, rfl⟩
  obtain ⟨s2, hs2⟩ : ∃ s2, s2 = P.kind c.l 1 Y.2 := ⟨_, rfl⟩
  obtain ⟨G, hG⟩ : ∃ G, G = P.length c.l s2 := ⟨_, rfl⟩
  have CT := fun W H => Lib.hid (typeOf_any c hc s W H)
  have CV := fun W H => Lib.hid (name_any c hc Y.2 W H)
  have CG := fun W H => Lib.hid (length_any c hc s2 W H)
  rw [← hY] at CT
  rw [← hV, ← hs2] at CV
  rw [← hG] at CG
  have CE := fun W H => Lib.hid (accept_any c hc G.2 W H [61])
  simp only [P.loc, ← hY, ← hV, ← hs2, ← hG] at hR
  have tk0 := tok_field0
  have tk1 := tok_field1
  have tk2 := tok_field2
  have tk3 := tok_field3
  by_cases hz : G.1 = 0
  · have hz1 : (G.1 == 0) = true := by simp [hz]
    cases ki : P.is c.l [61] G.2 with
    | true =>
      rw [ki, if_pos ⟨hz, rfl⟩] at hR
      obtain ⟨A, hA, hR⟩ := Option.bind_eq_some_iff.1 hR
      obtain rfl := Option.some.inj hR
      rw [ki, show P.acc c.l [61] G.2 = P.next c.l G.2 by simp [P.acc, ki]] at CE
      have CD := fun W H => Lib.hid (told_step c hc f d (P.next c.l G.2) A W h0 hd hA H)
      clear h hR hA hz hY hV hs2 hG ki
      unfold pv
      go_enter Tryd.func86, Tryd.ntmps86
      go_wp2_with fail
      refine (CT _ (NowS.pin (NowS.to HS.out [q] Keeps.au (by simp <;> omega) (by simp [kq, mq] <;> omega)))).out.mono ?_
      rintro e x1 ⟨rfl, hP, hK⟩
      have hz_x1 := hK.size
      try simp only [World.size_alloc, World.size_setCell, World.size_drew, World.heap_drewN] at hz_x1
      have O_x1_0 : OwnB x1 (q) #[.int .i64 0, .slice none 0 0, .slice none 0 0, .int .i64 0, .int .i64 0, .int .i64 0, .string ⟨#[]⟩, .int .i64 0, .int .i64 p] 82 := OwnB.call OwnB.au hK (by simp only [List.mem_singleton]; omega)
      obtain ⟨y_x1_0, x_x1_0, b_x1_0⟩ := O_x1_0.facts
      have HS1 := Lib.hid (NowS.call (NowS.to HS.out [q] Keeps.au (by simp <;> omega) (by simp [kq, mq] <;> omega)) hP hK)
      clear hP hK
      go_wp2_with fail
      refine (CV _ (NowS.pin (NowS.to HS1.out [q] Keeps.au (by simp <;> omega) (by simp [kq, mq] <;> omega)))).out.mono ?_
      rintro e x2 ⟨rfl, hP, hK⟩
      have hz_x2 := hK.size
      try simp only [World.size_alloc, World.size_setCell, World.size_drew, World.heap_drewN] at hz_x2
      have O_x2_0 : OwnB x2 (q) #[.int .i64 2, .slice none 0 0, .slice none 0 0, .int .i64 Y.1.kind, .int .i64 Y.1.ptr, .int .i64 Y.1.len, .string ⟨#[]⟩, .int .i64 0, .int .i64 p] 82 := OwnB.call (by repeat (first | with_reducible apply OwnB.s9_0 | with_reducible apply OwnB.s9_1 | with_reducible apply OwnB.s9_2 | with_reducible apply OwnB.s9_3 | with_reducible apply OwnB.s9_4 | with_reducible apply OwnB.s9_5 | with_reducible apply OwnB.s9_6 | with_reducible apply OwnB.s9_7 | with_reducible apply OwnB.s9_8 | with_reducible assumption | (with_reducible refine OwnB.new ?_; (first | with_reducible rfl | (simp only [World.size_alloc, World.size_setCell, World.size_drew, World.heap_drewN]; done) | (simp only [World.size_alloc, World.size_setCell, World.size_drew, World.heap_drewN]; omega))) | with_reducible refine OwnB.alloc ?_ _ | with_reducible refine OwnB.drew ?_ | with_reducible refine OwnB.drewN ?_ _ | with_reducible refine OwnB.setCell ?_ _ _ ?_ | (dsimp only; omega) | omega)) hK (by simp only [List.mem_singleton]; omega)
      obtain ⟨y_x2_0, x_x2_0, b_x2_0⟩ := O_x2_0.facts
      have HS2 := Lib.hid (NowS.call (NowS.to HS1.out [q] Keeps.au (by simp <;> omega) (by simp [kq, mq] <;> omega)) hP hK)
      clear hP hK
      go_wp2_with fail
      refine (CG _ (NowS.pin (NowS.to HS2.out [q] Keeps.au (by simp <;> omega) (by simp [kq, mq] <;> omega)))).out.mono ?_
      rintro e x3 ⟨rfl, hP, hK⟩
      have hz_x3 := hK.size
      try simp only [World.size_alloc, World.size_setCell, World.size_drew, World.heap_drewN] at hz_x3
      have O_x3_0 : OwnB x3 (q) #[.int .i64 2, .slice none 0 0, .slice none 0 0, .int .i64 Y.1.kind, .int .i64 Y.1.ptr, .int .i64 Y.1.len, .string ⟨V.text.toArray⟩, .int .i64 0, .int .i64 p] 82 := OwnB.call (by repeat (first | with_reducible apply OwnB.s9_0 | with_reducible apply OwnB.s9_1 | with_reducible apply OwnB.s9_2 | with_reducible apply OwnB.s9_3 | with_reducible apply OwnB.s9_4 | with_reducible apply OwnB.s9_5 | with_reducible apply OwnB.s9_6 | with_reducible apply OwnB.s9_7 | with_reducible apply OwnB.s9_8 | with_reducible assumption | (with_reducible refine OwnB.new ?_; (first | with_reducible rfl | (simp only [World.size_alloc, World.size_setCell, World.size_drew, World.heap_drewN]; done) | (simp only [World.size_alloc, World.size_setCell, World.size_drew, World.heap_drewN]; omega))) | with_reducible refine OwnB.alloc ?_ _ | with_reducible refine OwnB.drew ?_ | with_reducible refine OwnB.drewN ?_ _ | with_reducible refine OwnB.setCell ?_ _ _ ?_ | (dsimp only; omega) | omega)) hK (by simp only [List.mem_singleton]; omega)
      obtain ⟨y_x3_0, x_x3_0, b_x3_0⟩ := O_x3_0.facts
      have HS3 := Lib.hid (NowS.call (NowS.to HS2.out [q] Keeps.au (by simp <;> omega) (by simp [kq, mq] <;> omega)) hP hK)
      clear hP hK
      go_wp2_with fail
      refine (CE _ (NowS.pin (NowS.to HS3.out [q] Keeps.au (by simp <;> omega) (by simp [kq, mq] <;> omega)))).out.mono ?_
      rintro e x4 ⟨rfl, hP, hK⟩
      have hz_x4 := hK.size
      try simp only [World.size_alloc, World.size_setCell, World.size_drew, World.heap_drewN] at hz_x4
      have O_x4_0 : OwnB x4 (q) #[.int .i64 2, .slice none 0 0, .slice none 0 0, .int .i64 Y.1.kind, .int .i64 Y.1.ptr, .int .i64 G.1, .string ⟨V.text.toArray⟩, .int .i64 0, .int .i64 p] 82 := OwnB.call (by repeat (first | with_reducible apply OwnB.s9_0 | with_reducible apply OwnB.s9_1 | with_reducible apply OwnB.s9_2 | with_reducible apply OwnB.s9_3 | with_reducible apply OwnB.s9_4 | with_reducible apply OwnB.s9_5 | with_reducible apply OwnB.s9_6 | with_reducible apply OwnB.s9_7 | with_reducible apply OwnB.s9_8 | with_reducible assumption | (with_reducible refine OwnB.new ?_; (first | with_reducible rfl | (simp only [World.size_alloc, World.size_setCell, World.size_drew, World.heap_drewN]; done) | (simp only [World.size_alloc, World.size_setCell, World.size_drew, World.heap_drewN]; omega))) | with_reducible refine OwnB.alloc ?_ _ | with_reducible refine OwnB.drew ?_ | with_reducible refine OwnB.drewN ?_ _ | with_reducible refine OwnB.setCell ?_ _ _ ?_ | (dsimp only; omega) | omega)) hK (by simp only [List.mem_singleton]; omega)
      obtain ⟨y_x4_0, x_x4_0, b_x4_0⟩ := O_x4_0.facts
      have HS4 := Lib.hid (NowS.call (NowS.to HS3.out [q] Keeps.au (by simp <;> omega) (by simp [kq, mq] <;> omega)) hP hK)
      clear hP hK
      go_wp2_with fail
      refine (CD _ (NowS.pin (NowS.to HS4.out [q] Keeps.au (by simp <;> omega) (by simp [kq, mq] <;> omega)))).out.mono ?_
      rintro e x5 ⟨a1, n1, p1, rfl, hP, hK, hT⟩
      have hz_x5 := hK.size
      try simp only [World.size_alloc, World.size_setCell, World.size_drew, World.heap_drewN] at hz_x5
      have O_x5_0 : OwnB x5 (q) #[.int .i64 2, .slice none 0 0, .slice none 0 0, .int .i64 Y.1.kind, .int .i64 Y.1.ptr, .int .i64 G.1, .string ⟨V.text.toArray⟩, .int .i64 0, .int .i64 p] 82 := OwnB.call OwnB.au hK (by simp only [List.mem_singleton]; omega)
      obtain ⟨y_x5_0, x_x5_0, b_x5_0⟩ := O_x5_0.facts
      have HS5 := Lib.hid (NowS.callE (NowS.to HS4.out [q] Keeps.au (by simp <;> omega) (by simp [kq, mq] <;> omega)) hP hK hT)
      clear hP hK hT
      go_wp2_with fail
      go_end0
      exact NowS.finW (R := (({ sm0 with op := 2, ty := { Y.1 with len := G.1 }, nm := V.text, ex := A.1, pos := p } : Sm), A.2)) (NowS.to HS5.out [q] Keeps.au (by simp <;> omega) (by simp [kq, mq] <;> omega)) (show OwnB _ (q) #[.int .i64 2, .slice a1 n1 p1, .slice none 0 0, .int .i64 Y.1.kind, .int .i64 Y.1.ptr, .int .i64 G.1, .string ⟨V.text.toArray⟩, .int .i64 0, .int .i64 p] 82 from (by repeat (first | with_reducible apply OwnB.s9_0 | with_reducible apply OwnB.s9_1 | with_reducible apply OwnB.s9_2 | with_reducible apply OwnB.s9_3 | with_reducible apply OwnB.s9_4 | with_reducible apply OwnB.s9_5 | with_reducible apply OwnB.s9_6 | with_reducible apply OwnB.s9_7 | with_reducible apply OwnB.s9_8 | with_reducible assumption | (with_reducible refine OwnB.new ?_; (first | with_reducible rfl | (simp only [World.size_alloc, World.size_setCell, World.size_drew, World.heap_drewN]; done) | (simp only [World.size_alloc, World.size_setCell, World.size_drew, World.heap_drewN]; omega))) | with_reducible refine OwnB.alloc ?_ _ | with_reducible refine OwnB.drew ?_ | with_reducible refine OwnB.drewN ?_ _ | with_reducible refine OwnB.setCell ?_ _ _ ?_ | (dsimp only; omega) | omega))) (MIn.of_ex (KidsIn.wide (NowS.q0 (NowS.to HS5.out [q] Keeps.au (by simp <;> omega) (by simp [kq, mq] <;> omega))).2.2 (NowS.q0 (NowS.to HS5.out [q] Keeps.au (by simp <;> omega) (by simp [kq, mq] <;> omega))).1 (NowS.q0 (NowS.to HS5.out [q] Keeps.au (by simp <;> omega) (by simp [kq, mq] <;> omega))).2.1 (Nat.le_refl _)))
    | false =>
      rw [ki, if_neg (by simp)] at hR
      obtain rfl := Option.some.inj hR
      rw [ki, show P.acc c.l [61] G.2 = G.2 by simp [P.acc, ki]] at CE
      have CN := fun W H => Lib.hid (need_any c hc G.2 W H [59])
      clear h hR hz hY hV hs2 hG ki
      unfold pv
      go_enter Tryd.func86, Tryd.ntmps86
      go_wp2_with fail
      refine (CT _ (NowS.pin (NowS.to HS.out [q] Keeps.au (by simp <;> omega) (by simp [kq, mq] <;> omega)))).out.mono ?_
      rintro e x1 ⟨rfl, hP, hK⟩
      have hz_x1 := hK.size
      try simp only [World.size_alloc, World.size_setCell, World.size_drew, World.heap_drewN] at hz_x1
      have O_x1_0 : OwnB x1 (q) #[.int .i64 0, .slice none 0 0, .slice none 0 0, .int .i64 0, .int .i64 0, .int .i64 0, .string ⟨#[]⟩, .int .i64 0, .int .i64 p] 82 := OwnB.call OwnB.au hK (by simp only [List.mem_singleton]; omega)
      obtain ⟨y_x1_0, x_x1_0, b_x1_0⟩ := O_x1_0.facts
      have HS1 := Lib.hid (NowS.call (NowS.to HS.out [q] Keeps.au (by simp <;> omega) (by simp [kq, mq] <;> omega)) hP hK)
      clear hP hK
      go_wp2_with fail
      refine (CV _ (NowS.pin (NowS.to HS1.out [q] Keeps.au (by simp <;> omega) (by simp [kq, mq] <;> omega)))).out.mono ?_
      rintro e x2 ⟨rfl, hP, hK⟩
      have hz_x2 := hK.size
      try simp only [World.size_alloc, World.size_setCell, World.size_drew, World.heap_drewN] at hz_x2
      have O_x2_0 : OwnB x2 (q) #[.int .i64 2, .slice none 0 0, .slice none 0 0, .int .i64 Y.1.kind, .int .i64 Y.1.ptr, .int .i64 Y.1.len, .string ⟨#[]⟩, .int .i64 0, .int .i64 p] 82 := OwnB.call (by repeat (first | with_reducible apply OwnB.s9_0 | with_reducible apply OwnB.s9_1 | with_reducible apply OwnB.s9_2 | with_reducible apply OwnB.s9_3 | with_reducible apply OwnB.s9_4 | with_reducible apply OwnB.s9_5 | with_reducible apply OwnB.s9_6 | with_reducible apply OwnB.s9_7 | with_reducible apply OwnB.s9_8 | with_reducible assumption | (with_reducible refine OwnB.new ?_; (first | with_reducible rfl | (simp only [World.size_alloc, World.size_setCell, World.size_drew, World.heap_drewN]; done) | (simp only [World.size_alloc, World.size_setCell, World.size_drew, World.heap_drewN]; omega))) | with_reducible refine OwnB.alloc ?_ _ | with_reducible refine OwnB.drew ?_ | with_reducible refine OwnB.drewN ?_ _ | with_reducible refine OwnB.setCell ?_ _ _ ?_ | (dsimp only; omega) | omega)) hK (by simp only [List.mem_singleton]; omega)
      obtain ⟨y_x2_0, x_x2_0, b_x2_0⟩ := O_x2_0.facts
      have HS2 := Lib.hid (NowS.call (NowS.to HS1.out [q] Keeps.au (by simp <;> omega) (by simp [kq, mq] <;> omega)) hP hK)
      clear hP hK
      go_wp2_with fail
      refine (CG _ (NowS.pin (NowS.to HS2.out [q] Keeps.au (by simp <;> omega) (by simp [kq, mq] <;> omega)))).out.mono ?_
      rintro e x3 ⟨rfl, hP, hK⟩
      have hz_x3 := hK.size
      try simp only [World.size_alloc, World.size_setCell, World.size_drew, World.heap_drewN] at hz_x3
      have O_x3_0 : OwnB x3 (q) #[.int .i64 2, .slice none 0 0, .slice none 0 0, .int .i64 Y.1.kind, .int .i64 Y.1.ptr, .int .i64 Y.1.len, .string ⟨V.text.toArray⟩, .int .i64 0, .int .i64 p] 82 := OwnB.call (by repeat (first | with_reducible apply OwnB.s9_0 | with_reducible apply OwnB.s9_1 | with_reducible apply OwnB.s9_2 | with_reducible apply OwnB.s9_3 | with_reducible apply OwnB.s9_4 | with_reducible apply OwnB.s9_5 | with_reducible apply OwnB.s9_6 | with_reducible apply OwnB.s9_7 | with_reducible apply OwnB.s9_8 | with_reducible assumption | (with_reducible refine OwnB.new ?_; (first | with_reducible rfl | (simp only [World.size_alloc, World.size_setCell, World.size_drew, World.heap_drewN]; done) | (simp only [World.size_alloc, World.size_setCell, World.size_drew, World.heap_drewN]; omega))) | with_reducible refine OwnB.alloc ?_ _ | with_reducible refine OwnB.drew ?_ | with_reducible refine OwnB.drewN ?_ _ | with_reducible refine OwnB.setCell ?_ _ _ ?_ | (dsimp only; omega) | omega)) hK (by simp only [List.mem_singleton]; omega)
      obtain ⟨y_x3_0, x_x3_0, b_x3_0⟩ := O_x3_0.facts
      have HS3 := Lib.hid (NowS.call (NowS.to HS2.out [q] Keeps.au (by simp <;> omega) (by simp [kq, mq] <;> omega)) hP hK)
      clear hP hK
      go_wp2_with fail
      refine (CE _ (NowS.pin (NowS.to HS3.out [q] Keeps.au (by simp <;> omega) (by simp [kq, mq] <;> omega)))).out.mono ?_
      rintro e x4 ⟨rfl, hP, hK⟩
      have hz_x4 := hK.size
      try simp only [World.size_alloc, World.size_setCell, World.size_drew, World.heap_drewN] at hz_x4
      have O_x4_0 : OwnB x4 (q) #[.int .i64 2, .slice none 0 0, .slice none 0 0, .int .i64 Y.1.kind, .int .i64 Y.1.ptr, .int .i64 G.1, .string ⟨V.text.toArray⟩, .int .i64 0, .int .i64 p] 82 := OwnB.call (by repeat (first | with_reducible apply OwnB.s9_0 | with_reducible apply OwnB.s9_1 | with_reducible apply OwnB.s9_2 | with_reducible apply OwnB.s9_3 | with_reducible apply OwnB.s9_4 | with_reducible apply OwnB.s9_5 | with_reducible apply OwnB.s9_6 | with_reducible apply OwnB.s9_7 | with_reducible apply OwnB.s9_8 | with_reducible assumption | (with_reducible refine OwnB.new ?_; (first | with_reducible rfl | (simp only [World.size_alloc, World.size_setCell, World.size_drew, World.heap_drewN]; done) | (simp only [World.size_alloc, World.size_setCell, World.size_drew, World.heap_drewN]; omega))) | with_reducible refine OwnB.alloc ?_ _ | with_reducible refine OwnB.drew ?_ | with_reducible refine OwnB.drewN ?_ _ | with_reducible refine OwnB.setCell ?_ _ _ ?_ | (dsimp only; omega) | omega)) hK (by simp only [List.mem_singleton]; omega)
      obtain ⟨y_x4_0, x_x4_0, b_x4_0⟩ := O_x4_0.facts
      have HS4 := Lib.hid (NowS.call (NowS.to HS3.out [q] Keeps.au (by simp <;> omega) (by simp [kq, mq] <;> omega)) hP hK)
      clear hP hK
      go_wp2_with fail
      refine (CN _ (NowS.pin (NowS.to HS4.out [q] Keeps.au (by simp <;> omega) (by simp [kq, mq] <;> omega)))).out.mono ?_
      rintro e x5 ⟨rfl, hP, hK⟩
      have hz_x5 := hK.size
      try simp only [World.size_alloc, World.size_setCell, World.size_drew, World.heap_drewN] at hz_x5
      have O_x5_0 : OwnB x5 (q) #[.int .i64 2, .slice none 0 0, .slice none 0 0, .int .i64 Y.1.kind, .int .i64 Y.1.ptr, .int .i64 G.1, .string ⟨V.text.toArray⟩, .int .i64 0, .int .i64 p] 82 := OwnB.call OwnB.au hK (by simp only [List.mem_singleton]; omega)
      obtain ⟨y_x5_0, x_x5_0, b_x5_0⟩ := O_x5_0.facts
      have HS5 := Lib.hid (NowS.call (NowS.to HS4.out [q] Keeps.au (by simp <;> omega) (by simp [kq, mq] <;> omega)) hP hK)
      clear hP hK
      go_wp2_with fail
      go_end0
      exact NowS.finW (R := (({ sm0 with op := 2, ty := { Y.1 with len := G.1 }, nm := V.text, pos := p } : Sm), P.need c.l [59] G.2)) HS5.out O_x5_0 (MIn.nil (Nat.le_refl _))
  · have hz1 : (G.1 == 0) = false := by simp [hz]
    rw [if_neg (fun hh => hz hh.1)] at hR
    obtain rfl := Option.some.inj hR
    have CN := fun W H => Lib.hid (need_any c hc G.2 W H [59])
    clear h hR hz hY hV hs2 hG
    unfold pv
    go_enter Tryd.func86, Tryd.ntmps86
    go_wp2_with fail
    refine (CT _ (NowS.pin (NowS.to HS.out [q] Keeps.au (by simp <;> omega) (by simp [kq, mq] <;> omega)))).out.mono ?_
    rintro e x1 ⟨rfl, hP, hK⟩
    have hz_x1 := hK.size
    try simp only [World.size_alloc, World.size_setCell, World.size_drew, World.heap_drewN] at hz_x1
    have O_x1_0 : OwnB x1 (q) #[.int .i64 0, .slice none 0 0, .slice none 0 0, .int .i64 0, .int .i64 0, .int .i64 0, .string ⟨#[]⟩, .int .i64 0, .int .i64 p] 82 := OwnB.call OwnB.au hK (by simp only [List.mem_singleton]; omega)
    obtain ⟨y_x1_0, x_x1_0, b_x1_0⟩ := O_x1_0.facts
    have HS1 := Lib.hid (NowS.call (NowS.to HS.out [q] Keeps.au (by simp <;> omega) (by simp [kq, mq] <;> omega)) hP hK)
    clear hP hK
    go_wp2_with fail
    refine (CV _ (NowS.pin (NowS.to HS1.out [q] Keeps.au (by simp <;> omega) (by simp [kq, mq] <;> omega)))).out.mono ?_
    rintro e x2 ⟨rfl, hP, hK⟩
    have hz_x2 := hK.size
    try simp only [World.size_alloc, World.size_setCell, World.size_drew, World.heap_drewN] at hz_x2
    have O_x2_0 : OwnB x2 (q) #[.int .i64 2, .slice none 0 0, .slice none 0 0, .int .i64 Y.1.kind, .int .i64 Y.1.ptr, .int .i64 Y.1.len, .string ⟨#[]⟩, .int .i64 0, .int .i64 p] 82 := OwnB.call (by repeat (first | with_reducible apply OwnB.s9_0 | with_reducible apply OwnB.s9_1 | with_reducible apply OwnB.s9_2 | with_reducible apply OwnB.s9_3 | with_reducible apply OwnB.s9_4 | with_reducible apply OwnB.s9_5 | with_reducible apply OwnB.s9_6 | with_reducible apply OwnB.s9_7 | with_reducible apply OwnB.s9_8 | with_reducible assumption | (with_reducible refine OwnB.new ?_; (first | with_reducible rfl | (simp only [World.size_alloc, World.size_setCell, World.size_drew, World.heap_drewN]; done) | (simp only [World.size_alloc, World.size_setCell, World.size_drew, World.heap_drewN]; omega))) | with_reducible refine OwnB.alloc ?_ _ | with_reducible refine OwnB.drew ?_ | with_reducible refine OwnB.drewN ?_ _ | with_reducible refine OwnB.setCell ?_ _ _ ?_ | (dsimp only; omega) | omega)) hK (by simp only [List.mem_singleton]; omega)
    obtain ⟨y_x2_0, x_x2_0, b_x2_0⟩ := O_x2_0.facts
    have HS2 := Lib.hid (NowS.call (NowS.to HS1.out [q] Keeps.au (by simp <;> omega) (by simp [kq, mq] <;> omega)) hP hK)
    clear hP hK
    go_wp2_with fail
    refine (CG _ (NowS.pin (NowS.to HS2.out [q] Keeps.au (by simp <;> omega) (by simp [kq, mq] <;> omega)))).out.mono ?_
    rintro e x3 ⟨rfl, hP, hK⟩
    have hz_x3 := hK.size
    try simp only [World.size_alloc, World.size_setCell, World.size_drew, World.heap_drewN] at hz_x3
    have O_x3_0 : OwnB x3 (q) #[.int .i64 2, .slice none 0 0, .slice none 0 0, .int .i64 Y.1.kind, .int .i64 Y.1.ptr, .int .i64 Y.1.len, .string ⟨V.text.toArray⟩, .int .i64 0, .int .i64 p] 82 := OwnB.call (by repeat (first | with_reducible apply OwnB.s9_0 | with_reducible apply OwnB.s9_1 | with_reducible apply OwnB.s9_2 | with_reducible apply OwnB.s9_3 | with_reducible apply OwnB.s9_4 | with_reducible apply OwnB.s9_5 | with_reducible apply OwnB.s9_6 | with_reducible apply OwnB.s9_7 | with_reducible apply OwnB.s9_8 | with_reducible assumption | (with_reducible refine OwnB.new ?_; (first | with_reducible rfl | (simp only [World.size_alloc, World.size_setCell, World.size_drew, World.heap_drewN]; done) | (simp only [World.size_alloc, World.size_setCell, World.size_drew, World.heap_drewN]; omega))) | with_reducible refine OwnB.alloc ?_ _ | with_reducible refine OwnB.drew ?_ | with_reducible refine OwnB.drewN ?_ _ | with_reducible refine OwnB.setCell ?_ _ _ ?_ | (dsimp only; omega) | omega)) hK (by simp only [List.mem_singleton]; omega)
    obtain ⟨y_x3_0, x_x3_0, b_x3_0⟩ := O_x3_0.facts
    have HS3 := Lib.hid (NowS.call (NowS.to HS2.out [q] Keeps.au (by simp <;> omega) (by simp [kq, mq] <;> omega)) hP hK)
    clear hP hK
    go_wp2_with fail
    refine (CN _ (NowS.pin (NowS.to HS3.out [q] Keeps.au (by simp <;> omega) (by simp [kq, mq] <;> omega)))).out.mono ?_
    rintro e x5 ⟨rfl, hP, hK⟩
    have hz_x5 := hK.size
    try simp only [World.size_alloc, World.size_setCell, World.size_drew, World.heap_drewN] at hz_x5
    have O_x5_0 : OwnB x5 (q) #[.int .i64 2, .slice none 0 0, .slice none 0 0, .int .i64 Y.1.kind, .int .i64 Y.1.ptr, .int .i64 G.1, .string ⟨V.text.toArray⟩, .int .i64 0, .int .i64 p] 82 := OwnB.call (by repeat (first | with_reducible apply OwnB.s9_0 | with_reducible apply OwnB.s9_1 | with_reducible apply OwnB.s9_2 | with_reducible apply OwnB.s9_3 | with_reducible apply OwnB.s9_4 | with_reducible apply OwnB.s9_5 | with_reducible apply OwnB.s9_6 | with_reducible apply OwnB.s9_7 | with_reducible apply OwnB.s9_8 | with_reducible assumption | (with_reducible refine OwnB.new ?_; (first | with_reducible rfl | (simp only [World.size_alloc, World.size_setCell, World.size_drew, World.heap_drewN]; done) | (simp only [World.size_alloc, World.size_setCell, World.size_drew, World.heap_drewN]; omega))) | with_reducible refine OwnB.alloc ?_ _ | with_reducible refine OwnB.drew ?_ | with_reducible refine OwnB.drewN ?_ _ | with_reducible refine OwnB.setCell ?_ _ _ ?_ | (dsimp only; omega) | omega)) hK (by simp only [List.mem_singleton]; omega)
    obtain ⟨y_x5_0, x_x5_0, b_x5_0⟩ := O_x5_0.facts
    have HS5 := Lib.hid (NowS.call (NowS.to HS3.out [q] Keeps.au (by simp <;> omega) (by simp [kq, mq] <;> omega)) hP hK)
    clear hP hK
    go_wp2_with fail
    go_end0
    exact NowS.finW (R := (({ sm0 with op := 2, ty := { Y.1 with len := G.1 }, nm := V.text, pos := p } : Sm), P.need c.l [59] G.2)) HS5.out O_x5_0 (MIn.nil (Nat.le_refl _))

end Go.Proofs.YtjmemapkipkocaaDoor

/-
  Statements: 'wordless'.
-/
namespace Go.Proofs.YtjmemapkipkocaaDoor
open Go.RowKit Go.Maps
set_option linter.unusedVariables false
set_option linter.unusedSimpArgs false
set_option maxRecDepth 100000
set_option maxHeartbeats 2000000

theorem NowS.callW {c : Cx} {q : Nat} {w W W' : World} {s s' : St} {L : List KQ} (h : NowS c q w s L W) {ex : Exs} {ev : Value} {body : Sts} {bv : Value} (h1 : PIn W' c s') (h2 : Keeps [c.g, q] W W') (h3 : MIn W' W.heap.size W'.heap.size [] ex ev body bv) :
    NowS c q w s' (mq W.heap.size W'.heap.size [] ex ev body bv :: L) W' := by
  refine ⟨h1, h.kp.trans h2, h.g, h.gt, h.mb, h.sz, h.qlt, h.qne, fun p hp => ?_⟩
  rcases List.mem_cons.1 hp with rfl | hp
  · exact ⟨h.kp.size, Nat.le_refl _, h3⟩
  · obtain ⟨h4, h5, h6⟩ := h.all p hp
    exact ⟨h4, Nat.le_trans h5 h2.size, p.st W W' h2.size (fun b hl hh _ => h2.block b (by omega) (by simp only [List.mem_cons, List.not_mem_nil, or_false]; have := h.g; have := h.qlt; omega)) h6⟩

theorem wordless_step (c : Cx) (hc : c.Ok) (f : Nat) (d p : Int) (s : St) (R : Sm × St) (w : World) (q : Nat) (h0 : 0 ≤ d) (hd : d + (f + 1) ≤ 1000000000) (hq : OwnB w q #[.int .i64 0, .slice none 0 0, .slice none 0 0, .int .i64 0, .int .i64 0, .int .i64 0, .string ⟨#[]⟩, .int .i64 0, .int .i64 p] 82)
    (hn : q ≠ c.g ∧ q ≠ c.gt ∧ q ≠ c.mb ∧ q ≠ 2) (GA : ∀ k, k ≤ f → GoodS c k) (hR : P.wordless c.l (P.recs c.l f) d s { sm0 with pos := p } = some R) (h : PIn w c s) : Calls Tryd.prog 78 #[pv c, .pointer (some ⟨q, 0, none⟩), .int .i64 d] w (DoesW c q R w) := by
  have hqlt := lt_of_blk hq.blk
  have hq1 : q ≠ c.g := hn.1
  have HS := Lib.hid (NowS.start h hqlt hn)
  have hg := HS.out.g
  have hgt := HS.out.gt
  obtain ⟨yq, xq, zq⟩ := hq.facts
  have hw : wrap64 (d + 1) = d + 1 := wrapJ (by omega) (by omega)
  obtain ⟨U, hU⟩ : ∃ U, U = P.tok c.l s := ⟨_, rfl⟩
  have CT := fun W H => Lib.hid (token_any c hc s W H)
  have CX := fun W H => Lib.hid (next_any c hc s W H)
  rw [← hU] at CT CX
  have C2 := fun W H => Lib.hid (second_any c hc s W H)
  obtain ⟨V, hV⟩ : ∃ V, V = P.snd c.l s := ⟨_, rfl⟩
  rw [← hV] at C2
  have CY := fun W H => Lib.hid (beginsType_does c s U W H)
  unfold P.wordless at hR
  rw [← hU, ← hV] at hR
  clear hV
  have HC := Lib.hid hn
  have tk0 := tok_field0
  have tk1 := tok_field1
  have tk2 := tok_field2
  have tk3 := tok_field3
  by_cases hk : U.kind = 1
  · have k1 : (U.kind == 1) = true := by simp [hk]
    by_cases hv : V.text = [58]
    · have k2 : (V.text == [58]) = true := by simp [hv]
      rw [if_pos ⟨hk, hv⟩] at hR
      obtain rfl := Option.some.inj hR
      have CN := fun W H => Lib.hid (need_any c hc (P.next c.l s) W H [58])
      clear h hR hU hk hv HC GA
      unfold pv
      go_enter Tryd.func78, Tryd.ntmps78
      go_wp2_with fail
      refine (CT _ (NowS.pin (NowS.to HS.out [q] Keeps.au (by simp <;> omega) (by simp [kq, mq] <;> omega)))).out.mono ?_
      rintro e x1 ⟨rfl, hP, hK⟩
      have hz_x1 := hK.size
      try simp only [World.size_alloc, World.size_setCell, World.size_drew, World.heap_drewN] at hz_x1
      have O_x1_0 : OwnB x1 (q) #[.int .i64 0, .slice none 0 0, .slice none 0 0, .int .i64 0, .int .i64 0, .int .i64 0, .string ⟨#[]⟩, .int .i64 0, .int .i64 p] 82 := OwnB.call OwnB.au hK (by simp only [List.mem_singleton]; omega)
      obtain ⟨y_x1_0, x_x1_0, b_x1_0⟩ := O_x1_0.facts
      have HS1 := Lib.hid (NowS.call (NowS.to HS.out [q] Keeps.au (by simp <;> omega) (by simp [kq, mq] <;> omega)) hP hK)
      clear hP hK
      go_wp2_with fail
      refine (C2 _ (NowS.pin (NowS.to HS1.out [q, x1.heap.size] Keeps.au (by simp <;> omega) (by simp [kq, mq] <;> omega)))).out.mono ?_
      rintro e x2 ⟨rfl, hP, hK⟩
      have hz_x2 := hK.size
      try simp only [World.size_alloc, World.size_setCell, World.size_drew, World.heap_drewN] at hz_x2
      have O_x2_0 : OwnB x2 (q) #[.int .i64 0, .slice none 0 0, .slice none 0 0, .int .i64 0, .int .i64 0, .int .i64 0, .string ⟨#[]⟩, .int .i64 0, .int .i64 p] 82 := OwnB.call OwnB.au hK (by simp only [List.mem_singleton]; omega)
      obtain ⟨y_x2_0, x_x2_0, b_x2_0⟩ := O_x2_0.facts
      have O_x2_1 : OwnB x2 (x1.heap.size) #[.int .i64 (U).kind, .string ⟨(U).text.toArray⟩, .int .i64 (U).n, .int .i64 (U).pos] 60 := OwnB.call OwnB.au hK (by simp only [List.mem_singleton]; omega)
      obtain ⟨y_x2_1, x_x2_1, b_x2_1⟩ := O_x2_1.facts
      have HS2 := Lib.hid (NowS.call (NowS.to HS1.out [q, x1.heap.size] Keeps.au (by simp <;> omega) (by simp [kq, mq] <;> omega)) hP hK)
      clear hP hK
      go_wp2_with fail
      refine (CX _ (NowS.pin (NowS.to HS2.out [q, x1.heap.size] Keeps.au (by simp <;> omega) (by simp [kq, mq] <;> omega)))).out.mono ?_
      rintro e x3 ⟨rfl, hP, hK⟩
      have hz_x3 := hK.size
      try simp only [World.size_alloc, World.size_setCell, World.size_drew, World.heap_drewN] at hz_x3
      have O_x3_0 : OwnB x3 (q) #[.int .i64 0, .slice none 0 0, .slice none 0 0, .int .i64 0, .int .i64 0, .int .i64 0, .string ⟨#[]⟩, .int .i64 0, .int .i64 p] 82 := OwnB.call OwnB.au hK (by simp only [List.mem_singleton]; omega)
      obtain ⟨y_x3_0, x_x3_0, b_x3_0⟩ := O_x3_0.facts
      have O_x3_1 : OwnB x3 (x1.heap.size) #[.int .i64 (U).kind, .string ⟨(U).text.toArray⟩, .int .i64 (U).n, .int .i64 (U).pos] 60 := OwnB.call OwnB.au hK (by simp only [List.mem_singleton]; omega)
      obtain ⟨y_x3_1, x_x3_1, b_x3_1⟩ := O_x3_1.facts
      have HS3 := Lib.hid (NowS.call (NowS.to HS2.out [q, x1.heap.size] Keeps.au (by simp <;> omega) (by simp [kq, mq] <;> omega)) hP hK)
      clear hP hK
      go_wp2_with fail
      refine (CN _ (NowS.pin (NowS.to HS3.out [q, x1.heap.size] Keeps.au (by simp <;> omega) (by simp [kq, mq] <;> omega)))).out.mono ?_
      rintro e x4 ⟨rfl, hP, hK⟩
      have hz_x4 := hK.size
      try simp only [World.size_alloc, World.size_setCell, World.size_drew, World.heap_drewN] at hz_x4
      have O_x4_0 : OwnB x4 (q) #[.int .i64 15, .slice none 0 0, .slice none 0 0, .int .i64 0, .int .i64 0, .int .i64 0, .string ⟨U.text.toArray⟩, .int .i64 0, .int .i64 p] 82 := OwnB.call (by repeat (first | with_reducible apply OwnB.s9_0 | with_reducible apply OwnB.s9_1 | with_reducible apply OwnB.s9_2 | with_reducible apply OwnB.s9_3 | with_reducible apply OwnB.s9_4 | with_reducible apply OwnB.s9_5 | with_reducible apply OwnB.s9_6 | with_reducible apply OwnB.s9_7 | with_reducible apply OwnB.s9_8 | with_reducible assumption | (with_reducible refine OwnB.new ?_; (first | with_reducible rfl | (simp only [World.size_alloc, World.size_setCell, World.size_drew, World.heap_drewN]; done) | (simp only [World.size_alloc, World.size_setCell, World.size_drew, World.heap_drewN]; omega))) | with_reducible refine OwnB.alloc ?_ _ | with_reducible refine OwnB.drew ?_ | with_reducible refine OwnB.drewN ?_ _ | with_reducible refine OwnB.setCell ?_ _ _ ?_ | (dsimp only; omega) | omega)) hK (by simp only [List.mem_singleton]; omega)
      obtain ⟨y_x4_0, x_x4_0, b_x4_0⟩ := O_x4_0.facts
      have O_x4_1 : OwnB x4 (x1.heap.size) #[.int .i64 (U).kind, .string ⟨(U).text.toArray⟩, .int .i64 (U).n, .int .i64 (U).pos] 60 := OwnB.call OwnB.au hK (by simp only [List.mem_singleton]; omega)
      obtain ⟨y_x4_1, x_x4_1, b_x4_1⟩ := O_x4_1.facts
      have HS4 := Lib.hid (NowS.call (NowS.to HS3.out [q, x1.heap.size] Keeps.au (by simp <;> omega) (by simp [kq, mq] <;> omega)) hP hK)
      clear hP hK
      go_wp2_with fail
      go_end0
      exact NowS.finW (R := (({ sm0 with op := 15, nm := U.text, pos := p } : Sm), P.need c.l [58] (P.next c.l s))) HS4.out O_x4_0 (MIn.nil (Nat.le_refl _))
    · have k2 : (V.text == [58]) = false := by simp [hv]
      rw [if_neg (fun hh => hv hh.2)] at hR
      clear hv hk
      cases ky : isType U.text with
      | true =>
        rw [ky, if_pos rfl] at hR
        rw [ky] at CY
        have CL := fun W H HO => Lib.hid (local_step c hc f d p s R W q h0 hd HO hn hR H)
        clear h hR hU ky HC GA
        unfold pv
        go_enter Tryd.func78, Tryd.ntmps78
        go_wp2_with fail
        refine (CT _ (NowS.pin (NowS.to HS.out [q] Keeps.au (by simp <;> omega) (by simp [kq, mq] <;> omega)))).out.mono ?_
        rintro e x1 ⟨rfl, hP, hK⟩
        have hz_x1 := hK.size
        try simp only [World.size_alloc, World.size_setCell, World.size_drew, World.heap_drewN] at hz_x1
        have O_x1_0 : OwnB x1 (q) #[.int .i64 0, .slice none 0 0, .slice none 0 0, .int .i64 0, .int .i64 0, .int .i64 0, .string ⟨#[]⟩, .int .i64 0, .int .i64 p] 82 := OwnB.call OwnB.au hK (by simp only [List.mem_singleton]; omega)
        obtain ⟨y_x1_0, x_x1_0, b_x1_0⟩ := O_x1_0.facts
        have HS1 := Lib.hid (NowS.call (NowS.to HS.out [q] Keeps.au (by simp <;> omega) (by simp [kq, mq] <;> omega)) hP hK)
        clear hP hK
        go_wp2_with fail
        refine (C2 _ (NowS.pin (NowS.to HS1.out [q, x1.heap.size] Keeps.au (by simp <;> omega) (by simp [kq, mq] <;> omega)))).out.mono ?_
        rintro e x2 ⟨rfl, hP, hK⟩
        have hz_x2 := hK.size
        try simp only [World.size_alloc, World.size_setCell, World.size_drew, World.heap_drewN] at hz_x2
        have O_x2_0 : OwnB x2 (q) #[.int .i64 0, .slice none 0 0, .slice none 0 0, .int .i64 0, .int .i64 0, .int .i64 0, .string ⟨#[]⟩, .int .i64 0, .int .i64 p] 82 := OwnB.call OwnB.au hK (by simp only [List.mem_singleton]; omega)
        obtain ⟨y_x2_0, x_x2_0, b_x2_0⟩ := O_x2_0.facts
        have O_x2_1 : OwnB x2 (x1.heap.size) #[.int .i64 (U).kind, .string ⟨(U).text.toArray⟩, .int .i64 (U).n, .int .i64 (U).pos] 60 := OwnB.call OwnB.au hK (by simp only [List.mem_singleton]; omega)
        obtain ⟨y_x2_1, x_x2_1, b_x2_1⟩ := O_x2_1.facts
        have HS2 := Lib.hid (NowS.call (NowS.to HS1.out [q, x1.heap.size] Keeps.au (by simp <;> omega) (by simp [kq, mq] <;> omega)) hP hK)
        clear hP hK
        go_wp2_with fail
        refine (CY _ (NowS.pin (NowS.to HS2.out [q, x1.heap.size] Keeps.au (by simp <;> omega) (by simp [kq, mq] <;> omega)))).out.mono ?_
        rintro e x3 ⟨rfl, hP, hK⟩
        have hz_x3 := hK.size
        try simp only [World.size_alloc, World.size_setCell, World.size_drew, World.heap_drewN] at hz_x3
        have O_x3_0 : OwnB x3 (q) #[.int .i64 0, .slice none 0 0, .slice none 0 0, .int .i64 0, .int .i64 0, .int .i64 0, .string ⟨#[]⟩, .int .i64 0, .int .i64 p] 82 := OwnB.call OwnB.au hK (by simp only [List.mem_singleton]; omega)
        obtain ⟨y_x3_0, x_x3_0, b_x3_0⟩ := O_x3_0.facts
        have O_x3_1 : OwnB x3 (x1.heap.size) #[.int .i64 (U).kind, .string ⟨(U).text.toArray⟩, .int .i64 (U).n, .int .i64 (U).pos] 60 := OwnB.call OwnB.au hK (by simp only [List.mem_singleton]; omega)
        obtain ⟨y_x3_1, x_x3_1, b_x3_1⟩ := O_x3_1.facts
        have HS3 := Lib.hid (NowS.call (NowS.to HS2.out [q, x1.heap.size] Keeps.au (by simp <;> omega) (by simp [kq, mq] <;> omega)) hP hK)
        clear hP hK
        go_wp2_with fail
        refine (CL _ (NowS.pin (NowS.to HS3.out [q, x1.heap.size] Keeps.au (by simp <;> omega) (by simp [kq, mq] <;> omega))) O_x3_0).out.mono ?_
        rintro e x4 ⟨a1, n1, p1, a2, n2, p2, rfl, hP, hK, hO, hT⟩
        have HS4 := Lib.hid (NowS.callW HS3.out hP hK hT)
        have HO := Lib.hid hO
        clear hP hK hT hO
        go_wp2_with fail
        go_end0
        exact NowS.finW (R := R) HS4.out HO.out (MIn.wide HS4.out.q0.2.2 HS4.out.q0.1 HS4.out.q0.2.1 (Nat.le_refl _))
      | false =>
        rw [ky, if_neg (by simp)] at hR
        rw [ky] at CY
        have CI := fun W H => Lib.hid (is_any c hc s W H [123])
        have CZ := fun W H => Lib.hid (accept_any c hc s W H [59])
        cases kb : P.is c.l [123] s with
        | true =>
          rw [kb, if_pos rfl] at hR
          rw [kb] at CI
          obtain ⟨A, hA, hR⟩ := Option.bind_eq_some_iff.1 hR
          obtain rfl := Option.some.inj hR
          have CB := fun W H => Lib.hid (block_step c hc f GA d s A W h0 hd hA H)
          clear h hR hU ky kb HC GA hA
          unfold pv
          go_enter Tryd.func78, Tryd.ntmps78
          go_wp2_with fail
          refine (CT _ (NowS.pin (NowS.to HS.out [q] Keeps.au (by simp <;> omega) (by simp [kq, mq] <;> omega)))).out.mono ?_
          rintro e x1 ⟨rfl, hP, hK⟩
          have hz_x1 := hK.size
          try simp only [World.size_alloc, World.size_setCell, World.size_drew, World.heap_drewN] at hz_x1
          have O_x1_0 : OwnB x1 (q) #[.int .i64 0, .slice none 0 0, .slice none 0 0, .int .i64 0, .int .i64 0, .int .i64 0, .string ⟨#[]⟩, .int .i64 0, .int .i64 p] 82 := OwnB.call OwnB.au hK (by simp only [List.mem_singleton]; omega)
          obtain ⟨y_x1_0, x_x1_0, b_x1_0⟩ := O_x1_0.facts
          have HS1 := Lib.hid (NowS.call (NowS.to HS.out [q] Keeps.au (by simp <;> omega) (by simp [kq, mq] <;> omega)) hP hK)
          clear hP hK
          go_wp2_with fail
          refine (C2 _ (NowS.pin (NowS.to HS1.out [q, x1.heap.size] Keeps.au (by simp <;> omega) (by simp [kq, mq] <;> omega)))).out.mono ?_
          rintro e x2 ⟨rfl, hP, hK⟩
          have hz_x2 := hK.size
          try simp only [World.size_alloc, World.size_setCell, World.size_drew, World.heap_drewN] at hz_x2
          have O_x2_0 : OwnB x2 (q) #[.int .i64 0, .slice none 0 0, .slice none 0 0, .int .i64 0, .int .i64 0, .int .i64 0, .string ⟨#[]⟩, .int .i64 0, .int .i64 p] 82 := OwnB.call OwnB.au hK (by simp only [List.mem_singleton]; omega)
          obtain ⟨y_x2_0, x_x2_0, b_x2_0⟩ := O_x2_0.facts
          have O_x2_1 : OwnB x2 (x1.heap.size) #[.int .i64 (U).kind, .string ⟨(U).text.toArray⟩, .int .i64 (U).n, .int .i64 (U).pos] 60 := OwnB.call OwnB.au hK (by simp only [List.mem_singleton]; omega)
          obtain ⟨y_x2_1, x_x2_1, b_x2_1⟩ := O_x2_1.facts
          have HS2 := Lib.hid (NowS.call (NowS.to HS1.out [q, x1.heap.size] Keeps.au (by simp <;> omega) (by simp [kq, mq] <;> omega)) hP hK)
          clear hP hK
          go_wp2_with fail
          refine (CY _ (NowS.pin (NowS.to HS2.out [q, x1.heap.size] Keeps.au (by simp <;> omega) (by simp [kq, mq] <;> omega)))).out.mono ?_
          rintro e x3 ⟨rfl, hP, hK⟩
          have hz_x3 := hK.size
          try simp only [World.size_alloc, World.size_setCell, World.size_drew, World.heap_drewN] at hz_x3
          have O_x3_0 : OwnB x3 (q) #[.int .i64 0, .slice none 0 0, .slice none 0 0, .int .i64 0, .int .i64 0, .int .i64 0, .string ⟨#[]⟩, .int .i64 0, .int .i64 p] 82 := OwnB.call OwnB.au hK (by simp only [List.mem_singleton]; omega)
          obtain ⟨y_x3_0, x_x3_0, b_x3_0⟩ := O_x3_0.facts
          have O_x3_1 : OwnB x3 (x1.heap.size) #[.int .i64 (U).kind, .string ⟨(U).text.toArray⟩, .int .i64 (U).n, .int .i64 (U).pos] 60 := OwnB.call OwnB.au hK (by simp only [List.mem_singleton]; omega)
          obtain ⟨y_x3_1, x_x3_1, b_x3_1⟩ := O_x3_1.facts
          have HS3 := Lib.hid (NowS.call (NowS.to HS2.out [q, x1.heap.size] Keeps.au (by simp <;> omega) (by simp [kq, mq] <;> omega)) hP hK)
          clear hP hK
          go_wp2_with fail
          refine (CI _ (NowS.pin (NowS.to HS3.out [q, x1.heap.size] Keeps.au (by simp <;> omega) (by simp [kq, mq] <;> omega)))).out.mono ?_
          rintro e x4 ⟨rfl, hP, hK⟩
          have hz_x4 := hK.size
          try simp only [World.size_alloc, World.size_setCell, World.size_drew, World.heap_drewN] at hz_x4
          have O_x4_0 : OwnB x4 (q) #[.int .i64 0, .slice none 0 0, .slice none 0 0, .int .i64 0, .int .i64 0, .int .i64 0, .string ⟨#[]⟩, .int .i64 0, .int .i64 p] 82 := OwnB.call OwnB.au hK (by simp only [List.mem_singleton]; omega)
          obtain ⟨y_x4_0, x_x4_0, b_x4_0⟩ := O_x4_0.facts
          have O_x4_1 : OwnB x4 (x1.heap.size) #[.int .i64 (U).kind, .string ⟨(U).text.toArray⟩, .int .i64 (U).n, .int .i64 (U).pos] 60 := OwnB.call OwnB.au hK (by simp only [List.mem_singleton]; omega)
          obtain ⟨y_x4_1, x_x4_1, b_x4_1⟩ := O_x4_1.facts
          have HS4 := Lib.hid (NowS.call (NowS.to HS3.out [q, x1.heap.size] Keeps.au (by simp <;> omega) (by simp [kq, mq] <;> omega)) hP hK)
          clear hP hK
          go_wp2_with fail
          refine (CB _ (NowS.pin (NowS.to HS4.out [q, x1.heap.size] Keeps.au (by simp <;> omega) (by simp [kq, mq] <;> omega)))).out.mono ?_
          rintro e x5 ⟨a1, n1, p1, rfl, hP, hK, hT⟩
          have hz_x5 := hK.size
          try simp only [World.size_alloc, World.size_setCell, World.size_drew, World.heap_drewN] at hz_x5
          have O_x5_0 : OwnB x5 (q) #[.int .i64 0, .slice none 0 0, .slice none 0 0, .int .i64 0, .int .i64 0, .int .i64 0, .string ⟨#[]⟩, .int .i64 0, .int .i64 p] 82 := OwnB.call OwnB.au hK (by simp only [List.mem_singleton]; omega)
          obtain ⟨y_x5_0, x_x5_0, b_x5_0⟩ := O_x5_0.facts
          have O_x5_1 : OwnB x5 (x1.heap.size) #[.int .i64 (U).kind, .string ⟨(U).text.toArray⟩, .int .i64 (U).n, .int .i64 (U).pos] 60 := OwnB.call OwnB.au hK (by simp only [List.mem_singleton]; omega)
          obtain ⟨y_x5_1, x_x5_1, b_x5_1⟩ := O_x5_1.facts
          have HS5 := Lib.hid (NowS.callS (NowS.to HS4.out [q, x1.heap.size] Keeps.au (by simp <;> omega) (by simp [kq, mq] <;> omega)) hP hK hT)
          clear hP hK hT
          go_wp2_with fail
          go_end0
          exact NowS.finW (R := (({ sm0 with op := 3, body := A.1, pos := p } : Sm), A.2)) (NowS.to HS5.out [q] Keeps.au (by simp <;> omega) (by simp [kq, mq] <;> omega)) (show OwnB _ (q) #[.int .i64 3, .slice none 0 0, .slice a1 n1 p1, .int .i64 0, .int .i64 0, .int .i64 0, .string ⟨#[]⟩, .int .i64 0, .int .i64 p] 82 from (by repeat (first | with_reducible apply OwnB.s9_0 | with_reducible apply OwnB.s9_1 | with_reducible apply OwnB.s9_2 | with_reducible apply OwnB.s9_3 | with_reducible apply OwnB.s9_4 | with_reducible apply OwnB.s9_5 | with_reducible apply OwnB.s9_6 | with_reducible apply OwnB.s9_7 | with_reducible apply OwnB.s9_8 | with_reducible assumption | (with_reducible refine OwnB.new ?_; (first | with_reducible rfl | (simp only [World.size_alloc, World.size_setCell, World.size_drew, World.heap_drewN]; done) | (simp only [World.size_alloc, World.size_setCell, World.size_drew, World.heap_drewN]; omega))) | with_reducible refine OwnB.alloc ?_ _ | with_reducible refine OwnB.drew ?_ | with_reducible refine OwnB.drewN ?_ _ | with_reducible refine OwnB.setCell ?_ _ _ ?_ | (dsimp only; omega) | omega))) (MIn.wide (NowS.q0 (NowS.to HS5.out [q] Keeps.au (by simp <;> omega) (by simp [kq, mq] <;> omega))).2.2 (NowS.q0 (NowS.to HS5.out [q] Keeps.au (by simp <;> omega) (by simp [kq, mq] <;> omega))).1 (NowS.q0 (NowS.to HS5.out [q] Keeps.au (by simp <;> omega) (by simp [kq, mq] <;> omega))).2.1 (Nat.le_refl _))
        | false =>
          rw [kb, if_neg (by simp)] at hR
          rw [kb] at CI
          cases kz : P.is c.l [59] s with
          | true =>
            rw [kz, if_pos rfl] at hR
            rw [kz, show P.acc c.l [59] s = P.next c.l s by simp [P.acc, kz]] at CZ
            obtain rfl := Option.some.inj hR
            clear h hR hU ky kb kz HC GA
            unfold pv
            go_enter Tryd.func78, Tryd.ntmps78
            go_wp2_with fail
            refine (CT _ (NowS.pin (NowS.to HS.out [q] Keeps.au (by simp <;> omega) (by simp [kq, mq] <;> omega)))).out.mono ?_
            rintro e x1 ⟨rfl, hP, hK⟩
            have hz_x1 := hK.size
            try simp only [World.size_alloc, World.size_setCell, World.size_drew, World.heap_drewN] at hz_x1
            have O_x1_0 : OwnB x1 (q) #[.int .i64 0, .slice none 0 0, .slice none 0 0, .int .i64 0, .int .i64 0, .int .i64 0, .string ⟨#[]⟩, .int .i64 0, .int .i64 p] 82 := OwnB.call OwnB.au hK (by simp only [List.mem_singleton]; omega)
            obtain ⟨y_x1_0, x_x1_0, b_x1_0⟩ := O_x1_0.facts
            have HS1 := Lib.hid (NowS.call (NowS.to HS.out [q] Keeps.au (by simp <;> omega) (by simp [kq, mq] <;> omega)) hP hK)
            clear hP hK
            go_wp2_with fail
            refine (C2 _ (NowS.pin (NowS.to HS1.out [q, x1.heap.size] Keeps.au (by simp <;> omega) (by simp [kq, mq] <;> omega)))).out.mono ?_
            rintro e x2 ⟨rfl, hP, hK⟩
            have hz_x2 := hK.size
            try simp only [World.size_alloc, World.size_setCell, World.size_drew, World.heap_drewN] at hz_x2
            have O_x2_0 : OwnB x2 (q) #[.int .i64 0, .slice none 0 0, .slice none 0 0, .int .i64 0, .int .i64 0, .int .i64 0, .string ⟨#[]⟩, .int .i64 0, .int .i64 p] 82 := OwnB.call OwnB.au hK (by simp only [List.mem_singleton]; omega)
            obtain ⟨y_x2_0, x_x2_0, b_x2_0⟩ := O_x2_0.facts
            have O_x2_1 : OwnB x2 (x1.heap.size) #[.int .i64 (U).kind, .string ⟨(U).text.toArray⟩, .int .i64 (U).n, .int .i64 (U).pos] 60 := OwnB.call OwnB.au hK (by simp only [List.mem_singleton]; omega)
            obtain ⟨y_x2_1, x_x2_1, b_x2_1⟩ := O_x2_1.facts
            have HS2 := Lib.hid (NowS.call (NowS.to HS1.out [q, x1.heap.size] Keeps.au (by simp <;> omega) (by simp [kq, mq] <;> omega)) hP hK)
            clear hP hK
            go_wp2_with fail
            refine (CY _ (NowS.pin (NowS.to HS2.out [q, x1.heap.size] Keeps.au (by simp <;> omega) (by simp [kq, mq] <;> omega)))).out.mono ?_
            rintro e x3 ⟨rfl, hP, hK⟩
            have hz_x3 := hK.size
            try simp only [World.size_alloc, World.size_setCell, World.size_drew, World.heap_drewN] at hz_x3
            have O_x3_0 : OwnB x3 (q) #[.int .i64 0, .slice none 0 0, .slice none 0 0, .int .i64 0, .int .i64 0, .int .i64 0, .string ⟨#[]⟩, .int .i64 0, .int .i64 p] 82 := OwnB.call OwnB.au hK (by simp only [List.mem_singleton]; omega)
            obtain ⟨y_x3_0, x_x3_0, b_x3_0⟩ := O_x3_0.facts
            have O_x3_1 : OwnB x3 (x1.heap.size) #[.int .i64 (U).kind, .string ⟨(U).text.toArray⟩, .int .i64 (U).n, .int .i64 (U).pos] 60 := OwnB.call OwnB.au hK (by simp only [List.mem_singleton]; omega)
            obtain ⟨y_x3_1, x_x3_1, b_x3_1⟩ := O_x3_1.facts
            have HS3 := Lib.hid (NowS.call (NowS.to HS2.out [q, x1.heap.size] Keeps.au (by simp <;> omega) (by simp [kq, mq] <;> omega)) hP hK)
            clear hP hK
            go_wp2_with fail
            refine (CI _ (NowS.pin (NowS.to HS3.out [q, x1.heap.size] Keeps.au (by simp <;> omega) (by simp [kq, mq] <;> omega)))).out.mono ?_
            rintro e x4 ⟨rfl, hP, hK⟩
            have hz_x4 := hK.size
            try simp only [World.size_alloc, World.size_setCell, World.size_drew, World.heap_drewN] at hz_x4
            have O_x4_0 : OwnB x4 (q) #[.int .i64 0, .slice none 0 0, .slice none 0 0, .int .i64 0, .int .i64 0, .int .i64 0, .string ⟨#[]⟩, .int .i64 0, .int .i64 p] 82 := OwnB.call OwnB.au hK (by simp only [List.mem_singleton]; omega)
            obtain ⟨y_x4_0, x_x4_0, b_x4_0⟩ := O_x4_0.facts
            have O_x4_1 : OwnB x4 (x1.heap.size) #[.int .i64 (U).kind, .string ⟨(U).text.toArray⟩, .int .i64 (U).n, .int .i64 (U).pos] 60 := OwnB.call OwnB.au hK (by simp only [List.mem_singleton]; omega)
            obtain ⟨y_x4_1, x_x4_1, b_x4_1⟩ := O_x4_1.facts
            have HS4 := Lib.hid (NowS.call (NowS.to HS3.out [q, x1.heap.size] Keeps.au (by simp <;> omega) (by simp [kq, mq] <;> omega)) hP hK)
            clear hP hK
            go_wp2_with fail
            refine (CZ _ (NowS.pin (NowS.to HS4.out [q, x1.heap.size] Keeps.au (by simp <;> omega) (by simp [kq, mq] <;> omega)))).out.mono ?_
            rintro e x5 ⟨rfl, hP, hK⟩
            have hz_x5 := hK.size
            try simp only [World.size_alloc, World.size_setCell, World.size_drew, World.heap_drewN] at hz_x5
            have O_x5_0 : OwnB x5 (q) #[.int .i64 0, .slice none 0 0, .slice none 0 0, .int .i64 0, .int .i64 0, .int .i64 0, .string ⟨#[]⟩, .int .i64 0, .int .i64 p] 82 := OwnB.call OwnB.au hK (by simp only [List.mem_singleton]; omega)
            obtain ⟨y_x5_0, x_x5_0, b_x5_0⟩ := O_x5_0.facts
            have O_x5_1 : OwnB x5 (x1.heap.size) #[.int .i64 (U).kind, .string ⟨(U).text.toArray⟩, .int .i64 (U).n, .int .i64 (U).pos] 60 := OwnB.call OwnB.au hK (by simp only [List.mem_singleton]; omega)
            obtain ⟨y_x5_1, x_x5_1, b_x5_1⟩ := O_x5_1.facts
            have HS5 := Lib.hid (NowS.call (NowS.to HS4.out [q, x1.heap.size] Keeps.au (by simp <;> omega) (by simp [kq, mq] <;> omega)) hP hK)
            clear hP hK
            go_wp2_with fail
            go_end0
            exact NowS.finW (R := (({ sm0 with op := 16, pos := p } : Sm), P.next c.l s)) (NowS.to HS5.out [q] Keeps.au (by simp <;> omega) (by simp [kq, mq] <;> omega)) (show OwnB _ (q) #[.int .i64 16, .slice none 0 0, .slice none 0 0, .int .i64 0, .int .i64 0, .int .i64 0, .string ⟨#[]⟩, .int .i64 0, .int .i64 p] 82 from (by repeat (first | with_reducible apply OwnB.s9_0 | with_reducible apply OwnB.s9_1 | with_reducible apply OwnB.s9_2 | with_reducible apply OwnB.s9_3 | with_reducible apply OwnB.s9_4 | with_reducible apply OwnB.s9_5 | with_reducible apply OwnB.s9_6 | with_reducible apply OwnB.s9_7 | with_reducible apply OwnB.s9_8 | with_reducible assumption | (with_reducible refine OwnB.new ?_; (first | with_reducible rfl | (simp only [World.size_alloc, World.size_setCell, World.size_drew, World.heap_drewN]; done) | (simp only [World.size_alloc, World.size_setCell, World.size_drew, World.heap_drewN]; omega))) | with_reducible refine OwnB.alloc ?_ _ | with_reducible refine OwnB.drew ?_ | with_reducible refine OwnB.drewN ?_ _ | with_reducible refine OwnB.setCell ?_ _ _ ?_ | (dsimp only; omega) | omega))) (MIn.nil (Nat.le_refl _))
          | false =>
            rw [kz, if_neg (by simp)] at hR
            rw [kz, show P.acc c.l [59] s = s by simp [P.acc, kz]] at CZ
            obtain ⟨A, hA, hR⟩ := Option.bind_eq_some_iff.1 hR
            obtain rfl := Option.some.inj hR
            have CD := fun W H => Lib.hid (told_step c hc f d s A W h0 hd hA H)
            clear h hR hU ky kb kz HC GA hA
            unfold pv
            go_enter Tryd.func78, Tryd.ntmps78
            go_wp2_with fail
            refine (CT _ (NowS.pin (NowS.to HS.out [q] Keeps.au (by simp <;> omega) (by simp [kq, mq] <;> omega)))).out.mono ?_
            rintro e x1 ⟨rfl, hP, hK⟩
            have hz_x1 := hK.size
            try simp only [World.size_alloc, World.size_setCell, World.size_drew, World.heap_drewN] at hz_x1
            have O_x1_0 : OwnB x1 (q) #[.int .i64 0, .slice none 0 0, .slice none 0 0, .int .i64 0, .int .i64 0, .int .i64 0, .string ⟨#[]⟩, .int .i64 0, .int .i64 p] 82 := OwnB.call OwnB.au hK (by simp only [List.mem_singleton]; omega)
            obtain ⟨y_x1_0, x_x1_0, b_x1_0⟩ := O_x1_0.facts
            have HS1 := Lib.hid (NowS.call (NowS.to HS.out [q] Keeps.au (by simp <;> omega) (by simp [kq, mq] <;> omega)) hP hK)
            clear hP hK
            go_wp2_with fail
            refine (C2 _ (NowS.pin (NowS.to HS1.out [q, x1.heap.size] Keeps.au (by simp <;> omega) (by simp [kq, mq] <;> omega)))).out.mono ?_
            rintro e x2 ⟨rfl, hP, hK⟩
            have hz_x2 := hK.size
            try simp only [World.size_alloc, World.size_setCell, World.size_drew, World.heap_drewN] at hz_x2
            have O_x2_0 : OwnB x2 (q) #[.int .i64 0, .slice none 0 0, .slice none 0 0, .int .i64 0, .int .i64 0, .int .i64 0, .string ⟨#[]⟩, .int .i64 0, .int .i64 p] 82 := OwnB.call OwnB.au hK (by simp only [List.mem_singleton]; omega)
            obtain ⟨y_x2_0, x_x2_0, b_x2_0⟩ := O_x2_0.facts
            have O_x2_1 : OwnB x2 (x1.heap.size) #[.int .i64 (U).kind, .string ⟨(U).text.toArray⟩, .int .i64 (U).n, .int .i64 (U).pos] 60 := OwnB.call OwnB.au hK (by simp only [List.mem_singleton]; omega)
            obtain ⟨y_x2_1, x_x2_1, b_x2_1⟩ := O_x2_1.facts
            have HS2 := Lib.hid (NowS.call (NowS.to HS1.out [q, x1.heap.size] Keeps.au (by simp <;> omega) (by simp [kq, mq] <;> omega)) hP hK)
            clear hP hK
            go_wp2_with fail
            refine (CY _ (NowS.pin (NowS.to HS2.out [q, x1.heap.size] Keeps.au (by simp <;> omega) (by simp [kq, mq] <;> omega)))).out.mono ?_
            rintro e x3 ⟨rfl, hP, hK⟩
            have hz_x3 := hK.size
            try simp only [World.size_alloc, World.size_setCell, World.size_drew, World.heap_drewN] at hz_x3
            have O_x3_0 : OwnB x3 (q) #[.int .i64 0, .slice none 0 0, .slice none 0 0, .int .i64 0, .int .i64 0, .int .i64 0, .string ⟨#[]⟩, .int .i64 0, .int .i64 p] 82 := OwnB.call OwnB.au hK (by simp only [List.mem_singleton]; omega)
            obtain ⟨y_x3_0, x_x3_0, b_x3_0⟩ := O_x3_0.facts
            have O_x3_1 : OwnB x3 (x1.heap.size) #[.int .i64 (U).kind, .string ⟨(U).text.toArray⟩, .int .i64 (U).n, .int .i64 (U).pos] 60 := OwnB.call OwnB.au hK (by simp only [List.mem_singleton]; omega)
            obtain ⟨y_x3_1, x_x3_1, b_x3_1⟩ := O_x3_1.facts
            have HS3 := Lib.hid (NowS.call (NowS.to HS2.out [q, x1.heap.size] Keeps.au (by simp <;> omega) (by simp [kq, mq] <;> omega)) hP hK)
            clear hP hK
            go_wp2_with fail
            refine (CI _ (NowS.pin (NowS.to HS3.out [q, x1.heap.size] Keeps.au (by simp <;> omega) (by simp [kq, mq] <;> omega)))).out.mono ?_
            rintro e x4 ⟨rfl, hP, hK⟩
            have hz_x4 := hK.size
            try simp only [World.size_alloc, World.size_setCell, World.size_drew, World.heap_drewN] at hz_x4
            have O_x4_0 : OwnB x4 (q) #[.int .i64 0, .slice none 0 0, .slice none 0 0, .int .i64 0, .int .i64 0, .int .i64 0, .string ⟨#[]⟩, .int .i64 0, .int .i64 p] 82 := OwnB.call OwnB.au hK (by simp only [List.mem_singleton]; omega)
            obtain ⟨y_x4_0, x_x4_0, b_x4_0⟩ := O_x4_0.facts
            have O_x4_1 : OwnB x4 (x1.heap.size) #[.int .i64 (U).kind, .string ⟨(U).text.toArray⟩, .int .i64 (U).n, .int .i64 (U).pos] 60 := OwnB.call OwnB.au hK (by simp only [List.mem_singleton]; omega)
            obtain ⟨y_x4_1, x_x4_1, b_x4_1⟩ := O_x4_1.facts
            have HS4 := Lib.hid (NowS.call (NowS.to HS3.out [q, x1.heap.size] Keeps.au (by simp <;> omega) (by simp [kq, mq] <;> omega)) hP hK)
            clear hP hK
            go_wp2_with fail
            refine (CZ _ (NowS.pin (NowS.to HS4.out [q, x1.heap.size] Keeps.au (by simp <;> omega) (by simp [kq, mq] <;> omega)))).out.mono ?_
            rintro e x5 ⟨rfl, hP, hK⟩
            have hz_x5 := hK.size
            try simp only [World.size_alloc, World.size_setCell, World.size_drew, World.heap_drewN] at hz_x5
            have O_x5_0 : OwnB x5 (q) #[.int .i64 0, .slice none 0 0, .slice none 0 0, .int .i64 0, .int .i64 0, .int .i64 0, .string ⟨#[]⟩, .int .i64 0, .int .i64 p] 82 := OwnB.call OwnB.au hK (by simp only [List.mem_singleton]; omega)
            obtain ⟨y_x5_0, x_x5_0, b_x5_0⟩ := O_x5_0.facts
            have O_x5_1 : OwnB x5 (x1.heap.size) #[.int .i64 (U).kind, .string ⟨(U).text.toArray⟩, .int .i64 (U).n, .int .i64 (U).pos] 60 := OwnB.call OwnB.au hK (by simp only [List.mem_singleton]; omega)
            obtain ⟨y_x5_1, x_x5_1, b_x5_1⟩ := O_x5_1.facts
            have HS5 := Lib.hid (NowS.call (NowS.to HS4.out [q, x1.heap.size] Keeps.au (by simp <;> omega) (by simp [kq, mq] <;> omega)) hP hK)
            clear hP hK
            go_wp2_with fail
            refine (CD _ (NowS.pin (NowS.to HS5.out [q, x1.heap.size] Keeps.au (by simp <;> omega) (by simp [kq, mq] <;> omega)))).out.mono ?_
            rintro e x6 ⟨a1, n1, p1, rfl, hP, hK, hT⟩
            have hz_x6 := hK.size
            try simp only [World.size_alloc, World.size_setCell, World.size_drew, World.heap_drewN] at hz_x6
            have O_x6_0 : OwnB x6 (q) #[.int .i64 0, .slice none 0 0, .slice none 0 0, .int .i64 0, .int .i64 0, .int .i64 0, .string ⟨#[]⟩, .int .i64 0, .int .i64 p] 82 := OwnB.call OwnB.au hK (by simp only [List.mem_singleton]; omega)
            obtain ⟨y_x6_0, x_x6_0, b_x6_0⟩ := O_x6_0.facts
            have O_x6_1 : OwnB x6 (x1.heap.size) #[.int .i64 (U).kind, .string ⟨(U).text.toArray⟩, .int .i64 (U).n, .int .i64 (U).pos] 60 := OwnB.call OwnB.au hK (by simp only [List.mem_singleton]; omega)
            obtain ⟨y_x6_1, x_x6_1, b_x6_1⟩ := O_x6_1.facts
            have HS6 := Lib.hid (NowS.callE (NowS.to HS5.out [q, x1.heap.size] Keeps.au (by simp <;> omega) (by simp [kq, mq] <;> omega)) hP hK hT)
            clear hP hK hT
            go_wp2_with fail
            go_end0
            exact NowS.finW (R := (({ sm0 with op := 1, ex := A.1, pos := p } : Sm), A.2)) (NowS.to HS6.out [q] Keeps.au (by simp <;> omega) (by simp [kq, mq] <;> omega)) (show OwnB _ (q) #[.int .i64 1, .slice a1 n1 p1, .slice none 0 0, .int .i64 0, .int .i64 0, .int .i64 0, .string ⟨#[]⟩, .int .i64 0, .int .i64 p] 82 from (by repeat (first | with_reducible apply OwnB.s9_0 | with_reducible apply OwnB.s9_1 | with_reducible apply OwnB.s9_2 | with_reducible apply OwnB.s9_3 | with_reducible apply OwnB.s9_4 | with_reducible apply OwnB.s9_5 | with_reducible apply OwnB.s9_6 | with_reducible apply OwnB.s9_7 | with_reducible apply OwnB.s9_8 | with_reducible assumption | (with_reducible refine OwnB.new ?_; (first | with_reducible rfl | (simp only [World.size_alloc, World.size_setCell, World.size_drew, World.heap_drewN]; done) | (simp only [World.size_alloc, World.size_setCell, World.size_drew, World.heap_drewN]; omega))) | with_reducible refine OwnB.alloc ?_ _ | with_reducible refine OwnB.drew ?_ | with_reducible refine OwnB.drewN ?_ _ | with_reducible refine OwnB.setCell ?_ _ _ ?_ | (dsimp only; omega) | omega))) (MIn.of_ex (KidsIn.wide (NowS.q0 (NowS.to HS6.out [q] Keeps.au (by simp <;> omega) (by simp [kq, mq] <;> omega))).2.2 (NowS.q0 (NowS.to HS6.out [q] Keeps.au (by simp <;> omega) (by simp [kq, mq] <;> omega))).1 (NowS.q0 (NowS.to HS6.out [q] Keeps.au (by simp <;> omega) (by simp [kq, mq] <;> omega))).2.1 (Nat.le_refl _)))

  · have k1 : (U.kind == 1) = false := by simp [hk]
    rw [if_neg (fun hh => hk hh.1)] at hR
    clear hk
    cases ky : isType U.text with
    | true =>
      rw [ky, if_pos rfl] at hR
      rw [ky] at CY
      have CL := fun W H HO => Lib.hid (local_step c hc f d p s R W q h0 hd HO hn hR H)
      clear h hR hU ky HC GA
      unfold pv
      go_enter Tryd.func78, Tryd.ntmps78
      go_wp2_with fail
      refine (CT _ (NowS.pin (NowS.to HS.out [q] Keeps.au (by simp <;> omega) (by simp [kq, mq] <;> omega)))).out.mono ?_
      rintro e x1 ⟨rfl, hP, hK⟩
      have hz_x1 := hK.size
      try simp only [World.size_alloc, World.size_setCell, World.size_drew, World.heap_drewN] at hz_x1
      have O_x1_0 : OwnB x1 (q) #[.int .i64 0, .slice none 0 0, .slice none 0 0, .int .i64 0, .int .i64 0, .int .i64 0, .string ⟨#[]⟩, .int .i64 0, .int .i64 p] 82 := OwnB.call OwnB.au hK (by simp only [List.mem_singleton]; omega)
      obtain ⟨y_x1_0, x_x1_0, b_x1_0⟩ := O_x1_0.facts
      have HS1 := Lib.hid (NowS.call (NowS.to HS.out [q] Keeps.au (by simp <;> omega) (by simp [kq, mq] <;> omega)) hP hK)
      clear hP hK
      go_wp2_with fail
      refine (CY _ (NowS.pin (NowS.to HS1.out [q, x1.heap.size] Keeps.au (by simp <;> omega) (by simp [kq, mq] <;> omega)))).out.mono ?_
      rintro e x3 ⟨rfl, hP, hK⟩
      have hz_x3 := hK.size
      try simp only [World.size_alloc, World.size_setCell, World.size_drew, World.heap_drewN] at hz_x3
      have O_x3_0 : OwnB x3 (q) #[.int .i64 0, .slice none 0 0, .slice none 0 0, .int .i64 0, .int .i64 0, .int .i64 0, .string ⟨#[]⟩, .int .i64 0, .int .i64 p] 82 := OwnB.call OwnB.au hK (by simp only [List.mem_singleton]; omega)
      obtain ⟨y_x3_0, x_x3_0, b_x3_0⟩ := O_x3_0.facts
      have O_x3_1 : OwnB x3 (x1.heap.size) #[.int .i64 (U).kind, .string ⟨(U).text.toArray⟩, .int .i64 (U).n, .int .i64 (U).pos] 60 := OwnB.call OwnB.au hK (by simp only [List.mem_singleton]; omega)
      obtain ⟨y_x3_1, x_x3_1, b_x3_1⟩ := O_x3_1.facts
      have HS3 := Lib.hid (NowS.call (NowS.to HS1.out [q, x1.heap.size] Keeps.au (by simp <;> omega) (by simp [kq, mq] <;> omega)) hP hK)
      clear hP hK
      go_wp2_with fail
      refine (CL _ (NowS.pin (NowS.to HS3.out [q, x1.heap.size] Keeps.au (by simp <;> omega) (by simp [kq, mq] <;> omega))) O_x3_0).out.mono ?_
      rintro e x4 ⟨a1, n1, p1, a2, n2, p2, rfl, hP, hK, hO, hT⟩
      have HS4 := Lib.hid (NowS.callW HS3.out hP hK hT)
      have HO := Lib.hid hO
      clear hP hK hT hO
      go_wp2_with fail
      go_end0
      exact NowS.finW (R := R) HS4.out HO.out (MIn.wide HS4.out.q0.2.2 HS4.out.q0.1 HS4.out.q0.2.1 (Nat.le_refl _))
    | false =>
      rw [ky, if_neg (by simp)] at hR
      rw [ky] at CY
      have CI := fun W H => Lib.hid (is_any c hc s W H [123])
      have CZ := fun W H => Lib.hid (accept_any c hc s W H [59])
      cases kb : P.is c.l [123] s with
      | true =>
        rw [kb, if_pos rfl] at hR
        rw [kb] at CI
        obtain ⟨A, hA, hR⟩ := Option.bind_eq_some_iff.1 hR
        obtain rfl := Option.some.inj hR
        have CB := fun W H => Lib.hid (block_step c hc f GA d s A W h0 hd hA H)
        clear h hR hU ky kb HC GA hA
        unfold pv
        go_enter Tryd.func78, Tryd.ntmps78
        go_wp2_with fail
        refine (CT _ (NowS.pin (NowS.to HS.out [q] Keeps.au (by simp <;> omega) (by simp [kq, mq] <;> omega)))).out.mono ?_
        rintro e x1 ⟨rfl, hP, hK⟩
        have hz_x1 := hK.size
        try simp only [World.size_alloc, World.size_setCell, World.size_drew, World.heap_drewN] at hz_x1
        have O_x1_0 : OwnB x1 (q) #[.int .i64 0, .slice none 0 0, .slice none 0 0, .int .i64 0, .int .i64 0, .int .i64 0, .string ⟨#[]⟩, .int .i64 0, .int .i64 p] 82 := OwnB.call OwnB.au hK (by simp only [List.mem_singleton]; omega)
        obtain ⟨y_x1_0, x_x1_0, b_x1_0⟩ := O_x1_0.facts
        have HS1 := Lib.hid (NowS.call (NowS.to HS.out [q] Keeps.au (by simp <;> omega) (by simp [kq, mq] <;> omega)) hP hK)
        clear hP hK
        go_wp2_with fail
        refine (CY _ (NowS.pin (NowS.to HS1.out [q, x1.heap.size] Keeps.au (by simp <;> omega) (by simp [kq, mq] <;> omega)))).out.mono ?_
        rintro e x3 ⟨rfl, hP, hK⟩
        have hz_x3 := hK.size
        try simp only [World.size_alloc, World.size_setCell, World.size_drew, World.heap_drewN] at hz_x3
        have O_x3_0 : OwnB x3 (q) #[.int .i64 0, .slice none 0 0, .slice none 0 0, .int .i64 0, .int .i64 0, .int .i64 0, .string ⟨#[]⟩, .int .i64 0, .int .i64 p] 82 := OwnB.call OwnB.au hK (by simp only [List.mem_singleton]; omega)
        obtain ⟨y_x3_0, x_x3_0, b_x3_0⟩ := O_x3_0.facts
        have O_x3_1 : OwnB x3 (x1.heap.size) #[.int .i64 (U).kind, .string ⟨(U).text.toArray⟩, .int .i64 (U).n, .int .i64 (U).pos] 60 := OwnB.call OwnB.au hK (by simp only [List.mem_singleton]; omega)
        obtain ⟨y_x3_1, x_x3_1, b_x3_1⟩ := O_x3_1.facts
        have HS3 := Lib.hid (NowS.call (NowS.to HS1.out [q, x1.heap.size] Keeps.au (by simp <;> omega) (by simp [kq, mq] <;> omega)) hP hK)
        clear hP hK
        go_wp2_with fail
        refine (CI _ (NowS.pin (NowS.to HS3.out [q, x1.heap.size] Keeps.au (by simp <;> omega) (by simp [kq, mq] <;> omega)))).out.mono ?_
        rintro e x4 ⟨rfl, hP, hK⟩
        have hz_x4 := hK.size
        try simp only [World.size_alloc, World.size_setCell, World.size_drew, World.heap_drewN] at hz_x4
        have O_x4_0 : OwnB x4 (q) #[.int .i64 0, .slice none 0 0, .slice none 0 0, .int .i64 0, .int .i64 0, .int .i64 0, .string ⟨#[]⟩, .int .i64 0, .int .i64 p] 82 := OwnB.call OwnB.au hK (by simp only [List.mem_singleton]; omega)
        obtain ⟨y_x4_0, x_x4_0, b_x4_0⟩ := O_x4_0.facts
        have O_x4_1 : OwnB x4 (x1.heap.size) #[.int .i64 (U).kind, .string ⟨(U).text.toArray⟩, .int .i64 (U).n, .int .i64 (U).pos] 60 := OwnB.call OwnB.au hK (by simp only [List.mem_singleton]; omega)
        obtain ⟨y_x4_1, x_x4_1, b_x4_1⟩ := O_x4_1.facts
        have HS4 := Lib.hid (NowS.call (NowS.to HS3.out [q, x1.heap.size] Keeps.au (by simp <;> omega) (by simp [kq, mq] <;> omega)) hP hK)
        clear hP hK
        go_wp2_with fail
        refine (CB _ (NowS.pin (NowS.to HS4.out [q, x1.heap.size] Keeps.au (by simp <;> omega) (by simp [kq, mq] <;> omega)))).out.mono ?_
        rintro e x5 ⟨a1, n1, p1, rfl, hP, hK, hT⟩
        have hz_x5 := hK.size
        try simp only [World.size_alloc, World.size_setCell, World.size_drew, World.heap_drewN] at hz_x5
        have O_x5_0 : OwnB x5 (q) #[.int .i64 0, .slice none 0 0, .slice none 0 0, .int .i64 0, .int .i64 0, .int .i64 0, .string ⟨#[]⟩, .int .i64 0, .int .i64 p] 82 := OwnB.call OwnB.au hK (by simp only [List.mem_singleton]; omega)
        obtain ⟨y_x5_0, x_x5_0, b_x5_0⟩ := O_x5_0.facts
        have O_x5_1 : OwnB x5 (x1.heap.size) #[.int .i64 (U).kind, .string ⟨(U).text.toArray⟩, .int .i64 (U).n, .int .i64 (U).pos] 60 := OwnB.call OwnB.au hK (by simp only [List.mem_singleton]; omega)
        obtain ⟨y_x5_1, x_x5_1, b_x5_1⟩ := O_x5_1.facts
        have HS5 := Lib.hid (NowS.callS (NowS.to HS4.out [q, x1.heap.size] Keeps.au (by simp <;> omega) (by simp [kq, mq] <;> omega)) hP hK hT)
        clear hP hK hT
        go_wp2_with fail
        go_end0
        exact NowS.finW (R := (({ sm0 with op := 3, body := A.1, pos := p } : Sm), A.2)) (NowS.to HS5.out [q] Keeps.au (by simp <;> omega) (by simp [kq, mq] <;> omega)) (show OwnB _ (q) #[.int .i64 3, .slice none 0 0, .slice a1 n1 p1, .int .i64 0, .int .i64 0, .int .i64 0, .string ⟨#[]⟩, .int .i64 0, .int .i64 p] 82 from (by repeat (first | with_reducible apply OwnB.s9_0 | with_reducible apply OwnB.s9_1 | with_reducible apply OwnB.s9_2 | with_reducible apply OwnB.s9_3 | with_reducible apply OwnB.s9_4 | with_reducible apply OwnB.s9_5 | with_reducible apply OwnB.s9_6 | with_reducible apply OwnB.s9_7 | with_reducible apply OwnB.s9_8 | with_reducible assumption | (with_reducible refine OwnB.new ?_; (first | with_reducible rfl | (simp only [World.size_alloc, World.size_setCell, World.size_drew, World.heap_drewN]; done) | (simp only [World.size_alloc, World.size_setCell, World.size_drew, World.heap_drewN]; omega))) | with_reducible refine OwnB.alloc ?_ _ | with_reducible refine OwnB.drew ?_ | with_reducible refine OwnB.drewN ?_ _ | with_reducible refine OwnB.setCell ?_ _ _ ?_ | (dsimp only; omega) | omega))) (MIn.wide (NowS.q0 (NowS.to HS5.out [q] Keeps.au (by simp <;> omega) (by simp [kq, mq] <;> omega))).2.2 (NowS.q0 (NowS.to HS5.out [q] Keeps.au (by simp <;> omega) (by simp [kq, mq] <;> omega))).1 (NowS.q0 (NowS.to HS5.out [q] Keeps.au (by simp <;> omega) (by simp [kq, mq] <;> omega))).2.1 (Nat.le_refl _))
      | false =>
        rw [kb, if_neg (by simp)] at hR
        rw [kb] at CI
        cases kz : P.is c.l [59] s with
        | true =>
          rw [kz, if_pos rfl] at hR
          rw [kz, show P.acc c.l [59] s = P.next c.l s by simp [P.acc, kz]] at CZ
          obtain rfl := Option.some.inj hR
          clear h hR hU ky kb kz HC GA
          unfold pv
          go_enter Tryd.func78, Tryd.ntmps78
          go_wp2_with fail
          refine (CT _ (NowS.pin (NowS.to HS.out [q] Keeps.au (by simp <;> omega) (by simp [kq, mq] <;> omega)))).out.mono ?_
          rintro e x1 ⟨rfl, hP, hK⟩
          have hz_x1 := hK.size
          try simp only [World.size_alloc, World.size_setCell, World.size_drew, World.heap_drewN] at hz_x1
          have O_x1_0 : OwnB x1 (q) #[.int .i64 0, .slice none 0 0, .slice none 0 0, .int .i64 0, .int .i64 0, .int .i64 0, .string ⟨#[]⟩, .int .i64 0, .int .i64 p] 82 := OwnB.call OwnB.au hK (by simp only [List.mem_singleton]; omega)
          obtain ⟨y_x1_0, x_x1_0, b_x1_0⟩ := O_x1_0.facts
          have HS1 := Lib.hid (NowS.call (NowS.to HS.out [q] Keeps.au (by simp <;> omega) (by simp [kq, mq] <;> omega)) hP hK)
          clear hP hK
          go_wp2_with fail
          refine (CY _ (NowS.pin (NowS.to HS1.out [q, x1.heap.size] Keeps.au (by simp <;> omega) (by simp [kq, mq] <;> omega)))).out.mono ?_
          rintro e x3 ⟨rfl, hP, hK⟩
          have hz_x3 := hK.size
          try simp only [World.size_alloc, World.size_setCell, World.size_drew, World.heap_drewN] at hz_x3
          have O_x3_0 : OwnB x3 (q) #[.int .i64 0, .slice none 0 0, .slice none 0 0, .int .i64 0, .int .i64 0, .int .i64 0, .string ⟨#[]⟩, .int .i64 0, .int .i64 p] 82 := OwnB.call OwnB.au hK (by simp only [List.mem_singleton]; omega)
          obtain ⟨y_x3_0, x_x3_0, b_x3_0⟩ := O_x3_0.facts
          have O_x3_1 : OwnB x3 (x1.heap.size) #[.int .i64 (U).kind, .string ⟨(U).text.toArray⟩, .int .i64 (U).n, .int .i64 (U).pos] 60 := OwnB.call OwnB.au hK (by simp only [List.mem_singleton]; omega)
          obtain ⟨y_x3_1, x_x3_1, b_x3_1⟩ := O_x3_1.facts
          have HS3 := Lib.hid (NowS.call (NowS.to HS1.out [q, x1.heap.size] Keeps.au (by simp <;> omega) (by simp [kq, mq] <;> omega)) hP hK)
          clear hP hK
          go_wp2_with fail
          refine (CI _ (NowS.pin (NowS.to HS3.out [q, x1.heap.size] Keeps.au (by simp <;> omega) (by simp [kq, mq] <;> omega)))).out.mono ?_
          rintro e x4 ⟨rfl, hP, hK⟩
          have hz_x4 := hK.size
          try simp only [World.size_alloc, World.size_setCell, World.size_drew, World.heap_drewN] at hz_x4
          have O_x4_0 : OwnB x4 (q) #[.int .i64 0, .slice none 0 0, .slice none 0 0, .int .i64 0, .int .i64 0, .int .i64 0, .string ⟨#[]⟩, .int .i64 0, .int .i64 p] 82 := OwnB.call OwnB.au hK (by simp only [List.mem_singleton]; omega)
          obtain ⟨y_x4_0, x_x4_0, b_x4_0⟩ := O_x4_0.facts
          have O_x4_1 : OwnB x4 (x1.heap.size) #[.int .i64 (U).kind, .string ⟨(U).text.toArray⟩, .int .i64 (U).n, .int .i64 (U).pos] 60 := OwnB.call OwnB.au hK (by simp only [List.mem_singleton]; omega)
          obtain ⟨y_x4_1, x_x4_1, b_x4_1⟩ := O_x4_1.facts
          have HS4 := Lib.hid (NowS.call (NowS.to HS3.out [q, x1.heap.size] Keeps.au (by simp <;> omega) (by simp [kq, mq] <;> omega)) hP hK)
          clear hP hK
          go_wp2_with fail
          refine (CZ _ (NowS.pin (NowS.to HS4.out [q, x1.heap.size] Keeps.au (by simp <;> omega) (by simp [kq, mq] <;> omega)))).out.mono ?_
          rintro e x5 ⟨rfl, hP, hK⟩
          have hz_x5 := hK.size
          try simp only [World.size_alloc, World.size_setCell, World.size_drew, World.heap_drewN] at hz_x5
          have O_x5_0 : OwnB x5 (q) #[.int .i64 0, .slice none 0 0, .slice none 0 0, .int .i64 0, .int .i64 0, .int .i64 0, .string ⟨#[]⟩, .int .i64 0, .int .i64 p] 82 := OwnB.call OwnB.au hK (by simp only [List.mem_singleton]; omega)
          obtain ⟨y_x5_0, x_x5_0, b_x5_0⟩ := O_x5_0.facts
          have O_x5_1 : OwnB x5 (x1.heap.size) #[.int .i64 (U).kind, .string ⟨(U).text.toArray⟩, .int .i64 (U).n, .int .i64 (U).pos] 60 := OwnB.call OwnB.au hK (by simp only [List.mem_singleton]; omega)
          obtain ⟨y_x5_1, x_x5_1, b_x5_1⟩ := O_x5_1.facts
          have HS5 := Lib.hid (NowS.call (NowS.to HS4.out [q, x1.heap.size] Keeps.au (by simp <;> omega) (by simp [kq, mq] <;> omega)) hP hK)
          clear hP hK
          go_wp2_with fail
          go_end0
          exact NowS.finW (R := (({ sm0 with op := 16, pos := p } : Sm), P.next c.l s)) (NowS.to HS5.out [q] Keeps.au (by simp <;> omega) (by simp [kq, mq] <;> omega)) (show OwnB _ (q) #[.int .i64 16, .slice none 0 0, .slice none 0 0, .int .i64 0, .int .i64 0, .int .i64 0, .string ⟨#[]⟩, .int .i64 0, .int .i64 p] 82 from (by repeat (first | with_reducible apply OwnB.s9_0 | with_reducible apply OwnB.s9_1 | with_reducible apply OwnB.s9_2 | with_reducible apply OwnB.s9_3 | with_reducible apply OwnB.s9_4 | with_reducible apply OwnB.s9_5 | with_reducible apply OwnB.s9_6 | with_reducible apply OwnB.s9_7 | with_reducible apply OwnB.s9_8 | with_reducible assumption | (with_reducible refine OwnB.new ?_; (first | with_reducible rfl | (simp only [World.size_alloc, World.size_setCell, World.size_drew, World.heap_drewN]; done) | (simp only [World.size_alloc, World.size_setCell, World.size_drew, World.heap_drewN]; omega))) | with_reducible refine OwnB.alloc ?_ _ | with_reducible refine OwnB.drew ?_ | with_reducible refine OwnB.drewN ?_ _ | with_reducible refine OwnB.setCell ?_ _ _ ?_ | (dsimp only; omega) | omega))) (MIn.nil (Nat.le_refl _))
        | false =>
          rw [kz, if_neg (by simp)] at hR
          rw [kz, show P.acc c.l [59] s = s by simp [P.acc, kz]] at CZ
          obtain ⟨A, hA, hR⟩ := Option.bind_eq_some_iff.1 hR
          obtain rfl := Option.some.inj hR
          have CD := fun W H => Lib.hid (told_step c hc f d s A W h0 hd hA H)
          clear h hR hU ky kb kz HC GA hA
          unfold pv
          go_enter Tryd.func78, Tryd.ntmps78
          go_wp2_with fail
          refine (CT _ (NowS.pin (NowS.to HS.out [q] Keeps.au (by simp <;> omega) (by simp [kq, mq] <;> omega)))).out.mono ?_
          rintro e x1 ⟨rfl, hP, hK⟩
          have hz_x1 := hK.size
          try simp only [World.size_alloc, World.size_setCell, World.size_drew, World.heap_drewN] at hz_x1
          have O_x1_0 : OwnB x1 (q) #[.int .i64 0, .slice none 0 0, .slice none 0 0, .int .i64 0, .int .i64 0, .int .i64 0, .string ⟨#[]⟩, .int .i64 0, .int .i64 p] 82 := OwnB.call OwnB.au hK (by simp only [List.mem_singleton]; omega)
          obtain ⟨y_x1_0, x_x1_0, b_x1_0⟩ := O_x1_0.facts
          have HS1 := Lib.hid (NowS.call (NowS.to HS.out [q] Keeps.au (by simp <;> omega) (by simp [kq, mq] <;> omega)) hP hK)
          clear hP hK
          go_wp2_with fail
          refine (CY _ (NowS.pin (NowS.to HS1.out [q, x1.heap.size] Keeps.au (by simp <;> omega) (by simp [kq, mq] <;> omega)))).out.mono ?_
          rintro e x3 ⟨rfl, hP, hK⟩
          have hz_x3 := hK.size
          try simp only [World.size_alloc, World.size_setCell, World.size_drew, World.heap_drewN] at hz_x3
          have O_x3_0 : OwnB x3 (q) #[.int .i64 0, .slice none 0 0, .slice none 0 0, .int .i64 0, .int .i64 0, .int .i64 0, .string ⟨#[]⟩, .int .i64 0, .int .i64 p] 82 := OwnB.call OwnB.au hK (by simp only [List.mem_singleton]; omega)
          obtain ⟨y_x3_0, x_x3_0, b_x3_0⟩ := O_x3_0.facts
          have O_x3_1 : OwnB x3 (x1.heap.size) #[.int .i64 (U).kind, .string ⟨(U).text.toArray⟩, .int .i64 (U).n, .int .i64 (U).pos] 60 := OwnB.call OwnB.au hK (by simp only [List.mem_singleton]; omega)
          obtain ⟨y_x3_1, x_x3_1, b_x3_1⟩ := O_x3_1.facts
          have HS3 := Lib.hid (NowS.call (NowS.to HS1.out [q, x1.heap.size] Keeps.au (by simp <;> omega) (by simp [kq, mq] <;> omega)) hP hK)
          clear hP hK
          go_wp2_with fail
          refine (CI _ (NowS.pin (NowS.to HS3.out [q, x1.heap.size] Keeps.au (by simp <;> omega) (by simp [kq, mq] <;> omega)))).out.mono ?_
          rintro e x4 ⟨rfl, hP, hK⟩
          have hz_x4 := hK.size
          try simp only [World.size_alloc, World.size_setCell, World.size_drew, World.heap_drewN] at hz_x4
          have O_x4_0 : OwnB x4 (q) #[.int .i64 0, .slice none 0 0, .slice none 0 0, .int .i64 0, .int .i64 0, .int .i64 0, .string ⟨#[]⟩, .int .i64 0, .int .i64 p] 82 := OwnB.call OwnB.au hK (by simp only [List.mem_singleton]; omega)
          obtain ⟨y_x4_0, x_x4_0, b_x4_0⟩ := O_x4_0.facts
          have O_x4_1 : OwnB x4 (x1.heap.size) #[.int .i64 (U).kind, .string ⟨(U).text.toArray⟩, .int .i64 (U).n, .int .i64 (U).pos] 60 := OwnB.call OwnB.au hK (by simp only [List.mem_singleton]; omega)
          obtain ⟨y_x4_1, x_x4_1, b_x4_1⟩ := O_x4_1.facts
          have HS4 := Lib.hid (NowS.call (NowS.to HS3.out [q, x1.heap.size] Keeps.au (by simp <;> omega) (by simp [kq, mq] <;> omega)) hP hK)
          clear hP hK
          go_wp2_with fail
          refine (CZ _ (NowS.pin (NowS.to HS4.out [q, x1.heap.size] Keeps.au (by simp <;> omega) (by simp [kq, mq] <;> omega)))).out.mono ?_
          rintro e x5 ⟨rfl, hP, hK⟩
          have hz_x5 := hK.size
          try simp only [World.size_alloc, World.size_setCell, World.size_drew, World.heap_drewN] at hz_x5
          have O_x5_0 : OwnB x5 (q) #[.int .i64 0, .slice none 0 0, .slice none 0 0, .int .i64 0, .int .i64 0, .int .i64 0, .string ⟨#[]⟩, .int .i64 0, .int .i64 p] 82 := OwnB.call OwnB.au hK (by simp only [List.mem_singleton]; omega)
          obtain ⟨y_x5_0, x_x5_0, b_x5_0⟩ := O_x5_0.facts
          have O_x5_1 : OwnB x5 (x1.heap.size) #[.int .i64 (U).kind, .string ⟨(U).text.toArray⟩, .int .i64 (U).n, .int .i64 (U).pos] 60 := OwnB.call OwnB.au hK (by simp only [List.mem_singleton]; omega)
          obtain ⟨y_x5_1, x_x5_1, b_x5_1⟩ := O_x5_1.facts
          have HS5 := Lib.hid (NowS.call (NowS.to HS4.out [q, x1.heap.size] Keeps.au (by simp <;> omega) (by simp [kq, mq] <;> omega)) hP hK)
          clear hP hK
          go_wp2_with fail
          refine (CD _ (NowS.pin (NowS.to HS5.out [q, x1.heap.size] Keeps.au (by simp <;> omega) (by simp [kq, mq] <;> omega)))).out.mono ?_
          rintro e x6 ⟨a1, n1, p1, rfl, hP, hK, hT⟩
          have hz_x6 := hK.size
          try simp only [World.size_alloc, World.size_setCell, World.size_drew, World.heap_drewN] at hz_x6
          have O_x6_0 : OwnB x6 (q) #[.int .i64 0, .slice none 0 0, .slice none 0 0, .int .i64 0, .int .i64 0, .int .i64 0, .string ⟨#[]⟩, .int .i64 0, .int .i64 p] 82 := OwnB.call OwnB.au hK (by simp only [List.mem_singleton]; omega)
          obtain ⟨y_x6_0, x_x6_0, b_x6_0⟩ := O_x6_0.facts
          have O_x6_1 : OwnB x6 (x1.heap.size) #[.int .i64 (U).kind, .string ⟨(U).text.toArray⟩, .int .i64 (U).n, .int .i64 (U).pos] 60 := OwnB.call OwnB.au hK (by simp only [List.mem_singleton]; omega)
          obtain ⟨y_x6_1, x_x6_1, b_x6_1⟩ := O_x6_1.facts
          have HS6 := Lib.hid (NowS.callE (NowS.to HS5.out [q, x1.heap.size] Keeps.au (by simp <;> omega) (by simp [kq, mq] <;> omega)) hP hK hT)
          clear hP hK hT
          go_wp2_with fail
          go_end0
          exact NowS.finW (R := (({ sm0 with op := 1, ex := A.1, pos := p } : Sm), A.2)) (NowS.to HS6.out [q] Keeps.au (by simp <;> omega) (by simp [kq, mq] <;> omega)) (show OwnB _ (q) #[.int .i64 1, .slice a1 n1 p1, .slice none 0 0, .int .i64 0, .int .i64 0, .int .i64 0, .string ⟨#[]⟩, .int .i64 0, .int .i64 p] 82 from (by repeat (first | with_reducible apply OwnB.s9_0 | with_reducible apply OwnB.s9_1 | with_reducible apply OwnB.s9_2 | with_reducible apply OwnB.s9_3 | with_reducible apply OwnB.s9_4 | with_reducible apply OwnB.s9_5 | with_reducible apply OwnB.s9_6 | with_reducible apply OwnB.s9_7 | with_reducible apply OwnB.s9_8 | with_reducible assumption | (with_reducible refine OwnB.new ?_; (first | with_reducible rfl | (simp only [World.size_alloc, World.size_setCell, World.size_drew, World.heap_drewN]; done) | (simp only [World.size_alloc, World.size_setCell, World.size_drew, World.heap_drewN]; omega))) | with_reducible refine OwnB.alloc ?_ _ | with_reducible refine OwnB.drew ?_ | with_reducible refine OwnB.drewN ?_ _ | with_reducible refine OwnB.setCell ?_ _ _ ?_ | (dsimp only; omega) | omega))) (MIn.of_ex (KidsIn.wide (NowS.q0 (NowS.to HS6.out [q] Keeps.au (by simp <;> omega) (by simp [kq, mq] <;> omega))).2.2 (NowS.q0 (NowS.to HS6.out [q] Keeps.au (by simp <;> omega) (by simp [kq, mq] <;> omega))).1 (NowS.q0 (NowS.to HS6.out [q] Keeps.au (by simp <;> omega) (by simp [kq, mq] <;> omega))).2.1 (Nat.le_refl _)))

end Go.Proofs.YtjmemapkipkocaaDoor

/-
  Statements: 'course'.
-/
namespace Go.Proofs.YtjmemapkipkocaaDoor
open Go.RowKit Go.Maps
set_option linter.unusedVariables false
set_option linter.unusedSimpArgs false
set_option maxRecDepth 100000
set_option maxHeartbeats 2000000

theorem make3 (w : World) : (Instr.makeSlice 80 (.int .i64 3) (.int .i64 3)).run Tryd.prog w = .ok (.slice (some ⟨w.heap.size, 0, none⟩) 3 3) (w.alloc (.cells #[.int .i64 0, .int .i64 0, .int .i64 0, .int .i64 0, .string ⟨#[]⟩, .int .i64 0, .slice none 0 0, .int .i64 0, .int .i64 0, .int .i64 0, .int .i64 0, .int .i64 0, .string ⟨#[]⟩, .int .i64 0, .slice none 0 0, .int .i64 0, .int .i64 0, .int .i64 0, .int .i64 0, .int .i64 0, .string ⟨#[]⟩, .int .i64 0, .slice none 0 0, .int .i64 0] 105)) := by kernel_rfl
theorem ends0 (w : World) : (Instr.index 159 (.agg #[.string ⟨#[59]⟩, .string ⟨#[59]⟩, .string ⟨#[41]⟩]) (.int .i64 0)).run Tryd.prog w = .ok (.string ⟨#[59]⟩) w := by kernel_rfl
theorem ends1 (w : World) : (Instr.index 159 (.agg #[.string ⟨#[59]⟩, .string ⟨#[59]⟩, .string ⟨#[41]⟩]) (.int .i64 1)).run Tryd.prog w = .ok (.string ⟨#[59]⟩) w := by kernel_rfl
theorem ends2 (w : World) : (Instr.index 159 (.agg #[.string ⟨#[59]⟩, .string ⟨#[59]⟩, .string ⟨#[41]⟩]) (.int .i64 2)).run Tryd.prog w = .ok (.string ⟨#[41]⟩) w := by kernel_rfl
theorem OwnB.set24_0 {w : World} {b : Nat} {u0 u1 u2 u3 u4 u5 u6 u7 u8 u9 u10 u11 u12 u13 u14 u15 u16 u17 u18 u19 u20 u21 u22 u23 v0 v1 v2 v3 v4 v5 v6 v7 : Value} {T : TypeId} (h : OwnB w b #[u0, u1, u2, u3, u4, u5, u6, u7, u8, u9, u10, u11, u12, u13, u14, u15, u16, u17, u18, u19, u20, u21, u22, u23] T) : OwnB ((((((((w.setCell ⟨b, 0, none⟩ v0).setCell ⟨b, 1, none⟩ v1).setCell ⟨b, 2, none⟩ v2).setCell ⟨b, 3, none⟩ v3).setCell ⟨b, 4, none⟩ v4).setCell ⟨b, 5, none⟩ v5).setCell ⟨b, 6, none⟩ v6).setCell ⟨b, 7, none⟩ v7) b #[v0, v1, v2, v3, v4, v5, v6, v7, u8, u9, u10, u11, u12, u13, u14, u15, u16, u17, u18, u19, u20, u21, u22, u23] T := by
  have h0 : OwnB _ b #[v0, u1, u2, u3, u4, u5, u6, u7, u8, u9, u10, u11, u12, u13, u14, u15, u16, u17, u18, u19, u20, u21, u22, u23] T := h.set 0 v0
  have h1 : OwnB _ b #[v0, v1, u2, u3, u4, u5, u6, u7, u8, u9, u10, u11, u12, u13, u14, u15, u16, u17, u18, u19, u20, u21, u22, u23] T := h0.set 1 v1
  have h2 : OwnB _ b #[v0, v1, v2, u3, u4, u5, u6, u7, u8, u9, u10, u11, u12, u13, u14, u15, u16, u17, u18, u19, u20, u21, u22, u23] T := h1.set 2 v2
  have h3 : OwnB _ b #[v0, v1, v2, v3, u4, u5, u6, u7, u8, u9, u10, u11, u12, u13, u14, u15, u16, u17, u18, u19, u20, u21, u22, u23] T := h2.set 3 v3
  have h4 : OwnB _ b #[v0, v1, v2, v3, v4, u5, u6, u7, u8, u9, u10, u11, u12, u13, u14, u15, u16, u17, u18, u19, u20, u21, u22, u23] T := h3.set 4 v4
  have h5 : OwnB _ b #[v0, v1, v2, v3, v4, v5, u6, u7, u8, u9, u10, u11, u12, u13, u14, u15, u16, u17, u18, u19, u20, u21, u22, u23] T := h4.set 5 v5
  have h6 : OwnB _ b #[v0, v1, v2, v3, v4, v5, v6, u7, u8, u9, u10, u11, u12, u13, u14, u15, u16, u17, u18, u19, u20, u21, u22, u23] T := h5.set 6 v6
  have h7 : OwnB _ b #[v0, v1, v2, v3, v4, v5, v6, v7, u8, u9, u10, u11, u12, u13, u14, u15, u16, u17, u18, u19, u20, u21, u22, u23] T := h6.set 7 v7
  exact h7
theorem OwnB.set24_1 {w : World} {b : Nat} {u0 u1 u2 u3 u4 u5 u6 u7 u8 u9 u10 u11 u12 u13 u14 u15 u16 u17 u18 u19 u20 u21 u22 u23 v0 v1 v2 v3 v4 v5 v6 v7 : Value} {T : TypeId} (h : OwnB w b #[u0, u1, u2, u3, u4, u5, u6, u7, u8, u9, u10, u11, u12, u13, u14, u15, u16, u17, u18, u19, u20, u21, u22, u23] T) : OwnB ((((((((w.setCell ⟨b, 8, none⟩ v0).setCell ⟨b, 9, none⟩ v1).setCell ⟨b, 10, none⟩ v2).setCell ⟨b, 11, none⟩ v3).setCell ⟨b, 12, none⟩ v4).setCell ⟨b, 13, none⟩ v5).setCell ⟨b, 14, none⟩ v6).setCell ⟨b, 15, none⟩ v7) b #[u0, u1, u2, u3, u4, u5, u6, u7, v0, v1, v2, v3, v4, v5, v6, v7, u16, u17, u18, u19, u20, u21, u22, u23] T := by
  have h0 : OwnB _ b #[u0, u1, u2, u3, u4, u5, u6, u7, v0, u9, u10, u11, u12, u13, u14, u15, u16, u17, u18, u19, u20, u21, u22, u23] T := h.set 8 v0
  have h1 : OwnB _ b #[u0, u1, u2, u3, u4, u5, u6, u7, v0, v1, u10, u11, u12, u13, u14, u15, u16, u17, u18, u19, u20, u21, u22, u23] T := h0.set 9 v1
  have h2 : OwnB _ b #[u0, u1, u2, u3, u4, u5, u6, u7, v0, v1, v2, u11, u12, u13, u14, u15, u16, u17, u18, u19, u20, u21, u22, u23] T := h1.set 10 v2
  have h3 : OwnB _ b #[u0, u1, u2, u3, u4, u5, u6, u7, v0, v1, v2, v3, u12, u13, u14, u15, u16, u17, u18, u19, u20, u21, u22, u23] T := h2.set 11 v3
  have h4 : OwnB _ b #[u0, u1, u2, u3, u4, u5, u6, u7, v0, v1, v2, v3, v4, u13, u14, u15, u16, u17, u18, u19, u20, u21, u22, u23] T := h3.set 12 v4
  have h5 : OwnB _ b #[u0, u1, u2, u3, u4, u5, u6, u7, v0, v1, v2, v3, v4, v5, u14, u15, u16, u17, u18, u19, u20, u21, u22, u23] T := h4.set 13 v5
  have h6 : OwnB _ b #[u0, u1, u2, u3, u4, u5, u6, u7, v0, v1, v2, v3, v4, v5, v6, u15, u16, u17, u18, u19, u20, u21, u22, u23] T := h5.set 14 v6
  have h7 : OwnB _ b #[u0, u1, u2, u3, u4, u5, u6, u7, v0, v1, v2, v3, v4, v5, v6, v7, u16, u17, u18, u19, u20, u21, u22, u23] T := h6.set 15 v7
  exact h7
theorem OwnB.set24_2 {w : World} {b : Nat} {u0 u1 u2 u3 u4 u5 u6 u7 u8 u9 u10 u11 u12 u13 u14 u15 u16 u17 u18 u19 u20 u21 u22 u23 v0 v1 v2 v3 v4 v5 v6 v7 : Value} {T : TypeId} (h : OwnB w b #[u0, u1, u2, u3, u4, u5, u6, u7, u8, u9, u10, u11, u12, u13, u14, u15, u16, u17, u18, u19, u20, u21, u22, u23] T) : OwnB ((((((((w.setCell ⟨b, 16, none⟩ v0).setCell ⟨b, 17, none⟩ v1).setCell ⟨b, 18, none⟩ v2).setCell ⟨b, 19, none⟩ v3).setCell ⟨b, 20, none⟩ v4).setCell ⟨b, 21, none⟩ v5).setCell ⟨b, 22, none⟩ v6).setCell ⟨b, 23, none⟩ v7) b #[u0, u1, u2, u3, u4, u5, u6, u7, u8, u9, u10, u11, u12, u13, u14, u15, v0, v1, v2, v3, v4, v5, v6, v7] T := by
  have h0 : OwnB _ b #[u0, u1, u2, u3, u4, u5, u6, u7, u8, u9, u10, u11, u12, u13, u14, u15, v0, u17, u18, u19, u20, u21, u22, u23] T := h.set 16 v0
  have h1 : OwnB _ b #[u0, u1, u2, u3, u4, u5, u6, u7, u8, u9, u10, u11, u12, u13, u14, u15, v0, v1, u18, u19, u20, u21, u22, u23] T := h0.set 17 v1
  have h2 : OwnB _ b #[u0, u1, u2, u3, u4, u5, u6, u7, u8, u9, u10, u11, u12, u13, u14, u15, v0, v1, v2, u19, u20, u21, u22, u23] T := h1.set 18 v2
  have h3 : OwnB _ b #[u0, u1, u2, u3, u4, u5, u6, u7, u8, u9, u10, u11, u12, u13, u14, u15, v0, v1, v2, v3, u20, u21, u22, u23] T := h2.set 19 v3
  have h4 : OwnB _ b #[u0, u1, u2, u3, u4, u5, u6, u7, u8, u9, u10, u11, u12, u13, u14, u15, v0, v1, v2, v3, v4, u21, u22, u23] T := h3.set 20 v4
  have h5 : OwnB _ b #[u0, u1, u2, u3, u4, u5, u6, u7, u8, u9, u10, u11, u12, u13, u14, u15, v0, v1, v2, v3, v4, v5, u22, u23] T := h4.set 21 v5
  have h6 : OwnB _ b #[u0, u1, u2, u3, u4, u5, u6, u7, u8, u9, u10, u11, u12, u13, u14, u15, v0, v1, v2, v3, v4, v5, v6, u23] T := h5.set 22 v6
  have h7 : OwnB _ b #[u0, u1, u2, u3, u4, u5, u6, u7, u8, u9, u10, u11, u12, u13, u14, u15, v0, v1, v2, v3, v4, v5, v6, v7] T := h6.set 23 v7
  exact h7
theorem NowQ.addNil {c : Cx} {w W : World} {s : St} {L : List KQ} (h : NowQ c w s L W) : NowQ c w s (kq W.heap.size W.heap.size [] .nil (.slice none 0 0) :: L) W := by
  refine ⟨h.now, fun p hp => ?_⟩
  rcases List.mem_cons.1 hp with rfl | hp
  · exact ⟨h.now.kp.size, Nat.le_refl _, KidsIn.none_ (Nat.le_refl _)⟩
  · exact h.all p hp
theorem KidsIn.threeG {w : World} {lo hi lo2 hi2 lo3 hi3 g l u : Nat} {X X2 X3 : List Nat} {a b d : Ex} {ka kb kd : Value} (h : KidsIn w lo hi X a.kids ka) (h' : KidsIn w lo2 hi2 X2 b.kids kb) (h'' : KidsIn w lo3 hi3 X3 d.kids kd)
    (h12 : hi ≤ lo2) (h23 : hi2 ≤ lo3) (h13 : hi ≤ lo3) (hg : g < lo ∧ g < lo2 ∧ g < lo3) (hl : l ≤ g ∧ l ≤ lo ∧ l ≤ lo2 ∧ l ≤ lo3) (hu : g < u ∧ hi ≤ u ∧ hi2 ≤ u ∧ hi3 ≤ u ∧ u ≤ w.heap.size)
    (hb : OwnB w g (exC a ka ++ exC b kb ++ exC d kd).toArray 105) : KidsIn w l u [] (three a b d) (.slice (some ⟨g, 0, none⟩) 3 3) := by
  obtain ⟨h1, F, h2, h3, h4⟩ := h
  obtain ⟨h1', F', h2', h3', h4'⟩ := h'
  obtain ⟨h1'', F'', h2'', h3'', h4''⟩ := h''
  have hx := ExsIn.add h2 (ExsIn.add h2' (ExsIn.add h2'' (ExsIn.nil (w := w))))
  simp only [List.append_nil] at hx
  refine ⟨hu.2.2.2.2, g :: (F ++ (F' ++ F'')), ⟨exC a ka ++ exC b kb ++ exC d kd, F ++ (F' ++ F''), ownsRow_lit hb.blk (by simp [exC, three, Exs.add, Exs.len]) (by decide), by rw [List.append_assoc]; exact hx, rfl⟩, ?_, ?_⟩
  · refine List.nodup_cons.2 ⟨fun hm => ?_, List.nodup_append.2 ⟨h3, List.nodup_append.2 ⟨h3', h3'', ?_⟩, ?_⟩⟩
    · rcases List.mem_append.1 hm with hm | hm
      · have := (h4 g hm).1; omega
      · rcases List.mem_append.1 hm with hm | hm
        · have := (h4' g hm).1; omega
        · have := (h4'' g hm).1; omega
    · intro x hx y hy
      have := (h4' x hx).2.1; have := (h4'' y hy).1; omega
    · intro x hx y hy
      rcases List.mem_append.1 hy with hy | hy
      · have := (h4 x hx).2.1; have := (h4' y hy).1; omega
      · have := (h4 x hx).2.1; have := (h4'' y hy).1; omega
  · intro x hm
    refine ⟨?_, ?_, by simp⟩
    all_goals
      rcases List.mem_cons.1 hm with rfl | hm
      · omega
      · rcases List.mem_append.1 hm with hm | hm
        · have := h4 x hm; omega
        · rcases List.mem_append.1 hm with hm | hm
          · have := h4' x hm; omega
          · have := h4'' x hm; omega
/-- Where the loop of 'course' is. -/
structure CouAt (c : Cx) (w : World) (g : Nat) (s1 : St) (A B D : Ex × St) (k : Nat) (i : Value) (wr : World) : Prop where
  ex : (k = 3 ∧ i = .int .i64 0 ∧ NowQ c w s1 [] wr ∧ OwnB wr g #[.int .i64 0, .int .i64 0, .int .i64 0, .int .i64 0, .string ⟨#[]⟩, .int .i64 0, .slice none 0 0, .int .i64 0, .int .i64 0, .int .i64 0, .int .i64 0, .int .i64 0, .string ⟨#[]⟩, .int .i64 0, .slice none 0 0, .int .i64 0, .int .i64 0, .int .i64 0, .int .i64 0, .int .i64 0, .string ⟨#[]⟩, .int .i64 0, .slice none 0 0, .int .i64 0] 105) ∨
    (k = 2 ∧ i = .int .i64 1 ∧ ∃ a1 n1 p1 l1 u1, NowQ c w A.2 [kq l1 u1 [] A.1.kids (.slice a1 n1 p1)] wr ∧ g < l1 ∧ OwnB wr g #[.int .i64 (A.1).op, .int .i64 (A.1).ty.kind, .int .i64 (A.1).ty.ptr, .int .i64 (A.1).ty.len, .string ⟨(A.1).nm.toArray⟩, .int .i64 (A.1).n, .slice a1 n1 p1, .int .i64 (A.1).pos, .int .i64 0, .int .i64 0, .int .i64 0, .int .i64 0, .string ⟨#[]⟩, .int .i64 0, .slice none 0 0, .int .i64 0, .int .i64 0, .int .i64 0, .int .i64 0, .int .i64 0, .string ⟨#[]⟩, .int .i64 0, .slice none 0 0, .int .i64 0] 105) ∨
    (k = 1 ∧ i = .int .i64 2 ∧ ∃ a1 n1 p1 l1 u1 a2 n2 p2 l2 u2, NowQ c w B.2 [kq l2 u2 [] B.1.kids (.slice a2 n2 p2), kq l1 u1 [] A.1.kids (.slice a1 n1 p1)] wr ∧ (g < l1 ∧ g < l2 ∧ u1 ≤ l2) ∧ OwnB wr g #[.int .i64 (A.1).op, .int .i64 (A.1).ty.kind, .int .i64 (A.1).ty.ptr, .int .i64 (A.1).ty.len, .string ⟨(A.1).nm.toArray⟩, .int .i64 (A.1).n, .slice a1 n1 p1, .int .i64 (A.1).pos, .int .i64 (B.1).op, .int .i64 (B.1).ty.kind, .int .i64 (B.1).ty.ptr, .int .i64 (B.1).ty.len, .string ⟨(B.1).nm.toArray⟩, .int .i64 (B.1).n, .slice a2 n2 p2, .int .i64 (B.1).pos, .int .i64 0, .int .i64 0, .int .i64 0, .int .i64 0, .string ⟨#[]⟩, .int .i64 0, .slice none 0 0, .int .i64 0] 105) ∨
    (k = 0 ∧ i = .int .i64 3 ∧ ∃ a1 n1 p1 l1 u1 a2 n2 p2 l2 u2 a3 n3 p3 l3 u3, NowQ c w D.2 [kq l3 u3 [] D.1.kids (.slice a3 n3 p3), kq l2 u2 [] B.1.kids (.slice a2 n2 p2), kq l1 u1 [] A.1.kids (.slice a1 n1 p1)] wr ∧ (g < l1 ∧ g < l2 ∧ g < l3 ∧ u1 ≤ l2 ∧ u2 ≤ l3 ∧ u1 ≤ l3) ∧ OwnB wr g #[.int .i64 (A.1).op, .int .i64 (A.1).ty.kind, .int .i64 (A.1).ty.ptr, .int .i64 (A.1).ty.len, .string ⟨(A.1).nm.toArray⟩, .int .i64 (A.1).n, .slice a1 n1 p1, .int .i64 (A.1).pos, .int .i64 (B.1).op, .int .i64 (B.1).ty.kind, .int .i64 (B.1).ty.ptr, .int .i64 (B.1).ty.len, .string ⟨(B.1).nm.toArray⟩, .int .i64 (B.1).n, .slice a2 n2 p2, .int .i64 (B.1).pos, .int .i64 (D.1).op, .int .i64 (D.1).ty.kind, .int .i64 (D.1).ty.ptr, .int .i64 (D.1).ty.len, .string ⟨(D.1).nm.toArray⟩, .int .i64 (D.1).n, .slice a3 n3 p3, .int .i64 (D.1).pos] 105)
/-- A round's expression. -/
theorem maybe_is {l : List Tok} {r : P.Rec} {d : Int} {t : List UInt8} {s : St} {R : Ex × St} (h : P.maybe l r d t s = some R) (hi : P.is l t s = true) : R = (ex0, P.need l t s) := by
  unfold P.maybe at h
  rw [hi, if_pos rfl] at h
  exact (Option.some.inj h).symm
theorem maybe_not {l : List Tok} {r : P.Rec} {d : Int} {t : List UInt8} {s : St} {R : Ex × St} (h : P.maybe l r d t s = some R) (hi : P.is l t s = false) : ∃ B, r.expr (d + 1) s = some B ∧ R = (B.1, P.need l t B.2) := by
  unfold P.maybe at h
  rw [hi, if_neg (by simp)] at h
  obtain ⟨B, hB, hR⟩ := Option.bind_eq_some_iff.1 h
  exact ⟨B, hB, (Option.some.inj hR).symm⟩
theorem course_step (c : Cx) (hc : c.Ok) (f : Nat) (d : Int) (s : St) (R : Exs × St) (w : World) (h0 : 0 ≤ d) (hd : d + (f + 1) ≤ 1000000000)
    (hR : P.course c.l (P.recs c.l f) d s = some R) (h : PIn w c s) : Calls Tryd.prog 84 #[pv c, .int .i64 d] w (DoesL c R w) := by
  have HN := Lib.hid (NowQ.start h)
  have hg := HN.out.now.g
  have hgt := HN.out.now.gt
  have mk := make3
  have e0 := ends0
  have e1 := ends1
  have e2 := ends2
  unfold P.course at hR
  obtain ⟨A, hA, hR⟩ := Option.bind_eq_some_iff.1 hR
  obtain ⟨B, hB, hR⟩ := Option.bind_eq_some_iff.1 hR
  obtain ⟨D, hD, hR⟩ := Option.bind_eq_some_iff.1 hR
  obtain rfl := Option.some.inj hR
  have CN := fun W H => Lib.hid (need_any c hc s W H [40])
  obtain ⟨s1, hs1⟩ : ∃ s1, s1 = P.need c.l [40] s := ⟨_, rfl⟩
  rw [← hs1] at hA CN
  have hw : wrap64 (d + 1) = d + 1 := wrapJ (by omega) (by omega)
  have HA := Lib.hid hA
  have HB := Lib.hid hB
  have HD := Lib.hid hD
  clear h hR hs1 hA hB hD
  unfold pv
  go_enter Tryd.func84, Tryd.ntmps84
  go_wp2_with fail
  refine (CN _ (NowQ.pin (NowQ.to HN.out [w.heap.size] Keeps.au (by simp <;> omega) (by simp [kq, mq] <;> omega)))).out.mono ?_
  rintro e w1 ⟨rfl, hP, hK⟩
  have hz_w1 := hK.size
  try simp only [World.size_alloc, World.size_setCell, World.size_drew, World.heap_drewN] at hz_w1
  have O_w1_0 : OwnB w1 (w.heap.size) #[.int .i64 0, .int .i64 0, .int .i64 0, .int .i64 0, .string ⟨#[]⟩, .int .i64 0, .slice none 0 0, .int .i64 0, .int .i64 0, .int .i64 0, .int .i64 0, .int .i64 0, .string ⟨#[]⟩, .int .i64 0, .slice none 0 0, .int .i64 0, .int .i64 0, .int .i64 0, .int .i64 0, .int .i64 0, .string ⟨#[]⟩, .int .i64 0, .slice none 0 0, .int .i64 0] 105 := OwnB.call OwnB.au hK (by simp only [List.mem_singleton]; omega)
  obtain ⟨y_w1_0, x_w1_0, b_w1_0⟩ := O_w1_0.facts
  have HN1 := Lib.hid (NowQ.call (NowQ.to HN.out [w.heap.size] Keeps.au (by simp <;> omega) (by simp [kq, mq] <;> omega)) hP hK)
  clear hP hK
  go_wp2_with fail
  go_loopg [12] 3 (fun k i wr => CouAt c w w.heap.size s1 A B D k i wr)
  case atStart => exact ⟨.inl ⟨rfl, rfl, HN1.out, O_w1_0⟩⟩
  case round =>
    obtain ⟨hrel⟩ := hrel
    clear O_w1_0 y_w1_0 x_w1_0 b_w1_0
    rcases hrel with ⟨rfl, rfl, hN, O⟩ | ⟨rfl, rfl, a1, n1, p1, l1, u1, hN, hl, O⟩ | ⟨rfl, rfl, a1, n1, p1, l1, u1, a2, n2, p2, l2, u2, hN, hl, O⟩ | ⟨rfl, rfl, a1, n1, p1, l1, u1, a2, n2, p2, l2, u2, a3, n3, p3, l3, u3, hN, hl, O⟩
    · have HNr := Lib.hid hN
      have hsw : w.heap.size < wr.heap.size := lt_of_blk O.blk
      have hal := HNr.out.all
      obtain ⟨y0, x0, z0⟩ := O.facts
      have CI := fun W H => Lib.hid (is_any c hc s1 W H [59])
      skip
      skip
      clear hN hal
      cases hi : P.is c.l [59] (s1) with
      | true =>
        have hE := maybe_is HA.out hi
        have CM := fun W H => Lib.hid (need_any c hc (s1) W H [59])
        rw [hi] at CI
        have HE := Lib.hid hE
        clear hi hE
        go_wp2_with fail
        refine (CI _ (NowQ.pin (NowQ.to HNr.out [w.heap.size] Keeps.au (by simp <;> omega) (by simp [kq, mq] <;> omega)))).out.mono ?_
        rintro e w2 ⟨rfl, hP, hK⟩
        have hz_w2 := hK.size
        try simp only [World.size_alloc, World.size_setCell, World.size_drew, World.heap_drewN] at hz_w2
        have O_w2_0 : OwnB w2 (w.heap.size) #[.int .i64 0, .int .i64 0, .int .i64 0, .int .i64 0, .string ⟨#[]⟩, .int .i64 0, .slice none 0 0, .int .i64 0, .int .i64 0, .int .i64 0, .int .i64 0, .int .i64 0, .string ⟨#[]⟩, .int .i64 0, .slice none 0 0, .int .i64 0, .int .i64 0, .int .i64 0, .int .i64 0, .int .i64 0, .string ⟨#[]⟩, .int .i64 0, .slice none 0 0, .int .i64 0] 105 := OwnB.call OwnB.au hK (by simp only [List.mem_singleton]; omega)
        obtain ⟨y_w2_0, x_w2_0, b_w2_0⟩ := O_w2_0.facts
        have HN2 := Lib.hid (NowQ.call (NowQ.to HNr.out [w.heap.size] Keeps.au (by simp <;> omega) (by simp [kq, mq] <;> omega)) hP hK)
        clear hP hK
        go_wp2_with fail
        refine (CM _ (NowQ.pin (NowQ.to HN2.out [w.heap.size] Keeps.au (by simp <;> omega) (by simp [kq, mq] <;> omega)))).out.mono ?_
        rintro e w3 ⟨rfl, hP, hK⟩
        have hz_w3 := hK.size
        try simp only [World.size_alloc, World.size_setCell, World.size_drew, World.heap_drewN] at hz_w3
        have O_w3_0 : OwnB w3 (w.heap.size) #[.int .i64 0, .int .i64 0, .int .i64 0, .int .i64 0, .string ⟨#[]⟩, .int .i64 0, .slice none 0 0, .int .i64 0, .int .i64 0, .int .i64 0, .int .i64 0, .int .i64 0, .string ⟨#[]⟩, .int .i64 0, .slice none 0 0, .int .i64 0, .int .i64 0, .int .i64 0, .int .i64 0, .int .i64 0, .string ⟨#[]⟩, .int .i64 0, .slice none 0 0, .int .i64 0] 105 := OwnB.call OwnB.au hK (by simp only [List.mem_singleton]; omega)
        obtain ⟨y_w3_0, x_w3_0, b_w3_0⟩ := O_w3_0.facts
        have HN3 := Lib.hid (NowQ.call (NowQ.to HN2.out [w.heap.size] Keeps.au (by simp <;> omega) (by simp [kq, mq] <;> omega)) hP hK)
        clear hP hK
        go_wp2_with fail
        go_roundg 2
        case measure => omega
        case rel =>
          rw [show A = (ex0, P.need c.l [59] (s1)) from HE.out]
          exact ⟨.inr (.inl ⟨rfl, by go_num, ⟨none, 0, 0, _, _, NowQ.addNil HN3.out, (by (try simp only [World.size_alloc, World.size_setCell]); omega), O_w3_0⟩⟩)⟩
      | false =>
        obtain ⟨V, hV, hE⟩ := maybe_not HA.out hi
        have CE := fun W H => Lib.hid ((goodE c hc f).expr (d + 1) (s1) V W (by omega) (by omega) hV H)
        have CM := fun W H => Lib.hid (need_any c hc V.2 W H [59])
        rw [hi] at CI
        have HE := Lib.hid hE
        clear hi hE hV
        go_wp2_with fail
        refine (CI _ (NowQ.pin (NowQ.to HNr.out [w.heap.size] Keeps.au (by simp <;> omega) (by simp [kq, mq] <;> omega)))).out.mono ?_
        rintro e w2 ⟨rfl, hP, hK⟩
        have hz_w2 := hK.size
        try simp only [World.size_alloc, World.size_setCell, World.size_drew, World.heap_drewN] at hz_w2
        have O_w2_0 : OwnB w2 (w.heap.size) #[.int .i64 0, .int .i64 0, .int .i64 0, .int .i64 0, .string ⟨#[]⟩, .int .i64 0, .slice none 0 0, .int .i64 0, .int .i64 0, .int .i64 0, .int .i64 0, .int .i64 0, .string ⟨#[]⟩, .int .i64 0, .slice none 0 0, .int .i64 0, .int .i64 0, .int .i64 0, .int .i64 0, .int .i64 0, .string ⟨#[]⟩, .int .i64 0, .slice none 0 0, .int .i64 0] 105 := OwnB.call OwnB.au hK (by simp only [List.mem_singleton]; omega)
        obtain ⟨y_w2_0, x_w2_0, b_w2_0⟩ := O_w2_0.facts
        have HN2 := Lib.hid (NowQ.call (NowQ.to HNr.out [w.heap.size] Keeps.au (by simp <;> omega) (by simp [kq, mq] <;> omega)) hP hK)
        clear hP hK
        go_wp2_with fail
        refine (CE _ (NowQ.pin (NowQ.to HN2.out [w.heap.size] Keeps.au (by simp <;> omega) (by simp [kq, mq] <;> omega)))).out.mono ?_
        rintro e w3 ⟨a9, n9, p9, rfl, hP, hK, hT⟩
        have hz_w3 := hK.size
        try simp only [World.size_alloc, World.size_setCell, World.size_drew, World.heap_drewN] at hz_w3
        have O_w3_0 : OwnB w3 (w.heap.size) #[.int .i64 0, .int .i64 0, .int .i64 0, .int .i64 0, .string ⟨#[]⟩, .int .i64 0, .slice none 0 0, .int .i64 0, .int .i64 0, .int .i64 0, .int .i64 0, .int .i64 0, .string ⟨#[]⟩, .int .i64 0, .slice none 0 0, .int .i64 0, .int .i64 0, .int .i64 0, .int .i64 0, .int .i64 0, .string ⟨#[]⟩, .int .i64 0, .slice none 0 0, .int .i64 0] 105 := OwnB.call OwnB.au hK (by simp only [List.mem_singleton]; omega)
        obtain ⟨y_w3_0, x_w3_0, b_w3_0⟩ := O_w3_0.facts
        have HN3 := Lib.hid (NowQ.callE (NowQ.to HN2.out [w.heap.size] Keeps.au (by simp <;> omega) (by simp [kq, mq] <;> omega)) hP hK hT)
        clear hP hK hT
        go_wp2_with fail
        refine (CM _ (NowQ.pin (NowQ.to HN3.out [w.heap.size] Keeps.au (by simp <;> omega) (by simp [kq, mq] <;> omega)))).out.mono ?_
        rintro e w4 ⟨rfl, hP, hK⟩
        have hz_w4 := hK.size
        try simp only [World.size_alloc, World.size_setCell, World.size_drew, World.heap_drewN] at hz_w4
        have O_w4_0 : OwnB w4 (w.heap.size) #[.int .i64 (V.1).op, .int .i64 (V.1).ty.kind, .int .i64 (V.1).ty.ptr, .int .i64 (V.1).ty.len, .string ⟨(V.1).nm.toArray⟩, .int .i64 (V.1).n, .slice a9 n9 p9, .int .i64 (V.1).pos, .int .i64 0, .int .i64 0, .int .i64 0, .int .i64 0, .string ⟨#[]⟩, .int .i64 0, .slice none 0 0, .int .i64 0, .int .i64 0, .int .i64 0, .int .i64 0, .int .i64 0, .string ⟨#[]⟩, .int .i64 0, .slice none 0 0, .int .i64 0] 105 := OwnB.call (by repeat (first | with_reducible apply OwnB.set24_0 | with_reducible assumption | (with_reducible refine OwnB.new ?_; (first | with_reducible rfl | (simp only [World.size_alloc, World.size_setCell, World.size_drew, World.heap_drewN]; done) | (simp only [World.size_alloc, World.size_setCell, World.size_drew, World.heap_drewN]; omega))) | with_reducible refine OwnB.alloc ?_ _ | with_reducible refine OwnB.drew ?_ | with_reducible refine OwnB.drewN ?_ _ | with_reducible refine OwnB.setCell ?_ _ _ ?_ | (dsimp only; omega) | omega)) hK (by simp only [List.mem_singleton]; omega)
        obtain ⟨y_w4_0, x_w4_0, b_w4_0⟩ := O_w4_0.facts
        have HN4 := Lib.hid (NowQ.call (NowQ.to HN3.out [w.heap.size] Keeps.au (by simp <;> omega) (by simp [kq, mq] <;> omega)) hP hK)
        clear hP hK
        go_wp2_with fail
        go_roundg 2
        case measure => omega
        case rel =>
          rw [show A = (V.1, P.need c.l [59] V.2) from HE.out]
          exact ⟨.inr (.inl ⟨rfl, by go_num, ⟨_, _, _, _, _, HN4.out, (by (try simp only [World.size_alloc, World.size_setCell]); omega), O_w4_0⟩⟩)⟩
    · have HNr := Lib.hid hN
      have hsw : w.heap.size < wr.heap.size := lt_of_blk O.blk
      have hal := HNr.out.all
      obtain ⟨y0, x0, z0⟩ := O.facts
      have CI := fun W H => Lib.hid (is_any c hc A.2 W H [59])
      have hu1 : u1 ≤ wr.heap.size := HNr.out.q0.2.1
      skip
      clear hN hal
      cases hi : P.is c.l [59] (A.2) with
      | true =>
        have hE := maybe_is HB.out hi
        have CM := fun W H => Lib.hid (need_any c hc (A.2) W H [59])
        rw [hi] at CI
        have HE := Lib.hid hE
        clear hi hE
        go_wp2_with fail
        refine (CI _ (NowQ.pin (NowQ.to HNr.out [w.heap.size] Keeps.au (by simp <;> omega) (by simp [kq, mq] <;> omega)))).out.mono ?_
        rintro e w2 ⟨rfl, hP, hK⟩
        have hz_w2 := hK.size
        try simp only [World.size_alloc, World.size_setCell, World.size_drew, World.heap_drewN] at hz_w2
        have O_w2_0 : OwnB w2 (w.heap.size) #[.int .i64 (A.1).op, .int .i64 (A.1).ty.kind, .int .i64 (A.1).ty.ptr, .int .i64 (A.1).ty.len, .string ⟨(A.1).nm.toArray⟩, .int .i64 (A.1).n, .slice a1 n1 p1, .int .i64 (A.1).pos, .int .i64 0, .int .i64 0, .int .i64 0, .int .i64 0, .string ⟨#[]⟩, .int .i64 0, .slice none 0 0, .int .i64 0, .int .i64 0, .int .i64 0, .int .i64 0, .int .i64 0, .string ⟨#[]⟩, .int .i64 0, .slice none 0 0, .int .i64 0] 105 := OwnB.call OwnB.au hK (by simp only [List.mem_singleton]; omega)
        obtain ⟨y_w2_0, x_w2_0, b_w2_0⟩ := O_w2_0.facts
        have HN2 := Lib.hid (NowQ.call (NowQ.to HNr.out [w.heap.size] Keeps.au (by simp <;> omega) (by simp [kq, mq] <;> omega)) hP hK)
        clear hP hK
        go_wp2_with fail
        refine (CM _ (NowQ.pin (NowQ.to HN2.out [w.heap.size] Keeps.au (by simp <;> omega) (by simp [kq, mq] <;> omega)))).out.mono ?_
        rintro e w3 ⟨rfl, hP, hK⟩
        have hz_w3 := hK.size
        try simp only [World.size_alloc, World.size_setCell, World.size_drew, World.heap_drewN] at hz_w3
        have O_w3_0 : OwnB w3 (w.heap.size) #[.int .i64 (A.1).op, .int .i64 (A.1).ty.kind, .int .i64 (A.1).ty.ptr, .int .i64 (A.1).ty.len, .string ⟨(A.1).nm.toArray⟩, .int .i64 (A.1).n, .slice a1 n1 p1, .int .i64 (A.1).pos, .int .i64 0, .int .i64 0, .int .i64 0, .int .i64 0, .string ⟨#[]⟩, .int .i64 0, .slice none 0 0, .int .i64 0, .int .i64 0, .int .i64 0, .int .i64 0, .int .i64 0, .string ⟨#[]⟩, .int .i64 0, .slice none 0 0, .int .i64 0] 105 := OwnB.call OwnB.au hK (by simp only [List.mem_singleton]; omega)
        obtain ⟨y_w3_0, x_w3_0, b_w3_0⟩ := O_w3_0.facts
        have HN3 := Lib.hid (NowQ.call (NowQ.to HN2.out [w.heap.size] Keeps.au (by simp <;> omega) (by simp [kq, mq] <;> omega)) hP hK)
        clear hP hK
        go_wp2_with fail
        go_roundg 1
        case measure => omega
        case rel =>
          rw [show B = (ex0, P.need c.l [59] (A.2)) from HE.out]
          exact ⟨.inr (.inr (.inl ⟨rfl, by go_num, ⟨a1, n1, p1, l1, u1, none, 0, 0, _, _, NowQ.addNil HN3.out, (by (try simp only [World.size_alloc, World.size_setCell]); omega), O_w3_0⟩⟩))⟩
      | false =>
        obtain ⟨V, hV, hE⟩ := maybe_not HB.out hi
        have CE := fun W H => Lib.hid ((goodE c hc f).expr (d + 1) (A.2) V W (by omega) (by omega) hV H)
        have CM := fun W H => Lib.hid (need_any c hc V.2 W H [59])
        rw [hi] at CI
        have HE := Lib.hid hE
        clear hi hE hV
        go_wp2_with fail
        refine (CI _ (NowQ.pin (NowQ.to HNr.out [w.heap.size] Keeps.au (by simp <;> omega) (by simp [kq, mq] <;> omega)))).out.mono ?_
        rintro e w2 ⟨rfl, hP, hK⟩
        have hz_w2 := hK.size
        try simp only [World.size_alloc, World.size_setCell, World.size_drew, World.heap_drewN] at hz_w2
        have O_w2_0 : OwnB w2 (w.heap.size) #[.int .i64 (A.1).op, .int .i64 (A.1).ty.kind, .int .i64 (A.1).ty.ptr, .int .i64 (A.1).ty.len, .string ⟨(A.1).nm.toArray⟩, .int .i64 (A.1).n, .slice a1 n1 p1, .int .i64 (A.1).pos, .int .i64 0, .int .i64 0, .int .i64 0, .int .i64 0, .string ⟨#[]⟩, .int .i64 0, .slice none 0 0, .int .i64 0, .int .i64 0, .int .i64 0, .int .i64 0, .int .i64 0, .string ⟨#[]⟩, .int .i64 0, .slice none 0 0, .int .i64 0] 105 := OwnB.call OwnB.au hK (by simp only [List.mem_singleton]; omega)
        obtain ⟨y_w2_0, x_w2_0, b_w2_0⟩ := O_w2_0.facts
        have HN2 := Lib.hid (NowQ.call (NowQ.to HNr.out [w.heap.size] Keeps.au (by simp <;> omega) (by simp [kq, mq] <;> omega)) hP hK)
        clear hP hK
        go_wp2_with fail
        refine (CE _ (NowQ.pin (NowQ.to HN2.out [w.heap.size] Keeps.au (by simp <;> omega) (by simp [kq, mq] <;> omega)))).out.mono ?_
        rintro e w3 ⟨a9, n9, p9, rfl, hP, hK, hT⟩
        have hz_w3 := hK.size
        try simp only [World.size_alloc, World.size_setCell, World.size_drew, World.heap_drewN] at hz_w3
        have O_w3_0 : OwnB w3 (w.heap.size) #[.int .i64 (A.1).op, .int .i64 (A.1).ty.kind, .int .i64 (A.1).ty.ptr, .int .i64 (A.1).ty.len, .string ⟨(A.1).nm.toArray⟩, .int .i64 (A.1).n, .slice a1 n1 p1, .int .i64 (A.1).pos, .int .i64 0, .int .i64 0, .int .i64 0, .int .i64 0, .string ⟨#[]⟩, .int .i64 0, .slice none 0 0, .int .i64 0, .int .i64 0, .int .i64 0, .int .i64 0, .int .i64 0, .string ⟨#[]⟩, .int .i64 0, .slice none 0 0, .int .i64 0] 105 := OwnB.call OwnB.au hK (by simp only [List.mem_singleton]; omega)
        obtain ⟨y_w3_0, x_w3_0, b_w3_0⟩ := O_w3_0.facts
        have HN3 := Lib.hid (NowQ.callE (NowQ.to HN2.out [w.heap.size] Keeps.au (by simp <;> omega) (by simp [kq, mq] <;> omega)) hP hK hT)
        clear hP hK hT
        go_wp2_with fail
        refine (CM _ (NowQ.pin (NowQ.to HN3.out [w.heap.size] Keeps.au (by simp <;> omega) (by simp [kq, mq] <;> omega)))).out.mono ?_
        rintro e w4 ⟨rfl, hP, hK⟩
        have hz_w4 := hK.size
        try simp only [World.size_alloc, World.size_setCell, World.size_drew, World.heap_drewN] at hz_w4
        have O_w4_0 : OwnB w4 (w.heap.size) #[.int .i64 (A.1).op, .int .i64 (A.1).ty.kind, .int .i64 (A.1).ty.ptr, .int .i64 (A.1).ty.len, .string ⟨(A.1).nm.toArray⟩, .int .i64 (A.1).n, .slice a1 n1 p1, .int .i64 (A.1).pos, .int .i64 (V.1).op, .int .i64 (V.1).ty.kind, .int .i64 (V.1).ty.ptr, .int .i64 (V.1).ty.len, .string ⟨(V.1).nm.toArray⟩, .int .i64 (V.1).n, .slice a9 n9 p9, .int .i64 (V.1).pos, .int .i64 0, .int .i64 0, .int .i64 0, .int .i64 0, .string ⟨#[]⟩, .int .i64 0, .slice none 0 0, .int .i64 0] 105 := OwnB.call (by repeat (first | with_reducible apply OwnB.set24_1 | with_reducible assumption | (with_reducible refine OwnB.new ?_; (first | with_reducible rfl | (simp only [World.size_alloc, World.size_setCell, World.size_drew, World.heap_drewN]; done) | (simp only [World.size_alloc, World.size_setCell, World.size_drew, World.heap_drewN]; omega))) | with_reducible refine OwnB.alloc ?_ _ | with_reducible refine OwnB.drew ?_ | with_reducible refine OwnB.drewN ?_ _ | with_reducible refine OwnB.setCell ?_ _ _ ?_ | (dsimp only; omega) | omega)) hK (by simp only [List.mem_singleton]; omega)
        obtain ⟨y_w4_0, x_w4_0, b_w4_0⟩ := O_w4_0.facts
        have HN4 := Lib.hid (NowQ.call (NowQ.to HN3.out [w.heap.size] Keeps.au (by simp <;> omega) (by simp [kq, mq] <;> omega)) hP hK)
        clear hP hK
        go_wp2_with fail
        go_roundg 1
        case measure => omega
        case rel =>
          rw [show B = (V.1, P.need c.l [59] V.2) from HE.out]
          exact ⟨.inr (.inr (.inl ⟨rfl, by go_num, ⟨a1, n1, p1, l1, u1, _, _, _, _, _, HN4.out, (by (try simp only [World.size_alloc, World.size_setCell]); omega), O_w4_0⟩⟩))⟩
    · have HNr := Lib.hid hN
      have hsw : w.heap.size < wr.heap.size := lt_of_blk O.blk
      have hal := HNr.out.all
      obtain ⟨y0, x0, z0⟩ := O.facts
      have CI := fun W H => Lib.hid (is_any c hc B.2 W H [41])
      have hu2 : u2 ≤ wr.heap.size := HNr.out.q0.2.1
      have hu1 : u1 ≤ wr.heap.size := HNr.out.q1.2.1
      clear hN hal
      cases hi : P.is c.l [41] (B.2) with
      | true =>
        have hE := maybe_is HD.out hi
        have CM := fun W H => Lib.hid (need_any c hc (B.2) W H [41])
        rw [hi] at CI
        have HE := Lib.hid hE
        clear hi hE
        go_wp2_with fail
        refine (CI _ (NowQ.pin (NowQ.to HNr.out [w.heap.size] Keeps.au (by simp <;> omega) (by simp [kq, mq] <;> omega)))).out.mono ?_
        rintro e w2 ⟨rfl, hP, hK⟩
        have hz_w2 := hK.size
        try simp only [World.size_alloc, World.size_setCell, World.size_drew, World.heap_drewN] at hz_w2
        have O_w2_0 : OwnB w2 (w.heap.size) #[.int .i64 (A.1).op, .int .i64 (A.1).ty.kind, .int .i64 (A.1).ty.ptr, .int .i64 (A.1).ty.len, .string ⟨(A.1).nm.toArray⟩, .int .i64 (A.1).n, .slice a1 n1 p1, .int .i64 (A.1).pos, .int .i64 (B.1).op, .int .i64 (B.1).ty.kind, .int .i64 (B.1).ty.ptr, .int .i64 (B.1).ty.len, .string ⟨(B.1).nm.toArray⟩, .int .i64 (B.1).n, .slice a2 n2 p2, .int .i64 (B.1).pos, .int .i64 0, .int .i64 0, .int .i64 0, .int .i64 0, .string ⟨#[]⟩, .int .i64 0, .slice none 0 0, .int .i64 0] 105 := OwnB.call OwnB.au hK (by simp only [List.mem_singleton]; omega)
        obtain ⟨y_w2_0, x_w2_0, b_w2_0⟩ := O_w2_0.facts
        have HN2 := Lib.hid (NowQ.call (NowQ.to HNr.out [w.heap.size] Keeps.au (by simp <;> omega) (by simp [kq, mq] <;> omega)) hP hK)
        clear hP hK
        go_wp2_with fail
        refine (CM _ (NowQ.pin (NowQ.to HN2.out [w.heap.size] Keeps.au (by simp <;> omega) (by simp [kq, mq] <;> omega)))).out.mono ?_
        rintro e w3 ⟨rfl, hP, hK⟩
        have hz_w3 := hK.size
        try simp only [World.size_alloc, World.size_setCell, World.size_drew, World.heap_drewN] at hz_w3
        have O_w3_0 : OwnB w3 (w.heap.size) #[.int .i64 (A.1).op, .int .i64 (A.1).ty.kind, .int .i64 (A.1).ty.ptr, .int .i64 (A.1).ty.len, .string ⟨(A.1).nm.toArray⟩, .int .i64 (A.1).n, .slice a1 n1 p1, .int .i64 (A.1).pos, .int .i64 (B.1).op, .int .i64 (B.1).ty.kind, .int .i64 (B.1).ty.ptr, .int .i64 (B.1).ty.len, .string ⟨(B.1).nm.toArray⟩, .int .i64 (B.1).n, .slice a2 n2 p2, .int .i64 (B.1).pos, .int .i64 0, .int .i64 0, .int .i64 0, .int .i64 0, .string ⟨#[]⟩, .int .i64 0, .slice none 0 0, .int .i64 0] 105 := OwnB.call OwnB.au hK (by simp only [List.mem_singleton]; omega)
        obtain ⟨y_w3_0, x_w3_0, b_w3_0⟩ := O_w3_0.facts
        have HN3 := Lib.hid (NowQ.call (NowQ.to HN2.out [w.heap.size] Keeps.au (by simp <;> omega) (by simp [kq, mq] <;> omega)) hP hK)
        clear hP hK
        go_wp2_with fail
        go_roundg 0
        case measure => omega
        case rel =>
          rw [show D = (ex0, P.need c.l [41] (B.2)) from HE.out]
          exact ⟨.inr (.inr (.inr ⟨rfl, by go_num, ⟨a1, n1, p1, l1, u1, a2, n2, p2, l2, u2, none, 0, 0, _, _, NowQ.addNil HN3.out, (by (try simp only [World.size_alloc, World.size_setCell]); omega), O_w3_0⟩⟩))⟩
      | false =>
        obtain ⟨V, hV, hE⟩ := maybe_not HD.out hi
        have CE := fun W H => Lib.hid ((goodE c hc f).expr (d + 1) (B.2) V W (by omega) (by omega) hV H)
        have CM := fun W H => Lib.hid (need_any c hc V.2 W H [41])
        rw [hi] at CI
        have HE := Lib.hid hE
        clear hi hE hV
        go_wp2_with fail
        refine (CI _ (NowQ.pin (NowQ.to HNr.out [w.heap.size] Keeps.au (by simp <;> omega) (by simp [kq, mq] <;> omega)))).out.mono ?_
        rintro e w2 ⟨rfl, hP, hK⟩
        have hz_w2 := hK.size
        try simp only [World.size_alloc, World.size_setCell, World.size_drew, World.heap_drewN] at hz_w2
        have O_w2_0 : OwnB w2 (w.heap.size) #[.int .i64 (A.1).op, .int .i64 (A.1).ty.kind, .int .i64 (A.1).ty.ptr, .int .i64 (A.1).ty.len, .string ⟨(A.1).nm.toArray⟩, .int .i64 (A.1).n, .slice a1 n1 p1, .int .i64 (A.1).pos, .int .i64 (B.1).op, .int .i64 (B.1).ty.kind, .int .i64 (B.1).ty.ptr, .int .i64 (B.1).ty.len, .string ⟨(B.1).nm.toArray⟩, .int .i64 (B.1).n, .slice a2 n2 p2, .int .i64 (B.1).pos, .int .i64 0, .int .i64 0, .int .i64 0, .int .i64 0, .string ⟨#[]⟩, .int .i64 0, .slice none 0 0, .int .i64 0] 105 := OwnB.call OwnB.au hK (by simp only [List.mem_singleton]; omega)
        obtain ⟨y_w2_0, x_w2_0, b_w2_0⟩ := O_w2_0.facts
        have HN2 := Lib.hid (NowQ.call (NowQ.to HNr.out [w.heap.size] Keeps.au (by simp <;> omega) (by simp [kq, mq] <;> omega)) hP hK)
        clear hP hK
        go_wp2_with fail
        refine (CE _ (NowQ.pin (NowQ.to HN2.out [w.heap.size] Keeps.au (by simp <;> omega) (by simp [kq, mq] <;> omega)))).out.mono ?_
        rintro e w3 ⟨a9, n9, p9, rfl, hP, hK, hT⟩
        have hz_w3 := hK.size
        try simp only [World.size_alloc, World.size_setCell, World.size_drew, World.heap_drewN] at hz_w3
        have O_w3_0 : OwnB w3 (w.heap.size) #[.int .i64 (A.1).op, .int .i64 (A.1).ty.kind, .int .i64 (A.1).ty.ptr, .int .i64 (A.1).ty.len, .string ⟨(A.1).nm.toArray⟩, .int .i64 (A.1).n, .slice a1 n1 p1, .int .i64 (A.1).pos, .int .i64 (B.1).op, .int .i64 (B.1).ty.kind, .int .i64 (B.1).ty.ptr, .int .i64 (B.1).ty.len, .string ⟨(B.1).nm.toArray⟩, .int .i64 (B.1).n, .slice a2 n2 p2, .int .i64 (B.1).pos, .int .i64 0, .int .i64 0, .int .i64 0, .int .i64 0, .string ⟨#[]⟩, .int .i64 0, .slice none 0 0, .int .i64 0] 105 := OwnB.call OwnB.au hK (by simp only [List.mem_singleton]; omega)
        obtain ⟨y_w3_0, x_w3_0, b_w3_0⟩ := O_w3_0.facts
        have HN3 := Lib.hid (NowQ.callE (NowQ.to HN2.out [w.heap.size] Keeps.au (by simp <;> omega) (by simp [kq, mq] <;> omega)) hP hK hT)
        clear hP hK hT
        go_wp2_with fail
        refine (CM _ (NowQ.pin (NowQ.to HN3.out [w.heap.size] Keeps.au (by simp <;> omega) (by simp [kq, mq] <;> omega)))).out.mono ?_
        rintro e w4 ⟨rfl, hP, hK⟩
        have hz_w4 := hK.size
        try simp only [World.size_alloc, World.size_setCell, World.size_drew, World.heap_drewN] at hz_w4
        have O_w4_0 : OwnB w4 (w.heap.size) #[.int .i64 (A.1).op, .int .i64 (A.1).ty.kind, .int .i64 (A.1).ty.ptr, .int .i64 (A.1).ty.len, .string ⟨(A.1).nm.toArray⟩, .int .i64 (A.1).n, .slice a1 n1 p1, .int .i64 (A.1).pos, .int .i64 (B.1).op, .int .i64 (B.1).ty.kind, .int .i64 (B.1).ty.ptr, .int .i64 (B.1).ty.len, .string ⟨(B.1).nm.toArray⟩, .int .i64 (B.1).n, .slice a2 n2 p2, .int .i64 (B.1).pos, .int .i64 (V.1).op, .int .i64 (V.1).ty.kind, .int .i64 (V.1).ty.ptr, .int .i64 (V.1).ty.len, .string ⟨(V.1).nm.toArray⟩, .int .i64 (V.1).n, .slice a9 n9 p9, .int .i64 (V.1).pos] 105 := OwnB.call (by repeat (first | with_reducible apply OwnB.set24_2 | with_reducible assumption | (with_reducible refine OwnB.new ?_; (first | with_reducible rfl | (simp only [World.size_alloc, World.size_setCell, World.size_drew, World.heap_drewN]; done) | (simp only [World.size_alloc, World.size_setCell, World.size_drew, World.heap_drewN]; omega))) | with_reducible refine OwnB.alloc ?_ _ | with_reducible refine OwnB.drew ?_ | with_reducible refine OwnB.drewN ?_ _ | with_reducible refine OwnB.setCell ?_ _ _ ?_ | (dsimp only; omega) | omega)) hK (by simp only [List.mem_singleton]; omega)
        obtain ⟨y_w4_0, x_w4_0, b_w4_0⟩ := O_w4_0.facts
        have HN4 := Lib.hid (NowQ.call (NowQ.to HN3.out [w.heap.size] Keeps.au (by simp <;> omega) (by simp [kq, mq] <;> omega)) hP hK)
        clear hP hK
        go_wp2_with fail
        go_roundg 0
        case measure => omega
        case rel =>
          rw [show D = (V.1, P.need c.l [41] V.2) from HE.out]
          exact ⟨.inr (.inr (.inr ⟨rfl, by go_num, ⟨a1, n1, p1, l1, u1, a2, n2, p2, l2, u2, _, _, _, _, _, HN4.out, (by (try simp only [World.size_alloc, World.size_setCell]); omega), O_w4_0⟩⟩))⟩
    · have HNr := Lib.hid hN
      have hsw : w.heap.size < wr.heap.size := lt_of_blk O.blk
      have hu3 : u3 ≤ wr.heap.size := HNr.out.q0.2.1
      have hu2 : u2 ≤ wr.heap.size := HNr.out.q1.2.1
      have hu1 : u1 ≤ wr.heap.size := HNr.out.q2.2.1
      have HO := Lib.hid O
      clear hN O
      go_wp2_with fail
      go_ret
      exact ⟨_, _, _, rfl, HNr.out.now.pin, HNr.out.now.kp, KidsIn.threeG HNr.out.q2.2.2 HNr.out.q1.2.2 HNr.out.q0.2.2 (by omega) (by omega) (by omega) ⟨by omega, by omega, by omega⟩ ⟨by omega, by omega, by omega, by omega⟩ ⟨by omega, by omega, by omega, by omega, by omega⟩ HO.out⟩
end Go.Proofs.YtjmemapkipkocaaDoor

/-
  'append' of a statement that is written behind it, in a region that draws its order.
-/
namespace Go.Proofs.YtjmemapkipkocaaDoor
open Go.RowKit Go.Maps
set_option linter.unusedVariables false
set_option linter.unusedSimpArgs false

def zSt : List Value := [.int .i64 0, .slice none 0 0, .slice none 0 0, .int .i64 0, .int .i64 0, .int .i64 0, .string ⟨#[]⟩, .int .i64 0, .int .i64 0]
/-- A row with one place more than its statements. -/
structure RowZ (w : World) (lo hi : Nat) (acc : Sts) (g cap : Nat) (ks : List Value) (F0 : List Nat) : Prop where
  own : w.ownsRow 0 82 9 (.slice (some ⟨g, 0, none⟩) (acc.len + 1) cap) (acc.len + 1) (ks ++ zSt)
  len : ks.length = acc.len * 9
  sts : StsIn w acc ks F0
  nodup : F0.Nodup
  notin : g ∉ F0
  range : ∀ b ∈ F0, lo ≤ b ∧ b < hi
theorem step_appendZ {ops : Array Oper} {o : Oper} {a : Act} {K : Act → World → Prop} {Q : Exit → Act → World → Prop} {E : Prop} {c : Cx} {q : Nat} {w W : World} {s : St} {L : List KQ} {p1 : KQ} (hgd : o.guard = none) (sO xO : Operand)
    (ho : o.op = .call { callee := .builtin .append, args := #[sO, xO], argTypes := #[52, 52] })
    {lo hi : Nat} {X : List Nat} {acc : Sts} {av : Option Addr} {n cap gb cb : Nat} (hs : a.eval sO = .slice av n cap) (hx : a.eval xO = .slice (some ⟨gb, 0, none⟩) 1 cb)
    (hn : NowS c q w s (p1 :: mq lo hi X .nil (.slice none 0 0) acc (.slice av n cap) :: L) W)
    (hb : OwnB W gb #[.int .i64 0, .slice none 0 0, .slice none 0 0, .int .i64 0, .int .i64 0, .int .i64 0, .string ⟨#[]⟩, .int .i64 0, .int .i64 0] 82) (hlo : lo ≤ W.heap.size) (hlen : acc.len ≤ 1000000000)
    (hK : ∀ g cap' w' ks F0, RowZ w' lo hi acc g cap' ks F0 → (g = W.heap.size ∨ lo ≤ g ∧ g < hi) → g < w'.heap.size → (∀ b, b < W.heap.size → (b < lo ∨ hi ≤ b) → w'.heap[b]? = W.heap[b]?) → W.heap.size ≤ w'.heap.size → (w'.os = W.os ∧ w'.tape = W.tape ∧ w'.output = W.output) →
      n = acc.len → K (a.put o.dst (.slice (some ⟨g, 0, none⟩) (n + 1) cap')) w') :
    if Region.wanted o (yielded ops a.tmps) = true then Oper.wp Tryd.prog o a W K Q else E := by
  obtain ⟨q1, q2, q3⟩ := hn.q1
  have q1' : w.heap.size ≤ lo := q1
  obtain ⟨h1, Fe0, F, hr0, hr, hnd0, hF1⟩ := q3
  have hnd := (List.nodup_append.1 hnd0).2.1
  have hF : ∀ b ∈ F, lo ≤ b ∧ b < hi ∧ b ∉ X := fun b hm => hF1 b (by simp [hm])
  obtain rfl := hr.len
  obtain ⟨ks, F0, ho1, ho2, rfl⟩ := hr
  obtain ⟨i0, hinf, hz⟩ : ∃ i, Tryd.prog.info? 82 = some i ∧ (i.zero, i.size, i.bytes) = (some (.agg #[.int .i64 0, .slice none 0 0, .slice none 0 0, .int .i64 0, .int .i64 0, .int .i64 0, .string ⟨#[]⟩, .int .i64 0, .int .i64 0]), 9, 112) := by
    have := infoSt
    cases hq : Tryd.prog.info? 82 with
    | none => simp [hq] at this
    | some i => exact ⟨i, rfl, by simpa [hq] using this⟩
  simp only [Prod.mk.injEq] at hz
  obtain ⟨hz0, hz1, hz2⟩ := hz
  have hlob : ∀ b ∈ ownF (Value.slice av acc.len cap), lo ≤ b := fun b hm => (hF b (by simp [hm])).1
  have hown := rebase ho1 hlob
  refine step_append_lies W hgd sO xO 52 ho lo 82 i0 _ 9 112 Tryd.underlying52 hinf hz0 hz1 hz2 rfl (by decide) _ acc.len ks hs hown ⟨gb, 0, none⟩ 1 cb zSt hx rfl
    (World.news_of_block hb.blk) ?_ (by decide) (by unfold maxLen; omega) (by omega) (by omega) _ rfl ?_
  · intro u hu
    simp only [zSt, List.mem_cons, List.not_mem_nil, or_false] at hu
    rcases hu with rfl | rfl | rfl | rfl | rfl | rfl | rfl | rfl | rfl <;> rfl
  · intro g cap' w' hown' hgr hg hgw
    have hkeep : ∀ b, b < W.heap.size → b ∉ ownF (Value.slice av acc.len cap) → w'.heap[b]? = W.heap[b]? := by
      intro b hbs hm
      refine hgr.block b hbs ?_
      intro e
      exact hm (by rw [ownF, ← e]; simp)
    have hnd2 := List.nodup_append.1 hnd
    have hF0 : ∀ b ∈ F0, b < W.heap.size ∧ b ∉ ownF (Value.slice av acc.len cap) := fun b hm => ⟨by have := (hF b (by simp [hm])).2.1; omega, fun h5 => hnd2.2.2 b h5 b hm rfl⟩
    refine hK g cap' w' ks F0 ⟨rebase hown' (fun b _ => Nat.zero_le _), hown.1, StsIn.at_ _ _ _ ho2 fun b hm => hkeep b (hF0 b hm).1 (hF0 b hm).2, hnd2.2.1, ?_, fun b hm => ⟨(hF b (by simp [hm])).1, (hF b (by simp [hm])).2.1⟩⟩ ?_ hgw ?_ hgr.size ⟨hgr.os, hgr.tape, hgr.output⟩ rfl
    · intro hm
      rcases hg with hg | rfl
      · exact (hF0 g hm).2 (by rw [ownF, hg]; simp)
      · have := (hF0 _ hm).1; omega
    · rcases hg with hg | rfl
      · have hgo : g ∈ ownF (Value.slice av acc.len cap) := by rw [ownF, hg]; simp
        exact .inr ⟨hlob g hgo, (hF g (by simp [hgo])).2.1⟩
      · exact .inl rfl
    · intro b hbs hbb
      refine hkeep b hbs fun hm => ?_
      have := hF b (by simp [hm])
      omega
/-- The place is written: a statement more. -/
theorem RowZ.done {w w' : World} {lo hi lo2 hi2 l u : Nat} {X2 : List Nat} {acc : Sts} {g cap : Nat} {ks : List Value} {F0 : List Nat} {D : Sm} {ev bv : Value} (h : RowZ w lo hi acc g cap ks F0)
    (hD : MIn w lo2 hi2 X2 D.ex ev D.body bv) (h12 : hi ≤ lo2) (hg : hi2 ≤ g ∨ lo ≤ g ∧ g < hi) (hsz : w.heap.size ≤ w'.heap.size) (hk : ∀ b, b < w.heap.size → b ≠ g → (l ≤ b) → w'.heap[b]? = w.heap[b]?)
    (hrow : w'.ownsRow 0 82 9 (.slice (some ⟨g, 0, none⟩) (acc.len + 1) cap) (acc.len + 1) (ks ++ stC D ev bv)) (hl : l ≤ lo ∧ l ≤ lo2 ∧ l ≤ g) (hu : hi ≤ u ∧ hi2 ≤ u ∧ g < u ∧ u ≤ w'.heap.size) (hhi : hi ≤ w.heap.size) :
    MIn w' l u [] .nil (.slice none 0 0) (acc.snoc D) (.slice (some ⟨g, 0, none⟩) (acc.len + 1) cap) := by
  obtain ⟨h1, Fe, Fb, he, hb, hnd, hF⟩ := hD
  have keepD : ∀ b ∈ Fe ++ Fb, w'.heap[b]? = w.heap[b]? := fun b hm => by
    have := hF b hm
    exact hk b (by omega) (by omega) (by omega)
  have keep0 : ∀ b ∈ F0, w'.heap[b]? = w.heap[b]? := fun b hm => by
    have := h.range b hm
    exact hk b (by omega) (fun e => h.notin (e ▸ hm)) (by omega)
  have hs := StsIn.snoc (he.at_ fun b hm => keepD b (by simp [hm])) (hb.at_ fun b hm => keepD b (by simp [hm])) acc ks F0 (StsIn.at_ _ _ _ h.sts keep0)
  refine ⟨hu.2.2.2, [], g :: (F0 ++ (Fe ++ Fb)), RowX.nil, ⟨ks ++ stC D ev bv, F0 ++ (Fe ++ Fb), by rw [Sts.snoc_len]; exact hrow, hs, rfl⟩, ?_, ?_⟩
  · simp only [List.nil_append]
    refine List.nodup_cons.2 ⟨fun hm => ?_, List.nodup_append.2 ⟨h.nodup, hnd, fun x hx y hy => ?_⟩⟩
    · rcases List.mem_append.1 hm with hm | hm
      · exact h.notin hm
      · have := hF g hm; omega
    · have := h.range x hx; have := hF y hy; omega
  · intro x hm
    simp only [List.nil_append] at hm
    refine ⟨?_, ?_, by simp⟩
    all_goals
      rcases List.mem_cons.1 hm with rfl | hm
      · omega
      · rcases List.mem_append.1 hm with hm | hm
        · have := h.range x hm; omega
        · have := hF x hm; omega
theorem set9 (ks : List Value) (h : ks.length = 9) (v0 v1 v2 v3 v4 v5 v6 v7 v8 : Value) : ((((((((((ks ++ zSt).set 9 v0).set 10 v1).set 11 v2).set 12 v3).set 13 v4).set 14 v5).set 15 v6).set 16 v7).set 17 v8) = ks ++ [v0, v1, v2, v3, v4, v5, v6, v7, v8] := by
  simp [List.set_append, h, zSt]
theorem RowZ.stored {w : World} {lo hi : Nat} {acc : Sts} {g cap : Nat} {ks : List Value} {F0 : List Nat} (h : RowZ w lo hi acc g cap ks F0) (h1 : acc.len = 1) (v0 v1 v2 v3 v4 v5 v6 v7 v8 : Value) :
    (((((((((w.setCell ⟨g, 9, none⟩ v0).setCell ⟨g, 10, none⟩ v1).setCell ⟨g, 11, none⟩ v2).setCell ⟨g, 12, none⟩ v3).setCell ⟨g, 13, none⟩ v4).setCell ⟨g, 14, none⟩ v5).setCell ⟨g, 15, none⟩ v6).setCell ⟨g, 16, none⟩ v7).setCell ⟨g, 17, none⟩ v8).ownsRow 0 82 9 (.slice (some ⟨g, 0, none⟩) (acc.len + 1) cap) (acc.len + 1) (ks ++ [v0, v1, v2, v3, v4, v5, v6, v7, v8]) := by
  have h2 := (World.ownsRow.stored (World.ownsRow.stored (World.ownsRow.stored (World.ownsRow.stored (World.ownsRow.stored (World.ownsRow.stored (World.ownsRow.stored (World.ownsRow.stored (World.ownsRow.stored h.own 9 v0).1 10 v1).1 11 v2).1 12 v3).1 13 v4).1 14 v5).1 15 v6).1 16 v7).1 17 v8).1
  rw [set9 ks (by rw [h.len, h1])] at h2
  exact h2
theorem RowZ.cells {w : World} {lo hi : Nat} {acc : Sts} {g cap : Nat} {ks : List Value} {F0 : List Nat} (h : RowZ w lo hi acc g cap ks F0) (h1 : acc.len = 1) (i : Nat) (hi9 : i < 9) : w.cell? ⟨g, 9 + i, none⟩ = zSt[i]? := by
  rw [World.ownsRow.cellAt h.own (9 + i) (by rw [h1]; omega), List.getElem?_append_right (by rw [h.len, h1]; omega), h.len, h1]
  congr 1
  omega
set_option maxHeartbeats 1000000 in
theorem NowS.finElse {c : Cx} {q : Nat} {w W x5 : World} {s s0 : St} {L : List KQ} {m : Sm} {ex : Exs} {acc : Sts} {D : Sm} {lo hi lo1 hi1 lo3 hi3 g cap' : Nat} {X X1 X3 : List Nat} {av a1 a2 ae ab : Option Addr} {n cap n1 p1 p2 ne pe nb pb : Nat} {p : Int} {ks : List Value} {F0 : List Nat}
    (hn : NowS c q w s (mq lo3 hi3 X3 D.ex (.slice ae ne pe) D.body (.slice ab nb pb) :: mq lo hi X .nil (.slice none 0 0) acc (.slice av n cap) :: kq lo1 hi1 X1 ex (.slice a1 n1 p1) :: L) W)
    (hZ : RowZ x5 lo hi acc g cap' ks F0) (hg : g = W.heap.size ∨ lo ≤ g ∧ g < hi) (hk5 : ∀ b, b < W.heap.size → (b < lo ∨ hi ≤ b) → x5.heap[b]? = W.heap[b]?) (hz5 : W.heap.size ≤ x5.heap.size) (hot : x5.os = W.os ∧ x5.tape = W.tape ∧ x5.output = W.output)
    (hgw : g < x5.heap.size) (hlen1 : acc.len = 1) (O5 : OwnB x5 q #[.int .i64 4, .slice a1 n1 p1, .slice a2 1 p2, .int .i64 0, .int .i64 0, .int .i64 0, .string ⟨#[]⟩, .int .i64 0, .int .i64 p] 82) (h13 : hi1 ≤ lo ∧ hi ≤ lo3 ∧ hi1 ≤ lo3 ∧ lo ≤ lo3 ∧ lo ≤ W.heap.size) :
    DoesP c q m s0 (some ((Sm.mk 4 ex (acc.snoc D) sm0.ty sm0.nm sm0.n p), s)) w (.returned (.bool true)) ((((((((((x5.setCell ⟨g, 9, none⟩ (.int .i64 D.op)).setCell ⟨g, 10, none⟩ (.slice ae ne pe)).setCell ⟨g, 11, none⟩ (.slice ab nb pb)).setCell ⟨g, 12, none⟩ (.int .i64 D.ty.kind)).setCell ⟨g, 13, none⟩ (.int .i64 D.ty.ptr)).setCell ⟨g, 14, none⟩ (.int .i64 D.ty.len)).setCell ⟨g, 15, none⟩ (.string ⟨D.nm.toArray⟩)).setCell ⟨g, 16, none⟩ (.int .i64 D.n)).setCell ⟨g, 17, none⟩ (.int .i64 D.pos)).setCell ⟨q, 2, none⟩ (.slice (some ⟨g, 0, none⟩) 2 cap')) := by
  obtain ⟨e1, e2, e3⟩ := hn.q0
  obtain ⟨f1, f2, f3⟩ := hn.q1
  obtain ⟨k1, k2, k3⟩ := hn.all (kq lo1 hi1 X1 ex (.slice a1 n1 p1)) (by simp)
  simp only [mq, kq] at e1 e2 e3 f1 f2 f3 k1 k2 k3
  have hqlt := hn.qlt
  have hsW := hn.kp.size
  have hgl : w.heap.size ≤ g := by omega
  have hqg : q ≠ g := by omega
  have kV : Keeps [g, q] x5 ((((((((((x5.setCell ⟨g, 9, none⟩ (.int .i64 D.op)).setCell ⟨g, 10, none⟩ (.slice ae ne pe)).setCell ⟨g, 11, none⟩ (.slice ab nb pb)).setCell ⟨g, 12, none⟩ (.int .i64 D.ty.kind)).setCell ⟨g, 13, none⟩ (.int .i64 D.ty.ptr)).setCell ⟨g, 14, none⟩ (.int .i64 D.ty.len)).setCell ⟨g, 15, none⟩ (.string ⟨D.nm.toArray⟩)).setCell ⟨g, 16, none⟩ (.int .i64 D.n)).setCell ⟨g, 17, none⟩ (.int .i64 D.pos)).setCell ⟨q, 2, none⟩ (.slice (some ⟨g, 0, none⟩) 2 cap')) := by
    repeat (first | with_reducible exact Keeps.refl _ _ | with_reducible refine Keeps.setCell ?_ _ ?_ _ | exact Or.inr (List.Mem.head _) | exact Or.inr (List.Mem.tail _ (List.Mem.head _)))
  obtain ⟨q1, q2, q3, q4⟩ := hn.qne
  obtain ⟨cur, hb, hs, ht⟩ := hn.pin.tok
  have lg := hn.g
  have lt := hn.gt
  have lm := hn.mb
  have lz := hn.sz
  obtain ⟨V, hVe⟩ : ∃ V, V = ((((((((((x5.setCell ⟨g, 9, none⟩ (.int .i64 D.op)).setCell ⟨g, 10, none⟩ (.slice ae ne pe)).setCell ⟨g, 11, none⟩ (.slice ab nb pb)).setCell ⟨g, 12, none⟩ (.int .i64 D.ty.kind)).setCell ⟨g, 13, none⟩ (.int .i64 D.ty.ptr)).setCell ⟨g, 14, none⟩ (.int .i64 D.ty.len)).setCell ⟨g, 15, none⟩ (.string ⟨D.nm.toArray⟩)).setCell ⟨g, 16, none⟩ (.int .i64 D.n)).setCell ⟨g, 17, none⟩ (.int .i64 D.pos)).setCell ⟨q, 2, none⟩ (.slice (some ⟨g, 0, none⟩) 2 cap')) := ⟨_, rfl⟩
  have hrow : V.ownsRow 0 82 9 (.slice (some ⟨g, 0, none⟩) (acc.len + 1) cap') (acc.len + 1) (ks ++ stC D (.slice ae ne pe) (.slice ab nb pb)) := by
    rw [hVe]
    exact ownsRow_at (hZ.stored hlen1 _ _ _ _ _ _ _ _ _) (fun b hm => by
      obtain rfl : b = g := by simpa [ownF, Value.ownBlock] using hm
      exact Below.heap_setCell _ _ _ _ (Ne.symm hqg))
  have hq5 : OwnB V q #[.int .i64 4, .slice a1 n1 p1, .slice (some ⟨g, 0, none⟩) 2 cap', .int .i64 0, .int .i64 0, .int .i64 0, .string ⟨#[]⟩, .int .i64 0, .int .i64 p] 82 := by
    rw [hVe]
    refine OwnB.s9_2 (u2 := .slice a2 1 p2) ?_
    iterate 9 refine OwnB.setCell ?_ _ _ (Ne.symm hqg)
    exact O5
  rw [← hVe] at kV ⊢
  have hVs := kV.size
  have hV : ∀ b, b < x5.heap.size → b ≠ g → b ≠ q → V.heap[b]? = x5.heap[b]? := fun b h0 h1 h2 => kV.block b h0 (by simp [h1, h2])
  have hVW : ∀ b, b < W.heap.size → (b < lo ∨ hi ≤ b) → b ≠ q → b ≠ g → V.heap[b]? = W.heap[b]? := fun b h1 h2 h3 h4 => (hV b (by omega) h4 h3).trans (hk5 b h1 h2)
  have hkp : Keeps [c.g, q] w V := by
    refine ⟨kV.os.trans (hot.1.trans hn.kp.os), kV.tape.trans (hot.2.1.trans hn.kp.tape), kV.output.trans (hot.2.2.trans hn.kp.output), by omega, fun b hb1 hb2 => ?_⟩
    simp only [List.mem_cons, List.not_mem_nil, or_false, not_or] at hb2
    exact (hVW b (by omega) (.inl (by omega)) hb2.2 (by omega)).trans (hn.kp.block b hb1 (by simp [hb2]))
  refine ⟨a1, n1, p1, _, 2, cap', rfl, ⟨(hVW _ (by omega) (.inl (by omega)) (Ne.symm q1) (by omega)).trans hn.pin.blk, ⟨cur, (hVW _ (by omega) (.inl (by omega)) (Ne.symm q2) (by omega)).trans hb, hs, ht⟩, hn.pin.lt,
    (hVW _ (by omega) (.inl (by omega)) (Ne.symm q3) (by omega)).trans hn.pin.map, (hVW _ (by omega) (.inl (by omega)) (Ne.symm q4) (by omega)).trans hn.pin.siz⟩, hkp, hq5, ?_⟩
  have hD5 : MIn x5 lo3 hi3 X3 D.ex (.slice ae ne pe) D.body (.slice ab nb pb) := e3.of_heap hz5 (fun b h1 h2 _ => hk5 b (by omega) (.inr (by omega)))
  have hbd := RowZ.done (w' := V) (l := lo) (u := V.heap.size) hZ hD5 h13.2.1 (by omega) (by omega) (fun b h1 h2 h3 => hV b h1 h2 (by omega)) hrow ⟨by omega, by omega, by omega⟩ ⟨by omega, by omega, by omega, Nat.le_refl _⟩ (by omega)
  rw [hlen1] at hbd
  have hex : KidsIn V lo1 hi1 X1 ex (.slice a1 n1 p1) := k3.of_heap (by omega) (fun b h1 h2 _ => hVW b (by omega) (.inl (by omega)) (by omega) (by omega))
  exact MIn.both (bv2 := .nilFunc) hex hbd (.inl h13.1) ⟨k1, by omega⟩ ⟨by omega, Nat.le_refl _, Nat.le_refl _⟩
end Go.Proofs.YtjmemapkipkocaaDoor
