/-
  Maps from numbers to numbers (or truths) that a call makes: what they hold as a function of the key; the look-up and the store over such a one.
-/
import Derived.Maps.Own
import Derived.Maps.OwnOps
import Derived.Maps.OwnSet
import Derived.Test.YtjiaogbkmpjciaaZa
import Derived.WalkKit
namespace Go.Proofs.Ytjiaogbkmpjciaa
open Go.RowKit Go.Maps M
set_option linter.unusedVariables false
set_option linter.unusedSimpArgs false
theorem wf_inW {x : Int} (h : inW x) : (Lit.int .i64 x).wf = true := WalkArith.wf_i64 h
theorem isKeyI (x : Int) : WideAt.IsKeyLit (.int .i64 x) := trivial
/-- The map's datum holds just what the function says. -/
structure IsFn (D : DataW Unit) (f : Int → Option Lit) : Prop where
  map : IsMap D
  has : ∀ x, Maps.has D (.int .i64 x) = (f x).isSome
  at_ : ∀ x v z, f x = some v → D.atKey (.int .i64 x) z = .lit v
  no : ∀ x z, f x = none → D.atKey (.int .i64 x) z = z
theorem atKey_absent {D : DataW Unit} {k : Lit} (h : Maps.has D k = false) (z : DataW Unit) : D.atKey k z = z := by
  cases D <;> try rfl
  rename_i es
  have h' : es.any (fun p => p.1.sameKey k) = false := h
  have : es.find? (fun p => p.1.sameKey k) = none := by
    rw [List.find?_eq_none]
    intro p hp hq
    have := List.any_eq_false.1 h' p hp
    exact this hq
  unfold DataW.atKey
  simp only [this]
theorem IsFn.nil : IsFn (.map []) (fun _ => none) := ⟨⟨[], rfl⟩, fun _ => rfl, fun _ _ _ h => (by cases h), fun _ _ _ => rfl⟩
theorem IsFn.put {D : DataW Unit} {f : Int → Option Lit} (h : IsFn D f) (k : Int) (v : Lit) : IsFn (D.put (.int .i64 k) (.lit v)) (fun x => if x = k then some v else f x) := by
  have hb : ∀ x, Maps.has (D.put (.int .i64 k) (.lit v)) (.int .i64 x) = (if x = k then some v else f x).isSome := by
    intro x
    by_cases e : x = k
    · subst e; rw [if_pos rfl]; exact has_put_same h.map (isKeyI x) _
    · rw [if_neg e]; exact (has_put_other (fun q => e (by injection q)) _).trans (h.has x)
  refine ⟨?_, hb, ?_, ?_⟩
  · obtain ⟨es, rfl⟩ := h.map; exact ⟨_, rfl⟩
  · intro x u z hx
    by_cases e : x = k
    · subst e; rw [if_pos rfl] at hx; cases hx; exact atKey_put_same h.map (isKeyI x) _ _
    · rw [if_neg e] at hx; exact (atKey_put_other (fun q => e (by injection q)) _ _).trans (h.at_ x u z hx)
  · intro x z hx; exact atKey_absent (by rw [hb x, hx]; rfl) z
theorem IsFn.congr {D : DataW Unit} {f g : Int → Option Lit} (h : IsFn D f) (e : ∀ x, f x = g x) : IsFn D g := by
  have : f = g := funext e
  exact this ▸ h
theorem ownsMap_below {H : Type} {P : Program} {k : TypeId} {R : Value → Option (DataW H × List MemPlace)} {w W : World} {b n : Nat} {D : DataW H} (h : w.ownsMap P k R b n D) (hb : Below w.heap.size w W) : W.ownsMap P k R b n D := by
  have hlt := h.lt
  obtain ⟨es, clock, h1, h2⟩ := h
  exact ⟨es, clock, (hb.block b hlt).trans h1, h2⟩
/-- 'v, ok := m[q]', m : map[int]int. -/
theorem lookup_fn {P : Program} (w : World) {ops : Array Oper} {rest : List Oper} {o : Oper} {a : Act} {Q : Exit → Act → World → Prop}
    (hg : o.guard = none) (m x : Operand) (t : TypeId) (hop : o.op = Op.lookup t m x true) (ti : TypeId) (hti : P.underlying ti = some (.int .i64)) (ht : P.underlying t = some (.map ti ti)) (hz : (zeroValue ti).run P w = .ok (.int .i64 0) w)
    (b n : Nat) (D : DataW Unit) (f : Int → Option Lit) (hm : a.eval m = .map (some b)) (hown : w.ownsMap P ti (plainElem P ti) b n D) (hF : IsFn D f) (q : Int) (hx : a.eval x = .int .i64 q) (hw : (Lit.int .i64 q).wf = true)
    (kb : Bool) (hkb : (f q).isSome = kb) (r : Int) (hr : f q = some (.int .i64 r) ∨ (f q = none ∧ r = 0)) (hK : wpList P ops Q rest (a.put o.dst (.tuple #[.int .i64 r, .bool kb])) w) : wpList P ops Q (o :: rest) a w := by
  refine wpList_lookup_own_ok_int w hg m x t hop ti ti .i64 (int_keyed hti) ht hti hz b n D hm hown _ _ hx (keyOf_int_mk hti hw) ?_
  intro c hat hwc
  rw [hF.has q, hkb]
  have hc : c = r := by
    rcases hr with hr | ⟨hr, rfl⟩
    · have h2 := (hF.at_ q _ (.lit (.int .i64 0)) hr).symm.trans hat
      injection h2 with h3; injection h3 with h4 h5; exact h5.symm
    · have h2 := (hF.no q (.lit (.int .i64 0)) hr).symm.trans hat
      injection h2 with h3; injection h3 with h4 h5; exact h5.symm
  rw [hc]
  exact hK
/-- 'm[q] = r', m : map[int]int. -/
theorem store_fn {P : Program} (w : World) {ops : Array Oper} {rest : List Oper} {o : Oper} {a : Act} {Q : Exit → Act → World → Prop}
    (hg : o.guard = none) (m x v : Operand) (t : TypeId) (hop : o.op = Op.mapUpdate t m x v) (ti te : TypeId) (hti : P.underlying ti = some (.int .i64)) (ht : P.underlying t = some (.map ti te))
    (b n : Nat) (D : DataW Unit) (f : Int → Option Lit) (hm : a.eval m = .map (some b)) (hown : w.ownsMap P ti (plainElem P te) b n D) (hn : n < maxLen) (hF : IsFn D f) (q : Int) (hx : a.eval x = .int .i64 q) (hw : (Lit.int .i64 q).wf = true)
    (val : Value) (l : Lit) (hv : a.eval v = val) (hval : plainElem (H := Unit) P te val = some (.lit l, []))
    (hK : ∀ w', (∃ D', w'.ownsMap P ti (plainElem P te) b (n + 1) D' ∧ IsFn D' (fun x => if x = q then some l else f x)) → w.grownBy w' (some b) → wpList P ops Q rest (a.put o.dst undef) w') : wpList P ops Q (o :: rest) a w := by
  refine wpList_mapUpdate_own w hg m x v t hop ti te (int_keyed hti) ht _ b n D hm hown hn _ _ _ hx hv (keyOf_int_mk hti hw) _ [] hval ?_
  intro w' h1 h2
  exact hK w' ⟨_, h1, hF.put q l⟩ h2
end Go.Proofs.Ytjiaogbkmpjciaa
